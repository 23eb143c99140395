
/- The statements of chapter 14: is a trace small enough? The statements' first call. -/
import Derived.Test.YtpecingkoodmfaaGreatDoorIrR0
import Derived.Deep.LoopGhost
namespace Go.Proofs.YtpecingkoodmfaaGreatDoor.Ir
open Go.RowKit Book Mem
set_option linter.unusedSimpArgs false
set_option linter.unusedVariables false
def lightO (o : O) : Bool := decide (o.stack.length ≤ 60) && decide (o.back.length ≤ 60)
def lightT (t : T) : Bool := (t.outs.take 100).all lightO && (decide (t.ins.length ≤ 120) && (decide (t.outs.length ≤ 60) && decide (t.cells.length ≤ 100)))
theorem lightT_all {t : T} (h : lightT t = true) : t.ins.length ≤ 120 ∧ t.outs.length ≤ 60 ∧ t.cells.length ≤ 100 ∧ ∀ o ∈ t.outs, o.stack.length ≤ 60 ∧ o.back.length ≤ 60 := by
  unfold lightT at h
  simp only [Bool.and_eq_true, decide_eq_true_eq] at h
  obtain ⟨h0, h1, h2, h3⟩ := h
  refine ⟨h1, h2, h3, fun o ho => ?_⟩
  rw [List.take_of_length_le (by omega)] at h0
  have := List.all_eq_true.1 h0 o ho
  unfold lightO at this
  simpa only [Bool.and_eq_true, decide_eq_true_eq] using this
theorem lightT_small {t : T} (h : lightT t = true) : Small t := by
  obtain ⟨h1, h2, h3, h4⟩ := lightT_all h
  exact ⟨by omega, by omega, by omega, fun o ho => by have := h4 o ho; omega⟩
theorem take_at {α : Type} {l : List α} {f : α → Bool} {j : Nat} {x : α} (hx : l[j]? = some x) (hj : j < 100) : (l.take 100).drop j = x :: (l.take 100).drop (j + 1) := by
  have h : (l.take 100)[j]? = some x := by rw [List.getElem?_take, if_pos hj]; exact hx
  have hk := (List.getElem?_eq_some_iff.1 h).1
  rw [List.drop_eq_getElem_cons hk, show (l.take 100)[j] = x from (List.getElem?_eq_some_iff.1 h).2]
set_option maxHeartbeats 8000000 in
theorem light_any {w : World} {t : T} {vi vo vc : Value} (h : ReadsL w vi vo vc t) : Calls Tryz.prog 5 #[trV t vi vo vc] w (Says (.bool (lightT t)) w) := by
  obtain ⟨ai, ci, ao, co, ac, cc, rfl, rfl, rfl⟩ := h.known
  obtain ⟨w1, g, hw1, hg, HG, HB, HZ⟩ := newBox w (trA t (.slice ai t.ins.length ci) (.slice ao t.outs.length co) (.slice ac t.cells.length cc)) 26
  have HR := Lib.hid (h.below HB.out)
  obtain ⟨c0, c1, c2, c3, c4, c5, c6, c7, c8⟩ := cells9 HG.out
  obtain ⟨res, hres⟩ : ∃ res, lightT t = res := ⟨_, rfl⟩
  obtain ⟨st, sl, bks, gr, gb, ins, outs, la, cells⟩ := t
  dsimp only at *
  obtain ⟨m, hm⟩ : ∃ m, ins.length = m := ⟨_, rfl⟩
  obtain ⟨no, hno⟩ : ∃ no, outs.length = no := ⟨_, rfl⟩
  obtain ⟨nc, hnc⟩ : ∃ nc, cells.length = nc := ⟨_, rfl⟩
  have HNO := Lib.hid hno
  have HRB := Lib.hid (show (((outs.take 100).drop 0).all lightO && (decide (m ≤ 120) && (decide (no ≤ 60) && decide (nc ≤ 100)))) = res by rw [← hres, ← hm, ← hno, ← hnc]; rfl)
  rw [hres]
  rw [hm, hno, hnc] at hw1 HR ⊢
  rw [hm] at c5
  rw [hno] at c6
  rw [hnc] at c8
  clear h hm hno hnc hres
  go_enter Tryz.func5, Tryz.ntmps5
  go_wp2
  go_loopg [3] 101 (fun z i wr => ∃ j : Nat, z = 101 - j ∧ j ≤ 100 ∧ i = .int .i64 (j : Int) ∧ wr = w1 ∧ Hid ((((outs.take 100).drop j).all lightO && (decide (m ≤ 120) && (decide (no ≤ 60) && decide (nc ≤ 100)))) = res))
  case atStart => exact ⟨0, rfl, by omega, rfl, rfl, Lib.hid HRB.out⟩
  case round =>
    obtain ⟨j, rfl, hj, rfl, hwr, HJ⟩ := hrel
    subst wr
    by_cases hlt : j < no ∧ j < 100
    · obtain ⟨x, hx⟩ : ∃ x, outs[j]? = some x := ⟨_, List.getElem?_eq_getElem (by rw [HNO.out]; exact hlt.1)⟩
      have HS := Lib.hid (show (lightO x && (((outs.take 100).drop (j + 1)).all lightO && (decide (m ≤ 120) && (decide (no ≤ 60) && decide (nc ≤ 100))))) = res by rw [← HJ.out, take_at (f := lightO) hx hlt.2, List.all_cons, Bool.and_assoc])
      obtain ⟨ad, vs, vb, rfl, -, -, i2, i3, hvs, hvb⟩ := ReadsO.at HR.out.outs hx
      obtain ⟨x0, x1, x2, x3⟩ := x
      obtain ⟨so, sc, rfl⟩ := reads_form hvs
      obtain ⟨to', tc, rfl⟩ := reads_form hvb
      dsimp only at i2 i3 HS
      obtain ⟨ns, hns⟩ : ∃ ns, x2.length = ns := ⟨_, rfl⟩
      obtain ⟨nb, hnb⟩ : ∃ nb, x3.length = nb := ⟨_, rfl⟩
      have HS2 := Lib.hid (show ((decide (ns ≤ 60) && decide (nb ≤ 60)) && (((outs.take 100).drop (j + 1)).all lightO && (decide (m ≤ 120) && (decide (no ≤ 60) && decide (nc ≤ 100))))) = res by rw [← hns, ← hnb]; exact HS.out)
      rw [hns] at i2
      rw [hnb] at i3
      have z0 : (0 : Int) ≤ (j : Int) := by omega
      have z1 : (j : Int) < (no : Int) := by omega
      have z2 : (j : Int) < 100 := by omega
      have z3 : decide (j < no) = true := decide_eq_true hlt.1
      clear HJ hx hvs hvb hns hnb HS
      by_cases q1 : 60 < ns
      · have HF := Lib.hid (show res = false by rw [← HS2.out, decide_eq_false (show ¬ ns ≤ 60 by omega)]; rfl)
        have d1 : decide (60 < (ns : Int)) = true := decide_eq_true (by omega)
        clear HS2 q1 hlt
        go_wp2
        go_ret
        exact ⟨by rw [HF.out]; rfl, HB.out⟩
      · have d1 : decide (60 < (ns : Int)) = false := decide_eq_false (by omega)
        by_cases q2 : 60 < nb
        · have HF := Lib.hid (show res = false by rw [← HS2.out, decide_eq_false (show ¬ nb ≤ 60 by omega)]; simp)
          have d2 : decide (60 < (nb : Int)) = true := decide_eq_true (by omega)
          clear HS2 q1 q2 hlt
          go_wp2
          go_ret
          exact ⟨by rw [HF.out]; rfl, HB.out⟩
        · have d2 : decide (60 < (nb : Int)) = false := decide_eq_false (by omega)
          have HP := Lib.hid (show (((outs.take 100).drop (j + 1)).all lightO && (decide (m ≤ 120) && (decide (no ≤ 60) && decide (nc ≤ 100)))) = res by rw [← HS2.out, decide_eq_true (show ns ≤ 60 by omega), decide_eq_true (show nb ≤ 60 by omega)]; rfl)
          have hj1 : j + 1 ≤ 100 := hlt.2
          have HJ1 := Lib.hid hj1
          clear HS2 q1 q2 hlt hj1
          go_wp2
          go_roundg (101 - (j + 1))
          case measure => omega
          case rel => exact ⟨j + 1, rfl, HJ1.out, by go_num, rfl, HP⟩
    · have HR2 := Lib.hid (show (decide (m ≤ 120) && (decide (no ≤ 60) && decide (nc ≤ 100))) = res by
        have h := HJ.out
        rw [show (outs.take 100).drop j = [] from List.drop_of_length_le (by rw [List.length_take, HNO.out]; omega)] at h
        simpa using h)
      have HBF := HB
      by_cases q0 : j < no
      · have z1 : (j : Int) < (no : Int) := by omega
        have z3 : decide (j < no) = true := decide_eq_true q0
        have z2 : decide ((j : Int) < 100) = false := decide_eq_false (by omega)
        have z4 : decide (j < 100) = false := decide_eq_false (by omega)
        have HNJ := Lib.hid (show j = 100 by omega)
        by_cases p1 : m ≤ 120
        · have f1 : decide ((m : Int) ≤ 120) = true := decide_eq_true (by omega)
          by_cases p2 : no ≤ 60
          · have f2 : decide ((no : Int) ≤ 60) = true := decide_eq_true (by omega)
            by_cases p3 : nc ≤ 100
            · have f3 : decide ((nc : Int) ≤ 100) = true := decide_eq_true (by omega)
              have HF := Lib.hid (show res = true by rw [← HR2.out, decide_eq_true p1, decide_eq_true p2, decide_eq_true p3]; rfl)
              clear HR2 p1 p2 p3 hlt q0
              go_wp2
              go_ret
              exact ⟨by rw [HF.out]; rfl, HB.out⟩
            · have f3 : decide ((nc : Int) ≤ 100) = false := decide_eq_false (by omega)
              have HF := Lib.hid (show res = false by rw [← HR2.out, decide_eq_false p3]; simp)
              have HP3 := Lib.hid f3
              clear HR2 p1 p2 p3 hlt q0
              go_wp2
              go_ret
              exact ⟨by rw [HF.out]; first | rfl | exact retB HP3.out, HB.out⟩
          · have f2 : decide ((no : Int) ≤ 60) = false := decide_eq_false (by omega)
            have HF := Lib.hid (show res = false by rw [← HR2.out, decide_eq_false p2]; simp)
            clear HR2 p1 p2 hlt q0
            go_wp2
            go_ret
            exact ⟨by rw [HF.out]; rfl, HB.out⟩
        · have f1 : decide ((m : Int) ≤ 120) = false := decide_eq_false (by omega)
          have HF := Lib.hid (show res = false by rw [← HR2.out, decide_eq_false p1]; rfl)
          clear HR2 p1 hlt q0
          go_wp2
          go_ret
          exact ⟨by rw [HF.out]; rfl, HB.out⟩
      · have z3 : decide (j < no) = false := decide_eq_false q0
        have z1 : decide ((j : Int) < (no : Int)) = false := decide_eq_false (by omega)
        by_cases p1 : m ≤ 120
        · have f1 : decide ((m : Int) ≤ 120) = true := decide_eq_true (by omega)
          by_cases p2 : no ≤ 60
          · have f2 : decide ((no : Int) ≤ 60) = true := decide_eq_true (by omega)
            by_cases p3 : nc ≤ 100
            · have f3 : decide ((nc : Int) ≤ 100) = true := decide_eq_true (by omega)
              have HF := Lib.hid (show res = true by rw [← HR2.out, decide_eq_true p1, decide_eq_true p2, decide_eq_true p3]; rfl)
              clear HR2 p1 p2 p3 hlt q0
              go_wp2
              go_ret
              exact ⟨by rw [HF.out]; rfl, HB.out⟩
            · have f3 : decide ((nc : Int) ≤ 100) = false := decide_eq_false (by omega)
              have HF := Lib.hid (show res = false by rw [← HR2.out, decide_eq_false p3]; simp)
              have HP3 := Lib.hid f3
              clear HR2 p1 p2 p3 hlt q0
              go_wp2
              go_ret
              exact ⟨by rw [HF.out]; first | rfl | exact retB HP3.out, HB.out⟩
          · have f2 : decide ((no : Int) ≤ 60) = false := decide_eq_false (by omega)
            have HF := Lib.hid (show res = false by rw [← HR2.out, decide_eq_false p2]; simp)
            clear HR2 p1 p2 hlt q0
            go_wp2
            go_ret
            exact ⟨by rw [HF.out]; rfl, HB.out⟩
        · have f1 : decide ((m : Int) ≤ 120) = false := decide_eq_false (by omega)
          have HF := Lib.hid (show res = false by rw [← HR2.out, decide_eq_false p1]; rfl)
          clear HR2 p1 hlt q0
          go_wp2
          go_ret
          exact ⟨by rw [HF.out]; rfl, HB.out⟩
end Go.Proofs.YtpecingkoodmfaaGreatDoor.Ir
