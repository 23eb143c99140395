/- Package ir: lists that are alike (slices.Equal at ints and at instructions, slices.EqualFunc at exits). -/
import Derived.Test.YtpecingkoodmfaaGreatDoorS3
import Derived.Laws.StructEq
import Derived.Deep.LoopGhost
import Derived.BigQuiet
import Derived.Deep.QuietTactic
import Derived.Lib.Hide
import Derived.Test.YtpecingkoodmfaaGreatDoorS4
import Derived.Test.YtpecingkoodmfaaGreatDoorS2
import Derived.RegionTactic
namespace Go.Proofs.YtpecingkoodmfaaGreatDoor.Ir
open Go.RowKit Book Mem
set_option linter.unusedSimpArgs false
set_option linter.unusedVariables false
theorem drewB (w : World) (q : Nat) : Below w.heap.size w (w.drewN q) := ⟨rfl, rfl, rfl, Nat.le_refl _, fun _ _ => rfl⟩
/-- two lists are alike as far as their rests are -/
theorem rest_eq {α : Type} {a b : List α} {j : Nat} {x y : α} (hx : a[j]? = some x) (hy : b[j]? = some y) : (a.drop j = b.drop j) ↔ (x = y ∧ a.drop (j + 1) = b.drop (j + 1)) := by
  have h1 := (List.getElem?_eq_some_iff.1 hx).1
  have h2 := (List.getElem?_eq_some_iff.1 hy).1
  rw [List.drop_eq_getElem_cons h1, List.drop_eq_getElem_cons h2, show a[j] = x from (List.getElem?_eq_some_iff.1 hx).2, show b[j] = y from (List.getElem?_eq_some_iff.1 hy).2, List.cons_eq_cons]
/-- two instructions held against one another -/
theorem ins_equal (x y : I) (w : World) : (Op.equalIn 10000 42 (insV x) (insV y)).run Tryz.prog w = .ok (decide (x = y)) w := by
  obtain ⟨x0, x1, x2, x3, x4⟩ := x
  obtain ⟨y0, y1, y2, y3, y4⟩ := y
  rw [run_equalIn_struct w _ _ _ _ (by kernel_rfl) (by kernel_rfl)]
  rw [show (Tryz.prog.fieldsOf 42).toList = [⟨"Op", 3, 0, false, "", "", 0⟩, ⟨"A", 3, 1, false, "", "", 8⟩, ⟨"B", 3, 2, false, "", "", 16⟩, ⟨"C", 3, 3, false, "", "", 24⟩, ⟨"X", 3, 4, false, "", "", 32⟩] from by kernel_rfl]
  by_cases h0 : x0 = y0
  · subst h0
    by_cases h1 : x1 = y1
    · subst h1
      by_cases h2 : x2 = y2
      · subst h2
        by_cases h3 : x3 = y3
        · subst h3
          by_cases h4 : x4 = y4
          · subst h4
            simp [Op.eqFields, part, Tryz.isAgg3, run_equalIn_int (P := Tryz.prog) _ _ 3 _ .i64 _ _ Tryz.underlying3]
          · simp [Op.eqFields, part, Tryz.isAgg3, run_equalIn_int (P := Tryz.prog) _ _ 3 _ .i64 _ _ Tryz.underlying3, h4]
        · simp [Op.eqFields, part, Tryz.isAgg3, run_equalIn_int (P := Tryz.prog) _ _ 3 _ .i64 _ _ Tryz.underlying3, h3]
      · simp [Op.eqFields, part, Tryz.isAgg3, run_equalIn_int (P := Tryz.prog) _ _ 3 _ .i64 _ _ Tryz.underlying3, h2]
    · simp [Op.eqFields, part, Tryz.isAgg3, run_equalIn_int (P := Tryz.prog) _ _ 3 _ .i64 _ _ Tryz.underlying3, h1]
  · simp [Op.eqFields, part, Tryz.isAgg3, run_equalIn_int (P := Tryz.prog) _ _ 3 _ .i64 _ _ Tryz.underlying3, h0]
theorem ins_eql (x y : I) (w : World) : (binOp .eql 42 (insV x) (insV y)).run Tryz.prog w = .ok (.bool (decide (x = y))) w := by
  rw [run_eql_struct, ins_equal]; rfl
end Go.Proofs.YtpecingkoodmfaaGreatDoor.Ir
/- Package ir: traces that are alike. -/
namespace Go.Proofs.YtpecingkoodmfaaGreatDoor.Ir
open Go.RowKit Book Mem
set_option linter.unusedSimpArgs false
set_option linter.unusedVariables false
theorem O.eq_iff {x y : O} : x = y ↔ x.ip = y.ip ∧ x.steps = y.steps ∧ x.stack = y.stack ∧ x.back = y.back :=
  ⟨fun h => by subst h; exact ⟨rfl, rfl, rfl, rfl⟩, fun h => O.ext' h.1 h.2.1 h.2.2.1 h.2.2.2⟩
end Go.Proofs.YtpecingkoodmfaaGreatDoor.Ir
/- hollowaybook's comparisons of lists and traces, whatever they come to. -/
namespace Go.Proofs.YtpecingkoodmfaaGreatDoor.Ir
open Go.RowKit Book Mem
set_option linter.unusedSimpArgs false
set_option linter.unusedVariables false
set_option maxHeartbeats 4000000 in
theorem sameInts_any {w : World} {va vb : Value} {a b : List Int} (ha : Reads w va a) (hb : Reads w vb b) (hl : a.length ≤ 1000000) :
    Calls Tryz.prog 21 #[va, vb] w fun e w' => e = .returned (.bool (decide (a = b))) ∧ ∃ q, w' = w.drewN q := by
  obtain ⟨ao, ac, rfl, -⟩ := id ha
  obtain ⟨bo, bc, rfl, -⟩ := id hb
  have HA := Lib.hid ha
  have HB := Lib.hid hb
  obtain ⟨n, hn⟩ : ∃ n, a.length = n := ⟨_, rfl⟩
  obtain ⟨m, hm⟩ : ∃ m, b.length = m := ⟨_, rfl⟩
  have HN := Lib.hid hn
  have HM := Lib.hid hm
  rw [hn] at hl HA ⊢
  rw [hm] at HB ⊢
  obtain ⟨res, hres⟩ : ∃ res, decide (a = b) = res := ⟨_, rfl⟩
  have HRS := Lib.hid hres
  rw [hres]
  by_cases hnm : n = m
  case neg =>
    have HF := Lib.hid (show res = false by rw [← hres]; exact decide_eq_false (fun e => hnm (by rw [← hn, ← hm, e])))
    have e1 : ((n : Int) == (m : Int)) = false := by rw [beq_eq_false_iff_ne]; omega
    have e2 : (n == m) = false := by simpa using hnm
    have e3 : ((n : Int) != (m : Int)) = true := by rw [bne_iff_ne]; omega
    clear ha hb hn hm hres hnm
    go_enter Tryz.func21, Tryz.ntmps21
    go_wp2
    go_ret
    exact ⟨by rw [HF.out]; rfl, 0, rfl⟩
  subst hnm
  clear ha hb hn hm hres
  go_enter Tryz.func21, Tryz.ntmps21
  go_wp2
  go_loopg [5] n (fun z i wr => ∃ j q : Nat, z = n - j ∧ j ≤ n ∧ i = .int .i64 (j : Int) ∧ wr = w.drewN q ∧ Hid (decide (a.drop j = b.drop j) = res))
  case atStart => exact ⟨0, 0, rfl, Nat.zero_le _, rfl, rfl, Lib.hid HRS.out⟩
  case round =>
    obtain ⟨j, q, rfl, hj, rfl, hwr, HJ⟩ := hrel
    subst wr
    by_cases hlt : j < n
    · obtain ⟨x, hx⟩ : ∃ x, a[j]? = some x := ⟨_, List.getElem?_eq_getElem (by rw [HN.out]; exact hlt)⟩
      obtain ⟨y, hy⟩ : ∃ y, b[j]? = some y := ⟨_, List.getElem?_eq_getElem (by rw [HM.out]; exact hlt)⟩
      have HS := Lib.hid (show decide (x = y ∧ a.drop (j + 1) = b.drop (j + 1)) = res by rw [← HJ.out]; exact decide_eq_decide.2 (rest_eq hx hy).symm)
      obtain ⟨aa, rfl, ca⟩ := Reads.at' HA.out hx
      obtain ⟨ba, rfl, cb⟩ := Reads.at' HB.out hy
      have z0 : (0 : Int) ≤ (j : Int) := by omega
      have z1 : (j : Int) < (n : Int) := by omega
      clear HJ hx hy
      by_cases hxy : x = y
      · subst hxy
        have HP := Lib.hid (show decide (a.drop (j + 1) = b.drop (j + 1)) = res by rw [← HS.out]; exact decide_eq_decide.2 ⟨fun h => ⟨rfl, h⟩, fun h => h.2⟩)
        clear HS
        go_wp2
        go_quiet (fail)
        go_wp2
        go_roundg (n - (j + 1))
        case measure => omega
        case rel => exact ⟨j + 1, _, rfl, by omega, by go_num, rfl, HP⟩
      · have HF := Lib.hid (show res = false by rw [← HS.out]; exact decide_eq_false (fun h => hxy h.1))
        have e1 : (x == y) = false := by rw [beq_eq_false_iff_ne]; exact hxy
        clear HS hxy
        go_wp2
        go_quiet (fail)
        go_wp2
        go_ret
        exact ⟨by rw [HF.out]; rfl, _, World.drewN_drewN _ _ _⟩
    · obtain rfl : j = n := by omega
      have HF := Lib.hid (show res = true by rw [← HJ.out, drop_end HN.out, drop_end HM.out]; rfl)
      go_wp2
      go_ret
      exact ⟨by rw [HF.out]; rfl, q, rfl⟩
set_option maxHeartbeats 4000000 in
theorem sameCodes_any {w : World} {va vb : Value} {a b : List I} (ha : ReadsI w va a) (hb : ReadsI w vb b) (hl : a.length ≤ 1000000) :
    Calls Tryz.prog 52 #[va, vb] w fun e w' => e = .returned (.bool (decide (a = b))) ∧ ∃ q, w' = w.drewN q := by
  obtain ⟨ao, ac, rfl, -⟩ := id ha
  obtain ⟨bo, bc, rfl, -⟩ := id hb
  have HA := Lib.hid ha
  have HB := Lib.hid hb
  obtain ⟨n, hn⟩ : ∃ n, a.length = n := ⟨_, rfl⟩
  obtain ⟨m, hm⟩ : ∃ m, b.length = m := ⟨_, rfl⟩
  have HN := Lib.hid hn
  have HM := Lib.hid hm
  rw [hn] at hl HA ⊢
  rw [hm] at HB ⊢
  obtain ⟨res, hres⟩ : ∃ res, decide (a = b) = res := ⟨_, rfl⟩
  have HRS := Lib.hid hres
  rw [hres]
  by_cases hnm : n = m
  case neg =>
    have HF := Lib.hid (show res = false by rw [← hres]; exact decide_eq_false (fun e => hnm (by rw [← hn, ← hm, e])))
    have e1 : ((n : Int) == (m : Int)) = false := by rw [beq_eq_false_iff_ne]; omega
    have e2 : (n == m) = false := by simpa using hnm
    have e3 : ((n : Int) != (m : Int)) = true := by rw [bne_iff_ne]; omega
    clear ha hb hn hm hres hnm
    go_enter Tryz.func52, Tryz.ntmps52
    go_wp2
    go_ret
    exact ⟨by rw [HF.out]; rfl, 0, rfl⟩
  subst hnm
  clear ha hb hn hm hres
  go_enter Tryz.func52, Tryz.ntmps52
  go_wp2
  go_loopg [5] n (fun z i wr => ∃ j q : Nat, z = n - j ∧ j ≤ n ∧ i = .int .i64 (j : Int) ∧ wr = w.drewN q ∧ Hid (decide (a.drop j = b.drop j) = res))
  case atStart => exact ⟨0, 0, rfl, Nat.zero_le _, rfl, rfl, Lib.hid HRS.out⟩
  case round =>
    obtain ⟨j, q, rfl, hj, rfl, hwr, HJ⟩ := hrel
    subst wr
    by_cases hlt : j < n
    · obtain ⟨x, hx⟩ : ∃ x, a[j]? = some x := ⟨_, List.getElem?_eq_getElem (by rw [HN.out]; exact hlt)⟩
      obtain ⟨y, hy⟩ : ∃ y, b[j]? = some y := ⟨_, List.getElem?_eq_getElem (by rw [HM.out]; exact hlt)⟩
      have HS := Lib.hid (show decide (x = y ∧ a.drop (j + 1) = b.drop (j + 1)) = res by rw [← HJ.out]; exact decide_eq_decide.2 (rest_eq hx hy).symm)
      obtain ⟨aa, rfl, a0, a1, a2, a3, a4⟩ := ReadsI.at HA.out hx
      obtain ⟨ba, rfl, b0, b1, b2, b3, b4⟩ := ReadsI.at HB.out hy
      have z0 : (0 : Int) ≤ (j : Int) := by omega
      have z1 : (j : Int) < (n : Int) := by omega
      have heq := ins_eql x y
      obtain ⟨x0, x1, x2, x3, x4⟩ := x
      obtain ⟨y0, y1, y2, y3, y4⟩ := y
      dsimp only [insV, insA] at a0 a1 a2 a3 a4 b0 b1 b2 b3 b4 heq
      clear HJ hx hy
      by_cases hxy : ((x0, x1, x2, x3, x4) : I) = (y0, y1, y2, y3, y4)
      · have HP := Lib.hid (show decide (a.drop (j + 1) = b.drop (j + 1)) = res by rw [← HS.out]; exact decide_eq_decide.2 ⟨fun h => ⟨hxy, h⟩, fun h => h.2⟩)
        rw [decide_eq_true hxy] at heq
        clear HS hxy
        go_wp2
        go_quiet (fail)
        go_wp2
        go_roundg (n - (j + 1))
        case measure => omega
        case rel => exact ⟨j + 1, _, rfl, by omega, by go_num, rfl, HP⟩
      · have HF := Lib.hid (show res = false by rw [← HS.out]; exact decide_eq_false (fun h => hxy h.1))
        rw [decide_eq_false hxy] at heq
        clear HS hxy
        go_wp2
        go_quiet (fail)
        go_wp2
        go_ret
        exact ⟨by rw [HF.out]; rfl, _, World.drewN_drewN _ _ _⟩
    · obtain rfl : j = n := by omega
      have HF := Lib.hid (show res = true by rw [← HJ.out, drop_end HN.out, drop_end HM.out]; rfl)
      go_wp2
      go_ret
      exact ⟨by rw [HF.out]; rfl, q, rfl⟩
set_option maxHeartbeats 8000000 in
theorem sameExits_any {w : World} {va vb : Value} {a b : List O} (ha : ReadsO w va a) (hb : ReadsO w vb b) (hl : a.length ≤ 1000000) (hs : ∀ o ∈ a, o.stack.length ≤ 1000000 ∧ o.back.length ≤ 1000000) :
    Calls Tryz.prog 53 #[va, vb] w (Says (.bool (decide (a = b))) w) := by
  obtain ⟨ao, ac, rfl, -⟩ := id ha
  obtain ⟨bo, bc, rfl, -⟩ := id hb
  have HA := Lib.hid ha
  have HB := Lib.hid hb
  have HSM := Lib.hid hs
  obtain ⟨n, hn⟩ : ∃ n, a.length = n := ⟨_, rfl⟩
  obtain ⟨m, hm⟩ : ∃ m, b.length = m := ⟨_, rfl⟩
  have HN := Lib.hid hn
  have HM := Lib.hid hm
  rw [hn] at hl HA ⊢
  rw [hm] at HB ⊢
  obtain ⟨res, hres⟩ : ∃ res, decide (a = b) = res := ⟨_, rfl⟩
  have HRS := Lib.hid hres
  rw [hres]
  by_cases hnm : n = m
  case neg =>
    have HF := Lib.hid (show res = false by rw [← hres]; exact decide_eq_false (fun e => hnm (by rw [← hn, ← hm, e])))
    have e1 : ((n : Int) == (m : Int)) = false := by rw [beq_eq_false_iff_ne]; omega
    have e2 : (n == m) = false := by simpa using hnm
    have e3 : ((n : Int) != (m : Int)) = true := by rw [bne_iff_ne]; omega
    clear ha hb hs hn hm hres hnm
    go_enter Tryz.func53, Tryz.ntmps53
    go_wp2
    go_ret
    exact ⟨by rw [HF.out]; rfl, Below.refl _ _⟩
  subst hnm
  clear ha hb hs hn hm hres
  go_enter Tryz.func53, Tryz.ntmps53
  go_wp2
  go_loopg [5] n (fun z i wr => ∃ j : Nat, z = n - j ∧ j ≤ n ∧ i = .int .i64 (j : Int) ∧ Hid (Below w.heap.size w wr) ∧ Hid (decide (a.drop j = b.drop j) = res))
  case atStart => exact ⟨0, rfl, Nat.zero_le _, rfl, Lib.hid (Below.refl _ _), Lib.hid HRS.out⟩
  case round =>
    obtain ⟨j, rfl, hj, rfl, HBR, HJ⟩ := hrel
    by_cases hlt : j < n
    · obtain ⟨x, hx⟩ : ∃ x, a[j]? = some x := ⟨_, List.getElem?_eq_getElem (by rw [HN.out]; exact hlt)⟩
      obtain ⟨y, hy⟩ : ∃ y, b[j]? = some y := ⟨_, List.getElem?_eq_getElem (by rw [HM.out]; exact hlt)⟩
      have HS := Lib.hid (show decide ((x.ip = y.ip ∧ x.steps = y.steps ∧ x.stack = y.stack ∧ x.back = y.back) ∧ a.drop (j + 1) = b.drop (j + 1)) = res by rw [← HJ.out]; exact decide_eq_decide.2 (by rw [rest_eq hx hy, O.eq_iff]))
      have HXS := Lib.hid (HSM.out x (List.mem_of_getElem? hx))
      obtain ⟨aa, vs, vt, rfl, a0, a1, a2, a3, hvs, hvt⟩ := ReadsO.at (HA.out.below HBR.out) hx
      obtain ⟨ba, vu, vv, rfl, b0, b1, b2, b3, hvu, hvv⟩ := ReadsO.at (HB.out.below HBR.out) hy
      have CS := fun k => Lib.hid (sameInts_any (hvs.below (drewB wr k)) (hvu.below (drewB wr k)) HXS.out.1)
      have CB := fun k => Lib.hid (sameInts_any (hvt.below (drewB wr k)) (hvv.below (drewB wr k)) HXS.out.2)
      obtain ⟨x0, x1, x2, x3⟩ := x
      obtain ⟨y0, y1, y2, y3⟩ := y
      obtain ⟨so, sc, rfl⟩ := reads_form hvs
      obtain ⟨to', tc, rfl⟩ := reads_form hvt
      obtain ⟨uo, uc, rfl⟩ := reads_form hvu
      obtain ⟨vo, vc, rfl⟩ := reads_form hvv
      dsimp only at *
      have z0 : (0 : Int) ≤ (j : Int) := by omega
      have z1 : (j : Int) < (n : Int) := by omega
      clear HJ hx hy hvs hvt hvu hvv
      by_cases q0 : x0 = y0
      case neg =>
        have HF := Lib.hid (show res = false by rw [← HS.out]; exact decide_eq_false (fun h => q0 h.1.1))
        have e0 : (x0 == y0) = false := by rw [beq_eq_false_iff_ne]; exact q0
        clear HS q0 CS CB
        go_wp2
        go_quiet (fail)
        go_wp2
        go_ret
        exact ⟨by rw [HF.out]; rfl, HBR.out.trans ((drewB wr _).mono HBR.out.size)⟩
      subst q0
      by_cases q1 : x1 = y1
      case neg =>
        have HF := Lib.hid (show res = false by rw [← HS.out]; exact decide_eq_false (fun h => q1 h.1.2.1))
        have e0 : (x1 == y1) = false := by rw [beq_eq_false_iff_ne]; exact q1
        clear HS q1 CS CB
        go_wp2
        go_quiet (fail)
        go_wp2
        go_ret
        exact ⟨by rw [HF.out]; rfl, HBR.out.trans ((drewB wr _).mono HBR.out.size)⟩
      subst q1
      by_cases q2 : x2 = y2
      case neg =>
        have HF := Lib.hid (show res = false by rw [← HS.out]; exact decide_eq_false (fun h => q2 h.1.2.2.1))
        rw [decide_eq_false q2] at CS
        clear HS q2 CB
        go_wp2
        go_quiet ((go_at_call 21; exact Calls.quiet_of (CS _).out))
        go_wp2
        go_ret
        exact ⟨by rw [HF.out]; rfl, HBR.out.trans ((drewB wr _).mono HBR.out.size)⟩
      rw [decide_eq_true q2] at CS
      by_cases q3 : x3 = y3
      case neg =>
        have HF := Lib.hid (show res = false by rw [← HS.out]; exact decide_eq_false (fun h => q3 h.1.2.2.2))
        rw [decide_eq_false q3] at CB
        clear HS q2 q3
        go_wp2
        go_quiet (first | (go_at_call 21; with_reducible exact Calls.quiet_of (CS _).out) | (go_at_call 21; with_reducible exact Calls.quiet_of (CB _).out))
        go_wp2
        go_ret
        exact ⟨by rw [HF.out]; rfl, HBR.out.trans ((drewB wr _).mono HBR.out.size)⟩
      rw [decide_eq_true q3] at CB
      have HP := Lib.hid (show decide (a.drop (j + 1) = b.drop (j + 1)) = res by rw [← HS.out]; exact decide_eq_decide.2 ⟨fun h => ⟨⟨rfl, rfl, q2, q3⟩, h⟩, fun h => h.2⟩)
      clear HS q2 q3
      go_wp2
      go_quiet (first | (go_at_call 21; with_reducible exact Calls.quiet_of (CS _).out) | (go_at_call 21; with_reducible exact Calls.quiet_of (CB _).out))
      go_wp2
      go_roundg (n - (j + 1))
      case measure => omega
      case rel => exact ⟨j + 1, rfl, by omega, by go_num, Lib.hid (HBR.out.trans ((drewB wr _).mono HBR.out.size)), HP⟩
    · obtain rfl : j = n := by omega
      have HF := Lib.hid (show res = true by rw [← HJ.out, drop_end HN.out, drop_end HM.out]; rfl)
      go_wp2
      go_ret
      exact ⟨by rw [HF.out]; rfl, HBR.out⟩
end Go.Proofs.YtpecingkoodmfaaGreatDoor.Ir
/- A trace's box is written whole, or one of its cells. -/
namespace Go.Proofs.YtpecingkoodmfaaGreatDoor.Ir
open Go.RowKit Book Mem
set_option linter.unusedVariables false
abbrev zero9 : Array Value := #[.int .i64 0, .int .i64 0, .int .i64 0, .int .i64 0, .int .i64 0, .slice none 0 0, .slice none 0 0, .int .i64 0, .slice none 0 0]
section
variable {ops : Array Oper} {rest : List Oper} {o : Oper} {a : Act} {w : World} {Q : Exit → Act → World → Prop}
theorem st_tr (hw : Region.wanted o (yielded ops a.tmps) = true) (x y : Operand) (ho : o.op = .store 26 x y) (g : Nat) (cs : Array Value) (hx : a.eval x = .pointer (some ⟨g, 0, none⟩)) (hy : a.eval y = .agg cs) (hcs : cs.size = 9) (old : Array Value) (hold : old.size = 9) (hg : w.heap[g]? = some (.cells old 26 (0, 0))) (h1 : cs.all (·.oneCell') = true)
    (h : ∀ w', w'.heap[g]? = some (.cells cs 26 (0, 0)) → Stirred w w' [g] → wpList Tryz.prog ops Q rest (a.put o.dst undef) w') : wpList Tryz.prog ops Q (o :: rest) a w :=
  wpList_setbox hw _ x y ho g cs hx hy old _ hg (by rw [tr_size, hcs]) (by rw [hold, hcs]) h1 h
end
end Go.Proofs.YtpecingkoodmfaaGreatDoor.Ir
/- Kept lists whose elements have several cells (structs): the turn of BookPlain; no program in sight. -/
namespace Go.Proofs.YtpecingkoodmfaaGreatDoor.Book.Wide
open Go.RowKit
set_option linter.unusedVariables false
/-- a slice value whose elements, of sz cells each, have these cells: of no room, wherever it leads to, or in a row that is its own -/
def OwnsK (w : World) (B E sz : Nat) (v : Value) (xs : List Value) : Prop :=
  (∃ ao, v = .slice ao 0 0 ∧ xs = []) ∨
  ∃ g n cap cur, v = .slice (some ⟨g, 0, none⟩) n cap ∧ 0 < cap ∧ B ≤ g ∧ w.heap[g]? = some (.cells cur E (0, 0)) ∧ xs.length = n * sz ∧ n ≤ cap ∧ cap ≤ maxLen ∧ cur.size = cap * sz ∧ cur.toList.take (n * sz) = xs
theorem OwnsK.of_row {w : World} {B E sz n : Nat} {v : Value} {xs : List Value} (h : w.ownsRow B E sz v n xs) : OwnsK w B E sz v xs := by
  obtain ⟨hl, h⟩ := h
  rcases h with ⟨h1, h2⟩ | ⟨g, cap, cur, h1, h2, h3, h4, h5, h6, h7⟩
  · subst h2
    rw [Nat.zero_mul] at hl
    exact .inl ⟨none, h1, List.eq_nil_of_length_eq_zero hl⟩
  · by_cases h0 : cap = 0
    · have hn : n = 0 := by omega
      subst h0; subst hn
      rw [Nat.zero_mul] at hl
      exact .inl ⟨_, h1, List.eq_nil_of_length_eq_zero hl⟩
    · exact .inr ⟨g, n, cap, cur, h1, by omega, h2, h3, hl, h4, h5, h6, h7⟩
theorem OwnsK.row_of {w : World} {B E sz g n cap : Nat} {xs : List Value} (h : OwnsK w B E sz (.slice (some ⟨g, 0, none⟩) n cap) xs) (h0 : 0 < cap) : w.ownsRow B E sz (.slice (some ⟨g, 0, none⟩) n cap) n xs := by
  rcases h with ⟨ao, h1, h2⟩ | ⟨g', n', cap', cur, h1, h0', h2, h3, hl, h4, h5, h6, h7⟩
  · simp only [Value.slice.injEq] at h1; omega
  · simp only [Value.slice.injEq, Option.some.injEq, Addr.mk.injEq, and_true] at h1
    obtain ⟨rfl, rfl, rfl⟩ := h1
    exact ⟨hl, .inr ⟨g, cap, cur, rfl, h2, h3, h4, h5, h6, h7⟩⟩
theorem OwnsK.block {w : World} {B E sz : Nat} {v : Value} {xs : List Value} (h : OwnsK w B E sz v xs) : ∀ k, (blk v) = some k → B ≤ k ∧ k < w.heap.size ∧ ∃ cur, w.heap[k]? = some (.cells cur E (0, 0)) := by
  intro k hk
  rcases h with ⟨ao, rfl, _⟩ | ⟨g, n, cap, cur, rfl, h0, hb, hg, _⟩
  · rw [blk_zero] at hk; cases hk
  · rw [blk_pos h0] at hk
    simp at hk
    subst hk
    exact ⟨hb, (Array.getElem?_eq_some_iff.1 hg).1, cur, hg⟩
theorem OwnsK.same {w w' : World} {B E sz : Nat} {v : Value} {xs : List Value} (h : OwnsK w B E sz v xs) (hs : ∀ k, (blk v) = some k → w'.heap[k]? = w.heap[k]?) : OwnsK w' B E sz v xs := by
  rcases h with h2 | ⟨g, n, cap, cur, h1, h0, h2, h3, h4⟩
  · exact .inl h2
  · refine .inr ⟨g, n, cap, cur, h1, h0, h2, ?_, h4⟩
    rw [hs g (by rw [h1, blk_pos h0])]; exact h3
theorem OwnsK.touch {w w' : World} {B E sz : Nat} {v : Value} {xs : List Value} {bs : List Nat} (h : OwnsK w B E sz v xs) (ht : Stirred w w' bs) (hn : ∀ k, (blk v) = some k → k ∉ bs) : OwnsK w' B E sz v xs :=
  h.same fun k hk => ht.block k (h.block k hk).2.1 (hn k hk)
theorem OwnsK.below {w w' : World} {B E sz : Nat} {v : Value} {xs : List Value} (h : OwnsK w B E sz v xs) (hb : Below w.heap.size w w') : OwnsK w' B E sz v xs :=
  h.touch (Stirred.of_below hb []) (fun _ _ => List.not_mem_nil)
theorem OwnsK.from {w : World} {B B' E sz : Nat} {v : Value} {xs : List Value} (h : OwnsK w B E sz v xs) (hb : B' ≤ B) : OwnsK w B' E sz v xs := by
  rcases h with h2 | ⟨g, n, cap, cur, h1, h0, h2, h3⟩
  · exact .inl h2
  · exact .inr ⟨g, n, cap, cur, h1, h0, by omega, h3⟩
theorem OwnsK.empty (w : World) (B E sz : Nat) (ao : Option Addr) : OwnsK w B E sz (.slice ao 0 0) [] := .inl ⟨ao, rfl, rfl⟩
theorem OwnsK.nil (w : World) (B E sz : Nat) : OwnsK w B E sz (.slice none 0 0) [] := .inl ⟨none, rfl, rfl⟩
theorem OwnsK.form {w : World} {B E sz : Nat} {v : Value} {xs : List Value} (h : OwnsK w B E sz v xs) : (∃ ao, v = .slice ao 0 0 ∧ xs = []) ∨ ∃ g n cap, v = .slice (some ⟨g, 0, none⟩) n cap ∧ 0 < cap ∧ xs.length = n * sz := by
  rcases h with h1 | ⟨g, n, cap, cur, h1, h0, _, _, hl, _⟩
  · exact .inl h1
  · exact .inr ⟨g, n, cap, h1, h0, hl⟩
theorem OwnsK.slice {w : World} {B E sz : Nat} {v : Value} {xs : List Value} (h : OwnsK w B E sz v xs) {n : Nat} (hn : xs.length = n * sz) (hz : 0 < sz) : ∃ ao cap, v = .slice ao n cap := by
  rcases h.form with ⟨ao, h1, h2⟩ | ⟨g, n', cap, h1, _, hl⟩
  · subst h2
    have : n = 0 := by
      rcases Nat.eq_zero_or_pos n with h0 | h0
      · exact h0
      · have := Nat.mul_pos h0 hz; simp at hn; omega
    exact ⟨ao, 0, by rw [h1, this]⟩
  · have : n' = n := Nat.eq_of_mul_eq_mul_right hz (by omega)
    exact ⟨_, _, by rw [h1, this]⟩
theorem OwnsK.row {w : World} {B E sz : Nat} {v : Value} {xs : List Value} (h : OwnsK w B E sz v xs) {n : Nat} (hn : xs.length = n * sz) (hz : 0 < sz) (h0 : 0 < n) : ∃ g cap, v = .slice (some ⟨g, 0, none⟩) n cap ∧ (∀ j x, xs[j]? = some x → w.cell? ⟨g, j, none⟩ = some x) ∧ (∀ j, w.frozen? ⟨g, j, none⟩ = false) ∧ n ≤ cap := by
  rcases h with ⟨ao, h1, h2⟩ | ⟨g, n', cap, cur, h1, h0', h2, h3, hl, h4, h5, h6, h7⟩
  · subst h2
    have := Nat.mul_pos h0 hz
    simp at hn; omega
  · have e : n' = n := Nat.eq_of_mul_eq_mul_right hz (by omega)
    subst e
    refine ⟨g, cap, h1, fun j x hx => ?_, fun j => by simp [World.frozen?, h3], h4⟩
    have hj : j < xs.length := (List.getElem?_eq_some_iff.1 hx).1
    rw [← h7, List.getElem?_take, if_pos (by omega)] at hx
    simp [World.cell?, h3]
    simpa using hx
theorem OwnsK.capAt {w : World} {B E sz g n cap : Nat} {xs : List Value} (h : OwnsK w B E sz (.slice (some ⟨g, 0, none⟩) n cap) xs) (h0 : 0 < xs.length) : blk (.slice (some ⟨g, 0, none⟩) n cap) = some g := by
  rcases h with ⟨ao, h1, h2⟩ | ⟨g', n', cap', cur, h1, h0', _⟩
  · rw [h2] at h0; exact absurd h0 (Nat.lt_irrefl 0)
  · simp only [Value.slice.injEq, Option.some.injEq, Addr.mk.injEq, and_true] at h1
    exact blk_pos (by omega)
/-- a store into a row of one's own -/
theorem OwnsK.stored {w : World} {B E sz g n cap : Nat} {xs : List Value} (h : OwnsK w B E sz (.slice (some ⟨g, 0, none⟩) n cap) xs) (j : Nat) (u : Value) : OwnsK (w.setCell ⟨g, j, none⟩ u) B E sz (.slice (some ⟨g, 0, none⟩) n cap) (xs.set j u) := by
  rcases h with ⟨ao, h1, h2⟩ | ⟨g', n', cap', cur, h1, h0, h2, h3, hl, h4, h5, h6, h7⟩
  · subst h2
    exact .inl ⟨ao, h1, rfl⟩
  · simp only [Value.slice.injEq, Option.some.injEq, Addr.mk.injEq, and_true] at h1
    obtain ⟨rfl, rfl, rfl⟩ := h1
    refine .inr ⟨g, n, cap, cur.setIfInBounds j u, rfl, h0, h2, ?_, by simpa using hl, h4, h5, by simpa using h6, ?_⟩
    · simp [World.setCell, Array.getElem?_modify, h3]
    · rw [Array.toList_setIfInBounds, List.take_set, h7]
section
variable {P : Program} (w : World)
/-- 'append(v, news...)' onto a row of one's own: the longer slice owns its row, and the shorter one still owns what it had -/
theorem run_append_two (B : Nat) (t ty E sz : TypeId) (i : TypeInfo) (z : Value) (bytes : Nat) (ht : P.underlying t = some (.slice E)) (hi : P.info? E = some i) (hz : i.zero = some z)
    (hsize : i.size = sz) (hby : i.bytes = bytes) (hzs : z.cells.size = sz) (hsz : 0 < sz)
    (v : Value) (n : Nat) (xs : List Value) (hown : OwnsK w B E sz v xs) (hn : xs.length = n * sz)
    (a : Addr) (m c : Nat) (news : List Value) (hl : news.length = m * sz) (hnews : ∀ j u, news[j]? = some u → w.cell? (a.add j) = some u) (h1 : ∀ u ∈ news, u.oneCell' = true)
    (h0 : 0 < m) (h63 : n + m ≤ maxLen) (hbytes : (n + m) * bytes ≤ 140737488355328) (hbase : B ≤ w.heap.size) :
    ∃ v' w', (Builtin.append_ #[t, t] ty #[v, .slice (some a) m c]).run P w = .ok v' w' ∧ OwnsK w' B E sz v' (xs ++ news) ∧ OwnsK w' B E sz v xs ∧ Stirred w w' (blk v).toList ∧ ((blk v') = (blk v) ∨ ∃ k, (blk v') = some k ∧ w.heap.size ≤ k) := by
  have hnl : 0 < news.length := by rw [hl]; exact Nat.mul_pos h0 hsz
  have hnew : ∀ {w' : World} {v' : Value}, OwnsK w' w.heap.size E sz v' (xs ++ news) → ∃ k, (blk v') = some k ∧ w.heap.size ≤ k := fun {w' v'} h => by
    rcases h.form with ⟨_, _, h2⟩ | ⟨g, n', cap, h2, hc, _⟩
    · rw [(List.append_eq_nil_iff.1 h2).2] at hnl
      exact absurd hnl (Nat.lt_irrefl 0)
    · subst h2
      exact ⟨g, blk_pos hc, (h.block g (blk_pos hc)).1⟩
  rcases hown.form with ⟨ao, rfl, rfl⟩ | ⟨g, n', cap, rfl, hc0, hl'⟩
  · have hn0 : n = 0 := by
      rcases Nat.eq_zero_or_pos n with h | h
      · exact h
      · have := Nat.mul_pos h hsz; simp at hn; omega
    subst hn0
    cases ao with
    | none =>
      obtain ⟨v', w', hr, h2, h3, h4⟩ := run_append_own (P := P) w w.heap.size t ty E i z sz bytes ht hi hz hsize hby hzs hsz (.slice none 0 0) 0 [] (World.ownsRow_nil _ _ _ _) a m c news hl hnews h1 h63 hbytes (Nat.le_refl _)
      have h5 : OwnsK w' w.heap.size E sz v' ([] ++ news) := OwnsK.of_row h2
      exact ⟨v', w', hr, h5.from hbase, OwnsK.nil _ _ _ _, Stirred.of_grown h3, .inr (hnew h5)⟩
    | some b =>
      obtain ⟨v', w', hr, h2, h3⟩ := run_append_arg_grows (P := P) w t ty E i z sz bytes ht hi hz hsize hby hzs hsz b 0 0 [] (by simp) (fun j u hu => by cases hu) a m c news hl hnews (by omega) h63 hbytes
      have h5 : OwnsK w' w.heap.size E sz v' ([] ++ news) := OwnsK.of_row h2
      exact ⟨v', w', hr, h5.from hbase, OwnsK.empty _ _ _ _ _, (Stirred.of_grown h3).more (fun _ h => by cases h), .inr (hnew h5)⟩
  · have e : n' = n := Nat.eq_of_mul_eq_mul_right hsz (by omega)
    subst e
    have hrow := hown.row_of hc0
    by_cases hroom : n' + m ≤ cap
    · obtain ⟨w', hr, h2, h3⟩ := run_append_fits (P := P) w B t ty E i sz ht hi hsize g n' cap xs hrow a m c news hl hnews h1 hroom
      refine ⟨_, w', hr, OwnsK.of_row h2, ?_, by rw [blk_pos hc0]; exact Stirred.of_grown h3, .inl (by rw [blk_pos hc0, blk_pos hc0])⟩
      rcases h2.2 with ⟨e, _⟩ | ⟨g', cap', cur, e, q2, q3, q4, q5, q6, q7⟩
      · cases e
      · simp only [Value.slice.injEq, Option.some.injEq, Addr.mk.injEq, and_true, true_and] at e
        obtain ⟨rfl, rfl⟩ := e
        refine .inr ⟨g, n', cap, cur, rfl, hc0, q2, q3, hn, by omega, q5, q6, ?_⟩
        have := congrArg (List.take xs.length) q7
        rw [List.take_take, List.take_left] at this
        rw [show min xs.length ((n' + m) * sz) = n' * sz from by rw [Nat.add_mul]; omega] at this
        exact this
    · obtain ⟨v', w', hr, h2, h3⟩ := run_append_arg_grows (P := P) w t ty E i z sz bytes ht hi hz hsize hby hzs hsz ⟨g, 0, none⟩ n' cap xs hn (fun j u hu => by
        have hj : j < xs.length := (List.getElem?_eq_some_iff.1 hu).1
        have := World.ownsRow.cellAt hrow j (by omega)
        rw [hu] at this
        rw [add_row]; exact this) a m c news hl hnews (by omega) h63 hbytes
      have h5 : OwnsK w' w.heap.size E sz v' (xs ++ news) := OwnsK.of_row h2
      exact ⟨v', w', hr, h5.from hbase, hown.touch (Stirred.of_grown h3) (fun _ _ => List.not_mem_nil), (Stirred.of_grown h3).more (fun _ h => by cases h), .inr (hnew h5)⟩
end
end Go.Proofs.YtpecingkoodmfaaGreatDoor.Book.Wide
/- Cells of lists of structs, one behind the other; no program in sight. -/
namespace Go.Proofs.YtpecingkoodmfaaGreatDoor.Book
theorem flat_length {α : Type} {enc : α → List Value} {k : Nat} (h : ∀ a, (enc a).length = k) (es : List α) : (es.flatMap enc).length = es.length * k := by
  induction es with
  | nil => simp
  | cons a r ih => rw [List.flatMap_cons, List.length_append, h, ih, List.length_cons, Nat.add_mul, Nat.one_mul, Nat.add_comm]
theorem flat_at {α : Type} {enc : α → List Value} {k : Nat} (h : ∀ a, (enc a).length = k) {es : List α} {j : Nat} {a : α} (ha : es[j]? = some a) {i : Nat} {u : Value} (hu : (enc a)[i]? = some u) : (es.flatMap enc)[j * k + i]? = some u := by
  induction es generalizing j with
  | nil => cases ha
  | cons b r ih =>
    rw [List.flatMap_cons]
    have hi : i < k := by have := (List.getElem?_eq_some_iff.1 hu).1; rw [h] at this; exact this
    cases j with
    | zero =>
      simp at ha
      subst ha
      rw [Nat.zero_mul, Nat.zero_add, List.getElem?_append_left (by rw [h]; exact hi)]
      exact hu
    | succ j =>
      rw [List.getElem?_append_right (by rw [h, Nat.add_mul]; omega), h, show (j + 1) * k + i - k = j * k + i by rw [Nat.add_mul]; omega]
      exact ih ha
end Go.Proofs.YtpecingkoodmfaaGreatDoor.Book
/- Lists of structs: 'append' of what is read, wherever it lies; shorter lists; no program in sight. -/
namespace Go.Proofs.YtpecingkoodmfaaGreatDoor.Book.Wide
open Go.RowKit
set_option linter.unusedVariables false
/-- what a slice reads as, cell for cell, wherever it lies -/
def ReadsK (w : World) (sz : Nat) (v : Value) (ys : List Value) : Prop := ∃ ao n cap, v = .slice ao n cap ∧ ys.length = n * sz ∧ ∀ j x, ys[j]? = some x → ∃ a, ao = some a ∧ w.cell? (a.add j) = some x
theorem ReadsK.below {w w' : World} {sz : Nat} {v : Value} {ys : List Value} (h : ReadsK w sz v ys) (hb : Below w.heap.size w w') : ReadsK w' sz v ys := by
  obtain ⟨ao, n, cap, e, hl, hc⟩ := h
  refine ⟨ao, n, cap, e, hl, fun j x hj => ?_⟩
  obtain ⟨a, ha, hx⟩ := hc j x hj
  exact ⟨a, ha, by rw [hb.cell (p := a.add j) (World.block_lt_of_cell? w _ hx)]; exact hx⟩
/-- one element that a block is -/
theorem ReadsK.of_whole {w : World} {g sz T : Nat} {cs : List Value} {cap : Nat} (h : w.heap[g]? = some (.cells cs.toArray T (0, 0))) (hl : cs.length = sz) : ReadsK w sz (.slice (some ⟨g, 0, none⟩) 1 cap) cs :=
  ⟨_, 1, cap, rfl, by omega, fun j x hj => ⟨_, rfl, by rw [add_row]; exact whole_cell h (by simpa using hj)⟩⟩
/-- a shorter list in the same row -/
theorem OwnsK.shorter {w : World} {B E sz n m cap : Nat} {ao : Option Addr} {xs : List Value} (h : OwnsK w B E sz (.slice ao n cap) xs) (hsz : 0 < sz) (hm : m ≤ n) : OwnsK w B E sz (.slice ao m cap) (xs.take (m * sz)) := by
  rcases h with ⟨a, h1, h2⟩ | ⟨g, n', cap', cur, h1, h0, h2, h3, hl, h4, h5, h6, h7⟩
  · simp only [Value.slice.injEq] at h1
    obtain ⟨rfl, rfl, rfl⟩ := h1
    obtain rfl : m = 0 := by omega
    subst h2
    exact .inl ⟨_, rfl, by simp⟩
  · simp only [Value.slice.injEq] at h1
    obtain ⟨rfl, rfl, rfl⟩ := h1
    have hle : m * sz ≤ n * sz := Nat.mul_le_mul_right _ hm
    refine .inr ⟨g, m, cap, cur, rfl, h0, h2, h3, by rw [List.length_take]; omega, by omega, h5, h6, ?_⟩
    have := congrArg (List.take (m * sz)) h7
    rw [List.take_take, Nat.min_eq_left hle] at this
    exact this
/-- 'append(v, u...)' onto a list of one's own -/
theorem wp_append_reads {P : Program} (w : World) {o : Oper} {a : Act} {K : Act → World → Prop} {Q : Exit → Act → World → Prop} (s x : Operand) (t : TypeId)
    (ho : o.op = .call { callee := .builtin .append, args := #[s, x], argTypes := #[t, t] })
    (B E sz : Nat) (i : TypeInfo) (z : Value) (bytes : Nat) (ht : P.underlying t = some (.slice E)) (hi : P.info? E = some i) (hz : i.zero = some z) (hsize : i.size = sz) (hby : i.bytes = bytes) (hzs : z.cells.size = sz) (hsz : 0 < sz)
    (v : Value) (n : Nat) (xs : List Value) (hs : a.eval s = v) (hown : OwnsK w B E sz v xs) (hn : xs.length = n * sz)
    (u : Value) (m : Nat) (ys : List Value) (hx : a.eval x = u) (hu : ReadsK w sz u ys) (hm : ys.length = m * sz) (h1 : ∀ y ∈ ys, y.oneCell' = true)
    (h63 : n + m ≤ maxLen) (hbytes : (n + m) * bytes ≤ 140737488355328) (hbase : B ≤ w.heap.size)
    (h : ∀ v' w', OwnsK w' B E sz v' (xs ++ ys) → OwnsK w' B E sz v xs → Stirred w w' (blk v).toList → ((blk v') = (blk v) ∨ ∃ k, (blk v') = some k ∧ w.heap.size ≤ k) → K (a.put o.dst v') w') : o.wp P a w K Q := by
  obtain ⟨uo, m', uc, rfl, hl, hc⟩ := hu
  obtain rfl : m' = m := Nat.eq_of_mul_eq_mul_right hsz (by omega)
  by_cases h0 : m' = 0
  · subst h0
    have hy : ys = [] := List.eq_nil_of_length_eq_zero (by omega)
    subst hy
    obtain ⟨vo, vc, hle, rfl⟩ : ∃ vo vc, n ≤ vc ∧ v = .slice vo n vc := by
      rcases hown with ⟨ao, h2, h3⟩ | ⟨g, n', cap, cur, h2, h0, _, _, hl', h3, _⟩
      · subst h3
        have : n = 0 := by
          rcases Nat.eq_zero_or_pos n with h | h
          · exact h
          · have := Nat.mul_pos h hsz; simp at hn; omega
        exact ⟨ao, 0, by omega, by rw [h2, this]⟩
      · have : n' = n := Nat.eq_of_mul_eq_mul_right hsz (by omega)
        exact ⟨some ⟨g, 0, none⟩, cap, by omega, by rw [h2, this]⟩
    have hr := run_append_empty (P := P) w t o.type E i ht hi vo uo n vc uc hle
    unfold Oper.wp execOp
    simp only [ho, resolve, invoke, builtin, Sem.run_bind, Sem.run_pure, Result.andThen_ok, List.map_toArray, List.map_cons, List.map_nil, hs, hx, hr]
    exact h _ w (by rw [List.append_nil]; exact hown) hown (Stirred.refl _ _) (.inl rfl)
  · have hpos : 0 < ys.length := by rw [hm]; exact Nat.mul_pos (by omega) hsz
    obtain ⟨a0, rfl, _⟩ := hc 0 ys[0] (List.getElem?_eq_getElem hpos)
    obtain ⟨v', w', hr, h2, h3, h4, h5⟩ := run_append_two (P := P) w B t o.type E sz i z bytes ht hi hz hsize hby hzs hsz v n xs hown hn a0 m' uc ys hm (fun j y hj => by
      obtain ⟨a', e', hc'⟩ := hc j y hj
      simp only [Option.some.injEq] at e'
      subst e'
      exact hc') h1 (by omega) h63 hbytes hbase
    unfold Oper.wp execOp
    simp only [ho, resolve, invoke, builtin, Sem.run_bind, Sem.run_pure, Result.andThen_ok, List.map_toArray, List.map_cons, List.map_nil, hs, hx, hr]
    exact h v' w' h2 h3 h4 h5
theorem wpList_append_reads {P : Program} {w : World} {ops : Array Oper} {rest : List Oper} {o : Oper} {a : Act} {Q : Exit → Act → World → Prop} (hgd : o.guard = none) (s x : Operand) (t : TypeId)
    (ho : o.op = .call { callee := .builtin .append, args := #[s, x], argTypes := #[t, t] })
    (B E sz : Nat) (i : TypeInfo) (z : Value) (bytes : Nat) (ht : P.underlying t = some (.slice E)) (hi : P.info? E = some i) (hz : i.zero = some z) (hsize : i.size = sz) (hby : i.bytes = bytes) (hzs : z.cells.size = sz) (hsz : 0 < sz)
    (v : Value) (n : Nat) (xs : List Value) (hs : a.eval s = v) (hown : OwnsK w B E sz v xs) (hn : xs.length = n * sz)
    (u : Value) (m : Nat) (ys : List Value) (hx : a.eval x = u) (hu : ReadsK w sz u ys) (hm : ys.length = m * sz) (h1 : ∀ y ∈ ys, y.oneCell' = true)
    (h63 : n + m ≤ maxLen) (hbytes : (n + m) * bytes ≤ 140737488355328) (hbase : B ≤ w.heap.size)
    (h : ∀ v' w', OwnsK w' B E sz v' (xs ++ ys) → OwnsK w' B E sz v xs → Stirred w w' (blk v).toList → ((blk v') = (blk v) ∨ ∃ k, (blk v') = some k ∧ w.heap.size ≤ k) → wpList P ops Q rest (a.put o.dst v') w') : wpList P ops Q (o :: rest) a w := by
  refine wpList_plain hgd fun K hK => ?_
  exact wp_append_reads w s x t ho B E sz i z bytes ht hi hz hsize hby hzs hsz v n xs hs hown hn u m ys hx hu hm h1 h63 hbytes hbase (fun v' w' h2 h3 h4 h5 => hK _ _ (h v' w' h2 h3 h4 h5))
end Go.Proofs.YtpecingkoodmfaaGreatDoor.Book.Wide
/- A list of instructions in a row of its own: what it reads as, what a store makes of it. -/
namespace Go.Proofs.YtpecingkoodmfaaGreatDoor.Ir
open Go.RowKit Book Book.Wide Mem
set_option linter.unusedVariables false
set_option linter.unusedSimpArgs false
def insCells (x : I) : List Value := [.int .i64 x.1, .int .i64 x.2.1, .int .i64 x.2.2.1, .int .i64 x.2.2.2.1, .int .i64 x.2.2.2.2]
theorem ins_len (l : List I) : (l.flatMap insCells).length = l.length * 5 := flat_length (enc := insCells) (k := 5) (fun _ => rfl) l
theorem ins_one (l : List I) : ∀ u ∈ l.flatMap insCells, u.oneCell' = true := by
  intro u hu
  rw [List.mem_flatMap] at hu
  obtain ⟨e, _, hu⟩ := hu
  simp only [insCells, List.mem_cons, List.not_mem_nil, or_false] at hu
  rcases hu with rfl | rfl | rfl | rfl | rfl <;> rfl
theorem ins_back {l : List I} {j : Nat} {u : Value} (h : (l.flatMap insCells)[j]? = some u) : ∃ x, l[j / 5]? = some x ∧ (insCells x)[j % 5]? = some u := by
  have hj := (List.getElem?_eq_some_iff.1 h).1
  rw [ins_len] at hj
  obtain ⟨x, hx⟩ : ∃ x, l[j / 5]? = some x := ⟨_, List.getElem?_eq_getElem (by omega)⟩
  have h4 : j % 5 < 5 := Nat.mod_lt _ (by decide)
  obtain ⟨u', hu⟩ : ∃ u', (insCells x)[j % 5]? = some u' := ⟨_, List.getElem?_eq_getElem (by show j % 5 < 5; exact h4)⟩
  have h1 := flat_at (enc := insCells) (k := 5) (fun _ => rfl) hx hu
  rw [show j / 5 * 5 + j % 5 = j by omega, h] at h1
  exact ⟨x, hx, by rw [hu]; exact h1.symm⟩
theorem ReadsI.toK {w : World} {v : Value} {l : List I} (h : ReadsI w v l) : ReadsK w 5 v (l.flatMap insCells) := by
  obtain ⟨ao, cap, e, hc⟩ := h
  refine ⟨ao, l.length, cap, e, ins_len l, fun j u hj => ?_⟩
  obtain ⟨x, hx, hu⟩ := ins_back hj
  obtain ⟨ad, ha, h0, h1, h2, h3, h4⟩ := hc _ x hx
  refine ⟨ad, ha, ?_⟩
  have hm : j % 5 = 0 ∨ j % 5 = 1 ∨ j % 5 = 2 ∨ j % 5 = 3 ∨ j % 5 = 4 := by omega
  have ed : ∀ i, ad.add (j / 5 * 5 + i) = ⟨(ad.add (j / 5 * 5)).block, (ad.add (j / 5 * 5)).off + i, none⟩ → i = j % 5 → ad.add j = ⟨(ad.add (j / 5 * 5)).block, (ad.add (j / 5 * 5)).off + i, none⟩ := fun i e hi => by rw [← e, hi, show j / 5 * 5 + j % 5 = j by omega]
  rcases hm with hm | hm | hm | hm | hm
  · rw [hm] at hu
    obtain rfl := Option.some.inj hu
    rw [show ad.add j = ad.add (j / 5 * 5) by rw [show j / 5 * 5 = j by omega]]
    exact h0
  · rw [hm] at hu
    obtain rfl := Option.some.inj hu
    rw [ed 1 (by rw [← Go.Deep.add_add]; rfl) hm.symm]
    exact h1
  · rw [hm] at hu
    obtain rfl := Option.some.inj hu
    rw [ed 2 (by rw [← Go.Deep.add_add]; rfl) hm.symm]
    exact h2
  · rw [hm] at hu
    obtain rfl := Option.some.inj hu
    rw [ed 3 (by rw [← Go.Deep.add_add]; rfl) hm.symm]
    exact h3
  · rw [hm] at hu
    obtain rfl := Option.some.inj hu
    rw [ed 4 (by rw [← Go.Deep.add_add]; rfl) hm.symm]
    exact h4
theorem ReadsI.of_owns {w : World} {B : Nat} {v : Value} {l : List I} (h : OwnsK w B 42 5 v (l.flatMap insCells)) : ReadsI w v l := by
  rcases Nat.eq_zero_or_pos l.length with h0 | h0
  · have e : l = [] := List.eq_nil_of_length_eq_zero h0
    subst e
    obtain ⟨ao, cap, e⟩ := h.slice (n := 0) rfl (by decide)
    exact ⟨ao, cap, e, fun j x hj => by simp at hj⟩
  · obtain ⟨g, cap, e, hc, -, -⟩ := h.row (ins_len l) (by decide) h0
    refine ⟨_, cap, e, fun j x hj => ⟨_, rfl, ?_⟩⟩
    have a0 := hc (j * 5 + 0) _ (flat_at (enc := insCells) (k := 5) (fun _ => rfl) hj (i := 0) rfl)
    have a1 := hc (j * 5 + 1) _ (flat_at (enc := insCells) (k := 5) (fun _ => rfl) hj (i := 1) rfl)
    have a2 := hc (j * 5 + 2) _ (flat_at (enc := insCells) (k := 5) (fun _ => rfl) hj (i := 2) rfl)
    have a3 := hc (j * 5 + 3) _ (flat_at (enc := insCells) (k := 5) (fun _ => rfl) hj (i := 3) rfl)
    have a4 := hc (j * 5 + 4) _ (flat_at (enc := insCells) (k := 5) (fun _ => rfl) hj (i := 4) rfl)
    rw [add_row]
    exact ⟨a0, a1, a2, a3, a4⟩
set_option maxRecDepth 1000000 in
theorem Tryz.irInsInfo : (Tryz.prog.info? 42).map (fun i => (i.zero, i.size, i.bytes)) = some (some (.agg #[.int .i64 0, .int .i64 0, .int .i64 0, .int .i64 0, .int .i64 0]), 5, 40) := by kernel_rfl
end Go.Proofs.YtpecingkoodmfaaGreatDoor.Ir
/- Lists of instructions that are lent; are they as they were? -/
namespace Go.Proofs.YtpecingkoodmfaaGreatDoor.Ir
open Go.RowKit Book Book.Wide Mem
set_option linter.unusedSimpArgs false
set_option linter.unusedVariables false
theorem same_true {α : Type} [DecidableEq α] {l : List α} {f : FuncId} {args : Array Value} {w : World} (h : Calls Tryz.prog f args w fun e w' => e = .returned (.bool (decide (l = l))) ∧ ∃ q, w' = w.drewN q) : Calls Tryz.prog f args w fun e w' => e = .returned (.bool true) ∧ ∃ q, w' = w.drewN q :=
  h.mono fun e w' hh => ⟨by rw [hh.1, decide_eq_true (rfl : l = l)], hh.2⟩
set_option maxHeartbeats 4000000 in
theorem copyCodes_any (v : Value) (l : List I) (w : World) (h : ReadsI w v l) (hl : l.length ≤ 1000000) :
    Calls Tryz.prog 93 #[v] w fun e w' => ∃ c, e = .returned c ∧ OwnsK w' w.heap.size 42 5 c (l.flatMap insCells) ∧ Below w.heap.size w w' := by
  obtain ⟨i0, q1, q2, q3, q4⟩ := info_parts Tryz.irInsInfo
  have HI := Lib.hid (And.intro q1 (And.intro q2 (And.intro q3 q4)))
  have HR := Lib.hid h.toK
  have HL := Lib.hid (ins_len l)
  obtain ⟨vo, vc, rfl, _⟩ := h
  obtain ⟨n, hn⟩ : ∃ n, l.length = n := ⟨_, rfl⟩
  rw [hn] at HR HL hl ⊢
  clear q1 q2 q3 q4 hn
  go_enter Tryz.func93, Tryz.ntmps93
  go_wp2_with (refine Wide.wpList_append_reads rfl _ _ 22 rfl w.heap.size 42 5 i0 (insV (0, 0, 0, 0, 0)) 40 Tryz.underlying22 HI.out.1 HI.out.2.1 HI.out.2.2.1 HI.out.2.2.2 rfl (by decide) (.slice none 0 0) 0 [] rfl (OwnsK.nil _ _ _ _) rfl (.slice vo n vc) n (l.flatMap insCells) rfl HR.out HL.out ?c0 ?c1 ?c2 (Nat.le_refl _) ?_)
  case c0 => exact ins_one l
  case c1 => unfold maxLen; omega
  case c2 => omega
  intro v' w' hown _ hT hN
  have HF := Lib.hid (show OwnsK w' w.heap.size 42 5 v' (l.flatMap insCells) from by simpa using hown)
  have HG := Lib.hid hT
  obtain ⟨fo, fc, hv'⟩ := HF.out.slice (n := n) HL.out (by decide)
  subst hv'
  clear hown hT hN
  go_wp2
  go_ret
  exact ⟨_, rfl, HF.out, HG.out.below (B := w.heap.size) (fun _ h => by cases h) (Nat.le_refl _)⟩
/-- a list with room behind it, in which a mark stands -/
def LentC (w : World) (B g cap : Nat) (l : List I) : Prop := OwnsK w B 42 5 (.slice (some ⟨g, 0, none⟩) (l.length + 1) cap) ((l ++ [(-77, 0, 0, 0, 0)]).flatMap insCells)
theorem LentC.owns {w : World} {B g cap : Nat} {l : List I} (h : LentC w B g cap l) : OwnsK w B 42 5 (.slice (some ⟨g, 0, none⟩) l.length cap) (l.flatMap insCells) := by
  have h1 := OwnsK.shorter (m := l.length) h (by decide) (Nat.le_succ _)
  rw [List.flatMap_append, ← ins_len, List.take_left] at h1
  exact h1
theorem LentC.below {w w' : World} {B g cap : Nat} {l : List I} (h : LentC w B g cap l) (hb : Below w.heap.size w w') : LentC w' B g cap l := OwnsK.below h hb
set_option maxHeartbeats 4000000 in
theorem lentCodes_any (v : Value) (l : List I) (w : World) (h : ReadsI w v l) (hl : l.length ≤ 1000) :
    Calls Tryz.prog 38 #[v] w fun e w' => ∃ g cap, e = .returned (.slice (some ⟨g, 0, none⟩) l.length cap) ∧ LentC w' w.heap.size g cap l ∧ l.length + 1 ≤ cap ∧ Below w.heap.size w w' := by
  obtain ⟨i0, q1, q2, q3, q4⟩ := info_parts Tryz.irInsInfo
  have HI := Lib.hid (And.intro q1 (And.intro q2 (And.intro q3 q4)))
  have C := Lib.hid (copyCodes_any v l w h (by omega))
  have HL := Lib.hid (ins_len l)
  obtain ⟨vo, vc, rfl, _⟩ := h
  obtain ⟨n, hn⟩ : ∃ n, l.length = n := ⟨_, rfl⟩
  have HN := Lib.hid hn
  rw [hn] at C hl HL ⊢
  clear q1 q2 q3 q4 hn
  go_enter Tryz.func38, Tryz.ntmps38
  go_wp2_with fail
  refine C.out.mono ?_
  rintro e w1 ⟨c, rfl, hO, hB⟩
  obtain ⟨co, cc, hcv⟩ := hO.slice (n := n) HL.out (by decide)
  subst hcv
  have hal := (Below.refl w1.heap.size w1).alloc (Nat.le_refl _) (.cells (insA (-77, 0, 0, 0, 0)) 42)
  have hAN := heap_alloc_new w1 (.cells (insA (-77, 0, 0, 0, 0)) 42)
  have HO := Lib.hid (hO.below hal)
  have HRD := Lib.hid (show ReadsK (w1.alloc (.cells (insA (-77, 0, 0, 0, 0)) 42)) 5 (.slice (some ⟨w1.heap.size, 0, none⟩) 1 1) (insCells (-77, 0, 0, 0, 0)) from ReadsK.of_whole (T := 42) hAN rfl)
  have HB := Lib.hid hB
  have HBA := Lib.hid (hB.trans (hal.mono hB.size))
  clear hO hB C hal hAN
  go_wp2_with (refine Wide.wpList_append_reads rfl _ _ 22 rfl w.heap.size 42 5 i0 (insV (0, 0, 0, 0, 0)) 40 Tryz.underlying22 HI.out.1 HI.out.2.1 HI.out.2.2.1 HI.out.2.2.2 rfl (by decide) (.slice co n cc) n (l.flatMap insCells) rfl HO.out HL.out (.slice (some ⟨w1.heap.size, 0, none⟩) 1 1) 1 (insCells (-77, 0, 0, 0, 0)) rfl HRD.out rfl ?c0 ?c1 ?c2 HBA.out.size ?_)
  case c0 => exact fun u hu => ins_one [(-77, 0, 0, 0, 0)] u (by simpa using hu)
  case c1 => unfold maxLen; omega
  case c2 => omega
  intro v' w2 hO2 _ hS _
  obtain ⟨g, cap, hv', -, -, hcap⟩ := hO2.row (n := n + 1) (by rw [List.length_append, HL.out, Nat.add_mul]; rfl) (by decide) (Nat.succ_pos _)
  subst hv'
  have hLS : LentC w2 w.heap.size g cap l := by
    unfold LentC
    rw [HN.out, List.flatMap_append]
    simpa using hO2
  have HLS := Lib.hid hLS
  have HBF := Lib.hid (HBA.out.trans (hS.below (B := w.heap.size) (fun k hk => (HO.out.block k (by simpa using hk)).1) HBA.out.size))
  have hc1 : (n : Int) ≤ (cap : Int) := by omega
  have HC := Lib.hid hcap
  clear hO2 hS hLS hcap
  go_wp2
  go_ret
  exact ⟨g, cap, rfl, HLS.out, HC.out, HBF.out⟩
set_option maxHeartbeats 2000000 in
theorem staysCodes_any (B g cap : Nat) (vb : Value) (l : List I) (w : World) (h : LentC w B g cap l) (hb : ReadsI w vb l) (hl : l.length ≤ 1000) (hcap : l.length + 1 ≤ cap) :
    Calls Tryz.prog 58 #[.slice (some ⟨g, 0, none⟩) l.length cap, vb] w fun e w' => e = .returned (.bool true) ∧ ∃ q, w' = w.drewN q := by
  have C := Lib.hid (same_true (sameCodes_any (ReadsI.of_owns h.owns) hb (by omega)))
  obtain ⟨g', cap', e, hc, -, -⟩ := OwnsK.row h (n := l.length + 1) (by rw [ins_len, List.length_append]; rfl) (by decide) (Nat.succ_pos _)
  simp only [Value.slice.injEq, Option.some.injEq, Addr.mk.injEq, and_true, true_and] at e
  obtain ⟨rfl, rfl⟩ := e
  have k1 := hc (l.length * 5 + 0) (.int .i64 (-77)) (flat_at (enc := insCells) (k := 5) (fun _ => rfl) (j := l.length) (a := (-77, 0, 0, 0, 0)) (by simp) (i := 0) rfl)
  obtain ⟨vo, vc, rfl, _⟩ := hb
  obtain ⟨n, hn⟩ : ∃ n, l.length = n := ⟨_, rfl⟩
  rw [hn] at C hl hcap k1 ⊢
  have K1 := Lib.hid k1
  have hc1 : (n : Int) + 1 ≤ (cap : Int) := by omega
  have hn0 : (0 : Int) ≤ (n : Int) := by omega
  clear hn h k1 hc
  go_enter Tryz.func58, Tryz.ntmps58
  go_wp2_with fail
  refine C.out.mono ?_
  rintro e w1 ⟨rfl, q, rfl⟩
  clear C
  have k1 : (w.drewN q).cell? ⟨g, n * 5, none⟩ = some (.int .i64 (-77)) := K1.out
  go_wp2
  go_ret
  exact ⟨rfl, q, rfl⟩
end Go.Proofs.YtpecingkoodmfaaGreatDoor.Ir
