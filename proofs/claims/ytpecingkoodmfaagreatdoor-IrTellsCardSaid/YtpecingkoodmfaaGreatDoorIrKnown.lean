
/- Package ir, and the document's answer to it: are places known ahead of one? -/
import Derived.Test.YtpecingkoodmfaaGreatDoorIrWalks
import Derived.Deep.LoopGhost
import Derived.Deep.RegionHeld3
import Derived.BigQuiet
import Derived.Deep.QuietTactic
namespace Go.Proofs.YtpecingkoodmfaaGreatDoor.Ir
open Go.RowKit Book Mem
set_option linter.unusedSimpArgs false
set_option linter.unusedVariables false
theorem drewN1_below (w : World) (q : Nat) : Below w.heap.size w (w.drewN q) := ⟨rfl, rfl, rfl, Nat.le_refl _, fun _ _ => rfl⟩
theorem drewN2_below (w : World) (q n : Nat) : Below w.heap.size w ((w.drewN q).drewN n) := ⟨rfl, rfl, rfl, Nat.le_refl _, fun _ _ => rfl⟩
theorem okP_at {ins : List I} {pn k : Nat} {x : I} (hx : ins[pn]? = some x) (h : pn < k) : okP ins (k : Int) (pn : Int) = gives x.1 := by
  unfold okP
  rw [within_yes (by omega) (by omega), opAt_some hx, Bool.true_and]
theorem okP_no {ins : List I} {k : Nat} {p : Int} (h : ¬ (0 ≤ p ∧ p < (k : Int))) : okP ins (k : Int) p = false := by
  unfold okP
  rw [within_no (by omega), Bool.false_and]
set_option maxHeartbeats 8000000 in
theorem known_any {w : World} {t : T} {vi vo vc : Value} (h : ReadsL w vi vo vc t) {v : Value} {l : List Int} (hv : Reads w v l) (k : Nat) (hk : k ≤ t.ins.length) (hk2 : k ≤ 1000000) (hl : l.length ≤ 1000000) :
    Calls Tryz.prog 97 #[trV t vi vo vc, v, .int .i64 (k : Int)] w (Says (.bool (known t.ins l k)) w) := by
  obtain ⟨ai, ci, ao, co, ac, cc, rfl, rfl, rfl⟩ := h.known
  obtain ⟨av, cv, rfl⟩ := reads_form hv
  obtain ⟨w1, g, hw1, hg, HG, HB, HZ⟩ := newBox w (trA t (.slice ai t.ins.length ci) (.slice ao t.outs.length co) (.slice ac t.cells.length cc)) 26
  obtain ⟨-, -, -, -, -, c5, -, -, -⟩ := cells9 HG.out
  have HR := Lib.hid (h.below HB.out)
  have HV := Lib.hid (hv.below HB.out)
  obtain ⟨st, sl, bks, gr, gb, ins, outs, la, cells⟩ := t
  simp only at *
  obtain ⟨n, hn⟩ : ∃ n, l.length = n := ⟨_, rfl⟩
  obtain ⟨m, hm⟩ : ∃ m, ins.length = m := ⟨_, rfl⟩
  have HN := Lib.hid hn
  have HM := Lib.hid hm
  have HK := Lib.hid hk
  rw [hn] at hl HV ⊢
  rw [hm] at hw1 c5 HR ⊢
  clear h hv hn hm hk
  have HI := Lib.hid HR.out.ins
  dsimp only at HI
  clear HR
  obtain ⟨res, hres⟩ : ∃ res, known ins l (k : Int) = res := ⟨_, rfl⟩
  have HRS := Lib.hid hres
  rw [hres]
  clear hres
  go_enter Tryz.func97, Tryz.ntmps97
  go_wp2
  go_loopg [11] n (fun z i wr => ∃ j : Nat, z = n - j ∧ j ≤ n ∧ i = .int .i64 (j : Int) ∧ wr = w1 ∧ Hid (known ins (l.drop j) (k : Int) = res))
  case atStart => exact ⟨0, rfl, Nat.zero_le _, rfl, rfl, Lib.hid HRS.out⟩
  case round =>
    obtain ⟨j, rfl, hj, rfl, hwr, HJ⟩ := hrel
    subst wr
    by_cases hlt : j < n
    · obtain ⟨p, hp⟩ : ∃ p, l[j]? = some p := ⟨_, List.getElem?_eq_getElem (by rw [HN.out]; exact hlt)⟩
      have HS := Lib.hid (show (okP ins (k : Int) p && known ins (l.drop (j + 1)) (k : Int)) = res by rw [← HJ.out]; exact (all_at hp).symm)
      obtain ⟨ad, rfl, q0⟩ := Reads.at' HV.out hp
      have z0 : (0 : Int) ≤ (j : Int) := by omega
      have z1 : (j : Int) < (n : Int) := by omega
      clear HJ hp
      by_cases hw : 0 ≤ p ∧ p < (k : Int)
      · obtain ⟨pn, rfl⟩ : ∃ pn : Nat, p = (pn : Int) := ⟨p.toNat, by omega⟩
        obtain ⟨x, hx⟩ : ∃ x, ins[pn]? = some x := ⟨_, List.getElem?_eq_getElem (by have := HK.out; omega)⟩
        have HP := Lib.hid (okP_at hx (show pn < k by omega))
        obtain ⟨ad2, rfl, i0, -, -, -, -⟩ := ReadsI.at HI.out hx
        have y1 : (pn : Int) < (m : Int) := by have h1 := (List.getElem?_eq_some_iff.1 hx).1; have h2 := HM.out; omega
        have y0 : (0 : Int) ≤ (pn : Int) := by omega
        obtain ⟨x1, x2⟩ := x
        dsimp only at i0 HP
        have C := Lib.hid (within_any (pn : Int) ((k : Int) - 1) w1)
        rw [within_yes (by omega) (by omega)] at C
        have D := Lib.hid (gives_any x1 w1)
        clear hw hx
        cases hgv : gives x1 with
        | true =>
          have HS2 := Lib.hid (show known ins (l.drop (j + 1)) (k : Int) = res by rw [← HS.out, HP.out, hgv]; rfl)
          rw [hgv] at D
          clear hgv
          go_wp2_with fail
          refine C.out.mono ?_
          rintro e wz ⟨rfl, hwz⟩
          subst wz
          go_wp2_with fail
          refine D.out.mono ?_
          rintro e wz ⟨rfl, hwz⟩
          subst wz
          go_wp2
          go_roundg (n - (j + 1))
          case measure => omega
          case rel => exact ⟨j + 1, rfl, by omega, by go_num, rfl, HS2⟩
        | false =>
          have HF := Lib.hid (show res = false by rw [← HS.out, HP.out, hgv]; rfl)
          rw [hgv] at D
          clear hgv
          go_wp2_with fail
          refine C.out.mono ?_
          rintro e wz ⟨rfl, hwz⟩
          subst wz
          go_wp2_with fail
          refine D.out.mono ?_
          rintro e wz ⟨rfl, hwz⟩
          subst wz
          go_wp2
          go_ret
          exact ⟨by rw [HF.out]; rfl, HB.out⟩
      · have HF := Lib.hid (show res = false by rw [← HS.out, okP_no hw]; rfl)
        have C := Lib.hid (within_any p ((k : Int) - 1) w1)
        rw [within_no (by omega)] at C
        clear hw
        go_wp2_with fail
        refine C.out.mono ?_
        rintro e wz ⟨rfl, hwz⟩
        subst wz
        go_wp2
        go_ret
        exact ⟨by rw [HF.out]; rfl, HB.out⟩
    · obtain rfl : j = n := by omega
      have HF := Lib.hid (show res = true by rw [← HJ.out, drop_end HN.out]; rfl)
      go_wp2
      go_ret
      exact ⟨by rw [HF.out]; rfl, HB.out⟩
end Go.Proofs.YtpecingkoodmfaaGreatDoor.Ir
