
/- The document's answer to package ir: are places known ahead of one? -/
import Derived.Test.YtpecingkoodmfaaGreatDoorIrKnown
namespace Go.Proofs.YtpecingkoodmfaaGreatDoor.Ir
open Go.RowKit Book Mem
set_option linter.unusedSimpArgs false
set_option linter.unusedVariables false
set_option maxHeartbeats 8000000 in
theorem named_any {w : World} {t : T} {vi vo vc : Value} (h : ReadsL w vi vo vc t) {v : Value} {l : List Int} (hv : Reads w v l) (k : Nat) (hk : k ≤ t.ins.length) (hk2 : k ≤ 1000000) (hl : l.length ≤ 1000000) :
    Calls Tryz.prog 46 #[trV t vi vo vc, v, .int .i64 (k : Int)] w (Says (.bool (known t.ins l k)) w) := by
  obtain ⟨ai, ci, ao, co, ac, cc, rfl, rfl, rfl⟩ := h.known
  obtain ⟨av, cv, rfl⟩ := reads_form hv
  obtain ⟨w1, g, hw1, hg, HG, HB, HZ⟩ := newBox w (trA t (.slice ai t.ins.length ci) (.slice ao t.outs.length co) (.slice ac t.cells.length cc)) 26
  obtain ⟨-, -, -, -, -, c5, -, -, -⟩ := cells9 HG.out
  have HR := Lib.hid (h.below HB.out)
  have HV := Lib.hid (hv.below HB.out)
  obtain ⟨st, sl, bks, gr, gb, ins, outs, la, cells⟩ := t
  simp only at *
  obtain ⟨n, hn⟩ : ∃ n, l.length = n := ⟨_, rfl⟩
  obtain ⟨m, hm⟩ : ∃ m, ins.length = m := ⟨_, rfl⟩
  have HN := Lib.hid hn
  have HM := Lib.hid hm
  have HK := Lib.hid hk
  rw [hn] at hl HV ⊢
  rw [hm] at hw1 c5 HR ⊢
  clear h hv hn hm hk
  have HI := Lib.hid HR.out.ins
  dsimp only at HI
  clear HR
  obtain ⟨res, hres⟩ : ∃ res, known ins l (k : Int) = res := ⟨_, rfl⟩
  have HRS := Lib.hid hres
  rw [hres]
  clear hres
  go_enter Tryz.func46, Tryz.ntmps46
  go_wp2
  go_loopg [7] n (fun z i wr => ∃ j : Nat, z = n - j ∧ j ≤ n ∧ i = .int .i64 (j : Int) ∧ Hid (Below w1.heap.size w1 wr) ∧ Hid (known ins (l.drop j) (k : Int) = res))
  case atStart => exact ⟨0, rfl, Nat.zero_le _, rfl, Lib.hid (Below.refl _ _), Lib.hid HRS.out⟩
  case round =>
    obtain ⟨j, rfl, hj, rfl, HBR, HJ⟩ := hrel
    have HI := Lib.hid (HI.out.below HBR.out)
    have HV := Lib.hid (HV.out.below HBR.out)
    obtain ⟨-, -, -, -, -, c5, -, -, -⟩ := cells9 (boxOn HG.out HBR.out)
    rw [HM.out] at c5
    have HB := Lib.hid (HB.out.trans (HBR.out.mono HB.out.size))
    by_cases hlt : j < n
    · obtain ⟨p, hp⟩ : ∃ p, l[j]? = some p := ⟨_, List.getElem?_eq_getElem (by rw [HN.out]; exact hlt)⟩
      have HS := Lib.hid (show (okP ins (k : Int) p && known ins (l.drop (j + 1)) (k : Int)) = res by rw [← HJ.out]; exact (all_at hp).symm)
      obtain ⟨ad, rfl, q0⟩ := Reads.at' HV.out hp
      have z0 : (0 : Int) ≤ (j : Int) := by omega
      have z1 : (j : Int) < (n : Int) := by omega
      clear HJ hp
      by_cases hw : 0 ≤ p ∧ p < (k : Int)
      · obtain ⟨pn, rfl⟩ : ∃ pn : Nat, p = (pn : Int) := ⟨p.toNat, by omega⟩
        obtain ⟨x, hx⟩ : ∃ x, ins[pn]? = some x := ⟨_, List.getElem?_eq_getElem (by have := HK.out; omega)⟩
        have HP := Lib.hid (okP_at hx (show pn < k by omega))
        obtain ⟨ad2, rfl, i0, -, -, -, -⟩ := ReadsI.at HI.out hx
        have y1 : (pn : Int) < (m : Int) := by have h1 := (List.getElem?_eq_some_iff.1 hx).1; have h2 := HM.out; omega
        have y0 : (0 : Int) ≤ (pn : Int) := by omega
        obtain ⟨x1, x2⟩ := x
        dsimp only at i0 HP
        have D := Lib.hid (fun w => rgives_any x1 w)
        have d1 : decide ((k : Int) ≤ (pn : Int)) = false := decide_eq_false (by omega)
        have d0 : decide ((pn : Int) < 0) = false := decide_eq_false (by omega)
        have d2 : decide (k ≤ pn) = false := decide_eq_false (by omega)
        clear hw hx
        cases hgv : gives x1 with
        | true =>
          have HS2 := Lib.hid (show known ins (l.drop (j + 1)) (k : Int) = res by rw [← HS.out, HP.out, hgv]; rfl)
          rw [hgv] at D
          clear hgv
          go_wp2_with fail
          go_quiet (first | (go_at_call 18; exact Calls.quiet_of_same (D.out _)))
          go_wp2
          go_roundg (n - (j + 1))
          case measure => omega
          case rel => exact ⟨j + 1, rfl, by omega, by go_num, Lib.hid (HBR.out.trans ((drewN1_below wr _).mono HBR.out.size)), HS2⟩
        | false =>
          have HF := Lib.hid (show res = false by rw [← HS.out, HP.out, hgv]; rfl)
          rw [hgv] at D
          clear hgv
          go_wp2_with fail
          go_quiet (first | (go_at_call 18; exact Calls.quiet_of_same (D.out _)))
          go_wp2
          go_ret
          exact ⟨by rw [HF.out]; rfl, HB.out.trans ((drewN1_below wr _).mono HB.out.size)⟩
      · have HF := Lib.hid (show res = false by rw [← HS.out, okP_no hw]; rfl)
        by_cases hw0 : 0 ≤ p
        · have d1 : decide ((k : Int) ≤ p) = true := decide_eq_true (by omega)
          have d0 : decide (p < 0) = false := decide_eq_false (by omega)
          have HW0 := Lib.hid hw0
          clear hw0
          clear hw
          go_wp2_with fail
          go_quiet (fail)
          go_wp2
          go_ret
          exact ⟨by rw [HF.out]; rfl, HB.out.trans ((drewN1_below wr _).mono HB.out.size)⟩
        · have d0 : decide (p < 0) = true := decide_eq_true (by omega)
          clear hw hw0
          go_wp2_with fail
          go_quiet (fail)
          go_wp2
          go_ret
          exact ⟨by rw [HF.out]; rfl, HB.out.trans ((drewN1_below wr _).mono HB.out.size)⟩
    · obtain rfl : j = n := by omega
      have HF := Lib.hid (show res = true by rw [← HJ.out, drop_end HN.out]; rfl)
      go_wp2
      go_ret
      exact ⟨by rw [HF.out]; rfl, HB.out⟩
end Go.Proofs.YtpecingkoodmfaaGreatDoor.Ir
