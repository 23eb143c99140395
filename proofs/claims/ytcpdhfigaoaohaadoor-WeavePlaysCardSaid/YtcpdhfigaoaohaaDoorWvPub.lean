
/- Package weave: what its calls answer and do. -/
import Derived.Test.YtcpdhfigaoaohaaDoorWvTurn
import Derived.Test.YtcpdhfigaoaohaaDoorCloneInts
import Derived.Test.YtcpdhfigaoaohaaDoorPileWalks
namespace Go.Proofs.YtcpdhfigaoaohaaDoor.Wv
open Go.RowKit Book Book.Wide Mem
set_option linter.unusedSimpArgs false
set_option linter.unusedVariables false
theorem shutF_here (c : Nat) (m : M) : (shutF c m).here = m.here := by
  unfold shutF
  repeat' split
  all_goals rfl
theorem shutF_len (c : Nat) (m : M) : (shutF c m).l.length ≤ m.l.length := by
  unfold shutF
  repeat' split
  all_goals simp [M.lead, M.dropped, M.held, M.point]
  all_goals omega
theorem fitsF_laid (c : Nat) (m : M) (cs : List Int) : fitsF c (m.laid cs) = fitsF c m := rfl
theorem two_cells (c : Nat) (m : M) (hc : c = 0 ∨ c = 1 ∨ c = 6) : (cellsF c m).length = 2 := by rcases hc with rfl | rfl | rfl <;> rfl
section
variable {w : World} {B p gm : Nat} {bs : List Nat} {m : M}
set_option maxHeartbeats 4000000 in
theorem turn_any (h : WAt w B p gm bs m) (hB : B ≤ w.heap.size) (c : Nat) (hc : c < 11) (hf : fitsF c m = true) (hl : m.l.length < 1000) : Calls Tryd.prog 34 #[.pointer (some ⟨p, 0, none⟩), .int .i64 (c : Int)] w (Did w B p gm bs (.int .i64 (turnR c m).1) (turnR c m).2) := by
  have HA := Lib.hid h
  have HBW := Lib.hid hB
  have HF := Lib.hid (And.intro hc (And.intro hf hl))
  have C := Lib.hid (cells_any h c hc)
  have HCL := Lib.hid (cellsF_len c m)
  clear h hB hc hf hl
  go_enter Tryd.func34, Tryd.ntmps34
  go_wp2_with fail
  refine C.out.mono ?_
  rintro e w1 ⟨v, rfl, hr, hb⟩
  have HB1 := Lib.hid hb
  have D := Lib.hid (lay_any (HA.out.below hb) v (cellsF c m) hr (by have := HCL.out; omega))
  clear C hr hb
  by_cases hfit : m.here + (cellsF c m).length ≤ m.mem.length
  · have HLR : layR (cellsF c m) m = (0, m.laid (cellsF c m)) := by unfold layR; rw [if_pos hfit]
    have HTR := Lib.hid (show turnR c m = (0, beginF c (shutF c (m.laid (cellsF c m)))) by unfold turnR; rw [if_pos hfit])
    rw [HLR] at D
    have HFN := Lib.hid (show Fine (beginF c (shutF c (m.laid (cellsF c m)))) from by
      have h1 := form_code c HF.out.1 HA.out.fine
      have h2 := (form_kin (c + 1) HA.out.fine).fine
      rw [← h1] at h2
      unfold formR at h2
      rw [if_pos HF.out.2.1, HTR.out] at h2
      exact h2)
    clear hfit HLR
    go_wp2_with fail
    refine D.out.mono ?_
    rintro e w2 ⟨rfl, bs2, hA, hS, hT⟩
    have HA2 := Lib.hid hA
    have HS2 := Lib.hid ((Stirred.of_below HB1.out bs).trans hS (fun k hk => .inl hk))
    have HT2 := Lib.hid (show ∀ k ∈ bs2, k ∈ bs ∨ w.heap.size ≤ k from fun k hk => (hT k hk).imp id (fun e => Nat.le_trans HB1.out.size e))
    have C := Lib.hid (shut_any hA c HF.out.1 (by rw [fitsF_laid]; exact HF.out.2.1))
    clear D hA hS hT
    go_wp2_with fail
    refine C.out.mono ?_
    rintro e w3 ⟨rfl, hA, hS⟩
    have HS3 := Lib.hid (HS2.out.trans hS HT2.out)
    have D := Lib.hid (begin_any hA (Nat.le_trans HBW.out HS3.out.size) c HF.out.1 HFN.out (Nat.lt_of_le_of_lt (shutF_len _ _) HF.out.2.2) (fun h0 => by
      rw [shutF_here]
      show 1 ≤ m.here + (cellsF c m).length
      rw [two_cells c m h0]; omega))
    clear C hA hS
    go_wp2_with fail
    refine D.out.mono ?_
    rintro e w4 ⟨rfl, bs4, hA, hS, hT⟩
    have HR := Lib.hid (show ∃ bs', WAt w4 B p gm bs' (beginF c (shutF c (m.laid (cellsF c m)))) ∧ Stirred w w4 bs ∧ ∀ k ∈ bs', k ∈ bs ∨ w.heap.size ≤ k from ⟨bs4, hA, HS3.out.trans hS HT2.out, fun k hk => by
      rcases hT k hk with e | e
      · exact HT2.out k e
      · exact .inr (Nat.le_trans HS3.out.size e)⟩)
    clear D hA hS hT
    go_wp2
    go_ret
    exact ⟨by rw [HTR.out]; rfl, by rw [HTR.out]; exact HR.out⟩
  · have HLR : layR (cellsF c m) m = (-8, m) := by unfold layR; rw [if_neg hfit]
    have HTR := Lib.hid (show turnR c m = (-8, m) by unfold turnR; rw [if_neg hfit])
    rw [HLR] at D
    clear hfit HLR
    go_wp2_with fail
    refine D.out.mono ?_
    rintro e w2 ⟨rfl, bs2, hA, hS, hT⟩
    have HR := Lib.hid (show ∃ bs', WAt w2 B p gm bs' m ∧ Stirred w w2 bs ∧ ∀ k ∈ bs', k ∈ bs ∨ w.heap.size ≤ k from ⟨bs2, hA, (Stirred.of_below HB1.out bs).trans hS (fun k hk => .inl hk), fun k hk => (hT k hk).imp id (fun e => Nat.le_trans HB1.out.size e)⟩)
    clear D hA hS hT
    go_wp2
    go_ret
    exact ⟨by rw [HTR.out]; rfl, by rw [HTR.out]; exact HR.out⟩
set_option maxHeartbeats 4000000 in
theorem form_any (h : WAt w B p gm bs m) (hB : B ≤ w.heap.size) (hn : NamesIs w) (s : ByteArray) (hs : s.size ≤ 1000) (hl : m.l.length < 1000) : Calls Tryd.prog 14 #[.pointer (some ⟨p, 0, none⟩), .string s] w (Did w B p gm bs (.int .i64 (form (word s) m).1) (form (word s) m).2) := by
  have HA := Lib.hid h
  have HBW := Lib.hid hB
  have HL := Lib.hid hl
  have HW := Lib.hid (form_word s)
  have HLT := Lib.hid (formN_lt s)
  have C := Lib.hid (formOf_any s hs w hn)
  obtain ⟨c, hcz⟩ : ∃ c, formN s = c := ⟨_, rfl⟩
  rw [hcz] at C HW HLT
  clear h hB hn hs hl hcz
  by_cases hk : formB s = true
  · rw [hk] at C HW
    have HFM := Lib.hid (show form (word s) m = formR c m by rw [HW.out, if_pos rfl, form_code c HLT.out HA.out.fine])
    clear hk
    go_enter Tryd.func14, Tryd.ntmps14
    go_wp2_with fail
    refine C.out.mono ?_
    rintro e w1 ⟨rfl, q, hq⟩
    have hA1 : WAt w1 B p gm bs m := by rw [hq]; exact HA.out.drewN q
    have hb1 : Below w.heap.size w w1 := by rw [hq]; exact below_drewN w q
    have HA1 := Lib.hid hA1
    have HB1 := Lib.hid hb1
    have D := Lib.hid (made_any hA1)
    clear C hq hA1 hb1
    go_wp2_with fail
    refine D.out.mono ?_
    rintro e wz ⟨rfl, hwz⟩
    subst wz
    have F := Lib.hid (fits_any HA1.out c HLT.out)
    clear D
    by_cases hf : fitsF c m = true
    · rw [hf] at F
      have HFR := Lib.hid (show formR c m = turnR c m by unfold formR; rw [if_pos hf])
      have HFF := Lib.hid hf
      clear hf
      go_wp2_with fail
      refine F.out.mono ?_
      rintro e w2 ⟨rfl, hb⟩
      have HB2 := Lib.hid (HB1.out.trans (hb.mono HB1.out.size))
      have T := Lib.hid (turn_any (HA1.out.below hb) (Nat.le_trans HBW.out HB2.out.size) c HLT.out HFF.out HL.out)
      clear F hb
      go_wp2_with fail
      refine T.out.mono ?_
      rintro e w3 ⟨rfl, bs3, hA, hS, hT⟩
      have HR := Lib.hid (show ∃ bs', WAt w3 B p gm bs' (turnR c m).2 ∧ Stirred w w3 bs ∧ ∀ k ∈ bs', k ∈ bs ∨ w.heap.size ≤ k from ⟨bs3, hA, (Stirred.of_below HB2.out bs).trans hS (fun k hk => .inl hk), fun k hk => (hT k hk).imp id (fun e => Nat.le_trans HB2.out.size e)⟩)
      clear T hA hS hT
      go_wp2
      go_ret
      exact ⟨by rw [HFM.out, HFR.out]; rfl, by rw [HFM.out, HFR.out]; exact HR.out⟩
    · rw [show fitsF c m = false by simpa using hf] at F
      have HFR := Lib.hid (show formR c m = (-22, m) by unfold formR; rw [if_neg hf])
      clear hf
      go_wp2_with fail
      refine F.out.mono ?_
      rintro e w2 ⟨rfl, hb⟩
      have HB2 := Lib.hid (HB1.out.trans (hb.mono HB1.out.size))
      clear F hb
      go_wp2
      go_ret
      exact Did.same (by rw [HFM.out, HFR.out]; exact HA.out) (by rw [HFM.out, HFR.out]; rfl) HB2.out
  · have hk' : formB s = false := by simpa using hk
    rw [hk'] at C HW
    have HFM := Lib.hid (show form (word s) m = (-13, m) by rw [HW.out]; rfl)
    clear hk hk'
    go_enter Tryd.func14, Tryd.ntmps14
    go_wp2_with fail
    refine C.out.mono ?_
    rintro e w1 ⟨rfl, q, hq⟩
    have hA1 : WAt w1 B p gm bs m := by rw [hq]; exact HA.out.drewN q
    have hb1 : Below w.heap.size w w1 := by rw [hq]; exact below_drewN w q
    have HB1 := Lib.hid hb1
    have D := Lib.hid (made_any hA1)
    clear C hq hA1 hb1
    go_wp2_with fail
    refine D.out.mono ?_
    rintro e wz ⟨rfl, hwz⟩
    subst wz
    clear D
    go_wp2
    go_ret
    exact Did.same (by rw [HFM.out]; exact HA.out) (by rw [HFM.out]; rfl) HB1.out
theorem form_nil (s : ByteArray) (hs : s.size ≤ 1000) (w : World) (hn : NamesIs w) : Calls Tryd.prog 14 #[.pointer none, .string s] w fun e w' => e = .returned (.int .i64 (-13)) ∧ Below w.heap.size w w' := by
  have C := Lib.hid (formOf_any s hs w hn)
  clear hs hn
  go_enter Tryd.func14, Tryd.ntmps14
  go_wp2_with fail
  refine C.out.mono ?_
  rintro e w1 ⟨rfl, q, hq⟩
  have HB := Lib.hid (show Below w.heap.size w w1 by rw [hq]; exact below_drewN w q)
  have D := Lib.hid (made_nil w1)
  clear C hq
  go_wp2_with fail
  refine D.out.mono ?_
  rintro e wz ⟨rfl, hwz⟩
  subst wz
  clear D
  go_wp2
  go_ret
  exact ⟨rfl, HB.out⟩
end
end Go.Proofs.YtcpdhfigaoaohaaDoor.Wv
