/- Package inner: what an operation lacks on the stacks; a word that is called. -/
import Derived.Test.YtlomfmilohbgpaaGreatDoorInnState
import Derived.Test.YtlomfmilohbgpaaGreatDoorK3
import Derived.Test.YtlomfmilohbgpaaGreatDoorInnTop
import Derived.Deep.RegionHeld3
import Derived.Test.YtlomfmilohbgpaaGreatDoorInnDid
import Derived.Test.YtlomfmilohbgpaaGreatDoorK1
namespace Go.Proofs.YtlomfmilohbgpaaGreatDoor.Inn
open Go.RowKit Book Mem Mach
set_option linter.unusedVariables false
set_option linter.unusedSimpArgs false
theorem moves_nat {k : Nat} (hk : k < 48) : movesI (k : Int) = movesOf k := by unfold movesI; rw [if_pos (isOp_nat hk)]; rfl
/-- the code of what is lacking; 0: nothing -/
def lackM (m : M) (k : Nat) : Int :=
  if (m.stack.length : Int) - (movesOf k).1 < 0 then -4
  else if (m.back.length : Int) - (movesOf k).2.1 < 0 then -6
  else if 48 < (m.stack.length : Int) - (movesOf k).1 + (movesOf k).2.2.1 then -3
  else if 48 < (m.back.length : Int) - (movesOf k).2.1 + (movesOf k).2.2.2 then -5
  else 0
set_option maxHeartbeats 8000000 in
set_option maxRecDepth 100000 in
theorem lack_any {w : World} {B q : Nat} {F : List Nat} {m : M} (h : Mk w B q F m) (k : Nat) (hk : k < 48) :
    Calls Tryz.prog 75 #[.pointer (some ⟨q, 0, none⟩), .int .i64 k] w fun e w' => e = .returned (.int .i64 (lackM m k)) ∧ ∃ n, w' = w.drewN n := by
  obtain ⟨ps, gs, pb, gb, pf, vC, vH, ch, vs, vb, vm, -, h⟩ := h
  have L1 := Lib.hid (fun wc (n : Nat) (e : wc = w.drewN n) => by rw [e]; exact len_any (h.st.touch (Stirred.drewN w n []) (fun _ _ => List.not_mem_nil)) : ∀ wc (n : Nat), wc = w.drewN n → Calls Tryz.prog 66 #[.pointer (some ⟨ps, 0, none⟩)] wc fun e w' => e = .returned (.int .i64 m.stack.length) ∧ w' = wc)
  have L2 := Lib.hid (fun wc (n : Nat) (e : wc = w.drewN n) => by rw [e]; exact len_any (h.bk.touch (Stirred.drewN w n []) (fun _ _ => List.not_mem_nil)) : ∀ wc (n : Nat), wc = w.drewN n → Calls Tryz.prog 66 #[.pointer (some ⟨pb, 0, none⟩)] wc fun e w' => e = .returned (.int .i64 m.back.length) ∧ w' = wc)
  have hs := h.st.fits
  have hb := h.bk.fits
  obtain ⟨n1, n2, n3⟩ := h.ptrs
  have hmv := movesI_in k
  have T := Lib.hid (opTakes_same k w)
  have G := Lib.hid (opGives_same k w)
  have hL : lackM m k = lackM m k := rfl
  rw [show lackM m k = (if (m.stack.length : Int) - (movesI k).1 < 0 then -4 else if (m.back.length : Int) - (movesI k).2.1 < 0 then -6 else if 48 < (m.stack.length : Int) - (movesI k).1 + (movesI k).2.2.1 then -3 else if 48 < (m.back.length : Int) - (movesI k).2.1 + (movesI k).2.2.2 then -5 else 0) by rw [moves_nat hk]; rfl]
  clear hL h
  obtain ⟨ns, hns⟩ : ∃ n, m.stack.length = n := ⟨_, rfl⟩
  obtain ⟨nb, hnb⟩ : ∃ n, m.back.length = n := ⟨_, rfl⟩
  rw [hns] at hs L1
  rw [hnb] at hb L2
  rw [hns, hnb]
  clear hns hnb hk
  generalize movesI (k : Int) = mv at *
  obtain ⟨a, b, x, y⟩ := mv
  simp only at hmv T G ⊢
  obtain ⟨ha0, ha1, hb0, hb1, hx0, hx1, hy0, hy1⟩ := hmv
  obtain ⟨r, hr⟩ : ∃ r : Int, (if (ns : Int) - a < 0 then -4 else if (nb : Int) - b < 0 then -6 else if 48 < (ns : Int) - a + x then -3 else if 48 < (nb : Int) - b + y then -5 else 0) = r := ⟨_, rfl⟩
  rw [hr]
  have HR := Lib.hid hr
  clear hr
  by_cases c1 : (ns : Int) - a < 0
  · skip
    obtain rfl : r = -4 := by rw [← HR.out, if_pos c1]
    clear HR
    go_enter Tryz.func75, Tryz.ntmps75
    go_wp2_with fail
    refine T.out.mono ?_
    rintro e wz ⟨rfl, hwz⟩
    subst wz
    go_wp2_with fail
    refine G.out.mono ?_
    rintro e wz ⟨rfl, hwz⟩
    subst wz
    go_wp2_with fail
    go_quiet ((first | (go_at_call_of 66 (Value.pointer (some (⟨ps, 0, none⟩ : Addr))); exact Calls.quiet_of_same (L1.out _ _ rfl)) | (go_at_call_of 66 (Value.pointer (some (⟨pb, 0, none⟩ : Addr))); exact Calls.quiet_of_same (L2.out _ _ rfl))))
    go_wp2
    go_ret
    exact ⟨rfl, _, rfl⟩
  · by_cases c2 : (nb : Int) - b < 0
    · skip
      obtain rfl : r = -6 := by rw [← HR.out, if_neg c1, if_pos c2]
      clear HR
      go_enter Tryz.func75, Tryz.ntmps75
      go_wp2_with fail
      refine T.out.mono ?_
      rintro e wz ⟨rfl, hwz⟩
      subst wz
      go_wp2_with fail
      refine G.out.mono ?_
      rintro e wz ⟨rfl, hwz⟩
      subst wz
      go_wp2_with fail
      go_quiet ((first | (go_at_call_of 66 (Value.pointer (some (⟨ps, 0, none⟩ : Addr))); exact Calls.quiet_of_same (L1.out _ _ rfl)) | (go_at_call_of 66 (Value.pointer (some (⟨pb, 0, none⟩ : Addr))); exact Calls.quiet_of_same (L2.out _ _ rfl))))
      go_wp2
      go_ret
      exact ⟨rfl, _, rfl⟩
    · by_cases c3 : 48 < (ns : Int) - a + x
      · skip
        obtain rfl : r = -3 := by rw [← HR.out, if_neg c1, if_neg c2, if_pos c3]
        clear HR
        go_enter Tryz.func75, Tryz.ntmps75
        go_wp2_with fail
        refine T.out.mono ?_
        rintro e wz ⟨rfl, hwz⟩
        subst wz
        go_wp2_with fail
        refine G.out.mono ?_
        rintro e wz ⟨rfl, hwz⟩
        subst wz
        go_wp2_with fail
        go_quiet ((first | (go_at_call_of 66 (Value.pointer (some (⟨ps, 0, none⟩ : Addr))); exact Calls.quiet_of_same (L1.out _ _ rfl)) | (go_at_call_of 66 (Value.pointer (some (⟨pb, 0, none⟩ : Addr))); exact Calls.quiet_of_same (L2.out _ _ rfl))))
        go_wp2
        go_ret
        exact ⟨rfl, _, rfl⟩
      · by_cases c4 : 48 < (nb : Int) - b + y
        · skip
          obtain rfl : r = -5 := by rw [← HR.out, if_neg c1, if_neg c2, if_neg c3, if_pos c4]
          clear HR
          go_enter Tryz.func75, Tryz.ntmps75
          go_wp2_with fail
          refine T.out.mono ?_
          rintro e wz ⟨rfl, hwz⟩
          subst wz
          go_wp2_with fail
          refine G.out.mono ?_
          rintro e wz ⟨rfl, hwz⟩
          subst wz
          go_wp2_with fail
          go_quiet ((first | (go_at_call_of 66 (Value.pointer (some (⟨ps, 0, none⟩ : Addr))); exact Calls.quiet_of_same (L1.out _ _ rfl)) | (go_at_call_of 66 (Value.pointer (some (⟨pb, 0, none⟩ : Addr))); exact Calls.quiet_of_same (L2.out _ _ rfl))))
          go_wp2
          go_ret
          exact ⟨rfl, _, rfl⟩
        · skip
          obtain rfl : r = 0 := by rw [← HR.out, if_neg c1, if_neg c2, if_neg c3, if_neg c4]
          clear HR
          go_enter Tryz.func75, Tryz.ntmps75
          go_wp2_with fail
          refine T.out.mono ?_
          rintro e wz ⟨rfl, hwz⟩
          subst wz
          go_wp2_with fail
          refine G.out.mono ?_
          rintro e wz ⟨rfl, hwz⟩
          subst wz
          go_wp2_with fail
          go_quiet ((first | (go_at_call_of 66 (Value.pointer (some (⟨ps, 0, none⟩ : Addr))); exact Calls.quiet_of_same (L1.out _ _ rfl)) | (go_at_call_of 66 (Value.pointer (some (⟨pb, 0, none⟩ : Addr))); exact Calls.quiet_of_same (L2.out _ _ rfl))))
          go_wp2
          go_ret
          exact ⟨rfl, _, rfl⟩
end Go.Proofs.YtlomfmilohbgpaaGreatDoor.Inn
/- Package inner: an operation: what it takes is looked at ahead, and goes when nothing can stand in its way. -/
namespace Go.Proofs.YtlomfmilohbgpaaGreatDoor.Inn
open Go.RowKit Book Mem Mach
set_option linter.unusedVariables false
set_option linter.unusedSimpArgs false
/-- a machine went on, or can't go on: then what a fault makes of it is mE -/
def Gone (w : World) (B q : Nat) (F D : List Nat) (at' : Int) (mE : M) (e : Ending) (w' : World) : Prop :=
  (∃ F', e = .returned .nilIface ∧ Mk w' B q F' mE ∧ Stirred w w' D ∧ ∀ f ∈ F', f ∈ F ∨ w.heap.size ≤ f) ∨
  ∃ F' m1 c, e = .returned (faultV c at') ∧ (c == 0) = false ∧ Cell.In m1.handler ∧ mE = Mach.fault m1 c ∧ Mk w' B q F' m1 ∧ Stirred w w' D ∧ ∀ f ∈ F', f ∈ F ∨ w.heap.size ≤ f
section
variable {w : World} {B q ps gs pb gb pf : Nat} {vC vH : Value} {ch : List Int} {vs vb vm : Value} {m : M} {xb : Nat} {g nx : Int}
abbrev new8 (k g at' nx : Int) : Array Value := cells8 k g at' nx (.slice none 0 0) (.slice none 0 0) (.slice none 0 0) (.slice none 0 0)
set_option maxHeartbeats 8000000 in
set_option maxRecDepth 100000 in
theorem operate_lack (h : Mc w B q ps gs pb gb pf vC vH ch vs vb vm m) (k : Nat) (hk : k < 48) (hx : w.heap[xb]? = some (.cells (new8 k g m.ip nx) 103 (0, 0))) (hc : Cells m) (hl : lackM m k ≠ 0) :
    Calls Tryz.prog 63 #[.pointer (some ⟨q, 0, none⟩), .pointer (some ⟨xb, 0, none⟩)] w (Gone w B q (feet q ps gs pb gb pf vC vH) (xb :: feet q ps gs pb gb pf vC vH) m.ip (Mach.fault m (lackM m k))) := by
  have HH := Lib.hid h
  have HC := Lib.hid hc.handler
  have T := Lib.hid (opTakes_same k w)
  have L := Lib.hid (lack_any h.mach k hk)
  have c0 : w.cell? ⟨xb, 0, none⟩ = some (.int .i64 (k : Int)) := whole_cell hx rfl
  have X := Lib.hid (fun n => xfault_some ((Stirred.drewN w n []).whole hx List.not_mem_nil) (lackM m k) (by simpa using hl))
  have hl' : (lackM m k != 0) = true := by simpa using hl
  have HL := Lib.hid (show (lackM m k == 0) = false by simpa using hl)
  generalize lackM m k = c at *
  clear h hc hx hl
  go_enter Tryz.func63, Tryz.ntmps63
  go_wp2_with fail
  refine T.out.mono ?_
  rintro e wz ⟨rfl, hwz⟩
  subst wz
  go_wp2_with fail
  refine L.out.mono ?_
  rintro e wz ⟨rfl, n, hq⟩
  subst hq
  go_wp2_with fail
  refine (X.out n).mono ?_
  rintro e wz ⟨rfl, hwz⟩
  subst wz
  go_wp2
  go_ret
  exact .inr ⟨_, m, c, rfl, HL.out, HC.out, rfl, (HH.out.touch (Stirred.drewN w n []) (fun _ _ => List.not_mem_nil)).mach, Stirred.drewN w n _, fun f hf => .inl hf⟩
end
end Go.Proofs.YtlomfmilohbgpaaGreatDoor.Inn
/- Package inner: whatever the operation is. -/
namespace Go.Proofs.YtlomfmilohbgpaaGreatDoor.Inn
open Go.RowKit Book Mem Mach
set_option linter.unusedVariables false
set_option linter.unusedSimpArgs false
theorem lack_zero {m : M} {k : Nat} (h : lackM m k = 0) : (movesOf k).1 ≤ (m.stack.length : Int) ∧ (movesOf k).2.1 ≤ (m.back.length : Int) ∧ (m.stack.length : Int) - (movesOf k).1 + (movesOf k).2.2.1 ≤ 48 ∧ (m.back.length : Int) - (movesOf k).2.1 + (movesOf k).2.2.2 ≤ 48 := by
  unfold lackM at h
  split at h
  · cases h
  split at h
  · cases h
  split at h
  · cases h
  split at h
  · cases h
  omega
def takesN (k : Nat) : Nat := (movesOf k).1.toNat
def takesB (k : Nat) : Nat := (movesOf k).2.1.toNat
section
variable {w : World} {B q ps gs pb gb pf : Nat} {vC vH : Value} {ch : List Int} {vs vb vm : Value} {m : M} {xb : Nat} {g nx : Int} {gt gk : Nat}
set_option maxRecDepth 100000 in
theorem do_all (k : Nat) (hk : k < 48) (h : Pre w B q ps gs pb gb pf vC vH ch vs vb vm m xb k g m.ip nx gt gk (m.stack.drop (m.stack.length - takesN k)) (m.back.drop (m.back.length - takesB k))) (hB : B ≤ w.heap.size) (hr : Right m) (hc : Cells m) (hin : m.inp.size ≤ maxLen) (hZ : Zeros w) (hT : Tens w) (hl : lackM m k = 0) :
    Calls Tryz.prog 78 #[.pointer (some ⟨q, 0, none⟩), .pointer (some ⟨xb, 0, none⟩)] w (Doing w B q (feet q ps gs pb gb pf vC vH) xb k g m.ip (rowV gt (takesN k)) (rowV gk (takesB k)) (takesN k) (takesB k) (exec k m nx g)) := by
  have hz := lack_zero hl
  obtain ⟨z1, z2, z3, z4⟩ := hz
  rcases (by omega : k = 0 ∨ k = 1 ∨ k = 2 ∨ k = 3 ∨ k = 4 ∨ k = 5 ∨ k = 6 ∨ k = 7 ∨ k = 8 ∨ k = 9 ∨ k = 10 ∨ k = 11 ∨ k = 12 ∨ k = 13 ∨ k = 14 ∨ k = 15 ∨ k = 16 ∨ k = 17 ∨ k = 18 ∨ k = 19 ∨ k = 20 ∨ k = 21 ∨ k = 22 ∨ k = 23 ∨ k = 24 ∨ k = 25 ∨ k = 26 ∨ k = 27 ∨ k = 28 ∨ k = 29 ∨ k = 30 ∨ k = 31 ∨ k = 32 ∨ k = 33 ∨ k = 34 ∨ k = 35 ∨ k = 36 ∨ k = 37 ∨ k = 38 ∨ k = 39 ∨ k = 40 ∨ k = 41 ∨ k = 42 ∨ k = 43 ∨ k = 44 ∨ k = 45 ∨ k = 46 ∨ k = 47) with rfl | rfl | rfl | rfl | rfl | rfl | rfl | rfl | rfl | rfl | rfl | rfl | rfl | rfl | rfl | rfl | rfl | rfl | rfl | rfl | rfl | rfl | rfl | rfl | rfl | rfl | rfl | rfl | rfl | rfl | rfl | rfl | rfl | rfl | rfl | rfl | rfl | rfl | rfl | rfl | rfl | rfl | rfl | rfl | rfl | rfl | rfl | rfl
  · have y1 : (0 : Int) ≤ (m.stack.length : Int) := z1
    have y2 : (0 : Int) ≤ (m.back.length : Int) := z2
    have y3 : (m.stack.length : Int) - 0 + 0 ≤ 48 := z3
    have y4 : (m.back.length : Int) - 0 + 0 ≤ 48 := z4
    have r1 : 0 ≤ m.stack.length := by omega
    have r2 : 0 ≤ m.back.length := by omega
    rw [show m.stack.drop (m.stack.length - takesN 0) = [] from List.drop_eq_nil_of_le (by rw [show takesN 0 = 0 from rfl]; omega), show m.back.drop (m.back.length - takesB 0) = [] from List.drop_eq_nil_of_le (by rw [show takesB 0 = 0 from rfl]; omega)] at h
    exact done_0 h hB hr hc r1 r2 (by omega) (by omega)
  · have y1 : (0 : Int) ≤ (m.stack.length : Int) := z1
    have y2 : (0 : Int) ≤ (m.back.length : Int) := z2
    have y3 : (m.stack.length : Int) - 0 + 0 ≤ 48 := z3
    have y4 : (m.back.length : Int) - 0 + 0 ≤ 48 := z4
    have r1 : 0 ≤ m.stack.length := by omega
    have r2 : 0 ≤ m.back.length := by omega
    rw [show m.stack.drop (m.stack.length - takesN 1) = [] from List.drop_eq_nil_of_le (by rw [show takesN 1 = 0 from rfl]; omega), show m.back.drop (m.back.length - takesB 1) = [] from List.drop_eq_nil_of_le (by rw [show takesB 1 = 0 from rfl]; omega)] at h
    exact done_1 h hB hr hc r1 r2 (by omega) (by omega)
  · have y1 : (0 : Int) ≤ (m.stack.length : Int) := z1
    have y2 : (0 : Int) ≤ (m.back.length : Int) := z2
    have y3 : (m.stack.length : Int) - 0 + 1 ≤ 48 := z3
    have y4 : (m.back.length : Int) - 0 + 0 ≤ 48 := z4
    have r1 : 0 ≤ m.stack.length := by omega
    have r2 : 0 ≤ m.back.length := by omega
    rw [show m.stack.drop (m.stack.length - takesN 2) = [] from List.drop_eq_nil_of_le (by rw [show takesN 2 = 0 from rfl]; omega), show m.back.drop (m.back.length - takesB 2) = [] from List.drop_eq_nil_of_le (by rw [show takesB 2 = 0 from rfl]; omega)] at h
    exact done_2 h hB hr hc r1 r2 (by omega) (by omega)
  · have y1 : (0 : Int) ≤ (m.stack.length : Int) := z1
    have y2 : (0 : Int) ≤ (m.back.length : Int) := z2
    have y3 : (m.stack.length : Int) - 0 + 0 ≤ 48 := z3
    have y4 : (m.back.length : Int) - 0 + 0 ≤ 48 := z4
    have r1 : 0 ≤ m.stack.length := by omega
    have r2 : 0 ≤ m.back.length := by omega
    rw [show m.stack.drop (m.stack.length - takesN 3) = [] from List.drop_eq_nil_of_le (by rw [show takesN 3 = 0 from rfl]; omega), show m.back.drop (m.back.length - takesB 3) = [] from List.drop_eq_nil_of_le (by rw [show takesB 3 = 0 from rfl]; omega)] at h
    exact done_3 h hB hr hc r1 r2 (by omega) (by omega)
  · have y1 : (1 : Int) ≤ (m.stack.length : Int) := z1
    have y2 : (0 : Int) ≤ (m.back.length : Int) := z2
    have y3 : (m.stack.length : Int) - 1 + 0 ≤ 48 := z3
    have y4 : (m.back.length : Int) - 0 + 0 ≤ 48 := z4
    have r1 : 1 ≤ m.stack.length := by omega
    have r2 : 0 ≤ m.back.length := by omega
    rw [show m.stack.drop (m.stack.length - takesN 4) = [nth m.stack 0] from drop_one r1, show m.back.drop (m.back.length - takesB 4) = [] from List.drop_eq_nil_of_le (by rw [show takesB 4 = 0 from rfl]; omega)] at h
    exact done_4 h hB hr hc r1 r2 (by omega) (by omega)
  · have y1 : (0 : Int) ≤ (m.stack.length : Int) := z1
    have y2 : (1 : Int) ≤ (m.back.length : Int) := z2
    have y3 : (m.stack.length : Int) - 0 + 0 ≤ 48 := z3
    have y4 : (m.back.length : Int) - 1 + 0 ≤ 48 := z4
    have r1 : 0 ≤ m.stack.length := by omega
    have r2 : 1 ≤ m.back.length := by omega
    rw [show m.stack.drop (m.stack.length - takesN 5) = [] from List.drop_eq_nil_of_le (by rw [show takesN 5 = 0 from rfl]; omega), show m.back.drop (m.back.length - takesB 5) = [nth m.back 0] from drop_one r2] at h
    exact done_5 h hB hr hc r1 r2 (by omega) (by omega)
  · have y1 : (1 : Int) ≤ (m.stack.length : Int) := z1
    have y2 : (0 : Int) ≤ (m.back.length : Int) := z2
    have y3 : (m.stack.length : Int) - 1 + 2 ≤ 48 := z3
    have y4 : (m.back.length : Int) - 0 + 0 ≤ 48 := z4
    have r1 : 1 ≤ m.stack.length := by omega
    have r2 : 0 ≤ m.back.length := by omega
    rw [show m.stack.drop (m.stack.length - takesN 6) = [nth m.stack 0] from drop_one r1, show m.back.drop (m.back.length - takesB 6) = [] from List.drop_eq_nil_of_le (by rw [show takesB 6 = 0 from rfl]; omega)] at h
    exact done_6 h hB hr hc r1 r2 (by omega) (by omega)
  · have y1 : (1 : Int) ≤ (m.stack.length : Int) := z1
    have y2 : (0 : Int) ≤ (m.back.length : Int) := z2
    have y3 : (m.stack.length : Int) - 1 + 0 ≤ 48 := z3
    have y4 : (m.back.length : Int) - 0 + 0 ≤ 48 := z4
    have r1 : 1 ≤ m.stack.length := by omega
    have r2 : 0 ≤ m.back.length := by omega
    rw [show m.stack.drop (m.stack.length - takesN 7) = [nth m.stack 0] from drop_one r1, show m.back.drop (m.back.length - takesB 7) = [] from List.drop_eq_nil_of_le (by rw [show takesB 7 = 0 from rfl]; omega)] at h
    exact done_7 h hB hr hc r1 r2 (by omega) (by omega)
  · have y1 : (2 : Int) ≤ (m.stack.length : Int) := z1
    have y2 : (0 : Int) ≤ (m.back.length : Int) := z2
    have y3 : (m.stack.length : Int) - 2 + 2 ≤ 48 := z3
    have y4 : (m.back.length : Int) - 0 + 0 ≤ 48 := z4
    have r1 : 2 ≤ m.stack.length := by omega
    have r2 : 0 ≤ m.back.length := by omega
    rw [show m.stack.drop (m.stack.length - takesN 8) = [nth m.stack 1, nth m.stack 0] from drop_two r1, show m.back.drop (m.back.length - takesB 8) = [] from List.drop_eq_nil_of_le (by rw [show takesB 8 = 0 from rfl]; omega)] at h
    exact done_8 h hB hr hc r1 r2 (by omega) (by omega)
  · have y1 : (2 : Int) ≤ (m.stack.length : Int) := z1
    have y2 : (0 : Int) ≤ (m.back.length : Int) := z2
    have y3 : (m.stack.length : Int) - 2 + 3 ≤ 48 := z3
    have y4 : (m.back.length : Int) - 0 + 0 ≤ 48 := z4
    have r1 : 2 ≤ m.stack.length := by omega
    have r2 : 0 ≤ m.back.length := by omega
    rw [show m.stack.drop (m.stack.length - takesN 9) = [nth m.stack 1, nth m.stack 0] from drop_two r1, show m.back.drop (m.back.length - takesB 9) = [] from List.drop_eq_nil_of_le (by rw [show takesB 9 = 0 from rfl]; omega)] at h
    exact done_9 h hB hr hc r1 r2 (by omega) (by omega)
  · have y1 : (3 : Int) ≤ (m.stack.length : Int) := z1
    have y2 : (0 : Int) ≤ (m.back.length : Int) := z2
    have y3 : (m.stack.length : Int) - 3 + 3 ≤ 48 := z3
    have y4 : (m.back.length : Int) - 0 + 0 ≤ 48 := z4
    have r1 : 3 ≤ m.stack.length := by omega
    have r2 : 0 ≤ m.back.length := by omega
    rw [show m.stack.drop (m.stack.length - takesN 10) = [nth m.stack 2, nth m.stack 1, nth m.stack 0] from drop_three r1, show m.back.drop (m.back.length - takesB 10) = [] from List.drop_eq_nil_of_le (by rw [show takesB 10 = 0 from rfl]; omega)] at h
    exact done_10 h hB hr hc r1 r2 (by omega) (by omega)
  · have y1 : (2 : Int) ≤ (m.stack.length : Int) := z1
    have y2 : (0 : Int) ≤ (m.back.length : Int) := z2
    have y3 : (m.stack.length : Int) - 2 + 1 ≤ 48 := z3
    have y4 : (m.back.length : Int) - 0 + 0 ≤ 48 := z4
    have r1 : 2 ≤ m.stack.length := by omega
    have r2 : 0 ≤ m.back.length := by omega
    rw [show m.stack.drop (m.stack.length - takesN 11) = [nth m.stack 1, nth m.stack 0] from drop_two r1, show m.back.drop (m.back.length - takesB 11) = [] from List.drop_eq_nil_of_le (by rw [show takesB 11 = 0 from rfl]; omega)] at h
    exact done_11 h hB hr hc r1 r2 (by omega) (by omega)
  · have y1 : (2 : Int) ≤ (m.stack.length : Int) := z1
    have y2 : (0 : Int) ≤ (m.back.length : Int) := z2
    have y3 : (m.stack.length : Int) - 2 + 1 ≤ 48 := z3
    have y4 : (m.back.length : Int) - 0 + 0 ≤ 48 := z4
    have r1 : 2 ≤ m.stack.length := by omega
    have r2 : 0 ≤ m.back.length := by omega
    rw [show m.stack.drop (m.stack.length - takesN 12) = [nth m.stack 1, nth m.stack 0] from drop_two r1, show m.back.drop (m.back.length - takesB 12) = [] from List.drop_eq_nil_of_le (by rw [show takesB 12 = 0 from rfl]; omega)] at h
    exact done_12 h hB hr hc r1 r2 (by omega) (by omega)
  · have y1 : (2 : Int) ≤ (m.stack.length : Int) := z1
    have y2 : (0 : Int) ≤ (m.back.length : Int) := z2
    have y3 : (m.stack.length : Int) - 2 + 1 ≤ 48 := z3
    have y4 : (m.back.length : Int) - 0 + 0 ≤ 48 := z4
    have r1 : 2 ≤ m.stack.length := by omega
    have r2 : 0 ≤ m.back.length := by omega
    rw [show m.stack.drop (m.stack.length - takesN 13) = [nth m.stack 1, nth m.stack 0] from drop_two r1, show m.back.drop (m.back.length - takesB 13) = [] from List.drop_eq_nil_of_le (by rw [show takesB 13 = 0 from rfl]; omega)] at h
    exact done_13 h hB hr hc r1 r2 (by omega) (by omega)
  · have y1 : (2 : Int) ≤ (m.stack.length : Int) := z1
    have y2 : (0 : Int) ≤ (m.back.length : Int) := z2
    have y3 : (m.stack.length : Int) - 2 + 1 ≤ 48 := z3
    have y4 : (m.back.length : Int) - 0 + 0 ≤ 48 := z4
    have r1 : 2 ≤ m.stack.length := by omega
    have r2 : 0 ≤ m.back.length := by omega
    rw [show m.stack.drop (m.stack.length - takesN 14) = [nth m.stack 1, nth m.stack 0] from drop_two r1, show m.back.drop (m.back.length - takesB 14) = [] from List.drop_eq_nil_of_le (by rw [show takesB 14 = 0 from rfl]; omega)] at h
    exact done_14 h hB hr hc r1 r2 (by omega) (by omega)
  · have y1 : (2 : Int) ≤ (m.stack.length : Int) := z1
    have y2 : (0 : Int) ≤ (m.back.length : Int) := z2
    have y3 : (m.stack.length : Int) - 2 + 1 ≤ 48 := z3
    have y4 : (m.back.length : Int) - 0 + 0 ≤ 48 := z4
    have r1 : 2 ≤ m.stack.length := by omega
    have r2 : 0 ≤ m.back.length := by omega
    rw [show m.stack.drop (m.stack.length - takesN 15) = [nth m.stack 1, nth m.stack 0] from drop_two r1, show m.back.drop (m.back.length - takesB 15) = [] from List.drop_eq_nil_of_le (by rw [show takesB 15 = 0 from rfl]; omega)] at h
    exact done_15 h hB hr hc r1 r2 (by omega) (by omega)
  · have y1 : (1 : Int) ≤ (m.stack.length : Int) := z1
    have y2 : (0 : Int) ≤ (m.back.length : Int) := z2
    have y3 : (m.stack.length : Int) - 1 + 1 ≤ 48 := z3
    have y4 : (m.back.length : Int) - 0 + 0 ≤ 48 := z4
    have r1 : 1 ≤ m.stack.length := by omega
    have r2 : 0 ≤ m.back.length := by omega
    rw [show m.stack.drop (m.stack.length - takesN 16) = [nth m.stack 0] from drop_one r1, show m.back.drop (m.back.length - takesB 16) = [] from List.drop_eq_nil_of_le (by rw [show takesB 16 = 0 from rfl]; omega)] at h
    exact done_16 h hB hr hc r1 r2 (by omega) (by omega)
  · have y1 : (2 : Int) ≤ (m.stack.length : Int) := z1
    have y2 : (0 : Int) ≤ (m.back.length : Int) := z2
    have y3 : (m.stack.length : Int) - 2 + 1 ≤ 48 := z3
    have y4 : (m.back.length : Int) - 0 + 0 ≤ 48 := z4
    have r1 : 2 ≤ m.stack.length := by omega
    have r2 : 0 ≤ m.back.length := by omega
    rw [show m.stack.drop (m.stack.length - takesN 17) = [nth m.stack 1, nth m.stack 0] from drop_two r1, show m.back.drop (m.back.length - takesB 17) = [] from List.drop_eq_nil_of_le (by rw [show takesB 17 = 0 from rfl]; omega)] at h
    exact done_17 h hB hr hc r1 r2 (by omega) (by omega)
  · have y1 : (2 : Int) ≤ (m.stack.length : Int) := z1
    have y2 : (0 : Int) ≤ (m.back.length : Int) := z2
    have y3 : (m.stack.length : Int) - 2 + 1 ≤ 48 := z3
    have y4 : (m.back.length : Int) - 0 + 0 ≤ 48 := z4
    have r1 : 2 ≤ m.stack.length := by omega
    have r2 : 0 ≤ m.back.length := by omega
    rw [show m.stack.drop (m.stack.length - takesN 18) = [nth m.stack 1, nth m.stack 0] from drop_two r1, show m.back.drop (m.back.length - takesB 18) = [] from List.drop_eq_nil_of_le (by rw [show takesB 18 = 0 from rfl]; omega)] at h
    exact done_18 h hB hr hc r1 r2 (by omega) (by omega)
  · have y1 : (2 : Int) ≤ (m.stack.length : Int) := z1
    have y2 : (0 : Int) ≤ (m.back.length : Int) := z2
    have y3 : (m.stack.length : Int) - 2 + 1 ≤ 48 := z3
    have y4 : (m.back.length : Int) - 0 + 0 ≤ 48 := z4
    have r1 : 2 ≤ m.stack.length := by omega
    have r2 : 0 ≤ m.back.length := by omega
    rw [show m.stack.drop (m.stack.length - takesN 19) = [nth m.stack 1, nth m.stack 0] from drop_two r1, show m.back.drop (m.back.length - takesB 19) = [] from List.drop_eq_nil_of_le (by rw [show takesB 19 = 0 from rfl]; omega)] at h
    exact done_19 h hB hr hc r1 r2 (by omega) (by omega)
  · have y1 : (1 : Int) ≤ (m.stack.length : Int) := z1
    have y2 : (0 : Int) ≤ (m.back.length : Int) := z2
    have y3 : (m.stack.length : Int) - 1 + 1 ≤ 48 := z3
    have y4 : (m.back.length : Int) - 0 + 0 ≤ 48 := z4
    have r1 : 1 ≤ m.stack.length := by omega
    have r2 : 0 ≤ m.back.length := by omega
    rw [show m.stack.drop (m.stack.length - takesN 20) = [nth m.stack 0] from drop_one r1, show m.back.drop (m.back.length - takesB 20) = [] from List.drop_eq_nil_of_le (by rw [show takesB 20 = 0 from rfl]; omega)] at h
    exact done_20 h hB hr hc r1 r2 (by omega) (by omega)
  · have y1 : (2 : Int) ≤ (m.stack.length : Int) := z1
    have y2 : (0 : Int) ≤ (m.back.length : Int) := z2
    have y3 : (m.stack.length : Int) - 2 + 1 ≤ 48 := z3
    have y4 : (m.back.length : Int) - 0 + 0 ≤ 48 := z4
    have r1 : 2 ≤ m.stack.length := by omega
    have r2 : 0 ≤ m.back.length := by omega
    rw [show m.stack.drop (m.stack.length - takesN 21) = [nth m.stack 1, nth m.stack 0] from drop_two r1, show m.back.drop (m.back.length - takesB 21) = [] from List.drop_eq_nil_of_le (by rw [show takesB 21 = 0 from rfl]; omega)] at h
    exact done_21 h hB hr hc r1 r2 (by omega) (by omega)
  · have y1 : (2 : Int) ≤ (m.stack.length : Int) := z1
    have y2 : (0 : Int) ≤ (m.back.length : Int) := z2
    have y3 : (m.stack.length : Int) - 2 + 1 ≤ 48 := z3
    have y4 : (m.back.length : Int) - 0 + 0 ≤ 48 := z4
    have r1 : 2 ≤ m.stack.length := by omega
    have r2 : 0 ≤ m.back.length := by omega
    rw [show m.stack.drop (m.stack.length - takesN 22) = [nth m.stack 1, nth m.stack 0] from drop_two r1, show m.back.drop (m.back.length - takesB 22) = [] from List.drop_eq_nil_of_le (by rw [show takesB 22 = 0 from rfl]; omega)] at h
    exact done_22 h hB hr hc r1 r2 (by omega) (by omega)
  · have y1 : (2 : Int) ≤ (m.stack.length : Int) := z1
    have y2 : (0 : Int) ≤ (m.back.length : Int) := z2
    have y3 : (m.stack.length : Int) - 2 + 1 ≤ 48 := z3
    have y4 : (m.back.length : Int) - 0 + 0 ≤ 48 := z4
    have r1 : 2 ≤ m.stack.length := by omega
    have r2 : 0 ≤ m.back.length := by omega
    rw [show m.stack.drop (m.stack.length - takesN 23) = [nth m.stack 1, nth m.stack 0] from drop_two r1, show m.back.drop (m.back.length - takesB 23) = [] from List.drop_eq_nil_of_le (by rw [show takesB 23 = 0 from rfl]; omega)] at h
    exact done_23 h hB hr hc r1 r2 (by omega) (by omega)
  · have y1 : (2 : Int) ≤ (m.stack.length : Int) := z1
    have y2 : (0 : Int) ≤ (m.back.length : Int) := z2
    have y3 : (m.stack.length : Int) - 2 + 1 ≤ 48 := z3
    have y4 : (m.back.length : Int) - 0 + 0 ≤ 48 := z4
    have r1 : 2 ≤ m.stack.length := by omega
    have r2 : 0 ≤ m.back.length := by omega
    rw [show m.stack.drop (m.stack.length - takesN 24) = [nth m.stack 1, nth m.stack 0] from drop_two r1, show m.back.drop (m.back.length - takesB 24) = [] from List.drop_eq_nil_of_le (by rw [show takesB 24 = 0 from rfl]; omega)] at h
    exact done_24 h hB hr hc r1 r2 (by omega) (by omega)
  · have y1 : (2 : Int) ≤ (m.stack.length : Int) := z1
    have y2 : (0 : Int) ≤ (m.back.length : Int) := z2
    have y3 : (m.stack.length : Int) - 2 + 1 ≤ 48 := z3
    have y4 : (m.back.length : Int) - 0 + 0 ≤ 48 := z4
    have r1 : 2 ≤ m.stack.length := by omega
    have r2 : 0 ≤ m.back.length := by omega
    rw [show m.stack.drop (m.stack.length - takesN 25) = [nth m.stack 1, nth m.stack 0] from drop_two r1, show m.back.drop (m.back.length - takesB 25) = [] from List.drop_eq_nil_of_le (by rw [show takesB 25 = 0 from rfl]; omega)] at h
    exact done_25 h hB hr hc r1 r2 (by omega) (by omega)
  · have y1 : (1 : Int) ≤ (m.stack.length : Int) := z1
    have y2 : (0 : Int) ≤ (m.back.length : Int) := z2
    have y3 : (m.stack.length : Int) - 1 + 1 ≤ 48 := z3
    have y4 : (m.back.length : Int) - 0 + 0 ≤ 48 := z4
    have r1 : 1 ≤ m.stack.length := by omega
    have r2 : 0 ≤ m.back.length := by omega
    rw [show m.stack.drop (m.stack.length - takesN 26) = [nth m.stack 0] from drop_one r1, show m.back.drop (m.back.length - takesB 26) = [] from List.drop_eq_nil_of_le (by rw [show takesB 26 = 0 from rfl]; omega)] at h
    exact done_26 h hB hr hc r1 r2 (by omega) (by omega)
  · have y1 : (1 : Int) ≤ (m.stack.length : Int) := z1
    have y2 : (0 : Int) ≤ (m.back.length : Int) := z2
    have y3 : (m.stack.length : Int) - 1 + 1 ≤ 48 := z3
    have y4 : (m.back.length : Int) - 0 + 0 ≤ 48 := z4
    have r1 : 1 ≤ m.stack.length := by omega
    have r2 : 0 ≤ m.back.length := by omega
    rw [show m.stack.drop (m.stack.length - takesN 27) = [nth m.stack 0] from drop_one r1, show m.back.drop (m.back.length - takesB 27) = [] from List.drop_eq_nil_of_le (by rw [show takesB 27 = 0 from rfl]; omega)] at h
    exact done_27 h hB hr hc r1 r2 (by omega) (by omega)
  · have y1 : (2 : Int) ≤ (m.stack.length : Int) := z1
    have y2 : (0 : Int) ≤ (m.back.length : Int) := z2
    have y3 : (m.stack.length : Int) - 2 + 1 ≤ 48 := z3
    have y4 : (m.back.length : Int) - 0 + 0 ≤ 48 := z4
    have r1 : 2 ≤ m.stack.length := by omega
    have r2 : 0 ≤ m.back.length := by omega
    rw [show m.stack.drop (m.stack.length - takesN 28) = [nth m.stack 1, nth m.stack 0] from drop_two r1, show m.back.drop (m.back.length - takesB 28) = [] from List.drop_eq_nil_of_le (by rw [show takesB 28 = 0 from rfl]; omega)] at h
    exact done_28 h hB hr hc r1 r2 (by omega) (by omega)
  · have y1 : (2 : Int) ≤ (m.stack.length : Int) := z1
    have y2 : (0 : Int) ≤ (m.back.length : Int) := z2
    have y3 : (m.stack.length : Int) - 2 + 1 ≤ 48 := z3
    have y4 : (m.back.length : Int) - 0 + 0 ≤ 48 := z4
    have r1 : 2 ≤ m.stack.length := by omega
    have r2 : 0 ≤ m.back.length := by omega
    rw [show m.stack.drop (m.stack.length - takesN 29) = [nth m.stack 1, nth m.stack 0] from drop_two r1, show m.back.drop (m.back.length - takesB 29) = [] from List.drop_eq_nil_of_le (by rw [show takesB 29 = 0 from rfl]; omega)] at h
    exact done_29 h hB hr hc r1 r2 (by omega) (by omega)
  · have y1 : (1 : Int) ≤ (m.stack.length : Int) := z1
    have y2 : (0 : Int) ≤ (m.back.length : Int) := z2
    have y3 : (m.stack.length : Int) - 1 + 1 ≤ 48 := z3
    have y4 : (m.back.length : Int) - 0 + 0 ≤ 48 := z4
    have r1 : 1 ≤ m.stack.length := by omega
    have r2 : 0 ≤ m.back.length := by omega
    rw [show m.stack.drop (m.stack.length - takesN 30) = [nth m.stack 0] from drop_one r1, show m.back.drop (m.back.length - takesB 30) = [] from List.drop_eq_nil_of_le (by rw [show takesB 30 = 0 from rfl]; omega)] at h
    exact done_30 h hB hr hc r1 r2 (by omega) (by omega)
  · have y1 : (2 : Int) ≤ (m.stack.length : Int) := z1
    have y2 : (0 : Int) ≤ (m.back.length : Int) := z2
    have y3 : (m.stack.length : Int) - 2 + 0 ≤ 48 := z3
    have y4 : (m.back.length : Int) - 0 + 0 ≤ 48 := z4
    have r1 : 2 ≤ m.stack.length := by omega
    have r2 : 0 ≤ m.back.length := by omega
    rw [show m.stack.drop (m.stack.length - takesN 31) = [nth m.stack 1, nth m.stack 0] from drop_two r1, show m.back.drop (m.back.length - takesB 31) = [] from List.drop_eq_nil_of_le (by rw [show takesB 31 = 0 from rfl]; omega)] at h
    exact done_31 h hB hr hc r1 r2 (by omega) (by omega)
  · have y1 : (2 : Int) ≤ (m.stack.length : Int) := z1
    have y2 : (0 : Int) ≤ (m.back.length : Int) := z2
    have y3 : (m.stack.length : Int) - 2 + 0 ≤ 48 := z3
    have y4 : (m.back.length : Int) - 0 + 0 ≤ 48 := z4
    have r1 : 2 ≤ m.stack.length := by omega
    have r2 : 0 ≤ m.back.length := by omega
    rw [show m.stack.drop (m.stack.length - takesN 32) = [nth m.stack 1, nth m.stack 0] from drop_two r1, show m.back.drop (m.back.length - takesB 32) = [] from List.drop_eq_nil_of_le (by rw [show takesB 32 = 0 from rfl]; omega)] at h
    exact done_32 h hB hr hc r1 r2 (by omega) (by omega)
  · have y1 : (1 : Int) ≤ (m.stack.length : Int) := z1
    have y2 : (0 : Int) ≤ (m.back.length : Int) := z2
    have y3 : (m.stack.length : Int) - 1 + 0 ≤ 48 := z3
    have y4 : (m.back.length : Int) - 0 + 1 ≤ 48 := z4
    have r1 : 1 ≤ m.stack.length := by omega
    have r2 : 0 ≤ m.back.length := by omega
    rw [show m.stack.drop (m.stack.length - takesN 33) = [nth m.stack 0] from drop_one r1, show m.back.drop (m.back.length - takesB 33) = [] from List.drop_eq_nil_of_le (by rw [show takesB 33 = 0 from rfl]; omega)] at h
    exact done_33 h hB hr hc r1 r2 (by omega) (by omega)
  · have y1 : (0 : Int) ≤ (m.stack.length : Int) := z1
    have y2 : (1 : Int) ≤ (m.back.length : Int) := z2
    have y3 : (m.stack.length : Int) - 0 + 1 ≤ 48 := z3
    have y4 : (m.back.length : Int) - 1 + 0 ≤ 48 := z4
    have r1 : 0 ≤ m.stack.length := by omega
    have r2 : 1 ≤ m.back.length := by omega
    rw [show m.stack.drop (m.stack.length - takesN 34) = [] from List.drop_eq_nil_of_le (by rw [show takesN 34 = 0 from rfl]; omega), show m.back.drop (m.back.length - takesB 34) = [nth m.back 0] from drop_one r2] at h
    exact done_34 h hB hr hc r1 r2 (by omega) (by omega)
  · have y1 : (0 : Int) ≤ (m.stack.length : Int) := z1
    have y2 : (1 : Int) ≤ (m.back.length : Int) := z2
    have y3 : (m.stack.length : Int) - 0 + 1 ≤ 48 := z3
    have y4 : (m.back.length : Int) - 1 + 1 ≤ 48 := z4
    have r1 : 0 ≤ m.stack.length := by omega
    have r2 : 1 ≤ m.back.length := by omega
    rw [show m.stack.drop (m.stack.length - takesN 35) = [] from List.drop_eq_nil_of_le (by rw [show takesN 35 = 0 from rfl]; omega), show m.back.drop (m.back.length - takesB 35) = [nth m.back 0] from drop_one r2] at h
    exact done_35 h hB hr hc r1 r2 (by omega) (by omega)
  · have y1 : (2 : Int) ≤ (m.stack.length : Int) := z1
    have y2 : (0 : Int) ≤ (m.back.length : Int) := z2
    have y3 : (m.stack.length : Int) - 2 + 0 ≤ 48 := z3
    have y4 : (m.back.length : Int) - 0 + 2 ≤ 48 := z4
    have r1 : 2 ≤ m.stack.length := by omega
    have r2 : 0 ≤ m.back.length := by omega
    rw [show m.stack.drop (m.stack.length - takesN 36) = [nth m.stack 1, nth m.stack 0] from drop_two r1, show m.back.drop (m.back.length - takesB 36) = [] from List.drop_eq_nil_of_le (by rw [show takesB 36 = 0 from rfl]; omega)] at h
    exact done_36 h hB hr hc r1 r2 (by omega) (by omega)
  · have y1 : (0 : Int) ≤ (m.stack.length : Int) := z1
    have y2 : (2 : Int) ≤ (m.back.length : Int) := z2
    have y3 : (m.stack.length : Int) - 0 + 0 ≤ 48 := z3
    have y4 : (m.back.length : Int) - 2 + 2 ≤ 48 := z4
    have r1 : 0 ≤ m.stack.length := by omega
    have r2 : 2 ≤ m.back.length := by omega
    rw [show m.stack.drop (m.stack.length - takesN 37) = [] from List.drop_eq_nil_of_le (by rw [show takesN 37 = 0 from rfl]; omega), show m.back.drop (m.back.length - takesB 37) = [nth m.back 1, nth m.back 0] from drop_two r2] at h
    exact done_37 h hB hr hc r1 r2 (by omega) (by omega)
  · have y1 : (1 : Int) ≤ (m.stack.length : Int) := z1
    have y2 : (2 : Int) ≤ (m.back.length : Int) := z2
    have y3 : (m.stack.length : Int) - 1 + 0 ≤ 48 := z3
    have y4 : (m.back.length : Int) - 2 + 2 ≤ 48 := z4
    have r1 : 1 ≤ m.stack.length := by omega
    have r2 : 2 ≤ m.back.length := by omega
    rw [show m.stack.drop (m.stack.length - takesN 38) = [nth m.stack 0] from drop_one r1, show m.back.drop (m.back.length - takesB 38) = [nth m.back 1, nth m.back 0] from drop_two r2] at h
    exact done_38 h hB hr hc r1 r2 (by omega) (by omega)
  · have y1 : (0 : Int) ≤ (m.stack.length : Int) := z1
    have y2 : (3 : Int) ≤ (m.back.length : Int) := z2
    have y3 : (m.stack.length : Int) - 0 + 1 ≤ 48 := z3
    have y4 : (m.back.length : Int) - 3 + 3 ≤ 48 := z4
    have r1 : 0 ≤ m.stack.length := by omega
    have r2 : 3 ≤ m.back.length := by omega
    rw [show m.stack.drop (m.stack.length - takesN 39) = [] from List.drop_eq_nil_of_le (by rw [show takesN 39 = 0 from rfl]; omega), show m.back.drop (m.back.length - takesB 39) = [nth m.back 2, nth m.back 1, nth m.back 0] from drop_three r2] at h
    exact done_39 h hB hr hc r1 r2 (by omega) (by omega)
  · have y1 : (0 : Int) ≤ (m.stack.length : Int) := z1
    have y2 : (2 : Int) ≤ (m.back.length : Int) := z2
    have y3 : (m.stack.length : Int) - 0 + 0 ≤ 48 := z3
    have y4 : (m.back.length : Int) - 2 + 0 ≤ 48 := z4
    have r1 : 0 ≤ m.stack.length := by omega
    have r2 : 2 ≤ m.back.length := by omega
    rw [show m.stack.drop (m.stack.length - takesN 40) = [] from List.drop_eq_nil_of_le (by rw [show takesN 40 = 0 from rfl]; omega), show m.back.drop (m.back.length - takesB 40) = [nth m.back 1, nth m.back 0] from drop_two r2] at h
    exact done_40 h hB hr hc r1 r2 (by omega) (by omega)
  · have y1 : (1 : Int) ≤ (m.stack.length : Int) := z1
    have y2 : (0 : Int) ≤ (m.back.length : Int) := z2
    have y3 : (m.stack.length : Int) - 1 + 0 ≤ 48 := z3
    have y4 : (m.back.length : Int) - 0 + 0 ≤ 48 := z4
    have r1 : 1 ≤ m.stack.length := by omega
    have r2 : 0 ≤ m.back.length := by omega
    rw [show m.stack.drop (m.stack.length - takesN 41) = [nth m.stack 0] from drop_one r1, show m.back.drop (m.back.length - takesB 41) = [] from List.drop_eq_nil_of_le (by rw [show takesB 41 = 0 from rfl]; omega)] at h
    exact done_41 h hB hr hc r1 r2 (by omega) (by omega)
  · have y1 : (1 : Int) ≤ (m.stack.length : Int) := z1
    have y2 : (0 : Int) ≤ (m.back.length : Int) := z2
    have y3 : (m.stack.length : Int) - 1 + 0 ≤ 48 := z3
    have y4 : (m.back.length : Int) - 0 + 0 ≤ 48 := z4
    have r1 : 1 ≤ m.stack.length := by omega
    have r2 : 0 ≤ m.back.length := by omega
    rw [show m.stack.drop (m.stack.length - takesN 42) = [nth m.stack 0] from drop_one r1, show m.back.drop (m.back.length - takesB 42) = [] from List.drop_eq_nil_of_le (by rw [show takesB 42 = 0 from rfl]; omega)] at h
    exact done_42 h hB hr hc r1 r2 (by omega) (by omega) hZ hT
  · have y1 : (0 : Int) ≤ (m.stack.length : Int) := z1
    have y2 : (0 : Int) ≤ (m.back.length : Int) := z2
    have y3 : (m.stack.length : Int) - 0 + 1 ≤ 48 := z3
    have y4 : (m.back.length : Int) - 0 + 0 ≤ 48 := z4
    have r1 : 0 ≤ m.stack.length := by omega
    have r2 : 0 ≤ m.back.length := by omega
    rw [show m.stack.drop (m.stack.length - takesN 43) = [] from List.drop_eq_nil_of_le (by rw [show takesN 43 = 0 from rfl]; omega), show m.back.drop (m.back.length - takesB 43) = [] from List.drop_eq_nil_of_le (by rw [show takesB 43 = 0 from rfl]; omega)] at h
    exact done_43 h hB hr hc r1 r2 (by omega) (by omega) hin
  · have y1 : (1 : Int) ≤ (m.stack.length : Int) := z1
    have y2 : (0 : Int) ≤ (m.back.length : Int) := z2
    have y3 : (m.stack.length : Int) - 1 + 0 ≤ 48 := z3
    have y4 : (m.back.length : Int) - 0 + 1 ≤ 48 := z4
    have r1 : 1 ≤ m.stack.length := by omega
    have r2 : 0 ≤ m.back.length := by omega
    rw [show m.stack.drop (m.stack.length - takesN 44) = [nth m.stack 0] from drop_one r1, show m.back.drop (m.back.length - takesB 44) = [] from List.drop_eq_nil_of_le (by rw [show takesB 44 = 0 from rfl]; omega)] at h
    exact done_44 h hB hr hc r1 r2 (by omega) (by omega)
  · have y1 : (1 : Int) ≤ (m.stack.length : Int) := z1
    have y2 : (0 : Int) ≤ (m.back.length : Int) := z2
    have y3 : (m.stack.length : Int) - 1 + 0 ≤ 48 := z3
    have y4 : (m.back.length : Int) - 0 + 0 ≤ 48 := z4
    have r1 : 1 ≤ m.stack.length := by omega
    have r2 : 0 ≤ m.back.length := by omega
    rw [show m.stack.drop (m.stack.length - takesN 45) = [nth m.stack 0] from drop_one r1, show m.back.drop (m.back.length - takesB 45) = [] from List.drop_eq_nil_of_le (by rw [show takesB 45 = 0 from rfl]; omega)] at h
    exact done_45 h hB hr hc r1 r2 (by omega) (by omega)
  · have y1 : (1 : Int) ≤ (m.stack.length : Int) := z1
    have y2 : (0 : Int) ≤ (m.back.length : Int) := z2
    have y3 : (m.stack.length : Int) - 1 + 0 ≤ 48 := z3
    have y4 : (m.back.length : Int) - 0 + 4 ≤ 48 := z4
    have r1 : 1 ≤ m.stack.length := by omega
    have r2 : 0 ≤ m.back.length := by omega
    rw [show m.stack.drop (m.stack.length - takesN 46) = [nth m.stack 0] from drop_one r1, show m.back.drop (m.back.length - takesB 46) = [] from List.drop_eq_nil_of_le (by rw [show takesB 46 = 0 from rfl]; omega)] at h
    exact done_46 h hB hr hc r1 r2 (by omega) (by omega)
  · have y1 : (0 : Int) ≤ (m.stack.length : Int) := z1
    have y2 : (0 : Int) ≤ (m.back.length : Int) := z2
    have y3 : (m.stack.length : Int) - 0 + 0 ≤ 48 := z3
    have y4 : (m.back.length : Int) - 0 + 0 ≤ 48 := z4
    have r1 : 0 ≤ m.stack.length := by omega
    have r2 : 0 ≤ m.back.length := by omega
    rw [show m.stack.drop (m.stack.length - takesN 47) = [] from List.drop_eq_nil_of_le (by rw [show takesN 47 = 0 from rfl]; omega), show m.back.drop (m.back.length - takesB 47) = [] from List.drop_eq_nil_of_le (by rw [show takesB 47 = 0 from rfl]; omega)] at h
    exact done_47 h hB hr hc r1 r2 (by omega) (by omega)
end
end Go.Proofs.YtlomfmilohbgpaaGreatDoor.Inn
/- Package inner: an operation that lacks nothing. -/
namespace Go.Proofs.YtlomfmilohbgpaaGreatDoor.Inn
open Go.RowKit Book Mem Mach
set_option linter.unusedVariables false
set_option linter.unusedSimpArgs false
theorem keepP {w' : World} {B q ps gs pb gb pf : Nat} {vC vH : Value} {ch : List Int} {vs vb vm : Value} {m : M} (h : Mc w' B q ps gs pb gb pf vC vH ch vs vb vm m) : w'.cell? ⟨q, 10, none⟩ = some (.pointer (some ⟨ps, 0, none⟩)) ∧ w'.cell? ⟨q, 11, none⟩ = some (.pointer (some ⟨pb, 0, none⟩)) := ⟨h.ptrs.1, h.ptrs.2.1⟩
theorem Mc.xset {w' : World} {B q ps gs pb gb pf : Nat} {vC vH : Value} {ch : List Int} {vs vb vm : Value} {m : M} {xb : Nat} (h : Mc w' B q ps gs pb gb pf vC vH ch vs vb vm m) (hn : xb ∉ feet q ps gs pb gb pf vC vH) (i j : Nat) (u v : Value) :
    Mc ((w'.setCell ⟨xb, i, none⟩ u).setCell ⟨xb, j, none⟩ v) B q ps gs pb gb pf vC vH ch vs vb vm m :=
  h.touch ((Stirred.setCell w' ⟨xb, i, none⟩ u).trans (Stirred.setCell _ ⟨xb, j, none⟩ v) (fun k hk => .inl hk)) (fun f hf hm => hn (by rw [List.mem_singleton] at hm; exact (show f = xb from hm) ▸ hf))
section
variable {w : World} {B q ps gs pb gb pf : Nat} {vC vH : Value} {ch : List Int} {vs vb vm : Value} {m : M} {xb : Nat} {g nx : Int}
set_option maxHeartbeats 16000000 in
set_option maxRecDepth 100000 in
theorem operate_do (h : Mc w B q ps gs pb gb pf vC vH ch vs vb vm m) (k : Nat) (hk : k < 48) (hx : w.heap[xb]? = some (.cells (new8 k g m.ip nx) 103 (0, 0))) (hxf : xb ∉ feet q ps gs pb gb pf vC vH) (hB : B ≤ w.heap.size) (hBx : B ≤ xb) (hr : Right m) (hc : Cells m) (hin : m.inp.size ≤ maxLen) (hZ : Zeros w) (hT : Tens w)
    (hgz : ∀ wc, Below B w wc → Zeros wc ∧ Tens wc) (hl : lackM m k = 0) :
    Calls Tryz.prog 63 #[.pointer (some ⟨q, 0, none⟩), .pointer (some ⟨xb, 0, none⟩)] w (Gone w B q (feet q ps gs pb gb pf vC vH) (xb :: feet q ps gs pb gb pf vC vH) m.ip (exec k m nx g)) := by
  have HH := Lib.hid h
  have HX := Lib.hid hx
  have HXF := Lib.hid hxf
  have HB := Lib.hid hB
  have HBW := Lib.hid hB
  have HRC := Lib.hid (And.intro hr (And.intro hc hin))
  have HZ := Lib.hid hgz
  have HL := Lib.hid hl
  have T := Lib.hid (opTakes_same k w)
  have L := Lib.hid (lack_any h.mach k hk)
  rw [hl] at L
  rw [moves_nat hk] at T
  have hm := moves_all ⟨k, hk⟩
  simp only at hm
  have hz := lack_zero hl
  have ea : (movesOf k).1 = ((takesN k : Nat) : Int) := by unfold takesN; omega
  have eb : (movesOf k).2.1 = ((takesB k : Nat) : Int) := by unfold takesB; omega
  have hta : takesN k ≤ m.stack.length := by rw [ea] at hz; omega
  have htb : takesB k ≤ m.back.length := by rw [eb] at hz; omega
  rw [ea, eb] at T
  have hs48 := h.st.fits
  have hb48 := h.bk.fits
  have c0 : w.cell? ⟨xb, 0, none⟩ = some (.int .i64 (k : Int)) := whole_cell hx rfl
  obtain ⟨n1, n2, n3⟩ := h.ptrs
  obtain ⟨a, ha⟩ : ∃ a, takesN k = a := ⟨_, rfl⟩
  obtain ⟨b, hb⟩ : ∃ b, takesB k = b := ⟨_, rfl⟩
  have HA := Lib.hid (And.intro ha hb)
  rw [ha] at T hta
  rw [hb] at T htb
  have HT1 := Lib.hid (fun n wc (hbw : Below (w.drewN n).heap.size (w.drewN n) wc) => top_any ((h.touch (Stirred.drewN w n []) (fun _ _ => List.not_mem_nil)).below hbw).st a hta)
  have HT2 := Lib.hid (fun n wc (hbw : Below (w.drewN n).heap.size (w.drewN n) wc) => top_any ((h.touch (Stirred.drewN w n []) (fun _ _ => List.not_mem_nil)).below hbw).bk b htb)
  have HTL := Lib.hid (And.intro hta htb)
  clear h hx hxf hB hr hc hin hZ hT hgz hl ea eb hz hm ha hb hta htb
  go_enter Tryz.func63, Tryz.ntmps63
  go_wp2_with fail
  refine T.out.mono ?_
  rintro e wz ⟨rfl, hwz⟩
  subst wz
  go_wp2_with fail
  refine L.out.mono ?_
  rintro e wz ⟨rfl, n, hq⟩
  have HM := Lib.hid (show Mc wz B q ps gs pb gb pf vC vH ch vs vb vm m by rw [hq]; exact HH.out.touch (Stirred.drewN w n []) (fun _ _ => List.not_mem_nil))
  have HX := Lib.hid (show wz.heap[xb]? = some (.cells (new8 k g m.ip nx) 103 (0, 0)) by rw [hq]; exact HX.out)
  have HS := Lib.hid (show Stirred w wz (xb :: feet q ps gs pb gb pf vC vH) by rw [hq]; exact Stirred.drewN w n _)
  have HB := Lib.hid (show B ≤ wz.heap.size by rw [hq]; exact HB.out)
  clear hq T L c0 n1 n2 n3 HT1 HT2 HH
  have T1 := Lib.hid (fun wc (hbw : Below wz.heap.size wz wc) => top_any (HM.out.below hbw).st a HTL.out.1)
  have T2 := Lib.hid (fun wc (hbw : Below wz.heap.size wz wc) => top_any (HM.out.below hbw).bk b HTL.out.2)
  have hbz : Hid (Below wz.heap.size wz wz.drew) := (Below.refl _ _).drew
  have HBZ := hbz
  have d2 : wz.cell? ⟨xb, 2, none⟩ = some (.slice none 0 0) := whole_cell HX.out rfl
  have d3 : wz.cell? ⟨xb, 3, none⟩ = some (.slice none 0 0) := whole_cell HX.out rfl
  have e2 : wz.frozen? ⟨xb, 2, none⟩ = false := whole_frozen HX.out 2
  have e3 : wz.frozen? ⟨xb, 3, none⟩ = false := whole_frozen HX.out 3
  clear hbz
  go_wp2_with fail
  go_region_held3 (fun w' => w'.cell? ⟨q, 10, none⟩ = some (.pointer (some ⟨ps, 0, none⟩)) ∧ w'.cell? ⟨q, 11, none⟩ = some (.pointer (some ⟨pb, 0, none⟩)))
    (first
      | exact keepP (HM.out.below HBZ.out)
      | exact keepP ((HM.out.below HBZ.out).xset HXF.out 2 3 _ _))
    (first
      | (go_at_call_of 77 (Value.pointer (some (⟨ps, 0, none⟩ : Addr))); refine (T1.out _ HBZ.out).mono ?_; rintro e wt ⟨gt, rfl, hrow, hb⟩; have hrow := Row.from hrow HBZ.out.size; have HBZ := Lib.hid (HBZ.out.trans (hb.mono HBZ.out.size)); have HRT := Lib.hid hrow; have hXt := (Stirred.of_below HBZ.out []).whole HX.out List.not_mem_nil; have d2 := whole_cell (j := 2) hXt rfl; have d3 := whole_cell (j := 3) hXt rfl; have e2 := whole_frozen hXt 2; have e3 := whole_frozen hXt 3; clear hrow hb hXt)
      | (go_at_call_of 77 (Value.pointer (some (⟨pb, 0, none⟩ : Addr))); refine (T2.out _ HBZ.out).mono ?_; rintro e wt ⟨gk, rfl, hrow, hb⟩; have hrow := Row.from hrow HBZ.out.size; have HBZ := Lib.hid (HBZ.out.trans (hb.mono HBZ.out.size)); (try have HRT := Lib.hid (HRT.out.below hb)); have HRK := Lib.hid hrow; have hXt := (Stirred.of_below HBZ.out []).whole HX.out List.not_mem_nil; have d2 := whole_cell (j := 2) hXt rfl; have d3 := whole_cell (j := 3) hXt rfl; have e2 := whole_frozen hXt 2; have e3 := whole_frozen hXt 3; clear hrow hb hXt))
  have hne : ∀ z, wz.heap.size ≤ z → z ∉ feet q ps gs pb gb pf vC vH := fun z hz hm => by have := (HM.out.feet_lt z hm).2; omega
  have hgt : wz.heap.size ≤ gt := HRT.out.2
  have hgk : wz.heap.size ≤ gk := HRK.out.2
  have hxz : xb < wz.heap.size := whole_lt HX.out
  have hsx := (Stirred.setCell wt ⟨xb, 2, none⟩ (.slice (some ⟨gt, 0, none⟩) a a)).trans (Stirred.setCell _ ⟨xb, 3, none⟩ (.slice (some ⟨gk, 0, none⟩) b b)) (fun k hk => .inl hk)
  have hla : (m.stack.drop (m.stack.length - takesN k)).length = a := by rw [List.length_drop, HA.out.1]; have := HTL.out.1; omega
  have hlb : (m.back.drop (m.back.length - takesB k)).length = b := by rw [List.length_drop, HA.out.2]; have := HTL.out.2; omega
  have hX0 := (Stirred.of_below HBZ.out []).whole HX.out List.not_mem_nil
  have hP : Pre ((wt.setCell ⟨xb, 2, none⟩ (.slice (some ⟨gt, 0, none⟩) a a)).setCell ⟨xb, 3, none⟩ (.slice (some ⟨gk, 0, none⟩) b b)) B q ps gs pb gb pf vC vH ch vs vb vm m xb k g m.ip nx gt gk (m.stack.drop (m.stack.length - takesN k)) (m.back.drop (m.back.length - takesB k)) := by
    refine ⟨(HM.out.below HBZ.out).xset HXF.out 2 3 _ _, ⟨?_, ?_, ?_⟩, HXF.out, hne gt hgt, hne gk hgk⟩
    · rw [hla, hlb, whole_set (whole_set hX0 2 _) 3 _]
      rfl
    · rw [HA.out.1]
      exact hsx.whole HRT.out.1 (by rw [List.mem_singleton]; show gt ≠ xb; omega)
    · rw [HA.out.2]
      exact hsx.whole HRK.out.1 (by rw [List.mem_singleton]; show gk ≠ xb; omega)
  have hS3 := (HS.out.trans (Stirred.of_below HBZ.out []) (fun k hk => by cases hk)).trans hsx (fun k hk => .inl (by rw [List.mem_singleton.1 hk]; exact List.mem_cons_self))
  generalize (wt.setCell ⟨xb, 2, none⟩ (.slice (some ⟨gt, 0, none⟩) a a)).setCell ⟨xb, 3, none⟩ (.slice (some ⟨gk, 0, none⟩) b b) = w3 at *
  have hbB : ∀ z ∈ xb :: feet q ps gs pb gb pf vC vH, B ≤ z := fun z hz => by
    rcases List.mem_cons.1 hz with rfl | hz
    · exact hBx
    · exact (HM.out.feet_lt z hz).1
  have hb3 := hS3.below hbB HBW.out
  have hB3 : B ≤ w3.heap.size := Nat.le_trans HBW.out hS3.size
  have C := Lib.hid (do_all k hk hP hB3 HRC.out.1 HRC.out.2.1 HRC.out.2.2 (HZ.out w3 hb3).1 (HZ.out w3 hb3).2 HL.out)
  rw [HA.out.1, HA.out.2] at C
  have HS := Lib.hid hS3
  have HNX := Lib.hid (show xb < w3.heap.size from whole_lt hP.x.box)
  clear hP hS3 hbB hb3 hB3 hne hgt hgk hxz hsx hla hlb hX0 hk d2 d3 e2 e3
  clear HM HX HRT HRK HBZ T1 T2
  go_wp2_with fail
  refine C.out.mono ?_
  rintro e w4 hD
  clear C
  rcases hD with ⟨m1, gs1, gbl, nx1, hok, r1, r2, r3, r4, heq⟩ | ⟨m1, c, herr, h1, h2, h3⟩
  · obtain ⟨F', vgs, vgb, L, rfl, ⟨p2, g2, p3, g3, p4, vC2, vH2, ch2, vs2, vb2, vm2, rfl, hM⟩, hbx, hS, hF, hd1, hd2, hL⟩ := hok
    have HM := Lib.hid hM
    have HEQ := Lib.hid heq
    have HR4 := Lib.hid (And.intro r1 (And.intro r2 (And.intro r3 r4)))
    have HSA := Lib.hid (HS.out.trans hS (fun f hf => .inl hf))
    have HFA := Lib.hid (fun f hf => (hF f hf).imp id (fun e => Nat.le_trans HS.out.size e) : ∀ f ∈ feet q p2 g2 p3 g3 p4 vC2 vH2, f ∈ feet q ps gs pb gb pf vC vH ∨ w.heap.size ≤ f)
    have HXN := Lib.hid (fun hm => (hF xb hm).elim HXF.out (fun e => by have := HNX.out; omega) : xb ∉ feet q p2 g2 p3 g3 p4 vC2 vH2)
    have HBX := Lib.hid hbx
    have HD1 := Lib.hid (fun w' hs => hd1.reads (fun b hb => ⟨(hL b hb).1, (hL b hb).2.2⟩) hs : ∀ w', Stirred w4 w' (feet q p2 g2 p3 g3 p4 vC2 vH2) → Reads w' vgs gs1)
    have HD2 := Lib.hid (fun w' hs => hd2.reads (fun b hb => ⟨(hL b hb).1, (hL b hb).2.2⟩) hs : ∀ w', Stirred w4 w' (feet q p2 g2 p3 g3 p4 vC2 vH2) → Reads w' vgb gbl)
    have hs48 := hM.st.fits
    have hb48 := hM.bk.fits
    have n1 := hM.ptrs.1
    have LS := Lib.hid (len_any (hM.touch (Stirred.drewN w4 1 []) (fun _ _ => List.not_mem_nil)).st)
    have CT := Lib.hid ((hM.touch (Stirred.drewN w4 1 []) (fun _ _ => List.not_mem_nil)).cut (m1.stack.length - a) (by omega))
    obtain ⟨ns, hns⟩ : ∃ n, m1.stack.length = n := ⟨_, rfl⟩
    obtain ⟨na, hna⟩ : ∃ n, ns - a = n := ⟨_, rfl⟩
    rw [cutTo_less (by omega)] at CT
    rw [hns] at LS CT hs48 r1
    rw [hna] at CT
    have hwr : IntKind.i64.wrap ((ns : Int) - (a : Int)) = (na : Int) := (IntWalk.i64_in _ (by omega)).trans (by omega)
    have HNA := Lib.hid (And.intro hns hna)
    clear hM heq r2 r3 r4 hS hF hbx hd1 hd2 hL hns hna HNX HS
    go_wp2_with fail
    go_region_held3 (fun w' => w'.cell? ⟨q, 10, none⟩ = some (.pointer (some ⟨p2, 0, none⟩)))
      (first
        | exact n1
        | exact HM5.out.ptrs.1)
      (first
        | (go_at_call 66; refine LS.out.mono ?_; rintro e wy ⟨rfl, hwy⟩; subst wy)
        | (go_at_call 67; refine CT.out.mono ?_; rintro e w5 ⟨rfl, hM, hS⟩; have HM5 := Lib.hid hM; have HS5 := Lib.hid ((Stirred.drewN w4 1 _).trans hS (fun k hk => .inl hk)); clear hM hS))
    have hz2 : less m1.stack a = m1.stack.take na := by unfold less; rw [HNA.out.1, HNA.out.2]
    rw [← hz2] at HM5
    have HEL := Lib.hid (less_length m1.stack a)
    clear hwr hz2 n1 LS CT
    -- what is given to the stack
    have n1 := HM5.out.ptrs.1
    have HBX5 := Lib.hid (HS5.out.whole HBX.out HXN.out)
    have k4 : w5.cell? ⟨xb, 4, none⟩ = some vgs := whole_cell HBX5.out rfl
    have PT := Lib.hid ((HM5.out.touch (Stirred.drewN w5 1 []) (fun _ _ => List.not_mem_nil)).push vgs gs1 (fun w' hs => HD1.out w' ((HS5.out.trans (Stirred.drewN w5 1 _) (fun f hf => .inl hf)).trans hs (fun f hf => .inl hf))) (by show (less m1.stack a).length + gs1.length ≤ 48; rw [HEL.out]; exact HR4.out.2.1))
    go_wp2_with fail
    go_region_held3 (fun w' => w'.cell? ⟨q, 10, none⟩ = some (.pointer (some ⟨p2, 0, none⟩)) ∧ w'.cell? ⟨xb, 4, none⟩ = some vgs)
      (first
        | exact ⟨n1, k4⟩
        | exact ⟨HM6.out.ptrs.1, whole_cell HBX6.out rfl⟩)
      (first
        | (go_at_call 69; refine PT.out.mono ?_; rintro e w6 ⟨rfl, hM, hS⟩; have HM6 := Lib.hid hM; have HBX6 := Lib.hid (((Stirred.drewN w5 1 _).trans hS (fun k hk => .inl hk)).whole HBX5.out HXN.out); have HS6 := Lib.hid (HS5.out.trans ((Stirred.drewN w5 1 _).trans hS (fun k hk => .inl hk)) (fun k hk => .inl hk)); clear hM hS))
    clear PT k4 n1 HM5 HBX5 HS5 HD1
    -- what was taken of the return stack goes
    have n2 := HM6.out.ptrs.2.1
    have LB := Lib.hid (len_any (HM6.out.touch (Stirred.drewN w6 1 []) (fun _ _ => List.not_mem_nil)).bk)
    have hb9 := HR4.out.2.2.1
    have CB := Lib.hid ((HM6.out.touch (Stirred.drewN w6 1 []) (fun _ _ => List.not_mem_nil)).cutB (m1.back.length - b) (by omega))
    obtain ⟨nb, hnb⟩ : ∃ n, m1.back.length = n := ⟨_, rfl⟩
    obtain ⟨nc, hnc⟩ : ∃ n, nb - b = n := ⟨_, rfl⟩
    rw [cutTo_less (by show m1.back.length - b ≤ m1.back.length; omega)] at CB
    rw [show ({ m1 with stack := less m1.stack a ++ gs1 } : M).back.length = nb from hnb] at LB
    rw [hnb] at CB hb9 hb48
    rw [hnc] at CB
    have hwr : IntKind.i64.wrap ((nb : Int) - (b : Int)) = (nc : Int) := (IntWalk.i64_in _ (by omega)).trans (by omega)
    have HNB := Lib.hid (And.intro hnb hnc)
    clear hnb hnc
    go_wp2_with fail
    go_region_held3 (fun w' => w'.cell? ⟨q, 11, none⟩ = some (.pointer (some ⟨p3, 0, none⟩)))
      (first
        | exact n2
        | exact HM7.out.ptrs.2.1)
      (first
        | (go_at_call 66; refine LB.out.mono ?_; rintro e wy ⟨rfl, hwy⟩; subst wy)
        | (go_at_call 67; refine CB.out.mono ?_; rintro e w7 ⟨rfl, hM, hS⟩; have HM7 := Lib.hid hM; have HBX7 := Lib.hid (((Stirred.drewN w6 1 _).trans hS (fun k hk => .inl hk)).whole HBX6.out HXN.out); have HS7 := Lib.hid (HS6.out.trans ((Stirred.drewN w6 1 _).trans hS (fun k hk => .inl hk)) (fun k hk => .inl hk)); clear hM hS))
    have hz3 : less m1.back b = m1.back.take nc := by unfold less; rw [HNB.out.1, HNB.out.2]
    rw [← hz3] at HM7
    have HEB := Lib.hid (less_length m1.back b)
    clear hwr hz3 n2 LB CB HM6 HBX6 HS6
    -- what is given to it
    have n2 := HM7.out.ptrs.2.1
    have k5 : w7.cell? ⟨xb, 5, none⟩ = some vgb := whole_cell HBX7.out rfl
    have PB := Lib.hid ((HM7.out.touch (Stirred.drewN w7 1 []) (fun _ _ => List.not_mem_nil)).pushB vgb gbl (fun w' hs => HD2.out w' ((HS7.out.trans (Stirred.drewN w7 1 _) (fun f hf => .inl hf)).trans hs (fun f hf => .inl hf))) (by show (less m1.back b).length + gbl.length ≤ 48; rw [HEB.out]; exact HR4.out.2.2.2))
    go_wp2_with fail
    go_region_held3 (fun w' => w'.cell? ⟨q, 11, none⟩ = some (.pointer (some ⟨p3, 0, none⟩)) ∧ w'.cell? ⟨xb, 5, none⟩ = some vgb)
      (first
        | exact ⟨n2, k5⟩
        | exact ⟨HM8.out.ptrs.2.1, whole_cell HBX8.out rfl⟩)
      (first
        | (go_at_call 69; refine PB.out.mono ?_; rintro e w8 ⟨rfl, hM, hS⟩; have HM8 := Lib.hid hM; have HBX8 := Lib.hid (((Stirred.drewN w7 1 _).trans hS (fun k hk => .inl hk)).whole HBX7.out HXN.out); have HS8 := Lib.hid (HS7.out.trans ((Stirred.drewN w7 1 _).trans hS (fun k hk => .inl hk)) (fun k hk => .inl hk)); clear hM hS))
    clear PB k5 n2 HM7 HBX7 HS7 HD2
    have k7 : w8.cell? ⟨xb, 7, none⟩ = some (.int .i64 nx1) := whole_cell HBX8.out rfl
    have c0 : w8.cell? ⟨q, 0, none⟩ = some (.int .i64 m1.ip) := whole_cell HM8.out.box rfl
    have f0 : w8.frozen? ⟨q, 0, none⟩ = false := whole_frozen HM8.out.box 0
    have HM9 := Lib.hid (HM8.out.set' 0 (.int .i64 nx1) { m1 with ip := nx1, stack := less m1.stack a ++ gs1, back := less m1.back b ++ gbl } rfl rfl rfl rfl)
    go_wp2
    go_ret
    refine .inl ⟨_, rfl, ?_, (HSA.out.trans (HS8.out.more (cs := xb :: feet q p2 g2 p3 g3 p4 vC2 vH2) (fun f hf => List.mem_cons_of_mem _ hf)) ?_).trans (HM9.out.2.more (cs := xb :: feet q p2 g2 p3 g3 p4 vC2 vH2) (fun f hf => List.mem_cons_of_mem _ hf)) ?_, HFA.out⟩
    · rw [HEQ.out]
      exact HM9.out.1.mach
    · intro f hf
      rcases List.mem_cons.1 hf with rfl | hf
      · exact .inl List.mem_cons_self
      · exact (HFA.out f hf).imp (fun e => List.mem_cons_of_mem _ e) id
    · intro f hf
      rcases List.mem_cons.1 hf with rfl | hf
      · exact .inl List.mem_cons_self
      · exact (HFA.out f hf).imp (fun e => List.mem_cons_of_mem _ e) id
  · obtain ⟨F', rfl, hMk, hS, hF⟩ := herr
    have HR := Lib.hid (show Gone w B q (feet q ps gs pb gb pf vC vH) (xb :: feet q ps gs pb gb pf vC vH) m.ip (exec k m nx g) (.returned (faultV c m.ip)) w4 from .inr ⟨F', m1, c, rfl, h1, h2, h3, hMk, HS.out.trans hS (fun f hf => .inl hf), fun f hf => (hF f hf).imp id (fun e => Nat.le_trans HS.out.size e)⟩)
    clear h1 h2 h3 hMk hS hF
    go_wp2
    go_ret
    exact HR.out
end
end Go.Proofs.YtlomfmilohbgpaaGreatDoor.Inn
/- Package inner: a word is called; the fault of an operation. -/
namespace Go.Proofs.YtlomfmilohbgpaaGreatDoor.Inn
open Go.RowKit Book Mem Mach
set_option linter.unusedVariables false
set_option linter.unusedSimpArgs false
section
variable {w : World} {B q ps gs pb gb pf : Nat} {vC vH : Value} {ch : List Int} {vs vb vm : Value} {m : M}
set_option maxHeartbeats 8000000 in
set_option maxRecDepth 100000 in
theorem call_yes (h : Mc w B q ps gs pb gb pf vC vH ch vs vb vm m) (xt : Int) (hf : m.back.length < 48) :
    Calls Tryz.prog 61 #[.pointer (some ⟨q, 0, none⟩), .int .i64 xt] w (DidM w B q ps gs pb gb pf vC vH ch vs vb vm { m with ip := xt, back := m.back ++ [wrap64 (m.ip + 1)] } .nilIface) := by
  have HH := Lib.hid h
  have HF := Lib.hid hf
  obtain ⟨n1, n2, n3⟩ := h.ptrs
  have c0 : w.cell? ⟨q, 0, none⟩ = some (.int .i64 m.ip) := whole_cell h.box rfl
  clear h hf
  obtain ⟨w1, g, hw1, hg, HRW, HB1, HG⟩ := row_box w [wrap64 (m.ip + 1)]
  change w.alloc (.cells #[.int .i64 (wrap64 (m.ip + 1))] 3) = w1 at hw1
  go_enter Tryz.func61, Tryz.ntmps61
  go_wp2_with fail
  clear hw1 hg
  refine ((HH.out.below HB1.out).pushB (rowV g 1) [wrap64 (m.ip + 1)] (HRW.out.stays rfl (fun k hk => by rw [← HG.out]; exact (HH.out.feet_lt k hk).2)) (by have := HF.out; simp; omega)).mono ?_
  rintro e w2 ⟨rfl, hM, hS⟩
  have HR := Lib.hid (hM.set' 0 (.int .i64 xt) { m with ip := xt, back := m.back ++ [wrap64 (m.ip + 1)] } rfl rfl rfl rfl)
  have HSS := Lib.hid ((Stirred.of_below HB1.out _).trans hS (fun k hk => .inl hk))
  have c1 : w2.cell? ⟨q, 0, none⟩ = some (.int .i64 m.ip) := whole_cell hM.box rfl
  have f1 : w2.frozen? ⟨q, 0, none⟩ = false := whole_frozen hM.box 0
  clear hM hS c0 n1 n2 n3
  go_wp2
  go_ret
  exact ⟨rfl, HR.out.1, HSS.out.trans HR.out.2 (fun k hk => .inl hk)⟩
/-- the return stack is full: new memory alone -/
def Denied (w : World) (v : Value) (e : Ending) (w' : World) : Prop := e = .returned v ∧ Below w.heap.size w w'
set_option maxHeartbeats 8000000 in
set_option maxRecDepth 100000 in
theorem call_no (h : Mc w B q ps gs pb gb pf vC vH ch vs vb vm m) (xt : Int) (hf : 48 ≤ m.back.length) :
    Calls Tryz.prog 61 #[.pointer (some ⟨q, 0, none⟩), .int .i64 xt] w (Denied w (faultV (-5) m.ip)) := by
  have HH := Lib.hid h
  have HF := Lib.hid hf
  obtain ⟨n1, n2, n3⟩ := h.ptrs
  have c0 : w.cell? ⟨q, 0, none⟩ = some (.int .i64 m.ip) := whole_cell h.box rfl
  clear h hf
  obtain ⟨w1, g, hw1, hg, HRW, HB1, HG⟩ := row_box w [wrap64 (m.ip + 1)]
  change w.alloc (.cells #[.int .i64 (wrap64 (m.ip + 1))] 3) = w1 at hw1
  go_enter Tryz.func61, Tryz.ntmps61
  go_wp2_with fail
  clear hw1 hg
  refine (push_no (HH.out.below HB1.out).bk (rowV g 1) 1 ⟨_, _, rfl⟩ (by decide) (by have := HF.out; omega)).mono ?_
  rintro e wz ⟨rfl, hwz⟩
  subst wz
  go_wp2_with (go_at_call 60; refine (new_some (-5) m.ip (by decide) _).mono ?_; rintro e w2 ⟨rfl, rfl⟩)
  go_ret
  exact ⟨rfl, HB1.out⟩
end
end Go.Proofs.YtlomfmilohbgpaaGreatDoor.Inn
/- Package inner: what the cell at Ip says is done, or it can't be. -/
namespace Go.Proofs.YtlomfmilohbgpaaGreatDoor.Inn
open Go.RowKit Book Mem Mach
set_option linter.unusedVariables false
set_option linter.unusedSimpArgs false
/-- what the tables hold -/
structure Tabs (w : World) : Prop where
  names : NamesIs w
  err : ErrorType w
  zeros : Zeros w
  tens : Tens w
theorem Tabs.mono {w w' : World} (h : Tabs w) (hb : Below w.heap.size w w') : Tabs w' := ⟨h.names.mono hb, h.err.mono hb, h.zeros.mono hb, h.tens.mono hb⟩
/-- an error, and what is in it -/
def Errs (w : World) (c ip : Int) (v : Value) : Prop := (∃ t x, v = .iface t x) ∧ ∃ ws, Chain w c ip ws v
theorem Errs.fault (w : World) (c ip : Int) : Errs w c ip (faultV c ip) := ⟨⟨_, _, rfl⟩, [], rfl⟩
/-- what a try has become -/
def Tried (w : World) (B q : Nat) (F : List Nat) (ip : Int) (mE : M) (e : Ending) (w' : World) : Prop :=
  (∃ F', e = .returned .nilIface ∧ Mk w' B q F' mE ∧ Below B w w') ∨
  ∃ F' m1 c v, e = .returned v ∧ Errs w' c ip v ∧ (c == 0) = false ∧ Cell.In m1.handler ∧ mE = Mach.fault m1 c ∧ Mk w' B q F' m1 ∧ Below B w w'
section
variable {w : World} {B q ps gs pb gb pf : Nat} {vC vH : Value} {ch : List Int} {vs vb vm : Value} {m : M}
/-- a cell is asked for, whichever -/
theorem load_what {p : Nat} {cs : List Int} (h : Fld.Mem.FieldAt w B p vC vH cs ch) (a : Int) : ∃ x b, Calls Tryz.prog 59 #[.pointer (some ⟨p, 0, none⟩), .int .i64 a] w fun e w' => e = .returned (.tuple #[.int .i64 x, .bool b]) ∧ w' = w := by
  by_cases ha : 0 ≤ a ∧ a < (cs.length : Int)
  · have hl : a.toNat < cs.length := by omega
    have := Fld.load_yes h a.toNat cs[a.toNat] (List.getElem?_eq_getElem hl)
    rw [show ((a.toNat : Nat) : Int) = a by omega] at this
    exact ⟨_, _, this⟩
  · exact ⟨_, _, Fld.load_no h a ha⟩
set_option maxHeartbeats 8000000 in
set_option maxRecDepth 100000 in
theorem try_away (h : Mc w B q ps gs pb gb pf vC vH ch vs vb vm m) (hB : B ≤ w.heap.size) (hc : Cells m) (h0 : m.status = 0) (hi : ¬ (0 ≤ m.ip ∧ m.ip < (m.mem.length : Int))) :
    Calls Tryz.prog 47 #[.pointer (some ⟨q, 0, none⟩)] w (Tried w B q (feet q ps gs pb gb pf vC vH) m.ip (Mach.step m)) := by
  have HH := Lib.hid h
  have HE := Lib.hid (show Mach.step m = Mach.fault m (-9) by unfold Mach.step; rw [if_neg (by omega), if_pos (by omega)])
  have HC := Lib.hid hc.handler
  have HB := Lib.hid hB
  have L1 := Lib.hid (Fld.load_no h.me m.ip hi)
  obtain ⟨x, b, L2⟩ := load_what h.me (wrap64 (m.ip + 1))
  have L2 := Lib.hid L2
  obtain ⟨n1, n2, n3⟩ := h.ptrs
  have c0 : w.cell? ⟨q, 0, none⟩ = some (.int .i64 m.ip) := whole_cell h.box rfl
  clear h hc hi hB h0
  go_enter Tryz.func47, Tryz.ntmps47
  go_wp2_with fail
  refine L1.out.mono ?_
  rintro e wz ⟨rfl, hwz⟩
  subst wz
  go_wp2_with fail
  refine L2.out.mono ?_
  rintro e wz ⟨rfl, hwz⟩
  subst wz
  go_wp2_with (go_at_call 60; refine (new_some (-9) m.ip (by decide) _).mono ?_; rintro e w2 ⟨rfl, rfl⟩)
  go_ret
  exact .inr ⟨_, m, -9, _, rfl, Errs.fault _ _ _, by decide, HC.out, HE.out, HH.out.mach, Below.refl _ _⟩
/-- a cell that is no operation -/
theorem step_call (h0 : m.status = 0) {j : Nat} {c : Int} (hj : m.ip = (j : Int)) (hx : m.mem[j]? = some c) (hc : 64 ≤ c) : Mach.step m = if 48 ≤ m.back.length then Mach.fault m (-5) else { m with ip := c, back := m.back ++ [wrap64 (m.ip + 1)] } := by
  have hl := (List.getElem?_eq_some_iff.1 hx).1
  have hg : m.mem.getD m.ip.toNat 0 = c := by rw [List.getD_eq_getElem?_getD, hj, Int.toNat_natCast, hx]; rfl
  unfold Mach.step
  rw [if_neg (by omega), if_neg (by omega)]
  simp only [hg]
  rw [if_pos hc]
theorem step_none (h0 : m.status = 0) {j : Nat} {c : Int} (hj : m.ip = (j : Int)) (hx : m.mem[j]? = some c) (h1 : ¬ 64 ≤ c) (h2 : ¬ isOp c) : Mach.step m = Mach.fault m (-13) := by
  have hl := (List.getElem?_eq_some_iff.1 hx).1
  have hg : m.mem.getD m.ip.toNat 0 = c := by rw [List.getD_eq_getElem?_getD, hj, Int.toNat_natCast, hx]; rfl
  unfold Mach.step
  rw [if_neg (by omega), if_neg (by omega)]
  simp only [hg]
  rw [if_neg h1, if_pos (by unfold isOp at h2; omega)]
theorem step_op (h0 : m.status = 0) {j k : Nat} (hj : m.ip = (j : Int)) (hx : m.mem[j]? = some (k : Int)) (hk : k < 48) :
    Mach.step m = if argOf k = true ∧ m.mem.length ≤ j + 1 then Mach.fault m (-9) else if lackM m k = 0 then exec k m (m.ip + (if argOf k = true then 2 else 1)) (m.mem.getD (j + 1) 0) else Mach.fault m (lackM m k) := by
  have hl := (List.getElem?_eq_some_iff.1 hx).1
  have hg : m.mem.getD m.ip.toNat 0 = (k : Int) := by rw [List.getD_eq_getElem?_getD, hj, Int.toNat_natCast, hx]; rfl
  unfold Mach.step
  rw [if_neg (by omega), if_neg (by omega)]
  simp only [hg]
  rw [if_neg (by omega), if_neg (by omega), hj, Int.toNat_natCast, Int.toNat_natCast]
  by_cases c0 : argOf k = true ∧ m.mem.length ≤ j + 1
  · rw [if_pos c0, if_pos c0]
  · rw [if_neg c0, if_neg c0]
    unfold lackM
    by_cases c1 : (m.stack.length : Int) < (movesOf k).1
    · rw [if_pos c1, if_pos (by omega : (m.stack.length : Int) - (movesOf k).1 < 0), if_neg (by decide)]
    rw [if_neg c1, if_neg (by omega : ¬ (m.stack.length : Int) - (movesOf k).1 < 0)]
    by_cases c2 : (m.back.length : Int) < (movesOf k).2.1
    · rw [if_pos c2, if_pos (by omega : (m.back.length : Int) - (movesOf k).2.1 < 0), if_neg (by decide)]
    rw [if_neg c2, if_neg (by omega : ¬ (m.back.length : Int) - (movesOf k).2.1 < 0)]
    by_cases c3 : 48 < (m.stack.length : Int) - (movesOf k).1 + (movesOf k).2.2.1
    · rw [if_pos c3, if_pos c3, if_neg (by decide)]
    rw [if_neg c3, if_neg c3]
    by_cases c4 : 48 < (m.back.length : Int) - (movesOf k).2.1 + (movesOf k).2.2.2
    · rw [if_pos c4, if_pos c4, if_neg (by decide)]
    rw [if_neg c4, if_neg c4, if_pos rfl]
set_option maxHeartbeats 16000000 in
set_option maxRecDepth 100000 in
theorem try_call_yes (h : Mc w B q ps gs pb gb pf vC vH ch vs vb vm m) (hB : B ≤ w.heap.size) (hc : Cells m) (h0 : m.status = 0) {j : Nat} {c : Int} (hj : m.ip = (j : Int)) (hx : m.mem[j]? = some c) (h64 : 64 ≤ c) (hb : m.back.length < 48) :
    Calls Tryz.prog 47 #[.pointer (some ⟨q, 0, none⟩)] w (Tried w B q (feet q ps gs pb gb pf vC vH) m.ip (Mach.step m)) := by
  have HH := Lib.hid h
  have HC := Lib.hid hc.handler
  have HB := Lib.hid hB
  have hl := (List.getElem?_eq_some_iff.1 hx).1
  have h30 := h.me.len
  obtain ⟨n1, n2, n3⟩ := h.ptrs
  have c0 : w.cell? ⟨q, 0, none⟩ = some (.int .i64 m.ip) := whole_cell h.box rfl
  obtain ⟨x2, b2, L2⟩ := load_what h.me ((j : Int) + 1)
  have L2 := Lib.hid L2
  have L1 := Lib.hid (Fld.load_yes h.me j c hx)
  have A := Lib.hid (opArg_same c w)
  rw [hj] at c0
  have hA : argI c = false := by unfold argI; rw [if_neg (by unfold isOp; omega)]
  rw [hA] at A
  have HE := Lib.hid (step_call h0 hj hx h64)
  have C := Lib.hid (call_yes h c hb)
  have HBK := Lib.hid hb
  have HFL := Lib.hid (fun f hf => (h.feet_lt f hf).1 : ∀ f ∈ feet q ps gs pb gb pf vC vH, B ≤ f)
  have hcb : decide ((64 : Int) ≤ c) = true := decide_eq_true h64
  clear h hB hc hx h0 hA hb hj
  go_enter Tryz.func47, Tryz.ntmps47
  go_wp2_with fail
  refine L1.out.mono ?_
  rintro e wz ⟨rfl, hwz⟩
  subst wz
  go_wp2_with fail
  refine L2.out.mono ?_
  rintro e wz ⟨rfl, hwz⟩
  subst wz
  go_wp2_with fail
  refine A.out.mono ?_
  rintro e wz ⟨rfl, hwz⟩
  subst wz
  go_wp2_with fail
  refine C.out.mono ?_
  rintro e w1 ⟨rfl, hM, hS⟩
  have HM := Lib.hid hM
  have HS := Lib.hid hS
  clear hM hS
  go_wp2
  go_ret
  refine .inl ⟨feet q ps gs pb gb pf vC vH, rfl, ?_, HS.out.below HFL.out HB.out⟩
  rw [HE.out, if_neg (by have := HBK.out; omega)]
  exact HM.out.mach
set_option maxHeartbeats 16000000 in
set_option maxRecDepth 100000 in
theorem try_call_no (h : Mc w B q ps gs pb gb pf vC vH ch vs vb vm m) (hB : B ≤ w.heap.size) (hc : Cells m) (h0 : m.status = 0) {j : Nat} {c : Int} (hj : m.ip = (j : Int)) (hx : m.mem[j]? = some c) (h64 : 64 ≤ c) (hb : 48 ≤ m.back.length) :
    Calls Tryz.prog 47 #[.pointer (some ⟨q, 0, none⟩)] w (Tried w B q (feet q ps gs pb gb pf vC vH) m.ip (Mach.step m)) := by
  have HH := Lib.hid h
  have HC := Lib.hid hc.handler
  have HB := Lib.hid hB
  have hl := (List.getElem?_eq_some_iff.1 hx).1
  have h30 := h.me.len
  obtain ⟨n1, n2, n3⟩ := h.ptrs
  have c0 : w.cell? ⟨q, 0, none⟩ = some (.int .i64 m.ip) := whole_cell h.box rfl
  obtain ⟨x2, b2, L2⟩ := load_what h.me ((j : Int) + 1)
  have L2 := Lib.hid L2
  have L1 := Lib.hid (Fld.load_yes h.me j c hx)
  have A := Lib.hid (opArg_same c w)
  rw [hj] at c0
  have hA : argI c = false := by unfold argI; rw [if_neg (by unfold isOp; omega)]
  rw [hA] at A
  have HE := Lib.hid (show Mach.step m = Mach.fault m (-5) by rw [step_call h0 hj hx h64, if_pos hb])
  have C := Lib.hid (call_no h c hb)
  have hcb : decide ((64 : Int) ≤ c) = true := decide_eq_true h64
  have HJ := Lib.hid hj
  clear h hB hc hx h0 hA hb hj
  go_enter Tryz.func47, Tryz.ntmps47
  go_wp2_with fail
  refine L1.out.mono ?_
  rintro e wz ⟨rfl, hwz⟩
  subst wz
  go_wp2_with fail
  refine L2.out.mono ?_
  rintro e wz ⟨rfl, hwz⟩
  subst wz
  go_wp2_with fail
  refine A.out.mono ?_
  rintro e wz ⟨rfl, hwz⟩
  subst wz
  go_wp2_with fail
  refine C.out.mono ?_
  rintro e w1 ⟨rfl, hb⟩
  have HB1 := Lib.hid hb
  clear hb
  go_wp2
  go_ret
  exact .inr ⟨_, m, -5, _, rfl, Errs.fault _ _ _, by decide, HC.out, HE.out, (HH.out.below HB1.out).mach, HB1.out.mono HB.out⟩
set_option maxHeartbeats 16000000 in
set_option maxRecDepth 100000 in
theorem try_none (h : Mc w B q ps gs pb gb pf vC vH ch vs vb vm m) (hB : B ≤ w.heap.size) (hc : Cells m) (h0 : m.status = 0) {j : Nat} {c : Int} (hj : m.ip = (j : Int)) (hx : m.mem[j]? = some c) (h64 : ¬ 64 ≤ c) (hno : ¬ isOp c) :
    Calls Tryz.prog 47 #[.pointer (some ⟨q, 0, none⟩)] w (Tried w B q (feet q ps gs pb gb pf vC vH) m.ip (Mach.step m)) := by
  have HH := Lib.hid h
  have HC := Lib.hid hc.handler
  have HB := Lib.hid hB
  have hl := (List.getElem?_eq_some_iff.1 hx).1
  have h30 := h.me.len
  obtain ⟨n1, n2, n3⟩ := h.ptrs
  have c0 : w.cell? ⟨q, 0, none⟩ = some (.int .i64 m.ip) := whole_cell h.box rfl
  obtain ⟨x2, b2, L2⟩ := load_what h.me ((j : Int) + 1)
  have L2 := Lib.hid L2
  have L1 := Lib.hid (Fld.load_yes h.me j c hx)
  have A := Lib.hid (opArg_same c w)
  rw [hj] at c0
  have hA : argI c = false := by unfold argI; rw [if_neg hno]
  rw [hA] at A
  have hR : opB c = false := decide_eq_false hno
  have R := Lib.hid (opRight_same c w)
  rw [hR] at R
  have HE := Lib.hid (step_none h0 hj hx h64 hno)
  have hcb : decide ((64 : Int) ≤ c) = false := decide_eq_false h64
  have HJ := Lib.hid hj
  clear h hB hc hx h0 hA hR hno hj
  go_enter Tryz.func47, Tryz.ntmps47
  go_wp2_with fail
  refine L1.out.mono ?_
  rintro e wz ⟨rfl, hwz⟩
  subst wz
  go_wp2_with fail
  refine L2.out.mono ?_
  rintro e wz ⟨rfl, hwz⟩
  subst wz
  go_wp2_with fail
  refine A.out.mono ?_
  rintro e wz ⟨rfl, hwz⟩
  subst wz
  go_wp2_with (first
    | (go_at_call 44; refine R.out.mono ?_; rintro e wz ⟨rfl, hwz⟩; subst wz)
    | (go_at_call 60; refine (new_some (-13) (j : Int) (by decide) _).mono ?_; rintro e w2 ⟨rfl, rfl⟩))
  go_ret
  rw [HJ.out]
  exact .inr ⟨_, m, -13, _, rfl, Errs.fault _ _ _, by decide, HC.out, HE.out, HH.out.mach, Below.refl _ _⟩
set_option maxHeartbeats 16000000 in
set_option maxRecDepth 100000 in
theorem try_arg (h : Mc w B q ps gs pb gb pf vC vH ch vs vb vm m) (hB : B ≤ w.heap.size) (hc : Cells m) (h0 : m.status = 0) {j : Nat} {k : Nat} (hj : m.ip = (j : Int)) (hx : m.mem[j]? = some (k : Int)) (hk : k < 48) (ha : argOf k = true) (hno : m.mem.length ≤ j + 1) :
    Calls Tryz.prog 47 #[.pointer (some ⟨q, 0, none⟩)] w (Tried w B q (feet q ps gs pb gb pf vC vH) m.ip (Mach.step m)) := by
  have HH := Lib.hid h
  have HC := Lib.hid hc.handler
  have HB := Lib.hid hB
  have hl := (List.getElem?_eq_some_iff.1 hx).1
  have h30 := h.me.len
  obtain ⟨n1, n2, n3⟩ := h.ptrs
  have c0 : w.cell? ⟨q, 0, none⟩ = some (.int .i64 m.ip) := whole_cell h.box rfl
  have L2 := Lib.hid (Fld.load_no h.me ((j : Int) + 1) (by omega))
  have L1 := Lib.hid (Fld.load_yes h.me j (k : Int) hx)
  have A := Lib.hid (opArg_same (k : Int) w)
  rw [hj] at c0
  have hA : argI (k : Int) = true := by unfold argI; rw [if_pos (isOp_nat hk)]; exact ha
  rw [hA] at A
  have HE := Lib.hid (show Mach.step m = Mach.fault m (-9) by rw [step_op h0 hj hx hk, if_pos ⟨ha, hno⟩])
  have HJ := Lib.hid hj
  clear h hB hc hx h0 hA hno hj ha
  go_enter Tryz.func47, Tryz.ntmps47
  go_wp2_with fail
  refine L1.out.mono ?_
  rintro e wz ⟨rfl, hwz⟩
  subst wz
  go_wp2_with fail
  refine L2.out.mono ?_
  rintro e wz ⟨rfl, hwz⟩
  subst wz
  go_wp2_with fail
  refine A.out.mono ?_
  rintro e wz ⟨rfl, hwz⟩
  subst wz
  go_wp2_with (go_at_call 60; refine (new_some (-9) (j : Int) (by decide) _).mono ?_; rintro e w2 ⟨rfl, rfl⟩)
  go_ret
  rw [HJ.out]
  exact .inr ⟨_, m, -9, _, rfl, Errs.fault _ _ _, by decide, HC.out, HE.out, HH.out.mach, Below.refl _ _⟩
end
end Go.Proofs.YtlomfmilohbgpaaGreatDoor.Inn
/- Package inner: an operation is tried; a step. -/
namespace Go.Proofs.YtlomfmilohbgpaaGreatDoor.Inn
open Go.RowKit Book Mem Mach
set_option linter.unusedVariables false
set_option linter.unusedSimpArgs false
/-- a new box -/
theorem new_box (w : World) (cs : Array Value) (T : TypeId) : ∃ w1 g, w.alloc (.cells cs T) = w1 ∧ w.heap.size = g ∧ Hid (w1.heap[g]? = some (.cells cs T (0, 0))) ∧ Hid (Below w.heap.size w w1) ∧ Hid (w.heap.size = g) :=
  ⟨_, _, rfl, rfl, heap_alloc_new w _, (Below.refl w.heap.size w).alloc (Nat.le_refl _) _, rfl⟩
section
variable {w : World} {B q ps gs pb gb pf : Nat} {vC vH : Value} {ch : List Int} {vs vb vm : Value} {m : M}
theorem operate_any {xb : Nat} {g nx : Int} (h : Mc w B q ps gs pb gb pf vC vH ch vs vb vm m) (k : Nat) (hk : k < 48) (hx : w.heap[xb]? = some (.cells (new8 k g m.ip nx) 103 (0, 0))) (hxf : xb ∉ feet q ps gs pb gb pf vC vH) (hB : B ≤ w.heap.size) (hBx : B ≤ xb) (hr : Right m) (hc : Cells m) (hin : m.inp.size ≤ maxLen)
    (hE : ∀ wc, Below B w wc → Tabs wc) :
    Calls Tryz.prog 63 #[.pointer (some ⟨q, 0, none⟩), .pointer (some ⟨xb, 0, none⟩)] w (Gone w B q (feet q ps gs pb gb pf vC vH) (xb :: feet q ps gs pb gb pf vC vH) m.ip (if lackM m k = 0 then exec k m nx g else Mach.fault m (lackM m k))) := by
  by_cases hl : lackM m k = 0
  · rw [if_pos hl]
    have h0 := hE w (Below.refl _ _)
    exact operate_do h k hk hx hxf hB hBx hr hc hin h0.zeros h0.tens (fun wc hb => ⟨(hE wc hb).zeros, (hE wc hb).tens⟩) hl
  · rw [if_neg hl]
    exact operate_lack h k hk hx hc hl
set_option maxHeartbeats 16000000 in
set_option maxRecDepth 100000 in
theorem try_op_arg (h : Mc w B q ps gs pb gb pf vC vH ch vs vb vm m) (hB : B ≤ w.heap.size) (hr : Right m) (hc : Cells m) (hin : m.inp.size ≤ maxLen) (hE : ∀ wc, Below B w wc → Tabs wc) (h0 : m.status = 0) {j k : Nat} (hj : m.ip = (j : Int)) (hx : m.mem[j]? = some (k : Int)) (hk : k < 48) (ha : argOf k = true) (hno : j + 1 < m.mem.length) :
    Calls Tryz.prog 47 #[.pointer (some ⟨q, 0, none⟩)] w (Tried w B q (feet q ps gs pb gb pf vC vH) m.ip (Mach.step m)) := by
  have HH := Lib.hid h
  have HB := Lib.hid hB
  have HE := Lib.hid hE
  have hl := (List.getElem?_eq_some_iff.1 hx).1
  have h30 := h.me.len
  obtain ⟨n1, n2, n3⟩ := h.ptrs
  have c0 : w.cell? ⟨q, 0, none⟩ = some (.int .i64 m.ip) := whole_cell h.box rfl
  have L1 := Lib.hid (Fld.load_yes h.me j (k : Int) hx)
  obtain ⟨g, hg⟩ : ∃ g, m.mem[j + 1]? = some g := ⟨_, List.getElem?_eq_getElem (by omega)⟩
  have L2 := Lib.hid (Fld.load_yes h.me (j + 1) g hg)
  rw [show (((j + 1 : Nat) : Nat) : Int) = (j : Int) + 1 from rfl] at L2
  have hgd : m.mem.getD (j + 1) 0 = g := by rw [List.getD_eq_getElem?_getD, hg]; rfl
  have hA : argI (k : Int) = true := by unfold argI; rw [if_pos (isOp_nat hk)]; exact ha
  have A := Lib.hid (fun w => opArg_same (k : Int) w)
  rw [hA] at A
  have R := Lib.hid (opRight_same (k : Int) w)
  rw [show opB (k : Int) = true from decide_eq_true (isOp_nat hk)] at R
  have hst : Mach.step m = if lackM m k = 0 then exec k m (m.ip + 2) g else Mach.fault m (lackM m k) := by
    rw [step_op h0 hj hx hk, if_neg (by omega), hgd, show (if argOf k = true then (2 : Int) else 1) = 2 by rw [ha]; rfl]
  have HST := Lib.hid hst
  have HJ := Lib.hid hj
  have hcb : decide ((64 : Int) ≤ (k : Int)) = false := decide_eq_false (by omega)
  obtain ⟨w1, xb, hw1, hxb, HX1, HB1, HXG⟩ := new_box w (new8 k g (j : Int) ((j : Int) + 1)) 103
  have HM1 := Lib.hid (h.below HB1.out)
  have HXF := Lib.hid (show xb ∉ feet q ps gs pb gb pf vC vH from fun hm => by have h1 := (h.feet_lt xb hm).2; have h2 := HXG.out; omega)
  have HBX := Lib.hid (show B ≤ xb by have h2 := HXG.out; omega)
  have HFL := Lib.hid (fun f hf => (h.feet_lt f hf).1 : ∀ f ∈ feet q ps gs pb gb pf vC vH, B ≤ f)
  obtain ⟨w2, hw2⟩ : ∃ w2, w1.setCell ⟨xb, 7, none⟩ (.int .i64 ((j : Int) + 1 + 1)) = w2 := ⟨_, rfl⟩
  have HX2 := Lib.hid (show w2.heap[xb]? = some (.cells (new8 k g m.ip (m.ip + 2)) 103 (0, 0)) by rw [← hw2, (set8 HX1.out).1, hj, show (j : Int) + 1 + 1 = (j : Int) + 2 by omega])
  have hs2 : Stirred w1 w2 [xb] := by rw [← hw2]; exact Stirred.setCell _ _ _
  have HM2 := Lib.hid (HM1.out.touch hs2 (fun f hf hm => HXF.out (by rw [List.mem_singleton] at hm; exact (show f = xb from hm) ▸ hf)))
  have c7 : w1.cell? ⟨xb, 7, none⟩ = some (.int .i64 ((j : Int) + 1)) := whole_cell HX1.out rfl
  have f7 : w1.frozen? ⟨xb, 7, none⟩ = false := whole_frozen HX1.out 7
  have HBW2 := Lib.hid (show Below B w w2 from (HB1.out.mono HB.out).trans (hs2.below (fun f hf => by rw [List.mem_singleton.1 hf]; exact HBX.out) (Nat.le_trans HB.out HB1.out.size)))
  have O := Lib.hid (operate_any HM2.out k hk HX2.out HXF.out (Nat.le_trans HB.out HBW2.out.size) HBX.out hr hc hin (fun wc hb => HE.out wc (HBW2.out.trans hb)))
  rw [← HST.out] at O
  rw [hj] at c0
  change w.alloc (.cells #[.int .i64 k, .int .i64 g, .slice none 0 0, .slice none 0 0, .slice none 0 0, .slice none 0 0, .int .i64 j, .int .i64 ((j : Int) + 1)] 103) = w1 at hw1
  clear h hB hr hc hin hE h0 hj hx hA hst ha hno hg
  go_enter Tryz.func47, Tryz.ntmps47
  go_wp2_with fail
  refine L1.out.mono ?_
  rintro e wz ⟨rfl, hwz⟩
  subst wz
  go_wp2_with fail
  refine L2.out.mono ?_
  rintro e wz ⟨rfl, hwz⟩
  subst wz
  go_wp2_with fail
  refine (A.out _).mono ?_
  rintro e wz ⟨rfl, hwz⟩
  subst wz
  go_wp2_with fail
  refine R.out.mono ?_
  rintro e wz ⟨rfl, hwz⟩
  subst wz
  go_wp2_with fail
  refine (A.out _).mono ?_
  rintro e wz ⟨rfl, hwz⟩
  subst wz
  go_wp2_with fail
  refine O.out.mono ?_
  rintro e w3 hD
  clear O L1 L2 A R n1 n2 n3 c0 c7 f7 hw1 hw2 hxb
  rcases hD with ⟨F', rfl, hMk, hS, hF⟩ | ⟨F', m1, c, rfl, h1, h2, h3, hMk, hS, hF⟩
  · have HB3 := Lib.hid (HBW2.out.trans (hS.below (fun f hf => by rcases List.mem_cons.1 hf with rfl | hf; exact HBX.out; exact HFL.out f hf) (Nat.le_trans HB.out HBW2.out.size)))
    have HMK := Lib.hid hMk
    have N := Lib.hid (opName_same (k : Int) w3 (HE.out w3 HB3.out).names)
    clear hMk hS hF
    go_wp2_with (first
      | (go_at_call 64; refine N.out.mono ?_; rintro e wz ⟨rfl, hwz⟩; subst wz)
      | (go_at_call 62; refine (wrap_nil _ _).mono ?_; rintro e wz ⟨rfl, rfl⟩))
    go_ret
    exact .inl ⟨F', rfl, HMK.out, HB3.out⟩
  · have HB3 := Lib.hid (HBW2.out.trans (hS.below (fun f hf => by rcases List.mem_cons.1 hf with rfl | hf; exact HBX.out; exact HFL.out f hf) (Nat.le_trans HB.out HBW2.out.size)))
    have HMK := Lib.hid hMk
    have N := Lib.hid (opName_same (k : Int) w3 (HE.out w3 HB3.out).names)
    have HF3 := Lib.hid (And.intro h1 (And.intro h2 h3))
    clear hMk hS hF h1 h2 h3
    go_wp2_with (first
      | (go_at_call 64; refine N.out.mono ?_; rintro e wz ⟨rfl, hwz⟩; subst wz)
      | (go_at_call 62; refine (wrap_some _ _ _ _).mono ?_; rintro e w4 ⟨rfl, hw4⟩; have HB4 := Lib.hid (show Below w3.heap.size w3 w4 by rw [hw4]; exact (Below.refl _ _).alloc (Nat.le_refl _) _); have HN4 := Lib.hid (show w4.heap[w3.heap.size]? = some (.cells #[.string (nameI k), faultV c m.ip] 118 (0, 0)) by rw [hw4]; exact heap_alloc_new w3 _); clear hw4))
    go_ret
    have hb4 := HB4.out
    have hn4 := HN4.out
    refine .inr ⟨F', m1, c, _, rfl, ⟨⟨_, _, rfl⟩, [nameI k], w3.heap.size, faultV c m.ip, rfl, whole_lt hn4, whole_cell hn4 rfl, whole_cell hn4 rfl, rfl⟩, HF3.out.1, HF3.out.2.1, HF3.out.2.2, HMK.out.below hb4, HB3.out.trans (hb4.mono (Nat.le_trans HB.out HB3.out.size))⟩
set_option maxHeartbeats 16000000 in
set_option maxRecDepth 100000 in
theorem try_op (h : Mc w B q ps gs pb gb pf vC vH ch vs vb vm m) (hB : B ≤ w.heap.size) (hr : Right m) (hc : Cells m) (hin : m.inp.size ≤ maxLen) (hE : ∀ wc, Below B w wc → Tabs wc) (h0 : m.status = 0) {j k : Nat} (hj : m.ip = (j : Int)) (hx : m.mem[j]? = some (k : Int)) (hk : k < 48) (ha : argOf k = false) :
    Calls Tryz.prog 47 #[.pointer (some ⟨q, 0, none⟩)] w (Tried w B q (feet q ps gs pb gb pf vC vH) m.ip (Mach.step m)) := by
  have HH := Lib.hid h
  have HB := Lib.hid hB
  have HE := Lib.hid hE
  have hl := (List.getElem?_eq_some_iff.1 hx).1
  have h30 := h.me.len
  obtain ⟨n1, n2, n3⟩ := h.ptrs
  have c0 : w.cell? ⟨q, 0, none⟩ = some (.int .i64 m.ip) := whole_cell h.box rfl
  have L1 := Lib.hid (Fld.load_yes h.me j (k : Int) hx)
  obtain ⟨b2, L2⟩ : ∃ b, Calls Tryz.prog 59 #[.pointer (some ⟨pf, 0, none⟩), .int .i64 ((j : Int) + 1)] w fun e w' => e = .returned (.tuple #[.int .i64 (m.mem.getD (j + 1) 0), .bool b]) ∧ w' = w := by
    by_cases c1 : j + 1 < m.mem.length
    · have := Fld.load_yes h.me (j + 1) (m.mem.getD (j + 1) 0) (by rw [List.getD_eq_getElem?_getD, List.getElem?_eq_getElem c1]; rfl)
      exact ⟨_, this⟩
    · have := Fld.load_no h.me ((j : Int) + 1) (by omega)
      rw [show m.mem.getD (j + 1) 0 = 0 by rw [List.getD_eq_getElem?_getD, List.getElem?_eq_none (by omega)]; rfl]
      exact ⟨_, this⟩
  have L2 := Lib.hid L2
  obtain ⟨g, hgd⟩ : ∃ g, m.mem.getD (j + 1) 0 = g := ⟨_, rfl⟩
  rw [hgd] at L2
  have hA : argI (k : Int) = false := by unfold argI; rw [if_pos (isOp_nat hk)]; exact ha
  have A := Lib.hid (fun w => opArg_same (k : Int) w)
  rw [hA] at A
  have R := Lib.hid (opRight_same (k : Int) w)
  rw [show opB (k : Int) = true from decide_eq_true (isOp_nat hk)] at R
  have hst : Mach.step m = if lackM m k = 0 then exec k m (m.ip + 1) g else Mach.fault m (lackM m k) := by
    rw [step_op h0 hj hx hk, if_neg (by rw [ha]; rintro ⟨c, -⟩; cases c), hgd, show (if argOf k = true then (2 : Int) else 1) = 1 by rw [ha]; rfl]
  have HST := Lib.hid hst
  have HJ := Lib.hid hj
  have hcb : decide ((64 : Int) ≤ (k : Int)) = false := decide_eq_false (by omega)
  obtain ⟨w1, xb, hw1, hxb, HX1, HB1, HXG⟩ := new_box w (new8 k g (j : Int) ((j : Int) + 1)) 103
  have HM1 := Lib.hid (h.below HB1.out)
  have HXF := Lib.hid (show xb ∉ feet q ps gs pb gb pf vC vH from fun hm => by have h1 := (h.feet_lt xb hm).2; have h2 := HXG.out; omega)
  have HBX := Lib.hid (show B ≤ xb by have h2 := HXG.out; omega)
  have HFL := Lib.hid (fun f hf => (h.feet_lt f hf).1 : ∀ f ∈ feet q ps gs pb gb pf vC vH, B ≤ f)
  obtain ⟨w2, hw2⟩ : ∃ w2, w1 = w2 := ⟨_, rfl⟩
  have HX2 := Lib.hid (show w2.heap[xb]? = some (.cells (new8 k g m.ip (m.ip + 1)) 103 (0, 0)) by rw [← hw2, hj]; exact HX1.out)
  have HM2 := Lib.hid (show Mc w2 B q ps gs pb gb pf vC vH ch vs vb vm m by rw [← hw2]; exact HM1.out)
  have HBW2 := Lib.hid (show Below B w w2 by rw [← hw2]; exact HB1.out.mono HB.out)
  have O := Lib.hid (operate_any HM2.out k hk HX2.out HXF.out (Nat.le_trans HB.out HBW2.out.size) HBX.out hr hc hin (fun wc hb => HE.out wc (HBW2.out.trans hb)))
  rw [← HST.out] at O
  rw [hj] at c0
  change w.alloc (.cells #[.int .i64 k, .int .i64 g, .slice none 0 0, .slice none 0 0, .slice none 0 0, .slice none 0 0, .int .i64 j, .int .i64 ((j : Int) + 1)] 103) = w1 at hw1
  clear h hB hr hc hin hE h0 hj hx hA hst ha
  go_enter Tryz.func47, Tryz.ntmps47
  go_wp2_with fail
  refine L1.out.mono ?_
  rintro e wz ⟨rfl, hwz⟩
  subst wz
  go_wp2_with fail
  refine L2.out.mono ?_
  rintro e wz ⟨rfl, hwz⟩
  subst wz
  go_wp2_with fail
  refine (A.out _).mono ?_
  rintro e wz ⟨rfl, hwz⟩
  subst wz
  go_wp2_with fail
  refine R.out.mono ?_
  rintro e wz ⟨rfl, hwz⟩
  subst wz
  go_wp2_with fail
  refine (A.out _).mono ?_
  rintro e wz ⟨rfl, hwz⟩
  subst wz
  go_wp2_with fail
  refine O.out.mono ?_
  rintro e w3 hD
  clear O L1 L2 A R n1 n2 n3 c0 hw1 hw2 hxb
  rcases hD with ⟨F', rfl, hMk, hS, hF⟩ | ⟨F', m1, c, rfl, h1, h2, h3, hMk, hS, hF⟩
  · have HB3 := Lib.hid (HBW2.out.trans (hS.below (fun f hf => by rcases List.mem_cons.1 hf with rfl | hf; exact HBX.out; exact HFL.out f hf) (Nat.le_trans HB.out HBW2.out.size)))
    have HMK := Lib.hid hMk
    have N := Lib.hid (opName_same (k : Int) w3 (HE.out w3 HB3.out).names)
    clear hMk hS hF
    go_wp2_with (first
      | (go_at_call 64; refine N.out.mono ?_; rintro e wz ⟨rfl, hwz⟩; subst wz)
      | (go_at_call 62; refine (wrap_nil _ _).mono ?_; rintro e wz ⟨rfl, rfl⟩))
    go_ret
    exact .inl ⟨F', rfl, HMK.out, HB3.out⟩
  · have HB3 := Lib.hid (HBW2.out.trans (hS.below (fun f hf => by rcases List.mem_cons.1 hf with rfl | hf; exact HBX.out; exact HFL.out f hf) (Nat.le_trans HB.out HBW2.out.size)))
    have HMK := Lib.hid hMk
    have N := Lib.hid (opName_same (k : Int) w3 (HE.out w3 HB3.out).names)
    have HF3 := Lib.hid (And.intro h1 (And.intro h2 h3))
    clear hMk hS hF h1 h2 h3
    go_wp2_with (first
      | (go_at_call 64; refine N.out.mono ?_; rintro e wz ⟨rfl, hwz⟩; subst wz)
      | (go_at_call 62; refine (wrap_some _ _ _ _).mono ?_; rintro e w4 ⟨rfl, hw4⟩; have HB4 := Lib.hid (show Below w3.heap.size w3 w4 by rw [hw4]; exact (Below.refl _ _).alloc (Nat.le_refl _) _); have HN4 := Lib.hid (show w4.heap[w3.heap.size]? = some (.cells #[.string (nameI k), faultV c m.ip] 118 (0, 0)) by rw [hw4]; exact heap_alloc_new w3 _); clear hw4))
    go_ret
    have hb4 := HB4.out
    have hn4 := HN4.out
    refine .inr ⟨F', m1, c, _, rfl, ⟨⟨_, _, rfl⟩, [nameI k], w3.heap.size, faultV c m.ip, rfl, whole_lt hn4, whole_cell hn4 rfl, whole_cell hn4 rfl, rfl⟩, HF3.out.1, HF3.out.2.1, HF3.out.2.2, HMK.out.below hb4, HB3.out.trans (hb4.mono (Nat.le_trans HB.out HB3.out.size))⟩
end
end Go.Proofs.YtlomfmilohbgpaaGreatDoor.Inn
/- Package inner: a step of a machine. -/
namespace Go.Proofs.YtlomfmilohbgpaaGreatDoor.Inn
open Go.RowKit Book Mem Mach
set_option linter.unusedVariables false
set_option linter.unusedSimpArgs false
theorem fault_inp (s : M) (c : Int) : (Mach.fault s c).inp = s.inp := by unfold Mach.fault; split <;> rfl
theorem exec_inp (k : Nat) (s : M) (i g : Int) : (exec k s i g).inp = s.inp := by
  unfold exec
  split <;> simp only [apply_ite M.inp, fault_inp, ite_self]
theorem step_inp (s : M) : (Mach.step s).inp = s.inp := by
  unfold Mach.step
  simp only [apply_ite M.inp, fault_inp, exec_inp, ite_self]
section
variable {w : World} {B q ps gs pb gb pf : Nat} {vC vH : Value} {ch : List Int} {vs vb vm : Value} {m : M}
theorem try_any (h : Mc w B q ps gs pb gb pf vC vH ch vs vb vm m) (hB : B ≤ w.heap.size) (hr : Right m) (hc : Cells m) (hin : m.inp.size ≤ maxLen) (hE : ∀ wc, Below B w wc → Tabs wc) (h0 : m.status = 0) :
    Calls Tryz.prog 47 #[.pointer (some ⟨q, 0, none⟩)] w (Tried w B q (feet q ps gs pb gb pf vC vH) m.ip (Mach.step m)) := by
  by_cases hi : 0 ≤ m.ip ∧ m.ip < (m.mem.length : Int)
  · have hl : m.ip.toNat < m.mem.length := by omega
    obtain ⟨c, hx⟩ : ∃ c, m.mem[m.ip.toNat]? = some c := ⟨_, List.getElem?_eq_getElem hl⟩
    have hj : m.ip = ((m.ip.toNat : Nat) : Int) := by omega
    by_cases h64 : 64 ≤ c
    · by_cases hb : m.back.length < 48
      · exact try_call_yes h hB hc h0 hj hx h64 hb
      · exact try_call_no h hB hc h0 hj hx h64 (by omega)
    · by_cases hop : isOp c
      · obtain ⟨k, hk, rfl⟩ := nat_of_op hop
        cases ha : argOf k with
        | true =>
          by_cases hno : m.ip.toNat + 1 < m.mem.length
          · exact try_op_arg h hB hr hc hin hE h0 hj hx hk ha hno
          · exact try_arg h hB hc h0 hj hx hk ha (by omega)
        | false => exact try_op h hB hr hc hin hE h0 hj hx hk ha
      · exact try_none h hB hc h0 hj hx h64 hop
  · exact try_away h hB hc h0 hi
/-- a machine has gone a step -/
def Stepped (w : World) (B q : Nat) (mE : M) (e : Ending) (w' : World) : Prop := ∃ F', e = .returned (.tuple #[]) ∧ Mk w' B q F' mE ∧ Below B w w'
set_option maxHeartbeats 8000000 in
set_option maxRecDepth 100000 in
theorem step_any {F : List Nat} (h : Mk w B q F m) (hB : B ≤ w.heap.size) (hr : Right m) (hc : Cells m) (hin : m.inp.size ≤ maxLen) (hE : ∀ wc, Below B w wc → Tabs wc) (h0 : m.status = 0) :
    Calls Tryz.prog 31 #[.pointer (some ⟨q, 0, none⟩)] w (Stepped w B q (Mach.step m)) := by
  obtain ⟨ps, gs, pb, gb, pf, vC, vH, ch, vs, vb, vm, -, h⟩ := h
  have C := Lib.hid (try_any h hB hr hc hin hE h0)
  have HE := Lib.hid hE
  have HB := Lib.hid hB
  clear h hB hr hc hin hE h0
  go_enter Tryz.func31, Tryz.ntmps31
  go_wp2_with fail
  refine C.out.mono ?_
  rintro e w1 hD
  rcases hD with ⟨F', rfl, hMk, hb⟩ | ⟨F', m1, c, v, rfl, ⟨⟨t, x, rfl⟩, ws, hch⟩, h1, h2, h3, hMk, hb⟩
  · have HMK := Lib.hid hMk
    have HB1 := Lib.hid hb
    clear hMk hb C
    go_wp2
    go_end0
    exact ⟨F', rfl, HMK.out, HB1.out⟩
  · obtain ⟨ps, gs, pb, gb, pf, vC, vH, ch, vs, vb, vm, -, hM⟩ := hMk
    have HM := Lib.hid hM
    have HB1 := Lib.hid hb
    have CD := Lib.hid (code_any ws _ c m.ip w1 hch (HE.out w1 hb).err)
    have HF := Lib.hid (And.intro h2 h3)
    clear hM hb hch h1 h2 h3 C
    go_wp2_with fail
    refine CD.out.mono ?_
    rintro e w2 ⟨rfl, hb2⟩
    have HB2 := Lib.hid (HB1.out.trans (hb2.mono (Nat.le_trans HB.out HB1.out.size)))
    have FT := Lib.hid (fault_any (HM.out.below hb2) (Nat.le_trans HB.out HB2.out.size) HF.out.1 c)
    have HFL := Lib.hid (fun f hf => (HM.out.feet_lt f hf).1 : ∀ f ∈ feet q ps gs pb gb pf vC vH, B ≤ f)
    clear hb2 CD
    go_wp2_with fail
    refine FT.out.mono ?_
    rintro e w3 ⟨rfl, hM, hS⟩
    have HM3 := Lib.hid hM
    have HB3 := Lib.hid (HB2.out.trans (hS.below HFL.out (Nat.le_trans HB.out HB2.out.size)))
    clear hM hS
    go_wp2
    go_end0
    refine ⟨feet q ps gs pb gb pf vC vH, rfl, ?_, HB3.out⟩
    rw [HF.out.2]
    exact HM3.out.mach
end
end Go.Proofs.YtlomfmilohbgpaaGreatDoor.Inn
