
/- Package weave: what Op, Arg, Call, New, Open, Here, Mem answer and do, of a weave and of none. -/
import Derived.Test.YtcpdhfigaoaohaaDoorWvPub
namespace Go.Proofs.YtcpdhfigaoaohaaDoor.Wv
open Go.RowKit Book Book.Wide Mem
set_option linter.unusedSimpArgs false
set_option linter.unusedVariables false
section
variable {w : World} {B p gm : Nat} {bs : List Nat} {m : M}
set_option maxHeartbeats 2000000 in
theorem op_any (h : WAt w B p gm bs m) (a : Int) : Calls Tryd.prog 8 #[.pointer (some ⟨p, 0, none⟩), .int .i64 a] w (Did w B p gm bs (.int .i64 (op a m).1) (op a m).2) := by
  have HA := Lib.hid h
  have D := Lib.hid (made_any h)
  have C := Lib.hid (opRight_same a w)
  have E := Lib.hid (opArg_same a w)
  clear h
  by_cases h1 : opB a = true
  · rw [h1] at C
    by_cases h2 : argI a = true
    · rw [h2] at E
      have HF := Lib.hid (show op a m = (-13, m) by unfold op; rw [h1, h2]; rfl)
      clear h1 h2
      go_enter Tryd.func8, Tryd.ntmps8
      go_wp2_with fail
      refine D.out.mono ?_
      rintro e wz ⟨rfl, hwz⟩
      subst wz
      clear D
      go_wp2_with fail
      refine C.out.mono ?_
      rintro e wz ⟨rfl, hwz⟩
      subst wz
      clear C
      go_wp2_with fail
      refine E.out.mono ?_
      rintro e wz ⟨rfl, hwz⟩
      subst wz
      clear E
      go_wp2
      go_ret
      exact Did.same (by rw [HF.out]; exact HA.out) (by rw [HF.out]; rfl) (Below.refl _ _)
    · have h2' : argI a = false := by simpa using h2
      rw [h2'] at E
      have HF := Lib.hid (show op a m = put1 a m by unfold op; rw [h1, h2']; rfl)
      clear h1 h2 h2'
      obtain ⟨w2, b, hw2, hb2, hrd, hbe⟩ := cell_box w [a]
      change w.alloc (.cells #[.int .i64 a] 3) = w2 at hw2
      have L := Lib.hid (lay_any (HA.out.below hbe) (.slice (some ⟨b, 0, none⟩) 1 1) [a] (hrd 1 rfl) (by simp))
      rw [layR_one] at L
      have HBE := Lib.hid hbe
      clear hrd hbe
      go_enter Tryd.func8, Tryd.ntmps8
      go_wp2_with fail
      refine D.out.mono ?_
      rintro e wz ⟨rfl, hwz⟩
      subst wz
      clear D
      go_wp2_with fail
      refine C.out.mono ?_
      rintro e wz ⟨rfl, hwz⟩
      subst wz
      clear C
      go_wp2_with fail
      refine E.out.mono ?_
      rintro e wz ⟨rfl, hwz⟩
      subst wz
      clear E
      go_wp2_with fail
      refine L.out.mono ?_
      rintro e w3 ⟨rfl, bs3, hA, hS, hT⟩
      have HR := Lib.hid (show ∃ bs', WAt w3 B p gm bs' (put1 a m).2 ∧ Stirred w w3 bs ∧ ∀ k ∈ bs', k ∈ bs ∨ w.heap.size ≤ k from ⟨bs3, hA, (Stirred.of_below HBE.out bs).trans hS (fun k hk => .inl hk), fun k hk => (hT k hk).imp id (fun e => Nat.le_trans HBE.out.size e)⟩)
      clear L hA hS hT
      go_wp2
      go_ret
      exact ⟨by rw [HF.out]; rfl, by rw [HF.out]; exact HR.out⟩
  · have h1' : opB a = false := by simpa using h1
    rw [h1'] at C
    have HF := Lib.hid (show op a m = (-13, m) by unfold op; rw [h1']; rfl)
    clear h1 h1' E
    go_enter Tryd.func8, Tryd.ntmps8
    go_wp2_with fail
    refine D.out.mono ?_
    rintro e wz ⟨rfl, hwz⟩
    subst wz
    clear D
    go_wp2_with fail
    refine C.out.mono ?_
    rintro e wz ⟨rfl, hwz⟩
    subst wz
    clear C
    go_wp2
    go_ret
    exact Did.same (by rw [HF.out]; exact HA.out) (by rw [HF.out]; rfl) (Below.refl _ _)
set_option maxHeartbeats 2000000 in
theorem arg_any (h : WAt w B p gm bs m) (a v : Int) : Calls Tryd.prog 10 #[.pointer (some ⟨p, 0, none⟩), .int .i64 a, .int .i64 v] w (Did w B p gm bs (.int .i64 (arg a v m).1) (arg a v m).2) := by
  have HA := Lib.hid h
  have D := Lib.hid (made_any h)
  have E := Lib.hid (opArg_same a w)
  clear h
  by_cases h2 : argI a = true
  · rw [h2] at E
    have HF := Lib.hid (show arg a v m = put2 a v m by unfold arg; rw [h2]; rfl)
    clear h2
    obtain ⟨w2, b, hw2, hb2, hrd, hbe⟩ := cell_box w [a, v]
    change w.alloc (.cells #[.int .i64 a, .int .i64 v] 3) = w2 at hw2
    have L := Lib.hid (lay_any (HA.out.below hbe) (.slice (some ⟨b, 0, none⟩) 2 2) [a, v] (hrd 2 rfl) (by simp))
    rw [layR_two] at L
    have HBE := Lib.hid hbe
    clear hrd hbe
    go_enter Tryd.func10, Tryd.ntmps10
    go_wp2_with fail
    refine D.out.mono ?_
    rintro e wz ⟨rfl, hwz⟩
    subst wz
    clear D
    go_wp2_with fail
    refine E.out.mono ?_
    rintro e wz ⟨rfl, hwz⟩
    subst wz
    clear E
    go_wp2_with fail
    refine L.out.mono ?_
    rintro e w3 ⟨rfl, bs3, hA, hS, hT⟩
    have HR := Lib.hid (show ∃ bs', WAt w3 B p gm bs' (put2 a v m).2 ∧ Stirred w w3 bs ∧ ∀ k ∈ bs', k ∈ bs ∨ w.heap.size ≤ k from ⟨bs3, hA, (Stirred.of_below HBE.out bs).trans hS (fun k hk => .inl hk), fun k hk => (hT k hk).imp id (fun e => Nat.le_trans HBE.out.size e)⟩)
    clear L hA hS hT
    go_wp2
    go_ret
    exact ⟨by rw [HF.out]; rfl, by rw [HF.out]; exact HR.out⟩
  · have h2' : argI a = false := by simpa using h2
    rw [h2'] at E
    have HF := Lib.hid (show arg a v m = (-13, m) by unfold arg; rw [h2']; rfl)
    clear h2 h2'
    go_enter Tryd.func10, Tryd.ntmps10
    go_wp2_with fail
    refine D.out.mono ?_
    rintro e wz ⟨rfl, hwz⟩
    subst wz
    clear D
    go_wp2_with fail
    refine E.out.mono ?_
    rintro e wz ⟨rfl, hwz⟩
    subst wz
    clear E
    go_wp2
    go_ret
    exact Did.same (by rw [HF.out]; exact HA.out) (by rw [HF.out]; rfl) (Below.refl _ _)
set_option maxHeartbeats 2000000 in
theorem call_any (h : WAt w B p gm bs m) (a : Int) : Calls Tryd.prog 12 #[.pointer (some ⟨p, 0, none⟩), .int .i64 a] w (Did w B p gm bs (.int .i64 (call a m).1) (call a m).2) := by
  have HA := Lib.hid h
  have D := Lib.hid (made_any h)
  clear h
  by_cases h2 : a < 64
  · have HF := Lib.hid (show call a m = (-9, m) by unfold call; rw [if_pos h2])
    go_enter Tryd.func12, Tryd.ntmps12
    go_wp2_with fail
    refine D.out.mono ?_
    rintro e wz ⟨rfl, hwz⟩
    subst wz
    clear D
    go_wp2
    go_ret
    exact Did.same (by rw [HF.out]; exact HA.out) (by rw [HF.out]; rfl) (Below.refl _ _)
  · have HF := Lib.hid (show call a m = put1 a m by unfold call; rw [if_neg h2])
    obtain ⟨w2, b, hw2, hb2, hrd, hbe⟩ := cell_box w [a]
    change w.alloc (.cells #[.int .i64 a] 3) = w2 at hw2
    have L := Lib.hid (lay_any (HA.out.below hbe) (.slice (some ⟨b, 0, none⟩) 1 1) [a] (hrd 1 rfl) (by simp))
    rw [layR_one] at L
    have HBE := Lib.hid hbe
    clear hrd hbe
    go_enter Tryd.func12, Tryd.ntmps12
    go_wp2_with fail
    refine D.out.mono ?_
    rintro e wz ⟨rfl, hwz⟩
    subst wz
    clear D
    go_wp2_with fail
    refine L.out.mono ?_
    rintro e w3 ⟨rfl, bs3, hA, hS, hT⟩
    have HR := Lib.hid (show ∃ bs', WAt w3 B p gm bs' (put1 a m).2 ∧ Stirred w w3 bs ∧ ∀ k ∈ bs', k ∈ bs ∨ w.heap.size ≤ k from ⟨bs3, hA, (Stirred.of_below HBE.out bs).trans hS (fun k hk => .inl hk), fun k hk => (hT k hk).imp id (fun e => Nat.le_trans HBE.out.size e)⟩)
    clear L hA hS hT
    go_wp2
    go_ret
    exact ⟨by rw [HF.out]; rfl, by rw [HF.out]; exact HR.out⟩
theorem open_any (h : WAt w B p gm bs m) : Calls Tryd.prog 20 #[.pointer (some ⟨p, 0, none⟩)] w fun e w' => e = .returned (.int .i64 (m.l.length : Int)) ∧ w' = w := by
  obtain ⟨v, h1, h2, _⟩ := h.box
  obtain ⟨vo, vc, rfl⟩ := h2.slice (open_len m.l) (by decide)
  have c2 : w.cell? ⟨p, 2, none⟩ = some (.slice vo m.l.length vc) := whole_cell h1 rfl
  clear h h1 h2
  go_enter Tryd.func20, Tryd.ntmps20
  go_wp2
  go_ret
  exact ⟨rfl, rfl⟩
theorem here_any (h : WAt w B p gm bs m) : Calls Tryd.prog 19 #[.pointer (some ⟨p, 0, none⟩)] w fun e w' => e = .returned (.int .i64 (m.here : Int)) ∧ w' = w := by
  obtain ⟨v, h1, _⟩ := h.box
  have c1 : w.cell? ⟨p, 1, none⟩ = some (.int .i64 (m.here : Int)) := whole_cell h1 rfl
  clear h h1
  go_enter Tryd.func19, Tryd.ntmps19
  go_wp2
  go_ret
  exact ⟨rfl, rfl⟩
theorem WAt.owns (h : WAt w B p gm bs m) : Owns w B 3 (.slice (some ⟨gm, 0, none⟩) m.mem.length m.mem.length) (vals m.mem) := by
  have hm := h.most
  rcases Nat.eq_zero_or_pos m.mem.length with h0 | h0
  · rw [h0]
    exact .inl ⟨_, rfl, by rw [List.eq_nil_of_length_eq_zero h0]; rfl⟩
  · have := Owns.of_whole (n := m.mem.length) (cap := m.mem.length) h.cells h.low.2 (by simp) (by simp) h0 (by unfold maxLen; omega)
    rw [List.take_of_length_le (by simp)] at this
    exact this
theorem mem_any (h : WAt w B p gm bs m) : Calls Tryd.prog 16 #[.pointer (some ⟨p, 0, none⟩)] w fun e w' => ∃ c, e = .returned c ∧ Owns w' w.heap.size 3 c (vals m.mem) ∧ Below w.heap.size w w' := by
  have hm := h.most
  have C := Lib.hid (clone_any _ B m.mem w h.owns (by omega))
  obtain ⟨v, h1, _⟩ := h.box
  obtain ⟨L, hL⟩ : ∃ L, m.mem.length = L := ⟨_, rfl⟩
  rw [hL] at h1 C
  have c0 : w.cell? ⟨p, 0, none⟩ = some (.slice (some ⟨gm, 0, none⟩) L L) := whole_cell h1 rfl
  clear h h1 hm hL
  go_enter Tryd.func16, Tryd.ntmps16
  go_wp2_with fail
  refine C.out.mono ?_
  rintro e w1 ⟨c, rfl, hc, hb⟩
  have HC := Lib.hid (And.intro hc hb)
  clear hc hb C
  go_wp2
  go_ret
  exact ⟨_, rfl, HC.out.1, HC.out.2⟩
end
theorem op_nil (a : Int) (w : World) : Calls Tryd.prog 8 #[.pointer none, .int .i64 a] w fun e w' => e = .returned (.int .i64 (-13)) ∧ w' = w := by
  have D := Lib.hid (made_nil w)
  go_enter Tryd.func8, Tryd.ntmps8
  go_wp2_with fail
  refine D.out.mono ?_
  rintro e wz ⟨rfl, hwz⟩
  subst wz
  clear D
  go_wp2
  go_ret
  exact ⟨rfl, rfl⟩
theorem arg_nil (a v : Int) (w : World) : Calls Tryd.prog 10 #[.pointer none, .int .i64 a, .int .i64 v] w fun e w' => e = .returned (.int .i64 (-13)) ∧ w' = w := by
  have D := Lib.hid (made_nil w)
  go_enter Tryd.func10, Tryd.ntmps10
  go_wp2_with fail
  refine D.out.mono ?_
  rintro e wz ⟨rfl, hwz⟩
  subst wz
  clear D
  go_wp2
  go_ret
  exact ⟨rfl, rfl⟩
theorem call_nil (a : Int) (w : World) : Calls Tryd.prog 12 #[.pointer none, .int .i64 a] w fun e w' => e = .returned (.int .i64 (-13)) ∧ w' = w := by
  have D := Lib.hid (made_nil w)
  go_enter Tryd.func12, Tryd.ntmps12
  go_wp2_with fail
  refine D.out.mono ?_
  rintro e wz ⟨rfl, hwz⟩
  subst wz
  clear D
  go_wp2
  go_ret
  exact ⟨rfl, rfl⟩
theorem open_nil (w : World) : Calls Tryd.prog 20 #[.pointer none] w fun e w' => e = .returned (.int .i64 0) ∧ w' = w := by
  go_enter Tryd.func20, Tryd.ntmps20
  go_wp2
  go_ret
  exact ⟨rfl, rfl⟩
theorem here_nil (w : World) : Calls Tryd.prog 19 #[.pointer none] w fun e w' => e = .returned (.int .i64 0) ∧ w' = w := by
  go_enter Tryd.func19, Tryd.ntmps19
  go_wp2
  go_ret
  exact ⟨rfl, rfl⟩
theorem mem_nil (w : World) : Calls Tryd.prog 16 #[.pointer none] w fun e w' => e = .returned (.slice none 0 0) ∧ w' = w := by
  go_enter Tryd.func16, Tryd.ntmps16
  go_wp2
  go_ret
  exact ⟨rfl, rfl⟩
/-- a weave that was made in this call -/
def MadeW (w : World) (m : M) (e : Ending) (w' : World) : Prop := ∃ p gm bs, e = .returned (.pointer (some ⟨p, 0, none⟩)) ∧ WAt w' w.heap.size p gm bs m ∧ Below w.heap.size w w'
set_option maxHeartbeats 4000000 in
theorem new_any (v : Value) (xs : List Int) (here : Int) (w : World) (h : Reads w v xs) (hx : xs.length ≤ 1000) : Calls Tryd.prog 6 #[v, .int .i64 here] w (MadeW w (start xs here)) := by
  obtain ⟨i0, q1, q2, q3, q4⟩ := info_parts Tryd.bkIntInfo
  have HI := Lib.hid (And.intro q1 (And.intro q2 (And.intro q3 q4)))
  have HR := Lib.hid h
  obtain ⟨vo, vc, rfl, _⟩ := h
  obtain ⟨n, hn⟩ : ∃ n, xs.length = n := ⟨_, rfl⟩
  have HN := Lib.hid hn
  rw [hn] at HR hx ⊢
  obtain ⟨H, hH⟩ : ∃ H, (start xs here).here = H := ⟨_, rfl⟩
  have HH := Lib.hid hH
  have hHv : (H : Int) = min (max here 0) (n : Int) := by rw [← hH, ← hn]; unfold start; show (((min (max here 0) (xs.length : Int)).toNat : Nat) : Int) = _; omega
  clear q1 q2 q3 q4 hn hH
  rcases (by omega : here < 0 ∨ here = 0 ∨ (0 < here ∧ here ≤ (n : Int)) ∨ (0 < here ∧ (n : Int) < here)) with hc | hc | hc | hc
  · obtain rfl : H = 0 := by omega
    have g1 : max here 0 = 0 := by omega
    have g2 : min (0 : Int) (n : Int) = 0 := by omega
    have g3 : ¬ (n : Int) < 0 := by omega
    have g4 : here ≤ 0 := by omega
    clear hHv
    go_enter Tryd.func6, Tryd.ntmps6
    go_wp2_with (at_make; refine wpList_make_full _ rfl _ _ 22 rfl w.heap.size 3 i0 (.int .i64 0) 1 Tryd.underlying22 HI.out.1 HI.out.2.1 HI.out.2.2.1 .i64 .i64 _ _ n rfl rfl ?a1 ?a2 ?a3 ?a4 (Nat.le_refl _) ?_)
    case a1 => rfl
    case a2 => rfl
    case a3 => rw [HI.out.2.2.2]; omega
    case a4 => unfold maxLen; omega
    intro w1 hO hG
    rw [toList_madeCells_one] at hO
    have hrow := row_whole hO
    have hz := hG.size
    have hb1 := (Stirred.of_grown hG).below (B := w.heap.size) (fun k h => by cases h) (Nat.le_refl _)
    have hb2 := (Below.refl w1.heap.size w1).alloc (Nat.le_refl _) (.cells #[.slice (some ⟨w.heap.size, 0, none⟩) n n, .int .i64 0, .slice none 0 0] 54)
    have hnew := heap_alloc_new w1 (.cells #[.slice (some ⟨w.heap.size, 0, none⟩) n n, .int .i64 0, .slice none 0 0] 54)
    have hrow2 := (Stirred.of_below hb2 []).whole hrow List.not_mem_nil
    obtain ⟨w2, hw2⟩ : ∃ w2, w1.alloc (.cells #[.slice (some ⟨w.heap.size, 0, none⟩) n n, .int .i64 0, .slice none 0 0] 54) = w2 := ⟨_, rfl⟩
    rw [hw2] at hb2 hnew hrow2
    have hv : List.replicate n (Value.int .i64 0) = vals (List.replicate n 0) := by simp [vals]
    rw [hv] at hrow2
    have k0 := whole_cell hnew (j := 0) rfl
    have HB := Lib.hid (hb1.trans (hb2.mono hz))
    have HR2 := Lib.hid (HR.out.below HB.out)
    have HNW := Lib.hid hnew
    have HRW := Lib.hid hrow2
    have HZ := Lib.hid hz
    clear hO hG hrow hz hb1 hb2 hnew hrow2 hv
    go_wp2_with (with_reducible refine wpList_copy_reads rfl _ _ 22 22 rfl 3 Tryd.underlying22 Tryd.piIntSize (some ⟨w.heap.size, 0, none⟩) n n rfl (.slice vo n vc) xs rfl HR2.out w.heap.size 0 (List.replicate n 0) 3 HRW.out (fun _ => rfl) ?c1 ?_)
    case c1 => rw [HN.out, List.length_replicate]; omega
    intro w3 hr hs
    rw [List.take_of_length_le (by rw [HN.out]; exact Nat.le_refl _), show splice (List.replicate n (0 : Int)) 0 xs = xs by unfold splice; rw [List.drop_of_length_le (by rw [List.length_replicate, HN.out]; omega)]; simp] at hr
    have hne : w.heap.size ≠ w1.heap.size := box_off (by decide) HNW.out HRW.out
    have hbx := hs.whole HNW.out (by simpa using hne.symm)
    have HM := Lib.hid (show WAt w3 w.heap.size w1.heap.size w.heap.size [w1.heap.size, w.heap.size] (start xs here) ∧ Below w.heap.size w w3 from by
      refine ⟨⟨⟨.slice none 0 0, ?_, OwnsK.nil _ _ _ _, rfl⟩, hr, ⟨HZ.out, Nat.le_refl _⟩, start_fine _ _, by show xs.length ≤ 1000; rw [HN.out]; exact hx, Nat.zero_le _⟩, HB.out.trans (hs.below (fun k hk => by rw [List.mem_singleton.1 hk]; exact Nat.le_refl _) HB.out.size)⟩
      show w3.heap[w1.heap.size]? = some (.cells #[.slice (some ⟨w.heap.size, 0, none⟩) xs.length xs.length, .int .i64 (((start xs here).here : Nat) : Int), .slice none 0 0] 54 (0, 0))
      rw [HN.out, HH.out]
      exact hbx)
    clear hr hs hbx
    go_wp2
    go_ret
    exact ⟨_, _, _, rfl, HM.out.1, HM.out.2⟩
  · obtain rfl : H = 0 := by omega
    subst hc
    have g2 : min (0 : Int) (n : Int) = 0 := by omega
    have g3 : ¬ (n : Int) < 0 := by omega
    clear hHv
    go_enter Tryd.func6, Tryd.ntmps6
    go_wp2_with (at_make; refine wpList_make_full _ rfl _ _ 22 rfl w.heap.size 3 i0 (.int .i64 0) 1 Tryd.underlying22 HI.out.1 HI.out.2.1 HI.out.2.2.1 .i64 .i64 _ _ n rfl rfl ?a1 ?a2 ?a3 ?a4 (Nat.le_refl _) ?_)
    case a1 => rfl
    case a2 => rfl
    case a3 => rw [HI.out.2.2.2]; omega
    case a4 => unfold maxLen; omega
    intro w1 hO hG
    rw [toList_madeCells_one] at hO
    have hrow := row_whole hO
    have hz := hG.size
    have hb1 := (Stirred.of_grown hG).below (B := w.heap.size) (fun k h => by cases h) (Nat.le_refl _)
    have hb2 := (Below.refl w1.heap.size w1).alloc (Nat.le_refl _) (.cells #[.slice (some ⟨w.heap.size, 0, none⟩) n n, .int .i64 0, .slice none 0 0] 54)
    have hnew := heap_alloc_new w1 (.cells #[.slice (some ⟨w.heap.size, 0, none⟩) n n, .int .i64 0, .slice none 0 0] 54)
    have hrow2 := (Stirred.of_below hb2 []).whole hrow List.not_mem_nil
    obtain ⟨w2, hw2⟩ : ∃ w2, w1.alloc (.cells #[.slice (some ⟨w.heap.size, 0, none⟩) n n, .int .i64 0, .slice none 0 0] 54) = w2 := ⟨_, rfl⟩
    rw [hw2] at hb2 hnew hrow2
    have hv : List.replicate n (Value.int .i64 0) = vals (List.replicate n 0) := by simp [vals]
    rw [hv] at hrow2
    have k0 := whole_cell hnew (j := 0) rfl
    have HB := Lib.hid (hb1.trans (hb2.mono hz))
    have HR2 := Lib.hid (HR.out.below HB.out)
    have HNW := Lib.hid hnew
    have HRW := Lib.hid hrow2
    have HZ := Lib.hid hz
    clear hO hG hrow hz hb1 hb2 hnew hrow2 hv
    go_wp2_with (with_reducible refine wpList_copy_reads rfl _ _ 22 22 rfl 3 Tryd.underlying22 Tryd.piIntSize (some ⟨w.heap.size, 0, none⟩) n n rfl (.slice vo n vc) xs rfl HR2.out w.heap.size 0 (List.replicate n 0) 3 HRW.out (fun _ => rfl) ?c1 ?_)
    case c1 => rw [HN.out, List.length_replicate]; omega
    intro w3 hr hs
    rw [List.take_of_length_le (by rw [HN.out]; exact Nat.le_refl _), show splice (List.replicate n (0 : Int)) 0 xs = xs by unfold splice; rw [List.drop_of_length_le (by rw [List.length_replicate, HN.out]; omega)]; simp] at hr
    have hne : w.heap.size ≠ w1.heap.size := box_off (by decide) HNW.out HRW.out
    have hbx := hs.whole HNW.out (by simpa using hne.symm)
    have HM := Lib.hid (show WAt w3 w.heap.size w1.heap.size w.heap.size [w1.heap.size, w.heap.size] (start xs 0) ∧ Below w.heap.size w w3 from by
      refine ⟨⟨⟨.slice none 0 0, ?_, OwnsK.nil _ _ _ _, rfl⟩, hr, ⟨HZ.out, Nat.le_refl _⟩, start_fine _ _, by show xs.length ≤ 1000; rw [HN.out]; exact hx, Nat.zero_le _⟩, HB.out.trans (hs.below (fun k hk => by rw [List.mem_singleton.1 hk]; exact Nat.le_refl _) HB.out.size)⟩
      show w3.heap[w1.heap.size]? = some (.cells #[.slice (some ⟨w.heap.size, 0, none⟩) xs.length xs.length, .int .i64 (((start xs 0).here : Nat) : Int), .slice none 0 0] 54 (0, 0))
      rw [HN.out, HH.out]
      exact hbx)
    clear hr hs hbx
    go_wp2
    go_ret
    exact ⟨_, _, _, rfl, HM.out.1, HM.out.2⟩
  · obtain rfl : here = (H : Int) := by omega
    have g0 := hc.1
    have g1 : max (H : Int) 0 = (H : Int) := by omega
    have g2 : min (H : Int) (n : Int) = (H : Int) := by omega
    have g4 : ¬ (H : Int) < 0 := by omega
    have g5 := hc.2
    clear hHv
    go_enter Tryd.func6, Tryd.ntmps6
    go_wp2_with (at_make; refine wpList_make_full _ rfl _ _ 22 rfl w.heap.size 3 i0 (.int .i64 0) 1 Tryd.underlying22 HI.out.1 HI.out.2.1 HI.out.2.2.1 .i64 .i64 _ _ n rfl rfl ?a1 ?a2 ?a3 ?a4 (Nat.le_refl _) ?_)
    case a1 => rfl
    case a2 => rfl
    case a3 => rw [HI.out.2.2.2]; omega
    case a4 => unfold maxLen; omega
    intro w1 hO hG
    rw [toList_madeCells_one] at hO
    have hrow := row_whole hO
    have hz := hG.size
    have hb1 := (Stirred.of_grown hG).below (B := w.heap.size) (fun k h => by cases h) (Nat.le_refl _)
    have hb2 := (Below.refl w1.heap.size w1).alloc (Nat.le_refl _) (.cells #[.slice (some ⟨w.heap.size, 0, none⟩) n n, .int .i64 (H : Int), .slice none 0 0] 54)
    have hnew := heap_alloc_new w1 (.cells #[.slice (some ⟨w.heap.size, 0, none⟩) n n, .int .i64 (H : Int), .slice none 0 0] 54)
    have hrow2 := (Stirred.of_below hb2 []).whole hrow List.not_mem_nil
    obtain ⟨w2, hw2⟩ : ∃ w2, w1.alloc (.cells #[.slice (some ⟨w.heap.size, 0, none⟩) n n, .int .i64 (H : Int), .slice none 0 0] 54) = w2 := ⟨_, rfl⟩
    rw [hw2] at hb2 hnew hrow2
    have hv : List.replicate n (Value.int .i64 0) = vals (List.replicate n 0) := by simp [vals]
    rw [hv] at hrow2
    have k0 := whole_cell hnew (j := 0) rfl
    have HB := Lib.hid (hb1.trans (hb2.mono hz))
    have HR2 := Lib.hid (HR.out.below HB.out)
    have HNW := Lib.hid hnew
    have HRW := Lib.hid hrow2
    have HZ := Lib.hid hz
    clear hO hG hrow hz hb1 hb2 hnew hrow2 hv
    go_wp2_with (with_reducible refine wpList_copy_reads rfl _ _ 22 22 rfl 3 Tryd.underlying22 Tryd.piIntSize (some ⟨w.heap.size, 0, none⟩) n n rfl (.slice vo n vc) xs rfl HR2.out w.heap.size 0 (List.replicate n 0) 3 HRW.out (fun _ => rfl) ?c1 ?_)
    case c1 => rw [HN.out, List.length_replicate]; omega
    intro w3 hr hs
    rw [List.take_of_length_le (by rw [HN.out]; exact Nat.le_refl _), show splice (List.replicate n (0 : Int)) 0 xs = xs by unfold splice; rw [List.drop_of_length_le (by rw [List.length_replicate, HN.out]; omega)]; simp] at hr
    have hne : w.heap.size ≠ w1.heap.size := box_off (by decide) HNW.out HRW.out
    have hbx := hs.whole HNW.out (by simpa using hne.symm)
    have HM := Lib.hid (show WAt w3 w.heap.size w1.heap.size w.heap.size [w1.heap.size, w.heap.size] (start xs (H : Int)) ∧ Below w.heap.size w w3 from by
      refine ⟨⟨⟨.slice none 0 0, ?_, OwnsK.nil _ _ _ _, rfl⟩, hr, ⟨HZ.out, Nat.le_refl _⟩, start_fine _ _, by show xs.length ≤ 1000; rw [HN.out]; exact hx, Nat.zero_le _⟩, HB.out.trans (hs.below (fun k hk => by rw [List.mem_singleton.1 hk]; exact Nat.le_refl _) HB.out.size)⟩
      show w3.heap[w1.heap.size]? = some (.cells #[.slice (some ⟨w.heap.size, 0, none⟩) xs.length xs.length, .int .i64 (((start xs (H : Int)).here : Nat) : Int), .slice none 0 0] 54 (0, 0))
      rw [HN.out, HH.out]
      exact hbx)
    clear hr hs hbx
    go_wp2
    go_ret
    exact ⟨_, _, _, rfl, HM.out.1, HM.out.2⟩
  · obtain rfl : H = n := by omega
    have g1 : max here 0 = here := by omega
    have g2 : min here (H : Int) = (H : Int) := by omega
    have g0 := hc.1
    have g4 : ¬ here < 0 := by omega
    have g5 := hc.2
    have g6 : ¬ here ≤ (H : Int) := by omega
    clear hHv
    go_enter Tryd.func6, Tryd.ntmps6
    go_wp2_with (at_make; refine wpList_make_full _ rfl _ _ 22 rfl w.heap.size 3 i0 (.int .i64 0) 1 Tryd.underlying22 HI.out.1 HI.out.2.1 HI.out.2.2.1 .i64 .i64 _ _ H rfl rfl ?a1 ?a2 ?a3 ?a4 (Nat.le_refl _) ?_)
    case a1 => rfl
    case a2 => rfl
    case a3 => rw [HI.out.2.2.2]; omega
    case a4 => unfold maxLen; omega
    intro w1 hO hG
    rw [toList_madeCells_one] at hO
    have hrow := row_whole hO
    have hz := hG.size
    have hb1 := (Stirred.of_grown hG).below (B := w.heap.size) (fun k h => by cases h) (Nat.le_refl _)
    have hb2 := (Below.refl w1.heap.size w1).alloc (Nat.le_refl _) (.cells #[.slice (some ⟨w.heap.size, 0, none⟩) H H, .int .i64 (H : Int), .slice none 0 0] 54)
    have hnew := heap_alloc_new w1 (.cells #[.slice (some ⟨w.heap.size, 0, none⟩) H H, .int .i64 (H : Int), .slice none 0 0] 54)
    have hrow2 := (Stirred.of_below hb2 []).whole hrow List.not_mem_nil
    obtain ⟨w2, hw2⟩ : ∃ w2, w1.alloc (.cells #[.slice (some ⟨w.heap.size, 0, none⟩) H H, .int .i64 (H : Int), .slice none 0 0] 54) = w2 := ⟨_, rfl⟩
    rw [hw2] at hb2 hnew hrow2
    have hv : List.replicate H (Value.int .i64 0) = vals (List.replicate H 0) := by simp [vals]
    rw [hv] at hrow2
    have k0 := whole_cell hnew (j := 0) rfl
    have HB := Lib.hid (hb1.trans (hb2.mono hz))
    have HR2 := Lib.hid (HR.out.below HB.out)
    have HNW := Lib.hid hnew
    have HRW := Lib.hid hrow2
    have HZ := Lib.hid hz
    clear hO hG hrow hz hb1 hb2 hnew hrow2 hv
    go_wp2_with (with_reducible refine wpList_copy_reads rfl _ _ 22 22 rfl 3 Tryd.underlying22 Tryd.piIntSize (some ⟨w.heap.size, 0, none⟩) H H rfl (.slice vo H vc) xs rfl HR2.out w.heap.size 0 (List.replicate H 0) 3 HRW.out (fun _ => rfl) ?c1 ?_)
    case c1 => rw [HN.out, List.length_replicate]; omega
    intro w3 hr hs
    rw [List.take_of_length_le (by rw [HN.out]; exact Nat.le_refl _), show splice (List.replicate H (0 : Int)) 0 xs = xs by unfold splice; rw [List.drop_of_length_le (by rw [List.length_replicate, HN.out]; omega)]; simp] at hr
    have hne : w.heap.size ≠ w1.heap.size := box_off (by decide) HNW.out HRW.out
    have hbx := hs.whole HNW.out (by simpa using hne.symm)
    have HM := Lib.hid (show WAt w3 w.heap.size w1.heap.size w.heap.size [w1.heap.size, w.heap.size] (start xs here) ∧ Below w.heap.size w w3 from by
      refine ⟨⟨⟨.slice none 0 0, ?_, OwnsK.nil _ _ _ _, rfl⟩, hr, ⟨HZ.out, Nat.le_refl _⟩, start_fine _ _, by show xs.length ≤ 1000; rw [HN.out]; exact hx, Nat.zero_le _⟩, HB.out.trans (hs.below (fun k hk => by rw [List.mem_singleton.1 hk]; exact Nat.le_refl _) HB.out.size)⟩
      show w3.heap[w1.heap.size]? = some (.cells #[.slice (some ⟨w.heap.size, 0, none⟩) xs.length xs.length, .int .i64 (((start xs here).here : Nat) : Int), .slice none 0 0] 54 (0, 0))
      rw [HN.out, HH.out]
      exact hbx)
    clear hr hs hbx
    go_wp2
    go_ret
    exact ⟨_, _, _, rfl, HM.out.1, HM.out.2⟩
end Go.Proofs.YtcpdhfigaoaohaaDoor.Wv
