/- Package field: length, cells, copies, of a memory and of none. -/
import Derived.Test.YtifcjcheokkojaaFieldWalks
import Derived.Lib.BufferMore
namespace Go.Proofs.Ytifcjcheokkojaa
open Go.RowKit Book Mem
set_option linter.unusedSimpArgs false
set_option linter.unusedVariables false
section
variable {w : World} {B p : Nat} {vC vH : Value} {cs ch : List Int}
theorem len_any (h : FieldAt w B p vC vH cs ch) : Calls Try.prog 18 #[.pointer (some ⟨p, 0, none⟩)] w fun e w' => e = .returned (.int .i64 cs.length) ∧ w' = w := by
  obtain ⟨g, cap, rfl⟩ := h.form
  have c0 := h.c0
  have hl := h.len
  clear h
  obtain ⟨n, hn⟩ : ∃ n, cs.length = n := ⟨_, rfl⟩
  rw [hn] at c0 hl ⊢
  clear hn
  go_enter Try.func18, Try.ntmps18
  go_wp2
  go_ret
  exact ⟨rfl, rfl⟩
theorem len_nil (w : World) : Calls Try.prog 18 #[.pointer none] w fun e w' => e = .returned (.int .i64 0) ∧ w' = w := by
  go_enter Try.func18, Try.ntmps18
  go_wp2
  go_ret
  exact ⟨rfl, rfl⟩
theorem has_yes (h : FieldAt w B p vC vH cs ch) (j : Nat) (hj : j < cs.length) : Calls Try.prog 22 #[.pointer (some ⟨p, 0, none⟩), .int .i64 j] w fun e w' => e = .returned (.bool true) ∧ w' = w := by
  have C := Lib.hid (len_any h)
  have hl := h.len
  clear h
  obtain ⟨n, hn⟩ : ∃ n, cs.length = n := ⟨_, rfl⟩
  rw [hn] at C hl hj
  clear hn
  have h0 : (0 : Int) ≤ (j : Int) := by omega
  have h1 : (j : Int) < (n : Int) := by omega
  go_enter Try.func22, Try.ntmps22
  go_wp2_with (go_at_call 18; refine C.out.mono ?_; rintro e wz ⟨rfl, hwz⟩; subst wz)
  go_ret
  exact ⟨rfl, rfl⟩
theorem has_no (h : FieldAt w B p vC vH cs ch) (a : Int) (ha : ¬ (0 ≤ a ∧ a < (cs.length : Int))) : Calls Try.prog 22 #[.pointer (some ⟨p, 0, none⟩), .int .i64 a] w fun e w' => e = .returned (.bool false) ∧ w' = w := by
  have C := Lib.hid (len_any h)
  have hl := h.len
  clear h
  obtain ⟨n, hn⟩ : ∃ n, cs.length = n := ⟨_, rfl⟩
  rw [hn] at C hl ha
  clear hn
  by_cases h0 : 0 ≤ a
  · have h1 : decide (a < (n : Int)) = false := by simp; omega
    clear ha
    go_enter Try.func22, Try.ntmps22
    go_wp2_with (go_at_call 18; refine C.out.mono ?_; rintro e wz ⟨rfl, hwz⟩; subst wz)
    go_ret
    exact ⟨rfl, rfl⟩
  · clear ha
    go_enter Try.func22, Try.ntmps22
    go_wp2
    go_ret
    exact ⟨rfl, rfl⟩
theorem has_nil (a : Int) (w : World) : Calls Try.prog 22 #[.pointer none, .int .i64 a] w fun e w' => e = .returned (.bool false) ∧ w' = w := by
  have C := Lib.hid (len_nil w)
  by_cases h0 : 0 ≤ a
  · have h1 : decide (a < (0 : Int)) = false := by simp; omega
    go_enter Try.func22, Try.ntmps22
    go_wp2_with (go_at_call 18; refine C.out.mono ?_; rintro e wz ⟨rfl, hwz⟩; subst wz)
    go_ret
    exact ⟨rfl, rfl⟩
  · go_enter Try.func22, Try.ntmps22
    go_wp2
    go_ret
    exact ⟨rfl, rfl⟩
theorem load_yes (h : FieldAt w B p vC vH cs ch) (j : Nat) (x : Int) (hj : cs[j]? = some x) : Calls Try.prog 16 #[.pointer (some ⟨p, 0, none⟩), .int .i64 j] w fun e w' => e = .returned (.tuple #[.int .i64 x, .bool true]) ∧ w' = w := by
  have hlt := (List.getElem?_eq_some_iff.1 hj).1
  have C := Lib.hid (has_yes h j hlt)
  have hl := h.len
  obtain ⟨g, cap, e, hc, _, _⟩ := h.cells.row (by rw [vals_length]; omega)
  rw [vals_length] at e
  have k := hc j (.int .i64 x) (by simp [vals, hj])
  have c0 := h.c0
  rw [e] at c0
  obtain ⟨n, hn⟩ : ∃ n, cs.length = n := ⟨_, rfl⟩
  rw [hn] at c0 hl hlt
  clear hn hc hj h e
  have h0 : (0 : Int) ≤ (j : Int) := by omega
  have h1 : (j : Int) < (n : Int) := by omega
  go_enter Try.func16, Try.ntmps16
  go_wp2_with (go_at_call 22; refine C.out.mono ?_; rintro e wz ⟨rfl, hwz⟩; subst wz)
  go_ret2
  exact ⟨rfl, rfl⟩
theorem load_no (h : FieldAt w B p vC vH cs ch) (a : Int) (ha : ¬ (0 ≤ a ∧ a < (cs.length : Int))) : Calls Try.prog 16 #[.pointer (some ⟨p, 0, none⟩), .int .i64 a] w fun e w' => e = .returned (.tuple #[.int .i64 0, .bool false]) ∧ w' = w := by
  have C := Lib.hid (has_no h a ha)
  clear h ha
  go_enter Try.func16, Try.ntmps16
  go_wp2_with (go_at_call 22; refine C.out.mono ?_; rintro e wz ⟨rfl, hwz⟩; subst wz)
  go_ret2
  exact ⟨rfl, rfl⟩
theorem load_nil (a : Int) (w : World) : Calls Try.prog 16 #[.pointer none, .int .i64 a] w fun e w' => e = .returned (.tuple #[.int .i64 0, .bool false]) ∧ w' = w := by
  have C := Lib.hid (has_nil a w)
  go_enter Try.func16, Try.ntmps16
  go_wp2_with (go_at_call 22; refine C.out.mono ?_; rintro e wz ⟨rfl, hwz⟩; subst wz)
  go_ret2
  exact ⟨rfl, rfl⟩
theorem all_any (h : FieldAt w B p vC vH cs ch) : Calls Try.prog 14 #[.pointer (some ⟨p, 0, none⟩)] w fun e w' => ∃ c, e = .returned c ∧ Owns w' w.heap.size 3 c (vals cs) ∧ Below w.heap.size w w' := by
  have C := Lib.hid (clone_any vC B cs w h.cells (by have := h.len; omega))
  have c0 := h.c0
  clear h
  go_enter Try.func14, Try.ntmps14
  go_wp2_with fail
  refine C.out.mono ?_
  rintro e w1 ⟨c, rfl, hO, hB⟩
  have HO := Lib.hid hO
  have HB := Lib.hid hB
  clear hO hB C
  go_wp2
  go_ret
  exact ⟨c, rfl, HO.out, HB.out⟩
theorem all_nil (w : World) : Calls Try.prog 14 #[.pointer none] w fun e w' => e = .returned (.slice none 0 0) ∧ w' = w := by
  go_enter Try.func14, Try.ntmps14
  go_wp2
  go_ret
  exact ⟨rfl, rfl⟩
theorem changed_any (h : FieldAt w B p vC vH cs ch) : Calls Try.prog 13 #[.pointer (some ⟨p, 0, none⟩)] w fun e w' => ∃ c, e = .returned c ∧ Owns w' w.heap.size 3 c (vals ch) ∧ Below w.heap.size w w' := by
  have C := Lib.hid (clone_any vH B ch w h.chd (by have := h.len; have := h.chLen; omega))
  have c0 := h.c1
  clear h
  go_enter Try.func13, Try.ntmps13
  go_wp2_with fail
  refine C.out.mono ?_
  rintro e w1 ⟨c, rfl, hO, hB⟩
  have HO := Lib.hid hO
  have HB := Lib.hid hB
  clear hO hB C
  go_wp2
  go_ret
  exact ⟨c, rfl, HO.out, HB.out⟩
theorem changed_nil (w : World) : Calls Try.prog 13 #[.pointer none] w fun e w' => e = .returned (.slice none 0 0) ∧ w' = w := by
  go_enter Try.func13, Try.ntmps13
  go_wp2
  go_ret
  exact ⟨rfl, rfl⟩
/-- a memory of which nothing is changed any more -/
def Settled (w : World) (B p : Nat) (vC : Value) (cs : List Int) (e : Ending) (w' : World) : Prop := e = .returned (.tuple #[]) ∧ FieldAt w' B p vC (.slice none 0 0) cs [] ∧ Stirred w w' [p]
theorem settle_any (h : FieldAt w B p vC vH cs ch) : Calls Try.prog 11 #[.pointer (some ⟨p, 0, none⟩)] w (Settled w B p vC cs) := by
  have hs := Stirred.setCell w ⟨p, 1, none⟩ (.slice none 0 0)
  have hw := whole_set h.whole 1 (.slice none 0 0)
  have HR := Lib.hid (show FieldAt (w.setCell ⟨p, 1, none⟩ (.slice none 0 0)) B p vC (.slice none 0 0) cs [] ∧ Stirred w (w.setCell ⟨p, 1, none⟩ (.slice none 0 0)) [p] from
    ⟨⟨hw, h.le, h.cells.touch hs (fun k hk hm => by simp at hm; subst hm; exact h.pC.1 hk), h.form, h.len, Owns.nil _ _ _, fun _ => rfl, List.Pairwise.nil, (fun x h => by cases h), (fun k _ h => by cases h)⟩, hs⟩)
  have c1 := h.c1
  have f1 := whole_frozen h.whole 1
  clear h hs hw
  go_enter Try.func11, Try.ntmps11
  go_wp2
  go_end0
  exact ⟨rfl, HR.out⟩
theorem settle_nil (w : World) : Calls Try.prog 11 #[.pointer none] w fun e w' => e = .returned (.tuple #[]) ∧ w' = w := by
  go_enter Try.func11, Try.ntmps11
  go_wp2
  try simp only [Exit.inBlock, Exit.then]
  exact bodyPost_ret (results_none rfl _ _ _) rfl ⟨rfl, rfl⟩
theorem copy_any (h : FieldAt w B p vC vH cs ch) : Calls Try.prog 12 #[.pointer (some ⟨p, 0, none⟩)] w (Made w cs) := by
  have C := Lib.hid (of_any vC cs w (Reads.of_owns h.cells) (by have := h.len; omega))
  have hl := h.len
  rw [List.take_of_length_le hl] at C
  obtain ⟨g, cap, rfl⟩ := h.form
  have c0 := h.c0
  clear h
  obtain ⟨n, hn⟩ : ∃ n, cs.length = n := ⟨_, rfl⟩
  rw [hn] at C c0
  clear hn
  have hne := Lib.run_eql_slice_some_nil (P := Try.prog) w ⟨g, 0, none⟩ n cap Try.underlying22
  go_enter Try.func12, Try.ntmps12
  go_wp2_with fail
  refine C.out.mono ?_
  rintro e w1 ⟨q, vC, rfl, hF, hB⟩
  have HR := Lib.hid (And.intro hF hB)
  clear hF hB C
  go_wp2
  go_ret
  exact ⟨q, vC, rfl, HR.out⟩
theorem copy_nil (w : World) : Calls Try.prog 12 #[.pointer none] w fun e w' => e = .returned (.pointer none) ∧ w' = w := by
  go_enter Try.func12, Try.ntmps12
  go_wp2
  go_ret
  exact ⟨rfl, rfl⟩
end
end Go.Proofs.Ytifcjcheokkojaa
