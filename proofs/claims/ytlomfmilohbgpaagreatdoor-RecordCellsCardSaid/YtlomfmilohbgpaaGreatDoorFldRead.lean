
/- Package field: length, cells, copies, of a memory and of none. -/
import Derived.Test.YtlomfmilohbgpaaGreatDoorFldWalks
import Derived.Lib.BufferMore
namespace Go.Proofs.YtlomfmilohbgpaaGreatDoor.Fld
open Go.RowKit Book Go.Proofs.YtlomfmilohbgpaaGreatDoor.Mem Mem
set_option linter.unusedSimpArgs false
set_option linter.unusedVariables false
section
variable {w : World} {B p : Nat} {vC vH : Value} {cs ch : List Int}
theorem len_any (h : FieldAt w B p vC vH cs ch) : Calls Tryz.prog 84 #[.pointer (some ⟨p, 0, none⟩)] w fun e w' => e = .returned (.int .i64 cs.length) ∧ w' = w := by
  obtain ⟨g, cap, rfl⟩ := h.form
  have c0 := h.c0
  have hl := h.len
  clear h
  obtain ⟨n, hn⟩ : ∃ n, cs.length = n := ⟨_, rfl⟩
  rw [hn] at c0 hl ⊢
  clear hn
  go_enter Tryz.func84, Tryz.ntmps84
  go_wp2
  go_ret
  exact ⟨rfl, rfl⟩
theorem len_nil (w : World) : Calls Tryz.prog 84 #[.pointer none] w fun e w' => e = .returned (.int .i64 0) ∧ w' = w := by
  go_enter Tryz.func84, Tryz.ntmps84
  go_wp2
  go_ret
  exact ⟨rfl, rfl⟩
theorem has_yes (h : FieldAt w B p vC vH cs ch) (j : Nat) (hj : j < cs.length) : Calls Tryz.prog 73 #[.pointer (some ⟨p, 0, none⟩), .int .i64 j] w fun e w' => e = .returned (.bool true) ∧ w' = w := by
  have C := Lib.hid (len_any h)
  have hl := h.len
  clear h
  obtain ⟨n, hn⟩ : ∃ n, cs.length = n := ⟨_, rfl⟩
  rw [hn] at C hl hj
  clear hn
  have h0 : (0 : Int) ≤ (j : Int) := by omega
  have h1 : (j : Int) < (n : Int) := by omega
  go_enter Tryz.func73, Tryz.ntmps73
  go_wp2_with (go_at_call 84; refine C.out.mono ?_; rintro e wz ⟨rfl, hwz⟩; subst wz)
  go_ret
  exact ⟨rfl, rfl⟩
theorem has_no (h : FieldAt w B p vC vH cs ch) (a : Int) (ha : ¬ (0 ≤ a ∧ a < (cs.length : Int))) : Calls Tryz.prog 73 #[.pointer (some ⟨p, 0, none⟩), .int .i64 a] w fun e w' => e = .returned (.bool false) ∧ w' = w := by
  have C := Lib.hid (len_any h)
  have hl := h.len
  clear h
  obtain ⟨n, hn⟩ : ∃ n, cs.length = n := ⟨_, rfl⟩
  rw [hn] at C hl ha
  clear hn
  by_cases h0 : 0 ≤ a
  · have h1 : decide (a < (n : Int)) = false := by simp; omega
    clear ha
    go_enter Tryz.func73, Tryz.ntmps73
    go_wp2_with (go_at_call 84; refine C.out.mono ?_; rintro e wz ⟨rfl, hwz⟩; subst wz)
    go_ret
    exact ⟨rfl, rfl⟩
  · clear ha
    go_enter Tryz.func73, Tryz.ntmps73
    go_wp2
    go_ret
    exact ⟨rfl, rfl⟩
theorem has_nil (a : Int) (w : World) : Calls Tryz.prog 73 #[.pointer none, .int .i64 a] w fun e w' => e = .returned (.bool false) ∧ w' = w := by
  have C := Lib.hid (len_nil w)
  by_cases h0 : 0 ≤ a
  · have h1 : decide (a < (0 : Int)) = false := by simp; omega
    go_enter Tryz.func73, Tryz.ntmps73
    go_wp2_with (go_at_call 84; refine C.out.mono ?_; rintro e wz ⟨rfl, hwz⟩; subst wz)
    go_ret
    exact ⟨rfl, rfl⟩
  · go_enter Tryz.func73, Tryz.ntmps73
    go_wp2
    go_ret
    exact ⟨rfl, rfl⟩
theorem load_yes (h : FieldAt w B p vC vH cs ch) (j : Nat) (x : Int) (hj : cs[j]? = some x) : Calls Tryz.prog 59 #[.pointer (some ⟨p, 0, none⟩), .int .i64 j] w fun e w' => e = .returned (.tuple #[.int .i64 x, .bool true]) ∧ w' = w := by
  have hlt := (List.getElem?_eq_some_iff.1 hj).1
  have C := Lib.hid (has_yes h j hlt)
  have hl := h.len
  obtain ⟨g, cap, e, hc, _, _⟩ := h.cells.row (by rw [vals_length]; omega)
  rw [vals_length] at e
  have k := hc j (.int .i64 x) (by simp [vals, hj])
  have c0 := h.c0
  rw [e] at c0
  obtain ⟨n, hn⟩ : ∃ n, cs.length = n := ⟨_, rfl⟩
  rw [hn] at c0 hl hlt
  clear hn hc hj h e
  have h0 : (0 : Int) ≤ (j : Int) := by omega
  have h1 : (j : Int) < (n : Int) := by omega
  go_enter Tryz.func59, Tryz.ntmps59
  go_wp2_with (go_at_call 73; refine C.out.mono ?_; rintro e wz ⟨rfl, hwz⟩; subst wz)
  go_ret2
  exact ⟨rfl, rfl⟩
theorem load_no (h : FieldAt w B p vC vH cs ch) (a : Int) (ha : ¬ (0 ≤ a ∧ a < (cs.length : Int))) : Calls Tryz.prog 59 #[.pointer (some ⟨p, 0, none⟩), .int .i64 a] w fun e w' => e = .returned (.tuple #[.int .i64 0, .bool false]) ∧ w' = w := by
  have C := Lib.hid (has_no h a ha)
  clear h ha
  go_enter Tryz.func59, Tryz.ntmps59
  go_wp2_with (go_at_call 73; refine C.out.mono ?_; rintro e wz ⟨rfl, hwz⟩; subst wz)
  go_ret2
  exact ⟨rfl, rfl⟩
theorem load_nil (a : Int) (w : World) : Calls Tryz.prog 59 #[.pointer none, .int .i64 a] w fun e w' => e = .returned (.tuple #[.int .i64 0, .bool false]) ∧ w' = w := by
  have C := Lib.hid (has_nil a w)
  go_enter Tryz.func59, Tryz.ntmps59
  go_wp2_with (go_at_call 73; refine C.out.mono ?_; rintro e wz ⟨rfl, hwz⟩; subst wz)
  go_ret2
  exact ⟨rfl, rfl⟩
theorem all_any (h : FieldAt w B p vC vH cs ch) : Calls Tryz.prog 51 #[.pointer (some ⟨p, 0, none⟩)] w fun e w' => ∃ c, e = .returned c ∧ Owns w' w.heap.size 3 c (vals cs) ∧ Below w.heap.size w w' := by
  have C := Lib.hid (clone_any vC B cs w h.cells (by have := h.len; omega))
  have c0 := h.c0
  clear h
  go_enter Tryz.func51, Tryz.ntmps51
  go_wp2_with fail
  refine C.out.mono ?_
  rintro e w1 ⟨c, rfl, hO, hB⟩
  have HO := Lib.hid hO
  have HB := Lib.hid hB
  clear hO hB C
  go_wp2
  go_ret
  exact ⟨c, rfl, HO.out, HB.out⟩
theorem all_nil (w : World) : Calls Tryz.prog 51 #[.pointer none] w fun e w' => e = .returned (.slice none 0 0) ∧ w' = w := by
  go_enter Tryz.func51, Tryz.ntmps51
  go_wp2
  go_ret
  exact ⟨rfl, rfl⟩
end
end Go.Proofs.YtlomfmilohbgpaaGreatDoor.Fld