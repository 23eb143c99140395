
/- slices.Clone of a []int of one's own. -/
import Derived.Test.YtlomfmilohbgpaaGreatDoorVals
import Derived.Test.YtlomfmilohbgpaaGreatDoorShelf
namespace Go.Proofs.YtlomfmilohbgpaaGreatDoor
open Go.RowKit Book Mem
set_option linter.unusedVariables false
theorem clone_any (v : Value) (B : Nat) (xs : List Int) (w : World) (h : Owns w B 3 v (vals xs)) (hl : xs.length ≤ 1000000) :
    Calls Tryz.prog 71 #[v] w fun e w' => ∃ c, e = .returned c ∧ Owns w' w.heap.size 3 c (vals xs) ∧ Below w.heap.size w w' := by
  rcases h.form with ⟨ao, rfl, hx⟩ | ⟨g, cap, rfl, hc0⟩
  · have hx : xs = [] := List.map_eq_nil_iff.1 hx
    subst hx
    cases ao with
    | none => exact (Tryz.slices_Clone_int_nil 0 0 w).mono fun e w' ⟨h1, h2⟩ => by subst h2; exact ⟨_, h1, Owns.nil _ _ _, Below.refl _ _⟩
    | some a => exact (Tryz.slices_Clone_int_zero a 0 w).mono fun e w' ⟨v', h1, h2, _, h3⟩ => ⟨v', h1, Owns.of_row h2, h3⟩
  · rw [vals_length]
    refine (Tryz.slices_Clone_int g 0 xs.length cap xs w (Nat.le_refl _) (by omega) (fun j hj => by
      obtain ⟨g', c', e, hc, _, _⟩ := h.row (by rw [vals_length]; omega)
      simp only [Value.slice.injEq, Option.some.injEq, Addr.mk.injEq, and_true, true_and] at e
      rw [Nat.zero_add, e.1]
      exact hc j _ (by simp [vals, List.getD_eq_getElem?_getD, List.getElem?_eq_getElem hj]))).mono fun e w' ⟨v', h1, h2, _, h3⟩ => ⟨v', h1, ?_, h3⟩
    rw [List.take_length] at h2
    exact Owns.of_row h2
end Go.Proofs.YtlomfmilohbgpaaGreatDoor
