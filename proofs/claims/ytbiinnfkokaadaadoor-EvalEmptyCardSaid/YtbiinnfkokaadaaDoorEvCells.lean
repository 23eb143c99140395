
/- Every value of a run is a cell's. -/
import Derived.Test.YtbiinnfkokaadaaDoorEvPlain
import Derived.Test.YtbiinnfkokaadaaDoorMachCells
import Derived.Test.YtbiinnfkokaadaaDoorIrArg
namespace Go.Proofs.YtbiinnfkokaadaaDoor.Ev
open Ir (T I O CI CT)
open Mach (M less)
open Go.Proofs.YtbiinnfkokaadaaDoor.Cell (In)
set_option linter.unusedVariables false
structure CM (s : M) : Prop where
  st : ∀ x ∈ s.stack, In x
  bk : ∀ x ∈ s.back, In x
  me : ∀ x ∈ s.mem, In x
theorem sayI_in {s : M} (hs : CM s) (b : ByteArray) : In (sayI s b).v ∧ CM (sayI s b).s := by
  unfold sayI
  split
  · exact ⟨zero_in, hs.st, hs.bk, hs.me⟩
  · exact ⟨zero_in, hs⟩
theorem doI_in {wat : List Int} {s : M} {V : List Int} {x : I} (hx : CI x) (hs : CM s) (hV : ∀ y ∈ V, In y) : In (doI wat s V x).v ∧ CM (doI wat s V x).s := by
  have iv : ∀ p, In (val V p) := fun p => getL_in hV p
  unfold doI
  by_cases h1 : x.1 = 1
  · rw [if_pos h1]; exact ⟨hx.a, hs⟩
  rw [if_neg h1]; clear h1
  by_cases h1 : x.1 = 2
  · rw [if_pos h1]; exact ⟨getL_in hs.st _, hs⟩
  rw [if_neg h1]; clear h1
  by_cases h1 : x.1 = 3
  · rw [if_pos h1]; exact ⟨getL_in hs.bk _, hs⟩
  rw [if_neg h1]; clear h1
  by_cases h1 : x.1 = 4
  · rw [if_pos h1]
    unfold calcI
    split
    · exact ⟨Mach.one_in _ (iv _), hs⟩
    · exact ⟨Mach.two_in _ (iv _) (iv _), hs⟩
  rw [if_neg h1]; clear h1
  by_cases h1 : x.1 = 5
  · rw [if_pos h1]; exact ⟨getL_in hs.me _, hs⟩
  rw [if_neg h1]; clear h1
  by_cases h1 : x.1 = 6
  · rw [if_pos h1]
    unfold putI
    split
    · exact ⟨zero_in, hs.st, hs.bk, Mach.set_in hs.me _ (iv _)⟩
    · exact ⟨zero_in, hs⟩
  rw [if_neg h1]; clear h1
  by_cases h1 : x.1 = 10
  · rw [if_pos h1]; exact sayI_in hs _
  rw [if_neg h1]; clear h1
  by_cases h1 : x.1 = 11
  · rw [if_pos h1]; exact sayI_in hs _
  rw [if_neg h1]; clear h1
  by_cases h1 : x.1 = 12
  · rw [if_pos h1]
    unfold askI
    split
    · exact ⟨Mach.byte_in _, hs.st, hs.bk, hs.me⟩
    · exact ⟨(show In (-1) from (by unfold Go.Proofs.YtbiinnfkokaadaaDoor.Cell.In; omega)), hs⟩
  rw [if_neg h1]; clear h1
  by_cases h1 : x.1 = 7
  · rw [if_pos h1]; exact ⟨zero_in, hs⟩
  rw [if_neg h1]; clear h1
  by_cases h1 : x.1 = 8
  · rw [if_pos h1]; exact ⟨zero_in, hs⟩
  rw [if_neg h1]; clear h1
  by_cases h1 : x.1 = 9
  · rw [if_pos h1]; exact ⟨zero_in, hs⟩
  rw [if_neg h1]
  exact ⟨zero_in, hs⟩
theorem goI_len (wat : List Int) (last : Int) (l : List I) (s : M) (V : List Int) : (goI wat last l s V).V.length ≤ V.length + l.length := by
  induction l generalizing s V with
  | nil => exact Nat.le_refl _
  | cons x l ih =>
    unfold goI
    dsimp only
    split
    · exact Nat.le_add_right _ _
    · split
      · refine Nat.le_trans (ih _ _) ?_
        simp only [List.length_append, List.length_cons, List.length_nil]
        omega
      · exact Nat.le_add_right _ _
theorem goI_in {wat : List Int} {last : Int} {l : List I} (hl : ∀ x ∈ l, CI x) {s : M} {V : List Int} (hs : CM s) (hV : ∀ y ∈ V, In y) : (∀ y ∈ (goI wat last l s V).V, In y) ∧ CM (goI wat last l s V).s := by
  induction l generalizing s V with
  | nil => exact ⟨hV, hs⟩
  | cons x l ih =>
    have hd := doI_in (wat := wat) (hl x List.mem_cons_self) hs hV
    unfold goI
    dsimp only
    split
    · exact ⟨hV, hd.2⟩
    · split
      · exact ih (fun y hy => hl y (List.mem_cons_of_mem _ hy)) hd.2 (fun y hy => by
          rcases List.mem_append.1 hy with h | h
          · exact hV y h
          · rw [List.mem_singleton.1 h]; exact hd.1)
      · exact ⟨hV, hd.2⟩
end Go.Proofs.YtbiinnfkokaadaaDoor.Ev
