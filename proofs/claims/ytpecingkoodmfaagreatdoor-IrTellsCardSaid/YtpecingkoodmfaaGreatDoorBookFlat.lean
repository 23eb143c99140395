
/- Cells of lists of structs, one behind the other; no program in sight. -/
import Derived.Test.YtpecingkoodmfaaGreatDoorBookWide
namespace Go.Proofs.YtpecingkoodmfaaGreatDoor.Book
theorem flat_length {α : Type} {enc : α → List Value} {k : Nat} (h : ∀ a, (enc a).length = k) (es : List α) : (es.flatMap enc).length = es.length * k := by
  induction es with
  | nil => simp
  | cons a r ih => rw [List.flatMap_cons, List.length_append, h, ih, List.length_cons, Nat.add_mul, Nat.one_mul, Nat.add_comm]
theorem flat_at {α : Type} {enc : α → List Value} {k : Nat} (h : ∀ a, (enc a).length = k) {es : List α} {j : Nat} {a : α} (ha : es[j]? = some a) {i : Nat} {u : Value} (hu : (enc a)[i]? = some u) : (es.flatMap enc)[j * k + i]? = some u := by
  induction es generalizing j with
  | nil => cases ha
  | cons b r ih =>
    rw [List.flatMap_cons]
    have hi : i < k := by have := (List.getElem?_eq_some_iff.1 hu).1; rw [h] at this; exact this
    cases j with
    | zero =>
      simp at ha
      subst ha
      rw [Nat.zero_mul, Nat.zero_add, List.getElem?_append_left (by rw [h]; exact hi)]
      exact hu
    | succ j =>
      rw [List.getElem?_append_right (by rw [h, Nat.add_mul]; omega), h, show (j + 1) * k + i - k = j * k + i by rw [Nat.add_mul]; omega]
      exact ih ha
/-- lists that were marked bear marks -/
theorem done_wide {ls cur : List (Value × List Value)} {mk : Nat → Nat → List Value} {sz : Nat} (hz : 0 < sz) (h : Done (fun j c => mk j (c / sz)) ls ls.length cur) (most : Nat) (hl : ∀ k ∈ ls, ∃ n, k.2.length = n * sz ∧ n ≤ most) : ∀ i k, cur[i]? = some k → ∃ n, k.2 = mk i n ∧ n ≤ most := by
  intro i k hk
  have hi : i < ls.length := by rw [← h.len]; exact (List.getElem?_eq_some_iff.1 hk).1
  have h1 : ls[i]? = some ls[i] := List.getElem?_eq_getElem hi
  have h2 := h.done i _ hi h1
  obtain ⟨n, h3, h4⟩ := hl _ (List.mem_of_getElem? h1)
  rw [hk, h3, Nat.mul_div_cancel _ hz] at h2
  simp only [Option.some.injEq] at h2
  subst h2
  exact ⟨n, rfl, h4⟩
end Go.Proofs.YtpecingkoodmfaaGreatDoor.Book
