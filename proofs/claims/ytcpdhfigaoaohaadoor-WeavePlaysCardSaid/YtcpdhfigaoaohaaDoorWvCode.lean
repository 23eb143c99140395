
/- A weave as the package does it, in plain words: whether a word of control fits, its cells, what it closes, what it opens; and that this is what chapter 10 asks. -/
import Derived.Test.YtcpdhfigaoaohaaDoorWvPlain
import Derived.Laws.CopyOwn
namespace Go.Proofs.YtcpdhfigaoaohaaDoor.Wv
open Go.RowKit
set_option linter.unusedVariables false
set_option linter.unusedSimpArgs false
/-- cells that are laid -/
def M.laid (m : M) (cs : List Int) : M := ⟨splice m.mem m.here cs, m.here + cs.length, m.l⟩
def layR (cs : List Int) (m : M) : Int × M := if m.here + cs.length ≤ m.mem.length then (0, m.laid cs) else (-8, m)
def M.dropped (m : M) : M := m.held m.l.tail
def M.lead (m : M) : M := (m.point m.top.2 m.here).held m.l.tail
def M.push (m : M) (k c : Nat) : M := m.held ((k, c) :: m.l)
/-- c: the word of control, as WvPlain.word has it, less one -/
def fitsF (c : Nat) (m : M) : Bool :=
  match c with
  | 7 => decide (m.top.1 = 4) && decide (m.under.1 = 3)
  | 4 => decide (m.top.1 = 3)
  | 5 => decide (m.top.1 = 3)
  | 6 => decide (m.top.1 = 3)
  | 2 => decide (m.top.1 = 2) || decide (m.top.1 = 1)
  | 1 => decide (m.top.1 = 1)
  | 9 => decide (m.top.1 = 5)
  | 10 => decide (m.top.1 = 5)
  | _ => true
def cellsF (c : Nat) (m : M) : List Int :=
  match c with
  | 0 => [4, 0]
  | 6 => [4, 0]
  | 1 => [3, 0]
  | 4 => [4, m.top.2]
  | 5 => [3, m.top.2]
  | 7 => [3, m.under.2]
  | 8 => [36]
  | 9 => [37, m.top.2]
  | 10 => [38, m.top.2]
  | _ => []
def shutF (c : Nat) (m : M) : M :=
  match c with
  | 1 => m.lead
  | 2 => m.lead
  | 7 => m.lead.dropped
  | 4 => m.dropped
  | 5 => m.dropped
  | 9 => m.dropped
  | 10 => m.dropped
  | _ => m
def beginF (c : Nat) (m : M) : M :=
  match c with
  | 0 => m.push 1 (m.here - 1)
  | 1 => m.push 2 (m.here - 1)
  | 6 => m.push 4 (m.here - 1)
  | 3 => m.push 3 m.here
  | 8 => m.push 5 m.here
  | _ => m
def turnR (c : Nat) (m : M) : Int × M := if m.here + (cellsF c m).length ≤ m.mem.length then (0, beginF c (shutF c (m.laid (cellsF c m)))) else (-8, m)
def formR (c : Nat) (m : M) : Int × M := if fitsF c m = true then turnR c m else (-22, m)
theorem splice_one (L : List Int) (o : Nat) (a : Int) (h : o < L.length) : splice L o [a] = L.set o a := by
  unfold splice
  rw [List.set_eq_take_append_cons_drop, if_pos h]
  rfl
theorem splice_two (L : List Int) (o : Nat) (a b : Int) (h : o + 1 < L.length) : splice L o [a, b] = (L.set o a).set (o + 1) b := by
  apply List.ext_getElem?
  intro i
  unfold splice
  rw [List.getElem?_set, List.getElem?_set, List.length_set]
  rcases Nat.lt_trichotomy i o with hi | hi | hi
  · rw [List.getElem?_append_left (by rw [List.length_take]; omega), List.getElem?_take, if_pos hi, if_neg (by omega), if_neg (by omega)]
  · subst hi
    rw [List.getElem?_append_right (by rw [List.length_take]; omega), List.length_take, Nat.min_eq_left (by omega), Nat.sub_self, if_neg (by omega), if_pos rfl, if_pos (by omega)]
    rfl
  · rw [List.getElem?_append_right (by rw [List.length_take]; omega), List.length_take, Nat.min_eq_left (by omega), if_neg (show ¬ o = i by omega)]
    by_cases h1 : o + 1 = i
    · subst h1
      rw [if_pos rfl, if_pos (by omega), Nat.add_sub_cancel_left]
      rfl
    · rw [if_neg h1]
      obtain ⟨k, rfl⟩ : ∃ k, i = o + 2 + k := ⟨i - (o + 2), by omega⟩
      rw [show o + 2 + k - o = k + 2 by omega]
      show (List.drop (o + 2) L)[k]? = _
      rw [List.getElem?_drop]
theorem laid_one {m : M} {a : Int} (h : m.here + 1 ≤ m.mem.length) : m.laid [a] = m.one a := by unfold M.laid M.one; rw [splice_one _ _ _ (by omega)]; rfl
theorem laid_two {m : M} {a b : Int} (h : m.here + 2 ≤ m.mem.length) : m.laid [a, b] = m.two a b := by unfold M.laid M.two; rw [splice_two _ _ _ _ (by omega)]; rfl
theorem laid_none (m : M) : m.laid [] = m := by
  unfold M.laid splice
  simp
theorem layR_one (a : Int) (m : M) : layR [a] m = put1 a m := by
  unfold layR put1
  by_cases h : m.here + 1 ≤ m.mem.length
  · rw [if_pos (by simpa using h), if_pos (fits_iff.2 h), laid_one h]
  · rw [if_neg (by simpa using h), if_neg (fun e => h (fits_iff.1 e))]
theorem layR_two (a b : Int) (m : M) : layR [a, b] m = put2 a b m := by
  unfold layR put2
  by_cases h : m.here + 2 ≤ m.mem.length
  · rw [if_pos (by simpa using h), if_pos (fits_iff.2 h), laid_two h]
  · rw [if_neg (by simpa using h), if_neg (fun e => h (fits_iff.1 e))]
theorem two_here (m : M) (a b : Int) : (m.two a b).here = m.here + 2 := rfl
theorem form_code (c : Nat) (hc : c < 11) {m : M} (hF : Fine m) : formR c m = form (c + 1) m := by
  have hh := hF.here
  have room2 : ∀ a b : Int, (m.here + ([a, b] : List Int).length ≤ m.mem.length) = (m.fits 2 = true) := fun a b => by rw [eq_iff_iff, fits_iff]; rfl
  have room1 : ∀ a : Int, (m.here + ([a] : List Int).length ≤ m.mem.length) = (m.fits 1 = true) := fun a => by rw [eq_iff_iff, fits_iff]; rfl
  unfold formR
  match c, hc with
  | 0, _ =>
    simp only [fitsF, if_true, turnR, cellsF, form, room2]
    split
    · rename_i h; rw [laid_two (fits_iff.1 h)]; rfl
    · rfl
  | 1, _ =>
    simp only [fitsF, turnR, cellsF, form, room2, decide_eq_true_eq]
    split
    · split
      · rename_i h; rw [laid_two (fits_iff.1 h)]; rfl
      · rfl
    · rfl
  | 2, _ =>
    simp only [fitsF, turnR, cellsF, form, Bool.or_eq_true, decide_eq_true_eq]
    rw [if_pos (show m.here + ([] : List Int).length ≤ m.mem.length by simpa using hh), laid_none]
    by_cases h : m.top.1 = 1 ∨ m.top.1 = 2
    · rw [if_pos h, if_pos (by omega)]; rfl
    · rw [if_neg h, if_neg (by omega)]
  | 3, _ =>
    simp only [fitsF, if_true, turnR, cellsF, form]
    rw [if_pos (show m.here + ([] : List Int).length ≤ m.mem.length by simpa using hh), laid_none]
    rfl
  | 4, _ =>
    simp only [fitsF, turnR, cellsF, form, close, room2, decide_eq_true_eq]
    split
    · split
      · rename_i h; rw [laid_two (fits_iff.1 h)]; rfl
      · rfl
    · rfl
  | 5, _ =>
    simp only [fitsF, turnR, cellsF, form, close, room2, decide_eq_true_eq]
    split
    · split
      · rename_i h; rw [laid_two (fits_iff.1 h)]; rfl
      · rfl
    · rfl
  | 6, _ =>
    simp only [fitsF, turnR, cellsF, form, room2, decide_eq_true_eq]
    split
    · split
      · rename_i h; rw [laid_two (fits_iff.1 h)]; rfl
      · rfl
    · rfl
  | 7, _ =>
    simp only [fitsF, turnR, cellsF, form, room2, decide_eq_true_eq, Bool.and_eq_true]
    split
    · split
      · rename_i h; rw [laid_two (fits_iff.1 h)]; rfl
      · rfl
    · rfl
  | 8, _ =>
    simp only [fitsF, if_true, turnR, cellsF, form, room1]
    split
    · rename_i h; rw [laid_one (fits_iff.1 h)]; rfl
    · rfl
  | 9, _ =>
    simp only [fitsF, turnR, cellsF, form, close, room2, decide_eq_true_eq]
    split
    · split
      · rename_i h; rw [laid_two (fits_iff.1 h)]; rfl
      · rfl
    · rfl
  | 10, _ =>
    simp only [fitsF, turnR, cellsF, form, close, room2, decide_eq_true_eq]
    split
    · split
      · rename_i h; rw [laid_two (fits_iff.1 h)]; rfl
      · rfl
    · rfl
end Go.Proofs.YtcpdhfigaoaohaaDoor.Wv
