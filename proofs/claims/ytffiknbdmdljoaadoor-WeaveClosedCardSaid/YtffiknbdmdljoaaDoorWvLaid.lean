
/- Cells that were laid one behind the other: operations alone, branches with an operand; where each branch leads. -/
import Derived.Test.YtffiknbdmdljoaaDoorWvPlain
namespace Go.Proofs.YtffiknbdmdljoaaDoor.Wv
open Go.RowKit
set_option linter.unusedVariables false
set_option linter.unusedSimpArgs false
inductive It where
  | one (a : Int)
  | two (a v : Int)
def It.cells : It → List Int
  | .one a => [a]
  | .two a v => [a, v]
def flat (its : List It) : List Int := its.flatMap It.cells
def pos (its : List It) (n : Nat) : Nat := (flat (its.take n)).length
def br (a : Int) : Prop := a = 3 ∨ a = 4 ∨ a = 37
def pend (x : Nat × Nat) : Prop := x.1 = 1 ∨ x.1 = 2 ∨ x.1 = 4
theorem flat_append (x y : List It) : flat (x ++ y) = flat x ++ flat y := List.flatMap_append
theorem flat_one (x : It) : flat [x] = x.cells := by simp [flat]
theorem flat_take (its : List It) {n : Nat} {x : It} (h : its[n]? = some x) : flat (its.take (n + 1)) = flat (its.take n) ++ x.cells := by
  rw [List.take_add_one, h, flat_append]
  simp [flat]
theorem flat_split (its : List It) {n : Nat} {x : It} (h : its[n]? = some x) : ∃ r, flat its = flat (its.take n) ++ (x.cells ++ r) := by
  refine ⟨flat (its.drop (n + 1)), ?_⟩
  rw [← List.append_assoc, ← flat_take its h, ← flat_append, List.take_append_drop]
theorem pos_zero (its : List It) : pos its 0 = 0 := by simp [pos, flat]
theorem pos_all (its : List It) : pos its its.length = (flat its).length := by simp [pos]
theorem pos_one {its : List It} {n : Nat} {a : Int} (h : its[n]? = some (.one a)) : pos its (n + 1) = pos its n + 1 := by
  unfold pos; rw [flat_take its h]; simp [It.cells]
theorem pos_two {its : List It} {n : Nat} {a v : Int} (h : its[n]? = some (.two a v)) : pos its (n + 1) = pos its n + 2 := by
  unfold pos; rw [flat_take its h]; simp [It.cells]
theorem pos_lt {its : List It} {n : Nat} (h : n < its.length) : pos its n < pos its (n + 1) := by
  rcases hx : its[n]'h with a | ⟨a, v⟩
  · rw [pos_one (a := a) (by rw [List.getElem?_eq_getElem h, hx])]; omega
  · rw [pos_two (a := a) (v := v) (by rw [List.getElem?_eq_getElem h, hx])]; omega
theorem pos_mono {its : List It} {n : Nat} : ∀ d, n + d ≤ its.length → pos its n + d ≤ pos its (n + d)
  | 0, _ => Nat.le_refl _
  | d + 1, h => by
    have h1 := pos_mono d (n := n) (its := its) (by omega)
    have h2 := pos_lt (its := its) (n := n + d) (by omega)
    show pos its n + (d + 1) ≤ pos its (n + d + 1)
    omega
theorem pos_inj {its : List It} {n m : Nat} (hn : n ≤ its.length) (hm : m ≤ its.length) (h : pos its n = pos its m) : n = m := by
  rcases Nat.lt_trichotomy n m with h1 | h1 | h1
  · have := pos_mono (its := its) (n := n) (m - n) (by omega)
    rw [show n + (m - n) = m by omega] at this; omega
  · exact h1
  · have := pos_mono (its := its) (n := m) (n - m) (by omega)
    rw [show m + (n - m) = n by omega] at this; omega
theorem pos_end {its : List It} {n : Nat} (hn : n ≤ its.length) : pos its n ≤ (flat its).length := by
  have := pos_mono (its := its) (n := n) (its.length - n) (by omega)
  rw [show n + (its.length - n) = its.length by omega, pos_all] at this
  omega
theorem cell_one {its : List It} {n : Nat} {a : Int} (h : its[n]? = some (.one a)) : (flat its)[pos its n]? = some a := by
  obtain ⟨r, hr⟩ := flat_split its h
  rw [hr]; simp [pos, It.cells]
theorem cell_two {its : List It} {n : Nat} {a v : Int} (h : its[n]? = some (.two a v)) : (flat its)[pos its n]? = some a ∧ (flat its)[pos its n + 1]? = some v := by
  obtain ⟨r, hr⟩ := flat_split its h
  rw [hr]; simp [pos, It.cells, List.getElem?_append_right]
/-- an operand is another one -/
theorem flat_set {its : List It} {n : Nat} {a v : Int} (h : its[n]? = some (.two a v)) (u : Int) : flat (its.set n (.two a u)) = (flat its).set (pos its n + 1) u := by
  induction its generalizing n with
  | nil => simp at h
  | cons x r ih =>
    cases n with
    | zero =>
      simp at h
      subst h
      simp [flat, pos, It.cells]
    | succ n =>
      have h1 := ih (n := n) (by simpa using h)
      have h2 : flat (x :: r) = x.cells ++ flat r := by simp [flat]
      have h3 : flat ((x :: r).set (n + 1) (.two a u)) = x.cells ++ flat (r.set n (.two a u)) := by simp [flat]
      have h4 : pos (x :: r) (n + 1) = x.cells.length + pos r n := by simp [pos, flat]
      rw [h2, h3, h1, h4, Nat.add_assoc, List.set_append_right _ _ (by omega)]
      congr 2
      omega
theorem pos_set {its : List It} {n : Nat} {a v : Int} (h : its[n]? = some (.two a v)) (u : Int) (m : Nat) : pos (its.set n (.two a u)) m = pos its m := by
  unfold pos
  rw [List.take_set]
  by_cases hm : n < m
  · rw [flat_set (v := v) (by rw [List.getElem?_take, if_pos hm, h])]
    simp
  · rw [List.set_eq_of_length_le (by simp; omega)]
/-- what was laid from b on -/
structure Laid (b : Nat) (its : List It) (mem : List Int) (here : Nat) (l : List (Nat × Nat)) : Prop where
  now : here = b + (flat its).length
  cells : ∀ j, j < (flat its).length → mem[b + j]? = (flat its)[j]?
  len : here ≤ mem.length
  ones : ∀ (n : Nat) (a : Int), its[n]? = some (It.one a) → ¬ br a
  twos : ∀ (n : Nat) (a v : Int), its[n]? = some (It.two a v) → br a
  goes : ∀ (n : Nat) (a v : Int), its[n]? = some (It.two a v) → ((b : Int) ≤ v ∧ v ≤ here) ∨ ∃ x ∈ l, pend x ∧ x.2 = b + pos its n + 1
  pends : ∀ x ∈ l, pend x → ∃ (n : Nat) (a v : Int), its[n]? = some (It.two a v) ∧ x.2 = b + pos its n + 1
  low : ∀ x ∈ l, b ≤ x.2 ∧ x.2 ≤ here
theorem Laid.nil {b : Nat} {mem : List Int} (h : b ≤ mem.length) : Laid b [] mem b [] :=
  ⟨by simp [flat], fun j hj => by simp [flat] at hj, h, fun n a h => by simp at h, fun n a v h => by simp at h, fun n a v h => by simp at h, fun x h _ => (by cases h), fun x h => (by cases h)⟩
theorem getElem?_snoc {its : List It} {x y : It} {n : Nat} (h : (its ++ [x])[n]? = some y) : (its[n]? = some y ∧ n < its.length) ∨ (n = its.length ∧ y = x) := by
  rcases Nat.lt_trichotomy n its.length with h1 | h1 | h1
  · rw [List.getElem?_append_left h1] at h; exact .inl ⟨h, h1⟩
  · subst h1; rw [List.getElem?_append_right (Nat.le_refl _)] at h; simp at h; exact .inr ⟨rfl, h.symm⟩
  · rw [List.getElem?_eq_none (by simp; omega)] at h; cases h
theorem pos_snoc {its : List It} {x : It} {n : Nat} (h : n ≤ its.length) : pos (its ++ [x]) n = pos its n := by unfold pos; rw [List.take_append_of_le_length h]
section
variable {b here : Nat} {its : List It} {mem : List Int} {l : List (Nat × Nat)}
theorem Laid.snoc1 (h : Laid b its mem here l) {a : Int} (ha : ¬ br a) (hr : here + 1 ≤ mem.length) : Laid b (its ++ [.one a]) (mem.set here a) (here + 1) l := by
  have hf : flat (its ++ [.one a]) = flat its ++ [a] := by rw [flat_append, flat_one]; rfl
  have hh := h.now
  refine ⟨by rw [hf]; simp; omega, fun j hj => ?_, by simpa using hr, fun n c hc => ?_, fun n c v hc => ?_, fun n c v hc => ?_, fun x hx hp => ?_, fun x hx => by have := h.low x hx; omega⟩
  · rw [hf] at hj ⊢
    simp at hj
    by_cases h1 : j < (flat its).length
    · rw [List.getElem?_set_ne (by omega), h.cells j h1, List.getElem?_append_left h1]
    · have : j = (flat its).length := by omega
      subst this
      rw [← hh, List.getElem?_set_self (by omega)]; simp
  · rcases getElem?_snoc hc with ⟨h1, _⟩ | ⟨_, h1⟩
    · exact h.ones n c h1
    · cases h1; exact ha
  · rcases getElem?_snoc hc with ⟨h1, _⟩ | ⟨_, h1⟩
    · exact h.twos n c v h1
    · cases h1
  · rcases getElem?_snoc hc with ⟨h1, h2⟩ | ⟨_, h1⟩
    · rw [pos_snoc (by omega)]
      rcases h.goes n c v h1 with h3 | h3
      · exact .inl ⟨h3.1, by omega⟩
      · exact .inr h3
    · cases h1
  · obtain ⟨n, c, v, h1, h2⟩ := h.pends x hx hp
    have h3 : n < its.length := by
      rcases Nat.lt_or_ge n its.length with h4 | h4
      · exact h4
      · rw [List.getElem?_eq_none h4] at h1; cases h1
    exact ⟨n, c, v, by rw [List.getElem?_append_left h3, h1], by rw [pos_snoc (by omega)]; exact h2⟩
/-- a branch: it leads to a cell, or it is open -/
theorem Laid.snoc2 (h : Laid b its mem here l) {a v : Int} (ha : br a) (hr : here + 2 ≤ mem.length) {q : List (Nat × Nat)} (hq : (q = [] ∧ (b : Int) ≤ v ∧ v ≤ here + 2) ∨ ∃ k, pend (k, here + 1) ∧ q = [(k, here + 1)]) :
    Laid b (its ++ [.two a v]) ((mem.set here a).set (here + 1) v) (here + 2) (q ++ l) := by
  have hf : flat (its ++ [.two a v]) = flat its ++ [a, v] := by rw [flat_append, flat_one]; rfl
  have hh := h.now
  have hp : pos its its.length = (flat its).length := pos_all its
  refine ⟨by rw [hf]; simp; omega, fun j hj => ?_, by simpa using hr, fun n c hc => ?_, fun n c u hc => ?_, fun n c u hc => ?_, fun x hx hx2 => ?_, fun x hx => ?_⟩
  · rw [hf] at hj ⊢
    simp at hj
    by_cases h1 : j < (flat its).length
    · rw [List.getElem?_set_ne (by omega), List.getElem?_set_ne (by omega), h.cells j h1, List.getElem?_append_left h1]
    · by_cases h2 : j = (flat its).length
      · subst h2
        rw [← hh, List.getElem?_set_ne (by omega), List.getElem?_set_self (by omega)]; simp
      · have : j = (flat its).length + 1 := by omega
        subst this
        rw [← Nat.add_assoc, ← hh, List.getElem?_set_self (by simp; omega), List.getElem?_append_right (by omega)]; simp
  · rcases getElem?_snoc hc with ⟨h1, _⟩ | ⟨_, h1⟩
    · exact h.ones n c h1
    · cases h1
  · rcases getElem?_snoc hc with ⟨h1, _⟩ | ⟨_, h1⟩
    · exact h.twos n c u h1
    · cases h1; exact ha
  · rcases getElem?_snoc hc with ⟨h1, h2⟩ | ⟨h2, h1⟩
    · rw [pos_snoc (by omega)]
      rcases h.goes n c u h1 with h3 | ⟨x, hx, h3⟩
      · exact .inl ⟨h3.1, by omega⟩
      · exact .inr ⟨x, List.mem_append_right _ hx, h3⟩
    · cases h1
      subst h2
      rw [pos_snoc (Nat.le_refl _), hp]
      rcases hq with ⟨_, h3⟩ | ⟨k, h3, h4⟩
      · exact .inl ⟨h3.1, by omega⟩
      · exact .inr ⟨(k, here + 1), by rw [h4]; simp, h3, by dsimp only; omega⟩
  · rcases List.mem_append.1 hx with hx | hx
    · rcases hq with ⟨h3, _⟩ | ⟨k, h3, h4⟩
      · rw [h3] at hx; cases hx
      · rw [h4] at hx
        obtain rfl := List.mem_singleton.1 hx
        exact ⟨its.length, a, v, by simp, by rw [pos_snoc (Nat.le_refl _), hp]; dsimp only; omega⟩
    · obtain ⟨n, c, u, h1, h2⟩ := h.pends x hx hx2
      have h3 : n < its.length := by
        rcases Nat.lt_or_ge n its.length with h4 | h4
        · exact h4
        · rw [List.getElem?_eq_none h4] at h1; cases h1
      exact ⟨n, c, u, by rw [List.getElem?_append_left h3, h1], by rw [pos_snoc (by omega)]; exact h2⟩
  · rcases List.mem_append.1 hx with hx | hx
    · rcases hq with ⟨h3, _⟩ | ⟨k, h3, h4⟩
      · rw [h3] at hx; cases hx
      · rw [h4] at hx
        obtain rfl := List.mem_singleton.1 hx
        dsimp only; omega
    · have := h.low x hx; omega
/-- what was open leads to a cell now -/
theorem Laid.point {x : Nat × Nat} (h : Laid b its mem here (x :: l)) (hx : pend x) {v : Int} (h1 : (b : Int) ≤ v) (h2 : v ≤ here) : ∃ its', Laid b its' (mem.set x.2 v) here l := by
  obtain ⟨n, a, u, hn, hp⟩ := h.pends x List.mem_cons_self hx
  have hlt : n < its.length := by
    rcases Nat.lt_or_ge n its.length with h4 | h4
    · exact h4
    · rw [List.getElem?_eq_none h4] at hn; cases hn
  have hf := flat_set hn v
  have hps : ∀ m, pos (its.set n (.two a v)) m = pos its m := pos_set hn v
  have hend : pos its n + 2 ≤ (flat its).length := by have := pos_end (its := its) (n := n + 1) (by omega); rw [pos_two hn] at this; exact this
  refine ⟨its.set n (.two a v), by rw [hf, List.length_set]; exact h.now, fun j hj => ?_, by simpa using h.len, fun m c hc => ?_, fun m c w hc => ?_, fun m c w hc => ?_, fun y hy hy2 => ?_, fun y hy => h.low y (List.mem_cons_of_mem _ hy)⟩
  · rw [hf, List.length_set] at hj
    rw [hf, hp, Nat.add_assoc]
    have hh := h.now
    have hl := h.len
    by_cases h3 : j = pos its n + 1
    · subst h3
      rw [List.getElem?_set_self (by omega), List.getElem?_set_self (by omega)]
    · rw [List.getElem?_set_ne (by omega), List.getElem?_set_ne (by omega), h.cells j hj]
  · by_cases h3 : m = n
    · subst h3; rw [List.getElem?_set_self hlt] at hc; cases hc
    · rw [List.getElem?_set_ne (Ne.symm h3)] at hc; exact h.ones m c hc
  · by_cases h3 : m = n
    · subst h3; rw [List.getElem?_set_self hlt] at hc; cases hc; exact h.twos m a u hn
    · rw [List.getElem?_set_ne (Ne.symm h3)] at hc; exact h.twos m c w hc
  · rw [hps]
    by_cases h3 : m = n
    · subst h3; rw [List.getElem?_set_self hlt] at hc; cases hc; exact .inl ⟨h1, h2⟩
    · rw [List.getElem?_set_ne (Ne.symm h3)] at hc
      rcases h.goes m c w hc with h4 | ⟨y, hy, hy2, hy3⟩
      · exact .inl h4
      · rcases List.mem_cons.1 hy with rfl | hy
        · have hm : m < its.length := by
            rcases Nat.lt_or_ge m its.length with h4 | h4
            · exact h4
            · rw [List.getElem?_eq_none h4] at hc; cases hc
          exact absurd (pos_inj (its := its) (n := m) (m := n) (by omega) (by omega) (by omega)) h3
        · exact .inr ⟨y, hy, hy2, hy3⟩
  · obtain ⟨m, c, w, h3, h4⟩ := h.pends y (List.mem_cons_of_mem _ hy) hy2
    by_cases h5 : m = n
    · subst h5
      exact ⟨m, a, v, List.getElem?_set_self hlt, by rw [hps]; exact h4⟩
    · exact ⟨m, c, w, by rw [List.getElem?_set_ne (Ne.symm h5)]; exact h3, by rw [hps]; exact h4⟩
theorem Laid.push (h : Laid b its mem here l) {x : Nat × Nat} (hx : ¬ pend x) (h1 : b ≤ x.2) (h2 : x.2 ≤ here) : Laid b its mem here (x :: l) :=
  ⟨h.now, h.cells, h.len, h.ones, h.twos, fun n a v hn => by
    rcases h.goes n a v hn with h3 | ⟨y, hy, h3⟩
    · exact .inl h3
    · exact .inr ⟨y, List.mem_cons_of_mem _ hy, h3⟩, fun y hy hp => by
    rcases List.mem_cons.1 hy with rfl | hy
    · exact absurd hp hx
    · exact h.pends y hy hp, fun y hy => by
    rcases List.mem_cons.1 hy with rfl | hy
    · exact ⟨h1, h2⟩
    · exact h.low y hy⟩
theorem Laid.pop {x : Nat × Nat} (h : Laid b its mem here (x :: l)) (hx : ¬ pend x) : Laid b its mem here l :=
  ⟨h.now, h.cells, h.len, h.ones, h.twos, fun n a v hn => by
    rcases h.goes n a v hn with h3 | ⟨y, hy, h3⟩
    · exact .inl h3
    · rcases List.mem_cons.1 hy with rfl | hy
      · exact absurd h3.1 hx
      · exact .inr ⟨y, hy, h3⟩, fun y hy hp => h.pends y (List.mem_cons_of_mem _ hy) hp, fun y hy => h.low y (List.mem_cons_of_mem _ hy)⟩
/-- where nothing is open: an operation alone, or a branch that leads to a cell that was laid, or to the next one -/
theorem Laid.item (h : Laid b its mem here []) {n : Nat} (hn : n < its.length) :
    (∃ a, its[n]? = some (.one a) ∧ mem[b + pos its n]? = some a ∧ ¬ br a ∧ pos its (n + 1) = pos its n + 1) ∨
    (∃ a v, its[n]? = some (.two a v) ∧ mem[b + pos its n]? = some a ∧ br a ∧ mem[b + pos its n + 1]? = some v ∧ (b : Int) ≤ v ∧ v ≤ here ∧ pos its (n + 1) = pos its n + 2) := by
  have hend := pos_end (its := its) (n := n + 1) (by omega)
  rcases hx : its[n]'hn with a | ⟨a, v⟩
  · have h1 : its[n]? = some (.one a) := by rw [List.getElem?_eq_getElem hn, hx]
    have hp := pos_one h1
    refine .inl ⟨a, h1, ?_, h.ones n a h1, hp⟩
    rw [h.cells _ (by omega)]; exact cell_one h1
  · have h1 : its[n]? = some (.two a v) := by rw [List.getElem?_eq_getElem hn, hx]
    have hp := pos_two h1
    refine .inr ⟨a, v, h1, ?_, h.twos n a v h1, ?_, ?_⟩
    · rw [h.cells _ (by omega)]; exact (cell_two h1).1
    · rw [Nat.add_assoc, h.cells _ (by omega)]; exact (cell_two h1).2
    · rcases h.goes n a v h1 with h2 | ⟨x, hx, _⟩
      · exact ⟨h2.1, h2.2, hp⟩
      · cases hx
theorem Laid.last (h : Laid b its mem here l) {n : Nat} (hn : n ≤ its.length) (hk : b + pos its n < here) : n < its.length := by
  rcases Nat.lt_or_ge n its.length with h1 | h1
  · exact h1
  · have : n = its.length := by omega
    rw [this, pos_all] at hk
    have := h.now
    omega
end
end Go.Proofs.YtffiknbdmdljoaaDoor.Wv
