
/- Words of control that close what was opened, one in the other: each is laid, and at the end each branch leads to a cell. -/
import Derived.Test.YtffiknbdmdljoaaDoorWvLaid
namespace Go.Proofs.YtffiknbdmdljoaaDoor.Wv
open Go.RowKit
set_option linter.unusedVariables false
set_option linter.unusedSimpArgs false
/-- what is to be closed, the last one first: 1 an IF, 2 an ELSE, 3 a BEGIN, 4 a WHILE above a BEGIN, 5 a DO -/
def Opens : List Nat → List (Nat × Nat) → Prop
  | [], l => l = []
  | k :: r, l => if k = 4 then ∃ a b l', l = (4, a) :: (3, b) :: l' ∧ Opens r l' else (k = 1 ∨ k = 2 ∨ k = 3 ∨ k = 5) ∧ ∃ a l', l = (k, a) :: l' ∧ Opens r l'
/-- behind i words -/
structure Lay (b i : Nat) (os : List Nat) (m : M) : Prop where
  laid : ∃ its, Laid b its m.mem m.here m.l
  opens : Opens os m.l
  len : m.mem.length = 1000
  room : m.here ≤ b + 2 * i
  fine : Fine m
  most : os.length ≤ i
theorem Lay.start {b : Nat} (hb : b ≤ 100) : Lay b 0 [] ⟨List.replicate 1000 0, b, []⟩ := by
  have hl : (List.replicate 1000 (0 : Int)).length = 1000 := List.length_replicate
  exact ⟨⟨[], Laid.nil (by show b ≤ (List.replicate 1000 (0 : Int)).length; rw [hl]; omega)⟩, rfl, hl, Nat.le_refl _, ⟨by show b ≤ (List.replicate 1000 (0 : Int)).length; rw [hl]; omega, fun x h => (by cases h)⟩, Nat.le_refl _⟩
section
variable {b i : Nat} {os : List Nat} {m : M}
theorem Lay.fits (h : Lay b i os m) (hi : i ≤ 200) (hb : b ≤ 100) : m.here + 2 ≤ m.mem.length := by have := h.room; have := h.len; omega
theorem Lay.f2 (h : Lay b i os m) (hi : i ≤ 200) (hb : b ≤ 100) : m.fits 2 = true := fits_iff.2 (h.fits hi hb)
theorem Lay.f1 (h : Lay b i os m) (hi : i ≤ 200) (hb : b ≤ 100) : m.fits 1 = true := fits_iff.2 (by have := h.fits hi hb; omega)
theorem Lay.later (h : Lay b i os m) {j : Nat} (hj : i ≤ j) : Lay b j os m := ⟨h.laid, h.opens, h.len, by have := h.room; omega, h.fine, by have := h.most; omega⟩
/-- a word is done -/
def Goes (b i : Nat) (os : List Nat) (r : Int × M) : Prop := r.1 = 0 ∧ Lay b (i + 1) os r.2
theorem Lay.dup (h : Lay b i os m) (hi : i ≤ 200) (hb : b ≤ 100) : Goes b i os (op 6 m) := by
  obtain ⟨its, hl⟩ := h.laid
  have h0 : (opB 6 && !argI 6) = true := by decide
  have hk := op_kin 6 h.fine
  unfold op put1 at hk ⊢
  rw [if_pos h0, if_pos (h.f1 hi hb)] at hk ⊢
  have hf := h.fits hi hb
  exact ⟨rfl, ⟨_, hl.snoc1 (a := 6) (by unfold br; omega) (by omega)⟩, h.opens, by rw [hk.len]; exact h.len, by have := h.room; simp [M.one]; omega, hk.fine, by have := h.most; omega⟩
theorem Lay.open1 (h : Lay b i os m) (hi : i ≤ 200) (hb : b ≤ 100) : Goes b i (1 :: os) (form 1 m) := by
  obtain ⟨its, hl⟩ := h.laid
  have hk := form_kin 1 h.fine
  have hf := h.fits hi hb
  simp only [form, h.f2 hi hb, if_true] at hk ⊢
  refine ⟨rfl, ⟨_, hl.snoc2 (a := 4) (v := 0) (by unfold br; omega) hf (q := [(1, m.here + 1)]) (.inr ⟨1, by unfold pend; omega, rfl⟩)⟩, ?_, by rw [hk.len]; exact h.len, by have := h.room; simp [M.two, M.held]; omega, hk.fine, by have := h.most; simp; omega⟩
  exact ⟨.inl rfl, _, _, rfl, h.opens⟩
theorem Lay.open3 (h : Lay b i os m) (hi : i ≤ 200) (hb : b ≤ 100) : Goes b i (3 :: os) (form 4 m) := by
  obtain ⟨its, hl⟩ := h.laid
  have hk := form_kin 4 h.fine
  simp only [form] at hk ⊢
  have := hl.now
  refine ⟨rfl, ⟨_, hl.push (x := (3, m.here)) (by unfold pend; omega) (by dsimp only; omega) (Nat.le_refl _)⟩, ?_, by rw [hk.len]; exact h.len, by have := h.room; simp [M.held]; omega, hk.fine, by have := h.most; simp; omega⟩
  exact ⟨.inr (.inr (.inl rfl)), _, _, rfl, h.opens⟩
theorem Lay.open5 (h : Lay b i os m) (hi : i ≤ 200) (hb : b ≤ 100) : Goes b i (5 :: os) (form 9 m) := by
  obtain ⟨its, hl⟩ := h.laid
  have hk := form_kin 9 h.fine
  have hf := h.fits hi hb
  simp only [form, h.f1 hi hb, if_true] at hk ⊢
  have := hl.now
  refine ⟨rfl, ⟨_, (hl.snoc1 (a := 36) (by unfold br; omega) (by omega)).push (x := (5, m.here + 1)) (by unfold pend; omega) (by dsimp only; omega) (Nat.le_refl _)⟩, ?_, by rw [hk.len]; exact h.len, by have := h.room; simp [M.one, M.held]; omega, hk.fine, by have := h.most; simp; omega⟩
  exact ⟨.inr (.inr (.inr rfl)), _, _, rfl, h.opens⟩
theorem Opens.of1 {k : Nat} {r : List Nat} {l : List (Nat × Nat)} (h : Opens (k :: r) l) (hk : k ≠ 4) : ∃ a l', l = (k, a) :: l' ∧ Opens r l' := by
  unfold Opens at h
  rw [if_neg hk] at h
  exact h.2
theorem Opens.of4 {r : List Nat} {l : List (Nat × Nat)} (h : Opens (4 :: r) l) : ∃ a b l', l = (4, a) :: (3, b) :: l' ∧ Opens r l' := by
  unfold Opens at h
  rw [if_pos rfl] at h
  exact h
theorem Lay.open4 (h : Lay b i (3 :: os) m) (hi : i ≤ 200) (hb : b ≤ 100) : Goes b i (4 :: os) (form 7 m) := by
  obtain ⟨its, hl⟩ := h.laid
  obtain ⟨a, l', he, ho⟩ := h.opens.of1 (by decide)
  have hk := form_kin 7 h.fine
  have hf := h.fits hi hb
  have ht : m.top.1 = 3 := by unfold M.top; rw [he]; rfl
  simp only [form, h.f2 hi hb, ht, if_true] at hk ⊢
  refine ⟨rfl, ⟨_, hl.snoc2 (a := 4) (v := 0) (by unfold br; omega) hf (q := [(4, m.here + 1)]) (.inr ⟨4, by unfold pend; omega, rfl⟩)⟩, ?_, by rw [hk.len]; exact h.len, by have := h.room; simp [M.two, M.held]; omega, hk.fine, by have := h.most; simp at this ⊢; omega⟩
  unfold Opens
  rw [if_pos rfl]
  exact ⟨_, a, l', by rw [show (((m.two 4 0).held ((4, m.here + 1) :: m.l)).l) = (4, m.here + 1) :: m.l from rfl, he], ho⟩
theorem Lay.open2 (h : Lay b i (1 :: os) m) (hi : i ≤ 200) (hb : b ≤ 100) : Goes b i (2 :: os) (form 2 m) := by
  obtain ⟨its, hl⟩ := h.laid
  obtain ⟨a, l', he, ho⟩ := h.opens.of1 (by decide)
  have hk := form_kin 2 h.fine
  have hf := h.fits hi hb
  have ht : m.top = (1, a) := by unfold M.top; rw [he]; rfl
  simp only [form, h.f2 hi hb, ht, if_true] at hk ⊢
  have hl2 := hl
  rw [he] at hl2
  have hnow := hl.now
  have h1 := hl2.snoc2 (a := 3) (v := 0) (by unfold br; omega) hf (q := [(2, m.here + 1)]) (.inr ⟨2, by unfold pend; omega, rfl⟩)
  have h2 : ∃ its', Laid b its' (((m.mem.set m.here 3).set (m.here + 1) 0).set a ((m.here + 2 : Nat) : Int)) (m.here + 2) ((2, m.here + 1) :: l') := by
    refine Laid.point (x := (1, a)) (its := its ++ [.two 3 0]) (l := (2, m.here + 1) :: l') ?_ (by unfold pend; omega) (by omega) (by omega)
    refine ⟨h1.now, h1.cells, h1.len, h1.ones, h1.twos, fun n c v hn => ?_, fun x hx => h1.pends x ?_, fun x hx => h1.low x ?_⟩
    · rcases h1.goes n c v hn with h3 | ⟨x, hx, h3⟩
      · exact .inl h3
      · exact .inr ⟨x, by simp at hx ⊢; rcases hx with h4 | h4 | h4 <;> simp [h4], h3⟩
    · simp at hx ⊢; rcases hx with h4 | h4 | h4 <;> simp [h4]
    · simp at hx ⊢; rcases hx with h4 | h4 | h4 <;> simp [h4]
  refine ⟨rfl, ?_, ?_, by rw [hk.len]; exact h.len, by have := h.room; simp [M.two, M.held, M.point]; omega, hk.fine, by have := h.most; simp at this ⊢; omega⟩
  · obtain ⟨its', h3⟩ := h2
    refine ⟨its', ?_⟩
    rw [show ((((m.two 3 0).point a ((m.here + 2 : Nat) : Int)).held ((2, m.here + 1) :: m.l.tail)).l) = (2, m.here + 1) :: m.l.tail from rfl, he]
    exact h3
  · exact ⟨.inr (.inl rfl), _, _, rfl, by rw [he]; exact ho⟩
theorem Lay.close1 {k : Nat} (h : Lay b i (k :: os) m) (hk0 : k = 1 ∨ k = 2) : Goes b i os (form 3 m) := by
  obtain ⟨its, hl⟩ := h.laid
  obtain ⟨a, l', he, ho⟩ := h.opens.of1 (by omega)
  have hk := form_kin 3 h.fine
  have ht : m.top = (k, a) := by unfold M.top; rw [he]; rfl
  have hl2 := hl
  rw [he] at hl2
  have hnow := hl.now
  simp only [form, ht, hk0, if_true] at hk ⊢
  obtain ⟨its', h3⟩ := hl2.point (by unfold pend; omega) (v := (m.here : Int)) (by omega) (by omega)
  refine ⟨rfl, ⟨its', ?_⟩, ?_, by rw [hk.len]; exact h.len, by have := h.room; simp [M.held, M.point]; omega, hk.fine, by have := h.most; simp at this; omega⟩
  · rw [show ((m.point a (m.here : Int)).held m.l.tail).l = m.l.tail from rfl, he]
    exact h3
  · rw [show ((m.point a (m.here : Int)).held m.l.tail).l = m.l.tail from rfl, he]
    exact ho
theorem Lay.closes {k : Nat} {c : Int} (h : Lay b i (k :: os) m) (hi : i ≤ 200) (hb : b ≤ 100) (hk0 : k = 3 ∨ k = 5) (hc : br c) (hc2 : c = 4 ∨ c = 37 ∨ c = 3) : Goes b i os (close c k m) := by
  obtain ⟨its, hl⟩ := h.laid
  obtain ⟨a, l', he, ho⟩ := h.opens.of1 (by omega)
  have hk := close_kin c k h.fine
  have hf := h.fits hi hb
  have ht : m.top = (k, a) := by unfold M.top; rw [he]; rfl
  have hl2 := hl
  rw [he] at hl2
  have hlow := hl2.low (k, a) List.mem_cons_self
  simp only [close, h.f2 hi hb, ht, if_true] at hk ⊢
  have h1 := (hl2.pop (by unfold pend; omega)).snoc2 (a := c) (v := (a : Int)) hc hf (q := []) (.inl ⟨rfl, by simp at hlow; omega, by simp at hlow; omega⟩)
  refine ⟨rfl, ⟨its ++ [.two c a], ?_⟩, ?_, by rw [hk.len]; exact h.len, by have := h.room; simp [M.held, M.two]; omega, hk.fine, by have := h.most; simp at this; omega⟩
  · rw [show ((m.two c (a : Int)).held m.l.tail).l = m.l.tail from rfl, he]
    exact h1
  · rw [show ((m.two c (a : Int)).held m.l.tail).l = m.l.tail from rfl, he]
    exact ho
theorem Lay.close3 (h : Lay b i (3 :: os) m) (hi : i ≤ 200) (hb : b ≤ 100) : Goes b i os (form 5 m) := h.closes hi hb (.inl rfl) (by unfold br; omega) (.inl rfl)
theorem Lay.close5 (h : Lay b i (5 :: os) m) (hi : i ≤ 200) (hb : b ≤ 100) : Goes b i os (form 10 m) := h.closes hi hb (.inr rfl) (by unfold br; omega) (.inr (.inl rfl))
theorem Lay.close4 (h : Lay b i (4 :: os) m) (hi : i ≤ 200) (hb : b ≤ 100) : Goes b i os (form 8 m) := by
  obtain ⟨its, hl⟩ := h.laid
  obtain ⟨a, d, l', he, ho⟩ := h.opens.of4
  have hk := form_kin 8 h.fine
  have hf := h.fits hi hb
  have ht : m.top = (4, a) := by unfold M.top; rw [he]; rfl
  have hu : m.under = (3, d) := by unfold M.under; rw [he]; rfl
  have hl2 := hl
  rw [he] at hl2
  have hlow := hl2.low (3, d) (by simp)
  have hnow := hl.now
  simp only [form, h.f2 hi hb, ht, hu, if_true, and_self] at hk ⊢
  have h0 : Laid b its m.mem m.here ((4, a) :: l') := by
    have hn : ¬ pend (3, d) := by unfold pend; omega
    refine ⟨hl2.now, hl2.cells, hl2.len, hl2.ones, hl2.twos, fun n c v hn' => ?_, fun x hx => hl2.pends x ?_, fun x hx => hl2.low x ?_⟩
    · rcases hl2.goes n c v hn' with h3 | ⟨x, hx, h3⟩
      · exact .inl h3
      · refine .inr ⟨x, ?_, h3⟩
        simp at hx ⊢
        rcases hx with h4 | h4 | h4
        · exact .inl h4
        · rw [h4] at h3; exact absurd h3.1 hn
        · exact .inr h4
    · simp at hx ⊢; rcases hx with h4 | h4 <;> simp [h4]
    · simp at hx ⊢; rcases hx with h4 | h4 <;> simp [h4]
  have h1 := h0.snoc2 (a := 3) (v := (d : Int)) (by unfold br; omega) hf (q := []) (.inl ⟨rfl, by simp at hlow; omega, by simp at hlow; omega⟩)
  obtain ⟨its', h3⟩ := h1.point (by unfold pend; omega) (v := ((m.here + 2 : Nat) : Int)) (by omega) (by omega)
  have hlt : (((m.two 3 (d : Int)).point a ((m.here + 2 : Nat) : Int)).held m.l.tail.tail).l = m.l.tail.tail := rfl
  refine ⟨rfl, ⟨its', ?_⟩, ?_, by rw [hk.len]; exact h.len, by have := h.room; simp [M.held, M.two, M.point]; omega, hk.fine, by have := h.most; simp at this; omega⟩
  · rw [hlt, he]
    exact h3
  · rw [hlt, he]
    exact ho
theorem Lay.shut (h : Lay b i [] m) : m.l = [] := h.opens
end
end Go.Proofs.YtffiknbdmdljoaaDoor.Wv
