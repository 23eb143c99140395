
/- A weave as chapter 10 has it, in plain words: its cells, the next one, what is open (the last one first); what each call does to it. -/
import Derived.Test.YtcpdhfigaoaohaaDoorOpPlain
namespace Go.Proofs.YtcpdhfigaoaohaaDoor.Wv
open Go.RowKit
set_option linter.unusedVariables false
set_option linter.unusedSimpArgs false
/-- l: what is open, the last one first: its kind (1 IF, 2 ELSE, 3 BEGIN, 4 WHILE, 5 DO), its cell -/
structure M where
  mem : List Int
  here : Nat
  l : List (Nat × Nat)
def M.fits (m : M) (n : Nat) : Bool := decide (m.here + n ≤ m.mem.length)
def M.one (m : M) (a : Int) : M := ⟨m.mem.set m.here a, m.here + 1, m.l⟩
def M.two (m : M) (a b : Int) : M := ⟨(m.mem.set m.here a).set (m.here + 1) b, m.here + 2, m.l⟩
def M.point (m : M) (k : Nat) (v : Int) : M := ⟨m.mem.set k v, m.here, m.l⟩
def M.held (m : M) (l : List (Nat × Nat)) : M := ⟨m.mem, m.here, l⟩
def M.top (m : M) : Nat × Nat := m.l.headD (0, 0)
def M.under (m : M) : Nat × Nat := m.l.tail.headD (0, 0)
def start (mem : List Int) (here : Int) : M := ⟨mem, (min (max here 0) (mem.length : Int)).toNat, []⟩
def put1 (a : Int) (m : M) : Int × M := if m.fits 1 then (0, m.one a) else (-8, m)
def put2 (a b : Int) (m : M) : Int × M := if m.fits 2 then (0, m.two a b) else (-8, m)
def op (a : Int) (m : M) : Int × M := if opB a && !argI a then put1 a m else (-13, m)
def arg (a v : Int) (m : M) : Int × M := if argI a then put2 a v m else (-13, m)
def call (xt : Int) (m : M) : Int × M := if xt < 64 then (-9, m) else put1 xt m
/-- the word of control that a text is, letters great or small; 0: none -/
def word (s : ByteArray) : Nat :=
  if up s = ⟨#[73, 70]⟩ then 1 else if up s = ⟨#[69, 76, 83, 69]⟩ then 2 else if up s = ⟨#[84, 72, 69, 78]⟩ then 3 else if up s = ⟨#[66, 69, 71, 73, 78]⟩ then 4
  else if up s = ⟨#[85, 78, 84, 73, 76]⟩ then 5 else if up s = ⟨#[65, 71, 65, 73, 78]⟩ then 6 else if up s = ⟨#[87, 72, 73, 76, 69]⟩ then 7 else if up s = ⟨#[82, 69, 80, 69, 65, 84]⟩ then 8
  else if up s = ⟨#[68, 79]⟩ then 9 else if up s = ⟨#[76, 79, 79, 80]⟩ then 10 else if up s = ⟨#[43, 76, 79, 79, 80]⟩ then 11 else 0
/-- what closes what is open: two cells are laid, what was open is gone -/
def close (a : Int) (k : Nat) (m : M) : Int × M := if m.top.1 = k then (if m.fits 2 then (0, (m.two a m.top.2).held m.l.tail) else (-8, m)) else (-22, m)
def form (c : Nat) (m : M) : Int × M :=
  match c with
  | 1 => if m.fits 2 then (0, (m.two 4 0).held ((1, m.here + 1) :: m.l)) else (-8, m)
  | 2 => if m.top.1 = 1 then (if m.fits 2 then (0, ((m.two 3 0).point m.top.2 (m.here + 2 : Nat)).held ((2, m.here + 1) :: m.l.tail)) else (-8, m)) else (-22, m)
  | 3 => if m.top.1 = 1 ∨ m.top.1 = 2 then (0, (m.point m.top.2 m.here).held m.l.tail) else (-22, m)
  | 4 => (0, m.held ((3, m.here) :: m.l))
  | 5 => close 4 3 m
  | 6 => close 3 3 m
  | 7 => if m.top.1 = 3 then (if m.fits 2 then (0, (m.two 4 0).held ((4, m.here + 1) :: m.l)) else (-8, m)) else (-22, m)
  | 8 => if m.top.1 = 4 ∧ m.under.1 = 3 then (if m.fits 2 then (0, ((m.two 3 m.under.2).point m.top.2 (m.here + 2 : Nat)).held m.l.tail.tail) else (-8, m)) else (-22, m)
  | 9 => if m.fits 1 then (0, (m.one 36).held ((5, m.here + 1) :: m.l)) else (-8, m)
  | 10 => close 37 5 m
  | 11 => close 38 5 m
  | _ => (-13, m)
theorem word_le (s : ByteArray) : word s ≤ 11 := by
  unfold word
  repeat' split
  all_goals omega
/-- what has no room, or does not fit, does nothing -/
def Still (r : Int × M) (m : M) : Prop := r.1 ≠ 0 → r.2 = m
theorem put1_still (a : Int) (m : M) : Still (put1 a m) m := by unfold put1; split <;> simp [Still]
theorem put2_still (a b : Int) (m : M) : Still (put2 a b m) m := by unfold put2; split <;> simp [Still]
theorem op_still (a : Int) (m : M) : Still (op a m) m := by
  unfold op
  split
  · exact put1_still _ _
  · simp [Still]
theorem arg_still (a v : Int) (m : M) : Still (arg a v m) m := by
  unfold arg
  split
  · exact put2_still _ _ _
  · simp [Still]
theorem call_still (a : Int) (m : M) : Still (call a m) m := by
  unfold call
  split
  · simp [Still]
  · exact put1_still _ _
theorem form_still (c : Nat) (m : M) : Still (form c m) m := by
  unfold form close
  repeat' split
  all_goals simp [Still]
/-- a weave that may be -/
structure Fine (m : M) : Prop where
  here : m.here ≤ m.mem.length
  cell : ∀ x ∈ m.l, x.2 ≤ m.here ∧ (x.1 = 1 ∨ x.1 = 2 ∨ x.1 = 4 → x.2 < m.here) ∧ 1 ≤ x.1 ∧ x.1 ≤ 5
theorem start_fine (mem : List Int) (here : Int) : Fine (start mem here) := ⟨by unfold start; dsimp only; omega, fun x h => by cases h⟩
theorem fits_iff {m : M} {n : Nat} : m.fits n = true ↔ m.here + n ≤ m.mem.length := by simp [M.fits]
/-- what a call does to the cells' number, to the next one, to what is open -/
structure Kin (m n : M) : Prop where
  len : n.mem.length = m.mem.length
  fine : Fine n
  less : n.l.length ≤ m.l.length + 1
theorem Fine.more {m n : M} (h : Fine m) (h1 : n.mem.length = m.mem.length) (h2 : m.here ≤ n.here) (h3 : n.here ≤ n.mem.length) (h4 : ∀ x ∈ n.l, x ∈ m.l ∨ (x.2 ≤ n.here ∧ (x.1 = 1 ∨ x.1 = 2 ∨ x.1 = 4 → x.2 < n.here) ∧ 1 ≤ x.1 ∧ x.1 ≤ 5)) : Fine n :=
  ⟨h3, fun x hx => by
    rcases h4 x hx with h5 | h5
    · have := h.cell x h5; exact ⟨by omega, fun h6 => by have := this.2.1 h6; omega, this.2.2⟩
    · exact h5⟩
theorem Fine.same {m : M} (h : Fine m) : Kin m m := ⟨rfl, h, Nat.le_succ _⟩
theorem put1_kin (a : Int) {m : M} (h : Fine m) : Kin m (put1 a m).2 := by
  unfold put1
  split
  · rename_i hf
    have hf := fits_iff.1 hf
    exact ⟨by simp [M.one], h.more (by simp [M.one]) (by simp [M.one]) (by simp [M.one]; omega) (fun x hx => .inl hx), by simp [M.one]⟩
  · exact h.same
theorem put2_kin (a b : Int) {m : M} (h : Fine m) : Kin m (put2 a b m).2 := by
  unfold put2
  split
  · rename_i hf
    have hf := fits_iff.1 hf
    exact ⟨by simp [M.two], h.more (by simp [M.two]) (by simp [M.two]) (by simp [M.two]; omega) (fun x hx => .inl hx), by simp [M.two]⟩
  · exact h.same
theorem op_kin (a : Int) {m : M} (h : Fine m) : Kin m (op a m).2 := by
  unfold op
  split
  · exact put1_kin _ h
  · exact h.same
theorem arg_kin (a v : Int) {m : M} (h : Fine m) : Kin m (arg a v m).2 := by
  unfold arg
  split
  · exact put2_kin _ _ h
  · exact h.same
theorem call_kin (a : Int) {m : M} (h : Fine m) : Kin m (call a m).2 := by
  unfold call
  split
  · exact h.same
  · exact put1_kin _ h
theorem close_kin (a : Int) (k : Nat) {m : M} (h : Fine m) : Kin m (close a k m).2 := by
  unfold close
  split
  · split
    · rename_i hf
      have hf := fits_iff.1 hf
      exact ⟨by simp [M.two, M.held], h.more (by simp [M.two, M.held]) (by simp [M.two, M.held]) (by simp [M.two, M.held]; omega) (fun x hx => .inl (List.mem_of_mem_tail hx)), by simp [M.two, M.held]; omega⟩
    · exact h.same
  · exact h.same
theorem form_kin (c : Nat) {m : M} (h : Fine m) : Kin m (form c m).2 := by
  have tl : ∀ x, x ∈ m.l.tail → x ∈ m.l := fun x hx => List.mem_of_mem_tail hx
  unfold form
  split
  · split
    · rename_i hf
      have hf := fits_iff.1 hf
      refine ⟨by simp [M.two, M.held], h.more (by simp [M.two, M.held]) (by simp [M.two, M.held]) (by simp [M.two, M.held]; omega) (fun x hx => ?_), by simp [M.two, M.held]⟩
      rcases List.mem_cons.1 hx with rfl | hx
      · exact .inr (by simp [M.two, M.held])
      · exact .inl hx
    · exact h.same
  · split
    · split
      · rename_i hf
        have hf := fits_iff.1 hf
        refine ⟨by simp [M.two, M.held, M.point], h.more (by simp [M.two, M.held, M.point]) (by simp [M.two, M.held, M.point]) (by simp [M.two, M.held, M.point]; omega) (fun x hx => ?_), by simp [M.two, M.held, M.point]⟩
        rcases List.mem_cons.1 hx with rfl | hx
        · exact .inr (by simp [M.two, M.held, M.point])
        · exact .inl (tl x hx)
      · exact h.same
    · exact h.same
  · split
    · have := h.here
      exact ⟨by simp [M.held, M.point], h.more (by simp [M.held, M.point]) (by simp [M.held, M.point]) (by simp [M.held, M.point]; omega) (fun x hx => .inl (tl x hx)), by simp [M.held, M.point]; omega⟩
    · exact h.same
  · have := h.here
    refine ⟨rfl, h.more rfl (Nat.le_refl _) this (fun x hx => ?_), by simp [M.held]⟩
    rcases List.mem_cons.1 hx with rfl | hx
    · exact .inr (by simp [M.held])
    · exact .inl hx
  · exact close_kin _ _ h
  · exact close_kin _ _ h
  · split
    · split
      · rename_i hf
        have hf := fits_iff.1 hf
        refine ⟨by simp [M.two, M.held], h.more (by simp [M.two, M.held]) (by simp [M.two, M.held]) (by simp [M.two, M.held]; omega) (fun x hx => ?_), by simp [M.two, M.held]⟩
        rcases List.mem_cons.1 hx with rfl | hx
        · exact .inr (by simp [M.two, M.held])
        · exact .inl hx
      · exact h.same
    · exact h.same
  · split
    · split
      · rename_i hf
        have hf := fits_iff.1 hf
        exact ⟨by simp [M.two, M.held, M.point], h.more (by simp [M.two, M.held, M.point]) (by simp [M.two, M.held, M.point]) (by simp [M.two, M.held, M.point]; omega) (fun x hx => .inl (tl x (List.mem_of_mem_tail hx))), by simp [M.two, M.held, M.point]; omega⟩
      · exact h.same
    · exact h.same
  · split
    · rename_i hf
      have hf := fits_iff.1 hf
      refine ⟨by simp [M.one, M.held], h.more (by simp [M.one, M.held]) (by simp [M.one, M.held]) (by simp [M.one, M.held]; omega) (fun x hx => ?_), by simp [M.one, M.held]⟩
      rcases List.mem_cons.1 hx with rfl | hx
      · exact .inr (by simp [M.one, M.held])
      · exact .inl hx
    · exact h.same
  · exact close_kin _ _ h
  · exact close_kin _ _ h
  · exact h.same
/-- what is open as it should be lies within the cells -/
theorem Fine.top_at {m : M} (h : Fine m) (hk : m.top.1 = 1 ∨ m.top.1 = 2 ∨ m.top.1 = 4) : m.top.2 < m.here := by
  unfold M.top at hk ⊢
  cases hl : m.l with
  | nil => rw [hl] at hk; simp at hk
  | cons x r =>
    rw [hl] at hk
    simp only [List.headD_cons] at hk ⊢
    exact (h.cell x (by rw [hl]; exact List.mem_cons_self)).2.1 hk
theorem Fine.top_le {m : M} (h : Fine m) : m.top.2 ≤ m.here := by
  unfold M.top
  cases hl : m.l with
  | nil => simp
  | cons x r => exact (h.cell x (by rw [hl]; exact List.mem_cons_self)).1
theorem top_some {m : M} (h : m.top.1 ≠ 0) : 0 < m.l.length := by
  unfold M.top at h
  cases hl : m.l with
  | nil => rw [hl] at h; simp at h
  | cons x r => simp
theorem under_some {m : M} (h : m.under.1 ≠ 0) : 1 < m.l.length := by
  unfold M.under at h
  rcases hl : m.l with - | ⟨x, - | ⟨y, r⟩⟩
  · rw [hl] at h; simp at h
  · rw [hl] at h; simp at h
  · simp
end Go.Proofs.YtcpdhfigaoaohaaDoor.Wv
