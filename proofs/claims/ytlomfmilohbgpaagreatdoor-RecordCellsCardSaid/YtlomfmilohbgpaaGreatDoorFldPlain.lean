
/- Plain facts on rising lists of numbers; what a memory of cells is in memory. -/
import Derived.Test.YtlomfmilohbgpaaGreatDoorRows
import Derived.Test.YtlomfmilohbgpaaGreatDoorVals
import Derived.Test.YtlomfmilohbgpaaGreatDoorInsert
import Derived.Lib.Hide
namespace Go.Proofs.YtlomfmilohbgpaaGreatDoor.Fld.Mem
open Go.RowKit Book Go.Proofs.YtlomfmilohbgpaaGreatDoor.Mem
/-- as many as are less -/
abbrev lessN (xs : List Int) (x : Int) : Nat := xs.countP (· < x)
theorem lessN_le (xs : List Int) (x : Int) : lessN xs x ≤ xs.length := List.countP_le_length
theorem lessN_all {xs : List Int} {x : Int} (h : ∀ y ∈ xs, x < y) : lessN xs x = 0 := by
  unfold lessN
  rw [List.countP_eq_zero]
  intro y hy
  have := h y hy
  simp; omega
theorem lessN_split {xs : List Int} (h : xs.Pairwise (· < ·)) (x : Int) : (∀ y ∈ xs.take (lessN xs x), y < x) ∧ (∀ y ∈ xs.drop (lessN xs x), x ≤ y) := by
  induction xs with
  | nil => exact ⟨fun y h => by simp at h, fun y h => by simp at h⟩
  | cons a r ih =>
    obtain ⟨h1, h2⟩ := List.pairwise_cons.1 h
    obtain ⟨i1, i2⟩ := ih h2
    by_cases hax : a < x
    · have e : lessN (a :: r) x = lessN r x + 1 := by unfold lessN; rw [List.countP_cons_of_pos (by simpa using hax)]
      rw [e]
      refine ⟨fun y hy => ?_, fun y hy => i2 y (by simpa using hy)⟩
      rw [List.take_succ_cons, List.mem_cons] at hy
      rcases hy with rfl | hy
      · exact hax
      · exact i1 y hy
    · have e : lessN (a :: r) x = 0 := by
        refine lessN_all' ?_ 
        intro y hy
        rcases List.mem_cons.1 hy with rfl | hy
        · omega
        · have := h1 y hy; omega
      rw [e]
      refine ⟨fun y hy => by simp at hy, fun y hy => ?_⟩
      rw [List.drop_zero, List.mem_cons] at hy
      rcases hy with rfl | hy
      · omega
      · have := h1 y hy; omega
where
  lessN_all' {xs : List Int} {x : Int} (h : ∀ y ∈ xs, x ≤ y) : lessN xs x = 0 := by
    unfold lessN
    rw [List.countP_eq_zero]
    intro y hy
    have := h y hy
    simp; omega
/-- one number more, at its place -/
abbrev put (xs : List Int) (x : Int) : List Int := xs.take (lessN xs x) ++ x :: xs.drop (lessN xs x)
theorem put_mem (xs : List Int) (x y : Int) : y ∈ put xs x ↔ y = x ∨ y ∈ xs := by
  unfold put
  rw [List.mem_append, List.mem_cons]
  have : y ∈ xs ↔ y ∈ xs.take (lessN xs x) ∨ y ∈ xs.drop (lessN xs x) := by rw [← List.mem_append, List.take_append_drop]
  rw [this]
  constructor
  · rintro (h | h | h)
    · exact .inr (.inl h)
    · exact .inl h
    · exact .inr (.inr h)
  · rintro (h | h | h)
    · exact .inr (.inl h)
    · exact .inl h
    · exact .inr (.inr h)
theorem put_sort {xs : List Int} (h : xs.Pairwise (· < ·)) {x : Int} (hn : x ∉ xs) : (put xs x).Pairwise (· < ·) := by
  obtain ⟨h1, h2⟩ := lessN_split h x
  unfold put
  have hd : ∀ y ∈ xs.drop (lessN xs x), x < y := fun y hy => by
    have := h2 y hy
    have hne : y ≠ x := fun e => hn (e ▸ List.mem_of_mem_drop hy)
    omega
  rw [List.pairwise_append, List.pairwise_cons]
  refine ⟨h.sublist (List.take_sublist _ _), ⟨hd, h.sublist (List.drop_sublist _ _)⟩, fun a ha b hb => ?_⟩
  have := h1 a ha
  rcases List.mem_cons.1 hb with rfl | hb
  · exact this
  · have := hd b hb; omega
/-- what a store makes of the changed cells -/
def chg (xs : List Int) (x : Int) : List Int := if xs.contains x then xs else put xs x
theorem chg_mem (xs : List Int) (x y : Int) : y ∈ chg xs x ↔ y = x ∨ y ∈ xs := by
  unfold chg
  split
  · rename_i h
    have h : x ∈ xs := by simpa using h
    exact ⟨.inr, fun h2 => by rcases h2 with rfl | h2; exact h; exact h2⟩
  · exact put_mem xs x y
theorem chg_sort {xs : List Int} (h : xs.Pairwise (· < ·)) (x : Int) : (chg xs x).Pairwise (· < ·) := by
  unfold chg
  split
  · exact h
  · rename_i hc
    exact put_sort h (by simpa using hc)
/-- rising lists that hold the same are one -/
theorem sorted_ext {xs ys : List Int} (hx : xs.Pairwise (· < ·)) (hy : ys.Pairwise (· < ·)) (h : ∀ a, a ∈ xs ↔ a ∈ ys) : xs = ys := by
  induction xs generalizing ys with
  | nil =>
    cases ys with
    | nil => rfl
    | cons b r => exact absurd ((h b).2 List.mem_cons_self) (by simp)
  | cons a r ih =>
    cases ys with
    | nil => exact absurd ((h a).1 List.mem_cons_self) (by simp)
    | cons b s =>
      obtain ⟨x1, x2⟩ := List.pairwise_cons.1 hx
      obtain ⟨y1, y2⟩ := List.pairwise_cons.1 hy
      have hab : a = b := by
        rcases List.mem_cons.1 ((h a).1 List.mem_cons_self) with e | h1
        · exact e
        · rcases List.mem_cons.1 ((h b).2 List.mem_cons_self) with e | h2
          · exact e.symm
          · have := y1 a h1; have := x1 b h2; omega
      subst hab
      rw [ih x2 y2 fun c => ?_]
      constructor
      · intro hc
        rcases List.mem_cons.1 ((h c).1 (List.mem_cons_of_mem _ hc)) with rfl | h1
        · exact absurd (x1 c hc) (by omega)
        · exact h1
      · intro hc
        rcases List.mem_cons.1 ((h c).2 (List.mem_cons_of_mem _ hc)) with rfl | h1
        · exact absurd (y1 c hc) (by omega)
        · exact h1
theorem sorted_len {xs : List Int} {lo hi : Int} (h : xs.Pairwise (· < ·)) (hb : ∀ x ∈ xs, lo ≤ x ∧ x < hi) : xs.length ≤ (hi - lo).toNat := by
  induction xs generalizing lo with
  | nil => simp
  | cons a r ih =>
    obtain ⟨h1, h2⟩ := List.pairwise_cons.1 h
    have ha := hb a List.mem_cons_self
    have := ih (lo := a + 1) h2 fun x hx => ⟨by have := h1 x hx; omega, (hb x (List.mem_cons_of_mem _ hx)).2⟩
    simp only [List.length_cons]
    omega
theorem vals_put (xs : List Int) (x : Int) : (vals xs).take (lessN xs x) ++ .int .i64 x :: (vals xs).drop (lessN xs x) = vals (put xs x) := by simp [vals, put]
/-- a memory of cells: its block, its cells' row, the row of the changed ones -/
structure FieldAt (w : World) (B p : Nat) (vC vH : Value) (cs ch : List Int) : Prop where
  whole : w.heap[p]? = some (.cells #[vC, vH] 95 (0, 0))
  le : B ≤ p
  cells : Owns w B 3 vC (vals cs)
  form : ∃ g cap, vC = .slice (some ⟨g, 0, none⟩) cs.length cap
  len : cs.length ≤ 3000
  chd : Owns w B 3 vH (vals ch)
  bare : ch = [] → vH = .slice none 0 0
  sort : ch.Pairwise (· < ·)
  within : ∀ x ∈ ch, 0 ≤ x ∧ x < (cs.length : Int)
  apart : ∀ k, blk vC = some k → blk vH ≠ some k
/-- the blocks of a memory -/
abbrev foot (p : Nat) (vC vH : Value) : List Nat := p :: ((blk vC).toList ++ (blk vH).toList)
section
variable {w w' : World} {B p : Nat} {vC vH : Value} {cs ch : List Int}
theorem FieldAt.chLen (h : FieldAt w B p vC vH cs ch) : ch.length ≤ cs.length := by
  have := sorted_len h.sort h.within
  omega
theorem FieldAt.touch (h : FieldAt w B p vC vH cs ch) {bs : List Nat} (ht : Stirred w w' bs) (hn : ∀ k ∈ foot p vC vH, k ∉ bs) : FieldAt w' B p vC vH cs ch :=
  ⟨ht.whole h.whole (hn p List.mem_cons_self), h.le, h.cells.touch ht (fun k hk => hn k (List.mem_cons_of_mem _ (List.mem_append_left _ (by simp [hk])))), h.form, h.len,
    h.chd.touch ht (fun k hk => hn k (List.mem_cons_of_mem _ (List.mem_append_right _ (by simp [hk])))), h.bare, h.sort, h.within, h.apart⟩
theorem FieldAt.below (h : FieldAt w B p vC vH cs ch) (hb : Below w.heap.size w w') : FieldAt w' B p vC vH cs ch :=
  h.touch (Stirred.of_below hb []) (fun _ _ => List.not_mem_nil)
theorem FieldAt.from (h : FieldAt w B p vC vH cs ch) {B' : Nat} (hb : B' ≤ B) : FieldAt w B' p vC vH cs ch :=
  ⟨h.whole, Nat.le_trans hb h.le, h.cells.from hb, h.form, h.len, h.chd.from hb, h.bare, h.sort, h.within, h.apart⟩
theorem FieldAt.foot_lt (h : FieldAt w B p vC vH cs ch) : ∀ k ∈ foot p vC vH, B ≤ k ∧ k < w.heap.size := by
  intro k hk
  rcases List.mem_cons.1 hk with rfl | hk
  · exact ⟨h.le, whole_lt h.whole⟩
  · rcases List.mem_append.1 hk with hk | hk
    · have := h.cells.block k (by simpa using hk); exact ⟨this.1, this.2.1⟩
    · have := h.chd.block k (by simpa using hk); exact ⟨this.1, this.2.1⟩
theorem FieldAt.pC (h : FieldAt w B p vC vH cs ch) : blk vC ≠ some p ∧ blk vH ≠ some p := by
  refine ⟨fun e => ?_, fun e => ?_⟩
  · obtain ⟨_, _, c, hc⟩ := h.cells.block p e
    rw [h.whole] at hc
    simp only [Option.some.injEq, Obj.cells.injEq] at hc
    exact absurd hc.2.1 (by decide)
  · obtain ⟨_, _, c, hc⟩ := h.chd.block p e
    rw [h.whole] at hc
    simp only [Option.some.injEq, Obj.cells.injEq] at hc
    exact absurd hc.2.1 (by decide)
theorem FieldAt.c0 (h : FieldAt w B p vC vH cs ch) : w.cell? ⟨p, 0, .none⟩ = some vC := whole_cell h.whole rfl
theorem FieldAt.c1 (h : FieldAt w B p vC vH cs ch) : w.cell? ⟨p, 1, .none⟩ = some vH := whole_cell h.whole rfl
end
/-- cells stored at the head of a row of one's own -/
theorem Owns.restored {w : World} {B g cap : Nat} {xs ys : List Value} (h : Owns w B 3 (.slice (some ⟨g, 0, none⟩) xs.length cap) xs) (hl : ys.length = xs.length) : Owns (w.setCells g 0 ys) B 3 (.slice (some ⟨g, 0, none⟩) ys.length cap) ys := by
  rcases h with ⟨ao, h1, h2⟩ | ⟨g', cap', cur, h1, h0, h2, h3, h4, h5, h6, h7⟩
  · subst h2
    obtain rfl : ys = [] := List.eq_nil_of_length_eq_zero hl
    exact .inl ⟨ao, h1, rfl⟩
  · simp only [Value.slice.injEq, Option.some.injEq, Addr.mk.injEq, and_true, true_and] at h1
    obtain ⟨rfl, rfl⟩ := h1
    refine Owns.of_cells (setCells_block g 3 cap ys 0 w ⟨cur, h3, h6⟩) h2 (fun j x hj => ?_) h0 (by omega) h5
    have hlt := (List.getElem?_eq_some_iff.1 hj).1
    have := World.cell?_setCells_in g ys 0 w (fun k hk => by simp only [World.cell?, h3]; rw [Nat.zero_add, Array.getElem?_eq_getElem (by omega)]; rfl) j hlt
    rw [Nat.zero_add] at this
    rw [this, ← hj, List.getElem?_eq_getElem hlt]
end Go.Proofs.YtlomfmilohbgpaaGreatDoor.Fld.Mem
