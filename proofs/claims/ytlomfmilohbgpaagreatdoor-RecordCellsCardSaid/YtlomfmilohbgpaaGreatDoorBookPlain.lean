
/- Kept lists in memory: what a world says of them, and what stays so; no program in sight. -/
import Derived.OwnWalk
import Derived.WalkKit
import Derived.Below
import Derived.ArgAppend
import Derived.Laws.OwnMore
import Derived.Deep.Draws
import Derived.Laws.AppendOwnNone
namespace Go.Proofs.YtlomfmilohbgpaaGreatDoor.Book
open Go.RowKit

/-- the block that a slice value has room in: none, if it has no room -/
def blk : Value → Option Nat
  | .slice (some a) _ cap => if cap = 0 then none else some a.block
  | _ => none
theorem blk_pos {g n cap : Nat} (h : 0 < cap) : blk (.slice (some ⟨g, 0, none⟩) n cap) = some g := by simp only [blk]; rw [if_neg (by omega)]
theorem blk_zero (ao : Option Addr) (n : Nat) : blk (.slice ao n 0) = none := by cases ao <;> simp [blk]
/-- a slice value whose elements are these cells: of no room, wherever it leads to, or in a row that is its own -/
def Owns (w : World) (B E : Nat) (v : Value) (xs : List Value) : Prop :=
  (∃ ao, v = .slice ao 0 0 ∧ xs = []) ∨
  ∃ g cap cur, v = .slice (some ⟨g, 0, none⟩) xs.length cap ∧ 0 < cap ∧ B ≤ g ∧ w.heap[g]? = some (.cells cur E (0, 0)) ∧ xs.length ≤ cap ∧ cap ≤ maxLen ∧ cur.size = cap ∧ cur.toList.take xs.length = xs
theorem Owns.of_row {w : World} {B E n : Nat} {v : Value} {xs : List Value} (h : w.ownsRow B E 1 v n xs) : Owns w B E v xs := by
  have hn : xs.length = n := by have := h.1; omega
  subst hn
  rcases h.2 with ⟨h1, h2⟩ | ⟨g, cap, cur, h1, h2, h3, h4, h5, h6, h7⟩
  · exact .inl ⟨none, by rw [h1], List.eq_nil_of_length_eq_zero h2⟩
  · rw [Nat.mul_one] at h6 h7
    by_cases h0 : cap = 0
    · have hx : xs = [] := List.eq_nil_of_length_eq_zero (by omega)
      subst hx; subst h0
      exact .inl ⟨_, h1, rfl⟩
    · exact .inr ⟨g, cap, cur, h1, by omega, h2, h3, h4, h5, h6, h7⟩
theorem Owns.to_row {w : World} {B E : Nat} {v : Value} {xs : List Value} (h : Owns w B E v xs) (hz : xs = [] → v = .slice none 0 0) : w.ownsRow B E 1 v xs.length xs := by
  rcases h with ⟨ao, h1, h2⟩ | ⟨g, cap, cur, h1, h0, h2, h3, h4, h5, h6, h7⟩
  · rw [hz h2, h2]; exact World.ownsRow_nil _ _ _ _
  · exact ⟨by omega, .inr ⟨g, cap, cur, h1, h2, h3, h4, h5, by omega, by rw [Nat.mul_one]; exact h7⟩⟩
theorem Owns.row_of {w : World} {B E g n cap : Nat} {xs : List Value} (h : Owns w B E (.slice (some ⟨g, 0, none⟩) n cap) xs) (h0 : 0 < cap) : w.ownsRow B E 1 (.slice (some ⟨g, 0, none⟩) n cap) xs.length xs := by
  rcases h with ⟨ao, h1, h2⟩ | ⟨g, cap, cur, h1, h0, h2, h3, h4, h5, h6, h7⟩
  · simp only [Value.slice.injEq] at h1; omega
  · exact ⟨by omega, .inr ⟨g, cap, cur, h1, h2, h3, h4, h5, by omega, by rw [Nat.mul_one]; exact h7⟩⟩
theorem Owns.ownBlock_eq {w : World} {B E : Nat} {v : Value} {xs : List Value} (h : Owns w B E v xs) (hz : xs = [] → v = .slice none 0 0) : v.ownBlock = blk v := by
  rcases h with ⟨ao, h1, h2⟩ | ⟨g, cap, cur, h1, h0, _⟩
  · rw [hz h2]; rfl
  · rw [h1, blk_pos h0]; rfl
/-- w' is w, but for new blocks and what stands in these blocks -/
structure Stirred (w w' : World) (bs : List Nat) : Prop where
  os : w'.os = w.os
  tape : w'.tape = w.tape
  output : w'.output = w.output
  size : w.heap.size ≤ w'.heap.size
  block : ∀ k, k < w.heap.size → k ∉ bs → w'.heap[k]? = w.heap[k]?
theorem Stirred.refl (w : World) (bs : List Nat) : Stirred w w bs := ⟨rfl, rfl, rfl, Nat.le_refl _, fun _ _ _ => rfl⟩
theorem Stirred.trans {w w1 w2 : World} {bs cs : List Nat} (h : Stirred w w1 bs) (g : Stirred w1 w2 cs) (hc : ∀ k ∈ cs, k ∈ bs ∨ w.heap.size ≤ k) : Stirred w w2 bs :=
  ⟨g.os.trans h.os, g.tape.trans h.tape, g.output.trans h.output, Nat.le_trans h.size g.size, fun k hk hb =>
    (g.block k (Nat.lt_of_lt_of_le hk h.size) (fun hm => by rcases hc k hm with h1 | h1; exact hb h1; omega)).trans (h.block k hk hb)⟩
theorem Stirred.more {w w' : World} {bs cs : List Nat} (h : Stirred w w' bs) (hc : ∀ k ∈ bs, k ∈ cs) : Stirred w w' cs :=
  ⟨h.os, h.tape, h.output, h.size, fun k hk hb => h.block k hk (fun hm => hb (hc k hm))⟩
theorem Stirred.of_below {w w' : World} (h : Below w.heap.size w w') (bs : List Nat) : Stirred w w' bs := ⟨h.os, h.tape, h.output, h.size, fun k hk _ => h.block k hk⟩
theorem Stirred.of_grown {w w' : World} {row : Option Nat} (h : w.grownBy w' row) : Stirred w w' row.toList :=
  ⟨h.os, h.tape, h.output, h.size, fun k hk hb => h.block k hk (fun e => hb (by rw [← e]; simp))⟩
theorem Stirred.setCell (w : World) (a : Addr) (v : Value) : Stirred w (w.setCell a v) [a.block] :=
  Stirred.of_grown (row := some a.block) ⟨rfl, rfl, rfl, by simp [World.setCell], fun k hk hne => by
    have : a.block ≠ k := fun e => hne (by rw [e])
    simp [World.setCell, Array.getElem?_modify, this]⟩
theorem Stirred.drewN (w : World) (n : Nat) (bs : List Nat) : Stirred w (w.drewN n) bs := ⟨rfl, rfl, rfl, Nat.le_refl _, fun _ _ _ => rfl⟩
theorem Stirred.below {w w' : World} {bs : List Nat} (h : Stirred w w' bs) {B : Nat} (hb : ∀ k ∈ bs, B ≤ k) (hB : B ≤ w.heap.size) : Below B w w' :=
  ⟨h.os, h.tape, h.output, h.size, fun k hk => h.block k (by omega) (fun hm => by have := hb k hm; omega)⟩

theorem Owns.block {w : World} {B E : Nat} {v : Value} {xs : List Value} (h : Owns w B E v xs) : ∀ k, (blk v) = some k → B ≤ k ∧ k < w.heap.size ∧ ∃ cur, w.heap[k]? = some (.cells cur E (0, 0)) := by
  intro k hk
  rcases h with ⟨ao, rfl, _⟩ | ⟨g, cap, cur, rfl, h0, hb, hg, _⟩
  · rw [blk_zero] at hk; cases hk
  · rw [blk_pos h0] at hk
    simp at hk
    subst hk
    exact ⟨hb, (Array.getElem?_eq_some_iff.1 hg).1, cur, hg⟩
theorem Owns.same {w w' : World} {B E : Nat} {v : Value} {xs : List Value} (h : Owns w B E v xs) (hs : ∀ k, (blk v) = some k → w'.heap[k]? = w.heap[k]?) : Owns w' B E v xs := by
  rcases h with h2 | ⟨g, cap, cur, h1, h0, h2, h3, h4⟩
  · exact .inl h2
  · refine .inr ⟨g, cap, cur, h1, h0, h2, ?_, h4⟩
    rw [hs g (by rw [h1, blk_pos h0])]; exact h3
theorem Owns.touch {w w' : World} {B E : Nat} {v : Value} {xs : List Value} {bs : List Nat} (h : Owns w B E v xs) (ht : Stirred w w' bs) (hn : ∀ k, (blk v) = some k → k ∉ bs) : Owns w' B E v xs :=
  h.same fun k hk => ht.block k (h.block k hk).2.1 (hn k hk)
theorem Owns.below {w w' : World} {B E : Nat} {v : Value} {xs : List Value} (h : Owns w B E v xs) (hb : Below w.heap.size w w') : Owns w' B E v xs :=
  h.touch (Stirred.of_below hb []) (fun _ _ => List.not_mem_nil)
theorem Owns.from {w : World} {B B' E : Nat} {v : Value} {xs : List Value} (h : Owns w B E v xs) (hb : B' ≤ B) : Owns w B' E v xs := by
  rcases h with h2 | ⟨g, cap, cur, h1, h0, h2, h3⟩
  · exact .inl h2
  · exact .inr ⟨g, cap, cur, h1, h0, by omega, h3⟩
theorem Owns.empty (w : World) (B E : Nat) (ao : Option Addr) : Owns w B E (.slice ao 0 0) [] := .inl ⟨ao, rfl, rfl⟩
theorem Owns.nil (w : World) (B E : Nat) : Owns w B E (.slice none 0 0) [] := .inl ⟨none, rfl, rfl⟩
/-- two rows of other types are no one block -/
theorem Owns.apart {w : World} {B B' E E' : Nat} {v v' : Value} {xs xs' : List Value} (h : Owns w B E v xs) (h' : Owns w B' E' v' xs') (hE : E ≠ E') : ∀ k, (blk v) = some k → (blk v') ≠ some k := by
  intro k hk hk'
  obtain ⟨_, _, c, hc⟩ := h.block k hk
  obtain ⟨_, _, c', hc'⟩ := h'.block k hk'
  rw [hc] at hc'
  simp only [Option.some.injEq, Obj.cells.injEq] at hc'
  exact hE hc'.2.1
/-- what a slice value of n elements is -/
theorem Owns.form {w : World} {B E : Nat} {v : Value} {xs : List Value} (h : Owns w B E v xs) : (∃ ao, v = .slice ao 0 0 ∧ xs = []) ∨ ∃ g cap, v = .slice (some ⟨g, 0, none⟩) xs.length cap ∧ 0 < cap := by
  rcases h with h1 | ⟨g, cap, cur, h1, h0, _⟩
  · exact .inl h1
  · exact .inr ⟨g, cap, h1, h0⟩
theorem Owns.slice {w : World} {B E : Nat} {v : Value} {xs : List Value} (h : Owns w B E v xs) : ∃ ao cap, v = .slice ao xs.length cap := by
  rcases h.form with ⟨ao, h1, h2⟩ | ⟨g, cap, h1, _⟩
  · exact ⟨ao, 0, by rw [h1, h2]; rfl⟩
  · exact ⟨_, _, h1⟩
theorem Owns.row {w : World} {B E : Nat} {v : Value} {xs : List Value} (h : Owns w B E v xs) (h0 : 0 < xs.length) : ∃ g cap, v = .slice (some ⟨g, 0, none⟩) xs.length cap ∧ (∀ j x, xs[j]? = some x → w.cell? ⟨g, j, none⟩ = some x) ∧ (∀ j, w.frozen? ⟨g, j, none⟩ = false) ∧ xs.length ≤ cap := by
  rcases h with ⟨ao, h1, h2⟩ | ⟨g, cap, cur, h1, h0', h2, h3, h4, h5, h6, h7⟩
  · rw [h2] at h0; exact absurd h0 (Nat.lt_irrefl 0)
  · refine ⟨g, cap, h1, fun j x hx => ?_, fun j => by simp [World.frozen?, h3], h4⟩
    have hj : j < xs.length := (List.getElem?_eq_some_iff.1 hx).1
    rw [← h7, List.getElem?_take, if_pos hj] at hx
    simp [World.cell?, h3]
    simpa using hx
theorem Owns.capAt {w : World} {B E g n cap : Nat} {xs : List Value} (h : Owns w B E (.slice (some ⟨g, 0, none⟩) n cap) xs) (h0 : 0 < xs.length) : blk (.slice (some ⟨g, 0, none⟩) n cap) = some g := by
  obtain ⟨g', cap', e, _, _, h4⟩ := h.row h0
  simp only [Value.slice.injEq, Option.some.injEq, Addr.mk.injEq, and_true] at e
  exact blk_pos (by omega)
/-- a store into a row of one's own -/
theorem Owns.stored {w : World} {B E g n cap : Nat} {xs : List Value} (h : Owns w B E (.slice (some ⟨g, 0, none⟩) n cap) xs) (j : Nat) (u : Value) : Owns (w.setCell ⟨g, j, none⟩ u) B E (.slice (some ⟨g, 0, none⟩) n cap) (xs.set j u) := by
  rcases h with ⟨ao, h1, h2⟩ | ⟨g', cap', cur, h1, h0, h2, h3, h4, h5, h6, h7⟩
  · subst h2
    exact .inl ⟨ao, h1, rfl⟩
  · simp only [Value.slice.injEq, Option.some.injEq, Addr.mk.injEq, and_true] at h1
    obtain ⟨rfl, rfl, rfl⟩ := h1
    refine .inr ⟨g, cap, cur.setIfInBounds j u, by simp, h0, h2, ?_, by simpa using h4, h5, by simpa using h6, ?_⟩
    · simp [World.setCell, Array.getElem?_modify, h3]
    · rw [Array.toList_setIfInBounds, List.length_set, List.take_set, h7]

/-- the blocks of lists -/
def blocks (ls : List (Value × List Value)) : List Nat := ls.flatMap fun k => (blk k.1).toList
/-- a list of lists: its own row, and each list's own row, no two of which are one -/
structure Lists (w : World) (B SL E : Nat) (vS : Value) (ls : List (Value × List Value)) : Prop where
  spine : Owns w B SL vS (ls.map (·.1))
  list : ∀ k ∈ ls, Owns w B E k.1 k.2
  apart : (blocks ls).Nodup
theorem Lists.nil (w : World) (B SL E : Nat) : Lists w B SL E (.slice none 0 0) [] := ⟨Owns.nil _ _ _, fun _ h => (by cases h), List.nodup_nil⟩
theorem mem_blocks {ls : List (Value × List Value)} {k : Value × List Value} {b : Nat} (hk : k ∈ ls) (hb : (blk k.1) = some b) : b ∈ blocks ls := by
  unfold blocks
  rw [List.mem_flatMap]
  exact ⟨k, hk, by rw [hb]; simp⟩
theorem Lists.touch {w w' : World} {B SL E : Nat} {vS : Value} {ls : List (Value × List Value)} {bs : List Nat} (h : Lists w B SL E vS ls) (ht : Stirred w w' bs) (hs : ∀ k, (blk vS) = some k → k ∉ bs) (hl : ∀ k ∈ blocks ls, k ∉ bs) : Lists w' B SL E vS ls :=
  ⟨h.spine.touch ht hs, fun k hk => (h.list k hk).touch ht (fun b hb => hl b (mem_blocks hk hb)), h.apart⟩
theorem Lists.below {w w' : World} {B SL E : Nat} {vS : Value} {ls : List (Value × List Value)} (h : Lists w B SL E vS ls) (hb : Below w.heap.size w w') : Lists w' B SL E vS ls :=
  h.touch (Stirred.of_below hb []) (fun _ _ => List.not_mem_nil) (fun _ _ => List.not_mem_nil)
theorem Lists.lt {w : World} {B SL E : Nat} {vS : Value} {ls : List (Value × List Value)} (h : Lists w B SL E vS ls) : ∀ k ∈ blocks ls, B ≤ k ∧ k < w.heap.size := by
  intro b hb
  unfold blocks at hb
  rw [List.mem_flatMap] at hb
  obtain ⟨k, hk, hb⟩ := hb
  have hb' : (blk k.1) = some b := by simpa using hb
  exact ⟨((h.list k hk).block b hb').1, ((h.list k hk).block b hb').2.1⟩
/-- the spine's block is none of the lists' -/
theorem Lists.spine_apart {w : World} {B SL E : Nat} {vS : Value} {ls : List (Value × List Value)} (h : Lists w B SL E vS ls) (hE : SL ≠ E) : ∀ k, (blk vS) = some k → k ∉ blocks ls := by
  intro b hb hm
  unfold blocks at hm
  rw [List.mem_flatMap] at hm
  obtain ⟨k, hk, hm⟩ := hm
  have hb' : (blk k.1) = some b := by simpa using hm
  exact h.spine.apart (h.list k hk) hE b hb hb'
theorem nodup_at {ls : List (Value × List Value)} (h : (blocks ls).Nodup) {i j : Nat} {a b : Value × List Value} (hi : ls[i]? = some a) (hj : ls[j]? = some b) (hij : i ≠ j) : ∀ k, (blk a.1) = some k → (blk b.1) ≠ some k := by
  intro k ha hb
  induction ls generalizing i j with
  | nil => cases hi
  | cons c r ih =>
    have hs : blocks (c :: r) = (blk c.1).toList ++ blocks r := rfl
    rw [hs, List.nodup_append] at h
    match i, j, hi, hj with
    | 0, 0, _, _ => exact hij rfl
    | 0, j + 1, hi, hj =>
      simp at hi hj
      subst hi
      exact h.2.2 k (by rw [ha]; simp) k (mem_blocks (List.mem_of_getElem? hj) hb) rfl
    | i + 1, 0, hi, hj =>
      simp at hi hj
      subst hj
      exact h.2.2 k (by rw [hb]; simp) k (mem_blocks (List.mem_of_getElem? hi) ha) rfl
    | i + 1, j + 1, hi, hj =>
      simp at hi hj
      exact ih h.2.1 hi hj (by omega)
theorem blocks_set {ls : List (Value × List Value)} {i : Nat} {v : Value} {xs xs' : List Value} (hi : ls[i]? = some (v, xs)) : blocks (ls.set i (v, xs')) = blocks ls := by
  induction ls generalizing i with
  | nil => rfl
  | cons c r ih =>
    match i, hi with
    | 0, hi => simp at hi; subst hi; rfl
    | i + 1, hi =>
      simp at hi
      show (blk c.1).toList ++ blocks (r.set i (v, xs')) = _
      rw [ih hi]; rfl
theorem map_set {ls : List (Value × List Value)} {i : Nat} {v : Value} {xs xs' : List Value} (hi : ls[i]? = some (v, xs)) : (ls.set i (v, xs')).map (·.1) = ls.map (·.1) := by
  induction ls generalizing i with
  | nil => rfl
  | cons c r ih =>
    match i, hi with
    | 0, hi => simp at hi; subst hi; rfl
    | i + 1, hi => simp at hi; simp [ih hi]
/-- one list has other elements now -/
theorem Lists.set {w w' : World} {B SL E : Nat} {vS : Value} {ls : List (Value × List Value)} {i : Nat} {v : Value} {xs xs' : List Value} (h : Lists w B SL E vS ls) (hE : SL ≠ E) (hi : ls[i]? = some (v, xs)) (ht : Stirred w w' (blk v).toList) (h' : Owns w' B E v xs') :
    Lists w' B SL E vS (ls.set i (v, xs')) := by
  have hm := List.mem_of_getElem? hi
  refine ⟨?_, fun k hk => ?_, by rw [blocks_set hi]; exact h.apart⟩
  · rw [map_set hi]
    refine h.spine.touch ht (fun b hb hb' => ?_)
    exact h.spine_apart hE b hb (mem_blocks hm (by simpa using hb'))
  · obtain ⟨j, hj⟩ := List.getElem?_of_mem hk
    by_cases hij : i = j
    · subst hij
      rw [List.getElem?_set_self' ] at hj
      rw [hi] at hj
      simp at hj
      subst hj
      exact h'
    · rw [List.getElem?_set_ne hij] at hj
      refine (h.list k (List.mem_of_getElem? hj)).touch ht (fun b hb hb' => ?_)
      exact nodup_at h.apart hj hi (fun e => hij e.symm) b hb (by simpa using hb')
/-- what a book keeps of one kind: the lists, and copies of what they held; none of it lies in the blocks bs -/
structure Kept (w : World) (B SL E : Nat) (good : List Value → Prop) (vS vW : Value) (ls : List (Value × List Value)) (bs : List Nat) : Prop where
  lists : Lists w B SL E vS ls
  was : ∃ cs : List (Value × List Value), cs.map (·.2) = ls.map (·.2) ∧ Owns w B SL vW (cs.map (·.1)) ∧ (∀ k ∈ cs, Owns w B E k.1 k.2) ∧ ∀ k ∈ bs, k ∉ blocks cs
  spines : ∀ k, (blk vS) = some k → (blk vW) ≠ some k
  fine : ∀ k ∈ ls, good k.2
  few : ls.length ≤ 250
  first : ls = [] → vW = .slice none 0 0
  off : ∀ k ∈ bs, blk vS ≠ some k ∧ blk vW ≠ some k ∧ k ∉ blocks ls
theorem Kept.nil (w : World) (B SL E : Nat) (good : List Value → Prop) (bs : List Nat) : Kept w B SL E good (.slice none 0 0) (.slice none 0 0) [] bs :=
  ⟨Lists.nil _ _ _ _, ⟨[], rfl, Owns.nil _ _ _, (fun _ h => (by cases h)), fun _ _ h => (by cases h)⟩, fun k h => (by cases h), fun _ h => (by cases h), Nat.zero_le _, fun _ => rfl, fun k _ => ⟨fun h => (by cases h), fun h => (by cases h), fun h => (by cases h)⟩⟩
/-- what is done in these blocks alone, and in new ones, leaves a book's lists as they were -/
theorem Kept.touch {w w' : World} {B SL E : Nat} {good : List Value → Prop} {vS vW : Value} {ls : List (Value × List Value)} {bs ds : List Nat} (h : Kept w B SL E good vS vW ls bs) (ht : Stirred w w' ds) (hd : ∀ k ∈ ds, k ∈ bs) : Kept w' B SL E good vS vW ls bs := by
  obtain ⟨cs, h1, h2, h3, h4⟩ := h.was
  refine ⟨h.lists.touch ht (fun k hk hm => (h.off k (hd k hm)).1 hk) (fun k hk hm => (h.off k (hd k hm)).2.2 hk), ⟨cs, h1, h2.touch ht (fun k hk hm => (h.off k (hd k hm)).2.1 hk), fun k hk => (h3 k hk).touch ht (fun b hb hm => ?_), h4⟩, h.spines, h.fine, h.few, h.first, h.off⟩
  exact h4 b (hd b hm) (mem_blocks hk hb)
theorem Kept.below {w w' : World} {B SL E : Nat} {good : List Value → Prop} {vS vW : Value} {ls : List (Value × List Value)} {bs : List Nat} (h : Kept w B SL E good vS vW ls bs) (hb : Below w.heap.size w w') : Kept w' B SL E good vS vW ls bs :=
  h.touch (Stirred.of_below hb []) (fun _ h => by cases h)
/-- other blocks: those, or such as are not yet there -/
theorem Kept.more {w : World} {B SL E : Nat} {good : List Value → Prop} {vS vW : Value} {ls : List (Value × List Value)} {bs ds : List Nat} (h : Kept w B SL E good vS vW ls bs) (hd : ∀ k ∈ ds, k ∈ bs ∨ w.heap.size ≤ k ∨ k < B) : Kept w B SL E good vS vW ls ds := by
  obtain ⟨cs, h1, h2, h3, h4⟩ := h.was
  refine ⟨h.lists, ⟨cs, h1, h2, h3, fun k hk hm => ?_⟩, h.spines, h.fine, h.few, h.first, fun k hk => ?_⟩
  · rcases hd k hk with h5 | h5
    · exact h4 k h5 hm
    · unfold blocks at hm
      rw [List.mem_flatMap] at hm
      obtain ⟨c, hc, hm⟩ := hm
      have h6 := (h3 c hc).block k (by simpa using hm)
      omega
  · rcases hd k hk with h5 | h5
    · exact h.off k h5
    · refine ⟨fun e => ?_, fun e => ?_, fun e => ?_⟩
      · have h6 := h.lists.spine.block k e; omega
      · have h6 := h2.block k e; omega
      · have h6 := h.lists.lt k e; omega
/-- the j-th list, its copy, and what both hold -/
theorem Kept.at {w : World} {B SL E : Nat} {good : List Value → Prop} {vS vW : Value} {ls : List (Value × List Value)} {bs : List Nat} (h : Kept w B SL E good vS vW ls bs) {j : Nat} (hj : j < ls.length) :
    ∃ gS cS gW cW a b xs, vS = .slice (some ⟨gS, 0, none⟩) ls.length cS ∧ vW = .slice (some ⟨gW, 0, none⟩) ls.length cW ∧ w.cell? ⟨gS, j, none⟩ = some a ∧ w.cell? ⟨gW, j, none⟩ = some b ∧ Owns w B E a xs ∧ Owns w B E b xs ∧ good xs := by
  obtain ⟨cs, h1, h2, h3, _⟩ := h.was
  have hl : cs.length = ls.length := by have := congrArg List.length h1; simpa using this
  obtain ⟨gS, cS, e1, c1, _, _⟩ := h.lists.spine.row (by simp; omega)
  obtain ⟨gW, cW, e2, c2, _, _⟩ := h2.row (by simp; omega)
  have k1 : ls[j]? = some ls[j] := List.getElem?_eq_getElem hj
  have k2 : cs[j]? = some (cs[j]'(by omega)) := List.getElem?_eq_getElem _
  have hx : (cs[j]'(by omega)).2 = ls[j].2 := by
    have h4 := congrArg (·[j]?) h1
    simp only [List.getElem?_map, k1, k2, Option.map_some, Option.some.injEq] at h4
    exact h4
  refine ⟨gS, cS, gW, cW, ls[j].1, (cs[j]'(by omega)).1, ls[j].2, by rw [e1]; simp, by rw [e2]; simp [hl], c1 j _ (by simp [k1]), c2 j _ (by simp [k2]), h.lists.list _ (List.getElem_mem hj), ?_, h.fine _ (List.getElem_mem hj)⟩
  have := h3 _ (List.getElem_mem (show j < cs.length by omega))
  rw [hx] at this
  exact this
theorem add_row (g j : Nat) : (⟨g, 0, none⟩ : Addr).add j = ⟨g, j, none⟩ := by unfold Addr.add; split <;> simp_all
theorem Stirred.cell {w w' : World} {bs : List Nat} (h : Stirred w w' bs) {g j : Nat} {v : Value} (hn : g ∉ bs) (hc : w.cell? ⟨g, j, none⟩ = some v) : w'.cell? ⟨g, j, none⟩ = some v := by
  have hl : g < w.heap.size := World.block_lt_of_cell? w _ hc
  rw [World.cell?_of_block (w := w) (a := ⟨g, j, none⟩) (h.block g hl hn)]; exact hc
theorem Stirred.drew (w : World) (bs : List Nat) : Stirred w w.drew bs := ⟨rfl, rfl, rfl, Nat.le_refl _, fun _ _ _ => rfl⟩
theorem mix_set {ms xs : List Value} {q : Nat} {u : Value} (h : ms[q]? = some u) (hl : xs.length = ms.length) : (ms.take q ++ xs.drop q).set q u = ms.take (q + 1) ++ xs.drop (q + 1) := by
  have hq : q < ms.length := (List.getElem?_eq_some_iff.1 h).1
  have ht : (ms.take q).length = q := by rw [List.length_take]; omega
  rw [List.set_append_right _ _ (by omega), ht, Nat.sub_self, List.take_add_one, h]
  obtain ⟨y, r, hd⟩ : ∃ y r, xs.drop q = y :: r := by
    cases hd : xs.drop q with
    | nil => have := congrArg List.length hd; simp at this; omega
    | cons y r => exact ⟨y, r, rfl⟩
  have h1 : xs.drop (q + 1) = r := by rw [← List.drop_drop, hd]; rfl
  rw [hd, h1]
  simp
/-- the first i lists bear marks, the others are as they were -/
structure Done (mk : Nat → Nat → List Value) (ls : List (Value × List Value)) (i : Nat) (cur : List (Value × List Value)) : Prop where
  len : cur.length = ls.length
  done : ∀ j k, j < i → ls[j]? = some k → cur[j]? = some (k.1, mk j k.2.length)
  rest : ∀ j k, i ≤ j → ls[j]? = some k → cur[j]? = some k
  blocks : blocks cur = blocks ls
theorem Done.zero (mk : Nat → Nat → List Value) (ls : List (Value × List Value)) : Done mk ls 0 ls := ⟨rfl, fun j _ h => absurd h (Nat.not_lt_zero j), fun _ _ _ h => h, rfl⟩
theorem Done.succ {mk : Nat → Nat → List Value} {ls cur : List (Value × List Value)} {i : Nat} {v : Value} {xs : List Value} (h : Done mk ls i cur) (hi : ls[i]? = some (v, xs)) : Done mk ls (i + 1) (cur.set i (v, mk i xs.length)) := by
  have hlt : i < ls.length := (List.getElem?_eq_some_iff.1 hi).1
  refine ⟨by simp [h.len], fun j k hj hk => ?_, fun j k hj hk => ?_, ?_⟩
  · by_cases hij : i = j
    · subst hij
      rw [hi] at hk
      simp at hk
      subst hk
      rw [List.getElem?_set_self (by rw [h.len]; exact hlt)]
    · rw [List.getElem?_set_ne hij]; exact h.done j k (by omega) hk
  · rw [List.getElem?_set_ne (by omega)]; exact h.rest j k (by omega) hk
  · rw [blocks_set (h.rest i _ (Nat.le_refl _) hi), h.blocks]
/-- what a row holds it still holds behind a longer row's change of their block's other cells -/
theorem Owns.pre {w w' : World} {B E : Nat} {l v : Value} {zs xs : List Value} (hl : Owns w B E l zs) (hv : Owns w B E v xs) (hb : (blk l) = (blk v)) (hz : zs.take xs.length = xs) (hl' : Owns w' B E l zs) : Owns w' B E v xs := by
  rcases hv with h2 | ⟨g, cap, cur, e, q0, q2, q3, q4, q5, q6, q7⟩
  · exact .inl h2
  · subst e
    have hle : xs.length ≤ zs.length := by have := congrArg List.length hz; rw [List.length_take] at this; omega
    rw [blk_pos q0] at hb
    rcases hl with ⟨ao, e, _⟩ | ⟨g', cap', cur', e, r0, r2, r3, r4, r5, r6, r7⟩
    · rw [e, blk_zero] at hb; cases hb
    · subst e
      rw [blk_pos r0] at hb
      have hg : g' = g := by simpa using hb
      subst hg
      rw [q3] at r3
      simp only [Option.some.injEq, Obj.cells.injEq, and_true] at r3
      subst r3
      rcases hl' with ⟨ao, e, _⟩ | ⟨g2, cap2, cur2, e, s0, s2, s3, s4, s5, s6, s7⟩
      · simp only [Value.slice.injEq] at e; omega
      · simp only [Value.slice.injEq, Option.some.injEq, Addr.mk.injEq, and_true, true_and] at e
        obtain ⟨rfl, rfl⟩ := e
        refine .inr ⟨g', cap, cur2, rfl, q0, q2, s3, q4, q5, by omega, ?_⟩
        have h8 := congrArg (List.take xs.length) s7
        rw [List.take_take, hz, show min xs.length zs.length = xs.length from by omega] at h8
        exact h8
/-- l is v, grown since w1 -/
structure Grows (w1 : World) (B E : Nat) (v : Value) (xs : List Value) (wx : World) (l : Value) (zs : List Value) : Prop where
  long : Owns wx B E l zs
  short : Owns wx B E v xs
  pre : zs.take xs.length = xs
  stir : Stirred w1 wx (blk v).toList
  own : (blk l) = (blk v) ∨ ∃ k, (blk l) = some k ∧ w1.heap.size ≤ k
  lt : ∀ k, (blk v) = some k → k < w1.heap.size
theorem Grows.start {w1 : World} {B E : Nat} {v : Value} {xs : List Value} (h : Owns w1 B E v xs) : Grows w1 B E v xs w1 v xs :=
  ⟨h, h, by simp, Stirred.refl _ _, .inl rfl, fun k hk => (h.block k hk).2.1⟩
theorem Grows.below {w1 wx wy : World} {B E : Nat} {v l : Value} {xs zs : List Value} (h : Grows w1 B E v xs wx l zs) (hb : Below wx.heap.size wx wy) : Grows w1 B E v xs wy l zs :=
  ⟨h.long.below hb, h.short.below hb, h.pre, h.stir.trans (Stirred.of_below hb []) (fun _ h => by cases h), h.own, h.lt⟩
theorem Grows.append {w1 wx w' : World} {B E : Nat} {v l l' : Value} {xs zs news : List Value} (h : Grows w1 B E v xs wx l zs) (h2 : Owns w' B E l' (zs ++ news)) (h3 : Owns w' B E l zs)
    (h4 : Stirred wx w' (blk l).toList) (h5 : (blk l') = (blk l) ∨ ∃ k, (blk l') = some k ∧ wx.heap.size ≤ k) : Grows w1 B E v xs w' l' (zs ++ news) := by
  have hle : xs.length ≤ zs.length := by have := congrArg List.length h.pre; rw [List.length_take] at this; omega
  refine ⟨h2, ?_, ?_, ?_, ?_, h.lt⟩
  · rcases h.own with e | ⟨k, e, hk⟩
    · exact h.long.pre h.short e h.pre h3
    · refine h.short.touch h4 (fun b hb hm => ?_)
      rw [e] at hm
      have := h.lt b hb
      simp at hm
      omega
  · rw [List.take_append_of_le_length hle, h.pre]
  · refine h.stir.trans h4 (fun k hk => ?_)
    rcases h.own with e | ⟨k', e, hk'⟩
    · rw [e] at hk; exact .inl hk
    · rw [e] at hk; simp at hk; exact .inr (by omega)
  · rcases h5 with e | ⟨k, e, hk⟩
    · rw [e]; exact h.own
    · exact .inr ⟨k, e, Nat.le_trans h.stir.size hk⟩
theorem blocks_append (a b : List (Value × List Value)) : blocks (a ++ b) = blocks a ++ blocks b := by unfold blocks; rw [List.flatMap_append]
theorem blocks_take {ls : List (Value × List Value)} {j : Nat} {k : Value × List Value} (h : ls[j]? = some k) : blocks (ls.take (j + 1)) = blocks (ls.take j) ++ (blk k.1).toList := by
  rw [List.take_add_one, h, blocks_append]
  simp [blocks]
theorem take_apart {ls : List (Value × List Value)} {j : Nat} {k : Value × List Value} (h : ls[j]? = some k) (hn : (blocks ls).Nodup) : ∀ b, (blk k.1) = some b → b ∉ blocks (ls.take j) := by
  intro b hb hm
  unfold blocks at hm
  rw [List.mem_flatMap] at hm
  obtain ⟨k', hk', hm⟩ := hm
  obtain ⟨i, hi⟩ := List.getElem?_of_mem hk'
  rw [List.getElem?_take] at hi
  split at hi
  · rename_i hij
    exact nodup_at hn hi h (by omega) b (by simpa using hm) hb
  · cases hi
/-- the first j lists, grown since w, are a list of lists of their own -/
structure Gs (w : World) (B SL E : Nat) (mk : Nat → Nat → List Value) (most : Nat) (vS : Value) (cur : List (Value × List Value)) (j : Nat) (vO : Value) (gs : List (Value × List Value)) (wr : World) : Prop where
  len : gs.length = j
  out : Owns wr w.heap.size SL vO (gs.map (·.1))
  list : ∀ k ∈ gs, Owns wr B E k.1 k.2
  mark : ∀ i k, gs[i]? = some k → k.2 = mk i k.2.length ∧ k.2.length ≤ most
  old : Lists wr B SL E vS cur
  apart : (blocks gs).Nodup
  low : ∀ b ∈ blocks gs, b ∈ blocks (cur.take j) ∨ w.heap.size ≤ b
  stir : Stirred w wr (blocks cur)
  here : ∀ b ∈ blocks cur, b < w.heap.size
  hereS : ∀ k, (blk vS) = some k → k < w.heap.size
theorem Gs.zero {w : World} {B SL E : Nat} {mk : Nat → Nat → List Value} {most : Nat} {vS : Value} {cur : List (Value × List Value)} (h : Lists w B SL E vS cur) : Gs w B SL E mk most vS cur 0 (.slice none 0 0) [] w :=
  ⟨rfl, Owns.nil _ _ _, fun _ h => (by cases h), fun _ _ h => (by cases h), h, List.nodup_nil, fun _ h => (by cases h), Stirred.refl _ _, fun b hb => (h.lt b hb).2, fun k hk => (h.spine.block k hk).2.1⟩
theorem Gs.out_at {w : World} {B SL E : Nat} {mk : Nat → Nat → List Value} {most : Nat} {vS : Value} {cur : List (Value × List Value)} {j : Nat} {vO : Value} {gs : List (Value × List Value)} {wr wx : World}
    (h : Gs w B SL E mk most vS cur j vO gs wr) {v l : Value} {xs zs : List Value} (hk : cur[j]? = some (v, xs)) (g : Grows wr B E v xs wx l zs) : Owns wx w.heap.size SL vO (gs.map (·.1)) :=
  h.out.touch g.stir (fun k hk' hm => (by
    have h1 := (h.out.block k hk').1
    have h2 := h.here k (mem_blocks (List.mem_of_getElem? hk) (by simpa using hm))
    omega))
theorem Gs.step {w : World} {B SL E : Nat} {mk : Nat → Nat → List Value} {most : Nat} {vS : Value} {cur : List (Value × List Value)} {j : Nat} {vO vO' : Value} {gs : List (Value × List Value)} {wr wx w' : World}
    (h : Gs w B SL E mk most vS cur j vO gs wr) (hE : SL ≠ E) {v l : Value} {xs zs : List Value} (hk : cur[j]? = some (v, xs)) (g : Grows wr B E v xs wx l zs) (hm : zs = mk j zs.length) (hz : zs.length ≤ most)
    (ho : Owns w' w.heap.size SL vO' (gs.map (·.1) ++ [l])) (hs : Stirred wx w' (blk vO).toList) : Gs w B SL E mk most vS cur (j + 1) vO' (gs ++ [(l, zs)]) w' := by
  have hmem := List.mem_of_getElem? hk
  have hvlow : ∀ b, (blk v) = some b → b < w.heap.size := fun b hb => h.here b (mem_blocks hmem hb)
  have hgs : ∀ b, (blk v) = some b → b ∉ blocks gs := fun b hb hmb => by
    rcases h.low b hmb with h1 | h1
    · exact take_apart hk h.old.apart b hb h1
    · have := hvlow b hb; omega
  have hlt : ∀ b ∈ blocks gs, b < wr.heap.size := fun b hb => by
    unfold blocks at hb
    rw [List.mem_flatMap] at hb
    obtain ⟨k, hk, hb⟩ := hb
    exact ((h.list k hk).block b (by simpa using hb)).2.1
  have hlv : ∀ b, (blk l) = some b → (blk v) = some b ∨ wr.heap.size ≤ b := fun b hb => by
    rcases g.own with e | ⟨k, e, hk⟩
    · exact .inl (by rw [← e]; exact hb)
    · rw [e] at hb; simp at hb; exact .inr (by omega)
  have hox : Owns wx w.heap.size SL vO (gs.map (·.1)) := h.out.touch g.stir (fun k hk hm => (by
    have h1 := (h.out.block k hk).1
    have h2 := hvlow k (by simpa using hm)
    omega))
  have hwx := g.stir
  have hsE : ∀ {u : Value} {us : List Value}, Owns wx B E u us → Owns w' B E u us := fun {u us} hu => hu.touch hs (fun k hk hm => (hox.apart hu hE) k (by simpa using hm) hk)
  refine ⟨by simp [h.len], by simpa using ho, fun k hk => ?_, fun i k hi => ?_, ⟨?_, fun k hkm => ?_, h.old.apart⟩, ?_, fun b hb => ?_, ?_, h.here, h.hereS⟩
  · rw [List.mem_append, List.mem_singleton] at hk
    rcases hk with hk | rfl
    · exact hsE ((h.list k hk).touch hwx (fun b hb hm => hgs b (by simpa using hm) (mem_blocks hk hb)))
    · exact hsE g.long
  · by_cases hij : i < gs.length
    · rw [List.getElem?_append_left hij] at hi; exact h.mark i k hi
    · rw [List.getElem?_append_right (by omega)] at hi
      have hi0 : i - gs.length = 0 := by
        have := (List.getElem?_eq_some_iff.1 hi).1
        simp at this
        omega
      rw [hi0] at hi
      simp at hi
      subst hi
      have : i = j := by rw [← h.len]; omega
      subst this
      exact ⟨hm, hz⟩
  · refine (h.old.spine.touch hwx (fun b hb hm => h.old.spine_apart hE b hb (mem_blocks hmem (by simpa using hm)))).touch hs (fun b hb hm => ?_)
    have h1 := h.hereS b hb
    have h2 := (h.out.block b (by simpa using hm)).1
    omega
  · obtain ⟨i, hi⟩ := List.getElem?_of_mem hkm
    by_cases hij : j = i
    · subst hij
      rw [hk] at hi
      simp at hi
      subst hi
      exact hsE g.short
    · exact hsE ((h.old.list k hkm).touch hwx (fun b hb hm => nodup_at h.old.apart hk hi hij b (by simpa using hm) hb))
  · rw [blocks_append, List.nodup_append]
    refine ⟨h.apart, ?_, fun b hb b' hb' e => ?_⟩
    · show ((blk l).toList ++ []).Nodup
      cases (blk l) <;> simp
    · subst e
      have hb' : (blk l) = some b := by simpa [blocks] using hb'
      rcases hlv b hb' with h1 | h1
      · exact hgs b h1 hb
      · have := hlt b hb; omega
  · rw [blocks_append, List.mem_append] at hb
    rw [blocks_take hk, List.mem_append]
    rcases hb with hb | hb
    · rcases h.low b hb with h1 | h1
      · exact .inl (.inl h1)
      · exact .inr h1
    · have hb' : (blk l) = some b := by simpa [blocks] using hb
      rcases hlv b hb' with h1 | h1
      · exact .inl (.inr (by simpa using h1))
      · exact .inr (Nat.le_trans h.stir.size h1)
  · refine (h.stir.trans hwx (fun k hk => .inl (mem_blocks hmem (by simpa using hk)))).trans hs (fun k hk => .inr ?_)
    exact (h.out.block k (by simpa using hk)).1
theorem Gs.below {w : World} {B SL E : Nat} {mk : Nat → Nat → List Value} {most : Nat} {vS : Value} {cur : List (Value × List Value)} {j : Nat} {vO : Value} {gs : List (Value × List Value)} {wr w' : World}
    (h : Gs w B SL E mk most vS cur j vO gs wr) (hb : Below wr.heap.size wr w') : Gs w B SL E mk most vS cur j vO gs w' :=
  ⟨h.len, h.out.below hb, fun k hk => (h.list k hk).below hb, h.mark, h.old.below hb, h.apart, h.low, h.stir.trans (Stirred.of_below hb []) (fun _ h => by cases h), h.here, h.hereS⟩
/-- a block that is known whole -/
theorem whole_cell {w : World} {p T j : Nat} {c : Array Value} {v : Value} (h : w.heap[p]? = some (.cells c T (0, 0))) (hj : c[j]? = some v) : w.cell? ⟨p, j, none⟩ = some v := by simp [World.cell?, h, hj]
theorem whole_frozen {w : World} {p T : Nat} {c : Array Value} (h : w.heap[p]? = some (.cells c T (0, 0))) (j : Nat) : w.frozen? ⟨p, j, none⟩ = false := by simp [World.frozen?, h]
theorem whole_set {w : World} {p T : Nat} {c : Array Value} (h : w.heap[p]? = some (.cells c T (0, 0))) (j : Nat) (v : Value) : (w.setCell ⟨p, j, none⟩ v).heap[p]? = some (.cells (c.setIfInBounds j v) T (0, 0)) := by simp [World.setCell, Array.getElem?_modify, h]
theorem whole_lt {w : World} {p : Nat} {o : Obj} (h : w.heap[p]? = some o) : p < w.heap.size := (Array.getElem?_eq_some_iff.1 h).1
theorem Stirred.whole {w w' : World} {bs : List Nat} (h : Stirred w w' bs) {p : Nat} {o : Obj} (hp : w.heap[p]? = some o) (hn : p ∉ bs) : w'.heap[p]? = some o := by rw [h.block p (whole_lt hp) hn]; exact hp
/-- one list more -/
theorem Lists.add {w w' : World} {B SL E : Nat} {vS vS' v : Value} {ls : List (Value × List Value)} {xs : List Value} (h : Lists w B SL E vS ls) (hE : SL ≠ E) {p : Nat} (hp : p < B) (ho : Owns w B E v xs) (hn : ∀ k, (blk v) = some k → k ∉ blocks ls)
    (hS : Owns w' B SL vS' (ls.map (·.1) ++ [v])) (ht : Stirred w w' (p :: (blk vS).toList)) : Lists w' B SL E vS' (ls ++ [(v, xs)]) := by
  have hst : ∀ {u : Value} {us : List Value}, Owns w B E u us → Owns w' B E u us := fun {u us} hu => hu.touch ht (fun k hk hm => by
    rw [List.mem_cons] at hm
    rcases hm with rfl | hm
    · have := (hu.block k hk).1; omega
    · exact h.spine.apart hu hE k (by simpa using hm) hk)
  refine ⟨by simpa using hS, fun k hk => ?_, ?_⟩
  · rw [List.mem_append, List.mem_singleton] at hk
    rcases hk with hk | rfl
    · exact hst (h.list k hk)
    · exact hst ho
  · rw [blocks_append, List.nodup_append]
    refine ⟨h.apart, ?_, fun b hb b' hb' e => ?_⟩
    · show ((blk v).toList ++ []).Nodup
      cases (blk v) <;> simp
    · subst e
      exact hn b (by simpa [blocks] using hb') hb
/-- a book in which one list more is kept, and its copy is not yet -/
structure Half (w : World) (B SL E : Nat) (good : List Value → Prop) (vS vW : Value) (ls : List (Value × List Value)) (v : Value) (xs : List Value) (cs : List (Value × List Value)) (bs : List Nat) : Prop where
  lists : Lists w B SL E vS (ls ++ [(v, xs)])
  eq : cs.map (·.2) = ls.map (·.2)
  was : Owns w B SL vW (cs.map (·.1))
  each : ∀ k ∈ cs, Owns w B E k.1 k.2
  spines : ∀ k, (blk vS) = some k → (blk vW) ≠ some k
  fine : ∀ k ∈ ls, good k.2
  good : good xs
  few : ls.length < 250
  first : ls = [] → vW = .slice none 0 0
  off : ∀ k ∈ bs, blk vS ≠ some k ∧ blk vW ≠ some k ∧ k ∉ blocks (ls ++ [(v, xs)]) ∧ k ∉ blocks cs
theorem Half.wasRow {w : World} {B SL E : Nat} {good : List Value → Prop} {vS vW v : Value} {ls cs : List (Value × List Value)} {xs : List Value} {bs : List Nat} (h : Half w B SL E good vS vW ls v xs cs bs) : cs.map (·.1) = [] → vW = .slice none 0 0 := fun e => by
  refine h.first (List.map_eq_nil_iff (f := (·.2)).1 ?_)
  rw [← h.eq, List.map_eq_nil_iff.1 e]; rfl
theorem Kept.half {w w' : World} {B SL E : Nat} {good : List Value → Prop} {vS vS' vW v : Value} {ls : List (Value × List Value)} {xs : List Value} {bs : List Nat} (h : Kept w B SL E good vS vW ls bs) (hbs : ∀ k ∈ bs, k < w.heap.size) (hE : SL ≠ E) {p : Nat} (hp : p < B) (hlt : ls.length < 250)
    (ho : Owns w B E v xs) (hg : good xs) (hn : ∀ k, (blk v) = some k → k ∉ blocks ls) (hv : ∀ k, blk v = some k → k ∉ bs) (hS : Owns w' B SL vS' (ls.map (·.1) ++ [v])) (ht : Stirred w w' (p :: (blk vS).toList))
    (hnew : (blk vS') = (blk vS) ∨ ∃ k, (blk vS') = some k ∧ w.heap.size ≤ k) : ∃ cs, Half w' B SL E good vS' vW ls v xs cs bs := by
  obtain ⟨cs, h1, h2, h3, h4⟩ := h.was
  refine ⟨cs, h.lists.add hE hp ho hn hS ht, h1, h2.touch ht (fun k hk hm => ?_), fun k hk => (h3 k hk).touch ht (fun b hb hm => ?_), fun k hk e => ?_, h.fine, hg, hlt, h.first, fun k hk => ⟨fun e => ?_, (h.off k hk).2.1, fun hm => ?_, h4 k hk⟩⟩
  · rw [List.mem_cons] at hm
    rcases hm with rfl | hm
    · have := (h2.block k hk).1; omega
    · exact h.spines k (by simpa using hm) hk
  · rw [List.mem_cons] at hm
    rcases hm with rfl | hm
    · have := ((h3 k hk).block b hb).1; omega
    · exact h.lists.spine.apart (h3 k hk) hE b (by simpa using hm) hb
  · rcases hnew with e' | ⟨k', e', hk'⟩
    · rw [e'] at hk; exact h.spines k hk e
    · rw [e'] at hk
      simp at hk
      have := (h2.block k e).2.1
      omega
  · rcases hnew with e' | ⟨k', e', hk'⟩
    · exact (h.off k hk).1 (by rw [← e', e])
    · rw [e] at e'
      have := hbs k hk
      simp at e'
      omega
  · rw [blocks_append, List.mem_append] at hm
    rcases hm with hm | hm
    · exact (h.off k hk).2.2 hm
    · exact hv k (by simpa [blocks] using hm) hk
theorem Half.full {w w' : World} {B SL E : Nat} {good : List Value → Prop} {vS vW vW' v c : Value} {ls cs : List (Value × List Value)} {xs : List Value} {bs : List Nat} (h : Half w B SL E good vS vW ls v xs cs bs) (hE : SL ≠ E) {p : Nat} (hp : p < B)
    (hW : Owns w' B SL vW' (cs.map (·.1) ++ [c])) (hc : Owns w' B E c xs) (ht : Stirred w w' (p :: (blk vW).toList)) (hnew : (blk vW') = (blk vW) ∨ ∃ k, (blk vW') = some k ∧ w.heap.size ≤ k) (hbs : ∀ k ∈ bs, k < w.heap.size) (hcn : ∀ k, blk c = some k → w.heap.size ≤ k) : Kept w' B SL E good vS vW' (ls ++ [(v, xs)]) bs := by
  have hst : ∀ {u : Value} {us : List Value}, Owns w B E u us → Owns w' B E u us := fun {u us} hu => hu.touch ht (fun k hk hm => by
    rw [List.mem_cons] at hm
    rcases hm with rfl | hm
    · have := (hu.block k hk).1; omega
    · exact h.was.apart hu hE k (by simpa using hm) hk)
  refine ⟨⟨h.lists.spine.touch ht (fun k hk hm => ?_), fun k hk => hst (h.lists.list k hk), h.lists.apart⟩, ⟨cs ++ [(c, xs)], by simp [h.eq], by simpa using hW, fun k hk => ?_, fun k hk hm => ?_⟩, fun k hk e => ?_, fun k hk => ?_, by have := h.few; simp; omega, fun e => by simp at e, fun k hk => ⟨(h.off k hk).1, fun e => ?_, (h.off k hk).2.2.1⟩⟩
  · rw [List.mem_cons] at hm
    rcases hm with rfl | hm
    · have := (h.lists.spine.block k hk).1; omega
    · exact h.spines k hk (by simpa using hm)
  · rw [List.mem_append, List.mem_singleton] at hk
    rcases hk with hk | rfl
    · exact hst (h.each k hk)
    · exact hc
  · rw [blocks_append, List.mem_append] at hm
    rcases hm with hm | hm
    · exact (h.off k hk).2.2.2 hm
    · have h1 := hcn k (by simpa [blocks] using hm)
      have h2 := hbs k hk
      omega
  · rcases hnew with e' | ⟨k', e', hk'⟩
    · rw [e'] at e; exact h.spines k hk e
    · rw [e'] at e
      simp at e
      have := (h.lists.spine.block k hk).2.1
      omega
  · rw [List.mem_append, List.mem_singleton] at hk
    rcases hk with hk | rfl
    · exact h.fine k hk
    · exact h.good
  · rcases hnew with e' | ⟨k', e', hk'⟩
    · exact (h.off k hk).2.1 (by rw [← e', e])
    · rw [e] at e'
      have := hbs k hk
      simp at e'
      omega
theorem Half.grown {w w3 w4 : World} {B SL E : Nat} {good : List Value → Prop} {vS vW v : Value} {ls cs : List (Value × List Value)} {xs : List Value} {bs : List Nat} (h : Half w B SL E good vS vW ls v xs cs bs) {p T : Nat} {cur : Array Value} {o : Obj} (hp : p < B)
    (hbk : w.heap[p]? = some (.cells cur T (0, 0))) (hb : Below w.heap.size w w3) (hgrow : (w3.alloc o).grownBy w4 (blk vW)) : Stirred w w4 (blk vW).toList ∧ w4.heap[p]? = some (.cells cur T (0, 0)) := by
  have h1 : Stirred w w4 (blk vW).toList := (((Stirred.of_below hb []).trans (Stirred.of_below ((Below.refl w3.heap.size w3).alloc (Nat.le_refl _) o) []) (fun _ h => (by cases h))).more (fun _ h => (by cases h))).trans (Stirred.of_grown hgrow) (fun k hk => .inl hk)
  exact ⟨h1, h1.whole hbk (fun hm => by have := (h.was.block p (by simpa using hm)).1; omega)⟩
theorem Half.close {w w3 w4 : World} {B SL E : Nat} {good : List Value → Prop} {vS vW vW' v c : Value} {ls cs : List (Value × List Value)} {xs : List Value} {bs : List Nat} (h : Half w B SL E good vS vW ls v xs cs bs) (hE : SL ≠ E) {p T j : Nat} {cur : Array Value} {o : Obj} (hp : p < B) (hB : B ≤ w.heap.size)
    (hbk : w.heap[p]? = some (.cells cur T (0, 0))) (hb : Below w.heap.size w w3) (hc : Owns w3 w.heap.size E c xs) (hW : Owns w4 B SL vW' (cs.map (·.1) ++ [c])) (hgrow : (w3.alloc o).grownBy w4 (blk vW))
    (hnew : (blk vW') = (blk vW) ∨ ∃ k, (blk vW') = some k ∧ w.heap.size ≤ k) (hbs : ∀ k ∈ bs, k < w.heap.size) :
    Kept (w4.setCell ⟨p, j, none⟩ vW') B SL E good vS vW' (ls ++ [(v, xs)]) bs ∧ (w4.setCell ⟨p, j, none⟩ vW').heap[p]? = some (.cells (cur.setIfInBounds j vW') T (0, 0)) ∧ Stirred w (w4.setCell ⟨p, j, none⟩ vW') (p :: (blk vW).toList) := by
  obtain ⟨h1, h2⟩ := h.grown hp hbk hb hgrow
  have hs : Stirred w (w4.setCell ⟨p, j, none⟩ vW') (p :: (blk vW).toList) := (h1.more (fun k hk => List.mem_cons_of_mem _ hk)).trans (Stirred.setCell w4 ⟨p, j, none⟩ vW') (fun k hk => .inl (by simp at hk; simp [hk]))
  have hset : ∀ {B' E' : Nat} {u : Value} {us : List Value}, B ≤ B' → Owns w4 B' E' u us → Owns (w4.setCell ⟨p, j, none⟩ vW') B' E' u us := fun {B' E' u us} hle hu => hu.touch (Stirred.setCell w4 ⟨p, j, none⟩ vW') (fun k hk hm => by
    have h3 := (hu.block k hk).1
    simp at hm
    omega)
  have hw3 : Owns (w3.alloc o) B SL vW (cs.map (·.1)) := (h.was.below hb).below ((Below.refl w3.heap.size w3).alloc (Nat.le_refl _) o)
  have hc4 : Owns w4 w.heap.size E c xs := (hc.below ((Below.refl w3.heap.size w3).alloc (Nat.le_refl _) o)).touch (Stirred.of_grown hgrow) (fun k hk hm => hw3.apart (hc.below ((Below.refl w3.heap.size w3).alloc (Nat.le_refl _) o)) hE k (by simpa using hm) hk)
  exact ⟨h.full hE hp (hset (Nat.le_refl _) hW) ((hset hB hc4).from hB) hs hnew hbs (fun k hk => (hc.block k hk).1), whole_set h2 j vW', hs⟩
section
variable {P : Program} (w : World)
/-- 'append(v, news...)' onto a row of one's own: the longer slice owns its row, and the shorter one still owns what it had -/
theorem run_append_two (B : Nat) (t ty E : TypeId) (i : TypeInfo) (z : Value) (bytes : Nat) (ht : P.underlying t = some (.slice E)) (hi : P.info? E = some i) (hz : i.zero = some z)
    (hsize : i.size = 1) (hby : i.bytes = bytes) (hzs : z.cells.size = 1)
    (v : Value) (xs : List Value) (hown : Owns w B E v xs)
    (a : Addr) (c : Nat) (news : List Value) (hnews : ∀ j u, news[j]? = some u → w.cell? (a.add j) = some u) (h1 : ∀ u ∈ news, u.oneCell' = true)
    (h0 : 0 < news.length) (h63 : xs.length + news.length ≤ maxLen) (hbytes : (xs.length + news.length) * bytes ≤ 140737488355328) (hbase : B ≤ w.heap.size) :
    ∃ v' w', (Builtin.append_ #[t, t] ty #[v, .slice (some a) news.length c]).run P w = .ok v' w' ∧ Owns w' B E v' (xs ++ news) ∧ Owns w' B E v xs ∧ Stirred w w' (blk v).toList ∧ ((blk v') = (blk v) ∨ ∃ k, (blk v') = some k ∧ w.heap.size ≤ k) := by
  have hnew : ∀ {w' : World} {v' : Value}, Owns w' w.heap.size E v' (xs ++ news) → ∃ k, (blk v') = some k ∧ w.heap.size ≤ k := fun {w' v'} h => by
    rcases h.form with ⟨_, _, h2⟩ | ⟨g, cap, h2, hc⟩
    · rw [(List.append_eq_nil_iff.1 h2).2] at h0
      exact absurd h0 (Nat.lt_irrefl 0)
    · subst h2
      exact ⟨g, blk_pos hc, (h.block g (blk_pos hc)).1⟩
  rcases hown.form with ⟨ao, rfl, rfl⟩ | ⟨g, cap, rfl, hc0⟩
  · cases ao with
    | none =>
      obtain ⟨v', w', hr, h2, h3, h4⟩ := run_append_own (P := P) w w.heap.size t ty E i z 1 bytes ht hi hz hsize hby hzs (by decide) (.slice none 0 0) 0 [] (World.ownsRow_nil _ _ _ _) a news.length c news (by simp) hnews h1 (by simpa using h63) (by simpa using hbytes) (Nat.le_refl _)
      have h5 : Owns w' w.heap.size E v' ([] ++ news) := Owns.of_row h2
      exact ⟨v', w', hr, h5.from hbase, Owns.nil _ _ _, Stirred.of_grown h3, .inr (hnew h5)⟩
    | some b =>
      obtain ⟨v', w', hr, h2, h3⟩ := run_append_arg_grows (P := P) w t ty E i z 1 bytes ht hi hz hsize hby hzs (by decide) b 0 0 [] (by simp) (fun j u hu => by cases hu) a news.length c news (by simp) hnews (by omega) (by simpa using h63) (by simpa using hbytes)
      have h5 : Owns w' w.heap.size E v' ([] ++ news) := Owns.of_row h2
      exact ⟨v', w', hr, h5.from hbase, Owns.empty _ _ _ _, (Stirred.of_grown h3).more (fun _ h => by cases h), .inr (hnew h5)⟩
  · have hrow := hown.row_of hc0
    by_cases hroom : xs.length + news.length ≤ cap
    · obtain ⟨w', hr, h2, h3⟩ := run_append_fits (P := P) w B t ty E i 1 ht hi hsize g xs.length cap xs hrow a news.length c news (by simp) hnews h1 hroom
      refine ⟨_, w', hr, Owns.of_row h2, ?_, by rw [blk_pos hc0]; exact Stirred.of_grown h3, .inl (by rw [blk_pos hc0, blk_pos hc0])⟩
      rcases h2.2 with ⟨e, _⟩ | ⟨g', cap', cur, e, q2, q3, q4, q5, q6, q7⟩
      · cases e
      · simp only [Value.slice.injEq, Option.some.injEq, Addr.mk.injEq, and_true, true_and] at e
        obtain ⟨rfl, rfl⟩ := e
        refine .inr ⟨g, cap, cur, rfl, hc0, q2, q3, by omega, q5, by omega, ?_⟩
        have := congrArg (List.take xs.length) q7
        rw [List.take_take, List.take_left] at this
        rw [show min xs.length ((xs.length + news.length) * 1) = xs.length from by omega] at this
        exact this
    · obtain ⟨v', w', hr, h2, h3⟩ := run_append_arg_grows (P := P) w t ty E i z 1 bytes ht hi hz hsize hby hzs (by decide) ⟨g, 0, none⟩ xs.length cap xs (by simp) (fun j u hu => by
        have hj : j < xs.length := (List.getElem?_eq_some_iff.1 hu).1
        have := World.ownsRow.cellAt hrow j (by omega)
        rw [hu] at this
        rw [add_row]; exact this) a news.length c news (by simp) hnews (by omega) h63 hbytes
      have h5 : Owns w' w.heap.size E v' (xs ++ news) := Owns.of_row h2
      exact ⟨v', w', hr, h5.from hbase, hown.touch (Stirred.of_grown h3) (fun _ _ => List.not_mem_nil), (Stirred.of_grown h3).more (fun _ h => by cases h), .inr (hnew h5)⟩
theorem wpList_append_two {ops : Array Oper} {rest : List Oper} {o : Oper} {a : Act} {Q : Exit → Act → World → Prop} (hgd : o.guard = none) (s x : Operand) (t : TypeId)
    (ho : o.op = .call { callee := .builtin .append, args := #[s, x], argTypes := #[t, t] })
    (B E : Nat) (i : TypeInfo) (z : Value) (bytes : Nat) (ht : P.underlying t = some (.slice E)) (hi : P.info? E = some i) (hz : i.zero = some z) (hsize : i.size = 1) (hby : i.bytes = bytes) (hzs : z.cells.size = 1)
    (v : Value) (xs : List Value) (hs : a.eval s = v) (hown : Owns w B E v xs)
    (ad : Addr) (n c : Nat) (news : List Value) (hn : news.length = n) (hx : a.eval x = .slice (some ad) n c) (hnews : ∀ j u, news[j]? = some u → w.cell? (ad.add j) = some u) (h1 : ∀ u ∈ news, u.oneCell' = true)
    (h0 : 0 < news.length) (h63 : xs.length + news.length ≤ maxLen) (hbytes : (xs.length + news.length) * bytes ≤ 140737488355328) (hbase : B ≤ w.heap.size)
    (h : ∀ v' w', Owns w' B E v' (xs ++ news) → Owns w' B E v xs → Stirred w w' (blk v).toList → ((blk v') = (blk v) ∨ ∃ k, (blk v') = some k ∧ w.heap.size ≤ k) → wpList P ops Q rest (a.put o.dst v') w') : wpList P ops Q (o :: rest) a w := by
  subst hn
  refine wpList_plain hgd fun K hK => ?_
  obtain ⟨v', w', hr, h2, h3, h4, h5⟩ := run_append_two (P := P) w B t o.type E i z bytes ht hi hz hsize hby hzs v xs hown ad c news hnews h1 h0 h63 hbytes hbase
  unfold Oper.wp execOp
  simp only [ho, resolve, invoke, builtin, Sem.run_bind, Sem.run_pure, Result.andThen_ok, List.map_toArray, List.map_cons, List.map_nil, hs, hx, hr]
  exact hK _ _ (h v' w' h2 h3 h4 h5)
theorem news_one (w : World) (x : Value) (t : TypeId) : ∀ j u, [x][j]? = some u → (w.alloc (.cells #[x] t)).cell? ((⟨w.heap.size, 0, none⟩ : Addr).add j) = some u := by
  intro j u hj
  rcases j with _ | j <;> simp at hj
  subst hj
  simp [Addr.add]
/-- what a slice literal of one element is -/
theorem Owns.built (w : World) (x : Value) (E : Nat) : Owns (w.alloc (.cells #[x] E)) w.heap.size E (.slice (some ⟨w.heap.size, 0, none⟩) 1 1) [x] :=
  .inr ⟨w.heap.size, 1, #[x], rfl, Nat.zero_lt_one, Nat.le_refl _, (heap_alloc_new w _), Nat.le_refl _, by unfold maxLen; omega, rfl, rfl⟩
/-- 'append(v, u...)', u without elements: v as it was -/
theorem run_append_empty (t ty E : TypeId) (i : TypeInfo) (ht : P.underlying t = some (.slice E)) (hi : P.info? E = some i) (ao u : Option Addr) (n cap c : Nat) (hn : n ≤ cap) :
    (Builtin.append_ #[t, t] ty #[.slice ao n cap, .slice u 0 c]).run P w = .ok (.slice ao n cap) w := by
  cases u with
  | none => cases ao <;> simp [Builtin.append_, run_underlying ht, sizeOf, typeInfo, hi, Builtin.lenOf, Builtin.firstCells, hn, storeCells]
  | some b =>
    have hf := run_firstCells_some (P := P) w i.size 0 b 0 c [] (by simp) (fun j u h => by cases h)
    cases ao <;> simp [Builtin.append_, run_underlying ht, sizeOf, typeInfo, hi, Builtin.lenOf, hf, hn, storeCells]
theorem wpList_append_rows {ops : Array Oper} {rest : List Oper} {o : Oper} {a : Act} {Q : Exit → Act → World → Prop} (hgd : o.guard = none) (s x : Operand) (t : TypeId)
    (ho : o.op = .call { callee := .builtin .append, args := #[s, x], argTypes := #[t, t] })
    (B E : Nat) (i : TypeInfo) (z : Value) (bytes : Nat) (ht : P.underlying t = some (.slice E)) (hi : P.info? E = some i) (hz : i.zero = some z) (hsize : i.size = 1) (hby : i.bytes = bytes) (hzs : z.cells.size = 1)
    (v : Value) (xs : List Value) (hs : a.eval s = v) (hown : Owns w B E v xs)
    (B' : Nat) (u : Value) (ys : List Value) (hx : a.eval x = u) (hu : Owns w B' E u ys) (h1 : ∀ y ∈ ys, y.oneCell' = true)
    (h63 : xs.length + ys.length ≤ maxLen) (hbytes : (xs.length + ys.length) * bytes ≤ 140737488355328) (hbase : B ≤ w.heap.size)
    (h : ∀ v' w', Owns w' B E v' (xs ++ ys) → Owns w' B E v xs → Stirred w w' (blk v).toList → ((blk v') = (blk v) ∨ ∃ k, (blk v') = some k ∧ w.heap.size ≤ k) → wpList P ops Q rest (a.put o.dst v') w') : wpList P ops Q (o :: rest) a w := by
  by_cases hy : ys = []
  · subst hy
    obtain ⟨uo, uc, rfl⟩ := hu.slice
    obtain ⟨vo, vc, hle, rfl⟩ : ∃ vo vc, xs.length ≤ vc ∧ v = .slice vo xs.length vc := by
      rcases hown with ⟨ao, h1, h2⟩ | ⟨g, cap, cur, h1, h0, _, _, h3, _⟩
      · exact ⟨ao, 0, by rw [h2]; exact Nat.le_refl _, by rw [h1, h2]; rfl⟩
      · exact ⟨_, _, h3, h1⟩
    refine wpList_plain hgd fun K hK => ?_
    have hr := run_append_empty (P := P) w t o.type E i ht hi vo uo xs.length vc uc hle
    unfold Oper.wp execOp
    simp only [ho, resolve, invoke, builtin, Sem.run_bind, Sem.run_pure, Result.andThen_ok, List.map_toArray, List.map_cons, List.map_nil, hs, hx, List.length_nil, hr]
    exact hK _ _ (h _ w (by rw [List.append_nil]; exact hown) hown (Stirred.refl _ _) (.inl rfl))
  · have hl : 0 < ys.length := List.length_pos_iff.2 hy
    obtain ⟨g, cap, e, hc, _, _⟩ := hu.row hl
    subst e
    exact wpList_append_two w hgd s x t ho B E i z bytes ht hi hz hsize hby hzs v xs hs hown ⟨g, 0, none⟩ ys.length cap ys rfl hx (fun j u hj => by rw [add_row]; exact hc j u hj) h1 hl h63 hbytes hbase h
end
end Go.Proofs.YtlomfmilohbgpaaGreatDoor.Book
