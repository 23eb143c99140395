
/- Plain facts on the cells of a stack; what a stack is in memory. -/
import Derived.Test.YtlomfmilohbgpaaGreatDoorRows
import Derived.Test.YtlomfmilohbgpaaGreatDoorVals
import Derived.Laws.CopyOwn
import Derived.Lib.Hide
namespace Go.Proofs.YtlomfmilohbgpaaGreatDoor.Mem
open Go.RowKit Book
set_option linter.unusedVariables false
/-- all cells of a stack: those that lie there, then zeros -/
def full (room : Nat) (cs : List Int) : List Int := cs ++ List.replicate (room - cs.length) 0
theorem full_length {room : Nat} {cs : List Int} (h : cs.length ≤ room) : (full room cs).length = room := by simp [full]; omega
theorem full_at {room : Nat} {cs : List Int} {j : Nat} (h : j < cs.length) : (full room cs)[j]? = cs[j]? := by simp [full, List.getElem?_append_left h]
theorem full_take {room : Nat} (cs : List Int) : (full room cs).take cs.length = cs := by simp [full]
theorem full_set {room j : Nat} {cs : List Int} (h : j < cs.length) (v : Int) : (full room cs).set j v = full room (cs.set j v) := by
  unfold full
  rw [List.set_append_left _ _ h, List.length_set]
theorem full_more {room k : Nat} {cs : List Int} (h : cs.length + k ≤ room) : full room (cs ++ List.replicate k 0) = full room cs := by
  unfold full
  rw [List.append_assoc, List.length_append, List.length_replicate, List.replicate_append_replicate]
  congr 2
  omega
theorem full_nil (room : Nat) : full room [] = List.replicate room 0 := by simp [full]
/-- laid over the cells from place o on -/
theorem splice_length (L cs : List Value) (o : Nat) (h : o + cs.length ≤ L.length) : (splice L o cs).length = L.length := length_splice L o cs h
theorem splice_vals (L cs : List Int) (o : Nat) : splice (vals L) o (vals cs) = vals (splice L o cs) := by simp [splice, vals]
theorem full_put (room : Nat) (cs l : List Int) : splice (full room cs) cs.length l = full room (cs ++ l) := by
  unfold splice full
  rw [List.take_left, List.drop_append_of_le_length' , List.append_assoc, List.length_append]
  congr 2
  rw [List.drop_replicate]
  congr 1
  omega
where
  List.drop_append_of_le_length' : List.drop (cs.length + l.length) (cs ++ List.replicate (room - cs.length) 0) = List.drop l.length (List.replicate (room - cs.length) (0 : Int)) := by
    rw [← List.drop_drop, List.drop_left]
theorem full_cut {room n : Nat} {cs : List Int} (hn : n ≤ cs.length) (hr : cs.length ≤ room) : splice (full room cs) n (List.replicate (cs.length - n) 0) = full room (cs.take n) := by
  unfold splice full
  rw [List.length_replicate, List.length_take, Nat.min_eq_left hn, show n + (cs.length - n) = cs.length by omega, List.drop_left, List.take_append_of_le_length hn, List.replicate_append_replicate]
  congr 2
  omega
/-- cells set one by one, in a block that is known whole -/
theorem heap_setCells (g T : Nat) : ∀ (vs : List Value) (o : Nat) (w : World) (cur : List Value), w.heap[g]? = some (.cells cur.toArray T (0, 0)) → o + vs.length ≤ cur.length → (w.setCells g o vs).heap[g]? = some (.cells (splice cur o vs).toArray T (0, 0))
  | [], o, w, cur, h, _ => by simpa [World.setCells, splice] using h
  | v :: r, o, w, cur, h, hl => by
    have h1 := whole_set h o v
    have hs : cur.toArray.setIfInBounds o v = (cur.set o v).toArray := by simp
    rw [hs] at h1
    have h2 := heap_setCells g T r (o + 1) _ _ h1 (by simp at hl ⊢; omega)
    rw [World.setCells, h2]
    congr 3
    unfold splice
    simp only [List.length_cons] at hl ⊢
    rw [List.take_add_one, List.take_set_of_le (Nat.le_refl _), List.getElem?_set_self (by omega), List.drop_set_of_lt (by omega), show o + 1 + r.length = o + (r.length + 1) by omega]
    simp
/-- many stores into one block -/
theorem stirred_setCells (b : Nat) : ∀ (vs : List Value) (o : Nat) (w : World), Stirred w (w.setCells b o vs) [b]
  | [], _, w => Stirred.refl w _
  | v :: r, o, w => (Stirred.setCell w ⟨b, o, none⟩ v).trans (stirred_setCells b r (o + 1) _) (fun _ h => .inl h)
/-- a stack: its block, its cells' row -/
structure PileAt (w : World) (B p g room : Nat) (cs : List Int) : Prop where
  whole : w.heap[p]? = some (.cells #[.slice (some ⟨g, 0, none⟩) room room, .int .i64 cs.length] 92 (0, 0))
  le : B ≤ p
  leg : B ≤ g
  row : w.heap[g]? = some (.cells (vals (full room cs)).toArray 3 (0, 0))
  fits : cs.length ≤ room
  most : room ≤ 1000
/-- the blocks of a stack -/
abbrev foot (p g : Nat) : List Nat := [p, g]
section
variable {w w' : World} {B p g room : Nat} {cs : List Int}
theorem PileAt.pg (h : PileAt w B p g room cs) : p ≠ g := fun e => by
  have h1 := h.whole
  have h2 := h.row
  rw [e, h2] at h1
  simp at h1
theorem PileAt.touch (h : PileAt w B p g room cs) {bs : List Nat} (ht : Stirred w w' bs) (hn : ∀ k ∈ foot p g, k ∉ bs) : PileAt w' B p g room cs :=
  ⟨ht.whole h.whole (hn p List.mem_cons_self), h.le, h.leg, ht.whole h.row (hn g (List.mem_cons_of_mem _ List.mem_cons_self)), h.fits, h.most⟩
theorem PileAt.below (h : PileAt w B p g room cs) (hb : Below w.heap.size w w') : PileAt w' B p g room cs :=
  h.touch (Stirred.of_below hb []) (fun _ _ => List.not_mem_nil)
theorem PileAt.from (h : PileAt w B p g room cs) {B' : Nat} (hb : B' ≤ B) : PileAt w B' p g room cs :=
  ⟨h.whole, Nat.le_trans hb h.le, Nat.le_trans hb h.leg, h.row, h.fits, h.most⟩
theorem PileAt.foot_lt (h : PileAt w B p g room cs) : ∀ k ∈ foot p g, B ≤ k ∧ k < w.heap.size := by
  intro k hk
  rcases List.mem_cons.1 hk with rfl | hk
  · exact ⟨h.le, whole_lt h.whole⟩
  · simp at hk
    subst hk
    exact ⟨h.leg, whole_lt h.row⟩
theorem PileAt.c0 (h : PileAt w B p g room cs) : w.cell? ⟨p, 0, .none⟩ = some (.slice (some ⟨g, 0, none⟩) room room) := whole_cell h.whole rfl
theorem PileAt.c1 (h : PileAt w B p g room cs) : w.cell? ⟨p, 1, .none⟩ = some (.int .i64 cs.length) := whole_cell h.whole rfl
theorem PileAt.cell (h : PileAt w B p g room cs) {j : Nat} (hj : j < cs.length) : w.cell? ⟨g, j, none⟩ = some (.int .i64 cs[j]) :=
  whole_cell h.row (by simp only [List.getElem?_toArray, vals, List.getElem?_map, full_at hj, List.getElem?_eq_getElem hj]; rfl)
theorem PileAt.there (h : PileAt w B p g room cs) {j : Nat} (hj : j < room) : (w.cell? ⟨g, j, none⟩).isSome = true ∧ w.frozen? ⟨g, j, none⟩ = false := by
  refine ⟨?_, whole_frozen h.row j⟩
  have : ∃ x, (vals (full room cs)).toArray[j]? = some x := ⟨_, by rw [List.getElem?_toArray, List.getElem?_eq_getElem (by rw [vals_length, full_length h.fits]; exact hj)]⟩
  obtain ⟨x, hx⟩ := this
  rw [whole_cell h.row hx]
  rfl
/-- the number of cells is another one, over a row that fits -/
theorem PileAt.counted (h : PileAt w B p g room cs) {cs' : List Int} (hs : Stirred w w' [g]) (hr : w'.heap[g]? = some (.cells (vals (full room cs')).toArray 3 (0, 0))) (hf : cs'.length ≤ room) :
    PileAt (w'.setCell ⟨p, 1, none⟩ (.int .i64 cs'.length)) B p g room cs' ∧ Stirred w (w'.setCell ⟨p, 1, none⟩ (.int .i64 cs'.length)) (foot p g) := by
  have hpg := h.pg
  have hw := whole_set (hs.whole h.whole (by simpa using hpg)) 1 (.int .i64 cs'.length)
  have ht := Stirred.setCell w' ⟨p, 1, none⟩ (.int .i64 cs'.length)
  refine ⟨⟨hw, h.le, h.leg, ht.whole hr (by simpa using Ne.symm hpg), hf, h.most⟩, (hs.more (fun k hk => by simp at hk; simp [hk])).trans ht (fun k hk => .inl (by simp at hk; simp [hk]))⟩
theorem PileAt.set (h : PileAt w B p g room cs) {j : Nat} (hj : j < cs.length) (v : Int) : PileAt (w.setCell ⟨g, j, none⟩ (.int .i64 v)) B p g room (cs.set j v) := by
  have hpg := h.pg
  have hs := Stirred.setCell w ⟨g, j, none⟩ (.int .i64 v)
  have hr := whole_set h.row j (.int .i64 v)
  refine ⟨by rw [List.length_set]; exact hs.whole h.whole (by simpa using hpg), h.le, h.leg, ?_, by rw [List.length_set]; exact h.fits, h.most⟩
  rw [hr, List.setIfInBounds_toArray, vals_set, full_set hj]
end
/-- a row that is known whole, as a slice of one's own -/
theorem Owns.of_whole {w : World} {B E g n cap : Nat} {xs : List Value} (h : w.heap[g]? = some (.cells xs.toArray E (0, 0))) (hB : B ≤ g) (hn : n ≤ xs.length) (hc : cap = xs.length) (h0 : 0 < cap) (hm : cap ≤ maxLen) : Owns w B E (.slice (some ⟨g, 0, none⟩) n cap) (xs.take n) :=
  .inr ⟨g, cap, xs.toArray, by rw [List.length_take, Nat.min_eq_left hn], h0, hB, h, by rw [List.length_take]; omega, hm, by simpa using hc.symm, by rw [List.length_take, Nat.min_eq_left hn]⟩
end Go.Proofs.YtlomfmilohbgpaaGreatDoor.Mem
