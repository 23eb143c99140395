
/- Plain facts on the cells of a stack; what a stack is in memory. -/
import Derived.Test.YtcpdhfigaoaohaaDoorRows
import Derived.Test.YtcpdhfigaoaohaaDoorVals
import Derived.Laws.CopyOwn
import Derived.Lib.Hide
namespace Go.Proofs.YtcpdhfigaoaohaaDoor.Mem
open Go.RowKit Book
set_option linter.unusedVariables false
/-- all cells of a stack: those that lie there, then zeros -/
def full (room : Nat) (cs : List Int) : List Int := cs ++ List.replicate (room - cs.length) 0
theorem full_length {room : Nat} {cs : List Int} (h : cs.length ≤ room) : (full room cs).length = room := by simp [full]; omega
theorem full_at {room : Nat} {cs : List Int} {j : Nat} (h : j < cs.length) : (full room cs)[j]? = cs[j]? := by simp [full, List.getElem?_append_left h]
theorem full_take {room : Nat} (cs : List Int) : (full room cs).take cs.length = cs := by simp [full]
theorem full_set {room j : Nat} {cs : List Int} (h : j < cs.length) (v : Int) : (full room cs).set j v = full room (cs.set j v) := by
  unfold full
  rw [List.set_append_left _ _ h, List.length_set]
theorem full_more {room k : Nat} {cs : List Int} (h : cs.length + k ≤ room) : full room (cs ++ List.replicate k 0) = full room cs := by
  unfold full
  rw [List.append_assoc, List.length_append, List.length_replicate, List.replicate_append_replicate]
  congr 2
  omega
theorem full_nil (room : Nat) : full room [] = List.replicate room 0 := by simp [full]
/-- laid over the cells from place o on -/
theorem splice_length (L cs : List Value) (o : Nat) (h : o + cs.length ≤ L.length) : (splice L o cs).length = L.length := length_splice L o cs h
theorem splice_vals (L cs : List Int) (o : Nat) : splice (vals L) o (vals cs) = vals (splice L o cs) := by simp [splice, vals]
theorem full_put (room : Nat) (cs l : List Int) : splice (full room cs) cs.length l = full room (cs ++ l) := by
  unfold splice full
  rw [List.take_left, List.drop_append_of_le_length' , List.append_assoc, List.length_append]
  congr 2
  rw [List.drop_replicate]
  congr 1
  omega
where
  List.drop_append_of_le_length' : List.drop (cs.length + l.length) (cs ++ List.replicate (room - cs.length) 0) = List.drop l.length (List.replicate (room - cs.length) (0 : Int)) := by
    rw [← List.drop_drop, List.drop_left]
theorem full_cut {room n : Nat} {cs : List Int} (hn : n ≤ cs.length) (hr : cs.length ≤ room) : splice (full room cs) n (List.replicate (cs.length - n) 0) = full room (cs.take n) := by
  unfold splice full
  rw [List.length_replicate, List.length_take, Nat.min_eq_left hn, show n + (cs.length - n) = cs.length by omega, List.drop_left, List.take_append_of_le_length hn, List.replicate_append_replicate]
  congr 2
  omega
/-- cells set one by one, in a block that is known whole -/
theorem heap_setCells (g T : Nat) : ∀ (vs : List Value) (o : Nat) (w : World) (cur : List Value), w.heap[g]? = some (.cells cur.toArray T (0, 0)) → o + vs.length ≤ cur.length → (w.setCells g o vs).heap[g]? = some (.cells (splice cur o vs).toArray T (0, 0))
  | [], o, w, cur, h, _ => by simpa [World.setCells, splice] using h
  | v :: r, o, w, cur, h, hl => by
    have h1 := whole_set h o v
    have hs : cur.toArray.setIfInBounds o v = (cur.set o v).toArray := by simp
    rw [hs] at h1
    have h2 := heap_setCells g T r (o + 1) _ _ h1 (by simp at hl ⊢; omega)
    rw [World.setCells, h2]
    congr 3
    unfold splice
    simp only [List.length_cons] at hl ⊢
    rw [List.take_add_one, List.take_set_of_le (Nat.le_refl _), List.getElem?_set_self (by omega), List.drop_set_of_lt (by omega), show o + 1 + r.length = o + (r.length + 1) by omega]
    simp
/-- many stores into one block -/
theorem stirred_setCells (b : Nat) : ∀ (vs : List Value) (o : Nat) (w : World), Stirred w (w.setCells b o vs) [b]
  | [], _, w => Stirred.refl w _
  | v :: r, o, w => (Stirred.setCell w ⟨b, o, none⟩ v).trans (stirred_setCells b r (o + 1) _) (fun _ h => .inl h)
/-- the blocks of a stack -/
abbrev foot (p g : Nat) : List Nat := [p, g]
section
variable {w w' : World} {B p g room : Nat} {cs : List Int}
end
/-- a row that is known whole, as a slice of one's own -/
theorem Owns.of_whole {w : World} {B E g n cap : Nat} {xs : List Value} (h : w.heap[g]? = some (.cells xs.toArray E (0, 0))) (hB : B ≤ g) (hn : n ≤ xs.length) (hc : cap = xs.length) (h0 : 0 < cap) (hm : cap ≤ maxLen) : Owns w B E (.slice (some ⟨g, 0, none⟩) n cap) (xs.take n) :=
  .inr ⟨g, cap, xs.toArray, by rw [List.length_take, Nat.min_eq_left hn], h0, hB, h, by rw [List.length_take]; omega, hm, by simpa using hc.symm, by rw [List.length_take, Nat.min_eq_left hn]⟩
end Go.Proofs.YtcpdhfigaoaohaaDoor.Mem
