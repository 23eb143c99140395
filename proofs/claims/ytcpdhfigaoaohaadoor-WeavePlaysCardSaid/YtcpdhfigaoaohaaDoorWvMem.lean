
/- A weave in memory: its box, its cells, what is open. No code in sight. -/
import Derived.Test.YtcpdhfigaoaohaaDoorWvCode
import Derived.Test.YtcpdhfigaoaohaaDoorWideAppend
import Derived.Test.YtcpdhfigaoaohaaDoorVals
import Derived.Test.YtcpdhfigaoaohaaDoorPilePlain
namespace Go.Proofs.YtcpdhfigaoaohaaDoor.Wv
open Go.RowKit Book Book.Wide Mem
set_option linter.unusedVariables false
set_option linter.unusedSimpArgs false
/-- what is open, in its order -/
def openCells (l : List (Nat × Nat)) : List Value := l.reverse.flatMap fun x => [.int .i64 (x.1 : Int), .int .i64 (x.2 : Int)]
theorem open_len (l : List (Nat × Nat)) : (openCells l).length = l.length * 2 := by
  unfold openCells
  rw [flat_length (enc := fun x : Nat × Nat => [.int .i64 (x.1 : Int), .int .i64 (x.2 : Int)]) (k := 2) (fun _ => rfl), List.length_reverse]
theorem open_one (l : List (Nat × Nat)) : ∀ u ∈ openCells l, u.oneCell' = true := by
  intro u hu
  obtain ⟨x, _, hx⟩ := List.mem_flatMap.1 hu
  simp only [List.mem_cons, List.not_mem_nil, or_false] at hx
  rcases hx with rfl | rfl <;> rfl
theorem open_cons (x : Nat × Nat) (l : List (Nat × Nat)) : openCells (x :: l) = openCells l ++ [.int .i64 (x.1 : Int), .int .i64 (x.2 : Int)] := by
  unfold openCells; rw [List.reverse_cons, List.flatMap_append]; rfl
theorem open_tail (l : List (Nat × Nat)) : (openCells l).take (l.tail.length * 2) = openCells l.tail := by
  cases l with
  | nil => rfl
  | cons x r => rw [open_cons, List.tail_cons, List.take_append_of_le_length (by rw [open_len]; exact Nat.le_refl _), List.take_of_length_le (by rw [open_len]; exact Nat.le_refl _)]
/-- the k-th of what is open, from the last one on -/
theorem open_at {l : List (Nat × Nat)} {k : Nat} {x : Nat × Nat} (h : l[k]? = some x) : (openCells l)[(l.length - 1 - k) * 2]? = some (.int .i64 (x.1 : Int)) ∧ (openCells l)[(l.length - 1 - k) * 2 + 1]? = some (.int .i64 (x.2 : Int)) := by
  have hl := (List.getElem?_eq_some_iff.1 h).1
  have hr : l.reverse[l.length - 1 - k]? = some x := by
    rw [List.getElem?_reverse (by omega), show l.length - 1 - (l.length - 1 - k) = k by omega]; exact h
  unfold openCells
  refine ⟨?_, flat_at (enc := fun x : Nat × Nat => [Value.int .i64 (x.1 : Int), .int .i64 (x.2 : Int)]) (k := 2) (fun _ => rfl) hr (i := 1) rfl⟩
  have := flat_at (enc := fun x : Nat × Nat => [Value.int .i64 (x.1 : Int), .int .i64 (x.2 : Int)]) (k := 2) (fun _ => rfl) hr (i := 0) rfl
  simpa using this
/-- a weave: its pointer leads to block p, its cells lie in block gm, all of it in the blocks bs -/
structure WAt (w : World) (B p gm : Nat) (bs : List Nat) (m : M) : Prop where
  box : ∃ vo, w.heap[p]? = some (.cells #[.slice (some ⟨gm, 0, none⟩) m.mem.length m.mem.length, .int .i64 (m.here : Int), vo] 54 (0, 0)) ∧ OwnsK w B 80 2 vo (openCells m.l) ∧ bs = p :: gm :: (blk vo).toList
  cells : w.heap[gm]? = some (.cells (vals m.mem).toArray 3 (0, 0))
  low : B ≤ p ∧ B ≤ gm
  fine : Fine m
  most : m.mem.length ≤ 1000
  few : m.l.length ≤ 1000
section
variable {w w' : World} {B p gm : Nat} {bs ds : List Nat} {m : M}
theorem WAt.lt (h : WAt w B p gm bs m) : ∀ k ∈ bs, B ≤ k ∧ k < w.heap.size := by
  obtain ⟨v, h1, h2, rfl⟩ := h.box
  intro k hk
  rcases List.mem_cons.1 hk with rfl | hk
  · exact ⟨h.low.1, whole_lt h1⟩
  rcases List.mem_cons.1 hk with rfl | hk
  · exact ⟨h.low.2, whole_lt h.cells⟩
  · have := h2.block k (by simpa using hk); exact ⟨this.1, this.2.1⟩
theorem WAt.touch (h : WAt w B p gm bs m) (hs : Stirred w w' ds) (hd : ∀ k ∈ bs, k ∉ ds) : WAt w' B p gm bs m := by
  obtain ⟨v, h1, h2, rfl⟩ := h.box
  exact ⟨⟨v, hs.whole h1 (hd p (by simp)), h2.touch hs (fun k hk => hd k (by simp [hk])), rfl⟩, hs.whole h.cells (hd gm (by simp)), h.low, h.fine, h.most, h.few⟩
theorem WAt.below (h : WAt w B p gm bs m) (hb : Below w.heap.size w w') : WAt w' B p gm bs m :=
  h.touch (Stirred.of_below hb []) (fun _ _ => List.not_mem_nil)
theorem WAt.drew (h : WAt w B p gm bs m) : WAt w.drew B p gm bs m := h.touch (Stirred.drew w []) (fun _ _ => List.not_mem_nil)
theorem WAt.drewN (h : WAt w B p gm bs m) (q : Nat) : WAt (w.drewN q) B p gm bs m := h.touch (Stirred.drewN w q []) (fun _ _ => List.not_mem_nil)
theorem WAt.from {B' : Nat} (h : WAt w B p gm bs m) (hB : B' ≤ B) : WAt w B' p gm bs m := by
  obtain ⟨v, h1, h2, h3⟩ := h.box
  exact ⟨⟨v, h1, h2.from hB, h3⟩, h.cells, ⟨Nat.le_trans hB h.low.1, Nat.le_trans hB h.low.2⟩, h.fine, h.most, h.few⟩
theorem box_off {T xs : Array Value} {E : TypeId} (hE : E ≠ 54) (h1 : w.heap[p]? = some (.cells T 54 (0, 0))) (h2 : w.heap[gm]? = some (.cells xs E (0, 0))) : gm ≠ p := by
  rintro rfl
  rw [h2] at h1
  simp only [Option.some.injEq, Obj.cells.injEq] at h1
  exact hE h1.2.1
/-- the box is none of the cells, none of what is open; nor are these the same -/
theorem WAt.off (h : WAt w B p gm bs m) {vo : Value} (h1 : w.heap[p]? = some (.cells #[.slice (some ⟨gm, 0, none⟩) m.mem.length m.mem.length, .int .i64 (m.here : Int), vo] 54 (0, 0))) (h2 : OwnsK w B 80 2 vo (openCells m.l)) : gm ≠ p ∧ ∀ k, blk vo = some k → k ≠ p ∧ k ≠ gm := by
  refine ⟨box_off (by decide) h1 h.cells, fun k hk => ?_⟩
  obtain ⟨_, _, c, hc⟩ := h2.block k hk
  refine ⟨box_off (by decide) h1 hc, ?_⟩
  rintro rfl
  have := h.cells
  rw [hc] at this
  simp at this
/-- other cells, another next one -/
theorem WAt.refill (h : WAt w B p gm bs m) {mem' : List Int} (hl : mem'.length = m.mem.length) (hw : w'.heap[gm]? = some (.cells (vals mem').toArray 3 (0, 0))) (hs : Stirred w w' [gm]) (hf : Fine ⟨mem', m.here, m.l⟩) : WAt w' B p gm bs ⟨mem', m.here, m.l⟩ := by
  obtain ⟨v, h1, h2, rfl⟩ := h.box
  have ho := h.off h1 h2
  refine ⟨⟨v, ?_, h2.touch hs (fun k hk hm => (ho.2 k hk).2 (by simpa using hm)), rfl⟩, hw, h.low, hf, by show mem'.length ≤ 1000; rw [hl]; exact h.most, h.few⟩
  show w'.heap[p]? = some (.cells #[.slice (some ⟨gm, 0, none⟩) mem'.length mem'.length, .int .i64 (m.here : Int), v] 54 (0, 0))
  rw [hl]
  exact hs.whole h1 (by simpa using ho.1.symm)
theorem WAt.moved (h : WAt w B p gm bs m) {n : Nat} (hf : Fine ⟨m.mem, n, m.l⟩) : WAt (w.setCell ⟨p, 1, none⟩ (.int .i64 (n : Int))) B p gm bs ⟨m.mem, n, m.l⟩ ∧ Stirred w (w.setCell ⟨p, 1, none⟩ (.int .i64 (n : Int))) bs := by
  obtain ⟨v, h1, h2, rfl⟩ := h.box
  have ho := h.off h1 h2
  have hs := Stirred.setCell w ⟨p, 1, none⟩ (.int .i64 (n : Int))
  refine ⟨⟨⟨v, whole_set h1 1 (.int .i64 (n : Int)), h2.touch hs (fun k hk hm => (ho.2 k hk).1 (by simpa using hm)), rfl⟩, hs.whole h.cells (by simpa using ho.1), h.low, hf, h.most, h.few⟩, hs.more (fun k hk => by rw [List.mem_singleton.1 hk]; exact List.mem_cons_self)⟩
/-- another list is open, behind something that was done to its row -/
theorem WAt.opened {w1 : World} {vo v' : Value} {l' : List (Nat × Nat)} (h : WAt w B p gm bs m) (h1 : w.heap[p]? = some (.cells #[.slice (some ⟨gm, 0, none⟩) m.mem.length m.mem.length, .int .i64 (m.here : Int), vo] 54 (0, 0))) (h2 : OwnsK w B 80 2 vo (openCells m.l)) (hb : bs = p :: gm :: (blk vo).toList)
    (hs : Stirred w w1 (blk vo).toList) (h3 : OwnsK w1 B 80 2 v' (openCells l')) (hf : Fine ⟨m.mem, m.here, l'⟩) (few : l'.length ≤ 1000) :
    WAt (w1.setCell ⟨p, 2, none⟩ v') B p gm (p :: gm :: (blk v').toList) ⟨m.mem, m.here, l'⟩ ∧ Stirred w (w1.setCell ⟨p, 2, none⟩ v') bs := by
  have ho := h.off h1 h2
  have hw1 := hs.whole h1 (fun hm => (ho.2 p (by simpa using hm)).1 rfl)
  have hg1 := hs.whole h.cells (fun hm => (ho.2 gm (by simpa using hm)).2 rfl)
  have hst := Stirred.setCell w1 ⟨p, 2, none⟩ v'
  have hoff : ∀ k, blk v' = some k → k ≠ p := by
    intro k hk
    obtain ⟨_, _, c, hc⟩ := h3.block k hk
    exact box_off (by decide) hw1 hc
  refine ⟨⟨⟨v', whole_set hw1 2 v', h3.touch hst (fun k hk hm => hoff k hk (by simpa using hm)), rfl⟩, hst.whole hg1 (by simpa using ho.1), h.low, hf, h.most, few⟩, ?_⟩
  rw [hb]
  exact (hs.more (fun k hk => by simp at hk; simp [hk])).trans hst (fun k hk => .inl (by rw [List.mem_singleton.1 hk]; exact List.mem_cons_self))
/-- the k-th of what is open, and where its cells lie -/
theorem WAt.part (h : WAt w B p gm bs m) {k : Nat} {x : Nat × Nat} (hk : m.l[k]? = some x) : ∃ g cap, w.heap[p]? = some (.cells #[.slice (some ⟨gm, 0, none⟩) m.mem.length m.mem.length, .int .i64 (m.here : Int), .slice (some ⟨g, 0, none⟩) m.l.length cap] 54 (0, 0)) ∧ OwnsK w B 80 2 (.slice (some ⟨g, 0, none⟩) m.l.length cap) (openCells m.l) ∧ bs = [p, gm, g] ∧ m.l.length ≤ cap ∧ blk (.slice (some ⟨g, 0, none⟩) m.l.length cap) = some g ∧
    w.cell? ⟨g, (m.l.length - 1 - k) * 2, none⟩ = some (.int .i64 (x.1 : Int)) ∧ w.cell? ⟨g, (m.l.length - 1 - k) * 2 + 1, none⟩ = some (.int .i64 (x.2 : Int)) := by
  have hl := (List.getElem?_eq_some_iff.1 hk).1
  obtain ⟨v, h1, h2, rfl⟩ := h.box
  obtain ⟨g, cap, rfl, hc, _, hcap⟩ := h2.row (open_len m.l) (by decide) (by omega)
  have hb : blk (.slice (some ⟨g, 0, none⟩) m.l.length cap) = some g := blk_pos (by omega)
  exact ⟨g, cap, h1, h2, by rw [hb]; rfl, hcap, hb, hc _ _ (open_at hk).1, hc _ _ (open_at hk).2⟩
end
/-- what a call makes of a weave: it answers v, and the weave is m' -/
def Did (w : World) (B p gm : Nat) (bs : List Nat) (v : Value) (m' : M) (e : Ending) (w' : World) : Prop :=
  e = .returned v ∧ ∃ bs', WAt w' B p gm bs' m' ∧ Stirred w w' bs ∧ ∀ k ∈ bs', k ∈ bs ∨ w.heap.size ≤ k
theorem Did.same {w w' : World} {B p gm : Nat} {bs : List Nat} {v : Value} {m : M} {e : Ending} (h : WAt w B p gm bs m) (he : e = .returned v) (hb : Below w.heap.size w w') : Did w B p gm bs v m e w' :=
  ⟨he, bs, h.below hb, Stirred.of_below hb _, fun k hk => .inl hk⟩
end Go.Proofs.YtcpdhfigaoaohaaDoor.Wv
