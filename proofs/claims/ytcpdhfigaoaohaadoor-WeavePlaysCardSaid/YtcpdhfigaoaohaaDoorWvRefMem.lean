
/- The document's own weave in memory: its box, its cells, what is open. No code in sight. -/
import Derived.Test.YtcpdhfigaoaohaaDoorWvMem
namespace Go.Proofs.YtcpdhfigaoaohaaDoor.WvR
open Go.RowKit Book Book.Wide Mem Wv
set_option linter.unusedVariables false
set_option linter.unusedSimpArgs false
/-- its pointer leads to block p, all of it lies in the blocks bs -/
structure RAt (w : World) (B p : Nat) (bs : List Nat) (m : M) : Prop where
  box : ∃ vm vo, w.heap[p]? = some (.cells #[vm, .int .i64 (m.here : Int), vo] 49 (0, 0)) ∧ Owns w B 3 vm (vals m.mem) ∧ OwnsK w B 62 2 vo (openCells m.l) ∧ bs = p :: ((blk vm).toList ++ (blk vo).toList)
  low : B ≤ p
  fine : Fine m
  most : m.mem.length ≤ 1000
  few : m.l.length ≤ 1000
section
variable {w w' : World} {B p : Nat} {bs ds : List Nat} {m : M}
theorem RAt.lt (h : RAt w B p bs m) : ∀ k ∈ bs, B ≤ k ∧ k < w.heap.size := by
  obtain ⟨vm, vo, h1, h2, h3, rfl⟩ := h.box
  intro k hk
  rcases List.mem_cons.1 hk with rfl | hk
  · exact ⟨h.low, whole_lt h1⟩
  rcases List.mem_append.1 hk with hk | hk
  · have := h2.block k (by simpa using hk); exact ⟨this.1, this.2.1⟩
  · have := h3.block k (by simpa using hk); exact ⟨this.1, this.2.1⟩
theorem RAt.touch (h : RAt w B p bs m) (hs : Stirred w w' ds) (hd : ∀ k ∈ bs, k ∉ ds) : RAt w' B p bs m := by
  obtain ⟨vm, vo, h1, h2, h3, rfl⟩ := h.box
  exact ⟨⟨vm, vo, hs.whole h1 (hd p (by simp)), h2.touch hs (fun k hk => hd k (by simp [hk])), h3.touch hs (fun k hk => hd k (by simp [hk])), rfl⟩, h.low, h.fine, h.most, h.few⟩
theorem RAt.below (h : RAt w B p bs m) (hb : Below w.heap.size w w') : RAt w' B p bs m :=
  h.touch (Stirred.of_below hb []) (fun _ _ => List.not_mem_nil)
theorem RAt.drewN (h : RAt w B p bs m) (q : Nat) : RAt (w.drewN q) B p bs m := h.touch (Stirred.drewN w q []) (fun _ _ => List.not_mem_nil)
theorem RAt.from {B' : Nat} (h : RAt w B p bs m) (hB : B' ≤ B) : RAt w B' p bs m := by
  obtain ⟨vm, vo, h1, h2, h3, h4⟩ := h.box
  exact ⟨⟨vm, vo, h1, h2.from hB, h3.from hB, h4⟩, Nat.le_trans hB h.low, h.fine, h.most, h.few⟩
theorem rbox_off {T xs : Array Value} {E k : Nat} (hE : E ≠ 49) (h1 : w.heap[p]? = some (.cells T 49 (0, 0))) (h2 : w.heap[k]? = some (.cells xs E (0, 0))) : k ≠ p := by
  rintro rfl
  rw [h2] at h1
  simp only [Option.some.injEq, Obj.cells.injEq] at h1
  exact hE h1.2.1
/-- the box is none of the cells, none of what is open; nor are these the same -/
theorem roff {T : Array Value} {vm vo : Value} {xs ys : List Value} (h1 : w.heap[p]? = some (.cells T 49 (0, 0))) (h2 : Owns w B 3 vm xs) (h3 : OwnsK w B 62 2 vo ys) : (∀ k, blk vm = some k → k ≠ p) ∧ (∀ k, blk vo = some k → k ≠ p) ∧ ∀ k j, blk vm = some k → blk vo = some j → k ≠ j := by
  refine ⟨fun k hk => ?_, fun k hk => ?_, fun k j hk hj => ?_⟩
  · obtain ⟨_, _, c, hc⟩ := h2.block k hk
    exact rbox_off (by decide) h1 hc
  · obtain ⟨_, _, c, hc⟩ := h3.block k hk
    exact rbox_off (by decide) h1 hc
  · obtain ⟨_, _, c, hc⟩ := h2.block k hk
    obtain ⟨_, _, d, hd⟩ := h3.block j hj
    rintro rfl
    rw [hc] at hd
    simp only [Option.some.injEq, Obj.cells.injEq] at hd
    exact absurd hd.2.1 (by decide)
/-- where its cells lie -/
theorem RAt.row (h : RAt w B p bs m) (h0 : 0 < m.mem.length) : ∃ g cap vo, w.heap[p]? = some (.cells #[.slice (some ⟨g, 0, none⟩) m.mem.length cap, .int .i64 (m.here : Int), vo] 49 (0, 0)) ∧ g ∈ bs ∧ g ≠ p ∧ (∀ j x, m.mem[j]? = some x → w.cell? ⟨g, j, none⟩ = some (.int .i64 x)) ∧ (∀ j, w.frozen? ⟨g, j, none⟩ = false) ∧ m.mem.length ≤ cap := by
  obtain ⟨vm, vo, h1, h2, h3, rfl⟩ := h.box
  obtain ⟨g, cap, rfl, hc, hf, hcap⟩ := h2.row (by rw [vals_length]; exact h0)
  rw [vals_length] at h1 hcap
  have hb : blk (.slice (some ⟨g, 0, none⟩) (vals m.mem).length cap) = some g := blk_pos (by omega)
  refine ⟨g, cap, vo, h1, by rw [hb]; simp, (roff h1 h2 h3).1 g hb, fun j x hx => hc j _ ?_, hf, hcap⟩
  rw [show (vals m.mem)[j]? = (m.mem[j]?).map (Value.int .i64) from List.getElem?_map, hx]; rfl
theorem RAt.put (h : RAt w B p bs m) {g cap : Nat} {vo : Value} (h1 : w.heap[p]? = some (.cells #[.slice (some ⟨g, 0, none⟩) m.mem.length cap, .int .i64 (m.here : Int), vo] 49 (0, 0))) (h0 : 0 < m.mem.length) (j : Nat) (v : Int) :
    RAt (w.setCell ⟨g, j, none⟩ (.int .i64 v)) B p bs (m.point j v) ∧ Stirred w (w.setCell ⟨g, j, none⟩ (.int .i64 v)) bs := by
  obtain ⟨vm, vo', e1, h2, h3, rfl⟩ := h.box
  rw [h1] at e1
  simp only [Option.some.injEq, Obj.cells.injEq, Array.mk.injEq, List.cons.injEq, and_true, true_and] at e1
  obtain ⟨rfl, rfl⟩ := e1
  obtain ⟨g', cap', hgv, _, _, hcap⟩ := h2.row (by rw [vals_length]; exact h0)
  rw [vals_length] at hgv hcap
  simp only [Value.slice.injEq, Option.some.injEq, Addr.mk.injEq, and_true, true_and] at hgv
  obtain ⟨rfl, rfl⟩ := hgv
  have hb : blk (.slice (some ⟨g, 0, none⟩) m.mem.length cap) = some g := blk_pos (by omega)
  obtain ⟨o1, o2, o3⟩ := roff h1 h2 h3
  have hs := Stirred.setCell w ⟨g, j, none⟩ (.int .i64 v)
  have hl : (m.mem.set j v).length = m.mem.length := List.length_set
  refine ⟨⟨⟨.slice (some ⟨g, 0, none⟩) m.mem.length cap, vo, hs.whole h1 (by simpa using (o1 g hb).symm), ?_, h3.touch hs (fun k hk hm => o3 g k hb hk ((List.mem_singleton.1 hm).symm)), by rw [hb]⟩, h.low, ⟨by show m.here ≤ (m.mem.set j v).length; rw [hl]; exact h.fine.here, h.fine.cell⟩, by show (m.mem.set j v).length ≤ 1000; rw [hl]; exact h.most, h.few⟩, hs.more (fun k hk => by rw [List.mem_singleton.1 hk, hb]; simp)⟩
  show Owns _ B 3 _ (vals (m.mem.set j v))
  rw [← vals_set]
  exact h2.stored j _
theorem RAt.moved (h : RAt w B p bs m) {n : Nat} (hf : Fine ⟨m.mem, n, m.l⟩) : RAt (w.setCell ⟨p, 1, none⟩ (.int .i64 (n : Int))) B p bs ⟨m.mem, n, m.l⟩ ∧ Stirred w (w.setCell ⟨p, 1, none⟩ (.int .i64 (n : Int))) bs := by
  obtain ⟨vm, vo, h1, h2, h3, rfl⟩ := h.box
  obtain ⟨o1, o2, o3⟩ := roff h1 h2 h3
  have hs := Stirred.setCell w ⟨p, 1, none⟩ (.int .i64 (n : Int))
  exact ⟨⟨⟨vm, vo, whole_set h1 1 (.int .i64 (n : Int)), h2.touch hs (fun k hk hm => o1 k hk (by simpa using hm)), h3.touch hs (fun k hk hm => o2 k hk (by simpa using hm)), rfl⟩, h.low, hf, h.most, h.few⟩, hs.more (fun k hk => by rw [List.mem_singleton.1 hk]; exact List.mem_cons_self)⟩
/-- another list is open, behind something that was done to its row -/
theorem RAt.opened {w1 : World} {vm vo v' : Value} {l' : List (Nat × Nat)} (h : RAt w B p bs m) (h1 : w.heap[p]? = some (.cells #[vm, .int .i64 (m.here : Int), vo] 49 (0, 0))) (h2 : Owns w B 3 vm (vals m.mem)) (h3 : OwnsK w B 62 2 vo (openCells m.l)) (hb : bs = p :: ((blk vm).toList ++ (blk vo).toList))
    (hs : Stirred w w1 (blk vo).toList) (h4 : OwnsK w1 B 62 2 v' (openCells l')) (hf : Fine ⟨m.mem, m.here, l'⟩) (few : l'.length ≤ 1000) :
    RAt (w1.setCell ⟨p, 2, none⟩ v') B p (p :: ((blk vm).toList ++ (blk v').toList)) ⟨m.mem, m.here, l'⟩ ∧ Stirred w (w1.setCell ⟨p, 2, none⟩ v') bs := by
  obtain ⟨o1, o2, o3⟩ := roff h1 h2 h3
  have hw1 := hs.whole h1 (fun hm => o2 p (by simpa using hm) rfl)
  have hm1 := h2.touch hs (fun k hk hm => o3 k k hk (by simpa using hm) rfl)
  have hst := Stirred.setCell w1 ⟨p, 2, none⟩ v'
  obtain ⟨q1, q2, _⟩ := roff hw1 hm1 h4
  refine ⟨⟨⟨vm, v', whole_set hw1 2 v', hm1.touch hst (fun k hk hm => q1 k hk (by simpa using hm)), h4.touch hst (fun k hk hm => q2 k hk (by simpa using hm)), rfl⟩, h.low, hf, h.most, few⟩, ?_⟩
  rw [hb]
  exact (hs.more (fun k hk => by simp at hk; simp [hk])).trans hst (fun k hk => .inl (by rw [List.mem_singleton.1 hk]; exact List.mem_cons_self))
/-- the k-th of what is open, and where its cells lie -/
theorem RAt.part (h : RAt w B p bs m) {k : Nat} {x : Nat × Nat} (hk : m.l[k]? = some x) : ∃ g cap vm, w.heap[p]? = some (.cells #[vm, .int .i64 (m.here : Int), .slice (some ⟨g, 0, none⟩) m.l.length cap] 49 (0, 0)) ∧ m.l.length ≤ cap ∧
    w.cell? ⟨g, (m.l.length - 1 - k) * 2, none⟩ = some (.int .i64 (x.1 : Int)) ∧ w.cell? ⟨g, (m.l.length - 1 - k) * 2 + 1, none⟩ = some (.int .i64 (x.2 : Int)) := by
  have hl := (List.getElem?_eq_some_iff.1 hk).1
  obtain ⟨vm, v, h1, h2, h3, rfl⟩ := h.box
  obtain ⟨g, cap, rfl, hc, _, hcap⟩ := h3.row (open_len m.l) (by decide) (by omega)
  exact ⟨g, cap, vm, h1, hcap, hc _ _ (open_at hk).1, hc _ _ (open_at hk).2⟩
end
/-- what a call makes of it: it answers v, and the weave is m' -/
def RDid (w : World) (B p : Nat) (bs : List Nat) (v : Value) (m' : M) (e : Ending) (w' : World) : Prop :=
  e = .returned v ∧ ∃ bs', RAt w' B p bs' m' ∧ Stirred w w' bs ∧ ∀ k ∈ bs', k ∈ bs ∨ w.heap.size ≤ k
theorem RDid.same {w w' : World} {B p : Nat} {bs : List Nat} {v : Value} {m : M} {e : Ending} (h : RAt w B p bs m) (he : e = .returned v) (hb : Below w.heap.size w w') : RDid w B p bs v m e w' :=
  ⟨he, bs, h.below hb, Stirred.of_below hb _, fun k hk => .inl hk⟩
end Go.Proofs.YtcpdhfigaoaohaaDoor.WvR
