
/- Package eval's run in memory: a box of twenty-two cells; its stacks, memory and values are its own, the trace's lists and what is watched lie where they lay. -/
import Derived.Test.YtgabemlehmhgpaaDoorEvPlain
import Derived.Test.YtgabemlehmhgpaaDoorIrMem
import Derived.Test.YtgabemlehmhgpaaDoorMachMem
import Derived.Test.YtgabemlehmhgpaaDoorBoxes
namespace Go.Proofs.YtgabemlehmhgpaaDoor.Ev
open Go.RowKit Book Mem
open Ir (T I O trA ReadsL)
open Mach (M OwnsL)
set_option linter.unusedVariables false
/-- the values of a run's lists: stack, back, memory, values, watched; the trace's; and further blocks that stay -/
structure Sl where
  vs : Value
  vb : Value
  vm : Value
  vv : Value
  vw : Value
  vi : Value
  vo : Value
  vc : Value
  ex : Nat → Option Obj
abbrev cells22 (t : T) (s : M) (hit : Bool) (z : Sl) : Array Value := #[.int .i64 t.start, .int .i64 t.slots, .int .i64 t.backs, .int .i64 t.grow, .int .i64 t.growBack, z.vi, z.vo, .int .i64 t.last, z.vc,
  .int .i64 s.ip, .int .i64 s.handler, z.vs, z.vb, z.vm, .string s.out, .string s.inp, .int .i64 s.read, .int .i64 s.status, .int .i64 s.code, z.vv, z.vw, .bool hit]
structure RunAt (W w : World) (q : Nat) (t : T) (wat : List Int) (s : M) (V : List Int) (hit : Bool) (z : Sl) : Prop where
  hb : Below W.heap.size W w
  hq : W.heap.size ≤ q
  box : w.heap[q]? = some (.cells (cells22 t s hit z) 51 (0, 0))
  st : Owns w W.heap.size 3 z.vs (vals s.stack)
  bk : Owns w W.heap.size 3 z.vb (vals s.back)
  me : Owns w W.heap.size 3 z.vm (vals s.mem)
  vl : Owns w W.heap.size 3 z.vv (vals V)
  ns : ∀ k, blk z.vs = some k → k ≠ q ∧ blk z.vb ≠ some k ∧ blk z.vm ≠ some k ∧ blk z.vv ≠ some k
  nb : ∀ k, blk z.vb = some k → k ≠ q ∧ blk z.vm ≠ some k ∧ blk z.vv ≠ some k
  nm : ∀ k, blk z.vm = some k → k ≠ q ∧ blk z.vv ≠ some k
  nv : ∀ k, blk z.vv = some k → k ≠ q
  tr : ReadsL W z.vi z.vo z.vc t
  wa : Reads W z.vw wat
  fr : ∀ k o, z.ex k = some o → w.heap[k]? = some o ∧ k ≠ q ∧ blk z.vs ≠ some k ∧ blk z.vb ≠ some k ∧ blk z.vm ≠ some k ∧ blk z.vv ≠ some k
section
variable {W w w' : World} {q : Nat} {t : T} {wat : List Int} {s s' : M} {V : List Int} {hit hit' : Bool} {z : Sl}
theorem RunAt.step (h : RunAt W w q t wat s V hit z) {bs : List Nat} (ht : Stirred w w' bs) (hn : ∀ k ∈ bs, W.heap.size ≤ k) (nq : q ∉ bs) (n1 : ∀ k, blk z.vs = some k → k ∉ bs) (n2 : ∀ k, blk z.vb = some k → k ∉ bs) (n3 : ∀ k, blk z.vm = some k → k ∉ bs) (n4 : ∀ k, blk z.vv = some k → k ∉ bs) (n5 : ∀ k o, z.ex k = some o → k ∉ bs) : RunAt W w' q t wat s V hit z :=
  ⟨h.hb.trans (ht.below hn h.hb.size), h.hq, ht.whole h.box nq, h.st.touch ht n1, h.bk.touch ht n2, h.me.touch ht n3, h.vl.touch ht n4, h.ns, h.nb, h.nm, h.nv, h.tr, h.wa, fun k o e => ⟨ht.whole (h.fr k o e).1 (n5 k o e), (h.fr k o e).2⟩⟩
theorem RunAt.below (h : RunAt W w q t wat s V hit z) (hb : Below w.heap.size w w') : RunAt W w' q t wat s V hit z :=
  h.step (Stirred.of_below hb []) (fun _ e => (by cases e)) List.not_mem_nil (fun _ _ => List.not_mem_nil) (fun _ _ => List.not_mem_nil) (fun _ _ => List.not_mem_nil) (fun _ _ => List.not_mem_nil) (fun _ _ _ => List.not_mem_nil)
theorem RunAt.drew (h : RunAt W w q t wat s V hit z) : RunAt W w.drew q t wat s V hit z := h.below ((Below.refl _ _).drew)
theorem RunAt.drewN (h : RunAt W w q t wat s V hit z) (n : Nat) : RunAt W (w.drewN n) q t wat s V hit z := h.below ⟨rfl, rfl, rfl, Nat.le_refl _, fun _ _ => rfl⟩
theorem RunAt.lt (h : RunAt W w q t wat s V hit z) : q < w.heap.size := whole_lt h.box
/-- a cell of the box is stored into -/
theorem RunAt.field (h : RunAt W w q t wat s V hit z) (j : Nat) (v : Value) (hc : (cells22 t s hit z).setIfInBounds j v = cells22 t s' hit' z) (e1 : s'.stack = s.stack) (e2 : s'.back = s.back) (e3 : s'.mem = s.mem) : RunAt W (w.setCell ⟨q, j, none⟩ v) q t wat s' V hit' z := by
  have ht := Stirred.setCell w ⟨q, j, none⟩ v
  have hx : ∀ {k : Nat}, k ≠ q → k ∉ [q] := fun h hm => h (List.mem_singleton.1 hm)
  exact ⟨h.hb.trans (ht.below (fun k hk => by rw [List.mem_singleton.1 hk]; exact h.hq) h.hb.size), h.hq, by rw [← hc]; exact whole_set h.box j v,
    by rw [e1]; exact h.st.touch ht (fun k e => hx (h.ns k e).1), by rw [e2]; exact h.bk.touch ht (fun k e => hx (h.nb k e).1), by rw [e3]; exact h.me.touch ht (fun k e => hx (h.nm k e).1), h.vl.touch ht (fun k e => hx (h.nv k e)), h.ns, h.nb, h.nm, h.nv, h.tr, h.wa, fun k o e => ⟨ht.whole (h.fr k o e).1 (hx (h.fr k o e).2.1), (h.fr k o e).2⟩⟩
/-- a cell of the memory is stored into -/
theorem RunAt.poke (h : RunAt W w q t wat s V hit z) {g n cap : Nat} (hz : z.vm = .slice (some ⟨g, 0, none⟩) n cap) {j : Nat} (hj : j < s.mem.length) (c : Int) : RunAt W (w.setCell ⟨g, j, none⟩ (.int .i64 c)) q t wat { s with mem := s.mem.set j c } V hit z := by
  have hme := h.me
  rw [hz] at hme
  have hg : blk z.vm = some g := by rw [hz]; exact hme.capAt (by rw [vals_length]; omega)
  have ht := Stirred.setCell w ⟨g, j, none⟩ (.int .i64 c)
  have hx : ∀ {k : Nat}, k ≠ g → k ∉ [g] := fun h hm => h (List.mem_singleton.1 hm)
  have hgq := (h.nm g hg).1
  refine ⟨h.hb.trans (ht.below (fun k hk => by rw [List.mem_singleton.1 hk]; exact (h.me.block g hg).1) h.hb.size), h.hq, ht.whole h.box (hx (Ne.symm hgq)),
    h.st.touch ht (fun k e => hx (fun e' => by subst e'; exact (h.ns _ e).2.2.1 hg)), h.bk.touch ht (fun k e => hx (fun e' => by subst e'; exact (h.nb _ e).2.1 hg)), ?_, h.vl.touch ht (fun k e => hx (fun e' => by subst e'; exact (h.nm _ hg).2 e)), h.ns, h.nb, h.nm, h.nv, h.tr, h.wa, fun k o e => ⟨ht.whole (h.fr k o e).1 (hx (fun e' => by subst e'; exact (h.fr _ o e).2.2.2.2.1 hg)), (h.fr k o e).2⟩⟩
  show Owns _ _ _ z.vm (vals (s.mem.set j c))
  rw [hz, ← vals_set]
  exact hme.stored j _
/-- other values -/
theorem RunAt.newVals (h : RunAt W w q t wat s V hit z) {v : Value} {V' : List Int} (ho : Owns w' W.heap.size 3 v (vals V')) (ht : Stirred w w' (blk z.vv).toList) (hk : ∀ k, blk v = some k → blk z.vv = some k ∨ w.heap.size ≤ k) :
    RunAt W (w'.setCell ⟨q, 19, none⟩ v) q t wat s V' hit { z with vv := v } := by
  have hv : ∀ k, k ∈ (blk z.vv).toList → blk z.vv = some k := fun k hm => Option.mem_toList.1 hm
  have h1 : w'.heap[q]? = some (.cells (cells22 t s hit z) 51 (0, 0)) := ht.whole h.box (fun hm => h.nv _ (hv _ hm) rfl)
  have hqv : ∀ k, blk v = some k → k ≠ q := fun k e e' => by
    subst e'
    rcases hk _ e with hk | e2
    · exact h.nv _ hk rfl
    · have := h.lt; omega
  have far : ∀ {u : Value} {xs : List Int}, Owns w W.heap.size 3 u (vals xs) → (∀ k, blk u = some k → blk z.vv ≠ some k) → ∀ k, blk u = some k → blk v ≠ some k := fun hu hn k e e' => by
    rcases hk _ e' with hk | e2
    · exact hn k e hk
    · have := (hu.block _ e).2.1; omega
  have ht2 := Stirred.setCell w' ⟨q, 19, none⟩ v
  have hx : ∀ {k : Nat}, k ≠ q → k ∉ [q] := fun h hm => h (List.mem_singleton.1 hm)
  have hB1 : Below W.heap.size W w' := h.hb.trans (ht.below (fun k hm => (h.vl.block k (hv k hm)).1) h.hb.size)
  have keep : ∀ {u : Value} {xs : List Int}, Owns w W.heap.size 3 u (vals xs) → (∀ k, blk u = some k → k ≠ q ∧ blk z.vv ≠ some k) → Owns (w'.setCell ⟨q, 19, none⟩ v) W.heap.size 3 u (vals xs) := fun hu hn =>
    (hu.touch ht (fun k e hm => (hn k e).2 (hv k hm))).touch ht2 (fun k e => hx (hn k e).1)
  refine ⟨hB1.trans (ht2.below (fun k hm => by rw [List.mem_singleton.1 hm]; exact h.hq) hB1.size), h.hq, ?_, keep h.st (fun k e => ⟨(h.ns k e).1, (h.ns k e).2.2.2⟩), keep h.bk (fun k e => ⟨(h.nb k e).1, (h.nb k e).2.2⟩), keep h.me h.nm, ho.touch ht2 (fun k e => hx (hqv k e)),
    fun k e => ⟨(h.ns k e).1, (h.ns k e).2.1, (h.ns k e).2.2.1, far h.st (fun k e => (h.ns k e).2.2.2) k e⟩, fun k e => ⟨(h.nb k e).1, (h.nb k e).2.1, far h.bk (fun k e => (h.nb k e).2.2) k e⟩, fun k e => ⟨(h.nm k e).1, far h.me (fun k e => (h.nm k e).2) k e⟩, hqv, h.tr, h.wa, fun k o e => ?_⟩
  · exact whole_set h1 19 v
  · obtain ⟨f1, f2, f3, f4, f5, f6⟩ := h.fr k o e
    refine ⟨ht2.whole (ht.whole f1 (fun hm => f6 (hv k hm))) (hx f2), f2, f3, f4, f5, fun e' => ?_⟩
    rcases hk _ e' with hk | e2
    · exact f6 hk
    · have := whole_lt f1; omega
/-- one more value -/
theorem RunAt.push (h : RunAt W w q t wat s V hit z) {v : Value} {x : Int} (ho : Owns w' W.heap.size 3 v (vals (V ++ [x]))) (ht : Stirred w w' (blk z.vv).toList) (hk : blk v = blk z.vv ∨ ∃ k, blk v = some k ∧ w.heap.size ≤ k) :
    RunAt W (w'.setCell ⟨q, 19, none⟩ v) q t wat s (V ++ [x]) hit { z with vv := v } :=
  h.newVals ho ht (fun k e => by
    rcases hk with hk | ⟨k', e1, e2⟩
    · exact .inl (hk ▸ e)
    · rw [e1] at e; cases e; exact .inr e2)
/-- one more block that stays -/
def put1 (g : Nat) (o : Obj) (e : Nat → Option Obj) : Nat → Option Obj := fun k => if k = g then some o else e k
theorem RunAt.also (h : RunAt W w q t wat s V hit z) {g : Nat} {o : Obj} (hg : w.heap[g]? = some o) (n0 : g ≠ q) (n1 : blk z.vs ≠ some g) (n2 : blk z.vb ≠ some g) (n3 : blk z.vm ≠ some g) (n4 : blk z.vv ≠ some g) : RunAt W w q t wat s V hit { z with ex := put1 g o z.ex } :=
  ⟨h.hb, h.hq, h.box, h.st, h.bk, h.me, h.vl, h.ns, h.nb, h.nm, h.nv, h.tr, h.wa, fun k o' e => by
    unfold put1 at e
    dsimp only at e
    split at e
    · rename_i hk; cases e; subst hk; exact ⟨hg, n0, n1, n2, n3, n4⟩
    · exact h.fr k o' e⟩
/-- .. a new one: nothing of the run lies in it -/
theorem RunAt.fresh (h : RunAt W w q t wat s V hit z) {g : Nat} {o : Obj} {bs : List Nat} (ht : Stirred w w' bs) (hbs : ∀ k ∈ bs, k = g) (hn : w.heap.size ≤ g) (hg : w'.heap[g]? = some o) : RunAt W w' q t wat s V hit { z with ex := put1 g o z.ex } :=
  have fr : ∀ {k : Nat}, k < w.heap.size → k ∉ bs := fun hk hm => by have := hbs _ hm; omega
  have h' := h.step ht (fun k hm => by rw [hbs k hm]; exact Nat.le_trans h.hb.size hn) (fr h.lt) (fun k e => fr (h.st.block k e).2.1) (fun k e => fr (h.bk.block k e).2.1) (fun k e => fr (h.me.block k e).2.1) (fun k e => fr (h.vl.block k e).2.1) (fun k o e => fr (whole_lt (h.fr k o e).1))
  h'.also hg (fun e => by have := h.lt; omega) (fun e => by have := (h.st.block _ e).2.1; omega) (fun e => by have := (h.bk.block _ e).2.1; omega) (fun e => by have := (h.me.block _ e).2.1; omega) (fun e => by have := (h.vl.block _ e).2.1; omega)
theorem RunAt.less (h : RunAt W w q t wat s V hit z) {e' : Nat → Option Obj} (hs : ∀ k o, e' k = some o → z.ex k = some o) : RunAt W w q t wat s V hit { z with ex := e' } :=
  ⟨h.hb, h.hq, h.box, h.st, h.bk, h.me, h.vl, h.ns, h.nb, h.nm, h.nv, h.tr, h.wa, fun k o e => h.fr k o (hs k o e)⟩
/-- the box's cells -/
theorem RunAt.cells (h : RunAt W w q t wat s V hit z) : w.cell? ⟨q, 0, none⟩ = some (.int .i64 t.start) ∧ w.cell? ⟨q, 1, none⟩ = some (.int .i64 t.slots) ∧ w.cell? ⟨q, 2, none⟩ = some (.int .i64 t.backs) ∧ w.cell? ⟨q, 5, none⟩ = some z.vi ∧ w.cell? ⟨q, 6, none⟩ = some z.vo ∧ w.cell? ⟨q, 7, none⟩ = some (.int .i64 t.last) ∧
    w.cell? ⟨q, 11, none⟩ = some z.vs ∧ w.cell? ⟨q, 12, none⟩ = some z.vb ∧ w.cell? ⟨q, 13, none⟩ = some z.vm ∧ w.cell? ⟨q, 14, none⟩ = some (.string s.out) ∧ w.cell? ⟨q, 15, none⟩ = some (.string s.inp) ∧ w.cell? ⟨q, 16, none⟩ = some (.int .i64 s.read) ∧ w.cell? ⟨q, 19, none⟩ = some z.vv ∧ w.cell? ⟨q, 20, none⟩ = some z.vw ∧ w.cell? ⟨q, 21, none⟩ = some (.bool hit) :=
  ⟨whole_cell h.box rfl, whole_cell h.box rfl, whole_cell h.box rfl, whole_cell h.box rfl, whole_cell h.box rfl, whole_cell h.box rfl, whole_cell h.box rfl, whole_cell h.box rfl, whole_cell h.box rfl, whole_cell h.box rfl, whole_cell h.box rfl, whole_cell h.box rfl, whole_cell h.box rfl, whole_cell h.box rfl, whole_cell h.box rfl⟩
theorem RunAt.free (h : RunAt W w q t wat s V hit z) (j : Nat) : w.frozen? ⟨q, j, none⟩ = false := whole_frozen h.box j
end
end Go.Proofs.YtgabemlehmhgpaaDoor.Ev
