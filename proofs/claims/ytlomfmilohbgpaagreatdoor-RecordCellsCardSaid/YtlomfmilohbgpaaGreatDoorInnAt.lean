
/- The code's own machine in memory (package inner): its box, two stacks, a memory of cells. -/
import Derived.Test.YtlomfmilohbgpaaGreatDoorMachMem
import Derived.Test.YtlomfmilohbgpaaGreatDoorPileMore
import Derived.Test.YtlomfmilohbgpaaGreatDoorFldStore
namespace Go.Proofs.YtlomfmilohbgpaaGreatDoor.Inn
open Go.RowKit Book Mem Mach
set_option linter.unusedVariables false
abbrev cells13 (m : M) (vs vb vm : Value) (ps pb pf : Nat) : Array Value := #[.int .i64 m.ip, .int .i64 m.handler, vs, vb, vm, .string m.out, .string m.inp, .int .i64 m.read, .int .i64 m.status, .int .i64 m.code, .pointer (some ⟨ps, 0, none⟩), .pointer (some ⟨pb, 0, none⟩), .pointer (some ⟨pf, 0, none⟩)]
/-- the blocks of a machine -/
def feet (q ps gs pb gb pf : Nat) (vC vH : Value) : List Nat := q :: (foot ps gs ++ (foot pb gb ++ Fld.Mem.foot pf vC vH))
structure Mc (w : World) (B q ps gs pb gb pf : Nat) (vC vH : Value) (ch : List Int) (vs vb vm : Value) (m : M) : Prop where
  box : w.heap[q]? = some (.cells (cells13 m vs vb vm ps pb pf) 62 (0, 0))
  le : B ≤ q
  st : PileAt w B ps gs 48 m.stack
  bk : PileAt w B pb gb 48 m.back
  me : Fld.Mem.FieldAt w B pf vC vH m.mem ch
  one : vs.oneCell' = true ∧ vb.oneCell' = true ∧ vm.oneCell' = true
  dqs : q ∉ foot ps gs
  dqb : q ∉ foot pb gb
  dqm : q ∉ Fld.Mem.foot pf vC vH
  dsb : ∀ k ∈ foot ps gs, k ∉ foot pb gb
  dsm : ∀ k ∈ foot ps gs, k ∉ Fld.Mem.foot pf vC vH
  dbm : ∀ k ∈ foot pb gb, k ∉ Fld.Mem.foot pf vC vH
section
variable {w w' : World} {B q ps gs pb gb pf : Nat} {vC vH vC' vH' : Value} {ch : List Int} {vs vb vm : Value} {m : M}
theorem mem_feet {k : Nat} : k ∈ feet q ps gs pb gb pf vC vH ↔ k = q ∨ k ∈ foot ps gs ∨ k ∈ foot pb gb ∨ k ∈ Fld.Mem.foot pf vC vH := by
  unfold feet
  rw [List.mem_cons, List.mem_append, List.mem_append]
theorem Mc.feet_lt (h : Mc w B q ps gs pb gb pf vC vH ch vs vb vm m) : ∀ k ∈ feet q ps gs pb gb pf vC vH, B ≤ k ∧ k < w.heap.size := by
  intro k hk
  rcases mem_feet.1 hk with rfl | hk | hk | hk
  · exact ⟨h.le, whole_lt h.box⟩
  · exact h.st.foot_lt k hk
  · exact h.bk.foot_lt k hk
  · exact h.me.foot_lt k hk
theorem Mc.touch (h : Mc w B q ps gs pb gb pf vC vH ch vs vb vm m) {bs : List Nat} (ht : Stirred w w' bs) (hn : ∀ k ∈ feet q ps gs pb gb pf vC vH, k ∉ bs) : Mc w' B q ps gs pb gb pf vC vH ch vs vb vm m :=
  ⟨ht.whole h.box (hn q (mem_feet.2 (.inl rfl))), h.le, h.st.touch ht (fun k hk => hn k (mem_feet.2 (.inr (.inl hk)))), h.bk.touch ht (fun k hk => hn k (mem_feet.2 (.inr (.inr (.inl hk))))), h.me.touch ht (fun k hk => hn k (mem_feet.2 (.inr (.inr (.inr hk))))), h.one, h.dqs, h.dqb, h.dqm, h.dsb, h.dsm, h.dbm⟩
theorem Mc.below (h : Mc w B q ps gs pb gb pf vC vH ch vs vb vm m) (hb : Below w.heap.size w w') : Mc w' B q ps gs pb gb pf vC vH ch vs vb vm m :=
  h.touch (Stirred.of_below hb []) (fun _ _ => List.not_mem_nil)
theorem Mc.ptrs (h : Mc w B q ps gs pb gb pf vC vH ch vs vb vm m) : w.cell? ⟨q, 10, none⟩ = some (.pointer (some ⟨ps, 0, none⟩)) ∧ w.cell? ⟨q, 11, none⟩ = some (.pointer (some ⟨pb, 0, none⟩)) ∧ w.cell? ⟨q, 12, none⟩ = some (.pointer (some ⟨pf, 0, none⟩)) :=
  ⟨whole_cell h.box rfl, whole_cell h.box rfl, whole_cell h.box rfl⟩
/-- something was done to a stack -/
theorem Mc.stDid (h : Mc w B q ps gs pb gb pf vC vH ch vs vb vm m) {xs : List Int} (hp : PileAt w' B ps gs 48 xs) (ht : Stirred w w' (foot ps gs)) : Mc w' B q ps gs pb gb pf vC vH ch vs vb vm { m with stack := xs } :=
  ⟨ht.whole h.box h.dqs, h.le, hp, h.bk.touch ht (fun k hk hm => h.dsb k hm hk), h.me.touch ht (fun k hk hm => h.dsm k hm hk), h.one, h.dqs, h.dqb, h.dqm, h.dsb, h.dsm, h.dbm⟩
theorem Mc.bkDid (h : Mc w B q ps gs pb gb pf vC vH ch vs vb vm m) {xs : List Int} (hp : PileAt w' B pb gb 48 xs) (ht : Stirred w w' (foot pb gb)) : Mc w' B q ps gs pb gb pf vC vH ch vs vb vm { m with back := xs } :=
  ⟨ht.whole h.box h.dqb, h.le, h.st.touch ht (fun k hk hm => h.dsb k hk hm), hp, h.me.touch ht (fun k hk hm => h.dbm k hm hk), h.one, h.dqs, h.dqb, h.dqm, h.dsb, h.dsm, h.dbm⟩
/-- something was done to the memory -/
theorem Mc.meDid (h : Mc w B q ps gs pb gb pf vC vH ch vs vb vm m) {cs' ch' : List Int} (hp : Fld.Mem.FieldAt w' B pf vC vH' cs' ch') (ht : Stirred w w' (Fld.Mem.foot pf vC vH)) (hn : blk vH' = blk vH ∨ ∃ k, blk vH' = some k ∧ w.heap.size ≤ k) :
    Mc w' B q ps gs pb gb pf vC vH' ch' vs vb vm { m with mem := cs' } ∧ ∀ f ∈ feet q ps gs pb gb pf vC vH', f ∈ feet q ps gs pb gb pf vC vH ∨ w.heap.size ≤ f := by
  have hf : ∀ f ∈ Fld.Mem.foot pf vC vH', f ∈ Fld.Mem.foot pf vC vH ∨ w.heap.size ≤ f := by
    intro f hf
    rcases List.mem_cons.1 hf with rfl | hf
    · exact .inl List.mem_cons_self
    rcases List.mem_append.1 hf with hf | hf
    · exact .inl (List.mem_cons_of_mem _ (List.mem_append_left _ hf))
    · rcases hn with e | ⟨k, e, hk⟩
      · rw [e] at hf
        exact .inl (List.mem_cons_of_mem _ (List.mem_append_right _ hf))
      · rw [e] at hf
        simp at hf
        subst hf
        exact .inr hk
  have out : ∀ k, k < w.heap.size → k ∉ Fld.Mem.foot pf vC vH → k ∉ Fld.Mem.foot pf vC vH' := fun k hk hn' hm => by
    rcases hf k hm with e | e
    · exact hn' e
    · omega
  refine ⟨⟨ht.whole h.box h.dqm, h.le, h.st.touch ht (fun k hk hm => h.dsm k hk hm), h.bk.touch ht (fun k hk hm => h.dbm k hk hm), hp, h.one, h.dqs, h.dqb, out q (whole_lt h.box) h.dqm, h.dsb, fun k hk => out k (h.st.foot_lt k hk).2 (h.dsm k hk), fun k hk => out k (h.bk.foot_lt k hk).2 (h.dbm k hk)⟩, fun f hf' => ?_⟩
  rcases mem_feet.1 hf' with e | e | e | e
  · exact .inl (mem_feet.2 (.inl e))
  · exact .inl (mem_feet.2 (.inr (.inl e)))
  · exact .inl (mem_feet.2 (.inr (.inr (.inl e))))
  · exact (hf f e).imp (fun e => mem_feet.2 (.inr (.inr (.inr e)))) id
/-- a cell of the box is another one -/
theorem Mc.set (h : Mc w B q ps gs pb gb pf vC vH ch vs vb vm m) (j : Nat) (v : Value) (m' : M) (e : cells13 m' vs vb vm ps pb pf = (cells13 m vs vb vm ps pb pf).setIfInBounds j v) (e1 : m'.stack = m.stack) (e2 : m'.back = m.back) (e3 : m'.mem = m.mem) :
    Mc (w.setCell ⟨q, j, none⟩ v) B q ps gs pb gb pf vC vH ch vs vb vm m' := by
  have ht := Stirred.setCell w ⟨q, j, none⟩ v
  have hq : ∀ {l : List Nat}, q ∉ l → ∀ k ∈ l, k ∉ [q] := fun hl k hk hm => hl (by rw [List.mem_singleton] at hm; exact hm ▸ hk)
  refine ⟨by rw [e]; exact whole_set h.box j v, h.le, by rw [e1]; exact h.st.touch ht (hq h.dqs), by rw [e2]; exact h.bk.touch ht (hq h.dqb), by rw [e3]; exact h.me.touch ht (hq h.dqm), h.one, h.dqs, h.dqb, h.dqm, h.dsb, h.dsm, h.dbm⟩
end
/-- a machine whose blocks are these -/
def Mk (w : World) (B q : Nat) (F : List Nat) (m : M) : Prop := ∃ ps gs pb gb pf vC vH ch vs vb vm, F = feet q ps gs pb gb pf vC vH ∧ Mc w B q ps gs pb gb pf vC vH ch vs vb vm m
/-- what was done to a machine -/
def Went (w : World) (B q : Nat) (F : List Nat) (m' : M) (w' : World) : Prop := ∃ F', Mk w' B q F' m' ∧ Stirred w w' F ∧ ∀ k ∈ F', k ∈ F ∨ w.heap.size ≤ k
section
variable {w w' : World} {B q : Nat} {F : List Nat} {m m' : M}
theorem Mc.mach {ps gs pb gb pf : Nat} {vC vH : Value} {ch : List Int} {vs vb vm : Value} (h : Mc w B q ps gs pb gb pf vC vH ch vs vb vm m) : Mk w B q (feet q ps gs pb gb pf vC vH) m := ⟨ps, gs, pb, gb, pf, vC, vH, ch, vs, vb, vm, rfl, h⟩
theorem Mk.lt (h : Mk w B q F m) : ∀ k ∈ F, B ≤ k ∧ k < w.heap.size := by
  obtain ⟨ps, gs, pb, gb, pf, vC, vH, ch, vs, vb, vm, rfl, h⟩ := h
  exact h.feet_lt
theorem Mk.self (h : Mk w B q F m) : q ∈ F := by
  obtain ⟨ps, gs, pb, gb, pf, vC, vH, ch, vs, vb, vm, rfl, h⟩ := h
  exact mem_feet.2 (.inl rfl)
theorem Mk.touch (h : Mk w B q F m) {bs : List Nat} (ht : Stirred w w' bs) (hn : ∀ k ∈ F, k ∉ bs) : Mk w' B q F m := by
  obtain ⟨ps, gs, pb, gb, pf, vC, vH, ch, vs, vb, vm, rfl, h⟩ := h
  exact (h.touch ht hn).mach
theorem Mk.below (h : Mk w B q F m) (hb : Below w.heap.size w w') : Mk w' B q F m := h.touch (Stirred.of_below hb []) (fun _ _ => List.not_mem_nil)
theorem Mk.stays (h : Mk w B q F m) : Went w B q F m w := ⟨F, h, Stirred.refl _ _, fun k hk => .inl hk⟩
theorem Mk.went (h : Mk w' B q F m') (hs : Stirred w w' F) : Went w B q F m' w' := ⟨F, h, hs, fun k hk => .inl hk⟩
theorem Went.below (h : Went w B q F m' w') (hF : ∀ k ∈ F, B ≤ k) (hB : B ≤ w.heap.size) : Below B w w' := by
  obtain ⟨F', h1, h2, h3⟩ := h
  exact h2.below hF hB
theorem Went.trans {w1 : World} {m1 : M} (h : Went w B q F m1 w1) (g : ∀ F1, Mk w1 B q F1 m1 → (∀ k ∈ F1, k ∈ F ∨ w.heap.size ≤ k) → Went w1 B q F1 m' w') : Went w B q F m' w' := by
  obtain ⟨F1, h1, h2, h3⟩ := h
  obtain ⟨F2, g1, g2, g3⟩ := g F1 h1 h3
  refine ⟨F2, g1, h2.trans g2 h3, fun k hk => ?_⟩
  rcases g3 k hk with e | e
  · exact h3 k e
  · exact .inr (Nat.le_trans h2.size e)
/-- new memory alone, then something done -/
theorem Went.from {w1 : World} (hb : Below w.heap.size w w1) (g : Went w1 B q F m' w') : Went w B q F m' w' := by
  obtain ⟨F', g1, g2, g3⟩ := g
  exact ⟨F', g1, (Stirred.of_below hb F).trans g2 (fun k hk => .inl hk), fun k hk => (g3 k hk).imp id (fun e => Nat.le_trans hb.size e)⟩
end
/-- an operation that is done: its box; what it took -/
abbrev cells8 (k g at' nx : Int) (ts tb gs gb : Value) : Array Value := #[.int .i64 k, .int .i64 g, ts, tb, gs, gb, .int .i64 at', .int .i64 nx]
end Go.Proofs.YtlomfmilohbgpaaGreatDoor.Inn
