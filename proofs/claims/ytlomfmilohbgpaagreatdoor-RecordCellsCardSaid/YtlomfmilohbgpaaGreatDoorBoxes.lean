
/- Boxes: laws for the walk at blocks of many cells; the worlds behind them are letters with facts. No program in sight. -/
import Derived.Test.YtlomfmilohbgpaaGreatDoorBookPlain
import Derived.Great.BuildSlice
import Derived.Laws.Rows
import Derived.Laws.CopyRow
namespace Go.Proofs.YtlomfmilohbgpaaGreatDoor.Book
open Go.RowKit
set_option linter.unusedVariables false
theorem Stirred.setRow (w : World) (g : Nat) (cs : Array Value) : Stirred w (w.setRow g cs) [g] :=
  ⟨rfl, rfl, rfl, by simp [World.setRow], fun k hk hn => setRow_other w g k cs (fun e => hn (by rw [e]; exact List.mem_singleton_self _))⟩
section
variable {P : Program} {ops : Array Oper} {rest : List Oper} {o : Oper} {a : Act} {w : World} {Q : Exit → Act → World → Prop}
/-- is a type's value one of many cells? -/
def many : TypeDesc → Bool
  | .struct _ => true
  | .array _ _ => true
  | _ => false
theorem run_isAgg {ty : TypeId} {d : TypeDesc} (hu : P.underlying ty = some d) (w : World) : (isAgg ty).run P w = .ok (many d) w := by
  unfold isAgg
  rw [Sem.run_bind, run_underlying hu w]
  cases d <;> rfl
/-- a cell is read -/
theorem wpList_getf (hw : Region.wanted o (yielded ops a.tmps) = true) (ty : TypeId) (x : Operand) (ho : o.op = .load ty x) (d : TypeDesc) (hu : P.underlying ty = some d) (hd : many d = false)
    (ad : Addr) (hx : a.eval x = .pointer (some ad)) (v : Value) (hc : w.cell? ad = some v) (h : wpList P ops Q rest (a.put o.dst v) w) : wpList P ops Q (o :: rest) a w := by
  refine wpList_step fun K hK => ?_
  rw [if_pos hw]
  have hl : (loadVar ty ad).run P w = .ok v w := by
    simp [loadVar, run_isAgg hu, hd, hc]
  unfold Oper.wp execOp
  simp only [ho, hx, Instr.loadAt, Instr.sureAddr, Sem.run_bind, Sem.run_pure, Result.andThen_ok, hl]
  exact hK _ _ h
/-- a cell of a box is written -/
theorem wpList_setf (hw : Region.wanted o (yielded ops a.tmps) = true) (ty : TypeId) (x y : Operand) (ho : o.op = .store ty x y) (hi : (P.info? ty).map (·.size) = some 1)
    (g j : Nat) (hx : a.eval x = .pointer (some ⟨g, j, none⟩)) (v : Value) (hy : a.eval y = v) (h1 : v.oneCell' = true) (cs : Array Value) (T : TypeId) (hg : w.heap[g]? = some (.cells cs T (0, 0))) (hj : j < cs.size)
    (h : ∀ w', w'.heap[g]? = some (.cells (cs.setIfInBounds j v) T (0, 0)) → Stirred w w' [g] → wpList P ops Q rest (a.put o.dst undef) w') : wpList P ops Q (o :: rest) a w := by
  refine wpList_step fun K hK => ?_
  rw [if_pos hw]
  have hc : v.cells = #[v] := by cases v <;> first | rfl | cases h1
  have hcell : w.cell? ⟨g, j, none⟩ = some cs[j] := whole_cell hg (by simp [hj])
  have hfro : w.frozen? ⟨g, j, none⟩ = false := whole_frozen hg j
  have hs : (storeVar ty ⟨g, j, none⟩ v).run P w = .ok () (w.setCell ⟨g, j, none⟩ v) := by
    have := run_storeCells_at (P := P) g j T [v] 0 cs w hg (by simp; omega) (fun u hu => by simp at hu; subst hu; exact h1)
    cases hq : P.info? ty with
    | none => simp [hq] at hi
    | some i =>
      have hs : i.size = 1 := by simpa [hq] using hi
      have hadd : (⟨g, j, none⟩ : Addr).add 0 = ⟨g, j, none⟩ := by simp [Addr.add]
      simp [storeVar, sizeOf, typeInfo, hq, hc, hs, storeCells, hadd, run_store P w ⟨g, j, none⟩ v _ h1, hcell, hfro]
  unfold Oper.wp execOp
  simp only [ho, hx, hy, Instr.storeAt, Instr.sureAddr, Sem.run_bind, Sem.run_pure, Result.andThen_ok, hs]
  exact hK _ _ (h _ (whole_set hg j v) (Stirred.setCell w ⟨g, j, none⟩ v))
/-- a box is read whole -/
theorem wpList_getbox (hw : Region.wanted o (yielded ops a.tmps) = true) (ty : TypeId) (x : Operand) (ho : o.op = .load ty x) (d : TypeDesc) (hu : P.underlying ty = some d) (hd : (match d with | .struct _ | .array _ _ => true | _ => false) = true)
    (g : Nat) (hx : a.eval x = .pointer (some ⟨g, 0, none⟩)) (cs : Array Value) (T : TypeId) (hg : w.heap[g]? = some (.cells cs T (0, 0))) (hi : (P.info? ty).map (·.size) = some cs.size)
    (h : wpList P ops Q rest (a.put o.dst (.agg cs)) w) : wpList P ops Q (o :: rest) a w := by
  refine wpList_step fun K hK => ?_
  rw [if_pos hw]
  exact wp_load_row ty x ho g hx T cs (0, 0) d hg hu hd hi (hK _ _ h)
/-- a box is written whole -/
theorem wpList_setbox (hw : Region.wanted o (yielded ops a.tmps) = true) (ty : TypeId) (x y : Operand) (ho : o.op = .store ty x y)
    (g : Nat) (cells : Array Value) (hx : a.eval x = .pointer (some ⟨g, 0, none⟩)) (hy : a.eval y = .agg cells) (old : Array Value) (T : TypeId) (hg : w.heap[g]? = some (.cells old T (0, 0))) (hi : (P.info? ty).map (·.size) = some cells.size)
    (hold : old.size = cells.size) (h1 : cells.all (·.oneCell') = true)
    (h : ∀ w', w'.heap[g]? = some (.cells cells T (0, 0)) → Stirred w w' [g] → wpList P ops Q rest (a.put o.dst undef) w') : wpList P ops Q (o :: rest) a w := by
  refine wpList_step fun K hK => ?_
  rw [if_pos hw]
  exact wp_store_row ty x y ho g cells hx hy T old hg hi hold h1 (hK _ _ (h _ (setRow_heap w g old cells T (0, 0) hg) (Stirred.setRow w g cells)))
/-- a slice literal of numbers -/
theorem wpList_lit (hw : Region.wanted o (yielded ops a.tmps) = true) (t E : TypeId) (len : Nat) (parts : Array (Nat × Operand)) (ho : o.op = .buildSlice t len parts) (xs : List Int) (ie : TypeInfo)
    (hu : P.underlying t = some (.slice E)) (hie : P.info? E = some ie) (hz : ie.zero = some (.int .i64 0)) (hsz : ie.size = 1) (hsmall : xs.length ≤ 1000000) (hpos : 0 < xs.length) (hsc : len = xs.length)
    (hf : (parts.toList.map fun x => (x.1, a.eval x.2)) = ((xs.map (Value.int .i64)).zipIdx 0).map fun x => (x.2, x.1))
    (h : ∀ g w', w.heap.size ≤ g → Owns w' w.heap.size E (.slice (some ⟨g, 0, none⟩) len len) (xs.map (Value.int .i64)) → Below w.heap.size w w' → wpList P ops Q rest (a.put o.dst (.slice (some ⟨g, 0, none⟩) len len)) w') : wpList P ops Q (o :: rest) a w := by
  subst hsc
  refine wpList_step fun K hK => ?_
  rw [if_pos hw]
  have hn : (xs.map (Value.int .i64)).length = xs.length := List.length_map _
  refine wp_buildSlice t E xs.length parts ho (xs.map (Value.int .i64)).toArray ie (.int .i64 0) hu hie hz (by rw [hsz]; omega) (by rw [hsz]; omega) ?_ ?_
  · have hf' : (parts.map fun (i, x) => (i, a.eval x)).toList = ((xs.map (Value.int .i64)).zipIdx 0).map fun x => (x.2, x.1) := by
      rw [Array.toList_map]
      exact hf
    rw [hsz, hf']
    exact Great.fill_flat _ _ (fun v hv => by obtain ⟨n, _, rfl⟩ := List.mem_map.1 hv; rfl) (by simp)
  · refine hK _ _ (h _ _ (Nat.le_refl _) (.inr ⟨w.heap.size, xs.length, (xs.map (Value.int .i64)).toArray, by rw [hn], hpos, Nat.le_refl _, heap_alloc_new w _, by rw [hn]; exact Nat.le_refl _, by unfold maxLen; omega, by simp, ?_⟩) ((Below.refl w.heap.size w).alloc (Nat.le_refl _) _))
    exact List.take_length
end
end Go.Proofs.YtlomfmilohbgpaaGreatDoor.Book
