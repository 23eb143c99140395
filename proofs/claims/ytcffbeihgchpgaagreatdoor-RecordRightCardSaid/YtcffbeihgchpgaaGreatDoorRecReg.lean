
/- A region that draws its order and makes and fills a step's box: one step each. -/
import Derived.Test.YtcffbeihgchpgaaGreatDoorRecRight
import Derived.Deep.RegionHeld3
import Derived.Deep.DeepCutAuto
namespace Go.Proofs.YtcffbeihgchpgaaGreatDoor.Rec
open Go.RowKit Book Mem Mach Inn
set_option linter.unusedVariables false
set_option linter.unusedSimpArgs false
theorem seen_size : (Tryz.prog.info? 55).map (·.size) = some 4 := by kernel_rfl
theorem int_size : (Tryz.prog.info? 3).map (·.size) = some 1 := by kernel_rfl
theorem cells_ten {w : World} {g : Nat} {ip hn : Int} {vs vb vm : Value} {ou inn : ByteArray} {rd stt cd : Int} (h : w.heap[g]? = some (.cells (cells10 ip hn vs vb vm ou inn rd stt cd) 24 (0, 0))) : w.cell? ⟨g, 0, none⟩ = some (.int .i64 ip) ∧ w.cell? ⟨g, 1, none⟩ = some (.int .i64 hn) ∧ w.cell? ⟨g, 2, none⟩ = some vs ∧ w.cell? ⟨g, 3, none⟩ = some vb ∧ w.cell? ⟨g, 4, none⟩ = some vm ∧ w.cell? ⟨g, 5, none⟩ = some (.string ou) ∧ w.cell? ⟨g, 6, none⟩ = some (.string inn) ∧ w.cell? ⟨g, 7, none⟩ = some (.int .i64 rd) ∧ w.cell? ⟨g, 8, none⟩ = some (.int .i64 stt) ∧ w.cell? ⟨g, 9, none⟩ = some (.int .i64 cd) :=
  ⟨whole_cell h rfl, whole_cell h rfl, whole_cell h rfl, whole_cell h rfl, whole_cell h rfl, whole_cell h rfl, whole_cell h rfl, whole_cell h rfl, whole_cell h rfl, whole_cell h rfl⟩
section
variable {ops : Array Oper} {o : Oper} {a : Act} {w : World} {K : Act → World → Prop} {Q : Exit → Act → World → Prop} {F : Prop}
theorem step_alloc_seen (d : Tmp) (hw : Region.wanted o (yielded ops a.tmps) = true) (ho : o.op = .alloc 55) (hd : o.dst = some d)
    (h : ∀ g w', w.heap.size = g → w'.heap[g]? = some (.cells (seenA (0, 0, 0, 0)) 55 (0, 0)) → Below w.heap.size w w' → K (a.put (some d) (.pointer (some ⟨g, 0, none⟩))) w') : if Region.wanted o (yielded ops a.tmps) = true then o.wp Tryz.prog a w K Q else F := by
  rw [if_pos hw]
  have hk := h w.heap.size (w.alloc (.cells (seenA (0, 0, 0, 0)) 55)) rfl (heap_alloc_new w _) ((Below.refl w.heap.size w).alloc (Nat.le_refl _) _)
  rw [← hd] at hk
  obtain ⟨dst, op, ty, pos, after, guard⟩ := o
  simp only at ho hk ⊢
  subst ho
  clear h hw
  generalize hw' : w.alloc (.cells (seenA (0, 0, 0, 0)) 55) = w' at hk
  go_simp
  exact hk
theorem step_st_seen (hw : Region.wanted o (yielded ops a.tmps) = true) (hd : o.dst = none) (x y : Operand) (ho : o.op = .store 55 x y) (g : Nat) (s : S) (hx : a.eval x = .pointer (some ⟨g, 0, none⟩)) (hy : a.eval y = seenV s) (old : Array Value) (hg : w.heap[g]? = some (.cells old 55 (0, 0))) (hold : old.size = 4)
    (h : ∀ w', w'.heap[g]? = some (.cells (seenA s) 55 (0, 0)) → Stirred w w' [g] → K a w') : if Region.wanted o (yielded ops a.tmps) = true then o.wp Tryz.prog a w K Q else F := by
  rw [if_pos hw]
  have hk := h _ (setRow_heap w g old (seenA s) 55 (0, 0) hg) (Stirred.setRow w g (seenA s))
  have hk : K (a.put o.dst undef) (w.setRow g (seenA s)) := by rw [hd]; exact hk
  exact wp_store_row 55 x y ho g (seenA s) hx hy 55 old hg seen_size (by rw [hold]; rfl) (by simp [seenA, Value.oneCell']) hk
end
section
variable {ops : Array Oper} {rest : List Oper} {o : Oper} {a : Act} {w : World} {Q : Exit → Act → World → Prop}
theorem ld_seen (hw : Region.wanted o (yielded ops a.tmps) = true) (x : Operand) (ho : o.op = .load 55 x) (g : Nat) (hx : a.eval x = .pointer (some ⟨g, 0, none⟩)) (s : S) (hg : w.heap[g]? = some (.cells (seenA s) 55 (0, 0)))
    (h : wpList Tryz.prog ops Q rest (a.put o.dst (seenV s)) w) : wpList Tryz.prog ops Q (o :: rest) a w :=
  wpList_getbox hw _ x ho _ Tryz.underlying55 rfl g hx (seenA s) _ hg seen_size h
theorem st_seen (hw : Region.wanted o (yielded ops a.tmps) = true) (x y : Operand) (ho : o.op = .store 55 x y) (g : Nat) (s : S) (hx : a.eval x = .pointer (some ⟨g, 0, none⟩)) (hy : a.eval y = seenV s) (old : Array Value) (hg : w.heap[g]? = some (.cells old 55 (0, 0))) (hold : old.size = 4)
    (h : ∀ w', w'.heap[g]? = some (.cells (seenA s) 55 (0, 0)) → Stirred w w' [g] → wpList Tryz.prog ops Q rest (a.put o.dst undef) w') : wpList Tryz.prog ops Q (o :: rest) a w :=
  wpList_setbox hw _ x y ho g (seenA s) hx hy old _ hg seen_size (by rw [hold]; rfl) (by simp [seenA, Value.oneCell']) h
/-- one number of a step's box is written -/
theorem st_seen_f (hw : Region.wanted o (yielded ops a.tmps) = true) (x y : Operand) (ho : o.op = .store 3 x y) (g j : Nat) (hx : a.eval x = .pointer (some ⟨g, j, none⟩)) (v : Int) (hy : a.eval y = .int .i64 v) (s s' : S) (hg : w.heap[g]? = some (.cells (seenA s) 55 (0, 0))) (hj : j < 4) (hs : (seenA s).setIfInBounds j (.int .i64 v) = seenA s')
    (h : ∀ w', w'.heap[g]? = some (.cells (seenA s') 55 (0, 0)) → Stirred w w' [g] → wpList Tryz.prog ops Q rest (a.put o.dst undef) w') : wpList Tryz.prog ops Q (o :: rest) a w :=
  wpList_setf hw _ x y ho int_size g j hx (.int .i64 v) hy rfl (seenA s) _ hg hj (by rw [hs]; exact h)
end
end Go.Proofs.YtcffbeihgchpgaaGreatDoor.Rec
