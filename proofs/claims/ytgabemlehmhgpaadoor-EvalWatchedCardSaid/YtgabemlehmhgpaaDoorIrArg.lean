
/- An api.Trace that came in. -/
import Derived.Test.YtgabemlehmhgpaaDoorIrMem
import Derived.Test.YtgabemlehmhgpaaDoorCellPlain
import Derived.Test.YtgabemlehmhgpaaDoorReadsArg
import Derived.Deep.Slices
import Derived.ProofKit
import Derived.ChangeSlices
namespace Go.Proofs.YtgabemlehmhgpaaDoor.Ir
open Go.ChangeShapes Go.WideShapes Go.ChangeAt Go.RowKit Go.Deep
set_option linter.unusedVariables false
set_option linter.unusedSimpArgs false

instance : Inhabited O := ⟨⟨0, 0, [], []⟩⟩
structure CI (x : I) : Prop where
  op : Cell.In x.1
  a : Cell.In x.2.1
  b : Cell.In x.2.2.1
  c : Cell.In x.2.2.2.1
  x : Cell.In x.2.2.2.2
/-- .. of a trace those that are asked for -/
structure CT (t : T) : Prop where
  start : Cell.In t.start
  ins : ∀ x ∈ t.ins, CI x
  cells : ∀ x ∈ t.cells, Cell.In x
set_option maxRecDepth 1000000 in
theorem cells_ints : Tryd.prog.cellsOf 24 = 1 := by kernel_rfl
set_option maxRecDepth 1000000 in
theorem cells_insv : Tryd.prog.cellsOf 22 = 1 := by kernel_rfl
set_option maxRecDepth 1000000 in
theorem cells_outs : Tryd.prog.cellsOf 23 = 1 := by kernel_rfl
set_option maxRecDepth 1000000 in
theorem cells_ins : Tryd.prog.cellsOf 42 = 5 := by kernel_rfl
set_option maxRecDepth 1000000 in
theorem cells_out : Tryd.prog.cellsOf 39 = 4 := by kernel_rfl
set_option maxRecDepth 1000000 in
theorem cells_tr : Tryd.prog.cellsOf 26 = 9 := by kernel_rfl
theorem in_wf {x : Int} (h : (Lit.int .i64 x).wf = true) : Cell.In x := by simpa [Lit.wf, Cell.In, IntKind.min, IntKind.signed, IntKind.bits] using h
theorem reads_of_trod {H : Type} {enc : TypeId × Value → H} {W : World} {k : Nat} {u : Value} {y : DataW H × List MemPlace} (h : DataW.trod enc Tryd.prog W 0 (fun _ => true) true k 24 [u] = some y) : ∃ xs, Reads W u xs ∧ ∀ x ∈ xs, Cell.In x := by
  rcases open_ints Tryd.underlying24 Tryd.underlying3 cells_int h with ⟨hcs, hx⟩ | ⟨a, len', cap', zs, hcs, _, hl, hm, hmm, hx, hcell, hwf⟩
  · simp at hcs
    subst hcs
    exact ⟨[], ⟨none, 0, rfl, fun j s h => by cases h⟩, fun x h => by cases h⟩
  · simp at hcs
    subst hcs
    simp only [if_true] at hmm
    refine ⟨zs.take len', ⟨some a, cap', by rw [List.length_take, Nat.min_eq_left (by omega)], fun j x h => ⟨a, rfl, ?_⟩⟩, fun x hx => in_wf (hwf x (List.mem_of_mem_take hx))⟩
    have hj := (List.getElem?_eq_some_iff.1 h).1
    rw [List.length_take] at hj
    rw [List.getElem?_take, if_pos (by omega)] at h
    have := hcell j (by omega)
    rw [List.getD_eq_getElem?_getD, h] at this
    exact this
set_option maxRecDepth 100000 in
theorem ins_of_trod {H : Type} {enc : TypeId × Value → H} {W : World} {k : Nat} {u : Value} {y : DataW H × List MemPlace} (h : DataW.trod enc Tryd.prog W 0 (fun _ => true) true k 22 [u] = some y) : ∃ l : List I, ReadsI W u l ∧ ∀ x ∈ l, CI x := by
  rcases open_slice Tryd.underlying22 h with ⟨hcs, hx⟩ | ⟨a, len, cap, m, n, D, Pl, hcs, _, hl, hm, hmm, hx, hi⟩
  · simp at hcs
    subst hcs
    exact ⟨[], ⟨none, 0, rfl, fun j o h => by cases h⟩, fun x h => by cases h⟩
  · simp at hcs
    subst hcs
    simp only [if_true] at hmm
    have each : ∀ i, i < len → ∃ q : I, (W.cell? (a.add (i * 5)) = some (.int .i64 q.1) ∧ W.cell? ⟨(a.add (i * 5)).block, (a.add (i * 5)).off + 1, none⟩ = some (.int .i64 q.2.1) ∧ W.cell? ⟨(a.add (i * 5)).block, (a.add (i * 5)).off + 2, none⟩ = some (.int .i64 q.2.2.1) ∧ W.cell? ⟨(a.add (i * 5)).block, (a.add (i * 5)).off + 3, none⟩ = some (.int .i64 q.2.2.2.1) ∧ W.cell? ⟨(a.add (i * 5)).block, (a.add (i * 5)).off + 4, none⟩ = some (.int .i64 q.2.2.2.2)) ∧ CI q := by
      intro i hil
      obtain ⟨cs, h1, h2⟩ := hi i (by omega)
      rw [cells_ins] at h1
      obtain ⟨_, hlen, hcell⟩ := World.cells?_some h1
      obtain ⟨ys, k, _, _, _, hyl, hg⟩ := DataW.trod_struct Tryd.underlying42 h2
      match ys, hyl, cs, hlen with
      | [y0, y1, y2, y3, y4], _, [v0, v1, v2, v3, v4], _ =>
        have g0 : DataW.trod enc Tryd.prog W 0 (fun _ => true) true k 3 [v0] = some y0 := by have := hg 0 _ rfl; simpa [cells_int] using this
        have g1 : DataW.trod enc Tryd.prog W 0 (fun _ => true) true k 3 [v1] = some y1 := by have := hg 1 _ rfl; simpa [cells_int] using this
        have g2 : DataW.trod enc Tryd.prog W 0 (fun _ => true) true k 3 [v2] = some y2 := by have := hg 2 _ rfl; simpa [cells_int] using this
        have g3 : DataW.trod enc Tryd.prog W 0 (fun _ => true) true k 3 [v3] = some y3 := by have := hg 3 _ rfl; simpa [cells_int] using this
        have g4 : DataW.trod enc Tryd.prog W 0 (fun _ => true) true k 3 [v4] = some y4 := by have := hg 4 _ rfl; simpa [cells_int] using this
        obtain ⟨z0, e0, _, f0⟩ := DataW.trod_int Tryd.underlying3 g0
        obtain ⟨z1, e1, _, f1⟩ := DataW.trod_int Tryd.underlying3 g1
        obtain ⟨z2, e2, _, f2⟩ := DataW.trod_int Tryd.underlying3 g2
        obtain ⟨z3, e3, _, f3⟩ := DataW.trod_int Tryd.underlying3 g3
        obtain ⟨z4, e4, _, f4⟩ := DataW.trod_int Tryd.underlying3 g4
        simp at e0 e1 e2 e3 e4
        subst e0; subst e1; subst e2; subst e3; subst e4
        have c0 := hcell 0 (by omega)
        have c1 := hcell 1 (by omega)
        have c2 := hcell 2 (by omega)
        have c3 := hcell 3 (by omega)
        have c4 := hcell 4 (by omega)
        exact ⟨(z0, z1, z2, z3, z4), ⟨by simpa [add_add] using c0, c1, c2, c3, c4⟩, in_wf f0, in_wf f1, in_wf f2, in_wf f3, in_wf f4⟩
    obtain ⟨q, hq⟩ := choose_lt each
    refine ⟨(List.range len).map q, ⟨some a, cap, by simp, fun j o h => ?_⟩, fun x hx => ?_⟩
    · rw [List.getElem?_map] at h
      by_cases hj : j < len
      · rw [List.getElem?_range hj] at h
        simp at h
        have := (hq j hj).1
        rw [h] at this
        exact ⟨a, rfl, this⟩
      · rw [List.getElem?_eq_none (by simp; omega)] at h
        cases h
    · obtain ⟨j, hj, rfl⟩ := List.mem_map.1 hx
      exact (hq j (by simpa using hj)).2
set_option maxRecDepth 100000 in
theorem outs_of_trod {H : Type} {enc : TypeId × Value → H} {W : World} {k : Nat} {u : Value} {y : DataW H × List MemPlace} (h : DataW.trod enc Tryd.prog W 0 (fun _ => true) true k 23 [u] = some y) : ∃ l : List O, ReadsO W u l := by
  rcases open_slice Tryd.underlying23 h with ⟨hcs, hx⟩ | ⟨a, len, cap, m, n, D, Pl, hcs, _, hl, hm, hmm, hx, hi⟩
  · simp at hcs
    subst hcs
    exact ⟨[], none, 0, rfl, fun j o h => by cases h⟩
  · simp at hcs
    subst hcs
    simp only [if_true] at hmm
    have each : ∀ i, i < len → ∃ q : O × Value × Value, W.cell? (a.add (i * 4)) = some (.int .i64 q.1.ip) ∧ W.cell? ⟨(a.add (i * 4)).block, (a.add (i * 4)).off + 1, none⟩ = some (.int .i64 q.1.steps) ∧ W.cell? ⟨(a.add (i * 4)).block, (a.add (i * 4)).off + 2, none⟩ = some q.2.1 ∧ W.cell? ⟨(a.add (i * 4)).block, (a.add (i * 4)).off + 3, none⟩ = some q.2.2 ∧ Reads W q.2.1 q.1.stack ∧ Reads W q.2.2 q.1.back := by
      intro i hil
      obtain ⟨cs, h1, h2⟩ := hi i (by omega)
      rw [cells_out] at h1
      obtain ⟨_, hlen, hcell⟩ := World.cells?_some h1
      obtain ⟨ys, k, _, _, _, hyl, hg⟩ := DataW.trod_struct Tryd.underlying39 h2
      match ys, hyl, cs, hlen with
      | [y0, y1, y2, y3], _, [v0, v1, v2, v3], _ =>
        have g0 : DataW.trod enc Tryd.prog W 0 (fun _ => true) true k 3 [v0] = some y0 := by have := hg 0 _ rfl; simpa [cells_int, cells_ints] using this
        have g1 : DataW.trod enc Tryd.prog W 0 (fun _ => true) true k 3 [v1] = some y1 := by have := hg 1 _ rfl; simpa [cells_int, cells_ints] using this
        have g2 : DataW.trod enc Tryd.prog W 0 (fun _ => true) true k 24 [v2] = some y2 := by have := hg 2 _ rfl; simpa [cells_int, cells_ints] using this
        have g3 : DataW.trod enc Tryd.prog W 0 (fun _ => true) true k 24 [v3] = some y3 := by have := hg 3 _ rfl; simpa [cells_int, cells_ints] using this
        obtain ⟨z0, e0, _, f0⟩ := DataW.trod_int Tryd.underlying3 g0
        obtain ⟨z1, e1, _, f1⟩ := DataW.trod_int Tryd.underlying3 g1
        obtain ⟨x2, r2, _⟩ := reads_of_trod g2
        obtain ⟨x3, r3, _⟩ := reads_of_trod g3
        simp at e0 e1
        subst e0; subst e1
        have c0 := hcell 0 (by omega)
        have c1 := hcell 1 (by omega)
        have c2 := hcell 2 (by omega)
        have c3 := hcell 3 (by omega)
        exact ⟨(⟨z0, z1, x2, x3⟩, v2, v3), by simpa [add_add] using c0, c1, c2, c3, r2, r3⟩
    obtain ⟨q, hq⟩ := choose_lt each
    refine ⟨(List.range len).map fun i => (q i).1, some a, cap, by simp, fun j o h => ?_⟩
    rw [List.getElem?_map] at h
    by_cases hj : j < len
    · rw [List.getElem?_range hj] at h
      simp at h
      have := hq j hj
      rw [h] at this
      exact ⟨a, (q j).2.1, (q j).2.2, rfl, this⟩
    · rw [List.getElem?_eq_none (by simp; omega)] at h
      cases h
set_option maxRecDepth 100000 in
theorem traceArgOf {H : Type} {enc : TypeId × Value → H} {W : World} {base : Nat} {v : Value} {d : DataW H} {p : List MemPlace} (hv : Value.okWide Tryd.prog W .any base 26 v) (h : DataW.Trod enc Tryd.prog W 0 (fun _ => true) true 26 v d p) : ∃ t, ReadsT W v t ∧ CT t := by
  obtain ⟨cs, rfl, hsz⟩ := okWide_struct Tryd.underlying26 hv
  obtain ⟨fuel, hf⟩ := h
  have hsz : cs.size = 9 := hsz.trans cells_tr
  obtain ⟨ys, k, _, _, _, hyl, hg⟩ := DataW.trod_struct Tryd.underlying26 hf
  match ys, hyl, cs, hsz with
  | [y0, y1, y2, y3, y4, y5, y6, y7, y8], _, ⟨[c0, c1, c2, c3, c4, c5, c6, c7, c8]⟩, _ =>
    have g0 : DataW.trod enc Tryd.prog W 0 (fun _ => true) true k 3 [c0] = some y0 := by have := hg 0 _ rfl; simpa [cells_int, cells_ints, cells_insv, cells_outs, Value.cells] using this
    have g1 : DataW.trod enc Tryd.prog W 0 (fun _ => true) true k 3 [c1] = some y1 := by have := hg 1 _ rfl; simpa [cells_int, cells_ints, cells_insv, cells_outs, Value.cells] using this
    have g2 : DataW.trod enc Tryd.prog W 0 (fun _ => true) true k 3 [c2] = some y2 := by have := hg 2 _ rfl; simpa [cells_int, cells_ints, cells_insv, cells_outs, Value.cells] using this
    have g3 : DataW.trod enc Tryd.prog W 0 (fun _ => true) true k 3 [c3] = some y3 := by have := hg 3 _ rfl; simpa [cells_int, cells_ints, cells_insv, cells_outs, Value.cells] using this
    have g4 : DataW.trod enc Tryd.prog W 0 (fun _ => true) true k 3 [c4] = some y4 := by have := hg 4 _ rfl; simpa [cells_int, cells_ints, cells_insv, cells_outs, Value.cells] using this
    have g5 : DataW.trod enc Tryd.prog W 0 (fun _ => true) true k 22 [c5] = some y5 := by have := hg 5 _ rfl; simpa [cells_int, cells_ints, cells_insv, cells_outs, Value.cells] using this
    have g6 : DataW.trod enc Tryd.prog W 0 (fun _ => true) true k 23 [c6] = some y6 := by have := hg 6 _ rfl; simpa [cells_int, cells_ints, cells_insv, cells_outs, Value.cells] using this
    have g7 : DataW.trod enc Tryd.prog W 0 (fun _ => true) true k 3 [c7] = some y7 := by have := hg 7 _ rfl; simpa [cells_int, cells_ints, cells_insv, cells_outs, Value.cells] using this
    have g8 : DataW.trod enc Tryd.prog W 0 (fun _ => true) true k 24 [c8] = some y8 := by have := hg 8 _ rfl; simpa [cells_int, cells_ints, cells_insv, cells_outs, Value.cells] using this
    obtain ⟨z0, e0, _, f0⟩ := DataW.trod_int Tryd.underlying3 g0
    obtain ⟨z1, e1, _, f1⟩ := DataW.trod_int Tryd.underlying3 g1
    obtain ⟨z2, e2, _, f2⟩ := DataW.trod_int Tryd.underlying3 g2
    obtain ⟨z3, e3, _, f3⟩ := DataW.trod_int Tryd.underlying3 g3
    obtain ⟨z4, e4, _, f4⟩ := DataW.trod_int Tryd.underlying3 g4
    obtain ⟨z7, e7, _, f7⟩ := DataW.trod_int Tryd.underlying3 g7
    obtain ⟨x5, r5, n5⟩ := ins_of_trod g5
    obtain ⟨x6, r6⟩ := outs_of_trod g6
    obtain ⟨x8, r8, n8⟩ := reads_of_trod g8
    simp at e0 e1 e2 e3 e4 e7
    subst e0; subst e1; subst e2; subst e3; subst e4; subst e7
    exact ⟨⟨z0, z1, z2, z3, z4, x5, x6, z7, x8⟩, ⟨c5, c6, c8, rfl, r5, r6, r8⟩, in_wf f0, n5, n8⟩
end Go.Proofs.YtgabemlehmhgpaaDoor.Ir
