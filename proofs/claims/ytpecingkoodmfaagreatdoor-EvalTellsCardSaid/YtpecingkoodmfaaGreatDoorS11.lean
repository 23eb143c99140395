/- An api.Trace that came in. -/
import Derived.Test.YtpecingkoodmfaaGreatDoorS3
import Derived.Test.YtpecingkoodmfaaGreatDoorS10
import Derived.Deep.Slices
import Derived.ProofKit
import Derived.ChangeSlices
import Derived.Test.YtpecingkoodmfaaGreatDoorS8
import Derived.Deep.RegionHeld3
import Derived.Test.YtpecingkoodmfaaGreatDoorS9
import Derived.Test.YtpecingkoodmfaaGreatDoorS6
import Derived.Test.YtpecingkoodmfaaGreatDoorS4
import Derived.Laws.MakeOwn
import Derived.Laws.OwnMore
import Derived.Deep.LoopGhost
namespace Go.Proofs.YtpecingkoodmfaaGreatDoor.Ir
open Go.ChangeShapes Go.WideShapes Go.ChangeAt Go.RowKit Go.Deep
set_option linter.unusedVariables false
set_option linter.unusedSimpArgs false

instance : Inhabited O := ⟨⟨0, 0, [], []⟩⟩
structure CI (x : I) : Prop where
  op : Cell.In x.1
  a : Cell.In x.2.1
  b : Cell.In x.2.2.1
  c : Cell.In x.2.2.2.1
  x : Cell.In x.2.2.2.2
/-- .. of a trace those that are asked for -/
structure CT (t : T) : Prop where
  start : Cell.In t.start
  ins : ∀ x ∈ t.ins, CI x
  cells : ∀ x ∈ t.cells, Cell.In x
set_option maxRecDepth 1000000 in
theorem cells_ints : Tryz.prog.cellsOf 24 = 1 := by kernel_rfl
set_option maxRecDepth 1000000 in
theorem cells_insv : Tryz.prog.cellsOf 22 = 1 := by kernel_rfl
set_option maxRecDepth 1000000 in
theorem cells_outs : Tryz.prog.cellsOf 23 = 1 := by kernel_rfl
set_option maxRecDepth 1000000 in
theorem cells_ins : Tryz.prog.cellsOf 42 = 5 := by kernel_rfl
set_option maxRecDepth 1000000 in
theorem cells_out : Tryz.prog.cellsOf 58 = 4 := by kernel_rfl
set_option maxRecDepth 1000000 in
theorem cells_tr : Tryz.prog.cellsOf 26 = 9 := by kernel_rfl
theorem in_wf {x : Int} (h : (Lit.int .i64 x).wf = true) : Cell.In x := by simpa [Lit.wf, Cell.In, IntKind.min, IntKind.signed, IntKind.bits] using h
theorem reads_of_trod {H : Type} {enc : TypeId × Value → H} {W : World} {k : Nat} {u : Value} {y : DataW H × List MemPlace} (h : DataW.trod enc Tryz.prog W 0 (fun _ => true) true k 24 [u] = some y) : ∃ xs, Reads W u xs ∧ ∀ x ∈ xs, Cell.In x := by
  rcases open_ints Tryz.underlying24 Tryz.underlying3 cells_int h with ⟨hcs, hx⟩ | ⟨a, len', cap', zs, hcs, _, hl, hm, hmm, hx, hcell, hwf⟩
  · simp at hcs
    subst hcs
    exact ⟨[], ⟨none, 0, rfl, fun j s h => by cases h⟩, fun x h => by cases h⟩
  · simp at hcs
    subst hcs
    simp only [if_true] at hmm
    refine ⟨zs.take len', ⟨some a, cap', by rw [List.length_take, Nat.min_eq_left (by omega)], fun j x h => ⟨a, rfl, ?_⟩⟩, fun x hx => in_wf (hwf x (List.mem_of_mem_take hx))⟩
    have hj := (List.getElem?_eq_some_iff.1 h).1
    rw [List.length_take] at hj
    rw [List.getElem?_take, if_pos (by omega)] at h
    have := hcell j (by omega)
    rw [List.getD_eq_getElem?_getD, h] at this
    exact this
set_option maxRecDepth 100000 in
theorem ins_of_trod {H : Type} {enc : TypeId × Value → H} {W : World} {k : Nat} {u : Value} {y : DataW H × List MemPlace} (h : DataW.trod enc Tryz.prog W 0 (fun _ => true) true k 22 [u] = some y) : ∃ l : List I, ReadsI W u l ∧ ∀ x ∈ l, CI x := by
  rcases open_slice Tryz.underlying22 h with ⟨hcs, hx⟩ | ⟨a, len, cap, m, n, D, Pl, hcs, _, hl, hm, hmm, hx, hi⟩
  · simp at hcs
    subst hcs
    exact ⟨[], ⟨none, 0, rfl, fun j o h => by cases h⟩, fun x h => by cases h⟩
  · simp at hcs
    subst hcs
    simp only [if_true] at hmm
    have each : ∀ i, i < len → ∃ q : I, (W.cell? (a.add (i * 5)) = some (.int .i64 q.1) ∧ W.cell? ⟨(a.add (i * 5)).block, (a.add (i * 5)).off + 1, none⟩ = some (.int .i64 q.2.1) ∧ W.cell? ⟨(a.add (i * 5)).block, (a.add (i * 5)).off + 2, none⟩ = some (.int .i64 q.2.2.1) ∧ W.cell? ⟨(a.add (i * 5)).block, (a.add (i * 5)).off + 3, none⟩ = some (.int .i64 q.2.2.2.1) ∧ W.cell? ⟨(a.add (i * 5)).block, (a.add (i * 5)).off + 4, none⟩ = some (.int .i64 q.2.2.2.2)) ∧ CI q := by
      intro i hil
      obtain ⟨cs, h1, h2⟩ := hi i (by omega)
      rw [cells_ins] at h1
      obtain ⟨_, hlen, hcell⟩ := World.cells?_some h1
      obtain ⟨ys, k, _, _, _, hyl, hg⟩ := DataW.trod_struct Tryz.underlying42 h2
      match ys, hyl, cs, hlen with
      | [y0, y1, y2, y3, y4], _, [v0, v1, v2, v3, v4], _ =>
        have g0 : DataW.trod enc Tryz.prog W 0 (fun _ => true) true k 3 [v0] = some y0 := by have := hg 0 _ rfl; simpa [cells_int] using this
        have g1 : DataW.trod enc Tryz.prog W 0 (fun _ => true) true k 3 [v1] = some y1 := by have := hg 1 _ rfl; simpa [cells_int] using this
        have g2 : DataW.trod enc Tryz.prog W 0 (fun _ => true) true k 3 [v2] = some y2 := by have := hg 2 _ rfl; simpa [cells_int] using this
        have g3 : DataW.trod enc Tryz.prog W 0 (fun _ => true) true k 3 [v3] = some y3 := by have := hg 3 _ rfl; simpa [cells_int] using this
        have g4 : DataW.trod enc Tryz.prog W 0 (fun _ => true) true k 3 [v4] = some y4 := by have := hg 4 _ rfl; simpa [cells_int] using this
        obtain ⟨z0, e0, _, f0⟩ := DataW.trod_int Tryz.underlying3 g0
        obtain ⟨z1, e1, _, f1⟩ := DataW.trod_int Tryz.underlying3 g1
        obtain ⟨z2, e2, _, f2⟩ := DataW.trod_int Tryz.underlying3 g2
        obtain ⟨z3, e3, _, f3⟩ := DataW.trod_int Tryz.underlying3 g3
        obtain ⟨z4, e4, _, f4⟩ := DataW.trod_int Tryz.underlying3 g4
        simp at e0 e1 e2 e3 e4
        subst e0; subst e1; subst e2; subst e3; subst e4
        have c0 := hcell 0 (by omega)
        have c1 := hcell 1 (by omega)
        have c2 := hcell 2 (by omega)
        have c3 := hcell 3 (by omega)
        have c4 := hcell 4 (by omega)
        exact ⟨(z0, z1, z2, z3, z4), ⟨by simpa [add_add] using c0, c1, c2, c3, c4⟩, in_wf f0, in_wf f1, in_wf f2, in_wf f3, in_wf f4⟩
    obtain ⟨q, hq⟩ := choose_lt each
    refine ⟨(List.range len).map q, ⟨some a, cap, by simp, fun j o h => ?_⟩, fun x hx => ?_⟩
    · rw [List.getElem?_map] at h
      by_cases hj : j < len
      · rw [List.getElem?_range hj] at h
        simp at h
        have := (hq j hj).1
        rw [h] at this
        exact ⟨a, rfl, this⟩
      · rw [List.getElem?_eq_none (by simp; omega)] at h
        cases h
    · obtain ⟨j, hj, rfl⟩ := List.mem_map.1 hx
      exact (hq j (by simpa using hj)).2
set_option maxRecDepth 100000 in
theorem outs_of_trod {H : Type} {enc : TypeId × Value → H} {W : World} {k : Nat} {u : Value} {y : DataW H × List MemPlace} (h : DataW.trod enc Tryz.prog W 0 (fun _ => true) true k 23 [u] = some y) : ∃ l : List O, ReadsO W u l := by
  rcases open_slice Tryz.underlying23 h with ⟨hcs, hx⟩ | ⟨a, len, cap, m, n, D, Pl, hcs, _, hl, hm, hmm, hx, hi⟩
  · simp at hcs
    subst hcs
    exact ⟨[], none, 0, rfl, fun j o h => by cases h⟩
  · simp at hcs
    subst hcs
    simp only [if_true] at hmm
    have each : ∀ i, i < len → ∃ q : O × Value × Value, W.cell? (a.add (i * 4)) = some (.int .i64 q.1.ip) ∧ W.cell? ⟨(a.add (i * 4)).block, (a.add (i * 4)).off + 1, none⟩ = some (.int .i64 q.1.steps) ∧ W.cell? ⟨(a.add (i * 4)).block, (a.add (i * 4)).off + 2, none⟩ = some q.2.1 ∧ W.cell? ⟨(a.add (i * 4)).block, (a.add (i * 4)).off + 3, none⟩ = some q.2.2 ∧ Reads W q.2.1 q.1.stack ∧ Reads W q.2.2 q.1.back := by
      intro i hil
      obtain ⟨cs, h1, h2⟩ := hi i (by omega)
      rw [cells_out] at h1
      obtain ⟨_, hlen, hcell⟩ := World.cells?_some h1
      obtain ⟨ys, k, _, _, _, hyl, hg⟩ := DataW.trod_struct Tryz.underlying58 h2
      match ys, hyl, cs, hlen with
      | [y0, y1, y2, y3], _, [v0, v1, v2, v3], _ =>
        have g0 : DataW.trod enc Tryz.prog W 0 (fun _ => true) true k 3 [v0] = some y0 := by have := hg 0 _ rfl; simpa [cells_int, cells_ints] using this
        have g1 : DataW.trod enc Tryz.prog W 0 (fun _ => true) true k 3 [v1] = some y1 := by have := hg 1 _ rfl; simpa [cells_int, cells_ints] using this
        have g2 : DataW.trod enc Tryz.prog W 0 (fun _ => true) true k 24 [v2] = some y2 := by have := hg 2 _ rfl; simpa [cells_int, cells_ints] using this
        have g3 : DataW.trod enc Tryz.prog W 0 (fun _ => true) true k 24 [v3] = some y3 := by have := hg 3 _ rfl; simpa [cells_int, cells_ints] using this
        obtain ⟨z0, e0, _, f0⟩ := DataW.trod_int Tryz.underlying3 g0
        obtain ⟨z1, e1, _, f1⟩ := DataW.trod_int Tryz.underlying3 g1
        obtain ⟨x2, r2, _⟩ := reads_of_trod g2
        obtain ⟨x3, r3, _⟩ := reads_of_trod g3
        simp at e0 e1
        subst e0; subst e1
        have c0 := hcell 0 (by omega)
        have c1 := hcell 1 (by omega)
        have c2 := hcell 2 (by omega)
        have c3 := hcell 3 (by omega)
        exact ⟨(⟨z0, z1, x2, x3⟩, v2, v3), by simpa [add_add] using c0, c1, c2, c3, r2, r3⟩
    obtain ⟨q, hq⟩ := choose_lt each
    refine ⟨(List.range len).map fun i => (q i).1, some a, cap, by simp, fun j o h => ?_⟩
    rw [List.getElem?_map] at h
    by_cases hj : j < len
    · rw [List.getElem?_range hj] at h
      simp at h
      have := hq j hj
      rw [h] at this
      exact ⟨a, (q j).2.1, (q j).2.2, rfl, this⟩
    · rw [List.getElem?_eq_none (by simp; omega)] at h
      cases h
set_option maxRecDepth 100000 in
theorem traceArgOf {H : Type} {enc : TypeId × Value → H} {W : World} {base : Nat} {v : Value} {d : DataW H} {p : List MemPlace} (hv : Value.okWide Tryz.prog W .any base 26 v) (h : DataW.Trod enc Tryz.prog W 0 (fun _ => true) true 26 v d p) : ∃ t, ReadsT W v t ∧ CT t := by
  obtain ⟨cs, rfl, hsz⟩ := okWide_struct Tryz.underlying26 hv
  obtain ⟨fuel, hf⟩ := h
  have hsz : cs.size = 9 := hsz.trans cells_tr
  obtain ⟨ys, k, _, _, _, hyl, hg⟩ := DataW.trod_struct Tryz.underlying26 hf
  match ys, hyl, cs, hsz with
  | [y0, y1, y2, y3, y4, y5, y6, y7, y8], _, ⟨[c0, c1, c2, c3, c4, c5, c6, c7, c8]⟩, _ =>
    have g0 : DataW.trod enc Tryz.prog W 0 (fun _ => true) true k 3 [c0] = some y0 := by have := hg 0 _ rfl; simpa [cells_int, cells_ints, cells_insv, cells_outs, Value.cells] using this
    have g1 : DataW.trod enc Tryz.prog W 0 (fun _ => true) true k 3 [c1] = some y1 := by have := hg 1 _ rfl; simpa [cells_int, cells_ints, cells_insv, cells_outs, Value.cells] using this
    have g2 : DataW.trod enc Tryz.prog W 0 (fun _ => true) true k 3 [c2] = some y2 := by have := hg 2 _ rfl; simpa [cells_int, cells_ints, cells_insv, cells_outs, Value.cells] using this
    have g3 : DataW.trod enc Tryz.prog W 0 (fun _ => true) true k 3 [c3] = some y3 := by have := hg 3 _ rfl; simpa [cells_int, cells_ints, cells_insv, cells_outs, Value.cells] using this
    have g4 : DataW.trod enc Tryz.prog W 0 (fun _ => true) true k 3 [c4] = some y4 := by have := hg 4 _ rfl; simpa [cells_int, cells_ints, cells_insv, cells_outs, Value.cells] using this
    have g5 : DataW.trod enc Tryz.prog W 0 (fun _ => true) true k 22 [c5] = some y5 := by have := hg 5 _ rfl; simpa [cells_int, cells_ints, cells_insv, cells_outs, Value.cells] using this
    have g6 : DataW.trod enc Tryz.prog W 0 (fun _ => true) true k 23 [c6] = some y6 := by have := hg 6 _ rfl; simpa [cells_int, cells_ints, cells_insv, cells_outs, Value.cells] using this
    have g7 : DataW.trod enc Tryz.prog W 0 (fun _ => true) true k 3 [c7] = some y7 := by have := hg 7 _ rfl; simpa [cells_int, cells_ints, cells_insv, cells_outs, Value.cells] using this
    have g8 : DataW.trod enc Tryz.prog W 0 (fun _ => true) true k 24 [c8] = some y8 := by have := hg 8 _ rfl; simpa [cells_int, cells_ints, cells_insv, cells_outs, Value.cells] using this
    obtain ⟨z0, e0, _, f0⟩ := DataW.trod_int Tryz.underlying3 g0
    obtain ⟨z1, e1, _, f1⟩ := DataW.trod_int Tryz.underlying3 g1
    obtain ⟨z2, e2, _, f2⟩ := DataW.trod_int Tryz.underlying3 g2
    obtain ⟨z3, e3, _, f3⟩ := DataW.trod_int Tryz.underlying3 g3
    obtain ⟨z4, e4, _, f4⟩ := DataW.trod_int Tryz.underlying3 g4
    obtain ⟨z7, e7, _, f7⟩ := DataW.trod_int Tryz.underlying3 g7
    obtain ⟨x5, r5, n5⟩ := ins_of_trod g5
    obtain ⟨x6, r6⟩ := outs_of_trod g6
    obtain ⟨x8, r8, n8⟩ := reads_of_trod g8
    simp at e0 e1 e2 e3 e4 e7
    subst e0; subst e1; subst e2; subst e3; subst e4; subst e7
    exact ⟨⟨z0, z1, z2, z3, z4, x5, x6, z7, x8⟩, ⟨c5, c6, c8, rfl, r5, r6, r8⟩, in_wf f0, n5, n8⟩
end Go.Proofs.YtpecingkoodmfaaGreatDoor.Ir
/- Every value of a run is a cell's. -/
namespace Go.Proofs.YtpecingkoodmfaaGreatDoor.Ev
open Ir (T I O CI CT)
open Mach (M less)
open Go.Proofs.YtpecingkoodmfaaGreatDoor.Cell (In)
set_option linter.unusedVariables false
structure CM (s : M) : Prop where
  st : ∀ x ∈ s.stack, In x
  bk : ∀ x ∈ s.back, In x
  me : ∀ x ∈ s.mem, In x
theorem sayI_in {s : M} (hs : CM s) (b : ByteArray) : In (sayI s b).v ∧ CM (sayI s b).s := by
  unfold sayI
  split
  · exact ⟨zero_in, hs.st, hs.bk, hs.me⟩
  · exact ⟨zero_in, hs⟩
theorem doI_in {wat : List Int} {s : M} {V : List Int} {x : I} (hx : CI x) (hs : CM s) (hV : ∀ y ∈ V, In y) : In (doI wat s V x).v ∧ CM (doI wat s V x).s := by
  have iv : ∀ p, In (val V p) := fun p => getL_in hV p
  unfold doI
  by_cases h1 : x.1 = 1
  · rw [if_pos h1]; exact ⟨hx.a, hs⟩
  rw [if_neg h1]; clear h1
  by_cases h1 : x.1 = 2
  · rw [if_pos h1]; exact ⟨getL_in hs.st _, hs⟩
  rw [if_neg h1]; clear h1
  by_cases h1 : x.1 = 3
  · rw [if_pos h1]; exact ⟨getL_in hs.bk _, hs⟩
  rw [if_neg h1]; clear h1
  by_cases h1 : x.1 = 4
  · rw [if_pos h1]
    unfold calcI
    split
    · exact ⟨Mach.one_in _ (iv _), hs⟩
    · exact ⟨Mach.two_in _ (iv _) (iv _), hs⟩
  rw [if_neg h1]; clear h1
  by_cases h1 : x.1 = 5
  · rw [if_pos h1]; exact ⟨getL_in hs.me _, hs⟩
  rw [if_neg h1]; clear h1
  by_cases h1 : x.1 = 6
  · rw [if_pos h1]
    unfold putI
    split
    · exact ⟨zero_in, hs.st, hs.bk, Mach.set_in hs.me _ (iv _)⟩
    · exact ⟨zero_in, hs⟩
  rw [if_neg h1]; clear h1
  by_cases h1 : x.1 = 10
  · rw [if_pos h1]; exact sayI_in hs _
  rw [if_neg h1]; clear h1
  by_cases h1 : x.1 = 11
  · rw [if_pos h1]; exact sayI_in hs _
  rw [if_neg h1]; clear h1
  by_cases h1 : x.1 = 12
  · rw [if_pos h1]
    unfold askI
    split
    · exact ⟨Mach.byte_in _, hs.st, hs.bk, hs.me⟩
    · exact ⟨(show In (-1) from (by unfold Go.Proofs.YtpecingkoodmfaaGreatDoor.Cell.In; omega)), hs⟩
  rw [if_neg h1]; clear h1
  by_cases h1 : x.1 = 7
  · rw [if_pos h1]; exact ⟨zero_in, hs⟩
  rw [if_neg h1]; clear h1
  by_cases h1 : x.1 = 8
  · rw [if_pos h1]; exact ⟨zero_in, hs⟩
  rw [if_neg h1]; clear h1
  by_cases h1 : x.1 = 9
  · rw [if_pos h1]; exact ⟨zero_in, hs⟩
  rw [if_neg h1]
  exact ⟨zero_in, hs⟩
theorem goI_len (wat : List Int) (last : Int) (l : List I) (s : M) (V : List Int) : (goI wat last l s V).V.length ≤ V.length + l.length := by
  induction l generalizing s V with
  | nil => exact Nat.le_refl _
  | cons x l ih =>
    unfold goI
    dsimp only
    split
    · exact Nat.le_add_right _ _
    · split
      · refine Nat.le_trans (ih _ _) ?_
        simp only [List.length_append, List.length_cons, List.length_nil]
        omega
      · exact Nat.le_add_right _ _
end Go.Proofs.YtpecingkoodmfaaGreatDoor.Ev
/- A trace that may be: what that says of its instructions and exits. -/
namespace Go.Proofs.YtpecingkoodmfaaGreatDoor.Ev
open Go.RowKit (wrap64)
open Ir (T I O rightT insOk insFrom known okP leads usesL outsL works within twoI oneI)
open Mach (M less)
set_option linter.unusedVariables false
theorem insFrom_all {t : T} : ∀ {l : List I} {k : Nat}, insFrom t k l = true → ∀ j x, l[j]? = some x → insOk t ((k + j : Nat) : Int) x = true
  | [], _, _, j, x, hx => by simp at hx
  | y :: l, k, h, j, x, hx => by
    have h' : (insOk t k y && insFrom t (k + 1) l) = true := h
    rw [Bool.and_eq_true] at h'
    cases j with
    | zero => simp only [List.getElem?_cons_zero, Option.some.injEq] at hx; subst hx; exact h'.1
    | succ j =>
      have := insFrom_all h'.2 j x (by simpa using hx)
      rw [show k + (j + 1) = k + 1 + j by omega]
      exact this
structure RightP (t : T) : Prop where
  ins : ∀ (k : Nat) x, t.ins[k]? = some x → insOk t (k : Int) x = true
  slots : 0 ≤ t.slots ∧ t.slots ≤ 48
  grow : 0 ≤ t.grow ∧ t.grow ≤ 48
  backs : 0 ≤ t.backs ∧ t.backs ≤ 48
  growBack : 0 ≤ t.growBack ∧ t.growBack ≤ 48
  all : insFrom t 0 t.ins = true
  last : leads t t.last t.ins.length = true
  outs : ∀ (k : Nat) o, t.outs[k]? = some o → o.stack.length ≤ 96 ∧ o.back.length ≤ 96
  few : t.ins.length ≤ 1000 ∧ t.outs.length ≤ 300
theorem right_parts {t : T} (h : rightT t = true) : RightP t := by
  unfold rightT at h
  simp only [Bool.and_eq_true, decide_eq_true_eq] at h
  obtain ⟨h1, h2, ht, -, ho, hi, he⟩ := h
  unfold Ir.takes at ht
  simp only [Bool.and_eq_true, within_iff] at ht
  obtain ⟨⟨⟨⟨-, t1⟩, t2⟩, t3⟩, t4⟩ := ht
  unfold Ir.endOk at he
  rw [Bool.and_eq_true] at he
  refine ⟨fun k x hx => ?_, t1, t2, t3, t4, hi, he.1, fun k o hx => ?_, h1, h2⟩
  · have := insFrom_all hi k x hx
    rw [Nat.zero_add] at this
    exact this
  · have := List.all_eq_true.1 ho o (List.mem_of_getElem? hx)
    unfold Ir.outOk at this
    simp only [Bool.and_eq_true, decide_eq_true_eq] at this
    obtain ⟨⟨_, g1⟩, g2⟩ := this
    exact ⟨by omega, by omega⟩
/-- what an instruction that may be works on -/
structure OkP (t : T) (k : Nat) (x : I) : Prop where
  works : works t x = true
  uses : ∀ p ∈ usesL x, 0 ≤ p ∧ p < (k : Int)
theorem ins_parts {t : T} {k : Nat} {x : I} (h : insOk t k x = true) : OkP t k x := by
  unfold insOk at h
  rw [Bool.and_eq_true, Bool.and_eq_true] at h
  exact ⟨h.1.1, known_names h.1.2⟩
theorem works_op {t : T} {x : I} (h : works t x = true) : 1 ≤ x.1 ∧ x.1 ≤ 12 := by
  unfold works at h
  by_cases h2 : x.1 = 2
  · omega
  by_cases h3 : x.1 = 3
  · omega
  by_cases h4 : x.1 = 4
  · omega
  rw [if_neg h2, if_neg h3, if_neg h4] at h
  have := within_iff.1 h
  omega
theorem slot_is {l : List Int} {j ka : Nat} {y : Int} (h2 : j + ka + 1 = l.length) (hl : l.length ≤ 10000) (hy : l[j]? = some y) : getL l (wrap64 ((l.length : Int) - 1 - (ka : Int))) = (y, true) := by
  have e : wrap64 ((l.length : Int) - 1 - (ka : Int)) = (j : Int) := by unfold wrap64; omega
  rw [e]
  unfold getL
  rw [if_pos (by omega), Int.toNat_natCast, List.getD_eq_getElem?_getD, hy]
  rfl
theorem rgetL_yes {l : List Int} {j : Nat} {y : Int} (hy : l[j]? = some y) : getL l (j : Int) = (y, true) := by
  have := (List.getElem?_eq_some_iff.1 hy).1
  unfold getL
  rw [if_pos (by omega), Int.toNat_natCast, List.getD_eq_getElem?_getD, hy]
  rfl
theorem rgetL_no {l : List Int} {p : Int} (h : ¬ (0 ≤ p ∧ p < (l.length : Int))) : getL l p = (0, false) := by unfold getL; rw [if_neg h]
theorem two_not_one {a b : Int} (h : twoI a = true) : (Cell.one a b).2 = false := by
  unfold twoI at h
  have h := decide_eq_true_iff.1 h
  have hc : a = 11 ∨ a = 12 ∨ a = 13 ∨ a = 14 ∨ a = 15 ∨ a = 17 ∨ a = 18 ∨ a = 19 ∨ a = 21 ∨ a = 22 ∨ a = 23 ∨ a = 24 ∨ a = 25 ∨ a = 28 ∨ a = 29 := by omega
  rcases hc with rfl | rfl | rfl | rfl | rfl | rfl | rfl | rfl | rfl | rfl | rfl | rfl | rfl | rfl | rfl <;> rfl
/-- a run that may be entered comes to an exit that is there -/
theorem run_end {t : T} {wat : List Int} {s : M} (hr : rightT t = true) (hm : mayT t s = true) (z1 : s.stack.length ≤ 10000) (z2 : s.back.length ≤ 10000) :
    ∃ o, outAt t (goI wat t.last t.ins s []).exit = some o ∧ Names (goI wat t.last t.ins s []).V.length o ∧ o.stack.length ≤ 96 ∧ o.back.length ≤ 96 := by
  have hp := right_parts hr
  unfold mayT at hm
  simp only [Bool.and_eq_true] at hm
  obtain ⟨-, -, g1, -, g2, -⟩ := hm
  obtain ⟨o, h1, h2⟩ := goI_leaves (wat := wat) t.ins 0 s [] hp.all (by rw [Nat.zero_add]; exact hp.last) rfl (within_iff.1 g1).2 (within_iff.1 g2).2 z1 z2
  refine ⟨o, h1, h2, ?_⟩
  unfold outAt at h1
  split at h1
  · exact hp.outs _ o h1
  · cases h1
theorem runT_is {t : T} {wat : List Int} {s : M} {res : X} {o : O} (hm : mayT t s = true) (hres : goI wat t.last t.ins s [] = res) (ho : outAt t res.exit = some o) : Ev.runT wat t s = ⟨leaveM t res.s res.V o, res.exit, o.steps, res.hit⟩ := by
  unfold Ev.runT
  rw [if_pos hm, hres]
  dsimp only
  rw [ho]
theorem may_parts {t : T} {s : M} (hm : mayT t s = true) : t.slots ≤ (s.stack.length : Int) ∧ t.backs ≤ (s.back.length : Int) := by
  unfold mayT at hm
  simp only [Bool.and_eq_true] at hm
  obtain ⟨-, -, g1, -, g2, -⟩ := hm
  exact ⟨(within_iff.1 g1).2, (within_iff.1 g2).2⟩
/-- an exit's number as a place -/
theorem out_place {t : T} {x : Int} {o : O} (h : outAt t x = some o) : ∃ k : Nat, x = (k : Int) ∧ t.outs[k]? = some o := by
  unfold outAt at h
  split at h
  · exact ⟨x.toNat, by omega, h⟩
  · cases h
end Go.Proofs.YtpecingkoodmfaaGreatDoor.Ev
/- A region that draws its order and fills a state's box: one step each. -/
namespace Go.Proofs.YtpecingkoodmfaaGreatDoor.Mach
open Go.RowKit Book Mem
set_option linter.unusedVariables false
set_option linter.unusedSimpArgs false
section
variable {ops : Array Oper} {o : Oper} {a : Act} {w : World} {K : Act → World → Prop} {Q : Exit → Act → World → Prop} {F : Prop}
/-- an empty box is made -/
theorem step_alloc_state (hw : Region.wanted o (yielded ops a.tmps) = true) (ho : o.op = .alloc 50)
    (h : ∀ g w', w.heap.size = g → w'.heap[g]? = some (.cells zero10 50 (0, 0)) → Below w.heap.size w w' → K (a.put o.dst (.pointer (some ⟨g, 0, none⟩))) w') : if Region.wanted o (yielded ops a.tmps) = true then o.wp Tryz.prog a w K Q else F := by
  rw [if_pos hw]
  have hk := h w.heap.size (w.alloc (.cells zero10 50)) rfl (heap_alloc_new w _) ((Below.refl w.heap.size w).alloc (Nat.le_refl _) _)
  obtain ⟨dst, op, ty, pos, after, guard⟩ := o
  simp only at ho hk ⊢
  subst ho
  clear h hw
  generalize hw' : w.alloc (.cells zero10 50) = w' at hk
  go_simp
  exact hk
/-- a box is filled -/
theorem step_st_state (hw : Region.wanted o (yielded ops a.tmps) = true) (x y : Operand) (ho : o.op = .store 50 x y) (g : Nat) (cells : Array Value) (hx : a.eval x = .pointer (some ⟨g, 0, none⟩)) (hy : a.eval y = .agg cells) (old : Array Value) (hg : w.heap[g]? = some (.cells old 50 (0, 0))) (hs : cells.size = 10) (hold : old.size = 10) (h1 : cells.all (·.oneCell') = true)
    (h : ∀ w', w'.heap[g]? = some (.cells cells 50 (0, 0)) → Stirred w w' [g] → K (a.put o.dst undef) w') : if Region.wanted o (yielded ops a.tmps) = true then o.wp Tryz.prog a w K Q else F := by
  rw [if_pos hw]
  have hz : (Tryz.prog.info? 50).map (·.size) = some cells.size := by rw [hs]; exact state_size
  exact wp_store_row 50 x y ho g cells hx hy 50 old hg hz (by rw [hold, hs]) h1 (h _ (setRow_heap w g old cells 50 (0, 0) hg) (Stirred.setRow w g cells))
end
end Go.Proofs.YtpecingkoodmfaaGreatDoor.Mach
/- The document's own run (chapter 15): what the ways lean on. -/
namespace Go.Proofs.YtpecingkoodmfaaGreatDoor.Ev
open Go.RowKit Book Mem
open Ir (T I O trA trV ReadsL ReadsI insA insV newBox boxOn CI CT rightT)
open Mach (step_st_state M less cells10 zero10 OwnsL OwnsM stV st_state ld_state state_size slice_one all_one)
set_option linter.unusedSimpArgs false
set_option linter.unusedVariables false
section
variable {ops : Array Oper} {rest : List Oper} {o : Oper} {a : Act} {w : World} {Q : Exit → Act → World → Prop}
theorem rst_ins (hw : Region.wanted o (yielded ops a.tmps) = true) (x y : Operand) (ho : o.op = .store 42 x y) (g : Nat) (cs : Array Value) (hx : a.eval x = .pointer (some ⟨g, 0, none⟩)) (hy : a.eval y = .agg cs) (hcs : cs.size = 5) (old : Array Value) (hold : old.size = 5) (hg : w.heap[g]? = some (.cells old 42 (0, 0))) (h1 : cs.all (·.oneCell') = true)
    (h : ∀ w', w'.heap[g]? = some (.cells cs 42 (0, 0)) → Stirred w w' [g] → wpList Tryz.prog ops Q rest (a.put o.dst undef) w') : wpList Tryz.prog ops Q (o :: rest) a w :=
  wpList_setbox hw _ x y ho g cs hx hy old _ hg (by rw [Ir.ins_size, hcs]) (by rw [hold, hcs]) h1 h
end
theorem goI_on {wat : List Int} {last : Int} {l : List I} {s ds : M} {V : List Int} {k : Nat} {x : I} {dv : Int} {res : X} (hx : l[k]? = some x) (hd : doI wat s V x = ⟨ds, dv, true, false⟩) (hj : goI wat last (l.drop k) s V = res) : goI wat last (l.drop (k + 1)) ds (V ++ [dv]) = res := by
  rw [goI_at hx, hd] at hj
  exact hj
theorem goI_off {wat : List Int} {last : Int} {l : List I} {s ds : M} {V : List Int} {k : Nat} {x : I} {dv : Int} {res : X} (hx : l[k]? = some x) (hd : doI wat s V x = ⟨ds, dv, false, false⟩) (hj : goI wat last (l.drop k) s V = res) : (⟨ds, V, x.2.2.2.2, false⟩ : X) = res := by
  rw [goI_at hx, hd] at hj
  exact hj
theorem goI_hit {wat : List Int} {last : Int} {l : List I} {s ds : M} {V : List Int} {k : Nat} {x : I} {dv : Int} {on : Bool} {res : X} (hx : l[k]? = some x) (hd : doI wat s V x = ⟨ds, dv, on, true⟩) (hj : goI wat last (l.drop k) s V = res) : (⟨ds, V, x.2.1, true⟩ : X) = res := by
  rw [goI_at hx, hd] at hj
  exact hj
/-- what the document's run answers -/
def RRuns (r : R) (w : World) (e : Ending) (w' : World) : Prop :=
  ∃ v, e = .returned (.tuple #[v, .int .i64 r.exit, .bool r.hit]) ∧ OwnsM w' w.heap.size v r.s ∧ Below w.heap.size w w'
theorem rblk {g n c k : Nat} (h : blk (.slice (some ⟨g, 0, none⟩) n c) = some k) : k = g := by
  rcases Nat.eq_zero_or_pos c with h0 | h0
  · subst h0; rw [blk_zero] at h; cases h
  · rw [blk_pos h0] at h; cases h; rfl
def three (gt gr : Nat) (a c : Obj) : Nat → Option Obj := fun k => if k = gt then some a else if k = gr then some c else none
theorem results_cell_tmps {P : Program} {fn : Func} {p u v : Tmp} {ty : TypeId} (h : fn.results = #[.cell p ty, .tmp u, .tmp v]) (tmps : Array Value) (w : World) (g : Nat) (t : TypeId) (cs : Array Value) (fr : Nat × Nat) (d : TypeDesc)
    (hp : tmps.getD p undef = .pointer (some ⟨g, 0, none⟩)) (hg : w.heap[g]? = some (.cells cs t fr)) (hu : P.underlying ty = some d) (hd : (match d with | .struct _ | .array _ _ => true | _ => false) = true) (hi : (P.info? ty).map (·.size) = some cs.size) :
    (results fn tmps).run P w = .ok (.tuple #[.agg cs, tmps.getD u undef, tmps.getD v undef]) w := by
  have hp' : tmps[p]?.getD undef = .pointer (some ⟨g, 0, none⟩) := by simpa using hp
  simp [results, h, hp', asAddr, run_loadVar_row w g t ty cs fr d hg hu hd hi]
theorem RR.told {W w : World} {gs n g m cap p : Nat} {s : M} {V : List Int} {vs vb vm : Value} {fx : Nat → Option Obj} (h : RR W w gs s V n vs vb vm (.slice (some ⟨g, 0, none⟩) m cap) fx) (hp : p < V.length) (hn : V.length ≤ n) : w.cell? ⟨g, p, none⟩ = some (.int .i64 (val V (p : Int))) := by
  have h1 := (Mem.owns_at h.vl (j := p) (by rw [padV_length hn]; omega)).1
  rw [h1]
  obtain ⟨k, e, _, h2⟩ := padV_at (V := V) (n := n) (p := (p : Int)) ⟨Int.natCast_nonneg p, Int.ofNat_lt.2 hp⟩
  obtain rfl : p = k := Int.ofNat.inj e
  rw [List.getElem?_eq_getElem (by rw [padV_length hn]; omega)] at h2
  rw [Option.some.inj h2]
theorem val_padV {V : List Int} {n : Nat} (hn : V.length ≤ n) {p : Int} (h0 : 0 ≤ p) (h1 : p < (V.length : Int)) : val (padV V n) p = val V p := by
  obtain ⟨k, rfl, hk, h2⟩ := padV_at (V := V) (n := n) ⟨h0, h1⟩
  rw [show val (padV V n) (k : Int) = (getL (padV V n) (k : Int)).1 from rfl, rgetL_yes h2]
theorem val_app {V : List Int} {x : Int} {p : Int} (h0 : 0 ≤ p) (h1 : p < (V.length : Int)) : val (V ++ [x]) p = val V p := by
  obtain ⟨k, rfl⟩ : ∃ k : Nat, p = k := ⟨p.toNat, by omega⟩
  have hk : k < V.length := by omega
  have e : V[k]? = some V[k] := List.getElem?_eq_getElem hk
  unfold val
  rw [rgetL_yes e, rgetL_yes (l := V ++ [x]) (by rw [List.getElem?_append_left hk]; exact e)]
theorem val_padV' {V : List Int} {x : Int} {n : Nat} (hn : V.length < n) {p : Int} (h0 : 0 ≤ p) (h1 : p < (V.length : Int)) : val (padV (V ++ [x]) n) p = val V p := by
  rw [val_padV (by rw [List.length_append]; exact hn) h0 (by rw [List.length_append]; omega), val_app h0 h1]
theorem RR.value2 {W w : World} {gs n g m cap k : Nat} {s : M} {V : List Int} {vs vb vm vv : Value} {fx : Nat → Option Obj} (h : RR W w gs s V n vs vb vm vv fx) (hz : vv = .slice (some ⟨g, 0, none⟩) m cap) (hk : V.length = k) (hn : k < n) (x : Int) : RR W (w.setCell ⟨g, k, none⟩ (.int .i64 x)) gs s (V ++ [x]) n vs vb vm vv fx := by
  subst hk
  exact h.value hz hn x
theorem rdrew {w w' : World} {q : Nat} (h : w' = w.drewN q) : Below w.heap.size w w' := by rw [h]; exact ⟨rfl, rfl, rfl, Nat.le_refl _, fun _ _ => rfl⟩
theorem take_not {l : List Int} {n : Nat} {y j : Int} (hy : l[n]? = some y) (h : ∀ q ∈ l.take n, q ≠ j) (hn : y ≠ j) : ∀ q ∈ l.take (n + 1), q ≠ j := by
  intro q hq
  rw [List.take_add_one, hy] at hq
  rcases List.mem_append.1 hq with g | g
  · exact h q g
  · have e : q = y := by simpa using g
    rw [e]; exact hn
theorem padV_again {V : List Int} {n : Nat} (h : V.length < n) (x y : Int) : (padV (V ++ [x]) n).set V.length y = padV (V ++ [y]) n := by
  rw [← padV_set h x, ← padV_set h y, List.set_set]
/-- the value told last is told anew -/
theorem RR.again {W w : World} {gs n g m cap : Nat} {s : M} {V : List Int} {x : Int} {vs vb vm vv : Value} {fx : Nat → Option Obj} (h : RR W w gs s (V ++ [x]) n vs vb vm vv fx) (hz : vv = .slice (some ⟨g, 0, none⟩) m cap) (hn : V.length < n) (y : Int) : RR W (w.setCell ⟨g, V.length, none⟩ (.int .i64 y)) gs s (V ++ [y]) n vs vb vm vv fx := by
  have hvl := h.vl
  rw [hz] at hvl
  have hg : blk vv = some g := by rw [hz]; exact hvl.capAt (by rw [vals_length, padV_length (by rw [List.length_append]; exact hn)]; omega)
  have ht := Stirred.setCell w ⟨g, V.length, none⟩ (.int .i64 y)
  have hx : ∀ {k : Nat}, k ≠ g → k ∉ [g] := fun h hm => h (List.mem_singleton.1 hm)
  refine ⟨h.hb.trans (ht.below (fun k hk => by rw [List.mem_singleton.1 hk]; exact (h.vl.block g hg).1) h.hb.size), h.hs, ht.whole h.box (hx (Ne.symm (h.nv g hg))), h.me.touch ht (fun k e => hx (fun e' => by subst e'; exact (h.nm _ e).2 hg)), ?_, h.nm, h.nv, fun k o e => ⟨ht.whole (h.fr k o e).1 (hx (fun e' => by subst e'; exact (h.fr _ o e).2.2.2 hg)), (h.fr k o e).2⟩⟩
  rw [← padV_again hn x, ← vals_set, hz]
  exact hvl.stored _ _
theorem slot_facts {n m ka j : Nat} (hm : n = m + 1) (hj : j + ka = m) (h : n ≤ 10000) : (n : Int) - 1 = (m : Int) ∧ wrap64 (m : Int) = (m : Int) ∧ (m : Int) - (ka : Int) = (j : Int) ∧ wrap64 (j : Int) = (j : Int) ∧ (j : Int) < (n : Int) ∧ (0 : Int) ≤ (j : Int) :=
  ⟨by omega, rwrap_nat (by omega), by omega, rwrap_nat (by omega), by omega, Int.natCast_nonneg j⟩
/-- what the call at an exit comes to -/
theorem rexit {W wf : World} {t : T} {s ds : M} {V VA : List Int} {vi vo vc vv : Value} {gs n n1 n2 nm mc sc bc : Nat} {e : Int} {so bo mo : Option Addr} {x : O} {fx : Nat → Option Obj}
    (hR : ReadsL W vi vo vc t) (hs : ReadsC W (.slice so n1 sc) s.stack) (hb : ReadsC W (.slice bo n2 bc) s.back) (h : RR W wf gs ds VA n (.slice so n1 sc) (.slice bo n2 bc) (.slice mo nm mc) vv fx) (hk : Kin s ds)
    (hx' : outAt t e = some x) (hN : Names V.length x) (hpre : ∀ p : Int, 0 ≤ p → p < (V.length : Int) → val (padV VA n) p = val V p) (hVn : V.length ≤ (padV VA n).length) (hn : (padV VA n).length ≤ 10000)
    (h1 : s.stack.length = n1) (h2 : s.back.length = n2) (z1 : n1 ≤ 10000) (z2 : n2 ≤ 10000) (l1 : x.stack.length ≤ 10000) (l2 : x.back.length ≤ 10000) (g1 : 0 ≤ t.slots) (g2 : t.slots ≤ (n1 : Int)) (g3 : 0 ≤ t.backs) (g4 : t.backs ≤ (n2 : Int)) :
    Calls Tryz.prog 88 #[trV t vi vo vc, stV ds (.slice so n1 sc) (.slice bo n2 bc) (.slice mo nm mc), vv, .int .i64 e] wf (RLeft wf (.slice mo nm mc) (leaveM t ds V x)) := by
  obtain ⟨kx, rfl, hx⟩ := out_place hx'
  obtain ⟨ks, e1⟩ : ∃ ks : Nat, t.slots = ks := ⟨t.slots.toNat, by omega⟩
  obtain ⟨kb, e2⟩ : ∃ kb : Nat, t.backs = kb := ⟨t.backs.toNat, by omega⟩
  have c := rleave_any (w := wf) (t := t) (s := ds) (V := padV VA n) (vm := .slice mo nm mc) (hR.below h.hb) hx (by rw [hk.stack]; exact hs.below h.hb) (by rw [hk.back]; exact hb.below h.hb) rfl (Reads.of_owns h.vl) hn (by rw [hk.stack, h1]; exact z1) (by rw [hk.back, h2]; exact z2) l1 l2
    (fun p hp => ⟨(hN.1 p hp).1, Int.lt_of_lt_of_le (hN.1 p hp).2 (Int.ofNat_le.2 hVn)⟩) (fun p hp => ⟨(hN.2 p hp).1, Int.lt_of_lt_of_le (hN.2 p hp).2 (Int.ofNat_le.2 hVn)⟩) e1 (by rw [hk.stack, h1]; omega) e2 (by rw [hk.back, h2]; omega)
  have e : leaveM t ds (padV VA n) x = leaveM t ds V x := by
    unfold leaveM
    rw [List.map_congr_left (fun p hp => hpre p (hN.1 p hp).1 (hN.1 p hp).2), List.map_congr_left (fun p hp => hpre p (hN.2 p hp).1 (hN.2 p hp).2)]
  rw [e] at c
  exact c
/-- .. and what is answered then -/
theorem rdone {W wf wl we : World} {gs n gr : Nat} {ds : M} {VA : List Int} {vs vb vm vv v1 v2 : Value} {fx : Nat → Option Obj} {ob : Obj} {ex st : Int} {hit : Bool} (h : RR W wf gs ds VA n vs vb vm vv fx) (hg : wf.heap[gr]? = some ob ∧ gr ≠ gs ∧ blk vm ≠ some gr ∧ blk vv ≠ some gr) (hW : W.heap.size ≤ gr) {t : T} {V : List Int} {x : O}
    (h1 : Owns wl wf.heap.size 3 v1 (vals (leaveM t ds V x).stack)) (h2 : Owns wl wf.heap.size 3 v2 (vals (leaveM t ds V x).back)) (h3 : ∀ k, blk v1 = some k → blk v2 ≠ some k) (hb : Below wf.heap.size wf wl) (ht : Stirred wl we [gr]) :
    RRuns ⟨leaveM t ds V x, ex, st, hit⟩ W (.returned (.tuple #[stV (leaveM t ds V x) v1 v2 vm, .int .i64 ex, .bool hit])) we := by
  have hgl := whole_lt hg.1
  have far : ∀ {k : Nat}, k ≠ gr → k ∉ [gr] := fun hne hm => hne (List.mem_singleton.1 hm)
  have hbl := h.hb.trans (hb.mono h.hb.size)
  refine ⟨_, rfl, ⟨v1, v2, vm, rfl, ⟨(h1.touch ht (fun k e => far (by have := (h1.block k e).1; omega))).from h.hb.size, (h2.touch ht (fun k e => far (by have := (h2.block k e).1; omega))).from h.hb.size, (h.me.below hb).touch ht (fun k e => far (fun e' => by subst e'; exact hg.2.2.1 e)), fun k e => ⟨h3 k e, fun e' => by have := (h1.block k e).1; have := (h.me.block k e').2.1; omega⟩, fun k e e' => by have := (h2.block k e).1; have := (h.me.block k e').2.1; omega⟩⟩, hbl.trans (ht.below (fun k hk => by rw [List.mem_singleton.1 hk]; exact hW) hbl.size)⟩
/-- a round's beginning, the instruction read -/
structure AtI (W w : World) (t : T) (s s' : M) (wat V' : List Int) (k ni n1 n2 nm nw gt gs gr gv g7 ci co cc sc bc mc4 cw : Nat) (ad : Addr) (ao ac so bo mo4 aw : Option Addr) (op a b c ex : Int) (res : X) : Prop where
  hrr : ReadsL W (.slice (some ad) ni ci) (.slice ao t.outs.length co) (.slice ac t.cells.length cc) t
  hrs : ReadsC W (.slice so n1 sc) s.stack
  hrb : ReadsC W (.slice bo n2 bc) s.back
  hrw : Reads W (.slice aw nw cw) wat
  hni : t.ins.length = ni ∧ s.mem.length = nm
  hn12 : s.stack.length = n1 ∧ s.back.length = n2
  hnw : wat.length = nw
  z1 : n1 ≤ 10000
  z2 : n2 ≤ 10000
  z3 : nm ≤ 10000
  z4 : s.out.size ≤ 2000
  z5 : s.inp.size ≤ 1000000
  z6 : nw ≤ 100000
  z7 : ni ≤ 10000
  z8 : 0 ≤ s.read
  hix : t.ins[k]? = some (op, a, b, c, ex)
  hcx : CI (op, a, b, c, ex)
  hq : Kin s s' ∧ CM s' ∧ V'.length = k ∧ ∀ y ∈ V', Cell.In y
  hj : goI wat t.last (t.ins.drop k) s' V' = res
  hres : goI wat t.last t.ins s [] = res
  hex : ∃ o, outAt t res.exit = some o ∧ Names res.V.length o ∧ o.stack.length ≤ 96 ∧ o.back.length ≤ 96
  hmy : mayT t s = true
  hrp : RightP t
  hmp : t.slots ≤ (n1 : Int) ∧ t.backs ≤ (n2 : Int)
  hlt : k < ni
  hrun : RR W w gs s' V' ni (.slice so n1 sc) (.slice bo n2 bc) (.slice mo4 nm mc4) (.slice (some ⟨gv, 0, none⟩) ni ni) (fun j => if j = g7 then some (.cells (insA (op, a, b, c, ex)) 42 (0, 0)) else (three gt gr (.cells (trA t (.slice (some ad) ni ci) (.slice ao t.outs.length co) (.slice ac t.cells.length cc)) 26 (0, 0)) (.cells zero10 50 (0, 0))) j)
  ng : gt ≠ g7 ∧ gr ≠ g7
  ng2 : gr ≠ gt
  ngr : gt ≠ gr ∧ gs ≠ gr
  hgrw : W.heap.size ≤ gr
/-- does a piece of code begin with this region? -/
def begins (k : Nat) : Code → Bool
  | .region n _ _ => n == k
  | .seq a _ => begins k a
  | _ => false
/-- the code from a region on -/
def fromRegion (k : Nat) : Code → Option Code
  | .seq a b => if begins k a then some (.seq a b) else match fromRegion k a with
    | some d => some d
    | none => if begins k b then some b else fromRegion k b
  | .block _ c => fromRegion k c
  | .loop c => fromRegion k c
  | .scope c => fromRegion k c
  | .cond _ a b => match fromRegion k a with
    | some d => some d
    | none => fromRegion k b
  | _ => none
noncomputable def codeI : Code := ((Tryz.f31.body.bind (fromRegion 7)).getD .skip)
def WayI (Q : Exit → Act → World → Prop) (W w : World) (t : T) (s s' : M) (wat V' : List Int) (k ni n1 n2 nm nw gt gs gr gv g7 ci co cc sc bc mc4 cw : Nat) (ad : Addr) (ao ac so bo mo4 aw : Option Addr) (op a b c ex : Int) (res : X) : Prop := ∀ {c0 c1 c5 c7 c8 c12 c13 c14 c15 c16 c17 c18 c19 c20 c21 c22 c23 c24 c25 c26 c27 c28 c29 c30 c31 c32 c33 c34 c35 c36 c37 c38 c39 c40 c41 c42 c43 c44 c45 c46 c47 c48 c49 c50 c51 c52 c53 c54 c55 c56 c57 c58 c59 c60 c61 c62 c63 c64 c65 c66 c67 c68 c69 c70 c71 c72 c73 c74 c75 c76 c77 c78 c79 c80 c81 c82 c83 c84 c85 c86 c87 c88 c89 c90 c91 c92 c93 c94 c95 c96 c97 c98 c99 c100 c101 c102 c103 c104 c105 c106 c107 c108 c109 c110 c111 c112 c113 c114 c115 c116 c117 c118 c119 c120 c121 c122 c123 c124 c125 c126 c127 c128 c129 c130 c131 c132 c133 c134 c135 c136 c137 c138 c139 c140 c141 c142 c143 c144 c145 c146 c147 c148 c149 c150 c151 c152 c153 c154 c155 c156 c157 c158 c159 c160 c161 c162 c163 c164 c165 c166 c167 c168 c169 c170 c171 c172 c173 c174 c175 c176 c177 c178 c179 c180 c181 c182 c183 c184 c185 c186 c187 c188 c189 c190 c191 c192 c193 c194 c195 c196 c197 c198 c199 c200 c201 c202 c203 c204 c205 c206 c207 c208 c209 c210 c211 c212 c213 c214 c215 c216 c217 c218 c219 c220 c221 c222 c223 c224 c225 c226 c227 c228 c229 c230 c231 c232 c233 c234 c235 c236 c237 c238 c239 c240 c241 c242 c243 c244 c245 c246 c247 c248 c249 c250 c251 c252 c253 c254 c255 c256 c257 c258 c259 c260 c261 c262 c263 c264 c265 c266 : Value}, (∀ (u7 u8 u12 u13 u14 u15 u16 u17 u18 u39 u40 u41 u42 u43 u44 u45 u46 u47 u48 u49 u50 u51 u52 u53 u54 u55 u56 u57 u58 u59 u60 u61 u62 u63 u64 u65 u66 u67 u68 u69 u70 u71 u72 u73 u74 u75 u76 u77 u78 u79 u80 u81 u82 u83 u84 u85 u86 u87 u88 u89 u90 u91 u92 u93 u94 u95 u96 u97 u98 u99 u100 u101 u102 u103 u104 u105 u106 u107 u108 u109 u110 u111 u112 u113 u114 u115 u116 u117 u118 u119 u120 u121 u122 u123 u124 u125 u126 u127 u128 u129 u130 u131 u132 u133 u134 u135 u136 u137 u138 u139 u140 u141 u142 u143 u144 u145 u146 u147 u148 u149 u150 u151 u152 u153 u154 u155 u156 u157 u158 u159 u160 u161 u162 u163 u164 u165 u166 u167 u168 u169 u170 u171 u172 u173 u174 u175 u176 u177 u178 u179 u180 u181 u182 u183 u184 u185 u186 u187 u188 u189 u190 u191 u192 u193 u194 u195 u196 u197 u198 u199 u200 u201 u202 u203 u204 u205 u206 u207 u208 u209 u210 u211 u212 u213 u214 u215 u216 u217 u218 u219 u220 u221 u222 u223 u224 u225 u226 u227 u228 u229 u230 u231 u232 u233 u234 u235 u236 u237 u238 u239 u240 u241 u242 u243 u244 u245 u246 u247 u248 u249 u250 : Value) (w' : World) (ds : M) (dv : Int), doI wat s' V' (op, a, b, c, ex) = ⟨ds, dv, true, false⟩ → RR W w' gs ds (V' ++ [dv]) ni (.slice so n1 sc) (.slice bo n2 bc) (.slice mo4 nm mc4) (.slice (some ⟨gv, 0, none⟩) ni ni) (fun j => if j = g7 then some (.cells (insA (op, a, b, c, ex)) 42 (0, 0)) else (three gt gr (.cells (trA t (.slice (some ad) ni ci) (.slice ao t.outs.length co) (.slice ac t.cells.length cc)) 26 (0, 0)) (.cells zero10 50 (0, 0))) j) → Q .normal ⟨#[c0, c1, .slice aw nw cw, .pointer (some ⟨gt, 0, none⟩), .pointer (some ⟨gs, 0, none⟩), c5, .pointer (some ⟨gr, 0, none⟩), u7, u8, .slice (some ⟨gv, 0, none⟩) ni ni, .int .i64 (k : Int), .pointer (some ⟨g7, 0, none⟩), u12, u13, u14, u15, u16, u17, u18, c19, c20, c21, c22, c23, c24, c25, c26, c27, c28, c29, c30, c31, c32, c33, c34, c35, c36, c37, c38, u39, u40, u41, u42, u43, u44, u45, u46, u47, u48, u49, u50, u51, u52, u53, u54, u55, u56, u57, u58, u59, u60, u61, u62, u63, u64, u65, u66, u67, u68, u69, u70, u71, u72, u73, u74, u75, u76, u77, u78, u79, u80, u81, u82, u83, u84, u85, u86, u87, u88, u89, u90, u91, u92, u93, u94, u95, u96, u97, u98, u99, u100, u101, u102, u103, u104, u105, u106, u107, u108, u109, u110, u111, u112, u113, u114, u115, u116, u117, u118, u119, u120, u121, u122, u123, u124, u125, u126, u127, u128, u129, u130, u131, u132, u133, u134, u135, u136, u137, u138, u139, u140, u141, u142, u143, u144, u145, u146, u147, u148, u149, u150, u151, u152, u153, u154, u155, u156, u157, u158, u159, u160, u161, u162, u163, u164, u165, u166, u167, u168, u169, u170, u171, u172, u173, u174, u175, u176, u177, u178, u179, u180, u181, u182, u183, u184, u185, u186, u187, u188, u189, u190, u191, u192, u193, u194, u195, u196, u197, u198, u199, u200, u201, u202, u203, u204, u205, u206, u207, u208, u209, u210, u211, u212, u213, u214, u215, u216, u217, u218, u219, u220, u221, u222, u223, u224, u225, u226, u227, u228, u229, u230, u231, u232, u233, u234, u235, u236, u237, u238, u239, u240, u241, u242, u243, u244, u245, u246, u247, u248, u249, u250, c251, c252, c253, c254, c255, c256, c257, c258, c259, c260, c261, c262, c263, c264, c265, c266], []⟩ w') → (∀ (a' : Act) (w' : World) (v : Value), a'.defers = [] → (results Tryz.f31 a'.tmps).run Tryz.prog w' = .ok v w' → RRuns (Ev.runT wat t s) W (.returned v) w' → Q .ret a' w') → (∀ (x : List PanicEntry) (a' : Act) (d : Option Tmp) (v : Value) (w' : World), Q (.panic x) (a'.put d v) w' → Q (.panic x) a' w') → codeI.wp Tryz.prog Q ⟨#[c0, c1, .slice aw nw cw, .pointer (some ⟨gt, 0, none⟩), .pointer (some ⟨gs, 0, none⟩), c5, .pointer (some ⟨gr, 0, none⟩), c7, c8, .slice (some ⟨gv, 0, none⟩) ni ni, .int .i64 (k : Int), .pointer (some ⟨g7, 0, none⟩), c12, c13, c14, c15, c16, c17, c18, c19, c20, c21, c22, c23, c24, c25, c26, c27, c28, c29, c30, c31, c32, c33, c34, c35, c36, c37, c38, c39, c40, c41, c42, c43, c44, c45, c46, c47, c48, c49, c50, c51, c52, c53, c54, c55, c56, c57, c58, c59, c60, c61, c62, c63, c64, c65, c66, c67, c68, c69, c70, c71, c72, c73, c74, c75, c76, c77, c78, c79, c80, c81, c82, c83, c84, c85, c86, c87, c88, c89, c90, c91, c92, c93, c94, c95, c96, c97, c98, c99, c100, c101, c102, c103, c104, c105, c106, c107, c108, c109, c110, c111, c112, c113, c114, c115, c116, c117, c118, c119, c120, c121, c122, c123, c124, c125, c126, c127, c128, c129, c130, c131, c132, c133, c134, c135, c136, c137, c138, c139, c140, c141, c142, c143, c144, c145, c146, c147, c148, c149, c150, c151, c152, c153, c154, c155, c156, c157, c158, c159, c160, c161, c162, c163, c164, c165, c166, c167, c168, c169, c170, c171, c172, c173, c174, c175, c176, c177, c178, c179, c180, c181, c182, c183, c184, c185, c186, c187, c188, c189, c190, c191, c192, c193, c194, c195, c196, c197, c198, c199, c200, c201, c202, c203, c204, c205, c206, c207, c208, c209, c210, c211, c212, c213, c214, c215, c216, c217, c218, c219, c220, c221, c222, c223, c224, c225, c226, c227, c228, c229, c230, c231, c232, c233, c234, c235, c236, c237, c238, c239, c240, c241, c242, c243, c244, c245, c246, c247, c248, c249, c250, c251, c252, c253, c254, c255, c256, c257, c258, c259, c260, c261, c262, c263, c264, c265, c266], []⟩ w
end Go.Proofs.YtpecingkoodmfaaGreatDoor.Ev
