
/- A []hollowaylaw10.Op that came in. -/
import Derived.Test.YtcpdhfigaoaohaaDoorChecked
import Derived.Test.YtcpdhfigaoaohaaDoorBookPlain
import Derived.Deep.Slices
import Derived.ProofKit
import Derived.ChangeSlices
namespace Go.Proofs.YtcpdhfigaoaohaaDoor.Wv
open Go.RowKit Book
set_option linter.unusedVariables false
/-- one operation: its kind, two numbers, a word -/
structure OpIn where
  kind : Int
  n : Int
  v : Int
  s : ByteArray
instance : Inhabited OpIn := ⟨⟨0, 0, 0, ⟨#[]⟩⟩⟩
def OpsAt (w : World) (v : Value) (ops : List OpIn) : Prop :=
  ∃ ao cap, v = .slice ao ops.length cap ∧ ∀ j o, ops[j]? = some o → ∃ ad, ao = some ad ∧ w.cell? (ad.add (j * 4)) = some (.int .i64 o.kind) ∧ w.cell? (ad.add (j * 4 + 1)) = some (.int .i64 o.n) ∧ w.cell? (ad.add (j * 4 + 2)) = some (.int .i64 o.v) ∧ w.cell? (ad.add (j * 4 + 3)) = some (.string o.s) ∧ o.s.size ≤ maxLen
theorem OpsAt.below {w w' : World} {v : Value} {ops : List OpIn} (h : OpsAt w v ops) (hb : Below w.heap.size w w') : OpsAt w' v ops := by
  obtain ⟨ao, cap, e, hc⟩ := h
  refine ⟨ao, cap, e, fun j o hj => ?_⟩
  obtain ⟨ad, ha, h0, h1, h2, h3, h4⟩ := hc j o hj
  have tr : ∀ {p : Addr} {u : Value}, w.cell? p = some u → w'.cell? p = some u := fun {p u} hu => by rw [hb.cell (p := p) (World.block_lt_of_cell? w _ hu)]; exact hu
  exact ⟨ad, ha, tr h0, tr h1, tr h2, tr h3, h4⟩
open Go.ChangeShapes Go.WideShapes Go.Deep Go.ChangeAt
set_option maxRecDepth 1000000 in
theorem cells_op : Tryd.prog.cellsOf 40 = 4 := by kernel_rfl
set_option maxRecDepth 1000000 in
theorem cells_int' : Tryd.prog.cellsOf 3 = 1 := by kernel_rfl
set_option maxRecDepth 1000000 in
theorem cells_string' : Tryd.prog.cellsOf 9 = 1 := by kernel_rfl
set_option maxRecDepth 100000 in
theorem opsOf {H : Type} {enc : TypeId × Value → H} {W : World} {base : Nat} {v : Value} {d : DataW H} {p : List MemPlace} (hv : Value.okWide Tryd.prog W .any base 23 v) (h : DataW.Trod enc Tryd.prog W 0 (fun _ => true) true 23 v d p) : ∃ ops, OpsAt W v ops := by
  obtain ⟨a0, len, cap, rfl⟩ := okWide_slice Tryd.underlying23 hv
  obtain ⟨fuel, hf⟩ := h
  rcases open_slice Tryd.underlying23 hf with ⟨hcs, hx⟩ | ⟨a, len', cap', m, n, D, Pl, hcs, _, hl, hm, hmm, hx, hi⟩
  · simp [Value.cells] at hcs
    obtain ⟨rfl, rfl, rfl⟩ := hcs
    exact ⟨[], none, 0, rfl, fun j o h => by cases h⟩
  · simp [Value.cells] at hcs
    obtain ⟨rfl, rfl, rfl⟩ := hcs
    simp only [if_true] at hmm
    have each : ∀ i, i < len → ∃ q : OpIn, W.cell? (a.add (i * 4)) = some (.int .i64 q.kind) ∧ W.cell? (a.add (i * 4 + 1)) = some (.int .i64 q.n) ∧ W.cell? (a.add (i * 4 + 2)) = some (.int .i64 q.v) ∧ W.cell? (a.add (i * 4 + 3)) = some (.string q.s) ∧ q.s.size ≤ maxLen := by
      intro i hil
      obtain ⟨cs, h1, h2⟩ := hi i (by omega)
      rw [cells_op] at h1
      obtain ⟨_, hlen, hcell⟩ := World.cells?_some h1
      obtain ⟨ys, k, _, _, _, hyl, hg⟩ := DataW.trod_struct Tryd.underlying40 h2
      match ys, hyl, cs, hlen with
      | [y0, y1, y2, y3], _, [v0, v1, v2, v3], _ =>
        have g0 : DataW.trod enc Tryd.prog W 0 (fun _ => true) true k 3 [v0] = some y0 := by have := hg 0 _ rfl; simpa [cells_int'] using this
        have g1 : DataW.trod enc Tryd.prog W 0 (fun _ => true) true k 3 [v1] = some y1 := by have := hg 1 _ rfl; simpa [cells_int'] using this
        have g2 : DataW.trod enc Tryd.prog W 0 (fun _ => true) true k 3 [v2] = some y2 := by have := hg 2 _ rfl; simpa [cells_int'] using this
        have g3 : DataW.trod enc Tryd.prog W 0 (fun _ => true) true k 9 [v3] = some y3 := by have := hg 3 _ rfl; simpa [cells_string'] using this
        obtain ⟨z0, e0, _, _⟩ := DataW.trod_int Tryd.underlying3 g0
        obtain ⟨z1, e1, _, _⟩ := DataW.trod_int Tryd.underlying3 g1
        obtain ⟨z2, e2, _, _⟩ := DataW.trod_int Tryd.underlying3 g2
        obtain ⟨s, e3, _, hs⟩ := DataW.trod_string Tryd.underlying9 g3
        simp at e0 e1 e2 e3
        subst e0; subst e1; subst e2; subst e3
        have c0 := hcell 0 (by omega)
        have c1 := hcell 1 (by omega)
        have c2 := hcell 2 (by omega)
        have c3 := hcell 3 (by omega)
        rw [add_add] at c0 c1 c2 c3
        exact ⟨⟨z0, z1, z2, s⟩, by simpa using c0, by simpa using c1, by simpa using c2, by simpa using c3, hs⟩
    obtain ⟨q, hq⟩ := choose_lt each
    refine ⟨(List.range len).map q, some a, cap, by simp, fun j o h => ?_⟩
    rw [List.getElem?_map] at h
    by_cases hj : j < len
    · rw [List.getElem?_range hj] at h
      simp at h
      have := hq j hj
      rw [h] at this
      exact ⟨a, rfl, this⟩
    · rw [List.getElem?_eq_none (by simp; omega)] at h
      cases h
end Go.Proofs.YtcpdhfigaoaohaaDoor.Wv
