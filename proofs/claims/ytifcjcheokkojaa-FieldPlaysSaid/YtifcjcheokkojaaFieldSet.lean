/- A map[int]bool of the call's own, as the set of the numbers that are in it; a []hollowaylaw4.Op that came in. -/
import Derived.Test.YtifcjcheokkojaaFieldPlain
import Derived.Maps.OwnOps
import Derived.Maps.OwnSet
import Derived.Maps.Views
import Derived.Deep.Slices
import Derived.ProofKit
namespace Go.Proofs.Ytifcjcheokkojaa.Mem
open Go.RowKit Book Go.Maps
set_option linter.unusedVariables false
theorem intKeys : Keyed Try.prog 3 := int_keyed Try.underlying3
/-- block b is a map of at most n entries; true stands at the numbers of S alone -/
def SetAt (w : World) (b n : Nat) (S : List Int) : Prop :=
  ∃ D : DataW Unit, w.ownsMap Try.prog 3 (plainElem Try.prog 4) b n D ∧ ∀ x : Int, D.atKey (.int .i64 x) (.lit (.bool false)) = .lit (.bool (decide (x ∈ S)))
theorem SetAt.made (w : World) : SetAt (w.alloc (.map #[] 0)) w.heap.size 0 [] :=
  ⟨.map [], World.ownsMap_made _ _ _ _, fun x => by simp [DataW.atKey]⟩
theorem SetAt.block {w : World} {b n : Nat} {S : List Int} (h : SetAt w b n S) : ∃ es c, w.heap[b]? = some (.map es c) := by
  obtain ⟨D, ⟨es, c, hb, _⟩, _⟩ := h
  exact ⟨es, c, hb⟩
theorem SetAt.touch {w w' : World} {b n : Nat} {S : List Int} {bs : List Nat} (h : SetAt w b n S) (ht : Stirred w w' bs) (hn : b ∉ bs) : SetAt w' b n S := by
  obtain ⟨D, ⟨es, c, hb, hF, hs, hD⟩, hx⟩ := h
  exact ⟨D, ⟨es, c, ht.whole hb hn, hF, hs, hD⟩, hx⟩
theorem SetAt.more {w : World} {b n n' : Nat} {S : List Int} (h : SetAt w b n S) (hn : n ≤ n') : SetAt w b n' S := by
  obtain ⟨D, hD, hx⟩ := h
  exact ⟨D, hD.mono hn, hx⟩
theorem plainElem_bool_inv {H : Type} {P : Program} {e : TypeId} (he : P.underlying e = some .bool) {v : Value} {z : DataW H × List MemPlace} (h : plainElem P e v = some z) : ∃ a, v = .bool a ∧ z = (.lit (.bool a), []) := by
  unfold plainElem at h
  rw [he] at h
  cases v <;> simp at h
  exact ⟨_, rfl, h.symm⟩
/-- 'm[k]' -/
theorem wpList_lookup_set (w : World) {ops : Array Oper} {rest : List Oper} {o : Oper} {a : Act} {Q : Exit → Act → World → Prop} (hg : o.guard = none) (m x : Operand) (hop : o.op = Op.lookup 29 m x false)
    (b n : Nat) (S : List Int) (hm : a.eval m = .map (some b)) (hs : SetAt w b n S) (k : Int) (hx : a.eval x = .int .i64 k) (hw : (Lit.int .i64 k).wf = true)
    (hK : wpList Try.prog ops Q rest (a.put o.dst (.bool (decide (k ∈ S)))) w) : wpList Try.prog ops Q (o :: rest) a w := by
  obtain ⟨D, hD, hx'⟩ := hs
  refine wpList_plain hg fun K' hK' => ?_
  obtain ⟨v, ps, hrun, hv⟩ := hD.lookup (t := 29) intKeys Try.underlying29 (Try.zeroValue4 w) (plainElem_bool Try.underlying4 false) (keyOf_int_mk Try.underlying3 hw)
  rw [hx' k] at hv
  obtain ⟨c, rfl, hc⟩ := plainElem_bool_inv Try.underlying4 hv
  simp only [Prod.mk.injEq, DataW.lit.injEq, Lit.bool.injEq] at hc
  unfold Oper.wp
  simp [execOp, hop, hm, hx, hrun, Result.andThen]
  rw [← hc.1]
  exact hK' _ _ hK
/-- 'm[k] = true' -/
theorem wpList_update_set (w : World) {ops : Array Oper} {rest : List Oper} {o : Oper} {a : Act} {Q : Exit → Act → World → Prop} (hg : o.guard = none) (m x v : Operand) (hop : o.op = Op.mapUpdate 29 m x v)
    (b n : Nat) (S : List Int) (hm : a.eval m = .map (some b)) (hs : SetAt w b n S) (hn : n < maxLen) (k : Int) (hx : a.eval x = .int .i64 k) (hw : (Lit.int .i64 k).wf = true) (hv : a.eval v = .bool true)
    (hK : ∀ w', SetAt w' b (n + 1) (chg S k) → Stirred w w' [b] → wpList Try.prog ops Q rest (a.put o.dst undef) w') : wpList Try.prog ops Q (o :: rest) a w := by
  obtain ⟨D, hD, hx'⟩ := hs
  have hm' := hD.isMap
  refine wpList_mapUpdate_own w hg m x v 29 hop 3 4 intKeys Try.underlying29 _ b n D hm hD hn (.int .i64 k) (.bool true) (.int .i64 k) hx hv (keyOf_int_mk Try.underlying3 hw) (.lit (.bool true)) [] (plainElem_bool Try.underlying4 true) fun w' hD' hG => hK w' ⟨_, hD', fun y => ?_⟩ (Stirred.of_grown hG)
  by_cases e : y = k
  · subst e
    rw [atKey_put_same hm' (by simp [WideAt.IsKeyLit])]
    simp [chg_mem]
  · rw [atKey_put_other (by simpa using e), hx' y]
    simp [chg_mem, e]
/-- a list of operations that came in -/
def OpsAt (w : World) (v : Value) (ops : List (Int × Int × Int)) : Prop :=
  ∃ ao cap, v = .slice ao ops.length cap ∧ ∀ j k a x, ops[j]? = some (k, a, x) → ∃ ad, ao = some ad ∧ w.cell? (ad.add (j * 3)) = some (.int .i64 k) ∧ w.cell? (ad.add (j * 3 + 1)) = some (.int .i64 a) ∧ w.cell? (ad.add (j * 3 + 2)) = some (.int .i64 x) ∧ (Lit.int .i64 a).wf = true
theorem OpsAt.below {w w' : World} {v : Value} {ops : List (Int × Int × Int)} (h : OpsAt w v ops) (hb : Below w.heap.size w w') : OpsAt w' v ops := by
  obtain ⟨ao, cap, e, hc⟩ := h
  refine ⟨ao, cap, e, fun j k a x hj => ?_⟩
  obtain ⟨ad, ha, h1, h2, h3, h4⟩ := hc j k a x hj
  have tr : ∀ {p : Addr} {u : Value}, w.cell? p = some u → w'.cell? p = some u := fun {p u} hu => by rw [hb.cell (p := p) (World.block_lt_of_cell? w _ hu)]; exact hu
  exact ⟨ad, ha, tr h1, tr h2, tr h3, h4⟩
open Go.ChangeShapes Go.WideShapes Go.Deep
set_option maxRecDepth 1000000 in
theorem cells_op : Try.prog.cellsOf 40 = 3 := by kernel_rfl
set_option maxRecDepth 1000000 in
theorem cells_int' : Try.prog.cellsOf 3 = 1 := by kernel_rfl
set_option maxRecDepth 100000 in
theorem opsOf {H : Type} {enc : TypeId × Value → H} {W : World} {base : Nat} {v : Value} {d : DataW H} {p : List MemPlace} (hv : Value.okWide Try.prog W .any base 23 v) (h : DataW.Trod enc Try.prog W 0 (fun _ => true) true 23 v d p) : ∃ ops, OpsAt W v ops := by
  obtain ⟨a0, len, cap, rfl⟩ := okWide_slice Try.underlying23 hv
  obtain ⟨fuel, hf⟩ := h
  rcases open_slice Try.underlying23 hf with ⟨hcs, hx⟩ | ⟨a, len', cap', m, n, D, Pl, hcs, _, hl, hm, hmm, hx, hi⟩
  · simp [Value.cells] at hcs
    obtain ⟨rfl, rfl, rfl⟩ := hcs
    exact ⟨[], none, 0, rfl, fun j k a x h => by cases h⟩
  · simp [Value.cells] at hcs
    obtain ⟨rfl, rfl, rfl⟩ := hcs
    simp only [if_true] at hmm
    have each : ∀ i, i < len → ∃ q : Int × Int × Int, W.cell? (a.add (i * 3)) = some (.int .i64 q.1) ∧ W.cell? (a.add (i * 3 + 1)) = some (.int .i64 q.2.1) ∧ W.cell? (a.add (i * 3 + 2)) = some (.int .i64 q.2.2) ∧ (Lit.int .i64 q.2.1).wf = true := by
      intro i hil
      obtain ⟨cs, h1, h2⟩ := hi i (by omega)
      rw [cells_op] at h1
      obtain ⟨_, hlen, hcell⟩ := World.cells?_some h1
      obtain ⟨ys, k, _, _, _, hyl, hg⟩ := DataW.trod_struct Try.underlying40 h2
      match ys, hyl, cs, hlen with
      | [y0, y1, y2], _, [v0, v1, v2], _ =>
        have g0 : DataW.trod enc Try.prog W 0 (fun _ => true) true k 3 [v0] = some y0 := by have := hg 0 _ rfl; simpa [cells_int'] using this
        have g1 : DataW.trod enc Try.prog W 0 (fun _ => true) true k 3 [v1] = some y1 := by have := hg 1 _ rfl; simpa [cells_int'] using this
        have g2 : DataW.trod enc Try.prog W 0 (fun _ => true) true k 3 [v2] = some y2 := by have := hg 2 _ rfl; simpa [cells_int'] using this
        obtain ⟨z0, e0, _, _⟩ := DataW.trod_int Try.underlying3 g0
        obtain ⟨z1, e1, _, wf1⟩ := DataW.trod_int Try.underlying3 g1
        obtain ⟨z2, e2, _, _⟩ := DataW.trod_int Try.underlying3 g2
        simp at e0 e1 e2
        subst e0; subst e1; subst e2
        have c0 := hcell 0 (by omega)
        have c1 := hcell 1 (by omega)
        have c2 := hcell 2 (by omega)
        rw [add_add] at c0 c1 c2
        exact ⟨(z0, z1, z2), by simpa using c0, by simpa using c1, by simpa using c2, wf1⟩
    obtain ⟨q, hq⟩ := choose_lt each
    refine ⟨(List.range len).map q, some a, cap, by simp, fun j k a' x h => ?_⟩
    rw [List.getElem?_map] at h
    by_cases hj : j < len
    · rw [List.getElem?_range hj] at h
      simp at h
      have := hq j hj
      rw [h] at this
      exact ⟨a, rfl, this.1, this.2.1, this.2.2.1, this.2.2.2⟩
    · rw [List.getElem?_eq_none (by simp; omega)] at h
      cases h
end Go.Proofs.Ytifcjcheokkojaa.Mem
