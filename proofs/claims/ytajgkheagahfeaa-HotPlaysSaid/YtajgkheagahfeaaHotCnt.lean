
/- A map[int]int of the call's own that counts, beside the counts of package hot; a []hollowaylaw12.Op that came in. -/
import Derived.Test.YtajgkheagahfeaaHotMore
import Derived.Maps.OwnOps
import Derived.Maps.OwnSet
import Derived.Maps.Views
import Derived.Maps.RangeWalk
import Derived.Deep.Slices
import Derived.ProofKit
namespace Go.Proofs.Ytajgkheagahfeaa.Hot
open Go.RowKit Book Book.Wide Go.Maps
set_option linter.unusedSimpArgs false
set_option linter.unusedVariables false
theorem intKeys : Keyed Try.prog 3 := int_keyed Try.underlying3
/-- what a map that reads as D counts -/
structure Counts (D : DataW Unit) (f : Int → Int) (m : Nat) : Prop where
  val : ∀ x : Int, D.atKey (.int .i64 x) (.lit (.int .i64 0)) = .lit (.int .i64 (f x))
  is : ∀ x : Int, Maps.has D (.int .i64 x) = decide (f x ≠ 0)
  len : Maps.size D = m
/-- block b is a map of at most n entries, which counts -/
def CntAt (w : World) (b n : Nat) (f : Int → Int) (m : Nat) : Prop :=
  ∃ D : DataW Unit, w.ownsMap Try.prog 3 (plainElem Try.prog 3) b n D ∧ Counts D f m
theorem CntAt.made (w : World) : CntAt (w.alloc (.map #[] 0)) w.heap.size 0 (fun _ => 0) 0 :=
  ⟨.map [], World.ownsMap_made _ _ _ _, fun x => by simp [DataW.atKey], fun x => by simp [Maps.has], rfl⟩
theorem CntAt.block {w : World} {b n : Nat} {f : Int → Int} {m : Nat} (h : CntAt w b n f m) : ∃ es c, w.heap[b]? = some (.map es c) := by
  obtain ⟨D, ⟨es, c, hb, _⟩, _⟩ := h
  exact ⟨es, c, hb⟩
theorem CntAt.touch {w w' : World} {b n : Nat} {f : Int → Int} {m : Nat} {bs : List Nat} (h : CntAt w b n f m) (ht : Stirred w w' bs) (hn : b ∉ bs) : CntAt w' b n f m := by
  obtain ⟨D, ⟨es, c, hb, hF, hs, hD⟩, hx⟩ := h
  exact ⟨D, ⟨es, c, ht.whole hb hn, hF, hs, hD⟩, hx⟩
theorem CntAt.more {w : World} {b n n' : Nat} {f : Int → Int} {m : Nat} (h : CntAt w b n f m) (hn : n ≤ n') : CntAt w b n' f m := by
  obtain ⟨D, hD, hx⟩ := h
  exact ⟨D, hD.mono hn, hx⟩
theorem zeroInt (w : World) : (zeroValue 3).run Try.prog w = .ok (.int .i64 0) w := by kernel_rfl
theorem Counts.tidy_len {D : DataW Unit} {f : Int → Int} {m : Nat} (h : Counts D f m) (x : Int) : (if Maps.has D (.int .i64 x) then 1 else 0) = oneIf (f x) := by
  rw [h.is]
  by_cases h0 : f x = 0
  · rw [oneIf_no h0, if_neg (by simp [h0])]
  · rw [oneIf_yes h0, if_pos (by simp [h0])]
theorem Counts.put {D : DataW Unit} {f : Int → Int} {m : Nat} (h : Counts D f m) (hT : Maps.Tidy D) (k v : Int) (hv : v ≠ 0) : Counts (D.put (.int .i64 k) (.lit (.int .i64 v))) (upd f k v) (m + 1 - oneIf (f k)) := by
  refine ⟨fun x => ?_, fun x => ?_, ?_⟩
  · by_cases e : x = k
    · subst e
      rw [atKey_put_same hT.isMap (by simp [WideAt.IsKeyLit]), upd_same]
    · rw [atKey_put_other (by simpa using e), h.val x, upd_other _ _ e]
  · by_cases e : x = k
    · subst e
      rw [has_put_same hT.isMap (by simp [WideAt.IsKeyLit]), upd_same]
      simp [hv]
    · rw [has_put_other (by simpa using e), h.is x, upd_other _ _ e]
  · rw [size_put hT, h.len, h.is]
    by_cases h0 : f k = 0
    · rw [if_neg (by simp [h0]), oneIf_no h0]; rfl
    · rw [if_pos (by simp [h0]), oneIf_yes h0]; rfl
theorem Counts.del {D : DataW Unit} {f : Int → Int} {m : Nat} (h : Counts D f m) (hT : Maps.Tidy D) (k : Int) : Counts (D.del (.int .i64 k)) (upd f k 0) (m - oneIf (f k)) := by
  refine ⟨fun x => ?_, fun x => ?_, ?_⟩
  · by_cases e : x = k
    · subst e
      rw [atKey_del_same, upd_same]
    · rw [atKey_del_other (by simpa using e), h.val x, upd_other _ _ e]
  · by_cases e : x = k
    · subst e
      rw [has_del_same, upd_same]
      simp
    · rw [has_del_other (by simpa using e), h.is x, upd_other _ _ e]
  · have h1 := size_del (k := .int .i64 k) hT
    rw [h.len] at h1
    rw [← h.tidy_len k]
    omega
section
variable {w : World} {ops : Array Oper} {rest : List Oper} {o : Oper} {a : Act} {Q : Exit → Act → World → Prop}
/-- 'm[k]' -/
theorem wpList_look_cnt (hg : o.guard = none) (m x : Operand) (hop : o.op = Op.lookup 26 m x false)
    (b n : Nat) (f : Int → Int) (c : Nat) (hm : a.eval m = .map (some b)) (hs : CntAt w b n f c) (k : Int) (hx : a.eval x = .int .i64 k) (hw : (Lit.int .i64 k).wf = true)
    (hK : wpList Try.prog ops Q rest (a.put o.dst (.int .i64 (f k))) w) : wpList Try.prog ops Q (o :: rest) a w := by
  obtain ⟨D, hD, hC⟩ := hs
  refine wpList_lookup_own_int w hg m x 26 hop 3 3 .i64 intKeys Try.underlying26 Try.underlying3 (zeroInt w) b n D hm hD (.int .i64 k) (.int .i64 k) hx (keyOf_int_mk Try.underlying3 hw) fun c hat _ => ?_
  rw [hC.val k] at hat
  simp only [DataW.lit.injEq, Lit.int.injEq, true_and] at hat
  rw [← hat]
  exact hK
/-- 'v, is := m[k]' -/
theorem wpList_look_cnt_ok (hg : o.guard = none) (m x : Operand) (hop : o.op = Op.lookup 26 m x true)
    (b n : Nat) (f : Int → Int) (c : Nat) (hm : a.eval m = .map (some b)) (hs : CntAt w b n f c) (k : Int) (hx : a.eval x = .int .i64 k) (hw : (Lit.int .i64 k).wf = true)
    (hK : wpList Try.prog ops Q rest (a.put o.dst (.tuple #[.int .i64 (f k), .bool (decide (f k ≠ 0))])) w) : wpList Try.prog ops Q (o :: rest) a w := by
  obtain ⟨D, hD, hC⟩ := hs
  refine wpList_lookup_own_ok_int w hg m x 26 hop 3 3 .i64 intKeys Try.underlying26 Try.underlying3 (zeroInt w) b n D hm hD (.int .i64 k) (.int .i64 k) hx (keyOf_int_mk Try.underlying3 hw) fun c hat _ => ?_
  rw [hC.val k] at hat
  simp only [DataW.lit.injEq, Lit.int.injEq, true_and] at hat
  rw [← hat, hC.is]
  exact hK
/-- 'm[k] = v', v not 0 -/
theorem wpList_put_cnt (hg : o.guard = none) (m x v : Operand) (hop : o.op = Op.mapUpdate 26 m x v)
    (b n : Nat) (f : Int → Int) (c : Nat) (hm : a.eval m = .map (some b)) (hs : CntAt w b n f c) (hn : n < maxLen) (k : Int) (hx : a.eval x = .int .i64 k) (hw : (Lit.int .i64 k).wf = true) (u : Int) (hv : a.eval v = .int .i64 u) (hu : (Lit.int .i64 u).wf = true) (h0 : u ≠ 0)
    (hK : ∀ w', CntAt w' b (n + 1) (upd f k u) (c + 1 - oneIf (f k)) → Stirred w w' [b] → wpList Try.prog ops Q rest (a.put o.dst undef) w') : wpList Try.prog ops Q (o :: rest) a w := by
  obtain ⟨D, hD, hC⟩ := hs
  exact wpList_mapUpdate_own w hg m x v 26 hop 3 3 intKeys Try.underlying26 _ b n D hm hD hn (.int .i64 k) (.int .i64 u) (.int .i64 k) hx hv (keyOf_int_mk Try.underlying3 hw) (.lit (.int .i64 u)) [] (plainElem_int Try.underlying3 hu) fun w' hD' hG => hK w' ⟨_, hD', hC.put (hD.tidy intKeys) k u h0⟩ (Stirred.of_grown hG)
/-- 'delete(m, k)' -/
theorem wpList_del_cnt (hg : o.guard = none) (m x : Operand) (hop : o.op = Op.call { callee := Callee.builtin Builtin.delete, args := #[m, x], argTypes := #[26, 3] })
    (b n : Nat) (f : Int → Int) (c : Nat) (hm : a.eval m = .map (some b)) (hs : CntAt w b n f c) (k : Int) (hx : a.eval x = .int .i64 k) (hw : (Lit.int .i64 k).wf = true)
    (hK : ∀ w', CntAt w' b n (upd f k 0) (c - oneIf (f k)) → Stirred w w' [b] → wpList Try.prog ops Q rest (a.put o.dst (.tuple #[])) w') : wpList Try.prog ops Q (o :: rest) a w := by
  obtain ⟨D, hD, hC⟩ := hs
  exact wpList_delete_own w hg m x 26 3 hop 3 intKeys Try.underlying26 _ b n D hm hD (.int .i64 k) (.int .i64 k) hx (keyOf_int_mk Try.underlying3 hw) fun w' hD' hT => hK w' ⟨_, hD', hC.del (hD.tidy intKeys) k⟩ (Stirred.of_grown hT.grown)
/-- 'len(m)' -/
theorem wpList_len_cnt (hg : o.guard = none) (m : Operand) (hop : o.op = Op.call { callee := Callee.builtin Builtin.len, args := #[m], argTypes := #[26] })
    (b n : Nat) (f : Int → Int) (c : Nat) (hm : a.eval m = .map (some b)) (hs : CntAt w b n f c)
    (hK : wpList Try.prog ops Q rest (a.put o.dst (.int .i64 (c : Int))) w) : wpList Try.prog ops Q (o :: rest) a w := by
  obtain ⟨D, hD, hC⟩ := hs
  refine wpList_len_own w hg m 26 hop 3 3 Try.underlying26 _ b n D hm hD ?_
  rw [hC.len]
  exact hK
end
/-- the same as equations -/
theorem CntAt.look {w : World} {b n : Nat} {f : Int → Int} {m : Nat} (h : CntAt w b n f m) (k : Int) (hw : (Lit.int .i64 k).wf = true) : (Instr.lookup 26 (.map (some b)) (.int .i64 k) false).run Try.prog w = .ok (.int .i64 (f k)) w := by
  obtain ⟨D, hD, hC⟩ := h
  obtain ⟨c, hrun, hat, _⟩ := hD.lookup_int intKeys Try.underlying26 Try.underlying3 (zeroInt w) (keyOf_int_mk Try.underlying3 hw)
  rw [hC.val k] at hat
  simp only [DataW.lit.injEq, Lit.int.injEq, true_and] at hat
  rw [hrun, hat]
theorem CntAt.look_ok {w : World} {b n : Nat} {f : Int → Int} {m : Nat} (h : CntAt w b n f m) (k : Int) (hw : (Lit.int .i64 k).wf = true) : (Instr.lookup 26 (.map (some b)) (.int .i64 k) true).run Try.prog w = .ok (.tuple #[.int .i64 (f k), .bool (decide (f k ≠ 0))]) w := by
  obtain ⟨D, hD, hC⟩ := h
  obtain ⟨v, ps, hrun, hv⟩ := hD.look_ok intKeys Try.underlying26 (zeroInt w) (plainElem_int Try.underlying3 (by decide)) (keyOf_int_mk Try.underlying3 hw)
  obtain ⟨c, rfl, hc, _⟩ := plainElem_int_inv Try.underlying3 hv
  have hat := congrArg Prod.fst hc
  rw [hC.val k] at hat
  simp only [DataW.lit.injEq, Lit.int.injEq, true_and] at hat
  rw [hrun, hC.is, hat]
theorem CntAt.size {w : World} {b n : Nat} {f : Int → Int} {m : Nat} (h : CntAt w b n f m) (ty : TypeId) : (Builtin.len_ #[26] ty #[.map (some b)]).run Try.prog w = .ok (.int .i64 (m : Int)) w := by
  obtain ⟨D, hD, hC⟩ := h
  rw [hD.len Try.underlying26 ty, hC.len]
/-- the counts of package hot, and a map of counts, in one call's world -/
structure PS (W w : World) (p : Nat) (n : Int) (f : Int → Int) (m : Nat) (bm q : Nat) (fc : Int → Int) (mc : Nat) : Prop where
  st : St W w p n f m
  cnt : CntAt w bm q fc mc
  low : W.heap.size ≤ bm
section
variable {W w : World} {p : Nat} {n : Int} {f fc : Int → Int} {m mc bm q : Nat}
theorem CntAt.off {B : Nat} {bs : List Nat} {ps : List Pl} (hc : CntAt w bm q fc mc) (h : At w B p bs n ps) : bm ∉ bs := by
  intro hm
  obtain ⟨es, c, hb⟩ := hc.block
  obtain ⟨v, h1, h2, rfl⟩ := h.own
  rcases List.mem_cons.1 hm with rfl | hm
  · rw [hb] at h1; cases h1
  · obtain ⟨_, _, cur, hcur⟩ := h2.block bm (by simpa using hm)
    rw [hb] at hcur; cases hcur
theorem PS.drewN (h : PS W w p n f m bm q fc mc) (k : Nat) : PS W (w.drewN k) p n f m bm q fc mc :=
  ⟨h.st.drewN k, h.cnt.touch (Stirred.drewN w k []) List.not_mem_nil, h.low⟩
theorem PS.kept {w' : World} (h : PS W w p n f m bm q fc mc) (hb : Below w.heap.size w w') : PS W w' p n f m bm q fc mc :=
  ⟨h.st.kept hb, h.cnt.touch (Stirred.of_below hb []) List.not_mem_nil, h.low⟩
/-- the map alone has turned -/
theorem PS.turned {w' : World} {q' : Nat} {fc' : Int → Int} {mc' : Nat} (h : PS W w p n f m bm q fc mc) (hc : CntAt w' bm q' fc' mc') (hs : Stirred w w' [bm]) : PS W w' p n f m bm q' fc' mc' := by
  obtain ⟨bs, ps, hA, hI, hm⟩ := h.st.way
  refine ⟨⟨⟨bs, ps, hA.touch hs (fun k hk hm => ?_), hI, hm⟩, h.st.below.trans (hs.below (fun k hk => by rw [List.mem_singleton.1 hk]; exact h.low) h.st.below.size)⟩, hc, h.low⟩
  rw [List.mem_singleton.1 hm] at hk
  exact h.cnt.off hA hk
theorem ps_pass (h : PS W w p n f m bm q fc mc) (hn : 0 < n) (ip : Int) (hc : f ip ≤ 1000000) : Calls Try.prog 9 #[.pointer (some ⟨p, 0, none⟩), .int .i64 ip] w fun e w' => ∃ f' m', e = .returned (.bool (decide (n ≤ f ip + 1))) ∧ PS W w' p n f' m' bm q fc mc ∧ Pass n f m ip (decide (n ≤ f ip + 1)) f' m' := by
  obtain ⟨bs, ps, hA, hI, hm⟩ := h.st.way
  subst hm
  exact (pass_any hA h.st.below.size hI hn ip hc).mono fun e w' ⟨f', ps', bs', h1, h2, h3, h4, h5, h6⟩ => ⟨f', _, h1, ⟨⟨⟨bs', ps', h2, h3, rfl⟩, hA.past h.st.below h5⟩, h.cnt.touch h5 (h.cnt.off hA), h.low⟩, h4⟩
theorem ps_forget (h : PS W w p n f m bm q fc mc) (ip : Int) : Calls Try.prog 10 #[.pointer (some ⟨p, 0, none⟩), .int .i64 ip] w fun e w' => e = .returned (.tuple #[]) ∧ PS W w' p n (upd f ip 0) (m - oneIf (f ip)) bm q fc mc := by
  obtain ⟨bs, ps, hA, hI, hm⟩ := h.st.way
  subst hm
  exact (forget_any hA hI ip).mono fun e w' ⟨h1, ps', h2, h3, h4, h5⟩ => ⟨h1, ⟨⟨bs, ps', h2, h3, by omega⟩, hA.past h.st.below h5⟩, h.cnt.touch h5 (h.cnt.off hA), h.low⟩
end
/-- what is given up is there -/
theorem St.any {W w : World} {p : Nat} {n : Int} {f : Int → Int} {m : Nat} (h : St W w p n f m) (h0 : 0 < m) : ∃ z, f z ≠ 0 := by
  obtain ⟨bs, ps, hA, hI, hm⟩ := h.way
  obtain ⟨x, hx⟩ : ∃ x, ps[0]? = some x := ⟨_, List.getElem?_eq_getElem (show 0 < ps.length by omega)⟩
  have := hI.mem x (List.mem_of_getElem? hx)
  exact ⟨x.1, by omega⟩
/-- a list of operations that came in -/
def OpsAt (w : World) (v : Value) (ops : List (Int × Int)) : Prop :=
  ∃ ao cap, v = .slice ao ops.length cap ∧ ∀ j k a, ops[j]? = some (k, a) → ∃ ad, ao = some ad ∧ w.cell? (ad.add (j * 2)) = some (.int .i64 k) ∧ w.cell? (ad.add (j * 2 + 1)) = some (.int .i64 a) ∧ (Lit.int .i64 a).wf = true
theorem OpsAt.below {w w' : World} {v : Value} {ops : List (Int × Int)} (h : OpsAt w v ops) (hb : Below w.heap.size w w') : OpsAt w' v ops := by
  obtain ⟨ao, cap, e, hc⟩ := h
  refine ⟨ao, cap, e, fun j k a hj => ?_⟩
  obtain ⟨ad, ha, h1, h2, h3⟩ := hc j k a hj
  have tr : ∀ {p : Addr} {u : Value}, w.cell? p = some u → w'.cell? p = some u := fun {p u} hu => by rw [hb.cell (p := p) (World.block_lt_of_cell? w _ hu)]; exact hu
  exact ⟨ad, ha, tr h1, tr h2, h3⟩
open Go.ChangeShapes Go.WideShapes Go.Deep
set_option maxRecDepth 1000000 in
theorem cells_op : Try.prog.cellsOf 28 = 2 := by kernel_rfl
set_option maxRecDepth 1000000 in
theorem cells_int' : Try.prog.cellsOf 3 = 1 := by kernel_rfl
set_option maxRecDepth 100000 in
theorem opsOf {H : Type} {enc : TypeId × Value → H} {W : World} {base : Nat} {v : Value} {d : DataW H} {p : List MemPlace} (hv : Value.okWide Try.prog W .any base 22 v) (h : DataW.Trod enc Try.prog W 0 (fun _ => true) true 22 v d p) : ∃ ops, OpsAt W v ops := by
  obtain ⟨a0, len, cap, rfl⟩ := okWide_slice Try.underlying22 hv
  obtain ⟨fuel, hf⟩ := h
  rcases open_slice Try.underlying22 hf with ⟨hcs, hx⟩ | ⟨a, len', cap', m, n, D, Pl, hcs, _, hl, hm, hmm, hx, hi⟩
  · simp [Value.cells] at hcs
    obtain ⟨rfl, rfl, rfl⟩ := hcs
    exact ⟨[], none, 0, rfl, fun j k a h => by cases h⟩
  · simp [Value.cells] at hcs
    obtain ⟨rfl, rfl, rfl⟩ := hcs
    simp only [if_true] at hmm
    have each : ∀ i, i < len → ∃ q : Int × Int, W.cell? (a.add (i * 2)) = some (.int .i64 q.1) ∧ W.cell? (a.add (i * 2 + 1)) = some (.int .i64 q.2) ∧ (Lit.int .i64 q.2).wf = true := by
      intro i hil
      obtain ⟨cs, h1, h2⟩ := hi i (by omega)
      rw [cells_op] at h1
      obtain ⟨_, hlen, hcell⟩ := World.cells?_some h1
      obtain ⟨ys, k, _, _, _, hyl, hg⟩ := DataW.trod_struct Try.underlying28 h2
      match ys, hyl, cs, hlen with
      | [y0, y1], _, [v0, v1], _ =>
        have g0 : DataW.trod enc Try.prog W 0 (fun _ => true) true k 3 [v0] = some y0 := by have := hg 0 _ rfl; simpa [cells_int'] using this
        have g1 : DataW.trod enc Try.prog W 0 (fun _ => true) true k 3 [v1] = some y1 := by have := hg 1 _ rfl; simpa [cells_int'] using this
        obtain ⟨z0, e0, _, _⟩ := DataW.trod_int Try.underlying3 g0
        obtain ⟨z1, e1, _, wf1⟩ := DataW.trod_int Try.underlying3 g1
        simp at e0 e1
        subst e0; subst e1
        have c0 := hcell 0 (by omega)
        have c1 := hcell 1 (by omega)
        rw [add_add] at c0 c1
        exact ⟨(z0, z1), by simpa using c0, by simpa using c1, wf1⟩
    obtain ⟨q, hq⟩ := choose_lt each
    refine ⟨(List.range len).map q, some a, cap, by simp, fun j k a' h => ?_⟩
    rw [List.getElem?_map] at h
    by_cases hj : j < len
    · rw [List.getElem?_range hj] at h
      simp at h
      have := hq j hj
      rw [h] at this
      exact ⟨a, rfl, this.1, this.2.1, this.2.2⟩
    · rw [List.getElem?_eq_none (by simp; omega)] at h
      cases h
end Go.Proofs.Ytajgkheagahfeaa.Hot
