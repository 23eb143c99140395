
/- Parts of a list that is only read, as laws for the walk; 'append' of what is read, inside a region that draws its order. -/
import Derived.Test.YtlomfmilohbgpaaGreatDoorVals
import Derived.Deep.RegionLaw
namespace Go.Proofs.YtlomfmilohbgpaaGreatDoor
open Go.RowKit Book Mem
set_option linter.unusedVariables false
/-- what a slice reads as, and the room that it has -/
def ReadsC (w : World) (v : Value) (xs : List Int) : Prop := Reads w v xs ∧ ∃ ao c, v = .slice ao xs.length c ∧ xs.length ≤ c
theorem ReadsC.of_owns {w : World} {B : Nat} {v : Value} {xs : List Int} (h : Owns w B 3 v (vals xs)) : ReadsC w v xs := by
  refine ⟨Reads.of_owns h, ?_⟩
  rcases h with ⟨ao, h1, h2⟩ | ⟨g, cap, cur, h1, h0, h2, h3, h4, _⟩
  · have hx : xs = [] := List.map_eq_nil_iff.1 h2
    subst hx
    exact ⟨ao, 0, h1, Nat.le_refl _⟩
  · rw [vals_length] at h1 h4
    exact ⟨_, _, h1, h4⟩
theorem ReadsC.below {w w' : World} {v : Value} {xs : List Int} (h : ReadsC w v xs) (hb : Below w.heap.size w w') : ReadsC w' v xs := ⟨h.1.below hb, h.2⟩
theorem run_slice_part {P : Program} (w : World) (t E : TypeId) (ht : P.underlying t = some (.slice E)) (hz : ∀ w, (sizeOf E).run P w = .ok 1 w) (v : Value) (xs : List Int) (hr : ReadsC w v xs) (l h : Nat) (lo hi : Option Value)
    (hlo : lo = some (.int .i64 l) ∨ lo = none ∧ l = 0) (hhi : hi = some (.int .i64 h) ∨ hi = none ∧ h = xs.length) (hlh : l ≤ h) (hh : h ≤ xs.length) :
    ∃ v', (Instr.sliceAt t v lo hi none).run P w = .ok v' w ∧ ReadsC w v' ((xs.take h).drop l) := by
  obtain ⟨⟨_, _, e0, hc⟩, ao, c, rfl, hcap⟩ := hr
  simp only [Value.slice.injEq] at e0
  obtain ⟨rfl, -, rfl⟩ := e0
  have hlen : ((xs.take h).drop l).length = h - l := by rw [List.length_drop, List.length_take]; omega
  refine ⟨.slice (if c = l then ao else ao.map (·.add (l * 1))) (h - l) (c - l), ?_, ⟨_, _, by rw [hlen], fun j x hj => ?_⟩, _, _, by rw [hlen], by rw [hlen]; omega⟩
  · have e1 : ∀ code, (Instr.sliceBound (.int .i64 h) c code).run P w = .ok h w := fun code => by
      have h1 : h ≤ c := by omega
      simp [Instr.sliceBound, asIntOf, h1, go_sem]
    have e2 : ∀ code, (Instr.sliceBound (.int .i64 l) h code).run P w = .ok l w := fun code => by
      simp [Instr.sliceBound, asIntOf, hlh, go_sem]
    rcases hlo with rfl | ⟨rfl, rfl⟩ <;> rcases hhi with rfl | ⟨rfl, rfl⟩ <;> simp [Instr.sliceAt, Instr.slice, Instr.sliceBounds, run_underlying ht, hz, e1, e2]
  · have hjl := (List.getElem?_eq_some_iff.1 hj).1
    rw [hlen] at hjl
    rw [List.getElem?_drop, List.getElem?_take, if_pos (by omega)] at hj
    obtain ⟨a, rfl, hx⟩ := hc _ x hj
    refine ⟨a.add l, by rw [if_neg (by omega)]; simp, ?_⟩
    rw [Go.Deep.add_add]
    exact hx
/-- 'v[l:h]', of a list that is read -/
theorem wpList_slice_part {P : Program} {w : World} {ops : Array Oper} {rest : List Oper} {o : Oper} {a : Act} {Q : Exit → Act → World → Prop} (hw : Region.wanted o (yielded ops a.tmps) = true) (t : TypeId) (x : Operand) (lo hi : Option Operand) (hop : o.op = Op.slice t x lo hi none)
    (E : TypeId) (ht : P.underlying t = some (.slice E)) (hz : ∀ w, (sizeOf E).run P w = .ok 1 w) (v : Value) (xs : List Int) (hx : a.eval x = v) (hr : ReadsC w v xs) (l h : Nat)
    (hlo : lo.map a.eval = some (.int .i64 l) ∨ lo.map a.eval = none ∧ l = 0) (hhi : hi.map a.eval = some (.int .i64 h) ∨ hi.map a.eval = none ∧ h = xs.length) (hlh : l ≤ h) (hh : h ≤ xs.length)
    (hK : ∀ v', ReadsC w v' ((xs.take h).drop l) → wpList P ops Q rest (a.put o.dst v') w) : wpList P ops Q (o :: rest) a w := by
  obtain ⟨v', hrun, h2⟩ := run_slice_part (P := P) w t E ht hz v xs hr l h _ _ hlo hhi hlh hh
  refine wpList_step fun K hK' => ?_
  rw [if_pos hw]
  unfold Oper.wp execOp
  simp only [hop, hx, Option.map_none, hrun, Sem.run_bind, Sem.run_pure, Result.andThen_ok]
  exact hK' _ _ (hK v' h2)
theorem wp_append_reads {P : Program} (w : World) {o : Oper} {a : Act} {K : Act → World → Prop} {Q : Exit → Act → World → Prop} (s x : Operand) (t : TypeId)
    (ho : o.op = .call { callee := .builtin .append, args := #[s, x], argTypes := #[t, t] })
    (B E : Nat) (i : TypeInfo) (z : Value) (bytes : Nat) (ht : P.underlying t = some (.slice E)) (hi : P.info? E = some i) (hz : i.zero = some z) (hsize : i.size = 1) (hby : i.bytes = bytes) (hzs : z.cells.size = 1)
    (v : Value) (xs : List Value) (hs : a.eval s = v) (hown : Owns w B E v xs)
    (u : Value) (ys : List Int) (hx : a.eval x = u) (hu : Reads w u ys)
    (h63 : xs.length + ys.length ≤ maxLen) (hbytes : (xs.length + ys.length) * bytes ≤ 140737488355328) (hbase : B ≤ w.heap.size)
    (h : ∀ v' w', Owns w' B E v' (xs ++ vals ys) → Owns w' B E v xs → Stirred w w' (blk v).toList → ((blk v') = (blk v) ∨ ∃ k, (blk v') = some k ∧ w.heap.size ≤ k) → K (a.put o.dst v') w') : o.wp P a w K Q := by
  obtain ⟨uo, uc, rfl, hc⟩ := hu
  by_cases hy : ys = []
  · subst hy
    obtain ⟨vo, vc, hle, rfl⟩ : ∃ vo vc, xs.length ≤ vc ∧ v = .slice vo xs.length vc := by
      rcases hown with ⟨ao, h1, h2⟩ | ⟨g, cap, cur, h1, h0, _, _, h3, _⟩
      · exact ⟨ao, 0, by rw [h2]; exact Nat.le_refl _, by rw [h1, h2]; rfl⟩
      · exact ⟨_, _, h3, h1⟩
    have hr := run_append_empty (P := P) w t o.type E i ht hi vo uo xs.length vc uc hle
    unfold Oper.wp execOp
    simp only [ho, resolve, invoke, builtin, Sem.run_bind, Sem.run_pure, Result.andThen_ok, List.map_toArray, List.map_cons, List.map_nil, hs, hx, List.length_nil, hr]
    exact h _ w (by rw [show vals [] = [] from rfl, List.append_nil]; exact hown) hown (Stirred.refl _ _) (.inl rfl)
  · have hl : 0 < ys.length := List.length_pos_iff.2 hy
    obtain ⟨a0, rfl, _⟩ := hc 0 ys[0] (List.getElem?_eq_getElem hl)
    have hn := vals_length ys
    obtain ⟨v', w', hr, h2, h3, h4, h5⟩ := run_append_two (P := P) w B t o.type E i z bytes ht hi hz hsize hby hzs v xs hown a0 uc (vals ys) (fun j u hj => by
      simp only [vals, List.getElem?_map, Option.map_eq_some_iff] at hj
      obtain ⟨y, hy, rfl⟩ := hj
      obtain ⟨a', e', hc'⟩ := hc j y hy
      simp only [Option.some.injEq] at e'
      subst e'
      exact hc') (vals_one _) (by rw [vals_length]; exact hl) (by rw [vals_length]; exact h63) (by rw [vals_length]; exact hbytes) hbase
    rw [hn] at hr
    unfold Oper.wp execOp
    simp only [ho, resolve, invoke, builtin, Sem.run_bind, Sem.run_pure, Result.andThen_ok, List.map_toArray, List.map_cons, List.map_nil, hs, hx, hr]
    exact h v' w' h2 h3 h4 h5
theorem step_append_reads {P : Program} {w : World} {ops : Array Oper} {o : Oper} {a : Act} {K : Act → World → Prop} {Q : Exit → Act → World → Prop} {F : Prop} (hw : Region.wanted o (yielded ops a.tmps) = true) (s x : Operand) (t : TypeId)
    (ho : o.op = .call { callee := .builtin .append, args := #[s, x], argTypes := #[t, t] })
    (B E : Nat) (i : TypeInfo) (z : Value) (bytes : Nat) (ht : P.underlying t = some (.slice E)) (hi : P.info? E = some i) (hz : i.zero = some z) (hsize : i.size = 1) (hby : i.bytes = bytes) (hzs : z.cells.size = 1)
    (v : Value) (xs : List Value) (hs : a.eval s = v) (hown : Owns w B E v xs)
    (u : Value) (ys : List Int) (hx : a.eval x = u) (hu : Reads w u ys)
    (h63 : xs.length + ys.length ≤ maxLen) (hbytes : (xs.length + ys.length) * bytes ≤ 140737488355328) (hbase : B ≤ w.heap.size)
    (h : ∀ v' w', Owns w' B E v' (xs ++ vals ys) → Owns w' B E v xs → Stirred w w' (blk v).toList → ((blk v') = (blk v) ∨ ∃ k, (blk v') = some k ∧ w.heap.size ≤ k) → K (a.put o.dst v') w') : if Region.wanted o (yielded ops a.tmps) = true then o.wp P a w K Q else F := by
  rw [if_pos hw]
  exact wp_append_reads w s x t ho B E i z bytes ht hi hz hsize hby hzs v xs hs hown u ys hx hu h63 hbytes hbase h
end Go.Proofs.YtlomfmilohbgpaaGreatDoor
