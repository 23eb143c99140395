
/- Lists of structs: 'append' of what is read, wherever it lies; shorter lists; no program in sight. -/
import Derived.Test.YtpecingkoodmfaaGreatDoorBookFlat
import Derived.RegionTactic
namespace Go.Proofs.YtpecingkoodmfaaGreatDoor.Book.Wide
open Go.RowKit
set_option linter.unusedVariables false
/-- what a slice reads as, cell for cell, wherever it lies -/
def ReadsK (w : World) (sz : Nat) (v : Value) (ys : List Value) : Prop := ∃ ao n cap, v = .slice ao n cap ∧ ys.length = n * sz ∧ ∀ j x, ys[j]? = some x → ∃ a, ao = some a ∧ w.cell? (a.add j) = some x
theorem ReadsK.below {w w' : World} {sz : Nat} {v : Value} {ys : List Value} (h : ReadsK w sz v ys) (hb : Below w.heap.size w w') : ReadsK w' sz v ys := by
  obtain ⟨ao, n, cap, e, hl, hc⟩ := h
  refine ⟨ao, n, cap, e, hl, fun j x hj => ?_⟩
  obtain ⟨a, ha, hx⟩ := hc j x hj
  exact ⟨a, ha, by rw [hb.cell (p := a.add j) (World.block_lt_of_cell? w _ hx)]; exact hx⟩
theorem ReadsK.of_owns {w : World} {B E sz : Nat} {v : Value} {xs : List Value} (h : OwnsK w B E sz v xs) (hsz : 0 < sz) : ReadsK w sz v xs := by
  rcases h.form with ⟨ao, e, hx⟩ | ⟨g, n, cap, e, hc, hl⟩
  · subst hx
    exact ⟨ao, 0, 0, e, by simp, fun j x hj => by cases hj⟩
  · rcases Nat.eq_zero_or_pos n with h0 | h0
    · subst h0
      refine ⟨_, 0, cap, e, hl, fun j x hj => ?_⟩
      have := (List.getElem?_eq_some_iff.1 hj).1
      omega
    · obtain ⟨g', c', e', hcell, _, _⟩ := h.row hl hsz h0
      rw [e] at e'
      simp only [Value.slice.injEq, Option.some.injEq, Addr.mk.injEq, and_true, true_and] at e'
      obtain ⟨rfl, rfl⟩ := e'
      exact ⟨_, n, cap, e, hl, fun j x hj => ⟨_, rfl, by rw [add_row]; exact hcell j x hj⟩⟩
/-- one element that a block is -/
theorem ReadsK.of_whole {w : World} {g sz T : Nat} {cs : List Value} {cap : Nat} (h : w.heap[g]? = some (.cells cs.toArray T (0, 0))) (hl : cs.length = sz) : ReadsK w sz (.slice (some ⟨g, 0, none⟩) 1 cap) cs :=
  ⟨_, 1, cap, rfl, by omega, fun j x hj => ⟨_, rfl, by rw [add_row]; exact whole_cell h (by simpa using hj)⟩⟩
/-- a shorter list in the same row -/
theorem OwnsK.shorter {w : World} {B E sz n m cap : Nat} {ao : Option Addr} {xs : List Value} (h : OwnsK w B E sz (.slice ao n cap) xs) (hsz : 0 < sz) (hm : m ≤ n) : OwnsK w B E sz (.slice ao m cap) (xs.take (m * sz)) := by
  rcases h with ⟨a, h1, h2⟩ | ⟨g, n', cap', cur, h1, h0, h2, h3, hl, h4, h5, h6, h7⟩
  · simp only [Value.slice.injEq] at h1
    obtain ⟨rfl, rfl, rfl⟩ := h1
    obtain rfl : m = 0 := by omega
    subst h2
    exact .inl ⟨_, rfl, by simp⟩
  · simp only [Value.slice.injEq] at h1
    obtain ⟨rfl, rfl, rfl⟩ := h1
    have hle : m * sz ≤ n * sz := Nat.mul_le_mul_right _ hm
    refine .inr ⟨g, m, cap, cur, rfl, h0, h2, h3, by rw [List.length_take]; omega, by omega, h5, h6, ?_⟩
    have := congrArg (List.take (m * sz)) h7
    rw [List.take_take, Nat.min_eq_left hle] at this
    exact this
/-- 'append(v, u...)' onto a list of one's own -/
theorem wp_append_reads {P : Program} (w : World) {o : Oper} {a : Act} {K : Act → World → Prop} {Q : Exit → Act → World → Prop} (s x : Operand) (t : TypeId)
    (ho : o.op = .call { callee := .builtin .append, args := #[s, x], argTypes := #[t, t] })
    (B E sz : Nat) (i : TypeInfo) (z : Value) (bytes : Nat) (ht : P.underlying t = some (.slice E)) (hi : P.info? E = some i) (hz : i.zero = some z) (hsize : i.size = sz) (hby : i.bytes = bytes) (hzs : z.cells.size = sz) (hsz : 0 < sz)
    (v : Value) (n : Nat) (xs : List Value) (hs : a.eval s = v) (hown : OwnsK w B E sz v xs) (hn : xs.length = n * sz)
    (u : Value) (m : Nat) (ys : List Value) (hx : a.eval x = u) (hu : ReadsK w sz u ys) (hm : ys.length = m * sz) (h1 : ∀ y ∈ ys, y.oneCell' = true)
    (h63 : n + m ≤ maxLen) (hbytes : (n + m) * bytes ≤ 140737488355328) (hbase : B ≤ w.heap.size)
    (h : ∀ v' w', OwnsK w' B E sz v' (xs ++ ys) → OwnsK w' B E sz v xs → Stirred w w' (blk v).toList → ((blk v') = (blk v) ∨ ∃ k, (blk v') = some k ∧ w.heap.size ≤ k) → K (a.put o.dst v') w') : o.wp P a w K Q := by
  obtain ⟨uo, m', uc, rfl, hl, hc⟩ := hu
  obtain rfl : m' = m := Nat.eq_of_mul_eq_mul_right hsz (by omega)
  by_cases h0 : m' = 0
  · subst h0
    have hy : ys = [] := List.eq_nil_of_length_eq_zero (by omega)
    subst hy
    obtain ⟨vo, vc, hle, rfl⟩ : ∃ vo vc, n ≤ vc ∧ v = .slice vo n vc := by
      rcases hown with ⟨ao, h2, h3⟩ | ⟨g, n', cap, cur, h2, h0, _, _, hl', h3, _⟩
      · subst h3
        have : n = 0 := by
          rcases Nat.eq_zero_or_pos n with h | h
          · exact h
          · have := Nat.mul_pos h hsz; simp at hn; omega
        exact ⟨ao, 0, by omega, by rw [h2, this]⟩
      · have : n' = n := Nat.eq_of_mul_eq_mul_right hsz (by omega)
        exact ⟨some ⟨g, 0, none⟩, cap, by omega, by rw [h2, this]⟩
    have hr := run_append_empty (P := P) w t o.type E i ht hi vo uo n vc uc hle
    unfold Oper.wp execOp
    simp only [ho, resolve, invoke, builtin, Sem.run_bind, Sem.run_pure, Result.andThen_ok, List.map_toArray, List.map_cons, List.map_nil, hs, hx, hr]
    exact h _ w (by rw [List.append_nil]; exact hown) hown (Stirred.refl _ _) (.inl rfl)
  · have hpos : 0 < ys.length := by rw [hm]; exact Nat.mul_pos (by omega) hsz
    obtain ⟨a0, rfl, _⟩ := hc 0 ys[0] (List.getElem?_eq_getElem hpos)
    obtain ⟨v', w', hr, h2, h3, h4, h5⟩ := run_append_two (P := P) w B t o.type E sz i z bytes ht hi hz hsize hby hzs hsz v n xs hown hn a0 m' uc ys hm (fun j y hj => by
      obtain ⟨a', e', hc'⟩ := hc j y hj
      simp only [Option.some.injEq] at e'
      subst e'
      exact hc') h1 (by omega) h63 hbytes hbase
    unfold Oper.wp execOp
    simp only [ho, resolve, invoke, builtin, Sem.run_bind, Sem.run_pure, Result.andThen_ok, List.map_toArray, List.map_cons, List.map_nil, hs, hx, hr]
    exact h v' w' h2 h3 h4 h5
theorem step_append_reads {P : Program} {w : World} {ops : Array Oper} {o : Oper} {a : Act} {K : Act → World → Prop} {Q : Exit → Act → World → Prop} {F : Prop} (hw : Region.wanted o (yielded ops a.tmps) = true) (s x : Operand) (t : TypeId)
    (ho : o.op = .call { callee := .builtin .append, args := #[s, x], argTypes := #[t, t] })
    (B E sz : Nat) (i : TypeInfo) (z : Value) (bytes : Nat) (ht : P.underlying t = some (.slice E)) (hi : P.info? E = some i) (hz : i.zero = some z) (hsize : i.size = sz) (hby : i.bytes = bytes) (hzs : z.cells.size = sz) (hsz : 0 < sz)
    (v : Value) (n : Nat) (xs : List Value) (hs : a.eval s = v) (hown : OwnsK w B E sz v xs) (hn : xs.length = n * sz)
    (u : Value) (m : Nat) (ys : List Value) (hx : a.eval x = u) (hu : ReadsK w sz u ys) (hm : ys.length = m * sz) (h1 : ∀ y ∈ ys, y.oneCell' = true)
    (h63 : n + m ≤ maxLen) (hbytes : (n + m) * bytes ≤ 140737488355328) (hbase : B ≤ w.heap.size)
    (h : ∀ v' w', OwnsK w' B E sz v' (xs ++ ys) → OwnsK w' B E sz v xs → Stirred w w' (blk v).toList → ((blk v') = (blk v) ∨ ∃ k, (blk v') = some k ∧ w.heap.size ≤ k) → K (a.put o.dst v') w') : if Region.wanted o (yielded ops a.tmps) = true then o.wp P a w K Q else F := by
  rw [if_pos hw]
  exact wp_append_reads w s x t ho B E sz i z bytes ht hi hz hsize hby hzs hsz v n xs hs hown hn u m ys hx hu hm h1 h63 hbytes hbase h
theorem wpList_append_reads {P : Program} {w : World} {ops : Array Oper} {rest : List Oper} {o : Oper} {a : Act} {Q : Exit → Act → World → Prop} (hgd : o.guard = none) (s x : Operand) (t : TypeId)
    (ho : o.op = .call { callee := .builtin .append, args := #[s, x], argTypes := #[t, t] })
    (B E sz : Nat) (i : TypeInfo) (z : Value) (bytes : Nat) (ht : P.underlying t = some (.slice E)) (hi : P.info? E = some i) (hz : i.zero = some z) (hsize : i.size = sz) (hby : i.bytes = bytes) (hzs : z.cells.size = sz) (hsz : 0 < sz)
    (v : Value) (n : Nat) (xs : List Value) (hs : a.eval s = v) (hown : OwnsK w B E sz v xs) (hn : xs.length = n * sz)
    (u : Value) (m : Nat) (ys : List Value) (hx : a.eval x = u) (hu : ReadsK w sz u ys) (hm : ys.length = m * sz) (h1 : ∀ y ∈ ys, y.oneCell' = true)
    (h63 : n + m ≤ maxLen) (hbytes : (n + m) * bytes ≤ 140737488355328) (hbase : B ≤ w.heap.size)
    (h : ∀ v' w', OwnsK w' B E sz v' (xs ++ ys) → OwnsK w' B E sz v xs → Stirred w w' (blk v).toList → ((blk v') = (blk v) ∨ ∃ k, (blk v') = some k ∧ w.heap.size ≤ k) → wpList P ops Q rest (a.put o.dst v') w') : wpList P ops Q (o :: rest) a w := by
  refine wpList_plain hgd fun K hK => ?_
  exact wp_append_reads w s x t ho B E sz i z bytes ht hi hz hsize hby hzs hsz v n xs hs hown hn u m ys hx hu hm h1 h63 hbytes hbase (fun v' w' h2 h3 h4 h5 => hK _ _ (h v' w' h2 h3 h4 h5))
end Go.Proofs.YtpecingkoodmfaaGreatDoor.Book.Wide
