
/- Lists of ints: as elements, read wherever they lie, owned; 'append' of what is read. -/
import Derived.Test.YtlomfmilohbgpaaGreatDoorRows
import Derived.Test.YtlomfmilohbgpaaGreatDoorBookPlain
import Derived.WalkKit
import Derived.Deep.Slices
import Derived.Lib.Hide
namespace Go.Proofs.YtlomfmilohbgpaaGreatDoor.Mem
open Go.RowKit Book
set_option linter.unusedVariables false
/-- numbers as elements -/
abbrev vals (xs : List Int) : List Value := xs.map (.int .i64)
theorem vals_one (xs : List Int) : ∀ u ∈ vals xs, u.oneCell' = true := fun u hu => by simp only [vals, List.mem_map] at hu; obtain ⟨_, _, rfl⟩ := hu; rfl
theorem vals_length (xs : List Int) : (vals xs).length = xs.length := List.length_map _
theorem vals_set (xs : List Int) (j : Nat) (v : Int) : (vals xs).set j (.int .i64 v) = vals (xs.set j v) := by simp [vals, List.map_set]
end Go.Proofs.YtlomfmilohbgpaaGreatDoor.Mem
namespace Go.Proofs.YtlomfmilohbgpaaGreatDoor
open Go.RowKit Book Mem
set_option linter.unusedVariables false
/-- what a slice reads as, wherever it lies -/
def Reads (w : World) (v : Value) (xs : List Int) : Prop := ∃ ao cap, v = .slice ao xs.length cap ∧ ∀ j x, xs[j]? = some x → ∃ a, ao = some a ∧ w.cell? (a.add j) = some (.int .i64 x)
theorem Reads.of_owns {w : World} {B : Nat} {v : Value} {xs : List Int} (h : Owns w B 3 v (vals xs)) : Reads w v xs := by
  rcases Nat.eq_zero_or_pos xs.length with h0 | h0
  · obtain ⟨ao, cap, e⟩ := h.slice
    rw [vals_length] at e
    exact ⟨ao, cap, e, fun j x hj => by have := (List.getElem?_eq_some_iff.1 hj).1; omega⟩
  · obtain ⟨g, cap, e, hc, _, _⟩ := h.row (by rw [vals_length]; exact h0)
    rw [vals_length] at e
    exact ⟨_, cap, e, fun j x hj => ⟨_, rfl, by rw [add_row]; exact hc j _ (by simp [vals, hj])⟩⟩
theorem Mem.owns_at {w : World} {B g n cap : Nat} {xs : List Int} (h : Owns w B 3 (.slice (some ⟨g, 0, none⟩) n cap) (vals xs)) {j : Nat} (hj : j < xs.length) : w.cell? ⟨g, j, none⟩ = some (.int .i64 xs[j]) ∧ w.frozen? ⟨g, j, none⟩ = false := by
  obtain ⟨g', c', e, hc, hf, _⟩ := h.row (by rw [vals_length]; omega)
  simp only [Value.slice.injEq, Option.some.injEq, Addr.mk.injEq, and_true] at e
  rw [e.1]
  exact ⟨hc j _ (by simp [vals, hj]), hf j⟩
theorem Mem.owns_slice {w : World} {B : Nat} {v : Value} {xs : List Int} (h : Owns w B 3 v (vals xs)) (h0 : 0 < xs.length) : ∃ g cap, v = .slice (some ⟨g, 0, none⟩) xs.length cap ∧ blk v = some g := by
  obtain ⟨g, cap, e, _, _, hl⟩ := h.row (by rw [vals_length]; omega)
  rw [vals_length] at e hl
  exact ⟨g, cap, e, by rw [e]; exact blk_pos (by omega)⟩
theorem Mem.owns_shorter {w : World} {B n m cap : Nat} {ao : Option Addr} {xs : List Int} (h : Owns w B 3 (.slice ao n cap) (vals xs)) (hm : m ≤ xs.length) : Owns w B 3 (.slice ao m cap) (vals (xs.take m)) := by
  rcases h with ⟨a, h1, h2⟩ | ⟨g', cap', cur, h1, h0, h2, h3, h4, h5, h6, h7⟩
  · have hx : xs = [] := List.map_eq_nil_iff.1 h2
    subst hx
    simp only [Value.slice.injEq] at h1
    obtain ⟨rfl, rfl, rfl⟩ := h1
    obtain rfl : m = 0 := by simpa using hm
    exact .inl ⟨_, rfl, rfl⟩
  · simp only [Value.slice.injEq] at h1
    obtain ⟨rfl, rfl, rfl⟩ := h1
    have hl : (vals (xs.take m)).length = m := by rw [vals_length, List.length_take]; omega
    rw [vals_length] at h4
    refine .inr ⟨g', cap, cur, by rw [hl], h0, h2, h3, by rw [hl]; omega, h5, h6, ?_⟩
    rw [hl, vals, List.map_take]
    have := congrArg (List.take m) h7
    rw [List.take_take, vals_length, Nat.min_eq_left hm] at this
    exact this
theorem Reads.below {w w' : World} {v : Value} {xs : List Int} (h : Reads w v xs) (hb : Below w.heap.size w w') : Reads w' v xs := by
  obtain ⟨ao, cap, e, hc⟩ := h
  refine ⟨ao, cap, e, fun j x hj => ?_⟩
  obtain ⟨a, ha, hx⟩ := hc j x hj
  exact ⟨a, ha, by rw [hb.cell (p := a.add j) (World.block_lt_of_cell? w _ hx)]; exact hx⟩
/-- .. from the q-th on, and up to the q-th -/
theorem Reads.drop {w : World} {ad : Addr} {n c : Nat} {l : List Int} (h : Reads w (.slice (some ad) n c) l) (q c' : Nat) : Reads w (.slice (some (ad.add q)) (n - q) c') (l.drop q) := by
  obtain ⟨_, _, e, hc⟩ := h
  refine ⟨_, c', by rw [List.length_drop]; simp only [Value.slice.injEq] at e; rw [e.2.1], fun j x hj => ?_⟩
  rw [List.getElem?_drop] at hj
  obtain ⟨a, ha, hx⟩ := hc _ x hj
  simp only [Value.slice.injEq] at e
  rw [← e.1] at ha
  simp only [Option.some.injEq] at ha
  subst ha
  exact ⟨_, rfl, by rw [Go.Deep.add_add]; exact hx⟩
theorem Reads.take {w : World} {ao : Option Addr} {n c : Nat} {l : List Int} (h : Reads w (.slice ao n c) l) (q c' : Nat) (hq : q ≤ l.length) : Reads w (.slice ao q c') (l.take q) := by
  obtain ⟨_, _, e, hc⟩ := h
  refine ⟨ao, c', by rw [List.length_take, Nat.min_eq_left hq], fun j x hj => ?_⟩
  rw [List.getElem?_take] at hj
  split at hj
  · obtain ⟨a, ha, hx⟩ := hc _ x hj
    simp only [Value.slice.injEq] at e
    exact ⟨a, by rw [e.1]; exact ha, hx⟩
  · cases hj
theorem wpList_append_reads {P : Program} (w : World) {ops : Array Oper} {rest : List Oper} {o : Oper} {a : Act} {Q : Exit → Act → World → Prop} (hgd : o.guard = none) (s x : Operand) (t : TypeId)
    (ho : o.op = .call { callee := .builtin .append, args := #[s, x], argTypes := #[t, t] })
    (B E : Nat) (i : TypeInfo) (z : Value) (bytes : Nat) (ht : P.underlying t = some (.slice E)) (hi : P.info? E = some i) (hz : i.zero = some z) (hsize : i.size = 1) (hby : i.bytes = bytes) (hzs : z.cells.size = 1)
    (v : Value) (xs : List Value) (hs : a.eval s = v) (hown : Owns w B E v xs)
    (u : Value) (ys : List Int) (hx : a.eval x = u) (hu : Reads w u ys)
    (h63 : xs.length + ys.length ≤ maxLen) (hbytes : (xs.length + ys.length) * bytes ≤ 140737488355328) (hbase : B ≤ w.heap.size)
    (h : ∀ v' w', Owns w' B E v' (xs ++ vals ys) → Owns w' B E v xs → Stirred w w' (blk v).toList → ((blk v') = (blk v) ∨ ∃ k, (blk v') = some k ∧ w.heap.size ≤ k) → wpList P ops Q rest (a.put o.dst v') w') : wpList P ops Q (o :: rest) a w := by
  obtain ⟨uo, uc, rfl, hc⟩ := hu
  by_cases hy : ys = []
  · subst hy
    obtain ⟨vo, vc, hle, rfl⟩ : ∃ vo vc, xs.length ≤ vc ∧ v = .slice vo xs.length vc := by
      rcases hown with ⟨ao, h1, h2⟩ | ⟨g, cap, cur, h1, h0, _, _, h3, _⟩
      · exact ⟨ao, 0, by rw [h2]; exact Nat.le_refl _, by rw [h1, h2]; rfl⟩
      · exact ⟨_, _, h3, h1⟩
    refine wpList_plain hgd fun K hK => ?_
    have hr := run_append_empty (P := P) w t o.type E i ht hi vo uo xs.length vc uc hle
    unfold Oper.wp execOp
    simp only [ho, resolve, invoke, builtin, Sem.run_bind, Sem.run_pure, Result.andThen_ok, List.map_toArray, List.map_cons, List.map_nil, hs, hx, List.length_nil, hr]
    exact hK _ _ (h _ w (by rw [show vals [] = [] from rfl, List.append_nil]; exact hown) hown (Stirred.refl _ _) (.inl rfl))
  · have hl : 0 < ys.length := List.length_pos_iff.2 hy
    obtain ⟨a0, rfl, _⟩ := hc 0 ys[0] (List.getElem?_eq_getElem hl)
    have := wpList_append_two w hgd s x t ho B E i z bytes ht hi hz hsize hby hzs v xs hs hown a0 ys.length uc (vals ys) (vals_length _) hx (fun j u hj => by
      simp only [vals, List.getElem?_map, Option.map_eq_some_iff] at hj
      obtain ⟨y, hy, rfl⟩ := hj
      obtain ⟨a', e', hc'⟩ := hc j y hy
      simp only [Option.some.injEq] at e'
      subst e'
      exact hc') (vals_one _) (by rw [vals_length]; exact hl) (by rw [vals_length]; exact h63) (by rw [vals_length]; exact hbytes) hbase h
    exact this
end Go.Proofs.YtlomfmilohbgpaaGreatDoor
