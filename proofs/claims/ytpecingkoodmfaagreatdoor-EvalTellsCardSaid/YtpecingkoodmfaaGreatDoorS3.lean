/- Lists of ints: as elements, read wherever they lie, owned; 'append' of what is read. -/
import Derived.Test.YtpecingkoodmfaaGreatDoorRows
import Derived.Test.YtpecingkoodmfaaGreatDoorS2
import Derived.WalkKit
import Derived.Deep.Slices
import Derived.Lib.Hide
import Derived.Great.BuildSlice
import Derived.Laws.Rows
import Derived.Laws.CopyRow
import Derived.Test.YtpecingkoodmfaaGreatDoorS1
import Derived.RowKit
import Derived.Laws.BitsAllLaws
import Derived.WalkSpells
import Derived.WalkLawsBesides
import Derived.Deep.QuietTactic
import Derived.BigQuiet
namespace Go.Proofs.YtpecingkoodmfaaGreatDoor.Mem
open Go.RowKit Book
set_option linter.unusedVariables false
/-- numbers as elements -/
abbrev vals (xs : List Int) : List Value := xs.map (.int .i64)
theorem vals_one (xs : List Int) : ∀ u ∈ vals xs, u.oneCell' = true := fun u hu => by simp only [vals, List.mem_map] at hu; obtain ⟨_, _, rfl⟩ := hu; rfl
theorem vals_length (xs : List Int) : (vals xs).length = xs.length := List.length_map _
theorem vals_set (xs : List Int) (j : Nat) (v : Int) : (vals xs).set j (.int .i64 v) = vals (xs.set j v) := by simp [vals, List.map_set]
end Go.Proofs.YtpecingkoodmfaaGreatDoor.Mem
namespace Go.Proofs.YtpecingkoodmfaaGreatDoor
open Go.RowKit Book Mem
set_option linter.unusedVariables false
/-- what a slice reads as, wherever it lies -/
def Reads (w : World) (v : Value) (xs : List Int) : Prop := ∃ ao cap, v = .slice ao xs.length cap ∧ ∀ j x, xs[j]? = some x → ∃ a, ao = some a ∧ w.cell? (a.add j) = some (.int .i64 x)
theorem Reads.of_owns {w : World} {B : Nat} {v : Value} {xs : List Int} (h : Owns w B 3 v (vals xs)) : Reads w v xs := by
  rcases Nat.eq_zero_or_pos xs.length with h0 | h0
  · obtain ⟨ao, cap, e⟩ := h.slice
    rw [vals_length] at e
    exact ⟨ao, cap, e, fun j x hj => by have := (List.getElem?_eq_some_iff.1 hj).1; omega⟩
  · obtain ⟨g, cap, e, hc, _, _⟩ := h.row (by rw [vals_length]; exact h0)
    rw [vals_length] at e
    exact ⟨_, cap, e, fun j x hj => ⟨_, rfl, by rw [add_row]; exact hc j _ (by simp [vals, hj])⟩⟩
theorem Mem.owns_at {w : World} {B g n cap : Nat} {xs : List Int} (h : Owns w B 3 (.slice (some ⟨g, 0, none⟩) n cap) (vals xs)) {j : Nat} (hj : j < xs.length) : w.cell? ⟨g, j, none⟩ = some (.int .i64 xs[j]) ∧ w.frozen? ⟨g, j, none⟩ = false := by
  obtain ⟨g', c', e, hc, hf, _⟩ := h.row (by rw [vals_length]; omega)
  simp only [Value.slice.injEq, Option.some.injEq, Addr.mk.injEq, and_true] at e
  rw [e.1]
  exact ⟨hc j _ (by simp [vals, hj]), hf j⟩
theorem Mem.owns_slice {w : World} {B : Nat} {v : Value} {xs : List Int} (h : Owns w B 3 v (vals xs)) (h0 : 0 < xs.length) : ∃ g cap, v = .slice (some ⟨g, 0, none⟩) xs.length cap ∧ blk v = some g := by
  obtain ⟨g, cap, e, _, _, hl⟩ := h.row (by rw [vals_length]; omega)
  rw [vals_length] at e hl
  exact ⟨g, cap, e, by rw [e]; exact blk_pos (by omega)⟩
theorem Mem.owns_shorter {w : World} {B n m cap : Nat} {ao : Option Addr} {xs : List Int} (h : Owns w B 3 (.slice ao n cap) (vals xs)) (hm : m ≤ xs.length) : Owns w B 3 (.slice ao m cap) (vals (xs.take m)) := by
  rcases h with ⟨a, h1, h2⟩ | ⟨g', cap', cur, h1, h0, h2, h3, h4, h5, h6, h7⟩
  · have hx : xs = [] := List.map_eq_nil_iff.1 h2
    subst hx
    simp only [Value.slice.injEq] at h1
    obtain ⟨rfl, rfl, rfl⟩ := h1
    obtain rfl : m = 0 := by simpa using hm
    exact .inl ⟨_, rfl, rfl⟩
  · simp only [Value.slice.injEq] at h1
    obtain ⟨rfl, rfl, rfl⟩ := h1
    have hl : (vals (xs.take m)).length = m := by rw [vals_length, List.length_take]; omega
    rw [vals_length] at h4
    refine .inr ⟨g', cap, cur, by rw [hl], h0, h2, h3, by rw [hl]; omega, h5, h6, ?_⟩
    rw [hl, vals, List.map_take]
    have := congrArg (List.take m) h7
    rw [List.take_take, vals_length, Nat.min_eq_left hm] at this
    exact this
theorem Reads.below {w w' : World} {v : Value} {xs : List Int} (h : Reads w v xs) (hb : Below w.heap.size w w') : Reads w' v xs := by
  obtain ⟨ao, cap, e, hc⟩ := h
  refine ⟨ao, cap, e, fun j x hj => ?_⟩
  obtain ⟨a, ha, hx⟩ := hc j x hj
  exact ⟨a, ha, by rw [hb.cell (p := a.add j) (World.block_lt_of_cell? w _ hx)]; exact hx⟩
/-- .. from the q-th on, and up to the q-th -/
theorem Reads.drop {w : World} {ad : Addr} {n c : Nat} {l : List Int} (h : Reads w (.slice (some ad) n c) l) (q c' : Nat) : Reads w (.slice (some (ad.add q)) (n - q) c') (l.drop q) := by
  obtain ⟨_, _, e, hc⟩ := h
  refine ⟨_, c', by rw [List.length_drop]; simp only [Value.slice.injEq] at e; rw [e.2.1], fun j x hj => ?_⟩
  rw [List.getElem?_drop] at hj
  obtain ⟨a, ha, hx⟩ := hc _ x hj
  simp only [Value.slice.injEq] at e
  rw [← e.1] at ha
  simp only [Option.some.injEq] at ha
  subst ha
  exact ⟨_, rfl, by rw [Go.Deep.add_add]; exact hx⟩
theorem Reads.take {w : World} {ao : Option Addr} {n c : Nat} {l : List Int} (h : Reads w (.slice ao n c) l) (q c' : Nat) (hq : q ≤ l.length) : Reads w (.slice ao q c') (l.take q) := by
  obtain ⟨_, _, e, hc⟩ := h
  refine ⟨ao, c', by rw [List.length_take, Nat.min_eq_left hq], fun j x hj => ?_⟩
  rw [List.getElem?_take] at hj
  split at hj
  · obtain ⟨a, ha, hx⟩ := hc _ x hj
    simp only [Value.slice.injEq] at e
    exact ⟨a, by rw [e.1]; exact ha, hx⟩
  · cases hj
theorem wpList_append_reads {P : Program} (w : World) {ops : Array Oper} {rest : List Oper} {o : Oper} {a : Act} {Q : Exit → Act → World → Prop} (hgd : o.guard = none) (s x : Operand) (t : TypeId)
    (ho : o.op = .call { callee := .builtin .append, args := #[s, x], argTypes := #[t, t] })
    (B E : Nat) (i : TypeInfo) (z : Value) (bytes : Nat) (ht : P.underlying t = some (.slice E)) (hi : P.info? E = some i) (hz : i.zero = some z) (hsize : i.size = 1) (hby : i.bytes = bytes) (hzs : z.cells.size = 1)
    (v : Value) (xs : List Value) (hs : a.eval s = v) (hown : Owns w B E v xs)
    (u : Value) (ys : List Int) (hx : a.eval x = u) (hu : Reads w u ys)
    (h63 : xs.length + ys.length ≤ maxLen) (hbytes : (xs.length + ys.length) * bytes ≤ 140737488355328) (hbase : B ≤ w.heap.size)
    (h : ∀ v' w', Owns w' B E v' (xs ++ vals ys) → Owns w' B E v xs → Stirred w w' (blk v).toList → ((blk v') = (blk v) ∨ ∃ k, (blk v') = some k ∧ w.heap.size ≤ k) → wpList P ops Q rest (a.put o.dst v') w') : wpList P ops Q (o :: rest) a w := by
  obtain ⟨uo, uc, rfl, hc⟩ := hu
  by_cases hy : ys = []
  · subst hy
    obtain ⟨vo, vc, hle, rfl⟩ : ∃ vo vc, xs.length ≤ vc ∧ v = .slice vo xs.length vc := by
      rcases hown with ⟨ao, h1, h2⟩ | ⟨g, cap, cur, h1, h0, _, _, h3, _⟩
      · exact ⟨ao, 0, by rw [h2]; exact Nat.le_refl _, by rw [h1, h2]; rfl⟩
      · exact ⟨_, _, h3, h1⟩
    refine wpList_plain hgd fun K hK => ?_
    have hr := run_append_empty (P := P) w t o.type E i ht hi vo uo xs.length vc uc hle
    unfold Oper.wp execOp
    simp only [ho, resolve, invoke, builtin, Sem.run_bind, Sem.run_pure, Result.andThen_ok, List.map_toArray, List.map_cons, List.map_nil, hs, hx, List.length_nil, hr]
    exact hK _ _ (h _ w (by rw [show vals [] = [] from rfl, List.append_nil]; exact hown) hown (Stirred.refl _ _) (.inl rfl))
  · have hl : 0 < ys.length := List.length_pos_iff.2 hy
    obtain ⟨a0, rfl, _⟩ := hc 0 ys[0] (List.getElem?_eq_getElem hl)
    have := wpList_append_two w hgd s x t ho B E i z bytes ht hi hz hsize hby hzs v xs hs hown a0 ys.length uc (vals ys) (vals_length _) hx (fun j u hj => by
      simp only [vals, List.getElem?_map, Option.map_eq_some_iff] at hj
      obtain ⟨y, hy, rfl⟩ := hj
      obtain ⟨a', e', hc'⟩ := hc j y hy
      simp only [Option.some.injEq] at e'
      subst e'
      exact hc') (vals_one _) (by rw [vals_length]; exact hl) (by rw [vals_length]; exact h63) (by rw [vals_length]; exact hbytes) hbase h
    exact this
end Go.Proofs.YtpecingkoodmfaaGreatDoor
/- Boxes: laws for the walk at blocks of many cells; the worlds behind them are letters with facts. No program in sight. -/
namespace Go.Proofs.YtpecingkoodmfaaGreatDoor.Book
open Go.RowKit
set_option linter.unusedVariables false
theorem Stirred.setRow (w : World) (g : Nat) (cs : Array Value) : Stirred w (w.setRow g cs) [g] :=
  ⟨rfl, rfl, rfl, by simp [World.setRow], fun k hk hn => setRow_other w g k cs (fun e => hn (by rw [e]; exact List.mem_singleton_self _))⟩
section
variable {P : Program} {ops : Array Oper} {rest : List Oper} {o : Oper} {a : Act} {w : World} {Q : Exit → Act → World → Prop}
/-- is a type's value one of many cells? -/
def many : TypeDesc → Bool
  | .struct _ => true
  | .array _ _ => true
  | _ => false
theorem run_isAgg {ty : TypeId} {d : TypeDesc} (hu : P.underlying ty = some d) (w : World) : (isAgg ty).run P w = .ok (many d) w := by
  unfold isAgg
  rw [Sem.run_bind, run_underlying hu w]
  cases d <;> rfl
/-- a cell is read -/
theorem wpList_getf (hw : Region.wanted o (yielded ops a.tmps) = true) (ty : TypeId) (x : Operand) (ho : o.op = .load ty x) (d : TypeDesc) (hu : P.underlying ty = some d) (hd : many d = false)
    (ad : Addr) (hx : a.eval x = .pointer (some ad)) (v : Value) (hc : w.cell? ad = some v) (h : wpList P ops Q rest (a.put o.dst v) w) : wpList P ops Q (o :: rest) a w := by
  refine wpList_step fun K hK => ?_
  rw [if_pos hw]
  have hl : (loadVar ty ad).run P w = .ok v w := by
    simp [loadVar, run_isAgg hu, hd, hc]
  unfold Oper.wp execOp
  simp only [ho, hx, Instr.loadAt, Instr.sureAddr, Sem.run_bind, Sem.run_pure, Result.andThen_ok, hl]
  exact hK _ _ h
/-- a box is read whole -/
theorem wpList_getbox (hw : Region.wanted o (yielded ops a.tmps) = true) (ty : TypeId) (x : Operand) (ho : o.op = .load ty x) (d : TypeDesc) (hu : P.underlying ty = some d) (hd : (match d with | .struct _ | .array _ _ => true | _ => false) = true)
    (g : Nat) (hx : a.eval x = .pointer (some ⟨g, 0, none⟩)) (cs : Array Value) (T : TypeId) (hg : w.heap[g]? = some (.cells cs T (0, 0))) (hi : (P.info? ty).map (·.size) = some cs.size)
    (h : wpList P ops Q rest (a.put o.dst (.agg cs)) w) : wpList P ops Q (o :: rest) a w := by
  refine wpList_step fun K hK => ?_
  rw [if_pos hw]
  exact wp_load_row ty x ho g hx T cs (0, 0) d hg hu hd hi (hK _ _ h)
/-- a box is written whole -/
theorem wpList_setbox (hw : Region.wanted o (yielded ops a.tmps) = true) (ty : TypeId) (x y : Operand) (ho : o.op = .store ty x y)
    (g : Nat) (cells : Array Value) (hx : a.eval x = .pointer (some ⟨g, 0, none⟩)) (hy : a.eval y = .agg cells) (old : Array Value) (T : TypeId) (hg : w.heap[g]? = some (.cells old T (0, 0))) (hi : (P.info? ty).map (·.size) = some cells.size)
    (hold : old.size = cells.size) (h1 : cells.all (·.oneCell') = true)
    (h : ∀ w', w'.heap[g]? = some (.cells cells T (0, 0)) → Stirred w w' [g] → wpList P ops Q rest (a.put o.dst undef) w') : wpList P ops Q (o :: rest) a w := by
  refine wpList_step fun K hK => ?_
  rw [if_pos hw]
  exact wp_store_row ty x y ho g cells hx hy T old hg hi hold h1 (hK _ _ (h _ (setRow_heap w g old cells T (0, 0) hg) (Stirred.setRow w g cells)))
end
end Go.Proofs.YtpecingkoodmfaaGreatDoor.Book
/- A trace in memory: a value of nine fields, its lists wherever they lie. -/
namespace Go.Proofs.YtpecingkoodmfaaGreatDoor.Ir
open Go.RowKit Book Mem
set_option linter.unusedVariables false
/-- what a call says, and it leaves all as it was, but for new blocks -/
def Says (v : Value) (w : World) (e : Ending) (w' : World) : Prop := e = .returned v ∧ Below w.heap.size w w'
theorem newBox (w : World) (cs : Array Value) (T : TypeId) : ∃ w1 g, w.alloc (.cells cs T) = w1 ∧ w.heap.size = g ∧ Hid (w1.heap[g]? = some (.cells cs T (0, 0))) ∧ Hid (Below w.heap.size w w1) ∧ Hid (w.heap.size = g) :=
  ⟨_, _, rfl, rfl, heap_alloc_new w _, (Below.refl w.heap.size w).alloc (Nat.le_refl _) _, rfl⟩
theorem boxOn {w w' : World} {g : Nat} {cs : Array Value} {T : TypeId} (h : w.heap[g]? = some (.cells cs T (0, 0))) (hb : Below w.heap.size w w') : w'.heap[g]? = some (.cells cs T (0, 0)) := (Stirred.of_below hb []).whole h List.not_mem_nil
theorem retB {a b : Bool} (h : a = b) : Ending.returned (.bool a) = .returned (.bool b) := by rw [h]
abbrev insA (x : I) : Array Value := #[.int .i64 x.1, .int .i64 x.2.1, .int .i64 x.2.2.1, .int .i64 x.2.2.2.1, .int .i64 x.2.2.2.2]
abbrev insV (x : I) : Value := .agg (insA x)
abbrev outA (x : O) (vs vb : Value) : Array Value := #[.int .i64 x.ip, .int .i64 x.steps, vs, vb]
abbrev outV (x : O) (vs vb : Value) : Value := .agg (outA x vs vb)
abbrev trA (t : T) (vi vo vc : Value) : Array Value := #[.int .i64 t.start, .int .i64 t.slots, .int .i64 t.backs, .int .i64 t.grow, .int .i64 t.growBack, vi, vo, .int .i64 t.last, vc]
abbrev trV (t : T) (vi vo vc : Value) : Value := .agg (trA t vi vo vc)
/-- a list of instructions, wherever it lies -/
def ReadsI (w : World) (v : Value) (l : List I) : Prop := ∃ ao cap, v = .slice ao l.length cap ∧ ∀ j x, l[j]? = some x → ∃ ad : Addr, ao = some ad ∧ w.cell? (ad.add (j * 5)) = some (.int .i64 x.1) ∧ w.cell? ⟨(ad.add (j * 5)).block, (ad.add (j * 5)).off + 1, none⟩ = some (.int .i64 x.2.1) ∧ w.cell? ⟨(ad.add (j * 5)).block, (ad.add (j * 5)).off + 2, none⟩ = some (.int .i64 x.2.2.1) ∧ w.cell? ⟨(ad.add (j * 5)).block, (ad.add (j * 5)).off + 3, none⟩ = some (.int .i64 x.2.2.2.1) ∧ w.cell? ⟨(ad.add (j * 5)).block, (ad.add (j * 5)).off + 4, none⟩ = some (.int .i64 x.2.2.2.2)
/-- a list of exits, wherever it and its lists lie -/
def ReadsO (w : World) (v : Value) (l : List O) : Prop := ∃ ao cap, v = .slice ao l.length cap ∧ ∀ j x, l[j]? = some x → ∃ (ad : Addr) (vs vb : Value), ao = some ad ∧ w.cell? (ad.add (j * 4)) = some (.int .i64 x.ip) ∧ w.cell? ⟨(ad.add (j * 4)).block, (ad.add (j * 4)).off + 1, none⟩ = some (.int .i64 x.steps) ∧ w.cell? ⟨(ad.add (j * 4)).block, (ad.add (j * 4)).off + 2, none⟩ = some vs ∧ w.cell? ⟨(ad.add (j * 4)).block, (ad.add (j * 4)).off + 3, none⟩ = some vb ∧ Reads w vs x.stack ∧ Reads w vb x.back
theorem ReadsI.below {w w' : World} {v : Value} {l : List I} (h : ReadsI w v l) (hb : Below w.heap.size w w') : ReadsI w' v l := by
  obtain ⟨ao, cap, e, hc⟩ := h
  refine ⟨ao, cap, e, fun j x hj => ?_⟩
  obtain ⟨ad, ha, h0, h1, h2, h3, h4⟩ := hc j x hj
  have tr : ∀ {p : Addr} {u : Value}, w.cell? p = some u → w'.cell? p = some u := fun {p u} hu => by rw [hb.cell (p := p) (World.block_lt_of_cell? w _ hu)]; exact hu
  exact ⟨ad, ha, tr h0, tr h1, tr h2, tr h3, tr h4⟩
theorem ReadsO.below {w w' : World} {v : Value} {l : List O} (h : ReadsO w v l) (hb : Below w.heap.size w w') : ReadsO w' v l := by
  obtain ⟨ao, cap, e, hc⟩ := h
  refine ⟨ao, cap, e, fun j x hj => ?_⟩
  obtain ⟨ad, vs, vb, ha, h0, h1, h2, h3, h4, h5⟩ := hc j x hj
  have tr : ∀ {p : Addr} {u : Value}, w.cell? p = some u → w'.cell? p = some u := fun {p u} hu => by rw [hb.cell (p := p) (World.block_lt_of_cell? w _ hu)]; exact hu
  exact ⟨ad, vs, vb, ha, tr h0, tr h1, tr h2, tr h3, h4.below hb, h5.below hb⟩
/-- a trace that is read, its lists wherever they lie -/
structure ReadsL (w : World) (vi vo vc : Value) (t : T) : Prop where
  ins : ReadsI w vi t.ins
  outs : ReadsO w vo t.outs
  cells : Reads w vc t.cells
theorem ReadsL.below {w w' : World} {vi vo vc : Value} {t : T} (h : ReadsL w vi vo vc t) (hb : Below w.heap.size w w') : ReadsL w' vi vo vc t := ⟨h.ins.below hb, h.outs.below hb, h.cells.below hb⟩
def ReadsT (w : World) (v : Value) (t : T) : Prop := ∃ vi vo vc, v = trV t vi vo vc ∧ ReadsL w vi vo vc t
/-- the three lists' values -/
theorem ReadsL.known {w : World} {vi vo vc : Value} {t : T} (h : ReadsL w vi vo vc t) : ∃ ai ci ao co ac cc, vi = .slice ai t.ins.length ci ∧ vo = .slice ao t.outs.length co ∧ vc = .slice ac t.cells.length cc := by
  obtain ⟨⟨ai, ci, e1, _⟩, ⟨ao, co, e2, _⟩, ⟨ac, cc, e3, _⟩⟩ := h
  exact ⟨ai, ci, ao, co, ac, cc, e1, e2, e3⟩
/-- one element of each list, its address known -/
theorem ReadsI.at {w : World} {ao : Option Addr} {n c : Nat} {l : List I} (h : ReadsI w (.slice ao n c) l) {j : Nat} {x : I} (hj : l[j]? = some x) : ∃ ad : Addr, ao = some ad ∧ w.cell? (ad.add (j * 5)) = some (.int .i64 x.1) ∧ w.cell? ⟨(ad.add (j * 5)).block, (ad.add (j * 5)).off + 1, none⟩ = some (.int .i64 x.2.1) ∧ w.cell? ⟨(ad.add (j * 5)).block, (ad.add (j * 5)).off + 2, none⟩ = some (.int .i64 x.2.2.1) ∧ w.cell? ⟨(ad.add (j * 5)).block, (ad.add (j * 5)).off + 3, none⟩ = some (.int .i64 x.2.2.2.1) ∧ w.cell? ⟨(ad.add (j * 5)).block, (ad.add (j * 5)).off + 4, none⟩ = some (.int .i64 x.2.2.2.2) := by
  obtain ⟨ao', c', e, hc⟩ := h
  simp only [Value.slice.injEq] at e
  obtain ⟨rfl, -, rfl⟩ := e
  exact hc j x hj
theorem ReadsO.at {w : World} {ao : Option Addr} {n c : Nat} {l : List O} (h : ReadsO w (.slice ao n c) l) {j : Nat} {x : O} (hj : l[j]? = some x) : ∃ (ad : Addr) (vs vb : Value), ao = some ad ∧ w.cell? (ad.add (j * 4)) = some (.int .i64 x.ip) ∧ w.cell? ⟨(ad.add (j * 4)).block, (ad.add (j * 4)).off + 1, none⟩ = some (.int .i64 x.steps) ∧ w.cell? ⟨(ad.add (j * 4)).block, (ad.add (j * 4)).off + 2, none⟩ = some vs ∧ w.cell? ⟨(ad.add (j * 4)).block, (ad.add (j * 4)).off + 3, none⟩ = some vb ∧ Reads w vs x.stack ∧ Reads w vb x.back := by
  obtain ⟨ao', c', e, hc⟩ := h
  simp only [Value.slice.injEq] at e
  obtain ⟨rfl, -, rfl⟩ := e
  exact hc j x hj
theorem Reads.at' {w : World} {ao : Option Addr} {n c : Nat} {l : List Int} (h : Reads w (.slice ao n c) l) {j : Nat} {x : Int} (hj : l[j]? = some x) : ∃ ad : Addr, ao = some ad ∧ w.cell? (ad.add j) = some (.int .i64 x) := by
  obtain ⟨ao', c', e, hc⟩ := h
  simp only [Value.slice.injEq] at e
  obtain ⟨rfl, -, rfl⟩ := e
  exact hc j x hj
theorem reads_form {w : World} {v : Value} {l : List Int} (h : Reads w v l) : ∃ ao c, v = .slice ao l.length c := by obtain ⟨ao, c, e, _⟩ := h; exact ⟨ao, c, e⟩
set_option maxRecDepth 1000000 in
theorem ins_size : (Tryz.prog.info? 42).map (·.size) = some 5 := by kernel_rfl
set_option maxRecDepth 1000000 in
theorem out_size : (Tryz.prog.info? 58).map (·.size) = some 4 := by kernel_rfl
set_option maxRecDepth 1000000 in
theorem tr_size : (Tryz.prog.info? 26).map (·.size) = some 9 := by kernel_rfl
/-- the cells of a trace's box -/
theorem cells9 {w : World} {g : Nat} {t : T} {vi vo vc : Value} (h : w.heap[g]? = some (.cells (trA t vi vo vc) 26 (0, 0))) : w.cell? ⟨g, 0, none⟩ = some (.int .i64 t.start) ∧ w.cell? ⟨g, 1, none⟩ = some (.int .i64 t.slots) ∧ w.cell? ⟨g, 2, none⟩ = some (.int .i64 t.backs) ∧ w.cell? ⟨g, 3, none⟩ = some (.int .i64 t.grow) ∧ w.cell? ⟨g, 4, none⟩ = some (.int .i64 t.growBack) ∧ w.cell? ⟨g, 5, none⟩ = some vi ∧ w.cell? ⟨g, 6, none⟩ = some vo ∧ w.cell? ⟨g, 7, none⟩ = some (.int .i64 t.last) ∧ w.cell? ⟨g, 8, none⟩ = some vc :=
  ⟨whole_cell h rfl, whole_cell h rfl, whole_cell h rfl, whole_cell h rfl, whole_cell h rfl, whole_cell h rfl, whole_cell h rfl, whole_cell h rfl, whole_cell h rfl⟩
section
variable {ops : Array Oper} {rest : List Oper} {o : Oper} {a : Act} {w : World} {Q : Exit → Act → World → Prop}
theorem ld_tr (hw : Region.wanted o (yielded ops a.tmps) = true) (x : Operand) (ho : o.op = .load 26 x) (g : Nat) (hx : a.eval x = .pointer (some ⟨g, 0, none⟩)) (cs : Array Value) (hcs : cs.size = 9) (hg : w.heap[g]? = some (.cells cs 26 (0, 0)))
    (h : wpList Tryz.prog ops Q rest (a.put o.dst (.agg cs)) w) : wpList Tryz.prog ops Q (o :: rest) a w :=
  wpList_getbox hw _ x ho _ Tryz.underlying26 rfl g hx cs _ hg (by rw [tr_size, hcs]) h
end
end Go.Proofs.YtpecingkoodmfaaGreatDoor.Ir
/- Cells in plain numbers: what the operations of two cells and of one come to; no program in sight. -/
namespace Go.Proofs.YtpecingkoodmfaaGreatDoor.Cell
open Go.RowKit (wrap64)

def flag (b : Bool) : Int := if b then -1 else 0
/-- quotient, rounded down, and the rest -/
def fq (a b : Int) : Int := wrap64 (a.fdiv b)
def fr (a b : Int) : Int := a.fmod b
def fl (a b : Int) (k : Int) : Int × Bool := if b = 0 then (0, false) else (if k = 15 then fr a b else fq a b, true)
/-- without a sign -/
def uns (a : Int) : Int := a % 18446744073709551616
def shl (a b : Int) : Int := if b < 0 ∨ 63 < b then 0 else wrap64 (a * 2 ^ b.toNat)
def shr (a b : Int) : Int := if b < 0 ∨ 63 < b then 0 else wrap64 (uns a / 2 ^ b.toNat)
def two (op a b : Int) : Int × Bool :=
  if op = 11 then (wrap64 (a + b), true)
  else if op = 12 then (wrap64 (a - b), true)
  else if op = 13 then (wrap64 (a * b), true)
  else if op = 14 ∨ op = 15 then fl a b op
  else if op = 17 then (bits .and .i64 a b, true)
  else if op = 18 then (bits .or .i64 a b, true)
  else if op = 19 then (bits .xor .i64 a b, true)
  else if op = 21 then (shl a b, true)
  else if op = 22 then (shr a b, true)
  else if op = 23 then (flag (decide (a = b)), true)
  else if op = 24 then (flag (decide (a < b)), true)
  else if op = 25 then (flag (decide (uns a < uns b)), true)
  else if op = 28 then (min a b, true)
  else if op = 29 then (max a b, true)
  else (0, false)
def joinV (op a b : Int) : Int := if op = 17 then bits .and .i64 a b else if op = 18 then bits .or .i64 a b else bits .xor .i64 a b
def shiftV (op a b : Int) : Int := if op = 21 then shl a b else shr a b
def holdsV (op a b : Int) : Bool := if op = 25 then decide (uns a < uns b) else if op = 24 then decide (a < b) else decide (a = b)
def pickV (op a b : Int) : Int := if op = 29 then max a b else min a b
def one (op a : Int) : Int × Bool :=
  if op = 16 then (wrap64 (-a), true)
  else if op = 20 then (-1 - a, true)
  else if op = 26 then (flag (decide (a = 0)), true)
  else if op = 27 then (flag (decide (a < 0)), true)
  else (0, false)
/-! ### a cell: a number of 64 bits with a sign -/
def In (a : Int) : Prop := -9223372036854775808 ≤ a ∧ a ≤ 9223372036854775807
theorem wrap_in (n : Int) : In (wrap64 n) := by unfold In wrap64; omega
theorem wrap_of {n : Int} (h : In n) : wrap64 n = n := by unfold In at h; unfold wrap64; omega
theorem uns_of (a : Int) : IntKind.u64.wrap a = uns a := by simp [IntKind.wrap, IntKind.bits, IntKind.signed, uns]
theorem uns_lt (a : Int) : 0 ≤ uns a ∧ uns a < 18446744073709551616 := by unfold uns; omega
theorem wrap_uns (a : Int) : wrap64 (uns a) = wrap64 a := by unfold uns wrap64; omega
theorem wrap_mul_left (a b : Int) : wrap64 (wrap64 a * b) = wrap64 (a * b) := by
  unfold wrap64
  have h : ((a + 9223372036854775808) % 18446744073709551616 - 9223372036854775808) = a - 18446744073709551616 * ((a + 9223372036854775808) / 18446744073709551616) := by omega
  rw [h, Int.sub_mul, Int.mul_assoc, show a * b - 18446744073709551616 * ((a + 9223372036854775808) / 18446744073709551616 * b) + 9223372036854775808 = (a * b + 9223372036854775808) - 18446744073709551616 * ((a + 9223372036854775808) / 18446744073709551616 * b) by omega]
  omega
/-! ### dividing, rounding down -/
theorem fmod_pos {a b : Int} (h : 0 < b) : 0 ≤ a.fmod b ∧ a.fmod b < b := ⟨Int.fmod_nonneg_of_pos a h, Int.fmod_lt_of_pos a h⟩
theorem fmod_neg {a b : Int} (h : b < 0) : b < a.fmod b ∧ a.fmod b ≤ 0 := by
  have e : a.fmod b = -((-a).fmod (-b)) := by rw [Int.neg_fmod_neg]; omega
  have := fmod_pos (a := -a) (b := -b) (by omega)
  omega
theorem fr_in {a b : Int} (hb : b ≠ 0) (h : In b) : In (fr a b) := by
  unfold In at *; unfold fr
  rcases Int.lt_or_gt_of_ne hb with h1 | h1
  · have := fmod_neg (a := a) h1; omega
  · have := fmod_pos (a := a) h1; omega
theorem tmod_sign {a b : Int} (h : ¬ a.tmod b = 0) : a.tmod b < 0 ↔ a < 0 := by
  constructor
  · intro h1
    by_cases h2 : 0 ≤ a
    · have := Int.tmod_nonneg b h2; omega
    · omega
  · intro h1
    have e : a.tmod b = -((-a).tmod b) := by rw [Int.neg_tmod]; omega
    have := Int.tmod_nonneg b (show 0 ≤ -a by omega)
    omega
theorem tmod_dvd {a b : Int} : b ∣ a ↔ a.tmod b = 0 := Int.dvd_iff_tmod_eq_zero
theorem sign_of_neg {b : Int} (h : b < 0) : b.sign = -1 := Int.sign_eq_neg_one_of_neg h
theorem sign_of_pos {b : Int} (h : 0 < b) : b.sign = 1 := Int.sign_eq_one_of_pos h
theorem floor1 {a b : Int} (h : a.tmod b = 0) : wrap64 (a.tdiv b) = fq a b ∧ (0 : Int) = fr a b := by
  unfold fq fr
  rw [Int.fdiv_eq_tdiv, Int.fmod_eq_tmod, if_pos (tmod_dvd.2 h), if_pos (tmod_dvd.2 h), h]
  simp
theorem floor2 {a b : Int} (hb : b ≠ 0) (ib : In b) (h : ¬ a.tmod b = 0) (g : (a.tmod b != 0) = true ∧ (!decide (a.tmod b < 0) == decide (b < 0)) = true) :
    wrap64 (wrap64 (a.tdiv b) - 1) = fq a b ∧ wrap64 (a.tmod b + b) = fr a b := by
  have hs := tmod_sign h
  have h2 : ¬ (a < 0 ↔ b < 0) := by
    intro h3
    have h4 := g.2
    simp only [hs, h3] at h4
    revert h4; cases decide (b < 0) <;> decide
  have hfr : In (a.fmod b) := fr_in hb ib
  have hq : a.fdiv b = a.tdiv b - 1 := by
    rw [Int.fdiv_eq_tdiv, if_neg (by rw [tmod_dvd]; exact h)]
    by_cases h0 : 0 ≤ a
    · rw [if_pos h0, if_neg (by omega)]
    · rw [if_neg h0, if_pos (by omega), sign_of_pos (by omega)]
  have hr : a.fmod b = a.tmod b + b := by
    rw [Int.fmod_eq_tmod, if_neg (by rw [tmod_dvd]; exact h)]
    by_cases h0 : 0 ≤ a
    · rw [if_pos h0, if_neg (by omega)]
    · rw [if_neg h0, if_pos (by omega)]; omega
  refine ⟨?_, ?_⟩
  · unfold fq; rw [hq]; unfold wrap64; omega
  · unfold fr; rw [← hr]; exact wrap_of hfr
theorem floor3 {a b : Int} (h : ¬ a.tmod b = 0) (g : (a.tmod b != 0) = false ∨ (!decide (a.tmod b < 0) == decide (b < 0)) = false) :
    wrap64 (a.tdiv b) = fq a b ∧ a.tmod b = fr a b := by
  have hs := tmod_sign h
  have h2 : (a < 0 ↔ b < 0) := by
    rcases g with g | g
    · simp [h] at g
    · simp only [hs] at g
      by_cases h1 : a < 0 <;> by_cases h3 : b < 0 <;> simp [h1, h3] at g ⊢
  have hq : a.fdiv b = a.tdiv b := by
    rw [Int.fdiv_eq_tdiv, if_neg (by rw [tmod_dvd]; exact h)]
    by_cases h0 : 0 ≤ a
    · rw [if_pos h0, if_pos (by omega)]; omega
    · rw [if_neg h0, if_neg (by omega), sign_of_neg (by omega)]; omega
  have hr : a.fmod b = a.tmod b := by
    rw [Int.fmod_eq_tmod, if_neg (by rw [tmod_dvd]; exact h)]
    by_cases h0 : 0 ≤ a
    · rw [if_pos h0, if_pos (by omega)]; omega
    · rw [if_neg h0, if_neg (by omega)]; omega
  unfold fq fr
  rw [hq, hr]; exact ⟨rfl, rfl⟩

/-! ### bits -/
theorem wrap_toNat (v : BitVec 64) : IntKind.i64.wrap (v.toNat : Int) = v.toInt := by
  have := v.isLt
  rw [BitVec.toInt_eq_toNat_cond, IntKind.wrap_i64]
  split <;> omega
theorem bits_and (x y : Int) : bits .and .i64 x y = (BitVec.ofInt 64 x &&& BitVec.ofInt 64 y).toInt := wrap_toNat _
theorem bits_xor (x y : Int) : bits .xor .i64 x y = (BitVec.ofInt 64 x ^^^ BitVec.ofInt 64 y).toInt := wrap_toNat _
theorem toInt_of {x : Int} (h : In x) : (BitVec.ofInt 64 x).toInt = x := by
  unfold In at h
  rw [BitVec.toInt_ofInt]
  simp only [Int.bmod]; split <;> omega
theorem toInt_in (v : BitVec 64) : In v.toInt := by
  have h1 := v.toInt_lt; have h2 := v.le_toInt
  unfold In; simp at h1 h2; omega
theorem bits_in (op : BinOp) (x y : Int) : In (bits op .i64 x y) := by
  unfold bits
  cases op <;> exact (wrap_toNat _ ▸ toInt_in _)
theorem xor_top (X : Nat) (h : X < 18446744073709551616) : X ^^^ 9223372036854775808 = if X < 9223372036854775808 then X + 9223372036854775808 else X - 9223372036854775808 := by
  have h1 : (X ^^^ 2 ^ 63) % 2 ^ 63 = X % 2 ^ 63 := by rw [Nat.xor_mod_two_pow]; simp
  have h2 : (X ^^^ 2 ^ 63) / 2 ^ 63 = X / 2 ^ 63 ^^^ 1 := by rw [Nat.xor_div_two_pow]
  simp only [Nat.reducePow] at h1 h2
  split
  · rw [show X / 9223372036854775808 = 0 by omega] at h2
    simp at h2; omega
  · rw [show X / 9223372036854775808 = 1 by omega] at h2
    simp at h2; omega
theorem xor_least (a : Int) : bits .xor .i64 a (-9223372036854775808) = uns a - 9223372036854775808 := by
  have h := uns_lt a
  have e1 : (BitVec.ofInt 64 a).toNat = (uns a).toNat := by rw [BitVec.toNat_ofInt]; rfl
  have e2 : (BitVec.ofInt 64 (-9223372036854775808)).toNat = 9223372036854775808 := by decide
  show IntKind.i64.wrap ((BitVec.ofInt 64 a ^^^ BitVec.ofInt 64 (-9223372036854775808)).toNat : Int) = _
  rw [BitVec.toNat_xor, e1, e2, xor_top _ (by omega)]
  rw [IntKind.wrap_i64]
  split <;> omega
theorem order_uns (a b : Int) : decide (bits .xor .i64 a (-9223372036854775808) < bits .xor .i64 b (-9223372036854775808)) = decide (uns a < uns b) := by
  rw [xor_least, xor_least]; congr 1; apply propext; omega
theorem not_of {a : Int} (h : In a) : bits .xor .i64 (-1) a = -1 - a := by
  rw [bits_xor]
  have h1 : BitVec.ofInt 64 (-1) = BitVec.allOnes 64 := by decide
  rw [h1, BitVec.allOnes_xor, BitVec.toInt_not, BitVec.toNat_ofInt]
  unfold In at h
  simp only [Int.bmod]; split <;> omega
/-! ### the parts of 'two' and 'one' as their callees tell them -/
theorem join1 {op a b : Int} (h : (op == 17) = true) : bits .and .i64 a b = joinV op a b := by
  have : op = 17 := by simpa using h
  subst this; rfl
theorem join2 {op a b : Int} (h : (op == 18) = true) : bits .or .i64 a b = joinV op a b := by
  have : op = 18 := by simpa using h
  subst this; rfl
theorem join3 {op a b : Int} (h : (op == 17) = false) (g : (op == 18) = false) : bits .xor .i64 a b = joinV op a b := by
  have h' : op ≠ 17 := by simpa using h
  have g' : op ≠ 18 := by simpa using g
  unfold joinV; rw [if_neg h', if_neg g']
theorem shift1 {op a b : Int} (h : b < 0 ∨ 63 < b) : (0 : Int) = shiftV op a b := by
  unfold shiftV shl shr; rw [if_pos h, if_pos h]; simp
theorem shift2 {op a b : Int} (h : (op == 21) = true) (h0 : 0 ≤ b) (h1 : b ≤ 63) : wrap64 (a * 2 ^ b.toNat) = shiftV op a b := by
  have h' : op = 21 := by simpa using h
  unfold shiftV shl; rw [if_pos h', if_neg (by omega)]
theorem shift3 {op a b : Int} (h : (op == 21) = false) (h0 : 0 ≤ b) (h1 : b ≤ 63) : wrap64 (IntKind.u64.wrap a / 2 ^ b.toNat) = shiftV op a b := by
  have h' : op ≠ 21 := by simpa using h
  unfold shiftV shr; rw [if_neg h', if_neg (by omega), uns_of]
theorem holds1 {op a b : Int} (h : (op == 25) = true) : decide (bits .xor .i64 a (-9223372036854775808) < bits .xor .i64 b (-9223372036854775808)) = holdsV op a b := by
  have h' : op = 25 := by simpa using h
  rw [order_uns]; subst h'; rfl
theorem holds2 {op a b : Int} (h : (op == 24) = true) : decide (a < b) = holdsV op a b := by
  have h' : op = 24 := by simpa using h
  subst h'; rfl
theorem holds3 {op a b : Int} (h : (op == 25) = false) (g : (op == 24) = false) : (a == b) = holdsV op a b := by
  have h' : op ≠ 25 := by simpa using h
  have g' : op ≠ 24 := by simpa using g
  unfold holdsV; rw [if_neg h', if_neg g']; rfl
theorem pick1 {op a b : Int} (h : ((op == 29) == decide (a < b)) = true) : b = pickV op a b := by
  unfold pickV
  by_cases h1 : op = 29 <;> by_cases h2 : a < b <;> simp [h1, h2] at h ⊢ <;> omega
theorem pick2 {op a b : Int} (h : ((op == 29) == decide (a < b)) = false) : a = pickV op a b := by
  unfold pickV
  by_cases h1 : op = 29 <;> by_cases h2 : a < b <;> simp [h1, h2] at h ⊢ <;> omega
theorem sub_of (a b : Int) : wrap64 (a + wrap64 (-b)) = wrap64 (a - b) := by unfold wrap64; omega
theorem not_sub {a : Int} (h : In a) : wrap64 (-1 - a) = -1 - a := by unfold In at h; unfold wrap64; omega
theorem neg_of (a : Int) : bits .xor .i64 (-1) (wrap64 (a - 1)) = wrap64 (-a) := by
  rw [not_of (wrap_in _)]; unfold wrap64; omega
end Go.Proofs.YtpecingkoodmfaaGreatDoor.Cell
/- The walks of package cell: what each call comes to. -/
namespace Go.Proofs.YtpecingkoodmfaaGreatDoor.Cell
open Go.RowKit

theorem ret1 {k : IntKind} {a b : Int} (h : a = b) : Ending.returned (.int k a) = .returned (.int k b) := by rw [h]
theorem retB {a b : Bool} (h : a = b) : Ending.returned (.bool a) = .returned (.bool b) := by rw [h]
theorem ret2 {k : IntKind} {a b : Int} {c d : Bool} (h : a = b) (g : c = d) : Ending.returned (.tuple #[.int k a, .bool c]) = .returned (.tuple #[.int k b, .bool d]) := by rw [h, g]
theorem ret3 {k : IntKind} {a b a' b' : Int} {c d : Bool} (h : a = b) (h' : a' = b') (g : c = d) : Ending.returned (.tuple #[.int k a, .int k a', .bool c]) = .returned (.tuple #[.int k b, .int k b', .bool d]) := by rw [h, h', g]
theorem retQ {k : IntKind} {a b a' b' : Int} (h : a = b) (h' : a' = b') : Ending.returned (.tuple #[.int k a, .int k a']) = .returned (.tuple #[.int k b, .int k b']) := by rw [h, h']

set_option maxHeartbeats 400000 in
theorem floor_zero (a : Int) (w : World) :
    Calls Tryz.prog 132 #[.int .i64 a, .int .i64 0] w fun e w' => e = .returned (.tuple #[.int .i64 0, .int .i64 0, .bool false]) ∧ w' = w := by
  go_enter Tryz.func132, Tryz.ntmps132
  go_wp2
  go_ret3
  exact ⟨rfl, rfl⟩

set_option maxHeartbeats 400000 in
theorem floor_any (a b : Int) (hb : (b == 0) = false) (ib : In b) (w : World) :
    Calls Tryz.prog 132 #[.int .i64 a, .int .i64 b] w fun e w' => e = .returned (.tuple #[.int .i64 (fq a b), .int .i64 (fr a b), .bool true]) ∧ ∃ n, w' = w.drewN n := by
  have hb' : b ≠ 0 := by simpa using hb
  have IB := Lib.hid ib; clear ib
  go_enter Tryz.func132, Tryz.ntmps132
  go_wp2
  go_quiet (fail)
  go_wp2
  · go_ret3
    exact ⟨ret3 (floor1 ‹_›).1 (floor1 ‹_›).2 rfl, nq, rfl⟩
  · go_ret3
    exact ⟨ret3 (floor2 hb' IB.out ‹_› ‹_›).1 (floor2 hb' IB.out ‹_› ‹_›).2 rfl, nq, rfl⟩
  · go_ret3
    exact ⟨ret3 (floor3 ‹_› ‹_›).1 (floor3 ‹_› ‹_›).2 rfl, nq, rfl⟩
set_option maxHeartbeats 400000 in
theorem flag_any (b : Bool) (w : World) :
    Calls Tryz.prog 118 #[.bool b] w fun e w' => e = .returned (.int .i64 (flag b)) ∧ w' = w := by
  cases b
  all_goals
    go_enter Tryz.func118, Tryz.ntmps118
    go_wp2
    go_ret
    exact ⟨rfl, rfl⟩
set_option maxHeartbeats 400000 in
theorem join_any (op a b : Int) (w : World) :
    Calls Tryz.prog 116 #[.int .i64 op, .int .i64 a, .int .i64 b] w fun e w' => e = .returned (.int .i64 (joinV op a b)) ∧ w' = w := by
  go_enter Tryz.func116, Tryz.ntmps116
  go_wp2
  · go_ret; exact ⟨ret1 (join1 ‹_›), rfl⟩
  · go_ret; exact ⟨ret1 (join2 ‹_›), rfl⟩
  · go_ret; exact ⟨ret1 (join3 ‹_› ‹_›), rfl⟩
set_option maxHeartbeats 400000 in
theorem shift_any (op a b : Int) (w : World) :
    Calls Tryz.prog 117 #[.int .i64 op, .int .i64 a, .int .i64 b] w fun e w' => e = .returned (.int .i64 (shiftV op a b)) ∧ w' = w := by
  by_cases h0 : b < 0
  · go_enter Tryz.func117, Tryz.ntmps117
    go_wp2
    go_ret
    exact ⟨ret1 (shift1 (.inl h0)), rfl⟩
  · by_cases h1 : 63 < b
    · go_enter Tryz.func117, Tryz.ntmps117
      go_wp2
      go_ret
      exact ⟨ret1 (shift1 (.inr h1)), rfl⟩
    · go_enter Tryz.func117, Tryz.ntmps117
      go_wp2
      · go_ret; exact ⟨ret1 (shift2 ‹_› (by omega) (by omega)), rfl⟩
      · go_ret; exact ⟨ret1 (shift3 ‹_› (by omega) (by omega)), rfl⟩
set_option maxHeartbeats 400000 in
theorem holds_any (op a b : Int) (w : World) :
    Calls Tryz.prog 119 #[.int .i64 op, .int .i64 a, .int .i64 b] w fun e w' => e = .returned (.bool (holdsV op a b)) ∧ w' = w := by
  go_enter Tryz.func119, Tryz.ntmps119
  go_wp2
  · go_ret; exact ⟨retB (holds1 ‹_›), rfl⟩
  · go_ret; exact ⟨retB (holds2 ‹_›), rfl⟩
  · go_ret; exact ⟨retB (holds3 ‹_› ‹_›), rfl⟩
set_option maxHeartbeats 400000 in
theorem pick_any (op a b : Int) (w : World) :
    Calls Tryz.prog 120 #[.int .i64 op, .int .i64 a, .int .i64 b] w fun e w' => e = .returned (.int .i64 (pickV op a b)) ∧ w' = w := by
  go_enter Tryz.func120, Tryz.ntmps120
  go_wp2
  · go_ret; exact ⟨ret1 (pick1 ‹_›), rfl⟩
  · go_ret; exact ⟨ret1 (pick2 ‹_›), rfl⟩

theorem op_cases (op : Int) : op < 11 ∨ 29 < op ∨ op = 11 ∨ op = 12 ∨ op = 13 ∨ op = 14 ∨ op = 15 ∨ op = 16 ∨ op = 17 ∨ op = 18 ∨ op = 19 ∨ op = 20 ∨ op = 21 ∨ op = 22 ∨ op = 23 ∨ op = 24 ∨ op = 25 ∨ op = 26 ∨ op = 27 ∨ op = 28 ∨ op = 29 := by omega
theorem two_lo {op a b : Int} (h : op < 11) : two op a b = (0, false) := by
  unfold two; repeat rw [if_neg (by omega)]
theorem two_hi {op a b : Int} (h : 29 < op) : two op a b = (0, false) := by
  unfold two; repeat rw [if_neg (by omega)]

/-- What a call of two results comes to; the world is as it was but for draws. -/
def Tells (v : Int × Bool) (w : World) (e : Ending) (w' : World) : Prop := e = .returned (.tuple #[.int .i64 v.1, .bool v.2]) ∧ ∃ n, w' = w.drewN n

set_option maxHeartbeats 400000 in
theorem divide_zero (op a : Int) (w : World) :
    Calls Tryz.prog 115 #[.int .i64 op, .int .i64 a, .int .i64 0] w (Tells (0, false) w) := by
  go_enter Tryz.func115, Tryz.ntmps115
  go_wp2_with (go_at_call 132; refine (floor_zero _ _).mono ?_; rintro e w' ⟨rfl, rfl⟩)
  all_goals
    go_ret2
    exact ⟨ret2 rfl rfl, 0, rfl⟩
set_option maxHeartbeats 400000 in
theorem divide_any (op a b : Int) (hb : (b == 0) = false) (ib : In b) (w : World) :
    Calls Tryz.prog 115 #[.int .i64 op, .int .i64 a, .int .i64 b] w (Tells (if op = 15 then fr a b else fq a b, true) w) := by
  by_cases h : op = 15
  · subst h
    have IB := Lib.hid ib; clear ib
    go_enter Tryz.func115, Tryz.ntmps115
    go_wp2_with (go_at_call 132; refine (floor_any _ _ hb IB.out _).mono ?_; rintro e w' ⟨rfl, n, rfl⟩)
    go_ret2
    exact ⟨ret2 rfl rfl, n, rfl⟩
  · have h' : (op == 15) = false := by simpa using h
    have IB := Lib.hid ib; clear ib
    rw [if_neg h]; clear h
    go_enter Tryz.func115, Tryz.ntmps115
    go_wp2_with (go_at_call 132; refine (floor_any _ _ hb IB.out _).mono ?_; rintro e w' ⟨rfl, n, rfl⟩)
    go_ret2
    exact ⟨ret2 rfl rfl, n, rfl⟩

theorem two_14 {a b : Int} (hb : b ≠ 0) : two 14 a b = (if (14 : Int) = 15 then fr a b else fq a b, true) := by
  show fl a b 14 = _; unfold fl; rw [if_neg hb]
theorem two_15 {a b : Int} (hb : b ≠ 0) : two 15 a b = (if (15 : Int) = 15 then fr a b else fq a b, true) := by
  show fl a b 15 = _; unfold fl; rw [if_neg hb]
set_option maxHeartbeats 1000000 in
theorem two_any (op a b : Int) (ib : In b) (w : World) :
    Calls Tryz.prog 98 #[.int .i64 op, .int .i64 a, .int .i64 b] w (Tells (two op a b) w) := by
  rcases op_cases op with h | h | rfl | rfl | rfl | rfl | rfl | rfl | rfl | rfl | rfl | rfl | rfl | rfl | rfl | rfl | rfl | rfl | rfl | rfl | rfl
  · rw [two_lo h]; go_enter Tryz.func98, Tryz.ntmps98
    go_wp2
    go_ret2; exact ⟨ret2 rfl rfl, 0, rfl⟩
  · rw [two_hi h]; go_enter Tryz.func98, Tryz.ntmps98
    go_wp2
    go_ret2; exact ⟨ret2 rfl rfl, 0, rfl⟩
  · go_enter Tryz.func98, Tryz.ntmps98
    go_wp2
    go_ret2; exact ⟨ret2 rfl rfl, 0, rfl⟩
  · go_enter Tryz.func98, Tryz.ntmps98
    go_wp2
    go_ret2; exact ⟨ret2 (sub_of a b) rfl, 0, rfl⟩
  · go_enter Tryz.func98, Tryz.ntmps98
    go_wp2
    go_ret2; exact ⟨ret2 rfl rfl, 0, rfl⟩
  · by_cases hb : b = 0
    · subst hb; go_enter Tryz.func98, Tryz.ntmps98
      go_wp2_with (go_at_call 115; refine (divide_zero _ _ _).mono ?_; rintro e w' ⟨rfl, n, rfl⟩)
      go_ret2; exact ⟨ret2 rfl rfl, n, rfl⟩
    · rw [two_14 hb]
      have hb' : (b == 0) = false := by simpa using hb
      clear hb
      go_enter Tryz.func98, Tryz.ntmps98
      go_wp2_with (go_at_call 115; refine (divide_any _ _ _ hb' ib _).mono ?_; rintro e w' ⟨rfl, n, rfl⟩)
      go_ret2; exact ⟨ret2 rfl rfl, n, rfl⟩
  · by_cases hb : b = 0
    · subst hb; go_enter Tryz.func98, Tryz.ntmps98
      go_wp2_with (go_at_call 115; refine (divide_zero _ _ _).mono ?_; rintro e w' ⟨rfl, n, rfl⟩)
      go_ret2; exact ⟨ret2 rfl rfl, n, rfl⟩
    · rw [two_15 hb]
      have hb' : (b == 0) = false := by simpa using hb
      clear hb
      go_enter Tryz.func98, Tryz.ntmps98
      go_wp2_with (go_at_call 115; refine (divide_any _ _ _ hb' ib _).mono ?_; rintro e w' ⟨rfl, n, rfl⟩)
      go_ret2; exact ⟨ret2 rfl rfl, n, rfl⟩
  all_goals
    go_enter Tryz.func98, Tryz.ntmps98
    go_wp2_with (first | (go_at_call 116; refine (join_any _ _ _ _).mono ?_; rintro e w' ⟨rfl, rfl⟩) | (go_at_call 117; refine (shift_any _ _ _ _).mono ?_; rintro e w' ⟨rfl, rfl⟩) | (go_at_call 119; refine (holds_any _ _ _ _).mono ?_; rintro e w' ⟨rfl, rfl⟩) | (go_at_call 118; refine (flag_any _ _).mono ?_; rintro e w' ⟨rfl, rfl⟩) | (go_at_call 120; refine (pick_any _ _ _ _).mono ?_; rintro e w' ⟨rfl, rfl⟩))
    go_ret2; exact ⟨ret2 rfl rfl, 0, rfl⟩

theorem one_lo {op a : Int} (h : op < 11) : one op a = (0, false) := by
  unfold one; repeat rw [if_neg (by omega)]
theorem one_hi {op a : Int} (h : 29 < op) : one op a = (0, false) := by
  unfold one; repeat rw [if_neg (by omega)]
set_option maxHeartbeats 1000000 in
theorem one_any (op a : Int) (ia : In a) (w : World) :
    Calls Tryz.prog 131 #[.int .i64 op, .int .i64 a] w (Tells (one op a) w) := by
  rcases op_cases op with h | h | rfl | rfl | rfl | rfl | rfl | rfl | rfl | rfl | rfl | rfl | rfl | rfl | rfl | rfl | rfl | rfl | rfl | rfl | rfl
  · rw [one_lo h]; go_enter Tryz.func131, Tryz.ntmps131
    go_wp2
    go_ret2; exact ⟨ret2 rfl rfl, 0, rfl⟩
  · rw [one_hi h]; go_enter Tryz.func131, Tryz.ntmps131
    go_wp2
    go_ret2; exact ⟨ret2 rfl rfl, 0, rfl⟩
  all_goals
    go_enter Tryz.func131, Tryz.ntmps131
    go_wp2_with (go_at_call 118; refine (flag_any _ _).mono ?_; rintro e w' ⟨rfl, rfl⟩)
    go_ret2; exact ⟨ret2 (by first | rfl | exact neg_of a | exact not_of ia) rfl, 0, rfl⟩
end Go.Proofs.YtpecingkoodmfaaGreatDoor.Cell
