
/- A trace in memory: a value of nine fields, its lists wherever they lie. -/
import Derived.Test.YtpecingkoodmfaaGreatDoorRows
import Derived.Test.YtpecingkoodmfaaGreatDoorIrPlain
import Derived.Test.YtpecingkoodmfaaGreatDoorVals
import Derived.Test.YtpecingkoodmfaaGreatDoorBoxes
namespace Go.Proofs.YtpecingkoodmfaaGreatDoor.Ir
open Go.RowKit Book Mem
set_option linter.unusedVariables false
/-- what a call says, and it leaves all as it was, but for new blocks -/
def Says (v : Value) (w : World) (e : Ending) (w' : World) : Prop := e = .returned v ∧ Below w.heap.size w w'
theorem newBox (w : World) (cs : Array Value) (T : TypeId) : ∃ w1 g, w.alloc (.cells cs T) = w1 ∧ w.heap.size = g ∧ Hid (w1.heap[g]? = some (.cells cs T (0, 0))) ∧ Hid (Below w.heap.size w w1) ∧ Hid (w.heap.size = g) :=
  ⟨_, _, rfl, rfl, heap_alloc_new w _, (Below.refl w.heap.size w).alloc (Nat.le_refl _) _, rfl⟩
theorem boxOn {w w' : World} {g : Nat} {cs : Array Value} {T : TypeId} (h : w.heap[g]? = some (.cells cs T (0, 0))) (hb : Below w.heap.size w w') : w'.heap[g]? = some (.cells cs T (0, 0)) := (Stirred.of_below hb []).whole h List.not_mem_nil
theorem retB {a b : Bool} (h : a = b) : Ending.returned (.bool a) = .returned (.bool b) := by rw [h]
abbrev insA (x : I) : Array Value := #[.int .i64 x.1, .int .i64 x.2.1, .int .i64 x.2.2.1, .int .i64 x.2.2.2.1, .int .i64 x.2.2.2.2]
abbrev insV (x : I) : Value := .agg (insA x)
abbrev outA (x : O) (vs vb : Value) : Array Value := #[.int .i64 x.ip, .int .i64 x.steps, vs, vb]
abbrev outV (x : O) (vs vb : Value) : Value := .agg (outA x vs vb)
abbrev trA (t : T) (vi vo vc : Value) : Array Value := #[.int .i64 t.start, .int .i64 t.slots, .int .i64 t.backs, .int .i64 t.grow, .int .i64 t.growBack, vi, vo, .int .i64 t.last, vc]
abbrev trV (t : T) (vi vo vc : Value) : Value := .agg (trA t vi vo vc)
/-- a list of instructions, wherever it lies -/
def ReadsI (w : World) (v : Value) (l : List I) : Prop := ∃ ao cap, v = .slice ao l.length cap ∧ ∀ j x, l[j]? = some x → ∃ ad : Addr, ao = some ad ∧ w.cell? (ad.add (j * 5)) = some (.int .i64 x.1) ∧ w.cell? ⟨(ad.add (j * 5)).block, (ad.add (j * 5)).off + 1, none⟩ = some (.int .i64 x.2.1) ∧ w.cell? ⟨(ad.add (j * 5)).block, (ad.add (j * 5)).off + 2, none⟩ = some (.int .i64 x.2.2.1) ∧ w.cell? ⟨(ad.add (j * 5)).block, (ad.add (j * 5)).off + 3, none⟩ = some (.int .i64 x.2.2.2.1) ∧ w.cell? ⟨(ad.add (j * 5)).block, (ad.add (j * 5)).off + 4, none⟩ = some (.int .i64 x.2.2.2.2)
/-- a list of exits, wherever it and its lists lie -/
def ReadsO (w : World) (v : Value) (l : List O) : Prop := ∃ ao cap, v = .slice ao l.length cap ∧ ∀ j x, l[j]? = some x → ∃ (ad : Addr) (vs vb : Value), ao = some ad ∧ w.cell? (ad.add (j * 4)) = some (.int .i64 x.ip) ∧ w.cell? ⟨(ad.add (j * 4)).block, (ad.add (j * 4)).off + 1, none⟩ = some (.int .i64 x.steps) ∧ w.cell? ⟨(ad.add (j * 4)).block, (ad.add (j * 4)).off + 2, none⟩ = some vs ∧ w.cell? ⟨(ad.add (j * 4)).block, (ad.add (j * 4)).off + 3, none⟩ = some vb ∧ Reads w vs x.stack ∧ Reads w vb x.back
theorem ReadsI.below {w w' : World} {v : Value} {l : List I} (h : ReadsI w v l) (hb : Below w.heap.size w w') : ReadsI w' v l := by
  obtain ⟨ao, cap, e, hc⟩ := h
  refine ⟨ao, cap, e, fun j x hj => ?_⟩
  obtain ⟨ad, ha, h0, h1, h2, h3, h4⟩ := hc j x hj
  have tr : ∀ {p : Addr} {u : Value}, w.cell? p = some u → w'.cell? p = some u := fun {p u} hu => by rw [hb.cell (p := p) (World.block_lt_of_cell? w _ hu)]; exact hu
  exact ⟨ad, ha, tr h0, tr h1, tr h2, tr h3, tr h4⟩
theorem ReadsO.below {w w' : World} {v : Value} {l : List O} (h : ReadsO w v l) (hb : Below w.heap.size w w') : ReadsO w' v l := by
  obtain ⟨ao, cap, e, hc⟩ := h
  refine ⟨ao, cap, e, fun j x hj => ?_⟩
  obtain ⟨ad, vs, vb, ha, h0, h1, h2, h3, h4, h5⟩ := hc j x hj
  have tr : ∀ {p : Addr} {u : Value}, w.cell? p = some u → w'.cell? p = some u := fun {p u} hu => by rw [hb.cell (p := p) (World.block_lt_of_cell? w _ hu)]; exact hu
  exact ⟨ad, vs, vb, ha, tr h0, tr h1, tr h2, tr h3, h4.below hb, h5.below hb⟩
/-- a trace that is read, its lists wherever they lie -/
structure ReadsL (w : World) (vi vo vc : Value) (t : T) : Prop where
  ins : ReadsI w vi t.ins
  outs : ReadsO w vo t.outs
  cells : Reads w vc t.cells
theorem ReadsL.below {w w' : World} {vi vo vc : Value} {t : T} (h : ReadsL w vi vo vc t) (hb : Below w.heap.size w w') : ReadsL w' vi vo vc t := ⟨h.ins.below hb, h.outs.below hb, h.cells.below hb⟩
theorem ReadsL.drew {w : World} {vi vo vc : Value} {t : T} (h : ReadsL w vi vo vc t) : ReadsL w.drew vi vo vc t := h.below ((Below.refl _ _).drew)
def ReadsT (w : World) (v : Value) (t : T) : Prop := ∃ vi vo vc, v = trV t vi vo vc ∧ ReadsL w vi vo vc t
theorem ReadsT.below {w w' : World} {v : Value} {t : T} (h : ReadsT w v t) (hb : Below w.heap.size w w') : ReadsT w' v t := by
  obtain ⟨vi, vo, vc, e, h1⟩ := h
  exact ⟨vi, vo, vc, e, h1.below hb⟩
/-- the three lists' values -/
theorem ReadsL.known {w : World} {vi vo vc : Value} {t : T} (h : ReadsL w vi vo vc t) : ∃ ai ci ao co ac cc, vi = .slice ai t.ins.length ci ∧ vo = .slice ao t.outs.length co ∧ vc = .slice ac t.cells.length cc := by
  obtain ⟨⟨ai, ci, e1, _⟩, ⟨ao, co, e2, _⟩, ⟨ac, cc, e3, _⟩⟩ := h
  exact ⟨ai, ci, ao, co, ac, cc, e1, e2, e3⟩
/-- one element of each list, its address known -/
theorem ReadsI.at {w : World} {ao : Option Addr} {n c : Nat} {l : List I} (h : ReadsI w (.slice ao n c) l) {j : Nat} {x : I} (hj : l[j]? = some x) : ∃ ad : Addr, ao = some ad ∧ w.cell? (ad.add (j * 5)) = some (.int .i64 x.1) ∧ w.cell? ⟨(ad.add (j * 5)).block, (ad.add (j * 5)).off + 1, none⟩ = some (.int .i64 x.2.1) ∧ w.cell? ⟨(ad.add (j * 5)).block, (ad.add (j * 5)).off + 2, none⟩ = some (.int .i64 x.2.2.1) ∧ w.cell? ⟨(ad.add (j * 5)).block, (ad.add (j * 5)).off + 3, none⟩ = some (.int .i64 x.2.2.2.1) ∧ w.cell? ⟨(ad.add (j * 5)).block, (ad.add (j * 5)).off + 4, none⟩ = some (.int .i64 x.2.2.2.2) := by
  obtain ⟨ao', c', e, hc⟩ := h
  simp only [Value.slice.injEq] at e
  obtain ⟨rfl, -, rfl⟩ := e
  exact hc j x hj
theorem ReadsO.at {w : World} {ao : Option Addr} {n c : Nat} {l : List O} (h : ReadsO w (.slice ao n c) l) {j : Nat} {x : O} (hj : l[j]? = some x) : ∃ (ad : Addr) (vs vb : Value), ao = some ad ∧ w.cell? (ad.add (j * 4)) = some (.int .i64 x.ip) ∧ w.cell? ⟨(ad.add (j * 4)).block, (ad.add (j * 4)).off + 1, none⟩ = some (.int .i64 x.steps) ∧ w.cell? ⟨(ad.add (j * 4)).block, (ad.add (j * 4)).off + 2, none⟩ = some vs ∧ w.cell? ⟨(ad.add (j * 4)).block, (ad.add (j * 4)).off + 3, none⟩ = some vb ∧ Reads w vs x.stack ∧ Reads w vb x.back := by
  obtain ⟨ao', c', e, hc⟩ := h
  simp only [Value.slice.injEq] at e
  obtain ⟨rfl, -, rfl⟩ := e
  exact hc j x hj
theorem Reads.at' {w : World} {ao : Option Addr} {n c : Nat} {l : List Int} (h : Reads w (.slice ao n c) l) {j : Nat} {x : Int} (hj : l[j]? = some x) : ∃ ad : Addr, ao = some ad ∧ w.cell? (ad.add j) = some (.int .i64 x) := by
  obtain ⟨ao', c', e, hc⟩ := h
  simp only [Value.slice.injEq] at e
  obtain ⟨rfl, -, rfl⟩ := e
  exact hc j x hj
theorem reads_form {w : World} {v : Value} {l : List Int} (h : Reads w v l) : ∃ ao c, v = .slice ao l.length c := by obtain ⟨ao, c, e, _⟩ := h; exact ⟨ao, c, e⟩
set_option maxRecDepth 1000000 in
theorem ins_size : (Tryz.prog.info? 42).map (·.size) = some 5 := by kernel_rfl
set_option maxRecDepth 1000000 in
theorem out_size : (Tryz.prog.info? 58).map (·.size) = some 4 := by kernel_rfl
set_option maxRecDepth 1000000 in
theorem tr_size : (Tryz.prog.info? 26).map (·.size) = some 9 := by kernel_rfl
/-- the cells of a trace's box -/
theorem cells9 {w : World} {g : Nat} {t : T} {vi vo vc : Value} (h : w.heap[g]? = some (.cells (trA t vi vo vc) 26 (0, 0))) : w.cell? ⟨g, 0, none⟩ = some (.int .i64 t.start) ∧ w.cell? ⟨g, 1, none⟩ = some (.int .i64 t.slots) ∧ w.cell? ⟨g, 2, none⟩ = some (.int .i64 t.backs) ∧ w.cell? ⟨g, 3, none⟩ = some (.int .i64 t.grow) ∧ w.cell? ⟨g, 4, none⟩ = some (.int .i64 t.growBack) ∧ w.cell? ⟨g, 5, none⟩ = some vi ∧ w.cell? ⟨g, 6, none⟩ = some vo ∧ w.cell? ⟨g, 7, none⟩ = some (.int .i64 t.last) ∧ w.cell? ⟨g, 8, none⟩ = some vc :=
  ⟨whole_cell h rfl, whole_cell h rfl, whole_cell h rfl, whole_cell h rfl, whole_cell h rfl, whole_cell h rfl, whole_cell h rfl, whole_cell h rfl, whole_cell h rfl⟩
section
variable {ops : Array Oper} {rest : List Oper} {o : Oper} {a : Act} {w : World} {Q : Exit → Act → World → Prop}
theorem ld_tr (hw : Region.wanted o (yielded ops a.tmps) = true) (x : Operand) (ho : o.op = .load 26 x) (g : Nat) (hx : a.eval x = .pointer (some ⟨g, 0, none⟩)) (cs : Array Value) (hcs : cs.size = 9) (hg : w.heap[g]? = some (.cells cs 26 (0, 0)))
    (h : wpList Tryz.prog ops Q rest (a.put o.dst (.agg cs)) w) : wpList Tryz.prog ops Q (o :: rest) a w :=
  wpList_getbox hw _ x ho _ Tryz.underlying26 rfl g hx cs _ hg (by rw [tr_size, hcs]) h
theorem ld_ins (hw : Region.wanted o (yielded ops a.tmps) = true) (x : Operand) (ho : o.op = .load 42 x) (g : Nat) (hx : a.eval x = .pointer (some ⟨g, 0, none⟩)) (cs : Array Value) (hcs : cs.size = 5) (hg : w.heap[g]? = some (.cells cs 42 (0, 0)))
    (h : wpList Tryz.prog ops Q rest (a.put o.dst (.agg cs)) w) : wpList Tryz.prog ops Q (o :: rest) a w :=
  wpList_getbox hw _ x ho _ Tryz.underlying42 rfl g hx cs _ hg (by rw [ins_size, hcs]) h
theorem ld_out (hw : Region.wanted o (yielded ops a.tmps) = true) (x : Operand) (ho : o.op = .load 58 x) (g : Nat) (hx : a.eval x = .pointer (some ⟨g, 0, none⟩)) (cs : Array Value) (hcs : cs.size = 4) (hg : w.heap[g]? = some (.cells cs 58 (0, 0)))
    (h : wpList Tryz.prog ops Q rest (a.put o.dst (.agg cs)) w) : wpList Tryz.prog ops Q (o :: rest) a w :=
  wpList_getbox hw _ x ho _ Tryz.underlying58 rfl g hx cs _ hg (by rw [out_size, hcs]) h
end
end Go.Proofs.YtpecingkoodmfaaGreatDoor.Ir
