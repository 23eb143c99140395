/- The code's own machine in memory (package inner): its box, two stacks, a memory of cells. -/
import Derived.Test.YtcffbeihgchpgaaGreatDoorG3
import Derived.Test.YtcffbeihgchpgaaGreatDoorG9
import Derived.Test.YtcffbeihgchpgaaGreatDoorG10
import Derived.Deep.RegionWith
import Derived.Deep.DeepCutAuto
import Derived.Test.YtcffbeihgchpgaaGreatDoorG4
namespace Go.Proofs.YtcffbeihgchpgaaGreatDoor.Inn
open Go.RowKit Book Mem Mach
set_option linter.unusedVariables false
abbrev cells13 (m : M) (vs vb vm : Value) (ps pb pf : Nat) : Array Value := #[.int .i64 m.ip, .int .i64 m.handler, vs, vb, vm, .string m.out, .string m.inp, .int .i64 m.read, .int .i64 m.status, .int .i64 m.code, .pointer (some ⟨ps, 0, none⟩), .pointer (some ⟨pb, 0, none⟩), .pointer (some ⟨pf, 0, none⟩)]
/-- the blocks of a machine -/
def feet (q ps gs pb gb pf : Nat) (vC vH : Value) : List Nat := q :: (foot ps gs ++ (foot pb gb ++ Fld.Mem.foot pf vC vH))
structure Mc (w : World) (B q ps gs pb gb pf : Nat) (vC vH : Value) (ch : List Int) (vs vb vm : Value) (m : M) : Prop where
  box : w.heap[q]? = some (.cells (cells13 m vs vb vm ps pb pf) 105 (0, 0))
  le : B ≤ q
  st : PileAt w B ps gs 48 m.stack
  bk : PileAt w B pb gb 48 m.back
  me : Fld.Mem.FieldAt w B pf vC vH m.mem ch
  one : vs.oneCell' = true ∧ vb.oneCell' = true ∧ vm.oneCell' = true
  dqs : q ∉ foot ps gs
  dqb : q ∉ foot pb gb
  dqm : q ∉ Fld.Mem.foot pf vC vH
  dsb : ∀ k ∈ foot ps gs, k ∉ foot pb gb
  dsm : ∀ k ∈ foot ps gs, k ∉ Fld.Mem.foot pf vC vH
  dbm : ∀ k ∈ foot pb gb, k ∉ Fld.Mem.foot pf vC vH
section
variable {w w' : World} {B q ps gs pb gb pf : Nat} {vC vH vC' vH' : Value} {ch : List Int} {vs vb vm : Value} {m : M}
theorem mem_feet {k : Nat} : k ∈ feet q ps gs pb gb pf vC vH ↔ k = q ∨ k ∈ foot ps gs ∨ k ∈ foot pb gb ∨ k ∈ Fld.Mem.foot pf vC vH := by
  unfold feet
  rw [List.mem_cons, List.mem_append, List.mem_append]
theorem Mc.feet_lt (h : Mc w B q ps gs pb gb pf vC vH ch vs vb vm m) : ∀ k ∈ feet q ps gs pb gb pf vC vH, B ≤ k ∧ k < w.heap.size := by
  intro k hk
  rcases mem_feet.1 hk with rfl | hk | hk | hk
  · exact ⟨h.le, whole_lt h.box⟩
  · exact h.st.foot_lt k hk
  · exact h.bk.foot_lt k hk
  · exact h.me.foot_lt k hk
theorem Mc.touch (h : Mc w B q ps gs pb gb pf vC vH ch vs vb vm m) {bs : List Nat} (ht : Stirred w w' bs) (hn : ∀ k ∈ feet q ps gs pb gb pf vC vH, k ∉ bs) : Mc w' B q ps gs pb gb pf vC vH ch vs vb vm m :=
  ⟨ht.whole h.box (hn q (mem_feet.2 (.inl rfl))), h.le, h.st.touch ht (fun k hk => hn k (mem_feet.2 (.inr (.inl hk)))), h.bk.touch ht (fun k hk => hn k (mem_feet.2 (.inr (.inr (.inl hk))))), h.me.touch ht (fun k hk => hn k (mem_feet.2 (.inr (.inr (.inr hk))))), h.one, h.dqs, h.dqb, h.dqm, h.dsb, h.dsm, h.dbm⟩
theorem Mc.below (h : Mc w B q ps gs pb gb pf vC vH ch vs vb vm m) (hb : Below w.heap.size w w') : Mc w' B q ps gs pb gb pf vC vH ch vs vb vm m :=
  h.touch (Stirred.of_below hb []) (fun _ _ => List.not_mem_nil)
theorem Mc.ptrs (h : Mc w B q ps gs pb gb pf vC vH ch vs vb vm m) : w.cell? ⟨q, 10, none⟩ = some (.pointer (some ⟨ps, 0, none⟩)) ∧ w.cell? ⟨q, 11, none⟩ = some (.pointer (some ⟨pb, 0, none⟩)) ∧ w.cell? ⟨q, 12, none⟩ = some (.pointer (some ⟨pf, 0, none⟩)) :=
  ⟨whole_cell h.box rfl, whole_cell h.box rfl, whole_cell h.box rfl⟩
/-- something was done to a stack -/
theorem Mc.stDid (h : Mc w B q ps gs pb gb pf vC vH ch vs vb vm m) {xs : List Int} (hp : PileAt w' B ps gs 48 xs) (ht : Stirred w w' (foot ps gs)) : Mc w' B q ps gs pb gb pf vC vH ch vs vb vm { m with stack := xs } :=
  ⟨ht.whole h.box h.dqs, h.le, hp, h.bk.touch ht (fun k hk hm => h.dsb k hm hk), h.me.touch ht (fun k hk hm => h.dsm k hm hk), h.one, h.dqs, h.dqb, h.dqm, h.dsb, h.dsm, h.dbm⟩
theorem Mc.bkDid (h : Mc w B q ps gs pb gb pf vC vH ch vs vb vm m) {xs : List Int} (hp : PileAt w' B pb gb 48 xs) (ht : Stirred w w' (foot pb gb)) : Mc w' B q ps gs pb gb pf vC vH ch vs vb vm { m with back := xs } :=
  ⟨ht.whole h.box h.dqb, h.le, h.st.touch ht (fun k hk hm => h.dsb k hk hm), hp, h.me.touch ht (fun k hk hm => h.dbm k hm hk), h.one, h.dqs, h.dqb, h.dqm, h.dsb, h.dsm, h.dbm⟩
/-- something was done to the memory -/
theorem Mc.meDid (h : Mc w B q ps gs pb gb pf vC vH ch vs vb vm m) {cs' ch' : List Int} (hp : Fld.Mem.FieldAt w' B pf vC vH' cs' ch') (ht : Stirred w w' (Fld.Mem.foot pf vC vH)) (hn : blk vH' = blk vH ∨ ∃ k, blk vH' = some k ∧ w.heap.size ≤ k) :
    Mc w' B q ps gs pb gb pf vC vH' ch' vs vb vm { m with mem := cs' } ∧ ∀ f ∈ feet q ps gs pb gb pf vC vH', f ∈ feet q ps gs pb gb pf vC vH ∨ w.heap.size ≤ f := by
  have hf : ∀ f ∈ Fld.Mem.foot pf vC vH', f ∈ Fld.Mem.foot pf vC vH ∨ w.heap.size ≤ f := by
    intro f hf
    rcases List.mem_cons.1 hf with rfl | hf
    · exact .inl List.mem_cons_self
    rcases List.mem_append.1 hf with hf | hf
    · exact .inl (List.mem_cons_of_mem _ (List.mem_append_left _ hf))
    · rcases hn with e | ⟨k, e, hk⟩
      · rw [e] at hf
        exact .inl (List.mem_cons_of_mem _ (List.mem_append_right _ hf))
      · rw [e] at hf
        simp at hf
        subst hf
        exact .inr hk
  have out : ∀ k, k < w.heap.size → k ∉ Fld.Mem.foot pf vC vH → k ∉ Fld.Mem.foot pf vC vH' := fun k hk hn' hm => by
    rcases hf k hm with e | e
    · exact hn' e
    · omega
  refine ⟨⟨ht.whole h.box h.dqm, h.le, h.st.touch ht (fun k hk hm => h.dsm k hk hm), h.bk.touch ht (fun k hk hm => h.dbm k hk hm), hp, h.one, h.dqs, h.dqb, out q (whole_lt h.box) h.dqm, h.dsb, fun k hk => out k (h.st.foot_lt k hk).2 (h.dsm k hk), fun k hk => out k (h.bk.foot_lt k hk).2 (h.dbm k hk)⟩, fun f hf' => ?_⟩
  rcases mem_feet.1 hf' with e | e | e | e
  · exact .inl (mem_feet.2 (.inl e))
  · exact .inl (mem_feet.2 (.inr (.inl e)))
  · exact .inl (mem_feet.2 (.inr (.inr (.inl e))))
  · exact (hf f e).imp (fun e => mem_feet.2 (.inr (.inr (.inr e)))) id
/-- a cell of the box is another one -/
theorem Mc.set (h : Mc w B q ps gs pb gb pf vC vH ch vs vb vm m) (j : Nat) (v : Value) (m' : M) (e : cells13 m' vs vb vm ps pb pf = (cells13 m vs vb vm ps pb pf).setIfInBounds j v) (e1 : m'.stack = m.stack) (e2 : m'.back = m.back) (e3 : m'.mem = m.mem) :
    Mc (w.setCell ⟨q, j, none⟩ v) B q ps gs pb gb pf vC vH ch vs vb vm m' := by
  have ht := Stirred.setCell w ⟨q, j, none⟩ v
  have hq : ∀ {l : List Nat}, q ∉ l → ∀ k ∈ l, k ∉ [q] := fun hl k hk hm => hl (by rw [List.mem_singleton] at hm; exact hm ▸ hk)
  refine ⟨by rw [e]; exact whole_set h.box j v, h.le, by rw [e1]; exact h.st.touch ht (hq h.dqs), by rw [e2]; exact h.bk.touch ht (hq h.dqb), by rw [e3]; exact h.me.touch ht (hq h.dqm), h.one, h.dqs, h.dqb, h.dqm, h.dsb, h.dsm, h.dbm⟩
end
/-- a machine whose blocks are these -/
def Mk (w : World) (B q : Nat) (F : List Nat) (m : M) : Prop := ∃ ps gs pb gb pf vC vH ch vs vb vm, F = feet q ps gs pb gb pf vC vH ∧ Mc w B q ps gs pb gb pf vC vH ch vs vb vm m
/-- what was done to a machine -/
def Went (w : World) (B q : Nat) (F : List Nat) (m' : M) (w' : World) : Prop := ∃ F', Mk w' B q F' m' ∧ Stirred w w' F ∧ ∀ k ∈ F', k ∈ F ∨ w.heap.size ≤ k
section
variable {w w' : World} {B q : Nat} {F : List Nat} {m m' : M}
theorem Mc.mach {ps gs pb gb pf : Nat} {vC vH : Value} {ch : List Int} {vs vb vm : Value} (h : Mc w B q ps gs pb gb pf vC vH ch vs vb vm m) : Mk w B q (feet q ps gs pb gb pf vC vH) m := ⟨ps, gs, pb, gb, pf, vC, vH, ch, vs, vb, vm, rfl, h⟩
theorem Mk.lt (h : Mk w B q F m) : ∀ k ∈ F, B ≤ k ∧ k < w.heap.size := by
  obtain ⟨ps, gs, pb, gb, pf, vC, vH, ch, vs, vb, vm, rfl, h⟩ := h
  exact h.feet_lt
theorem Mk.self (h : Mk w B q F m) : q ∈ F := by
  obtain ⟨ps, gs, pb, gb, pf, vC, vH, ch, vs, vb, vm, rfl, h⟩ := h
  exact mem_feet.2 (.inl rfl)
theorem Mk.touch (h : Mk w B q F m) {bs : List Nat} (ht : Stirred w w' bs) (hn : ∀ k ∈ F, k ∉ bs) : Mk w' B q F m := by
  obtain ⟨ps, gs, pb, gb, pf, vC, vH, ch, vs, vb, vm, rfl, h⟩ := h
  exact (h.touch ht hn).mach
theorem Mk.below (h : Mk w B q F m) (hb : Below w.heap.size w w') : Mk w' B q F m := h.touch (Stirred.of_below hb []) (fun _ _ => List.not_mem_nil)
theorem Mk.stays (h : Mk w B q F m) : Went w B q F m w := ⟨F, h, Stirred.refl _ _, fun k hk => .inl hk⟩
theorem Mk.went (h : Mk w' B q F m') (hs : Stirred w w' F) : Went w B q F m' w' := ⟨F, h, hs, fun k hk => .inl hk⟩
theorem Went.below (h : Went w B q F m' w') (hF : ∀ k ∈ F, B ≤ k) (hB : B ≤ w.heap.size) : Below B w w' := by
  obtain ⟨F', h1, h2, h3⟩ := h
  exact h2.below hF hB
theorem Went.trans {w1 : World} {m1 : M} (h : Went w B q F m1 w1) (g : ∀ F1, Mk w1 B q F1 m1 → (∀ k ∈ F1, k ∈ F ∨ w.heap.size ≤ k) → Went w1 B q F1 m' w') : Went w B q F m' w' := by
  obtain ⟨F1, h1, h2, h3⟩ := h
  obtain ⟨F2, g1, g2, g3⟩ := g F1 h1 h3
  refine ⟨F2, g1, h2.trans g2 h3, fun k hk => ?_⟩
  rcases g3 k hk with e | e
  · exact h3 k e
  · exact .inr (Nat.le_trans h2.size e)
/-- new memory alone, then something done -/
theorem Went.from {w1 : World} (hb : Below w.heap.size w w1) (g : Went w1 B q F m' w') : Went w B q F m' w' := by
  obtain ⟨F', g1, g2, g3⟩ := g
  exact ⟨F', g1, (Stirred.of_below hb F).trans g2 (fun k hk => .inl hk), fun k hk => (g3 k hk).imp id (fun e => Nat.le_trans hb.size e)⟩
end
/-- an operation that is done: its box; what it took -/
abbrev cells8 (k g at' nx : Int) (ts tb gs gb : Value) : Array Value := #[.int .i64 k, .int .i64 g, ts, tb, gs, gb, .int .i64 at', .int .i64 nx]
end Go.Proofs.YtcffbeihgchpgaaGreatDoor.Inn
/- Package inner: the topmost cells of a stack. -/
namespace Go.Proofs.YtcffbeihgchpgaaGreatDoor.Inn
open Go.RowKit Book Mem Mach
set_option linter.unusedVariables false
set_option linter.unusedSimpArgs false
theorem fill_step {cs : List Int} {n k : Nat} {x : Int} (hk : k < n) (hn : n ≤ cs.length) (hx : cs[cs.length - 1 - k]? = some x) :
    (List.replicate (n - k) (0 : Int) ++ cs.drop (cs.length - k)).set (n - 1 - k) x = List.replicate (n - (k + 1)) 0 ++ cs.drop (cs.length - (k + 1)) := by
  have h1 : n - k = (n - (k + 1)) + 1 := by omega
  have h2 : n - 1 - k = n - (k + 1) := by omega
  have h3 : cs.drop (cs.length - (k + 1)) = x :: cs.drop (cs.length - k) := by
    have hlt : cs.length - 1 - k < cs.length := by omega
    rw [show cs.length - (k + 1) = cs.length - 1 - k by omega, List.drop_eq_getElem_cons hlt, show cs.length - 1 - k + 1 = cs.length - k by omega]
    congr 1
    rw [List.getElem?_eq_getElem hlt] at hx
    simpa using hx
  rw [h1, h2, List.replicate_succ', List.append_assoc, List.set_append_right _ _ (by simp), h3]
  simp
/-- a row of the call's own that is known whole -/
def Row (w : World) (B g : Nat) (xs : List Int) : Prop := w.heap[g]? = some (.cells (vals xs).toArray 3 (0, 0)) ∧ B ≤ g
abbrev rowV (g n : Nat) : Value := .slice (some ⟨g, 0, none⟩) n n
theorem Row.below {w w' : World} {B g : Nat} {xs : List Int} (h : Row w B g xs) (hb : Below w.heap.size w w') : Row w' B g xs := ⟨(Stirred.of_below hb []).whole h.1 List.not_mem_nil, h.2⟩
theorem Row.from {w : World} {B B' g : Nat} {xs : List Int} (h : Row w B g xs) (hb : B' ≤ B) : Row w B' g xs := ⟨h.1, Nat.le_trans hb h.2⟩
theorem Row.touch {w w' : World} {B g : Nat} {xs : List Int} {bs : List Nat} (h : Row w B g xs) (hs : Stirred w w' bs) (hn : g ∉ bs) : Row w' B g xs := ⟨hs.whole h.1 hn, h.2⟩
theorem Row.cell {w : World} {B g : Nat} {xs : List Int} (h : Row w B g xs) {j : Nat} {x : Int} (hx : xs[j]? = some x) : w.cell? ⟨g, j, none⟩ = some (.int .i64 x) := whole_cell h.1 (by simp [vals, hx])
theorem Row.reads {w : World} {B g : Nat} {xs : List Int} (h : Row w B g xs) {n : Nat} (hn : xs.length = n) : Reads w (rowV g n) xs := by
  subst hn
  exact ⟨some ⟨g, 0, none⟩, xs.length, rfl, fun j x hj => ⟨_, rfl, by rw [add_row]; exact h.cell hj⟩⟩
/-- what 'top' answers -/
def Tops (xs : List Int) (n : Nat) (w : World) (e : Ending) (w' : World) : Prop := ∃ g, e = .returned (rowV g n) ∧ Row w' w.heap.size g xs ∧ Below w.heap.size w w'
set_option maxHeartbeats 4000000 in
theorem top_any {w : World} {B p gp room : Nat} {cs : List Int} (h : PileAt w B p gp room cs) (n : Nat) (hn : n ≤ cs.length) :
    Calls Tryz.prog 151 #[.pointer (some ⟨p, 0, none⟩), .int .i64 n] w (Tops (cs.drop (cs.length - n)) n w) := by
  obtain ⟨i0, q1, q2, q3, q4⟩ := info_parts Tryz.bkIntInfo
  have HI := Lib.hid (And.intro q1 (And.intro q2 (And.intro q3 q4)))
  clear q1 q2 q3 q4
  have HP := Lib.hid h
  have hfit := h.fits
  have hmost := h.most
  have hn9 : n ≤ 1000 := by omega
  have HN := Lib.hid hn
  clear h hn
  go_enter Tryz.func151, Tryz.ntmps151
  go_wp2_with (at_make; refine wpList_make_full _ rfl _ _ 22 rfl w.heap.size 3 i0 (.int .i64 0) 1 Tryz.underlying22 HI.out.1 HI.out.2.1 HI.out.2.2.1 .i64 .i64 _ _ n rfl rfl ?a1 ?a2 ?a3 ?a4 (Nat.le_refl _) ?_)
  case a1 => rfl
  case a2 => rfl
  case a3 => rw [HI.out.2.2.2]; omega
  case a4 => unfold maxLen; omega
  intro w1 hO hG
  rw [toList_madeCells_one] at hO
  have hrow := row_whole hO
  have hz := hG.size
  obtain ⟨g, hg⟩ : ∃ g, w.heap.size = g := ⟨_, rfl⟩
  rw [hg] at hrow
  have HGW := Lib.hid hg
  have hb1 := (Stirred.of_grown hG).below (B := w.heap.size) (fun k h => by cases h) (Nat.le_refl _)
  have HB := Lib.hid hb1
  have HR0 := Lib.hid (show w1.heap[g]? = some (.cells (vals (List.replicate (n - 0) 0 ++ cs.drop (cs.length - 0))).toArray 3 (0, 0)) from by rw [hrow]; simp [vals])
  rw [hg]
  clear hO hG hrow hz hb1 hg
  go_wp2
  go_loopg [11] n (fun m i wr => ∃ k : Nat, m = n - k ∧ k ≤ n ∧ i = .int .i64 k ∧ Hid (wr.heap[g]? = some (.cells (vals (List.replicate (n - k) 0 ++ cs.drop (cs.length - k))).toArray 3 (0, 0))) ∧ Hid (Below w.heap.size w wr))
  case atStart => exact ⟨0, rfl, Nat.zero_le _, rfl, HR0, HB⟩
  case round =>
    obtain ⟨k, rfl, hk, rfl, HR, HB⟩ := hrel
    by_cases hlt : k < n
    · have hj : cs.length - 1 - k < cs.length := by have := HN.out; omega
      obtain ⟨x, hx⟩ : ∃ x, cs[cs.length - 1 - k]? = some x := ⟨_, List.getElem?_eq_getElem hj⟩
      have C := Lib.hid (peek_yes (HP.out.below HB.out) k x (by have := HN.out; omega) hx)
      have HX := Lib.hid hx
      obtain ⟨i, hi⟩ : ∃ i, n - 1 - k = i := ⟨_, rfl⟩
      have HII := Lib.hid hi
      have e1 : (n : Int) - 1 - (k : Int) = (i : Int) := by omega
      have e2 : (0 : Int) ≤ (i : Int) := by omega
      have e3 : (i : Int) < (n : Int) := by omega
      have e4 : (n : Int) - 1 = (i : Int) + (k : Int) := by omega
      have HLT := Lib.hid hlt
      clear hj hx hi
      go_wp2_with fail
      refine C.out.mono ?_
      rintro e wz ⟨rfl, q, hq⟩
      have HR1 := Lib.hid (show wz.heap[g]? = some (.cells (vals (List.replicate (n - k) 0 ++ cs.drop (cs.length - k))).toArray 3 (0, 0)) by rw [hq]; exact HR.out)
      have HB1 := Lib.hid (show Below w.heap.size w wz by rw [hq]; exact HB.out.trans ((Stirred.drewN wr q []).below (fun _ h => by cases h) HB.out.size))
      clear hq C HR HB
      have f1 : wz.frozen? ⟨g, i, none⟩ = false := whole_frozen HR1.out i
      obtain ⟨y, c1⟩ : ∃ y, wz.cell? ⟨g, i, none⟩ = some y := by
        have hl : i < (vals (List.replicate (n - k) 0 ++ cs.drop (cs.length - k))).length := by rw [vals_length, List.length_append, List.length_replicate, List.length_drop]; have := HN.out; omega
        exact ⟨_, whole_cell HR1.out (by rw [List.getElem?_toArray, List.getElem?_eq_getElem hl])⟩
      have hs := Stirred.setCell wz ⟨g, i, none⟩ (.int .i64 x)
      have hw := whole_set HR1.out i (.int .i64 x)
      have HR2 := Lib.hid (show (wz.setCell ⟨g, i, none⟩ (.int .i64 x)).heap[g]? = some (.cells (vals (List.replicate (n - (k + 1)) 0 ++ cs.drop (cs.length - (k + 1)))).toArray 3 (0, 0)) by
        rw [hw, List.setIfInBounds_toArray, vals_set, ← HII.out, fill_step HLT.out HN.out HX.out])
      have HB2 := Lib.hid (HB1.out.trans (hs.below (B := w.heap.size) (fun z hz => by rw [List.mem_singleton.1 hz]; exact Nat.le_of_eq HGW.out) HB1.out.size))
      clear hs hw HR1 HB1
      go_wp2
      go_roundg (n - (k + 1))
      case measure => omega
      case rel => exact ⟨k + 1, rfl, by omega, by go_num, HR2, HB2⟩
    · obtain rfl : k = n := by omega
      go_wp2
      go_ret
      refine ⟨g, rfl, ⟨?_, Nat.le_of_eq HGW.out⟩, HB.out⟩
      have := HR.out
      rw [Nat.sub_self] at this
      exact this
end Go.Proofs.YtcffbeihgchpgaaGreatDoor.Inn
/- Package inner: a machine is made of a state, and told as one. -/
namespace Go.Proofs.YtcffbeihgchpgaaGreatDoor.Inn
open Go.RowKit Book Mem Mach
set_option linter.unusedVariables false
set_option linter.unusedSimpArgs false
/-- what is known while a machine is made, part by part -/
structure OS (w : World) (g : Nat) (cs : Array Value) (st bk me : List Int) (o1 o2 : Option (Nat × Nat)) (o3 : Option (Nat × Value)) (wc : World) : Prop where
  hb : Below w.heap.size w wc
  hg : wc.heap[g]? = some (.cells cs 24 (0, 0))
  h1 : ∀ p, o1 = some p → PileAt wc w.heap.size p.1 p.2 48 st
  h2 : ∀ p, o2 = some p → PileAt wc w.heap.size p.1 p.2 48 bk
  h3 : ∀ p, o3 = some p → Fld.Mem.FieldAt wc w.heap.size p.1 p.2 (.slice none 0 0) me []
  d12 : ∀ p p', o1 = some p → o2 = some p' → ∀ k ∈ foot p.1 p.2, k ∉ foot p'.1 p'.2
  d13 : ∀ p p', o1 = some p → o3 = some p' → ∀ k ∈ foot p.1 p.2, k ∉ Fld.Mem.foot p'.1 p'.2 (.slice none 0 0)
  d23 : ∀ p p', o2 = some p → o3 = some p' → ∀ k ∈ foot p.1 p.2, k ∉ Fld.Mem.foot p'.1 p'.2 (.slice none 0 0)
section
variable {w : World} {g : Nat} {cs : Array Value} {st bk me : List Int} {o1 o2 : Option (Nat × Nat)} {o3 : Option (Nat × Value)} {wc wn : World}
theorem OS.step (h : OS w g cs st bk me o1 o2 o3 wc) (hb : Below wc.heap.size wc wn) : OS w g cs st bk me o1 o2 o3 wn :=
  ⟨h.hb.trans (hb.mono h.hb.size), (Stirred.of_below hb []).whole h.hg List.not_mem_nil, fun p e => (h.h1 p e).below hb, fun p e => (h.h2 p e).below hb, fun p e => (h.h3 p e).below hb, h.d12, h.d13, h.d23⟩
theorem OS.set1 (h : OS w g cs st bk me none o2 o3 wc) {p gp : Nat} (hp : PileAt wn wc.heap.size p gp 48 st) (hb : Below wc.heap.size wc wn) : OS w g cs st bk me (some (p, gp)) o2 o3 wn :=
  have h' := h.step hb
  ⟨h'.hb, h'.hg, fun _ e => by cases e; exact hp.from h.hb.size, h'.h2, h'.h3,
    fun _ p' e e' k hk hm => by cases e; have h1 := (hp.foot_lt k hk).1; have h2 := ((h.h2 p' e').foot_lt k hm).2; omega,
    fun _ p' e e' k hk hm => by cases e; have h1 := (hp.foot_lt k hk).1; have h2 := ((h.h3 p' e').foot_lt k hm).2; omega, h'.d23⟩
theorem OS.set2 (h : OS w g cs st bk me o1 none o3 wc) {p gp : Nat} (hp : PileAt wn wc.heap.size p gp 48 bk) (hb : Below wc.heap.size wc wn) : OS w g cs st bk me o1 (some (p, gp)) o3 wn :=
  have h' := h.step hb
  ⟨h'.hb, h'.hg, h'.h1, fun _ e => by cases e; exact hp.from h.hb.size, h'.h3,
    fun p' _ e' e k hk hm => by cases e; have h1 := (hp.foot_lt k hm).1; have h2 := ((h.h1 p' e').foot_lt k hk).2; omega, h'.d13,
    fun _ p' e e' k hk hm => by cases e; have h1 := (hp.foot_lt k hk).1; have h2 := ((h.h3 p' e').foot_lt k hm).2; omega⟩
theorem OS.set3 (h : OS w g cs st bk me o1 o2 none wc) {p : Nat} {vC : Value} (hp : Fld.Mem.FieldAt wn wc.heap.size p vC (.slice none 0 0) me []) (hb : Below wc.heap.size wc wn) : OS w g cs st bk me o1 o2 (some (p, vC)) wn :=
  have h' := h.step hb
  ⟨h'.hb, h'.hg, h'.h1, h'.h2, fun _ e => by cases e; exact hp.from h.hb.size, h'.d12,
    fun p' _ e' e k hk hm => by cases e; have h1 := (hp.foot_lt k hm).1; have h2 := ((h.h1 p' e').foot_lt k hk).2; omega,
    fun p' _ e' e k hk hm => by cases e; have h1 := (hp.foot_lt k hm).1; have h2 := ((h.h2 p' e').foot_lt k hk).2; omega⟩
end
theorem OS.cells {w wc : World} {g : Nat} {m : M} {vs vb vm : Value} {st bk me : List Int} {o1 o2 : Option (Nat × Nat)} {o3 : Option (Nat × Value)} (h : OS w g (cells10 m.ip m.handler vs vb vm m.out m.inp m.read m.status m.code) st bk me o1 o2 o3 wc) :
    wc.cell? ⟨g, 0, none⟩ = some (.int .i64 m.ip) ∧ wc.cell? ⟨g, 1, none⟩ = some (.int .i64 m.handler) ∧ wc.cell? ⟨g, 2, none⟩ = some vs ∧ wc.cell? ⟨g, 3, none⟩ = some vb ∧ wc.cell? ⟨g, 4, none⟩ = some vm ∧
      wc.cell? ⟨g, 5, none⟩ = some (.string m.out) ∧ wc.cell? ⟨g, 6, none⟩ = some (.string m.inp) ∧ wc.cell? ⟨g, 7, none⟩ = some (.int .i64 m.read) ∧ wc.cell? ⟨g, 8, none⟩ = some (.int .i64 m.status) ∧ wc.cell? ⟨g, 9, none⟩ = some (.int .i64 m.code) :=
  ⟨whole_cell h.hg rfl, whole_cell h.hg rfl, whole_cell h.hg rfl, whole_cell h.hg rfl, whole_cell h.hg rfl, whole_cell h.hg rfl, whole_cell h.hg rfl, whole_cell h.hg rfl, whole_cell h.hg rfl, whole_cell h.hg rfl⟩
/-- the machine is boxed -/
theorem OS.made {w wc : World} {g p1 g1 p2 g2 p3 : Nat} {vC : Value} {m : M} {vs vb vm : Value} (h : OS w g (cells10 m.ip m.handler vs vb vm m.out m.inp m.read m.status m.code) m.stack m.back m.mem (some (p1, g1)) (some (p2, g2)) (some (p3, vC)) wc)
    (one : vs.oneCell' = true ∧ vb.oneCell' = true ∧ vm.oneCell' = true) :
    Mc (wc.alloc (.cells (cells13 m vs vb vm p1 p2 p3) 105)) w.heap.size wc.heap.size p1 g1 p2 g2 p3 vC (.slice none 0 0) [] vs vb vm m ∧ Below w.heap.size w (wc.alloc (.cells (cells13 m vs vb vm p1 p2 p3) 105)) := by
  have hb := (Below.refl wc.heap.size wc).alloc (Nat.le_refl _) (.cells (cells13 m vs vb vm p1 p2 p3) 105)
  have a1 := (h.h1 _ rfl).below hb
  have a2 := (h.h2 _ rfl).below hb
  have a3 := (h.h3 _ rfl).below hb
  have n1 : wc.heap.size ∉ foot p1 g1 := fun hm => Nat.lt_irrefl _ ((h.h1 _ rfl).foot_lt _ hm).2
  have n2 : wc.heap.size ∉ foot p2 g2 := fun hm => Nat.lt_irrefl _ ((h.h2 _ rfl).foot_lt _ hm).2
  have n3 : wc.heap.size ∉ Fld.Mem.foot p3 vC (.slice none 0 0) := fun hm => Nat.lt_irrefl _ ((h.h3 _ rfl).foot_lt _ hm).2
  exact ⟨⟨heap_alloc_new wc _, h.hb.size, a1, a2, a3, one, n1, n2, n3, h.d12 _ _ rfl rfl, h.d13 _ _ rfl rfl, h.d23 _ _ rfl rfl⟩, h.hb.trans (hb.mono h.hb.size)⟩
def Opened (w : World) (m : M) (e : Ending) (w' : World) : Prop := ∃ q F, e = .returned (.pointer (some ⟨q, 0, none⟩)) ∧ Mk w' w.heap.size q F m ∧ Below w.heap.size w w'
set_option maxHeartbeats 8000000 in
set_option maxRecDepth 100000 in
theorem open_any {w : World} {v : Value} {m : M} (h : ReadsM w v m) (hr : Right m) : Calls Tryz.prog 93 #[v] w (Opened w m) := by
  obtain ⟨vs, vb, vm, rfl, hs, hb, hm⟩ := h
  have C1 := Lib.hid (fun wc (hbw : Below w.heap.size w wc) => by have := new_any 48 48 (by decide) vs m.stack wc (hs.1.below hbw); rw [List.take_of_length_le hr.stack] at this; exact this : ∀ wc, Below w.heap.size w wc → Calls Tryz.prog 118 #[.int .i64 48, vs] wc (MadeP wc 48 m.stack))
  have C2 := Lib.hid (fun wc (hbw : Below w.heap.size w wc) => by have := new_any 48 48 (by decide) vb m.back wc (hb.1.below hbw); rw [List.take_of_length_le hr.back] at this; exact this : ∀ wc, Below w.heap.size w wc → Calls Tryz.prog 118 #[.int .i64 48, vb] wc (MadeP wc 48 m.back))
  have C3 := Lib.hid (fun wc (hbw : Below w.heap.size w wc) => by have := Fld.of_any vm m.mem wc (hm.1.below hbw) (by have := hr.mem; omega); rw [List.take_of_length_le hr.mem] at this; exact this : ∀ wc, Below w.heap.size w wc → Calls Tryz.prog 119 #[vm] wc (Fld.Made wc m.mem))
  have HONE := Lib.hid (show vs.oneCell' = true ∧ vb.oneCell' = true ∧ vm.oneCell' = true from by
    obtain ⟨_, _, _, rfl, _⟩ := hs
    obtain ⟨_, _, _, rfl, _⟩ := hb
    obtain ⟨_, _, _, rfl, _⟩ := hm
    exact ⟨rfl, rfl, rfl⟩)
  have hb1 := (Below.refl w.heap.size w).alloc (Nat.le_refl _) (.cells (cells10 m.ip m.handler vs vb vm m.out m.inp m.read m.status m.code) 24)
  have hn1 := heap_alloc_new w (.cells (cells10 m.ip m.handler vs vb vm m.out m.inp m.read m.status m.code) 24)
  obtain ⟨w1, hw1⟩ : ∃ w1, w.alloc (.cells (cells10 m.ip m.handler vs vb vm m.out m.inp m.read m.status m.code) 24) = w1 := ⟨_, rfl⟩
  obtain ⟨g, hg⟩ : ∃ g, w.heap.size = g := ⟨_, rfl⟩
  rw [hw1, hg] at hn1
  rw [hw1] at hb1
  have HS : Hid (OS w g (cells10 m.ip m.handler vs vb vm m.out m.inp m.read m.status m.code) m.stack m.back m.mem none none none w1.drew) := Lib.hid ⟨hb1.drew, hn1, fun p e => (by cases e), fun p e => (by cases e), fun p e => (by cases e), fun p p' e => (by cases e), fun p p' e => (by cases e), fun p p' e => (by cases e)⟩
  clear hs hb hm hb1 hn1 hr
  go_enter Tryz.func93, Tryz.ntmps93
  go_upto_region 1 with fail
  clear hw1 hg
  go_wp2_with fail
  go_region_held3 (fun w' => w'.cell? ⟨g, 0, none⟩ = some (.int .i64 m.ip) ∧ w'.cell? ⟨g, 1, none⟩ = some (.int .i64 m.handler) ∧ w'.cell? ⟨g, 2, none⟩ = some vs ∧ w'.cell? ⟨g, 3, none⟩ = some vb ∧ w'.cell? ⟨g, 4, none⟩ = some vm ∧
      w'.cell? ⟨g, 5, none⟩ = some (.string m.out) ∧ w'.cell? ⟨g, 6, none⟩ = some (.string m.inp) ∧ w'.cell? ⟨g, 7, none⟩ = some (.int .i64 m.read) ∧ w'.cell? ⟨g, 8, none⟩ = some (.int .i64 m.status) ∧ w'.cell? ⟨g, 9, none⟩ = some (.int .i64 m.code))
    (first
      | exact HS.out.cells
      | exact (HS.out.step ((Below.refl _ _).alloc (Nat.le_refl _) _)).cells)
    (first
      | (go_at_call_of 118 vs; refine (C1.out _ HS.out.hb).mono ?_; rintro e wn ⟨p1, g1, rfl, hl, hb⟩; have HS := Lib.hid (HS.out.set1 hl hb); clear hl hb)
      | (go_at_call_of 118 vb; refine (C2.out _ HS.out.hb).mono ?_; rintro e wn ⟨p2, g2, rfl, hl, hb⟩; have HS := Lib.hid (HS.out.set2 hl hb); clear hl hb)
      | (go_at_call_of 119 vm; refine (C3.out _ HS.out.hb).mono ?_; rintro e wn ⟨p3, v3, rfl, hl, hb⟩; have HS := Lib.hid (HS.out.set3 hl hb); clear hl hb))
  all_goals
    go_wp2_with fail
    go_ret
    exact ⟨_, _, rfl, (HS.out.made HONE.out).1.mach, (HS.out.made HONE.out).2⟩
/-- the state in a machine's box, read whole -/
theorem load_rest {w : World} {q ps pb pf : Nat} {m : M} {vs vb vm : Value} {T : TypeId} (hg : w.heap[q]? = some (.cells (cells13 m vs vb vm ps pb pf) T (0, 0))) :
    (loadVar 24 ⟨q, 0, none⟩).run Tryz.prog w = .ok (.agg (cells10 m.ip m.handler vs vb vm m.out m.inp m.read m.status m.code)) w := by
  have a0 : w.cell? ⟨q, 0, none⟩ = some (.int .i64 m.ip) := whole_cell hg rfl
  have a1 : w.cell? ⟨q, 1, none⟩ = some (.int .i64 m.handler) := whole_cell hg rfl
  have a2 : w.cell? ⟨q, 2, none⟩ = some vs := whole_cell hg rfl
  have a3 : w.cell? ⟨q, 3, none⟩ = some vb := whole_cell hg rfl
  have a4 : w.cell? ⟨q, 4, none⟩ = some vm := whole_cell hg rfl
  have a5 : w.cell? ⟨q, 5, none⟩ = some (.string m.out) := whole_cell hg rfl
  have a6 : w.cell? ⟨q, 6, none⟩ = some (.string m.inp) := whole_cell hg rfl
  have a7 : w.cell? ⟨q, 7, none⟩ = some (.int .i64 m.read) := whole_cell hg rfl
  have a8 : w.cell? ⟨q, 8, none⟩ = some (.int .i64 m.status) := whole_cell hg rfl
  have a9 : w.cell? ⟨q, 9, none⟩ = some (.int .i64 m.code) := whole_cell hg rfl
  clear hg
  go_simp
end Go.Proofs.YtcffbeihgchpgaaGreatDoor.Inn
/- Package inner: a machine is told as a state. -/
namespace Go.Proofs.YtcffbeihgchpgaaGreatDoor.Inn
open Go.RowKit Book Mem Mach
set_option linter.unusedVariables false
set_option linter.unusedSimpArgs false
/-- what is known while the lists are told one by one -/
structure SS (w : World) (s r : Nat) (cs : Array Value) (st bk me : List Int) (o1 o2 o3 : Option Value) (wc : World) : Prop where
  hb : Below w.heap.size w wc
  hs : wc.heap[s]? = some (.cells cs 24 (0, 0))
  hr : wc.heap[r]? = some (.cells zero10 24 (0, 0))
  h1 : ∀ v, o1 = some v → Owns wc w.heap.size 3 v (vals st) ∧ ∀ k, blk v = some k → s < k ∧ r < k
  h2 : ∀ v, o2 = some v → Owns wc w.heap.size 3 v (vals bk) ∧ ∀ k, blk v = some k → s < k ∧ r < k
  h3 : ∀ v, o3 = some v → Owns wc w.heap.size 3 v (vals me) ∧ ∀ k, blk v = some k → s < k ∧ r < k
  d12 : ∀ v v', o1 = some v → o2 = some v' → ∀ k, blk v = some k → blk v' ≠ some k
  d13 : ∀ v v', o1 = some v → o3 = some v' → ∀ k, blk v = some k → blk v' ≠ some k
  d23 : ∀ v v', o2 = some v → o3 = some v' → ∀ k, blk v = some k → blk v' ≠ some k
section
variable {w : World} {s r : Nat} {cs : Array Value} {st bk me : List Int} {o1 o2 o3 : Option Value} {wc wn : World}
theorem SS.step (h : SS w s r cs st bk me o1 o2 o3 wc) (hb : Below wc.heap.size wc wn) : SS w s r cs st bk me o1 o2 o3 wn :=
  ⟨h.hb.trans (hb.mono h.hb.size), (Stirred.of_below hb []).whole h.hs List.not_mem_nil, (Stirred.of_below hb []).whole h.hr List.not_mem_nil, fun v e => ⟨(h.h1 v e).1.below hb, (h.h1 v e).2⟩, fun v e => ⟨(h.h2 v e).1.below hb, (h.h2 v e).2⟩, fun v e => ⟨(h.h3 v e).1.below hb, (h.h3 v e).2⟩, h.d12, h.d13, h.d23⟩
theorem SS.new (h : SS w s r cs st bk me o1 o2 o3 wc) {v : Value} {xs : List Int} (ho : Owns wn wc.heap.size 3 v (vals xs)) : Owns wn w.heap.size 3 v (vals xs) ∧ ∀ k, blk v = some k → s < k ∧ r < k :=
  ⟨ho.from h.hb.size, fun k hk => by have h1 := (ho.block k hk).1; have h2 := whole_lt h.hs; have h3 := whole_lt h.hr; omega⟩
theorem SS.set1 (h : SS w s r cs st bk me none o2 o3 wc) {v : Value} (ho : Owns wn wc.heap.size 3 v (vals st)) (hb : Below wc.heap.size wc wn) : SS w s r cs st bk me (some v) o2 o3 wn :=
  have h' := h.step hb
  ⟨h'.hb, h'.hs, h'.hr, fun _ e => by cases e; exact h.new ho, h'.h2, h'.h3,
    fun _ v' e e' k hk hk' => by cases e; have h1 := (ho.block k hk).1; have h2 := ((h.h2 v' e').1.block k hk').2.1; omega,
    fun _ v' e e' k hk hk' => by cases e; have h1 := (ho.block k hk).1; have h2 := ((h.h3 v' e').1.block k hk').2.1; omega, h'.d23⟩
theorem SS.set2 (h : SS w s r cs st bk me o1 none o3 wc) {v : Value} (ho : Owns wn wc.heap.size 3 v (vals bk)) (hb : Below wc.heap.size wc wn) : SS w s r cs st bk me o1 (some v) o3 wn :=
  have h' := h.step hb
  ⟨h'.hb, h'.hs, h'.hr, h'.h1, fun _ e => by cases e; exact h.new ho, h'.h3,
    fun v' _ e' e k hk' hk => by cases e; have h1 := (ho.block k hk).1; have h2 := ((h.h1 v' e').1.block k hk').2.1; omega, h'.d13,
    fun _ v' e e' k hk hk' => by cases e; have h1 := (ho.block k hk).1; have h2 := ((h.h3 v' e').1.block k hk').2.1; omega⟩
theorem SS.set3 (h : SS w s r cs st bk me o1 o2 none wc) {v : Value} (ho : Owns wn wc.heap.size 3 v (vals me)) (hb : Below wc.heap.size wc wn) : SS w s r cs st bk me o1 o2 (some v) wn :=
  have h' := h.step hb
  ⟨h'.hb, h'.hs, h'.hr, h'.h1, h'.h2, fun _ e => by cases e; exact h.new ho, h'.d12,
    fun v' _ e' e k hk' hk => by cases e; have h1 := (ho.block k hk).1; have h2 := ((h.h1 v' e').1.block k hk').2.1; omega,
    fun v' _ e' e k hk' hk => by cases e; have h1 := (ho.block k hk).1; have h2 := ((h.h2 v' e').1.block k hk').2.1; omega⟩
theorem SS.cells (h : SS w s r cs st bk me o1 o2 o3 wc) (hc : cs.size = 10) : wc.frozen? ⟨s, 2, none⟩ = false ∧ wc.frozen? ⟨s, 3, none⟩ = false ∧ wc.frozen? ⟨s, 4, none⟩ = false ∧ wc.cell? ⟨s, 2, none⟩ = some cs[2] ∧ wc.cell? ⟨s, 3, none⟩ = some cs[3] ∧ wc.cell? ⟨s, 4, none⟩ = some cs[4] :=
  ⟨whole_frozen h.hs 2, whole_frozen h.hs 3, whole_frozen h.hs 4, whole_cell h.hs (by simp), whole_cell h.hs (by simp), whole_cell h.hs (by simp)⟩
end
/-- what is there behind the three stores -/
structure SG (w : World) (s r : Nat) (m : M) (v1 v2 v3 : Value) (wc : World) : Prop where
  hb : Below w.heap.size w wc
  hs : wc.heap[s]? = some (.cells (cells10 m.ip m.handler v1 v2 v3 m.out m.inp m.read m.status m.code) 24 (0, 0))
  hr : wc.heap[r]? = some (.cells zero10 24 (0, 0))
  own : OwnsL wc w.heap.size v1 v2 v3 m
  far : ∀ v, v = v1 ∨ v = v2 ∨ v = v3 → ∀ k, blk v = some k → r < k
theorem three_set' {w : World} {g : Nat} {cs : Array Value} {T : TypeId} (h : w.heap[g]? = some (.cells cs T (0, 0))) (a b c : Value) :
    (((w.setCell ⟨g, 2, none⟩ a).setCell ⟨g, 3, none⟩ b).setCell ⟨g, 4, none⟩ c).heap[g]? = some (.cells (((cs.setIfInBounds 2 a).setIfInBounds 3 b).setIfInBounds 4 c) T (0, 0)) ∧ Stirred w (((w.setCell ⟨g, 2, none⟩ a).setCell ⟨g, 3, none⟩ b).setCell ⟨g, 4, none⟩ c) [g] :=
  ⟨whole_set (whole_set (whole_set h 2 a) 3 b) 4 c, ((Stirred.setCell w ⟨g, 2, none⟩ a).trans (Stirred.setCell _ ⟨g, 3, none⟩ b) (fun k hk => .inl hk)).trans (Stirred.setCell _ ⟨g, 4, none⟩ c) (fun k hk => .inl hk)⟩
theorem SG.of {w : World} {s r : Nat} {m : M} {vs vb vm v1 v2 v3 : Value} {wc : World} (hw : w.heap.size ≤ s) (hn : r ≠ s) (h : SS w s r (cells10 m.ip m.handler vs vb vm m.out m.inp m.read m.status m.code) m.stack m.back m.mem (some v1) (some v2) (some v3) wc) :
    SG w s r m v1 v2 v3 (((wc.setCell ⟨s, 2, none⟩ v1).setCell ⟨s, 3, none⟩ v2).setCell ⟨s, 4, none⟩ v3) := by
  have hs := three_set' h.hs v1 v2 v3
  have hk : ∀ {v : Value}, (∀ k, blk v = some k → s < k ∧ r < k) → ∀ k, blk v = some k → k ∉ [s] := fun hf k e hm => by rw [List.mem_singleton] at hm; have := (hf k e).1; omega
  refine ⟨h.hb.trans (hs.2.below (B := w.heap.size) (fun k hk => by rw [List.mem_singleton.1 hk]; exact hw) h.hb.size), hs.1, hs.2.whole h.hr (by rw [List.mem_singleton]; exact hn),
    ⟨(h.h1 _ rfl).1.touch hs.2 (hk (h.h1 _ rfl).2), (h.h2 _ rfl).1.touch hs.2 (hk (h.h2 _ rfl).2), (h.h3 _ rfl).1.touch hs.2 (hk (h.h3 _ rfl).2), fun k e => ⟨h.d12 _ _ rfl rfl k e, h.d13 _ _ rfl rfl k e⟩, fun k e => h.d23 _ _ rfl rfl k e⟩, ?_⟩
  rintro v (rfl | rfl | rfl) k e
  · exact ((h.h1 _ rfl).2 k e).2
  · exact ((h.h2 _ rfl).2 k e).2
  · exact ((h.h3 _ rfl).2 k e).2
/-- a load whose answer is known -/
theorem wpList_loaded {P : Program} {ops : Array Oper} {rest : List Oper} {o : Oper} {a : Act} {w : World} {Q : Exit → Act → World → Prop} (hw : Region.wanted o (yielded ops a.tmps) = true) (ty : TypeId) (x : Operand) (ho : o.op = .load ty x) (ad : Addr) (hx : a.eval x = .pointer (some ad)) (v : Value)
    (hl : (loadVar ty ad).run P w = .ok v w) (h : wpList P ops Q rest (a.put o.dst v) w) : wpList P ops Q (o :: rest) a w := by
  refine wpList_step fun K hK => ?_
  rw [if_pos hw]
  unfold Oper.wp execOp
  simp only [ho, hx, Instr.loadAt, Instr.sureAddr, Sem.run_bind, Sem.run_pure, Result.andThen_ok, hl]
  exact hK _ _ h
theorem keep1 {w : World} {q s j ps pb pf : Nat} {v : Value} (hn : q ≠ s) (h : w.cell? ⟨q, 10, none⟩ = some (.pointer (some ⟨ps, 0, none⟩)) ∧ w.cell? ⟨q, 11, none⟩ = some (.pointer (some ⟨pb, 0, none⟩)) ∧ w.cell? ⟨q, 12, none⟩ = some (.pointer (some ⟨pf, 0, none⟩))) :
    (w.setCell ⟨s, j, none⟩ v).cell? ⟨q, 10, none⟩ = some (.pointer (some ⟨ps, 0, none⟩)) ∧ (w.setCell ⟨s, j, none⟩ v).cell? ⟨q, 11, none⟩ = some (.pointer (some ⟨pb, 0, none⟩)) ∧ (w.setCell ⟨s, j, none⟩ v).cell? ⟨q, 12, none⟩ = some (.pointer (some ⟨pf, 0, none⟩)) :=
  have hs := Stirred.setCell w ⟨s, j, none⟩ v
  have hm : q ∉ [s] := by rw [List.mem_singleton]; exact hn
  ⟨hs.cell hm h.1, hs.cell hm h.2.1, hs.cell hm h.2.2⟩
set_option maxHeartbeats 8000000 in
set_option maxRecDepth 100000 in
theorem state_any {w : World} {B q : Nat} {F : List Nat} {m : M} (h : Mk w B q F m) : Calls Tryz.prog 95 #[.pointer (some ⟨q, 0, none⟩)] w (GivesM m w) := by
  obtain ⟨ps, gs, pb, gb, pf, vC, vH, ch, vs, vb, vm, -, h⟩ := h
  have C1 := Lib.hid (fun wc (hbw : Below w.heap.size w wc) => all_any (h.st.below hbw))
  have C2 := Lib.hid (fun wc (hbw : Below w.heap.size w wc) => all_any (h.bk.below hbw))
  have C3 := Lib.hid (fun wc (hbw : Below w.heap.size w wc) => Fld.all_any (h.me.below hbw))
  have HONE := Lib.hid h.one
  have HM := Lib.hid h
  obtain ⟨w1, w2, r, s, hw1, hw2, hr, hs, HR, HS0, HB, HZ, HW⟩ := two_boxes w zero10
  have hb1 : Below w.heap.size w w1 := by rw [← hw1]; exact (Below.refl w.heap.size w).alloc (Nat.le_refl _) _
  have HL1 := Lib.hid (load_rest (HM.out.below hb1).box)
  have hq : q < w1.heap.size := Nat.lt_of_lt_of_le (whole_lt h.box) hb1.size
  have n1 : w1.cell? ⟨q, 10, none⟩ = some (.pointer (some ⟨ps, 0, none⟩)) := whole_cell (HM.out.below hb1).box rfl
  have HQS := Lib.hid (show q ≠ s by rw [hs] at hq; omega)
  clear h hb1 hq n1
  go_enter Tryz.func95, Tryz.ntmps95
  go_upto_region 2 with (first
    | (refine wpList_loaded (by rfl) _ _ rfl ⟨q, 0, none⟩ rfl _ HL1.out ?_)
    | (refine st_state (by rfl) _ _ rfl s _ rfl rfl _ _ HS0.out rfl rfl (all_one HONE.out.1 HONE.out.2.1 HONE.out.2.2) ?_; intro w3 hs3 ht3; have HS3 := Lib.hid hs3; have HT3 := Lib.hid ht3; clear hs3 ht3))
  have HR3 := Lib.hid (HT3.out.whole HR.out (by have := HZ.out; rw [List.mem_singleton]; omega))
  have hb3 : Below w.heap.size w w3 := by
    have h1 := HB.out
    rw [← HW.out] at h1
    exact h1.trans (HT3.out.below (fun k hk => by rw [List.mem_singleton.1 hk]; have := HZ.out; have := HW.out; omega) h1.size)
  have HS : Hid (SS w s r (cells10 m.ip m.handler vs vb vm m.out m.inp m.read m.status m.code) m.stack m.back m.mem none none none w3.drew) := Lib.hid ⟨hb3.drew, HS3.out, HR3.out, fun p e => (by cases e), fun p e => (by cases e), fun p e => (by cases e), fun p p' e => (by cases e), fun p p' e => (by cases e), fun p p' e => (by cases e)⟩
  obtain ⟨n1, n2, n3⟩ := (HM.out.below hb3).ptrs
  clear hw1 hw2 hr hs HR HS0 hb3 HL1 HB HS3 HT3 HR3
  dsimp only [Act.put]
  go_cut [] (fun wx => ∃ v1 v2 v3, Hid (SG w s r m v1 v2 v3 wx))
  case first =>
    obtain ⟨f2, f3, f4, k2, k3, k4⟩ := HS.out.cells rfl
    go_wp2_with fail
    go_region_held3 (fun w' => w'.cell? ⟨q, 10, none⟩ = some (.pointer (some ⟨ps, 0, none⟩)) ∧ w'.cell? ⟨q, 11, none⟩ = some (.pointer (some ⟨pb, 0, none⟩)) ∧ w'.cell? ⟨q, 12, none⟩ = some (.pointer (some ⟨pf, 0, none⟩)))
      (first
        | exact ⟨n1, n2, n3⟩
        | exact keep1 HQS.out ⟨n1, n2, n3⟩
        | exact keep1 HQS.out (keep1 HQS.out ⟨n1, n2, n3⟩)
        | exact keep1 HQS.out (keep1 HQS.out (keep1 HQS.out ⟨n1, n2, n3⟩)))
      (first
      | (go_at_call_of 123 (Value.pointer (some (⟨ps, 0, none⟩ : Addr))); refine (C1.out _ HS.out.hb).mono ?_; rintro e wn ⟨c, rfl, hl, hb⟩; obtain ⟨ao, cc, hcc⟩ := hl.slice; rw [vals_length] at hcc; subst hcc; have HS := Lib.hid (HS.out.set1 hl hb); clear hl hb; obtain ⟨n1, n2, n3⟩ := (HM.out.below HS.out.hb).ptrs; obtain ⟨f2, f3, f4, k2, k3, k4⟩ := HS.out.cells rfl)
      | (go_at_call_of 123 (Value.pointer (some (⟨pb, 0, none⟩ : Addr))); refine (C2.out _ HS.out.hb).mono ?_; rintro e wn ⟨c, rfl, hl, hb⟩; obtain ⟨ao, cc, hcc⟩ := hl.slice; rw [vals_length] at hcc; subst hcc; have HS := Lib.hid (HS.out.set2 hl hb); clear hl hb; obtain ⟨n1, n2, n3⟩ := (HM.out.below HS.out.hb).ptrs; obtain ⟨f2, f3, f4, k2, k3, k4⟩ := HS.out.cells rfl)
      | (go_at_call_of 124 (Value.pointer (some (⟨pf, 0, none⟩ : Addr))); refine (C3.out _ HS.out.hb).mono ?_; rintro e wn ⟨c, rfl, hl, hb⟩; obtain ⟨ao, cc, hcc⟩ := hl.slice; rw [vals_length] at hcc; subst hcc; have HS := Lib.hid (HS.out.set3 hl hb); clear hl hb; obtain ⟨n1, n2, n3⟩ := (HM.out.below HS.out.hb).ptrs; obtain ⟨f2, f3, f4, k2, k3, k4⟩ := HS.out.cells rfl))
    all_goals
      go_wp2_with fail
      go_meet
      exact ⟨_, _, _, SG.of (by have := HW.out; have := HZ.out; omega) (by have := HZ.out; omega) HS.out⟩
  case rest =>
    obtain ⟨v1, v2, v3, HF⟩ := hcut
    clear HS C1 C2 C3 n1 n2 n3
    have HG := Lib.hid HF.out.hs
    have HR := Lib.hid HF.out.hr
    have HO := Lib.hid HF.out.own
    go_wp2_with (first
      | (refine ld_state (by rfl) _ rfl _ rfl _ _ HG.out rfl ?_)
      | (refine st_state (by rfl) _ _ rfl r _ rfl rfl _ _ HR.out rfl rfl (all_one (slice_one HO.out.st.slice) (slice_one HO.out.bk.slice) (slice_one HO.out.me.slice)) ?_; intro wf hr ht; have HRF := Lib.hid hr; have HTF := Lib.hid ht; clear hr ht))
    refine bodyPost_ret (results_cell_row rfl _ _ r _ _ _ _ rfl HRF.out Tryz.underlying24 rfl state_size) rfl ?_
    have hl := fun {v : Value} {xs : List Int} (ho : Owns wc w.heap.size 3 v (vals xs)) (hf : ∀ k, blk v = some k → r < k) => (ho.touch HTF.out (fun k hk hm => by rw [List.mem_singleton] at hm; have := hf k hk; omega) : Owns wf w.heap.size 3 v (vals xs))
    refine ⟨_, rfl, ⟨v1, v2, v3, rfl, ⟨hl HO.out.st (HF.out.far _ (.inl rfl)), hl HO.out.bk (HF.out.far _ (.inr (.inl rfl))), hl HO.out.me (HF.out.far _ (.inr (.inr rfl))), HO.out.sb, HO.out.bm⟩⟩, HF.out.hb.trans (HTF.out.below (B := w.heap.size) (fun k hk => by rw [List.mem_singleton.1 hk]; have h1 := HW.out; omega) HF.out.hb.size)⟩
end Go.Proofs.YtcffbeihgchpgaaGreatDoor.Inn
/- Package inner: what is done to a machine's stacks, told of the machine; the cells of a catch are taken. -/
namespace Go.Proofs.YtcffbeihgchpgaaGreatDoor.Inn
open Go.RowKit Book Mem Mach
set_option linter.unusedVariables false
set_option linter.unusedSimpArgs false
/-- an answer, and what became of a machine -/
def DidM (w : World) (B q ps gs pb gb pf : Nat) (vC vH : Value) (ch : List Int) (vs vb vm : Value) (m' : M) (v : Value) (e : Ending) (w' : World) : Prop :=
  e = .returned v ∧ Mc w' B q ps gs pb gb pf vC vH ch vs vb vm m' ∧ Stirred w w' (feet q ps gs pb gb pf vC vH)
section
variable {w w' : World} {B q ps gs pb gb pf : Nat} {vC vH : Value} {ch : List Int} {vs vb vm : Value} {m : M}
theorem feet_st : ∀ k ∈ foot ps gs, k ∈ feet q ps gs pb gb pf vC vH := fun k hk => mem_feet.2 (.inr (.inl hk))
theorem feet_bk : ∀ k ∈ foot pb gb, k ∈ feet q ps gs pb gb pf vC vH := fun k hk => mem_feet.2 (.inr (.inr (.inl hk)))
theorem feet_me : ∀ k ∈ Fld.Mem.foot pf vC vH, k ∈ feet q ps gs pb gb pf vC vH := fun k hk => mem_feet.2 (.inr (.inr (.inr hk)))
theorem feet_q : q ∈ feet q ps gs pb gb pf vC vH := mem_feet.2 (.inl rfl)
theorem stir_q (w : World) (j : Nat) (v : Value) : Stirred w (w.setCell ⟨q, j, none⟩ v) (feet q ps gs pb gb pf vC vH) := (Stirred.setCell w ⟨q, j, none⟩ v).more (fun k hk => by rw [List.mem_singleton.1 hk]; exact feet_q)
theorem Mc.push (h : Mc w B q ps gs pb gb pf vC vH ch vs vb vm m) (v : Value) (xs : List Int) (hv : ∀ w', Stirred w w' (feet q ps gs pb gb pf vC vH) → Reads w' v xs) (hf : m.stack.length + xs.length ≤ 48) :
    Calls Tryz.prog 143 #[.pointer (some ⟨ps, 0, none⟩), v] w (DidM w B q ps gs pb gb pf vC vH ch vs vb vm { m with stack := m.stack ++ xs } (.bool true)) :=
  (push_yes h.st v xs (fun w' hs => hv w' (hs.more feet_st)) hf).mono fun e w' ⟨h1, h2, h3⟩ => ⟨h1, h.stDid h2 h3, h3.more feet_st⟩
theorem Mc.pushB (h : Mc w B q ps gs pb gb pf vC vH ch vs vb vm m) (v : Value) (xs : List Int) (hv : ∀ w', Stirred w w' (feet q ps gs pb gb pf vC vH) → Reads w' v xs) (hf : m.back.length + xs.length ≤ 48) :
    Calls Tryz.prog 143 #[.pointer (some ⟨pb, 0, none⟩), v] w (DidM w B q ps gs pb gb pf vC vH ch vs vb vm { m with back := m.back ++ xs } (.bool true)) :=
  (push_yes h.bk v xs (fun w' hs => hv w' (hs.more feet_bk)) hf).mono fun e w' ⟨h1, h2, h3⟩ => ⟨h1, h.bkDid h2 h3, h3.more feet_bk⟩
theorem Mc.cut (h : Mc w B q ps gs pb gb pf vC vH ch vs vb vm m) (n : Nat) (hn : n ≤ 48) :
    Calls Tryz.prog 141 #[.pointer (some ⟨ps, 0, none⟩), .int .i64 n] w (DidM w B q ps gs pb gb pf vC vH ch vs vb vm { m with stack := cutTo m.stack n } (.bool true)) :=
  (cut_yes h.st n hn).mono fun e w' ⟨h1, h2, h3⟩ => ⟨h1, h.stDid h2 h3, h3.more feet_st⟩
theorem Mc.cutB (h : Mc w B q ps gs pb gb pf vC vH ch vs vb vm m) (n : Nat) (hn : n ≤ 48) :
    Calls Tryz.prog 141 #[.pointer (some ⟨pb, 0, none⟩), .int .i64 n] w (DidM w B q ps gs pb gb pf vC vH ch vs vb vm { m with back := cutTo m.back n } (.bool true)) :=
  (cut_yes h.bk n hn).mono fun e w' ⟨h1, h2, h3⟩ => ⟨h1, h.bkDid h2 h3, h3.more feet_bk⟩
/-- a cell of the box is written -/
theorem Mc.set' (h : Mc w B q ps gs pb gb pf vC vH ch vs vb vm m) (j : Nat) (v : Value) (m' : M) (e : cells13 m' vs vb vm ps pb pf = (cells13 m vs vb vm ps pb pf).setIfInBounds j v) (e1 : m'.stack = m.stack) (e2 : m'.back = m.back) (e3 : m'.mem = m.mem) :
    Mc (w.setCell ⟨q, j, none⟩ v) B q ps gs pb gb pf vC vH ch vs vb vm m' ∧ Stirred w (w.setCell ⟨q, j, none⟩ v) (feet q ps gs pb gb pf vC vH) := ⟨h.set j v m' e e1 e2 e3, stir_q w j v⟩
end
/-- a new row of numbers -/
theorem row_box (w : World) (xs : List Int) : ∃ w1 g, w.alloc (.cells (vals xs).toArray 3) = w1 ∧ w.heap.size = g ∧ Hid (Row w1 g g xs) ∧ Hid (Below w.heap.size w w1) ∧ Hid (w.heap.size = g) :=
  ⟨_, _, rfl, rfl, ⟨heap_alloc_new w _, Nat.le_refl _⟩, (Below.refl w.heap.size w).alloc (Nat.le_refl _) _, rfl⟩
/-- .. stays, whatever is done elsewhere -/
theorem Row.stays {w : World} {B g n : Nat} {xs : List Int} {F : List Nat} (h : Row w B g xs) (hn : xs.length = n) (hF : ∀ k ∈ F, k < B) : ∀ w', Stirred w w' F → Reads w' (rowV g n) xs :=
  fun w' hs => (h.touch hs (fun hm => by have h1 := hF g hm; have h2 := h.2; omega)).reads hn
theorem nth_at {l : List Int} {k : Nat} {x : Int} (hk : k < l.length) (h : l[l.length - 1 - k]? = some x) : nth l k = x := by
  unfold nth
  rw [if_pos hk, List.getD_eq_getElem?_getD, h]
  rfl
theorem nth_drop {l : List Int} {n k : Nat} (hn : n ≤ l.length) (hk : k < n) : (l.drop (l.length - n))[n - 1 - k]? = some (nth l k) := by
  have h1 : l.length - 1 - k < l.length := by omega
  rw [List.getElem?_drop, show l.length - n + (n - 1 - k) = l.length - 1 - k by omega, List.getElem?_eq_getElem h1]
  congr 1
  exact (nth_at (by omega) (List.getElem?_eq_getElem h1)).symm
set_option maxHeartbeats 4000000 in
set_option maxRecDepth 100000 in
/-- the cells of the nearest Catch are taken -/
theorem uncatch_any {w : World} {B q ps gs pb gb pf : Nat} {vC vH : Value} {ch : List Int} {vs vb vm : Value} {m : M} (h : Mc w B q ps gs pb gb pf vC vH ch vs vb vm m) (hB : B ≤ w.heap.size) (hl : 3 ≤ m.back.length) :
    Calls Tryz.prog 142 #[.pointer (some ⟨q, 0, none⟩)] w (DidM w B q ps gs pb gb pf vC vH ch vs vb vm { m with handler := nth m.back 1, back := less m.back 3 } (.int .i64 (nth m.back 2))) := by
  have C := Lib.hid (pop_yes h.bk hB 3 (m.back.length - 3) (by omega))
  have HH := Lib.hid h
  have HL := Lib.hid hl
  obtain ⟨n1, n2, n3⟩ := h.ptrs
  clear h hl hB
  go_enter Tryz.func142, Tryz.ntmps142
  go_wp2_with fail
  refine C.out.mono ?_
  rintro e w1 ⟨v, rfl, ho, hp, hs⟩
  have hM := HH.out.bkDid hp hs
  have hS := hs.more (feet_bk (q := q) (ps := ps) (gs := gs) (pf := pf) (vC := vC) (vH := vH))
  have hlen : (m.back.drop (m.back.length - 3)).length = 3 := by rw [List.length_drop]; have := HL.out; omega
  obtain ⟨g, cap, rfl, hblk⟩ := owns_slice ho (by rw [hlen]; decide)
  rw [hlen] at ho
  have x0 : (m.back.drop (m.back.length - 3))[0]? = some (nth m.back 2) := nth_drop (n := 3) (k := 2) HL.out (by decide)
  have x1 : (m.back.drop (m.back.length - 3))[1]? = some (nth m.back 1) := nth_drop (n := 3) (k := 1) HL.out (by decide)
  have k0 : w1.cell? ⟨g, 0, none⟩ = some (.int .i64 (nth m.back 2)) := by
    rw [(owns_at ho (j := 0) (by rw [hlen]; decide)).1]; congr 2; rw [List.getElem?_eq_getElem (by rw [hlen]; decide)] at x0; exact Option.some.inj x0
  have k1 : w1.cell? ⟨g, 1, none⟩ = some (.int .i64 (nth m.back 1)) := by
    rw [(owns_at ho (j := 1) (by rw [hlen]; decide)).1]; congr 2; rw [List.getElem?_eq_getElem (by rw [hlen]; decide)] at x1; exact Option.some.inj x1
  have c1 : w1.cell? ⟨q, 1, none⟩ = some (.int .i64 m.handler) := whole_cell hM.box rfl
  have f1 : w1.frozen? ⟨q, 1, none⟩ = false := whole_frozen hM.box 1
  rw [hlen]
  have HR := Lib.hid (hM.set' 1 (.int .i64 (nth m.back 1)) { m with handler := nth m.back 1, back := less m.back 3 } rfl rfl rfl rfl)
  have HSS := Lib.hid hS
  clear ho hp hs hM hS hlen hblk x0 x1 C
  generalize nth m.back 2 = y2 at *
  generalize nth m.back 1 = y1 at *
  go_wp2
  go_ret
  exact ⟨rfl, HR.out.1, HSS.out.trans HR.out.2 (fun k hk => .inl hk)⟩
end Go.Proofs.YtcffbeihgchpgaaGreatDoor.Inn
