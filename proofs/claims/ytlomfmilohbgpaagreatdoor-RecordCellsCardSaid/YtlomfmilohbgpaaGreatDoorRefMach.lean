
/- The document's own machine (chapter 9): a state's box, copying, which may be, beginning a word. -/
import Derived.Test.YtlomfmilohbgpaaGreatDoorMachMem
import Derived.Test.YtlomfmilohbgpaaGreatDoorBookInts
import Derived.Test.YtlomfmilohbgpaaGreatDoorBoxes
import Derived.Laws.Rows
import Derived.Laws.ResultCell
import Derived.Deep.RegionHeld3
namespace Go.Proofs.YtlomfmilohbgpaaGreatDoor.Mach
open Go.RowKit Book Mem
set_option linter.unusedVariables false
set_option linter.unusedSimpArgs false
abbrev cells10 (ip hn : Int) (vs vb vm : Value) (ou inn : ByteArray) (rd stt cd : Int) : Array Value := #[.int .i64 ip, .int .i64 hn, vs, vb, vm, .string ou, .string inn, .int .i64 rd, .int .i64 stt, .int .i64 cd]
abbrev zero10 : Array Value := #[.int .i64 0, .int .i64 0, .slice none 0 0, .slice none 0 0, .slice none 0 0, .string ⟨#[]⟩, .string ⟨#[]⟩, .int .i64 0, .int .i64 0, .int .i64 0]
theorem state_size : (Tryz.prog.info? 24).map (·.size) = some 10 := by kernel_rfl
theorem load_state {w : World} {g : Nat} {cs : Array Value} (hg : w.heap[g]? = some (.cells cs 24 (0, 0))) (hs : cs.size = 10) : (loadVar 24 ⟨g, 0, none⟩).run Tryz.prog w = .ok (.agg cs) w :=
  run_loadVar_row w g _ _ cs _ _ hg Tryz.underlying24 rfl (by rw [hs]; exact state_size)
section
variable {ops : Array Oper} {rest : List Oper} {o : Oper} {a : Act} {w : World} {Q : Exit → Act → World → Prop}
theorem ld_int (hw : Region.wanted o (yielded ops a.tmps) = true) (x : Operand) (ho : o.op = .load 3 x) (ad : Addr) (hx : a.eval x = .pointer (some ad)) (v : Value) (hc : w.cell? ad = some v) (h : wpList Tryz.prog ops Q rest (a.put o.dst v) w) : wpList Tryz.prog ops Q (o :: rest) a w :=
  wpList_getf hw _ x ho _ Tryz.underlying3 rfl ad hx v hc h
theorem ld_ints (hw : Region.wanted o (yielded ops a.tmps) = true) (x : Operand) (ho : o.op = .load 22 x) (ad : Addr) (hx : a.eval x = .pointer (some ad)) (v : Value) (hc : w.cell? ad = some v) (h : wpList Tryz.prog ops Q rest (a.put o.dst v) w) : wpList Tryz.prog ops Q (o :: rest) a w :=
  wpList_getf hw _ x ho _ Tryz.underlying22 rfl ad hx v hc h
theorem ld_str (hw : Region.wanted o (yielded ops a.tmps) = true) (x : Operand) (ho : o.op = .load 9 x) (ad : Addr) (hx : a.eval x = .pointer (some ad)) (v : Value) (hc : w.cell? ad = some v) (h : wpList Tryz.prog ops Q rest (a.put o.dst v) w) : wpList Tryz.prog ops Q (o :: rest) a w :=
  wpList_getf hw _ x ho _ Tryz.underlying9 rfl ad hx v hc h
theorem one_int : (Tryz.prog.info? 3).map (·.size) = some 1 := by kernel_rfl
theorem one_ints : (Tryz.prog.info? 22).map (·.size) = some 1 := by kernel_rfl
theorem one_str : (Tryz.prog.info? 9).map (·.size) = some 1 := by kernel_rfl
theorem st_int (hw : Region.wanted o (yielded ops a.tmps) = true) (x y : Operand) (ho : o.op = .store 3 x y) (g j : Nat) (hx : a.eval x = .pointer (some ⟨g, j, none⟩)) (v : Value) (hy : a.eval y = v) (h1 : v.oneCell' = true) (cs : Array Value) (T : TypeId) (hg : w.heap[g]? = some (.cells cs T (0, 0))) (hj : j < cs.size)
    (h : ∀ w', w'.heap[g]? = some (.cells (cs.setIfInBounds j v) T (0, 0)) → Stirred w w' [g] → wpList Tryz.prog ops Q rest (a.put o.dst undef) w') : wpList Tryz.prog ops Q (o :: rest) a w :=
  wpList_setf hw _ x y ho one_int g j hx v hy h1 cs T hg hj h
theorem st_ints (hw : Region.wanted o (yielded ops a.tmps) = true) (x y : Operand) (ho : o.op = .store 22 x y) (g j : Nat) (hx : a.eval x = .pointer (some ⟨g, j, none⟩)) (v : Value) (hy : a.eval y = v) (h1 : v.oneCell' = true) (cs : Array Value) (T : TypeId) (hg : w.heap[g]? = some (.cells cs T (0, 0))) (hj : j < cs.size)
    (h : ∀ w', w'.heap[g]? = some (.cells (cs.setIfInBounds j v) T (0, 0)) → Stirred w w' [g] → wpList Tryz.prog ops Q rest (a.put o.dst undef) w') : wpList Tryz.prog ops Q (o :: rest) a w :=
  wpList_setf hw _ x y ho one_ints g j hx v hy h1 cs T hg hj h
theorem st_str (hw : Region.wanted o (yielded ops a.tmps) = true) (x y : Operand) (ho : o.op = .store 9 x y) (g j : Nat) (hx : a.eval x = .pointer (some ⟨g, j, none⟩)) (v : Value) (hy : a.eval y = v) (h1 : v.oneCell' = true) (cs : Array Value) (T : TypeId) (hg : w.heap[g]? = some (.cells cs T (0, 0))) (hj : j < cs.size)
    (h : ∀ w', w'.heap[g]? = some (.cells (cs.setIfInBounds j v) T (0, 0)) → Stirred w w' [g] → wpList Tryz.prog ops Q rest (a.put o.dst undef) w') : wpList Tryz.prog ops Q (o :: rest) a w :=
  wpList_setf hw _ x y ho one_str g j hx v hy h1 cs T hg hj h
theorem ld_state (hw : Region.wanted o (yielded ops a.tmps) = true) (x : Operand) (ho : o.op = .load 24 x) (g : Nat) (hx : a.eval x = .pointer (some ⟨g, 0, none⟩)) (cs : Array Value) (T : TypeId) (hg : w.heap[g]? = some (.cells cs T (0, 0))) (hs : cs.size = 10)
    (h : wpList Tryz.prog ops Q rest (a.put o.dst (.agg cs)) w) : wpList Tryz.prog ops Q (o :: rest) a w :=
  wpList_getbox hw _ x ho _ Tryz.underlying24 rfl g hx cs T hg (by rw [hs]; exact state_size) h
theorem st_state (hw : Region.wanted o (yielded ops a.tmps) = true) (x y : Operand) (ho : o.op = .store 24 x y) (g : Nat) (cells : Array Value) (hx : a.eval x = .pointer (some ⟨g, 0, none⟩)) (hy : a.eval y = .agg cells) (old : Array Value) (T : TypeId) (hg : w.heap[g]? = some (.cells old T (0, 0))) (hs : cells.size = 10) (hold : old.size = 10) (h1 : cells.all (·.oneCell') = true)
    (h : ∀ w', w'.heap[g]? = some (.cells cells T (0, 0)) → Stirred w w' [g] → wpList Tryz.prog ops Q rest (a.put o.dst undef) w') : wpList Tryz.prog ops Q (o :: rest) a w :=
  wpList_setbox hw _ x y ho g cells hx hy old T hg (by rw [hs]; exact state_size) (by rw [hold, hs]) h1 h
end
/-- two new boxes: what came in, and an empty one -/
theorem two_boxes (w : World) (cs : Array Value) : ∃ w1 w2 g r, w.alloc (.cells cs 24) = w1 ∧ w1.alloc (.cells zero10 24) = w2 ∧ w.heap.size = g ∧ w1.heap.size = r ∧
    Hid (w2.heap[g]? = some (.cells cs 24 (0, 0))) ∧ Hid (w2.heap[r]? = some (.cells zero10 24 (0, 0))) ∧ Hid (Below g w w2) ∧ Hid (g < r) ∧ Hid (w.heap.size = g) := by
  have hb1 := (Below.refl w.heap.size w).alloc (Nat.le_refl _) (.cells cs 24)
  have hn1 := heap_alloc_new w (.cells cs 24)
  have hb2 := (Below.refl (w.alloc (.cells cs 24)).heap.size (w.alloc (.cells cs 24))).alloc (Nat.le_refl _) (.cells zero10 24)
  have hn2 := heap_alloc_new (w.alloc (.cells cs 24)) (.cells zero10 24)
  exact ⟨_, _, _, _, rfl, rfl, rfl, rfl, (Stirred.of_below hb2 []).whole hn1 List.not_mem_nil, hn2, hb1.trans (hb2.mono hb1.size), whole_lt hn1, rfl⟩
/-- which machines may be -/
def rightM (m : M) : Bool := decide (m.stack.length ≤ 48 ∧ m.back.length ≤ 48 ∧ m.mem.length ≤ 3000 ∧ m.out.size ≤ 2000 ∧ 0 ≤ m.read ∧ m.read ≤ m.inp.size ∧ 0 ≤ m.status ∧ m.status ≤ 2)
theorem rightM_iff (m : M) : rightM m = true ↔ Right m := by
  unfold rightM
  rw [decide_eq_true_eq]
  exact ⟨fun ⟨a, b, c, d, e, f, g, h⟩ => ⟨a, b, c, d, e, f, g, h⟩, fun ⟨a, b, c, d, e, f, g, h⟩ => ⟨a, b, c, d, e, f, g, h⟩⟩
set_option maxHeartbeats 4000000 in
theorem refRight_any {w : World} {v : Value} {m : M} (h : ReadsM w v m) (hi : m.inp.size ≤ maxLen) (ho : m.out.size ≤ maxLen) :
    Calls Tryz.prog 10 #[v] w (Says (.bool (rightM m)) w) := by
  obtain ⟨vs, vb, vm, rfl, ⟨⟨so, sc, hs, _⟩, _⟩, ⟨⟨bo, bc, hb, _⟩, _⟩, ⟨⟨mo, mc, hm, _⟩, _⟩⟩ := h
  obtain ⟨ip, hn, st, bk, me, ou, inn, rd, stt, cd⟩ := m
  simp only at hs hb hm hi ho ⊢
  subst hs
  subst hb
  subst hm
  have hi' : inn.size ≤ 9223372036854775807 := hi
  have ho' : ou.size ≤ 9223372036854775807 := ho
  have HR := Lib.hid (show rightM ⟨ip, hn, st, bk, me, ou, inn, rd, stt, cd⟩ = decide (st.length ≤ 48 ∧ bk.length ≤ 48 ∧ me.length ≤ 3000 ∧ ou.size ≤ 2000 ∧ 0 ≤ rd ∧ rd ≤ inn.size ∧ 0 ≤ stt ∧ stt ≤ 2) from rfl)
  obtain ⟨r, hr⟩ : ∃ r, rightM ⟨ip, hn, st, bk, me, ou, inn, rd, stt, cd⟩ = r := ⟨_, rfl⟩
  rw [hr]
  have HR2 := Lib.hid (hr.symm.trans HR.out)
  clear hi ho hr HR
  have hb1 := Lib.hid ((Below.refl w.heap.size w).alloc (Nat.le_refl _) (.cells (cells10 ip hn (.slice so st.length sc) (.slice bo bk.length bc) (.slice mo me.length mc) ou inn rd stt cd) 24))
  by_cases c1 : st.length ≤ 48
  · by_cases c2 : bk.length ≤ 48
    · by_cases c3 : me.length ≤ 3000
      · by_cases c4 : ou.size ≤ 2000
        · by_cases c5 : 0 ≤ rd
          · by_cases c6 : rd ≤ (inn.size : Int)
            · by_cases c7 : 0 ≤ stt
              · have HE := Lib.hid (show r = decide (stt ≤ 2) by rw [HR2.out]; exact decide_eq_decide.2 ⟨fun h => h.2.2.2.2.2.2.2, fun h => ⟨c1, c2, c3, c4, c5, c6, c7, h⟩⟩)
                go_enter Tryz.func10, Tryz.ntmps10
                go_wp2
                go_ret
                exact ⟨by rw [HE.out]; rfl, hb1.out⟩
              · have HE := Lib.hid (show r = false by rw [HR2.out]; exact decide_eq_false fun h => c7 h.2.2.2.2.2.2.1)
                go_enter Tryz.func10, Tryz.ntmps10
                go_wp2
                go_ret
                exact ⟨by rw [HE.out]; rfl, hb1.out⟩
            · have HE := Lib.hid (show r = false by rw [HR2.out]; exact decide_eq_false fun h => c6 h.2.2.2.2.2.1)
              go_enter Tryz.func10, Tryz.ntmps10
              go_wp2
              go_ret
              exact ⟨by rw [HE.out]; rfl, hb1.out⟩
          · have HE := Lib.hid (show r = false by rw [HR2.out]; exact decide_eq_false fun h => c5 h.2.2.2.2.1)
            go_enter Tryz.func10, Tryz.ntmps10
            go_wp2
            go_ret
            exact ⟨by rw [HE.out]; rfl, hb1.out⟩
        · have HE := Lib.hid (show r = false by rw [HR2.out]; exact decide_eq_false fun h => c4 h.2.2.2.1)
          go_enter Tryz.func10, Tryz.ntmps10
          go_wp2
          go_ret
          exact ⟨by rw [HE.out]; rfl, hb1.out⟩
      · have HE := Lib.hid (show r = false by rw [HR2.out]; exact decide_eq_false fun h => c3 h.2.2.1)
        go_enter Tryz.func10, Tryz.ntmps10
        go_wp2
        go_ret
        exact ⟨by rw [HE.out]; rfl, hb1.out⟩
    · have HE := Lib.hid (show r = false by rw [HR2.out]; exact decide_eq_false fun h => c2 h.2.1)
      go_enter Tryz.func10, Tryz.ntmps10
      go_wp2
      go_ret
      exact ⟨by rw [HE.out]; rfl, hb1.out⟩
  · have HE := Lib.hid (show r = false by rw [HR2.out]; exact decide_eq_false fun h => c1 h.1)
    go_enter Tryz.func10, Tryz.ntmps10
    go_wp2
    go_ret
    exact ⟨by rw [HE.out]; rfl, hb1.out⟩
end Go.Proofs.YtlomfmilohbgpaaGreatDoor.Mach
