
/- Package eval: the instructions are done, one after the other. -/
import Derived.Test.YtbiinnfkokaadaaDoorEvAll
import Derived.Test.YtbiinnfkokaadaaDoorEvCells
import Derived.Test.YtbiinnfkokaadaaDoorIrStore
import Derived.Test.YtbiinnfkokaadaaDoorBookInts
import Derived.Laws.MakeOwn
import Derived.Deep.LoopGhost
namespace Go.Proofs.YtbiinnfkokaadaaDoor.Ev
open Go.RowKit Book Mem
open Ir (T I O trA ReadsL insA insV CI CT)
open Mach (M)
open Go.Proofs.YtbiinnfkokaadaaDoor.Cell (In)
set_option linter.unusedSimpArgs false
set_option linter.unusedVariables false
abbrev zero5 : Array Value := #[.int .i64 0, .int .i64 0, .int .i64 0, .int .i64 0, .int .i64 0]
section
variable {ops : Array Oper} {rest : List Oper} {o : Oper} {a : Act} {w : World} {Q : Exit → Act → World → Prop}
theorem st_ins (hw : Region.wanted o (yielded ops a.tmps) = true) (x y : Operand) (ho : o.op = .store 43 x y) (g : Nat) (cs : Array Value) (hx : a.eval x = .pointer (some ⟨g, 0, none⟩)) (hy : a.eval y = .agg cs) (hcs : cs.size = 5) (old : Array Value) (hold : old.size = 5) (hg : w.heap[g]? = some (.cells old 43 (0, 0))) (h1 : cs.all (·.oneCell') = true)
    (h : ∀ w', w'.heap[g]? = some (.cells cs 43 (0, 0)) → Stirred w w' [g] → wpList Tryd.prog ops Q rest (a.put o.dst undef) w') : wpList Tryd.prog ops Q (o :: rest) a w :=
  wpList_setbox hw _ x y ho g cs hx hy old _ hg (by rw [Ir.ins_size, hcs]) (by rw [hold, hcs]) h1 h
end
theorem put1_at (g : Nat) (o : Obj) (e : Nat → Option Obj) : put1 g o e g = some o := by unfold put1; rw [if_pos rfl]
/-- a row of one number -/
theorem row_one (w : World) (x : Int) : ∃ w1 g, w.alloc (.cells #[.int .i64 x] 3) = w1 ∧ w.heap.size = g ∧ Hid (Reads w1 (.slice (some ⟨g, 0, none⟩) 1 1) [x]) ∧ Hid (Below w.heap.size w w1) :=
  ⟨_, _, rfl, rfl, Reads.of_owns (Owns.built w (.int .i64 x) 3), (Below.refl w.heap.size w).alloc (Nat.le_refl _) _⟩
/-- what the instructions leave -/
def DidX (W : World) (q : Nat) (t : T) (wat : List Int) (z : Sl) (x : X) (e : Ending) (w' : World) : Prop := e = .returned (.int .i64 x.exit) ∧ ∃ v, RunAt W w' q t wat x.s x.V x.hit { z with vv := v }
section
variable {W w : World} {q : Nat} {t : T} {wat : List Int} {s : M} {V : List Int} {hit : Bool} {z : Sl}
set_option maxHeartbeats 8000000 in
set_option maxRecDepth 100000 in
theorem exit_any (h : RunAt W w q t wat s [] false z) (hz : Sz s [] wat) (hs : CM s) (hc : ∀ x ∈ t.ins, CI x) (hT : Tabs W) (hn : t.ins.length ≤ 10000) : Calls Tryd.prog 25 #[.pointer (some ⟨q, 0, none⟩)] w (DidX W q t wat z (goI wat t.last t.ins s [])) := by
  obtain ⟨i0, q1, q2, q3, q4⟩ := info_parts Tryd.bkIntInfo
  have HI := Lib.hid (And.intro q1 (And.intro q2 (And.intro q3 q4)))
  have HR := Lib.hid h
  have HZ := Lib.hid hz
  have HS := Lib.hid hs
  have HC := Lib.hid hc
  have HT := Lib.hid hT
  obtain ⟨n, hnn⟩ : ∃ n, t.ins.length = n := ⟨_, rfl⟩
  have HN := Lib.hid hnn
  rw [hnn] at hn
  obtain ⟨ai, ci, -, -, -, -, e1, -, -⟩ := h.tr.known
  rw [hnn] at e1
  obtain ⟨c0, c1, c2, c5, c6, c7, c11, c12, c13, c14, c15, c16, c19, c20, c21⟩ := h.cells
  have f19 := h.free 19
  obtain ⟨w1, hmk, hO, hG⟩ := run_makeSlice_owned (P := Tryd.prog) w w.heap.size 24 3 i0 (.int .i64 0) 1 Tryd.underlying24 HI.out.1 HI.out.2.1 HI.out.2.2.1 .i64 .i64 n (by omega) (by rw [HI.out.2.2.2]; omega) (by unfold maxLen; omega) (Nat.le_refl _)
  obtain ⟨vs, vb, vm, vv, vw, vi, vo, vc, ex'⟩ := z
  dsimp only at e1 c5 c6 c11 c12 c13 c19 c20
  subst e1
  have hb1 := (Stirred.of_grown hG)
  have H1 := Lib.hid ((HR.out.newVals (w' := w1) (v := .slice (some ⟨w.heap.size, 0, none⟩) 0 n) (V' := []) ((Owns.of_row hO).from HR.out.hb.size) (hb1.more (fun k hk => by cases hk)) (fun k e => .inr ((Owns.of_row hO).block k e).1)))
  have f19 := whole_frozen (hb1.whole h.box (by simp)) 19
  have c19 := whole_cell (hb1.whole h.box (by simp)) (show _[19]? = some vv from rfl)
  obtain ⟨g1, hg1⟩ : ∃ g1, w.heap.size = g1 := ⟨_, rfl⟩
  rw [hg1] at hmk H1
  obtain ⟨w2, hw2⟩ : ∃ w2, w1.setCell ⟨q, 19, none⟩ (.slice (some ⟨g1, 0, none⟩) 0 n) = w2 := ⟨_, rfl⟩
  rw [hw2] at H1
  obtain ⟨-, -, -, d5, -, -, -, -, -, -, -, -, -, -, -⟩ := H1.out.cells
  dsimp only at d5
  have HTR := Lib.hid h.tr.ins
  have HX := Lib.hid (show goI wat t.last (t.ins.drop 0) s [] = goI wat t.last t.ins s [] from rfl)
  obtain ⟨res, hres⟩ : ∃ res, goI wat t.last t.ins s [] = res := ⟨_, rfl⟩
  rw [hres] at HX ⊢
  have HMK := hmk
  clear h hz hs hc hT hnn hO hG hb1 q1 q2 q3 q4 hres hg1
  go_enter Tryd.func25, Tryd.ntmps25
  go_wp2
  go_loopg [23] n (fun zz i wr => ∃ (j : Nat) (s' : M) (V' : List Int) (v' : Value), zz = n - j ∧ j ≤ n ∧ i = .int .i64 (j : Int) ∧ Hid (RunAt W wr q t wat s' V' false ⟨vs, vb, vm, v', vw, .slice ai n ci, vo, vc, ex'⟩) ∧ Hid (Sz s' [] wat ∧ CM s' ∧ V'.length = j ∧ ∀ y ∈ V', In y) ∧ Hid (goI wat t.last (t.ins.drop j) s' V' = res))
  case atStart => exact ⟨0, s, [], _, rfl, Nat.zero_le _, rfl, H1, Lib.hid ⟨HZ.out, HS.out, rfl, fun y hy => (by cases hy)⟩, HX⟩
  case round =>
    obtain ⟨j, s', V', v', rfl, hj, rfl, HRR, HQ, HJ⟩ := hrel
    clear H1 HR hmk HMK hw2 c0 c1 c2 c5 c6 c7 c11 c12 c13 c14 c15 c16 c19 c20 c21 f19 d5 HX HZ HS
    by_cases hlt : j < n
    · obtain ⟨x, hx⟩ : ∃ x, t.ins[j]? = some x := ⟨_, List.getElem?_eq_getElem (by rw [HN.out]; exact hlt)⟩
      have HCX := Lib.hid (HC.out x (List.mem_of_getElem? hx))
      obtain ⟨ad, rfl, i0', i1, i2, i3, i4⟩ := Ir.ReadsI.at (HTR.out.below HRR.out.hb) hx
      have HG1 := Lib.hid (goI_at (wat := wat) (last := t.last) (s := s') (V := V') hx)
      have HSV := Lib.hid (show Sz s' V' wat from ⟨HQ.out.1.st, HQ.out.1.bk, HQ.out.1.me, HQ.out.1.ou, HQ.out.1.inp, by rw [HQ.out.2.2.1]; omega, HQ.out.1.wa, HQ.out.2.2.2⟩)
      have HIN := Lib.hid (doI_in (wat := wat) HCX.out HQ.out.2.1 HQ.out.2.2.2)
      have HKN := Lib.hid (doI_kin wat s' V' x)
      obtain ⟨op, a, b, c, ex⟩ := x
      obtain ⟨w3, g, hw3, hg, HG3, HB3, HZ3⟩ := Ir.newBox wr zero5 43
      have z0 : (0 : Int) ≤ (j : Int) := by omega
      have z1 : (j : Int) < (n : Int) := by omega
      have HDO := Lib.hid (fun w4 (hr4 : RunAt W w4 q t wat s' V' false { (⟨vs, vb, vm, v', vw, .slice (some ad) n ci, vo, vc, ex'⟩ : Sl) with ex := put1 g (.cells (insA (op, a, b, c, ex)) 43 (0, 0)) ex' }) => do_any hr4 HSV.out HT.out (op, a, b, c, ex))
      have HEX := Lib.hid (fun k o (e : ex' k = some o) => show put1 g (.cells (insA (op, a, b, c, ex)) 43 (0, 0)) ex' k = some o by
        unfold put1
        rw [if_neg (by have := whole_lt (HRR.out.fr k o e).1; have := HZ3.out; omega)]
        exact e)
      obtain ⟨d, hd⟩ : ∃ d, doI wat s' V' (op, a, b, c, ex) = d := ⟨_, rfl⟩
      rw [hd] at HG1 HIN HKN HDO
      rw [HG1.out] at HJ
      obtain ⟨ds, dv, don, dh⟩ := d
      dsimp only at i0' i1 i2 i3 i4 HIN HKN HJ
      clear hd hx HG1 HCX
      cases dh with
      | true =>
        go_wp2_with (first
          | (refine st_ins (by rfl) _ _ rfl g (insA (op, a, b, c, ex)) rfl rfl rfl _ rfl HG3.out (by simp [Value.oneCell']) ?_; intro w4 h4 t4; have HR4 := Lib.hid (HRR.out.fresh (w' := w4) (bs := [g]) ((Stirred.of_below HB3.out [g]).trans t4 (fun k hk => .inl hk)) (fun k hk => List.mem_singleton.1 hk) (Nat.le_of_eq HZ3.out) h4); have C := Lib.hid (HDO.out _ HR4.out); have m0 : w4.cell? ⟨g, 0, none⟩ = some (.int .i64 op) := whole_cell h4 rfl; have m1 : w4.cell? ⟨g, 1, none⟩ = some (.int .i64 a) := whole_cell h4 rfl; have m2 : w4.cell? ⟨g, 2, none⟩ = some (.int .i64 b) := whole_cell h4 rfl; have m3 : w4.cell? ⟨g, 3, none⟩ = some (.int .i64 c) := whole_cell h4 rfl; have m4 : w4.cell? ⟨g, 4, none⟩ = some (.int .i64 ex) := whole_cell h4 rfl; clear h4 t4)
          | fail)
        refine C.out.mono ?_
        rintro e w5 ⟨rfl, hr5⟩
        have HR5 := Lib.hid hr5
        clear hr5 C HR4 m0 m1 m2 m3 m4 HDO
        obtain ⟨-, -, -, -, -, -, -, -, -, -, -, -, -, -, d21⟩ := HR5.out.cells
        have hb5 := (HR5.out.fr g _ (put1_at g _ ex')).1
        have k1 : w5.cell? ⟨g, 1, none⟩ = some (.int .i64 a) := whole_cell hb5 rfl
        clear hb5
        go_wp2
        go_ret
        have HJ2 := Lib.hid (show (⟨ds, V', a, true⟩ : X) = res from HJ.out)
        refine ⟨by rw [← HJ2.out]; rfl, v', ?_⟩
        rw [← HJ2.out]
        exact HR5.out.less (e' := ex') HEX.out
      | false =>
      cases don with
      | false =>
        go_wp2_with (first
          | (refine st_ins (by rfl) _ _ rfl g (insA (op, a, b, c, ex)) rfl rfl rfl _ rfl HG3.out (by simp [Value.oneCell']) ?_; intro w4 h4 t4; have HR4 := Lib.hid (HRR.out.fresh (w' := w4) (bs := [g]) ((Stirred.of_below HB3.out [g]).trans t4 (fun k hk => .inl hk)) (fun k hk => List.mem_singleton.1 hk) (Nat.le_of_eq HZ3.out) h4); have C := Lib.hid (HDO.out _ HR4.out); have m0 : w4.cell? ⟨g, 0, none⟩ = some (.int .i64 op) := whole_cell h4 rfl; have m1 : w4.cell? ⟨g, 1, none⟩ = some (.int .i64 a) := whole_cell h4 rfl; have m2 : w4.cell? ⟨g, 2, none⟩ = some (.int .i64 b) := whole_cell h4 rfl; have m3 : w4.cell? ⟨g, 3, none⟩ = some (.int .i64 c) := whole_cell h4 rfl; have m4 : w4.cell? ⟨g, 4, none⟩ = some (.int .i64 ex) := whole_cell h4 rfl; clear h4 t4)
          | fail)
        refine C.out.mono ?_
        rintro e w5 ⟨rfl, hr5⟩
        have HR5 := Lib.hid hr5
        clear hr5 C HR4 m0 m1 m2 m3 m4 HDO
        obtain ⟨-, -, -, -, -, -, -, -, -, -, -, -, -, -, d21⟩ := HR5.out.cells
        have hb5 := (HR5.out.fr g _ (put1_at g _ ex')).1
        have k4 : w5.cell? ⟨g, 4, none⟩ = some (.int .i64 ex) := whole_cell hb5 rfl
        clear hb5
        go_wp2
        go_ret
        have HJ2 := Lib.hid (show (⟨ds, V', ex, false⟩ : X) = res from HJ.out)
        refine ⟨by rw [← HJ2.out]; rfl, v', ?_⟩
        rw [← HJ2.out]
        exact HR5.out.less (e' := ex') HEX.out
      | true =>
        go_wp2_with (first
          | (refine st_ins (by rfl) _ _ rfl g (insA (op, a, b, c, ex)) rfl rfl rfl _ rfl HG3.out (by simp [Value.oneCell']) ?_; intro w4 h4 t4; have HR4 := Lib.hid (HRR.out.fresh (w' := w4) (bs := [g]) ((Stirred.of_below HB3.out [g]).trans t4 (fun k hk => .inl hk)) (fun k hk => List.mem_singleton.1 hk) (Nat.le_of_eq HZ3.out) h4); have C := Lib.hid (HDO.out _ HR4.out); have m0 : w4.cell? ⟨g, 0, none⟩ = some (.int .i64 op) := whole_cell h4 rfl; have m1 : w4.cell? ⟨g, 1, none⟩ = some (.int .i64 a) := whole_cell h4 rfl; have m2 : w4.cell? ⟨g, 2, none⟩ = some (.int .i64 b) := whole_cell h4 rfl; have m3 : w4.cell? ⟨g, 3, none⟩ = some (.int .i64 c) := whole_cell h4 rfl; have m4 : w4.cell? ⟨g, 4, none⟩ = some (.int .i64 ex) := whole_cell h4 rfl; clear h4 t4)
          | fail)
        refine C.out.mono ?_
        rintro e w5 ⟨rfl, hr5⟩
        have HR5 := Lib.hid hr5
        clear hr5 C HR4 m0 m1 m2 m3 m4 HDO
        obtain ⟨-, -, -, -, -, -, -, -, -, -, -, -, d19, -, d21⟩ := HR5.out.cells
        have HR5 := Lib.hid (HR5.out.less (e' := ex') HEX.out)
        obtain ⟨w6, g6, hw6, hg6, HROW, HB6⟩ := row_one w5 dv
        have HR6 := Lib.hid (HR5.out.below HB6.out)
        have HV6 := Lib.hid (show Owns w6 W.heap.size 3 v' (vals V') from HR6.out.vl)
        obtain ⟨ao6, cap6, e6⟩ := HV6.out.slice
        rw [vals_length, HQ.out.2.2.1] at e6
        subst e6
        have HBS := Lib.hid HR6.out.hb.size
        have HVL := Lib.hid HQ.out.2.2.1
        go_wp2_with (refine wpList_append_reads _ rfl _ _ 24 rfl W.heap.size 3 i0 (.int .i64 0) 8 Tryd.underlying24 HI.out.1 HI.out.2.1 HI.out.2.2.1 HI.out.2.2.2 rfl (.slice ao6 j cap6) (vals V') rfl HV6.out (.slice (some ⟨g6, 0, none⟩) 1 1) [dv] rfl HROW.out (by rw [vals_length, HVL.out]; unfold maxLen; simp; omega) (by rw [vals_length, HVL.out]; simp; omega) HBS.out ?_; intro v2 w7 ho _ ht hk; have hq7 := ht.whole HR6.out.box (fun hm => HR6.out.nv _ (Option.mem_toList.1 hm) rfl); have p19 := whole_cell hq7 (show _[19]? = some (Value.slice ao6 j cap6) from rfl); have f19 := whole_frozen hq7 19; have HR7 := Lib.hid (HR6.out.push (x := dv) (by rw [vals, List.map_append]; exact ho) ht hk); obtain ⟨ao7, cap7, e7⟩ := ho.slice; rw [show (vals V' ++ vals [dv]).length = V'.length + 1 by simp] at e7; subst e7; clear ho ht hk hq7)
        have HJ3 := Lib.hid (show goI wat t.last (t.ins.drop (j + 1)) ds (V' ++ [dv]) = res from HJ.out)
        clear HJ
        go_roundg (n - (j + 1))
        case measure => omega
        case rel => exact ⟨j + 1, ds, V' ++ [dv], _, rfl, by omega, by go_num, HR7, Lib.hid ⟨HQ.out.1.kin HKN.out, HIN.out.2, by rw [List.length_append, HQ.out.2.2.1]; rfl, fun y hy => by
          rcases List.mem_append.1 hy with h | h
          · exact HQ.out.2.2.2 y h
          · rw [List.mem_singleton.1 h]; exact HIN.out.1⟩, HJ3⟩
    · obtain rfl : j = n := by omega
      have HJ2 := Lib.hid (show (⟨s', V', t.last, false⟩ : X) = res by rw [← HJ.out, List.drop_of_length_le (Nat.le_of_eq HN.out)]; rfl)
      obtain ⟨-, -, -, -, -, e7, -⟩ := HRR.out.cells
      go_wp2
      go_ret
      refine ⟨by rw [← HJ2.out]; rfl, v', ?_⟩
      rw [← HJ2.out]
      exact HRR.out
end
end Go.Proofs.YtbiinnfkokaadaaDoor.Ev
