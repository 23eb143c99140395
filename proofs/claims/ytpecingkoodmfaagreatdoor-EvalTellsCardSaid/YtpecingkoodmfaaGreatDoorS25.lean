/- Package eval: the instructions are done, one after the other. -/
import Derived.Test.YtpecingkoodmfaaGreatDoorS24
import Derived.Test.YtpecingkoodmfaaGreatDoorS11
import Derived.Test.YtpecingkoodmfaaGreatDoorS16
import Derived.Test.YtpecingkoodmfaaGreatDoorS8
import Derived.Laws.MakeOwn
import Derived.Deep.LoopGhost
import Derived.Deep.RegionWith
import Derived.Test.YtpecingkoodmfaaGreatDoorS23
namespace Go.Proofs.YtpecingkoodmfaaGreatDoor.Ev
open Go.RowKit Book Mem
open Ir (T I O trA ReadsL insA insV CI CT)
open Mach (M)
open Go.Proofs.YtpecingkoodmfaaGreatDoor.Cell (In)
set_option linter.unusedSimpArgs false
set_option linter.unusedVariables false
abbrev zero5 : Array Value := #[.int .i64 0, .int .i64 0, .int .i64 0, .int .i64 0, .int .i64 0]
section
variable {ops : Array Oper} {rest : List Oper} {o : Oper} {a : Act} {w : World} {Q : Exit → Act → World → Prop}
theorem st_ins (hw : Region.wanted o (yielded ops a.tmps) = true) (x y : Operand) (ho : o.op = .store 42 x y) (g : Nat) (cs : Array Value) (hx : a.eval x = .pointer (some ⟨g, 0, none⟩)) (hy : a.eval y = .agg cs) (hcs : cs.size = 5) (old : Array Value) (hold : old.size = 5) (hg : w.heap[g]? = some (.cells old 42 (0, 0))) (h1 : cs.all (·.oneCell') = true)
    (h : ∀ w', w'.heap[g]? = some (.cells cs 42 (0, 0)) → Stirred w w' [g] → wpList Tryz.prog ops Q rest (a.put o.dst undef) w') : wpList Tryz.prog ops Q (o :: rest) a w :=
  wpList_setbox hw _ x y ho g cs hx hy old _ hg (by rw [Ir.ins_size, hcs]) (by rw [hold, hcs]) h1 h
end
theorem put1_at (g : Nat) (o : Obj) (e : Nat → Option Obj) : put1 g o e g = some o := by unfold put1; rw [if_pos rfl]
/-- a row of one number -/
theorem row_one (w : World) (x : Int) : ∃ w1 g, w.alloc (.cells #[.int .i64 x] 3) = w1 ∧ w.heap.size = g ∧ Hid (Reads w1 (.slice (some ⟨g, 0, none⟩) 1 1) [x]) ∧ Hid (Below w.heap.size w w1) :=
  ⟨_, _, rfl, rfl, Reads.of_owns (Owns.built w (.int .i64 x) 3), (Below.refl w.heap.size w).alloc (Nat.le_refl _) _⟩
/-- what the instructions leave -/
def DidX (W : World) (q : Nat) (t : T) (wat : List Int) (z : Sl) (x : X) (e : Ending) (w' : World) : Prop := e = .returned (.int .i64 x.exit) ∧ ∃ v, RunAt W w' q t wat x.s x.V x.hit { z with vv := v }
section
variable {W w : World} {q : Nat} {t : T} {wat : List Int} {s : M} {V : List Int} {hit : Bool} {z : Sl}
set_option maxHeartbeats 8000000 in
set_option maxRecDepth 100000 in
theorem exit_any (h : RunAt W w q t wat s [] false z) (hz : Sz s [] wat) (hs : CM s) (hc : ∀ x ∈ t.ins, CI x) (hT : Tabs W) (hn : t.ins.length ≤ 10000) : Calls Tryz.prog 90 #[.pointer (some ⟨q, 0, none⟩)] w (DidX W q t wat z (goI wat t.last t.ins s [])) := by
  obtain ⟨i0, q1, q2, q3, q4⟩ := info_parts Tryz.bkIntInfo
  have HI := Lib.hid (And.intro q1 (And.intro q2 (And.intro q3 q4)))
  have HR := Lib.hid h
  have HZ := Lib.hid hz
  have HS := Lib.hid hs
  have HC := Lib.hid hc
  have HT := Lib.hid hT
  obtain ⟨n, hnn⟩ : ∃ n, t.ins.length = n := ⟨_, rfl⟩
  have HN := Lib.hid hnn
  rw [hnn] at hn
  obtain ⟨ai, ci, -, -, -, -, e1, -, -⟩ := h.tr.known
  rw [hnn] at e1
  obtain ⟨c0, c1, c2, c5, c6, c7, c11, c12, c13, c14, c15, c16, c19, c20, c21⟩ := h.cells
  have f19 := h.free 19
  obtain ⟨w1, hmk, hO, hG⟩ := run_makeSlice_owned (P := Tryz.prog) w w.heap.size 24 3 i0 (.int .i64 0) 1 Tryz.underlying24 HI.out.1 HI.out.2.1 HI.out.2.2.1 .i64 .i64 n (by omega) (by rw [HI.out.2.2.2]; omega) (by unfold maxLen; omega) (Nat.le_refl _)
  obtain ⟨vs, vb, vm, vv, vw, vi, vo, vc, ex'⟩ := z
  dsimp only at e1 c5 c6 c11 c12 c13 c19 c20
  subst e1
  have hb1 := (Stirred.of_grown hG)
  have H1 := Lib.hid ((HR.out.newVals (w' := w1) (v := .slice (some ⟨w.heap.size, 0, none⟩) 0 n) (V' := []) ((Owns.of_row hO).from HR.out.hb.size) (hb1.more (fun k hk => by cases hk)) (fun k e => .inr ((Owns.of_row hO).block k e).1)))
  have f19 := whole_frozen (hb1.whole h.box (by simp)) 19
  have c19 := whole_cell (hb1.whole h.box (by simp)) (show _[19]? = some vv from rfl)
  obtain ⟨g1, hg1⟩ : ∃ g1, w.heap.size = g1 := ⟨_, rfl⟩
  rw [hg1] at hmk H1
  obtain ⟨w2, hw2⟩ : ∃ w2, w1.setCell ⟨q, 19, none⟩ (.slice (some ⟨g1, 0, none⟩) 0 n) = w2 := ⟨_, rfl⟩
  rw [hw2] at H1
  obtain ⟨-, -, -, d5, -, -, -, -, -, -, -, -, -, -, -⟩ := H1.out.cells
  dsimp only at d5
  have HTR := Lib.hid h.tr.ins
  have HX := Lib.hid (show goI wat t.last (t.ins.drop 0) s [] = goI wat t.last t.ins s [] from rfl)
  obtain ⟨res, hres⟩ : ∃ res, goI wat t.last t.ins s [] = res := ⟨_, rfl⟩
  rw [hres] at HX ⊢
  have HMK := hmk
  clear h hz hs hc hT hnn hO hG hb1 q1 q2 q3 q4 hres hg1
  go_enter Tryz.func90, Tryz.ntmps90
  go_wp2
  go_loopg [23] n (fun zz i wr => ∃ (j : Nat) (s' : M) (V' : List Int) (v' : Value), zz = n - j ∧ j ≤ n ∧ i = .int .i64 (j : Int) ∧ Hid (RunAt W wr q t wat s' V' false ⟨vs, vb, vm, v', vw, .slice ai n ci, vo, vc, ex'⟩) ∧ Hid (Sz s' [] wat ∧ CM s' ∧ V'.length = j ∧ ∀ y ∈ V', In y) ∧ Hid (goI wat t.last (t.ins.drop j) s' V' = res))
  case atStart => exact ⟨0, s, [], _, rfl, Nat.zero_le _, rfl, H1, Lib.hid ⟨HZ.out, HS.out, rfl, fun y hy => (by cases hy)⟩, HX⟩
  case round =>
    obtain ⟨j, s', V', v', rfl, hj, rfl, HRR, HQ, HJ⟩ := hrel
    clear H1 HR hmk HMK hw2 c0 c1 c2 c5 c6 c7 c11 c12 c13 c14 c15 c16 c19 c20 c21 f19 d5 HX HZ HS
    by_cases hlt : j < n
    · obtain ⟨x, hx⟩ : ∃ x, t.ins[j]? = some x := ⟨_, List.getElem?_eq_getElem (by rw [HN.out]; exact hlt)⟩
      have HCX := Lib.hid (HC.out x (List.mem_of_getElem? hx))
      obtain ⟨ad, rfl, i0', i1, i2, i3, i4⟩ := Ir.ReadsI.at (HTR.out.below HRR.out.hb) hx
      have HG1 := Lib.hid (goI_at (wat := wat) (last := t.last) (s := s') (V := V') hx)
      have HSV := Lib.hid (show Sz s' V' wat from ⟨HQ.out.1.st, HQ.out.1.bk, HQ.out.1.me, HQ.out.1.ou, HQ.out.1.inp, by rw [HQ.out.2.2.1]; omega, HQ.out.1.wa, HQ.out.2.2.2⟩)
      have HIN := Lib.hid (doI_in (wat := wat) HCX.out HQ.out.2.1 HQ.out.2.2.2)
      have HKN := Lib.hid (doI_kin wat s' V' x)
      obtain ⟨op, a, b, c, ex⟩ := x
      obtain ⟨w3, g, hw3, hg, HG3, HB3, HZ3⟩ := Ir.newBox wr zero5 42
      have z0 : (0 : Int) ≤ (j : Int) := by omega
      have z1 : (j : Int) < (n : Int) := by omega
      have HDO := Lib.hid (fun w4 (hr4 : RunAt W w4 q t wat s' V' false { (⟨vs, vb, vm, v', vw, .slice (some ad) n ci, vo, vc, ex'⟩ : Sl) with ex := put1 g (.cells (insA (op, a, b, c, ex)) 42 (0, 0)) ex' }) => do_any hr4 HSV.out HT.out (op, a, b, c, ex))
      have HEX := Lib.hid (fun k o (e : ex' k = some o) => show put1 g (.cells (insA (op, a, b, c, ex)) 42 (0, 0)) ex' k = some o by
        unfold put1
        rw [if_neg (by have := whole_lt (HRR.out.fr k o e).1; have := HZ3.out; omega)]
        exact e)
      obtain ⟨d, hd⟩ : ∃ d, doI wat s' V' (op, a, b, c, ex) = d := ⟨_, rfl⟩
      rw [hd] at HG1 HIN HKN HDO
      rw [HG1.out] at HJ
      obtain ⟨ds, dv, don, dh⟩ := d
      dsimp only at i0' i1 i2 i3 i4 HIN HKN HJ
      clear hd hx HG1 HCX
      cases dh with
      | true =>
        go_wp2_with (first
          | (refine st_ins (by rfl) _ _ rfl g (insA (op, a, b, c, ex)) rfl rfl rfl _ rfl HG3.out (by simp [Value.oneCell']) ?_; intro w4 h4 t4; have HR4 := Lib.hid (HRR.out.fresh (w' := w4) (bs := [g]) ((Stirred.of_below HB3.out [g]).trans t4 (fun k hk => .inl hk)) (fun k hk => List.mem_singleton.1 hk) (Nat.le_of_eq HZ3.out) h4); have C := Lib.hid (HDO.out _ HR4.out); have m0 : w4.cell? ⟨g, 0, none⟩ = some (.int .i64 op) := whole_cell h4 rfl; have m1 : w4.cell? ⟨g, 1, none⟩ = some (.int .i64 a) := whole_cell h4 rfl; have m2 : w4.cell? ⟨g, 2, none⟩ = some (.int .i64 b) := whole_cell h4 rfl; have m3 : w4.cell? ⟨g, 3, none⟩ = some (.int .i64 c) := whole_cell h4 rfl; have m4 : w4.cell? ⟨g, 4, none⟩ = some (.int .i64 ex) := whole_cell h4 rfl; clear h4 t4)
          | fail)
        refine C.out.mono ?_
        rintro e w5 ⟨rfl, hr5⟩
        have HR5 := Lib.hid hr5
        clear hr5 C HR4 m0 m1 m2 m3 m4 HDO
        obtain ⟨-, -, -, -, -, -, -, -, -, -, -, -, -, -, d21⟩ := HR5.out.cells
        have hb5 := (HR5.out.fr g _ (put1_at g _ ex')).1
        have k1 : w5.cell? ⟨g, 1, none⟩ = some (.int .i64 a) := whole_cell hb5 rfl
        clear hb5
        go_wp2
        go_ret
        have HJ2 := Lib.hid (show (⟨ds, V', a, true⟩ : X) = res from HJ.out)
        refine ⟨by rw [← HJ2.out]; rfl, v', ?_⟩
        rw [← HJ2.out]
        exact HR5.out.less (e' := ex') HEX.out
      | false =>
      cases don with
      | false =>
        go_wp2_with (first
          | (refine st_ins (by rfl) _ _ rfl g (insA (op, a, b, c, ex)) rfl rfl rfl _ rfl HG3.out (by simp [Value.oneCell']) ?_; intro w4 h4 t4; have HR4 := Lib.hid (HRR.out.fresh (w' := w4) (bs := [g]) ((Stirred.of_below HB3.out [g]).trans t4 (fun k hk => .inl hk)) (fun k hk => List.mem_singleton.1 hk) (Nat.le_of_eq HZ3.out) h4); have C := Lib.hid (HDO.out _ HR4.out); have m0 : w4.cell? ⟨g, 0, none⟩ = some (.int .i64 op) := whole_cell h4 rfl; have m1 : w4.cell? ⟨g, 1, none⟩ = some (.int .i64 a) := whole_cell h4 rfl; have m2 : w4.cell? ⟨g, 2, none⟩ = some (.int .i64 b) := whole_cell h4 rfl; have m3 : w4.cell? ⟨g, 3, none⟩ = some (.int .i64 c) := whole_cell h4 rfl; have m4 : w4.cell? ⟨g, 4, none⟩ = some (.int .i64 ex) := whole_cell h4 rfl; clear h4 t4)
          | fail)
        refine C.out.mono ?_
        rintro e w5 ⟨rfl, hr5⟩
        have HR5 := Lib.hid hr5
        clear hr5 C HR4 m0 m1 m2 m3 m4 HDO
        obtain ⟨-, -, -, -, -, -, -, -, -, -, -, -, -, -, d21⟩ := HR5.out.cells
        have hb5 := (HR5.out.fr g _ (put1_at g _ ex')).1
        have k4 : w5.cell? ⟨g, 4, none⟩ = some (.int .i64 ex) := whole_cell hb5 rfl
        clear hb5
        go_wp2
        go_ret
        have HJ2 := Lib.hid (show (⟨ds, V', ex, false⟩ : X) = res from HJ.out)
        refine ⟨by rw [← HJ2.out]; rfl, v', ?_⟩
        rw [← HJ2.out]
        exact HR5.out.less (e' := ex') HEX.out
      | true =>
        go_wp2_with (first
          | (refine st_ins (by rfl) _ _ rfl g (insA (op, a, b, c, ex)) rfl rfl rfl _ rfl HG3.out (by simp [Value.oneCell']) ?_; intro w4 h4 t4; have HR4 := Lib.hid (HRR.out.fresh (w' := w4) (bs := [g]) ((Stirred.of_below HB3.out [g]).trans t4 (fun k hk => .inl hk)) (fun k hk => List.mem_singleton.1 hk) (Nat.le_of_eq HZ3.out) h4); have C := Lib.hid (HDO.out _ HR4.out); have m0 : w4.cell? ⟨g, 0, none⟩ = some (.int .i64 op) := whole_cell h4 rfl; have m1 : w4.cell? ⟨g, 1, none⟩ = some (.int .i64 a) := whole_cell h4 rfl; have m2 : w4.cell? ⟨g, 2, none⟩ = some (.int .i64 b) := whole_cell h4 rfl; have m3 : w4.cell? ⟨g, 3, none⟩ = some (.int .i64 c) := whole_cell h4 rfl; have m4 : w4.cell? ⟨g, 4, none⟩ = some (.int .i64 ex) := whole_cell h4 rfl; clear h4 t4)
          | fail)
        refine C.out.mono ?_
        rintro e w5 ⟨rfl, hr5⟩
        have HR5 := Lib.hid hr5
        clear hr5 C HR4 m0 m1 m2 m3 m4 HDO
        obtain ⟨-, -, -, -, -, -, -, -, -, -, -, -, d19, -, d21⟩ := HR5.out.cells
        have HR5 := Lib.hid (HR5.out.less (e' := ex') HEX.out)
        obtain ⟨w6, g6, hw6, hg6, HROW, HB6⟩ := row_one w5 dv
        have HR6 := Lib.hid (HR5.out.below HB6.out)
        have HV6 := Lib.hid (show Owns w6 W.heap.size 3 v' (vals V') from HR6.out.vl)
        obtain ⟨ao6, cap6, e6⟩ := HV6.out.slice
        rw [vals_length, HQ.out.2.2.1] at e6
        subst e6
        have HBS := Lib.hid HR6.out.hb.size
        have HVL := Lib.hid HQ.out.2.2.1
        go_wp2_with (refine wpList_append_reads _ rfl _ _ 24 rfl W.heap.size 3 i0 (.int .i64 0) 8 Tryz.underlying24 HI.out.1 HI.out.2.1 HI.out.2.2.1 HI.out.2.2.2 rfl (.slice ao6 j cap6) (vals V') rfl HV6.out (.slice (some ⟨g6, 0, none⟩) 1 1) [dv] rfl HROW.out (by rw [vals_length, HVL.out]; unfold maxLen; simp; omega) (by rw [vals_length, HVL.out]; simp; omega) HBS.out ?_; intro v2 w7 ho _ ht hk; have hq7 := ht.whole HR6.out.box (fun hm => HR6.out.nv _ (Option.mem_toList.1 hm) rfl); have p19 := whole_cell hq7 (show _[19]? = some (Value.slice ao6 j cap6) from rfl); have f19 := whole_frozen hq7 19; have HR7 := Lib.hid (HR6.out.push (x := dv) (by rw [vals, List.map_append]; exact ho) ht hk); obtain ⟨ao7, cap7, e7⟩ := ho.slice; rw [show (vals V' ++ vals [dv]).length = V'.length + 1 by simp] at e7; subst e7; clear ho ht hk hq7)
        have HJ3 := Lib.hid (show goI wat t.last (t.ins.drop (j + 1)) ds (V' ++ [dv]) = res from HJ.out)
        clear HJ
        go_roundg (n - (j + 1))
        case measure => omega
        case rel => exact ⟨j + 1, ds, V' ++ [dv], _, rfl, by omega, by go_num, HR7, Lib.hid ⟨HQ.out.1.kin HKN.out, HIN.out.2, by rw [List.length_append, HQ.out.2.2.1]; rfl, fun y hy => by
          rcases List.mem_append.1 hy with h | h
          · exact HQ.out.2.2.2 y h
          · rw [List.mem_singleton.1 h]; exact HIN.out.1⟩, HJ3⟩
    · obtain rfl : j = n := by omega
      have HJ2 := Lib.hid (show (⟨s', V', t.last, false⟩ : X) = res by rw [← HJ.out, List.drop_of_length_le (Nat.le_of_eq HN.out)]; rfl)
      obtain ⟨-, -, -, -, -, e7, -⟩ := HRR.out.cells
      go_wp2
      go_ret
      refine ⟨by rw [← HJ2.out]; rfl, v', ?_⟩
      rw [← HJ2.out]
      exact HRR.out
end
end Go.Proofs.YtpecingkoodmfaaGreatDoor.Ev
/- Package eval: a stack as it is at an exit. -/
namespace Go.Proofs.YtpecingkoodmfaaGreatDoor.Ev
open Go.RowKit Book Mem
open Ir (T I O trA ReadsL insA insV CI CT)
open Mach (M less)
open Go.Proofs.YtpecingkoodmfaaGreatDoor.Cell (In)
set_option linter.unusedSimpArgs false
set_option linter.unusedVariables false
theorem wrap_nat {m : Nat} (h : m ≤ 10000) : wrap64 (m : Int) = (m : Int) := by unfold wrap64; omega
theorem sub_cast {nx k m : Nat} (h : nx - k = m) (hk : k ≤ nx) : (nx : Int) - (k : Int) = (m : Int) := by omega
theorem len_ok {m n j : Nat} (h : m ≤ 10000) (g : n ≤ 10000) (hj : j ≤ n) : m + j + 1 ≤ maxLen := by unfold maxLen; omega
theorem len_ok8 {m n j : Nat} (h : m ≤ 10000) (g : n ≤ 10000) (hj : j ≤ n) : (m + j + 1) * 8 ≤ 140737488355328 := by omega
/-- a value of a run, known by the box's one cell and the list alone -/
theorem value_at {w : World} {q : Nat} {vv : Value} {V : List Int} (c19 : w.cell? ⟨q, 19, none⟩ = some vv) (hv : Reads w vv V) (hl : V.length ≤ 100000) (p : Int) : Calls Tryz.prog 125 #[.pointer (some ⟨q, 0, none⟩), .int .i64 p] w fun e w' => e = .returned (.int .i64 (val V p)) ∧ w' = w := by
  have C := Lib.hid (get_any hv hl p)
  obtain ⟨g, hg⟩ : ∃ g, getL V p = g := ⟨_, rfl⟩
  have HV := Lib.hid (show val V p = g.1 by unfold val; rw [hg])
  rw [hg] at C
  clear hv hl hg
  go_enter Tryz.func125, Tryz.ntmps125
  go_wp2_with (go_at_call 123; refine C.out.mono ?_; rintro e w' ⟨rfl, rfl⟩)
  go_ret
  exact ⟨Cell.ret1 HV.out.symm, rfl⟩
/-- a list less its topmost cells, and values behind -/
def Laid (w : World) (B : Nat) (l : Value) (ys : List Int) (e : Ending) (w' : World) : Prop :=
  ∃ v, e = .returned v ∧ Owns w' B 3 v (vals ys) ∧ Stirred w w' (blk l).toList ∧ ∀ b, blk v = some b → blk l = some b ∨ w.heap.size ≤ b
set_option maxHeartbeats 8000000 in
set_option maxRecDepth 100000 in
theorem lay_any {W w : World} {q : Nat} {o : Obj} {vv l vp : Value} {V xs ps : List Int} {k : Nat} (hb : Below W.heap.size W w) (hq : w.heap[q]? = some o) (hc : ∀ w' : World, w'.heap[q]? = some o → w'.cell? ⟨q, 19, none⟩ = some vv) (hv : Owns w W.heap.size 3 vv (vals V)) (hV : V.length ≤ 100000)
    (hl : Owns w W.heap.size 3 l (vals xs)) (nq : blk l ≠ some q) (nv : ∀ b, blk l = some b → blk vv ≠ some b) (hp : Reads W vp ps) (hk : k ≤ xs.length) (hx : xs.length ≤ 10000) (hps : ps.length ≤ 10000) :
    Calls Tryz.prog 113 #[.pointer (some ⟨q, 0, none⟩), l, .int .i64 (k : Int), vp] w (Laid w W.heap.size l (xs.take (xs.length - k) ++ ps.map (val V))) := by
  obtain ⟨i0, q1, q2, q3, q4⟩ := info_parts Tryz.bkIntInfo
  have HI := Lib.hid (And.intro q1 (And.intro q2 (And.intro q3 q4)))
  obtain ⟨ao, cap, el⟩ := hl.slice
  rw [vals_length] at el
  obtain ⟨m, hm⟩ : ∃ m, xs.length - k = m := ⟨_, rfl⟩
  obtain ⟨nx, hnx⟩ : ∃ n, xs.length = n := ⟨_, rfl⟩
  obtain ⟨n, hn⟩ : ∃ n, ps.length = n := ⟨_, rfl⟩
  have HL := Lib.hid hl
  have HRC := Lib.hid (ReadsC.of_owns hl)
  rw [el] at HRC
  rw [hnx] at el HRC
  obtain ⟨vo, vc, rfl, -⟩ := hp.below hb
  have HP := Lib.hid hp
  rw [hn] at HP
  rw [hn]
  have HN := Lib.hid hn
  have HB := Lib.hid hb
  have HQ := Lib.hid hq
  have HC := Lib.hid hc
  have HV := Lib.hid hv
  have HVL := Lib.hid hV
  have NQ := Lib.hid nq
  have NV := Lib.hid nv
  have hm0 : m ≤ 10000 := by rw [← hm]; exact Nat.le_trans (Nat.sub_le _ _) hx
  have HM := Lib.hid (show m ≤ 10000 ∧ n ≤ 10000 ∧ m ≤ xs.length from ⟨hm0, by rw [← hn]; exact hps, by rw [← hm]; exact Nat.sub_le _ _⟩)
  have hm1 : wrap64 (m : Int) = (m : Int) := wrap_nat hm0
  have HSH := Lib.hid (show Owns w W.heap.size 3 (.slice ao m cap) (vals (xs.take m)) by rw [el] at hl; exact Mem.owns_shorter hl (by rw [← hm]; exact Nat.sub_le _ _))
  have HBK := Lib.hid (show blk (.slice ao m cap) = blk l by rw [el]; cases ao <;> rfl)
  rw [hm]
  subst el
  have hm2 : (nx : Int) - (k : Int) = (m : Int) := sub_cast (by rw [← hnx]; exact hm) (by rw [← hnx]; exact hk)
  have hcap : m ≤ cap := by
    obtain ⟨-, ao', c', e, hcc⟩ := HRC.out
    simp only [Value.slice.injEq] at e
    obtain ⟨-, -, rfl⟩ := e
    exact Nat.le_trans HM.out.2.2 hcc
  clear hl hp hb hq hc hv hV nq nv hn hnx hm hk hx hps hm0 q1 q2 q3 q4
  go_enter Tryz.func113, Tryz.ntmps113
  go_wp2
  simp only [hm1]
  clear hm1 hm2 hcap
  go_loopg [1, 19] n (fun zz v i wr => ∃ (j : Nat), zz = n - j ∧ j ≤ n ∧ i = .int .i64 (j : Int) ∧ Hid (Owns wr W.heap.size 3 v (vals (xs.take m ++ (ps.take j).map (val V)))) ∧ Hid (Stirred w wr (blk (.slice ao nx cap)).toList) ∧ Hid (∀ b, blk v = some b → blk (.slice ao nx cap) = some b ∨ w.heap.size ≤ b))
  case atStart => exact ⟨0, rfl, Nat.zero_le _, rfl, Lib.hid (by rw [List.take_zero, List.map_nil, List.append_nil]; exact HSH.out), Lib.hid (Stirred.refl _ _), Lib.hid (fun b e => .inl (by rw [← HBK.out]; exact e))⟩
  case round =>
    obtain ⟨j, rfl, hj, rfl, HO, HT, HK⟩ := hrel
    have hin : ∀ b, b ∈ (blk (.slice ao nx cap)).toList → blk (.slice ao nx cap) = some b := fun b hm => Option.mem_toList.1 hm
    have HBW := Lib.hid (HB.out.trans (HT.out.below (B := W.heap.size) (fun b hm => (HL.out.block b (hin b hm)).1) HB.out.size))
    by_cases hlt : j < n
    · obtain ⟨p, hp⟩ : ∃ p, ps[j]? = some p := ⟨_, List.getElem?_eq_getElem (by rw [HN.out]; exact hlt)⟩
      have htk : (ps.take (j + 1)).map (val V) = (ps.take j).map (val V) ++ [val V p] := by rw [List.take_add_one, hp]; simp
      obtain ⟨ad, rfl, p0⟩ := Ir.Reads.at' (HP.out.below HBW.out) hp
      have HQR := Lib.hid (HT.out.whole HQ.out (fun hm => NQ.out (hin q hm)))
      have HVR := Lib.hid (HV.out.touch HT.out (fun b e hm => NV.out b (hin b hm) e))
      have C := Lib.hid (value_at (HC.out _ HQR.out) (Reads.of_owns HVR.out) HVL.out p)
      obtain ⟨y, hy⟩ : ∃ y, val V p = y := ⟨_, rfl⟩
      rw [hy] at C htk
      have HTK := Lib.hid htk
      obtain ⟨ao5, cap5, e5⟩ := HO.out.slice
      subst e5
      obtain ⟨w6, g6, hw6, hg6, HROW, HB6⟩ := row_one wr y
      have HO6 := Lib.hid (HO.out.below HB6.out)
      have hlen : (vals (xs.take m ++ (ps.take j).map (val V))).length = m + j := by
        rw [vals_length, List.length_append, List.length_map, List.length_take, List.length_take, HN.out, Nat.min_eq_left HM.out.2.2, Nat.min_eq_left hj]
      have HLE := Lib.hid hlen
      have z0 : (0 : Int) ≤ (j : Int) := by omega
      have z1 : (j : Int) < (n : Int) := by omega
      have z3 : n ≤ 10000 := HM.out.2.1
      clear hp hy htk
      rw [hlen] at HO HO6 HK
      rw [hlen]
      have HBS := Lib.hid (show W.heap.size ≤ w6.heap.size from Nat.le_trans HBW.out.size HB6.out.size)
      clear hlen
      go_wp2_with (first
        | (go_at_call 125; refine C.out.mono ?_; rintro e w' ⟨rfl, rfl⟩)
        | (refine wpList_append_reads _ rfl _ _ 24 rfl W.heap.size 3 i0 (.int .i64 0) 8 Tryz.underlying24 HI.out.1 HI.out.2.1 HI.out.2.2.1 HI.out.2.2.2 rfl (.slice ao5 (m + j) cap5) (vals (xs.take m ++ (ps.take j).map (val V))) rfl HO6.out (.slice (some ⟨g6, 0, none⟩) 1 1) [y] rfl HROW.out (by rw [HLE.out]; exact len_ok HM.out.1 HM.out.2.1 hj) (by rw [HLE.out]; exact len_ok8 HM.out.1 HM.out.2.1 hj) HBS.out ?_; intro v2 w7 ho _ ht hk; have HO7 := Lib.hid ho; have HT7 := Lib.hid ht; have HK7 := Lib.hid hk; clear ho ht hk))
      go_roundg (n - (j + 1))
      case measure => omega
      case rel => exact ⟨j + 1, rfl, by omega, by go_num, Lib.hid (by rw [HTK.out, ← List.append_assoc, vals, List.map_append]; exact HO7.out), Lib.hid ((HT.out.trans (Stirred.of_below HB6.out []) (fun k hk => (by cases hk))).trans HT7.out (fun b hb => by
        rcases HK.out b (Option.mem_toList.1 hb) with h | h
        · exact .inl (Option.mem_toList.2 h)
        · exact .inr h)), Lib.hid (fun b e => by
        rcases HK7.out with h | ⟨b', h, hh⟩
        · exact HK.out b (h ▸ e)
        · rw [h] at e; cases e; exact .inr (by have h1 := HT.out.size; have h2 := HB6.out.size; omega))⟩
    · obtain rfl : j = n := by omega
      have HO2 := Lib.hid (show Owns wr W.heap.size 3 _ (vals (xs.take m ++ ps.map (val V))) by have h := HO.out; rw [List.take_of_length_le (Nat.le_of_eq HN.out)] at h; exact h)
      go_wp2
      go_ret
      exact ⟨_, rfl, HO2.out, HT.out, HK.out⟩
end Go.Proofs.YtpecingkoodmfaaGreatDoor.Ev
/- Package eval: the machine at an exit. -/
namespace Go.Proofs.YtpecingkoodmfaaGreatDoor.Ev
open Go.RowKit Book Mem
open Ir (T I O trA ReadsL outA outV)
open Mach (M less cells10 zero10 OwnsL OwnsM stV st_state ld_state state_size slice_one all_one)
set_option linter.unusedSimpArgs false
set_option linter.unusedVariables false
/-- a state's box whose lists are told one by one; further blocks stay -/
structure LV (W w : World) (h : Nat) (m : M) (vS vB vm vv : Value) (xS xB V : List Int) (fx : Nat → Option Obj) : Prop where
  hb : Below W.heap.size W w
  hh : W.heap.size ≤ h
  box : w.heap[h]? = some (.cells (cells10 m.ip m.handler vS vB vm m.out m.inp m.read m.status m.code) 50 (0, 0))
  st : Owns w W.heap.size 3 vS (vals xS)
  bk : Owns w W.heap.size 3 vB (vals xB)
  me : Owns w W.heap.size 3 vm (vals m.mem)
  vl : Owns w W.heap.size 3 vv (vals V)
  ns : ∀ k, blk vS = some k → k ≠ h ∧ blk vB ≠ some k ∧ blk vm ≠ some k ∧ blk vv ≠ some k
  nb : ∀ k, blk vB = some k → k ≠ h ∧ blk vm ≠ some k ∧ blk vv ≠ some k
  nm : ∀ k, blk vm = some k → k ≠ h ∧ blk vv ≠ some k
  nv : ∀ k, blk vv = some k → k ≠ h
  fr : ∀ k o, fx k = some o → w.heap[k]? = some o ∧ k ≠ h ∧ blk vS ≠ some k ∧ blk vB ≠ some k ∧ blk vm ≠ some k ∧ blk vv ≠ some k
section
variable {W w wn : World} {h : Nat} {m : M} {vS vB vm vv v : Value} {xS xB V ys : List Int} {fx : Nat → Option Obj}
theorem LV.lt (g : LV W w h m vS vB vm vv xS xB V fx) : h < w.heap.size := whole_lt g.box
/-- the stack is told -/
theorem LV.setS (g : LV W w h m vS vB vm vv xS xB V fx) (ho : Owns wn W.heap.size 3 v (vals ys)) (ht : Stirred w wn (blk vS).toList) (hk : ∀ b, blk v = some b → blk vS = some b ∨ w.heap.size ≤ b) :
    LV W (wn.setCell ⟨h, 2, none⟩ v) h m v vB vm vv ys xB V fx := by
  have hv : ∀ k, k ∈ (blk vS).toList → blk vS = some k := fun k hm => Option.mem_toList.1 hm
  have hq : ∀ k, blk v = some k → k ≠ h := fun k e e' => by
    subst e'
    rcases hk _ e with hk | e2
    · exact (g.ns _ hk).1 rfl
    · have := g.lt; omega
  have far : ∀ {u : Value} {xs : List Int}, Owns w W.heap.size 3 u (vals xs) → (∀ k, blk vS = some k → blk u ≠ some k) → ∀ k, blk v = some k → blk u ≠ some k := fun hu hn k e e' => by
    rcases hk _ e with hk | e2
    · exact hn k hk e'
    · have := (hu.block _ e').2.1; omega
  have ht2 := Stirred.setCell wn ⟨h, 2, none⟩ v
  have hx : ∀ {k : Nat}, k ≠ h → k ∉ [h] := fun h hm => h (List.mem_singleton.1 hm)
  have hB1 : Below W.heap.size W wn := g.hb.trans (ht.below (fun k hm => (g.st.block k (hv k hm)).1) g.hb.size)
  have keep : ∀ {u : Value} {xs : List Int}, Owns w W.heap.size 3 u (vals xs) → (∀ k, blk u = some k → k ≠ h ∧ blk vS ≠ some k) → Owns (wn.setCell ⟨h, 2, none⟩ v) W.heap.size 3 u (vals xs) := fun hu hn =>
    (hu.touch ht (fun k e hm => (hn k e).2 (hv k hm))).touch ht2 (fun k e => hx (hn k e).1)
  refine ⟨hB1.trans (ht2.below (fun k hm => by rw [List.mem_singleton.1 hm]; exact g.hh) hB1.size), g.hh, whole_set (ht.whole g.box (fun hm => (g.ns _ (hv _ hm)).1 rfl)) 2 v, ho.touch ht2 (fun k e => hx (hq k e)),
    keep g.bk (fun k e => ⟨(g.nb k e).1, fun e' => (g.ns k e').2.1 e⟩), keep g.me (fun k e => ⟨(g.nm k e).1, fun e' => (g.ns k e').2.2.1 e⟩), keep g.vl (fun k e => ⟨g.nv k e, fun e' => (g.ns k e').2.2.2 e⟩),
    fun k e => ⟨hq k e, far g.bk (fun k e => (g.ns k e).2.1) k e, far g.me (fun k e => (g.ns k e).2.2.1) k e, far g.vl (fun k e => (g.ns k e).2.2.2) k e⟩, g.nb, g.nm, g.nv, fun k o e => ?_⟩
  obtain ⟨f1, f2, f3, f4, f5, f6⟩ := g.fr k o e
  refine ⟨ht2.whole (ht.whole f1 (fun hm => f3 (hv k hm))) (hx f2), f2, fun e' => ?_, f4, f5, f6⟩
  rcases hk _ e' with hk | e2
  · exact f3 hk
  · have := whole_lt f1; omega
/-- the other stack is told -/
theorem LV.setB (g : LV W w h m vS vB vm vv xS xB V fx) (ho : Owns wn W.heap.size 3 v (vals ys)) (ht : Stirred w wn (blk vB).toList) (hk : ∀ b, blk v = some b → blk vB = some b ∨ w.heap.size ≤ b) :
    LV W (wn.setCell ⟨h, 3, none⟩ v) h m vS v vm vv xS ys V fx := by
  have hv : ∀ k, k ∈ (blk vB).toList → blk vB = some k := fun k hm => Option.mem_toList.1 hm
  have hq : ∀ k, blk v = some k → k ≠ h := fun k e e' => by
    subst e'
    rcases hk _ e with hk | e2
    · exact (g.nb _ hk).1 rfl
    · have := g.lt; omega
  have far : ∀ {u : Value} {xs : List Int}, Owns w W.heap.size 3 u (vals xs) → (∀ k, blk vB = some k → blk u ≠ some k) → ∀ k, blk v = some k → blk u ≠ some k := fun hu hn k e e' => by
    rcases hk _ e with hk | e2
    · exact hn k hk e'
    · have := (hu.block _ e').2.1; omega
  have ht2 := Stirred.setCell wn ⟨h, 3, none⟩ v
  have hx : ∀ {k : Nat}, k ≠ h → k ∉ [h] := fun h hm => h (List.mem_singleton.1 hm)
  have hB1 : Below W.heap.size W wn := g.hb.trans (ht.below (fun k hm => (g.bk.block k (hv k hm)).1) g.hb.size)
  have keep : ∀ {u : Value} {xs : List Int}, Owns w W.heap.size 3 u (vals xs) → (∀ k, blk u = some k → k ≠ h ∧ blk vB ≠ some k) → Owns (wn.setCell ⟨h, 3, none⟩ v) W.heap.size 3 u (vals xs) := fun hu hn =>
    (hu.touch ht (fun k e hm => (hn k e).2 (hv k hm))).touch ht2 (fun k e => hx (hn k e).1)
  refine ⟨hB1.trans (ht2.below (fun k hm => by rw [List.mem_singleton.1 hm]; exact g.hh) hB1.size), g.hh, whole_set (ht.whole g.box (fun hm => (g.nb _ (hv _ hm)).1 rfl)) 3 v,
    keep g.st (fun k e => ⟨(g.ns k e).1, (g.ns k e).2.1⟩), ho.touch ht2 (fun k e => hx (hq k e)), keep g.me (fun k e => ⟨(g.nm k e).1, fun e' => (g.nb k e').2.1 e⟩), keep g.vl (fun k e => ⟨g.nv k e, fun e' => (g.nb k e').2.2 e⟩),
    fun k e => ⟨(g.ns k e).1, fun e' => far g.st (fun k e1 e2 => (g.ns k e2).2.1 e1) k e' e, (g.ns k e).2.2⟩, fun k e => ⟨hq k e, far g.me (fun k e => (g.nb k e).2.1) k e, far g.vl (fun k e => (g.nb k e).2.2) k e⟩, g.nm, g.nv, fun k o e => ?_⟩
  obtain ⟨f1, f2, f3, f4, f5, f6⟩ := g.fr k o e
  refine ⟨ht2.whole (ht.whole f1 (fun hm => f4 (hv k hm))) (hx f2), f2, f3, fun e' => ?_, f5, f6⟩
  rcases hk _ e' with hk | e2
  · exact f4 hk
  · have := whole_lt f1; omega
end
theorem LV.of_run {W w : World} {q h : Nat} {t : T} {wat : List Int} {s : M} {V : List Int} {hit : Bool} {z : Sl} {ip : Int} (g : RunAt W w q t wat s V hit z) (hh : W.heap.size ≤ h)
    (hx : z.ex h = some (.cells (cells10 ip s.handler z.vs z.vb z.vm s.out s.inp s.read s.status s.code) 50 (0, 0))) :
    LV W w h { s with ip := ip } z.vs z.vb z.vm z.vv s.stack s.back V (fun k => if k = h then none else if k = q then some (.cells (cells22 t s hit z) 101 (0, 0)) else z.ex k) := by
  obtain ⟨f1, f2, f3, f4, f5, f6⟩ := g.fr h _ hx
  refine ⟨g.hb, hh, f1, g.st, g.bk, g.me, g.vl, fun k e => ⟨fun e' => by subst e'; exact f3 e, (g.ns k e).2⟩, fun k e => ⟨fun e' => by subst e'; exact f4 e, (g.nb k e).2⟩, fun k e => ⟨fun e' => by subst e'; exact f5 e, (g.nm k e).2⟩, fun k e e' => by subst e'; exact f6 e, fun k o e => ?_⟩
  split at e
  · cases e
  · rename_i n1
    split at e
    · rename_i n2
      subst n2
      cases e
      exact ⟨g.box, n1, fun e => (g.ns _ e).1 rfl, fun e => (g.nb _ e).1 rfl, fun e => (g.nm _ e).1 rfl, fun e => g.nv _ e rfl⟩
    · obtain ⟨e1, e2, e3⟩ := g.fr k o e
      exact ⟨e1, n1, e3⟩
end Go.Proofs.YtpecingkoodmfaaGreatDoor.Ev
/- Package eval: the machine at an exit: the walk. -/
namespace Go.Proofs.YtpecingkoodmfaaGreatDoor.Ev
open Go.RowKit Book Mem
open Ir (T I O trA ReadsL outA outV newBox boxOn)
open Mach (M less cells10 zero10 OwnsL OwnsM stV st_state ld_state state_size slice_one all_one)
set_option linter.unusedSimpArgs false
set_option linter.unusedVariables false
theorem LV.below {W w w' : World} {h : Nat} {m : M} {vS vB vm vv : Value} {xS xB V : List Int} {fx : Nat → Option Obj} (g : LV W w h m vS vB vm vv xS xB V fx) (hb : Below w.heap.size w w') : LV W w' h m vS vB vm vv xS xB V fx :=
  ⟨g.hb.trans (hb.mono g.hb.size), g.hh, (Stirred.of_below hb []).whole g.box List.not_mem_nil, g.st.below hb, g.bk.below hb, g.me.below hb, g.vl.below hb, g.ns, g.nb, g.nm, g.nv, fun k o e => ⟨(Stirred.of_below hb []).whole (g.fr k o e).1 List.not_mem_nil, (g.fr k o e).2⟩⟩
theorem fx_facts {q g r h n m : Nat} {z : Sl} {ob oh or og : Obj} (ho : q < g ∧ g < r ∧ r < h ∧ n = g ∧ m ≤ q) (hx : ∀ k o, z.ex k = some o → k < g ∧ k ≠ q) :
    (fun k => if k = h then none else if k = q then some ob else put1 h oh (put1 r or (put1 g og z.ex)) k) q = some ob ∧ (fun k => if k = h then none else if k = q then some ob else put1 h oh (put1 r or (put1 g og z.ex)) k) r = some or ∧ (fun k => if k = h then none else if k = q then some ob else put1 h oh (put1 r or (put1 g og z.ex)) k) g = some og ∧ ∀ k o, z.ex k = some o → (fun k => if k = h then none else if k = q then some ob else put1 h oh (put1 r or (put1 g og z.ex)) k) k = some o := by
  obtain ⟨h1, h2, h3, -, -⟩ := ho
  unfold put1
  dsimp only
  refine ⟨?_, ?_, ?_, fun k o e => ?_⟩
  · rw [if_neg (by omega), if_pos rfl]
  · rw [if_neg (by omega), if_neg (by omega), if_neg (by omega), if_pos rfl]
  · rw [if_neg (by omega), if_neg (by omega), if_neg (by omega), if_neg (by omega), if_pos rfl]
  · have hk := hx k o e
    rw [if_neg (by omega), if_neg hk.2, if_neg (by omega), if_neg (by omega), if_neg (by omega)]
    exact e
/-- what a call leaves, its answer the machine at an exit -/
def Left (W : World) (q : Nat) (t : T) (s : M) (hit : Bool) (z : Sl) (m : M) (e : Ending) (w' : World) : Prop :=
  ∃ v, e = .returned v ∧ OwnsM w' W.heap.size v m ∧ Below W.heap.size W w' ∧ w'.heap[q]? = some (.cells (cells22 t s hit z) 101 (0, 0)) ∧ ∀ k o, z.ex k = some o → w'.heap[k]? = some o
section
variable {W w : World} {q : Nat} {t : T} {wat : List Int} {s : M} {V : List Int} {hit : Bool} {z : Sl}
set_option maxHeartbeats 8000000 in
set_option maxRecDepth 100000 in
theorem leave_any (hR : RunAt W w q t wat s V hit z) (hz : s.stack.length ≤ 10000) (hz2 : s.back.length ≤ 10000) (hV : V.length ≤ 100000) (x : O) {xs xb : Value} (hxs : Reads W xs x.stack) (hxb : Reads W xb x.back) (l1 : x.stack.length ≤ 10000) (l2 : x.back.length ≤ 10000)
    {ks kb : Nat} (e1 : t.slots = (ks : Int)) (hk1 : ks ≤ s.stack.length) (e2 : t.backs = (kb : Int)) (hk2 : kb ≤ s.back.length) :
    Calls Tryz.prog 92 #[.pointer (some ⟨q, 0, none⟩), outV x xs xb] w (Left W q t s hit z (leaveM t s V x)) := by
  obtain ⟨w1, g, hw1, hg, HG, HB1, HZ1⟩ := newBox w (outA x xs xb) 58
  obtain ⟨w2, r, hw2, hr, HR, HB2, HZ2⟩ := newBox w1 zero10 50
  obtain ⟨w3, h, hw3, hh, HH, HB3, HZ3⟩ := newBox w2 zero10 50
  have R2 := Lib.hid (((hR.fresh (w' := w1) (bs := []) (Stirred.of_below HB1.out []) (fun k hk => by cases hk) (Nat.le_of_eq HZ1.out) HG.out).fresh (w' := w2) (bs := []) (Stirred.of_below HB2.out []) (fun k hk => by cases hk) (Nat.le_of_eq HZ2.out) HR.out))
  have hqg : q < g := by rw [← HZ1.out]; exact hR.lt
  have hgr : g < r := by rw [← HZ2.out]; exact whole_lt HG.out
  have hrh : r < h := by rw [← HZ3.out]; exact whole_lt HR.out
  have HO := Lib.hid (show q < g ∧ g < r ∧ r < h ∧ w.heap.size = g ∧ W.heap.size ≤ q from ⟨hqg, hgr, hrh, HZ1.out, hR.hq⟩)
  have HXL := Lib.hid (fun k o (e : z.ex k = some o) => show k < g ∧ k ≠ q from ⟨by rw [← HZ1.out]; exact whole_lt (hR.fr k o e).1, (hR.fr k o e).2.1⟩)
  have HG3 := Lib.hid (boxOn (boxOn HG.out HB2.out) HB3.out)
  have bx := R2.out.box
  have b9 : w2.cell? ⟨q, 9, none⟩ = some (.int .i64 s.ip) := whole_cell bx rfl
  have b10 : w2.cell? ⟨q, 10, none⟩ = some (.int .i64 s.handler) := whole_cell bx rfl
  have b11 : w2.cell? ⟨q, 11, none⟩ = some z.vs := whole_cell bx rfl
  have b12 : w2.cell? ⟨q, 12, none⟩ = some z.vb := whole_cell bx rfl
  have b13 : w2.cell? ⟨q, 13, none⟩ = some z.vm := whole_cell bx rfl
  have b14 : w2.cell? ⟨q, 14, none⟩ = some (.string s.out) := whole_cell bx rfl
  have b15 : w2.cell? ⟨q, 15, none⟩ = some (.string s.inp) := whole_cell bx rfl
  have b16 : w2.cell? ⟨q, 16, none⟩ = some (.int .i64 s.read) := whole_cell bx rfl
  have b17 : w2.cell? ⟨q, 17, none⟩ = some (.int .i64 s.status) := whole_cell bx rfl
  have b18 : w2.cell? ⟨q, 18, none⟩ = some (.int .i64 s.code) := whole_cell bx rfl
  have HONE := Lib.hid (And.intro (slice_one hR.st.slice) (And.intro (slice_one hR.bk.slice) (slice_one hR.me.slice)))
  have HA := Lib.hid (And.intro hz (And.intro hz2 (And.intro hV (And.intro l1 (And.intro l2 (And.intro hk1 hk2))))))
  have HXS := Lib.hid hxs
  have HXB := Lib.hid hxb
  have HE1 := Lib.hid e1
  have HE2 := Lib.hid e2
  obtain ⟨xip, xst, xk, xbk⟩ := x
  clear bx hR hz hz2 hV hxs hxb l1 l2 e1 e2 hk1 hk2 hqg hgr hrh
  go_enter Tryz.func92, Tryz.ntmps92
  go_upto_region 2 with (refine st_state (by rfl) _ _ rfl h (cells10 s.ip s.handler z.vs z.vb z.vm s.out s.inp s.read s.status s.code) rfl rfl _ _ HH.out rfl rfl (all_one HONE.out.1 HONE.out.2.1 HONE.out.2.2) ?_; intro w4 h4 t4)
  have hGh : g ∉ [h] := fun hm => by have h1 := List.mem_singleton.1 hm; have h2 := HO.out; omega
  have g4 := t4.whole HG3.out hGh
  have g0 : w4.cell? ⟨g, 0, none⟩ = some (.int .i64 xip) := whole_cell g4 rfl
  have h0 : w4.cell? ⟨h, 0, none⟩ = some (.int .i64 s.ip) := whole_cell h4 rfl
  have f0 : w4.frozen? ⟨h, 0, none⟩ = false := whole_frozen h4 0
  have R5 := Lib.hid (R2.out.fresh (w' := w4.setCell ⟨h, 0, none⟩ (.int .i64 xip)) (bs := [h]) (((Stirred.of_below HB3.out [h]).trans t4 (fun k hk => .inl hk)).trans (Stirred.setCell w4 ⟨h, 0, none⟩ (.int .i64 xip)) (fun k hk => .inl hk)) (fun k hk => List.mem_singleton.1 hk) (Nat.le_of_eq HZ3.out) (whole_set h4 0 (.int .i64 xip)))
  have L5 := Lib.hid (LV.of_run (h := h) (ip := xip) R5.out (by have := HO.out; omega) (put1_at h _ _))
  have HFX := Lib.hid (fx_facts (z := z) (ob := .cells (cells22 t s hit z) 101 (0, 0)) HO.out HXL.out (oh := .cells ((cells10 s.ip s.handler z.vs z.vb z.vm s.out s.inp s.read s.status s.code).setIfInBounds 0 (.int .i64 xip)) 50 (0, 0)) (or := .cells zero10 50 (0, 0)) (og := .cells (outA ⟨xip, xst, xk, xbk⟩ xs xb) 58 (0, 0)))
  obtain ⟨w5, hw5⟩ : ∃ w5, w4.setCell ⟨h, 0, none⟩ (.int .i64 xip) = w5 := ⟨_, rfl⟩
  rw [hw5] at L5
  change Hid (LV W w5 h _ _ _ _ _ _ _ _ (fun k => if k = h then none else if k = q then some (.cells (cells22 t s hit z) 101 (0, 0)) else put1 h (.cells ((cells10 s.ip s.handler z.vs z.vb z.vm s.out s.inp s.read s.status s.code).setIfInBounds 0 (.int .i64 xip)) 50 (0, 0)) (put1 r (.cells zero10 50 (0, 0)) (put1 g (.cells (outA ⟨xip, xst, xk, xbk⟩ xs xb) 58 (0, 0)) z.ex)) k)) at L5
  generalize (fun k => if k = h then none else if k = q then some (Obj.cells (cells22 t s hit z) 101 (0, 0)) else put1 h (.cells ((cells10 s.ip s.handler z.vs z.vb z.vm s.out s.inp s.read s.status s.code).setIfInBounds 0 (.int .i64 xip)) 50 (0, 0)) (put1 r (.cells zero10 50 (0, 0)) (put1 g (.cells (outA ⟨xip, xst, xk, xbk⟩ xs xb) 58 (0, 0)) z.ex)) k) = fx at L5 HFX
  obtain ⟨FQ, FR, FG, FE⟩ := HFX.out
  clear g4 h4 t4 b9 b10 b11 b12 b13 b14 b15 b16 b17 b18 hw1 hw2 hw3 hg hr hh R5 R2 HG3 HFX hGh
  dsimp only [Act.put]
  go_upto_region 3 with fail
  clear hw5 g0 h0 f0
  go_cut [] (fun wx => ∃ v6, Hid (LV W wx h { s with ip := xip } v6 z.vb z.vm z.vv (s.stack.take (s.stack.length - ks) ++ xk.map (val V)) s.back V fx))
  case first =>
    have L5d := Lib.hid (L5.out.below (Below.refl _ _).drew)
    have C1 := Lib.hid (lay_any (W := W) (w := w5.drew) (q := q) (vv := z.vv) (l := z.vs) (vp := xs) (ps := xk) (k := ks) L5d.out.hb (L5d.out.fr q _ FQ).1 (fun w' hw' => whole_cell hw' rfl) L5d.out.vl HA.out.2.2.1 L5d.out.st (L5d.out.fr q _ FQ).2.2.1 (fun b e => (L5d.out.ns b e).2.2.2) HXS.out HA.out.2.2.2.2.2.1 HA.out.1 HA.out.2.2.2.1)
    have a2 : w5.drew.cell? ⟨h, 2, none⟩ = some z.vs := whole_cell L5d.out.box rfl
    have a1 : w5.drew.cell? ⟨q, 1, none⟩ = some (.int .i64 (ks : Int)) := by have e := whole_cell (L5d.out.fr q _ FQ).1 (show (cells22 t s hit z)[1]? = some (.int .i64 t.slots) from rfl); rw [HE1.out] at e; exact e
    have ag : w5.drew.cell? ⟨g, 2, none⟩ = some xs := whole_cell (L5d.out.fr g _ FG).1 rfl
    go_wp2_with fail
    go_region_with ((go_at_call 113; refine C1.out.mono ?_; rintro e w6 ⟨v6, rfl, ho6, ht6, hk6⟩; have c2 : w6.cell? ⟨h, 2, none⟩ = some z.vs := whole_cell (ht6.whole L5d.out.box (fun hm => (L5d.out.ns _ (Option.mem_toList.1 hm)).1 rfl)) rfl; have f2 : w6.frozen? ⟨h, 2, none⟩ = false := whole_frozen (ht6.whole L5d.out.box (fun hm => (L5d.out.ns _ (Option.mem_toList.1 hm)).1 rfl)) 2; have L7 := Lib.hid (L5d.out.setS ho6 ht6 hk6); obtain ⟨ao6, cap6, e6⟩ := ho6.slice; obtain ⟨n6, hn6⟩ : ∃ n, (vals (s.stack.take (s.stack.length - ks) ++ xk.map (val V))).length = n := ⟨_, rfl⟩; rw [hn6] at e6; subst e6; clear ho6 ht6 hk6 hn6 a1 a2 ag))
    all_goals
      go_wp2_with fail
      go_meet
      exact ⟨_, L7⟩
  case rest =>
    obtain ⟨v6, L7⟩ := hcut
    clear L5
    obtain ⟨wa, hwa⟩ : ∃ wa, wc = wa := ⟨_, rfl⟩
    subst hwa
    go_upto_region 4 with fail
    go_cut [] (fun wx => ∃ v8, Hid (LV W wx h { s with ip := xip } v6 v8 z.vm z.vv (s.stack.take (s.stack.length - ks) ++ xk.map (val V)) (s.back.take (s.back.length - kb) ++ xbk.map (val V)) V fx))
    case first =>
      have L5d := Lib.hid (L7.out.below (Below.refl _ _).drew)
      have C1 := Lib.hid (lay_any (W := W) (w := wc.drew) (q := q) (vv := z.vv) (l := z.vb) (vp := xb) (ps := xbk) (k := kb) L5d.out.hb (L5d.out.fr q _ FQ).1 (fun w' hw' => whole_cell hw' rfl) L5d.out.vl HA.out.2.2.1 L5d.out.bk (L5d.out.fr q _ FQ).2.2.2.1 (fun b e => (L5d.out.nb b e).2.2) HXB.out HA.out.2.2.2.2.2.2 HA.out.2.1 HA.out.2.2.2.2.1)
      have a2 : wc.drew.cell? ⟨h, 3, none⟩ = some z.vb := whole_cell L5d.out.box rfl
      have a1 : wc.drew.cell? ⟨q, 2, none⟩ = some (.int .i64 (kb : Int)) := by have e := whole_cell (L5d.out.fr q _ FQ).1 (show (cells22 t s hit z)[2]? = some (.int .i64 t.backs) from rfl); rw [HE2.out] at e; exact e
      have ag : wc.drew.cell? ⟨g, 3, none⟩ = some xb := whole_cell (L5d.out.fr g _ FG).1 rfl
      go_wp2_with fail
      go_region_with ((go_at_call 113; refine C1.out.mono ?_; rintro e w6 ⟨v6, rfl, ho6, ht6, hk6⟩; have c2 : w6.cell? ⟨h, 3, none⟩ = some z.vb := whole_cell (ht6.whole L5d.out.box (fun hm => (L5d.out.nb _ (Option.mem_toList.1 hm)).1 rfl)) rfl; have f2 : w6.frozen? ⟨h, 3, none⟩ = false := whole_frozen (ht6.whole L5d.out.box (fun hm => (L5d.out.nb _ (Option.mem_toList.1 hm)).1 rfl)) 3; have L7 := Lib.hid (L5d.out.setB ho6 ht6 hk6); obtain ⟨ao6, cap6, e6⟩ := ho6.slice; obtain ⟨n6, hn6⟩ : ∃ n, (vals (s.back.take (s.back.length - kb) ++ xbk.map (val V))).length = n := ⟨_, rfl⟩; rw [hn6] at e6; subst e6; clear ho6 ht6 hk6 hn6 a1 a2 ag))
      all_goals
        go_wp2_with fail
        go_meet
        exact ⟨_, L7⟩
    case rest =>
      obtain ⟨v8, L9⟩ := hcut
      clear L7
      have HBX := Lib.hid L9.out.box
      have HRX := Lib.hid (L9.out.fr r _ FR).1
      have HON := Lib.hid (And.intro (slice_one L9.out.st.slice) (And.intro (slice_one L9.out.bk.slice) (slice_one L9.out.me.slice)))
      go_wp2_with (first
        | (refine ld_state (by rfl) _ rfl _ rfl _ _ HBX.out rfl ?_)
        | (refine st_state (by rfl) _ _ rfl r _ rfl rfl _ _ HRX.out rfl rfl (all_one HON.out.1 HON.out.2.1 HON.out.2.2) ?_; intro wf hr ht; have HRF := Lib.hid hr; have HTF := Lib.hid ht; clear hr ht))
      refine bodyPost_ret (results_cell_row rfl _ _ r _ _ _ _ rfl HRF.out Tryz.underlying50 rfl state_size) rfl ?_
      have hx : ∀ {k : Nat}, k ≠ r → k ∉ [r] := fun h hm => h (List.mem_singleton.1 hm)
      obtain ⟨-, -, r1, r2, r3, r4⟩ := L9.out.fr r _ FR
      have e1 : t.slots.toNat = ks := by rw [HE1.out]; exact Int.toNat_natCast ks
      have e2 : t.backs.toNat = kb := by rw [HE2.out]; exact Int.toNat_natCast kb
      refine ⟨_, rfl, ⟨v6, v8, z.vm, by unfold leaveM; rfl, ?_⟩, L9.out.hb.trans (HTF.out.below (fun k hk => by rw [List.mem_singleton.1 hk]; have := HO.out; omega) L9.out.hb.size), HTF.out.whole (L9.out.fr q _ FQ).1 (hx (by have := HO.out; omega)), fun k o e => HTF.out.whole (L9.out.fr k _ (FE k o e)).1 (hx (by have h1 := (HXL.out k o e).1; have h2 := HO.out; omega))⟩
      unfold leaveM less
      rw [e1, e2]
      exact ⟨L9.out.st.touch HTF.out (fun k e => hx (fun e' => by subst e'; exact r1 e)), L9.out.bk.touch HTF.out (fun k e => hx (fun e' => by subst e'; exact r2 e)), L9.out.me.touch HTF.out (fun k e => hx (fun e' => by subst e'; exact r3 e)), fun k e => ⟨(L9.out.ns k e).2.1, (L9.out.ns k e).2.2.1⟩, fun k e => (L9.out.nb k e).2.1⟩
end
end Go.Proofs.YtpecingkoodmfaaGreatDoor.Ev
/- Package eval: may a trace be entered? -/
namespace Go.Proofs.YtpecingkoodmfaaGreatDoor.Ev
open Go.RowKit Book Mem
open Ir (T I O trA trV ReadsL newBox boxOn)
open Mach (M cells10 stV)
set_option linter.unusedSimpArgs false
set_option linter.unusedVariables false
/-- a flag, and the world but for new blocks -/
def SaysF (b : Bool) (w : World) (e : Ending) (w' : World) : Prop := e = .returned (.bool b) ∧ Below w.heap.size w w'
set_option maxHeartbeats 8000000 in
set_option maxRecDepth 100000 in
theorem may_any {w : World} {t : T} {s : M} {vi vo vc vm : Value} {so bo : Option Addr} {sc bc : Nat} (h1 : s.stack.length ≤ 10000) (h2 : s.back.length ≤ 10000) :
    Calls Tryz.prog 35 #[trV t vi vo vc, stV s (.slice so s.stack.length sc) (.slice bo s.back.length bc) vm] w (SaysF (mayT t s) w) := by
  obtain ⟨n, hn⟩ : ∃ n, s.stack.length = n := ⟨_, rfl⟩
  obtain ⟨m, hm⟩ : ∃ n, s.back.length = n := ⟨_, rfl⟩
  rw [hn] at h1 ⊢
  rw [hm] at h2 ⊢
  obtain ⟨w1, g, hw1, hg, HG, HB1, HZ1⟩ := newBox w (trA t vi vo vc) 26
  obtain ⟨w2, k, hw2, hk, HK, HB2, HZ2⟩ := newBox w1 (cells10 s.ip s.handler (.slice so n sc) (.slice bo m bc) vm s.out s.inp s.read s.status s.code) 50
  have HBF := Lib.hid (HB1.out.trans (HB2.out.mono HB1.out.size))
  have hg2 := boxOn HG.out HB2.out
  have t0 : w2.cell? ⟨g, 0, none⟩ = some (.int .i64 t.start) := whole_cell hg2 rfl
  have t1 : w2.cell? ⟨g, 1, none⟩ = some (.int .i64 t.slots) := whole_cell hg2 rfl
  have t2 : w2.cell? ⟨g, 2, none⟩ = some (.int .i64 t.backs) := whole_cell hg2 rfl
  have t3 : w2.cell? ⟨g, 3, none⟩ = some (.int .i64 t.grow) := whole_cell hg2 rfl
  have t4 : w2.cell? ⟨g, 4, none⟩ = some (.int .i64 t.growBack) := whole_cell hg2 rfl
  have s0 : w2.cell? ⟨k, 0, none⟩ = some (.int .i64 s.ip) := whole_cell HK.out rfl
  have s2 : w2.cell? ⟨k, 2, none⟩ = some (.slice so n sc) := whole_cell HK.out rfl
  have s3 : w2.cell? ⟨k, 3, none⟩ = some (.slice bo m bc) := whole_cell HK.out rfl
  have s8 : w2.cell? ⟨k, 8, none⟩ = some (.int .i64 s.status) := whole_cell HK.out rfl
  have W1 := Lib.hid (within_any t.slots (n : Int) w2)
  have W2 := Lib.hid (within_any t.grow (48 - (n : Int)) w2)
  have W3 := Lib.hid (within_any t.backs (m : Int) w2)
  have W4 := Lib.hid (within_any t.growBack (48 - (m : Int)) w2)
  have HM := Lib.hid (show mayT t s = (decide (s.status = 0) && (decide (s.ip = t.start) && (Ir.within t.slots n && (Ir.within t.grow (48 - n) && (Ir.within t.backs m && Ir.within t.growBack (48 - m)))))) by unfold mayT; rw [hn, hm])
  rw [HM.out]
  obtain ⟨stt, hstt⟩ : ∃ x, s.status = x := ⟨_, rfl⟩
  obtain ⟨sip, hsip⟩ : ∃ x, s.ip = x := ⟨_, rfl⟩
  obtain ⟨ts, hts⟩ : ∃ x, t.start = x := ⟨_, rfl⟩
  rw [hstt] at s8 ⊢
  rw [hsip] at s0 ⊢
  rw [hts] at t0 ⊢
  clear hg2 hn hm HM hstt hsip hts

  by_cases c1 : stt = 0
  rotate_left
  · have e1 : (stt == 0) = false := by simpa using c1
    rw [decide_eq_false c1, Bool.false_and]
    clear c1
    go_enter Tryz.func35, Tryz.ntmps35
    go_wp2_with (go_at_call 91; first | (with_reducible refine W1.out.mono ?_; rintro e w' ⟨rfl, rfl⟩) | (with_reducible refine W2.out.mono ?_; rintro e w' ⟨rfl, rfl⟩) | (with_reducible refine W3.out.mono ?_; rintro e w' ⟨rfl, rfl⟩) | (with_reducible refine W4.out.mono ?_; rintro e w' ⟨rfl, rfl⟩))
    go_ret
    exact ⟨rfl, HBF.out⟩
  have e1 : (stt == 0) = true := by simpa using c1
  rw [decide_eq_true c1, Bool.true_and]
  clear c1
  by_cases c2 : sip = ts
  rotate_left
  · have e2 : (sip == ts) = false := by simpa using c2
    rw [decide_eq_false c2, Bool.false_and]
    clear c2
    go_enter Tryz.func35, Tryz.ntmps35
    go_wp2_with (go_at_call 91; first | (with_reducible refine W1.out.mono ?_; rintro e w' ⟨rfl, rfl⟩) | (with_reducible refine W2.out.mono ?_; rintro e w' ⟨rfl, rfl⟩) | (with_reducible refine W3.out.mono ?_; rintro e w' ⟨rfl, rfl⟩) | (with_reducible refine W4.out.mono ?_; rintro e w' ⟨rfl, rfl⟩))
    go_ret
    exact ⟨rfl, HBF.out⟩
  have e2 : (sip == ts) = true := by simpa using c2
  rw [decide_eq_true c2, Bool.true_and]
  clear c2
  cases d0 : Ir.within t.slots (n : Int)
  · rw [d0] at W1
    rw [Bool.false_and]
    clear d0
    go_enter Tryz.func35, Tryz.ntmps35
    go_wp2_with (go_at_call 91; first | (with_reducible refine W1.out.mono ?_; rintro e w' ⟨rfl, rfl⟩) | (with_reducible refine W2.out.mono ?_; rintro e w' ⟨rfl, rfl⟩) | (with_reducible refine W3.out.mono ?_; rintro e w' ⟨rfl, rfl⟩) | (with_reducible refine W4.out.mono ?_; rintro e w' ⟨rfl, rfl⟩))
    go_ret
    exact ⟨rfl, HBF.out⟩
  rw [d0] at W1
  rw [Bool.true_and]
  clear d0
  cases d1 : Ir.within t.grow (48 - (n : Int))
  · rw [d1] at W2
    rw [Bool.false_and]
    clear d1
    go_enter Tryz.func35, Tryz.ntmps35
    go_wp2_with (go_at_call 91; first | (with_reducible refine W1.out.mono ?_; rintro e w' ⟨rfl, rfl⟩) | (with_reducible refine W2.out.mono ?_; rintro e w' ⟨rfl, rfl⟩) | (with_reducible refine W3.out.mono ?_; rintro e w' ⟨rfl, rfl⟩) | (with_reducible refine W4.out.mono ?_; rintro e w' ⟨rfl, rfl⟩))
    go_ret
    exact ⟨rfl, HBF.out⟩
  rw [d1] at W2
  rw [Bool.true_and]
  clear d1
  cases d2 : Ir.within t.backs (m : Int)
  · rw [d2] at W3
    rw [Bool.false_and]
    clear d2
    go_enter Tryz.func35, Tryz.ntmps35
    go_wp2_with (go_at_call 91; first | (with_reducible refine W1.out.mono ?_; rintro e w' ⟨rfl, rfl⟩) | (with_reducible refine W2.out.mono ?_; rintro e w' ⟨rfl, rfl⟩) | (with_reducible refine W3.out.mono ?_; rintro e w' ⟨rfl, rfl⟩) | (with_reducible refine W4.out.mono ?_; rintro e w' ⟨rfl, rfl⟩))
    go_ret
    exact ⟨rfl, HBF.out⟩
  rw [d2] at W3
  rw [Bool.true_and]
  clear d2
  cases d3 : Ir.within t.growBack (48 - (m : Int))
  · rw [d3] at W4
    clear d3
    go_enter Tryz.func35, Tryz.ntmps35
    go_wp2_with (go_at_call 91; first | (with_reducible refine W1.out.mono ?_; rintro e w' ⟨rfl, rfl⟩) | (with_reducible refine W2.out.mono ?_; rintro e w' ⟨rfl, rfl⟩) | (with_reducible refine W3.out.mono ?_; rintro e w' ⟨rfl, rfl⟩) | (with_reducible refine W4.out.mono ?_; rintro e w' ⟨rfl, rfl⟩))
    go_ret
    exact ⟨rfl, HBF.out⟩
  rw [d3] at W4
  clear d3
  go_enter Tryz.func35, Tryz.ntmps35
  go_wp2_with (go_at_call 91; first | (with_reducible refine W1.out.mono ?_; rintro e w' ⟨rfl, rfl⟩) | (with_reducible refine W2.out.mono ?_; rintro e w' ⟨rfl, rfl⟩) | (with_reducible refine W3.out.mono ?_; rintro e w' ⟨rfl, rfl⟩) | (with_reducible refine W4.out.mono ?_; rintro e w' ⟨rfl, rfl⟩))
  go_ret
  exact ⟨rfl, HBF.out⟩
end Go.Proofs.YtpecingkoodmfaaGreatDoor.Ev
