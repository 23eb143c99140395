/- The document's own machine at an exit (chapter 15). -/
import Derived.Test.YtpecingkoodmfaaGreatDoorS8
import Derived.Test.YtpecingkoodmfaaGreatDoorS3
import Derived.Deep.LoopGhost
namespace Go.Proofs.YtpecingkoodmfaaGreatDoor.Ev
open Go.RowKit Book Mem
open Ir (T I O trA trV ReadsL outA outV newBox boxOn)
open Mach (M less cells10 zero10 OwnsL OwnsM stV st_state ld_state state_size slice_one all_one)
set_option linter.unusedSimpArgs false
set_option linter.unusedVariables false
section
variable {ops : Array Oper} {rest : List Oper} {o : Oper} {a : Act} {w : World} {Q : Exit → Act → World → Prop}
theorem rst_out (hw : Region.wanted o (yielded ops a.tmps) = true) (x y : Operand) (ho : o.op = .store 58 x y) (g : Nat) (cs : Array Value) (hx : a.eval x = .pointer (some ⟨g, 0, none⟩)) (hy : a.eval y = .agg cs) (hcs : cs.size = 4) (old : Array Value) (hold : old.size = 4) (hg : w.heap[g]? = some (.cells old 58 (0, 0))) (h1 : cs.all (·.oneCell') = true)
    (h : ∀ w', w'.heap[g]? = some (.cells cs 58 (0, 0)) → Stirred w w' [g] → wpList Tryz.prog ops Q rest (a.put o.dst undef) w') : wpList Tryz.prog ops Q (o :: rest) a w :=
  wpList_setbox hw _ x y ho g cs hx hy old _ hg (by rw [Ir.out_size, hcs]) (by rw [hold, hcs]) h1 h
end
theorem rrow_one (w : World) (x : Int) : ∃ w1 g, w.alloc (.cells #[.int .i64 x] 3) = w1 ∧ w.heap.size = g ∧ Hid (Reads w1 (.slice (some ⟨g, 0, none⟩) 1 1) [x]) ∧ Hid (Below w.heap.size w w1) :=
  ⟨_, _, rfl, rfl, Reads.of_owns (Owns.built w (.int .i64 x) 3), (Below.refl w.heap.size w).alloc (Nat.le_refl _) _⟩
theorem rwrap_nat {m : Nat} (h : m ≤ 10000) : wrap64 (m : Int) = (m : Int) := by unfold wrap64; omega
theorem rsub_cast {nx k m : Nat} (h : nx - k = m) (hk : k ≤ nx) : (nx : Int) - (k : Int) = (m : Int) := by omega
theorem rlen_ok {m n j : Nat} (h : m ≤ 10000) (g : n ≤ 10000) (hj : j ≤ n) : m + j + 1 ≤ maxLen := by unfold maxLen; omega
theorem rlen_ok8 {m n j : Nat} (h : m ≤ 10000) (g : n ≤ 10000) (hj : j ≤ n) : (m + j + 1) * 8 ≤ 140737488355328 := by omega
theorem rcap_of {w : World} {ao : Option Addr} {n c : Nat} {xs : List Int} (h : ReadsC w (.slice ao n c) xs) : n ≤ c := by
  obtain ⟨-, ao', c', e, hc⟩ := h
  simp only [Value.slice.injEq] at e
  obtain ⟨-, e1, e2⟩ := e
  omega
theorem rval_at {V : List Int} {p : Int} (h : 0 ≤ p ∧ p < (V.length : Int)) : ∃ k : Nat, p = (k : Int) ∧ V[k]? = some (val V p) := by
  obtain ⟨k, rfl⟩ : ∃ k : Nat, p = k := ⟨p.toNat, by omega⟩
  have hk : k < V.length := by omega
  refine ⟨k, rfl, ?_⟩
  unfold val getL
  rw [if_pos h, Int.toNat_natCast, List.getD_eq_getElem?_getD, List.getElem?_eq_getElem hk]
  rfl
/-- what is there behind an exit: two new stacks, the memory as it lay -/
def RLeft (w : World) (vm : Value) (m : M) (e : Ending) (w' : World) : Prop :=
  ∃ v1 v2, e = .returned (stV m v1 v2 vm) ∧ Owns w' w.heap.size 3 v1 (vals m.stack) ∧ Owns w' w.heap.size 3 v2 (vals m.back) ∧ (∀ k, blk v1 = some k → blk v2 ≠ some k) ∧ Below w.heap.size w w'
set_option maxHeartbeats 8000000 in
set_option maxRecDepth 100000 in
theorem rleave_any {w : World} {t : T} {s : M} {V : List Int} {vi vo vc vs vb vm vv : Value} {k : Nat} {x : O} (hR : ReadsL w vi vo vc t) (hx : t.outs[k]? = some x) (hs : ReadsC w vs s.stack) (hb : ReadsC w vb s.back) (hm : vm.oneCell' = true) (hv : Reads w vv V) (hV : V.length ≤ 10000)
    (z1 : s.stack.length ≤ 10000) (z2 : s.back.length ≤ 10000) (l1 : x.stack.length ≤ 10000) (l2 : x.back.length ≤ 10000) (p1 : ∀ p ∈ x.stack, 0 ≤ p ∧ p < (V.length : Int)) (p2 : ∀ p ∈ x.back, 0 ≤ p ∧ p < (V.length : Int))
    {ks kb : Nat} (e1 : t.slots = (ks : Int)) (hk1 : ks ≤ s.stack.length) (e2 : t.backs = (kb : Int)) (hk2 : kb ≤ s.back.length) :
    Calls Tryz.prog 88 #[trV t vi vo vc, stV s vs vb vm, vv, .int .i64 (k : Int)] w (RLeft w vm (leaveM t s V x)) := by
  obtain ⟨i0, q1, q2, q3, q4⟩ := info_parts Tryz.bkIntInfo
  have HI := Lib.hid (And.intro q1 (And.intro q2 (And.intro q3 q4)))
  have HRR := Lib.hid hR
  obtain ⟨ai, ci, ao, co, ac, cc, rfl, rfl, rfl⟩ := hR.known
  obtain ⟨ad, qs, qb, rfl, j0, j1, j2, j3, HQS, HQB⟩ := Ir.ReadsO.at hR.outs hx
  obtain ⟨aq, cq, rfl⟩ := Ir.reads_form HQS
  obtain ⟨ab, cb, rfl⟩ := Ir.reads_form HQB
  have HRS := Lib.hid hs
  have HRB := Lib.hid hb
  obtain ⟨⟨so, sc, f1, -⟩, -⟩ := hs
  obtain ⟨⟨bo, bc, f2, -⟩, -⟩ := hb
  subst f1
  subst f2
  have HRV := Lib.hid hv
  obtain ⟨av, cv, rfl, -⟩ := hv
  have hkl := (List.getElem?_eq_some_iff.1 hx).1
  obtain ⟨no, hno⟩ : ∃ n, t.outs.length = n := ⟨_, rfl⟩
  obtain ⟨n1, hn1⟩ : ∃ n, s.stack.length = n := ⟨_, rfl⟩
  obtain ⟨n2, hn2⟩ : ∃ n, s.back.length = n := ⟨_, rfl⟩
  have HNN := Lib.hid (And.intro hn1 hn2)
  rw [hno] at HRR hkl ⊢
  rw [hn1] at HRS z1 hk1 ⊢
  rw [hn2] at HRB z2 hk2 ⊢
  clear hno hn1 hn2
  obtain ⟨w1, gt, hw1, hgt, HT1, B1, Z1⟩ := newBox w (trA t (.slice ai t.ins.length ci) (.slice (some ad) no co) (.slice ac t.cells.length cc)) 26
  obtain ⟨w2, gs, hw2, hgs, HS2, B2, Z2⟩ := newBox w1 (cells10 s.ip s.handler (.slice so n1 sc) (.slice bo n2 bc) vm s.out s.inp s.read s.status s.code) 50
  obtain ⟨w3, gr, hw3, hgr, HR3, B3, Z3⟩ := newBox w2 zero10 50
  obtain ⟨w4, gx, hw4, hgx, HX4, B4, Z4⟩ := newBox w3 #[.int .i64 0, .int .i64 0, .slice none 0 0, .slice none 0 0] 58
  have B13 := Lib.hid (B1.out.trans ((B2.out.trans (B3.out.mono B2.out.size)).mono B1.out.size))
  have tr : ∀ {p : Addr} {u : Value}, w.cell? p = some u → w3.cell? p = some u := fun {p u} hu => by rw [B13.out.cell (p := p) (World.block_lt_of_cell? w _ hu)]; exact hu
  have i0' := tr j0
  have i1 := tr j1
  have i2 := tr j2
  have i3 := tr j3
  have kk0 : (0 : Int) ≤ (k : Int) := Int.natCast_nonneg k
  have kk1 : (k : Int) < (no : Int) := Int.ofNat_lt.2 hkl
  have HT3 := Lib.hid (boxOn HT1.out (B2.out.trans (B3.out.mono B2.out.size)))
  have t6 : w3.cell? ⟨gt, 6, none⟩ = some (.slice (some ad) no co) := whole_cell HT3.out rfl
  have HL := Lib.hid (And.intro hV (And.intro z1 (And.intro z2 (And.intro l1 (And.intro l2 (And.intro p1 p2))))))
  have HK := Lib.hid (And.intro e1 (And.intro hk1 (And.intro e2 hk2)))
  have HQ := Lib.hid (And.intro HQS HQB)
  clear hR hx HQS HQB q1 q2 q3 q4 j0 j1 j2 j3 tr hV z1 z2 l1 l2 p1 p2 e1 e2 hk1 hk2 hkl
  go_enter Tryz.func88, Tryz.ntmps88
  go_upto_region 2 with (refine rst_out (by rfl) _ _ rfl gx (outA x (.slice aq x.stack.length cq) (.slice ab x.back.length cb)) rfl rfl rfl _ rfl HX4.out (by simp [Value.oneCell']) ?_; intro w5 h5 t5)
  have B35 := Lib.hid (B4.out.trans (t5.below (B := w3.heap.size) (fun k hk => by rw [List.mem_singleton.1 hk, ← Z4.out]; exact Nat.le_refl _) B4.out.size))
  have HX5 := Lib.hid h5
  have HS3 := Lib.hid (boxOn HS2.out B3.out)
  have HS5 := Lib.hid (boxOn HS3.out B35.out)
  have HT5 := Lib.hid (boxOn HT3.out B35.out)
  have HR5 := Lib.hid (boxOn HR3.out B35.out)
  have NE := Lib.hid (show w.heap.size = gt ∧ gt < gs ∧ gs < gr ∧ gr < gx ∧ gx < w5.heap.size from ⟨Z1.out, by rw [← Z2.out]; exact whole_lt HT1.out, by rw [← Z3.out]; exact whole_lt HS2.out, by rw [← Z4.out]; exact whole_lt HR3.out, whole_lt h5⟩)
  have x0 : w5.cell? ⟨gx, 0, none⟩ = some (.int .i64 x.ip) := whole_cell h5 rfl
  have s0 : w5.cell? ⟨gs, 0, none⟩ = some (.int .i64 s.ip) := whole_cell HS5.out rfl
  have f0 : w5.frozen? ⟨gs, 0, none⟩ = false := whole_frozen HS5.out 0
  have h6 := whole_set HS5.out 0 (.int .i64 x.ip)
  have t6' := Stirred.setCell w5 ⟨gs, 0, none⟩ (.int .i64 x.ip)
  obtain ⟨w6, hw6⟩ : ∃ w6, w5.setCell ⟨gs, 0, none⟩ (.int .i64 x.ip) = w6 := ⟨_, rfl⟩
  rw [hw6] at h6 t6'
  have HS6 := Lib.hid (show w6.heap[gs]? = some (.cells (cells10 x.ip s.handler (.slice so n1 sc) (.slice bo n2 bc) vm s.out s.inp s.read s.status s.code) 50 (0, 0)) from h6)
  have ne : ∀ {k : Nat}, k ≠ gs → k ∉ [gs] := fun h hm => h (List.mem_singleton.1 hm)
  have HX6 := Lib.hid (t6'.whole HX5.out (ne (by have := NE.out; omega)))
  have HT6 := Lib.hid (t6'.whole HT5.out (ne (by have := NE.out; omega)))
  have HR6 := Lib.hid (t6'.whole HR5.out (ne (by have := NE.out; omega)))
  have BW6 := Lib.hid (show Below w.heap.size w w6 from by
    have b5 := B13.out.trans (B35.out.mono B13.out.size)
    exact b5.trans (t6'.below (fun k hk => by rw [List.mem_singleton.1 hk]; show w.heap.size ≤ gs; have := NE.out; omega) b5.size))
  have y2 : w6.cell? ⟨gs, 2, none⟩ = some (.slice so n1 sc) := whole_cell h6 rfl
  have y1 : w6.cell? ⟨gt, 1, none⟩ = some (.int .i64 (ks : Int)) := by have h := whole_cell HT6.out (show _[1]? = some (.int .i64 t.slots) from rfl); rw [HK.out.1] at h; exact h
  obtain ⟨m1, hm1⟩ : ∃ m, n1 - ks = m := ⟨_, rfl⟩
  obtain ⟨m2, hm2⟩ : ∃ m, n2 - kb = m := ⟨_, rfl⟩
  have HM := Lib.hid (show m1 ≤ 10000 ∧ m2 ≤ 10000 ∧ m1 ≤ s.stack.length ∧ m2 ≤ s.back.length from ⟨by rw [← hm1]; exact Nat.le_trans (Nat.sub_le _ _) HL.out.2.1, by rw [← hm2]; exact Nat.le_trans (Nat.sub_le _ _) HL.out.2.2.1, by rw [HNN.out.1, ← hm1]; exact Nat.sub_le _ _, by rw [HNN.out.2, ← hm2]; exact Nat.sub_le _ _⟩)
  have z1 : (n1 : Int) - (ks : Int) = (m1 : Int) := rsub_cast hm1 HK.out.2.1
  have z3 : wrap64 (m1 : Int) = (m1 : Int) := rwrap_nat HM.out.1
  have z5 : m1 ≤ sc := Nat.le_trans (by rw [← hm1]; exact Nat.sub_le _ _) (rcap_of HRS.out)
  have HZ2 := Lib.hid (show (n2 : Int) - (kb : Int) = (m2 : Int) ∧ wrap64 (m2 : Int) = (m2 : Int) ∧ m2 ≤ bc from ⟨rsub_cast hm2 HK.out.2.2.2, rwrap_nat HM.out.2.1, Nat.le_trans (by rw [← hm2]; exact Nat.sub_le _ _) (rcap_of HRB.out)⟩)
  have HMK := Lib.hid (And.intro hm1 hm2)
  have HT1S := Lib.hid ((Reads.take HRS.out.1 m1 sc HM.out.2.2.1).below BW6.out)
  have HNX := Lib.hid (show (s.stack.take m1).length = m1 by rw [List.length_take]; exact Nat.min_eq_left HM.out.2.2.1)
  obtain ⟨nk, hnk⟩ : ∃ n, x.stack.length = n := ⟨_, rfl⟩
  have HNK := Lib.hid hnk
  have HX6k := Lib.hid (show w6.heap[gx]? = some (.cells (outA x (.slice aq nk cq) (.slice ab x.back.length cb)) 58 (0, 0)) by rw [← hnk]; exact HX6.out)
  have HQ1 := Lib.hid (show Reads w (.slice aq nk cq) x.stack by rw [← hnk]; exact HQ.out.1)
  have e2 : w6.cell? ⟨gx, 2, none⟩ = some (.slice aq nk cq) := whole_cell HX6k.out rfl
  clear h5 t5 h6 t6' hw1 hw2 hw3 hw4 hgt hgs hgr hgx HT1 HS2 HR3 HX4 B1 B2 B3 B4 Z1 Z2 Z3 Z4 HX5 HS3 HS5 HT5 HR5 HT3 hm1 hm2 hnk i0' i1 i2 i3 t6 kk0 kk1 ne HX6
  try dsimp only [Act.put]
  go_wp2_with (refine wpList_append_reads _ rfl _ _ 24 rfl w6.heap.size 3 i0 (.int .i64 0) 8 Tryz.underlying24 HI.out.1 HI.out.2.1 HI.out.2.2.1 HI.out.2.2.2 rfl (.slice none 0 0) [] rfl (Owns.nil _ _ _) (.slice so m1 sc) (s.stack.take m1) rfl HT1S.out (by rw [HNX.out]; have := HM.out.1; unfold maxLen; simp; omega) (by rw [HNX.out]; have := HM.out.1; simp; omega) (Nat.le_refl _) ?_; intro v7 w7 ho7 _ ht7 _; have HO7 := Lib.hid ho7; have HT7 := Lib.hid ht7; clear ho7 ht7)
  have B67 := Lib.hid (HT7.out.below (B := w6.heap.size) (fun k hk => by cases hk) (Nat.le_refl _))
  have HP1 := Lib.hid HL.out.2.2.2.2.2.1
  go_loopg [10, 11] nk (fun zz l i wr => ∃ j : Nat, zz = nk - j ∧ j ≤ nk ∧ i = .int .i64 (j : Int) ∧ Hid (Owns wr w6.heap.size 3 l (vals (s.stack.take m1 ++ (x.stack.take j).map (val V)))) ∧ Hid (Below w6.heap.size w6 wr))
  case atStart => exact ⟨0, rfl, Nat.zero_le _, rfl, Lib.hid (by rw [List.take_zero, List.map_nil, List.append_nil]; exact HO7.out), B67⟩
  case round =>
    obtain ⟨j, rfl, hj, rfl, HO, HBR⟩ := hrel
    have HXR := Lib.hid (boxOn HX6k.out HBR.out)
    have r2 : wr.cell? ⟨gx, 2, none⟩ = some (.slice aq nk cq) := whole_cell HXR.out rfl
    have HWR := Lib.hid (BW6.out.trans (HBR.out.mono BW6.out.size))
    by_cases hlt : j < nk
    · obtain ⟨p, hp⟩ : ∃ p, x.stack[j]? = some p := ⟨_, List.getElem?_eq_getElem (by rw [HNK.out]; exact hlt)⟩
      have htk : (x.stack.take (j + 1)).map (val V) = (x.stack.take j).map (val V) ++ [val V p] := by rw [List.take_add_one, hp]; simp
      obtain ⟨pn, hpn, hpv⟩ := rval_at (HP1.out p (List.mem_of_getElem? hp))
      obtain ⟨aq', ea, p0⟩ := Ir.Reads.at' (HQ1.out.below HWR.out) hp
      subst ea
      obtain ⟨av', ev, v0⟩ := Ir.Reads.at' (HRV.out.below HWR.out) hpv
      subst ev
      have hpl := (List.getElem?_eq_some_iff.1 hpv).1
      obtain ⟨nv, hnv⟩ : ∃ n, V.length = n := ⟨_, rfl⟩
      obtain ⟨y, hy⟩ : ∃ y, val V p = y := ⟨_, rfl⟩
      rw [hy] at htk v0
      subst hpn
      have HTK := Lib.hid htk
      obtain ⟨ao5, cap5, e5⟩ := HO.out.slice
      subst e5
      obtain ⟨w16, g16, hw16, hg16, HROW, HB16⟩ := rrow_one wr y
      have HO16 := Lib.hid (HO.out.below HB16.out)
      have hlen : (vals (s.stack.take m1 ++ (x.stack.take j).map (val V))).length = m1 + j := by
        rw [vals_length, List.length_append, List.length_map, List.length_take, List.length_take, HNK.out, Nat.min_eq_left HM.out.2.2.1, Nat.min_eq_left hj]
      have HLE := Lib.hid hlen
      have hnk4 : nk ≤ 10000 := by rw [← HNK.out]; exact HL.out.2.2.2.1
      have k0 : (0 : Int) ≤ (j : Int) := Int.natCast_nonneg j
      have k1 : (j : Int) < (nk : Int) := Int.ofNat_lt.2 hlt
      have k2 : (0 : Int) ≤ (pn : Int) := Int.natCast_nonneg pn
      have k3 : (pn : Int) < (V.length : Int) := Int.ofNat_lt.2 hpl
      rw [hlen] at HO HO16
      rw [hlen]
      have HBS := Lib.hid (show w6.heap.size ≤ w16.heap.size from Nat.le_trans HBR.out.size HB16.out.size)
      clear hp hpv hpl hnv hy htk hlen
      go_wp2_with (refine wpList_append_reads _ rfl _ _ 24 rfl w6.heap.size 3 i0 (.int .i64 0) 8 Tryz.underlying24 HI.out.1 HI.out.2.1 HI.out.2.2.1 HI.out.2.2.2 rfl (.slice ao5 (m1 + j) cap5) (vals (s.stack.take m1 ++ (x.stack.take j).map (val V))) rfl HO16.out (.slice (some ⟨g16, 0, none⟩) 1 1) [y] rfl HROW.out (by rw [HLE.out]; exact rlen_ok HM.out.1 hnk4 hj) (by rw [HLE.out]; exact rlen_ok8 HM.out.1 hnk4 hj) HBS.out ?_; intro v2 w17 ho _ ht hk; have HO17 := Lib.hid ho; have HT17 := Lib.hid ht; clear ho ht hk)
      go_roundg (nk - (j + 1))
      case measure => omega
      case rel => exact ⟨j + 1, rfl, by omega, by go_num, Lib.hid (by rw [HTK.out, ← List.append_assoc, vals, List.map_append]; exact HO17.out), Lib.hid ((HBR.out.trans (HB16.out.mono HBR.out.size)).trans (HT17.out.below (B := w6.heap.size) (fun b hb => (HO16.out.block b (Option.mem_toList.1 hb)).1) HBS.out))⟩
    · obtain rfl : j = nk := by omega
      have HO2 := Lib.hid (show Owns wr w6.heap.size 3 _ (vals (s.stack.take m1 ++ x.stack.map (val V))) by have h := HO.out; rw [List.take_of_length_le (Nat.le_of_eq HNK.out)] at h; exact h)
      have HS8 := Lib.hid (boxOn HS6.out HBR.out)
      have HT8 := Lib.hid (boxOn HT6.out HBR.out)
      have HR8 := Lib.hid (boxOn HR6.out HBR.out)
      obtain ⟨az, cz, ez⟩ := HO2.out.slice
      obtain ⟨nz, hnz⟩ : ∃ n, (vals (s.stack.take m1 ++ x.stack.map (val V))).length = n := ⟨_, rfl⟩
      rw [hnz] at ez
      subst ez
      have u3 : wr.cell? ⟨gs, 3, none⟩ = some (.slice bo n2 bc) := whole_cell HS8.out rfl
      have u1 : wr.cell? ⟨gt, 2, none⟩ = some (.int .i64 (kb : Int)) := by have h := whole_cell HT8.out (show _[2]? = some (.int .i64 t.backs) from rfl); rw [HK.out.2.2.1] at h; exact h
      obtain ⟨y1', y3', y5'⟩ := HZ2.out
      have HT2S := Lib.hid ((Reads.take HRB.out.1 m2 bc HM.out.2.2.2).below HWR.out)
      have HNB := Lib.hid (show (s.back.take m2).length = m2 by rw [List.length_take]; exact Nat.min_eq_left HM.out.2.2.2)
      obtain ⟨mk, hmk⟩ : ∃ n, x.back.length = n := ⟨_, rfl⟩
      have HMK2 := Lib.hid hmk
      have HX8k := Lib.hid (show wr.heap[gx]? = some (.cells (outA x (.slice aq j cq) (.slice ab mk cb)) 58 (0, 0)) by rw [← hmk]; exact HXR.out)
      have HQ2 := Lib.hid (show Reads w (.slice ab mk cb) x.back by rw [← hmk]; exact HQ.out.2)
      have HP2 := Lib.hid HL.out.2.2.2.2.2.2
      clear hmk hnz z1 z3 z5 HXR
      go_wp2_with (refine wpList_append_reads _ rfl _ _ 24 rfl wr.heap.size 3 i0 (.int .i64 0) 8 Tryz.underlying24 HI.out.1 HI.out.2.1 HI.out.2.2.1 HI.out.2.2.2 rfl (.slice none 0 0) [] rfl (Owns.nil _ _ _) (.slice bo m2 bc) (s.back.take m2) rfl HT2S.out (by rw [HNB.out]; have := HM.out.2.1; unfold maxLen; simp; omega) (by rw [HNB.out]; have := HM.out.2.1; simp; omega) (Nat.le_refl _) ?_; intro v9 w9 ho9 _ ht9 _; have HO9 := Lib.hid ho9; have HT9 := Lib.hid ht9; clear ho9 ht9)
      have B89 := Lib.hid (HT9.out.below (B := wr.heap.size) (fun k hk => by cases hk) (Nat.le_refl _))
      obtain ⟨wa, hwa⟩ : ∃ wa, wa = wr := ⟨_, rfl⟩
      subst hwa
      go_loopg [12, 13] mk (fun zz l i wy => ∃ j' : Nat, zz = mk - j' ∧ j' ≤ mk ∧ i = .int .i64 (j' : Int) ∧ Hid (Owns wy wa.heap.size 3 l (vals (s.back.take m2 ++ (x.back.take j').map (val V)))) ∧ Hid (Below wa.heap.size wa wy))
      case atStart => exact ⟨0, rfl, Nat.zero_le _, rfl, Lib.hid (by rw [List.take_zero, List.map_nil, List.append_nil]; exact HO9.out), B89⟩
      case round =>
        obtain ⟨i', rfl, hi', rfl, HOy, HBy⟩ := hrel
        have HXy := Lib.hid (boxOn HX8k.out HBy.out)
        have r3 : wr.cell? ⟨gx, 3, none⟩ = some (.slice ab mk cb) := whole_cell HXy.out rfl
        have HWy := Lib.hid (HWR.out.trans (HBy.out.mono HWR.out.size))
        by_cases hlt : i' < mk
        · obtain ⟨p, hp⟩ : ∃ p, x.back[i']? = some p := ⟨_, List.getElem?_eq_getElem (by rw [HMK2.out]; exact hlt)⟩
          have htk : (x.back.take (i' + 1)).map (val V) = (x.back.take i').map (val V) ++ [val V p] := by rw [List.take_add_one, hp]; simp
          obtain ⟨pn, hpn, hpv⟩ := rval_at (HP2.out p (List.mem_of_getElem? hp))
          obtain ⟨ab', ea, p0⟩ := Ir.Reads.at' (HQ2.out.below HWy.out) hp
          subst ea
          obtain ⟨av', ev, v0⟩ := Ir.Reads.at' (HRV.out.below HWy.out) hpv
          subst ev
          have hpl := (List.getElem?_eq_some_iff.1 hpv).1
          obtain ⟨y, hy⟩ : ∃ y, val V p = y := ⟨_, rfl⟩
          rw [hy] at htk v0
          subst hpn
          have HTK := Lib.hid htk
          obtain ⟨ao5, cap5, e5⟩ := HOy.out.slice
          subst e5
          obtain ⟨w16, g16, hw16, hg16, HROW, HB16⟩ := rrow_one wr y
          have HO16 := Lib.hid (HOy.out.below HB16.out)
          have hlen : (vals (s.back.take m2 ++ (x.back.take i').map (val V))).length = m2 + i' := by
            rw [vals_length, List.length_append, List.length_map, List.length_take, List.length_take, HMK2.out, Nat.min_eq_left HM.out.2.2.2, Nat.min_eq_left hi']
          have HLE := Lib.hid hlen
          have hmk4 : mk ≤ 10000 := by rw [← HMK2.out]; exact HL.out.2.2.2.2.1
          have k0 : (0 : Int) ≤ (i' : Int) := Int.natCast_nonneg i'
          have k1 : (i' : Int) < (mk : Int) := Int.ofNat_lt.2 hlt
          have k2 : (0 : Int) ≤ (pn : Int) := Int.natCast_nonneg pn
          have k3 : (pn : Int) < (V.length : Int) := Int.ofNat_lt.2 hpl
          rw [hlen] at HOy HO16
          rw [hlen]
          have HBS := Lib.hid (show wa.heap.size ≤ w16.heap.size from Nat.le_trans HBy.out.size HB16.out.size)
          clear hp hpv hpl hy htk hlen
          go_wp2_with (refine wpList_append_reads _ rfl _ _ 24 rfl wa.heap.size 3 i0 (.int .i64 0) 8 Tryz.underlying24 HI.out.1 HI.out.2.1 HI.out.2.2.1 HI.out.2.2.2 rfl (.slice ao5 (m2 + i') cap5) (vals (s.back.take m2 ++ (x.back.take i').map (val V))) rfl HO16.out (.slice (some ⟨g16, 0, none⟩) 1 1) [y] rfl HROW.out (by rw [HLE.out]; exact rlen_ok HM.out.2.1 hmk4 hi') (by rw [HLE.out]; exact rlen_ok8 HM.out.2.1 hmk4 hi') HBS.out ?_; intro v2 w17 ho _ ht hk; have HO17 := Lib.hid ho; have HT17 := Lib.hid ht; clear ho ht hk)
          go_roundg (mk - (i' + 1))
          case measure => omega
          case rel => exact ⟨i' + 1, rfl, by omega, by go_num, Lib.hid (by rw [HTK.out, ← List.append_assoc, vals, List.map_append]; exact HO17.out), Lib.hid ((HBy.out.trans (HB16.out.mono HBy.out.size)).trans (HT17.out.below (B := wa.heap.size) (fun b hb => (HO16.out.block b (Option.mem_toList.1 hb)).1) HBS.out))⟩
        · obtain rfl : i' = mk := by omega
          have HOB := Lib.hid (show Owns wr wa.heap.size 3 _ (vals (s.back.take m2 ++ x.back.map (val V))) by have h := HOy.out; rw [List.take_of_length_le (Nat.le_of_eq HMK2.out)] at h; exact h)
          obtain ⟨ay, cy, ey⟩ := HOB.out.slice
          obtain ⟨ny, hny⟩ : ∃ n, (vals (s.back.take m2 ++ x.back.map (val V))).length = n := ⟨_, rfl⟩
          rw [hny] at ey
          subst ey
          clear hny
          have HSy := boxOn HS8.out HBy.out
          have HRy := Lib.hid (boxOn HR8.out HBy.out)
          have HOS := Lib.hid (HO2.out.below HBy.out)
          have a2 : wr.cell? ⟨gs, 2, none⟩ = some (.slice so n1 sc) := whole_cell HSy rfl
          have b2 : wr.frozen? ⟨gs, 2, none⟩ = false := whole_frozen HSy 2
          have h20 := whole_set HSy 2 (.slice az nz cz)
          have t20 := Stirred.setCell wr ⟨gs, 2, none⟩ (.slice az nz cz)
          obtain ⟨w20, hw20⟩ : ∃ w20, wr.setCell ⟨gs, 2, none⟩ (.slice az nz cz) = w20 := ⟨_, rfl⟩
          rw [hw20] at h20 t20
          have a3 : w20.cell? ⟨gs, 3, none⟩ = some (.slice bo n2 bc) := whole_cell h20 rfl
          have b3 : w20.frozen? ⟨gs, 3, none⟩ = false := whole_frozen h20 3
          have h21 := whole_set h20 3 (.slice ay ny cy)
          have t21 := Stirred.setCell w20 ⟨gs, 3, none⟩ (.slice ay ny cy)
          obtain ⟨w21, hw21⟩ : ∃ w21, w20.setCell ⟨gs, 3, none⟩ (.slice ay ny cy) = w21 := ⟨_, rfl⟩
          rw [hw21] at h21 t21
          have HS21 := Lib.hid (show w21.heap[gs]? = some (.cells (cells10 x.ip s.handler (.slice az nz cz) (.slice ay ny cy) vm s.out s.inp s.read s.status s.code) 50 (0, 0)) from h21)
          have T21 := Lib.hid (t20.trans t21 (fun k hk => .inl hk))
          have HR21 := Lib.hid (T21.out.whole HRy.out (fun hm => by have h1 : gr = gs := List.mem_singleton.1 hm; have h2 := NE.out; omega))
          clear h20 t20 h21 t21 HSy
          go_wp2_with (first
            | (refine ld_state (by rfl) _ rfl gs rfl _ _ HS21.out rfl ?_)
            | (refine st_state (by rfl) _ _ rfl gr _ rfl rfl _ _ HR21.out rfl rfl (all_one rfl rfl hm) ?_; intro wf hr ht; have HRF := Lib.hid hr; have HTF := Lib.hid ht; clear hr ht))
          refine bodyPost_ret (results_cell_row rfl _ _ gr _ _ _ _ rfl HRF.out Tryz.underlying50 rfl state_size) rfl ?_
          have TF := Lib.hid ((T21.out.more (cs := [gs, gr]) (fun k hk => by rw [List.mem_singleton.1 hk]; exact List.mem_cons_self)).trans (HTF.out.more (cs := [gs, gr]) (fun k hk => by rw [List.mem_singleton.1 hk]; exact List.mem_cons_of_mem _ List.mem_cons_self)) (fun k hk => .inl hk))
          have lo : ∀ k, k ∈ [gs, gr] → w.heap.size ≤ k ∧ k < w6.heap.size := fun k hk => by
            have h2 := NE.out
            have h3 := whole_lt HS6.out
            have h4 := whole_lt HR6.out
            rcases List.mem_cons.1 hk with e | e
            · rw [e]; exact ⟨by omega, h3⟩
            · rw [List.mem_singleton.1 e]; exact ⟨by omega, h4⟩
          have e1 : t.slots.toNat = ks := by rw [HK.out.1]; exact Int.toNat_natCast ks
          have e2 : t.backs.toNat = kb := by rw [HK.out.2.2.1]; exact Int.toNat_natCast kb
          refine ⟨_, _, by unfold leaveM; rfl, ?_, ?_, fun k e e' => ?_, HWy.out.trans (TF.out.below (fun k hk => (lo k hk).1) HWy.out.size)⟩
          · unfold leaveM less
            rw [e1, HNN.out.1, HMK.out.1]
            exact (HOS.out.touch TF.out (fun k e hm' => by have h1 := (HOS.out.block k e).1; have h2 := (lo k hm').2; omega)).from BW6.out.size
          · unfold leaveM less
            rw [e2, HNN.out.2, HMK.out.2]
            exact (HOB.out.touch TF.out (fun k e hm' => by have h1 := (HOB.out.block k e).1; have h2 := (lo k hm').2; have h3 := HBR.out.size; omega)).from (Nat.le_trans BW6.out.size HBR.out.size)
          · have h1 := (HO2.out.block k e).2.1
            have h2 := (HOB.out.block k e').1
            omega
end Go.Proofs.YtpecingkoodmfaaGreatDoor.Ev
