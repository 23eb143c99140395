
/- IrSame: the walk. -/
import Derived.Test.YtgdmhildmdfagaaDoorIrAlive
import Derived.Test.YtgdmhildmdfagaaDoorIrSameT
import Derived.Test.YtgdmhildmdfagaaDoorIrArg
import Derived.Test.YtgdmhildmdfagaaDoorIrRow
namespace Go.Proofs.YtgdmhildmdfagaaDoor.IrSame
open Go.RowKit Book Book.Wide Mem Ir
set_option linter.unusedSimpArgs false
set_option linter.unusedVariables false
def Yes (w : World) (e : Ending) (w' : World) : Prop := e = .returned (.bool true) ∧ Below w.heap.size w w'
/-- the place that a number leads to -/
theorem place {a : Int} {m : Nat} (hm : 0 < m) : ∃ k : Nat, (a.tmod (m : Int) + (m : Int)).tmod (m : Int) = (k : Int) ∧ k < m ∧ (-(m : Int) < a.tmod (m : Int) ∧ a.tmod (m : Int) < m) := by
  have h1 : -(m : Int) < a.tmod (m : Int) := Int.lt_tmod_of_pos a (by omega)
  have h2 : a.tmod (m : Int) < (m : Int) := Int.tmod_lt_of_pos a (by omega)
  have h3 : 0 ≤ (a.tmod (m : Int) + (m : Int)).tmod (m : Int) := Int.tmod_nonneg _ (by omega)
  have h4 : (a.tmod (m : Int) + (m : Int)).tmod (m : Int) < (m : Int) := Int.tmod_lt_of_pos _ (by omega)
  exact ⟨((a.tmod (m : Int) + (m : Int)).tmod (m : Int)).toNat, by omega, by omega, h1, h2⟩
theorem wrap_same {a v : Int} (ha : Cell.In a) (hv : Cell.In v) : wrap64 (a + v) = a ↔ v = 0 := by
  unfold Cell.In at ha hv
  unfold wrap64
  omega
set_option maxHeartbeats 16000000 in
set_option maxRecDepth 100000 in
theorem main (v : Value) (t : T) (a f x : Int) (W : World) (l0 : ReadsT W v t ∧ CT t) (wa : (Lit.int .i64 a).wf = true) (wf : (Lit.int .i64 f).wf = true) (wx : (Lit.int .i64 x).wf = true) (hT : Tabs W) :
    Calls Tryd.prog 4 #[v, .int .i64 a, .int .i64 f, .int .i64 x] W (Yes W) := by
  obtain ⟨⟨vi, vo, vc, rfl, hR⟩, hCT⟩ := l0
  obtain ⟨ai, ci, ao, co, ac, cc, rfl, rfl, rfl⟩ := hR.known
  obtain ⟨m, hm⟩ : ∃ m, t.ins.length = m := ⟨_, rfl⟩
  obtain ⟨no, hno⟩ : ∃ no, t.outs.length = no := ⟨_, rfl⟩
  obtain ⟨nc, hnc⟩ : ∃ nc, t.cells.length = nc := ⟨_, rfl⟩
  have HM := Lib.hid hm
  rw [hm, hno, hnc] at hR ⊢
  obtain ⟨w1, g, hw1, hg, HG, HB, HZ⟩ := newBox W (trA t (.slice ai m ci) (.slice ao no co) (.slice ac nc cc)) 26
  have HR := Lib.hid (hR.below HB.out)
  have HT := Lib.hid (hT.mono HB.out)
  have HCT := Lib.hid hCT
  have CL := Lib.hid (light_any HR.out)
  have AL := Lib.hid (fun wd (hb : Below w1.heap.size w1 wd) => alive_any wd (HT.out.mono hb))
  have HLS := Lib.hid (show lightT t = true → Small t from lightT_small)
  have ix := (Ir.in_wf wx)
  obtain ⟨c0, c1, c2, c3, c4, c5, c6, c7, c8⟩ := cells9 HG.out
  have HWX := Lib.hid ix
  obtain ⟨lt, hlt⟩ : ∃ lt, lightT t = lt := ⟨_, rfl⟩
  have HLT0 := Lib.hid (show lt = true → lightT t = true from fun h => by rw [hlt]; exact h)
  rw [hlt] at CL HLS
  have HS0 := Lib.hid (fun (s : T) (ui uo uc : Value) (wd : World) (hs : Small s) (h1 : ReadsL wd ui uo uc s) (h2 : Below w1.heap.size w1 wd) => same_any h1 (HR.out.below h2) hs)
  have HSS := Lib.hid (fun (s : T) (ui uo uc : Value) (wd : World) (hs : Small s) (h1 : ReadsL wd ui uo uc s) => show Calls Tryd.prog 9 #[trV s ui uo uc, trV s ui uo uc] wd (Says (.bool true) wd) from (same_any h1 h1 hs).mono fun e w' hh => ⟨by rw [hh.1, decide_eq_true (rfl : s = s)], hh.2⟩)
  have HCN := Lib.hid (show t.cells.length = nc from hnc)
  have HNO := Lib.hid (show t.outs.length = no from hno)
  obtain ⟨st, sl, bks, gr, gb, ins, outs, la, cells⟩ := t
  dsimp only at *
  clear hR hT hCT hm hno hnc hlt wa wf wx ix
  cases lt with
  | false =>
    go_enter Tryd.func4, Tryd.ntmps4
    go_wp2_with fail
    refine CL.out.mono ?_
    rintro e w2 ⟨rfl, hb⟩
    have D := Lib.hid (AL.out w2 hb)
    have HB2 := Lib.hid (HB.out.trans (hb.mono HB.out.size))
    clear hb
    go_wp2_with fail
    refine D.out.mono ?_
    rintro e w3 ⟨rfl, hb⟩
    have HB3 := Lib.hid (HB2.out.trans (hb.mono HB2.out.size))
    clear hb
    go_wp2
    go_ret
    exact ⟨rfl, HB3.out⟩
  | true =>
  have HSM := Lib.hid (HLS.out rfl)
  have HLT := Lib.hid (HLT0.out rfl)
  by_cases hm0 : m = 0
  · subst hm0
    go_enter Tryd.func4, Tryd.ntmps4
    go_wp2_with fail
    refine CL.out.mono ?_
    rintro e w2 ⟨rfl, hb⟩
    have D := Lib.hid (AL.out w2 hb)
    have HB2 := Lib.hid (HB.out.trans (hb.mono HB.out.size))
    obtain ⟨-, -, -, -, -, d5, -, -, -⟩ := cells9 (boxOn HG.out hb)
    clear hb
    go_wp2_with fail
    refine D.out.mono ?_
    rintro e w3 ⟨rfl, hb⟩
    have HB3 := Lib.hid (HB2.out.trans (hb.mono HB2.out.size))
    clear hb
    go_wp2
    go_ret
    exact ⟨rfl, HB3.out⟩
  have hmp : 0 < m := Nat.pos_of_ne_zero hm0
  have e0 : ((m : Int) == 0) = false := by rw [beq_eq_false_iff_ne]; omega
  have e1 : (m == 0) = false := by rw [beq_eq_false_iff_ne]; exact hm0
  have hm6 : m ≤ 1000000 := by rw [← HM.out]; exact HSM.out.ins
  obtain ⟨k, hk, hkm, hr1, hr2⟩ := place (a := a) hmp
  have r1 : IntKind.i64.wrap (a.tmod (m : Int)) = a.tmod (m : Int) := IntWalk.i64_in _ (by omega)
  have r2 : IntKind.i64.wrap (a.tmod (m : Int) + (m : Int)) = a.tmod (m : Int) + (m : Int) := IntWalk.i64_in _ (by omega)
  have r3 : IntKind.i64.wrap (k : Int) = (k : Int) := IntWalk.i64_in _ (by omega)
  have HK := Lib.hid hkm
  have hmi : ¬ (m : Int) = 0 := by omega
  have e2 : decide ((m : Int) = 0) = false := decide_eq_false hmi
  have e3 : decide (m = 0) = false := decide_eq_false hm0
  clear hr1 hr2 hmp hkm hm6
  go_enter Tryd.func4, Tryd.ntmps4
  go_wp2_with fail
  refine CL.out.mono ?_
  rintro e w2 ⟨rfl, hb⟩
  have D := Lib.hid (AL.out w2 hb)
  have HBX := Lib.hid hb
  have HB2 := Lib.hid (HB.out.trans (hb.mono HB.out.size))
  obtain ⟨-, -, -, -, -, d5, -, -, -⟩ := cells9 (boxOn HG.out hb)
  clear hb CL
  go_wp2_with fail
  refine D.out.mono ?_
  rintro e w3 ⟨rfl, hb⟩
  have HB3 := Lib.hid (HB2.out.trans (hb.mono HB2.out.size))
  have HBX := Lib.hid (HBX.out.trans (hb.mono HBX.out.size))
  obtain ⟨k0, k1, k2, k3, k4, k5, k6, k7, k8⟩ := cells9 (boxOn HG.out HBX.out)
  clear hb D AL c0 c1 c2 c3 c4 c5 c6 c7 c8 d5 hw1
  go_wp2_with fail
  go_quiet (fail)

  obtain ⟨w4, hw4⟩ : ∃ w4, w3.drewN nq = w4 := ⟨_, rfl⟩
  have hb34 : Below w3.heap.size w3 w4 := by rw [← hw4]; exact ⟨rfl, rfl, rfl, Nat.le_refl _, fun _ _ => rfl⟩
  have HBX := Lib.hid (HBX.out.trans (hb34.mono HBX.out.size))
  have HG4 := Lib.hid (boxOn HG.out HBX.out)
  obtain ⟨c0, c1, c2, c3, c4, c5, c6, c7, c8⟩ := cells9 HG4.out
  rw [hw4]
  obtain ⟨w5, gx, hw5, hgx, HZ5, HB5, HZL⟩ := newBox w4 zero9 26
  have HGL := Lib.hid (show g < w4.heap.size ∧ w4.heap.size = gx ∧ w1.heap.size ≤ w4.heap.size ∧ g < w1.heap.size from ⟨whole_lt HG4.out, HZL.out, HBX.out.size, whole_lt HG.out⟩)
  clear hb34 hw4 k0 k1 k2 k3 k4 k5 k6 k7 k8 e0 e1 e2 e3 hmi hk r1 r2 HB2
  go_upto_region 5 with (refine st_tr (by rfl) _ _ rfl gx #[.int .i64 st, .int .i64 sl, .int .i64 bks, .int .i64 gr, .int .i64 gb, .slice ai m ci, .slice ao no co, .int .i64 la, .slice ac nc cc] rfl rfl rfl _ rfl HZ5.out (by simp [Value.oneCell']) ?_; intro w6 h6 t6)
  have HX6 := Lib.hid h6
  have HB46 := Lib.hid (HB5.out.trans (t6.below (B := w4.heap.size) (fun k hk => by rw [List.mem_singleton.1 hk]; have := HGL.out; omega) HB5.out.size))
  have HBX := Lib.hid (HBX.out.trans (HB46.out.mono HBX.out.size))
  have HG6 := Lib.hid (boxOn HG.out HBX.out)
  have q5 : w6.cell? ⟨g, 5, none⟩ = some (.slice ai m ci) := whole_cell HG6.out rfl
  have HR6 := Lib.hid (HR.out.below HBX.out)
  obtain ⟨i0, q1, q2, q3, q4⟩ := info_parts Tryd.irInsInfo
  have HI := Lib.hid (And.intro q1 (And.intro q2 (And.intro q3 q4)))
  have HIL := Lib.hid (show (ins.flatMap insCells).length = m * 5 by rw [ins_len, HM.out])
  have HM6 := Lib.hid (show 0 < m ∧ m ≤ 1000000 from ⟨Nat.lt_of_le_of_lt (Nat.zero_le _) HK.out, by rw [← HM.out]; exact HSM.out.ins⟩)
  have HXG := Lib.hid (show g ≠ gx ∧ gx < w6.heap.size ∧ w1.heap.size ≤ gx by have h1 := HGL.out; have h2 := whole_lt HX6.out; omega)
  clear h6 t6 hw5 hgx q1 q2 q3 q4 c0 c1 c2 c3 c4 c5 c6 c7 c8
  go_wp2_with (refine Wide.wpList_append_reads rfl _ _ 22 rfl w1.heap.size 30 5 i0 (.agg #[.int .i64 0, .int .i64 0, .int .i64 0, .int .i64 0, .int .i64 0]) 40 Tryd.underlying22 HI.out.1 HI.out.2.1 HI.out.2.2.1 HI.out.2.2.2 rfl (by decide) (.slice none 0 0) 0 [] rfl (OwnsK.nil _ _ _ _) rfl (.slice ai m ci) m (ins.flatMap insCells) rfl HR6.out.ins.toK HIL.out ?d0 ?d1 ?d2 HBX.out.size ?_)
  case d0 => exact ins_one ins
  case d1 => have := HM6.out; unfold maxLen; omega
  case d2 => have := HM6.out; omega
  intro v' w7 hown _ hT7 hN7
  obtain ⟨gi, cap, hv', hcell, hfro, hcap⟩ := OwnsK.row (n := m) hown (by simpa using HIL.out) (by decide) HM6.out.1
  subst hv'
  have HO7 := Lib.hid (show OwnsK w7 w1.heap.size 30 5 (.slice (some ⟨gi, 0, none⟩) m cap) (ins.flatMap insCells) from by simpa using hown)
  have hbk : blk (.slice (some ⟨gi, 0, none⟩) m cap) = some gi := HO7.out.capAt (by rw [HIL.out]; have := HM6.out; omega)
  have HNI := Lib.hid (show gi ≠ gx ∧ gi ≠ g ∧ w1.heap.size ≤ gi by
    have h1 := HXG.out
    have h2 := HGL.out
    rcases hN7 with h | ⟨k, h, h3⟩
    · rw [hbk] at h; cases h
    · rw [hbk] at h
      obtain rfl := Option.some.inj h
      have h4 := HB46.out.size
      omega)
  have HB67 := Lib.hid (show Below w6.heap.size w6 w7 from hT7.below (fun k hk => by cases hk) (Nat.le_refl _))
  have HX7 := Lib.hid (boxOn HX6.out HB67.out)
  have HBK := Lib.hid hbk
  have HBX7 := Lib.hid (HBX.out.trans (HB67.out.mono HBX.out.size))
  clear hown hT7 hN7 hcell hfro hcap hbk q5
  obtain ⟨r, hr⟩ : ∃ r, bits .and .i64 f 3 = r := ⟨_, rfl⟩
  go_upto_region 6 with (refine wpList_setf (by rfl) _ _ _ rfl sz_cs gx 5 rfl (.slice (some ⟨gi, 0, none⟩) m cap) rfl rfl #[.int .i64 st, .int .i64 sl, .int .i64 bks, .int .i64 gr, .int .i64 gb, .slice ai m ci, .slice ao no co, .int .i64 la, .slice ac nc cc] _ HX7.out (by show 5 < 9; decide) ?_; intro w8 h8 t8)
  have HX8 := Lib.hid (show w8.heap[gx]? = some (.cells #[.int .i64 st, .int .i64 sl, .int .i64 bks, .int .i64 gr, .int .i64 gb, .slice (some ⟨gi, 0, none⟩) m cap, .slice ao no co, .int .i64 la, .slice ac nc cc] 26 (0, 0)) from h8)
  have HO8 := Lib.hid (show OwnsK w8 w1.heap.size 30 5 (.slice (some ⟨gi, 0, none⟩) m cap) (ins.flatMap insCells) from HO7.out.touch t8 (fun k hk hm => by rw [HBK.out] at hk; have h1 := HNI.out.1; rw [List.mem_singleton] at hm; exact h1 ((Option.some.inj hk).trans hm)))
  have HBX8 := Lib.hid (HBX7.out.trans (t8.below (B := w1.heap.size) (fun k hk => by rw [List.mem_singleton.1 hk]; exact HXG.out.2.2) HBX7.out.size))
  have HG8 := Lib.hid (boxOn HG.out HBX8.out)
  have HR8 := Lib.hid (HR.out.below HBX8.out)
  obtain ⟨⟨op, A, b, c, d⟩, hxk⟩ : ∃ q, ins[k]? = some q := ⟨_, List.getElem?_eq_getElem (by rw [HM.out]; exact HK.out)⟩
  have HXK := Lib.hid hxk
  have HCI := Lib.hid (HCT.out.ins _ (List.mem_of_getElem? hxk))
  clear h8 t8 hxk HX7 HO7 HX6 HR6 HG6 HG4 HB67 HBX7 HZ5 HB5
  have z0 : (0 : Int) ≤ (k : Int) := by omega
  have z1 : (k : Int) < (m : Int) := by have := HK.out; omega
  have p5 : w8.cell? ⟨gx, 5, none⟩ = some (.slice (some ⟨gi, 0, none⟩) m cap) := whole_cell HX8.out rfl
  by_cases s0 : r = 0
  · subst s0
    obtain ⟨hc, hf⟩ := ins_cell HO8.out HXK.out (i := 1) (u := .int .i64 A) rfl
    obtain ⟨q, hq⟩ : ∃ q, wrap64 (A + x) = q := ⟨_, rfl⟩
    have hq2 : IntKind.i64.wrap (A + x) = q := by rw [← hq, IntKind.wrap_i64]; unfold wrap64; omega
    have HQ := Lib.hid (show q = A ↔ x = 0 by rw [← hq]; exact wrap_same HCI.out.a HWX.out)
    have HO9 := Lib.hid (show OwnsK (w8.setCell ⟨gi, k * 5 + 1, none⟩ (.int .i64 q)) w1.heap.size 30 5 (.slice (some ⟨gi, 0, none⟩) m cap) ((ins.set k (op, q, b, c, d)).flatMap insCells) from by
      have h := HO8.out.stored (k * 5 + 1) (.int .i64 q)
      rw [flat_set (x' := (op, q, b, c, d)) HXK.out (by decide) rfl] at h
      exact h)
    have HS9 := Lib.hid (show Stirred w8 (w8.setCell ⟨gi, k * 5 + 1, none⟩ (.int .i64 q)) [gi] from Stirred.setCell w8 ⟨gi, k * 5 + 1, none⟩ (.int .i64 q))
    clear hq
    go_upto_region 15 with fail
    clear hc hf hq2 p5
    generalize w8.setCell ⟨gi, k * 5 + 1, none⟩ (.int .i64 q) = w9 at *
    have HX9 := Lib.hid (HS9.out.whole HX8.out (fun hm => HNI.out.1 (List.mem_singleton.1 hm).symm))
    have HBX9 := Lib.hid (HBX8.out.trans (HS9.out.below (B := w1.heap.size) (fun k hk => by rw [List.mem_singleton.1 hk]; exact HNI.out.2.2) HBX8.out.size))
    have HRX := Lib.hid (show ReadsL w9 (.slice (some ⟨gi, 0, none⟩) m cap) (.slice ao no co) (.slice ac nc cc) ⟨st, sl, bks, gr, gb, ins.set k (op, q, b, c, d), outs, la, cells⟩ from ⟨ReadsI.of_owns HO9.out, (HR.out.below HBX9.out).outs, (HR.out.below HBX9.out).cells⟩)
    have HSX := Lib.hid (show Small ⟨st, sl, bks, gr, gb, ins.set k (op, q, b, c, d), outs, la, cells⟩ from ⟨by show (ins.set k _).length ≤ 1000000; rw [List.length_set]; exact HSM.out.ins, HSM.out.outs, HSM.out.cells, HSM.out.stack⟩)
    have HEQ := Lib.hid (show decide ((⟨st, sl, bks, gr, gb, ins.set k (op, q, b, c, d), outs, la, cells⟩ : T) = ⟨st, sl, bks, gr, gb, ins, outs, la, cells⟩) = decide (x = 0) from decide_eq_decide.2 ⟨fun h => by
      have h1 : ins.set k (op, q, b, c, d) = ins := congrArg T.ins h
      have h2 : (ins.set k (op, q, b, c, d))[k]? = some (op, q, b, c, d) := by rw [List.getElem?_set_self (List.getElem?_eq_some_iff.1 HXK.out).1]
      rw [h1, HXK.out] at h2
      have h3 := Option.some.inj h2
      simp only [Prod.mk.injEq, true_and, and_true] at h3
      exact HQ.out.1 h3.symm, fun h => by
      have h3 : q = A := HQ.out.2 h
      have h2 : ins.set k (op, q, b, c, d) = ins := by
        rw [h3]
        refine List.ext_getElem? fun j => ?_
        rw [List.getElem?_set]
        split
        · rename_i e; subst e; rw [if_pos (List.getElem?_eq_some_iff.1 HXK.out).1, HXK.out]
        · rfl
      rw [h2]⟩)
    clear HS9 HO9 HX8 HO8 HG8 HR8
    have HB9 := Lib.hid (HB.out.trans (HBX9.out.mono HB.out.size))
    have HGa := Lib.hid (boxOn HG.out HBX9.out)
    obtain ⟨a0, a1, a2, a3, a4, a5, a6, a7, a8⟩ := cells9 (t := ⟨st, sl, bks, gr, gb, ins.set k (op, q, b, c, d), outs, la, cells⟩) HX9.out
    obtain ⟨b0, b1, b2, b3, b4, b5, b6, b7, b8⟩ := cells9 HGa.out
    have S1 := Lib.hid (HS0.out ⟨st, sl, bks, gr, gb, ins.set k (op, q, b, c, d), outs, la, cells⟩ _ _ _ w9 HSX.out HRX.out HBX9.out)
    have S2 := Lib.hid (fun w10 (hb : Below w9.heap.size w9 w10) => HSS.out ⟨st, sl, bks, gr, gb, ins.set k (op, q, b, c, d), outs, la, cells⟩ _ _ _ w10 HSX.out (HRX.out.below hb))
    have HXc := Lib.hid (fun w10 (hb : Below w9.heap.size w9 w10) => cells9 (t := ⟨st, sl, bks, gr, gb, ins.set k (op, q, b, c, d), outs, la, cells⟩) (boxOn HX9.out hb))
    rw [HEQ.out] at S1
    by_cases hv0 : x = 0
    · have e1 : (x == 0) = true := by rw [beq_iff_eq]; exact hv0
      rw [decide_eq_true hv0] at S1
      clear HEQ hv0
      go_wp2_with fail
      refine S1.out.mono ?_
      rintro e w10 ⟨rfl, hb⟩
      have T2 := Lib.hid (S2.out w10 hb)
      obtain ⟨a0, a1, a2, a3, a4, a5, a6, a7, a8⟩ := HXc.out w10 hb
      have HB10 := Lib.hid (HB9.out.trans (hb.mono HB9.out.size))
      clear hb S1 S2
      go_wp2_with fail
      refine T2.out.mono ?_
      rintro e w11 ⟨rfl, hb⟩
      have HB11 := Lib.hid (HB10.out.trans (hb.mono HB10.out.size))
      clear hb T2
      go_wp2
      go_ret
      exact ⟨rfl, HB11.out⟩
    · have e1 : (x == 0) = false := by rw [beq_eq_false_iff_ne]; exact hv0
      rw [decide_eq_false hv0] at S1
      clear HEQ hv0
      go_wp2_with fail
      refine S1.out.mono ?_
      rintro e w10 ⟨rfl, hb⟩
      have T2 := Lib.hid (S2.out w10 hb)
      obtain ⟨a0, a1, a2, a3, a4, a5, a6, a7, a8⟩ := HXc.out w10 hb
      have HB10 := Lib.hid (HB9.out.trans (hb.mono HB9.out.size))
      clear hb S1 S2
      go_wp2_with fail
      refine T2.out.mono ?_
      rintro e w11 ⟨rfl, hb⟩
      have HB11 := Lib.hid (HB10.out.trans (hb.mono HB10.out.size))
      clear hb T2
      go_wp2
      go_ret
      exact ⟨rfl, HB11.out⟩
  have n0 : (r == 0) = false := by rw [beq_eq_false_iff_ne]; exact s0
  by_cases s1 : r = 1
  · subst s1
    obtain ⟨hc, hf⟩ := ins_cell HO8.out HXK.out (i := 4) (u := .int .i64 d) rfl
    obtain ⟨q, hq⟩ : ∃ q, wrap64 (d + x) = q := ⟨_, rfl⟩
    have hq2 : IntKind.i64.wrap (d + x) = q := by rw [← hq, IntKind.wrap_i64]; unfold wrap64; omega
    have HQ := Lib.hid (show q = d ↔ x = 0 by rw [← hq]; exact wrap_same HCI.out.x HWX.out)
    have HO9 := Lib.hid (show OwnsK (w8.setCell ⟨gi, k * 5 + 4, none⟩ (.int .i64 q)) w1.heap.size 30 5 (.slice (some ⟨gi, 0, none⟩) m cap) ((ins.set k (op, A, b, c, q)).flatMap insCells) from by
      have h := HO8.out.stored (k * 5 + 4) (.int .i64 q)
      rw [flat_set (x' := (op, A, b, c, q)) HXK.out (by decide) rfl] at h
      exact h)
    have HS9 := Lib.hid (show Stirred w8 (w8.setCell ⟨gi, k * 5 + 4, none⟩ (.int .i64 q)) [gi] from Stirred.setCell w8 ⟨gi, k * 5 + 4, none⟩ (.int .i64 q))
    clear hq
    go_upto_region 15 with fail
    clear hc hf hq2 p5
    generalize w8.setCell ⟨gi, k * 5 + 4, none⟩ (.int .i64 q) = w9 at *
    have HX9 := Lib.hid (HS9.out.whole HX8.out (fun hm => HNI.out.1 (List.mem_singleton.1 hm).symm))
    have HBX9 := Lib.hid (HBX8.out.trans (HS9.out.below (B := w1.heap.size) (fun k hk => by rw [List.mem_singleton.1 hk]; exact HNI.out.2.2) HBX8.out.size))
    have HRX := Lib.hid (show ReadsL w9 (.slice (some ⟨gi, 0, none⟩) m cap) (.slice ao no co) (.slice ac nc cc) ⟨st, sl, bks, gr, gb, ins.set k (op, A, b, c, q), outs, la, cells⟩ from ⟨ReadsI.of_owns HO9.out, (HR.out.below HBX9.out).outs, (HR.out.below HBX9.out).cells⟩)
    have HSX := Lib.hid (show Small ⟨st, sl, bks, gr, gb, ins.set k (op, A, b, c, q), outs, la, cells⟩ from ⟨by show (ins.set k _).length ≤ 1000000; rw [List.length_set]; exact HSM.out.ins, HSM.out.outs, HSM.out.cells, HSM.out.stack⟩)
    have HEQ := Lib.hid (show decide ((⟨st, sl, bks, gr, gb, ins.set k (op, A, b, c, q), outs, la, cells⟩ : T) = ⟨st, sl, bks, gr, gb, ins, outs, la, cells⟩) = decide (x = 0) from decide_eq_decide.2 ⟨fun h => by
      have h1 : ins.set k (op, A, b, c, q) = ins := congrArg T.ins h
      have h2 : (ins.set k (op, A, b, c, q))[k]? = some (op, A, b, c, q) := by rw [List.getElem?_set_self (List.getElem?_eq_some_iff.1 HXK.out).1]
      rw [h1, HXK.out] at h2
      have h3 := Option.some.inj h2
      simp only [Prod.mk.injEq, true_and, and_true] at h3
      exact HQ.out.1 h3.symm, fun h => by
      have h3 : q = d := HQ.out.2 h
      have h2 : ins.set k (op, A, b, c, q) = ins := by
        rw [h3]
        refine List.ext_getElem? fun j => ?_
        rw [List.getElem?_set]
        split
        · rename_i e; subst e; rw [if_pos (List.getElem?_eq_some_iff.1 HXK.out).1, HXK.out]
        · rfl
      rw [h2]⟩)
    clear HS9 HO9 HX8 HO8 HG8 HR8
    have HB9 := Lib.hid (HB.out.trans (HBX9.out.mono HB.out.size))
    have HGa := Lib.hid (boxOn HG.out HBX9.out)
    obtain ⟨a0, a1, a2, a3, a4, a5, a6, a7, a8⟩ := cells9 (t := ⟨st, sl, bks, gr, gb, ins.set k (op, A, b, c, q), outs, la, cells⟩) HX9.out
    obtain ⟨b0, b1, b2, b3, b4, b5, b6, b7, b8⟩ := cells9 HGa.out
    have S1 := Lib.hid (HS0.out ⟨st, sl, bks, gr, gb, ins.set k (op, A, b, c, q), outs, la, cells⟩ _ _ _ w9 HSX.out HRX.out HBX9.out)
    have S2 := Lib.hid (fun w10 (hb : Below w9.heap.size w9 w10) => HSS.out ⟨st, sl, bks, gr, gb, ins.set k (op, A, b, c, q), outs, la, cells⟩ _ _ _ w10 HSX.out (HRX.out.below hb))
    have HXc := Lib.hid (fun w10 (hb : Below w9.heap.size w9 w10) => cells9 (t := ⟨st, sl, bks, gr, gb, ins.set k (op, A, b, c, q), outs, la, cells⟩) (boxOn HX9.out hb))
    rw [HEQ.out] at S1
    by_cases hv0 : x = 0
    · have e1 : (x == 0) = true := by rw [beq_iff_eq]; exact hv0
      rw [decide_eq_true hv0] at S1
      clear HEQ hv0
      go_wp2_with fail
      refine S1.out.mono ?_
      rintro e w10 ⟨rfl, hb⟩
      have T2 := Lib.hid (S2.out w10 hb)
      obtain ⟨a0, a1, a2, a3, a4, a5, a6, a7, a8⟩ := HXc.out w10 hb
      have HB10 := Lib.hid (HB9.out.trans (hb.mono HB9.out.size))
      clear hb S1 S2
      go_wp2_with fail
      refine T2.out.mono ?_
      rintro e w11 ⟨rfl, hb⟩
      have HB11 := Lib.hid (HB10.out.trans (hb.mono HB10.out.size))
      clear hb T2
      go_wp2
      go_ret
      exact ⟨rfl, HB11.out⟩
    · have e1 : (x == 0) = false := by rw [beq_eq_false_iff_ne]; exact hv0
      rw [decide_eq_false hv0] at S1
      clear HEQ hv0
      go_wp2_with fail
      refine S1.out.mono ?_
      rintro e w10 ⟨rfl, hb⟩
      have T2 := Lib.hid (S2.out w10 hb)
      obtain ⟨a0, a1, a2, a3, a4, a5, a6, a7, a8⟩ := HXc.out w10 hb
      have HB10 := Lib.hid (HB9.out.trans (hb.mono HB9.out.size))
      clear hb S1 S2
      go_wp2_with fail
      refine T2.out.mono ?_
      rintro e w11 ⟨rfl, hb⟩
      have HB11 := Lib.hid (HB10.out.trans (hb.mono HB10.out.size))
      clear hb T2
      go_wp2
      go_ret
      exact ⟨rfl, HB11.out⟩
  have n1 : (r == 1) = false := by rw [beq_eq_false_iff_ne]; exact s1
  by_cases s2 : r = 2
  · subst s2
    have p0 : w8.cell? ⟨gx, 0, none⟩ = some (.int .i64 st) := whole_cell HX8.out rfl
    obtain ⟨q, hq⟩ : ∃ q, wrap64 (st + x) = q := ⟨_, rfl⟩
    have hq2 : IntKind.i64.wrap (st + x) = q := by rw [← hq, IntKind.wrap_i64]; unfold wrap64; omega
    have HQ := Lib.hid (show q = st ↔ x = 0 by rw [← hq]; exact wrap_same HCT.out.start HWX.out)
    clear hq
    go_upto_region 15 with (refine wpList_setf (by rfl) _ _ _ rfl sz_i gx 0 rfl (.int .i64 q) rfl rfl #[.int .i64 st, .int .i64 sl, .int .i64 bks, .int .i64 gr, .int .i64 gb, .slice (some ⟨gi, 0, none⟩) m cap, .slice ao no co, .int .i64 la, .slice ac nc cc] _ HX8.out (by show 0 < 9; decide) ?_; intro w9 h9 t9)
    have HX9 := Lib.hid (show w9.heap[gx]? = some (.cells #[.int .i64 q, .int .i64 sl, .int .i64 bks, .int .i64 gr, .int .i64 gb, .slice (some ⟨gi, 0, none⟩) m cap, .slice ao no co, .int .i64 la, .slice ac nc cc] 26 (0, 0)) from h9)
    have HBX9 := Lib.hid (HBX8.out.trans (t9.below (B := w1.heap.size) (fun k hk => by rw [List.mem_singleton.1 hk]; exact HXG.out.2.2) HBX8.out.size))
    have HO9 := Lib.hid (show OwnsK w9 w1.heap.size 30 5 (.slice (some ⟨gi, 0, none⟩) m cap) (ins.flatMap insCells) from HO8.out.touch t9 (fun k hk hm => by rw [HBK.out] at hk; have h1 := HNI.out.1; rw [List.mem_singleton] at hm; exact h1 ((Option.some.inj hk).trans hm)))
    have HRX := Lib.hid (show ReadsL w9 (.slice (some ⟨gi, 0, none⟩) m cap) (.slice ao no co) (.slice ac nc cc) ⟨q, sl, bks, gr, gb, ins, outs, la, cells⟩ from ⟨ReadsI.of_owns HO9.out, (HR.out.below HBX9.out).outs, (HR.out.below HBX9.out).cells⟩)
    have HSX := Lib.hid (show Small ⟨q, sl, bks, gr, gb, ins, outs, la, cells⟩ from ⟨HSM.out.ins, HSM.out.outs, HSM.out.cells, HSM.out.stack⟩)
    have HEQ := Lib.hid (show decide ((⟨q, sl, bks, gr, gb, ins, outs, la, cells⟩ : T) = ⟨st, sl, bks, gr, gb, ins, outs, la, cells⟩) = decide (x = 0) from decide_eq_decide.2 ⟨fun h => HQ.out.1 (congrArg T.start h), fun h => by rw [HQ.out.2 h]⟩)
    clear h9 t9 HO9 HX8 HO8 HG8 HR8 p0 p5 hq2
    have HB9 := Lib.hid (HB.out.trans (HBX9.out.mono HB.out.size))
    have HGa := Lib.hid (boxOn HG.out HBX9.out)
    obtain ⟨a0, a1, a2, a3, a4, a5, a6, a7, a8⟩ := cells9 (t := ⟨q, sl, bks, gr, gb, ins, outs, la, cells⟩) HX9.out
    obtain ⟨b0, b1, b2, b3, b4, b5, b6, b7, b8⟩ := cells9 HGa.out
    have S1 := Lib.hid (HS0.out ⟨q, sl, bks, gr, gb, ins, outs, la, cells⟩ _ _ _ w9 HSX.out HRX.out HBX9.out)
    have S2 := Lib.hid (fun w10 (hb : Below w9.heap.size w9 w10) => HSS.out ⟨q, sl, bks, gr, gb, ins, outs, la, cells⟩ _ _ _ w10 HSX.out (HRX.out.below hb))
    have HXc := Lib.hid (fun w10 (hb : Below w9.heap.size w9 w10) => cells9 (t := ⟨q, sl, bks, gr, gb, ins, outs, la, cells⟩) (boxOn HX9.out hb))
    rw [HEQ.out] at S1
    by_cases hv0 : x = 0
    · have e1 : (x == 0) = true := by rw [beq_iff_eq]; exact hv0
      rw [decide_eq_true hv0] at S1
      clear HEQ hv0
      go_wp2_with fail
      refine S1.out.mono ?_
      rintro e w10 ⟨rfl, hb⟩
      have T2 := Lib.hid (S2.out w10 hb)
      obtain ⟨a0, a1, a2, a3, a4, a5, a6, a7, a8⟩ := HXc.out w10 hb
      have HB10 := Lib.hid (HB9.out.trans (hb.mono HB9.out.size))
      clear hb S1 S2
      go_wp2_with fail
      refine T2.out.mono ?_
      rintro e w11 ⟨rfl, hb⟩
      have HB11 := Lib.hid (HB10.out.trans (hb.mono HB10.out.size))
      clear hb T2
      go_wp2
      go_ret
      exact ⟨rfl, HB11.out⟩
    · have e1 : (x == 0) = false := by rw [beq_eq_false_iff_ne]; exact hv0
      rw [decide_eq_false hv0] at S1
      clear HEQ hv0
      go_wp2_with fail
      refine S1.out.mono ?_
      rintro e w10 ⟨rfl, hb⟩
      have T2 := Lib.hid (S2.out w10 hb)
      obtain ⟨a0, a1, a2, a3, a4, a5, a6, a7, a8⟩ := HXc.out w10 hb
      have HB10 := Lib.hid (HB9.out.trans (hb.mono HB9.out.size))
      clear hb S1 S2
      go_wp2_with fail
      refine T2.out.mono ?_
      rintro e w11 ⟨rfl, hb⟩
      have HB11 := Lib.hid (HB10.out.trans (hb.mono HB10.out.size))
      clear hb T2
      go_wp2
      go_ret
      exact ⟨rfl, HB11.out⟩
  have n2 : (r == 2) = false := by rw [beq_eq_false_iff_ne]; exact s2
  clear s0 s1 s2
  obtain ⟨j0, q1, q2, q3, q4⟩ := info_parts Tryd.irIntInfo
  have HJ := Lib.hid (And.intro q1 (And.intro q2 (And.intro q3 q4)))
  have HNC := Lib.hid (show nc ≤ 1000000 by rw [← HCN.out]; exact HSM.out.cells)
  have p8 : w8.cell? ⟨g, 8, none⟩ = some (.slice ac nc cc) := whole_cell HG8.out rfl
  clear q1 q2 q3 q4 p5
  go_wp2_with (at_builtin; refine wpList_append_reads _ rfl _ _ 24 rfl w1.heap.size 3 j0 (.int .i64 0) 8 Tryd.underlying24 HJ.out.1 HJ.out.2.1 HJ.out.2.2.1 HJ.out.2.2.2 rfl _ [] rfl (Owns.nil _ _ _) _ cells rfl HR8.out.cells ?f3 ?f4 HBX8.out.size ?_)
  case f3 => have h1 := HNC.out; have h2 := HCN.out; unfold maxLen; simp; omega
  case f4 => have h1 := HNC.out; have h2 := HCN.out; simp; omega
  intro v1 wa ho1 _ t1 n1
  have HV1 := Lib.hid (show Owns wa w1.heap.size 3 v1 (vals cells) from ho1)
  have HB8a := Lib.hid (show Below w8.heap.size w8 wa from t1.below (fun k hk => by cases hk) (Nat.le_refl _))
  have HN1 := Lib.hid (show ∀ k, blk v1 = some k → w8.heap.size ≤ k from fun k hk => by
    rcases n1 with h | ⟨k', h, h3⟩
    · rw [h] at hk; cases hk
    · rw [h] at hk; obtain rfl := Option.some.inj hk; exact h3)
  obtain ⟨vo, vcc, hv1⟩ := ho1.slice
  have hl1 : (vals cells).length = nc := by rw [vals_length]; exact HCN.out
  rw [hl1] at hv1
  subst hv1
  clear ho1 t1 n1 hl1 p8
  obtain ⟨wb, gl, hwb, hgl, HGL2, HBL, HZL2⟩ := newBox wa #[.int .i64 5] 3
  have HVb := Lib.hid (HV1.out.below HBL.out)
  have HRb := Lib.hid (show Reads wb (.slice (some ⟨gl, 0, none⟩) 1 1) [5] from one_int HGL2.out)
  have HBa := Lib.hid (HBX8.out.trans ((HB8a.out.trans (HBL.out.mono HB8a.out.size)).mono HBX8.out.size))
  have HXb := Lib.hid (boxOn HX8.out (HB8a.out.trans (HBL.out.mono HB8a.out.size)))
  have HOb := Lib.hid (HO8.out.below (HB8a.out.trans (HBL.out.mono HB8a.out.size)))
  have HX8L := Lib.hid (whole_lt HX8.out)
  have HI8L := Lib.hid (show gi < w8.heap.size from (HO8.out.block gi HBK.out).2.1)
  go_wp2_with (at_builtin; refine wpList_append_reads _ rfl _ _ 24 rfl w1.heap.size 3 j0 (.int .i64 0) 8 Tryd.underlying24 HJ.out.1 HJ.out.2.1 HJ.out.2.2.1 HJ.out.2.2.2 rfl _ (vals cells) rfl HVb.out _ [5] rfl HRb.out ?g3 ?g4 HBa.out.size ?_)
  case g3 => have h1 := HNC.out; have h2 := HCN.out; unfold maxLen; simp; omega
  case g4 => have h1 := HNC.out; have h2 := HCN.out; simp; omega
  intro v2 wc ho2 _ t2 n2
  have HV2 := Lib.hid (show Owns wc w1.heap.size 3 v2 (vals (cells ++ [5])) from by simpa [vals] using ho2)
  have HN2 := Lib.hid (show ∀ k, blk v2 = some k → w8.heap.size ≤ k from fun k hk => by
    rcases n2 with h | ⟨k', h, h3⟩
    · rw [h] at hk; exact HN1.out k hk
    · rw [h] at hk
      obtain rfl := Option.some.inj hk
      have h4 := HB8a.out.size
      have h5 := HBL.out.size
      omega)
  obtain ⟨vo2, vc2, hv2⟩ := HV2.out.slice
  have hl2 : (vals (cells ++ [5])).length = nc + 1 := by rw [vals_length, List.length_append, HCN.out]; rfl
  rw [hl2] at hv2
  subst hv2
  have hnot : ∀ k, blk (.slice vo nc vcc) = some k → k ≠ gx ∧ k ≠ gi := fun k hk => by
    have h1 := HN1.out k hk
    have h2 := HX8L.out
    have h3 := HI8L.out
    omega
  have HXc := Lib.hid (t2.whole HXb.out (fun hm => by
    have hm' := hm
    simp only [Option.mem_toList] at hm'
    exact (hnot gx hm').1 rfl))
  have HOc := Lib.hid (show OwnsK wc w1.heap.size 30 5 (.slice (some ⟨gi, 0, none⟩) m cap) (ins.flatMap insCells) from HOb.out.touch t2 (fun k hk hm => by
    rw [HBK.out] at hk
    obtain rfl := Option.some.inj hk
    simp only [Option.mem_toList] at hm
    exact (hnot _ hm).2 rfl))
  have HBc := Lib.hid (HBa.out.trans (t2.below (B := w1.heap.size) (fun k hk => by
    simp only [Option.mem_toList] at hk
    have h1 := HN1.out k hk
    have h2 := HBX8.out.size
    omega) HBa.out.size))
  clear ho2 t2 n2 hl2 hnot hwb hgl
  go_upto_region 8 with (refine wpList_setf (by rfl) _ _ _ rfl sz_is gx 8 rfl (.slice vo2 (nc + 1) vc2) rfl rfl #[.int .i64 st, .int .i64 sl, .int .i64 bks, .int .i64 gr, .int .i64 gb, .slice (some ⟨gi, 0, none⟩) m cap, .slice ao no co, .int .i64 la, .slice ac nc cc] _ HXc.out (by show 8 < 9; decide) ?_; intro w9 h9 t9)
  have HX9 := Lib.hid (show w9.heap[gx]? = some (.cells #[.int .i64 st, .int .i64 sl, .int .i64 bks, .int .i64 gr, .int .i64 gb, .slice (some ⟨gi, 0, none⟩) m cap, .slice ao no co, .int .i64 la, .slice vo2 (nc + 1) vc2] 26 (0, 0)) from h9)
  have HBX9 := Lib.hid (HBc.out.trans (t9.below (B := w1.heap.size) (fun k hk => by rw [List.mem_singleton.1 hk]; exact HXG.out.2.2) HBc.out.size))
  have HO9 := Lib.hid (show OwnsK w9 w1.heap.size 30 5 (.slice (some ⟨gi, 0, none⟩) m cap) (ins.flatMap insCells) from HOc.out.touch t9 (fun k hk hm => by rw [HBK.out] at hk; have h1 := HNI.out.1; rw [List.mem_singleton] at hm; exact h1 ((Option.some.inj hk).trans hm)))
  have HV9 := Lib.hid (show Owns w9 w1.heap.size 3 (.slice vo2 (nc + 1) vc2) (vals (cells ++ [5])) from HV2.out.touch t9 (fun k hk hm => by rw [List.mem_singleton] at hm; have h1 := HN2.out k hk; have h2 := HX8L.out; omega))
  have HRX := Lib.hid (show ReadsL w9 (.slice (some ⟨gi, 0, none⟩) m cap) (.slice ao no co) (.slice vo2 (nc + 1) vc2) ⟨st, sl, bks, gr, gb, ins, outs, la, cells ++ [5]⟩ from ⟨ReadsI.of_owns HO9.out, (HR.out.below HBX9.out).outs, Reads.of_owns HV9.out⟩)
  have HSX := Lib.hid (show Small ⟨st, sl, bks, gr, gb, ins, outs, la, cells ++ [5]⟩ from ⟨HSM.out.ins, HSM.out.outs, by show (cells ++ [5]).length ≤ 1000000; have h := (Ir.lightT_all HLT.out).2.2.1; rw [List.length_append]; show cells.length + 1 ≤ 1000000; have h : cells.length ≤ 100 := h; omega, HSM.out.stack⟩)
  have HEQ := Lib.hid (show decide ((⟨st, sl, bks, gr, gb, ins, outs, la, cells ++ [5]⟩ : T) = ⟨st, sl, bks, gr, gb, ins, outs, la, cells⟩) = false from decide_eq_false (fun h => by
    have h1 : cells ++ [5] = cells := congrArg T.cells h
    have h2 := congrArg List.length h1
    simp at h2))
  have HB9 := Lib.hid (HB.out.trans (HBX9.out.mono HB.out.size))
  have HGa := Lib.hid (boxOn HG.out HBX9.out)
  obtain ⟨a0, a1, a2, a3, a4, a5, a6, a7, a8⟩ := cells9 (t := ⟨st, sl, bks, gr, gb, ins, outs, la, cells ++ [5]⟩) HX9.out
  obtain ⟨b0, b1, b2, b3, b4, b5, b6, b7, b8⟩ := cells9 HGa.out
  have S1 := Lib.hid (HS0.out ⟨st, sl, bks, gr, gb, ins, outs, la, cells ++ [5]⟩ _ _ _ w9 HSX.out HRX.out HBX9.out)
  rw [HEQ.out] at S1
  have S2 := Lib.hid (fun w10 (hb : Below w1.heap.size w1 w10) => HSS.out ⟨st, sl, bks, gr, gb, ins, outs, la, cells⟩ _ _ _ w10 HSM.out (HR.out.below hb))
  clear h9 t9
  go_wp2_with fail
  refine S1.out.mono ?_
  rintro e w10 ⟨rfl, hb⟩
  have HBX10 := Lib.hid (HBX9.out.trans (hb.mono HBX9.out.size))
  have T2 := Lib.hid (S2.out w10 HBX10.out)
  obtain ⟨a0, a1, a2, a3, a4, a5, a6, a7, a8⟩ := cells9 (boxOn HG.out HBX10.out)
  have HB10 := Lib.hid (HB9.out.trans (hb.mono HB9.out.size))
  clear hb S1 S2
  go_wp2_with fail
  refine T2.out.mono ?_
  rintro e w11 ⟨rfl, hb⟩
  have HB11 := Lib.hid (HB10.out.trans (hb.mono HB10.out.size))
  clear hb T2
  go_wp2
  go_ret
  exact ⟨rfl, HB11.out⟩
end Go.Proofs.YtgdmhildmdfagaaDoor.IrSame
