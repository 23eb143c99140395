
/- IrSpoilt: the walk. -/
import Derived.Test.YtgdmhildmdfagaaDoorIrAlive
import Derived.Test.YtgdmhildmdfagaaDoorIrRefR
import Derived.Test.YtgdmhildmdfagaaDoorIrArg
import Derived.Test.YtgdmhildmdfagaaDoorIrRow
namespace Go.Proofs.YtgdmhildmdfagaaDoor.IrSpoilt
open Go.RowKit Book Book.Wide Mem Ir
set_option linter.unusedSimpArgs false
set_option linter.unusedVariables false
def Yes (w : World) (e : Ending) (w' : World) : Prop := e = .returned (.bool true) ∧ Below w.heap.size w w'
/-- the place that a number leads to -/
theorem place {a : Int} {m : Nat} (hm : 0 < m) : ∃ k : Nat, (a.tmod (m : Int) + (m : Int)).tmod (m : Int) = (k : Int) ∧ k < m ∧ (-(m : Int) < a.tmod (m : Int) ∧ a.tmod (m : Int) < m) := by
  have h1 : -(m : Int) < a.tmod (m : Int) := Int.lt_tmod_of_pos a (by omega)
  have h2 : a.tmod (m : Int) < (m : Int) := Int.tmod_lt_of_pos a (by omega)
  have h3 : 0 ≤ (a.tmod (m : Int) + (m : Int)).tmod (m : Int) := Int.tmod_nonneg _ (by omega)
  have h4 : (a.tmod (m : Int) + (m : Int)).tmod (m : Int) < (m : Int) := Int.tmod_lt_of_pos _ (by omega)
  exact ⟨((a.tmod (m : Int) + (m : Int)).tmod (m : Int)).toNat, by omega, by omega, h1, h2⟩
theorem and7 (x : Int) : 0 ≤ bits .and .i64 x 7 ∧ bits .and .i64 x 7 ≤ 7 := by
  rw [Cell.bits_and]
  have h : (BitVec.ofInt 64 x &&& BitVec.ofInt 64 7).toNat ≤ 7 := by
    rw [BitVec.toNat_and]
    exact Nat.le_trans Nat.and_le_right (by decide)
  rw [BitVec.toInt_eq_toNat_of_lt (by omega)]
  omega
theorem insFrom_no {t : T} {l : List I} {s k : Nat} {x : I} (h : l[k]? = some x) (hf : insOk t ((s + k : Nat) : Int) x = false) : insFrom t s l = false := by
  induction l generalizing s k with
  | nil => cases h
  | cons a r ih =>
    unfold insFrom
    cases k with
    | zero =>
      obtain rfl : a = x := by simpa using h
      rw [show ((s : Nat) : Int) = ((s + 0 : Nat) : Int) from rfl, hf, Bool.false_and]
    | succ k =>
      rw [ih (s := s + 1) (k := k) (by simpa using h) (by rw [show s + 1 + k = s + (k + 1) by omega]; exact hf), Bool.and_false]
/-- a guard that names a place that is not ahead of it -/
theorem must_no {t : T} {k : Nat} {B : Int} (h : t.ins[k]? = some (7, 0, B, 0, 0)) (hB : (k : Int) ≤ B) : rightT t = false := by
  have h1 : insOk t ((0 + k : Nat) : Int) (7, 0, B, 0, 0) = false := by
    rw [Nat.zero_add, insOk_parts]
    have h2 : known t.ins (usesL (7, 0, B, 0, 0)) (k : Int) = false := by
      show known t.ins [B] (k : Int) = false
      unfold known
      rw [List.all_cons, okP_no (by omega), Bool.false_and]
    rw [h2, Bool.and_false, Bool.false_and]
  rw [rightT_parts, insFrom_no h h1, Bool.false_and, Bool.and_false, Bool.and_false, Bool.and_false, Bool.and_false, Bool.and_false]
theorem both9 {w : World} {g h : Nat} {a0 a1 a2 a3 a4 a7 b0 b1 b2 b3 b4 b7 : Int} {a5 a6 a8 b5 b6 b8 : Value} (hg : w.heap[g]? = some (.cells #[.int .i64 a0, .int .i64 a1, .int .i64 a2, .int .i64 a3, .int .i64 a4, a5, a6, .int .i64 a7, a8] 26 (0, 0))) (hh : w.heap[h]? = some (.cells #[.int .i64 b0, .int .i64 b1, .int .i64 b2, .int .i64 b3, .int .i64 b4, b5, b6, .int .i64 b7, b8] 26 (0, 0))) :
    w.cell? ⟨g, 0, none⟩ = some (.int .i64 a0) ∧ w.cell? ⟨g, 1, none⟩ = some (.int .i64 a1) ∧ w.cell? ⟨g, 2, none⟩ = some (.int .i64 a2) ∧ w.cell? ⟨g, 3, none⟩ = some (.int .i64 a3) ∧ w.cell? ⟨g, 4, none⟩ = some (.int .i64 a4) ∧ w.cell? ⟨g, 5, none⟩ = some a5 ∧ w.cell? ⟨g, 6, none⟩ = some a6 ∧ w.cell? ⟨g, 7, none⟩ = some (.int .i64 a7) ∧ w.cell? ⟨g, 8, none⟩ = some a8 ∧
    w.cell? ⟨h, 0, none⟩ = some (.int .i64 b0) ∧ w.cell? ⟨h, 1, none⟩ = some (.int .i64 b1) ∧ w.cell? ⟨h, 2, none⟩ = some (.int .i64 b2) ∧ w.cell? ⟨h, 3, none⟩ = some (.int .i64 b3) ∧ w.cell? ⟨h, 4, none⟩ = some (.int .i64 b4) ∧ w.cell? ⟨h, 5, none⟩ = some b5 ∧ w.cell? ⟨h, 6, none⟩ = some b6 ∧ w.cell? ⟨h, 7, none⟩ = some (.int .i64 b7) ∧ w.cell? ⟨h, 8, none⟩ = some b8 :=
  ⟨whole_cell hg rfl, whole_cell hg rfl, whole_cell hg rfl, whole_cell hg rfl, whole_cell hg rfl, whole_cell hg rfl, whole_cell hg rfl, whole_cell hg rfl, whole_cell hg rfl, whole_cell hh rfl, whole_cell hh rfl, whole_cell hh rfl, whole_cell hh rfl, whole_cell hh rfl, whole_cell hh rfl, whole_cell hh rfl, whole_cell hh rfl, whole_cell hh rfl⟩
set_option maxHeartbeats 16000000 in
set_option maxRecDepth 100000 in
theorem main (v : Value) (t : T) (a f x : Int) (W : World) (l0 : ReadsT W v t ∧ CT t) (wa : (Lit.int .i64 a).wf = true) (wf : (Lit.int .i64 f).wf = true) (wx : (Lit.int .i64 x).wf = true) (hT : Tabs W) :
    Calls Tryd.prog 3 #[v, .int .i64 a, .int .i64 f, .int .i64 x] W (Yes W) := by
  obtain ⟨⟨vi, vo, vc, rfl, hR⟩, hCT⟩ := l0
  obtain ⟨ai, ci, ao, co, ac, cc, rfl, rfl, rfl⟩ := hR.known
  obtain ⟨m, hm⟩ : ∃ m, t.ins.length = m := ⟨_, rfl⟩
  obtain ⟨no, hno⟩ : ∃ no, t.outs.length = no := ⟨_, rfl⟩
  obtain ⟨nc, hnc⟩ : ∃ nc, t.cells.length = nc := ⟨_, rfl⟩
  have HM := Lib.hid hm
  rw [hm, hno, hnc] at hR ⊢
  obtain ⟨w1, g, hw1, hg, HG, HB, HZ⟩ := newBox W (trA t (.slice ai m ci) (.slice ao no co) (.slice ac nc cc)) 26
  have HR := Lib.hid (hR.below HB.out)
  have HT := Lib.hid (hT.mono HB.out)
  have HCT := Lib.hid hCT
  have CL := Lib.hid (light_any HR.out)
  have AL := Lib.hid (fun wd (hb : Below w1.heap.size w1 wd) => alive_any wd (HT.out.mono hb))
  have HLS := Lib.hid (show lightT t = true → Small t from lightT_small)
  have ix := (Ir.in_wf wx)
  obtain ⟨c0, c1, c2, c3, c4, c5, c6, c7, c8⟩ := cells9 HG.out
  have HWX := Lib.hid ix
  obtain ⟨lt, hlt⟩ : ∃ lt, lightT t = lt := ⟨_, rfl⟩
  have HLT0 := Lib.hid (show lt = true → lightT t = true from fun h => by rw [hlt]; exact h)
  rw [hlt] at CL HLS
  have HRT := Lib.hid (fun (s : T) (ui uo uc : Value) (wd : World) (hs : Small s) (h1 : ReadsL wd ui uo uc s) (h2 : Below w1.heap.size w1 wd) => right_any h1 hs (HT.out.names.mono h2))
  have HQT := Lib.hid (fun (s : T) (ui uo uc : Value) (wd : World) (hs : Small s) (h1 : ReadsL wd ui uo uc s) => rright_any h1 hs)
  have CQ := Lib.hid (fun (hs : Small t) (wd : World) (hb : Below w1.heap.size w1 wd) => rright_any (HR.out.below hb) hs)
  obtain ⟨rt, hrt⟩ : ∃ rt, rightT t = rt := ⟨_, rfl⟩
  have HRTT := Lib.hid hrt
  rw [hrt] at CQ
  clear hrt
  have HCN := Lib.hid (show t.cells.length = nc from hnc)
  have HNO := Lib.hid (show t.outs.length = no from hno)
  obtain ⟨st, sl, bks, gr, gb, ins, outs, la, cells⟩ := t
  dsimp only at *
  clear hR hT hCT hm hno hnc hlt wa wf wx ix
  cases lt with
  | false =>
    go_enter Tryd.func3, Tryd.ntmps3
    go_wp2_with fail
    refine CL.out.mono ?_
    rintro e w2 ⟨rfl, hb⟩
    have D := Lib.hid (AL.out w2 hb)
    have HB2 := Lib.hid (HB.out.trans (hb.mono HB.out.size))
    clear hb
    go_wp2_with fail
    refine D.out.mono ?_
    rintro e w3 ⟨rfl, hb⟩
    have HB3 := Lib.hid (HB2.out.trans (hb.mono HB2.out.size))
    clear hb
    go_wp2
    go_ret
    exact ⟨rfl, HB3.out⟩
  | true =>
  have HSM := Lib.hid (HLS.out rfl)
  have HLT := Lib.hid (HLT0.out rfl)
  by_cases hm0 : m = 0
  · subst hm0
    go_enter Tryd.func3, Tryd.ntmps3
    go_wp2_with fail
    refine CL.out.mono ?_
    rintro e w2 ⟨rfl, hb⟩
    have D := Lib.hid (AL.out w2 hb)
    have HB2 := Lib.hid (HB.out.trans (hb.mono HB.out.size))
    obtain ⟨-, -, -, -, -, d5, -, -, -⟩ := cells9 (boxOn HG.out hb)
    clear hb
    go_wp2_with fail
    refine D.out.mono ?_
    rintro e w3 ⟨rfl, hb⟩
    have HB3 := Lib.hid (HB2.out.trans (hb.mono HB2.out.size))
    clear hb
    go_wp2
    go_ret
    exact ⟨rfl, HB3.out⟩
  have e0 : ((m : Int) == 0) = false := by rw [beq_eq_false_iff_ne]; omega
  have e1 : (m == 0) = false := by rw [beq_eq_false_iff_ne]; exact hm0
  cases rt with
  | false =>
    go_enter Tryd.func3, Tryd.ntmps3
    go_wp2_with fail
    refine CL.out.mono ?_
    rintro e w2 ⟨rfl, hb⟩
    have HBX := Lib.hid hb
    have D := Lib.hid (CQ.out HSM.out w2 hb)
    have HB2 := Lib.hid (HB.out.trans (hb.mono HB.out.size))
    obtain ⟨d0, d1, d2, d3, d4, d5, d6, d7, d8⟩ := cells9 (boxOn HG.out hb)
    clear hb c0 c1 c2 c3 c4 c5 c6 c7 c8
    go_wp2_with fail
    refine D.out.mono ?_
    rintro e w3 ⟨rfl, hb⟩
    have E := Lib.hid (AL.out w3 (HBX.out.trans (hb.mono HBX.out.size)))
    have HB3 := Lib.hid (HB2.out.trans (hb.mono HB2.out.size))
    clear hb
    go_wp2_with fail
    refine E.out.mono ?_
    rintro e w4 ⟨rfl, hb⟩
    have HB4 := Lib.hid (HB3.out.trans (hb.mono HB3.out.size))
    clear hb
    go_wp2
    go_ret
    exact ⟨rfl, HB4.out⟩
  | true =>
  have hmp : 0 < m := Nat.pos_of_ne_zero hm0
  have hm6 : m ≤ 1000000 := by rw [← HM.out]; exact HSM.out.ins
  obtain ⟨k, hk, hkm, hr1, hr2⟩ := place (a := a) hmp
  have r1 : IntKind.i64.wrap (a.tmod (m : Int)) = a.tmod (m : Int) := IntWalk.i64_in _ (by omega)
  have r2 : IntKind.i64.wrap (a.tmod (m : Int) + (m : Int)) = a.tmod (m : Int) + (m : Int) := IntWalk.i64_in _ (by omega)
  have r3 : IntKind.i64.wrap (k : Int) = (k : Int) := IntWalk.i64_in _ (by omega)
  have HK := Lib.hid hkm
  have hmi : ¬ (m : Int) = 0 := by omega
  have e2 : decide ((m : Int) = 0) = false := decide_eq_false hmi
  have e3 : decide (m = 0) = false := decide_eq_false hm0
  clear hr1 hr2 hmp hkm hm6
  go_enter Tryd.func3, Tryd.ntmps3
  go_wp2_with fail
  refine CL.out.mono ?_
  rintro e w2 ⟨rfl, hb⟩
  have D := Lib.hid (CQ.out HSM.out w2 hb)
  have HBX := Lib.hid hb
  have HB2 := Lib.hid (HB.out.trans (hb.mono HB.out.size))
  obtain ⟨d0, d1, d2, d3, d4, d5, d6, d7, d8⟩ := cells9 (boxOn HG.out hb)
  clear hb CL c0 c1 c2 c3 c4 c5 c6 c7 c8
  go_wp2_with fail
  refine D.out.mono ?_
  rintro e wq ⟨rfl, hb⟩
  have HB2 := Lib.hid (HB2.out.trans (hb.mono HB2.out.size))
  have HBX := Lib.hid (HBX.out.trans (hb.mono HBX.out.size))
  have D := Lib.hid (AL.out wq HBX.out)
  clear hb CQ d0 d1 d2 d3 d4 d5 d6 d7 d8
  go_wp2_with fail
  refine D.out.mono ?_
  rintro e w3 ⟨rfl, hb⟩
  have HB3 := Lib.hid (HB2.out.trans (hb.mono HB2.out.size))
  have HBX := Lib.hid (HBX.out.trans (hb.mono HBX.out.size))
  obtain ⟨k0, k1, k2, k3, k4, k5, k6, k7, k8⟩ := cells9 (boxOn HG.out HBX.out)
  clear hb D AL hw1
  go_wp2_with fail
  go_quiet (fail)

  obtain ⟨w4, hw4⟩ : ∃ w4, w3.drewN nq = w4 := ⟨_, rfl⟩
  have hb34 : Below w3.heap.size w3 w4 := by rw [← hw4]; exact ⟨rfl, rfl, rfl, Nat.le_refl _, fun _ _ => rfl⟩
  have HBX := Lib.hid (HBX.out.trans (hb34.mono HBX.out.size))
  have HG4 := Lib.hid (boxOn HG.out HBX.out)
  obtain ⟨c0, c1, c2, c3, c4, c5, c6, c7, c8⟩ := cells9 HG4.out
  rw [hw4]
  obtain ⟨w5, gx, hw5, hgx, HZ5, HB5, HZL⟩ := newBox w4 zero9 26
  have HGL := Lib.hid (show g < w4.heap.size ∧ w4.heap.size = gx ∧ w1.heap.size ≤ w4.heap.size ∧ g < w1.heap.size from ⟨whole_lt HG4.out, HZL.out, HBX.out.size, whole_lt HG.out⟩)
  clear hb34 hw4 k0 k1 k2 k3 k4 k5 k6 k7 k8 e0 e1 e2 e3 hmi hk r1 r2 HB2
  go_upto_region 5 with (refine st_tr (by rfl) _ _ rfl gx #[.int .i64 st, .int .i64 sl, .int .i64 bks, .int .i64 gr, .int .i64 gb, .slice ai m ci, .slice ao no co, .int .i64 la, .slice ac nc cc] rfl rfl rfl _ rfl HZ5.out (by simp [Value.oneCell']) ?_; intro w6 h6 t6)
  have HX6 := Lib.hid h6
  have HB46 := Lib.hid (HB5.out.trans (t6.below (B := w4.heap.size) (fun k hk => by rw [List.mem_singleton.1 hk]; have := HGL.out; omega) HB5.out.size))
  have HBX := Lib.hid (HBX.out.trans (HB46.out.mono HBX.out.size))
  have HG6 := Lib.hid (boxOn HG.out HBX.out)
  have q5 : w6.cell? ⟨g, 5, none⟩ = some (.slice ai m ci) := whole_cell HG6.out rfl
  have HR6 := Lib.hid (HR.out.below HBX.out)
  obtain ⟨i0, q1, q2, q3, q4⟩ := info_parts Tryd.irInsInfo
  have HI := Lib.hid (And.intro q1 (And.intro q2 (And.intro q3 q4)))
  have HIL := Lib.hid (show (ins.flatMap insCells).length = m * 5 by rw [ins_len, HM.out])
  have HM6 := Lib.hid (show 0 < m ∧ m ≤ 1000000 from ⟨Nat.lt_of_le_of_lt (Nat.zero_le _) HK.out, by rw [← HM.out]; exact HSM.out.ins⟩)
  have HXG := Lib.hid (show g ≠ gx ∧ gx < w6.heap.size ∧ w1.heap.size ≤ gx by have h1 := HGL.out; have h2 := whole_lt HX6.out; omega)
  clear h6 t6 hw5 hgx q1 q2 q3 q4 c0 c1 c2 c3 c4 c5 c6 c7 c8
  go_wp2_with (refine Wide.wpList_append_reads rfl _ _ 22 rfl w1.heap.size 30 5 i0 (.agg #[.int .i64 0, .int .i64 0, .int .i64 0, .int .i64 0, .int .i64 0]) 40 Tryd.underlying22 HI.out.1 HI.out.2.1 HI.out.2.2.1 HI.out.2.2.2 rfl (by decide) (.slice none 0 0) 0 [] rfl (OwnsK.nil _ _ _ _) rfl (.slice ai m ci) m (ins.flatMap insCells) rfl HR6.out.ins.toK HIL.out ?d0 ?d1 ?d2 HBX.out.size ?_)
  case d0 => exact ins_one ins
  case d1 => have := HM6.out; unfold maxLen; omega
  case d2 => have := HM6.out; omega
  intro v' w7 hown _ hT7 hN7
  obtain ⟨gi, cap, hv', hcell, hfro, hcap⟩ := OwnsK.row (n := m) hown (by simpa using HIL.out) (by decide) HM6.out.1
  subst hv'
  have HO7 := Lib.hid (show OwnsK w7 w1.heap.size 30 5 (.slice (some ⟨gi, 0, none⟩) m cap) (ins.flatMap insCells) from by simpa using hown)
  have hbk : blk (.slice (some ⟨gi, 0, none⟩) m cap) = some gi := HO7.out.capAt (by rw [HIL.out]; have := HM6.out; omega)
  have HNI := Lib.hid (show gi ≠ gx ∧ gi ≠ g ∧ w1.heap.size ≤ gi by
    have h1 := HXG.out
    have h2 := HGL.out
    rcases hN7 with h | ⟨k, h, h3⟩
    · rw [hbk] at h; cases h
    · rw [hbk] at h
      obtain rfl := Option.some.inj h
      have h4 := HB46.out.size
      omega)
  have HB67 := Lib.hid (show Below w6.heap.size w6 w7 from hT7.below (fun k hk => by cases hk) (Nat.le_refl _))
  have HX7 := Lib.hid (boxOn HX6.out HB67.out)
  have HBK := Lib.hid hbk
  have HBX7 := Lib.hid (HBX.out.trans (HB67.out.mono HBX.out.size))
  clear hown hT7 hN7 hcell hfro hcap hbk q5
  obtain ⟨r, hr⟩ : ∃ r, bits .and .i64 f 7 = r := ⟨_, rfl⟩
  go_upto_region 6 with (refine wpList_setf (by rfl) _ _ _ rfl sz_cs gx 5 rfl (.slice (some ⟨gi, 0, none⟩) m cap) rfl rfl #[.int .i64 st, .int .i64 sl, .int .i64 bks, .int .i64 gr, .int .i64 gb, .slice ai m ci, .slice ao no co, .int .i64 la, .slice ac nc cc] _ HX7.out (by show 5 < 9; decide) ?_; intro w8 h8 t8)
  have HX8 := Lib.hid (show w8.heap[gx]? = some (.cells #[.int .i64 st, .int .i64 sl, .int .i64 bks, .int .i64 gr, .int .i64 gb, .slice (some ⟨gi, 0, none⟩) m cap, .slice ao no co, .int .i64 la, .slice ac nc cc] 26 (0, 0)) from h8)
  have HO8 := Lib.hid (show OwnsK w8 w1.heap.size 30 5 (.slice (some ⟨gi, 0, none⟩) m cap) (ins.flatMap insCells) from HO7.out.touch t8 (fun k hk hm => by rw [HBK.out] at hk; have h1 := HNI.out.1; rw [List.mem_singleton] at hm; exact h1 ((Option.some.inj hk).trans hm)))
  have HBX8 := Lib.hid (HBX7.out.trans (t8.below (B := w1.heap.size) (fun k hk => by rw [List.mem_singleton.1 hk]; exact HXG.out.2.2) HBX7.out.size))
  have HG8 := Lib.hid (boxOn HG.out HBX8.out)
  have HR8 := Lib.hid (HR.out.below HBX8.out)
  obtain ⟨⟨op, A, b, c, d⟩, hxk⟩ : ∃ q, ins[k]? = some q := ⟨_, List.getElem?_eq_getElem (by rw [HM.out]; exact HK.out)⟩
  have HXK := Lib.hid hxk
  have HCI := Lib.hid (HCT.out.ins _ (List.mem_of_getElem? hxk))
  clear h8 t8 hxk HX7 HO7 HX6 HR6 HG6 HG4 HB67 HBX7 HZ5 HB5
  have z0 : (0 : Int) ≤ (k : Int) := by omega
  have z1 : (k : Int) < (m : Int) := by have := HK.out; omega
  have p5 : w8.cell? ⟨gx, 5, none⟩ = some (.slice (some ⟨gi, 0, none⟩) m cap) := whole_cell HX8.out rfl
  by_cases s0 : r = 0
  · as_aux_lemma =>
    subst s0
    obtain ⟨hc, hf⟩ := ins_cell HO8.out HXK.out (i := 0) (u := .int .i64 op) rfl
    have HO9 := Lib.hid (show OwnsK (w8.setCell ⟨gi, k * 5, none⟩ (.int .i64 x)) w1.heap.size 30 5 (.slice (some ⟨gi, 0, none⟩) m cap) ((ins.set k (x, A, b, c, d)).flatMap insCells) from by
      have h := HO8.out.stored (k * 5 + 0) (.int .i64 x)
      rw [flat_set (x' := (x, A, b, c, d)) HXK.out (by decide) rfl] at h
      exact h)
    have HS9 := Lib.hid (show Stirred w8 (w8.setCell ⟨gi, k * 5, none⟩ (.int .i64 x)) [gi] from Stirred.setCell w8 ⟨gi, k * 5, none⟩ (.int .i64 x))
    rw [Nat.add_zero] at hc hf
    go_upto_region 24 with fail
    clear hc hf p5
    generalize w8.setCell ⟨gi, k * 5, none⟩ (.int .i64 x) = w9 at *
    have HX9 := Lib.hid (HS9.out.whole HX8.out (fun hm => HNI.out.1 (List.mem_singleton.1 hm).symm))
    have HBX9 := Lib.hid (HBX8.out.trans (HS9.out.below (B := w1.heap.size) (fun k hk => by rw [List.mem_singleton.1 hk]; exact HNI.out.2.2) HBX8.out.size))
    have HRX := Lib.hid (show ReadsL w9 (.slice (some ⟨gi, 0, none⟩) m cap) (.slice ao no co) (.slice ac nc cc) ⟨st, sl, bks, gr, gb, ins.set k (x, A, b, c, d), outs, la, cells⟩ from ⟨ReadsI.of_owns HO9.out, (HR.out.below HBX9.out).outs, (HR.out.below HBX9.out).cells⟩)
    have HSX := Lib.hid (show Small ⟨st, sl, bks, gr, gb, ins.set k (x, A, b, c, d), outs, la, cells⟩ from ⟨by show (ins.set k _).length ≤ 1000000; rw [List.length_set]; exact HSM.out.ins, HSM.out.outs, HSM.out.cells, HSM.out.stack⟩)
    clear HS9 HX8 HO8 HG8 HR8
    have HB9 := Lib.hid (HB.out.trans (HBX9.out.mono HB.out.size))
    have HGa := Lib.hid (boxOn HG.out HBX9.out)
    obtain ⟨bs, hbs⟩ : ∃ bs, rightT ⟨st, sl, bks, gr, gb, ins.set k (x, A, b, c, d), outs, la, cells⟩ = bs := ⟨_, rfl⟩
    have CA := Lib.hid (fun wd (hb : Below w9.heap.size w9 wd) => HRT.out ⟨st, sl, bks, gr, gb, ins.set k (x, A, b, c, d), outs, la, cells⟩ _ _ _ wd HSX.out (HRX.out.below hb) (HBX9.out.trans (hb.mono HBX9.out.size)))
    have CB := Lib.hid (fun wd (hb : Below w9.heap.size w9 wd) => HQT.out ⟨st, sl, bks, gr, gb, ins.set k (x, A, b, c, d), outs, la, cells⟩ _ _ _ wd HSX.out (HRX.out.below hb))
    have CT := Lib.hid (fun wd (hb : Below w9.heap.size w9 wd) => HRT.out ⟨st, sl, bks, gr, gb, ins, outs, la, cells⟩ _ _ _ wd HSM.out (HR.out.below (HBX9.out.trans (hb.mono HBX9.out.size))) (HBX9.out.trans (hb.mono HBX9.out.size)))
    rw [HRTT.out] at CT
    rw [hbs] at CA CB
    clear hbs
    have HBY := Lib.hid (show Below w9.heap.size w9 w9.drew from (Below.refl _ _).drew)
    have KX := Lib.hid (both9 (boxOn HX9.out HBY.out) (boxOn HGa.out HBY.out))
    go_upto_region 24 with fail
    refine wp_region_held (S := fun w' => w'.cell? ⟨gx, 0, none⟩ = some (.int .i64 st) ∧ w'.cell? ⟨gx, 1, none⟩ = some (.int .i64 sl) ∧ w'.cell? ⟨gx, 2, none⟩ = some (.int .i64 bks) ∧ w'.cell? ⟨gx, 3, none⟩ = some (.int .i64 gr) ∧ w'.cell? ⟨gx, 4, none⟩ = some (.int .i64 gb) ∧ w'.cell? ⟨gx, 5, none⟩ = some (.slice (some ⟨gi, 0, none⟩) m cap) ∧ w'.cell? ⟨gx, 6, none⟩ = some (.slice ao no co) ∧ w'.cell? ⟨gx, 7, none⟩ = some (.int .i64 la) ∧ w'.cell? ⟨gx, 8, none⟩ = some (.slice ac nc cc) ∧ w'.cell? ⟨g, 0, none⟩ = some (.int .i64 st) ∧ w'.cell? ⟨g, 1, none⟩ = some (.int .i64 sl) ∧ w'.cell? ⟨g, 2, none⟩ = some (.int .i64 bks) ∧ w'.cell? ⟨g, 3, none⟩ = some (.int .i64 gr) ∧ w'.cell? ⟨g, 4, none⟩ = some (.int .i64 gb) ∧ w'.cell? ⟨g, 5, none⟩ = some (.slice ai m ci) ∧ w'.cell? ⟨g, 6, none⟩ = some (.slice ao no co) ∧ w'.cell? ⟨g, 7, none⟩ = some (.int .i64 la) ∧ w'.cell? ⟨g, 8, none⟩ = some (.slice ac nc cc)) (by kernel_rfl) ?_
    change wpAnyH _ _ _ _ _ _ _ _ (World.drew w9)
    cases bs
    all_goals
      refine wpAnyH_take (i := 0) (oi := ⟨some 109, _, _, _, _, _⟩) (v := ?_) rfl (by kernel_rfl) (by kernel_rfl) (by kernel_rfl) (fun _ _ _ h => h) (Or.inl ⟨by rfl, ?_⟩) KX.out ?_; rotate_left; · intro w hSw; (try dsimp only at hSw); go_simp; try with_reducible rfl
      try simp only [Act.put, List.setIfInBounds_toArray, List.set_cons_zero, List.set_cons_succ]
      refine wpAnyH_take (i := 2) (oi := ⟨some 111, _, _, _, _, _⟩) (v := ?_) rfl (by kernel_rfl) (by kernel_rfl) (by kernel_rfl) (fun _ _ _ h => h) (Or.inl ⟨by rfl, ?_⟩) KX.out ?_; rotate_left; · intro w hSw; (try dsimp only at hSw); go_simp; try with_reducible rfl
      try simp only [Act.put, List.setIfInBounds_toArray, List.set_cons_zero, List.set_cons_succ]
      refine wpAnyH_ready (rs := [1]) (by kernel_rfl) (by simp) ?_
      refine AllReadyH.cons rfl (fun K hK => ?_) ?_
      rotate_left
      · exact AllReadyH.nil
      go_simp
      go_at_call 8
      refine (CA.out _ HBY.out).mono ?_
      rintro e wn ⟨rfl, hb⟩
      have HBY := Lib.hid (HBY.out.trans (hb.mono HBY.out.size))
      have KX := Lib.hid (both9 (boxOn HX9.out HBY.out) (boxOn HGa.out HBY.out))
      clear hb
      go_wp2_with fail
      refine hK.out _ _ KX.out (fun hHeld => ?_)
      clear hK K hHeld
      try simp only [Act.put, List.setIfInBounds_toArray, List.set_cons_zero, List.set_cons_succ]
      refine wpAnyH_ready (rs := [3]) (by kernel_rfl) (by simp) ?_
      refine AllReadyH.cons rfl (fun K hK => ?_) ?_
      rotate_left
      · exact AllReadyH.nil
      go_simp
      go_at_call 6
      refine (CB.out _ HBY.out).mono ?_
      rintro e wn ⟨rfl, hb⟩
      have HBY := Lib.hid (HBY.out.trans (hb.mono HBY.out.size))
      have KX := Lib.hid (both9 (boxOn HX9.out HBY.out) (boxOn HGa.out HBY.out))
      clear hb
      go_wp2_with fail
      refine hK.out _ _ KX.out (fun hHeld => ?_)
      clear hK K hHeld
      try simp only [Act.put, List.setIfInBounds_toArray, List.set_cons_zero, List.set_cons_succ]
      refine wpAnyH_take (i := 4) (oi := ⟨some 113, _, _, _, _, _⟩) (v := ?_) rfl (by kernel_rfl) (by kernel_rfl) (by kernel_rfl) (fun _ _ _ h => h) (Or.inl ⟨by rfl, ?_⟩) KX.out ?_; rotate_left; · intro w hSw; (try dsimp only at hSw); go_simp; try with_reducible rfl
      try simp only [Act.put, List.setIfInBounds_toArray, List.set_cons_zero, List.set_cons_succ]
      refine wpAnyH_take (i := 5) (oi := ⟨some 114, _, _, _, _, _⟩) (v := ?_) rfl (by kernel_rfl) (by kernel_rfl) (by kernel_rfl) (fun _ _ _ h => h) (Or.inl ⟨by rfl, ?_⟩) KX.out ?_; rotate_left; · intro w hSw; (try dsimp only at hSw); go_simp; try with_reducible rfl
      try simp only [Act.put, List.setIfInBounds_toArray, List.set_cons_zero, List.set_cons_succ]
      refine wpAnyH_take (i := 6) (oi := ⟨some 115, _, _, _, _, _⟩) (v := ?_) rfl (by kernel_rfl) (by kernel_rfl) (by kernel_rfl) (fun _ _ _ h => h) (Or.inl ⟨by rfl, ?_⟩) KX.out ?_; rotate_left; · intro w hSw; (try dsimp only at hSw); go_simp; try with_reducible rfl
      try simp only [Act.put, List.setIfInBounds_toArray, List.set_cons_zero, List.set_cons_succ]
      refine wpAnyH_ready (rs := [7]) (by kernel_rfl) (by simp) ?_
      refine AllReadyH.cons rfl (fun K hK => ?_) ?_
      rotate_left
      · exact AllReadyH.nil
      go_simp
      go_at_call 8
      refine (CT.out _ HBY.out).mono ?_
      rintro e wn ⟨rfl, hb⟩
      have HBY := Lib.hid (HBY.out.trans (hb.mono HBY.out.size))
      have KX := Lib.hid (both9 (boxOn HX9.out HBY.out) (boxOn HGa.out HBY.out))
      clear hb
      go_wp2_with fail
      refine hK.out _ _ KX.out (fun hHeld => ?_)
      clear hK K hHeld
      try simp only [Act.put, List.setIfInBounds_toArray, List.set_cons_zero, List.set_cons_succ]
      refine wpAnyH_take (i := 8) (oi := ⟨some 117, _, _, _, _, _⟩) (v := ?_) rfl (by kernel_rfl) (by kernel_rfl) (by kernel_rfl) (fun _ _ _ h => h) (Or.inl ⟨by rfl, ?_⟩) KX.out ?_; rotate_left; · intro w hSw; (try dsimp only at hSw); go_simp; try with_reducible rfl
      try simp only [Act.put, List.setIfInBounds_toArray, List.set_cons_zero, List.set_cons_succ]
      refine wpAnyH_take (i := 9) (oi := ⟨some 8, _, _, _, _, _⟩) (v := ?_) rfl (by kernel_rfl) (by kernel_rfl) (by kernel_rfl) (fun _ _ _ h => h) (Or.inl ⟨by rfl, ?_⟩) KX.out ?_; rotate_left; · intro w hSw; (try dsimp only at hSw); go_simp; try with_reducible rfl
      try simp only [Act.put, List.setIfInBounds_toArray, List.set_cons_zero, List.set_cons_succ]
      refine wpAnyH_done (by kernel_rfl) ?_ _
      go_wp2
      go_ret
      exact ⟨rfl, HB9.out.trans (HBY.out.mono HB9.out.size)⟩
  have n0 : (r == 0) = false := by rw [beq_eq_false_iff_ne]; exact s0
  by_cases s1 : r = 1
  · as_aux_lemma =>
    subst s1
    obtain ⟨hc, hf⟩ := ins_cell HO8.out HXK.out (i := 1) (u := .int .i64 A) rfl
    have HO9 := Lib.hid (show OwnsK (w8.setCell ⟨gi, k * 5 + 1, none⟩ (.int .i64 x)) w1.heap.size 30 5 (.slice (some ⟨gi, 0, none⟩) m cap) ((ins.set k (op, x, b, c, d)).flatMap insCells) from by
      have h := HO8.out.stored (k * 5 + 1) (.int .i64 x)
      rw [flat_set (x' := (op, x, b, c, d)) HXK.out (by decide) rfl] at h
      exact h)
    have HS9 := Lib.hid (show Stirred w8 (w8.setCell ⟨gi, k * 5 + 1, none⟩ (.int .i64 x)) [gi] from Stirred.setCell w8 ⟨gi, k * 5 + 1, none⟩ (.int .i64 x))
    go_upto_region 24 with fail
    clear hc hf p5
    generalize w8.setCell ⟨gi, k * 5 + 1, none⟩ (.int .i64 x) = w9 at *
    have HX9 := Lib.hid (HS9.out.whole HX8.out (fun hm => HNI.out.1 (List.mem_singleton.1 hm).symm))
    have HBX9 := Lib.hid (HBX8.out.trans (HS9.out.below (B := w1.heap.size) (fun k hk => by rw [List.mem_singleton.1 hk]; exact HNI.out.2.2) HBX8.out.size))
    have HRX := Lib.hid (show ReadsL w9 (.slice (some ⟨gi, 0, none⟩) m cap) (.slice ao no co) (.slice ac nc cc) ⟨st, sl, bks, gr, gb, ins.set k (op, x, b, c, d), outs, la, cells⟩ from ⟨ReadsI.of_owns HO9.out, (HR.out.below HBX9.out).outs, (HR.out.below HBX9.out).cells⟩)
    have HSX := Lib.hid (show Small ⟨st, sl, bks, gr, gb, ins.set k (op, x, b, c, d), outs, la, cells⟩ from ⟨by show (ins.set k _).length ≤ 1000000; rw [List.length_set]; exact HSM.out.ins, HSM.out.outs, HSM.out.cells, HSM.out.stack⟩)
    clear HS9 HX8 HO8 HG8 HR8
    have HB9 := Lib.hid (HB.out.trans (HBX9.out.mono HB.out.size))
    have HGa := Lib.hid (boxOn HG.out HBX9.out)
    obtain ⟨bs, hbs⟩ : ∃ bs, rightT ⟨st, sl, bks, gr, gb, ins.set k (op, x, b, c, d), outs, la, cells⟩ = bs := ⟨_, rfl⟩
    have CA := Lib.hid (fun wd (hb : Below w9.heap.size w9 wd) => HRT.out ⟨st, sl, bks, gr, gb, ins.set k (op, x, b, c, d), outs, la, cells⟩ _ _ _ wd HSX.out (HRX.out.below hb) (HBX9.out.trans (hb.mono HBX9.out.size)))
    have CB := Lib.hid (fun wd (hb : Below w9.heap.size w9 wd) => HQT.out ⟨st, sl, bks, gr, gb, ins.set k (op, x, b, c, d), outs, la, cells⟩ _ _ _ wd HSX.out (HRX.out.below hb))
    have CT := Lib.hid (fun wd (hb : Below w9.heap.size w9 wd) => HRT.out ⟨st, sl, bks, gr, gb, ins, outs, la, cells⟩ _ _ _ wd HSM.out (HR.out.below (HBX9.out.trans (hb.mono HBX9.out.size))) (HBX9.out.trans (hb.mono HBX9.out.size)))
    rw [HRTT.out] at CT
    rw [hbs] at CA CB
    clear hbs
    have HBY := Lib.hid (show Below w9.heap.size w9 w9.drew from (Below.refl _ _).drew)
    have KX := Lib.hid (both9 (boxOn HX9.out HBY.out) (boxOn HGa.out HBY.out))
    go_upto_region 24 with fail
    refine wp_region_held (S := fun w' => w'.cell? ⟨gx, 0, none⟩ = some (.int .i64 st) ∧ w'.cell? ⟨gx, 1, none⟩ = some (.int .i64 sl) ∧ w'.cell? ⟨gx, 2, none⟩ = some (.int .i64 bks) ∧ w'.cell? ⟨gx, 3, none⟩ = some (.int .i64 gr) ∧ w'.cell? ⟨gx, 4, none⟩ = some (.int .i64 gb) ∧ w'.cell? ⟨gx, 5, none⟩ = some (.slice (some ⟨gi, 0, none⟩) m cap) ∧ w'.cell? ⟨gx, 6, none⟩ = some (.slice ao no co) ∧ w'.cell? ⟨gx, 7, none⟩ = some (.int .i64 la) ∧ w'.cell? ⟨gx, 8, none⟩ = some (.slice ac nc cc) ∧ w'.cell? ⟨g, 0, none⟩ = some (.int .i64 st) ∧ w'.cell? ⟨g, 1, none⟩ = some (.int .i64 sl) ∧ w'.cell? ⟨g, 2, none⟩ = some (.int .i64 bks) ∧ w'.cell? ⟨g, 3, none⟩ = some (.int .i64 gr) ∧ w'.cell? ⟨g, 4, none⟩ = some (.int .i64 gb) ∧ w'.cell? ⟨g, 5, none⟩ = some (.slice ai m ci) ∧ w'.cell? ⟨g, 6, none⟩ = some (.slice ao no co) ∧ w'.cell? ⟨g, 7, none⟩ = some (.int .i64 la) ∧ w'.cell? ⟨g, 8, none⟩ = some (.slice ac nc cc)) (by kernel_rfl) ?_
    change wpAnyH _ _ _ _ _ _ _ _ (World.drew w9)
    cases bs
    all_goals
      refine wpAnyH_take (i := 0) (oi := ⟨some 109, _, _, _, _, _⟩) (v := ?_) rfl (by kernel_rfl) (by kernel_rfl) (by kernel_rfl) (fun _ _ _ h => h) (Or.inl ⟨by rfl, ?_⟩) KX.out ?_; rotate_left; · intro w hSw; (try dsimp only at hSw); go_simp; try with_reducible rfl
      try simp only [Act.put, List.setIfInBounds_toArray, List.set_cons_zero, List.set_cons_succ]
      refine wpAnyH_take (i := 2) (oi := ⟨some 111, _, _, _, _, _⟩) (v := ?_) rfl (by kernel_rfl) (by kernel_rfl) (by kernel_rfl) (fun _ _ _ h => h) (Or.inl ⟨by rfl, ?_⟩) KX.out ?_; rotate_left; · intro w hSw; (try dsimp only at hSw); go_simp; try with_reducible rfl
      try simp only [Act.put, List.setIfInBounds_toArray, List.set_cons_zero, List.set_cons_succ]
      refine wpAnyH_ready (rs := [1]) (by kernel_rfl) (by simp) ?_
      refine AllReadyH.cons rfl (fun K hK => ?_) ?_
      rotate_left
      · exact AllReadyH.nil
      go_simp
      go_at_call 8
      refine (CA.out _ HBY.out).mono ?_
      rintro e wn ⟨rfl, hb⟩
      have HBY := Lib.hid (HBY.out.trans (hb.mono HBY.out.size))
      have KX := Lib.hid (both9 (boxOn HX9.out HBY.out) (boxOn HGa.out HBY.out))
      clear hb
      go_wp2_with fail
      refine hK.out _ _ KX.out (fun hHeld => ?_)
      clear hK K hHeld
      try simp only [Act.put, List.setIfInBounds_toArray, List.set_cons_zero, List.set_cons_succ]
      refine wpAnyH_ready (rs := [3]) (by kernel_rfl) (by simp) ?_
      refine AllReadyH.cons rfl (fun K hK => ?_) ?_
      rotate_left
      · exact AllReadyH.nil
      go_simp
      go_at_call 6
      refine (CB.out _ HBY.out).mono ?_
      rintro e wn ⟨rfl, hb⟩
      have HBY := Lib.hid (HBY.out.trans (hb.mono HBY.out.size))
      have KX := Lib.hid (both9 (boxOn HX9.out HBY.out) (boxOn HGa.out HBY.out))
      clear hb
      go_wp2_with fail
      refine hK.out _ _ KX.out (fun hHeld => ?_)
      clear hK K hHeld
      try simp only [Act.put, List.setIfInBounds_toArray, List.set_cons_zero, List.set_cons_succ]
      refine wpAnyH_take (i := 4) (oi := ⟨some 113, _, _, _, _, _⟩) (v := ?_) rfl (by kernel_rfl) (by kernel_rfl) (by kernel_rfl) (fun _ _ _ h => h) (Or.inl ⟨by rfl, ?_⟩) KX.out ?_; rotate_left; · intro w hSw; (try dsimp only at hSw); go_simp; try with_reducible rfl
      try simp only [Act.put, List.setIfInBounds_toArray, List.set_cons_zero, List.set_cons_succ]
      refine wpAnyH_take (i := 5) (oi := ⟨some 114, _, _, _, _, _⟩) (v := ?_) rfl (by kernel_rfl) (by kernel_rfl) (by kernel_rfl) (fun _ _ _ h => h) (Or.inl ⟨by rfl, ?_⟩) KX.out ?_; rotate_left; · intro w hSw; (try dsimp only at hSw); go_simp; try with_reducible rfl
      try simp only [Act.put, List.setIfInBounds_toArray, List.set_cons_zero, List.set_cons_succ]
      refine wpAnyH_take (i := 6) (oi := ⟨some 115, _, _, _, _, _⟩) (v := ?_) rfl (by kernel_rfl) (by kernel_rfl) (by kernel_rfl) (fun _ _ _ h => h) (Or.inl ⟨by rfl, ?_⟩) KX.out ?_; rotate_left; · intro w hSw; (try dsimp only at hSw); go_simp; try with_reducible rfl
      try simp only [Act.put, List.setIfInBounds_toArray, List.set_cons_zero, List.set_cons_succ]
      refine wpAnyH_ready (rs := [7]) (by kernel_rfl) (by simp) ?_
      refine AllReadyH.cons rfl (fun K hK => ?_) ?_
      rotate_left
      · exact AllReadyH.nil
      go_simp
      go_at_call 8
      refine (CT.out _ HBY.out).mono ?_
      rintro e wn ⟨rfl, hb⟩
      have HBY := Lib.hid (HBY.out.trans (hb.mono HBY.out.size))
      have KX := Lib.hid (both9 (boxOn HX9.out HBY.out) (boxOn HGa.out HBY.out))
      clear hb
      go_wp2_with fail
      refine hK.out _ _ KX.out (fun hHeld => ?_)
      clear hK K hHeld
      try simp only [Act.put, List.setIfInBounds_toArray, List.set_cons_zero, List.set_cons_succ]
      refine wpAnyH_take (i := 8) (oi := ⟨some 117, _, _, _, _, _⟩) (v := ?_) rfl (by kernel_rfl) (by kernel_rfl) (by kernel_rfl) (fun _ _ _ h => h) (Or.inl ⟨by rfl, ?_⟩) KX.out ?_; rotate_left; · intro w hSw; (try dsimp only at hSw); go_simp; try with_reducible rfl
      try simp only [Act.put, List.setIfInBounds_toArray, List.set_cons_zero, List.set_cons_succ]
      refine wpAnyH_take (i := 9) (oi := ⟨some 8, _, _, _, _, _⟩) (v := ?_) rfl (by kernel_rfl) (by kernel_rfl) (by kernel_rfl) (fun _ _ _ h => h) (Or.inl ⟨by rfl, ?_⟩) KX.out ?_; rotate_left; · intro w hSw; (try dsimp only at hSw); go_simp; try with_reducible rfl
      try simp only [Act.put, List.setIfInBounds_toArray, List.set_cons_zero, List.set_cons_succ]
      refine wpAnyH_done (by kernel_rfl) ?_ _
      go_wp2
      go_ret
      exact ⟨rfl, HB9.out.trans (HBY.out.mono HB9.out.size)⟩
  have n1 : (r == 1) = false := by rw [beq_eq_false_iff_ne]; exact s1
  by_cases s2 : r = 2
  · as_aux_lemma =>
    subst s2
    obtain ⟨hc, hf⟩ := ins_cell HO8.out HXK.out (i := 2) (u := .int .i64 b) rfl
    have HO9 := Lib.hid (show OwnsK (w8.setCell ⟨gi, k * 5 + 2, none⟩ (.int .i64 x)) w1.heap.size 30 5 (.slice (some ⟨gi, 0, none⟩) m cap) ((ins.set k (op, A, x, c, d)).flatMap insCells) from by
      have h := HO8.out.stored (k * 5 + 2) (.int .i64 x)
      rw [flat_set (x' := (op, A, x, c, d)) HXK.out (by decide) rfl] at h
      exact h)
    have HS9 := Lib.hid (show Stirred w8 (w8.setCell ⟨gi, k * 5 + 2, none⟩ (.int .i64 x)) [gi] from Stirred.setCell w8 ⟨gi, k * 5 + 2, none⟩ (.int .i64 x))
    go_upto_region 24 with fail
    clear hc hf p5
    generalize w8.setCell ⟨gi, k * 5 + 2, none⟩ (.int .i64 x) = w9 at *
    have HX9 := Lib.hid (HS9.out.whole HX8.out (fun hm => HNI.out.1 (List.mem_singleton.1 hm).symm))
    have HBX9 := Lib.hid (HBX8.out.trans (HS9.out.below (B := w1.heap.size) (fun k hk => by rw [List.mem_singleton.1 hk]; exact HNI.out.2.2) HBX8.out.size))
    have HRX := Lib.hid (show ReadsL w9 (.slice (some ⟨gi, 0, none⟩) m cap) (.slice ao no co) (.slice ac nc cc) ⟨st, sl, bks, gr, gb, ins.set k (op, A, x, c, d), outs, la, cells⟩ from ⟨ReadsI.of_owns HO9.out, (HR.out.below HBX9.out).outs, (HR.out.below HBX9.out).cells⟩)
    have HSX := Lib.hid (show Small ⟨st, sl, bks, gr, gb, ins.set k (op, A, x, c, d), outs, la, cells⟩ from ⟨by show (ins.set k _).length ≤ 1000000; rw [List.length_set]; exact HSM.out.ins, HSM.out.outs, HSM.out.cells, HSM.out.stack⟩)
    clear HS9 HX8 HO8 HG8 HR8
    have HB9 := Lib.hid (HB.out.trans (HBX9.out.mono HB.out.size))
    have HGa := Lib.hid (boxOn HG.out HBX9.out)
    obtain ⟨bs, hbs⟩ : ∃ bs, rightT ⟨st, sl, bks, gr, gb, ins.set k (op, A, x, c, d), outs, la, cells⟩ = bs := ⟨_, rfl⟩
    have CA := Lib.hid (fun wd (hb : Below w9.heap.size w9 wd) => HRT.out ⟨st, sl, bks, gr, gb, ins.set k (op, A, x, c, d), outs, la, cells⟩ _ _ _ wd HSX.out (HRX.out.below hb) (HBX9.out.trans (hb.mono HBX9.out.size)))
    have CB := Lib.hid (fun wd (hb : Below w9.heap.size w9 wd) => HQT.out ⟨st, sl, bks, gr, gb, ins.set k (op, A, x, c, d), outs, la, cells⟩ _ _ _ wd HSX.out (HRX.out.below hb))
    have CT := Lib.hid (fun wd (hb : Below w9.heap.size w9 wd) => HRT.out ⟨st, sl, bks, gr, gb, ins, outs, la, cells⟩ _ _ _ wd HSM.out (HR.out.below (HBX9.out.trans (hb.mono HBX9.out.size))) (HBX9.out.trans (hb.mono HBX9.out.size)))
    rw [HRTT.out] at CT
    rw [hbs] at CA CB
    clear hbs
    have HBY := Lib.hid (show Below w9.heap.size w9 w9.drew from (Below.refl _ _).drew)
    have KX := Lib.hid (both9 (boxOn HX9.out HBY.out) (boxOn HGa.out HBY.out))
    go_upto_region 24 with fail
    refine wp_region_held (S := fun w' => w'.cell? ⟨gx, 0, none⟩ = some (.int .i64 st) ∧ w'.cell? ⟨gx, 1, none⟩ = some (.int .i64 sl) ∧ w'.cell? ⟨gx, 2, none⟩ = some (.int .i64 bks) ∧ w'.cell? ⟨gx, 3, none⟩ = some (.int .i64 gr) ∧ w'.cell? ⟨gx, 4, none⟩ = some (.int .i64 gb) ∧ w'.cell? ⟨gx, 5, none⟩ = some (.slice (some ⟨gi, 0, none⟩) m cap) ∧ w'.cell? ⟨gx, 6, none⟩ = some (.slice ao no co) ∧ w'.cell? ⟨gx, 7, none⟩ = some (.int .i64 la) ∧ w'.cell? ⟨gx, 8, none⟩ = some (.slice ac nc cc) ∧ w'.cell? ⟨g, 0, none⟩ = some (.int .i64 st) ∧ w'.cell? ⟨g, 1, none⟩ = some (.int .i64 sl) ∧ w'.cell? ⟨g, 2, none⟩ = some (.int .i64 bks) ∧ w'.cell? ⟨g, 3, none⟩ = some (.int .i64 gr) ∧ w'.cell? ⟨g, 4, none⟩ = some (.int .i64 gb) ∧ w'.cell? ⟨g, 5, none⟩ = some (.slice ai m ci) ∧ w'.cell? ⟨g, 6, none⟩ = some (.slice ao no co) ∧ w'.cell? ⟨g, 7, none⟩ = some (.int .i64 la) ∧ w'.cell? ⟨g, 8, none⟩ = some (.slice ac nc cc)) (by kernel_rfl) ?_
    change wpAnyH _ _ _ _ _ _ _ _ (World.drew w9)
    cases bs
    all_goals
      refine wpAnyH_take (i := 0) (oi := ⟨some 109, _, _, _, _, _⟩) (v := ?_) rfl (by kernel_rfl) (by kernel_rfl) (by kernel_rfl) (fun _ _ _ h => h) (Or.inl ⟨by rfl, ?_⟩) KX.out ?_; rotate_left; · intro w hSw; (try dsimp only at hSw); go_simp; try with_reducible rfl
      try simp only [Act.put, List.setIfInBounds_toArray, List.set_cons_zero, List.set_cons_succ]
      refine wpAnyH_take (i := 2) (oi := ⟨some 111, _, _, _, _, _⟩) (v := ?_) rfl (by kernel_rfl) (by kernel_rfl) (by kernel_rfl) (fun _ _ _ h => h) (Or.inl ⟨by rfl, ?_⟩) KX.out ?_; rotate_left; · intro w hSw; (try dsimp only at hSw); go_simp; try with_reducible rfl
      try simp only [Act.put, List.setIfInBounds_toArray, List.set_cons_zero, List.set_cons_succ]
      refine wpAnyH_ready (rs := [1]) (by kernel_rfl) (by simp) ?_
      refine AllReadyH.cons rfl (fun K hK => ?_) ?_
      rotate_left
      · exact AllReadyH.nil
      go_simp
      go_at_call 8
      refine (CA.out _ HBY.out).mono ?_
      rintro e wn ⟨rfl, hb⟩
      have HBY := Lib.hid (HBY.out.trans (hb.mono HBY.out.size))
      have KX := Lib.hid (both9 (boxOn HX9.out HBY.out) (boxOn HGa.out HBY.out))
      clear hb
      go_wp2_with fail
      refine hK.out _ _ KX.out (fun hHeld => ?_)
      clear hK K hHeld
      try simp only [Act.put, List.setIfInBounds_toArray, List.set_cons_zero, List.set_cons_succ]
      refine wpAnyH_ready (rs := [3]) (by kernel_rfl) (by simp) ?_
      refine AllReadyH.cons rfl (fun K hK => ?_) ?_
      rotate_left
      · exact AllReadyH.nil
      go_simp
      go_at_call 6
      refine (CB.out _ HBY.out).mono ?_
      rintro e wn ⟨rfl, hb⟩
      have HBY := Lib.hid (HBY.out.trans (hb.mono HBY.out.size))
      have KX := Lib.hid (both9 (boxOn HX9.out HBY.out) (boxOn HGa.out HBY.out))
      clear hb
      go_wp2_with fail
      refine hK.out _ _ KX.out (fun hHeld => ?_)
      clear hK K hHeld
      try simp only [Act.put, List.setIfInBounds_toArray, List.set_cons_zero, List.set_cons_succ]
      refine wpAnyH_take (i := 4) (oi := ⟨some 113, _, _, _, _, _⟩) (v := ?_) rfl (by kernel_rfl) (by kernel_rfl) (by kernel_rfl) (fun _ _ _ h => h) (Or.inl ⟨by rfl, ?_⟩) KX.out ?_; rotate_left; · intro w hSw; (try dsimp only at hSw); go_simp; try with_reducible rfl
      try simp only [Act.put, List.setIfInBounds_toArray, List.set_cons_zero, List.set_cons_succ]
      refine wpAnyH_take (i := 5) (oi := ⟨some 114, _, _, _, _, _⟩) (v := ?_) rfl (by kernel_rfl) (by kernel_rfl) (by kernel_rfl) (fun _ _ _ h => h) (Or.inl ⟨by rfl, ?_⟩) KX.out ?_; rotate_left; · intro w hSw; (try dsimp only at hSw); go_simp; try with_reducible rfl
      try simp only [Act.put, List.setIfInBounds_toArray, List.set_cons_zero, List.set_cons_succ]
      refine wpAnyH_take (i := 6) (oi := ⟨some 115, _, _, _, _, _⟩) (v := ?_) rfl (by kernel_rfl) (by kernel_rfl) (by kernel_rfl) (fun _ _ _ h => h) (Or.inl ⟨by rfl, ?_⟩) KX.out ?_; rotate_left; · intro w hSw; (try dsimp only at hSw); go_simp; try with_reducible rfl
      try simp only [Act.put, List.setIfInBounds_toArray, List.set_cons_zero, List.set_cons_succ]
      refine wpAnyH_ready (rs := [7]) (by kernel_rfl) (by simp) ?_
      refine AllReadyH.cons rfl (fun K hK => ?_) ?_
      rotate_left
      · exact AllReadyH.nil
      go_simp
      go_at_call 8
      refine (CT.out _ HBY.out).mono ?_
      rintro e wn ⟨rfl, hb⟩
      have HBY := Lib.hid (HBY.out.trans (hb.mono HBY.out.size))
      have KX := Lib.hid (both9 (boxOn HX9.out HBY.out) (boxOn HGa.out HBY.out))
      clear hb
      go_wp2_with fail
      refine hK.out _ _ KX.out (fun hHeld => ?_)
      clear hK K hHeld
      try simp only [Act.put, List.setIfInBounds_toArray, List.set_cons_zero, List.set_cons_succ]
      refine wpAnyH_take (i := 8) (oi := ⟨some 117, _, _, _, _, _⟩) (v := ?_) rfl (by kernel_rfl) (by kernel_rfl) (by kernel_rfl) (fun _ _ _ h => h) (Or.inl ⟨by rfl, ?_⟩) KX.out ?_; rotate_left; · intro w hSw; (try dsimp only at hSw); go_simp; try with_reducible rfl
      try simp only [Act.put, List.setIfInBounds_toArray, List.set_cons_zero, List.set_cons_succ]
      refine wpAnyH_take (i := 9) (oi := ⟨some 8, _, _, _, _, _⟩) (v := ?_) rfl (by kernel_rfl) (by kernel_rfl) (by kernel_rfl) (fun _ _ _ h => h) (Or.inl ⟨by rfl, ?_⟩) KX.out ?_; rotate_left; · intro w hSw; (try dsimp only at hSw); go_simp; try with_reducible rfl
      try simp only [Act.put, List.setIfInBounds_toArray, List.set_cons_zero, List.set_cons_succ]
      refine wpAnyH_done (by kernel_rfl) ?_ _
      go_wp2
      go_ret
      exact ⟨rfl, HB9.out.trans (HBY.out.mono HB9.out.size)⟩
  have n2 : (r == 2) = false := by rw [beq_eq_false_iff_ne]; exact s2
  by_cases s3 : r = 3
  · as_aux_lemma =>
    subst s3
    obtain ⟨hc, hf⟩ := ins_cell HO8.out HXK.out (i := 3) (u := .int .i64 c) rfl
    have HO9 := Lib.hid (show OwnsK (w8.setCell ⟨gi, k * 5 + 3, none⟩ (.int .i64 x)) w1.heap.size 30 5 (.slice (some ⟨gi, 0, none⟩) m cap) ((ins.set k (op, A, b, x, d)).flatMap insCells) from by
      have h := HO8.out.stored (k * 5 + 3) (.int .i64 x)
      rw [flat_set (x' := (op, A, b, x, d)) HXK.out (by decide) rfl] at h
      exact h)
    have HS9 := Lib.hid (show Stirred w8 (w8.setCell ⟨gi, k * 5 + 3, none⟩ (.int .i64 x)) [gi] from Stirred.setCell w8 ⟨gi, k * 5 + 3, none⟩ (.int .i64 x))
    go_upto_region 24 with fail
    clear hc hf p5
    generalize w8.setCell ⟨gi, k * 5 + 3, none⟩ (.int .i64 x) = w9 at *
    have HX9 := Lib.hid (HS9.out.whole HX8.out (fun hm => HNI.out.1 (List.mem_singleton.1 hm).symm))
    have HBX9 := Lib.hid (HBX8.out.trans (HS9.out.below (B := w1.heap.size) (fun k hk => by rw [List.mem_singleton.1 hk]; exact HNI.out.2.2) HBX8.out.size))
    have HRX := Lib.hid (show ReadsL w9 (.slice (some ⟨gi, 0, none⟩) m cap) (.slice ao no co) (.slice ac nc cc) ⟨st, sl, bks, gr, gb, ins.set k (op, A, b, x, d), outs, la, cells⟩ from ⟨ReadsI.of_owns HO9.out, (HR.out.below HBX9.out).outs, (HR.out.below HBX9.out).cells⟩)
    have HSX := Lib.hid (show Small ⟨st, sl, bks, gr, gb, ins.set k (op, A, b, x, d), outs, la, cells⟩ from ⟨by show (ins.set k _).length ≤ 1000000; rw [List.length_set]; exact HSM.out.ins, HSM.out.outs, HSM.out.cells, HSM.out.stack⟩)
    clear HS9 HX8 HO8 HG8 HR8
    have HB9 := Lib.hid (HB.out.trans (HBX9.out.mono HB.out.size))
    have HGa := Lib.hid (boxOn HG.out HBX9.out)
    obtain ⟨bs, hbs⟩ : ∃ bs, rightT ⟨st, sl, bks, gr, gb, ins.set k (op, A, b, x, d), outs, la, cells⟩ = bs := ⟨_, rfl⟩
    have CA := Lib.hid (fun wd (hb : Below w9.heap.size w9 wd) => HRT.out ⟨st, sl, bks, gr, gb, ins.set k (op, A, b, x, d), outs, la, cells⟩ _ _ _ wd HSX.out (HRX.out.below hb) (HBX9.out.trans (hb.mono HBX9.out.size)))
    have CB := Lib.hid (fun wd (hb : Below w9.heap.size w9 wd) => HQT.out ⟨st, sl, bks, gr, gb, ins.set k (op, A, b, x, d), outs, la, cells⟩ _ _ _ wd HSX.out (HRX.out.below hb))
    have CT := Lib.hid (fun wd (hb : Below w9.heap.size w9 wd) => HRT.out ⟨st, sl, bks, gr, gb, ins, outs, la, cells⟩ _ _ _ wd HSM.out (HR.out.below (HBX9.out.trans (hb.mono HBX9.out.size))) (HBX9.out.trans (hb.mono HBX9.out.size)))
    rw [HRTT.out] at CT
    rw [hbs] at CA CB
    clear hbs
    have HBY := Lib.hid (show Below w9.heap.size w9 w9.drew from (Below.refl _ _).drew)
    have KX := Lib.hid (both9 (boxOn HX9.out HBY.out) (boxOn HGa.out HBY.out))
    go_upto_region 24 with fail
    refine wp_region_held (S := fun w' => w'.cell? ⟨gx, 0, none⟩ = some (.int .i64 st) ∧ w'.cell? ⟨gx, 1, none⟩ = some (.int .i64 sl) ∧ w'.cell? ⟨gx, 2, none⟩ = some (.int .i64 bks) ∧ w'.cell? ⟨gx, 3, none⟩ = some (.int .i64 gr) ∧ w'.cell? ⟨gx, 4, none⟩ = some (.int .i64 gb) ∧ w'.cell? ⟨gx, 5, none⟩ = some (.slice (some ⟨gi, 0, none⟩) m cap) ∧ w'.cell? ⟨gx, 6, none⟩ = some (.slice ao no co) ∧ w'.cell? ⟨gx, 7, none⟩ = some (.int .i64 la) ∧ w'.cell? ⟨gx, 8, none⟩ = some (.slice ac nc cc) ∧ w'.cell? ⟨g, 0, none⟩ = some (.int .i64 st) ∧ w'.cell? ⟨g, 1, none⟩ = some (.int .i64 sl) ∧ w'.cell? ⟨g, 2, none⟩ = some (.int .i64 bks) ∧ w'.cell? ⟨g, 3, none⟩ = some (.int .i64 gr) ∧ w'.cell? ⟨g, 4, none⟩ = some (.int .i64 gb) ∧ w'.cell? ⟨g, 5, none⟩ = some (.slice ai m ci) ∧ w'.cell? ⟨g, 6, none⟩ = some (.slice ao no co) ∧ w'.cell? ⟨g, 7, none⟩ = some (.int .i64 la) ∧ w'.cell? ⟨g, 8, none⟩ = some (.slice ac nc cc)) (by kernel_rfl) ?_
    change wpAnyH _ _ _ _ _ _ _ _ (World.drew w9)
    cases bs
    all_goals
      refine wpAnyH_take (i := 0) (oi := ⟨some 109, _, _, _, _, _⟩) (v := ?_) rfl (by kernel_rfl) (by kernel_rfl) (by kernel_rfl) (fun _ _ _ h => h) (Or.inl ⟨by rfl, ?_⟩) KX.out ?_; rotate_left; · intro w hSw; (try dsimp only at hSw); go_simp; try with_reducible rfl
      try simp only [Act.put, List.setIfInBounds_toArray, List.set_cons_zero, List.set_cons_succ]
      refine wpAnyH_take (i := 2) (oi := ⟨some 111, _, _, _, _, _⟩) (v := ?_) rfl (by kernel_rfl) (by kernel_rfl) (by kernel_rfl) (fun _ _ _ h => h) (Or.inl ⟨by rfl, ?_⟩) KX.out ?_; rotate_left; · intro w hSw; (try dsimp only at hSw); go_simp; try with_reducible rfl
      try simp only [Act.put, List.setIfInBounds_toArray, List.set_cons_zero, List.set_cons_succ]
      refine wpAnyH_ready (rs := [1]) (by kernel_rfl) (by simp) ?_
      refine AllReadyH.cons rfl (fun K hK => ?_) ?_
      rotate_left
      · exact AllReadyH.nil
      go_simp
      go_at_call 8
      refine (CA.out _ HBY.out).mono ?_
      rintro e wn ⟨rfl, hb⟩
      have HBY := Lib.hid (HBY.out.trans (hb.mono HBY.out.size))
      have KX := Lib.hid (both9 (boxOn HX9.out HBY.out) (boxOn HGa.out HBY.out))
      clear hb
      go_wp2_with fail
      refine hK.out _ _ KX.out (fun hHeld => ?_)
      clear hK K hHeld
      try simp only [Act.put, List.setIfInBounds_toArray, List.set_cons_zero, List.set_cons_succ]
      refine wpAnyH_ready (rs := [3]) (by kernel_rfl) (by simp) ?_
      refine AllReadyH.cons rfl (fun K hK => ?_) ?_
      rotate_left
      · exact AllReadyH.nil
      go_simp
      go_at_call 6
      refine (CB.out _ HBY.out).mono ?_
      rintro e wn ⟨rfl, hb⟩
      have HBY := Lib.hid (HBY.out.trans (hb.mono HBY.out.size))
      have KX := Lib.hid (both9 (boxOn HX9.out HBY.out) (boxOn HGa.out HBY.out))
      clear hb
      go_wp2_with fail
      refine hK.out _ _ KX.out (fun hHeld => ?_)
      clear hK K hHeld
      try simp only [Act.put, List.setIfInBounds_toArray, List.set_cons_zero, List.set_cons_succ]
      refine wpAnyH_take (i := 4) (oi := ⟨some 113, _, _, _, _, _⟩) (v := ?_) rfl (by kernel_rfl) (by kernel_rfl) (by kernel_rfl) (fun _ _ _ h => h) (Or.inl ⟨by rfl, ?_⟩) KX.out ?_; rotate_left; · intro w hSw; (try dsimp only at hSw); go_simp; try with_reducible rfl
      try simp only [Act.put, List.setIfInBounds_toArray, List.set_cons_zero, List.set_cons_succ]
      refine wpAnyH_take (i := 5) (oi := ⟨some 114, _, _, _, _, _⟩) (v := ?_) rfl (by kernel_rfl) (by kernel_rfl) (by kernel_rfl) (fun _ _ _ h => h) (Or.inl ⟨by rfl, ?_⟩) KX.out ?_; rotate_left; · intro w hSw; (try dsimp only at hSw); go_simp; try with_reducible rfl
      try simp only [Act.put, List.setIfInBounds_toArray, List.set_cons_zero, List.set_cons_succ]
      refine wpAnyH_take (i := 6) (oi := ⟨some 115, _, _, _, _, _⟩) (v := ?_) rfl (by kernel_rfl) (by kernel_rfl) (by kernel_rfl) (fun _ _ _ h => h) (Or.inl ⟨by rfl, ?_⟩) KX.out ?_; rotate_left; · intro w hSw; (try dsimp only at hSw); go_simp; try with_reducible rfl
      try simp only [Act.put, List.setIfInBounds_toArray, List.set_cons_zero, List.set_cons_succ]
      refine wpAnyH_ready (rs := [7]) (by kernel_rfl) (by simp) ?_
      refine AllReadyH.cons rfl (fun K hK => ?_) ?_
      rotate_left
      · exact AllReadyH.nil
      go_simp
      go_at_call 8
      refine (CT.out _ HBY.out).mono ?_
      rintro e wn ⟨rfl, hb⟩
      have HBY := Lib.hid (HBY.out.trans (hb.mono HBY.out.size))
      have KX := Lib.hid (both9 (boxOn HX9.out HBY.out) (boxOn HGa.out HBY.out))
      clear hb
      go_wp2_with fail
      refine hK.out _ _ KX.out (fun hHeld => ?_)
      clear hK K hHeld
      try simp only [Act.put, List.setIfInBounds_toArray, List.set_cons_zero, List.set_cons_succ]
      refine wpAnyH_take (i := 8) (oi := ⟨some 117, _, _, _, _, _⟩) (v := ?_) rfl (by kernel_rfl) (by kernel_rfl) (by kernel_rfl) (fun _ _ _ h => h) (Or.inl ⟨by rfl, ?_⟩) KX.out ?_; rotate_left; · intro w hSw; (try dsimp only at hSw); go_simp; try with_reducible rfl
      try simp only [Act.put, List.setIfInBounds_toArray, List.set_cons_zero, List.set_cons_succ]
      refine wpAnyH_take (i := 9) (oi := ⟨some 8, _, _, _, _, _⟩) (v := ?_) rfl (by kernel_rfl) (by kernel_rfl) (by kernel_rfl) (fun _ _ _ h => h) (Or.inl ⟨by rfl, ?_⟩) KX.out ?_; rotate_left; · intro w hSw; (try dsimp only at hSw); go_simp; try with_reducible rfl
      try simp only [Act.put, List.setIfInBounds_toArray, List.set_cons_zero, List.set_cons_succ]
      refine wpAnyH_done (by kernel_rfl) ?_ _
      go_wp2
      go_ret
      exact ⟨rfl, HB9.out.trans (HBY.out.mono HB9.out.size)⟩
  have n3 : (r == 3) = false := by rw [beq_eq_false_iff_ne]; exact s3
  by_cases s4 : r = 4
  · as_aux_lemma =>
    subst s4
    obtain ⟨hc, hf⟩ := ins_cell HO8.out HXK.out (i := 4) (u := .int .i64 d) rfl
    have HO9 := Lib.hid (show OwnsK (w8.setCell ⟨gi, k * 5 + 4, none⟩ (.int .i64 x)) w1.heap.size 30 5 (.slice (some ⟨gi, 0, none⟩) m cap) ((ins.set k (op, A, b, c, x)).flatMap insCells) from by
      have h := HO8.out.stored (k * 5 + 4) (.int .i64 x)
      rw [flat_set (x' := (op, A, b, c, x)) HXK.out (by decide) rfl] at h
      exact h)
    have HS9 := Lib.hid (show Stirred w8 (w8.setCell ⟨gi, k * 5 + 4, none⟩ (.int .i64 x)) [gi] from Stirred.setCell w8 ⟨gi, k * 5 + 4, none⟩ (.int .i64 x))
    go_upto_region 24 with fail
    clear hc hf p5
    generalize w8.setCell ⟨gi, k * 5 + 4, none⟩ (.int .i64 x) = w9 at *
    have HX9 := Lib.hid (HS9.out.whole HX8.out (fun hm => HNI.out.1 (List.mem_singleton.1 hm).symm))
    have HBX9 := Lib.hid (HBX8.out.trans (HS9.out.below (B := w1.heap.size) (fun k hk => by rw [List.mem_singleton.1 hk]; exact HNI.out.2.2) HBX8.out.size))
    have HRX := Lib.hid (show ReadsL w9 (.slice (some ⟨gi, 0, none⟩) m cap) (.slice ao no co) (.slice ac nc cc) ⟨st, sl, bks, gr, gb, ins.set k (op, A, b, c, x), outs, la, cells⟩ from ⟨ReadsI.of_owns HO9.out, (HR.out.below HBX9.out).outs, (HR.out.below HBX9.out).cells⟩)
    have HSX := Lib.hid (show Small ⟨st, sl, bks, gr, gb, ins.set k (op, A, b, c, x), outs, la, cells⟩ from ⟨by show (ins.set k _).length ≤ 1000000; rw [List.length_set]; exact HSM.out.ins, HSM.out.outs, HSM.out.cells, HSM.out.stack⟩)
    clear HS9 HX8 HO8 HG8 HR8
    have HB9 := Lib.hid (HB.out.trans (HBX9.out.mono HB.out.size))
    have HGa := Lib.hid (boxOn HG.out HBX9.out)
    obtain ⟨bs, hbs⟩ : ∃ bs, rightT ⟨st, sl, bks, gr, gb, ins.set k (op, A, b, c, x), outs, la, cells⟩ = bs := ⟨_, rfl⟩
    have CA := Lib.hid (fun wd (hb : Below w9.heap.size w9 wd) => HRT.out ⟨st, sl, bks, gr, gb, ins.set k (op, A, b, c, x), outs, la, cells⟩ _ _ _ wd HSX.out (HRX.out.below hb) (HBX9.out.trans (hb.mono HBX9.out.size)))
    have CB := Lib.hid (fun wd (hb : Below w9.heap.size w9 wd) => HQT.out ⟨st, sl, bks, gr, gb, ins.set k (op, A, b, c, x), outs, la, cells⟩ _ _ _ wd HSX.out (HRX.out.below hb))
    have CT := Lib.hid (fun wd (hb : Below w9.heap.size w9 wd) => HRT.out ⟨st, sl, bks, gr, gb, ins, outs, la, cells⟩ _ _ _ wd HSM.out (HR.out.below (HBX9.out.trans (hb.mono HBX9.out.size))) (HBX9.out.trans (hb.mono HBX9.out.size)))
    rw [HRTT.out] at CT
    rw [hbs] at CA CB
    clear hbs
    have HBY := Lib.hid (show Below w9.heap.size w9 w9.drew from (Below.refl _ _).drew)
    have KX := Lib.hid (both9 (boxOn HX9.out HBY.out) (boxOn HGa.out HBY.out))
    go_upto_region 24 with fail
    refine wp_region_held (S := fun w' => w'.cell? ⟨gx, 0, none⟩ = some (.int .i64 st) ∧ w'.cell? ⟨gx, 1, none⟩ = some (.int .i64 sl) ∧ w'.cell? ⟨gx, 2, none⟩ = some (.int .i64 bks) ∧ w'.cell? ⟨gx, 3, none⟩ = some (.int .i64 gr) ∧ w'.cell? ⟨gx, 4, none⟩ = some (.int .i64 gb) ∧ w'.cell? ⟨gx, 5, none⟩ = some (.slice (some ⟨gi, 0, none⟩) m cap) ∧ w'.cell? ⟨gx, 6, none⟩ = some (.slice ao no co) ∧ w'.cell? ⟨gx, 7, none⟩ = some (.int .i64 la) ∧ w'.cell? ⟨gx, 8, none⟩ = some (.slice ac nc cc) ∧ w'.cell? ⟨g, 0, none⟩ = some (.int .i64 st) ∧ w'.cell? ⟨g, 1, none⟩ = some (.int .i64 sl) ∧ w'.cell? ⟨g, 2, none⟩ = some (.int .i64 bks) ∧ w'.cell? ⟨g, 3, none⟩ = some (.int .i64 gr) ∧ w'.cell? ⟨g, 4, none⟩ = some (.int .i64 gb) ∧ w'.cell? ⟨g, 5, none⟩ = some (.slice ai m ci) ∧ w'.cell? ⟨g, 6, none⟩ = some (.slice ao no co) ∧ w'.cell? ⟨g, 7, none⟩ = some (.int .i64 la) ∧ w'.cell? ⟨g, 8, none⟩ = some (.slice ac nc cc)) (by kernel_rfl) ?_
    change wpAnyH _ _ _ _ _ _ _ _ (World.drew w9)
    cases bs
    all_goals
      refine wpAnyH_take (i := 0) (oi := ⟨some 109, _, _, _, _, _⟩) (v := ?_) rfl (by kernel_rfl) (by kernel_rfl) (by kernel_rfl) (fun _ _ _ h => h) (Or.inl ⟨by rfl, ?_⟩) KX.out ?_; rotate_left; · intro w hSw; (try dsimp only at hSw); go_simp; try with_reducible rfl
      try simp only [Act.put, List.setIfInBounds_toArray, List.set_cons_zero, List.set_cons_succ]
      refine wpAnyH_take (i := 2) (oi := ⟨some 111, _, _, _, _, _⟩) (v := ?_) rfl (by kernel_rfl) (by kernel_rfl) (by kernel_rfl) (fun _ _ _ h => h) (Or.inl ⟨by rfl, ?_⟩) KX.out ?_; rotate_left; · intro w hSw; (try dsimp only at hSw); go_simp; try with_reducible rfl
      try simp only [Act.put, List.setIfInBounds_toArray, List.set_cons_zero, List.set_cons_succ]
      refine wpAnyH_ready (rs := [1]) (by kernel_rfl) (by simp) ?_
      refine AllReadyH.cons rfl (fun K hK => ?_) ?_
      rotate_left
      · exact AllReadyH.nil
      go_simp
      go_at_call 8
      refine (CA.out _ HBY.out).mono ?_
      rintro e wn ⟨rfl, hb⟩
      have HBY := Lib.hid (HBY.out.trans (hb.mono HBY.out.size))
      have KX := Lib.hid (both9 (boxOn HX9.out HBY.out) (boxOn HGa.out HBY.out))
      clear hb
      go_wp2_with fail
      refine hK.out _ _ KX.out (fun hHeld => ?_)
      clear hK K hHeld
      try simp only [Act.put, List.setIfInBounds_toArray, List.set_cons_zero, List.set_cons_succ]
      refine wpAnyH_ready (rs := [3]) (by kernel_rfl) (by simp) ?_
      refine AllReadyH.cons rfl (fun K hK => ?_) ?_
      rotate_left
      · exact AllReadyH.nil
      go_simp
      go_at_call 6
      refine (CB.out _ HBY.out).mono ?_
      rintro e wn ⟨rfl, hb⟩
      have HBY := Lib.hid (HBY.out.trans (hb.mono HBY.out.size))
      have KX := Lib.hid (both9 (boxOn HX9.out HBY.out) (boxOn HGa.out HBY.out))
      clear hb
      go_wp2_with fail
      refine hK.out _ _ KX.out (fun hHeld => ?_)
      clear hK K hHeld
      try simp only [Act.put, List.setIfInBounds_toArray, List.set_cons_zero, List.set_cons_succ]
      refine wpAnyH_take (i := 4) (oi := ⟨some 113, _, _, _, _, _⟩) (v := ?_) rfl (by kernel_rfl) (by kernel_rfl) (by kernel_rfl) (fun _ _ _ h => h) (Or.inl ⟨by rfl, ?_⟩) KX.out ?_; rotate_left; · intro w hSw; (try dsimp only at hSw); go_simp; try with_reducible rfl
      try simp only [Act.put, List.setIfInBounds_toArray, List.set_cons_zero, List.set_cons_succ]
      refine wpAnyH_take (i := 5) (oi := ⟨some 114, _, _, _, _, _⟩) (v := ?_) rfl (by kernel_rfl) (by kernel_rfl) (by kernel_rfl) (fun _ _ _ h => h) (Or.inl ⟨by rfl, ?_⟩) KX.out ?_; rotate_left; · intro w hSw; (try dsimp only at hSw); go_simp; try with_reducible rfl
      try simp only [Act.put, List.setIfInBounds_toArray, List.set_cons_zero, List.set_cons_succ]
      refine wpAnyH_take (i := 6) (oi := ⟨some 115, _, _, _, _, _⟩) (v := ?_) rfl (by kernel_rfl) (by kernel_rfl) (by kernel_rfl) (fun _ _ _ h => h) (Or.inl ⟨by rfl, ?_⟩) KX.out ?_; rotate_left; · intro w hSw; (try dsimp only at hSw); go_simp; try with_reducible rfl
      try simp only [Act.put, List.setIfInBounds_toArray, List.set_cons_zero, List.set_cons_succ]
      refine wpAnyH_ready (rs := [7]) (by kernel_rfl) (by simp) ?_
      refine AllReadyH.cons rfl (fun K hK => ?_) ?_
      rotate_left
      · exact AllReadyH.nil
      go_simp
      go_at_call 8
      refine (CT.out _ HBY.out).mono ?_
      rintro e wn ⟨rfl, hb⟩
      have HBY := Lib.hid (HBY.out.trans (hb.mono HBY.out.size))
      have KX := Lib.hid (both9 (boxOn HX9.out HBY.out) (boxOn HGa.out HBY.out))
      clear hb
      go_wp2_with fail
      refine hK.out _ _ KX.out (fun hHeld => ?_)
      clear hK K hHeld
      try simp only [Act.put, List.setIfInBounds_toArray, List.set_cons_zero, List.set_cons_succ]
      refine wpAnyH_take (i := 8) (oi := ⟨some 117, _, _, _, _, _⟩) (v := ?_) rfl (by kernel_rfl) (by kernel_rfl) (by kernel_rfl) (fun _ _ _ h => h) (Or.inl ⟨by rfl, ?_⟩) KX.out ?_; rotate_left; · intro w hSw; (try dsimp only at hSw); go_simp; try with_reducible rfl
      try simp only [Act.put, List.setIfInBounds_toArray, List.set_cons_zero, List.set_cons_succ]
      refine wpAnyH_take (i := 9) (oi := ⟨some 8, _, _, _, _, _⟩) (v := ?_) rfl (by kernel_rfl) (by kernel_rfl) (by kernel_rfl) (fun _ _ _ h => h) (Or.inl ⟨by rfl, ?_⟩) KX.out ?_; rotate_left; · intro w hSw; (try dsimp only at hSw); go_simp; try with_reducible rfl
      try simp only [Act.put, List.setIfInBounds_toArray, List.set_cons_zero, List.set_cons_succ]
      refine wpAnyH_done (by kernel_rfl) ?_ _
      go_wp2
      go_ret
      exact ⟨rfl, HB9.out.trans (HBY.out.mono HB9.out.size)⟩
  have n4 : (r == 4) = false := by rw [beq_eq_false_iff_ne]; exact s4
  by_cases s5 : r = 5
  · as_aux_lemma =>
    subst s5
    go_upto_region 24 with (refine wpList_setf (by rfl) _ _ _ rfl sz_i gx 7 rfl (.int .i64 x) rfl rfl #[.int .i64 st, .int .i64 sl, .int .i64 bks, .int .i64 gr, .int .i64 gb, .slice (some ⟨gi, 0, none⟩) m cap, .slice ao no co, .int .i64 la, .slice ac nc cc] _ HX8.out (by show 7 < 9; decide) ?_; intro w9 h9 t9)
    have HX9 := Lib.hid (show w9.heap[gx]? = some (.cells #[.int .i64 st, .int .i64 sl, .int .i64 bks, .int .i64 gr, .int .i64 gb, .slice (some ⟨gi, 0, none⟩) m cap, .slice ao no co, .int .i64 x, .slice ac nc cc] 26 (0, 0)) from h9)
    have HBX9 := Lib.hid (HBX8.out.trans (t9.below (B := w1.heap.size) (fun k hk => by rw [List.mem_singleton.1 hk]; exact HXG.out.2.2) HBX8.out.size))
    have HO9 := Lib.hid (show OwnsK w9 w1.heap.size 30 5 (.slice (some ⟨gi, 0, none⟩) m cap) (ins.flatMap insCells) from HO8.out.touch t9 (fun k hk hm => by rw [HBK.out] at hk; have h1 := HNI.out.1; rw [List.mem_singleton] at hm; exact h1 ((Option.some.inj hk).trans hm)))
    have HRX := Lib.hid (show ReadsL w9 (.slice (some ⟨gi, 0, none⟩) m cap) (.slice ao no co) (.slice ac nc cc) ⟨st, sl, bks, gr, gb, ins, outs, x, cells⟩ from ⟨ReadsI.of_owns HO9.out, (HR.out.below HBX9.out).outs, (HR.out.below HBX9.out).cells⟩)
    have HSX := Lib.hid (show Small ⟨st, sl, bks, gr, gb, ins, outs, x, cells⟩ from ⟨HSM.out.ins, HSM.out.outs, HSM.out.cells, HSM.out.stack⟩)
    clear h9 t9 HO9 HX8 HO8 HG8 HR8 p5
    have HB9 := Lib.hid (HB.out.trans (HBX9.out.mono HB.out.size))
    have HGa := Lib.hid (boxOn HG.out HBX9.out)
    obtain ⟨bs, hbs⟩ : ∃ bs, rightT ⟨st, sl, bks, gr, gb, ins, outs, x, cells⟩ = bs := ⟨_, rfl⟩
    have CA := Lib.hid (fun wd (hb : Below w9.heap.size w9 wd) => HRT.out ⟨st, sl, bks, gr, gb, ins, outs, x, cells⟩ _ _ _ wd HSX.out (HRX.out.below hb) (HBX9.out.trans (hb.mono HBX9.out.size)))
    have CB := Lib.hid (fun wd (hb : Below w9.heap.size w9 wd) => HQT.out ⟨st, sl, bks, gr, gb, ins, outs, x, cells⟩ _ _ _ wd HSX.out (HRX.out.below hb))
    have CT := Lib.hid (fun wd (hb : Below w9.heap.size w9 wd) => HRT.out ⟨st, sl, bks, gr, gb, ins, outs, la, cells⟩ _ _ _ wd HSM.out (HR.out.below (HBX9.out.trans (hb.mono HBX9.out.size))) (HBX9.out.trans (hb.mono HBX9.out.size)))
    rw [HRTT.out] at CT
    rw [hbs] at CA CB
    clear hbs
    have HBY := Lib.hid (show Below w9.heap.size w9 w9.drew from (Below.refl _ _).drew)
    have KX := Lib.hid (both9 (boxOn HX9.out HBY.out) (boxOn HGa.out HBY.out))
    go_upto_region 24 with fail
    refine wp_region_held (S := fun w' => w'.cell? ⟨gx, 0, none⟩ = some (.int .i64 st) ∧ w'.cell? ⟨gx, 1, none⟩ = some (.int .i64 sl) ∧ w'.cell? ⟨gx, 2, none⟩ = some (.int .i64 bks) ∧ w'.cell? ⟨gx, 3, none⟩ = some (.int .i64 gr) ∧ w'.cell? ⟨gx, 4, none⟩ = some (.int .i64 gb) ∧ w'.cell? ⟨gx, 5, none⟩ = some (.slice (some ⟨gi, 0, none⟩) m cap) ∧ w'.cell? ⟨gx, 6, none⟩ = some (.slice ao no co) ∧ w'.cell? ⟨gx, 7, none⟩ = some (.int .i64 x) ∧ w'.cell? ⟨gx, 8, none⟩ = some (.slice ac nc cc) ∧ w'.cell? ⟨g, 0, none⟩ = some (.int .i64 st) ∧ w'.cell? ⟨g, 1, none⟩ = some (.int .i64 sl) ∧ w'.cell? ⟨g, 2, none⟩ = some (.int .i64 bks) ∧ w'.cell? ⟨g, 3, none⟩ = some (.int .i64 gr) ∧ w'.cell? ⟨g, 4, none⟩ = some (.int .i64 gb) ∧ w'.cell? ⟨g, 5, none⟩ = some (.slice ai m ci) ∧ w'.cell? ⟨g, 6, none⟩ = some (.slice ao no co) ∧ w'.cell? ⟨g, 7, none⟩ = some (.int .i64 la) ∧ w'.cell? ⟨g, 8, none⟩ = some (.slice ac nc cc)) (by kernel_rfl) ?_
    change wpAnyH _ _ _ _ _ _ _ _ (World.drew w9)
    cases bs
    all_goals
      refine wpAnyH_take (i := 0) (oi := ⟨some 109, _, _, _, _, _⟩) (v := ?_) rfl (by kernel_rfl) (by kernel_rfl) (by kernel_rfl) (fun _ _ _ h => h) (Or.inl ⟨by rfl, ?_⟩) KX.out ?_; rotate_left; · intro w hSw; (try dsimp only at hSw); go_simp; try with_reducible rfl
      try simp only [Act.put, List.setIfInBounds_toArray, List.set_cons_zero, List.set_cons_succ]
      refine wpAnyH_take (i := 2) (oi := ⟨some 111, _, _, _, _, _⟩) (v := ?_) rfl (by kernel_rfl) (by kernel_rfl) (by kernel_rfl) (fun _ _ _ h => h) (Or.inl ⟨by rfl, ?_⟩) KX.out ?_; rotate_left; · intro w hSw; (try dsimp only at hSw); go_simp; try with_reducible rfl
      try simp only [Act.put, List.setIfInBounds_toArray, List.set_cons_zero, List.set_cons_succ]
      refine wpAnyH_ready (rs := [1]) (by kernel_rfl) (by simp) ?_
      refine AllReadyH.cons rfl (fun K hK => ?_) ?_
      rotate_left
      · exact AllReadyH.nil
      go_simp
      go_at_call 8
      refine (CA.out _ HBY.out).mono ?_
      rintro e wn ⟨rfl, hb⟩
      have HBY := Lib.hid (HBY.out.trans (hb.mono HBY.out.size))
      have KX := Lib.hid (both9 (boxOn HX9.out HBY.out) (boxOn HGa.out HBY.out))
      clear hb
      go_wp2_with fail
      refine hK.out _ _ KX.out (fun hHeld => ?_)
      clear hK K hHeld
      try simp only [Act.put, List.setIfInBounds_toArray, List.set_cons_zero, List.set_cons_succ]
      refine wpAnyH_ready (rs := [3]) (by kernel_rfl) (by simp) ?_
      refine AllReadyH.cons rfl (fun K hK => ?_) ?_
      rotate_left
      · exact AllReadyH.nil
      go_simp
      go_at_call 6
      refine (CB.out _ HBY.out).mono ?_
      rintro e wn ⟨rfl, hb⟩
      have HBY := Lib.hid (HBY.out.trans (hb.mono HBY.out.size))
      have KX := Lib.hid (both9 (boxOn HX9.out HBY.out) (boxOn HGa.out HBY.out))
      clear hb
      go_wp2_with fail
      refine hK.out _ _ KX.out (fun hHeld => ?_)
      clear hK K hHeld
      try simp only [Act.put, List.setIfInBounds_toArray, List.set_cons_zero, List.set_cons_succ]
      refine wpAnyH_take (i := 4) (oi := ⟨some 113, _, _, _, _, _⟩) (v := ?_) rfl (by kernel_rfl) (by kernel_rfl) (by kernel_rfl) (fun _ _ _ h => h) (Or.inl ⟨by rfl, ?_⟩) KX.out ?_; rotate_left; · intro w hSw; (try dsimp only at hSw); go_simp; try with_reducible rfl
      try simp only [Act.put, List.setIfInBounds_toArray, List.set_cons_zero, List.set_cons_succ]
      refine wpAnyH_take (i := 5) (oi := ⟨some 114, _, _, _, _, _⟩) (v := ?_) rfl (by kernel_rfl) (by kernel_rfl) (by kernel_rfl) (fun _ _ _ h => h) (Or.inl ⟨by rfl, ?_⟩) KX.out ?_; rotate_left; · intro w hSw; (try dsimp only at hSw); go_simp; try with_reducible rfl
      try simp only [Act.put, List.setIfInBounds_toArray, List.set_cons_zero, List.set_cons_succ]
      refine wpAnyH_take (i := 6) (oi := ⟨some 115, _, _, _, _, _⟩) (v := ?_) rfl (by kernel_rfl) (by kernel_rfl) (by kernel_rfl) (fun _ _ _ h => h) (Or.inl ⟨by rfl, ?_⟩) KX.out ?_; rotate_left; · intro w hSw; (try dsimp only at hSw); go_simp; try with_reducible rfl
      try simp only [Act.put, List.setIfInBounds_toArray, List.set_cons_zero, List.set_cons_succ]
      refine wpAnyH_ready (rs := [7]) (by kernel_rfl) (by simp) ?_
      refine AllReadyH.cons rfl (fun K hK => ?_) ?_
      rotate_left
      · exact AllReadyH.nil
      go_simp
      go_at_call 8
      refine (CT.out _ HBY.out).mono ?_
      rintro e wn ⟨rfl, hb⟩
      have HBY := Lib.hid (HBY.out.trans (hb.mono HBY.out.size))
      have KX := Lib.hid (both9 (boxOn HX9.out HBY.out) (boxOn HGa.out HBY.out))
      clear hb
      go_wp2_with fail
      refine hK.out _ _ KX.out (fun hHeld => ?_)
      clear hK K hHeld
      try simp only [Act.put, List.setIfInBounds_toArray, List.set_cons_zero, List.set_cons_succ]
      refine wpAnyH_take (i := 8) (oi := ⟨some 117, _, _, _, _, _⟩) (v := ?_) rfl (by kernel_rfl) (by kernel_rfl) (by kernel_rfl) (fun _ _ _ h => h) (Or.inl ⟨by rfl, ?_⟩) KX.out ?_; rotate_left; · intro w hSw; (try dsimp only at hSw); go_simp; try with_reducible rfl
      try simp only [Act.put, List.setIfInBounds_toArray, List.set_cons_zero, List.set_cons_succ]
      refine wpAnyH_take (i := 9) (oi := ⟨some 8, _, _, _, _, _⟩) (v := ?_) rfl (by kernel_rfl) (by kernel_rfl) (by kernel_rfl) (fun _ _ _ h => h) (Or.inl ⟨by rfl, ?_⟩) KX.out ?_; rotate_left; · intro w hSw; (try dsimp only at hSw); go_simp; try with_reducible rfl
      try simp only [Act.put, List.setIfInBounds_toArray, List.set_cons_zero, List.set_cons_succ]
      refine wpAnyH_done (by kernel_rfl) ?_ _
      go_wp2
      go_ret
      exact ⟨rfl, HB9.out.trans (HBY.out.mono HB9.out.size)⟩
  have n5 : (r == 5) = false := by rw [beq_eq_false_iff_ne]; exact s5
  by_cases s6 : r = 6
  · as_aux_lemma =>
    subst s6
    go_upto_region 24 with (refine wpList_setf (by rfl) _ _ _ rfl sz_i gx 1 rfl (.int .i64 x) rfl rfl #[.int .i64 st, .int .i64 sl, .int .i64 bks, .int .i64 gr, .int .i64 gb, .slice (some ⟨gi, 0, none⟩) m cap, .slice ao no co, .int .i64 la, .slice ac nc cc] _ HX8.out (by show 1 < 9; decide) ?_; intro w9 h9 t9)
    have HX9 := Lib.hid (show w9.heap[gx]? = some (.cells #[.int .i64 st, .int .i64 x, .int .i64 bks, .int .i64 gr, .int .i64 gb, .slice (some ⟨gi, 0, none⟩) m cap, .slice ao no co, .int .i64 la, .slice ac nc cc] 26 (0, 0)) from h9)
    have HBX9 := Lib.hid (HBX8.out.trans (t9.below (B := w1.heap.size) (fun k hk => by rw [List.mem_singleton.1 hk]; exact HXG.out.2.2) HBX8.out.size))
    have HO9 := Lib.hid (show OwnsK w9 w1.heap.size 30 5 (.slice (some ⟨gi, 0, none⟩) m cap) (ins.flatMap insCells) from HO8.out.touch t9 (fun k hk hm => by rw [HBK.out] at hk; have h1 := HNI.out.1; rw [List.mem_singleton] at hm; exact h1 ((Option.some.inj hk).trans hm)))
    have HRX := Lib.hid (show ReadsL w9 (.slice (some ⟨gi, 0, none⟩) m cap) (.slice ao no co) (.slice ac nc cc) ⟨st, x, bks, gr, gb, ins, outs, la, cells⟩ from ⟨ReadsI.of_owns HO9.out, (HR.out.below HBX9.out).outs, (HR.out.below HBX9.out).cells⟩)
    have HSX := Lib.hid (show Small ⟨st, x, bks, gr, gb, ins, outs, la, cells⟩ from ⟨HSM.out.ins, HSM.out.outs, HSM.out.cells, HSM.out.stack⟩)
    clear h9 t9 HO9 HX8 HO8 HG8 HR8 p5
    have HB9 := Lib.hid (HB.out.trans (HBX9.out.mono HB.out.size))
    have HGa := Lib.hid (boxOn HG.out HBX9.out)
    obtain ⟨bs, hbs⟩ : ∃ bs, rightT ⟨st, x, bks, gr, gb, ins, outs, la, cells⟩ = bs := ⟨_, rfl⟩
    have CA := Lib.hid (fun wd (hb : Below w9.heap.size w9 wd) => HRT.out ⟨st, x, bks, gr, gb, ins, outs, la, cells⟩ _ _ _ wd HSX.out (HRX.out.below hb) (HBX9.out.trans (hb.mono HBX9.out.size)))
    have CB := Lib.hid (fun wd (hb : Below w9.heap.size w9 wd) => HQT.out ⟨st, x, bks, gr, gb, ins, outs, la, cells⟩ _ _ _ wd HSX.out (HRX.out.below hb))
    have CT := Lib.hid (fun wd (hb : Below w9.heap.size w9 wd) => HRT.out ⟨st, sl, bks, gr, gb, ins, outs, la, cells⟩ _ _ _ wd HSM.out (HR.out.below (HBX9.out.trans (hb.mono HBX9.out.size))) (HBX9.out.trans (hb.mono HBX9.out.size)))
    rw [HRTT.out] at CT
    rw [hbs] at CA CB
    clear hbs
    have HBY := Lib.hid (show Below w9.heap.size w9 w9.drew from (Below.refl _ _).drew)
    have KX := Lib.hid (both9 (boxOn HX9.out HBY.out) (boxOn HGa.out HBY.out))
    go_upto_region 24 with fail
    refine wp_region_held (S := fun w' => w'.cell? ⟨gx, 0, none⟩ = some (.int .i64 st) ∧ w'.cell? ⟨gx, 1, none⟩ = some (.int .i64 x) ∧ w'.cell? ⟨gx, 2, none⟩ = some (.int .i64 bks) ∧ w'.cell? ⟨gx, 3, none⟩ = some (.int .i64 gr) ∧ w'.cell? ⟨gx, 4, none⟩ = some (.int .i64 gb) ∧ w'.cell? ⟨gx, 5, none⟩ = some (.slice (some ⟨gi, 0, none⟩) m cap) ∧ w'.cell? ⟨gx, 6, none⟩ = some (.slice ao no co) ∧ w'.cell? ⟨gx, 7, none⟩ = some (.int .i64 la) ∧ w'.cell? ⟨gx, 8, none⟩ = some (.slice ac nc cc) ∧ w'.cell? ⟨g, 0, none⟩ = some (.int .i64 st) ∧ w'.cell? ⟨g, 1, none⟩ = some (.int .i64 sl) ∧ w'.cell? ⟨g, 2, none⟩ = some (.int .i64 bks) ∧ w'.cell? ⟨g, 3, none⟩ = some (.int .i64 gr) ∧ w'.cell? ⟨g, 4, none⟩ = some (.int .i64 gb) ∧ w'.cell? ⟨g, 5, none⟩ = some (.slice ai m ci) ∧ w'.cell? ⟨g, 6, none⟩ = some (.slice ao no co) ∧ w'.cell? ⟨g, 7, none⟩ = some (.int .i64 la) ∧ w'.cell? ⟨g, 8, none⟩ = some (.slice ac nc cc)) (by kernel_rfl) ?_
    change wpAnyH _ _ _ _ _ _ _ _ (World.drew w9)
    cases bs
    all_goals
      refine wpAnyH_take (i := 0) (oi := ⟨some 109, _, _, _, _, _⟩) (v := ?_) rfl (by kernel_rfl) (by kernel_rfl) (by kernel_rfl) (fun _ _ _ h => h) (Or.inl ⟨by rfl, ?_⟩) KX.out ?_; rotate_left; · intro w hSw; (try dsimp only at hSw); go_simp; try with_reducible rfl
      try simp only [Act.put, List.setIfInBounds_toArray, List.set_cons_zero, List.set_cons_succ]
      refine wpAnyH_take (i := 2) (oi := ⟨some 111, _, _, _, _, _⟩) (v := ?_) rfl (by kernel_rfl) (by kernel_rfl) (by kernel_rfl) (fun _ _ _ h => h) (Or.inl ⟨by rfl, ?_⟩) KX.out ?_; rotate_left; · intro w hSw; (try dsimp only at hSw); go_simp; try with_reducible rfl
      try simp only [Act.put, List.setIfInBounds_toArray, List.set_cons_zero, List.set_cons_succ]
      refine wpAnyH_ready (rs := [1]) (by kernel_rfl) (by simp) ?_
      refine AllReadyH.cons rfl (fun K hK => ?_) ?_
      rotate_left
      · exact AllReadyH.nil
      go_simp
      go_at_call 8
      refine (CA.out _ HBY.out).mono ?_
      rintro e wn ⟨rfl, hb⟩
      have HBY := Lib.hid (HBY.out.trans (hb.mono HBY.out.size))
      have KX := Lib.hid (both9 (boxOn HX9.out HBY.out) (boxOn HGa.out HBY.out))
      clear hb
      go_wp2_with fail
      refine hK.out _ _ KX.out (fun hHeld => ?_)
      clear hK K hHeld
      try simp only [Act.put, List.setIfInBounds_toArray, List.set_cons_zero, List.set_cons_succ]
      refine wpAnyH_ready (rs := [3]) (by kernel_rfl) (by simp) ?_
      refine AllReadyH.cons rfl (fun K hK => ?_) ?_
      rotate_left
      · exact AllReadyH.nil
      go_simp
      go_at_call 6
      refine (CB.out _ HBY.out).mono ?_
      rintro e wn ⟨rfl, hb⟩
      have HBY := Lib.hid (HBY.out.trans (hb.mono HBY.out.size))
      have KX := Lib.hid (both9 (boxOn HX9.out HBY.out) (boxOn HGa.out HBY.out))
      clear hb
      go_wp2_with fail
      refine hK.out _ _ KX.out (fun hHeld => ?_)
      clear hK K hHeld
      try simp only [Act.put, List.setIfInBounds_toArray, List.set_cons_zero, List.set_cons_succ]
      refine wpAnyH_take (i := 4) (oi := ⟨some 113, _, _, _, _, _⟩) (v := ?_) rfl (by kernel_rfl) (by kernel_rfl) (by kernel_rfl) (fun _ _ _ h => h) (Or.inl ⟨by rfl, ?_⟩) KX.out ?_; rotate_left; · intro w hSw; (try dsimp only at hSw); go_simp; try with_reducible rfl
      try simp only [Act.put, List.setIfInBounds_toArray, List.set_cons_zero, List.set_cons_succ]
      refine wpAnyH_take (i := 5) (oi := ⟨some 114, _, _, _, _, _⟩) (v := ?_) rfl (by kernel_rfl) (by kernel_rfl) (by kernel_rfl) (fun _ _ _ h => h) (Or.inl ⟨by rfl, ?_⟩) KX.out ?_; rotate_left; · intro w hSw; (try dsimp only at hSw); go_simp; try with_reducible rfl
      try simp only [Act.put, List.setIfInBounds_toArray, List.set_cons_zero, List.set_cons_succ]
      refine wpAnyH_take (i := 6) (oi := ⟨some 115, _, _, _, _, _⟩) (v := ?_) rfl (by kernel_rfl) (by kernel_rfl) (by kernel_rfl) (fun _ _ _ h => h) (Or.inl ⟨by rfl, ?_⟩) KX.out ?_; rotate_left; · intro w hSw; (try dsimp only at hSw); go_simp; try with_reducible rfl
      try simp only [Act.put, List.setIfInBounds_toArray, List.set_cons_zero, List.set_cons_succ]
      refine wpAnyH_ready (rs := [7]) (by kernel_rfl) (by simp) ?_
      refine AllReadyH.cons rfl (fun K hK => ?_) ?_
      rotate_left
      · exact AllReadyH.nil
      go_simp
      go_at_call 8
      refine (CT.out _ HBY.out).mono ?_
      rintro e wn ⟨rfl, hb⟩
      have HBY := Lib.hid (HBY.out.trans (hb.mono HBY.out.size))
      have KX := Lib.hid (both9 (boxOn HX9.out HBY.out) (boxOn HGa.out HBY.out))
      clear hb
      go_wp2_with fail
      refine hK.out _ _ KX.out (fun hHeld => ?_)
      clear hK K hHeld
      try simp only [Act.put, List.setIfInBounds_toArray, List.set_cons_zero, List.set_cons_succ]
      refine wpAnyH_take (i := 8) (oi := ⟨some 117, _, _, _, _, _⟩) (v := ?_) rfl (by kernel_rfl) (by kernel_rfl) (by kernel_rfl) (fun _ _ _ h => h) (Or.inl ⟨by rfl, ?_⟩) KX.out ?_; rotate_left; · intro w hSw; (try dsimp only at hSw); go_simp; try with_reducible rfl
      try simp only [Act.put, List.setIfInBounds_toArray, List.set_cons_zero, List.set_cons_succ]
      refine wpAnyH_take (i := 9) (oi := ⟨some 8, _, _, _, _, _⟩) (v := ?_) rfl (by kernel_rfl) (by kernel_rfl) (by kernel_rfl) (fun _ _ _ h => h) (Or.inl ⟨by rfl, ?_⟩) KX.out ?_; rotate_left; · intro w hSw; (try dsimp only at hSw); go_simp; try with_reducible rfl
      try simp only [Act.put, List.setIfInBounds_toArray, List.set_cons_zero, List.set_cons_succ]
      refine wpAnyH_done (by kernel_rfl) ?_ _
      go_wp2
      go_ret
      exact ⟨rfl, HB9.out.trans (HBY.out.mono HB9.out.size)⟩
  have n6 : (r == 6) = false := by rw [beq_eq_false_iff_ne]; exact s6
  clear s0 s1 s2 s3 s4 s5 s6
  obtain ⟨hc0, hf0⟩ := ins_cell HO8.out HXK.out (i := 0) (u := .int .i64 op) rfl
  obtain ⟨hc1, hf1⟩ := ins_cell HO8.out HXK.out (i := 1) (u := .int .i64 A) rfl
  obtain ⟨hc2, hf2⟩ := ins_cell HO8.out HXK.out (i := 2) (u := .int .i64 b) rfl
  obtain ⟨hc3, hf3⟩ := ins_cell HO8.out HXK.out (i := 3) (u := .int .i64 c) rfl
  obtain ⟨hc4, hf4⟩ := ins_cell HO8.out HXK.out (i := 4) (u := .int .i64 d) rfl
  rw [Nat.add_zero] at hc0 hf0
  obtain ⟨qa, hqa⟩ : ∃ qa, bits .and .i64 x 7 = qa := ⟨_, rfl⟩
  have h7 := and7 x
  rw [hqa] at h7
  obtain ⟨qb, hqb⟩ : ∃ qb : Int, (k : Int) + qa = qb := ⟨_, rfl⟩
  have HQB := Lib.hid (show (k : Int) ≤ qb by omega)
  have hwr : IntKind.i64.wrap ((k : Int) + qa) = qb := by rw [IntWalk.i64_in _ (by have h1 := HK.out; have h2 := HM6.out; omega)]; exact hqb
  clear h7 hqb
  have HS9 := Lib.hid (show Stirred w8 (((((w8.setCell ⟨gi, k * 5, none⟩ (.int .i64 7)).setCell ⟨gi, k * 5 + 1, none⟩ (.int .i64 0)).setCell ⟨gi, k * 5 + 2, none⟩ (.int .i64 qb)).setCell ⟨gi, k * 5 + 3, none⟩ (.int .i64 0)).setCell ⟨gi, k * 5 + 4, none⟩ (.int .i64 0)) [gi] from (((((Stirred.setCell w8 ⟨gi, k * 5, none⟩ (.int .i64 7)).trans (Stirred.setCell _ ⟨gi, k * 5 + 1, none⟩ (.int .i64 0)) (fun _ h => .inl h)).trans (Stirred.setCell _ ⟨gi, k * 5 + 2, none⟩ (.int .i64 qb)) (fun _ h => .inl h)).trans (Stirred.setCell _ ⟨gi, k * 5 + 3, none⟩ (.int .i64 0)) (fun _ h => .inl h)).trans (Stirred.setCell _ ⟨gi, k * 5 + 4, none⟩ (.int .i64 0)) (fun _ h => .inl h)))
  have HO9 := Lib.hid (show OwnsK (((((w8.setCell ⟨gi, k * 5, none⟩ (.int .i64 7)).setCell ⟨gi, k * 5 + 1, none⟩ (.int .i64 0)).setCell ⟨gi, k * 5 + 2, none⟩ (.int .i64 qb)).setCell ⟨gi, k * 5 + 3, none⟩ (.int .i64 0)).setCell ⟨gi, k * 5 + 4, none⟩ (.int .i64 0)) w1.heap.size 30 5 (.slice (some ⟨gi, 0, none⟩) m cap) ((ins.set k (7, 0, qb, 0, 0)).flatMap insCells) from by
    have h := ((((HO8.out.stored (k * 5 + 0) (.int .i64 7)).stored (k * 5 + 1) (.int .i64 0)).stored (k * 5 + 2) (.int .i64 qb)).stored (k * 5 + 3) (.int .i64 0)).stored (k * 5 + 4) (.int .i64 0)
    have hk5 : k < ins.length := (List.getElem?_eq_some_iff.1 HXK.out).1
    rw [flat_set (x' := (7, A, b, c, d)) HXK.out (by decide) rfl, flat_set (x := (7, A, b, c, d)) (x' := (7, 0, b, c, d)) (by rw [List.getElem?_set_self hk5]) (by decide) rfl, List.set_set, flat_set (x := (7, 0, b, c, d)) (x' := (7, 0, qb, c, d)) (by rw [List.getElem?_set_self hk5]) (by decide) rfl, List.set_set, flat_set (x := (7, 0, qb, c, d)) (x' := (7, 0, qb, 0, d)) (by rw [List.getElem?_set_self hk5]) (by decide) rfl, List.set_set, flat_set (x := (7, 0, qb, 0, d)) (x' := (7, 0, qb, 0, 0)) (by rw [List.getElem?_set_self hk5]) (by decide) rfl, List.set_set] at h
    exact h)
  have HNR := Lib.hid (show rightT ⟨st, sl, bks, gr, gb, ins.set k (7, 0, qb, 0, 0), outs, la, cells⟩ = false from must_no (k := k) (B := qb) (by show (ins.set k _)[k]? = _; rw [List.getElem?_set_self (List.getElem?_eq_some_iff.1 HXK.out).1]) HQB.out)
  go_upto_region 8 with fail
  clear hc0 hf0 hc1 hf1 hc2 hf2 hc3 hf3 hc4 hf4 p5 hwr
  generalize (((((w8.setCell ⟨gi, k * 5, none⟩ (.int .i64 7)).setCell ⟨gi, k * 5 + 1, none⟩ (.int .i64 0)).setCell ⟨gi, k * 5 + 2, none⟩ (.int .i64 qb)).setCell ⟨gi, k * 5 + 3, none⟩ (.int .i64 0)).setCell ⟨gi, k * 5 + 4, none⟩ (.int .i64 0)) = w9 at *
  have HX9 := Lib.hid (HS9.out.whole HX8.out (fun hm => HNI.out.1 (List.mem_singleton.1 hm).symm))
  have HBX9 := Lib.hid (HBX8.out.trans (HS9.out.below (B := w1.heap.size) (fun k hk => by rw [List.mem_singleton.1 hk]; exact HNI.out.2.2) HBX8.out.size))
  have HRX := Lib.hid (show ReadsL w9 (.slice (some ⟨gi, 0, none⟩) m cap) (.slice ao no co) (.slice ac nc cc) ⟨st, sl, bks, gr, gb, ins.set k (7, 0, qb, 0, 0), outs, la, cells⟩ from ⟨ReadsI.of_owns HO9.out, (HR.out.below HBX9.out).outs, (HR.out.below HBX9.out).cells⟩)
  have HSX := Lib.hid (show Small ⟨st, sl, bks, gr, gb, ins.set k (7, 0, qb, 0, 0), outs, la, cells⟩ from ⟨by show (ins.set k _).length ≤ 1000000; rw [List.length_set]; exact HSM.out.ins, HSM.out.outs, HSM.out.cells, HSM.out.stack⟩)
  clear HS9 HX8 HO8 HG8 HR8
  have S8 := Lib.hid (HRT.out ⟨st, sl, bks, gr, gb, ins.set k (7, 0, qb, 0, 0), outs, la, cells⟩ _ _ _ w9 HSX.out HRX.out HBX9.out)
  rw [HNR.out] at S8
  obtain ⟨a0, a1, a2, a3, a4, a5, a6, a7, a8⟩ := cells9 (t := ⟨st, sl, bks, gr, gb, ins.set k (7, 0, qb, 0, 0), outs, la, cells⟩) HX9.out
  go_wp2_with fail
  refine S8.out.mono ?_
  rintro e w10 ⟨rfl, hb⟩
  have HX9 := Lib.hid (boxOn HX9.out hb)
  have HRX := Lib.hid (HRX.out.below hb)
  have HBX9 := Lib.hid (HBX9.out.trans (hb.mono HBX9.out.size))
  clear hb S8 a0 a1 a2 a3 a4 a5 a6 a7 a8
  have HB9 := Lib.hid (HB.out.trans (HBX9.out.mono HB.out.size))
  have HGa := Lib.hid (boxOn HG.out HBX9.out)
  obtain ⟨bs, hbs⟩ : ∃ bs, rightT ⟨st, sl, bks, gr, gb, ins.set k (7, 0, qb, 0, 0), outs, la, cells⟩ = bs := ⟨_, rfl⟩
  have CA := Lib.hid (fun wd (hb : Below w10.heap.size w10 wd) => HRT.out ⟨st, sl, bks, gr, gb, ins.set k (7, 0, qb, 0, 0), outs, la, cells⟩ _ _ _ wd HSX.out (HRX.out.below hb) (HBX9.out.trans (hb.mono HBX9.out.size)))
  have CB := Lib.hid (fun wd (hb : Below w10.heap.size w10 wd) => HQT.out ⟨st, sl, bks, gr, gb, ins.set k (7, 0, qb, 0, 0), outs, la, cells⟩ _ _ _ wd HSX.out (HRX.out.below hb))
  have CT := Lib.hid (fun wd (hb : Below w10.heap.size w10 wd) => HRT.out ⟨st, sl, bks, gr, gb, ins, outs, la, cells⟩ _ _ _ wd HSM.out (HR.out.below (HBX9.out.trans (hb.mono HBX9.out.size))) (HBX9.out.trans (hb.mono HBX9.out.size)))
  rw [HRTT.out] at CT
  rw [hbs] at CA CB
  clear hbs
  have HBY := Lib.hid (show Below w10.heap.size w10 w10.drew from (Below.refl _ _).drew)
  have KX := Lib.hid (both9 (boxOn HX9.out HBY.out) (boxOn HGa.out HBY.out))
  go_upto_region 24 with fail
  refine wp_region_held (S := fun w' => w'.cell? ⟨gx, 0, none⟩ = some (.int .i64 st) ∧ w'.cell? ⟨gx, 1, none⟩ = some (.int .i64 sl) ∧ w'.cell? ⟨gx, 2, none⟩ = some (.int .i64 bks) ∧ w'.cell? ⟨gx, 3, none⟩ = some (.int .i64 gr) ∧ w'.cell? ⟨gx, 4, none⟩ = some (.int .i64 gb) ∧ w'.cell? ⟨gx, 5, none⟩ = some (.slice (some ⟨gi, 0, none⟩) m cap) ∧ w'.cell? ⟨gx, 6, none⟩ = some (.slice ao no co) ∧ w'.cell? ⟨gx, 7, none⟩ = some (.int .i64 la) ∧ w'.cell? ⟨gx, 8, none⟩ = some (.slice ac nc cc) ∧ w'.cell? ⟨g, 0, none⟩ = some (.int .i64 st) ∧ w'.cell? ⟨g, 1, none⟩ = some (.int .i64 sl) ∧ w'.cell? ⟨g, 2, none⟩ = some (.int .i64 bks) ∧ w'.cell? ⟨g, 3, none⟩ = some (.int .i64 gr) ∧ w'.cell? ⟨g, 4, none⟩ = some (.int .i64 gb) ∧ w'.cell? ⟨g, 5, none⟩ = some (.slice ai m ci) ∧ w'.cell? ⟨g, 6, none⟩ = some (.slice ao no co) ∧ w'.cell? ⟨g, 7, none⟩ = some (.int .i64 la) ∧ w'.cell? ⟨g, 8, none⟩ = some (.slice ac nc cc)) (by kernel_rfl) ?_
  change wpAnyH _ _ _ _ _ _ _ _ (World.drew w10)
  cases bs
  all_goals
    refine wpAnyH_take (i := 0) (oi := ⟨some 109, _, _, _, _, _⟩) (v := ?_) rfl (by kernel_rfl) (by kernel_rfl) (by kernel_rfl) (fun _ _ _ h => h) (Or.inl ⟨by rfl, ?_⟩) KX.out ?_; rotate_left; · intro w hSw; (try dsimp only at hSw); go_simp; try with_reducible rfl
    try simp only [Act.put, List.setIfInBounds_toArray, List.set_cons_zero, List.set_cons_succ]
    refine wpAnyH_take (i := 2) (oi := ⟨some 111, _, _, _, _, _⟩) (v := ?_) rfl (by kernel_rfl) (by kernel_rfl) (by kernel_rfl) (fun _ _ _ h => h) (Or.inl ⟨by rfl, ?_⟩) KX.out ?_; rotate_left; · intro w hSw; (try dsimp only at hSw); go_simp; try with_reducible rfl
    try simp only [Act.put, List.setIfInBounds_toArray, List.set_cons_zero, List.set_cons_succ]
    refine wpAnyH_ready (rs := [1]) (by kernel_rfl) (by simp) ?_
    refine AllReadyH.cons rfl (fun K hK => ?_) ?_
    rotate_left
    · exact AllReadyH.nil
    go_simp
    go_at_call 8
    refine (CA.out _ HBY.out).mono ?_
    rintro e wn ⟨rfl, hb⟩
    have HBY := Lib.hid (HBY.out.trans (hb.mono HBY.out.size))
    have KX := Lib.hid (both9 (boxOn HX9.out HBY.out) (boxOn HGa.out HBY.out))
    clear hb
    go_wp2_with fail
    refine hK.out _ _ KX.out (fun hHeld => ?_)
    clear hK K hHeld
    try simp only [Act.put, List.setIfInBounds_toArray, List.set_cons_zero, List.set_cons_succ]
    refine wpAnyH_ready (rs := [3]) (by kernel_rfl) (by simp) ?_
    refine AllReadyH.cons rfl (fun K hK => ?_) ?_
    rotate_left
    · exact AllReadyH.nil
    go_simp
    go_at_call 6
    refine (CB.out _ HBY.out).mono ?_
    rintro e wn ⟨rfl, hb⟩
    have HBY := Lib.hid (HBY.out.trans (hb.mono HBY.out.size))
    have KX := Lib.hid (both9 (boxOn HX9.out HBY.out) (boxOn HGa.out HBY.out))
    clear hb
    go_wp2_with fail
    refine hK.out _ _ KX.out (fun hHeld => ?_)
    clear hK K hHeld
    try simp only [Act.put, List.setIfInBounds_toArray, List.set_cons_zero, List.set_cons_succ]
    refine wpAnyH_take (i := 4) (oi := ⟨some 113, _, _, _, _, _⟩) (v := ?_) rfl (by kernel_rfl) (by kernel_rfl) (by kernel_rfl) (fun _ _ _ h => h) (Or.inl ⟨by rfl, ?_⟩) KX.out ?_; rotate_left; · intro w hSw; (try dsimp only at hSw); go_simp; try with_reducible rfl
    try simp only [Act.put, List.setIfInBounds_toArray, List.set_cons_zero, List.set_cons_succ]
    refine wpAnyH_take (i := 5) (oi := ⟨some 114, _, _, _, _, _⟩) (v := ?_) rfl (by kernel_rfl) (by kernel_rfl) (by kernel_rfl) (fun _ _ _ h => h) (Or.inl ⟨by rfl, ?_⟩) KX.out ?_; rotate_left; · intro w hSw; (try dsimp only at hSw); go_simp; try with_reducible rfl
    try simp only [Act.put, List.setIfInBounds_toArray, List.set_cons_zero, List.set_cons_succ]
    refine wpAnyH_take (i := 6) (oi := ⟨some 115, _, _, _, _, _⟩) (v := ?_) rfl (by kernel_rfl) (by kernel_rfl) (by kernel_rfl) (fun _ _ _ h => h) (Or.inl ⟨by rfl, ?_⟩) KX.out ?_; rotate_left; · intro w hSw; (try dsimp only at hSw); go_simp; try with_reducible rfl
    try simp only [Act.put, List.setIfInBounds_toArray, List.set_cons_zero, List.set_cons_succ]
    refine wpAnyH_ready (rs := [7]) (by kernel_rfl) (by simp) ?_
    refine AllReadyH.cons rfl (fun K hK => ?_) ?_
    rotate_left
    · exact AllReadyH.nil
    go_simp
    go_at_call 8
    refine (CT.out _ HBY.out).mono ?_
    rintro e wn ⟨rfl, hb⟩
    have HBY := Lib.hid (HBY.out.trans (hb.mono HBY.out.size))
    have KX := Lib.hid (both9 (boxOn HX9.out HBY.out) (boxOn HGa.out HBY.out))
    clear hb
    go_wp2_with fail
    refine hK.out _ _ KX.out (fun hHeld => ?_)
    clear hK K hHeld
    try simp only [Act.put, List.setIfInBounds_toArray, List.set_cons_zero, List.set_cons_succ]
    refine wpAnyH_take (i := 8) (oi := ⟨some 117, _, _, _, _, _⟩) (v := ?_) rfl (by kernel_rfl) (by kernel_rfl) (by kernel_rfl) (fun _ _ _ h => h) (Or.inl ⟨by rfl, ?_⟩) KX.out ?_; rotate_left; · intro w hSw; (try dsimp only at hSw); go_simp; try with_reducible rfl
    try simp only [Act.put, List.setIfInBounds_toArray, List.set_cons_zero, List.set_cons_succ]
    refine wpAnyH_take (i := 9) (oi := ⟨some 8, _, _, _, _, _⟩) (v := ?_) rfl (by kernel_rfl) (by kernel_rfl) (by kernel_rfl) (fun _ _ _ h => h) (Or.inl ⟨by rfl, ?_⟩) KX.out ?_; rotate_left; · intro w hSw; (try dsimp only at hSw); go_simp; try with_reducible rfl
    try simp only [Act.put, List.setIfInBounds_toArray, List.set_cons_zero, List.set_cons_succ]
    refine wpAnyH_done (by kernel_rfl) ?_ _
    go_wp2
    go_ret
    exact ⟨rfl, HB9.out.trans (HBY.out.mono HB9.out.size)⟩
end Go.Proofs.YtgdmhildmdfagaaDoor.IrSpoilt
