/- The document's own run (chapter 15): all ways. -/
import Derived.Test.YtpecingkoodmfaaGreatDoorS12
import Derived.Test.YtpecingkoodmfaaGreatDoorS13
import Derived.Test.YtpecingkoodmfaaGreatDoorS14
import Derived.Deep.LoopGhost
import Derived.Deep.DeepCutAuto
namespace Go.Proofs.YtpecingkoodmfaaGreatDoor.Ev
open Go.RowKit Book Mem
open Ir (T I O trA trV ReadsL ReadsI insA insV newBox boxOn CI CT rightT)
open Mach (step_st_state M less cells10 zero10 OwnsL OwnsM stV st_state ld_state state_size slice_one all_one)
set_option linter.unusedSimpArgs false
set_option linter.unusedVariables false
theorem rway {W w : World} {t : T} {s s' : M} {wat V' : List Int} {k ni n1 n2 nm nw gt gs gr gv g7 ci co cc sc bc mc4 cw : Nat} {ad : Addr} {ao ac so bo mo4 aw : Option Addr} {op a b c ex : Int} {res : X} {Q : Exit → Act → World → Prop} (h : AtI W w t s s' wat V' k ni n1 n2 nm nw gt gs gr gv g7 ci co cc sc bc mc4 cw ad ao ac so bo mo4 aw op a b c ex res) : WayI Q W w t s s' wat V' k ni n1 n2 nm nw gt gs gr gv g7 ci co cc sc bc mc4 cw ad ao ac so bo mo4 aw op a b c ex res := by
  have hop := works_op (ins_parts (h.hrp.ins k _ h.hix)).works
  dsimp only at hop
  have hc : op = 1 ∨ op = 2 ∨ op = 3 ∨ op = 4 ∨ op = 5 ∨ op = 6 ∨ op = 7 ∨ op = 8 ∨ op = 9 ∨ op = 10 ∨ op = 11 ∨ op = 12 := by omega
  rcases hc with rfl | rfl | rfl | rfl | rfl | rfl | rfl | rfl | rfl | rfl | rfl | rfl
  · exact @rway1 _ _ _ _ _ _ _ _ _ _ _ _ _ _ _ _ _ _ _ _ _ _ _ _ _ _ _ _ _ _ _ _ _ _ _ _ _ _  h
  · exact @rway2 _ _ _ _ _ _ _ _ _ _ _ _ _ _ _ _ _ _ _ _ _ _ _ _ _ _ _ _ _ _ _ _ _ _ _ _ _ _  h
  · exact @rway3 _ _ _ _ _ _ _ _ _ _ _ _ _ _ _ _ _ _ _ _ _ _ _ _ _ _ _ _ _ _ _ _ _ _ _ _ _ _  h
  · exact @rway4 _ _ _ _ _ _ _ _ _ _ _ _ _ _ _ _ _ _ _ _ _ _ _ _ _ _ _ _ _ _ _ _ _ _ _ _ _ _  h
  · exact @rway5 _ _ _ _ _ _ _ _ _ _ _ _ _ _ _ _ _ _ _ _ _ _ _ _ _ _ _ _ _ _ _ _ _ _ _ _ _ _  h
  · exact @rway6 _ _ _ _ _ _ _ _ _ _ _ _ _ _ _ _ _ _ _ _ _ _ _ _ _ _ _ _ _ _ _ _ _ _ _ _ _ _  h
  · exact @rway7 _ _ _ _ _ _ _ _ _ _ _ _ _ _ _ _ _ _ _ _ _ _ _ _ _ _ _ _ _ _ _ _ _ _ _ _ _ _  h
  · exact @rway8 _ _ _ _ _ _ _ _ _ _ _ _ _ _ _ _ _ _ _ _ _ _ _ _ _ _ _ _ _ _ _ _ _ _ _ _ _ _  h
  · exact @rway9 _ _ _ _ _ _ _ _ _ _ _ _ _ _ _ _ _ _ _ _ _ _ _ _ _ _ _ _ _ _ _ _ _ _ _ _ _ _  h
  · exact @rwaya _ _ _ _ _ _ _ _ _ _ _ _ _ _ _ _ _ _ _ _ _ _ _ _ _ _ _ _ _ _ _ _ _ _ _ _ _ _  h
  · exact @rwayb _ _ _ _ _ _ _ _ _ _ _ _ _ _ _ _ _ _ _ _ _ _ _ _ _ _ _ _ _ _ _ _ _ _ _ _ _ _  h
  · exact @rwayc _ _ _ _ _ _ _ _ _ _ _ _ _ _ _ _ _ _ _ _ _ _ _ _ _ _ _ _ _ _ _ _ _ _ _ _ _ _  h
end Go.Proofs.YtpecingkoodmfaaGreatDoor.Ev
/- The document's own run (chapter 15): the whole. -/
namespace Go.Proofs.YtpecingkoodmfaaGreatDoor.Ev
open Go.RowKit Book Mem
open Ir (T I O trA trV ReadsL ReadsI insA insV newBox boxOn CI CT rightT)
open Mach (step_st_state M less cells10 zero10 OwnsL OwnsM stV st_state ld_state state_size slice_one all_one)
set_option linter.unusedSimpArgs false
set_option linter.unusedVariables false

set_option maxHeartbeats 16000000 in
set_option maxRecDepth 100000 in
theorem rrun_any {w : World} {t : T} {s : M} {wat : List Int} {vi vo vc vs vb vm vw : Value} (hR : ReadsL w vi vo vc t) (hs : ReadsC w vs s.stack) (hb : ReadsC w vb s.back) (hm : ReadsC w vm s.mem) (hw : Reads w vw wat)
    (z1 : s.stack.length ≤ 10000) (z2 : s.back.length ≤ 10000) (z3 : s.mem.length ≤ 10000) (z4 : s.out.size ≤ 2000) (z5 : s.inp.size ≤ 1000000) (z6 : wat.length ≤ 100000) (z7 : t.ins.length ≤ 10000) (z8 : 0 ≤ s.read)
    (hr : rightT t = true) (hmay : mayT t s = true) (hc : CM s) (hi : ∀ x ∈ t.ins, CI x) :
    Calls Tryz.prog 31 #[trV t vi vo vc, stV s vs vb vm, vw] w (RRuns (Ev.runT wat t s) w) := by
  obtain ⟨i0, q1, q2, q3, q4⟩ := info_parts Tryz.bkIntInfo
  have HI := Lib.hid (And.intro q1 (And.intro q2 (And.intro q3 q4)))
  have HRR := Lib.hid hR
  obtain ⟨ai, ci, ao, co, ac, cc, rfl, rfl, rfl⟩ := hR.known
  have HRS := Lib.hid hs
  have HRB := Lib.hid hb
  have HRM := Lib.hid hm
  have HRW := Lib.hid hw
  obtain ⟨⟨so, sc, f1, -⟩, -⟩ := hs
  obtain ⟨⟨bo, bc, f2, -⟩, -⟩ := hb
  obtain ⟨⟨mo, mc, f3, -⟩, -⟩ := hm
  obtain ⟨aw, cw, f4, -⟩ := hw
  subst f1
  subst f2
  subst f3
  subst f4
  obtain ⟨n1, hn1⟩ : ∃ n, s.stack.length = n := ⟨_, rfl⟩
  obtain ⟨nw, hnw⟩ : ∃ n, wat.length = n := ⟨_, rfl⟩
  have HNW := Lib.hid hnw
  rw [hnw] at HRW z6
  obtain ⟨n2, hn2⟩ : ∃ n, s.back.length = n := ⟨_, rfl⟩
  have HN12 := Lib.hid (And.intro hn1 hn2)
  have HEX := Lib.hid (run_end (wat := wat) hr hmay z1 z2)
  have HRP := Lib.hid (right_parts hr)
  have HMP := Lib.hid (may_parts hmay)
  have HMY := Lib.hid hmay
  have HZ4 := Lib.hid z4
  rw [hn1] at HRS z1
  rw [hn2] at HRB z2
  rw [hn1, hn2] at HMP
  simp only [hn1, hn2, hnw]
  clear hn1 hn2 hnw hr hmay
  obtain ⟨ni, hni⟩ : ∃ n, t.ins.length = n := ⟨_, rfl⟩
  obtain ⟨nm, hnm⟩ : ∃ n, s.mem.length = n := ⟨_, rfl⟩
  have HNI := Lib.hid (And.intro hni hnm)
  rw [hni] at HRR z7 ⊢
  rw [hnm] at HRM z3 ⊢
  clear hni hnm
  obtain ⟨w1, gt, hw1, hgt, HT1, B1, Z1⟩ := newBox w (trA t (.slice ai ni ci) (.slice ao t.outs.length co) (.slice ac t.cells.length cc)) 26
  obtain ⟨w2, gs, hw2, hgs, HS2, B2, Z2⟩ := newBox w1 (cells10 s.ip s.handler (.slice so n1 sc) (.slice bo n2 bc) (.slice mo nm mc) s.out s.inp s.read s.status s.code) 50
  obtain ⟨w3, gr, hw3, hgr, HR3, B3, Z3⟩ := newBox w2 zero10 50
  have B23 := Lib.hid (B2.out.trans (B3.out.mono B2.out.size))
  have B13 := Lib.hid (B1.out.trans (B23.out.mono B1.out.size))
  have HT3 := Lib.hid (boxOn HT1.out B23.out)
  have HS3 := Lib.hid (boxOn HS2.out B3.out)
  have NE := Lib.hid (show w.heap.size = gt ∧ gt < gs ∧ gs < gr ∧ gr < w3.heap.size from ⟨Z1.out, by rw [← Z2.out]; exact whole_lt HT1.out, by rw [← Z3.out]; exact whole_lt HS2.out, whole_lt HR3.out⟩)
  have y4 : w3.cell? ⟨gs, 4, none⟩ = some (.slice mo nm mc) := whole_cell HS3.out rfl
  have HM3 := Lib.hid (HRM.out.1.below B13.out)
  have hml : nm + 0 ≤ 10000 := z3
  clear hR q1 q2 q3 q4 HT1 HS2 B1 B2 B3 Z1 Z2 Z3
  go_enter Tryz.func31, Tryz.ntmps31
  go_upto_region 2 with (refine wpList_append_reads _ rfl _ _ 24 rfl w3.heap.size 3 i0 (.int .i64 0) 8 Tryz.underlying24 HI.out.1 HI.out.2.1 HI.out.2.2.1 HI.out.2.2.2 rfl (.slice none 0 0) [] rfl (Owns.nil _ _ _) (.slice mo nm mc) s.mem rfl HM3.out (by rw [HNI.out.2]; unfold maxLen; simp; omega) (by rw [HNI.out.2]; simp; omega) (Nat.le_refl _) ?_; intro vm4 w4 ho _ ht _; have HO4 := Lib.hid ho; have HT4 := Lib.hid ht; have g4 := ht.whole HS3.out (fun hm => by cases hm); have p4 := whole_cell g4 (show _[4]? = some (Value.slice mo nm mc) from rfl); have f4 : w4.frozen? ⟨gs, 4, none⟩ = false := whole_frozen g4 4; obtain ⟨mo4, mc4, e4⟩ := ho.slice; rw [show (([] : List Value) ++ vals s.mem).length = s.mem.length by simp, HNI.out.2] at e4; subst e4; clear ho ht g4)
  have h5 := whole_set (HT4.out.whole HS3.out (fun hm => by cases hm)) 4 (.slice mo4 nm mc4)
  have t5 := Stirred.setCell w4 ⟨gs, 4, none⟩ (.slice mo4 nm mc4)
  obtain ⟨w5, hw5⟩ : ∃ w5, w4.setCell ⟨gs, 4, none⟩ (.slice mo4 nm mc4) = w5 := ⟨_, rfl⟩
  rw [hw5] at h5 t5
  have HS5 := Lib.hid (show w5.heap[gs]? = some (.cells (cells10 s.ip s.handler (.slice so n1 sc) (.slice bo n2 bc) (.slice mo4 nm mc4) s.out s.inp s.read s.status s.code) 50 (0, 0)) from h5)
  have hne : ∀ {k : Nat}, k ≠ gs → k ∉ [gs] := fun h hm => h (List.mem_singleton.1 hm)
  have HT5 := Lib.hid (t5.whole (HT4.out.whole HT3.out (fun hm => by cases hm)) (hne (by have := NE.out; omega)))
  have HR5 := Lib.hid (t5.whole (HT4.out.whole HR3.out (fun hm => by cases hm)) (hne (by have := NE.out; omega)))
  have HO5 := Lib.hid (show Owns w5 w3.heap.size 3 (.slice mo4 nm mc4) (vals s.mem) from HO4.out.touch t5 (fun k e => hne (fun e' => by have h1 := (HO4.out.block k e).1; have h2 := NE.out; omega)))
  have HB5 := Lib.hid (show Below w.heap.size w w5 from by
    have b4 := B13.out.trans (HT4.out.below (B := w.heap.size) (fun k hk => by cases hk) B13.out.size)
    exact b4.trans (t5.below (fun k hk => by rw [List.mem_singleton.1 hk]; show w.heap.size ≤ gs; have := NE.out; omega) b4.size))
  have LT5 := Lib.hid (show gr < w5.heap.size from whole_lt HR5.out)
  obtain ⟨w6, hmk, hO, hG⟩ := run_makeSlice_full (P := Tryz.prog) w5 w5.heap.size 24 3 i0 (.int .i64 0) 1 Tryz.underlying24 HI.out.1 HI.out.2.1 HI.out.2.2.1 .i64 .i64 ni (by omega) (by rw [HI.out.2.2.2]; omega) (by unfold maxLen; omega) (Nat.le_refl _)
  rw [show (madeCells (Value.int .i64 0).cells (ni * 1)).toList = List.replicate ni (Value.int .i64 0) from by rw [Nat.mul_one]; exact toList_madeCells_one _ _] at hO
  obtain ⟨gv, hgv⟩ : ∃ g, w5.heap.size = g := ⟨_, rfl⟩
  rw [hgv] at hmk hO
  have T56 := Lib.hid (show Stirred w5 w6 [] from Stirred.of_grown hG)
  have t55 : w5.cell? ⟨gt, 5, none⟩ = some (.slice ai ni ci) := whole_cell HT5.out rfl
  have HV6 := Lib.hid (show Owns w6 gv 3 (.slice (some ⟨gv, 0, none⟩) ni ni) (vals (padV [] ni)) from by rw [padV_zero, vals, List.map_replicate]; exact Owns.of_row hO)
  have H6 := Lib.hid (show RR w w6 gs s [] ni (.slice so n1 sc) (.slice bo n2 bc) (.slice mo4 nm mc4) (.slice (some ⟨gv, 0, none⟩) ni ni) (three gt gr (.cells (trA t (.slice ai ni ci) (.slice ao t.outs.length co) (.slice ac t.cells.length cc)) 26 (0, 0)) (.cells zero10 50 (0, 0))) from by
    have hgw : w.heap.size ≤ gv := by rw [← hgv]; exact HB5.out.size
    have far : ∀ k, blk (.slice (some ⟨gv, 0, none⟩) ni ni) = some k → k = gv := fun k e => rblk e
    refine ⟨HB5.out.trans (T56.out.below (fun k hk => by cases hk) HB5.out.size), by have := NE.out; omega, T56.out.whole HS5.out (fun hm => by cases hm), (HO5.out.touch T56.out (fun _ _ hm => by cases hm)).from B13.out.size, HV6.out.from hgw, fun k e => ⟨fun e' => by have h1 := (HO5.out.block k e).1; have h2 := NE.out; omega, fun e' => by have h1 := (HO5.out.block k e).2.1; have h2 := far k e'; omega⟩, fun k e e' => by have h2 := far k e; have h3 := NE.out; have h4 := LT5.out; omega, fun k o e => ?_⟩
    unfold three at e
    split at e
    · rename_i hk
      cases e
      subst hk
      exact ⟨T56.out.whole HT5.out (fun hm => by cases hm), fun e => by have := NE.out; omega, fun e' => by have h1 := (HO5.out.block _ e').1; have h2 := NE.out; omega, fun e' => by have h2 := far _ e'; have h3 := NE.out; have h4 := LT5.out; omega⟩
    · split at e
      · rename_i hk
        cases e
        subst hk
        exact ⟨T56.out.whole HR5.out (fun hm => by cases hm), fun e => by have := NE.out; omega, fun e' => by have h1 := (HO5.out.block _ e').1; have h2 := NE.out; omega, fun e' => by have h2 := far _ e'; have h4 := LT5.out; omega⟩
      · cases e)
  clear hO hG h5 t5 hne hw1 hw2 hw3 hgt hgs hgr y4 p4 f4 HS5 HT5 HR5 HO5 LT5 T56 HV6 HT4 HO4
  try dsimp only [Act.put]
  go_wp2
  obtain ⟨res, hres⟩ : ∃ res, goI wat t.last t.ins s [] = res := ⟨_, rfl⟩
  have NG2 := Lib.hid (show gr ≠ gt from by have := NE.out; omega)
  have NGR := Lib.hid (show gt ≠ gr ∧ gs ≠ gr from by have := NE.out; exact ⟨by omega, by omega⟩)
  have HGRW := Lib.hid (show w.heap.size ≤ gr from by have := NE.out; omega)
  have HRES := Lib.hid hres
  rw [hres] at HEX
  clear hres
  go_loopg [10] ni (fun zz i wr => ∃ (k : Nat) (s' : M) (V' : List Int), zz = ni - k ∧ k ≤ ni ∧ i = .int .i64 (k : Int) ∧ Hid (RR w wr gs s' V' ni (.slice so n1 sc) (.slice bo n2 bc) (.slice mo4 nm mc4) (.slice (some ⟨gv, 0, none⟩) ni ni) (three gt gr (.cells (trA t (.slice ai ni ci) (.slice ao t.outs.length co) (.slice ac t.cells.length cc)) 26 (0, 0)) (.cells zero10 50 (0, 0)))) ∧ Hid (Kin s s' ∧ CM s' ∧ V'.length = k ∧ ∀ y ∈ V', Cell.In y) ∧ Hid (goI wat t.last (t.ins.drop k) s' V' = res))
  case atStart => exact ⟨0, s, [], rfl, Nat.zero_le _, rfl, H6, Lib.hid ⟨Kin.refl s, hc, rfl, fun y hy => (by cases hy)⟩, Lib.hid (by rw [List.drop_zero]; exact HRES.out)⟩
  case round =>
    obtain ⟨k, s', V', rfl, hk, rfl, HRN, HQ, HJ⟩ := hrel
    have HGT := Lib.hid (HRN.out.fr gt _ (if_pos rfl)).1
    have c5 : wr.cell? ⟨gt, 5, none⟩ = some (.slice ai ni ci) := whole_cell HGT.out rfl
    clear H6 hmk
    by_cases hlt : k < ni
    · obtain ⟨x, hx⟩ : ∃ x, t.ins[k]? = some x := ⟨_, List.getElem?_eq_getElem (by rw [HNI.out.1]; exact hlt)⟩
      have HCX := Lib.hid (hi x (List.mem_of_getElem? hx))
      obtain ⟨ad, rfl, i0', i1, i2, i3, i4⟩ := Ir.ReadsI.at (HRR.out.ins.below HRN.out.hb) hx
      have HG1 := Lib.hid (goI_at (wat := wat) (last := t.last) (s := s') (V := V') hx)
      obtain ⟨op, a, b, c, ex⟩ := x
      obtain ⟨w7, g7, hw7, hg7, H7, B7, Z7⟩ := newBox wr #[.int .i64 0, .int .i64 0, .int .i64 0, .int .i64 0, .int .i64 0] 42
      have k0 : (0 : Int) ≤ (k : Int) := Int.natCast_nonneg k
      have k1 : (k : Int) < (ni : Int) := Int.ofNat_lt.2 hlt
      dsimp only at i0' i1 i2 i3 i4
      have CU := Lib.hid (fun wc => Ir.ruses_any (op, a, b, c, ex) wc)
      have HXK := Lib.hid hx
      clear hx
      go_upto_region 6 with fail
      rename_i K9 hK9
      have HK9 := Lib.hid hK9
      clear hK9
      go_wp2_with (refine rst_ins (by rfl) _ _ rfl g7 (insA (op, a, b, c, ex)) rfl rfl rfl _ rfl H7.out (by simp [Value.oneCell']) ?_; intro w8 h8 t8; have HX8 := Lib.hid h8; have HR8 := Lib.hid (HRN.out.fresh (w' := w8) (bs := [g7]) ((Stirred.of_below B7.out [g7]).trans t8 (fun k hk => .inl hk)) (fun k hk => List.mem_singleton.1 hk) (Nat.le_of_eq Z7.out) h8); have m0 : w8.cell? ⟨g7, 0, none⟩ = some (.int .i64 op) := whole_cell h8 rfl; have m1 : w8.cell? ⟨g7, 1, none⟩ = some (.int .i64 a) := whole_cell h8 rfl; have m2 : w8.cell? ⟨g7, 2, none⟩ = some (.int .i64 b) := whole_cell h8 rfl; have m3 : w8.cell? ⟨g7, 3, none⟩ = some (.int .i64 c) := whole_cell h8 rfl; have m4 : w8.cell? ⟨g7, 4, none⟩ = some (.int .i64 ex) := whole_cell h8 rfl; clear h8 t8)
      refine HK9.out _ _ ?_
      try dsimp only [Act.put]
      have NG := Lib.hid (show gt ≠ g7 ∧ gr ≠ g7 from ⟨by have h1 := whole_lt HGT.out; have h2 := Z7.out; omega, by have h1 := whole_lt (HRN.out.fr gr _ ((if_neg NG2.out).trans (if_pos rfl))).1; have h2 := Z7.out; omega⟩)
      have HVK := Lib.hid HQ.out.2.2.1
      have HOK := Lib.hid (ins_parts (HRP.out.ins k _ HXK.out))
      have hop := works_op HOK.out.works
      dsimp only at hop
      have HEND := Lib.hid (fun wf ds dv (hd : doI wat s' V' (op, a, b, c, ex) = ⟨ds, dv, true, false⟩) (hf : RR w wf gs ds (V' ++ [dv]) ni (.slice so n1 sc) (.slice bo n2 bc) (.slice mo4 nm mc4) (.slice (some ⟨gv, 0, none⟩) ni ni) (fun j => if j = g7 then some (.cells (insA (op, a, b, c, ex)) 42 (0, 0)) else (three gt gr (.cells (trA t (.slice (some ad) ni ci) (.slice ao t.outs.length co) (.slice ac t.cells.length cc)) 26 (0, 0)) (.cells zero10 50 (0, 0))) j)) =>
        show Hid (RR w wf gs ds (V' ++ [dv]) ni (.slice so n1 sc) (.slice bo n2 bc) (.slice mo4 nm mc4) (.slice (some ⟨gv, 0, none⟩) ni ni) (three gt gr (.cells (trA t (.slice (some ad) ni ci) (.slice ao t.outs.length co) (.slice ac t.cells.length cc)) 26 (0, 0)) (.cells zero10 50 (0, 0)))) ∧ Hid (Kin s ds ∧ CM ds ∧ (V' ++ [dv]).length = k + 1 ∧ ∀ y ∈ V' ++ [dv], Cell.In y) ∧ Hid (goI wat t.last (t.ins.drop (k + 1)) ds (V' ++ [dv]) = res) from by
          have hin := doI_in (wat := wat) HCX.out HQ.out.2.1 HQ.out.2.2.2
          have hkn := doI_kin wat s' V' (op, a, b, c, ex)
          rw [hd] at hin hkn
          refine ⟨Lib.hid (hf.less (fun j o e => ?_)), Lib.hid ⟨HQ.out.1.trans hkn, hin.2, by rw [List.length_append, HVK.out]; rfl, fun y hy => ?_⟩, Lib.hid (goI_on HXK.out hd HJ.out)⟩
          · try dsimp only
            rw [if_neg (fun e' => by have h1 := whole_lt (HRN.out.fr j o e).1; have h2 := Z7.out; omega)]
            exact e
          · rcases List.mem_append.1 hy with h | h
            · exact HQ.out.2.2.2 y h
            · rw [List.mem_singleton.1 h]; exact hin.1)
      have HAT := Lib.hid (show AtI w w8 t s s' wat V' k ni n1 n2 nm nw gt gs gr gv g7 ci co cc sc bc mc4 cw ad ao ac so bo mo4 aw op a b c ex res from ⟨HRR.out, HRS.out, HRB.out, HRW.out, HNI.out, HN12.out, HNW.out, z1, z2, z3, HZ4.out, z5, z6, z7, z8, HXK.out, HCX.out, HQ.out, HJ.out, HRES.out, HEX.out, HMY.out, HRP.out, HMP.out, hlt, HR8.out, NG.out, NG2.out, NGR.out, HGRW.out⟩)
      clear m0 m1 m2 m3 m4 HR8 HXK CU HX8 HG1 c5 k0 k1 i0' i1 i2 i3 i4 H7 B7 Z7
      refine (show WayI _ w w8 t s s' wat V' k ni n1 n2 nm nw gt gs gr gv g7 ci co cc sc bc mc4 cw ad ao ac so bo mo4 aw op a b c ex res from @rway _ _ _ _ _ _ _ _ _ _ _ _ _ _ _ _ _ _ _ _ _ _ _ _ _ _ _ _ _ _ _ _ _ _ _ _ _ _ _  HAT.out) ?_ ?_ ?_
      · intro u7 u8 u12 u13 u14 u15 u16 u17 u18 u39 u40 u41 u42 u43 u44 u45 u46 u47 u48 u49 u50 u51 u52 u53 u54 u55 u56 u57 u58 u59 u60 u61 u62 u63 u64 u65 u66 u67 u68 u69 u70 u71 u72 u73 u74 u75 u76 u77 u78 u79 u80 u81 u82 u83 u84 u85 u86 u87 u88 u89 u90 u91 u92 u93 u94 u95 u96 u97 u98 u99 u100 u101 u102 u103 u104 u105 u106 u107 u108 u109 u110 u111 u112 u113 u114 u115 u116 u117 u118 u119 u120 u121 u122 u123 u124 u125 u126 u127 u128 u129 u130 u131 u132 u133 u134 u135 u136 u137 u138 u139 u140 u141 u142 u143 u144 u145 u146 u147 u148 u149 u150 u151 u152 u153 u154 u155 u156 u157 u158 u159 u160 u161 u162 u163 u164 u165 u166 u167 u168 u169 u170 u171 u172 u173 u174 u175 u176 u177 u178 u179 u180 u181 u182 u183 u184 u185 u186 u187 u188 u189 u190 u191 u192 u193 u194 u195 u196 u197 u198 u199 u200 u201 u202 u203 u204 u205 u206 u207 u208 u209 u210 u211 u212 u213 u214 u215 u216 u217 u218 u219 u220 u221 u222 u223 u224 u225 u226 u227 u228 u229 u230 u231 u232 u233 u234 u235 u236 u237 u238 u239 u240 u241 u242 u243 u244 u245 u246 u247 u248 u249 u250 wn ds dv hd hrn
        have HNX := Lib.hid (HEND.out _ _ _ hd hrn)
        clear hd hrn
        go_wp2_with fail
        go_roundg (ni - (k + 1))
        case measure => omega
        case rel => exact ⟨k + 1, ds, V' ++ [dv], rfl, by omega, by go_num, HNX.out⟩
      · exact fun a' w' v h0 h1 h2 => ⟨h0, v, h1, h2⟩
      · exact fun x a' d v w' h => by cases d <;> exact h
    · have hkn : k = ni := by omega
      have hjj : (⟨s', V', t.last, false⟩ : X) = res := by
        have h := HJ.out
        rw [show t.ins.drop k = [] from List.drop_of_length_le (by rw [HNI.out.1, hkn]; exact Nat.le_refl _)] at h
        exact h
      have HVK := Lib.hid HQ.out.2.2.1
      have e1 : decide ((k : Int) < (ni : Int)) = false := decide_eq_false (by omega)
      have e2 : decide (k < ni) = false := decide_eq_false (by omega)
      have HR9 := Lib.hid HRN.out
      go_upto_region 60 with fail
      clear c5
      have KIN := Lib.hid (HQ.out.1)
      have PRE := Lib.hid (show ∀ p : Int, 0 ≤ p → p < (V'.length : Int) → val (padV (V') ni) p = val V' p from fun p h0 h1 => val_padV (by rw [HVK.out]; exact hk) h0 h1)
      have LNA := Lib.hid (show (padV (V') ni).length = ni from padV_length (by rw [HVK.out]; exact hk))
      have VLN := Lib.hid (show V'.length ≤ (padV (V') ni).length from by rw [LNA.out, HVK.out]; exact hk)
      have NI1 := Lib.hid (show (padV (V') ni).length ≤ 10000 from by rw [LNA.out]; exact z7)
      have HXR := Lib.hid (hjj)
      obtain ⟨xo, hx1, hx2, hx3, hx4⟩ := HEX.out
      rw [← HXR.out] at hx1 hx2
      dsimp only at hx1 hx2
      have HFIN := Lib.hid (runT_is (o := xo) HMY.out HRES.out (by rw [← HXR.out]; exact hx1))
      rw [← HXR.out] at HFIN
      dsimp only at HFIN
      have FGT := Lib.hid (HRN.out.fr gt _ (if_pos rfl))
      have FGR := Lib.hid (HRN.out.fr gr _ ((if_neg NG2.out).trans (if_pos rfl)))
      have KF := Lib.hid (fun (w' : World) (ha' : w'.heap[gt]? = some (.cells (trA t (.slice ai ni ci) (.slice ao t.outs.length co) (.slice ac t.cells.length cc)) 26 (0, 0))) (hb' : w'.heap[gs]? = some (.cells (cells10 s'.ip s'.handler (.slice so n1 sc) (.slice bo n2 bc) (.slice mo4 nm mc4) s'.out s'.inp s'.read s'.status s'.code) 50 (0, 0))) => show w'.cell? ⟨gt, 0, none⟩ = some (.int .i64 t.start) ∧ w'.cell? ⟨gt, 1, none⟩ = some (.int .i64 t.slots) ∧ w'.cell? ⟨gt, 2, none⟩ = some (.int .i64 t.backs) ∧ w'.cell? ⟨gt, 3, none⟩ = some (.int .i64 t.grow) ∧ w'.cell? ⟨gt, 4, none⟩ = some (.int .i64 t.growBack) ∧ w'.cell? ⟨gt, 5, none⟩ = some (.slice ai ni ci) ∧ w'.cell? ⟨gt, 6, none⟩ = some (.slice ao t.outs.length co) ∧ w'.cell? ⟨gt, 7, none⟩ = some (.int .i64 t.last) ∧ w'.cell? ⟨gt, 8, none⟩ = some (.slice ac t.cells.length cc) ∧ w'.cell? ⟨gs, 0, none⟩ = some (.int .i64 s'.ip) ∧ w'.cell? ⟨gs, 1, none⟩ = some (.int .i64 s'.handler) ∧ w'.cell? ⟨gs, 2, none⟩ = some (.slice so n1 sc) ∧ w'.cell? ⟨gs, 3, none⟩ = some (.slice bo n2 bc) ∧ w'.cell? ⟨gs, 4, none⟩ = some (.slice mo4 nm mc4) ∧ w'.cell? ⟨gs, 5, none⟩ = some (.string s'.out) ∧ w'.cell? ⟨gs, 6, none⟩ = some (.string s'.inp) ∧ w'.cell? ⟨gs, 7, none⟩ = some (.int .i64 s'.read) ∧ w'.cell? ⟨gs, 8, none⟩ = some (.int .i64 s'.status) ∧ w'.cell? ⟨gs, 9, none⟩ = some (.int .i64 s'.code) from ⟨whole_cell ha' rfl, whole_cell ha' rfl, whole_cell ha' rfl, whole_cell ha' rfl, whole_cell ha' rfl, whole_cell ha' rfl, whole_cell ha' rfl, whole_cell ha' rfl, whole_cell ha' rfl, whole_cell hb' rfl, whole_cell hb' rfl, whole_cell hb' rfl, whole_cell hb' rfl, whole_cell hb' rfl, whole_cell hb' rfl, whole_cell hb' rfl, whole_cell hb' rfl, whole_cell hb' rfl, whole_cell hb' rfl⟩)
      have CE := Lib.hid (fun wc (hb : Below wr.heap.size wr wc) => rexit HRR.out HRS.out HRB.out (HRN.out.below hb) KIN.out hx1 hx2 PRE.out VLN.out NI1.out HN12.out.1 HN12.out.2 z1 z2 (Nat.le_trans hx3 (by decide)) (Nat.le_trans hx4 (by decide)) HRP.out.slots.1 HMP.out.1 HRP.out.backs.1 HMP.out.2)
      have HXX := Lib.hid (And.intro hx1 hx2)
      clear hx1 hx2 hx3 hx4
      have HBC : Hid (Below wr.heap.size wr wr.drew) := Lib.hid (Below.refl _ _).drew
      have KX := Lib.hid (KF.out _ (boxOn FGT.out.1 HBC.out) (boxOn HRN.out.box HBC.out))
      refine wp_region_held (S := fun w' => w'.cell? ⟨gt, 0, none⟩ = some (.int .i64 t.start) ∧ w'.cell? ⟨gt, 1, none⟩ = some (.int .i64 t.slots) ∧ w'.cell? ⟨gt, 2, none⟩ = some (.int .i64 t.backs) ∧ w'.cell? ⟨gt, 3, none⟩ = some (.int .i64 t.grow) ∧ w'.cell? ⟨gt, 4, none⟩ = some (.int .i64 t.growBack) ∧ w'.cell? ⟨gt, 5, none⟩ = some (.slice ai ni ci) ∧ w'.cell? ⟨gt, 6, none⟩ = some (.slice ao t.outs.length co) ∧ w'.cell? ⟨gt, 7, none⟩ = some (.int .i64 t.last) ∧ w'.cell? ⟨gt, 8, none⟩ = some (.slice ac t.cells.length cc) ∧ w'.cell? ⟨gs, 0, none⟩ = some (.int .i64 s'.ip) ∧ w'.cell? ⟨gs, 1, none⟩ = some (.int .i64 s'.handler) ∧ w'.cell? ⟨gs, 2, none⟩ = some (.slice so n1 sc) ∧ w'.cell? ⟨gs, 3, none⟩ = some (.slice bo n2 bc) ∧ w'.cell? ⟨gs, 4, none⟩ = some (.slice mo4 nm mc4) ∧ w'.cell? ⟨gs, 5, none⟩ = some (.string s'.out) ∧ w'.cell? ⟨gs, 6, none⟩ = some (.string s'.inp) ∧ w'.cell? ⟨gs, 7, none⟩ = some (.int .i64 s'.read) ∧ w'.cell? ⟨gs, 8, none⟩ = some (.int .i64 s'.status) ∧ w'.cell? ⟨gs, 9, none⟩ = some (.int .i64 s'.code)) (by kernel_rfl) ?_
      change wpAnyH _ _ _ _ _ _ _ _ (World.drew wr)
      refine wpAnyH_take (i := 0) (oi := ⟨some 259, _, _, _, _, _⟩) (v := ?_) rfl (by kernel_rfl) (by kernel_rfl) (by kernel_rfl) (fun _ _ _ h => h) (Or.inl ⟨by rfl, ?_⟩) KX.out ?_; rotate_left; · intro w hSw; (try dsimp only at hSw); go_simp; try with_reducible rfl
      try simp only [Act.put, sx1, sx2, sx3]
      refine wpAnyH_take (i := 1) (oi := ⟨some 260, _, _, _, _, _⟩) (v := ?_) rfl (by kernel_rfl) (by kernel_rfl) (by kernel_rfl) (fun _ _ _ h => h) (Or.inl ⟨by rfl, ?_⟩) KX.out ?_; rotate_left; · intro w hSw; (try dsimp only at hSw); go_simp; try with_reducible rfl
      try simp only [Act.put, sx1, sx2, sx3]
      refine wpAnyH_take (i := 2) (oi := ⟨some 261, _, _, _, _, _⟩) (v := ?_) rfl (by kernel_rfl) (by kernel_rfl) (by kernel_rfl) (fun _ _ _ h => h) (Or.inl ⟨by rfl, ?_⟩) KX.out ?_; rotate_left; · intro w hSw; (try dsimp only at hSw); go_simp; try with_reducible rfl
      try simp only [Act.put, sx1, sx2, sx3]
      refine wpAnyH_take (i := 3) (oi := ⟨some 262, _, _, _, _, _⟩) (v := ?_) rfl (by kernel_rfl) (by kernel_rfl) (by kernel_rfl) (fun _ _ _ h => h) (Or.inl ⟨by rfl, ?_⟩) KX.out ?_; rotate_left; · intro w hSw; (try dsimp only at hSw); go_simp; try with_reducible rfl
      try simp only [Act.put, sx1, sx2, sx3]
      refine wpAnyH_take (i := 4) (oi := ⟨some 263, _, _, _, _, _⟩) (v := ?_) rfl (by kernel_rfl) (by kernel_rfl) (by kernel_rfl) (fun _ _ _ h => h) (Or.inl ⟨by rfl, ?_⟩) KX.out ?_; rotate_left; · intro w hSw; (try dsimp only at hSw); go_simp; try with_reducible rfl
      try simp only [Act.put, sx1, sx2, sx3]
      refine wpAnyH_take (i := 6) (oi := ⟨some 265, _, _, _, _, _⟩) (v := ?_) rfl (by kernel_rfl) (by kernel_rfl) (by kernel_rfl) (fun _ _ _ h => h) (Or.inl ⟨by rfl, ?_⟩) KX.out ?_; rotate_left; · intro w hSw; (try dsimp only at hSw); go_simp; try with_reducible rfl
      try simp only [Act.put, sx1, sx2, sx3]
      refine wpAnyH_take (i := 7) (oi := ⟨some 266, _, _, _, _, _⟩) (v := ?_) rfl (by kernel_rfl) (by kernel_rfl) (by kernel_rfl) (fun _ _ _ h => h) (Or.inl ⟨by rfl, ?_⟩) KX.out ?_; rotate_left; · intro w hSw; (try dsimp only at hSw); go_simp; try with_reducible rfl
      try simp only [Act.put, sx1, sx2, sx3]
      refine wpAnyH_ready (rs := [5]) (by kernel_rfl) (by simp) ?_
      refine AllReadyH.cons rfl (fun K hK => ?_) ?_
      rotate_left
      · exact AllReadyH.nil
      go_simp
      go_at_call 88
      refine (CE.out _ HBC.out).mono ?_
      rintro e wl ⟨v1, v2, rfl, ho1, ho2, hap, hbl⟩
      have HO1 := Lib.hid ho1
      have HO2 := Lib.hid ho2
      have HAP := Lib.hid hap
      have HMC := Lib.hid (show Value.oneCell' (.slice mo4 nm mc4) = true from rfl)
      have HBL := Lib.hid (HBC.out.trans (hbl.mono HBC.out.size))
      have HON := Lib.hid (And.intro (slice_one ho1.slice) (slice_one ho2.slice))
      have KX := Lib.hid (KF.out _ (boxOn FGT.out.1 HBL.out) (boxOn HRN.out.box HBL.out))
      have FGL := Lib.hid (boxOn FGR.out.1 HBL.out)
      clear ho1 ho2 hap hbl
      try dsimp only
      go_wp2_with fail
      refine hK.out _ _ KX.out (fun hHeld => ?_)
      clear hK K hHeld
      try simp only [Act.put, sx1, sx2, sx3]
      refine wpAnyH_ready (rs := [8]) (by kernel_rfl) (by simp) ?_
      refine AllReadyH.cons rfl (fun K hK => ?_) ?_
      rotate_left
      · exact AllReadyH.nil
      refine step_st_state (by rfl) _ _ rfl gr _ rfl rfl _ FGL.out rfl rfl (all_one HON.out.1 HON.out.2 HMC.out) ?_
      intro we he te
      have HWE := Lib.hid he
      have HTE := Lib.hid te
      have KX := Lib.hid (KF.out _ (te.whole (boxOn FGT.out.1 HBL.out) (fun hm => NGR.out.1 (List.mem_singleton.1 hm))) (te.whole (boxOn HRN.out.box HBL.out) (fun hm => NGR.out.2 (List.mem_singleton.1 hm))))
      clear he te
      refine hK.out _ _ KX.out (fun hHeld => ?_)
      clear hK K hHeld
      try simp only [Act.put, sx1, sx2, sx3]
      refine wpAnyH_take (i := 9) (oi := ⟨some 7, _, _, _, _, _⟩) (v := ?_) rfl (by kernel_rfl) (by kernel_rfl) (by kernel_rfl) (fun _ _ _ h => h) (Or.inl ⟨by rfl, ?_⟩) KX.out ?_; rotate_left; · intro w hSw; (try dsimp only at hSw); go_simp; try with_reducible rfl
      try simp only [Act.put, sx1, sx2, sx3]
      refine wpAnyH_take (i := 10) (oi := ⟨some 8, _, _, _, _, _⟩) (v := ?_) rfl (by kernel_rfl) (by kernel_rfl) (by kernel_rfl) (fun _ _ _ h => h) (Or.inl ⟨by rfl, ?_⟩) KX.out ?_; rotate_left; · intro w hSw; (try dsimp only at hSw); go_simp; try with_reducible rfl
      try simp only [Act.put, sx1, sx2, sx3]
      refine wpAnyH_done (by kernel_rfl) ?_ _
      go_wp2_with fail
      refine bodyPost_ret (results_cell_tmps rfl _ _ gr _ _ _ _ rfl HWE.out Tryz.underlying50 rfl state_size) rfl ?_
      rw [HFIN.out]
      exact rdone HRN.out FGR.out HGRW.out HO1.out HO2.out HAP.out HBL.out HTE.out
end Go.Proofs.YtpecingkoodmfaaGreatDoor.Ev
