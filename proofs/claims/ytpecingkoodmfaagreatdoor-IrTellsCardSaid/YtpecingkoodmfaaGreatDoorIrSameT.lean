
/- Package ir: traces that are alike. -/
import Derived.Test.YtpecingkoodmfaaGreatDoorIrEqual
import Derived.Test.YtpecingkoodmfaaGreatDoorIrLeads
namespace Go.Proofs.YtpecingkoodmfaaGreatDoor.Ir
open Go.RowKit Book Mem
set_option linter.unusedSimpArgs false
set_option linter.unusedVariables false
theorem O.eq_iff {x y : O} : x = y ↔ x.ip = y.ip ∧ x.steps = y.steps ∧ x.stack = y.stack ∧ x.back = y.back :=
  ⟨fun h => by subst h; exact ⟨rfl, rfl, rfl, rfl⟩, fun h => O.ext' h.1 h.2.1 h.2.2.1 h.2.2.2⟩
theorem T.eq_iff {a b : T} : a = b ↔ a.start = b.start ∧ a.last = b.last ∧ a.slots = b.slots ∧ a.backs = b.backs ∧ a.grow = b.grow ∧ a.growBack = b.growBack ∧ a.ins = b.ins ∧ a.outs = b.outs ∧ a.cells = b.cells :=
  ⟨fun h => by subst h; exact ⟨rfl, rfl, rfl, rfl, rfl, rfl, rfl, rfl, rfl⟩, fun ⟨h1, h8, h2, h3, h4, h5, h6, h7, h9⟩ => T.ext' h1 h2 h3 h4 h5 h6 h7 h8 h9⟩
set_option maxHeartbeats 8000000 in
theorem alike_any {w : World} {x y : O} {va vb vc vd : Value} (ha : Reads w va x.stack) (hb : Reads w vb x.back) (hc : Reads w vc y.stack) (hd : Reads w vd y.back) (hl : x.stack.length ≤ 1000000 ∧ x.back.length ≤ 1000000) :
    Calls Tryz.prog 50 #[outV x va vb, outV y vc vd] w (Says (.bool (decide (x = y))) w) := by
  obtain ⟨w1, g, hw1, hg, HG, HB, HZ⟩ := newBox w (outA x va vb) 58
  obtain ⟨w2, g2, hw2, hg2, HG2, HB2, HZ2⟩ := newBox w1 (outA y vc vd) 58
  have HGb := Lib.hid (boxOn HG.out HB2.out)
  have HBF := Lib.hid (HB.out.trans (HB2.out.mono HB.out.size))
  have CS := Lib.hid (fun w3 (hbb : Below w2.heap.size w2 w3) => equalI_any ((ha.below HBF.out).below hbb) ((hc.below HBF.out).below hbb) hl.1)
  have CB := Lib.hid (fun w3 (hbb : Below w2.heap.size w2 w3) => equalI_any ((hb.below HBF.out).below hbb) ((hd.below HBF.out).below hbb) hl.2)
  obtain ⟨res, hres⟩ : ∃ res, decide (x = y) = res := ⟨_, rfl⟩
  have HRS := Lib.hid (show decide (x.ip = y.ip ∧ x.steps = y.steps ∧ x.stack = y.stack ∧ x.back = y.back) = res by rw [← hres]; exact decide_eq_decide.2 O.eq_iff.symm)
  rw [hres]
  obtain ⟨x0, x1, x2, x3⟩ := x
  obtain ⟨y0, y1, y2, y3⟩ := y
  obtain ⟨ao, ac, rfl⟩ := reads_form ha
  obtain ⟨bo, bc, rfl⟩ := reads_form hb
  obtain ⟨co, cc, rfl⟩ := reads_form hc
  obtain ⟨dO, dc, rfl⟩ := reads_form hd
  dsimp only at *
  have HCe := Lib.hid (fun w3 (hbb : Below w2.heap.size w2 w3) => show w3.cell? ⟨g, 3, none⟩ = some (.slice bo x3.length bc) ∧ w3.cell? ⟨g2, 3, none⟩ = some (.slice dO y3.length dc) from ⟨whole_cell (boxOn HGb.out hbb) rfl, whole_cell (boxOn HG2.out hbb) rfl⟩)
  have a0 : w2.cell? ⟨g, 0, none⟩ = some (.int .i64 x0) := whole_cell HGb.out rfl
  have a1 : w2.cell? ⟨g, 1, none⟩ = some (.int .i64 x1) := whole_cell HGb.out rfl
  have a2 : w2.cell? ⟨g, 2, none⟩ = some (.slice ao x2.length ac) := whole_cell HGb.out rfl
  have b0 : w2.cell? ⟨g2, 0, none⟩ = some (.int .i64 y0) := whole_cell HG2.out rfl
  have b1 : w2.cell? ⟨g2, 1, none⟩ = some (.int .i64 y1) := whole_cell HG2.out rfl
  have b2 : w2.cell? ⟨g2, 2, none⟩ = some (.slice co y2.length cc) := whole_cell HG2.out rfl
  clear ha hb hc hd hl hres
  by_cases q0 : x0 = y0
  case neg =>
    have HF := Lib.hid (show res = false by rw [← HRS.out]; exact decide_eq_false (fun h => q0 h.1))
    have e0 : (x0 == y0) = false := by rw [beq_eq_false_iff_ne]; exact q0
    clear q0 HRS
    go_enter Tryz.func50, Tryz.ntmps50
    go_wp2
    go_ret
    exact ⟨by rw [HF.out]; rfl, HBF.out⟩
  subst q0
  by_cases q1 : x1 = y1
  case neg =>
    have HF := Lib.hid (show res = false by rw [← HRS.out]; exact decide_eq_false (fun h => q1 h.2.1))
    have e1 : (x1 == y1) = false := by rw [beq_eq_false_iff_ne]; exact q1
    clear q1 HRS
    go_enter Tryz.func50, Tryz.ntmps50
    go_wp2
    go_ret
    exact ⟨by rw [HF.out]; rfl, HBF.out⟩
  subst q1
  have C := Lib.hid (CS.out w2 (Below.refl _ _))
  by_cases q2 : x2 = y2
  case neg =>
    have HF := Lib.hid (show res = false by rw [← HRS.out]; exact decide_eq_false (fun h => q2 h.2.2.1))
    rw [decide_eq_false q2] at C
    clear q2 HRS CS CB
    go_enter Tryz.func50, Tryz.ntmps50
    go_wp2_with fail
    refine C.out.mono ?_
    rintro e w3 ⟨rfl, hbb⟩
    have HB3 := Lib.hid (HBF.out.trans (hbb.mono HBF.out.size))
    clear hbb
    go_wp2
    go_ret
    exact ⟨by rw [HF.out]; rfl, HB3.out⟩
  rw [decide_eq_true q2] at C
  have HR := Lib.hid (show decide (x3 = y3) = res by rw [← HRS.out]; exact decide_eq_decide.2 ⟨fun h => ⟨rfl, rfl, q2, h⟩, fun h => h.2.2.2⟩)
  clear q2 HRS CS
  go_enter Tryz.func50, Tryz.ntmps50
  go_wp2_with fail
  refine C.out.mono ?_
  rintro e w3 ⟨rfl, hbb⟩
  have HB3 := Lib.hid (HBF.out.trans (hbb.mono HBF.out.size))
  have D := Lib.hid (CB.out w3 hbb)
  rw [HR.out] at D
  obtain ⟨k1, k2⟩ := HCe.out w3 hbb
  clear hbb C CB HCe
  go_wp2_with fail
  refine D.out.mono ?_
  rintro e w4 ⟨rfl, hbb⟩
  have HB4 := Lib.hid (HB3.out.trans (hbb.mono HB3.out.size))
  clear hbb D
  go_wp2
  go_ret
  exact ⟨rfl, HB4.out⟩
set_option maxHeartbeats 8000000 in
theorem equalO_any {w : World} {va vb : Value} {a b : List O} (ha : ReadsO w va a) (hb : ReadsO w vb b) (hl : a.length ≤ 1000000) (hs : ∀ o ∈ a, o.stack.length ≤ 1000000 ∧ o.back.length ≤ 1000000) :
    Calls Tryz.prog 49 #[va, vb, .func (.func 50) #[] #[]] w (Says (.bool (decide (a = b))) w) := by
  obtain ⟨ao, ac, rfl, -⟩ := id ha
  obtain ⟨bo, bc, rfl, -⟩ := id hb
  have HA := Lib.hid ha
  have HB := Lib.hid hb
  have HSM := Lib.hid hs
  obtain ⟨n, hn⟩ : ∃ n, a.length = n := ⟨_, rfl⟩
  obtain ⟨m, hm⟩ : ∃ m, b.length = m := ⟨_, rfl⟩
  have HN := Lib.hid hn
  have HM := Lib.hid hm
  rw [hn] at hl HA ⊢
  rw [hm] at HB ⊢
  obtain ⟨res, hres⟩ : ∃ res, decide (a = b) = res := ⟨_, rfl⟩
  have HRS := Lib.hid hres
  rw [hres]
  by_cases hnm : n = m
  case neg =>
    have HF := Lib.hid (show res = false by rw [← hres]; exact decide_eq_false (fun e => hnm (by rw [← hn, ← hm, e])))
    have e1 : ((n : Int) == (m : Int)) = false := by rw [beq_eq_false_iff_ne]; omega
    have e2 : (n == m) = false := by simpa using hnm
    have e3 : ((n : Int) != (m : Int)) = true := by rw [bne_iff_ne]; omega
    clear ha hb hs hn hm hres hnm
    go_enter Tryz.func49, Tryz.ntmps49
    go_wp2
    go_ret
    exact ⟨by rw [HF.out]; rfl, Below.refl _ _⟩
  subst hnm
  clear ha hb hs hn hm hres
  go_enter Tryz.func49, Tryz.ntmps49
  go_wp2
  go_loopg [17] n (fun z i wr => ∃ j : Nat, z = n - j ∧ j ≤ n ∧ i = .int .i64 (j : Int) ∧ Hid (Below w.heap.size w wr) ∧ Hid (decide (a.drop j = b.drop j) = res))
  case atStart => exact ⟨0, rfl, Nat.zero_le _, rfl, Lib.hid (Below.refl _ _), Lib.hid HRS.out⟩
  case round =>
    obtain ⟨j, rfl, hj, rfl, HBR, HJ⟩ := hrel
    by_cases hlt : j < n
    · obtain ⟨x, hx⟩ : ∃ x, a[j]? = some x := ⟨_, List.getElem?_eq_getElem (by rw [HN.out]; exact hlt)⟩
      obtain ⟨y, hy⟩ : ∃ y, b[j]? = some y := ⟨_, List.getElem?_eq_getElem (by rw [HM.out]; exact hlt)⟩
      have HS := Lib.hid (show decide (x = y ∧ a.drop (j + 1) = b.drop (j + 1)) = res by rw [← HJ.out]; exact decide_eq_decide.2 (rest_eq hx hy).symm)
      have HXS := Lib.hid (HSM.out x (List.mem_of_getElem? hx))
      obtain ⟨aa, vs, vt, rfl, a0, a1, a2, a3, hvs, hvt⟩ := ReadsO.at (HA.out.below HBR.out) hx
      obtain ⟨ba, vu, vv, rfl, b0, b1, b2, b3, hvu, hvv⟩ := ReadsO.at (HB.out.below HBR.out) hy
      obtain ⟨w2, g2, hw2, hg2, HG2, HB2, HZ2⟩ := newBox wr (outA x vs vt) 58
      obtain ⟨w3, g3, hw3, hg3, HG3, HB3, HZ3⟩ := newBox w2 (outA y vu vv) 58
      have HBq := Lib.hid (HB2.out.trans (HB3.out.mono HB2.out.size))
      have C := Lib.hid (alike_any (hvs.below HBq.out) (hvt.below HBq.out) (hvu.below HBq.out) (hvv.below HBq.out) HXS.out)
      have HGq := Lib.hid (boxOn HG2.out HB3.out)
      have b0 := cellOn HB2.out b0
      have b1 := cellOn HB2.out b1
      have b2 := cellOn HB2.out b2
      have b3 := cellOn HB2.out b3
      obtain ⟨x0, x1, x2, x3⟩ := x
      obtain ⟨y0, y1, y2, y3⟩ := y
      obtain ⟨so, sc, rfl⟩ := reads_form hvs
      obtain ⟨to', tc, rfl⟩ := reads_form hvt
      obtain ⟨uo, uc, rfl⟩ := reads_form hvu
      obtain ⟨vo, vc, rfl⟩ := reads_form hvv
      dsimp only at *
      have p0 : w3.cell? ⟨g2, 0, none⟩ = some (.int .i64 x0) := whole_cell HGq.out rfl
      have p1 : w3.cell? ⟨g2, 1, none⟩ = some (.int .i64 x1) := whole_cell HGq.out rfl
      have p2 : w3.cell? ⟨g2, 2, none⟩ = some (.slice so x2.length sc) := whole_cell HGq.out rfl
      have p3 : w3.cell? ⟨g2, 3, none⟩ = some (.slice to' x3.length tc) := whole_cell HGq.out rfl
      have q0 : w3.cell? ⟨g3, 0, none⟩ = some (.int .i64 y0) := whole_cell HG3.out rfl
      have q1 : w3.cell? ⟨g3, 1, none⟩ = some (.int .i64 y1) := whole_cell HG3.out rfl
      have q2 : w3.cell? ⟨g3, 2, none⟩ = some (.slice uo y2.length uc) := whole_cell HG3.out rfl
      have q3 : w3.cell? ⟨g3, 3, none⟩ = some (.slice vo y3.length vc) := whole_cell HG3.out rfl
      have z0 : (0 : Int) ≤ (j : Int) := by omega
      have z1 : (j : Int) < (n : Int) := by omega
      have HBw := Lib.hid (HBR.out.trans (HBq.out.mono HBR.out.size))
      clear HJ hx hy hvs hvt hvu hvv
      by_cases hxy : (⟨x0, x1, x2, x3⟩ : O) = ⟨y0, y1, y2, y3⟩
      · have HP := Lib.hid (show decide (a.drop (j + 1) = b.drop (j + 1)) = res by rw [← HS.out]; exact decide_eq_decide.2 ⟨fun h => ⟨hxy, h⟩, fun h => h.2⟩)
        rw [decide_eq_true hxy] at C
        clear HS hxy
        go_wp2_with fail
        refine C.out.mono ?_
        rintro e w5 ⟨rfl, hbb⟩
        have HB5 := Lib.hid (HBw.out.trans (hbb.mono HBw.out.size))
        clear hbb C
        go_wp2
        go_roundg (n - (j + 1))
        case measure => omega
        case rel => exact ⟨j + 1, rfl, by omega, by go_num, HB5, HP⟩
      · have HF := Lib.hid (show res = false by rw [← HS.out]; exact decide_eq_false (fun h => hxy h.1))
        rw [decide_eq_false hxy] at C
        clear HS hxy
        go_wp2_with fail
        refine C.out.mono ?_
        rintro e w5 ⟨rfl, hbb⟩
        have HB5 := Lib.hid (HBw.out.trans (hbb.mono HBw.out.size))
        clear hbb C
        go_wp2
        go_ret
        exact ⟨by rw [HF.out]; rfl, HB5.out⟩
    · obtain rfl : j = n := by omega
      have HF := Lib.hid (show res = true by rw [← HJ.out, drop_end HN.out, drop_end HM.out]; rfl)
      go_wp2
      go_ret
      exact ⟨by rw [HF.out]; rfl, HBR.out⟩
set_option maxHeartbeats 16000000 in
theorem same_any {w : World} {s t : T} {ui uo uc vi vo vc : Value} (ha : ReadsL w ui uo uc s) (hb : ReadsL w vi vo vc t) (hs : Small s) :
    Calls Tryz.prog 10 #[trV s ui uo uc, trV t vi vo vc] w (Says (.bool (decide (s = t))) w) := by
  obtain ⟨w1, g, hw1, hg, HG, HB, HZ⟩ := newBox w (trA s ui uo uc) 26
  obtain ⟨w2, g2, hw2, hg2, HG2, HB2, HZ2⟩ := newBox w1 (trA t vi vo vc) 26
  have HGb := Lib.hid (boxOn HG.out HB2.out)
  have HBF := Lib.hid (HB.out.trans (HB2.out.mono HB.out.size))
  have C1 := Lib.hid (equalC_any (ha.ins.below HBF.out) (hb.ins.below HBF.out) hs.ins)
  have C2 := Lib.hid (fun w3 (hbb : Below w2.heap.size w2 w3) => equalO_any ((ha.outs.below HBF.out).below hbb) ((hb.outs.below HBF.out).below hbb) hs.outs hs.stack)
  have C3 := Lib.hid (fun w3 (hbb : Below w2.heap.size w2 w3) => equalI_any ((ha.cells.below HBF.out).below hbb) ((hb.cells.below HBF.out).below hbb) hs.cells)
  have HCe := Lib.hid (fun w3 (hbb : Below w2.heap.size w2 w3) => And.intro (cells9 (boxOn HGb.out hbb)) (cells9 (boxOn HG2.out hbb)))
  obtain ⟨res, hres⟩ : ∃ res, decide (s = t) = res := ⟨_, rfl⟩
  have HRS := Lib.hid (show decide (s.start = t.start ∧ s.last = t.last ∧ s.slots = t.slots ∧ s.backs = t.backs ∧ s.grow = t.grow ∧ s.growBack = t.growBack ∧ s.ins = t.ins ∧ s.outs = t.outs ∧ s.cells = t.cells) = res by rw [← hres]; exact decide_eq_decide.2 T.eq_iff.symm)
  rw [hres]
  obtain ⟨ai, ci, ao, co, ac, cc, rfl, rfl, rfl⟩ := ha.known
  obtain ⟨bi, di, bo, dO, bc, dc, rfl, rfl, rfl⟩ := hb.known
  obtain ⟨a0, a1, a2, a3, a4, a5, a6, a7, a8⟩ := cells9 HGb.out
  obtain ⟨b0, b1, b2, b3, b4, b5, b6, b7, b8⟩ := cells9 HG2.out
  obtain ⟨s0, s1, s2, s3, s4, s5, s6, s7, s8⟩ := s
  obtain ⟨t0, t1, t2, t3, t4, t5, t6, t7, t8⟩ := t
  dsimp only at *
  clear ha hb hs hres
  by_cases q0 : s0 = t0
  case neg =>
    have HF := Lib.hid (show res = false by rw [← HRS.out]; exact decide_eq_false (fun h => q0 h.1))
    have e0 : (s0 == t0) = false := by rw [beq_eq_false_iff_ne]; exact q0
    clear q0 HRS C1 C2 C3 HCe
    go_enter Tryz.func10, Tryz.ntmps10
    go_wp2
    go_ret
    exact ⟨by rw [HF.out]; rfl, HBF.out⟩
  subst q0
  by_cases q7 : s7 = t7
  case neg =>
    have HF := Lib.hid (show res = false by rw [← HRS.out]; exact decide_eq_false (fun h => q7 h.2.1))
    have e7 : (s7 == t7) = false := by rw [beq_eq_false_iff_ne]; exact q7
    clear q7 HRS C1 C2 C3 HCe
    go_enter Tryz.func10, Tryz.ntmps10
    go_wp2
    go_ret
    exact ⟨by rw [HF.out]; rfl, HBF.out⟩
  subst q7
  by_cases q1 : s1 = t1
  case neg =>
    have HF := Lib.hid (show res = false by rw [← HRS.out]; exact decide_eq_false (fun h => q1 h.2.2.1))
    have e1 : (s1 == t1) = false := by rw [beq_eq_false_iff_ne]; exact q1
    clear q1 HRS C1 C2 C3 HCe
    go_enter Tryz.func10, Tryz.ntmps10
    go_wp2
    go_ret
    exact ⟨by rw [HF.out]; rfl, HBF.out⟩
  subst q1
  by_cases q2 : s2 = t2
  case neg =>
    have HF := Lib.hid (show res = false by rw [← HRS.out]; exact decide_eq_false (fun h => q2 h.2.2.2.1))
    have e2 : (s2 == t2) = false := by rw [beq_eq_false_iff_ne]; exact q2
    clear q2 HRS C1 C2 C3 HCe
    go_enter Tryz.func10, Tryz.ntmps10
    go_wp2
    go_ret
    exact ⟨by rw [HF.out]; rfl, HBF.out⟩
  subst q2
  by_cases q3 : s3 = t3
  case neg =>
    have HF := Lib.hid (show res = false by rw [← HRS.out]; exact decide_eq_false (fun h => q3 h.2.2.2.2.1))
    have e3 : (s3 == t3) = false := by rw [beq_eq_false_iff_ne]; exact q3
    clear q3 HRS C1 C2 C3 HCe
    go_enter Tryz.func10, Tryz.ntmps10
    go_wp2
    go_ret
    exact ⟨by rw [HF.out]; rfl, HBF.out⟩
  subst q3
  by_cases q4 : s4 = t4
  case neg =>
    have HF := Lib.hid (show res = false by rw [← HRS.out]; exact decide_eq_false (fun h => q4 h.2.2.2.2.2.1))
    have e4 : (s4 == t4) = false := by rw [beq_eq_false_iff_ne]; exact q4
    clear q4 HRS C1 C2 C3 HCe
    go_enter Tryz.func10, Tryz.ntmps10
    go_wp2
    go_ret
    exact ⟨by rw [HF.out]; rfl, HBF.out⟩
  subst q4
  by_cases q5 : s5 = t5
  case neg =>
    have HF := Lib.hid (show res = false by rw [← HRS.out]; exact decide_eq_false (fun h => q5 h.2.2.2.2.2.2.1))
    rw [decide_eq_false q5] at C1
    clear q5 HRS C2 C3 HCe
    go_enter Tryz.func10, Tryz.ntmps10
    go_wp2_with fail
    refine C1.out.mono ?_
    rintro e w3 ⟨rfl, hbb⟩
    have HB3 := Lib.hid (HBF.out.trans (hbb.mono HBF.out.size))
    clear hbb
    go_wp2
    go_ret
    exact ⟨by rw [HF.out]; rfl, HB3.out⟩
  rw [decide_eq_true q5] at C1
  by_cases q6 : s6 = t6
  case neg =>
    have HF := Lib.hid (show res = false by rw [← HRS.out]; exact decide_eq_false (fun h => q6 h.2.2.2.2.2.2.2.1))
    rw [decide_eq_false q6] at C2
    clear q5 q6 HRS C3
    go_enter Tryz.func10, Tryz.ntmps10
    go_wp2_with fail
    refine C1.out.mono ?_
    rintro e w3 ⟨rfl, hbb⟩
    have HB3 := Lib.hid (HBF.out.trans (hbb.mono HBF.out.size))
    have D := Lib.hid (C2.out w3 hbb)
    obtain ⟨⟨-, -, -, -, -, -, k6, -, -⟩, ⟨-, -, -, -, -, -, l6, -, -⟩⟩ := HCe.out w3 hbb
    clear hbb C1 C2 HCe
    go_wp2_with fail
    refine D.out.mono ?_
    rintro e w4 ⟨rfl, hbb⟩
    have HB4 := Lib.hid (HB3.out.trans (hbb.mono HB3.out.size))
    clear hbb D
    go_wp2
    go_ret
    exact ⟨by rw [HF.out]; rfl, HB4.out⟩
  rw [decide_eq_true q6] at C2
  have HR := Lib.hid (show decide (s8 = t8) = res by rw [← HRS.out]; exact decide_eq_decide.2 ⟨fun h => ⟨rfl, rfl, rfl, rfl, rfl, rfl, q5, q6, h⟩, fun h => h.2.2.2.2.2.2.2.2⟩)
  rw [HR.out] at C3
  clear q5 q6 HRS
  go_enter Tryz.func10, Tryz.ntmps10
  go_wp2_with fail
  refine C1.out.mono ?_
  rintro e w3 ⟨rfl, hbb⟩
  have HBX := Lib.hid hbb
  have HB3 := Lib.hid (HBF.out.trans (hbb.mono HBF.out.size))
  have D := Lib.hid (C2.out w3 hbb)
  obtain ⟨⟨-, -, -, -, -, -, k6, -, -⟩, ⟨-, -, -, -, -, -, l6, -, -⟩⟩ := HCe.out w3 hbb
  clear hbb C1 C2
  go_wp2_with fail
  refine D.out.mono ?_
  rintro e w4 ⟨rfl, hbb⟩
  have HB4 := Lib.hid (HB3.out.trans (hbb.mono HB3.out.size))
  have HBX := Lib.hid (HBX.out.trans (hbb.mono HBX.out.size))
  have E := Lib.hid (C3.out w4 HBX.out)
  obtain ⟨⟨-, -, -, -, -, -, -, -, m8⟩, ⟨-, -, -, -, -, -, -, -, n8⟩⟩ := HCe.out w4 HBX.out
  clear hbb D C3 HCe
  go_wp2_with fail
  refine E.out.mono ?_
  rintro e w5 ⟨rfl, hbb⟩
  have HB5 := Lib.hid (HB4.out.trans (hbb.mono HB4.out.size))
  clear hbb E
  go_wp2
  go_ret
  exact ⟨rfl, HB5.out⟩
end Go.Proofs.YtpecingkoodmfaaGreatDoor.Ir
