
/- hollowaybook's comparisons of lists and traces, whatever they come to. -/
import Derived.Test.YtpecingkoodmfaaGreatDoorIrSameT
import Derived.BigQuiet
import Derived.Deep.QuietTactic
namespace Go.Proofs.YtpecingkoodmfaaGreatDoor.Ir
open Go.RowKit Book Mem
set_option linter.unusedSimpArgs false
set_option linter.unusedVariables false
set_option maxHeartbeats 4000000 in
theorem sameInts_any {w : World} {va vb : Value} {a b : List Int} (ha : Reads w va a) (hb : Reads w vb b) (hl : a.length ≤ 1000000) :
    Calls Tryz.prog 21 #[va, vb] w fun e w' => e = .returned (.bool (decide (a = b))) ∧ ∃ q, w' = w.drewN q := by
  obtain ⟨ao, ac, rfl, -⟩ := id ha
  obtain ⟨bo, bc, rfl, -⟩ := id hb
  have HA := Lib.hid ha
  have HB := Lib.hid hb
  obtain ⟨n, hn⟩ : ∃ n, a.length = n := ⟨_, rfl⟩
  obtain ⟨m, hm⟩ : ∃ m, b.length = m := ⟨_, rfl⟩
  have HN := Lib.hid hn
  have HM := Lib.hid hm
  rw [hn] at hl HA ⊢
  rw [hm] at HB ⊢
  obtain ⟨res, hres⟩ : ∃ res, decide (a = b) = res := ⟨_, rfl⟩
  have HRS := Lib.hid hres
  rw [hres]
  by_cases hnm : n = m
  case neg =>
    have HF := Lib.hid (show res = false by rw [← hres]; exact decide_eq_false (fun e => hnm (by rw [← hn, ← hm, e])))
    have e1 : ((n : Int) == (m : Int)) = false := by rw [beq_eq_false_iff_ne]; omega
    have e2 : (n == m) = false := by simpa using hnm
    have e3 : ((n : Int) != (m : Int)) = true := by rw [bne_iff_ne]; omega
    clear ha hb hn hm hres hnm
    go_enter Tryz.func21, Tryz.ntmps21
    go_wp2
    go_ret
    exact ⟨by rw [HF.out]; rfl, 0, rfl⟩
  subst hnm
  clear ha hb hn hm hres
  go_enter Tryz.func21, Tryz.ntmps21
  go_wp2
  go_loopg [5] n (fun z i wr => ∃ j q : Nat, z = n - j ∧ j ≤ n ∧ i = .int .i64 (j : Int) ∧ wr = w.drewN q ∧ Hid (decide (a.drop j = b.drop j) = res))
  case atStart => exact ⟨0, 0, rfl, Nat.zero_le _, rfl, rfl, Lib.hid HRS.out⟩
  case round =>
    obtain ⟨j, q, rfl, hj, rfl, hwr, HJ⟩ := hrel
    subst wr
    by_cases hlt : j < n
    · obtain ⟨x, hx⟩ : ∃ x, a[j]? = some x := ⟨_, List.getElem?_eq_getElem (by rw [HN.out]; exact hlt)⟩
      obtain ⟨y, hy⟩ : ∃ y, b[j]? = some y := ⟨_, List.getElem?_eq_getElem (by rw [HM.out]; exact hlt)⟩
      have HS := Lib.hid (show decide (x = y ∧ a.drop (j + 1) = b.drop (j + 1)) = res by rw [← HJ.out]; exact decide_eq_decide.2 (rest_eq hx hy).symm)
      obtain ⟨aa, rfl, ca⟩ := Reads.at' HA.out hx
      obtain ⟨ba, rfl, cb⟩ := Reads.at' HB.out hy
      have z0 : (0 : Int) ≤ (j : Int) := by omega
      have z1 : (j : Int) < (n : Int) := by omega
      clear HJ hx hy
      by_cases hxy : x = y
      · subst hxy
        have HP := Lib.hid (show decide (a.drop (j + 1) = b.drop (j + 1)) = res by rw [← HS.out]; exact decide_eq_decide.2 ⟨fun h => ⟨rfl, h⟩, fun h => h.2⟩)
        clear HS
        go_wp2
        go_quiet (fail)
        go_wp2
        go_roundg (n - (j + 1))
        case measure => omega
        case rel => exact ⟨j + 1, _, rfl, by omega, by go_num, rfl, HP⟩
      · have HF := Lib.hid (show res = false by rw [← HS.out]; exact decide_eq_false (fun h => hxy h.1))
        have e1 : (x == y) = false := by rw [beq_eq_false_iff_ne]; exact hxy
        clear HS hxy
        go_wp2
        go_quiet (fail)
        go_wp2
        go_ret
        exact ⟨by rw [HF.out]; rfl, _, World.drewN_drewN _ _ _⟩
    · obtain rfl : j = n := by omega
      have HF := Lib.hid (show res = true by rw [← HJ.out, drop_end HN.out, drop_end HM.out]; rfl)
      go_wp2
      go_ret
      exact ⟨by rw [HF.out]; rfl, q, rfl⟩
set_option maxHeartbeats 4000000 in
theorem sameCodes_any {w : World} {va vb : Value} {a b : List I} (ha : ReadsI w va a) (hb : ReadsI w vb b) (hl : a.length ≤ 1000000) :
    Calls Tryz.prog 52 #[va, vb] w fun e w' => e = .returned (.bool (decide (a = b))) ∧ ∃ q, w' = w.drewN q := by
  obtain ⟨ao, ac, rfl, -⟩ := id ha
  obtain ⟨bo, bc, rfl, -⟩ := id hb
  have HA := Lib.hid ha
  have HB := Lib.hid hb
  obtain ⟨n, hn⟩ : ∃ n, a.length = n := ⟨_, rfl⟩
  obtain ⟨m, hm⟩ : ∃ m, b.length = m := ⟨_, rfl⟩
  have HN := Lib.hid hn
  have HM := Lib.hid hm
  rw [hn] at hl HA ⊢
  rw [hm] at HB ⊢
  obtain ⟨res, hres⟩ : ∃ res, decide (a = b) = res := ⟨_, rfl⟩
  have HRS := Lib.hid hres
  rw [hres]
  by_cases hnm : n = m
  case neg =>
    have HF := Lib.hid (show res = false by rw [← hres]; exact decide_eq_false (fun e => hnm (by rw [← hn, ← hm, e])))
    have e1 : ((n : Int) == (m : Int)) = false := by rw [beq_eq_false_iff_ne]; omega
    have e2 : (n == m) = false := by simpa using hnm
    have e3 : ((n : Int) != (m : Int)) = true := by rw [bne_iff_ne]; omega
    clear ha hb hn hm hres hnm
    go_enter Tryz.func52, Tryz.ntmps52
    go_wp2
    go_ret
    exact ⟨by rw [HF.out]; rfl, 0, rfl⟩
  subst hnm
  clear ha hb hn hm hres
  go_enter Tryz.func52, Tryz.ntmps52
  go_wp2
  go_loopg [5] n (fun z i wr => ∃ j q : Nat, z = n - j ∧ j ≤ n ∧ i = .int .i64 (j : Int) ∧ wr = w.drewN q ∧ Hid (decide (a.drop j = b.drop j) = res))
  case atStart => exact ⟨0, 0, rfl, Nat.zero_le _, rfl, rfl, Lib.hid HRS.out⟩
  case round =>
    obtain ⟨j, q, rfl, hj, rfl, hwr, HJ⟩ := hrel
    subst wr
    by_cases hlt : j < n
    · obtain ⟨x, hx⟩ : ∃ x, a[j]? = some x := ⟨_, List.getElem?_eq_getElem (by rw [HN.out]; exact hlt)⟩
      obtain ⟨y, hy⟩ : ∃ y, b[j]? = some y := ⟨_, List.getElem?_eq_getElem (by rw [HM.out]; exact hlt)⟩
      have HS := Lib.hid (show decide (x = y ∧ a.drop (j + 1) = b.drop (j + 1)) = res by rw [← HJ.out]; exact decide_eq_decide.2 (rest_eq hx hy).symm)
      obtain ⟨aa, rfl, a0, a1, a2, a3, a4⟩ := ReadsI.at HA.out hx
      obtain ⟨ba, rfl, b0, b1, b2, b3, b4⟩ := ReadsI.at HB.out hy
      have z0 : (0 : Int) ≤ (j : Int) := by omega
      have z1 : (j : Int) < (n : Int) := by omega
      have heq := ins_eql x y
      obtain ⟨x0, x1, x2, x3, x4⟩ := x
      obtain ⟨y0, y1, y2, y3, y4⟩ := y
      dsimp only [insV, insA] at a0 a1 a2 a3 a4 b0 b1 b2 b3 b4 heq
      clear HJ hx hy
      by_cases hxy : ((x0, x1, x2, x3, x4) : I) = (y0, y1, y2, y3, y4)
      · have HP := Lib.hid (show decide (a.drop (j + 1) = b.drop (j + 1)) = res by rw [← HS.out]; exact decide_eq_decide.2 ⟨fun h => ⟨hxy, h⟩, fun h => h.2⟩)
        rw [decide_eq_true hxy] at heq
        clear HS hxy
        go_wp2
        go_quiet (fail)
        go_wp2
        go_roundg (n - (j + 1))
        case measure => omega
        case rel => exact ⟨j + 1, _, rfl, by omega, by go_num, rfl, HP⟩
      · have HF := Lib.hid (show res = false by rw [← HS.out]; exact decide_eq_false (fun h => hxy h.1))
        rw [decide_eq_false hxy] at heq
        clear HS hxy
        go_wp2
        go_quiet (fail)
        go_wp2
        go_ret
        exact ⟨by rw [HF.out]; rfl, _, World.drewN_drewN _ _ _⟩
    · obtain rfl : j = n := by omega
      have HF := Lib.hid (show res = true by rw [← HJ.out, drop_end HN.out, drop_end HM.out]; rfl)
      go_wp2
      go_ret
      exact ⟨by rw [HF.out]; rfl, q, rfl⟩
set_option maxHeartbeats 8000000 in
theorem sameExits_any {w : World} {va vb : Value} {a b : List O} (ha : ReadsO w va a) (hb : ReadsO w vb b) (hl : a.length ≤ 1000000) (hs : ∀ o ∈ a, o.stack.length ≤ 1000000 ∧ o.back.length ≤ 1000000) :
    Calls Tryz.prog 53 #[va, vb] w (Says (.bool (decide (a = b))) w) := by
  obtain ⟨ao, ac, rfl, -⟩ := id ha
  obtain ⟨bo, bc, rfl, -⟩ := id hb
  have HA := Lib.hid ha
  have HB := Lib.hid hb
  have HSM := Lib.hid hs
  obtain ⟨n, hn⟩ : ∃ n, a.length = n := ⟨_, rfl⟩
  obtain ⟨m, hm⟩ : ∃ m, b.length = m := ⟨_, rfl⟩
  have HN := Lib.hid hn
  have HM := Lib.hid hm
  rw [hn] at hl HA ⊢
  rw [hm] at HB ⊢
  obtain ⟨res, hres⟩ : ∃ res, decide (a = b) = res := ⟨_, rfl⟩
  have HRS := Lib.hid hres
  rw [hres]
  by_cases hnm : n = m
  case neg =>
    have HF := Lib.hid (show res = false by rw [← hres]; exact decide_eq_false (fun e => hnm (by rw [← hn, ← hm, e])))
    have e1 : ((n : Int) == (m : Int)) = false := by rw [beq_eq_false_iff_ne]; omega
    have e2 : (n == m) = false := by simpa using hnm
    have e3 : ((n : Int) != (m : Int)) = true := by rw [bne_iff_ne]; omega
    clear ha hb hs hn hm hres hnm
    go_enter Tryz.func53, Tryz.ntmps53
    go_wp2
    go_ret
    exact ⟨by rw [HF.out]; rfl, Below.refl _ _⟩
  subst hnm
  clear ha hb hs hn hm hres
  go_enter Tryz.func53, Tryz.ntmps53
  go_wp2
  go_loopg [5] n (fun z i wr => ∃ j : Nat, z = n - j ∧ j ≤ n ∧ i = .int .i64 (j : Int) ∧ Hid (Below w.heap.size w wr) ∧ Hid (decide (a.drop j = b.drop j) = res))
  case atStart => exact ⟨0, rfl, Nat.zero_le _, rfl, Lib.hid (Below.refl _ _), Lib.hid HRS.out⟩
  case round =>
    obtain ⟨j, rfl, hj, rfl, HBR, HJ⟩ := hrel
    by_cases hlt : j < n
    · obtain ⟨x, hx⟩ : ∃ x, a[j]? = some x := ⟨_, List.getElem?_eq_getElem (by rw [HN.out]; exact hlt)⟩
      obtain ⟨y, hy⟩ : ∃ y, b[j]? = some y := ⟨_, List.getElem?_eq_getElem (by rw [HM.out]; exact hlt)⟩
      have HS := Lib.hid (show decide ((x.ip = y.ip ∧ x.steps = y.steps ∧ x.stack = y.stack ∧ x.back = y.back) ∧ a.drop (j + 1) = b.drop (j + 1)) = res by rw [← HJ.out]; exact decide_eq_decide.2 (by rw [rest_eq hx hy, O.eq_iff]))
      have HXS := Lib.hid (HSM.out x (List.mem_of_getElem? hx))
      obtain ⟨aa, vs, vt, rfl, a0, a1, a2, a3, hvs, hvt⟩ := ReadsO.at (HA.out.below HBR.out) hx
      obtain ⟨ba, vu, vv, rfl, b0, b1, b2, b3, hvu, hvv⟩ := ReadsO.at (HB.out.below HBR.out) hy
      have CS := fun k => Lib.hid (sameInts_any (hvs.below (drewB wr k)) (hvu.below (drewB wr k)) HXS.out.1)
      have CB := fun k => Lib.hid (sameInts_any (hvt.below (drewB wr k)) (hvv.below (drewB wr k)) HXS.out.2)
      obtain ⟨x0, x1, x2, x3⟩ := x
      obtain ⟨y0, y1, y2, y3⟩ := y
      obtain ⟨so, sc, rfl⟩ := reads_form hvs
      obtain ⟨to', tc, rfl⟩ := reads_form hvt
      obtain ⟨uo, uc, rfl⟩ := reads_form hvu
      obtain ⟨vo, vc, rfl⟩ := reads_form hvv
      dsimp only at *
      have z0 : (0 : Int) ≤ (j : Int) := by omega
      have z1 : (j : Int) < (n : Int) := by omega
      clear HJ hx hy hvs hvt hvu hvv
      by_cases q0 : x0 = y0
      case neg =>
        have HF := Lib.hid (show res = false by rw [← HS.out]; exact decide_eq_false (fun h => q0 h.1.1))
        have e0 : (x0 == y0) = false := by rw [beq_eq_false_iff_ne]; exact q0
        clear HS q0 CS CB
        go_wp2
        go_quiet (fail)
        go_wp2
        go_ret
        exact ⟨by rw [HF.out]; rfl, HBR.out.trans ((drewB wr _).mono HBR.out.size)⟩
      subst q0
      by_cases q1 : x1 = y1
      case neg =>
        have HF := Lib.hid (show res = false by rw [← HS.out]; exact decide_eq_false (fun h => q1 h.1.2.1))
        have e0 : (x1 == y1) = false := by rw [beq_eq_false_iff_ne]; exact q1
        clear HS q1 CS CB
        go_wp2
        go_quiet (fail)
        go_wp2
        go_ret
        exact ⟨by rw [HF.out]; rfl, HBR.out.trans ((drewB wr _).mono HBR.out.size)⟩
      subst q1
      by_cases q2 : x2 = y2
      case neg =>
        have HF := Lib.hid (show res = false by rw [← HS.out]; exact decide_eq_false (fun h => q2 h.1.2.2.1))
        rw [decide_eq_false q2] at CS
        clear HS q2 CB
        go_wp2
        go_quiet ((go_at_call 21; exact Calls.quiet_of (CS _).out))
        go_wp2
        go_ret
        exact ⟨by rw [HF.out]; rfl, HBR.out.trans ((drewB wr _).mono HBR.out.size)⟩
      rw [decide_eq_true q2] at CS
      by_cases q3 : x3 = y3
      case neg =>
        have HF := Lib.hid (show res = false by rw [← HS.out]; exact decide_eq_false (fun h => q3 h.1.2.2.2))
        rw [decide_eq_false q3] at CB
        clear HS q2 q3
        go_wp2
        go_quiet (first | (go_at_call 21; with_reducible exact Calls.quiet_of (CS _).out) | (go_at_call 21; with_reducible exact Calls.quiet_of (CB _).out))
        go_wp2
        go_ret
        exact ⟨by rw [HF.out]; rfl, HBR.out.trans ((drewB wr _).mono HBR.out.size)⟩
      rw [decide_eq_true q3] at CB
      have HP := Lib.hid (show decide (a.drop (j + 1) = b.drop (j + 1)) = res by rw [← HS.out]; exact decide_eq_decide.2 ⟨fun h => ⟨⟨rfl, rfl, q2, q3⟩, h⟩, fun h => h.2⟩)
      clear HS q2 q3
      go_wp2
      go_quiet (first | (go_at_call 21; with_reducible exact Calls.quiet_of (CS _).out) | (go_at_call 21; with_reducible exact Calls.quiet_of (CB _).out))
      go_wp2
      go_roundg (n - (j + 1))
      case measure => omega
      case rel => exact ⟨j + 1, rfl, by omega, by go_num, Lib.hid (HBR.out.trans ((drewB wr _).mono HBR.out.size)), HP⟩
    · obtain rfl : j = n := by omega
      have HF := Lib.hid (show res = true by rw [← HJ.out, drop_end HN.out, drop_end HM.out]; rfl)
      go_wp2
      go_ret
      exact ⟨by rw [HF.out]; rfl, HBR.out⟩
theorem drew_says {f : FuncId} {args : Array Value} {w : World} {v : Value} (h : Calls Tryz.prog f args w fun e w' => e = .returned v ∧ ∃ q, w' = w.drewN q) : Calls Tryz.prog f args w (Says v w) :=
  h.mono fun e w' hh => ⟨hh.1, by obtain ⟨q, hq⟩ := hh.2; rw [hq]; exact drewB w q⟩
set_option maxHeartbeats 16000000 in
theorem sameTrace_any {w : World} {s t : T} {ui uo uc vi vo vc : Value} (ha : ReadsL w ui uo uc s) (hb : ReadsL w vi vo vc t) (hs : Small s) :
    Calls Tryz.prog 11 #[trV s ui uo uc, trV t vi vo vc] w (Says (.bool (decide (s = t))) w) := by
  obtain ⟨w1, g, hw1, hg, HG, HB, HZ⟩ := newBox w (trA s ui uo uc) 26
  obtain ⟨w2, g2, hw2, hg2, HG2, HB2, HZ2⟩ := newBox w1 (trA t vi vo vc) 26
  have HGb := Lib.hid (boxOn HG.out HB2.out)
  have HBF := Lib.hid (HB.out.trans (HB2.out.mono HB.out.size))
  have C1 := Lib.hid (drew_says (sameCodes_any (ha.ins.below HBF.out) (hb.ins.below HBF.out) hs.ins))
  have C2 := Lib.hid (fun w3 (hbb : Below w2.heap.size w2 w3) => sameExits_any ((ha.outs.below HBF.out).below hbb) ((hb.outs.below HBF.out).below hbb) hs.outs hs.stack)
  have C3 := Lib.hid (fun w3 (hbb : Below w2.heap.size w2 w3) => drew_says (sameInts_any ((ha.cells.below HBF.out).below hbb) ((hb.cells.below HBF.out).below hbb) hs.cells))
  have HCe := Lib.hid (fun w3 (hbb : Below w2.heap.size w2 w3) => And.intro (cells9 (boxOn HGb.out hbb)) (cells9 (boxOn HG2.out hbb)))
  obtain ⟨res, hres⟩ : ∃ res, decide (s = t) = res := ⟨_, rfl⟩
  have HRS := Lib.hid (show decide (s.start = t.start ∧ s.last = t.last ∧ s.slots = t.slots ∧ s.backs = t.backs ∧ s.grow = t.grow ∧ s.growBack = t.growBack ∧ s.ins = t.ins ∧ s.outs = t.outs ∧ s.cells = t.cells) = res by rw [← hres]; exact decide_eq_decide.2 T.eq_iff.symm)
  rw [hres]
  obtain ⟨ai, ci, ao, co, ac, cc, rfl, rfl, rfl⟩ := ha.known
  obtain ⟨bi, di, bo, dO, bc, dc, rfl, rfl, rfl⟩ := hb.known
  obtain ⟨a0, a1, a2, a3, a4, a5, a6, a7, a8⟩ := cells9 HGb.out
  obtain ⟨b0, b1, b2, b3, b4, b5, b6, b7, b8⟩ := cells9 HG2.out
  obtain ⟨s0, s1, s2, s3, s4, s5, s6, s7, s8⟩ := s
  obtain ⟨t0, t1, t2, t3, t4, t5, t6, t7, t8⟩ := t
  dsimp only at *
  clear ha hb hs hres
  by_cases q0 : s0 = t0
  case neg =>
    have HF := Lib.hid (show res = false by rw [← HRS.out]; exact decide_eq_false (fun h => q0 h.1))
    have e0 : (s0 == t0) = false := by rw [beq_eq_false_iff_ne]; exact q0
    clear q0 HRS C1 C2 C3 HCe
    go_enter Tryz.func11, Tryz.ntmps11
    go_wp2
    go_ret
    exact ⟨by rw [HF.out]; rfl, HBF.out⟩
  subst q0
  by_cases q1 : s1 = t1
  case neg =>
    have HF := Lib.hid (show res = false by rw [← HRS.out]; exact decide_eq_false (fun h => q1 h.2.2.1))
    have e1 : (s1 == t1) = false := by rw [beq_eq_false_iff_ne]; exact q1
    clear q1 HRS C1 C2 C3 HCe
    go_enter Tryz.func11, Tryz.ntmps11
    go_wp2
    go_ret
    exact ⟨by rw [HF.out]; rfl, HBF.out⟩
  subst q1
  by_cases q2 : s2 = t2
  case neg =>
    have HF := Lib.hid (show res = false by rw [← HRS.out]; exact decide_eq_false (fun h => q2 h.2.2.2.1))
    have e2 : (s2 == t2) = false := by rw [beq_eq_false_iff_ne]; exact q2
    clear q2 HRS C1 C2 C3 HCe
    go_enter Tryz.func11, Tryz.ntmps11
    go_wp2
    go_ret
    exact ⟨by rw [HF.out]; rfl, HBF.out⟩
  subst q2
  by_cases q3 : s3 = t3
  case neg =>
    have HF := Lib.hid (show res = false by rw [← HRS.out]; exact decide_eq_false (fun h => q3 h.2.2.2.2.1))
    have e3 : (s3 == t3) = false := by rw [beq_eq_false_iff_ne]; exact q3
    clear q3 HRS C1 C2 C3 HCe
    go_enter Tryz.func11, Tryz.ntmps11
    go_wp2
    go_ret
    exact ⟨by rw [HF.out]; rfl, HBF.out⟩
  subst q3
  by_cases q4 : s4 = t4
  case neg =>
    have HF := Lib.hid (show res = false by rw [← HRS.out]; exact decide_eq_false (fun h => q4 h.2.2.2.2.2.1))
    have e4 : (s4 == t4) = false := by rw [beq_eq_false_iff_ne]; exact q4
    clear q4 HRS C1 C2 C3 HCe
    go_enter Tryz.func11, Tryz.ntmps11
    go_wp2
    go_ret
    exact ⟨by rw [HF.out]; rfl, HBF.out⟩
  subst q4
  by_cases q7 : s7 = t7
  case neg =>
    have HF := Lib.hid (show res = false by rw [← HRS.out]; exact decide_eq_false (fun h => q7 h.2.1))
    have e7 : (s7 == t7) = false := by rw [beq_eq_false_iff_ne]; exact q7
    clear q7 HRS C1 C2 C3 HCe
    go_enter Tryz.func11, Tryz.ntmps11
    go_wp2
    go_ret
    exact ⟨by rw [HF.out]; rfl, HBF.out⟩
  subst q7
  by_cases q5 : s5 = t5
  case neg =>
    have HF := Lib.hid (show res = false by rw [← HRS.out]; exact decide_eq_false (fun h => q5 h.2.2.2.2.2.2.1))
    rw [decide_eq_false q5] at C1
    clear q5 HRS C2 C3 HCe
    go_enter Tryz.func11, Tryz.ntmps11
    go_wp2_with fail
    refine C1.out.mono ?_
    rintro e w3 ⟨rfl, hbb⟩
    have HB3 := Lib.hid (HBF.out.trans (hbb.mono HBF.out.size))
    clear hbb
    go_wp2
    go_ret
    exact ⟨by rw [HF.out]; rfl, HB3.out⟩
  rw [decide_eq_true q5] at C1
  by_cases q6 : s6 = t6
  case neg =>
    have HF := Lib.hid (show res = false by rw [← HRS.out]; exact decide_eq_false (fun h => q6 h.2.2.2.2.2.2.2.1))
    rw [decide_eq_false q6] at C2
    clear q5 q6 HRS C3
    go_enter Tryz.func11, Tryz.ntmps11
    go_wp2_with fail
    refine C1.out.mono ?_
    rintro e w3 ⟨rfl, hbb⟩
    have HB3 := Lib.hid (HBF.out.trans (hbb.mono HBF.out.size))
    have D := Lib.hid (C2.out w3 hbb)
    obtain ⟨⟨-, -, -, -, -, -, k6, -, -⟩, ⟨-, -, -, -, -, -, l6, -, -⟩⟩ := HCe.out w3 hbb
    clear hbb C1 C2 HCe
    go_wp2_with fail
    refine D.out.mono ?_
    rintro e w4 ⟨rfl, hbb⟩
    have HB4 := Lib.hid (HB3.out.trans (hbb.mono HB3.out.size))
    clear hbb D
    go_wp2
    go_ret
    exact ⟨by rw [HF.out]; rfl, HB4.out⟩
  rw [decide_eq_true q6] at C2
  have HR := Lib.hid (show decide (s8 = t8) = res by rw [← HRS.out]; exact decide_eq_decide.2 ⟨fun h => ⟨rfl, rfl, rfl, rfl, rfl, rfl, q5, q6, h⟩, fun h => h.2.2.2.2.2.2.2.2⟩)
  rw [HR.out] at C3
  clear q5 q6 HRS
  go_enter Tryz.func11, Tryz.ntmps11
  go_wp2_with fail
  refine C1.out.mono ?_
  rintro e w3 ⟨rfl, hbb⟩
  have HBX := Lib.hid hbb
  have HB3 := Lib.hid (HBF.out.trans (hbb.mono HBF.out.size))
  have D := Lib.hid (C2.out w3 hbb)
  obtain ⟨⟨-, -, -, -, -, -, k6, -, -⟩, ⟨-, -, -, -, -, -, l6, -, -⟩⟩ := HCe.out w3 hbb
  clear hbb C1 C2
  go_wp2_with fail
  refine D.out.mono ?_
  rintro e w4 ⟨rfl, hbb⟩
  have HB4 := Lib.hid (HB3.out.trans (hbb.mono HB3.out.size))
  have HBX := Lib.hid (HBX.out.trans (hbb.mono HBX.out.size))
  have E := Lib.hid (C3.out w4 HBX.out)
  obtain ⟨⟨-, -, -, -, -, -, -, -, m8⟩, ⟨-, -, -, -, -, -, -, -, n8⟩⟩ := HCe.out w4 HBX.out
  clear hbb D C3 HCe
  go_wp2_with fail
  refine E.out.mono ?_
  rintro e w5 ⟨rfl, hbb⟩
  have HB5 := Lib.hid (HB4.out.trans (hbb.mono HB4.out.size))
  clear hbb E
  go_wp2
  go_ret
  exact ⟨rfl, HB5.out⟩
end Go.Proofs.YtpecingkoodmfaaGreatDoor.Ir
