
/- The document's own answer: may a recording be? -/
import Derived.Test.YtcffbeihgchpgaaGreatDoorRecChk
namespace Go.Proofs.YtcffbeihgchpgaaGreatDoor.Rec
open Go.RowKit Book Book.Wide Mem Mach Inn
set_option linter.unusedSimpArgs false
set_option linter.unusedVariables false
theorem fit_iff (x1 x2 x3 x4 : Int) : fit (x1, x2, x3, x4) = true ↔ (64 ≤ x2 ∨ plainI x2 = true) ∧ (x3 = 0 ∨ argI x2 = true) ∧ 0 ≤ x1 ∧ x1 < 3000 ∧ (argI x2 = true → x1 < 2999) ∧ 0 ≤ x4 ∧ x4 < 3000 := by
  unfold fit place lastOf
  simp only [decide_eq_true_eq]
  by_cases ha : argI x2 = true
  · simp only [ha, if_true]
    unfold wrap64
    constructor
    · rintro ⟨h1, h2, h3, h4, h5⟩
      exact ⟨h1.symm, .inr trivial, h3.1, h3.2, fun _ => by omega, h5.1, h5.2⟩
    · rintro ⟨h1, h2, h3, h4, h5, h6, h7⟩
      have := h5 trivial
      exact ⟨h1.symm, .inl trivial, ⟨h3, h4⟩, by omega, ⟨h6, h7⟩⟩
  · simp only [ha, if_false]
    constructor
    · rintro ⟨h1, h2, h3, h4, h5⟩
      refine ⟨h1.symm, ?_, h3.1, h3.2, (fun h => by cases h), h5.1, h5.2⟩
      rcases h2 with h2 | h2
      · cases h2
      · exact .inl h2
    · rintro ⟨h1, h2, h3, h4, h5, h6, h7⟩
      refine ⟨h1.symm, ?_, ⟨h3, h4⟩, ⟨h3, h4⟩, ⟨h6, h7⟩⟩
      rcases h2 with h2 | h2
      · exact .inr h2
      · cases h2
set_option maxHeartbeats 16000000 in
set_option maxRecDepth 100000 in
theorem recorded_any {w : World} {v : Value} {r : R} (h : ReadsS w v r.steps) (hl : r.steps.length ≤ 1000000) : Calls Tryz.prog 27 #[recV r v] w (Says (.bool (rightR r)) w) := by
  have HV := Lib.hid h
  obtain ⟨ao, cap, rfl, -⟩ := h
  obtain ⟨st, la, lo, l⟩ := r
  simp only at HV hl ⊢
  obtain ⟨n, hn⟩ : ∃ n, l.length = n := ⟨_, rfl⟩
  have HN := Lib.hid hn
  rw [hn] at HV hl ⊢
  obtain ⟨w1, g, hw1, hg, HG, HB, HZ⟩ := newBox w (recA ⟨st, la, lo, l⟩ (.slice ao n cap)) 39
  have g0 : w1.cell? ⟨g, 0, none⟩ = some (.int .i64 st) := whole_cell HG.out rfl
  have g1 : w1.cell? ⟨g, 1, none⟩ = some (.int .i64 la) := whole_cell HG.out rfl
  have g2 : w1.cell? ⟨g, 2, none⟩ = some (.bool lo) := whole_cell HG.out rfl
  have g3 : w1.cell? ⟨g, 3, none⟩ = some (.slice ao n cap) := whole_cell HG.out rfl
  obtain ⟨res, hres⟩ : ∃ res, rightR ⟨st, la, lo, l⟩ = res := ⟨_, rfl⟩
  have HRS := Lib.hid hres
  rw [hres]
  clear hn hres
  by_cases h120 : 120 < n
  · have HF := Lib.hid (show res = false by rw [← HRS.out]; unfold rightR; rw [decide_eq_false (by show ¬ l.length ≤ 120; rw [HN.out]; omega)]; rfl)
    go_enter Tryz.func27, Tryz.ntmps27
    go_wp2
    go_ret
    exact ⟨by rw [HF.out]; rfl, HB.out⟩
  have HRR := Lib.hid (show (match runR st l st true with | none => false | some z => endR ⟨st, la, lo, l⟩ z) = res by rw [← HRS.out]; unfold rightR; rw [decide_eq_true (by show l.length ≤ 120; rw [HN.out]; omega)]; rfl)
  have h120' : ¬ (120 : Int) < (n : Int) := by omega
  have HBAD := Lib.hid (fun (hne : (lo == (decide (0 < n) && decide (la = st))) = false) => (show res = false by
    rw [← HRR.out]
    cases runR st l st true with
    | none => rfl
    | some z =>
      show endR _ z = false
      unfold endR
      rw [show ({ start := st, last := la, loop := lo, steps := l } : R).steps.length = n from HN.out]
      by_cases hz : z = la
      · rw [hz, hne, Bool.and_false]
      · simp [hz]))
  clear h120
  by_cases hgd : (lo == (decide (0 < n) && decide (la = st))) = true ∧ (n = 0 → la = st)
  · obtain ⟨hgd, hzs⟩ := hgd
    have HGD := Lib.hid (And.intro hgd hzs)
    clear hgd hzs HBAD
    go_enter Tryz.func27, Tryz.ntmps27
    go_upto_region 2 with fail
    clear hw1 hg
    go_cut [36] (fun t wx => t = .bool false ∧ w1 = wx)
    case first =>
      obtain ⟨hgd, hzs⟩ := HGD.out
      rcases Nat.eq_zero_or_pos n with hn0 | hn0
      · have hs := hzs hn0
        subst hn0
        subst hs
        cases lo with
        | true => exact absurd hgd (by simp)
        | false =>
          clear hgd hzs
          go_wp2_with fail
          go_meet
          exact ⟨rfl, rfl⟩
      · have e0 : decide (0 < n) = true := decide_eq_true hn0
        have z0' : (n == 0) = false := by simp; omega
        have z0i : ((n : Int) == 0) = false := beq_eq_false_iff_ne.2 (by omega)
        rw [e0, Bool.true_and] at hgd
        clear hzs
        by_cases hs : la = st
        · subst hs
          cases lo with
          | true =>
            clear hgd
            go_wp2_with fail
            go_meet
            exact ⟨rfl, rfl⟩
          | false => exact absurd hgd (by simp)
        · have hs2 : (la == st) = false := by simpa using hs
          cases lo with
          | true => rw [decide_eq_false hs] at hgd; cases hgd
          | false =>
            clear hgd hs
            go_wp2_with fail
            go_meet
            exact ⟨rfl, rfl⟩
    case rest =>
      obtain ⟨rfl, rfl⟩ := hcut
      clear g1 g2
      go_wp2_with fail
      go_loopg [4, 5] n (fun z at' k wr => ∃ (j : Nat) (a : Int), z = n - j ∧ j ≤ n ∧ at' = .int .i64 a ∧ k = .int .i64 (j : Int) ∧ Hid (Below w1.heap.size w1 wr) ∧ Hid (runR st (l.drop j) a (decide (j = 0)) = runR st l st true))
      case atStart => exact ⟨0, st, rfl, Nat.zero_le _, rfl, rfl, Lib.hid (Below.refl _ _), Lib.hid rfl⟩
      case round =>
        obtain ⟨j, a, rfl, hj, rfl, rfl, HBR, HRN⟩ := hrel
        have HGr := Lib.hid (boxOn HG.out HBR.out)
        by_cases hlt : j < n
        · obtain ⟨x, hx⟩ : ∃ x, l[j]? = some x := ⟨_, List.getElem?_eq_getElem (by rw [HN.out]; exact hlt)⟩
          have HRA := Lib.hid (show (if x.1 = a ∧ (decide (j = 0) = true ∨ a ≠ st) ∧ fit x = true then runR st (l.drop (j + 1)) x.2.2.2 false else none) = runR st l st true by rw [← HRN.out]; exact (runR_at hx a _).symm)
          obtain ⟨ao', cap', e, hc⟩ := (HV.out.below HB.out).below HBR.out
          rw [HN.out] at e
          simp only [Value.slice.injEq, true_and] at e
          obtain ⟨rfl, rfl⟩ := e
          obtain ⟨ad, rfl, c0, c1, c2, c3⟩ := hc j x hx
          have z0 : (0 : Int) ≤ (j : Int) := by omega
          have z1 : (j : Int) < (n : Int) := by omega
          have p3 : wr.cell? ⟨g, 3, none⟩ = some (.slice (some ad) n cap) := whole_cell HGr.out rfl
          obtain ⟨w4, g4, hw4, hg4, H4, HB4, HZ4⟩ := newBox wr (seenA x) 55
          have HG4 := Lib.hid (boxOn HGr.out HB4.out)
          obtain ⟨x1, x2, x3, x4⟩ := x
          have C := Lib.hid (refPlain_any x2 w4)
          have D := Lib.hid (refArg_any x2 w4)
          have k0 : w4.cell? ⟨g4, 0, none⟩ = some (.int .i64 x1) := whole_cell H4.out rfl
          have k1 : w4.cell? ⟨g4, 1, none⟩ = some (.int .i64 x2) := whole_cell H4.out rfl
          have k2 : w4.cell? ⟨g4, 2, none⟩ = some (.int .i64 x3) := whole_cell H4.out rfl
          have k3 : w4.cell? ⟨g4, 3, none⟩ = some (.int .i64 x4) := whole_cell H4.out rfl
          have q0 : w4.cell? ⟨g, 0, none⟩ = some (.int .i64 st) := whole_cell HG4.out rfl
          have HBr4 := Lib.hid (HB.out.trans ((HBR.out.trans (HB4.out.mono HBR.out.size)).mono HB.out.size))
          have HBR4 := Lib.hid (HBR.out.trans (HB4.out.mono HBR.out.size))
          clear hx hc HRN
          dsimp only at c0 c1 c2 c3
          have HNO := Lib.hid (fun (hno : ¬ (x1 = a ∧ (decide (j = 0) = true ∨ a ≠ st) ∧ fit (x1, x2, x3, x4) = true)) => (show res = false by have h := HRR.out; rw [← HRA.out, if_neg hno] at h; exact h.symm))
          have HFI := Lib.hid (fit_iff x1 x2 x3 x4)
          by_cases ha : x1 = a
          · subst ha
            by_cases hj0 : j = 0
            · have HJ := Lib.hid (show decide (j = 0) = true ∨ x1 ≠ st from .inl (decide_eq_true hj0))
              have dj : decide (0 < j) = false := decide_eq_false (by omega)
              clear hj0
              by_cases h64 : 64 ≤ x2
              · have h64' : ¬ x2 < 64 := by omega
                have HP := Lib.hid (show 64 ≤ x2 ∨ plainI x2 = true from .inl h64)
                cases harg : argI x2 with
                | true =>
                  have HAR := Lib.hid harg
                  rw [harg] at D
                  clear harg
                  by_cases h3 : x3 = 0
                  · have h3' : (x3 != 0) = false := by simpa using h3
                    have h3'' : (x3 == 0) = true := by simpa using h3
                    have HX3 := Lib.hid (show x3 = 0 ∨ argI x2 = true from .inl h3)
                    clear h3
                    as_aux_lemma =>
                      by_cases hall : 0 ≤ x1 ∧ x1 < 2999 ∧ 0 ≤ x4 ∧ x4 < 3000
                      · have HFT := Lib.hid (show fit (x1, x2, x3, x4) = true from HFI.out.2 ⟨HP.out, HX3.out, hall.1, by omega, (fun h => by omega), hall.2.2.1, hall.2.2.2⟩)
                        have HRA2 := Lib.hid (show runR st (l.drop (j + 1)) x4 (decide (j + 1 = 0)) = runR st l st true by
                          have h := HRA.out
                          rw [if_pos ⟨rfl, HJ.out, HFT.out⟩] at h
                          rw [show decide (j + 1 = 0) = false from decide_eq_false (Nat.succ_ne_zero j)]
                          exact h)
                        obtain ⟨y1, y2, y3, y4⟩ := hall
                        have y5 : x1 < 3000 := by omega
                        go_wp2_with fail
                        refine D.out.mono ?_
                        rintro e wz ⟨rfl, hwz⟩
                        subst wz
                        go_wp2
                        go_roundg (n - (j + 1))
                        case measure => omega
                        case rel => exact ⟨j + 1, x4, rfl, by omega, rfl, by go_num, HBR4, HRA2⟩
                      · have HF := Lib.hid (HNO.out (fun h => hall (by have hh := HFI.out.1 h.2.2; exact ⟨hh.2.2.1, hh.2.2.2.2.1 HAR.out, hh.2.2.2.2.2.1, hh.2.2.2.2.2.2⟩)))
                        by_cases y1 : x1 < 0
                        · clear hall
                          go_wp2
                          go_ret
                          exact ⟨by rw [HF.out]; rfl, HBr4.out⟩
                        · have y1' : 0 ≤ x1 := by omega
                          by_cases y2 : 3000 ≤ x1
                          · clear hall
                            go_wp2
                            go_ret
                            exact ⟨by rw [HF.out]; rfl, HBr4.out⟩
                          · have y2' : x1 < 3000 := by omega
                            by_cases y3 : 2999 ≤ x1
                            · clear hall
                              go_wp2_with fail
                              refine D.out.mono ?_
                              rintro e wz ⟨rfl, hwz⟩
                              subst wz
                              go_wp2
                              go_ret
                              exact ⟨by rw [HF.out]; rfl, HBr4.out⟩
                            · have y3' : x1 < 2999 := by omega
                              by_cases y4 : x4 < 0
                              · clear hall
                                go_wp2_with fail
                                refine D.out.mono ?_
                                rintro e wz ⟨rfl, hwz⟩
                                subst wz
                                go_wp2
                                go_ret
                                exact ⟨by rw [HF.out]; rfl, HBr4.out⟩
                              · have y4' : 0 ≤ x4 := by omega
                                have y5 : 3000 ≤ x4 := by omega
                                clear hall
                                go_wp2_with fail
                                refine D.out.mono ?_
                                rintro e wz ⟨rfl, hwz⟩
                                subst wz
                                go_wp2
                                go_ret
                                exact ⟨by rw [HF.out]; rfl, HBr4.out⟩
                  · have h3' : (x3 != 0) = true := by simpa using h3
                    have h3'' : (x3 == 0) = false := by simpa using h3
                    have HX3 := Lib.hid (show x3 = 0 ∨ argI x2 = true from .inr HAR.out)
                    clear h3
                    as_aux_lemma =>
                      by_cases hall : 0 ≤ x1 ∧ x1 < 2999 ∧ 0 ≤ x4 ∧ x4 < 3000
                      · have HFT := Lib.hid (show fit (x1, x2, x3, x4) = true from HFI.out.2 ⟨HP.out, HX3.out, hall.1, by omega, (fun h => by omega), hall.2.2.1, hall.2.2.2⟩)
                        have HRA2 := Lib.hid (show runR st (l.drop (j + 1)) x4 (decide (j + 1 = 0)) = runR st l st true by
                          have h := HRA.out
                          rw [if_pos ⟨rfl, HJ.out, HFT.out⟩] at h
                          rw [show decide (j + 1 = 0) = false from decide_eq_false (Nat.succ_ne_zero j)]
                          exact h)
                        obtain ⟨y1, y2, y3, y4⟩ := hall
                        have y5 : x1 < 3000 := by omega
                        go_wp2_with fail
                        refine D.out.mono ?_
                        rintro e wz ⟨rfl, hwz⟩
                        subst wz
                        go_wp2_with fail
                        refine D.out.mono ?_
                        rintro e wz ⟨rfl, hwz⟩
                        subst wz
                        go_wp2
                        go_roundg (n - (j + 1))
                        case measure => omega
                        case rel => exact ⟨j + 1, x4, rfl, by omega, rfl, by go_num, HBR4, HRA2⟩
                      · have HF := Lib.hid (HNO.out (fun h => hall (by have hh := HFI.out.1 h.2.2; exact ⟨hh.2.2.1, hh.2.2.2.2.1 HAR.out, hh.2.2.2.2.2.1, hh.2.2.2.2.2.2⟩)))
                        by_cases y1 : x1 < 0
                        · clear hall
                          go_wp2_with fail
                          refine D.out.mono ?_
                          rintro e wz ⟨rfl, hwz⟩
                          subst wz
                          go_wp2
                          go_ret
                          exact ⟨by rw [HF.out]; rfl, HBr4.out⟩
                        · have y1' : 0 ≤ x1 := by omega
                          by_cases y2 : 3000 ≤ x1
                          · clear hall
                            go_wp2_with fail
                            refine D.out.mono ?_
                            rintro e wz ⟨rfl, hwz⟩
                            subst wz
                            go_wp2
                            go_ret
                            exact ⟨by rw [HF.out]; rfl, HBr4.out⟩
                          · have y2' : x1 < 3000 := by omega
                            by_cases y3 : 2999 ≤ x1
                            · clear hall
                              go_wp2_with fail
                              refine D.out.mono ?_
                              rintro e wz ⟨rfl, hwz⟩
                              subst wz
                              go_wp2_with fail
                              refine D.out.mono ?_
                              rintro e wz ⟨rfl, hwz⟩
                              subst wz
                              go_wp2
                              go_ret
                              exact ⟨by rw [HF.out]; rfl, HBr4.out⟩
                            · have y3' : x1 < 2999 := by omega
                              by_cases y4 : x4 < 0
                              · clear hall
                                go_wp2_with fail
                                refine D.out.mono ?_
                                rintro e wz ⟨rfl, hwz⟩
                                subst wz
                                go_wp2_with fail
                                refine D.out.mono ?_
                                rintro e wz ⟨rfl, hwz⟩
                                subst wz
                                go_wp2
                                go_ret
                                exact ⟨by rw [HF.out]; rfl, HBr4.out⟩
                              · have y4' : 0 ≤ x4 := by omega
                                have y5 : 3000 ≤ x4 := by omega
                                clear hall
                                go_wp2_with fail
                                refine D.out.mono ?_
                                rintro e wz ⟨rfl, hwz⟩
                                subst wz
                                go_wp2_with fail
                                refine D.out.mono ?_
                                rintro e wz ⟨rfl, hwz⟩
                                subst wz
                                go_wp2
                                go_ret
                                exact ⟨by rw [HF.out]; rfl, HBr4.out⟩
                | false =>
                  have HAR := Lib.hid harg
                  rw [harg] at D
                  clear harg
                  by_cases h3 : x3 = 0
                  · have h3' : (x3 != 0) = false := by simpa using h3
                    have h3'' : (x3 == 0) = true := by simpa using h3
                    have HX3 := Lib.hid (show x3 = 0 ∨ argI x2 = true from .inl h3)
                    clear h3
                    as_aux_lemma =>
                      by_cases hall : 0 ≤ x1 ∧ x1 < 3000 ∧ 0 ≤ x4 ∧ x4 < 3000
                      · have HFT := Lib.hid (show fit (x1, x2, x3, x4) = true from HFI.out.2 ⟨HP.out, HX3.out, hall.1, by omega, (fun h => by rw [HAR.out] at h; cases h), hall.2.2.1, hall.2.2.2⟩)
                        have HRA2 := Lib.hid (show runR st (l.drop (j + 1)) x4 (decide (j + 1 = 0)) = runR st l st true by
                          have h := HRA.out
                          rw [if_pos ⟨rfl, HJ.out, HFT.out⟩] at h
                          rw [show decide (j + 1 = 0) = false from decide_eq_false (Nat.succ_ne_zero j)]
                          exact h)
                        obtain ⟨y1, y2, y3, y4⟩ := hall
                        have y5 : x1 < 3000 := by omega
                        go_wp2_with fail
                        refine D.out.mono ?_
                        rintro e wz ⟨rfl, hwz⟩
                        subst wz
                        go_wp2
                        go_roundg (n - (j + 1))
                        case measure => omega
                        case rel => exact ⟨j + 1, x4, rfl, by omega, rfl, by go_num, HBR4, HRA2⟩
                      · have HF := Lib.hid (HNO.out (fun h => hall (by have hh := HFI.out.1 h.2.2; exact ⟨hh.2.2.1, hh.2.2.2.1, hh.2.2.2.2.2.1, hh.2.2.2.2.2.2⟩)))
                        by_cases y1 : x1 < 0
                        · clear hall
                          go_wp2
                          go_ret
                          exact ⟨by rw [HF.out]; rfl, HBr4.out⟩
                        · have y1' : 0 ≤ x1 := by omega
                          by_cases y2 : 3000 ≤ x1
                          · clear hall
                            go_wp2
                            go_ret
                            exact ⟨by rw [HF.out]; rfl, HBr4.out⟩
                          · have y2' : x1 < 3000 := by omega
                            by_cases y4 : x4 < 0
                            · clear hall
                              go_wp2_with fail
                              refine D.out.mono ?_
                              rintro e wz ⟨rfl, hwz⟩
                              subst wz
                              go_wp2
                              go_ret
                              exact ⟨by rw [HF.out]; rfl, HBr4.out⟩
                            · have y4' : 0 ≤ x4 := by omega
                              have y5 : 3000 ≤ x4 := by omega
                              clear hall
                              go_wp2_with fail
                              refine D.out.mono ?_
                              rintro e wz ⟨rfl, hwz⟩
                              subst wz
                              go_wp2
                              go_ret
                              exact ⟨by rw [HF.out]; rfl, HBr4.out⟩
                  · have h3' : (x3 != 0) = true := by simpa using h3
                    have h3'' : (x3 == 0) = false := by simpa using h3
                    have H3 := Lib.hid h3
                    clear h3
                    as_aux_lemma =>
                      have HF := Lib.hid (HNO.out (fun h => by rcases (HFI.out.1 h.2.2).2.1 with h | h; exact H3.out h; rw [HAR.out] at h; cases h))
                      go_wp2_with fail
                      refine D.out.mono ?_
                      rintro e wz ⟨rfl, hwz⟩
                      subst wz
                      go_wp2
                      go_ret
                      exact ⟨by rw [HF.out]; rfl, HBr4.out⟩
              · have h64' : x2 < 64 := by omega
                by_cases hp : plainI x2 = true
                · have HP := Lib.hid (show 64 ≤ x2 ∨ plainI x2 = true from .inr hp)
                  rw [hp] at C
                  clear hp
                  cases harg : argI x2 with
                  | true =>
                    have HAR := Lib.hid harg
                    rw [harg] at D
                    clear harg
                    by_cases h3 : x3 = 0
                    · have h3' : (x3 != 0) = false := by simpa using h3
                      have h3'' : (x3 == 0) = true := by simpa using h3
                      have HX3 := Lib.hid (show x3 = 0 ∨ argI x2 = true from .inl h3)
                      clear h3
                      as_aux_lemma =>
                        by_cases hall : 0 ≤ x1 ∧ x1 < 2999 ∧ 0 ≤ x4 ∧ x4 < 3000
                        · have HFT := Lib.hid (show fit (x1, x2, x3, x4) = true from HFI.out.2 ⟨HP.out, HX3.out, hall.1, by omega, (fun h => by omega), hall.2.2.1, hall.2.2.2⟩)
                          have HRA2 := Lib.hid (show runR st (l.drop (j + 1)) x4 (decide (j + 1 = 0)) = runR st l st true by
                            have h := HRA.out
                            rw [if_pos ⟨rfl, HJ.out, HFT.out⟩] at h
                            rw [show decide (j + 1 = 0) = false from decide_eq_false (Nat.succ_ne_zero j)]
                            exact h)
                          obtain ⟨y1, y2, y3, y4⟩ := hall
                          have y5 : x1 < 3000 := by omega
                          go_wp2_with fail
                          refine C.out.mono ?_
                          rintro e wz ⟨rfl, hwz⟩
                          subst wz
                          go_wp2_with fail
                          refine D.out.mono ?_
                          rintro e wz ⟨rfl, hwz⟩
                          subst wz
                          go_wp2
                          go_roundg (n - (j + 1))
                          case measure => omega
                          case rel => exact ⟨j + 1, x4, rfl, by omega, rfl, by go_num, HBR4, HRA2⟩
                        · have HF := Lib.hid (HNO.out (fun h => hall (by have hh := HFI.out.1 h.2.2; exact ⟨hh.2.2.1, hh.2.2.2.2.1 HAR.out, hh.2.2.2.2.2.1, hh.2.2.2.2.2.2⟩)))
                          by_cases y1 : x1 < 0
                          · clear hall
                            go_wp2_with fail
                            refine C.out.mono ?_
                            rintro e wz ⟨rfl, hwz⟩
                            subst wz
                            go_wp2
                            go_ret
                            exact ⟨by rw [HF.out]; rfl, HBr4.out⟩
                          · have y1' : 0 ≤ x1 := by omega
                            by_cases y2 : 3000 ≤ x1
                            · clear hall
                              go_wp2_with fail
                              refine C.out.mono ?_
                              rintro e wz ⟨rfl, hwz⟩
                              subst wz
                              go_wp2
                              go_ret
                              exact ⟨by rw [HF.out]; rfl, HBr4.out⟩
                            · have y2' : x1 < 3000 := by omega
                              by_cases y3 : 2999 ≤ x1
                              · clear hall
                                go_wp2_with fail
                                refine C.out.mono ?_
                                rintro e wz ⟨rfl, hwz⟩
                                subst wz
                                go_wp2_with fail
                                refine D.out.mono ?_
                                rintro e wz ⟨rfl, hwz⟩
                                subst wz
                                go_wp2
                                go_ret
                                exact ⟨by rw [HF.out]; rfl, HBr4.out⟩
                              · have y3' : x1 < 2999 := by omega
                                by_cases y4 : x4 < 0
                                · clear hall
                                  go_wp2_with fail
                                  refine C.out.mono ?_
                                  rintro e wz ⟨rfl, hwz⟩
                                  subst wz
                                  go_wp2_with fail
                                  refine D.out.mono ?_
                                  rintro e wz ⟨rfl, hwz⟩
                                  subst wz
                                  go_wp2
                                  go_ret
                                  exact ⟨by rw [HF.out]; rfl, HBr4.out⟩
                                · have y4' : 0 ≤ x4 := by omega
                                  have y5 : 3000 ≤ x4 := by omega
                                  clear hall
                                  go_wp2_with fail
                                  refine C.out.mono ?_
                                  rintro e wz ⟨rfl, hwz⟩
                                  subst wz
                                  go_wp2_with fail
                                  refine D.out.mono ?_
                                  rintro e wz ⟨rfl, hwz⟩
                                  subst wz
                                  go_wp2
                                  go_ret
                                  exact ⟨by rw [HF.out]; rfl, HBr4.out⟩
                    · have h3' : (x3 != 0) = true := by simpa using h3
                      have h3'' : (x3 == 0) = false := by simpa using h3
                      have HX3 := Lib.hid (show x3 = 0 ∨ argI x2 = true from .inr HAR.out)
                      clear h3
                      as_aux_lemma =>
                        by_cases hall : 0 ≤ x1 ∧ x1 < 2999 ∧ 0 ≤ x4 ∧ x4 < 3000
                        · have HFT := Lib.hid (show fit (x1, x2, x3, x4) = true from HFI.out.2 ⟨HP.out, HX3.out, hall.1, by omega, (fun h => by omega), hall.2.2.1, hall.2.2.2⟩)
                          have HRA2 := Lib.hid (show runR st (l.drop (j + 1)) x4 (decide (j + 1 = 0)) = runR st l st true by
                            have h := HRA.out
                            rw [if_pos ⟨rfl, HJ.out, HFT.out⟩] at h
                            rw [show decide (j + 1 = 0) = false from decide_eq_false (Nat.succ_ne_zero j)]
                            exact h)
                          obtain ⟨y1, y2, y3, y4⟩ := hall
                          have y5 : x1 < 3000 := by omega
                          go_wp2_with fail
                          refine C.out.mono ?_
                          rintro e wz ⟨rfl, hwz⟩
                          subst wz
                          go_wp2_with fail
                          refine D.out.mono ?_
                          rintro e wz ⟨rfl, hwz⟩
                          subst wz
                          go_wp2_with fail
                          refine D.out.mono ?_
                          rintro e wz ⟨rfl, hwz⟩
                          subst wz
                          go_wp2
                          go_roundg (n - (j + 1))
                          case measure => omega
                          case rel => exact ⟨j + 1, x4, rfl, by omega, rfl, by go_num, HBR4, HRA2⟩
                        · have HF := Lib.hid (HNO.out (fun h => hall (by have hh := HFI.out.1 h.2.2; exact ⟨hh.2.2.1, hh.2.2.2.2.1 HAR.out, hh.2.2.2.2.2.1, hh.2.2.2.2.2.2⟩)))
                          by_cases y1 : x1 < 0
                          · clear hall
                            go_wp2_with fail
                            refine C.out.mono ?_
                            rintro e wz ⟨rfl, hwz⟩
                            subst wz
                            go_wp2_with fail
                            refine D.out.mono ?_
                            rintro e wz ⟨rfl, hwz⟩
                            subst wz
                            go_wp2
                            go_ret
                            exact ⟨by rw [HF.out]; rfl, HBr4.out⟩
                          · have y1' : 0 ≤ x1 := by omega
                            by_cases y2 : 3000 ≤ x1
                            · clear hall
                              go_wp2_with fail
                              refine C.out.mono ?_
                              rintro e wz ⟨rfl, hwz⟩
                              subst wz
                              go_wp2_with fail
                              refine D.out.mono ?_
                              rintro e wz ⟨rfl, hwz⟩
                              subst wz
                              go_wp2
                              go_ret
                              exact ⟨by rw [HF.out]; rfl, HBr4.out⟩
                            · have y2' : x1 < 3000 := by omega
                              by_cases y3 : 2999 ≤ x1
                              · clear hall
                                go_wp2_with fail
                                refine C.out.mono ?_
                                rintro e wz ⟨rfl, hwz⟩
                                subst wz
                                go_wp2_with fail
                                refine D.out.mono ?_
                                rintro e wz ⟨rfl, hwz⟩
                                subst wz
                                go_wp2_with fail
                                refine D.out.mono ?_
                                rintro e wz ⟨rfl, hwz⟩
                                subst wz
                                go_wp2
                                go_ret
                                exact ⟨by rw [HF.out]; rfl, HBr4.out⟩
                              · have y3' : x1 < 2999 := by omega
                                by_cases y4 : x4 < 0
                                · clear hall
                                  go_wp2_with fail
                                  refine C.out.mono ?_
                                  rintro e wz ⟨rfl, hwz⟩
                                  subst wz
                                  go_wp2_with fail
                                  refine D.out.mono ?_
                                  rintro e wz ⟨rfl, hwz⟩
                                  subst wz
                                  go_wp2_with fail
                                  refine D.out.mono ?_
                                  rintro e wz ⟨rfl, hwz⟩
                                  subst wz
                                  go_wp2
                                  go_ret
                                  exact ⟨by rw [HF.out]; rfl, HBr4.out⟩
                                · have y4' : 0 ≤ x4 := by omega
                                  have y5 : 3000 ≤ x4 := by omega
                                  clear hall
                                  go_wp2_with fail
                                  refine C.out.mono ?_
                                  rintro e wz ⟨rfl, hwz⟩
                                  subst wz
                                  go_wp2_with fail
                                  refine D.out.mono ?_
                                  rintro e wz ⟨rfl, hwz⟩
                                  subst wz
                                  go_wp2_with fail
                                  refine D.out.mono ?_
                                  rintro e wz ⟨rfl, hwz⟩
                                  subst wz
                                  go_wp2
                                  go_ret
                                  exact ⟨by rw [HF.out]; rfl, HBr4.out⟩
                  | false =>
                    have HAR := Lib.hid harg
                    rw [harg] at D
                    clear harg
                    by_cases h3 : x3 = 0
                    · have h3' : (x3 != 0) = false := by simpa using h3
                      have h3'' : (x3 == 0) = true := by simpa using h3
                      have HX3 := Lib.hid (show x3 = 0 ∨ argI x2 = true from .inl h3)
                      clear h3
                      as_aux_lemma =>
                        by_cases hall : 0 ≤ x1 ∧ x1 < 3000 ∧ 0 ≤ x4 ∧ x4 < 3000
                        · have HFT := Lib.hid (show fit (x1, x2, x3, x4) = true from HFI.out.2 ⟨HP.out, HX3.out, hall.1, by omega, (fun h => by rw [HAR.out] at h; cases h), hall.2.2.1, hall.2.2.2⟩)
                          have HRA2 := Lib.hid (show runR st (l.drop (j + 1)) x4 (decide (j + 1 = 0)) = runR st l st true by
                            have h := HRA.out
                            rw [if_pos ⟨rfl, HJ.out, HFT.out⟩] at h
                            rw [show decide (j + 1 = 0) = false from decide_eq_false (Nat.succ_ne_zero j)]
                            exact h)
                          obtain ⟨y1, y2, y3, y4⟩ := hall
                          have y5 : x1 < 3000 := by omega
                          go_wp2_with fail
                          refine C.out.mono ?_
                          rintro e wz ⟨rfl, hwz⟩
                          subst wz
                          go_wp2_with fail
                          refine D.out.mono ?_
                          rintro e wz ⟨rfl, hwz⟩
                          subst wz
                          go_wp2
                          go_roundg (n - (j + 1))
                          case measure => omega
                          case rel => exact ⟨j + 1, x4, rfl, by omega, rfl, by go_num, HBR4, HRA2⟩
                        · have HF := Lib.hid (HNO.out (fun h => hall (by have hh := HFI.out.1 h.2.2; exact ⟨hh.2.2.1, hh.2.2.2.1, hh.2.2.2.2.2.1, hh.2.2.2.2.2.2⟩)))
                          by_cases y1 : x1 < 0
                          · clear hall
                            go_wp2_with fail
                            refine C.out.mono ?_
                            rintro e wz ⟨rfl, hwz⟩
                            subst wz
                            go_wp2
                            go_ret
                            exact ⟨by rw [HF.out]; rfl, HBr4.out⟩
                          · have y1' : 0 ≤ x1 := by omega
                            by_cases y2 : 3000 ≤ x1
                            · clear hall
                              go_wp2_with fail
                              refine C.out.mono ?_
                              rintro e wz ⟨rfl, hwz⟩
                              subst wz
                              go_wp2
                              go_ret
                              exact ⟨by rw [HF.out]; rfl, HBr4.out⟩
                            · have y2' : x1 < 3000 := by omega
                              by_cases y4 : x4 < 0
                              · clear hall
                                go_wp2_with fail
                                refine C.out.mono ?_
                                rintro e wz ⟨rfl, hwz⟩
                                subst wz
                                go_wp2_with fail
                                refine D.out.mono ?_
                                rintro e wz ⟨rfl, hwz⟩
                                subst wz
                                go_wp2
                                go_ret
                                exact ⟨by rw [HF.out]; rfl, HBr4.out⟩
                              · have y4' : 0 ≤ x4 := by omega
                                have y5 : 3000 ≤ x4 := by omega
                                clear hall
                                go_wp2_with fail
                                refine C.out.mono ?_
                                rintro e wz ⟨rfl, hwz⟩
                                subst wz
                                go_wp2_with fail
                                refine D.out.mono ?_
                                rintro e wz ⟨rfl, hwz⟩
                                subst wz
                                go_wp2
                                go_ret
                                exact ⟨by rw [HF.out]; rfl, HBr4.out⟩
                    · have h3' : (x3 != 0) = true := by simpa using h3
                      have h3'' : (x3 == 0) = false := by simpa using h3
                      have H3 := Lib.hid h3
                      clear h3
                      as_aux_lemma =>
                        have HF := Lib.hid (HNO.out (fun h => by rcases (HFI.out.1 h.2.2).2.1 with h | h; exact H3.out h; rw [HAR.out] at h; cases h))
                        go_wp2_with fail
                        refine C.out.mono ?_
                        rintro e wz ⟨rfl, hwz⟩
                        subst wz
                        go_wp2_with fail
                        refine D.out.mono ?_
                        rintro e wz ⟨rfl, hwz⟩
                        subst wz
                        go_wp2
                        go_ret
                        exact ⟨by rw [HF.out]; rfl, HBr4.out⟩
                · have hp' : plainI x2 = false := by simpa using hp
                  rw [hp'] at C
                  as_aux_lemma =>
                    have HF := Lib.hid (HNO.out (fun h => by rcases (HFI.out.1 h.2.2).1 with h | h; exact h64 h; exact hp h))
                    clear hp hp'
                    go_wp2_with fail
                    refine C.out.mono ?_
                    rintro e wz ⟨rfl, hwz⟩
                    subst wz
                    go_wp2
                    go_ret
                    exact ⟨by rw [HF.out]; rfl, HBr4.out⟩
            · have dj : decide (0 < j) = true := decide_eq_true (by omega)
              by_cases hst : x1 = st
              · subst hst
                as_aux_lemma =>
                  have HF := Lib.hid (HNO.out (fun h => by rcases h.2.1 with h | h; exact hj0 (of_decide_eq_true h); exact h rfl))
                  clear hj0
                  go_wp2
                  go_ret
                  exact ⟨by rw [HF.out]; rfl, HBr4.out⟩
              · have HJ := Lib.hid (show decide (j = 0) = true ∨ x1 ≠ st from .inr hst)
                have hs1 : (x1 == st) = false := by simpa using hst
                clear hst hj0
                by_cases h64 : 64 ≤ x2
                · have h64' : ¬ x2 < 64 := by omega
                  have HP := Lib.hid (show 64 ≤ x2 ∨ plainI x2 = true from .inl h64)
                  cases harg : argI x2 with
                  | true =>
                    have HAR := Lib.hid harg
                    rw [harg] at D
                    clear harg
                    by_cases h3 : x3 = 0
                    · have h3' : (x3 != 0) = false := by simpa using h3
                      have h3'' : (x3 == 0) = true := by simpa using h3
                      have HX3 := Lib.hid (show x3 = 0 ∨ argI x2 = true from .inl h3)
                      clear h3
                      as_aux_lemma =>
                        by_cases hall : 0 ≤ x1 ∧ x1 < 2999 ∧ 0 ≤ x4 ∧ x4 < 3000
                        · have HFT := Lib.hid (show fit (x1, x2, x3, x4) = true from HFI.out.2 ⟨HP.out, HX3.out, hall.1, by omega, (fun h => by omega), hall.2.2.1, hall.2.2.2⟩)
                          have HRA2 := Lib.hid (show runR st (l.drop (j + 1)) x4 (decide (j + 1 = 0)) = runR st l st true by
                            have h := HRA.out
                            rw [if_pos ⟨rfl, HJ.out, HFT.out⟩] at h
                            rw [show decide (j + 1 = 0) = false from decide_eq_false (Nat.succ_ne_zero j)]
                            exact h)
                          obtain ⟨y1, y2, y3, y4⟩ := hall
                          have y5 : x1 < 3000 := by omega
                          go_wp2_with fail
                          refine D.out.mono ?_
                          rintro e wz ⟨rfl, hwz⟩
                          subst wz
                          go_wp2
                          go_roundg (n - (j + 1))
                          case measure => omega
                          case rel => exact ⟨j + 1, x4, rfl, by omega, rfl, by go_num, HBR4, HRA2⟩
                        · have HF := Lib.hid (HNO.out (fun h => hall (by have hh := HFI.out.1 h.2.2; exact ⟨hh.2.2.1, hh.2.2.2.2.1 HAR.out, hh.2.2.2.2.2.1, hh.2.2.2.2.2.2⟩)))
                          by_cases y1 : x1 < 0
                          · clear hall
                            go_wp2
                            go_ret
                            exact ⟨by rw [HF.out]; rfl, HBr4.out⟩
                          · have y1' : 0 ≤ x1 := by omega
                            by_cases y2 : 3000 ≤ x1
                            · clear hall
                              go_wp2
                              go_ret
                              exact ⟨by rw [HF.out]; rfl, HBr4.out⟩
                            · have y2' : x1 < 3000 := by omega
                              by_cases y3 : 2999 ≤ x1
                              · clear hall
                                go_wp2_with fail
                                refine D.out.mono ?_
                                rintro e wz ⟨rfl, hwz⟩
                                subst wz
                                go_wp2
                                go_ret
                                exact ⟨by rw [HF.out]; rfl, HBr4.out⟩
                              · have y3' : x1 < 2999 := by omega
                                by_cases y4 : x4 < 0
                                · clear hall
                                  go_wp2_with fail
                                  refine D.out.mono ?_
                                  rintro e wz ⟨rfl, hwz⟩
                                  subst wz
                                  go_wp2
                                  go_ret
                                  exact ⟨by rw [HF.out]; rfl, HBr4.out⟩
                                · have y4' : 0 ≤ x4 := by omega
                                  have y5 : 3000 ≤ x4 := by omega
                                  clear hall
                                  go_wp2_with fail
                                  refine D.out.mono ?_
                                  rintro e wz ⟨rfl, hwz⟩
                                  subst wz
                                  go_wp2
                                  go_ret
                                  exact ⟨by rw [HF.out]; rfl, HBr4.out⟩
                    · have h3' : (x3 != 0) = true := by simpa using h3
                      have h3'' : (x3 == 0) = false := by simpa using h3
                      have HX3 := Lib.hid (show x3 = 0 ∨ argI x2 = true from .inr HAR.out)
                      clear h3
                      as_aux_lemma =>
                        by_cases hall : 0 ≤ x1 ∧ x1 < 2999 ∧ 0 ≤ x4 ∧ x4 < 3000
                        · have HFT := Lib.hid (show fit (x1, x2, x3, x4) = true from HFI.out.2 ⟨HP.out, HX3.out, hall.1, by omega, (fun h => by omega), hall.2.2.1, hall.2.2.2⟩)
                          have HRA2 := Lib.hid (show runR st (l.drop (j + 1)) x4 (decide (j + 1 = 0)) = runR st l st true by
                            have h := HRA.out
                            rw [if_pos ⟨rfl, HJ.out, HFT.out⟩] at h
                            rw [show decide (j + 1 = 0) = false from decide_eq_false (Nat.succ_ne_zero j)]
                            exact h)
                          obtain ⟨y1, y2, y3, y4⟩ := hall
                          have y5 : x1 < 3000 := by omega
                          go_wp2_with fail
                          refine D.out.mono ?_
                          rintro e wz ⟨rfl, hwz⟩
                          subst wz
                          go_wp2_with fail
                          refine D.out.mono ?_
                          rintro e wz ⟨rfl, hwz⟩
                          subst wz
                          go_wp2
                          go_roundg (n - (j + 1))
                          case measure => omega
                          case rel => exact ⟨j + 1, x4, rfl, by omega, rfl, by go_num, HBR4, HRA2⟩
                        · have HF := Lib.hid (HNO.out (fun h => hall (by have hh := HFI.out.1 h.2.2; exact ⟨hh.2.2.1, hh.2.2.2.2.1 HAR.out, hh.2.2.2.2.2.1, hh.2.2.2.2.2.2⟩)))
                          by_cases y1 : x1 < 0
                          · clear hall
                            go_wp2_with fail
                            refine D.out.mono ?_
                            rintro e wz ⟨rfl, hwz⟩
                            subst wz
                            go_wp2
                            go_ret
                            exact ⟨by rw [HF.out]; rfl, HBr4.out⟩
                          · have y1' : 0 ≤ x1 := by omega
                            by_cases y2 : 3000 ≤ x1
                            · clear hall
                              go_wp2_with fail
                              refine D.out.mono ?_
                              rintro e wz ⟨rfl, hwz⟩
                              subst wz
                              go_wp2
                              go_ret
                              exact ⟨by rw [HF.out]; rfl, HBr4.out⟩
                            · have y2' : x1 < 3000 := by omega
                              by_cases y3 : 2999 ≤ x1
                              · clear hall
                                go_wp2_with fail
                                refine D.out.mono ?_
                                rintro e wz ⟨rfl, hwz⟩
                                subst wz
                                go_wp2_with fail
                                refine D.out.mono ?_
                                rintro e wz ⟨rfl, hwz⟩
                                subst wz
                                go_wp2
                                go_ret
                                exact ⟨by rw [HF.out]; rfl, HBr4.out⟩
                              · have y3' : x1 < 2999 := by omega
                                by_cases y4 : x4 < 0
                                · clear hall
                                  go_wp2_with fail
                                  refine D.out.mono ?_
                                  rintro e wz ⟨rfl, hwz⟩
                                  subst wz
                                  go_wp2_with fail
                                  refine D.out.mono ?_
                                  rintro e wz ⟨rfl, hwz⟩
                                  subst wz
                                  go_wp2
                                  go_ret
                                  exact ⟨by rw [HF.out]; rfl, HBr4.out⟩
                                · have y4' : 0 ≤ x4 := by omega
                                  have y5 : 3000 ≤ x4 := by omega
                                  clear hall
                                  go_wp2_with fail
                                  refine D.out.mono ?_
                                  rintro e wz ⟨rfl, hwz⟩
                                  subst wz
                                  go_wp2_with fail
                                  refine D.out.mono ?_
                                  rintro e wz ⟨rfl, hwz⟩
                                  subst wz
                                  go_wp2
                                  go_ret
                                  exact ⟨by rw [HF.out]; rfl, HBr4.out⟩
                  | false =>
                    have HAR := Lib.hid harg
                    rw [harg] at D
                    clear harg
                    by_cases h3 : x3 = 0
                    · have h3' : (x3 != 0) = false := by simpa using h3
                      have h3'' : (x3 == 0) = true := by simpa using h3
                      have HX3 := Lib.hid (show x3 = 0 ∨ argI x2 = true from .inl h3)
                      clear h3
                      as_aux_lemma =>
                        by_cases hall : 0 ≤ x1 ∧ x1 < 3000 ∧ 0 ≤ x4 ∧ x4 < 3000
                        · have HFT := Lib.hid (show fit (x1, x2, x3, x4) = true from HFI.out.2 ⟨HP.out, HX3.out, hall.1, by omega, (fun h => by rw [HAR.out] at h; cases h), hall.2.2.1, hall.2.2.2⟩)
                          have HRA2 := Lib.hid (show runR st (l.drop (j + 1)) x4 (decide (j + 1 = 0)) = runR st l st true by
                            have h := HRA.out
                            rw [if_pos ⟨rfl, HJ.out, HFT.out⟩] at h
                            rw [show decide (j + 1 = 0) = false from decide_eq_false (Nat.succ_ne_zero j)]
                            exact h)
                          obtain ⟨y1, y2, y3, y4⟩ := hall
                          have y5 : x1 < 3000 := by omega
                          go_wp2_with fail
                          refine D.out.mono ?_
                          rintro e wz ⟨rfl, hwz⟩
                          subst wz
                          go_wp2
                          go_roundg (n - (j + 1))
                          case measure => omega
                          case rel => exact ⟨j + 1, x4, rfl, by omega, rfl, by go_num, HBR4, HRA2⟩
                        · have HF := Lib.hid (HNO.out (fun h => hall (by have hh := HFI.out.1 h.2.2; exact ⟨hh.2.2.1, hh.2.2.2.1, hh.2.2.2.2.2.1, hh.2.2.2.2.2.2⟩)))
                          by_cases y1 : x1 < 0
                          · clear hall
                            go_wp2
                            go_ret
                            exact ⟨by rw [HF.out]; rfl, HBr4.out⟩
                          · have y1' : 0 ≤ x1 := by omega
                            by_cases y2 : 3000 ≤ x1
                            · clear hall
                              go_wp2
                              go_ret
                              exact ⟨by rw [HF.out]; rfl, HBr4.out⟩
                            · have y2' : x1 < 3000 := by omega
                              by_cases y4 : x4 < 0
                              · clear hall
                                go_wp2_with fail
                                refine D.out.mono ?_
                                rintro e wz ⟨rfl, hwz⟩
                                subst wz
                                go_wp2
                                go_ret
                                exact ⟨by rw [HF.out]; rfl, HBr4.out⟩
                              · have y4' : 0 ≤ x4 := by omega
                                have y5 : 3000 ≤ x4 := by omega
                                clear hall
                                go_wp2_with fail
                                refine D.out.mono ?_
                                rintro e wz ⟨rfl, hwz⟩
                                subst wz
                                go_wp2
                                go_ret
                                exact ⟨by rw [HF.out]; rfl, HBr4.out⟩
                    · have h3' : (x3 != 0) = true := by simpa using h3
                      have h3'' : (x3 == 0) = false := by simpa using h3
                      have H3 := Lib.hid h3
                      clear h3
                      as_aux_lemma =>
                        have HF := Lib.hid (HNO.out (fun h => by rcases (HFI.out.1 h.2.2).2.1 with h | h; exact H3.out h; rw [HAR.out] at h; cases h))
                        go_wp2_with fail
                        refine D.out.mono ?_
                        rintro e wz ⟨rfl, hwz⟩
                        subst wz
                        go_wp2
                        go_ret
                        exact ⟨by rw [HF.out]; rfl, HBr4.out⟩
                · have h64' : x2 < 64 := by omega
                  by_cases hp : plainI x2 = true
                  · have HP := Lib.hid (show 64 ≤ x2 ∨ plainI x2 = true from .inr hp)
                    rw [hp] at C
                    clear hp
                    cases harg : argI x2 with
                    | true =>
                      have HAR := Lib.hid harg
                      rw [harg] at D
                      clear harg
                      by_cases h3 : x3 = 0
                      · have h3' : (x3 != 0) = false := by simpa using h3
                        have h3'' : (x3 == 0) = true := by simpa using h3
                        have HX3 := Lib.hid (show x3 = 0 ∨ argI x2 = true from .inl h3)
                        clear h3
                        as_aux_lemma =>
                          by_cases hall : 0 ≤ x1 ∧ x1 < 2999 ∧ 0 ≤ x4 ∧ x4 < 3000
                          · have HFT := Lib.hid (show fit (x1, x2, x3, x4) = true from HFI.out.2 ⟨HP.out, HX3.out, hall.1, by omega, (fun h => by omega), hall.2.2.1, hall.2.2.2⟩)
                            have HRA2 := Lib.hid (show runR st (l.drop (j + 1)) x4 (decide (j + 1 = 0)) = runR st l st true by
                              have h := HRA.out
                              rw [if_pos ⟨rfl, HJ.out, HFT.out⟩] at h
                              rw [show decide (j + 1 = 0) = false from decide_eq_false (Nat.succ_ne_zero j)]
                              exact h)
                            obtain ⟨y1, y2, y3, y4⟩ := hall
                            have y5 : x1 < 3000 := by omega
                            go_wp2_with fail
                            refine C.out.mono ?_
                            rintro e wz ⟨rfl, hwz⟩
                            subst wz
                            go_wp2_with fail
                            refine D.out.mono ?_
                            rintro e wz ⟨rfl, hwz⟩
                            subst wz
                            go_wp2
                            go_roundg (n - (j + 1))
                            case measure => omega
                            case rel => exact ⟨j + 1, x4, rfl, by omega, rfl, by go_num, HBR4, HRA2⟩
                          · have HF := Lib.hid (HNO.out (fun h => hall (by have hh := HFI.out.1 h.2.2; exact ⟨hh.2.2.1, hh.2.2.2.2.1 HAR.out, hh.2.2.2.2.2.1, hh.2.2.2.2.2.2⟩)))
                            by_cases y1 : x1 < 0
                            · clear hall
                              go_wp2_with fail
                              refine C.out.mono ?_
                              rintro e wz ⟨rfl, hwz⟩
                              subst wz
                              go_wp2
                              go_ret
                              exact ⟨by rw [HF.out]; rfl, HBr4.out⟩
                            · have y1' : 0 ≤ x1 := by omega
                              by_cases y2 : 3000 ≤ x1
                              · clear hall
                                go_wp2_with fail
                                refine C.out.mono ?_
                                rintro e wz ⟨rfl, hwz⟩
                                subst wz
                                go_wp2
                                go_ret
                                exact ⟨by rw [HF.out]; rfl, HBr4.out⟩
                              · have y2' : x1 < 3000 := by omega
                                by_cases y3 : 2999 ≤ x1
                                · clear hall
                                  go_wp2_with fail
                                  refine C.out.mono ?_
                                  rintro e wz ⟨rfl, hwz⟩
                                  subst wz
                                  go_wp2_with fail
                                  refine D.out.mono ?_
                                  rintro e wz ⟨rfl, hwz⟩
                                  subst wz
                                  go_wp2
                                  go_ret
                                  exact ⟨by rw [HF.out]; rfl, HBr4.out⟩
                                · have y3' : x1 < 2999 := by omega
                                  by_cases y4 : x4 < 0
                                  · clear hall
                                    go_wp2_with fail
                                    refine C.out.mono ?_
                                    rintro e wz ⟨rfl, hwz⟩
                                    subst wz
                                    go_wp2_with fail
                                    refine D.out.mono ?_
                                    rintro e wz ⟨rfl, hwz⟩
                                    subst wz
                                    go_wp2
                                    go_ret
                                    exact ⟨by rw [HF.out]; rfl, HBr4.out⟩
                                  · have y4' : 0 ≤ x4 := by omega
                                    have y5 : 3000 ≤ x4 := by omega
                                    clear hall
                                    go_wp2_with fail
                                    refine C.out.mono ?_
                                    rintro e wz ⟨rfl, hwz⟩
                                    subst wz
                                    go_wp2_with fail
                                    refine D.out.mono ?_
                                    rintro e wz ⟨rfl, hwz⟩
                                    subst wz
                                    go_wp2
                                    go_ret
                                    exact ⟨by rw [HF.out]; rfl, HBr4.out⟩
                      · have h3' : (x3 != 0) = true := by simpa using h3
                        have h3'' : (x3 == 0) = false := by simpa using h3
                        have HX3 := Lib.hid (show x3 = 0 ∨ argI x2 = true from .inr HAR.out)
                        clear h3
                        as_aux_lemma =>
                          by_cases hall : 0 ≤ x1 ∧ x1 < 2999 ∧ 0 ≤ x4 ∧ x4 < 3000
                          · have HFT := Lib.hid (show fit (x1, x2, x3, x4) = true from HFI.out.2 ⟨HP.out, HX3.out, hall.1, by omega, (fun h => by omega), hall.2.2.1, hall.2.2.2⟩)
                            have HRA2 := Lib.hid (show runR st (l.drop (j + 1)) x4 (decide (j + 1 = 0)) = runR st l st true by
                              have h := HRA.out
                              rw [if_pos ⟨rfl, HJ.out, HFT.out⟩] at h
                              rw [show decide (j + 1 = 0) = false from decide_eq_false (Nat.succ_ne_zero j)]
                              exact h)
                            obtain ⟨y1, y2, y3, y4⟩ := hall
                            have y5 : x1 < 3000 := by omega
                            go_wp2_with fail
                            refine C.out.mono ?_
                            rintro e wz ⟨rfl, hwz⟩
                            subst wz
                            go_wp2_with fail
                            refine D.out.mono ?_
                            rintro e wz ⟨rfl, hwz⟩
                            subst wz
                            go_wp2_with fail
                            refine D.out.mono ?_
                            rintro e wz ⟨rfl, hwz⟩
                            subst wz
                            go_wp2
                            go_roundg (n - (j + 1))
                            case measure => omega
                            case rel => exact ⟨j + 1, x4, rfl, by omega, rfl, by go_num, HBR4, HRA2⟩
                          · have HF := Lib.hid (HNO.out (fun h => hall (by have hh := HFI.out.1 h.2.2; exact ⟨hh.2.2.1, hh.2.2.2.2.1 HAR.out, hh.2.2.2.2.2.1, hh.2.2.2.2.2.2⟩)))
                            by_cases y1 : x1 < 0
                            · clear hall
                              go_wp2_with fail
                              refine C.out.mono ?_
                              rintro e wz ⟨rfl, hwz⟩
                              subst wz
                              go_wp2_with fail
                              refine D.out.mono ?_
                              rintro e wz ⟨rfl, hwz⟩
                              subst wz
                              go_wp2
                              go_ret
                              exact ⟨by rw [HF.out]; rfl, HBr4.out⟩
                            · have y1' : 0 ≤ x1 := by omega
                              by_cases y2 : 3000 ≤ x1
                              · clear hall
                                go_wp2_with fail
                                refine C.out.mono ?_
                                rintro e wz ⟨rfl, hwz⟩
                                subst wz
                                go_wp2_with fail
                                refine D.out.mono ?_
                                rintro e wz ⟨rfl, hwz⟩
                                subst wz
                                go_wp2
                                go_ret
                                exact ⟨by rw [HF.out]; rfl, HBr4.out⟩
                              · have y2' : x1 < 3000 := by omega
                                by_cases y3 : 2999 ≤ x1
                                · clear hall
                                  go_wp2_with fail
                                  refine C.out.mono ?_
                                  rintro e wz ⟨rfl, hwz⟩
                                  subst wz
                                  go_wp2_with fail
                                  refine D.out.mono ?_
                                  rintro e wz ⟨rfl, hwz⟩
                                  subst wz
                                  go_wp2_with fail
                                  refine D.out.mono ?_
                                  rintro e wz ⟨rfl, hwz⟩
                                  subst wz
                                  go_wp2
                                  go_ret
                                  exact ⟨by rw [HF.out]; rfl, HBr4.out⟩
                                · have y3' : x1 < 2999 := by omega
                                  by_cases y4 : x4 < 0
                                  · clear hall
                                    go_wp2_with fail
                                    refine C.out.mono ?_
                                    rintro e wz ⟨rfl, hwz⟩
                                    subst wz
                                    go_wp2_with fail
                                    refine D.out.mono ?_
                                    rintro e wz ⟨rfl, hwz⟩
                                    subst wz
                                    go_wp2_with fail
                                    refine D.out.mono ?_
                                    rintro e wz ⟨rfl, hwz⟩
                                    subst wz
                                    go_wp2
                                    go_ret
                                    exact ⟨by rw [HF.out]; rfl, HBr4.out⟩
                                  · have y4' : 0 ≤ x4 := by omega
                                    have y5 : 3000 ≤ x4 := by omega
                                    clear hall
                                    go_wp2_with fail
                                    refine C.out.mono ?_
                                    rintro e wz ⟨rfl, hwz⟩
                                    subst wz
                                    go_wp2_with fail
                                    refine D.out.mono ?_
                                    rintro e wz ⟨rfl, hwz⟩
                                    subst wz
                                    go_wp2_with fail
                                    refine D.out.mono ?_
                                    rintro e wz ⟨rfl, hwz⟩
                                    subst wz
                                    go_wp2
                                    go_ret
                                    exact ⟨by rw [HF.out]; rfl, HBr4.out⟩
                    | false =>
                      have HAR := Lib.hid harg
                      rw [harg] at D
                      clear harg
                      by_cases h3 : x3 = 0
                      · have h3' : (x3 != 0) = false := by simpa using h3
                        have h3'' : (x3 == 0) = true := by simpa using h3
                        have HX3 := Lib.hid (show x3 = 0 ∨ argI x2 = true from .inl h3)
                        clear h3
                        as_aux_lemma =>
                          by_cases hall : 0 ≤ x1 ∧ x1 < 3000 ∧ 0 ≤ x4 ∧ x4 < 3000
                          · have HFT := Lib.hid (show fit (x1, x2, x3, x4) = true from HFI.out.2 ⟨HP.out, HX3.out, hall.1, by omega, (fun h => by rw [HAR.out] at h; cases h), hall.2.2.1, hall.2.2.2⟩)
                            have HRA2 := Lib.hid (show runR st (l.drop (j + 1)) x4 (decide (j + 1 = 0)) = runR st l st true by
                              have h := HRA.out
                              rw [if_pos ⟨rfl, HJ.out, HFT.out⟩] at h
                              rw [show decide (j + 1 = 0) = false from decide_eq_false (Nat.succ_ne_zero j)]
                              exact h)
                            obtain ⟨y1, y2, y3, y4⟩ := hall
                            have y5 : x1 < 3000 := by omega
                            go_wp2_with fail
                            refine C.out.mono ?_
                            rintro e wz ⟨rfl, hwz⟩
                            subst wz
                            go_wp2_with fail
                            refine D.out.mono ?_
                            rintro e wz ⟨rfl, hwz⟩
                            subst wz
                            go_wp2
                            go_roundg (n - (j + 1))
                            case measure => omega
                            case rel => exact ⟨j + 1, x4, rfl, by omega, rfl, by go_num, HBR4, HRA2⟩
                          · have HF := Lib.hid (HNO.out (fun h => hall (by have hh := HFI.out.1 h.2.2; exact ⟨hh.2.2.1, hh.2.2.2.1, hh.2.2.2.2.2.1, hh.2.2.2.2.2.2⟩)))
                            by_cases y1 : x1 < 0
                            · clear hall
                              go_wp2_with fail
                              refine C.out.mono ?_
                              rintro e wz ⟨rfl, hwz⟩
                              subst wz
                              go_wp2
                              go_ret
                              exact ⟨by rw [HF.out]; rfl, HBr4.out⟩
                            · have y1' : 0 ≤ x1 := by omega
                              by_cases y2 : 3000 ≤ x1
                              · clear hall
                                go_wp2_with fail
                                refine C.out.mono ?_
                                rintro e wz ⟨rfl, hwz⟩
                                subst wz
                                go_wp2
                                go_ret
                                exact ⟨by rw [HF.out]; rfl, HBr4.out⟩
                              · have y2' : x1 < 3000 := by omega
                                by_cases y4 : x4 < 0
                                · clear hall
                                  go_wp2_with fail
                                  refine C.out.mono ?_
                                  rintro e wz ⟨rfl, hwz⟩
                                  subst wz
                                  go_wp2_with fail
                                  refine D.out.mono ?_
                                  rintro e wz ⟨rfl, hwz⟩
                                  subst wz
                                  go_wp2
                                  go_ret
                                  exact ⟨by rw [HF.out]; rfl, HBr4.out⟩
                                · have y4' : 0 ≤ x4 := by omega
                                  have y5 : 3000 ≤ x4 := by omega
                                  clear hall
                                  go_wp2_with fail
                                  refine C.out.mono ?_
                                  rintro e wz ⟨rfl, hwz⟩
                                  subst wz
                                  go_wp2_with fail
                                  refine D.out.mono ?_
                                  rintro e wz ⟨rfl, hwz⟩
                                  subst wz
                                  go_wp2
                                  go_ret
                                  exact ⟨by rw [HF.out]; rfl, HBr4.out⟩
                      · have h3' : (x3 != 0) = true := by simpa using h3
                        have h3'' : (x3 == 0) = false := by simpa using h3
                        have H3 := Lib.hid h3
                        clear h3
                        as_aux_lemma =>
                          have HF := Lib.hid (HNO.out (fun h => by rcases (HFI.out.1 h.2.2).2.1 with h | h; exact H3.out h; rw [HAR.out] at h; cases h))
                          go_wp2_with fail
                          refine C.out.mono ?_
                          rintro e wz ⟨rfl, hwz⟩
                          subst wz
                          go_wp2_with fail
                          refine D.out.mono ?_
                          rintro e wz ⟨rfl, hwz⟩
                          subst wz
                          go_wp2
                          go_ret
                          exact ⟨by rw [HF.out]; rfl, HBr4.out⟩
                  · have hp' : plainI x2 = false := by simpa using hp
                    rw [hp'] at C
                    as_aux_lemma =>
                      have HF := Lib.hid (HNO.out (fun h => by rcases (HFI.out.1 h.2.2).1 with h | h; exact h64 h; exact hp h))
                      clear hp hp'
                      go_wp2_with fail
                      refine C.out.mono ?_
                      rintro e wz ⟨rfl, hwz⟩
                      subst wz
                      go_wp2
                      go_ret
                      exact ⟨by rw [HF.out]; rfl, HBr4.out⟩
          · have ha2 : (x1 != a) = true := by simpa using ha
            have ha1 : (x1 == a) = false := by simpa using ha
            as_aux_lemma =>
              have HF := Lib.hid (HNO.out (fun h => ha h.1))
              clear ha
              go_wp2
              go_ret
              exact ⟨by rw [HF.out]; rfl, HBr4.out⟩
        · obtain rfl : j = n := by omega
          have z1 : ¬ (j : Int) < (j : Int) := by omega
          have HBF := Lib.hid (HB.out.trans (HBR.out.mono HB.out.size))
          have p1 : wr.cell? ⟨g, 1, none⟩ = some (.int .i64 la) := whole_cell HGr.out rfl
          have hE : endR ⟨st, la, lo, l⟩ a = res := by
            have h := HRN.out
            rw [List.drop_of_length_le (by rw [HN.out]; exact Nat.le_refl _)] at h
            have h2 := HRR.out
            rw [← h] at h2
            exact h2
          by_cases hz : a = la
          · subst hz
            have HF := Lib.hid (show res = true by
              rw [← hE]
              unfold endR
              rw [show ({ start := st, last := a, loop := lo, steps := l } : R).steps.length = j from HN.out]
              simp only [decide_true, Bool.true_and]
              exact HGD.out.1)
            clear hE
            go_wp2
            go_ret
            exact ⟨by rw [HF.out]; simp, HBF.out⟩
          · have hz1 : (a == la) = false := by simpa using hz
            have HF := Lib.hid (show res = false by rw [← hE]; unfold endR; simp [hz])
            clear hz hE
            go_wp2
            go_ret
            exact ⟨by rw [HF.out]; rfl, HBF.out⟩
  · have HF := Lib.hid (show res = false from by
      by_cases h1 : (lo == (decide (0 < n) && decide (la = st))) = true
      · have h2 : n = 0 ∧ ¬ la = st := Decidable.byContradiction fun h => hgd ⟨h1, fun hn => Decidable.byContradiction fun hs => h ⟨hn, hs⟩⟩
        have hl0 : l = [] := List.eq_nil_of_length_eq_zero (HN.out.trans h2.1)
        rw [← HRR.out, hl0]
        show endR _ st = false
        unfold endR
        simp [show ¬ st = la from fun e => h2.2 e.symm]
      · exact HBAD.out (by simpa using h1))
    have HGB := Lib.hid hgd
    clear hgd HBAD
    rcases Nat.eq_zero_or_pos n with hn0 | hn0
    · subst hn0
      cases lo with
      | true =>
        clear HGB
        go_enter Tryz.func27, Tryz.ntmps27
        go_wp2
        go_ret
        exact ⟨by rw [HF.out]; rfl, HB.out⟩
      | false =>
        by_cases hs : la = st
        · exact absurd ⟨rfl, fun _ => hs⟩ HGB.out
        · have hs2 : (la == st) = false := by simpa using hs
          have hs3 : (la != st) = true := by simpa using hs
          clear HGB hs
          go_enter Tryz.func27, Tryz.ntmps27
          go_wp2
          go_ret
          exact ⟨by rw [HF.out]; rfl, HB.out⟩
    · have e0 : decide (0 < n) = true := decide_eq_true hn0
      have z0' : (n == 0) = false := by simp; omega
      have z0i : ((n : Int) == 0) = false := beq_eq_false_iff_ne.2 (by omega)
      have hgb := HGB.out
      rw [e0, Bool.true_and] at hgb
      clear HGB
      by_cases hs : la = st
      · subst hs
        cases lo with
        | true => exact absurd ⟨by simp, fun h => by omega⟩ hgb
        | false =>
          clear hgb
          go_enter Tryz.func27, Tryz.ntmps27
          go_wp2
          go_ret
          exact ⟨by rw [HF.out]; rfl, HB.out⟩
      · have hs2 : (la == st) = false := by simpa using hs
        rw [decide_eq_false hs] at hgb
        cases lo with
        | false => exact absurd ⟨rfl, fun h => by omega⟩ hgb
        | true =>
          clear hgb hs
          go_enter Tryz.func27, Tryz.ntmps27
          go_wp2
          go_ret
          exact ⟨by rw [HF.out]; rfl, HB.out⟩
end Go.Proofs.YtcffbeihgchpgaaGreatDoor.Rec
