/- Package record: whether a step may be recorded. -/
import Derived.Test.YtcffbeihgchpgaaGreatDoorS34
import Derived.Deep.RegionHeld3
import Derived.Deep.DeepCutAuto
import Derived.RegionTactic
namespace Go.Proofs.YtcffbeihgchpgaaGreatDoor.Rec
open Go.RowKit Book Book.Wide Mem Mach Inn
set_option linter.unusedSimpArgs false
set_option linter.unusedVariables false
theorem fit_no {x : S} (h : ¬ ((plainI x.2.1 = true ∨ 64 ≤ x.2.1) ∧ (argI x.2.1 = true ∨ x.2.2.1 = 0) ∧ place x.1 = true ∧ place (lastOf x) = true ∧ place x.2.2.2 = true)) : fit x = false := by unfold fit; exact decide_eq_false h
theorem fit_yes {x : S} (h : (plainI x.2.1 = true ∨ 64 ≤ x.2.1) ∧ (argI x.2.1 = true ∨ x.2.2.1 = 0) ∧ place x.1 = true ∧ place (lastOf x) = true ∧ place x.2.2.2 = true) : fit x = true := by unfold fit; exact decide_eq_true h
set_option maxHeartbeats 8000000 in
theorem right_any (x : S) (w : World) : Calls Tryz.prog 45 #[seenV x] w (Says (.bool (fit x)) w) := by
  obtain ⟨x1, x2, x3, x4⟩ := x
  obtain ⟨w1, g, hw1, hg, HG, HB, HZ⟩ := newBox w (seenA (x1, x2, x3, x4)) 55
  have c0 : w1.cell? ⟨g, 0, none⟩ = some (.int .i64 x1) := whole_cell HG.out rfl
  have c1 : w1.cell? ⟨g, 1, none⟩ = some (.int .i64 x2) := whole_cell HG.out rfl
  have c2 : w1.cell? ⟨g, 2, none⟩ = some (.int .i64 x3) := whole_cell HG.out rfl
  have c3 : w1.cell? ⟨g, 3, none⟩ = some (.int .i64 x4) := whole_cell HG.out rfl
  have C1 := Lib.hid (opPlain_same x2 w1)
  have C2 := Lib.hid (opArg_same x2 w1)
  have C3 := Lib.hid (place_any x1 w1)
  have C4 := Lib.hid (last_any (x1, x2, x3, x4) w1)
  obtain ⟨L, hL⟩ : ∃ L, lastOf (x1, x2, x3, x4) = L := ⟨_, rfl⟩
  have HL := Lib.hid hL
  rw [hL] at C4
  clear hL
  by_cases hp : plainI x2 = true
  · rw [hp] at C1
    by_cases ha : argI x2 = true
    · rw [ha] at C2
      by_cases hq : place x1 = true
      · rw [hq] at C3
        by_cases hl : place L = true
        · by_cases hn : place x4 = true
          · have HP5 := Lib.hid hl
            have HP6 := Lib.hid hn
            have HF := Lib.hid (show fit (x1, x2, x3, x4) = true from fit_yes ⟨(.inl hp), (.inl ha), hq, by rw [HL.out]; exact hl, hn⟩)
            clear hl hn hq
            go_enter Tryz.func45, Tryz.ntmps45
            go_wp2_with fail
            refine C1.out.mono ?_
            rintro e wz ⟨rfl, hwz⟩
            subst wz
            go_wp2_with fail
            refine C2.out.mono ?_
            rintro e wz ⟨rfl, hwz⟩
            subst wz
            go_wp2_with fail
            refine C3.out.mono ?_
            rintro e wz ⟨rfl, hwz⟩
            subst wz
            go_wp2_with fail
            refine C4.out.mono ?_
            rintro e w2 ⟨rfl, hb⟩
            have HB2 := Lib.hid (HB.out.trans (hb.mono HB.out.size))
            have d3 : w2.cell? ⟨g, 3, none⟩ = some (.int .i64 x4) := whole_cell (boxOn HG.out hb) rfl
            have C5 := Lib.hid (place_any L w2)
            have C6 := Lib.hid (place_any x4 w2)
            rw [HP5.out] at C5
            rw [HP6.out] at C6
            clear hb C4
            go_wp2_with fail
            refine C5.out.mono ?_
            rintro e wz ⟨rfl, hwz⟩
            subst wz
            go_wp2_with fail
            refine C6.out.mono ?_
            rintro e wz ⟨rfl, hwz⟩
            subst wz
            go_wp2
            go_ret
            exact ⟨by rw [HF.out]; rfl, HB2.out⟩
          · have HP5 := Lib.hid hl
            have HP6 := Lib.hid (show place x4 = false by simpa using hn)
            have HF := Lib.hid (show fit (x1, x2, x3, x4) = false from fit_no (fun h => hn h.2.2.2.2))
            clear hl hn hq
            go_enter Tryz.func45, Tryz.ntmps45
            go_wp2_with fail
            refine C1.out.mono ?_
            rintro e wz ⟨rfl, hwz⟩
            subst wz
            go_wp2_with fail
            refine C2.out.mono ?_
            rintro e wz ⟨rfl, hwz⟩
            subst wz
            go_wp2_with fail
            refine C3.out.mono ?_
            rintro e wz ⟨rfl, hwz⟩
            subst wz
            go_wp2_with fail
            refine C4.out.mono ?_
            rintro e w2 ⟨rfl, hb⟩
            have HB2 := Lib.hid (HB.out.trans (hb.mono HB.out.size))
            have d3 : w2.cell? ⟨g, 3, none⟩ = some (.int .i64 x4) := whole_cell (boxOn HG.out hb) rfl
            have C5 := Lib.hid (place_any L w2)
            have C6 := Lib.hid (place_any x4 w2)
            rw [HP5.out] at C5
            rw [HP6.out] at C6
            clear hb C4
            go_wp2_with fail
            refine C5.out.mono ?_
            rintro e wz ⟨rfl, hwz⟩
            subst wz
            go_wp2_with fail
            refine C6.out.mono ?_
            rintro e wz ⟨rfl, hwz⟩
            subst wz
            go_wp2
            go_ret
            exact ⟨by rw [HF.out]; rfl, HB2.out⟩
        · have HP5 := Lib.hid (show place L = false by simpa using hl)
          have HF := Lib.hid (show fit (x1, x2, x3, x4) = false from fit_no (fun h => hl (by rw [← HL.out]; exact h.2.2.2.1)))
          clear hl hq
          go_enter Tryz.func45, Tryz.ntmps45
          go_wp2_with fail
          refine C1.out.mono ?_
          rintro e wz ⟨rfl, hwz⟩
          subst wz
          go_wp2_with fail
          refine C2.out.mono ?_
          rintro e wz ⟨rfl, hwz⟩
          subst wz
          go_wp2_with fail
          refine C3.out.mono ?_
          rintro e wz ⟨rfl, hwz⟩
          subst wz
          go_wp2_with fail
          refine C4.out.mono ?_
          rintro e w2 ⟨rfl, hb⟩
          have HB2 := Lib.hid (HB.out.trans (hb.mono HB.out.size))
          have d3 : w2.cell? ⟨g, 3, none⟩ = some (.int .i64 x4) := whole_cell (boxOn HG.out hb) rfl
          have C5 := Lib.hid (place_any L w2)
          have C6 := Lib.hid (place_any x4 w2)
          rw [HP5.out] at C5
          clear hb C4
          go_wp2_with fail
          refine C5.out.mono ?_
          rintro e wz ⟨rfl, hwz⟩
          subst wz
          go_wp2
          go_ret
          exact ⟨by rw [HF.out]; rfl, HB2.out⟩
      · have hq' : place x1 = false := by simpa using hq
        rw [hq'] at C3
        have HF := Lib.hid (show fit (x1, x2, x3, x4) = false from fit_no (fun h => hq h.2.2.1))
        clear hq hq'
        go_enter Tryz.func45, Tryz.ntmps45
        go_wp2_with fail
        refine C1.out.mono ?_
        rintro e wz ⟨rfl, hwz⟩
        subst wz
        go_wp2_with fail
        refine C2.out.mono ?_
        rintro e wz ⟨rfl, hwz⟩
        subst wz
        go_wp2_with fail
        refine C3.out.mono ?_
        rintro e wz ⟨rfl, hwz⟩
        subst wz
        go_wp2
        go_ret
        exact ⟨by rw [HF.out]; rfl, HB.out⟩
    · have ha' : argI x2 = false := by simpa using ha
      rw [ha'] at C2
      by_cases h3 : x3 = 0
      · have h3' : (x3 == 0) = true := by simpa using h3
        have H3 := Lib.hid h3
        clear h3
        by_cases hq : place x1 = true
        · rw [hq] at C3
          by_cases hl : place L = true
          · by_cases hn : place x4 = true
            · have HP5 := Lib.hid hl
              have HP6 := Lib.hid hn
              have HF := Lib.hid (show fit (x1, x2, x3, x4) = true from fit_yes ⟨(.inl hp), (.inr H3.out), hq, by rw [HL.out]; exact hl, hn⟩)
              clear hl hn hq
              go_enter Tryz.func45, Tryz.ntmps45
              go_wp2_with fail
              refine C1.out.mono ?_
              rintro e wz ⟨rfl, hwz⟩
              subst wz
              go_wp2_with fail
              refine C2.out.mono ?_
              rintro e wz ⟨rfl, hwz⟩
              subst wz
              go_wp2_with fail
              refine C3.out.mono ?_
              rintro e wz ⟨rfl, hwz⟩
              subst wz
              go_wp2_with fail
              refine C4.out.mono ?_
              rintro e w2 ⟨rfl, hb⟩
              have HB2 := Lib.hid (HB.out.trans (hb.mono HB.out.size))
              have d3 : w2.cell? ⟨g, 3, none⟩ = some (.int .i64 x4) := whole_cell (boxOn HG.out hb) rfl
              have C5 := Lib.hid (place_any L w2)
              have C6 := Lib.hid (place_any x4 w2)
              rw [HP5.out] at C5
              rw [HP6.out] at C6
              clear hb C4
              go_wp2_with fail
              refine C5.out.mono ?_
              rintro e wz ⟨rfl, hwz⟩
              subst wz
              go_wp2_with fail
              refine C6.out.mono ?_
              rintro e wz ⟨rfl, hwz⟩
              subst wz
              go_wp2
              go_ret
              exact ⟨by rw [HF.out]; rfl, HB2.out⟩
            · have HP5 := Lib.hid hl
              have HP6 := Lib.hid (show place x4 = false by simpa using hn)
              have HF := Lib.hid (show fit (x1, x2, x3, x4) = false from fit_no (fun h => hn h.2.2.2.2))
              clear hl hn hq
              go_enter Tryz.func45, Tryz.ntmps45
              go_wp2_with fail
              refine C1.out.mono ?_
              rintro e wz ⟨rfl, hwz⟩
              subst wz
              go_wp2_with fail
              refine C2.out.mono ?_
              rintro e wz ⟨rfl, hwz⟩
              subst wz
              go_wp2_with fail
              refine C3.out.mono ?_
              rintro e wz ⟨rfl, hwz⟩
              subst wz
              go_wp2_with fail
              refine C4.out.mono ?_
              rintro e w2 ⟨rfl, hb⟩
              have HB2 := Lib.hid (HB.out.trans (hb.mono HB.out.size))
              have d3 : w2.cell? ⟨g, 3, none⟩ = some (.int .i64 x4) := whole_cell (boxOn HG.out hb) rfl
              have C5 := Lib.hid (place_any L w2)
              have C6 := Lib.hid (place_any x4 w2)
              rw [HP5.out] at C5
              rw [HP6.out] at C6
              clear hb C4
              go_wp2_with fail
              refine C5.out.mono ?_
              rintro e wz ⟨rfl, hwz⟩
              subst wz
              go_wp2_with fail
              refine C6.out.mono ?_
              rintro e wz ⟨rfl, hwz⟩
              subst wz
              go_wp2
              go_ret
              exact ⟨by rw [HF.out]; rfl, HB2.out⟩
          · have HP5 := Lib.hid (show place L = false by simpa using hl)
            have HF := Lib.hid (show fit (x1, x2, x3, x4) = false from fit_no (fun h => hl (by rw [← HL.out]; exact h.2.2.2.1)))
            clear hl hq
            go_enter Tryz.func45, Tryz.ntmps45
            go_wp2_with fail
            refine C1.out.mono ?_
            rintro e wz ⟨rfl, hwz⟩
            subst wz
            go_wp2_with fail
            refine C2.out.mono ?_
            rintro e wz ⟨rfl, hwz⟩
            subst wz
            go_wp2_with fail
            refine C3.out.mono ?_
            rintro e wz ⟨rfl, hwz⟩
            subst wz
            go_wp2_with fail
            refine C4.out.mono ?_
            rintro e w2 ⟨rfl, hb⟩
            have HB2 := Lib.hid (HB.out.trans (hb.mono HB.out.size))
            have d3 : w2.cell? ⟨g, 3, none⟩ = some (.int .i64 x4) := whole_cell (boxOn HG.out hb) rfl
            have C5 := Lib.hid (place_any L w2)
            have C6 := Lib.hid (place_any x4 w2)
            rw [HP5.out] at C5
            clear hb C4
            go_wp2_with fail
            refine C5.out.mono ?_
            rintro e wz ⟨rfl, hwz⟩
            subst wz
            go_wp2
            go_ret
            exact ⟨by rw [HF.out]; rfl, HB2.out⟩
        · have hq' : place x1 = false := by simpa using hq
          rw [hq'] at C3
          have HF := Lib.hid (show fit (x1, x2, x3, x4) = false from fit_no (fun h => hq h.2.2.1))
          clear hq hq'
          go_enter Tryz.func45, Tryz.ntmps45
          go_wp2_with fail
          refine C1.out.mono ?_
          rintro e wz ⟨rfl, hwz⟩
          subst wz
          go_wp2_with fail
          refine C2.out.mono ?_
          rintro e wz ⟨rfl, hwz⟩
          subst wz
          go_wp2_with fail
          refine C3.out.mono ?_
          rintro e wz ⟨rfl, hwz⟩
          subst wz
          go_wp2
          go_ret
          exact ⟨by rw [HF.out]; rfl, HB.out⟩
      · have h3' : (x3 == 0) = false := by simpa using h3
        have HF := Lib.hid (show fit (x1, x2, x3, x4) = false from fit_no (fun h => h.2.1.elim ha h3))
        clear h3 ha ha'
        go_enter Tryz.func45, Tryz.ntmps45
        go_wp2_with fail
        refine C1.out.mono ?_
        rintro e wz ⟨rfl, hwz⟩
        subst wz
        go_wp2_with fail
        refine C2.out.mono ?_
        rintro e wz ⟨rfl, hwz⟩
        subst wz
        go_wp2
        go_ret
        exact ⟨by rw [HF.out]; rfl, HB.out⟩
  · have hp' : plainI x2 = false := by simpa using hp
    rw [hp'] at C1
    by_cases h64 : 64 ≤ x2
    · skip
      by_cases ha : argI x2 = true
      · rw [ha] at C2
        by_cases hq : place x1 = true
        · rw [hq] at C3
          by_cases hl : place L = true
          · by_cases hn : place x4 = true
            · have HP5 := Lib.hid hl
              have HP6 := Lib.hid hn
              have HF := Lib.hid (show fit (x1, x2, x3, x4) = true from fit_yes ⟨(.inr h64), (.inl ha), hq, by rw [HL.out]; exact hl, hn⟩)
              clear hl hn hq
              go_enter Tryz.func45, Tryz.ntmps45
              go_wp2_with fail
              refine C1.out.mono ?_
              rintro e wz ⟨rfl, hwz⟩
              subst wz
              go_wp2_with fail
              refine C2.out.mono ?_
              rintro e wz ⟨rfl, hwz⟩
              subst wz
              go_wp2_with fail
              refine C3.out.mono ?_
              rintro e wz ⟨rfl, hwz⟩
              subst wz
              go_wp2_with fail
              refine C4.out.mono ?_
              rintro e w2 ⟨rfl, hb⟩
              have HB2 := Lib.hid (HB.out.trans (hb.mono HB.out.size))
              have d3 : w2.cell? ⟨g, 3, none⟩ = some (.int .i64 x4) := whole_cell (boxOn HG.out hb) rfl
              have C5 := Lib.hid (place_any L w2)
              have C6 := Lib.hid (place_any x4 w2)
              rw [HP5.out] at C5
              rw [HP6.out] at C6
              clear hb C4
              go_wp2_with fail
              refine C5.out.mono ?_
              rintro e wz ⟨rfl, hwz⟩
              subst wz
              go_wp2_with fail
              refine C6.out.mono ?_
              rintro e wz ⟨rfl, hwz⟩
              subst wz
              go_wp2
              go_ret
              exact ⟨by rw [HF.out]; rfl, HB2.out⟩
            · have HP5 := Lib.hid hl
              have HP6 := Lib.hid (show place x4 = false by simpa using hn)
              have HF := Lib.hid (show fit (x1, x2, x3, x4) = false from fit_no (fun h => hn h.2.2.2.2))
              clear hl hn hq
              go_enter Tryz.func45, Tryz.ntmps45
              go_wp2_with fail
              refine C1.out.mono ?_
              rintro e wz ⟨rfl, hwz⟩
              subst wz
              go_wp2_with fail
              refine C2.out.mono ?_
              rintro e wz ⟨rfl, hwz⟩
              subst wz
              go_wp2_with fail
              refine C3.out.mono ?_
              rintro e wz ⟨rfl, hwz⟩
              subst wz
              go_wp2_with fail
              refine C4.out.mono ?_
              rintro e w2 ⟨rfl, hb⟩
              have HB2 := Lib.hid (HB.out.trans (hb.mono HB.out.size))
              have d3 : w2.cell? ⟨g, 3, none⟩ = some (.int .i64 x4) := whole_cell (boxOn HG.out hb) rfl
              have C5 := Lib.hid (place_any L w2)
              have C6 := Lib.hid (place_any x4 w2)
              rw [HP5.out] at C5
              rw [HP6.out] at C6
              clear hb C4
              go_wp2_with fail
              refine C5.out.mono ?_
              rintro e wz ⟨rfl, hwz⟩
              subst wz
              go_wp2_with fail
              refine C6.out.mono ?_
              rintro e wz ⟨rfl, hwz⟩
              subst wz
              go_wp2
              go_ret
              exact ⟨by rw [HF.out]; rfl, HB2.out⟩
          · have HP5 := Lib.hid (show place L = false by simpa using hl)
            have HF := Lib.hid (show fit (x1, x2, x3, x4) = false from fit_no (fun h => hl (by rw [← HL.out]; exact h.2.2.2.1)))
            clear hl hq
            go_enter Tryz.func45, Tryz.ntmps45
            go_wp2_with fail
            refine C1.out.mono ?_
            rintro e wz ⟨rfl, hwz⟩
            subst wz
            go_wp2_with fail
            refine C2.out.mono ?_
            rintro e wz ⟨rfl, hwz⟩
            subst wz
            go_wp2_with fail
            refine C3.out.mono ?_
            rintro e wz ⟨rfl, hwz⟩
            subst wz
            go_wp2_with fail
            refine C4.out.mono ?_
            rintro e w2 ⟨rfl, hb⟩
            have HB2 := Lib.hid (HB.out.trans (hb.mono HB.out.size))
            have d3 : w2.cell? ⟨g, 3, none⟩ = some (.int .i64 x4) := whole_cell (boxOn HG.out hb) rfl
            have C5 := Lib.hid (place_any L w2)
            have C6 := Lib.hid (place_any x4 w2)
            rw [HP5.out] at C5
            clear hb C4
            go_wp2_with fail
            refine C5.out.mono ?_
            rintro e wz ⟨rfl, hwz⟩
            subst wz
            go_wp2
            go_ret
            exact ⟨by rw [HF.out]; rfl, HB2.out⟩
        · have hq' : place x1 = false := by simpa using hq
          rw [hq'] at C3
          have HF := Lib.hid (show fit (x1, x2, x3, x4) = false from fit_no (fun h => hq h.2.2.1))
          clear hq hq'
          go_enter Tryz.func45, Tryz.ntmps45
          go_wp2_with fail
          refine C1.out.mono ?_
          rintro e wz ⟨rfl, hwz⟩
          subst wz
          go_wp2_with fail
          refine C2.out.mono ?_
          rintro e wz ⟨rfl, hwz⟩
          subst wz
          go_wp2_with fail
          refine C3.out.mono ?_
          rintro e wz ⟨rfl, hwz⟩
          subst wz
          go_wp2
          go_ret
          exact ⟨by rw [HF.out]; rfl, HB.out⟩
      · have ha' : argI x2 = false := by simpa using ha
        rw [ha'] at C2
        by_cases h3 : x3 = 0
        · have h3' : (x3 == 0) = true := by simpa using h3
          have H3 := Lib.hid h3
          clear h3
          by_cases hq : place x1 = true
          · rw [hq] at C3
            by_cases hl : place L = true
            · by_cases hn : place x4 = true
              · have HP5 := Lib.hid hl
                have HP6 := Lib.hid hn
                have HF := Lib.hid (show fit (x1, x2, x3, x4) = true from fit_yes ⟨(.inr h64), (.inr H3.out), hq, by rw [HL.out]; exact hl, hn⟩)
                clear hl hn hq
                go_enter Tryz.func45, Tryz.ntmps45
                go_wp2_with fail
                refine C1.out.mono ?_
                rintro e wz ⟨rfl, hwz⟩
                subst wz
                go_wp2_with fail
                refine C2.out.mono ?_
                rintro e wz ⟨rfl, hwz⟩
                subst wz
                go_wp2_with fail
                refine C3.out.mono ?_
                rintro e wz ⟨rfl, hwz⟩
                subst wz
                go_wp2_with fail
                refine C4.out.mono ?_
                rintro e w2 ⟨rfl, hb⟩
                have HB2 := Lib.hid (HB.out.trans (hb.mono HB.out.size))
                have d3 : w2.cell? ⟨g, 3, none⟩ = some (.int .i64 x4) := whole_cell (boxOn HG.out hb) rfl
                have C5 := Lib.hid (place_any L w2)
                have C6 := Lib.hid (place_any x4 w2)
                rw [HP5.out] at C5
                rw [HP6.out] at C6
                clear hb C4
                go_wp2_with fail
                refine C5.out.mono ?_
                rintro e wz ⟨rfl, hwz⟩
                subst wz
                go_wp2_with fail
                refine C6.out.mono ?_
                rintro e wz ⟨rfl, hwz⟩
                subst wz
                go_wp2
                go_ret
                exact ⟨by rw [HF.out]; rfl, HB2.out⟩
              · have HP5 := Lib.hid hl
                have HP6 := Lib.hid (show place x4 = false by simpa using hn)
                have HF := Lib.hid (show fit (x1, x2, x3, x4) = false from fit_no (fun h => hn h.2.2.2.2))
                clear hl hn hq
                go_enter Tryz.func45, Tryz.ntmps45
                go_wp2_with fail
                refine C1.out.mono ?_
                rintro e wz ⟨rfl, hwz⟩
                subst wz
                go_wp2_with fail
                refine C2.out.mono ?_
                rintro e wz ⟨rfl, hwz⟩
                subst wz
                go_wp2_with fail
                refine C3.out.mono ?_
                rintro e wz ⟨rfl, hwz⟩
                subst wz
                go_wp2_with fail
                refine C4.out.mono ?_
                rintro e w2 ⟨rfl, hb⟩
                have HB2 := Lib.hid (HB.out.trans (hb.mono HB.out.size))
                have d3 : w2.cell? ⟨g, 3, none⟩ = some (.int .i64 x4) := whole_cell (boxOn HG.out hb) rfl
                have C5 := Lib.hid (place_any L w2)
                have C6 := Lib.hid (place_any x4 w2)
                rw [HP5.out] at C5
                rw [HP6.out] at C6
                clear hb C4
                go_wp2_with fail
                refine C5.out.mono ?_
                rintro e wz ⟨rfl, hwz⟩
                subst wz
                go_wp2_with fail
                refine C6.out.mono ?_
                rintro e wz ⟨rfl, hwz⟩
                subst wz
                go_wp2
                go_ret
                exact ⟨by rw [HF.out]; rfl, HB2.out⟩
            · have HP5 := Lib.hid (show place L = false by simpa using hl)
              have HF := Lib.hid (show fit (x1, x2, x3, x4) = false from fit_no (fun h => hl (by rw [← HL.out]; exact h.2.2.2.1)))
              clear hl hq
              go_enter Tryz.func45, Tryz.ntmps45
              go_wp2_with fail
              refine C1.out.mono ?_
              rintro e wz ⟨rfl, hwz⟩
              subst wz
              go_wp2_with fail
              refine C2.out.mono ?_
              rintro e wz ⟨rfl, hwz⟩
              subst wz
              go_wp2_with fail
              refine C3.out.mono ?_
              rintro e wz ⟨rfl, hwz⟩
              subst wz
              go_wp2_with fail
              refine C4.out.mono ?_
              rintro e w2 ⟨rfl, hb⟩
              have HB2 := Lib.hid (HB.out.trans (hb.mono HB.out.size))
              have d3 : w2.cell? ⟨g, 3, none⟩ = some (.int .i64 x4) := whole_cell (boxOn HG.out hb) rfl
              have C5 := Lib.hid (place_any L w2)
              have C6 := Lib.hid (place_any x4 w2)
              rw [HP5.out] at C5
              clear hb C4
              go_wp2_with fail
              refine C5.out.mono ?_
              rintro e wz ⟨rfl, hwz⟩
              subst wz
              go_wp2
              go_ret
              exact ⟨by rw [HF.out]; rfl, HB2.out⟩
          · have hq' : place x1 = false := by simpa using hq
            rw [hq'] at C3
            have HF := Lib.hid (show fit (x1, x2, x3, x4) = false from fit_no (fun h => hq h.2.2.1))
            clear hq hq'
            go_enter Tryz.func45, Tryz.ntmps45
            go_wp2_with fail
            refine C1.out.mono ?_
            rintro e wz ⟨rfl, hwz⟩
            subst wz
            go_wp2_with fail
            refine C2.out.mono ?_
            rintro e wz ⟨rfl, hwz⟩
            subst wz
            go_wp2_with fail
            refine C3.out.mono ?_
            rintro e wz ⟨rfl, hwz⟩
            subst wz
            go_wp2
            go_ret
            exact ⟨by rw [HF.out]; rfl, HB.out⟩
        · have h3' : (x3 == 0) = false := by simpa using h3
          have HF := Lib.hid (show fit (x1, x2, x3, x4) = false from fit_no (fun h => h.2.1.elim ha h3))
          clear h3 ha ha'
          go_enter Tryz.func45, Tryz.ntmps45
          go_wp2_with fail
          refine C1.out.mono ?_
          rintro e wz ⟨rfl, hwz⟩
          subst wz
          go_wp2_with fail
          refine C2.out.mono ?_
          rintro e wz ⟨rfl, hwz⟩
          subst wz
          go_wp2
          go_ret
          exact ⟨by rw [HF.out]; rfl, HB.out⟩
    · have HF := Lib.hid (show fit (x1, x2, x3, x4) = false from fit_no (fun h => h.1.elim hp h64))
      clear hp hp'
      go_enter Tryz.func45, Tryz.ntmps45
      go_wp2_with fail
      refine C1.out.mono ?_
      rintro e wz ⟨rfl, hwz⟩
      subst wz
      go_wp2
      go_ret
      exact ⟨by rw [HF.out]; rfl, HB.out⟩
end Go.Proofs.YtcffbeihgchpgaaGreatDoor.Rec
/- A region that draws its order and makes and fills a step's box: one step each. -/
namespace Go.Proofs.YtcffbeihgchpgaaGreatDoor.Rec
open Go.RowKit Book Mem Mach Inn
set_option linter.unusedVariables false
set_option linter.unusedSimpArgs false
theorem seen_size : (Tryz.prog.info? 55).map (·.size) = some 4 := by kernel_rfl
theorem int_size : (Tryz.prog.info? 3).map (·.size) = some 1 := by kernel_rfl
theorem cells_ten {w : World} {g : Nat} {ip hn : Int} {vs vb vm : Value} {ou inn : ByteArray} {rd stt cd : Int} (h : w.heap[g]? = some (.cells (cells10 ip hn vs vb vm ou inn rd stt cd) 24 (0, 0))) : w.cell? ⟨g, 0, none⟩ = some (.int .i64 ip) ∧ w.cell? ⟨g, 1, none⟩ = some (.int .i64 hn) ∧ w.cell? ⟨g, 2, none⟩ = some vs ∧ w.cell? ⟨g, 3, none⟩ = some vb ∧ w.cell? ⟨g, 4, none⟩ = some vm ∧ w.cell? ⟨g, 5, none⟩ = some (.string ou) ∧ w.cell? ⟨g, 6, none⟩ = some (.string inn) ∧ w.cell? ⟨g, 7, none⟩ = some (.int .i64 rd) ∧ w.cell? ⟨g, 8, none⟩ = some (.int .i64 stt) ∧ w.cell? ⟨g, 9, none⟩ = some (.int .i64 cd) :=
  ⟨whole_cell h rfl, whole_cell h rfl, whole_cell h rfl, whole_cell h rfl, whole_cell h rfl, whole_cell h rfl, whole_cell h rfl, whole_cell h rfl, whole_cell h rfl, whole_cell h rfl⟩
section
variable {ops : Array Oper} {o : Oper} {a : Act} {w : World} {K : Act → World → Prop} {Q : Exit → Act → World → Prop} {F : Prop}
theorem step_alloc_seen (d : Tmp) (hw : Region.wanted o (yielded ops a.tmps) = true) (ho : o.op = .alloc 55) (hd : o.dst = some d)
    (h : ∀ g w', w.heap.size = g → w'.heap[g]? = some (.cells (seenA (0, 0, 0, 0)) 55 (0, 0)) → Below w.heap.size w w' → K (a.put (some d) (.pointer (some ⟨g, 0, none⟩))) w') : if Region.wanted o (yielded ops a.tmps) = true then o.wp Tryz.prog a w K Q else F := by
  rw [if_pos hw]
  have hk := h w.heap.size (w.alloc (.cells (seenA (0, 0, 0, 0)) 55)) rfl (heap_alloc_new w _) ((Below.refl w.heap.size w).alloc (Nat.le_refl _) _)
  rw [← hd] at hk
  obtain ⟨dst, op, ty, pos, after, guard⟩ := o
  simp only at ho hk ⊢
  subst ho
  clear h hw
  generalize hw' : w.alloc (.cells (seenA (0, 0, 0, 0)) 55) = w' at hk
  go_simp
  exact hk
theorem step_st_seen (hw : Region.wanted o (yielded ops a.tmps) = true) (hd : o.dst = none) (x y : Operand) (ho : o.op = .store 55 x y) (g : Nat) (s : S) (hx : a.eval x = .pointer (some ⟨g, 0, none⟩)) (hy : a.eval y = seenV s) (old : Array Value) (hg : w.heap[g]? = some (.cells old 55 (0, 0))) (hold : old.size = 4)
    (h : ∀ w', w'.heap[g]? = some (.cells (seenA s) 55 (0, 0)) → Stirred w w' [g] → K a w') : if Region.wanted o (yielded ops a.tmps) = true then o.wp Tryz.prog a w K Q else F := by
  rw [if_pos hw]
  have hk := h _ (setRow_heap w g old (seenA s) 55 (0, 0) hg) (Stirred.setRow w g (seenA s))
  have hk : K (a.put o.dst undef) (w.setRow g (seenA s)) := by rw [hd]; exact hk
  exact wp_store_row 55 x y ho g (seenA s) hx hy 55 old hg seen_size (by rw [hold]; rfl) (by simp [seenA, Value.oneCell']) hk
end
section
variable {ops : Array Oper} {rest : List Oper} {o : Oper} {a : Act} {w : World} {Q : Exit → Act → World → Prop}
theorem ld_seen (hw : Region.wanted o (yielded ops a.tmps) = true) (x : Operand) (ho : o.op = .load 55 x) (g : Nat) (hx : a.eval x = .pointer (some ⟨g, 0, none⟩)) (s : S) (hg : w.heap[g]? = some (.cells (seenA s) 55 (0, 0)))
    (h : wpList Tryz.prog ops Q rest (a.put o.dst (seenV s)) w) : wpList Tryz.prog ops Q (o :: rest) a w :=
  wpList_getbox hw _ x ho _ Tryz.underlying55 rfl g hx (seenA s) _ hg seen_size h
theorem st_seen (hw : Region.wanted o (yielded ops a.tmps) = true) (x y : Operand) (ho : o.op = .store 55 x y) (g : Nat) (s : S) (hx : a.eval x = .pointer (some ⟨g, 0, none⟩)) (hy : a.eval y = seenV s) (old : Array Value) (hg : w.heap[g]? = some (.cells old 55 (0, 0))) (hold : old.size = 4)
    (h : ∀ w', w'.heap[g]? = some (.cells (seenA s) 55 (0, 0)) → Stirred w w' [g] → wpList Tryz.prog ops Q rest (a.put o.dst undef) w') : wpList Tryz.prog ops Q (o :: rest) a w :=
  wpList_setbox hw _ x y ho g (seenA s) hx hy old _ hg seen_size (by rw [hold]; rfl) (by simp [seenA, Value.oneCell']) h
/-- one number of a step's box is written -/
theorem st_seen_f (hw : Region.wanted o (yielded ops a.tmps) = true) (x y : Operand) (ho : o.op = .store 3 x y) (g j : Nat) (hx : a.eval x = .pointer (some ⟨g, j, none⟩)) (v : Int) (hy : a.eval y = .int .i64 v) (s s' : S) (hg : w.heap[g]? = some (.cells (seenA s) 55 (0, 0))) (hj : j < 4) (hs : (seenA s).setIfInBounds j (.int .i64 v) = seenA s')
    (h : ∀ w', w'.heap[g]? = some (.cells (seenA s') 55 (0, 0)) → Stirred w w' [g] → wpList Tryz.prog ops Q rest (a.put o.dst undef) w') : wpList Tryz.prog ops Q (o :: rest) a w :=
  wpList_setf hw _ x y ho int_size g j hx (.int .i64 v) hy rfl (seenA s) _ hg hj (by rw [hs]; exact h)
end
end Go.Proofs.YtcffbeihgchpgaaGreatDoor.Rec
/- Package record: a step as it is seen. -/
namespace Go.Proofs.YtcffbeihgchpgaaGreatDoor.Rec
open Go.RowKit Book Book.Wide Mem Mach Inn
set_option linter.unusedSimpArgs false
set_option linter.unusedVariables false
/-- behind the region: the new step's box -/
structure SeeP (w2 wx : World) (g r : Nat) (cs : Array Value) (s : S) : Prop where
  hb : Below w2.heap.size w2 wx
  hg : wx.heap[g]? = some (.cells cs 24 (0, 0))
  hr : wx.heap[r]? = some (.cells (seenA s) 55 (0, 0))
  low : w2.heap.size ≤ r
set_option maxHeartbeats 8000000 in
set_option maxRecDepth 100000 in
theorem see_any {w : World} {v : Value} {m : M} (h : ReadsM w v m) (nx : Int) : Calls Tryz.prog 38 #[v, .int .i64 nx] w (Says (seenV (see m nx)) w) := by
  have HV := Lib.hid h
  obtain ⟨vs, vb, vm, rfl, hs, hb, hm⟩ := h
  obtain ⟨s1, n1, d1, rfl⟩ := reads_known hs
  obtain ⟨s2, n2, d2, rfl⟩ := reads_known hb
  obtain ⟨s3, n3, d3, rfl⟩ := reads_known hm
  obtain ⟨ip, hh, st, bk, me, ou, inn, rd, stt, cd⟩ := m
  simp only at hs hb hm ⊢
  obtain ⟨w1, g, hw1, hg, HG, HB, HZ⟩ := newBox w (cells10 ip hh (.slice s1 n1 d1) (.slice s2 n2 d2) (.slice s3 n3 d3) ou inn rd stt cd) 24
  obtain ⟨w2, r, hw2, hr, HR, HB1, HZ2⟩ := newBox w1 (seenA (0, 0, 0, 0)) 55
  have HG2 := Lib.hid (boxOn HG.out HB1.out)
  have HB2 := Lib.hid (HB.out.trans (HB1.out.mono HB.out.size))
  have HGR := Lib.hid (show g < r ∧ w.heap.size ≤ g ∧ r < w2.heap.size by have h1 := HZ.out; have h2 := HZ2.out; have h3 := whole_lt HG.out; have h4 := whole_lt HR.out; omega)
  obtain ⟨M0, hM0⟩ : ∃ M0 : M, (⟨ip, hh, st, bk, me, ou, inn, rd, stt, cd⟩ : M) = M0 := ⟨_, rfl⟩
  have HM0 := Lib.hid hM0
  have HV2 := Lib.hid (show ReadsM w2 _ M0 from by have := HV.out.below HB2.out; rw [← hM0]; exact this)
  obtain ⟨c, hc⟩ : ∃ c, ld M0 ip = c := ⟨_, rfl⟩
  have HC := Lib.hid hc
  have HIP := Lib.hid (show M0.ip = ip by rw [← hM0])
  have HCa := Lib.hid (fun wc (hb : Below w2.heap.size w2 wc) (a : Int) => load_any (HV2.out.below hb) a)
  have HX := Lib.hid (show Below w2.heap.size w2 w2.drew from (Below.refl _ _).drew)
  have H14 := Lib.hid (show w2.drew.heap[g]? = _ from HG2.out)
  clear hs hb hm hM0 hc
  go_enter Tryz.func38, Tryz.ntmps38
  go_upto_region 1 with fail
  clear hw1 hw2 hg hr
  go_cut [5] (fun x wx => ∃ r5, x = .pointer (some ⟨r5, 0, none⟩) ∧ Hid (SeeP w2 wx g r5 (cells10 ip hh (.slice s1 n1 d1) (.slice s2 n2 d2) (.slice s3 n3 d3) ou inn rd stt cd) (ip, c, 0, nx)))
  case first =>
    refine wp_region_held (S := fun w' => w'.cell? ⟨g, 0, none⟩ = some (.int .i64 ip) ∧ w'.cell? ⟨g, 1, none⟩ = some (.int .i64 hh) ∧ w'.cell? ⟨g, 2, none⟩ = some (.slice s1 n1 d1) ∧ w'.cell? ⟨g, 3, none⟩ = some (.slice s2 n2 d2) ∧ w'.cell? ⟨g, 4, none⟩ = some (.slice s3 n3 d3) ∧ w'.cell? ⟨g, 5, none⟩ = some (.string ou) ∧ w'.cell? ⟨g, 6, none⟩ = some (.string inn) ∧ w'.cell? ⟨g, 7, none⟩ = some (.int .i64 rd) ∧ w'.cell? ⟨g, 8, none⟩ = some (.int .i64 stt) ∧ w'.cell? ⟨g, 9, none⟩ = some (.int .i64 cd)) (by kernel_rfl) ?_
    change wpAnyH _ _ _ _ _ _ _ _ (World.drew w2)
    refine wpAnyH_take (i := 0) (oi := ⟨some 6, _, _, _, _, _⟩) (v := ?_) rfl (by kernel_rfl) (by kernel_rfl) (by kernel_rfl) (fun _ _ _ h => h) (Or.inl ⟨by rfl, ?_⟩) (cells_ten H14.out) ?_
    rotate_left
    · intro w hSw
      (try dsimp only at hSw)
      go_simp
      try with_reducible rfl
    try simp only [Act.put, List.setIfInBounds_toArray, List.set_cons_zero, List.set_cons_succ]
    refine wpAnyH_take (i := 1) (oi := ⟨some 7, _, _, _, _, _⟩) (v := ?_) rfl (by kernel_rfl) (by kernel_rfl) (by kernel_rfl) (fun _ _ _ h => h) (Or.inl ⟨by rfl, ?_⟩) (cells_ten H14.out) ?_
    rotate_left
    · intro w hSw
      (try dsimp only at hSw)
      go_simp
      try with_reducible rfl
    try simp only [Act.put, List.setIfInBounds_toArray, List.set_cons_zero, List.set_cons_succ]
    refine wpAnyH_take (i := 2) (oi := ⟨some 8, _, _, _, _, _⟩) (v := ?_) rfl (by kernel_rfl) (by kernel_rfl) (by kernel_rfl) (fun _ _ _ h => h) (Or.inl ⟨by rfl, ?_⟩) (cells_ten H14.out) ?_
    rotate_left
    · intro w hSw
      (try dsimp only at hSw)
      go_simp
      try with_reducible rfl
    try simp only [Act.put, List.setIfInBounds_toArray, List.set_cons_zero, List.set_cons_succ]
    refine wpAnyH_take (i := 3) (oi := ⟨some 9, _, _, _, _, _⟩) (v := ?_) rfl (by kernel_rfl) (by kernel_rfl) (by kernel_rfl) (fun _ _ _ h => h) (Or.inl ⟨by rfl, ?_⟩) (cells_ten H14.out) ?_
    rotate_left
    · intro w hSw
      (try dsimp only at hSw)
      go_simp
      try with_reducible rfl
    try simp only [Act.put, List.setIfInBounds_toArray, List.set_cons_zero, List.set_cons_succ]
    refine wpAnyH_take (i := 4) (oi := ⟨some 10, _, _, _, _, _⟩) (v := ?_) rfl (by kernel_rfl) (by kernel_rfl) (by kernel_rfl) (fun _ _ _ h => h) (Or.inl ⟨by rfl, ?_⟩) (cells_ten H14.out) ?_
    rotate_left
    · intro w hSw
      (try dsimp only at hSw)
      go_simp
      try with_reducible rfl
    try simp only [Act.put, List.setIfInBounds_toArray, List.set_cons_zero, List.set_cons_succ]
    refine wpAnyH_take (i := 6) (oi := ⟨some 12, _, _, _, _, _⟩) (v := ?_) rfl (by kernel_rfl) (by kernel_rfl) (by kernel_rfl) (fun _ _ _ h => h) (Or.inl ⟨by rfl, ?_⟩) (cells_ten H14.out) ?_
    rotate_left
    · intro w hSw
      (try dsimp only at hSw)
      go_simp
      try with_reducible rfl
    try simp only [Act.put, List.setIfInBounds_toArray, List.set_cons_zero, List.set_cons_succ]
    refine wpAnyH_ready (rs := [5, 8]) (by kernel_rfl) (by simp) ?_
    refine AllReadyH.cons rfl (fun K hK => ?_) ?_
    · go_simp
      go_at_call 85
      refine (HCa.out _ HX.out ip).mono ?_
      rintro e wn ⟨rfl, hb⟩
      have H14 := Lib.hid (boxOn H14.out hb)
      have HX := Lib.hid (HX.out.trans (hb.mono HX.out.size))
      clear hb
      rw [HC.out]
      go_wp2_with fail
      refine hK.out _ _ (cells_ten H14.out) (fun hHeld => ?_)
      clear hK K hHeld
      try simp only [Act.put, List.setIfInBounds_toArray, List.set_cons_zero, List.set_cons_succ]
      refine wpAnyH_take (i := 7) (oi := ⟨some 13, _, _, _, _, _⟩) (v := ?_) rfl (by kernel_rfl) (by kernel_rfl) (by kernel_rfl) (fun _ _ _ h => h) (Or.inl ⟨by rfl, ?_⟩) (cells_ten H14.out) ?_
      rotate_left
      · intro w hSw
        (try dsimp only at hSw)
        go_simp
        try with_reducible rfl
      try simp only [Act.put, List.setIfInBounds_toArray, List.set_cons_zero, List.set_cons_succ]
      refine wpAnyH_ready (rs := [8]) (by kernel_rfl) (by simp) ?_
      refine AllReadyH.cons rfl (fun K hK => ?_) ?_
      · refine step_alloc_seen 5 (by rfl) rfl rfl ?_
        intro r5 wn hg hnew hb
        have N5 := Lib.hid (show w2.heap.size ≤ r5 by rw [← hg]; exact HX.out.size)
        have H14 := Lib.hid (boxOn H14.out hb)
        have HX := Lib.hid (HX.out.trans (hb.mono HX.out.size))
        have A5 := Lib.hid hnew
        clear hg hnew hb
        refine hK.out _ _ (cells_ten H14.out) (fun hHeld => ?_)
        clear hK K hHeld
        try simp only [Act.put, List.setIfInBounds_toArray, List.set_cons_zero, List.set_cons_succ]
        refine wpAnyH_ready (rs := [9]) (by kernel_rfl) (by simp) ?_
        refine AllReadyH.cons rfl (fun K hK => ?_) ?_
        · refine step_st_seen (by rfl) rfl _ _ rfl r5 (ip, c, 0, nx) rfl rfl _ A5.out rfl ?_
          intro wp h5 ht
          have hlow : ∀ k ∈ [r5], w2.heap.size ≤ k := fun k hk => by rw [List.mem_singleton.1 hk]; exact N5.out
          have H14 := Lib.hid (ht.whole H14.out (fun hm => by have h1 := N5.out; have h2 := HGR.out; rw [List.mem_singleton] at hm; omega))
          have HF := Lib.hid (show SeeP w2 wp g r5 _ (ip, c, 0, nx) from ⟨HX.out.trans (ht.below hlow HX.out.size), H14.out, h5, N5.out⟩)
          clear ht h5 hlow
          refine hK.out _ _ (cells_ten H14.out) (fun hHeld => ?_)
          clear hK K hHeld
          try simp only [Act.put, List.setIfInBounds_toArray, List.set_cons_zero, List.set_cons_succ]
          refine wpAnyH_done (by kernel_rfl) ?_ _
          first | go_meet | (go_wp2_with fail; go_meet)
          exact ⟨_, rfl, HF⟩
        · exact AllReadyH.nil
      exact AllReadyH.nil
    refine AllReadyH.cons rfl (fun K hK => ?_) ?_
    · refine step_alloc_seen 5 (by rfl) rfl rfl ?_
      intro r5 wn hg hnew hb
      have N5 := Lib.hid (show w2.heap.size ≤ r5 by rw [← hg]; exact HX.out.size)
      have H14 := Lib.hid (boxOn H14.out hb)
      have HX := Lib.hid (HX.out.trans (hb.mono HX.out.size))
      have A5 := Lib.hid hnew
      clear hg hnew hb
      refine hK.out _ _ (cells_ten H14.out) (fun hHeld => ?_)
      clear hK K hHeld
      try simp only [Act.put, List.setIfInBounds_toArray, List.set_cons_zero, List.set_cons_succ]
      refine wpAnyH_ready (rs := [5]) (by kernel_rfl) (by simp) ?_
      refine AllReadyH.cons rfl (fun K hK => ?_) ?_
      · go_simp
        go_at_call 85
        refine (HCa.out _ HX.out ip).mono ?_
        rintro e wn ⟨rfl, hb⟩
        have A5 := Lib.hid (boxOn A5.out hb)
        have H14 := Lib.hid (boxOn H14.out hb)
        have HX := Lib.hid (HX.out.trans (hb.mono HX.out.size))
        clear hb
        rw [HC.out]
        go_wp2_with fail
        refine hK.out _ _ (cells_ten H14.out) (fun hHeld => ?_)
        clear hK K hHeld
        try simp only [Act.put, List.setIfInBounds_toArray, List.set_cons_zero, List.set_cons_succ]
        refine wpAnyH_take (i := 7) (oi := ⟨some 13, _, _, _, _, _⟩) (v := ?_) rfl (by kernel_rfl) (by kernel_rfl) (by kernel_rfl) (fun _ _ _ h => h) (Or.inl ⟨by rfl, ?_⟩) (cells_ten H14.out) ?_
        rotate_left
        · intro w hSw
          (try dsimp only at hSw)
          go_simp
          try with_reducible rfl
        try simp only [Act.put, List.setIfInBounds_toArray, List.set_cons_zero, List.set_cons_succ]
        refine wpAnyH_ready (rs := [9]) (by kernel_rfl) (by simp) ?_
        refine AllReadyH.cons rfl (fun K hK => ?_) ?_
        · refine step_st_seen (by rfl) rfl _ _ rfl r5 (ip, c, 0, nx) rfl rfl _ A5.out rfl ?_
          intro wp h5 ht
          have hlow : ∀ k ∈ [r5], w2.heap.size ≤ k := fun k hk => by rw [List.mem_singleton.1 hk]; exact N5.out
          have H14 := Lib.hid (ht.whole H14.out (fun hm => by have h1 := N5.out; have h2 := HGR.out; rw [List.mem_singleton] at hm; omega))
          have HF := Lib.hid (show SeeP w2 wp g r5 _ (ip, c, 0, nx) from ⟨HX.out.trans (ht.below hlow HX.out.size), H14.out, h5, N5.out⟩)
          clear ht h5 hlow
          refine hK.out _ _ (cells_ten H14.out) (fun hHeld => ?_)
          clear hK K hHeld
          try simp only [Act.put, List.setIfInBounds_toArray, List.set_cons_zero, List.set_cons_succ]
          refine wpAnyH_done (by kernel_rfl) ?_ _
          first | go_meet | (go_wp2_with fail; go_meet)
          exact ⟨_, rfl, HF⟩
        · exact AllReadyH.nil
      exact AllReadyH.nil
    exact AllReadyH.nil
  case rest =>
    obtain ⟨r5, rfl, HP⟩ := hcut
    have HB3 := Lib.hid (HB2.out.trans (HP.out.hb.mono HB2.out.size))
    have e0 : wc.cell? ⟨r5, 0, none⟩ = some (.int .i64 ip) := whole_cell HP.out.hr rfl
    have f0 : wc.cell? ⟨g, 0, none⟩ = some (.int .i64 ip) := whole_cell HP.out.hg rfl
    have e1 : wc.cell? ⟨r5, 1, none⟩ = some (.int .i64 c) := whole_cell HP.out.hr rfl
    have A := Lib.hid (opArg_same c wc)
    have HR3 := Lib.hid (boxOn HR.out HP.out.hb)
    clear HCa HX H14
    by_cases ha : argI c = true
    · rw [ha] at A
      obtain ⟨ar, har⟩ : ∃ ar, ld M0 (wrap64 (ip + 1)) = ar := ⟨_, rfl⟩
      have D := Lib.hid (load_any (HV2.out.below HP.out.hb) (wrap64 (ip + 1)))
      rw [har] at D
      have HS := Lib.hid (show see M0 nx = (ip, c, ar, nx) by unfold see; rw [HIP.out, HC.out, if_pos ha, har])
      clear ha har
      go_wp2_with fail
      refine A.out.mono ?_
      rintro e wz ⟨rfl, hwz⟩
      subst wz
      clear A
      go_wp2_with (refine ld_state (by rfl) _ rfl _ rfl _ _ HP.out.hg rfl ?_)
      refine D.out.mono ?_
      rintro e w4 ⟨rfl, hb⟩
      have HX5 := Lib.hid (boxOn HP.out.hr hb)
      have HR4 := Lib.hid (boxOn HR3.out hb)
      have HB4 := Lib.hid (HB3.out.trans (hb.mono HB3.out.size))
      have N5 := Lib.hid (show r ≠ r5 ∧ w.heap.size ≤ r5 ∧ w.heap.size ≤ r by have h1 := HP.out.low; have h2 := HGR.out; have h3 := HB2.out.size; omega)
      clear hb D e0 e1 f0
      go_wp2_with (first
        | (refine st_seen_f (by rfl) _ _ rfl r5 2 rfl ar rfl (ip, c, 0, nx) (ip, c, ar, nx) HX5.out (by decide) rfl ?_; intro w5 h5 ht5; have HX6 := Lib.hid h5; have HR6 := Lib.hid (ht5.whole HR4.out (fun hm => N5.out.1 (by simpa using hm))); have HB6 := Lib.hid (HB4.out.trans (ht5.below (fun k hk => by rw [List.mem_singleton.1 hk]; exact N5.out.2.1) HB4.out.size)); clear h5 ht5)
        | (refine ld_seen (by rfl) _ rfl r5 rfl (ip, c, ar, nx) HX6.out ?_)
        | (refine st_seen (by rfl) _ _ rfl r (ip, c, ar, nx) rfl rfl _ HR6.out rfl ?_; intro wf hrf htf; have HRF := Lib.hid hrf; have HBF := Lib.hid (HB6.out.trans (htf.below (fun k hk => by rw [List.mem_singleton.1 hk]; exact N5.out.2.2) HB6.out.size)); clear hrf htf))
      refine bodyPost_ret (results_cell_row rfl _ _ r _ _ _ _ rfl HRF.out Tryz.underlying55 rfl seen_size) rfl ?_
      exact ⟨by rw [HM0.out, HS.out], HBF.out⟩
    · have ha' : argI c = false := by simpa using ha
      rw [ha'] at A
      have HS := Lib.hid (show see M0 nx = (ip, c, 0, nx) by unfold see; rw [HIP.out, HC.out, if_neg ha])
      have N5 := Lib.hid (show w.heap.size ≤ r by have h2 := HGR.out; omega)
      clear ha ha'
      go_wp2_with fail
      refine A.out.mono ?_
      rintro e wz ⟨rfl, hwz⟩
      subst wz
      clear A
      have HXP := Lib.hid HP.out.hr
      go_wp2_with (first
        | (refine ld_seen (by rfl) _ rfl r5 rfl (ip, c, 0, nx) HXP.out ?_)
        | (refine st_seen (by rfl) _ _ rfl r (ip, c, 0, nx) rfl rfl _ HR3.out rfl ?_; intro wf hrf htf; have HRF := Lib.hid hrf; have HBF := Lib.hid (HB3.out.trans (htf.below (fun k hk => by rw [List.mem_singleton.1 hk]; exact N5.out) HB3.out.size)); clear hrf htf))
      refine bodyPost_ret (results_cell_row rfl _ _ r _ _ _ _ rfl HRF.out Tryz.underlying55 rfl seen_size) rfl ?_
      exact ⟨by rw [HM0.out, HS.out], HBF.out⟩
end Go.Proofs.YtcffbeihgchpgaaGreatDoor.Rec
/- Lists of structs: 'append' of what is read, wherever it lies; shorter lists; no program in sight. -/
namespace Go.Proofs.YtcffbeihgchpgaaGreatDoor.Book.Wide
open Go.RowKit
set_option linter.unusedVariables false
/-- what a slice reads as, cell for cell, wherever it lies -/
def ReadsK (w : World) (sz : Nat) (v : Value) (ys : List Value) : Prop := ∃ ao n cap, v = .slice ao n cap ∧ ys.length = n * sz ∧ ∀ j x, ys[j]? = some x → ∃ a, ao = some a ∧ w.cell? (a.add j) = some x
theorem ReadsK.below {w w' : World} {sz : Nat} {v : Value} {ys : List Value} (h : ReadsK w sz v ys) (hb : Below w.heap.size w w') : ReadsK w' sz v ys := by
  obtain ⟨ao, n, cap, e, hl, hc⟩ := h
  refine ⟨ao, n, cap, e, hl, fun j x hj => ?_⟩
  obtain ⟨a, ha, hx⟩ := hc j x hj
  exact ⟨a, ha, by rw [hb.cell (p := a.add j) (World.block_lt_of_cell? w _ hx)]; exact hx⟩
theorem ReadsK.of_owns {w : World} {B E sz : Nat} {v : Value} {xs : List Value} (h : OwnsK w B E sz v xs) (hsz : 0 < sz) : ReadsK w sz v xs := by
  rcases h.form with ⟨ao, e, hx⟩ | ⟨g, n, cap, e, hc, hl⟩
  · subst hx
    exact ⟨ao, 0, 0, e, by simp, fun j x hj => by cases hj⟩
  · rcases Nat.eq_zero_or_pos n with h0 | h0
    · subst h0
      refine ⟨_, 0, cap, e, hl, fun j x hj => ?_⟩
      have := (List.getElem?_eq_some_iff.1 hj).1
      omega
    · obtain ⟨g', c', e', hcell, _, _⟩ := h.row hl hsz h0
      rw [e] at e'
      simp only [Value.slice.injEq, Option.some.injEq, Addr.mk.injEq, and_true, true_and] at e'
      obtain ⟨rfl, rfl⟩ := e'
      exact ⟨_, n, cap, e, hl, fun j x hj => ⟨_, rfl, by rw [add_row]; exact hcell j x hj⟩⟩
/-- one element that a block is -/
theorem ReadsK.of_whole {w : World} {g sz T : Nat} {cs : List Value} {cap : Nat} (h : w.heap[g]? = some (.cells cs.toArray T (0, 0))) (hl : cs.length = sz) : ReadsK w sz (.slice (some ⟨g, 0, none⟩) 1 cap) cs :=
  ⟨_, 1, cap, rfl, by omega, fun j x hj => ⟨_, rfl, by rw [add_row]; exact whole_cell h (by simpa using hj)⟩⟩
/-- 'append(v, u...)' onto a list of one's own -/
theorem wp_append_reads {P : Program} (w : World) {o : Oper} {a : Act} {K : Act → World → Prop} {Q : Exit → Act → World → Prop} (s x : Operand) (t : TypeId)
    (ho : o.op = .call { callee := .builtin .append, args := #[s, x], argTypes := #[t, t] })
    (B E sz : Nat) (i : TypeInfo) (z : Value) (bytes : Nat) (ht : P.underlying t = some (.slice E)) (hi : P.info? E = some i) (hz : i.zero = some z) (hsize : i.size = sz) (hby : i.bytes = bytes) (hzs : z.cells.size = sz) (hsz : 0 < sz)
    (v : Value) (n : Nat) (xs : List Value) (hs : a.eval s = v) (hown : OwnsK w B E sz v xs) (hn : xs.length = n * sz)
    (u : Value) (m : Nat) (ys : List Value) (hx : a.eval x = u) (hu : ReadsK w sz u ys) (hm : ys.length = m * sz) (h1 : ∀ y ∈ ys, y.oneCell' = true)
    (h63 : n + m ≤ maxLen) (hbytes : (n + m) * bytes ≤ 140737488355328) (hbase : B ≤ w.heap.size)
    (h : ∀ v' w', OwnsK w' B E sz v' (xs ++ ys) → OwnsK w' B E sz v xs → Stirred w w' (blk v).toList → ((blk v') = (blk v) ∨ ∃ k, (blk v') = some k ∧ w.heap.size ≤ k) → K (a.put o.dst v') w') : o.wp P a w K Q := by
  obtain ⟨uo, m', uc, rfl, hl, hc⟩ := hu
  obtain rfl : m' = m := Nat.eq_of_mul_eq_mul_right hsz (by omega)
  by_cases h0 : m' = 0
  · subst h0
    have hy : ys = [] := List.eq_nil_of_length_eq_zero (by omega)
    subst hy
    obtain ⟨vo, vc, hle, rfl⟩ : ∃ vo vc, n ≤ vc ∧ v = .slice vo n vc := by
      rcases hown with ⟨ao, h2, h3⟩ | ⟨g, n', cap, cur, h2, h0, _, _, hl', h3, _⟩
      · subst h3
        have : n = 0 := by
          rcases Nat.eq_zero_or_pos n with h | h
          · exact h
          · have := Nat.mul_pos h hsz; simp at hn; omega
        exact ⟨ao, 0, by omega, by rw [h2, this]⟩
      · have : n' = n := Nat.eq_of_mul_eq_mul_right hsz (by omega)
        exact ⟨some ⟨g, 0, none⟩, cap, by omega, by rw [h2, this]⟩
    have hr := run_append_empty (P := P) w t o.type E i ht hi vo uo n vc uc hle
    unfold Oper.wp execOp
    simp only [ho, resolve, invoke, builtin, Sem.run_bind, Sem.run_pure, Result.andThen_ok, List.map_toArray, List.map_cons, List.map_nil, hs, hx, hr]
    exact h _ w (by rw [List.append_nil]; exact hown) hown (Stirred.refl _ _) (.inl rfl)
  · have hpos : 0 < ys.length := by rw [hm]; exact Nat.mul_pos (by omega) hsz
    obtain ⟨a0, rfl, _⟩ := hc 0 ys[0] (List.getElem?_eq_getElem hpos)
    obtain ⟨v', w', hr, h2, h3, h4, h5⟩ := run_append_two (P := P) w B t o.type E sz i z bytes ht hi hz hsize hby hzs hsz v n xs hown hn a0 m' uc ys hm (fun j y hj => by
      obtain ⟨a', e', hc'⟩ := hc j y hj
      simp only [Option.some.injEq] at e'
      subst e'
      exact hc') h1 (by omega) h63 hbytes hbase
    unfold Oper.wp execOp
    simp only [ho, resolve, invoke, builtin, Sem.run_bind, Sem.run_pure, Result.andThen_ok, List.map_toArray, List.map_cons, List.map_nil, hs, hx, hr]
    exact h v' w' h2 h3 h4 h5
theorem step_append_reads {P : Program} {w : World} {ops : Array Oper} {o : Oper} {a : Act} {K : Act → World → Prop} {Q : Exit → Act → World → Prop} {F : Prop} (hw : Region.wanted o (yielded ops a.tmps) = true) (s x : Operand) (t : TypeId)
    (ho : o.op = .call { callee := .builtin .append, args := #[s, x], argTypes := #[t, t] })
    (B E sz : Nat) (i : TypeInfo) (z : Value) (bytes : Nat) (ht : P.underlying t = some (.slice E)) (hi : P.info? E = some i) (hz : i.zero = some z) (hsize : i.size = sz) (hby : i.bytes = bytes) (hzs : z.cells.size = sz) (hsz : 0 < sz)
    (v : Value) (n : Nat) (xs : List Value) (hs : a.eval s = v) (hown : OwnsK w B E sz v xs) (hn : xs.length = n * sz)
    (u : Value) (m : Nat) (ys : List Value) (hx : a.eval x = u) (hu : ReadsK w sz u ys) (hm : ys.length = m * sz) (h1 : ∀ y ∈ ys, y.oneCell' = true)
    (h63 : n + m ≤ maxLen) (hbytes : (n + m) * bytes ≤ 140737488355328) (hbase : B ≤ w.heap.size)
    (h : ∀ v' w', OwnsK w' B E sz v' (xs ++ ys) → OwnsK w' B E sz v xs → Stirred w w' (blk v).toList → ((blk v') = (blk v) ∨ ∃ k, (blk v') = some k ∧ w.heap.size ≤ k) → K (a.put o.dst v') w') : if Region.wanted o (yielded ops a.tmps) = true then o.wp P a w K Q else F := by
  rw [if_pos hw]
  exact wp_append_reads w s x t ho B E sz i z bytes ht hi hz hsize hby hzs hsz v n xs hs hown hn u m ys hx hu hm h1 h63 hbytes hbase h
theorem wpList_append_reads {P : Program} {w : World} {ops : Array Oper} {rest : List Oper} {o : Oper} {a : Act} {Q : Exit → Act → World → Prop} (hgd : o.guard = none) (s x : Operand) (t : TypeId)
    (ho : o.op = .call { callee := .builtin .append, args := #[s, x], argTypes := #[t, t] })
    (B E sz : Nat) (i : TypeInfo) (z : Value) (bytes : Nat) (ht : P.underlying t = some (.slice E)) (hi : P.info? E = some i) (hz : i.zero = some z) (hsize : i.size = sz) (hby : i.bytes = bytes) (hzs : z.cells.size = sz) (hsz : 0 < sz)
    (v : Value) (n : Nat) (xs : List Value) (hs : a.eval s = v) (hown : OwnsK w B E sz v xs) (hn : xs.length = n * sz)
    (u : Value) (m : Nat) (ys : List Value) (hx : a.eval x = u) (hu : ReadsK w sz u ys) (hm : ys.length = m * sz) (h1 : ∀ y ∈ ys, y.oneCell' = true)
    (h63 : n + m ≤ maxLen) (hbytes : (n + m) * bytes ≤ 140737488355328) (hbase : B ≤ w.heap.size)
    (h : ∀ v' w', OwnsK w' B E sz v' (xs ++ ys) → OwnsK w' B E sz v xs → Stirred w w' (blk v).toList → ((blk v') = (blk v) ∨ ∃ k, (blk v') = some k ∧ w.heap.size ≤ k) → wpList P ops Q rest (a.put o.dst v') w') : wpList P ops Q (o :: rest) a w := by
  refine wpList_plain hgd fun K hK => ?_
  exact wp_append_reads w s x t ho B E sz i z bytes ht hi hz hsize hby hzs hsz v n xs hs hown hn u m ys hx hu hm h1 h63 hbytes hbase (fun v' w' h2 h3 h4 h5 => hK _ _ (h v' w' h2 h3 h4 h5))
end Go.Proofs.YtcffbeihgchpgaaGreatDoor.Book.Wide
