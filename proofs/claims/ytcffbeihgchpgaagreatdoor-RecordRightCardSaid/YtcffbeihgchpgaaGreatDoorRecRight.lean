
/- Package record: whether a step may be recorded. -/
import Derived.Test.YtcffbeihgchpgaaGreatDoorRecWalks
namespace Go.Proofs.YtcffbeihgchpgaaGreatDoor.Rec
open Go.RowKit Book Book.Wide Mem Mach Inn
set_option linter.unusedSimpArgs false
set_option linter.unusedVariables false
theorem fit_no {x : S} (h : ¬ ((plainI x.2.1 = true ∨ 64 ≤ x.2.1) ∧ (argI x.2.1 = true ∨ x.2.2.1 = 0) ∧ place x.1 = true ∧ place (lastOf x) = true ∧ place x.2.2.2 = true)) : fit x = false := by unfold fit; exact decide_eq_false h
theorem fit_yes {x : S} (h : (plainI x.2.1 = true ∨ 64 ≤ x.2.1) ∧ (argI x.2.1 = true ∨ x.2.2.1 = 0) ∧ place x.1 = true ∧ place (lastOf x) = true ∧ place x.2.2.2 = true) : fit x = true := by unfold fit; exact decide_eq_true h
set_option maxHeartbeats 8000000 in
theorem right_any (x : S) (w : World) : Calls Tryz.prog 45 #[seenV x] w (Says (.bool (fit x)) w) := by
  obtain ⟨x1, x2, x3, x4⟩ := x
  obtain ⟨w1, g, hw1, hg, HG, HB, HZ⟩ := newBox w (seenA (x1, x2, x3, x4)) 55
  have c0 : w1.cell? ⟨g, 0, none⟩ = some (.int .i64 x1) := whole_cell HG.out rfl
  have c1 : w1.cell? ⟨g, 1, none⟩ = some (.int .i64 x2) := whole_cell HG.out rfl
  have c2 : w1.cell? ⟨g, 2, none⟩ = some (.int .i64 x3) := whole_cell HG.out rfl
  have c3 : w1.cell? ⟨g, 3, none⟩ = some (.int .i64 x4) := whole_cell HG.out rfl
  have C1 := Lib.hid (opPlain_same x2 w1)
  have C2 := Lib.hid (opArg_same x2 w1)
  have C3 := Lib.hid (place_any x1 w1)
  have C4 := Lib.hid (last_any (x1, x2, x3, x4) w1)
  obtain ⟨L, hL⟩ : ∃ L, lastOf (x1, x2, x3, x4) = L := ⟨_, rfl⟩
  have HL := Lib.hid hL
  rw [hL] at C4
  clear hL
  by_cases hp : plainI x2 = true
  · rw [hp] at C1
    by_cases ha : argI x2 = true
    · rw [ha] at C2
      by_cases hq : place x1 = true
      · rw [hq] at C3
        by_cases hl : place L = true
        · by_cases hn : place x4 = true
          · have HP5 := Lib.hid hl
            have HP6 := Lib.hid hn
            have HF := Lib.hid (show fit (x1, x2, x3, x4) = true from fit_yes ⟨(.inl hp), (.inl ha), hq, by rw [HL.out]; exact hl, hn⟩)
            clear hl hn hq
            go_enter Tryz.func45, Tryz.ntmps45
            go_wp2_with fail
            refine C1.out.mono ?_
            rintro e wz ⟨rfl, hwz⟩
            subst wz
            go_wp2_with fail
            refine C2.out.mono ?_
            rintro e wz ⟨rfl, hwz⟩
            subst wz
            go_wp2_with fail
            refine C3.out.mono ?_
            rintro e wz ⟨rfl, hwz⟩
            subst wz
            go_wp2_with fail
            refine C4.out.mono ?_
            rintro e w2 ⟨rfl, hb⟩
            have HB2 := Lib.hid (HB.out.trans (hb.mono HB.out.size))
            have d3 : w2.cell? ⟨g, 3, none⟩ = some (.int .i64 x4) := whole_cell (boxOn HG.out hb) rfl
            have C5 := Lib.hid (place_any L w2)
            have C6 := Lib.hid (place_any x4 w2)
            rw [HP5.out] at C5
            rw [HP6.out] at C6
            clear hb C4
            go_wp2_with fail
            refine C5.out.mono ?_
            rintro e wz ⟨rfl, hwz⟩
            subst wz
            go_wp2_with fail
            refine C6.out.mono ?_
            rintro e wz ⟨rfl, hwz⟩
            subst wz
            go_wp2
            go_ret
            exact ⟨by rw [HF.out]; rfl, HB2.out⟩
          · have HP5 := Lib.hid hl
            have HP6 := Lib.hid (show place x4 = false by simpa using hn)
            have HF := Lib.hid (show fit (x1, x2, x3, x4) = false from fit_no (fun h => hn h.2.2.2.2))
            clear hl hn hq
            go_enter Tryz.func45, Tryz.ntmps45
            go_wp2_with fail
            refine C1.out.mono ?_
            rintro e wz ⟨rfl, hwz⟩
            subst wz
            go_wp2_with fail
            refine C2.out.mono ?_
            rintro e wz ⟨rfl, hwz⟩
            subst wz
            go_wp2_with fail
            refine C3.out.mono ?_
            rintro e wz ⟨rfl, hwz⟩
            subst wz
            go_wp2_with fail
            refine C4.out.mono ?_
            rintro e w2 ⟨rfl, hb⟩
            have HB2 := Lib.hid (HB.out.trans (hb.mono HB.out.size))
            have d3 : w2.cell? ⟨g, 3, none⟩ = some (.int .i64 x4) := whole_cell (boxOn HG.out hb) rfl
            have C5 := Lib.hid (place_any L w2)
            have C6 := Lib.hid (place_any x4 w2)
            rw [HP5.out] at C5
            rw [HP6.out] at C6
            clear hb C4
            go_wp2_with fail
            refine C5.out.mono ?_
            rintro e wz ⟨rfl, hwz⟩
            subst wz
            go_wp2_with fail
            refine C6.out.mono ?_
            rintro e wz ⟨rfl, hwz⟩
            subst wz
            go_wp2
            go_ret
            exact ⟨by rw [HF.out]; rfl, HB2.out⟩
        · have HP5 := Lib.hid (show place L = false by simpa using hl)
          have HF := Lib.hid (show fit (x1, x2, x3, x4) = false from fit_no (fun h => hl (by rw [← HL.out]; exact h.2.2.2.1)))
          clear hl hq
          go_enter Tryz.func45, Tryz.ntmps45
          go_wp2_with fail
          refine C1.out.mono ?_
          rintro e wz ⟨rfl, hwz⟩
          subst wz
          go_wp2_with fail
          refine C2.out.mono ?_
          rintro e wz ⟨rfl, hwz⟩
          subst wz
          go_wp2_with fail
          refine C3.out.mono ?_
          rintro e wz ⟨rfl, hwz⟩
          subst wz
          go_wp2_with fail
          refine C4.out.mono ?_
          rintro e w2 ⟨rfl, hb⟩
          have HB2 := Lib.hid (HB.out.trans (hb.mono HB.out.size))
          have d3 : w2.cell? ⟨g, 3, none⟩ = some (.int .i64 x4) := whole_cell (boxOn HG.out hb) rfl
          have C5 := Lib.hid (place_any L w2)
          have C6 := Lib.hid (place_any x4 w2)
          rw [HP5.out] at C5
          clear hb C4
          go_wp2_with fail
          refine C5.out.mono ?_
          rintro e wz ⟨rfl, hwz⟩
          subst wz
          go_wp2
          go_ret
          exact ⟨by rw [HF.out]; rfl, HB2.out⟩
      · have hq' : place x1 = false := by simpa using hq
        rw [hq'] at C3
        have HF := Lib.hid (show fit (x1, x2, x3, x4) = false from fit_no (fun h => hq h.2.2.1))
        clear hq hq'
        go_enter Tryz.func45, Tryz.ntmps45
        go_wp2_with fail
        refine C1.out.mono ?_
        rintro e wz ⟨rfl, hwz⟩
        subst wz
        go_wp2_with fail
        refine C2.out.mono ?_
        rintro e wz ⟨rfl, hwz⟩
        subst wz
        go_wp2_with fail
        refine C3.out.mono ?_
        rintro e wz ⟨rfl, hwz⟩
        subst wz
        go_wp2
        go_ret
        exact ⟨by rw [HF.out]; rfl, HB.out⟩
    · have ha' : argI x2 = false := by simpa using ha
      rw [ha'] at C2
      by_cases h3 : x3 = 0
      · have h3' : (x3 == 0) = true := by simpa using h3
        have H3 := Lib.hid h3
        clear h3
        by_cases hq : place x1 = true
        · rw [hq] at C3
          by_cases hl : place L = true
          · by_cases hn : place x4 = true
            · have HP5 := Lib.hid hl
              have HP6 := Lib.hid hn
              have HF := Lib.hid (show fit (x1, x2, x3, x4) = true from fit_yes ⟨(.inl hp), (.inr H3.out), hq, by rw [HL.out]; exact hl, hn⟩)
              clear hl hn hq
              go_enter Tryz.func45, Tryz.ntmps45
              go_wp2_with fail
              refine C1.out.mono ?_
              rintro e wz ⟨rfl, hwz⟩
              subst wz
              go_wp2_with fail
              refine C2.out.mono ?_
              rintro e wz ⟨rfl, hwz⟩
              subst wz
              go_wp2_with fail
              refine C3.out.mono ?_
              rintro e wz ⟨rfl, hwz⟩
              subst wz
              go_wp2_with fail
              refine C4.out.mono ?_
              rintro e w2 ⟨rfl, hb⟩
              have HB2 := Lib.hid (HB.out.trans (hb.mono HB.out.size))
              have d3 : w2.cell? ⟨g, 3, none⟩ = some (.int .i64 x4) := whole_cell (boxOn HG.out hb) rfl
              have C5 := Lib.hid (place_any L w2)
              have C6 := Lib.hid (place_any x4 w2)
              rw [HP5.out] at C5
              rw [HP6.out] at C6
              clear hb C4
              go_wp2_with fail
              refine C5.out.mono ?_
              rintro e wz ⟨rfl, hwz⟩
              subst wz
              go_wp2_with fail
              refine C6.out.mono ?_
              rintro e wz ⟨rfl, hwz⟩
              subst wz
              go_wp2
              go_ret
              exact ⟨by rw [HF.out]; rfl, HB2.out⟩
            · have HP5 := Lib.hid hl
              have HP6 := Lib.hid (show place x4 = false by simpa using hn)
              have HF := Lib.hid (show fit (x1, x2, x3, x4) = false from fit_no (fun h => hn h.2.2.2.2))
              clear hl hn hq
              go_enter Tryz.func45, Tryz.ntmps45
              go_wp2_with fail
              refine C1.out.mono ?_
              rintro e wz ⟨rfl, hwz⟩
              subst wz
              go_wp2_with fail
              refine C2.out.mono ?_
              rintro e wz ⟨rfl, hwz⟩
              subst wz
              go_wp2_with fail
              refine C3.out.mono ?_
              rintro e wz ⟨rfl, hwz⟩
              subst wz
              go_wp2_with fail
              refine C4.out.mono ?_
              rintro e w2 ⟨rfl, hb⟩
              have HB2 := Lib.hid (HB.out.trans (hb.mono HB.out.size))
              have d3 : w2.cell? ⟨g, 3, none⟩ = some (.int .i64 x4) := whole_cell (boxOn HG.out hb) rfl
              have C5 := Lib.hid (place_any L w2)
              have C6 := Lib.hid (place_any x4 w2)
              rw [HP5.out] at C5
              rw [HP6.out] at C6
              clear hb C4
              go_wp2_with fail
              refine C5.out.mono ?_
              rintro e wz ⟨rfl, hwz⟩
              subst wz
              go_wp2_with fail
              refine C6.out.mono ?_
              rintro e wz ⟨rfl, hwz⟩
              subst wz
              go_wp2
              go_ret
              exact ⟨by rw [HF.out]; rfl, HB2.out⟩
          · have HP5 := Lib.hid (show place L = false by simpa using hl)
            have HF := Lib.hid (show fit (x1, x2, x3, x4) = false from fit_no (fun h => hl (by rw [← HL.out]; exact h.2.2.2.1)))
            clear hl hq
            go_enter Tryz.func45, Tryz.ntmps45
            go_wp2_with fail
            refine C1.out.mono ?_
            rintro e wz ⟨rfl, hwz⟩
            subst wz
            go_wp2_with fail
            refine C2.out.mono ?_
            rintro e wz ⟨rfl, hwz⟩
            subst wz
            go_wp2_with fail
            refine C3.out.mono ?_
            rintro e wz ⟨rfl, hwz⟩
            subst wz
            go_wp2_with fail
            refine C4.out.mono ?_
            rintro e w2 ⟨rfl, hb⟩
            have HB2 := Lib.hid (HB.out.trans (hb.mono HB.out.size))
            have d3 : w2.cell? ⟨g, 3, none⟩ = some (.int .i64 x4) := whole_cell (boxOn HG.out hb) rfl
            have C5 := Lib.hid (place_any L w2)
            have C6 := Lib.hid (place_any x4 w2)
            rw [HP5.out] at C5
            clear hb C4
            go_wp2_with fail
            refine C5.out.mono ?_
            rintro e wz ⟨rfl, hwz⟩
            subst wz
            go_wp2
            go_ret
            exact ⟨by rw [HF.out]; rfl, HB2.out⟩
        · have hq' : place x1 = false := by simpa using hq
          rw [hq'] at C3
          have HF := Lib.hid (show fit (x1, x2, x3, x4) = false from fit_no (fun h => hq h.2.2.1))
          clear hq hq'
          go_enter Tryz.func45, Tryz.ntmps45
          go_wp2_with fail
          refine C1.out.mono ?_
          rintro e wz ⟨rfl, hwz⟩
          subst wz
          go_wp2_with fail
          refine C2.out.mono ?_
          rintro e wz ⟨rfl, hwz⟩
          subst wz
          go_wp2_with fail
          refine C3.out.mono ?_
          rintro e wz ⟨rfl, hwz⟩
          subst wz
          go_wp2
          go_ret
          exact ⟨by rw [HF.out]; rfl, HB.out⟩
      · have h3' : (x3 == 0) = false := by simpa using h3
        have HF := Lib.hid (show fit (x1, x2, x3, x4) = false from fit_no (fun h => h.2.1.elim ha h3))
        clear h3 ha ha'
        go_enter Tryz.func45, Tryz.ntmps45
        go_wp2_with fail
        refine C1.out.mono ?_
        rintro e wz ⟨rfl, hwz⟩
        subst wz
        go_wp2_with fail
        refine C2.out.mono ?_
        rintro e wz ⟨rfl, hwz⟩
        subst wz
        go_wp2
        go_ret
        exact ⟨by rw [HF.out]; rfl, HB.out⟩
  · have hp' : plainI x2 = false := by simpa using hp
    rw [hp'] at C1
    by_cases h64 : 64 ≤ x2
    · skip
      by_cases ha : argI x2 = true
      · rw [ha] at C2
        by_cases hq : place x1 = true
        · rw [hq] at C3
          by_cases hl : place L = true
          · by_cases hn : place x4 = true
            · have HP5 := Lib.hid hl
              have HP6 := Lib.hid hn
              have HF := Lib.hid (show fit (x1, x2, x3, x4) = true from fit_yes ⟨(.inr h64), (.inl ha), hq, by rw [HL.out]; exact hl, hn⟩)
              clear hl hn hq
              go_enter Tryz.func45, Tryz.ntmps45
              go_wp2_with fail
              refine C1.out.mono ?_
              rintro e wz ⟨rfl, hwz⟩
              subst wz
              go_wp2_with fail
              refine C2.out.mono ?_
              rintro e wz ⟨rfl, hwz⟩
              subst wz
              go_wp2_with fail
              refine C3.out.mono ?_
              rintro e wz ⟨rfl, hwz⟩
              subst wz
              go_wp2_with fail
              refine C4.out.mono ?_
              rintro e w2 ⟨rfl, hb⟩
              have HB2 := Lib.hid (HB.out.trans (hb.mono HB.out.size))
              have d3 : w2.cell? ⟨g, 3, none⟩ = some (.int .i64 x4) := whole_cell (boxOn HG.out hb) rfl
              have C5 := Lib.hid (place_any L w2)
              have C6 := Lib.hid (place_any x4 w2)
              rw [HP5.out] at C5
              rw [HP6.out] at C6
              clear hb C4
              go_wp2_with fail
              refine C5.out.mono ?_
              rintro e wz ⟨rfl, hwz⟩
              subst wz
              go_wp2_with fail
              refine C6.out.mono ?_
              rintro e wz ⟨rfl, hwz⟩
              subst wz
              go_wp2
              go_ret
              exact ⟨by rw [HF.out]; rfl, HB2.out⟩
            · have HP5 := Lib.hid hl
              have HP6 := Lib.hid (show place x4 = false by simpa using hn)
              have HF := Lib.hid (show fit (x1, x2, x3, x4) = false from fit_no (fun h => hn h.2.2.2.2))
              clear hl hn hq
              go_enter Tryz.func45, Tryz.ntmps45
              go_wp2_with fail
              refine C1.out.mono ?_
              rintro e wz ⟨rfl, hwz⟩
              subst wz
              go_wp2_with fail
              refine C2.out.mono ?_
              rintro e wz ⟨rfl, hwz⟩
              subst wz
              go_wp2_with fail
              refine C3.out.mono ?_
              rintro e wz ⟨rfl, hwz⟩
              subst wz
              go_wp2_with fail
              refine C4.out.mono ?_
              rintro e w2 ⟨rfl, hb⟩
              have HB2 := Lib.hid (HB.out.trans (hb.mono HB.out.size))
              have d3 : w2.cell? ⟨g, 3, none⟩ = some (.int .i64 x4) := whole_cell (boxOn HG.out hb) rfl
              have C5 := Lib.hid (place_any L w2)
              have C6 := Lib.hid (place_any x4 w2)
              rw [HP5.out] at C5
              rw [HP6.out] at C6
              clear hb C4
              go_wp2_with fail
              refine C5.out.mono ?_
              rintro e wz ⟨rfl, hwz⟩
              subst wz
              go_wp2_with fail
              refine C6.out.mono ?_
              rintro e wz ⟨rfl, hwz⟩
              subst wz
              go_wp2
              go_ret
              exact ⟨by rw [HF.out]; rfl, HB2.out⟩
          · have HP5 := Lib.hid (show place L = false by simpa using hl)
            have HF := Lib.hid (show fit (x1, x2, x3, x4) = false from fit_no (fun h => hl (by rw [← HL.out]; exact h.2.2.2.1)))
            clear hl hq
            go_enter Tryz.func45, Tryz.ntmps45
            go_wp2_with fail
            refine C1.out.mono ?_
            rintro e wz ⟨rfl, hwz⟩
            subst wz
            go_wp2_with fail
            refine C2.out.mono ?_
            rintro e wz ⟨rfl, hwz⟩
            subst wz
            go_wp2_with fail
            refine C3.out.mono ?_
            rintro e wz ⟨rfl, hwz⟩
            subst wz
            go_wp2_with fail
            refine C4.out.mono ?_
            rintro e w2 ⟨rfl, hb⟩
            have HB2 := Lib.hid (HB.out.trans (hb.mono HB.out.size))
            have d3 : w2.cell? ⟨g, 3, none⟩ = some (.int .i64 x4) := whole_cell (boxOn HG.out hb) rfl
            have C5 := Lib.hid (place_any L w2)
            have C6 := Lib.hid (place_any x4 w2)
            rw [HP5.out] at C5
            clear hb C4
            go_wp2_with fail
            refine C5.out.mono ?_
            rintro e wz ⟨rfl, hwz⟩
            subst wz
            go_wp2
            go_ret
            exact ⟨by rw [HF.out]; rfl, HB2.out⟩
        · have hq' : place x1 = false := by simpa using hq
          rw [hq'] at C3
          have HF := Lib.hid (show fit (x1, x2, x3, x4) = false from fit_no (fun h => hq h.2.2.1))
          clear hq hq'
          go_enter Tryz.func45, Tryz.ntmps45
          go_wp2_with fail
          refine C1.out.mono ?_
          rintro e wz ⟨rfl, hwz⟩
          subst wz
          go_wp2_with fail
          refine C2.out.mono ?_
          rintro e wz ⟨rfl, hwz⟩
          subst wz
          go_wp2_with fail
          refine C3.out.mono ?_
          rintro e wz ⟨rfl, hwz⟩
          subst wz
          go_wp2
          go_ret
          exact ⟨by rw [HF.out]; rfl, HB.out⟩
      · have ha' : argI x2 = false := by simpa using ha
        rw [ha'] at C2
        by_cases h3 : x3 = 0
        · have h3' : (x3 == 0) = true := by simpa using h3
          have H3 := Lib.hid h3
          clear h3
          by_cases hq : place x1 = true
          · rw [hq] at C3
            by_cases hl : place L = true
            · by_cases hn : place x4 = true
              · have HP5 := Lib.hid hl
                have HP6 := Lib.hid hn
                have HF := Lib.hid (show fit (x1, x2, x3, x4) = true from fit_yes ⟨(.inr h64), (.inr H3.out), hq, by rw [HL.out]; exact hl, hn⟩)
                clear hl hn hq
                go_enter Tryz.func45, Tryz.ntmps45
                go_wp2_with fail
                refine C1.out.mono ?_
                rintro e wz ⟨rfl, hwz⟩
                subst wz
                go_wp2_with fail
                refine C2.out.mono ?_
                rintro e wz ⟨rfl, hwz⟩
                subst wz
                go_wp2_with fail
                refine C3.out.mono ?_
                rintro e wz ⟨rfl, hwz⟩
                subst wz
                go_wp2_with fail
                refine C4.out.mono ?_
                rintro e w2 ⟨rfl, hb⟩
                have HB2 := Lib.hid (HB.out.trans (hb.mono HB.out.size))
                have d3 : w2.cell? ⟨g, 3, none⟩ = some (.int .i64 x4) := whole_cell (boxOn HG.out hb) rfl
                have C5 := Lib.hid (place_any L w2)
                have C6 := Lib.hid (place_any x4 w2)
                rw [HP5.out] at C5
                rw [HP6.out] at C6
                clear hb C4
                go_wp2_with fail
                refine C5.out.mono ?_
                rintro e wz ⟨rfl, hwz⟩
                subst wz
                go_wp2_with fail
                refine C6.out.mono ?_
                rintro e wz ⟨rfl, hwz⟩
                subst wz
                go_wp2
                go_ret
                exact ⟨by rw [HF.out]; rfl, HB2.out⟩
              · have HP5 := Lib.hid hl
                have HP6 := Lib.hid (show place x4 = false by simpa using hn)
                have HF := Lib.hid (show fit (x1, x2, x3, x4) = false from fit_no (fun h => hn h.2.2.2.2))
                clear hl hn hq
                go_enter Tryz.func45, Tryz.ntmps45
                go_wp2_with fail
                refine C1.out.mono ?_
                rintro e wz ⟨rfl, hwz⟩
                subst wz
                go_wp2_with fail
                refine C2.out.mono ?_
                rintro e wz ⟨rfl, hwz⟩
                subst wz
                go_wp2_with fail
                refine C3.out.mono ?_
                rintro e wz ⟨rfl, hwz⟩
                subst wz
                go_wp2_with fail
                refine C4.out.mono ?_
                rintro e w2 ⟨rfl, hb⟩
                have HB2 := Lib.hid (HB.out.trans (hb.mono HB.out.size))
                have d3 : w2.cell? ⟨g, 3, none⟩ = some (.int .i64 x4) := whole_cell (boxOn HG.out hb) rfl
                have C5 := Lib.hid (place_any L w2)
                have C6 := Lib.hid (place_any x4 w2)
                rw [HP5.out] at C5
                rw [HP6.out] at C6
                clear hb C4
                go_wp2_with fail
                refine C5.out.mono ?_
                rintro e wz ⟨rfl, hwz⟩
                subst wz
                go_wp2_with fail
                refine C6.out.mono ?_
                rintro e wz ⟨rfl, hwz⟩
                subst wz
                go_wp2
                go_ret
                exact ⟨by rw [HF.out]; rfl, HB2.out⟩
            · have HP5 := Lib.hid (show place L = false by simpa using hl)
              have HF := Lib.hid (show fit (x1, x2, x3, x4) = false from fit_no (fun h => hl (by rw [← HL.out]; exact h.2.2.2.1)))
              clear hl hq
              go_enter Tryz.func45, Tryz.ntmps45
              go_wp2_with fail
              refine C1.out.mono ?_
              rintro e wz ⟨rfl, hwz⟩
              subst wz
              go_wp2_with fail
              refine C2.out.mono ?_
              rintro e wz ⟨rfl, hwz⟩
              subst wz
              go_wp2_with fail
              refine C3.out.mono ?_
              rintro e wz ⟨rfl, hwz⟩
              subst wz
              go_wp2_with fail
              refine C4.out.mono ?_
              rintro e w2 ⟨rfl, hb⟩
              have HB2 := Lib.hid (HB.out.trans (hb.mono HB.out.size))
              have d3 : w2.cell? ⟨g, 3, none⟩ = some (.int .i64 x4) := whole_cell (boxOn HG.out hb) rfl
              have C5 := Lib.hid (place_any L w2)
              have C6 := Lib.hid (place_any x4 w2)
              rw [HP5.out] at C5
              clear hb C4
              go_wp2_with fail
              refine C5.out.mono ?_
              rintro e wz ⟨rfl, hwz⟩
              subst wz
              go_wp2
              go_ret
              exact ⟨by rw [HF.out]; rfl, HB2.out⟩
          · have hq' : place x1 = false := by simpa using hq
            rw [hq'] at C3
            have HF := Lib.hid (show fit (x1, x2, x3, x4) = false from fit_no (fun h => hq h.2.2.1))
            clear hq hq'
            go_enter Tryz.func45, Tryz.ntmps45
            go_wp2_with fail
            refine C1.out.mono ?_
            rintro e wz ⟨rfl, hwz⟩
            subst wz
            go_wp2_with fail
            refine C2.out.mono ?_
            rintro e wz ⟨rfl, hwz⟩
            subst wz
            go_wp2_with fail
            refine C3.out.mono ?_
            rintro e wz ⟨rfl, hwz⟩
            subst wz
            go_wp2
            go_ret
            exact ⟨by rw [HF.out]; rfl, HB.out⟩
        · have h3' : (x3 == 0) = false := by simpa using h3
          have HF := Lib.hid (show fit (x1, x2, x3, x4) = false from fit_no (fun h => h.2.1.elim ha h3))
          clear h3 ha ha'
          go_enter Tryz.func45, Tryz.ntmps45
          go_wp2_with fail
          refine C1.out.mono ?_
          rintro e wz ⟨rfl, hwz⟩
          subst wz
          go_wp2_with fail
          refine C2.out.mono ?_
          rintro e wz ⟨rfl, hwz⟩
          subst wz
          go_wp2
          go_ret
          exact ⟨by rw [HF.out]; rfl, HB.out⟩
    · have HF := Lib.hid (show fit (x1, x2, x3, x4) = false from fit_no (fun h => h.1.elim hp h64))
      clear hp hp'
      go_enter Tryz.func45, Tryz.ntmps45
      go_wp2_with fail
      refine C1.out.mono ?_
      rintro e wz ⟨rfl, hwz⟩
      subst wz
      go_wp2
      go_ret
      exact ⟨by rw [HF.out]; rfl, HB.out⟩
end Go.Proofs.YtcffbeihgchpgaaGreatDoor.Rec
