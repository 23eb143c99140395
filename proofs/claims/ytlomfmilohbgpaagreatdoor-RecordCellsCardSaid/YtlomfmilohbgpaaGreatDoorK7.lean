/- Package record: whether a step may be recorded. -/
import Derived.Test.YtlomfmilohbgpaaGreatDoorK6
import Derived.Deep.RegionHeld3
import Derived.Deep.DeepCutAuto
import Derived.RegionTactic
import Derived.Deep.RegionLaw
import Derived.Deep.AppendLies
import Derived.Deep.DrawnRows
import Derived.Deep.RegionWith
import Derived.BigQuiet
import Derived.Deep.QuietTactic
import Derived.Test.YtlomfmilohbgpaaGreatDoorRefMach
import Derived.Test.YtlomfmilohbgpaaGreatDoorBookInts
import Derived.Test.YtlomfmilohbgpaaGreatDoorBookTexts
import Derived.Test.YtlomfmilohbgpaaGreatDoorBookPlain
import Derived.Test.YtlomfmilohbgpaaGreatDoorK5
import Derived.Test.YtlomfmilohbgpaaGreatDoorK2
import Derived.Test.YtlomfmilohbgpaaGreatDoorK3
namespace Go.Proofs.YtlomfmilohbgpaaGreatDoor.Rec
open Go.RowKit Book Book.Wide Mem Mach Inn
set_option linter.unusedSimpArgs false
set_option linter.unusedVariables false
theorem fit_no {x : S} (h : ¬ ((plainI x.2.1 = true ∨ 64 ≤ x.2.1) ∧ (argI x.2.1 = true ∨ x.2.2.1 = 0) ∧ place x.1 = true ∧ place (lastOf x) = true ∧ place x.2.2.2 = true)) : fit x = false := by unfold fit; exact decide_eq_false h
theorem fit_yes {x : S} (h : (plainI x.2.1 = true ∨ 64 ≤ x.2.1) ∧ (argI x.2.1 = true ∨ x.2.2.1 = 0) ∧ place x.1 = true ∧ place (lastOf x) = true ∧ place x.2.2.2 = true) : fit x = true := by unfold fit; exact decide_eq_true h
set_option maxHeartbeats 8000000 in
theorem right_any (x : S) (w : World) : Calls Tryz.prog 22 #[seenV x] w (Says (.bool (fit x)) w) := by
  obtain ⟨x1, x2, x3, x4⟩ := x
  obtain ⟨w1, g, hw1, hg, HG, HB, HZ⟩ := newBox w (seenA (x1, x2, x3, x4)) 33
  have c0 : w1.cell? ⟨g, 0, none⟩ = some (.int .i64 x1) := whole_cell HG.out rfl
  have c1 : w1.cell? ⟨g, 1, none⟩ = some (.int .i64 x2) := whole_cell HG.out rfl
  have c2 : w1.cell? ⟨g, 2, none⟩ = some (.int .i64 x3) := whole_cell HG.out rfl
  have c3 : w1.cell? ⟨g, 3, none⟩ = some (.int .i64 x4) := whole_cell HG.out rfl
  have C1 := Lib.hid (opPlain_same x2 w1)
  have C2 := Lib.hid (opArg_same x2 w1)
  have C3 := Lib.hid (place_any x1 w1)
  have C4 := Lib.hid (last_any (x1, x2, x3, x4) w1)
  obtain ⟨L, hL⟩ : ∃ L, lastOf (x1, x2, x3, x4) = L := ⟨_, rfl⟩
  have HL := Lib.hid hL
  rw [hL] at C4
  clear hL
  by_cases hp : plainI x2 = true
  · rw [hp] at C1
    by_cases ha : argI x2 = true
    · rw [ha] at C2
      by_cases hq : place x1 = true
      · rw [hq] at C3
        by_cases hl : place L = true
        · by_cases hn : place x4 = true
          · have HP5 := Lib.hid hl
            have HP6 := Lib.hid hn
            have HF := Lib.hid (show fit (x1, x2, x3, x4) = true from fit_yes ⟨(.inl hp), (.inl ha), hq, by rw [HL.out]; exact hl, hn⟩)
            clear hl hn hq
            go_enter Tryz.func22, Tryz.ntmps22
            go_wp2_with fail
            refine C1.out.mono ?_
            rintro e wz ⟨rfl, hwz⟩
            subst wz
            go_wp2_with fail
            refine C2.out.mono ?_
            rintro e wz ⟨rfl, hwz⟩
            subst wz
            go_wp2_with fail
            refine C3.out.mono ?_
            rintro e wz ⟨rfl, hwz⟩
            subst wz
            go_wp2_with fail
            refine C4.out.mono ?_
            rintro e w2 ⟨rfl, hb⟩
            have HB2 := Lib.hid (HB.out.trans (hb.mono HB.out.size))
            have d3 : w2.cell? ⟨g, 3, none⟩ = some (.int .i64 x4) := whole_cell (boxOn HG.out hb) rfl
            have C5 := Lib.hid (place_any L w2)
            have C6 := Lib.hid (place_any x4 w2)
            rw [HP5.out] at C5
            rw [HP6.out] at C6
            clear hb C4
            go_wp2_with fail
            refine C5.out.mono ?_
            rintro e wz ⟨rfl, hwz⟩
            subst wz
            go_wp2_with fail
            refine C6.out.mono ?_
            rintro e wz ⟨rfl, hwz⟩
            subst wz
            go_wp2
            go_ret
            exact ⟨by rw [HF.out]; rfl, HB2.out⟩
          · have HP5 := Lib.hid hl
            have HP6 := Lib.hid (show place x4 = false by simpa using hn)
            have HF := Lib.hid (show fit (x1, x2, x3, x4) = false from fit_no (fun h => hn h.2.2.2.2))
            clear hl hn hq
            go_enter Tryz.func22, Tryz.ntmps22
            go_wp2_with fail
            refine C1.out.mono ?_
            rintro e wz ⟨rfl, hwz⟩
            subst wz
            go_wp2_with fail
            refine C2.out.mono ?_
            rintro e wz ⟨rfl, hwz⟩
            subst wz
            go_wp2_with fail
            refine C3.out.mono ?_
            rintro e wz ⟨rfl, hwz⟩
            subst wz
            go_wp2_with fail
            refine C4.out.mono ?_
            rintro e w2 ⟨rfl, hb⟩
            have HB2 := Lib.hid (HB.out.trans (hb.mono HB.out.size))
            have d3 : w2.cell? ⟨g, 3, none⟩ = some (.int .i64 x4) := whole_cell (boxOn HG.out hb) rfl
            have C5 := Lib.hid (place_any L w2)
            have C6 := Lib.hid (place_any x4 w2)
            rw [HP5.out] at C5
            rw [HP6.out] at C6
            clear hb C4
            go_wp2_with fail
            refine C5.out.mono ?_
            rintro e wz ⟨rfl, hwz⟩
            subst wz
            go_wp2_with fail
            refine C6.out.mono ?_
            rintro e wz ⟨rfl, hwz⟩
            subst wz
            go_wp2
            go_ret
            exact ⟨by rw [HF.out]; rfl, HB2.out⟩
        · have HP5 := Lib.hid (show place L = false by simpa using hl)
          have HF := Lib.hid (show fit (x1, x2, x3, x4) = false from fit_no (fun h => hl (by rw [← HL.out]; exact h.2.2.2.1)))
          clear hl hq
          go_enter Tryz.func22, Tryz.ntmps22
          go_wp2_with fail
          refine C1.out.mono ?_
          rintro e wz ⟨rfl, hwz⟩
          subst wz
          go_wp2_with fail
          refine C2.out.mono ?_
          rintro e wz ⟨rfl, hwz⟩
          subst wz
          go_wp2_with fail
          refine C3.out.mono ?_
          rintro e wz ⟨rfl, hwz⟩
          subst wz
          go_wp2_with fail
          refine C4.out.mono ?_
          rintro e w2 ⟨rfl, hb⟩
          have HB2 := Lib.hid (HB.out.trans (hb.mono HB.out.size))
          have d3 : w2.cell? ⟨g, 3, none⟩ = some (.int .i64 x4) := whole_cell (boxOn HG.out hb) rfl
          have C5 := Lib.hid (place_any L w2)
          have C6 := Lib.hid (place_any x4 w2)
          rw [HP5.out] at C5
          clear hb C4
          go_wp2_with fail
          refine C5.out.mono ?_
          rintro e wz ⟨rfl, hwz⟩
          subst wz
          go_wp2
          go_ret
          exact ⟨by rw [HF.out]; rfl, HB2.out⟩
      · have hq' : place x1 = false := by simpa using hq
        rw [hq'] at C3
        have HF := Lib.hid (show fit (x1, x2, x3, x4) = false from fit_no (fun h => hq h.2.2.1))
        clear hq hq'
        go_enter Tryz.func22, Tryz.ntmps22
        go_wp2_with fail
        refine C1.out.mono ?_
        rintro e wz ⟨rfl, hwz⟩
        subst wz
        go_wp2_with fail
        refine C2.out.mono ?_
        rintro e wz ⟨rfl, hwz⟩
        subst wz
        go_wp2_with fail
        refine C3.out.mono ?_
        rintro e wz ⟨rfl, hwz⟩
        subst wz
        go_wp2
        go_ret
        exact ⟨by rw [HF.out]; rfl, HB.out⟩
    · have ha' : argI x2 = false := by simpa using ha
      rw [ha'] at C2
      by_cases h3 : x3 = 0
      · have h3' : (x3 == 0) = true := by simpa using h3
        have H3 := Lib.hid h3
        clear h3
        by_cases hq : place x1 = true
        · rw [hq] at C3
          by_cases hl : place L = true
          · by_cases hn : place x4 = true
            · have HP5 := Lib.hid hl
              have HP6 := Lib.hid hn
              have HF := Lib.hid (show fit (x1, x2, x3, x4) = true from fit_yes ⟨(.inl hp), (.inr H3.out), hq, by rw [HL.out]; exact hl, hn⟩)
              clear hl hn hq
              go_enter Tryz.func22, Tryz.ntmps22
              go_wp2_with fail
              refine C1.out.mono ?_
              rintro e wz ⟨rfl, hwz⟩
              subst wz
              go_wp2_with fail
              refine C2.out.mono ?_
              rintro e wz ⟨rfl, hwz⟩
              subst wz
              go_wp2_with fail
              refine C3.out.mono ?_
              rintro e wz ⟨rfl, hwz⟩
              subst wz
              go_wp2_with fail
              refine C4.out.mono ?_
              rintro e w2 ⟨rfl, hb⟩
              have HB2 := Lib.hid (HB.out.trans (hb.mono HB.out.size))
              have d3 : w2.cell? ⟨g, 3, none⟩ = some (.int .i64 x4) := whole_cell (boxOn HG.out hb) rfl
              have C5 := Lib.hid (place_any L w2)
              have C6 := Lib.hid (place_any x4 w2)
              rw [HP5.out] at C5
              rw [HP6.out] at C6
              clear hb C4
              go_wp2_with fail
              refine C5.out.mono ?_
              rintro e wz ⟨rfl, hwz⟩
              subst wz
              go_wp2_with fail
              refine C6.out.mono ?_
              rintro e wz ⟨rfl, hwz⟩
              subst wz
              go_wp2
              go_ret
              exact ⟨by rw [HF.out]; rfl, HB2.out⟩
            · have HP5 := Lib.hid hl
              have HP6 := Lib.hid (show place x4 = false by simpa using hn)
              have HF := Lib.hid (show fit (x1, x2, x3, x4) = false from fit_no (fun h => hn h.2.2.2.2))
              clear hl hn hq
              go_enter Tryz.func22, Tryz.ntmps22
              go_wp2_with fail
              refine C1.out.mono ?_
              rintro e wz ⟨rfl, hwz⟩
              subst wz
              go_wp2_with fail
              refine C2.out.mono ?_
              rintro e wz ⟨rfl, hwz⟩
              subst wz
              go_wp2_with fail
              refine C3.out.mono ?_
              rintro e wz ⟨rfl, hwz⟩
              subst wz
              go_wp2_with fail
              refine C4.out.mono ?_
              rintro e w2 ⟨rfl, hb⟩
              have HB2 := Lib.hid (HB.out.trans (hb.mono HB.out.size))
              have d3 : w2.cell? ⟨g, 3, none⟩ = some (.int .i64 x4) := whole_cell (boxOn HG.out hb) rfl
              have C5 := Lib.hid (place_any L w2)
              have C6 := Lib.hid (place_any x4 w2)
              rw [HP5.out] at C5
              rw [HP6.out] at C6
              clear hb C4
              go_wp2_with fail
              refine C5.out.mono ?_
              rintro e wz ⟨rfl, hwz⟩
              subst wz
              go_wp2_with fail
              refine C6.out.mono ?_
              rintro e wz ⟨rfl, hwz⟩
              subst wz
              go_wp2
              go_ret
              exact ⟨by rw [HF.out]; rfl, HB2.out⟩
          · have HP5 := Lib.hid (show place L = false by simpa using hl)
            have HF := Lib.hid (show fit (x1, x2, x3, x4) = false from fit_no (fun h => hl (by rw [← HL.out]; exact h.2.2.2.1)))
            clear hl hq
            go_enter Tryz.func22, Tryz.ntmps22
            go_wp2_with fail
            refine C1.out.mono ?_
            rintro e wz ⟨rfl, hwz⟩
            subst wz
            go_wp2_with fail
            refine C2.out.mono ?_
            rintro e wz ⟨rfl, hwz⟩
            subst wz
            go_wp2_with fail
            refine C3.out.mono ?_
            rintro e wz ⟨rfl, hwz⟩
            subst wz
            go_wp2_with fail
            refine C4.out.mono ?_
            rintro e w2 ⟨rfl, hb⟩
            have HB2 := Lib.hid (HB.out.trans (hb.mono HB.out.size))
            have d3 : w2.cell? ⟨g, 3, none⟩ = some (.int .i64 x4) := whole_cell (boxOn HG.out hb) rfl
            have C5 := Lib.hid (place_any L w2)
            have C6 := Lib.hid (place_any x4 w2)
            rw [HP5.out] at C5
            clear hb C4
            go_wp2_with fail
            refine C5.out.mono ?_
            rintro e wz ⟨rfl, hwz⟩
            subst wz
            go_wp2
            go_ret
            exact ⟨by rw [HF.out]; rfl, HB2.out⟩
        · have hq' : place x1 = false := by simpa using hq
          rw [hq'] at C3
          have HF := Lib.hid (show fit (x1, x2, x3, x4) = false from fit_no (fun h => hq h.2.2.1))
          clear hq hq'
          go_enter Tryz.func22, Tryz.ntmps22
          go_wp2_with fail
          refine C1.out.mono ?_
          rintro e wz ⟨rfl, hwz⟩
          subst wz
          go_wp2_with fail
          refine C2.out.mono ?_
          rintro e wz ⟨rfl, hwz⟩
          subst wz
          go_wp2_with fail
          refine C3.out.mono ?_
          rintro e wz ⟨rfl, hwz⟩
          subst wz
          go_wp2
          go_ret
          exact ⟨by rw [HF.out]; rfl, HB.out⟩
      · have h3' : (x3 == 0) = false := by simpa using h3
        have HF := Lib.hid (show fit (x1, x2, x3, x4) = false from fit_no (fun h => h.2.1.elim ha h3))
        clear h3 ha ha'
        go_enter Tryz.func22, Tryz.ntmps22
        go_wp2_with fail
        refine C1.out.mono ?_
        rintro e wz ⟨rfl, hwz⟩
        subst wz
        go_wp2_with fail
        refine C2.out.mono ?_
        rintro e wz ⟨rfl, hwz⟩
        subst wz
        go_wp2
        go_ret
        exact ⟨by rw [HF.out]; rfl, HB.out⟩
  · have hp' : plainI x2 = false := by simpa using hp
    rw [hp'] at C1
    by_cases h64 : 64 ≤ x2
    · skip
      by_cases ha : argI x2 = true
      · rw [ha] at C2
        by_cases hq : place x1 = true
        · rw [hq] at C3
          by_cases hl : place L = true
          · by_cases hn : place x4 = true
            · have HP5 := Lib.hid hl
              have HP6 := Lib.hid hn
              have HF := Lib.hid (show fit (x1, x2, x3, x4) = true from fit_yes ⟨(.inr h64), (.inl ha), hq, by rw [HL.out]; exact hl, hn⟩)
              clear hl hn hq
              go_enter Tryz.func22, Tryz.ntmps22
              go_wp2_with fail
              refine C1.out.mono ?_
              rintro e wz ⟨rfl, hwz⟩
              subst wz
              go_wp2_with fail
              refine C2.out.mono ?_
              rintro e wz ⟨rfl, hwz⟩
              subst wz
              go_wp2_with fail
              refine C3.out.mono ?_
              rintro e wz ⟨rfl, hwz⟩
              subst wz
              go_wp2_with fail
              refine C4.out.mono ?_
              rintro e w2 ⟨rfl, hb⟩
              have HB2 := Lib.hid (HB.out.trans (hb.mono HB.out.size))
              have d3 : w2.cell? ⟨g, 3, none⟩ = some (.int .i64 x4) := whole_cell (boxOn HG.out hb) rfl
              have C5 := Lib.hid (place_any L w2)
              have C6 := Lib.hid (place_any x4 w2)
              rw [HP5.out] at C5
              rw [HP6.out] at C6
              clear hb C4
              go_wp2_with fail
              refine C5.out.mono ?_
              rintro e wz ⟨rfl, hwz⟩
              subst wz
              go_wp2_with fail
              refine C6.out.mono ?_
              rintro e wz ⟨rfl, hwz⟩
              subst wz
              go_wp2
              go_ret
              exact ⟨by rw [HF.out]; rfl, HB2.out⟩
            · have HP5 := Lib.hid hl
              have HP6 := Lib.hid (show place x4 = false by simpa using hn)
              have HF := Lib.hid (show fit (x1, x2, x3, x4) = false from fit_no (fun h => hn h.2.2.2.2))
              clear hl hn hq
              go_enter Tryz.func22, Tryz.ntmps22
              go_wp2_with fail
              refine C1.out.mono ?_
              rintro e wz ⟨rfl, hwz⟩
              subst wz
              go_wp2_with fail
              refine C2.out.mono ?_
              rintro e wz ⟨rfl, hwz⟩
              subst wz
              go_wp2_with fail
              refine C3.out.mono ?_
              rintro e wz ⟨rfl, hwz⟩
              subst wz
              go_wp2_with fail
              refine C4.out.mono ?_
              rintro e w2 ⟨rfl, hb⟩
              have HB2 := Lib.hid (HB.out.trans (hb.mono HB.out.size))
              have d3 : w2.cell? ⟨g, 3, none⟩ = some (.int .i64 x4) := whole_cell (boxOn HG.out hb) rfl
              have C5 := Lib.hid (place_any L w2)
              have C6 := Lib.hid (place_any x4 w2)
              rw [HP5.out] at C5
              rw [HP6.out] at C6
              clear hb C4
              go_wp2_with fail
              refine C5.out.mono ?_
              rintro e wz ⟨rfl, hwz⟩
              subst wz
              go_wp2_with fail
              refine C6.out.mono ?_
              rintro e wz ⟨rfl, hwz⟩
              subst wz
              go_wp2
              go_ret
              exact ⟨by rw [HF.out]; rfl, HB2.out⟩
          · have HP5 := Lib.hid (show place L = false by simpa using hl)
            have HF := Lib.hid (show fit (x1, x2, x3, x4) = false from fit_no (fun h => hl (by rw [← HL.out]; exact h.2.2.2.1)))
            clear hl hq
            go_enter Tryz.func22, Tryz.ntmps22
            go_wp2_with fail
            refine C1.out.mono ?_
            rintro e wz ⟨rfl, hwz⟩
            subst wz
            go_wp2_with fail
            refine C2.out.mono ?_
            rintro e wz ⟨rfl, hwz⟩
            subst wz
            go_wp2_with fail
            refine C3.out.mono ?_
            rintro e wz ⟨rfl, hwz⟩
            subst wz
            go_wp2_with fail
            refine C4.out.mono ?_
            rintro e w2 ⟨rfl, hb⟩
            have HB2 := Lib.hid (HB.out.trans (hb.mono HB.out.size))
            have d3 : w2.cell? ⟨g, 3, none⟩ = some (.int .i64 x4) := whole_cell (boxOn HG.out hb) rfl
            have C5 := Lib.hid (place_any L w2)
            have C6 := Lib.hid (place_any x4 w2)
            rw [HP5.out] at C5
            clear hb C4
            go_wp2_with fail
            refine C5.out.mono ?_
            rintro e wz ⟨rfl, hwz⟩
            subst wz
            go_wp2
            go_ret
            exact ⟨by rw [HF.out]; rfl, HB2.out⟩
        · have hq' : place x1 = false := by simpa using hq
          rw [hq'] at C3
          have HF := Lib.hid (show fit (x1, x2, x3, x4) = false from fit_no (fun h => hq h.2.2.1))
          clear hq hq'
          go_enter Tryz.func22, Tryz.ntmps22
          go_wp2_with fail
          refine C1.out.mono ?_
          rintro e wz ⟨rfl, hwz⟩
          subst wz
          go_wp2_with fail
          refine C2.out.mono ?_
          rintro e wz ⟨rfl, hwz⟩
          subst wz
          go_wp2_with fail
          refine C3.out.mono ?_
          rintro e wz ⟨rfl, hwz⟩
          subst wz
          go_wp2
          go_ret
          exact ⟨by rw [HF.out]; rfl, HB.out⟩
      · have ha' : argI x2 = false := by simpa using ha
        rw [ha'] at C2
        by_cases h3 : x3 = 0
        · have h3' : (x3 == 0) = true := by simpa using h3
          have H3 := Lib.hid h3
          clear h3
          by_cases hq : place x1 = true
          · rw [hq] at C3
            by_cases hl : place L = true
            · by_cases hn : place x4 = true
              · have HP5 := Lib.hid hl
                have HP6 := Lib.hid hn
                have HF := Lib.hid (show fit (x1, x2, x3, x4) = true from fit_yes ⟨(.inr h64), (.inr H3.out), hq, by rw [HL.out]; exact hl, hn⟩)
                clear hl hn hq
                go_enter Tryz.func22, Tryz.ntmps22
                go_wp2_with fail
                refine C1.out.mono ?_
                rintro e wz ⟨rfl, hwz⟩
                subst wz
                go_wp2_with fail
                refine C2.out.mono ?_
                rintro e wz ⟨rfl, hwz⟩
                subst wz
                go_wp2_with fail
                refine C3.out.mono ?_
                rintro e wz ⟨rfl, hwz⟩
                subst wz
                go_wp2_with fail
                refine C4.out.mono ?_
                rintro e w2 ⟨rfl, hb⟩
                have HB2 := Lib.hid (HB.out.trans (hb.mono HB.out.size))
                have d3 : w2.cell? ⟨g, 3, none⟩ = some (.int .i64 x4) := whole_cell (boxOn HG.out hb) rfl
                have C5 := Lib.hid (place_any L w2)
                have C6 := Lib.hid (place_any x4 w2)
                rw [HP5.out] at C5
                rw [HP6.out] at C6
                clear hb C4
                go_wp2_with fail
                refine C5.out.mono ?_
                rintro e wz ⟨rfl, hwz⟩
                subst wz
                go_wp2_with fail
                refine C6.out.mono ?_
                rintro e wz ⟨rfl, hwz⟩
                subst wz
                go_wp2
                go_ret
                exact ⟨by rw [HF.out]; rfl, HB2.out⟩
              · have HP5 := Lib.hid hl
                have HP6 := Lib.hid (show place x4 = false by simpa using hn)
                have HF := Lib.hid (show fit (x1, x2, x3, x4) = false from fit_no (fun h => hn h.2.2.2.2))
                clear hl hn hq
                go_enter Tryz.func22, Tryz.ntmps22
                go_wp2_with fail
                refine C1.out.mono ?_
                rintro e wz ⟨rfl, hwz⟩
                subst wz
                go_wp2_with fail
                refine C2.out.mono ?_
                rintro e wz ⟨rfl, hwz⟩
                subst wz
                go_wp2_with fail
                refine C3.out.mono ?_
                rintro e wz ⟨rfl, hwz⟩
                subst wz
                go_wp2_with fail
                refine C4.out.mono ?_
                rintro e w2 ⟨rfl, hb⟩
                have HB2 := Lib.hid (HB.out.trans (hb.mono HB.out.size))
                have d3 : w2.cell? ⟨g, 3, none⟩ = some (.int .i64 x4) := whole_cell (boxOn HG.out hb) rfl
                have C5 := Lib.hid (place_any L w2)
                have C6 := Lib.hid (place_any x4 w2)
                rw [HP5.out] at C5
                rw [HP6.out] at C6
                clear hb C4
                go_wp2_with fail
                refine C5.out.mono ?_
                rintro e wz ⟨rfl, hwz⟩
                subst wz
                go_wp2_with fail
                refine C6.out.mono ?_
                rintro e wz ⟨rfl, hwz⟩
                subst wz
                go_wp2
                go_ret
                exact ⟨by rw [HF.out]; rfl, HB2.out⟩
            · have HP5 := Lib.hid (show place L = false by simpa using hl)
              have HF := Lib.hid (show fit (x1, x2, x3, x4) = false from fit_no (fun h => hl (by rw [← HL.out]; exact h.2.2.2.1)))
              clear hl hq
              go_enter Tryz.func22, Tryz.ntmps22
              go_wp2_with fail
              refine C1.out.mono ?_
              rintro e wz ⟨rfl, hwz⟩
              subst wz
              go_wp2_with fail
              refine C2.out.mono ?_
              rintro e wz ⟨rfl, hwz⟩
              subst wz
              go_wp2_with fail
              refine C3.out.mono ?_
              rintro e wz ⟨rfl, hwz⟩
              subst wz
              go_wp2_with fail
              refine C4.out.mono ?_
              rintro e w2 ⟨rfl, hb⟩
              have HB2 := Lib.hid (HB.out.trans (hb.mono HB.out.size))
              have d3 : w2.cell? ⟨g, 3, none⟩ = some (.int .i64 x4) := whole_cell (boxOn HG.out hb) rfl
              have C5 := Lib.hid (place_any L w2)
              have C6 := Lib.hid (place_any x4 w2)
              rw [HP5.out] at C5
              clear hb C4
              go_wp2_with fail
              refine C5.out.mono ?_
              rintro e wz ⟨rfl, hwz⟩
              subst wz
              go_wp2
              go_ret
              exact ⟨by rw [HF.out]; rfl, HB2.out⟩
          · have hq' : place x1 = false := by simpa using hq
            rw [hq'] at C3
            have HF := Lib.hid (show fit (x1, x2, x3, x4) = false from fit_no (fun h => hq h.2.2.1))
            clear hq hq'
            go_enter Tryz.func22, Tryz.ntmps22
            go_wp2_with fail
            refine C1.out.mono ?_
            rintro e wz ⟨rfl, hwz⟩
            subst wz
            go_wp2_with fail
            refine C2.out.mono ?_
            rintro e wz ⟨rfl, hwz⟩
            subst wz
            go_wp2_with fail
            refine C3.out.mono ?_
            rintro e wz ⟨rfl, hwz⟩
            subst wz
            go_wp2
            go_ret
            exact ⟨by rw [HF.out]; rfl, HB.out⟩
        · have h3' : (x3 == 0) = false := by simpa using h3
          have HF := Lib.hid (show fit (x1, x2, x3, x4) = false from fit_no (fun h => h.2.1.elim ha h3))
          clear h3 ha ha'
          go_enter Tryz.func22, Tryz.ntmps22
          go_wp2_with fail
          refine C1.out.mono ?_
          rintro e wz ⟨rfl, hwz⟩
          subst wz
          go_wp2_with fail
          refine C2.out.mono ?_
          rintro e wz ⟨rfl, hwz⟩
          subst wz
          go_wp2
          go_ret
          exact ⟨by rw [HF.out]; rfl, HB.out⟩
    · have HF := Lib.hid (show fit (x1, x2, x3, x4) = false from fit_no (fun h => h.1.elim hp h64))
      clear hp hp'
      go_enter Tryz.func22, Tryz.ntmps22
      go_wp2_with fail
      refine C1.out.mono ?_
      rintro e wz ⟨rfl, hwz⟩
      subst wz
      go_wp2
      go_ret
      exact ⟨by rw [HF.out]; rfl, HB.out⟩
end Go.Proofs.YtlomfmilohbgpaaGreatDoor.Rec
/- A region that draws its order and makes and fills a step's box: one step each. -/
namespace Go.Proofs.YtlomfmilohbgpaaGreatDoor.Rec
open Go.RowKit Book Mem Mach Inn
set_option linter.unusedVariables false
set_option linter.unusedSimpArgs false
theorem seen_size : (Tryz.prog.info? 33).map (·.size) = some 4 := by kernel_rfl
theorem int_size : (Tryz.prog.info? 3).map (·.size) = some 1 := by kernel_rfl
theorem cells_ten {w : World} {g : Nat} {ip hn : Int} {vs vb vm : Value} {ou inn : ByteArray} {rd stt cd : Int} (h : w.heap[g]? = some (.cells (cells10 ip hn vs vb vm ou inn rd stt cd) 24 (0, 0))) : w.cell? ⟨g, 0, none⟩ = some (.int .i64 ip) ∧ w.cell? ⟨g, 1, none⟩ = some (.int .i64 hn) ∧ w.cell? ⟨g, 2, none⟩ = some vs ∧ w.cell? ⟨g, 3, none⟩ = some vb ∧ w.cell? ⟨g, 4, none⟩ = some vm ∧ w.cell? ⟨g, 5, none⟩ = some (.string ou) ∧ w.cell? ⟨g, 6, none⟩ = some (.string inn) ∧ w.cell? ⟨g, 7, none⟩ = some (.int .i64 rd) ∧ w.cell? ⟨g, 8, none⟩ = some (.int .i64 stt) ∧ w.cell? ⟨g, 9, none⟩ = some (.int .i64 cd) :=
  ⟨whole_cell h rfl, whole_cell h rfl, whole_cell h rfl, whole_cell h rfl, whole_cell h rfl, whole_cell h rfl, whole_cell h rfl, whole_cell h rfl, whole_cell h rfl, whole_cell h rfl⟩
section
variable {ops : Array Oper} {o : Oper} {a : Act} {w : World} {K : Act → World → Prop} {Q : Exit → Act → World → Prop} {F : Prop}
theorem step_alloc_seen (d : Tmp) (hw : Region.wanted o (yielded ops a.tmps) = true) (ho : o.op = .alloc 33) (hd : o.dst = some d)
    (h : ∀ g w', w.heap.size = g → w'.heap[g]? = some (.cells (seenA (0, 0, 0, 0)) 33 (0, 0)) → Below w.heap.size w w' → K (a.put (some d) (.pointer (some ⟨g, 0, none⟩))) w') : if Region.wanted o (yielded ops a.tmps) = true then o.wp Tryz.prog a w K Q else F := by
  rw [if_pos hw]
  have hk := h w.heap.size (w.alloc (.cells (seenA (0, 0, 0, 0)) 33)) rfl (heap_alloc_new w _) ((Below.refl w.heap.size w).alloc (Nat.le_refl _) _)
  rw [← hd] at hk
  obtain ⟨dst, op, ty, pos, after, guard⟩ := o
  simp only at ho hk ⊢
  subst ho
  clear h hw
  generalize hw' : w.alloc (.cells (seenA (0, 0, 0, 0)) 33) = w' at hk
  go_simp
  exact hk
theorem step_st_seen (hw : Region.wanted o (yielded ops a.tmps) = true) (hd : o.dst = none) (x y : Operand) (ho : o.op = .store 33 x y) (g : Nat) (s : S) (hx : a.eval x = .pointer (some ⟨g, 0, none⟩)) (hy : a.eval y = seenV s) (old : Array Value) (hg : w.heap[g]? = some (.cells old 33 (0, 0))) (hold : old.size = 4)
    (h : ∀ w', w'.heap[g]? = some (.cells (seenA s) 33 (0, 0)) → Stirred w w' [g] → K a w') : if Region.wanted o (yielded ops a.tmps) = true then o.wp Tryz.prog a w K Q else F := by
  rw [if_pos hw]
  have hk := h _ (setRow_heap w g old (seenA s) 33 (0, 0) hg) (Stirred.setRow w g (seenA s))
  have hk : K (a.put o.dst undef) (w.setRow g (seenA s)) := by rw [hd]; exact hk
  exact wp_store_row 33 x y ho g (seenA s) hx hy 33 old hg seen_size (by rw [hold]; rfl) (by simp [seenA, Value.oneCell']) hk
end
section
variable {ops : Array Oper} {rest : List Oper} {o : Oper} {a : Act} {w : World} {Q : Exit → Act → World → Prop}
theorem ld_seen (hw : Region.wanted o (yielded ops a.tmps) = true) (x : Operand) (ho : o.op = .load 33 x) (g : Nat) (hx : a.eval x = .pointer (some ⟨g, 0, none⟩)) (s : S) (hg : w.heap[g]? = some (.cells (seenA s) 33 (0, 0)))
    (h : wpList Tryz.prog ops Q rest (a.put o.dst (seenV s)) w) : wpList Tryz.prog ops Q (o :: rest) a w :=
  wpList_getbox hw _ x ho _ Tryz.underlying33 rfl g hx (seenA s) _ hg seen_size h
theorem st_seen (hw : Region.wanted o (yielded ops a.tmps) = true) (x y : Operand) (ho : o.op = .store 33 x y) (g : Nat) (s : S) (hx : a.eval x = .pointer (some ⟨g, 0, none⟩)) (hy : a.eval y = seenV s) (old : Array Value) (hg : w.heap[g]? = some (.cells old 33 (0, 0))) (hold : old.size = 4)
    (h : ∀ w', w'.heap[g]? = some (.cells (seenA s) 33 (0, 0)) → Stirred w w' [g] → wpList Tryz.prog ops Q rest (a.put o.dst undef) w') : wpList Tryz.prog ops Q (o :: rest) a w :=
  wpList_setbox hw _ x y ho g (seenA s) hx hy old _ hg seen_size (by rw [hold]; rfl) (by simp [seenA, Value.oneCell']) h
/-- one number of a step's box is written -/
theorem st_seen_f (hw : Region.wanted o (yielded ops a.tmps) = true) (x y : Operand) (ho : o.op = .store 3 x y) (g j : Nat) (hx : a.eval x = .pointer (some ⟨g, j, none⟩)) (v : Int) (hy : a.eval y = .int .i64 v) (s s' : S) (hg : w.heap[g]? = some (.cells (seenA s) 33 (0, 0))) (hj : j < 4) (hs : (seenA s).setIfInBounds j (.int .i64 v) = seenA s')
    (h : ∀ w', w'.heap[g]? = some (.cells (seenA s') 33 (0, 0)) → Stirred w w' [g] → wpList Tryz.prog ops Q rest (a.put o.dst undef) w') : wpList Tryz.prog ops Q (o :: rest) a w :=
  wpList_setf hw _ x y ho int_size g j hx (.int .i64 v) hy rfl (seenA s) _ hg hj (by rw [hs]; exact h)
end
end Go.Proofs.YtlomfmilohbgpaaGreatDoor.Rec
/- Package record: a step as it is seen. -/
namespace Go.Proofs.YtlomfmilohbgpaaGreatDoor.Rec
open Go.RowKit Book Book.Wide Mem Mach Inn
set_option linter.unusedSimpArgs false
set_option linter.unusedVariables false
/-- behind the region: the new step's box -/
structure SeeP (w2 wx : World) (g r : Nat) (cs : Array Value) (s : S) : Prop where
  hb : Below w2.heap.size w2 wx
  hg : wx.heap[g]? = some (.cells cs 24 (0, 0))
  hr : wx.heap[r]? = some (.cells (seenA s) 33 (0, 0))
  low : w2.heap.size ≤ r
set_option maxHeartbeats 8000000 in
set_option maxRecDepth 100000 in
theorem see_any {w : World} {v : Value} {m : M} (h : ReadsM w v m) (nx : Int) : Calls Tryz.prog 16 #[v, .int .i64 nx] w (Says (seenV (see m nx)) w) := by
  have HV := Lib.hid h
  obtain ⟨vs, vb, vm, rfl, hs, hb, hm⟩ := h
  obtain ⟨s1, n1, d1, rfl⟩ := reads_known hs
  obtain ⟨s2, n2, d2, rfl⟩ := reads_known hb
  obtain ⟨s3, n3, d3, rfl⟩ := reads_known hm
  obtain ⟨ip, hh, st, bk, me, ou, inn, rd, stt, cd⟩ := m
  simp only at hs hb hm ⊢
  obtain ⟨w1, g, hw1, hg, HG, HB, HZ⟩ := newBox w (cells10 ip hh (.slice s1 n1 d1) (.slice s2 n2 d2) (.slice s3 n3 d3) ou inn rd stt cd) 24
  obtain ⟨w2, r, hw2, hr, HR, HB1, HZ2⟩ := newBox w1 (seenA (0, 0, 0, 0)) 33
  have HG2 := Lib.hid (boxOn HG.out HB1.out)
  have HB2 := Lib.hid (HB.out.trans (HB1.out.mono HB.out.size))
  have HGR := Lib.hid (show g < r ∧ w.heap.size ≤ g ∧ r < w2.heap.size by have h1 := HZ.out; have h2 := HZ2.out; have h3 := whole_lt HG.out; have h4 := whole_lt HR.out; omega)
  obtain ⟨M0, hM0⟩ : ∃ M0 : M, (⟨ip, hh, st, bk, me, ou, inn, rd, stt, cd⟩ : M) = M0 := ⟨_, rfl⟩
  have HM0 := Lib.hid hM0
  have HV2 := Lib.hid (show ReadsM w2 _ M0 from by have := HV.out.below HB2.out; rw [← hM0]; exact this)
  obtain ⟨c, hc⟩ : ∃ c, ld M0 ip = c := ⟨_, rfl⟩
  have HC := Lib.hid hc
  have HIP := Lib.hid (show M0.ip = ip by rw [← hM0])
  have HCa := Lib.hid (fun wc (hb : Below w2.heap.size w2 wc) (a : Int) => load_any (HV2.out.below hb) a)
  have HX := Lib.hid (show Below w2.heap.size w2 w2.drew from (Below.refl _ _).drew)
  have H14 := Lib.hid (show w2.drew.heap[g]? = _ from HG2.out)
  clear hs hb hm hM0 hc
  go_enter Tryz.func16, Tryz.ntmps16
  go_upto_region 1 with fail
  clear hw1 hw2 hg hr
  go_cut [5] (fun x wx => ∃ r5, x = .pointer (some ⟨r5, 0, none⟩) ∧ Hid (SeeP w2 wx g r5 (cells10 ip hh (.slice s1 n1 d1) (.slice s2 n2 d2) (.slice s3 n3 d3) ou inn rd stt cd) (ip, c, 0, nx)))
  case first =>
    refine wp_region_held (S := fun w' => w'.cell? ⟨g, 0, none⟩ = some (.int .i64 ip) ∧ w'.cell? ⟨g, 1, none⟩ = some (.int .i64 hh) ∧ w'.cell? ⟨g, 2, none⟩ = some (.slice s1 n1 d1) ∧ w'.cell? ⟨g, 3, none⟩ = some (.slice s2 n2 d2) ∧ w'.cell? ⟨g, 4, none⟩ = some (.slice s3 n3 d3) ∧ w'.cell? ⟨g, 5, none⟩ = some (.string ou) ∧ w'.cell? ⟨g, 6, none⟩ = some (.string inn) ∧ w'.cell? ⟨g, 7, none⟩ = some (.int .i64 rd) ∧ w'.cell? ⟨g, 8, none⟩ = some (.int .i64 stt) ∧ w'.cell? ⟨g, 9, none⟩ = some (.int .i64 cd)) (by kernel_rfl) ?_
    change wpAnyH _ _ _ _ _ _ _ _ (World.drew w2)
    refine wpAnyH_take (i := 0) (oi := ⟨some 6, _, _, _, _, _⟩) (v := ?_) rfl (by kernel_rfl) (by kernel_rfl) (by kernel_rfl) (fun _ _ _ h => h) (Or.inl ⟨by rfl, ?_⟩) (cells_ten H14.out) ?_
    rotate_left
    · intro w hSw
      (try dsimp only at hSw)
      go_simp
      try with_reducible rfl
    try simp only [Act.put, List.setIfInBounds_toArray, List.set_cons_zero, List.set_cons_succ]
    refine wpAnyH_take (i := 1) (oi := ⟨some 7, _, _, _, _, _⟩) (v := ?_) rfl (by kernel_rfl) (by kernel_rfl) (by kernel_rfl) (fun _ _ _ h => h) (Or.inl ⟨by rfl, ?_⟩) (cells_ten H14.out) ?_
    rotate_left
    · intro w hSw
      (try dsimp only at hSw)
      go_simp
      try with_reducible rfl
    try simp only [Act.put, List.setIfInBounds_toArray, List.set_cons_zero, List.set_cons_succ]
    refine wpAnyH_take (i := 2) (oi := ⟨some 8, _, _, _, _, _⟩) (v := ?_) rfl (by kernel_rfl) (by kernel_rfl) (by kernel_rfl) (fun _ _ _ h => h) (Or.inl ⟨by rfl, ?_⟩) (cells_ten H14.out) ?_
    rotate_left
    · intro w hSw
      (try dsimp only at hSw)
      go_simp
      try with_reducible rfl
    try simp only [Act.put, List.setIfInBounds_toArray, List.set_cons_zero, List.set_cons_succ]
    refine wpAnyH_take (i := 3) (oi := ⟨some 9, _, _, _, _, _⟩) (v := ?_) rfl (by kernel_rfl) (by kernel_rfl) (by kernel_rfl) (fun _ _ _ h => h) (Or.inl ⟨by rfl, ?_⟩) (cells_ten H14.out) ?_
    rotate_left
    · intro w hSw
      (try dsimp only at hSw)
      go_simp
      try with_reducible rfl
    try simp only [Act.put, List.setIfInBounds_toArray, List.set_cons_zero, List.set_cons_succ]
    refine wpAnyH_take (i := 4) (oi := ⟨some 10, _, _, _, _, _⟩) (v := ?_) rfl (by kernel_rfl) (by kernel_rfl) (by kernel_rfl) (fun _ _ _ h => h) (Or.inl ⟨by rfl, ?_⟩) (cells_ten H14.out) ?_
    rotate_left
    · intro w hSw
      (try dsimp only at hSw)
      go_simp
      try with_reducible rfl
    try simp only [Act.put, List.setIfInBounds_toArray, List.set_cons_zero, List.set_cons_succ]
    refine wpAnyH_take (i := 6) (oi := ⟨some 12, _, _, _, _, _⟩) (v := ?_) rfl (by kernel_rfl) (by kernel_rfl) (by kernel_rfl) (fun _ _ _ h => h) (Or.inl ⟨by rfl, ?_⟩) (cells_ten H14.out) ?_
    rotate_left
    · intro w hSw
      (try dsimp only at hSw)
      go_simp
      try with_reducible rfl
    try simp only [Act.put, List.setIfInBounds_toArray, List.set_cons_zero, List.set_cons_succ]
    refine wpAnyH_ready (rs := [5, 8]) (by kernel_rfl) (by simp) ?_
    refine AllReadyH.cons rfl (fun K hK => ?_) ?_
    · go_simp
      go_at_call 24
      refine (HCa.out _ HX.out ip).mono ?_
      rintro e wn ⟨rfl, hb⟩
      have H14 := Lib.hid (boxOn H14.out hb)
      have HX := Lib.hid (HX.out.trans (hb.mono HX.out.size))
      clear hb
      rw [HC.out]
      go_wp2_with fail
      refine hK.out _ _ (cells_ten H14.out) (fun hHeld => ?_)
      clear hK K hHeld
      try simp only [Act.put, List.setIfInBounds_toArray, List.set_cons_zero, List.set_cons_succ]
      refine wpAnyH_take (i := 7) (oi := ⟨some 13, _, _, _, _, _⟩) (v := ?_) rfl (by kernel_rfl) (by kernel_rfl) (by kernel_rfl) (fun _ _ _ h => h) (Or.inl ⟨by rfl, ?_⟩) (cells_ten H14.out) ?_
      rotate_left
      · intro w hSw
        (try dsimp only at hSw)
        go_simp
        try with_reducible rfl
      try simp only [Act.put, List.setIfInBounds_toArray, List.set_cons_zero, List.set_cons_succ]
      refine wpAnyH_ready (rs := [8]) (by kernel_rfl) (by simp) ?_
      refine AllReadyH.cons rfl (fun K hK => ?_) ?_
      · refine step_alloc_seen 5 (by rfl) rfl rfl ?_
        intro r5 wn hg hnew hb
        have N5 := Lib.hid (show w2.heap.size ≤ r5 by rw [← hg]; exact HX.out.size)
        have H14 := Lib.hid (boxOn H14.out hb)
        have HX := Lib.hid (HX.out.trans (hb.mono HX.out.size))
        have A5 := Lib.hid hnew
        clear hg hnew hb
        refine hK.out _ _ (cells_ten H14.out) (fun hHeld => ?_)
        clear hK K hHeld
        try simp only [Act.put, List.setIfInBounds_toArray, List.set_cons_zero, List.set_cons_succ]
        refine wpAnyH_ready (rs := [9]) (by kernel_rfl) (by simp) ?_
        refine AllReadyH.cons rfl (fun K hK => ?_) ?_
        · refine step_st_seen (by rfl) rfl _ _ rfl r5 (ip, c, 0, nx) rfl rfl _ A5.out rfl ?_
          intro wp h5 ht
          have hlow : ∀ k ∈ [r5], w2.heap.size ≤ k := fun k hk => by rw [List.mem_singleton.1 hk]; exact N5.out
          have H14 := Lib.hid (ht.whole H14.out (fun hm => by have h1 := N5.out; have h2 := HGR.out; rw [List.mem_singleton] at hm; omega))
          have HF := Lib.hid (show SeeP w2 wp g r5 _ (ip, c, 0, nx) from ⟨HX.out.trans (ht.below hlow HX.out.size), H14.out, h5, N5.out⟩)
          clear ht h5 hlow
          refine hK.out _ _ (cells_ten H14.out) (fun hHeld => ?_)
          clear hK K hHeld
          try simp only [Act.put, List.setIfInBounds_toArray, List.set_cons_zero, List.set_cons_succ]
          refine wpAnyH_done (by kernel_rfl) ?_ _
          first | go_meet | (go_wp2_with fail; go_meet)
          exact ⟨_, rfl, HF⟩
        · exact AllReadyH.nil
      exact AllReadyH.nil
    refine AllReadyH.cons rfl (fun K hK => ?_) ?_
    · refine step_alloc_seen 5 (by rfl) rfl rfl ?_
      intro r5 wn hg hnew hb
      have N5 := Lib.hid (show w2.heap.size ≤ r5 by rw [← hg]; exact HX.out.size)
      have H14 := Lib.hid (boxOn H14.out hb)
      have HX := Lib.hid (HX.out.trans (hb.mono HX.out.size))
      have A5 := Lib.hid hnew
      clear hg hnew hb
      refine hK.out _ _ (cells_ten H14.out) (fun hHeld => ?_)
      clear hK K hHeld
      try simp only [Act.put, List.setIfInBounds_toArray, List.set_cons_zero, List.set_cons_succ]
      refine wpAnyH_ready (rs := [5]) (by kernel_rfl) (by simp) ?_
      refine AllReadyH.cons rfl (fun K hK => ?_) ?_
      · go_simp
        go_at_call 24
        refine (HCa.out _ HX.out ip).mono ?_
        rintro e wn ⟨rfl, hb⟩
        have A5 := Lib.hid (boxOn A5.out hb)
        have H14 := Lib.hid (boxOn H14.out hb)
        have HX := Lib.hid (HX.out.trans (hb.mono HX.out.size))
        clear hb
        rw [HC.out]
        go_wp2_with fail
        refine hK.out _ _ (cells_ten H14.out) (fun hHeld => ?_)
        clear hK K hHeld
        try simp only [Act.put, List.setIfInBounds_toArray, List.set_cons_zero, List.set_cons_succ]
        refine wpAnyH_take (i := 7) (oi := ⟨some 13, _, _, _, _, _⟩) (v := ?_) rfl (by kernel_rfl) (by kernel_rfl) (by kernel_rfl) (fun _ _ _ h => h) (Or.inl ⟨by rfl, ?_⟩) (cells_ten H14.out) ?_
        rotate_left
        · intro w hSw
          (try dsimp only at hSw)
          go_simp
          try with_reducible rfl
        try simp only [Act.put, List.setIfInBounds_toArray, List.set_cons_zero, List.set_cons_succ]
        refine wpAnyH_ready (rs := [9]) (by kernel_rfl) (by simp) ?_
        refine AllReadyH.cons rfl (fun K hK => ?_) ?_
        · refine step_st_seen (by rfl) rfl _ _ rfl r5 (ip, c, 0, nx) rfl rfl _ A5.out rfl ?_
          intro wp h5 ht
          have hlow : ∀ k ∈ [r5], w2.heap.size ≤ k := fun k hk => by rw [List.mem_singleton.1 hk]; exact N5.out
          have H14 := Lib.hid (ht.whole H14.out (fun hm => by have h1 := N5.out; have h2 := HGR.out; rw [List.mem_singleton] at hm; omega))
          have HF := Lib.hid (show SeeP w2 wp g r5 _ (ip, c, 0, nx) from ⟨HX.out.trans (ht.below hlow HX.out.size), H14.out, h5, N5.out⟩)
          clear ht h5 hlow
          refine hK.out _ _ (cells_ten H14.out) (fun hHeld => ?_)
          clear hK K hHeld
          try simp only [Act.put, List.setIfInBounds_toArray, List.set_cons_zero, List.set_cons_succ]
          refine wpAnyH_done (by kernel_rfl) ?_ _
          first | go_meet | (go_wp2_with fail; go_meet)
          exact ⟨_, rfl, HF⟩
        · exact AllReadyH.nil
      exact AllReadyH.nil
    exact AllReadyH.nil
  case rest =>
    obtain ⟨r5, rfl, HP⟩ := hcut
    have HB3 := Lib.hid (HB2.out.trans (HP.out.hb.mono HB2.out.size))
    have e0 : wc.cell? ⟨r5, 0, none⟩ = some (.int .i64 ip) := whole_cell HP.out.hr rfl
    have f0 : wc.cell? ⟨g, 0, none⟩ = some (.int .i64 ip) := whole_cell HP.out.hg rfl
    have e1 : wc.cell? ⟨r5, 1, none⟩ = some (.int .i64 c) := whole_cell HP.out.hr rfl
    have A := Lib.hid (opArg_same c wc)
    have HR3 := Lib.hid (boxOn HR.out HP.out.hb)
    clear HCa HX H14
    by_cases ha : argI c = true
    · rw [ha] at A
      obtain ⟨ar, har⟩ : ∃ ar, ld M0 (wrap64 (ip + 1)) = ar := ⟨_, rfl⟩
      have D := Lib.hid (load_any (HV2.out.below HP.out.hb) (wrap64 (ip + 1)))
      rw [har] at D
      have HS := Lib.hid (show see M0 nx = (ip, c, ar, nx) by unfold see; rw [HIP.out, HC.out, if_pos ha, har])
      clear ha har
      go_wp2_with fail
      refine A.out.mono ?_
      rintro e wz ⟨rfl, hwz⟩
      subst wz
      clear A
      go_wp2_with (refine ld_state (by rfl) _ rfl _ rfl _ _ HP.out.hg rfl ?_)
      refine D.out.mono ?_
      rintro e w4 ⟨rfl, hb⟩
      have HX5 := Lib.hid (boxOn HP.out.hr hb)
      have HR4 := Lib.hid (boxOn HR3.out hb)
      have HB4 := Lib.hid (HB3.out.trans (hb.mono HB3.out.size))
      have N5 := Lib.hid (show r ≠ r5 ∧ w.heap.size ≤ r5 ∧ w.heap.size ≤ r by have h1 := HP.out.low; have h2 := HGR.out; have h3 := HB2.out.size; omega)
      clear hb D e0 e1 f0
      go_wp2_with (first
        | (refine st_seen_f (by rfl) _ _ rfl r5 2 rfl ar rfl (ip, c, 0, nx) (ip, c, ar, nx) HX5.out (by decide) rfl ?_; intro w5 h5 ht5; have HX6 := Lib.hid h5; have HR6 := Lib.hid (ht5.whole HR4.out (fun hm => N5.out.1 (by simpa using hm))); have HB6 := Lib.hid (HB4.out.trans (ht5.below (fun k hk => by rw [List.mem_singleton.1 hk]; exact N5.out.2.1) HB4.out.size)); clear h5 ht5)
        | (refine ld_seen (by rfl) _ rfl r5 rfl (ip, c, ar, nx) HX6.out ?_)
        | (refine st_seen (by rfl) _ _ rfl r (ip, c, ar, nx) rfl rfl _ HR6.out rfl ?_; intro wf hrf htf; have HRF := Lib.hid hrf; have HBF := Lib.hid (HB6.out.trans (htf.below (fun k hk => by rw [List.mem_singleton.1 hk]; exact N5.out.2.2) HB6.out.size)); clear hrf htf))
      refine bodyPost_ret (results_cell_row rfl _ _ r _ _ _ _ rfl HRF.out Tryz.underlying33 rfl seen_size) rfl ?_
      exact ⟨by rw [HM0.out, HS.out], HBF.out⟩
    · have ha' : argI c = false := by simpa using ha
      rw [ha'] at A
      have HS := Lib.hid (show see M0 nx = (ip, c, 0, nx) by unfold see; rw [HIP.out, HC.out, if_neg ha])
      have N5 := Lib.hid (show w.heap.size ≤ r by have h2 := HGR.out; omega)
      clear ha ha'
      go_wp2_with fail
      refine A.out.mono ?_
      rintro e wz ⟨rfl, hwz⟩
      subst wz
      clear A
      have HXP := Lib.hid HP.out.hr
      go_wp2_with (first
        | (refine ld_seen (by rfl) _ rfl r5 rfl (ip, c, 0, nx) HXP.out ?_)
        | (refine st_seen (by rfl) _ _ rfl r (ip, c, 0, nx) rfl rfl _ HR3.out rfl ?_; intro wf hrf htf; have HRF := Lib.hid hrf; have HBF := Lib.hid (HB3.out.trans (htf.below (fun k hk => by rw [List.mem_singleton.1 hk]; exact N5.out) HB3.out.size)); clear hrf htf))
      refine bodyPost_ret (results_cell_row rfl _ _ r _ _ _ _ rfl HRF.out Tryz.underlying33 rfl seen_size) rfl ?_
      exact ⟨by rw [HM0.out, HS.out], HBF.out⟩
end Go.Proofs.YtlomfmilohbgpaaGreatDoor.Rec
/- Lists of structs: 'append' of what is read, wherever it lies; shorter lists; no program in sight. -/
namespace Go.Proofs.YtlomfmilohbgpaaGreatDoor.Book.Wide
open Go.RowKit
set_option linter.unusedVariables false
/-- what a slice reads as, cell for cell, wherever it lies -/
def ReadsK (w : World) (sz : Nat) (v : Value) (ys : List Value) : Prop := ∃ ao n cap, v = .slice ao n cap ∧ ys.length = n * sz ∧ ∀ j x, ys[j]? = some x → ∃ a, ao = some a ∧ w.cell? (a.add j) = some x
theorem ReadsK.below {w w' : World} {sz : Nat} {v : Value} {ys : List Value} (h : ReadsK w sz v ys) (hb : Below w.heap.size w w') : ReadsK w' sz v ys := by
  obtain ⟨ao, n, cap, e, hl, hc⟩ := h
  refine ⟨ao, n, cap, e, hl, fun j x hj => ?_⟩
  obtain ⟨a, ha, hx⟩ := hc j x hj
  exact ⟨a, ha, by rw [hb.cell (p := a.add j) (World.block_lt_of_cell? w _ hx)]; exact hx⟩
theorem ReadsK.of_owns {w : World} {B E sz : Nat} {v : Value} {xs : List Value} (h : OwnsK w B E sz v xs) (hsz : 0 < sz) : ReadsK w sz v xs := by
  rcases h.form with ⟨ao, e, hx⟩ | ⟨g, n, cap, e, hc, hl⟩
  · subst hx
    exact ⟨ao, 0, 0, e, by simp, fun j x hj => by cases hj⟩
  · rcases Nat.eq_zero_or_pos n with h0 | h0
    · subst h0
      refine ⟨_, 0, cap, e, hl, fun j x hj => ?_⟩
      have := (List.getElem?_eq_some_iff.1 hj).1
      omega
    · obtain ⟨g', c', e', hcell, _, _⟩ := h.row hl hsz h0
      rw [e] at e'
      simp only [Value.slice.injEq, Option.some.injEq, Addr.mk.injEq, and_true, true_and] at e'
      obtain ⟨rfl, rfl⟩ := e'
      exact ⟨_, n, cap, e, hl, fun j x hj => ⟨_, rfl, by rw [add_row]; exact hcell j x hj⟩⟩
/-- one element that a block is -/
theorem ReadsK.of_whole {w : World} {g sz T : Nat} {cs : List Value} {cap : Nat} (h : w.heap[g]? = some (.cells cs.toArray T (0, 0))) (hl : cs.length = sz) : ReadsK w sz (.slice (some ⟨g, 0, none⟩) 1 cap) cs :=
  ⟨_, 1, cap, rfl, by omega, fun j x hj => ⟨_, rfl, by rw [add_row]; exact whole_cell h (by simpa using hj)⟩⟩
/-- a shorter list in the same row -/
theorem OwnsK.shorter {w : World} {B E sz n m cap : Nat} {ao : Option Addr} {xs : List Value} (h : OwnsK w B E sz (.slice ao n cap) xs) (hsz : 0 < sz) (hm : m ≤ n) : OwnsK w B E sz (.slice ao m cap) (xs.take (m * sz)) := by
  rcases h with ⟨a, h1, h2⟩ | ⟨g, n', cap', cur, h1, h0, h2, h3, hl, h4, h5, h6, h7⟩
  · simp only [Value.slice.injEq] at h1
    obtain ⟨rfl, rfl, rfl⟩ := h1
    obtain rfl : m = 0 := by omega
    subst h2
    exact .inl ⟨_, rfl, by simp⟩
  · simp only [Value.slice.injEq] at h1
    obtain ⟨rfl, rfl, rfl⟩ := h1
    have hle : m * sz ≤ n * sz := Nat.mul_le_mul_right _ hm
    refine .inr ⟨g, m, cap, cur, rfl, h0, h2, h3, by rw [List.length_take]; omega, by omega, h5, h6, ?_⟩
    have := congrArg (List.take (m * sz)) h7
    rw [List.take_take, Nat.min_eq_left hle] at this
    exact this
/-- 'append(v, u...)' onto a list of one's own -/
theorem wp_append_reads {P : Program} (w : World) {o : Oper} {a : Act} {K : Act → World → Prop} {Q : Exit → Act → World → Prop} (s x : Operand) (t : TypeId)
    (ho : o.op = .call { callee := .builtin .append, args := #[s, x], argTypes := #[t, t] })
    (B E sz : Nat) (i : TypeInfo) (z : Value) (bytes : Nat) (ht : P.underlying t = some (.slice E)) (hi : P.info? E = some i) (hz : i.zero = some z) (hsize : i.size = sz) (hby : i.bytes = bytes) (hzs : z.cells.size = sz) (hsz : 0 < sz)
    (v : Value) (n : Nat) (xs : List Value) (hs : a.eval s = v) (hown : OwnsK w B E sz v xs) (hn : xs.length = n * sz)
    (u : Value) (m : Nat) (ys : List Value) (hx : a.eval x = u) (hu : ReadsK w sz u ys) (hm : ys.length = m * sz) (h1 : ∀ y ∈ ys, y.oneCell' = true)
    (h63 : n + m ≤ maxLen) (hbytes : (n + m) * bytes ≤ 140737488355328) (hbase : B ≤ w.heap.size)
    (h : ∀ v' w', OwnsK w' B E sz v' (xs ++ ys) → OwnsK w' B E sz v xs → Stirred w w' (blk v).toList → ((blk v') = (blk v) ∨ ∃ k, (blk v') = some k ∧ w.heap.size ≤ k) → K (a.put o.dst v') w') : o.wp P a w K Q := by
  obtain ⟨uo, m', uc, rfl, hl, hc⟩ := hu
  obtain rfl : m' = m := Nat.eq_of_mul_eq_mul_right hsz (by omega)
  by_cases h0 : m' = 0
  · subst h0
    have hy : ys = [] := List.eq_nil_of_length_eq_zero (by omega)
    subst hy
    obtain ⟨vo, vc, hle, rfl⟩ : ∃ vo vc, n ≤ vc ∧ v = .slice vo n vc := by
      rcases hown with ⟨ao, h2, h3⟩ | ⟨g, n', cap, cur, h2, h0, _, _, hl', h3, _⟩
      · subst h3
        have : n = 0 := by
          rcases Nat.eq_zero_or_pos n with h | h
          · exact h
          · have := Nat.mul_pos h hsz; simp at hn; omega
        exact ⟨ao, 0, by omega, by rw [h2, this]⟩
      · have : n' = n := Nat.eq_of_mul_eq_mul_right hsz (by omega)
        exact ⟨some ⟨g, 0, none⟩, cap, by omega, by rw [h2, this]⟩
    have hr := run_append_empty (P := P) w t o.type E i ht hi vo uo n vc uc hle
    unfold Oper.wp execOp
    simp only [ho, resolve, invoke, builtin, Sem.run_bind, Sem.run_pure, Result.andThen_ok, List.map_toArray, List.map_cons, List.map_nil, hs, hx, hr]
    exact h _ w (by rw [List.append_nil]; exact hown) hown (Stirred.refl _ _) (.inl rfl)
  · have hpos : 0 < ys.length := by rw [hm]; exact Nat.mul_pos (by omega) hsz
    obtain ⟨a0, rfl, _⟩ := hc 0 ys[0] (List.getElem?_eq_getElem hpos)
    obtain ⟨v', w', hr, h2, h3, h4, h5⟩ := run_append_two (P := P) w B t o.type E sz i z bytes ht hi hz hsize hby hzs hsz v n xs hown hn a0 m' uc ys hm (fun j y hj => by
      obtain ⟨a', e', hc'⟩ := hc j y hj
      simp only [Option.some.injEq] at e'
      subst e'
      exact hc') h1 (by omega) h63 hbytes hbase
    unfold Oper.wp execOp
    simp only [ho, resolve, invoke, builtin, Sem.run_bind, Sem.run_pure, Result.andThen_ok, List.map_toArray, List.map_cons, List.map_nil, hs, hx, hr]
    exact h v' w' h2 h3 h4 h5
theorem step_append_reads {P : Program} {w : World} {ops : Array Oper} {o : Oper} {a : Act} {K : Act → World → Prop} {Q : Exit → Act → World → Prop} {F : Prop} (hw : Region.wanted o (yielded ops a.tmps) = true) (s x : Operand) (t : TypeId)
    (ho : o.op = .call { callee := .builtin .append, args := #[s, x], argTypes := #[t, t] })
    (B E sz : Nat) (i : TypeInfo) (z : Value) (bytes : Nat) (ht : P.underlying t = some (.slice E)) (hi : P.info? E = some i) (hz : i.zero = some z) (hsize : i.size = sz) (hby : i.bytes = bytes) (hzs : z.cells.size = sz) (hsz : 0 < sz)
    (v : Value) (n : Nat) (xs : List Value) (hs : a.eval s = v) (hown : OwnsK w B E sz v xs) (hn : xs.length = n * sz)
    (u : Value) (m : Nat) (ys : List Value) (hx : a.eval x = u) (hu : ReadsK w sz u ys) (hm : ys.length = m * sz) (h1 : ∀ y ∈ ys, y.oneCell' = true)
    (h63 : n + m ≤ maxLen) (hbytes : (n + m) * bytes ≤ 140737488355328) (hbase : B ≤ w.heap.size)
    (h : ∀ v' w', OwnsK w' B E sz v' (xs ++ ys) → OwnsK w' B E sz v xs → Stirred w w' (blk v).toList → ((blk v') = (blk v) ∨ ∃ k, (blk v') = some k ∧ w.heap.size ≤ k) → K (a.put o.dst v') w') : if Region.wanted o (yielded ops a.tmps) = true then o.wp P a w K Q else F := by
  rw [if_pos hw]
  exact wp_append_reads w s x t ho B E sz i z bytes ht hi hz hsize hby hzs hsz v n xs hs hown hn u m ys hx hu hm h1 h63 hbytes hbase h
theorem wpList_append_reads {P : Program} {w : World} {ops : Array Oper} {rest : List Oper} {o : Oper} {a : Act} {Q : Exit → Act → World → Prop} (hgd : o.guard = none) (s x : Operand) (t : TypeId)
    (ho : o.op = .call { callee := .builtin .append, args := #[s, x], argTypes := #[t, t] })
    (B E sz : Nat) (i : TypeInfo) (z : Value) (bytes : Nat) (ht : P.underlying t = some (.slice E)) (hi : P.info? E = some i) (hz : i.zero = some z) (hsize : i.size = sz) (hby : i.bytes = bytes) (hzs : z.cells.size = sz) (hsz : 0 < sz)
    (v : Value) (n : Nat) (xs : List Value) (hs : a.eval s = v) (hown : OwnsK w B E sz v xs) (hn : xs.length = n * sz)
    (u : Value) (m : Nat) (ys : List Value) (hx : a.eval x = u) (hu : ReadsK w sz u ys) (hm : ys.length = m * sz) (h1 : ∀ y ∈ ys, y.oneCell' = true)
    (h63 : n + m ≤ maxLen) (hbytes : (n + m) * bytes ≤ 140737488355328) (hbase : B ≤ w.heap.size)
    (h : ∀ v' w', OwnsK w' B E sz v' (xs ++ ys) → OwnsK w' B E sz v xs → Stirred w w' (blk v).toList → ((blk v') = (blk v) ∨ ∃ k, (blk v') = some k ∧ w.heap.size ≤ k) → wpList P ops Q rest (a.put o.dst v') w') : wpList P ops Q (o :: rest) a w := by
  refine wpList_plain hgd fun K hK => ?_
  exact wp_append_reads w s x t ho B E sz i z bytes ht hi hz hsize hby hzs hsz v n xs hs hown hn u m ys hx hu hm h1 h63 hbytes hbase (fun v' w' h2 h3 h4 h5 => hK _ _ (h v' w' h2 h3 h4 h5))
end Go.Proofs.YtlomfmilohbgpaaGreatDoor.Book.Wide
/- Package record: a recording that is made. -/
namespace Go.Proofs.YtlomfmilohbgpaaGreatDoor.Rec
open Go.RowKit Book Book.Wide Mem Mach Inn
set_option linter.unusedSimpArgs false
set_option linter.unusedVariables false
abbrev tapeA (most : Nat) (r : R) (v : Value) : Array Value := #[.int .i64 (most : Int), .int .i64 r.start, .int .i64 r.last, .bool r.loop, v]
theorem Tryz.seenInfo : (Tryz.prog.info? 33).map (fun i => (i.zero, i.size, i.bytes)) = some (some (seenV (0, 0, 0, 0)), 4, 32) := by kernel_rfl
theorem seen_len (l : List S) : (l.flatMap seenCells).length = l.length * 4 := flat_length (enc := seenCells) (k := 4) (fun _ => rfl) l
theorem seen_one (l : List S) : ∀ u ∈ l.flatMap seenCells, u.oneCell' = true := by
  intro u hu
  obtain ⟨x, _, hx⟩ := List.mem_flatMap.1 hu
  simp only [seenCells, List.mem_cons, List.not_mem_nil, or_false] at hx
  rcases hx with rfl | rfl | rfl | rfl <;> rfl
/-- a tape: its pointer leads to block p; all of it lies in the blocks bs -/
structure TAt (w : World) (B p : Nat) (bs : List Nat) (most : Nat) (r : R) : Prop where
  box : ∃ v, w.heap[p]? = some (.cells (tapeA most r v) 42 (0, 0)) ∧ OwnsK w B 33 4 v (r.steps.flatMap seenCells) ∧ bs = p :: (blk v).toList
  low : B ≤ p
  few : r.steps.length ≤ 1000
section
variable {w w' : World} {B p most : Nat} {bs ds : List Nat} {r : R}
theorem TAt.lt (h : TAt w B p bs most r) : ∀ k ∈ bs, B ≤ k ∧ k < w.heap.size := by
  obtain ⟨v, h1, h2, rfl⟩ := h.box
  intro k hk
  rcases List.mem_cons.1 hk with rfl | hk
  · exact ⟨h.low, whole_lt h1⟩
  · have := h2.block k (by simpa using hk); exact ⟨this.1, this.2.1⟩
theorem TAt.touch (h : TAt w B p bs most r) (hs : Stirred w w' ds) (hd : ∀ k ∈ bs, k ∉ ds) : TAt w' B p bs most r := by
  obtain ⟨v, h1, h2, rfl⟩ := h.box
  exact ⟨⟨v, hs.whole h1 (hd p (by simp)), h2.touch hs (fun k hk => hd k (by simp [hk])), rfl⟩, h.low, h.few⟩
theorem TAt.below (h : TAt w B p bs most r) (hb : Below w.heap.size w w') : TAt w' B p bs most r := h.touch (Stirred.of_below hb []) (fun _ _ => List.not_mem_nil)
theorem tape_off {v : Value} {xs : List Value} {T : Array Value} (h1 : w.heap[p]? = some (.cells T 42 (0, 0))) (h2 : OwnsK w B 33 4 v xs) : ∀ k, blk v = some k → k ≠ p := by
  intro k hk
  obtain ⟨_, _, c, hc⟩ := h2.block k hk
  rintro rfl
  rw [hc] at h1
  simp only [Option.some.injEq, Obj.cells.injEq] at h1
  exact absurd h1.2.1 (by decide)
theorem TAt.pIn (h : TAt w B p bs most r) : p ∈ bs := by obtain ⟨v, _, _, rfl⟩ := h.box; exact List.mem_cons_self
/-- it is known to be a loop -/
theorem TAt.looped (h : TAt w B p bs most r) (b : Bool) : TAt (w.setCell ⟨p, 3, none⟩ (.bool b)) B p bs most { r with loop := b } ∧ Stirred w (w.setCell ⟨p, 3, none⟩ (.bool b)) bs := by
  obtain ⟨v, h1, h2, rfl⟩ := h.box
  have hs := Stirred.setCell w ⟨p, 3, none⟩ (.bool b)
  exact ⟨⟨⟨v, whole_set h1 3 (.bool b), h2.touch hs (fun k hk hm => tape_off h1 h2 k hk (by simpa using hm)), rfl⟩, h.low, h.few⟩, hs.more (fun k hk => by rw [List.mem_singleton.1 hk]; exact List.mem_cons_self)⟩
/-- where it ends -/
theorem TAt.ended (h : TAt w B p bs most r) (z : Int) : TAt (w.setCell ⟨p, 2, none⟩ (.int .i64 z)) B p bs most { r with last := z } ∧ Stirred w (w.setCell ⟨p, 2, none⟩ (.int .i64 z)) bs := by
  obtain ⟨v, h1, h2, rfl⟩ := h.box
  have hs := Stirred.setCell w ⟨p, 2, none⟩ (.int .i64 z)
  exact ⟨⟨⟨v, whole_set h1 2 (.int .i64 z), h2.touch hs (fun k hk hm => tape_off h1 h2 k hk (by simpa using hm)), rfl⟩, h.low, h.few⟩, hs.more (fun k hk => by rw [List.mem_singleton.1 hk]; exact List.mem_cons_self)⟩
/-- one step more, behind what an append made of its row -/
theorem tape_longer {w4 : World} {v v' : Value} {x : S} (h1 : w.heap[p]? = some (.cells (tapeA most r v) 42 (0, 0))) (h2 : OwnsK w B 33 4 v (r.steps.flatMap seenCells)) (low : B ≤ p) (hS : Stirred w w4 (blk v).toList) (hO : OwnsK w4 B 33 4 v' (r.steps.flatMap seenCells ++ seenCells x)) (few : r.steps.length + 1 ≤ 1000) :
    TAt (w4.setCell ⟨p, 4, none⟩ v') B p (p :: (blk v').toList) most { r with steps := r.steps ++ [x] } ∧ Stirred w (w4.setCell ⟨p, 4, none⟩ v') (p :: (blk v).toList) := by
  have hp4 := hS.whole h1 (fun hm => tape_off h1 h2 p (by simpa using hm) rfl)
  have hs := Stirred.setCell w4 ⟨p, 4, none⟩ v'
  refine ⟨⟨⟨v', whole_set hp4 4 v', ?_, rfl⟩, low, by rw [List.length_append]; exact few⟩, (hS.more (fun k hk => List.mem_cons_of_mem _ hk)).trans hs (fun k hk => .inl (by rw [List.mem_singleton.1 hk]; exact List.mem_cons_self))⟩
  show OwnsK _ B 33 4 v' ((r.steps ++ [x]).flatMap seenCells)
  rw [List.flatMap_append, show [x].flatMap seenCells = seenCells x by simp]
  exact hO.touch hs (fun k hk hm => tape_off hp4 hO k hk (by simpa using hm))
end
/-- is the machine back where the recording began? -/
def backB (r : R) (x : S) : Bool := decide (r.steps ≠ [] ∧ x.1 = r.start)
def endsB (most : Nat) (r : R) (x : S) (st : Int) : Bool := backB r x || (decide (most ≤ r.steps.length) || (decide (st ≠ 0) || !fit x))
section
variable {w : World} {B p most : Nat} {bs : List Nat} {r : R}
set_option maxHeartbeats 4000000 in
theorem ends_any (h : TAt w B p bs most r) (x : S) (st : Int) : Calls Tryz.prog 17 #[.pointer (some ⟨p, 0, none⟩), seenV x, .int .i64 st] w fun e w' => e = .returned (.bool (endsB most r x st)) ∧ TAt w' B p bs most { r with loop := r.loop || backB r x } ∧ Stirred w w' bs := by
  obtain ⟨x1, x2, x3, x4⟩ := x
  obtain ⟨w1, g, hw1, hg, HG, HB, HZ⟩ := newBox w (seenA (x1, x2, x3, x4)) 33
  have HA := Lib.hid h
  have HA1 := Lib.hid (h.below HB.out)
  have HPN := Lib.hid h.pIn
  obtain ⟨v, hb1, hb2, hb3⟩ := HA1.out.box
  obtain ⟨n, hn⟩ : ∃ n, r.steps.length = n := ⟨_, rfl⟩
  obtain ⟨so, sc, rfl⟩ := hb2.slice (seen_len r.steps) (by decide)
  have HN := Lib.hid hn
  rw [hn] at hb1
  obtain ⟨s0, e0, l0, ls⟩ := r
  simp only at hn hb1
  have m0 : w1.cell? ⟨p, 0, none⟩ = some (.int .i64 (most : Int)) := whole_cell hb1 rfl
  have m1 : w1.cell? ⟨p, 1, none⟩ = some (.int .i64 s0) := whole_cell hb1 rfl
  have m3 : w1.cell? ⟨p, 3, none⟩ = some (.bool l0) := whole_cell hb1 rfl
  have m4 : w1.cell? ⟨p, 4, none⟩ = some (.slice so n sc) := whole_cell hb1 rfl
  have f3 : w1.frozen? ⟨p, 3, none⟩ = false := whole_frozen hb1 3
  have c0 : w1.cell? ⟨g, 0, none⟩ = some (.int .i64 x1) := whole_cell HG.out rfl
  have HXG := HG
  clear h hb1 hb2 hb3
  by_cases hk : 0 < n ∧ x1 = s0
  · obtain ⟨hk1, rfl⟩ := hk
    have HBK := Lib.hid (show backB ⟨x1, e0, l0, ls⟩ (x1, x2, x3, x4) = true by unfold backB; exact decide_eq_true ⟨fun e => by have e : ls = [] := e; rw [e] at hn; simp at hn; omega, rfl⟩)
    have HL := Lib.hid (fun q => (HA1.out.below (bk_below_drewN w1.heap.size w1 q)).looped true)
    have d1 : decide (0 < n) = true := decide_eq_true hk1
    clear hn
    go_enter Tryz.func17, Tryz.ntmps17
    go_wp2_with fail
    go_quiet (fail)
    go_wp2
    go_ret
    refine ⟨by unfold endsB; rw [HBK.out]; rfl, ?_, ?_⟩
    · rw [HBK.out, Bool.or_true]
      exact (HL.out _).1
    · exact ((Stirred.of_below HB.out bs).trans (Stirred.drewN w1 _ bs) (fun k hk => .inl hk)).trans (HL.out _).2 (fun k hk => .inl hk)
  · have HBK := Lib.hid (show backB ⟨s0, e0, l0, ls⟩ (x1, x2, x3, x4) = false by unfold backB; exact decide_eq_false (fun hh => hk ⟨by have hq : ls ≠ [] := hh.1; rcases ls with - | ⟨y, l⟩; exact absurd rfl hq; simp at hn; omega, hh.2⟩))
    have HPOST := Lib.hid (fun (w' : World) (hb : Below w1.heap.size w1 w') => (show TAt w' B p bs most { start := s0, last := e0, loop := l0 || backB ⟨s0, e0, l0, ls⟩ (x1, x2, x3, x4), steps := ls } ∧ Stirred w w' bs from by
      rw [HBK.out, Bool.or_false]
      exact ⟨HA1.out.below hb, (Stirred.of_below (HB.out.trans (hb.mono HB.out.size)) bs)⟩))
    have HE := Lib.hid (show endsB most ⟨s0, e0, l0, ls⟩ (x1, x2, x3, x4) st = (decide (most ≤ n) || (decide (st ≠ 0) || !fit (x1, x2, x3, x4))) by unfold endsB; rw [HBK.out, HN.out]; rfl)
    have C := Lib.hid (fun q => right_any (x1, x2, x3, x4) (w1.drewN q))
    have HXD := Lib.hid (fun q => show (w1.drewN q).heap[g]? = some (.cells (seenA (x1, x2, x3, x4)) 33 (0, 0)) from HG.out)
    have c1 : w1.cell? ⟨g, 1, none⟩ = some (.int .i64 x2) := whole_cell HG.out rfl
    have c2 : w1.cell? ⟨g, 2, none⟩ = some (.int .i64 x3) := whole_cell HG.out rfl
    have c3 : w1.cell? ⟨g, 3, none⟩ = some (.int .i64 x4) := whole_cell HG.out rfl
    clear hn
    obtain ⟨fb, hfb⟩ : ∃ fb, fit (x1, x2, x3, x4) = fb := ⟨_, rfl⟩
    rw [hfb] at HE
    have HFB := Lib.hid hfb
    clear hfb
    by_cases h0 : 0 < n
    · have d1 : decide (0 < n) = true := decide_eq_true h0
      have d2 : (x1 == s0) = false := by simpa using fun e => hk ⟨h0, e⟩
      by_cases h1 : most ≤ n
      · have h1i : (most : Int) ≤ (n : Int) := by omega
        have HEV := Lib.hid (show endsB most ⟨s0, e0, l0, ls⟩ (x1, x2, x3, x4) st = true by rw [HE.out, decide_eq_true h1]; rfl)
        go_enter Tryz.func17, Tryz.ntmps17
        go_wp2_with fail
        go_quiet (fail)
        go_wp2
        go_ret
        exact ⟨by rw [HEV.out]; rfl, HPOST.out _ (bk_below_drewN _ _ _)⟩
      · have h1i : ¬ (most : Int) ≤ (n : Int) := by omega
        by_cases h2 : st = 0
        · subst h2
          cases fb with
          | true =>
            have HEV := Lib.hid (show endsB most ⟨s0, e0, l0, ls⟩ (x1, x2, x3, x4) 0 = false by rw [HE.out, decide_eq_false h1]; rfl)
            go_enter Tryz.func17, Tryz.ntmps17
            go_wp2_with fail
            go_quiet (fail)
            go_wp2_with fail
            refine (C.out _).mono ?_
            rintro e w4 ⟨rfl, hb⟩
            rw [HFB.out]
            have HW4 := Lib.hid (HPOST.out w4 ((bk_below_drewN _ _ _).trans (hb.mono (bk_below_drewN w1.heap.size w1 _).size)))
            clear hb
            go_wp2
            go_ret
            exact ⟨by rw [HEV.out]; rfl, HW4.out⟩
          | false =>
            have HEV := Lib.hid (show endsB most ⟨s0, e0, l0, ls⟩ (x1, x2, x3, x4) 0 = true by rw [HE.out, decide_eq_false h1]; rfl)
            go_enter Tryz.func17, Tryz.ntmps17
            go_wp2_with fail
            go_quiet (fail)
            go_wp2_with fail
            refine (C.out _).mono ?_
            rintro e w4 ⟨rfl, hb⟩
            rw [HFB.out]
            have HW4 := Lib.hid (HPOST.out w4 ((bk_below_drewN _ _ _).trans (hb.mono (bk_below_drewN w1.heap.size w1 _).size)))
            clear hb
            go_wp2
            go_ret
            exact ⟨by rw [HEV.out]; rfl, HW4.out⟩
        · have h2' : (st != 0) = true := by simpa using h2
          have HEV := Lib.hid (show endsB most ⟨s0, e0, l0, ls⟩ (x1, x2, x3, x4) st = true by rw [HE.out, decide_eq_true h2, Bool.true_or, Bool.or_true])
          go_enter Tryz.func17, Tryz.ntmps17
          go_wp2_with fail
          go_quiet (fail)
          go_wp2
          go_ret
          exact ⟨by rw [HEV.out]; rfl, HPOST.out _ (bk_below_drewN _ _ _)⟩
    · have d1 : decide (0 < n) = false := decide_eq_false h0
      by_cases h1 : most ≤ n
      · have h1i : (most : Int) ≤ (n : Int) := by omega
        have HEV := Lib.hid (show endsB most ⟨s0, e0, l0, ls⟩ (x1, x2, x3, x4) st = true by rw [HE.out, decide_eq_true h1]; rfl)
        go_enter Tryz.func17, Tryz.ntmps17
        go_wp2_with fail
        go_quiet (fail)
        go_wp2
        go_ret
        exact ⟨by rw [HEV.out]; rfl, HPOST.out _ (bk_below_drewN _ _ _)⟩
      · have h1i : ¬ (most : Int) ≤ (n : Int) := by omega
        by_cases h2 : st = 0
        · subst h2
          cases fb with
          | true =>
            have HEV := Lib.hid (show endsB most ⟨s0, e0, l0, ls⟩ (x1, x2, x3, x4) 0 = false by rw [HE.out, decide_eq_false h1]; rfl)
            go_enter Tryz.func17, Tryz.ntmps17
            go_wp2_with fail
            go_quiet (fail)
            go_wp2_with fail
            refine (C.out _).mono ?_
            rintro e w4 ⟨rfl, hb⟩
            rw [HFB.out]
            have HW4 := Lib.hid (HPOST.out w4 ((bk_below_drewN _ _ _).trans (hb.mono (bk_below_drewN w1.heap.size w1 _).size)))
            clear hb
            go_wp2
            go_ret
            exact ⟨by rw [HEV.out]; rfl, HW4.out⟩
          | false =>
            have HEV := Lib.hid (show endsB most ⟨s0, e0, l0, ls⟩ (x1, x2, x3, x4) 0 = true by rw [HE.out, decide_eq_false h1]; rfl)
            go_enter Tryz.func17, Tryz.ntmps17
            go_wp2_with fail
            go_quiet (fail)
            go_wp2_with fail
            refine (C.out _).mono ?_
            rintro e w4 ⟨rfl, hb⟩
            rw [HFB.out]
            have HW4 := Lib.hid (HPOST.out w4 ((bk_below_drewN _ _ _).trans (hb.mono (bk_below_drewN w1.heap.size w1 _).size)))
            clear hb
            go_wp2
            go_ret
            exact ⟨by rw [HEV.out]; rfl, HW4.out⟩
        · have h2' : (st != 0) = true := by simpa using h2
          have HEV := Lib.hid (show endsB most ⟨s0, e0, l0, ls⟩ (x1, x2, x3, x4) st = true by rw [HE.out, decide_eq_true h2, Bool.true_or, Bool.or_true])
          go_enter Tryz.func17, Tryz.ntmps17
          go_wp2_with fail
          go_quiet (fail)
          go_wp2
          go_ret
          exact ⟨by rw [HEV.out]; rfl, HPOST.out _ (bk_below_drewN _ _ _)⟩
set_option maxHeartbeats 8000000 in
theorem add_any (h : TAt w B p bs most r) (hB : B ≤ w.heap.size) (x : S) (hf : r.steps.length < 1000) : Calls Tryz.prog 18 #[.pointer (some ⟨p, 0, none⟩), seenV x] w fun e w' => e = .returned (.tuple #[]) ∧ ∃ bs', TAt w' B p bs' most { r with last := x.2.2.2, steps := r.steps ++ [x] } ∧ Stirred w w' bs ∧ ∀ k ∈ bs', k ∈ bs ∨ w.heap.size ≤ k := by
  obtain ⟨i0, q1, q2, q3, q4⟩ := info_parts Tryz.seenInfo
  have HI := Lib.hid (And.intro q1 (And.intro q2 (And.intro q3 q4)))
  clear q1 q2 q3 q4
  obtain ⟨x1, x2, x3, x4⟩ := x
  obtain ⟨w1, g, hw1, hg, HG, HB, HZ⟩ := newBox w (seenA (x1, x2, x3, x4)) 33
  have HA := Lib.hid h
  have HA1 := Lib.hid (h.below HB.out)
  obtain ⟨n, hn⟩ : ∃ n, r.steps.length = n := ⟨_, rfl⟩
  obtain ⟨v, hb1, hb2, hb3⟩ := HA1.out.box
  obtain ⟨so, sc, rfl⟩ := hb2.slice (seen_len r.steps) (by decide)
  rw [hn] at hb1 hb2 hb3 hf
  have HBS := Lib.hid hb3
  have HN := Lib.hid hn
  have HL := Lib.hid (show (r.steps.flatMap seenCells).length = n * 4 by rw [seen_len, hn])
  have HBW := Lib.hid (Nat.le_trans hB HB.out.size)
  have c0 : w1.cell? ⟨g, 0, none⟩ = some (.int .i64 x1) := whole_cell HG.out rfl
  have c1 : w1.cell? ⟨g, 1, none⟩ = some (.int .i64 x2) := whole_cell HG.out rfl
  have c2 : w1.cell? ⟨g, 2, none⟩ = some (.int .i64 x3) := whole_cell HG.out rfl
  have c3 : w1.cell? ⟨g, 3, none⟩ = some (.int .i64 x4) := whole_cell HG.out rfl
  have m4 : w1.cell? ⟨p, 4, none⟩ = some (.slice so n sc) := whole_cell hb1 rfl
  have hal := (Below.refl w1.heap.size w1).alloc (Nat.le_refl _) (.cells (seenA (x1, x2, x3, x4)) 33)
  have hAN := heap_alloc_new w1 (.cells (seenA (x1, x2, x3, x4)) 33)
  have hA1 := (Stirred.of_below hal []).whole hb1 List.not_mem_nil
  have m4a : (w1.alloc (.cells (seenA (x1, x2, x3, x4)) 33)).cell? ⟨p, 4, none⟩ = some (.slice so n sc) := whole_cell hA1 rfl
  have HAL := Lib.hid hal
  have HAD := Lib.hid ((hb2.below hal).touch (Stirred.drew _ []) (fun _ _ => List.not_mem_nil))
  have HRD := Lib.hid (show ReadsK (w1.alloc (.cells (seenA (x1, x2, x3, x4)) 33)).drew 4 (.slice (some ⟨w1.heap.size, 0, none⟩) 1 1) (seenCells (x1, x2, x3, x4)) from ReadsK.of_whole (T := 33) hAN rfl)
  have HDW := Lib.hid (show Below w.heap.size w (w1.alloc (.cells (seenA (x1, x2, x3, x4)) 33)).drew from (HB.out.trans (HAL.out.mono HB.out.size)).trans (Below.drew (Below.refl _ _)))
  have HDP := Lib.hid (show (w1.alloc (.cells (seenA (x1, x2, x3, x4)) 33)).drew.heap[p]? = some (.cells (tapeA most r (.slice so n sc)) 42 (0, 0)) from hA1)
  have HXG := Lib.hid (show (w1.alloc (.cells (seenA (x1, x2, x3, x4)) 33)).drew.heap[g]? = some (.cells (seenA (x1, x2, x3, x4)) 33 (0, 0)) from (Stirred.of_below hal []).whole HG.out List.not_mem_nil)
  have HGF := Lib.hid (show g ∉ p :: (blk (.slice so n sc)).toList from fun hm => by
    have hgz := HZ.out
    rcases List.mem_cons.1 hm with e | hm
    · have := (h.lt p h.pIn).2; omega
    · obtain ⟨v', k1, k2, k3⟩ := h.box
      have e1 := (Stirred.of_below HB.out []).whole k1 List.not_mem_nil
      rw [hb1] at e1
      simp only [Option.some.injEq, Obj.cells.injEq, and_true, Array.mk.injEq, List.cons.injEq, true_and] at e1
      rw [e1] at hm
      have := (k2.block g (by simpa using hm)).2.1
      omega)
  clear hal hAN hA1 hb1 hb2 hb3 h hB hn
  go_enter Tryz.func18, Tryz.ntmps18
  go_wp2_with fail
  go_region_law (refine Wide.step_append_reads (by rfl) _ _ 27 (by rfl) B 33 4 i0 (seenV (0, 0, 0, 0)) 32 Tryz.underlying27 HI.out.1 HI.out.2.1 HI.out.2.2.1 HI.out.2.2.2 rfl (by decide) (.slice so n sc) n (r.steps.flatMap seenCells) (by rfl) HAD.out HL.out (.slice (some ⟨w1.heap.size, 0, none⟩) 1 1) 1 (seenCells (x1, x2, x3, x4)) (by rfl) HRD.out rfl (fun u hu => seen_one [(x1, x2, x3, x4)] u (by simpa using hu)) (by unfold maxLen; omega) (by omega) (Nat.le_trans HBW.out HAL.out.size) ?_; intro v' w4 hO _ hS hN; obtain ⟨so', sc', hv', -⟩ := hO.row (n := n + 1) (by rw [List.length_append, HL.out, Nat.add_mul]; rfl) (by decide) (Nat.succ_pos _); subst hv'; have HS3 := Lib.hid (tape_longer HDP.out HAD.out HA.out.low hS hO (by rw [HN.out]; omega)); have HN4 := Lib.hid hN; have hp3 := hS.whole HDP.out (fun hm => tape_off HDP.out HAD.out p (by simpa using hm) rfl); have k3p := whole_cell (j := 4) hp3 rfl; have f3p := whole_frozen hp3 4; clear hO hS hN hp3)
  all_goals
    obtain ⟨w5, hw5⟩ : ∃ w5, w4.setCell ⟨p, 4, none⟩ (.slice (some ⟨so', 0, none⟩) (n + 1) sc') = w5 := ⟨_, rfl⟩
    have hS := HS3.out
    rw [hw5] at hS
    have hg5 := hS.2.whole HXG.out HGF.out
    have g3 : w5.cell? ⟨g, 3, none⟩ = some (.int .i64 x4) := whole_cell hg5 rfl
    obtain ⟨v5, k1, -, -⟩ := hS.1.box
    have e2 : w5.cell? ⟨p, 2, none⟩ = some (.int .i64 r.last) := whole_cell k1 rfl
    have f2 : w5.frozen? ⟨p, 2, none⟩ = false := whole_frozen k1 2
    have HF := Lib.hid (hS.1.ended x4)
    have HS5 := Lib.hid hS.2
    clear k3p f3p hS hg5 k1 HS3 m4 m4a c0 c1 c2 c3
    go_wp2
    go_end0
    refine ⟨rfl, _, HF.out.1, (((Stirred.of_below HDW.out bs).trans HS5.out (fun k hk => .inl (by rw [HBS.out]; exact hk))).trans HF.out.2 (fun k hk => ?_)), fun k hk => ?_⟩
    all_goals
      rcases List.mem_cons.1 hk with rfl | hk
      · exact .inl (by rw [HBS.out]; exact List.mem_cons_self)
      · rcases HN4.out with e | ⟨k', e, hk'⟩
        · exact .inl (by rw [HBS.out, ← e]; exact List.mem_cons_of_mem _ hk)
        · rw [e] at hk
          obtain rfl : k = k' := by simpa using hk
          first
            | exact .inr (Nat.le_trans (show g ≤ _ from by rw [← HZ.out]; exact HDW.out.size) hk')
            | exact .inr (Nat.le_trans HDW.out.size hk')
end
end Go.Proofs.YtlomfmilohbgpaaGreatDoor.Rec
/- Is a machine small enough? -/
namespace Go.Proofs.YtlomfmilohbgpaaGreatDoor.Mach
open Go.RowKit Book Mem
set_option linter.unusedVariables false
set_option linter.unusedSimpArgs false
def lightB (m : M) : Bool := decide (m.mem.length ≤ 700) && decide (m.inp.size ≤ 300) && rightM m
theorem lightB_iff (m : M) : lightB m = true ↔ m.mem.length ≤ 700 ∧ m.inp.size ≤ 300 ∧ Right m := by
  unfold lightB
  rw [Bool.and_eq_true, Bool.and_eq_true, decide_eq_true_eq, decide_eq_true_eq, rightM_iff, and_assoc]
set_option maxHeartbeats 4000000 in
set_option maxRecDepth 100000 in
theorem light_any {w : World} {v : Value} {m : M} (h : ReadsM w v m) (hi : m.inp.size ≤ maxLen) (ho : m.out.size ≤ maxLen) :
    Calls Tryz.prog 4 #[v] w (Says (.bool (lightB m)) w) := by
  have HV := Lib.hid h
  obtain ⟨vs, vb, vm, rfl, -, -, ⟨⟨mo, mc, hm, _⟩, _⟩⟩ := h
  obtain ⟨ip, hn, st, bk, me, ou, inn, rd, stt, cd⟩ := m
  simp only at hm hi ho ⊢
  subst hm
  have hi' : inn.size ≤ 9223372036854775807 := hi
  have HX := Lib.hid (heap_alloc_new w (.cells (cells10 ip hn vs vb (.slice mo me.length mc) ou inn rd stt cd) 24))
  have HB1 := Lib.hid ((Below.refl w.heap.size w).alloc (Nat.le_refl _) (.cells (cells10 ip hn vs vb (.slice mo me.length mc) ou inn rd stt cd) 24))
  have C := Lib.hid (refRight_any (HV.out.below HB1.out) hi ho)
  obtain ⟨rb, hrb⟩ : ∃ b, rightM ⟨ip, hn, st, bk, me, ou, inn, rd, stt, cd⟩ = b := ⟨_, rfl⟩
  have HL := Lib.hid (show lightB ⟨ip, hn, st, bk, me, ou, inn, rd, stt, cd⟩ = (decide (me.length ≤ 700) && decide (inn.size ≤ 300) && rb) by unfold lightB; rw [hrb])
  obtain ⟨lb, hlb⟩ : ∃ b, lightB ⟨ip, hn, st, bk, me, ou, inn, rd, stt, cd⟩ = b := ⟨_, rfl⟩
  rw [hlb]
  rw [hrb] at C
  have HLB := Lib.hid (hlb.symm.trans HL.out)
  clear hi ho hlb HL HV hrb
  by_cases c1 : me.length ≤ 700
  · by_cases c2 : inn.size ≤ 300
    · have HF := Lib.hid (show lb = rb by rw [HLB.out]; simp [c1, c2])
      clear HLB
      go_enter Tryz.func4, Tryz.ntmps4
      go_wp2_with (first
        | (refine ld_state (by rfl) _ rfl _ rfl _ _ HX.out rfl ?_)
        | (go_at_call 10; refine C.out.mono ?_; rintro e w2 ⟨rfl, hb⟩; have HB2 := Lib.hid (HB1.out.trans (hb.mono HB1.out.size)); clear hb))
      go_ret
      exact ⟨by rw [HF.out]; rfl, HB2.out⟩
    · have HF := Lib.hid (show lb = false by rw [HLB.out]; simp [c2])
      clear HLB C HX
      go_enter Tryz.func4, Tryz.ntmps4
      go_wp2
      go_ret
      exact ⟨by rw [HF.out]; rfl, HB1.out⟩
  · have HF := Lib.hid (show lb = false by rw [HLB.out]; simp [c1])
    clear HLB C HX
    go_enter Tryz.func4, Tryz.ntmps4
    go_wp2
    go_ret
    exact ⟨by rw [HF.out]; rfl, HB1.out⟩
end Go.Proofs.YtlomfmilohbgpaaGreatDoor.Mach
/- Marks put into kept lists. -/
namespace Go.Proofs.YtlomfmilohbgpaaGreatDoor
open Go.RowKit Book
set_option linter.unusedSimpArgs false
set_option linter.unusedVariables false
end Go.Proofs.YtlomfmilohbgpaaGreatDoor
/- Kept lists, grown. -/
namespace Go.Proofs.YtlomfmilohbgpaaGreatDoor
open Go.RowKit Book
set_option linter.unusedSimpArgs false
set_option linter.unusedVariables false
theorem intMarks_add (i a m n : Nat) : intMarks i a (m + n) = intMarks i a m ++ intMarks i (a + m) n := by
  induction n with
  | zero => simp [intMarks]
  | succ n ih => rw [← Nat.add_assoc, intMarks_succ, ih, intMarks_succ, List.append_assoc, Nat.add_assoc]
theorem intMarks_one (i a n : Nat) : ∀ u ∈ intMarks i a n, u.oneCell' = true := by
  intro u hu
  simp only [intMarks, List.mem_map] at hu
  obtain ⟨j, _, rfl⟩ := hu
  rfl
end Go.Proofs.YtlomfmilohbgpaaGreatDoor
/- Do lists bear their marks? -/
namespace Go.Proofs.YtlomfmilohbgpaaGreatDoor
open Go.RowKit Book
set_option linter.unusedSimpArgs false
set_option linter.unusedVariables false
theorem intMarks_eq (i a n : Nat) : intMarks i a n = ((List.range n).map fun j => markI i (a + j)).map (.int .i64) := by simp [intMarks]
end Go.Proofs.YtlomfmilohbgpaaGreatDoor
/- Kinds of which a book keeps no list: nothing is done. -/
namespace Go.Proofs.YtlomfmilohbgpaaGreatDoor
open Go.RowKit Book
set_option linter.unusedSimpArgs false
set_option linter.unusedVariables false
end Go.Proofs.YtlomfmilohbgpaaGreatDoor
/- Lists that were marked bear marks. -/
namespace Go.Proofs.YtlomfmilohbgpaaGreatDoor
open Book
theorem done_marks {ls cur : List (Value × List Value)} {mk : Nat → Nat → List Value} (h : Done mk ls ls.length cur) (hm : ∀ i n, (mk i n).length = n) (most : Nat) (hl : ∀ k ∈ ls, k.2.length ≤ most) : ∀ i k, cur[i]? = some k → k.2 = mk i k.2.length ∧ k.2.length ≤ most := by
  intro i k hk
  have hi : i < ls.length := by rw [← h.len]; exact (List.getElem?_eq_some_iff.1 hk).1
  have h1 : ls[i]? = some ls[i] := List.getElem?_eq_getElem hi
  have h2 := h.done i _ hi h1
  rw [hk] at h2
  simp only [Option.some.injEq] at h2
  subst h2
  dsimp only
  rw [hm]
  exact ⟨rfl, hl _ (List.mem_of_getElem? h1)⟩
end Go.Proofs.YtlomfmilohbgpaaGreatDoor
/- A book that keeps lists of one kind alone (Ints): is each as it was, and apart from the others? -/
namespace Go.Proofs.YtlomfmilohbgpaaGreatDoor
open Go.RowKit Book
set_option linter.unusedSimpArgs false
set_option linter.unusedVariables false
/-- a book that keeps one kind alone -/
structure BookInts (w : World) (p : Nat) (vS : Value) : Prop where
  c2 : w.cell? ⟨p, 2, none⟩ = some vS
  c0 : w.cell? ⟨p, 0, none⟩ = some (.slice none 0 0)
  c4 : w.cell? ⟨p, 4, none⟩ = some (.slice none 0 0)
  c6 : w.cell? ⟨p, 6, none⟩ = some (.slice none 0 0)
  c8 : w.cell? ⟨p, 8, none⟩ = some (.slice none 0 0)
  c10 : w.cell? ⟨p, 10, none⟩ = some (.slice none 0 0)
theorem BookInts.stirred {w w' : World} {bs : List Nat} {p : Nat} {vS : Value} (h : BookInts w p vS) (ht : Stirred w w' bs) (hn : p ∉ bs) : BookInts w' p vS :=
  ⟨ht.cell hn h.c2, ht.cell hn h.c0, ht.cell hn h.c4, ht.cell hn h.c6, ht.cell hn h.c8, ht.cell hn h.c10⟩
end Go.Proofs.YtlomfmilohbgpaaGreatDoor
/- Machines held against each other; lent; laid into a book. -/
namespace Go.Proofs.YtlomfmilohbgpaaGreatDoor.Mach
open Go.RowKit Book Mem
set_option linter.unusedVariables false
set_option linter.unusedSimpArgs false
/-- two new boxes -/
theorem two_boxes2 (w : World) (cs cs' : Array Value) : ∃ w1 w2 g r, w.alloc (.cells cs 24) = w1 ∧ w1.alloc (.cells cs' 24) = w2 ∧ w.heap.size = g ∧ w1.heap.size = r ∧
    Hid (w2.heap[g]? = some (.cells cs 24 (0, 0))) ∧ Hid (w2.heap[r]? = some (.cells cs' 24 (0, 0))) ∧ Hid (Below w.heap.size w w2) ∧ Hid (g < r) ∧ Hid (w.heap.size = g) := by
  have hb1 := (Below.refl w.heap.size w).alloc (Nat.le_refl _) (.cells cs 24)
  have hn1 := heap_alloc_new w (.cells cs 24)
  have hb2 := (Below.refl (w.alloc (.cells cs 24)).heap.size (w.alloc (.cells cs 24))).alloc (Nat.le_refl _) (.cells cs' 24)
  have hn2 := heap_alloc_new (w.alloc (.cells cs 24)) (.cells cs' 24)
  exact ⟨_, _, _, _, rfl, rfl, rfl, rfl, (Stirred.of_below hb2 []).whole hn1 List.not_mem_nil, hn2, hb1.trans (hb2.mono hb1.size), whole_lt hn1, rfl⟩
end Go.Proofs.YtlomfmilohbgpaaGreatDoor.Mach
/- Package inner's contracts, as hollowaylaw9's statements use them (what leans on no machine's further facts). -/
namespace Go.Proofs.YtlomfmilohbgpaaGreatDoor.Mach
open Go.RowKit Book Mem
theorem OwnsL.readsM {w : World} {B : Nat} {vs vb vm : Value} {m : M} (h : OwnsL w B vs vb vm m) : ReadsM w (stV m vs vb vm) m := OwnsM.reads ⟨vs, vb, vm, rfl, h⟩
end Go.Proofs.YtlomfmilohbgpaaGreatDoor.Mach
namespace Go.Proofs.YtlomfmilohbgpaaGreatDoor.Inn
open Go.RowKit Book Mem Mach
set_option linter.unusedVariables false
set_option linter.unusedSimpArgs false
/-- true is returned -/
def Yes (w : World) (e : Ending) (w' : World) : Prop := e = .returned (.bool true) ∧ Below w.heap.size w w'
/-- what a call answers: a machine with lists of its own, its slices known -/
def GivesK (m : M) (w : World) (e : Ending) (w' : World) : Prop :=
  ∃ a1 k1 a2 k2 a3 k3, e = .returned (stV m (.slice a1 m.stack.length k1) (.slice a2 m.back.length k2) (.slice a3 m.mem.length k3)) ∧
    OwnsL w' w.heap.size (.slice a1 m.stack.length k1) (.slice a2 m.back.length k2) (.slice a3 m.mem.length k3) m ∧ Below w.heap.size w w'
theorem known {w w' : World} {v : Value} {m : M} {B : Nat} (h : OwnsM w B v m) : ∃ a1 k1 a2 k2 a3 k3, v = stV m (.slice a1 m.stack.length k1) (.slice a2 m.back.length k2) (.slice a3 m.mem.length k3) ∧
    OwnsL w B (.slice a1 m.stack.length k1) (.slice a2 m.back.length k2) (.slice a3 m.mem.length k3) m := by
  obtain ⟨v1, v2, v3, rfl, ho⟩ := h
  obtain ⟨a1, k1, e1⟩ := ho.st.slice
  obtain ⟨a2, k2, e2⟩ := ho.bk.slice
  obtain ⟨a3, k3, e3⟩ := ho.me.slice
  rw [vals_length] at e1 e2 e3
  subst e1
  subst e2
  subst e3
  exact ⟨a1, k1, a2, k2, a3, k3, rfl, ho⟩
theorem GivesM.known {m : M} {w : World} {e : Ending} {w' : World} (h : GivesM m w e w') : GivesK m w e w' := by
  obtain ⟨v, rfl, ho, hb⟩ := h
  obtain ⟨a1, k1, a2, k2, a3, k3, rfl, ho'⟩ := Inn.known (w' := w') ho
  exact ⟨a1, k1, a2, k2, a3, k3, rfl, ho', hb⟩
/-- what a run answers, its slices known -/
def RanK (m : M) (k : Nat) (w : World) (e : Ending) (w' : World) : Prop :=
  ∃ a1 k1 a2 k2 a3 k3, e = .returned (.tuple #[stV m (.slice a1 m.stack.length k1) (.slice a2 m.back.length k2) (.slice a3 m.mem.length k3), .int .i64 k]) ∧
    OwnsL w' w.heap.size (.slice a1 m.stack.length k1) (.slice a2 m.back.length k2) (.slice a3 m.mem.length k3) m ∧ Below w.heap.size w w'
theorem runs_any {w : World} {v : Value} {m : M} (h : ReadsM w v m) (hr : Right m) (hc : Cells m) (hin : m.inp.size ≤ maxLen) (hE : ∀ wc, Below w.heap.size w wc → Tabs wc) (n : Nat) (hn : n ≤ 9223372036854775807) {m' : M} {k : Nat} (e : Mach.run n m = (m', k)) :
    Calls Tryz.prog 23 #[v, .int .i64 n] w (RanK m' k w) := by
  refine (innRun_nat h hr hc hin hE n hn).mono ?_
  rintro e1 w' ⟨v, rfl, ho, hb⟩
  rw [runI_nat, e] at *
  obtain ⟨a1, k1, a2, k2, a3, k3, rfl, ho'⟩ := Inn.known (w' := w') ho
  exact ⟨a1, k1, a2, k2, a3, k3, rfl, ho', hb⟩
theorem run_inp (n : Nat) (s : M) : (Mach.run n s).1.inp = s.inp := by
  induction n generalizing s with
  | zero => rfl
  | succ n ih =>
    by_cases h : s.status = 0
    · rw [run_go h, ih, step_inp]
    · rw [run_still h]
/-- a box of a machine stays where nobody writes -/
theorem box_on {w w' : World} {g : Nat} {cs : Array Value} {T : TypeId} (h : w.heap[g]? = some (.cells cs T (0, 0))) (hb : Below w.heap.size w w') : w'.heap[g]? = some (.cells cs T (0, 0)) := (Stirred.of_below hb []).whole h List.not_mem_nil
end Go.Proofs.YtlomfmilohbgpaaGreatDoor.Inn
