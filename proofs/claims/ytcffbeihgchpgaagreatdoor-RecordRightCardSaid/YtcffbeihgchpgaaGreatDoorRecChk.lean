
/- Package record: Right of a recording. -/
import Derived.Test.YtcffbeihgchpgaaGreatDoorRecLoop
namespace Go.Proofs.YtcffbeihgchpgaaGreatDoor.Rec
open Go.RowKit Book Book.Wide Mem Mach Inn
set_option linter.unusedSimpArgs false
set_option linter.unusedVariables false
/-- a list of steps, wherever it lies -/
def ReadsS (w : World) (v : Value) (l : List S) : Prop := ∃ ao cap, v = .slice ao l.length cap ∧ ∀ j x, l[j]? = some x → ∃ ad : Addr, ao = some ad ∧ w.cell? (ad.add (j * 4)) = some (.int .i64 x.1) ∧ w.cell? ⟨(ad.add (j * 4)).block, (ad.add (j * 4)).off + 1, none⟩ = some (.int .i64 x.2.1) ∧ w.cell? ⟨(ad.add (j * 4)).block, (ad.add (j * 4)).off + 2, none⟩ = some (.int .i64 x.2.2.1) ∧ w.cell? ⟨(ad.add (j * 4)).block, (ad.add (j * 4)).off + 3, none⟩ = some (.int .i64 x.2.2.2)
theorem ReadsS.below {w w' : World} {v : Value} {l : List S} (h : ReadsS w v l) (hb : Below w.heap.size w w') : ReadsS w' v l := by
  obtain ⟨ao, cap, e, hc⟩ := h
  refine ⟨ao, cap, e, fun j x hj => ?_⟩
  obtain ⟨ad, ha, h0, h1, h2, h3⟩ := hc j x hj
  have tr : ∀ {p : Addr} {u : Value}, w.cell? p = some u → w'.cell? p = some u := fun {p u} hu => by rw [hb.cell (p := p) (World.block_lt_of_cell? w _ hu)]; exact hu
  exact ⟨ad, ha, tr h0, tr h1, tr h2, tr h3⟩
theorem ReadsS.of_owns {w : World} {B : Nat} {v : Value} {l : List S} (h : OwnsK w B 55 4 v (l.flatMap seenCells)) : ReadsS w v l := by
  rcases Nat.eq_zero_or_pos l.length with h0 | h0
  · obtain ⟨ao, cap, rfl⟩ := h.slice (seen_len l) (by decide)
    exact ⟨ao, cap, rfl, fun j x hj => absurd (List.getElem?_eq_some_iff.1 hj).1 (by omega)⟩
  · obtain ⟨g, cap, rfl, hc, -, -⟩ := h.row (seen_len l) (by decide) h0
    refine ⟨some ⟨g, 0, none⟩, cap, rfl, fun j x hj => ⟨_, rfl, ?_⟩⟩
    have a0 := hc (j * 4 + 0) _ (flat_at (enc := seenCells) (fun _ => rfl) hj (i := 0) rfl)
    have a1 := hc (j * 4 + 1) _ (flat_at (enc := seenCells) (fun _ => rfl) hj (i := 1) rfl)
    have a2 := hc (j * 4 + 2) _ (flat_at (enc := seenCells) (fun _ => rfl) hj (i := 2) rfl)
    have a3 := hc (j * 4 + 3) _ (flat_at (enc := seenCells) (fun _ => rfl) hj (i := 3) rfl)
    rw [add_row]
    exact ⟨a0, a1, a2, a3⟩
/-- do the steps follow one another? where they lead -/
def runR (start : Int) : List S → Int → Bool → Option Int
  | [], at', _ => some at'
  | x :: l, at', first => if x.1 = at' ∧ (first = true ∨ at' ≠ start) ∧ fit x = true then runR start l x.2.2.2 false else none
def endR (r : R) (at' : Int) : Bool := decide (at' = r.last) && (r.loop == (decide (0 < r.steps.length) && decide (at' = r.start)))
def rightR (r : R) : Bool := decide (r.steps.length ≤ 120) && (match runR r.start r.steps r.start true with | none => false | some z => endR r z)
theorem runR_at {start : Int} {l : List S} {k : Nat} {x : S} (hx : l[k]? = some x) (at' : Int) (b : Bool) : runR start (l.drop k) at' b = if x.1 = at' ∧ (b = true ∨ at' ≠ start) ∧ fit x = true then runR start (l.drop (k + 1)) x.2.2.2 false else none := by
  have hk := (List.getElem?_eq_some_iff.1 hx).1
  rw [List.drop_eq_getElem_cons hk, show l[k] = x from (List.getElem?_eq_some_iff.1 hx).2]
  rfl
set_option maxHeartbeats 8000000 in
set_option maxRecDepth 100000 in
theorem recRight_any {w : World} {v : Value} {r : R} (h : ReadsS w v r.steps) (hl : r.steps.length ≤ 1000000) : Calls Tryz.prog 15 #[recV r v] w (Says (.bool (rightR r)) w) := by
  have HV := Lib.hid h
  obtain ⟨ao, cap, rfl, -⟩ := h
  obtain ⟨st, la, lo, l⟩ := r
  simp only at HV hl ⊢
  obtain ⟨n, hn⟩ : ∃ n, l.length = n := ⟨_, rfl⟩
  have HN := Lib.hid hn
  rw [hn] at HV hl ⊢
  obtain ⟨w1, g, hw1, hg, HG, HB, HZ⟩ := newBox w (recA ⟨st, la, lo, l⟩ (.slice ao n cap)) 39
  have g0 : w1.cell? ⟨g, 0, none⟩ = some (.int .i64 st) := whole_cell HG.out rfl
  have g3 : w1.cell? ⟨g, 3, none⟩ = some (.slice ao n cap) := whole_cell HG.out rfl
  have HLT := Lib.hid (show g < w1.heap.size from whole_lt HG.out)
  obtain ⟨res, hres⟩ : ∃ res, rightR ⟨st, la, lo, l⟩ = res := ⟨_, rfl⟩
  have HRS := Lib.hid hres
  rw [hres]
  clear hn hres
  by_cases h120 : 120 < n
  · have HF := Lib.hid (show res = false by rw [← HRS.out]; unfold rightR; rw [decide_eq_false (by show ¬ l.length ≤ 120; rw [HN.out]; omega)]; rfl)
    go_enter Tryz.func15, Tryz.ntmps15
    go_wp2
    go_ret
    exact ⟨by rw [HF.out]; rfl, HB.out⟩
  · have HRR := Lib.hid (show (match runR st l st true with | none => false | some z => endR ⟨st, la, lo, l⟩ z) = res by rw [← HRS.out]; unfold rightR; rw [decide_eq_true (by show l.length ≤ 120; rw [HN.out]; omega)]; rfl)
    go_enter Tryz.func15, Tryz.ntmps15
    go_wp2_with fail
    go_loopg [3, 15] n (fun z at' k wr => ∃ (j : Nat) (a : Int), z = n - j ∧ j ≤ n ∧ at' = .int .i64 a ∧ k = .int .i64 (j : Int) ∧ Hid (Below w1.heap.size w1 wr) ∧ Hid (runR st (l.drop j) a (decide (j = 0)) = runR st l st true))
    case atStart => exact ⟨0, st, rfl, Nat.zero_le _, rfl, rfl, Lib.hid (Below.refl _ _), Lib.hid rfl⟩
    case round =>
      obtain ⟨j, a, rfl, hj, rfl, rfl, HBR, HRN⟩ := hrel
      have HGr := Lib.hid (boxOn HG.out HBR.out)
      by_cases hlt : j < n
      · obtain ⟨x, hx⟩ : ∃ x, l[j]? = some x := ⟨_, List.getElem?_eq_getElem (by rw [HN.out]; exact hlt)⟩
        have HRA := Lib.hid (show (if x.1 = a ∧ (decide (j = 0) = true ∨ a ≠ st) ∧ fit x = true then runR st (l.drop (j + 1)) x.2.2.2 false else none) = runR st l st true by rw [← HRN.out]; exact (runR_at hx a _).symm)
        obtain ⟨ao', cap', e, hc⟩ := (HV.out.below HB.out).below HBR.out
        rw [HN.out] at e
        simp only [Value.slice.injEq, true_and] at e
        obtain ⟨rfl, rfl⟩ := e
        obtain ⟨ad, rfl, c0, c1, c2, c3⟩ := hc j x hx
        have z0 : (0 : Int) ≤ (j : Int) := by omega
        have z1 : (j : Int) < (n : Int) := by omega
        obtain ⟨w4, g4, hw4, hg4, H4, HB4, HZ4⟩ := newBox wr (seenA x) 55
        have HG4 := Lib.hid (boxOn HGr.out HB4.out)
        have C := Lib.hid (right_any x w4)
        obtain ⟨x1, x2, x3, x4⟩ := x
        have k0 : w4.cell? ⟨g4, 0, none⟩ = some (.int .i64 x1) := whole_cell H4.out rfl
        have k1 : w4.cell? ⟨g4, 1, none⟩ = some (.int .i64 x2) := whole_cell H4.out rfl
        have k2 : w4.cell? ⟨g4, 2, none⟩ = some (.int .i64 x3) := whole_cell H4.out rfl
        have k3 : w4.cell? ⟨g4, 3, none⟩ = some (.int .i64 x4) := whole_cell H4.out rfl
        have q0 : w4.cell? ⟨g, 0, none⟩ = some (.int .i64 st) := whole_cell HG4.out rfl
        have HBr4 := Lib.hid (HB.out.trans ((HBR.out.trans (HB4.out.mono HBR.out.size)).mono HB.out.size))
        clear hx hc HRN
        dsimp only at c0 c1 c2 c3
        by_cases ha : x1 = a
        · subst ha
          by_cases hj0 : j = 0
          · have HJ0 := Lib.hid hj0
            have dj : decide (0 < j) = false := decide_eq_false (by omega)
            clear hj0
            cases hf : fit (x1, x2, x3, x4) with
            | true =>
              have HFX := Lib.hid hf
              have HRA2 := Lib.hid (show runR st (l.drop (j + 1)) x4 (decide (j + 1 = 0)) = runR st l st true by
                have h := HRA.out
                rw [if_pos ⟨rfl, (.inl (decide_eq_true HJ0.out)), hf⟩] at h
                rw [show decide (j + 1 = 0) = false from decide_eq_false (Nat.succ_ne_zero j)]
                exact h)
              clear hf
              rw [HFX.out] at C
              go_wp2_with fail
              refine C.out.mono ?_
              rintro e w5 ⟨rfl, hb⟩
              have HB5 := Lib.hid (HBr4.out.trans (hb.mono HBr4.out.size))
              have HBR5 := Lib.hid ((HBR.out.trans (HB4.out.mono HBR.out.size)).trans (hb.mono (Nat.le_trans HBR.out.size HB4.out.size)))
              have e3 : w5.cell? ⟨g4, 3, none⟩ = some (.int .i64 x4) := whole_cell (boxOn H4.out hb) rfl
              clear hb C k0 k1 k2 k3 q0 c0 c1 c2 c3
              go_wp2
              go_roundg (n - (j + 1))
              case measure => omega
              case rel => exact ⟨j + 1, x4, rfl, by omega, rfl, by go_num, HBR5, HRA2⟩
            | false =>
              have HFX := Lib.hid hf
              have HF := Lib.hid (show res = false by have h := HRR.out; rw [← HRA.out, if_neg (fun h => by rw [h.2.2] at hf; cases hf)] at h; exact h.symm)
              clear hf
              rw [HFX.out] at C
              go_wp2_with fail
              refine C.out.mono ?_
              rintro e w5 ⟨rfl, hb⟩
              have HB5 := Lib.hid (HBr4.out.trans (hb.mono HBr4.out.size))
              have HBR5 := Lib.hid ((HBR.out.trans (HB4.out.mono HBR.out.size)).trans (hb.mono (Nat.le_trans HBR.out.size HB4.out.size)))
              have e3 : w5.cell? ⟨g4, 3, none⟩ = some (.int .i64 x4) := whole_cell (boxOn H4.out hb) rfl
              clear hb C k0 k1 k2 k3 q0 c0 c1 c2 c3
              go_wp2
              go_ret
              exact ⟨by rw [HF.out]; rfl, HB5.out⟩
          · have hjp : 0 < j := by omega
            have dj : decide (0 < j) = true := decide_eq_true hjp
            by_cases hst : x1 = st
            · subst hst
              have HF := Lib.hid (show res = false by have h := HRR.out; rw [← HRA.out, if_neg (fun h => by rcases h.2.1 with h | h; exact hj0 (of_decide_eq_true h); exact h rfl)] at h; exact h.symm)
              clear C hj0
              go_wp2
              go_ret
              exact ⟨by rw [HF.out]; rfl, HBr4.out⟩
            · have hs1 : (x1 == st) = false := by simpa using hst
              cases hf : fit (x1, x2, x3, x4) with
              | true =>
                have HFX := Lib.hid hf
                have HRA2 := Lib.hid (show runR st (l.drop (j + 1)) x4 (decide (j + 1 = 0)) = runR st l st true by
                  have h := HRA.out
                  rw [if_pos ⟨rfl, (.inr hst), hf⟩] at h
                  rw [show decide (j + 1 = 0) = false from decide_eq_false (Nat.succ_ne_zero j)]
                  exact h)
                clear hf
                rw [HFX.out] at C
                go_wp2_with fail
                refine C.out.mono ?_
                rintro e w5 ⟨rfl, hb⟩
                have HB5 := Lib.hid (HBr4.out.trans (hb.mono HBr4.out.size))
                have HBR5 := Lib.hid ((HBR.out.trans (HB4.out.mono HBR.out.size)).trans (hb.mono (Nat.le_trans HBR.out.size HB4.out.size)))
                have e3 : w5.cell? ⟨g4, 3, none⟩ = some (.int .i64 x4) := whole_cell (boxOn H4.out hb) rfl
                clear hb C k0 k1 k2 k3 q0 c0 c1 c2 c3
                go_wp2
                go_roundg (n - (j + 1))
                case measure => omega
                case rel => exact ⟨j + 1, x4, rfl, by omega, rfl, by go_num, HBR5, HRA2⟩
              | false =>
                have HFX := Lib.hid hf
                have HF := Lib.hid (show res = false by have h := HRR.out; rw [← HRA.out, if_neg (fun h => by rw [h.2.2] at hf; cases hf)] at h; exact h.symm)
                clear hf
                rw [HFX.out] at C
                go_wp2_with fail
                refine C.out.mono ?_
                rintro e w5 ⟨rfl, hb⟩
                have HB5 := Lib.hid (HBr4.out.trans (hb.mono HBr4.out.size))
                have HBR5 := Lib.hid ((HBR.out.trans (HB4.out.mono HBR.out.size)).trans (hb.mono (Nat.le_trans HBR.out.size HB4.out.size)))
                have e3 : w5.cell? ⟨g4, 3, none⟩ = some (.int .i64 x4) := whole_cell (boxOn H4.out hb) rfl
                clear hb C k0 k1 k2 k3 q0 c0 c1 c2 c3
                go_wp2
                go_ret
                exact ⟨by rw [HF.out]; rfl, HB5.out⟩
        · have ha1 : (x1 == a) = false := by simpa using ha
          have ha2 : (x1 != a) = true := by simpa using ha
          have HF := Lib.hid (show res = false by have h := HRR.out; rw [← HRA.out, if_neg (fun h => ha h.1)] at h; exact h.symm)
          clear C ha
          go_wp2
          go_ret
          exact ⟨by rw [HF.out]; rfl, HBr4.out⟩
      · obtain rfl : j = n := by omega
        have z1 : ¬ (j : Int) < (j : Int) := by omega
        have HBF := Lib.hid (HB.out.trans (HBR.out.mono HB.out.size))
        have p0 : wr.cell? ⟨g, 0, none⟩ = some (.int .i64 st) := whole_cell HGr.out rfl
        have p1 : wr.cell? ⟨g, 1, none⟩ = some (.int .i64 la) := whole_cell HGr.out rfl
        have p2 : wr.cell? ⟨g, 2, none⟩ = some (.bool lo) := whole_cell HGr.out rfl
        have p3 : wr.cell? ⟨g, 3, none⟩ = some (.slice ao j cap) := whole_cell HGr.out rfl
        have HE := Lib.hid (show endR ⟨st, la, lo, l⟩ a = res by
          have h := HRN.out
          rw [List.drop_of_length_le (by rw [HN.out]; exact Nat.le_refl _)] at h
          have h2 := HRR.out
          rw [← h] at h2
          exact h2)
        by_cases hz : a = la
        · subst hz
          by_cases hq : 0 < j ∧ a = st
          · obtain ⟨hq1, rfl⟩ := hq
            have dq : decide (0 < j) = true := decide_eq_true hq1
            cases lo with
            | true =>
              have HF := Lib.hid (show res = true by rw [← HE.out]; unfold endR; rw [show ({ start := a, last := a, loop := true, steps := l } : R).steps.length = j from HN.out]; simp [hq1])
              go_wp2
              go_ret
              exact ⟨by rw [HF.out]; rfl, HBF.out⟩
            | false =>
              have HF := Lib.hid (show res = false by rw [← HE.out]; unfold endR; rw [show ({ start := a, last := a, loop := false, steps := l } : R).steps.length = j from HN.out]; simp [hq1])
              go_wp2
              go_ret
              exact ⟨by rw [HF.out]; rfl, HBF.out⟩
          · by_cases hq1 : 0 < j
            · have hq2 : ¬ a = st := fun e => hq ⟨hq1, e⟩
              have dq : decide (0 < j) = true := decide_eq_true hq1
              have dq2 : (a == st) = false := by simpa using hq2
              cases lo with
              | true =>
                have HF := Lib.hid (show res = false by rw [← HE.out]; unfold endR; simp [hq2])
                clear hq hq2
                go_wp2
                go_ret
                exact ⟨by rw [HF.out]; rfl, HBF.out⟩
              | false =>
                have HF := Lib.hid (show res = true by rw [← HE.out]; unfold endR; simp [hq2])
                clear hq hq2
                go_wp2
                go_ret
                exact ⟨by rw [HF.out]; rfl, HBF.out⟩
            · have dq : decide (0 < j) = false := decide_eq_false hq1
              cases lo with
              | true =>
                have HF := Lib.hid (show res = false by rw [← HE.out]; unfold endR; rw [show ({ start := st, last := a, loop := true, steps := l } : R).steps.length = j from HN.out]; simp [hq1])
                clear hq
                go_wp2
                go_ret
                exact ⟨by rw [HF.out]; rfl, HBF.out⟩
              | false =>
                have HF := Lib.hid (show res = true by rw [← HE.out]; unfold endR; rw [show ({ start := st, last := a, loop := false, steps := l } : R).steps.length = j from HN.out]; simp [hq1])
                clear hq
                go_wp2
                go_ret
                exact ⟨by rw [HF.out]; rfl, HBF.out⟩
        · have hz1 : (a == la) = false := by simpa using hz
          have HF := Lib.hid (show res = false by rw [← HE.out]; unfold endR; simp [hz])
          clear hz
          go_wp2
          go_ret
          exact ⟨by rw [HF.out]; rfl, HBF.out⟩
end Go.Proofs.YtcffbeihgchpgaaGreatDoor.Rec
