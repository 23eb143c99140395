
/- Package record: a place, a cell of the memory, a step as it is seen, whether it may be recorded. -/
import Derived.Test.YtcffbeihgchpgaaGreatDoorRecPlain
import Derived.Test.YtcffbeihgchpgaaGreatDoorG22
import Derived.Test.YtcffbeihgchpgaaGreatDoorG18
import Derived.Test.YtcffbeihgchpgaaGreatDoorG25
import Derived.Test.YtcffbeihgchpgaaGreatDoorG28
namespace Go.Proofs.YtcffbeihgchpgaaGreatDoor.Rec
open Go.RowKit Book Book.Wide Mem Mach Inn
set_option linter.unusedSimpArgs false
set_option linter.unusedVariables false
abbrev seenV (x : S) : Value := .agg #[.int .i64 x.1, .int .i64 x.2.1, .int .i64 x.2.2.1, .int .i64 x.2.2.2]
abbrev seenA (x : S) : Array Value := #[.int .i64 x.1, .int .i64 x.2.1, .int .i64 x.2.2.1, .int .i64 x.2.2.2]
theorem place_yes {a : Int} : place a = true ↔ 0 ≤ a ∧ a < 3000 := by unfold place; exact decide_eq_true_iff
theorem place_no {a : Int} (h : ¬ (0 ≤ a ∧ a < 3000)) : place a = false := by unfold place; exact decide_eq_false h
theorem place_any (a : Int) (w : World) : Calls Tryz.prog 88 #[.int .i64 a] w fun e w' => e = .returned (.bool (place a)) ∧ w' = w := by
  by_cases h0 : 0 ≤ a
  · by_cases h1 : a < 3000
    · have HP := Lib.hid (place_yes.2 ⟨h0, h1⟩)
      go_enter Tryz.func88, Tryz.ntmps88
      go_wp2
      go_ret
      exact ⟨by rw [HP.out]; rfl, rfl⟩
    · have HP := Lib.hid (place_no (fun h => h1 h.2))
      go_enter Tryz.func88, Tryz.ntmps88
      go_wp2
      go_ret
      exact ⟨by rw [HP.out]; rfl, rfl⟩
  · have HP := Lib.hid (place_no (fun h => h0 h.1))
    go_enter Tryz.func88, Tryz.ntmps88
    go_wp2
    go_ret
    exact ⟨by rw [HP.out]; rfl, rfl⟩
set_option maxHeartbeats 2000000 in
theorem load_any {w : World} {v : Value} {m : M} (h : ReadsM w v m) (a : Int) : Calls Tryz.prog 85 #[v, .int .i64 a] w (Says (.int .i64 (ld m a)) w) := by
  obtain ⟨vs, vb, vm, rfl, -, -, hm⟩ := h
  obtain ⟨ip, hh, st, bk, me, ou, inn, rd, stt, cd⟩ := m
  simp only at hm ⊢
  obtain ⟨mo, n3, c3, rfl⟩ := reads_known hm
  obtain ⟨w1, g, hw1, hg, HG, HB, HZ⟩ := newBox w (cells10 ip hh vs vb (.slice mo n3 c3) ou inn rd stt cd) 24
  have hl : n3 = me.length := by obtain ⟨⟨_, _, e, _⟩, _⟩ := hm; simp only [Value.slice.injEq] at e; exact e.2.1
  subst hl
  have c4 : w1.cell? ⟨g, 4, none⟩ = some (.slice mo me.length c3) := whole_cell HG.out rfl
  have HM := Lib.hid (hm.1.below HB.out)
  obtain ⟨N, hN⟩ : ∃ N, me.length = N := ⟨_, rfl⟩
  rw [hN] at c4 HM
  rw [hN] at hw1
  clear hm
  by_cases h0 : a < 0
  · have HL := Lib.hid (show ld ⟨ip, hh, st, bk, me, ou, inn, rd, stt, cd⟩ a = 0 by unfold ld; rw [if_pos (.inl h0)])
    rw [hN]
    clear hN
    go_enter Tryz.func85, Tryz.ntmps85
    go_wp2
    go_ret
    exact ⟨by rw [HL.out]; rfl, HB.out⟩
  · by_cases h1 : (N : Int) ≤ a
    · have HL := Lib.hid (show ld ⟨ip, hh, st, bk, me, ou, inn, rd, stt, cd⟩ a = 0 by unfold ld; rw [if_pos (.inr (by show (me.length : Int) ≤ a; rw [hN]; exact h1))])
      rw [hN]
      clear hN
      go_enter Tryz.func85, Tryz.ntmps85
      go_wp2
      go_ret
      exact ⟨by rw [HL.out]; rfl, HB.out⟩
    · obtain ⟨k, rfl⟩ : ∃ k : Nat, a = (k : Int) := ⟨a.toNat, by omega⟩
      have hk : k < me.length := by omega
      obtain ⟨x, hx⟩ : ∃ x, me[k]? = some x := ⟨_, List.getElem?_eq_getElem hk⟩
      have HL := Lib.hid (show ld ⟨ip, hh, st, bk, me, ou, inn, rd, stt, cd⟩ (k : Int) = x by
        unfold ld
        rw [if_neg (by show ¬ ((k : Int) < 0 ∨ (me.length : Int) ≤ (k : Int)); omega)]
        show me.getD (k : Int).toNat 0 = x
        rw [Int.toNat_natCast, List.getD_eq_getElem?_getD, hx]; rfl)
      obtain ⟨ao, ac, e, hc⟩ := HM.out
      rw [hN] at e
      simp only [Value.slice.injEq, true_and] at e
      obtain ⟨rfl, rfl⟩ := e
      obtain ⟨ad, rfl, k1⟩ := hc k x hx
      have z1 : (k : Int) < (N : Int) := by omega
      have z0 : (0 : Int) ≤ (k : Int) := by omega
      rw [hN]
      clear hN hc hx hk
      go_enter Tryz.func85, Tryz.ntmps85
      go_wp2
      go_ret
      exact ⟨by rw [HL.out]; rfl, HB.out⟩
theorem last_any (x : S) (w : World) : Calls Tryz.prog 46 #[seenV x] w (Says (.int .i64 (lastOf x)) w) := by
  obtain ⟨x1, x2, x3, x4⟩ := x
  obtain ⟨w1, g, hw1, hg, HG, HB, HZ⟩ := newBox w (seenA (x1, x2, x3, x4)) 55
  have c0 : w1.cell? ⟨g, 0, none⟩ = some (.int .i64 x1) := whole_cell HG.out rfl
  have c1 : w1.cell? ⟨g, 1, none⟩ = some (.int .i64 x2) := whole_cell HG.out rfl
  have C := Lib.hid (opArg_same x2 w1)
  by_cases ha : argI x2 = true
  · have HL := Lib.hid (show lastOf (x1, x2, x3, x4) = wrap64 (x1 + 1) by unfold lastOf; rw [if_pos ha])
    rw [ha] at C
    clear ha
    go_enter Tryz.func46, Tryz.ntmps46
    go_wp2_with fail
    refine C.out.mono ?_
    rintro e wz ⟨rfl, hwz⟩
    subst wz
    go_wp2
    go_ret
    exact ⟨by rw [HL.out]; rfl, HB.out⟩
  · have ha' : argI x2 = false := by simpa using ha
    have HL := Lib.hid (show lastOf (x1, x2, x3, x4) = x1 by unfold lastOf; rw [if_neg ha])
    rw [ha'] at C
    clear ha ha'
    go_enter Tryz.func46, Tryz.ntmps46
    go_wp2_with fail
    refine C.out.mono ?_
    rintro e wz ⟨rfl, hwz⟩
    subst wz
    go_wp2
    go_ret
    exact ⟨by rw [HL.out]; rfl, HB.out⟩
end Go.Proofs.YtcffbeihgchpgaaGreatDoor.Rec
