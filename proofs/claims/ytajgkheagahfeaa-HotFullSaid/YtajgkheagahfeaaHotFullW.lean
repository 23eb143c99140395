
/- HotFull: the walk. -/
import Derived.Test.YtajgkheagahfeaaHotMore
import Derived.Deep.RegionWith
namespace Go.Proofs.Ytajgkheagahfeaa.HotFull
open Go.RowKit Book Book.Wide Hot
set_option linter.unusedSimpArgs false
set_option linter.unusedVariables false
set_option maxHeartbeats 1000000 in
/-- the counts behind k others: often's, and the last ones of the others -/
structure Full (often : Int) (k : Nat) (f : Int → Int) (m : Nat) : Prop where
  len : m = min (k + 1) 32
  seven : f 7777 = often
  others : ∀ z, z ≠ 7777 → f z ≠ 0 → f z = 1 ∧ ((k : Int) - ((min k 31 : Nat) : Int) ≤ z ∧ z < (k : Int))
  last : 0 < k → f ((k : Int) - 1) ≠ 0
theorem Full.zero {often : Int} {f : Int → Int} (h1 : f 7777 = often) (h2 : ∀ z, z ≠ 7777 → f z = 0) : Full often 0 f 1 :=
  ⟨rfl, h1, fun z hz h => absurd (h2 z hz) h, fun h => absurd h (Nat.lt_irrefl 0)⟩
theorem Full.step {often n : Int} {k : Nat} {f : Int → Int} {m : Nat} {b : Bool} {f' : Int → Int} {m' : Nat} (h : Full often k f m) (h2 : 2 ≤ often) (hn : 2 ≤ n) (hk : k < 7777) (hP : Hot.Pass n f m (k : Int) b f' m') (hm : m' ≤ 32) : f (k : Int) = 0 ∧ Full often (k + 1) f' m' := by
  have hk0 : f (k : Int) = 0 := by
    by_cases h0 : f (k : Int) = 0
    · exact h0
    · have := (h.others _ (by omega) h0).2.2
      omega
  refine ⟨hk0, ?_⟩
  obtain ⟨f1, m1, hR, h3, h4, h5, h6⟩ := hP.way
  rw [hk0] at h5 h6
  rw [if_neg (by omega)] at h5 h6
  rw [if_pos rfl] at h6
  subst h5
  rcases hR with ⟨h7, rfl, rfl⟩ | ⟨h7, h8, a, ha, rfl, h9⟩
  · have hm32 : m1 < 32 := h7.resolve_left (fun e => e hk0)
    have hl := h.len
    refine ⟨by omega, by rw [upd_other _ _ (by omega)]; exact h.seven, fun z hz h0 => ?_, fun _ => by rw [show ((k + 1 : Nat) : Int) - 1 = (k : Int) by omega, upd_same]; decide⟩
    by_cases e : z = (k : Int)
    · subst e
      rw [upd_same]
      refine ⟨rfl, by omega, by omega⟩
    · rw [upd_other _ _ e] at h0 ⊢
      have := h.others z hz h0
      refine ⟨this.1, ?_⟩
      have := this.2
      omega
  · have hl := h.len
    have ha7 : a ≠ 7777 := by
      rintro rfl
      have hl1 := h.last (by omega)
      have h12 := ha.2 _ hl1
      have h13 := (h.others _ (by omega) hl1).1
      unfold goesB at h12
      rw [decide_eq_false_iff_not, h.seven, h13] at h12
      simp only at h12
      omega
    refine ⟨by omega, ?_, fun z hz h0 => ?_, fun _ => by rw [show ((k + 1 : Nat) : Int) - 1 = (k : Int) by omega, upd_same]; decide⟩
    · rw [upd_other _ _ (by omega), upd_other _ _ (by omega)]; exact h.seven
    · by_cases e : z = (k : Int)
      · subst e
        rw [upd_same]
        refine ⟨rfl, by omega, by omega⟩
      · rw [upd_other _ _ e] at h0 ⊢
        by_cases e2 : z = a
        · rw [e2, upd_same] at h0; exact absurd rfl h0
        · rw [upd_other _ _ e2] at h0 ⊢
          have h10 := h.others z hz h0
          have h11 := h.others a ha7 ha.1
          have h12 := ha.2 z h0
          unfold goesB at h12
          rw [decide_eq_false_iff_not] at h12
          simp only at h12
          refine ⟨h10.1, ?_⟩
          omega
set_option maxHeartbeats 4000000 in
theorem main (n often others : Int) (W : World) : Calls Try.prog 6 #[.int .i64 n, .int .i64 often, .int .i64 others] W (Yes W) := by
  have C := Lib.hid (alive_any W)
  by_cases h1 : n < 40
  · go_enter Try.func6, Try.ntmps6
    go_wp2_with fail
    refine C.out.mono ?_
    rintro e w1 ⟨rfl, hb⟩
    have HB := Lib.hid hb
    clear C hb
    go_wp2
    go_ret
    exact ⟨rfl, HB.out⟩
  by_cases h2 : 100 < n
  · go_enter Try.func6, Try.ntmps6
    go_wp2_with fail
    refine C.out.mono ?_
    rintro e w1 ⟨rfl, hb⟩
    have HB := Lib.hid hb
    clear C hb
    go_wp2
    go_ret
    exact ⟨rfl, HB.out⟩
  by_cases h3 : often < 2
  · go_enter Try.func6, Try.ntmps6
    go_wp2_with fail
    refine C.out.mono ?_
    rintro e w1 ⟨rfl, hb⟩
    have HB := Lib.hid hb
    clear C hb
    go_wp2
    go_ret
    exact ⟨rfl, HB.out⟩
  by_cases h4 : n ≤ often
  · go_enter Try.func6, Try.ntmps6
    go_wp2_with fail
    refine C.out.mono ?_
    rintro e w1 ⟨rfl, hb⟩
    have HB := Lib.hid hb
    clear C hb
    go_wp2
    go_ret
    exact ⟨rfl, HB.out⟩
  by_cases h5 : others < 0
  · go_enter Try.func6, Try.ntmps6
    go_wp2_with fail
    refine C.out.mono ?_
    rintro e w1 ⟨rfl, hb⟩
    have HB := Lib.hid hb
    clear C hb
    go_wp2
    go_ret
    exact ⟨rfl, HB.out⟩
  by_cases h6 : 200 < others
  · go_enter Try.func6, Try.ntmps6
    go_wp2_with fail
    refine C.out.mono ?_
    rintro e w1 ⟨rfl, hb⟩
    have HB := Lib.hid hb
    clear C hb
    go_wp2
    go_ret
    exact ⟨rfl, HB.out⟩
  obtain ⟨T, rfl⟩ : ∃ T : Nat, often = (T : Int) := ⟨often.toNat, by omega⟩
  obtain ⟨U, rfl⟩ : ∃ U : Nat, others = (U : Int) := ⟨others.toNat, by omega⟩
  have hT : T ≤ 100 := by omega
  have hT2 : 2 ≤ T := by omega
  have hU : U ≤ 200 := by omega
  go_enter Try.func6, Try.ntmps6
  go_wp2_with fail
  refine C.out.mono ?_
  rintro e w1 ⟨rfl, hb⟩
  have C := Lib.hid (st_new n W w1 hb)
  rw [show max n 0 = n by omega] at C
  clear hb
  go_wp2_with fail
  refine C.out.mono ?_
  rintro e w2 ⟨p, rfl, hS⟩
  have HS2 := Lib.hid hS
  clear C hS
  go_wp2
  go_loopg [8] T (fun g i wr => ∃ k : Nat, g = T - k ∧ k ≤ T ∧ i = .int .i64 (k : Int) ∧ Hid (∃ f m, St W wr p n f m ∧ f 7777 = (k : Int) ∧ (∀ z, z ≠ 7777 → f z = 0) ∧ m = if k = 0 then 0 else 1))
  case atStart => exact ⟨0, rfl, Nat.zero_le _, rfl, Lib.hid ⟨_, _, HS2.out, rfl, fun _ _ => rfl, rfl⟩⟩
  case round =>
    obtain ⟨k, rfl, hk, rfl, HR⟩ := hrel
    by_cases hlt : k < T
    · obtain ⟨f, m, hS, hf, ho, hm⟩ := HR.out
      have C := Lib.hid (st_pass hS (by omega) 7777 (by rw [hf]; omega))
      rw [show decide (n ≤ f 7777 + 1) = false from decide_eq_false (by rw [hf]; omega)] at C
      have HM := Lib.hid (show ∀ f' m', Hot.Pass n f m 7777 false f' m' → f' 7777 = ((k + 1 : Nat) : Int) ∧ (∀ z, z ≠ 7777 → f' z = 0) ∧ m' = if k + 1 = 0 then 0 else 1 from fun f' m' hP => by
        have h1 := hP.at
        have h2 := hP.room (.inr (by rw [hm]; split <;> decide))
        rw [hf] at h1 h2
        rw [if_neg (by omega)] at h1 h2
        refine ⟨by rw [h1]; rfl, fun z hz => by rw [h2.1 z hz]; exact ho z hz, ?_⟩
        have h3 := h2.2
        rw [hm] at h3
        rw [if_neg (by omega)]
        split at h3 <;> split at h3 <;> omega)
      have e1 : (k : Int) < (T : Int) := by omega
      clear hS hf hm ho
      go_wp2_with fail
      refine C.out.mono ?_
      rintro e w3 ⟨f3, m3, rfl, hS3, hP3⟩
      have HS3 := Lib.hid (show ∃ f m, St W w3 p n f m ∧ f 7777 = ((k + 1 : Nat) : Int) ∧ (∀ z, z ≠ 7777 → f z = 0) ∧ m = (if k + 1 = 0 then 0 else 1) from ⟨f3, m3, hS3, HM.out _ _ hP3⟩)
      clear C HM hS3 hP3
      go_wp2
      go_roundg (T - (k + 1))
      case measure => omega
      case rel => exact ⟨k + 1, rfl, by omega, by go_num, HS3⟩
    · obtain rfl : k = T := by omega
      have HS3 := Lib.hid (show ∃ f m, St W wr p n f m ∧ Full (k : Int) 0 f m by
        obtain ⟨f, m, hS, hf, ho, hm⟩ := HR.out
        rw [if_neg (by omega)] at hm
        subst hm
        exact ⟨f, _, hS, Full.zero hf ho⟩)
      clear hlt HR
      obtain ⟨w3, hw3⟩ : ∃ w3, w3 = wr := ⟨_, rfl⟩
      subst hw3
      go_wp2
      go_loopg [9] U (fun g i wr => ∃ q : Nat, g = U - q ∧ q ≤ U ∧ i = .int .i64 (q : Int) ∧ Hid (∃ f m, St W wr p n f m ∧ Full (k : Int) q f m))
      case atStart => exact ⟨0, rfl, Nat.zero_le _, rfl, HS3⟩
      case round =>
        obtain ⟨q, rfl, hq, rfl, HR⟩ := hrel
        by_cases hlt : q < U
        · obtain ⟨f, m, hS, hF⟩ := HR.out
          have hq0 : f (q : Int) = 0 := by
            by_cases h0 : f (q : Int) = 0
            · exact h0
            · have := (hF.others _ (by omega) h0).2.2
              omega
          have C := Lib.hid (st_pass hS (by omega) (q : Int) (by rw [hq0]; decide))
          rw [show decide (n ≤ f (q : Int) + 1) = false from decide_eq_false (by rw [hq0]; omega)] at C
          have HM := Lib.hid (show ∀ w' f' m', St W w' p n f' m' → Hot.Pass n f m (q : Int) false f' m' → Full (k : Int) (q + 1) f' m' from fun w' f' m' hS' hP => (hF.step (by omega) (by omega) (by omega) hP hS'.few).2)
          have e1 : (q : Int) < (U : Int) := by omega
          clear hS hF hq0
          go_wp2_with fail
          refine C.out.mono ?_
          rintro e w4 ⟨f4, m4, rfl, hS4, hP4⟩
          have HS4 := Lib.hid (show ∃ f m, St W w4 p n f m ∧ Full (k : Int) (q + 1) f m from ⟨f4, m4, hS4, HM.out _ _ _ hS4 hP4⟩)
          clear C HM hS4 hP4
          go_wp2
          go_roundg (U - (q + 1))
          case measure => omega
          case rel => exact ⟨q + 1, rfl, by omega, by go_num, HS4⟩
        · obtain rfl : q = U := by omega
          obtain ⟨f, m, hS, hF⟩ := HR.out
          have C := Lib.hid (st_count hS 7777)
          rw [hF.seven] at C
          have D := Lib.hid (st_len hS)
          have HB := Lib.hid hS.below
          have hlen : (m : Int) = min ((q : Int) + 1) 32 := by have := hF.len; omega
          obtain ⟨L, hL⟩ : ∃ L : Int, (m : Int) = L := ⟨_, rfl⟩
          rw [hL] at D hlen
          have hlen' := hlen.symm
          clear hlt hS hF hlen
          go_wp2_with fail
          refine C.out.mono ?_
          rintro e wz ⟨rfl, hwz⟩
          subst wz
          clear C
          go_wp2_with fail
          refine D.out.mono ?_
          rintro e wz ⟨rfl, hwz⟩
          subst wz
          clear D
          go_wp2
          all_goals
            go_ret
            refine ⟨?_, HB.out⟩
            simp
            omega
end Go.Proofs.Ytajgkheagahfeaa.HotFull
