
/- HotForgets: the walk. -/
import Derived.Test.YtajgkheagahfeaaHotMore
import Derived.Deep.RegionWith
namespace Go.Proofs.Ytajgkheagahfeaa.HotForgets
open Go.RowKit Book Book.Wide Hot
set_option linter.unusedSimpArgs false
set_option linter.unusedVariables false
/-- where one ip alone is counted -/
theorem one {n : Int} {f : Int → Int} {m : Nat} {ip : Int} {b : Bool} {f' : Int → Int} {m' : Nat} (h : Hot.Pass n f m ip b f' m') (hp : 0 ≤ f ip) (hm : m = oneIf (f ip)) (hn : ¬ n ≤ f ip + 1) : f' ip = f ip + 1 ∧ m' = oneIf (f' ip) := by
  have h1 := h.at
  have h2 := (h.room (.inr (by rw [hm]; unfold oneIf; split <;> decide))).2
  rw [if_neg hn] at h1 h2
  refine ⟨h1, ?_⟩
  rw [h1, oneIf_yes (by omega)]
  rw [hm] at h2
  by_cases h0 : f ip = 0
  · rw [oneIf_no h0, if_pos h0] at h2; omega
  · rw [oneIf_yes h0, if_neg h0] at h2; omega
set_option maxHeartbeats 4000000 in
theorem main (n ip a b : Int) (W : World) : Calls Try.prog 5 #[.int .i64 n, .int .i64 ip, .int .i64 a, .int .i64 b] W (Yes W) := by
  have C := Lib.hid (alive_any W)
  by_cases h1 : n < 2
  · go_enter Try.func5, Try.ntmps5
    go_wp2_with fail
    refine C.out.mono ?_
    rintro e w1 ⟨rfl, hb⟩
    have HB := Lib.hid hb
    clear C hb
    go_wp2
    go_ret
    exact ⟨rfl, HB.out⟩
  by_cases h2 : 100 < n
  · go_enter Try.func5, Try.ntmps5
    go_wp2_with fail
    refine C.out.mono ?_
    rintro e w1 ⟨rfl, hb⟩
    have HB := Lib.hid hb
    clear C hb
    go_wp2
    go_ret
    exact ⟨rfl, HB.out⟩
  by_cases h3 : a < 0
  · go_enter Try.func5, Try.ntmps5
    go_wp2_with fail
    refine C.out.mono ?_
    rintro e w1 ⟨rfl, hb⟩
    have HB := Lib.hid hb
    clear C hb
    go_wp2
    go_ret
    exact ⟨rfl, HB.out⟩
  by_cases h4 : b < 0
  · go_enter Try.func5, Try.ntmps5
    go_wp2_with fail
    refine C.out.mono ?_
    rintro e w1 ⟨rfl, hb⟩
    have HB := Lib.hid hb
    clear C hb
    go_wp2
    go_ret
    exact ⟨rfl, HB.out⟩
  by_cases h5 : n ≤ a
  · go_enter Try.func5, Try.ntmps5
    go_wp2_with fail
    refine C.out.mono ?_
    rintro e w1 ⟨rfl, hb⟩
    have HB := Lib.hid hb
    clear C hb
    go_wp2
    go_ret
    exact ⟨rfl, HB.out⟩
  by_cases h6 : n ≤ b
  · go_enter Try.func5, Try.ntmps5
    go_wp2_with fail
    refine C.out.mono ?_
    rintro e w1 ⟨rfl, hb⟩
    have HB := Lib.hid hb
    clear C hb
    go_wp2
    go_ret
    exact ⟨rfl, HB.out⟩
  obtain ⟨T, rfl⟩ : ∃ T : Nat, a = (T : Int) := ⟨a.toNat, by omega⟩
  obtain ⟨U, rfl⟩ : ∃ U : Nat, b = (U : Int) := ⟨b.toNat, by omega⟩
  have hT : T ≤ 100 := by omega
  have hU : U ≤ 100 := by omega
  go_enter Try.func5, Try.ntmps5
  go_wp2_with fail
  refine C.out.mono ?_
  rintro e w1 ⟨rfl, hb⟩
  have C := Lib.hid (st_new n W w1 hb)
  rw [show max n 0 = n by omega] at C
  clear hb
  go_wp2_with fail
  refine C.out.mono ?_
  rintro e w2 ⟨p, rfl, hS⟩
  have HS2 := Lib.hid hS
  clear C hS
  go_wp2
  go_loopg [10] T (fun g i wr => ∃ k : Nat, g = T - k ∧ k ≤ T ∧ i = .int .i64 (k : Int) ∧ Hid (∃ f m, St W wr p n f m ∧ f ip = (k : Int) ∧ m = oneIf (k : Int)))
  case atStart => exact ⟨0, rfl, Nat.zero_le _, rfl, Lib.hid ⟨_, _, HS2.out, rfl, rfl⟩⟩
  case round =>
    obtain ⟨k, rfl, hk, rfl, HR⟩ := hrel
    by_cases hlt : k < T
    · obtain ⟨f, m, hS, hf, hm⟩ := HR.out
      have C := Lib.hid (st_pass hS (by omega) ip (by rw [hf]; omega))
      rw [show decide (n ≤ f ip + 1) = false from decide_eq_false (by rw [hf]; omega)] at C
      have HM := Lib.hid (show ∀ f' m', Hot.Pass n f m ip false f' m' → f' ip = ((k + 1 : Nat) : Int) ∧ m' = oneIf ((k + 1 : Nat) : Int) from fun f' m' hP => by
        have h1 := one hP (by rw [hf]; omega) (by rw [hf]; exact hm) (by rw [hf]; omega)
        have h2 : f' ip = ((k + 1 : Nat) : Int) := by rw [h1.1, hf]; rfl
        exact ⟨h2, by rw [h1.2, h2]⟩)
      have e1 : (k : Int) < (T : Int) := by omega
      clear hS hf hm
      go_wp2_with fail
      refine C.out.mono ?_
      rintro e w3 ⟨f3, m3, rfl, hS3, hP3⟩
      have HS3 := Lib.hid (show ∃ f m, St W w3 p n f m ∧ f ip = ((k + 1 : Nat) : Int) ∧ m = oneIf ((k + 1 : Nat) : Int) from ⟨f3, m3, hS3, HM.out _ _ hP3⟩)
      clear C HM hS3 hP3
      go_wp2
      go_roundg (T - (k + 1))
      case measure => omega
      case rel => exact ⟨k + 1, rfl, by omega, by go_num, HS3⟩
    · obtain rfl : k = T := by omega
      obtain ⟨f, m, hS, hf, hm⟩ := HR.out
      have C := Lib.hid (st_forget hS ip)
      have HM := Lib.hid (show upd f ip 0 ip = 0 ∧ m - oneIf (f ip) = oneIf ((0 : Nat) : Int) from ⟨upd_same _ _ _, by rw [hm, hf, Nat.sub_self]; rfl⟩)
      clear hlt hS hf hm
      go_wp2_with fail
      refine C.out.mono ?_
      rintro e w3 ⟨rfl, hS⟩
      have HS3 := Lib.hid (show ∃ f m, St W w3 p n f m ∧ f ip = ((0 : Nat) : Int) ∧ m = oneIf ((0 : Nat) : Int) from ⟨_, _, hS, HM.out⟩)
      clear C hS HM HR
      go_wp2
      go_loopg [11] U (fun g i wr => ∃ k : Nat, g = U - k ∧ k ≤ U ∧ i = .int .i64 (k : Int) ∧ Hid (∃ f m, St W wr p n f m ∧ f ip = (k : Int) ∧ m = oneIf (k : Int)))
      case atStart => exact ⟨0, rfl, Nat.zero_le _, rfl, HS3⟩
      case round =>
        obtain ⟨q, rfl, hq, rfl, HR⟩ := hrel
        by_cases hlt : q < U
        · obtain ⟨f, m, hS, hf, hm⟩ := HR.out
          have C := Lib.hid (st_pass hS (by omega) ip (by rw [hf]; omega))
          rw [show decide (n ≤ f ip + 1) = false from decide_eq_false (by rw [hf]; omega)] at C
          have HM := Lib.hid (show ∀ f' m', Hot.Pass n f m ip false f' m' → f' ip = ((q + 1 : Nat) : Int) ∧ m' = oneIf ((q + 1 : Nat) : Int) from fun f' m' hP => by
            have h1 := one hP (by rw [hf]; omega) (by rw [hf]; exact hm) (by rw [hf]; omega)
            have h2 : f' ip = ((q + 1 : Nat) : Int) := by rw [h1.1, hf]; rfl
            exact ⟨h2, by rw [h1.2, h2]⟩)
          have e1 : (q : Int) < (U : Int) := by omega
          clear hS hf hm
          go_wp2_with fail
          refine C.out.mono ?_
          rintro e w3 ⟨f3, m3, rfl, hS3, hP3⟩
          have HS4 := Lib.hid (show ∃ f m, St W w3 p n f m ∧ f ip = ((q + 1 : Nat) : Int) ∧ m = oneIf ((q + 1 : Nat) : Int) from ⟨f3, m3, hS3, HM.out _ _ hP3⟩)
          clear C HM hS3 hP3
          go_wp2
          go_roundg (U - (q + 1))
          case measure => omega
          case rel => exact ⟨q + 1, rfl, by omega, by go_num, HS4⟩
        · obtain rfl : q = U := by omega
          obtain ⟨f, m, hS, hf, hm⟩ := HR.out
          have C := Lib.hid (st_count hS ip)
          rw [hf] at C
          have HB := Lib.hid hS.below
          clear hlt hS hf hm
          go_wp2_with fail
          refine C.out.mono ?_
          rintro e wz ⟨rfl, hwz⟩
          subst wz
          clear C
          go_wp2
          go_ret
          exact ⟨by simp, HB.out⟩
end Go.Proofs.Ytajgkheagahfeaa.HotForgets
