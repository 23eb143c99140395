
/- HotRounds: the walk. -/
import Derived.Test.YtajgkheagahfeaaHotMore
import Derived.Deep.RegionWith
namespace Go.Proofs.Ytajgkheagahfeaa.HotRounds
open Go.RowKit Book Book.Wide Hot
set_option linter.unusedSimpArgs false
set_option linter.unusedVariables false
theorem mod_step (k n : Nat) (hn : 0 < n) : ((k + 1) % n = if n ≤ k % n + 1 then 0 else k % n + 1) := by
  have := Nat.mod_lt k hn
  split
  · have e : k % n + 1 = n := by omega
    rw [Nat.add_mod, show (k % n + 1 % n) % n = (k + 1) % n from (Nat.add_mod k 1 n).symm]
    have h2 : k + 1 = n * (k / n) + n := by have := Nat.div_add_mod k n; omega
    rw [h2, Nat.add_mod_right, Nat.mul_mod_right]
  · have h2 : k + 1 = n * (k / n) + (k % n + 1) := by have := Nat.div_add_mod k n; omega
    conv => lhs; rw [h2]
    rw [Nat.mul_add_mod]
    exact Nat.mod_eq_of_lt (by omega)
set_option maxHeartbeats 4000000 in
theorem main (n ip times : Int) (W : World) : Calls Try.prog 4 #[.int .i64 n, .int .i64 ip, .int .i64 times] W (Yes W) := by
  have C := Lib.hid (alive_any W)
  by_cases h1 : n < 1
  · go_enter Try.func4, Try.ntmps4
    go_wp2_with fail
    refine C.out.mono ?_
    rintro e w1 ⟨rfl, hb⟩
    have HB := Lib.hid hb
    clear C hb
    go_wp2
    go_ret
    exact ⟨rfl, HB.out⟩
  by_cases h2 : 100 < n
  · go_enter Try.func4, Try.ntmps4
    go_wp2_with fail
    refine C.out.mono ?_
    rintro e w1 ⟨rfl, hb⟩
    have HB := Lib.hid hb
    clear C hb
    go_wp2
    go_ret
    exact ⟨rfl, HB.out⟩
  by_cases h3 : times < 0
  · go_enter Try.func4, Try.ntmps4
    go_wp2_with fail
    refine C.out.mono ?_
    rintro e w1 ⟨rfl, hb⟩
    have HB := Lib.hid hb
    clear C hb
    go_wp2
    go_ret
    exact ⟨rfl, HB.out⟩
  by_cases h4 : 500 < times
  · go_enter Try.func4, Try.ntmps4
    go_wp2_with fail
    refine C.out.mono ?_
    rintro e w1 ⟨rfl, hb⟩
    have HB := Lib.hid hb
    clear C hb
    go_wp2
    go_ret
    exact ⟨rfl, HB.out⟩
  obtain ⟨N, rfl⟩ : ∃ N : Nat, n = (N : Int) := ⟨n.toNat, by omega⟩
  obtain ⟨T, rfl⟩ : ∃ T : Nat, times = (T : Int) := ⟨times.toNat, by omega⟩
  have hT : T ≤ 500 := by omega
  have hN0 : 0 < N := by omega
  have hN : N ≤ 100 := by omega
  go_enter Try.func4, Try.ntmps4
  go_wp2_with fail
  refine C.out.mono ?_
  rintro e w1 ⟨rfl, hb⟩
  have C := Lib.hid (st_new (N : Int) W w1 hb)
  rw [show max (N : Int) 0 = (N : Int) by omega] at C
  clear hb
  go_wp2_with fail
  refine C.out.mono ?_
  rintro e w2 ⟨p, rfl, hS⟩
  have HS2 := Lib.hid hS
  clear C hS
  go_wp2
  go_loopg [8] T (fun g i wr => ∃ k : Nat, g = T - k ∧ k ≤ T ∧ i = .int .i64 ((k : Int) + 1) ∧ Hid (∃ f m, St W wr p (N : Int) f m ∧ f ip = ((k % N : Nat) : Int) ∧ m = if k % N = 0 then 0 else 1))
  case atStart => exact ⟨0, rfl, Nat.zero_le _, rfl, Lib.hid ⟨_, _, HS2.out, by simp, by simp⟩⟩
  case round =>
    obtain ⟨k, rfl, hk, rfl, HR⟩ := hrel
    by_cases hlt : k < T
    · obtain ⟨f, m, hS, hf, hm⟩ := HR.out
      have hmod : k % N < N := Nat.mod_lt _ hN0
      have C := Lib.hid (st_pass hS.drew (by omega) ip (by rw [hf]; omega))
      have e1 : (k : Int) + 1 ≤ (T : Int) := by omega
      have hr : ((k : Int) + 1).tmod (N : Int) = (((k + 1) % N : Nat) : Int) := by
        rw [Int.tmod_eq_emod_of_nonneg (by omega)]; rfl
      have hstep := mod_step k N hN0
      have HM := Lib.hid (show ∀ f' m', Hot.Pass (N : Int) f m ip (decide ((N : Int) ≤ f ip + 1)) f' m' → f' ip = (((k + 1) % N : Nat) : Int) ∧ m' = if (k + 1) % N = 0 then 0 else 1 from fun f' m' hP => by
        have h1 := hP.at
        have h2 := (hP.room (.inr (by rw [hm]; split <;> decide))).2
        rw [hf] at h1 h2
        rw [hm] at h2
        rw [hstep]
        by_cases h : N ≤ k % N + 1
        · rw [if_pos (by omega)] at h1 h2
          rw [if_pos h]
          refine ⟨h1, ?_⟩
          rw [if_pos rfl]
          split at h2 <;> split at h2 <;> omega
        · rw [if_neg (by omega)] at h1 h2
          rw [if_neg h]
          refine ⟨by rw [h1]; omega, ?_⟩
          rw [if_neg (by omega)]
          split at h2 <;> split at h2 <;> omega)
      have hb : decide ((N : Int) ≤ f ip + 1) = ((((k + 1) % N : Nat) : Int) == 0) := by
        rw [hf, hstep]
        by_cases h : N ≤ k % N + 1
        · rw [if_pos h, decide_eq_true (by omega)]; rfl
        · rw [if_neg h, decide_eq_false (by omega)]; symm; simp; omega
      rw [hb] at C HM
      obtain ⟨r, hrr⟩ : ∃ r : Int, (((k + 1) % N : Nat) : Int) = r := ⟨_, rfl⟩
      rw [hrr] at C HM hr
      have HRR := Lib.hid hrr
      have hN1 : ((N : Int) == 0) = false := by simp; omega
      have hN2 : ¬ (N : Int) = 0 := by omega
      have hKW : IntKind.i64.wrap ((k : Int) + 1 + 1) = (k : Int) + 1 + 1 := IntWalk.i64_in _ (by omega)
      have HD := Lib.hid (hN0)
      clear hS hf hm hstep hb hrr hmod
      go_wp2_with fail
      go_region_with ((go_at_call 9; refine C.out.mono ?_; rintro e w3 ⟨f3, m3, rfl, hS3, hP3⟩; have HS3 := Lib.hid (show ∃ f m, St W w3 p (N : Int) f m ∧ f ip = (((k + 1) % N : Nat) : Int) ∧ m = (if (k + 1) % N = 0 then 0 else 1) from ⟨f3, m3, hS3, by rw [HRR.out]; exact (HM.out _ _ hP3).1, (HM.out _ _ hP3).2⟩); clear hS3 hP3))
      all_goals
        go_wp2
        go_roundg (T - (k + 1))
        case measure => omega
        case rel => exact ⟨k + 1, rfl, by omega, by go_num, HS3⟩
    · obtain rfl : k = T := by omega
      obtain ⟨f, m, hS, hf, hm⟩ := HR.out
      have hr : (k : Int).tmod (N : Int) = ((k % N : Nat) : Int) := by
        rw [Int.tmod_eq_emod_of_nonneg (by omega)]; rfl
      obtain ⟨r, hrr⟩ : ∃ r : Int, ((k % N : Nat) : Int) = r := ⟨_, rfl⟩
      rw [hrr] at hr hf
      have C := Lib.hid (fun q => st_count (hS.drewN q) ip)
      rw [hf] at C
      have HB := Lib.hid (fun q => (hS.drewN q).below)
      have hN1 : ((N : Int) == 0) = false := by simp; omega
      have hN2 : ¬ (N : Int) = 0 := by omega
      clear hlt hS hf hm hrr
      go_wp2_with fail
      go_quiet ((go_at_call 11; exact Calls.quiet_of_same (C.out _)))
      go_wp2
      go_ret
      exact ⟨by simp, HB.out _⟩
end Go.Proofs.Ytajgkheagahfeaa.HotRounds
