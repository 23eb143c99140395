
/- HotPlays: the walk. -/
import Derived.Test.YtajgkheagahfeaaHotBest
import Derived.Deep.RegionWith
import Derived.Carry
namespace Go.Proofs.Ytajgkheagahfeaa.HotPlays
open Go.RowKit Book Book.Wide Hot Go.Maps
set_option linter.unusedSimpArgs false
set_option linter.unusedVariables false
set_option maxHeartbeats 16000000 in
set_option maxRecDepth 100000 in
theorem main (n : Int) (vo : Value) (ops : List (Int × Int)) (ask : Int) (W : World) (ho : OpsAt W vo ops) (hl : ops.length ≤ 300) (wa : (Lit.int .i64 ask).wf = true) :
    Calls Try.prog 3 #[.int .i64 n, vo, .int .i64 ask] W (Yes W) := by
  have HO := Lib.hid ho
  obtain ⟨oo, oc, rfl, _⟩ := ho
  obtain ⟨L, hL⟩ : ∃ L, ops.length = L := ⟨_, rfl⟩
  have HL := Lib.hid hL
  rw [hL] at hl HO ⊢
  clear hL
  have HWA := Lib.hid wa
  have hmm := @run_makeMap Try.prog
  have C := Lib.hid (alive_any W)
  have e1 : decide (300 < (L : Int)) = false := decide_eq_false (by omega)
  clear wa
  go_enter Try.func3, Try.ntmps3
  go_wp2_with fail
  refine C.out.mono ?_
  rintro e w1 ⟨rfl, hb⟩
  have C := Lib.hid (st_new n W w1 hb)
  obtain ⟨N, hN⟩ : ∃ N, max n 0 = N := ⟨_, rfl⟩
  rw [hN] at C
  have HN := Lib.hid hN
  clear hb hN e1
  go_wp2_with fail
  refine C.out.mono ?_
  rintro e w2 ⟨p, rfl, hS⟩
  have HS2 := Lib.hid hS
  clear C hS
  obtain ⟨w3, hw3⟩ : ∃ w3, w2.alloc (.map #[] 0) = w3 := ⟨_, rfl⟩
  obtain ⟨bm, hbm⟩ : ∃ bm, w2.heap.size = bm := ⟨_, rfl⟩
  have HP3 := Lib.hid (show PS W w3 p N (fun _ => 0) 0 bm 0 (fun _ => 0) 0 from by
    have hb := (Below.refl w2.heap.size w2).alloc (Nat.le_refl _) (.map #[] 0)
    have hc := CntAt.made w2
    rw [hw3] at hb hc
    rw [hbm] at hc
    exact ⟨HS2.out.kept hb, hc, by rw [← hbm]; exact HS2.out.below.size⟩)
  go_wp2
  clear hw3 hbm hmm HS2
  go_loopg [9] L (fun g i wr => ∃ k : Nat, g = L - k ∧ k ≤ L ∧ i = .int .i64 (k : Int) ∧ Hid (∃ f m, PS W wr p N f m bm k f m ∧ ∀ z, f z ≤ (k : Int)))
  case atStart => exact ⟨0, rfl, Nat.zero_le _, rfl, Lib.hid ⟨_, _, HP3.out, fun _ => Int.le_refl _⟩⟩
  case round =>
    obtain ⟨k, rfl, hk, rfl, HR⟩ := hrel
    obtain ⟨ws, hws⟩ : ∃ ws, ws = wr := ⟨_, rfl⟩
    subst hws
    by_cases hlt : k < L
    · obtain ⟨f, m, hPS, hle⟩ := HR.out
      obtain ⟨⟨kd, ip⟩, hx⟩ : ∃ x, ops[k]? = some x := ⟨_, List.getElem?_eq_getElem (by rw [HL.out]; exact hlt)⟩
      obtain ⟨oo', oc', e', hops⟩ := HO.out.below hPS.st.below
      rw [HL.out] at e'
      simp only [Value.slice.injEq] at e'
      obtain ⟨rfl, _, rfl⟩ := e'
      obtain ⟨ad, rfl, c0, c1, wip⟩ := hops k kd ip hx
      have e1 : ad.add (k * 2 + 1) = ⟨(ad.add (k * 2)).block, (ad.add (k * 2)).off + 1, none⟩ := by rw [← Go.Deep.add_add]; rfl
      rw [e1] at c1
      have HWI := Lib.hid wip
      have HPS := Lib.hid hPS
      have HLE := Lib.hid hle
      have HM := Lib.hid hPS.st.few
      have z0 : (0 : Int) ≤ (k : Int) := by omega
      have z1 : (k : Int) < (L : Int) := by omega
      obtain ⟨c, hcz⟩ : ∃ c, f ip = c := ⟨_, rfl⟩
      have HCZ := Lib.hid hcz
      have hc0 : 0 ≤ c := by rw [← hcz]; exact hPS.st.pos ip
      have hck : c ≤ (k : Int) := by rw [← hcz]; exact hle ip
      clear hPS hle hx e1 hops hcz HR wip
      by_cases hkd : kd = 1
      · subst hkd
        by_cases hn : 0 < n
        · obtain rfl : n = N := by have := HN.out; omega
          have K1 : (Instr.lookup 26 (.map (some bm)) (.int .i64 ip) false).run Try.prog ws = .ok (.int .i64 c) ws := by have := HPS.out.cnt.look ip HWI.out; rw [HCZ.out] at this; exact this
          have K3 := HPS.out.cnt.size
          by_cases hz : c = 0
          · have K2 : (Instr.lookup 26 (.map (some bm)) (.int .i64 ip) true).run Try.prog ws = .ok (.tuple #[.int .i64 c, .bool false]) ws := by
              have := HPS.out.cnt.look_ok ip HWI.out
              rw [HCZ.out, decide_eq_false (by simpa using hz)] at this
              exact this
            have HZ := Lib.hid (show f ip = 0 by rw [HCZ.out, hz])
            clear hz
            by_cases hm : m < 32
            · have y1 : ¬ (32 : Int) ≤ (m : Int) := by omega
              have HG := Lib.hid (room_free (.inr hm) : ∀ f1 m1, Room f m ip f1 m1 → f1 = f ∧ m1 = m)
              have HGI := Lib.hid (show f ip = c from HCZ.out)
              have HGL := Lib.hid (show ∀ z, f z ≤ (k : Int) from HLE.out)
              have HP6 := HPS
              have hwr : IntKind.i64.wrap (c + 1) = c + 1 := IntWalk.i64_in _ (by omega)
              have hw1 : c + 1 ≠ 0 ∧ c + 1 ≤ ((k + 1 : Nat) : Int) ∧ (Lit.int .i64 (c + 1)).wf = true := ⟨by omega, by omega, WalkArith.wf_i64 (by omega)⟩
              have HPC := Lib.hid (show (f ip ≤ 1000000) from by rw [HCZ.out]; omega)
              obtain ⟨c1, hc1⟩ : ∃ c1, c + 1 = c1 := ⟨_, rfl⟩
              rw [hc1] at hwr hw1
              have HW1 := Lib.hid hw1
              have HC1 := Lib.hid hc1
              have HKM := Lib.hid (show k < maxLen by unfold maxLen; omega)
              clear hw1
              by_cases hh : n ≤ c1
              · have HH := Lib.hid hh
                go_wp2_with (first
                  | (at_mapUpdate
                     refine wpList_put_cnt rfl _ _ _ rfl bm k f m rfl HP6.out.cnt HKM.out ip rfl HWI.out c1 rfl HW1.out.2.2 HW1.out.1 ?_
                     intro w5 hC5 hS5
                     have HP5 := Lib.hid (HP6.out.turned hC5 hS5)
                     have J5 : (Instr.lookup 26 (.map (some bm)) (.int .i64 ip) false).run Try.prog w5 = .ok (.int .i64 c1) w5 := by have := hC5.look ip HWI.out; rw [upd_same] at this; exact this
                     clear hC5 hS5)
                  | (at_delete
                     refine wpList_del_cnt rfl _ _ rfl bm (k + 1) (upd f ip c1) (m + 1 - oneIf (f ip)) rfl HP5.out.cnt ip rfl HWI.out ?_
                     intro w7 hC7 hS7
                     have HP7 := Lib.hid (HP5.out.turned hC7 hS7)
                     clear hC7 hS7))
                have C := Lib.hid (ps_pass HP7.out (show 0 < n by omega) ip HPC.out)
                rw [show decide (n ≤ f ip + 1) = true from decide_eq_true (by rw [HCZ.out, HC1.out]; exact hh)] at C
                go_wp2_with fail
                refine C.out.mono ?_
                rintro e w8 ⟨f8, m8, rfl, hP8, hPs⟩
                have HQ := Lib.hid (show PS W w8 p n f8 m8 bm (k + 1) f8 m8 from by
                  have h1 := (hPs.both HCZ.out HG.out).1 (by rw [HC1.out]; exact HH.out)
                  rw [HC1.out] at h1
                  have h2 : m8 = m + 1 - oneIf (f ip) - oneIf (upd f ip c1 ip) := by rw [upd_same, HGI.out, oneIf_yes HW1.out.1]; omega
                  have h3 := hP8
                  rw [← h1.1, ← h2] at h3
                  exact h3)
                have HQL := Lib.hid (show ∀ z, f8 z ≤ ((k + 1 : Nat) : Int) from by
                  have h1 := (hPs.both HCZ.out HG.out).1 (by rw [HC1.out]; exact HH.out)
                  rw [h1.1, HC1.out]
                  exact upd_le (upd_le (fun z => by have := HGL.out z; omega) _ _ HW1.out.2.1) _ _ (by omega))
                clear C hP8 hPs J5
                obtain ⟨ca, hca⟩ : ∃ ca, f8 ask = ca := ⟨_, rfl⟩
                obtain ⟨ci, hci⟩ : ∃ ci, f8 ip = ci := ⟨_, rfl⟩
                have C1 := Lib.hid (fun q => st_count (HQ.out.drewN q).st ask)
                have C2 := Lib.hid (fun q => st_count (HQ.out.drewN q).st ip)
                have C3 := Lib.hid (fun q => st_len (HQ.out.drewN q).st)
                have L1 : ∀ q, (Instr.lookup 26 (.map (some bm)) (.int .i64 ask) false).run Try.prog (w8.drewN q) = .ok (.int .i64 ca) (w8.drewN q) := fun q => by have := (HQ.out.drewN q).cnt.look ask HWA.out; rw [hca] at this; exact this
                have L2 : ∀ q, (Instr.lookup 26 (.map (some bm)) (.int .i64 ip) false).run Try.prog (w8.drewN q) = .ok (.int .i64 ci) (w8.drewN q) := fun q => by have := (HQ.out.drewN q).cnt.look ip HWI.out; rw [hci] at this; exact this
                have L3 : ∀ q ty, (Builtin.len_ #[26] ty #[.map (some bm)]).run Try.prog (w8.drewN q) = .ok (.int .i64 (m8 : Int)) (w8.drewN q) := fun q ty => (HQ.out.drewN q).cnt.size ty
                rw [hca] at C1
                rw [hci] at C2
                have hm32 := HQ.out.st.few
                have y9 : ¬ (32 : Int) < (m8 : Int) := by omega
                clear hca hci
                go_wp2_with fail
                go_quiet (first | (go_at_call 11; exact Calls.quiet_of_same (by first | with_reducible exact C1.out _ | with_reducible exact C2.out _)) | (go_at_call 12; exact Calls.quiet_of_same (C3.out _)))
                go_wp2
                go_roundg (L - (k + 1))
                case measure => omega
                case rel => exact ⟨k + 1, rfl, by omega, by go_num, Lib.hid ⟨_, _, HQ.out.drewN _, HQL.out⟩⟩
              · have HH := Lib.hid hh
                go_wp2_with (first
                  | (at_mapUpdate
                     refine wpList_put_cnt rfl _ _ _ rfl bm k f m rfl HP6.out.cnt HKM.out ip rfl HWI.out c1 rfl HW1.out.2.2 HW1.out.1 ?_
                     intro w5 hC5 hS5
                     have HP5 := Lib.hid (HP6.out.turned hC5 hS5)
                     have J5 : (Instr.lookup 26 (.map (some bm)) (.int .i64 ip) false).run Try.prog w5 = .ok (.int .i64 c1) w5 := by have := hC5.look ip HWI.out; rw [upd_same] at this; exact this
                     clear hC5 hS5))
                have C := Lib.hid (ps_pass HP5.out (show 0 < n by omega) ip HPC.out)
                rw [show decide (n ≤ f ip + 1) = false from decide_eq_false (by rw [HCZ.out, HC1.out]; exact Int.not_le.2 HH.out)] at C
                go_wp2_with fail
                refine C.out.mono ?_
                rintro e w8 ⟨f8, m8, rfl, hP8, hPs⟩
                have HQ := Lib.hid (show PS W w8 p n f8 m8 bm (k + 1) f8 m8 from by
                  have h1 := (hPs.both HCZ.out HG.out).2 (by rw [HC1.out]; exact Int.not_le.2 HH.out)
                  rw [HC1.out] at h1
                  have h2 : m8 = m + 1 - oneIf (f ip) := by rw [HGI.out]; exact h1.2
                  have h3 := hP8
                  rw [← h1.1, ← h2] at h3
                  exact h3)
                have HQL := Lib.hid (show ∀ z, f8 z ≤ ((k + 1 : Nat) : Int) from by
                  have h1 := (hPs.both HCZ.out HG.out).2 (by rw [HC1.out]; exact Int.not_le.2 HH.out)
                  rw [h1.1, HC1.out]
                  exact upd_le (fun z => by have := HGL.out z; omega) _ _ HW1.out.2.1)
                clear C hP8 hPs J5
                obtain ⟨ca, hca⟩ : ∃ ca, f8 ask = ca := ⟨_, rfl⟩
                obtain ⟨ci, hci⟩ : ∃ ci, f8 ip = ci := ⟨_, rfl⟩
                have C1 := Lib.hid (fun q => st_count (HQ.out.drewN q).st ask)
                have C2 := Lib.hid (fun q => st_count (HQ.out.drewN q).st ip)
                have C3 := Lib.hid (fun q => st_len (HQ.out.drewN q).st)
                have L1 : ∀ q, (Instr.lookup 26 (.map (some bm)) (.int .i64 ask) false).run Try.prog (w8.drewN q) = .ok (.int .i64 ca) (w8.drewN q) := fun q => by have := (HQ.out.drewN q).cnt.look ask HWA.out; rw [hca] at this; exact this
                have L2 : ∀ q, (Instr.lookup 26 (.map (some bm)) (.int .i64 ip) false).run Try.prog (w8.drewN q) = .ok (.int .i64 ci) (w8.drewN q) := fun q => by have := (HQ.out.drewN q).cnt.look ip HWI.out; rw [hci] at this; exact this
                have L3 : ∀ q ty, (Builtin.len_ #[26] ty #[.map (some bm)]).run Try.prog (w8.drewN q) = .ok (.int .i64 (m8 : Int)) (w8.drewN q) := fun q ty => (HQ.out.drewN q).cnt.size ty
                rw [hca] at C1
                rw [hci] at C2
                have hm32 := HQ.out.st.few
                have y9 : ¬ (32 : Int) < (m8 : Int) := by omega
                clear hca hci
                go_wp2_with fail
                go_quiet (first | (go_at_call 11; exact Calls.quiet_of_same (by first | with_reducible exact C1.out _ | with_reducible exact C2.out _)) | (go_at_call 12; exact Calls.quiet_of_same (C3.out _)))
                go_wp2
                go_roundg (L - (k + 1))
                case measure => omega
                case rel => exact ⟨k + 1, rfl, by omega, by go_num, Lib.hid ⟨_, _, HQ.out.drewN _, HQL.out⟩⟩
            · have y1 : (32 : Int) ≤ (m : Int) := by omega
              obtain ⟨D, hD, hC⟩ := HPS.out.cnt
              have HC := Lib.hid hC
              have HD := Lib.hid hD
              have HSM := Lib.hid (HPS.out.st.any (by omega))
              have HM2 := Lib.hid (show 32 ≤ m by omega)
              clear hC hD
              go_wp2_with (at_range; refine wpList_range_own _ rfl _ 26 rfl 3 3 intKeys Try.underlying26 _ bm k D rfl HD.out ?_; intro w0 hrg0 hg0 hs0)
              go_frame
              have HRG := Lib.hid hrg0
              have HG0 := Lib.hid hg0
              clear hrg0 hg0 hs0 K1 K2 K3 c0 c1
              go_loopg [14, 15] (Maps.size D) (fun g a b wx => ∃ (lv av : Int) (left : Lit → Bool), a = .int .i64 lv ∧ b = .int .i64 av ∧ Hid (wx.ranges Try.prog 3 (plainElem Try.prog 3) bm ws.heap.size k D left g) ∧ Hid (ws.grownBy wx none) ∧ Hid (Best f left lv av) ∧ Hid ((Lit.int .i64 av).wf = true))
              case atStart => exact ⟨0, 0, _, rfl, rfl, HRG, HG0, Lib.hid (.inl ⟨rfl, fun z hz => by rw [HC.out.is]; simpa using hz⟩), Lib.hid (by decide)⟩
              case round =>
                obtain ⟨lv, av, left, rfl, rfl, HRG, HGW, HB, HAV⟩ := hrel
                go_wp2_with (at_next; refine wpList_next_ranges_ii _ rfl _ rfl 3 3 .i64 .i64 intKeys Try.underlying3 Try.underlying3 bm ws.heap.size k _ _ _ rfl HRG.out ?_ ?_)
                · intro _ hl0
                  have HLS := Lib.hid (HB.out.least hl0 HSM.out)
                  have HPR := Lib.hid (show PS W wr p n f m bm k f m from HPS.out.kept ((Stirred.of_grown HGW.out).below (fun _ h => by cases h) (Nat.le_refl _)))
                  have hne : ip ≠ av := by
                    rintro rfl
                    exact HLS.out.1 HZ.out
                  have HNE := Lib.hid hne
                  clear hl0 HB HRG hne
                  have hwr : IntKind.i64.wrap (c + 1) = c + 1 := IntWalk.i64_in _ (by omega)
                  have hw1 : c + 1 ≠ 0 ∧ c + 1 ≤ ((k + 1 : Nat) : Int) ∧ (Lit.int .i64 (c + 1)).wf = true := ⟨by omega, by omega, WalkArith.wf_i64 (by omega)⟩
                  have HPC := Lib.hid (show (f ip ≤ 1000000) from by rw [HCZ.out]; omega)
                  obtain ⟨c1, hc1⟩ : ∃ c1, c + 1 = c1 := ⟨_, rfl⟩
                  rw [hc1] at hwr hw1
                  have HW1 := Lib.hid hw1
                  have HC1 := Lib.hid hc1
                  have HKM := Lib.hid (show k < maxLen by unfold maxLen; omega)
                  clear hw1
                  by_cases hh : n ≤ c1
                  · have HH := Lib.hid hh
                    go_wp2_with (first
                      | (at_delete
                         refine wpList_del_cnt rfl _ _ rfl bm k f m rfl HPR.out.cnt av rfl HAV.out ?_
                         intro w6 hC6 hS6
                         obtain ⟨g, hg⟩ : ∃ g, upd f av 0 = g := ⟨_, rfl⟩
                         obtain ⟨mg, hmg⟩ : ∃ mg, m - oneIf (f av) = mg := ⟨_, rfl⟩
                         rw [hg, hmg] at hC6
                         have HP6 := Lib.hid (HPR.out.turned hC6 hS6)
                         have HGI := Lib.hid (show g ip = c by rw [← hg, upd_other _ _ HNE.out]; exact HCZ.out)
                         have HG := Lib.hid (show ∀ f1 m1, Room f m ip f1 m1 → f1 = g ∧ m1 = mg by rw [← hg, ← hmg]; exact room_full HZ.out HM2.out HLS.out)
                         have HGL := Lib.hid (show ∀ z, g z ≤ (k : Int) by rw [← hg]; exact upd_le HLE.out _ _ (by omega))
                         have J1 : (Instr.lookup 26 (.map (some bm)) (.int .i64 ip) false).run Try.prog w6 = .ok (.int .i64 c) w6 := by have := hC6.look ip HWI.out; rw [HGI.out] at this; exact this
                         clear hC6 hS6 hg hmg)
                      | (at_mapUpdate
                         refine wpList_put_cnt rfl _ _ _ rfl bm k g mg rfl HP6.out.cnt HKM.out ip rfl HWI.out c1 rfl HW1.out.2.2 HW1.out.1 ?_
                         intro w5 hC5 hS5
                         have HP5 := Lib.hid (HP6.out.turned hC5 hS5)
                         have J5 : (Instr.lookup 26 (.map (some bm)) (.int .i64 ip) false).run Try.prog w5 = .ok (.int .i64 c1) w5 := by have := hC5.look ip HWI.out; rw [upd_same] at this; exact this
                         clear hC5 hS5)
                      | (at_delete
                         refine wpList_del_cnt rfl _ _ rfl bm (k + 1) (upd g ip c1) (mg + 1 - oneIf (g ip)) rfl HP5.out.cnt ip rfl HWI.out ?_
                         intro w7 hC7 hS7
                         have HP7 := Lib.hid (HP5.out.turned hC7 hS7)
                         clear hC7 hS7))
                    have C := Lib.hid (ps_pass HP7.out (show 0 < n by omega) ip HPC.out)
                    rw [show decide (n ≤ f ip + 1) = true from decide_eq_true (by rw [HCZ.out, HC1.out]; exact hh)] at C
                    go_wp2_with fail
                    refine C.out.mono ?_
                    rintro e w8 ⟨f8, m8, rfl, hP8, hPs⟩
                    have HQ := Lib.hid (show PS W w8 p n f8 m8 bm (k + 1) f8 m8 from by
                      have h1 := (hPs.both HCZ.out HG.out).1 (by rw [HC1.out]; exact HH.out)
                      rw [HC1.out] at h1
                      have h2 : m8 = mg + 1 - oneIf (g ip) - oneIf (upd g ip c1 ip) := by rw [upd_same, HGI.out, oneIf_yes HW1.out.1]; omega
                      have h3 := hP8
                      rw [← h1.1, ← h2] at h3
                      exact h3)
                    have HQL := Lib.hid (show ∀ z, f8 z ≤ ((k + 1 : Nat) : Int) from by
                      have h1 := (hPs.both HCZ.out HG.out).1 (by rw [HC1.out]; exact HH.out)
                      rw [h1.1, HC1.out]
                      exact upd_le (upd_le (fun z => by have := HGL.out z; omega) _ _ HW1.out.2.1) _ _ (by omega))
                    clear C hP8 hPs J5
                    obtain ⟨ca, hca⟩ : ∃ ca, f8 ask = ca := ⟨_, rfl⟩
                    obtain ⟨ci, hci⟩ : ∃ ci, f8 ip = ci := ⟨_, rfl⟩
                    have C1 := Lib.hid (fun q => st_count (HQ.out.drewN q).st ask)
                    have C2 := Lib.hid (fun q => st_count (HQ.out.drewN q).st ip)
                    have C3 := Lib.hid (fun q => st_len (HQ.out.drewN q).st)
                    have L1 : ∀ q, (Instr.lookup 26 (.map (some bm)) (.int .i64 ask) false).run Try.prog (w8.drewN q) = .ok (.int .i64 ca) (w8.drewN q) := fun q => by have := (HQ.out.drewN q).cnt.look ask HWA.out; rw [hca] at this; exact this
                    have L2 : ∀ q, (Instr.lookup 26 (.map (some bm)) (.int .i64 ip) false).run Try.prog (w8.drewN q) = .ok (.int .i64 ci) (w8.drewN q) := fun q => by have := (HQ.out.drewN q).cnt.look ip HWI.out; rw [hci] at this; exact this
                    have L3 : ∀ q ty, (Builtin.len_ #[26] ty #[.map (some bm)]).run Try.prog (w8.drewN q) = .ok (.int .i64 (m8 : Int)) (w8.drewN q) := fun q ty => (HQ.out.drewN q).cnt.size ty
                    rw [hca] at C1
                    rw [hci] at C2
                    have hm32 := HQ.out.st.few
                    have y9 : ¬ (32 : Int) < (m8 : Int) := by omega
                    clear hca hci
                    go_wp2_with fail
                    go_quiet (first | (go_at_call 11; exact Calls.quiet_of_same (by first | with_reducible exact C1.out _ | with_reducible exact C2.out _)) | (go_at_call 12; exact Calls.quiet_of_same (C3.out _)))
                    go_wp2
                    go_roundg (L - (k + 1))
                    case measure => omega
                    case rel => exact ⟨k + 1, rfl, by omega, by go_num, Lib.hid ⟨_, _, HQ.out.drewN _, HQL.out⟩⟩
                  · have HH := Lib.hid hh
                    go_wp2_with (first
                      | (at_delete
                         refine wpList_del_cnt rfl _ _ rfl bm k f m rfl HPR.out.cnt av rfl HAV.out ?_
                         intro w6 hC6 hS6
                         obtain ⟨g, hg⟩ : ∃ g, upd f av 0 = g := ⟨_, rfl⟩
                         obtain ⟨mg, hmg⟩ : ∃ mg, m - oneIf (f av) = mg := ⟨_, rfl⟩
                         rw [hg, hmg] at hC6
                         have HP6 := Lib.hid (HPR.out.turned hC6 hS6)
                         have HGI := Lib.hid (show g ip = c by rw [← hg, upd_other _ _ HNE.out]; exact HCZ.out)
                         have HG := Lib.hid (show ∀ f1 m1, Room f m ip f1 m1 → f1 = g ∧ m1 = mg by rw [← hg, ← hmg]; exact room_full HZ.out HM2.out HLS.out)
                         have HGL := Lib.hid (show ∀ z, g z ≤ (k : Int) by rw [← hg]; exact upd_le HLE.out _ _ (by omega))
                         have J1 : (Instr.lookup 26 (.map (some bm)) (.int .i64 ip) false).run Try.prog w6 = .ok (.int .i64 c) w6 := by have := hC6.look ip HWI.out; rw [HGI.out] at this; exact this
                         clear hC6 hS6 hg hmg)
                      | (at_mapUpdate
                         refine wpList_put_cnt rfl _ _ _ rfl bm k g mg rfl HP6.out.cnt HKM.out ip rfl HWI.out c1 rfl HW1.out.2.2 HW1.out.1 ?_
                         intro w5 hC5 hS5
                         have HP5 := Lib.hid (HP6.out.turned hC5 hS5)
                         have J5 : (Instr.lookup 26 (.map (some bm)) (.int .i64 ip) false).run Try.prog w5 = .ok (.int .i64 c1) w5 := by have := hC5.look ip HWI.out; rw [upd_same] at this; exact this
                         clear hC5 hS5))
                    have C := Lib.hid (ps_pass HP5.out (show 0 < n by omega) ip HPC.out)
                    rw [show decide (n ≤ f ip + 1) = false from decide_eq_false (by rw [HCZ.out, HC1.out]; exact Int.not_le.2 HH.out)] at C
                    go_wp2_with fail
                    refine C.out.mono ?_
                    rintro e w8 ⟨f8, m8, rfl, hP8, hPs⟩
                    have HQ := Lib.hid (show PS W w8 p n f8 m8 bm (k + 1) f8 m8 from by
                      have h1 := (hPs.both HCZ.out HG.out).2 (by rw [HC1.out]; exact Int.not_le.2 HH.out)
                      rw [HC1.out] at h1
                      have h2 : m8 = mg + 1 - oneIf (g ip) := by rw [HGI.out]; exact h1.2
                      have h3 := hP8
                      rw [← h1.1, ← h2] at h3
                      exact h3)
                    have HQL := Lib.hid (show ∀ z, f8 z ≤ ((k + 1 : Nat) : Int) from by
                      have h1 := (hPs.both HCZ.out HG.out).2 (by rw [HC1.out]; exact Int.not_le.2 HH.out)
                      rw [h1.1, HC1.out]
                      exact upd_le (fun z => by have := HGL.out z; omega) _ _ HW1.out.2.1)
                    clear C hP8 hPs J5
                    obtain ⟨ca, hca⟩ : ∃ ca, f8 ask = ca := ⟨_, rfl⟩
                    obtain ⟨ci, hci⟩ : ∃ ci, f8 ip = ci := ⟨_, rfl⟩
                    have C1 := Lib.hid (fun q => st_count (HQ.out.drewN q).st ask)
                    have C2 := Lib.hid (fun q => st_count (HQ.out.drewN q).st ip)
                    have C3 := Lib.hid (fun q => st_len (HQ.out.drewN q).st)
                    have L1 : ∀ q, (Instr.lookup 26 (.map (some bm)) (.int .i64 ask) false).run Try.prog (w8.drewN q) = .ok (.int .i64 ca) (w8.drewN q) := fun q => by have := (HQ.out.drewN q).cnt.look ask HWA.out; rw [hca] at this; exact this
                    have L2 : ∀ q, (Instr.lookup 26 (.map (some bm)) (.int .i64 ip) false).run Try.prog (w8.drewN q) = .ok (.int .i64 ci) (w8.drewN q) := fun q => by have := (HQ.out.drewN q).cnt.look ip HWI.out; rw [hci] at this; exact this
                    have L3 : ∀ q ty, (Builtin.len_ #[26] ty #[.map (some bm)]).run Try.prog (w8.drewN q) = .ok (.int .i64 (m8 : Int)) (w8.drewN q) := fun q ty => (HQ.out.drewN q).cnt.size ty
                    rw [hca] at C1
                    rw [hci] at C2
                    have hm32 := HQ.out.st.few
                    have y9 : ¬ (32 : Int) < (m8 : Int) := by omega
                    clear hca hci
                    go_wp2_with fail
                    go_quiet (first | (go_at_call 11; exact Calls.quiet_of_same (by first | with_reducible exact C1.out _ | with_reducible exact C2.out _)) | (go_at_call 12; exact Calls.quiet_of_same (C3.out _)))
                    go_wp2
                    go_roundg (L - (k + 1))
                    case measure => omega
                    case rel => exact ⟨k + 1, rfl, by omega, by go_num, Lib.hid ⟨_, _, HQ.out.drewN _, HQL.out⟩⟩
                · intro x cx w5 cnt5 hwx hwc hlx hat hrg5 hlt5 hg5 hs5 hen
                  have hfx : f x = cx := by
                    have := hat (.lit (.int .i64 0))
                    rw [HC.out.val x] at this
                    simpa using this
                  have hcx : cx ≠ 0 := by
                    have h1 := has_true_of_atKey hat
                    rw [HC.out.is x] at h1
                    rw [← hfx]
                    simpa using h1
                  have HRG5 := Lib.hid hrg5
                  have HGW5 := Lib.hid (HGW.out.andThen hg5 (fun j hj => by cases hj; exact .inl (Nat.le_refl _)))
                  have HWX := Lib.hid hwx
                  have HTK := Lib.hid (fun hg => HB.out.take hfx hcx hg)
                  have HST := Lib.hid (fun h1 hg => HB.out.stay hfx h1 hg)
                  have HLT := Lib.hid hlt5
                  clear hwx hwc hlx hat hrg5 hg5 hs5 hfx hcx hlt5 HB HRG HGW
                  by_cases b1 : lv = 0
                  · subst b1
                    go_wp2
                    go_roundg cnt5
                    case measure => exact HLT.out
                    case rel => exact ⟨cx, x, _, rfl, rfl, HRG5, HGW5, Lib.hid (HTK.out (by simp)), HWX⟩
                  · have b1' : (lv == 0) = false := by simpa using b1
                    by_cases b2 : cx < lv
                    · go_wp2
                      go_roundg cnt5
                      case measure => exact HLT.out
                      case rel => exact ⟨cx, x, _, rfl, rfl, HRG5, HGW5, Lib.hid (HTK.out (.inr (goes_yes.2 (.inl b2)))), HWX⟩
                    · by_cases b3 : cx = lv
                      · subst b3
                        by_cases b4 : x < av
                        · have HG := Lib.hid (goes_yes.2 (.inr ⟨rfl, b4⟩) : goesB (x, cx) (av, cx) = true)
                          go_wp2
                          go_roundg cnt5
                          case measure => exact HLT.out
                          case rel => exact ⟨cx, x, _, rfl, rfl, HRG5, HGW5, Lib.hid (HTK.out (.inr HG.out)), HWX⟩
                        · have HG := Lib.hid (show goesB (x, cx) (av, cx) = false by cases h : goesB (x, cx) (av, cx) with | false => rfl | true => have := goes_yes.1 h; simp only at this; omega)
                          go_wp2
                          go_roundg cnt5
                          case measure => exact HLT.out
                          case rel => exact ⟨cx, av, _, rfl, rfl, HRG5, HGW5, Lib.hid (HST.out b1 HG.out), HAV⟩
                      · have HG := Lib.hid (show goesB (x, cx) (av, lv) = false by cases h : goesB (x, cx) (av, lv) with | false => rfl | true => have := goes_yes.1 h; simp only at this; omega)
                        have b3' : (cx == lv) = false := by simpa using b3
                        go_wp2
                        go_roundg cnt5
                        case measure => exact HLT.out
                        case rel => exact ⟨lv, av, _, rfl, rfl, HRG5, HGW5, Lib.hid (HST.out b1 HG.out), HAV⟩
          · have K2 : (Instr.lookup 26 (.map (some bm)) (.int .i64 ip) true).run Try.prog ws = .ok (.tuple #[.int .i64 c, .bool true]) ws := by
              have := HPS.out.cnt.look_ok ip HWI.out
              rw [HCZ.out, decide_eq_true hz] at this
              exact this
            have HG := Lib.hid (room_free (.inl (by rw [HCZ.out]; exact hz)) : ∀ f1 m1, Room f m ip f1 m1 → f1 = f ∧ m1 = m)
            have HGI := Lib.hid (show f ip = c from HCZ.out)
            have HGL := Lib.hid (show ∀ z, f z ≤ (k : Int) from HLE.out)
            have HP6 := HPS
            have hwr : IntKind.i64.wrap (c + 1) = c + 1 := IntWalk.i64_in _ (by omega)
            have hw1 : c + 1 ≠ 0 ∧ c + 1 ≤ ((k + 1 : Nat) : Int) ∧ (Lit.int .i64 (c + 1)).wf = true := ⟨by omega, by omega, WalkArith.wf_i64 (by omega)⟩
            have HPC := Lib.hid (show (f ip ≤ 1000000) from by rw [HCZ.out]; omega)
            obtain ⟨c1, hc1⟩ : ∃ c1, c + 1 = c1 := ⟨_, rfl⟩
            rw [hc1] at hwr hw1
            have HW1 := Lib.hid hw1
            have HC1 := Lib.hid hc1
            have HKM := Lib.hid (show k < maxLen by unfold maxLen; omega)
            clear hw1
            by_cases hh : n ≤ c1
            · have HH := Lib.hid hh
              go_wp2_with (first
                | (at_mapUpdate
                   refine wpList_put_cnt rfl _ _ _ rfl bm k f m rfl HP6.out.cnt HKM.out ip rfl HWI.out c1 rfl HW1.out.2.2 HW1.out.1 ?_
                   intro w5 hC5 hS5
                   have HP5 := Lib.hid (HP6.out.turned hC5 hS5)
                   have J5 : (Instr.lookup 26 (.map (some bm)) (.int .i64 ip) false).run Try.prog w5 = .ok (.int .i64 c1) w5 := by have := hC5.look ip HWI.out; rw [upd_same] at this; exact this
                   clear hC5 hS5)
                | (at_delete
                   refine wpList_del_cnt rfl _ _ rfl bm (k + 1) (upd f ip c1) (m + 1 - oneIf (f ip)) rfl HP5.out.cnt ip rfl HWI.out ?_
                   intro w7 hC7 hS7
                   have HP7 := Lib.hid (HP5.out.turned hC7 hS7)
                   clear hC7 hS7))
              have C := Lib.hid (ps_pass HP7.out (show 0 < n by omega) ip HPC.out)
              rw [show decide (n ≤ f ip + 1) = true from decide_eq_true (by rw [HCZ.out, HC1.out]; exact hh)] at C
              go_wp2_with fail
              refine C.out.mono ?_
              rintro e w8 ⟨f8, m8, rfl, hP8, hPs⟩
              have HQ := Lib.hid (show PS W w8 p n f8 m8 bm (k + 1) f8 m8 from by
                have h1 := (hPs.both HCZ.out HG.out).1 (by rw [HC1.out]; exact HH.out)
                rw [HC1.out] at h1
                have h2 : m8 = m + 1 - oneIf (f ip) - oneIf (upd f ip c1 ip) := by rw [upd_same, HGI.out, oneIf_yes HW1.out.1]; omega
                have h3 := hP8
                rw [← h1.1, ← h2] at h3
                exact h3)
              have HQL := Lib.hid (show ∀ z, f8 z ≤ ((k + 1 : Nat) : Int) from by
                have h1 := (hPs.both HCZ.out HG.out).1 (by rw [HC1.out]; exact HH.out)
                rw [h1.1, HC1.out]
                exact upd_le (upd_le (fun z => by have := HGL.out z; omega) _ _ HW1.out.2.1) _ _ (by omega))
              clear C hP8 hPs J5
              obtain ⟨ca, hca⟩ : ∃ ca, f8 ask = ca := ⟨_, rfl⟩
              obtain ⟨ci, hci⟩ : ∃ ci, f8 ip = ci := ⟨_, rfl⟩
              have C1 := Lib.hid (fun q => st_count (HQ.out.drewN q).st ask)
              have C2 := Lib.hid (fun q => st_count (HQ.out.drewN q).st ip)
              have C3 := Lib.hid (fun q => st_len (HQ.out.drewN q).st)
              have L1 : ∀ q, (Instr.lookup 26 (.map (some bm)) (.int .i64 ask) false).run Try.prog (w8.drewN q) = .ok (.int .i64 ca) (w8.drewN q) := fun q => by have := (HQ.out.drewN q).cnt.look ask HWA.out; rw [hca] at this; exact this
              have L2 : ∀ q, (Instr.lookup 26 (.map (some bm)) (.int .i64 ip) false).run Try.prog (w8.drewN q) = .ok (.int .i64 ci) (w8.drewN q) := fun q => by have := (HQ.out.drewN q).cnt.look ip HWI.out; rw [hci] at this; exact this
              have L3 : ∀ q ty, (Builtin.len_ #[26] ty #[.map (some bm)]).run Try.prog (w8.drewN q) = .ok (.int .i64 (m8 : Int)) (w8.drewN q) := fun q ty => (HQ.out.drewN q).cnt.size ty
              rw [hca] at C1
              rw [hci] at C2
              have hm32 := HQ.out.st.few
              have y9 : ¬ (32 : Int) < (m8 : Int) := by omega
              clear hca hci
              go_wp2_with fail
              go_quiet (first | (go_at_call 11; exact Calls.quiet_of_same (by first | with_reducible exact C1.out _ | with_reducible exact C2.out _)) | (go_at_call 12; exact Calls.quiet_of_same (C3.out _)))
              go_wp2
              go_roundg (L - (k + 1))
              case measure => omega
              case rel => exact ⟨k + 1, rfl, by omega, by go_num, Lib.hid ⟨_, _, HQ.out.drewN _, HQL.out⟩⟩
            · have HH := Lib.hid hh
              go_wp2_with (first
                | (at_mapUpdate
                   refine wpList_put_cnt rfl _ _ _ rfl bm k f m rfl HP6.out.cnt HKM.out ip rfl HWI.out c1 rfl HW1.out.2.2 HW1.out.1 ?_
                   intro w5 hC5 hS5
                   have HP5 := Lib.hid (HP6.out.turned hC5 hS5)
                   have J5 : (Instr.lookup 26 (.map (some bm)) (.int .i64 ip) false).run Try.prog w5 = .ok (.int .i64 c1) w5 := by have := hC5.look ip HWI.out; rw [upd_same] at this; exact this
                   clear hC5 hS5))
              have C := Lib.hid (ps_pass HP5.out (show 0 < n by omega) ip HPC.out)
              rw [show decide (n ≤ f ip + 1) = false from decide_eq_false (by rw [HCZ.out, HC1.out]; exact Int.not_le.2 HH.out)] at C
              go_wp2_with fail
              refine C.out.mono ?_
              rintro e w8 ⟨f8, m8, rfl, hP8, hPs⟩
              have HQ := Lib.hid (show PS W w8 p n f8 m8 bm (k + 1) f8 m8 from by
                have h1 := (hPs.both HCZ.out HG.out).2 (by rw [HC1.out]; exact Int.not_le.2 HH.out)
                rw [HC1.out] at h1
                have h2 : m8 = m + 1 - oneIf (f ip) := by rw [HGI.out]; exact h1.2
                have h3 := hP8
                rw [← h1.1, ← h2] at h3
                exact h3)
              have HQL := Lib.hid (show ∀ z, f8 z ≤ ((k + 1 : Nat) : Int) from by
                have h1 := (hPs.both HCZ.out HG.out).2 (by rw [HC1.out]; exact Int.not_le.2 HH.out)
                rw [h1.1, HC1.out]
                exact upd_le (fun z => by have := HGL.out z; omega) _ _ HW1.out.2.1)
              clear C hP8 hPs J5
              obtain ⟨ca, hca⟩ : ∃ ca, f8 ask = ca := ⟨_, rfl⟩
              obtain ⟨ci, hci⟩ : ∃ ci, f8 ip = ci := ⟨_, rfl⟩
              have C1 := Lib.hid (fun q => st_count (HQ.out.drewN q).st ask)
              have C2 := Lib.hid (fun q => st_count (HQ.out.drewN q).st ip)
              have C3 := Lib.hid (fun q => st_len (HQ.out.drewN q).st)
              have L1 : ∀ q, (Instr.lookup 26 (.map (some bm)) (.int .i64 ask) false).run Try.prog (w8.drewN q) = .ok (.int .i64 ca) (w8.drewN q) := fun q => by have := (HQ.out.drewN q).cnt.look ask HWA.out; rw [hca] at this; exact this
              have L2 : ∀ q, (Instr.lookup 26 (.map (some bm)) (.int .i64 ip) false).run Try.prog (w8.drewN q) = .ok (.int .i64 ci) (w8.drewN q) := fun q => by have := (HQ.out.drewN q).cnt.look ip HWI.out; rw [hci] at this; exact this
              have L3 : ∀ q ty, (Builtin.len_ #[26] ty #[.map (some bm)]).run Try.prog (w8.drewN q) = .ok (.int .i64 (m8 : Int)) (w8.drewN q) := fun q ty => (HQ.out.drewN q).cnt.size ty
              rw [hca] at C1
              rw [hci] at C2
              have hm32 := HQ.out.st.few
              have y9 : ¬ (32 : Int) < (m8 : Int) := by omega
              clear hca hci
              go_wp2_with fail
              go_quiet (first | (go_at_call 11; exact Calls.quiet_of_same (by first | with_reducible exact C1.out _ | with_reducible exact C2.out _)) | (go_at_call 12; exact Calls.quiet_of_same (C3.out _)))
              go_wp2
              go_roundg (L - (k + 1))
              case measure => omega
              case rel => exact ⟨k + 1, rfl, by omega, by go_num, Lib.hid ⟨_, _, HQ.out.drewN _, HQL.out⟩⟩
        · obtain rfl : N = 0 := by have := HN.out; omega
          have C := Lib.hid (st_cold HPS.out.st ip)
          have hn' : ¬ n > 0 := hn
          go_wp2_with fail
          refine C.out.mono ?_
          rintro e wz ⟨rfl, hwz⟩
          subst wz
          clear C
          have HQ := Lib.hid (show PS W ws p 0 f m bm (k + 1) f m from ⟨HPS.out.st, HPS.out.cnt.more (Nat.le_succ _), HPS.out.low⟩)
          have HQL := Lib.hid (show ∀ z, f z ≤ ((k + 1 : Nat) : Int) from fun z => by have := HLE.out z; omega)
          obtain ⟨ca, hca⟩ : ∃ ca, f ask = ca := ⟨_, rfl⟩
          obtain ⟨ci, hci⟩ : ∃ ci, f ip = ci := ⟨_, rfl⟩
          have C1 := Lib.hid (fun q => st_count (HQ.out.drewN q).st ask)
          have C2 := Lib.hid (fun q => st_count (HQ.out.drewN q).st ip)
          have C3 := Lib.hid (fun q => st_len (HQ.out.drewN q).st)
          have L1 : ∀ q, (Instr.lookup 26 (.map (some bm)) (.int .i64 ask) false).run Try.prog (ws.drewN q) = .ok (.int .i64 ca) (ws.drewN q) := fun q => by have := (HQ.out.drewN q).cnt.look ask HWA.out; rw [hca] at this; exact this
          have L2 : ∀ q, (Instr.lookup 26 (.map (some bm)) (.int .i64 ip) false).run Try.prog (ws.drewN q) = .ok (.int .i64 ci) (ws.drewN q) := fun q => by have := (HQ.out.drewN q).cnt.look ip HWI.out; rw [hci] at this; exact this
          have L3 : ∀ q ty, (Builtin.len_ #[26] ty #[.map (some bm)]).run Try.prog (ws.drewN q) = .ok (.int .i64 (m : Int)) (ws.drewN q) := fun q ty => (HQ.out.drewN q).cnt.size ty
          rw [hca] at C1
          rw [hci] at C2
          have hm32 := HQ.out.st.few
          have y9 : ¬ (32 : Int) < (m : Int) := by omega
          clear hca hci
          go_wp2_with fail
          go_quiet (first | (go_at_call 11; exact Calls.quiet_of_same (by first | with_reducible exact C1.out _ | with_reducible exact C2.out _)) | (go_at_call 12; exact Calls.quiet_of_same (C3.out _)))
          go_wp2
          go_roundg (L - (k + 1))
          case measure => omega
          case rel => exact ⟨k + 1, rfl, by omega, by go_num, Lib.hid ⟨_, _, HQ.out.drewN _, HQL.out⟩⟩
      · have hkd' : (kd == 1) = false := by simpa using hkd
        have C := Lib.hid (ps_forget HPS.out ip)
        clear hkd
        go_wp2_with fail
        refine C.out.mono ?_
        rintro e w4 ⟨rfl, hP⟩
        have HP4 := Lib.hid hP
        clear C hP
        go_wp2_with (at_delete; refine wpList_del_cnt rfl _ _ rfl bm k f m rfl HP4.out.cnt ip rfl HWI.out ?_; intro w5 hC5 hS5; obtain ⟨f5, hf5⟩ : ∃ f5, upd f ip 0 = f5 := ⟨_, rfl⟩; obtain ⟨m5, hm5⟩ : ∃ m5, m - oneIf (f ip) = m5 := ⟨_, rfl⟩; have HQ := Lib.hid (show PS W w5 p N f5 m5 bm (k + 1) f5 m5 by rw [← hf5, ← hm5]; exact HP4.out.turned (hC5.more (Nat.le_succ _)) hS5); have HQL := Lib.hid (show ∀ z, f5 z ≤ ((k + 1 : Nat) : Int) by rw [← hf5]; exact upd_le (fun z => by have := HLE.out z; omega) _ _ (by omega)); clear hC5 hS5 hf5 hm5 HP4)
        obtain ⟨ca, hca⟩ : ∃ ca, f5 ask = ca := ⟨_, rfl⟩
        obtain ⟨ci, hci⟩ : ∃ ci, f5 ip = ci := ⟨_, rfl⟩
        have C1 := Lib.hid (fun q => st_count (HQ.out.drewN q).st ask)
        have C2 := Lib.hid (fun q => st_count (HQ.out.drewN q).st ip)
        have C3 := Lib.hid (fun q => st_len (HQ.out.drewN q).st)
        have L1 : ∀ q, (Instr.lookup 26 (.map (some bm)) (.int .i64 ask) false).run Try.prog (w5.drewN q) = .ok (.int .i64 ca) (w5.drewN q) := fun q => by have := (HQ.out.drewN q).cnt.look ask HWA.out; rw [hca] at this; exact this
        have L2 : ∀ q, (Instr.lookup 26 (.map (some bm)) (.int .i64 ip) false).run Try.prog (w5.drewN q) = .ok (.int .i64 ci) (w5.drewN q) := fun q => by have := (HQ.out.drewN q).cnt.look ip HWI.out; rw [hci] at this; exact this
        have L3 : ∀ q ty, (Builtin.len_ #[26] ty #[.map (some bm)]).run Try.prog (w5.drewN q) = .ok (.int .i64 (m5 : Int)) (w5.drewN q) := fun q ty => (HQ.out.drewN q).cnt.size ty
        rw [hca] at C1
        rw [hci] at C2
        have hm32 := HQ.out.st.few
        have y9 : ¬ (32 : Int) < (m5 : Int) := by omega
        clear hca hci
        go_wp2_with fail
        go_quiet (first | (go_at_call 11; exact Calls.quiet_of_same (by first | with_reducible exact C1.out _ | with_reducible exact C2.out _)) | (go_at_call 12; exact Calls.quiet_of_same (C3.out _)))
        go_wp2
        go_roundg (L - (k + 1))
        case measure => omega
        case rel => exact ⟨k + 1, rfl, by omega, by go_num, Lib.hid ⟨_, _, HQ.out.drewN _, HQL.out⟩⟩
    · obtain rfl : k = L := by omega
      obtain ⟨f, m, hPS, _⟩ := HR.out
      have HB := Lib.hid hPS.st.below
      clear hlt hPS HR
      have C := Lib.hid (forget_nil 1 ws)
      go_wp2_with fail
      refine C.out.mono ?_
      rintro e wz ⟨rfl, hwz⟩
      subst wz
      have C := Lib.hid (pass_nil 1 ws)
      go_wp2_with fail
      refine C.out.mono ?_
      rintro e wz ⟨rfl, hwz⟩
      subst wz
      have C := Lib.hid (count_nil 1 ws)
      go_wp2_with fail
      refine C.out.mono ?_
      rintro e wz ⟨rfl, hwz⟩
      subst wz
      have C := Lib.hid (len_nil ws)
      go_wp2_with fail
      refine C.out.mono ?_
      rintro e wz ⟨rfl, hwz⟩
      subst wz
      go_wp2
      go_ret
      exact ⟨rfl, HB.out⟩
set_option maxHeartbeats 2000000 in
theorem walk (n : Int) (vo : Value) (ops : List (Int × Int)) (ask : Int) (W : World) (wn : (Lit.int .i64 n).wf = true) (ho : OpsAt W vo ops) (wa : (Lit.int .i64 ask).wf = true) :
    Calls Try.prog 3 #[.int .i64 n, vo, .int .i64 ask] W (Yes W) := by
  by_cases hl : ops.length ≤ 300
  · exact main n vo ops ask W ho hl wa
  · obtain ⟨oo, oc, rfl, _⟩ := ho
    obtain ⟨L, hL⟩ : ∃ L, ops.length = L := ⟨_, rfl⟩
    rw [hL] at hl ⊢
    have h1 : decide (300 < (L : Int)) = true := decide_eq_true (by omega)
    have C := Lib.hid (alive_any W)
    clear hL hl wn wa
    go_enter Try.func3, Try.ntmps3
    go_wp2_with fail
    refine C.out.mono ?_
    rintro e w1 ⟨rfl, hb⟩
    have HB := Lib.hid hb
    clear hb C
    go_wp2
    go_ret
    exact ⟨rfl, HB.out⟩
end Go.Proofs.Ytajgkheagahfeaa.HotPlays
