
/- WeaveRoom: the walk. -/
import Derived.Test.YtffiknbdmdljoaaDoorWvState
import Derived.Test.YtffiknbdmdljoaaDoorWvOps
import Derived.Test.YtffiknbdmdljoaaDoorLent
namespace Go.Proofs.YtffiknbdmdljoaaDoor.WeaveRoom
open Go.RowKit Book Book.Wide Mem Wv
set_option linter.unusedSimpArgs false
set_option linter.unusedVariables false
/-- an operation that came in, in whatever world of the call -/
theorem op_cells {W : World} {oo : Option Addr} {L oc : Nat} {ops : List OpIn} (h : OpsAt W (.slice oo L oc) ops) {k : Nat} {o : OpIn} (hk : ops[k]? = some o) : ∃ ad, oo = some ad ∧ o.s.size ≤ maxLen ∧ ∀ w, Below W.heap.size W w → w.cell? (ad.add (k * 4)) = some (.int .i64 o.kind) ∧ w.cell? ⟨(ad.add (k * 4)).block, (ad.add (k * 4)).off + 1, none⟩ = some (.int .i64 o.n) ∧ w.cell? ⟨(ad.add (k * 4)).block, (ad.add (k * 4)).off + 2, none⟩ = some (.int .i64 o.v) ∧ w.cell? ⟨(ad.add (k * 4)).block, (ad.add (k * 4)).off + 3, none⟩ = some (.string o.s) := by
  obtain ⟨oo', oc', e, hc⟩ := h
  simp only [Value.slice.injEq] at e
  obtain ⟨ad, ha, h0, h1, h2, h3, h4⟩ := hc k o hk
  refine ⟨ad, e.1.trans ha, h4, fun w hb => ?_⟩
  have tr : ∀ {p : Addr} {u : Value}, W.cell? p = some u → w.cell? p = some u := fun {p u} hu => by rw [hb.cell (p := p) (World.block_lt_of_cell? W _ hu)]; exact hu
  have e1 : ad.add (k * 4 + 1) = ⟨(ad.add (k * 4)).block, (ad.add (k * 4)).off + 1, none⟩ := by rw [← Go.Deep.add_add]; rfl
  have e2 : ad.add (k * 4 + 2) = ⟨(ad.add (k * 4)).block, (ad.add (k * 4)).off + 2, none⟩ := by rw [← Go.Deep.add_add]; rfl
  have e3 : ad.add (k * 4 + 3) = ⟨(ad.add (k * 4)).block, (ad.add (k * 4)).off + 3, none⟩ := by rw [← Go.Deep.add_add]; rfl
  rw [e1] at h1
  rw [e2] at h2
  rw [e3] at h3
  exact ⟨tr h0, tr h1, tr h2, tr h3⟩
theorem below_dr {W w : World} (h : Below W.heap.size W w) (q : Nat) : Below W.heap.size W (w.drewN q) := h.trans ((Wv.below_drewN w q).mono h.size)
set_option maxHeartbeats 16000000 in
set_option maxRecDepth 100000 in
theorem main (n here : Int) (vo : Value) (ops : List OpIn) (W : World) (ho : OpsAt W vo ops) (hn : NamesIs W) : Calls Tryd.prog 5 #[.int .i64 n, .int .i64 here, vo] W (Yes W) := by
  have HO := Lib.hid ho
  have HNM := Lib.hid hn
  have C := Lib.hid (alive_any W hn)
  obtain ⟨i0, q1, q2, q3, q4⟩ := info_parts Tryd.bkIntInfo
  have HI := Lib.hid (And.intro q1 (And.intro q2 (And.intro q3 q4)))
  obtain ⟨oo, oc, rfl, _⟩ := ho
  obtain ⟨L, hL⟩ : ∃ L, ops.length = L := ⟨_, rfl⟩
  have HL := Lib.hid hL
  rw [hL] at HO ⊢
  clear q1 q2 q3 q4 hn hL
  by_cases h1 : n < 0
  · go_enter Tryd.func5, Tryd.ntmps5
    go_wp2_with fail
    refine C.out.mono ?_
    rintro e w1 ⟨rfl, hb⟩
    have HB := Lib.hid hb
    clear C hb
    go_wp2
    go_ret
    exact ⟨rfl, HB.out⟩
  by_cases h2 : 60 < n
  · go_enter Tryd.func5, Tryd.ntmps5
    go_wp2_with fail
    refine C.out.mono ?_
    rintro e w1 ⟨rfl, hb⟩
    have HB := Lib.hid hb
    clear C hb
    go_wp2
    go_ret
    exact ⟨rfl, HB.out⟩
  by_cases h3 : here < 0
  · go_enter Tryd.func5, Tryd.ntmps5
    go_wp2_with fail
    refine C.out.mono ?_
    rintro e w1 ⟨rfl, hb⟩
    have HB := Lib.hid hb
    clear C hb
    go_wp2
    go_ret
    exact ⟨rfl, HB.out⟩
  by_cases h4 : n < here
  · go_enter Tryd.func5, Tryd.ntmps5
    go_wp2_with fail
    refine C.out.mono ?_
    rintro e w1 ⟨rfl, hb⟩
    have HB := Lib.hid hb
    clear C hb
    go_wp2
    go_ret
    exact ⟨rfl, HB.out⟩
  by_cases h5 : 60 < L
  · have h5' : decide (60 < (L : Int)) = true := decide_eq_true (by omega)
    go_enter Tryd.func5, Tryd.ntmps5
    go_wp2_with fail
    refine C.out.mono ?_
    rintro e w1 ⟨rfl, hb⟩
    have HB := Lib.hid hb
    clear C hb
    go_wp2
    go_ret
    exact ⟨rfl, HB.out⟩
  have h5' : decide (60 < (L : Int)) = false := decide_eq_false (by omega)
  obtain ⟨N, rfl⟩ : ∃ N : Nat, n = (N : Int) := ⟨n.toNat, by omega⟩
  have hN : N ≤ 60 := by omega
  go_enter Tryd.func5, Tryd.ntmps5
  go_wp2_with fail
  refine C.out.mono ?_
  rintro e w1 ⟨rfl, hb⟩
  have HB1 := Lib.hid hb
  clear C hb
  go_wp2_with (at_make; refine wpList_make_full _ rfl _ _ 22 rfl w1.heap.size 3 i0 (.int .i64 0) 1 Tryd.underlying22 HI.out.1 HI.out.2.1 HI.out.2.2.1 .i64 .i64 _ _ N rfl rfl ?a1 ?a2 ?a3 ?a4 (Nat.le_refl _) ?_)
  case a1 => rfl
  case a2 => rfl
  case a3 => rw [HI.out.2.2.2]; omega
  case a4 => unfold maxLen; omega
  intro w2 hO hG
  rw [toList_madeCells_one] at hO
  obtain ⟨hR, hb2⟩ := zeros_made hO hG
  have C := Lib.hid (s_new _ (List.replicate N 0) here W w2 (HB1.out.trans (hb2.mono HB1.out.size)) HNM.out hR (by rw [List.length_replicate]; omega))
  have HZ := Lib.hid (show (Wv.start (List.replicate N 0) here).mem.length = N from List.length_replicate)
  clear hO hG hR hb2
  go_wp2_with fail
  refine C.out.mono ?_
  rintro e w3 ⟨p, rfl, hS, _⟩
  have HS3 := Lib.hid hS
  clear C hS
  go_wp2
  go_loopg [8] L (fun g i wr => ∃ k : Nat, g = L - k ∧ k ≤ L ∧ i = .int .i64 (k : Int) ∧ Hid (∃ m, WSt W wr p m ∧ m.mem.length = N ∧ m.l.length ≤ k))
  case atStart => exact ⟨0, rfl, Nat.zero_le _, rfl, Lib.hid ⟨_, HS3.out, HZ.out, Nat.le_refl _⟩⟩
  case round =>
    obtain ⟨k, rfl, hk, rfl, HR⟩ := hrel
    by_cases hlt : k < L
    · obtain ⟨m, hS, hm, hl⟩ := HR.out
      obtain ⟨o, hx⟩ : ∃ o, ops[k]? = some o := ⟨_, List.getElem?_eq_getElem (by rw [HL.out]; exact hlt)⟩
      obtain ⟨ad, rfl, hsz, hcf⟩ := op_cells HO.out hx
      have HCF := Lib.hid hcf
      obtain ⟨_, _, _, c3⟩ := hcf wr hS.below
      obtain ⟨s, hs⟩ : ∃ s, o.s = s := ⟨_, rfl⟩
      obtain ⟨kd, hkd⟩ : ∃ s, o.kind = s := ⟨_, rfl⟩
      obtain ⟨on, hon⟩ : ∃ s, o.n = s := ⟨_, rfl⟩
      obtain ⟨ov, hov⟩ : ∃ s, o.v = s := ⟨_, rfl⟩
      rw [hs] at c3 hsz HCF
      rw [hkd, hon, hov] at HCF
      have hsz : s.size ≤ 9223372036854775807 := hsz
      have z0 : (0 : Int) ≤ (k : Int) := by omega
      have z1 : (k : Int) < (L : Int) := by omega
      have HSM := Lib.hid (And.intro hS (And.intro hm hl))
      have C := Lib.hid (s_mem hS)
      have HK := Lib.hid (show k ≤ 60 by omega)
      clear hx hcf hs hkd hon hov hm hl
      by_cases hs60 : 60 < s.size
      · have e60 : decide (60 < (s.size : Int)) = true := decide_eq_true (by omega)
        have HB := Lib.hid hS.below
        clear hS C
        go_wp2
        go_ret
        exact ⟨rfl, HB.out⟩
      · have e60 : decide (60 < (s.size : Int)) = false := decide_eq_false (by omega)
        have HS60 := Lib.hid hs60
        clear hS hs60
        go_wp2_with fail
        refine C.out.mono ?_
        rintro e w4 ⟨cv, rfl, hc, hb⟩
        obtain ⟨co, cc, hcv⟩ := hc.slice
        rw [vals_length, HSM.out.2.1] at hcv
        subst hcv
        obtain ⟨gm, bs, hA⟩ := HSM.out.1.way
        have hb4 := HSM.out.1.below.trans (hb.mono HSM.out.1.below.size)
        have HA4 := Lib.hid (hA.below hb)
        have HB4 := Lib.hid hb4
        have HOW := Lib.hid hc
        have HOF := Lib.hid (show ∀ j, blk (.slice co N cc) = some j → j ∉ bs from fun j hj hm => by
          have h1 := (hc.block j hj).1
          have h2 := (hA.lt j hm).2
          omega)
        obtain ⟨c0, c1, c2, c3⟩ := HCF.out w4 hb4
        have D := Lib.hid (here_any HA4.out)
        have E := Lib.hid (open_any HA4.out)
        have HML := Lib.hid (show m.l.length < 1000 by have h1 := HSM.out.2.2; have h2 := HK.out; omega)
        clear hc hb C hA hb4
        go_wp2_with fail
        refine D.out.mono ?_
        rintro e wz ⟨rfl, hwz⟩
        subst wz
        clear D
        go_wp2_with fail
        refine E.out.mono ?_
        rintro e wz ⟨rfl, hwz⟩
        subst wz
        clear E
        by_cases k1 : kd = 1
        · subst k1
          obtain ⟨rc, hrc⟩ : ∃ rc, (op on m).1 = rc := ⟨_, rfl⟩
          obtain ⟨rm, hrm⟩ : ∃ rm, (op on m).2 = rm := ⟨_, rfl⟩
          have HST := Lib.hid (show rc ≠ 0 → rm = m by rw [← hrc, ← hrm]; exact op_still on m)
          have HKN := Lib.hid (show Kin m rm by rw [← hrm]; exact op_kin on HA4.out.fine)
          have C := Lib.hid (d_op HA4.out HB4.out HNM.out on)
          rw [hrc, hrm] at C
          clear hrc hrm
          go_wp2_with fail
          refine C.out.mono ?_
          rintro e w5 ⟨rfl, hD⟩
          have HS5 := Lib.hid hD.st
          have HO5 := Lib.hid (HOW.out.touch hD.stir (fun j hj hm => HOF.out j hj hm))
          clear C hD c0 c1 c2 c3
          by_cases hz : rc = 0
          · subst hz
            have D := Lib.hid (s_here HS5.out)
            have hle := HS5.out.fine.here
            rw [HKN.out.len, HSM.out.2.1] at hle
            have y1 : ¬ (N : Int) < (rm.here : Int) := by omega
            have E := Lib.hid (s_mem HS5.out)
            go_wp2_with fail
            refine D.out.mono ?_
            rintro e wz ⟨rfl, hwz⟩
            subst wz
            clear D
            go_wp2_with fail
            refine E.out.mono ?_
            rintro e w6 ⟨cv6, rfl, hc6, hb6⟩
            obtain ⟨co6, cc6, hcv6⟩ := hc6.slice
            rw [vals_length, HKN.out.len, HSM.out.2.1] at hcv6
            subst hcv6
            have HR6 := Lib.hid (show ∃ m, WSt W w6 p m ∧ m.mem.length = N ∧ m.l.length ≤ k + 1 from ⟨rm, HS5.out.kept hb6, by rw [HKN.out.len, HSM.out.2.1], by have h1 := HKN.out.less; have h2 := HSM.out.2.2; omega⟩)
            clear E hc6 hb6
            go_wp2
            go_roundg (L - (k + 1))
            case measure => omega
            case rel => exact ⟨k + 1, rfl, by omega, by go_num, HR6⟩
          · have hz' : (rc != 0) = true := by simpa using hz
            obtain rfl := HST.out hz
            have D := Lib.hid (s_mem HS5.out)
            go_wp2_with fail
            refine D.out.mono ?_
            rintro e w6 ⟨cv6, rfl, hc6, hb6⟩
            obtain ⟨co6, cc6, hcv6⟩ := hc6.slice
            rw [vals_length, HSM.out.2.1] at hcv6
            subst hcv6
            have E := Lib.hid (sameReads_any (.slice co N cc) (.slice co6 N cc6) rm.mem w6 (Reads.of_owns (HO5.out.below hb6)) (Reads.of_owns hc6) (by rw [HSM.out.2.1]; have := HK.out; omega))
            have HS6 := Lib.hid (HS5.out.kept hb6)
            clear D hc6 hb6
            go_wp2_with fail
            refine E.out.mono ?_
            rintro e w7 ⟨rfl, q, hq⟩
            have HS7 := Lib.hid (show WSt W w7 p rm by rw [hq]; exact HS6.out.drewN q)
            clear E hq
            have D := Lib.hid (s_here HS7.out)
            have E := Lib.hid (s_open HS7.out)
            have hle := HS7.out.fine.here
            rw [HSM.out.2.1] at hle
            have y1 : ¬ (N : Int) < (rm.here : Int) := by omega
            go_wp2_with fail
            refine D.out.mono ?_
            rintro e wz ⟨rfl, hwz⟩
            subst wz
            go_wp2_with fail
            refine E.out.mono ?_
            rintro e wz ⟨rfl, hwz⟩
            subst wz
            clear E
            go_wp2_with fail
            refine D.out.mono ?_
            rintro e wz ⟨rfl, hwz⟩
            subst wz
            clear D
            have E := Lib.hid (s_mem HS7.out)
            go_wp2_with fail
            refine E.out.mono ?_
            rintro e w8 ⟨cv8, rfl, hc8, hb8⟩
            obtain ⟨co8, cc8, hcv8⟩ := hc8.slice
            rw [vals_length, HSM.out.2.1] at hcv8
            subst hcv8
            have HR8 := Lib.hid (show ∃ m, WSt W w8 p m ∧ m.mem.length = N ∧ m.l.length ≤ k + 1 from ⟨rm, HS7.out.kept hb8, HSM.out.2.1, by have h2 := HSM.out.2.2; omega⟩)
            clear E hc8 hb8
            go_wp2
            go_roundg (L - (k + 1))
            case measure => omega
            case rel => exact ⟨k + 1, rfl, by omega, by go_num, HR8⟩
        · have k1' : (kd == 1) = false := by simpa using k1
          by_cases k2 : kd = 2
          · subst k2
            obtain ⟨rc, hrc⟩ : ∃ rc, (arg on ov m).1 = rc := ⟨_, rfl⟩
            obtain ⟨rm, hrm⟩ : ∃ rm, (arg on ov m).2 = rm := ⟨_, rfl⟩
            have HST := Lib.hid (show rc ≠ 0 → rm = m by rw [← hrc, ← hrm]; exact arg_still on ov m)
            have HKN := Lib.hid (show Kin m rm by rw [← hrm]; exact arg_kin on ov HA4.out.fine)
            have C := Lib.hid (fun nq => d_arg (HA4.out.drewN nq) (below_dr HB4.out nq) HNM.out on ov)
            simp only [hrc, hrm] at C
            clear hrc hrm
            go_wp2_with fail
            go_region_with ((go_at_call 12; refine (C.out 1).mono ?_; rintro e w5 ⟨rfl, hD⟩))
            all_goals
              have HS5 := Lib.hid hD.st
              have HO5 := Lib.hid (HOW.out.touch ((Stirred.drewN w4 1 bs).trans hD.stir (fun k hk => .inl hk)) (fun j hj hm => HOF.out j hj hm))
              clear C hD c0 c1 c2 c3
              by_cases hz : rc = 0
              · subst hz
                have D := Lib.hid (s_here HS5.out)
                have hle := HS5.out.fine.here
                rw [HKN.out.len, HSM.out.2.1] at hle
                have y1 : ¬ (N : Int) < (rm.here : Int) := by omega
                have E := Lib.hid (s_mem HS5.out)
                go_wp2_with fail
                refine D.out.mono ?_
                rintro e wz ⟨rfl, hwz⟩
                subst wz
                clear D
                go_wp2_with fail
                refine E.out.mono ?_
                rintro e w6 ⟨cv6, rfl, hc6, hb6⟩
                obtain ⟨co6, cc6, hcv6⟩ := hc6.slice
                rw [vals_length, HKN.out.len, HSM.out.2.1] at hcv6
                subst hcv6
                have HR6 := Lib.hid (show ∃ m, WSt W w6 p m ∧ m.mem.length = N ∧ m.l.length ≤ k + 1 from ⟨rm, HS5.out.kept hb6, by rw [HKN.out.len, HSM.out.2.1], by have h1 := HKN.out.less; have h2 := HSM.out.2.2; omega⟩)
                clear E hc6 hb6
                go_wp2
                go_roundg (L - (k + 1))
                case measure => omega
                case rel => exact ⟨k + 1, rfl, by omega, by go_num, HR6⟩
              · have hz' : (rc != 0) = true := by simpa using hz
                obtain rfl := HST.out hz
                have D := Lib.hid (s_mem HS5.out)
                go_wp2_with fail
                refine D.out.mono ?_
                rintro e w6 ⟨cv6, rfl, hc6, hb6⟩
                obtain ⟨co6, cc6, hcv6⟩ := hc6.slice
                rw [vals_length, HSM.out.2.1] at hcv6
                subst hcv6
                have E := Lib.hid (sameReads_any (.slice co N cc) (.slice co6 N cc6) rm.mem w6 (Reads.of_owns (HO5.out.below hb6)) (Reads.of_owns hc6) (by rw [HSM.out.2.1]; have := HK.out; omega))
                have HS6 := Lib.hid (HS5.out.kept hb6)
                clear D hc6 hb6
                go_wp2_with fail
                refine E.out.mono ?_
                rintro e w7 ⟨rfl, q, hq⟩
                have HS7 := Lib.hid (show WSt W w7 p rm by rw [hq]; exact HS6.out.drewN q)
                clear E hq
                have D := Lib.hid (s_here HS7.out)
                have E := Lib.hid (s_open HS7.out)
                have hle := HS7.out.fine.here
                rw [HSM.out.2.1] at hle
                have y1 : ¬ (N : Int) < (rm.here : Int) := by omega
                go_wp2_with fail
                refine D.out.mono ?_
                rintro e wz ⟨rfl, hwz⟩
                subst wz
                go_wp2_with fail
                refine E.out.mono ?_
                rintro e wz ⟨rfl, hwz⟩
                subst wz
                clear E
                go_wp2_with fail
                refine D.out.mono ?_
                rintro e wz ⟨rfl, hwz⟩
                subst wz
                clear D
                have E := Lib.hid (s_mem HS7.out)
                go_wp2_with fail
                refine E.out.mono ?_
                rintro e w8 ⟨cv8, rfl, hc8, hb8⟩
                obtain ⟨co8, cc8, hcv8⟩ := hc8.slice
                rw [vals_length, HSM.out.2.1] at hcv8
                subst hcv8
                have HR8 := Lib.hid (show ∃ m, WSt W w8 p m ∧ m.mem.length = N ∧ m.l.length ≤ k + 1 from ⟨rm, HS7.out.kept hb8, HSM.out.2.1, by have h2 := HSM.out.2.2; omega⟩)
                clear E hc8 hb8
                go_wp2
                go_roundg (L - (k + 1))
                case measure => omega
                case rel => exact ⟨k + 1, rfl, by omega, by go_num, HR8⟩
          · have k2' : (kd == 2) = false := by simpa using k2
            by_cases k3 : kd = 3
            · subst k3
              obtain ⟨rc, hrc⟩ : ∃ rc, (call on m).1 = rc := ⟨_, rfl⟩
              obtain ⟨rm, hrm⟩ : ∃ rm, (call on m).2 = rm := ⟨_, rfl⟩
              have HST := Lib.hid (show rc ≠ 0 → rm = m by rw [← hrc, ← hrm]; exact call_still on m)
              have HKN := Lib.hid (show Kin m rm by rw [← hrm]; exact call_kin on HA4.out.fine)
              have C := Lib.hid (d_call HA4.out HB4.out HNM.out on)
              rw [hrc, hrm] at C
              clear hrc hrm
              go_wp2_with fail
              refine C.out.mono ?_
              rintro e w5 ⟨rfl, hD⟩
              have HS5 := Lib.hid hD.st
              have HO5 := Lib.hid (HOW.out.touch hD.stir (fun j hj hm => HOF.out j hj hm))
              clear C hD c0 c1 c2 c3
              by_cases hz : rc = 0
              · subst hz
                have D := Lib.hid (s_here HS5.out)
                have hle := HS5.out.fine.here
                rw [HKN.out.len, HSM.out.2.1] at hle
                have y1 : ¬ (N : Int) < (rm.here : Int) := by omega
                have E := Lib.hid (s_mem HS5.out)
                go_wp2_with fail
                refine D.out.mono ?_
                rintro e wz ⟨rfl, hwz⟩
                subst wz
                clear D
                go_wp2_with fail
                refine E.out.mono ?_
                rintro e w6 ⟨cv6, rfl, hc6, hb6⟩
                obtain ⟨co6, cc6, hcv6⟩ := hc6.slice
                rw [vals_length, HKN.out.len, HSM.out.2.1] at hcv6
                subst hcv6
                have HR6 := Lib.hid (show ∃ m, WSt W w6 p m ∧ m.mem.length = N ∧ m.l.length ≤ k + 1 from ⟨rm, HS5.out.kept hb6, by rw [HKN.out.len, HSM.out.2.1], by have h1 := HKN.out.less; have h2 := HSM.out.2.2; omega⟩)
                clear E hc6 hb6
                go_wp2
                go_roundg (L - (k + 1))
                case measure => omega
                case rel => exact ⟨k + 1, rfl, by omega, by go_num, HR6⟩
              · have hz' : (rc != 0) = true := by simpa using hz
                obtain rfl := HST.out hz
                have D := Lib.hid (s_mem HS5.out)
                go_wp2_with fail
                refine D.out.mono ?_
                rintro e w6 ⟨cv6, rfl, hc6, hb6⟩
                obtain ⟨co6, cc6, hcv6⟩ := hc6.slice
                rw [vals_length, HSM.out.2.1] at hcv6
                subst hcv6
                have E := Lib.hid (sameReads_any (.slice co N cc) (.slice co6 N cc6) rm.mem w6 (Reads.of_owns (HO5.out.below hb6)) (Reads.of_owns hc6) (by rw [HSM.out.2.1]; have := HK.out; omega))
                have HS6 := Lib.hid (HS5.out.kept hb6)
                clear D hc6 hb6
                go_wp2_with fail
                refine E.out.mono ?_
                rintro e w7 ⟨rfl, q, hq⟩
                have HS7 := Lib.hid (show WSt W w7 p rm by rw [hq]; exact HS6.out.drewN q)
                clear E hq
                have D := Lib.hid (s_here HS7.out)
                have E := Lib.hid (s_open HS7.out)
                have hle := HS7.out.fine.here
                rw [HSM.out.2.1] at hle
                have y1 : ¬ (N : Int) < (rm.here : Int) := by omega
                go_wp2_with fail
                refine D.out.mono ?_
                rintro e wz ⟨rfl, hwz⟩
                subst wz
                go_wp2_with fail
                refine E.out.mono ?_
                rintro e wz ⟨rfl, hwz⟩
                subst wz
                clear E
                go_wp2_with fail
                refine D.out.mono ?_
                rintro e wz ⟨rfl, hwz⟩
                subst wz
                clear D
                have E := Lib.hid (s_mem HS7.out)
                go_wp2_with fail
                refine E.out.mono ?_
                rintro e w8 ⟨cv8, rfl, hc8, hb8⟩
                obtain ⟨co8, cc8, hcv8⟩ := hc8.slice
                rw [vals_length, HSM.out.2.1] at hcv8
                subst hcv8
                have HR8 := Lib.hid (show ∃ m, WSt W w8 p m ∧ m.mem.length = N ∧ m.l.length ≤ k + 1 from ⟨rm, HS7.out.kept hb8, HSM.out.2.1, by have h2 := HSM.out.2.2; omega⟩)
                clear E hc8 hb8
                go_wp2
                go_roundg (L - (k + 1))
                case measure => omega
                case rel => exact ⟨k + 1, rfl, by omega, by go_num, HR8⟩
            · have k3' : (kd == 3) = false := by simpa using k3
              obtain ⟨rc, hrc⟩ : ∃ rc, (form (word s) m).1 = rc := ⟨_, rfl⟩
              obtain ⟨rm, hrm⟩ : ∃ rm, (form (word s) m).2 = rm := ⟨_, rfl⟩
              have HST := Lib.hid (show rc ≠ 0 → rm = m by rw [← hrc, ← hrm]; exact form_still (word s) m)
              have HKN := Lib.hid (show Kin m rm by rw [← hrm]; exact form_kin (word s) HA4.out.fine)
              have C := Lib.hid (d_form HA4.out HB4.out HNM.out s (by have := HS60.out; omega) HML.out)
              rw [hrc, hrm] at C
              clear hrc hrm
              go_wp2_with fail
              refine C.out.mono ?_
              rintro e w5 ⟨rfl, hD⟩
              have HS5 := Lib.hid hD.st
              have HO5 := Lib.hid (HOW.out.touch hD.stir (fun j hj hm => HOF.out j hj hm))
              clear C hD c0 c1 c2 c3
              by_cases hz : rc = 0
              · subst hz
                have D := Lib.hid (s_here HS5.out)
                have hle := HS5.out.fine.here
                rw [HKN.out.len, HSM.out.2.1] at hle
                have y1 : ¬ (N : Int) < (rm.here : Int) := by omega
                have E := Lib.hid (s_mem HS5.out)
                go_wp2_with fail
                refine D.out.mono ?_
                rintro e wz ⟨rfl, hwz⟩
                subst wz
                clear D
                go_wp2_with fail
                refine E.out.mono ?_
                rintro e w6 ⟨cv6, rfl, hc6, hb6⟩
                obtain ⟨co6, cc6, hcv6⟩ := hc6.slice
                rw [vals_length, HKN.out.len, HSM.out.2.1] at hcv6
                subst hcv6
                have HR6 := Lib.hid (show ∃ m, WSt W w6 p m ∧ m.mem.length = N ∧ m.l.length ≤ k + 1 from ⟨rm, HS5.out.kept hb6, by rw [HKN.out.len, HSM.out.2.1], by have h1 := HKN.out.less; have h2 := HSM.out.2.2; omega⟩)
                clear E hc6 hb6
                go_wp2
                go_roundg (L - (k + 1))
                case measure => omega
                case rel => exact ⟨k + 1, rfl, by omega, by go_num, HR6⟩
              · have hz' : (rc != 0) = true := by simpa using hz
                obtain rfl := HST.out hz
                have D := Lib.hid (s_mem HS5.out)
                go_wp2_with fail
                refine D.out.mono ?_
                rintro e w6 ⟨cv6, rfl, hc6, hb6⟩
                obtain ⟨co6, cc6, hcv6⟩ := hc6.slice
                rw [vals_length, HSM.out.2.1] at hcv6
                subst hcv6
                have E := Lib.hid (sameReads_any (.slice co N cc) (.slice co6 N cc6) rm.mem w6 (Reads.of_owns (HO5.out.below hb6)) (Reads.of_owns hc6) (by rw [HSM.out.2.1]; have := HK.out; omega))
                have HS6 := Lib.hid (HS5.out.kept hb6)
                clear D hc6 hb6
                go_wp2_with fail
                refine E.out.mono ?_
                rintro e w7 ⟨rfl, q, hq⟩
                have HS7 := Lib.hid (show WSt W w7 p rm by rw [hq]; exact HS6.out.drewN q)
                clear E hq
                have D := Lib.hid (s_here HS7.out)
                have E := Lib.hid (s_open HS7.out)
                have hle := HS7.out.fine.here
                rw [HSM.out.2.1] at hle
                have y1 : ¬ (N : Int) < (rm.here : Int) := by omega
                go_wp2_with fail
                refine D.out.mono ?_
                rintro e wz ⟨rfl, hwz⟩
                subst wz
                go_wp2_with fail
                refine E.out.mono ?_
                rintro e wz ⟨rfl, hwz⟩
                subst wz
                clear E
                go_wp2_with fail
                refine D.out.mono ?_
                rintro e wz ⟨rfl, hwz⟩
                subst wz
                clear D
                have E := Lib.hid (s_mem HS7.out)
                go_wp2_with fail
                refine E.out.mono ?_
                rintro e w8 ⟨cv8, rfl, hc8, hb8⟩
                obtain ⟨co8, cc8, hcv8⟩ := hc8.slice
                rw [vals_length, HSM.out.2.1] at hcv8
                subst hcv8
                have HR8 := Lib.hid (show ∃ m, WSt W w8 p m ∧ m.mem.length = N ∧ m.l.length ≤ k + 1 from ⟨rm, HS7.out.kept hb8, HSM.out.2.1, by have h2 := HSM.out.2.2; omega⟩)
                clear E hc8 hb8
                go_wp2
                go_roundg (L - (k + 1))
                case measure => omega
                case rel => exact ⟨k + 1, rfl, by omega, by go_num, HR8⟩
    · obtain rfl : k = L := by omega
      obtain ⟨m, hS, _⟩ := HR.out
      have HB := Lib.hid hS.below
      clear hlt hS HR
      go_wp2
      go_ret
      exact ⟨rfl, HB.out⟩
end Go.Proofs.YtffiknbdmdljoaaDoor.WeaveRoom
