
/- WeavePlays: the walk. -/
import Derived.Test.YtcpdhfigaoaohaaDoorWvBoth
import Derived.Test.YtcpdhfigaoaohaaDoorWvOps
import Derived.BigQuiet
import Derived.Deep.QuietTactic
import Derived.Deep.DeepCutAuto
namespace Go.Proofs.YtcpdhfigaoaohaaDoor.WvP
open Go.RowKit Book Book.Wide Mem Wv WvR
set_option linter.unusedSimpArgs false
set_option linter.unusedVariables false
/-- an operation that came in, in whatever world of the call -/
theorem op_in {W : World} {oo : Option Addr} {L oc : Nat} {ops : List OpIn} (h : OpsAt W (.slice oo L oc) ops) {k : Nat} {o : OpIn} (hk : ops[k]? = some o) : ∃ ad, oo = some ad ∧ o.s.size ≤ maxLen ∧ ∀ w, Below W.heap.size W w → w.cell? (ad.add (k * 4)) = some (.int .i64 o.kind) ∧ w.cell? ⟨(ad.add (k * 4)).block, (ad.add (k * 4)).off + 1, none⟩ = some (.int .i64 o.n) ∧ w.cell? ⟨(ad.add (k * 4)).block, (ad.add (k * 4)).off + 2, none⟩ = some (.int .i64 o.v) ∧ w.cell? ⟨(ad.add (k * 4)).block, (ad.add (k * 4)).off + 3, none⟩ = some (.string o.s) := by
  obtain ⟨oo', oc', e, hc⟩ := h
  simp only [Value.slice.injEq] at e
  obtain ⟨ad, ha, h0, h1, h2, h3, h4⟩ := hc k o hk
  refine ⟨ad, e.1.trans ha, h4, fun w hb => ?_⟩
  have tr : ∀ {p : Addr} {u : Value}, W.cell? p = some u → w.cell? p = some u := fun {p u} hu => by rw [hb.cell (p := p) (World.block_lt_of_cell? W _ hu)]; exact hu
  have e1 : ad.add (k * 4 + 1) = ⟨(ad.add (k * 4)).block, (ad.add (k * 4)).off + 1, none⟩ := by rw [← Go.Deep.add_add]; rfl
  have e2 : ad.add (k * 4 + 2) = ⟨(ad.add (k * 4)).block, (ad.add (k * 4)).off + 2, none⟩ := by rw [← Go.Deep.add_add]; rfl
  have e3 : ad.add (k * 4 + 3) = ⟨(ad.add (k * 4)).block, (ad.add (k * 4)).off + 3, none⟩ := by rw [← Go.Deep.add_add]; rfl
  rw [e1] at h1
  rw [e2] at h2
  rw [e3] at h3
  exact ⟨tr h0, tr h1, tr h2, tr h3⟩
theorem book_ints {w : World} {p : Nat} {vS vW : Value} (h : w.heap[p]? = some (.cells (bookArr vS vW) 38 (0, 0))) : BookInts w p vS :=
  ⟨whole_cell h rfl, whole_cell h rfl, whole_cell h rfl, whole_cell h rfl, whole_cell h rfl, whole_cell h rfl⟩
set_option maxHeartbeats 16000000 in
set_option maxRecDepth 100000 in
theorem main (here : Int) (lo : Option Addr) (L lc : Nat) (mem : List Int) (oo : Option Addr) (N oc : Nat) (ops : List OpIn) (W : World) (hr : Reads W (.slice lo L lc) mem) (ho : OpsAt W (.slice oo N oc) ops) (hL : mem.length = L) (hN : ops.length = N) (hm : L ≤ 300) (hops : N ≤ 80) (hn : NamesIs W) :
    Calls Tryd.prog 3 #[.slice lo L lc, .int .i64 here, .slice oo N oc] W (Yes W) := by
  have HR := Lib.hid hr
  have HP := Lib.hid ho
  have HNM := Lib.hid hn
  have HL := Lib.hid hL
  have HN := Lib.hid hN
  have h1 : decide (300 < (L : Int)) = false := decide_eq_false (by omega)
  have h2 : decide (80 < (N : Int)) = false := decide_eq_false (by omega)
  have C := Lib.hid (alive_any W hn)
  clear hL hN hn hr ho
  go_enter Tryd.func3, Tryd.ntmps3
  go_wp2_with fail
  refine C.out.mono ?_
  rintro e w1 ⟨rfl, hb⟩
  have HB1 := Lib.hid hb
  have C := Lib.hid (lent_any (.slice lo L lc) mem w1 (HR.out.below hb) (by rw [HL.out]; omega))
  rw [HL.out] at C
  clear hb
  go_wp2_with fail
  refine C.out.mono ?_
  rintro e w2 ⟨gl, cap, rfl, hlent, hb⟩
  have HM2 := Lib.hid hlent
  have HG2 := Lib.hid (lent_at hlent)
  have HB2 := Lib.hid (HB1.out.trans (hb.mono HB1.out.size))
  have C := Lib.hid (new_any (.slice (some ⟨gl, 0, none⟩) L cap) mem here w2 (by have := Reads.of_owns hlent.owns; rw [HL.out] at this; exact this) (by rw [HL.out]; omega))
  clear hb hlent h1 h2
  go_wp2_with fail
  refine C.out.mono ?_
  rintro e w3 ⟨p, gm, bs, rfl, hA, hb⟩
  have HA3 := Lib.hid hA
  have HB3 := Lib.hid (HB2.out.trans (hb.mono HB2.out.size))
  have HM3 := Lib.hid (HM2.out.touch (Stirred.of_below hb []) List.not_mem_nil)
  have HS3 := Lib.hid (show w2.heap.size ≤ w3.heap.size from hb.size)
  have C := Lib.hid (weaves_any (.slice lo L lc) mem here w3 (HR.out.below HB3.out) (by rw [HL.out]; omega))
  clear hb hA
  go_wp2_with fail
  refine C.out.mono ?_
  rintro e w4 ⟨pr, rs, rfl, hA, hb⟩
  have HA4 := Lib.hid (HA3.out.below hb)
  have HR4 := Lib.hid hA
  have HB4 := Lib.hid (HB3.out.trans (hb.mono HB3.out.size))
  have HM4 := Lib.hid (HM3.out.touch (Stirred.of_below hb []) List.not_mem_nil)
  have HLT := Lib.hid (show ∀ k ∈ bs, k < w3.heap.size from fun k hk => (HA3.out.lt k hk).2)
  have HS4 := Lib.hid (show w3.heap.size ≤ w4.heap.size from hb.size)
  clear hb hA C
  have hbl := (Below.refl w4.heap.size w4).alloc (Nat.le_refl _) (.cells (bookArr (.slice none 0 0) (.slice none 0 0)) 38)
  have hnew := heap_alloc_new w4 (.cells (bookArr (.slice none 0 0) (.slice none 0 0)) 38)
  obtain ⟨wl, hwl⟩ : ∃ wl, w4.alloc (.cells (bookArr (.slice none 0 0) (.slice none 0 0)) 38) = wl := ⟨_, rfl⟩
  rw [hwl] at hbl hnew
  have hwl' : w4.alloc (.cells #[.slice none 0 0, .slice none 0 0, .slice none 0 0, .slice none 0 0, .slice none 0 0, .slice none 0 0, .slice none 0 0, .slice none 0 0, .slice none 0 0, .slice none 0 0, .slice none 0 0, .slice none 0 0] 38) = wl := hwl
  obtain ⟨pb, hpb⟩ : ∃ pb, w4.heap.size = pb := ⟨_, rfl⟩
  have HST := Lib.hid (show IN W wl pb p pr gl cap mem L 0 0 from by
    have h1 := HG2.out
    have h2 := HS3.out
    have h3 := HS4.out
    have h4 := HB1.out.size
    have h5 := HB2.out.size
    have h6 := HB3.out.size
    have hl : Lent w4 W.heap.size gl cap mem := Owns.from HM4.out h4
    rw [← hpb]
    exact ⟨gm, bs, rs, Wv.start mem here, .slice none 0 0, .slice none 0 0, [], ⟨(HA4.out.below hbl).from h5, (HR4.out.below hbl).from h6, hl.touch (Stirred.of_below hbl []) List.not_mem_nil, hnew, Kept.nil _ _ _ _ _ _,
      fun k hk hm => by have q1 := HLT.out k hk; have q2 := (HR4.out.lt k hm).1; omega,
      ⟨fun hm => by have q1 := (HA3.out.lt gl hm).1; omega, fun hm => by have q1 := (HR4.out.lt gl hm).1; omega⟩,
      ⟨fun hm => by have q1 := HLT.out _ hm; omega, fun hm => by have q1 := (HR4.out.lt _ hm).2; omega, by omega⟩, HB4.out.size, HB4.out.trans (hbl.mono HB4.out.size), HNM.out⟩, Nat.le_refl _, Nat.zero_le _, HL.out⟩)
  clear hbl hnew hwl HA3 HA4 HR4 HB1 HB2 HB3 HB4 HM2 HM3 HM4 HG2 HLT HS3 HS4
  go_wp2
  clear hwl' hpb
  go_loopg [11] (N + 1) (fun g' i wr => ∃ (j : Nat) (iv : Int), g' = N + 1 - j ∧ j ≤ N + 1 ∧ i = .int .i64 iv ∧ Hid (iv = (j : Int)) ∧ Hid (IN W wr pb p pr gl cap mem L j j))
  case atStart => exact ⟨0, 0, rfl, Nat.zero_le _, rfl, Lib.hid rfl, HST⟩
  case round =>
    clear HST
    obtain ⟨j, iv, rfl, hj, rfl, HIV, HI⟩ := hrel
    by_cases hlt : j ≤ N
    · have e1 : iv ≤ (N : Int) := by have := HIV.out; omega
      go_upto_if 48 with fail
      go_cut [] (fun wx => Hid (IN W wx pb p pr gl cap mem L j (j + 1)))
      case first =>
        by_cases hj0 : j = 0
        · have e5 : ¬ (0 : Int) < iv := by have := HIV.out; omega
          have HI' := Lib.hid (show IN W wr pb p pr gl cap mem L j (j + 1) from by obtain ⟨gm, bs, rs, m, vS, vW, ls, h, h1, h2, h3⟩ := HI.out; exact ⟨gm, bs, rs, m, vS, vW, ls, h, h1, Nat.le_succ_of_le h2, h3⟩)
          clear HI
          go_wp2_with fail
          go_meet
          exact HI'
        · obtain ⟨k, hk⟩ : ∃ k, j = k + 1 := ⟨j - 1, by omega⟩
          have e5 : (0 : Int) < iv := by have := HIV.out; omega
          have hiv : iv - 1 = (k : Int) := by have := HIV.out; omega
          have z0 : (0 : Int) ≤ (k : Int) := by omega
          have z1 : (k : Int) < (N : Int) := by omega
          have HK := Lib.hid hk
          obtain ⟨gm, bs, rs, m, vS, vW, ls, hPS, hls, hml, hme⟩ := HI.out
          clear HI
          obtain ⟨o, hop⟩ : ∃ o, ops[k]? = some o := ⟨_, List.getElem?_eq_getElem (by rw [HN.out]; omega)⟩
          obtain ⟨ad, rfl, hsz, hcell⟩ := op_in HP.out hop
          obtain ⟨c0, c1, c2, c3⟩ := hcell wr hPS.below
          obtain ⟨kd, on, ov, s⟩ := o
          dsimp only at c0 c1 c2 c3 hsz
          have hsz : s.size ≤ 9223372036854775807 := hsz
          have hbo := (Below.refl wr.heap.size wr).alloc (Nat.le_refl _) (.cells #[.int .i64 kd, .int .i64 on, .int .i64 ov, .string s] 40)
          have hnew := heap_alloc_new wr (.cells #[.int .i64 kd, .int .i64 on, .int .i64 ov, .string s] 40)
          have hgb : wr.heap.size ∉ bs := fun hm => Nat.lt_irrefl _ (hPS.wv.lt _ hm).2
          have hgr : wr.heap.size ∉ rs := fun hm => Nat.lt_irrefl _ (hPS.rf.lt _ hm).2
          obtain ⟨wo, hwo⟩ : ∃ wo, wr.alloc (.cells #[.int .i64 kd, .int .i64 on, .int .i64 ov, .string s] 40) = wo := ⟨_, rfl⟩
          obtain ⟨g0, hg0⟩ : ∃ g0, wr.heap.size = g0 := ⟨_, rfl⟩
          rw [hwo] at hbo hnew
          rw [hg0] at hgb hgr hnew
          have HPO := Lib.hid (hPS.more (by rw [hg0]; rw [hg0] at hbo; exact hbo))
          have HBX := Lib.hid hnew
          have HOF := Lib.hid (And.intro hgb hgr)
          have HLS := Lib.hid (show ls.length ≤ j ∧ m.l.length ≤ j ∧ m.mem.length = L ∧ m.l.length < 1000 from ⟨hls, hml, hme, by omega⟩)
          have k0 : wo.cell? ⟨g0, 0, none⟩ = some (.int .i64 kd) := whole_cell hnew rfl
          have k1 : wo.cell? ⟨g0, 1, none⟩ = some (.int .i64 on) := whole_cell hnew rfl
          have k2 : wo.cell? ⟨g0, 2, none⟩ = some (.int .i64 ov) := whole_cell hnew rfl
          have k3 : wo.cell? ⟨g0, 3, none⟩ = some (.string s) := whole_cell hnew rfl
          clear hPS hls hml hme hop hcell hbo hnew hgb hgr hk
          by_cases hbig : 60 < s.size
          · have e6 : decide (60 < (s.size : Int)) = true := decide_eq_true (by omega)
            have HB := Lib.hid HPO.out.below
            clear HPO HBX hbig
            go_wp2
            go_ret
            exact ⟨rfl, HB.out⟩
          · have e6 : decide (60 < (s.size : Int)) = false := decide_eq_false (by omega)
            have HS6 := Lib.hid (show s.size ≤ 1000 by omega)
            have HPD := Lib.hid (HPO.out.drewN 1)
            have HBD := Lib.hid (show (wo.drewN 1).heap[g0]? = _ from HBX.out)
            clear hbig hsz HPO HBX
            by_cases d1 : kd = 1
            · subst d1
              obtain ⟨rc, hrc⟩ : ∃ rc, (op on m).1 = rc := ⟨_, rfl⟩
              obtain ⟨rm, hrm⟩ : ∃ rm, (op on m).2 = rm := ⟨_, rfl⟩
              have HKN := Lib.hid (show Kin m rm by rw [← hrm]; exact op_kin on HPD.out.wv.fine)
              have HRC := Lib.hid hrc
              have HRM := Lib.hid hrm
              have P1 := Lib.hid (p_op HPD.out on)
              have R1 := Lib.hid (r_op HPD.out on)
              rw [hrc, hrm] at P1 R1
              clear hrc hrm
              go_wp2_with fail
              go_region_with (first
                | (go_at_call 9; refine R2.out.mono ?_; rintro e w6 ⟨rfl, rs6, hP, hs⟩; have HP6 := Lib.hid (show ∃ bs' rs', PS W w6 pb p gm pr gl cap bs' rs' rm rm mem vS vW ls from ⟨_, _, hP⟩); clear hP hs)
                | (go_at_call 8; refine P2.out.mono ?_; rintro e w6 ⟨rfl, bs6, hP, hs⟩; have HP6 := Lib.hid (show ∃ bs' rs', PS W w6 pb p gm pr gl cap bs' rs' rm rm mem vS vW ls from ⟨_, _, hP⟩); clear hP hs)
                | (go_at_call 8; refine P1.out.mono ?_; rintro e w5 ⟨rfl, bs5, hP, hs⟩; have hbx := hs.whole HBD.out HOF.out.1; have k1 : w5.cell? ⟨g0, 1, none⟩ = some (.int .i64 on) := whole_cell hbx rfl; have k2 : w5.cell? ⟨g0, 2, none⟩ = some (.int .i64 ov) := whole_cell hbx rfl; have k3 : w5.cell? ⟨g0, 3, none⟩ = some (.string s) := whole_cell hbx rfl; have R2 := Lib.hid (r_op hP on); rw [HRC.out, HRM.out] at R2; clear hP hs hbx)
                | (go_at_call 9; refine R1.out.mono ?_; rintro e w5 ⟨rfl, rs5, hP, hs⟩; have hbx := hs.whole HBD.out HOF.out.2; have k1 : w5.cell? ⟨g0, 1, none⟩ = some (.int .i64 on) := whole_cell hbx rfl; have k2 : w5.cell? ⟨g0, 2, none⟩ = some (.int .i64 ov) := whole_cell hbx rfl; have k3 : w5.cell? ⟨g0, 3, none⟩ = some (.string s) := whole_cell hbx rfl; have P2 := Lib.hid (p_op hP on); rw [HRC.out, HRM.out] at P2; clear hP hs hbx))
              all_goals
                have HI6 := Lib.hid (show IN W w6 pb p pr gl cap mem L j (j + 1) from by
                  obtain ⟨bs', rs', h⟩ := HP6.out
                  exact ⟨gm, bs', rs', rm, vS, vW, ls, h, HLS.out.1, by have h1 := HKN.out.less; have h2 := HLS.out.2.1; omega, by rw [HKN.out.len]; exact HLS.out.2.2.1⟩)
                clear HP6
                go_wp2_with fail
                go_meet
                exact HI6
            · have d1' : (kd == 1) = false := by simpa using d1
              by_cases d2 : kd = 2
              · subst d2
                obtain ⟨rc, hrc⟩ : ∃ rc, (arg on ov m).1 = rc := ⟨_, rfl⟩
                obtain ⟨rm, hrm⟩ : ∃ rm, (arg on ov m).2 = rm := ⟨_, rfl⟩
                have HKN := Lib.hid (show Kin m rm by rw [← hrm]; exact arg_kin on ov HPD.out.wv.fine)
                have HRC := Lib.hid hrc
                have HRM := Lib.hid hrm
                have P1 := Lib.hid (p_arg HPD.out on ov)
                have R1 := Lib.hid (r_arg HPD.out on ov)
                rw [hrc, hrm] at P1 R1
                clear hrc hrm
                go_wp2_with fail
                have K1 := Lib.hid k1
                have K2 := Lib.hid k2
                go_region_held3 (fun w' => w'.cell? ⟨g0, 1, none⟩ = some (.int .i64 on) ∧ w'.cell? ⟨g0, 2, none⟩ = some (.int .i64 ov))
                  (first | with_reducible exact ⟨K61.out, K62.out⟩ | with_reducible exact ⟨K51.out, K52.out⟩ | exact ⟨K1.out, K2.out⟩)
                  (first
                  | (go_at_call 11; refine R2.out.mono ?_; rintro e w6 ⟨rfl, rs6, hP, hs⟩; have HP6 := Lib.hid (show ∃ bs' rs', PS W w6 pb p gm pr gl cap bs' rs' rm rm mem vS vW ls from ⟨_, _, hP⟩); have hbx := hs.whole HB5.out HOF.out.2; have K61 := Lib.hid (show w6.cell? ⟨g0, 1, none⟩ = some (.int .i64 on) from whole_cell hbx rfl); have K62 := Lib.hid (show w6.cell? ⟨g0, 2, none⟩ = some (.int .i64 ov) from whole_cell hbx rfl); clear hP hs hbx)
                  | (go_at_call 10; refine P2.out.mono ?_; rintro e w6 ⟨rfl, bs6, hP, hs⟩; have HP6 := Lib.hid (show ∃ bs' rs', PS W w6 pb p gm pr gl cap bs' rs' rm rm mem vS vW ls from ⟨_, _, hP⟩); have hbx := hs.whole HB5.out HOF.out.1; have K61 := Lib.hid (show w6.cell? ⟨g0, 1, none⟩ = some (.int .i64 on) from whole_cell hbx rfl); have K62 := Lib.hid (show w6.cell? ⟨g0, 2, none⟩ = some (.int .i64 ov) from whole_cell hbx rfl); clear hP hs hbx)
                  | (go_at_call 10; refine P1.out.mono ?_; rintro e w5 ⟨rfl, bs5, hP, hs⟩; have HB5 := Lib.hid (hs.whole HBD.out HOF.out.1); have K51 := Lib.hid (show w5.cell? ⟨g0, 1, none⟩ = some (.int .i64 on) from whole_cell HB5.out rfl); have K52 := Lib.hid (show w5.cell? ⟨g0, 2, none⟩ = some (.int .i64 ov) from whole_cell HB5.out rfl); have R2 := Lib.hid (r_arg hP on ov); rw [HRC.out, HRM.out] at R2; clear hP hs)
                  | (go_at_call 11; refine R1.out.mono ?_; rintro e w5 ⟨rfl, rs5, hP, hs⟩; have HB5 := Lib.hid (hs.whole HBD.out HOF.out.2); have K51 := Lib.hid (show w5.cell? ⟨g0, 1, none⟩ = some (.int .i64 on) from whole_cell HB5.out rfl); have K52 := Lib.hid (show w5.cell? ⟨g0, 2, none⟩ = some (.int .i64 ov) from whole_cell HB5.out rfl); have P2 := Lib.hid (p_arg hP on ov); rw [HRC.out, HRM.out] at P2; clear hP hs))
                all_goals
                  have HI6 := Lib.hid (show IN W w6 pb p pr gl cap mem L j (j + 1) from by
                    obtain ⟨bs', rs', h⟩ := HP6.out
                    exact ⟨gm, bs', rs', rm, vS, vW, ls, h, HLS.out.1, by have h1 := HKN.out.less; have h2 := HLS.out.2.1; omega, by rw [HKN.out.len]; exact HLS.out.2.2.1⟩)
                  clear HP6
                  go_wp2_with fail
                  go_meet
                  exact HI6
              · have d2' : (kd == 2) = false := by simpa using d2
                by_cases d3 : kd = 3
                · subst d3
                  obtain ⟨rc, hrc⟩ : ∃ rc, (call on m).1 = rc := ⟨_, rfl⟩
                  obtain ⟨rm, hrm⟩ : ∃ rm, (call on m).2 = rm := ⟨_, rfl⟩
                  have HKN := Lib.hid (show Kin m rm by rw [← hrm]; exact call_kin on HPD.out.wv.fine)
                  have HRC := Lib.hid hrc
                  have HRM := Lib.hid hrm
                  have P1 := Lib.hid (p_call HPD.out on)
                  have R1 := Lib.hid (r_call HPD.out on)
                  rw [hrc, hrm] at P1 R1
                  clear hrc hrm
                  go_wp2_with fail
                  go_region_with (first
                    | (go_at_call 13; refine R2.out.mono ?_; rintro e w6 ⟨rfl, rs6, hP, hs⟩; have HP6 := Lib.hid (show ∃ bs' rs', PS W w6 pb p gm pr gl cap bs' rs' rm rm mem vS vW ls from ⟨_, _, hP⟩); clear hP hs)
                    | (go_at_call 12; refine P2.out.mono ?_; rintro e w6 ⟨rfl, bs6, hP, hs⟩; have HP6 := Lib.hid (show ∃ bs' rs', PS W w6 pb p gm pr gl cap bs' rs' rm rm mem vS vW ls from ⟨_, _, hP⟩); clear hP hs)
                    | (go_at_call 12; refine P1.out.mono ?_; rintro e w5 ⟨rfl, bs5, hP, hs⟩; have hbx := hs.whole HBD.out HOF.out.1; have k1 : w5.cell? ⟨g0, 1, none⟩ = some (.int .i64 on) := whole_cell hbx rfl; have k2 : w5.cell? ⟨g0, 2, none⟩ = some (.int .i64 ov) := whole_cell hbx rfl; have k3 : w5.cell? ⟨g0, 3, none⟩ = some (.string s) := whole_cell hbx rfl; have R2 := Lib.hid (r_call hP on); rw [HRC.out, HRM.out] at R2; clear hP hs hbx)
                    | (go_at_call 13; refine R1.out.mono ?_; rintro e w5 ⟨rfl, rs5, hP, hs⟩; have hbx := hs.whole HBD.out HOF.out.2; have k1 : w5.cell? ⟨g0, 1, none⟩ = some (.int .i64 on) := whole_cell hbx rfl; have k2 : w5.cell? ⟨g0, 2, none⟩ = some (.int .i64 ov) := whole_cell hbx rfl; have k3 : w5.cell? ⟨g0, 3, none⟩ = some (.string s) := whole_cell hbx rfl; have P2 := Lib.hid (p_call hP on); rw [HRC.out, HRM.out] at P2; clear hP hs hbx))
                  all_goals
                    have HI6 := Lib.hid (show IN W w6 pb p pr gl cap mem L j (j + 1) from by
                      obtain ⟨bs', rs', h⟩ := HP6.out
                      exact ⟨gm, bs', rs', rm, vS, vW, ls, h, HLS.out.1, by have h1 := HKN.out.less; have h2 := HLS.out.2.1; omega, by rw [HKN.out.len]; exact HLS.out.2.2.1⟩)
                    clear HP6
                    go_wp2_with fail
                    go_meet
                    exact HI6
                · have d3' : (kd == 3) = false := by simpa using d3
                  obtain ⟨rc, hrc⟩ : ∃ rc, (form (word s) m).1 = rc := ⟨_, rfl⟩
                  obtain ⟨rm, hrm⟩ : ∃ rm, (form (word s) m).2 = rm := ⟨_, rfl⟩
                  have HKN := Lib.hid (show Kin m rm by rw [← hrm]; exact form_kin (word s) HPD.out.wv.fine)
                  have HRC := Lib.hid hrc
                  have HRM := Lib.hid hrm
                  have P1 := Lib.hid (p_form HPD.out s HS6.out HLS.out.2.2.2)
                  have R1 := Lib.hid (r_form HPD.out s HS6.out HLS.out.2.2.2)
                  rw [hrc, hrm] at P1 R1
                  clear hrc hrm
                  go_wp2_with fail
                  go_region_with (first
                    | (go_at_call 15; refine R2.out.mono ?_; rintro e w6 ⟨rfl, rs6, hP, hs⟩; have HP6 := Lib.hid (show ∃ bs' rs', PS W w6 pb p gm pr gl cap bs' rs' rm rm mem vS vW ls from ⟨_, _, hP⟩); clear hP hs)
                    | (go_at_call 14; refine P2.out.mono ?_; rintro e w6 ⟨rfl, bs6, hP, hs⟩; have HP6 := Lib.hid (show ∃ bs' rs', PS W w6 pb p gm pr gl cap bs' rs' rm rm mem vS vW ls from ⟨_, _, hP⟩); clear hP hs)
                    | (go_at_call 14; refine P1.out.mono ?_; rintro e w5 ⟨rfl, bs5, hP, hs⟩; have hbx := hs.whole HBD.out HOF.out.1; have k1 : w5.cell? ⟨g0, 1, none⟩ = some (.int .i64 on) := whole_cell hbx rfl; have k2 : w5.cell? ⟨g0, 2, none⟩ = some (.int .i64 ov) := whole_cell hbx rfl; have k3 : w5.cell? ⟨g0, 3, none⟩ = some (.string s) := whole_cell hbx rfl; have R2 := Lib.hid (r_form hP s HS6.out HLS.out.2.2.2); rw [HRC.out, HRM.out] at R2; clear hP hs hbx)
                    | (go_at_call 15; refine R1.out.mono ?_; rintro e w5 ⟨rfl, rs5, hP, hs⟩; have hbx := hs.whole HBD.out HOF.out.2; have k1 : w5.cell? ⟨g0, 1, none⟩ = some (.int .i64 on) := whole_cell hbx rfl; have k2 : w5.cell? ⟨g0, 2, none⟩ = some (.int .i64 ov) := whole_cell hbx rfl; have k3 : w5.cell? ⟨g0, 3, none⟩ = some (.string s) := whole_cell hbx rfl; have P2 := Lib.hid (p_form hP s HS6.out HLS.out.2.2.2); rw [HRC.out, HRM.out] at P2; clear hP hs hbx))
                  all_goals
                    have HI6 := Lib.hid (show IN W w6 pb p pr gl cap mem L j (j + 1) from by
                      obtain ⟨bs', rs', h⟩ := HP6.out
                      exact ⟨gm, bs', rs', rm, vS, vW, ls, h, HLS.out.1, by have h1 := HKN.out.less; have h2 := HLS.out.2.1; omega, by rw [HKN.out.len]; exact HLS.out.2.2.1⟩)
                    clear HP6
                    go_wp2_with fail
                    go_meet
                    exact HI6
      case rest =>
        clear HI e1
        obtain ⟨gm, bs, rs, m, vS, vW, ls, hPS, hls, hml, hme⟩ := hcut.out
        have HPS := Lib.hid hPS
        have HLS := Lib.hid (And.intro hls (And.intro hml hme))
        have C := Lib.hid (mem_any hPS.wv)
        clear hcut hPS hls hml hme
        go_wp2_with fail
        refine C.out.mono ?_
        rintro e w6 ⟨cv, rfl, hO, hb⟩
        have D := Lib.hid (HPS.out.ints hb hO (by have := HLS.out.1; omega))
        obtain ⟨co, cc, hcv⟩ := hO.slice
        rw [vals_length, HLS.out.2.2] at hcv
        subst hcv
        clear C hO hb
        go_wp2_with fail
        refine D.out.mono ?_
        rintro e w7 ⟨rfl, vS', vW', hP7, hO7⟩
        obtain ⟨mo, mc, xo, xc, hbox, hrd⟩ := hP7.box
        rw [HLS.out.2.2] at hbox hrd
        have HP7 := Lib.hid hP7
        have r0 : w7.cell? ⟨pr, 0, none⟩ = some (.slice mo L mc) := whole_cell hbox rfl
        have r1 : w7.cell? ⟨pr, 1, none⟩ = some (.int .i64 (m.here : Int)) := whole_cell hbox rfl
        have r2 : w7.cell? ⟨pr, 2, none⟩ = some (.slice xo m.l.length xc) := whole_cell hbox rfl
        have C1 := Lib.hid (fun q => sameReads_any (.slice co L cc) (.slice mo L mc) m.mem (w7.drewN q) ((Reads.of_owns hO7).below (Wv.below_drewN w7 q)) (hrd.below (Wv.below_drewN w7 q)) (by rw [HLS.out.2.2]; omega))
        have C2 := Lib.hid (fun q => here_any (hP7.wv.drewN q))
        have C3 := Lib.hid (fun q => open_any (hP7.wv.drewN q))
        have HI7 := Lib.hid (fun q => show IN W (w7.drewN q) pb p pr gl cap mem L (j + 1) (j + 1) from ⟨gm, bs, rs, m, vS', vW', _, hP7.drewN q, by rw [List.length_append]; show ls.length + 1 ≤ j + 1; have := HLS.out.1; omega, HLS.out.2.1, HLS.out.2.2⟩)
        clear D hP7 hO7 hbox hrd
        go_wp2_with fail
        go_quiet (first | (go_at_call 18; exact Calls.quiet_of (C1.out _)) | (go_at_call 19; exact Calls.quiet_of_same (C2.out _)) | (go_at_call 20; exact Calls.quiet_of_same (C3.out _)))
        go_wp2
        go_roundg (N + 1 - (j + 1))
        case measure => omega
        case rel => exact ⟨j + 1, wrap64 (iv + 1), rfl, by omega, rfl, Lib.hid (by have := HIV.out; unfold wrap64; omega), Lib.hid (HI7.out _)⟩
    · obtain rfl : j = N + 1 := by omega
      obtain ⟨gm, bs, rs, m, vS, vW, ls, hPS, hls, hml, hme⟩ := HI.out
      have e1 : ¬ iv ≤ (N : Int) := by have := HIV.out; omega
      have HPS := Lib.hid hPS
      have HRW := Lib.hid (HR.out.below hPS.below)
      have C1 := Lib.hid (op_nil 6 wr)
      have C2 := Lib.hid (arg_nil 2 1 wr)
      have C3 := Lib.hid (call_nil 100 wr)
      have C4 := Lib.hid (form_nil ⟨#[73, 70]⟩ (by decide) wr (hPS.names.mono hPS.below))
      clear hPS hls hml hme HI hlt
      go_wp2_with fail
      refine C1.out.mono ?_
      rintro e wz ⟨rfl, hwz⟩
      subst wz
      go_wp2_with fail
      refine C2.out.mono ?_
      rintro e wz ⟨rfl, hwz⟩
      subst wz
      go_wp2_with fail
      refine C3.out.mono ?_
      rintro e wz ⟨rfl, hwz⟩
      subst wz
      go_wp2_with fail
      refine C4.out.mono ?_
      rintro e w8 ⟨rfl, hb⟩
      have HP8 := Lib.hid (HPS.out.more hb)
      have HR8 := Lib.hid (HRW.out.below hb)
      have C1 := Lib.hid (open_nil w8)
      have C2 := Lib.hid (here_nil w8)
      have C3 := Lib.hid (mem_nil w8)
      have C4 := Lib.hid (stays_any W.heap.size gl cap (.slice lo L lc) mem w8 HP8.out.lent HR8.out (by rw [HL.out]; omega))
      rw [HL.out] at C4
      clear hb HPS HRW
      go_wp2_with fail
      refine C1.out.mono ?_
      rintro e wz ⟨rfl, hwz⟩
      subst wz
      go_wp2_with fail
      refine C2.out.mono ?_
      rintro e wz ⟨rfl, hwz⟩
      subst wz
      go_wp2_with fail
      refine C3.out.mono ?_
      rintro e wz ⟨rfl, hwz⟩
      subst wz
      go_wp2_with fail
      refine C4.out.mono ?_
      rintro e w9 ⟨rfl, q, hq⟩
      have HP9 := Lib.hid (show PS W w9 pb p gm pr gl cap bs rs m m mem vS vW ls by rw [hq]; exact HP8.out.drewN q)
      have D := Lib.hid (apartInts_any pb (pb + 1) vS vW ls w9 (Nat.lt_succ_self _) (whole_lt HP9.out.book) (book_ints HP9.out.book) (whole_cell HP9.out.book rfl) (gl :: (bs ++ rs)) HP9.out.kept)
      clear hq C1 C2 C3 C4 HP8 HR8
      go_wp2_with fail
      refine D.out.mono ?_
      rintro e w10 ⟨rfl, hb⟩
      have HB := Lib.hid (HP9.out.below.trans (hb.mono (Nat.le_succ_of_le HP9.out.base)))
      clear hb D
      go_wp2
      go_ret
      exact ⟨rfl, HB.out⟩
end Go.Proofs.YtcpdhfigaoaohaaDoor.WvP
