
/- Package ir: what a trace takes, whether its cells rise, whether an exit may be, what an instruction works on. -/
import Derived.Test.YtpecingkoodmfaaGreatDoorIrNames
import Derived.Test.YtpecingkoodmfaaGreatDoorIrLeads
import Derived.Test.YtpecingkoodmfaaGreatDoorIrR0
import Derived.IntWalk
namespace Go.Proofs.YtpecingkoodmfaaGreatDoor.Ir
open Go.RowKit Book Mem
set_option linter.unusedSimpArgs false
set_option linter.unusedVariables false
set_option maxHeartbeats 4000000 in
theorem takes_any {w : World} {t : T} {vi vo vc : Value} (h : ReadsL w vi vo vc t) : Calls Tryz.prog 40 #[trV t vi vo vc] w (Says (.bool (takes t)) w) := by
  obtain ⟨ai, ci, ao, co, ac, cc, rfl, rfl, rfl⟩ := h.known
  obtain ⟨w1, g, hw1, hg, HG, HB, HZ⟩ := newBox w (trA t (.slice ai t.ins.length ci) (.slice ao t.outs.length co) (.slice ac t.cells.length cc)) 26
  obtain ⟨c0, c1, c2, c3, c4, c5, c6, c7, c8⟩ := cells9 HG.out
  obtain ⟨st, sl, bks, gr, gb, ins, outs, la, cells⟩ := t
  dsimp only at *
  clear h
  have D0 := Lib.hid (within_any st 2999 w1)
  by_cases q0 : within st 2999 = true
  · rw [q0] at D0
    have D1 := Lib.hid (within_any sl 48 w1)
    by_cases q1 : within sl 48 = true
    · rw [q1] at D1
      have D2 := Lib.hid (within_any gr 48 w1)
      by_cases q2 : within gr 48 = true
      · rw [q2] at D2
        have D3 := Lib.hid (within_any bks 48 w1)
        by_cases q3 : within bks 48 = true
        · rw [q3] at D3
          have D4 := Lib.hid (within_any gb 48 w1)
          by_cases q4 : within gb 48 = true
          · rw [q4] at D4
            have HF := Lib.hid (show takes ⟨st, sl, bks, gr, gb, ins, outs, la, cells⟩ = true by unfold takes; rw [show within st 2999 = true from q0, show within sl 48 = true from q1, show within gr 48 = true from q2, show within bks 48 = true from q3, show within gb 48 = true from q4]; rfl)
            clear q0 q1 q2 q3 q4
            go_enter Tryz.func40, Tryz.ntmps40
            go_wp2_with fail
            refine D0.out.mono ?_
            rintro e wz ⟨rfl, hwz⟩
            subst wz
            go_wp2_with fail
            refine D1.out.mono ?_
            rintro e wz ⟨rfl, hwz⟩
            subst wz
            go_wp2_with fail
            refine D2.out.mono ?_
            rintro e wz ⟨rfl, hwz⟩
            subst wz
            go_wp2_with fail
            refine D3.out.mono ?_
            rintro e wz ⟨rfl, hwz⟩
            subst wz
            go_wp2_with fail
            refine D4.out.mono ?_
            rintro e wz ⟨rfl, hwz⟩
            subst wz
            go_wp2
            go_ret
            exact ⟨by rw [HF.out]; rfl, HB.out⟩
          · have q4 : within gb 48 = false := by simpa using q4
            rw [q4] at D4
            have HF := Lib.hid (show takes ⟨st, sl, bks, gr, gb, ins, outs, la, cells⟩ = false by unfold takes; rw [show within gb 48 = false from q4]; simp)
            clear q0 q1 q2 q3 q4
            go_enter Tryz.func40, Tryz.ntmps40
            go_wp2_with fail
            refine D0.out.mono ?_
            rintro e wz ⟨rfl, hwz⟩
            subst wz
            go_wp2_with fail
            refine D1.out.mono ?_
            rintro e wz ⟨rfl, hwz⟩
            subst wz
            go_wp2_with fail
            refine D2.out.mono ?_
            rintro e wz ⟨rfl, hwz⟩
            subst wz
            go_wp2_with fail
            refine D3.out.mono ?_
            rintro e wz ⟨rfl, hwz⟩
            subst wz
            go_wp2_with fail
            refine D4.out.mono ?_
            rintro e wz ⟨rfl, hwz⟩
            subst wz
            go_wp2
            go_ret
            exact ⟨by rw [HF.out]; rfl, HB.out⟩
        · have q3 : within bks 48 = false := by simpa using q3
          rw [q3] at D3
          have HF := Lib.hid (show takes ⟨st, sl, bks, gr, gb, ins, outs, la, cells⟩ = false by unfold takes; rw [show within bks 48 = false from q3]; simp)
          clear q0 q1 q2 q3
          go_enter Tryz.func40, Tryz.ntmps40
          go_wp2_with fail
          refine D0.out.mono ?_
          rintro e wz ⟨rfl, hwz⟩
          subst wz
          go_wp2_with fail
          refine D1.out.mono ?_
          rintro e wz ⟨rfl, hwz⟩
          subst wz
          go_wp2_with fail
          refine D2.out.mono ?_
          rintro e wz ⟨rfl, hwz⟩
          subst wz
          go_wp2_with fail
          refine D3.out.mono ?_
          rintro e wz ⟨rfl, hwz⟩
          subst wz
          go_wp2
          go_ret
          exact ⟨by rw [HF.out]; rfl, HB.out⟩
      · have q2 : within gr 48 = false := by simpa using q2
        rw [q2] at D2
        have HF := Lib.hid (show takes ⟨st, sl, bks, gr, gb, ins, outs, la, cells⟩ = false by unfold takes; rw [show within gr 48 = false from q2]; simp)
        clear q0 q1 q2
        go_enter Tryz.func40, Tryz.ntmps40
        go_wp2_with fail
        refine D0.out.mono ?_
        rintro e wz ⟨rfl, hwz⟩
        subst wz
        go_wp2_with fail
        refine D1.out.mono ?_
        rintro e wz ⟨rfl, hwz⟩
        subst wz
        go_wp2_with fail
        refine D2.out.mono ?_
        rintro e wz ⟨rfl, hwz⟩
        subst wz
        go_wp2
        go_ret
        exact ⟨by rw [HF.out]; rfl, HB.out⟩
    · have q1 : within sl 48 = false := by simpa using q1
      rw [q1] at D1
      have HF := Lib.hid (show takes ⟨st, sl, bks, gr, gb, ins, outs, la, cells⟩ = false by unfold takes; rw [show within sl 48 = false from q1]; simp)
      clear q0 q1
      go_enter Tryz.func40, Tryz.ntmps40
      go_wp2_with fail
      refine D0.out.mono ?_
      rintro e wz ⟨rfl, hwz⟩
      subst wz
      go_wp2_with fail
      refine D1.out.mono ?_
      rintro e wz ⟨rfl, hwz⟩
      subst wz
      go_wp2
      go_ret
      exact ⟨by rw [HF.out]; rfl, HB.out⟩
  · have q0 : within st 2999 = false := by simpa using q0
    rw [q0] at D0
    have HF := Lib.hid (show takes ⟨st, sl, bks, gr, gb, ins, outs, la, cells⟩ = false by unfold takes; rw [show within st 2999 = false from q0]; simp)
    clear q0
    go_enter Tryz.func40, Tryz.ntmps40
    go_wp2_with fail
    refine D0.out.mono ?_
    rintro e wz ⟨rfl, hwz⟩
    subst wz
    go_wp2
    go_ret
    exact ⟨by rw [HF.out]; rfl, HB.out⟩
set_option maxHeartbeats 4000000 in
theorem rise_any {w : World} {v : Value} {l : List Int} (hv : Reads w v l) (hl : l.length ≤ 1000000) : Calls Tryz.prog 41 #[v] w fun e w' => e = .returned (.bool (rise 0 l)) ∧ w' = w := by
  obtain ⟨av, cv, rfl⟩ := reads_form hv
  have HV := Lib.hid hv
  obtain ⟨n, hn⟩ : ∃ n, l.length = n := ⟨_, rfl⟩
  have HN := Lib.hid hn
  rw [hn] at hl HV ⊢
  obtain ⟨res, hres⟩ : ∃ res, rise 0 l = res := ⟨_, rfl⟩
  have HRS := Lib.hid hres
  rw [hres]
  clear hv hn hres
  go_enter Tryz.func41, Tryz.ntmps41
  go_wp2
  go_loopg [3, 8] n (fun z s i wr => ∃ (j : Nat) (least : Int), z = n - j ∧ j ≤ n ∧ s = .int .i64 least ∧ i = .int .i64 (j : Int) ∧ wr = w ∧ Hid (0 ≤ least ∧ least ≤ 3000) ∧ Hid (rise least (l.drop j) = res))
  case atStart => exact ⟨0, 0, rfl, Nat.zero_le _, rfl, rfl, rfl, Lib.hid ⟨by omega, by omega⟩, Lib.hid HRS.out⟩
  case round =>
    obtain ⟨j, least, rfl, hj, rfl, rfl, hwr, HL, HJ⟩ := hrel
    subst wr
    by_cases hlt : j < n
    · obtain ⟨p, hp⟩ : ∃ p, l[j]? = some p := ⟨_, List.getElem?_eq_getElem (by rw [HN.out]; exact hlt)⟩
      have HS := Lib.hid (show (decide (least ≤ p ∧ p < 3000) && rise (p + 1) (l.drop (j + 1))) = res by rw [← HJ.out]; exact (rise_at hp).symm)
      obtain ⟨ad, rfl, q0⟩ := Reads.at' HV.out hp
      have z0 : (0 : Int) ≤ (j : Int) := by omega
      have z1 : (j : Int) < (n : Int) := by omega
      clear HJ hp
      by_cases h1 : p < least
      · have HF := Lib.hid (show res = false by rw [← HS.out, decide_eq_false (by omega)]; rfl)
        clear HS
        go_wp2
        go_ret
        exact ⟨by rw [HF.out]; rfl, rfl⟩
      · by_cases h2 : 3000 ≤ p
        · have HF := Lib.hid (show res = false by rw [← HS.out, decide_eq_false (by omega)]; rfl)
          clear HS
          go_wp2
          go_ret
          exact ⟨by rw [HF.out]; rfl, rfl⟩
        · have HP := Lib.hid (show rise (p + 1) (l.drop (j + 1)) = res by rw [← HS.out, decide_eq_true (by omega)]; rfl)
          have hw : IntKind.i64.wrap (p + 1) = p + 1 := IntWalk.i64_in _ (by have := HL.out; omega)
          have HL2 := Lib.hid (show 0 ≤ p + 1 ∧ p + 1 ≤ 3000 by have := HL.out; omega)
          clear HS HL
          go_wp2
          go_roundg (n - (j + 1))
          case measure => omega
          case rel => exact ⟨j + 1, p + 1, rfl, by omega, rfl, by go_num, rfl, HL2, HP⟩
    · obtain rfl : j = n := by omega
      have HF := Lib.hid (show res = true by rw [← HJ.out, drop_end HN.out]; rfl)
      go_wp2
      go_ret
      exact ⟨by rw [HF.out]; rfl, rfl⟩
set_option maxHeartbeats 4000000 in
theorem rightOut_any {w : World} {t : T} {vi vo vc : Value} (h : ReadsL w vi vo vc t) (ht : takes t = true) (x : O) {vs vb : Value} (hs : ∃ a c, vs = .slice a x.stack.length c) (hb : ∃ a c, vb = .slice a x.back.length c) :
    Calls Tryz.prog 42 #[trV t vi vo vc, outV x vs vb] w (Says (.bool (outOk t x)) w) := by
  obtain ⟨asl, cs, rfl⟩ := hs
  obtain ⟨ab, cb, rfl⟩ := hb
  obtain ⟨-, hsl, hgr, hbk, hgb⟩ := takes_all ht
  obtain ⟨ai, ci, ao, co, ac, cc, rfl, rfl, rfl⟩ := h.known
  obtain ⟨w1, g, hw1, hg, HG, HB, HZ⟩ := newBox w (trA t (.slice ai t.ins.length ci) (.slice ao t.outs.length co) (.slice ac t.cells.length cc)) 26
  obtain ⟨c0, c1, c2, c3, c4, c5, c6, c7, c8⟩ := cells9 HG.out
  obtain ⟨st, sl, bks, gr, gb, ins, outs, la, cells⟩ := t
  dsimp only at *
  obtain ⟨xi, xs, xst, xbk⟩ := x
  dsimp only at *
  obtain ⟨ns, hns⟩ : ∃ ns, xst.length = ns := ⟨_, rfl⟩
  obtain ⟨nb, hnb⟩ : ∃ nb, xbk.length = nb := ⟨_, rfl⟩
  have HNS := Lib.hid hns
  have HNB := Lib.hid hnb
  obtain ⟨w2, g2, hw2, hg2, HG2, HB2, HZ2⟩ := newBox w1 (outA ⟨xi, xs, xst, xbk⟩ (.slice asl xst.length cs) (.slice ab xbk.length cb)) 58
  have e0 : w2.cell? ⟨g2, 0, none⟩ = some (.int .i64 xi) := whole_cell HG2.out rfl
  have e1 : w2.cell? ⟨g2, 1, none⟩ = some (.int .i64 xs) := whole_cell HG2.out rfl
  have e2 : w2.cell? ⟨g2, 2, none⟩ = some (.slice asl xst.length cs) := whole_cell HG2.out rfl
  have e3 : w2.cell? ⟨g2, 3, none⟩ = some (.slice ab xbk.length cb) := whole_cell HG2.out rfl
  rw [hns] at e2 hw2 ⊢
  rw [hnb] at e3 hw2 ⊢
  replace c1 := cellOn HB2.out c1
  replace c2 := cellOn HB2.out c2
  replace c3 := cellOn HB2.out c3
  replace c4 := cellOn HB2.out c4
  have HBF := Lib.hid (HB.out.trans (HB2.out.mono HB.out.size))
  have s1 : IntKind.i64.wrap (sl + gr) = sl + gr := IntWalk.i64_in _ (by omega)
  have s2 : IntKind.i64.wrap (bks + gb) = bks + gb := IntWalk.i64_in _ (by omega)
  obtain ⟨res, hres⟩ : ∃ res, outOk ⟨st, sl, bks, gr, gb, ins, outs, la, cells⟩ ⟨xi, xs, xst, xbk⟩ = res := ⟨_, rfl⟩
  have HRS := Lib.hid (show (within xs 120 && within xi 2999 && decide ((ns : Int) ≤ sl + gr) && decide ((nb : Int) ≤ bks + gb)) = res by rw [← hres, ← hns, ← hnb]; rfl)
  rw [hres]
  have D0 := Lib.hid (within_any xs 120 w2)
  have D1 := Lib.hid (within_any xi 2999 w2)
  clear h ht hns hnb hres hsl hgr hbk hgb c0 c5 c6 c7 c8
  cases q0 : within xs 120 with
  | false =>
    have HF := Lib.hid (show res = false by rw [← HRS.out, q0]; simp)
    rw [q0] at D0
    clear q0 HRS
    go_enter Tryz.func42, Tryz.ntmps42
    go_wp2_with fail
    refine D0.out.mono ?_
    rintro e wz ⟨rfl, hwz⟩
    subst wz
    go_wp2
    go_ret
    exact ⟨by rw [HF.out]; rfl, HBF.out⟩
  | true =>
    rw [q0] at D0
    cases q1 : within xi 2999 with
    | false =>
      have HF := Lib.hid (show res = false by rw [← HRS.out, q1]; simp)
      rw [q1] at D1
      clear q0 q1 HRS
      go_enter Tryz.func42, Tryz.ntmps42
      go_wp2_with fail
      refine D0.out.mono ?_
      rintro e wz ⟨rfl, hwz⟩
      subst wz
      go_wp2_with fail
      refine D1.out.mono ?_
      rintro e wz ⟨rfl, hwz⟩
      subst wz
      go_wp2
      go_ret
      exact ⟨by rw [HF.out]; rfl, HBF.out⟩
    | true =>
      rw [q1] at D1
      by_cases q2 : (ns : Int) ≤ sl + gr
      · by_cases q3 : (nb : Int) ≤ bks + gb
        · have HF := Lib.hid (show res = true by rw [← HRS.out, q0, q1, decide_eq_true q2, decide_eq_true q3]; rfl)
          clear q0 q1 HRS
          go_enter Tryz.func42, Tryz.ntmps42
          go_wp2_with fail
          refine D0.out.mono ?_
          rintro e wz ⟨rfl, hwz⟩
          subst wz
          go_wp2_with fail
          refine D1.out.mono ?_
          rintro e wz ⟨rfl, hwz⟩
          subst wz
          go_wp2
          go_ret
          exact ⟨by rw [HF.out]; rfl, HBF.out⟩
        · have HF := Lib.hid (show res = false by rw [← HRS.out, decide_eq_false q3]; simp)
          clear q0 q1 HRS
          go_enter Tryz.func42, Tryz.ntmps42
          go_wp2_with fail
          refine D0.out.mono ?_
          rintro e wz ⟨rfl, hwz⟩
          subst wz
          go_wp2_with fail
          refine D1.out.mono ?_
          rintro e wz ⟨rfl, hwz⟩
          subst wz
          go_wp2
          go_ret
          exact ⟨by rw [HF.out]; exact retB (decide_eq_false (by omega)), HBF.out⟩
      · have HF := Lib.hid (show res = false by rw [← HRS.out, decide_eq_false q2]; simp)
        clear q0 q1 HRS
        go_enter Tryz.func42, Tryz.ntmps42
        go_wp2_with fail
        refine D0.out.mono ?_
        rintro e wz ⟨rfl, hwz⟩
        subst wz
        go_wp2_with fail
        refine D1.out.mono ?_
        rintro e wz ⟨rfl, hwz⟩
        subst wz
        go_wp2
        go_ret
        exact ⟨by rw [HF.out]; rfl, HBF.out⟩
theorem name_is {op : Int} : (!(nameI op).toList.isEmpty) = within (op - 1) 11 := by
  rw [ByteArray.toList_eq]
  rcases op_all op with h | h | rfl | rfl | rfl | rfl | rfl | rfl | rfl | rfl | rfl | rfl | rfl | rfl
  · rw [within_no (by omega)]
    rcases Int.lt_or_le op 0 with h0 | h0
    · unfold nameI; rw [if_neg (by omega)]; rfl
    · obtain rfl : op = 0 := by omega
      decide
  · rw [within_no (by omega)]
    unfold nameI; rw [if_neg (by omega)]; rfl
  all_goals decide
set_option maxHeartbeats 4000000 in
theorem works_any {w : World} {t : T} {vi vo vc : Value} (h : ReadsL w vi vo vc t) (ht : takes t = true) (hN : NamesI w) (x : I) :
    Calls Tryz.prog 96 #[trV t vi vo vc, insV x] w (Says (.bool (works t x)) w) := by
  obtain ⟨-, hsl, hgr, hbk, hgb⟩ := takes_all ht
  obtain ⟨ai, ci, ao, co, ac, cc, rfl, rfl, rfl⟩ := h.known
  obtain ⟨w1, g, hw1, hg, HG, HB, HZ⟩ := newBox w (trA t (.slice ai t.ins.length ci) (.slice ao t.outs.length co) (.slice ac t.cells.length cc)) 26
  obtain ⟨c0, c1, c2, c3, c4, c5, c6, c7, c8⟩ := cells9 HG.out
  obtain ⟨st, sl, bks, gr, gb, ins, outs, la, cells⟩ := t
  dsimp only at *
  obtain ⟨op, a, b, c, d⟩ := x
  obtain ⟨w2, g2, hw2, hg2, HG2, HB2, HZ2⟩ := newBox w1 (insA (op, a, b, c, d)) 42
  have e0 : w2.cell? ⟨g2, 0, none⟩ = some (.int .i64 op) := whole_cell HG2.out rfl
  have e1 : w2.cell? ⟨g2, 1, none⟩ = some (.int .i64 a) := whole_cell HG2.out rfl
  replace c1 := cellOn HB2.out c1
  replace c2 := cellOn HB2.out c2
  have HBF := Lib.hid (HB.out.trans (HB2.out.mono HB.out.size))
  have HN := Lib.hid (hN.mono HBF.out)
  have s1 : IntKind.i64.wrap (sl - 1) = sl - 1 := IntWalk.i64_in _ (by omega)
  have s2 : IntKind.i64.wrap (bks - 1) = bks - 1 := IntWalk.i64_in _ (by omega)
  have HTK := Lib.hid ht
  clear h ht hN c0 c3 c4 c5 c6 c7 c8
  by_cases o2 : op = 2
  · subst o2
    have HW := Lib.hid (show works ⟨st, sl, bks, gr, gb, ins, outs, la, cells⟩ (2, a, b, c, d) = within a (sl - 1) from rfl)
    have D := Lib.hid (within_any a (sl - 1) w2)
    go_enter Tryz.func96, Tryz.ntmps96
    go_wp2_with fail
    refine D.out.mono ?_
    rintro e wz ⟨rfl, hwz⟩
    subst wz
    go_wp2
    go_ret
    exact ⟨by rw [HW.out]; rfl, HBF.out⟩
  by_cases o3 : op = 3
  · subst o3
    have HW := Lib.hid (show works ⟨st, sl, bks, gr, gb, ins, outs, la, cells⟩ (3, a, b, c, d) = within a (bks - 1) from rfl)
    have D := Lib.hid (within_any a (bks - 1) w2)
    clear o2
    go_enter Tryz.func96, Tryz.ntmps96
    go_wp2_with fail
    refine D.out.mono ?_
    rintro e wz ⟨rfl, hwz⟩
    subst wz
    go_wp2
    go_ret
    exact ⟨by rw [HW.out]; rfl, HBF.out⟩
  by_cases o4 : op = 4
  · subst o4
    have HW := Lib.hid (show works ⟨st, sl, bks, gr, gb, ins, outs, la, cells⟩ (4, a, b, c, d) = (twoI a || oneI a) from rfl)
    have D := Lib.hid (two_any a w2)
    clear o2 o3
    cases q : twoI a with
    | true =>
      rw [q] at D HW
      go_enter Tryz.func96, Tryz.ntmps96
      go_wp2_with fail
      refine D.out.mono ?_
      rintro e w3 ⟨rfl, hb⟩
      have HB3 := Lib.hid (HBF.out.trans (hb.mono HBF.out.size))
      clear hb D
      go_wp2
      go_ret
      exact ⟨by rw [HW.out]; rfl, HB3.out⟩
    | false =>
      rw [q] at D HW
      have HE1 := Lib.hid (show ∀ w3, Below w2.heap.size w2 w3 → w3.cell? ⟨g2, 1, none⟩ = some (.int .i64 a) from fun w3 hb => cellOn hb e1)
      go_enter Tryz.func96, Tryz.ntmps96
      go_wp2_with fail
      refine D.out.mono ?_
      rintro e w3 ⟨rfl, hb⟩
      have HB3 := Lib.hid (HBF.out.trans (hb.mono HBF.out.size))
      have e1 := HE1.out w3 hb
      have E := Lib.hid (one_any a w3)
      clear hb D HE1
      go_wp2_with fail
      refine E.out.mono ?_
      rintro e w4 ⟨rfl, hb⟩
      have HB4 := Lib.hid (HB3.out.trans (hb.mono HB3.out.size))
      clear hb E
      go_wp2
      go_ret
      exact ⟨by rw [HW.out]; rfl, HB4.out⟩
  have HW := Lib.hid (show works ⟨st, sl, bks, gr, gb, ins, outs, la, cells⟩ (op, a, b, c, d) = (!(nameI op).toList.isEmpty) by unfold works; rw [if_neg o2, if_neg o3, if_neg o4]; exact name_is.symm)
  have D := Lib.hid (name_any HN.out op)
  have n2 : (op == 2) = false := by simpa using o2
  have n3 : (op == 3) = false := by simpa using o3
  have n4 : (op == 4) = false := by simpa using o4
  obtain ⟨s, hs⟩ : ∃ s, nameI op = s := ⟨_, rfl⟩
  rw [hs] at D HW
  clear o2 o3 o4 hs
  go_enter Tryz.func96, Tryz.ntmps96
  go_wp2_with fail
  refine D.out.mono ?_
  rintro e wz ⟨rfl, hwz⟩
  subst wz
  go_wp2
  go_ret
  exact ⟨by rw [HW.out]; rfl, HBF.out⟩
end Go.Proofs.YtpecingkoodmfaaGreatDoor.Ir
