/- What is proved: hollowaylaw13.RecordStays answers true for every input, and its arguments read afterwards as before; the listed package variables start as the program's text lays them (the card ties them). -/
import Derived.Test.YtcffbeihgchpgaaGreatDoorS38
import Derived.Test.YtcffbeihgchpgaaGreatDoorS33
import Derived.Test.YtcffbeihgchpgaaGreatDoorS18
import Derived.Test.YtcffbeihgchpgaaGreatDoorRows
import Derived.Test.YtcffbeihgchpgaaGreatDoorCards
import Derived.Test.YtcffbeihgchpgaaGreatDoorTie
import Derived.WalkKit
import Derived.ProofKit
import Derived.OpenShut
import Derived.ChangeSame
import Derived.ChangeVars
import Derived.JoinedOf
import Derived.RowKitTokens
import Derived.LaidLaws
import Derived.LaidHandle
import Derived.Stop.Joined
import Derived.SevenTiedAt
import Derived.Carry
/- RecordStays: the walk. -/
namespace Go.Proofs.YtcffbeihgchpgaaGreatDoor.RecordStays
open Go.RowKit Book Book.Wide Mem Mach Inn Rec
set_option linter.unusedVariables false
set_option linter.unusedSimpArgs false
def Yes (w : World) (e : Ending) (w' : World) : Prop := e = .returned (.bool true) ∧ Below w.heap.size w w'
theorem still {m : M} {mn : Nat} (h : m.status ≠ 0 ∨ mn = 0) : recOf m mn = ⟨m.ip, m.ip, false, []⟩ := by
  unfold recOf
  cases mn with
  | zero => unfold tape; rw [if_neg (fun e => e.1 rfl)]; rfl
  | succ n =>
    rcases h with h | h
    · unfold tape
      rw [if_neg (fun e => e.1 rfl)]
      show (if _ then _ else _) = _
      rw [if_pos (.inl (by rw [show Mach.step (bare m) = bare m from by unfold Mach.step; exact if_pos h]; exact h))]
      rfl
    · cases h
set_option maxHeartbeats 8000000 in
set_option maxRecDepth 100000 in
/-- what is not small enough -/
theorem less_small (v : Value) (m : M) (a : Int) (W : World) (h : ReadsM W v m) (hi : m.inp.size ≤ maxLen) (ho : m.out.size ≤ maxLen) (hE : ∀ wc, Below W.heap.size W wc → Tabs wc)
    (hg : lightB m = false ∨ lightB m = true ∧ (a < 0 ∨ ¬ a < 0 ∧ 120 < a)) :
    Calls Tryz.prog 7 #[v, .int .i64 a] W (Yes W) := by
  have HV := Lib.hid h
  have HE := Lib.hid hE
  obtain ⟨vs, vb, vm, rfl, -, -, -⟩ := h
  obtain ⟨w1, g, hw1, hg', HX, HB1, HG⟩ := newBox W (cells10 m.ip m.handler vs vb vm m.out m.inp m.read m.status m.code) 24
  have C := Lib.hid (light_any (HV.out.below HB1.out) hi ho)
  clear hE hi ho
  rcases hg with c | ⟨c, c1 | ⟨c1, c2⟩⟩ <;> rw [c] at C <;> clear c
  all_goals
    go_enter Tryz.func7, Tryz.ntmps7
    go_wp2_with (refine ld_state (by rfl) _ rfl _ rfl _ _ HX.out rfl ?_)
    refine C.out.mono ?_
    rintro e w2 ⟨rfl, hb⟩
    have HB2 := Lib.hid (HB1.out.trans (hb.mono HB1.out.size))
    have A := Lib.hid (Rec.alive_any w2 (fun wc hbc => HE.out wc (HB2.out.trans (hbc.mono HB2.out.size))))
    clear C hb HX HV HG
    go_wp2_with fail
    refine A.out.mono ?_
    rintro e w3 ⟨rfl, hb⟩
    have HB3 := Lib.hid (HB2.out.trans (hb.mono HB2.out.size))
    clear hb A HB2
    go_wp2
    go_ret
    exact ⟨rfl, HB3.out⟩
set_option maxHeartbeats 16000000 in
set_option maxRecDepth 100000 in
theorem small (v : Value) (m : M) (a : Nat) (ha : a ≤ 120) (W : World) (h : ReadsM W v m) (hi : m.inp.size ≤ maxLen) (ho : m.out.size ≤ maxLen) (hc : Cells m) (hl : lightB m = true) (hE : ∀ wc, Below W.heap.size W wc → Tabs wc) :
    Calls Tryz.prog 7 #[v, .int .i64 a] W (Yes W) := by
  obtain ⟨l1, l2, hr⟩ := (lightB_iff m).1 hl
  have HV := Lib.hid h
  have HE := Lib.hid hE
  obtain ⟨vs, vb, vm, rfl, hs, hb, hm⟩ := h
  obtain ⟨s1, n1, d1, rfl⟩ := reads_known hs
  obtain ⟨s2, n2, d2, rfl⟩ := reads_known hb
  obtain ⟨s3, n3, d3, rfl⟩ := reads_known hm
  have HLS := Lib.hid (And.intro hs (And.intro hb hm))
  obtain ⟨w1, g, hw1, hg', HX, HB1, HG⟩ := newBox W (cells10 m.ip m.handler (.slice s1 n1 d1) (.slice s2 n2 d2) (.slice s3 n3 d3) m.out m.inp m.read m.status m.code) 24
  have C := Lib.hid (light_any (HV.out.below HB1.out) hi ho)
  rw [hl] at C
  have HRC := Lib.hid (And.intro hr (And.intro hc hi))
  have hma : mostOf (a : Int) = a := by unfold mostOf; omega
  have z0 : ¬ (a : Int) < 0 := by omega
  have z1 : ¬ (120 : Int) < (a : Int) := by omega
  clear hs hb hm hi ho hc hr hl l1 l2 hE
  go_enter Tryz.func7, Tryz.ntmps7
  go_wp2_with (refine ld_state (by rfl) _ rfl _ rfl _ _ HX.out rfl ?_)
  refine C.out.mono ?_
  rintro e w2 ⟨rfl, hb2⟩
  have HB2 := Lib.hid (HB1.out.trans (hb2.mono HB1.out.size))
  have HX2 := Lib.hid (boxOn HX.out hb2)
  have A := Lib.hid (Rec.alive_any w2 (fun wc hbc => HE.out wc (HB2.out.trans (hbc.mono HB2.out.size))))
  clear C hb2 hw1 hg'
  go_wp2_with fail
  refine A.out.mono ?_
  rintro e w3 ⟨rfl, hb3⟩
  have HB3 := Lib.hid (HB2.out.trans (hb3.mono HB2.out.size))
  have HX3 := Lib.hid (boxOn HX2.out hb3)
  have L := Lib.hid (loop_any (HV.out.below HB3.out) HRC.out.1 HRC.out.2.1 HRC.out.2.2 (fun wc hbc => HE.out wc (HB3.out.trans (hbc.mono HB3.out.size))) (a : Int))
  rw [hma] at L
  obtain ⟨R0, hR0⟩ : ∃ R0, recOf m a = R0 := ⟨_, rfl⟩
  have HR0 := Lib.hid hR0
  rw [hR0] at L
  clear A hb3 hR0 hma
  go_wp2_with (refine ld_state (by rfl) _ rfl _ rfl _ _ HX3.out rfl ?_)
  refine L.out.mono ?_
  rintro e w4 ⟨vR, rfl, hO, hb4⟩
  obtain ⟨so, sc, rfl⟩ := hO.slice (seen_len _) (by decide)
  obtain ⟨k, hk⟩ : ∃ k, R0.steps.length = k := ⟨_, rfl⟩
  have HK := Lib.hid hk
  rw [hk]
  have HB4 := Lib.hid (HB3.out.trans (hb4.mono HB3.out.size))
  have HX4 := Lib.hid (boxOn HX3.out hb4)
  obtain ⟨wz, rb, hwz, hrb, HZ, HBz, HZr⟩ := newBox w4 recZ 39
  have HXz := Lib.hid (boxOn HX4.out HBz.out)
  have HBz' := Lib.hid (HB4.out.trans (HBz.out.mono HB4.out.size))
  have HRL := Lib.hid (show W.heap.size ≤ rb ∧ g ≠ rb by have h1 := HZr.out; have h2 := HB4.out.size; have h3 := whole_lt HX4.out; omega)
  obtain ⟨st, la, lo, ls⟩ := R0
  simp only at hk ⊢
  clear L hb4 hO hk
  obtain ⟨sta, hsta⟩ : ∃ s, m.status = s := ⟨_, rfl⟩
  have HSTA := Lib.hid hsta
  by_cases hA : sta ≠ 0 ∨ a = 0
  · have hst := still (m := m) (mn := a) (by rw [hsta]; exact hA)
    rw [HR0.out] at hst
    simp only [R.mk.injEq] at hst
    obtain ⟨rfl, rfl, rfl, rfl⟩ := hst
    obtain rfl : 0 = k := HK.out
    clear hsta
    by_cases hs0 : sta = 0
    · subst hs0
      obtain rfl : a = 0 := by rcases hA with h | h; exact absurd rfl h; exact h
      clear hA
      go_wp2_with (first
        | (refine st_rec (by rfl) _ _ rfl rb ⟨m.ip, m.ip, false, []⟩ (.slice so 0 sc) rfl rfl rfl _ HZ.out rfl ?_; intro wh hrh hth; have HRh := Lib.hid hrh; have r0 := whole_cell (j := 0) hrh rfl; have r1 := whole_cell (j := 1) hrh rfl; have r2 := whole_cell (j := 2) hrh rfl; have r3 := whole_cell (j := 3) hrh rfl; have HXh := Lib.hid (hth.whole HXz.out (fun hm => HRL.out.2 (List.mem_singleton.1 hm))); have p0 := whole_cell (j := 0) HXh.out rfl; have p8 : wh.cell? ⟨g, 8, none⟩ = some (.int .i64 0) := (by rw [← HSTA.out]; exact whole_cell HXh.out rfl); have HBh := Lib.hid (HBz'.out.trans (hth.below (fun q hq => by rw [List.mem_singleton.1 hq]; exact HRL.out.1) HBz'.out.size)); clear hrh hth))
      go_wp2
      go_ret
      exact ⟨rfl, HBh.out⟩
    · have hs1 : (sta != 0) = true := by simpa using hs0
      clear hA hs0
      go_wp2_with (first
        | (refine st_rec (by rfl) _ _ rfl rb ⟨m.ip, m.ip, false, []⟩ (.slice so 0 sc) rfl rfl rfl _ HZ.out rfl ?_; intro wh hrh hth; have HRh := Lib.hid hrh; have r0 := whole_cell (j := 0) hrh rfl; have r1 := whole_cell (j := 1) hrh rfl; have r2 := whole_cell (j := 2) hrh rfl; have r3 := whole_cell (j := 3) hrh rfl; have HXh := Lib.hid (hth.whole HXz.out (fun hm => HRL.out.2 (List.mem_singleton.1 hm))); have p0 := whole_cell (j := 0) HXh.out rfl; have p8 : wh.cell? ⟨g, 8, none⟩ = some (.int .i64 sta) := (by rw [← HSTA.out]; exact whole_cell HXh.out rfl); have HBh := Lib.hid (HBz'.out.trans (hth.below (fun q hq => by rw [List.mem_singleton.1 hq]; exact HRL.out.1) HBz'.out.size)); clear hrh hth))
      go_wp2
      go_ret
      exact ⟨rfl, HBh.out⟩
  · obtain rfl : sta = 0 := Decidable.byContradiction fun e => hA (.inl e)
    have ha0 : ¬ a = 0 := fun e => hA (.inr e)
    have ha1 : ((a : Int) == 0) = false := by simpa using ha0
    have ha2 : (a == 0) = false := by simpa using ha0
    obtain ⟨k', t, h1, -, h3, h4, h5, h6, h7⟩ := tape_runs m.ip a [] m _ (show tape m.ip a [] (bare m) = _ from HR0.out) hsta
    have h1 : ls.length = 0 + k' := h1
    obtain rfl : k = k' := by have h9 : ls.length = k := HK.out; omega
    have HRUN := Lib.hid (show runI m (k : Int) = (t, 0) by rw [runI_nat, h3]; rfl)
    have HKL := Lib.hid (show k ≤ 120 by omega)
    have h5 : t.ip = la := h5
    have HT := Lib.hid (And.intro h4 h5)
    clear h1 h3 h4 h5 h6 h7 hA ha0 hsta
    go_wp2_with (first
      | (refine st_rec (by rfl) _ _ rfl rb ⟨st, la, lo, ls⟩ (.slice so k sc) rfl rfl rfl _ HZ.out rfl ?_; intro wh hrh hth; have HRh := Lib.hid hrh; have r0 := whole_cell (j := 0) hrh rfl; have r1 := whole_cell (j := 1) hrh rfl; have r2 := whole_cell (j := 2) hrh rfl; have r3 := whole_cell (j := 3) hrh rfl; have HXh := Lib.hid (hth.whole HXz.out (fun hm => HRL.out.2 (List.mem_singleton.1 hm))); have p0 := whole_cell (j := 0) HXh.out rfl; have p8 : wh.cell? ⟨g, 8, none⟩ = some (.int .i64 0) := (by rw [← HSTA.out]; exact whole_cell HXh.out rfl); have HBh := Lib.hid (HBz'.out.trans (hth.below (fun q hq => by rw [List.mem_singleton.1 hq]; exact HRL.out.1) HBz'.out.size)); have D := Lib.hid (refRun_any (HLS.out.1.below HBh.out) (HLS.out.2.1.below HBh.out) (HLS.out.2.2.below HBh.out) HRC.out.1 HRC.out.2.1 HRC.out.2.2 (k : Int) (by have := HKL.out; omega)); rw [HRUN.out] at D; clear hrh hth)
      | (refine ld_state (by rfl) _ rfl _ rfl _ _ HXh.out rfl ?_))
    refine D.out.mono ?_
    rintro e w5 ⟨t1, j1, e1, t2, j2, e2, t3, j3, e3, rfl, hk⟩
    have HB5 := Lib.hid (HBh.out.trans (hk.2.2.2.mono HBh.out.size))
    have HR5 := Lib.hid (boxOn HRh.out hk.2.2.2)
    obtain ⟨w6, g6, hw6, hg6, H6, HB6, HZ6⟩ := newBox w5 zero10 24
    have HR6 := Lib.hid (boxOn HR5.out HB6.out)
    have HB6' := Lib.hid (HB5.out.trans (HB6.out.mono HB5.out.size))
    have N6 := Lib.hid (show rb ≠ g6 ∧ W.heap.size ≤ g6 by have h1 := HZ6.out; have h2 := whole_lt HR5.out; have h3 := HB5.out.size; omega)
    clear hk D p0 p8 r0 r1 r2 r3
    go_wp2_with (first
      | (refine st_state (by rfl) _ _ rfl g6 _ rfl rfl _ _ H6.out rfl rfl (all_one rfl rfl rfl) ?_; intro w7 h7 ht7; have HR7 := ht7.whole HR6.out (fun hm => N6.out.1 (List.mem_singleton.1 hm)); have r1 := whole_cell (j := 1) HR7 rfl; have r3 := whole_cell (j := 3) HR7 rfl; have q0 : w7.cell? ⟨g6, 0, none⟩ = some (.int .i64 la) := (by rw [← HT.out.2]; exact whole_cell h7 rfl); have q8 : w7.cell? ⟨g6, 8, none⟩ = some (.int .i64 0) := (by rw [← HT.out.1]; exact whole_cell h7 rfl); have HB7 := Lib.hid (HB6'.out.trans (ht7.below (fun q hq => by rw [List.mem_singleton.1 hq]; exact N6.out.2) HB6'.out.size)); clear h7 ht7 HR7))
    go_ret
    exact ⟨rfl, HB7.out⟩
theorem main (v : Value) (m : M) (a : Int) (W : World) (hl : ReadsM W v m ∧ Cells m ∧ m.inp.size ≤ maxLen ∧ m.out.size ≤ maxLen ∧ Cell.In m.read ∧ Cell.In m.status) (w1 : (Lit.int .i64 a).wf = true) (hE : ∀ wc, Below W.heap.size W wc → Tabs wc) :
    Calls Tryz.prog 7 #[v, .int .i64 a] W (Yes W) := by
  obtain ⟨h, hc, hi, ho, -, -⟩ := hl
  by_cases hB : lightB m = true ∧ 0 ≤ a ∧ a ≤ 120
  · obtain ⟨n, rfl⟩ := Int.eq_ofNat_of_zero_le hB.2.1
    exact small v m n (by omega) W h hi ho hc hB.1 hE
  · refine less_small v m a W h hi ho hE ?_
    cases hq : lightB m with
    | false => exact .inl rfl
    | true =>
      by_cases h1 : a < 0
      · exact .inr ⟨rfl, .inl h1⟩
      · exact .inr ⟨rfl, .inr ⟨h1, by have : ¬ (0 ≤ a ∧ a ≤ 120) := fun e => hB ⟨hq, e⟩; omega⟩⟩
end Go.Proofs.YtcffbeihgchpgaaGreatDoor.RecordStays

namespace Go.Proofs.YtcffbeihgchpgaaGreatDoor.recordStays
open Inn Mach Mem
open Go.ChangeShapes Go.WideShapes Go.ChangeAt Go.RowKit
set_option linter.unusedVariables false
set_option linter.unusedSimpArgs false

theorem own : ownKnob Tryz.prog.godebug = none := by kernel_rfl
theorem laidOut : laidOutB Tryz.prog = true := by kernel_rfl
abbrev laid : List (String × DataW Unit) := laidL9
theorem laid_is : Rows.recordStaysRow.laid = laid := rfl
set_option maxRecDepth 100000 in
theorem lifted (os : Os) (started : os.Started) (H : Type) (enc : TypeId × Value → H) :
    ReturnsInHanded {} Tryz.checked os 7 .any (fun w args => (Rows.recordStaysSpec.pre enc Tryz.prog Tryz.f7 Rows.recordStaysRow.domain false w args ∧ laidMetH Tryz.prog laid w) ∧ sizedMet enc Tryz.prog Tryz.f7 (OpenSpec.ofChange Rows.recordStaysSpec) false w args)
      (Rows.recordStaysSpec.post enc Tryz.prog Tryz.f7 false true false false) := by
  refine returnsInHanded_of_change_and (C := Tryz.checked) (X := fun w _ => laidMetH Tryz.prog laid w) (fun _ _ _ hh h => h.of_heap hh) own started (by kernel_rfl) Tryz.func7
    (Inn.witness_ref (enc := enc) (C := Tryz.checked) (os := os) (X := fun w _ => laidMetH Tryz.prog laid w) false (Inn.laidWorld os) #[.agg #[.int .i64 0, .int .i64 0, .slice none 0 0, .slice none 0 0, .slice none 0 0, .string ⟨#[]⟩, .string ⟨#[]⟩, .int .i64 0, .int .i64 0, .int .i64 0], .int .i64 0] 8 rfl (by kernel_rfl) (by kernel_rfl) (by kernel_rfl) (by kernel_rfl) (by kernel_rfl) (Inn.laidWorld_met os _)) ?_
  intro W base args ds gs before hval0 hW _ _ hL _
  have hval : ∀ (j : Nat) t v, Tryz.f7.params[j]? = some t → args[j]? = some v → Value.okWide Tryz.prog W .any base t v := hval0
  have hW' := hW
  obtain ⟨p, q, hA0, hV, rfl, hfz, hnd⟩ := hW
  have hA : DataW.TrodAll enc Tryz.prog W 0 (fun _ => true) true Tryz.f7.params.toList args.toList ds p := hA0
  rw [Tryz.params7] at hA hval
  obtain ⟨v0, vs0, d0, ds0, p0, q0, hargs, rfl, rfl, h0, r0⟩ := trodAll_cons hA
  obtain ⟨v1, vs1, d1, ds1, p1, q1, rfl, rfl, rfl, h1, r1⟩ := trodAll_cons r0
  obtain ⟨rfl, rfl, rfl⟩ := trodAll_nil r1
  obtain rfl : args = #[v0, v1] := by cases args; simp_all
  obtain ⟨rfl, rfl⟩ := trodVars_none hV
  obtain ⟨xs0, l0⟩ := stateOf (hval 0 24 v0 rfl rfl) h0
  obtain ⟨a1, rfl, rfl, rfl, w1⟩ := open_int Tryz.underlying3 (hval 1 3 v1 rfl rfl) h1
  clear hA0 hval0
  simp only [List.append_nil] at hW'
  have hlt0 : ∀ x ∈ p0, x.block < W.heap.size := fun x hx => by simpa using hW'.lt x (by simp [hx])
  refine (RecordStays.main v0 xs0 a1 W l0 w1 (tabs_on hL)).mono fun e W' ⟨he, hg⟩ => ?_
  subst he
  exact ⟨_, rfl, _, _, _, [], _, [], hW', (trodAll_cons_mk (shut_bool Tryz.underlying4 _) trodAll_mk0), (trodAll_cons_mk (Below.trod laidOut (by kernel_rfl) (of_decide_eq_true (by kernel_rfl)) h0 hg hlt0) (trodAll_cons_mk (shut_int Tryz.underlying3 w1) trodAll_mk0)), rfl, hg.frame _, fun h => by cases h⟩

theorem over : Rows.recordStaysRow.holds Tryz.pinned (OpenSpec.ofChange Rows.recordStaysSpec) :=
  OpenClaim.holds_of_wide 7 Tryz.f7 rfl rfl rfl rfl rfl rfl rfl ⟨rfl, rfl, rfl, rfl, rfl⟩ rfl rfl rfl rfl rfl (by kernel_rfl) Tryz.func7 (by kernel_rfl)
    (of_decide_eq_true (by kernel_rfl)) (by unfold Func.isWrapper; first | (rw [if_pos (by decide +kernel)]; kernel_rfl) | (rw [if_neg (by decide +kernel)]; exact ⟨rfl, rfl⟩))
    (fun os started H enc _ => lifted os started H enc)

theorem proved : Rows.RecordStaysCardSaid :=
  Claim7.holds_tied_plain_at .later [] Rows.recordStaysCard.laidKinds true Rows.recordStaysCard.stood.harness Rows.recordStaysCard.stood.looks
    over (fun _ h => by cases h) (by kernel_rfl) (fun _ h => by cases h) recordStays_row_tie rfl ⟨rfl, rfl⟩ (by kernel_rfl) rfl
    (fun f fn hf hfn => by
      obtain rfl : f = 7 := Option.some.inj ((show Tryz.prog.funcNamed "holloway/hollowaylaw13.RecordStays" = some 7 by kernel_rfl).symm.trans hf) |>.symm
      obtain rfl : fn = Tryz.f7 := (Option.some.inj (Tryz.func7.symm.trans hfn)).symm
      exact ⟨by kernel_rfl, fun j t ht => by
        rw [Tryz.params7] at ht
        have hm : t ∈ [24, 3] := by
          rcases Array.mem_of_getElem? ht with h
          simpa using h
        simp only [List.mem_cons, List.not_mem_nil, or_false] at hm
        rcases hm with rfl | rfl
        · exact (show Tryz.prog.wantsStandIn 24 = false by kernel_rfl)
        · exact (show Tryz.prog.wantsStandIn 3 = false by kernel_rfl)⟩)
    (by kernel_rfl)
#print axioms proved
end Go.Proofs.YtcffbeihgchpgaaGreatDoor.recordStays
