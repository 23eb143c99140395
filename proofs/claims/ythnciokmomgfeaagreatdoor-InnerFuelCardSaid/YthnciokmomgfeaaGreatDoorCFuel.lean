/- What is proved: hollowaylaw9.InnerFuel answers true for every input, and its arguments read afterwards as before; the listed package variables start as the program's text lays them (the card ties them). -/
import Derived.Test.YthnciokmomgfeaaGreatDoorG24
import Derived.Test.YthnciokmomgfeaaGreatDoorRows
import Derived.Test.YthnciokmomgfeaaGreatDoorCards
import Derived.Test.YthnciokmomgfeaaGreatDoorTie
import Derived.WalkKit
import Derived.ProofKit
import Derived.OpenShut
import Derived.ChangeSame
import Derived.ChangeVars
import Derived.JoinedOf
import Derived.RowKitTokens
import Derived.LaidLaws
import Derived.LaidHandle
import Derived.Stop.Joined
import Derived.SevenTiedAt
import Derived.Carry
import Derived.Test.YthnciokmomgfeaaGreatDoorG25
/- InnerFuel: the walk. -/
namespace Go.Proofs.YthnciokmomgfeaaGreatDoor.InnerFuel
open Go.RowKit Book Mem Mach Inn
set_option linter.unusedVariables false
set_option linter.unusedSimpArgs false
set_option maxHeartbeats 4000000 in
set_option maxRecDepth 100000 in
/-- what is not small enough -/
theorem less_small (v : Value) (m : M) (a b : Int) (W : World) (h : ReadsM W v m) (hi : m.inp.size ≤ maxLen) (ho : m.out.size ≤ maxLen) (hE : ∀ wc, Below W.heap.size W wc → Tabs wc)
    (hg : lightB m = false ∨ lightB m = true ∧ (a < 0 ∨ ¬ a < 0 ∧ (b < 0 ∨ ¬ b < 0 ∧ (200 < a ∨ ¬ 200 < a ∧ 200 < b)))) :
    Calls Tryz.prog 5 #[v, .int .i64 a, .int .i64 b] W (Yes W) := by
  have HV := Lib.hid h
  have HE := Lib.hid hE
  obtain ⟨vs, vb, vm, rfl, -, -, -⟩ := h
  obtain ⟨w1, g, hw1, hg', HX, HB1, HG⟩ := new_box W (cells10 m.ip m.handler vs vb vm m.out m.inp m.read m.status m.code) 24
  have C := Lib.hid (light_any (HV.out.below HB1.out) hi ho)
  clear hE hi ho
  rcases hg with c | ⟨c, c1 | ⟨c1, c2 | ⟨c2, c3 | ⟨c3, c4⟩⟩⟩⟩ <;> rw [c] at C <;> clear c
  all_goals
    go_enter Tryz.func5, Tryz.ntmps5
    go_wp2_with (refine ld_state (by rfl) _ rfl _ rfl _ _ HX.out rfl ?_)
    refine C.out.mono ?_
    rintro e w2 ⟨rfl, hb⟩
    have HB2 := Lib.hid (HB1.out.trans (hb.mono HB1.out.size))
    have A := Lib.hid (alive_any w2 (fun wc hbc => HE.out wc (HB2.out.trans (hbc.mono HB2.out.size))))
    clear C hb HX HV HG
    go_wp2_with fail
    refine A.out.mono ?_
    rintro e w3 ⟨rfl, hb⟩
    have HB3 := Lib.hid (HB2.out.trans (hb.mono HB2.out.size))
    clear hb A HB2
    go_wp2
    go_ret
    exact ⟨rfl, HB3.out⟩
set_option maxHeartbeats 8000000 in
set_option maxRecDepth 100000 in
/-- what is small enough -/
theorem small (v : Value) (m : M) (a b : Nat) (ha : a ≤ 200) (hb : b ≤ 200) (W : World) (h : ReadsM W v m) (hi : m.inp.size ≤ maxLen) (ho : m.out.size ≤ maxLen) (hc : Cells m) (hl : lightB m = true) (hE : ∀ wc, Below W.heap.size W wc → Tabs wc) :
    Calls Tryz.prog 5 #[v, .int .i64 a, .int .i64 b] W (Yes W) := by
  obtain ⟨l1, l2, hr⟩ := (lightB_iff m).1 hl
  have HV := Lib.hid h
  have HE := Lib.hid hE
  obtain ⟨vs, vb, vm, rfl, -, -, -⟩ := h
  obtain ⟨w1, g, hw1, hg', HX, HB1, HG⟩ := new_box W (cells10 m.ip m.handler vs vb vm m.out m.inp m.read m.status m.code) 24
  have C := Lib.hid (light_any (HV.out.below HB1.out) hi ho)
  rw [hl] at C
  obtain ⟨x, k1, e1⟩ : ∃ x k, Mach.run a m = (x, k) := ⟨_, _, rfl⟩
  obtain ⟨y, k2, e2⟩ : ∃ x k, Mach.run (a + b) m = (x, k) := ⟨_, _, rfl⟩
  have e3 : Mach.run (b + k1) x = (y, k2) := by have := run_add a b m; rw [e1, e2] at this; exact this
  have hxr : Right x := by have := run_right hr a; rw [e1] at this; exact this
  have hyr : Right y := by have := run_right hr (a + b); rw [e2] at this; exact this
  have hxc : Cells x := by have := run_cells hr hc a; rw [e1] at this; exact this
  have hxi : x.inp.size ≤ maxLen := by have := run_inp a m; rw [e1] at this; simp only at this; rw [this]; exact hi
  have hl1 := run_left a m
  rw [e1] at hl1
  have hl2 := run_left (a + b) m
  rw [e2] at hl2
  simp only at hl1 hl2
  obtain ⟨N, hN⟩ : ∃ N, b + k1 = N := ⟨_, rfl⟩
  obtain ⟨N2, hN2⟩ : ∃ N, a + b = N := ⟨_, rfl⟩
  rw [hN] at e3
  rw [hN2] at e2 hl2
  have HP := Lib.hid (And.intro hr (And.intro hc (And.intro hi (And.intro hxr (And.intro hxc (And.intro hxi (And.intro hyr (And.intro e1 (And.intro e2 e3)))))))))
  have HS := Lib.hid hl1.2
  have hk1 : k1 ≤ 200 := Nat.le_trans hl1.1 ha
  have hk2 : k2 ≤ 400 := by omega
  have HN := Lib.hid hN
  have HN2 := Lib.hid hN2
  have hNl : N ≤ 400 := by omega
  have hNl2 : N2 ≤ 400 := by omega
  clear hN hN2
  clear hl1 hl2 hi ho hc hr hl e1 e2 e3 hxr hxc hxi hyr l1 l2 hE
  go_enter Tryz.func5, Tryz.ntmps5
  go_wp2_with (refine ld_state (by rfl) _ rfl _ rfl _ _ HX.out rfl ?_)
  refine C.out.mono ?_
  rintro e w2 ⟨rfl, hb2⟩
  have HB2 := Lib.hid (HB1.out.trans (hb2.mono HB1.out.size))
  have HX2 := Lib.hid (box_on HX.out hb2)
  have A := Lib.hid (alive_any w2 (fun wc hbc => HE.out wc (HB2.out.trans (hbc.mono HB2.out.size))))
  clear C hb2
  go_wp2_with fail
  refine A.out.mono ?_
  rintro e w3 ⟨rfl, hb3⟩
  have HB3 := Lib.hid (HB2.out.trans (hb3.mono HB2.out.size))
  have HX3 := Lib.hid (box_on HX2.out hb3)
  have R1 := Lib.hid (runs_any (HV.out.below HB3.out) HP.out.1 HP.out.2.1 HP.out.2.2.1 (fun wc hbc => HE.out wc (HB3.out.trans (hbc.mono HB3.out.size))) a (by omega) HP.out.2.2.2.2.2.2.2.1)
  clear A hb3 HB1 HX HX2
  go_wp2_with (refine ld_state (by rfl) _ rfl _ rfl _ _ HX3.out rfl ?_)
  refine R1.out.mono ?_
  rintro e w4 ⟨a1, c1, a2, c2, a3, c3, rfl, ho4, hb4⟩
  have HB4 := Lib.hid (HB3.out.trans (hb4.mono HB3.out.size))
  have HX4 := Lib.hid (box_on HX3.out hb4)
  have HO4 := Lib.hid ho4
  obtain ⟨w5, g5, hw5, hg5, HY5, HBn, HG5⟩ := new_box w4 (cells10 x.ip x.handler (.slice a1 x.stack.length c1) (.slice a2 x.back.length c2) (.slice a3 x.mem.length c3) x.out x.inp x.read x.status x.code) 24
  have HB5 := Lib.hid (HB4.out.trans (HBn.out.mono HB4.out.size))
  have HX5 := Lib.hid (box_on HX4.out HBn.out)
  have HO5 := Lib.hid (HO4.out.below HBn.out)
  have eN : (b : Int) + (k1 : Int) = (N : Int) := by have := HN.out; omega
  have R2 := Lib.hid (runs_any HO5.out.readsM HP.out.2.2.2.1 HP.out.2.2.2.2.1 HP.out.2.2.2.2.2.1 (fun wc hbc => HE.out wc (HB5.out.trans (hbc.mono HB5.out.size))) N (by omega) HP.out.2.2.2.2.2.2.2.2.2)
  clear R1 hb4 ho4 HB2 HX3 HB3 HB4 HX4 HO4 HBn
  go_wp2_with (refine ld_state (by rfl) _ rfl _ rfl _ _ HY5.out rfl ?_)
  refine R2.out.mono ?_
  rintro e w6 ⟨b1, d1, b2, d2, b3, d3, rfl, ho6, hb6⟩
  have HB6 := Lib.hid (HB5.out.trans (hb6.mono HB5.out.size))
  have HX6 := Lib.hid (box_on HX5.out hb6)
  have HY6 := Lib.hid (box_on HY5.out hb6)
  have HO6 := Lib.hid ho6
  obtain ⟨w7, g7, hw7, hg7, HZ7, HBn, HG7⟩ := new_box w6 (cells10 y.ip y.handler (.slice b1 y.stack.length d1) (.slice b2 y.back.length d2) (.slice b3 y.mem.length d3) y.out y.inp y.read y.status y.code) 24
  have HB7 := Lib.hid (HB6.out.trans (HBn.out.mono HB6.out.size))
  have HX7 := Lib.hid (box_on HX6.out HBn.out)
  have HY7 := Lib.hid (box_on HY6.out HBn.out)
  have HO7 := Lib.hid (HO6.out.below HBn.out)
  have eM : (a : Int) + (b : Int) = (N2 : Int) := by have := HN2.out; omega
  have R3 := Lib.hid (runs_any (HV.out.below HB7.out) HP.out.1 HP.out.2.1 HP.out.2.2.1 (fun wc hbc => HE.out wc (HB7.out.trans (hbc.mono HB7.out.size))) N2 (by omega) HP.out.2.2.2.2.2.2.2.2.1)
  clear R2 hb6 ho6 HB5 HX5 HB6 HX6 HO6 HBn HY5 HY6 HO5
  go_wp2_with (refine ld_state (by rfl) _ rfl _ rfl _ _ HX7.out rfl ?_)
  refine R3.out.mono ?_
  rintro e w8 ⟨z1, f1, z2, f2, z3, f3, rfl, ho8, hb8⟩
  have HB8 := Lib.hid (HB7.out.trans (hb8.mono HB7.out.size))
  have HY8 := Lib.hid (box_on HY7.out hb8)
  have HZ8 := Lib.hid (box_on HZ7.out hb8)
  have HO8 := Lib.hid ho8
  have HO8' := Lib.hid (HO7.out.below hb8)
  obtain ⟨w9, g9, hw9, hg9, HU9, HBn, HG9⟩ := new_box w8 (cells10 y.ip y.handler (.slice z1 y.stack.length f1) (.slice z2 y.back.length f2) (.slice z3 y.mem.length f3) y.out y.inp y.read y.status y.code) 24
  have HB9 := Lib.hid (HB8.out.trans (HBn.out.mono HB8.out.size))
  have HY9 := Lib.hid (box_on HY8.out HBn.out)
  have HZ9 := Lib.hid (box_on HZ8.out HBn.out)
  have S := Lib.hid (sameState_any (HO8'.out.below HBn.out).readsM (HO8.out.below HBn.out).readsM (by have := HP.out.2.2.2.2.2.2.1.stack; omega) (by have := HP.out.2.2.2.2.2.2.1.back; omega) (by have := HP.out.2.2.2.2.2.2.1.mem; omega))
  clear R3 hb8 ho8 HB7 HX7 HB8 HY8 HZ8 HO8 HO8' HBn HY7 HZ7 HO7
  go_wp2_with (first
    | (refine ld_state (by rfl) _ rfl _ rfl _ _ HZ9.out rfl ?_)
    | (refine ld_state (by rfl) _ rfl _ rfl _ _ HU9.out rfl ?_))
  refine S.out.mono ?_
  rintro e wa ⟨rfl, hba⟩
  have HBA := Lib.hid (HB9.out.trans (hba.mono HB9.out.size))
  have q8 : wa.cell? ⟨g5, 8, none⟩ = some (.int .i64 x.status) := whole_cell (box_on HY9.out hba) rfl
  clear S hba HB9 HZ9 HU9 HY9
  by_cases cs : x.status = 0
  · have ck : k1 = 0 := HS.out cs
    subst ck
    rw [cs] at q8
    go_wp2
    go_ret
    exact ⟨by simp, HBA.out⟩
  · by_cases ck : k1 = 0
    · subst ck
      go_wp2
      go_ret
      exact ⟨by simp [cs], HBA.out⟩
    · have ck' : ¬ (k1 : Int) = 0 := by omega
      go_wp2
      go_ret
      exact ⟨by simp [cs], HBA.out⟩
theorem main (v : Value) (m : M) (a b : Int) (W : World) (h : ReadsM W v m ∧ Cells m ∧ m.inp.size ≤ maxLen ∧ m.out.size ≤ maxLen ∧ Cell.In m.read ∧ Cell.In m.status) (_ : (Lit.int .i64 a).wf = true) (_ : (Lit.int .i64 b).wf = true) (hE : ∀ wc, Below W.heap.size W wc → Tabs wc) :
    Calls Tryz.prog 5 #[v, .int .i64 a, .int .i64 b] W (Yes W) := by
  obtain ⟨h, hc, hi, ho, -, -⟩ := h
  by_cases c : lightB m = true
  · by_cases c1 : a < 0
    · exact less_small v m a b W h hi ho hE (.inr ⟨c, .inl c1⟩)
    by_cases c2 : b < 0
    · exact less_small v m a b W h hi ho hE (.inr ⟨c, .inr ⟨c1, .inl c2⟩⟩)
    by_cases c3 : 200 < a
    · exact less_small v m a b W h hi ho hE (.inr ⟨c, .inr ⟨c1, .inr ⟨c2, .inl c3⟩⟩⟩)
    by_cases c4 : 200 < b
    · exact less_small v m a b W h hi ho hE (.inr ⟨c, .inr ⟨c1, .inr ⟨c2, .inr ⟨c3, c4⟩⟩⟩⟩)
    obtain ⟨a, rfl⟩ := Int.eq_ofNat_of_zero_le (Int.not_lt.1 c1)
    obtain ⟨b, rfl⟩ := Int.eq_ofNat_of_zero_le (Int.not_lt.1 c2)
    exact small v m a b (by omega) (by omega) W h hi ho hc c hE
  · exact less_small v m a b W h hi ho hE (.inl (by simpa using c))
end Go.Proofs.YthnciokmomgfeaaGreatDoor.InnerFuel

namespace Go.Proofs.YthnciokmomgfeaaGreatDoor.innerFuel
open Inn Mach Mem
open Go.ChangeShapes Go.WideShapes Go.ChangeAt Go.RowKit
set_option linter.unusedVariables false
set_option linter.unusedSimpArgs false

theorem own : ownKnob Tryz.prog.godebug = none := by kernel_rfl
theorem laidOut : laidOutB Tryz.prog = true := by kernel_rfl
abbrev laid : List (String × DataW Unit) := laidL9
theorem laid_is : Rows.innerFuelRow.laid = laid := rfl
set_option maxRecDepth 100000 in
theorem lifted (os : Os) (started : os.Started) (H : Type) (enc : TypeId × Value → H) :
    ReturnsInHanded {} Tryz.checked os 5 .any (fun w args => (Rows.innerFuelSpec.pre enc Tryz.prog Tryz.f5 Rows.innerFuelRow.domain false w args ∧ laidMetH Tryz.prog laid w) ∧ sizedMet enc Tryz.prog Tryz.f5 (OpenSpec.ofChange Rows.innerFuelSpec) false w args)
      (Rows.innerFuelSpec.post enc Tryz.prog Tryz.f5 false true false false) := by
  refine returnsInHanded_of_change_and (C := Tryz.checked) (X := fun w _ => laidMetH Tryz.prog laid w) (fun _ _ _ hh h => h.of_heap hh) own started (by kernel_rfl) Tryz.func5
    (Inn.witness_ref (enc := enc) (C := Tryz.checked) (os := os) (X := fun w _ => laidMetH Tryz.prog laid w) false (Inn.laidWorld os) #[.agg #[.int .i64 0, .int .i64 0, .slice none 0 0, .slice none 0 0, .slice none 0 0, .string ⟨#[]⟩, .string ⟨#[]⟩, .int .i64 0, .int .i64 0, .int .i64 0], .int .i64 0, .int .i64 0] 8 rfl (by kernel_rfl) (by kernel_rfl) (by kernel_rfl) (by kernel_rfl) (by kernel_rfl) (Inn.laidWorld_met os _)) ?_
  intro W base args ds gs before hval0 hW _ _ hL _
  have hval : ∀ (j : Nat) t v, Tryz.f5.params[j]? = some t → args[j]? = some v → Value.okWide Tryz.prog W .any base t v := hval0
  have hW' := hW
  obtain ⟨p, q, hA0, hV, rfl, hfz, hnd⟩ := hW
  have hA : DataW.TrodAll enc Tryz.prog W 0 (fun _ => true) true Tryz.f5.params.toList args.toList ds p := hA0
  rw [Tryz.params5] at hA hval
  obtain ⟨v0, vs0, d0, ds0, p0, q0, hargs, rfl, rfl, h0, r0⟩ := trodAll_cons hA
  obtain ⟨v1, vs1, d1, ds1, p1, q1, rfl, rfl, rfl, h1, r1⟩ := trodAll_cons r0
  obtain ⟨v2, vs2, d2, ds2, p2, q2, rfl, rfl, rfl, h2, r2⟩ := trodAll_cons r1
  obtain ⟨rfl, rfl, rfl⟩ := trodAll_nil r2
  obtain rfl : args = #[v0, v1, v2] := by cases args; simp_all
  obtain ⟨rfl, rfl⟩ := trodVars_none hV
  obtain ⟨xs0, l0⟩ := stateOf (hval 0 24 v0 rfl rfl) h0
  obtain ⟨a1, rfl, rfl, rfl, w1⟩ := open_int Tryz.underlying3 (hval 1 3 v1 rfl rfl) h1
  obtain ⟨a2, rfl, rfl, rfl, w2⟩ := open_int Tryz.underlying3 (hval 2 3 v2 rfl rfl) h2
  clear hA0 hval0
  simp only [List.append_nil] at hW'
  have hlt0 : ∀ x ∈ p0, x.block < W.heap.size := fun x hx => by simpa using hW'.lt x (by simp [hx])
  refine (InnerFuel.main v0 xs0 a1 a2 W l0 w1 w2 (tabs_on hL)).mono fun e W' ⟨he, hg⟩ => ?_
  subst he
  exact ⟨_, rfl, _, _, _, [], _, [], hW', (trodAll_cons_mk (shut_bool Tryz.underlying4 _) trodAll_mk0), (trodAll_cons_mk (Below.trod laidOut (by kernel_rfl) (of_decide_eq_true (by kernel_rfl)) h0 hg hlt0) (trodAll_cons_mk (shut_int Tryz.underlying3 w1) (trodAll_cons_mk (shut_int Tryz.underlying3 w2) trodAll_mk0))), rfl, hg.frame _, fun h => by cases h⟩

theorem over : Rows.innerFuelRow.holds Tryz.pinned (OpenSpec.ofChange Rows.innerFuelSpec) :=
  OpenClaim.holds_of_wide 5 Tryz.f5 rfl rfl rfl rfl rfl rfl rfl ⟨rfl, rfl, rfl, rfl, rfl⟩ rfl rfl rfl rfl rfl (by kernel_rfl) Tryz.func5 (by kernel_rfl)
    (of_decide_eq_true (by kernel_rfl)) (by unfold Func.isWrapper; first | (rw [if_pos (by decide +kernel)]; kernel_rfl) | (rw [if_neg (by decide +kernel)]; exact ⟨rfl, rfl⟩))
    (fun os started H enc _ => lifted os started H enc)

theorem proved : Rows.InnerFuelCardSaid :=
  Claim7.holds_tied_plain_at .later [] Rows.innerFuelCard.laidKinds true Rows.innerFuelCard.stood.harness Rows.innerFuelCard.stood.looks
    over (fun _ h => by cases h) (by kernel_rfl) (fun _ h => by cases h) innerFuel_row_tie rfl ⟨rfl, rfl⟩ (by kernel_rfl) rfl
    (fun f fn hf hfn => by
      obtain rfl : f = 5 := Option.some.inj ((show Tryz.prog.funcNamed "holloway/hollowaylaw9.InnerFuel" = some 5 by kernel_rfl).symm.trans hf) |>.symm
      obtain rfl : fn = Tryz.f5 := (Option.some.inj (Tryz.func5.symm.trans hfn)).symm
      exact ⟨by kernel_rfl, fun j t ht => by
        rw [Tryz.params5] at ht
        have hm : t ∈ [24, 3, 3] := by
          rcases Array.mem_of_getElem? ht with h
          simpa using h
        simp only [List.mem_cons, List.not_mem_nil, or_false] at hm
        rcases hm with rfl | rfl | rfl
        · exact (show Tryz.prog.wantsStandIn 24 = false by kernel_rfl)
        · exact (show Tryz.prog.wantsStandIn 3 = false by kernel_rfl)
        · exact (show Tryz.prog.wantsStandIn 3 = false by kernel_rfl)⟩)
    (by kernel_rfl)
#print axioms proved
end Go.Proofs.YthnciokmomgfeaaGreatDoor.innerFuel
