/- What is proved: hollowaylaw9.InnerMemory answers true for every input, and its arguments read afterwards as before; the listed package variables start as the program's text lays them (the card ties them). -/
import Derived.Test.YthnciokmomgfeaaGreatDoorG26
import Derived.Test.YthnciokmomgfeaaGreatDoorRows
import Derived.Test.YthnciokmomgfeaaGreatDoorCards
import Derived.Test.YthnciokmomgfeaaGreatDoorTie
import Derived.WalkKit
import Derived.ProofKit
import Derived.OpenShut
import Derived.ChangeSame
import Derived.ChangeVars
import Derived.JoinedOf
import Derived.RowKitTokens
import Derived.LaidLaws
import Derived.LaidHandle
import Derived.Stop.Joined
import Derived.SevenTiedAt
import Derived.Carry
import Derived.Test.YthnciokmomgfeaaGreatDoorG25
/- InnerMemory: the walk. -/
namespace Go.Proofs.YthnciokmomgfeaaGreatDoor.InnerMemory
open Go.RowKit Book Mem Mach Inn
set_option linter.unusedVariables false
set_option linter.unusedSimpArgs false
set_option maxHeartbeats 4000000 in
set_option maxRecDepth 100000 in
/-- no such cell -/
theorem none_such (a x n : Int) (W : World) (hE : ∀ wc, Below W.heap.size W wc → Tabs wc) (hg : a < 0 ∨ ¬ a < 0 ∧ (400 ≤ a ∨ ¬ 400 ≤ a ∧ 200 ≤ a ∧ a < 220)) :
    Calls Tryz.prog 9 #[.int .i64 a, .int .i64 x, .int .i64 n] W (Yes W) := by
  have A := Lib.hid (alive_any W hE)
  clear hE
  rcases hg with c | ⟨c, c1 | ⟨c1, c2, c3⟩⟩
  all_goals
    go_enter Tryz.func9, Tryz.ntmps9
    go_wp2_with fail
    refine A.out.mono ?_
    rintro e w3 ⟨rfl, hb⟩
    have HB3 := Lib.hid hb
    clear hb A
    go_wp2
    go_ret
    exact ⟨rfl, HB3.out⟩
set_option maxHeartbeats 16000000 in
set_option maxRecDepth 100000 in
theorem fine (at' : Nat) (v n : Int) (ha : at' < 400) (hn : ¬ (200 ≤ at' ∧ at' < 220)) (hv : Cell.In v) (hnn : Cell.In n) (W : World) (hE : ∀ wc, Below W.heap.size W wc → Tabs wc) :
    Calls Tryz.prog 9 #[.int .i64 at', .int .i64 v, .int .i64 n] W (Yes W) := by
  have HE := Lib.hid hE
  have A := Lib.hid (alive_any W hE)
  obtain ⟨i0, HI1, HI2, HI3, HI4⟩ := int_facts
  have HI := Lib.hid (And.intro HI1 (And.intro HI2 (And.intro HI3 HI4)))
  clear HI1 HI2 HI3 HI4
  -- the machine, and what becomes of it
  obtain ⟨x, hx⟩ : ∃ x, plainM [2, v, 2, at', 31, 2, n, 2, at', 32, 2, at', 30, 47] [] [] = x := ⟨_, rfl⟩
  obtain ⟨y, hy⟩ : ∃ y, T (plainX ⟨#[]⟩ ((plainMem [2, v, 2, at', 31, 2, n, 2, at', 32, 2, at', 30, 47]).set at' (RowKit.wrap64 (v + n)))) 213 [RowKit.wrap64 (v + n)] [] = y := ⟨_, rfl⟩
  have hrun : Mach.run 8 x = (y, 0) := by rw [← hx, ← hy]; exact Mach.stored ha hn
  have hin : ∀ z ∈ [2, v, 2, (at' : Int), 31, 2, n, 2, at', 32, 2, at', 30, 47], Cell.In z := by
    intro z hz
    simp only [List.mem_cons, List.not_mem_nil, or_false] at hz
    rcases hz with rfl | rfl | rfl | rfl | rfl | rfl | rfl | rfl | rfl | rfl | rfl | rfl | rfl | rfl <;> first | assumption | (unfold Cell.In; omega)
  have hxr : Right x := by rw [← hx]; exact plain_right _ _ _
  have hxc : Cells x := by rw [← hx]; exact plain_cells hin (fun z h => by cases h) (fun z h => by cases h)
  have hxi : x.inp.size ≤ maxLen := by rw [← hx]; exact plain_inp _ _ _
  have hxm : x.mem.length = 400 := by rw [← hx]; exact plainMem_length _
  obtain ⟨c, hc⟩ : ∃ c, RowKit.wrap64 (v + n) = c := ⟨_, rfl⟩
  rw [hc] at hy
  have hym : y.mem = x.mem.set at' c := by rw [← hx, ← hy]; rfl
  have hys : y.stack = [c] := by rw [← hy]; rfl
  have hyi : y.ip = 213 := by rw [← hy]; rfl
  have hy0 : y.status = 0 := by rw [← hy]; rfl
  have HX := Lib.hid hx
  have HP := Lib.hid (And.intro hxr (And.intro hxc (And.intro hxi hrun)))
  have HY := Lib.hid (And.intro hxm (And.intro hym (And.intro hys (And.intro hyi hy0))))
  have HC := Lib.hid hc
  have a0 : (0 : Int) ≤ (at' : Int) := Int.natCast_nonneg _
  have a1 : ¬ (at' : Int) < 0 := by omega
  have a2 : ¬ (400 : Int) ≤ (at' : Int) := by omega
  have a3 : (decide ((200 : Int) ≤ (at' : Int)) && decide ((at' : Int) < 220)) = false := by
    rw [Bool.and_eq_false_iff, decide_eq_false_iff_not, decide_eq_false_iff_not]
    omega
  have HA := Lib.hid hn
  clear hx hy hrun hin hxr hxc hxi hxm hc hym hys hyi hy0 hE hv hnn hn
  by_cases b1 : (200 : Int) ≤ (at' : Int)
  all_goals
    have b2 : ¬ ((200 : Int) ≤ (at' : Int) ∧ (at' : Int) < 220) := by have := HA.out; omega
    try have b3 : ¬ (at' : Int) < 220 := by omega
    go_enter Tryz.func9, Tryz.ntmps9
    go_wp2_with fail
    refine A.out.mono ?_
    rintro e w1 ⟨rfl, hb⟩
    have HB1 := Lib.hid hb
    clear hb A
    obtain ⟨w2, gl, hw2, hgl, HLB, HBL, HGL⟩ := new_box w1 #[.int .i64 2, .int .i64 v, .int .i64 2, .int .i64 at', .int .i64 31, .int .i64 2, .int .i64 n, .int .i64 2, .int .i64 at', .int .i64 32, .int .i64 2, .int .i64 at', .int .i64 30, .int .i64 47] 3
    have HB2 := Lib.hid (HB1.out.trans (HBL.out.mono HB1.out.size))
    have HOL := Lib.hid (owns_lit (n := 14) HLB.out [2, v, 2, at', 31, 2, n, 2, at', 32, 2, at', 30, 47] rfl rfl (by decide) (Nat.le_refl _) (by decide))
    have C := Lib.hid (plain_any (Reads.of_owns HOL.out) (readsC_nil w2) (readsC_nil w2))
    rw [HX.out] at C
    clear HLB HBL HOL
    go_wp2_with fail
    refine C.out.mono ?_
    rintro e w3 hgm
    obtain ⟨s1, k1, s2, k2, s3, k3, rfl, ho, hb⟩ := GivesM.known hgm
    rw [HY.out.1] at ho ⊢
    obtain ⟨gm, rfl, hcm⟩ := owns_cells ho.me (by rw [HY.out.1]; decide)
    obtain ⟨w4, b, hw4, hb4, HYB, HBn, HGB⟩ := new_box w3 (cells10 x.ip x.handler (.slice s1 x.stack.length k1) (.slice s2 x.back.length k2) (.slice (some ⟨gm, 0, none⟩) 400 k3) x.out x.inp x.read x.status x.code) 24
    have HB4 := Lib.hid ((HB2.out.trans (hb.mono HB2.out.size)).trans (HBn.out.mono (Nat.le_trans HB2.out.size hb.size)))
    have HO4 := Lib.hid (ho.below HBn.out)
    have R := Lib.hid (runs_any HO4.out.readsM HP.out.1 HP.out.2.1 HP.out.2.2.1 (fun wc hbc => HE.out wc (HB4.out.trans (hbc.mono HB4.out.size))) 8 (by decide) HP.out.2.2.2)
    have HCM := Lib.hid (fun j z hz => (Stirred.of_below HBn.out []).cell List.not_mem_nil (hcm j z hz))
    clear C ho hb hgm hcm
    go_wp2_with (refine ld_state (by rfl) _ rfl _ rfl _ _ HYB.out rfl ?_)
    refine R.out.mono ?_
    rintro e w5 ⟨t1, c1, t2, c2, t3, c3, rfl, ho, hb⟩
    obtain ⟨hxm, hym, hys, hyi, hy0⟩ := HY.out
    have hyl : y.mem.length = 400 := by rw [hym, List.length_set]; exact hxm
    rw [hyl, hys] at ho ⊢
    obtain ⟨gn, rfl, hcn⟩ := owns_cells ho.me (by rw [hyl]; decide)
    obtain ⟨gs, rfl, hcs⟩ := owns_cells (l := [c]) (by rw [← hys]; exact ho.st) (by simp)
    obtain ⟨w6, b6, hw6, hb6, HZB, HBn, HGZ⟩ := new_box w5 (cells10 y.ip y.handler (.slice (some ⟨gs, 0, none⟩) 1 c1) (.slice t2 y.back.length c2) (.slice (some ⟨gn, 0, none⟩) 400 c3) y.out y.inp y.read y.status y.code) 24
    have HB5 := Lib.hid (HB4.out.trans (hb.mono HB4.out.size))
    have HB6 := Lib.hid (HB5.out.trans (HBn.out.mono HB5.out.size))
    have HYB6 := Lib.hid (box_on (box_on HYB.out hb) HBn.out)
    have HCM6 := Lib.hid (fun j z hz => (Stirred.of_below HBn.out []).cell List.not_mem_nil ((Stirred.of_below hb []).cell List.not_mem_nil (HCM.out j z hz)))
    have HCN6 := Lib.hid (fun j z hz => (Stirred.of_below HBn.out []).cell List.not_mem_nil (hcn j z hz))
    have ks : w6.cell? ⟨gs, 0, none⟩ = some (.int .i64 c) := (Stirred.of_below HBn.out []).cell List.not_mem_nil (hcs 0 c rfl)
    have f2 : w6.cell? ⟨b6, 2, none⟩ = some (.slice (some ⟨gs, 0, none⟩) 1 c1) := whole_cell HZB.out rfl
    have f4 : w6.cell? ⟨b6, 4, none⟩ = some (.slice (some ⟨gn, 0, none⟩) 400 c3) := whole_cell HZB.out rfl
    have g4 : w6.cell? ⟨b, 4, none⟩ = some (.slice (some ⟨gm, 0, none⟩) 400 k3) := whole_cell HYB6.out rfl
    have HE2 := HC.out
    have F0 : Hid (w6.cell? ⟨b6, 0, none⟩ = some (.int .i64 213)) := Lib.hid (by rw [← hyi]; exact whole_cell HZB.out rfl)
    have F8 : Hid (w6.cell? ⟨b6, 8, none⟩ = some (.int .i64 0)) := Lib.hid (by rw [← hy0]; exact whole_cell HZB.out rfl)
    have hadd : RowKit.wrap64 (v + n) = c := HC.out
    clear R ho hb hcn hcs HYB HCM HO4 hyl hxm hym hys hyi hy0
    go_wp2_with fail
    simp only [hadd]
    go_loopg [10] 400 (fun z f wr => ∃ k q : Nat, z = 400 - k ∧ k ≤ 400 ∧ f = .int .i64 k ∧ wr = w6.drewN q)
    case atStart => exact ⟨0, 0, rfl, by decide, rfl, rfl⟩
    case round =>
      obtain ⟨k, q, rfl, hk, rfl, rfl⟩ := hrel
      by_cases hlt : k < 400
      · have k0 : (0 : Int) ≤ (k : Int) := Int.natCast_nonneg _
        have k1 : (k : Int) < 400 := by omega
        have hxk : x.mem[k]? = some (x.mem[k]'(by rw [HY.out.1]; exact hlt)) := List.getElem?_eq_getElem _
        generalize x.mem[k]'(by rw [HY.out.1]; exact hlt) = xk at hxk
        have cm := HCM6.out k xk hxk
        by_cases hka : k = at'
        · have cn := HCN6.out k c (by rw [HY.out.2.1, hka, List.getElem?_set_self (by rw [HY.out.1]; exact ha)])
          subst hka
          clear hxk
          go_wp2
          go_quiet (fail)
          go_wp2
          go_roundg (400 - (k + 1))
          case measure => omega
          case rel => exact ⟨k + 1, _, rfl, by omega, by go_num, rfl⟩
        · have cn := HCN6.out k xk (by rw [HY.out.2.1, List.getElem?_set_ne (fun e => hka e.symm)]; exact hxk)
          have e1 : ¬ (k : Int) = (at' : Int) := by omega
          clear hxk
          go_wp2
          go_quiet (fail)
          go_wp2
          go_roundg (400 - (k + 1))
          case measure => omega
          case rel => exact ⟨k + 1, _, rfl, by omega, by go_num, rfl⟩
      · obtain rfl : k = 400 := by omega
        have h0 := F0.out
        have h8 := F8.out
        have HBZ := Lib.hid (Inn.below_drewN HB6.out q (Nat.le_refl _))
        go_wp2
        go_ret
        exact ⟨rfl, HBZ.out⟩
theorem main (a v n : Int) (W : World) (_ : (Lit.int .i64 a).wf = true) (hv : (Lit.int .i64 v).wf = true) (hn : (Lit.int .i64 n).wf = true) (hE : ∀ wc, Below W.heap.size W wc → Tabs wc) :
    Calls Tryz.prog 9 #[.int .i64 a, .int .i64 v, .int .i64 n] W (Yes W) := by
  by_cases c : a < 0
  · exact none_such a v n W hE (.inl c)
  by_cases c1 : 400 ≤ a
  · exact none_such a v n W hE (.inr ⟨c, .inl c1⟩)
  by_cases c2 : 200 ≤ a ∧ a < 220
  · exact none_such a v n W hE (.inr ⟨c, .inr ⟨c1, c2⟩⟩)
  obtain ⟨a, rfl⟩ := Int.eq_ofNat_of_zero_le (Int.not_lt.1 c)
  exact fine a v n (by omega) (by omega) (Cell.in_of_wf hv) (Cell.in_of_wf hn) W hE
end Go.Proofs.YthnciokmomgfeaaGreatDoor.InnerMemory

namespace Go.Proofs.YthnciokmomgfeaaGreatDoor.innerMemory
open Inn Mach Mem
open Go.ChangeShapes Go.WideShapes Go.ChangeAt Go.RowKit
set_option linter.unusedVariables false
set_option linter.unusedSimpArgs false

theorem own : ownKnob Tryz.prog.godebug = none := by kernel_rfl
theorem laidOut : laidOutB Tryz.prog = true := by kernel_rfl
abbrev laid : List (String × DataW Unit) := laidL9
theorem laid_is : Rows.innerMemoryRow.laid = laid := rfl
set_option maxRecDepth 100000 in
theorem lifted (os : Os) (started : os.Started) (H : Type) (enc : TypeId × Value → H) :
    ReturnsInHanded {} Tryz.checked os 9 .any (fun w args => (Rows.innerMemorySpec.pre enc Tryz.prog Tryz.f9 Rows.innerMemoryRow.domain false w args ∧ laidMetH Tryz.prog laid w) ∧ sizedMet enc Tryz.prog Tryz.f9 (OpenSpec.ofChange Rows.innerMemorySpec) false w args)
      (Rows.innerMemorySpec.post enc Tryz.prog Tryz.f9 false true false false) := by
  refine returnsInHanded_of_change_and (C := Tryz.checked) (X := fun w _ => laidMetH Tryz.prog laid w) (fun _ _ _ hh h => h.of_heap hh) own started (by kernel_rfl) Tryz.func9
    (Inn.witness_ref (enc := enc) (C := Tryz.checked) (os := os) (X := fun w _ => laidMetH Tryz.prog laid w) false (Inn.laidWorld os) #[.int .i64 0, .int .i64 0, .int .i64 0] 8 rfl (by kernel_rfl) (by kernel_rfl) (by kernel_rfl) (by kernel_rfl) (by kernel_rfl) (Inn.laidWorld_met os _)) ?_
  intro W base args ds gs before hval0 hW _ _ hL _
  have hval : ∀ (j : Nat) t v, Tryz.f9.params[j]? = some t → args[j]? = some v → Value.okWide Tryz.prog W .any base t v := hval0
  have hW' := hW
  obtain ⟨p, q, hA0, hV, rfl, hfz, hnd⟩ := hW
  have hA : DataW.TrodAll enc Tryz.prog W 0 (fun _ => true) true Tryz.f9.params.toList args.toList ds p := hA0
  rw [Tryz.params9] at hA hval
  obtain ⟨v0, vs0, d0, ds0, p0, q0, hargs, rfl, rfl, h0, r0⟩ := trodAll_cons hA
  obtain ⟨v1, vs1, d1, ds1, p1, q1, rfl, rfl, rfl, h1, r1⟩ := trodAll_cons r0
  obtain ⟨v2, vs2, d2, ds2, p2, q2, rfl, rfl, rfl, h2, r2⟩ := trodAll_cons r1
  obtain ⟨rfl, rfl, rfl⟩ := trodAll_nil r2
  obtain rfl : args = #[v0, v1, v2] := by cases args; simp_all
  obtain ⟨rfl, rfl⟩ := trodVars_none hV
  obtain ⟨a0, rfl, rfl, rfl, w0⟩ := open_int Tryz.underlying3 (hval 0 3 v0 rfl rfl) h0
  obtain ⟨a1, rfl, rfl, rfl, w1⟩ := open_int Tryz.underlying3 (hval 1 3 v1 rfl rfl) h1
  obtain ⟨a2, rfl, rfl, rfl, w2⟩ := open_int Tryz.underlying3 (hval 2 3 v2 rfl rfl) h2
  clear hA0 hval0
  simp only [List.append_nil] at hW'
  refine (InnerMemory.main a0 a1 a2 W w0 w1 w2 (tabs_on hL)).mono fun e W' ⟨he, hg⟩ => ?_
  subst he
  exact ⟨_, rfl, _, _, _, [], _, [], hW', (trodAll_cons_mk (shut_bool Tryz.underlying4 _) trodAll_mk0), (trodAll_cons_mk (shut_int Tryz.underlying3 w0) (trodAll_cons_mk (shut_int Tryz.underlying3 w1) (trodAll_cons_mk (shut_int Tryz.underlying3 w2) trodAll_mk0))), rfl, hg.frame _, fun h => by cases h⟩

theorem over : Rows.innerMemoryRow.holds Tryz.pinned (OpenSpec.ofChange Rows.innerMemorySpec) :=
  OpenClaim.holds_of_wide 9 Tryz.f9 rfl rfl rfl rfl rfl rfl rfl ⟨rfl, rfl, rfl, rfl, rfl⟩ rfl rfl rfl rfl rfl (by kernel_rfl) Tryz.func9 (by kernel_rfl)
    (of_decide_eq_true (by kernel_rfl)) (by unfold Func.isWrapper; first | (rw [if_pos (by decide +kernel)]; kernel_rfl) | (rw [if_neg (by decide +kernel)]; exact ⟨rfl, rfl⟩))
    (fun os started H enc _ => lifted os started H enc)

theorem proved : Rows.InnerMemoryCardSaid :=
  Claim7.holds_tied_plain_at .later [] Rows.innerMemoryCard.laidKinds true Rows.innerMemoryCard.stood.harness Rows.innerMemoryCard.stood.looks
    over (fun _ h => by cases h) (by kernel_rfl) (fun _ h => by cases h) innerMemory_row_tie rfl ⟨rfl, rfl⟩ (by kernel_rfl) rfl
    (fun f fn hf hfn => by
      obtain rfl : f = 9 := Option.some.inj ((show Tryz.prog.funcNamed "holloway/hollowaylaw9.InnerMemory" = some 9 by kernel_rfl).symm.trans hf) |>.symm
      obtain rfl : fn = Tryz.f9 := (Option.some.inj (Tryz.func9.symm.trans hfn)).symm
      exact ⟨by kernel_rfl, fun j t ht => by
        rw [Tryz.params9] at ht
        have hm : t ∈ [3, 3, 3] := by
          rcases Array.mem_of_getElem? ht with h
          simpa using h
        simp only [List.mem_cons, List.not_mem_nil, or_false] at hm
        rcases hm with rfl | rfl | rfl
        · exact (show Tryz.prog.wantsStandIn 3 = false by kernel_rfl)
        · exact (show Tryz.prog.wantsStandIn 3 = false by kernel_rfl)
        · exact (show Tryz.prog.wantsStandIn 3 = false by kernel_rfl)⟩)
    (by kernel_rfl)
#print axioms proved
end Go.Proofs.YthnciokmomgfeaaGreatDoor.innerMemory
