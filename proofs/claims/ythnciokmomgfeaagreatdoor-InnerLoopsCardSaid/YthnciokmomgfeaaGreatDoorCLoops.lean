/- What is proved: hollowaylaw9.InnerLoops answers true for every input, and its arguments read afterwards as before; the listed package variables start as the program's text lays them (the card ties them). -/
import Derived.Test.YthnciokmomgfeaaGreatDoorG26
import Derived.Test.YthnciokmomgfeaaGreatDoorRows
import Derived.Test.YthnciokmomgfeaaGreatDoorCards
import Derived.Test.YthnciokmomgfeaaGreatDoorTie
import Derived.WalkKit
import Derived.ProofKit
import Derived.OpenShut
import Derived.ChangeSame
import Derived.ChangeVars
import Derived.JoinedOf
import Derived.RowKitTokens
import Derived.LaidLaws
import Derived.LaidHandle
import Derived.Stop.Joined
import Derived.SevenTiedAt
import Derived.Carry
import Derived.Test.YthnciokmomgfeaaGreatDoorG25
/- InnerLoops: the walk. -/
namespace Go.Proofs.YthnciokmomgfeaaGreatDoor.InnerLoops
open Go.RowKit Book Mem Mach Inn
set_option linter.unusedVariables false
set_option linter.unusedSimpArgs false
set_option maxHeartbeats 4000000 in
set_option maxRecDepth 100000 in
theorem not_small (limit start step : Int) (W : World) (hE : ∀ wc, Below W.heap.size W wc → Tabs wc) (hg : limit < -1000 ∨ ¬ limit < -1000 ∧ (1000 < limit ∨ ¬ 1000 < limit ∧ (start < -1000 ∨ ¬ start < -1000 ∧ (limit ≤ start ∨ ¬ limit ≤ start ∧ (60 < limit - start ∨ ¬ 60 < limit - start ∧ (step < 1 ∨ ¬ step < 1 ∧ 60 < step)))))) :
    Calls Tryz.prog 11 #[.int .i64 limit, .int .i64 start, .int .i64 step] W (Yes W) := by
  have A := Lib.hid (alive_any W hE)
  clear hE
  rcases hg with c | ⟨c, c1 | ⟨c1, c2 | ⟨c2, c3 | ⟨c3, c4 | ⟨c4, c5 | ⟨c5, c6⟩⟩⟩⟩⟩⟩
  all_goals
    go_enter Tryz.func11, Tryz.ntmps11
    (try simp only [List.append_eq, List.cons_append, List.nil_append])
    go_wp2_with fail
    refine A.out.mono ?_
    rintro e w3 ⟨rfl, hb⟩
    have HB3 := Lib.hid hb
    clear hb A
    go_wp2
    go_ret
    exact ⟨rfl, HB3.out⟩
set_option maxHeartbeats 16000000 in
set_option maxRecDepth 100000 in
theorem fine (limit start step : Int) (h1 : -1000 ≤ start) (h2 : start < limit) (h3 : limit ≤ 1000) (h4 : 1 ≤ step) (h5 : step ≤ 60) (h6 : limit - start ≤ 60) (W : World) (hE : ∀ wc, Below W.heap.size W wc → Tabs wc) :
    Calls Tryz.prog 11 #[.int .i64 limit, .int .i64 start, .int .i64 step] W (Yes W) := by
  have HE := Lib.hid hE
  have A := Lib.hid (alive_any W hE)
  -- the machines, and what becomes of them
  obtain ⟨y1, r1, hr1, ha1, hb1, hc1⟩ := ploops h1 h2 h3 h4 h5 h6
  obtain ⟨y2, r2, hr2, ha2, hb2, hc2⟩ := loops h1 h2 h3 h6
  have in1 : ∀ z ∈ [2, 0, 2, limit, 2, start, 36, 2, 1, 11, 2, step, 38, 207, 0], Cell.In z := by
    intro z hz
    simp only [List.mem_cons, List.not_mem_nil, or_false] at hz
    rcases hz with rfl | rfl | rfl | rfl | rfl | rfl | rfl | rfl | rfl | rfl | rfl | rfl | rfl | rfl | rfl <;> (unfold Cell.In; omega)
  have in2 : ∀ z ∈ [2, 0, 2, limit, 2, start, 36, 2, 1, 11, 37, 207, 0], Cell.In z := by
    intro z hz
    simp only [List.mem_cons, List.not_mem_nil, or_false] at hz
    rcases hz with rfl | rfl | rfl | rfl | rfl | rfl | rfl | rfl | rfl | rfl | rfl | rfl | rfl <;> (unfold Cell.In; omega)
  have p1 := plain_right [2, 0, 2, limit, 2, start, 36, 2, 1, 11, 2, step, 38, 207, 0] [] []
  have p2 := plain_right [2, 0, 2, limit, 2, start, 36, 2, 1, 11, 37, 207, 0] [] []
  have z1 := plain_cells (st := []) (bk := []) in1 (fun z h => by cases h) (fun z h => by cases h)
  have z2 := plain_cells (st := []) (bk := []) in2 (fun z h => by cases h) (fun z h => by cases h)
  have i1 := plain_inp [2, 0, 2, limit, 2, start, 36, 2, 1, 11, 2, step, 38, 207, 0] [] []
  have i2 := plain_inp [2, 0, 2, limit, 2, start, 36, 2, 1, 11, 37, 207, 0] [] []
  replace hr1 : Mach.run 2000 (plainM [2, 0, 2, limit, 2, start, 36, 2, 1, 11, 2, step, 38, 207, 0] [] []) = (y1, r1) := hr1
  replace hr2 : Mach.run 2000 (plainM [2, 0, 2, limit, 2, start, 36, 2, 1, 11, 37, 207, 0] [] []) = (y2, r2) := hr2
  obtain ⟨x1, hx1⟩ : ∃ x, plainM [2, 0, 2, limit, 2, start, 36, 2, 1, 11, 2, step, 38, 207, 0] [] [] = x := ⟨_, rfl⟩
  obtain ⟨x2, hx2⟩ : ∃ x, plainM [2, 0, 2, limit, 2, start, 36, 2, 1, 11, 37, 207, 0] [] [] = x := ⟨_, rfl⟩
  obtain ⟨q1, hq1⟩ : ∃ q, (limit - start + step - 1).tdiv step = q := ⟨_, rfl⟩
  obtain ⟨q2, hq2⟩ : ∃ q, limit - start = q := ⟨_, rfl⟩
  rw [hx1] at hr1 p1 z1 i1
  rw [hx2] at hr2 p2 z2 i2
  rw [hq1] at hb1
  rw [hq2] at hb2
  have HX1 := Lib.hid (And.intro hx1 (And.intro p1 (And.intro z1 (And.intro i1 (And.intro hr1 (And.intro ha1 (And.intro hb1 hc1)))))))
  have HX2 := Lib.hid (And.intro hx2 (And.intro p2 (And.intro z2 (And.intro i2 (And.intro hr2 (And.intro ha2 (And.intro hb2 hc2)))))))
  have hq0 : 0 ≤ q1 ∧ q1 ≤ 1000 := by
    rw [← hq1, Int.tdiv_eq_ediv_of_nonneg (by omega)]
    exact ⟨Int.ediv_nonneg (by omega) (by omega), Int.le_trans (Int.ediv_le_self _ (by omega)) (by omega)⟩
  have HQ := Lib.hid (And.intro hq1 (And.intro hq2 hq0))
  clear in1 in2 p1 p2 z1 z2 i1 i2 hr1 hr2 ha1 ha2 hb1 hb2 hc1 hc2 hx1 hx2 hq1 hq2 hq0 hE
  have n1 : ¬ limit < -1000 := by omega
  have n2 : ¬ 1000 < limit := by omega
  have n3 : ¬ start < -1000 := by omega
  have n4 : ¬ limit ≤ start := by omega
  have n5 : ¬ 60 < limit - start := by omega
  have n6 : ¬ step < 1 := by omega
  have n7 : ¬ 60 < step := by omega
  have HH := Lib.hid (And.intro h1 (And.intro h2 (And.intro h3 (And.intro h4 (And.intro h5 h6)))))
  clear h1 h2 h3 h4 h5 h6
  go_enter Tryz.func11, Tryz.ntmps11
  (try simp only [List.append_eq, List.cons_append, List.nil_append])
  go_wp2_with fail
  refine A.out.mono ?_
  rintro e we0 ⟨rfl, hb⟩
  have HBE0 := Lib.hid hb
  clear hb A
  obtain ⟨wl1, gl1, hwl1, hgl1, HLB, HBL, HGL⟩ := new_box we0 #[.int .i64 2, .int .i64 0, .int .i64 2, .int .i64 limit, .int .i64 2, .int .i64 start, .int .i64 36, .int .i64 2, .int .i64 1, .int .i64 11, .int .i64 2, .int .i64 step, .int .i64 38, .int .i64 207, .int .i64 0] 3
  have HBA1 := Lib.hid (HBE0.out.trans (HBL.out.mono HBE0.out.size))
  have HOL := Lib.hid (owns_lit (n := 15) HLB.out [2, 0, 2, limit, 2, start, 36, 2, 1, 11, 2, step, 38, 207, 0] rfl rfl (by decide) (Nat.le_refl _) (by decide))
  have C := Lib.hid (plain_any (Reads.of_owns HOL.out) (readsC_nil wl1) (readsC_nil wl1))
  rw [HX1.out.1] at C
  have KP1 := Lib.hid HBL.out
  clear HLB HBL HOL HGL
  go_wp2_with fail
  refine C.out.mono ?_
  rintro e wp1 hgm
  obtain ⟨s1, k1, s2, k2, s3, k3, rfl, ho, hb⟩ := GivesM.known hgm
  obtain ⟨wb1, b1, hwb1, hb1, HYB, HBn, HGB⟩ := new_box wp1 (cells10 x1.ip x1.handler (.slice s1 x1.stack.length k1) (.slice s2 x1.back.length k2) (.slice s3 x1.mem.length k3) x1.out x1.inp x1.read x1.status x1.code) 24
  have HBB1 := Lib.hid ((HBA1.out.trans (hb.mono HBA1.out.size)).trans (HBn.out.mono (Nat.le_trans HBA1.out.size hb.size)))
  have HO4 := Lib.hid (ho.below HBn.out)
  have R := Lib.hid (runs_any HO4.out.readsM HX1.out.2.1 HX1.out.2.2.1 HX1.out.2.2.2.1 (fun wc hbc => HE.out wc (HBB1.out.trans (hbc.mono HBB1.out.size))) 2000 (by decide) HX1.out.2.2.2.2.1)
  have KQ1 := Lib.hid (hb.trans (HBn.out.mono hb.size))
  clear C ho hb hgm HBn HGB
  go_wp2_with (refine ld_state (by rfl) _ rfl _ rfl _ _ HYB.out rfl ?_)
  refine R.out.mono ?_
  rintro e wr1 ⟨t1, c1, t2, c2, t3, c3, rfl, ho, hb⟩
  rw [show y1.stack.length = 1 by rw [HX1.out.2.2.2.2.2.2.1]; rfl, show y1.back.length = 0 by rw [HX1.out.2.2.2.2.2.2.2]; rfl] at ho ⊢
  obtain ⟨gs1, rfl, hcs⟩ := owns_cells (l := [q1]) (by rw [← HX1.out.2.2.2.2.2.2.1]; exact ho.st) (by simp)
  obtain ⟨we1, e1, hwe1, he1, HZB1, HBn, HGZ⟩ := new_box wr1 (cells10 y1.ip y1.handler (.slice (some ⟨gs1, 0, none⟩) 1 c1) (.slice t2 0 c2) (.slice t3 y1.mem.length c3) y1.out y1.inp y1.read y1.status y1.code) 24
  have HBR1 := Lib.hid (HBB1.out.trans (hb.mono HBB1.out.size))
  have HBE1 := Lib.hid (HBR1.out.trans (HBn.out.mono HBR1.out.size))
  have KS1 := Lib.hid ((Stirred.of_below HBn.out []).cell List.not_mem_nil (hcs 0 q1 rfl))
  have KR1 := Lib.hid (hb.trans (HBn.out.mono hb.size))
  clear R ho hb hcs HYB HO4 HBn HGZ
  obtain ⟨wl2, gl2, hwl2, hgl2, HLB, HBL, HGL⟩ := new_box we1 #[.int .i64 2, .int .i64 0, .int .i64 2, .int .i64 limit, .int .i64 2, .int .i64 start, .int .i64 36, .int .i64 2, .int .i64 1, .int .i64 11, .int .i64 37, .int .i64 207, .int .i64 0] 3
  have HBA2 := Lib.hid (HBE1.out.trans (HBL.out.mono HBE1.out.size))
  have HOL := Lib.hid (owns_lit (n := 13) HLB.out [2, 0, 2, limit, 2, start, 36, 2, 1, 11, 37, 207, 0] rfl rfl (by decide) (Nat.le_refl _) (by decide))
  have C := Lib.hid (plain_any (Reads.of_owns HOL.out) (readsC_nil wl2) (readsC_nil wl2))
  rw [HX2.out.1] at C
  have KP2 := Lib.hid HBL.out
  clear HLB HBL HOL HGL
  go_wp2_with fail
  refine C.out.mono ?_
  rintro e wp2 hgm
  obtain ⟨s1, k1, s2, k2, s3, k3, rfl, ho, hb⟩ := GivesM.known hgm
  obtain ⟨wb2, b2, hwb2, hb2, HYB, HBn, HGB⟩ := new_box wp2 (cells10 x2.ip x2.handler (.slice s1 x2.stack.length k1) (.slice s2 x2.back.length k2) (.slice s3 x2.mem.length k3) x2.out x2.inp x2.read x2.status x2.code) 24
  have HBB2 := Lib.hid ((HBA2.out.trans (hb.mono HBA2.out.size)).trans (HBn.out.mono (Nat.le_trans HBA2.out.size hb.size)))
  have HO4 := Lib.hid (ho.below HBn.out)
  have R := Lib.hid (runs_any HO4.out.readsM HX2.out.2.1 HX2.out.2.2.1 HX2.out.2.2.2.1 (fun wc hbc => HE.out wc (HBB2.out.trans (hbc.mono HBB2.out.size))) 2000 (by decide) HX2.out.2.2.2.2.1)
  have KQ2 := Lib.hid (hb.trans (HBn.out.mono hb.size))
  clear C ho hb hgm HBn HGB
  go_wp2_with (refine ld_state (by rfl) _ rfl _ rfl _ _ HYB.out rfl ?_)
  refine R.out.mono ?_
  rintro e wr2 ⟨t1, c1, t2, c2, t3, c3, rfl, ho, hb⟩
  rw [show y2.stack.length = 1 by rw [HX2.out.2.2.2.2.2.2.1]; rfl, show y2.back.length = 0 by rw [HX2.out.2.2.2.2.2.2.2]; rfl] at ho ⊢
  obtain ⟨gs2, rfl, hcs⟩ := owns_cells (l := [q2]) (by rw [← HX2.out.2.2.2.2.2.2.1]; exact ho.st) (by simp)
  obtain ⟨we2, e2, hwe2, he2, HZB2, HBn, HGZ⟩ := new_box wr2 (cells10 y2.ip y2.handler (.slice (some ⟨gs2, 0, none⟩) 1 c1) (.slice t2 0 c2) (.slice t3 y2.mem.length c3) y2.out y2.inp y2.read y2.status y2.code) 24
  have HBR2 := Lib.hid (HBB2.out.trans (hb.mono HBB2.out.size))
  have HBE2 := Lib.hid (HBR2.out.trans (HBn.out.mono HBR2.out.size))
  have KS2 := Lib.hid ((Stirred.of_below HBn.out []).cell List.not_mem_nil (hcs 0 q2 rfl))
  have KR2 := Lib.hid (hb.trans (HBn.out.mono hb.size))
  clear R ho hb hcs HYB HO4 HBn HGZ
  have KK := Lib.hid ((KP2.out.trans (KQ2.out.mono KP2.out.size)).trans (KR2.out.mono (Nat.le_trans KP2.out.size KQ2.out.size)))
  have f8 : we2.cell? ⟨e1, 8, none⟩ = some (.int .i64 1) := by rw [← HX1.out.2.2.2.2.2.1]; exact whole_cell (box_on HZB1.out KK.out) rfl
  have g8 : we2.cell? ⟨e2, 8, none⟩ = some (.int .i64 1) := by rw [← HX2.out.2.2.2.2.2.1]; exact whole_cell HZB2.out rfl
  obtain ⟨_, f2⟩ : ∃ c, we2.cell? ⟨e1, 2, none⟩ = some (.slice (some ⟨gs1, 0, none⟩) 1 c) := ⟨_, whole_cell (box_on HZB1.out KK.out) rfl⟩
  obtain ⟨_, g2⟩ : ∃ c, we2.cell? ⟨e2, 2, none⟩ = some (.slice (some ⟨gs2, 0, none⟩) 1 c) := ⟨_, whole_cell HZB2.out rfl⟩
  obtain ⟨_, _, f3⟩ : ∃ a c, we2.cell? ⟨e1, 3, none⟩ = some (.slice a 0 c) := ⟨_, _, whole_cell (box_on HZB1.out KK.out) rfl⟩
  obtain ⟨_, _, g3⟩ : ∃ a c, we2.cell? ⟨e2, 3, none⟩ = some (.slice a 0 c) := ⟨_, _, whole_cell HZB2.out rfl⟩
  have f5 : we2.cell? ⟨gs1, 0, none⟩ = some (.int .i64 q1) := (Stirred.of_below KK.out []).cell List.not_mem_nil KS1.out
  have g5 : we2.cell? ⟨gs2, 0, none⟩ = some (.int .i64 q2) := KS2.out
  obtain ⟨hq1, hq2, hq0, hq9⟩ := HQ.out
  obtain ⟨h1, h2, h3, h4, h5, h6⟩ := HH.out
  obtain ⟨u, hu⟩ : ∃ u, q2 + step = u := ⟨_, rfl⟩
  obtain ⟨v, hv⟩ : ∃ v, u - 1 = v := ⟨_, rfl⟩
  have m1 : IntKind.i64.wrap (limit - start) = q2 := (IntWalk.i64_in _ (by omega)).trans hq2
  have m2 : IntKind.i64.wrap (q2 + step) = u := (IntWalk.i64_in _ (by omega)).trans hu
  have m3 : IntKind.i64.wrap (u - 1) = v := (IntWalk.i64_in _ (by omega)).trans hv
  have m4 : v.tdiv step = q1 := by rw [← hv, ← hu, ← hq2]; exact hq1
  have m5 : IntKind.i64.wrap q1 = q1 := IntWalk.i64_in _ (by omega)
  have m6 : ¬ step = 0 := by omega
  have m1' : RowKit.wrap64 (limit - start) = q2 := by unfold RowKit.wrap64; omega
  have m2' : RowKit.wrap64 (q2 + step) = u := by unfold RowKit.wrap64; omega
  have m3' : RowKit.wrap64 (u - 1) = v := by unfold RowKit.wrap64; omega
  have m5' : RowKit.wrap64 q1 = q1 := by unfold RowKit.wrap64; omega
  clear hq1 hq2 hq0 hq9 h1 h2 h3 h4 h5 h6 hu hv n1 n2 n3 n4 n5 n6 n7
  go_wp2_with fail
  go_quiet (fail)
  go_wp2
  go_ret
  exact ⟨rfl, Inn.below_drewN HBE2.out _ (Nat.le_refl _)⟩
theorem main (limit start step : Int) (W : World) (_ : (Lit.int .i64 limit).wf = true) (_ : (Lit.int .i64 start).wf = true) (_ : (Lit.int .i64 step).wf = true) (hE : ∀ wc, Below W.heap.size W wc → Tabs wc) :
    Calls Tryz.prog 11 #[.int .i64 limit, .int .i64 start, .int .i64 step] W (Yes W) := by
  by_cases c : limit < -1000
  · exact not_small limit start step W hE (.inl c)
  by_cases c1 : 1000 < limit
  · exact not_small limit start step W hE (.inr ⟨c, .inl c1⟩)
  by_cases c2 : start < -1000
  · exact not_small limit start step W hE (.inr ⟨c, .inr ⟨c1, .inl c2⟩⟩)
  by_cases c3 : limit ≤ start
  · exact not_small limit start step W hE (.inr ⟨c, .inr ⟨c1, .inr ⟨c2, .inl c3⟩⟩⟩)
  by_cases c4 : 60 < limit - start
  · exact not_small limit start step W hE (.inr ⟨c, .inr ⟨c1, .inr ⟨c2, .inr ⟨c3, .inl c4⟩⟩⟩⟩)
  by_cases c5 : step < 1
  · exact not_small limit start step W hE (.inr ⟨c, .inr ⟨c1, .inr ⟨c2, .inr ⟨c3, .inr ⟨c4, .inl c5⟩⟩⟩⟩⟩)
  by_cases c6 : 60 < step
  · exact not_small limit start step W hE (.inr ⟨c, .inr ⟨c1, .inr ⟨c2, .inr ⟨c3, .inr ⟨c4, .inr ⟨c5, c6⟩⟩⟩⟩⟩⟩)
  exact fine limit start step (by omega) (by omega) (by omega) (by omega) (by omega) (by omega) W hE
end Go.Proofs.YthnciokmomgfeaaGreatDoor.InnerLoops

namespace Go.Proofs.YthnciokmomgfeaaGreatDoor.innerLoops
open Inn Mach Mem
open Go.ChangeShapes Go.WideShapes Go.ChangeAt Go.RowKit
set_option linter.unusedVariables false
set_option linter.unusedSimpArgs false

theorem own : ownKnob Tryz.prog.godebug = none := by kernel_rfl
theorem laidOut : laidOutB Tryz.prog = true := by kernel_rfl
abbrev laid : List (String × DataW Unit) := laidL9
theorem laid_is : Rows.innerLoopsRow.laid = laid := rfl
set_option maxRecDepth 100000 in
theorem lifted (os : Os) (started : os.Started) (H : Type) (enc : TypeId × Value → H) :
    ReturnsInHanded {} Tryz.checked os 11 .any (fun w args => (Rows.innerLoopsSpec.pre enc Tryz.prog Tryz.f11 Rows.innerLoopsRow.domain false w args ∧ laidMetH Tryz.prog laid w) ∧ sizedMet enc Tryz.prog Tryz.f11 (OpenSpec.ofChange Rows.innerLoopsSpec) false w args)
      (Rows.innerLoopsSpec.post enc Tryz.prog Tryz.f11 false true false false) := by
  refine returnsInHanded_of_change_and (C := Tryz.checked) (X := fun w _ => laidMetH Tryz.prog laid w) (fun _ _ _ hh h => h.of_heap hh) own started (by kernel_rfl) Tryz.func11
    (Inn.witness_ref (enc := enc) (C := Tryz.checked) (os := os) (X := fun w _ => laidMetH Tryz.prog laid w) false (Inn.laidWorld os) #[.int .i64 0, .int .i64 0, .int .i64 0] 8 rfl (by kernel_rfl) (by kernel_rfl) (by kernel_rfl) (by kernel_rfl) (by kernel_rfl) (Inn.laidWorld_met os _)) ?_
  intro W base args ds gs before hval0 hW _ _ hL _
  have hval : ∀ (j : Nat) t v, Tryz.f11.params[j]? = some t → args[j]? = some v → Value.okWide Tryz.prog W .any base t v := hval0
  have hW' := hW
  obtain ⟨p, q, hA0, hV, rfl, hfz, hnd⟩ := hW
  have hA : DataW.TrodAll enc Tryz.prog W 0 (fun _ => true) true Tryz.f11.params.toList args.toList ds p := hA0
  rw [Tryz.params11] at hA hval
  obtain ⟨v0, vs0, d0, ds0, p0, q0, hargs, rfl, rfl, h0, r0⟩ := trodAll_cons hA
  obtain ⟨v1, vs1, d1, ds1, p1, q1, rfl, rfl, rfl, h1, r1⟩ := trodAll_cons r0
  obtain ⟨v2, vs2, d2, ds2, p2, q2, rfl, rfl, rfl, h2, r2⟩ := trodAll_cons r1
  obtain ⟨rfl, rfl, rfl⟩ := trodAll_nil r2
  obtain rfl : args = #[v0, v1, v2] := by cases args; simp_all
  obtain ⟨rfl, rfl⟩ := trodVars_none hV
  obtain ⟨a0, rfl, rfl, rfl, w0⟩ := open_int Tryz.underlying3 (hval 0 3 v0 rfl rfl) h0
  obtain ⟨a1, rfl, rfl, rfl, w1⟩ := open_int Tryz.underlying3 (hval 1 3 v1 rfl rfl) h1
  obtain ⟨a2, rfl, rfl, rfl, w2⟩ := open_int Tryz.underlying3 (hval 2 3 v2 rfl rfl) h2
  clear hA0 hval0
  simp only [List.append_nil] at hW'
  refine (InnerLoops.main a0 a1 a2 W w0 w1 w2 (tabs_on hL)).mono fun e W' ⟨he, hg⟩ => ?_
  subst he
  exact ⟨_, rfl, _, _, _, [], _, [], hW', (trodAll_cons_mk (shut_bool Tryz.underlying4 _) trodAll_mk0), (trodAll_cons_mk (shut_int Tryz.underlying3 w0) (trodAll_cons_mk (shut_int Tryz.underlying3 w1) (trodAll_cons_mk (shut_int Tryz.underlying3 w2) trodAll_mk0))), rfl, hg.frame _, fun h => by cases h⟩

theorem over : Rows.innerLoopsRow.holds Tryz.pinned (OpenSpec.ofChange Rows.innerLoopsSpec) :=
  OpenClaim.holds_of_wide 11 Tryz.f11 rfl rfl rfl rfl rfl rfl rfl ⟨rfl, rfl, rfl, rfl, rfl⟩ rfl rfl rfl rfl rfl (by kernel_rfl) Tryz.func11 (by kernel_rfl)
    (of_decide_eq_true (by kernel_rfl)) (by unfold Func.isWrapper; first | (rw [if_pos (by decide +kernel)]; kernel_rfl) | (rw [if_neg (by decide +kernel)]; exact ⟨rfl, rfl⟩))
    (fun os started H enc _ => lifted os started H enc)

theorem proved : Rows.InnerLoopsCardSaid :=
  Claim7.holds_tied_plain_at .later [] Rows.innerLoopsCard.laidKinds true Rows.innerLoopsCard.stood.harness Rows.innerLoopsCard.stood.looks
    over (fun _ h => by cases h) (by kernel_rfl) (fun _ h => by cases h) innerLoops_row_tie rfl ⟨rfl, rfl⟩ (by kernel_rfl) rfl
    (fun f fn hf hfn => by
      obtain rfl : f = 11 := Option.some.inj ((show Tryz.prog.funcNamed "holloway/hollowaylaw9.InnerLoops" = some 11 by kernel_rfl).symm.trans hf) |>.symm
      obtain rfl : fn = Tryz.f11 := (Option.some.inj (Tryz.func11.symm.trans hfn)).symm
      exact ⟨by kernel_rfl, fun j t ht => by
        rw [Tryz.params11] at ht
        have hm : t ∈ [3, 3, 3] := by
          rcases Array.mem_of_getElem? ht with h
          simpa using h
        simp only [List.mem_cons, List.not_mem_nil, or_false] at hm
        rcases hm with rfl | rfl | rfl
        · exact (show Tryz.prog.wantsStandIn 3 = false by kernel_rfl)
        · exact (show Tryz.prog.wantsStandIn 3 = false by kernel_rfl)
        · exact (show Tryz.prog.wantsStandIn 3 = false by kernel_rfl)⟩)
    (by kernel_rfl)
#print axioms proved
end Go.Proofs.YthnciokmomgfeaaGreatDoor.innerLoops
