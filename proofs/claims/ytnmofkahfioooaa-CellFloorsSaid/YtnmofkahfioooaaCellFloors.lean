/- What is proved: hollowaylaw1.CellFloors answers true for every input, and its arguments read afterwards as before. -/
import Derived.Test.YtnmofkahfioooaaRows
import Derived.WalkKit
import Derived.ProofKit
import Derived.OpenShut
import Derived.Test.YtnmofkahfioooaaAlive1
namespace Go.Proofs.Ytnmofkahfioooaa.cellFloors
open Go.ChangeShapes Go.WideShapes Go.ChangeAt Go.RowKit
set_option linter.unusedVariables false

theorem own : ownKnob Try.prog.godebug = none := by kernel_rfl
theorem grown_drewN (w : World) : ∀ n, Grown w (w.drewN n)
  | 0 => Grown.refl w
  | n + 1 => by rw [← World.drew_drewN]; exact (grown_drewN w n).drew

theorem floors1 {a b : Int} (ha : Cell.In a) : wrap64 (wrap64 (Cell.fq a b * b) + Cell.fr a b) = a := by
  have e : a = a.fdiv b * b + a.fmod b := by have := Int.fmod_add_mul_fdiv a b; rw [Int.mul_comm] at this; omega
  unfold Cell.fq Cell.fr
  rw [Cell.wrap_mul_left]
  have h : wrap64 (wrap64 (a.fdiv b * b) + a.fmod b) = wrap64 (a.fdiv b * b + a.fmod b) := by unfold wrap64; omega
  rw [h, ← e]; exact Cell.wrap_of ha
theorem floors2 {a b : Int} (h : 0 < b) : 0 ≤ Cell.fr a b ∧ Cell.fr a b < b := Cell.fmod_pos h
theorem floors3 {a b : Int} (h : b < 0) : b < Cell.fr a b ∧ Cell.fr a b ≤ 0 := Cell.fmod_neg h
set_option maxHeartbeats 1000000 in
theorem core (a b : Int) (ia : Cell.In a) (ib : Cell.In b) (hz' : (b == 0) = false) (h : 0 < Cell.fr a b ∧ 0 < b ∧ Cell.fr a b < b ∨ Cell.fr a b < 0 ∧ b < 0 ∧ b < Cell.fr a b ∨ Cell.fr a b = 0 ∧ 0 < b ∨ Cell.fr a b = 0 ∧ b < 0) (w : World) :
    Calls Try.prog 4 #[.int .i64 a, .int .i64 b] w fun e w' => e = .returned (.bool true) ∧ Grown w w' := by
  have k1 : (wrap64 (wrap64 (Cell.fq a b * b) + Cell.fr a b) == a) = true := by rw [floors1 ia]; simp
  have c1 : ∀ w : World, Calls Try.prog 14 #[.int .i64 a, .int .i64 b] w fun e w' => e = .returned (.tuple #[.int .i64 (Cell.fq a b), .int .i64 (Cell.fr a b), .bool true]) ∧ ∃ n, w' = w.drewN n := fun w => Cell.floor_any a b hz' ib w
  generalize Cell.fq a b = q at *
  generalize Cell.fr a b = r at *
  have C1 := Lib.hid c1
  clear c1 ia ib
  rcases h with ⟨h1, h2, h3⟩ | ⟨h1, h2, h3⟩ | ⟨rfl, h2⟩ | ⟨rfl, h2⟩
  all_goals
    (try simp only [Int.add_zero] at k1)
    go_enter Try.func4, Try.ntmps4
    go_wp2_with (first | (go_at_call 9; refine (Cell.alive_any _).mono ?_; rintro e w' ⟨rfl, n0, rfl⟩) | (go_at_call 14; refine (C1.out _).mono ?_; rintro e w' ⟨rfl, n1, rfl⟩))
    go_ret
    exact ⟨rfl, grown_drewN _ _⟩
set_option maxHeartbeats 1000000 in
theorem walk (a0 : Int) (a1 : Int) (w0 : (Lit.int .i64 a0).wf = true) (w1 : (Lit.int .i64 a1).wf = true) (w : World) :
    Calls Try.prog 4 #[.int .i64 a0, .int .i64 a1] w fun e w' => e = .returned (.bool true) ∧ Grown w w' := by
  have i0 := Cell.in_of_wf w0
  have i1 := Cell.in_of_wf w1
  by_cases hz : a1 = 0
  · subst hz
    go_enter Try.func4, Try.ntmps4
    go_wp2_with (first | (go_at_call 9; refine (Cell.alive_any _).mono ?_; rintro e w' ⟨rfl, n0, rfl⟩))
    go_ret
    exact ⟨rfl, grown_drewN _ _⟩
  · have hz' : (a1 == 0) = false := by simpa using hz
    refine core a0 a1 i0 i1 hz' ?_ w
    rcases Int.lt_or_gt_of_ne hz with h | h
    · have := floors3 (a := a0) h; omega
    · have := floors2 (a := a0) h; omega


set_option maxRecDepth 100000 in
theorem lifted (os : Os) (started : os.Started) (H : Type) (enc : TypeId × Value → H) :
    ReturnsInHanded {} Try.checked os 4 .any (Rows.cellFloorsSpec.pre6 enc Try.prog Try.f4 Rows.cellFloorsRow.domain false) (Rows.cellFloorsSpec.post enc Try.prog Try.f4 false true false false) := by
  refine returnsInHanded_of_change (C := Try.checked) own started (by kernel_rfl) Try.func4
    (ChangeSpec.witness6 (enc := enc) (C := Try.checked) false ⟨#[], #[.int .i64 0, .int .i64 0], []⟩ 8 (by kernel_rfl) (by kernel_rfl) (by kernel_rfl) (by kernel_rfl)) ?_
  intro W base args ds gs before hval0 hW hcnd _
  have hval : ∀ (j : Nat) t v, Try.f4.params[j]? = some t → args[j]? = some v → Value.okWide Try.prog W .any base t v := hval0
  have hW' := hW
  obtain ⟨p, q, hA0, hV, rfl, hfz, hnd⟩ := hW
  have hA : DataW.TrodAll enc Try.prog W 0 (fun _ => true) true Try.f4.params.toList args.toList ds p := hA0
  rw [Try.params4] at hA hval
  obtain ⟨v0, vs0, d0, ds0, p0, q0, hargs, rfl, rfl, h0, r0⟩ := trodAll_cons hA
  obtain ⟨v1, vs1, d1, ds1, p1, q1, rfl, rfl, rfl, h1, r1⟩ := trodAll_cons r0
  obtain ⟨rfl, rfl, rfl⟩ := trodAll_nil r1
  obtain rfl : args = #[v0, v1] := by cases args; simp_all
  obtain ⟨rfl, rfl⟩ := trodVars_none hV
  obtain ⟨a0, rfl, rfl, rfl, w0⟩ := open_int Try.underlying3 (hval 0 3 v0 rfl rfl) h0
  obtain ⟨a1, rfl, rfl, rfl, w1⟩ := open_int Try.underlying3 (hval 1 3 v1 rfl rfl) h1
  clear hA0 hval0
  simp only [List.append_nil] at hW'
  refine (walk a0 a1 w0 w1 W).mono fun e W' ⟨he, hg⟩ => ?_
  subst he
  exact ⟨_, rfl, post_of_same (pa := []) (pv := []) hW' (fun _ _ _ => (trodAll_cons_mk (shut_bool Try.underlying4 _) trodAll_mk0)) (fun sp _ => (trodAll_cons_mk (shut_int Try.underlying3 w0) (trodAll_cons_mk (shut_int Try.underlying3 w1) trodAll_mk0))) (fun _ _ => rfl) rfl
    (hg.frame _) hg.2.1 (ok_one (by kernel_rfl) rfl (okWide_bool_mk Try.underlying4 _))⟩

theorem over : Rows.cellFloorsRow.holds Try.pinned (OpenSpec.ofChange Rows.cellFloorsSpec) :=
  OpenClaim.holds_of_wide 4 Try.f4 rfl rfl rfl rfl rfl rfl rfl ⟨rfl, rfl, rfl, rfl, rfl⟩ rfl rfl rfl rfl rfl (by kernel_rfl) Try.func4 (by kernel_rfl)
    (of_decide_eq_true (by kernel_rfl)) (by unfold Func.isWrapper; first | (rw [if_pos (by decide +kernel)]; kernel_rfl) | (rw [if_neg (by decide +kernel)]; exact ⟨rfl, rfl⟩))
    (fun os started H enc _ => lifted os started H enc)

theorem proved : Rows.CellFloorsSaid :=
  over
#print axioms proved
end Go.Proofs.Ytnmofkahfioooaa.cellFloors
