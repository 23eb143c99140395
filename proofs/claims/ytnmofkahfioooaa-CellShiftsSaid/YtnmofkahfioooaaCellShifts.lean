/- What is proved: hollowaylaw1.CellShifts answers true for every input, and its arguments read afterwards as before. -/
import Derived.Test.YtnmofkahfioooaaRows
import Derived.WalkKit
import Derived.ProofKit
import Derived.OpenShut
import Derived.Test.YtnmofkahfioooaaAlive1
namespace Go.Proofs.Ytnmofkahfioooaa.cellShifts
open Go.ChangeShapes Go.WideShapes Go.ChangeAt Go.RowKit
set_option linter.unusedVariables false

theorem own : ownKnob Try.prog.godebug = none := by kernel_rfl
theorem grown_drewN (w : World) : ∀ n, Grown w (w.drewN n)
  | 0 => Grown.refl w
  | n + 1 => by rw [← World.drew_drewN]; exact (grown_drewN w n).drew

theorem shl_shl {a m n : Int} (hm : 0 ≤ m) (hn : 0 ≤ n) (h : m + n ≤ 63) : Cell.shl (Cell.shl a m) n = Cell.shl a (m + n) := by
  unfold Cell.shl
  rw [if_neg (by omega), if_neg (by omega), if_neg (by omega), Cell.wrap_mul_left, show (m + n).toNat = m.toNat + n.toNat by omega, Int.pow_add, Int.mul_assoc]
theorem uns_div {a : Int} {k : Nat} : Cell.uns (wrap64 (Cell.uns a / 2 ^ k)) = Cell.uns a / 2 ^ k := by
  rw [Cell.uns_wrap]
  have h := Cell.uns_lt a
  have hp : (0 : Int) < 2 ^ k := Int.pow_pos (by decide)
  have h1 := Int.ediv_nonneg h.1 (Int.le_of_lt hp)
  have h2 := Int.lt_of_le_of_lt (Int.ediv_le_self (2 ^ k) h.1) h.2
  generalize Cell.uns a / 2 ^ k = q at *
  unfold Cell.uns; omega
theorem shr_shr {a m n : Int} (hm : 0 ≤ m) (hn : 0 ≤ n) (h : m + n ≤ 63) : Cell.shr (Cell.shr a m) n = Cell.shr a (m + n) := by
  unfold Cell.shr
  rw [if_neg (by omega), if_neg (by omega), if_neg (by omega), uns_div, show (m + n).toNat = m.toNat + n.toNat by omega, Int.pow_add, Int.ediv_ediv_of_nonneg (Int.pow_nonneg (by decide))]
theorem left_any (a b : Int) (ib : Cell.In b) (w : World) : Calls Try.prog 10 #[.int .i64 21, .int .i64 a, .int .i64 b] w fun e w' => e = .returned (.tuple #[.int .i64 (Cell.shl a b), .bool true]) ∧ ∃ n, w' = w.drewN n := Cell.two_any 21 a b ib w
theorem right_any (a b : Int) (ib : Cell.In b) (w : World) : Calls Try.prog 10 #[.int .i64 22, .int .i64 a, .int .i64 b] w fun e w' => e = .returned (.tuple #[.int .i64 (Cell.shr a b), .bool true]) ∧ ∃ n, w' = w.drewN n := Cell.two_any 22 a b ib w
set_option maxHeartbeats 1000000 in
theorem walk (a0 : Int) (a1 : Int) (a2 : Int) (w0 : (Lit.int .i64 a0).wf = true) (w1 : (Lit.int .i64 a1).wf = true) (w2 : (Lit.int .i64 a2).wf = true) (w : World) :
    Calls Try.prog 7 #[.int .i64 a0, .int .i64 a1, .int .i64 a2] w fun e w' => e = .returned (.bool true) ∧ Grown w w' := by
  by_cases hall : 0 ≤ a1 ∧ 0 ≤ a2 ∧ a1 + a2 ≤ 63
  · obtain ⟨h1, h2, h3⟩ := hall
    have e1 : (Cell.shl (Cell.shl a0 a1) a2 == Cell.shl a0 (a1 + a2)) = true := by rw [shl_shl h1 h2 h3]; simp
    have e2 : (Cell.shr (Cell.shr a0 a1) a2 == Cell.shr a0 (a1 + a2)) = true := by rw [shr_shr h1 h2 h3]; simp
    clear w0 w1 w2
    go_enter Try.func7, Try.ntmps7
    go_wp2_with (first | (go_at_call 9; refine (Cell.alive_any _).mono ?_; rintro e w' ⟨rfl, n0, rfl⟩) | (go_at_call 10; first | ((with_reducible refine (left_any _ _ (by unfold Cell.In; omega) _).mono ?_); rintro e w' ⟨rfl, n1, rfl⟩) | ((with_reducible refine (right_any _ _ (by unfold Cell.In; omega) _).mono ?_); rintro e w' ⟨rfl, n1, rfl⟩)))
    go_ret
    exact ⟨rfl, grown_drewN _ _⟩
  · have i1 := Cell.in_of_wf w1
    have i2 := Cell.in_of_wf w2
    unfold Cell.In at i1 i2
    have hc : a1 < 0 ∨ (0 ≤ a1 ∧ a2 < 0) ∨ (0 ≤ a1 ∧ 0 ≤ a2 ∧ 63 < a1 + a2 ∧ a1 + a2 ≤ 9223372036854775807) ∨ (0 ≤ a1 ∧ 0 ≤ a2 ∧ wrap64 (a1 + a2) ≤ 63 ∧ 63 < a1) ∨ (0 ≤ a1 ∧ 0 ≤ a2 ∧ wrap64 (a1 + a2) ≤ 63 ∧ a1 ≤ 63 ∧ 63 < a2) := by
      unfold wrap64; omega
    clear hall
    rcases hc with h | ⟨h, h'⟩ | ⟨h, h', h2, h3⟩ | ⟨h, h', h2, h3⟩ | ⟨h, h', h2, h3, h4⟩
    all_goals
      go_enter Try.func7, Try.ntmps7
      go_wp2_with (first | (go_at_call 9; refine (Cell.alive_any _).mono ?_; rintro e w' ⟨rfl, n0, rfl⟩))
      go_ret
      exact ⟨rfl, grown_drewN _ _⟩


set_option maxRecDepth 100000 in
theorem lifted (os : Os) (started : os.Started) (H : Type) (enc : TypeId × Value → H) :
    ReturnsInHanded {} Try.checked os 7 .any (Rows.cellShiftsSpec.pre6 enc Try.prog Try.f7 Rows.cellShiftsRow.domain false) (Rows.cellShiftsSpec.post enc Try.prog Try.f7 false true false false) := by
  refine returnsInHanded_of_change (C := Try.checked) own started (by kernel_rfl) Try.func7
    (ChangeSpec.witness6 (enc := enc) (C := Try.checked) false ⟨#[], #[.int .i64 0, .int .i64 0, .int .i64 0], []⟩ 8 (by kernel_rfl) (by kernel_rfl) (by kernel_rfl) (by kernel_rfl)) ?_
  intro W base args ds gs before hval0 hW hcnd _
  have hval : ∀ (j : Nat) t v, Try.f7.params[j]? = some t → args[j]? = some v → Value.okWide Try.prog W .any base t v := hval0
  have hW' := hW
  obtain ⟨p, q, hA0, hV, rfl, hfz, hnd⟩ := hW
  have hA : DataW.TrodAll enc Try.prog W 0 (fun _ => true) true Try.f7.params.toList args.toList ds p := hA0
  rw [Try.params7] at hA hval
  obtain ⟨v0, vs0, d0, ds0, p0, q0, hargs, rfl, rfl, h0, r0⟩ := trodAll_cons hA
  obtain ⟨v1, vs1, d1, ds1, p1, q1, rfl, rfl, rfl, h1, r1⟩ := trodAll_cons r0
  obtain ⟨v2, vs2, d2, ds2, p2, q2, rfl, rfl, rfl, h2, r2⟩ := trodAll_cons r1
  obtain ⟨rfl, rfl, rfl⟩ := trodAll_nil r2
  obtain rfl : args = #[v0, v1, v2] := by cases args; simp_all
  obtain ⟨rfl, rfl⟩ := trodVars_none hV
  obtain ⟨a0, rfl, rfl, rfl, w0⟩ := open_int Try.underlying3 (hval 0 3 v0 rfl rfl) h0
  obtain ⟨a1, rfl, rfl, rfl, w1⟩ := open_int Try.underlying3 (hval 1 3 v1 rfl rfl) h1
  obtain ⟨a2, rfl, rfl, rfl, w2⟩ := open_int Try.underlying3 (hval 2 3 v2 rfl rfl) h2
  clear hA0 hval0
  simp only [List.append_nil] at hW'
  refine (walk a0 a1 a2 w0 w1 w2 W).mono fun e W' ⟨he, hg⟩ => ?_
  subst he
  exact ⟨_, rfl, post_of_same (pa := []) (pv := []) hW' (fun _ _ _ => (trodAll_cons_mk (shut_bool Try.underlying4 _) trodAll_mk0)) (fun sp _ => (trodAll_cons_mk (shut_int Try.underlying3 w0) (trodAll_cons_mk (shut_int Try.underlying3 w1) (trodAll_cons_mk (shut_int Try.underlying3 w2) trodAll_mk0)))) (fun _ _ => rfl) rfl
    (hg.frame _) hg.2.1 (ok_one (by kernel_rfl) rfl (okWide_bool_mk Try.underlying4 _))⟩

theorem over : Rows.cellShiftsRow.holds Try.pinned (OpenSpec.ofChange Rows.cellShiftsSpec) :=
  OpenClaim.holds_of_wide 7 Try.f7 rfl rfl rfl rfl rfl rfl rfl ⟨rfl, rfl, rfl, rfl, rfl⟩ rfl rfl rfl rfl rfl (by kernel_rfl) Try.func7 (by kernel_rfl)
    (of_decide_eq_true (by kernel_rfl)) (by unfold Func.isWrapper; first | (rw [if_pos (by decide +kernel)]; kernel_rfl) | (rw [if_neg (by decide +kernel)]; exact ⟨rfl, rfl⟩))
    (fun os started H enc _ => lifted os started H enc)

theorem proved : Rows.CellShiftsSaid :=
  over
#print axioms proved
end Go.Proofs.Ytnmofkahfioooaa.cellShifts
