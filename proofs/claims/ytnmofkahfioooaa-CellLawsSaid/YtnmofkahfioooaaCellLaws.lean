/- What is proved: hollowaylaw1.CellLaws answers true for every input, and its arguments read afterwards as before. -/
import Derived.Test.YtnmofkahfioooaaRows
import Derived.WalkKit
import Derived.ProofKit
import Derived.OpenShut
import Derived.Test.YtnmofkahfioooaaAlive1
namespace Go.Proofs.Ytnmofkahfioooaa.cellLaws
open Go.ChangeShapes Go.WideShapes Go.ChangeAt Go.RowKit
set_option linter.unusedVariables false

theorem own : ownKnob Try.prog.godebug = none := by kernel_rfl
theorem grown_drewN (w : World) : ∀ n, Grown w (w.drewN n)
  | 0 => Grown.refl w
  | n + 1 => by rw [← World.drew_drewN]; exact (grown_drewN w n).drew

theorem and_any (a b : Int) (ib : Cell.In b) (w : World) : Calls Try.prog 10 #[.int .i64 17, .int .i64 a, .int .i64 b] w fun e w' => e = .returned (.tuple #[.int .i64 (bits .and .i64 a b), .bool true]) ∧ ∃ n, w' = w.drewN n := Cell.two_any 17 a b ib w
theorem or_any (a b : Int) (ib : Cell.In b) (w : World) : Calls Try.prog 10 #[.int .i64 18, .int .i64 a, .int .i64 b] w fun e w' => e = .returned (.tuple #[.int .i64 (bits .or .i64 a b), .bool true]) ∧ ∃ n, w' = w.drewN n := Cell.two_any 18 a b ib w
theorem xor_any (a b : Int) (ib : Cell.In b) (w : World) : Calls Try.prog 10 #[.int .i64 19, .int .i64 a, .int .i64 b] w fun e w' => e = .returned (.tuple #[.int .i64 (bits .xor .i64 a b), .bool true]) ∧ ∃ n, w' = w.drewN n := Cell.two_any 19 a b ib w
theorem add_any (a b : Int) (ib : Cell.In b) (w : World) : Calls Try.prog 10 #[.int .i64 11, .int .i64 a, .int .i64 b] w fun e w' => e = .returned (.tuple #[.int .i64 (wrap64 (a + b)), .bool true]) ∧ ∃ n, w' = w.drewN n := Cell.two_any 11 a b ib w
theorem left_any (a b : Int) (ib : Cell.In b) (w : World) : Calls Try.prog 10 #[.int .i64 21, .int .i64 a, .int .i64 b] w fun e w' => e = .returned (.tuple #[.int .i64 (Cell.shl a b), .bool true]) ∧ ∃ n, w' = w.drewN n := Cell.two_any 21 a b ib w
theorem right_any (a b : Int) (ib : Cell.In b) (w : World) : Calls Try.prog 10 #[.int .i64 22, .int .i64 a, .int .i64 b] w fun e w' => e = .returned (.tuple #[.int .i64 (Cell.shr a b), .bool true]) ∧ ∃ n, w' = w.drewN n := Cell.two_any 22 a b ib w
theorem less_any (a b : Int) (ib : Cell.In b) (w : World) : Calls Try.prog 10 #[.int .i64 24, .int .i64 a, .int .i64 b] w fun e w' => e = .returned (.tuple #[.int .i64 (Cell.flag (decide (a < b))), .bool true]) ∧ ∃ n, w' = w.drewN n := Cell.two_any 24 a b ib w
theorem eq_any (a b : Int) (ib : Cell.In b) (w : World) : Calls Try.prog 10 #[.int .i64 23, .int .i64 a, .int .i64 b] w fun e w' => e = .returned (.tuple #[.int .i64 (Cell.flag (decide (a = b))), .bool true]) ∧ ∃ n, w' = w.drewN n := Cell.two_any 23 a b ib w
theorem not_any (a : Int) (ib : Cell.In a) (w : World) : Calls Try.prog 12 #[.int .i64 20, .int .i64 a] w fun e w' => e = .returned (.tuple #[.int .i64 (-1 - a), .bool true]) ∧ ∃ n, w' = w.drewN n := Cell.one_any 20 a ib w
theorem neg_any (a : Int) (ib : Cell.In a) (w : World) : Calls Try.prog 12 #[.int .i64 16, .int .i64 a] w fun e w' => e = .returned (.tuple #[.int .i64 (wrap64 (-a)), .bool true]) ∧ ∃ n, w' = w.drewN n := Cell.one_any 16 a ib w
theorem laws1 (a b : Int) : wrap64 (bits .and .i64 a b + bits .or .i64 a b) = wrap64 (a + b) := by
  rw [Cell.bits_and, Cell.bits_or]
  have h := Cell.and_add_or (BitVec.ofInt 64 a).toNat (BitVec.ofInt 64 b).toNat
  rw [← BitVec.toNat_and, ← BitVec.toNat_or] at h
  have ha := @BitVec.toNat_ofInt 64 a
  have hb := @BitVec.toNat_ofInt 64 b
  rw [BitVec.toInt_eq_toNat_cond, BitVec.toInt_eq_toNat_cond]
  unfold wrap64
  split <;> split <;> omega
theorem laws2 (a b : Int) : bits .xor .i64 a b = wrap64 (bits .or .i64 a b - bits .and .i64 a b) := by
  rw [← Cell.wrap_of (Cell.bits_in .xor a b), Cell.bits_and, Cell.bits_or, Cell.bits_xor]
  have h := Cell.xor_add_and (BitVec.ofInt 64 a).toNat (BitVec.ofInt 64 b).toNat
  rw [← BitVec.toNat_and, ← BitVec.toNat_or, ← BitVec.toNat_xor] at h
  rw [BitVec.toInt_eq_toNat_cond, BitVec.toInt_eq_toNat_cond, BitVec.toInt_eq_toNat_cond]
  unfold wrap64
  split <;> split <;> split <;> omega
theorem laws3 (a b : Int) : wrap64 (wrap64 (Cell.flag (decide (a < b)) + Cell.flag (decide (a = b))) + Cell.flag (decide (b < a))) = -1 := by
  have h : a < b ∨ a = b ∨ b < a := by omega
  unfold Cell.flag
  rcases h with h | h | h
  · simp [h, show ¬ a = b by omega, show ¬ b < a by omega, wrap64]
  · simp [h, wrap64]
  · simp [h, show ¬ a = b by omega, show ¬ a < b by omega, wrap64]
theorem laws4 {a n : Int} (h0 : 0 ≤ n) (h1 : n ≤ 63) : Cell.shl a n = wrap64 (IntKind.u64.wrap (IntKind.u64.wrap a * 2 ^ n.toNat)) := by
  unfold Cell.shl; rw [if_neg (by omega), Cell.uns_of, Cell.uns_of, Cell.wrap_uns, ← Cell.wrap_mul_left (Cell.uns a), Cell.wrap_uns, Cell.wrap_mul_left]
theorem laws5 {a n : Int} (h0 : 0 ≤ n) (h1 : n ≤ 63) : IntKind.u64.wrap (Cell.shr (Cell.shl a n) n) = IntKind.u64.wrap (IntKind.u64.wrap a * 2 ^ n.toNat) / 2 ^ n.toNat := by
  rw [laws4 h0 h1]
  unfold Cell.shr; rw [if_neg (by omega), Cell.uns_wrap]
  simp only [Cell.uns_of]
  have e : Cell.uns (Cell.uns (Cell.uns a * 2 ^ n.toNat)) = Cell.uns (Cell.uns a * 2 ^ n.toNat) := by unfold Cell.uns; omega
  rw [e, Cell.uns_wrap]
  have h := Cell.uns_lt (Cell.uns a * 2 ^ n.toNat)
  have hp : (0 : Int) < 2 ^ n.toNat := Int.pow_pos (by decide)
  have g1 := Int.ediv_nonneg h.1 (Int.le_of_lt hp)
  have g2 := Int.lt_of_le_of_lt (Int.ediv_le_self (2 ^ n.toNat) h.1) h.2
  generalize Cell.uns (Cell.uns a * 2 ^ n.toNat) / 2 ^ n.toNat = q at *
  unfold Cell.uns; omega
set_option maxHeartbeats 1000000 in
set_option maxRecDepth 100000 in
theorem walk (a0 : Int) (a1 : Int) (a2 : Int) (w0 : (Lit.int .i64 a0).wf = true) (w1 : (Lit.int .i64 a1).wf = true) (w2 : (Lit.int .i64 a2).wf = true) (w : World) :
    Calls Try.prog 5 #[.int .i64 a0, .int .i64 a1, .int .i64 a2] w fun e w' => e = .returned (.bool true) ∧ Grown w w' := by
  have i0 := Cell.in_of_wf w0
  have i1 := Cell.in_of_wf w1
  have i2 := Cell.in_of_wf w2
  have b1 := Cell.bits_in .and a0 a1
  have b2 := Cell.bits_in .or a0 a1
  have f1 : (wrap64 (bits .and .i64 a0 a1 + bits .or .i64 a0 a1) != wrap64 (a0 + a1)) = false := by rw [laws1]; simp
  have f2 : (bits .xor .i64 a0 a1 != wrap64 (bits .or .i64 a0 a1 - bits .and .i64 a0 a1)) = false := by rw [laws2]; simp
  have f3 : (-1 - a0 != wrap64 (-1 - a0)) = false := by rw [Cell.not_sub i0]; simp
  have f5 : (wrap64 (wrap64 (Cell.flag (decide (a0 < a1)) + Cell.flag (decide (a0 = a1))) + Cell.flag (decide (a1 < a0))) != -1) = false := by rw [laws3]; simp
  have f6 : (Cell.flag false != 0) = false := by decide
  by_cases hn : a2 < 0
  · have e1 : Cell.shl a0 a2 = 0 := by unfold Cell.shl; rw [if_pos (by omega)]
    have e2 : Cell.shr 0 a2 = 0 := by unfold Cell.shr; rw [if_pos (by omega)]
    clear w0 w1 w2
    go_enter Try.func5, Try.ntmps5
    go_wp2_with (first | (go_at_call 9; refine (Cell.alive_any _).mono ?_; rintro e w' ⟨rfl, n0, rfl⟩) | (go_at_call 10; first | ((with_reducible refine (and_any _ _ (by assumption) _).mono ?_); rintro e w' ⟨rfl, n1, rfl⟩) | ((with_reducible refine (or_any _ _ (by assumption) _).mono ?_); rintro e w' ⟨rfl, n1, rfl⟩) | ((with_reducible refine (xor_any _ _ (by assumption) _).mono ?_); rintro e w' ⟨rfl, n1, rfl⟩) | ((with_reducible refine (add_any _ _ (by assumption) _).mono ?_); rintro e w' ⟨rfl, n1, rfl⟩) | ((with_reducible refine (left_any _ _ (by assumption) _).mono ?_); rintro e w' ⟨rfl, n1, rfl⟩) | ((with_reducible refine (right_any _ _ (by assumption) _).mono ?_); rintro e w' ⟨rfl, n1, rfl⟩) | ((with_reducible refine (less_any _ _ (by assumption) _).mono ?_); rintro e w' ⟨rfl, n1, rfl⟩) | ((with_reducible refine (eq_any _ _ (by assumption) _).mono ?_); rintro e w' ⟨rfl, n1, rfl⟩)) | (go_at_call 12; first | ((with_reducible refine (not_any _ (by assumption) _).mono ?_); rintro e w' ⟨rfl, n1, rfl⟩) | ((with_reducible refine (neg_any _ (by assumption) _).mono ?_); rintro e w' ⟨rfl, n1, rfl⟩)) | (go_at_call 18; refine (Cell.flag_any _ _).mono ?_; rintro e w' ⟨rfl, rfl⟩))
    go_ret
    exact ⟨rfl, grown_drewN _ _⟩
  · by_cases hm : 63 < a2
    · have e1 : Cell.shl a0 a2 = 0 := by unfold Cell.shl; rw [if_pos (by omega)]
      have e2 : Cell.shr 0 a2 = 0 := by unfold Cell.shr; rw [if_pos (by omega)]
      clear w0 w1 w2
      go_enter Try.func5, Try.ntmps5
      go_wp2_with (first | (go_at_call 9; refine (Cell.alive_any _).mono ?_; rintro e w' ⟨rfl, n0, rfl⟩) | (go_at_call 10; first | ((with_reducible refine (and_any _ _ (by assumption) _).mono ?_); rintro e w' ⟨rfl, n1, rfl⟩) | ((with_reducible refine (or_any _ _ (by assumption) _).mono ?_); rintro e w' ⟨rfl, n1, rfl⟩) | ((with_reducible refine (xor_any _ _ (by assumption) _).mono ?_); rintro e w' ⟨rfl, n1, rfl⟩) | ((with_reducible refine (add_any _ _ (by assumption) _).mono ?_); rintro e w' ⟨rfl, n1, rfl⟩) | ((with_reducible refine (left_any _ _ (by assumption) _).mono ?_); rintro e w' ⟨rfl, n1, rfl⟩) | ((with_reducible refine (right_any _ _ (by assumption) _).mono ?_); rintro e w' ⟨rfl, n1, rfl⟩) | ((with_reducible refine (less_any _ _ (by assumption) _).mono ?_); rintro e w' ⟨rfl, n1, rfl⟩) | ((with_reducible refine (eq_any _ _ (by assumption) _).mono ?_); rintro e w' ⟨rfl, n1, rfl⟩)) | (go_at_call 12; first | ((with_reducible refine (not_any _ (by assumption) _).mono ?_); rintro e w' ⟨rfl, n1, rfl⟩) | ((with_reducible refine (neg_any _ (by assumption) _).mono ?_); rintro e w' ⟨rfl, n1, rfl⟩)) | (go_at_call 18; refine (Cell.flag_any _ _).mono ?_; rintro e w' ⟨rfl, rfl⟩))
      go_ret
      exact ⟨rfl, grown_drewN _ _⟩
    · have e1 : (Cell.shl a0 a2 == wrap64 (IntKind.u64.wrap (IntKind.u64.wrap a0 * 2 ^ a2.toNat))) = true := by rw [laws4 (by omega) (by omega)]; simp
      have e2 : (IntKind.u64.wrap (Cell.shr (Cell.shl a0 a2) a2) == IntKind.u64.wrap (IntKind.u64.wrap a0 * 2 ^ a2.toNat) / 2 ^ a2.toNat) = true := by rw [laws5 (by omega) (by omega)]; simp
      clear w0 w1 w2
      go_enter Try.func5, Try.ntmps5
      go_wp2_with (first | (go_at_call 9; refine (Cell.alive_any _).mono ?_; rintro e w' ⟨rfl, n0, rfl⟩) | (go_at_call 10; first | ((with_reducible refine (and_any _ _ (by assumption) _).mono ?_); rintro e w' ⟨rfl, n1, rfl⟩) | ((with_reducible refine (or_any _ _ (by assumption) _).mono ?_); rintro e w' ⟨rfl, n1, rfl⟩) | ((with_reducible refine (xor_any _ _ (by assumption) _).mono ?_); rintro e w' ⟨rfl, n1, rfl⟩) | ((with_reducible refine (add_any _ _ (by assumption) _).mono ?_); rintro e w' ⟨rfl, n1, rfl⟩) | ((with_reducible refine (left_any _ _ (by assumption) _).mono ?_); rintro e w' ⟨rfl, n1, rfl⟩) | ((with_reducible refine (right_any _ _ (by assumption) _).mono ?_); rintro e w' ⟨rfl, n1, rfl⟩) | ((with_reducible refine (less_any _ _ (by assumption) _).mono ?_); rintro e w' ⟨rfl, n1, rfl⟩) | ((with_reducible refine (eq_any _ _ (by assumption) _).mono ?_); rintro e w' ⟨rfl, n1, rfl⟩)) | (go_at_call 12; first | ((with_reducible refine (not_any _ (by assumption) _).mono ?_); rintro e w' ⟨rfl, n1, rfl⟩) | ((with_reducible refine (neg_any _ (by assumption) _).mono ?_); rintro e w' ⟨rfl, n1, rfl⟩)) | (go_at_call 18; refine (Cell.flag_any _ _).mono ?_; rintro e w' ⟨rfl, rfl⟩))
      go_ret
      exact ⟨rfl, grown_drewN _ _⟩


set_option maxRecDepth 100000 in
theorem lifted (os : Os) (started : os.Started) (H : Type) (enc : TypeId × Value → H) :
    ReturnsInHanded {} Try.checked os 5 .any (Rows.cellLawsSpec.pre6 enc Try.prog Try.f5 Rows.cellLawsRow.domain false) (Rows.cellLawsSpec.post enc Try.prog Try.f5 false true false false) := by
  refine returnsInHanded_of_change (C := Try.checked) own started (by kernel_rfl) Try.func5
    (ChangeSpec.witness6 (enc := enc) (C := Try.checked) false ⟨#[], #[.int .i64 0, .int .i64 0, .int .i64 0], []⟩ 8 (by kernel_rfl) (by kernel_rfl) (by kernel_rfl) (by kernel_rfl)) ?_
  intro W base args ds gs before hval0 hW hcnd _
  have hval : ∀ (j : Nat) t v, Try.f5.params[j]? = some t → args[j]? = some v → Value.okWide Try.prog W .any base t v := hval0
  have hW' := hW
  obtain ⟨p, q, hA0, hV, rfl, hfz, hnd⟩ := hW
  have hA : DataW.TrodAll enc Try.prog W 0 (fun _ => true) true Try.f5.params.toList args.toList ds p := hA0
  rw [Try.params5] at hA hval
  obtain ⟨v0, vs0, d0, ds0, p0, q0, hargs, rfl, rfl, h0, r0⟩ := trodAll_cons hA
  obtain ⟨v1, vs1, d1, ds1, p1, q1, rfl, rfl, rfl, h1, r1⟩ := trodAll_cons r0
  obtain ⟨v2, vs2, d2, ds2, p2, q2, rfl, rfl, rfl, h2, r2⟩ := trodAll_cons r1
  obtain ⟨rfl, rfl, rfl⟩ := trodAll_nil r2
  obtain rfl : args = #[v0, v1, v2] := by cases args; simp_all
  obtain ⟨rfl, rfl⟩ := trodVars_none hV
  obtain ⟨a0, rfl, rfl, rfl, w0⟩ := open_int Try.underlying3 (hval 0 3 v0 rfl rfl) h0
  obtain ⟨a1, rfl, rfl, rfl, w1⟩ := open_int Try.underlying3 (hval 1 3 v1 rfl rfl) h1
  obtain ⟨a2, rfl, rfl, rfl, w2⟩ := open_int Try.underlying3 (hval 2 3 v2 rfl rfl) h2
  clear hA0 hval0
  simp only [List.append_nil] at hW'
  refine (walk a0 a1 a2 w0 w1 w2 W).mono fun e W' ⟨he, hg⟩ => ?_
  subst he
  exact ⟨_, rfl, post_of_same (pa := []) (pv := []) hW' (fun _ _ _ => (trodAll_cons_mk (shut_bool Try.underlying4 _) trodAll_mk0)) (fun sp _ => (trodAll_cons_mk (shut_int Try.underlying3 w0) (trodAll_cons_mk (shut_int Try.underlying3 w1) (trodAll_cons_mk (shut_int Try.underlying3 w2) trodAll_mk0)))) (fun _ _ => rfl) rfl
    (hg.frame _) hg.2.1 (ok_one (by kernel_rfl) rfl (okWide_bool_mk Try.underlying4 _))⟩

theorem over : Rows.cellLawsRow.holds Try.pinned (OpenSpec.ofChange Rows.cellLawsSpec) :=
  OpenClaim.holds_of_wide 5 Try.f5 rfl rfl rfl rfl rfl rfl rfl ⟨rfl, rfl, rfl, rfl, rfl⟩ rfl rfl rfl rfl rfl (by kernel_rfl) Try.func5 (by kernel_rfl)
    (of_decide_eq_true (by kernel_rfl)) (by unfold Func.isWrapper; first | (rw [if_pos (by decide +kernel)]; kernel_rfl) | (rw [if_neg (by decide +kernel)]; exact ⟨rfl, rfl⟩))
    (fun os started H enc _ => lifted os started H enc)

theorem proved : Rows.CellLawsSaid :=
  over
#print axioms proved
end Go.Proofs.Ytnmofkahfioooaa.cellLaws
