/- What is proved: hollowaylaw1.CellOrder answers true for every input, and its arguments read afterwards as before. -/
import Derived.Test.YtnmofkahfioooaaRows
import Derived.WalkKit
import Derived.ProofKit
import Derived.OpenShut
import Derived.Test.YtnmofkahfioooaaAlive1
namespace Go.Proofs.Ytnmofkahfioooaa.cellOrder
open Go.ChangeShapes Go.WideShapes Go.ChangeAt Go.RowKit
set_option linter.unusedVariables false

theorem own : ownKnob Try.prog.godebug = none := by kernel_rfl
theorem grown_drewN (w : World) : ∀ n, Grown w (w.drewN n)
  | 0 => Grown.refl w
  | n + 1 => by rw [← World.drew_drewN]; exact (grown_drewN w n).drew

theorem less_yes {a b : Int} (ib : Cell.In b) (h : a < b) (w : World) : Calls Try.prog 10 #[.int .i64 24, .int .i64 a, .int .i64 b] w fun e w' => e = .returned (.tuple #[.int .i64 (-1), .bool true]) ∧ ∃ n, w' = w.drewN n := by
  have c : ∀ w : World, Calls Try.prog 10 #[.int .i64 24, .int .i64 a, .int .i64 b] w fun e w' => e = .returned (.tuple #[.int .i64 (Cell.flag (decide (a < b))), .bool true]) ∧ ∃ n, w' = w.drewN n := fun w => Cell.two_any 24 a b ib w
  rw [show (Cell.flag (decide (a < b))) = -1 from by first | (rw [decide_eq_true h]; rfl) | (rw [decide_eq_false h]; rfl) | omega] at c
  exact c w
theorem less_no {a b : Int} (ib : Cell.In b) (h : ¬ (a < b)) (w : World) : Calls Try.prog 10 #[.int .i64 24, .int .i64 a, .int .i64 b] w fun e w' => e = .returned (.tuple #[.int .i64 (0), .bool true]) ∧ ∃ n, w' = w.drewN n := by
  have c : ∀ w : World, Calls Try.prog 10 #[.int .i64 24, .int .i64 a, .int .i64 b] w fun e w' => e = .returned (.tuple #[.int .i64 (Cell.flag (decide (a < b))), .bool true]) ∧ ∃ n, w' = w.drewN n := fun w => Cell.two_any 24 a b ib w
  rw [show (Cell.flag (decide (a < b))) = 0 from by first | (rw [decide_eq_true h]; rfl) | (rw [decide_eq_false h]; rfl) | omega] at c
  exact c w
theorem uless_yes {a b : Int} (ib : Cell.In b) (h : Cell.uns a < Cell.uns b) (w : World) : Calls Try.prog 10 #[.int .i64 25, .int .i64 a, .int .i64 b] w fun e w' => e = .returned (.tuple #[.int .i64 (-1), .bool true]) ∧ ∃ n, w' = w.drewN n := by
  have c : ∀ w : World, Calls Try.prog 10 #[.int .i64 25, .int .i64 a, .int .i64 b] w fun e w' => e = .returned (.tuple #[.int .i64 (Cell.flag (decide (Cell.uns a < Cell.uns b))), .bool true]) ∧ ∃ n, w' = w.drewN n := fun w => Cell.two_any 25 a b ib w
  rw [show (Cell.flag (decide (Cell.uns a < Cell.uns b))) = -1 from by first | (rw [decide_eq_true h]; rfl) | (rw [decide_eq_false h]; rfl) | omega] at c
  exact c w
theorem uless_no {a b : Int} (ib : Cell.In b) (h : ¬ (Cell.uns a < Cell.uns b)) (w : World) : Calls Try.prog 10 #[.int .i64 25, .int .i64 a, .int .i64 b] w fun e w' => e = .returned (.tuple #[.int .i64 (0), .bool true]) ∧ ∃ n, w' = w.drewN n := by
  have c : ∀ w : World, Calls Try.prog 10 #[.int .i64 25, .int .i64 a, .int .i64 b] w fun e w' => e = .returned (.tuple #[.int .i64 (Cell.flag (decide (Cell.uns a < Cell.uns b))), .bool true]) ∧ ∃ n, w' = w.drewN n := fun w => Cell.two_any 25 a b ib w
  rw [show (Cell.flag (decide (Cell.uns a < Cell.uns b))) = 0 from by first | (rw [decide_eq_true h]; rfl) | (rw [decide_eq_false h]; rfl) | omega] at c
  exact c w
theorem mn_yes {a b : Int} (ib : Cell.In b) (h : a < b) (w : World) : Calls Try.prog 10 #[.int .i64 28, .int .i64 a, .int .i64 b] w fun e w' => e = .returned (.tuple #[.int .i64 (a), .bool true]) ∧ ∃ n, w' = w.drewN n := by
  have c : ∀ w : World, Calls Try.prog 10 #[.int .i64 28, .int .i64 a, .int .i64 b] w fun e w' => e = .returned (.tuple #[.int .i64 (min a b), .bool true]) ∧ ∃ n, w' = w.drewN n := fun w => Cell.two_any 28 a b ib w
  rw [show (min a b) = a from by first | (rw [decide_eq_true h]; rfl) | (rw [decide_eq_false h]; rfl) | omega] at c
  exact c w
theorem mn_no {a b : Int} (ib : Cell.In b) (h : ¬ (a < b)) (w : World) : Calls Try.prog 10 #[.int .i64 28, .int .i64 a, .int .i64 b] w fun e w' => e = .returned (.tuple #[.int .i64 (b), .bool true]) ∧ ∃ n, w' = w.drewN n := by
  have c : ∀ w : World, Calls Try.prog 10 #[.int .i64 28, .int .i64 a, .int .i64 b] w fun e w' => e = .returned (.tuple #[.int .i64 (min a b), .bool true]) ∧ ∃ n, w' = w.drewN n := fun w => Cell.two_any 28 a b ib w
  rw [show (min a b) = b from by first | (rw [decide_eq_true h]; rfl) | (rw [decide_eq_false h]; rfl) | omega] at c
  exact c w
theorem mx_yes {a b : Int} (ib : Cell.In b) (h : a < b) (w : World) : Calls Try.prog 10 #[.int .i64 29, .int .i64 a, .int .i64 b] w fun e w' => e = .returned (.tuple #[.int .i64 (b), .bool true]) ∧ ∃ n, w' = w.drewN n := by
  have c : ∀ w : World, Calls Try.prog 10 #[.int .i64 29, .int .i64 a, .int .i64 b] w fun e w' => e = .returned (.tuple #[.int .i64 (max a b), .bool true]) ∧ ∃ n, w' = w.drewN n := fun w => Cell.two_any 29 a b ib w
  rw [show (max a b) = b from by first | (rw [decide_eq_true h]; rfl) | (rw [decide_eq_false h]; rfl) | omega] at c
  exact c w
theorem mx_no {a b : Int} (ib : Cell.In b) (h : ¬ (a < b)) (w : World) : Calls Try.prog 10 #[.int .i64 29, .int .i64 a, .int .i64 b] w fun e w' => e = .returned (.tuple #[.int .i64 (a), .bool true]) ∧ ∃ n, w' = w.drewN n := by
  have c : ∀ w : World, Calls Try.prog 10 #[.int .i64 29, .int .i64 a, .int .i64 b] w fun e w' => e = .returned (.tuple #[.int .i64 (max a b), .bool true]) ∧ ∃ n, w' = w.drewN n := fun w => Cell.two_any 29 a b ib w
  rw [show (max a b) = a from by first | (rw [decide_eq_true h]; rfl) | (rw [decide_eq_false h]; rfl) | omega] at c
  exact c w
theorem zero_yes {a : Int} (ib : Cell.In a) (h : a = 0) (w : World) : Calls Try.prog 12 #[.int .i64 26, .int .i64 a] w fun e w' => e = .returned (.tuple #[.int .i64 (-1), .bool true]) ∧ ∃ n, w' = w.drewN n := by
  have c : ∀ w : World, Calls Try.prog 12 #[.int .i64 26, .int .i64 a] w fun e w' => e = .returned (.tuple #[.int .i64 (Cell.flag (decide (a = 0))), .bool true]) ∧ ∃ n, w' = w.drewN n := fun w => Cell.one_any 26 a ib w
  rw [show (Cell.flag (decide (a = 0))) = -1 from by first | (rw [decide_eq_true h]; rfl) | (rw [decide_eq_false h]; rfl) | omega] at c
  exact c w
theorem zero_no {a : Int} (ib : Cell.In a) (h : ¬ (a = 0)) (w : World) : Calls Try.prog 12 #[.int .i64 26, .int .i64 a] w fun e w' => e = .returned (.tuple #[.int .i64 (0), .bool true]) ∧ ∃ n, w' = w.drewN n := by
  have c : ∀ w : World, Calls Try.prog 12 #[.int .i64 26, .int .i64 a] w fun e w' => e = .returned (.tuple #[.int .i64 (Cell.flag (decide (a = 0))), .bool true]) ∧ ∃ n, w' = w.drewN n := fun w => Cell.one_any 26 a ib w
  rw [show (Cell.flag (decide (a = 0))) = 0 from by first | (rw [decide_eq_true h]; rfl) | (rw [decide_eq_false h]; rfl) | omega] at c
  exact c w
theorem isneg_yes {a : Int} (ib : Cell.In a) (h : a < 0) (w : World) : Calls Try.prog 12 #[.int .i64 27, .int .i64 a] w fun e w' => e = .returned (.tuple #[.int .i64 (-1), .bool true]) ∧ ∃ n, w' = w.drewN n := by
  have c : ∀ w : World, Calls Try.prog 12 #[.int .i64 27, .int .i64 a] w fun e w' => e = .returned (.tuple #[.int .i64 (Cell.flag (decide (a < 0))), .bool true]) ∧ ∃ n, w' = w.drewN n := fun w => Cell.one_any 27 a ib w
  rw [show (Cell.flag (decide (a < 0))) = -1 from by first | (rw [decide_eq_true h]; rfl) | (rw [decide_eq_false h]; rfl) | omega] at c
  exact c w
theorem isneg_no {a : Int} (ib : Cell.In a) (h : ¬ (a < 0)) (w : World) : Calls Try.prog 12 #[.int .i64 27, .int .i64 a] w fun e w' => e = .returned (.tuple #[.int .i64 (0), .bool true]) ∧ ∃ n, w' = w.drewN n := by
  have c : ∀ w : World, Calls Try.prog 12 #[.int .i64 27, .int .i64 a] w fun e w' => e = .returned (.tuple #[.int .i64 (Cell.flag (decide (a < 0))), .bool true]) ∧ ∃ n, w' = w.drewN n := fun w => Cell.one_any 27 a ib w
  rw [show (Cell.flag (decide (a < 0))) = 0 from by first | (rw [decide_eq_true h]; rfl) | (rw [decide_eq_false h]; rfl) | omega] at c
  exact c w
theorem order_cases {a b : Int} (ha : Cell.In a) (hb : Cell.In b) (hne : ¬ a = b) :
    (a < 0 ∧ b < 0 ∧ a < b ∧ ¬ a = 0 ∧ Cell.uns a < Cell.uns b) ∨ (a < 0 ∧ b < 0 ∧ ¬ a < b ∧ ¬ a = 0 ∧ ¬ Cell.uns a < Cell.uns b) ∨ (a < 0 ∧ ¬ b < 0 ∧ a < b ∧ ¬ a = 0 ∧ ¬ Cell.uns a < Cell.uns b)
      ∨ (¬ a < 0 ∧ b < 0 ∧ ¬ a < b ∧ a = 0 ∧ Cell.uns a < Cell.uns b) ∨ (¬ a < 0 ∧ b < 0 ∧ ¬ a < b ∧ ¬ a = 0 ∧ Cell.uns a < Cell.uns b)
      ∨ (¬ a < 0 ∧ ¬ b < 0 ∧ a < b ∧ a = 0 ∧ Cell.uns a < Cell.uns b) ∨ (¬ a < 0 ∧ ¬ b < 0 ∧ a < b ∧ ¬ a = 0 ∧ Cell.uns a < Cell.uns b) ∨ (¬ a < 0 ∧ ¬ b < 0 ∧ ¬ a < b ∧ ¬ a = 0 ∧ ¬ Cell.uns a < Cell.uns b) := by
  unfold Cell.In at ha hb
  unfold Cell.uns
  by_cases h1 : a < 0 <;> by_cases h2 : b < 0 <;> by_cases h3 : a < b <;> by_cases h4 : a = 0 <;> by_cases h5 : a % 18446744073709551616 < b % 18446744073709551616
  all_goals first | (exfalso; omega) | exact .inl ⟨h1, h2, h3, h4, h5⟩ | exact .inr (.inl ⟨h1, h2, h3, h4, h5⟩) | exact .inr (.inr (.inl ⟨h1, h2, h3, h4, h5⟩)) | exact .inr (.inr (.inr (.inl ⟨h1, h2, h3, h4, h5⟩))) | exact .inr (.inr (.inr (.inr (.inl ⟨h1, h2, h3, h4, h5⟩)))) | exact .inr (.inr (.inr (.inr (.inr (.inl ⟨h1, h2, h3, h4, h5⟩))))) | exact .inr (.inr (.inr (.inr (.inr (.inr (.inl ⟨h1, h2, h3, h4, h5⟩)))))) | exact .inr (.inr (.inr (.inr (.inr (.inr (.inr (⟨h1, h2, h3, h4, h5⟩)))))))
theorem beq_of {a : Int} : (a = 0 → (a == 0) = true) ∧ (¬ a = 0 → (a == 0) = false) := by constructor <;> intro h <;> simpa using h
theorem same_or {a b : Int} : a < b → a ≤ b := fun h => Int.le_of_lt h
theorem same_no {a b : Int} (hne : ¬ a = b) (h : ¬ a < b) : b ≤ a ∧ (b == a) = false := ⟨by omega, by rw [beq_eq_false_iff_ne]; omega⟩
set_option maxHeartbeats 2000000 in
set_option maxRecDepth 100000 in
theorem walk (a0 : Int) (a1 : Int) (w0 : (Lit.int .i64 a0).wf = true) (w1 : (Lit.int .i64 a1).wf = true) (w : World) :
    Calls Try.prog 8 #[.int .i64 a0, .int .i64 a1] w fun e w' => e = .returned (.bool true) ∧ Grown w w' := by
  have i0 := Cell.in_of_wf w0
  have i1 := Cell.in_of_wf w1
  clear w0 w1
  by_cases hne : a0 = a1
  · subst hne
    have hu0 : IntKind.u64.wrap a0 = Cell.uns a0 := Cell.uns_of a0
    have h3 : ¬ a0 < a0 := Int.lt_irrefl _
    have h5 : ¬ Cell.uns a0 < Cell.uns a0 := Int.lt_irrefl _
    by_cases h4 : a0 = 0
    · have h1 : ¬ a0 < 0 := by omega
      have g4 := beq_of.1 h4
      (first | (have Cmn := Lib.hid (mn_yes i1 h3)) | (have Cmn := Lib.hid (mn_no i1 h3)))
      (first | (have Cmx := Lib.hid (mx_yes i1 h3)) | (have Cmx := Lib.hid (mx_no i1 h3)))
      (first | (have Cless := Lib.hid (less_yes i1 h3)) | (have Cless := Lib.hid (less_no i1 h3)))
      (first | (have Culess := Lib.hid (uless_yes i1 h5)) | (have Culess := Lib.hid (uless_no i1 h5)))
      (first | (have Czero := Lib.hid (zero_yes i0 h4)) | (have Czero := Lib.hid (zero_no i0 h4)))
      (first | (have Cisneg := Lib.hid (isneg_yes i0 h1)) | (have Cisneg := Lib.hid (isneg_no i0 h1)))
      clear h4 h3 h5
      go_enter Try.func8, Try.ntmps8
      simp only [List.append_eq, List.cons_append, List.nil_append]
      go_wp2_with (first | (go_at_call 9; refine (Cell.alive_any _).mono ?_; rintro e w' ⟨rfl, n0, rfl⟩) | (go_at_call 10; first | ((with_reducible refine (Cmn.out _).mono ?_); rintro e w' ⟨rfl, n1, rfl⟩) | ((with_reducible refine (Cmx.out _).mono ?_); rintro e w' ⟨rfl, n1, rfl⟩) | ((with_reducible refine (Cless.out _).mono ?_); rintro e w' ⟨rfl, n1, rfl⟩) | ((with_reducible refine (Culess.out _).mono ?_); rintro e w' ⟨rfl, n1, rfl⟩)) | (go_at_call 12; first | ((with_reducible refine (Czero.out _).mono ?_); rintro e w' ⟨rfl, n1, rfl⟩) | ((with_reducible refine (Cisneg.out _).mono ?_); rintro e w' ⟨rfl, n1, rfl⟩)))
      go_ret
      exact ⟨Cell.retB (by first | rfl | (simp; omega)), grown_drewN _ _⟩
    · have g4 := beq_of.2 h4
      by_cases h1 : a0 < 0
      all_goals
        (first | (have Cmn := Lib.hid (mn_yes i1 h3)) | (have Cmn := Lib.hid (mn_no i1 h3)))
        (first | (have Cmx := Lib.hid (mx_yes i1 h3)) | (have Cmx := Lib.hid (mx_no i1 h3)))
        (first | (have Cless := Lib.hid (less_yes i1 h3)) | (have Cless := Lib.hid (less_no i1 h3)))
        (first | (have Culess := Lib.hid (uless_yes i1 h5)) | (have Culess := Lib.hid (uless_no i1 h5)))
        (first | (have Czero := Lib.hid (zero_yes i0 h4)) | (have Czero := Lib.hid (zero_no i0 h4)))
        (first | (have Cisneg := Lib.hid (isneg_yes i0 h1)) | (have Cisneg := Lib.hid (isneg_no i0 h1)))
        clear h4 h3 h5
        go_enter Try.func8, Try.ntmps8
        simp only [List.append_eq, List.cons_append, List.nil_append]
        go_wp2_with (first | (go_at_call 9; refine (Cell.alive_any _).mono ?_; rintro e w' ⟨rfl, n0, rfl⟩) | (go_at_call 10; first | ((with_reducible refine (Cmn.out _).mono ?_); rintro e w' ⟨rfl, n1, rfl⟩) | ((with_reducible refine (Cmx.out _).mono ?_); rintro e w' ⟨rfl, n1, rfl⟩) | ((with_reducible refine (Cless.out _).mono ?_); rintro e w' ⟨rfl, n1, rfl⟩) | ((with_reducible refine (Culess.out _).mono ?_); rintro e w' ⟨rfl, n1, rfl⟩)) | (go_at_call 12; first | ((with_reducible refine (Czero.out _).mono ?_); rintro e w' ⟨rfl, n1, rfl⟩) | ((with_reducible refine (Cisneg.out _).mono ?_); rintro e w' ⟨rfl, n1, rfl⟩)))
        go_ret
        exact ⟨Cell.retB (by first | rfl | (simp; omega)), grown_drewN _ _⟩
  · have hu0 : IntKind.u64.wrap a0 = Cell.uns a0 := Cell.uns_of a0
    have hu1 : IntKind.u64.wrap a1 = Cell.uns a1 := Cell.uns_of a1
    rcases order_cases i0 i1 hne with ⟨h1, h2, h3, h4, h5⟩ | ⟨h1, h2, h3, h4, h5⟩ | ⟨h1, h2, h3, h4, h5⟩ | ⟨h1, h2, h3, h4, h5⟩ | ⟨h1, h2, h3, h4, h5⟩ | ⟨h1, h2, h3, h4, h5⟩ | ⟨h1, h2, h3, h4, h5⟩ | ⟨h1, h2, h3, h4, h5⟩
    all_goals
      (first | (have g4 := beq_of.1 h4) | (have g4 := beq_of.2 h4))
      (first | (have g3 := same_or h3) | (have g3 := same_no hne h3))
      (first | (have Cmn := Lib.hid (mn_yes i1 h3)) | (have Cmn := Lib.hid (mn_no i1 h3)))
      (first | (have Cmx := Lib.hid (mx_yes i1 h3)) | (have Cmx := Lib.hid (mx_no i1 h3)))
      (first | (have Cless := Lib.hid (less_yes i1 h3)) | (have Cless := Lib.hid (less_no i1 h3)))
      (first | (have Culess := Lib.hid (uless_yes i1 h5)) | (have Culess := Lib.hid (uless_no i1 h5)))
      (first | (have Czero := Lib.hid (zero_yes i0 h4)) | (have Czero := Lib.hid (zero_no i0 h4)))
      (first | (have Cisneg := Lib.hid (isneg_yes i0 h1)) | (have Cisneg := Lib.hid (isneg_no i0 h1)))
      clear h4 hne
      go_enter Try.func8, Try.ntmps8
      simp only [List.append_eq, List.cons_append, List.nil_append]
      go_wp2_with (first | (go_at_call 9; refine (Cell.alive_any _).mono ?_; rintro e w' ⟨rfl, n0, rfl⟩) | (go_at_call 10; first | ((with_reducible refine (Cmn.out _).mono ?_); rintro e w' ⟨rfl, n1, rfl⟩) | ((with_reducible refine (Cmx.out _).mono ?_); rintro e w' ⟨rfl, n1, rfl⟩) | ((with_reducible refine (Cless.out _).mono ?_); rintro e w' ⟨rfl, n1, rfl⟩) | ((with_reducible refine (Culess.out _).mono ?_); rintro e w' ⟨rfl, n1, rfl⟩)) | (go_at_call 12; first | ((with_reducible refine (Czero.out _).mono ?_); rintro e w' ⟨rfl, n1, rfl⟩) | ((with_reducible refine (Cisneg.out _).mono ?_); rintro e w' ⟨rfl, n1, rfl⟩)))
      go_ret
      exact ⟨Cell.retB (by first | rfl | (simp; omega)), grown_drewN _ _⟩


set_option maxRecDepth 100000 in
theorem lifted (os : Os) (started : os.Started) (H : Type) (enc : TypeId × Value → H) :
    ReturnsInHanded {} Try.checked os 8 .any (Rows.cellOrderSpec.pre6 enc Try.prog Try.f8 Rows.cellOrderRow.domain false) (Rows.cellOrderSpec.post enc Try.prog Try.f8 false true false false) := by
  refine returnsInHanded_of_change (C := Try.checked) own started (by kernel_rfl) Try.func8
    (ChangeSpec.witness6 (enc := enc) (C := Try.checked) false ⟨#[], #[.int .i64 0, .int .i64 0], []⟩ 8 (by kernel_rfl) (by kernel_rfl) (by kernel_rfl) (by kernel_rfl)) ?_
  intro W base args ds gs before hval0 hW hcnd _
  have hval : ∀ (j : Nat) t v, Try.f8.params[j]? = some t → args[j]? = some v → Value.okWide Try.prog W .any base t v := hval0
  have hW' := hW
  obtain ⟨p, q, hA0, hV, rfl, hfz, hnd⟩ := hW
  have hA : DataW.TrodAll enc Try.prog W 0 (fun _ => true) true Try.f8.params.toList args.toList ds p := hA0
  rw [Try.params8] at hA hval
  obtain ⟨v0, vs0, d0, ds0, p0, q0, hargs, rfl, rfl, h0, r0⟩ := trodAll_cons hA
  obtain ⟨v1, vs1, d1, ds1, p1, q1, rfl, rfl, rfl, h1, r1⟩ := trodAll_cons r0
  obtain ⟨rfl, rfl, rfl⟩ := trodAll_nil r1
  obtain rfl : args = #[v0, v1] := by cases args; simp_all
  obtain ⟨rfl, rfl⟩ := trodVars_none hV
  obtain ⟨a0, rfl, rfl, rfl, w0⟩ := open_int Try.underlying3 (hval 0 3 v0 rfl rfl) h0
  obtain ⟨a1, rfl, rfl, rfl, w1⟩ := open_int Try.underlying3 (hval 1 3 v1 rfl rfl) h1
  clear hA0 hval0
  simp only [List.append_nil] at hW'
  refine (walk a0 a1 w0 w1 W).mono fun e W' ⟨he, hg⟩ => ?_
  subst he
  exact ⟨_, rfl, post_of_same (pa := []) (pv := []) hW' (fun _ _ _ => (trodAll_cons_mk (shut_bool Try.underlying4 _) trodAll_mk0)) (fun sp _ => (trodAll_cons_mk (shut_int Try.underlying3 w0) (trodAll_cons_mk (shut_int Try.underlying3 w1) trodAll_mk0))) (fun _ _ => rfl) rfl
    (hg.frame _) hg.2.1 (ok_one (by kernel_rfl) rfl (okWide_bool_mk Try.underlying4 _))⟩

theorem over : Rows.cellOrderRow.holds Try.pinned (OpenSpec.ofChange Rows.cellOrderSpec) :=
  OpenClaim.holds_of_wide 8 Try.f8 rfl rfl rfl rfl rfl rfl rfl ⟨rfl, rfl, rfl, rfl, rfl⟩ rfl rfl rfl rfl rfl (by kernel_rfl) Try.func8 (by kernel_rfl)
    (of_decide_eq_true (by kernel_rfl)) (by unfold Func.isWrapper; first | (rw [if_pos (by decide +kernel)]; kernel_rfl) | (rw [if_neg (by decide +kernel)]; exact ⟨rfl, rfl⟩))
    (fun os started H enc _ => lifted os started H enc)

theorem proved : Rows.CellOrderSaid :=
  over
#print axioms proved
end Go.Proofs.Ytnmofkahfioooaa.cellOrder
