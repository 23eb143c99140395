
/- The walks of package cell: what each call comes to. -/
import Derived.Test.YtlomfmilohbgpaaGreatDoorRows
import Derived.Test.YtlomfmilohbgpaaGreatDoorCellPlain
import Derived.WalkKit
import Derived.WalkSpells
import Derived.WalkLawsBesides
import Derived.Deep.QuietTactic
import Derived.BigQuiet
import Derived.Lib.Hide
namespace Go.Proofs.YtlomfmilohbgpaaGreatDoor.Cell
open Go.RowKit

theorem ret1 {k : IntKind} {a b : Int} (h : a = b) : Ending.returned (.int k a) = .returned (.int k b) := by rw [h]
theorem retB {a b : Bool} (h : a = b) : Ending.returned (.bool a) = .returned (.bool b) := by rw [h]
theorem ret2 {k : IntKind} {a b : Int} {c d : Bool} (h : a = b) (g : c = d) : Ending.returned (.tuple #[.int k a, .bool c]) = .returned (.tuple #[.int k b, .bool d]) := by rw [h, g]
theorem ret3 {k : IntKind} {a b a' b' : Int} {c d : Bool} (h : a = b) (h' : a' = b') (g : c = d) : Ending.returned (.tuple #[.int k a, .int k a', .bool c]) = .returned (.tuple #[.int k b, .int k b', .bool d]) := by rw [h, h', g]
theorem retQ {k : IntKind} {a b a' b' : Int} (h : a = b) (h' : a' = b') : Ending.returned (.tuple #[.int k a, .int k a']) = .returned (.tuple #[.int k b, .int k b']) := by rw [h, h']

set_option maxHeartbeats 400000 in
theorem floor_zero (a : Int) (w : World) :
    Calls Tryz.prog 132 #[.int .i64 a, .int .i64 0] w fun e w' => e = .returned (.tuple #[.int .i64 0, .int .i64 0, .bool false]) ∧ w' = w := by
  go_enter Tryz.func132, Tryz.ntmps132
  go_wp2
  go_ret3
  exact ⟨rfl, rfl⟩

set_option maxHeartbeats 400000 in
theorem floor_any (a b : Int) (hb : (b == 0) = false) (ib : In b) (w : World) :
    Calls Tryz.prog 132 #[.int .i64 a, .int .i64 b] w fun e w' => e = .returned (.tuple #[.int .i64 (fq a b), .int .i64 (fr a b), .bool true]) ∧ ∃ n, w' = w.drewN n := by
  have hb' : b ≠ 0 := by simpa using hb
  have IB := Lib.hid ib; clear ib
  go_enter Tryz.func132, Tryz.ntmps132
  go_wp2
  go_quiet (fail)
  go_wp2
  · go_ret3
    exact ⟨ret3 (floor1 ‹_›).1 (floor1 ‹_›).2 rfl, nq, rfl⟩
  · go_ret3
    exact ⟨ret3 (floor2 hb' IB.out ‹_› ‹_›).1 (floor2 hb' IB.out ‹_› ‹_›).2 rfl, nq, rfl⟩
  · go_ret3
    exact ⟨ret3 (floor3 ‹_› ‹_›).1 (floor3 ‹_› ‹_›).2 rfl, nq, rfl⟩
set_option maxHeartbeats 400000 in
theorem crosses_any (x n : Int) (w : World) :
    Calls Tryz.prog 105 #[.int .i64 x, .int .i64 n] w fun e w' => e = .returned (.bool (crosses x n)) ∧ w' = w := by
  go_enter Tryz.func105, Tryz.ntmps105
  go_wp2
  go_ret
  exact ⟨rfl, rfl⟩
set_option maxHeartbeats 400000 in
theorem flag_any (b : Bool) (w : World) :
    Calls Tryz.prog 116 #[.bool b] w fun e w' => e = .returned (.int .i64 (flag b)) ∧ w' = w := by
  cases b
  all_goals
    go_enter Tryz.func116, Tryz.ntmps116
    go_wp2
    go_ret
    exact ⟨rfl, rfl⟩
set_option maxHeartbeats 400000 in
theorem join_any (op a b : Int) (w : World) :
    Calls Tryz.prog 118 #[.int .i64 op, .int .i64 a, .int .i64 b] w fun e w' => e = .returned (.int .i64 (joinV op a b)) ∧ w' = w := by
  go_enter Tryz.func118, Tryz.ntmps118
  go_wp2
  · go_ret; exact ⟨ret1 (join1 ‹_›), rfl⟩
  · go_ret; exact ⟨ret1 (join2 ‹_›), rfl⟩
  · go_ret; exact ⟨ret1 (join3 ‹_› ‹_›), rfl⟩
set_option maxHeartbeats 400000 in
theorem shift_any (op a b : Int) (w : World) :
    Calls Tryz.prog 119 #[.int .i64 op, .int .i64 a, .int .i64 b] w fun e w' => e = .returned (.int .i64 (shiftV op a b)) ∧ w' = w := by
  by_cases h0 : b < 0
  · go_enter Tryz.func119, Tryz.ntmps119
    go_wp2
    go_ret
    exact ⟨ret1 (shift1 (.inl h0)), rfl⟩
  · by_cases h1 : 63 < b
    · go_enter Tryz.func119, Tryz.ntmps119
      go_wp2
      go_ret
      exact ⟨ret1 (shift1 (.inr h1)), rfl⟩
    · go_enter Tryz.func119, Tryz.ntmps119
      go_wp2
      · go_ret; exact ⟨ret1 (shift2 ‹_› (by omega) (by omega)), rfl⟩
      · go_ret; exact ⟨ret1 (shift3 ‹_› (by omega) (by omega)), rfl⟩
set_option maxHeartbeats 400000 in
theorem holds_any (op a b : Int) (w : World) :
    Calls Tryz.prog 120 #[.int .i64 op, .int .i64 a, .int .i64 b] w fun e w' => e = .returned (.bool (holdsV op a b)) ∧ w' = w := by
  go_enter Tryz.func120, Tryz.ntmps120
  go_wp2
  · go_ret; exact ⟨retB (holds1 ‹_›), rfl⟩
  · go_ret; exact ⟨retB (holds2 ‹_›), rfl⟩
  · go_ret; exact ⟨retB (holds3 ‹_› ‹_›), rfl⟩
set_option maxHeartbeats 400000 in
theorem pick_any (op a b : Int) (w : World) :
    Calls Tryz.prog 121 #[.int .i64 op, .int .i64 a, .int .i64 b] w fun e w' => e = .returned (.int .i64 (pickV op a b)) ∧ w' = w := by
  go_enter Tryz.func121, Tryz.ntmps121
  go_wp2
  · go_ret; exact ⟨ret1 (pick1 ‹_›), rfl⟩
  · go_ret; exact ⟨ret1 (pick2 ‹_›), rfl⟩

theorem op_cases (op : Int) : op < 11 ∨ 29 < op ∨ op = 11 ∨ op = 12 ∨ op = 13 ∨ op = 14 ∨ op = 15 ∨ op = 16 ∨ op = 17 ∨ op = 18 ∨ op = 19 ∨ op = 20 ∨ op = 21 ∨ op = 22 ∨ op = 23 ∨ op = 24 ∨ op = 25 ∨ op = 26 ∨ op = 27 ∨ op = 28 ∨ op = 29 := by omega
theorem two_lo {op a b : Int} (h : op < 11) : two op a b = (0, false) := by
  unfold two; repeat rw [if_neg (by omega)]
theorem two_hi {op a b : Int} (h : 29 < op) : two op a b = (0, false) := by
  unfold two; repeat rw [if_neg (by omega)]

/-- What a call of two results comes to; the world is as it was but for draws. -/
def Tells (v : Int × Bool) (w : World) (e : Ending) (w' : World) : Prop := e = .returned (.tuple #[.int .i64 v.1, .bool v.2]) ∧ ∃ n, w' = w.drewN n

set_option maxHeartbeats 400000 in
theorem divide_zero (op a : Int) (w : World) :
    Calls Tryz.prog 117 #[.int .i64 op, .int .i64 a, .int .i64 0] w (Tells (0, false) w) := by
  go_enter Tryz.func117, Tryz.ntmps117
  go_wp2_with (go_at_call 132; refine (floor_zero _ _).mono ?_; rintro e w' ⟨rfl, rfl⟩)
  all_goals
    go_ret2
    exact ⟨ret2 rfl rfl, 0, rfl⟩
set_option maxHeartbeats 400000 in
theorem divide_any (op a b : Int) (hb : (b == 0) = false) (ib : In b) (w : World) :
    Calls Tryz.prog 117 #[.int .i64 op, .int .i64 a, .int .i64 b] w (Tells (if op = 15 then fr a b else fq a b, true) w) := by
  by_cases h : op = 15
  · subst h
    have IB := Lib.hid ib; clear ib
    go_enter Tryz.func117, Tryz.ntmps117
    go_wp2_with (go_at_call 132; refine (floor_any _ _ hb IB.out _).mono ?_; rintro e w' ⟨rfl, n, rfl⟩)
    go_ret2
    exact ⟨ret2 rfl rfl, n, rfl⟩
  · have h' : (op == 15) = false := by simpa using h
    have IB := Lib.hid ib; clear ib
    rw [if_neg h]; clear h
    go_enter Tryz.func117, Tryz.ntmps117
    go_wp2_with (go_at_call 132; refine (floor_any _ _ hb IB.out _).mono ?_; rintro e w' ⟨rfl, n, rfl⟩)
    go_ret2
    exact ⟨ret2 rfl rfl, n, rfl⟩

theorem two_14 {a b : Int} (hb : b ≠ 0) : two 14 a b = (if (14 : Int) = 15 then fr a b else fq a b, true) := by
  show fl a b 14 = _; unfold fl; rw [if_neg hb]
theorem two_15 {a b : Int} (hb : b ≠ 0) : two 15 a b = (if (15 : Int) = 15 then fr a b else fq a b, true) := by
  show fl a b 15 = _; unfold fl; rw [if_neg hb]
set_option maxHeartbeats 1000000 in
theorem two_any (op a b : Int) (ib : In b) (w : World) :
    Calls Tryz.prog 107 #[.int .i64 op, .int .i64 a, .int .i64 b] w (Tells (two op a b) w) := by
  rcases op_cases op with h | h | rfl | rfl | rfl | rfl | rfl | rfl | rfl | rfl | rfl | rfl | rfl | rfl | rfl | rfl | rfl | rfl | rfl | rfl | rfl
  · rw [two_lo h]; go_enter Tryz.func107, Tryz.ntmps107
    go_wp2
    go_ret2; exact ⟨ret2 rfl rfl, 0, rfl⟩
  · rw [two_hi h]; go_enter Tryz.func107, Tryz.ntmps107
    go_wp2
    go_ret2; exact ⟨ret2 rfl rfl, 0, rfl⟩
  · go_enter Tryz.func107, Tryz.ntmps107
    go_wp2
    go_ret2; exact ⟨ret2 rfl rfl, 0, rfl⟩
  · go_enter Tryz.func107, Tryz.ntmps107
    go_wp2
    go_ret2; exact ⟨ret2 (sub_of a b) rfl, 0, rfl⟩
  · go_enter Tryz.func107, Tryz.ntmps107
    go_wp2
    go_ret2; exact ⟨ret2 rfl rfl, 0, rfl⟩
  · by_cases hb : b = 0
    · subst hb; go_enter Tryz.func107, Tryz.ntmps107
      go_wp2_with (go_at_call 117; refine (divide_zero _ _ _).mono ?_; rintro e w' ⟨rfl, n, rfl⟩)
      go_ret2; exact ⟨ret2 rfl rfl, n, rfl⟩
    · rw [two_14 hb]
      have hb' : (b == 0) = false := by simpa using hb
      clear hb
      go_enter Tryz.func107, Tryz.ntmps107
      go_wp2_with (go_at_call 117; refine (divide_any _ _ _ hb' ib _).mono ?_; rintro e w' ⟨rfl, n, rfl⟩)
      go_ret2; exact ⟨ret2 rfl rfl, n, rfl⟩
  · by_cases hb : b = 0
    · subst hb; go_enter Tryz.func107, Tryz.ntmps107
      go_wp2_with (go_at_call 117; refine (divide_zero _ _ _).mono ?_; rintro e w' ⟨rfl, n, rfl⟩)
      go_ret2; exact ⟨ret2 rfl rfl, n, rfl⟩
    · rw [two_15 hb]
      have hb' : (b == 0) = false := by simpa using hb
      clear hb
      go_enter Tryz.func107, Tryz.ntmps107
      go_wp2_with (go_at_call 117; refine (divide_any _ _ _ hb' ib _).mono ?_; rintro e w' ⟨rfl, n, rfl⟩)
      go_ret2; exact ⟨ret2 rfl rfl, n, rfl⟩
  all_goals
    go_enter Tryz.func107, Tryz.ntmps107
    go_wp2_with (first | (go_at_call 118; refine (join_any _ _ _ _).mono ?_; rintro e w' ⟨rfl, rfl⟩) | (go_at_call 119; refine (shift_any _ _ _ _).mono ?_; rintro e w' ⟨rfl, rfl⟩) | (go_at_call 120; refine (holds_any _ _ _ _).mono ?_; rintro e w' ⟨rfl, rfl⟩) | (go_at_call 116; refine (flag_any _ _).mono ?_; rintro e w' ⟨rfl, rfl⟩) | (go_at_call 121; refine (pick_any _ _ _ _).mono ?_; rintro e w' ⟨rfl, rfl⟩))
    go_ret2; exact ⟨ret2 rfl rfl, 0, rfl⟩

theorem one_lo {op a : Int} (h : op < 11) : one op a = (0, false) := by
  unfold one; repeat rw [if_neg (by omega)]
theorem one_hi {op a : Int} (h : 29 < op) : one op a = (0, false) := by
  unfold one; repeat rw [if_neg (by omega)]
set_option maxHeartbeats 1000000 in
theorem one_any (op a : Int) (ia : In a) (w : World) :
    Calls Tryz.prog 106 #[.int .i64 op, .int .i64 a] w (Tells (one op a) w) := by
  rcases op_cases op with h | h | rfl | rfl | rfl | rfl | rfl | rfl | rfl | rfl | rfl | rfl | rfl | rfl | rfl | rfl | rfl | rfl | rfl | rfl | rfl
  · rw [one_lo h]; go_enter Tryz.func106, Tryz.ntmps106
    go_wp2
    go_ret2; exact ⟨ret2 rfl rfl, 0, rfl⟩
  · rw [one_hi h]; go_enter Tryz.func106, Tryz.ntmps106
    go_wp2
    go_ret2; exact ⟨ret2 rfl rfl, 0, rfl⟩
  all_goals
    go_enter Tryz.func106, Tryz.ntmps106
    go_wp2_with (go_at_call 116; refine (flag_any _ _).mono ?_; rintro e w' ⟨rfl, rfl⟩)
    go_ret2; exact ⟨ret2 (by first | rfl | exact neg_of a | exact not_of ia) rfl, 0, rfl⟩
end Go.Proofs.YtlomfmilohbgpaaGreatDoor.Cell
