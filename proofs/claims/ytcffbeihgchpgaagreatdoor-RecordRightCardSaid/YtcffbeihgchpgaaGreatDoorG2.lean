/- The document's own answers on operations: names, operands, what they take and give. -/
import Derived.Test.YtcffbeihgchpgaaGreatDoorRows
import Derived.Test.YtcffbeihgchpgaaGreatDoorG1
import Derived.WalkKit
import Derived.ProofKit
import Derived.Lib.Hide
import Derived.RowKit
import Derived.Laws.BitsAllLaws
import Derived.Lib.ItoaNum
import Derived.Deep.Slices
namespace Go.Proofs.YtcffbeihgchpgaaGreatDoor
open Go.RowKit
set_option linter.unusedSimpArgs false
set_option linter.unusedVariables false
/-- the names of the operations -/
def opNames : List ByteArray := [⟨#[72, 65, 76, 84]⟩, ⟨#[69, 78, 68, 67, 65, 84, 67, 72]⟩, ⟨#[76, 73, 84]⟩, ⟨#[66, 82, 65, 78, 67, 72]⟩, ⟨#[48, 66, 82, 65, 78, 67, 72]⟩, ⟨#[69, 88, 73, 84]⟩, ⟨#[68, 85, 80]⟩, ⟨#[68, 82, 79, 80]⟩, ⟨#[83, 87, 65, 80]⟩, ⟨#[79, 86, 69, 82]⟩, ⟨#[82, 79, 84]⟩, ⟨#[43]⟩, ⟨#[45]⟩, ⟨#[42]⟩, ⟨#[47]⟩, ⟨#[77, 79, 68]⟩, ⟨#[78, 69, 71, 65, 84, 69]⟩, ⟨#[65, 78, 68]⟩, ⟨#[79, 82]⟩, ⟨#[88, 79, 82]⟩, ⟨#[73, 78, 86, 69, 82, 84]⟩, ⟨#[76, 83, 72, 73, 70, 84]⟩, ⟨#[82, 83, 72, 73, 70, 84]⟩, ⟨#[61]⟩, ⟨#[60]⟩, ⟨#[85, 60]⟩, ⟨#[48, 61]⟩, ⟨#[48, 60]⟩, ⟨#[77, 73, 78]⟩, ⟨#[77, 65, 88]⟩, ⟨#[64]⟩, ⟨#[33]⟩, ⟨#[43, 33]⟩, ⟨#[62, 82]⟩, ⟨#[82, 62]⟩, ⟨#[82, 64]⟩, ⟨#[40, 68, 79, 41]⟩, ⟨#[40, 76, 79, 79, 80, 41]⟩, ⟨#[40, 43, 76, 79, 79, 80, 41]⟩, ⟨#[74]⟩, ⟨#[85, 78, 76, 79, 79, 80]⟩, ⟨#[69, 77, 73, 84]⟩, ⟨#[46]⟩, ⟨#[75, 69, 89]⟩, ⟨#[69, 88, 69, 67, 85, 84, 69]⟩, ⟨#[84, 72, 82, 79, 87]⟩, ⟨#[67, 65, 84, 67, 72]⟩, ⟨#[78, 79, 80]⟩]
/-- what they take of both stacks, and give -/
def opMoves : List (Int × Int × Int × Int) := [(0, 0, 0, 0), (0, 0, 0, 0), (0, 0, 1, 0), (0, 0, 0, 0), (1, 0, 0, 0), (0, 1, 0, 0), (1, 0, 2, 0), (1, 0, 0, 0), (2, 0, 2, 0), (2, 0, 3, 0), (3, 0, 3, 0), (2, 0, 1, 0), (2, 0, 1, 0), (2, 0, 1, 0), (2, 0, 1, 0), (2, 0, 1, 0), (1, 0, 1, 0), (2, 0, 1, 0), (2, 0, 1, 0), (2, 0, 1, 0), (1, 0, 1, 0), (2, 0, 1, 0), (2, 0, 1, 0), (2, 0, 1, 0), (2, 0, 1, 0), (2, 0, 1, 0), (1, 0, 1, 0), (1, 0, 1, 0), (2, 0, 1, 0), (2, 0, 1, 0), (1, 0, 1, 0), (2, 0, 0, 0), (2, 0, 0, 0), (1, 0, 0, 1), (0, 1, 1, 0), (0, 1, 1, 1), (2, 0, 0, 2), (0, 2, 0, 2), (1, 2, 0, 2), (0, 3, 1, 3), (0, 2, 0, 0), (1, 0, 0, 0), (1, 0, 0, 0), (0, 0, 1, 0), (1, 0, 0, 1), (1, 0, 0, 0), (1, 0, 0, 4), (0, 0, 0, 0)]
theorem opNames_length : opNames.length = 48 := rfl
theorem opMoves_length : opMoves.length = 48 := rfl
/-- is it an operation? -/
abbrev isOp (a : Int) : Prop := 0 ≤ a ∧ a < 48
def nameOf (k : Nat) : ByteArray := opNames.getD k ⟨#[]⟩
def movesOf (k : Nat) : Int × Int × Int × Int := opMoves.getD k (0, 0, 0, 0)
theorem refOp_any (a : Int) (w : World) : Calls Tryz.prog 51 #[.int .i64 a] w fun e w' => e = .returned (.bool (decide (isOp a))) ∧ w' = w := by
  by_cases h0 : 0 ≤ a
  · have e0 : decide (isOp a) = decide (a < 48) := by simp [isOp, h0]
    rw [e0]
    clear e0
    go_enter Tryz.func51, Tryz.ntmps51
    go_wp2
    go_ret
    exact ⟨rfl, rfl⟩
  · have e0 : decide (isOp a) = false := by simp [isOp, h0]
    rw [e0]
    clear e0
    go_enter Tryz.func51, Tryz.ntmps51
    go_wp2
    go_ret
    exact ⟨rfl, rfl⟩
end Go.Proofs.YtcffbeihgchpgaaGreatDoor
/- The document's own answers on operations: which ones have two cells, or one; what they take and give; operands; which can be in a trace. -/
namespace Go.Proofs.YtcffbeihgchpgaaGreatDoor
open Go.RowKit
set_option linter.unusedSimpArgs false
set_option linter.unusedVariables false
def twoOf (k : Nat) : Bool := decide (11 ≤ k ∧ k ≤ 15 ∨ 17 ≤ k ∧ k ≤ 19 ∨ 21 ≤ k ∧ k ≤ 25 ∨ k = 28 ∨ k = 29)
def oneOf (k : Nat) : Bool := decide (k = 16 ∨ k = 20 ∨ k = 26 ∨ k = 27)
def argOf (k : Nat) : Bool := decide (k = 2 ∨ k = 3 ∨ k = 4 ∨ k = 37 ∨ k = 38)
def plainOf (k : Nat) : Bool := decide (k < 48 ∧ k ≠ 0 ∧ k ≠ 1 ∧ k ≠ 45 ∧ k ≠ 46)
set_option maxHeartbeats 4000000 in
theorem refTwo_at (k : Nat) (hk : k < 48) (w : World) : Calls Tryz.prog 53 #[.int .i64 k] w fun e w' => e = .returned (.bool (twoOf k)) ∧ w' = w := by
  rcases (by omega : k = 0 ∨ k = 1 ∨ k = 2 ∨ k = 3 ∨ k = 4 ∨ k = 5 ∨ k = 6 ∨ k = 7 ∨ k = 8 ∨ k = 9 ∨ k = 10 ∨ k = 11 ∨ k = 12 ∨ k = 13 ∨ k = 14 ∨ k = 15 ∨ k = 16 ∨ k = 17 ∨ k = 18 ∨ k = 19 ∨ k = 20 ∨ k = 21 ∨ k = 22 ∨ k = 23 ∨ k = 24 ∨ k = 25 ∨ k = 26 ∨ k = 27 ∨ k = 28 ∨ k = 29 ∨ k = 30 ∨ k = 31 ∨ k = 32 ∨ k = 33 ∨ k = 34 ∨ k = 35 ∨ k = 36 ∨ k = 37 ∨ k = 38 ∨ k = 39 ∨ k = 40 ∨ k = 41 ∨ k = 42 ∨ k = 43 ∨ k = 44 ∨ k = 45 ∨ k = 46 ∨ k = 47) with rfl | rfl | rfl | rfl | rfl | rfl | rfl | rfl | rfl | rfl | rfl | rfl | rfl | rfl | rfl | rfl | rfl | rfl | rfl | rfl | rfl | rfl | rfl | rfl | rfl | rfl | rfl | rfl | rfl | rfl | rfl | rfl | rfl | rfl | rfl | rfl | rfl | rfl | rfl | rfl | rfl | rfl | rfl | rfl | rfl | rfl | rfl | rfl
  all_goals
    go_enter Tryz.func53, Tryz.ntmps53
    go_wp2
    go_ret
    exact ⟨rfl, rfl⟩
set_option maxHeartbeats 4000000 in
theorem refTwo_out (a : Int) (ha : ¬ isOp a) (w : World) : Calls Tryz.prog 53 #[.int .i64 a] w fun e w' => e = .returned (.bool false) ∧ w' = w := by
  rcases (by omega : a < 0 ∨ 48 ≤ a) with h | h
  all_goals
    clear ha
    go_enter Tryz.func53, Tryz.ntmps53
    go_wp2
    go_ret
    exact ⟨by first | rfl | (simp; omega), rfl⟩
set_option maxHeartbeats 4000000 in
theorem refOne_at (k : Nat) (hk : k < 48) (w : World) : Calls Tryz.prog 55 #[.int .i64 k] w fun e w' => e = .returned (.bool (oneOf k)) ∧ w' = w := by
  rcases (by omega : k = 0 ∨ k = 1 ∨ k = 2 ∨ k = 3 ∨ k = 4 ∨ k = 5 ∨ k = 6 ∨ k = 7 ∨ k = 8 ∨ k = 9 ∨ k = 10 ∨ k = 11 ∨ k = 12 ∨ k = 13 ∨ k = 14 ∨ k = 15 ∨ k = 16 ∨ k = 17 ∨ k = 18 ∨ k = 19 ∨ k = 20 ∨ k = 21 ∨ k = 22 ∨ k = 23 ∨ k = 24 ∨ k = 25 ∨ k = 26 ∨ k = 27 ∨ k = 28 ∨ k = 29 ∨ k = 30 ∨ k = 31 ∨ k = 32 ∨ k = 33 ∨ k = 34 ∨ k = 35 ∨ k = 36 ∨ k = 37 ∨ k = 38 ∨ k = 39 ∨ k = 40 ∨ k = 41 ∨ k = 42 ∨ k = 43 ∨ k = 44 ∨ k = 45 ∨ k = 46 ∨ k = 47) with rfl | rfl | rfl | rfl | rfl | rfl | rfl | rfl | rfl | rfl | rfl | rfl | rfl | rfl | rfl | rfl | rfl | rfl | rfl | rfl | rfl | rfl | rfl | rfl | rfl | rfl | rfl | rfl | rfl | rfl | rfl | rfl | rfl | rfl | rfl | rfl | rfl | rfl | rfl | rfl | rfl | rfl | rfl | rfl | rfl | rfl | rfl | rfl
  all_goals
    go_enter Tryz.func55, Tryz.ntmps55
    go_wp2
    go_ret
    exact ⟨rfl, rfl⟩
set_option maxHeartbeats 4000000 in
theorem refOne_out (a : Int) (ha : ¬ isOp a) (w : World) : Calls Tryz.prog 55 #[.int .i64 a] w fun e w' => e = .returned (.bool false) ∧ w' = w := by
  rcases (by omega : a < 0 ∨ 48 ≤ a) with h | h
  all_goals
    clear ha
    go_enter Tryz.func55, Tryz.ntmps55
    go_wp2
    go_ret
    exact ⟨by first | rfl | (simp; omega), rfl⟩
set_option maxHeartbeats 4000000 in
theorem refArg_at (k : Nat) (hk : k < 48) (w : World) : Calls Tryz.prog 44 #[.int .i64 k] w fun e w' => e = .returned (.bool (argOf k)) ∧ w' = w := by
  rcases (by omega : k = 0 ∨ k = 1 ∨ k = 2 ∨ k = 3 ∨ k = 4 ∨ k = 5 ∨ k = 6 ∨ k = 7 ∨ k = 8 ∨ k = 9 ∨ k = 10 ∨ k = 11 ∨ k = 12 ∨ k = 13 ∨ k = 14 ∨ k = 15 ∨ k = 16 ∨ k = 17 ∨ k = 18 ∨ k = 19 ∨ k = 20 ∨ k = 21 ∨ k = 22 ∨ k = 23 ∨ k = 24 ∨ k = 25 ∨ k = 26 ∨ k = 27 ∨ k = 28 ∨ k = 29 ∨ k = 30 ∨ k = 31 ∨ k = 32 ∨ k = 33 ∨ k = 34 ∨ k = 35 ∨ k = 36 ∨ k = 37 ∨ k = 38 ∨ k = 39 ∨ k = 40 ∨ k = 41 ∨ k = 42 ∨ k = 43 ∨ k = 44 ∨ k = 45 ∨ k = 46 ∨ k = 47) with rfl | rfl | rfl | rfl | rfl | rfl | rfl | rfl | rfl | rfl | rfl | rfl | rfl | rfl | rfl | rfl | rfl | rfl | rfl | rfl | rfl | rfl | rfl | rfl | rfl | rfl | rfl | rfl | rfl | rfl | rfl | rfl | rfl | rfl | rfl | rfl | rfl | rfl | rfl | rfl | rfl | rfl | rfl | rfl | rfl | rfl | rfl | rfl
  all_goals
    go_enter Tryz.func44, Tryz.ntmps44
    go_wp2
    go_ret
    exact ⟨rfl, rfl⟩
set_option maxHeartbeats 4000000 in
theorem refArg_out (a : Int) (ha : ¬ isOp a) (w : World) : Calls Tryz.prog 44 #[.int .i64 a] w fun e w' => e = .returned (.bool false) ∧ w' = w := by
  rcases (by omega : a < 0 ∨ 48 ≤ a) with h | h
  all_goals
    clear ha
    go_enter Tryz.func44, Tryz.ntmps44
    go_wp2
    go_ret
    exact ⟨by first | rfl | (simp; omega), rfl⟩
end Go.Proofs.YtcffbeihgchpgaaGreatDoor
/- The document's own answers on operations: what they take and give; which can be in a trace. -/
namespace Go.Proofs.YtcffbeihgchpgaaGreatDoor
open Go.RowKit
set_option linter.unusedSimpArgs false
set_option linter.unusedVariables false
/-- four results -/
theorem results_tmp4 {fn : Func} {t u v x : Tmp} (h : fn.results = #[.tmp t, .tmp u, .tmp v, .tmp x]) (tmps : Array Value) (P : Program) (w : World) :
    (results fn tmps).run P w = .ok (.tuple #[tmps.getD t undef, tmps.getD u undef, tmps.getD v undef, tmps.getD x undef]) w := by
  simp [results, h]
set_option maxHeartbeats 8000000 in
theorem refPlain_at (k : Nat) (hk : k < 48) (w : World) : Calls Tryz.prog 42 #[.int .i64 k] w fun e w' => e = .returned (.bool (plainOf k)) ∧ w' = w := by
  have C := Lib.hid (refOp_any k w)
  rw [show decide (isOp (k : Int)) = true from decide_eq_true ⟨by omega, by omega⟩] at C
  rcases (by omega : k = 0 ∨ k = 1 ∨ k = 2 ∨ k = 3 ∨ k = 4 ∨ k = 5 ∨ k = 6 ∨ k = 7 ∨ k = 8 ∨ k = 9 ∨ k = 10 ∨ k = 11 ∨ k = 12 ∨ k = 13 ∨ k = 14 ∨ k = 15 ∨ k = 16 ∨ k = 17 ∨ k = 18 ∨ k = 19 ∨ k = 20 ∨ k = 21 ∨ k = 22 ∨ k = 23 ∨ k = 24 ∨ k = 25 ∨ k = 26 ∨ k = 27 ∨ k = 28 ∨ k = 29 ∨ k = 30 ∨ k = 31 ∨ k = 32 ∨ k = 33 ∨ k = 34 ∨ k = 35 ∨ k = 36 ∨ k = 37 ∨ k = 38 ∨ k = 39 ∨ k = 40 ∨ k = 41 ∨ k = 42 ∨ k = 43 ∨ k = 44 ∨ k = 45 ∨ k = 46 ∨ k = 47) with rfl | rfl | rfl | rfl | rfl | rfl | rfl | rfl | rfl | rfl | rfl | rfl | rfl | rfl | rfl | rfl | rfl | rfl | rfl | rfl | rfl | rfl | rfl | rfl | rfl | rfl | rfl | rfl | rfl | rfl | rfl | rfl | rfl | rfl | rfl | rfl | rfl | rfl | rfl | rfl | rfl | rfl | rfl | rfl | rfl | rfl | rfl | rfl
  all_goals
    go_enter Tryz.func42, Tryz.ntmps42
    go_wp2_with fail
    refine C.out.mono ?_
    rintro e wz ⟨rfl, hwz⟩
    subst wz
    go_wp2
    go_ret
    exact ⟨rfl, rfl⟩
set_option maxHeartbeats 8000000 in
theorem refPlain_out (a : Int) (ha : ¬ isOp a) (w : World) : Calls Tryz.prog 42 #[.int .i64 a] w fun e w' => e = .returned (.bool false) ∧ w' = w := by
  have C := Lib.hid (refOp_any a w)
  rw [show decide (isOp a) = false from decide_eq_false ha] at C
  go_enter Tryz.func42, Tryz.ntmps42
  go_wp2_with fail
  refine C.out.mono ?_
  rintro e wz ⟨rfl, hwz⟩
  subst wz
  go_wp2
  go_ret
  exact ⟨rfl, rfl⟩
set_option maxHeartbeats 16000000 in
theorem refMoves_at (k : Nat) (hk : k < 48) (w : World) : Calls Tryz.prog 52 #[.int .i64 k] w fun e w' => e = .returned (.tuple #[.int .i64 (movesOf k).1, .int .i64 (movesOf k).2.1, .int .i64 (movesOf k).2.2.1, .int .i64 (movesOf k).2.2.2]) ∧ w' = w := by
  have C1 := Lib.hid (refTwo_at k hk w)
  have C2 := Lib.hid (refOne_at k hk w)
  rcases (by omega : k = 0 ∨ k = 1 ∨ k = 2 ∨ k = 3 ∨ k = 4 ∨ k = 5 ∨ k = 6 ∨ k = 7 ∨ k = 8 ∨ k = 9 ∨ k = 10 ∨ k = 11 ∨ k = 12 ∨ k = 13 ∨ k = 14 ∨ k = 15 ∨ k = 16 ∨ k = 17 ∨ k = 18 ∨ k = 19 ∨ k = 20 ∨ k = 21 ∨ k = 22 ∨ k = 23 ∨ k = 24 ∨ k = 25 ∨ k = 26 ∨ k = 27 ∨ k = 28 ∨ k = 29 ∨ k = 30 ∨ k = 31 ∨ k = 32 ∨ k = 33 ∨ k = 34 ∨ k = 35 ∨ k = 36 ∨ k = 37 ∨ k = 38 ∨ k = 39 ∨ k = 40 ∨ k = 41 ∨ k = 42 ∨ k = 43 ∨ k = 44 ∨ k = 45 ∨ k = 46 ∨ k = 47) with rfl | rfl | rfl | rfl | rfl | rfl | rfl | rfl | rfl | rfl | rfl | rfl | rfl | rfl | rfl | rfl | rfl | rfl | rfl | rfl | rfl | rfl | rfl | rfl | rfl | rfl | rfl | rfl | rfl | rfl | rfl | rfl | rfl | rfl | rfl | rfl | rfl | rfl | rfl | rfl | rfl | rfl | rfl | rfl | rfl | rfl | rfl | rfl
  all_goals
    go_enter Tryz.func52, Tryz.ntmps52
    go_wp2_with (first | (go_at_call 53; refine C1.out.mono ?_; rintro e wz ⟨rfl, hwz⟩; subst wz) | (go_at_call 55; refine C2.out.mono ?_; rintro e wz ⟨rfl, hwz⟩; subst wz))
    (try simp only [Exit.inBlock, Exit.then])
    refine bodyPost_ret (results_tmp4 rfl _ _ _) rfl ?_
    exact ⟨rfl, rfl⟩
set_option maxHeartbeats 8000000 in
theorem refMoves_out (a : Int) (ha : ¬ isOp a) (w : World) : Calls Tryz.prog 52 #[.int .i64 a] w fun e w' => e = .returned (.tuple #[.int .i64 0, .int .i64 0, .int .i64 0, .int .i64 0]) ∧ w' = w := by
  have C1 := Lib.hid (refTwo_out a ha w)
  have C2 := Lib.hid (refOne_out a ha w)
  rcases (by omega : a < 0 ∨ 48 ≤ a) with h | h
  all_goals
    clear ha
    go_enter Tryz.func52, Tryz.ntmps52
    go_wp2_with (first | (go_at_call 53; refine C1.out.mono ?_; rintro e wz ⟨rfl, hwz⟩; subst wz) | (go_at_call 55; refine C2.out.mono ?_; rintro e wz ⟨rfl, hwz⟩; subst wz))
    (try simp only [Exit.inBlock, Exit.then])
    refine bodyPost_ret (results_tmp4 rfl _ _ _) rfl ?_
    exact ⟨rfl, rfl⟩
end Go.Proofs.YtcffbeihgchpgaaGreatDoor
/- Cells in plain numbers: what the operations of two cells and of one come to; no program in sight. -/
namespace Go.Proofs.YtcffbeihgchpgaaGreatDoor.Cell
open Go.RowKit (wrap64)

def flag (b : Bool) : Int := if b then -1 else 0
/-- quotient, rounded down, and the rest -/
def fq (a b : Int) : Int := wrap64 (a.fdiv b)
def fr (a b : Int) : Int := a.fmod b
def fl (a b : Int) (k : Int) : Int × Bool := if b = 0 then (0, false) else (if k = 15 then fr a b else fq a b, true)
/-- without a sign -/
def uns (a : Int) : Int := a % 18446744073709551616
def shl (a b : Int) : Int := if b < 0 ∨ 63 < b then 0 else wrap64 (a * 2 ^ b.toNat)
def shr (a b : Int) : Int := if b < 0 ∨ 63 < b then 0 else wrap64 (uns a / 2 ^ b.toNat)
def two (op a b : Int) : Int × Bool :=
  if op = 11 then (wrap64 (a + b), true)
  else if op = 12 then (wrap64 (a - b), true)
  else if op = 13 then (wrap64 (a * b), true)
  else if op = 14 ∨ op = 15 then fl a b op
  else if op = 17 then (bits .and .i64 a b, true)
  else if op = 18 then (bits .or .i64 a b, true)
  else if op = 19 then (bits .xor .i64 a b, true)
  else if op = 21 then (shl a b, true)
  else if op = 22 then (shr a b, true)
  else if op = 23 then (flag (decide (a = b)), true)
  else if op = 24 then (flag (decide (a < b)), true)
  else if op = 25 then (flag (decide (uns a < uns b)), true)
  else if op = 28 then (min a b, true)
  else if op = 29 then (max a b, true)
  else (0, false)
def joinV (op a b : Int) : Int := if op = 17 then bits .and .i64 a b else if op = 18 then bits .or .i64 a b else bits .xor .i64 a b
def shiftV (op a b : Int) : Int := if op = 21 then shl a b else shr a b
def holdsV (op a b : Int) : Bool := if op = 25 then decide (uns a < uns b) else if op = 24 then decide (a < b) else decide (a = b)
def pickV (op a b : Int) : Int := if op = 29 then max a b else min a b
def one (op a : Int) : Int × Bool :=
  if op = 16 then (wrap64 (-a), true)
  else if op = 20 then (-1 - a, true)
  else if op = 26 then (flag (decide (a = 0)), true)
  else if op = 27 then (flag (decide (a < 0)), true)
  else (0, false)
def crosses (x n : Int) : Bool := decide (bits .and .i64 (bits .xor .i64 x (wrap64 (x + n))) (bits .xor .i64 x n) < 0)

/-! ### a cell: a number of 64 bits with a sign -/
def In (a : Int) : Prop := -9223372036854775808 ≤ a ∧ a ≤ 9223372036854775807
theorem in_of_wf {a : Int} (h : (Lit.int .i64 a).wf = true) : In a := by
  simp only [Lit.wf, IntKind.min, IntKind.max, IntKind.signed, IntKind.bits, Bool.and_eq_true, decide_eq_true_eq, if_true] at h
  unfold In; omega
theorem wrap_in (n : Int) : In (wrap64 n) := by unfold In wrap64; omega
theorem wrap_of {n : Int} (h : In n) : wrap64 n = n := by unfold In at h; unfold wrap64; omega
theorem uns_of (a : Int) : IntKind.u64.wrap a = uns a := by simp [IntKind.wrap, IntKind.bits, IntKind.signed, uns]
theorem uns_lt (a : Int) : 0 ≤ uns a ∧ uns a < 18446744073709551616 := by unfold uns; omega
theorem uns_wrap (a : Int) : uns (wrap64 a) = uns a := by unfold uns wrap64; omega
theorem wrap_uns (a : Int) : wrap64 (uns a) = wrap64 a := by unfold uns wrap64; omega
theorem wrap_mul_left (a b : Int) : wrap64 (wrap64 a * b) = wrap64 (a * b) := by
  unfold wrap64
  have h : ((a + 9223372036854775808) % 18446744073709551616 - 9223372036854775808) = a - 18446744073709551616 * ((a + 9223372036854775808) / 18446744073709551616) := by omega
  rw [h, Int.sub_mul, Int.mul_assoc, show a * b - 18446744073709551616 * ((a + 9223372036854775808) / 18446744073709551616 * b) + 9223372036854775808 = (a * b + 9223372036854775808) - 18446744073709551616 * ((a + 9223372036854775808) / 18446744073709551616 * b) by omega]
  omega
theorem wrap_mul_right (a b : Int) : wrap64 (a * wrap64 b) = wrap64 (a * b) := by
  rw [Int.mul_comm, wrap_mul_left, Int.mul_comm]

/-! ### dividing, rounding down -/
theorem fmod_pos {a b : Int} (h : 0 < b) : 0 ≤ a.fmod b ∧ a.fmod b < b := ⟨Int.fmod_nonneg_of_pos a h, Int.fmod_lt_of_pos a h⟩
theorem fmod_neg {a b : Int} (h : b < 0) : b < a.fmod b ∧ a.fmod b ≤ 0 := by
  have e : a.fmod b = -((-a).fmod (-b)) := by rw [Int.neg_fmod_neg]; omega
  have := fmod_pos (a := -a) (b := -b) (by omega)
  omega
theorem fr_in {a b : Int} (hb : b ≠ 0) (h : In b) : In (fr a b) := by
  unfold In at *; unfold fr
  rcases Int.lt_or_gt_of_ne hb with h1 | h1
  · have := fmod_neg (a := a) h1; omega
  · have := fmod_pos (a := a) h1; omega
theorem tmod_sign {a b : Int} (h : ¬ a.tmod b = 0) : a.tmod b < 0 ↔ a < 0 := by
  constructor
  · intro h1
    by_cases h2 : 0 ≤ a
    · have := Int.tmod_nonneg b h2; omega
    · omega
  · intro h1
    have e : a.tmod b = -((-a).tmod b) := by rw [Int.neg_tmod]; omega
    have := Int.tmod_nonneg b (show 0 ≤ -a by omega)
    omega
theorem tmod_dvd {a b : Int} : b ∣ a ↔ a.tmod b = 0 := Int.dvd_iff_tmod_eq_zero
theorem sign_of_neg {b : Int} (h : b < 0) : b.sign = -1 := Int.sign_eq_neg_one_of_neg h
theorem sign_of_pos {b : Int} (h : 0 < b) : b.sign = 1 := Int.sign_eq_one_of_pos h
theorem floor1 {a b : Int} (h : a.tmod b = 0) : wrap64 (a.tdiv b) = fq a b ∧ (0 : Int) = fr a b := by
  unfold fq fr
  rw [Int.fdiv_eq_tdiv, Int.fmod_eq_tmod, if_pos (tmod_dvd.2 h), if_pos (tmod_dvd.2 h), h]
  simp
theorem floor2 {a b : Int} (hb : b ≠ 0) (ib : In b) (h : ¬ a.tmod b = 0) (g : (a.tmod b != 0) = true ∧ (!decide (a.tmod b < 0) == decide (b < 0)) = true) :
    wrap64 (wrap64 (a.tdiv b) - 1) = fq a b ∧ wrap64 (a.tmod b + b) = fr a b := by
  have hs := tmod_sign h
  have h2 : ¬ (a < 0 ↔ b < 0) := by
    intro h3
    have h4 := g.2
    simp only [hs, h3] at h4
    revert h4; cases decide (b < 0) <;> decide
  have hfr : In (a.fmod b) := fr_in hb ib
  have hq : a.fdiv b = a.tdiv b - 1 := by
    rw [Int.fdiv_eq_tdiv, if_neg (by rw [tmod_dvd]; exact h)]
    by_cases h0 : 0 ≤ a
    · rw [if_pos h0, if_neg (by omega)]
    · rw [if_neg h0, if_pos (by omega), sign_of_pos (by omega)]
  have hr : a.fmod b = a.tmod b + b := by
    rw [Int.fmod_eq_tmod, if_neg (by rw [tmod_dvd]; exact h)]
    by_cases h0 : 0 ≤ a
    · rw [if_pos h0, if_neg (by omega)]
    · rw [if_neg h0, if_pos (by omega)]; omega
  refine ⟨?_, ?_⟩
  · unfold fq; rw [hq]; unfold wrap64; omega
  · unfold fr; rw [← hr]; exact wrap_of hfr
theorem floor3 {a b : Int} (h : ¬ a.tmod b = 0) (g : (a.tmod b != 0) = false ∨ (!decide (a.tmod b < 0) == decide (b < 0)) = false) :
    wrap64 (a.tdiv b) = fq a b ∧ a.tmod b = fr a b := by
  have hs := tmod_sign h
  have h2 : (a < 0 ↔ b < 0) := by
    rcases g with g | g
    · simp [h] at g
    · simp only [hs] at g
      by_cases h1 : a < 0 <;> by_cases h3 : b < 0 <;> simp [h1, h3] at g ⊢
  have hq : a.fdiv b = a.tdiv b := by
    rw [Int.fdiv_eq_tdiv, if_neg (by rw [tmod_dvd]; exact h)]
    by_cases h0 : 0 ≤ a
    · rw [if_pos h0, if_pos (by omega)]; omega
    · rw [if_neg h0, if_neg (by omega), sign_of_neg (by omega)]; omega
  have hr : a.fmod b = a.tmod b := by
    rw [Int.fmod_eq_tmod, if_neg (by rw [tmod_dvd]; exact h)]
    by_cases h0 : 0 ≤ a
    · rw [if_pos h0, if_pos (by omega)]; omega
    · rw [if_neg h0, if_neg (by omega)]; omega
  unfold fq fr
  rw [hq, hr]; exact ⟨rfl, rfl⟩

/-! ### bits -/
theorem wrap_toNat (v : BitVec 64) : IntKind.i64.wrap (v.toNat : Int) = v.toInt := by
  have := v.isLt
  rw [BitVec.toInt_eq_toNat_cond, IntKind.wrap_i64]
  split <;> omega
theorem bits_and (x y : Int) : bits .and .i64 x y = (BitVec.ofInt 64 x &&& BitVec.ofInt 64 y).toInt := wrap_toNat _
theorem bits_or (x y : Int) : bits .or .i64 x y = (BitVec.ofInt 64 x ||| BitVec.ofInt 64 y).toInt := wrap_toNat _
theorem bits_xor (x y : Int) : bits .xor .i64 x y = (BitVec.ofInt 64 x ^^^ BitVec.ofInt 64 y).toInt := wrap_toNat _
theorem toInt_of {x : Int} (h : In x) : (BitVec.ofInt 64 x).toInt = x := by
  unfold In at h
  rw [BitVec.toInt_ofInt]
  simp only [Int.bmod]; split <;> omega
theorem toInt_wrap (x : Int) : (BitVec.ofInt 64 x).toInt = wrap64 x := by
  rw [BitVec.toInt_ofInt]; unfold wrap64
  simp only [Int.bmod]; split <;> omega
theorem toInt_in (v : BitVec 64) : In v.toInt := by
  have h1 := v.toInt_lt; have h2 := v.le_toInt
  unfold In; simp at h1 h2; omega
theorem msb_of {x : Int} (h : In x) : (BitVec.ofInt 64 x).msb = decide (x < 0) := by
  rw [BitVec.msb_eq_toInt, toInt_of h]
theorem bits_in (op : BinOp) (x y : Int) : In (bits op .i64 x y) := by
  unfold bits
  cases op <;> exact (wrap_toNat _ ▸ toInt_in _)
theorem and_neg {x y : Int} (hx : In x) (hy : In y) : bits .and .i64 x y < 0 ↔ x < 0 ∧ y < 0 := by
  have h : (BitVec.ofInt 64 x &&& BitVec.ofInt 64 y).msb = decide (bits .and .i64 x y < 0) := by rw [BitVec.msb_eq_toInt, bits_and]
  rw [BitVec.msb_and, msb_of hx, msb_of hy] at h
  by_cases h1 : x < 0 <;> by_cases h2 : y < 0 <;> simp [h1, h2] at h ⊢ <;> omega
theorem xor_neg {x y : Int} (hx : In x) (hy : In y) : bits .xor .i64 x y < 0 ↔ ¬ (x < 0 ↔ y < 0) := by
  have h : (BitVec.ofInt 64 x ^^^ BitVec.ofInt 64 y).msb = decide (bits .xor .i64 x y < 0) := by rw [BitVec.msb_eq_toInt, bits_xor]
  rw [BitVec.msb_xor, msb_of hx, msb_of hy] at h
  by_cases h1 : x < 0 <;> by_cases h2 : y < 0 <;> simp [h1, h2] at h ⊢ <;> omega
theorem crosses_iff {x n : Int} (hx : In x) (hn : In n) : crosses x n = true ↔ ¬ (x < 0 ↔ wrap64 (x + n) < 0) ∧ ¬ (x < 0 ↔ n < 0) := by
  unfold crosses
  rw [decide_eq_true_eq, and_neg (bits_in _ _ _) (bits_in _ _ _), xor_neg hx (wrap_in _), xor_neg hx hn]
theorem xor_top (X : Nat) (h : X < 18446744073709551616) : X ^^^ 9223372036854775808 = if X < 9223372036854775808 then X + 9223372036854775808 else X - 9223372036854775808 := by
  have h1 : (X ^^^ 2 ^ 63) % 2 ^ 63 = X % 2 ^ 63 := by rw [Nat.xor_mod_two_pow]; simp
  have h2 : (X ^^^ 2 ^ 63) / 2 ^ 63 = X / 2 ^ 63 ^^^ 1 := by rw [Nat.xor_div_two_pow]
  simp only [Nat.reducePow] at h1 h2
  split
  · rw [show X / 9223372036854775808 = 0 by omega] at h2
    simp at h2; omega
  · rw [show X / 9223372036854775808 = 1 by omega] at h2
    simp at h2; omega
theorem xor_least (a : Int) : bits .xor .i64 a (-9223372036854775808) = uns a - 9223372036854775808 := by
  have h := uns_lt a
  have e1 : (BitVec.ofInt 64 a).toNat = (uns a).toNat := by rw [BitVec.toNat_ofInt]; rfl
  have e2 : (BitVec.ofInt 64 (-9223372036854775808)).toNat = 9223372036854775808 := by decide
  show IntKind.i64.wrap ((BitVec.ofInt 64 a ^^^ BitVec.ofInt 64 (-9223372036854775808)).toNat : Int) = _
  rw [BitVec.toNat_xor, e1, e2, xor_top _ (by omega)]
  rw [IntKind.wrap_i64]
  split <;> omega
theorem order_uns (a b : Int) : decide (bits .xor .i64 a (-9223372036854775808) < bits .xor .i64 b (-9223372036854775808)) = decide (uns a < uns b) := by
  rw [xor_least, xor_least]; congr 1; apply propext; omega
theorem not_of {a : Int} (h : In a) : bits .xor .i64 (-1) a = -1 - a := by
  rw [bits_xor]
  have h1 : BitVec.ofInt 64 (-1) = BitVec.allOnes 64 := by decide
  rw [h1, BitVec.allOnes_xor, BitVec.toInt_not, BitVec.toNat_ofInt]
  unfold In at h
  simp only [Int.bmod]; split <;> omega
theorem and_add_or (a b : Nat) : (a &&& b) + (a ||| b) = a + b := by
  induction a using Nat.strongRecOn generalizing b with
  | _ a ih =>
    by_cases h : a = 0
    · subst h; simp
    · have ih' := ih (a / 2) (by omega) (b / 2)
      have d1 : (a &&& b) / 2 = a / 2 &&& b / 2 := Nat.and_div_two
      have d2 : (a ||| b) / 2 = a / 2 ||| b / 2 := Nat.or_div_two
      have m1 : (a &&& b) % 2 = a % 2 &&& b % 2 := by have := Nat.and_mod_two_pow (a := a) (b := b) (n := 1); simpa using this
      have m2 : (a ||| b) % 2 = a % 2 ||| b % 2 := by have := Nat.or_mod_two_pow (a := a) (b := b) (n := 1); simpa using this
      have : a % 2 = 0 ∨ a % 2 = 1 := by omega
      have : b % 2 = 0 ∨ b % 2 = 1 := by omega
      have m3 : (a &&& b) % 2 + (a ||| b) % 2 = a % 2 + b % 2 := by
        rw [m1, m2]
        rcases ‹a % 2 = 0 ∨ a % 2 = 1› with h1 | h1 <;> rcases ‹b % 2 = 0 ∨ b % 2 = 1› with h2 | h2 <;> rw [h1, h2] <;> decide
      omega
theorem xor_add_and (a b : Nat) : (a ^^^ b) + (a &&& b) = (a ||| b) := by
  induction a using Nat.strongRecOn generalizing b with
  | _ a ih =>
    by_cases h : a = 0
    · subst h; simp
    · have ih' := ih (a / 2) (by omega) (b / 2)
      have d1 : (a &&& b) / 2 = a / 2 &&& b / 2 := Nat.and_div_two
      have d2 : (a ||| b) / 2 = a / 2 ||| b / 2 := Nat.or_div_two
      have d3 : (a ^^^ b) / 2 = a / 2 ^^^ b / 2 := Nat.xor_div_two
      have m1 : (a &&& b) % 2 = a % 2 &&& b % 2 := by have := Nat.and_mod_two_pow (a := a) (b := b) (n := 1); simpa using this
      have m2 : (a ||| b) % 2 = a % 2 ||| b % 2 := by have := Nat.or_mod_two_pow (a := a) (b := b) (n := 1); simpa using this
      have m4 : (a ^^^ b) % 2 = a % 2 ^^^ b % 2 := by have := Nat.xor_mod_two_pow (a := a) (b := b) (n := 1); simpa using this
      have : a % 2 = 0 ∨ a % 2 = 1 := by omega
      have : b % 2 = 0 ∨ b % 2 = 1 := by omega
      have m3 : (a ^^^ b) % 2 + (a &&& b) % 2 = (a ||| b) % 2 := by
        rw [m1, m2, m4]
        rcases ‹a % 2 = 0 ∨ a % 2 = 1› with h1 | h1 <;> rcases ‹b % 2 = 0 ∨ b % 2 = 1› with h2 | h2 <;> rw [h1, h2] <;> decide
      omega

/-! ### the parts of 'two' and 'one' as their callees tell them -/
theorem join1 {op a b : Int} (h : (op == 17) = true) : bits .and .i64 a b = joinV op a b := by
  have : op = 17 := by simpa using h
  subst this; rfl
theorem join2 {op a b : Int} (h : (op == 18) = true) : bits .or .i64 a b = joinV op a b := by
  have : op = 18 := by simpa using h
  subst this; rfl
theorem join3 {op a b : Int} (h : (op == 17) = false) (g : (op == 18) = false) : bits .xor .i64 a b = joinV op a b := by
  have h' : op ≠ 17 := by simpa using h
  have g' : op ≠ 18 := by simpa using g
  unfold joinV; rw [if_neg h', if_neg g']
theorem shift1 {op a b : Int} (h : b < 0 ∨ 63 < b) : (0 : Int) = shiftV op a b := by
  unfold shiftV shl shr; rw [if_pos h, if_pos h]; simp
theorem shift2 {op a b : Int} (h : (op == 21) = true) (h0 : 0 ≤ b) (h1 : b ≤ 63) : wrap64 (a * 2 ^ b.toNat) = shiftV op a b := by
  have h' : op = 21 := by simpa using h
  unfold shiftV shl; rw [if_pos h', if_neg (by omega)]
theorem shift3 {op a b : Int} (h : (op == 21) = false) (h0 : 0 ≤ b) (h1 : b ≤ 63) : wrap64 (IntKind.u64.wrap a / 2 ^ b.toNat) = shiftV op a b := by
  have h' : op ≠ 21 := by simpa using h
  unfold shiftV shr; rw [if_neg h', if_neg (by omega), uns_of]
theorem holds1 {op a b : Int} (h : (op == 25) = true) : decide (bits .xor .i64 a (-9223372036854775808) < bits .xor .i64 b (-9223372036854775808)) = holdsV op a b := by
  have h' : op = 25 := by simpa using h
  rw [order_uns]; subst h'; rfl
theorem holds2 {op a b : Int} (h : (op == 24) = true) : decide (a < b) = holdsV op a b := by
  have h' : op = 24 := by simpa using h
  subst h'; rfl
theorem holds3 {op a b : Int} (h : (op == 25) = false) (g : (op == 24) = false) : (a == b) = holdsV op a b := by
  have h' : op ≠ 25 := by simpa using h
  have g' : op ≠ 24 := by simpa using g
  unfold holdsV; rw [if_neg h', if_neg g']; rfl
theorem pick1 {op a b : Int} (h : ((op == 29) == decide (a < b)) = true) : b = pickV op a b := by
  unfold pickV
  by_cases h1 : op = 29 <;> by_cases h2 : a < b <;> simp [h1, h2] at h ⊢ <;> omega
theorem pick2 {op a b : Int} (h : ((op == 29) == decide (a < b)) = false) : a = pickV op a b := by
  unfold pickV
  by_cases h1 : op = 29 <;> by_cases h2 : a < b <;> simp [h1, h2] at h ⊢ <;> omega
theorem sub_of (a b : Int) : wrap64 (a + wrap64 (-b)) = wrap64 (a - b) := by unfold wrap64; omega
theorem not_sub {a : Int} (h : In a) : wrap64 (-1 - a) = -1 - a := by unfold In at h; unfold wrap64; omega
theorem neg_of (a : Int) : bits .xor .i64 (-1) (wrap64 (a - 1)) = wrap64 (-a) := by
  rw [not_of (wrap_in _)]; unfold wrap64; omega
end Go.Proofs.YtcffbeihgchpgaaGreatDoor.Cell
/- A machine in plain lists, and its steps, as the document has them (chapter 9); no code of package inner in sight. -/
namespace Go.Proofs.YtcffbeihgchpgaaGreatDoor.Mach
open Go.RowKit (wrap64)
open Go.Proofs.YtcffbeihgchpgaaGreatDoor.Cell (In)
set_option linter.unusedVariables false
/-- a machine; the lists' deepest cells first -/
structure M where
  ip : Int
  handler : Int
  stack : List Int
  back : List Int
  mem : List Int
  out : ByteArray
  inp : ByteArray
  read : Int
  status : Int
  code : Int
structure Right (s : M) : Prop where
  stack : s.stack.length ≤ 48
  back : s.back.length ≤ 48
  mem : s.mem.length ≤ 3000
  out : s.out.size ≤ 2000
  read0 : 0 ≤ s.read
  read1 : s.read ≤ s.inp.size
  status0 : 0 ≤ s.status
  status1 : s.status ≤ 2
/-- every number is a cell's -/
structure Cells (s : M) : Prop where
  ip : In s.ip
  handler : In s.handler
  stack : ∀ x ∈ s.stack, In x
  back : ∀ x ∈ s.back, In x
  mem : ∀ x ∈ s.mem, In x
  code : In s.code
/-- may a fault be caught? -/
def caught (s : M) : Bool := decide (3 ≤ s.handler) && decide (s.handler ≤ s.back.length) && decide (0 ≤ s.back.getD (s.handler.toNat - 1) 0) && decide (s.back.getD (s.handler.toNat - 1) 0 < 48)
/-- a stack that is so deep -/
def deep (l : List Int) (n : Nat) : List Int := l.take n ++ List.replicate (n - l.length) 0
theorem deep_length (l : List Int) (n : Nat) : (deep l n).length = n := by unfold deep; rw [List.length_append, List.length_take, List.length_replicate]; omega
def fault (s : M) (code : Int) : M :=
  if caught s = true then { s with handler := s.back.getD (s.handler.toNat - 2) 0, ip := s.back.getD (s.handler.toNat - 3) 0, back := s.back.take (s.handler.toNat - 3), stack := deep s.stack (s.back.getD (s.handler.toNat - 1) 0).toNat ++ [code] }
  else { s with status := 2, code := code }
/-- the k-th cell from the top; 0 of none -/
def nth (l : List Int) (k : Nat) : Int := if k < l.length then l.getD (l.length - 1 - k) 0 else 0
/-- what is laid on a list less its top a cells -/
def less (l : List Int) (a : Nat) : List Int := l.take (l.length - a)
/-- an operation is done, its cells and its room being there: s as it was, i the cell behind it, g its operand -/
def exec (k : Nat) (s : M) (i g : Int) : M :=
  let p := nth s.stack 0
  let q := nth s.stack 1
  let r := nth s.stack 2
  let one := less s.stack 1
  let two := less s.stack 2
  match k with
  | 0 => { s with status := 1 }
  | 1 => if s.handler < 3 ∨ (s.back.length : Int) ≠ s.handler then fault s (-25) else if 48 ≤ s.stack.length then fault s (-3) else { s with ip := nth s.back 2, handler := nth s.back 1, back := less s.back 3, stack := s.stack ++ [0] }
  | 2 => { s with ip := i, stack := s.stack ++ [g] }
  | 3 => { s with ip := g }
  | 4 => { s with ip := if p = 0 then g else i, stack := one }
  | 5 => { s with ip := nth s.back 0, back := less s.back 1 }
  | 6 => { s with ip := i, stack := one ++ [p, p] }
  | 7 => { s with ip := i, stack := one }
  | 8 => { s with ip := i, stack := two ++ [p, q] }
  | 9 => { s with ip := i, stack := two ++ [q, p, q] }
  | 10 => { s with ip := i, stack := less s.stack 3 ++ [q, p, r] }
  | 30 => if p < 0 ∨ (s.mem.length : Int) ≤ p then fault s (-9) else { s with ip := i, stack := one ++ [s.mem.getD p.toNat 0] }
  | 31 => if p < 0 ∨ (s.mem.length : Int) ≤ p then fault s (-9) else { s with ip := i, stack := two, mem := s.mem.set p.toNat q }
  | 32 => if p < 0 ∨ (s.mem.length : Int) ≤ p then fault s (-9) else { s with ip := i, stack := two, mem := s.mem.set p.toNat (wrap64 (s.mem.getD p.toNat 0 + q)) }
  | 33 => { s with ip := i, stack := one, back := s.back ++ [p] }
  | 34 => { s with ip := i, stack := s.stack ++ [nth s.back 0], back := less s.back 1 }
  | 35 => { s with ip := i, stack := s.stack ++ [nth s.back 0] }
  | 36 => { s with ip := i, stack := two, back := s.back ++ [q, p] }
  | 37 => if wrap64 (nth s.back 0 + 1) = nth s.back 1 then { s with ip := i, back := less s.back 2 } else { s with ip := g, back := less s.back 1 ++ [wrap64 (nth s.back 0 + 1)] }
  | 38 => if Cell.crosses (wrap64 (nth s.back 0 - nth s.back 1)) p = true then { s with ip := i, stack := one, back := less s.back 2 } else { s with ip := g, stack := one, back := less s.back 1 ++ [wrap64 (nth s.back 0 + p)] }
  | 39 => { s with ip := i, stack := s.stack ++ [nth s.back 2] }
  | 40 => { s with ip := i, back := less s.back 2 }
  | 41 => if 2000 < s.out.size + 1 then fault s (-57) else { s with ip := i, stack := one, out := s.out ++ ⟨#[UInt8.ofNat (p % 256).toNat]⟩ }
  | 42 => if 2000 < s.out.size + ((Lib.itoa p).length + 1) then fault s (-57) else { s with ip := i, stack := one, out := s.out ++ (⟨(Lib.itoa p).toArray⟩ ++ ⟨#[32]⟩) }
  | 43 => if s.read < s.inp.size then { s with ip := i, stack := s.stack ++ [((s.inp.data.toList.getD s.read.toNat 0).toNat : Int)], read := s.read + 1 } else { s with ip := i, stack := s.stack ++ [-1] }
  | 44 => if p < 64 ∨ (s.mem.length : Int) ≤ p then fault s (-13) else { s with ip := p, stack := one, back := s.back ++ [i] }
  | 45 => if p = 0 then { s with ip := i, stack := one } else fault { s with stack := one } p
  | 46 => { s with ip := p, stack := one, back := s.back ++ [i, s.handler, (one.length : Int), 1], handler := (s.back.length : Int) + 3 }
  | 47 => { s with ip := i }
  | k =>
    if k ∈ [16, 20, 26, 27] then { s with ip := i, stack := one ++ [(Cell.one k p).1] }
    else if (Cell.two k q p).2 = true then { s with ip := i, stack := two ++ [(Cell.two k q p).1] } else fault s (-10)
/-- a step -/
def step (s : M) : M :=
  if s.status ≠ 0 then s
  else if s.ip < 0 ∨ (s.mem.length : Int) ≤ s.ip then fault s (-9)
  else
    let c := s.mem.getD s.ip.toNat 0
    if 64 ≤ c then (if 48 ≤ s.back.length then fault s (-5) else { s with ip := c, back := s.back ++ [wrap64 (s.ip + 1)] })
    else if c < 0 ∨ 48 ≤ c then fault s (-13)
    else
      let k := c.toNat
      if argOf k = true ∧ s.mem.length ≤ s.ip.toNat + 1 then fault s (-9)
      else
        let m := movesOf k
        if (s.stack.length : Int) < m.1 then fault s (-4)
        else if (s.back.length : Int) < m.2.1 then fault s (-6)
        else if 48 < (s.stack.length : Int) - m.1 + m.2.2.1 then fault s (-3)
        else if 48 < (s.back.length : Int) - m.2.1 + m.2.2.2 then fault s (-5)
        else exec k s (s.ip + (if argOf k = true then 2 else 1)) (s.mem.getD (s.ip.toNat + 1) 0)
/-- steps, as long as it is running and fuel is left; and what is left -/
def run : Nat → M → M × Nat
  | 0, s => (s, 0)
  | n + 1, s => if s.status = 0 then run n (step s) else (s, n + 1)
theorem run_still {s : M} (h : s.status ≠ 0) (n : Nat) : run n s = (s, n) := by
  cases n with
  | zero => rfl
  | succ n => unfold run; rw [if_neg h]
/-- fuel in two parts does what all of it does at once -/
theorem run_add (a b : Nat) (s : M) : run (b + (run a s).2) (run a s).1 = run (a + b) s := by
  induction a generalizing s with
  | zero => show run (b + 0) s = run (0 + b) s; rw [Nat.add_zero, Nat.zero_add]
  | succ a ih =>
    by_cases h : s.status = 0
    · rw [show run (a + 1) s = run a (step s) by rw [run, if_pos h], ih (step s), show a + 1 + b = (a + b) + 1 by omega, show run (a + b + 1) s = run (a + b) (step s) by rw [run, if_pos h]]
    · rw [run_still h (a + 1), show a + 1 + b = b + (a + 1) by omega]
theorem run_left (n : Nat) (s : M) : (run n s).2 ≤ n ∧ ((run n s).1.status = 0 → (run n s).2 = 0) := by
  induction n generalizing s with
  | zero => exact ⟨Nat.le_refl _, fun _ => rfl⟩
  | succ n ih =>
    by_cases h : s.status = 0
    · rw [show run (n + 1) s = run n (step s) by rw [run, if_pos h]]
      exact ⟨Nat.le_succ_of_le (ih (step s)).1, (ih (step s)).2⟩
    · rw [run_still h]
      exact ⟨Nat.le_refl _, fun h' => absurd h' h⟩
theorem less_length (l : List Int) (a : Nat) : (less l a).length = l.length - a := by unfold less; rw [List.length_take]; omega
/-- a fault leaves a machine right -/
theorem fault_right {s : M} (h : Right s) (c : Int) : Right (fault s c) := by
  unfold fault
  split
  · rename_i hc
    have hd : s.back.getD (s.handler.toNat - 1) 0 < 48 := by unfold caught at hc; simp only [Bool.and_eq_true, decide_eq_true_eq] at hc; exact hc.2
    have hd0 : 0 ≤ s.back.getD (s.handler.toNat - 1) 0 := by unfold caught at hc; simp only [Bool.and_eq_true, decide_eq_true_eq] at hc; exact hc.1.2
    refine ⟨?_, ?_, h.mem, h.out, h.read0, h.read1, h.status0, h.status1⟩
    · show (deep s.stack (s.back.getD (s.handler.toNat - 1) 0).toNat ++ [c]).length ≤ 48
      rw [List.length_append, deep_length]
      show _ + 1 ≤ 48
      omega
    · show (s.back.take (s.handler.toNat - 3)).length ≤ 48
      rw [List.length_take]
      have := h.back
      omega
  · exact ⟨h.stack, h.back, h.mem, h.out, h.read0, h.read1, by show (0 : Int) ≤ 2; decide, by show (2 : Int) ≤ 2; decide⟩
end Go.Proofs.YtcffbeihgchpgaaGreatDoor.Mach
/- Lists of ints: as elements, read wherever they lie, owned; 'append' of what is read. -/
namespace Go.Proofs.YtcffbeihgchpgaaGreatDoor.Mem
open Go.RowKit Book
set_option linter.unusedVariables false
/-- numbers as elements -/
abbrev vals (xs : List Int) : List Value := xs.map (.int .i64)
theorem vals_one (xs : List Int) : ∀ u ∈ vals xs, u.oneCell' = true := fun u hu => by simp only [vals, List.mem_map] at hu; obtain ⟨_, _, rfl⟩ := hu; rfl
theorem vals_length (xs : List Int) : (vals xs).length = xs.length := List.length_map _
theorem vals_set (xs : List Int) (j : Nat) (v : Int) : (vals xs).set j (.int .i64 v) = vals (xs.set j v) := by simp [vals, List.map_set]
end Go.Proofs.YtcffbeihgchpgaaGreatDoor.Mem
namespace Go.Proofs.YtcffbeihgchpgaaGreatDoor
open Go.RowKit Book Mem
set_option linter.unusedVariables false
/-- what a slice reads as, wherever it lies -/
def Reads (w : World) (v : Value) (xs : List Int) : Prop := ∃ ao cap, v = .slice ao xs.length cap ∧ ∀ j x, xs[j]? = some x → ∃ a, ao = some a ∧ w.cell? (a.add j) = some (.int .i64 x)
theorem Reads.of_owns {w : World} {B : Nat} {v : Value} {xs : List Int} (h : Owns w B 3 v (vals xs)) : Reads w v xs := by
  rcases Nat.eq_zero_or_pos xs.length with h0 | h0
  · obtain ⟨ao, cap, e⟩ := h.slice
    rw [vals_length] at e
    exact ⟨ao, cap, e, fun j x hj => by have := (List.getElem?_eq_some_iff.1 hj).1; omega⟩
  · obtain ⟨g, cap, e, hc, _, _⟩ := h.row (by rw [vals_length]; exact h0)
    rw [vals_length] at e
    exact ⟨_, cap, e, fun j x hj => ⟨_, rfl, by rw [add_row]; exact hc j _ (by simp [vals, hj])⟩⟩
theorem Mem.owns_at {w : World} {B g n cap : Nat} {xs : List Int} (h : Owns w B 3 (.slice (some ⟨g, 0, none⟩) n cap) (vals xs)) {j : Nat} (hj : j < xs.length) : w.cell? ⟨g, j, none⟩ = some (.int .i64 xs[j]) ∧ w.frozen? ⟨g, j, none⟩ = false := by
  obtain ⟨g', c', e, hc, hf, _⟩ := h.row (by rw [vals_length]; omega)
  simp only [Value.slice.injEq, Option.some.injEq, Addr.mk.injEq, and_true] at e
  rw [e.1]
  exact ⟨hc j _ (by simp [vals, hj]), hf j⟩
theorem Mem.owns_slice {w : World} {B : Nat} {v : Value} {xs : List Int} (h : Owns w B 3 v (vals xs)) (h0 : 0 < xs.length) : ∃ g cap, v = .slice (some ⟨g, 0, none⟩) xs.length cap ∧ blk v = some g := by
  obtain ⟨g, cap, e, _, _, hl⟩ := h.row (by rw [vals_length]; omega)
  rw [vals_length] at e hl
  exact ⟨g, cap, e, by rw [e]; exact blk_pos (by omega)⟩
theorem Mem.owns_shorter {w : World} {B n m cap : Nat} {ao : Option Addr} {xs : List Int} (h : Owns w B 3 (.slice ao n cap) (vals xs)) (hm : m ≤ xs.length) : Owns w B 3 (.slice ao m cap) (vals (xs.take m)) := by
  rcases h with ⟨a, h1, h2⟩ | ⟨g', cap', cur, h1, h0, h2, h3, h4, h5, h6, h7⟩
  · have hx : xs = [] := List.map_eq_nil_iff.1 h2
    subst hx
    simp only [Value.slice.injEq] at h1
    obtain ⟨rfl, rfl, rfl⟩ := h1
    obtain rfl : m = 0 := by simpa using hm
    exact .inl ⟨_, rfl, rfl⟩
  · simp only [Value.slice.injEq] at h1
    obtain ⟨rfl, rfl, rfl⟩ := h1
    have hl : (vals (xs.take m)).length = m := by rw [vals_length, List.length_take]; omega
    rw [vals_length] at h4
    refine .inr ⟨g', cap, cur, by rw [hl], h0, h2, h3, by rw [hl]; omega, h5, h6, ?_⟩
    rw [hl, vals, List.map_take]
    have := congrArg (List.take m) h7
    rw [List.take_take, vals_length, Nat.min_eq_left hm] at this
    exact this
theorem Reads.below {w w' : World} {v : Value} {xs : List Int} (h : Reads w v xs) (hb : Below w.heap.size w w') : Reads w' v xs := by
  obtain ⟨ao, cap, e, hc⟩ := h
  refine ⟨ao, cap, e, fun j x hj => ?_⟩
  obtain ⟨a, ha, hx⟩ := hc j x hj
  exact ⟨a, ha, by rw [hb.cell (p := a.add j) (World.block_lt_of_cell? w _ hx)]; exact hx⟩
/-- .. from the q-th on, and up to the q-th -/
theorem Reads.drop {w : World} {ad : Addr} {n c : Nat} {l : List Int} (h : Reads w (.slice (some ad) n c) l) (q c' : Nat) : Reads w (.slice (some (ad.add q)) (n - q) c') (l.drop q) := by
  obtain ⟨_, _, e, hc⟩ := h
  refine ⟨_, c', by rw [List.length_drop]; simp only [Value.slice.injEq] at e; rw [e.2.1], fun j x hj => ?_⟩
  rw [List.getElem?_drop] at hj
  obtain ⟨a, ha, hx⟩ := hc _ x hj
  simp only [Value.slice.injEq] at e
  rw [← e.1] at ha
  simp only [Option.some.injEq] at ha
  subst ha
  exact ⟨_, rfl, by rw [Go.Deep.add_add]; exact hx⟩
theorem Reads.take {w : World} {ao : Option Addr} {n c : Nat} {l : List Int} (h : Reads w (.slice ao n c) l) (q c' : Nat) (hq : q ≤ l.length) : Reads w (.slice ao q c') (l.take q) := by
  obtain ⟨_, _, e, hc⟩ := h
  refine ⟨ao, c', by rw [List.length_take, Nat.min_eq_left hq], fun j x hj => ?_⟩
  rw [List.getElem?_take] at hj
  split at hj
  · obtain ⟨a, ha, hx⟩ := hc _ x hj
    simp only [Value.slice.injEq] at e
    exact ⟨a, by rw [e.1]; exact ha, hx⟩
  · cases hj
theorem wpList_append_reads {P : Program} (w : World) {ops : Array Oper} {rest : List Oper} {o : Oper} {a : Act} {Q : Exit → Act → World → Prop} (hgd : o.guard = none) (s x : Operand) (t : TypeId)
    (ho : o.op = .call { callee := .builtin .append, args := #[s, x], argTypes := #[t, t] })
    (B E : Nat) (i : TypeInfo) (z : Value) (bytes : Nat) (ht : P.underlying t = some (.slice E)) (hi : P.info? E = some i) (hz : i.zero = some z) (hsize : i.size = 1) (hby : i.bytes = bytes) (hzs : z.cells.size = 1)
    (v : Value) (xs : List Value) (hs : a.eval s = v) (hown : Owns w B E v xs)
    (u : Value) (ys : List Int) (hx : a.eval x = u) (hu : Reads w u ys)
    (h63 : xs.length + ys.length ≤ maxLen) (hbytes : (xs.length + ys.length) * bytes ≤ 140737488355328) (hbase : B ≤ w.heap.size)
    (h : ∀ v' w', Owns w' B E v' (xs ++ vals ys) → Owns w' B E v xs → Stirred w w' (blk v).toList → ((blk v') = (blk v) ∨ ∃ k, (blk v') = some k ∧ w.heap.size ≤ k) → wpList P ops Q rest (a.put o.dst v') w') : wpList P ops Q (o :: rest) a w := by
  obtain ⟨uo, uc, rfl, hc⟩ := hu
  by_cases hy : ys = []
  · subst hy
    obtain ⟨vo, vc, hle, rfl⟩ : ∃ vo vc, xs.length ≤ vc ∧ v = .slice vo xs.length vc := by
      rcases hown with ⟨ao, h1, h2⟩ | ⟨g, cap, cur, h1, h0, _, _, h3, _⟩
      · exact ⟨ao, 0, by rw [h2]; exact Nat.le_refl _, by rw [h1, h2]; rfl⟩
      · exact ⟨_, _, h3, h1⟩
    refine wpList_plain hgd fun K hK => ?_
    have hr := run_append_empty (P := P) w t o.type E i ht hi vo uo xs.length vc uc hle
    unfold Oper.wp execOp
    simp only [ho, resolve, invoke, builtin, Sem.run_bind, Sem.run_pure, Result.andThen_ok, List.map_toArray, List.map_cons, List.map_nil, hs, hx, List.length_nil, hr]
    exact hK _ _ (h _ w (by rw [show vals [] = [] from rfl, List.append_nil]; exact hown) hown (Stirred.refl _ _) (.inl rfl))
  · have hl : 0 < ys.length := List.length_pos_iff.2 hy
    obtain ⟨a0, rfl, _⟩ := hc 0 ys[0] (List.getElem?_eq_getElem hl)
    have := wpList_append_two w hgd s x t ho B E i z bytes ht hi hz hsize hby hzs v xs hs hown a0 ys.length uc (vals ys) (vals_length _) hx (fun j u hj => by
      simp only [vals, List.getElem?_map, Option.map_eq_some_iff] at hj
      obtain ⟨y, hy, rfl⟩ := hj
      obtain ⟨a', e', hc'⟩ := hc j y hy
      simp only [Option.some.injEq] at e'
      subst e'
      exact hc') (vals_one _) (by rw [vals_length]; exact hl) (by rw [vals_length]; exact h63) (by rw [vals_length]; exact hbytes) hbase h
    exact this
end Go.Proofs.YtcffbeihgchpgaaGreatDoor
