
/- The walks of hollowaybook over lists of ints: marks, comparison. -/
import Derived.Test.YtgabemlehmhgpaaDoorRows
import Derived.Test.YtgabemlehmhgpaaDoorBookPlain
import Derived.Test.YtgabemlehmhgpaaDoorBookTexts
import Derived.WalkKit
import Derived.WalkSpells
import Derived.WalkLawsBesides
import Derived.Lib.Hide
import Derived.Laws.BytesArg
import Derived.Deep.LoopGhost
import Derived.Laws.AppendOwnNone
import Derived.BigQuiet
import Derived.Deep.QuietTactic
namespace Go.Proofs.YtgabemlehmhgpaaDoor
open Go.RowKit Book
set_option linter.unusedSimpArgs false
set_option linter.unusedVariables false
/-- the k-th mark of list i -/
def markI (i k : Nat) : Int := -1000000 * (i : Int) - (k : Int) - 7
theorem Tryd.bkIntInfo : (Tryd.prog.info? 3).map (fun i => (i.zero, i.size, i.bytes)) = some (some (.int .i64 0), 1, 8) := by kernel_rfl
theorem Tryd.bkIntSpineInfo : (Tryd.prog.info? 24).map (fun i => (i.zero, i.size, i.bytes)) = some (some (.slice none 0 0), 1, 24) := by kernel_rfl
/-- the marks of list i, from a place on -/
def intMarks (i a n : Nat) : List Value := (List.range n).map fun j => .int .i64 (markI i (a + j))
theorem intMarks_succ (i a n : Nat) : intMarks i a (n + 1) = intMarks i a n ++ [.int .i64 (markI i (a + n))] := by unfold intMarks; rw [List.range_succ, List.map_append]; rfl
theorem intMarks_length (i a n : Nat) : (intMarks i a n).length = n := by simp [intMarks]
set_option maxHeartbeats 2000000 in
theorem sameInts_any (va vb : Value) (Ba Bb : Nat) (ss : List Int) (w : World) (ha : Owns w Ba 3 va (ss.map (.int .i64))) (hb : Owns w Bb 3 vb (ss.map (.int .i64))) (hl : ss.length ≤ 10000000) :
    Calls Tryd.prog 25 #[va, vb] w fun e w' => e = .returned (.bool true) ∧ ∃ q, w' = w.drewN q := by
  cases ss with
  | nil =>
    obtain ⟨ao, cap, rfl⟩ := ha.slice
    obtain ⟨bo, cap', rfl⟩ := hb.slice
    clear ha hb hl
    go_enter Tryd.func25, Tryd.ntmps25
    go_wp2
    go_loopg [5] 0 (fun g i wr => i = .int .i64 0 ∧ wr = w)
    case atStart => exact ⟨rfl, rfl⟩
    case round =>
      obtain ⟨rfl, rfl⟩ := hrel
      go_wp2
      go_ret
      exact ⟨rfl, 0, rfl⟩
  | cons s0 r =>
    obtain ⟨g, cap, rfl, hca, _, _⟩ := ha.row (by simp)
    obtain ⟨h, cap', rfl, hcb, _, _⟩ := hb.row (by simp)
    have CA := Lib.hid hca
    have CB := Lib.hid hcb
    obtain ⟨n, hn⟩ : ∃ n, ((s0 :: r).map (Value.int .i64)).length = n := ⟨_, rfl⟩
    obtain ⟨ss, hss⟩ : ∃ ss, s0 :: r = ss := ⟨_, rfl⟩
    rw [hss] at CA CB hn hl
    have hn' : n = ss.length := by rw [← hn]; simp
    have HN := Lib.hid hn'
    have hnl : n ≤ 10000000 := by omega
    rw [hss, hn]
    clear ha hb hca hcb hn hss hn' hl
    go_enter Tryd.func25, Tryd.ntmps25
    go_wp2
    go_loopg [5] n (fun g i wr => ∃ j q : Nat, g = n - j ∧ j ≤ n ∧ i = .int .i64 j ∧ wr = w.drewN q)
    case atStart => exact ⟨0, 0, rfl, Nat.zero_le _, rfl, rfl⟩
    case round =>
      obtain ⟨j, q, rfl, hj, rfl, rfl⟩ := hrel
      by_cases hlt : j < n
      · obtain ⟨x, hx⟩ : ∃ x, ss[j]? = some x := ⟨ss[j]'(by rw [← HN.out]; exact hlt), List.getElem?_eq_getElem _⟩
        have ca : w.cell? ⟨g, j, none⟩ = some (.int .i64 x) := CA.out j _ (by simp [hx])
        have cb : w.cell? ⟨h, j, none⟩ = some (.int .i64 x) := CB.out j _ (by simp [hx])
        clear hx
        go_wp2
        go_quiet (fail)
        go_wp2
        go_roundg (n - (j + 1))
        case measure => omega
        case rel => exact ⟨j + 1, _, rfl, by omega, by go_num, rfl⟩
      · go_wp2
        go_ret
        exact ⟨rfl, q, rfl⟩
def goodInts (xs : List Value) : Prop := ∃ ss : List Int, xs = ss.map (.int .i64) ∧ ss.length ≤ 1000000
end Go.Proofs.YtgabemlehmhgpaaDoor
