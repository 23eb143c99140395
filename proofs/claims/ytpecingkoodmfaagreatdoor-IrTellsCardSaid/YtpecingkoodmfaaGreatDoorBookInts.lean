
/- The walks of hollowaybook over lists of ints: marks, comparison. -/
import Derived.Test.YtpecingkoodmfaaGreatDoorRows
import Derived.Test.YtpecingkoodmfaaGreatDoorBookPlain
import Derived.Test.YtpecingkoodmfaaGreatDoorBookTexts
import Derived.WalkKit
import Derived.WalkSpells
import Derived.WalkLawsBesides
import Derived.Lib.Hide
import Derived.Laws.BytesArg
import Derived.Deep.LoopGhost
import Derived.Laws.AppendOwnNone
import Derived.BigQuiet
import Derived.Deep.QuietTactic
namespace Go.Proofs.YtpecingkoodmfaaGreatDoor
open Go.RowKit Book
set_option linter.unusedSimpArgs false
set_option linter.unusedVariables false
/-- the k-th mark of list i -/
def markI (i k : Nat) : Int := -1000000 * (i : Int) - (k : Int) - 7
theorem Tryz.bkIntInfo : (Tryz.prog.info? 3).map (fun i => (i.zero, i.size, i.bytes)) = some (some (.int .i64 0), 1, 8) := by kernel_rfl
theorem Tryz.bkIntSpineInfo : (Tryz.prog.info? 24).map (fun i => (i.zero, i.size, i.bytes)) = some (some (.slice none 0 0), 1, 24) := by kernel_rfl
/-- the marks of list i, from a place on -/
def intMarks (i a n : Nat) : List Value := (List.range n).map fun j => .int .i64 (markI i (a + j))
theorem intMarks_succ (i a n : Nat) : intMarks i a (n + 1) = intMarks i a n ++ [.int .i64 (markI i (a + n))] := by unfold intMarks; rw [List.range_succ, List.map_append]; rfl
theorem intMarks_length (i a n : Nat) : (intMarks i a n).length = n := by simp [intMarks]
set_option maxHeartbeats 2000000 in
theorem markInts_any (i a n : Nat) (hi : i ≤ 1000000) (ha : a ≤ 10000000) (hn : n ≤ 10000000) (w : World) :
    Calls Tryz.prog 105 #[.int .i64 i, .int .i64 a, .int .i64 n] w fun e w' => ∃ v, e = .returned v ∧ Owns w' w.heap.size 3 v (intMarks i a n) ∧ Below w.heap.size w w' := by
  obtain ⟨i0, q1, q2, q3, q4⟩ := info_parts Tryz.bkIntInfo
  have HI := Lib.hid (And.intro q1 (And.intro q2 (And.intro q3 q4)))
  clear q1 q2 q3 q4
  go_enter Tryz.func105, Tryz.ntmps105
  go_wp2
  go_loopg [7, 8] n (fun g v k wr => ∃ j : Nat, g = n - j ∧ j ≤ n ∧ k = .int .i64 ((a + j : Nat) : Int) ∧ Hid (Owns wr w.heap.size 3 v (intMarks i a j)) ∧ Hid (Below w.heap.size w wr))
  case atStart => exact ⟨0, rfl, Nat.zero_le _, by simp, Owns.nil _ _ _, Below.refl _ _⟩
  case round =>
    obtain ⟨j, rfl, hj, rfl, HO, HB⟩ := hrel
    by_cases hlt : j < n
    · have hlen := intMarks_length i a j
      have HL := Lib.hid hlen
      obtain ⟨K, hK⟩ : ∃ K : Nat, a + j = K := ⟨_, rfl⟩
      have hK6 : K ≤ 20000000 := by omega
      have HKq := Lib.hid hK
      have HO1 := Lib.hid (HO.out.touch (Stirred.of_grown (World.grownBy_alloc wr (.cells #[.int .i64 (-1000000 * (i : Int) - (K : Int) - 7)] 3) none)) (fun _ _ => List.not_mem_nil))
      have hadj : (a : Int) + (j : Int) = (K : Int) := by omega
      simp only [Int.natCast_add, hadj]
      clear hlen hK
      go_wp2_with (at_builtin; refine wpList_append_two _ rfl _ _ 24 rfl w.heap.size 3 i0 (.int .i64 0) 8 Tryz.underlying24 HI.out.1 HI.out.2.1 HI.out.2.2.1 HI.out.2.2.2 rfl _ _ rfl HO1.out ⟨wr.heap.size, 0, none⟩ 1 1 [.int .i64 (-1000000 * (i : Int) - (K : Int) - 7)] rfl rfl ?c1 ?c2 (Nat.zero_lt_succ 0) ?c3 ?c4 ?c5 ?_)
      case c1 => intro j u hj; rcases j with _ | j <;> simp at hj; subst hj; simp [Addr.add]
      case c2 => intro u hu; simp at hu; subst hu; rfl
      case c3 => rw [HL.out]; show j + 1 ≤ maxLen; unfold maxLen; omega
      case c4 => rw [HL.out]; show (j + 1) * 8 ≤ _; omega
      case c5 => have := HB.out.size; simp; omega
      intro v' w2 hO2 _ hT _
      have hbl := Lib.hid (fun k hk => (HO.out.block k hk).1)
      have HO2 := Lib.hid (show Owns w2 w.heap.size 3 v' (intMarks i a (j + 1)) by rw [intMarks_succ, HKq.out]; exact hO2)
      have HB2 := Lib.hid ((HB.out.alloc HB.out.size (.cells #[.int .i64 (-1000000 * (i : Int) - (K : Int) - 7)] 3)).trans (hT.below (B := w.heap.size) (fun k hk => hbl.out k (by simpa using hk)) (by have := HB.out.size; simp; omega)))
      clear hO2 hT
      go_wp2
      go_roundg (n - (j + 1))
      case measure => omega
      case rel => exact ⟨j + 1, rfl, by omega, by have := HKq.out; go_num, HO2, HB2⟩
    · obtain rfl : j = n := by omega
      go_wp2
      go_ret
      exact ⟨_, rfl, HO.out, HB.out⟩
set_option maxHeartbeats 2000000 in
theorem sameInts_any (va vb : Value) (Ba Bb : Nat) (ss : List Int) (w : World) (ha : Owns w Ba 3 va (ss.map (.int .i64))) (hb : Owns w Bb 3 vb (ss.map (.int .i64))) (hl : ss.length ≤ 10000000) :
    Calls Tryz.prog 21 #[va, vb] w fun e w' => e = .returned (.bool true) ∧ ∃ q, w' = w.drewN q := by
  cases ss with
  | nil =>
    obtain ⟨ao, cap, rfl⟩ := ha.slice
    obtain ⟨bo, cap', rfl⟩ := hb.slice
    clear ha hb hl
    go_enter Tryz.func21, Tryz.ntmps21
    go_wp2
    go_loopg [5] 0 (fun g i wr => i = .int .i64 0 ∧ wr = w)
    case atStart => exact ⟨rfl, rfl⟩
    case round =>
      obtain ⟨rfl, rfl⟩ := hrel
      go_wp2
      go_ret
      exact ⟨rfl, 0, rfl⟩
  | cons s0 r =>
    obtain ⟨g, cap, rfl, hca, _, _⟩ := ha.row (by simp)
    obtain ⟨h, cap', rfl, hcb, _, _⟩ := hb.row (by simp)
    have CA := Lib.hid hca
    have CB := Lib.hid hcb
    obtain ⟨n, hn⟩ : ∃ n, ((s0 :: r).map (Value.int .i64)).length = n := ⟨_, rfl⟩
    obtain ⟨ss, hss⟩ : ∃ ss, s0 :: r = ss := ⟨_, rfl⟩
    rw [hss] at CA CB hn hl
    have hn' : n = ss.length := by rw [← hn]; simp
    have HN := Lib.hid hn'
    have hnl : n ≤ 10000000 := by omega
    rw [hss, hn]
    clear ha hb hca hcb hn hss hn' hl
    go_enter Tryz.func21, Tryz.ntmps21
    go_wp2
    go_loopg [5] n (fun g i wr => ∃ j q : Nat, g = n - j ∧ j ≤ n ∧ i = .int .i64 j ∧ wr = w.drewN q)
    case atStart => exact ⟨0, 0, rfl, Nat.zero_le _, rfl, rfl⟩
    case round =>
      obtain ⟨j, q, rfl, hj, rfl, rfl⟩ := hrel
      by_cases hlt : j < n
      · obtain ⟨x, hx⟩ : ∃ x, ss[j]? = some x := ⟨ss[j]'(by rw [← HN.out]; exact hlt), List.getElem?_eq_getElem _⟩
        have ca : w.cell? ⟨g, j, none⟩ = some (.int .i64 x) := CA.out j _ (by simp [hx])
        have cb : w.cell? ⟨h, j, none⟩ = some (.int .i64 x) := CB.out j _ (by simp [hx])
        clear hx
        go_wp2
        go_quiet (fail)
        go_wp2
        go_roundg (n - (j + 1))
        case measure => omega
        case rel => exact ⟨j + 1, _, rfl, by omega, by go_num, rfl⟩
      · go_wp2
        go_ret
        exact ⟨rfl, q, rfl⟩
def goodInts (xs : List Value) : Prop := ∃ ss : List Int, xs = ss.map (.int .i64) ∧ ss.length ≤ 1000000
set_option maxHeartbeats 2000000 in
theorem stillInts_any (p B : Nat) (vS vW : Value) (ls : List (Value × List Value)) (w : World) (c0 : w.cell? ⟨p, 2, none⟩ = some vS) (c1 : w.cell? ⟨p, 3, none⟩ = some vW) (bs : List Nat) (hk : Kept w B 24 3 goodInts vS vW ls bs) :
    Calls Tryz.prog 61 #[.pointer (some ⟨p, 0, none⟩)] w fun e w' => e = .returned (.bool true) ∧ ∃ q, w' = w.drewN q := by
  have HK := Lib.hid hk
  obtain ⟨ao, cap, hv⟩ := hk.lists.spine.slice
  rw [List.length_map] at hv
  have hf := hk.few
  obtain ⟨n, hn⟩ : ∃ n, ls.length = n := ⟨_, rfl⟩
  rw [hn] at hv hf
  subst hv
  have HN := Lib.hid hn
  clear hk hn
  go_enter Tryz.func61, Tryz.ntmps61
  go_wp2
  go_loopg [3] n (fun g i wr => ∃ j : Nat, g = n - j ∧ j ≤ n ∧ i = .int .i64 j ∧ Hid (∃ q, wr = w.drewN q))
  case atStart => exact ⟨0, rfl, Nat.zero_le _, rfl, 0, rfl⟩
  case round =>
    obtain ⟨j, rfl, hj, rfl, HQ⟩ := hrel
    have hsame : ∀ {a : Addr} {v : Value}, w.cell? a = some v → wr.cell? a = some v := fun {a v} h => by obtain ⟨q, e⟩ := HQ.out; rw [e]; exact h
    have hB : Below w.heap.size w wr := by obtain ⟨q, e⟩ := HQ.out; rw [e]; exact bk_below_drewN _ _ _
    have c0 := hsame c0
    by_cases hlt : j < n
    · obtain ⟨gS, cS, gW, cW, a, b, xs, e1, rfl, k1, k2, o1, o2, ss, rfl, hl⟩ := HK.out.at (j := j) (by rw [HN.out]; exact hlt)
      simp only [Value.slice.injEq] at e1
      obtain ⟨rfl, _, rfl⟩ := e1
      have hN := HN.out
      rw [hN] at c1
      have c1 := hsame c1
      have k1 := hsame k1
      have k2 := hsame k2
      clear hN
      have C := fun k : Nat => Lib.hid (sameInts_any a b B B ss (wr.drewN k) ((o1.below hB).below (bk_below_drewN _ _ k)) ((o2.below hB).below (bk_below_drewN _ _ k)) (by omega))
      obtain ⟨ao, ac, ha⟩ := o1.slice
      obtain ⟨bo, bc, hb⟩ := o2.slice
      rw [List.length_map] at ha hb
      subst ha hb
      clear o1 o2 hsame
      have HB := Lib.hid hB
      clear hB
      go_wp2
      go_quiet ((go_at_call 21; exact Calls.quiet_of (C _).out))
      go_wp2
      go_roundg (n - (j + 1))
      case measure => omega
      case rel => exact ⟨j + 1, rfl, by omega, by go_num, by obtain ⟨q, e⟩ := HQ.out; rw [e]; exact ⟨_, World.drewN_drewN _ _ _⟩⟩
    · clear hsame hB
      go_wp2
      go_ret
      exact ⟨rfl, HQ.out⟩
end Go.Proofs.YtpecingkoodmfaaGreatDoor
