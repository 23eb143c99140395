/- slices.Clone of a []int of one's own. -/
import Derived.Test.YthnciokmomgfeaaGreatDoorG2
import Derived.Test.YthnciokmomgfeaaGreatDoorG4
import Derived.Test.YthnciokmomgfeaaGreatDoorRows
import Derived.Test.YthnciokmomgfeaaGreatDoorG1
import Derived.WalkKit
import Derived.WalkSpells
import Derived.WalkLawsBesides
import Derived.Lib.Hide
import Derived.Laws.BytesArg
import Derived.Deep.LoopGhost
import Derived.Laws.AppendOwnNone
import Derived.BigQuiet
import Derived.Deep.QuietTactic
import Derived.Test.YthnciokmomgfeaaGreatDoorG3
import Derived.Laws.Cover3
import Derived.Lib.MinMax
import Derived.Lib.SliceRun
import Derived.Laws.CopyOwn
namespace Go.Proofs.YthnciokmomgfeaaGreatDoor
open Go.RowKit Book Mem
set_option linter.unusedVariables false
theorem clone_any (v : Value) (B : Nat) (xs : List Int) (w : World) (h : Owns w B 3 v (vals xs)) (hl : xs.length ≤ 1000000) :
    Calls Tryz.prog 79 #[v] w fun e w' => ∃ c, e = .returned c ∧ Owns w' w.heap.size 3 c (vals xs) ∧ Below w.heap.size w w' := by
  rcases h.form with ⟨ao, rfl, hx⟩ | ⟨g, cap, rfl, hc0⟩
  · have hx : xs = [] := List.map_eq_nil_iff.1 hx
    subst hx
    cases ao with
    | none => exact (Tryz.slices_Clone_int_nil 0 0 w).mono fun e w' ⟨h1, h2⟩ => by subst h2; exact ⟨_, h1, Owns.nil _ _ _, Below.refl _ _⟩
    | some a => exact (Tryz.slices_Clone_int_zero a 0 w).mono fun e w' ⟨v', h1, h2, _, h3⟩ => ⟨v', h1, Owns.of_row h2, h3⟩
  · rw [vals_length]
    refine (Tryz.slices_Clone_int g 0 xs.length cap xs w (Nat.le_refl _) (by omega) (fun j hj => by
      obtain ⟨g', c', e, hc, _, _⟩ := h.row (by rw [vals_length]; omega)
      simp only [Value.slice.injEq, Option.some.injEq, Addr.mk.injEq, and_true, true_and] at e
      rw [Nat.zero_add, e.1]
      exact hc j _ (by simp [vals, List.getD_eq_getElem?_getD, List.getElem?_eq_getElem hj]))).mono fun e w' ⟨v', h1, h2, _, h3⟩ => ⟨v', h1, ?_, h3⟩
    rw [List.take_length] at h2
    exact Owns.of_row h2
end Go.Proofs.YthnciokmomgfeaaGreatDoor
/- The walks of hollowaybook over lists of texts: marks, comparison. -/
namespace Go.Proofs.YthnciokmomgfeaaGreatDoor
open Go.RowKit Book
set_option linter.unusedSimpArgs false
set_option linter.unusedVariables false
/-- the k-th mark of list i -/
def nameB (i k : Nat) : ByteArray := strOfNums [109, 65 + (i : Int) % 26, 65 + (i : Int) / 26 % 26, 48 + (k : Int) % 10, 48 + (k : Int) / 10 % 10, 48 + (k : Int) / 100 % 10]
theorem bk_below_drewN (B : Nat) (w : World) : ∀ n, Below B w (w.drewN n)
  | 0 => Below.refl _ _
  | n + 1 => by rw [← World.drew_drewN]; exact (bk_below_drewN B w n).drew
theorem name_text (w : World) (i k : Nat) : (convert 51 9 (.slice (some ⟨w.heap.size, 0, none⟩) 6 6)).run Tryz.prog (w.alloc (.cells #[.int .u8 109, .int .u8 (65 + (i : Int) % 26), .int .u8 (65 + (i : Int) / 26 % 26), .int .u8 (48 + (k : Int) % 10), .int .u8 (48 + (k : Int) / 10 % 10), .int .u8 (48 + (k : Int) / 100 % 10)] 5))
    = .ok (.string (nameB i k)) (w.alloc (.cells #[.int .u8 109, .int .u8 (65 + (i : Int) % 26), .int .u8 (65 + (i : Int) / 26 % 26), .int .u8 (48 + (k : Int) % 10), .int .u8 (48 + (k : Int) / 10 % 10), .int .u8 (48 + (k : Int) / 100 % 10)] 5)) := by
  refine run_convert_bytes_arg (P := Tryz.prog) _ 51 5 Tryz.underlying51 Tryz.underlying5 w.heap.size 0 6 6 [109, 65 + (i : Int) % 26, 65 + (i : Int) / 26 % 26, 48 + (k : Int) % 10, 48 + (k : Int) / 10 % 10, 48 + (k : Int) / 100 % 10] rfl (fun j hj => ?_) 9 Tryz.underlying9
  rw [Nat.zero_add, World.cell?_alloc_new]
  match j, hj with
  | 0, _ => rfl
  | 1, _ => rfl
  | 2, _ => rfl
  | 3, _ => rfl
  | 4, _ => rfl
  | 5, _ => rfl
set_option maxHeartbeats 1000000 in
theorem name_any (i k : Nat) (hi : i ≤ 1000000) (hk : k ≤ 1000000000) (w : World) :
    Calls Tryz.prog 116 #[.int .i64 i, .int .i64 k] w fun e w' => e = .returned (.string (nameB i k)) ∧ Below w.heap.size w w' := by
  have hcv := name_text w i k
  go_enter Tryz.func116, Tryz.ntmps116
  go_wp2
  go_ret
  exact ⟨rfl, (Below.refl _ _).alloc (Nat.le_refl _) _⟩
theorem Tryz.bkTextInfo : (Tryz.prog.info? 9).map (fun i => (i.zero, i.size, i.bytes)) = some (some (.string ⟨#[]⟩), 1, 16) := by kernel_rfl
theorem Tryz.bkSpineInfo : (Tryz.prog.info? 96).map (fun i => (i.zero, i.size, i.bytes)) = some (some (.slice none 0 0), 1, 24) := by kernel_rfl
/-- the marks of list i, from a place on -/
def textMarks (i a n : Nat) : List Value := (List.range n).map fun j => .string (nameB i (a + j))
theorem textMarks_succ (i a n : Nat) : textMarks i a (n + 1) = textMarks i a n ++ [.string (nameB i (a + n))] := by unfold textMarks; rw [List.range_succ, List.map_append]; rfl
theorem textMarks_length (i a n : Nat) : (textMarks i a n).length = n := by simp [textMarks]
set_option maxHeartbeats 2000000 in
theorem markTexts_any (i a n : Nat) (hi : i ≤ 1000000) (ha : a ≤ 10000000) (hn : n ≤ 10000000) (w : World) :
    Calls Tryz.prog 95 #[.int .i64 i, .int .i64 a, .int .i64 n] w fun e w' => ∃ v, e = .returned v ∧ Owns w' w.heap.size 9 v (textMarks i a n) ∧ Below w.heap.size w w' := by
  obtain ⟨i0, q1, q2, q3, q4⟩ := info_parts Tryz.bkTextInfo
  have HI := Lib.hid (And.intro q1 (And.intro q2 (And.intro q3 q4)))
  clear q1 q2 q3 q4
  go_enter Tryz.func95, Tryz.ntmps95
  go_wp2
  go_loopg [7, 8] n (fun g v k wr => ∃ j : Nat, g = n - j ∧ j ≤ n ∧ k = .int .i64 ((a + j : Nat) : Int) ∧ Hid (Owns wr w.heap.size 9 v (textMarks i a j)) ∧ Hid (Below w.heap.size w wr))
  case atStart => exact ⟨0, rfl, Nat.zero_le _, by simp, Owns.nil _ _ _, Below.refl _ _⟩
  case round =>
    obtain ⟨j, rfl, hj, rfl, HO, HB⟩ := hrel
    by_cases hlt : j < n
    · have C := Lib.hid (name_any i (a + j) hi (by omega) wr)
      have hlen := textMarks_length i a j
      have HL := Lib.hid hlen
      clear hlen
      go_wp2_with fail
      refine C.out.mono ?_
      rintro e w1 ⟨rfl, hb⟩
      have HB1 := Lib.hid (HB.out.trans (hb.mono HB.out.size))
      have HO1 := Lib.hid (HO.out.below hb)
      clear hb
      go_wp2_with (at_builtin; refine wpList_append_two _ rfl _ _ 96 rfl w.heap.size 9 i0 (.string ⟨#[]⟩) 16 Tryz.underlying96 HI.out.1 HI.out.2.1 HI.out.2.2.1 HI.out.2.2.2 rfl _ _ rfl (HO1.out.touch (Stirred.of_grown (World.grownBy_alloc w1 _ none)) (fun _ _ => List.not_mem_nil)) ⟨w1.heap.size, 0, none⟩ 1 1 [.string (nameB i (a + j))] rfl rfl ?c1 ?c2 (Nat.zero_lt_succ 0) ?c3 ?c4 ?c5 ?_)
      case c1 => intro j u hj; rcases j with _ | j <;> simp at hj; subst hj; simp [Addr.add]
      case c2 => intro u hu; simp at hu; subst hu; rfl
      case c3 => rw [HL.out]; show j + 1 ≤ maxLen; unfold maxLen; omega
      case c4 => rw [HL.out]; show (j + 1) * 16 ≤ _; omega
      case c5 => have := HB1.out.size; simp; omega
      intro v' w2 hO2 _ hT _
      have hbl := Lib.hid (fun k hk => (HO1.out.block k hk).1)
      have HO2 := Lib.hid hO2
      have HB2 := Lib.hid ((HB1.out.alloc HB1.out.size _).trans (hT.below (B := w.heap.size) (fun k hk => hbl.out k (by simpa using hk)) (by have := HB1.out.size; simp; omega)))
      clear hO2 hT
      go_wp2
      go_roundg (n - (j + 1))
      case measure => omega
      case rel => exact ⟨j + 1, rfl, by omega, by go_num, by rw [Hid, textMarks_succ]; exact HO2.out, HB2⟩
    · obtain rfl : j = n := by omega
      go_wp2
      go_ret
      exact ⟨_, rfl, HO.out, HB.out⟩
set_option maxHeartbeats 2000000 in
theorem sameTexts_any (va vb : Value) (Ba Bb : Nat) (ss : List ByteArray) (w : World) (ha : Owns w Ba 9 va (ss.map .string)) (hb : Owns w Bb 9 vb (ss.map .string)) (hl : ss.length ≤ 10000000) :
    Calls Tryz.prog 89 #[va, vb] w fun e w' => e = .returned (.bool true) ∧ ∃ q, w' = w.drewN q := by
  cases ss with
  | nil =>
    obtain ⟨ao, cap, rfl⟩ := ha.slice
    obtain ⟨bo, cap', rfl⟩ := hb.slice
    clear ha hb hl
    go_enter Tryz.func89, Tryz.ntmps89
    go_wp2
    go_loopg [5] 0 (fun g i wr => i = .int .i64 0 ∧ wr = w)
    case atStart => exact ⟨rfl, rfl⟩
    case round =>
      obtain ⟨rfl, rfl⟩ := hrel
      go_wp2
      go_ret
      exact ⟨rfl, 0, rfl⟩
  | cons s0 r =>
    obtain ⟨g, cap, rfl, hca, _, _⟩ := ha.row (by simp)
    obtain ⟨h, cap', rfl, hcb, _, _⟩ := hb.row (by simp)
    have CA := Lib.hid hca
    have CB := Lib.hid hcb
    obtain ⟨n, hn⟩ : ∃ n, ((s0 :: r).map Value.string).length = n := ⟨_, rfl⟩
    obtain ⟨ss, hss⟩ : ∃ ss, s0 :: r = ss := ⟨_, rfl⟩
    rw [hss] at CA CB hn hl
    have hn' : n = ss.length := by rw [← hn]; simp
    have HN := Lib.hid hn'
    have hnl : n ≤ 10000000 := by omega
    rw [hss, hn]
    clear ha hb hca hcb hn hss hn' hl
    go_enter Tryz.func89, Tryz.ntmps89
    go_wp2
    go_loopg [5] n (fun g i wr => ∃ j q : Nat, g = n - j ∧ j ≤ n ∧ i = .int .i64 j ∧ wr = w.drewN q)
    case atStart => exact ⟨0, 0, rfl, Nat.zero_le _, rfl, rfl⟩
    case round =>
      obtain ⟨j, q, rfl, hj, rfl, rfl⟩ := hrel
      by_cases hlt : j < n
      · obtain ⟨x, hx⟩ : ∃ x, ss[j]? = some x := ⟨ss[j]'(by rw [← HN.out]; exact hlt), List.getElem?_eq_getElem _⟩
        have ca : w.cell? ⟨g, j, none⟩ = some (.string x) := CA.out j _ (by simp [hx])
        have cb : w.cell? ⟨h, j, none⟩ = some (.string x) := CB.out j _ (by simp [hx])
        clear hx
        go_wp2
        go_quiet (fail)
        go_wp2
        go_roundg (n - (j + 1))
        case measure => omega
        case rel => exact ⟨j + 1, _, rfl, by omega, by go_num, rfl⟩
      · go_wp2
        go_ret
        exact ⟨rfl, q, rfl⟩
def goodTexts (xs : List Value) : Prop := ∃ ss : List ByteArray, xs = ss.map .string ∧ ss.length ≤ 1000000
set_option maxHeartbeats 2000000 in
theorem stillTexts_any (p B : Nat) (vS vW : Value) (ls : List (Value × List Value)) (w : World) (c0 : w.cell? ⟨p, 0, none⟩ = some vS) (c1 : w.cell? ⟨p, 1, none⟩ = some vW) (bs : List Nat) (hk : Kept w B 96 9 goodTexts vS vW ls bs) :
    Calls Tryz.prog 51 #[.pointer (some ⟨p, 0, none⟩)] w fun e w' => e = .returned (.bool true) ∧ ∃ q, w' = w.drewN q := by
  have HK := Lib.hid hk
  obtain ⟨ao, cap, hv⟩ := hk.lists.spine.slice
  rw [List.length_map] at hv
  have hf := hk.few
  obtain ⟨n, hn⟩ : ∃ n, ls.length = n := ⟨_, rfl⟩
  rw [hn] at hv hf
  subst hv
  have HN := Lib.hid hn
  clear hk hn
  go_enter Tryz.func51, Tryz.ntmps51
  go_wp2
  go_loopg [3] n (fun g i wr => ∃ j : Nat, g = n - j ∧ j ≤ n ∧ i = .int .i64 j ∧ Hid (∃ q, wr = w.drewN q))
  case atStart => exact ⟨0, rfl, Nat.zero_le _, rfl, 0, rfl⟩
  case round =>
    obtain ⟨j, rfl, hj, rfl, HQ⟩ := hrel
    have hsame : ∀ {a : Addr} {v : Value}, w.cell? a = some v → wr.cell? a = some v := fun {a v} h => by obtain ⟨q, e⟩ := HQ.out; rw [e]; exact h
    have hB : Below w.heap.size w wr := by obtain ⟨q, e⟩ := HQ.out; rw [e]; exact bk_below_drewN _ _ _
    have c0 := hsame c0
    by_cases hlt : j < n
    · obtain ⟨gS, cS, gW, cW, a, b, xs, e1, rfl, k1, k2, o1, o2, ss, rfl, hl⟩ := HK.out.at (j := j) (by rw [HN.out]; exact hlt)
      simp only [Value.slice.injEq] at e1
      obtain ⟨rfl, _, rfl⟩ := e1
      have hN := HN.out
      rw [hN] at c1
      have c1 := hsame c1
      have k1 := hsame k1
      have k2 := hsame k2
      clear hN
      have C := fun k : Nat => Lib.hid (sameTexts_any a b B B ss (wr.drewN k) ((o1.below hB).below (bk_below_drewN _ _ k)) ((o2.below hB).below (bk_below_drewN _ _ k)) (by omega))
      obtain ⟨ao, ac, ha⟩ := o1.slice
      obtain ⟨bo, bc, hb⟩ := o2.slice
      rw [List.length_map] at ha hb
      subst ha hb
      clear o1 o2 hsame
      have HB := Lib.hid hB
      clear hB
      go_wp2
      go_quiet ((go_at_call 89; exact Calls.quiet_of (C _).out))
      go_wp2
      go_roundg (n - (j + 1))
      case measure => omega
      case rel => exact ⟨j + 1, rfl, by omega, by go_num, by obtain ⟨q, e⟩ := HQ.out; rw [e]; exact ⟨_, World.drewN_drewN _ _ _⟩⟩
    · clear hsame hB
      go_wp2
      go_ret
      exact ⟨rfl, HQ.out⟩
end Go.Proofs.YthnciokmomgfeaaGreatDoor
/- The walks of hollowaybook over lists of ints: marks, comparison. -/
namespace Go.Proofs.YthnciokmomgfeaaGreatDoor
open Go.RowKit Book
set_option linter.unusedSimpArgs false
set_option linter.unusedVariables false
/-- the k-th mark of list i -/
def markI (i k : Nat) : Int := -1000000 * (i : Int) - (k : Int) - 7
theorem Tryz.bkIntInfo : (Tryz.prog.info? 3).map (fun i => (i.zero, i.size, i.bytes)) = some (some (.int .i64 0), 1, 8) := by kernel_rfl
theorem Tryz.bkIntSpineInfo : (Tryz.prog.info? 22).map (fun i => (i.zero, i.size, i.bytes)) = some (some (.slice none 0 0), 1, 24) := by kernel_rfl
/-- the marks of list i, from a place on -/
def intMarks (i a n : Nat) : List Value := (List.range n).map fun j => .int .i64 (markI i (a + j))
theorem intMarks_succ (i a n : Nat) : intMarks i a (n + 1) = intMarks i a n ++ [.int .i64 (markI i (a + n))] := by unfold intMarks; rw [List.range_succ, List.map_append]; rfl
theorem intMarks_length (i a n : Nat) : (intMarks i a n).length = n := by simp [intMarks]
set_option maxHeartbeats 2000000 in
theorem markInts_any (i a n : Nat) (hi : i ≤ 1000000) (ha : a ≤ 10000000) (hn : n ≤ 10000000) (w : World) :
    Calls Tryz.prog 96 #[.int .i64 i, .int .i64 a, .int .i64 n] w fun e w' => ∃ v, e = .returned v ∧ Owns w' w.heap.size 3 v (intMarks i a n) ∧ Below w.heap.size w w' := by
  obtain ⟨i0, q1, q2, q3, q4⟩ := info_parts Tryz.bkIntInfo
  have HI := Lib.hid (And.intro q1 (And.intro q2 (And.intro q3 q4)))
  clear q1 q2 q3 q4
  go_enter Tryz.func96, Tryz.ntmps96
  go_wp2
  go_loopg [7, 8] n (fun g v k wr => ∃ j : Nat, g = n - j ∧ j ≤ n ∧ k = .int .i64 ((a + j : Nat) : Int) ∧ Hid (Owns wr w.heap.size 3 v (intMarks i a j)) ∧ Hid (Below w.heap.size w wr))
  case atStart => exact ⟨0, rfl, Nat.zero_le _, by simp, Owns.nil _ _ _, Below.refl _ _⟩
  case round =>
    obtain ⟨j, rfl, hj, rfl, HO, HB⟩ := hrel
    by_cases hlt : j < n
    · have hlen := intMarks_length i a j
      have HL := Lib.hid hlen
      obtain ⟨K, hK⟩ : ∃ K : Nat, a + j = K := ⟨_, rfl⟩
      have hK6 : K ≤ 20000000 := by omega
      have HKq := Lib.hid hK
      have HO1 := Lib.hid (HO.out.touch (Stirred.of_grown (World.grownBy_alloc wr (.cells #[.int .i64 (-1000000 * (i : Int) - (K : Int) - 7)] 3) none)) (fun _ _ => List.not_mem_nil))
      have hadj : (a : Int) + (j : Int) = (K : Int) := by omega
      simp only [Int.natCast_add, hadj]
      clear hlen hK
      go_wp2_with (at_builtin; refine wpList_append_two _ rfl _ _ 22 rfl w.heap.size 3 i0 (.int .i64 0) 8 Tryz.underlying22 HI.out.1 HI.out.2.1 HI.out.2.2.1 HI.out.2.2.2 rfl _ _ rfl HO1.out ⟨wr.heap.size, 0, none⟩ 1 1 [.int .i64 (-1000000 * (i : Int) - (K : Int) - 7)] rfl rfl ?c1 ?c2 (Nat.zero_lt_succ 0) ?c3 ?c4 ?c5 ?_)
      case c1 => intro j u hj; rcases j with _ | j <;> simp at hj; subst hj; simp [Addr.add]
      case c2 => intro u hu; simp at hu; subst hu; rfl
      case c3 => rw [HL.out]; show j + 1 ≤ maxLen; unfold maxLen; omega
      case c4 => rw [HL.out]; show (j + 1) * 8 ≤ _; omega
      case c5 => have := HB.out.size; simp; omega
      intro v' w2 hO2 _ hT _
      have hbl := Lib.hid (fun k hk => (HO.out.block k hk).1)
      have HO2 := Lib.hid (show Owns w2 w.heap.size 3 v' (intMarks i a (j + 1)) by rw [intMarks_succ, HKq.out]; exact hO2)
      have HB2 := Lib.hid ((HB.out.alloc HB.out.size (.cells #[.int .i64 (-1000000 * (i : Int) - (K : Int) - 7)] 3)).trans (hT.below (B := w.heap.size) (fun k hk => hbl.out k (by simpa using hk)) (by have := HB.out.size; simp; omega)))
      clear hO2 hT
      go_wp2
      go_roundg (n - (j + 1))
      case measure => omega
      case rel => exact ⟨j + 1, rfl, by omega, by have := HKq.out; go_num, HO2, HB2⟩
    · obtain rfl : j = n := by omega
      go_wp2
      go_ret
      exact ⟨_, rfl, HO.out, HB.out⟩
set_option maxHeartbeats 2000000 in
theorem sameInts_any (va vb : Value) (Ba Bb : Nat) (ss : List Int) (w : World) (ha : Owns w Ba 3 va (ss.map (.int .i64))) (hb : Owns w Bb 3 vb (ss.map (.int .i64))) (hl : ss.length ≤ 10000000) :
    Calls Tryz.prog 33 #[va, vb] w fun e w' => e = .returned (.bool true) ∧ ∃ q, w' = w.drewN q := by
  cases ss with
  | nil =>
    obtain ⟨ao, cap, rfl⟩ := ha.slice
    obtain ⟨bo, cap', rfl⟩ := hb.slice
    clear ha hb hl
    go_enter Tryz.func33, Tryz.ntmps33
    go_wp2
    go_loopg [5] 0 (fun g i wr => i = .int .i64 0 ∧ wr = w)
    case atStart => exact ⟨rfl, rfl⟩
    case round =>
      obtain ⟨rfl, rfl⟩ := hrel
      go_wp2
      go_ret
      exact ⟨rfl, 0, rfl⟩
  | cons s0 r =>
    obtain ⟨g, cap, rfl, hca, _, _⟩ := ha.row (by simp)
    obtain ⟨h, cap', rfl, hcb, _, _⟩ := hb.row (by simp)
    have CA := Lib.hid hca
    have CB := Lib.hid hcb
    obtain ⟨n, hn⟩ : ∃ n, ((s0 :: r).map (Value.int .i64)).length = n := ⟨_, rfl⟩
    obtain ⟨ss, hss⟩ : ∃ ss, s0 :: r = ss := ⟨_, rfl⟩
    rw [hss] at CA CB hn hl
    have hn' : n = ss.length := by rw [← hn]; simp
    have HN := Lib.hid hn'
    have hnl : n ≤ 10000000 := by omega
    rw [hss, hn]
    clear ha hb hca hcb hn hss hn' hl
    go_enter Tryz.func33, Tryz.ntmps33
    go_wp2
    go_loopg [5] n (fun g i wr => ∃ j q : Nat, g = n - j ∧ j ≤ n ∧ i = .int .i64 j ∧ wr = w.drewN q)
    case atStart => exact ⟨0, 0, rfl, Nat.zero_le _, rfl, rfl⟩
    case round =>
      obtain ⟨j, q, rfl, hj, rfl, rfl⟩ := hrel
      by_cases hlt : j < n
      · obtain ⟨x, hx⟩ : ∃ x, ss[j]? = some x := ⟨ss[j]'(by rw [← HN.out]; exact hlt), List.getElem?_eq_getElem _⟩
        have ca : w.cell? ⟨g, j, none⟩ = some (.int .i64 x) := CA.out j _ (by simp [hx])
        have cb : w.cell? ⟨h, j, none⟩ = some (.int .i64 x) := CB.out j _ (by simp [hx])
        clear hx
        go_wp2
        go_quiet (fail)
        go_wp2
        go_roundg (n - (j + 1))
        case measure => omega
        case rel => exact ⟨j + 1, _, rfl, by omega, by go_num, rfl⟩
      · go_wp2
        go_ret
        exact ⟨rfl, q, rfl⟩
def goodInts (xs : List Value) : Prop := ∃ ss : List Int, xs = ss.map (.int .i64) ∧ ss.length ≤ 1000000
set_option maxHeartbeats 2000000 in
theorem stillInts_any (p B : Nat) (vS vW : Value) (ls : List (Value × List Value)) (w : World) (c0 : w.cell? ⟨p, 2, none⟩ = some vS) (c1 : w.cell? ⟨p, 3, none⟩ = some vW) (bs : List Nat) (hk : Kept w B 22 3 goodInts vS vW ls bs) :
    Calls Tryz.prog 52 #[.pointer (some ⟨p, 0, none⟩)] w fun e w' => e = .returned (.bool true) ∧ ∃ q, w' = w.drewN q := by
  have HK := Lib.hid hk
  obtain ⟨ao, cap, hv⟩ := hk.lists.spine.slice
  rw [List.length_map] at hv
  have hf := hk.few
  obtain ⟨n, hn⟩ : ∃ n, ls.length = n := ⟨_, rfl⟩
  rw [hn] at hv hf
  subst hv
  have HN := Lib.hid hn
  clear hk hn
  go_enter Tryz.func52, Tryz.ntmps52
  go_wp2
  go_loopg [3] n (fun g i wr => ∃ j : Nat, g = n - j ∧ j ≤ n ∧ i = .int .i64 j ∧ Hid (∃ q, wr = w.drewN q))
  case atStart => exact ⟨0, rfl, Nat.zero_le _, rfl, 0, rfl⟩
  case round =>
    obtain ⟨j, rfl, hj, rfl, HQ⟩ := hrel
    have hsame : ∀ {a : Addr} {v : Value}, w.cell? a = some v → wr.cell? a = some v := fun {a v} h => by obtain ⟨q, e⟩ := HQ.out; rw [e]; exact h
    have hB : Below w.heap.size w wr := by obtain ⟨q, e⟩ := HQ.out; rw [e]; exact bk_below_drewN _ _ _
    have c0 := hsame c0
    by_cases hlt : j < n
    · obtain ⟨gS, cS, gW, cW, a, b, xs, e1, rfl, k1, k2, o1, o2, ss, rfl, hl⟩ := HK.out.at (j := j) (by rw [HN.out]; exact hlt)
      simp only [Value.slice.injEq] at e1
      obtain ⟨rfl, _, rfl⟩ := e1
      have hN := HN.out
      rw [hN] at c1
      have c1 := hsame c1
      have k1 := hsame k1
      have k2 := hsame k2
      clear hN
      have C := fun k : Nat => Lib.hid (sameInts_any a b B B ss (wr.drewN k) ((o1.below hB).below (bk_below_drewN _ _ k)) ((o2.below hB).below (bk_below_drewN _ _ k)) (by omega))
      obtain ⟨ao, ac, ha⟩ := o1.slice
      obtain ⟨bo, bc, hb⟩ := o2.slice
      rw [List.length_map] at ha hb
      subst ha hb
      clear o1 o2 hsame
      have HB := Lib.hid hB
      clear hB
      go_wp2
      go_quiet ((go_at_call 33; exact Calls.quiet_of (C _).out))
      go_wp2
      go_roundg (n - (j + 1))
      case measure => omega
      case rel => exact ⟨j + 1, rfl, by omega, by go_num, by obtain ⟨q, e⟩ := HQ.out; rw [e]; exact ⟨_, World.drewN_drewN _ _ _⟩⟩
    · clear hsame hB
      go_wp2
      go_ret
      exact ⟨rfl, HQ.out⟩
end Go.Proofs.YthnciokmomgfeaaGreatDoor
/- Package pile: making, reading, copying, of a stack and of none. -/
namespace Go.Proofs.YthnciokmomgfeaaGreatDoor
open Go.RowKit Book Mem
set_option linter.unusedSimpArgs false
set_option linter.unusedVariables false
theorem Mem.stirred_setRow (w : World) (g : Nat) (cs : Array Value) : Stirred w (w.setRow g cs) [g] :=
  ⟨rfl, rfl, rfl, by simp, fun k hk hn => setRow_other w g k cs (by simpa using hn)⟩
/-- 'copy(x[off:], l)' into a block that is known whole -/
theorem wpList_copy_reads {P : Program} {w : World} {ops : Array Oper} {rest : List Oper} {o : Oper} {a : Act} {Q : Exit → Act → World → Prop} (hgd : o.guard = none) (d s : Operand) (dT sT : TypeId)
    (ho : o.op = .call { callee := .builtin .copy, args := #[d, s], argTypes := #[dT, sT] }) (elem : TypeId) (hu : P.underlying dT = some (.slice elem)) (hsz : (P.info? elem).map (·.size) = some 1)
    (dp : Option Addr) (dLen dCap : Nat) (hd : a.eval d = .slice dp dLen dCap) (v : Value) (xs : List Int) (hs : a.eval s = v) (hr : Reads w v xs)
    (g off : Nat) (cur : List Int) (t : TypeId) (hg : w.heap[g]? = some (.cells (vals cur).toArray t (0, 0))) (hp : 0 < min xs.length dLen → dp = some ⟨g, off, none⟩) (hfit : off + min xs.length dLen ≤ cur.length)
    (h : ∀ w', w'.heap[g]? = some (.cells (vals (splice cur off (xs.take dLen))).toArray t (0, 0)) → Stirred w w' [g] → wpList P ops Q rest (a.put o.dst (.int .i64 (min xs.length dLen : Nat))) w') :
    wpList P ops Q (o :: rest) a w := by
  obtain ⟨ao, cap, rfl, hc⟩ := hr
  have hl : (vals (xs.take dLen)).length = Nat.min xs.length dLen := by rw [vals_length, List.length_take, Nat.min_comm]
  by_cases h0 : min xs.length dLen = 0
  · have hx : xs.take dLen = [] := List.eq_nil_of_length_eq_zero (by rw [List.length_take, Nat.min_comm]; exact h0)
    refine wpList_copy_nothing hgd d s dT sT ho elem hu hsz dp ao dLen dCap xs.length cap hd hs h0 ?_
    have := h w (by rw [hx]; simpa [splice] using hg) (Stirred.refl _ _)
    rw [h0] at this
    exact this
  · have hxl : 0 < xs.length := by omega
    obtain ⟨ad, rfl, _⟩ := hc 0 xs[0] (List.getElem?_eq_getElem hxl)
    have hd' := hp (by omega)
    subst hd'
    refine wpList_copy_own hgd d s dT sT ho elem hu hsz g off dLen dCap ad xs.length cap hd hs (vals cur).toArray t hg (vals (xs.take dLen)) hl (fun j v hj => ?_) (by rw [hl]; simpa using hfit) (vals_one _) ?_
    · simp only [vals, List.getElem?_map, Option.map_eq_some_iff] at hj
      obtain ⟨x, hx, rfl⟩ := hj
      rw [List.getElem?_take] at hx
      split at hx
      · obtain ⟨a', e, hx'⟩ := hc j x hx
        simp only [Option.some.injEq] at e
        subst e
        exact hx'
      · cases hx
    · have hgo : goInt ((vals (xs.take dLen)).length : Nat) = .int .i64 (min xs.length dLen : Nat) := by rw [hl]; rfl
      rw [hgo]
      refine h _ ?_ (stirred_setRow _ _ _)
      rw [setRow_heap w g _ _ _ _ hg]
      have := splice_vals cur (xs.take dLen) off
      unfold splice at this
      simp only [this]
      rfl
theorem row_whole {w : World} {B E g n : Nat} {xs : List Value} (h : w.ownsRow B E 1 (.slice (some ⟨g, 0, none⟩) n n) n xs) : w.heap[g]? = some (.cells xs.toArray E (0, 0)) := by
  have hn := h.1
  rcases h.2 with ⟨e, _⟩ | ⟨g', cap, cur, e, h2, h3, h4, h5, h6, h7⟩
  · cases e
  · simp only [Value.slice.injEq, Option.some.injEq, Addr.mk.injEq, and_true, true_and] at e
    obtain ⟨rfl, rfl⟩ := e
    rw [h3]
    congr 2
    apply Array.toList_inj.1
    rw [← h7, List.take_of_length_le (by simp; omega)]
/-- a stack that was made in this call -/
def MadeP (w : World) (room : Nat) (cs : List Int) (e : Ending) (w' : World) : Prop := ∃ p g, e = .returned (.pointer (some ⟨p, 0, none⟩)) ∧ PileAt w' w.heap.size p g room cs ∧ Below w.heap.size w w'
theorem Tryz.piIntSize : (Tryz.prog.info? 3).map (·.size) = some 1 := by kernel_rfl
set_option maxHeartbeats 1000000 in
theorem new_any (most : Int) (room : Nat) (hm : (room : Int) = min (max most 0) 1000) (v : Value) (xs : List Int) (w : World) (h : Reads w v xs) : Calls Tryz.prog 84 #[.int .i64 most, v] w (MadeP w room (xs.take room)) := by
  obtain ⟨i0, q1, q2, q3, q4⟩ := info_parts Tryz.bkIntInfo
  have HM := Lib.hid hm
  have hm3 : room ≤ 1000 := by omega
  have HI := Lib.hid (And.intro q1 (And.intro q2 (And.intro q3 q4)))
  have HR := Lib.hid h
  obtain ⟨vo, vc, rfl, _⟩ := h
  clear q1 q2 q3 q4 hm
  go_enter Tryz.func84, Tryz.ntmps84
  go_wp2_with (at_make; refine wpList_make_full _ rfl _ _ 22 rfl w.heap.size 3 i0 (.int .i64 0) 1 Tryz.underlying22 HI.out.1 HI.out.2.1 HI.out.2.2.1 .i64 .i64 _ _ room rfl rfl ?a1 ?a2 ?a3 ?a4 (Nat.le_refl _) ?_)
  case a1 => exact HM.out.symm
  case a2 => exact HM.out.symm
  case a3 => rw [HI.out.2.2.2]; omega
  case a4 => unfold maxLen; omega
  intro w1 hO hG
  rw [toList_madeCells_one] at hO
  have hrow := row_whole hO
  have hz := hG.size
  have hb1 := (Stirred.of_grown hG).below (B := w.heap.size) (fun k h => by cases h) (Nat.le_refl _)
  have hb2 := (Below.refl w1.heap.size w1).alloc (Nat.le_refl _) (.cells #[.slice (some ⟨w.heap.size, 0, none⟩) room room, .int .i64 0] 127)
  have hnew := heap_alloc_new w1 (.cells #[.slice (some ⟨w.heap.size, 0, none⟩) room room, .int .i64 0] 127)
  have hrow2 := (Stirred.of_below hb2 []).whole hrow List.not_mem_nil
  obtain ⟨w2, hw2⟩ : ∃ w2, w1.alloc (.cells #[.slice (some ⟨w.heap.size, 0, none⟩) room room, .int .i64 0] 127) = w2 := ⟨_, rfl⟩
  rw [hw2] at hb2 hnew hrow2
  have hv : List.replicate room (Value.int .i64 0) = vals (full room []) := by simp [full, vals]
  rw [hv] at hrow2
  have hP : PileAt w2 w.heap.size w1.heap.size w.heap.size room [] := ⟨hnew, hz, Nat.le_refl _, hrow2, Nat.zero_le _, hm3⟩
  have c0 := hP.c0
  have k1 := hP.c1
  have f1 := whole_frozen hP.whole 1
  have HP := Lib.hid hP
  have HB := Lib.hid (hb1.trans (hb2.mono hz))
  have HR2 := Lib.hid (HR.out.below HB.out)
  have hw2' : w1.alloc (.cells #[.slice (some ⟨w.heap.size, 0, none⟩) room room, .int .i64 0] 127) = w2 := hw2
  clear hO hG hrow hz hb1 hb2 hnew hrow2 hP hv hw2
  go_wp2_with (with_reducible refine wpList_copy_reads rfl _ _ 22 22 rfl 3 Tryz.underlying22 Tryz.piIntSize (some ⟨w.heap.size, 0, none⟩) room room rfl (.slice vo xs.length vc) xs rfl HR2.out w.heap.size 0 (full room []) 3 HP.out.row (fun _ => rfl) ?c1 ?_)
  case c1 => rw [full_length (Nat.zero_le _)]; omega
  intro w3 hr hs
  have hmin : min xs.length room = (xs.take room).length := by rw [List.length_take, Nat.min_comm]
  have hput := full_put room [] (xs.take room)
  simp only [List.length_nil, List.nil_append] at hput
  rw [hput] at hr
  have hC := HP.out.counted hs hr (by rw [List.length_take]; omega)
  have hw3 := hs.whole HP.out.whole (by simpa using HP.out.pg)
  have f1 : w3.frozen? ⟨w1.heap.size, 1, none⟩ = false := whole_frozen hw3 1
  have k1 := whole_cell hw3 (show (#[Value.slice (some ⟨w.heap.size, 0, none⟩) room room, Value.int .i64 (([] : List Int).length : Nat)])[1]? = _ from rfl)
  obtain ⟨N, hN⟩ : ∃ N, (xs.take room).length = N := ⟨_, rfl⟩
  rw [hmin, hN]
  rw [hN] at hC
  have HR3 := Lib.hid (And.intro hC.1 (HB.out.trans (hC.2.below (B := w.heap.size) (fun k hk => (HP.out.foot_lt k hk).1) HB.out.size)))
  clear hr hs hC hput hmin c0 hN hw3
  go_wp2
  go_ret
  exact ⟨w1.heap.size, w.heap.size, rfl, HR3.out⟩
section
variable {w : World} {B p g room : Nat} {cs : List Int}
theorem made_any (h : PileAt w B p g room cs) : Calls Tryz.prog 123 #[.pointer (some ⟨p, 0, none⟩)] w fun e w' => e = .returned (.bool true) ∧ w' = w := by
  have c0 := h.c0
  clear h
  have hne := run_neq_slice_nil (P := Tryz.prog) w 22 3 (some ⟨g, 0, none⟩) room room Tryz.underlying22
  go_enter Tryz.func123, Tryz.ntmps123
  go_wp2
  go_ret
  exact ⟨rfl, rfl⟩
theorem made_nil (w : World) : Calls Tryz.prog 123 #[.pointer none] w fun e w' => e = .returned (.bool false) ∧ w' = w := by
  go_enter Tryz.func123, Tryz.ntmps123
  go_wp2
  go_ret
  exact ⟨rfl, rfl⟩
theorem len_any (h : PileAt w B p g room cs) : Calls Tryz.prog 104 #[.pointer (some ⟨p, 0, none⟩)] w fun e w' => e = .returned (.int .i64 cs.length) ∧ w' = w := by
  have c1 := h.c1
  clear h
  obtain ⟨n, hn⟩ : ∃ n, cs.length = n := ⟨_, rfl⟩
  rw [hn] at c1 ⊢
  clear hn
  go_enter Tryz.func104, Tryz.ntmps104
  go_wp2
  go_ret
  exact ⟨rfl, rfl⟩
theorem len_nil (w : World) : Calls Tryz.prog 104 #[.pointer none] w fun e w' => e = .returned (.int .i64 0) ∧ w' = w := by
  go_enter Tryz.func104, Tryz.ntmps104
  go_wp2
  go_ret
  exact ⟨rfl, rfl⟩
theorem has_yes (h : PileAt w B p g room cs) (j : Nat) (hj : j < cs.length) : Calls Tryz.prog 122 #[.pointer (some ⟨p, 0, none⟩), .int .i64 j] w fun e w' => e = .returned (.bool true) ∧ w' = w := by
  have C := Lib.hid (len_any h)
  have hl := h.fits
  have hm := h.most
  clear h
  obtain ⟨n, hn⟩ : ∃ n, cs.length = n := ⟨_, rfl⟩
  rw [hn] at C hl hj
  clear hn
  have h0 : (0 : Int) ≤ (j : Int) := by omega
  have h1 : (j : Int) < (n : Int) := by omega
  go_enter Tryz.func122, Tryz.ntmps122
  go_wp2_with (go_at_call 104; refine C.out.mono ?_; rintro e wz ⟨rfl, hwz⟩; subst wz)
  go_ret
  exact ⟨rfl, rfl⟩
theorem has_no (h : PileAt w B p g room cs) (a : Int) (ha : ¬ (0 ≤ a ∧ a < (cs.length : Int))) : Calls Tryz.prog 122 #[.pointer (some ⟨p, 0, none⟩), .int .i64 a] w fun e w' => e = .returned (.bool false) ∧ w' = w := by
  have C := Lib.hid (len_any h)
  have hl := h.fits
  have hm := h.most
  clear h
  obtain ⟨n, hn⟩ : ∃ n, cs.length = n := ⟨_, rfl⟩
  rw [hn] at C hl ha
  clear hn
  by_cases h0 : 0 ≤ a
  · have h1 : decide (a < (n : Int)) = false := by simp; omega
    clear ha
    go_enter Tryz.func122, Tryz.ntmps122
    go_wp2_with (go_at_call 104; refine C.out.mono ?_; rintro e wz ⟨rfl, hwz⟩; subst wz)
    go_ret
    exact ⟨rfl, rfl⟩
  · clear ha
    go_enter Tryz.func122, Tryz.ntmps122
    go_wp2
    go_ret
    exact ⟨rfl, rfl⟩
theorem has_nil (a : Int) (w : World) : Calls Tryz.prog 122 #[.pointer none, .int .i64 a] w fun e w' => e = .returned (.bool false) ∧ w' = w := by
  have C := Lib.hid (len_nil w)
  by_cases h0 : 0 ≤ a
  · have h1 : decide (a < (0 : Int)) = false := by simp; omega
    go_enter Tryz.func122, Tryz.ntmps122
    go_wp2_with (go_at_call 104; refine C.out.mono ?_; rintro e wz ⟨rfl, hwz⟩; subst wz)
    go_ret
    exact ⟨rfl, rfl⟩
  · go_enter Tryz.func122, Tryz.ntmps122
    go_wp2
    go_ret
    exact ⟨rfl, rfl⟩
end
end Go.Proofs.YthnciokmomgfeaaGreatDoor
/- Package pile: what lies there, as a list, one by one; copies. -/
namespace Go.Proofs.YthnciokmomgfeaaGreatDoor
open Go.RowKit Book Mem
set_option linter.unusedSimpArgs false
set_option linter.unusedVariables false
section
variable {w : World} {B p g room : Nat} {cs : List Int}
theorem peek_yes (h : PileAt w B p g room cs) (j : Nat) (x : Int) (hj : j < cs.length) (hx : cs[cs.length - 1 - j]? = some x) : Calls Tryz.prog 103 #[.pointer (some ⟨p, 0, none⟩), .int .i64 j] w fun e w' => e = .returned (.tuple #[.int .i64 x, .bool true]) ∧ ∃ q, w' = w.drewN q := by
  have C := Lib.hid (has_yes h j hj)
  have hl := h.fits
  have hm := h.most
  have k := h.cell (j := cs.length - 1 - j) (by omega)
  rw [show cs[cs.length - 1 - j] = x by rw [List.getElem?_eq_getElem (by omega)] at hx; simpa using hx] at k
  have c0 := h.c0
  have c1 := h.c1
  obtain ⟨n, hn⟩ : ∃ n, cs.length = n := ⟨_, rfl⟩
  rw [hn] at c1 hl hj k
  clear hn hx h
  obtain ⟨i, hi⟩ : ∃ i, n - 1 - j = i := ⟨_, rfl⟩
  rw [hi] at k
  have e1 : (n : Int) - 1 - (j : Int) = (i : Int) := by omega
  have e2 : (0 : Int) ≤ (i : Int) := by omega
  have e3 : (i : Int) < (room : Int) := by omega
  have e4 : (n : Int) - 1 = (i : Int) + (j : Int) := by omega
  go_enter Tryz.func103, Tryz.ntmps103
  go_wp2_with fail
  refine C.out.mono ?_
  rintro e wz ⟨rfl, hwz⟩
  subst wz
  go_wp2_with fail
  go_region
  go_wp2
  go_ret2
  exact ⟨rfl, 1, rfl⟩
theorem peek_no (h : PileAt w B p g room cs) (a : Int) (ha : ¬ (0 ≤ a ∧ a < (cs.length : Int))) : Calls Tryz.prog 103 #[.pointer (some ⟨p, 0, none⟩), .int .i64 a] w fun e w' => e = .returned (.tuple #[.int .i64 0, .bool false]) ∧ w' = w := by
  have C := Lib.hid (has_no h a ha)
  clear h ha
  go_enter Tryz.func103, Tryz.ntmps103
  go_wp2_with (go_at_call 122; refine C.out.mono ?_; rintro e wz ⟨rfl, hwz⟩; subst wz)
  go_ret2
  exact ⟨rfl, rfl⟩
theorem peek_nil (a : Int) (w : World) : Calls Tryz.prog 103 #[.pointer none, .int .i64 a] w fun e w' => e = .returned (.tuple #[.int .i64 0, .bool false]) ∧ w' = w := by
  have C := Lib.hid (has_nil a w)
  go_enter Tryz.func103, Tryz.ntmps103
  go_wp2_with (go_at_call 122; refine C.out.mono ?_; rintro e wz ⟨rfl, hwz⟩; subst wz)
  go_ret2
  exact ⟨rfl, rfl⟩
/-- a stack to which something was done, in these blocks -/
def Did (w : World) (B p g room : Nat) (cs : List Int) (bs : List Nat) (e : Ending) (w' : World) : Prop := e = .returned (.bool true) ∧ PileAt w' B p g room cs ∧ Stirred w w' bs
theorem cut_nil (a : Int) (w : World) : Calls Tryz.prog 105 #[.pointer none, .int .i64 a] w fun e w' => e = .returned (.bool false) ∧ w' = w := by
  have C := Lib.hid (made_nil w)
  go_enter Tryz.func105, Tryz.ntmps105
  go_wp2_with (go_at_call 123; refine C.out.mono ?_; rintro e wz ⟨rfl, hwz⟩; subst wz)
  go_ret
  exact ⟨rfl, rfl⟩
theorem cut_no (h : PileAt w B p g room cs) (a : Int) (ha : ¬ (0 ≤ a ∧ a ≤ (room : Int))) : Calls Tryz.prog 105 #[.pointer (some ⟨p, 0, none⟩), .int .i64 a] w fun e w' => e = .returned (.bool false) ∧ w' = w := by
  have C := Lib.hid (made_any h)
  have hl := h.fits
  have hm := h.most
  have c0 := h.c0
  have c1 := h.c1
  clear h
  obtain ⟨n, hn⟩ : ∃ n, cs.length = n := ⟨_, rfl⟩
  rw [hn] at c1 hl
  clear hn
  by_cases h0 : a < 0
  · clear ha
    go_enter Tryz.func105, Tryz.ntmps105
    go_wp2_with (go_at_call 123; refine C.out.mono ?_; rintro e wz ⟨rfl, hwz⟩; subst wz)
    go_ret
    exact ⟨rfl, rfl⟩
  · have h1 : decide (a < 0) = false := by simp; omega
    have h2 : decide (a < (n : Int)) = false := by simp; omega
    have h3 : decide (a ≤ (room : Int)) = false := by simp; omega
    clear ha h0
    go_enter Tryz.func105, Tryz.ntmps105
    go_wp2_with (go_at_call 123; refine C.out.mono ?_; rintro e wz ⟨rfl, hwz⟩; subst wz)
    go_ret
    exact ⟨rfl, rfl⟩
theorem cut_more (h : PileAt w B p g room cs) (m : Nat) (h1 : cs.length ≤ m) (h2 : m ≤ room) : Calls Tryz.prog 105 #[.pointer (some ⟨p, 0, none⟩), .int .i64 m] w (Did w B p g room (cs ++ List.replicate (m - cs.length) 0) [p]) := by
  have C := Lib.hid (made_any h)
  have hl := h.fits
  have hm := h.most
  have c0 := h.c0
  have c1 := h.c1
  have f1 := whole_frozen h.whole 1
  have hlen : (cs ++ List.replicate (m - cs.length) (0 : Int)).length = m := by simp; omega
  have hC := h.counted (w' := w) (cs' := cs ++ List.replicate (m - cs.length) 0) (Stirred.refl _ _) (by rw [full_more (by omega)]; exact h.row) (by omega)
  rw [hlen] at hC
  have HR := Lib.hid (And.intro hC.1 (Stirred.setCell w ⟨p, 1, none⟩ (.int .i64 m)))
  clear hC hlen h
  obtain ⟨n, hn⟩ : ∃ n, cs.length = n := ⟨_, rfl⟩
  rw [hn] at c1 hl h1 HR ⊢
  clear hn
  have e1 : decide ((m : Int) < 0) = false := by simp
  have e2 : decide ((m : Int) < (n : Int)) = false := by simp; omega
  have e3 : decide ((m : Int) ≤ (room : Int)) = true := by simp; omega
  go_enter Tryz.func105, Tryz.ntmps105
  go_wp2_with (go_at_call 123; refine C.out.mono ?_; rintro e wz ⟨rfl, hwz⟩; subst wz)
  go_ret
  exact ⟨rfl, HR.out⟩
theorem cut_less (h : PileAt w B p g room cs) (m : Nat) (h1 : m < cs.length) : Calls Tryz.prog 105 #[.pointer (some ⟨p, 0, none⟩), .int .i64 m] w (Did w B p g room (cs.take m) (foot p g)) := by
  have C := Lib.hid (made_any h)
  have HP := Lib.hid h
  have hl := h.fits
  have hm := h.most
  have c0 := h.c0
  have c1 := h.c1
  have f1 := whole_frozen h.whole 1
  have hcl : ∀ ty, (Builtin.clear_ #[22] ty #[.slice (some ⟨g, m, none⟩) (cs.length - m) (room - m)]).run Tryz.prog w.drew = .ok (.tuple #[]) (w.drew.setCells g m (List.replicate (cs.length - m) (.int .i64 0))) := fun ty =>
    Lib.run_clear_slice w.drew 22 3 ty (.int .i64 0) Tryz.underlying22 Tryz.zeroValue3 rfl rfl g m _ _ (by omega) (fun j hj => (h.there (by omega)).1) (fun j hj => (h.there (j := m + j) (by omega)).2)
  have hs : Stirred w (w.drew.setCells g m (List.replicate (cs.length - m) (.int .i64 0))) [g] := (Stirred.drew w [g]).trans (stirred_setCells g _ m _) (fun k hk => .inl hk)
  have hr := heap_setCells g 3 (List.replicate (cs.length - m) (.int .i64 0)) m w.drew (vals (full room cs)) h.row (by rw [vals_length, full_length hl, List.length_replicate]; omega)
  rw [show List.replicate (cs.length - m) (Value.int .i64 0) = vals (List.replicate (cs.length - m) 0) by simp [vals], splice_vals, full_cut (by omega) hl] at hr
  have hv : List.replicate (cs.length - m) (Value.int .i64 0) = vals (List.replicate (cs.length - m) 0) := by simp [vals]
  rw [hv] at hcl hs
  have hlen : (cs.take m).length = m := by rw [List.length_take]; omega
  obtain ⟨w2, hw2⟩ : ∃ w2, w.drew.setCells g m (vals (List.replicate (cs.length - m) 0)) = w2 := ⟨_, rfl⟩
  rw [hw2] at hr hs hcl
  have hC := h.counted hs hr (by omega)
  rw [hlen] at hC
  have HR := Lib.hid hC
  have hw := hs.whole h.whole (by simpa using h.pg)
  have k1 : w2.cell? ⟨p, 1, none⟩ = some (.int .i64 cs.length) := whole_cell hw rfl
  have f2 := whole_frozen hw 1
  have hw2' := Lib.hid hw2
  clear hs hr hv hlen hw2 hC hw h
  obtain ⟨n, hn⟩ : ∃ n, cs.length = n := ⟨_, rfl⟩
  rw [hn] at c1 hl h1 hcl k1
  clear hn
  have e1 : decide ((m : Int) < 0) = false := by simp
  have e2 : decide ((m : Int) < (n : Int)) = true := by simp; omega
  have e3 : (m : Int) < (n : Int) := by omega
  have e4 : (n : Int) ≤ (room : Int) := by omega
  have e5 : (0 : Int) ≤ (m : Int) := by omega
  go_enter Tryz.func105, Tryz.ntmps105
  go_wp2_with fail
  refine C.out.mono ?_
  rintro e wz ⟨rfl, hwz⟩
  subst wz
  go_wp2_with fail
  go_region
  go_wp2
  go_ret
  exact ⟨rfl, HR.out⟩
end
end Go.Proofs.YthnciokmomgfeaaGreatDoor
