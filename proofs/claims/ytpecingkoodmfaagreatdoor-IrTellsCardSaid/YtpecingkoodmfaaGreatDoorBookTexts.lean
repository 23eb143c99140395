
/- The walks of hollowaybook over lists of texts: marks, comparison. -/
import Derived.Test.YtpecingkoodmfaaGreatDoorRows
import Derived.Test.YtpecingkoodmfaaGreatDoorBookPlain
import Derived.WalkKit
import Derived.WalkSpells
import Derived.WalkLawsBesides
import Derived.Lib.Hide
import Derived.Laws.BytesArg
import Derived.Deep.LoopGhost
import Derived.Laws.AppendOwnNone
import Derived.BigQuiet
import Derived.Deep.QuietTactic
namespace Go.Proofs.YtpecingkoodmfaaGreatDoor
open Go.RowKit Book
set_option linter.unusedSimpArgs false
set_option linter.unusedVariables false
/-- the k-th mark of list i -/
def nameB (i k : Nat) : ByteArray := strOfNums [109, 65 + (i : Int) % 26, 65 + (i : Int) / 26 % 26, 48 + (k : Int) % 10, 48 + (k : Int) / 10 % 10, 48 + (k : Int) / 100 % 10]
theorem bk_below_drewN (B : Nat) (w : World) : ∀ n, Below B w (w.drewN n)
  | 0 => Below.refl _ _
  | n + 1 => by rw [← World.drew_drewN]; exact (bk_below_drewN B w n).drew
theorem name_text (w : World) (i k : Nat) : (convert 98 9 (.slice (some ⟨w.heap.size, 0, none⟩) 6 6)).run Tryz.prog (w.alloc (.cells #[.int .u8 109, .int .u8 (65 + (i : Int) % 26), .int .u8 (65 + (i : Int) / 26 % 26), .int .u8 (48 + (k : Int) % 10), .int .u8 (48 + (k : Int) / 10 % 10), .int .u8 (48 + (k : Int) / 100 % 10)] 5))
    = .ok (.string (nameB i k)) (w.alloc (.cells #[.int .u8 109, .int .u8 (65 + (i : Int) % 26), .int .u8 (65 + (i : Int) / 26 % 26), .int .u8 (48 + (k : Int) % 10), .int .u8 (48 + (k : Int) / 10 % 10), .int .u8 (48 + (k : Int) / 100 % 10)] 5)) := by
  refine run_convert_bytes_arg (P := Tryz.prog) _ 98 5 Tryz.underlying98 Tryz.underlying5 w.heap.size 0 6 6 [109, 65 + (i : Int) % 26, 65 + (i : Int) / 26 % 26, 48 + (k : Int) % 10, 48 + (k : Int) / 10 % 10, 48 + (k : Int) / 100 % 10] rfl (fun j hj => ?_) 9 Tryz.underlying9
  rw [Nat.zero_add, World.cell?_alloc_new]
  match j, hj with
  | 0, _ => rfl
  | 1, _ => rfl
  | 2, _ => rfl
  | 3, _ => rfl
  | 4, _ => rfl
  | 5, _ => rfl
set_option maxHeartbeats 1000000 in
theorem name_any (i k : Nat) (hi : i ≤ 1000000) (hk : k ≤ 1000000000) (w : World) :
    Calls Tryz.prog 122 #[.int .i64 i, .int .i64 k] w fun e w' => e = .returned (.string (nameB i k)) ∧ Below w.heap.size w w' := by
  have hcv := name_text w i k
  go_enter Tryz.func122, Tryz.ntmps122
  go_wp2
  go_ret
  exact ⟨rfl, (Below.refl _ _).alloc (Nat.le_refl _) _⟩
theorem Tryz.bkTextInfo : (Tryz.prog.info? 9).map (fun i => (i.zero, i.size, i.bytes)) = some (some (.string ⟨#[]⟩), 1, 16) := by kernel_rfl
theorem Tryz.bkSpineInfo : (Tryz.prog.info? 31).map (fun i => (i.zero, i.size, i.bytes)) = some (some (.slice none 0 0), 1, 24) := by kernel_rfl
/-- the marks of list i, from a place on -/
def textMarks (i a n : Nat) : List Value := (List.range n).map fun j => .string (nameB i (a + j))
theorem textMarks_succ (i a n : Nat) : textMarks i a (n + 1) = textMarks i a n ++ [.string (nameB i (a + n))] := by unfold textMarks; rw [List.range_succ, List.map_append]; rfl
theorem textMarks_length (i a n : Nat) : (textMarks i a n).length = n := by simp [textMarks]
set_option maxHeartbeats 2000000 in
theorem markTexts_any (i a n : Nat) (hi : i ≤ 1000000) (ha : a ≤ 10000000) (hn : n ≤ 10000000) (w : World) :
    Calls Tryz.prog 104 #[.int .i64 i, .int .i64 a, .int .i64 n] w fun e w' => ∃ v, e = .returned v ∧ Owns w' w.heap.size 9 v (textMarks i a n) ∧ Below w.heap.size w w' := by
  obtain ⟨i0, q1, q2, q3, q4⟩ := info_parts Tryz.bkTextInfo
  have HI := Lib.hid (And.intro q1 (And.intro q2 (And.intro q3 q4)))
  clear q1 q2 q3 q4
  go_enter Tryz.func104, Tryz.ntmps104
  go_wp2
  go_loopg [7, 8] n (fun g v k wr => ∃ j : Nat, g = n - j ∧ j ≤ n ∧ k = .int .i64 ((a + j : Nat) : Int) ∧ Hid (Owns wr w.heap.size 9 v (textMarks i a j)) ∧ Hid (Below w.heap.size w wr))
  case atStart => exact ⟨0, rfl, Nat.zero_le _, by simp, Owns.nil _ _ _, Below.refl _ _⟩
  case round =>
    obtain ⟨j, rfl, hj, rfl, HO, HB⟩ := hrel
    by_cases hlt : j < n
    · have C := Lib.hid (name_any i (a + j) hi (by omega) wr)
      have hlen := textMarks_length i a j
      have HL := Lib.hid hlen
      clear hlen
      go_wp2_with fail
      refine C.out.mono ?_
      rintro e w1 ⟨rfl, hb⟩
      have HB1 := Lib.hid (HB.out.trans (hb.mono HB.out.size))
      have HO1 := Lib.hid (HO.out.below hb)
      clear hb
      go_wp2_with (at_builtin; refine wpList_append_two _ rfl _ _ 31 rfl w.heap.size 9 i0 (.string ⟨#[]⟩) 16 Tryz.underlying31 HI.out.1 HI.out.2.1 HI.out.2.2.1 HI.out.2.2.2 rfl _ _ rfl (HO1.out.touch (Stirred.of_grown (World.grownBy_alloc w1 _ none)) (fun _ _ => List.not_mem_nil)) ⟨w1.heap.size, 0, none⟩ 1 1 [.string (nameB i (a + j))] rfl rfl ?c1 ?c2 (Nat.zero_lt_succ 0) ?c3 ?c4 ?c5 ?_)
      case c1 => intro j u hj; rcases j with _ | j <;> simp at hj; subst hj; simp [Addr.add]
      case c2 => intro u hu; simp at hu; subst hu; rfl
      case c3 => rw [HL.out]; show j + 1 ≤ maxLen; unfold maxLen; omega
      case c4 => rw [HL.out]; show (j + 1) * 16 ≤ _; omega
      case c5 => have := HB1.out.size; simp; omega
      intro v' w2 hO2 _ hT _
      have hbl := Lib.hid (fun k hk => (HO1.out.block k hk).1)
      have HO2 := Lib.hid hO2
      have HB2 := Lib.hid ((HB1.out.alloc HB1.out.size _).trans (hT.below (B := w.heap.size) (fun k hk => hbl.out k (by simpa using hk)) (by have := HB1.out.size; simp; omega)))
      clear hO2 hT
      go_wp2
      go_roundg (n - (j + 1))
      case measure => omega
      case rel => exact ⟨j + 1, rfl, by omega, by go_num, by rw [Hid, textMarks_succ]; exact HO2.out, HB2⟩
    · obtain rfl : j = n := by omega
      go_wp2
      go_ret
      exact ⟨_, rfl, HO.out, HB.out⟩
set_option maxHeartbeats 2000000 in
theorem sameTexts_any (va vb : Value) (Ba Bb : Nat) (ss : List ByteArray) (w : World) (ha : Owns w Ba 9 va (ss.map .string)) (hb : Owns w Bb 9 vb (ss.map .string)) (hl : ss.length ≤ 10000000) :
    Calls Tryz.prog 100 #[va, vb] w fun e w' => e = .returned (.bool true) ∧ ∃ q, w' = w.drewN q := by
  cases ss with
  | nil =>
    obtain ⟨ao, cap, rfl⟩ := ha.slice
    obtain ⟨bo, cap', rfl⟩ := hb.slice
    clear ha hb hl
    go_enter Tryz.func100, Tryz.ntmps100
    go_wp2
    go_loopg [5] 0 (fun g i wr => i = .int .i64 0 ∧ wr = w)
    case atStart => exact ⟨rfl, rfl⟩
    case round =>
      obtain ⟨rfl, rfl⟩ := hrel
      go_wp2
      go_ret
      exact ⟨rfl, 0, rfl⟩
  | cons s0 r =>
    obtain ⟨g, cap, rfl, hca, _, _⟩ := ha.row (by simp)
    obtain ⟨h, cap', rfl, hcb, _, _⟩ := hb.row (by simp)
    have CA := Lib.hid hca
    have CB := Lib.hid hcb
    obtain ⟨n, hn⟩ : ∃ n, ((s0 :: r).map Value.string).length = n := ⟨_, rfl⟩
    obtain ⟨ss, hss⟩ : ∃ ss, s0 :: r = ss := ⟨_, rfl⟩
    rw [hss] at CA CB hn hl
    have hn' : n = ss.length := by rw [← hn]; simp
    have HN := Lib.hid hn'
    have hnl : n ≤ 10000000 := by omega
    rw [hss, hn]
    clear ha hb hca hcb hn hss hn' hl
    go_enter Tryz.func100, Tryz.ntmps100
    go_wp2
    go_loopg [5] n (fun g i wr => ∃ j q : Nat, g = n - j ∧ j ≤ n ∧ i = .int .i64 j ∧ wr = w.drewN q)
    case atStart => exact ⟨0, 0, rfl, Nat.zero_le _, rfl, rfl⟩
    case round =>
      obtain ⟨j, q, rfl, hj, rfl, rfl⟩ := hrel
      by_cases hlt : j < n
      · obtain ⟨x, hx⟩ : ∃ x, ss[j]? = some x := ⟨ss[j]'(by rw [← HN.out]; exact hlt), List.getElem?_eq_getElem _⟩
        have ca : w.cell? ⟨g, j, none⟩ = some (.string x) := CA.out j _ (by simp [hx])
        have cb : w.cell? ⟨h, j, none⟩ = some (.string x) := CB.out j _ (by simp [hx])
        clear hx
        go_wp2
        go_quiet (fail)
        go_wp2
        go_roundg (n - (j + 1))
        case measure => omega
        case rel => exact ⟨j + 1, _, rfl, by omega, by go_num, rfl⟩
      · go_wp2
        go_ret
        exact ⟨rfl, q, rfl⟩
def goodTexts (xs : List Value) : Prop := ∃ ss : List ByteArray, xs = ss.map .string ∧ ss.length ≤ 1000000
set_option maxHeartbeats 2000000 in
theorem stillTexts_any (p B : Nat) (vS vW : Value) (ls : List (Value × List Value)) (w : World) (c0 : w.cell? ⟨p, 0, none⟩ = some vS) (c1 : w.cell? ⟨p, 1, none⟩ = some vW) (bs : List Nat) (hk : Kept w B 31 9 goodTexts vS vW ls bs) :
    Calls Tryz.prog 60 #[.pointer (some ⟨p, 0, none⟩)] w fun e w' => e = .returned (.bool true) ∧ ∃ q, w' = w.drewN q := by
  have HK := Lib.hid hk
  obtain ⟨ao, cap, hv⟩ := hk.lists.spine.slice
  rw [List.length_map] at hv
  have hf := hk.few
  obtain ⟨n, hn⟩ : ∃ n, ls.length = n := ⟨_, rfl⟩
  rw [hn] at hv hf
  subst hv
  have HN := Lib.hid hn
  clear hk hn
  go_enter Tryz.func60, Tryz.ntmps60
  go_wp2
  go_loopg [3] n (fun g i wr => ∃ j : Nat, g = n - j ∧ j ≤ n ∧ i = .int .i64 j ∧ Hid (∃ q, wr = w.drewN q))
  case atStart => exact ⟨0, rfl, Nat.zero_le _, rfl, 0, rfl⟩
  case round =>
    obtain ⟨j, rfl, hj, rfl, HQ⟩ := hrel
    have hsame : ∀ {a : Addr} {v : Value}, w.cell? a = some v → wr.cell? a = some v := fun {a v} h => by obtain ⟨q, e⟩ := HQ.out; rw [e]; exact h
    have hB : Below w.heap.size w wr := by obtain ⟨q, e⟩ := HQ.out; rw [e]; exact bk_below_drewN _ _ _
    have c0 := hsame c0
    by_cases hlt : j < n
    · obtain ⟨gS, cS, gW, cW, a, b, xs, e1, rfl, k1, k2, o1, o2, ss, rfl, hl⟩ := HK.out.at (j := j) (by rw [HN.out]; exact hlt)
      simp only [Value.slice.injEq] at e1
      obtain ⟨rfl, _, rfl⟩ := e1
      have hN := HN.out
      rw [hN] at c1
      have c1 := hsame c1
      have k1 := hsame k1
      have k2 := hsame k2
      clear hN
      have C := fun k : Nat => Lib.hid (sameTexts_any a b B B ss (wr.drewN k) ((o1.below hB).below (bk_below_drewN _ _ k)) ((o2.below hB).below (bk_below_drewN _ _ k)) (by omega))
      obtain ⟨ao, ac, ha⟩ := o1.slice
      obtain ⟨bo, bc, hb⟩ := o2.slice
      rw [List.length_map] at ha hb
      subst ha hb
      clear o1 o2 hsame
      have HB := Lib.hid hB
      clear hB
      go_wp2
      go_quiet ((go_at_call 100; exact Calls.quiet_of (C _).out))
      go_wp2
      go_roundg (n - (j + 1))
      case measure => omega
      case rel => exact ⟨j + 1, rfl, by omega, by go_num, by obtain ⟨q, e⟩ := HQ.out; rw [e]; exact ⟨_, World.drewN_drewN _ _ _⟩⟩
    · clear hsame hB
      go_wp2
      go_ret
      exact ⟨rfl, HQ.out⟩
end Go.Proofs.YtpecingkoodmfaaGreatDoor
