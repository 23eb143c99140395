
/- hollowaybook over lists that came in: lent, held against one's own. -/
import Derived.Test.YtpecingkoodmfaaGreatDoorVals
import Derived.Test.YtpecingkoodmfaaGreatDoorBookAddInts
namespace Go.Proofs.YtpecingkoodmfaaGreatDoor
open Go.RowKit Book Mem
set_option linter.unusedSimpArgs false
set_option linter.unusedVariables false
theorem copyReads_any (v : Value) (l : List Int) (w : World) (h : Reads w v l) (hl : l.length ≤ 1000000) :
    Calls Tryz.prog 55 #[v] w fun e w' => ∃ c, e = .returned c ∧ Owns w' w.heap.size 3 c (vals l) ∧ Below w.heap.size w w' := by
  obtain ⟨i0, q1, q2, q3, q4⟩ := info_parts Tryz.bkIntInfo
  have HI := Lib.hid (And.intro q1 (And.intro q2 (And.intro q3 q4)))
  have HR := Lib.hid h
  obtain ⟨vo, vc, rfl, _⟩ := h
  obtain ⟨n, hn⟩ : ∃ n, l.length = n := ⟨_, rfl⟩
  rw [hn] at HR hl ⊢
  have HN := Lib.hid hn
  clear q1 q2 q3 q4 hn
  go_enter Tryz.func55, Tryz.ntmps55
  go_wp2_with (at_builtin; refine wpList_append_reads _ rfl _ _ 24 rfl w.heap.size 3 i0 (.int .i64 0) 8 Tryz.underlying24 HI.out.1 HI.out.2.1 HI.out.2.2.1 HI.out.2.2.2 rfl _ [] rfl (Owns.nil _ _ _) _ l rfl HR.out ?c3 ?c4 (Nat.le_refl _) ?_)
  case c3 => have := HN.out; unfold maxLen; simp; omega
  case c4 => have := HN.out; simp; omega
  intro v' w' hown _ hT _
  have HF := Lib.hid (show Owns w' w.heap.size 3 v' (vals l) from hown)
  have HG := Lib.hid hT
  clear hown hT
  go_wp2
  go_ret
  exact ⟨_, rfl, HF.out, HG.out.below (B := w.heap.size) (fun _ h => by cases h) (Nat.le_refl _)⟩
/-- a list with room behind it, in which a mark stands -/
def Lent (w : World) (B g cap : Nat) (l : List Int) : Prop := Owns w B 3 (.slice (some ⟨g, 0, none⟩) (l.length + 1) cap) (vals (l ++ [-77]))
theorem Lent.owns {w : World} {B g cap : Nat} {l : List Int} (h : Lent w B g cap l) : Owns w B 3 (.slice (some ⟨g, 0, none⟩) l.length cap) (vals l) := by
  have := owns_shorter (m := l.length) h (by simp)
  rw [List.take_left] at this
  exact this
theorem Lent.blk {w : World} {B g cap : Nat} {l : List Int} (h : Lent w B g cap l) : Book.blk (.slice (some ⟨g, 0, none⟩) (l.length + 1) cap) = some g ∧ l.length + 1 ≤ cap := by
  obtain ⟨g', c', e, _, _, hl⟩ := h.row (by rw [vals_length]; simp)
  rw [vals_length] at e hl
  simp only [Value.slice.injEq, Option.some.injEq, Addr.mk.injEq, and_true, List.length_append, List.length_cons, List.length_nil] at e hl
  have : l.length + 1 ≤ cap := by omega
  exact ⟨blk_pos (by omega), this⟩
theorem Lent.touch {w w' : World} {B g cap : Nat} {l : List Int} {bs : List Nat} (h : Lent w B g cap l) (ht : Stirred w w' bs) (hn : g ∉ bs) : Lent w' B g cap l :=
  Owns.touch h ht (fun k hk => by rw [h.blk.1] at hk; simp at hk; subst hk; exact hn)
set_option maxHeartbeats 1000000 in
theorem lent_any (v : Value) (l : List Int) (w : World) (h : Reads w v l) (hl : l.length ≤ 1000) :
    Calls Tryz.prog 29 #[v] w fun e w' => ∃ g cap, e = .returned (.slice (some ⟨g, 0, none⟩) l.length cap) ∧ Lent w' w.heap.size g cap l ∧ Below w.heap.size w w' := by
  obtain ⟨i0, q1, q2, q3, q4⟩ := info_parts Tryz.bkIntInfo
  have HI := Lib.hid (And.intro q1 (And.intro q2 (And.intro q3 q4)))
  have C := Lib.hid (copyReads_any v l w h (by omega))
  obtain ⟨vo, vc, rfl, _⟩ := h
  obtain ⟨n, hn⟩ : ∃ n, l.length = n := ⟨_, rfl⟩
  have HN := Lib.hid hn
  rw [hn] at C hl ⊢
  clear q1 q2 q3 q4 hn
  go_enter Tryz.func29, Tryz.ntmps29
  go_wp2_with fail
  refine C.out.mono ?_
  rintro e w1 ⟨c, rfl, hO, hB⟩
  obtain ⟨co, cc, hcv⟩ := hO.slice
  rw [vals_length, HN.out] at hcv
  subst hcv
  have hal := (Below.refl w1.heap.size w1).alloc (Nat.le_refl _) (.cells #[.int .i64 (-77)] 3)
  have HO := Lib.hid (hO.below hal)
  have HB := Lib.hid hB
  clear hO hB C hal
  go_wp2_with (at_builtin; refine wpList_append_two _ rfl _ _ 24 rfl w.heap.size 3 i0 (.int .i64 0) 8 Tryz.underlying24 HI.out.1 HI.out.2.1 HI.out.2.2.1 HI.out.2.2.2 rfl _ _ rfl HO.out ⟨w1.heap.size, 0, none⟩ 1 1 [.int .i64 (-77)] rfl rfl ?c1 ?c2 (Nat.zero_lt_succ 0) ?c3 ?c4 ?c5 ?_)
  case c1 => intro j u hj; rcases j with _ | j <;> simp at hj; subst hj; simp [Addr.add]
  case c2 => intro u hu; simp at hu; subst hu; rfl
  case c3 => rw [vals_length, HN.out]; show n + 1 ≤ maxLen; unfold maxLen; omega
  case c4 => rw [vals_length, HN.out]; show (n + 1) * 8 ≤ _; omega
  case c5 => have := HB.out.size; simp; omega
  intro v' w2 hO2 _ hT _
  have hv : vals l ++ [.int .i64 (-77)] = vals (l ++ [-77]) := by simp [vals]
  rw [hv] at hO2
  obtain ⟨g, cap, e, hb⟩ := owns_slice hO2 (by simp)
  rw [List.length_append, HN.out] at e
  change v' = .slice (some ⟨g, 0, none⟩) (n + 1) cap at e
  subst e
  have hL : Lent w2 w.heap.size g cap l := by unfold Lent; rw [HN.out]; exact hO2
  have hcap := hL.blk.2
  rw [HN.out] at hcap
  have HL := Lib.hid hL
  have HB2 := Lib.hid ((HB.out.alloc HB.out.size (.cells #[.int .i64 (-77)] 3)).trans (hT.below (B := w.heap.size) (fun k hk => (HO.out.block k (by simpa using hk)).1) (by have := HB.out.size; simp; omega)))
  have hc1 : (n : Int) ≤ (cap : Int) := by omega
  clear hO2 hT hv hb hL
  go_wp2
  go_ret
  exact ⟨g, cap, rfl, HL.out, HB2.out⟩
set_option maxHeartbeats 2000000 in
theorem sameReads_any (va vb : Value) (ss : List Int) (w : World) (ha : Reads w va ss) (hb : Reads w vb ss) (hl : ss.length ≤ 10000000) :
    Calls Tryz.prog 21 #[va, vb] w fun e w' => e = .returned (.bool true) ∧ ∃ q, w' = w.drewN q := by
  obtain ⟨ao, ac, rfl, hca⟩ := ha
  obtain ⟨bo, bc, rfl, hcb⟩ := hb
  have CA := Lib.hid hca
  have CB := Lib.hid hcb
  obtain ⟨n, hn⟩ : ∃ n, ss.length = n := ⟨_, rfl⟩
  have HN := Lib.hid hn
  rw [hn] at hl ⊢
  clear hca hcb hn
  go_enter Tryz.func21, Tryz.ntmps21
  go_wp2
  go_loopg [5] n (fun g i wr => ∃ j q : Nat, g = n - j ∧ j ≤ n ∧ i = .int .i64 j ∧ wr = w.drewN q)
  case atStart => exact ⟨0, 0, rfl, Nat.zero_le _, rfl, rfl⟩
  case round =>
    obtain ⟨j, q, rfl, hj, rfl, rfl⟩ := hrel
    by_cases hlt : j < n
    · obtain ⟨x, hx⟩ : ∃ x, ss[j]? = some x := ⟨ss[j]'(by rw [HN.out]; exact hlt), List.getElem?_eq_getElem _⟩
      obtain ⟨a, rfl, ca⟩ := CA.out j x hx
      obtain ⟨b, rfl, cb⟩ := CB.out j x hx
      clear hx
      go_wp2
      go_quiet (fail)
      go_wp2
      go_roundg (n - (j + 1))
      case measure => omega
      case rel => exact ⟨j + 1, _, rfl, by omega, by go_num, rfl⟩
    · go_wp2
      go_ret
      exact ⟨rfl, q, rfl⟩
set_option maxHeartbeats 1000000 in
theorem stays_any (B g cap : Nat) (vb : Value) (l : List Int) (w : World) (h : Lent w B g cap l) (hb : Reads w vb l) (hl : l.length ≤ 1000) :
    Calls Tryz.prog 37 #[.slice (some ⟨g, 0, none⟩) l.length cap, vb] w fun e w' => e = .returned (.bool true) ∧ ∃ q, w' = w.drewN q := by
  have C := Lib.hid (sameReads_any _ vb l w (Reads.of_owns h.owns) hb (by omega))
  have hcap := h.blk.2
  have k1 := (owns_at h (j := l.length) (by simp)).1
  simp only [List.getElem_append_right (Nat.le_refl _), Nat.sub_self, List.getElem_cons_zero] at k1
  obtain ⟨vo, vc, rfl, _⟩ := hb
  obtain ⟨n, hn⟩ : ∃ n, l.length = n := ⟨_, rfl⟩
  rw [hn] at C hl hcap k1 ⊢
  have K1 := Lib.hid k1
  have hc1 : (n : Int) + 1 ≤ (cap : Int) := by omega
  have hn0 : (0 : Int) ≤ (n : Int) := by omega
  clear hn h k1
  go_enter Tryz.func37, Tryz.ntmps37
  go_wp2_with fail
  refine C.out.mono ?_
  rintro e w1 ⟨rfl, q, rfl⟩
  clear C
  have k1 : (w.drewN q).cell? ⟨g, n, none⟩ = some (.int .i64 (-77)) := K1.out
  go_wp2
  go_ret
  exact ⟨rfl, q, rfl⟩
end Go.Proofs.YtpecingkoodmfaaGreatDoor
