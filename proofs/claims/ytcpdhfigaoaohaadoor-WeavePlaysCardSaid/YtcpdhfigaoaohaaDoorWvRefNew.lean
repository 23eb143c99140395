
/- The document's own weave: a new one. -/
import Derived.Test.YtcpdhfigaoaohaaDoorWvRefOps
import Derived.Test.YtcpdhfigaoaohaaDoorBookInts
import Derived.IntWalk
namespace Go.Proofs.YtcpdhfigaoaohaaDoor.WvR
open Go.RowKit Book Book.Wide Mem Wv
set_option linter.unusedSimpArgs false
set_option linter.unusedVariables false
set_option maxRecDepth 100000
set_option maxHeartbeats 4000000 in
theorem weaves_any (v : Value) (xs : List Int) (here : Int) (w : World) (h : Reads w v xs) (hx : xs.length ≤ 1000) : Calls Tryd.prog 7 #[v, .int .i64 here] w fun e w' => ∃ p bs, e = .returned (.pointer (some ⟨p, 0, none⟩)) ∧ RAt w' w.heap.size p bs (Wv.start xs here) ∧ Below w.heap.size w w' := by
  obtain ⟨i0, q1, q2, q3, q4⟩ := info_parts Tryd.bkIntInfo
  have HI := Lib.hid (And.intro q1 (And.intro q2 (And.intro q3 q4)))
  have HR := Lib.hid h
  obtain ⟨vo, vc, rfl, _⟩ := h
  obtain ⟨n, hn⟩ : ∃ n, xs.length = n := ⟨_, rfl⟩
  have HN := Lib.hid hn
  rw [hn] at HR hx ⊢
  obtain ⟨H, hH⟩ : ∃ H, (Wv.start xs here).here = H := ⟨_, rfl⟩
  have HH := Lib.hid hH
  have hHv : (H : Int) = min (max here 0) (n : Int) := by rw [← hH, ← hn]; unfold Wv.start; show (((min (max here 0) (xs.length : Int)).toNat : Nat) : Int) = _; omega
  clear q1 q2 q3 q4 hn hH
  obtain ⟨X, g1⟩ : ∃ X, max here 0 = X := ⟨_, rfl⟩
  rw [g1] at hHv
  have g2 : min X (n : Int) = (H : Int) := hHv.symm
  clear hHv
  go_enter Tryd.func7, Tryd.ntmps7
  go_wp2_with (refine wpList_append_reads _ rfl _ _ 22 rfl w.heap.size 3 i0 (.int .i64 0) 8 Tryd.underlying22 HI.out.1 HI.out.2.1 HI.out.2.2.1 HI.out.2.2.2 rfl _ [] rfl (Owns.nil _ _ _) (.slice vo n vc) xs rfl HR.out ?c1 ?c2 (Nat.le_refl _) ?_)
  case c1 => rw [HN.out]; unfold maxLen; simp; omega
  case c2 => rw [HN.out]; simp; omega
  intro v' w1 hO _ hT _
  have hb1 : Below w.heap.size w w1 := hT.below (fun k hk => by cases hk) (Nat.le_refl _)
  have hO : Owns w1 w.heap.size 3 v' (vals xs) := hO
  obtain ⟨ao, ac, hv'⟩ := hO.slice
  rw [vals_length, HN.out] at hv'
  subst hv'
  obtain ⟨w2, hw2⟩ : ∃ w2, w1.alloc (.cells #[.slice ao n ac, .int .i64 (H : Int), .slice none 0 0] 49) = w2 := ⟨_, rfl⟩
  have hb2 := (Below.refl w1.heap.size w1).alloc (Nat.le_refl _) (.cells #[.slice ao n ac, .int .i64 (H : Int), .slice none 0 0] 49)
  have hnew := heap_alloc_new w1 (.cells #[.slice ao n ac, .int .i64 (H : Int), .slice none 0 0] 49)
  rw [hw2] at hb2 hnew
  have HM := Lib.hid (show ∃ bs, RAt w2 w.heap.size w1.heap.size bs (Wv.start xs here) ∧ Below w.heap.size w w2 from by
    refine ⟨_, ⟨⟨.slice ao n ac, .slice none 0 0, ?_, hO.below hb2, OwnsK.nil _ _ _ _, rfl⟩, hb1.size, start_fine xs here, by show xs.length ≤ 1000; rw [HN.out]; exact hx, Nat.zero_le _⟩, hb1.trans (hb2.mono hb1.size)⟩
    rw [HH.out]; exact hnew)
  clear hO hT hb1 hb2 hnew
  go_wp2
  go_ret
  obtain ⟨bs, h1, h2⟩ := HM.out
  exact ⟨_, bs, rfl, h1, h2⟩
end Go.Proofs.YtcpdhfigaoaohaaDoor.WvR
