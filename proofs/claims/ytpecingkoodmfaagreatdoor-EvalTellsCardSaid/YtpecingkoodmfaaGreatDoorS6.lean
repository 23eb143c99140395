/- Package ir, and the document's answer to it: which places and exits an instruction names. -/
import Derived.Test.YtpecingkoodmfaaGreatDoorS4
namespace Go.Proofs.YtpecingkoodmfaaGreatDoor.Ir
open Go.RowKit Book Mem
set_option linter.unusedSimpArgs false
set_option linter.unusedVariables false
theorem owns_lit {w : World} {g B n : Nat} {xs : List Int} (h : w.heap[g]? = some (.cells (vals xs).toArray 3 (0, 0))) (hn : xs.length = n) (h0 : 0 < n) (hm : n ≤ 1000000) (hB : B ≤ g) : Owns w B 3 (.slice (some ⟨g, 0, none⟩) n n) (vals xs) := by
  subst hn
  exact .inr ⟨g, xs.length, (vals xs).toArray, by rw [vals_length], h0, hB, h, by rw [vals_length]; exact Nat.le_refl _, by unfold maxLen; omega, by simp, by show List.take (vals xs).length (vals xs) = vals xs; exact List.take_length⟩
/-- what a call answers: a list of its own -/
def GivesL (l : List Int) (w : World) (e : Ending) (w' : World) : Prop := ∃ v, e = .returned v ∧ Owns w' w.heap.size 3 v (vals l) ∧ Below w.heap.size w w'
theorem ins_box (x : I) (w : World) : ∃ w1 g, w.alloc (.cells (insA x) 42) = w1 ∧ w.heap.size = g ∧ Hid (Below w.heap.size w w1) ∧ w1.cell? ⟨g, 0, none⟩ = some (.int .i64 x.1) ∧ w1.cell? ⟨g, 1, none⟩ = some (.int .i64 x.2.1) ∧ w1.cell? ⟨g, 2, none⟩ = some (.int .i64 x.2.2.1) ∧ w1.cell? ⟨g, 3, none⟩ = some (.int .i64 x.2.2.2.1) ∧ w1.cell? ⟨g, 4, none⟩ = some (.int .i64 x.2.2.2.2) := by
  obtain ⟨w1, g, h1, h2, HG, HB, _⟩ := newBox w (insA x) 42
  exact ⟨w1, g, h1, h2, HB, whole_cell HG.out rfl, whole_cell HG.out rfl, whole_cell HG.out rfl, whole_cell HG.out rfl, whole_cell HG.out rfl⟩
theorem cell_on {w w' : World} {g j : Nat} {v : Value} (hb : Below w.heap.size w w') (h : w.cell? ⟨g, j, none⟩ = some v) : w'.cell? ⟨g, j, none⟩ = some v := by rw [hb.cell (World.block_lt_of_cell? w _ h)]; exact h
set_option maxHeartbeats 4000000 in
theorem uses_any (x : I) (w : World) : Calls Tryz.prog 13 #[insV x] w (GivesL (usesL x) w) := by
  obtain ⟨op, a, b, c, d⟩ := x
  rcases op_all op with h | h | rfl | rfl | rfl | rfl | rfl | rfl | rfl | rfl | rfl | rfl | rfl | rfl
  · obtain ⟨w1, g, hw1, hg, HB, c0, c1, c2, c3, c4⟩ := ins_box (op, a, b, c, d) w
    dsimp only at c0 c1 c2 c3 c4
    have HE := Lib.hid (show usesL (op, a, b, c, d) = [] by unfold usesL; repeat rw [if_neg (by show ¬ _; first | omega | (simp only []; omega))])
    go_enter Tryz.func13, Tryz.ntmps13
    go_wp2
    go_ret
    exact ⟨_, rfl, by rw [HE.out]; exact Owns.nil _ _ _, HB.out⟩
  · obtain ⟨w1, g, hw1, hg, HB, c0, c1, c2, c3, c4⟩ := ins_box (op, a, b, c, d) w
    dsimp only at c0 c1 c2 c3 c4
    have HE := Lib.hid (show usesL (op, a, b, c, d) = [] by unfold usesL; repeat rw [if_neg (by show ¬ _; first | omega | (simp only []; omega))])
    go_enter Tryz.func13, Tryz.ntmps13
    go_wp2
    go_ret
    exact ⟨_, rfl, by rw [HE.out]; exact Owns.nil _ _ _, HB.out⟩
  · obtain ⟨w1, g, hw1, hg, HB, c0, c1, c2, c3, c4⟩ := ins_box (1, a, b, c, d) w
    dsimp only at c0 c1 c2 c3 c4
    have HE := Lib.hid (show usesL (1, a, b, c, d) = [] from rfl)
    go_enter Tryz.func13, Tryz.ntmps13
    go_wp2
    go_ret
    exact ⟨_, rfl, by rw [HE.out]; exact Owns.nil _ _ _, HB.out⟩
  · obtain ⟨w1, g, hw1, hg, HB, c0, c1, c2, c3, c4⟩ := ins_box (2, a, b, c, d) w
    dsimp only at c0 c1 c2 c3 c4
    have HE := Lib.hid (show usesL (2, a, b, c, d) = [] from rfl)
    go_enter Tryz.func13, Tryz.ntmps13
    go_wp2
    go_ret
    exact ⟨_, rfl, by rw [HE.out]; exact Owns.nil _ _ _, HB.out⟩
  · obtain ⟨w1, g, hw1, hg, HB, c0, c1, c2, c3, c4⟩ := ins_box (3, a, b, c, d) w
    dsimp only at c0 c1 c2 c3 c4
    have HE := Lib.hid (show usesL (3, a, b, c, d) = [] from rfl)
    go_enter Tryz.func13, Tryz.ntmps13
    go_wp2
    go_ret
    exact ⟨_, rfl, by rw [HE.out]; exact Owns.nil _ _ _, HB.out⟩
  · obtain ⟨w1, g, hw1, hg, HB, c0, c1, c2, c3, c4⟩ := ins_box (4, a, b, c, d) w
    dsimp only at c0 c1 c2 c3 c4
    by_cases ht : twoI a = true
    · have HE := Lib.hid (show usesL (4, a, b, c, d) = [b, c] by unfold usesL; rw [if_pos rfl, if_pos ht])
      have C := Lib.hid (two_any a w1)
      rw [ht] at C
      clear ht
      go_enter Tryz.func13, Tryz.ntmps13
      go_wp2_with fail
      refine C.out.mono ?_
      rintro e w3 ⟨rfl, hb⟩
      have HB3 := Lib.hid (HB.out.trans (hb.mono HB.out.size))
      replace c0 := cell_on hb c0
      replace c1 := cell_on hb c1
      replace c2 := cell_on hb c2
      replace c3 := cell_on hb c3
      replace c4 := cell_on hb c4
      clear hb C
      obtain ⟨w2, g2, hw2, hg2, HG2, HB2, HZ2⟩ := newBox w3 #[.int .i64 b, .int .i64 c] 3
      have HO := Lib.hid (owns_lit (B := w.heap.size) (n := 2) (xs := [b, c]) (by exact HG2.out) rfl (by decide) (by decide) (by have h1 := HZ2.out; have h2 := HB3.out.size; omega))
      have HBF := Lib.hid (HB3.out.trans (HB2.out.mono HB3.out.size))
      go_wp2
      go_ret
      exact ⟨_, rfl, by rw [HE.out]; exact HO.out, HBF.out⟩
    · have HE := Lib.hid (show usesL (4, a, b, c, d) = [b] by unfold usesL; rw [if_pos rfl, if_neg ht])
      have ht' : twoI a = false := by simpa using ht
      have C := Lib.hid (two_any a w1)
      rw [ht'] at C
      clear ht ht'
      go_enter Tryz.func13, Tryz.ntmps13
      go_wp2_with fail
      refine C.out.mono ?_
      rintro e w3 ⟨rfl, hb⟩
      have HB3 := Lib.hid (HB.out.trans (hb.mono HB.out.size))
      replace c0 := cell_on hb c0
      replace c1 := cell_on hb c1
      replace c2 := cell_on hb c2
      replace c3 := cell_on hb c3
      replace c4 := cell_on hb c4
      clear hb C
      obtain ⟨w2, g2, hw2, hg2, HG2, HB2, HZ2⟩ := newBox w3 #[.int .i64 b] 3
      have HO := Lib.hid (owns_lit (B := w.heap.size) (n := 1) (xs := [b]) (by exact HG2.out) rfl (by decide) (by decide) (by have h1 := HZ2.out; have h2 := HB3.out.size; omega))
      have HBF := Lib.hid (HB3.out.trans (HB2.out.mono HB3.out.size))
      go_wp2
      go_ret
      exact ⟨_, rfl, by rw [HE.out]; exact HO.out, HBF.out⟩
  · obtain ⟨w1, g, hw1, hg, HB, c0, c1, c2, c3, c4⟩ := ins_box (5, a, b, c, d) w
    dsimp only at c0 c1 c2 c3 c4
    obtain ⟨w2, g2, hw2, hg2, HG2, HB2, HZ2⟩ := newBox w1 #[.int .i64 b] 3
    have HO := Lib.hid (owns_lit (B := w.heap.size) (n := 1) (xs := [b]) (by exact HG2.out) rfl (by decide) (by decide) (by have h1 := HZ2.out; have h2 := HB.out.size; omega))
    have HBF := Lib.hid (HB.out.trans (HB2.out.mono HB.out.size))
    have HE := Lib.hid (show usesL (5, a, b, c, d) = [b] from rfl)
    go_enter Tryz.func13, Tryz.ntmps13
    go_wp2
    go_ret
    exact ⟨_, rfl, by rw [HE.out]; exact HO.out, HBF.out⟩
  · obtain ⟨w1, g, hw1, hg, HB, c0, c1, c2, c3, c4⟩ := ins_box (6, a, b, c, d) w
    dsimp only at c0 c1 c2 c3 c4
    obtain ⟨w2, g2, hw2, hg2, HG2, HB2, HZ2⟩ := newBox w1 #[.int .i64 b, .int .i64 c] 3
    have HO := Lib.hid (owns_lit (B := w.heap.size) (n := 2) (xs := [b, c]) (by exact HG2.out) rfl (by decide) (by decide) (by have h1 := HZ2.out; have h2 := HB.out.size; omega))
    have HBF := Lib.hid (HB.out.trans (HB2.out.mono HB.out.size))
    have HE := Lib.hid (show usesL (6, a, b, c, d) = [b, c] from rfl)
    go_enter Tryz.func13, Tryz.ntmps13
    go_wp2
    go_ret
    exact ⟨_, rfl, by rw [HE.out]; exact HO.out, HBF.out⟩
  · obtain ⟨w1, g, hw1, hg, HB, c0, c1, c2, c3, c4⟩ := ins_box (7, a, b, c, d) w
    dsimp only at c0 c1 c2 c3 c4
    obtain ⟨w2, g2, hw2, hg2, HG2, HB2, HZ2⟩ := newBox w1 #[.int .i64 b] 3
    have HO := Lib.hid (owns_lit (B := w.heap.size) (n := 1) (xs := [b]) (by exact HG2.out) rfl (by decide) (by decide) (by have h1 := HZ2.out; have h2 := HB.out.size; omega))
    have HBF := Lib.hid (HB.out.trans (HB2.out.mono HB.out.size))
    have HE := Lib.hid (show usesL (7, a, b, c, d) = [b] from rfl)
    go_enter Tryz.func13, Tryz.ntmps13
    go_wp2
    go_ret
    exact ⟨_, rfl, by rw [HE.out]; exact HO.out, HBF.out⟩
  · obtain ⟨w1, g, hw1, hg, HB, c0, c1, c2, c3, c4⟩ := ins_box (8, a, b, c, d) w
    dsimp only at c0 c1 c2 c3 c4
    obtain ⟨w2, g2, hw2, hg2, HG2, HB2, HZ2⟩ := newBox w1 #[.int .i64 b] 3
    have HO := Lib.hid (owns_lit (B := w.heap.size) (n := 1) (xs := [b]) (by exact HG2.out) rfl (by decide) (by decide) (by have h1 := HZ2.out; have h2 := HB.out.size; omega))
    have HBF := Lib.hid (HB.out.trans (HB2.out.mono HB.out.size))
    have HE := Lib.hid (show usesL (8, a, b, c, d) = [b] from rfl)
    go_enter Tryz.func13, Tryz.ntmps13
    go_wp2
    go_ret
    exact ⟨_, rfl, by rw [HE.out]; exact HO.out, HBF.out⟩
  · obtain ⟨w1, g, hw1, hg, HB, c0, c1, c2, c3, c4⟩ := ins_box (9, a, b, c, d) w
    dsimp only at c0 c1 c2 c3 c4
    obtain ⟨w2, g2, hw2, hg2, HG2, HB2, HZ2⟩ := newBox w1 #[.int .i64 b, .int .i64 c] 3
    have HO := Lib.hid (owns_lit (B := w.heap.size) (n := 2) (xs := [b, c]) (by exact HG2.out) rfl (by decide) (by decide) (by have h1 := HZ2.out; have h2 := HB.out.size; omega))
    have HBF := Lib.hid (HB.out.trans (HB2.out.mono HB.out.size))
    have HE := Lib.hid (show usesL (9, a, b, c, d) = [b, c] from rfl)
    go_enter Tryz.func13, Tryz.ntmps13
    go_wp2
    go_ret
    exact ⟨_, rfl, by rw [HE.out]; exact HO.out, HBF.out⟩
  · obtain ⟨w1, g, hw1, hg, HB, c0, c1, c2, c3, c4⟩ := ins_box (10, a, b, c, d) w
    dsimp only at c0 c1 c2 c3 c4
    obtain ⟨w2, g2, hw2, hg2, HG2, HB2, HZ2⟩ := newBox w1 #[.int .i64 b] 3
    have HO := Lib.hid (owns_lit (B := w.heap.size) (n := 1) (xs := [b]) (by exact HG2.out) rfl (by decide) (by decide) (by have h1 := HZ2.out; have h2 := HB.out.size; omega))
    have HBF := Lib.hid (HB.out.trans (HB2.out.mono HB.out.size))
    have HE := Lib.hid (show usesL (10, a, b, c, d) = [b] from rfl)
    go_enter Tryz.func13, Tryz.ntmps13
    go_wp2
    go_ret
    exact ⟨_, rfl, by rw [HE.out]; exact HO.out, HBF.out⟩
  · obtain ⟨w1, g, hw1, hg, HB, c0, c1, c2, c3, c4⟩ := ins_box (11, a, b, c, d) w
    dsimp only at c0 c1 c2 c3 c4
    obtain ⟨w2, g2, hw2, hg2, HG2, HB2, HZ2⟩ := newBox w1 #[.int .i64 b] 3
    have HO := Lib.hid (owns_lit (B := w.heap.size) (n := 1) (xs := [b]) (by exact HG2.out) rfl (by decide) (by decide) (by have h1 := HZ2.out; have h2 := HB.out.size; omega))
    have HBF := Lib.hid (HB.out.trans (HB2.out.mono HB.out.size))
    have HE := Lib.hid (show usesL (11, a, b, c, d) = [b] from rfl)
    go_enter Tryz.func13, Tryz.ntmps13
    go_wp2
    go_ret
    exact ⟨_, rfl, by rw [HE.out]; exact HO.out, HBF.out⟩
  · obtain ⟨w1, g, hw1, hg, HB, c0, c1, c2, c3, c4⟩ := ins_box (12, a, b, c, d) w
    dsimp only at c0 c1 c2 c3 c4
    have HE := Lib.hid (show usesL (12, a, b, c, d) = [] from rfl)
    go_enter Tryz.func13, Tryz.ntmps13
    go_wp2
    go_ret
    exact ⟨_, rfl, by rw [HE.out]; exact Owns.nil _ _ _, HB.out⟩
set_option maxHeartbeats 4000000 in
theorem ruses_any (x : I) (w : World) : Calls Tryz.prog 22 #[insV x] w (GivesL (usesL x) w) := by
  obtain ⟨op, a, b, c, d⟩ := x
  rcases op_all op with h | h | rfl | rfl | rfl | rfl | rfl | rfl | rfl | rfl | rfl | rfl | rfl | rfl
  · obtain ⟨w1, g, hw1, hg, HB, c0, c1, c2, c3, c4⟩ := ins_box (op, a, b, c, d) w
    dsimp only at c0 c1 c2 c3 c4
    have HE := Lib.hid (show usesL (op, a, b, c, d) = [] by unfold usesL; repeat rw [if_neg (by show ¬ _; first | omega | (simp only []; omega))])
    go_enter Tryz.func22, Tryz.ntmps22
    go_wp2
    go_ret
    exact ⟨_, rfl, by rw [HE.out]; exact Owns.nil _ _ _, HB.out⟩
  · obtain ⟨w1, g, hw1, hg, HB, c0, c1, c2, c3, c4⟩ := ins_box (op, a, b, c, d) w
    dsimp only at c0 c1 c2 c3 c4
    have HE := Lib.hid (show usesL (op, a, b, c, d) = [] by unfold usesL; repeat rw [if_neg (by show ¬ _; first | omega | (simp only []; omega))])
    go_enter Tryz.func22, Tryz.ntmps22
    go_wp2
    go_ret
    exact ⟨_, rfl, by rw [HE.out]; exact Owns.nil _ _ _, HB.out⟩
  · obtain ⟨w1, g, hw1, hg, HB, c0, c1, c2, c3, c4⟩ := ins_box (1, a, b, c, d) w
    dsimp only at c0 c1 c2 c3 c4
    have HE := Lib.hid (show usesL (1, a, b, c, d) = [] from rfl)
    go_enter Tryz.func22, Tryz.ntmps22
    go_wp2
    go_ret
    exact ⟨_, rfl, by rw [HE.out]; exact Owns.nil _ _ _, HB.out⟩
  · obtain ⟨w1, g, hw1, hg, HB, c0, c1, c2, c3, c4⟩ := ins_box (2, a, b, c, d) w
    dsimp only at c0 c1 c2 c3 c4
    have HE := Lib.hid (show usesL (2, a, b, c, d) = [] from rfl)
    go_enter Tryz.func22, Tryz.ntmps22
    go_wp2
    go_ret
    exact ⟨_, rfl, by rw [HE.out]; exact Owns.nil _ _ _, HB.out⟩
  · obtain ⟨w1, g, hw1, hg, HB, c0, c1, c2, c3, c4⟩ := ins_box (3, a, b, c, d) w
    dsimp only at c0 c1 c2 c3 c4
    have HE := Lib.hid (show usesL (3, a, b, c, d) = [] from rfl)
    go_enter Tryz.func22, Tryz.ntmps22
    go_wp2
    go_ret
    exact ⟨_, rfl, by rw [HE.out]; exact Owns.nil _ _ _, HB.out⟩
  · obtain ⟨w1, g, hw1, hg, HB, c0, c1, c2, c3, c4⟩ := ins_box (4, a, b, c, d) w
    dsimp only at c0 c1 c2 c3 c4
    by_cases ht : twoI a = true
    · have HE := Lib.hid (show usesL (4, a, b, c, d) = [b, c] by unfold usesL; rw [if_pos rfl, if_pos ht])
      have C := Lib.hid (risTwo_any a w1)
      rw [ht] at C
      clear ht
      go_enter Tryz.func22, Tryz.ntmps22
      go_wp2_with fail
      refine C.out.mono ?_
      rintro e wz ⟨rfl, hwz⟩
      subst wz
      obtain ⟨w2, g2, hw2, hg2, HG2, HB2, HZ2⟩ := newBox w1 #[.int .i64 b, .int .i64 c] 3
      have HO := Lib.hid (owns_lit (B := w.heap.size) (n := 2) (xs := [b, c]) (by exact HG2.out) rfl (by decide) (by decide) (by have h1 := HZ2.out; have h2 := HB.out.size; omega))
      have HBF := Lib.hid (HB.out.trans (HB2.out.mono HB.out.size))
      go_wp2
      go_ret
      exact ⟨_, rfl, by rw [HE.out]; exact HO.out, HBF.out⟩
    · have HE := Lib.hid (show usesL (4, a, b, c, d) = [b] by unfold usesL; rw [if_pos rfl, if_neg ht])
      have ht' : twoI a = false := by simpa using ht
      have C := Lib.hid (risTwo_any a w1)
      rw [ht'] at C
      clear ht ht'
      go_enter Tryz.func22, Tryz.ntmps22
      go_wp2_with fail
      refine C.out.mono ?_
      rintro e wz ⟨rfl, hwz⟩
      subst wz
      obtain ⟨w2, g2, hw2, hg2, HG2, HB2, HZ2⟩ := newBox w1 #[.int .i64 b] 3
      have HO := Lib.hid (owns_lit (B := w.heap.size) (n := 1) (xs := [b]) (by exact HG2.out) rfl (by decide) (by decide) (by have h1 := HZ2.out; have h2 := HB.out.size; omega))
      have HBF := Lib.hid (HB.out.trans (HB2.out.mono HB.out.size))
      go_wp2
      go_ret
      exact ⟨_, rfl, by rw [HE.out]; exact HO.out, HBF.out⟩
  · obtain ⟨w1, g, hw1, hg, HB, c0, c1, c2, c3, c4⟩ := ins_box (5, a, b, c, d) w
    dsimp only at c0 c1 c2 c3 c4
    obtain ⟨w2, g2, hw2, hg2, HG2, HB2, HZ2⟩ := newBox w1 #[.int .i64 b] 3
    have HO := Lib.hid (owns_lit (B := w.heap.size) (n := 1) (xs := [b]) (by exact HG2.out) rfl (by decide) (by decide) (by have h1 := HZ2.out; have h2 := HB.out.size; omega))
    have HBF := Lib.hid (HB.out.trans (HB2.out.mono HB.out.size))
    have HE := Lib.hid (show usesL (5, a, b, c, d) = [b] from rfl)
    go_enter Tryz.func22, Tryz.ntmps22
    go_wp2
    go_ret
    exact ⟨_, rfl, by rw [HE.out]; exact HO.out, HBF.out⟩
  · obtain ⟨w1, g, hw1, hg, HB, c0, c1, c2, c3, c4⟩ := ins_box (6, a, b, c, d) w
    dsimp only at c0 c1 c2 c3 c4
    obtain ⟨w2, g2, hw2, hg2, HG2, HB2, HZ2⟩ := newBox w1 #[.int .i64 b, .int .i64 c] 3
    have HO := Lib.hid (owns_lit (B := w.heap.size) (n := 2) (xs := [b, c]) (by exact HG2.out) rfl (by decide) (by decide) (by have h1 := HZ2.out; have h2 := HB.out.size; omega))
    have HBF := Lib.hid (HB.out.trans (HB2.out.mono HB.out.size))
    have HE := Lib.hid (show usesL (6, a, b, c, d) = [b, c] from rfl)
    go_enter Tryz.func22, Tryz.ntmps22
    go_wp2
    go_ret
    exact ⟨_, rfl, by rw [HE.out]; exact HO.out, HBF.out⟩
  · obtain ⟨w1, g, hw1, hg, HB, c0, c1, c2, c3, c4⟩ := ins_box (7, a, b, c, d) w
    dsimp only at c0 c1 c2 c3 c4
    obtain ⟨w2, g2, hw2, hg2, HG2, HB2, HZ2⟩ := newBox w1 #[.int .i64 b] 3
    have HO := Lib.hid (owns_lit (B := w.heap.size) (n := 1) (xs := [b]) (by exact HG2.out) rfl (by decide) (by decide) (by have h1 := HZ2.out; have h2 := HB.out.size; omega))
    have HBF := Lib.hid (HB.out.trans (HB2.out.mono HB.out.size))
    have HE := Lib.hid (show usesL (7, a, b, c, d) = [b] from rfl)
    go_enter Tryz.func22, Tryz.ntmps22
    go_wp2
    go_ret
    exact ⟨_, rfl, by rw [HE.out]; exact HO.out, HBF.out⟩
  · obtain ⟨w1, g, hw1, hg, HB, c0, c1, c2, c3, c4⟩ := ins_box (8, a, b, c, d) w
    dsimp only at c0 c1 c2 c3 c4
    obtain ⟨w2, g2, hw2, hg2, HG2, HB2, HZ2⟩ := newBox w1 #[.int .i64 b] 3
    have HO := Lib.hid (owns_lit (B := w.heap.size) (n := 1) (xs := [b]) (by exact HG2.out) rfl (by decide) (by decide) (by have h1 := HZ2.out; have h2 := HB.out.size; omega))
    have HBF := Lib.hid (HB.out.trans (HB2.out.mono HB.out.size))
    have HE := Lib.hid (show usesL (8, a, b, c, d) = [b] from rfl)
    go_enter Tryz.func22, Tryz.ntmps22
    go_wp2
    go_ret
    exact ⟨_, rfl, by rw [HE.out]; exact HO.out, HBF.out⟩
  · obtain ⟨w1, g, hw1, hg, HB, c0, c1, c2, c3, c4⟩ := ins_box (9, a, b, c, d) w
    dsimp only at c0 c1 c2 c3 c4
    obtain ⟨w2, g2, hw2, hg2, HG2, HB2, HZ2⟩ := newBox w1 #[.int .i64 b, .int .i64 c] 3
    have HO := Lib.hid (owns_lit (B := w.heap.size) (n := 2) (xs := [b, c]) (by exact HG2.out) rfl (by decide) (by decide) (by have h1 := HZ2.out; have h2 := HB.out.size; omega))
    have HBF := Lib.hid (HB.out.trans (HB2.out.mono HB.out.size))
    have HE := Lib.hid (show usesL (9, a, b, c, d) = [b, c] from rfl)
    go_enter Tryz.func22, Tryz.ntmps22
    go_wp2
    go_ret
    exact ⟨_, rfl, by rw [HE.out]; exact HO.out, HBF.out⟩
  · obtain ⟨w1, g, hw1, hg, HB, c0, c1, c2, c3, c4⟩ := ins_box (10, a, b, c, d) w
    dsimp only at c0 c1 c2 c3 c4
    obtain ⟨w2, g2, hw2, hg2, HG2, HB2, HZ2⟩ := newBox w1 #[.int .i64 b] 3
    have HO := Lib.hid (owns_lit (B := w.heap.size) (n := 1) (xs := [b]) (by exact HG2.out) rfl (by decide) (by decide) (by have h1 := HZ2.out; have h2 := HB.out.size; omega))
    have HBF := Lib.hid (HB.out.trans (HB2.out.mono HB.out.size))
    have HE := Lib.hid (show usesL (10, a, b, c, d) = [b] from rfl)
    go_enter Tryz.func22, Tryz.ntmps22
    go_wp2
    go_ret
    exact ⟨_, rfl, by rw [HE.out]; exact HO.out, HBF.out⟩
  · obtain ⟨w1, g, hw1, hg, HB, c0, c1, c2, c3, c4⟩ := ins_box (11, a, b, c, d) w
    dsimp only at c0 c1 c2 c3 c4
    obtain ⟨w2, g2, hw2, hg2, HG2, HB2, HZ2⟩ := newBox w1 #[.int .i64 b] 3
    have HO := Lib.hid (owns_lit (B := w.heap.size) (n := 1) (xs := [b]) (by exact HG2.out) rfl (by decide) (by decide) (by have h1 := HZ2.out; have h2 := HB.out.size; omega))
    have HBF := Lib.hid (HB.out.trans (HB2.out.mono HB.out.size))
    have HE := Lib.hid (show usesL (11, a, b, c, d) = [b] from rfl)
    go_enter Tryz.func22, Tryz.ntmps22
    go_wp2
    go_ret
    exact ⟨_, rfl, by rw [HE.out]; exact HO.out, HBF.out⟩
  · obtain ⟨w1, g, hw1, hg, HB, c0, c1, c2, c3, c4⟩ := ins_box (12, a, b, c, d) w
    dsimp only at c0 c1 c2 c3 c4
    have HE := Lib.hid (show usesL (12, a, b, c, d) = [] from rfl)
    go_enter Tryz.func22, Tryz.ntmps22
    go_wp2
    go_ret
    exact ⟨_, rfl, by rw [HE.out]; exact Owns.nil _ _ _, HB.out⟩
set_option maxHeartbeats 4000000 in
theorem outs_any (x : I) (w : World) : Calls Tryz.prog 14 #[insV x] w (GivesL (outsL x) w) := by
  obtain ⟨op, a, b, c, d⟩ := x
  rcases op_all op with h | h | rfl | rfl | rfl | rfl | rfl | rfl | rfl | rfl | rfl | rfl | rfl | rfl
  · obtain ⟨w1, g, hw1, hg, HB, c0, c1, c2, c3, c4⟩ := ins_box (op, a, b, c, d) w
    dsimp only at c0 c1 c2 c3 c4
    have HE := Lib.hid (show outsL (op, a, b, c, d) = [] by unfold outsL; repeat rw [if_neg (by show ¬ _; first | omega | (simp only []; omega))])
    go_enter Tryz.func14, Tryz.ntmps14
    go_wp2
    go_ret
    exact ⟨_, rfl, by rw [HE.out]; exact Owns.nil _ _ _, HB.out⟩
  · obtain ⟨w1, g, hw1, hg, HB, c0, c1, c2, c3, c4⟩ := ins_box (op, a, b, c, d) w
    dsimp only at c0 c1 c2 c3 c4
    have HE := Lib.hid (show outsL (op, a, b, c, d) = [] by unfold outsL; repeat rw [if_neg (by show ¬ _; first | omega | (simp only []; omega))])
    go_enter Tryz.func14, Tryz.ntmps14
    go_wp2
    go_ret
    exact ⟨_, rfl, by rw [HE.out]; exact Owns.nil _ _ _, HB.out⟩
  · obtain ⟨w1, g, hw1, hg, HB, c0, c1, c2, c3, c4⟩ := ins_box (1, a, b, c, d) w
    dsimp only at c0 c1 c2 c3 c4
    have HE := Lib.hid (show outsL (1, a, b, c, d) = [] from rfl)
    go_enter Tryz.func14, Tryz.ntmps14
    go_wp2
    go_ret
    exact ⟨_, rfl, by rw [HE.out]; exact Owns.nil _ _ _, HB.out⟩
  · obtain ⟨w1, g, hw1, hg, HB, c0, c1, c2, c3, c4⟩ := ins_box (2, a, b, c, d) w
    dsimp only at c0 c1 c2 c3 c4
    have HE := Lib.hid (show outsL (2, a, b, c, d) = [] from rfl)
    go_enter Tryz.func14, Tryz.ntmps14
    go_wp2
    go_ret
    exact ⟨_, rfl, by rw [HE.out]; exact Owns.nil _ _ _, HB.out⟩
  · obtain ⟨w1, g, hw1, hg, HB, c0, c1, c2, c3, c4⟩ := ins_box (3, a, b, c, d) w
    dsimp only at c0 c1 c2 c3 c4
    have HE := Lib.hid (show outsL (3, a, b, c, d) = [] from rfl)
    go_enter Tryz.func14, Tryz.ntmps14
    go_wp2
    go_ret
    exact ⟨_, rfl, by rw [HE.out]; exact Owns.nil _ _ _, HB.out⟩
  · obtain ⟨w1, g, hw1, hg, HB, c0, c1, c2, c3, c4⟩ := ins_box (4, a, b, c, d) w
    dsimp only at c0 c1 c2 c3 c4
    by_cases h14 : a = 14
    · subst h14
      have HE := Lib.hid (show outsL (4, 14, b, c, d) = [d] from rfl)
      obtain ⟨w2, g2, hw2, hg2, HG2, HB2, HZ2⟩ := newBox w1 #[.int .i64 d] 3
      have HO := Lib.hid (owns_lit (B := w.heap.size) (n := 1) (xs := [d]) (by exact HG2.out) rfl (by decide) (by decide) (by have h1 := HZ2.out; have h2 := HB.out.size; omega))
      have HBF := Lib.hid (HB.out.trans (HB2.out.mono HB.out.size))
      go_enter Tryz.func14, Tryz.ntmps14
      go_wp2
      go_ret
      exact ⟨_, rfl, by rw [HE.out]; exact HO.out, HBF.out⟩
    by_cases h15 : a = 15
    · subst h15
      have HE := Lib.hid (show outsL (4, 15, b, c, d) = [d] from rfl)
      obtain ⟨w2, g2, hw2, hg2, HG2, HB2, HZ2⟩ := newBox w1 #[.int .i64 d] 3
      have HO := Lib.hid (owns_lit (B := w.heap.size) (n := 1) (xs := [d]) (by exact HG2.out) rfl (by decide) (by decide) (by have h1 := HZ2.out; have h2 := HB.out.size; omega))
      have HBF := Lib.hid (HB.out.trans (HB2.out.mono HB.out.size))
      go_enter Tryz.func14, Tryz.ntmps14
      go_wp2
      go_ret
      exact ⟨_, rfl, by rw [HE.out]; exact HO.out, HBF.out⟩
    have HE := Lib.hid (show outsL (4, a, b, c, d) = [] by unfold outsL; rw [if_neg (by show ¬ ((4 : Int) = 6); decide), if_pos rfl, if_neg (by show ¬ (a = 14 ∨ a = 15); omega)])
    have e14 : (a == 14) = false := by simpa using h14
    have e15 : (a == 15) = false := by simpa using h15
    have n14 : (a != 14) = true := by simpa using h14
    have n15 : (a != 15) = true := by simpa using h15
    clear h14 h15
    go_enter Tryz.func14, Tryz.ntmps14
    go_wp2
    go_ret
    exact ⟨_, rfl, by rw [HE.out]; exact Owns.nil _ _ _, HB.out⟩
  · obtain ⟨w1, g, hw1, hg, HB, c0, c1, c2, c3, c4⟩ := ins_box (5, a, b, c, d) w
    dsimp only at c0 c1 c2 c3 c4
    obtain ⟨w2, g2, hw2, hg2, HG2, HB2, HZ2⟩ := newBox w1 #[.int .i64 d] 3
    have HO := Lib.hid (owns_lit (B := w.heap.size) (n := 1) (xs := [d]) (by exact HG2.out) rfl (by decide) (by decide) (by have h1 := HZ2.out; have h2 := HB.out.size; omega))
    have HBF := Lib.hid (HB.out.trans (HB2.out.mono HB.out.size))
    have HE := Lib.hid (show outsL (5, a, b, c, d) = [d] from rfl)
    go_enter Tryz.func14, Tryz.ntmps14
    go_wp2
    go_ret
    exact ⟨_, rfl, by rw [HE.out]; exact HO.out, HBF.out⟩
  · obtain ⟨w1, g, hw1, hg, HB, c0, c1, c2, c3, c4⟩ := ins_box (6, a, b, c, d) w
    dsimp only at c0 c1 c2 c3 c4
    obtain ⟨w2, g2, hw2, hg2, HG2, HB2, HZ2⟩ := newBox w1 #[.int .i64 d, .int .i64 a] 3
    have HO := Lib.hid (owns_lit (B := w.heap.size) (n := 2) (xs := [d, a]) (by exact HG2.out) rfl (by decide) (by decide) (by have h1 := HZ2.out; have h2 := HB.out.size; omega))
    have HBF := Lib.hid (HB.out.trans (HB2.out.mono HB.out.size))
    have HE := Lib.hid (show outsL (6, a, b, c, d) = [d, a] from rfl)
    go_enter Tryz.func14, Tryz.ntmps14
    go_wp2
    go_ret
    exact ⟨_, rfl, by rw [HE.out]; exact HO.out, HBF.out⟩
  · obtain ⟨w1, g, hw1, hg, HB, c0, c1, c2, c3, c4⟩ := ins_box (7, a, b, c, d) w
    dsimp only at c0 c1 c2 c3 c4
    obtain ⟨w2, g2, hw2, hg2, HG2, HB2, HZ2⟩ := newBox w1 #[.int .i64 d] 3
    have HO := Lib.hid (owns_lit (B := w.heap.size) (n := 1) (xs := [d]) (by exact HG2.out) rfl (by decide) (by decide) (by have h1 := HZ2.out; have h2 := HB.out.size; omega))
    have HBF := Lib.hid (HB.out.trans (HB2.out.mono HB.out.size))
    have HE := Lib.hid (show outsL (7, a, b, c, d) = [d] from rfl)
    go_enter Tryz.func14, Tryz.ntmps14
    go_wp2
    go_ret
    exact ⟨_, rfl, by rw [HE.out]; exact HO.out, HBF.out⟩
  · obtain ⟨w1, g, hw1, hg, HB, c0, c1, c2, c3, c4⟩ := ins_box (8, a, b, c, d) w
    dsimp only at c0 c1 c2 c3 c4
    obtain ⟨w2, g2, hw2, hg2, HG2, HB2, HZ2⟩ := newBox w1 #[.int .i64 d] 3
    have HO := Lib.hid (owns_lit (B := w.heap.size) (n := 1) (xs := [d]) (by exact HG2.out) rfl (by decide) (by decide) (by have h1 := HZ2.out; have h2 := HB.out.size; omega))
    have HBF := Lib.hid (HB.out.trans (HB2.out.mono HB.out.size))
    have HE := Lib.hid (show outsL (8, a, b, c, d) = [d] from rfl)
    go_enter Tryz.func14, Tryz.ntmps14
    go_wp2
    go_ret
    exact ⟨_, rfl, by rw [HE.out]; exact HO.out, HBF.out⟩
  · obtain ⟨w1, g, hw1, hg, HB, c0, c1, c2, c3, c4⟩ := ins_box (9, a, b, c, d) w
    dsimp only at c0 c1 c2 c3 c4
    obtain ⟨w2, g2, hw2, hg2, HG2, HB2, HZ2⟩ := newBox w1 #[.int .i64 d] 3
    have HO := Lib.hid (owns_lit (B := w.heap.size) (n := 1) (xs := [d]) (by exact HG2.out) rfl (by decide) (by decide) (by have h1 := HZ2.out; have h2 := HB.out.size; omega))
    have HBF := Lib.hid (HB.out.trans (HB2.out.mono HB.out.size))
    have HE := Lib.hid (show outsL (9, a, b, c, d) = [d] from rfl)
    go_enter Tryz.func14, Tryz.ntmps14
    go_wp2
    go_ret
    exact ⟨_, rfl, by rw [HE.out]; exact HO.out, HBF.out⟩
  · obtain ⟨w1, g, hw1, hg, HB, c0, c1, c2, c3, c4⟩ := ins_box (10, a, b, c, d) w
    dsimp only at c0 c1 c2 c3 c4
    obtain ⟨w2, g2, hw2, hg2, HG2, HB2, HZ2⟩ := newBox w1 #[.int .i64 d] 3
    have HO := Lib.hid (owns_lit (B := w.heap.size) (n := 1) (xs := [d]) (by exact HG2.out) rfl (by decide) (by decide) (by have h1 := HZ2.out; have h2 := HB.out.size; omega))
    have HBF := Lib.hid (HB.out.trans (HB2.out.mono HB.out.size))
    have HE := Lib.hid (show outsL (10, a, b, c, d) = [d] from rfl)
    go_enter Tryz.func14, Tryz.ntmps14
    go_wp2
    go_ret
    exact ⟨_, rfl, by rw [HE.out]; exact HO.out, HBF.out⟩
  · obtain ⟨w1, g, hw1, hg, HB, c0, c1, c2, c3, c4⟩ := ins_box (11, a, b, c, d) w
    dsimp only at c0 c1 c2 c3 c4
    obtain ⟨w2, g2, hw2, hg2, HG2, HB2, HZ2⟩ := newBox w1 #[.int .i64 d] 3
    have HO := Lib.hid (owns_lit (B := w.heap.size) (n := 1) (xs := [d]) (by exact HG2.out) rfl (by decide) (by decide) (by have h1 := HZ2.out; have h2 := HB.out.size; omega))
    have HBF := Lib.hid (HB.out.trans (HB2.out.mono HB.out.size))
    have HE := Lib.hid (show outsL (11, a, b, c, d) = [d] from rfl)
    go_enter Tryz.func14, Tryz.ntmps14
    go_wp2
    go_ret
    exact ⟨_, rfl, by rw [HE.out]; exact HO.out, HBF.out⟩
  · obtain ⟨w1, g, hw1, hg, HB, c0, c1, c2, c3, c4⟩ := ins_box (12, a, b, c, d) w
    dsimp only at c0 c1 c2 c3 c4
    have HE := Lib.hid (show outsL (12, a, b, c, d) = [] from rfl)
    go_enter Tryz.func14, Tryz.ntmps14
    go_wp2
    go_ret
    exact ⟨_, rfl, by rw [HE.out]; exact Owns.nil _ _ _, HB.out⟩
set_option maxHeartbeats 4000000 in
theorem routs_any (x : I) (w : World) : Calls Tryz.prog 23 #[insV x] w (GivesL (outsL x) w) := by
  obtain ⟨op, a, b, c, d⟩ := x
  rcases op_all op with h | h | rfl | rfl | rfl | rfl | rfl | rfl | rfl | rfl | rfl | rfl | rfl | rfl
  · obtain ⟨w1, g, hw1, hg, HB, c0, c1, c2, c3, c4⟩ := ins_box (op, a, b, c, d) w
    dsimp only at c0 c1 c2 c3 c4
    have HE := Lib.hid (show outsL (op, a, b, c, d) = [] by unfold outsL; repeat rw [if_neg (by show ¬ _; first | omega | (simp only []; omega))])
    go_enter Tryz.func23, Tryz.ntmps23
    go_wp2
    go_ret
    exact ⟨_, rfl, by rw [HE.out]; exact Owns.nil _ _ _, HB.out⟩
  · obtain ⟨w1, g, hw1, hg, HB, c0, c1, c2, c3, c4⟩ := ins_box (op, a, b, c, d) w
    dsimp only at c0 c1 c2 c3 c4
    have HE := Lib.hid (show outsL (op, a, b, c, d) = [] by unfold outsL; repeat rw [if_neg (by show ¬ _; first | omega | (simp only []; omega))])
    go_enter Tryz.func23, Tryz.ntmps23
    go_wp2
    go_ret
    exact ⟨_, rfl, by rw [HE.out]; exact Owns.nil _ _ _, HB.out⟩
  · obtain ⟨w1, g, hw1, hg, HB, c0, c1, c2, c3, c4⟩ := ins_box (1, a, b, c, d) w
    dsimp only at c0 c1 c2 c3 c4
    have HE := Lib.hid (show outsL (1, a, b, c, d) = [] from rfl)
    go_enter Tryz.func23, Tryz.ntmps23
    go_wp2
    go_ret
    exact ⟨_, rfl, by rw [HE.out]; exact Owns.nil _ _ _, HB.out⟩
  · obtain ⟨w1, g, hw1, hg, HB, c0, c1, c2, c3, c4⟩ := ins_box (2, a, b, c, d) w
    dsimp only at c0 c1 c2 c3 c4
    have HE := Lib.hid (show outsL (2, a, b, c, d) = [] from rfl)
    go_enter Tryz.func23, Tryz.ntmps23
    go_wp2
    go_ret
    exact ⟨_, rfl, by rw [HE.out]; exact Owns.nil _ _ _, HB.out⟩
  · obtain ⟨w1, g, hw1, hg, HB, c0, c1, c2, c3, c4⟩ := ins_box (3, a, b, c, d) w
    dsimp only at c0 c1 c2 c3 c4
    have HE := Lib.hid (show outsL (3, a, b, c, d) = [] from rfl)
    go_enter Tryz.func23, Tryz.ntmps23
    go_wp2
    go_ret
    exact ⟨_, rfl, by rw [HE.out]; exact Owns.nil _ _ _, HB.out⟩
  · obtain ⟨w1, g, hw1, hg, HB, c0, c1, c2, c3, c4⟩ := ins_box (4, a, b, c, d) w
    dsimp only at c0 c1 c2 c3 c4
    by_cases h14 : a = 14
    · subst h14
      have HE := Lib.hid (show outsL (4, 14, b, c, d) = [d] from rfl)
      obtain ⟨w2, g2, hw2, hg2, HG2, HB2, HZ2⟩ := newBox w1 #[.int .i64 d] 3
      have HO := Lib.hid (owns_lit (B := w.heap.size) (n := 1) (xs := [d]) (by exact HG2.out) rfl (by decide) (by decide) (by have h1 := HZ2.out; have h2 := HB.out.size; omega))
      have HBF := Lib.hid (HB.out.trans (HB2.out.mono HB.out.size))
      go_enter Tryz.func23, Tryz.ntmps23
      go_wp2
      go_ret
      exact ⟨_, rfl, by rw [HE.out]; exact HO.out, HBF.out⟩
    by_cases h15 : a = 15
    · subst h15
      have HE := Lib.hid (show outsL (4, 15, b, c, d) = [d] from rfl)
      obtain ⟨w2, g2, hw2, hg2, HG2, HB2, HZ2⟩ := newBox w1 #[.int .i64 d] 3
      have HO := Lib.hid (owns_lit (B := w.heap.size) (n := 1) (xs := [d]) (by exact HG2.out) rfl (by decide) (by decide) (by have h1 := HZ2.out; have h2 := HB.out.size; omega))
      have HBF := Lib.hid (HB.out.trans (HB2.out.mono HB.out.size))
      go_enter Tryz.func23, Tryz.ntmps23
      go_wp2
      go_ret
      exact ⟨_, rfl, by rw [HE.out]; exact HO.out, HBF.out⟩
    have HE := Lib.hid (show outsL (4, a, b, c, d) = [] by unfold outsL; rw [if_neg (by show ¬ ((4 : Int) = 6); decide), if_pos rfl, if_neg (by show ¬ (a = 14 ∨ a = 15); omega)])
    have e14 : (a == 14) = false := by simpa using h14
    have e15 : (a == 15) = false := by simpa using h15
    have n14 : (a != 14) = true := by simpa using h14
    have n15 : (a != 15) = true := by simpa using h15
    clear h14 h15
    go_enter Tryz.func23, Tryz.ntmps23
    go_wp2
    go_ret
    exact ⟨_, rfl, by rw [HE.out]; exact Owns.nil _ _ _, HB.out⟩
  · obtain ⟨w1, g, hw1, hg, HB, c0, c1, c2, c3, c4⟩ := ins_box (5, a, b, c, d) w
    dsimp only at c0 c1 c2 c3 c4
    obtain ⟨w2, g2, hw2, hg2, HG2, HB2, HZ2⟩ := newBox w1 #[.int .i64 d] 3
    have HO := Lib.hid (owns_lit (B := w.heap.size) (n := 1) (xs := [d]) (by exact HG2.out) rfl (by decide) (by decide) (by have h1 := HZ2.out; have h2 := HB.out.size; omega))
    have HBF := Lib.hid (HB.out.trans (HB2.out.mono HB.out.size))
    have HE := Lib.hid (show outsL (5, a, b, c, d) = [d] from rfl)
    go_enter Tryz.func23, Tryz.ntmps23
    go_wp2
    go_ret
    exact ⟨_, rfl, by rw [HE.out]; exact HO.out, HBF.out⟩
  · obtain ⟨w1, g, hw1, hg, HB, c0, c1, c2, c3, c4⟩ := ins_box (6, a, b, c, d) w
    dsimp only at c0 c1 c2 c3 c4
    obtain ⟨w2, g2, hw2, hg2, HG2, HB2, HZ2⟩ := newBox w1 #[.int .i64 d, .int .i64 a] 3
    have HO := Lib.hid (owns_lit (B := w.heap.size) (n := 2) (xs := [d, a]) (by exact HG2.out) rfl (by decide) (by decide) (by have h1 := HZ2.out; have h2 := HB.out.size; omega))
    have HBF := Lib.hid (HB.out.trans (HB2.out.mono HB.out.size))
    have HE := Lib.hid (show outsL (6, a, b, c, d) = [d, a] from rfl)
    go_enter Tryz.func23, Tryz.ntmps23
    go_wp2
    go_ret
    exact ⟨_, rfl, by rw [HE.out]; exact HO.out, HBF.out⟩
  · obtain ⟨w1, g, hw1, hg, HB, c0, c1, c2, c3, c4⟩ := ins_box (7, a, b, c, d) w
    dsimp only at c0 c1 c2 c3 c4
    obtain ⟨w2, g2, hw2, hg2, HG2, HB2, HZ2⟩ := newBox w1 #[.int .i64 d] 3
    have HO := Lib.hid (owns_lit (B := w.heap.size) (n := 1) (xs := [d]) (by exact HG2.out) rfl (by decide) (by decide) (by have h1 := HZ2.out; have h2 := HB.out.size; omega))
    have HBF := Lib.hid (HB.out.trans (HB2.out.mono HB.out.size))
    have HE := Lib.hid (show outsL (7, a, b, c, d) = [d] from rfl)
    go_enter Tryz.func23, Tryz.ntmps23
    go_wp2
    go_ret
    exact ⟨_, rfl, by rw [HE.out]; exact HO.out, HBF.out⟩
  · obtain ⟨w1, g, hw1, hg, HB, c0, c1, c2, c3, c4⟩ := ins_box (8, a, b, c, d) w
    dsimp only at c0 c1 c2 c3 c4
    obtain ⟨w2, g2, hw2, hg2, HG2, HB2, HZ2⟩ := newBox w1 #[.int .i64 d] 3
    have HO := Lib.hid (owns_lit (B := w.heap.size) (n := 1) (xs := [d]) (by exact HG2.out) rfl (by decide) (by decide) (by have h1 := HZ2.out; have h2 := HB.out.size; omega))
    have HBF := Lib.hid (HB.out.trans (HB2.out.mono HB.out.size))
    have HE := Lib.hid (show outsL (8, a, b, c, d) = [d] from rfl)
    go_enter Tryz.func23, Tryz.ntmps23
    go_wp2
    go_ret
    exact ⟨_, rfl, by rw [HE.out]; exact HO.out, HBF.out⟩
  · obtain ⟨w1, g, hw1, hg, HB, c0, c1, c2, c3, c4⟩ := ins_box (9, a, b, c, d) w
    dsimp only at c0 c1 c2 c3 c4
    obtain ⟨w2, g2, hw2, hg2, HG2, HB2, HZ2⟩ := newBox w1 #[.int .i64 d] 3
    have HO := Lib.hid (owns_lit (B := w.heap.size) (n := 1) (xs := [d]) (by exact HG2.out) rfl (by decide) (by decide) (by have h1 := HZ2.out; have h2 := HB.out.size; omega))
    have HBF := Lib.hid (HB.out.trans (HB2.out.mono HB.out.size))
    have HE := Lib.hid (show outsL (9, a, b, c, d) = [d] from rfl)
    go_enter Tryz.func23, Tryz.ntmps23
    go_wp2
    go_ret
    exact ⟨_, rfl, by rw [HE.out]; exact HO.out, HBF.out⟩
  · obtain ⟨w1, g, hw1, hg, HB, c0, c1, c2, c3, c4⟩ := ins_box (10, a, b, c, d) w
    dsimp only at c0 c1 c2 c3 c4
    obtain ⟨w2, g2, hw2, hg2, HG2, HB2, HZ2⟩ := newBox w1 #[.int .i64 d] 3
    have HO := Lib.hid (owns_lit (B := w.heap.size) (n := 1) (xs := [d]) (by exact HG2.out) rfl (by decide) (by decide) (by have h1 := HZ2.out; have h2 := HB.out.size; omega))
    have HBF := Lib.hid (HB.out.trans (HB2.out.mono HB.out.size))
    have HE := Lib.hid (show outsL (10, a, b, c, d) = [d] from rfl)
    go_enter Tryz.func23, Tryz.ntmps23
    go_wp2
    go_ret
    exact ⟨_, rfl, by rw [HE.out]; exact HO.out, HBF.out⟩
  · obtain ⟨w1, g, hw1, hg, HB, c0, c1, c2, c3, c4⟩ := ins_box (11, a, b, c, d) w
    dsimp only at c0 c1 c2 c3 c4
    obtain ⟨w2, g2, hw2, hg2, HG2, HB2, HZ2⟩ := newBox w1 #[.int .i64 d] 3
    have HO := Lib.hid (owns_lit (B := w.heap.size) (n := 1) (xs := [d]) (by exact HG2.out) rfl (by decide) (by decide) (by have h1 := HZ2.out; have h2 := HB.out.size; omega))
    have HBF := Lib.hid (HB.out.trans (HB2.out.mono HB.out.size))
    have HE := Lib.hid (show outsL (11, a, b, c, d) = [d] from rfl)
    go_enter Tryz.func23, Tryz.ntmps23
    go_wp2
    go_ret
    exact ⟨_, rfl, by rw [HE.out]; exact HO.out, HBF.out⟩
  · obtain ⟨w1, g, hw1, hg, HB, c0, c1, c2, c3, c4⟩ := ins_box (12, a, b, c, d) w
    dsimp only at c0 c1 c2 c3 c4
    have HE := Lib.hid (show outsL (12, a, b, c, d) = [] from rfl)
    go_enter Tryz.func23, Tryz.ntmps23
    go_wp2
    go_ret
    exact ⟨_, rfl, by rw [HE.out]; exact Owns.nil _ _ _, HB.out⟩
end Go.Proofs.YtpecingkoodmfaaGreatDoor.Ir
