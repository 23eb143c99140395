
/- A recording of fewer steps is a longer one's beginning; two recordings held against each other. -/
import Derived.Test.YtcffbeihgchpgaaGreatDoorRecAlive
namespace Go.Proofs.YtcffbeihgchpgaaGreatDoor.Rec
open Go.RowKit Book Book.Wide Mem Mach Inn
set_option linter.unusedSimpArgs false
set_option linter.unusedVariables false
theorem tape_begins (start : Int) : ∀ (left : Nat) (l : List S) (m : M), l.length ≤ (tape start left l m).steps.length ∧ (tape start left l m).steps.take l.length = l := by
  intro left
  induction left with
  | zero =>
    intro l m
    unfold tape
    split <;> exact ⟨Nat.le_refl _, List.take_length⟩
  | succ n ih =>
    intro l m
    unfold tape
    split
    · exact ⟨Nat.le_refl _, List.take_length⟩
    · show l.length ≤ (if _ then _ else _ : R).steps.length ∧ (if _ then _ else _ : R).steps.take l.length = l
      split
      · exact ⟨Nat.le_refl _, List.take_length⟩
      · obtain ⟨h1, h2⟩ := ih (l ++ [see m (Mach.step m).ip]) (Mach.step m)
        rw [List.length_append] at h1 h2
        refine ⟨by simp at h1; omega, ?_⟩
        have h8 := congrArg (List.take l.length) h2
        rw [List.take_take, Nat.min_eq_left (by simp), List.take_left] at h8
        exact h8
theorem tape_less (start : Int) (more : Nat) : ∀ (left : Nat) (l : List S) (m : M) (x y : R), tape start left l m = x → tape start (left + more) l m = y → x.steps.length ≤ l.length + left ∧ x.steps.length ≤ y.steps.length ∧ y.steps.take x.steps.length = x.steps ∧ (x.steps.length = l.length + left ∨ x = y) := by
  intro left
  induction left with
  | zero =>
    intro l m x y hx hy
    have hb := tape_begins start (0 + more) l m
    rw [hy] at hb
    by_cases hc : l ≠ [] ∧ m.ip = start
    · have e1 : x = ⟨start, m.ip, true, l⟩ := by rw [← hx]; unfold tape; rw [if_pos hc]
      have e2 : y = ⟨start, m.ip, true, l⟩ := by rw [← hy]; unfold tape; rw [if_pos hc]
      rw [e1, e2]
      exact ⟨Nat.le_refl _, Nat.le_refl _, List.take_length, .inr rfl⟩
    · have e1 : x = ⟨start, m.ip, false, l⟩ := by rw [← hx]; unfold tape; rw [if_neg hc]
      rw [e1]
      exact ⟨Nat.le_refl _, hb.1, hb.2, .inl rfl⟩
  | succ n ih =>
    intro l m x y hx hy
    rw [show n + 1 + more = (n + more) + 1 by omega] at hy
    unfold tape at hx hy
    by_cases hc : l ≠ [] ∧ m.ip = start
    · rw [if_pos hc] at hx hy
      subst hx
      subst hy
      exact ⟨Nat.le_add_right _ _, Nat.le_refl _, List.take_length, .inr rfl⟩
    · rw [if_neg hc] at hx hy
      change (if _ then _ else _) = x at hx
      change (if _ then _ else _) = y at hy
      by_cases hs : (Mach.step m).status ≠ 0 ∨ fit (see m (Mach.step m).ip) = false
      · rw [if_pos hs] at hx hy
        subst hx
        subst hy
        exact ⟨Nat.le_add_right _ _, Nat.le_refl _, List.take_length, .inr rfl⟩
      · rw [if_neg hs] at hx hy
        obtain ⟨h1, h2, h3, h4⟩ := ih _ _ x y hx hy
        rw [List.length_append] at h1 h4
        simp only [List.length_cons, List.length_nil] at h1 h4
        exact ⟨by omega, h2, h3, h4.imp (fun e => by omega) id⟩
set_option maxHeartbeats 4000000 in
theorem same_any {w : World} {va vb : Value} {Ba Bb : Nat} {r : R} (ha : OwnsK w Ba 55 4 va (r.steps.flatMap seenCells)) (hb : OwnsK w Bb 55 4 vb (r.steps.flatMap seenCells)) (hl : r.steps.length ≤ 1000) :
    Calls Tryz.prog 14 #[recV r va, recV r vb] w (Says (.bool true) w) := by
  obtain ⟨st, la, lo, l⟩ := r
  simp only at ha hb hl ⊢
  obtain ⟨ao, ac, rfl⟩ := ha.slice (seen_len l) (by decide)
  obtain ⟨bo, bc, rfl⟩ := hb.slice (seen_len l) (by decide)
  obtain ⟨n, hn⟩ : ∃ n, l.length = n := ⟨_, rfl⟩
  rw [hn] at ha hb ⊢
  obtain ⟨w1, g, hw1, hg, HG, HB1, HZ1⟩ := newBox w (recA ⟨st, la, lo, l⟩ (.slice ao n ac)) 39
  obtain ⟨w2, h, hw2, hh, HH, HB12, HZ2⟩ := newBox w1 (recA ⟨st, la, lo, l⟩ (.slice bo n bc)) 39
  have HB2 := Lib.hid (HB1.out.trans (HB12.out.mono HB1.out.size))
  have hG := boxOn HG.out HB12.out
  have a0 : w2.cell? ⟨g, 0, none⟩ = some (.int .i64 st) := whole_cell hG rfl
  have a1 : w2.cell? ⟨g, 1, none⟩ = some (.int .i64 la) := whole_cell hG rfl
  have a2 : w2.cell? ⟨g, 2, none⟩ = some (.bool lo) := whole_cell hG rfl
  have a3 : w2.cell? ⟨g, 3, none⟩ = some (.slice ao n ac) := whole_cell hG rfl
  have b0 : w2.cell? ⟨h, 0, none⟩ = some (.int .i64 st) := whole_cell HH.out rfl
  have b1 : w2.cell? ⟨h, 1, none⟩ = some (.int .i64 la) := whole_cell HH.out rfl
  have b2 : w2.cell? ⟨h, 2, none⟩ = some (.bool lo) := whole_cell HH.out rfl
  have b3 : w2.cell? ⟨h, 3, none⟩ = some (.slice bo n bc) := whole_cell HH.out rfl
  have C := Lib.hid (sameSeens_any _ _ _ _ l w2 (ha.below HB2.out) (hb.below HB2.out) (by omega))
  clear ha hb hG hn
  cases lo
  all_goals
    go_enter Tryz.func14, Tryz.ntmps14
    go_wp2_with fail
    refine C.out.mono ?_
    rintro e w3 ⟨rfl, q, hq⟩
    have HB3 := Lib.hid (show Below w.heap.size w w3 by rw [hq]; exact HB2.out.trans ((bk_below_drewN w2.heap.size w2 q).mono HB2.out.size))
    clear hq C
    go_wp2
    go_ret
    exact ⟨rfl, HB3.out⟩
end Go.Proofs.YtcffbeihgchpgaaGreatDoor.Rec
