
/- Package hot: what its calls answer and do: compared places, where an ip is counted, which place goes first. -/
import Derived.Test.YtajgkheagahfeaaChecked
import Derived.Test.YtajgkheagahfeaaHotPlain
import Derived.WalkKit
import Derived.Lib.Hide
import Derived.Deep.RegionHeld3
import Derived.Deep.LoopGhost
import Derived.Deep.QuietTactic
import Derived.BigQuiet
import Derived.Lib.SliceRun
import Derived.IntWalk
namespace Go.Proofs.Ytajgkheagahfeaa.Hot
open Go.RowKit Book Book.Wide
set_option linter.unusedSimpArgs false
set_option linter.unusedVariables false
theorem nan_any (x : Int) (w : World) : Calls Try.prog 19 #[.int .i64 x] w fun e w' => e = .returned (.bool false) ∧ w' = w := by
  go_enter Try.func19, Try.ntmps19
  go_wp2
  go_ret
  exact ⟨by simp, rfl⟩
def cmpI (a b : Int) : Int := if a < b then -1 else if b < a then 1 else 0
theorem compare_any (a b : Int) (w : World) : Calls Try.prog 18 #[.int .i64 a, .int .i64 b] w fun e w' => e = .returned (.int .i64 (cmpI a b)) ∧ w' = w := by
  have C := fun x => Lib.hid (nan_any x w)
  rcases Int.lt_trichotomy a b with h | h | h
  · have HC := Lib.hid (show cmpI a b = -1 by unfold cmpI; rw [if_pos h])
    go_enter Try.func18, Try.ntmps18
    go_wp2_with fail
    refine (C a).out.mono ?_
    rintro e wz ⟨rfl, hwz⟩
    subst wz
    go_wp2_with fail
    refine (C b).out.mono ?_
    rintro e wz ⟨rfl, hwz⟩
    subst wz
    go_wp2
    go_ret
    exact ⟨by rw [HC.out]; rfl, rfl⟩
  · subst h
    have HC := Lib.hid (show cmpI a a = 0 by unfold cmpI; rw [if_neg (by omega), if_neg (by omega)])
    go_enter Try.func18, Try.ntmps18
    go_wp2_with fail
    refine (C a).out.mono ?_
    rintro e wz ⟨rfl, hwz⟩
    subst wz
    go_wp2_with fail
    refine (C a).out.mono ?_
    rintro e wz ⟨rfl, hwz⟩
    subst wz
    go_wp2
    go_ret
    exact ⟨by rw [HC.out]; rfl, rfl⟩
  · have HC := Lib.hid (show cmpI a b = 1 by unfold cmpI; rw [if_neg (by omega), if_pos h])
    have h' : ¬ a < b := by omega
    go_enter Try.func18, Try.ntmps18
    go_wp2_with fail
    refine (C a).out.mono ?_
    rintro e wz ⟨rfl, hwz⟩
    subst wz
    go_wp2_with fail
    refine (C b).out.mono ?_
    rintro e wz ⟨rfl, hwz⟩
    subst wz
    go_wp2
    go_ret
    exact ⟨by rw [HC.out]; rfl, rfl⟩
/-- a place as a value -/
abbrev placeV (x : Pl) : Value := .agg #[.int .i64 x.1, .int .i64 x.2]
abbrev placeO (x : Pl) : Obj := .cells #[.int .i64 x.1, .int .i64 x.2] 41
set_option maxHeartbeats 2000000 in
theorem goes_any (x y : Pl) (w : World) : Calls Try.prog 17 #[placeV x, placeV y] w fun e w' => e = .returned (.bool (goesB x y)) ∧ Below w.heap.size w w' := by
  obtain ⟨x1, x2⟩ := x
  obtain ⟨y1, y2⟩ := y
  obtain ⟨w1, hw1⟩ : ∃ w1, w.alloc (placeO (x1, x2)) = w1 := ⟨_, rfl⟩
  obtain ⟨w2, hw2⟩ : ∃ w2, w1.alloc (placeO (y1, y2)) = w2 := ⟨_, rfl⟩
  have hb1 := (Below.refl w.heap.size w).alloc (Nat.le_refl _) (placeO (x1, x2))
  have hn1 := heap_alloc_new w (placeO (x1, x2))
  rw [hw1] at hb1 hn1
  have hb2 := hb1.alloc hb1.size (placeO (y1, y2))
  have hn2 := heap_alloc_new w1 (placeO (y1, y2))
  have hk2 := (Stirred.of_below ((Below.refl w1.heap.size w1).alloc (Nat.le_refl _) (placeO (y1, y2))) []).whole hn1 List.not_mem_nil
  rw [hw2] at hb2 hn2 hk2
  have HB := Lib.hid hb2
  obtain ⟨g1, hg1⟩ : ∃ g, w.heap.size = g := ⟨_, rfl⟩
  obtain ⟨g2, hg2⟩ : ∃ g, w1.heap.size = g := ⟨_, rfl⟩
  have c0 := whole_cell hk2 (j := 0) (v := .int .i64 x1) rfl
  have c1 := whole_cell hk2 (j := 1) (v := .int .i64 x2) rfl
  have d0 := whole_cell hn2 (j := 0) (v := .int .i64 y1) rfl
  have d1 := whole_cell hn2 (j := 1) (v := .int .i64 y2) rfl
  rw [hg1] at c0 c1
  rw [hg2] at d0 d1
  clear hb1 hb2 hn1 hn2 hk2
  have C := Lib.hid (compare_any x2 y2 w2)
  rcases Int.lt_trichotomy x2 y2 with h | h | h
  · have HG := Lib.hid (show goesB (x1, x2) (y1, y2) = true from goes_yes.2 (.inl h))
    rw [show cmpI x2 y2 = -1 by unfold cmpI; rw [if_pos h]] at C
    go_enter Try.func17, Try.ntmps17
    go_wp2_with fail
    refine C.out.mono ?_
    rintro e wz ⟨rfl, hwz⟩
    subst wz
    clear C
    go_wp2
    go_ret
    exact ⟨by rw [HG.out]; rfl, HB.out⟩
  · subst h
    rw [show cmpI x2 x2 = 0 by unfold cmpI; rw [if_neg (by omega), if_neg (by omega)]] at C
    by_cases hi : x1 < y1
    · have HG := Lib.hid (show goesB (x1, x2) (y1, x2) = true from goes_yes.2 (.inr ⟨rfl, hi⟩))
      have h1 : ¬ y1 ≤ x1 := by omega
      go_enter Try.func17, Try.ntmps17
      go_wp2_with fail
      refine C.out.mono ?_
      rintro e wz ⟨rfl, hwz⟩
      subst wz
      clear C
      go_wp2
      go_ret
      exact ⟨by rw [HG.out]; rfl, HB.out⟩
    · have HG := Lib.hid (show goesB (x1, x2) (y1, x2) = false by cases h : goesB (x1, x2) (y1, x2) with | false => rfl | true => have := goes_yes.1 h; simp only at this; omega)
      have h1 : y1 ≤ x1 := by omega
      go_enter Try.func17, Try.ntmps17
      go_wp2_with fail
      refine C.out.mono ?_
      rintro e wz ⟨rfl, hwz⟩
      subst wz
      clear C
      go_wp2
      go_ret
      exact ⟨by rw [HG.out]; rfl, HB.out⟩
  · have HG := Lib.hid (show goesB (x1, x2) (y1, y2) = false by cases h2 : goesB (x1, x2) (y1, y2) with | false => rfl | true => have := goes_yes.1 h2; simp only at this; omega)
    rw [show cmpI x2 y2 = 1 by unfold cmpI; rw [if_neg (by omega), if_pos h]] at C
    go_enter Try.func17, Try.ntmps17
    go_wp2_with fail
    refine C.out.mono ?_
    rintro e wz ⟨rfl, hwz⟩
    subst wz
    clear C
    go_wp2
    go_ret
    exact ⟨by rw [HG.out]; rfl, HB.out⟩
section
variable {w : World} {B p : Nat} {bs : List Nat} {n : Int} {ps : List Pl}
theorem len_any (h : At w B p bs n ps) : Calls Try.prog 12 #[.pointer (some ⟨p, 0, none⟩)] w fun e w' => e = .returned (.int .i64 (ps.length : Int)) ∧ w' = w := by
  obtain ⟨v, h1, h2, _⟩ := h.own
  obtain ⟨vo, vc, rfl⟩ := h2.slice (cells_len ps) (by decide)
  have c1 : w.cell? ⟨p, 1, none⟩ = some (.slice vo ps.length vc) := whole_cell h1 rfl
  clear h h1 h2
  go_enter Try.func12, Try.ntmps12
  go_wp2
  go_ret
  exact ⟨rfl, rfl⟩
end
theorem len_nil (w : World) : Calls Try.prog 12 #[.pointer none] w fun e w' => e = .returned (.int .i64 0) ∧ w' = w := by
  go_enter Try.func12, Try.ntmps12
  go_wp2
  go_ret
  exact ⟨rfl, rfl⟩
set_option maxHeartbeats 2000000 in
theorem at_any {w : World} {B p : Nat} {bs : List Nat} {n : Int} {ps : List Pl} (h : At w B p bs n ps) (ip : Int) : Calls Try.prog 13 #[.pointer (some ⟨p, 0, none⟩), .int .i64 ip] w fun e w' => e = .returned (.int .i64 (idxI ps ip)) ∧ w' = w := by
  have HA := Lib.hid h
  have hfew := h.few
  have C := Lib.hid (len_any h)
  obtain ⟨m, hm⟩ : ∃ m, ps.length = m := ⟨_, rfl⟩
  have HM := Lib.hid hm
  rw [hm] at C hfew
  clear h hm
  go_enter Try.func13, Try.ntmps13
  go_wp2_with fail
  refine C.out.mono ?_
  rintro e wz ⟨rfl, hwz⟩
  subst wz
  clear C
  go_wp2
  go_loopg [8] m (fun g i wr => ∃ k : Nat, g = m - k ∧ k ≤ m ∧ i = .int .i64 k ∧ Hid (∀ j y, j < k → ps[j]? = some y → y.1 ≠ ip) ∧ wr = w)
  case atStart => exact ⟨0, rfl, Nat.zero_le _, rfl, Lib.hid (fun j y hj => absurd hj (Nat.not_lt_zero _)), rfl⟩
  case round =>
    obtain ⟨k, rfl, hk, rfl, HN, hwr⟩ := hrel
    subst wr
    by_cases hlt : k < m
    · obtain ⟨x, hx⟩ : ∃ x, ps[k]? = some x := ⟨_, List.getElem?_eq_getElem (by rw [HM.out]; exact hlt)⟩
      obtain ⟨g, cap, h1, _, _, _, _, k0, k1, _⟩ := HA.out.place hx
      have c1 : w.cell? ⟨p, 1, none⟩ = some (.slice (some ⟨g, 0, none⟩) ps.length cap) := whole_cell h1 rfl
      rw [HM.out] at c1
      have HX := Lib.hid hx
      obtain ⟨xi, hxi⟩ : ∃ xi, x.1 = xi := ⟨_, rfl⟩
      have HXI := Lib.hid hxi
      rw [hxi] at k0
      have e0 : (0 : Int) ≤ (k : Int) := by omega
      have e1 : (k : Int) < (m : Int) := by omega
      clear hx h1 k1 hxi
      by_cases he : xi = ip
      · subst he
        have HR := Lib.hid (show idxI ps xi = (k : Int) from idxI_yes HX.out HXI.out HN.out)
        go_wp2
        go_ret
        exact ⟨by rw [HR.out]; rfl, rfl⟩
      · have HN1 := Lib.hid (show ∀ j y, j < k + 1 → ps[j]? = some y → y.1 ≠ ip from fun j y hj hy => by
          by_cases h : j = k
          · subst h
            rw [HX.out] at hy
            obtain rfl : x = y := by simpa using hy
            rw [HXI.out]; exact he
          · exact HN.out j y (by omega) hy)
        have heb : (xi == ip) = false := by simpa using he
        go_wp2
        go_roundg (m - (k + 1))
        case measure => omega
        case rel => exact ⟨k + 1, rfl, by omega, by go_num, HN1, rfl⟩
    · obtain rfl : k = m := by omega
      have HR := Lib.hid (show idxI ps ip = -1 from idxI_no (fun x hx => by
        obtain ⟨j, hj⟩ := List.getElem?_of_mem hx
        exact HN.out j x (by have := (List.getElem?_eq_some_iff.1 hj).1; rw [HM.out] at this; exact this) hj))
      clear hlt
      go_wp2
      go_ret
      exact ⟨by rw [HR.out]; rfl, rfl⟩
theorem at_nil (ip : Int) (w : World) : Calls Try.prog 13 #[.pointer none, .int .i64 ip] w fun e w' => e = .returned (.int .i64 (-1)) ∧ w' = w := by
  have C := Lib.hid (len_nil w)
  go_enter Try.func13, Try.ntmps13
  go_wp2_with fail
  refine C.out.mono ?_
  rintro e wz ⟨rfl, hwz⟩
  subst wz
  clear C
  go_wp2
  refine wp_loop_rounds 1 ?_
  rw [rounds_succ]
  go_wp2
  go_ret
  exact ⟨rfl, rfl⟩
theorem new_any (n : Int) (w : World) : Calls Try.prog 8 #[.int .i64 n] w fun e w' => ∃ p bs, e = .returned (.pointer (some ⟨p, 0, none⟩)) ∧ At w' w.heap.size p bs (max n 0) [] ∧ Below w.heap.size w w' := by
  obtain ⟨c, hc⟩ : ∃ c, max n 0 = c := ⟨_, rfl⟩
  obtain ⟨w1, hw1⟩ : ∃ w1, w.alloc (.cells #[.int .i64 c, .slice none 0 0] 39) = w1 := ⟨_, rfl⟩
  have hb1 := (Below.refl w.heap.size w).alloc (Nat.le_refl _) (.cells #[.int .i64 c, .slice none 0 0] 39)
  have hn1 := heap_alloc_new w (.cells #[.int .i64 c, .slice none 0 0] 39)
  rw [hw1] at hb1 hn1
  have HB := Lib.hid hb1
  have HA := Lib.hid (At.made (Nat.le_refl _) hn1)
  clear hb1 hn1
  rw [hc]
  by_cases h : 0 < n
  · obtain rfl : n = c := by omega
    have h1 : ¬ n < 0 := by omega
    have h2 : max n 0 = n := by omega
    clear hc
    go_enter Try.func8, Try.ntmps8
    go_wp2
    go_ret
    first | exact ⟨_, rfl, ⟨_, HA.out⟩, HB.out⟩ | exact ⟨_, _, rfl, HA.out, HB.out⟩
  · obtain rfl : 0 = c := by omega
    by_cases h0 : n = 0
    · subst h0
      clear h
      go_enter Try.func8, Try.ntmps8
      go_wp2
      go_ret
      first | exact ⟨_, rfl, ⟨_, HA.out⟩, HB.out⟩ | exact ⟨_, _, rfl, HA.out, HB.out⟩
    have h1 : n < 0 := by omega
    clear h
    go_enter Try.func8, Try.ntmps8
    go_wp2
    go_ret
    first | exact ⟨_, rfl, ⟨_, HA.out⟩, HB.out⟩ | exact ⟨_, _, rfl, HA.out, HB.out⟩
end Go.Proofs.Ytajgkheagahfeaa.Hot
