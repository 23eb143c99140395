
/- SourcePlays: the walk. -/
import Derived.Test.YtmbblnebkcekdaaSrcAlive
import Derived.Test.YtmbblnebkcekdaaReadsArg
import Derived.IntWalk
namespace Go.Proofs.Ytmbblnebkcekdaa.SourcePlays
open Go.RowKit Book Src
set_option linter.unusedSimpArgs false
set_option linter.unusedVariables false
theorem u8_is (c : UInt8) : IntKind.u8.wrap (c.toNat : Int) = (c.toNat : Int) := IntWalk.u8_in _ (by have := c.toNat_lt; omega)
set_option maxHeartbeats 8000000 in
set_option maxRecDepth 100000 in
theorem main (t : ByteArray) (v : Value) (l : List Int) (W : World) (hl : Reads W v l) (ht : t.size ≤ 1000) (hl1 : l.length ≤ 100) :
    Calls Try.prog 3 #[.string t, v] W (Yes W) := by
  have HL := Lib.hid hl
  obtain ⟨lo, lc, rfl, -⟩ := hl
  obtain ⟨N, hN⟩ : ∃ N, l.length = N := ⟨_, rfl⟩
  have HN := Lib.hid hN
  rw [hN] at HL hl1 ⊢
  have e1 : decide ((1000 : Int) < (t.size : Int)) = false := decide_eq_false (by omega)
  have e2 : decide ((100 : Int) < (N : Int)) = false := decide_eq_false (by omega)
  have HT := Lib.hid ht
  have C := Lib.hid (alive8 W)
  clear hN ht
  go_enter Try.func3, Try.ntmps3
  go_wp2_with fail
  refine C.out.mono ?_
  rintro e w1 ⟨rfl, hb⟩
  have HB1 := Lib.hid hb
  have C := Lib.hid (new_any t w1)
  clear hb e1 e2
  go_wp2_with fail
  refine C.out.mono ?_
  rintro e w2 ⟨p, rfl, hA, hp, hb⟩
  have HP := Lib.hid (Nat.le_trans HB1.out.size hp)
  have HA2 := Lib.hid hA
  have HB2 := Lib.hid (HB1.out.trans (hb.mono HB1.out.size))
  clear hb hA hp C HB1
  go_wp2
  go_loopg [6, 7] N (fun g at' i wr => ∃ (j a : Nat), g = N - j ∧ j ≤ N ∧ i = .int .i64 j ∧ at' = .int .i64 a ∧ Hid (At wr p t a) ∧ Hid (Below W.heap.size W wr))
  case atStart => exact ⟨0, 0, rfl, Nat.zero_le _, rfl, rfl, HA2, HB2⟩
  case round =>
    clear HA2 HB2
    obtain ⟨j, a, rfl, hj, rfl, rfl, HA, HB⟩ := hrel
    by_cases hlt : j < N
    · have e1 : (j : Int) < (N : Int) := by omega
      have e0 : (0 : Int) ≤ (j : Int) := by omega
      have hle := HA.out.le
      obtain ⟨x, hx⟩ : ∃ x, l[j]? = some x := ⟨_, List.getElem?_eq_getElem (by rw [HN.out]; exact hlt)⟩
      obtain ⟨ao, ac, hao, hcell⟩ := HL.out.below HB.out
      rw [HN.out] at hao
      simp only [Value.slice.injEq, true_and] at hao
      obtain ⟨rfl, rfl⟩ := hao
      obtain ⟨ad, rfl, c0⟩ := hcell j x hx
      have HC0 := Lib.hid (show ∀ w', Stirred wr w' [p] → w'.cell? (ad.add j) = some (.int .i64 x) from fun w' hs => by
        have h0 := hcell j x hx
        obtain ⟨ad', e', h1⟩ := h0
        simp only [Option.some.injEq] at e'
        subst e'
        have hlow : (ad.add j).block < W.heap.size := by
          obtain ⟨ao2, ac2, e2, hc2⟩ := HL.out
          rw [HN.out] at e2
          simp only [Value.slice.injEq, true_and] at e2
          obtain ⟨rfl, rfl⟩ := e2
          obtain ⟨ad2, e3, h3⟩ := hc2 j x hx
          simp only [Option.some.injEq] at e3
          subst e3
          exact World.block_lt_of_cell? W _ h3
        have hnp : (ad.add j).block ∉ [p] := fun hm => by
          have h6 : (ad.add j).block = p := List.mem_singleton.1 hm
          have h5 := HP.out
          omega
        rw [World.cell?_of_block (w := wr) (a := ad.add j) (hs.block _ (World.block_lt_of_cell? wr _ h1) hnp)]
        exact h1)
      clear hcell hx
      by_cases hin : x < 0 ∨ 255 < x
      · have hnext : ∀ (sw : ByteArray) (sb : Bool) (sa : Nat), wS t a = sw → wB t a = sb → wAt t a = sa → True := fun _ _ _ _ _ _ => trivial
        obtain ⟨sw, hsw⟩ : ∃ x, wS t a = x := ⟨_, rfl⟩
        obtain ⟨sb, hsb⟩ : ∃ x, wB t a = x := ⟨_, rfl⟩
        obtain ⟨sa, hsa⟩ : ∃ x, wAt t a = x := ⟨_, rfl⟩
        have C := Lib.hid (word_any HA.out (by have := HT.out; omega))
        have D := Lib.hid (fun w => refNext_any t a hle (by have := HT.out; omega) w)
        rw [hsw, hsb, hsa] at C D
        clear hsw hsb hsa hnext
        rcases hin with h | h
        all_goals
          try have g1 : decide (x < 0) = false := decide_eq_false (by omega)
          go_wp2_with fail
          refine C.out.mono ?_
          rintro e w3 ⟨rfl, hA, hs⟩
          have HA3 := Lib.hid hA
          have HB3 := Lib.hid (past HP.out HB.out hs)
          clear hA hs
          go_wp2_with fail
          refine (D.out w3).mono ?_
          rintro e wz ⟨rfl, hwz⟩
          subst wz
          clear C D
          have C1 := Lib.hid (fun n => at_any (HA3.out.below (sdrewN_below _ w3 n)))
          have C2 := Lib.hid (fun n => left_any (HA3.out.below (sdrewN_below _ w3 n)))
          have k0 : (0 : Int) ≤ (sa : Int) := by omega
          have k1 : (sa : Int) ≤ (t.size : Int) := by have := HA3.out.le; omega
          go_wp2_with fail
          go_quiet (first
            | (go_at_call 13; exact Calls.quiet_of_same (C1.out _))
            | (go_at_call 14; exact Calls.quiet_of (C2.out _)))
          go_wp2
          go_roundg (N - (j + 1))
          case measure => omega
          case rel => exact ⟨j + 1, sa, rfl, by omega, by go_num, rfl, Lib.hid (HA3.out.below (sdrewN_below _ _ _)), Lib.hid (HB3.out.trans (sdrewN_below _ _ _))⟩
      · obtain ⟨c, hc⟩ : ∃ c : UInt8, x = (c.toNat : Int) := ⟨UInt8.ofNat x.toNat, by rw [UInt8.toNat_ofNat']; omega⟩
        subst hc
        have g1 : decide ((c.toNat : Int) < 0) = false := decide_eq_false (by omega)
        have g2 : decide ((255 : Int) < (c.toNat : Int)) = false := decide_eq_false (by omega)
        have hw8 := u8_is c
        obtain ⟨sw, hsw⟩ : ∃ x, uS t a c = x := ⟨_, rfl⟩
        obtain ⟨sb, hsb⟩ : ∃ x, uB t a c = x := ⟨_, rfl⟩
        obtain ⟨sa, hsa⟩ : ∃ x, uAt t a c = x := ⟨_, rfl⟩
        have C := Lib.hid (until_any HA.out c (by have := HT.out; omega))
        have D := Lib.hid (fun w => refUntil_any t a c hle (by have := HT.out; omega) w)
        rw [hsw, hsb, hsa] at C D
        clear hsw hsb hsa hin
        go_wp2_with fail
        refine C.out.mono ?_
        rintro e w3 ⟨rfl, hA, hs⟩
        have HA3 := Lib.hid hA
        have HB3 := Lib.hid (past HP.out HB.out hs)
        have c0 := HC0.out w3 hs
        clear hA hs
        go_wp2_with fail
        refine (D.out w3).mono ?_
        rintro e wz ⟨rfl, hwz⟩
        subst wz
        clear C D
        have C1 := Lib.hid (fun n => at_any (HA3.out.below (sdrewN_below _ w3 n)))
        have C2 := Lib.hid (fun n => left_any (HA3.out.below (sdrewN_below _ w3 n)))
        have k0 : (0 : Int) ≤ (sa : Int) := by omega
        have k1 : (sa : Int) ≤ (t.size : Int) := by have := HA3.out.le; omega
        go_wp2_with fail
        go_quiet (first
          | (go_at_call 13; exact Calls.quiet_of_same (C1.out _))
          | (go_at_call 14; exact Calls.quiet_of (C2.out _)))
        go_wp2
        go_roundg (N - (j + 1))
        case measure => omega
        case rel => exact ⟨j + 1, sa, rfl, by omega, by go_num, rfl, Lib.hid (HA3.out.below (sdrewN_below _ _ _)), Lib.hid (HB3.out.trans (sdrewN_below _ _ _))⟩
    · obtain rfl : j = N := by omega
      have e1 : ¬ (j : Int) < (j : Int) := by omega
      have C1 := Lib.hid (word_nil wr)
      clear hlt HA
      go_wp2_with fail
      refine C1.out.mono ?_
      rintro e w5 ⟨rfl, q5, hq5⟩
      have HB5 := Lib.hid (show Below W.heap.size W w5 by rw [hq5]; exact HB.out.trans (below_drewN _ _ _))
      clear hq5 C1
      have C2 := Lib.hid (show Calls Try.prog 11 #[.pointer none, .int .u8 97] w5 _ from until_nil 97 w5)
      go_wp2_with fail
      refine C2.out.mono ?_
      rintro e w6 ⟨rfl, hb6⟩
      have HB6 := Lib.hid (HB5.out.trans (hb6.mono HB5.out.size))
      clear hb6 C2
      have C3 := Lib.hid (at_nil w6)
      have C4 := Lib.hid (left_nil w6)
      go_wp2_with fail
      refine C3.out.mono ?_
      rintro e wz ⟨rfl, hwz⟩
      subst wz
      go_wp2_with fail
      refine C4.out.mono ?_
      rintro e wz ⟨rfl, hwz⟩
      subst wz
      go_wp2
      go_ret
      exact ⟨rfl, HB6.out⟩
set_option maxHeartbeats 2000000 in
set_option maxRecDepth 100000 in
theorem early (t : ByteArray) (lo : Option Addr) (N lc : Nat) (W : World) (h : 1000 < t.size ∨ 100 < N) : Calls Try.prog 3 #[.string t, .slice lo N lc] W (Yes W) := by
  have C := Lib.hid (alive8 W)
  by_cases h1 : 1000 < t.size
  · have e1 : decide ((1000 : Int) < (t.size : Int)) = true := decide_eq_true (by omega)
    clear h h1
    go_enter Try.func3, Try.ntmps3
    go_wp2_with fail
    refine C.out.mono ?_
    rintro e w1 ⟨rfl, hb⟩
    have HB := Lib.hid hb
    clear hb C
    go_wp2
    go_ret
    exact ⟨rfl, HB.out⟩
  · have e1 : decide ((1000 : Int) < (t.size : Int)) = false := decide_eq_false (by omega)
    have e2 : decide ((100 : Int) < (N : Int)) = true := decide_eq_true (by omega)
    clear h h1
    go_enter Try.func3, Try.ntmps3
    go_wp2_with fail
    refine C.out.mono ?_
    rintro e w1 ⟨rfl, hb⟩
    have HB := Lib.hid hb
    clear hb C
    go_wp2
    go_ret
    exact ⟨rfl, HB.out⟩
theorem walk (t : ByteArray) (v : Value) (l : List Int) (W : World) (ht : t.size ≤ maxLen) (hl : Reads W v l ∧ ∀ x ∈ l, (Lit.int .i64 x).wf = true) : Calls Try.prog 3 #[.string t, v] W (Yes W) := by
  by_cases h : 1000 < t.size ∨ 100 < l.length
  · obtain ⟨⟨lo, lc, rfl, _⟩, _⟩ := hl
    exact early t _ _ _ W h
  · exact main t v l W hl.1 (by omega) (by omega)
end Go.Proofs.Ytmbblnebkcekdaa.SourcePlays
