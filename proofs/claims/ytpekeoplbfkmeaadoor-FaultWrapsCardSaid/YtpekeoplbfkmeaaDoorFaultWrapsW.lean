/- The walk of hollowaylaw2.FaultWraps. -/
import Derived.Test.YtpekeoplbfkmeaaDoorFaultAlive
namespace Go.Proofs.YtpekeoplbfkmeaaDoor
open Go.RowKit Go.Extern.Stop Go.Stop Go.Extern
set_option linter.unusedSimpArgs false
set_option linter.unusedVariables false
set_option maxHeartbeats 4000000 in
set_option maxRecDepth 100000 in
theorem faultWraps_out (c ip n : Int) (word : ByteArray) (other : Int) (w : World) (hg : ErrorType w) (ho : c = 0 ∨ n < 0 ∨ 60 < n ∨ 60 < word.size) (hm : word.size ≤ 9223372036854775807) :
    Calls Tryd.prog 3 #[.int .i64 c, .int .i64 ip, .int .i64 n, .string word, .int .i64 other] w fun e w' => e = .returned (.bool true) ∧ Below w.heap.size w w' := by
  have C := Lib.hid (alive_any w hg)
  clear hg
  have hs : (60 : Int) < word.size ∨ ¬ (60 : Int) < word.size := by omega
  have hc : c = 0 ∨ (c == 0) = false := by by_cases h : c = 0 <;> simp [h]
  rcases hc with rfl | hc
  · go_enter Tryd.func3, Tryd.ntmps3
    go_wp2_with (go_at_call 5; refine C.out.mono ?_; rintro e w1 ⟨rfl, hb1⟩)
    go_ret
    exact ⟨rfl, hb1⟩
  · by_cases h0 : n < 0
    · go_enter Tryd.func3, Tryd.ntmps3
      go_wp2_with (go_at_call 5; refine C.out.mono ?_; rintro e w1 ⟨rfl, hb1⟩)
      go_ret
      exact ⟨rfl, hb1⟩
    · by_cases h1 : 60 < n
      · go_enter Tryd.func3, Tryd.ntmps3
        go_wp2_with (go_at_call 5; refine C.out.mono ?_; rintro e w1 ⟨rfl, hb1⟩)
        go_ret
        exact ⟨rfl, hb1⟩
      · have h2 : 60 < word.size := by
          rcases ho with h | h | h | h
          · subst h; simp at hc
          · exact absurd h h0
          · exact absurd h h1
          · exact h
        clear ho hs
        go_enter Tryd.func3, Tryd.ntmps3
        go_wp2_with (go_at_call 5; refine C.out.mono ?_; rintro e w1 ⟨rfl, hb1⟩)
        go_ret
        exact ⟨rfl, hb1⟩
theorem slice_of {B : Nat} {w : World} {j : Nat} {word : ByteArray} {s : Value} (hs : IsTexts B w (List.replicate j word) s) : ∃ p cap, s = .slice p j cap := by
  have h := hs.2
  simp only [List.length_replicate] at h
  rcases h with ⟨hv, h0⟩ | ⟨g, cap, cur, hv, _⟩
  · exact ⟨none, 0, by rw [hv, h0]⟩
  · exact ⟨_, _, hv⟩
set_option maxHeartbeats 2000000 in
set_option maxRecDepth 100000 in
theorem faultWraps_in (c ip : Int) (n : Nat) (word : ByteArray) (other : Int) (w : World) (hg : ErrorType w) (hc : (c == 0) = false) (hn : n ≤ 60) (hs : ¬ (60 : Int) < word.size) (hm : word.size ≤ 9223372036854775807) :
    Calls Tryd.prog 3 #[.int .i64 c, .int .i64 ip, .int .i64 n, .string word, .int .i64 other] w fun e w' => e = .returned (.bool true) ∧ Below w.heap.size w w' := by
  have C := Lib.hid (alive_any w hg)
  have HG := Lib.hid hg
  have hn0 : ¬ (n : Int) < 0 := by omega
  have hn1 : ¬ (60 : Int) < n := by omega
  clear hg
  go_enter Tryd.func3, Tryd.ntmps3
  go_wp2_with (go_at_call 5; refine C.out.mono ?_; rintro e w1 ⟨rfl, hb1⟩)
  go_wp2_with (go_at_call 6; refine (new_some c ip hc _).mono ?_; rintro e w1' ⟨rfl, rfl⟩)
  go_wp2
  clear C hn0 hn1 hs
  go_loopg [11, 12] n (fun k v i wr => ∃ j : Nat, k + j = n ∧ i = .int .i64 j ∧ Hid (Chain wr c ip (List.replicate j word) v) ∧ Below w.heap.size w wr)
  case atStart => exact ⟨0, rfl, rfl, rfl, hb1⟩
  case round =>
    obtain ⟨j, hkj, rfl, hch, hB⟩ := hrel
    by_cases hlt : j < n
    · obtain ⟨t, x, rfl⟩ := hch.out.iface
      have hlt' : (j : Int) < n := by omega
      go_wp2_with (go_at_call 7; refine (wrap_some t x word _).mono ?_; rintro e w2 ⟨rfl, rfl⟩)
      go_roundg (gk - 1)
      case measure => omega
      case rel => exact ⟨j + 1, by omega, by go_num, ⟨wr.heap.size, .iface t x, rfl, by simp, by simp, by simp, hch.out.alloc⟩, hB.alloc hB.size _⟩
    · obtain rfl : j = n := by omega
      have hlt' : ¬ (j : Int) < j := by omega
      clear hlt hkj
      obtain ⟨t, x, rfl⟩ := hch.out.iface
      have C := Lib.hid (words_any _ _ _ _ _ hch.out (HG.out.mono hB) (by simp; omega))
      go_wp2_with (go_at_call 8; refine C.out.mono ?_; rintro e w2 ⟨s, rfl, hs, hb2⟩; obtain ⟨p, cap, rfl⟩ := slice_of hs)
      have hB2 := hB.trans (hb2.mono hB.size)
      have hch2 := Lib.hid (hch.out.mono hb2)
      clear C hs
      have C := Lib.hid (code_any _ _ _ _ _ hch2.out (HG.out.mono hB2))
      go_wp2_with (go_at_call 9; refine C.out.mono ?_; rintro e w3 ⟨rfl, hb3⟩)
      have hB3 := hB2.trans (hb3.mono hB2.size)
      have hch3 := Lib.hid (hch2.out.mono hb3)
      clear C
      have C := Lib.hid (where_any _ _ _ _ _ hch3.out (HG.out.mono hB3))
      go_wp2_with (go_at_call 10; refine C.out.mono ?_; rintro e w4 ⟨rfl, hb4⟩)
      have hB4 := hB3.trans (hb4.mono hB3.size)
      have hch4 := Lib.hid (hch3.out.mono hb4)
      clear C
      have hc1 : (c != 0) = true := by simp at hc; simpa using hc
      have C := Lib.hid (is_some _ _ _ _ c true _ hch4.out (HG.out.mono hB4) hc1 (by simp))
      clear hc1
      have D := Lib.hid (fun w => wrap_nil word w)
      by_cases ho : other = c
      · have ho' : (other == c) = true := by simpa using ho
        clear ho
        go_wp2_with (first | (go_at_call 11; (with_reducible refine C.out.mono ?_); rintro e w5 ⟨rfl, hb5⟩) | (go_at_call 7; refine (D.out _).mono ?_; rintro e w6 ⟨rfl, rfl⟩))
        go_ret
        exact ⟨rfl, hB4.trans (hb5.mono hB4.size)⟩
      · have ho' : (other == c) = false := by simpa using ho
        clear ho
        go_wp2_with (go_at_call 11; (with_reducible refine C.out.mono ?_); rintro e w5 ⟨rfl, hb5⟩)
        have hB5 := hB4.trans (hb5.mono hB4.size)
        have hch5 := Lib.hid (hch4.out.mono hb5)
        have E : Hid (Calls Tryd.prog 11 #[.iface t x, .int .i64 other] w5 fun e w' => e = .returned (.bool false) ∧ Below w5.heap.size w5 w') := by
          by_cases hz : other = 0
          · subst hz; exact is_zero _ _ _ _ _ hch5.out (HG.out.mono hB5)
          · exact is_some _ _ _ _ other false _ hch5.out (HG.out.mono hB5) (by simpa using hz) ho'
        go_wp2_with (first | (go_at_call 11; (with_reducible refine E.out.mono ?_); rintro e w6 ⟨rfl, hb6⟩) | (go_at_call 7; refine (D.out _).mono ?_; rintro e w7 ⟨rfl, rfl⟩))
        go_ret
        exact ⟨rfl, hB5.trans (hb6.mono hB5.size)⟩
theorem faultWraps_walk (c ip n : Int) (word : ByteArray) (other : Int) (w0 : (Lit.int .i64 c).wf = true) (w1 : (Lit.int .i64 ip).wf = true) (w2 : (Lit.int .i64 n).wf = true) (w3 : word.size ≤ maxLen) (w4 : (Lit.int .i64 other).wf = true) (w : World) (hg : ErrorType w) :
    Calls Tryd.prog 3 #[.int .i64 c, .int .i64 ip, .int .i64 n, .string word, .int .i64 other] w fun e w' => e = .returned (.bool true) ∧ Below w.heap.size w w' := by
  have hm : word.size ≤ 9223372036854775807 := by unfold maxLen at w3; omega
  by_cases ho : c = 0 ∨ n < 0 ∨ 60 < n ∨ 60 < word.size
  · exact faultWraps_out c ip n word other w hg ho hm
  · obtain ⟨k, rfl⟩ := Int.eq_ofNat_of_zero_le (show 0 ≤ n by omega)
    exact faultWraps_in c ip k word other w hg (by simp; omega) (by omega) (by omega) hm
end Go.Proofs.YtpekeoplbfkmeaaDoor
