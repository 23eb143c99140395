
/- Package words: whether two texts are alike, letters great or small (the texts of package words' own proof, by themselves). -/
import Derived.Test.YtcpdhfigaoaohaaDoorOpPlain
import Derived.WalkKit
import Derived.Lib.Hide
import Derived.Deep.LoopGhost
import Derived.Deep.QuietTactic
import Derived.BigQuiet
import Derived.Deep.Draws
namespace Go.Proofs.YtcpdhfigaoaohaaDoor.Wv
open Go.RowKit
set_option linter.unusedSimpArgs false
set_option linter.unusedVariables false
theorem at_bytes (s : ByteArray) (k : Nat) (h : k < s.size) : s.data.toList[k]? = some s[k] := by
  rw [List.getElem?_eq_getElem (by rw [bytes_len]; exact h)]
  rfl
theorem wordsGreat_any (c : UInt8) (w : World) : Calls Tryd.prog 79 #[.int .u8 (c.toNat : Int)] w fun e w' => e = .returned (.int .u8 ((Lib.upperB c).toNat : Int)) ∧ w' = w := by
  rcases lower_cases c with ⟨x1, x2, x3⟩ | ⟨x1, x3⟩ | ⟨x1, x2, x3⟩
  all_goals
    rw [x3]
    clear x3
    go_enter Tryd.func79, Tryd.ntmps79
    go_wp2
    go_ret
    exact ⟨rfl, rfl⟩
theorem alike_no {s t : ByteArray} (h : s.size ≠ t.size) : alike s t = false := by
  cases h2 : alike s t with
  | false => rfl
  | true => exact absurd (alike_size h2) h
theorem take_both {s t : ByteArray} {k : Nat} (hs : k < s.size) (ht : k < t.size) : ((s.data.toList.take (k + 1)).map Lib.upperB = (t.data.toList.take (k + 1)).map Lib.upperB) ↔ ((s.data.toList.take k).map Lib.upperB = (t.data.toList.take k).map Lib.upperB ∧ Lib.upperB s[k] = Lib.upperB t[k]) := by
  rw [List.take_add_one, List.take_add_one, at_bytes s k hs, at_bytes t k ht, List.map_append, List.map_append]
  simp only [Option.toList_some, List.map_cons, List.map_nil]
  constructor
  · intro e
    have := List.append_inj e (by simp [List.length_take, bytes_len]; omega)
    exact ⟨this.1, by simpa using this.2⟩
  · rintro ⟨e1, e2⟩
    rw [e1, e2]
set_option maxHeartbeats 4000000 in
theorem same_any' (s t : ByteArray) (w : World) (hs : s.size ≤ 1000000) (ht : t.size ≤ 1000000) : Calls Tryd.prog 62 #[.string s, .string t] w fun e w' => e = .returned (.bool (alike s t)) ∧ ∃ q, w' = w.drewN q := by
  by_cases hz : s.size = t.size
  · have hzi : (s.size : Int) = (t.size : Int) := by omega
    go_enter Tryd.func62, Tryd.ntmps62
    go_wp2
    go_loopg [13] s.size (fun g i wr => ∃ k : Nat, g = s.size - k ∧ k ≤ s.size ∧ i = .int .i64 k ∧ Hid ((s.data.toList.take k).map Lib.upperB = (t.data.toList.take k).map Lib.upperB) ∧ Hid (∃ q, wr = w.drewN q))
    case atStart => exact ⟨0, rfl, Nat.zero_le _, rfl, rfl, 0, rfl⟩
    case round =>
      obtain ⟨k, rfl, hk, rfl, HE, HQ⟩ := hrel
      by_cases hlt : k < s.size
      · have hk0 : (0 : Int) ≤ (k : Int) := by omega
        have hk1 : (k : Int) < (s.size : Int) := by omega
        have hk2 : (k : Int) < (t.size : Int) := by omega
        have htl : k < t.size := by omega
        have hst := take_both hlt htl
        have HST := Lib.hid hst
        obtain ⟨x, hx⟩ : ∃ x, s[k] = x := ⟨_, rfl⟩
        obtain ⟨y, hy⟩ : ∃ y, t[k] = y := ⟨_, rfl⟩
        rw [hx, hy] at HST
        have C := Lib.hid (fun w => wordsGreat_any x w)
        have D := Lib.hid (fun w => wordsGreat_any y w)
        by_cases hxy : Lib.upperB x = Lib.upperB y
        · have hb : (((Lib.upperB x).toNat : Int) != ((Lib.upperB y).toNat : Int)) = false := by rw [hxy]; simp
          go_wp2
          go_quiet ((go_at_call 79; exact Calls.quiet_of_same (by first | with_reducible exact C.out _ | with_reducible exact D.out _)))
          go_wp2
          go_roundg (s.size - (k + 1))
          case measure => omega
          case rel => exact ⟨k + 1, rfl, by omega, by go_num, Lib.hid (HST.out.2 ⟨HE.out, hxy⟩), by obtain ⟨q, e⟩ := HQ.out; rw [e]; exact ⟨_, World.drewN_drewN _ _ _⟩⟩
        · have hb : (((Lib.upperB x).toNat : Int) != ((Lib.upperB y).toNat : Int)) = true := by
            rw [bne_iff_ne]; intro e; exact hxy (UInt8.toNat_inj.1 (by omega))
          go_wp2
          go_quiet ((go_at_call 79; exact Calls.quiet_of_same (by first | with_reducible exact C.out _ | with_reducible exact D.out _)))
          go_wp2
          go_ret
          refine ⟨?_, by obtain ⟨q, e⟩ := HQ.out; rw [e]; exact ⟨_, World.drewN_drewN _ _ _⟩⟩
          rw [show alike s t = false by
            cases h : alike s t with
            | false => rfl
            | true =>
              have e := (alike_iff _ _).1 h
              exact absurd (HST.out.1 (by rw [List.map_take, List.map_take, e])).2 hxy]
          rfl
      · obtain rfl : k = s.size := by omega
        clear hlt
        go_wp2
        go_ret
        refine ⟨?_, HQ.out⟩
        have e := HE.out
        rw [List.take_of_length_le (by rw [bytes_len]; omega), List.take_of_length_le (by rw [bytes_len]; omega)] at e
        rw [show alike s t = true from (alike_iff _ _).2 e]
        rfl
  · rw [alike_no hz]
    have hzi : ¬ (s.size : Int) = (t.size : Int) := by omega
    have hzb : ((s.size : Int) != (t.size : Int)) = true := by rw [bne_iff_ne]; exact hzi
    go_enter Tryd.func62, Tryd.ntmps62
    go_wp2
    go_ret
    exact ⟨rfl, 0, rfl⟩
end Go.Proofs.YtcpdhfigaoaohaaDoor.Wv
