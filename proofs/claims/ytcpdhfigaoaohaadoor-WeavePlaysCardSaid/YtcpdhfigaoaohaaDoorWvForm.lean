
/- Package weave: which word of control a text is. -/
import Derived.Test.YtcpdhfigaoaohaaDoorWvNames
import Derived.Test.YtcpdhfigaoaohaaDoorWvSame
namespace Go.Proofs.YtcpdhfigaoaohaaDoor.Wv
open Go.RowKit
set_option linter.unusedSimpArgs false
set_option linter.unusedVariables false
def formB (s : ByteArray) : Bool := (wvOf s).isSome
def formN (s : ByteArray) : Nat := (wvOf s).getD 0
theorem range_find {p : Nat → Bool} {n k : Nat} (hk : k < n) (h : p k = true) (hn : ∀ j, j < k → p j = false) : (List.range n).find? p = some k := by
  induction n generalizing k with
  | zero => omega
  | succ n ih =>
    rw [List.range_succ, List.find?_append]
    by_cases e : k < n
    · rw [ih e h hn]; rfl
    · obtain rfl : k = n := by omega
      rw [List.find?_eq_none.2 (fun j hj => by rw [hn j (by simpa using hj)]; decide)]
      simp [h]
theorem range_none {p : Nat → Bool} {n : Nat} (h : ∀ j, j < n → p j = false) : (List.range n).find? p = none :=
  List.find?_eq_none.2 (fun j hj => by rw [h j (by simpa using hj)]; decide)
set_option maxHeartbeats 2000000 in
theorem formOf_any (s : ByteArray) (hs : s.size ≤ 1000) (w : World) (hn : NamesIs w) : Calls Tryd.prog 32 #[.string s] w fun e w' => e = .returned (.tuple #[.int .i64 (formN s : Int), .bool (formB s)]) ∧ ∃ q, w' = w.drewN q := by
  have HN := Lib.hid hn
  clear hn
  go_enter Tryd.func32, Tryd.ntmps32
  go_wp2
  go_loopg [5] 11 (fun g i wr => ∃ k : Nat, g = 11 - k ∧ k ≤ 11 ∧ i = .int .i64 k ∧ Hid (∀ j, j < k → alike s (wvName j) = false) ∧ Hid (∃ q, wr = w.drewN q))
  case atStart => exact ⟨0, rfl, Nat.zero_le _, rfl, Lib.hid (fun j hj => absurd hj (Nat.not_lt_zero _)), 0, rfl⟩
  case round =>
    obtain ⟨k, rfl, hk, rfl, HA, HQ⟩ := hrel
    by_cases hlt : k < 11
    · have hc := HN.out.cell hlt
      have hcr : wr.cell? ⟨0, k, none⟩ = some (.string (wvName k)) := by obtain ⟨q, e⟩ := HQ.out; rw [e]; exact hc
      have hz := wvName_size k hlt
      obtain ⟨nm, hnm⟩ : ∃ nm, wvName k = nm := ⟨_, rfl⟩
      have HNM := Lib.hid hnm
      rw [hnm] at hcr hz
      have C := Lib.hid (same_any' s nm wr (by omega) (by omega))
      have e0 : (0 : Int) ≤ (k : Int) := by omega
      have e1 : (k : Int) < 11 := by omega
      clear hc hnm hz
      by_cases ha : alike s nm = true
      · rw [ha] at C
        have HF := Lib.hid (show wvOf s = some k from range_find hlt (by rw [HNM.out]; exact ha) HA.out)
        clear ha
        go_wp2_with fail
        refine C.out.mono ?_
        rintro e w2 ⟨rfl, q2, rfl⟩
        clear C
        go_wp2
        go_ret2
        refine ⟨by rw [show formN s = k by unfold formN; rw [HF.out]; rfl, show formB s = true by unfold formB; rw [HF.out]; rfl]; rfl, ?_⟩
        obtain ⟨q, e⟩ := HQ.out
        rw [e]
        exact ⟨_, World.drewN_drewN _ _ _⟩
      · have ha' : alike s nm = false := by simpa using ha
        rw [ha'] at C
        have HA1 := Lib.hid (show ∀ j, j < k + 1 → alike s (wvName j) = false from fun j hj => by
          by_cases e : j = k
          · subst e; rw [HNM.out]; exact ha'
          · exact HA.out j (by omega))
        clear ha ha'
        go_wp2_with fail
        refine C.out.mono ?_
        rintro e w2 ⟨rfl, q2, rfl⟩
        clear C
        go_wp2
        go_roundg (11 - (k + 1))
        case measure => omega
        case rel => exact ⟨k + 1, rfl, by omega, by go_num, HA1, by obtain ⟨q, e⟩ := HQ.out; rw [e]; exact ⟨_, World.drewN_drewN _ _ _⟩⟩
    · obtain rfl : k = 11 := by omega
      have HF := Lib.hid (show wvOf s = none from range_none HA.out)
      clear hlt
      go_wp2
      go_ret2
      exact ⟨by rw [show formN s = 0 by unfold formN; rw [HF.out]; rfl, show formB s = false by unfold formB; rw [HF.out]; rfl]; rfl, HQ.out⟩
theorem form_word (s : ByteArray) : word s = if formB s = true then formN s + 1 else 0 := by
  rw [wvOf_word]
  unfold formB formN
  cases wvOf s <;> rfl
theorem formN_lt (s : ByteArray) : formN s < 11 := by
  unfold formN
  cases h : wvOf s with
  | none => decide
  | some k =>
    have := List.mem_of_find?_eq_some h
    simpa using this
end Go.Proofs.YtcpdhfigaoaohaaDoor.Wv
