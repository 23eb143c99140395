
/- SourceUntils: the walk. -/
import Derived.Test.YtmbblnebkcekdaaSrcAlive
import Derived.Lib.ConvBytes
namespace Go.Proofs.Ytmbblnebkcekdaa.SourceUntils
open Go.RowKit Book Src
set_option linter.unusedSimpArgs false
set_option linter.unusedVariables false
theorem extract_empty (t : ByteArray) : t.extract 0 0 = ⟨#[]⟩ := extract_same t 0
theorem extract_join (t : ByteArray) {a b : Nat} (h1 : a ≤ b) : t.extract 0 a ++ t.extract a b = t.extract 0 b := by
  rw [ByteArray.extract_append_extract]
  congr 1 <;> omega
theorem extract_byte (t : ByteArray) {k : Nat} (h : k < t.size) : t.extract 0 k ++ ⟨#[t[k]]⟩ = t.extract 0 (k + 1) := by
  rw [← extract_join t (Nat.le_succ k)]
  congr 1
  apply ByteArray.ext
  apply Array.ext
  · show 1 = (t.extract k (k + 1)).size
    rw [ByteArray.size_extract]; omega
  · intro i h1 h2
    have hi : i = 0 := by simpa using h1
    subst hi
    have h3 : 0 < (t.extract k (k + 1)).size := by rw [ByteArray.size_extract]; omega
    show t[k] = (t.extract k (k + 1))[0]
    rw [ByteArray.getElem_extract]
    simp
theorem extract_whole (t : ByteArray) : t.extract 0 t.size = t := ByteArray.extract_zero_size
/-- the text up to where one goes on -/
theorem upto (t : ByteArray) (a : Nat) (c : UInt8) (ha : a ≤ t.size) (hb : uB t a c = true) : t.extract 0 a ++ uS t a c ++ ⟨#[c]⟩ = t.extract 0 (uAt t a c) ∧ a < uAt t a c := by
  have h1 : uTo t a c < t.size := of_decide_eq_true hb
  have h2 := uTo_ge (t := t) (a := a) c
  have h3 : (t[uTo t a c] == c) = true := ff_at (p := fun x => x == c) ha h1
  have e : uAt t a c = uTo t a c + 1 := by unfold uAt; omega
  refine ⟨?_, by omega⟩
  rw [e, ← extract_byte t h1]
  unfold uS
  rw [extract_join t h2]
  have h4 : t[uTo t a c] = c := by simpa using h3
  rw [h4]
theorem rest (t : ByteArray) (a : Nat) (c : UInt8) (ha : a ≤ t.size) (hb : uB t a c = false) : t.extract 0 a ++ uS t a c = t ∧ uAt t a c = t.size := by
  have h1 : ¬ uTo t a c < t.size := of_decide_eq_false hb
  have h2 := uTo_le ha c
  have h3 : uTo t a c = t.size := by omega
  refine ⟨?_, by unfold uAt; omega⟩
  unfold uS
  rw [h3, extract_join t ha, extract_whole]
theorem uS_size (t : ByteArray) (a : Nat) (c : UInt8) (ha : a ≤ t.size) : (uS t a c).size ≤ t.size := by
  unfold uS
  rw [ByteArray.size_extract]
  have := uTo_le ha c
  omega
set_option maxHeartbeats 8000000 in
set_option maxRecDepth 100000 in
theorem main (t : ByteArray) (c : UInt8) (W : World) (ht : t.size ≤ 500) :
    Calls Try.prog 6 #[.string t, .int .u8 (c.toNat : Int)] W (Yes W) := by
  have e1 : decide ((500 : Int) < (t.size : Int)) = false := decide_eq_false (by omega)
  have HT := Lib.hid ht
  have C := Lib.hid (alive8 W)
  clear ht
  go_enter Try.func6, Try.ntmps6
  go_wp2_with fail
  refine C.out.mono ?_
  rintro e w1 ⟨rfl, hb⟩
  have HB1 := Lib.hid hb
  have C := Lib.hid (new_any t w1)
  clear hb e1
  go_wp2_with fail
  refine C.out.mono ?_
  rintro e w2 ⟨p, rfl, hA, hp, hb⟩
  have HP := Lib.hid (Nat.le_trans HB1.out.size hp)
  have HA2 := Lib.hid hA
  have HB2 := Lib.hid (HB1.out.trans (hb.mono HB1.out.size))
  clear hb hA hp C HB1
  have hz : (0 : Int) ≤ (t.size : Int) := by omega
  go_wp2
  go_loopg [6, 7] (t.size + 1) (fun g s i wr => ∃ (j a : Nat), g = t.size + 1 - j ∧ i = .int .i64 j ∧ s = .string (t.extract 0 a) ∧ Hid (j ≤ a) ∧ Hid (At wr p t a) ∧ Hid (Below W.heap.size W wr))
  case atStart => exact ⟨0, 0, rfl, rfl, by rw [extract_empty], Lib.hid (Nat.le_refl _), HA2, HB2⟩
  case round =>
    clear HA2 HB2
    obtain ⟨j, a, rfl, rfl, rfl, HJ, HA, HB⟩ := hrel
    have hle := HA.out.le
    have hja := HJ.out
    have ht5 := HT.out
    have e1 : (j : Int) ≤ (t.size : Int) + 1 := by omega
    have C := Lib.hid (until_any HA.out c (by omega))
    obtain ⟨sb, hsb⟩ : ∃ x, uB t a c = x := ⟨_, rfl⟩
    cases sb with
    | true =>
      have hu := upto t a c hle hsb
      have HU := Lib.hid hu
      obtain ⟨sa, hsa⟩ : ∃ x, uAt t a c = x := ⟨_, rfl⟩
      obtain ⟨sw, hsw⟩ : ∃ x, uS t a c = x := ⟨_, rfl⟩
      have hz2 : sw.size ≤ 500 := by rw [← hsw]; exact Nat.le_trans (uS_size t a c hle) ht5
      rw [hsb, hsa, hsw] at C
      rw [hsa, hsw] at HU
      clear hu hsb hsa hsw
      go_wp2_with fail
      refine C.out.mono ?_
      rintro e w3 ⟨rfl, hA, hs⟩
      have HA3 := Lib.hid hA
      have HB3 := Lib.hid (past HP.out HB.out hs)
      clear hA hs C
      have hal := (Below.refl w3.heap.size w3).alloc (Nat.le_refl _) (.cells #[.int .u8 (c.toNat : Int)] 5)
      have hnew := heap_alloc_new w3 (.cells #[.int .u8 (c.toNat : Int)] 5)
      have HA4 := Lib.hid (HA3.out.below hal)
      have HB4 := Lib.hid (HB3.out.trans (hal.mono HB3.out.size))
      have hcv : (convert 38 9 (.slice (some ⟨w3.heap.size, 0, none⟩) 1 1)).run Try.prog (w3.alloc (.cells #[.int .u8 (c.toNat : Int)] 5)) = .ok (.string ⟨#[c]⟩) (w3.alloc (.cells #[.int .u8 (c.toNat : Int)] 5)) := by
        have e := run_convert_bytes_arg (P := Try.prog) (w3.alloc (.cells #[.int .u8 (c.toNat : Int)] 5)) 38 5 Try.underlying38 Try.underlying5 w3.heap.size 0 1 1 [(c.toNat : Int)] rfl
          (fun i hi => by
            obtain rfl : i = 0 := by omega
            exact whole_cell hnew rfl) 9 Try.underlying9
        rw [e]
        congr 2
        simp [strOfNums]
      clear hal hnew
      go_wp2
      rw [show t.extract 0 a ++ sw ++ ⟨#[c]⟩ = t.extract 0 sa from HU.out.1]
      go_roundg (t.size + 1 - (j + 1))
      case measure => omega
      case rel => exact ⟨j + 1, sa, rfl, by go_num, rfl, Lib.hid (by have := HU.out.2; omega), HA4, HB4⟩
    | false =>
      have hu := rest t a c hle hsb
      have HU := Lib.hid hu
      rw [hsb, hu.2] at C
      obtain ⟨sw, hsw⟩ : ∃ x, uS t a c = x := ⟨_, rfl⟩
      have hz2 : sw.size ≤ 500 := by rw [← hsw]; exact Nat.le_trans (uS_size t a c hle) ht5
      rw [hsw] at C HU
      clear hu hsb hsw
      go_wp2_with fail
      refine C.out.mono ?_
      rintro e w3 ⟨rfl, hA, hs⟩
      have HB3 := Lib.hid (past HP.out HB.out hs)
      have C1 := Lib.hid (left_any hA)
      rw [extract_same] at C1
      have HA3 := Lib.hid hA
      have heq : t.extract 0 a ++ sw = t := HU.out.1
      clear hA hs C
      go_wp2_with fail
      refine C1.out.mono ?_
      rintro e w4 ⟨rfl, q, hq⟩
      have HA4 := Lib.hid (show At w4 p t t.size by rw [hq]; exact HA3.out.below (sdrewN_below _ _ _))
      have HB4 := Lib.hid (show Below W.heap.size W w4 by rw [hq]; exact HB3.out.trans (sdrewN_below _ _ _))
      have C2 := Lib.hid (at_any HA4.out)
      clear hq C1
      go_wp2_with fail
      refine C2.out.mono ?_
      rintro e wz ⟨rfl, hwz⟩
      subst wz
      go_wp2
      go_ret
      exact ⟨rfl, HB4.out⟩
theorem early (t : ByteArray) (c : Int) (W : World) (h : 500 < t.size) : Calls Try.prog 6 #[.string t, .int .u8 c] W (Yes W) := by
  have C := Lib.hid (alive8 W)
  have e1 : decide ((500 : Int) < (t.size : Int)) = true := decide_eq_true (by omega)
  clear h
  go_enter Try.func6, Try.ntmps6
  go_wp2_with fail
  refine C.out.mono ?_
  rintro e w1 ⟨rfl, hb⟩
  have HB := Lib.hid hb
  clear hb C
  go_wp2
  go_ret
  exact ⟨rfl, HB.out⟩
theorem walk (t : ByteArray) (c : UInt8) (W : World) : Calls Try.prog 6 #[.string t, .int .u8 (c.toNat : Int)] W (Yes W) := by
  by_cases h : 500 < t.size
  · exact early t _ W h
  · exact main t c W (by omega)
end Go.Proofs.Ytmbblnebkcekdaa.SourceUntils
