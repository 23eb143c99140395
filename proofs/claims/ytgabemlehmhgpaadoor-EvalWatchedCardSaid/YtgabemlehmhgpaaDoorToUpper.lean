
/- The walk of strings.ToUpper on texts of bytes below 128. -/
import Derived.Test.YtgabemlehmhgpaaDoorBuilderGrow
import Derived.Lib.Case
import Derived.Deep.LoopGhost
import Derived.Deep.DeepCutAuto
namespace Go.Proofs.YtgabemlehmhgpaaDoor
open Go.RowKit
set_option linter.unusedSimpArgs false
set_option linter.unusedVariables false
/-- so far: C is written, the bytes from p on to k are as they were -/
def UpRel (l : List UInt8) (p k : Nat) (C : List UInt8) : Prop := p ≤ k ∧ k ≤ l.length ∧ C.length = p ∧ C ++ (l.drop p).take (k - p) = (l.take k).map Lib.upperB
theorem UpRel.start (l : List UInt8) : UpRel l 0 0 [] := ⟨Nat.le_refl _, Nat.zero_le _, rfl, by simp⟩
theorem UpRel.keep {l : List UInt8} {p k : Nat} {C : List UInt8} (h : UpRel l p k C) (hk : k < l.length) (hn : Lib.upperB l[k] = l[k]) : UpRel l p (k + 1) C := by
  obtain ⟨h1, h2, h3, h4⟩ := h
  refine ⟨by omega, by omega, h3, ?_⟩
  rw [List.take_succ_eq_append_getElem hk, List.map_append, ← h4, List.map_cons, hn, List.map_nil, List.append_assoc, show k + 1 - p = (k - p) + 1 from by omega]
  rw [List.take_succ_eq_append_getElem (by simp; omega)]
  congr 3
  simp [show p + (k - p) = k from by omega]
theorem UpRel.put {l : List UInt8} {p k : Nat} {C : List UInt8} (h : UpRel l p k C) (hk : k < l.length) : UpRel l (k + 1) (k + 1) (C ++ (l.drop p).take (k - p) ++ [Lib.upperB l[k]]) := by
  obtain ⟨h1, h2, h3, h4⟩ := h
  refine ⟨Nat.le_refl _, by omega, ?_, ?_⟩
  · rw [h4]; simp; omega
  · rw [Nat.sub_self, List.take_zero, List.append_nil, h4, List.take_succ_eq_append_getElem hk, List.map_append]; rfl
theorem UpRel.done {l : List UInt8} {p : Nat} {C : List UInt8} (h : UpRel l p l.length C) : C ++ l.drop p = l.map Lib.upperB := by
  obtain ⟨h1, h2, h3, h4⟩ := h
  rw [List.take_length] at h4
  rw [← h4, List.take_of_length_le (by simp)]
theorem lower_cases_up (c : UInt8) : (97 ≤ (c.toNat : Int) ∧ (c.toNat : Int) ≤ 122 ∧ Lib.isLowerB c = true ∧ ((Lib.upperB c).toNat : Int) = (c.toNat : Int) - 32) ∨ ((c.toNat : Int) < 97 ∧ Lib.isLowerB c = false ∧ Lib.upperB c = c) ∨ (122 < (c.toNat : Int) ∧ 97 ≤ (c.toNat : Int) ∧ Lib.isLowerB c = false ∧ Lib.upperB c = c) := by
  have e := Lib.isLowerB_int c
  by_cases h1 : 97 ≤ (c.toNat : Int)
  · by_cases h2 : (c.toNat : Int) ≤ 122
    · have h3 : Lib.isLowerB c = true := by rw [e]; simp [h1, h2]
      exact .inl ⟨h1, h2, h3, Lib.upperB_int c h3⟩
    · have h3 : Lib.isLowerB c = false := by rw [e]; simp [h2]
      exact .inr (.inr ⟨by omega, h1, h3, Lib.upperB_of_not c h3⟩)
  · have h3 : Lib.isLowerB c = false := by rw [e]; simp [h1]
    exact .inr (.inl ⟨by omega, h3, Lib.upperB_of_not c h3⟩)
theorem strCells_eq' (s : ByteArray) : Lib.strCells s = Lib.byteCells s.data.toList := rfl
set_option maxHeartbeats 8000000 in
set_option maxRecDepth 100000 in
theorem upper_any (s : ByteArray) (w : World) (hs : s.size ≤ 1000000) (ha : ∀ c ∈ s.data.toList, c.toNat < 128) :
    Calls Tryd.prog 42 #[.string s] w fun e w' => e = .returned (.string ⟨(s.data.toList.map Lib.upperB).toArray⟩) ∧ Below w.heap.size w w' := by
  have HA := Lib.hid ha
  have HZ := Lib.hid (show s.data.toList.length = s.size from Array.length_toList)
  clear ha
  go_enter Tryd.func42, Tryd.ntmps42
  go_wp2
  go_loop [3, 4, 5] (fun a h i => ∃ (k : Nat) (H : Bool), k ≤ s.size ∧ a = .bool true ∧ h = .bool H ∧ i = .int .i64 k ∧ Hid (H = (s.data.toList.take k).any Lib.isLowerB)) (fun _ _ i => s.size - (intOf i).toNat)
  case atStart => exact ⟨0, false, Nat.zero_le _, rfl, rfl, rfl, rfl⟩
  case round =>
    obtain ⟨k, H, hk, rfl, rfl, rfl, HH⟩ := hrel
    by_cases hlt : k < s.size
    · obtain ⟨c, hc⟩ : ∃ c, s[k] = c := ⟨_, rfl⟩
      have hb : s.data.toList[k]? = some c := by rw [Array.getElem?_toList, ← hc]; exact Array.getElem?_eq_getElem hlt
      have h128 : (c.toNat : Int) < 128 := by have := HA.out c (List.mem_of_getElem? hb); omega
      have hn := Lib.any_take_succ Lib.isLowerB _ _ _ hb
      rw [← HH.out] at hn
      have HN := Lib.hid hn
      clear hn hb
      rcases lower_cases_up c with ⟨h1, h2, h3, _⟩ | ⟨h1, h3, _⟩ | ⟨h1, h2, h3, _⟩
      all_goals
        rw [h3] at HN
        clear h3
        cases H
        all_goals
          go_wp2
          go_round
          case rel => exact ⟨k + 1, _, by omega, rfl, rfl, by go_num, by rw [Hid, HN.out]; first | rfl | (simp; done) | (simp; omega)⟩
          case measure => simp [intOf]; omega
    · obtain rfl : k = s.size := by omega
      have hall : s.data.toList.take s.size = s.data.toList := by rw [← HZ.out, List.take_length]
      rw [hall] at HH
      clear hall
      cases H
      · have HE := Lib.hid (Lib.map_of_none Lib.upperB Lib.isLowerB Lib.upperB_of_not s.data.toList HH.out.symm)
        clear HH
        go_wp2
        go_ret
        exact ⟨by rw [HE.out, Lib.mk_data]; rfl, Below.refl _ _⟩
      · clear HH
        have G := Lib.hid (Grow_fresh w.heap.size w.heap.size s.size (w.alloc (.cells #[.pointer none, .slice none 0 0] BT)) (Nat.le_refl _) (heap_alloc_new w _) (by simp) (by omega))
        go_wp2_with fail
        refine G.out.mono ?_
        rintro e w1 ⟨rfl, h1, hb1⟩
        have HB := Lib.hid (show Lib.IsBuilder BT U8 w.heap.size w.heap.size (Lib.byteCells []) w1 from .inr h1)
        have HW := Lib.hid (((Below.refl w.heap.size w).alloc (Nat.le_refl _) _).trans hb1)
        clear h1 hb1 G
        go_wp2
        go_loopg [8, 9] s.size (fun g p i wr => ∃ (a k : Nat) (C : List UInt8), g = s.size - k ∧ k ≤ s.size ∧ a ≤ k ∧ p = .int .i64 a ∧ i = .int .i64 k ∧ Hid (UpRel s.data.toList a k C) ∧ Hid (Lib.IsBuilder BT U8 w.heap.size w.heap.size (Lib.byteCells C) wr) ∧ Hid (Below w.heap.size w wr))
        case atStart => exact ⟨0, 0, [], rfl, Nat.zero_le _, Nat.le_refl _, rfl, rfl, UpRel.start _, HB, HW⟩
        case round =>
          obtain ⟨a, k, C, rfl, hk, hak, rfl, rfl, HR, HB1, HW1⟩ := hrel
          by_cases hlt : k < s.size
          · obtain ⟨c, hc⟩ : ∃ c, s[k] = c := ⟨_, rfl⟩
            have hkl : k < s.data.toList.length := by rw [HZ.out]; exact hlt
            have hg : s.data.toList[k] = c := by rw [← hc]; rfl
            have HGC := Lib.hid hg
            clear hg
            rcases lower_cases_up c with ⟨h1, h2, _, h3⟩ | ⟨h1, _, h3⟩ | ⟨h1, h2, _, h3⟩
            · have HP := Lib.hid (HR.out.put hkl)
              rw [HGC.out] at HP
              have HU := Lib.hid h3
              clear h3
              have hCl : C.length = a := HR.out.2.2.1
              have hsz := HW1.out.size
              have c32 : 0 ≤ (c.toNat : Int) - 32 := by omega
              by_cases hpk : a < k
              · have C1 := Lib.hid (writeString w.heap.size w.heap.size (Lib.byteCells C) (s.extract a k) wr HB1.out (by rw [Lib.byteCells_length, hCl, Lib.size_eq, Lib.extract_data, List.length_take, List.length_drop, HZ.out]; omega) hsz)
                clear hCl
                go_wp2_with fail
                refine C1.out.mono ?_
                rintro e w2 ⟨rfl, h4, hb2⟩
                have C2 := Lib.hid (writeByte w.heap.size w.heap.size _ ((c.toNat : Int) - 32) w2 h4 (by
                  have hCl : C.length = a := HR.out.2.2.1
                  rw [List.length_append, Lib.byteCells_length, hCl, Lib.strCells_length, Lib.size_eq, Lib.extract_data, List.length_take, List.length_drop, HZ.out]; omega) (by have := hb2.size; omega))
                have HW2 := Lib.hid (HW1.out.trans hb2)
                clear h4 hb2 C1
                go_wp2_with fail
                refine C2.out.mono ?_
                rintro e w3 ⟨rfl, h5, hb3⟩
                have H5 := Lib.hid h5
                have HW3 := Lib.hid (HW2.out.trans hb3)
                clear h5 hb3 C2
                go_wp2
                go_roundg (s.size - (k + 1))
                case measure => omega
                case rel => exact ⟨k + 1, k + 1, _, rfl, by omega, Nat.le_refl _, by go_num, by go_num, HP, Lib.hid (by
                  have h := H5.out
                  rw [← HU.out, strCells_eq', Lib.extract_data] at h
                  simpa [Lib.byteCells] using h), HW3⟩
              · obtain rfl : a = k := by omega
                have C2 := Lib.hid (writeByte w.heap.size w.heap.size _ ((c.toNat : Int) - 32) wr HB1.out (by rw [Lib.byteCells_length]; omega) hsz)
                clear hCl
                go_wp2_with fail
                refine C2.out.mono ?_
                rintro e w3 ⟨rfl, h5, hb3⟩
                have H5 := Lib.hid h5
                have HW3 := Lib.hid (HW1.out.trans hb3)
                clear h5 hb3 C2
                go_wp2
                go_roundg (s.size - (a + 1))
                case measure => omega
                case rel => exact ⟨a + 1, a + 1, _, rfl, by omega, Nat.le_refl _, by go_num, by go_num, HP, Lib.hid (by
                  have h := H5.out
                  rw [← HU.out] at h
                  simpa [Lib.byteCells] using h), HW3⟩
            · have HK := Lib.hid (HR.out.keep hkl (by rw [HGC.out]; exact h3))
              clear h3
              go_wp2
              go_roundg (s.size - (k + 1))
              case measure => omega
              case rel => exact ⟨a, k + 1, C, rfl, by omega, by omega, rfl, by go_num, HK, HB1, HW1⟩
            · have HK := Lib.hid (HR.out.keep hkl (by rw [HGC.out]; exact h3))
              clear h3
              go_wp2
              go_roundg (s.size - (k + 1))
              case measure => omega
              case rel => exact ⟨a, k + 1, C, rfl, by omega, by omega, rfl, by go_num, HK, HB1, HW1⟩
          · obtain rfl : k = s.size := by omega
            have hR := HR.out
            rw [← HZ.out] at hR
            have HD := Lib.hid hR.done
            have hCl : C.length = a := HR.out.2.2.1
            have hsz := HW1.out.size
            clear hR
            by_cases hpk : a < s.size
            · have hsx : (s.extract a s.size).data.toList = s.data.toList.drop a := by rw [Lib.extract_data, List.take_of_length_le (by simp)]
              have C1 := Lib.hid (writeString w.heap.size w.heap.size (Lib.byteCells C) (s.extract a s.size) wr HB1.out (by rw [Lib.byteCells_length, hCl, Lib.size_eq, hsx, List.length_drop, HZ.out]; omega) hsz)
              have HX := Lib.hid hsx
              clear hCl hsx
              go_wp2_with fail
              refine C1.out.mono ?_
              rintro e w2 ⟨rfl, h4, hb2⟩
              have C2 := Lib.hid (Tryd.Builder_String_any w.heap.size w.heap.size (s.data.toList.map Lib.upperB) w2 (by
                rw [strCells_eq', HX.out] at h4
                rw [← HD.out]
                simpa [Lib.byteCells] using h4) (by have := hb2.size; omega))
              have HW2 := Lib.hid (HW1.out.trans hb2)
              clear h4 hb2 C1
              go_wp2_with fail
              refine C2.out.mono ?_
              rintro e w3 ⟨rfl, hb3⟩
              go_wp2
              go_ret
              exact ⟨rfl, HW2.out.trans hb3⟩
            · have hd : s.data.toList.map Lib.upperB = C := by rw [← HD.out, List.drop_of_length_le (by rw [HZ.out]; omega), List.append_nil]
              have HE := Lib.hid hd
              have C2 := Lib.hid (Tryd.Builder_String_any w.heap.size w.heap.size C wr HB1.out hsz)
              clear hCl hd
              go_wp2_with fail
              refine C2.out.mono ?_
              rintro e w3 ⟨rfl, hb3⟩
              go_wp2
              go_ret
              exact ⟨by rw [HE.out]; rfl, HW1.out.trans hb3⟩
end Go.Proofs.YtgabemlehmhgpaaDoor
