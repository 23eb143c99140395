/- The walk of strings.ToUpper on texts of bytes below 128. -/
import Derived.Test.YtcffbeihgchpgaaGreatDoorS11
import Derived.Lib.Case
import Derived.Deep.LoopGhost
import Derived.Deep.DeepCutAuto
import Derived.Test.YtcffbeihgchpgaaGreatDoorS4
import Derived.Lib.ItoaNum
import Derived.Below
import Derived.Test.YtcffbeihgchpgaaGreatDoorS10
import Derived.Laws.BytesArg
namespace Go.Proofs.YtcffbeihgchpgaaGreatDoor
open Go.RowKit
set_option linter.unusedSimpArgs false
set_option linter.unusedVariables false
/-- so far: C is written, the bytes from p on to k are as they were -/
def UpRel (l : List UInt8) (p k : Nat) (C : List UInt8) : Prop := p ≤ k ∧ k ≤ l.length ∧ C.length = p ∧ C ++ (l.drop p).take (k - p) = (l.take k).map Lib.upperB
theorem UpRel.start (l : List UInt8) : UpRel l 0 0 [] := ⟨Nat.le_refl _, Nat.zero_le _, rfl, by simp⟩
theorem UpRel.keep {l : List UInt8} {p k : Nat} {C : List UInt8} (h : UpRel l p k C) (hk : k < l.length) (hn : Lib.upperB l[k] = l[k]) : UpRel l p (k + 1) C := by
  obtain ⟨h1, h2, h3, h4⟩ := h
  refine ⟨by omega, by omega, h3, ?_⟩
  rw [List.take_succ_eq_append_getElem hk, List.map_append, ← h4, List.map_cons, hn, List.map_nil, List.append_assoc, show k + 1 - p = (k - p) + 1 from by omega]
  rw [List.take_succ_eq_append_getElem (by simp; omega)]
  congr 3
  simp [show p + (k - p) = k from by omega]
theorem UpRel.put {l : List UInt8} {p k : Nat} {C : List UInt8} (h : UpRel l p k C) (hk : k < l.length) : UpRel l (k + 1) (k + 1) (C ++ (l.drop p).take (k - p) ++ [Lib.upperB l[k]]) := by
  obtain ⟨h1, h2, h3, h4⟩ := h
  refine ⟨Nat.le_refl _, by omega, ?_, ?_⟩
  · rw [h4]; simp; omega
  · rw [Nat.sub_self, List.take_zero, List.append_nil, h4, List.take_succ_eq_append_getElem hk, List.map_append]; rfl
theorem UpRel.done {l : List UInt8} {p : Nat} {C : List UInt8} (h : UpRel l p l.length C) : C ++ l.drop p = l.map Lib.upperB := by
  obtain ⟨h1, h2, h3, h4⟩ := h
  rw [List.take_length] at h4
  rw [← h4, List.take_of_length_le (by simp)]
theorem lower_cases_up (c : UInt8) : (97 ≤ (c.toNat : Int) ∧ (c.toNat : Int) ≤ 122 ∧ Lib.isLowerB c = true ∧ ((Lib.upperB c).toNat : Int) = (c.toNat : Int) - 32) ∨ ((c.toNat : Int) < 97 ∧ Lib.isLowerB c = false ∧ Lib.upperB c = c) ∨ (122 < (c.toNat : Int) ∧ 97 ≤ (c.toNat : Int) ∧ Lib.isLowerB c = false ∧ Lib.upperB c = c) := by
  have e := Lib.isLowerB_int c
  by_cases h1 : 97 ≤ (c.toNat : Int)
  · by_cases h2 : (c.toNat : Int) ≤ 122
    · have h3 : Lib.isLowerB c = true := by rw [e]; simp [h1, h2]
      exact .inl ⟨h1, h2, h3, Lib.upperB_int c h3⟩
    · have h3 : Lib.isLowerB c = false := by rw [e]; simp [h2]
      exact .inr (.inr ⟨by omega, h1, h3, Lib.upperB_of_not c h3⟩)
  · have h3 : Lib.isLowerB c = false := by rw [e]; simp [h1]
    exact .inr (.inl ⟨by omega, h3, Lib.upperB_of_not c h3⟩)
theorem strCells_eq' (s : ByteArray) : Lib.strCells s = Lib.byteCells s.data.toList := rfl
set_option maxHeartbeats 8000000 in
set_option maxRecDepth 100000 in
theorem upper_any (s : ByteArray) (w : World) (hs : s.size ≤ 1000000) (ha : ∀ c ∈ s.data.toList, c.toNat < 128) :
    Calls Tryz.prog 188 #[.string s] w fun e w' => e = .returned (.string ⟨(s.data.toList.map Lib.upperB).toArray⟩) ∧ Below w.heap.size w w' := by
  have HA := Lib.hid ha
  have HZ := Lib.hid (show s.data.toList.length = s.size from Array.length_toList)
  clear ha
  go_enter Tryz.func188, Tryz.ntmps188
  go_wp2
  go_loop [3, 4, 5] (fun a h i => ∃ (k : Nat) (H : Bool), k ≤ s.size ∧ a = .bool true ∧ h = .bool H ∧ i = .int .i64 k ∧ Hid (H = (s.data.toList.take k).any Lib.isLowerB)) (fun _ _ i => s.size - (intOf i).toNat)
  case atStart => exact ⟨0, false, Nat.zero_le _, rfl, rfl, rfl, rfl⟩
  case round =>
    obtain ⟨k, H, hk, rfl, rfl, rfl, HH⟩ := hrel
    by_cases hlt : k < s.size
    · obtain ⟨c, hc⟩ : ∃ c, s[k] = c := ⟨_, rfl⟩
      have hb : s.data.toList[k]? = some c := by rw [Array.getElem?_toList, ← hc]; exact Array.getElem?_eq_getElem hlt
      have h128 : (c.toNat : Int) < 128 := by have := HA.out c (List.mem_of_getElem? hb); omega
      have hn := Lib.any_take_succ Lib.isLowerB _ _ _ hb
      rw [← HH.out] at hn
      have HN := Lib.hid hn
      clear hn hb
      rcases lower_cases_up c with ⟨h1, h2, h3, _⟩ | ⟨h1, h3, _⟩ | ⟨h1, h2, h3, _⟩
      all_goals
        rw [h3] at HN
        clear h3
        cases H
        all_goals
          go_wp2
          go_round
          case rel => exact ⟨k + 1, _, by omega, rfl, rfl, by go_num, by rw [Hid, HN.out]; first | rfl | (simp; done) | (simp; omega)⟩
          case measure => simp [intOf]; omega
    · obtain rfl : k = s.size := by omega
      have hall : s.data.toList.take s.size = s.data.toList := by rw [← HZ.out, List.take_length]
      rw [hall] at HH
      clear hall
      cases H
      · have HE := Lib.hid (Lib.map_of_none Lib.upperB Lib.isLowerB Lib.upperB_of_not s.data.toList HH.out.symm)
        clear HH
        go_wp2
        go_ret
        exact ⟨by rw [HE.out, Lib.mk_data]; rfl, Below.refl _ _⟩
      · clear HH
        have G := Lib.hid (Grow_fresh w.heap.size w.heap.size s.size (w.alloc (.cells #[.pointer none, .slice none 0 0] BT)) (Nat.le_refl _) (heap_alloc_new w _) (by simp) (by omega))
        go_wp2_with fail
        refine G.out.mono ?_
        rintro e w1 ⟨rfl, h1, hb1⟩
        have HB := Lib.hid (show Lib.IsBuilder BT U8 w.heap.size w.heap.size (Lib.byteCells []) w1 from .inr h1)
        have HW := Lib.hid (((Below.refl w.heap.size w).alloc (Nat.le_refl _) _).trans hb1)
        clear h1 hb1 G
        go_wp2
        go_loopg [8, 9] s.size (fun g p i wr => ∃ (a k : Nat) (C : List UInt8), g = s.size - k ∧ k ≤ s.size ∧ a ≤ k ∧ p = .int .i64 a ∧ i = .int .i64 k ∧ Hid (UpRel s.data.toList a k C) ∧ Hid (Lib.IsBuilder BT U8 w.heap.size w.heap.size (Lib.byteCells C) wr) ∧ Hid (Below w.heap.size w wr))
        case atStart => exact ⟨0, 0, [], rfl, Nat.zero_le _, Nat.le_refl _, rfl, rfl, UpRel.start _, HB, HW⟩
        case round =>
          obtain ⟨a, k, C, rfl, hk, hak, rfl, rfl, HR, HB1, HW1⟩ := hrel
          by_cases hlt : k < s.size
          · obtain ⟨c, hc⟩ : ∃ c, s[k] = c := ⟨_, rfl⟩
            have hkl : k < s.data.toList.length := by rw [HZ.out]; exact hlt
            have hg : s.data.toList[k] = c := by rw [← hc]; rfl
            have HGC := Lib.hid hg
            clear hg
            rcases lower_cases_up c with ⟨h1, h2, _, h3⟩ | ⟨h1, _, h3⟩ | ⟨h1, h2, _, h3⟩
            · have HP := Lib.hid (HR.out.put hkl)
              rw [HGC.out] at HP
              have HU := Lib.hid h3
              clear h3
              have hCl : C.length = a := HR.out.2.2.1
              have hsz := HW1.out.size
              have c32 : 0 ≤ (c.toNat : Int) - 32 := by omega
              by_cases hpk : a < k
              · have C1 := Lib.hid (writeString w.heap.size w.heap.size (Lib.byteCells C) (s.extract a k) wr HB1.out (by rw [Lib.byteCells_length, hCl, Lib.size_eq, Lib.extract_data, List.length_take, List.length_drop, HZ.out]; omega) hsz)
                clear hCl
                go_wp2_with fail
                refine C1.out.mono ?_
                rintro e w2 ⟨rfl, h4, hb2⟩
                have C2 := Lib.hid (writeByte w.heap.size w.heap.size _ ((c.toNat : Int) - 32) w2 h4 (by
                  have hCl : C.length = a := HR.out.2.2.1
                  rw [List.length_append, Lib.byteCells_length, hCl, Lib.strCells_length, Lib.size_eq, Lib.extract_data, List.length_take, List.length_drop, HZ.out]; omega) (by have := hb2.size; omega))
                have HW2 := Lib.hid (HW1.out.trans hb2)
                clear h4 hb2 C1
                go_wp2_with fail
                refine C2.out.mono ?_
                rintro e w3 ⟨rfl, h5, hb3⟩
                have H5 := Lib.hid h5
                have HW3 := Lib.hid (HW2.out.trans hb3)
                clear h5 hb3 C2
                go_wp2
                go_roundg (s.size - (k + 1))
                case measure => omega
                case rel => exact ⟨k + 1, k + 1, _, rfl, by omega, Nat.le_refl _, by go_num, by go_num, HP, Lib.hid (by
                  have h := H5.out
                  rw [← HU.out, strCells_eq', Lib.extract_data] at h
                  simpa [Lib.byteCells] using h), HW3⟩
              · obtain rfl : a = k := by omega
                have C2 := Lib.hid (writeByte w.heap.size w.heap.size _ ((c.toNat : Int) - 32) wr HB1.out (by rw [Lib.byteCells_length]; omega) hsz)
                clear hCl
                go_wp2_with fail
                refine C2.out.mono ?_
                rintro e w3 ⟨rfl, h5, hb3⟩
                have H5 := Lib.hid h5
                have HW3 := Lib.hid (HW1.out.trans hb3)
                clear h5 hb3 C2
                go_wp2
                go_roundg (s.size - (a + 1))
                case measure => omega
                case rel => exact ⟨a + 1, a + 1, _, rfl, by omega, Nat.le_refl _, by go_num, by go_num, HP, Lib.hid (by
                  have h := H5.out
                  rw [← HU.out] at h
                  simpa [Lib.byteCells] using h), HW3⟩
            · have HK := Lib.hid (HR.out.keep hkl (by rw [HGC.out]; exact h3))
              clear h3
              go_wp2
              go_roundg (s.size - (k + 1))
              case measure => omega
              case rel => exact ⟨a, k + 1, C, rfl, by omega, by omega, rfl, by go_num, HK, HB1, HW1⟩
            · have HK := Lib.hid (HR.out.keep hkl (by rw [HGC.out]; exact h3))
              clear h3
              go_wp2
              go_roundg (s.size - (k + 1))
              case measure => omega
              case rel => exact ⟨a, k + 1, C, rfl, by omega, by omega, rfl, by go_num, HK, HB1, HW1⟩
          · obtain rfl : k = s.size := by omega
            have hR := HR.out
            rw [← HZ.out] at hR
            have HD := Lib.hid hR.done
            have hCl : C.length = a := HR.out.2.2.1
            have hsz := HW1.out.size
            clear hR
            by_cases hpk : a < s.size
            · have hsx : (s.extract a s.size).data.toList = s.data.toList.drop a := by rw [Lib.extract_data, List.take_of_length_le (by simp)]
              have C1 := Lib.hid (writeString w.heap.size w.heap.size (Lib.byteCells C) (s.extract a s.size) wr HB1.out (by rw [Lib.byteCells_length, hCl, Lib.size_eq, hsx, List.length_drop, HZ.out]; omega) hsz)
              have HX := Lib.hid hsx
              clear hCl hsx
              go_wp2_with fail
              refine C1.out.mono ?_
              rintro e w2 ⟨rfl, h4, hb2⟩
              have C2 := Lib.hid (Tryz.Builder_String_any w.heap.size w.heap.size (s.data.toList.map Lib.upperB) w2 (by
                rw [strCells_eq', HX.out] at h4
                rw [← HD.out]
                simpa [Lib.byteCells] using h4) (by have := hb2.size; omega))
              have HW2 := Lib.hid (HW1.out.trans hb2)
              clear h4 hb2 C1
              go_wp2_with fail
              refine C2.out.mono ?_
              rintro e w3 ⟨rfl, hb3⟩
              go_wp2
              go_ret
              exact ⟨rfl, HW2.out.trans hb3⟩
            · have hd : s.data.toList.map Lib.upperB = C := by rw [← HD.out, List.drop_of_length_le (by rw [HZ.out]; omega), List.append_nil]
              have HE := Lib.hid hd
              have C2 := Lib.hid (Tryz.Builder_String_any w.heap.size w.heap.size C wr HB1.out hsz)
              clear hCl hd
              go_wp2_with fail
              refine C2.out.mono ?_
              rintro e w3 ⟨rfl, hb3⟩
              go_wp2
              go_ret
              exact ⟨by rw [HE.out]; rfl, HW1.out.trans hb3⟩
end Go.Proofs.YtcffbeihgchpgaaGreatDoor
/- The walks of strconv.FormatInt in every base, and of digits.Put. -/
namespace Go.Proofs.YtcffbeihgchpgaaGreatDoor
open Go.RowKit
set_option linter.unusedSimpArgs false
set_option linter.unusedVariables false
/-- the table of powers of ten, as the row lists it -/
def Tens (w : World) : Prop := Lib.TabIs Tryz.prog w "internal/strconv.uint64pow10" .u64 Lib.pow10Tab
theorem grow_below' {B : Nat} (w : World) (h : B ≤ w.heap.size) (k : Nat) (os : Array Obj) : Below B w (Go.Sort.grow (w.drewN k) os) := by
  refine ⟨rfl, rfl, rfl, ?_, ?_⟩
  · show w.heap.size ≤ (w.heap ++ os).size
    simp
  · intro j hj
    show (w.heap ++ os)[j]? = w.heap[j]?
    rw [Array.getElem?_append_left (by omega)]
set_option maxHeartbeats 1000000 in
theorem inner_other (v : Int) (b : Nat) (h2 : 2 ≤ b) (h36 : b ≤ 36) (h10 : ((b : Int) == 10) = false) (v0 : -9223372036854775808 ≤ v) (v1 : v ≤ 9223372036854775807) (w : World) (hw : Zeros w) :
    Calls Tryz.prog 205 #[.int .i64 v, .int .i64 b] w fun e w' => e = .returned (txt (Dig.putV Dig.loD v b)) ∧ Below w.heap.size w w' := by
  by_cases hn : v < 0
  · obtain ⟨U, rfl⟩ : ∃ U : Nat, v = -(U : Int) := ⟨v.natAbs, by omega⟩
    have hU : (-(U : Int)).natAbs = U := by omega
    have HP := Lib.hid (show Dig.putV Dig.loD (-(U : Int)) b = sg true ++ Dig.digs Dig.loD b U from by unfold Dig.putV Dig.sgn; rw [if_pos hn, hU]; rfl)
    have F := Lib.hid (format_any U b true (IntKind.u64.wrap (-(U : Int))) (.inr ⟨rfl, neg_u64 (by omega)⟩) h2 h36 h10 (by omega) w hw)
    clear hU hw
    go_enter Tryz.func205, Tryz.ntmps205
    go_wp2_with fail
    rw [show decide (0 < U) = true from by rw [decide_eq_true_eq]; omega]
    refine F.out.mono ?_
    rintro e w1 ⟨rfl, hb⟩
    go_wp2
    go_ret
    exact ⟨by rw [HP.out]; rfl, hb⟩
  · obtain ⟨U, rfl⟩ : ∃ U : Nat, v = (U : Int) := ⟨v.natAbs, by omega⟩
    have hU : (U : Int).natAbs = U := by omega
    have HP := Lib.hid (show Dig.putV Dig.loD (U : Int) b = sg false ++ Dig.digs Dig.loD b U from by unfold Dig.putV Dig.sgn; rw [if_neg hn, hU]; rfl)
    have F := Lib.hid (format_any U b false U (.inl ⟨rfl, rfl⟩) h2 h36 h10 (by omega) w hw)
    clear hU hw
    go_enter Tryz.func205, Tryz.ntmps205
    go_wp2_with fail
    refine F.out.mono ?_
    rintro e w1 ⟨rfl, hb⟩
    go_wp2
    go_ret
    exact ⟨by rw [HP.out]; rfl, hb⟩
theorem inner_any (v : Int) (b : Nat) (h2 : 2 ≤ b) (h36 : b ≤ 36) (v0 : -9223372036854775808 ≤ v) (v1 : v ≤ 9223372036854775807) (w : World) (hw : Zeros w) (ht : Tens w) :
    Calls Tryz.prog 205 #[.int .i64 v, .int .i64 b] w fun e w' => e = .returned (txt (Dig.putV Dig.loD v b)) ∧ Below w.heap.size w w' := by
  by_cases h : b = 10
  · subst h
    have h := (Tryz.internal_strconv_FormatInt_10 v v0 v1 w ht).mono fun e w' ⟨h1, k, os, h2⟩ => (⟨h1, h2 ▸ grow_below' w (Nat.le_refl _) k os⟩ : e = Ending.returned (.string ⟨(Lib.itoa v).toArray⟩) ∧ Below w.heap.size w w')
    rw [Dig.itoa_put (Dig.abs_lt v0 v1)] at h
    exact h
  · exact inner_other v b h2 h36 (by rw [beq_eq_false_iff_ne]; omega) v0 v1 w hw
theorem format_int (v : Int) (b : Nat) (h2 : 2 ≤ b) (h36 : b ≤ 36) (v0 : -9223372036854775808 ≤ v) (v1 : v ≤ 9223372036854775807) (w : World) (hw : Zeros w) (ht : Tens w) :
    Calls Tryz.prog 189 #[.int .i64 v, .int .i64 b] w fun e w' => e = .returned (txt (Dig.putV Dig.loD v b)) ∧ Below w.heap.size w w' := by
  have F := Lib.hid (inner_any v b h2 h36 v0 v1 w hw ht)
  clear hw ht
  go_enter Tryz.func189, Tryz.ntmps189
  go_wp2_with fail
  refine F.out.mono ?_
  rintro e w1 ⟨rfl, hb⟩
  go_wp2
  go_ret
  exact ⟨rfl, hb⟩
theorem put_right (v : Int) (b : Nat) (h2 : 2 ≤ b) (h36 : b ≤ 36) (v0 : -9223372036854775808 ≤ v) (v1 : v ≤ 9223372036854775807) (w : World) (hw : Zeros w) (ht : Tens w) :
    Calls Tryz.prog 178 #[.int .i64 v, .int .i64 b] w fun e w' => e = .returned (txt (Dig.putV Dig.upD v b)) ∧ Below w.heap.size w w' := by
  have F := Lib.hid (format_int v b h2 h36 v0 v1 w hw ht)
  have R := Lib.hid (right_yes b (by simp [Dig.rightB]; omega))
  have hl := Dig.put_length Dig.loD v b (by omega) (Dig.abs_lt v0 v1)
  have T := fun w1 : World => Lib.hid (upper_any ⟨(Dig.putV Dig.loD v b).toArray⟩ w1 (by show (Dig.putV Dig.loD v b).toArray.size ≤ 1000000; simp; omega) (Dig.put_ascii v b (by omega) (by omega)))
  have HU := Lib.hid (Dig.put_upper v b (by omega) (by omega))
  clear hw ht hl
  go_enter Tryz.func178, Tryz.ntmps178
  go_wp2_with (go_at_call 187; refine (R.out _).mono ?_; rintro e w' ⟨rfl, rfl⟩)
  refine F.out.mono ?_
  rintro e w1 ⟨rfl, hb⟩
  go_wp2_with fail
  refine (T _).out.mono ?_
  rintro e w2 ⟨rfl, hb2⟩
  go_wp2
  go_ret
  exact ⟨congrArg (fun x => Ending.returned (txt x)) HU.out, hb.trans (hb2.mono hb.size)⟩
theorem put_wrong (v b : Int) (hb : Dig.rightB b = false) (w : World) :
    Calls Tryz.prog 178 #[.int .i64 v, .int .i64 b] w fun e w' => e = .returned (txt []) ∧ Below w.heap.size w w' := by
  have R := Lib.hid (right_no b hb)
  clear hb
  go_enter Tryz.func178, Tryz.ntmps178
  go_wp2_with (go_at_call 187; refine (R.out _).mono ?_; rintro e w' ⟨rfl, rfl⟩)
  go_ret
  exact ⟨rfl, Below.refl _ _⟩
theorem put_any (v b : Int) (v0 : -9223372036854775808 ≤ v) (v1 : v ≤ 9223372036854775807) (w : World) (hw : Zeros w) (ht : Tens w) :
    Calls Tryz.prog 178 #[.int .i64 v, .int .i64 b] w fun e w' => e = .returned (txt (putT v b)) ∧ Below w.heap.size w w' := by
  unfold putT
  cases hb : Dig.rightB b with
  | false => exact put_wrong v b hb w
  | true =>
    simp only [Dig.rightB, Bool.and_eq_true, decide_eq_true_eq] at hb
    obtain ⟨n, rfl⟩ := Int.eq_ofNat_of_zero_le (show 0 ≤ b by omega)
    exact put_right v n (by omega) (by omega) v0 v1 w hw ht
theorem tab_mono {w w' : World} {name : String} {k : IntKind} {zs : List Int} {g : Nat} (hg : Tryz.prog.globalNamed name = some g) (h : Lib.TabIs Tryz.prog w name k zs) (hb : Below w.heap.size w w') : Lib.TabIs Tryz.prog w' name k zs := by
  unfold Lib.TabIs World.var? at *
  rw [hg, Option.bind_some] at h ⊢
  have hl : g < w.heap.size := by
    rcases Nat.lt_or_ge g w.heap.size with h0 | h0
    · exact h0
    · rw [Array.getElem?_eq_none h0] at h; cases h
  rw [hb.block _ hl]; exact h
theorem Tryz.gt : Tryz.prog.globalNamed "internal/strconv.uint64pow10" = some 3 := by kernel_rfl
theorem Zeros.mono {w w' : World} (h : Zeros w) (hb : Below w.heap.size w w') : Zeros w' := tab_mono Tryz.gz h hb
theorem Tens.mono {w w' : World} (h : Tens w) (hb : Below w.heap.size w w') : Tens w' := tab_mono Tryz.gt h hb
end Go.Proofs.YtcffbeihgchpgaaGreatDoor
/- The texts of codes (P202), in plain lists of bytes, no program: two codes have one text only if they are one code. -/
namespace Go.Proofs.YtcffbeihgchpgaaGreatDoor
theorem nDigits_le : ∀ (k u : Nat), u < 10 ^ (k + 1) → Lib.nDigits u ≤ k + 1
  | 0, u, h => by rw [Lib.nDigits_small (by simpa using h)]; exact Nat.le_refl _
  | k + 1, u, h => by
    by_cases h10 : u < 10
    · rw [Lib.nDigits_small h10]; omega
    · rw [Lib.nDigits_big h10]
      have := nDigits_le k (u / 10) (by rw [Nat.pow_succ] at h; omega)
      omega
theorem itoa_len {c : Int} (h0 : -9223372036854775808 ≤ c) (h1 : c ≤ 9223372036854775807) : (Lib.itoa c).length ≤ 20 := by
  have h19 : ∀ u : Nat, u ≤ 9223372036854775808 → (Lib.decDigits u).length ≤ 19 := fun u hu => by
    rw [Lib.decDigits_length]; exact nDigits_le 18 u (by omega)
  unfold Lib.itoa
  split
  · have := h19 c.natAbs (by omega); simp; omega
  · have := h19 c.toNat (by omega); omega
end Go.Proofs.YtcffbeihgchpgaaGreatDoor
/- Package inner: bytes and numbers are told. -/
namespace Go.Proofs.YtcffbeihgchpgaaGreatDoor.Inn
open Go.RowKit Book Mem Mach
set_option linter.unusedVariables false
set_option linter.unusedSimpArgs false
/-- a new row of one byte; it as a text -/
theorem byte_box (w : World) (x : Int) : ∃ w1 g, w.alloc (.cells #[.int .u8 x] 5) = w1 ∧ w.heap.size = g ∧ (convert 77 9 (.slice (some ⟨g, 0, none⟩) 1 1)).run Tryz.prog w1 = .ok (.string ⟨#[UInt8.ofNat x.toNat]⟩) w1 ∧ Hid (Below w.heap.size w w1) := by
  refine ⟨_, _, rfl, rfl, ?_, (Below.refl w.heap.size w).alloc (Nat.le_refl _) _⟩
  have e := run_convert_bytes_arg (P := Tryz.prog) (w.alloc (.cells #[.int .u8 x] 5)) 77 5 Tryz.underlying77 Tryz.underlying5 w.heap.size 0 1 1 [x] rfl
    (fun i hi => by obtain rfl : i = 0 := by omega
                    exact whole_cell (heap_alloc_new w _) rfl) 9 Tryz.underlying9
  exact e
theorem put_up' {v : Int} (hv : v.natAbs < 18446744073709551616) : Lib.itoa v = Dig.putV Dig.upD v 10 := by
  unfold Lib.itoa Dig.putV Dig.sgn
  rw [show (10 : Int).toNat = 10 from rfl, ← Dig.dec_digs Dig.upD (fun d h => by unfold Dig.upD; rw [if_pos h]) _ hv]
  split
  · rfl
  · rw [List.nil_append, show v.toNat = v.natAbs from by omega]
theorem put_dot {p : Int} (ip : Cell.In p) : putT p 10 = Lib.itoa p := by
  unfold Cell.In at ip
  rw [put_up' (by omega)]
  rfl
section
variable {w : World} {B q ps gs pb gb pf : Nat} {vC vH : Value} {ch : List Int} {vs vb vm : Value} {m : M} {xb : Nat} {g at' nx : Int} {gt gk : Nat} {x y z p : Int}
set_option maxHeartbeats 8000000 in
set_option maxRecDepth 100000 in
theorem say_byte (h : Pre w B q ps gs pb gb pf vC vH ch vs vb vm m xb 41 g at' nx gt gk [p] []) (hB : B ≤ w.heap.size) (ip : Cell.In p) (H : m.out.size + 1 ≤ 2000) : Calls Tryz.prog 164 #[.pointer (some ⟨q, 0, none⟩), .pointer (some ⟨xb, 0, none⟩)] w (DoOk w B q (feet q ps gs pb gb pf vC vH) xb 41 g at' (rowV gt 1) (rowV gk 0) { m with out := m.out ++ ⟨#[UInt8.ofNat (p % 256).toNat]⟩ } [] [] nx .nilIface) := by
  have HP := Lib.hid h
  have HB := Lib.hid hB
  obtain ⟨c0, c1, c2, c3, c4, c5, c6, c7⟩ := h.x.cells
  obtain ⟨f4, f5, f7⟩ := h.x.free
  obtain ⟨m0, m1, m5, m6, m7, m8, m9⟩ := h.mc.cells
  obtain ⟨n1, n2, n3⟩ := h.mc.ptrs
  have k0 := h.x.st (j := 0) (x := p) rfl
  obtain ⟨w1, gl, hw1, hgl, hcv, HB1⟩ := byte_box w (p % 256)
  obtain ⟨m0', m1', m5', m6', m7', m8', m9'⟩ := (h.mc.below HB1.out).cells
  have f5' : w1.frozen? ⟨q, 5, none⟩ = false := whole_frozen (h.mc.below HB1.out).box 5
  obtain ⟨c0', c1', c2', c3', c4', c5', c6', c7'⟩ := (h.x.below HB1.out).cells
  obtain ⟨no, hno⟩ : ∃ n, m.out.size = n := ⟨_, rfl⟩
  rw [hno] at H
  have H1 : decide (2000 < (no : Int) + 1) = false := decide_eq_false (by omega)
  clear h hB
  go_enter Tryz.func164, Tryz.ntmps164
  go_wp2
  go_ret
  have HP := Lib.hid ((HP.out.below HB1.out).set 5 (.string (m.out ++ ⟨#[UInt8.ofNat (p % 256).toNat]⟩)) { m with out := m.out ++ ⟨#[UInt8.ofNat (p % 256).toNat]⟩ } rfl rfl rfl rfl)
  exact ok_none HP.out.mc.mach HP.out.x.box (stir_more ((Stirred.of_below HB1.out _).trans (stir_q w1 5 (.string (m.out ++ ⟨#[UInt8.ofNat (p % 256).toNat]⟩))) (fun f hf => .inl hf))) (fun f hf => .inl hf)
set_option maxHeartbeats 8000000 in
set_option maxRecDepth 100000 in
theorem say_full (h : Pre w B q ps gs pb gb pf vC vH ch vs vb vm m xb 41 g at' nx gt gk [p] []) (hB : B ≤ w.heap.size) (ip : Cell.In p) (H : 2000 < m.out.size + 1) (hz : m.out.size ≤ 2000) : Calls Tryz.prog 164 #[.pointer (some ⟨q, 0, none⟩), .pointer (some ⟨xb, 0, none⟩)] w (DoErr w B q (feet q ps gs pb gb pf vC vH) xb m (-57) at') := by
  have HP := Lib.hid h
  have HB := Lib.hid hB
  obtain ⟨c0, c1, c2, c3, c4, c5, c6, c7⟩ := h.x.cells
  obtain ⟨f4, f5, f7⟩ := h.x.free
  obtain ⟨m0, m1, m5, m6, m7, m8, m9⟩ := h.mc.cells
  obtain ⟨n1, n2, n3⟩ := h.mc.ptrs
  have k0 := h.x.st (j := 0) (x := p) rfl
  obtain ⟨w1, gl, hw1, hgl, hcv, HB1⟩ := byte_box w (p % 256)
  obtain ⟨m0', m1', m5', m6', m7', m8', m9'⟩ := (h.mc.below HB1.out).cells
  have f5' : w1.frozen? ⟨q, 5, none⟩ = false := whole_frozen (h.mc.below HB1.out).box 5
  obtain ⟨c0', c1', c2', c3', c4', c5', c6', c7'⟩ := (h.x.below HB1.out).cells
  have C := Lib.hid (xfault_some (h.below HB1.out).x.box (-57) (by decide))
  obtain ⟨no, hno⟩ : ∃ n, m.out.size = n := ⟨_, rfl⟩
  rw [hno] at H hz
  clear h hB
  go_enter Tryz.func164, Tryz.ntmps164
  go_wp2_with (go_at_call 150; refine C.out.mono ?_; rintro e wz ⟨rfl, hwz⟩; subst wz)
  go_ret
  exact DoErr.of_x HP.out.mc.mach HP.out.nx ⟨rfl, Stirred.of_below HB1.out _⟩
set_option maxHeartbeats 8000000 in
set_option maxRecDepth 100000 in
theorem say_num (h : Pre w B q ps gs pb gb pf vC vH ch vs vb vm m xb 42 g at' nx gt gk [p] []) (hB : B ≤ w.heap.size) (hZ : Zeros w) (hT : Tens w) (ip : Cell.In p) (H : m.out.size + ((Lib.itoa p).length + 1) ≤ 2000) : Calls Tryz.prog 164 #[.pointer (some ⟨q, 0, none⟩), .pointer (some ⟨xb, 0, none⟩)] w (DoOk w B q (feet q ps gs pb gb pf vC vH) xb 42 g at' (rowV gt 1) (rowV gk 0) { m with out := m.out ++ (⟨(Lib.itoa p).toArray⟩ ++ ⟨#[32]⟩) } [] [] nx .nilIface) := by
  have HP := Lib.hid h
  have HB := Lib.hid hB
  obtain ⟨c0, c1, c2, c3, c4, c5, c6, c7⟩ := h.x.cells
  obtain ⟨f4, f5, f7⟩ := h.x.free
  obtain ⟨m0, m1, m5, m6, m7, m8, m9⟩ := h.mc.cells
  obtain ⟨n1, n2, n3⟩ := h.mc.ptrs
  have k0 := h.x.st (j := 0) (x := p) rfl
  obtain ⟨w1, gl, hw1, hgl, hcv, HB1⟩ := byte_box w (p % 256)
  obtain ⟨m0', m1', m5', m6', m7', m8', m9'⟩ := (h.mc.below HB1.out).cells
  have f5' : w1.frozen? ⟨q, 5, none⟩ = false := whole_frozen (h.mc.below HB1.out).box 5
  obtain ⟨c0', c1', c2', c3', c4', c5', c6', c7'⟩ := (h.x.below HB1.out).cells
  have P := Lib.hid (put_any p 10 ip.1 ip.2 w1 (hZ.mono HB1.out) (hT.mono HB1.out))
  rw [put_dot ip] at P
  have hlen := itoa_len ip.1 ip.2
  have hsz : (⟨(Lib.itoa p).toArray⟩ : ByteArray).size = (Lib.itoa p).length := by simp [ByteArray.size]
  generalize Lib.itoa p = tl at *
  obtain ⟨tb, htb⟩ : ∃ tb : ByteArray, ⟨tl.toArray⟩ = tb := ⟨_, rfl⟩
  have HTB := Lib.hid htb
  simp only [txt] at P
  rw [htb] at P hsz
  rw [← hsz] at H hlen
  obtain ⟨nt, hnt⟩ : ∃ n, tb.size = n := ⟨_, rfl⟩
  obtain ⟨no, hno⟩ : ∃ n, m.out.size = n := ⟨_, rfl⟩
  rw [hno, hnt] at H
  rw [hnt] at hlen
  clear h hB hZ hT hsz htb
  go_enter Tryz.func164, Tryz.ntmps164
  go_wp2_with fail
  refine P.out.mono ?_
  rintro e w2 ⟨rfl, hb⟩
  have HB2 := Lib.hid (HB1.out.trans (hb.mono HB1.out.size))
  clear hb m0' m1' m5' m6' m7' m8' m9' f5' c0' c1' c2' c3' c4' c5' c6' c7' hcv P
  obtain ⟨m0', m1', m5', m6', m7', m8', m9'⟩ := (HP.out.mc.below HB2.out).cells
  have f5' : w2.frozen? ⟨q, 5, none⟩ = false := whole_frozen (HP.out.mc.below HB2.out).box 5
  obtain ⟨c0', c1', c2', c3', c4', c5', c6', c7'⟩ := (HP.out.x.below HB2.out).cells
  have H1 : decide (2000 < (no : Int) + ((nt : Int) + 1)) = false := decide_eq_false (by omega)
  go_wp2
  go_ret
  have HP := Lib.hid ((HP.out.below HB2.out).set 5 (.string (m.out ++ (tb ++ ⟨#[32]⟩))) { m with out := m.out ++ (tb ++ ⟨#[32]⟩) } rfl rfl rfl rfl)
  rw [HTB.out]
  exact ok_none HP.out.mc.mach HP.out.x.box (stir_more ((Stirred.of_below HB2.out _).trans (stir_q w2 5 (.string (m.out ++ (tb ++ ⟨#[32]⟩)))) (fun f hf => .inl hf))) (fun f hf => .inl hf)
set_option maxHeartbeats 8000000 in
set_option maxRecDepth 100000 in
theorem say_much (h : Pre w B q ps gs pb gb pf vC vH ch vs vb vm m xb 42 g at' nx gt gk [p] []) (hB : B ≤ w.heap.size) (hZ : Zeros w) (hT : Tens w) (ip : Cell.In p) (H : 2000 < m.out.size + ((Lib.itoa p).length + 1)) (hz : m.out.size ≤ 2000) : Calls Tryz.prog 164 #[.pointer (some ⟨q, 0, none⟩), .pointer (some ⟨xb, 0, none⟩)] w (DoErr w B q (feet q ps gs pb gb pf vC vH) xb m (-57) at') := by
  have HP := Lib.hid h
  have HB := Lib.hid hB
  obtain ⟨c0, c1, c2, c3, c4, c5, c6, c7⟩ := h.x.cells
  obtain ⟨f4, f5, f7⟩ := h.x.free
  obtain ⟨m0, m1, m5, m6, m7, m8, m9⟩ := h.mc.cells
  obtain ⟨n1, n2, n3⟩ := h.mc.ptrs
  have k0 := h.x.st (j := 0) (x := p) rfl
  obtain ⟨w1, gl, hw1, hgl, hcv, HB1⟩ := byte_box w (p % 256)
  obtain ⟨m0', m1', m5', m6', m7', m8', m9'⟩ := (h.mc.below HB1.out).cells
  have f5' : w1.frozen? ⟨q, 5, none⟩ = false := whole_frozen (h.mc.below HB1.out).box 5
  obtain ⟨c0', c1', c2', c3', c4', c5', c6', c7'⟩ := (h.x.below HB1.out).cells
  have P := Lib.hid (put_any p 10 ip.1 ip.2 w1 (hZ.mono HB1.out) (hT.mono HB1.out))
  rw [put_dot ip] at P
  have hlen := itoa_len ip.1 ip.2
  have hsz : (⟨(Lib.itoa p).toArray⟩ : ByteArray).size = (Lib.itoa p).length := by simp [ByteArray.size]
  generalize Lib.itoa p = tl at *
  obtain ⟨tb, htb⟩ : ∃ tb : ByteArray, ⟨tl.toArray⟩ = tb := ⟨_, rfl⟩
  have HTB := Lib.hid htb
  simp only [txt] at P
  rw [htb] at P hsz
  rw [← hsz] at H hlen
  obtain ⟨nt, hnt⟩ : ∃ n, tb.size = n := ⟨_, rfl⟩
  obtain ⟨no, hno⟩ : ∃ n, m.out.size = n := ⟨_, rfl⟩
  rw [hno, hnt] at H
  rw [hnt] at hlen
  rw [hno] at hz
  clear h hB hZ hT hsz htb
  go_enter Tryz.func164, Tryz.ntmps164
  go_wp2_with fail
  refine P.out.mono ?_
  rintro e w2 ⟨rfl, hb⟩
  have HB2 := Lib.hid (HB1.out.trans (hb.mono HB1.out.size))
  clear hb m0' m1' m5' m6' m7' m8' m9' f5' c0' c1' c2' c3' c4' c5' c6' c7' hcv P
  obtain ⟨m0', m1', m5', m6', m7', m8', m9'⟩ := (HP.out.mc.below HB2.out).cells
  have f5' : w2.frozen? ⟨q, 5, none⟩ = false := whole_frozen (HP.out.mc.below HB2.out).box 5
  obtain ⟨c0', c1', c2', c3', c4', c5', c6', c7'⟩ := (HP.out.x.below HB2.out).cells
  have H1 : decide (2000 < (no : Int) + ((nt : Int) + 1)) = true := decide_eq_true (by omega)
  have C := Lib.hid (xfault_some (HP.out.below HB2.out).x.box (-57) (by decide))
  go_wp2_with (go_at_call 150; refine C.out.mono ?_; rintro e wz ⟨rfl, hwz⟩; subst wz)
  go_ret
  exact DoErr.of_x HP.out.mc.mach HP.out.nx ⟨rfl, Stirred.of_below HB2.out _⟩
end
end Go.Proofs.YtcffbeihgchpgaaGreatDoor.Inn
/- Package inner: the memory is asked, or changed. -/
namespace Go.Proofs.YtcffbeihgchpgaaGreatDoor.Inn
open Go.RowKit Book Mem Mach
set_option linter.unusedVariables false
set_option linter.unusedSimpArgs false
section
variable {w : World} {B q ps gs pb gb pf : Nat} {vC vH : Value} {ch : List Int} {vs vb vm : Value} {m : M} {xb : Nat} {g at' nx : Int} {gt gk : Nat} {x y z p : Int}
set_option maxHeartbeats 8000000 in
set_option maxRecDepth 100000 in
theorem rem_fetch_no (h : Pre w B q ps gs pb gb pf vC vH ch vs vb vm m xb 30 g at' nx gt gk [p] []) (hB : B ≤ w.heap.size) (H : ¬ (0 ≤ p ∧ p < (m.mem.length : Int))) : Calls Tryz.prog 163 #[.pointer (some ⟨q, 0, none⟩), .pointer (some ⟨xb, 0, none⟩)] w (DoErr w B q (feet q ps gs pb gb pf vC vH) xb m (-9) at') := by
  have HP := Lib.hid h
  have HB := Lib.hid hB
  obtain ⟨c0, c1, c2, c3, c4, c5, c6, c7⟩ := h.x.cells
  obtain ⟨f4, f5, f7⟩ := h.x.free
  obtain ⟨m0, m1, m5, m6, m7, m8, m9⟩ := h.mc.cells
  obtain ⟨n1, n2, n3⟩ := h.mc.ptrs
  have k0 := h.x.st (j := 0) (x := p) rfl
  have c2z : w.cell? ⟨xb, 2, none⟩ = some (rowV gt 1) := c2
  have LD := Lib.hid (fun n => Fld.load_no (h.drewN n).mc.me p H)
  have C := Lib.hid (fun n => xfault_some (h.drewN n).x.box (-9) (by decide))
  clear h hB H
  go_enter Tryz.func163, Tryz.ntmps163
  go_wp2_with fail
  go_quiet (fail)
  have HS := Lib.hid (stir_drewN w nq (feet q ps gs pb gb pf vC vH))
  have HP := Lib.hid (HP.out.drewN nq)
  go_wp2_with (first
    | (go_at_call 133; refine (LD.out _).mono ?_; rintro e wz ⟨rfl, hwz⟩; subst wz)
    | (go_at_call 150; refine (C.out _).mono ?_; rintro e wz ⟨rfl, hwz⟩; subst wz))
  go_ret
  exact ⟨_, rfl, HP.out.mc.mach, stir_more HS.out, fun f hf => .inl hf⟩
set_option maxHeartbeats 8000000 in
set_option maxRecDepth 100000 in
theorem rem_store_no (h : Pre w B q ps gs pb gb pf vC vH ch vs vb vm m xb 31 g at' nx gt gk [y, p] []) (hB : B ≤ w.heap.size) (H : ¬ (0 ≤ p ∧ p < (m.mem.length : Int))) : Calls Tryz.prog 163 #[.pointer (some ⟨q, 0, none⟩), .pointer (some ⟨xb, 0, none⟩)] w (DoErr w B q (feet q ps gs pb gb pf vC vH) xb m (-9) at') := by
  have HP := Lib.hid h
  have HB := Lib.hid hB
  obtain ⟨c0, c1, c2, c3, c4, c5, c6, c7⟩ := h.x.cells
  obtain ⟨f4, f5, f7⟩ := h.x.free
  obtain ⟨m0, m1, m5, m6, m7, m8, m9⟩ := h.mc.cells
  obtain ⟨n1, n2, n3⟩ := h.mc.ptrs
  have k0 := h.x.st (j := 0) (x := y) rfl
  have k1 := h.x.st (j := 1) (x := p) rfl
  have c2z : w.cell? ⟨xb, 2, none⟩ = some (rowV gt 2) := c2
  have LD := Lib.hid (fun n => Fld.load_no (h.drewN n).mc.me p H)
  have C := Lib.hid (fun n => xfault_some (h.drewN n).x.box (-9) (by decide))
  clear h hB H
  go_enter Tryz.func163, Tryz.ntmps163
  go_wp2_with fail
  go_quiet (fail)
  have HS := Lib.hid (stir_drewN w nq (feet q ps gs pb gb pf vC vH))
  have HP := Lib.hid (HP.out.drewN nq)
  go_wp2_with (first
    | (go_at_call 133; refine (LD.out _).mono ?_; rintro e wz ⟨rfl, hwz⟩; subst wz)
    | (go_at_call 150; refine (C.out _).mono ?_; rintro e wz ⟨rfl, hwz⟩; subst wz))
  go_ret
  exact ⟨_, rfl, HP.out.mc.mach, stir_more HS.out, fun f hf => .inl hf⟩
set_option maxHeartbeats 8000000 in
set_option maxRecDepth 100000 in
theorem rem_addTo_no (h : Pre w B q ps gs pb gb pf vC vH ch vs vb vm m xb 32 g at' nx gt gk [y, p] []) (hB : B ≤ w.heap.size) (H : ¬ (0 ≤ p ∧ p < (m.mem.length : Int))) : Calls Tryz.prog 163 #[.pointer (some ⟨q, 0, none⟩), .pointer (some ⟨xb, 0, none⟩)] w (DoErr w B q (feet q ps gs pb gb pf vC vH) xb m (-9) at') := by
  have HP := Lib.hid h
  have HB := Lib.hid hB
  obtain ⟨c0, c1, c2, c3, c4, c5, c6, c7⟩ := h.x.cells
  obtain ⟨f4, f5, f7⟩ := h.x.free
  obtain ⟨m0, m1, m5, m6, m7, m8, m9⟩ := h.mc.cells
  obtain ⟨n1, n2, n3⟩ := h.mc.ptrs
  have k0 := h.x.st (j := 0) (x := y) rfl
  have k1 := h.x.st (j := 1) (x := p) rfl
  have c2z : w.cell? ⟨xb, 2, none⟩ = some (rowV gt 2) := c2
  have LD := Lib.hid (fun n => Fld.load_no (h.drewN n).mc.me p H)
  have C := Lib.hid (fun n => xfault_some (h.drewN n).x.box (-9) (by decide))
  clear h hB H
  go_enter Tryz.func163, Tryz.ntmps163
  go_wp2_with fail
  go_quiet (fail)
  have HS := Lib.hid (stir_drewN w nq (feet q ps gs pb gb pf vC vH))
  have HP := Lib.hid (HP.out.drewN nq)
  go_wp2_with (first
    | (go_at_call 133; refine (LD.out _).mono ?_; rintro e wz ⟨rfl, hwz⟩; subst wz)
    | (go_at_call 150; refine (C.out _).mono ?_; rintro e wz ⟨rfl, hwz⟩; subst wz))
  go_ret
  exact ⟨_, rfl, HP.out.mc.mach, stir_more HS.out, fun f hf => .inl hf⟩
set_option maxHeartbeats 8000000 in
set_option maxRecDepth 100000 in
theorem rem_fetch (h : Pre w B q ps gs pb gb pf vC vH ch vs vb vm m xb 30 g at' nx gt gk [p] []) (hB : B ≤ w.heap.size) (j : Nat) (hp : p = (j : Int)) (hx : m.mem[j]? = some x) : Calls Tryz.prog 163 #[.pointer (some ⟨q, 0, none⟩), .pointer (some ⟨xb, 0, none⟩)] w (DoOk w B q (feet q ps gs pb gb pf vC vH) xb 30 g at' (rowV gt 1) (rowV gk 0) m [x] [] nx .nilIface) := by
  subst hp
  have HP := Lib.hid h
  have HB := Lib.hid hB
  obtain ⟨c0, c1, c2, c3, c4, c5, c6, c7⟩ := h.x.cells
  obtain ⟨f4, f5, f7⟩ := h.x.free
  obtain ⟨m0, m1, m5, m6, m7, m8, m9⟩ := h.mc.cells
  obtain ⟨n1, n2, n3⟩ := h.mc.ptrs
  have k0 := h.x.st (j := 0) (x := (j : Int)) rfl
  have c2z : w.cell? ⟨xb, 2, none⟩ = some (rowV gt 1) := c2
  have LD := Lib.hid (fun n => Fld.load_yes (h.drewN n).mc.me j x hx)
  clear h hB hx
  go_enter Tryz.func163, Tryz.ntmps163
  go_wp2_with fail
  go_quiet (fail)
  have HS := Lib.hid (stir_drewN w nq (feet q ps gs pb gb pf vC vH))
  have HP := Lib.hid (HP.out.drewN nq)
  obtain ⟨w1, gl, hw1, hgl, HRW, HB1, HG⟩ := row_box (w.drewN nq) [x]
  change (w.drewN nq).alloc (.cells #[.int .i64 x] 3) = w1 at hw1
  change w.heap.size = gl at hgl
  have HX1 := Lib.hid (HP.out.x.below HB1.out)
  have c4' := HX1.out.cells.2.2.2.2.1
  have f4' := HX1.out.free.1
  go_wp2_with (go_at_call 133; refine (LD.out _).mono ?_; rintro e wz ⟨rfl, hwz⟩; subst wz)
  go_ret
  exact ok_row4 HP.out.mc.mach HP.out.x.box HP.out.nx (stir_more HS.out) (fun f hf => .inl hf) HRW.out HB1.out HG.out
set_option maxHeartbeats 8000000 in
set_option maxRecDepth 100000 in
theorem rem_store (h : Pre w B q ps gs pb gb pf vC vH ch vs vb vm m xb 31 g at' nx gt gk [y, p] []) (hB : B ≤ w.heap.size) (j : Nat) (hp : p = (j : Int)) (hx : m.mem[j]? = some x) : Calls Tryz.prog 163 #[.pointer (some ⟨q, 0, none⟩), .pointer (some ⟨xb, 0, none⟩)] w (DoOk w B q (feet q ps gs pb gb pf vC vH) xb 31 g at' (rowV gt 2) (rowV gk 0) { m with mem := m.mem.set j y } [] [] nx .nilIface) := by
  subst hp
  have HP := Lib.hid h
  have HB := Lib.hid hB
  obtain ⟨c0, c1, c2, c3, c4, c5, c6, c7⟩ := h.x.cells
  obtain ⟨f4, f5, f7⟩ := h.x.free
  obtain ⟨m0, m1, m5, m6, m7, m8, m9⟩ := h.mc.cells
  obtain ⟨n1, n2, n3⟩ := h.mc.ptrs
  have k0 := h.x.st (j := 0) (x := y) rfl
  have k1 := h.x.st (j := 1) (x := (j : Int)) rfl
  have c2z : w.cell? ⟨xb, 2, none⟩ = some (rowV gt 2) := c2
  have LD := Lib.hid (fun n => Fld.load_yes (h.drewN n).mc.me j x hx)
  have SD := Lib.hid (fun n => Fld.store_yes (h.drewN n).mc.me (show B ≤ (w.drewN n).heap.size from hB) j y (List.getElem?_eq_some_iff.1 hx).1)
  clear h hB hx
  go_enter Tryz.func163, Tryz.ntmps163
  go_wp2_with fail
  go_quiet (fail)
  have HS := Lib.hid (stir_drewN w nq (feet q ps gs pb gb pf vC vH))
  have HP := Lib.hid (HP.out.drewN nq)
  go_wp2_with (first
    | (go_at_call 133; refine (LD.out _).mono ?_; rintro e wz ⟨rfl, hwz⟩; subst wz)
    | (go_at_call 177; refine (SD.out _).mono ?_; rintro e w2 ⟨vH', rfl, hF, hT, hN⟩; have HFD := Lib.hid (HP.out.mc.meDid hF hT hN); have HTT := Lib.hid (hT.more (feet_me (q := q) (ps := ps) (gs := gs) (pb := pb) (gb := gb))); clear hF hT hN))
  go_ret
  exact ok_none HFD.out.1.mach (HTT.out.whole HP.out.x.box HP.out.nx) (stir_more (HS.out.trans HTT.out (fun f hf => .inl hf))) HFD.out.2
set_option maxHeartbeats 8000000 in
set_option maxRecDepth 100000 in
theorem rem_addTo (h : Pre w B q ps gs pb gb pf vC vH ch vs vb vm m xb 32 g at' nx gt gk [y, p] []) (hB : B ≤ w.heap.size) (j : Nat) (hp : p = (j : Int)) (hx : m.mem[j]? = some x) : Calls Tryz.prog 163 #[.pointer (some ⟨q, 0, none⟩), .pointer (some ⟨xb, 0, none⟩)] w (DoOk w B q (feet q ps gs pb gb pf vC vH) xb 32 g at' (rowV gt 2) (rowV gk 0) { m with mem := m.mem.set j (wrap64 (y + x)) } [] [] nx .nilIface) := by
  subst hp
  have HP := Lib.hid h
  have HB := Lib.hid hB
  obtain ⟨c0, c1, c2, c3, c4, c5, c6, c7⟩ := h.x.cells
  obtain ⟨f4, f5, f7⟩ := h.x.free
  obtain ⟨m0, m1, m5, m6, m7, m8, m9⟩ := h.mc.cells
  obtain ⟨n1, n2, n3⟩ := h.mc.ptrs
  have k0 := h.x.st (j := 0) (x := y) rfl
  have k1 := h.x.st (j := 1) (x := (j : Int)) rfl
  have c2z : w.cell? ⟨xb, 2, none⟩ = some (rowV gt 2) := c2
  have LD := Lib.hid (fun n => Fld.load_yes (h.drewN n).mc.me j x hx)
  have SD := Lib.hid (fun n => Fld.store_yes (h.drewN n).mc.me (show B ≤ (w.drewN n).heap.size from hB) j (wrap64 (y + x)) (List.getElem?_eq_some_iff.1 hx).1)
  clear h hB hx
  go_enter Tryz.func163, Tryz.ntmps163
  go_wp2_with fail
  go_quiet (fail)
  have HS := Lib.hid (stir_drewN w nq (feet q ps gs pb gb pf vC vH))
  have HP := Lib.hid (HP.out.drewN nq)
  go_wp2_with (first
    | (go_at_call 133; refine (LD.out _).mono ?_; rintro e wz ⟨rfl, hwz⟩; subst wz)
    | (go_at_call 177; refine (SD.out _).mono ?_; rintro e w2 ⟨vH', rfl, hF, hT, hN⟩; have HFD := Lib.hid (HP.out.mc.meDid hF hT hN); have HTT := Lib.hid (hT.more (feet_me (q := q) (ps := ps) (gs := gs) (pb := pb) (gb := gb))); clear hF hT hN))
  go_ret
  exact ok_none HFD.out.1.mach (HTT.out.whole HP.out.x.box HP.out.nx) (stir_more (HS.out.trans HTT.out (fun f hf => .inl hf))) HFD.out.2
end
end Go.Proofs.YtcffbeihgchpgaaGreatDoor.Inn
/- Package inner: what begins and ends words. -/
namespace Go.Proofs.YtcffbeihgchpgaaGreatDoor.Inn
open Go.RowKit Book Mem Mach
set_option linter.unusedVariables false
set_option linter.unusedSimpArgs false
section
variable {w : World} {B q ps gs pb gb pf : Nat} {vC vH : Value} {ch : List Int} {vs vb vm : Value} {m : M} {xb : Nat} {g at' nx : Int} {gt gk : Nat} {x y z p : Int}
set_option maxHeartbeats 8000000 in
set_option maxRecDepth 100000 in
theorem ctl_halt (h : Pre w B q ps gs pb gb pf vC vH ch vs vb vm m xb 0 g at' nx gt gk [] []) (hB : B ≤ w.heap.size)  : Calls Tryz.prog 162 #[.pointer (some ⟨q, 0, none⟩), .pointer (some ⟨xb, 0, none⟩)] w (DoOk w B q (feet q ps gs pb gb pf vC vH) xb 0 g at' (rowV gt 0) (rowV gk 0) { m with status := 1 } [] [] at' .nilIface) := by
  have HP := Lib.hid h
  have HB := Lib.hid hB
  obtain ⟨c0, c1, c2, c3, c4, c5, c6, c7⟩ := h.x.cells
  obtain ⟨f4, f5, f7⟩ := h.x.free
  obtain ⟨m0, m1, m5, m6, m7, m8, m9⟩ := h.mc.cells
  obtain ⟨n1, n2, n3⟩ := h.mc.ptrs
  have f8 : w.frozen? ⟨q, 8, none⟩ = false := whole_frozen h.mc.box 8
  have HP1 := Lib.hid (h.set 8 (.int .i64 1) { m with status := 1 } rfl rfl rfl rfl)
  have hqx := h.qx
  have HR := Lib.hid ((set8 HP1.out.x.box).1 at')
  clear h hB
  go_enter Tryz.func162, Tryz.ntmps162
  go_wp2
  go_ret
  have h7 := Stirred.setCell (w.setCell ⟨q, 8, none⟩ (.int .i64 1)) ⟨xb, 7, none⟩ (.int .i64 at')
  exact ok_none (HP1.out.mc.touch h7 (fun f hf hm => HP1.out.nx (by rw [List.mem_singleton] at hm; exact (show f = xb from hm) ▸ hf))).mach HR.out ((stir_more (stir_q w 8 (.int .i64 1))).trans h7 (fun f hf => .inl (by rw [List.mem_singleton.1 hf]; exact List.mem_cons_self))) (fun f hf => .inl hf)
set_option maxHeartbeats 8000000 in
set_option maxRecDepth 100000 in
theorem ctl_exec_low (h : Pre w B q ps gs pb gb pf vC vH ch vs vb vm m xb 44 g at' nx gt gk [p] []) (hB : B ≤ w.heap.size) (H : p < 64) : Calls Tryz.prog 162 #[.pointer (some ⟨q, 0, none⟩), .pointer (some ⟨xb, 0, none⟩)] w (DoErr w B q (feet q ps gs pb gb pf vC vH) xb m (-13) at') := by
  have HP := Lib.hid h
  have HB := Lib.hid hB
  obtain ⟨c0, c1, c2, c3, c4, c5, c6, c7⟩ := h.x.cells
  obtain ⟨f4, f5, f7⟩ := h.x.free
  obtain ⟨m0, m1, m5, m6, m7, m8, m9⟩ := h.mc.cells
  obtain ⟨n1, n2, n3⟩ := h.mc.ptrs
  have k0 := h.x.st (j := 0) (x := p) rfl
  have C := Lib.hid (fun n => xfault_some (h.drewN n).x.box (-13) (by decide))
  have C0 := Lib.hid (xfault_some h.x.box (-13) (by decide))
  clear h hB
  go_enter Tryz.func162, Tryz.ntmps162
  go_wp2_with (go_at_call 150; refine C0.out.mono ?_; rintro e wz ⟨rfl, hwz⟩; subst wz)
  go_ret
  exact DoErr.of_x HP.out.mc.mach HP.out.nx ⟨rfl, Stirred.refl _ _⟩
set_option maxHeartbeats 8000000 in
set_option maxRecDepth 100000 in
theorem ctl_exec_high (h : Pre w B q ps gs pb gb pf vC vH ch vs vb vm m xb 44 g at' nx gt gk [p] []) (hB : B ≤ w.heap.size) (H0 : 64 ≤ p) (H : (m.mem.length : Int) ≤ p) : Calls Tryz.prog 162 #[.pointer (some ⟨q, 0, none⟩), .pointer (some ⟨xb, 0, none⟩)] w (DoErr w B q (feet q ps gs pb gb pf vC vH) xb m (-13) at') := by
  have HP := Lib.hid h
  have HB := Lib.hid hB
  obtain ⟨c0, c1, c2, c3, c4, c5, c6, c7⟩ := h.x.cells
  obtain ⟨f4, f5, f7⟩ := h.x.free
  obtain ⟨m0, m1, m5, m6, m7, m8, m9⟩ := h.mc.cells
  obtain ⟨n1, n2, n3⟩ := h.mc.ptrs
  have k0 := h.x.st (j := 0) (x := p) rfl
  have C0 := Lib.hid (xfault_some h.x.box (-13) (by decide))
  have L := Lib.hid (Fld.len_any h.mc.me)
  have hlen := h.mc.me.len
  obtain ⟨nm, hnm⟩ : ∃ n, m.mem.length = n := ⟨_, rfl⟩
  rw [hnm] at L hlen H
  clear hnm h hB
  go_enter Tryz.func162, Tryz.ntmps162
  go_wp2_with (first
    | (go_at_call 158; refine L.out.mono ?_; rintro e wz ⟨rfl, hwz⟩; subst wz)
    | (go_at_call 150; refine C0.out.mono ?_; rintro e wz ⟨rfl, hwz⟩; subst wz))
  go_ret
  exact DoErr.of_x HP.out.mc.mach HP.out.nx ⟨rfl, Stirred.refl _ _⟩
set_option maxHeartbeats 8000000 in
set_option maxRecDepth 100000 in
theorem ctl_exec (h : Pre w B q ps gs pb gb pf vC vH ch vs vb vm m xb 44 g at' nx gt gk [p] []) (hB : B ≤ w.heap.size) (H0 : 64 ≤ p) (H : p < (m.mem.length : Int)) : Calls Tryz.prog 162 #[.pointer (some ⟨q, 0, none⟩), .pointer (some ⟨xb, 0, none⟩)] w (DoOk w B q (feet q ps gs pb gb pf vC vH) xb 44 g at' (rowV gt 1) (rowV gk 0) m [] [nx] p .nilIface) := by
  have HP := Lib.hid h
  have HB := Lib.hid hB
  obtain ⟨c0, c1, c2, c3, c4, c5, c6, c7⟩ := h.x.cells
  obtain ⟨f4, f5, f7⟩ := h.x.free
  obtain ⟨m0, m1, m5, m6, m7, m8, m9⟩ := h.mc.cells
  obtain ⟨n1, n2, n3⟩ := h.mc.ptrs
  have k0 := h.x.st (j := 0) (x := p) rfl
  have L := Lib.hid (Fld.len_any h.mc.me)
  have hlen := h.mc.me.len
  obtain ⟨nm, hnm⟩ : ∃ n, m.mem.length = n := ⟨_, rfl⟩
  rw [hnm] at L hlen H
  clear hnm h hB
  obtain ⟨w1, gl, hw1, hgl, HRW, HB1, HG⟩ := row_box w [nx]
  change w.alloc (.cells #[.int .i64 nx] 3) = w1 at hw1
  have HX1 := Lib.hid (HP.out.x.below HB1.out)
  have c5' := HX1.out.cells.2.2.2.2.2.1
  have c7' := HX1.out.cells.2.2.2.2.2.2.2
  have f5' := HX1.out.free.2.1
  have f7' := HX1.out.free.2.2
  go_enter Tryz.func162, Tryz.ntmps162
  go_wp2_with (go_at_call 158; refine L.out.mono ?_; rintro e wz ⟨rfl, hwz⟩; subst wz)
  go_ret
  exact ok_row57 HP.out.mc.mach HP.out.x.box HP.out.nx (Stirred.refl _ _) (fun f hf => .inl hf) HRW.out HB1.out HG.out
end
end Go.Proofs.YtcffbeihgchpgaaGreatDoor.Inn
