/- The walk of strings.ToUpper on texts of bytes below 128. -/
import Derived.Test.YtlomfmilohbgpaaGreatDoorBuilderGrow
import Derived.Lib.Case
import Derived.Deep.LoopGhost
import Derived.Deep.DeepCutAuto
import Derived.Test.YtlomfmilohbgpaaGreatDoorK1
import Derived.Lib.ItoaNum
import Derived.Below
import Derived.Laws.BytesArg
import Derived.Deep.RegionHeld3
import Derived.Test.YtlomfmilohbgpaaGreatDoorMach
namespace Go.Proofs.YtlomfmilohbgpaaGreatDoor
open Go.RowKit
set_option linter.unusedSimpArgs false
set_option linter.unusedVariables false
/-- so far: C is written, the bytes from p on to k are as they were -/
def UpRel (l : List UInt8) (p k : Nat) (C : List UInt8) : Prop := p ≤ k ∧ k ≤ l.length ∧ C.length = p ∧ C ++ (l.drop p).take (k - p) = (l.take k).map Lib.upperB
theorem UpRel.start (l : List UInt8) : UpRel l 0 0 [] := ⟨Nat.le_refl _, Nat.zero_le _, rfl, by simp⟩
theorem UpRel.keep {l : List UInt8} {p k : Nat} {C : List UInt8} (h : UpRel l p k C) (hk : k < l.length) (hn : Lib.upperB l[k] = l[k]) : UpRel l p (k + 1) C := by
  obtain ⟨h1, h2, h3, h4⟩ := h
  refine ⟨by omega, by omega, h3, ?_⟩
  rw [List.take_succ_eq_append_getElem hk, List.map_append, ← h4, List.map_cons, hn, List.map_nil, List.append_assoc, show k + 1 - p = (k - p) + 1 from by omega]
  rw [List.take_succ_eq_append_getElem (by simp; omega)]
  congr 3
  simp [show p + (k - p) = k from by omega]
theorem UpRel.put {l : List UInt8} {p k : Nat} {C : List UInt8} (h : UpRel l p k C) (hk : k < l.length) : UpRel l (k + 1) (k + 1) (C ++ (l.drop p).take (k - p) ++ [Lib.upperB l[k]]) := by
  obtain ⟨h1, h2, h3, h4⟩ := h
  refine ⟨Nat.le_refl _, by omega, ?_, ?_⟩
  · rw [h4]; simp; omega
  · rw [Nat.sub_self, List.take_zero, List.append_nil, h4, List.take_succ_eq_append_getElem hk, List.map_append]; rfl
theorem UpRel.done {l : List UInt8} {p : Nat} {C : List UInt8} (h : UpRel l p l.length C) : C ++ l.drop p = l.map Lib.upperB := by
  obtain ⟨h1, h2, h3, h4⟩ := h
  rw [List.take_length] at h4
  rw [← h4, List.take_of_length_le (by simp)]
theorem lower_cases_up (c : UInt8) : (97 ≤ (c.toNat : Int) ∧ (c.toNat : Int) ≤ 122 ∧ Lib.isLowerB c = true ∧ ((Lib.upperB c).toNat : Int) = (c.toNat : Int) - 32) ∨ ((c.toNat : Int) < 97 ∧ Lib.isLowerB c = false ∧ Lib.upperB c = c) ∨ (122 < (c.toNat : Int) ∧ 97 ≤ (c.toNat : Int) ∧ Lib.isLowerB c = false ∧ Lib.upperB c = c) := by
  have e := Lib.isLowerB_int c
  by_cases h1 : 97 ≤ (c.toNat : Int)
  · by_cases h2 : (c.toNat : Int) ≤ 122
    · have h3 : Lib.isLowerB c = true := by rw [e]; simp [h1, h2]
      exact .inl ⟨h1, h2, h3, Lib.upperB_int c h3⟩
    · have h3 : Lib.isLowerB c = false := by rw [e]; simp [h2]
      exact .inr (.inr ⟨by omega, h1, h3, Lib.upperB_of_not c h3⟩)
  · have h3 : Lib.isLowerB c = false := by rw [e]; simp [h1]
    exact .inr (.inl ⟨by omega, h3, Lib.upperB_of_not c h3⟩)
theorem strCells_eq' (s : ByteArray) : Lib.strCells s = Lib.byteCells s.data.toList := rfl
set_option maxHeartbeats 8000000 in
set_option maxRecDepth 100000 in
theorem upper_any (s : ByteArray) (w : World) (hs : s.size ≤ 1000000) (ha : ∀ c ∈ s.data.toList, c.toNat < 128) :
    Calls Tryz.prog 114 #[.string s] w fun e w' => e = .returned (.string ⟨(s.data.toList.map Lib.upperB).toArray⟩) ∧ Below w.heap.size w w' := by
  have HA := Lib.hid ha
  have HZ := Lib.hid (show s.data.toList.length = s.size from Array.length_toList)
  clear ha
  go_enter Tryz.func114, Tryz.ntmps114
  go_wp2
  go_loop [3, 4, 5] (fun a h i => ∃ (k : Nat) (H : Bool), k ≤ s.size ∧ a = .bool true ∧ h = .bool H ∧ i = .int .i64 k ∧ Hid (H = (s.data.toList.take k).any Lib.isLowerB)) (fun _ _ i => s.size - (intOf i).toNat)
  case atStart => exact ⟨0, false, Nat.zero_le _, rfl, rfl, rfl, rfl⟩
  case round =>
    obtain ⟨k, H, hk, rfl, rfl, rfl, HH⟩ := hrel
    by_cases hlt : k < s.size
    · obtain ⟨c, hc⟩ : ∃ c, s[k] = c := ⟨_, rfl⟩
      have hb : s.data.toList[k]? = some c := by rw [Array.getElem?_toList, ← hc]; exact Array.getElem?_eq_getElem hlt
      have h128 : (c.toNat : Int) < 128 := by have := HA.out c (List.mem_of_getElem? hb); omega
      have hn := Lib.any_take_succ Lib.isLowerB _ _ _ hb
      rw [← HH.out] at hn
      have HN := Lib.hid hn
      clear hn hb
      rcases lower_cases_up c with ⟨h1, h2, h3, _⟩ | ⟨h1, h3, _⟩ | ⟨h1, h2, h3, _⟩
      all_goals
        rw [h3] at HN
        clear h3
        cases H
        all_goals
          go_wp2
          go_round
          case rel => exact ⟨k + 1, _, by omega, rfl, rfl, by go_num, by rw [Hid, HN.out]; first | rfl | (simp; done) | (simp; omega)⟩
          case measure => simp [intOf]; omega
    · obtain rfl : k = s.size := by omega
      have hall : s.data.toList.take s.size = s.data.toList := by rw [← HZ.out, List.take_length]
      rw [hall] at HH
      clear hall
      cases H
      · have HE := Lib.hid (Lib.map_of_none Lib.upperB Lib.isLowerB Lib.upperB_of_not s.data.toList HH.out.symm)
        clear HH
        go_wp2
        go_ret
        exact ⟨by rw [HE.out, Lib.mk_data]; rfl, Below.refl _ _⟩
      · clear HH
        have G := Lib.hid (Grow_fresh w.heap.size w.heap.size s.size (w.alloc (.cells #[.pointer none, .slice none 0 0] BT)) (Nat.le_refl _) (heap_alloc_new w _) (by simp) (by omega))
        go_wp2_with fail
        refine G.out.mono ?_
        rintro e w1 ⟨rfl, h1, hb1⟩
        have HB := Lib.hid (show Lib.IsBuilder BT U8 w.heap.size w.heap.size (Lib.byteCells []) w1 from .inr h1)
        have HW := Lib.hid (((Below.refl w.heap.size w).alloc (Nat.le_refl _) _).trans hb1)
        clear h1 hb1 G
        go_wp2
        go_loopg [8, 9] s.size (fun g p i wr => ∃ (a k : Nat) (C : List UInt8), g = s.size - k ∧ k ≤ s.size ∧ a ≤ k ∧ p = .int .i64 a ∧ i = .int .i64 k ∧ Hid (UpRel s.data.toList a k C) ∧ Hid (Lib.IsBuilder BT U8 w.heap.size w.heap.size (Lib.byteCells C) wr) ∧ Hid (Below w.heap.size w wr))
        case atStart => exact ⟨0, 0, [], rfl, Nat.zero_le _, Nat.le_refl _, rfl, rfl, UpRel.start _, HB, HW⟩
        case round =>
          obtain ⟨a, k, C, rfl, hk, hak, rfl, rfl, HR, HB1, HW1⟩ := hrel
          by_cases hlt : k < s.size
          · obtain ⟨c, hc⟩ : ∃ c, s[k] = c := ⟨_, rfl⟩
            have hkl : k < s.data.toList.length := by rw [HZ.out]; exact hlt
            have hg : s.data.toList[k] = c := by rw [← hc]; rfl
            have HGC := Lib.hid hg
            clear hg
            rcases lower_cases_up c with ⟨h1, h2, _, h3⟩ | ⟨h1, _, h3⟩ | ⟨h1, h2, _, h3⟩
            · have HP := Lib.hid (HR.out.put hkl)
              rw [HGC.out] at HP
              have HU := Lib.hid h3
              clear h3
              have hCl : C.length = a := HR.out.2.2.1
              have hsz := HW1.out.size
              have c32 : 0 ≤ (c.toNat : Int) - 32 := by omega
              by_cases hpk : a < k
              · have C1 := Lib.hid (writeString w.heap.size w.heap.size (Lib.byteCells C) (s.extract a k) wr HB1.out (by rw [Lib.byteCells_length, hCl, Lib.size_eq, Lib.extract_data, List.length_take, List.length_drop, HZ.out]; omega) hsz)
                clear hCl
                go_wp2_with fail
                refine C1.out.mono ?_
                rintro e w2 ⟨rfl, h4, hb2⟩
                have C2 := Lib.hid (writeByte w.heap.size w.heap.size _ ((c.toNat : Int) - 32) w2 h4 (by
                  have hCl : C.length = a := HR.out.2.2.1
                  rw [List.length_append, Lib.byteCells_length, hCl, Lib.strCells_length, Lib.size_eq, Lib.extract_data, List.length_take, List.length_drop, HZ.out]; omega) (by have := hb2.size; omega))
                have HW2 := Lib.hid (HW1.out.trans hb2)
                clear h4 hb2 C1
                go_wp2_with fail
                refine C2.out.mono ?_
                rintro e w3 ⟨rfl, h5, hb3⟩
                have H5 := Lib.hid h5
                have HW3 := Lib.hid (HW2.out.trans hb3)
                clear h5 hb3 C2
                go_wp2
                go_roundg (s.size - (k + 1))
                case measure => omega
                case rel => exact ⟨k + 1, k + 1, _, rfl, by omega, Nat.le_refl _, by go_num, by go_num, HP, Lib.hid (by
                  have h := H5.out
                  rw [← HU.out, strCells_eq', Lib.extract_data] at h
                  simpa [Lib.byteCells] using h), HW3⟩
              · obtain rfl : a = k := by omega
                have C2 := Lib.hid (writeByte w.heap.size w.heap.size _ ((c.toNat : Int) - 32) wr HB1.out (by rw [Lib.byteCells_length]; omega) hsz)
                clear hCl
                go_wp2_with fail
                refine C2.out.mono ?_
                rintro e w3 ⟨rfl, h5, hb3⟩
                have H5 := Lib.hid h5
                have HW3 := Lib.hid (HW1.out.trans hb3)
                clear h5 hb3 C2
                go_wp2
                go_roundg (s.size - (a + 1))
                case measure => omega
                case rel => exact ⟨a + 1, a + 1, _, rfl, by omega, Nat.le_refl _, by go_num, by go_num, HP, Lib.hid (by
                  have h := H5.out
                  rw [← HU.out] at h
                  simpa [Lib.byteCells] using h), HW3⟩
            · have HK := Lib.hid (HR.out.keep hkl (by rw [HGC.out]; exact h3))
              clear h3
              go_wp2
              go_roundg (s.size - (k + 1))
              case measure => omega
              case rel => exact ⟨a, k + 1, C, rfl, by omega, by omega, rfl, by go_num, HK, HB1, HW1⟩
            · have HK := Lib.hid (HR.out.keep hkl (by rw [HGC.out]; exact h3))
              clear h3
              go_wp2
              go_roundg (s.size - (k + 1))
              case measure => omega
              case rel => exact ⟨a, k + 1, C, rfl, by omega, by omega, rfl, by go_num, HK, HB1, HW1⟩
          · obtain rfl : k = s.size := by omega
            have hR := HR.out
            rw [← HZ.out] at hR
            have HD := Lib.hid hR.done
            have hCl : C.length = a := HR.out.2.2.1
            have hsz := HW1.out.size
            clear hR
            by_cases hpk : a < s.size
            · have hsx : (s.extract a s.size).data.toList = s.data.toList.drop a := by rw [Lib.extract_data, List.take_of_length_le (by simp)]
              have C1 := Lib.hid (writeString w.heap.size w.heap.size (Lib.byteCells C) (s.extract a s.size) wr HB1.out (by rw [Lib.byteCells_length, hCl, Lib.size_eq, hsx, List.length_drop, HZ.out]; omega) hsz)
              have HX := Lib.hid hsx
              clear hCl hsx
              go_wp2_with fail
              refine C1.out.mono ?_
              rintro e w2 ⟨rfl, h4, hb2⟩
              have C2 := Lib.hid (Tryz.Builder_String_any w.heap.size w.heap.size (s.data.toList.map Lib.upperB) w2 (by
                rw [strCells_eq', HX.out] at h4
                rw [← HD.out]
                simpa [Lib.byteCells] using h4) (by have := hb2.size; omega))
              have HW2 := Lib.hid (HW1.out.trans hb2)
              clear h4 hb2 C1
              go_wp2_with fail
              refine C2.out.mono ?_
              rintro e w3 ⟨rfl, hb3⟩
              go_wp2
              go_ret
              exact ⟨rfl, HW2.out.trans hb3⟩
            · have hd : s.data.toList.map Lib.upperB = C := by rw [← HD.out, List.drop_of_length_le (by rw [HZ.out]; omega), List.append_nil]
              have HE := Lib.hid hd
              have C2 := Lib.hid (Tryz.Builder_String_any w.heap.size w.heap.size C wr HB1.out hsz)
              clear hCl hd
              go_wp2_with fail
              refine C2.out.mono ?_
              rintro e w3 ⟨rfl, hb3⟩
              go_wp2
              go_ret
              exact ⟨by rw [HE.out]; rfl, HW1.out.trans hb3⟩
end Go.Proofs.YtlomfmilohbgpaaGreatDoor
/- The walks of strconv.FormatInt in every base, and of digits.Put. -/
namespace Go.Proofs.YtlomfmilohbgpaaGreatDoor
open Go.RowKit
set_option linter.unusedSimpArgs false
set_option linter.unusedVariables false
/-- the table of powers of ten, as the row lists it -/
def Tens (w : World) : Prop := Lib.TabIs Tryz.prog w "internal/strconv.uint64pow10" .u64 Lib.pow10Tab
theorem grow_below' {B : Nat} (w : World) (h : B ≤ w.heap.size) (k : Nat) (os : Array Obj) : Below B w (Go.Sort.grow (w.drewN k) os) := by
  refine ⟨rfl, rfl, rfl, ?_, ?_⟩
  · show w.heap.size ≤ (w.heap ++ os).size
    simp
  · intro j hj
    show (w.heap ++ os)[j]? = w.heap[j]?
    rw [Array.getElem?_append_left (by omega)]
set_option maxHeartbeats 1000000 in
theorem inner_other (v : Int) (b : Nat) (h2 : 2 ≤ b) (h36 : b ≤ 36) (h10 : ((b : Int) == 10) = false) (v0 : -9223372036854775808 ≤ v) (v1 : v ≤ 9223372036854775807) (w : World) (hw : Zeros w) :
    Calls Tryz.prog 131 #[.int .i64 v, .int .i64 b] w fun e w' => e = .returned (txt (Dig.putV Dig.loD v b)) ∧ Below w.heap.size w w' := by
  by_cases hn : v < 0
  · obtain ⟨U, rfl⟩ : ∃ U : Nat, v = -(U : Int) := ⟨v.natAbs, by omega⟩
    have hU : (-(U : Int)).natAbs = U := by omega
    have HP := Lib.hid (show Dig.putV Dig.loD (-(U : Int)) b = sg true ++ Dig.digs Dig.loD b U from by unfold Dig.putV Dig.sgn; rw [if_pos hn, hU]; rfl)
    have F := Lib.hid (format_any U b true (IntKind.u64.wrap (-(U : Int))) (.inr ⟨rfl, neg_u64 (by omega)⟩) h2 h36 h10 (by omega) w hw)
    clear hU hw
    go_enter Tryz.func131, Tryz.ntmps131
    go_wp2_with fail
    rw [show decide (0 < U) = true from by rw [decide_eq_true_eq]; omega]
    refine F.out.mono ?_
    rintro e w1 ⟨rfl, hb⟩
    go_wp2
    go_ret
    exact ⟨by rw [HP.out]; rfl, hb⟩
  · obtain ⟨U, rfl⟩ : ∃ U : Nat, v = (U : Int) := ⟨v.natAbs, by omega⟩
    have hU : (U : Int).natAbs = U := by omega
    have HP := Lib.hid (show Dig.putV Dig.loD (U : Int) b = sg false ++ Dig.digs Dig.loD b U from by unfold Dig.putV Dig.sgn; rw [if_neg hn, hU]; rfl)
    have F := Lib.hid (format_any U b false U (.inl ⟨rfl, rfl⟩) h2 h36 h10 (by omega) w hw)
    clear hU hw
    go_enter Tryz.func131, Tryz.ntmps131
    go_wp2_with fail
    refine F.out.mono ?_
    rintro e w1 ⟨rfl, hb⟩
    go_wp2
    go_ret
    exact ⟨by rw [HP.out]; rfl, hb⟩
theorem inner_any (v : Int) (b : Nat) (h2 : 2 ≤ b) (h36 : b ≤ 36) (v0 : -9223372036854775808 ≤ v) (v1 : v ≤ 9223372036854775807) (w : World) (hw : Zeros w) (ht : Tens w) :
    Calls Tryz.prog 131 #[.int .i64 v, .int .i64 b] w fun e w' => e = .returned (txt (Dig.putV Dig.loD v b)) ∧ Below w.heap.size w w' := by
  by_cases h : b = 10
  · subst h
    have h := (Tryz.internal_strconv_FormatInt_10 v v0 v1 w ht).mono fun e w' ⟨h1, k, os, h2⟩ => (⟨h1, h2 ▸ grow_below' w (Nat.le_refl _) k os⟩ : e = Ending.returned (.string ⟨(Lib.itoa v).toArray⟩) ∧ Below w.heap.size w w')
    rw [Dig.itoa_put (Dig.abs_lt v0 v1)] at h
    exact h
  · exact inner_other v b h2 h36 (by rw [beq_eq_false_iff_ne]; omega) v0 v1 w hw
theorem format_int (v : Int) (b : Nat) (h2 : 2 ≤ b) (h36 : b ≤ 36) (v0 : -9223372036854775808 ≤ v) (v1 : v ≤ 9223372036854775807) (w : World) (hw : Zeros w) (ht : Tens w) :
    Calls Tryz.prog 115 #[.int .i64 v, .int .i64 b] w fun e w' => e = .returned (txt (Dig.putV Dig.loD v b)) ∧ Below w.heap.size w w' := by
  have F := Lib.hid (inner_any v b h2 h36 v0 v1 w hw ht)
  clear hw ht
  go_enter Tryz.func115, Tryz.ntmps115
  go_wp2_with fail
  refine F.out.mono ?_
  rintro e w1 ⟨rfl, hb⟩
  go_wp2
  go_ret
  exact ⟨rfl, hb⟩
theorem put_right (v : Int) (b : Nat) (h2 : 2 ≤ b) (h36 : b ≤ 36) (v0 : -9223372036854775808 ≤ v) (v1 : v ≤ 9223372036854775807) (w : World) (hw : Zeros w) (ht : Tens w) :
    Calls Tryz.prog 104 #[.int .i64 v, .int .i64 b] w fun e w' => e = .returned (txt (Dig.putV Dig.upD v b)) ∧ Below w.heap.size w w' := by
  have F := Lib.hid (format_int v b h2 h36 v0 v1 w hw ht)
  have R := Lib.hid (right_yes b (by simp [Dig.rightB]; omega))
  have hl := Dig.put_length Dig.loD v b (by omega) (Dig.abs_lt v0 v1)
  have T := fun w1 : World => Lib.hid (upper_any ⟨(Dig.putV Dig.loD v b).toArray⟩ w1 (by show (Dig.putV Dig.loD v b).toArray.size ≤ 1000000; simp; omega) (Dig.put_ascii v b (by omega) (by omega)))
  have HU := Lib.hid (Dig.put_upper v b (by omega) (by omega))
  clear hw ht hl
  go_enter Tryz.func104, Tryz.ntmps104
  go_wp2_with (go_at_call 113; refine (R.out _).mono ?_; rintro e w' ⟨rfl, rfl⟩)
  refine F.out.mono ?_
  rintro e w1 ⟨rfl, hb⟩
  go_wp2_with fail
  refine (T _).out.mono ?_
  rintro e w2 ⟨rfl, hb2⟩
  go_wp2
  go_ret
  exact ⟨congrArg (fun x => Ending.returned (txt x)) HU.out, hb.trans (hb2.mono hb.size)⟩
theorem put_wrong (v b : Int) (hb : Dig.rightB b = false) (w : World) :
    Calls Tryz.prog 104 #[.int .i64 v, .int .i64 b] w fun e w' => e = .returned (txt []) ∧ Below w.heap.size w w' := by
  have R := Lib.hid (right_no b hb)
  clear hb
  go_enter Tryz.func104, Tryz.ntmps104
  go_wp2_with (go_at_call 113; refine (R.out _).mono ?_; rintro e w' ⟨rfl, rfl⟩)
  go_ret
  exact ⟨rfl, Below.refl _ _⟩
theorem put_any (v b : Int) (v0 : -9223372036854775808 ≤ v) (v1 : v ≤ 9223372036854775807) (w : World) (hw : Zeros w) (ht : Tens w) :
    Calls Tryz.prog 104 #[.int .i64 v, .int .i64 b] w fun e w' => e = .returned (txt (putT v b)) ∧ Below w.heap.size w w' := by
  unfold putT
  cases hb : Dig.rightB b with
  | false => exact put_wrong v b hb w
  | true =>
    simp only [Dig.rightB, Bool.and_eq_true, decide_eq_true_eq] at hb
    obtain ⟨n, rfl⟩ := Int.eq_ofNat_of_zero_le (show 0 ≤ b by omega)
    exact put_right v n (by omega) (by omega) v0 v1 w hw ht
theorem wf_range {c : Int} (hn : (Lit.int .i64 c).wf = true) : -9223372036854775808 ≤ c ∧ c ≤ 9223372036854775807 := by
  simp only [Lit.wf, IntKind.min, IntKind.max, IntKind.signed, IntKind.bits, Bool.and_eq_true, decide_eq_true_eq, if_true] at hn
  omega
theorem byte_of {z : Int} (h : (Lit.int .u8 z).wf = true) : ∃ c : UInt8, z = (c.toNat : Int) := by
  simp only [Lit.wf, IntKind.min, IntKind.max, IntKind.signed, IntKind.bits, Bool.and_eq_true, decide_eq_true_eq, Bool.false_eq_true, if_false] at h
  refine ⟨UInt8.ofNat z.toNat, ?_⟩
  rw [UInt8.toNat_ofNat']
  omega
theorem tab_mono {w w' : World} {name : String} {k : IntKind} {zs : List Int} {g : Nat} (hg : Tryz.prog.globalNamed name = some g) (h : Lib.TabIs Tryz.prog w name k zs) (hb : Below w.heap.size w w') : Lib.TabIs Tryz.prog w' name k zs := by
  unfold Lib.TabIs World.var? at *
  rw [hg, Option.bind_some] at h ⊢
  have hl : g < w.heap.size := by
    rcases Nat.lt_or_ge g w.heap.size with h0 | h0
    · exact h0
    · rw [Array.getElem?_eq_none h0] at h; cases h
  rw [hb.block _ hl]; exact h
theorem Tryz.gt : Tryz.prog.globalNamed "internal/strconv.uint64pow10" = some 3 := by kernel_rfl
theorem Zeros.mono {w w' : World} (h : Zeros w) (hb : Below w.heap.size w w') : Zeros w' := tab_mono Tryz.gz h hb
theorem Tens.mono {w w' : World} (h : Tens w) (hb : Below w.heap.size w w') : Tens w' := tab_mono Tryz.gt h hb
end Go.Proofs.YtlomfmilohbgpaaGreatDoor
/- The texts of codes (P202), in plain lists of bytes, no program: two codes have one text only if they are one code. -/
namespace Go.Proofs.YtlomfmilohbgpaaGreatDoor
def fixedTexts : List (Int × List UInt8) := [
  (-3, [115, 116, 97, 99, 107, 32, 111, 118, 101, 114, 102, 108, 111, 119]),
  (-4, [115, 116, 97, 99, 107, 32, 117, 110, 100, 101, 114, 102, 108, 111, 119]),
  (-5, [114, 101, 116, 117, 114, 110, 32, 115, 116, 97, 99, 107, 32, 111, 118, 101, 114, 102, 108, 111, 119]),
  (-6, [114, 101, 116, 117, 114, 110, 32, 115, 116, 97, 99, 107, 32, 117, 110, 100, 101, 114, 102, 108, 111, 119]),
  (-8, [100, 105, 99, 116, 105, 111, 110, 97, 114, 121, 32, 111, 118, 101, 114, 102, 108, 111, 119]),
  (-9, [105, 110, 118, 97, 108, 105, 100, 32, 97, 100, 100, 114, 101, 115, 115]),
  (-10, [100, 105, 118, 105, 115, 105, 111, 110, 32, 98, 121, 32, 122, 101, 114, 111]),
  (-13, [117, 110, 100, 101, 102, 105, 110, 101, 100, 32, 119, 111, 114, 100]),
  (-14, [99, 111, 109, 112, 105, 108, 101, 45, 111, 110, 108, 121, 32, 119, 111, 114, 100]),
  (-16, [110, 111, 32, 110, 97, 109, 101]),
  (-22, [99, 111, 110, 116, 114, 111, 108, 32, 109, 105, 115, 109, 97, 116, 99, 104]),
  (-25, [98, 114, 111, 107, 101, 110, 32, 99, 97, 116, 99, 104]),
  (-57, [111, 117, 116, 112, 117, 116, 32, 102, 117, 108, 108])]
def throwText : List UInt8 := [116, 104, 114, 111, 119, 32]
def textOf (c : Int) : List UInt8 := match fixedTexts.lookup c with
  | some t => t
  | none => throwText ++ Lib.itoa c
def Other (c : Int) : Prop := c ≠ -3 ∧ c ≠ -4 ∧ c ≠ -5 ∧ c ≠ -6 ∧ c ≠ -8 ∧ c ≠ -9 ∧ c ≠ -10 ∧ c ≠ -13 ∧ c ≠ -14 ∧ c ≠ -16 ∧ c ≠ -22 ∧ c ≠ -25 ∧ c ≠ -57
theorem code_cases (c : Int) : c = -3 ∨ c = -4 ∨ c = -5 ∨ c = -6 ∨ c = -8 ∨ c = -9 ∨ c = -10 ∨ c = -13 ∨ c = -14 ∨ c = -16 ∨ c = -22 ∨ c = -25 ∨ c = -57 ∨ Other c := by
  unfold Other; omega
theorem lookup_other {c : Int} (h : Other c) : fixedTexts.lookup c = none := by
  obtain ⟨h1, h2, h3, h4, h5, h6, h7, h8, h9, h10, h11, h12, h13⟩ := h
  have e : ∀ {k : Int}, c ≠ k → (c == k) = false := fun h => by simpa using h
  simp [fixedTexts, List.lookup, e h1, e h2, e h3, e h4, e h5, e h6, e h7, e h8, e h9, e h10, e h11, e h12, e h13]
theorem textOf_other {c : Int} (h : Other c) : textOf c = throwText ++ Lib.itoa c := by unfold textOf; rw [lookup_other h]
theorem lookup_some {c : Int} {t : List UInt8} (h : fixedTexts.lookup c = some t) : t ∈ fixedTexts.map (·.2) ∧ (c, t) ∈ fixedTexts := by
  have : ∀ l : List (Int × List UInt8), l.lookup c = some t → (c, t) ∈ l := by
    intro l
    induction l with
    | nil => intro h; cases h
    | cons p r ih =>
      obtain ⟨k, u⟩ := p
      intro h
      rw [List.lookup_cons] at h
      by_cases hk : c == k
      · rw [hk] at h; simp at h hk; subst h; subst hk; exact List.mem_cons_self ..
      · simp at hk
        have : (c == k) = false := by simpa using hk
        rw [this] at h; exact List.mem_cons_of_mem _ (ih h)
  exact ⟨List.mem_map.2 ⟨_, this _ h, rfl⟩, this _ h⟩
theorem fixed_apart : ∀ p ∈ fixedTexts, ∀ q ∈ fixedTexts, p.2 = q.2 → p.1 = q.1 := by decide
theorem fixed_head : ∀ p ∈ fixedTexts, p.2.head? ≠ some 116 ∧ p.2 ≠ [] := by decide
theorem textOf_ne (c : Int) : textOf c ≠ [] := by
  unfold textOf
  cases h : fixedTexts.lookup c with
  | none => simp [throwText]
  | some t => exact (fixed_head _ (lookup_some h).2).2
def readDec (l : List UInt8) : Nat := l.foldl (fun n b => 10 * n + (b.toNat - 48)) 0
theorem readDec_dec (u : Nat) : readDec (Lib.decDigits u) = u := by
  induction u using Nat.strongRecOn with
  | _ u ih =>
    rw [Lib.decDigits]
    by_cases h : u < 10
    · rw [dif_pos h]
      show 10 * 0 + ((UInt8.ofNat (48 + u)).toNat - 48) = u
      rw [UInt8.toNat_ofNat']; omega
    · rw [dif_neg h]
      unfold readDec at ih ⊢
      rw [List.foldl_append, ih (u / 10) (by omega)]
      show 10 * (u / 10) + ((UInt8.ofNat (48 + u % 10)).toNat - 48) = u
      rw [UInt8.toNat_ofNat']; omega
theorem dec_head (u : Nat) : (Lib.decDigits u).head? ≠ some 45 := by
  induction u using Nat.strongRecOn with
  | _ u ih =>
    rw [Lib.decDigits]
    by_cases h : u < 10
    · rw [dif_pos h]
      intro e
      have := congrArg (fun o : Option UInt8 => o.map UInt8.toNat) e
      simp [UInt8.toNat_ofNat'] at this
      omega
    · rw [dif_neg h]
      have h1 := ih (u / 10) (by omega)
      cases hd : Lib.decDigits (u / 10) with
      | nil => have := readDec_dec (u / 10); rw [hd] at this; simp [readDec] at this; omega
      | cons x r => rw [hd] at h1; simpa using h1
theorem dec_inj {u v : Nat} (h : Lib.decDigits u = Lib.decDigits v) : u = v := by
  have := congrArg readDec h
  rwa [readDec_dec, readDec_dec] at this
theorem itoa_inj' {a b : Int} (h : Lib.itoa a = Lib.itoa b) : a = b := by
  unfold Lib.itoa at h
  by_cases ha : a < 0 <;> by_cases hb : b < 0
  · rw [if_pos ha, if_pos hb] at h
    have := dec_inj (List.cons.inj h).2
    omega
  · rw [if_pos ha, if_neg hb] at h
    exact absurd (by rw [← h]; rfl) (dec_head b.toNat)
  · rw [if_neg ha, if_pos hb] at h
    exact absurd (by rw [h]; rfl) (dec_head a.toNat)
  · rw [if_neg ha, if_neg hb] at h
    have := dec_inj h
    omega
theorem nDigits_le : ∀ (k u : Nat), u < 10 ^ (k + 1) → Lib.nDigits u ≤ k + 1
  | 0, u, h => by rw [Lib.nDigits_small (by simpa using h)]; exact Nat.le_refl _
  | k + 1, u, h => by
    by_cases h10 : u < 10
    · rw [Lib.nDigits_small h10]; omega
    · rw [Lib.nDigits_big h10]
      have := nDigits_le k (u / 10) (by rw [Nat.pow_succ] at h; omega)
      omega
theorem itoa_len {c : Int} (h0 : -9223372036854775808 ≤ c) (h1 : c ≤ 9223372036854775807) : (Lib.itoa c).length ≤ 20 := by
  have h19 : ∀ u : Nat, u ≤ 9223372036854775808 → (Lib.decDigits u).length ≤ 19 := fun u hu => by
    rw [Lib.decDigits_length]; exact nDigits_le 18 u (by omega)
  unfold Lib.itoa
  split
  · have := h19 c.natAbs (by omega); simp; omega
  · have := h19 c.toNat (by omega); omega
theorem textOf_len {c : Int} (h0 : -9223372036854775808 ≤ c) (h1 : c ≤ 9223372036854775807) : (textOf c).length ≤ 26 := by
  unfold textOf
  cases h : fixedTexts.lookup c with
  | none => have := itoa_len h0 h1; simp [throwText]; omega
  | some t =>
    have : ∀ p ∈ fixedTexts, p.2.length ≤ 26 := by decide
    exact this _ (lookup_some h).2
theorem textOf_inj {a b : Int} (h : textOf a = textOf b) : a = b := by
  unfold textOf at h
  cases ha : fixedTexts.lookup a with
  | none =>
    cases hb : fixedTexts.lookup b with
    | none =>
      rw [ha, hb] at h
      exact itoa_inj' (List.append_cancel_left h)
    | some t =>
      rw [ha, hb] at h
      have := (fixed_head _ (lookup_some hb).2).1
      simp only at h this
      rw [← h] at this
      exact absurd rfl this
  | some s =>
    cases hb : fixedTexts.lookup b with
    | none =>
      rw [ha, hb] at h
      have := (fixed_head _ (lookup_some ha).2).1
      simp only at h this
      rw [h] at this
      exact absurd rfl this
    | some t =>
      rw [ha, hb] at h
      exact fixed_apart _ (lookup_some ha).2 _ (lookup_some hb).2 h
end Go.Proofs.YtlomfmilohbgpaaGreatDoor
/- Package inner: bytes and numbers are told. -/
namespace Go.Proofs.YtlomfmilohbgpaaGreatDoor.Inn
open Go.RowKit Book Mem Mach
set_option linter.unusedVariables false
set_option linter.unusedSimpArgs false
/-- a new row of one byte; it as a text -/
theorem byte_box (w : World) (x : Int) : ∃ w1 g, w.alloc (.cells #[.int .u8 x] 5) = w1 ∧ w.heap.size = g ∧ (convert 140 9 (.slice (some ⟨g, 0, none⟩) 1 1)).run Tryz.prog w1 = .ok (.string ⟨#[UInt8.ofNat x.toNat]⟩) w1 ∧ Hid (Below w.heap.size w w1) := by
  refine ⟨_, _, rfl, rfl, ?_, (Below.refl w.heap.size w).alloc (Nat.le_refl _) _⟩
  have e := run_convert_bytes_arg (P := Tryz.prog) (w.alloc (.cells #[.int .u8 x] 5)) 140 5 Tryz.underlying140 Tryz.underlying5 w.heap.size 0 1 1 [x] rfl
    (fun i hi => by obtain rfl : i = 0 := by omega
                    exact whole_cell (heap_alloc_new w _) rfl) 9 Tryz.underlying9
  exact e
theorem put_up' {v : Int} (hv : v.natAbs < 18446744073709551616) : Lib.itoa v = Dig.putV Dig.upD v 10 := by
  unfold Lib.itoa Dig.putV Dig.sgn
  rw [show (10 : Int).toNat = 10 from rfl, ← Dig.dec_digs Dig.upD (fun d h => by unfold Dig.upD; rw [if_pos h]) _ hv]
  split
  · rfl
  · rw [List.nil_append, show v.toNat = v.natAbs from by omega]
theorem put_dot {p : Int} (ip : Cell.In p) : putT p 10 = Lib.itoa p := by
  unfold Cell.In at ip
  rw [put_up' (by omega)]
  rfl
section
variable {w : World} {B q ps gs pb gb pf : Nat} {vC vH : Value} {ch : List Int} {vs vb vm : Value} {m : M} {xb : Nat} {g at' nx : Int} {gt gk : Nat} {x y z p : Int}
set_option maxHeartbeats 8000000 in
set_option maxRecDepth 100000 in
theorem say_byte (h : Pre w B q ps gs pb gb pf vC vH ch vs vb vm m xb 41 g at' nx gt gk [p] []) (hB : B ≤ w.heap.size) (ip : Cell.In p) (H : m.out.size + 1 ≤ 2000) : Calls Tryz.prog 90 #[.pointer (some ⟨q, 0, none⟩), .pointer (some ⟨xb, 0, none⟩)] w (DoOk w B q (feet q ps gs pb gb pf vC vH) xb 41 g at' (rowV gt 1) (rowV gk 0) { m with out := m.out ++ ⟨#[UInt8.ofNat (p % 256).toNat]⟩ } [] [] nx .nilIface) := by
  have HP := Lib.hid h
  have HB := Lib.hid hB
  obtain ⟨c0, c1, c2, c3, c4, c5, c6, c7⟩ := h.x.cells
  obtain ⟨f4, f5, f7⟩ := h.x.free
  obtain ⟨m0, m1, m5, m6, m7, m8, m9⟩ := h.mc.cells
  obtain ⟨n1, n2, n3⟩ := h.mc.ptrs
  have k0 := h.x.st (j := 0) (x := p) rfl
  obtain ⟨w1, gl, hw1, hgl, hcv, HB1⟩ := byte_box w (p % 256)
  obtain ⟨m0', m1', m5', m6', m7', m8', m9'⟩ := (h.mc.below HB1.out).cells
  have f5' : w1.frozen? ⟨q, 5, none⟩ = false := whole_frozen (h.mc.below HB1.out).box 5
  obtain ⟨c0', c1', c2', c3', c4', c5', c6', c7'⟩ := (h.x.below HB1.out).cells
  obtain ⟨no, hno⟩ : ∃ n, m.out.size = n := ⟨_, rfl⟩
  rw [hno] at H
  have H1 : decide (2000 < (no : Int) + 1) = false := decide_eq_false (by omega)
  clear h hB
  go_enter Tryz.func90, Tryz.ntmps90
  go_wp2
  go_ret
  have HP := Lib.hid ((HP.out.below HB1.out).set 5 (.string (m.out ++ ⟨#[UInt8.ofNat (p % 256).toNat]⟩)) { m with out := m.out ++ ⟨#[UInt8.ofNat (p % 256).toNat]⟩ } rfl rfl rfl rfl)
  exact ok_none HP.out.mc.mach HP.out.x.box (stir_more ((Stirred.of_below HB1.out _).trans (stir_q w1 5 (.string (m.out ++ ⟨#[UInt8.ofNat (p % 256).toNat]⟩))) (fun f hf => .inl hf))) (fun f hf => .inl hf)
set_option maxHeartbeats 8000000 in
set_option maxRecDepth 100000 in
theorem say_full (h : Pre w B q ps gs pb gb pf vC vH ch vs vb vm m xb 41 g at' nx gt gk [p] []) (hB : B ≤ w.heap.size) (ip : Cell.In p) (H : 2000 < m.out.size + 1) (hz : m.out.size ≤ 2000) : Calls Tryz.prog 90 #[.pointer (some ⟨q, 0, none⟩), .pointer (some ⟨xb, 0, none⟩)] w (DoErr w B q (feet q ps gs pb gb pf vC vH) xb m (-57) at') := by
  have HP := Lib.hid h
  have HB := Lib.hid hB
  obtain ⟨c0, c1, c2, c3, c4, c5, c6, c7⟩ := h.x.cells
  obtain ⟨f4, f5, f7⟩ := h.x.free
  obtain ⟨m0, m1, m5, m6, m7, m8, m9⟩ := h.mc.cells
  obtain ⟨n1, n2, n3⟩ := h.mc.ptrs
  have k0 := h.x.st (j := 0) (x := p) rfl
  obtain ⟨w1, gl, hw1, hgl, hcv, HB1⟩ := byte_box w (p % 256)
  obtain ⟨m0', m1', m5', m6', m7', m8', m9'⟩ := (h.mc.below HB1.out).cells
  have f5' : w1.frozen? ⟨q, 5, none⟩ = false := whole_frozen (h.mc.below HB1.out).box 5
  obtain ⟨c0', c1', c2', c3', c4', c5', c6', c7'⟩ := (h.x.below HB1.out).cells
  have C := Lib.hid (xfault_some (h.below HB1.out).x.box (-57) (by decide))
  obtain ⟨no, hno⟩ : ∃ n, m.out.size = n := ⟨_, rfl⟩
  rw [hno] at H hz
  clear h hB
  go_enter Tryz.func90, Tryz.ntmps90
  go_wp2_with (go_at_call 76; refine C.out.mono ?_; rintro e wz ⟨rfl, hwz⟩; subst wz)
  go_ret
  exact DoErr.of_x HP.out.mc.mach HP.out.nx ⟨rfl, Stirred.of_below HB1.out _⟩
set_option maxHeartbeats 8000000 in
set_option maxRecDepth 100000 in
theorem say_num (h : Pre w B q ps gs pb gb pf vC vH ch vs vb vm m xb 42 g at' nx gt gk [p] []) (hB : B ≤ w.heap.size) (hZ : Zeros w) (hT : Tens w) (ip : Cell.In p) (H : m.out.size + ((Lib.itoa p).length + 1) ≤ 2000) : Calls Tryz.prog 90 #[.pointer (some ⟨q, 0, none⟩), .pointer (some ⟨xb, 0, none⟩)] w (DoOk w B q (feet q ps gs pb gb pf vC vH) xb 42 g at' (rowV gt 1) (rowV gk 0) { m with out := m.out ++ (⟨(Lib.itoa p).toArray⟩ ++ ⟨#[32]⟩) } [] [] nx .nilIface) := by
  have HP := Lib.hid h
  have HB := Lib.hid hB
  obtain ⟨c0, c1, c2, c3, c4, c5, c6, c7⟩ := h.x.cells
  obtain ⟨f4, f5, f7⟩ := h.x.free
  obtain ⟨m0, m1, m5, m6, m7, m8, m9⟩ := h.mc.cells
  obtain ⟨n1, n2, n3⟩ := h.mc.ptrs
  have k0 := h.x.st (j := 0) (x := p) rfl
  obtain ⟨w1, gl, hw1, hgl, hcv, HB1⟩ := byte_box w (p % 256)
  obtain ⟨m0', m1', m5', m6', m7', m8', m9'⟩ := (h.mc.below HB1.out).cells
  have f5' : w1.frozen? ⟨q, 5, none⟩ = false := whole_frozen (h.mc.below HB1.out).box 5
  obtain ⟨c0', c1', c2', c3', c4', c5', c6', c7'⟩ := (h.x.below HB1.out).cells
  have P := Lib.hid (put_any p 10 ip.1 ip.2 w1 (hZ.mono HB1.out) (hT.mono HB1.out))
  rw [put_dot ip] at P
  have hlen := itoa_len ip.1 ip.2
  have hsz : (⟨(Lib.itoa p).toArray⟩ : ByteArray).size = (Lib.itoa p).length := by simp [ByteArray.size]
  generalize Lib.itoa p = tl at *
  obtain ⟨tb, htb⟩ : ∃ tb : ByteArray, ⟨tl.toArray⟩ = tb := ⟨_, rfl⟩
  have HTB := Lib.hid htb
  simp only [txt] at P
  rw [htb] at P hsz
  rw [← hsz] at H hlen
  obtain ⟨nt, hnt⟩ : ∃ n, tb.size = n := ⟨_, rfl⟩
  obtain ⟨no, hno⟩ : ∃ n, m.out.size = n := ⟨_, rfl⟩
  rw [hno, hnt] at H
  rw [hnt] at hlen
  clear h hB hZ hT hsz htb
  go_enter Tryz.func90, Tryz.ntmps90
  go_wp2_with fail
  refine P.out.mono ?_
  rintro e w2 ⟨rfl, hb⟩
  have HB2 := Lib.hid (HB1.out.trans (hb.mono HB1.out.size))
  clear hb m0' m1' m5' m6' m7' m8' m9' f5' c0' c1' c2' c3' c4' c5' c6' c7' hcv P
  obtain ⟨m0', m1', m5', m6', m7', m8', m9'⟩ := (HP.out.mc.below HB2.out).cells
  have f5' : w2.frozen? ⟨q, 5, none⟩ = false := whole_frozen (HP.out.mc.below HB2.out).box 5
  obtain ⟨c0', c1', c2', c3', c4', c5', c6', c7'⟩ := (HP.out.x.below HB2.out).cells
  have H1 : decide (2000 < (no : Int) + ((nt : Int) + 1)) = false := decide_eq_false (by omega)
  go_wp2
  go_ret
  have HP := Lib.hid ((HP.out.below HB2.out).set 5 (.string (m.out ++ (tb ++ ⟨#[32]⟩))) { m with out := m.out ++ (tb ++ ⟨#[32]⟩) } rfl rfl rfl rfl)
  rw [HTB.out]
  exact ok_none HP.out.mc.mach HP.out.x.box (stir_more ((Stirred.of_below HB2.out _).trans (stir_q w2 5 (.string (m.out ++ (tb ++ ⟨#[32]⟩)))) (fun f hf => .inl hf))) (fun f hf => .inl hf)
set_option maxHeartbeats 8000000 in
set_option maxRecDepth 100000 in
theorem say_much (h : Pre w B q ps gs pb gb pf vC vH ch vs vb vm m xb 42 g at' nx gt gk [p] []) (hB : B ≤ w.heap.size) (hZ : Zeros w) (hT : Tens w) (ip : Cell.In p) (H : 2000 < m.out.size + ((Lib.itoa p).length + 1)) (hz : m.out.size ≤ 2000) : Calls Tryz.prog 90 #[.pointer (some ⟨q, 0, none⟩), .pointer (some ⟨xb, 0, none⟩)] w (DoErr w B q (feet q ps gs pb gb pf vC vH) xb m (-57) at') := by
  have HP := Lib.hid h
  have HB := Lib.hid hB
  obtain ⟨c0, c1, c2, c3, c4, c5, c6, c7⟩ := h.x.cells
  obtain ⟨f4, f5, f7⟩ := h.x.free
  obtain ⟨m0, m1, m5, m6, m7, m8, m9⟩ := h.mc.cells
  obtain ⟨n1, n2, n3⟩ := h.mc.ptrs
  have k0 := h.x.st (j := 0) (x := p) rfl
  obtain ⟨w1, gl, hw1, hgl, hcv, HB1⟩ := byte_box w (p % 256)
  obtain ⟨m0', m1', m5', m6', m7', m8', m9'⟩ := (h.mc.below HB1.out).cells
  have f5' : w1.frozen? ⟨q, 5, none⟩ = false := whole_frozen (h.mc.below HB1.out).box 5
  obtain ⟨c0', c1', c2', c3', c4', c5', c6', c7'⟩ := (h.x.below HB1.out).cells
  have P := Lib.hid (put_any p 10 ip.1 ip.2 w1 (hZ.mono HB1.out) (hT.mono HB1.out))
  rw [put_dot ip] at P
  have hlen := itoa_len ip.1 ip.2
  have hsz : (⟨(Lib.itoa p).toArray⟩ : ByteArray).size = (Lib.itoa p).length := by simp [ByteArray.size]
  generalize Lib.itoa p = tl at *
  obtain ⟨tb, htb⟩ : ∃ tb : ByteArray, ⟨tl.toArray⟩ = tb := ⟨_, rfl⟩
  have HTB := Lib.hid htb
  simp only [txt] at P
  rw [htb] at P hsz
  rw [← hsz] at H hlen
  obtain ⟨nt, hnt⟩ : ∃ n, tb.size = n := ⟨_, rfl⟩
  obtain ⟨no, hno⟩ : ∃ n, m.out.size = n := ⟨_, rfl⟩
  rw [hno, hnt] at H
  rw [hnt] at hlen
  rw [hno] at hz
  clear h hB hZ hT hsz htb
  go_enter Tryz.func90, Tryz.ntmps90
  go_wp2_with fail
  refine P.out.mono ?_
  rintro e w2 ⟨rfl, hb⟩
  have HB2 := Lib.hid (HB1.out.trans (hb.mono HB1.out.size))
  clear hb m0' m1' m5' m6' m7' m8' m9' f5' c0' c1' c2' c3' c4' c5' c6' c7' hcv P
  obtain ⟨m0', m1', m5', m6', m7', m8', m9'⟩ := (HP.out.mc.below HB2.out).cells
  have f5' : w2.frozen? ⟨q, 5, none⟩ = false := whole_frozen (HP.out.mc.below HB2.out).box 5
  obtain ⟨c0', c1', c2', c3', c4', c5', c6', c7'⟩ := (HP.out.x.below HB2.out).cells
  have H1 : decide (2000 < (no : Int) + ((nt : Int) + 1)) = true := decide_eq_true (by omega)
  have C := Lib.hid (xfault_some (HP.out.below HB2.out).x.box (-57) (by decide))
  go_wp2_with (go_at_call 76; refine C.out.mono ?_; rintro e wz ⟨rfl, hwz⟩; subst wz)
  go_ret
  exact DoErr.of_x HP.out.mc.mach HP.out.nx ⟨rfl, Stirred.of_below HB2.out _⟩
end
end Go.Proofs.YtlomfmilohbgpaaGreatDoor.Inn
/- Package inner: the memory is asked, or changed. -/
namespace Go.Proofs.YtlomfmilohbgpaaGreatDoor.Inn
open Go.RowKit Book Mem Mach
set_option linter.unusedVariables false
set_option linter.unusedSimpArgs false
section
variable {w : World} {B q ps gs pb gb pf : Nat} {vC vH : Value} {ch : List Int} {vs vb vm : Value} {m : M} {xb : Nat} {g at' nx : Int} {gt gk : Nat} {x y z p : Int}
set_option maxHeartbeats 8000000 in
set_option maxRecDepth 100000 in
theorem rem_fetch_no (h : Pre w B q ps gs pb gb pf vC vH ch vs vb vm m xb 30 g at' nx gt gk [p] []) (hB : B ≤ w.heap.size) (H : ¬ (0 ≤ p ∧ p < (m.mem.length : Int))) : Calls Tryz.prog 89 #[.pointer (some ⟨q, 0, none⟩), .pointer (some ⟨xb, 0, none⟩)] w (DoErr w B q (feet q ps gs pb gb pf vC vH) xb m (-9) at') := by
  have HP := Lib.hid h
  have HB := Lib.hid hB
  obtain ⟨c0, c1, c2, c3, c4, c5, c6, c7⟩ := h.x.cells
  obtain ⟨f4, f5, f7⟩ := h.x.free
  obtain ⟨m0, m1, m5, m6, m7, m8, m9⟩ := h.mc.cells
  obtain ⟨n1, n2, n3⟩ := h.mc.ptrs
  have k0 := h.x.st (j := 0) (x := p) rfl
  have c2z : w.cell? ⟨xb, 2, none⟩ = some (rowV gt 1) := c2
  have LD := Lib.hid (fun n => Fld.load_no (h.drewN n).mc.me p H)
  have C := Lib.hid (fun n => xfault_some (h.drewN n).x.box (-9) (by decide))
  clear h hB H
  go_enter Tryz.func89, Tryz.ntmps89
  go_wp2_with fail
  go_quiet (fail)
  have HS := Lib.hid (stir_drewN w nq (feet q ps gs pb gb pf vC vH))
  have HP := Lib.hid (HP.out.drewN nq)
  go_wp2_with (first
    | (go_at_call 59; refine (LD.out _).mono ?_; rintro e wz ⟨rfl, hwz⟩; subst wz)
    | (go_at_call 76; refine (C.out _).mono ?_; rintro e wz ⟨rfl, hwz⟩; subst wz))
  go_ret
  exact ⟨_, rfl, HP.out.mc.mach, stir_more HS.out, fun f hf => .inl hf⟩
set_option maxHeartbeats 8000000 in
set_option maxRecDepth 100000 in
theorem rem_store_no (h : Pre w B q ps gs pb gb pf vC vH ch vs vb vm m xb 31 g at' nx gt gk [y, p] []) (hB : B ≤ w.heap.size) (H : ¬ (0 ≤ p ∧ p < (m.mem.length : Int))) : Calls Tryz.prog 89 #[.pointer (some ⟨q, 0, none⟩), .pointer (some ⟨xb, 0, none⟩)] w (DoErr w B q (feet q ps gs pb gb pf vC vH) xb m (-9) at') := by
  have HP := Lib.hid h
  have HB := Lib.hid hB
  obtain ⟨c0, c1, c2, c3, c4, c5, c6, c7⟩ := h.x.cells
  obtain ⟨f4, f5, f7⟩ := h.x.free
  obtain ⟨m0, m1, m5, m6, m7, m8, m9⟩ := h.mc.cells
  obtain ⟨n1, n2, n3⟩ := h.mc.ptrs
  have k0 := h.x.st (j := 0) (x := y) rfl
  have k1 := h.x.st (j := 1) (x := p) rfl
  have c2z : w.cell? ⟨xb, 2, none⟩ = some (rowV gt 2) := c2
  have LD := Lib.hid (fun n => Fld.load_no (h.drewN n).mc.me p H)
  have C := Lib.hid (fun n => xfault_some (h.drewN n).x.box (-9) (by decide))
  clear h hB H
  go_enter Tryz.func89, Tryz.ntmps89
  go_wp2_with fail
  go_quiet (fail)
  have HS := Lib.hid (stir_drewN w nq (feet q ps gs pb gb pf vC vH))
  have HP := Lib.hid (HP.out.drewN nq)
  go_wp2_with (first
    | (go_at_call 59; refine (LD.out _).mono ?_; rintro e wz ⟨rfl, hwz⟩; subst wz)
    | (go_at_call 76; refine (C.out _).mono ?_; rintro e wz ⟨rfl, hwz⟩; subst wz))
  go_ret
  exact ⟨_, rfl, HP.out.mc.mach, stir_more HS.out, fun f hf => .inl hf⟩
set_option maxHeartbeats 8000000 in
set_option maxRecDepth 100000 in
theorem rem_addTo_no (h : Pre w B q ps gs pb gb pf vC vH ch vs vb vm m xb 32 g at' nx gt gk [y, p] []) (hB : B ≤ w.heap.size) (H : ¬ (0 ≤ p ∧ p < (m.mem.length : Int))) : Calls Tryz.prog 89 #[.pointer (some ⟨q, 0, none⟩), .pointer (some ⟨xb, 0, none⟩)] w (DoErr w B q (feet q ps gs pb gb pf vC vH) xb m (-9) at') := by
  have HP := Lib.hid h
  have HB := Lib.hid hB
  obtain ⟨c0, c1, c2, c3, c4, c5, c6, c7⟩ := h.x.cells
  obtain ⟨f4, f5, f7⟩ := h.x.free
  obtain ⟨m0, m1, m5, m6, m7, m8, m9⟩ := h.mc.cells
  obtain ⟨n1, n2, n3⟩ := h.mc.ptrs
  have k0 := h.x.st (j := 0) (x := y) rfl
  have k1 := h.x.st (j := 1) (x := p) rfl
  have c2z : w.cell? ⟨xb, 2, none⟩ = some (rowV gt 2) := c2
  have LD := Lib.hid (fun n => Fld.load_no (h.drewN n).mc.me p H)
  have C := Lib.hid (fun n => xfault_some (h.drewN n).x.box (-9) (by decide))
  clear h hB H
  go_enter Tryz.func89, Tryz.ntmps89
  go_wp2_with fail
  go_quiet (fail)
  have HS := Lib.hid (stir_drewN w nq (feet q ps gs pb gb pf vC vH))
  have HP := Lib.hid (HP.out.drewN nq)
  go_wp2_with (first
    | (go_at_call 59; refine (LD.out _).mono ?_; rintro e wz ⟨rfl, hwz⟩; subst wz)
    | (go_at_call 76; refine (C.out _).mono ?_; rintro e wz ⟨rfl, hwz⟩; subst wz))
  go_ret
  exact ⟨_, rfl, HP.out.mc.mach, stir_more HS.out, fun f hf => .inl hf⟩
set_option maxHeartbeats 8000000 in
set_option maxRecDepth 100000 in
theorem rem_fetch (h : Pre w B q ps gs pb gb pf vC vH ch vs vb vm m xb 30 g at' nx gt gk [p] []) (hB : B ≤ w.heap.size) (j : Nat) (hp : p = (j : Int)) (hx : m.mem[j]? = some x) : Calls Tryz.prog 89 #[.pointer (some ⟨q, 0, none⟩), .pointer (some ⟨xb, 0, none⟩)] w (DoOk w B q (feet q ps gs pb gb pf vC vH) xb 30 g at' (rowV gt 1) (rowV gk 0) m [x] [] nx .nilIface) := by
  subst hp
  have HP := Lib.hid h
  have HB := Lib.hid hB
  obtain ⟨c0, c1, c2, c3, c4, c5, c6, c7⟩ := h.x.cells
  obtain ⟨f4, f5, f7⟩ := h.x.free
  obtain ⟨m0, m1, m5, m6, m7, m8, m9⟩ := h.mc.cells
  obtain ⟨n1, n2, n3⟩ := h.mc.ptrs
  have k0 := h.x.st (j := 0) (x := (j : Int)) rfl
  have c2z : w.cell? ⟨xb, 2, none⟩ = some (rowV gt 1) := c2
  have LD := Lib.hid (fun n => Fld.load_yes (h.drewN n).mc.me j x hx)
  clear h hB hx
  go_enter Tryz.func89, Tryz.ntmps89
  go_wp2_with fail
  go_quiet (fail)
  have HS := Lib.hid (stir_drewN w nq (feet q ps gs pb gb pf vC vH))
  have HP := Lib.hid (HP.out.drewN nq)
  obtain ⟨w1, gl, hw1, hgl, HRW, HB1, HG⟩ := row_box (w.drewN nq) [x]
  change (w.drewN nq).alloc (.cells #[.int .i64 x] 3) = w1 at hw1
  change w.heap.size = gl at hgl
  have HX1 := Lib.hid (HP.out.x.below HB1.out)
  have c4' := HX1.out.cells.2.2.2.2.1
  have f4' := HX1.out.free.1
  go_wp2_with (go_at_call 59; refine (LD.out _).mono ?_; rintro e wz ⟨rfl, hwz⟩; subst wz)
  go_ret
  exact ok_row4 HP.out.mc.mach HP.out.x.box HP.out.nx (stir_more HS.out) (fun f hf => .inl hf) HRW.out HB1.out HG.out
set_option maxHeartbeats 8000000 in
set_option maxRecDepth 100000 in
theorem rem_store (h : Pre w B q ps gs pb gb pf vC vH ch vs vb vm m xb 31 g at' nx gt gk [y, p] []) (hB : B ≤ w.heap.size) (j : Nat) (hp : p = (j : Int)) (hx : m.mem[j]? = some x) : Calls Tryz.prog 89 #[.pointer (some ⟨q, 0, none⟩), .pointer (some ⟨xb, 0, none⟩)] w (DoOk w B q (feet q ps gs pb gb pf vC vH) xb 31 g at' (rowV gt 2) (rowV gk 0) { m with mem := m.mem.set j y } [] [] nx .nilIface) := by
  subst hp
  have HP := Lib.hid h
  have HB := Lib.hid hB
  obtain ⟨c0, c1, c2, c3, c4, c5, c6, c7⟩ := h.x.cells
  obtain ⟨f4, f5, f7⟩ := h.x.free
  obtain ⟨m0, m1, m5, m6, m7, m8, m9⟩ := h.mc.cells
  obtain ⟨n1, n2, n3⟩ := h.mc.ptrs
  have k0 := h.x.st (j := 0) (x := y) rfl
  have k1 := h.x.st (j := 1) (x := (j : Int)) rfl
  have c2z : w.cell? ⟨xb, 2, none⟩ = some (rowV gt 2) := c2
  have LD := Lib.hid (fun n => Fld.load_yes (h.drewN n).mc.me j x hx)
  have SD := Lib.hid (fun n => Fld.store_yes (h.drewN n).mc.me (show B ≤ (w.drewN n).heap.size from hB) j y (List.getElem?_eq_some_iff.1 hx).1)
  clear h hB hx
  go_enter Tryz.func89, Tryz.ntmps89
  go_wp2_with fail
  go_quiet (fail)
  have HS := Lib.hid (stir_drewN w nq (feet q ps gs pb gb pf vC vH))
  have HP := Lib.hid (HP.out.drewN nq)
  go_wp2_with (first
    | (go_at_call 59; refine (LD.out _).mono ?_; rintro e wz ⟨rfl, hwz⟩; subst wz)
    | (go_at_call 103; refine (SD.out _).mono ?_; rintro e w2 ⟨vH', rfl, hF, hT, hN⟩; have HFD := Lib.hid (HP.out.mc.meDid hF hT hN); have HTT := Lib.hid (hT.more (feet_me (q := q) (ps := ps) (gs := gs) (pb := pb) (gb := gb))); clear hF hT hN))
  go_ret
  exact ok_none HFD.out.1.mach (HTT.out.whole HP.out.x.box HP.out.nx) (stir_more (HS.out.trans HTT.out (fun f hf => .inl hf))) HFD.out.2
set_option maxHeartbeats 8000000 in
set_option maxRecDepth 100000 in
theorem rem_addTo (h : Pre w B q ps gs pb gb pf vC vH ch vs vb vm m xb 32 g at' nx gt gk [y, p] []) (hB : B ≤ w.heap.size) (j : Nat) (hp : p = (j : Int)) (hx : m.mem[j]? = some x) : Calls Tryz.prog 89 #[.pointer (some ⟨q, 0, none⟩), .pointer (some ⟨xb, 0, none⟩)] w (DoOk w B q (feet q ps gs pb gb pf vC vH) xb 32 g at' (rowV gt 2) (rowV gk 0) { m with mem := m.mem.set j (wrap64 (y + x)) } [] [] nx .nilIface) := by
  subst hp
  have HP := Lib.hid h
  have HB := Lib.hid hB
  obtain ⟨c0, c1, c2, c3, c4, c5, c6, c7⟩ := h.x.cells
  obtain ⟨f4, f5, f7⟩ := h.x.free
  obtain ⟨m0, m1, m5, m6, m7, m8, m9⟩ := h.mc.cells
  obtain ⟨n1, n2, n3⟩ := h.mc.ptrs
  have k0 := h.x.st (j := 0) (x := y) rfl
  have k1 := h.x.st (j := 1) (x := (j : Int)) rfl
  have c2z : w.cell? ⟨xb, 2, none⟩ = some (rowV gt 2) := c2
  have LD := Lib.hid (fun n => Fld.load_yes (h.drewN n).mc.me j x hx)
  have SD := Lib.hid (fun n => Fld.store_yes (h.drewN n).mc.me (show B ≤ (w.drewN n).heap.size from hB) j (wrap64 (y + x)) (List.getElem?_eq_some_iff.1 hx).1)
  clear h hB hx
  go_enter Tryz.func89, Tryz.ntmps89
  go_wp2_with fail
  go_quiet (fail)
  have HS := Lib.hid (stir_drewN w nq (feet q ps gs pb gb pf vC vH))
  have HP := Lib.hid (HP.out.drewN nq)
  go_wp2_with (first
    | (go_at_call 59; refine (LD.out _).mono ?_; rintro e wz ⟨rfl, hwz⟩; subst wz)
    | (go_at_call 103; refine (SD.out _).mono ?_; rintro e w2 ⟨vH', rfl, hF, hT, hN⟩; have HFD := Lib.hid (HP.out.mc.meDid hF hT hN); have HTT := Lib.hid (hT.more (feet_me (q := q) (ps := ps) (gs := gs) (pb := pb) (gb := gb))); clear hF hT hN))
  go_ret
  exact ok_none HFD.out.1.mach (HTT.out.whole HP.out.x.box HP.out.nx) (stir_more (HS.out.trans HTT.out (fun f hf => .inl hf))) HFD.out.2
end
end Go.Proofs.YtlomfmilohbgpaaGreatDoor.Inn
/- Package inner: what begins and ends words. -/
namespace Go.Proofs.YtlomfmilohbgpaaGreatDoor.Inn
open Go.RowKit Book Mem Mach
set_option linter.unusedVariables false
set_option linter.unusedSimpArgs false
section
variable {w : World} {B q ps gs pb gb pf : Nat} {vC vH : Value} {ch : List Int} {vs vb vm : Value} {m : M} {xb : Nat} {g at' nx : Int} {gt gk : Nat} {x y z p : Int}
set_option maxHeartbeats 8000000 in
set_option maxRecDepth 100000 in
theorem ctl_halt (h : Pre w B q ps gs pb gb pf vC vH ch vs vb vm m xb 0 g at' nx gt gk [] []) (hB : B ≤ w.heap.size)  : Calls Tryz.prog 88 #[.pointer (some ⟨q, 0, none⟩), .pointer (some ⟨xb, 0, none⟩)] w (DoOk w B q (feet q ps gs pb gb pf vC vH) xb 0 g at' (rowV gt 0) (rowV gk 0) { m with status := 1 } [] [] at' .nilIface) := by
  have HP := Lib.hid h
  have HB := Lib.hid hB
  obtain ⟨c0, c1, c2, c3, c4, c5, c6, c7⟩ := h.x.cells
  obtain ⟨f4, f5, f7⟩ := h.x.free
  obtain ⟨m0, m1, m5, m6, m7, m8, m9⟩ := h.mc.cells
  obtain ⟨n1, n2, n3⟩ := h.mc.ptrs
  have f8 : w.frozen? ⟨q, 8, none⟩ = false := whole_frozen h.mc.box 8
  have HP1 := Lib.hid (h.set 8 (.int .i64 1) { m with status := 1 } rfl rfl rfl rfl)
  have hqx := h.qx
  have HR := Lib.hid ((set8 HP1.out.x.box).1 at')
  clear h hB
  go_enter Tryz.func88, Tryz.ntmps88
  go_wp2
  go_ret
  have h7 := Stirred.setCell (w.setCell ⟨q, 8, none⟩ (.int .i64 1)) ⟨xb, 7, none⟩ (.int .i64 at')
  exact ok_none (HP1.out.mc.touch h7 (fun f hf hm => HP1.out.nx (by rw [List.mem_singleton] at hm; exact (show f = xb from hm) ▸ hf))).mach HR.out ((stir_more (stir_q w 8 (.int .i64 1))).trans h7 (fun f hf => .inl (by rw [List.mem_singleton.1 hf]; exact List.mem_cons_self))) (fun f hf => .inl hf)
set_option maxHeartbeats 8000000 in
set_option maxRecDepth 100000 in
theorem ctl_exec_low (h : Pre w B q ps gs pb gb pf vC vH ch vs vb vm m xb 44 g at' nx gt gk [p] []) (hB : B ≤ w.heap.size) (H : p < 64) : Calls Tryz.prog 88 #[.pointer (some ⟨q, 0, none⟩), .pointer (some ⟨xb, 0, none⟩)] w (DoErr w B q (feet q ps gs pb gb pf vC vH) xb m (-13) at') := by
  have HP := Lib.hid h
  have HB := Lib.hid hB
  obtain ⟨c0, c1, c2, c3, c4, c5, c6, c7⟩ := h.x.cells
  obtain ⟨f4, f5, f7⟩ := h.x.free
  obtain ⟨m0, m1, m5, m6, m7, m8, m9⟩ := h.mc.cells
  obtain ⟨n1, n2, n3⟩ := h.mc.ptrs
  have k0 := h.x.st (j := 0) (x := p) rfl
  have C := Lib.hid (fun n => xfault_some (h.drewN n).x.box (-13) (by decide))
  have C0 := Lib.hid (xfault_some h.x.box (-13) (by decide))
  clear h hB
  go_enter Tryz.func88, Tryz.ntmps88
  go_wp2_with (go_at_call 76; refine C0.out.mono ?_; rintro e wz ⟨rfl, hwz⟩; subst wz)
  go_ret
  exact DoErr.of_x HP.out.mc.mach HP.out.nx ⟨rfl, Stirred.refl _ _⟩
set_option maxHeartbeats 8000000 in
set_option maxRecDepth 100000 in
theorem ctl_exec_high (h : Pre w B q ps gs pb gb pf vC vH ch vs vb vm m xb 44 g at' nx gt gk [p] []) (hB : B ≤ w.heap.size) (H0 : 64 ≤ p) (H : (m.mem.length : Int) ≤ p) : Calls Tryz.prog 88 #[.pointer (some ⟨q, 0, none⟩), .pointer (some ⟨xb, 0, none⟩)] w (DoErr w B q (feet q ps gs pb gb pf vC vH) xb m (-13) at') := by
  have HP := Lib.hid h
  have HB := Lib.hid hB
  obtain ⟨c0, c1, c2, c3, c4, c5, c6, c7⟩ := h.x.cells
  obtain ⟨f4, f5, f7⟩ := h.x.free
  obtain ⟨m0, m1, m5, m6, m7, m8, m9⟩ := h.mc.cells
  obtain ⟨n1, n2, n3⟩ := h.mc.ptrs
  have k0 := h.x.st (j := 0) (x := p) rfl
  have C0 := Lib.hid (xfault_some h.x.box (-13) (by decide))
  have L := Lib.hid (Fld.len_any h.mc.me)
  have hlen := h.mc.me.len
  obtain ⟨nm, hnm⟩ : ∃ n, m.mem.length = n := ⟨_, rfl⟩
  rw [hnm] at L hlen H
  clear hnm h hB
  go_enter Tryz.func88, Tryz.ntmps88
  go_wp2_with (first
    | (go_at_call 84; refine L.out.mono ?_; rintro e wz ⟨rfl, hwz⟩; subst wz)
    | (go_at_call 76; refine C0.out.mono ?_; rintro e wz ⟨rfl, hwz⟩; subst wz))
  go_ret
  exact DoErr.of_x HP.out.mc.mach HP.out.nx ⟨rfl, Stirred.refl _ _⟩
set_option maxHeartbeats 8000000 in
set_option maxRecDepth 100000 in
theorem ctl_exec (h : Pre w B q ps gs pb gb pf vC vH ch vs vb vm m xb 44 g at' nx gt gk [p] []) (hB : B ≤ w.heap.size) (H0 : 64 ≤ p) (H : p < (m.mem.length : Int)) : Calls Tryz.prog 88 #[.pointer (some ⟨q, 0, none⟩), .pointer (some ⟨xb, 0, none⟩)] w (DoOk w B q (feet q ps gs pb gb pf vC vH) xb 44 g at' (rowV gt 1) (rowV gk 0) m [] [nx] p .nilIface) := by
  have HP := Lib.hid h
  have HB := Lib.hid hB
  obtain ⟨c0, c1, c2, c3, c4, c5, c6, c7⟩ := h.x.cells
  obtain ⟨f4, f5, f7⟩ := h.x.free
  obtain ⟨m0, m1, m5, m6, m7, m8, m9⟩ := h.mc.cells
  obtain ⟨n1, n2, n3⟩ := h.mc.ptrs
  have k0 := h.x.st (j := 0) (x := p) rfl
  have L := Lib.hid (Fld.len_any h.mc.me)
  have hlen := h.mc.me.len
  obtain ⟨nm, hnm⟩ : ∃ n, m.mem.length = n := ⟨_, rfl⟩
  rw [hnm] at L hlen H
  clear hnm h hB
  obtain ⟨w1, gl, hw1, hgl, HRW, HB1, HG⟩ := row_box w [nx]
  change w.alloc (.cells #[.int .i64 nx] 3) = w1 at hw1
  have HX1 := Lib.hid (HP.out.x.below HB1.out)
  have c5' := HX1.out.cells.2.2.2.2.2.1
  have c7' := HX1.out.cells.2.2.2.2.2.2.2
  have f5' := HX1.out.free.2.1
  have f7' := HX1.out.free.2.2
  go_enter Tryz.func88, Tryz.ntmps88
  go_wp2_with (go_at_call 84; refine L.out.mono ?_; rintro e wz ⟨rfl, hwz⟩; subst wz)
  go_ret
  exact ok_row57 HP.out.mc.mach HP.out.x.box HP.out.nx (Stirred.refl _ _) (fun f hf => .inl hf) HRW.out HB1.out HG.out
end
end Go.Proofs.YtlomfmilohbgpaaGreatDoor.Inn
/- Package inner: a catch; a throw; the end of a catch. -/
namespace Go.Proofs.YtlomfmilohbgpaaGreatDoor.Inn
open Go.RowKit Book Mem Mach
set_option linter.unusedVariables false
set_option linter.unusedSimpArgs false
section
variable {w : World} {B q ps gs pb gb pf : Nat} {vC vH : Value} {ch : List Int} {vs vb vm : Value} {m : M} {xb : Nat} {g at' nx : Int} {gt gk : Nat} {x y z p : Int}
set_option maxHeartbeats 8000000 in
set_option maxRecDepth 100000 in
theorem throw_zero (h : Pre w B q ps gs pb gb pf vC vH ch vs vb vm m xb 45 g at' nx gt gk [p] []) (hB : B ≤ w.heap.size) (hp : p = 0) : Calls Tryz.prog 101 #[.pointer (some ⟨q, 0, none⟩), .pointer (some ⟨xb, 0, none⟩)] w (DoOk w B q (feet q ps gs pb gb pf vC vH) xb 45 g at' (rowV gt 1) (rowV gk 0) m [] [] nx .nilIface) := by
  subst hp
  have HP := Lib.hid h
  have HB := Lib.hid hB
  obtain ⟨c0, c1, c2, c3, c4, c5, c6, c7⟩ := h.x.cells
  obtain ⟨f4, f5, f7⟩ := h.x.free
  obtain ⟨m0, m1, m5, m6, m7, m8, m9⟩ := h.mc.cells
  obtain ⟨n1, n2, n3⟩ := h.mc.ptrs
  have k0 := h.x.st (j := 0) (x := 0) rfl
  have C := Lib.hid (xfault_zero h.x.box)
  clear h hB
  go_enter Tryz.func101, Tryz.ntmps101
  go_wp2_with (go_at_call 76; refine C.out.mono ?_; rintro e wz ⟨rfl, hwz⟩; subst wz)
  go_ret
  exact ok_none HP.out.mc.mach HP.out.x.box (Stirred.refl _ _) (fun f hf => .inl hf)
set_option maxHeartbeats 8000000 in
set_option maxRecDepth 100000 in
theorem throw_some (h : Pre w B q ps gs pb gb pf vC vH ch vs vb vm m xb 45 g at' nx gt gk [p] []) (hB : B ≤ w.heap.size) (hp : p ≠ 0) (hl : 0 < m.stack.length) : Calls Tryz.prog 101 #[.pointer (some ⟨q, 0, none⟩), .pointer (some ⟨xb, 0, none⟩)] w (DoErr w B q (feet q ps gs pb gb pf vC vH) xb { m with stack := less m.stack 1 } (p) at') := by
  have HP := Lib.hid h
  have HB := Lib.hid hB
  obtain ⟨c0, c1, c2, c3, c4, c5, c6, c7⟩ := h.x.cells
  obtain ⟨f4, f5, f7⟩ := h.x.free
  obtain ⟨m0, m1, m5, m6, m7, m8, m9⟩ := h.mc.cells
  obtain ⟨n1, n2, n3⟩ := h.mc.ptrs
  have k0 := h.x.st (j := 0) (x := p) rfl
  have C := Lib.hid (xfault_some h.x.box p (by simpa using hp))
  have P := Lib.hid (pop_yes h.mc.st hB 1 (m.stack.length - 1) (by omega))
  clear h hB hp hl
  go_enter Tryz.func101, Tryz.ntmps101
  go_wp2_with fail
  refine C.out.mono ?_
  rintro e wz ⟨rfl, hwz⟩
  subst wz
  go_wp2_with fail
  refine P.out.mono ?_
  rintro e w1 ⟨v, rfl, ho, hp, hs⟩
  have hM := HP.out.mc.stDid hp hs
  have HM := Lib.hid hM
  have HS := Lib.hid (hs.more (feet_st (q := q) (pb := pb) (gb := gb) (pf := pf) (vC := vC) (vH := vH)))
  clear ho hp hs hM
  go_wp2
  go_ret
  exact ⟨_, rfl, HM.out.mach, stir_more HS.out, fun f hf => .inl hf⟩
set_option maxHeartbeats 8000000 in
set_option maxRecDepth 100000 in
theorem end_broken_low (h : Pre w B q ps gs pb gb pf vC vH ch vs vb vm m xb 1 g at' nx gt gk [] []) (hB : B ≤ w.heap.size) (H : m.handler < 3) : Calls Tryz.prog 102 #[.pointer (some ⟨q, 0, none⟩), .pointer (some ⟨xb, 0, none⟩)] w (DoErr w B q (feet q ps gs pb gb pf vC vH) xb m (-25) at') := by
  have HP := Lib.hid h
  have HB := Lib.hid hB
  obtain ⟨c0, c1, c2, c3, c4, c5, c6, c7⟩ := h.x.cells
  obtain ⟨f4, f5, f7⟩ := h.x.free
  obtain ⟨m0, m1, m5, m6, m7, m8, m9⟩ := h.mc.cells
  obtain ⟨n1, n2, n3⟩ := h.mc.ptrs
  have L := Lib.hid (fun n => len_any (h.drewN n).mc.bk)
  have LS := Lib.hid (fun n => len_any (h.drewN n).mc.st)
  have hb := h.mc.bk.fits
  have hs := h.mc.st.fits
  obtain ⟨nb, hnb⟩ : ∃ n, m.back.length = n := ⟨_, rfl⟩
  obtain ⟨ns, hns⟩ : ∃ n, m.stack.length = n := ⟨_, rfl⟩
  have C := Lib.hid (fun n => xfault_some (h.drewN n).x.box (-25) (by decide))
  have hd : decide (m.handler < 3) = true := decide_eq_true H
  rw [hnb] at L
  clear h hB hnb hns
  go_enter Tryz.func102, Tryz.ntmps102
  go_wp2_with fail
  go_quiet ((go_at_call 66; exact Calls.quiet_of_same (L.out _)))
  have HS := Lib.hid (stir_drewN w nq (feet q ps gs pb gb pf vC vH))
  have HP := Lib.hid (HP.out.drewN nq)
  go_wp2_with (go_at_call 76; refine (C.out _).mono ?_; rintro e wz ⟨rfl, hwz⟩; subst wz)
  go_ret
  exact ⟨_, rfl, HP.out.mc.mach, stir_more HS.out, fun f hf => .inl hf⟩
set_option maxHeartbeats 8000000 in
set_option maxRecDepth 100000 in
theorem end_broken_else (h : Pre w B q ps gs pb gb pf vC vH ch vs vb vm m xb 1 g at' nx gt gk [] []) (hB : B ≤ w.heap.size) (H0 : 3 ≤ m.handler) (H : m.handler ≠ (m.back.length : Int)) : Calls Tryz.prog 102 #[.pointer (some ⟨q, 0, none⟩), .pointer (some ⟨xb, 0, none⟩)] w (DoErr w B q (feet q ps gs pb gb pf vC vH) xb m (-25) at') := by
  have HP := Lib.hid h
  have HB := Lib.hid hB
  obtain ⟨c0, c1, c2, c3, c4, c5, c6, c7⟩ := h.x.cells
  obtain ⟨f4, f5, f7⟩ := h.x.free
  obtain ⟨m0, m1, m5, m6, m7, m8, m9⟩ := h.mc.cells
  obtain ⟨n1, n2, n3⟩ := h.mc.ptrs
  have L := Lib.hid (fun n => len_any (h.drewN n).mc.bk)
  have LS := Lib.hid (fun n => len_any (h.drewN n).mc.st)
  have hb := h.mc.bk.fits
  have hs := h.mc.st.fits
  obtain ⟨nb, hnb⟩ : ∃ n, m.back.length = n := ⟨_, rfl⟩
  obtain ⟨ns, hns⟩ : ∃ n, m.stack.length = n := ⟨_, rfl⟩
  have C := Lib.hid (fun n => xfault_some (h.drewN n).x.box (-25) (by decide))
  have hd : decide (m.handler < 3) = false := decide_eq_false (by omega)
  rw [hnb] at L H
  obtain ⟨hh, hhh⟩ : ∃ z, m.handler = z := ⟨_, rfl⟩
  rw [hhh] at m1 hd H H0
  have he : (hh != (nb : Int)) = true := by simpa using H
  clear h hB hnb hns hhh
  go_enter Tryz.func102, Tryz.ntmps102
  go_wp2_with fail
  go_quiet ((go_at_call 66; exact Calls.quiet_of_same (L.out _)))
  have HS := Lib.hid (stir_drewN w nq (feet q ps gs pb gb pf vC vH))
  have HP := Lib.hid (HP.out.drewN nq)
  go_wp2_with (go_at_call 76; refine (C.out _).mono ?_; rintro e wz ⟨rfl, hwz⟩; subst wz)
  go_ret
  exact ⟨_, rfl, HP.out.mc.mach, stir_more HS.out, fun f hf => .inl hf⟩
set_option maxHeartbeats 8000000 in
set_option maxRecDepth 100000 in
theorem end_full (h : Pre w B q ps gs pb gb pf vC vH ch vs vb vm m xb 1 g at' nx gt gk [] []) (hB : B ≤ w.heap.size) (H0 : 3 ≤ m.handler) (H : m.handler = (m.back.length : Int)) (H1 : 48 ≤ m.stack.length) : Calls Tryz.prog 102 #[.pointer (some ⟨q, 0, none⟩), .pointer (some ⟨xb, 0, none⟩)] w (DoErr w B q (feet q ps gs pb gb pf vC vH) xb m (-3) at') := by
  have HP := Lib.hid h
  have HB := Lib.hid hB
  obtain ⟨c0, c1, c2, c3, c4, c5, c6, c7⟩ := h.x.cells
  obtain ⟨f4, f5, f7⟩ := h.x.free
  obtain ⟨m0, m1, m5, m6, m7, m8, m9⟩ := h.mc.cells
  obtain ⟨n1, n2, n3⟩ := h.mc.ptrs
  have L := Lib.hid (fun n => len_any (h.drewN n).mc.bk)
  have LS := Lib.hid (fun n => len_any (h.drewN n).mc.st)
  have hb := h.mc.bk.fits
  have hs := h.mc.st.fits
  obtain ⟨nb, hnb⟩ : ∃ n, m.back.length = n := ⟨_, rfl⟩
  obtain ⟨ns, hns⟩ : ∃ n, m.stack.length = n := ⟨_, rfl⟩
  have C := Lib.hid (fun n => xfault_some (h.drewN n).x.box (-3) (by decide))
  rw [H] at m1 H0
  rw [hnb] at L m1 H0
  rw [hns] at LS H1
  have hd : decide ((nb : Int) < 3) = false := decide_eq_false (by omega)
  have he : ((nb : Int) != (nb : Int)) = false := by simp
  clear h hB hnb hns H
  go_enter Tryz.func102, Tryz.ntmps102
  go_wp2_with fail
  go_quiet ((go_at_call 66; exact Calls.quiet_of_same (L.out _)))
  have HS := Lib.hid (stir_drewN w nq (feet q ps gs pb gb pf vC vH))
  have HP := Lib.hid (HP.out.drewN nq)
  go_wp2_with (first
    | (go_at_call 66; refine (LS.out _).mono ?_; rintro e wz ⟨rfl, hwz⟩; subst wz)
    | (go_at_call 76; refine (C.out _).mono ?_; rintro e wz ⟨rfl, hwz⟩; subst wz))
  go_ret
  exact ⟨_, rfl, HP.out.mc.mach, stir_more HS.out, fun f hf => .inl hf⟩
set_option maxHeartbeats 8000000 in
set_option maxRecDepth 100000 in
theorem end_ok (h : Pre w B q ps gs pb gb pf vC vH ch vs vb vm m xb 1 g at' nx gt gk [] []) (hB : B ≤ w.heap.size) (H0 : 3 ≤ m.handler) (H : m.handler = (m.back.length : Int)) (H1 : m.stack.length < 48) : Calls Tryz.prog 102 #[.pointer (some ⟨q, 0, none⟩), .pointer (some ⟨xb, 0, none⟩)] w (DoOk w B q (feet q ps gs pb gb pf vC vH) xb 1 g at' (rowV gt 0) (rowV gk 0) { m with handler := nth m.back 1, back := less m.back 3 } [0] [] (nth m.back 2) .nilIface) := by
  have HP := Lib.hid h
  have HB := Lib.hid hB
  obtain ⟨c0, c1, c2, c3, c4, c5, c6, c7⟩ := h.x.cells
  obtain ⟨f4, f5, f7⟩ := h.x.free
  obtain ⟨m0, m1, m5, m6, m7, m8, m9⟩ := h.mc.cells
  obtain ⟨n1, n2, n3⟩ := h.mc.ptrs
  have L := Lib.hid (fun n => len_any (h.drewN n).mc.bk)
  have LS := Lib.hid (fun n => len_any (h.drewN n).mc.st)
  have hb := h.mc.bk.fits
  have hs := h.mc.st.fits
  obtain ⟨nb, hnb⟩ : ∃ n, m.back.length = n := ⟨_, rfl⟩
  obtain ⟨ns, hns⟩ : ∃ n, m.stack.length = n := ⟨_, rfl⟩
  have UC := Lib.hid (fun n => uncatch_any (h.drewN n).mc (show B ≤ (w.drewN n).heap.size from hB) (by omega))
  rw [H] at m1 H0
  rw [hnb] at L m1 H0
  rw [hns] at LS H1
  have hd : decide ((nb : Int) < 3) = false := decide_eq_false (by omega)
  have he : ((nb : Int) != (nb : Int)) = false := by simp
  have hd2 : decide ((48 : Int) ≤ (ns : Int)) = false := decide_eq_false (by omega)
  clear h hB hnb hns H
  go_enter Tryz.func102, Tryz.ntmps102
  go_wp2_with fail
  go_quiet ((go_at_call 66; exact Calls.quiet_of_same (L.out _)))
  have HS := Lib.hid (stir_drewN w nq (feet q ps gs pb gb pf vC vH))
  have HP := Lib.hid (HP.out.drewN nq)
  go_wp2_with (go_at_call 66; refine (LS.out _).mono ?_; rintro e wz ⟨rfl, hwz⟩; subst wz)
  refine (UC.out _).mono ?_
  rintro e w1 ⟨rfl, hM, hS⟩
  have HM := Lib.hid hM
  have HX := Lib.hid (HP.out.x.touch hS HP.out.nx HP.out.nt HP.out.nk)
  have HS := Lib.hid (HS.out.trans hS (fun f hf => .inl hf))
  clear hM hS c0 c1 c2 c3 c4 c5 c6 c7 f4 f5 f7 m0 m1 m5 m6 m7 m8 m9 n1 n2 n3 UC
  have c7 := HX.out.cells.2.2.2.2.2.2.2
  have f7 := HX.out.free.2.2
  generalize nth m.back 2 = y2 at *
  have hM2 := HM.out.touch (Stirred.setCell w1 ⟨xb, 7, none⟩ (.int .i64 y2)) (fun f hf hm => HP.out.nx (by rw [List.mem_singleton] at hm; exact (show f = xb from hm) ▸ hf))
  have HM2 := Lib.hid hM2
  have HX2 := Lib.hid ((set8 HX.out.box).1 y2)
  have HS2 := Lib.hid (HS.out.more (cs := xb :: (feet q ps gs pb gb pf vC vH)) (fun f hf => List.mem_cons_of_mem _ hf) |>.trans (Stirred.setCell w1 ⟨xb, 7, none⟩ (.int .i64 y2)) (fun f hf => .inl (by rw [List.mem_singleton.1 hf]; exact List.mem_cons_self)))
  obtain ⟨w2, gl, hw2, hgl, HRW, HB1, HG⟩ := row_box (w1.setCell ⟨xb, 7, none⟩ (.int .i64 y2)) [(0 : Int)]
  change (w1.setCell ⟨xb, 7, none⟩ (.int .i64 y2)).alloc (.cells #[.int .i64 0] 3) = w2 at hw2
  have hz : (w1.setCell ⟨xb, 7, none⟩ (.int .i64 y2)).heap.size = w1.heap.size := by simp
  rw [hz] at hgl
  clear hz hM2
  have hX4 := (Stirred.of_below HB1.out []).whole HX2.out List.not_mem_nil
  have c4' : w2.cell? ⟨xb, 4, none⟩ = some (.slice none 0 0) := whole_cell hX4 rfl
  have f4' : w2.frozen? ⟨xb, 4, none⟩ = false := whole_frozen hX4 4
  clear hX4
  go_wp2
  go_ret
  exact ok_row4 HM2.out.mach HX2.out HP.out.nx HS2.out (fun f hf => .inl hf) HRW.out HB1.out HG.out
set_option maxHeartbeats 8000000 in
set_option maxRecDepth 100000 in
theorem ctl_throw_zero (h : Pre w B q ps gs pb gb pf vC vH ch vs vb vm m xb 45 g at' nx gt gk [p] []) (hB : B ≤ w.heap.size) (hp : p = 0) : Calls Tryz.prog 88 #[.pointer (some ⟨q, 0, none⟩), .pointer (some ⟨xb, 0, none⟩)] w (DoOk w B q (feet q ps gs pb gb pf vC vH) xb 45 g at' (rowV gt 1) (rowV gk 0) m [] [] nx .nilIface) := by
  have C := Lib.hid (throw_zero h hB hp)
  have HX := Lib.hid h.x
  have c0 := h.x.cells.1
  clear h hB hp
  go_enter Tryz.func88, Tryz.ntmps88
  go_wp2_with fail
  refine C.out.mono ?_
  rintro e w1 ⟨F', vgs, vgb, L, rfl, h1⟩
  have HR := Lib.hid h1
  clear h1
  go_wp2
  go_ret
  exact ⟨F', vgs, vgb, L, rfl, HR.out⟩
set_option maxHeartbeats 8000000 in
set_option maxRecDepth 100000 in
theorem ctl_throw_some (h : Pre w B q ps gs pb gb pf vC vH ch vs vb vm m xb 45 g at' nx gt gk [p] []) (hB : B ≤ w.heap.size) (hp : p ≠ 0) (hl : 0 < m.stack.length) : Calls Tryz.prog 88 #[.pointer (some ⟨q, 0, none⟩), .pointer (some ⟨xb, 0, none⟩)] w (DoErr w B q (feet q ps gs pb gb pf vC vH) xb { m with stack := less m.stack 1 } (p) at') := by
  have C := Lib.hid (throw_some h hB hp hl)
  have HX := Lib.hid h.x
  have c0 := h.x.cells.1
  clear h hB hp hl
  go_enter Tryz.func88, Tryz.ntmps88
  go_wp2_with fail
  refine C.out.mono ?_
  rintro e w1 ⟨F', rfl, h1⟩
  have HR := Lib.hid h1
  clear h1
  go_wp2
  go_ret
  exact ⟨F', rfl, HR.out⟩
set_option maxHeartbeats 8000000 in
set_option maxRecDepth 100000 in
theorem ctl_end_broken_low (h : Pre w B q ps gs pb gb pf vC vH ch vs vb vm m xb 1 g at' nx gt gk [] []) (hB : B ≤ w.heap.size) (H : m.handler < 3) : Calls Tryz.prog 88 #[.pointer (some ⟨q, 0, none⟩), .pointer (some ⟨xb, 0, none⟩)] w (DoErr w B q (feet q ps gs pb gb pf vC vH) xb m (-25) at') := by
  have C := Lib.hid (end_broken_low h hB H)
  have HX := Lib.hid h.x
  have c0 := h.x.cells.1
  clear h hB H
  go_enter Tryz.func88, Tryz.ntmps88
  go_wp2_with fail
  refine C.out.mono ?_
  rintro e w1 ⟨F', rfl, h1⟩
  have HR := Lib.hid h1
  clear h1
  go_wp2
  go_ret
  exact ⟨F', rfl, HR.out⟩
set_option maxHeartbeats 8000000 in
set_option maxRecDepth 100000 in
theorem ctl_end_broken_else (h : Pre w B q ps gs pb gb pf vC vH ch vs vb vm m xb 1 g at' nx gt gk [] []) (hB : B ≤ w.heap.size) (H0 : 3 ≤ m.handler) (H : m.handler ≠ (m.back.length : Int)) : Calls Tryz.prog 88 #[.pointer (some ⟨q, 0, none⟩), .pointer (some ⟨xb, 0, none⟩)] w (DoErr w B q (feet q ps gs pb gb pf vC vH) xb m (-25) at') := by
  have C := Lib.hid (end_broken_else h hB H0 H)
  have HX := Lib.hid h.x
  have c0 := h.x.cells.1
  clear h hB H0 H
  go_enter Tryz.func88, Tryz.ntmps88
  go_wp2_with fail
  refine C.out.mono ?_
  rintro e w1 ⟨F', rfl, h1⟩
  have HR := Lib.hid h1
  clear h1
  go_wp2
  go_ret
  exact ⟨F', rfl, HR.out⟩
set_option maxHeartbeats 8000000 in
set_option maxRecDepth 100000 in
theorem ctl_end_full (h : Pre w B q ps gs pb gb pf vC vH ch vs vb vm m xb 1 g at' nx gt gk [] []) (hB : B ≤ w.heap.size) (H0 : 3 ≤ m.handler) (H : m.handler = (m.back.length : Int)) (H1 : 48 ≤ m.stack.length) : Calls Tryz.prog 88 #[.pointer (some ⟨q, 0, none⟩), .pointer (some ⟨xb, 0, none⟩)] w (DoErr w B q (feet q ps gs pb gb pf vC vH) xb m (-3) at') := by
  have C := Lib.hid (end_full h hB H0 H H1)
  have HX := Lib.hid h.x
  have c0 := h.x.cells.1
  clear h hB H0 H H1
  go_enter Tryz.func88, Tryz.ntmps88
  go_wp2_with fail
  refine C.out.mono ?_
  rintro e w1 ⟨F', rfl, h1⟩
  have HR := Lib.hid h1
  clear h1
  go_wp2
  go_ret
  exact ⟨F', rfl, HR.out⟩
set_option maxHeartbeats 8000000 in
set_option maxRecDepth 100000 in
theorem ctl_end_ok (h : Pre w B q ps gs pb gb pf vC vH ch vs vb vm m xb 1 g at' nx gt gk [] []) (hB : B ≤ w.heap.size) (H0 : 3 ≤ m.handler) (H : m.handler = (m.back.length : Int)) (H1 : m.stack.length < 48) : Calls Tryz.prog 88 #[.pointer (some ⟨q, 0, none⟩), .pointer (some ⟨xb, 0, none⟩)] w (DoOk w B q (feet q ps gs pb gb pf vC vH) xb 1 g at' (rowV gt 0) (rowV gk 0) { m with handler := nth m.back 1, back := less m.back 3 } [0] [] (nth m.back 2) .nilIface) := by
  have C := Lib.hid (end_ok h hB H0 H H1)
  have HX := Lib.hid h.x
  have c0 := h.x.cells.1
  clear h hB H0 H H1
  go_enter Tryz.func88, Tryz.ntmps88
  go_wp2_with fail
  refine C.out.mono ?_
  rintro e w1 ⟨F', vgs, vgb, L, rfl, h1⟩
  have HR := Lib.hid h1
  clear h1
  go_wp2
  go_ret
  exact ⟨F', vgs, vgb, L, rfl, HR.out⟩
end
end Go.Proofs.YtlomfmilohbgpaaGreatDoor.Inn
/- Package inner: a catch. -/
namespace Go.Proofs.YtlomfmilohbgpaaGreatDoor.Inn
open Go.RowKit Book Mem Mach
set_option linter.unusedVariables false
set_option linter.unusedSimpArgs false
section
variable {w : World} {B q ps gs pb gb pf : Nat} {vC vH : Value} {ch : List Int} {vs vb vm : Value} {m : M} {xb : Nat} {g at' nx : Int} {gt gk : Nat} {x y z p : Int}
theorem S4 {w' : World} {vt vb vgs vgb : Value} {k : Int} (h8 : w'.heap[xb]? = some (.cells (cells8 k g at' nx vt vb vgs vgb) 103 (0, 0))) (hq : w'.heap[q]? = some (.cells (cells13 m vs vb vm ps pb pf) 62 (0, 0))) : True := trivial
theorem keep4 {w' : World} {vt vk vgs vgb : Value} {k : Int} (h8 : w'.heap[xb]? = some (.cells (cells8 k g at' nx vt vk vgs vgb) 103 (0, 0))) (hq : w'.heap[q]? = some (.cells (cells13 m vs vb vm ps pb pf) 62 (0, 0))) :
    w'.cell? ⟨xb, 7, none⟩ = some (.int .i64 nx) ∧ w'.cell? ⟨q, 1, none⟩ = some (.int .i64 m.handler) ∧ w'.cell? ⟨q, 10, none⟩ = some (.pointer (some ⟨ps, 0, none⟩)) ∧ w'.cell? ⟨xb, 2, none⟩ = some vt :=
  ⟨whole_cell h8 rfl, whole_cell hq rfl, whole_cell hq rfl, whole_cell h8 rfl⟩
set_option maxHeartbeats 8000000 in
set_option maxRecDepth 100000 in
theorem ctl_catch (h : Pre w B q ps gs pb gb pf vC vH ch vs vb vm m xb 46 g at' nx gt gk [p] []) (hB : B ≤ w.heap.size) (hl : 0 < m.stack.length) : Calls Tryz.prog 88 #[.pointer (some ⟨q, 0, none⟩), .pointer (some ⟨xb, 0, none⟩)] w (DoOk w B q (feet q ps gs pb gb pf vC vH) xb 46 g at' (rowV gt 1) (rowV gk 0) { m with handler := (m.back.length : Int) + 3 } [] [nx, m.handler, (m.stack.length : Int) - 1, 1] p .nilIface) := by
  have HP := Lib.hid h
  have HB := Lib.hid hB
  obtain ⟨c0, c1, c2, c3, c4, c5, c6, c7⟩ := h.x.cells
  obtain ⟨f4, f5, f7⟩ := h.x.free
  obtain ⟨m0, m1, m5, m6, m7, m8, m9⟩ := h.mc.cells
  obtain ⟨n1, n2, n3⟩ := h.mc.ptrs
  have k0 := h.x.st (j := 0) (x := p) rfl
  have hs := h.mc.st.fits
  have hb := h.mc.bk.fits
  have LS := Lib.hid (fun n => len_any (h.drewN n).mc.st)
  have hqx := h.qx
  obtain ⟨ns, hns⟩ : ∃ n, m.stack.length = n := ⟨_, rfl⟩
  obtain ⟨nb, hnb⟩ : ∃ n, m.back.length = n := ⟨_, rfl⟩
  have HNN := Lib.hid (And.intro hns hnb)
  rw [hns] at LS hs hl
  rw [hnb] at hb
  rw [hns, hnb]
  obtain ⟨w1, gl, hw1, hgl, HRW, HB1, HG⟩ := row_box (w.drewN 1) [nx, m.handler, (ns : Int) - 1, 1]
  change w.drew.alloc (.cells #[.int .i64 nx, .int .i64 m.handler, .int .i64 ((ns : Int) - 1), .int .i64 1] 3) = w1 at hw1
  change w.heap.size = gl at hgl
  have hw1' : (w.drewN 1).alloc (.cells #[.int .i64 nx, .int .i64 m.handler, .int .i64 ((ns : Int) - 1), .int .i64 1] 3) = w1 := hw1
  have hwr : IntKind.i64.wrap ((ns : Int) - 1) = (ns : Int) - 1 := IntWalk.i64_in _ (by omega)
  have HP0 := Lib.hid (h.drewN 1)
  have HP1 := Lib.hid (HP0.out.below HB1.out)
  have HX3 := Lib.hid ((set8 HP1.out.x.box).2.2 (rowV gl 4))
  have HQ3 := Lib.hid ((Stirred.setCell w1 ⟨xb, 5, none⟩ (rowV gl 4)).whole HP1.out.mc.box (by rw [List.mem_singleton]; exact hqx))
  obtain ⟨w2, hw2⟩ : ∃ w2, w1.setCell ⟨xb, 5, none⟩ (.slice (some ⟨gl, 0, none⟩) 4 4) = w2 := ⟨_, rfl⟩
  have HW2 := Lib.hid hw2
  have h3x := HX3.out
  have h3q := HQ3.out
  rw [show w1.setCell ⟨xb, 5, none⟩ (rowV gl 4) = w2 from hw2] at h3x h3q
  have HX3 := Lib.hid h3x
  have HQ3 := Lib.hid h3q
  clear h3x h3q
  have c5' := HP1.out.x.cells.2.2.2.2.2.1
  have f5' := HP1.out.x.free.2.1
  clear h hB hns hnb
  go_enter Tryz.func88, Tryz.ntmps88
  go_wp2_with fail
  go_region_held3 (fun w' => w'.cell? ⟨xb, 7, none⟩ = some (.int .i64 nx) ∧ w'.cell? ⟨q, 1, none⟩ = some (.int .i64 m.handler) ∧ w'.cell? ⟨q, 10, none⟩ = some (.pointer (some ⟨ps, 0, none⟩)) ∧ w'.cell? ⟨xb, 2, none⟩ = some (rowV gt 1))
    (first
      | exact ⟨c7, m1, n1, c2⟩
      | exact keep4 HP1.out.x.box HP1.out.mc.box
      | exact keep4 HX3.out HQ3.out)
    (first
      | (go_at_call 66; refine (LS.out 1).mono ?_; rintro e wz ⟨rfl, hwz⟩; subst wz))
  have hsx : Stirred w1 w2 [xb] := by rw [← HW2.out]; exact Stirred.setCell w1 ⟨xb, 5, none⟩ (rowV gl 4)
  have hX3 : w2.heap[xb]? = some (.cells (cells8 46 g at' nx (rowV gt 1) (rowV gk 0) (.slice none 0 0) (rowV gl 4)) 103 (0, 0)) := HX3.out
  have hM2 := HP1.out.mc.touch hsx (fun f hf hm => HP1.out.nx (by rw [List.mem_singleton] at hm; exact (show f = xb from hm) ▸ hf))
  have hrs := hsx.whole HP1.out.x.rs (by rw [List.mem_singleton]; exact Ne.symm (apart_T HP1.out.x.box HP1.out.x.rs (by decide)))
  have hne : gl ≠ xb := fun e => by have h1 := whole_lt HP0.out.x.box; have h2 := HG.out; omega
  have hrw := hsx.whole HRW.out.1 (by rw [List.mem_singleton]; exact hne)
  clear hw1 hw1' hw2 hgl c0 c1 c2 c3 c4 c5 c6 c7 f4 f5 f7 m0 m1 m5 m6 m7 m8 m9 n1 n2 n3 k0 c5' f5' LS
  obtain ⟨n1, n2, n3⟩ := hM2.ptrs
  have m1 : w2.cell? ⟨q, 1, none⟩ = some (.int .i64 m.handler) := whole_cell hM2.box rfl
  have fm1 : w2.frozen? ⟨q, 1, none⟩ = false := whole_frozen hM2.box 1
  have c2 : w2.cell? ⟨xb, 2, none⟩ = some (rowV gt 1) := whole_cell hX3 rfl
  have c7 : w2.cell? ⟨xb, 7, none⟩ = some (.int .i64 nx) := whole_cell hX3 rfl
  have f7 : w2.frozen? ⟨xb, 7, none⟩ = false := whole_frozen hX3 7
  have k0 : w2.cell? ⟨gt, 0, none⟩ = some (.int .i64 p) := whole_cell hrs rfl
  have LB := Lib.hid (len_any hM2.bk)
  rw [HNN.out.2] at LB
  have HM3 := Lib.hid (hM2.set' 1 (.int .i64 ((nb : Int) + 3)) { m with handler := (nb : Int) + 3 } rfl rfl rfl rfl)
  have hqm : xb ∉ [q] := by rw [List.mem_singleton]; exact Ne.symm hqx
  have hX4 := (Stirred.setCell w2 ⟨q, 1, none⟩ (.int .i64 ((nb : Int) + 3))).whole hX3 hqm
  have HX5 := Lib.hid ((set8 hX4).1 p)
  have hglF : gl ∉ feet q ps gs pb gb pf vC vH := fun hm => by have h1 := (HP0.out.mc.feet_lt gl hm).2; have h2 := HG.out; omega
  have hst := ((stir_q (ps := ps) (gs := gs) (pb := pb) (gb := gb) (pf := pf) (vC := vC) (vH := vH) w2 1 (.int .i64 ((nb : Int) + 3))).more (cs := xb :: feet q ps gs pb gb pf vC vH) (fun f hf => List.mem_cons_of_mem _ hf)).trans (Stirred.setCell (w2.setCell ⟨q, 1, none⟩ (.int .i64 ((nb : Int) + 3))) ⟨xb, 7, none⟩ (.int .i64 p)) (fun f hf => .inl (by rw [List.mem_singleton.1 hf]; exact List.mem_cons_self))
  have HST := Lib.hid hst
  have HRW5 := Lib.hid (hst.whole hrw (by rw [List.mem_cons]; rintro (e | e); exact hne e; exact hglF e))
  have HS2 := Lib.hid ((((stir_drewN w 1 (xb :: feet q ps gs pb gb pf vC vH)).trans (Stirred.of_below HB1.out []) (fun f hf => by cases hf)).trans hsx (fun f hf => .inl (by rw [List.mem_singleton.1 hf]; exact List.mem_cons_self))))
  clear hsx hX3 hM2 hrs hrw hst hqm hX4
  go_wp2_with (go_at_call 66; refine LB.out.mono ?_; rintro e wz ⟨rfl, hwz⟩; subst wz)
  go_ret
  refine ⟨_, _, _, [gl], rfl, (HM3.out.1.touch (Stirred.setCell _ ⟨xb, 7, none⟩ (.int .i64 p)) (fun f hf hm => HP1.out.nx (by rw [List.mem_singleton] at hm; exact (show f = xb from hm) ▸ hf))).mach, HX5.out, HS2.out.trans HST.out (fun f hf => .inl hf), fun f hf => .inl hf, Dep.nil _ _, Dep.row HRW5.out rfl, fun b hb' => ?_⟩
  rw [List.mem_singleton] at hb'
  subst hb'
  exact ⟨whole_lt HRW5.out, hne, hglF⟩
end
end Go.Proofs.YtlomfmilohbgpaaGreatDoor.Inn
/- A step leaves a machine of chapter 9 right. -/
namespace Go.Proofs.YtlomfmilohbgpaaGreatDoor.Mach
open Go.RowKit (wrap64)
open Go.Proofs.YtlomfmilohbgpaaGreatDoor.Cell (In)
set_option linter.unusedVariables false
set_option linter.unusedSimpArgs false
/-- the lists have room, all else is as it was -/
theorem right_lists {s : M} (h : Right s) {ip handler : Int} {st bk mem : List Int} (h1 : st.length ≤ 48) (h2 : bk.length ≤ 48) (h3 : mem.length ≤ 3000) : Right { s with ip := ip, handler := handler, stack := st, back := bk, mem := mem } := ⟨h1, h2, h3, h.out, h.read0, h.read1, h.status0, h.status1⟩
theorem right_out {s : M} (h : Right s) {ip : Int} {st : List Int} {t : ByteArray} (h1 : st.length ≤ 48) (h2 : s.out.size + t.size ≤ 2000) : Right { s with ip := ip, stack := st, out := s.out ++ t } := ⟨h1, h.back, h.mem, by show (s.out ++ t).size ≤ 2000; rw [ByteArray.size_append]; exact h2, h.read0, h.read1, h.status0, h.status1⟩
/-- an operation on one cell -/
theorem exec_one (s : M) (i g : Int) {k : Nat} (hk : k ∈ [16, 20, 26, 27]) : exec k s i g = { s with ip := i, stack := less s.stack 1 ++ [(Cell.one k (nth s.stack 0)).1] } := by
  simp only [List.mem_cons, List.not_mem_nil, or_false] at hk
  rcases hk with rfl | rfl | rfl | rfl <;> rfl
/-- an operation on two cells -/
theorem exec_two (s : M) (i g : Int) {k : Nat} (hk : k ∈ [11, 12, 13, 14, 15, 17, 18, 19, 21, 22, 23, 24, 25, 28, 29]) : exec k s i g = if (Cell.two k (nth s.stack 1) (nth s.stack 0)).2 = true then { s with ip := i, stack := less s.stack 2 ++ [(Cell.two k (nth s.stack 1) (nth s.stack 0)).1] } else fault s (-10) := by
  simp only [List.mem_cons, List.not_mem_nil, or_false] at hk
  rcases hk with rfl | rfl | rfl | rfl | rfl | rfl | rfl | rfl | rfl | rfl | rfl | rfl | rfl | rfl | rfl <;> rfl
theorem right_one {s : M} (h : Right s) {i g : Int} (k : Nat) (hk : k ∈ [16, 20, 26, 27]) (hl : (less s.stack 1).length + 1 ≤ 48) : Right (exec k s i g) := by
  rw [exec_one s i g hk]
  exact right_lists h (by rw [List.length_append]; exact hl) h.back h.mem
theorem right_two {s : M} (h : Right s) {i g : Int} (k : Nat) (hk : k ∈ [11, 12, 13, 14, 15, 17, 18, 19, 21, 22, 23, 24, 25, 28, 29]) (hl : (less s.stack 2).length + 1 ≤ 48) : Right (exec k s i g) := by
  rw [exec_two s i g hk]
  split
  · exact right_lists h (by rw [List.length_append]; exact hl) h.back h.mem
  · exact fault_right h _
theorem exec_right {s : M} (h : Right s) (k : Nat) (hk : k < 48) (i g : Int) (h1 : (movesOf k).1 ≤ s.stack.length) (h2 : (movesOf k).2.1 ≤ s.back.length) (h3 : (s.stack.length : Int) - (movesOf k).1 + (movesOf k).2.2.1 ≤ 48) (h4 : (s.back.length : Int) - (movesOf k).2.1 + (movesOf k).2.2.2 ≤ 48) : Right (exec k s i g) := by
  have b1 := h.stack
  have b2 := h.back
  have b3 := h.mem
  match k, hk with
  | 0, _ =>
    rw [show movesOf 0 = (0, 0, 0, 0) from rfl] at h1 h2 h3 h4
    exact ⟨h.stack, h.back, h.mem, h.out, h.read0, h.read1, by show (0 : Int) ≤ 1; decide, by show (1 : Int) ≤ 2; decide⟩
  | 1, _ =>
    rw [show movesOf 1 = (0, 0, 0, 0) from rfl] at h1 h2 h3 h4
    simp only [exec]
    repeat' split
    all_goals first | exact fault_right h _ | exact right_lists h (by (simp only [List.length_append, List.length_cons, List.length_nil, List.length_set, less_length] at *; omega)) (by (simp only [List.length_append, List.length_cons, List.length_nil, List.length_set, less_length] at *; omega)) (by (simp only [List.length_append, List.length_cons, List.length_nil, List.length_set, less_length] at *; omega))
  | 2, _ =>
    rw [show movesOf 2 = (0, 0, 1, 0) from rfl] at h1 h2 h3 h4
    exact right_lists h (by (simp only [List.length_append, List.length_cons, List.length_nil, List.length_set, less_length] at *; omega)) (by (simp only [List.length_append, List.length_cons, List.length_nil, List.length_set, less_length] at *; omega)) (by (simp only [List.length_append, List.length_cons, List.length_nil, List.length_set, less_length] at *; omega))
  | 3, _ =>
    rw [show movesOf 3 = (0, 0, 0, 0) from rfl] at h1 h2 h3 h4
    exact right_lists h (by (simp only [List.length_append, List.length_cons, List.length_nil, List.length_set, less_length] at *; omega)) (by (simp only [List.length_append, List.length_cons, List.length_nil, List.length_set, less_length] at *; omega)) (by (simp only [List.length_append, List.length_cons, List.length_nil, List.length_set, less_length] at *; omega))
  | 4, _ =>
    rw [show movesOf 4 = (1, 0, 0, 0) from rfl] at h1 h2 h3 h4
    exact right_lists h (by (simp only [List.length_append, List.length_cons, List.length_nil, List.length_set, less_length] at *; omega)) (by (simp only [List.length_append, List.length_cons, List.length_nil, List.length_set, less_length] at *; omega)) (by (simp only [List.length_append, List.length_cons, List.length_nil, List.length_set, less_length] at *; omega))
  | 5, _ =>
    rw [show movesOf 5 = (0, 1, 0, 0) from rfl] at h1 h2 h3 h4
    exact right_lists h (by (simp only [List.length_append, List.length_cons, List.length_nil, List.length_set, less_length] at *; omega)) (by (simp only [List.length_append, List.length_cons, List.length_nil, List.length_set, less_length] at *; omega)) (by (simp only [List.length_append, List.length_cons, List.length_nil, List.length_set, less_length] at *; omega))
  | 6, _ =>
    rw [show movesOf 6 = (1, 0, 2, 0) from rfl] at h1 h2 h3 h4
    exact right_lists h (by (simp only [List.length_append, List.length_cons, List.length_nil, List.length_set, less_length] at *; omega)) (by (simp only [List.length_append, List.length_cons, List.length_nil, List.length_set, less_length] at *; omega)) (by (simp only [List.length_append, List.length_cons, List.length_nil, List.length_set, less_length] at *; omega))
  | 7, _ =>
    rw [show movesOf 7 = (1, 0, 0, 0) from rfl] at h1 h2 h3 h4
    exact right_lists h (by (simp only [List.length_append, List.length_cons, List.length_nil, List.length_set, less_length] at *; omega)) (by (simp only [List.length_append, List.length_cons, List.length_nil, List.length_set, less_length] at *; omega)) (by (simp only [List.length_append, List.length_cons, List.length_nil, List.length_set, less_length] at *; omega))
  | 8, _ =>
    rw [show movesOf 8 = (2, 0, 2, 0) from rfl] at h1 h2 h3 h4
    exact right_lists h (by (simp only [List.length_append, List.length_cons, List.length_nil, List.length_set, less_length] at *; omega)) (by (simp only [List.length_append, List.length_cons, List.length_nil, List.length_set, less_length] at *; omega)) (by (simp only [List.length_append, List.length_cons, List.length_nil, List.length_set, less_length] at *; omega))
  | 9, _ =>
    rw [show movesOf 9 = (2, 0, 3, 0) from rfl] at h1 h2 h3 h4
    exact right_lists h (by (simp only [List.length_append, List.length_cons, List.length_nil, List.length_set, less_length] at *; omega)) (by (simp only [List.length_append, List.length_cons, List.length_nil, List.length_set, less_length] at *; omega)) (by (simp only [List.length_append, List.length_cons, List.length_nil, List.length_set, less_length] at *; omega))
  | 10, _ =>
    rw [show movesOf 10 = (3, 0, 3, 0) from rfl] at h1 h2 h3 h4
    exact right_lists h (by (simp only [List.length_append, List.length_cons, List.length_nil, List.length_set, less_length] at *; omega)) (by (simp only [List.length_append, List.length_cons, List.length_nil, List.length_set, less_length] at *; omega)) (by (simp only [List.length_append, List.length_cons, List.length_nil, List.length_set, less_length] at *; omega))
  | 11, _ =>
    rw [show movesOf 11 = (2, 0, 1, 0) from rfl] at h1 h2 h3 h4
    exact right_two h 11 (by decide) (by (simp only [List.length_append, List.length_cons, List.length_nil, List.length_set, less_length] at *; omega))
  | 12, _ =>
    rw [show movesOf 12 = (2, 0, 1, 0) from rfl] at h1 h2 h3 h4
    exact right_two h 12 (by decide) (by (simp only [List.length_append, List.length_cons, List.length_nil, List.length_set, less_length] at *; omega))
  | 13, _ =>
    rw [show movesOf 13 = (2, 0, 1, 0) from rfl] at h1 h2 h3 h4
    exact right_two h 13 (by decide) (by (simp only [List.length_append, List.length_cons, List.length_nil, List.length_set, less_length] at *; omega))
  | 14, _ =>
    rw [show movesOf 14 = (2, 0, 1, 0) from rfl] at h1 h2 h3 h4
    exact right_two h 14 (by decide) (by (simp only [List.length_append, List.length_cons, List.length_nil, List.length_set, less_length] at *; omega))
  | 15, _ =>
    rw [show movesOf 15 = (2, 0, 1, 0) from rfl] at h1 h2 h3 h4
    exact right_two h 15 (by decide) (by (simp only [List.length_append, List.length_cons, List.length_nil, List.length_set, less_length] at *; omega))
  | 16, _ =>
    rw [show movesOf 16 = (1, 0, 1, 0) from rfl] at h1 h2 h3 h4
    exact right_one h 16 (by decide) (by (simp only [List.length_append, List.length_cons, List.length_nil, List.length_set, less_length] at *; omega))
  | 17, _ =>
    rw [show movesOf 17 = (2, 0, 1, 0) from rfl] at h1 h2 h3 h4
    exact right_two h 17 (by decide) (by (simp only [List.length_append, List.length_cons, List.length_nil, List.length_set, less_length] at *; omega))
  | 18, _ =>
    rw [show movesOf 18 = (2, 0, 1, 0) from rfl] at h1 h2 h3 h4
    exact right_two h 18 (by decide) (by (simp only [List.length_append, List.length_cons, List.length_nil, List.length_set, less_length] at *; omega))
  | 19, _ =>
    rw [show movesOf 19 = (2, 0, 1, 0) from rfl] at h1 h2 h3 h4
    exact right_two h 19 (by decide) (by (simp only [List.length_append, List.length_cons, List.length_nil, List.length_set, less_length] at *; omega))
  | 20, _ =>
    rw [show movesOf 20 = (1, 0, 1, 0) from rfl] at h1 h2 h3 h4
    exact right_one h 20 (by decide) (by (simp only [List.length_append, List.length_cons, List.length_nil, List.length_set, less_length] at *; omega))
  | 21, _ =>
    rw [show movesOf 21 = (2, 0, 1, 0) from rfl] at h1 h2 h3 h4
    exact right_two h 21 (by decide) (by (simp only [List.length_append, List.length_cons, List.length_nil, List.length_set, less_length] at *; omega))
  | 22, _ =>
    rw [show movesOf 22 = (2, 0, 1, 0) from rfl] at h1 h2 h3 h4
    exact right_two h 22 (by decide) (by (simp only [List.length_append, List.length_cons, List.length_nil, List.length_set, less_length] at *; omega))
  | 23, _ =>
    rw [show movesOf 23 = (2, 0, 1, 0) from rfl] at h1 h2 h3 h4
    exact right_two h 23 (by decide) (by (simp only [List.length_append, List.length_cons, List.length_nil, List.length_set, less_length] at *; omega))
  | 24, _ =>
    rw [show movesOf 24 = (2, 0, 1, 0) from rfl] at h1 h2 h3 h4
    exact right_two h 24 (by decide) (by (simp only [List.length_append, List.length_cons, List.length_nil, List.length_set, less_length] at *; omega))
  | 25, _ =>
    rw [show movesOf 25 = (2, 0, 1, 0) from rfl] at h1 h2 h3 h4
    exact right_two h 25 (by decide) (by (simp only [List.length_append, List.length_cons, List.length_nil, List.length_set, less_length] at *; omega))
  | 26, _ =>
    rw [show movesOf 26 = (1, 0, 1, 0) from rfl] at h1 h2 h3 h4
    exact right_one h 26 (by decide) (by (simp only [List.length_append, List.length_cons, List.length_nil, List.length_set, less_length] at *; omega))
  | 27, _ =>
    rw [show movesOf 27 = (1, 0, 1, 0) from rfl] at h1 h2 h3 h4
    exact right_one h 27 (by decide) (by (simp only [List.length_append, List.length_cons, List.length_nil, List.length_set, less_length] at *; omega))
  | 28, _ =>
    rw [show movesOf 28 = (2, 0, 1, 0) from rfl] at h1 h2 h3 h4
    exact right_two h 28 (by decide) (by (simp only [List.length_append, List.length_cons, List.length_nil, List.length_set, less_length] at *; omega))
  | 29, _ =>
    rw [show movesOf 29 = (2, 0, 1, 0) from rfl] at h1 h2 h3 h4
    exact right_two h 29 (by decide) (by (simp only [List.length_append, List.length_cons, List.length_nil, List.length_set, less_length] at *; omega))
  | 30, _ =>
    rw [show movesOf 30 = (1, 0, 1, 0) from rfl] at h1 h2 h3 h4
    simp only [exec]
    repeat' split
    all_goals first | exact fault_right h _ | exact right_lists h (by (simp only [List.length_append, List.length_cons, List.length_nil, List.length_set, less_length] at *; omega)) (by (simp only [List.length_append, List.length_cons, List.length_nil, List.length_set, less_length] at *; omega)) (by (simp only [List.length_append, List.length_cons, List.length_nil, List.length_set, less_length] at *; omega))
  | 31, _ =>
    rw [show movesOf 31 = (2, 0, 0, 0) from rfl] at h1 h2 h3 h4
    simp only [exec]
    repeat' split
    all_goals first | exact fault_right h _ | exact right_lists h (by (simp only [List.length_append, List.length_cons, List.length_nil, List.length_set, less_length] at *; omega)) (by (simp only [List.length_append, List.length_cons, List.length_nil, List.length_set, less_length] at *; omega)) (by (simp only [List.length_append, List.length_cons, List.length_nil, List.length_set, less_length] at *; omega))
  | 32, _ =>
    rw [show movesOf 32 = (2, 0, 0, 0) from rfl] at h1 h2 h3 h4
    simp only [exec]
    repeat' split
    all_goals first | exact fault_right h _ | exact right_lists h (by (simp only [List.length_append, List.length_cons, List.length_nil, List.length_set, less_length] at *; omega)) (by (simp only [List.length_append, List.length_cons, List.length_nil, List.length_set, less_length] at *; omega)) (by (simp only [List.length_append, List.length_cons, List.length_nil, List.length_set, less_length] at *; omega))
  | 33, _ =>
    rw [show movesOf 33 = (1, 0, 0, 1) from rfl] at h1 h2 h3 h4
    exact right_lists h (by (simp only [List.length_append, List.length_cons, List.length_nil, List.length_set, less_length] at *; omega)) (by (simp only [List.length_append, List.length_cons, List.length_nil, List.length_set, less_length] at *; omega)) (by (simp only [List.length_append, List.length_cons, List.length_nil, List.length_set, less_length] at *; omega))
  | 34, _ =>
    rw [show movesOf 34 = (0, 1, 1, 0) from rfl] at h1 h2 h3 h4
    exact right_lists h (by (simp only [List.length_append, List.length_cons, List.length_nil, List.length_set, less_length] at *; omega)) (by (simp only [List.length_append, List.length_cons, List.length_nil, List.length_set, less_length] at *; omega)) (by (simp only [List.length_append, List.length_cons, List.length_nil, List.length_set, less_length] at *; omega))
  | 35, _ =>
    rw [show movesOf 35 = (0, 1, 1, 1) from rfl] at h1 h2 h3 h4
    exact right_lists h (by (simp only [List.length_append, List.length_cons, List.length_nil, List.length_set, less_length] at *; omega)) (by (simp only [List.length_append, List.length_cons, List.length_nil, List.length_set, less_length] at *; omega)) (by (simp only [List.length_append, List.length_cons, List.length_nil, List.length_set, less_length] at *; omega))
  | 36, _ =>
    rw [show movesOf 36 = (2, 0, 0, 2) from rfl] at h1 h2 h3 h4
    exact right_lists h (by (simp only [List.length_append, List.length_cons, List.length_nil, List.length_set, less_length] at *; omega)) (by (simp only [List.length_append, List.length_cons, List.length_nil, List.length_set, less_length] at *; omega)) (by (simp only [List.length_append, List.length_cons, List.length_nil, List.length_set, less_length] at *; omega))
  | 37, _ =>
    rw [show movesOf 37 = (0, 2, 0, 2) from rfl] at h1 h2 h3 h4
    simp only [exec]
    repeat' split
    all_goals first | exact fault_right h _ | exact right_lists h (by (simp only [List.length_append, List.length_cons, List.length_nil, List.length_set, less_length] at *; omega)) (by (simp only [List.length_append, List.length_cons, List.length_nil, List.length_set, less_length] at *; omega)) (by (simp only [List.length_append, List.length_cons, List.length_nil, List.length_set, less_length] at *; omega))
  | 38, _ =>
    rw [show movesOf 38 = (1, 2, 0, 2) from rfl] at h1 h2 h3 h4
    simp only [exec]
    repeat' split
    all_goals first | exact fault_right h _ | exact right_lists h (by (simp only [List.length_append, List.length_cons, List.length_nil, List.length_set, less_length] at *; omega)) (by (simp only [List.length_append, List.length_cons, List.length_nil, List.length_set, less_length] at *; omega)) (by (simp only [List.length_append, List.length_cons, List.length_nil, List.length_set, less_length] at *; omega))
  | 39, _ =>
    rw [show movesOf 39 = (0, 3, 1, 3) from rfl] at h1 h2 h3 h4
    exact right_lists h (by (simp only [List.length_append, List.length_cons, List.length_nil, List.length_set, less_length] at *; omega)) (by (simp only [List.length_append, List.length_cons, List.length_nil, List.length_set, less_length] at *; omega)) (by (simp only [List.length_append, List.length_cons, List.length_nil, List.length_set, less_length] at *; omega))
  | 40, _ =>
    rw [show movesOf 40 = (0, 2, 0, 0) from rfl] at h1 h2 h3 h4
    exact right_lists h (by (simp only [List.length_append, List.length_cons, List.length_nil, List.length_set, less_length] at *; omega)) (by (simp only [List.length_append, List.length_cons, List.length_nil, List.length_set, less_length] at *; omega)) (by (simp only [List.length_append, List.length_cons, List.length_nil, List.length_set, less_length] at *; omega))
  | 41, _ =>
    rw [show movesOf 41 = (1, 0, 0, 0) from rfl] at h1 h2 h3 h4
    simp only [exec]
    split
    · exact fault_right h _
    · rename_i hr; exact right_out h (by (simp only [List.length_append, List.length_cons, List.length_nil, List.length_set, less_length] at *; omega)) (by show s.out.size + 1 ≤ 2000; omega)
  | 42, _ =>
    rw [show movesOf 42 = (1, 0, 0, 0) from rfl] at h1 h2 h3 h4
    simp only [exec]
    split
    · exact fault_right h _
    · rename_i hr; exact right_out h (by (simp only [List.length_append, List.length_cons, List.length_nil, List.length_set, less_length] at *; omega)) (by rw [ByteArray.size_append]; show s.out.size + ((Lib.itoa (nth s.stack 0)).toArray.size + 1) ≤ 2000; rw [List.size_toArray]; omega)
  | 43, _ =>
    rw [show movesOf 43 = (0, 0, 1, 0) from rfl] at h1 h2 h3 h4
    simp only [exec]
    split
    · rename_i hr; exact ⟨by (simp only [List.length_append, List.length_cons, List.length_nil, List.length_set, less_length] at *; omega), b2, b3, h.out, by have := h.read0; show 0 ≤ s.read + 1; omega, by show s.read + 1 ≤ s.inp.size; omega, h.status0, h.status1⟩
    · exact right_lists h (by (simp only [List.length_append, List.length_cons, List.length_nil, List.length_set, less_length] at *; omega)) (by (simp only [List.length_append, List.length_cons, List.length_nil, List.length_set, less_length] at *; omega)) (by (simp only [List.length_append, List.length_cons, List.length_nil, List.length_set, less_length] at *; omega))
  | 44, _ =>
    rw [show movesOf 44 = (1, 0, 0, 1) from rfl] at h1 h2 h3 h4
    simp only [exec]
    repeat' split
    all_goals first | exact fault_right h _ | exact right_lists h (by (simp only [List.length_append, List.length_cons, List.length_nil, List.length_set, less_length] at *; omega)) (by (simp only [List.length_append, List.length_cons, List.length_nil, List.length_set, less_length] at *; omega)) (by (simp only [List.length_append, List.length_cons, List.length_nil, List.length_set, less_length] at *; omega))
  | 45, _ =>
    rw [show movesOf 45 = (1, 0, 0, 0) from rfl] at h1 h2 h3 h4
    simp only [exec]
    split
    · exact right_lists h (by (simp only [List.length_append, List.length_cons, List.length_nil, List.length_set, less_length] at *; omega)) (by (simp only [List.length_append, List.length_cons, List.length_nil, List.length_set, less_length] at *; omega)) (by (simp only [List.length_append, List.length_cons, List.length_nil, List.length_set, less_length] at *; omega))
    · exact fault_right (right_lists (ip := s.ip) (handler := s.handler) h (by (simp only [List.length_append, List.length_cons, List.length_nil, List.length_set, less_length] at *; omega)) b2 b3) _
  | 46, _ =>
    rw [show movesOf 46 = (1, 0, 0, 4) from rfl] at h1 h2 h3 h4
    exact right_lists h (by (simp only [List.length_append, List.length_cons, List.length_nil, List.length_set, less_length] at *; omega)) (by (simp only [List.length_append, List.length_cons, List.length_nil, List.length_set, less_length] at *; omega)) (by (simp only [List.length_append, List.length_cons, List.length_nil, List.length_set, less_length] at *; omega))
  | 47, _ =>
    rw [show movesOf 47 = (0, 0, 0, 0) from rfl] at h1 h2 h3 h4
    exact right_lists h (by (simp only [List.length_append, List.length_cons, List.length_nil, List.length_set, less_length] at *; omega)) (by (simp only [List.length_append, List.length_cons, List.length_nil, List.length_set, less_length] at *; omega)) (by (simp only [List.length_append, List.length_cons, List.length_nil, List.length_set, less_length] at *; omega))
  | n + 48, hn => exact absurd hn (by omega)
/-- a step leaves a machine right -/
theorem step_right {s : M} (h : Right s) : Right (step s) := by
  unfold step
  split
  · exact h
  split
  · exact fault_right h _
  dsimp only
  split
  · split
    · exact fault_right h _
    · rename_i hb
      exact right_lists h h.stack (by simp only [List.length_append, List.length_cons, List.length_nil]; omega) h.mem
  split
  · exact fault_right h _
  rename_i hc
  split
  · exact fault_right h _
  split
  · exact fault_right h _
  split
  · exact fault_right h _
  split
  · exact fault_right h _
  split
  · exact fault_right h _
  exact exec_right h _ (by omega) _ _ (by omega) (by omega) (by omega) (by omega)
theorem run_right {s : M} (h : Right s) (n : Nat) : Right (run n s).1 := by
  induction n generalizing s with
  | zero => exact h
  | succ n ih =>
    by_cases h' : s.status = 0
    · rw [show run (n + 1) s = run n (step s) by rw [run, if_pos h']]
      exact ih (step_right h)
    · rw [run_still h']
      exact h
end Go.Proofs.YtlomfmilohbgpaaGreatDoor.Mach
