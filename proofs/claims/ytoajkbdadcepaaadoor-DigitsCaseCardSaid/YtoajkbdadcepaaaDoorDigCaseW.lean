/- The walk of hollowaylaw3.DigitsCase. -/
import Derived.Test.YtoajkbdadcepaaaDoorDigBackW
import Derived.Test.YtoajkbdadcepaaaDoorDigMore
import Derived.Lib.ConvBytes
import Derived.Deep.LoopGhost
import Derived.Deep.DeepCutAuto
namespace Go.Proofs.YtoajkbdadcepaaaDoor
open Go.RowKit
set_option linter.unusedSimpArgs false
set_option linter.unusedVariables false
/-- the row of bytes in block N: the first k of l are made small -/
def LowRow (N : Nat) (l : List UInt8) (k : Nat) (w : World) : Prop := ∀ j, j < l.length → w.cell? ⟨N, j, none⟩ = some (.int .u8 ((if j < k then Lib.lowerB (l.getD j 0) else l.getD j 0).toNat : Int)) ∧ w.frozen? ⟨N, j, none⟩ = false
theorem LowRow.start (s : ByteArray) (w : World) : LowRow w.heap.size s.data.toList 0 (Lib.bytesWorld w U8 s) := by
  intro j hj
  have hl : s.data.toList.length = s.size := Array.length_toList
  refine ⟨?_, ?_⟩
  · rw [Lib.bytesWorld_cell w U8 s j (by omega), if_neg (by omega)]
  · have h := Lib.bytesWorld_at_new w U8 s
    have hsz : s.size ≤ (Lib.bytesCells w U8 s).size := by unfold Lib.bytesCells; simp
    simp only [World.frozen?, h]
    simp
    omega
theorem LowRow.keep {N k : Nat} {l : List UInt8} {w : World} (h : LowRow N l k w) (hk : k < l.length) (hx : Lib.lowerB (l.getD k 0) = l.getD k 0) : LowRow N l (k + 1) w := by
  intro j hj
  obtain ⟨h1, h2⟩ := h j hj
  refine ⟨?_, h2⟩
  rw [h1]
  by_cases hjk : j < k
  · rw [if_pos hjk, if_pos (by omega)]
  · by_cases he : j = k
    · subst he; rw [if_neg hjk, if_pos (by omega), hx]
    · rw [if_neg hjk, if_neg (by omega)]
theorem LowRow.store {N k : Nat} {l : List UInt8} {w : World} {v : Value} (h : LowRow N l k w) (hk : k < l.length) (hv : v = .int .u8 ((Lib.lowerB (l.getD k 0)).toNat : Int)) : LowRow N l (k + 1) (w.setCell ⟨N, k, none⟩ v) := by
  intro j hj
  obtain ⟨h1, h2⟩ := h j hj
  refine ⟨?_, by rw [World.frozen?_setCell]; exact h2⟩
  by_cases he : j = k
  · subst he
    rw [World.cell?_setCell_same _ _ _ h1, hv, if_pos (by omega)]
  · rw [World.cell?_setCell_other _ _ _ _ (by intro e; injection e; omega), h1]
    by_cases hjk : j < k
    · rw [if_pos hjk, if_pos (by omega)]
    · rw [if_neg hjk, if_neg (by omega)]
theorem upper_cases (c : UInt8) : (65 ≤ (c.toNat : Int) ∧ (c.toNat : Int) ≤ 90 ∧ ((Lib.lowerB c).toNat : Int) = (c.toNat : Int) + 32) ∨ ((c.toNat : Int) < 65 ∧ Lib.lowerB c = c) ∨ (90 < (c.toNat : Int) ∧ 65 ≤ (c.toNat : Int) ∧ Lib.lowerB c = c) := by
  have e := Lib.isUpperB_int c
  by_cases h1 : 65 ≤ (c.toNat : Int)
  · by_cases h2 : (c.toNat : Int) ≤ 90
    · have h3 : Lib.isUpperB c = true := by rw [e]; simp [h1, h2]
      exact .inl ⟨h1, h2, Lib.lowerB_int c h3⟩
    · have h3 : Lib.isUpperB c = false := by rw [e]; simp [h2]
      exact .inr (.inr ⟨by omega, h1, Lib.lowerB_of_not c h3⟩)
  · have h3 : Lib.isUpperB c = false := by rw [e]; simp [h1]
    exact .inr (.inl ⟨by omega, Lib.lowerB_of_not c h3⟩)
theorem quote_ways (s : ByteArray) : (((s.size : Int) == 3) = false ∧ ¬ (s.data.toList.length = 3 ∧ s.data.toList.head? = some 39)) ∨ (∃ h0 : 0 < s.size, ((s.size : Int) == 3) = true ∧ ((s[0].toNat : Int) == 39) = false ∧ ¬ (s.data.toList.length = 3 ∧ s.data.toList.head? = some 39)) ∨ (∃ h0 : 0 < s.size, ((s.size : Int) == 3) = true ∧ ((s[0].toNat : Int) == 39) = true) := by
  by_cases h3 : s.size = 3
  · have h0 : 0 < s.size := by omega
    have k0 := at_data s 0 h0
    by_cases hq : s[0] = 39
    · exact .inr (.inr ⟨h0, by rw [beq_iff_eq]; omega, by rw [hq]; rfl⟩)
    · refine .inr (.inl ⟨h0, by rw [beq_iff_eq]; omega, ?_, ?_⟩)
      · rw [beq_eq_false_iff_ne]; intro e; exact hq (UInt8.toNat_inj.1 (by have : (39 : UInt8).toNat = 39 := rfl; omega))
      · rintro ⟨_, h⟩
        rw [List.head?_eq_getElem?, k0] at h
        exact hq (Option.some.inj h)
  · exact .inl ⟨by rw [beq_eq_false_iff_ne]; omega, fun h => h3 (by rw [← size_len]; exact h.1)⟩
theorem low_text (s : ByteArray) (cap N : Nat) (w : World) (h : LowRow N s.data.toList s.size w) :
    (convert 29 9 (.slice (some ⟨N, 0, none⟩) s.size cap)).run Tryd.prog w = .ok (.string ⟨(s.data.toList.map Lib.lowerB).toArray⟩) w := by
  have hl := size_len s
  have e := run_convert_bytes_arg (P := Tryd.prog) w 29 5 Tryd.underlying29 Tryd.underlying5 N 0 s.size cap ((s.data.toList.map Lib.lowerB).map fun x => (x.toNat : Int)) (by simp [hl])
    (fun i hi => by
      have hil : i < s.data.toList.length := by omega
      rw [Nat.zero_add, (h i hil).1, if_pos hi]
      simp [hil, List.getD, List.getElem?_eq_getElem hil]) 9 Tryd.underlying9
  rw [e]
  congr 2
  simp only [strOfNums, List.map_map]
  exact congrArg (fun x : List UInt8 => (⟨x.toArray⟩ : ByteArray)) (List.map_congr_left fun x _ => by simp)
theorem one_text (c : UInt8) (w : World) :
    (convert 29 9 (.slice (some ⟨w.heap.size, 0, none⟩) 1 1)).run Tryd.prog (w.alloc (.cells #[.int .u8 c.toNat] U8)) = .ok (.string ⟨#[c]⟩) (w.alloc (.cells #[.int .u8 c.toNat] U8)) := by
  have e := run_convert_bytes_arg (P := Tryd.prog) (w.alloc (.cells #[.int .u8 c.toNat] U8)) 29 5 Tryd.underlying29 Tryd.underlying5 w.heap.size 0 1 1 [(c.toNat : Int)] rfl
    (fun i hi => by
      obtain rfl : i = 0 := by omega
      rw [World.cell?_alloc_new]; rfl) 9 Tryd.underlying9
  rw [e]
  congr 2
  simp [strOfNums]
theorem case_ways (s : ByteArray) (b : Int) : 80 < (s.size : Int) ∨ ((s.size : Int) ≤ 80 ∧ b < 2) ∨ ((s.size : Int) ≤ 80 ∧ 2 ≤ b ∧ 36 < b) ∨ ((s.size : Int) ≤ 80 ∧ 2 ≤ b ∧ b ≤ 36) := by omega
theorem bytes_below (w : World) (s : ByteArray) : Below w.heap.size w (Lib.bytesWorld w U8 s) := by
  refine ⟨rfl, rfl, rfl, ?_, fun j hj => Lib.bytesWorld_at_old w U8 s j hj⟩
  rw [Lib.bytesWorld_size]; omega
set_option maxHeartbeats 8000000 in
set_option maxRecDepth 100000 in
theorem case_walk (s : ByteArray) (b : Int) (c : UInt8) (wb : (Lit.int .i64 b).wf = true) (w : World) (hz : Zeros w) (ht : Tens w) :
    Calls Tryd.prog 5 #[.string s, .int .i64 b, .int .u8 c.toNat] w fun e w' => e = .returned (.bool true) ∧ Below w.heap.size w w' := by
  have A := Lib.hid (alive3 w hz ht)
  rcases case_ways s b with h | ⟨h, h1⟩ | ⟨h, h1, h2⟩ | ⟨h, h1, h2⟩
  iterate 3
    · clear hz ht wb
      go_enter Tryd.func5, Tryd.ntmps5
      go_wp2_with fail
      refine A.out.mono ?_
      rintro e w1 ⟨rfl, hb⟩
      go_wp2
      go_ret
      exact ⟨rfl, hb⟩
  go_enter Tryd.func5, Tryd.ntmps5
  go_wp2_with fail
  refine A.out.mono ?_
  rintro e w1 ⟨rfl, hb1⟩
  have HB1 := Lib.hid hb1
  have hcv := Lib.run_convert_string_bytes (P := Tryd.prog) w1 9 29 U8 s Tryd.underlying9 Tryd.underlying29 Tryd.underlying5
  have HR0 := Lib.hid (LowRow.start s w1)
  have HW0 := Lib.hid (bytes_below w1 s)
  clear hb1
  go_wp2
  go_loopg [8] s.size (fun g i wr => ∃ k : Nat, g = s.size - k ∧ k ≤ s.size ∧ i = .int .i64 k ∧ Hid (LowRow w1.heap.size s.data.toList k wr) ∧ Hid (Below w1.heap.size w1 wr))
  case atStart => exact ⟨0, rfl, Nat.zero_le _, rfl, HR0, HW0⟩
  case round =>
    obtain ⟨k, rfl, hk, rfl, HR, HW⟩ := hrel
    clear hcv
    by_cases hlt : k < s.size
    · have hkl : k < s.data.toList.length := by rw [size_len]; exact hlt
      obtain ⟨hc, hf⟩ := HR.out k hkl
      rw [if_neg (Nat.lt_irrefl k)] at hc
      obtain ⟨x, hx⟩ : ∃ x, s.data.toList.getD k 0 = x := ⟨_, rfl⟩
      rw [hx] at hc
      have HX := Lib.hid hx
      clear hx
      rcases upper_cases x with ⟨x1, x2, x3⟩ | ⟨x1, x3⟩ | ⟨x1, x2, x3⟩
      · have HL := Lib.hid x3
        clear x3
        go_wp2
        go_roundg (s.size - (k + 1))
        case measure => omega
        case rel => exact ⟨k + 1, rfl, by omega, by go_num, Lib.hid (HR.out.store hkl (by rw [HX.out]; exact congrArg (Value.int .u8) HL.out.symm)), HW.out.setCell (p := ⟨w1.heap.size, k, none⟩) (Nat.le_refl _) _⟩
      · have HL := Lib.hid x3
        clear x3
        go_wp2
        go_roundg (s.size - (k + 1))
        case measure => omega
        case rel => exact ⟨k + 1, rfl, by omega, by go_num, Lib.hid (HR.out.keep hkl (by rw [HX.out]; exact HL.out)), HW⟩
      · have HL := Lib.hid x3
        clear x3
        go_wp2
        go_roundg (s.size - (k + 1))
        case measure => omega
        case rel => exact ⟨k + 1, rfl, by omega, by go_num, Lib.hid (HR.out.keep hkl (by rw [HX.out]; exact HL.out)), HW⟩
    · obtain rfl : k = s.size := by omega
      clear hlt
      go_upto_region 9 with fail
      go_cut [9] (fun t wx => (∃ q : Bool, t = .bool q ∧ Hid (q = false → ¬ (s.data.toList.length = 3 ∧ s.data.toList.head? = some 39))) ∧ wr = wx)
      case first =>
        rcases quote_ways s with ⟨q1, q2⟩ | ⟨g0, q1, q2, q3⟩ | ⟨g0, q1, q2⟩
        · have Q := Lib.hid q2
          clear q2
          go_wp2
          go_meet
          exact ⟨⟨false, rfl, fun _ => Q.out⟩, rfl⟩
        · have Q := Lib.hid q3
          clear q3
          go_wp2
          go_meet
          exact ⟨⟨false, rfl, fun _ => Q.out⟩, rfl⟩
        · go_wp2
          go_meet
          exact ⟨⟨true, rfl, fun h => (by cases h)⟩, rfl⟩
      case rest =>
        obtain ⟨⟨q, rfl, HQ⟩, rfl⟩ := hcut
        have hrb : Dig.rightB b = true := by simp [Dig.rightB]; omega
        have G0 := Lib.hid (get_any s b (by unfold maxLen; omega))
        have G1 := Lib.hid (get_any ⟨(s.data.toList.map Lib.lowerB).toArray⟩ b (by show (List.toArray _).size ≤ maxLen; unfold maxLen; simp [size_len]; omega))
        rw [text_data] at G1
        have G2 := Lib.hid (get_any ⟨#[39, c, 39]⟩ b (by show 3 ≤ maxLen; unfold maxLen; omega))
        rw [show (⟨#[39, c, 39]⟩ : ByteArray).data.toList = [39, c, 39] from rfl, Dig.get_byte hrb] at G2
        have hcv2 := low_text s (grownCap w1 s.size 0 U8) w1.heap.size wr HR.out
        have hL : q = false → Dig.getV (s.data.toList.map Lib.lowerB) b = Dig.getV s.data.toList b := fun h => Dig.get_low (HQ.out h)
        generalize Dig.getV (s.data.toList.map Lib.lowerB) b = o1 at *
        generalize Dig.getV s.data.toList b = o0 at *
        have HL := Lib.hid hL
        have hc256 : (c.toNat : Int) < 256 := by have := c.toNat_lt; omega
        clear hL
        go_wp2_with fail
        refine (G0.out _).mono ?_
        rintro e w4 ⟨rfl, rfl⟩
        go_wp2_with fail
        refine (G1.out _).mono ?_
        rintro e w4 ⟨rfl, rfl⟩
        clear hcv2
        have hcv3 := one_text c wr
        go_wp2_with fail
        rw [show (⟨#[39]⟩ ++ ⟨#[c]⟩ ++ ⟨#[39]⟩ : ByteArray) = ⟨#[39, c, 39]⟩ from by apply ByteArray.ext; simp [ByteArray.data_append]]
        refine (G2.out _).mono ?_
        rintro e w4 ⟨rfl, rfl⟩
        clear hcv3
        have HBF := Lib.hid ((HB1.out.trans (HW.out.mono HB1.out.size)).alloc (by have := HB1.out.size; have := HW.out.size; omega) (.cells #[.int .u8 c.toNat] U8))
        cases q
        · obtain rfl := HL.out rfl
          go_wp2
          go_ret
          exact ⟨rfl, HBF.out⟩
        · go_wp2
          go_ret
          exact ⟨rfl, HBF.out⟩
end Go.Proofs.YtoajkbdadcepaaaDoor
