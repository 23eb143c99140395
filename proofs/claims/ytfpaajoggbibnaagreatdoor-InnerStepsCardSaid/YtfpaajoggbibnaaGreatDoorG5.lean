/- The walk of the document's own Put (hollowayref1: digits). -/
import Derived.Test.YtfpaajoggbibnaaGreatDoorRows
import Derived.Test.YtfpaajoggbibnaaGreatDoorG4
import Derived.WalkKit
import Derived.WalkSpells
import Derived.WalkLawsBesides
import Derived.Lib.Hide
import Derived.Lib.Strings
import Derived.Deep.DeepCutAuto
import Derived.Deep.LoopGhost
import Derived.Test.YtfpaajoggbibnaaGreatDoorG2
namespace Go.Proofs.YtfpaajoggbibnaaGreatDoor
open Go.RowKit
set_option linter.unusedSimpArgs false
set_option linter.unusedVariables false

abbrev txt (l : List UInt8) : Value := .string ⟨l.toArray⟩
abbrev upText : ByteArray := ⟨#[48, 49, 50, 51, 52, 53, 54, 55, 56, 57, 65, 66, 67, 68, 69, 70, 71, 72, 73, 74, 75, 76, 77, 78, 79, 80, 81, 82, 83, 84, 85, 86, 87, 88, 89, 90]⟩
theorem up_piece_fin : ∀ k : Fin 36, (upText.data.toList.drop k.val).take 1 = [Dig.upD k.val] := by decide +kernel
theorem up_piece {k : Nat} (h : k < 36) : upText.extract k (k + 1) = ⟨[Dig.upD k].toArray⟩ := by
  rw [Lib.extract_eq, Nat.add_sub_cancel_left, up_piece_fin ⟨k, h⟩]
theorem txt_cons (c : UInt8) (l : List UInt8) : (⟨[c].toArray⟩ : ByteArray) ++ ⟨l.toArray⟩ = ⟨(c :: l).toArray⟩ := by
  apply ByteArray.ext; simp [ByteArray.data_append]
set_option maxHeartbeats 1000000 in
theorem refPut_wrong (v b : Int) (hb : Dig.rightB b = false) (w : World) :
    Calls Tryz.prog 35 #[.int .i64 v, .int .i64 b] w fun e w' => e = .returned (txt []) ∧ w = w' := by
  simp only [Dig.rightB, Bool.and_eq_false_iff, decide_eq_false_iff_not] at hb
  by_cases h0 : b < 2
  · clear hb
    go_enter Tryz.func35, Tryz.ntmps35
    go_wp2
    go_ret
    exact ⟨rfl, rfl⟩
  · have h1 : 36 < b := by omega
    clear hb
    go_enter Tryz.func35, Tryz.ntmps35
    go_wp2
    go_ret
    exact ⟨rfl, rfl⟩
def PutRel (b U j : Nat) (u s : Value) : Prop := j ≤ Dig.nd b U ∧ (j ≤ 1 ∨ b ^ (j - 1) ≤ U) ∧ u = .int .u64 (U / b ^ j : Nat) ∧ s = txt (Dig.suf Dig.upD b U j)
theorem neg_u64 {U : Nat} (h : (U : Int) ≤ 9223372036854775808) : IntKind.u64.wrap (-IntKind.u64.wrap (-(U : Int))) = (U : Int) := by
  have e : ∀ x, IntKind.u64.wrap x = x % 18446744073709551616 := fun x => by simp [IntKind.wrap, IntKind.bits, IntKind.signed]
  rw [e, e]; omega
theorem pos_u64 {U : Nat} (h : (U : Int) ≤ 9223372036854775807) : IntKind.u64.wrap (U : Int) = (U : Int) := by
  have e : ∀ x, IntKind.u64.wrap x = x % 18446744073709551616 := fun x => by simp [IntKind.wrap, IntKind.bits, IntKind.signed]
  rw [e]; omega
theorem put_start (b U : Nat) (x : Int) (h : x = U) : PutRel b U 0 (.int .u64 x) (.string ⟨#[]⟩) :=
  ⟨Nat.zero_le _, .inl (Nat.zero_le _), by rw [h, Nat.pow_zero, Nat.div_one], rfl⟩
theorem put_next {b U j q : Nat} {l : List UInt8} (hf : Dig.Fits b U (Dig.nd b U)) (h2 : 2 ≤ b) (hq : U / b ^ j = q) (hl : Dig.suf Dig.upD b U j = l) (hgo : 0 < q ∨ j = 0) :
    j < Dig.nd b U ∧ PutRel b U (j + 1) (.int .u64 (q / b : Nat)) (txt (Dig.upD (q % b) :: l)) := by
  have hb : 0 < b ^ j := Nat.pow_pos (by omega)
  have hlt : j < Dig.nd b U := by
    rcases hgo with h | h
    · rcases Nat.lt_or_ge j (Dig.nd b U) with h3 | h3
      · exact h3
      · have h4 : b ^ Dig.nd b U ≤ b ^ j := Nat.pow_le_pow_right (by omega) h3
        have : U / b ^ j = 0 := Nat.div_eq_of_lt (Nat.lt_of_lt_of_le hf.2.1 h4)
        omega
    · have := hf.1; omega
  refine ⟨hlt, hlt, ?_, ?_, ?_⟩
  · rcases hgo with h | h
    · right
      rw [Nat.add_sub_cancel]
      rw [← hq] at h
      exact (Nat.div_pos_iff.1 h).2
    · left; omega
  · rw [← hq, Nat.div_div_eq_div_mul, ← Nat.pow_succ]
  · rw [Dig.suf, hq, hl]
theorem put_end {b U j : Nat} (hu : U < 18446744073709551616) (h2 : 2 ≤ b) (hj : 1 ≤ j) (hq : U / b ^ j = 0) (hlow : j ≤ 1 ∨ b ^ (j - 1) ≤ U) : Dig.suf Dig.upD b U j = Dig.digs Dig.upD b U := by
  unfold Dig.digs
  rw [Dig.nd_eq h2 hu ⟨hj, ?_, ?_⟩]
  · rcases Nat.lt_or_ge U (b ^ j) with h | h
    · exact h
    · have := Nat.div_pos h (Nat.pow_pos (by omega)); omega
  · rcases hlow with h | h
    · left; omega
    · right; exact h
theorem div_int (q b : Nat) : ((q : Int) / (b : Int)) = ((q / b : Nat) : Int) := by omega
set_option maxHeartbeats 4000000 in
set_option maxRecDepth 100000 in
theorem refPut_right (v : Int) (b : Nat) (h2 : 2 ≤ b) (h36 : b ≤ 36) (v0 : -9223372036854775808 ≤ v) (v1 : v ≤ 9223372036854775807) (w : World) :
    Calls Tryz.prog 35 #[.int .i64 v, .int .i64 b] w fun e w' => e = .returned (txt (Dig.putV Dig.upD v b)) ∧ w = w' := by
  have hf := Dig.nd_fits (b := b) (u := v.natAbs) h2 (Dig.abs_lt v0 v1)
  have hul := Dig.abs_lt v0 v1
  by_cases hn : v < 0
  · obtain ⟨U, rfl⟩ : ∃ U : Nat, v = -(U : Int) := ⟨v.natAbs, by omega⟩
    have hU : (-(U : Int)).natAbs = U := by omega
    rw [hU] at hf hul
    have HP := Lib.hid (show Dig.putV Dig.upD (-(U : Int)) b = 45 :: Dig.digs Dig.upD b U from by unfold Dig.putV Dig.sgn; rw [if_pos hn, hU]; rfl)
    have HF := Lib.hid hf
    have HU := Lib.hid hul
    clear hf hU hul
    go_enter Tryz.func35, Tryz.ntmps35
    go_wp2
    go_loopg [5, 6] (Dig.nd b U) (fun k u s wr => ∃ j, k = Dig.nd b U - j ∧ Hid (PutRel b U j u s) ∧ w = wr)
    case atStart => exact ⟨0, by omega, put_start _ _ _ (neg_u64 (by omega)), rfl⟩
    case round =>
      obtain ⟨j, rfl, HR, rfl⟩ := hrel
      obtain ⟨hj, hlow, rfl, rfl⟩ := HR.out
      clear HR
      have HJ := Lib.hid hlow
      obtain ⟨q, hq⟩ : ∃ q, U / b ^ j = q := ⟨_, rfl⟩
      obtain ⟨l, hl⟩ : ∃ l, Dig.suf Dig.upD b U j = l := ⟨_, rfl⟩
      rw [hq, hl]
      have hqU : q ≤ U := by rw [← hq]; exact Nat.div_le_self _ _
      have hll : l.length ≤ 64 := by
        rw [← hl, Dig.suf_length]
        exact Nat.le_trans hj (Dig.nd_le h2 HU.out)
      have HQ := Lib.hid hq
      have HL := Lib.hid hl
      clear hq hl hlow
      by_cases hq0 : 0 < q
      · have r0 : 0 ≤ (q : Int) % (b : Int) := by omega
        have r1 : (q : Int) % (b : Int) < 36 := by have := Int.emod_lt_of_pos (q : Int) (show (0 : Int) < b by omega); omega
        have r2 : min (q % b + 1) 36 - q % b + l.length ≤ 9223372036854775807 := by omega
        have r3 : (q : Int) / (b : Int) ≤ 18446744073709551615 := by
          have h := HU.out
          rw [div_int]
          have := Nat.div_le_self q b
          omega
        have r4 : 0 ≤ (q : Int) / (b : Int) := Int.ediv_nonneg (by omega) (by omega)
        have hN := Lib.hid (put_next (b := b) (U := U) (j := j) HF.out h2 HQ.out HL.out (.inl hq0))
        have hup := Lib.hid (up_piece (k := q % b) (by have := Nat.mod_lt q (show b > 0 by omega); omega))
        go_wp2
        go_roundg (Dig.nd b U - (j + 1))
        case measure => have := hN.out.1; omega
        case rel => exact ⟨j + 1, rfl, by rw [div_int, hup.out, txt_cons]; exact hN.out.2, rfl⟩
      · obtain rfl : q = 0 := by omega
        by_cases hj0 : j = 0
        · subst hj0
          obtain rfl : [] = l := HL.out
          have hN := Lib.hid (put_next (b := b) (U := U) (j := 0) HF.out h2 HQ.out HL.out (.inr rfl))
          have hup := Lib.hid (up_piece (k := 0) (by omega))
          clear hll
          go_wp2
          go_roundg (Dig.nd b U - (0 + 1))
          case measure => have := hN.out.1; omega
          case rel => exact ⟨0 + 1, rfl, by
            have h := hN.out.2
            rw [Nat.zero_div, Nat.zero_mod] at h
            exact h, rfl⟩
        · have hne : l.isEmpty = false := by
            have h := HL.out
            cases l with
            | nil => cases j with
              | zero => exact absurd rfl hj0
              | succ j => cases h
            | cons _ _ => rfl
          have hE := put_end (b := b) (U := U) (j := j) HU.out h2 (by omega) HQ.out HJ.out
          rw [HL.out] at hE
          have HE := Lib.hid hE
          have h1l : 1 + l.length ≤ 9223372036854775807 := by omega
          clear hE
          go_wp2
          go_ret
          exact ⟨by rw [HP.out, ← HE.out]; first | rfl | exact congrArg (fun x => Ending.returned (.string x)) (txt_cons 45 _), rfl⟩
  · obtain ⟨U, rfl⟩ : ∃ U : Nat, v = (U : Int) := ⟨v.natAbs, by omega⟩
    have hU : (U : Int).natAbs = U := by omega
    rw [hU] at hf hul
    have HP := Lib.hid (show Dig.putV Dig.upD (U : Int) b = Dig.digs Dig.upD b U from by unfold Dig.putV Dig.sgn; rw [if_neg hn, hU]; rfl)
    have HF := Lib.hid hf
    have HU := Lib.hid hul
    clear hf hU hul
    go_enter Tryz.func35, Tryz.ntmps35
    go_wp2
    go_loopg [5, 6] (Dig.nd b U) (fun k u s wr => ∃ j, k = Dig.nd b U - j ∧ Hid (PutRel b U j u s) ∧ w = wr)
    case atStart => exact ⟨0, by omega, put_start _ _ _ (by first | rfl | exact pos_u64 (by omega)), rfl⟩
    case round =>
      obtain ⟨j, rfl, HR, rfl⟩ := hrel
      obtain ⟨hj, hlow, rfl, rfl⟩ := HR.out
      clear HR
      have HJ := Lib.hid hlow
      obtain ⟨q, hq⟩ : ∃ q, U / b ^ j = q := ⟨_, rfl⟩
      obtain ⟨l, hl⟩ : ∃ l, Dig.suf Dig.upD b U j = l := ⟨_, rfl⟩
      rw [hq, hl]
      have hqU : q ≤ U := by rw [← hq]; exact Nat.div_le_self _ _
      have hll : l.length ≤ 64 := by
        rw [← hl, Dig.suf_length]
        exact Nat.le_trans hj (Dig.nd_le h2 HU.out)
      have HQ := Lib.hid hq
      have HL := Lib.hid hl
      clear hq hl hlow
      by_cases hq0 : 0 < q
      · have r0 : 0 ≤ (q : Int) % (b : Int) := by omega
        have r1 : (q : Int) % (b : Int) < 36 := by have := Int.emod_lt_of_pos (q : Int) (show (0 : Int) < b by omega); omega
        have r2 : min (q % b + 1) 36 - q % b + l.length ≤ 9223372036854775807 := by omega
        have r3 : (q : Int) / (b : Int) ≤ 18446744073709551615 := by
          have h := HU.out
          rw [div_int]
          have := Nat.div_le_self q b
          omega
        have r4 : 0 ≤ (q : Int) / (b : Int) := Int.ediv_nonneg (by omega) (by omega)
        have hN := Lib.hid (put_next (b := b) (U := U) (j := j) HF.out h2 HQ.out HL.out (.inl hq0))
        have hup := Lib.hid (up_piece (k := q % b) (by have := Nat.mod_lt q (show b > 0 by omega); omega))
        go_wp2
        go_roundg (Dig.nd b U - (j + 1))
        case measure => have := hN.out.1; omega
        case rel => exact ⟨j + 1, rfl, by rw [div_int, hup.out, txt_cons]; exact hN.out.2, rfl⟩
      · obtain rfl : q = 0 := by omega
        by_cases hj0 : j = 0
        · subst hj0
          obtain rfl : [] = l := HL.out
          have hN := Lib.hid (put_next (b := b) (U := U) (j := 0) HF.out h2 HQ.out HL.out (.inr rfl))
          have hup := Lib.hid (up_piece (k := 0) (by omega))
          clear hll
          go_wp2
          go_roundg (Dig.nd b U - (0 + 1))
          case measure => have := hN.out.1; omega
          case rel => exact ⟨0 + 1, rfl, by
            have h := hN.out.2
            rw [Nat.zero_div, Nat.zero_mod] at h
            exact h, rfl⟩
        · have hne : l.isEmpty = false := by
            have h := HL.out
            cases l with
            | nil => cases j with
              | zero => exact absurd rfl hj0
              | succ j => cases h
            | cons _ _ => rfl
          have hE := put_end (b := b) (U := U) (j := j) HU.out h2 (by omega) HQ.out HJ.out
          rw [HL.out] at hE
          have HE := Lib.hid hE
          have h1l : 1 + l.length ≤ 9223372036854775807 := by omega
          clear hE
          go_wp2
          go_ret
          exact ⟨by rw [HP.out, ← HE.out]; rfl, rfl⟩
/-- what Put tells, whatever the base is -/
def putT (v b : Int) : List UInt8 := if Dig.rightB b then Dig.putV Dig.upD v b else []
theorem refPut_any (v b : Int) (v0 : -9223372036854775808 ≤ v) (v1 : v ≤ 9223372036854775807) (w : World) :
    Calls Tryz.prog 35 #[.int .i64 v, .int .i64 b] w fun e w' => e = .returned (txt (putT v b)) ∧ w = w' := by
  unfold putT
  cases hb : Dig.rightB b with
  | false => exact refPut_wrong v b hb w
  | true =>
    simp only [Dig.rightB, Bool.and_eq_true, decide_eq_true_eq] at hb
    obtain ⟨n, rfl⟩ := Int.eq_ofNat_of_zero_le (show 0 ≤ b by omega)
    exact refPut_right v n (by omega) (by omega) v0 v1 w
end Go.Proofs.YtfpaajoggbibnaaGreatDoor
/- A step leaves a machine of chapter 9 right. -/
namespace Go.Proofs.YtfpaajoggbibnaaGreatDoor.Mach
open Go.RowKit (wrap64)
open Go.Proofs.YtfpaajoggbibnaaGreatDoor.Cell (In)
set_option linter.unusedVariables false
set_option linter.unusedSimpArgs false
/-- the lists have room, all else is as it was -/
theorem right_lists {s : M} (h : Right s) {ip handler : Int} {st bk mem : List Int} (h1 : st.length ≤ 48) (h2 : bk.length ≤ 48) (h3 : mem.length ≤ 3000) : Right { s with ip := ip, handler := handler, stack := st, back := bk, mem := mem } := ⟨h1, h2, h3, h.out, h.read0, h.read1, h.status0, h.status1⟩
theorem right_out {s : M} (h : Right s) {ip : Int} {st : List Int} {t : ByteArray} (h1 : st.length ≤ 48) (h2 : s.out.size + t.size ≤ 2000) : Right { s with ip := ip, stack := st, out := s.out ++ t } := ⟨h1, h.back, h.mem, by show (s.out ++ t).size ≤ 2000; rw [ByteArray.size_append]; exact h2, h.read0, h.read1, h.status0, h.status1⟩
/-- an operation on one cell -/
theorem exec_one (s : M) (i g : Int) {k : Nat} (hk : k ∈ [16, 20, 26, 27]) : exec k s i g = { s with ip := i, stack := less s.stack 1 ++ [(Cell.one k (nth s.stack 0)).1] } := by
  simp only [List.mem_cons, List.not_mem_nil, or_false] at hk
  rcases hk with rfl | rfl | rfl | rfl <;> rfl
/-- an operation on two cells -/
theorem exec_two (s : M) (i g : Int) {k : Nat} (hk : k ∈ [11, 12, 13, 14, 15, 17, 18, 19, 21, 22, 23, 24, 25, 28, 29]) : exec k s i g = if (Cell.two k (nth s.stack 1) (nth s.stack 0)).2 = true then { s with ip := i, stack := less s.stack 2 ++ [(Cell.two k (nth s.stack 1) (nth s.stack 0)).1] } else fault s (-10) := by
  simp only [List.mem_cons, List.not_mem_nil, or_false] at hk
  rcases hk with rfl | rfl | rfl | rfl | rfl | rfl | rfl | rfl | rfl | rfl | rfl | rfl | rfl | rfl | rfl <;> rfl
theorem right_one {s : M} (h : Right s) {i g : Int} (k : Nat) (hk : k ∈ [16, 20, 26, 27]) (hl : (less s.stack 1).length + 1 ≤ 48) : Right (exec k s i g) := by
  rw [exec_one s i g hk]
  exact right_lists h (by rw [List.length_append]; exact hl) h.back h.mem
theorem right_two {s : M} (h : Right s) {i g : Int} (k : Nat) (hk : k ∈ [11, 12, 13, 14, 15, 17, 18, 19, 21, 22, 23, 24, 25, 28, 29]) (hl : (less s.stack 2).length + 1 ≤ 48) : Right (exec k s i g) := by
  rw [exec_two s i g hk]
  split
  · exact right_lists h (by rw [List.length_append]; exact hl) h.back h.mem
  · exact fault_right h _
theorem exec_right {s : M} (h : Right s) (k : Nat) (hk : k < 48) (i g : Int) (h1 : (movesOf k).1 ≤ s.stack.length) (h2 : (movesOf k).2.1 ≤ s.back.length) (h3 : (s.stack.length : Int) - (movesOf k).1 + (movesOf k).2.2.1 ≤ 48) (h4 : (s.back.length : Int) - (movesOf k).2.1 + (movesOf k).2.2.2 ≤ 48) : Right (exec k s i g) := by
  have b1 := h.stack
  have b2 := h.back
  have b3 := h.mem
  match k, hk with
  | 0, _ =>
    rw [show movesOf 0 = (0, 0, 0, 0) from rfl] at h1 h2 h3 h4
    exact ⟨h.stack, h.back, h.mem, h.out, h.read0, h.read1, by show (0 : Int) ≤ 1; decide, by show (1 : Int) ≤ 2; decide⟩
  | 1, _ =>
    rw [show movesOf 1 = (0, 0, 0, 0) from rfl] at h1 h2 h3 h4
    simp only [exec]
    repeat' split
    all_goals first | exact fault_right h _ | exact right_lists h (by (simp only [List.length_append, List.length_cons, List.length_nil, List.length_set, less_length] at *; omega)) (by (simp only [List.length_append, List.length_cons, List.length_nil, List.length_set, less_length] at *; omega)) (by (simp only [List.length_append, List.length_cons, List.length_nil, List.length_set, less_length] at *; omega))
  | 2, _ =>
    rw [show movesOf 2 = (0, 0, 1, 0) from rfl] at h1 h2 h3 h4
    exact right_lists h (by (simp only [List.length_append, List.length_cons, List.length_nil, List.length_set, less_length] at *; omega)) (by (simp only [List.length_append, List.length_cons, List.length_nil, List.length_set, less_length] at *; omega)) (by (simp only [List.length_append, List.length_cons, List.length_nil, List.length_set, less_length] at *; omega))
  | 3, _ =>
    rw [show movesOf 3 = (0, 0, 0, 0) from rfl] at h1 h2 h3 h4
    exact right_lists h (by (simp only [List.length_append, List.length_cons, List.length_nil, List.length_set, less_length] at *; omega)) (by (simp only [List.length_append, List.length_cons, List.length_nil, List.length_set, less_length] at *; omega)) (by (simp only [List.length_append, List.length_cons, List.length_nil, List.length_set, less_length] at *; omega))
  | 4, _ =>
    rw [show movesOf 4 = (1, 0, 0, 0) from rfl] at h1 h2 h3 h4
    exact right_lists h (by (simp only [List.length_append, List.length_cons, List.length_nil, List.length_set, less_length] at *; omega)) (by (simp only [List.length_append, List.length_cons, List.length_nil, List.length_set, less_length] at *; omega)) (by (simp only [List.length_append, List.length_cons, List.length_nil, List.length_set, less_length] at *; omega))
  | 5, _ =>
    rw [show movesOf 5 = (0, 1, 0, 0) from rfl] at h1 h2 h3 h4
    exact right_lists h (by (simp only [List.length_append, List.length_cons, List.length_nil, List.length_set, less_length] at *; omega)) (by (simp only [List.length_append, List.length_cons, List.length_nil, List.length_set, less_length] at *; omega)) (by (simp only [List.length_append, List.length_cons, List.length_nil, List.length_set, less_length] at *; omega))
  | 6, _ =>
    rw [show movesOf 6 = (1, 0, 2, 0) from rfl] at h1 h2 h3 h4
    exact right_lists h (by (simp only [List.length_append, List.length_cons, List.length_nil, List.length_set, less_length] at *; omega)) (by (simp only [List.length_append, List.length_cons, List.length_nil, List.length_set, less_length] at *; omega)) (by (simp only [List.length_append, List.length_cons, List.length_nil, List.length_set, less_length] at *; omega))
  | 7, _ =>
    rw [show movesOf 7 = (1, 0, 0, 0) from rfl] at h1 h2 h3 h4
    exact right_lists h (by (simp only [List.length_append, List.length_cons, List.length_nil, List.length_set, less_length] at *; omega)) (by (simp only [List.length_append, List.length_cons, List.length_nil, List.length_set, less_length] at *; omega)) (by (simp only [List.length_append, List.length_cons, List.length_nil, List.length_set, less_length] at *; omega))
  | 8, _ =>
    rw [show movesOf 8 = (2, 0, 2, 0) from rfl] at h1 h2 h3 h4
    exact right_lists h (by (simp only [List.length_append, List.length_cons, List.length_nil, List.length_set, less_length] at *; omega)) (by (simp only [List.length_append, List.length_cons, List.length_nil, List.length_set, less_length] at *; omega)) (by (simp only [List.length_append, List.length_cons, List.length_nil, List.length_set, less_length] at *; omega))
  | 9, _ =>
    rw [show movesOf 9 = (2, 0, 3, 0) from rfl] at h1 h2 h3 h4
    exact right_lists h (by (simp only [List.length_append, List.length_cons, List.length_nil, List.length_set, less_length] at *; omega)) (by (simp only [List.length_append, List.length_cons, List.length_nil, List.length_set, less_length] at *; omega)) (by (simp only [List.length_append, List.length_cons, List.length_nil, List.length_set, less_length] at *; omega))
  | 10, _ =>
    rw [show movesOf 10 = (3, 0, 3, 0) from rfl] at h1 h2 h3 h4
    exact right_lists h (by (simp only [List.length_append, List.length_cons, List.length_nil, List.length_set, less_length] at *; omega)) (by (simp only [List.length_append, List.length_cons, List.length_nil, List.length_set, less_length] at *; omega)) (by (simp only [List.length_append, List.length_cons, List.length_nil, List.length_set, less_length] at *; omega))
  | 11, _ =>
    rw [show movesOf 11 = (2, 0, 1, 0) from rfl] at h1 h2 h3 h4
    exact right_two h 11 (by decide) (by (simp only [List.length_append, List.length_cons, List.length_nil, List.length_set, less_length] at *; omega))
  | 12, _ =>
    rw [show movesOf 12 = (2, 0, 1, 0) from rfl] at h1 h2 h3 h4
    exact right_two h 12 (by decide) (by (simp only [List.length_append, List.length_cons, List.length_nil, List.length_set, less_length] at *; omega))
  | 13, _ =>
    rw [show movesOf 13 = (2, 0, 1, 0) from rfl] at h1 h2 h3 h4
    exact right_two h 13 (by decide) (by (simp only [List.length_append, List.length_cons, List.length_nil, List.length_set, less_length] at *; omega))
  | 14, _ =>
    rw [show movesOf 14 = (2, 0, 1, 0) from rfl] at h1 h2 h3 h4
    exact right_two h 14 (by decide) (by (simp only [List.length_append, List.length_cons, List.length_nil, List.length_set, less_length] at *; omega))
  | 15, _ =>
    rw [show movesOf 15 = (2, 0, 1, 0) from rfl] at h1 h2 h3 h4
    exact right_two h 15 (by decide) (by (simp only [List.length_append, List.length_cons, List.length_nil, List.length_set, less_length] at *; omega))
  | 16, _ =>
    rw [show movesOf 16 = (1, 0, 1, 0) from rfl] at h1 h2 h3 h4
    exact right_one h 16 (by decide) (by (simp only [List.length_append, List.length_cons, List.length_nil, List.length_set, less_length] at *; omega))
  | 17, _ =>
    rw [show movesOf 17 = (2, 0, 1, 0) from rfl] at h1 h2 h3 h4
    exact right_two h 17 (by decide) (by (simp only [List.length_append, List.length_cons, List.length_nil, List.length_set, less_length] at *; omega))
  | 18, _ =>
    rw [show movesOf 18 = (2, 0, 1, 0) from rfl] at h1 h2 h3 h4
    exact right_two h 18 (by decide) (by (simp only [List.length_append, List.length_cons, List.length_nil, List.length_set, less_length] at *; omega))
  | 19, _ =>
    rw [show movesOf 19 = (2, 0, 1, 0) from rfl] at h1 h2 h3 h4
    exact right_two h 19 (by decide) (by (simp only [List.length_append, List.length_cons, List.length_nil, List.length_set, less_length] at *; omega))
  | 20, _ =>
    rw [show movesOf 20 = (1, 0, 1, 0) from rfl] at h1 h2 h3 h4
    exact right_one h 20 (by decide) (by (simp only [List.length_append, List.length_cons, List.length_nil, List.length_set, less_length] at *; omega))
  | 21, _ =>
    rw [show movesOf 21 = (2, 0, 1, 0) from rfl] at h1 h2 h3 h4
    exact right_two h 21 (by decide) (by (simp only [List.length_append, List.length_cons, List.length_nil, List.length_set, less_length] at *; omega))
  | 22, _ =>
    rw [show movesOf 22 = (2, 0, 1, 0) from rfl] at h1 h2 h3 h4
    exact right_two h 22 (by decide) (by (simp only [List.length_append, List.length_cons, List.length_nil, List.length_set, less_length] at *; omega))
  | 23, _ =>
    rw [show movesOf 23 = (2, 0, 1, 0) from rfl] at h1 h2 h3 h4
    exact right_two h 23 (by decide) (by (simp only [List.length_append, List.length_cons, List.length_nil, List.length_set, less_length] at *; omega))
  | 24, _ =>
    rw [show movesOf 24 = (2, 0, 1, 0) from rfl] at h1 h2 h3 h4
    exact right_two h 24 (by decide) (by (simp only [List.length_append, List.length_cons, List.length_nil, List.length_set, less_length] at *; omega))
  | 25, _ =>
    rw [show movesOf 25 = (2, 0, 1, 0) from rfl] at h1 h2 h3 h4
    exact right_two h 25 (by decide) (by (simp only [List.length_append, List.length_cons, List.length_nil, List.length_set, less_length] at *; omega))
  | 26, _ =>
    rw [show movesOf 26 = (1, 0, 1, 0) from rfl] at h1 h2 h3 h4
    exact right_one h 26 (by decide) (by (simp only [List.length_append, List.length_cons, List.length_nil, List.length_set, less_length] at *; omega))
  | 27, _ =>
    rw [show movesOf 27 = (1, 0, 1, 0) from rfl] at h1 h2 h3 h4
    exact right_one h 27 (by decide) (by (simp only [List.length_append, List.length_cons, List.length_nil, List.length_set, less_length] at *; omega))
  | 28, _ =>
    rw [show movesOf 28 = (2, 0, 1, 0) from rfl] at h1 h2 h3 h4
    exact right_two h 28 (by decide) (by (simp only [List.length_append, List.length_cons, List.length_nil, List.length_set, less_length] at *; omega))
  | 29, _ =>
    rw [show movesOf 29 = (2, 0, 1, 0) from rfl] at h1 h2 h3 h4
    exact right_two h 29 (by decide) (by (simp only [List.length_append, List.length_cons, List.length_nil, List.length_set, less_length] at *; omega))
  | 30, _ =>
    rw [show movesOf 30 = (1, 0, 1, 0) from rfl] at h1 h2 h3 h4
    simp only [exec]
    repeat' split
    all_goals first | exact fault_right h _ | exact right_lists h (by (simp only [List.length_append, List.length_cons, List.length_nil, List.length_set, less_length] at *; omega)) (by (simp only [List.length_append, List.length_cons, List.length_nil, List.length_set, less_length] at *; omega)) (by (simp only [List.length_append, List.length_cons, List.length_nil, List.length_set, less_length] at *; omega))
  | 31, _ =>
    rw [show movesOf 31 = (2, 0, 0, 0) from rfl] at h1 h2 h3 h4
    simp only [exec]
    repeat' split
    all_goals first | exact fault_right h _ | exact right_lists h (by (simp only [List.length_append, List.length_cons, List.length_nil, List.length_set, less_length] at *; omega)) (by (simp only [List.length_append, List.length_cons, List.length_nil, List.length_set, less_length] at *; omega)) (by (simp only [List.length_append, List.length_cons, List.length_nil, List.length_set, less_length] at *; omega))
  | 32, _ =>
    rw [show movesOf 32 = (2, 0, 0, 0) from rfl] at h1 h2 h3 h4
    simp only [exec]
    repeat' split
    all_goals first | exact fault_right h _ | exact right_lists h (by (simp only [List.length_append, List.length_cons, List.length_nil, List.length_set, less_length] at *; omega)) (by (simp only [List.length_append, List.length_cons, List.length_nil, List.length_set, less_length] at *; omega)) (by (simp only [List.length_append, List.length_cons, List.length_nil, List.length_set, less_length] at *; omega))
  | 33, _ =>
    rw [show movesOf 33 = (1, 0, 0, 1) from rfl] at h1 h2 h3 h4
    exact right_lists h (by (simp only [List.length_append, List.length_cons, List.length_nil, List.length_set, less_length] at *; omega)) (by (simp only [List.length_append, List.length_cons, List.length_nil, List.length_set, less_length] at *; omega)) (by (simp only [List.length_append, List.length_cons, List.length_nil, List.length_set, less_length] at *; omega))
  | 34, _ =>
    rw [show movesOf 34 = (0, 1, 1, 0) from rfl] at h1 h2 h3 h4
    exact right_lists h (by (simp only [List.length_append, List.length_cons, List.length_nil, List.length_set, less_length] at *; omega)) (by (simp only [List.length_append, List.length_cons, List.length_nil, List.length_set, less_length] at *; omega)) (by (simp only [List.length_append, List.length_cons, List.length_nil, List.length_set, less_length] at *; omega))
  | 35, _ =>
    rw [show movesOf 35 = (0, 1, 1, 1) from rfl] at h1 h2 h3 h4
    exact right_lists h (by (simp only [List.length_append, List.length_cons, List.length_nil, List.length_set, less_length] at *; omega)) (by (simp only [List.length_append, List.length_cons, List.length_nil, List.length_set, less_length] at *; omega)) (by (simp only [List.length_append, List.length_cons, List.length_nil, List.length_set, less_length] at *; omega))
  | 36, _ =>
    rw [show movesOf 36 = (2, 0, 0, 2) from rfl] at h1 h2 h3 h4
    exact right_lists h (by (simp only [List.length_append, List.length_cons, List.length_nil, List.length_set, less_length] at *; omega)) (by (simp only [List.length_append, List.length_cons, List.length_nil, List.length_set, less_length] at *; omega)) (by (simp only [List.length_append, List.length_cons, List.length_nil, List.length_set, less_length] at *; omega))
  | 37, _ =>
    rw [show movesOf 37 = (0, 2, 0, 2) from rfl] at h1 h2 h3 h4
    simp only [exec]
    repeat' split
    all_goals first | exact fault_right h _ | exact right_lists h (by (simp only [List.length_append, List.length_cons, List.length_nil, List.length_set, less_length] at *; omega)) (by (simp only [List.length_append, List.length_cons, List.length_nil, List.length_set, less_length] at *; omega)) (by (simp only [List.length_append, List.length_cons, List.length_nil, List.length_set, less_length] at *; omega))
  | 38, _ =>
    rw [show movesOf 38 = (1, 2, 0, 2) from rfl] at h1 h2 h3 h4
    simp only [exec]
    repeat' split
    all_goals first | exact fault_right h _ | exact right_lists h (by (simp only [List.length_append, List.length_cons, List.length_nil, List.length_set, less_length] at *; omega)) (by (simp only [List.length_append, List.length_cons, List.length_nil, List.length_set, less_length] at *; omega)) (by (simp only [List.length_append, List.length_cons, List.length_nil, List.length_set, less_length] at *; omega))
  | 39, _ =>
    rw [show movesOf 39 = (0, 3, 1, 3) from rfl] at h1 h2 h3 h4
    exact right_lists h (by (simp only [List.length_append, List.length_cons, List.length_nil, List.length_set, less_length] at *; omega)) (by (simp only [List.length_append, List.length_cons, List.length_nil, List.length_set, less_length] at *; omega)) (by (simp only [List.length_append, List.length_cons, List.length_nil, List.length_set, less_length] at *; omega))
  | 40, _ =>
    rw [show movesOf 40 = (0, 2, 0, 0) from rfl] at h1 h2 h3 h4
    exact right_lists h (by (simp only [List.length_append, List.length_cons, List.length_nil, List.length_set, less_length] at *; omega)) (by (simp only [List.length_append, List.length_cons, List.length_nil, List.length_set, less_length] at *; omega)) (by (simp only [List.length_append, List.length_cons, List.length_nil, List.length_set, less_length] at *; omega))
  | 41, _ =>
    rw [show movesOf 41 = (1, 0, 0, 0) from rfl] at h1 h2 h3 h4
    simp only [exec]
    split
    · exact fault_right h _
    · rename_i hr; exact right_out h (by (simp only [List.length_append, List.length_cons, List.length_nil, List.length_set, less_length] at *; omega)) (by show s.out.size + 1 ≤ 2000; omega)
  | 42, _ =>
    rw [show movesOf 42 = (1, 0, 0, 0) from rfl] at h1 h2 h3 h4
    simp only [exec]
    split
    · exact fault_right h _
    · rename_i hr; exact right_out h (by (simp only [List.length_append, List.length_cons, List.length_nil, List.length_set, less_length] at *; omega)) (by rw [ByteArray.size_append]; show s.out.size + ((Lib.itoa (nth s.stack 0)).toArray.size + 1) ≤ 2000; rw [List.size_toArray]; omega)
  | 43, _ =>
    rw [show movesOf 43 = (0, 0, 1, 0) from rfl] at h1 h2 h3 h4
    simp only [exec]
    split
    · rename_i hr; exact ⟨by (simp only [List.length_append, List.length_cons, List.length_nil, List.length_set, less_length] at *; omega), b2, b3, h.out, by have := h.read0; show 0 ≤ s.read + 1; omega, by show s.read + 1 ≤ s.inp.size; omega, h.status0, h.status1⟩
    · exact right_lists h (by (simp only [List.length_append, List.length_cons, List.length_nil, List.length_set, less_length] at *; omega)) (by (simp only [List.length_append, List.length_cons, List.length_nil, List.length_set, less_length] at *; omega)) (by (simp only [List.length_append, List.length_cons, List.length_nil, List.length_set, less_length] at *; omega))
  | 44, _ =>
    rw [show movesOf 44 = (1, 0, 0, 1) from rfl] at h1 h2 h3 h4
    simp only [exec]
    repeat' split
    all_goals first | exact fault_right h _ | exact right_lists h (by (simp only [List.length_append, List.length_cons, List.length_nil, List.length_set, less_length] at *; omega)) (by (simp only [List.length_append, List.length_cons, List.length_nil, List.length_set, less_length] at *; omega)) (by (simp only [List.length_append, List.length_cons, List.length_nil, List.length_set, less_length] at *; omega))
  | 45, _ =>
    rw [show movesOf 45 = (1, 0, 0, 0) from rfl] at h1 h2 h3 h4
    simp only [exec]
    split
    · exact right_lists h (by (simp only [List.length_append, List.length_cons, List.length_nil, List.length_set, less_length] at *; omega)) (by (simp only [List.length_append, List.length_cons, List.length_nil, List.length_set, less_length] at *; omega)) (by (simp only [List.length_append, List.length_cons, List.length_nil, List.length_set, less_length] at *; omega))
    · exact fault_right (right_lists (ip := s.ip) (handler := s.handler) h (by (simp only [List.length_append, List.length_cons, List.length_nil, List.length_set, less_length] at *; omega)) b2 b3) _
  | 46, _ =>
    rw [show movesOf 46 = (1, 0, 0, 4) from rfl] at h1 h2 h3 h4
    exact right_lists h (by (simp only [List.length_append, List.length_cons, List.length_nil, List.length_set, less_length] at *; omega)) (by (simp only [List.length_append, List.length_cons, List.length_nil, List.length_set, less_length] at *; omega)) (by (simp only [List.length_append, List.length_cons, List.length_nil, List.length_set, less_length] at *; omega))
  | 47, _ =>
    rw [show movesOf 47 = (0, 0, 0, 0) from rfl] at h1 h2 h3 h4
    exact right_lists h (by (simp only [List.length_append, List.length_cons, List.length_nil, List.length_set, less_length] at *; omega)) (by (simp only [List.length_append, List.length_cons, List.length_nil, List.length_set, less_length] at *; omega)) (by (simp only [List.length_append, List.length_cons, List.length_nil, List.length_set, less_length] at *; omega))
  | n + 48, hn => exact absurd hn (by omega)
/-- a step leaves a machine right -/
theorem step_right {s : M} (h : Right s) : Right (step s) := by
  unfold step
  split
  · exact h
  split
  · exact fault_right h _
  dsimp only
  split
  · split
    · exact fault_right h _
    · rename_i hb
      exact right_lists h h.stack (by simp only [List.length_append, List.length_cons, List.length_nil]; omega) h.mem
  split
  · exact fault_right h _
  rename_i hc
  split
  · exact fault_right h _
  split
  · exact fault_right h _
  split
  · exact fault_right h _
  split
  · exact fault_right h _
  split
  · exact fault_right h _
  exact exec_right h _ (by omega) _ _ (by omega) (by omega) (by omega) (by omega)
theorem run_right {s : M} (h : Right s) (n : Nat) : Right (run n s).1 := by
  induction n generalizing s with
  | zero => exact h
  | succ n ih =>
    by_cases h' : s.status = 0
    · rw [show run (n + 1) s = run n (step s) by rw [run, if_pos h']]
      exact ih (step_right h)
    · rw [run_still h']
      exact h
end Go.Proofs.YtfpaajoggbibnaaGreatDoor.Mach
