
/- The walk of the document's own Put (hollowayref1: digits). -/
import Derived.Test.YtgabemlehmhgpaaDoorRows
import Derived.Test.YtgabemlehmhgpaaDoorDigPlain
import Derived.WalkKit
import Derived.WalkSpells
import Derived.WalkLawsBesides
import Derived.Lib.Hide
import Derived.Lib.Strings
import Derived.Deep.DeepCutAuto
import Derived.Deep.LoopGhost
namespace Go.Proofs.YtgabemlehmhgpaaDoor
open Go.RowKit
set_option linter.unusedSimpArgs false
set_option linter.unusedVariables false

abbrev txt (l : List UInt8) : Value := .string ⟨l.toArray⟩
abbrev upText : ByteArray := ⟨#[48, 49, 50, 51, 52, 53, 54, 55, 56, 57, 65, 66, 67, 68, 69, 70, 71, 72, 73, 74, 75, 76, 77, 78, 79, 80, 81, 82, 83, 84, 85, 86, 87, 88, 89, 90]⟩
theorem up_piece_fin : ∀ k : Fin 36, (upText.data.toList.drop k.val).take 1 = [Dig.upD k.val] := by decide +kernel
theorem up_piece {k : Nat} (h : k < 36) : upText.extract k (k + 1) = ⟨[Dig.upD k].toArray⟩ := by
  rw [Lib.extract_eq, Nat.add_sub_cancel_left, up_piece_fin ⟨k, h⟩]
theorem txt_cons (c : UInt8) (l : List UInt8) : (⟨[c].toArray⟩ : ByteArray) ++ ⟨l.toArray⟩ = ⟨(c :: l).toArray⟩ := by
  apply ByteArray.ext; simp [ByteArray.data_append]
def PutRel (b U j : Nat) (u s : Value) : Prop := j ≤ Dig.nd b U ∧ (j ≤ 1 ∨ b ^ (j - 1) ≤ U) ∧ u = .int .u64 (U / b ^ j : Nat) ∧ s = txt (Dig.suf Dig.upD b U j)
theorem neg_u64 {U : Nat} (h : (U : Int) ≤ 9223372036854775808) : IntKind.u64.wrap (-IntKind.u64.wrap (-(U : Int))) = (U : Int) := by
  have e : ∀ x, IntKind.u64.wrap x = x % 18446744073709551616 := fun x => by simp [IntKind.wrap, IntKind.bits, IntKind.signed]
  rw [e, e]; omega
theorem pos_u64 {U : Nat} (h : (U : Int) ≤ 9223372036854775807) : IntKind.u64.wrap (U : Int) = (U : Int) := by
  have e : ∀ x, IntKind.u64.wrap x = x % 18446744073709551616 := fun x => by simp [IntKind.wrap, IntKind.bits, IntKind.signed]
  rw [e]; omega
theorem put_start (b U : Nat) (x : Int) (h : x = U) : PutRel b U 0 (.int .u64 x) (.string ⟨#[]⟩) :=
  ⟨Nat.zero_le _, .inl (Nat.zero_le _), by rw [h, Nat.pow_zero, Nat.div_one], rfl⟩
theorem put_next {b U j q : Nat} {l : List UInt8} (hf : Dig.Fits b U (Dig.nd b U)) (h2 : 2 ≤ b) (hq : U / b ^ j = q) (hl : Dig.suf Dig.upD b U j = l) (hgo : 0 < q ∨ j = 0) :
    j < Dig.nd b U ∧ PutRel b U (j + 1) (.int .u64 (q / b : Nat)) (txt (Dig.upD (q % b) :: l)) := by
  have hb : 0 < b ^ j := Nat.pow_pos (by omega)
  have hlt : j < Dig.nd b U := by
    rcases hgo with h | h
    · rcases Nat.lt_or_ge j (Dig.nd b U) with h3 | h3
      · exact h3
      · have h4 : b ^ Dig.nd b U ≤ b ^ j := Nat.pow_le_pow_right (by omega) h3
        have : U / b ^ j = 0 := Nat.div_eq_of_lt (Nat.lt_of_lt_of_le hf.2.1 h4)
        omega
    · have := hf.1; omega
  refine ⟨hlt, hlt, ?_, ?_, ?_⟩
  · rcases hgo with h | h
    · right
      rw [Nat.add_sub_cancel]
      rw [← hq] at h
      exact (Nat.div_pos_iff.1 h).2
    · left; omega
  · rw [← hq, Nat.div_div_eq_div_mul, ← Nat.pow_succ]
  · rw [Dig.suf, hq, hl]
theorem put_end {b U j : Nat} (hu : U < 18446744073709551616) (h2 : 2 ≤ b) (hj : 1 ≤ j) (hq : U / b ^ j = 0) (hlow : j ≤ 1 ∨ b ^ (j - 1) ≤ U) : Dig.suf Dig.upD b U j = Dig.digs Dig.upD b U := by
  unfold Dig.digs
  rw [Dig.nd_eq h2 hu ⟨hj, ?_, ?_⟩]
  · rcases Nat.lt_or_ge U (b ^ j) with h | h
    · exact h
    · have := Nat.div_pos h (Nat.pow_pos (by omega)); omega
  · rcases hlow with h | h
    · left; omega
    · right; exact h
theorem mod_int (q b : Nat) : ((q : Int) % (b : Int)) = ((q % b : Nat) : Int) := by omega
theorem div_int (q b : Nat) : ((q : Int) / (b : Int)) = ((q / b : Nat) : Int) := by omega
/-- what Put tells, whatever the base is -/
def putT (v b : Int) : List UInt8 := if Dig.rightB b then Dig.putV Dig.upD v b else []
end Go.Proofs.YtgabemlehmhgpaaDoor
