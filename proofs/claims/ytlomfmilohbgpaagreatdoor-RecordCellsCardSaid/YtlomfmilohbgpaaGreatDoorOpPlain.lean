
/- Plain facts on the names of operations; what a name names; the document's answers for every number. -/
import Derived.Test.YtlomfmilohbgpaaGreatDoorRefMoves
import Derived.Test.YtlomfmilohbgpaaGreatDoorGreat
namespace Go.Proofs.YtlomfmilohbgpaaGreatDoor
open Go.RowKit
set_option linter.unusedSimpArgs false
set_option linter.unusedVariables false
def nameI (a : Int) : ByteArray := if isOp a then nameOf a.toNat else ⟨#[]⟩
def movesI (a : Int) : Int × Int × Int × Int := if isOp a then movesOf a.toNat else (0, 0, 0, 0)
def argI (a : Int) : Bool := if isOp a then argOf a.toNat else false
def plainI (a : Int) : Bool := if isOp a then plainOf a.toNat else false
def opB (a : Int) : Bool := decide (isOp a)
/-- the last operation below n with that name -/
def lastOp (s : ByteArray) : Nat → Option Nat
  | 0 => none
  | n + 1 => if alike (nameOf n) s then some n else lastOp s n
def ofN (s : ByteArray) : Option Nat := lastOp s 48
/-- letters made small -/
def low (s : ByteArray) : ByteArray := ⟨(s.data.toList.map Lib.lowerB).toArray⟩
theorem alike_iff (a b : ByteArray) : alike a b = true ↔ a.data.toList.map Lib.upperB = b.data.toList.map Lib.upperB := by
  unfold alike
  rw [ByteArray.toList_eq, ByteArray.toList_eq, beq_iff_eq]
  rfl
theorem alike_size {a b : ByteArray} (h : alike a b = true) : a.size = b.size := by
  have := congrArg List.length ((alike_iff a b).1 h)
  rw [List.length_map, List.length_map, bytes_len, bytes_len] at this
  exact this
def bytesOf (k : Nat) : List UInt8 := (nameOf k).data.toList
theorem distinct : ∀ i : Fin 48, ∀ j : Fin 48, (bytesOf i).map Lib.upperB = (bytesOf j).map Lib.upperB → i = j := by decide +kernel
theorem low_same_name : ∀ i : Fin 48, ((bytesOf i).map Lib.lowerB).map Lib.upperB = (bytesOf i).map Lib.upperB := by decide +kernel
theorem name_full : ∀ i : Fin 48, bytesOf i ≠ [] := by decide +kernel
theorem name_short : ∀ i : Fin 48, (bytesOf i).length ≤ 8 := by decide +kernel
theorem nameOf_size {k : Nat} (h : k < 48) : (nameOf k).size ≤ 8 := by rw [← bytes_len]; exact name_short ⟨k, h⟩
theorem nameI_size (a : Int) : (nameI a).size ≤ 8 := by
  unfold nameI
  split
  · rename_i h; exact nameOf_size (by have := h.1; have := h.2; omega)
  · exact Nat.zero_le 8
theorem same_op {s : ByteArray} {i j : Nat} (hi : i < 48) (hj : j < 48) (h1 : alike (nameOf i) s = true) (h2 : alike (nameOf j) s = true) : i = j := by
  have := distinct ⟨i, hi⟩ ⟨j, hj⟩ (((alike_iff _ _).1 h1).trans ((alike_iff _ _).1 h2).symm)
  simpa using this
theorem lastOp_some {s : ByteArray} {n k : Nat} (h : lastOp s n = some k) : k < n ∧ alike (nameOf k) s = true := by
  induction n with
  | zero => cases h
  | succ n ih =>
    unfold lastOp at h
    split at h
    · rename_i ha; simp at h; subst h; exact ⟨by omega, ha⟩
    · obtain ⟨h1, h2⟩ := ih h; exact ⟨by omega, h2⟩
theorem lastOp_of {s : ByteArray} {n k : Nat} (hn : n ≤ 48) (hk : k < n) (h : alike (nameOf k) s = true) : lastOp s n = some k := by
  induction n with
  | zero => omega
  | succ n ih =>
    unfold lastOp
    split
    · rename_i ha; rw [same_op (by omega) (by omega) ha h]
    · rename_i ha
      have : k ≠ n := fun e => ha (e ▸ h)
      exact ih (by omega) (by omega)
theorem ofN_of {s : ByteArray} {k : Nat} (hk : k < 48) (h : alike (nameOf k) s = true) : ofN s = some k := lastOp_of (Nat.le_refl _) hk h
theorem ofN_name {k : Nat} (hk : k < 48) : ofN (nameOf k) = some k := ofN_of hk ((alike_iff _ _).2 rfl)
theorem ofN_low {k : Nat} (hk : k < 48) : ofN (low (nameOf k)) = some k := ofN_of hk ((alike_iff _ _).2 (low_same_name ⟨k, hk⟩).symm)
theorem ofN_empty : ofN ⟨#[]⟩ = none := by
  cases h : ofN ⟨#[]⟩ with
  | none => rfl
  | some k =>
    obtain ⟨hk, ha⟩ := lastOp_some h
    have := (alike_iff _ _).1 ha
    exact absurd (List.map_eq_nil_iff.1 this) (name_full ⟨k, hk⟩)
theorem ofN_longer {k : Nat} {m : ByteArray} (hk : k < 48) (hm : m ≠ ⟨#[]⟩) : ofN (nameOf k ++ m) ≠ some k := fun h => by
  obtain ⟨_, ha⟩ := lastOp_some h
  have := alike_size ha
  rw [ByteArray.size_append] at this
  have h0 : m.size = 0 := by omega
  exact hm (by apply ByteArray.ext; exact Array.eq_empty_of_size_eq_zero h0)
theorem nameI_inj {a b : Int} (ha : isOp a) (hb : isOp b) (h : nameI a = nameI b) : a = b := by
  unfold nameI at h
  rw [if_pos ha, if_pos hb] at h
  have := same_op (s := nameOf a.toNat) (i := a.toNat) (j := b.toNat) (by have := ha.1; have := ha.2; omega) (by have := hb.1; have := hb.2; omega) ((alike_iff _ _).2 rfl) ((alike_iff _ _).2 (by rw [h]))
  have := ha.1; have := hb.1; omega
theorem moves_all : ∀ i : Fin 48, 0 ≤ (movesOf i).1 ∧ (movesOf i).1 ≤ 4 ∧ 0 ≤ (movesOf i).2.1 ∧ (movesOf i).2.1 ≤ 4 ∧ 0 ≤ (movesOf i).2.2.1 ∧ (movesOf i).2.2.1 ≤ 4 ∧ 0 ≤ (movesOf i).2.2.2 ∧ (movesOf i).2.2.2 ≤ 4 := by decide +kernel
theorem movesI_in (a : Int) : 0 ≤ (movesI a).1 ∧ (movesI a).1 ≤ 4 ∧ 0 ≤ (movesI a).2.1 ∧ (movesI a).2.1 ≤ 4 ∧ 0 ≤ (movesI a).2.2.1 ∧ (movesI a).2.2.1 ≤ 4 ∧ 0 ≤ (movesI a).2.2.2 ∧ (movesI a).2.2.2 ≤ 4 := by
  unfold movesI
  split
  · rename_i h; exact moves_all ⟨a.toNat, by have := h.1; have := h.2; omega⟩
  · exact ⟨by decide, by decide, by decide, by decide, by decide, by decide, by decide, by decide⟩
theorem nat_of_op {a : Int} (h : isOp a) : ∃ k : Nat, k < 48 ∧ a = (k : Int) := ⟨a.toNat, by have := h.1; have := h.2; omega, by have := h.1; omega⟩
theorem isOp_nat {k : Nat} (h : k < 48) : isOp (k : Int) := ⟨by omega, by omega⟩
theorem nameI_nat {k : Nat} (h : k < 48) : nameI (k : Int) = nameOf k := by unfold nameI; rw [if_pos (isOp_nat h)]; rfl
theorem nameI_no {a : Int} (h : ¬ isOp a) : nameI a = ⟨#[]⟩ := by unfold nameI; rw [if_neg h]
-- the document's answers
end Go.Proofs.YtlomfmilohbgpaaGreatDoor
