
/- hollowayref1: letters made great; two names alike. -/
import Derived.Test.YtlomfmilohbgpaaGreatDoorRows
import Derived.WalkKit
import Derived.ProofKit
import Derived.Lib.Hide
import Derived.Lib.Case
import Derived.Lib.ConvBytes
import Derived.Lib.BytesEntry
import Derived.Deep.LoopGhost
namespace Go.Proofs.YtlomfmilohbgpaaGreatDoor
open Go.RowKit
set_option linter.unusedSimpArgs false
set_option linter.unusedVariables false
theorem bytes_len (s : ByteArray) : s.data.toList.length = s.size := Array.length_toList
/-- the row of bytes in block N: the first k of l are made great -/
def UpRow (N : Nat) (l : List UInt8) (k : Nat) (w : World) : Prop := ∀ j, j < l.length → w.cell? ⟨N, j, none⟩ = some (.int .u8 ((if j < k then Lib.upperB (l.getD j 0) else l.getD j 0).toNat : Int)) ∧ w.frozen? ⟨N, j, none⟩ = false
theorem UpRow.start (s : ByteArray) (w : World) : UpRow w.heap.size s.data.toList 0 (Lib.bytesWorld w 5 s) := by
  intro j hj
  have hl : s.data.toList.length = s.size := Array.length_toList
  refine ⟨?_, ?_⟩
  · rw [Lib.bytesWorld_cell w 5 s j (by omega), if_neg (by omega)]
  · have h := Lib.bytesWorld_at_new w 5 s
    have hsz : s.size ≤ (Lib.bytesCells w 5 s).size := by unfold Lib.bytesCells; simp
    simp only [World.frozen?, h]
    simp
    omega
theorem UpRow.keep {N k : Nat} {l : List UInt8} {w : World} (h : UpRow N l k w) (hk : k < l.length) (hx : Lib.upperB (l.getD k 0) = l.getD k 0) : UpRow N l (k + 1) w := by
  intro j hj
  obtain ⟨h1, h2⟩ := h j hj
  refine ⟨?_, h2⟩
  rw [h1]
  by_cases hjk : j < k
  · rw [if_pos hjk, if_pos (by omega)]
  · by_cases he : j = k
    · subst he; rw [if_neg hjk, if_pos (by omega), hx]
    · rw [if_neg hjk, if_neg (by omega)]
theorem UpRow.store {N k : Nat} {l : List UInt8} {w : World} {v : Value} (h : UpRow N l k w) (hk : k < l.length) (hv : v = .int .u8 ((Lib.upperB (l.getD k 0)).toNat : Int)) : UpRow N l (k + 1) (w.setCell ⟨N, k, none⟩ v) := by
  intro j hj
  obtain ⟨h1, h2⟩ := h j hj
  refine ⟨?_, by rw [World.frozen?_setCell]; exact h2⟩
  by_cases he : j = k
  · subst he
    rw [World.cell?_setCell_same _ _ _ h1, hv, if_pos (by omega)]
  · rw [World.cell?_setCell_other _ _ _ _ (by intro e; injection e; omega), h1]
    by_cases hjk : j < k
    · rw [if_pos hjk, if_pos (by omega)]
    · rw [if_neg hjk, if_neg (by omega)]
theorem lower_cases (c : UInt8) : (97 ≤ (c.toNat : Int) ∧ (c.toNat : Int) ≤ 122 ∧ ((Lib.upperB c).toNat : Int) = (c.toNat : Int) - 32) ∨ ((c.toNat : Int) < 97 ∧ Lib.upperB c = c) ∨ (122 < (c.toNat : Int) ∧ 97 ≤ (c.toNat : Int) ∧ Lib.upperB c = c) := by
  have e := Lib.isLowerB_int c
  by_cases h1 : 97 ≤ (c.toNat : Int)
  · by_cases h2 : (c.toNat : Int) ≤ 122
    · have h3 : Lib.isLowerB c = true := by rw [e]; simp [h1, h2]
      exact .inl ⟨h1, h2, Lib.upperB_int c h3⟩
    · have h3 : Lib.isLowerB c = false := by rw [e]; simp [h2]
      exact .inr (.inr ⟨by omega, h1, Lib.upperB_of_not c h3⟩)
  · have h3 : Lib.isLowerB c = false := by rw [e]; simp [h1]
    exact .inr (.inl ⟨by omega, Lib.upperB_of_not c h3⟩)
set_option maxRecDepth 100000 in
theorem up_text (s : ByteArray) (cap N : Nat) (w : World) (h : UpRow N s.data.toList s.size w) :
    (convert 140 9 (.slice (some ⟨N, 0, none⟩) s.size cap)).run Tryz.prog w = .ok (.string ⟨(s.data.toList.map Lib.upperB).toArray⟩) w := by
  have hl := bytes_len s
  have e := run_convert_bytes_arg (P := Tryz.prog) w 140 5 Tryz.underlying140 Tryz.underlying5 N 0 s.size cap ((s.data.toList.map Lib.upperB).map fun x => (x.toNat : Int)) (by simp [hl])
    (fun i hi => by
      have hil : i < s.data.toList.length := by omega
      rw [Nat.zero_add, (h i hil).1, if_pos hi]
      simp [hil, List.getD, List.getElem?_eq_getElem hil]) 9 Tryz.underlying9
  rw [e]
  congr 2
  simp only [strOfNums, List.map_map]
  exact congrArg (fun x : List UInt8 => (⟨x.toArray⟩ : ByteArray)) (List.map_congr_left fun x _ => by simp)
theorem bytesw_below (w : World) (s : ByteArray) : Below w.heap.size w (Lib.bytesWorld w 5 s) := by
  refine ⟨rfl, rfl, rfl, ?_, fun j hj => Lib.bytesWorld_at_old w 5 s j hj⟩
  rw [Lib.bytesWorld_size]; omega
/-- letters made great -/
def up (s : ByteArray) : ByteArray := ⟨(s.data.toList.map Lib.upperB).toArray⟩
/-- are two names alike? -/
def alike (a b : ByteArray) : Bool := (up a).toList == (up b).toList
end Go.Proofs.YtlomfmilohbgpaaGreatDoor
