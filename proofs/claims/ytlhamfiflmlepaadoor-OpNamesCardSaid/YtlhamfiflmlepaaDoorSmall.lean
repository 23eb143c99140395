/- Letters made small, in a row of bytes of the call's own. -/
import Derived.Test.YtlhamfiflmlepaaDoorGreat
namespace Go.Proofs.YtlhamfiflmlepaaDoor.Small
open Go.RowKit
set_option linter.unusedSimpArgs false
set_option linter.unusedVariables false
/-- the row of bytes in block N: the first k of l are made small -/
def LowRow (N : Nat) (l : List UInt8) (k : Nat) (w : World) : Prop := ∀ j, j < l.length → w.cell? ⟨N, j, none⟩ = some (.int .u8 ((if j < k then Lib.lowerB (l.getD j 0) else l.getD j 0).toNat : Int)) ∧ w.frozen? ⟨N, j, none⟩ = false
theorem LowRow.start (s : ByteArray) (w : World) : LowRow w.heap.size s.data.toList 0 (Lib.bytesWorld w 5 s) := by
  intro j hj
  have hl : s.data.toList.length = s.size := Array.length_toList
  refine ⟨?_, ?_⟩
  · rw [Lib.bytesWorld_cell w 5 s j (by omega), if_neg (by omega)]
  · have h := Lib.bytesWorld_at_new w 5 s
    have hsz : s.size ≤ (Lib.bytesCells w 5 s).size := by unfold Lib.bytesCells; simp
    simp only [World.frozen?, h]
    simp
    omega
theorem LowRow.keep {N k : Nat} {l : List UInt8} {w : World} (h : LowRow N l k w) (hk : k < l.length) (hx : Lib.lowerB (l.getD k 0) = l.getD k 0) : LowRow N l (k + 1) w := by
  intro j hj
  obtain ⟨h1, h2⟩ := h j hj
  refine ⟨?_, h2⟩
  rw [h1]
  by_cases hjk : j < k
  · rw [if_pos hjk, if_pos (by omega)]
  · by_cases he : j = k
    · subst he; rw [if_neg hjk, if_pos (by omega), hx]
    · rw [if_neg hjk, if_neg (by omega)]
theorem LowRow.store {N k : Nat} {l : List UInt8} {w : World} {v : Value} (h : LowRow N l k w) (hk : k < l.length) (hv : v = .int .u8 ((Lib.lowerB (l.getD k 0)).toNat : Int)) : LowRow N l (k + 1) (w.setCell ⟨N, k, none⟩ v) := by
  intro j hj
  obtain ⟨h1, h2⟩ := h j hj
  refine ⟨?_, by rw [World.frozen?_setCell]; exact h2⟩
  by_cases he : j = k
  · subst he
    rw [World.cell?_setCell_same _ _ _ h1, hv, if_pos (by omega)]
  · rw [World.cell?_setCell_other _ _ _ _ (by intro e; injection e; omega), h1]
    by_cases hjk : j < k
    · rw [if_pos hjk, if_pos (by omega)]
    · rw [if_neg hjk, if_neg (by omega)]
theorem upper_cases (c : UInt8) : (65 ≤ (c.toNat : Int) ∧ (c.toNat : Int) ≤ 90 ∧ ((Lib.lowerB c).toNat : Int) = (c.toNat : Int) + 32) ∨ ((c.toNat : Int) < 65 ∧ Lib.lowerB c = c) ∨ (90 < (c.toNat : Int) ∧ 65 ≤ (c.toNat : Int) ∧ Lib.lowerB c = c) := by
  have e := Lib.isUpperB_int c
  by_cases h1 : 65 ≤ (c.toNat : Int)
  · by_cases h2 : (c.toNat : Int) ≤ 90
    · have h3 : Lib.isUpperB c = true := by rw [e]; simp [h1, h2]
      exact .inl ⟨h1, h2, Lib.lowerB_int c h3⟩
    · have h3 : Lib.isUpperB c = false := by rw [e]; simp [h2]
      exact .inr (.inr ⟨by omega, h1, Lib.lowerB_of_not c h3⟩)
  · have h3 : Lib.isUpperB c = false := by rw [e]; simp [h1]
    exact .inr (.inl ⟨by omega, Lib.lowerB_of_not c h3⟩)
theorem low_text (s : ByteArray) (cap N : Nat) (w : World) (h : LowRow N s.data.toList s.size w) :
    (convert 34 9 (.slice (some ⟨N, 0, none⟩) s.size cap)).run Tryd.prog w = .ok (.string ⟨(s.data.toList.map Lib.lowerB).toArray⟩) w := by
  have hl := bytes_len s
  have e := run_convert_bytes_arg (P := Tryd.prog) w 34 5 Tryd.underlying34 Tryd.underlying5 N 0 s.size cap ((s.data.toList.map Lib.lowerB).map fun x => (x.toNat : Int)) (by simp [hl])
    (fun i hi => by
      have hil : i < s.data.toList.length := by omega
      rw [Nat.zero_add, (h i hil).1, if_pos hi]
      simp [hil, List.getD, List.getElem?_eq_getElem hil]) 9 Tryd.underlying9
  rw [e]
  congr 2
  simp only [strOfNums, List.map_map]
  exact congrArg (fun x : List UInt8 => (⟨x.toArray⟩ : ByteArray)) (List.map_congr_left fun x _ => by simp)
end Go.Proofs.YtlhamfiflmlepaaDoor.Small
