
/- Package field: making, reading, copying. -/
import Derived.Test.YtlomfmilohbgpaaGreatDoorFldPlain
import Derived.Test.YtlomfmilohbgpaaGreatDoorCloneInts
import Derived.Test.YtlomfmilohbgpaaGreatDoorBookInts
import Derived.WalkKit
import Derived.Lib.Hide
import Derived.Lib.MinMax
import Derived.Laws.CopyOwn
import Derived.Laws.AppendOwnNone
import Derived.BigQuiet
import Derived.Deep.QuietTactic
namespace Go.Proofs.YtlomfmilohbgpaaGreatDoor.Fld
open Go.RowKit Book Go.Proofs.YtlomfmilohbgpaaGreatDoor.Mem Mem
set_option linter.unusedSimpArgs false
set_option linter.unusedVariables false
theorem search_any (v : Value) (B : Nat) (xs : List Int) (x : Int) (w : World) (h : Owns w B 3 v (vals xs)) (hs : xs.Pairwise (· < ·)) (hl : xs.length ≤ 1000000) :
    Calls Tryz.prog 111 #[v, .int .i64 x] w fun e w' => e = .returned (.tuple #[.int .i64 (lessN xs x : Nat), .bool (xs.contains x)]) ∧ ∃ q, w' = w.drewN q := by
  rcases h.form with ⟨ao, rfl, hx⟩ | ⟨g, cap, rfl, hc0⟩
  · have hx : xs = [] := List.map_eq_nil_iff.1 hx
    subst hx
    exact (Tryz.slices_BinarySearch_int_empty ao 0 x w).mono fun e w' ⟨h1, h2⟩ => ⟨h1, 0, h2⟩
  · rw [vals_length]
    have := Tryz.slices_BinarySearch_int g 0 xs.length cap xs x w (Nat.le_refl _) (by omega) (fun j hj => by
      obtain ⟨g', c', e, hc, _, _⟩ := h.row (by rw [vals_length]; omega)
      simp only [Value.slice.injEq, Option.some.injEq, Addr.mk.injEq, and_true, true_and] at e
      rw [Nat.zero_add, e.1]
      exact hc j _ (by simp [vals, List.getD_eq_getElem?_getD, List.getElem?_eq_getElem hj])) (by rw [List.take_length]; exact hs.imp fun h => Int.le_of_lt h)
    rw [List.take_length] at this
    exact this
theorem Tryz.fdIntInfo : (Tryz.prog.info? 3).map (fun i => (i.zero, i.size, i.bytes)) = some (some (.int .i64 0), 1, 8) := by kernel_rfl
/-- a memory that was made in this call -/
def Made (w : World) (cs : List Int) (e : Ending) (w' : World) : Prop := ∃ p vC, e = .returned (.pointer (some ⟨p, 0, none⟩)) ∧ FieldAt w' w.heap.size p vC (.slice none 0 0) cs [] ∧ Below w.heap.size w w'
set_option maxHeartbeats 1000000 in
theorem new_any (n : Int) (m : Nat) (hm : (m : Int) = min (max n 0) 3000) (w : World) : Calls Tryz.prog 58 #[.int .i64 n] w (Made w (List.replicate m 0)) := by
  obtain ⟨i0, q1, q2, q3, q4⟩ := info_parts Tryz.fdIntInfo
  have HM := Lib.hid hm
  have hm3 : m ≤ 3000 := by omega
  have HI := Lib.hid (And.intro q1 (And.intro q2 (And.intro q3 q4)))
  clear q1 q2 q3 q4 hm
  go_enter Tryz.func58, Tryz.ntmps58
  go_wp2_with (at_make; refine wpList_make_full _ rfl _ _ 22 rfl w.heap.size 3 i0 (.int .i64 0) 1 Tryz.underlying22 HI.out.1 HI.out.2.1 HI.out.2.2.1 .i64 .i64 _ _ m rfl rfl ?a1 ?a2 ?a3 ?a4 (Nat.le_refl _) ?_)
  case a1 => exact HM.out.symm
  case a2 => exact HM.out.symm
  case a3 => rw [HI.out.2.2.2]; omega
  case a4 => unfold maxLen; omega
  intro w1 hO hG
  rw [toList_madeCells_one] at hO
  have HO := Lib.hid (Owns.of_row hO)
  have HG := Lib.hid hG
  have hz := hG.size
  clear hO hG
  go_wp2
  go_ret
  have hb := ((Below.refl w1.heap.size w1).alloc (Nat.le_refl _) (.cells #[.slice (some ⟨w.heap.size, 0, none⟩) m m, .slice none 0 0] 95))
  have hv : vals (List.replicate m 0) = List.replicate m (.int .i64 0) := by simp [vals]
  refine ⟨w1.heap.size, _, rfl, ⟨heap_alloc_new w1 _, hz, by rw [hv]; exact HO.out.below hb, ⟨_, _, by rw [List.length_replicate]⟩, by simpa using hm3, Owns.nil _ _ _, fun _ => rfl, List.Pairwise.nil, (fun x h => by cases h), (fun k _ h => by cases h)⟩, ((Stirred.of_grown HG.out).below (fun k h => by cases h) (Nat.le_refl _)).trans (hb.mono hz)⟩
set_option maxHeartbeats 1000000 in
set_option maxRecDepth 100000 in
theorem of_any (v : Value) (xs : List Int) (w : World) (h : Reads w v xs) (hl : xs.length ≤ 1000000) : Calls Tryz.prog 46 #[v] w (Made w (xs.take 3000)) := by
  obtain ⟨ao, cap, rfl, hc⟩ := h
  obtain ⟨n, hn⟩ : ∃ n, xs.length = n := ⟨_, rfl⟩
  rw [hn] at hl ⊢
  obtain ⟨m, hm⟩ : ∃ m, min n 3000 = m := ⟨_, rfl⟩
  have HN := Lib.hid hn
  have HM := Lib.hid hm
  have HC := Lib.hid hc
  have C := Lib.hid (new_any (n : Int) m (by omega) w)
  clear hn hm hc
  go_enter Tryz.func46, Tryz.ntmps46
  go_wp2_with fail
  refine C.out.mono ?_
  rintro e w1 ⟨p, vC, rfl, hF, hb⟩
  obtain ⟨g, fc, hvc⟩ := hF.form
  subst hvc
  have hvl : (vals (xs.take 3000)).length = m := by rw [vals_length, List.length_take, HN.out, Nat.min_comm]; exact HM.out
  have hml : (xs.take 3000).length = m := by rw [← vals_length]; exact hvl
  have hm3 : m ≤ 3000 := by have := HM.out; omega
  have hmn : m ≤ n := by have := HM.out; omega
  have hF1 := hF
  simp only [List.length_replicate] at hF1
  have hw2 : ∃ w2, (∀ ty, (Builtin.copy_ #[22, 22] ty #[.slice (some ⟨g, 0, none⟩) m fc, .slice ao n cap]).run Tryz.prog w1 = .ok (goInt m) w2) ∧
      FieldAt w2 w.heap.size p (.slice (some ⟨g, 0, none⟩) m fc) (.slice none 0 0) (xs.take 3000) [] ∧ Below w.heap.size w w2 := by
    by_cases h0 : m = 0
    · have hx : xs.take 3000 = [] := List.eq_nil_of_length_eq_zero (by omega)
      rw [hx]
      subst h0
      exact ⟨w1, fun ty => run_copy_none w1 22 22 ty 3 _ ao 0 fc n cap Tryz.underlying22 (by kernel_rfl) (by simp), hF1, hb⟩
    · obtain ⟨a, ha, _⟩ := HC.out 0 (xs[0]'(by rw [HN.out]; omega)) (List.getElem?_eq_getElem _)
      subst ha
      have hr := hF1.cells.row (by rw [vals_length, List.length_replicate]; omega)
      obtain ⟨g', c', e, hcell, hf, hlc⟩ := hr
      simp only [Value.slice.injEq, Option.some.injEq, Addr.mk.injEq, and_true, true_and] at e
      obtain ⟨e1, e2, e3⟩ := e
      rw [← e1] at hcell hf
      rw [vals_length, List.length_replicate, ← e3] at hlc
      have hrun : ∀ ty, (Builtin.copy_ #[22, 22] ty #[.slice (some ⟨g, 0, none⟩) m fc, .slice (some a) n cap]).run Tryz.prog w1 = .ok (goInt m) (w1.setCells g 0 (vals (xs.take 3000))) := fun ty => by
        have := run_copy_cells (P := Tryz.prog) w1 22 22 ty 3 g 0 m fc a n cap (vals (xs.take 3000)) Tryz.underlying22 (by kernel_rfl) (by rw [hvl]; simp only [Nat.min_def]; split <;> omega)
          (fun j v hj => by
            simp only [vals, List.getElem?_map, Option.map_eq_some_iff] at hj
            obtain ⟨x, hx, rfl⟩ := hj
            rw [List.getElem?_take] at hx
            split at hx
            · obtain ⟨a', e', hc'⟩ := HC.out j x hx
              simp only [Option.some.injEq] at e'
              subst e'
              rw [hb.cell (p := a.add j) (World.block_lt_of_cell? w _ hc')]
              exact hc'
            · cases hx)
          (fun j hj => by rw [Nat.zero_add, hcell j (.int .i64 0) (by simp only [vals, List.getElem?_map, List.getElem?_replicate]; rw [if_pos (by omega)]; rfl)]; rfl) (fun j _ => hf _) (vals_one _)
        rw [hvl] at this
        exact this
      have hO := hF1.cells
      rw [show m = (vals (List.replicate m 0)).length by rw [vals_length, List.length_replicate]] at hO
      have hO2 := Owns.restored (ys := vals (xs.take 3000)) (cap := fc) (g := g) (xs := vals (List.replicate m 0)) (by rw [vals_length, List.length_replicate] at hO ⊢; exact hO) (by rw [hvl, vals_length, List.length_replicate])
      rw [hvl] at hO2
      have hbg : blk (.slice (some ⟨g, 0, none⟩) m fc) = some g := blk_pos (by omega)
      have hpg : p ∉ [g] := fun h => by
        simp at h
        subst h
        exact hF1.pC.1 hbg
      have hS := Stirred.setCells g (vals (xs.take 3000)) 0 w1
      exact ⟨_, hrun, ⟨hS.whole hF1.whole hpg, hF1.le, hO2, ⟨g, fc, by rw [hml]⟩, by rw [hml]; exact hm3, Owns.nil _ _ _, fun _ => rfl, List.Pairwise.nil, (fun x h => by cases h), (fun k _ h => by cases h)⟩,
        hb.trans (hS.below (fun k hk => by simp at hk; subst hk; exact (hF1.cells.block _ hbg).1) hb.size)⟩
  obtain ⟨w2, hrun, hF2, hb2⟩ := hw2
  have HR := Lib.hid hrun
  have HF := Lib.hid hF2
  have HB := Lib.hid hb2
  have c0 := hF1.c0
  clear hF hF1 hF2 hb hb2 C hrun hvl hml hm3 hmn
  go_wp2_with (with_reducible refine wpList_copy_runI _ rfl _ _ 22 22 rfl _ _ rfl rfl (HR.out _) ?_)
  go_ret
  exact ⟨p, _, rfl, HF.out, HB.out⟩
end Go.Proofs.YtlomfmilohbgpaaGreatDoor.Fld