/- Walks of a strings.Builder of a call's own: grow, Grow. -/
import Derived.Test.YtoajkbdadcepaaaDoorBuilder
import Derived.RegionTactic
import Derived.ChangeAlike
import Derived.Lib.MakeNoZero
import Derived.Lib.Builder
namespace Go.Proofs.YtoajkbdadcepaaaDoor
open Go.RowKit
set_option linter.unusedSimpArgs false
set_option linter.unusedVariables false
theorem Tryd.sizeByte : (Tryd.prog.info? U8).map (·.size) = some 1 := by kernel_rfl
set_option maxHeartbeats 2000000 in
set_option maxRecDepth 1000000 in
theorem grow_fresh (B b n : Nat) (w : World) (hB : B ≤ b) (hbk : w.heap[b]? = some (.cells #[.pointer (some ⟨b, 0, none⟩), .slice none 0 0] BT (0, 0))) (hBw : B ≤ w.heap.size) (hn : n ≤ 140737488355328) :
    Calls Tryd.prog 30 #[.pointer (some ⟨b, 0, none⟩), .int .i64 n] w fun e w' => e = .returned (.tuple #[]) ∧ Lib.BuilderAt BT U8 B b (.pointer (some ⟨b, 0, none⟩)) [] w' ∧ Below B w w' := by
  obtain ⟨cs, hrun, hle, hmax⟩ := Lib.run_makeNoZero (P := Tryd.prog) w.drew #[3] 29 U8 Tryd.underlying29 n (by omega)
  have hw : IntKind.i64.wrap (IntKind.i64.wrap 0 + (n : Int)) = n := by
    rw [IntKind.wrap_i64, IntKind.wrap_i64]
    omega
  have hcall : (callFunc 41 #[.int .i64 (IntKind.i64.wrap (IntKind.i64.wrap 0 + (n : Int)))]).run Tryd.prog w.drew = .ok (.value (.slice (some ⟨w.drew.heap.size, 0, none⟩) n cs.size)) (w.drew.drew.drew.alloc (.cells cs U8)) := by
    rw [hw, run_callFunc_extern Tryd.func41 (by kernel_rfl) (by kernel_rfl) (by kernel_rfl) (e := Extern.BytealgMakeNoZero.makeNoZero #[3] #[29]) (by kernel_rfl), hrun]
    rfl
  have hlt : b < w.heap.size := by
    rcases Nat.lt_or_ge b w.heap.size with h' | h'
    · exact h'
    · simp [Array.getElem?_eq_none h'] at hbk
  have c1 : w.drew.cell? ⟨b, 1, none⟩ = some (.slice none 0 0) := by
    have : w.drew.heap[b]? = _ := hbk
    rw [Lib.cell_of_heap this]; rfl
  have hb2 : (w.alloc (.cells cs U8)).heap[b]? = some (.cells #[.pointer (some ⟨b, 0, none⟩), .slice none 0 0] BT (0, 0)) := (Lib.alloc_old w _ b hlt).trans hbk
  have c2 : (w.alloc (.cells cs U8)).cell? ⟨b, 1, none⟩ = some (.slice none 0 0) := by rw [Lib.cell_of_heap hb2]; rfl
  have f2 : (w.alloc (.cells cs U8)).frozen? ⟨b, 1, none⟩ = false := Lib.frozen_of_heap hb2 1
  have hcopy : ∀ W : World, (Builtin.copy_ #[29, 29] 3 #[.slice (some ⟨w.heap.size, 0, none⟩) 0 cs.size, .slice none 0 0]).run Tryd.prog W = .ok (goInt 0) W :=
    fun W => run_copy_none W 29 29 3 U8 _ _ 0 cs.size 0 0 Tryd.underlying29 Tryd.sizeByte rfl
  have hfin := Lib.grown_fresh (T := BT) (e := U8) (cs := cs) hB hbk hBw (hmax (by unfold maxLen; omega)) (by decide)
  have HF := Lib.hid hfin
  clear hw hrun hle hmax hfin hb2 hlt
  go_enter Tryd.func30, Tryd.ntmps30
  go_wp2
  go_region
  all_goals (go_wp2; go_end0; exact ⟨rfl, HF.out⟩)
set_option maxHeartbeats 2000000 in
set_option maxRecDepth 1000000 in
theorem Grow_fresh (B b n : Nat) (w : World) (hB : B ≤ b) (hbk : w.heap[b]? = some (.cells #[.pointer none, .slice none 0 0] BT (0, 0))) (hBw : B ≤ w.heap.size) (hn : n ≤ 140737488355328) :
    Calls Tryd.prog 21 #[.pointer (some ⟨b, 0, none⟩), .int .i64 n] w fun e w' => e = .returned (.tuple #[]) ∧ Lib.BuilderAt BT U8 B b (.pointer (some ⟨b, 0, none⟩)) [] w' ∧ Below B w w' := by
  have hbk1 : (w.setCell ⟨b, 0, none⟩ (.pointer (some ⟨b, 0, none⟩))).heap[b]? = some (.cells #[.pointer (some ⟨b, 0, none⟩), .slice none 0 0] BT (0, 0)) := by
    simp [World.setCell, Array.getElem?_modify, hbk]
  have C := Lib.hid (copyCheck_fresh b w (by rw [Lib.cell_of_heap hbk]; rfl) (by simp [World.shape?, hbk]) (Lib.frozen_of_heap hbk 0))
  obtain ⟨W, hW⟩ : ∃ W, w.setCell ⟨b, 0, none⟩ (.pointer (some ⟨b, 0, none⟩)) = W := ⟨_, rfl⟩
  have hb1 : Below B w W := hW ▸ (Below.refl B w).setCell (p := ⟨b, 0, none⟩) hB _
  rw [hW] at hbk1 C
  have c1 : W.cell? ⟨b, 1, none⟩ = some (.slice none 0 0) := by rw [Lib.cell_of_heap hbk1]; rfl
  have hU : Lib.BuilderAt BT U8 B b (.pointer (some ⟨b, 0, none⟩)) [] W := ⟨hB, .slice none 0 0, hbk1, World.ownsRow_nil _ _ _ _, by simp [Value.ownBlock]⟩
  have G : ∀ k, Hid (Calls Tryd.prog 30 #[.pointer (some ⟨b, 0, none⟩), .int .i64 n] (W.drewN k) fun e w' => e = .returned (.tuple #[]) ∧ Lib.BuilderAt BT U8 B b (.pointer (some ⟨b, 0, none⟩)) [] w' ∧ Below B (W.drewN k) w') :=
    fun k => grow_fresh B b n (W.drewN k) hB hbk1 (by have := hb1.size; show B ≤ W.heap.size; omega) hn
  have HB := Lib.hid hb1
  have HU := Lib.hid hU
  clear hb1 hU hbk1 hbk hW hBw
  go_enter Tryd.func21, Tryd.ntmps21
  go_wp2_with (go_at_call 29; refine C.out.mono ?_; rintro e w' ⟨rfl, rfl⟩)
  go_quiet (fail)
  go_wp2_with (go_at_call 30; refine (G _).out.mono ?_; rintro e w2 ⟨rfl, h1, h2⟩)
  · go_end0
    exact ⟨rfl, h1, (HB.out.trans (below_drewN _ _ _)).trans h2⟩
  · go_end0
    exact ⟨rfl, HU.out, HB.out.trans (below_drewN _ _ _)⟩
end Go.Proofs.YtoajkbdadcepaaaDoor
