
/- Package weave: what its inner calls answer and do: what is open, cells that are laid, what is opened and closed. -/
import Derived.Test.YtcpdhfigaoaohaaDoorWvMem
import Derived.Test.YtcpdhfigaoaohaaDoorWvForm
import Derived.Test.YtcpdhfigaoaohaaDoorWvKinds
import Derived.Test.YtcpdhfigaoaohaaDoorPileWalks
import Derived.Test.YtcpdhfigaoaohaaDoorSub
import Derived.Laws.Rows
import Derived.Laws.ResultCell
import Derived.Deep.RegionHeld3
import Derived.Deep.RegionLaw
import Derived.IntWalk
namespace Go.Proofs.YtcpdhfigaoaohaaDoor.Wv
open Go.RowKit Book Book.Wide Mem
set_option linter.unusedSimpArgs false
set_option linter.unusedVariables false
theorem run_real (w : World) (t e : TypeId) (a : Option Addr) (n c : Nat) (h : Tryd.prog.underlying t = some (.slice e)) : (binOp .neq t (.slice a n c) (.slice none 0 0)).run Tryd.prog w = .ok (.bool (!a.isNone)) w := by
  have he : (Op.equal t (.slice a n c) (.slice none 0 0)).run Tryd.prog w = .ok a.isNone w := Lib.run_equalIn_slice_nil w 9999 t e a n c 0 0 h
  simp only [binOp]
  simp [he]
theorem below_drewN (w : World) (q : Nat) : Below w.heap.size w (w.drewN q) := (Stirred.drewN w q []).below (fun _ h => by cases h) (Nat.le_refl _)
section
variable {w : World} {B p gm : Nat} {bs : List Nat} {m : M}
theorem made_any (h : WAt w B p gm bs m) : Calls Tryd.prog 24 #[.pointer (some ⟨p, 0, none⟩)] w fun e w' => e = .returned (.bool true) ∧ w' = w := by
  obtain ⟨v, h1, _⟩ := h.box
  obtain ⟨L, hL⟩ : ∃ L, m.mem.length = L := ⟨_, rfl⟩
  rw [hL] at h1
  have c0 : w.cell? ⟨p, 0, none⟩ = some (.slice (some ⟨gm, 0, none⟩) L L) := whole_cell h1 rfl
  have hq := run_real w 22 3 (some ⟨gm, 0, none⟩) L L Tryd.underlying22
  clear h h1 hL
  go_enter Tryd.func24, Tryd.ntmps24
  go_wp2
  go_ret
  exact ⟨rfl, rfl⟩
theorem made_nil (w : World) : Calls Tryd.prog 24 #[.pointer none] w fun e w' => e = .returned (.bool false) ∧ w' = w := by
  go_enter Tryd.func24, Tryd.ntmps24
  go_wp2
  go_ret
  exact ⟨rfl, rfl⟩
theorem part_size : (Tryd.prog.info? 80).map (·.size) = some 2 := by kernel_rfl
/-- what is open as a value -/
abbrev partV (x : Nat × Nat) : Value := .agg #[.int .i64 (x.1 : Int), .int .i64 (x.2 : Int)]
set_option maxHeartbeats 2000000 in
theorem last_yes (h : WAt w B p gm bs m) {k : Nat} {x : Nat × Nat} (hk : m.l[k]? = some x) (hk2 : k < 2) : Calls Tryd.prog 63 #[.pointer (some ⟨p, 0, none⟩), .int .i64 (k : Int)] w fun e w' => e = .returned (partV x) ∧ Below w.heap.size w w' := by
  have hl := (List.getElem?_eq_some_iff.1 hk).1
  have hfew := h.few
  obtain ⟨b, hbz⟩ : ∃ b, w.heap.size = b := ⟨_, rfl⟩
  obtain ⟨w1, hw1⟩ : ∃ w1, w.alloc (.cells #[.int .i64 0, .int .i64 0] 80) = w1 := ⟨_, rfl⟩
  have hb1 := (Below.refl w.heap.size w).alloc (Nat.le_refl _) (.cells #[.int .i64 0, .int .i64 0] 80)
  have hn1 := heap_alloc_new w (.cells #[.int .i64 0, .int .i64 0] 80)
  rw [hw1] at hb1 hn1
  rw [hbz] at hn1
  obtain ⟨g, cap, k1, _, _, hcap, _, q0, q1⟩ := (h.below hb1).part hk
  obtain ⟨N, hN⟩ : ∃ N, m.l.length = N := ⟨_, rfl⟩
  obtain ⟨j, hj⟩ : ∃ j, N - 1 - k = j := ⟨_, rfl⟩
  rw [hN] at k1 hl hfew hcap q0 q1
  rw [hj] at q0 q1
  obtain ⟨x1, x2⟩ := x
  have c2 : w1.cell? ⟨p, 2, none⟩ = some (.slice (some ⟨g, 0, none⟩) N cap) := whole_cell k1 rfl
  have a0 := whole_cell hn1 (j := 0) (v := .int .i64 0) rfl
  have a1 := whole_cell hn1 (j := 1) (v := .int .i64 0) rfl
  have f0 := whole_frozen hn1 0
  have f1 := whole_frozen hn1 1
  have q0 : w1.cell? ⟨g, j * 2, none⟩ = some (.int .i64 (x1 : Int)) := q0
  have q1 : w1.cell? ⟨g, j * 2 + 1, none⟩ = some (.int .i64 (x2 : Int)) := q1
  have hset := whole_set (whole_set hn1 0 (.int .i64 (x1 : Int))) 1 (.int .i64 (x2 : Int))
  have hbb := Below.setCell (Below.setCell hb1 (p := ⟨b, 0, none⟩) (by rw [← hbz]; exact Nat.le_refl _) (.int .i64 (x1 : Int))) (p := ⟨b, 1, none⟩) (by rw [← hbz]; exact Nat.le_refl _) (.int .i64 (x2 : Int))
  have HT := Lib.hid (And.intro (show _ = some (Obj.cells #[.int .i64 (x1 : Int), .int .i64 (x2 : Int)] 80 (0, 0)) from hset) hbb)
  have e1 : (N : Int) - 1 - (k : Int) = (j : Int) := by omega
  have z0 : (0 : Int) ≤ (j : Int) := by omega
  have z1 : (j : Int) < (N : Int) := by omega
  have z2 : ¬ (j : Int) < 0 := by omega
  have z4 : IntKind.i64.wrap ((N : Int) - 1) = (N : Int) - 1 := IntWalk.i64_in _ (by omega)
  have z5 : IntKind.i64.wrap ((N : Int) - 1 - (k : Int)) = (N : Int) - 1 - (k : Int) := IntWalk.i64_in _ (by omega)
  clear h hk hb1 hn1 k1 hset hbb hN hj
  go_enter Tryd.func63, Tryd.ntmps63
  go_wp2
  (try simp only [Exit.inBlock, Exit.then])
  refine bodyPost_ret (results_cell_row rfl _ _ b _ _ _ _ rfl HT.out.1 Tryd.underlying80 rfl part_size) rfl ?_
  exact ⟨rfl, by first | exact HT.out.2 | (have h0 := HT.out.2; rw [hbz] at h0; exact h0)⟩
set_option maxHeartbeats 2000000 in
theorem last_no (h : WAt w B p gm bs m) {k : Nat} (hk : m.l.length ≤ k) (hk2 : k < 2) : Calls Tryd.prog 63 #[.pointer (some ⟨p, 0, none⟩), .int .i64 (k : Int)] w fun e w' => e = .returned (partV (0, 0)) ∧ Below w.heap.size w w' := by
  obtain ⟨b, hbz⟩ : ∃ b, w.heap.size = b := ⟨_, rfl⟩
  obtain ⟨w1, hw1⟩ : ∃ w1, w.alloc (.cells #[.int .i64 0, .int .i64 0] 80) = w1 := ⟨_, rfl⟩
  have hb1 := (Below.refl w.heap.size w).alloc (Nat.le_refl _) (.cells #[.int .i64 0, .int .i64 0] 80)
  have hn1 := heap_alloc_new w (.cells #[.int .i64 0, .int .i64 0] 80)
  rw [hw1] at hb1 hn1
  rw [hbz] at hn1
  obtain ⟨v, k1, k2, _⟩ := (h.below hb1).box
  obtain ⟨vo, vc, rfl⟩ := k2.slice (open_len m.l) (by decide)
  obtain ⟨N, hN⟩ : ∃ N, m.l.length = N := ⟨_, rfl⟩
  rw [hN] at k1 hk
  have c2 : w1.cell? ⟨p, 2, none⟩ = some (.slice vo N vc) := whole_cell k1 rfl
  have a0 := whole_cell hn1 (j := 0) (v := .int .i64 0) rfl
  have a1 := whole_cell hn1 (j := 1) (v := .int .i64 0) rfl
  have f0 := whole_frozen hn1 0
  have f1 := whole_frozen hn1 1
  have hset := whole_set (whole_set hn1 0 (.int .i64 0)) 1 (.int .i64 0)
  have hbb := Below.setCell (Below.setCell hb1 (p := ⟨b, 0, none⟩) (by rw [← hbz]; exact Nat.le_refl _) (.int .i64 0)) (p := ⟨b, 1, none⟩) (by rw [← hbz]; exact Nat.le_refl _) (.int .i64 0)
  have HT := Lib.hid (And.intro (show _ = some (Obj.cells #[.int .i64 0, .int .i64 0] 80 (0, 0)) from hset) hbb)
  obtain ⟨d, hd⟩ : ∃ d : Int, (N : Int) - 1 - (k : Int) = d := ⟨_, rfl⟩
  have z2 : d < 0 := by omega
  have z4 : IntKind.i64.wrap ((N : Int) - 1) = (N : Int) - 1 := IntWalk.i64_in _ (by omega)
  have z5 : IntKind.i64.wrap d = d := IntWalk.i64_in _ (by omega)
  clear h hk hb1 hn1 k1 k2 hset hbb hN
  go_enter Tryd.func63, Tryd.ntmps63
  go_wp2
  (try simp only [Exit.inBlock, Exit.then])
  refine bodyPost_ret (results_cell_row rfl _ _ b _ _ _ _ rfl HT.out.1 Tryd.underlying80 rfl part_size) rfl ?_
  exact ⟨rfl, by first | exact HT.out.2 | (have h0 := HT.out.2; rw [hbz] at h0; exact h0)⟩
theorem top_any (h : WAt w B p gm bs m) : Calls Tryd.prog 63 #[.pointer (some ⟨p, 0, none⟩), .int .i64 0] w fun e w' => e = .returned (partV m.top) ∧ Below w.heap.size w w' := by
  unfold M.top
  cases hl : m.l with
  | nil => exact last_no h (k := 0) (by rw [hl]; exact Nat.le_refl _) (by decide)
  | cons x r => exact last_yes h (k := 0) (by rw [hl]; rfl) (by decide)
theorem under_any (h : WAt w B p gm bs m) : Calls Tryd.prog 63 #[.pointer (some ⟨p, 0, none⟩), .int .i64 1] w fun e w' => e = .returned (partV m.under) ∧ Below w.heap.size w w' := by
  unfold M.under
  rcases hl : m.l with - | ⟨x, - | ⟨y, r⟩⟩
  · exact last_no h (k := 1) (by rw [hl]; decide) (by decide)
  · exact last_no h (k := 1) (by rw [hl]; exact Nat.le_refl _) (by decide)
  · exact last_yes h (k := 1) (by rw [hl]; rfl) (by decide)
end
end Go.Proofs.YtcpdhfigaoaohaaDoor.Wv
