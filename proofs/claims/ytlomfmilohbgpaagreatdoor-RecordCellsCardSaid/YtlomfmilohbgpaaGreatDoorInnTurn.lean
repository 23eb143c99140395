
/- Package inner: where an operation goes on. -/
import Derived.Test.YtlomfmilohbgpaaGreatDoorInnStep
import Derived.Test.YtlomfmilohbgpaaGreatDoorCellWalks
namespace Go.Proofs.YtlomfmilohbgpaaGreatDoor.Inn
open Go.RowKit Book Mem Mach
set_option linter.unusedVariables false
set_option linter.unusedSimpArgs false
section
variable {w : World} {xb : Nat} {g at' nx : Int} {gt gb : Nat} {p q r x y z : Int}
theorem loops1 {a b : Int} (ha : Cell.In a) (hb : Cell.In b) : Cell.crosses (wrap64 (a - b)) 1 = decide (wrap64 (a + 1) = b) := by
  have h := Cell.crosses_iff (Cell.wrap_in (a - b)) (n := 1) (by unfold Cell.In; omega)
  rw [Bool.eq_iff_iff, h, decide_eq_true_eq]
  unfold Cell.In at ha hb
  unfold wrap64
  omega
set_option maxHeartbeats 8000000 in
set_option maxRecDepth 100000 in
theorem turn_exit (h : X8 w xb 5 g at' nx gt gb [] [x]) : Calls Tryz.prog 92 #[.pointer (some ⟨xb, 0, none⟩)] w (XDid w xb 5 g at' (rowV gt 0) (rowV gb 1) gt gb (.tuple #[]) [] [] x) := by
  have HX := Lib.hid h
  obtain ⟨c0, c1, c2, c3, c4, c5, c6, c7⟩ := h.cells
  obtain ⟨f4, f5, f7⟩ := h.free
  have k0 := h.bk (j := 0) (x := x) rfl
  have HR := Lib.hid ((set8 h.box).1 x)
  clear h
  go_enter Tryz.func92, Tryz.ntmps92
  go_wp2
  go_end0
  exact ⟨_, _, [], rfl, HR.out, Stirred.setCell _ _ _, Dep.nil _ _, Dep.nil _ _, fun b hb => by cases hb⟩
set_option maxHeartbeats 8000000 in
set_option maxRecDepth 100000 in
theorem turn_branch (h : X8 w xb 3 g at' nx gt gb [] []) : Calls Tryz.prog 92 #[.pointer (some ⟨xb, 0, none⟩)] w (XDid w xb 3 g at' (rowV gt 0) (rowV gb 0) gt gb (.tuple #[]) [] [] g) := by
  have HX := Lib.hid h
  obtain ⟨c0, c1, c2, c3, c4, c5, c6, c7⟩ := h.cells
  obtain ⟨f4, f5, f7⟩ := h.free
  have HR := Lib.hid ((set8 h.box).1 g)
  clear h
  go_enter Tryz.func92, Tryz.ntmps92
  go_wp2
  go_end0
  exact ⟨_, _, [], rfl, HR.out, Stirred.setCell _ _ _, Dep.nil _ _, Dep.nil _ _, fun b hb => by cases hb⟩
set_option maxHeartbeats 8000000 in
set_option maxRecDepth 100000 in
theorem turn_zero (h : X8 w xb 4 g at' nx gt gb [p] []) (hp : p = 0) : Calls Tryz.prog 92 #[.pointer (some ⟨xb, 0, none⟩)] w (XDid w xb 4 g at' (rowV gt 1) (rowV gb 0) gt gb (.tuple #[]) [] [] g) := by
  subst hp
  have HX := Lib.hid h
  obtain ⟨c0, c1, c2, c3, c4, c5, c6, c7⟩ := h.cells
  obtain ⟨f4, f5, f7⟩ := h.free
  have k0 := h.st (j := 0) (x := 0) rfl
  have HR := Lib.hid ((set8 h.box).1 g)
  clear h
  go_enter Tryz.func92, Tryz.ntmps92
  go_wp2
  go_end0
  exact ⟨_, _, [], rfl, HR.out, Stirred.setCell _ _ _, Dep.nil _ _, Dep.nil _ _, fun b hb => by cases hb⟩
set_option maxHeartbeats 8000000 in
set_option maxRecDepth 100000 in
theorem turn_one (h : X8 w xb 4 g at' nx gt gb [p] []) (hp : p ≠ 0) : Calls Tryz.prog 92 #[.pointer (some ⟨xb, 0, none⟩)] w (XDid w xb 4 g at' (rowV gt 1) (rowV gb 0) gt gb (.tuple #[]) [] [] nx) := by
  have HX := Lib.hid h
  obtain ⟨c0, c1, c2, c3, c4, c5, c6, c7⟩ := h.cells
  obtain ⟨f4, f5, f7⟩ := h.free
  have k0 := h.st (j := 0) (x := p) rfl
  have hp' : (p != 0) = true := by simpa using hp
  clear h hp
  go_enter Tryz.func92, Tryz.ntmps92
  go_wp2
  go_end0
  exact ⟨_, _, [], rfl, HX.out.box, Stirred.refl _ _, Dep.nil _ _, Dep.nil _ _, fun b hb => by cases hb⟩
set_option maxHeartbeats 8000000 in
set_option maxRecDepth 100000 in
theorem turn_loop_ends (h : X8 w xb 37 g at' nx gt gb [] [x, y]) (C : Cell.crosses (wrap64 (y - x)) 1 = true) : Calls Tryz.prog 92 #[.pointer (some ⟨xb, 0, none⟩)] w (XDid w xb 37 g at' (rowV gt 0) (rowV gb 2) gt gb (.tuple #[]) [] [] nx) := by
  have HX := Lib.hid h
  obtain ⟨c0, c1, c2, c3, c4, c5, c6, c7⟩ := h.cells
  obtain ⟨f4, f5, f7⟩ := h.free
  have k2 := h.bk (j := 0) (x := x) rfl
  have k3 := h.bk (j := 1) (x := y) rfl
  have HC := Lib.hid C
  clear h C
  go_enter Tryz.func92, Tryz.ntmps92
  go_wp2_with fail
  go_quiet (fail)
  go_wp2_with (go_at_call 105; refine (Cell.crosses_any _ _ _).mono ?_; rintro e w1 ⟨rfl, hw1⟩; subst hw1; rw [HC.out])
  go_end0
  exact ⟨_, _, [], rfl, (HX.out.drewN _).box, Stirred.drewN _ _ _, Dep.nil _ _, Dep.nil _ _, fun b hb => by cases hb⟩
set_option maxHeartbeats 8000000 in
set_option maxRecDepth 100000 in
theorem turn_loop_on (h : X8 w xb 37 g at' nx gt gb [] [x, y]) (C : Cell.crosses (wrap64 (y - x)) 1 = false) : Calls Tryz.prog 92 #[.pointer (some ⟨xb, 0, none⟩)] w (XDid w xb 37 g at' (rowV gt 0) (rowV gb 2) gt gb (.tuple #[]) [] [x, wrap64 (y + 1)] g) := by
  have HX := Lib.hid h
  obtain ⟨c0, c1, c2, c3, c4, c5, c6, c7⟩ := h.cells
  obtain ⟨f4, f5, f7⟩ := h.free
  have k2 := h.bk (j := 0) (x := x) rfl
  have k3 := h.bk (j := 1) (x := y) rfl
  have HC := Lib.hid C
  clear h C
  go_enter Tryz.func92, Tryz.ntmps92
  go_wp2_with fail
  go_quiet (fail)
  have HX := Lib.hid (HX.out.drewN nq)
  have HSQ := Lib.hid (Stirred.drewN w nq [xb])
  obtain ⟨w1, gl, hw1, hgl, HRW, HB1, HG⟩ := row_box (w.drewN nq) [x, wrap64 (y + 1)]
  change (w.drewN nq).alloc (.cells #[.int .i64 x, .int .i64 (wrap64 (y + 1))] 3) = w1 at hw1
  change w.heap.size = gl at hgl
  have HX1 := Lib.hid (HX.out.below HB1.out)
  have c1' := HX1.out.cells.2.1
  have c5' := HX1.out.cells.2.2.2.2.2.1
  have c7' := HX1.out.cells.2.2.2.2.2.2.2
  have f5' := HX1.out.free.2.1
  have f7' := HX1.out.free.2.2
  have HR := Lib.hid ((set8 ((set8 HX1.out.box).2.2 (rowV gl 2))).1 g)
  go_wp2_with (go_at_call 105; refine (Cell.crosses_any _ _ _).mono ?_; rintro e w2 ⟨rfl, hw2⟩; subst hw2; rw [HC.out])
  go_end0
  have hsz := whole_lt HX1.out.box
  have hd : Dep w1 (rowV gl 2) [x, wrap64 (y + 1)] [gl] := Dep.row HRW.out.1 rfl
  have hne : gl ≠ xb := fun e => by have h1 := whole_lt HX.out.box; have h2 := HG.out; omega
  refine ⟨_, _, [gl], rfl, HR.out, ((HSQ.out.trans (Stirred.of_below HB1.out [xb]) (fun k hk => .inl hk)).trans (Stirred.setCell _ _ _) (fun k hk => .inl hk)).trans (Stirred.setCell _ _ _) (fun k hk => .inl hk), Dep.nil _ _, fun w' hk => hd w' (fun k hm => (hk k hm).trans ?_), fun b hb => ?_⟩
  · rw [List.mem_singleton] at hm
    subst hm
    exact ((Stirred.setCell (w1.setCell ⟨xb, 5, none⟩ (rowV k 2)) ⟨xb, 7, none⟩ (.int .i64 g)).block k (by simpa using whole_lt HRW.out.1) (by simpa using hne)).trans ((Stirred.setCell w1 ⟨xb, 5, none⟩ (rowV k 2)).block k (whole_lt HRW.out.1) (by simpa using hne))
  · rw [List.mem_singleton] at hb
    subst hb
    exact ⟨by simpa using whole_lt HRW.out.1, hne, .inr (.inr (Nat.le_of_eq HG.out))⟩
set_option maxHeartbeats 8000000 in
set_option maxRecDepth 100000 in
theorem turn_plus_ends (h : X8 w xb 38 g at' nx gt gb [p] [x, y]) (C : Cell.crosses (wrap64 (y - x)) p = true) : Calls Tryz.prog 92 #[.pointer (some ⟨xb, 0, none⟩)] w (XDid w xb 38 g at' (rowV gt 1) (rowV gb 2) gt gb (.tuple #[]) [] [] nx) := by
  have HX := Lib.hid h
  obtain ⟨c0, c1, c2, c3, c4, c5, c6, c7⟩ := h.cells
  obtain ⟨f4, f5, f7⟩ := h.free
  have k0 := h.st (j := 0) (x := p) rfl
  have k2 := h.bk (j := 0) (x := x) rfl
  have k3 := h.bk (j := 1) (x := y) rfl
  have HC := Lib.hid C
  clear h C
  go_enter Tryz.func92, Tryz.ntmps92
  go_wp2_with fail
  go_quiet (fail)
  go_wp2_with (go_at_call 105; refine (Cell.crosses_any _ _ _).mono ?_; rintro e w1 ⟨rfl, hw1⟩; subst hw1; rw [HC.out])
  go_end0
  exact ⟨_, _, [], rfl, (HX.out.drewN _).box, Stirred.drewN _ _ _, Dep.nil _ _, Dep.nil _ _, fun b hb => by cases hb⟩
set_option maxHeartbeats 8000000 in
set_option maxRecDepth 100000 in
theorem turn_plus_on (h : X8 w xb 38 g at' nx gt gb [p] [x, y]) (C : Cell.crosses (wrap64 (y - x)) p = false) : Calls Tryz.prog 92 #[.pointer (some ⟨xb, 0, none⟩)] w (XDid w xb 38 g at' (rowV gt 1) (rowV gb 2) gt gb (.tuple #[]) [] [x, wrap64 (y + p)] g) := by
  have HX := Lib.hid h
  obtain ⟨c0, c1, c2, c3, c4, c5, c6, c7⟩ := h.cells
  obtain ⟨f4, f5, f7⟩ := h.free
  have k0 := h.st (j := 0) (x := p) rfl
  have k2 := h.bk (j := 0) (x := x) rfl
  have k3 := h.bk (j := 1) (x := y) rfl
  have HC := Lib.hid C
  clear h C
  go_enter Tryz.func92, Tryz.ntmps92
  go_wp2_with fail
  go_quiet (fail)
  have HX := Lib.hid (HX.out.drewN nq)
  have HSQ := Lib.hid (Stirred.drewN w nq [xb])
  obtain ⟨w1, gl, hw1, hgl, HRW, HB1, HG⟩ := row_box (w.drewN nq) [x, wrap64 (y + p)]
  change (w.drewN nq).alloc (.cells #[.int .i64 x, .int .i64 (wrap64 (y + p))] 3) = w1 at hw1
  change w.heap.size = gl at hgl
  have HX1 := Lib.hid (HX.out.below HB1.out)
  have c1' := HX1.out.cells.2.1
  have c5' := HX1.out.cells.2.2.2.2.2.1
  have c7' := HX1.out.cells.2.2.2.2.2.2.2
  have f5' := HX1.out.free.2.1
  have f7' := HX1.out.free.2.2
  have HR := Lib.hid ((set8 ((set8 HX1.out.box).2.2 (rowV gl 2))).1 g)
  go_wp2_with (go_at_call 105; refine (Cell.crosses_any _ _ _).mono ?_; rintro e w2 ⟨rfl, hw2⟩; subst hw2; rw [HC.out])
  go_end0
  have hsz := whole_lt HX1.out.box
  have hd : Dep w1 (rowV gl 2) [x, wrap64 (y + p)] [gl] := Dep.row HRW.out.1 rfl
  have hne : gl ≠ xb := fun e => by have h1 := whole_lt HX.out.box; have h2 := HG.out; omega
  refine ⟨_, _, [gl], rfl, HR.out, ((HSQ.out.trans (Stirred.of_below HB1.out [xb]) (fun k hk => .inl hk)).trans (Stirred.setCell _ _ _) (fun k hk => .inl hk)).trans (Stirred.setCell _ _ _) (fun k hk => .inl hk), Dep.nil _ _, fun w' hk => hd w' (fun k hm => (hk k hm).trans ?_), fun b hb => ?_⟩
  · rw [List.mem_singleton] at hm
    subst hm
    exact ((Stirred.setCell (w1.setCell ⟨xb, 5, none⟩ (rowV k 2)) ⟨xb, 7, none⟩ (.int .i64 g)).block k (by simpa using whole_lt HRW.out.1) (by simpa using hne)).trans ((Stirred.setCell w1 ⟨xb, 5, none⟩ (rowV k 2)).block k (whole_lt HRW.out.1) (by simpa using hne))
  · rw [List.mem_singleton] at hb
    subst hb
    exact ⟨by simpa using whole_lt HRW.out.1, hne, .inr (.inr (Nat.le_of_eq HG.out))⟩
end
end Go.Proofs.YtlomfmilohbgpaaGreatDoor.Inn
