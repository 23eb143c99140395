/- Package inner: where an operation goes on. -/
import Derived.Test.YtcffbeihgchpgaaGreatDoorG12
import Derived.Test.YtcffbeihgchpgaaGreatDoorG4
import Derived.Test.YtcffbeihgchpgaaGreatDoorG13
import Derived.Test.YtcffbeihgchpgaaGreatDoorRows
import Derived.Test.YtcffbeihgchpgaaGreatDoorG5
import Derived.WalkKit
import Derived.WalkSpells
import Derived.WalkLawsBesides
import Derived.Lib.Hide
import Derived.Lib.Strings
import Derived.Test.YtcffbeihgchpgaaGreatDoorG8
import Derived.Laws.BitsAllLaws
import Derived.Lib.LaidTab
import Derived.Lib.TrailingZeros
import Derived.Laws.BytesArg
import Derived.Lib.ItoaMem
import Derived.Deep.LoopGhost
import Derived.Deep.DeepCutAuto
import Derived.Deep.RegionWith
import Derived.BigQuiet
import Derived.Deep.QuietTactic
namespace Go.Proofs.YtcffbeihgchpgaaGreatDoor.Inn
open Go.RowKit Book Mem Mach
set_option linter.unusedVariables false
set_option linter.unusedSimpArgs false
section
variable {w : World} {xb : Nat} {g at' nx : Int} {gt gb : Nat} {p q r x y z : Int}
theorem loops1 {a b : Int} (ha : Cell.In a) (hb : Cell.In b) : Cell.crosses (wrap64 (a - b)) 1 = decide (wrap64 (a + 1) = b) := by
  have h := Cell.crosses_iff (Cell.wrap_in (a - b)) (n := 1) (by unfold Cell.In; omega)
  rw [Bool.eq_iff_iff, h, decide_eq_true_eq]
  unfold Cell.In at ha hb
  unfold wrap64
  omega
set_option maxHeartbeats 8000000 in
set_option maxRecDepth 100000 in
theorem turn_exit (h : X8 w xb 5 g at' nx gt gb [] [x]) : Calls Tryz.prog 166 #[.pointer (some ⟨xb, 0, none⟩)] w (XDid w xb 5 g at' (rowV gt 0) (rowV gb 1) gt gb (.tuple #[]) [] [] x) := by
  have HX := Lib.hid h
  obtain ⟨c0, c1, c2, c3, c4, c5, c6, c7⟩ := h.cells
  obtain ⟨f4, f5, f7⟩ := h.free
  have k0 := h.bk (j := 0) (x := x) rfl
  have HR := Lib.hid ((set8 h.box).1 x)
  clear h
  go_enter Tryz.func166, Tryz.ntmps166
  go_wp2
  go_end0
  exact ⟨_, _, [], rfl, HR.out, Stirred.setCell _ _ _, Dep.nil _ _, Dep.nil _ _, fun b hb => by cases hb⟩
set_option maxHeartbeats 8000000 in
set_option maxRecDepth 100000 in
theorem turn_branch (h : X8 w xb 3 g at' nx gt gb [] []) : Calls Tryz.prog 166 #[.pointer (some ⟨xb, 0, none⟩)] w (XDid w xb 3 g at' (rowV gt 0) (rowV gb 0) gt gb (.tuple #[]) [] [] g) := by
  have HX := Lib.hid h
  obtain ⟨c0, c1, c2, c3, c4, c5, c6, c7⟩ := h.cells
  obtain ⟨f4, f5, f7⟩ := h.free
  have HR := Lib.hid ((set8 h.box).1 g)
  clear h
  go_enter Tryz.func166, Tryz.ntmps166
  go_wp2
  go_end0
  exact ⟨_, _, [], rfl, HR.out, Stirred.setCell _ _ _, Dep.nil _ _, Dep.nil _ _, fun b hb => by cases hb⟩
set_option maxHeartbeats 8000000 in
set_option maxRecDepth 100000 in
theorem turn_zero (h : X8 w xb 4 g at' nx gt gb [p] []) (hp : p = 0) : Calls Tryz.prog 166 #[.pointer (some ⟨xb, 0, none⟩)] w (XDid w xb 4 g at' (rowV gt 1) (rowV gb 0) gt gb (.tuple #[]) [] [] g) := by
  subst hp
  have HX := Lib.hid h
  obtain ⟨c0, c1, c2, c3, c4, c5, c6, c7⟩ := h.cells
  obtain ⟨f4, f5, f7⟩ := h.free
  have k0 := h.st (j := 0) (x := 0) rfl
  have HR := Lib.hid ((set8 h.box).1 g)
  clear h
  go_enter Tryz.func166, Tryz.ntmps166
  go_wp2
  go_end0
  exact ⟨_, _, [], rfl, HR.out, Stirred.setCell _ _ _, Dep.nil _ _, Dep.nil _ _, fun b hb => by cases hb⟩
set_option maxHeartbeats 8000000 in
set_option maxRecDepth 100000 in
theorem turn_one (h : X8 w xb 4 g at' nx gt gb [p] []) (hp : p ≠ 0) : Calls Tryz.prog 166 #[.pointer (some ⟨xb, 0, none⟩)] w (XDid w xb 4 g at' (rowV gt 1) (rowV gb 0) gt gb (.tuple #[]) [] [] nx) := by
  have HX := Lib.hid h
  obtain ⟨c0, c1, c2, c3, c4, c5, c6, c7⟩ := h.cells
  obtain ⟨f4, f5, f7⟩ := h.free
  have k0 := h.st (j := 0) (x := p) rfl
  have hp' : (p != 0) = true := by simpa using hp
  clear h hp
  go_enter Tryz.func166, Tryz.ntmps166
  go_wp2
  go_end0
  exact ⟨_, _, [], rfl, HX.out.box, Stirred.refl _ _, Dep.nil _ _, Dep.nil _ _, fun b hb => by cases hb⟩
set_option maxHeartbeats 8000000 in
set_option maxRecDepth 100000 in
theorem turn_loop_ends (h : X8 w xb 37 g at' nx gt gb [] [x, y]) (C : Cell.crosses (wrap64 (y - x)) 1 = true) : Calls Tryz.prog 166 #[.pointer (some ⟨xb, 0, none⟩)] w (XDid w xb 37 g at' (rowV gt 0) (rowV gb 2) gt gb (.tuple #[]) [] [] nx) := by
  have HX := Lib.hid h
  obtain ⟨c0, c1, c2, c3, c4, c5, c6, c7⟩ := h.cells
  obtain ⟨f4, f5, f7⟩ := h.free
  have k2 := h.bk (j := 0) (x := x) rfl
  have k3 := h.bk (j := 1) (x := y) rfl
  have HC := Lib.hid C
  clear h C
  go_enter Tryz.func166, Tryz.ntmps166
  go_wp2_with fail
  go_quiet (fail)
  go_wp2_with (go_at_call 179; refine (Cell.crosses_any _ _ _).mono ?_; rintro e w1 ⟨rfl, hw1⟩; subst hw1; rw [HC.out])
  go_end0
  exact ⟨_, _, [], rfl, (HX.out.drewN _).box, Stirred.drewN _ _ _, Dep.nil _ _, Dep.nil _ _, fun b hb => by cases hb⟩
set_option maxHeartbeats 8000000 in
set_option maxRecDepth 100000 in
theorem turn_loop_on (h : X8 w xb 37 g at' nx gt gb [] [x, y]) (C : Cell.crosses (wrap64 (y - x)) 1 = false) : Calls Tryz.prog 166 #[.pointer (some ⟨xb, 0, none⟩)] w (XDid w xb 37 g at' (rowV gt 0) (rowV gb 2) gt gb (.tuple #[]) [] [x, wrap64 (y + 1)] g) := by
  have HX := Lib.hid h
  obtain ⟨c0, c1, c2, c3, c4, c5, c6, c7⟩ := h.cells
  obtain ⟨f4, f5, f7⟩ := h.free
  have k2 := h.bk (j := 0) (x := x) rfl
  have k3 := h.bk (j := 1) (x := y) rfl
  have HC := Lib.hid C
  clear h C
  go_enter Tryz.func166, Tryz.ntmps166
  go_wp2_with fail
  go_quiet (fail)
  have HX := Lib.hid (HX.out.drewN nq)
  have HSQ := Lib.hid (Stirred.drewN w nq [xb])
  obtain ⟨w1, gl, hw1, hgl, HRW, HB1, HG⟩ := row_box (w.drewN nq) [x, wrap64 (y + 1)]
  change (w.drewN nq).alloc (.cells #[.int .i64 x, .int .i64 (wrap64 (y + 1))] 3) = w1 at hw1
  change w.heap.size = gl at hgl
  have HX1 := Lib.hid (HX.out.below HB1.out)
  have c1' := HX1.out.cells.2.1
  have c5' := HX1.out.cells.2.2.2.2.2.1
  have c7' := HX1.out.cells.2.2.2.2.2.2.2
  have f5' := HX1.out.free.2.1
  have f7' := HX1.out.free.2.2
  have HR := Lib.hid ((set8 ((set8 HX1.out.box).2.2 (rowV gl 2))).1 g)
  go_wp2_with (go_at_call 179; refine (Cell.crosses_any _ _ _).mono ?_; rintro e w2 ⟨rfl, hw2⟩; subst hw2; rw [HC.out])
  go_end0
  have hsz := whole_lt HX1.out.box
  have hd : Dep w1 (rowV gl 2) [x, wrap64 (y + 1)] [gl] := Dep.row HRW.out.1 rfl
  have hne : gl ≠ xb := fun e => by have h1 := whole_lt HX.out.box; have h2 := HG.out; omega
  refine ⟨_, _, [gl], rfl, HR.out, ((HSQ.out.trans (Stirred.of_below HB1.out [xb]) (fun k hk => .inl hk)).trans (Stirred.setCell _ _ _) (fun k hk => .inl hk)).trans (Stirred.setCell _ _ _) (fun k hk => .inl hk), Dep.nil _ _, fun w' hk => hd w' (fun k hm => (hk k hm).trans ?_), fun b hb => ?_⟩
  · rw [List.mem_singleton] at hm
    subst hm
    exact ((Stirred.setCell (w1.setCell ⟨xb, 5, none⟩ (rowV k 2)) ⟨xb, 7, none⟩ (.int .i64 g)).block k (by simpa using whole_lt HRW.out.1) (by simpa using hne)).trans ((Stirred.setCell w1 ⟨xb, 5, none⟩ (rowV k 2)).block k (whole_lt HRW.out.1) (by simpa using hne))
  · rw [List.mem_singleton] at hb
    subst hb
    exact ⟨by simpa using whole_lt HRW.out.1, hne, .inr (.inr (Nat.le_of_eq HG.out))⟩
set_option maxHeartbeats 8000000 in
set_option maxRecDepth 100000 in
theorem turn_plus_ends (h : X8 w xb 38 g at' nx gt gb [p] [x, y]) (C : Cell.crosses (wrap64 (y - x)) p = true) : Calls Tryz.prog 166 #[.pointer (some ⟨xb, 0, none⟩)] w (XDid w xb 38 g at' (rowV gt 1) (rowV gb 2) gt gb (.tuple #[]) [] [] nx) := by
  have HX := Lib.hid h
  obtain ⟨c0, c1, c2, c3, c4, c5, c6, c7⟩ := h.cells
  obtain ⟨f4, f5, f7⟩ := h.free
  have k0 := h.st (j := 0) (x := p) rfl
  have k2 := h.bk (j := 0) (x := x) rfl
  have k3 := h.bk (j := 1) (x := y) rfl
  have HC := Lib.hid C
  clear h C
  go_enter Tryz.func166, Tryz.ntmps166
  go_wp2_with fail
  go_quiet (fail)
  go_wp2_with (go_at_call 179; refine (Cell.crosses_any _ _ _).mono ?_; rintro e w1 ⟨rfl, hw1⟩; subst hw1; rw [HC.out])
  go_end0
  exact ⟨_, _, [], rfl, (HX.out.drewN _).box, Stirred.drewN _ _ _, Dep.nil _ _, Dep.nil _ _, fun b hb => by cases hb⟩
set_option maxHeartbeats 8000000 in
set_option maxRecDepth 100000 in
theorem turn_plus_on (h : X8 w xb 38 g at' nx gt gb [p] [x, y]) (C : Cell.crosses (wrap64 (y - x)) p = false) : Calls Tryz.prog 166 #[.pointer (some ⟨xb, 0, none⟩)] w (XDid w xb 38 g at' (rowV gt 1) (rowV gb 2) gt gb (.tuple #[]) [] [x, wrap64 (y + p)] g) := by
  have HX := Lib.hid h
  obtain ⟨c0, c1, c2, c3, c4, c5, c6, c7⟩ := h.cells
  obtain ⟨f4, f5, f7⟩ := h.free
  have k0 := h.st (j := 0) (x := p) rfl
  have k2 := h.bk (j := 0) (x := x) rfl
  have k3 := h.bk (j := 1) (x := y) rfl
  have HC := Lib.hid C
  clear h C
  go_enter Tryz.func166, Tryz.ntmps166
  go_wp2_with fail
  go_quiet (fail)
  have HX := Lib.hid (HX.out.drewN nq)
  have HSQ := Lib.hid (Stirred.drewN w nq [xb])
  obtain ⟨w1, gl, hw1, hgl, HRW, HB1, HG⟩ := row_box (w.drewN nq) [x, wrap64 (y + p)]
  change (w.drewN nq).alloc (.cells #[.int .i64 x, .int .i64 (wrap64 (y + p))] 3) = w1 at hw1
  change w.heap.size = gl at hgl
  have HX1 := Lib.hid (HX.out.below HB1.out)
  have c1' := HX1.out.cells.2.1
  have c5' := HX1.out.cells.2.2.2.2.2.1
  have c7' := HX1.out.cells.2.2.2.2.2.2.2
  have f5' := HX1.out.free.2.1
  have f7' := HX1.out.free.2.2
  have HR := Lib.hid ((set8 ((set8 HX1.out.box).2.2 (rowV gl 2))).1 g)
  go_wp2_with (go_at_call 179; refine (Cell.crosses_any _ _ _).mono ?_; rintro e w2 ⟨rfl, hw2⟩; subst hw2; rw [HC.out])
  go_end0
  have hsz := whole_lt HX1.out.box
  have hd : Dep w1 (rowV gl 2) [x, wrap64 (y + p)] [gl] := Dep.row HRW.out.1 rfl
  have hne : gl ≠ xb := fun e => by have h1 := whole_lt HX.out.box; have h2 := HG.out; omega
  refine ⟨_, _, [gl], rfl, HR.out, ((HSQ.out.trans (Stirred.of_below HB1.out [xb]) (fun k hk => .inl hk)).trans (Stirred.setCell _ _ _) (fun k hk => .inl hk)).trans (Stirred.setCell _ _ _) (fun k hk => .inl hk), Dep.nil _ _, fun w' hk => hd w' (fun k hm => (hk k hm).trans ?_), fun b hb => ?_⟩
  · rw [List.mem_singleton] at hm
    subst hm
    exact ((Stirred.setCell (w1.setCell ⟨xb, 5, none⟩ (rowV k 2)) ⟨xb, 7, none⟩ (.int .i64 g)).block k (by simpa using whole_lt HRW.out.1) (by simpa using hne)).trans ((Stirred.setCell w1 ⟨xb, 5, none⟩ (rowV k 2)).block k (whole_lt HRW.out.1) (by simpa using hne))
  · rw [List.mem_singleton] at hb
    subst hb
    exact ⟨by simpa using whole_lt HRW.out.1, hne, .inr (.inr (Nat.le_of_eq HG.out))⟩
end
end Go.Proofs.YtcffbeihgchpgaaGreatDoor.Inn
/- Package inner: a byte is asked for. -/
namespace Go.Proofs.YtcffbeihgchpgaaGreatDoor.Inn
open Go.RowKit Book Mem Mach
set_option linter.unusedVariables false
set_option linter.unusedSimpArgs false
section
variable {w : World} {B q ps gs pb gb pf : Nat} {vC vH : Value} {ch : List Int} {vs vb vm : Value} {m : M} {xb : Nat} {g at' nx : Int} {gt gk : Nat} {x y z p : Int}
set_option maxHeartbeats 8000000 in
set_option maxRecDepth 100000 in
theorem ask_yes (h : Pre w B q ps gs pb gb pf vC vH ch vs vb vm m xb 43 g at' nx gt gk [] []) (hB : B ≤ w.heap.size) (h0 : 0 ≤ m.read) (h1 : m.read < (m.inp.size : Int)) (hin : m.inp.size ≤ maxLen) : Calls Tryz.prog 165 #[.pointer (some ⟨q, 0, none⟩), .pointer (some ⟨xb, 0, none⟩)] w (DoOk w B q (feet q ps gs pb gb pf vC vH) xb 43 g at' (rowV gt 0) (rowV gk 0) { m with read := m.read + 1 } [((m.inp.data.toList.getD m.read.toNat 0).toNat : Int)] [] nx (.tuple #[])) := by
  have HP := Lib.hid h
  have HB := Lib.hid hB
  obtain ⟨c0, c1, c2, c3, c4, c5, c6, c7⟩ := h.x.cells
  obtain ⟨f4, f5, f7⟩ := h.x.free
  obtain ⟨m0, m1, m5, m6, m7, m8, m9⟩ := h.mc.cells
  obtain ⟨n1, n2, n3⟩ := h.mc.ptrs
  have hr : m.read = (m.read.toNat : Int) := by omega
  obtain ⟨rd, hrd⟩ : ∃ rd : Nat, m.read.toNat = rd := ⟨_, rfl⟩
  rw [hrd] at hr
  have h2 : rd < m.inp.size := by omega
  have h3 : (rd : Int) < (m.inp.size : Int) := by omega
  have h4 : m.inp.size ≤ 9223372036854775807 := hin
  obtain ⟨by', hby⟩ : ∃ b, m.inp[rd] = b := ⟨_, rfl⟩
  have hD : m.inp.data.toList.getD rd 0 = by' := by rw [← hby, List.getD_eq_getElem?_getD, List.getElem?_eq_getElem (by simpa using h2)]; rfl
  rw [hr] at m7
  have f7q : w.frozen? ⟨q, 7, none⟩ = false := whole_frozen h.mc.box 7
  have e8 : wrap64 ((by'.toNat : Nat) : Int) = ((by'.toNat : Nat) : Int) := by have := by'.toNat_lt; unfold wrap64; omega
  have HD := Lib.hid hD
  have HRD := Lib.hid (And.intro hr hrd)
  clear h hB hin h0 h1 hD hr hrd
  go_enter Tryz.func165, Tryz.ntmps165
  go_wp2_with fail
  go_quiet (fail)
  have HS := Lib.hid (stir_drewN w nq (feet q ps gs pb gb pf vC vH))
  have HP := Lib.hid ((HP.out.drewN nq).set 7 (.int .i64 ((rd : Int) + 1)) { m with read := (rd : Int) + 1 } rfl rfl rfl rfl)
  have HS := Lib.hid (HS.out.trans (stir_q (w.drewN nq) 7 (.int .i64 ((rd : Int) + 1))) (fun k hk => .inl hk))
  obtain ⟨w1, gl, hw1, hgl, HRW, HB1, HG⟩ := row_box ((w.drewN nq).setCell ⟨q, 7, none⟩ (.int .i64 ((rd : Int) + 1))) [((by'.toNat : Nat) : Int)]
  change ((w.drewN nq).setCell ⟨q, 7, none⟩ (.int .i64 ((rd : Int) + 1))).alloc (.cells #[.int .i64 ((by'.toNat : Nat) : Int)] 3) = w1 at hw1
  have hz : ((w.drewN nq).setCell ⟨q, 7, none⟩ (.int .i64 ((rd : Int) + 1))).heap.size = w.heap.size := by simp
  rw [hz] at hgl
  clear hz
  have HX1 := Lib.hid (HP.out.x.below HB1.out)
  have c4' := HX1.out.cells.2.2.2.2.1
  have f4' := HX1.out.free.1
  go_wp2
  go_end0
  have hval := ok_row4 (err := .tuple #[]) HP.out.mc.mach HP.out.x.box HP.out.nx (stir_more HS.out) (fun f hf => .inl hf) HRW.out HB1.out HG.out
  have e1 := HRD.out.1
  have e2 := HRD.out.2
  have e3 := HD.out
  rw [e2, e3, e1]
  exact hval
set_option maxHeartbeats 8000000 in
set_option maxRecDepth 100000 in
theorem ask_no (h : Pre w B q ps gs pb gb pf vC vH ch vs vb vm m xb 43 g at' nx gt gk [] []) (hB : B ≤ w.heap.size) (h0 : 0 ≤ m.read) (h1 : ¬ m.read < (m.inp.size : Int)) : Calls Tryz.prog 165 #[.pointer (some ⟨q, 0, none⟩), .pointer (some ⟨xb, 0, none⟩)] w (DoOk w B q (feet q ps gs pb gb pf vC vH) xb 43 g at' (rowV gt 0) (rowV gk 0) m [-1] [] nx (.tuple #[])) := by
  have HP := Lib.hid h
  have HB := Lib.hid hB
  obtain ⟨c0, c1, c2, c3, c4, c5, c6, c7⟩ := h.x.cells
  obtain ⟨f4, f5, f7⟩ := h.x.free
  obtain ⟨m0, m1, m5, m6, m7, m8, m9⟩ := h.mc.cells
  obtain ⟨n1, n2, n3⟩ := h.mc.ptrs
  have hr : m.read = (m.read.toNat : Int) := by omega
  obtain ⟨rd, hrd⟩ : ∃ rd : Nat, m.read.toNat = rd := ⟨_, rfl⟩
  rw [hrd] at hr
  have h3 : decide ((rd : Int) < (m.inp.size : Int)) = false := decide_eq_false (by omega)
  have h5 : decide (rd < m.inp.size) = false := decide_eq_false (by omega)
  rw [hr] at m7
  clear h hB h0 h1 hr hrd
  go_enter Tryz.func165, Tryz.ntmps165
  go_wp2_with fail
  go_quiet (fail)
  have HS := Lib.hid (stir_drewN w nq (feet q ps gs pb gb pf vC vH))
  have HP := Lib.hid (HP.out.drewN nq)
  obtain ⟨w1, gl, hw1, hgl, HRW, HB1, HG⟩ := row_box (w.drewN nq) [(-1 : Int)]
  change (w.drewN nq).alloc (.cells #[.int .i64 (-1)] 3) = w1 at hw1
  change w.heap.size = gl at hgl
  have HX1 := Lib.hid (HP.out.x.below HB1.out)
  have c4' := HX1.out.cells.2.2.2.2.1
  have f4' := HX1.out.free.1
  go_wp2
  go_end0
  exact ok_row4 (err := .tuple #[]) HP.out.mc.mach HP.out.x.box HP.out.nx (stir_more HS.out) (fun f hf => .inl hf) HRW.out HB1.out HG.out
end
end Go.Proofs.YtcffbeihgchpgaaGreatDoor.Inn
/- The walks of package digits: Right, digit, sign, number. -/
namespace Go.Proofs.YtcffbeihgchpgaaGreatDoor
open Go.RowKit
set_option linter.unusedSimpArgs false
set_option linter.unusedVariables false

theorem right_yes (b : Int) (h : Dig.rightB b = true) (w : World) :
    Calls Tryz.prog 187 #[.int .i64 b] w fun e w' => e = .returned (.bool true) ∧ w = w' := by
  simp only [Dig.rightB, Bool.and_eq_true, decide_eq_true_eq] at h
  obtain ⟨h0, h1⟩ := h
  go_enter Tryz.func187, Tryz.ntmps187
  go_wp2
  go_ret
  exact ⟨rfl, rfl⟩
theorem right_no (b : Int) (h : Dig.rightB b = false) (w : World) :
    Calls Tryz.prog 187 #[.int .i64 b] w fun e w' => e = .returned (.bool false) ∧ w = w' := by
  simp only [Dig.rightB, Bool.and_eq_false_iff, decide_eq_false_iff_not] at h
  by_cases h0 : 2 ≤ b
  · have h1 : decide (b ≤ 36) = false := by rw [decide_eq_false_iff_not]; rcases h with h | h <;> omega
    clear h
    go_enter Tryz.func187, Tryz.ntmps187
    go_wp2
    go_ret
    exact ⟨rfl, rfl⟩
  · have h1 : b < 2 := by omega
    clear h h0
    go_enter Tryz.func187, Tryz.ntmps187
    go_wp2
    go_ret
    exact ⟨rfl, rfl⟩
theorem dig_cases (c : UInt8) : (c.toNat : Int) < 48 ∧ Dig.dig c = 36 ∨ (48 ≤ (c.toNat : Int) ∧ (c.toNat : Int) ≤ 57 ∧ Dig.dig c = (c.toNat : Int) - 48) ∨ (57 < (c.toNat : Int) ∧ (c.toNat : Int) < 65 ∧ Dig.dig c = 36)
    ∨ (65 ≤ (c.toNat : Int) ∧ (c.toNat : Int) ≤ 90 ∧ Dig.dig c = (c.toNat : Int) - 55) ∨ (90 < (c.toNat : Int) ∧ (c.toNat : Int) < 97 ∧ Dig.dig c = 36) ∨ (97 ≤ (c.toNat : Int) ∧ (c.toNat : Int) ≤ 122 ∧ Dig.dig c = (c.toNat : Int) - 87) ∨ (122 < (c.toNat : Int) ∧ Dig.dig c = 36) := by
  unfold Dig.dig
  split
  · omega
  · split
    · omega
    · split <;> omega
theorem ret_int {k : IntKind} {a b : Int} (h : a = b) : Ending.returned (.int k a) = .returned (.int k b) := by rw [h]
theorem sign_cases (c : UInt8) : (c.toNat : Int) = 36 ∧ Dig.signV c = 16 ∨ (c.toNat : Int) = 35 ∧ Dig.signV c = 10 ∨ (c.toNat : Int) = 37 ∧ Dig.signV c = 2 ∨ (¬ (c.toNat : Int) = 36 ∧ ¬ (c.toNat : Int) = 35 ∧ ¬ (c.toNat : Int) = 37 ∧ Dig.signV c = 0) := by
  have e : ∀ k : UInt8, c = k ↔ (c.toNat : Int) = (k.toNat : Int) := fun k => ⟨fun h => by rw [h], fun h => UInt8.toNat_inj.1 (by omega)⟩
  unfold Dig.signV
  simp only [e]
  show _ ∧ (if (c.toNat : Int) = 36 then (16 : Int) else if (c.toNat : Int) = 35 then 10 else if (c.toNat : Int) = 37 then 2 else 0) = 16 ∨ _ ∧ (if (c.toNat : Int) = 36 then (16 : Int) else if (c.toNat : Int) = 35 then 10 else if (c.toNat : Int) = 37 then 2 else 0) = 10 ∨ _ ∧ (if (c.toNat : Int) = 36 then (16 : Int) else if (c.toNat : Int) = 35 then 10 else if (c.toNat : Int) = 37 then 2 else 0) = 2 ∨ (_ ∧ _ ∧ _ ∧ (if (c.toNat : Int) = 36 then (16 : Int) else if (c.toNat : Int) = 35 then 10 else if (c.toNat : Int) = 37 then 2 else 0) = 0)
  split
  · omega
  · split
    · omega
    · split <;> omega
/-- what a number, or none, is told as -/
abbrev Num (o : Int × Bool) : Ending := .returned (.tuple #[.int .i64 o.1, .bool o.2])
theorem drop_get (l : List UInt8) (k : Nat) (h : k < l.length) : l.drop k = l[k] :: l.drop (k + 1) := List.drop_eq_getElem_cons h
theorem minus_eq (l : List UInt8) : Dig.minus l = (Lib.trimPrefix l [45], Lib.hasPrefix l [45]) := by
  unfold Dig.minus Lib.trimPrefix Lib.hasPrefix
  cases l with
  | nil => rfl
  | cons c r =>
    by_cases h : c = 45
    · subst h; simp [List.isPrefixOf]
    · have h' : ((45 : UInt8) == c) = false := by simpa using fun e => h e.symm
      simp [List.isPrefixOf, h, h']
theorem minus_len (l : List UInt8) : (Dig.minus l).1.length ≤ l.length := by
  rw [minus_eq]; exact Lib.trimPrefix_le _ _
/-- what stands behind the apostrophes' test -/
def restV (l : List UInt8) (base : Int) : Int × Bool := Dig.withSign (Dig.minus (Dig.signed l base).1).2 (Dig.numV (Dig.minus (Dig.signed l base).1).1 (Dig.signed l base).2)
theorem signV_range (c : UInt8) (h : ¬ Dig.signV c = 0) : 2 ≤ Dig.signV c ∧ Dig.signV c ≤ 36 := by
  rcases sign_cases c with ⟨_, e⟩ | ⟨_, e⟩ | ⟨_, e⟩ | ⟨_, _, _, e⟩ <;> omega
end Go.Proofs.YtcffbeihgchpgaaGreatDoor
/- The walks of the library's small callees: internal/strconv.isPowerOfTwo, math/bits.TrailingZeros at a base's powers. -/
namespace Go.Proofs.YtcffbeihgchpgaaGreatDoor
open Go.RowKit
set_option linter.unusedSimpArgs false
set_option linter.unusedVariables false

def powB (b : Int) : Bool := bits .and .i64 b (b - 1) == 0
theorem pow_walk (b : Int) (h0 : 2 ≤ b) (h1 : b ≤ 36) (w : World) :
    Calls Tryz.prog 227 #[.int .i64 b] w fun e w' => e = .returned (.bool (powB b)) ∧ w = w' := by
  go_enter Tryz.func227, Tryz.ntmps227
  go_wp2
  go_ret
  exact ⟨rfl, rfl⟩
theorem pow_fin : ∀ b : Fin 37, 2 ≤ b.val → powB (b.val : Int) = true → b.val = 2 ∨ b.val = 4 ∨ b.val = 8 ∨ b.val = 16 ∨ b.val = 32 := by decide +kernel
theorem pow_cases {b : Nat} (h0 : 2 ≤ b) (h1 : b ≤ 36) (h : powB b = true) : b = 2 ∨ b = 4 ∨ b = 8 ∨ b = 16 ∨ b = 32 := pow_fin ⟨b, by omega⟩ h0 h
/-- the table of the trailing zeros, as the row lists it -/
def tz64 : List Int := Lib.deBruijn64tab.map fun (n : Nat) => (n : Int)
def Zeros (w : World) : Prop := Lib.TabIs Tryz.prog w "math/bits.deBruijn64tab" .u8 tz64
theorem Tryz.gz : Tryz.prog.globalNamed "math/bits.deBruijn64tab" = some 8 := by kernel_rfl
theorem Zeros.at {w : World} (h : Zeros w) (i : Nat) (hi : i < 64) : w.cell? ⟨8, i, none⟩ = some (.int .u8 (tz64.getD i 0)) := by
  have := h.cell Tryz.gz i (by show i < tz64.length; rw [show tz64.length = 64 from by decide]; exact hi)
  simpa using this
set_option maxHeartbeats 1000000 in
theorem tz_core (a k : Int) (ha : (a == 0) = false) (k0 : 0 ≤ k) (k1 : k ≤ 64) (w : World)
    (h0 : 0 ≤ IntKind.u64.wrap (bits .and .u64 a (IntKind.u64.wrap (-a)) * 285870213051353865) / 288230376151711744)
    (h1 : IntKind.u64.wrap (bits .and .u64 a (IntKind.u64.wrap (-a)) * 285870213051353865) / 288230376151711744 < 64)
    (hc : w.cell? ⟨8, (IntKind.u64.wrap (bits .and .u64 a (IntKind.u64.wrap (-a)) * 285870213051353865) / 288230376151711744).toNat, none⟩ = some (.int .u8 k)) :
    Calls Tryz.prog 233 #[.int .u64 a] w fun e w' => e = .returned (.int .i64 k) ∧ w = w' := by
  go_enter Tryz.func233, Tryz.ntmps233
  go_wp2
  go_ret
  exact ⟨rfl, rfl⟩
theorem tz_at (a k : Int) (i : Nat) (hi : i < 64) (ha : (a == 0) = false) (k0 : 0 ≤ k) (k1 : k ≤ 64) (e : IntKind.u64.wrap (bits .and .u64 a (IntKind.u64.wrap (-a)) * 285870213051353865) / 288230376151711744 = (i : Int)) (ek : tz64.getD i 0 = k) (w : World) (h : Zeros w) :
    Calls Tryz.prog 233 #[.int .u64 a] w fun e w' => e = .returned (.int .i64 k) ∧ w = w' :=
  tz_core a k ha k0 k1 w (by rw [e]; omega) (by rw [e]; omega) (by rw [e, ← ek, Int.toNat_natCast]; exact h.at i hi)
theorem tz64_at (b : Nat) (k : Int) (hk : b = 2 ∧ k = 1 ∨ b = 4 ∧ k = 2 ∨ b = 8 ∧ k = 3 ∨ b = 16 ∧ k = 4 ∨ b = 32 ∧ k = 5) (w : World) (h : Zeros w) :
    Calls Tryz.prog 233 #[.int .u64 b] w fun e w' => e = .returned (.int .i64 k) ∧ w = w' := by
  rcases hk with ⟨rfl, rfl⟩ | ⟨rfl, rfl⟩ | ⟨rfl, rfl⟩ | ⟨rfl, rfl⟩ | ⟨rfl, rfl⟩
  · exact tz_at _ _ (2 ^ 1 * 285870213051353865 % 18446744073709551616 / 288230376151711744) (by decide) rfl (by decide) (by decide) (by decide +kernel) (by decide +kernel) w h
  · exact tz_at _ _ (2 ^ 2 * 285870213051353865 % 18446744073709551616 / 288230376151711744) (by decide) rfl (by decide) (by decide) (by decide +kernel) (by decide +kernel) w h
  · exact tz_at _ _ (2 ^ 3 * 285870213051353865 % 18446744073709551616 / 288230376151711744) (by decide) rfl (by decide) (by decide) (by decide +kernel) (by decide +kernel) w h
  · exact tz_at _ _ (2 ^ 4 * 285870213051353865 % 18446744073709551616 / 288230376151711744) (by decide) rfl (by decide) (by decide) (by decide +kernel) (by decide +kernel) w h
  · exact tz_at _ _ (2 ^ 5 * 285870213051353865 % 18446744073709551616 / 288230376151711744) (by decide) rfl (by decide) (by decide) (by decide +kernel) (by decide +kernel) w h
theorem tz_walk (b : Nat) (k : Int) (hk : b = 2 ∧ k = 1 ∨ b = 4 ∧ k = 2 ∨ b = 8 ∧ k = 3 ∨ b = 16 ∧ k = 4 ∨ b = 32 ∧ k = 5) (w : World) (h : Zeros w) :
    Calls Tryz.prog 228 #[.int .u64 b] w fun e w' => e = .returned (.int .i64 k) ∧ w = w' := by
  have C := Lib.hid (tz64_at b k hk w h)
  have hb : (b : Int) ≤ 32 := by omega
  clear hk h
  go_enter Tryz.func228, Tryz.ntmps228
  go_wp2_with (go_at_call 233; refine C.out.mono ?_; rintro e w' ⟨rfl, rfl⟩)
  go_ret
  exact ⟨rfl, rfl⟩
end Go.Proofs.YtcffbeihgchpgaaGreatDoor
/- The walk of internal/strconv.formatBits. -/
namespace Go.Proofs.YtcffbeihgchpgaaGreatDoor
open Go.RowKit
set_option linter.unusedSimpArgs false
set_option linter.unusedVariables false
abbrev byteV (c : UInt8) : Value := .int .u8 (c.toNat : Int)
abbrev lowText : ByteArray := ⟨#[48, 49, 50, 51, 52, 53, 54, 55, 56, 57, 97, 98, 99, 100, 101, 102, 103, 104, 105, 106, 107, 108, 109, 110, 111, 112, 113, 114, 115, 116, 117, 118, 119, 120, 121, 122]⟩
/-- the last cells of 65 are these bytes -/
def Filled (c : Array Value) (l : List UInt8) : Prop := c.size = 65 ∧ ∃ pre, c.toList = pre ++ l.map byteV
def FmtRel (b U j n : Nat) (c : Array Value) (u i : Value) : Prop := j < Dig.nd b U ∧ n + j = 65 ∧ u = .int .u64 (U / b ^ j : Nat) ∧ i = .int .i64 n ∧ Filled c (Dig.suf Dig.loD b U j)
theorem Tryz.zeroSize : Tryz.zeroCells247.size = 65 := by kernel_rfl
theorem fill_step {c : Array Value} {l : List UInt8} {n : Nat} {x : UInt8} {v : Value} (h : Filled c l) (hl : n + l.length = 65) (hn : 0 < n) (hv : v = byteV x) : Filled (c.setIfInBounds (n - 1) v) (x :: l) := by
  obtain ⟨hc, pre, hp⟩ := h
  subst hv
  have hlen : pre.length = n := by
    have := congrArg List.length hp
    rw [Array.length_toList, hc] at this
    simp at this
    omega
  obtain ⟨p, y, rfl⟩ : ∃ p y, pre = p ++ [y] := ⟨_, _, (List.dropLast_concat_getLast (l := pre) (by intro h; rw [h] at hlen; simp at hlen; omega)).symm⟩
  have hpl : p.length = n - 1 := by simp at hlen; omega
  refine ⟨by simpa using hc, p, ?_⟩
  rw [Array.toList_setIfInBounds, hp, List.append_assoc, List.set_append_right _ _ (by omega), hpl, Nat.sub_self]
  rfl
theorem div_nat (q b : Nat) : ((q : Int) / (b : Int)) = ((q / b : Nat) : Int) := by omega
theorem cell_in {c : Array Value} {k : Nat} (hc : c.size = 65) (hk : k < 65) : ∃ v, c[k]? = some v := ⟨c[k], Array.getElem?_eq_getElem (by omega)⟩
theorem low_fin : ∀ k : Fin 36, lowText[k.val]? = some (Dig.loD k.val) := by decide +kernel
theorem low_at {m k : Nat} (h : m < lowText.size) (hm : m = k) (hk : k < 36) : lowText[m] = Dig.loD k := by
  subst hm
  have h1 := low_fin ⟨m, hk⟩
  have h2 : lowText[m]? = some lowText[m] := getElem?_pos lowText m h
  exact Option.some.inj (h2.symm.trans h1)
/-- what stands in the array and the index when the digits are laid -/
def Laid (b U : Nat) (w : World) (i : Value) (wx : World) : Prop := ∃ n c, n + Dig.nd b U = 65 ∧ i = .int .i64 n ∧ Filled c (Dig.digs Dig.loD b U) ∧ wx = w.alloc (.cells c 247)
theorem laid_end {b U j n q : Nat} {c : Array Value} {v : Value} {w : World} {i : Value} (h2 : 2 ≤ b) (h36 : b ≤ 36) (hu : U < 18446744073709551616) (hq : U / b ^ j = q) (hqb : q < b) (hn : n + j = 65) (hj : j < Dig.nd b U) (hc : Filled c (Dig.suf Dig.loD b U j)) (hv : v = byteV (Dig.loD q)) (hi : i = .int .i64 ((n : Int) - 1)) (hpre : j = 0 ∨ b ^ j ≤ U) :
    Laid b U w i (w.alloc (.cells (c.setIfInBounds (n - 1) v) 247)) := by
  have hjl := Nat.lt_of_lt_of_le hj (Dig.nd_le h2 hu)
  have hd : Dig.digs Dig.loD b U = Dig.loD q :: Dig.suf Dig.loD b U j := by
    unfold Dig.digs
    have hlt : U < b ^ (j + 1) := by
      rw [Nat.pow_succ', ← Nat.div_lt_iff_lt_mul (Nat.pow_pos (by omega)), hq]; exact hqb
    rw [Dig.nd_eq h2 hu (n := j + 1) ⟨by omega, hlt, ?_⟩, Dig.suf, hq, Nat.mod_eq_of_lt hqb]
    rcases hpre with h | h
    · left; omega
    · right; simpa using h
  have hnd : Dig.nd b U = j + 1 := by
    have := congrArg List.length hd
    rw [Dig.digs_length, List.length_cons, Dig.suf_length] at this
    exact this
  refine ⟨n - 1, _, by omega, by rw [hi]; exact congrArg (Value.int .i64) (by omega), ?_, rfl⟩
  rw [hd]
  exact fill_step hc (by rw [Dig.suf_length]; exact hn) (by omega) hv
theorem go_on {b U j q : Nat} (h2 : 2 ≤ b) (hf : Dig.Fits b U (Dig.nd b U)) (hq : U / b ^ j = q) (hbq : b ≤ q) : j + 1 < Dig.nd b U ∧ b ^ (j + 1) ≤ U := by
  have hp : 0 < b ^ j := Nat.pow_pos (by omega)
  have h4 : b ^ (j + 1) ≤ U := by
    rw [Nat.pow_succ']
    exact (Nat.le_div_iff_mul_le hp).1 (by rw [hq]; exact hbq)
  refine ⟨?_, h4⟩
  rcases Nat.lt_or_ge (j + 1) (Dig.nd b U) with h | h
  · exact h
  · have h1 : b ^ Dig.nd b U ≤ b ^ (j + 1) := Nat.pow_le_pow_right (by omega) h
    have h3 := hf.2.1
    omega
def FmtRel' (b U j n : Nat) (c : Array Value) (u i : Value) : Prop := FmtRel b U j n c u i ∧ (j = 0 ∨ b ^ j ≤ U)
theorem fmt_start (b U : Nat) (hf : Dig.Fits b U (Dig.nd b U)) : FmtRel' b U 0 65 Tryz.zeroCells247 (.int .u64 U) (.int .i64 65) :=
  ⟨⟨hf.1, rfl, by rw [Nat.pow_zero, Nat.div_one], rfl, Tryz.zeroSize, _, (List.append_nil _).symm⟩, .inl rfl⟩
theorem fmt_next {b U j n q : Nat} {c : Array Value} {v : Value} {u i : Value} (h2 : 2 ≤ b) (hf : Dig.Fits b U (Dig.nd b U)) (hq : U / b ^ j = q) (hbq : b ≤ q) (hn : n + j = 65) (hn0 : 0 < n) (hc : Filled c (Dig.suf Dig.loD b U j)) (hv : v = byteV (Dig.loD (q % b)))
    (hu : u = .int .u64 ((q / b : Nat) : Int)) (hi : i = .int .i64 ((n : Int) - 1)) : FmtRel' b U (j + 1) (n - 1) (c.setIfInBounds (n - 1) v) u i := by
  obtain ⟨hlt, hge⟩ := go_on h2 hf hq hbq
  refine ⟨⟨hlt, by omega, ?_, ?_, ?_⟩, .inr hge⟩
  · rw [hu, ← hq, Nat.div_div_eq_div_mul, ← Nat.pow_succ]
  · rw [hi]; exact congrArg (Value.int .i64) (by omega)
  · rw [Dig.suf, hq]
    exact fill_step hc (by rw [Dig.suf_length]; exact hn) hn0 hv
theorem mod_nat {q b : Nat} : ((q : Int) - (q : Int) / (b : Int) * (b : Int)).toNat = q % b := by
  have := Int.emod_def (q : Int) (b : Int)
  rw [Int.mul_comm] at this
  omega
theorem and_low {q b : Nat} {k : Int} (hk : b = 2 ∧ k = 1 ∨ b = 4 ∧ k = 2 ∨ b = 8 ∧ k = 3 ∨ b = 16 ∧ k = 4 ∨ b = 32 ∧ k = 5) (hq : q < 18446744073709551616) : bits .and .u64 (q : Int) ((b : Int) - 1) = ((q % b : Nat) : Int) := by
  have key : ∀ n, bits .and .u64 (q : Int) ((2 ^ n - 1 : Nat) : Int) = ((q % 2 ^ n : Nat) : Int) ∨ 18446744073709551616 ≤ 2 ^ n - 1 := fun n => by
    rcases Nat.lt_or_ge (2 ^ n - 1) 18446744073709551616 with h | h
    · left; rw [u64_and_nat _ _ hq h, Nat.and_two_pow_sub_one_eq_mod]
    · right; exact h
  rcases hk with ⟨rfl, _⟩ | ⟨rfl, _⟩ | ⟨rfl, _⟩ | ⟨rfl, _⟩ | ⟨rfl, _⟩
  · exact (key 1).resolve_right (by decide)
  · exact (key 2).resolve_right (by decide)
  · exact (key 3).resolve_right (by decide)
  · exact (key 4).resolve_right (by decide)
  · exact (key 5).resolve_right (by decide)
theorem shr_low {q b : Nat} {k : Int} (hk : b = 2 ∧ k = 1 ∨ b = 4 ∧ k = 2 ∨ b = 8 ∧ k = 3 ∨ b = 16 ∧ k = 4 ∨ b = 32 ∧ k = 5) : (q : Int) / 2 ^ k.toNat = ((q / b : Nat) : Int) := by
  rcases hk with ⟨rfl, rfl⟩ | ⟨rfl, rfl⟩ | ⟨rfl, rfl⟩ | ⟨rfl, rfl⟩ | ⟨rfl, rfl⟩ <;> rfl
theorem Zeros.alloc {w : World} (h : Zeros w) (o : Obj) : Zeros (w.alloc o) := Lib.tabIs_alloc h o
theorem slice_at (N : Nat) (W : World) (x : Int) (h0 : 0 ≤ x) (h1 : x < 65) : (Instr.sliceAt 247 (.pointer (some ⟨N, 0, none⟩)) (some (.int .i64 x)) none none).run Tryz.prog W = .ok (.slice (some ⟨N, x.toNat, none⟩) (65 - x.toNat) (65 - x.toNat)) W := by
  have hal : Tryz.prog.arrayLen 247 = 65 := by simp [Program.arrayLen, Tryz.underlying247]
  rw [run_sliceAt_array_l W 247 ⟨N, 0, none⟩ (by simp [Program.arrayLen, Program.elem, Tryz.underlying247]) .i64 x h0 (by rw [hal]; omega)]
  go_simp
  omega
def sg (neg : Bool) : List UInt8 := if neg then [45] else []
set_option maxRecDepth 100000 in
theorem text_of_cells (w : World) (c : Array Value) (l : List UInt8) (m : Nat) (hm : m + l.length = 65) (h : Filled c l) :
    (convert 77 9 (.slice (some ⟨w.heap.size, m, none⟩) (65 - m) (65 - m))).run Tryz.prog (w.alloc (.cells c 247)) = .ok (.string ⟨l.toArray⟩) (w.alloc (.cells c 247)) := by
  obtain ⟨hc, pre, hp⟩ := h
  have hpl : pre.length = m := by
    have := congrArg List.length hp
    rw [Array.length_toList, hc] at this
    simp at this
    omega
  have e := run_convert_bytes_arg (P := Tryz.prog) (w.alloc (.cells c 247)) 77 5 Tryz.underlying77 Tryz.underlying5 w.heap.size m (65 - m) (65 - m) (l.map fun x => (x.toNat : Int)) (by simp; omega)
    (fun i hi => by
      rw [World.cell?_alloc_new, ← Array.getElem?_toList, hp, List.getElem?_append_right (by omega), hpl, Nat.add_sub_cancel_left]
      have hi' : i < l.length := by omega
      simp [hi', List.getD, List.getElem?_eq_getElem hi']) 9 Tryz.underlying9
  rw [e]
  congr 2
  simp only [strOfNums, List.map_map]
  exact congrArg (fun x : List UInt8 => (⟨x.toArray⟩ : ByteArray)) ((List.map_congr_left (g := id) fun x _ => by simp).trans (List.map_id l))
set_option maxHeartbeats 4000000 in
set_option maxRecDepth 100000 in
theorem format_any (U b : Nat) (neg : Bool) (x : Int) (hx : (neg = false ∧ x = U) ∨ (neg = true ∧ IntKind.u64.wrap (-x) = (U : Int))) (h2 : 2 ≤ b) (h36 : b ≤ 36) (h10 : ((b : Int) == 10) = false) (hU : U ≤ 9223372036854775808) (w : World) (hw : Zeros w) :
    Calls Tryz.prog 218 #[.slice none 0 0, .int .u64 x, .int .i64 b, .bool neg, .bool false] w fun e w' => e = .returned (.tuple #[.slice none 0 0, .string ⟨(sg neg ++ Dig.digs Dig.loD b U).toArray⟩]) ∧ Below w.heap.size w w' := by
  have P := Lib.hid (pow_walk b (by omega) (by omega))
  have HF := Lib.hid (Dig.nd_fits (b := b) (u := U) h2 (by omega))
  have HX := Lib.hid hx
  have HZ := Lib.hid hw
  clear hx hw
  go_enter Tryz.func218, Tryz.ntmps218
  go_upto_if 30 with fail
  go_cut [1] (fun u wx => u = .int .u64 U ∧ wx = w.alloc (.cells Tryz.zeroCells247 247))
  case first =>
    rcases HX.out with ⟨rfl, rfl⟩ | ⟨rfl, h⟩
    · go_wp2_with fail; go_meet; exact ⟨rfl, rfl⟩
    · go_wp2_with fail; go_meet; exact ⟨rfl, rfl⟩
  case rest =>
    obtain ⟨rfl, rfl⟩ := hcut
    go_upto_if 34 with (go_at_call 227; refine (P.out _).mono ?_; rintro e w' ⟨rfl, rfl⟩)
    go_cut [13] (fun i wx => Hid (Laid b U w i wx))
    case first =>
      cases hp : powB b
      · go_wp2
        go_loopg [1, 13] (Dig.nd b U) (fun k u i wr => ∃ j n c, k = Dig.nd b U - j ∧ Hid (FmtRel' b U j n c u i) ∧ wr = w.alloc (.cells c 247))
        case atStart => exact ⟨0, 65, _, by omega, fmt_start b U HF.out, rfl⟩
        case round =>
          obtain ⟨j, n, c, rfl, HR, rfl⟩ := hrel
          obtain ⟨⟨hj, hn, rfl, rfl, hf⟩, hge⟩ := HR.out
          have hc := hf.1
          obtain ⟨q, hq⟩ : ∃ q, U / b ^ j = q := ⟨_, rfl⟩
          rw [hq]
          have hqU : q ≤ U := by rw [← hq]; exact Nat.div_le_self _ _
          have hj64 := Nat.lt_of_lt_of_le hj (Dig.nd_le h2 (by omega))
          have hn0 : 0 < n := by omega
          have hn65 : n ≤ 65 := by omega
          have HN := Lib.hid hn
          have HQ := Lib.hid hq
          have HC := Lib.hid hf
          have HG := Lib.hid hge
          obtain ⟨v0, hv0⟩ := cell_in (k := n - 1) hc (by omega)
          clear HR hq hf hn hge
          by_cases hq0 : b ≤ q
          · have r0 : 0 ≤ (q : Int) / (b : Int) := Int.ediv_nonneg (by omega) (by omega)
            have r1 : (q : Int) / (b : Int) * (b : Int) ≤ (q : Int) := Int.ediv_mul_le _ (by omega)
            have r2 : (q : Int) - (q : Int) / (b : Int) * (b : Int) < (b : Int) := by have := Int.emod_lt_of_pos (q : Int) (show (0 : Int) < b by omega); have := Int.emod_def (q : Int) (b : Int); rw [Int.mul_comm] at this; omega
            have r3 : 0 ≤ (q : Int) / (b : Int) * (b : Int) := Int.mul_nonneg r0 (by omega)
            have r4 : (q : Int) / (b : Int) ≤ (q : Int) := Int.ediv_le_self _ (by omega)
            go_wp2
            go_roundg (Dig.nd b U - (j + 1))
            case measure => omega
            case rel => exact ⟨j + 1, n - 1, _, rfl, fmt_next h2 HF.out HQ.out hq0 HN.out hn0 HC.out (congrArg byteV (low_at _ mod_nat (by have := Nat.mod_lt q (show b > 0 by omega); omega))) (congrArg (Value.int .u64) (div_nat q b)) rfl, rfl⟩
          · have hq' : (q : Int) < (b : Int) := by omega
            have hz : q < 36 := by omega
            go_wp2
            go_meet
            exact laid_end h2 h36 (by omega) HQ.out (by omega) HN.out hj HC.out (congrArg byteV (low_at _ rfl hz)) rfl HG.out
      · have hbc := pow_cases h2 h36 hp
        obtain ⟨k, hk⟩ : ∃ k : Int, b = 2 ∧ k = 1 ∨ b = 4 ∧ k = 2 ∨ b = 8 ∧ k = 3 ∨ b = 16 ∧ k = 4 ∨ b = 32 ∧ k = 5 := by
          rcases hbc with h | h | h | h | h
          · exact ⟨1, .inl ⟨h, rfl⟩⟩
          · exact ⟨2, .inr (.inl ⟨h, rfl⟩)⟩
          · exact ⟨3, .inr (.inr (.inl ⟨h, rfl⟩))⟩
          · exact ⟨4, .inr (.inr (.inr (.inl ⟨h, rfl⟩)))⟩
          · exact ⟨5, .inr (.inr (.inr (.inr ⟨h, rfl⟩)))⟩
        have T := Lib.hid (tz_walk b k hk _ (HZ.out.alloc (.cells Tryz.zeroCells247 247)))
        have k1 : 1 ≤ k := by omega
        have k5 : k ≤ 5 := by omega
        have HK := Lib.hid hk
        clear hbc hk
        go_wp2_with (go_at_call 228; refine T.out.mono ?_; rintro e w' ⟨rfl, rfl⟩)
        go_loopg [1, 13] (Dig.nd b U) (fun k u i wr => ∃ j n c, k = Dig.nd b U - j ∧ Hid (FmtRel' b U j n c u i) ∧ wr = w.alloc (.cells c 247))
        case atStart => exact ⟨0, 65, _, by omega, fmt_start b U HF.out, rfl⟩
        case round =>
          obtain ⟨j, n, c, rfl, HR, rfl⟩ := hrel
          obtain ⟨⟨hj, hn, rfl, rfl, hf⟩, hge⟩ := HR.out
          have hc := hf.1
          obtain ⟨q, hq⟩ : ∃ q, U / b ^ j = q := ⟨_, rfl⟩
          rw [hq]
          have hqU : q ≤ U := by rw [← hq]; exact Nat.div_le_self _ _
          have hj64 := Nat.lt_of_lt_of_le hj (Dig.nd_le h2 (by omega))
          have hn0 : 0 < n := by omega
          have hn65 : n ≤ 65 := by omega
          have HN := Lib.hid hn
          have HQ := Lib.hid hq
          have HC := Lib.hid hf
          have HG := Lib.hid hge
          obtain ⟨v0, hv0⟩ := cell_in (k := n - 1) hc (by omega)
          have hqm : q % b < 36 := by have := Nat.mod_lt q (show b > 0 by omega); omega
          clear HR hq hf hn hge
          by_cases hq0 : b ≤ q
          · have hand := and_low (q := q) HK.out (by omega)
            have hshr := shr_low (q := q) HK.out
            go_wp2
            go_roundg (Dig.nd b U - (j + 1))
            case measure => omega
            case rel => exact ⟨j + 1, n - 1, _, rfl, fmt_next h2 HF.out HQ.out hq0 HN.out hn0 HC.out (congrArg byteV (low_at _ (by first | rfl | simp) hqm)) rfl rfl, rfl⟩
          · have hq' : (q : Int) < (b : Int) := by omega
            have hz : q < 36 := by omega
            go_wp2
            go_meet
            exact laid_end h2 h36 (by omega) HQ.out (by omega) HN.out hj HC.out (congrArg byteV (low_at _ rfl hz)) rfl HG.out
    case rest =>
      obtain ⟨n, c, hn, rfl, hf, rfl⟩ := hcut.out
      have hl := Dig.digs_length Dig.loD b U
      have hn0 : 0 < n := by have := Dig.nd_le (b := b) (u := U) h2 (by omega); omega
      have hn65 : n < 65 := by have := HF.out.1; omega
      have HN := Lib.hid hn
      have HL := Lib.hid hf
      obtain ⟨v0, hv0⟩ := cell_in (k := n - 1) hf.1 (by omega)
      clear hcut hn hf hl
      go_upto_if 89 with fail
      go_cut [13] (fun i wx => Hid (∃ (m : Nat) (c : Array Value), m + (sg neg ++ Dig.digs Dig.loD b U).length = 65 ∧ i = .int .i64 m ∧ Filled c (sg neg ++ Dig.digs Dig.loD b U) ∧ wx = w.alloc (.cells c 247)))
      case first =>
        cases neg
        · go_wp2_with fail
          go_meet
          exact ⟨n, c, by have h1 := HN.out; rw [← Dig.digs_length Dig.loD] at h1; exact h1, rfl, HL.out, rfl⟩
        · go_wp2_with fail
          go_meet
          exact ⟨n - 1, _, by have h1 := HN.out; have h3 := Dig.digs_length Dig.loD b U; rw [show sg true ++ Dig.digs Dig.loD b U = 45 :: Dig.digs Dig.loD b U from rfl, List.length_cons]; omega, congrArg (Value.int .i64) (by omega), fill_step (x := 45) (l := Dig.digs Dig.loD b U) HL.out (by rw [Dig.digs_length]; exact HN.out) hn0 rfl, rfl⟩
      case rest =>
        obtain ⟨m, c2, hm, rfl, hf2, rfl⟩ := hcut.out
        have hl1 : 1 ≤ (sg neg ++ Dig.digs Dig.loD b U).length := by
          rw [List.length_append, Dig.digs_length]; have := HF.out.1; omega
        obtain ⟨l, hl⟩ : ∃ l, (sg neg ++ Dig.digs Dig.loD b U) = l := ⟨_, rfl⟩
        rw [hl] at hm hf2 hl1
        have hsl := slice_at w.heap.size (w.alloc (.cells c2 247)) m (by omega) (by omega)
        have hcv := text_of_cells w c2 l m hm hf2
        rw [Int.toNat_natCast] at hsl
        have HL2 := Lib.hid hl
        clear hl hcut hm hf2 hl1 hv0 hn0 hn65 hU
        go_wp2
        go_ret2
        exact ⟨by rw [HL2.out]; rfl, (Below.refl _ _).alloc (Nat.le_refl _) _⟩
end Go.Proofs.YtcffbeihgchpgaaGreatDoor
/- Walks of a strings.Builder of a call's own: copyCheck, WriteString, WriteByte, grow, Grow. -/
namespace Go.Proofs.YtcffbeihgchpgaaGreatDoor
open Go.RowKit
set_option linter.unusedSimpArgs false
set_option linter.unusedVariables false
theorem below_drewN (B : Nat) (w : World) : ∀ n, Below B w (w.drewN n)
  | 0 => Below.refl _ _
  | n + 1 => by rw [← World.drew_drewN]; exact (below_drewN B w n).drew
abbrev BT : TypeId := 221
abbrev U8 : TypeId := 5
abbrev strData (s : ByteArray) : List UInt8 := s.data.toList
theorem Tryz.builderSize : (Tryz.prog.info? BT).map (·.size) = some 2 := by kernel_rfl
theorem Tryz.builderLies : liesAt Tryz.prog Tryz.prog.depth BT (2 / Tryz.prog.cellsOf BT) 0 BT 1 = true := by kernel_rfl
theorem Tryz.infoByte : (Tryz.prog.info? U8).map (fun i => (i.zero, i.size, i.bytes)) = some (some (.int .u8 0), 1, 1) := by kernel_rfl
set_option maxHeartbeats 1000000 in
set_option maxRecDepth 100000 in
theorem copyCheck_used (b : Nat) (w : World) (h0 : w.cell? ⟨b, 0, none⟩ = some (.pointer (some ⟨b, 0, none⟩))) :
    Calls Tryz.prog 208 #[.pointer (some ⟨b, 0, none⟩)] w fun e w' => e = .returned (.tuple #[]) ∧ w' = w := by
  obtain ⟨j, hj, _⟩ := Option.map_eq_some_iff.1 Tryz.builderSize
  go_enter Tryz.func208, Tryz.ntmps208
  go_wp2
  rw [Lib.run_neq_ptr_same w _ Tryz.underlying219 hj]
  go_wp2
  go_end0
  exact ⟨rfl, rfl⟩
set_option maxHeartbeats 1000000 in
set_option maxRecDepth 100000 in
theorem copyCheck_fresh (b : Nat) (w : World) (h0 : w.cell? ⟨b, 0, none⟩ = some (.pointer none)) (hsh : w.shape? b = some (BT, 2)) (hfz : w.frozen? ⟨b, 0, none⟩ = false) :
    Calls Tryz.prog 208 #[.pointer (some ⟨b, 0, none⟩)] w fun e w' => e = .returned (.tuple #[]) ∧ w' = w.setCell ⟨b, 0, none⟩ (.pointer (some ⟨b, 0, none⟩)) := by
  obtain ⟨j, hj, hjs⟩ := Option.map_eq_some_iff.1 Tryz.builderSize
  go_enter Tryz.func208, Tryz.ntmps208
  go_wp2
  rw [Lib.run_to_unsafe w ⟨b, 0, none⟩ Tryz.underlying219 Tryz.underlying187 hj (by rw [hjs]; decide) hsh (Nat.zero_lt_succ 1)]
  simp only [Result.andThen]
  rw [Oper.upon_value]
  go_wp2
  rw [run_callFunc_extern Tryz.func220 (by kernel_rfl) (by kernel_rfl) (by kernel_rfl) (e := Extern.AbiNoEscape.same) (by kernel_rfl)]
  rw [Lib.run_noEscape]
  simp only [Result.andThen]
  rw [Oper.upon_value]
  go_wp2
  rw [Lib.run_from_unsafe w ⟨b, 0, none⟩ Tryz.underlying187 Tryz.underlying219 hj hsh Tryz.builderLies]
  simp only [Result.andThen]
  rw [Oper.upon_value]
  go_wp2
  go_end0
  exact ⟨rfl, rfl⟩
theorem copyCheck_any (B b : Nat) (bs : List Value) (w : World) (h : Lib.IsBuilder BT U8 B b bs w) :
    Calls Tryz.prog 208 #[.pointer (some ⟨b, 0, none⟩)] w fun e w' => e = .returned (.tuple #[]) ∧ Lib.BuilderAt BT U8 B b (.pointer (some ⟨b, 0, none⟩)) bs w' ∧ Below B w w' := by
  rcases h with h | h
  · exact (copyCheck_fresh b w h.cell0 h.shape h.frozen0).mono fun e w' ⟨h1, h2⟩ => ⟨h1, h2 ▸ h.used _, h2 ▸ (Below.refl B w).setCell (p := ⟨b, 0, none⟩) h.1 _⟩
  · exact (copyCheck_used b w h.cell0).mono fun e w' ⟨h1, h2⟩ => ⟨h1, h2 ▸ h, h2 ▸ Below.refl B _⟩
set_option maxHeartbeats 2000000 in
theorem writeString (B b : Nat) (bs : List Value) (s : ByteArray) (w : World) (h : Lib.IsBuilder BT U8 B b bs w) (hlen : bs.length + s.size ≤ 140737488355328) (hBw : B ≤ w.heap.size) :
    Calls Tryz.prog 200 #[.pointer (some ⟨b, 0, none⟩), .string s] w fun e w' => e = .returned (.tuple #[.int .i64 s.size, .nilIface]) ∧ Lib.IsBuilder BT U8 B b (bs ++ Lib.strCells s) w' ∧ Below B w w' := by
  obtain ⟨i0, hi, hz0, hz1, hz2⟩ := info_parts Tryz.infoByte
  have C := Lib.hid (copyCheck_any B b bs w h)
  clear h
  go_enter Tryz.func200, Tryz.ntmps200
  go_wp2_with (go_at_call 208; refine C.out.mono ?_)
  rintro e w1 ⟨rfl, h1, hb1⟩
  obtain ⟨hB, v, hbk, hown, hne⟩ := h1
  have c1 : w1.cell? ⟨b, 1, none⟩ = some v := by rw [Lib.cell_of_heap hbk]; rfl
  go_wp2_with (at_builtin; refine Lib.wpList_append_own_string _ rfl _ _ 77 9 rfl B U8 i0 Tryz.underlying77 Tryz.underlying9 hi hz0 hz1 hz2 _ _ _ rfl hown s rfl ?c3 ?c4 ?c5 ?_)
  case c3 => unfold maxLen; omega
  case c4 => omega
  case c5 => have := hb1.size; omega
  intro v' w2 hown' hgrow _
  have hlt : b < w1.heap.size := by
    rcases Nat.lt_or_ge b w1.heap.size with h' | h'
    · exact h'
    · simp [Array.getElem?_eq_none h'] at hbk
  have hb2 : w2.heap[b]? = some (.cells #[.pointer (some ⟨b, 0, none⟩), v] BT (0, 0)) := by
    rw [hgrow.block b hlt (fun e => hne e.symm)]
    exact hbk
  have d0 : w2.cell? ⟨b, 0, none⟩ = some (.pointer (some ⟨b, 0, none⟩)) := by rw [Lib.cell_of_heap hb2]; rfl
  have d1 : w2.cell? ⟨b, 1, none⟩ = some v := by rw [Lib.cell_of_heap hb2]; rfl
  have f1 : w2.frozen? ⟨b, 1, none⟩ = false := Lib.frozen_of_heap hb2 1
  obtain ⟨ao, n', cap, rfl⟩ : ∃ ao n' cap, v' = .slice ao n' cap := by
    rcases hown'.2 with ⟨hv, _⟩ | ⟨g, cap, cur, hv, _⟩
    · exact ⟨_, _, _, hv⟩
    · exact ⟨_, _, _, hv⟩
  go_wp2
  go_ret2
  refine ⟨rfl, .inr ?_, ?_⟩
  · exact Lib.BuilderAt.put (T := BT) (e := U8) hB hb2 (bs' := bs ++ Lib.strCells s) (by simpa [Lib.strCells_length] using hown') (by decide)
  · exact (hb1.grown hgrow (by have := hb1.size; omega) (fun k hk => (hown.lt k hk).1)).setCell (p := ⟨b, 1, none⟩) hB _
end Go.Proofs.YtcffbeihgchpgaaGreatDoor
