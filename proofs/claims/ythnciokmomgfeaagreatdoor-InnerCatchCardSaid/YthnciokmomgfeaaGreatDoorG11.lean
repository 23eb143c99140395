/- Package inner: where an operation goes on. -/
import Derived.Test.YthnciokmomgfeaaGreatDoorG8
import Derived.Test.YthnciokmomgfeaaGreatDoorG9
import Derived.Test.YthnciokmomgfeaaGreatDoorG10
import Derived.RowKit
import Derived.Lib.ItoaNum
import Derived.Lib.Case
import Derived.WalkKit
import Derived.Test.YthnciokmomgfeaaGreatDoorRows
import Derived.WalkSpells
import Derived.WalkLawsBesides
import Derived.Lib.Hide
import Derived.Lib.Strings
import Derived.Test.YthnciokmomgfeaaGreatDoorG4
import Derived.Laws.BitsAllLaws
import Derived.Lib.LaidTab
import Derived.Lib.TrailingZeros
namespace Go.Proofs.YthnciokmomgfeaaGreatDoor.Inn
open Go.RowKit Book Mem Mach
set_option linter.unusedVariables false
set_option linter.unusedSimpArgs false
section
variable {w : World} {xb : Nat} {g at' nx : Int} {gt gb : Nat} {p q r x y z : Int}
theorem loops1 {a b : Int} (ha : Cell.In a) (hb : Cell.In b) : Cell.crosses (wrap64 (a - b)) 1 = decide (wrap64 (a + 1) = b) := by
  have h := Cell.crosses_iff (Cell.wrap_in (a - b)) (n := 1) (by unfold Cell.In; omega)
  rw [Bool.eq_iff_iff, h, decide_eq_true_eq]
  unfold Cell.In at ha hb
  unfold wrap64
  omega
set_option maxHeartbeats 8000000 in
set_option maxRecDepth 100000 in
theorem turn_exit (h : X8 w xb 5 g at' nx gt gb [] [x]) : Calls Tryz.prog 141 #[.pointer (some ⟨xb, 0, none⟩)] w (XDid w xb 5 g at' (rowV gt 0) (rowV gb 1) gt gb (.tuple #[]) [] [] x) := by
  have HX := Lib.hid h
  obtain ⟨c0, c1, c2, c3, c4, c5, c6, c7⟩ := h.cells
  obtain ⟨f4, f5, f7⟩ := h.free
  have k0 := h.bk (j := 0) (x := x) rfl
  have HR := Lib.hid ((set8 h.box).1 x)
  clear h
  go_enter Tryz.func141, Tryz.ntmps141
  go_wp2
  go_end0
  exact ⟨_, _, [], rfl, HR.out, Stirred.setCell _ _ _, Dep.nil _ _, Dep.nil _ _, fun b hb => by cases hb⟩
set_option maxHeartbeats 8000000 in
set_option maxRecDepth 100000 in
theorem turn_branch (h : X8 w xb 3 g at' nx gt gb [] []) : Calls Tryz.prog 141 #[.pointer (some ⟨xb, 0, none⟩)] w (XDid w xb 3 g at' (rowV gt 0) (rowV gb 0) gt gb (.tuple #[]) [] [] g) := by
  have HX := Lib.hid h
  obtain ⟨c0, c1, c2, c3, c4, c5, c6, c7⟩ := h.cells
  obtain ⟨f4, f5, f7⟩ := h.free
  have HR := Lib.hid ((set8 h.box).1 g)
  clear h
  go_enter Tryz.func141, Tryz.ntmps141
  go_wp2
  go_end0
  exact ⟨_, _, [], rfl, HR.out, Stirred.setCell _ _ _, Dep.nil _ _, Dep.nil _ _, fun b hb => by cases hb⟩
set_option maxHeartbeats 8000000 in
set_option maxRecDepth 100000 in
theorem turn_zero (h : X8 w xb 4 g at' nx gt gb [p] []) (hp : p = 0) : Calls Tryz.prog 141 #[.pointer (some ⟨xb, 0, none⟩)] w (XDid w xb 4 g at' (rowV gt 1) (rowV gb 0) gt gb (.tuple #[]) [] [] g) := by
  subst hp
  have HX := Lib.hid h
  obtain ⟨c0, c1, c2, c3, c4, c5, c6, c7⟩ := h.cells
  obtain ⟨f4, f5, f7⟩ := h.free
  have k0 := h.st (j := 0) (x := 0) rfl
  have HR := Lib.hid ((set8 h.box).1 g)
  clear h
  go_enter Tryz.func141, Tryz.ntmps141
  go_wp2
  go_end0
  exact ⟨_, _, [], rfl, HR.out, Stirred.setCell _ _ _, Dep.nil _ _, Dep.nil _ _, fun b hb => by cases hb⟩
set_option maxHeartbeats 8000000 in
set_option maxRecDepth 100000 in
theorem turn_one (h : X8 w xb 4 g at' nx gt gb [p] []) (hp : p ≠ 0) : Calls Tryz.prog 141 #[.pointer (some ⟨xb, 0, none⟩)] w (XDid w xb 4 g at' (rowV gt 1) (rowV gb 0) gt gb (.tuple #[]) [] [] nx) := by
  have HX := Lib.hid h
  obtain ⟨c0, c1, c2, c3, c4, c5, c6, c7⟩ := h.cells
  obtain ⟨f4, f5, f7⟩ := h.free
  have k0 := h.st (j := 0) (x := p) rfl
  have hp' : (p != 0) = true := by simpa using hp
  clear h hp
  go_enter Tryz.func141, Tryz.ntmps141
  go_wp2
  go_end0
  exact ⟨_, _, [], rfl, HX.out.box, Stirred.refl _ _, Dep.nil _ _, Dep.nil _ _, fun b hb => by cases hb⟩
set_option maxHeartbeats 8000000 in
set_option maxRecDepth 100000 in
theorem turn_loop_ends (h : X8 w xb 37 g at' nx gt gb [] [x, y]) (C : Cell.crosses (wrap64 (y - x)) 1 = true) : Calls Tryz.prog 141 #[.pointer (some ⟨xb, 0, none⟩)] w (XDid w xb 37 g at' (rowV gt 0) (rowV gb 2) gt gb (.tuple #[]) [] [] nx) := by
  have HX := Lib.hid h
  obtain ⟨c0, c1, c2, c3, c4, c5, c6, c7⟩ := h.cells
  obtain ⟨f4, f5, f7⟩ := h.free
  have k2 := h.bk (j := 0) (x := x) rfl
  have k3 := h.bk (j := 1) (x := y) rfl
  have HC := Lib.hid C
  clear h C
  go_enter Tryz.func141, Tryz.ntmps141
  go_wp2_with fail
  go_quiet (fail)
  go_wp2_with (go_at_call 154; refine (Cell.crosses_any _ _ _).mono ?_; rintro e w1 ⟨rfl, hw1⟩; subst hw1; rw [HC.out])
  go_end0
  exact ⟨_, _, [], rfl, (HX.out.drewN _).box, Stirred.drewN _ _ _, Dep.nil _ _, Dep.nil _ _, fun b hb => by cases hb⟩
set_option maxHeartbeats 8000000 in
set_option maxRecDepth 100000 in
theorem turn_loop_on (h : X8 w xb 37 g at' nx gt gb [] [x, y]) (C : Cell.crosses (wrap64 (y - x)) 1 = false) : Calls Tryz.prog 141 #[.pointer (some ⟨xb, 0, none⟩)] w (XDid w xb 37 g at' (rowV gt 0) (rowV gb 2) gt gb (.tuple #[]) [] [x, wrap64 (y + 1)] g) := by
  have HX := Lib.hid h
  obtain ⟨c0, c1, c2, c3, c4, c5, c6, c7⟩ := h.cells
  obtain ⟨f4, f5, f7⟩ := h.free
  have k2 := h.bk (j := 0) (x := x) rfl
  have k3 := h.bk (j := 1) (x := y) rfl
  have HC := Lib.hid C
  clear h C
  go_enter Tryz.func141, Tryz.ntmps141
  go_wp2_with fail
  go_quiet (fail)
  have HX := Lib.hid (HX.out.drewN nq)
  have HSQ := Lib.hid (Stirred.drewN w nq [xb])
  obtain ⟨w1, gl, hw1, hgl, HRW, HB1, HG⟩ := row_box (w.drewN nq) [x, wrap64 (y + 1)]
  change (w.drewN nq).alloc (.cells #[.int .i64 x, .int .i64 (wrap64 (y + 1))] 3) = w1 at hw1
  change w.heap.size = gl at hgl
  have HX1 := Lib.hid (HX.out.below HB1.out)
  have c1' := HX1.out.cells.2.1
  have c5' := HX1.out.cells.2.2.2.2.2.1
  have c7' := HX1.out.cells.2.2.2.2.2.2.2
  have f5' := HX1.out.free.2.1
  have f7' := HX1.out.free.2.2
  have HR := Lib.hid ((set8 ((set8 HX1.out.box).2.2 (rowV gl 2))).1 g)
  go_wp2_with (go_at_call 154; refine (Cell.crosses_any _ _ _).mono ?_; rintro e w2 ⟨rfl, hw2⟩; subst hw2; rw [HC.out])
  go_end0
  have hsz := whole_lt HX1.out.box
  have hd : Dep w1 (rowV gl 2) [x, wrap64 (y + 1)] [gl] := Dep.row HRW.out.1 rfl
  have hne : gl ≠ xb := fun e => by have h1 := whole_lt HX.out.box; have h2 := HG.out; omega
  refine ⟨_, _, [gl], rfl, HR.out, ((HSQ.out.trans (Stirred.of_below HB1.out [xb]) (fun k hk => .inl hk)).trans (Stirred.setCell _ _ _) (fun k hk => .inl hk)).trans (Stirred.setCell _ _ _) (fun k hk => .inl hk), Dep.nil _ _, fun w' hk => hd w' (fun k hm => (hk k hm).trans ?_), fun b hb => ?_⟩
  · rw [List.mem_singleton] at hm
    subst hm
    exact ((Stirred.setCell (w1.setCell ⟨xb, 5, none⟩ (rowV k 2)) ⟨xb, 7, none⟩ (.int .i64 g)).block k (by simpa using whole_lt HRW.out.1) (by simpa using hne)).trans ((Stirred.setCell w1 ⟨xb, 5, none⟩ (rowV k 2)).block k (whole_lt HRW.out.1) (by simpa using hne))
  · rw [List.mem_singleton] at hb
    subst hb
    exact ⟨by simpa using whole_lt HRW.out.1, hne, .inr (.inr (Nat.le_of_eq HG.out))⟩
set_option maxHeartbeats 8000000 in
set_option maxRecDepth 100000 in
theorem turn_plus_ends (h : X8 w xb 38 g at' nx gt gb [p] [x, y]) (C : Cell.crosses (wrap64 (y - x)) p = true) : Calls Tryz.prog 141 #[.pointer (some ⟨xb, 0, none⟩)] w (XDid w xb 38 g at' (rowV gt 1) (rowV gb 2) gt gb (.tuple #[]) [] [] nx) := by
  have HX := Lib.hid h
  obtain ⟨c0, c1, c2, c3, c4, c5, c6, c7⟩ := h.cells
  obtain ⟨f4, f5, f7⟩ := h.free
  have k0 := h.st (j := 0) (x := p) rfl
  have k2 := h.bk (j := 0) (x := x) rfl
  have k3 := h.bk (j := 1) (x := y) rfl
  have HC := Lib.hid C
  clear h C
  go_enter Tryz.func141, Tryz.ntmps141
  go_wp2_with fail
  go_quiet (fail)
  go_wp2_with (go_at_call 154; refine (Cell.crosses_any _ _ _).mono ?_; rintro e w1 ⟨rfl, hw1⟩; subst hw1; rw [HC.out])
  go_end0
  exact ⟨_, _, [], rfl, (HX.out.drewN _).box, Stirred.drewN _ _ _, Dep.nil _ _, Dep.nil _ _, fun b hb => by cases hb⟩
set_option maxHeartbeats 8000000 in
set_option maxRecDepth 100000 in
theorem turn_plus_on (h : X8 w xb 38 g at' nx gt gb [p] [x, y]) (C : Cell.crosses (wrap64 (y - x)) p = false) : Calls Tryz.prog 141 #[.pointer (some ⟨xb, 0, none⟩)] w (XDid w xb 38 g at' (rowV gt 1) (rowV gb 2) gt gb (.tuple #[]) [] [x, wrap64 (y + p)] g) := by
  have HX := Lib.hid h
  obtain ⟨c0, c1, c2, c3, c4, c5, c6, c7⟩ := h.cells
  obtain ⟨f4, f5, f7⟩ := h.free
  have k0 := h.st (j := 0) (x := p) rfl
  have k2 := h.bk (j := 0) (x := x) rfl
  have k3 := h.bk (j := 1) (x := y) rfl
  have HC := Lib.hid C
  clear h C
  go_enter Tryz.func141, Tryz.ntmps141
  go_wp2_with fail
  go_quiet (fail)
  have HX := Lib.hid (HX.out.drewN nq)
  have HSQ := Lib.hid (Stirred.drewN w nq [xb])
  obtain ⟨w1, gl, hw1, hgl, HRW, HB1, HG⟩ := row_box (w.drewN nq) [x, wrap64 (y + p)]
  change (w.drewN nq).alloc (.cells #[.int .i64 x, .int .i64 (wrap64 (y + p))] 3) = w1 at hw1
  change w.heap.size = gl at hgl
  have HX1 := Lib.hid (HX.out.below HB1.out)
  have c1' := HX1.out.cells.2.1
  have c5' := HX1.out.cells.2.2.2.2.2.1
  have c7' := HX1.out.cells.2.2.2.2.2.2.2
  have f5' := HX1.out.free.2.1
  have f7' := HX1.out.free.2.2
  have HR := Lib.hid ((set8 ((set8 HX1.out.box).2.2 (rowV gl 2))).1 g)
  go_wp2_with (go_at_call 154; refine (Cell.crosses_any _ _ _).mono ?_; rintro e w2 ⟨rfl, hw2⟩; subst hw2; rw [HC.out])
  go_end0
  have hsz := whole_lt HX1.out.box
  have hd : Dep w1 (rowV gl 2) [x, wrap64 (y + p)] [gl] := Dep.row HRW.out.1 rfl
  have hne : gl ≠ xb := fun e => by have h1 := whole_lt HX.out.box; have h2 := HG.out; omega
  refine ⟨_, _, [gl], rfl, HR.out, ((HSQ.out.trans (Stirred.of_below HB1.out [xb]) (fun k hk => .inl hk)).trans (Stirred.setCell _ _ _) (fun k hk => .inl hk)).trans (Stirred.setCell _ _ _) (fun k hk => .inl hk), Dep.nil _ _, fun w' hk => hd w' (fun k hm => (hk k hm).trans ?_), fun b hb => ?_⟩
  · rw [List.mem_singleton] at hm
    subst hm
    exact ((Stirred.setCell (w1.setCell ⟨xb, 5, none⟩ (rowV k 2)) ⟨xb, 7, none⟩ (.int .i64 g)).block k (by simpa using whole_lt HRW.out.1) (by simpa using hne)).trans ((Stirred.setCell w1 ⟨xb, 5, none⟩ (rowV k 2)).block k (whole_lt HRW.out.1) (by simpa using hne))
  · rw [List.mem_singleton] at hb
    subst hb
    exact ⟨by simpa using whole_lt HRW.out.1, hne, .inr (.inr (Nat.le_of_eq HG.out))⟩
end
end Go.Proofs.YthnciokmomgfeaaGreatDoor.Inn
/- Package inner: a byte is asked for. -/
namespace Go.Proofs.YthnciokmomgfeaaGreatDoor.Inn
open Go.RowKit Book Mem Mach
set_option linter.unusedVariables false
set_option linter.unusedSimpArgs false
section
variable {w : World} {B q ps gs pb gb pf : Nat} {vC vH : Value} {ch : List Int} {vs vb vm : Value} {m : M} {xb : Nat} {g at' nx : Int} {gt gk : Nat} {x y z p : Int}
set_option maxHeartbeats 8000000 in
set_option maxRecDepth 100000 in
theorem ask_yes (h : Pre w B q ps gs pb gb pf vC vH ch vs vb vm m xb 43 g at' nx gt gk [] []) (hB : B ≤ w.heap.size) (h0 : 0 ≤ m.read) (h1 : m.read < (m.inp.size : Int)) (hin : m.inp.size ≤ maxLen) : Calls Tryz.prog 140 #[.pointer (some ⟨q, 0, none⟩), .pointer (some ⟨xb, 0, none⟩)] w (DoOk w B q (feet q ps gs pb gb pf vC vH) xb 43 g at' (rowV gt 0) (rowV gk 0) { m with read := m.read + 1 } [((m.inp.data.toList.getD m.read.toNat 0).toNat : Int)] [] nx (.tuple #[])) := by
  have HP := Lib.hid h
  have HB := Lib.hid hB
  obtain ⟨c0, c1, c2, c3, c4, c5, c6, c7⟩ := h.x.cells
  obtain ⟨f4, f5, f7⟩ := h.x.free
  obtain ⟨m0, m1, m5, m6, m7, m8, m9⟩ := h.mc.cells
  obtain ⟨n1, n2, n3⟩ := h.mc.ptrs
  have hr : m.read = (m.read.toNat : Int) := by omega
  obtain ⟨rd, hrd⟩ : ∃ rd : Nat, m.read.toNat = rd := ⟨_, rfl⟩
  rw [hrd] at hr
  have h2 : rd < m.inp.size := by omega
  have h3 : (rd : Int) < (m.inp.size : Int) := by omega
  have h4 : m.inp.size ≤ 9223372036854775807 := hin
  obtain ⟨by', hby⟩ : ∃ b, m.inp[rd] = b := ⟨_, rfl⟩
  have hD : m.inp.data.toList.getD rd 0 = by' := by rw [← hby, List.getD_eq_getElem?_getD, List.getElem?_eq_getElem (by simpa using h2)]; rfl
  rw [hr] at m7
  have f7q : w.frozen? ⟨q, 7, none⟩ = false := whole_frozen h.mc.box 7
  have e8 : wrap64 ((by'.toNat : Nat) : Int) = ((by'.toNat : Nat) : Int) := by have := by'.toNat_lt; unfold wrap64; omega
  have HD := Lib.hid hD
  have HRD := Lib.hid (And.intro hr hrd)
  clear h hB hin h0 h1 hD hr hrd
  go_enter Tryz.func140, Tryz.ntmps140
  go_wp2_with fail
  go_quiet (fail)
  have HS := Lib.hid (stir_drewN w nq (feet q ps gs pb gb pf vC vH))
  have HP := Lib.hid ((HP.out.drewN nq).set 7 (.int .i64 ((rd : Int) + 1)) { m with read := (rd : Int) + 1 } rfl rfl rfl rfl)
  have HS := Lib.hid (HS.out.trans (stir_q (w.drewN nq) 7 (.int .i64 ((rd : Int) + 1))) (fun k hk => .inl hk))
  obtain ⟨w1, gl, hw1, hgl, HRW, HB1, HG⟩ := row_box ((w.drewN nq).setCell ⟨q, 7, none⟩ (.int .i64 ((rd : Int) + 1))) [((by'.toNat : Nat) : Int)]
  change ((w.drewN nq).setCell ⟨q, 7, none⟩ (.int .i64 ((rd : Int) + 1))).alloc (.cells #[.int .i64 ((by'.toNat : Nat) : Int)] 3) = w1 at hw1
  have hz : ((w.drewN nq).setCell ⟨q, 7, none⟩ (.int .i64 ((rd : Int) + 1))).heap.size = w.heap.size := by simp
  rw [hz] at hgl
  clear hz
  have HX1 := Lib.hid (HP.out.x.below HB1.out)
  have c4' := HX1.out.cells.2.2.2.2.1
  have f4' := HX1.out.free.1
  go_wp2
  go_end0
  have hval := ok_row4 (err := .tuple #[]) HP.out.mc.mach HP.out.x.box HP.out.nx (stir_more HS.out) (fun f hf => .inl hf) HRW.out HB1.out HG.out
  have e1 := HRD.out.1
  have e2 := HRD.out.2
  have e3 := HD.out
  rw [e2, e3, e1]
  exact hval
set_option maxHeartbeats 8000000 in
set_option maxRecDepth 100000 in
theorem ask_no (h : Pre w B q ps gs pb gb pf vC vH ch vs vb vm m xb 43 g at' nx gt gk [] []) (hB : B ≤ w.heap.size) (h0 : 0 ≤ m.read) (h1 : ¬ m.read < (m.inp.size : Int)) : Calls Tryz.prog 140 #[.pointer (some ⟨q, 0, none⟩), .pointer (some ⟨xb, 0, none⟩)] w (DoOk w B q (feet q ps gs pb gb pf vC vH) xb 43 g at' (rowV gt 0) (rowV gk 0) m [-1] [] nx (.tuple #[])) := by
  have HP := Lib.hid h
  have HB := Lib.hid hB
  obtain ⟨c0, c1, c2, c3, c4, c5, c6, c7⟩ := h.x.cells
  obtain ⟨f4, f5, f7⟩ := h.x.free
  obtain ⟨m0, m1, m5, m6, m7, m8, m9⟩ := h.mc.cells
  obtain ⟨n1, n2, n3⟩ := h.mc.ptrs
  have hr : m.read = (m.read.toNat : Int) := by omega
  obtain ⟨rd, hrd⟩ : ∃ rd : Nat, m.read.toNat = rd := ⟨_, rfl⟩
  rw [hrd] at hr
  have h3 : decide ((rd : Int) < (m.inp.size : Int)) = false := decide_eq_false (by omega)
  have h5 : decide (rd < m.inp.size) = false := decide_eq_false (by omega)
  rw [hr] at m7
  clear h hB h0 h1 hr hrd
  go_enter Tryz.func140, Tryz.ntmps140
  go_wp2_with fail
  go_quiet (fail)
  have HS := Lib.hid (stir_drewN w nq (feet q ps gs pb gb pf vC vH))
  have HP := Lib.hid (HP.out.drewN nq)
  obtain ⟨w1, gl, hw1, hgl, HRW, HB1, HG⟩ := row_box (w.drewN nq) [(-1 : Int)]
  change (w.drewN nq).alloc (.cells #[.int .i64 (-1)] 3) = w1 at hw1
  change w.heap.size = gl at hgl
  have HX1 := Lib.hid (HP.out.x.below HB1.out)
  have c4' := HX1.out.cells.2.2.2.2.1
  have f4' := HX1.out.free.1
  go_wp2
  go_end0
  exact ok_row4 (err := .tuple #[]) HP.out.mc.mach HP.out.x.box HP.out.nx (stir_more HS.out) (fun f hf => .inl hf) HRW.out HB1.out HG.out
end
end Go.Proofs.YthnciokmomgfeaaGreatDoor.Inn
/- Numbers as digits, and digits as numbers, in plain functions: no program in sight. -/
namespace Go.Proofs.YthnciokmomgfeaaGreatDoor.Dig
open Go.RowKit (wrap64)

def upD (d : Nat) : UInt8 := UInt8.ofNat (if d < 10 then 48 + d else 55 + d)
def loD (d : Nat) : UInt8 := UInt8.ofNat (if d < 10 then 48 + d else 87 + d)
/-- the j lowest digits of u -/
def suf (f : Nat → UInt8) (b u : Nat) : Nat → List UInt8
  | 0 => []
  | j + 1 => f (u / b ^ j % b) :: suf f b u j
def ndF (b : Nat) : Nat → Nat → Nat
  | 0, _ => 1
  | k + 1, u => if u < b then 1 else ndF b k (u / b) + 1
/-- how many digits a number has -/
def nd (b u : Nat) : Nat := ndF b 64 u
def digs (f : Nat → UInt8) (b u : Nat) : List UInt8 := suf f b u (nd b u)
def Fits (b u n : Nat) : Prop := 1 ≤ n ∧ u < b ^ n ∧ (n = 1 ∨ b ^ (n - 1) ≤ u)

theorem ndF_fits {b : Nat} (hb : 2 ≤ b) : ∀ (k u : Nat), u < 2 ^ (k + 1) → Fits b u (ndF b k u)
  | 0, u, h => ⟨Nat.le_refl _, by simp only [ndF, Nat.pow_one]; simp at h; omega, .inl rfl⟩
  | k + 1, u, h => by
    unfold ndF
    by_cases hu : u < b
    · rw [if_pos hu]; exact ⟨Nat.le_refl _, by simpa using hu, .inl rfl⟩
    · rw [if_neg hu]
      have hd : u / b < 2 ^ (k + 1) := by
        rw [Nat.div_lt_iff_lt_mul (by omega)]
        rw [Nat.pow_succ] at h
        exact Nat.lt_of_lt_of_le h (Nat.mul_le_mul_left _ hb)
      obtain ⟨h1, h2, h3⟩ := ndF_fits hb k (u / b) hd
      refine ⟨by omega, ?_, .inr ?_⟩
      · rw [Nat.pow_succ]; exact (Nat.div_lt_iff_lt_mul (by omega)).1 h2
      · rw [Nat.add_sub_cancel]
        rcases h3 with h3 | h3
        · rw [h3, Nat.pow_one]; omega
        · have h4 := (Nat.le_div_iff_mul_le (by omega)).1 h3
          rw [← Nat.pow_succ] at h4
          rwa [show (ndF b k (u / b) - 1).succ = ndF b k (u / b) from by omega] at h4
theorem nd_fits {b u : Nat} (hb : 2 ≤ b) (hu : u < 18446744073709551616) : Fits b u (nd b u) :=
  ndF_fits hb 64 u (Nat.lt_of_lt_of_le hu (by decide))
theorem fits_one {b u m n : Nat} (hb : 2 ≤ b) (hm : Fits b u m) (hn : Fits b u n) : m = n := by
  have key : ∀ {m n : Nat}, Fits b u m → Fits b u n → ¬ m < n := fun {m n} hm hn hlt => by
    have h1 := hm.2.1
    rcases hn.2.2 with h2 | h2
    · have := hm.1; omega
    · have h3 : b ^ m ≤ b ^ (n - 1) := Nat.pow_le_pow_right (by omega) (by omega)
      omega
  have h1 := key hm hn
  have h2 := key hn hm
  omega
theorem nd_eq {b u n : Nat} (hb : 2 ≤ b) (hu : u < 18446744073709551616) (hn : Fits b u n) : nd b u = n := fits_one hb (nd_fits hb hu) hn
theorem nd_le {b u : Nat} (hb : 2 ≤ b) (hu : u < 18446744073709551616) : nd b u ≤ 64 := by
  obtain ⟨h1, h2, h3⟩ := nd_fits hb hu
  rcases h3 with h3 | h3
  · omega
  · rcases Nat.lt_or_ge 64 (nd b u) with h | h
    · have h4 : 2 ^ 64 ≤ b ^ (nd b u - 1) := Nat.le_trans (Nat.pow_le_pow_left hb 64) (Nat.pow_le_pow_right (by omega) (by omega))
      have : (2 : Nat) ^ 64 = 18446744073709551616 := by decide
      omega
    · exact h
theorem suf_length (f : Nat → UInt8) (b u : Nat) : ∀ j, (suf f b u j).length = j
  | 0 => rfl
  | j + 1 => by simp [suf, suf_length f b u j]
theorem digs_length (f : Nat → UInt8) (b u : Nat) : (digs f b u).length = nd b u := suf_length f b u _
theorem suf_snoc (f : Nat → UInt8) (b u : Nat) : ∀ j, suf f b u (j + 1) = suf f b (u / b) j ++ [f (u % b)]
  | 0 => by simp [suf]
  | j + 1 => by
    rw [suf, suf_snoc f b u j]
    show _ = f (u / b / b ^ j % b) :: suf f b (u / b) j ++ _
    rw [Nat.div_div_eq_div_mul, Nat.mul_comm b, ← Nat.pow_succ]
    rfl
theorem suf_map (f g h : Nat → UInt8) (k : UInt8 → UInt8) (b u : Nat) (hb : 0 < b) (he : ∀ d, d < b → k (f d) = h d) : ∀ j, (suf f b u j).map k = suf h b u j
  | 0 => rfl
  | j + 1 => by simp only [suf, List.map_cons, suf_map f g h k b u hb he j, he _ (Nat.mod_lt _ hb)]
theorem suf_all (f : Nat → UInt8) (p : UInt8 → Prop) (b u : Nat) (hb : 0 < b) (he : ∀ d, d < b → p (f d)) : ∀ j, ∀ c ∈ suf f b u j, p c
  | 0, _, h => by cases h
  | j + 1, c, h => by
    rcases List.mem_cons.1 h with rfl | h
    · exact he _ (Nat.mod_lt _ hb)
    · exact suf_all f p b u hb he j c h
theorem upper_lo_fin : ∀ d : Fin 36, Lib.upperB (loD d.val) = upD d.val := by decide
theorem upper_lo {d : Nat} (h : d < 36) : Lib.upperB (loD d) = upD d := upper_lo_fin ⟨d, h⟩
theorem lo_ascii_fin : ∀ d : Fin 36, (loD d.val).toNat < 128 := by decide
theorem lo_ascii {d : Nat} (h : d < 36) : (loD d).toNat < 128 := lo_ascii_fin ⟨d, h⟩
theorem nDigits_fits (u : Nat) : Fits 10 u (Lib.nDigits u) := by
  refine ⟨Lib.nDigits_pos u, Lib.lt_pow_nDigits u, ?_⟩
  induction u using Nat.strongRecOn with
  | _ u ih =>
    by_cases h : u < 10
    · exact .inl (Lib.nDigits_small h)
    · rw [Lib.nDigits_big h, Nat.add_sub_cancel]
      have hp := Lib.nDigits_pos (u / 10)
      rcases ih (u / 10) (by omega) with h3 | h3
      · rw [h3]; right; omega
      · right
        have h4 := (Nat.le_div_iff_mul_le (by decide)).1 h3
        rw [← Nat.pow_succ, show (Lib.nDigits (u / 10) - 1).succ = Lib.nDigits (u / 10) from by omega] at h4
        exact h4
theorem dec_suf (f : Nat → UInt8) (hf : ∀ d, d < 10 → f d = UInt8.ofNat (48 + d)) (u : Nat) : Lib.decDigits u = suf f 10 u (Lib.nDigits u) := by
  induction u using Nat.strongRecOn with
  | _ u ih =>
    by_cases h : u < 10
    · rw [Lib.decDigits, dif_pos h, Lib.nDigits_small h]
      simp [suf, Nat.mod_eq_of_lt h, hf u h]
    · rw [Lib.decDigits, dif_neg h, Lib.nDigits_big h, suf_snoc, ih (u / 10) (by omega), hf _ (Nat.mod_lt _ (by decide))]
theorem dec_digs (f : Nat → UInt8) (hf : ∀ d, d < 10 → f d = UInt8.ofNat (48 + d)) (u : Nat) (hu : u < 18446744073709551616) : Lib.decDigits u = digs f 10 u := by
  rw [dec_suf f hf, digs, nd_eq (by decide) hu (nDigits_fits u)]

def rightB (base : Int) : Bool := decide (2 ≤ base) && decide (base ≤ 36)
def sgn (v : Int) : List UInt8 := if v < 0 then [45] else []
/-- what a number's digits are -/
def putV (f : Nat → UInt8) (v base : Int) : List UInt8 := sgn v ++ digs f base.toNat v.natAbs
theorem itoa_put {v : Int} (hv : v.natAbs < 18446744073709551616) : Lib.itoa v = putV loD v 10 := by
  unfold Lib.itoa putV sgn
  rw [show (10 : Int).toNat = 10 from rfl, ← dec_digs loD (fun d h => by unfold loD; rw [if_pos h]) _ hv]
  split
  · rfl
  · rw [show v.toNat = v.natAbs from by omega]; rfl
theorem put_upper (v base : Int) (h0 : 2 ≤ base) (h1 : base ≤ 36) : (putV loD v base).map Lib.upperB = putV upD v base := by
  unfold putV digs sgn
  rw [List.map_append, suf_map loD loD upD Lib.upperB _ _ (by omega) (fun d hd => upper_lo (by omega))]
  congr 1
  split <;> decide
theorem put_ascii (v base : Int) (h0 : 2 ≤ base) (h1 : base ≤ 36) : ∀ c ∈ putV loD v base, c.toNat < 128 := by
  intro c hc
  unfold putV digs sgn at hc
  rcases List.mem_append.1 hc with h | h
  · split at h
    · simp at h; subst h; decide
    · cases h
  · exact suf_all loD (fun c => c.toNat < 128) _ _ (by omega) (fun d hd => lo_ascii (by omega)) _ c h
theorem put_length (f : Nat → UInt8) (v base : Int) (h0 : 2 ≤ base) (hv : v.natAbs < 18446744073709551616) : 1 ≤ (putV f v base).length ∧ (putV f v base).length ≤ 65 := by
  unfold putV sgn
  rw [List.length_append, digs_length]
  have h1 := nd_le (b := base.toNat) (u := v.natAbs) (by omega) hv
  have h2 := (nd_fits (b := base.toNat) (u := v.natAbs) (by omega) hv).1
  split <;> simp <;> omega

/-- what a byte stands for; 36: none -/
def dig (c : UInt8) : Int :=
  if 48 ≤ c.toNat ∧ c.toNat ≤ 57 then c.toNat - 48
  else if 97 ≤ c.toNat ∧ c.toNat ≤ 122 then c.toNat - 87
  else if 65 ≤ c.toNat ∧ c.toNat ≤ 90 then c.toNat - 55
  else 36
def numL (b : Int) : Int → List UInt8 → Option Int
  | v, [] => some v
  | v, c :: r => if b ≤ dig c then none else numL b (wrap64 (wrap64 (v * b) + dig c)) r
def numV (l : List UInt8) (b : Int) : Option Int := if l = [] ∨ 70 < l.length then none else numL b 0 l
def signV (c : UInt8) : Int := if c = 36 then 16 else if c = 35 then 10 else if c = 37 then 2 else 0
def signed (l : List UInt8) (b : Int) : List UInt8 × Int := match l with
  | [] => ([], b)
  | c :: r => if signV c = 0 then (c :: r, b) else (r, signV c)
def minus (l : List UInt8) : List UInt8 × Bool := match l with
  | [] => ([], false)
  | c :: r => if c = 45 then (r, true) else (c :: r, false)
def quoted (l : List UInt8) : Option UInt8 := match l with
  | [a, c, b] => if a = 39 ∧ b = 39 then some c else none
  | _ => none
def withSign (neg : Bool) : Option Int → Int × Bool
  | none => (0, false)
  | some v => (if neg then wrap64 (-v) else v, true)
/-- what a text is as a number -/
def getV (l : List UInt8) (base : Int) : Int × Bool :=
  if rightB base then
    match quoted l with
    | some c => (c.toNat, true)
    | none => withSign (minus (signed l base).1).2 (numV (minus (signed l base).1).1 (signed l base).2)
  else (0, false)

theorem wrap_step (x y k : Int) : wrap64 (wrap64 (wrap64 x * k) + y) = wrap64 (x * k + y) := by
  have h : wrap64 (wrap64 x * k) = wrap64 (x * k) := by
    unfold wrap64
    have e : ((x + 9223372036854775808) % 18446744073709551616 - 9223372036854775808) = x - 18446744073709551616 * ((x + 9223372036854775808) / 18446744073709551616) := by omega
    rw [e, Int.sub_mul, Int.mul_assoc, Int.mul_comm 18446744073709551616 (_ * k)]
    omega
  rw [h]; unfold wrap64; omega
theorem dig_up_fin : ∀ d : Fin 36, dig (upD d.val) = (d.val : Int) := by decide
theorem dig_up {d : Nat} (h : d < 36) : dig (upD d) = (d : Int) := dig_up_fin ⟨d, h⟩
theorem numL_suf (b u : Nat) (hb : 2 ≤ b) (h36 : b ≤ 36) : ∀ (j : Nat) (a : Int), numL b (wrap64 a) (suf upD b u j) = some (wrap64 (a * (b ^ j : Nat) + (u % b ^ j : Nat)))
  | 0, a => by simp [numL, suf, Nat.mod_one]
  | j + 1, a => by
    have hm : u / b ^ j % b < b := Nat.mod_lt _ (by omega)
    rw [suf, numL, dig_up (by omega), if_neg (by omega), wrap_step, numL_suf b u hb h36 j]
    congr 2
    have e : u % b ^ (j + 1) = (u / b ^ j % b) * b ^ j + u % b ^ j := by
      rw [Nat.pow_succ, Nat.mod_mul]
      rw [Nat.mul_comm (b ^ j)]; omega
    rw [e, Int.add_mul]
    have e2 : (b ^ (j + 1) : Nat) = b * b ^ j := by rw [Nat.pow_succ, Nat.mul_comm]
    rw [e2]
    push_cast
    rw [Int.mul_assoc]
    omega
theorem numV_digs {b u : Nat} (hb : 2 ≤ b) (h36 : b ≤ 36) (hu : u < 18446744073709551616) : numV (digs upD b u) b = some (wrap64 u) := by
  obtain ⟨h1, h2, h3⟩ := nd_fits hb hu
  have h4 := nd_le hb hu
  have hl := digs_length upD b u
  unfold numV
  rw [if_neg (by
    rintro (h | h)
    · rw [h] at hl; simp at hl; omega
    · omega)]
  have h := numL_suf b u hb h36 (nd b u) 0
  rw [show wrap64 0 = 0 from by unfold wrap64; omega] at h
  unfold digs
  rw [h, Int.zero_mul, Int.zero_add, Nat.mod_eq_of_lt h2]

theorem up_plain_fin : ∀ d : Fin 36, signV (upD d.val) = 0 ∧ upD d.val ≠ 45 ∧ upD d.val ≠ 39 := by decide
theorem up_plain {d : Nat} (h : d < 36) : signV (upD d) = 0 ∧ upD d ≠ 45 ∧ upD d ≠ 39 := up_plain_fin ⟨d, h⟩
/-- digits have neither a sign nor a minus nor an apostrophe -/
def Plain (c : UInt8) : Prop := signV c = 0 ∧ c ≠ 45 ∧ c ≠ 39
theorem digs_plain {b u : Nat} (hb : 2 ≤ b) (h36 : b ≤ 36) : ∀ c ∈ digs upD b u, Plain c :=
  suf_all upD Plain b u (by omega) (fun d hd => up_plain (by omega)) _
theorem quoted_head {c : UInt8} {r : List UInt8} (h : c ≠ 39) : quoted (c :: r) = none := by
  unfold quoted
  split
  · rename_i a x b e; rw [if_neg]; rintro ⟨rfl, _⟩; simp at e; exact h e.1
  · rfl
theorem neg_wrap {v : Int} (h0 : -9223372036854775808 ≤ v) (h : v < 0) : wrap64 (-wrap64 (v.natAbs : Int)) = v := by unfold wrap64; omega
theorem pos_wrap {v : Int} (h1 : v ≤ 9223372036854775807) (h : ¬ v < 0) : wrap64 (v.natAbs : Int) = v := by unfold wrap64; omega
theorem abs_lt {v : Int} (h0 : -9223372036854775808 ≤ v) (h1 : v ≤ 9223372036854775807) : v.natAbs < 18446744073709551616 := by omega
/-- a number's digits, behind the base's own sign: read they are the number -/
theorem tail_back {v : Int} {b : Nat} (hb : 2 ≤ b) (h36 : b ≤ 36) (h0 : -9223372036854775808 ≤ v) (h1 : v ≤ 9223372036854775807) :
    withSign (minus (putV upD v b)).2 (numV (minus (putV upD v b)).1 b) = (v, true) := by
  have hn := numV_digs hb h36 (abs_lt h0 h1)
  have hp := digs_plain (u := v.natAbs) hb h36
  have hl := digs_length upD b v.natAbs
  have hk := (nd_fits hb (abs_lt h0 h1)).1
  unfold putV sgn
  rw [Int.toNat_natCast]
  cases hd : digs upD b v.natAbs with
  | nil => rw [hd] at hl; simp at hl; omega
  | cons c r =>
    rw [hd] at hn hp
    by_cases h : v < 0
    · rw [if_pos h]
      show withSign (minus (45 :: c :: r)).2 (numV (minus (45 :: c :: r)).1 b) = _
      simp only [minus, if_true]
      rw [hn]
      simp only [withSign, if_true]
      rw [neg_wrap h0 h]
    · rw [if_neg h]
      have hc := (hp c List.mem_cons_self).2.1
      simp only [List.nil_append, minus]
      rw [if_neg hc, hn]
      simp only [withSign, Bool.false_eq_true, if_false]
      rw [pos_wrap h1 h]
theorem put_cons {v : Int} {b : Nat} (hb : 2 ≤ b) (h36 : b ≤ 36) (h0 : -9223372036854775808 ≤ v) (h1 : v ≤ 9223372036854775807) :
    ∃ c r, putV upD v b = c :: r ∧ signV c = 0 ∧ c ≠ 39 := by
  have hp := digs_plain (u := v.natAbs) hb h36
  have hl := digs_length upD b v.natAbs
  have hk := (nd_fits hb (abs_lt h0 h1)).1
  unfold putV sgn
  rw [Int.toNat_natCast]
  cases hd : digs upD b v.natAbs with
  | nil => rw [hd] at hl; simp at hl; omega
  | cons c r =>
    rw [hd] at hp
    by_cases h : v < 0
    · rw [if_pos h]; exact ⟨45, c :: r, rfl, by decide, by decide⟩
    · rw [if_neg h]; exact ⟨c, r, rfl, (hp c List.mem_cons_self).1, (hp c List.mem_cons_self).2.2⟩
theorem back {v base : Int} (hb : rightB base = true) (h0 : -9223372036854775808 ≤ v) (h1 : v ≤ 9223372036854775807) : getV (putV upD v base) base = (v, true) := by
  have hb' := hb
  simp only [rightB, Bool.and_eq_true, decide_eq_true_eq] at hb'
  obtain ⟨b, rfl⟩ := Int.eq_ofNat_of_zero_le (show 0 ≤ base by omega)
  obtain ⟨c, r, e, e1, e2⟩ := put_cons (v := v) (b := b) (by omega) (by omega) h0 h1
  have h := tail_back (v := v) (b := b) (by omega) (by omega) h0 h1
  unfold getV
  rw [if_pos hb]
  rw [e] at h ⊢
  rw [quoted_head e2]
  simp only [signed, if_pos e1]
  exact h
theorem back_signed {v base : Int} {b : Nat} {c : UInt8} (hb : rightB base = true) (hs : signV c = b) (hc : c ≠ 39) (hb2 : 2 ≤ b) (h36 : b ≤ 36) (h0 : -9223372036854775808 ≤ v) (h1 : v ≤ 9223372036854775807) :
    getV (c :: putV upD v b) base = (v, true) := by
  have h := tail_back (v := v) (b := b) hb2 h36 h0 h1
  unfold getV
  rw [if_pos hb, quoted_head hc]
  simp only [signed]
  rw [if_neg (by omega), hs]
  exact h
end Go.Proofs.YthnciokmomgfeaaGreatDoor.Dig
/- The walks of package digits: Right, digit, sign, number. -/
namespace Go.Proofs.YthnciokmomgfeaaGreatDoor
open Go.RowKit
set_option linter.unusedSimpArgs false
set_option linter.unusedVariables false

theorem right_yes (b : Int) (h : Dig.rightB b = true) (w : World) :
    Calls Tryz.prog 160 #[.int .i64 b] w fun e w' => e = .returned (.bool true) ∧ w = w' := by
  simp only [Dig.rightB, Bool.and_eq_true, decide_eq_true_eq] at h
  obtain ⟨h0, h1⟩ := h
  go_enter Tryz.func160, Tryz.ntmps160
  go_wp2
  go_ret
  exact ⟨rfl, rfl⟩
theorem right_no (b : Int) (h : Dig.rightB b = false) (w : World) :
    Calls Tryz.prog 160 #[.int .i64 b] w fun e w' => e = .returned (.bool false) ∧ w = w' := by
  simp only [Dig.rightB, Bool.and_eq_false_iff, decide_eq_false_iff_not] at h
  by_cases h0 : 2 ≤ b
  · have h1 : decide (b ≤ 36) = false := by rw [decide_eq_false_iff_not]; rcases h with h | h <;> omega
    clear h
    go_enter Tryz.func160, Tryz.ntmps160
    go_wp2
    go_ret
    exact ⟨rfl, rfl⟩
  · have h1 : b < 2 := by omega
    clear h h0
    go_enter Tryz.func160, Tryz.ntmps160
    go_wp2
    go_ret
    exact ⟨rfl, rfl⟩
theorem dig_cases (c : UInt8) : (c.toNat : Int) < 48 ∧ Dig.dig c = 36 ∨ (48 ≤ (c.toNat : Int) ∧ (c.toNat : Int) ≤ 57 ∧ Dig.dig c = (c.toNat : Int) - 48) ∨ (57 < (c.toNat : Int) ∧ (c.toNat : Int) < 65 ∧ Dig.dig c = 36)
    ∨ (65 ≤ (c.toNat : Int) ∧ (c.toNat : Int) ≤ 90 ∧ Dig.dig c = (c.toNat : Int) - 55) ∨ (90 < (c.toNat : Int) ∧ (c.toNat : Int) < 97 ∧ Dig.dig c = 36) ∨ (97 ≤ (c.toNat : Int) ∧ (c.toNat : Int) ≤ 122 ∧ Dig.dig c = (c.toNat : Int) - 87) ∨ (122 < (c.toNat : Int) ∧ Dig.dig c = 36) := by
  unfold Dig.dig
  split
  · omega
  · split
    · omega
    · split <;> omega
theorem ret_int {k : IntKind} {a b : Int} (h : a = b) : Ending.returned (.int k a) = .returned (.int k b) := by rw [h]
theorem sign_cases (c : UInt8) : (c.toNat : Int) = 36 ∧ Dig.signV c = 16 ∨ (c.toNat : Int) = 35 ∧ Dig.signV c = 10 ∨ (c.toNat : Int) = 37 ∧ Dig.signV c = 2 ∨ (¬ (c.toNat : Int) = 36 ∧ ¬ (c.toNat : Int) = 35 ∧ ¬ (c.toNat : Int) = 37 ∧ Dig.signV c = 0) := by
  have e : ∀ k : UInt8, c = k ↔ (c.toNat : Int) = (k.toNat : Int) := fun k => ⟨fun h => by rw [h], fun h => UInt8.toNat_inj.1 (by omega)⟩
  unfold Dig.signV
  simp only [e]
  show _ ∧ (if (c.toNat : Int) = 36 then (16 : Int) else if (c.toNat : Int) = 35 then 10 else if (c.toNat : Int) = 37 then 2 else 0) = 16 ∨ _ ∧ (if (c.toNat : Int) = 36 then (16 : Int) else if (c.toNat : Int) = 35 then 10 else if (c.toNat : Int) = 37 then 2 else 0) = 10 ∨ _ ∧ (if (c.toNat : Int) = 36 then (16 : Int) else if (c.toNat : Int) = 35 then 10 else if (c.toNat : Int) = 37 then 2 else 0) = 2 ∨ (_ ∧ _ ∧ _ ∧ (if (c.toNat : Int) = 36 then (16 : Int) else if (c.toNat : Int) = 35 then 10 else if (c.toNat : Int) = 37 then 2 else 0) = 0)
  split
  · omega
  · split
    · omega
    · split <;> omega
/-- what a number, or none, is told as -/
abbrev Num (o : Int × Bool) : Ending := .returned (.tuple #[.int .i64 o.1, .bool o.2])
theorem drop_get (l : List UInt8) (k : Nat) (h : k < l.length) : l.drop k = l[k] :: l.drop (k + 1) := List.drop_eq_getElem_cons h
theorem minus_eq (l : List UInt8) : Dig.minus l = (Lib.trimPrefix l [45], Lib.hasPrefix l [45]) := by
  unfold Dig.minus Lib.trimPrefix Lib.hasPrefix
  cases l with
  | nil => rfl
  | cons c r =>
    by_cases h : c = 45
    · subst h; simp [List.isPrefixOf]
    · have h' : ((45 : UInt8) == c) = false := by simpa using fun e => h e.symm
      simp [List.isPrefixOf, h, h']
theorem minus_len (l : List UInt8) : (Dig.minus l).1.length ≤ l.length := by
  rw [minus_eq]; exact Lib.trimPrefix_le _ _
/-- what stands behind the apostrophes' test -/
def restV (l : List UInt8) (base : Int) : Int × Bool := Dig.withSign (Dig.minus (Dig.signed l base).1).2 (Dig.numV (Dig.minus (Dig.signed l base).1).1 (Dig.signed l base).2)
theorem signV_range (c : UInt8) (h : ¬ Dig.signV c = 0) : 2 ≤ Dig.signV c ∧ Dig.signV c ≤ 36 := by
  rcases sign_cases c with ⟨_, e⟩ | ⟨_, e⟩ | ⟨_, e⟩ | ⟨_, _, _, e⟩ <;> omega
end Go.Proofs.YthnciokmomgfeaaGreatDoor
/- The walks of the library's small callees: internal/strconv.isPowerOfTwo, math/bits.TrailingZeros at a base's powers. -/
namespace Go.Proofs.YthnciokmomgfeaaGreatDoor
open Go.RowKit
set_option linter.unusedSimpArgs false
set_option linter.unusedVariables false

def powB (b : Int) : Bool := bits .and .i64 b (b - 1) == 0
theorem pow_walk (b : Int) (h0 : 2 ≤ b) (h1 : b ≤ 36) (w : World) :
    Calls Tryz.prog 196 #[.int .i64 b] w fun e w' => e = .returned (.bool (powB b)) ∧ w = w' := by
  go_enter Tryz.func196, Tryz.ntmps196
  go_wp2
  go_ret
  exact ⟨rfl, rfl⟩
theorem pow_fin : ∀ b : Fin 37, 2 ≤ b.val → powB (b.val : Int) = true → b.val = 2 ∨ b.val = 4 ∨ b.val = 8 ∨ b.val = 16 ∨ b.val = 32 := by decide +kernel
theorem pow_cases {b : Nat} (h0 : 2 ≤ b) (h1 : b ≤ 36) (h : powB b = true) : b = 2 ∨ b = 4 ∨ b = 8 ∨ b = 16 ∨ b = 32 := pow_fin ⟨b, by omega⟩ h0 h
/-- the table of the trailing zeros, as the row lists it -/
def tz64 : List Int := Lib.deBruijn64tab.map fun (n : Nat) => (n : Int)
def Zeros (w : World) : Prop := Lib.TabIs Tryz.prog w "math/bits.deBruijn64tab" .u8 tz64
theorem Tryz.gz : Tryz.prog.globalNamed "math/bits.deBruijn64tab" = some 8 := by kernel_rfl
theorem Zeros.at {w : World} (h : Zeros w) (i : Nat) (hi : i < 64) : w.cell? ⟨8, i, none⟩ = some (.int .u8 (tz64.getD i 0)) := by
  have := h.cell Tryz.gz i (by show i < tz64.length; rw [show tz64.length = 64 from by decide]; exact hi)
  simpa using this
set_option maxHeartbeats 1000000 in
theorem tz_core (a k : Int) (ha : (a == 0) = false) (k0 : 0 ≤ k) (k1 : k ≤ 64) (w : World)
    (h0 : 0 ≤ IntKind.u64.wrap (bits .and .u64 a (IntKind.u64.wrap (-a)) * 285870213051353865) / 288230376151711744)
    (h1 : IntKind.u64.wrap (bits .and .u64 a (IntKind.u64.wrap (-a)) * 285870213051353865) / 288230376151711744 < 64)
    (hc : w.cell? ⟨8, (IntKind.u64.wrap (bits .and .u64 a (IntKind.u64.wrap (-a)) * 285870213051353865) / 288230376151711744).toNat, none⟩ = some (.int .u8 k)) :
    Calls Tryz.prog 202 #[.int .u64 a] w fun e w' => e = .returned (.int .i64 k) ∧ w = w' := by
  go_enter Tryz.func202, Tryz.ntmps202
  go_wp2
  go_ret
  exact ⟨rfl, rfl⟩
theorem tz_at (a k : Int) (i : Nat) (hi : i < 64) (ha : (a == 0) = false) (k0 : 0 ≤ k) (k1 : k ≤ 64) (e : IntKind.u64.wrap (bits .and .u64 a (IntKind.u64.wrap (-a)) * 285870213051353865) / 288230376151711744 = (i : Int)) (ek : tz64.getD i 0 = k) (w : World) (h : Zeros w) :
    Calls Tryz.prog 202 #[.int .u64 a] w fun e w' => e = .returned (.int .i64 k) ∧ w = w' :=
  tz_core a k ha k0 k1 w (by rw [e]; omega) (by rw [e]; omega) (by rw [e, ← ek, Int.toNat_natCast]; exact h.at i hi)
theorem tz64_at (b : Nat) (k : Int) (hk : b = 2 ∧ k = 1 ∨ b = 4 ∧ k = 2 ∨ b = 8 ∧ k = 3 ∨ b = 16 ∧ k = 4 ∨ b = 32 ∧ k = 5) (w : World) (h : Zeros w) :
    Calls Tryz.prog 202 #[.int .u64 b] w fun e w' => e = .returned (.int .i64 k) ∧ w = w' := by
  rcases hk with ⟨rfl, rfl⟩ | ⟨rfl, rfl⟩ | ⟨rfl, rfl⟩ | ⟨rfl, rfl⟩ | ⟨rfl, rfl⟩
  · exact tz_at _ _ (2 ^ 1 * 285870213051353865 % 18446744073709551616 / 288230376151711744) (by decide) rfl (by decide) (by decide) (by decide +kernel) (by decide +kernel) w h
  · exact tz_at _ _ (2 ^ 2 * 285870213051353865 % 18446744073709551616 / 288230376151711744) (by decide) rfl (by decide) (by decide) (by decide +kernel) (by decide +kernel) w h
  · exact tz_at _ _ (2 ^ 3 * 285870213051353865 % 18446744073709551616 / 288230376151711744) (by decide) rfl (by decide) (by decide) (by decide +kernel) (by decide +kernel) w h
  · exact tz_at _ _ (2 ^ 4 * 285870213051353865 % 18446744073709551616 / 288230376151711744) (by decide) rfl (by decide) (by decide) (by decide +kernel) (by decide +kernel) w h
  · exact tz_at _ _ (2 ^ 5 * 285870213051353865 % 18446744073709551616 / 288230376151711744) (by decide) rfl (by decide) (by decide) (by decide +kernel) (by decide +kernel) w h
theorem tz_walk (b : Nat) (k : Int) (hk : b = 2 ∧ k = 1 ∨ b = 4 ∧ k = 2 ∨ b = 8 ∧ k = 3 ∨ b = 16 ∧ k = 4 ∨ b = 32 ∧ k = 5) (w : World) (h : Zeros w) :
    Calls Tryz.prog 197 #[.int .u64 b] w fun e w' => e = .returned (.int .i64 k) ∧ w = w' := by
  have C := Lib.hid (tz64_at b k hk w h)
  have hb : (b : Int) ≤ 32 := by omega
  clear hk h
  go_enter Tryz.func197, Tryz.ntmps197
  go_wp2_with (go_at_call 202; refine C.out.mono ?_; rintro e w' ⟨rfl, rfl⟩)
  go_ret
  exact ⟨rfl, rfl⟩
end Go.Proofs.YthnciokmomgfeaaGreatDoor
