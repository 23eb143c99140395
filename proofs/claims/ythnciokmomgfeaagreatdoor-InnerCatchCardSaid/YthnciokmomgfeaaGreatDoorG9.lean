/- Package inner: cells that are laid elsewhere, or anew. -/
import Derived.Test.YthnciokmomgfeaaGreatDoorG8
import Derived.Test.YthnciokmomgfeaaGreatDoorRows
import Derived.Test.YthnciokmomgfeaaGreatDoorG2
import Derived.WalkKit
import Derived.WalkSpells
import Derived.WalkLawsBesides
import Derived.Deep.QuietTactic
import Derived.BigQuiet
import Derived.Lib.Hide
import Derived.Test.YthnciokmomgfeaaGreatDoorProg
import Derived.LaidEql
import Derived.Stop.Asserts
import Derived.RowKitTokens
import Derived.Below
import Derived.Deep.LoopGhost
namespace Go.Proofs.YthnciokmomgfeaaGreatDoor.Inn
open Go.RowKit Book Mem Mach
set_option linter.unusedVariables false
set_option linter.unusedSimpArgs false
section
variable {w : World} {xb : Nat} {g at' nx : Int} {gt gb : Nat} {p q r x y z : Int}
theorem add_row'' (g o j : Nat) : (⟨g, o, none⟩ : Addr).add j = ⟨g, o + j, none⟩ := by unfold Addr.add; split <;> simp_all
theorem hu_at {l : List Value} {o j : Nat} {u : Value} (h : (l.drop o)[j]? = some u) : l[o + j]? = some u := by rw [List.getElem?_drop] at h; exact h
section
variable {k : Int} {vt vb : Value} {v : Value} {xs : List Int} {w1 w2 : World} {gl n c : Nat}
/-- a new row is given -/
theorem given_new {c8 : Array Value} {T : TypeId} {w0 : World} (h8 : w0.heap[xb]? = some (.cells c8 T (0, 0))) (hr : w1.heap[gl]? = some (.cells (vals xs).toArray 3 (0, 0))) (hg : w0.heap.size = gl) (hq : Stirred w w0 [xb]) (hb : Below w0.heap.size w0 w1)
    (hR : (w1.setCell ⟨xb, 4, none⟩ (rowV gl xs.length)).heap[xb]? = some (.cells (cells8 k g at' nx vt vb (rowV gl xs.length) (.slice none 0 0)) 134 (0, 0))) {err : Value} :
    XDid w xb k g at' vt vb gt gb err xs [] nx (.returned err) (w1.setCell ⟨xb, 4, none⟩ (rowV gl xs.length)) := by
  have hne : gl ≠ xb := fun e => by have h1 := whole_lt h8; omega
  have ht := Stirred.setCell w1 ⟨xb, 4, none⟩ (rowV gl xs.length)
  have hr' := ht.whole hr (by simpa using hne)
  refine ⟨_, _, [gl], rfl, hR, (hq.trans (Stirred.of_below hb [xb]) (fun k hk => .inl hk)).trans ht (fun k hk => .inl hk), Dep.row hr' rfl, Dep.nil _ _, fun b hb' => ?_⟩
  rw [List.mem_singleton] at hb'
  subst hb'
  exact ⟨whole_lt hr', hne, .inr (.inr (by have := hq.size; omega))⟩
/-- what was taken is given back -/
theorem given_back {w0 : World} {g0 : Nat} (hR : (w0.setCell ⟨xb, 5, none⟩ (rowV g0 n)).heap[xb]? = some (.cells (cells8 k g at' nx vt vb (.slice none 0 0) (rowV g0 n)) 134 (0, 0)))
    (hr : w0.heap[g0]? = some (.cells (vals xs).toArray 3 (0, 0))) (hn : xs.length = n) (hne : g0 ≠ xb) (hg : g0 = gt ∨ g0 = gb) (hq : Stirred w w0 [xb]) {err : Value} :
    XDid w xb k g at' vt vb gt gb err [] xs nx (.returned err) (w0.setCell ⟨xb, 5, none⟩ (rowV g0 n)) := by
  have ht := Stirred.setCell w0 ⟨xb, 5, none⟩ (rowV g0 n)
  have hr' := ht.whole hr (by simpa using hne)
  refine ⟨_, _, [g0], rfl, hR, hq.trans ht (fun k hk => .inl hk), Dep.nil _ _, Dep.row hr' hn, fun b hb' => ?_⟩
  rw [List.mem_singleton] at hb'
  subst hb'
  exact ⟨whole_lt hr', hne, hg.imp id .inl⟩
/-- the deepest one of what was taken is given -/
theorem given_first {w0 : World} {g0 : Nat} (hR : (w0.setCell ⟨xb, 4, none⟩ (.slice (some ⟨g0, 0, none⟩) n c)).heap[xb]? = some (.cells (cells8 k g at' nx vt vb (.slice (some ⟨g0, 0, none⟩) n c) (.slice none 0 0)) 134 (0, 0)))
    (hr : w0.heap[g0]? = some (.cells (vals xs).toArray 3 (0, 0))) (hn : n ≤ xs.length) (hne : g0 ≠ xb) (hg : g0 = gt ∨ g0 = gb) (hq : Stirred w w0 [xb]) {err : Value} :
    XDid w xb k g at' vt vb gt gb err (xs.take n) [] nx (.returned err) (w0.setCell ⟨xb, 4, none⟩ (.slice (some ⟨g0, 0, none⟩) n c)) := by
  have ht := Stirred.setCell w0 ⟨xb, 4, none⟩ (.slice (some ⟨g0, 0, none⟩) n c)
  have hr' := ht.whole hr (by simpa using hne)
  refine ⟨_, _, [g0], rfl, hR, hq.trans ht (fun k hk => .inl hk), Dep.first hr' hn, Dep.nil _ _, fun b hb' => ?_⟩
  rw [List.mem_singleton] at hb'
  subst hb'
  exact ⟨whole_lt hr', hne, hg.imp id .inl⟩
/-- .. and all of it is given back -/
theorem given_both {w0 : World} {g0 n' : Nat} (hR : ((w0.setCell ⟨xb, 5, none⟩ (rowV g0 n')).setCell ⟨xb, 4, none⟩ (.slice (some ⟨g0, 0, none⟩) n c)).heap[xb]? = some (.cells (cells8 k g at' nx vt vb (.slice (some ⟨g0, 0, none⟩) n c) (rowV g0 n')) 134 (0, 0)))
    (hr : w0.heap[g0]? = some (.cells (vals xs).toArray 3 (0, 0))) (hn' : xs.length = n') (hn : n ≤ xs.length) (hne : g0 ≠ xb) (hg : g0 = gt ∨ g0 = gb) (hq : Stirred w w0 [xb]) {err : Value} :
    XDid w xb k g at' vt vb gt gb err (xs.take n) xs nx (.returned err) ((w0.setCell ⟨xb, 5, none⟩ (rowV g0 n')).setCell ⟨xb, 4, none⟩ (.slice (some ⟨g0, 0, none⟩) n c)) := by
  have ht1 := Stirred.setCell w0 ⟨xb, 5, none⟩ (rowV g0 n')
  have ht := ht1.trans (Stirred.setCell _ ⟨xb, 4, none⟩ (.slice (some ⟨g0, 0, none⟩) n c)) (fun k hk => .inl hk)
  have hr' := ht.whole hr (by simpa using hne)
  refine ⟨_, _, [g0], rfl, hR, hq.trans ht (fun k hk => .inl hk), Dep.first hr' hn, Dep.row hr' hn', fun b hb' => ?_⟩
  rw [List.mem_singleton] at hb'
  subst hb'
  exact ⟨whole_lt hr', hne, hg.imp id .inl⟩
/-- a new list is given -/
theorem given_own {c8 : Array Value} {T : TypeId} {B : Nat} (h8 : w2.heap[xb]? = some (.cells c8 T (0, 0))) (ho : Owns w2 B 3 v (vals xs)) (hxb : xb < B) (hB : w.heap.size ≤ B) (hq : Stirred w w2 [xb])
    (hR : (w2.setCell ⟨xb, 4, none⟩ v).heap[xb]? = some (.cells (cells8 k g at' nx vt vb v (.slice none 0 0)) 134 (0, 0))) {err : Value} :
    XDid w xb k g at' vt vb gt gb err xs [] nx (.returned err) (w2.setCell ⟨xb, 4, none⟩ v) := by
  have ht := Stirred.setCell w2 ⟨xb, 4, none⟩ v
  have ho' := ho.touch ht (fun k hk hm => by rw [List.mem_singleton] at hm; have := (ho.block k hk).1; simp only at hm; omega)
  refine ⟨_, _, (blk v).toList, rfl, hR, hq.trans ht (fun k hk => .inl hk), Dep.of_owns ho', Dep.nil _ _, fun b hb' => ?_⟩
  have hb := ho'.block b (by simpa using hb')
  exact ⟨hb.2.1, by omega, .inr (.inr (by omega))⟩
end
set_option maxHeartbeats 8000000 in
set_option maxRecDepth 100000 in
theorem move_nop (h : X8 w xb 47 g at' nx gt gb [] []) : Calls Tryz.prog 142 #[.pointer (some ⟨xb, 0, none⟩)] w (XDid w xb 47 g at' (rowV gt 0) (rowV gb 0) gt gb (.tuple #[]) [] [] nx) := by
  have HX := Lib.hid h
  obtain ⟨c0, c1, c2, c3, c4, c5, c6, c7⟩ := h.cells
  obtain ⟨f4, f5, f7⟩ := h.free
  clear h
  go_enter Tryz.func142, Tryz.ntmps142
  go_wp2_with fail
  go_quiet (fail)
  have HX := Lib.hid (HX.out.drewN nq)
  have HSQ := Lib.hid (Stirred.drewN w nq [xb])
  go_wp2
  go_end0
  exact ⟨_, _, [], rfl, HX.out.box, HSQ.out, Dep.nil _ _, Dep.nil _ _, fun b hb => by cases hb⟩
set_option maxHeartbeats 8000000 in
set_option maxRecDepth 100000 in
theorem move_drop (h : X8 w xb 7 g at' nx gt gb [p] []) : Calls Tryz.prog 142 #[.pointer (some ⟨xb, 0, none⟩)] w (XDid w xb 7 g at' (rowV gt 1) (rowV gb 0) gt gb (.tuple #[]) [] [] nx) := by
  have HX := Lib.hid h
  obtain ⟨c0, c1, c2, c3, c4, c5, c6, c7⟩ := h.cells
  obtain ⟨f4, f5, f7⟩ := h.free
  clear h
  go_enter Tryz.func142, Tryz.ntmps142
  go_wp2_with fail
  go_quiet (fail)
  have HX := Lib.hid (HX.out.drewN nq)
  have HSQ := Lib.hid (Stirred.drewN w nq [xb])
  go_wp2
  go_end0
  exact ⟨_, _, [], rfl, HX.out.box, HSQ.out, Dep.nil _ _, Dep.nil _ _, fun b hb => by cases hb⟩
set_option maxHeartbeats 8000000 in
set_option maxRecDepth 100000 in
theorem move_unloop (h : X8 w xb 40 g at' nx gt gb [] [x, y]) : Calls Tryz.prog 142 #[.pointer (some ⟨xb, 0, none⟩)] w (XDid w xb 40 g at' (rowV gt 0) (rowV gb 2) gt gb (.tuple #[]) [] [] nx) := by
  have HX := Lib.hid h
  obtain ⟨c0, c1, c2, c3, c4, c5, c6, c7⟩ := h.cells
  obtain ⟨f4, f5, f7⟩ := h.free
  clear h
  go_enter Tryz.func142, Tryz.ntmps142
  go_wp2_with fail
  go_quiet (fail)
  have HX := Lib.hid (HX.out.drewN nq)
  have HSQ := Lib.hid (Stirred.drewN w nq [xb])
  go_wp2
  go_end0
  exact ⟨_, _, [], rfl, HX.out.box, HSQ.out, Dep.nil _ _, Dep.nil _ _, fun b hb => by cases hb⟩
set_option maxHeartbeats 8000000 in
set_option maxRecDepth 100000 in
theorem move_lit (h : X8 w xb 2 g at' nx gt gb [] []) : Calls Tryz.prog 142 #[.pointer (some ⟨xb, 0, none⟩)] w (XDid w xb 2 g at' (rowV gt 0) (rowV gb 0) gt gb (.tuple #[]) [g] [] nx) := by
  have HX := Lib.hid h
  obtain ⟨c0, c1, c2, c3, c4, c5, c6, c7⟩ := h.cells
  obtain ⟨f4, f5, f7⟩ := h.free
  clear h
  go_enter Tryz.func142, Tryz.ntmps142
  go_wp2_with fail
  go_quiet (fail)
  have HX := Lib.hid (HX.out.drewN nq)
  have HSQ := Lib.hid (Stirred.drewN w nq [xb])
  obtain ⟨w1, gl, hw1, hgl, HRW, HB1, HG⟩ := row_box (w.drewN nq) [g]
  change (w.drewN nq).alloc (.cells #[.int .i64 g] 3) = w1 at hw1
  change w.heap.size = gl at hgl
  have HX1 := Lib.hid (HX.out.below HB1.out)
  have c4' := HX1.out.cells.2.2.2.2.1
  have f4' := HX1.out.free.1
  have HR := Lib.hid ((set8 HX1.out.box).2.1 (rowV gl 1))
  go_wp2
  go_end0
  exact given_new HX.out.box HRW.out.1 HG.out HSQ.out HB1.out HR.out
set_option maxHeartbeats 8000000 in
set_option maxRecDepth 100000 in
theorem move_toBack (h : X8 w xb 33 g at' nx gt gb [p] []) : Calls Tryz.prog 142 #[.pointer (some ⟨xb, 0, none⟩)] w (XDid w xb 33 g at' (rowV gt 1) (rowV gb 0) gt gb (.tuple #[]) [] [p] nx) := by
  have HX := Lib.hid h
  obtain ⟨c0, c1, c2, c3, c4, c5, c6, c7⟩ := h.cells
  obtain ⟨f4, f5, f7⟩ := h.free
  have HR := Lib.hid (fun n => (set8 (h.drewN n).box).2.2 (rowV gt 1))
  clear h
  go_enter Tryz.func142, Tryz.ntmps142
  go_wp2_with fail
  go_quiet (fail)
  have HX := Lib.hid (HX.out.drewN nq)
  have HSQ := Lib.hid (Stirred.drewN w nq [xb])
  go_wp2
  go_end0
  exact given_back (HR.out _) HX.out.rs rfl (Ne.symm (apart_T HX.out.box HX.out.rs (by decide))) (.inl rfl) HSQ.out
set_option maxHeartbeats 8000000 in
set_option maxRecDepth 100000 in
theorem move_do (h : X8 w xb 36 g at' nx gt gb [q, p] []) : Calls Tryz.prog 142 #[.pointer (some ⟨xb, 0, none⟩)] w (XDid w xb 36 g at' (rowV gt 2) (rowV gb 0) gt gb (.tuple #[]) [] [q, p] nx) := by
  have HX := Lib.hid h
  obtain ⟨c0, c1, c2, c3, c4, c5, c6, c7⟩ := h.cells
  obtain ⟨f4, f5, f7⟩ := h.free
  have HR := Lib.hid (fun n => (set8 (h.drewN n).box).2.2 (rowV gt 2))
  clear h
  go_enter Tryz.func142, Tryz.ntmps142
  go_wp2_with fail
  go_quiet (fail)
  have HX := Lib.hid (HX.out.drewN nq)
  have HSQ := Lib.hid (Stirred.drewN w nq [xb])
  go_wp2
  go_end0
  exact given_back (HR.out _) HX.out.rs rfl (Ne.symm (apart_T HX.out.box HX.out.rs (by decide))) (.inl rfl) HSQ.out
set_option maxHeartbeats 8000000 in
set_option maxRecDepth 100000 in
theorem move_fromBack (h : X8 w xb 34 g at' nx gt gb [] [x]) : Calls Tryz.prog 142 #[.pointer (some ⟨xb, 0, none⟩)] w (XDid w xb 34 g at' (rowV gt 0) (rowV gb 1) gt gb (.tuple #[]) [x] [] nx) := by
  have HX := Lib.hid h
  obtain ⟨c0, c1, c2, c3, c4, c5, c6, c7⟩ := h.cells
  obtain ⟨f4, f5, f7⟩ := h.free
  have HR := Lib.hid (fun n => (set8 (h.drewN n).box).2.1 (.slice (some ⟨gb, 0, none⟩) 1 1))
  clear h
  go_enter Tryz.func142, Tryz.ntmps142
  go_wp2_with fail
  go_quiet (fail)
  have HX := Lib.hid (HX.out.drewN nq)
  have HSQ := Lib.hid (Stirred.drewN w nq [xb])
  go_wp2
  go_end0
  exact given_first (HR.out _) HX.out.rb (by simp) (Ne.symm (apart_T HX.out.box HX.out.rb (by decide))) (.inr rfl) HSQ.out
set_option maxHeartbeats 8000000 in
set_option maxRecDepth 100000 in
theorem move_atBack (h : X8 w xb 35 g at' nx gt gb [] [x]) : Calls Tryz.prog 142 #[.pointer (some ⟨xb, 0, none⟩)] w (XDid w xb 35 g at' (rowV gt 0) (rowV gb 1) gt gb (.tuple #[]) [x] [x] nx) := by
  have HX := Lib.hid h
  obtain ⟨c0, c1, c2, c3, c4, c5, c6, c7⟩ := h.cells
  obtain ⟨f4, f5, f7⟩ := h.free
  have HR := Lib.hid (fun n => (set8 ((set8 (h.drewN n).box).2.2 (rowV gb 1))).2.1 (.slice (some ⟨gb, 0, none⟩) 1 1))
  clear h
  go_enter Tryz.func142, Tryz.ntmps142
  go_wp2_with fail
  go_quiet (fail)
  have HX := Lib.hid (HX.out.drewN nq)
  have HSQ := Lib.hid (Stirred.drewN w nq [xb])
  go_wp2
  go_end0
  exact given_both (HR.out _) HX.out.rb rfl (by simp) (Ne.symm (apart_T HX.out.box HX.out.rb (by decide))) (.inr rfl) HSQ.out
set_option maxHeartbeats 8000000 in
set_option maxRecDepth 100000 in
theorem move_j (h : X8 w xb 39 g at' nx gt gb [] [x, y, z]) : Calls Tryz.prog 142 #[.pointer (some ⟨xb, 0, none⟩)] w (XDid w xb 39 g at' (rowV gt 0) (rowV gb 3) gt gb (.tuple #[]) [x] [x, y, z] nx) := by
  have HX := Lib.hid h
  obtain ⟨c0, c1, c2, c3, c4, c5, c6, c7⟩ := h.cells
  obtain ⟨f4, f5, f7⟩ := h.free
  have HR := Lib.hid (fun n => (set8 ((set8 (h.drewN n).box).2.2 (rowV gb 3))).2.1 (.slice (some ⟨gb, 0, none⟩) 1 3))
  clear h
  go_enter Tryz.func142, Tryz.ntmps142
  go_wp2_with fail
  go_quiet (fail)
  have HX := Lib.hid (HX.out.drewN nq)
  have HSQ := Lib.hid (Stirred.drewN w nq [xb])
  go_wp2
  go_end0
  exact given_both (HR.out _) HX.out.rb rfl (by simp) (Ne.symm (apart_T HX.out.box HX.out.rb (by decide))) (.inr rfl) HSQ.out
set_option maxHeartbeats 8000000 in
set_option maxRecDepth 100000 in
theorem move_dup (h : X8 w xb 6 g at' nx gt gb [p] []) : Calls Tryz.prog 142 #[.pointer (some ⟨xb, 0, none⟩)] w (XDid w xb 6 g at' (rowV gt 1) (rowV gb 0) gt gb (.tuple #[]) [p, p] [] nx) := by
  have HX := Lib.hid h
  obtain ⟨c0, c1, c2, c3, c4, c5, c6, c7⟩ := h.cells
  obtain ⟨f4, f5, f7⟩ := h.free
  obtain ⟨i0, q1, q2, q3, q4⟩ := info_parts Tryz.bkIntInfo
  have HI := Lib.hid (And.intro q1 (And.intro q2 (And.intro q3 q4)))
  clear q1 q2 q3 q4
  have k0 := h.st (j := 0) (x := p) rfl
  clear h
  go_enter Tryz.func142, Tryz.ntmps142
  go_wp2_with fail
  go_quiet (fail)
  have HX := Lib.hid (HX.out.drewN nq)
  have HSQ := Lib.hid (Stirred.drewN w nq [xb])
  obtain ⟨w1, gl, hw1, hgl, HRW, HB1, HG⟩ := row_box (w.drewN nq) [p]
  change (w.drewN nq).alloc (.cells #[.int .i64 p] 3) = w1 at hw1
  change w.heap.size = gl at hgl
  have HX1 := Lib.hid (HX.out.below HB1.out)
  go_wp2_with (refine wpList_append_grows _ rfl _ _ 22 rfl 3 i0 (.int .i64 0) 1 8 Tryz.underlying22 HI.out.1 HI.out.2.1 HI.out.2.2.1 HI.out.2.2.2 rfl (by decide) (some ⟨gt, 0, none⟩) 1 1 (vals [p]) rfl (fun h => by cases h) rfl ?c1 ⟨gl, 0, none⟩ 1 1 (vals [p]) rfl rfl ?c2 (vals_one _) (by decide) (by unfold maxLen; decide) (by decide) ?_)
  case c1 =>
    intro b hb j u hu
    cases hb
    rw [add_row'']
    exact whole_cell HX1.out.rs (show (vals [p]).toArray[0 + j]? = some u from by rw [List.getElem?_toArray]; exact hu_at hu)
  case c2 =>
    intro j u hu
    rw [add_row]
    exact whole_cell HRW.out.1 (by rw [List.getElem?_toArray]; exact hu)
  intro v' w2 hrow hgr
  have HO := Lib.hid (show Owns w2 w1.heap.size 3 v' (vals [p, p]) from Owns.of_row hrow)
  have HT := Lib.hid (Stirred.of_grown hgr)
  obtain ⟨ao, cc, e⟩ := HO.out.slice
  subst e
  rw [vals_length] at HO ⊢
  clear hrow hgr
  have HX2 := Lib.hid (HX1.out.touch HT.out List.not_mem_nil List.not_mem_nil List.not_mem_nil)
  have c4' := HX2.out.cells.2.2.2.2.1
  have f4' := HX2.out.free.1
  have HR := Lib.hid ((set8 HX2.out.box).2.1 (.slice ao 2 cc))
  go_wp2
  go_end0
  exact given_own HX2.out.box HO.out (by have h1 := whole_lt HX1.out.box; exact h1) (by have h2 := HB1.out.size; exact h2) ((HSQ.out.trans (Stirred.of_below HB1.out [xb]) (fun k hk => .inl hk)).trans (HT.out.more (fun k hk => by cases hk)) (fun k hk => .inl hk)) HR.out
set_option maxHeartbeats 8000000 in
set_option maxRecDepth 100000 in
theorem move_copy (h : X8 w xb 9 g at' nx gt gb [q, p] []) : Calls Tryz.prog 142 #[.pointer (some ⟨xb, 0, none⟩)] w (XDid w xb 9 g at' (rowV gt 2) (rowV gb 0) gt gb (.tuple #[]) [q, p, q] [] nx) := by
  have HX := Lib.hid h
  obtain ⟨c0, c1, c2, c3, c4, c5, c6, c7⟩ := h.cells
  obtain ⟨f4, f5, f7⟩ := h.free
  obtain ⟨i0, q1, q2, q3, q4⟩ := info_parts Tryz.bkIntInfo
  have HI := Lib.hid (And.intro q1 (And.intro q2 (And.intro q3 q4)))
  clear q1 q2 q3 q4
  have k0 := h.st (j := 0) (x := q) rfl
  have k1 := h.st (j := 1) (x := p) rfl
  clear h
  go_enter Tryz.func142, Tryz.ntmps142
  go_wp2_with fail
  go_quiet (fail)
  have HX := Lib.hid (HX.out.drewN nq)
  have HSQ := Lib.hid (Stirred.drewN w nq [xb])
  obtain ⟨w1, gl, hw1, hgl, HRW, HB1, HG⟩ := row_box (w.drewN nq) [q]
  change (w.drewN nq).alloc (.cells #[.int .i64 q] 3) = w1 at hw1
  change w.heap.size = gl at hgl
  have HX1 := Lib.hid (HX.out.below HB1.out)
  go_wp2_with (refine wpList_append_grows _ rfl _ _ 22 rfl 3 i0 (.int .i64 0) 1 8 Tryz.underlying22 HI.out.1 HI.out.2.1 HI.out.2.2.1 HI.out.2.2.2 rfl (by decide) (some ⟨gt, 0, none⟩) 2 2 (vals [q, p]) rfl (fun h => by cases h) rfl ?c1 ⟨gl, 0, none⟩ 1 1 (vals [q]) rfl rfl ?c2 (vals_one _) (by decide) (by unfold maxLen; decide) (by decide) ?_)
  case c1 =>
    intro b hb j u hu
    cases hb
    rw [add_row'']
    exact whole_cell HX1.out.rs (show (vals [q, p]).toArray[0 + j]? = some u from by rw [List.getElem?_toArray]; exact hu_at hu)
  case c2 =>
    intro j u hu
    rw [add_row]
    exact whole_cell HRW.out.1 (by rw [List.getElem?_toArray]; exact hu)
  intro v' w2 hrow hgr
  have HO := Lib.hid (show Owns w2 w1.heap.size 3 v' (vals [q, p, q]) from Owns.of_row hrow)
  have HT := Lib.hid (Stirred.of_grown hgr)
  obtain ⟨ao, cc, e⟩ := HO.out.slice
  subst e
  rw [vals_length] at HO ⊢
  clear hrow hgr
  have HX2 := Lib.hid (HX1.out.touch HT.out List.not_mem_nil List.not_mem_nil List.not_mem_nil)
  have c4' := HX2.out.cells.2.2.2.2.1
  have f4' := HX2.out.free.1
  have HR := Lib.hid ((set8 HX2.out.box).2.1 (.slice ao 3 cc))
  go_wp2
  go_end0
  exact given_own HX2.out.box HO.out (by have h1 := whole_lt HX1.out.box; exact h1) (by have h2 := HB1.out.size; exact h2) ((HSQ.out.trans (Stirred.of_below HB1.out [xb]) (fun k hk => .inl hk)).trans (HT.out.more (fun k hk => by cases hk)) (fun k hk => .inl hk)) HR.out
set_option maxHeartbeats 8000000 in
set_option maxRecDepth 100000 in
theorem move_swap (h : X8 w xb 8 g at' nx gt gb [q, p] []) : Calls Tryz.prog 142 #[.pointer (some ⟨xb, 0, none⟩)] w (XDid w xb 8 g at' (rowV gt 2) (rowV gb 0) gt gb (.tuple #[]) [p, q] [] nx) := by
  have HX := Lib.hid h
  obtain ⟨c0, c1, c2, c3, c4, c5, c6, c7⟩ := h.cells
  obtain ⟨f4, f5, f7⟩ := h.free
  obtain ⟨i0, q1, q2, q3, q4⟩ := info_parts Tryz.bkIntInfo
  have HI := Lib.hid (And.intro q1 (And.intro q2 (And.intro q3 q4)))
  clear q1 q2 q3 q4
  have k0 := h.st (j := 0) (x := q) rfl
  have k1 := h.st (j := 1) (x := p) rfl
  clear h
  go_enter Tryz.func142, Tryz.ntmps142
  go_wp2_with fail
  go_quiet (fail)
  have HX := Lib.hid (HX.out.drewN nq)
  have HSQ := Lib.hid (Stirred.drewN w nq [xb])
  obtain ⟨w1, gl, hw1, hgl, HRW, HB1, HG⟩ := row_box (w.drewN nq) [q]
  change (w.drewN nq).alloc (.cells #[.int .i64 q] 3) = w1 at hw1
  change w.heap.size = gl at hgl
  have HX1 := Lib.hid (HX.out.below HB1.out)
  go_wp2_with (refine wpList_append_grows _ rfl _ _ 22 rfl 3 i0 (.int .i64 0) 1 8 Tryz.underlying22 HI.out.1 HI.out.2.1 HI.out.2.2.1 HI.out.2.2.2 rfl (by decide) (some ⟨gt, 1, none⟩) 1 1 (vals [p]) rfl (fun h => by cases h) rfl ?c1 ⟨gl, 0, none⟩ 1 1 (vals [q]) rfl rfl ?c2 (vals_one _) (by decide) (by unfold maxLen; decide) (by decide) ?_)
  case c1 =>
    intro b hb j u hu
    cases hb
    rw [add_row'']
    exact whole_cell HX1.out.rs (show (vals [q, p]).toArray[1 + j]? = some u from by rw [List.getElem?_toArray]; exact hu_at hu)
  case c2 =>
    intro j u hu
    rw [add_row]
    exact whole_cell HRW.out.1 (by rw [List.getElem?_toArray]; exact hu)
  intro v' w2 hrow hgr
  have HO := Lib.hid (show Owns w2 w1.heap.size 3 v' (vals [p, q]) from Owns.of_row hrow)
  have HT := Lib.hid (Stirred.of_grown hgr)
  obtain ⟨ao, cc, e⟩ := HO.out.slice
  subst e
  rw [vals_length] at HO ⊢
  clear hrow hgr
  have HX2 := Lib.hid (HX1.out.touch HT.out List.not_mem_nil List.not_mem_nil List.not_mem_nil)
  have c4' := HX2.out.cells.2.2.2.2.1
  have f4' := HX2.out.free.1
  have HR := Lib.hid ((set8 HX2.out.box).2.1 (.slice ao 2 cc))
  go_wp2
  go_end0
  exact given_own HX2.out.box HO.out (by have h1 := whole_lt HX1.out.box; exact h1) (by have h2 := HB1.out.size; exact h2) ((HSQ.out.trans (Stirred.of_below HB1.out [xb]) (fun k hk => .inl hk)).trans (HT.out.more (fun k hk => by cases hk)) (fun k hk => .inl hk)) HR.out
set_option maxHeartbeats 8000000 in
set_option maxRecDepth 100000 in
theorem move_rot (h : X8 w xb 10 g at' nx gt gb [r, q, p] []) : Calls Tryz.prog 142 #[.pointer (some ⟨xb, 0, none⟩)] w (XDid w xb 10 g at' (rowV gt 3) (rowV gb 0) gt gb (.tuple #[]) [q, p, r] [] nx) := by
  have HX := Lib.hid h
  obtain ⟨c0, c1, c2, c3, c4, c5, c6, c7⟩ := h.cells
  obtain ⟨f4, f5, f7⟩ := h.free
  obtain ⟨i0, q1, q2, q3, q4⟩ := info_parts Tryz.bkIntInfo
  have HI := Lib.hid (And.intro q1 (And.intro q2 (And.intro q3 q4)))
  clear q1 q2 q3 q4
  have k0 := h.st (j := 0) (x := r) rfl
  have k1 := h.st (j := 1) (x := q) rfl
  have k2 := h.st (j := 2) (x := p) rfl
  clear h
  go_enter Tryz.func142, Tryz.ntmps142
  go_wp2_with fail
  go_quiet (fail)
  have HX := Lib.hid (HX.out.drewN nq)
  have HSQ := Lib.hid (Stirred.drewN w nq [xb])
  obtain ⟨w1, gl, hw1, hgl, HRW, HB1, HG⟩ := row_box (w.drewN nq) [r]
  change (w.drewN nq).alloc (.cells #[.int .i64 r] 3) = w1 at hw1
  change w.heap.size = gl at hgl
  have HX1 := Lib.hid (HX.out.below HB1.out)
  go_wp2_with (refine wpList_append_grows _ rfl _ _ 22 rfl 3 i0 (.int .i64 0) 1 8 Tryz.underlying22 HI.out.1 HI.out.2.1 HI.out.2.2.1 HI.out.2.2.2 rfl (by decide) (some ⟨gt, 1, none⟩) 2 2 (vals [q, p]) rfl (fun h => by cases h) rfl ?c1 ⟨gl, 0, none⟩ 1 1 (vals [r]) rfl rfl ?c2 (vals_one _) (by decide) (by unfold maxLen; decide) (by decide) ?_)
  case c1 =>
    intro b hb j u hu
    cases hb
    rw [add_row'']
    exact whole_cell HX1.out.rs (show (vals [r, q, p]).toArray[1 + j]? = some u from by rw [List.getElem?_toArray]; exact hu_at hu)
  case c2 =>
    intro j u hu
    rw [add_row]
    exact whole_cell HRW.out.1 (by rw [List.getElem?_toArray]; exact hu)
  intro v' w2 hrow hgr
  have HO := Lib.hid (show Owns w2 w1.heap.size 3 v' (vals [q, p, r]) from Owns.of_row hrow)
  have HT := Lib.hid (Stirred.of_grown hgr)
  obtain ⟨ao, cc, e⟩ := HO.out.slice
  subst e
  rw [vals_length] at HO ⊢
  clear hrow hgr
  have HX2 := Lib.hid (HX1.out.touch HT.out List.not_mem_nil List.not_mem_nil List.not_mem_nil)
  have c4' := HX2.out.cells.2.2.2.2.1
  have f4' := HX2.out.free.1
  have HR := Lib.hid ((set8 HX2.out.box).2.1 (.slice ao 3 cc))
  go_wp2
  go_end0
  exact given_own HX2.out.box HO.out (by have h1 := whole_lt HX1.out.box; exact h1) (by have h2 := HB1.out.size; exact h2) ((HSQ.out.trans (Stirred.of_below HB1.out [xb]) (fun k hk => .inl hk)).trans (HT.out.more (fun k hk => by cases hk)) (fun k hk => .inl hk)) HR.out
end
end Go.Proofs.YthnciokmomgfeaaGreatDoor.Inn
/- The walks of package cell: what each call comes to. -/
namespace Go.Proofs.YthnciokmomgfeaaGreatDoor.Cell
open Go.RowKit

theorem ret1 {k : IntKind} {a b : Int} (h : a = b) : Ending.returned (.int k a) = .returned (.int k b) := by rw [h]
theorem retB {a b : Bool} (h : a = b) : Ending.returned (.bool a) = .returned (.bool b) := by rw [h]
theorem ret2 {k : IntKind} {a b : Int} {c d : Bool} (h : a = b) (g : c = d) : Ending.returned (.tuple #[.int k a, .bool c]) = .returned (.tuple #[.int k b, .bool d]) := by rw [h, g]
theorem ret3 {k : IntKind} {a b a' b' : Int} {c d : Bool} (h : a = b) (h' : a' = b') (g : c = d) : Ending.returned (.tuple #[.int k a, .int k a', .bool c]) = .returned (.tuple #[.int k b, .int k b', .bool d]) := by rw [h, h', g]
theorem retQ {k : IntKind} {a b a' b' : Int} (h : a = b) (h' : a' = b') : Ending.returned (.tuple #[.int k a, .int k a']) = .returned (.tuple #[.int k b, .int k b']) := by rw [h, h']

set_option maxHeartbeats 400000 in
theorem floor_zero (a : Int) (w : World) :
    Calls Tryz.prog 176 #[.int .i64 a, .int .i64 0] w fun e w' => e = .returned (.tuple #[.int .i64 0, .int .i64 0, .bool false]) ∧ w' = w := by
  go_enter Tryz.func176, Tryz.ntmps176
  go_wp2
  go_ret3
  exact ⟨rfl, rfl⟩

set_option maxHeartbeats 400000 in
theorem floor_any (a b : Int) (hb : (b == 0) = false) (ib : In b) (w : World) :
    Calls Tryz.prog 176 #[.int .i64 a, .int .i64 b] w fun e w' => e = .returned (.tuple #[.int .i64 (fq a b), .int .i64 (fr a b), .bool true]) ∧ ∃ n, w' = w.drewN n := by
  have hb' : b ≠ 0 := by simpa using hb
  have IB := Lib.hid ib; clear ib
  go_enter Tryz.func176, Tryz.ntmps176
  go_wp2
  go_quiet (fail)
  go_wp2
  · go_ret3
    exact ⟨ret3 (floor1 ‹_›).1 (floor1 ‹_›).2 rfl, nq, rfl⟩
  · go_ret3
    exact ⟨ret3 (floor2 hb' IB.out ‹_› ‹_›).1 (floor2 hb' IB.out ‹_› ‹_›).2 rfl, nq, rfl⟩
  · go_ret3
    exact ⟨ret3 (floor3 ‹_› ‹_›).1 (floor3 ‹_› ‹_›).2 rfl, nq, rfl⟩
set_option maxHeartbeats 400000 in
theorem crosses_any (x n : Int) (w : World) :
    Calls Tryz.prog 154 #[.int .i64 x, .int .i64 n] w fun e w' => e = .returned (.bool (crosses x n)) ∧ w' = w := by
  go_enter Tryz.func154, Tryz.ntmps154
  go_wp2
  go_ret
  exact ⟨rfl, rfl⟩
set_option maxHeartbeats 400000 in
theorem flag_any (b : Bool) (w : World) :
    Calls Tryz.prog 163 #[.bool b] w fun e w' => e = .returned (.int .i64 (flag b)) ∧ w' = w := by
  cases b
  all_goals
    go_enter Tryz.func163, Tryz.ntmps163
    go_wp2
    go_ret
    exact ⟨rfl, rfl⟩
set_option maxHeartbeats 400000 in
theorem join_any (op a b : Int) (w : World) :
    Calls Tryz.prog 165 #[.int .i64 op, .int .i64 a, .int .i64 b] w fun e w' => e = .returned (.int .i64 (joinV op a b)) ∧ w' = w := by
  go_enter Tryz.func165, Tryz.ntmps165
  go_wp2
  · go_ret; exact ⟨ret1 (join1 ‹_›), rfl⟩
  · go_ret; exact ⟨ret1 (join2 ‹_›), rfl⟩
  · go_ret; exact ⟨ret1 (join3 ‹_› ‹_›), rfl⟩
set_option maxHeartbeats 400000 in
theorem shift_any (op a b : Int) (w : World) :
    Calls Tryz.prog 166 #[.int .i64 op, .int .i64 a, .int .i64 b] w fun e w' => e = .returned (.int .i64 (shiftV op a b)) ∧ w' = w := by
  by_cases h0 : b < 0
  · go_enter Tryz.func166, Tryz.ntmps166
    go_wp2
    go_ret
    exact ⟨ret1 (shift1 (.inl h0)), rfl⟩
  · by_cases h1 : 63 < b
    · go_enter Tryz.func166, Tryz.ntmps166
      go_wp2
      go_ret
      exact ⟨ret1 (shift1 (.inr h1)), rfl⟩
    · go_enter Tryz.func166, Tryz.ntmps166
      go_wp2
      · go_ret; exact ⟨ret1 (shift2 ‹_› (by omega) (by omega)), rfl⟩
      · go_ret; exact ⟨ret1 (shift3 ‹_› (by omega) (by omega)), rfl⟩
set_option maxHeartbeats 400000 in
theorem holds_any (op a b : Int) (w : World) :
    Calls Tryz.prog 167 #[.int .i64 op, .int .i64 a, .int .i64 b] w fun e w' => e = .returned (.bool (holdsV op a b)) ∧ w' = w := by
  go_enter Tryz.func167, Tryz.ntmps167
  go_wp2
  · go_ret; exact ⟨retB (holds1 ‹_›), rfl⟩
  · go_ret; exact ⟨retB (holds2 ‹_›), rfl⟩
  · go_ret; exact ⟨retB (holds3 ‹_› ‹_›), rfl⟩
set_option maxHeartbeats 400000 in
theorem pick_any (op a b : Int) (w : World) :
    Calls Tryz.prog 168 #[.int .i64 op, .int .i64 a, .int .i64 b] w fun e w' => e = .returned (.int .i64 (pickV op a b)) ∧ w' = w := by
  go_enter Tryz.func168, Tryz.ntmps168
  go_wp2
  · go_ret; exact ⟨ret1 (pick1 ‹_›), rfl⟩
  · go_ret; exact ⟨ret1 (pick2 ‹_›), rfl⟩

theorem op_cases (op : Int) : op < 11 ∨ 29 < op ∨ op = 11 ∨ op = 12 ∨ op = 13 ∨ op = 14 ∨ op = 15 ∨ op = 16 ∨ op = 17 ∨ op = 18 ∨ op = 19 ∨ op = 20 ∨ op = 21 ∨ op = 22 ∨ op = 23 ∨ op = 24 ∨ op = 25 ∨ op = 26 ∨ op = 27 ∨ op = 28 ∨ op = 29 := by omega
theorem two_lo {op a b : Int} (h : op < 11) : two op a b = (0, false) := by
  unfold two; repeat rw [if_neg (by omega)]
theorem two_hi {op a b : Int} (h : 29 < op) : two op a b = (0, false) := by
  unfold two; repeat rw [if_neg (by omega)]

/-- What a call of two results comes to; the world is as it was but for draws. -/
def Tells (v : Int × Bool) (w : World) (e : Ending) (w' : World) : Prop := e = .returned (.tuple #[.int .i64 v.1, .bool v.2]) ∧ ∃ n, w' = w.drewN n

set_option maxHeartbeats 400000 in
theorem divide_zero (op a : Int) (w : World) :
    Calls Tryz.prog 164 #[.int .i64 op, .int .i64 a, .int .i64 0] w (Tells (0, false) w) := by
  go_enter Tryz.func164, Tryz.ntmps164
  go_wp2_with (go_at_call 176; refine (floor_zero _ _).mono ?_; rintro e w' ⟨rfl, rfl⟩)
  all_goals
    go_ret2
    exact ⟨ret2 rfl rfl, 0, rfl⟩
set_option maxHeartbeats 400000 in
theorem divide_any (op a b : Int) (hb : (b == 0) = false) (ib : In b) (w : World) :
    Calls Tryz.prog 164 #[.int .i64 op, .int .i64 a, .int .i64 b] w (Tells (if op = 15 then fr a b else fq a b, true) w) := by
  by_cases h : op = 15
  · subst h
    have IB := Lib.hid ib; clear ib
    go_enter Tryz.func164, Tryz.ntmps164
    go_wp2_with (go_at_call 176; refine (floor_any _ _ hb IB.out _).mono ?_; rintro e w' ⟨rfl, n, rfl⟩)
    go_ret2
    exact ⟨ret2 rfl rfl, n, rfl⟩
  · have h' : (op == 15) = false := by simpa using h
    have IB := Lib.hid ib; clear ib
    rw [if_neg h]; clear h
    go_enter Tryz.func164, Tryz.ntmps164
    go_wp2_with (go_at_call 176; refine (floor_any _ _ hb IB.out _).mono ?_; rintro e w' ⟨rfl, n, rfl⟩)
    go_ret2
    exact ⟨ret2 rfl rfl, n, rfl⟩

theorem two_14 {a b : Int} (hb : b ≠ 0) : two 14 a b = (if (14 : Int) = 15 then fr a b else fq a b, true) := by
  show fl a b 14 = _; unfold fl; rw [if_neg hb]
theorem two_15 {a b : Int} (hb : b ≠ 0) : two 15 a b = (if (15 : Int) = 15 then fr a b else fq a b, true) := by
  show fl a b 15 = _; unfold fl; rw [if_neg hb]
set_option maxHeartbeats 1000000 in
theorem two_any (op a b : Int) (ib : In b) (w : World) :
    Calls Tryz.prog 156 #[.int .i64 op, .int .i64 a, .int .i64 b] w (Tells (two op a b) w) := by
  rcases op_cases op with h | h | rfl | rfl | rfl | rfl | rfl | rfl | rfl | rfl | rfl | rfl | rfl | rfl | rfl | rfl | rfl | rfl | rfl | rfl | rfl
  · rw [two_lo h]; go_enter Tryz.func156, Tryz.ntmps156
    go_wp2
    go_ret2; exact ⟨ret2 rfl rfl, 0, rfl⟩
  · rw [two_hi h]; go_enter Tryz.func156, Tryz.ntmps156
    go_wp2
    go_ret2; exact ⟨ret2 rfl rfl, 0, rfl⟩
  · go_enter Tryz.func156, Tryz.ntmps156
    go_wp2
    go_ret2; exact ⟨ret2 rfl rfl, 0, rfl⟩
  · go_enter Tryz.func156, Tryz.ntmps156
    go_wp2
    go_ret2; exact ⟨ret2 (sub_of a b) rfl, 0, rfl⟩
  · go_enter Tryz.func156, Tryz.ntmps156
    go_wp2
    go_ret2; exact ⟨ret2 rfl rfl, 0, rfl⟩
  · by_cases hb : b = 0
    · subst hb; go_enter Tryz.func156, Tryz.ntmps156
      go_wp2_with (go_at_call 164; refine (divide_zero _ _ _).mono ?_; rintro e w' ⟨rfl, n, rfl⟩)
      go_ret2; exact ⟨ret2 rfl rfl, n, rfl⟩
    · rw [two_14 hb]
      have hb' : (b == 0) = false := by simpa using hb
      clear hb
      go_enter Tryz.func156, Tryz.ntmps156
      go_wp2_with (go_at_call 164; refine (divide_any _ _ _ hb' ib _).mono ?_; rintro e w' ⟨rfl, n, rfl⟩)
      go_ret2; exact ⟨ret2 rfl rfl, n, rfl⟩
  · by_cases hb : b = 0
    · subst hb; go_enter Tryz.func156, Tryz.ntmps156
      go_wp2_with (go_at_call 164; refine (divide_zero _ _ _).mono ?_; rintro e w' ⟨rfl, n, rfl⟩)
      go_ret2; exact ⟨ret2 rfl rfl, n, rfl⟩
    · rw [two_15 hb]
      have hb' : (b == 0) = false := by simpa using hb
      clear hb
      go_enter Tryz.func156, Tryz.ntmps156
      go_wp2_with (go_at_call 164; refine (divide_any _ _ _ hb' ib _).mono ?_; rintro e w' ⟨rfl, n, rfl⟩)
      go_ret2; exact ⟨ret2 rfl rfl, n, rfl⟩
  all_goals
    go_enter Tryz.func156, Tryz.ntmps156
    go_wp2_with (first | (go_at_call 165; refine (join_any _ _ _ _).mono ?_; rintro e w' ⟨rfl, rfl⟩) | (go_at_call 166; refine (shift_any _ _ _ _).mono ?_; rintro e w' ⟨rfl, rfl⟩) | (go_at_call 167; refine (holds_any _ _ _ _).mono ?_; rintro e w' ⟨rfl, rfl⟩) | (go_at_call 163; refine (flag_any _ _).mono ?_; rintro e w' ⟨rfl, rfl⟩) | (go_at_call 168; refine (pick_any _ _ _ _).mono ?_; rintro e w' ⟨rfl, rfl⟩))
    go_ret2; exact ⟨ret2 rfl rfl, 0, rfl⟩

theorem one_lo {op a : Int} (h : op < 11) : one op a = (0, false) := by
  unfold one; repeat rw [if_neg (by omega)]
theorem one_hi {op a : Int} (h : 29 < op) : one op a = (0, false) := by
  unfold one; repeat rw [if_neg (by omega)]
set_option maxHeartbeats 1000000 in
theorem one_any (op a : Int) (ia : In a) (w : World) :
    Calls Tryz.prog 155 #[.int .i64 op, .int .i64 a] w (Tells (one op a) w) := by
  rcases op_cases op with h | h | rfl | rfl | rfl | rfl | rfl | rfl | rfl | rfl | rfl | rfl | rfl | rfl | rfl | rfl | rfl | rfl | rfl | rfl | rfl
  · rw [one_lo h]; go_enter Tryz.func155, Tryz.ntmps155
    go_wp2
    go_ret2; exact ⟨ret2 rfl rfl, 0, rfl⟩
  · rw [one_hi h]; go_enter Tryz.func155, Tryz.ntmps155
    go_wp2
    go_ret2; exact ⟨ret2 rfl rfl, 0, rfl⟩
  all_goals
    go_enter Tryz.func155, Tryz.ntmps155
    go_wp2_with (go_at_call 163; refine (flag_any _ _).mono ?_; rintro e w' ⟨rfl, rfl⟩)
    go_ret2; exact ⟨ret2 (by first | rfl | exact neg_of a | exact not_of ia) rfl, 0, rfl⟩
end Go.Proofs.YthnciokmomgfeaaGreatDoor.Cell
/- errors.As over this program's faults: closed facts on the model's reflectlite, at targets *fault.fault and **fault.seen. -/
namespace Go.Proofs.YthnciokmomgfeaaGreatDoor
open Go.RowKit Go.Extern.Stop Go.Stop Go.Extern
set_option linter.unusedSimpArgs false

theorem getLit1 (x y : Value) (h1 h2) : (#[x, y] : Array Value).getLit (n := 2) 1 h1 h2 = y := rfl
/-- the handle of a type -/
abbrev hd (t : TypeId) : Value := .pointer (some ⟨9, t, none⟩)
abbrev rty (t : TypeId) : Value := .iface 169 (.agg #[hd t])
abbrev pV (t : TypeId) (a : Addr) (f : Int) : Value := .agg #[hd t, .pointer (some a), .int .u64 f]

/- the targets: pointers to a fault (pf) and to a *seen (ps) -/
theorem Tryz.valueOf_pf (t : Addr) (w : World) : (ReflectliteValue.unpack (.iface 154 (.pointer (some t)))).run Tryz.prog w
    = .ok (pV 154 ⟨w.heap.size, 0, none⟩ 150) (w.alloc (.cells #[.pointer (some t)] 154)) := by kernel_rfl
theorem Tryz.type_pf (a : Addr) (w : World) : (ReflectliteValue.methodAny (ReflectliteValue.valueError "reflectlite.Value.Type" 0) (fun t _ _ _ => ReflectliteType.toType t) #[pV 154 a 150]).run Tryz.prog w
    = .ok (rty 154) w := by kernel_rfl
theorem Tryz.methodKind (h : Value) (w : World) : (Go.method 356 169 (.agg #[h]) "Kind").run Tryz.prog w = .ok (217, h) w := by kernel_rfl
theorem Tryz.methodElem (h : Value) (w : World) : (Go.method 356 169 (.agg #[h]) "Elem").run Tryz.prog w = .ok (230, .agg #[h]) w := by kernel_rfl
theorem Tryz.methodImplements (h : Value) (w : World) : (Go.method 356 169 (.agg #[h]) "Implements").run Tryz.prog w = .ok (231, .agg #[h]) w := by kernel_rfl
theorem Tryz.methodAssignableTo (h : Value) (w : World) : (Go.method 356 169 (.agg #[h]) "AssignableTo").run Tryz.prog w = .ok (228, .agg #[h]) w := by kernel_rfl
theorem Tryz.methodComparable (h : Value) (w : World) : (Go.method 356 169 (.agg #[h]) "Comparable").run Tryz.prog w = .ok (229, .agg #[h]) w := by kernel_rfl
theorem Tryz.methodUnwrap (v : Value) (w : World) : (Go.method 356 146 v "Unwrap").run Tryz.prog w = .ok (223, v) w := by kernel_rfl
theorem Tryz.kind_pf (w : World) : ((ReflectliteType.abiMethod fun t => (fun a : Nat => Value.int IntKind.u8 (a : Int)) <$> Rtype.kind t) #[hd 154]).run Tryz.prog w = .ok (.int .u8 22) w := by kernel_rfl
theorem Tryz.kind_f (w : World) : ((ReflectliteType.abiMethod fun t => (fun a : Nat => Value.int IntKind.u8 (a : Int)) <$> Rtype.kind t) #[hd 139]).run Tryz.prog w = .ok (.int .u8 25) w := by kernel_rfl
theorem Tryz.kind_s (w : World) : ((ReflectliteType.abiMethod fun t => (fun a : Nat => Value.int IntKind.u8 (a : Int)) <$> Rtype.kind t) #[hd 146]).run Tryz.prog w = .ok (.int .u8 22) w := by kernel_rfl
theorem Tryz.elem_pf (w : World) : (ReflectliteType.method ReflectliteType.elem #[.agg #[hd 154]]).run Tryz.prog w = .ok (rty 139) w := by kernel_rfl
theorem Tryz.impl_f (w : World) : (ReflectliteType.relation "Implements" ReflectliteType.implements_ #[.agg #[hd 139], rty 92]).run Tryz.prog w = .ok (.bool true) w := by kernel_rfl
theorem Tryz.impl_s (w : World) : (ReflectliteType.relation "Implements" ReflectliteType.implements_ #[.agg #[hd 146], rty 92]).run Tryz.prog w = .ok (.bool true) w := by kernel_rfl
theorem Tryz.typeOf_f (v : Value) (w : World) : (ReflectliteType.typeOf #[.iface 139 v]).run Tryz.prog w = .ok (rty 139) w := by kernel_rfl
theorem Tryz.typeOf_s (v : Value) (w : World) : (ReflectliteType.typeOf #[.iface 146 v]).run Tryz.prog w = .ok (rty 146) w := by kernel_rfl
theorem Tryz.assign_ff (w : World) : (ReflectliteType.relation "AssignableTo" ReflectliteType.assignableTo #[.agg #[hd 139], rty 139]).run Tryz.prog w = .ok (.bool true) w := by kernel_rfl
theorem Tryz.assign_sf (w : World) : (ReflectliteType.relation "AssignableTo" ReflectliteType.assignableTo #[.agg #[hd 146], rty 139]).run Tryz.prog w = .ok (.bool false) w := by kernel_rfl
theorem Tryz.assign_ss (w : World) : (ReflectliteType.relation "AssignableTo" ReflectliteType.assignableTo #[.agg #[hd 146], rty 146]).run Tryz.prog w = .ok (.bool true) w := by kernel_rfl
theorem Tryz.assign_fs (w : World) : (ReflectliteType.relation "AssignableTo" ReflectliteType.assignableTo #[.agg #[hd 139], rty 146]).run Tryz.prog w = .ok (.bool false) w := by kernel_rfl
theorem Tryz.valueOf_f (c i : Int) (w : World) : (ReflectliteValue.unpack (.iface 139 (.agg #[.int .i64 c, .int .i64 i]))).run Tryz.prog w
    = .ok (pV 139 ⟨w.heap.size, 0, none⟩ 153) (w.alloc (.cells #[.int .i64 c, .int .i64 i] 139)) := by kernel_rfl
theorem Tryz.valueOf_s (e : Addr) (w : World) : (ReflectliteValue.unpack (.iface 146 (.pointer (some e)))).run Tryz.prog w
    = .ok (pV 146 ⟨w.heap.size, 0, none⟩ 150) (w.alloc (.cells #[.pointer (some e)] 146)) := by kernel_rfl
/- method sets -/
theorem Tryz.noAs_f (v : Value) (xT : TypeId) (w : World) : (Instr.typeAssert (.iface 139 v) xT 174 true).run Tryz.prog w = .ok (.tuple #[.nilIface, .bool false]) w := run_typeAssert_lacksB Tryz.underlying174 (by kernel_rfl) (by kernel_rfl) v xT w
theorem Tryz.noAs_s (v : Value) (xT : TypeId) (w : World) : (Instr.typeAssert (.iface 146 v) xT 174 true).run Tryz.prog w = .ok (.tuple #[.nilIface, .bool false]) w := run_typeAssert_lacksB Tryz.underlying174 (by kernel_rfl) (by kernel_rfl) v xT w
theorem Tryz.noUn_f (v : Value) (xT : TypeId) (w : World) : (Instr.typeAssert (.iface 139 v) xT 177 true).run Tryz.prog w = .ok (.tuple #[.nilIface, .bool false]) w := run_typeAssert_lacksB Tryz.underlying177 (by kernel_rfl) (by kernel_rfl) v xT w
theorem Tryz.un_s (v : Value) (xT : TypeId) (w : World) : (Instr.typeAssert (.iface 146 v) xT 177 true).run Tryz.prog w = .ok (.tuple #[.iface 146 v, .bool true]) w := run_typeAssert_hasB Tryz.underlying177 (by kernel_rfl) v xT w
theorem Tryz.noUns_f (v : Value) (xT : TypeId) (w : World) : (Instr.typeAssert (.iface 139 v) xT 178 true).run Tryz.prog w = .ok (.tuple #[.nilIface, .bool false]) w := run_typeAssert_lacksB Tryz.underlying178 (by kernel_rfl) (by kernel_rfl) v xT w
/- the entries that read or write memory -/
theorem Tryz.parts_pf (a : Addr) (w : World) : (ReflectliteValue.parts (pV 154 a 150)).run Tryz.prog w = .ok (some (154, a, 150)) w := by kernel_rfl
theorem Tryz.parts_fa (a : Addr) (w : World) : (ReflectliteValue.parts (pV 139 a 409)).run Tryz.prog w = .ok (some (139, a, 409)) w := by kernel_rfl
theorem Tryz.parts_sa (a : Addr) (w : World) : (ReflectliteValue.parts (pV 146 a 406)).run Tryz.prog w = .ok (some (146, a, 406)) w := by kernel_rfl
theorem Tryz.parts_f (a : Addr) (w : World) : (ReflectliteValue.parts (pV 139 a 153)).run Tryz.prog w = .ok (some (139, a, 153)) w := by kernel_rfl
theorem Tryz.parts_s (a : Addr) (w : World) : (ReflectliteValue.parts (pV 146 a 150)).run Tryz.prog w = .ok (some (146, a, 150)) w := by kernel_rfl
theorem Tryz.elemOf_pf (w : World) : (Rtype.elem? 154).run Tryz.prog w = .ok (some 139) w := by kernel_rfl
theorem Tryz.mk_f (p : Addr) (w : World) : (ReflectliteValue.mk 139 p ReflectliteValue.flagAddr).run Tryz.prog w = .ok (pV 139 p 409) w := by kernel_rfl
theorem Tryz.mk_s (p : Addr) (w : World) : (ReflectliteValue.mk 146 p ReflectliteValue.flagAddr).run Tryz.prog w = .ok (pV 146 p 406) w := by kernel_rfl
theorem Tryz.direct_f (w : World) : (Rtype.directlyAssignable 139 139).run Tryz.prog w = .ok true w := by kernel_rfl
theorem Tryz.direct_s (w : World) : (Rtype.directlyAssignable 146 146).run Tryz.prog w = .ok true w := by kernel_rfl
theorem Tryz.size_f (w : World) : (sizeOf 139).run Tryz.prog w = .ok 2 w := by kernel_rfl
theorem Tryz.size_s (w : World) : (sizeOf 146).run Tryz.prog w = .ok 1 w := by kernel_rfl
theorem Tryz.isNil_pf (a p : Addr) (W : World) (ha : W.cell? a = some (.pointer (some p))) :
    (ReflectliteValue.method (ReflectliteValue.valueError "reflectlite.Value.IsNil" 0) ReflectliteValue.isNil #[pV 154 a 150]).run Tryz.prog W = .ok (.bool false) W := by
  change (Sem.run Tryz.prog (ReflectliteValue.parts (pV 154 a 150) >>= _) W) = _
  simp only [Sem.run_bind, Tryz.parts_pf, Result.andThen]
  simp [ReflectliteValue.isNil, loadVar, isAgg, underlying, Tryz.underlying154, ha, Result.andThen]
theorem Tryz.elemV_pf (a p : Addr) (W : World) (ha : W.cell? a = some (.pointer (some p))) :
    (ReflectliteValue.method (ReflectliteValue.valueError "reflectlite.Value.Elem" 0) ReflectliteValue.elem #[pV 154 a 150]).run Tryz.prog W
      = .ok (pV 139 p 409) W := by
  change (Sem.run Tryz.prog (ReflectliteValue.parts (pV 154 a 150) >>= _) W) = _
  simp only [Sem.run_bind, Tryz.parts_pf, Result.andThen]
  simp [ReflectliteValue.elem, loadVar, isAgg, underlying, Tryz.underlying154, ha, Result.andThen, Tryz.elemOf_pf, Tryz.mk_f]
theorem Tryz.set_s (ta b e : Addr) (old : Value) (W : World) (hb : W.cell? b = some (.pointer (some e))) (ht : W.cell? ta = some old) (hf : W.frozen? ta = false) :
    (ReflectliteValue.set #[pV 146 ta 406, pV 146 b 150]).run Tryz.prog W
      = .ok (.tuple #[]) (W.setCell ta (.pointer (some e))) := by
  change (Sem.run Tryz.prog (ReflectliteValue.parts (pV 146 ta 406) >>= _) W) = _
  simp only [Sem.run_bind, Tryz.parts_sa, getLit1, Tryz.parts_s, Result.andThen]
  simp [ReflectliteValue.flagAddr, loadVar, isAgg, underlying, Tryz.underlying146, hb, Result.andThen, Tryz.direct_s, storeVar, Value.cells, storeCells, Addr.add]
  rw [run_store Tryz.prog W ta _ _ (by rfl)]
  simp [ht, hf]
end Go.Proofs.YthnciokmomgfeaaGreatDoor
/- The walks of package fault: New, Wrap, Unwrap; errors.As over a chain of wrapped faults. -/
namespace Go.Proofs.YthnciokmomgfeaaGreatDoor
open Go.RowKit Go.Extern.Stop Go.Stop Go.Extern
set_option linter.unusedSimpArgs false
set_option linter.unusedVariables false

theorem setCell_far1 (W : World) (T : Nat) (v : Value) : (W.setCell ⟨T, 0, none⟩ v).cell? ⟨T, 1, none⟩ = W.cell? ⟨T, 1, none⟩ := World.cell?_setCell_other _ _ _ _ (by simp)
set_option maxHeartbeats 1000000 in
theorem Tryz.set_f (T b : Nat) (c i : Int) (o0 o1 : Value) (W : World) (hb : W.cell? ⟨b, 0, none⟩ = some (.int .i64 c)) (hb1 : W.cell? ⟨b, 1, none⟩ = some (.int .i64 i))
    (ht : W.cell? ⟨T, 0, none⟩ = some o0) (ht1 : W.cell? ⟨T, 1, none⟩ = some o1) (hf : W.frozen? ⟨T, 0, none⟩ = false) (hf1 : W.frozen? ⟨T, 1, none⟩ = false) :
    (ReflectliteValue.set #[pV 139 ⟨T, 0, none⟩ 409, pV 139 ⟨b, 0, none⟩ 153]).run Tryz.prog W
      = .ok (.tuple #[]) ((W.setCell ⟨T, 0, none⟩ (.int .i64 c)).setCell ⟨T, 1, none⟩ (.int .i64 i)) := by
  change (Sem.run Tryz.prog (ReflectliteValue.parts (pV 139 ⟨T, 0, none⟩ 409) >>= _) W) = _
  simp only [Sem.run_bind, Tryz.parts_fa, getLit1, Tryz.parts_f, Result.andThen]
  simp [ReflectliteValue.flagAddr, loadVar, isAgg, underlying, Tryz.underlying139, hb, hb1, Result.andThen, Tryz.direct_f, Tryz.size_f, storeVar, loadCells, loadCellsFrom, Value.cells, storeCells, Addr.add]
  rw [run_store Tryz.prog W ⟨T, 0, none⟩ _ _ (by rfl)]
  simp [ht, hf, Result.andThen]
  rw [run_store Tryz.prog _ ⟨T, 1, none⟩ _ _ (by rfl)]
  simp [setCell_far1, ht1, hf1, Result.andThen]
abbrev faultV (c i : Int) : Value := .iface 139 (.agg #[.int .i64 c, .int .i64 i])
abbrev seenV (b : Nat) : Value := .iface 146 (.pointer (some ⟨b, 0, none⟩))
/-- an error that is the fault (c, i), seen from the words of the list, the outermost first -/
def Chain (w : World) (c i : Int) : List ByteArray → Value → Prop
  | [], v => v = faultV c i
  | s :: r, v => ∃ b inner, v = seenV b ∧ b < w.heap.size ∧ w.cell? ⟨b, 0, none⟩ = some (.string s) ∧ w.cell? ⟨b, 1, none⟩ = some inner ∧ Chain w c i r inner
theorem Chain.mono {w w' : World} (hb : Below w.heap.size w w') {c i : Int} : ∀ {ws v}, Chain w c i ws v → Chain w' c i ws v
  | [], _, h => h
  | s :: r, v, ⟨b, inner, h1, h2, h3, h4, h5⟩ => ⟨b, inner, h1, Nat.lt_of_lt_of_le h2 hb.size, by rw [hb.cell h2]; exact h3, by rw [hb.cell h2]; exact h4, Chain.mono hb h5⟩
theorem Chain.heap {w w' : World} (hb : ∀ k, k < w.heap.size → w'.heap[k]? = w.heap[k]?) (hs : w.heap.size ≤ w'.heap.size) {c i : Int} : ∀ {ws v}, Chain w c i ws v → Chain w' c i ws v
  | [], _, h => h
  | s :: r, v, ⟨b, inner, h1, h2, h3, h4, h5⟩ => ⟨b, inner, h1, Nat.lt_of_lt_of_le h2 hs, by rw [World.cell?_of_block (w := w) (hb b h2)]; exact h3, by rw [World.cell?_of_block (w := w) (hb b h2)]; exact h4, Chain.heap hb hs h5⟩
theorem Chain.alloc {w : World} {o : Obj} {c i : Int} {ws v} (h : Chain w c i ws v) : Chain (w.alloc o) c i ws v :=
  h.mono ((Below.refl _ _).alloc (Nat.le_refl _) o)

theorem new_zero (ip : Int) (w : World) : Calls Tryz.prog 110 #[.int .i64 0, .int .i64 ip] w fun e w' => e = .returned .nilIface ∧ w = w' := by
  go_enter Tryz.func110, Tryz.ntmps110
  go_wp2
  go_ret
  exact ⟨rfl, rfl⟩
theorem new_some (c ip : Int) (hc : (c == 0) = false) (w : World) : Calls Tryz.prog 110 #[.int .i64 c, .int .i64 ip] w fun e w' => e = .returned (faultV c ip) ∧ w = w' := by
  go_enter Tryz.func110, Tryz.ntmps110
  go_wp2
  go_ret
  exact ⟨rfl, rfl⟩
theorem wrap_nil (s : ByteArray) (w : World) : Calls Tryz.prog 112 #[.nilIface, .string s] w fun e w' => e = .returned .nilIface ∧ w = w' := by
  go_enter Tryz.func112, Tryz.ntmps112
  go_wp2
  go_ret
  exact ⟨rfl, rfl⟩
theorem wrap_some (t : TypeId) (x : Value) (s : ByteArray) (w : World) : Calls Tryz.prog 112 #[.iface t x, .string s] w fun e w' => e = .returned (seenV w.heap.size) ∧ w' = w.alloc (.cells #[.string s, .iface t x] 148) := by
  go_enter Tryz.func112, Tryz.ntmps112
  go_wp2
  go_ret
  exact ⟨rfl, rfl⟩
theorem unwrap_any (b : Nat) (inner : Value) (w : World) (h : w.cell? ⟨b, 1, none⟩ = some inner) : Calls Tryz.prog 223 #[.pointer (some ⟨b, 0, none⟩)] w fun e w' => e = .returned inner ∧ w = w' := by
  go_enter Tryz.func223, Tryz.ntmps223
  go_wp2
  go_ret
  exact ⟨rfl, rfl⟩

theorem Chain.iface {w : World} {c i : Int} {ws v} (h : Chain w c i ws v) : ∃ t x, v = .iface t x := by
  cases ws with
  | nil => exact ⟨_, _, h⟩
  | cons s r => obtain ⟨b, inner, rfl, _⟩ := h; exact ⟨_, _, rfl⟩
abbrev rvCells (t : TypeId) (n : Nat) : Obj := .cells #[hd t, .pointer (some ⟨n, 0, none⟩), .int .u64 150] 159
set_option maxHeartbeats 4000000 in
theorem as_f (ws : List ByteArray) (v : Value) (c i : Int) (T n : Nat) (o0 o1 : Value) (w : World) (hch : Chain w c i ws v)
    (hnl : n < w.heap.size) (hTl : T < w.heap.size) (hn : w.cell? ⟨n, 0, none⟩ = some (.pointer (some ⟨T, 0, none⟩)))
    (ht : w.cell? ⟨T, 0, none⟩ = some o0) (ht1 : w.cell? ⟨T, 1, none⟩ = some o1) (hf : w.frozen? ⟨T, 0, none⟩ = false) (hf1 : w.frozen? ⟨T, 1, none⟩ = false) :
    Calls Tryz.prog 147 #[v, .iface 154 (.pointer (some ⟨T, 0, none⟩)), pV 154 ⟨n, 0, none⟩ 150, rty 139] w fun e w' =>
      e = .returned (.bool true) ∧ w' = (((w.setCell ⟨T, 0, none⟩ (.int .i64 c)).setCell ⟨T, 1, none⟩ (.int .i64 i)).alloc (rvCells 154 n)).alloc (.cells #[.int .i64 c, .int .i64 i] 139) := by
  have h1 := @run_callFunc_extern Tryz.prog 157 _ ReflectliteType.typeOf Tryz.func157 (by kernel_rfl) (by kernel_rfl) (by kernel_rfl) (by kernel_rfl)
  have h2 := @run_callFunc_extern Tryz.prog 228 _ (ReflectliteType.relation "AssignableTo" ReflectliteType.assignableTo) Tryz.func228 (by kernel_rfl) (by kernel_rfl) (by kernel_rfl) (by kernel_rfl)
  have h3 := @run_callFunc_extern Tryz.prog 158 _ (ReflectliteValue.method (ReflectliteValue.valueError "reflectlite.Value.Elem" 0) ReflectliteValue.elem) Tryz.func158 (by kernel_rfl) (by kernel_rfl) (by kernel_rfl) (by kernel_rfl)
  have h4 := @run_callFunc_extern Tryz.prog 159 _ ReflectliteValue.set Tryz.func159 (by kernel_rfl) (by kernel_rfl) (by kernel_rfl) (by kernel_rfl)
  have h5 := @run_callFunc_extern Tryz.prog 144 _ (fun args => ReflectliteValue.unpack (args.getD 0 (.tuple #[]))) Tryz.func144 (by kernel_rfl) (by kernel_rfl) (by kernel_rfl) (by kernel_rfl)
  have q1 := Tryz.typeOf_f
  have q2 := Tryz.typeOf_s
  have q3 := Tryz.methodAssignableTo
  have q4 := Tryz.assign_ff
  have q5 := Tryz.assign_sf
  have q6 := Tryz.noAs_s
  have q7 := Tryz.un_s
  have q8 := Tryz.methodUnwrap
  have q9 := Tryz.valueOf_f c i
  have el := Tryz.elemV_pf ⟨n, 0, none⟩ ⟨T, 0, none⟩ (w.alloc (rvCells 154 n)) (by rw [World.cell?_alloc_lt _ _ ⟨n, 0, none⟩ hnl]; exact hn)
  have st := Tryz.set_f T (w.heap.size + 1) c i o0 o1 ((w.alloc (rvCells 154 n)).alloc (.cells #[.int .i64 c, .int .i64 i] 139))
    (by rw [World.cell?_alloc_at _ _ _ _ (by simp)]; rfl) (by rw [World.cell?_alloc_at _ _ _ _ (by simp)]; rfl)
    (by rw [World.cell?_alloc_lt _ _ ⟨T, 0, none⟩ (by simp; omega), World.cell?_alloc_lt _ _ ⟨T, 0, none⟩ hTl]; exact ht)
    (by rw [World.cell?_alloc_lt _ _ ⟨T, 1, none⟩ (by simp; omega), World.cell?_alloc_lt _ _ ⟨T, 1, none⟩ hTl]; exact ht1)
    (by rw [World.frozen?_alloc_old _ _ ⟨T, 0, none⟩ (by simp; omega), World.frozen?_alloc_old _ _ ⟨T, 0, none⟩ (Nat.ne_of_lt hTl)]; exact hf)
    (by rw [World.frozen?_alloc_old _ _ ⟨T, 1, none⟩ (by simp; omega), World.frozen?_alloc_old _ _ ⟨T, 1, none⟩ (Nat.ne_of_lt hTl)]; exact hf1)
  have EL := Lib.hid el
  have ST := Lib.hid st
  have HC := Lib.hid hch
  clear el st hn ht ht1 hf hf1 hch
  go_enter Tryz.func147, Tryz.ntmps147
  go_wp2
  go_loopg [0] ws.length (fun k p wr => ∃ ws' v', k = ws'.length ∧ p = v' ∧ Hid (Chain w c i ws' v') ∧ wr = w.alloc (rvCells 154 n))
  case atStart => exact ⟨ws, v, rfl, rfl, HC, rfl⟩
  case round =>
    obtain ⟨ws', v', rfl, rfl, hc', rfl⟩ := hrel
    cases ws' with
    | nil =>
      obtain rfl := hc'.out
      have el := EL.out
      have st := ST.out
      go_wp2
      go_ret
      exact ⟨rfl, rfl⟩
    | cons s r =>
      obtain ⟨b, inner, rfl, hb, k0, k1, k2⟩ := hc'.out
      obtain ⟨t, x, rfl⟩ := k2.iface
      have K2 := Lib.hid k2
      clear k2 hc' k0
      have hu := fun w' h => unwrap_any b (.iface t x) w' h
      have k1' : (w.alloc (rvCells 154 n)).cell? ⟨b, 1, none⟩ = some (.iface t x) := by rw [World.cell?_alloc_lt _ _ ⟨b, 1, none⟩ hb]; exact k1
      clear k1 EL ST
      go_wp2_with (go_at_call 223; refine (unwrap_any b _ _ k1').mono ?_; rintro e w' ⟨rfl, rfl⟩)
      go_roundg r.length
      case measure => simp
      case rel => exact ⟨r, _, rfl, rfl, K2, rfl⟩
end Go.Proofs.YthnciokmomgfeaaGreatDoor
