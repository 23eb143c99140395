
/- Package inner: cells that are laid elsewhere, or anew. -/
import Derived.Test.YtlomfmilohbgpaaGreatDoorInnStep
namespace Go.Proofs.YtlomfmilohbgpaaGreatDoor.Inn
open Go.RowKit Book Mem Mach
set_option linter.unusedVariables false
set_option linter.unusedSimpArgs false
section
variable {w : World} {xb : Nat} {g at' nx : Int} {gt gb : Nat} {p q r x y z : Int}
theorem add_row'' (g o j : Nat) : (⟨g, o, none⟩ : Addr).add j = ⟨g, o + j, none⟩ := by unfold Addr.add; split <;> simp_all
theorem hu_at {l : List Value} {o j : Nat} {u : Value} (h : (l.drop o)[j]? = some u) : l[o + j]? = some u := by rw [List.getElem?_drop] at h; exact h
section
variable {k : Int} {vt vb : Value} {v : Value} {xs : List Int} {w1 w2 : World} {gl n c : Nat}
/-- a new row is given -/
theorem given_new {c8 : Array Value} {T : TypeId} {w0 : World} (h8 : w0.heap[xb]? = some (.cells c8 T (0, 0))) (hr : w1.heap[gl]? = some (.cells (vals xs).toArray 3 (0, 0))) (hg : w0.heap.size = gl) (hq : Stirred w w0 [xb]) (hb : Below w0.heap.size w0 w1)
    (hR : (w1.setCell ⟨xb, 4, none⟩ (rowV gl xs.length)).heap[xb]? = some (.cells (cells8 k g at' nx vt vb (rowV gl xs.length) (.slice none 0 0)) 103 (0, 0))) {err : Value} :
    XDid w xb k g at' vt vb gt gb err xs [] nx (.returned err) (w1.setCell ⟨xb, 4, none⟩ (rowV gl xs.length)) := by
  have hne : gl ≠ xb := fun e => by have h1 := whole_lt h8; omega
  have ht := Stirred.setCell w1 ⟨xb, 4, none⟩ (rowV gl xs.length)
  have hr' := ht.whole hr (by simpa using hne)
  refine ⟨_, _, [gl], rfl, hR, (hq.trans (Stirred.of_below hb [xb]) (fun k hk => .inl hk)).trans ht (fun k hk => .inl hk), Dep.row hr' rfl, Dep.nil _ _, fun b hb' => ?_⟩
  rw [List.mem_singleton] at hb'
  subst hb'
  exact ⟨whole_lt hr', hne, .inr (.inr (by have := hq.size; omega))⟩
/-- what was taken is given back -/
theorem given_back {w0 : World} {g0 : Nat} (hR : (w0.setCell ⟨xb, 5, none⟩ (rowV g0 n)).heap[xb]? = some (.cells (cells8 k g at' nx vt vb (.slice none 0 0) (rowV g0 n)) 103 (0, 0)))
    (hr : w0.heap[g0]? = some (.cells (vals xs).toArray 3 (0, 0))) (hn : xs.length = n) (hne : g0 ≠ xb) (hg : g0 = gt ∨ g0 = gb) (hq : Stirred w w0 [xb]) {err : Value} :
    XDid w xb k g at' vt vb gt gb err [] xs nx (.returned err) (w0.setCell ⟨xb, 5, none⟩ (rowV g0 n)) := by
  have ht := Stirred.setCell w0 ⟨xb, 5, none⟩ (rowV g0 n)
  have hr' := ht.whole hr (by simpa using hne)
  refine ⟨_, _, [g0], rfl, hR, hq.trans ht (fun k hk => .inl hk), Dep.nil _ _, Dep.row hr' hn, fun b hb' => ?_⟩
  rw [List.mem_singleton] at hb'
  subst hb'
  exact ⟨whole_lt hr', hne, hg.imp id .inl⟩
/-- the deepest one of what was taken is given -/
theorem given_first {w0 : World} {g0 : Nat} (hR : (w0.setCell ⟨xb, 4, none⟩ (.slice (some ⟨g0, 0, none⟩) n c)).heap[xb]? = some (.cells (cells8 k g at' nx vt vb (.slice (some ⟨g0, 0, none⟩) n c) (.slice none 0 0)) 103 (0, 0)))
    (hr : w0.heap[g0]? = some (.cells (vals xs).toArray 3 (0, 0))) (hn : n ≤ xs.length) (hne : g0 ≠ xb) (hg : g0 = gt ∨ g0 = gb) (hq : Stirred w w0 [xb]) {err : Value} :
    XDid w xb k g at' vt vb gt gb err (xs.take n) [] nx (.returned err) (w0.setCell ⟨xb, 4, none⟩ (.slice (some ⟨g0, 0, none⟩) n c)) := by
  have ht := Stirred.setCell w0 ⟨xb, 4, none⟩ (.slice (some ⟨g0, 0, none⟩) n c)
  have hr' := ht.whole hr (by simpa using hne)
  refine ⟨_, _, [g0], rfl, hR, hq.trans ht (fun k hk => .inl hk), Dep.first hr' hn, Dep.nil _ _, fun b hb' => ?_⟩
  rw [List.mem_singleton] at hb'
  subst hb'
  exact ⟨whole_lt hr', hne, hg.imp id .inl⟩
/-- .. and all of it is given back -/
theorem given_both {w0 : World} {g0 n' : Nat} (hR : ((w0.setCell ⟨xb, 5, none⟩ (rowV g0 n')).setCell ⟨xb, 4, none⟩ (.slice (some ⟨g0, 0, none⟩) n c)).heap[xb]? = some (.cells (cells8 k g at' nx vt vb (.slice (some ⟨g0, 0, none⟩) n c) (rowV g0 n')) 103 (0, 0)))
    (hr : w0.heap[g0]? = some (.cells (vals xs).toArray 3 (0, 0))) (hn' : xs.length = n') (hn : n ≤ xs.length) (hne : g0 ≠ xb) (hg : g0 = gt ∨ g0 = gb) (hq : Stirred w w0 [xb]) {err : Value} :
    XDid w xb k g at' vt vb gt gb err (xs.take n) xs nx (.returned err) ((w0.setCell ⟨xb, 5, none⟩ (rowV g0 n')).setCell ⟨xb, 4, none⟩ (.slice (some ⟨g0, 0, none⟩) n c)) := by
  have ht1 := Stirred.setCell w0 ⟨xb, 5, none⟩ (rowV g0 n')
  have ht := ht1.trans (Stirred.setCell _ ⟨xb, 4, none⟩ (.slice (some ⟨g0, 0, none⟩) n c)) (fun k hk => .inl hk)
  have hr' := ht.whole hr (by simpa using hne)
  refine ⟨_, _, [g0], rfl, hR, hq.trans ht (fun k hk => .inl hk), Dep.first hr' hn, Dep.row hr' hn', fun b hb' => ?_⟩
  rw [List.mem_singleton] at hb'
  subst hb'
  exact ⟨whole_lt hr', hne, hg.imp id .inl⟩
/-- a new list is given -/
theorem given_own {c8 : Array Value} {T : TypeId} {B : Nat} (h8 : w2.heap[xb]? = some (.cells c8 T (0, 0))) (ho : Owns w2 B 3 v (vals xs)) (hxb : xb < B) (hB : w.heap.size ≤ B) (hq : Stirred w w2 [xb])
    (hR : (w2.setCell ⟨xb, 4, none⟩ v).heap[xb]? = some (.cells (cells8 k g at' nx vt vb v (.slice none 0 0)) 103 (0, 0))) {err : Value} :
    XDid w xb k g at' vt vb gt gb err xs [] nx (.returned err) (w2.setCell ⟨xb, 4, none⟩ v) := by
  have ht := Stirred.setCell w2 ⟨xb, 4, none⟩ v
  have ho' := ho.touch ht (fun k hk hm => by rw [List.mem_singleton] at hm; have := (ho.block k hk).1; simp only at hm; omega)
  refine ⟨_, _, (blk v).toList, rfl, hR, hq.trans ht (fun k hk => .inl hk), Dep.of_owns ho', Dep.nil _ _, fun b hb' => ?_⟩
  have hb := ho'.block b (by simpa using hb')
  exact ⟨hb.2.1, by omega, .inr (.inr (by omega))⟩
end
set_option maxHeartbeats 8000000 in
set_option maxRecDepth 100000 in
theorem move_nop (h : X8 w xb 47 g at' nx gt gb [] []) : Calls Tryz.prog 93 #[.pointer (some ⟨xb, 0, none⟩)] w (XDid w xb 47 g at' (rowV gt 0) (rowV gb 0) gt gb (.tuple #[]) [] [] nx) := by
  have HX := Lib.hid h
  obtain ⟨c0, c1, c2, c3, c4, c5, c6, c7⟩ := h.cells
  obtain ⟨f4, f5, f7⟩ := h.free
  clear h
  go_enter Tryz.func93, Tryz.ntmps93
  go_wp2_with fail
  go_quiet (fail)
  have HX := Lib.hid (HX.out.drewN nq)
  have HSQ := Lib.hid (Stirred.drewN w nq [xb])
  go_wp2
  go_end0
  exact ⟨_, _, [], rfl, HX.out.box, HSQ.out, Dep.nil _ _, Dep.nil _ _, fun b hb => by cases hb⟩
set_option maxHeartbeats 8000000 in
set_option maxRecDepth 100000 in
theorem move_drop (h : X8 w xb 7 g at' nx gt gb [p] []) : Calls Tryz.prog 93 #[.pointer (some ⟨xb, 0, none⟩)] w (XDid w xb 7 g at' (rowV gt 1) (rowV gb 0) gt gb (.tuple #[]) [] [] nx) := by
  have HX := Lib.hid h
  obtain ⟨c0, c1, c2, c3, c4, c5, c6, c7⟩ := h.cells
  obtain ⟨f4, f5, f7⟩ := h.free
  clear h
  go_enter Tryz.func93, Tryz.ntmps93
  go_wp2_with fail
  go_quiet (fail)
  have HX := Lib.hid (HX.out.drewN nq)
  have HSQ := Lib.hid (Stirred.drewN w nq [xb])
  go_wp2
  go_end0
  exact ⟨_, _, [], rfl, HX.out.box, HSQ.out, Dep.nil _ _, Dep.nil _ _, fun b hb => by cases hb⟩
set_option maxHeartbeats 8000000 in
set_option maxRecDepth 100000 in
theorem move_unloop (h : X8 w xb 40 g at' nx gt gb [] [x, y]) : Calls Tryz.prog 93 #[.pointer (some ⟨xb, 0, none⟩)] w (XDid w xb 40 g at' (rowV gt 0) (rowV gb 2) gt gb (.tuple #[]) [] [] nx) := by
  have HX := Lib.hid h
  obtain ⟨c0, c1, c2, c3, c4, c5, c6, c7⟩ := h.cells
  obtain ⟨f4, f5, f7⟩ := h.free
  clear h
  go_enter Tryz.func93, Tryz.ntmps93
  go_wp2_with fail
  go_quiet (fail)
  have HX := Lib.hid (HX.out.drewN nq)
  have HSQ := Lib.hid (Stirred.drewN w nq [xb])
  go_wp2
  go_end0
  exact ⟨_, _, [], rfl, HX.out.box, HSQ.out, Dep.nil _ _, Dep.nil _ _, fun b hb => by cases hb⟩
set_option maxHeartbeats 8000000 in
set_option maxRecDepth 100000 in
theorem move_lit (h : X8 w xb 2 g at' nx gt gb [] []) : Calls Tryz.prog 93 #[.pointer (some ⟨xb, 0, none⟩)] w (XDid w xb 2 g at' (rowV gt 0) (rowV gb 0) gt gb (.tuple #[]) [g] [] nx) := by
  have HX := Lib.hid h
  obtain ⟨c0, c1, c2, c3, c4, c5, c6, c7⟩ := h.cells
  obtain ⟨f4, f5, f7⟩ := h.free
  clear h
  go_enter Tryz.func93, Tryz.ntmps93
  go_wp2_with fail
  go_quiet (fail)
  have HX := Lib.hid (HX.out.drewN nq)
  have HSQ := Lib.hid (Stirred.drewN w nq [xb])
  obtain ⟨w1, gl, hw1, hgl, HRW, HB1, HG⟩ := row_box (w.drewN nq) [g]
  change (w.drewN nq).alloc (.cells #[.int .i64 g] 3) = w1 at hw1
  change w.heap.size = gl at hgl
  have HX1 := Lib.hid (HX.out.below HB1.out)
  have c4' := HX1.out.cells.2.2.2.2.1
  have f4' := HX1.out.free.1
  have HR := Lib.hid ((set8 HX1.out.box).2.1 (rowV gl 1))
  go_wp2
  go_end0
  exact given_new HX.out.box HRW.out.1 HG.out HSQ.out HB1.out HR.out
set_option maxHeartbeats 8000000 in
set_option maxRecDepth 100000 in
theorem move_toBack (h : X8 w xb 33 g at' nx gt gb [p] []) : Calls Tryz.prog 93 #[.pointer (some ⟨xb, 0, none⟩)] w (XDid w xb 33 g at' (rowV gt 1) (rowV gb 0) gt gb (.tuple #[]) [] [p] nx) := by
  have HX := Lib.hid h
  obtain ⟨c0, c1, c2, c3, c4, c5, c6, c7⟩ := h.cells
  obtain ⟨f4, f5, f7⟩ := h.free
  have HR := Lib.hid (fun n => (set8 (h.drewN n).box).2.2 (rowV gt 1))
  clear h
  go_enter Tryz.func93, Tryz.ntmps93
  go_wp2_with fail
  go_quiet (fail)
  have HX := Lib.hid (HX.out.drewN nq)
  have HSQ := Lib.hid (Stirred.drewN w nq [xb])
  go_wp2
  go_end0
  exact given_back (HR.out _) HX.out.rs rfl (Ne.symm (apart_T HX.out.box HX.out.rs (by decide))) (.inl rfl) HSQ.out
set_option maxHeartbeats 8000000 in
set_option maxRecDepth 100000 in
theorem move_do (h : X8 w xb 36 g at' nx gt gb [q, p] []) : Calls Tryz.prog 93 #[.pointer (some ⟨xb, 0, none⟩)] w (XDid w xb 36 g at' (rowV gt 2) (rowV gb 0) gt gb (.tuple #[]) [] [q, p] nx) := by
  have HX := Lib.hid h
  obtain ⟨c0, c1, c2, c3, c4, c5, c6, c7⟩ := h.cells
  obtain ⟨f4, f5, f7⟩ := h.free
  have HR := Lib.hid (fun n => (set8 (h.drewN n).box).2.2 (rowV gt 2))
  clear h
  go_enter Tryz.func93, Tryz.ntmps93
  go_wp2_with fail
  go_quiet (fail)
  have HX := Lib.hid (HX.out.drewN nq)
  have HSQ := Lib.hid (Stirred.drewN w nq [xb])
  go_wp2
  go_end0
  exact given_back (HR.out _) HX.out.rs rfl (Ne.symm (apart_T HX.out.box HX.out.rs (by decide))) (.inl rfl) HSQ.out
set_option maxHeartbeats 8000000 in
set_option maxRecDepth 100000 in
theorem move_fromBack (h : X8 w xb 34 g at' nx gt gb [] [x]) : Calls Tryz.prog 93 #[.pointer (some ⟨xb, 0, none⟩)] w (XDid w xb 34 g at' (rowV gt 0) (rowV gb 1) gt gb (.tuple #[]) [x] [] nx) := by
  have HX := Lib.hid h
  obtain ⟨c0, c1, c2, c3, c4, c5, c6, c7⟩ := h.cells
  obtain ⟨f4, f5, f7⟩ := h.free
  have HR := Lib.hid (fun n => (set8 (h.drewN n).box).2.1 (.slice (some ⟨gb, 0, none⟩) 1 1))
  clear h
  go_enter Tryz.func93, Tryz.ntmps93
  go_wp2_with fail
  go_quiet (fail)
  have HX := Lib.hid (HX.out.drewN nq)
  have HSQ := Lib.hid (Stirred.drewN w nq [xb])
  go_wp2
  go_end0
  exact given_first (HR.out _) HX.out.rb (by simp) (Ne.symm (apart_T HX.out.box HX.out.rb (by decide))) (.inr rfl) HSQ.out
set_option maxHeartbeats 8000000 in
set_option maxRecDepth 100000 in
theorem move_atBack (h : X8 w xb 35 g at' nx gt gb [] [x]) : Calls Tryz.prog 93 #[.pointer (some ⟨xb, 0, none⟩)] w (XDid w xb 35 g at' (rowV gt 0) (rowV gb 1) gt gb (.tuple #[]) [x] [x] nx) := by
  have HX := Lib.hid h
  obtain ⟨c0, c1, c2, c3, c4, c5, c6, c7⟩ := h.cells
  obtain ⟨f4, f5, f7⟩ := h.free
  have HR := Lib.hid (fun n => (set8 ((set8 (h.drewN n).box).2.2 (rowV gb 1))).2.1 (.slice (some ⟨gb, 0, none⟩) 1 1))
  clear h
  go_enter Tryz.func93, Tryz.ntmps93
  go_wp2_with fail
  go_quiet (fail)
  have HX := Lib.hid (HX.out.drewN nq)
  have HSQ := Lib.hid (Stirred.drewN w nq [xb])
  go_wp2
  go_end0
  exact given_both (HR.out _) HX.out.rb rfl (by simp) (Ne.symm (apart_T HX.out.box HX.out.rb (by decide))) (.inr rfl) HSQ.out
set_option maxHeartbeats 8000000 in
set_option maxRecDepth 100000 in
theorem move_j (h : X8 w xb 39 g at' nx gt gb [] [x, y, z]) : Calls Tryz.prog 93 #[.pointer (some ⟨xb, 0, none⟩)] w (XDid w xb 39 g at' (rowV gt 0) (rowV gb 3) gt gb (.tuple #[]) [x] [x, y, z] nx) := by
  have HX := Lib.hid h
  obtain ⟨c0, c1, c2, c3, c4, c5, c6, c7⟩ := h.cells
  obtain ⟨f4, f5, f7⟩ := h.free
  have HR := Lib.hid (fun n => (set8 ((set8 (h.drewN n).box).2.2 (rowV gb 3))).2.1 (.slice (some ⟨gb, 0, none⟩) 1 3))
  clear h
  go_enter Tryz.func93, Tryz.ntmps93
  go_wp2_with fail
  go_quiet (fail)
  have HX := Lib.hid (HX.out.drewN nq)
  have HSQ := Lib.hid (Stirred.drewN w nq [xb])
  go_wp2
  go_end0
  exact given_both (HR.out _) HX.out.rb rfl (by simp) (Ne.symm (apart_T HX.out.box HX.out.rb (by decide))) (.inr rfl) HSQ.out
set_option maxHeartbeats 8000000 in
set_option maxRecDepth 100000 in
theorem move_dup (h : X8 w xb 6 g at' nx gt gb [p] []) : Calls Tryz.prog 93 #[.pointer (some ⟨xb, 0, none⟩)] w (XDid w xb 6 g at' (rowV gt 1) (rowV gb 0) gt gb (.tuple #[]) [p, p] [] nx) := by
  have HX := Lib.hid h
  obtain ⟨c0, c1, c2, c3, c4, c5, c6, c7⟩ := h.cells
  obtain ⟨f4, f5, f7⟩ := h.free
  obtain ⟨i0, q1, q2, q3, q4⟩ := info_parts Tryz.bkIntInfo
  have HI := Lib.hid (And.intro q1 (And.intro q2 (And.intro q3 q4)))
  clear q1 q2 q3 q4
  have k0 := h.st (j := 0) (x := p) rfl
  clear h
  go_enter Tryz.func93, Tryz.ntmps93
  go_wp2_with fail
  go_quiet (fail)
  have HX := Lib.hid (HX.out.drewN nq)
  have HSQ := Lib.hid (Stirred.drewN w nq [xb])
  obtain ⟨w1, gl, hw1, hgl, HRW, HB1, HG⟩ := row_box (w.drewN nq) [p]
  change (w.drewN nq).alloc (.cells #[.int .i64 p] 3) = w1 at hw1
  change w.heap.size = gl at hgl
  have HX1 := Lib.hid (HX.out.below HB1.out)
  go_wp2_with (refine wpList_append_grows _ rfl _ _ 22 rfl 3 i0 (.int .i64 0) 1 8 Tryz.underlying22 HI.out.1 HI.out.2.1 HI.out.2.2.1 HI.out.2.2.2 rfl (by decide) (some ⟨gt, 0, none⟩) 1 1 (vals [p]) rfl (fun h => by cases h) rfl ?c1 ⟨gl, 0, none⟩ 1 1 (vals [p]) rfl rfl ?c2 (vals_one _) (by decide) (by unfold maxLen; decide) (by decide) ?_)
  case c1 =>
    intro b hb j u hu
    cases hb
    rw [add_row'']
    exact whole_cell HX1.out.rs (show (vals [p]).toArray[0 + j]? = some u from by rw [List.getElem?_toArray]; exact hu_at hu)
  case c2 =>
    intro j u hu
    rw [add_row]
    exact whole_cell HRW.out.1 (by rw [List.getElem?_toArray]; exact hu)
  intro v' w2 hrow hgr
  have HO := Lib.hid (show Owns w2 w1.heap.size 3 v' (vals [p, p]) from Owns.of_row hrow)
  have HT := Lib.hid (Stirred.of_grown hgr)
  obtain ⟨ao, cc, e⟩ := HO.out.slice
  subst e
  rw [vals_length] at HO ⊢
  clear hrow hgr
  have HX2 := Lib.hid (HX1.out.touch HT.out List.not_mem_nil List.not_mem_nil List.not_mem_nil)
  have c4' := HX2.out.cells.2.2.2.2.1
  have f4' := HX2.out.free.1
  have HR := Lib.hid ((set8 HX2.out.box).2.1 (.slice ao 2 cc))
  go_wp2
  go_end0
  exact given_own HX2.out.box HO.out (by have h1 := whole_lt HX1.out.box; exact h1) (by have h2 := HB1.out.size; exact h2) ((HSQ.out.trans (Stirred.of_below HB1.out [xb]) (fun k hk => .inl hk)).trans (HT.out.more (fun k hk => by cases hk)) (fun k hk => .inl hk)) HR.out
set_option maxHeartbeats 8000000 in
set_option maxRecDepth 100000 in
theorem move_copy (h : X8 w xb 9 g at' nx gt gb [q, p] []) : Calls Tryz.prog 93 #[.pointer (some ⟨xb, 0, none⟩)] w (XDid w xb 9 g at' (rowV gt 2) (rowV gb 0) gt gb (.tuple #[]) [q, p, q] [] nx) := by
  have HX := Lib.hid h
  obtain ⟨c0, c1, c2, c3, c4, c5, c6, c7⟩ := h.cells
  obtain ⟨f4, f5, f7⟩ := h.free
  obtain ⟨i0, q1, q2, q3, q4⟩ := info_parts Tryz.bkIntInfo
  have HI := Lib.hid (And.intro q1 (And.intro q2 (And.intro q3 q4)))
  clear q1 q2 q3 q4
  have k0 := h.st (j := 0) (x := q) rfl
  have k1 := h.st (j := 1) (x := p) rfl
  clear h
  go_enter Tryz.func93, Tryz.ntmps93
  go_wp2_with fail
  go_quiet (fail)
  have HX := Lib.hid (HX.out.drewN nq)
  have HSQ := Lib.hid (Stirred.drewN w nq [xb])
  obtain ⟨w1, gl, hw1, hgl, HRW, HB1, HG⟩ := row_box (w.drewN nq) [q]
  change (w.drewN nq).alloc (.cells #[.int .i64 q] 3) = w1 at hw1
  change w.heap.size = gl at hgl
  have HX1 := Lib.hid (HX.out.below HB1.out)
  go_wp2_with (refine wpList_append_grows _ rfl _ _ 22 rfl 3 i0 (.int .i64 0) 1 8 Tryz.underlying22 HI.out.1 HI.out.2.1 HI.out.2.2.1 HI.out.2.2.2 rfl (by decide) (some ⟨gt, 0, none⟩) 2 2 (vals [q, p]) rfl (fun h => by cases h) rfl ?c1 ⟨gl, 0, none⟩ 1 1 (vals [q]) rfl rfl ?c2 (vals_one _) (by decide) (by unfold maxLen; decide) (by decide) ?_)
  case c1 =>
    intro b hb j u hu
    cases hb
    rw [add_row'']
    exact whole_cell HX1.out.rs (show (vals [q, p]).toArray[0 + j]? = some u from by rw [List.getElem?_toArray]; exact hu_at hu)
  case c2 =>
    intro j u hu
    rw [add_row]
    exact whole_cell HRW.out.1 (by rw [List.getElem?_toArray]; exact hu)
  intro v' w2 hrow hgr
  have HO := Lib.hid (show Owns w2 w1.heap.size 3 v' (vals [q, p, q]) from Owns.of_row hrow)
  have HT := Lib.hid (Stirred.of_grown hgr)
  obtain ⟨ao, cc, e⟩ := HO.out.slice
  subst e
  rw [vals_length] at HO ⊢
  clear hrow hgr
  have HX2 := Lib.hid (HX1.out.touch HT.out List.not_mem_nil List.not_mem_nil List.not_mem_nil)
  have c4' := HX2.out.cells.2.2.2.2.1
  have f4' := HX2.out.free.1
  have HR := Lib.hid ((set8 HX2.out.box).2.1 (.slice ao 3 cc))
  go_wp2
  go_end0
  exact given_own HX2.out.box HO.out (by have h1 := whole_lt HX1.out.box; exact h1) (by have h2 := HB1.out.size; exact h2) ((HSQ.out.trans (Stirred.of_below HB1.out [xb]) (fun k hk => .inl hk)).trans (HT.out.more (fun k hk => by cases hk)) (fun k hk => .inl hk)) HR.out
set_option maxHeartbeats 8000000 in
set_option maxRecDepth 100000 in
theorem move_swap (h : X8 w xb 8 g at' nx gt gb [q, p] []) : Calls Tryz.prog 93 #[.pointer (some ⟨xb, 0, none⟩)] w (XDid w xb 8 g at' (rowV gt 2) (rowV gb 0) gt gb (.tuple #[]) [p, q] [] nx) := by
  have HX := Lib.hid h
  obtain ⟨c0, c1, c2, c3, c4, c5, c6, c7⟩ := h.cells
  obtain ⟨f4, f5, f7⟩ := h.free
  obtain ⟨i0, q1, q2, q3, q4⟩ := info_parts Tryz.bkIntInfo
  have HI := Lib.hid (And.intro q1 (And.intro q2 (And.intro q3 q4)))
  clear q1 q2 q3 q4
  have k0 := h.st (j := 0) (x := q) rfl
  have k1 := h.st (j := 1) (x := p) rfl
  clear h
  go_enter Tryz.func93, Tryz.ntmps93
  go_wp2_with fail
  go_quiet (fail)
  have HX := Lib.hid (HX.out.drewN nq)
  have HSQ := Lib.hid (Stirred.drewN w nq [xb])
  obtain ⟨w1, gl, hw1, hgl, HRW, HB1, HG⟩ := row_box (w.drewN nq) [q]
  change (w.drewN nq).alloc (.cells #[.int .i64 q] 3) = w1 at hw1
  change w.heap.size = gl at hgl
  have HX1 := Lib.hid (HX.out.below HB1.out)
  go_wp2_with (refine wpList_append_grows _ rfl _ _ 22 rfl 3 i0 (.int .i64 0) 1 8 Tryz.underlying22 HI.out.1 HI.out.2.1 HI.out.2.2.1 HI.out.2.2.2 rfl (by decide) (some ⟨gt, 1, none⟩) 1 1 (vals [p]) rfl (fun h => by cases h) rfl ?c1 ⟨gl, 0, none⟩ 1 1 (vals [q]) rfl rfl ?c2 (vals_one _) (by decide) (by unfold maxLen; decide) (by decide) ?_)
  case c1 =>
    intro b hb j u hu
    cases hb
    rw [add_row'']
    exact whole_cell HX1.out.rs (show (vals [q, p]).toArray[1 + j]? = some u from by rw [List.getElem?_toArray]; exact hu_at hu)
  case c2 =>
    intro j u hu
    rw [add_row]
    exact whole_cell HRW.out.1 (by rw [List.getElem?_toArray]; exact hu)
  intro v' w2 hrow hgr
  have HO := Lib.hid (show Owns w2 w1.heap.size 3 v' (vals [p, q]) from Owns.of_row hrow)
  have HT := Lib.hid (Stirred.of_grown hgr)
  obtain ⟨ao, cc, e⟩ := HO.out.slice
  subst e
  rw [vals_length] at HO ⊢
  clear hrow hgr
  have HX2 := Lib.hid (HX1.out.touch HT.out List.not_mem_nil List.not_mem_nil List.not_mem_nil)
  have c4' := HX2.out.cells.2.2.2.2.1
  have f4' := HX2.out.free.1
  have HR := Lib.hid ((set8 HX2.out.box).2.1 (.slice ao 2 cc))
  go_wp2
  go_end0
  exact given_own HX2.out.box HO.out (by have h1 := whole_lt HX1.out.box; exact h1) (by have h2 := HB1.out.size; exact h2) ((HSQ.out.trans (Stirred.of_below HB1.out [xb]) (fun k hk => .inl hk)).trans (HT.out.more (fun k hk => by cases hk)) (fun k hk => .inl hk)) HR.out
set_option maxHeartbeats 8000000 in
set_option maxRecDepth 100000 in
theorem move_rot (h : X8 w xb 10 g at' nx gt gb [r, q, p] []) : Calls Tryz.prog 93 #[.pointer (some ⟨xb, 0, none⟩)] w (XDid w xb 10 g at' (rowV gt 3) (rowV gb 0) gt gb (.tuple #[]) [q, p, r] [] nx) := by
  have HX := Lib.hid h
  obtain ⟨c0, c1, c2, c3, c4, c5, c6, c7⟩ := h.cells
  obtain ⟨f4, f5, f7⟩ := h.free
  obtain ⟨i0, q1, q2, q3, q4⟩ := info_parts Tryz.bkIntInfo
  have HI := Lib.hid (And.intro q1 (And.intro q2 (And.intro q3 q4)))
  clear q1 q2 q3 q4
  have k0 := h.st (j := 0) (x := r) rfl
  have k1 := h.st (j := 1) (x := q) rfl
  have k2 := h.st (j := 2) (x := p) rfl
  clear h
  go_enter Tryz.func93, Tryz.ntmps93
  go_wp2_with fail
  go_quiet (fail)
  have HX := Lib.hid (HX.out.drewN nq)
  have HSQ := Lib.hid (Stirred.drewN w nq [xb])
  obtain ⟨w1, gl, hw1, hgl, HRW, HB1, HG⟩ := row_box (w.drewN nq) [r]
  change (w.drewN nq).alloc (.cells #[.int .i64 r] 3) = w1 at hw1
  change w.heap.size = gl at hgl
  have HX1 := Lib.hid (HX.out.below HB1.out)
  go_wp2_with (refine wpList_append_grows _ rfl _ _ 22 rfl 3 i0 (.int .i64 0) 1 8 Tryz.underlying22 HI.out.1 HI.out.2.1 HI.out.2.2.1 HI.out.2.2.2 rfl (by decide) (some ⟨gt, 1, none⟩) 2 2 (vals [q, p]) rfl (fun h => by cases h) rfl ?c1 ⟨gl, 0, none⟩ 1 1 (vals [r]) rfl rfl ?c2 (vals_one _) (by decide) (by unfold maxLen; decide) (by decide) ?_)
  case c1 =>
    intro b hb j u hu
    cases hb
    rw [add_row'']
    exact whole_cell HX1.out.rs (show (vals [r, q, p]).toArray[1 + j]? = some u from by rw [List.getElem?_toArray]; exact hu_at hu)
  case c2 =>
    intro j u hu
    rw [add_row]
    exact whole_cell HRW.out.1 (by rw [List.getElem?_toArray]; exact hu)
  intro v' w2 hrow hgr
  have HO := Lib.hid (show Owns w2 w1.heap.size 3 v' (vals [q, p, r]) from Owns.of_row hrow)
  have HT := Lib.hid (Stirred.of_grown hgr)
  obtain ⟨ao, cc, e⟩ := HO.out.slice
  subst e
  rw [vals_length] at HO ⊢
  clear hrow hgr
  have HX2 := Lib.hid (HX1.out.touch HT.out List.not_mem_nil List.not_mem_nil List.not_mem_nil)
  have c4' := HX2.out.cells.2.2.2.2.1
  have f4' := HX2.out.free.1
  have HR := Lib.hid ((set8 HX2.out.box).2.1 (.slice ao 3 cc))
  go_wp2
  go_end0
  exact given_own HX2.out.box HO.out (by have h1 := whole_lt HX1.out.box; exact h1) (by have h2 := HB1.out.size; exact h2) ((HSQ.out.trans (Stirred.of_below HB1.out [xb]) (fun k hk => .inl hk)).trans (HT.out.more (fun k hk => by cases hk)) (fun k hk => .inl hk)) HR.out
end
end Go.Proofs.YtlomfmilohbgpaaGreatDoor.Inn
