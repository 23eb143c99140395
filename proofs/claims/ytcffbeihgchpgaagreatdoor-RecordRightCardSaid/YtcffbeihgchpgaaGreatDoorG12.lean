/- Package inner: an operation that is done: its box; what became of it. -/
import Derived.Test.YtcffbeihgchpgaaGreatDoorG11
import Derived.ArgAppend
import Derived.BigQuiet
import Derived.Deep.QuietTactic
import Derived.Test.YtcffbeihgchpgaaGreatDoorProg
import Derived.WalkKit
import Derived.LaidEql
import Derived.Stop.Asserts
import Derived.RowKitTokens
import Derived.Below
import Derived.Deep.LoopGhost
import Derived.Lib.Hide
import Derived.Defers
import Derived.Recover
import Derived.RegionTactic
import Derived.ChangeAlike
namespace Go.Proofs.YtcffbeihgchpgaaGreatDoor.Inn
open Go.RowKit Book Mem Mach
set_option linter.unusedVariables false
set_option linter.unusedSimpArgs false
/-- the box of an operation before it is done, and the rows of what it took -/
structure X8 (w : World) (xb : Nat) (k g at' nx : Int) (gt gb : Nat) (ts tb : List Int) : Prop where
  box : w.heap[xb]? = some (.cells (cells8 k g at' nx (rowV gt ts.length) (rowV gb tb.length) (.slice none 0 0) (.slice none 0 0)) 163 (0, 0))
  rs : w.heap[gt]? = some (.cells (vals ts).toArray 3 (0, 0))
  rb : w.heap[gb]? = some (.cells (vals tb).toArray 3 (0, 0))
section
variable {w w' : World} {xb : Nat} {k g at' nx : Int} {gt gb : Nat} {ts tb : List Int}
theorem X8.touch (h : X8 w xb k g at' nx gt gb ts tb) {bs : List Nat} (hs : Stirred w w' bs) (h1 : xb ∉ bs) (h2 : gt ∉ bs) (h3 : gb ∉ bs) : X8 w' xb k g at' nx gt gb ts tb :=
  ⟨hs.whole h.box h1, hs.whole h.rs h2, hs.whole h.rb h3⟩
theorem X8.drewN (h : X8 w xb k g at' nx gt gb ts tb) (n : Nat) : X8 (w.drewN n) xb k g at' nx gt gb ts tb := h.touch (Stirred.drewN w n []) List.not_mem_nil List.not_mem_nil List.not_mem_nil
theorem X8.below (h : X8 w xb k g at' nx gt gb ts tb) (hb : Below w.heap.size w w') : X8 w' xb k g at' nx gt gb ts tb := h.touch (Stirred.of_below hb []) List.not_mem_nil List.not_mem_nil List.not_mem_nil
theorem X8.cells (h : X8 w xb k g at' nx gt gb ts tb) : w.cell? ⟨xb, 0, none⟩ = some (.int .i64 k) ∧ w.cell? ⟨xb, 1, none⟩ = some (.int .i64 g) ∧ w.cell? ⟨xb, 2, none⟩ = some (rowV gt ts.length) ∧ w.cell? ⟨xb, 3, none⟩ = some (rowV gb tb.length) ∧
    w.cell? ⟨xb, 4, none⟩ = some (.slice none 0 0) ∧ w.cell? ⟨xb, 5, none⟩ = some (.slice none 0 0) ∧ w.cell? ⟨xb, 6, none⟩ = some (.int .i64 at') ∧ w.cell? ⟨xb, 7, none⟩ = some (.int .i64 nx) :=
  ⟨whole_cell h.box rfl, whole_cell h.box rfl, whole_cell h.box rfl, whole_cell h.box rfl, whole_cell h.box rfl, whole_cell h.box rfl, whole_cell h.box rfl, whole_cell h.box rfl⟩
theorem X8.free (h : X8 w xb k g at' nx gt gb ts tb) : w.frozen? ⟨xb, 4, none⟩ = false ∧ w.frozen? ⟨xb, 5, none⟩ = false ∧ w.frozen? ⟨xb, 7, none⟩ = false :=
  ⟨whole_frozen h.box 4, whole_frozen h.box 5, whole_frozen h.box 7⟩
theorem X8.st (h : X8 w xb k g at' nx gt gb ts tb) {j : Nat} {x : Int} (hx : ts[j]? = some x) : w.cell? ⟨gt, j, none⟩ = some (.int .i64 x) := whole_cell h.rs (by simp [vals, hx])
theorem X8.bk (h : X8 w xb k g at' nx gt gb ts tb) {j : Nat} {x : Int} (hx : tb[j]? = some x) : w.cell? ⟨gb, j, none⟩ = some (.int .i64 x) := whole_cell h.rb (by simp [vals, hx])
end
/-- what a slice reads as hangs on these blocks alone -/
def Dep (w : World) (v : Value) (xs : List Int) (L : List Nat) : Prop := ∀ w' : World, (∀ k ∈ L, w'.heap[k]? = w.heap[k]?) → Reads w' v xs
theorem Dep.nil (w : World) (L : List Nat) : Dep w (.slice none 0 0) [] L := fun w' _ => ⟨none, 0, rfl, fun j x h => by cases h⟩
theorem Dep.more {w : World} {v : Value} {xs : List Int} {L L' : List Nat} (h : Dep w v xs L) (hl : ∀ k ∈ L, k ∈ L') : Dep w v xs L' := fun w' hk => h w' (fun k hm => hk k (hl k hm))
theorem Dep.of_owns {w : World} {B : Nat} {v : Value} {xs : List Int} (h : Owns w B 3 v (vals xs)) : Dep w v xs (blk v).toList := fun w' hk => Reads.of_owns (h.same (fun k e => hk k (by simp [e])))
theorem Dep.row {w : World} {g : Nat} {xs : List Int} (h : w.heap[g]? = some (.cells (vals xs).toArray 3 (0, 0))) {n : Nat} (hn : xs.length = n) : Dep w (rowV g n) xs [g] := fun w' hk =>
  Row.reads (B := 0) ⟨by rw [hk g (List.mem_singleton_self g)]; exact h, Nat.zero_le _⟩ hn
theorem Dep.first {w : World} {g : Nat} {xs : List Int} (h : w.heap[g]? = some (.cells (vals xs).toArray 3 (0, 0))) {n c : Nat} (hn : n ≤ xs.length) : Dep w (.slice (some ⟨g, 0, none⟩) n c) (xs.take n) [g] := fun w' hk => by
  have hr : Row w' 0 g xs := ⟨by rw [hk g (List.mem_singleton_self g)]; exact h, Nat.zero_le _⟩
  exact (Row.reads hr rfl).take n c hn
theorem Dep.reads {w w' : World} {v : Value} {xs : List Int} {L D : List Nat} (h : Dep w v xs L) (hL : ∀ k ∈ L, k < w.heap.size ∧ k ∉ D) (hs : Stirred w w' D) : Reads w' v xs := h w' (fun k hk => hs.block k (hL k hk).1 (hL k hk).2)
/-- an operation that is done, of which no machine knows -/
def XDid (w : World) (xb : Nat) (k g at' : Int) (vt vb : Value) (gt gb : Nat) (err : Value) (gs gbl : List Int) (nx' : Int) (e : Ending) (w' : World) : Prop :=
  ∃ vgs vgb L, e = .returned err ∧ w'.heap[xb]? = some (.cells (cells8 k g at' nx' vt vb vgs vgb) 163 (0, 0)) ∧ Stirred w w' [xb] ∧ Dep w' vgs gs L ∧ Dep w' vgb gbl L ∧ ∀ b ∈ L, b < w'.heap.size ∧ b ≠ xb ∧ (b = gt ∨ b = gb ∨ w.heap.size ≤ b)
theorem set8 {w : World} {xb : Nat} {k g at' nx : Int} {vt vb vgs vgb : Value} {T : TypeId} (h : w.heap[xb]? = some (.cells (cells8 k g at' nx vt vb vgs vgb) T (0, 0))) :
    (∀ v : Int, (w.setCell ⟨xb, 7, none⟩ (.int .i64 v)).heap[xb]? = some (.cells (cells8 k g at' v vt vb vgs vgb) T (0, 0))) ∧
    (∀ v : Value, (w.setCell ⟨xb, 4, none⟩ v).heap[xb]? = some (.cells (cells8 k g at' nx vt vb v vgb) T (0, 0))) ∧
    (∀ v : Value, (w.setCell ⟨xb, 5, none⟩ v).heap[xb]? = some (.cells (cells8 k g at' nx vt vb vgs v) T (0, 0))) :=
  ⟨fun v => by rw [whole_set h]; rfl, fun v => by rw [whole_set h]; rfl, fun v => by rw [whole_set h]; rfl⟩
/-- two blocks of other types are not one -/
theorem apart_T {w : World} {a b : Nat} {c c' : Array Value} {T T' : TypeId} (h : w.heap[a]? = some (.cells c T (0, 0))) (h' : w.heap[b]? = some (.cells c' T' (0, 0))) (hT : T ≠ T') : a ≠ b := fun e => by
  subst e
  rw [h] at h'
  simp only [Option.some.injEq, Obj.cells.injEq] at h'
  exact hT h'.2.1
end Go.Proofs.YtcffbeihgchpgaaGreatDoor.Inn
/- Package inner: cells that are laid elsewhere, or anew. -/
namespace Go.Proofs.YtcffbeihgchpgaaGreatDoor.Inn
open Go.RowKit Book Mem Mach
set_option linter.unusedVariables false
set_option linter.unusedSimpArgs false
section
variable {w : World} {xb : Nat} {g at' nx : Int} {gt gb : Nat} {p q r x y z : Int}
theorem add_row'' (g o j : Nat) : (⟨g, o, none⟩ : Addr).add j = ⟨g, o + j, none⟩ := by unfold Addr.add; split <;> simp_all
theorem hu_at {l : List Value} {o j : Nat} {u : Value} (h : (l.drop o)[j]? = some u) : l[o + j]? = some u := by rw [List.getElem?_drop] at h; exact h
section
variable {k : Int} {vt vb : Value} {v : Value} {xs : List Int} {w1 w2 : World} {gl n c : Nat}
/-- a new row is given -/
theorem given_new {c8 : Array Value} {T : TypeId} {w0 : World} (h8 : w0.heap[xb]? = some (.cells c8 T (0, 0))) (hr : w1.heap[gl]? = some (.cells (vals xs).toArray 3 (0, 0))) (hg : w0.heap.size = gl) (hq : Stirred w w0 [xb]) (hb : Below w0.heap.size w0 w1)
    (hR : (w1.setCell ⟨xb, 4, none⟩ (rowV gl xs.length)).heap[xb]? = some (.cells (cells8 k g at' nx vt vb (rowV gl xs.length) (.slice none 0 0)) 163 (0, 0))) {err : Value} :
    XDid w xb k g at' vt vb gt gb err xs [] nx (.returned err) (w1.setCell ⟨xb, 4, none⟩ (rowV gl xs.length)) := by
  have hne : gl ≠ xb := fun e => by have h1 := whole_lt h8; omega
  have ht := Stirred.setCell w1 ⟨xb, 4, none⟩ (rowV gl xs.length)
  have hr' := ht.whole hr (by simpa using hne)
  refine ⟨_, _, [gl], rfl, hR, (hq.trans (Stirred.of_below hb [xb]) (fun k hk => .inl hk)).trans ht (fun k hk => .inl hk), Dep.row hr' rfl, Dep.nil _ _, fun b hb' => ?_⟩
  rw [List.mem_singleton] at hb'
  subst hb'
  exact ⟨whole_lt hr', hne, .inr (.inr (by have := hq.size; omega))⟩
/-- what was taken is given back -/
theorem given_back {w0 : World} {g0 : Nat} (hR : (w0.setCell ⟨xb, 5, none⟩ (rowV g0 n)).heap[xb]? = some (.cells (cells8 k g at' nx vt vb (.slice none 0 0) (rowV g0 n)) 163 (0, 0)))
    (hr : w0.heap[g0]? = some (.cells (vals xs).toArray 3 (0, 0))) (hn : xs.length = n) (hne : g0 ≠ xb) (hg : g0 = gt ∨ g0 = gb) (hq : Stirred w w0 [xb]) {err : Value} :
    XDid w xb k g at' vt vb gt gb err [] xs nx (.returned err) (w0.setCell ⟨xb, 5, none⟩ (rowV g0 n)) := by
  have ht := Stirred.setCell w0 ⟨xb, 5, none⟩ (rowV g0 n)
  have hr' := ht.whole hr (by simpa using hne)
  refine ⟨_, _, [g0], rfl, hR, hq.trans ht (fun k hk => .inl hk), Dep.nil _ _, Dep.row hr' hn, fun b hb' => ?_⟩
  rw [List.mem_singleton] at hb'
  subst hb'
  exact ⟨whole_lt hr', hne, hg.imp id .inl⟩
/-- the deepest one of what was taken is given -/
theorem given_first {w0 : World} {g0 : Nat} (hR : (w0.setCell ⟨xb, 4, none⟩ (.slice (some ⟨g0, 0, none⟩) n c)).heap[xb]? = some (.cells (cells8 k g at' nx vt vb (.slice (some ⟨g0, 0, none⟩) n c) (.slice none 0 0)) 163 (0, 0)))
    (hr : w0.heap[g0]? = some (.cells (vals xs).toArray 3 (0, 0))) (hn : n ≤ xs.length) (hne : g0 ≠ xb) (hg : g0 = gt ∨ g0 = gb) (hq : Stirred w w0 [xb]) {err : Value} :
    XDid w xb k g at' vt vb gt gb err (xs.take n) [] nx (.returned err) (w0.setCell ⟨xb, 4, none⟩ (.slice (some ⟨g0, 0, none⟩) n c)) := by
  have ht := Stirred.setCell w0 ⟨xb, 4, none⟩ (.slice (some ⟨g0, 0, none⟩) n c)
  have hr' := ht.whole hr (by simpa using hne)
  refine ⟨_, _, [g0], rfl, hR, hq.trans ht (fun k hk => .inl hk), Dep.first hr' hn, Dep.nil _ _, fun b hb' => ?_⟩
  rw [List.mem_singleton] at hb'
  subst hb'
  exact ⟨whole_lt hr', hne, hg.imp id .inl⟩
/-- .. and all of it is given back -/
theorem given_both {w0 : World} {g0 n' : Nat} (hR : ((w0.setCell ⟨xb, 5, none⟩ (rowV g0 n')).setCell ⟨xb, 4, none⟩ (.slice (some ⟨g0, 0, none⟩) n c)).heap[xb]? = some (.cells (cells8 k g at' nx vt vb (.slice (some ⟨g0, 0, none⟩) n c) (rowV g0 n')) 163 (0, 0)))
    (hr : w0.heap[g0]? = some (.cells (vals xs).toArray 3 (0, 0))) (hn' : xs.length = n') (hn : n ≤ xs.length) (hne : g0 ≠ xb) (hg : g0 = gt ∨ g0 = gb) (hq : Stirred w w0 [xb]) {err : Value} :
    XDid w xb k g at' vt vb gt gb err (xs.take n) xs nx (.returned err) ((w0.setCell ⟨xb, 5, none⟩ (rowV g0 n')).setCell ⟨xb, 4, none⟩ (.slice (some ⟨g0, 0, none⟩) n c)) := by
  have ht1 := Stirred.setCell w0 ⟨xb, 5, none⟩ (rowV g0 n')
  have ht := ht1.trans (Stirred.setCell _ ⟨xb, 4, none⟩ (.slice (some ⟨g0, 0, none⟩) n c)) (fun k hk => .inl hk)
  have hr' := ht.whole hr (by simpa using hne)
  refine ⟨_, _, [g0], rfl, hR, hq.trans ht (fun k hk => .inl hk), Dep.first hr' hn, Dep.row hr' hn', fun b hb' => ?_⟩
  rw [List.mem_singleton] at hb'
  subst hb'
  exact ⟨whole_lt hr', hne, hg.imp id .inl⟩
/-- a new list is given -/
theorem given_own {c8 : Array Value} {T : TypeId} {B : Nat} (h8 : w2.heap[xb]? = some (.cells c8 T (0, 0))) (ho : Owns w2 B 3 v (vals xs)) (hxb : xb < B) (hB : w.heap.size ≤ B) (hq : Stirred w w2 [xb])
    (hR : (w2.setCell ⟨xb, 4, none⟩ v).heap[xb]? = some (.cells (cells8 k g at' nx vt vb v (.slice none 0 0)) 163 (0, 0))) {err : Value} :
    XDid w xb k g at' vt vb gt gb err xs [] nx (.returned err) (w2.setCell ⟨xb, 4, none⟩ v) := by
  have ht := Stirred.setCell w2 ⟨xb, 4, none⟩ v
  have ho' := ho.touch ht (fun k hk hm => by rw [List.mem_singleton] at hm; have := (ho.block k hk).1; simp only at hm; omega)
  refine ⟨_, _, (blk v).toList, rfl, hR, hq.trans ht (fun k hk => .inl hk), Dep.of_owns ho', Dep.nil _ _, fun b hb' => ?_⟩
  have hb := ho'.block b (by simpa using hb')
  exact ⟨hb.2.1, by omega, .inr (.inr (by omega))⟩
end
set_option maxHeartbeats 8000000 in
set_option maxRecDepth 100000 in
theorem move_nop (h : X8 w xb 47 g at' nx gt gb [] []) : Calls Tryz.prog 167 #[.pointer (some ⟨xb, 0, none⟩)] w (XDid w xb 47 g at' (rowV gt 0) (rowV gb 0) gt gb (.tuple #[]) [] [] nx) := by
  have HX := Lib.hid h
  obtain ⟨c0, c1, c2, c3, c4, c5, c6, c7⟩ := h.cells
  obtain ⟨f4, f5, f7⟩ := h.free
  clear h
  go_enter Tryz.func167, Tryz.ntmps167
  go_wp2_with fail
  go_quiet (fail)
  have HX := Lib.hid (HX.out.drewN nq)
  have HSQ := Lib.hid (Stirred.drewN w nq [xb])
  go_wp2
  go_end0
  exact ⟨_, _, [], rfl, HX.out.box, HSQ.out, Dep.nil _ _, Dep.nil _ _, fun b hb => by cases hb⟩
set_option maxHeartbeats 8000000 in
set_option maxRecDepth 100000 in
theorem move_drop (h : X8 w xb 7 g at' nx gt gb [p] []) : Calls Tryz.prog 167 #[.pointer (some ⟨xb, 0, none⟩)] w (XDid w xb 7 g at' (rowV gt 1) (rowV gb 0) gt gb (.tuple #[]) [] [] nx) := by
  have HX := Lib.hid h
  obtain ⟨c0, c1, c2, c3, c4, c5, c6, c7⟩ := h.cells
  obtain ⟨f4, f5, f7⟩ := h.free
  clear h
  go_enter Tryz.func167, Tryz.ntmps167
  go_wp2_with fail
  go_quiet (fail)
  have HX := Lib.hid (HX.out.drewN nq)
  have HSQ := Lib.hid (Stirred.drewN w nq [xb])
  go_wp2
  go_end0
  exact ⟨_, _, [], rfl, HX.out.box, HSQ.out, Dep.nil _ _, Dep.nil _ _, fun b hb => by cases hb⟩
set_option maxHeartbeats 8000000 in
set_option maxRecDepth 100000 in
theorem move_unloop (h : X8 w xb 40 g at' nx gt gb [] [x, y]) : Calls Tryz.prog 167 #[.pointer (some ⟨xb, 0, none⟩)] w (XDid w xb 40 g at' (rowV gt 0) (rowV gb 2) gt gb (.tuple #[]) [] [] nx) := by
  have HX := Lib.hid h
  obtain ⟨c0, c1, c2, c3, c4, c5, c6, c7⟩ := h.cells
  obtain ⟨f4, f5, f7⟩ := h.free
  clear h
  go_enter Tryz.func167, Tryz.ntmps167
  go_wp2_with fail
  go_quiet (fail)
  have HX := Lib.hid (HX.out.drewN nq)
  have HSQ := Lib.hid (Stirred.drewN w nq [xb])
  go_wp2
  go_end0
  exact ⟨_, _, [], rfl, HX.out.box, HSQ.out, Dep.nil _ _, Dep.nil _ _, fun b hb => by cases hb⟩
set_option maxHeartbeats 8000000 in
set_option maxRecDepth 100000 in
theorem move_lit (h : X8 w xb 2 g at' nx gt gb [] []) : Calls Tryz.prog 167 #[.pointer (some ⟨xb, 0, none⟩)] w (XDid w xb 2 g at' (rowV gt 0) (rowV gb 0) gt gb (.tuple #[]) [g] [] nx) := by
  have HX := Lib.hid h
  obtain ⟨c0, c1, c2, c3, c4, c5, c6, c7⟩ := h.cells
  obtain ⟨f4, f5, f7⟩ := h.free
  clear h
  go_enter Tryz.func167, Tryz.ntmps167
  go_wp2_with fail
  go_quiet (fail)
  have HX := Lib.hid (HX.out.drewN nq)
  have HSQ := Lib.hid (Stirred.drewN w nq [xb])
  obtain ⟨w1, gl, hw1, hgl, HRW, HB1, HG⟩ := row_box (w.drewN nq) [g]
  change (w.drewN nq).alloc (.cells #[.int .i64 g] 3) = w1 at hw1
  change w.heap.size = gl at hgl
  have HX1 := Lib.hid (HX.out.below HB1.out)
  have c4' := HX1.out.cells.2.2.2.2.1
  have f4' := HX1.out.free.1
  have HR := Lib.hid ((set8 HX1.out.box).2.1 (rowV gl 1))
  go_wp2
  go_end0
  exact given_new HX.out.box HRW.out.1 HG.out HSQ.out HB1.out HR.out
set_option maxHeartbeats 8000000 in
set_option maxRecDepth 100000 in
theorem move_toBack (h : X8 w xb 33 g at' nx gt gb [p] []) : Calls Tryz.prog 167 #[.pointer (some ⟨xb, 0, none⟩)] w (XDid w xb 33 g at' (rowV gt 1) (rowV gb 0) gt gb (.tuple #[]) [] [p] nx) := by
  have HX := Lib.hid h
  obtain ⟨c0, c1, c2, c3, c4, c5, c6, c7⟩ := h.cells
  obtain ⟨f4, f5, f7⟩ := h.free
  have HR := Lib.hid (fun n => (set8 (h.drewN n).box).2.2 (rowV gt 1))
  clear h
  go_enter Tryz.func167, Tryz.ntmps167
  go_wp2_with fail
  go_quiet (fail)
  have HX := Lib.hid (HX.out.drewN nq)
  have HSQ := Lib.hid (Stirred.drewN w nq [xb])
  go_wp2
  go_end0
  exact given_back (HR.out _) HX.out.rs rfl (Ne.symm (apart_T HX.out.box HX.out.rs (by decide))) (.inl rfl) HSQ.out
set_option maxHeartbeats 8000000 in
set_option maxRecDepth 100000 in
theorem move_do (h : X8 w xb 36 g at' nx gt gb [q, p] []) : Calls Tryz.prog 167 #[.pointer (some ⟨xb, 0, none⟩)] w (XDid w xb 36 g at' (rowV gt 2) (rowV gb 0) gt gb (.tuple #[]) [] [q, p] nx) := by
  have HX := Lib.hid h
  obtain ⟨c0, c1, c2, c3, c4, c5, c6, c7⟩ := h.cells
  obtain ⟨f4, f5, f7⟩ := h.free
  have HR := Lib.hid (fun n => (set8 (h.drewN n).box).2.2 (rowV gt 2))
  clear h
  go_enter Tryz.func167, Tryz.ntmps167
  go_wp2_with fail
  go_quiet (fail)
  have HX := Lib.hid (HX.out.drewN nq)
  have HSQ := Lib.hid (Stirred.drewN w nq [xb])
  go_wp2
  go_end0
  exact given_back (HR.out _) HX.out.rs rfl (Ne.symm (apart_T HX.out.box HX.out.rs (by decide))) (.inl rfl) HSQ.out
set_option maxHeartbeats 8000000 in
set_option maxRecDepth 100000 in
theorem move_fromBack (h : X8 w xb 34 g at' nx gt gb [] [x]) : Calls Tryz.prog 167 #[.pointer (some ⟨xb, 0, none⟩)] w (XDid w xb 34 g at' (rowV gt 0) (rowV gb 1) gt gb (.tuple #[]) [x] [] nx) := by
  have HX := Lib.hid h
  obtain ⟨c0, c1, c2, c3, c4, c5, c6, c7⟩ := h.cells
  obtain ⟨f4, f5, f7⟩ := h.free
  have HR := Lib.hid (fun n => (set8 (h.drewN n).box).2.1 (.slice (some ⟨gb, 0, none⟩) 1 1))
  clear h
  go_enter Tryz.func167, Tryz.ntmps167
  go_wp2_with fail
  go_quiet (fail)
  have HX := Lib.hid (HX.out.drewN nq)
  have HSQ := Lib.hid (Stirred.drewN w nq [xb])
  go_wp2
  go_end0
  exact given_first (HR.out _) HX.out.rb (by simp) (Ne.symm (apart_T HX.out.box HX.out.rb (by decide))) (.inr rfl) HSQ.out
set_option maxHeartbeats 8000000 in
set_option maxRecDepth 100000 in
theorem move_atBack (h : X8 w xb 35 g at' nx gt gb [] [x]) : Calls Tryz.prog 167 #[.pointer (some ⟨xb, 0, none⟩)] w (XDid w xb 35 g at' (rowV gt 0) (rowV gb 1) gt gb (.tuple #[]) [x] [x] nx) := by
  have HX := Lib.hid h
  obtain ⟨c0, c1, c2, c3, c4, c5, c6, c7⟩ := h.cells
  obtain ⟨f4, f5, f7⟩ := h.free
  have HR := Lib.hid (fun n => (set8 ((set8 (h.drewN n).box).2.2 (rowV gb 1))).2.1 (.slice (some ⟨gb, 0, none⟩) 1 1))
  clear h
  go_enter Tryz.func167, Tryz.ntmps167
  go_wp2_with fail
  go_quiet (fail)
  have HX := Lib.hid (HX.out.drewN nq)
  have HSQ := Lib.hid (Stirred.drewN w nq [xb])
  go_wp2
  go_end0
  exact given_both (HR.out _) HX.out.rb rfl (by simp) (Ne.symm (apart_T HX.out.box HX.out.rb (by decide))) (.inr rfl) HSQ.out
set_option maxHeartbeats 8000000 in
set_option maxRecDepth 100000 in
theorem move_j (h : X8 w xb 39 g at' nx gt gb [] [x, y, z]) : Calls Tryz.prog 167 #[.pointer (some ⟨xb, 0, none⟩)] w (XDid w xb 39 g at' (rowV gt 0) (rowV gb 3) gt gb (.tuple #[]) [x] [x, y, z] nx) := by
  have HX := Lib.hid h
  obtain ⟨c0, c1, c2, c3, c4, c5, c6, c7⟩ := h.cells
  obtain ⟨f4, f5, f7⟩ := h.free
  have HR := Lib.hid (fun n => (set8 ((set8 (h.drewN n).box).2.2 (rowV gb 3))).2.1 (.slice (some ⟨gb, 0, none⟩) 1 3))
  clear h
  go_enter Tryz.func167, Tryz.ntmps167
  go_wp2_with fail
  go_quiet (fail)
  have HX := Lib.hid (HX.out.drewN nq)
  have HSQ := Lib.hid (Stirred.drewN w nq [xb])
  go_wp2
  go_end0
  exact given_both (HR.out _) HX.out.rb rfl (by simp) (Ne.symm (apart_T HX.out.box HX.out.rb (by decide))) (.inr rfl) HSQ.out
set_option maxHeartbeats 8000000 in
set_option maxRecDepth 100000 in
theorem move_dup (h : X8 w xb 6 g at' nx gt gb [p] []) : Calls Tryz.prog 167 #[.pointer (some ⟨xb, 0, none⟩)] w (XDid w xb 6 g at' (rowV gt 1) (rowV gb 0) gt gb (.tuple #[]) [p, p] [] nx) := by
  have HX := Lib.hid h
  obtain ⟨c0, c1, c2, c3, c4, c5, c6, c7⟩ := h.cells
  obtain ⟨f4, f5, f7⟩ := h.free
  obtain ⟨i0, q1, q2, q3, q4⟩ := info_parts Tryz.bkIntInfo
  have HI := Lib.hid (And.intro q1 (And.intro q2 (And.intro q3 q4)))
  clear q1 q2 q3 q4
  have k0 := h.st (j := 0) (x := p) rfl
  clear h
  go_enter Tryz.func167, Tryz.ntmps167
  go_wp2_with fail
  go_quiet (fail)
  have HX := Lib.hid (HX.out.drewN nq)
  have HSQ := Lib.hid (Stirred.drewN w nq [xb])
  obtain ⟨w1, gl, hw1, hgl, HRW, HB1, HG⟩ := row_box (w.drewN nq) [p]
  change (w.drewN nq).alloc (.cells #[.int .i64 p] 3) = w1 at hw1
  change w.heap.size = gl at hgl
  have HX1 := Lib.hid (HX.out.below HB1.out)
  go_wp2_with (refine wpList_append_grows _ rfl _ _ 22 rfl 3 i0 (.int .i64 0) 1 8 Tryz.underlying22 HI.out.1 HI.out.2.1 HI.out.2.2.1 HI.out.2.2.2 rfl (by decide) (some ⟨gt, 0, none⟩) 1 1 (vals [p]) rfl (fun h => by cases h) rfl ?c1 ⟨gl, 0, none⟩ 1 1 (vals [p]) rfl rfl ?c2 (vals_one _) (by decide) (by unfold maxLen; decide) (by decide) ?_)
  case c1 =>
    intro b hb j u hu
    cases hb
    rw [add_row'']
    exact whole_cell HX1.out.rs (show (vals [p]).toArray[0 + j]? = some u from by rw [List.getElem?_toArray]; exact hu_at hu)
  case c2 =>
    intro j u hu
    rw [add_row]
    exact whole_cell HRW.out.1 (by rw [List.getElem?_toArray]; exact hu)
  intro v' w2 hrow hgr
  have HO := Lib.hid (show Owns w2 w1.heap.size 3 v' (vals [p, p]) from Owns.of_row hrow)
  have HT := Lib.hid (Stirred.of_grown hgr)
  obtain ⟨ao, cc, e⟩ := HO.out.slice
  subst e
  rw [vals_length] at HO ⊢
  clear hrow hgr
  have HX2 := Lib.hid (HX1.out.touch HT.out List.not_mem_nil List.not_mem_nil List.not_mem_nil)
  have c4' := HX2.out.cells.2.2.2.2.1
  have f4' := HX2.out.free.1
  have HR := Lib.hid ((set8 HX2.out.box).2.1 (.slice ao 2 cc))
  go_wp2
  go_end0
  exact given_own HX2.out.box HO.out (by have h1 := whole_lt HX1.out.box; exact h1) (by have h2 := HB1.out.size; exact h2) ((HSQ.out.trans (Stirred.of_below HB1.out [xb]) (fun k hk => .inl hk)).trans (HT.out.more (fun k hk => by cases hk)) (fun k hk => .inl hk)) HR.out
set_option maxHeartbeats 8000000 in
set_option maxRecDepth 100000 in
theorem move_copy (h : X8 w xb 9 g at' nx gt gb [q, p] []) : Calls Tryz.prog 167 #[.pointer (some ⟨xb, 0, none⟩)] w (XDid w xb 9 g at' (rowV gt 2) (rowV gb 0) gt gb (.tuple #[]) [q, p, q] [] nx) := by
  have HX := Lib.hid h
  obtain ⟨c0, c1, c2, c3, c4, c5, c6, c7⟩ := h.cells
  obtain ⟨f4, f5, f7⟩ := h.free
  obtain ⟨i0, q1, q2, q3, q4⟩ := info_parts Tryz.bkIntInfo
  have HI := Lib.hid (And.intro q1 (And.intro q2 (And.intro q3 q4)))
  clear q1 q2 q3 q4
  have k0 := h.st (j := 0) (x := q) rfl
  have k1 := h.st (j := 1) (x := p) rfl
  clear h
  go_enter Tryz.func167, Tryz.ntmps167
  go_wp2_with fail
  go_quiet (fail)
  have HX := Lib.hid (HX.out.drewN nq)
  have HSQ := Lib.hid (Stirred.drewN w nq [xb])
  obtain ⟨w1, gl, hw1, hgl, HRW, HB1, HG⟩ := row_box (w.drewN nq) [q]
  change (w.drewN nq).alloc (.cells #[.int .i64 q] 3) = w1 at hw1
  change w.heap.size = gl at hgl
  have HX1 := Lib.hid (HX.out.below HB1.out)
  go_wp2_with (refine wpList_append_grows _ rfl _ _ 22 rfl 3 i0 (.int .i64 0) 1 8 Tryz.underlying22 HI.out.1 HI.out.2.1 HI.out.2.2.1 HI.out.2.2.2 rfl (by decide) (some ⟨gt, 0, none⟩) 2 2 (vals [q, p]) rfl (fun h => by cases h) rfl ?c1 ⟨gl, 0, none⟩ 1 1 (vals [q]) rfl rfl ?c2 (vals_one _) (by decide) (by unfold maxLen; decide) (by decide) ?_)
  case c1 =>
    intro b hb j u hu
    cases hb
    rw [add_row'']
    exact whole_cell HX1.out.rs (show (vals [q, p]).toArray[0 + j]? = some u from by rw [List.getElem?_toArray]; exact hu_at hu)
  case c2 =>
    intro j u hu
    rw [add_row]
    exact whole_cell HRW.out.1 (by rw [List.getElem?_toArray]; exact hu)
  intro v' w2 hrow hgr
  have HO := Lib.hid (show Owns w2 w1.heap.size 3 v' (vals [q, p, q]) from Owns.of_row hrow)
  have HT := Lib.hid (Stirred.of_grown hgr)
  obtain ⟨ao, cc, e⟩ := HO.out.slice
  subst e
  rw [vals_length] at HO ⊢
  clear hrow hgr
  have HX2 := Lib.hid (HX1.out.touch HT.out List.not_mem_nil List.not_mem_nil List.not_mem_nil)
  have c4' := HX2.out.cells.2.2.2.2.1
  have f4' := HX2.out.free.1
  have HR := Lib.hid ((set8 HX2.out.box).2.1 (.slice ao 3 cc))
  go_wp2
  go_end0
  exact given_own HX2.out.box HO.out (by have h1 := whole_lt HX1.out.box; exact h1) (by have h2 := HB1.out.size; exact h2) ((HSQ.out.trans (Stirred.of_below HB1.out [xb]) (fun k hk => .inl hk)).trans (HT.out.more (fun k hk => by cases hk)) (fun k hk => .inl hk)) HR.out
set_option maxHeartbeats 8000000 in
set_option maxRecDepth 100000 in
theorem move_swap (h : X8 w xb 8 g at' nx gt gb [q, p] []) : Calls Tryz.prog 167 #[.pointer (some ⟨xb, 0, none⟩)] w (XDid w xb 8 g at' (rowV gt 2) (rowV gb 0) gt gb (.tuple #[]) [p, q] [] nx) := by
  have HX := Lib.hid h
  obtain ⟨c0, c1, c2, c3, c4, c5, c6, c7⟩ := h.cells
  obtain ⟨f4, f5, f7⟩ := h.free
  obtain ⟨i0, q1, q2, q3, q4⟩ := info_parts Tryz.bkIntInfo
  have HI := Lib.hid (And.intro q1 (And.intro q2 (And.intro q3 q4)))
  clear q1 q2 q3 q4
  have k0 := h.st (j := 0) (x := q) rfl
  have k1 := h.st (j := 1) (x := p) rfl
  clear h
  go_enter Tryz.func167, Tryz.ntmps167
  go_wp2_with fail
  go_quiet (fail)
  have HX := Lib.hid (HX.out.drewN nq)
  have HSQ := Lib.hid (Stirred.drewN w nq [xb])
  obtain ⟨w1, gl, hw1, hgl, HRW, HB1, HG⟩ := row_box (w.drewN nq) [q]
  change (w.drewN nq).alloc (.cells #[.int .i64 q] 3) = w1 at hw1
  change w.heap.size = gl at hgl
  have HX1 := Lib.hid (HX.out.below HB1.out)
  go_wp2_with (refine wpList_append_grows _ rfl _ _ 22 rfl 3 i0 (.int .i64 0) 1 8 Tryz.underlying22 HI.out.1 HI.out.2.1 HI.out.2.2.1 HI.out.2.2.2 rfl (by decide) (some ⟨gt, 1, none⟩) 1 1 (vals [p]) rfl (fun h => by cases h) rfl ?c1 ⟨gl, 0, none⟩ 1 1 (vals [q]) rfl rfl ?c2 (vals_one _) (by decide) (by unfold maxLen; decide) (by decide) ?_)
  case c1 =>
    intro b hb j u hu
    cases hb
    rw [add_row'']
    exact whole_cell HX1.out.rs (show (vals [q, p]).toArray[1 + j]? = some u from by rw [List.getElem?_toArray]; exact hu_at hu)
  case c2 =>
    intro j u hu
    rw [add_row]
    exact whole_cell HRW.out.1 (by rw [List.getElem?_toArray]; exact hu)
  intro v' w2 hrow hgr
  have HO := Lib.hid (show Owns w2 w1.heap.size 3 v' (vals [p, q]) from Owns.of_row hrow)
  have HT := Lib.hid (Stirred.of_grown hgr)
  obtain ⟨ao, cc, e⟩ := HO.out.slice
  subst e
  rw [vals_length] at HO ⊢
  clear hrow hgr
  have HX2 := Lib.hid (HX1.out.touch HT.out List.not_mem_nil List.not_mem_nil List.not_mem_nil)
  have c4' := HX2.out.cells.2.2.2.2.1
  have f4' := HX2.out.free.1
  have HR := Lib.hid ((set8 HX2.out.box).2.1 (.slice ao 2 cc))
  go_wp2
  go_end0
  exact given_own HX2.out.box HO.out (by have h1 := whole_lt HX1.out.box; exact h1) (by have h2 := HB1.out.size; exact h2) ((HSQ.out.trans (Stirred.of_below HB1.out [xb]) (fun k hk => .inl hk)).trans (HT.out.more (fun k hk => by cases hk)) (fun k hk => .inl hk)) HR.out
set_option maxHeartbeats 8000000 in
set_option maxRecDepth 100000 in
theorem move_rot (h : X8 w xb 10 g at' nx gt gb [r, q, p] []) : Calls Tryz.prog 167 #[.pointer (some ⟨xb, 0, none⟩)] w (XDid w xb 10 g at' (rowV gt 3) (rowV gb 0) gt gb (.tuple #[]) [q, p, r] [] nx) := by
  have HX := Lib.hid h
  obtain ⟨c0, c1, c2, c3, c4, c5, c6, c7⟩ := h.cells
  obtain ⟨f4, f5, f7⟩ := h.free
  obtain ⟨i0, q1, q2, q3, q4⟩ := info_parts Tryz.bkIntInfo
  have HI := Lib.hid (And.intro q1 (And.intro q2 (And.intro q3 q4)))
  clear q1 q2 q3 q4
  have k0 := h.st (j := 0) (x := r) rfl
  have k1 := h.st (j := 1) (x := q) rfl
  have k2 := h.st (j := 2) (x := p) rfl
  clear h
  go_enter Tryz.func167, Tryz.ntmps167
  go_wp2_with fail
  go_quiet (fail)
  have HX := Lib.hid (HX.out.drewN nq)
  have HSQ := Lib.hid (Stirred.drewN w nq [xb])
  obtain ⟨w1, gl, hw1, hgl, HRW, HB1, HG⟩ := row_box (w.drewN nq) [r]
  change (w.drewN nq).alloc (.cells #[.int .i64 r] 3) = w1 at hw1
  change w.heap.size = gl at hgl
  have HX1 := Lib.hid (HX.out.below HB1.out)
  go_wp2_with (refine wpList_append_grows _ rfl _ _ 22 rfl 3 i0 (.int .i64 0) 1 8 Tryz.underlying22 HI.out.1 HI.out.2.1 HI.out.2.2.1 HI.out.2.2.2 rfl (by decide) (some ⟨gt, 1, none⟩) 2 2 (vals [q, p]) rfl (fun h => by cases h) rfl ?c1 ⟨gl, 0, none⟩ 1 1 (vals [r]) rfl rfl ?c2 (vals_one _) (by decide) (by unfold maxLen; decide) (by decide) ?_)
  case c1 =>
    intro b hb j u hu
    cases hb
    rw [add_row'']
    exact whole_cell HX1.out.rs (show (vals [r, q, p]).toArray[1 + j]? = some u from by rw [List.getElem?_toArray]; exact hu_at hu)
  case c2 =>
    intro j u hu
    rw [add_row]
    exact whole_cell HRW.out.1 (by rw [List.getElem?_toArray]; exact hu)
  intro v' w2 hrow hgr
  have HO := Lib.hid (show Owns w2 w1.heap.size 3 v' (vals [q, p, r]) from Owns.of_row hrow)
  have HT := Lib.hid (Stirred.of_grown hgr)
  obtain ⟨ao, cc, e⟩ := HO.out.slice
  subst e
  rw [vals_length] at HO ⊢
  clear hrow hgr
  have HX2 := Lib.hid (HX1.out.touch HT.out List.not_mem_nil List.not_mem_nil List.not_mem_nil)
  have c4' := HX2.out.cells.2.2.2.2.1
  have f4' := HX2.out.free.1
  have HR := Lib.hid ((set8 HX2.out.box).2.1 (.slice ao 3 cc))
  go_wp2
  go_end0
  exact given_own HX2.out.box HO.out (by have h1 := whole_lt HX1.out.box; exact h1) (by have h2 := HB1.out.size; exact h2) ((HSQ.out.trans (Stirred.of_below HB1.out [xb]) (fun k hk => .inl hk)).trans (HT.out.more (fun k hk => by cases hk)) (fun k hk => .inl hk)) HR.out
end
end Go.Proofs.YtcffbeihgchpgaaGreatDoor.Inn
/- errors.As over this program's faults: closed facts on the model's reflectlite, at targets *fault.fault and **fault.seen. -/
namespace Go.Proofs.YtcffbeihgchpgaaGreatDoor
open Go.RowKit Go.Extern.Stop Go.Stop Go.Extern
set_option linter.unusedSimpArgs false

theorem getLit1 (x y : Value) (h1 h2) : (#[x, y] : Array Value).getLit (n := 2) 1 h1 h2 = y := rfl
/-- the handle of a type -/
abbrev hd (t : TypeId) : Value := .pointer (some ⟨9, t, none⟩)
abbrev rty (t : TypeId) : Value := .iface 200 (.agg #[hd t])
abbrev pV (t : TypeId) (a : Addr) (f : Int) : Value := .agg #[hd t, .pointer (some a), .int .u64 f]

/- the targets: pointers to a fault (pf) and to a *seen (ps) -/
theorem Tryz.valueOf_pf (t : Addr) (w : World) : (ReflectliteValue.unpack (.iface 185 (.pointer (some t)))).run Tryz.prog w
    = .ok (pV 185 ⟨w.heap.size, 0, none⟩ 150) (w.alloc (.cells #[.pointer (some t)] 185)) := by kernel_rfl
theorem Tryz.type_pf (a : Addr) (w : World) : (ReflectliteValue.methodAny (ReflectliteValue.valueError "reflectlite.Value.Type" 0) (fun t _ _ _ => ReflectliteType.toType t) #[pV 185 a 150]).run Tryz.prog w
    = .ok (rty 185) w := by kernel_rfl
theorem Tryz.methodKind (h : Value) (w : World) : (Go.method 387 200 (.agg #[h]) "Kind").run Tryz.prog w = .ok (248, h) w := by kernel_rfl
theorem Tryz.methodElem (h : Value) (w : World) : (Go.method 387 200 (.agg #[h]) "Elem").run Tryz.prog w = .ok (261, .agg #[h]) w := by kernel_rfl
theorem Tryz.methodImplements (h : Value) (w : World) : (Go.method 387 200 (.agg #[h]) "Implements").run Tryz.prog w = .ok (262, .agg #[h]) w := by kernel_rfl
theorem Tryz.methodAssignableTo (h : Value) (w : World) : (Go.method 387 200 (.agg #[h]) "AssignableTo").run Tryz.prog w = .ok (259, .agg #[h]) w := by kernel_rfl
theorem Tryz.methodComparable (h : Value) (w : World) : (Go.method 387 200 (.agg #[h]) "Comparable").run Tryz.prog w = .ok (260, .agg #[h]) w := by kernel_rfl
theorem Tryz.methodUnwrap (v : Value) (w : World) : (Go.method 387 175 v "Unwrap").run Tryz.prog w = .ok (254, v) w := by kernel_rfl
theorem Tryz.kind_pf (w : World) : ((ReflectliteType.abiMethod fun t => (fun a : Nat => Value.int IntKind.u8 (a : Int)) <$> Rtype.kind t) #[hd 185]).run Tryz.prog w = .ok (.int .u8 22) w := by kernel_rfl
theorem Tryz.kind_f (w : World) : ((ReflectliteType.abiMethod fun t => (fun a : Nat => Value.int IntKind.u8 (a : Int)) <$> Rtype.kind t) #[hd 170]).run Tryz.prog w = .ok (.int .u8 25) w := by kernel_rfl
theorem Tryz.kind_s (w : World) : ((ReflectliteType.abiMethod fun t => (fun a : Nat => Value.int IntKind.u8 (a : Int)) <$> Rtype.kind t) #[hd 175]).run Tryz.prog w = .ok (.int .u8 22) w := by kernel_rfl
theorem Tryz.elem_pf (w : World) : (ReflectliteType.method ReflectliteType.elem #[.agg #[hd 185]]).run Tryz.prog w = .ok (rty 170) w := by kernel_rfl
theorem Tryz.impl_f (w : World) : (ReflectliteType.relation "Implements" ReflectliteType.implements_ #[.agg #[hd 170], rty 140]).run Tryz.prog w = .ok (.bool true) w := by kernel_rfl
theorem Tryz.impl_s (w : World) : (ReflectliteType.relation "Implements" ReflectliteType.implements_ #[.agg #[hd 175], rty 140]).run Tryz.prog w = .ok (.bool true) w := by kernel_rfl
theorem Tryz.typeOf_f (v : Value) (w : World) : (ReflectliteType.typeOf #[.iface 170 v]).run Tryz.prog w = .ok (rty 170) w := by kernel_rfl
theorem Tryz.typeOf_s (v : Value) (w : World) : (ReflectliteType.typeOf #[.iface 175 v]).run Tryz.prog w = .ok (rty 175) w := by kernel_rfl
theorem Tryz.assign_ff (w : World) : (ReflectliteType.relation "AssignableTo" ReflectliteType.assignableTo #[.agg #[hd 170], rty 170]).run Tryz.prog w = .ok (.bool true) w := by kernel_rfl
theorem Tryz.assign_sf (w : World) : (ReflectliteType.relation "AssignableTo" ReflectliteType.assignableTo #[.agg #[hd 175], rty 170]).run Tryz.prog w = .ok (.bool false) w := by kernel_rfl
theorem Tryz.assign_ss (w : World) : (ReflectliteType.relation "AssignableTo" ReflectliteType.assignableTo #[.agg #[hd 175], rty 175]).run Tryz.prog w = .ok (.bool true) w := by kernel_rfl
theorem Tryz.assign_fs (w : World) : (ReflectliteType.relation "AssignableTo" ReflectliteType.assignableTo #[.agg #[hd 170], rty 175]).run Tryz.prog w = .ok (.bool false) w := by kernel_rfl
theorem Tryz.valueOf_f (c i : Int) (w : World) : (ReflectliteValue.unpack (.iface 170 (.agg #[.int .i64 c, .int .i64 i]))).run Tryz.prog w
    = .ok (pV 170 ⟨w.heap.size, 0, none⟩ 153) (w.alloc (.cells #[.int .i64 c, .int .i64 i] 170)) := by kernel_rfl
theorem Tryz.valueOf_s (e : Addr) (w : World) : (ReflectliteValue.unpack (.iface 175 (.pointer (some e)))).run Tryz.prog w
    = .ok (pV 175 ⟨w.heap.size, 0, none⟩ 150) (w.alloc (.cells #[.pointer (some e)] 175)) := by kernel_rfl
/- method sets -/
theorem Tryz.noAs_f (v : Value) (xT : TypeId) (w : World) : (Instr.typeAssert (.iface 170 v) xT 205 true).run Tryz.prog w = .ok (.tuple #[.nilIface, .bool false]) w := run_typeAssert_lacksB Tryz.underlying205 (by kernel_rfl) (by kernel_rfl) v xT w
theorem Tryz.noAs_s (v : Value) (xT : TypeId) (w : World) : (Instr.typeAssert (.iface 175 v) xT 205 true).run Tryz.prog w = .ok (.tuple #[.nilIface, .bool false]) w := run_typeAssert_lacksB Tryz.underlying205 (by kernel_rfl) (by kernel_rfl) v xT w
theorem Tryz.noUn_f (v : Value) (xT : TypeId) (w : World) : (Instr.typeAssert (.iface 170 v) xT 208 true).run Tryz.prog w = .ok (.tuple #[.nilIface, .bool false]) w := run_typeAssert_lacksB Tryz.underlying208 (by kernel_rfl) (by kernel_rfl) v xT w
theorem Tryz.un_s (v : Value) (xT : TypeId) (w : World) : (Instr.typeAssert (.iface 175 v) xT 208 true).run Tryz.prog w = .ok (.tuple #[.iface 175 v, .bool true]) w := run_typeAssert_hasB Tryz.underlying208 (by kernel_rfl) v xT w
theorem Tryz.noUns_f (v : Value) (xT : TypeId) (w : World) : (Instr.typeAssert (.iface 170 v) xT 209 true).run Tryz.prog w = .ok (.tuple #[.nilIface, .bool false]) w := run_typeAssert_lacksB Tryz.underlying209 (by kernel_rfl) (by kernel_rfl) v xT w
/- the entries that read or write memory -/
theorem Tryz.parts_pf (a : Addr) (w : World) : (ReflectliteValue.parts (pV 185 a 150)).run Tryz.prog w = .ok (some (185, a, 150)) w := by kernel_rfl
theorem Tryz.parts_fa (a : Addr) (w : World) : (ReflectliteValue.parts (pV 170 a 409)).run Tryz.prog w = .ok (some (170, a, 409)) w := by kernel_rfl
theorem Tryz.parts_sa (a : Addr) (w : World) : (ReflectliteValue.parts (pV 175 a 406)).run Tryz.prog w = .ok (some (175, a, 406)) w := by kernel_rfl
theorem Tryz.parts_f (a : Addr) (w : World) : (ReflectliteValue.parts (pV 170 a 153)).run Tryz.prog w = .ok (some (170, a, 153)) w := by kernel_rfl
theorem Tryz.parts_s (a : Addr) (w : World) : (ReflectliteValue.parts (pV 175 a 150)).run Tryz.prog w = .ok (some (175, a, 150)) w := by kernel_rfl
theorem Tryz.elemOf_pf (w : World) : (Rtype.elem? 185).run Tryz.prog w = .ok (some 170) w := by kernel_rfl
theorem Tryz.mk_f (p : Addr) (w : World) : (ReflectliteValue.mk 170 p ReflectliteValue.flagAddr).run Tryz.prog w = .ok (pV 170 p 409) w := by kernel_rfl
theorem Tryz.mk_s (p : Addr) (w : World) : (ReflectliteValue.mk 175 p ReflectliteValue.flagAddr).run Tryz.prog w = .ok (pV 175 p 406) w := by kernel_rfl
theorem Tryz.direct_f (w : World) : (Rtype.directlyAssignable 170 170).run Tryz.prog w = .ok true w := by kernel_rfl
theorem Tryz.direct_s (w : World) : (Rtype.directlyAssignable 175 175).run Tryz.prog w = .ok true w := by kernel_rfl
theorem Tryz.size_f (w : World) : (sizeOf 170).run Tryz.prog w = .ok 2 w := by kernel_rfl
theorem Tryz.size_s (w : World) : (sizeOf 175).run Tryz.prog w = .ok 1 w := by kernel_rfl
theorem Tryz.isNil_pf (a p : Addr) (W : World) (ha : W.cell? a = some (.pointer (some p))) :
    (ReflectliteValue.method (ReflectliteValue.valueError "reflectlite.Value.IsNil" 0) ReflectliteValue.isNil #[pV 185 a 150]).run Tryz.prog W = .ok (.bool false) W := by
  change (Sem.run Tryz.prog (ReflectliteValue.parts (pV 185 a 150) >>= _) W) = _
  simp only [Sem.run_bind, Tryz.parts_pf, Result.andThen]
  simp [ReflectliteValue.isNil, loadVar, isAgg, underlying, Tryz.underlying185, ha, Result.andThen]
theorem Tryz.elemV_pf (a p : Addr) (W : World) (ha : W.cell? a = some (.pointer (some p))) :
    (ReflectliteValue.method (ReflectliteValue.valueError "reflectlite.Value.Elem" 0) ReflectliteValue.elem #[pV 185 a 150]).run Tryz.prog W
      = .ok (pV 170 p 409) W := by
  change (Sem.run Tryz.prog (ReflectliteValue.parts (pV 185 a 150) >>= _) W) = _
  simp only [Sem.run_bind, Tryz.parts_pf, Result.andThen]
  simp [ReflectliteValue.elem, loadVar, isAgg, underlying, Tryz.underlying185, ha, Result.andThen, Tryz.elemOf_pf, Tryz.mk_f]
theorem Tryz.set_s (ta b e : Addr) (old : Value) (W : World) (hb : W.cell? b = some (.pointer (some e))) (ht : W.cell? ta = some old) (hf : W.frozen? ta = false) :
    (ReflectliteValue.set #[pV 175 ta 406, pV 175 b 150]).run Tryz.prog W
      = .ok (.tuple #[]) (W.setCell ta (.pointer (some e))) := by
  change (Sem.run Tryz.prog (ReflectliteValue.parts (pV 175 ta 406) >>= _) W) = _
  simp only [Sem.run_bind, Tryz.parts_sa, getLit1, Tryz.parts_s, Result.andThen]
  simp [ReflectliteValue.flagAddr, loadVar, isAgg, underlying, Tryz.underlying175, hb, Result.andThen, Tryz.direct_s, storeVar, Value.cells, storeCells, Addr.add]
  rw [run_store Tryz.prog W ta _ _ (by rfl)]
  simp [ht, hf]
end Go.Proofs.YtcffbeihgchpgaaGreatDoor
/- The walks of package fault: New, Wrap, Unwrap; errors.As over a chain of wrapped faults. -/
namespace Go.Proofs.YtcffbeihgchpgaaGreatDoor
open Go.RowKit Go.Extern.Stop Go.Stop Go.Extern
set_option linter.unusedSimpArgs false
set_option linter.unusedVariables false

theorem setCell_far1 (W : World) (T : Nat) (v : Value) : (W.setCell ⟨T, 0, none⟩ v).cell? ⟨T, 1, none⟩ = W.cell? ⟨T, 1, none⟩ := World.cell?_setCell_other _ _ _ _ (by simp)
set_option maxHeartbeats 1000000 in
theorem Tryz.set_f (T b : Nat) (c i : Int) (o0 o1 : Value) (W : World) (hb : W.cell? ⟨b, 0, none⟩ = some (.int .i64 c)) (hb1 : W.cell? ⟨b, 1, none⟩ = some (.int .i64 i))
    (ht : W.cell? ⟨T, 0, none⟩ = some o0) (ht1 : W.cell? ⟨T, 1, none⟩ = some o1) (hf : W.frozen? ⟨T, 0, none⟩ = false) (hf1 : W.frozen? ⟨T, 1, none⟩ = false) :
    (ReflectliteValue.set #[pV 170 ⟨T, 0, none⟩ 409, pV 170 ⟨b, 0, none⟩ 153]).run Tryz.prog W
      = .ok (.tuple #[]) ((W.setCell ⟨T, 0, none⟩ (.int .i64 c)).setCell ⟨T, 1, none⟩ (.int .i64 i)) := by
  change (Sem.run Tryz.prog (ReflectliteValue.parts (pV 170 ⟨T, 0, none⟩ 409) >>= _) W) = _
  simp only [Sem.run_bind, Tryz.parts_fa, getLit1, Tryz.parts_f, Result.andThen]
  simp [ReflectliteValue.flagAddr, loadVar, isAgg, underlying, Tryz.underlying170, hb, hb1, Result.andThen, Tryz.direct_f, Tryz.size_f, storeVar, loadCells, loadCellsFrom, Value.cells, storeCells, Addr.add]
  rw [run_store Tryz.prog W ⟨T, 0, none⟩ _ _ (by rfl)]
  simp [ht, hf, Result.andThen]
  rw [run_store Tryz.prog _ ⟨T, 1, none⟩ _ _ (by rfl)]
  simp [setCell_far1, ht1, hf1, Result.andThen]
abbrev faultV (c i : Int) : Value := .iface 170 (.agg #[.int .i64 c, .int .i64 i])
abbrev seenV (b : Nat) : Value := .iface 175 (.pointer (some ⟨b, 0, none⟩))
/-- an error that is the fault (c, i), seen from the words of the list, the outermost first -/
def Chain (w : World) (c i : Int) : List ByteArray → Value → Prop
  | [], v => v = faultV c i
  | s :: r, v => ∃ b inner, v = seenV b ∧ b < w.heap.size ∧ w.cell? ⟨b, 0, none⟩ = some (.string s) ∧ w.cell? ⟨b, 1, none⟩ = some inner ∧ Chain w c i r inner
theorem Chain.mono {w w' : World} (hb : Below w.heap.size w w') {c i : Int} : ∀ {ws v}, Chain w c i ws v → Chain w' c i ws v
  | [], _, h => h
  | s :: r, v, ⟨b, inner, h1, h2, h3, h4, h5⟩ => ⟨b, inner, h1, Nat.lt_of_lt_of_le h2 hb.size, by rw [hb.cell h2]; exact h3, by rw [hb.cell h2]; exact h4, Chain.mono hb h5⟩
theorem Chain.heap {w w' : World} (hb : ∀ k, k < w.heap.size → w'.heap[k]? = w.heap[k]?) (hs : w.heap.size ≤ w'.heap.size) {c i : Int} : ∀ {ws v}, Chain w c i ws v → Chain w' c i ws v
  | [], _, h => h
  | s :: r, v, ⟨b, inner, h1, h2, h3, h4, h5⟩ => ⟨b, inner, h1, Nat.lt_of_lt_of_le h2 hs, by rw [World.cell?_of_block (w := w) (hb b h2)]; exact h3, by rw [World.cell?_of_block (w := w) (hb b h2)]; exact h4, Chain.heap hb hs h5⟩
theorem Chain.alloc {w : World} {o : Obj} {c i : Int} {ws v} (h : Chain w c i ws v) : Chain (w.alloc o) c i ws v :=
  h.mono ((Below.refl _ _).alloc (Nat.le_refl _) o)

theorem new_zero (ip : Int) (w : World) : Calls Tryz.prog 134 #[.int .i64 0, .int .i64 ip] w fun e w' => e = .returned .nilIface ∧ w = w' := by
  go_enter Tryz.func134, Tryz.ntmps134
  go_wp2
  go_ret
  exact ⟨rfl, rfl⟩
theorem new_some (c ip : Int) (hc : (c == 0) = false) (w : World) : Calls Tryz.prog 134 #[.int .i64 c, .int .i64 ip] w fun e w' => e = .returned (faultV c ip) ∧ w = w' := by
  go_enter Tryz.func134, Tryz.ntmps134
  go_wp2
  go_ret
  exact ⟨rfl, rfl⟩
theorem wrap_nil (s : ByteArray) (w : World) : Calls Tryz.prog 136 #[.nilIface, .string s] w fun e w' => e = .returned .nilIface ∧ w = w' := by
  go_enter Tryz.func136, Tryz.ntmps136
  go_wp2
  go_ret
  exact ⟨rfl, rfl⟩
theorem wrap_some (t : TypeId) (x : Value) (s : ByteArray) (w : World) : Calls Tryz.prog 136 #[.iface t x, .string s] w fun e w' => e = .returned (seenV w.heap.size) ∧ w' = w.alloc (.cells #[.string s, .iface t x] 177) := by
  go_enter Tryz.func136, Tryz.ntmps136
  go_wp2
  go_ret
  exact ⟨rfl, rfl⟩
theorem unwrap_any (b : Nat) (inner : Value) (w : World) (h : w.cell? ⟨b, 1, none⟩ = some inner) : Calls Tryz.prog 254 #[.pointer (some ⟨b, 0, none⟩)] w fun e w' => e = .returned inner ∧ w = w' := by
  go_enter Tryz.func254, Tryz.ntmps254
  go_wp2
  go_ret
  exact ⟨rfl, rfl⟩

theorem Chain.iface {w : World} {c i : Int} {ws v} (h : Chain w c i ws v) : ∃ t x, v = .iface t x := by
  cases ws with
  | nil => exact ⟨_, _, h⟩
  | cons s r => obtain ⟨b, inner, rfl, _⟩ := h; exact ⟨_, _, rfl⟩
abbrev rvCells (t : TypeId) (n : Nat) : Obj := .cells #[hd t, .pointer (some ⟨n, 0, none⟩), .int .u64 150] 190
set_option maxHeartbeats 4000000 in
theorem as_f (ws : List ByteArray) (v : Value) (c i : Int) (T n : Nat) (o0 o1 : Value) (w : World) (hch : Chain w c i ws v)
    (hnl : n < w.heap.size) (hTl : T < w.heap.size) (hn : w.cell? ⟨n, 0, none⟩ = some (.pointer (some ⟨T, 0, none⟩)))
    (ht : w.cell? ⟨T, 0, none⟩ = some o0) (ht1 : w.cell? ⟨T, 1, none⟩ = some o1) (hf : w.frozen? ⟨T, 0, none⟩ = false) (hf1 : w.frozen? ⟨T, 1, none⟩ = false) :
    Calls Tryz.prog 172 #[v, .iface 185 (.pointer (some ⟨T, 0, none⟩)), pV 185 ⟨n, 0, none⟩ 150, rty 170] w fun e w' =>
      e = .returned (.bool true) ∧ w' = (((w.setCell ⟨T, 0, none⟩ (.int .i64 c)).setCell ⟨T, 1, none⟩ (.int .i64 i)).alloc (rvCells 185 n)).alloc (.cells #[.int .i64 c, .int .i64 i] 170) := by
  have h1 := @run_callFunc_extern Tryz.prog 182 _ ReflectliteType.typeOf Tryz.func182 (by kernel_rfl) (by kernel_rfl) (by kernel_rfl) (by kernel_rfl)
  have h2 := @run_callFunc_extern Tryz.prog 259 _ (ReflectliteType.relation "AssignableTo" ReflectliteType.assignableTo) Tryz.func259 (by kernel_rfl) (by kernel_rfl) (by kernel_rfl) (by kernel_rfl)
  have h3 := @run_callFunc_extern Tryz.prog 183 _ (ReflectliteValue.method (ReflectliteValue.valueError "reflectlite.Value.Elem" 0) ReflectliteValue.elem) Tryz.func183 (by kernel_rfl) (by kernel_rfl) (by kernel_rfl) (by kernel_rfl)
  have h4 := @run_callFunc_extern Tryz.prog 184 _ ReflectliteValue.set Tryz.func184 (by kernel_rfl) (by kernel_rfl) (by kernel_rfl) (by kernel_rfl)
  have h5 := @run_callFunc_extern Tryz.prog 169 _ (fun args => ReflectliteValue.unpack (args.getD 0 (.tuple #[]))) Tryz.func169 (by kernel_rfl) (by kernel_rfl) (by kernel_rfl) (by kernel_rfl)
  have q1 := Tryz.typeOf_f
  have q2 := Tryz.typeOf_s
  have q3 := Tryz.methodAssignableTo
  have q4 := Tryz.assign_ff
  have q5 := Tryz.assign_sf
  have q6 := Tryz.noAs_s
  have q7 := Tryz.un_s
  have q8 := Tryz.methodUnwrap
  have q9 := Tryz.valueOf_f c i
  have el := Tryz.elemV_pf ⟨n, 0, none⟩ ⟨T, 0, none⟩ (w.alloc (rvCells 185 n)) (by rw [World.cell?_alloc_lt _ _ ⟨n, 0, none⟩ hnl]; exact hn)
  have st := Tryz.set_f T (w.heap.size + 1) c i o0 o1 ((w.alloc (rvCells 185 n)).alloc (.cells #[.int .i64 c, .int .i64 i] 170))
    (by rw [World.cell?_alloc_at _ _ _ _ (by simp)]; rfl) (by rw [World.cell?_alloc_at _ _ _ _ (by simp)]; rfl)
    (by rw [World.cell?_alloc_lt _ _ ⟨T, 0, none⟩ (by simp; omega), World.cell?_alloc_lt _ _ ⟨T, 0, none⟩ hTl]; exact ht)
    (by rw [World.cell?_alloc_lt _ _ ⟨T, 1, none⟩ (by simp; omega), World.cell?_alloc_lt _ _ ⟨T, 1, none⟩ hTl]; exact ht1)
    (by rw [World.frozen?_alloc_old _ _ ⟨T, 0, none⟩ (by simp; omega), World.frozen?_alloc_old _ _ ⟨T, 0, none⟩ (Nat.ne_of_lt hTl)]; exact hf)
    (by rw [World.frozen?_alloc_old _ _ ⟨T, 1, none⟩ (by simp; omega), World.frozen?_alloc_old _ _ ⟨T, 1, none⟩ (Nat.ne_of_lt hTl)]; exact hf1)
  have EL := Lib.hid el
  have ST := Lib.hid st
  have HC := Lib.hid hch
  clear el st hn ht ht1 hf hf1 hch
  go_enter Tryz.func172, Tryz.ntmps172
  go_wp2
  go_loopg [0] ws.length (fun k p wr => ∃ ws' v', k = ws'.length ∧ p = v' ∧ Hid (Chain w c i ws' v') ∧ wr = w.alloc (rvCells 185 n))
  case atStart => exact ⟨ws, v, rfl, rfl, HC, rfl⟩
  case round =>
    obtain ⟨ws', v', rfl, rfl, hc', rfl⟩ := hrel
    cases ws' with
    | nil =>
      obtain rfl := hc'.out
      have el := EL.out
      have st := ST.out
      go_wp2
      go_ret
      exact ⟨rfl, rfl⟩
    | cons s r =>
      obtain ⟨b, inner, rfl, hb, k0, k1, k2⟩ := hc'.out
      obtain ⟨t, x, rfl⟩ := k2.iface
      have K2 := Lib.hid k2
      clear k2 hc' k0
      have hu := fun w' h => unwrap_any b (.iface t x) w' h
      have k1' : (w.alloc (rvCells 185 n)).cell? ⟨b, 1, none⟩ = some (.iface t x) := by rw [World.cell?_alloc_lt _ _ ⟨b, 1, none⟩ hb]; exact k1
      clear k1 EL ST
      go_wp2_with (go_at_call 254; refine (unwrap_any b _ _ k1').mono ?_; rintro e w' ⟨rfl, rfl⟩)
      go_roundg r.length
      case measure => simp
      case rel => exact ⟨r, _, rfl, rfl, K2, rfl⟩
end Go.Proofs.YtcffbeihgchpgaaGreatDoor
/- The walks of package fault, second part: errors.As at **seen; errors.As itself; find. -/
namespace Go.Proofs.YtcffbeihgchpgaaGreatDoor
open Go.RowKit Go.Extern.Stop Go.Stop Go.Extern
set_option linter.unusedSimpArgs false
set_option linter.unusedVariables false

abbrev tgF (T : Nat) : Value := .iface 185 (.pointer (some ⟨T, 0, none⟩))
/-- the variable errors.errorType, as the row lists it -/
def ErrorType (w : World) : Prop := w.cell? ⟨1, 0, none⟩ = some (rty 140)
theorem ErrorType.lt {w : World} (h : ErrorType w) : 1 < w.heap.size := by
  rcases Nat.lt_or_ge 1 w.heap.size with h0 | h0
  · exact h0
  · simp [ErrorType, World.cell?, Array.getElem?_eq_none h0] at h
theorem ErrorType.mono {w w' : World} (h : ErrorType w) (hb : Below w.heap.size w w') : ErrorType w' := by
  unfold ErrorType; rw [hb.cell h.lt]; exact h
set_option maxHeartbeats 4000000 in
theorem As_f (ws : List ByteArray) (v : Value) (c i : Int) (T : Nat) (o0 o1 : Value) (w : World) (hch : Chain w c i ws v) (hg : ErrorType w) (hTl : T < w.heap.size)
    (ht : w.cell? ⟨T, 0, none⟩ = some o0) (ht1 : w.cell? ⟨T, 1, none⟩ = some o1) (hf : w.frozen? ⟨T, 0, none⟩ = false) (hf1 : w.frozen? ⟨T, 1, none⟩ = false) :
    Calls Tryz.prog 157 #[v, tgF T] w fun e w' =>
      e = .returned (.bool true) ∧ w' = (((((w.setCell ⟨T, 0, none⟩ (.int .i64 c)).setCell ⟨T, 1, none⟩ (.int .i64 i)).alloc (.cells #[.pointer (some ⟨T, 0, none⟩)] 185)).alloc (rvCells 185 w.heap.size)).alloc (rvCells 185 w.heap.size)).alloc (.cells #[.int .i64 c, .int .i64 i] 170) := by
  obtain ⟨t, x, rfl⟩ := hch.iface
  have h5 := @run_callFunc_extern Tryz.prog 169 _ (fun args => ReflectliteValue.unpack (args.getD 0 (.tuple #[]))) Tryz.func169 (by kernel_rfl) (by kernel_rfl) (by kernel_rfl) (by kernel_rfl)
  have h7 := @run_callFunc_extern Tryz.prog 170 _ (ReflectliteValue.methodAny (ReflectliteValue.valueError "reflectlite.Value.Type" 0) (fun t _ _ _ => ReflectliteType.toType t)) Tryz.func170 (by kernel_rfl) (by kernel_rfl) (by kernel_rfl) (by kernel_rfl)
  have h8 := @run_callFunc_extern Tryz.prog 171 _ (ReflectliteValue.method (ReflectliteValue.valueError "reflectlite.Value.IsNil" 0) ReflectliteValue.isNil) Tryz.func171 (by kernel_rfl) (by kernel_rfl) (by kernel_rfl) (by kernel_rfl)
  have h27 := @run_callFunc_extern Tryz.prog 248 _ (ReflectliteType.abiMethod fun t => do pure (.int .u8 (← Rtype.kind t))) Tryz.func248 (by kernel_rfl) (by kernel_rfl) (by kernel_rfl) (by kernel_rfl)
  have h37 := @run_callFunc_extern Tryz.prog 261 _ (ReflectliteType.method ReflectliteType.elem) Tryz.func261 (by kernel_rfl) (by kernel_rfl) (by kernel_rfl) (by kernel_rfl)
  have h38 := @run_callFunc_extern Tryz.prog 262 _ (ReflectliteType.relation "Implements" ReflectliteType.implements_) Tryz.func262 (by kernel_rfl) (by kernel_rfl) (by kernel_rfl) (by kernel_rfl)
  have f6 := Tryz.valueOf_pf
  have f7 := Tryz.type_pf
  have mK := Tryz.methodKind
  have mE := Tryz.methodElem
  have mI := Tryz.methodImplements
  have k1 := Tryz.kind_pf
  have k2 := Tryz.kind_f
  have e1 := Tryz.elem_pf
  have i1 := Tryz.impl_f
  have n8 := Tryz.isNil_pf ⟨w.heap.size, 0, none⟩ ⟨T, 0, none⟩ ((w.alloc (.cells #[.pointer (some ⟨T, 0, none⟩)] 185)).alloc (rvCells 185 w.heap.size)) (by simp)
  have hl := hg.lt
  have hg2 : ((w.alloc (.cells #[.pointer (some ⟨T, 0, none⟩)] 185)).alloc (rvCells 185 w.heap.size)).cell? ⟨1, 0, none⟩ = some (rty 140) := by
    rw [World.cell?_alloc_lt _ _ ⟨1, 0, none⟩ (by simp <;> omega), World.cell?_alloc_lt _ _ ⟨1, 0, none⟩ hl]; exact hg
  have C := as_f ws (.iface t x) c i T w.heap.size o0 o1 ((w.alloc (.cells #[.pointer (some ⟨T, 0, none⟩)] 185)).alloc (rvCells 185 w.heap.size)) (hch.alloc.alloc)
    (by simp; omega) (by simp; omega) (by simp)
    (by rw [World.cell?_alloc_lt _ _ ⟨T, 0, none⟩ (by simp; omega), World.cell?_alloc_lt _ _ ⟨T, 0, none⟩ hTl]; exact ht)
    (by rw [World.cell?_alloc_lt _ _ ⟨T, 1, none⟩ (by simp; omega), World.cell?_alloc_lt _ _ ⟨T, 1, none⟩ hTl]; exact ht1)
    (by rw [World.frozen?_alloc_old _ _ ⟨T, 0, none⟩ (by simp; omega), World.frozen?_alloc_old _ _ ⟨T, 0, none⟩ (Nat.ne_of_lt hTl)]; exact hf)
    (by rw [World.frozen?_alloc_old _ _ ⟨T, 1, none⟩ (by simp; omega), World.frozen?_alloc_old _ _ ⟨T, 1, none⟩ (Nat.ne_of_lt hTl)]; exact hf1)
  have C' := Lib.hid C
  clear C hch hg ht ht1 hf hf1
  go_enter Tryz.func157, Tryz.ntmps157
  go_wp2_with (go_at_call 172; refine C'.out.mono ?_; rintro e w' ⟨rfl, rfl⟩)
  go_ret
  exact ⟨rfl, by go_simp⟩
end Go.Proofs.YtcffbeihgchpgaaGreatDoor
