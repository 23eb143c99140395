
/- Package inner: an operation that is done: its box; what became of it. -/
import Derived.Test.YtlomfmilohbgpaaGreatDoorInnDid
import Derived.ArgAppend
import Derived.BigQuiet
import Derived.Deep.QuietTactic
namespace Go.Proofs.YtlomfmilohbgpaaGreatDoor.Inn
open Go.RowKit Book Mem Mach
set_option linter.unusedVariables false
set_option linter.unusedSimpArgs false
/-- the box of an operation before it is done, and the rows of what it took -/
structure X8 (w : World) (xb : Nat) (k g at' nx : Int) (gt gb : Nat) (ts tb : List Int) : Prop where
  box : w.heap[xb]? = some (.cells (cells8 k g at' nx (rowV gt ts.length) (rowV gb tb.length) (.slice none 0 0) (.slice none 0 0)) 103 (0, 0))
  rs : w.heap[gt]? = some (.cells (vals ts).toArray 3 (0, 0))
  rb : w.heap[gb]? = some (.cells (vals tb).toArray 3 (0, 0))
section
variable {w w' : World} {xb : Nat} {k g at' nx : Int} {gt gb : Nat} {ts tb : List Int}
theorem X8.touch (h : X8 w xb k g at' nx gt gb ts tb) {bs : List Nat} (hs : Stirred w w' bs) (h1 : xb ∉ bs) (h2 : gt ∉ bs) (h3 : gb ∉ bs) : X8 w' xb k g at' nx gt gb ts tb :=
  ⟨hs.whole h.box h1, hs.whole h.rs h2, hs.whole h.rb h3⟩
theorem X8.drewN (h : X8 w xb k g at' nx gt gb ts tb) (n : Nat) : X8 (w.drewN n) xb k g at' nx gt gb ts tb := h.touch (Stirred.drewN w n []) List.not_mem_nil List.not_mem_nil List.not_mem_nil
theorem X8.below (h : X8 w xb k g at' nx gt gb ts tb) (hb : Below w.heap.size w w') : X8 w' xb k g at' nx gt gb ts tb := h.touch (Stirred.of_below hb []) List.not_mem_nil List.not_mem_nil List.not_mem_nil
theorem X8.cells (h : X8 w xb k g at' nx gt gb ts tb) : w.cell? ⟨xb, 0, none⟩ = some (.int .i64 k) ∧ w.cell? ⟨xb, 1, none⟩ = some (.int .i64 g) ∧ w.cell? ⟨xb, 2, none⟩ = some (rowV gt ts.length) ∧ w.cell? ⟨xb, 3, none⟩ = some (rowV gb tb.length) ∧
    w.cell? ⟨xb, 4, none⟩ = some (.slice none 0 0) ∧ w.cell? ⟨xb, 5, none⟩ = some (.slice none 0 0) ∧ w.cell? ⟨xb, 6, none⟩ = some (.int .i64 at') ∧ w.cell? ⟨xb, 7, none⟩ = some (.int .i64 nx) :=
  ⟨whole_cell h.box rfl, whole_cell h.box rfl, whole_cell h.box rfl, whole_cell h.box rfl, whole_cell h.box rfl, whole_cell h.box rfl, whole_cell h.box rfl, whole_cell h.box rfl⟩
theorem X8.free (h : X8 w xb k g at' nx gt gb ts tb) : w.frozen? ⟨xb, 4, none⟩ = false ∧ w.frozen? ⟨xb, 5, none⟩ = false ∧ w.frozen? ⟨xb, 7, none⟩ = false :=
  ⟨whole_frozen h.box 4, whole_frozen h.box 5, whole_frozen h.box 7⟩
theorem X8.st (h : X8 w xb k g at' nx gt gb ts tb) {j : Nat} {x : Int} (hx : ts[j]? = some x) : w.cell? ⟨gt, j, none⟩ = some (.int .i64 x) := whole_cell h.rs (by simp [vals, hx])
theorem X8.bk (h : X8 w xb k g at' nx gt gb ts tb) {j : Nat} {x : Int} (hx : tb[j]? = some x) : w.cell? ⟨gb, j, none⟩ = some (.int .i64 x) := whole_cell h.rb (by simp [vals, hx])
end
/-- what a slice reads as hangs on these blocks alone -/
def Dep (w : World) (v : Value) (xs : List Int) (L : List Nat) : Prop := ∀ w' : World, (∀ k ∈ L, w'.heap[k]? = w.heap[k]?) → Reads w' v xs
theorem Dep.nil (w : World) (L : List Nat) : Dep w (.slice none 0 0) [] L := fun w' _ => ⟨none, 0, rfl, fun j x h => by cases h⟩
theorem Dep.more {w : World} {v : Value} {xs : List Int} {L L' : List Nat} (h : Dep w v xs L) (hl : ∀ k ∈ L, k ∈ L') : Dep w v xs L' := fun w' hk => h w' (fun k hm => hk k (hl k hm))
theorem Dep.of_owns {w : World} {B : Nat} {v : Value} {xs : List Int} (h : Owns w B 3 v (vals xs)) : Dep w v xs (blk v).toList := fun w' hk => Reads.of_owns (h.same (fun k e => hk k (by simp [e])))
theorem Dep.row {w : World} {g : Nat} {xs : List Int} (h : w.heap[g]? = some (.cells (vals xs).toArray 3 (0, 0))) {n : Nat} (hn : xs.length = n) : Dep w (rowV g n) xs [g] := fun w' hk =>
  Row.reads (B := 0) ⟨by rw [hk g (List.mem_singleton_self g)]; exact h, Nat.zero_le _⟩ hn
theorem Dep.first {w : World} {g : Nat} {xs : List Int} (h : w.heap[g]? = some (.cells (vals xs).toArray 3 (0, 0))) {n c : Nat} (hn : n ≤ xs.length) : Dep w (.slice (some ⟨g, 0, none⟩) n c) (xs.take n) [g] := fun w' hk => by
  have hr : Row w' 0 g xs := ⟨by rw [hk g (List.mem_singleton_self g)]; exact h, Nat.zero_le _⟩
  exact (Row.reads hr rfl).take n c hn
theorem Dep.reads {w w' : World} {v : Value} {xs : List Int} {L D : List Nat} (h : Dep w v xs L) (hL : ∀ k ∈ L, k < w.heap.size ∧ k ∉ D) (hs : Stirred w w' D) : Reads w' v xs := h w' (fun k hk => hs.block k (hL k hk).1 (hL k hk).2)
/-- an operation that is done, of which no machine knows -/
def XDid (w : World) (xb : Nat) (k g at' : Int) (vt vb : Value) (gt gb : Nat) (err : Value) (gs gbl : List Int) (nx' : Int) (e : Ending) (w' : World) : Prop :=
  ∃ vgs vgb L, e = .returned err ∧ w'.heap[xb]? = some (.cells (cells8 k g at' nx' vt vb vgs vgb) 103 (0, 0)) ∧ Stirred w w' [xb] ∧ Dep w' vgs gs L ∧ Dep w' vgb gbl L ∧ ∀ b ∈ L, b < w'.heap.size ∧ b ≠ xb ∧ (b = gt ∨ b = gb ∨ w.heap.size ≤ b)
theorem set8 {w : World} {xb : Nat} {k g at' nx : Int} {vt vb vgs vgb : Value} {T : TypeId} (h : w.heap[xb]? = some (.cells (cells8 k g at' nx vt vb vgs vgb) T (0, 0))) :
    (∀ v : Int, (w.setCell ⟨xb, 7, none⟩ (.int .i64 v)).heap[xb]? = some (.cells (cells8 k g at' v vt vb vgs vgb) T (0, 0))) ∧
    (∀ v : Value, (w.setCell ⟨xb, 4, none⟩ v).heap[xb]? = some (.cells (cells8 k g at' nx vt vb v vgb) T (0, 0))) ∧
    (∀ v : Value, (w.setCell ⟨xb, 5, none⟩ v).heap[xb]? = some (.cells (cells8 k g at' nx vt vb vgs v) T (0, 0))) :=
  ⟨fun v => by rw [whole_set h]; rfl, fun v => by rw [whole_set h]; rfl, fun v => by rw [whole_set h]; rfl⟩
/-- two blocks of other types are not one -/
theorem apart_T {w : World} {a b : Nat} {c c' : Array Value} {T T' : TypeId} (h : w.heap[a]? = some (.cells c T (0, 0))) (h' : w.heap[b]? = some (.cells c' T' (0, 0))) (hT : T ≠ T') : a ≠ b := fun e => by
  subst e
  rw [h] at h'
  simp only [Option.some.injEq, Obj.cells.injEq] at h'
  exact hT h'.2.1
end Go.Proofs.YtlomfmilohbgpaaGreatDoor.Inn
