/- Package eval's run in memory: a box of twenty-two cells; its stacks, memory and values are its own, the trace's lists and what is watched lie where they lay. -/
import Derived.Test.YtpecingkoodmfaaGreatDoorS8
import Derived.Test.YtpecingkoodmfaaGreatDoorS3
import Derived.Lib.Hide
import Derived.BigQuiet
import Derived.Deep.QuietTactic
import Derived.Deep.LoopGhost
import Derived.Test.YtpecingkoodmfaaGreatDoorRows
import Derived.Test.YtpecingkoodmfaaGreatDoorS10
import Derived.WalkKit
import Derived.WalkSpells
import Derived.WalkLawsBesides
import Derived.Lib.Strings
import Derived.Test.YtpecingkoodmfaaGreatDoorS17
import Derived.Laws.BitsAllLaws
import Derived.Lib.LaidTab
import Derived.Lib.TrailingZeros
namespace Go.Proofs.YtpecingkoodmfaaGreatDoor.Ev
open Go.RowKit Book Mem
open Ir (T I O trA ReadsL)
open Mach (M OwnsL)
set_option linter.unusedVariables false
/-- the values of a run's lists: stack, back, memory, values, watched; the trace's; and further blocks that stay -/
structure Sl where
  vs : Value
  vb : Value
  vm : Value
  vv : Value
  vw : Value
  vi : Value
  vo : Value
  vc : Value
  ex : Nat → Option Obj
abbrev cells22 (t : T) (s : M) (hit : Bool) (z : Sl) : Array Value := #[.int .i64 t.start, .int .i64 t.slots, .int .i64 t.backs, .int .i64 t.grow, .int .i64 t.growBack, z.vi, z.vo, .int .i64 t.last, z.vc,
  .int .i64 s.ip, .int .i64 s.handler, z.vs, z.vb, z.vm, .string s.out, .string s.inp, .int .i64 s.read, .int .i64 s.status, .int .i64 s.code, z.vv, z.vw, .bool hit]
structure RunAt (W w : World) (q : Nat) (t : T) (wat : List Int) (s : M) (V : List Int) (hit : Bool) (z : Sl) : Prop where
  hb : Below W.heap.size W w
  hq : W.heap.size ≤ q
  box : w.heap[q]? = some (.cells (cells22 t s hit z) 101 (0, 0))
  st : Owns w W.heap.size 3 z.vs (vals s.stack)
  bk : Owns w W.heap.size 3 z.vb (vals s.back)
  me : Owns w W.heap.size 3 z.vm (vals s.mem)
  vl : Owns w W.heap.size 3 z.vv (vals V)
  ns : ∀ k, blk z.vs = some k → k ≠ q ∧ blk z.vb ≠ some k ∧ blk z.vm ≠ some k ∧ blk z.vv ≠ some k
  nb : ∀ k, blk z.vb = some k → k ≠ q ∧ blk z.vm ≠ some k ∧ blk z.vv ≠ some k
  nm : ∀ k, blk z.vm = some k → k ≠ q ∧ blk z.vv ≠ some k
  nv : ∀ k, blk z.vv = some k → k ≠ q
  tr : ReadsL W z.vi z.vo z.vc t
  wa : Reads W z.vw wat
  fr : ∀ k o, z.ex k = some o → w.heap[k]? = some o ∧ k ≠ q ∧ blk z.vs ≠ some k ∧ blk z.vb ≠ some k ∧ blk z.vm ≠ some k ∧ blk z.vv ≠ some k
section
variable {W w w' : World} {q : Nat} {t : T} {wat : List Int} {s s' : M} {V : List Int} {hit hit' : Bool} {z : Sl}
theorem RunAt.step (h : RunAt W w q t wat s V hit z) {bs : List Nat} (ht : Stirred w w' bs) (hn : ∀ k ∈ bs, W.heap.size ≤ k) (nq : q ∉ bs) (n1 : ∀ k, blk z.vs = some k → k ∉ bs) (n2 : ∀ k, blk z.vb = some k → k ∉ bs) (n3 : ∀ k, blk z.vm = some k → k ∉ bs) (n4 : ∀ k, blk z.vv = some k → k ∉ bs) (n5 : ∀ k o, z.ex k = some o → k ∉ bs) : RunAt W w' q t wat s V hit z :=
  ⟨h.hb.trans (ht.below hn h.hb.size), h.hq, ht.whole h.box nq, h.st.touch ht n1, h.bk.touch ht n2, h.me.touch ht n3, h.vl.touch ht n4, h.ns, h.nb, h.nm, h.nv, h.tr, h.wa, fun k o e => ⟨ht.whole (h.fr k o e).1 (n5 k o e), (h.fr k o e).2⟩⟩
theorem RunAt.below (h : RunAt W w q t wat s V hit z) (hb : Below w.heap.size w w') : RunAt W w' q t wat s V hit z :=
  h.step (Stirred.of_below hb []) (fun _ e => (by cases e)) List.not_mem_nil (fun _ _ => List.not_mem_nil) (fun _ _ => List.not_mem_nil) (fun _ _ => List.not_mem_nil) (fun _ _ => List.not_mem_nil) (fun _ _ _ => List.not_mem_nil)
theorem RunAt.drew (h : RunAt W w q t wat s V hit z) : RunAt W w.drew q t wat s V hit z := h.below ((Below.refl _ _).drew)
theorem RunAt.drewN (h : RunAt W w q t wat s V hit z) (n : Nat) : RunAt W (w.drewN n) q t wat s V hit z := h.below ⟨rfl, rfl, rfl, Nat.le_refl _, fun _ _ => rfl⟩
theorem RunAt.lt (h : RunAt W w q t wat s V hit z) : q < w.heap.size := whole_lt h.box
/-- a cell of the box is stored into -/
theorem RunAt.field (h : RunAt W w q t wat s V hit z) (j : Nat) (v : Value) (hc : (cells22 t s hit z).setIfInBounds j v = cells22 t s' hit' z) (e1 : s'.stack = s.stack) (e2 : s'.back = s.back) (e3 : s'.mem = s.mem) : RunAt W (w.setCell ⟨q, j, none⟩ v) q t wat s' V hit' z := by
  have ht := Stirred.setCell w ⟨q, j, none⟩ v
  have hx : ∀ {k : Nat}, k ≠ q → k ∉ [q] := fun h hm => h (List.mem_singleton.1 hm)
  exact ⟨h.hb.trans (ht.below (fun k hk => by rw [List.mem_singleton.1 hk]; exact h.hq) h.hb.size), h.hq, by rw [← hc]; exact whole_set h.box j v,
    by rw [e1]; exact h.st.touch ht (fun k e => hx (h.ns k e).1), by rw [e2]; exact h.bk.touch ht (fun k e => hx (h.nb k e).1), by rw [e3]; exact h.me.touch ht (fun k e => hx (h.nm k e).1), h.vl.touch ht (fun k e => hx (h.nv k e)), h.ns, h.nb, h.nm, h.nv, h.tr, h.wa, fun k o e => ⟨ht.whole (h.fr k o e).1 (hx (h.fr k o e).2.1), (h.fr k o e).2⟩⟩
/-- a cell of the memory is stored into -/
theorem RunAt.poke (h : RunAt W w q t wat s V hit z) {g n cap : Nat} (hz : z.vm = .slice (some ⟨g, 0, none⟩) n cap) {j : Nat} (hj : j < s.mem.length) (c : Int) : RunAt W (w.setCell ⟨g, j, none⟩ (.int .i64 c)) q t wat { s with mem := s.mem.set j c } V hit z := by
  have hme := h.me
  rw [hz] at hme
  have hg : blk z.vm = some g := by rw [hz]; exact hme.capAt (by rw [vals_length]; omega)
  have ht := Stirred.setCell w ⟨g, j, none⟩ (.int .i64 c)
  have hx : ∀ {k : Nat}, k ≠ g → k ∉ [g] := fun h hm => h (List.mem_singleton.1 hm)
  have hgq := (h.nm g hg).1
  refine ⟨h.hb.trans (ht.below (fun k hk => by rw [List.mem_singleton.1 hk]; exact (h.me.block g hg).1) h.hb.size), h.hq, ht.whole h.box (hx (Ne.symm hgq)),
    h.st.touch ht (fun k e => hx (fun e' => by subst e'; exact (h.ns _ e).2.2.1 hg)), h.bk.touch ht (fun k e => hx (fun e' => by subst e'; exact (h.nb _ e).2.1 hg)), ?_, h.vl.touch ht (fun k e => hx (fun e' => by subst e'; exact (h.nm _ hg).2 e)), h.ns, h.nb, h.nm, h.nv, h.tr, h.wa, fun k o e => ⟨ht.whole (h.fr k o e).1 (hx (fun e' => by subst e'; exact (h.fr _ o e).2.2.2.2.1 hg)), (h.fr k o e).2⟩⟩
  show Owns _ _ _ z.vm (vals (s.mem.set j c))
  rw [hz, ← vals_set]
  exact hme.stored j _
/-- other values -/
theorem RunAt.newVals (h : RunAt W w q t wat s V hit z) {v : Value} {V' : List Int} (ho : Owns w' W.heap.size 3 v (vals V')) (ht : Stirred w w' (blk z.vv).toList) (hk : ∀ k, blk v = some k → blk z.vv = some k ∨ w.heap.size ≤ k) :
    RunAt W (w'.setCell ⟨q, 19, none⟩ v) q t wat s V' hit { z with vv := v } := by
  have hv : ∀ k, k ∈ (blk z.vv).toList → blk z.vv = some k := fun k hm => Option.mem_toList.1 hm
  have h1 : w'.heap[q]? = some (.cells (cells22 t s hit z) 101 (0, 0)) := ht.whole h.box (fun hm => h.nv _ (hv _ hm) rfl)
  have hqv : ∀ k, blk v = some k → k ≠ q := fun k e e' => by
    subst e'
    rcases hk _ e with hk | e2
    · exact h.nv _ hk rfl
    · have := h.lt; omega
  have far : ∀ {u : Value} {xs : List Int}, Owns w W.heap.size 3 u (vals xs) → (∀ k, blk u = some k → blk z.vv ≠ some k) → ∀ k, blk u = some k → blk v ≠ some k := fun hu hn k e e' => by
    rcases hk _ e' with hk | e2
    · exact hn k e hk
    · have := (hu.block _ e).2.1; omega
  have ht2 := Stirred.setCell w' ⟨q, 19, none⟩ v
  have hx : ∀ {k : Nat}, k ≠ q → k ∉ [q] := fun h hm => h (List.mem_singleton.1 hm)
  have hB1 : Below W.heap.size W w' := h.hb.trans (ht.below (fun k hm => (h.vl.block k (hv k hm)).1) h.hb.size)
  have keep : ∀ {u : Value} {xs : List Int}, Owns w W.heap.size 3 u (vals xs) → (∀ k, blk u = some k → k ≠ q ∧ blk z.vv ≠ some k) → Owns (w'.setCell ⟨q, 19, none⟩ v) W.heap.size 3 u (vals xs) := fun hu hn =>
    (hu.touch ht (fun k e hm => (hn k e).2 (hv k hm))).touch ht2 (fun k e => hx (hn k e).1)
  refine ⟨hB1.trans (ht2.below (fun k hm => by rw [List.mem_singleton.1 hm]; exact h.hq) hB1.size), h.hq, ?_, keep h.st (fun k e => ⟨(h.ns k e).1, (h.ns k e).2.2.2⟩), keep h.bk (fun k e => ⟨(h.nb k e).1, (h.nb k e).2.2⟩), keep h.me h.nm, ho.touch ht2 (fun k e => hx (hqv k e)),
    fun k e => ⟨(h.ns k e).1, (h.ns k e).2.1, (h.ns k e).2.2.1, far h.st (fun k e => (h.ns k e).2.2.2) k e⟩, fun k e => ⟨(h.nb k e).1, (h.nb k e).2.1, far h.bk (fun k e => (h.nb k e).2.2) k e⟩, fun k e => ⟨(h.nm k e).1, far h.me (fun k e => (h.nm k e).2) k e⟩, hqv, h.tr, h.wa, fun k o e => ?_⟩
  · exact whole_set h1 19 v
  · obtain ⟨f1, f2, f3, f4, f5, f6⟩ := h.fr k o e
    refine ⟨ht2.whole (ht.whole f1 (fun hm => f6 (hv k hm))) (hx f2), f2, f3, f4, f5, fun e' => ?_⟩
    rcases hk _ e' with hk | e2
    · exact f6 hk
    · have := whole_lt f1; omega
/-- one more value -/
theorem RunAt.push (h : RunAt W w q t wat s V hit z) {v : Value} {x : Int} (ho : Owns w' W.heap.size 3 v (vals (V ++ [x]))) (ht : Stirred w w' (blk z.vv).toList) (hk : blk v = blk z.vv ∨ ∃ k, blk v = some k ∧ w.heap.size ≤ k) :
    RunAt W (w'.setCell ⟨q, 19, none⟩ v) q t wat s (V ++ [x]) hit { z with vv := v } :=
  h.newVals ho ht (fun k e => by
    rcases hk with hk | ⟨k', e1, e2⟩
    · exact .inl (hk ▸ e)
    · rw [e1] at e; cases e; exact .inr e2)
/-- one more block that stays -/
def put1 (g : Nat) (o : Obj) (e : Nat → Option Obj) : Nat → Option Obj := fun k => if k = g then some o else e k
theorem RunAt.also (h : RunAt W w q t wat s V hit z) {g : Nat} {o : Obj} (hg : w.heap[g]? = some o) (n0 : g ≠ q) (n1 : blk z.vs ≠ some g) (n2 : blk z.vb ≠ some g) (n3 : blk z.vm ≠ some g) (n4 : blk z.vv ≠ some g) : RunAt W w q t wat s V hit { z with ex := put1 g o z.ex } :=
  ⟨h.hb, h.hq, h.box, h.st, h.bk, h.me, h.vl, h.ns, h.nb, h.nm, h.nv, h.tr, h.wa, fun k o' e => by
    unfold put1 at e
    dsimp only at e
    split at e
    · rename_i hk; cases e; subst hk; exact ⟨hg, n0, n1, n2, n3, n4⟩
    · exact h.fr k o' e⟩
/-- .. a new one: nothing of the run lies in it -/
theorem RunAt.fresh (h : RunAt W w q t wat s V hit z) {g : Nat} {o : Obj} {bs : List Nat} (ht : Stirred w w' bs) (hbs : ∀ k ∈ bs, k = g) (hn : w.heap.size ≤ g) (hg : w'.heap[g]? = some o) : RunAt W w' q t wat s V hit { z with ex := put1 g o z.ex } :=
  have fr : ∀ {k : Nat}, k < w.heap.size → k ∉ bs := fun hk hm => by have := hbs _ hm; omega
  have h' := h.step ht (fun k hm => by rw [hbs k hm]; exact Nat.le_trans h.hb.size hn) (fr h.lt) (fun k e => fr (h.st.block k e).2.1) (fun k e => fr (h.bk.block k e).2.1) (fun k e => fr (h.me.block k e).2.1) (fun k e => fr (h.vl.block k e).2.1) (fun k o e => fr (whole_lt (h.fr k o e).1))
  h'.also hg (fun e => by have := h.lt; omega) (fun e => by have := (h.st.block _ e).2.1; omega) (fun e => by have := (h.bk.block _ e).2.1; omega) (fun e => by have := (h.me.block _ e).2.1; omega) (fun e => by have := (h.vl.block _ e).2.1; omega)
theorem RunAt.less (h : RunAt W w q t wat s V hit z) {e' : Nat → Option Obj} (hs : ∀ k o, e' k = some o → z.ex k = some o) : RunAt W w q t wat s V hit { z with ex := e' } :=
  ⟨h.hb, h.hq, h.box, h.st, h.bk, h.me, h.vl, h.ns, h.nb, h.nm, h.nv, h.tr, h.wa, fun k o e => h.fr k o (hs k o e)⟩
/-- the box's cells -/
theorem RunAt.cells (h : RunAt W w q t wat s V hit z) : w.cell? ⟨q, 0, none⟩ = some (.int .i64 t.start) ∧ w.cell? ⟨q, 1, none⟩ = some (.int .i64 t.slots) ∧ w.cell? ⟨q, 2, none⟩ = some (.int .i64 t.backs) ∧ w.cell? ⟨q, 5, none⟩ = some z.vi ∧ w.cell? ⟨q, 6, none⟩ = some z.vo ∧ w.cell? ⟨q, 7, none⟩ = some (.int .i64 t.last) ∧
    w.cell? ⟨q, 11, none⟩ = some z.vs ∧ w.cell? ⟨q, 12, none⟩ = some z.vb ∧ w.cell? ⟨q, 13, none⟩ = some z.vm ∧ w.cell? ⟨q, 14, none⟩ = some (.string s.out) ∧ w.cell? ⟨q, 15, none⟩ = some (.string s.inp) ∧ w.cell? ⟨q, 16, none⟩ = some (.int .i64 s.read) ∧ w.cell? ⟨q, 19, none⟩ = some z.vv ∧ w.cell? ⟨q, 20, none⟩ = some z.vw ∧ w.cell? ⟨q, 21, none⟩ = some (.bool hit) :=
  ⟨whole_cell h.box rfl, whole_cell h.box rfl, whole_cell h.box rfl, whole_cell h.box rfl, whole_cell h.box rfl, whole_cell h.box rfl, whole_cell h.box rfl, whole_cell h.box rfl, whole_cell h.box rfl, whole_cell h.box rfl, whole_cell h.box rfl, whole_cell h.box rfl, whole_cell h.box rfl, whole_cell h.box rfl, whole_cell h.box rfl⟩
theorem RunAt.free (h : RunAt W w q t wat s V hit z) (j : Nat) : w.frozen? ⟨q, j, none⟩ = false := whole_frozen h.box j
end
end Go.Proofs.YtpecingkoodmfaaGreatDoor.Ev
/- Package eval: the small calls. -/
namespace Go.Proofs.YtpecingkoodmfaaGreatDoor.Ev
open Go.RowKit Book Mem
open Ir (T I O trA ReadsL insA insV)
open Mach (M)
set_option linter.unusedSimpArgs false
set_option linter.unusedVariables false
theorem within_any (n m : Int) (w : World) : Calls Tryz.prog 91 #[.int .i64 n, .int .i64 m] w fun e w' => e = .returned (.bool (Ir.within n m)) ∧ w' = w := by
  by_cases h0 : 0 ≤ n
  · by_cases h1 : n ≤ m
    · have HP := Lib.hid (Ir.within_yes h0 h1)
      go_enter Tryz.func91, Tryz.ntmps91
      go_wp2
      go_ret
      exact ⟨by rw [HP.out]; rfl, rfl⟩
    · have HP := Lib.hid (Ir.within_no (fun h => h1 h.2) : Ir.within n m = false)
      go_enter Tryz.func91, Tryz.ntmps91
      go_wp2
      go_ret
      exact ⟨by rw [HP.out]; rfl, rfl⟩
  · have HP := Lib.hid (Ir.within_no (fun h => h0 h.1) : Ir.within n m = false)
    go_enter Tryz.func91, Tryz.ntmps91
    go_wp2
    go_ret
    exact ⟨by rw [HP.out]; rfl, rfl⟩
/-- what a call of a cell and a flag comes to -/
def Tells2 (x : Int × Bool) (w : World) (e : Ending) (w' : World) : Prop := e = .returned (.tuple #[.int .i64 x.1, .bool x.2]) ∧ w' = w
theorem getL_no {l : List Int} {p : Int} (h : ¬ (0 ≤ p ∧ p < (l.length : Int))) : getL l p = (0, false) := by unfold getL; rw [if_neg h]
theorem getL_yes {l : List Int} {k : Nat} {x : Int} (h : l[k]? = some x) : getL l (k : Int) = (x, true) := by
  have hk := (List.getElem?_eq_some_iff.1 h).1
  unfold getL
  rw [if_pos ⟨by omega, by omega⟩, Int.toNat_natCast, List.getD_eq_getElem?_getD, h]
  rfl
theorem get_any {w : World} {v : Value} {l : List Int} (h : Reads w v l) (hl : l.length ≤ 100000) (p : Int) : Calls Tryz.prog 123 #[v, .int .i64 p] w (Tells2 (getL l p) w) := by
  obtain ⟨n, hn⟩ : ∃ n, l.length = n := ⟨_, rfl⟩
  have C := Lib.hid (within_any p ((n : Int) - 1) w)
  by_cases hp : 0 ≤ p ∧ p < (l.length : Int)
  · obtain ⟨k, rfl⟩ : ∃ k : Nat, p = k := ⟨p.toNat, by omega⟩
    have hk : k < l.length := by omega
    have hx := List.getElem?_eq_getElem hk
    have HG := Lib.hid (getL_yes hx)
    obtain ⟨ao, c, e, hc⟩ := h
    obtain ⟨ad, rfl, hcell⟩ := hc k _ hx
    subst e
    have HT := Lib.hid (Ir.within_yes (n := (k : Int)) (most := (n : Int) - 1) (by omega) (by omega))
    rw [HT.out] at C
    obtain ⟨x, hx'⟩ : ∃ x, l[k] = x := ⟨_, rfl⟩
    rw [hx'] at hcell HG
    rw [hn] at hk hl ⊢
    clear hp hx hc HT hx'
    go_enter Tryz.func123, Tryz.ntmps123
    go_wp2_with (go_at_call 91; refine C.out.mono ?_; rintro e w' ⟨rfl, rfl⟩)
    go_ret2
    exact ⟨Cell.ret2 (by rw [HG.out]; try rfl) (by rw [HG.out]; try rfl), rfl⟩
  · have HG := Lib.hid (getL_no hp)
    have HT := Lib.hid (Ir.within_no (n := p) (most := (n : Int) - 1) (by omega))
    rw [HT.out] at C
    obtain ⟨ao, c, rfl, hc⟩ := h
    rw [hn] at hl ⊢
    clear hp hc HT
    go_enter Tryz.func123, Tryz.ntmps123
    go_wp2_with (go_at_call 91; refine C.out.mono ?_; rintro e w' ⟨rfl, rfl⟩)
    go_ret2
    exact ⟨Cell.ret2 (by rw [HG.out]; try rfl) (by rw [HG.out]; try rfl), rfl⟩
section
variable {W w : World} {q : Nat} {t : T} {wat : List Int} {s : M} {V : List Int} {hit : Bool} {z : Sl}
theorem value_any (h : RunAt W w q t wat s V hit z) (hl : V.length ≤ 100000) (p : Int) : Calls Tryz.prog 125 #[.pointer (some ⟨q, 0, none⟩), .int .i64 p] w fun e w' => e = .returned (.int .i64 (val V p)) ∧ w' = w := by
  have C := Lib.hid (get_any (Reads.of_owns h.vl) hl p)
  obtain ⟨-, -, -, -, -, -, -, -, -, -, -, -, c19, -, -⟩ := h.cells
  obtain ⟨g, hg⟩ : ∃ g, getL V p = g := ⟨_, rfl⟩
  have HV := Lib.hid (show val V p = g.1 by unfold val; rw [hg])
  rw [hg] at C
  obtain ⟨zv, hzv⟩ : ∃ zv, z.vv = zv := ⟨_, rfl⟩
  rw [hzv] at c19 C
  clear h hl hg hzv
  go_enter Tryz.func125, Tryz.ntmps125
  go_wp2_with (go_at_call 123; refine C.out.mono ?_; rintro e w' ⟨rfl, rfl⟩)
  go_ret
  exact ⟨Cell.ret1 HV.out.symm, rfl⟩
end
end Go.Proofs.YtpecingkoodmfaaGreatDoor.Ev
/- Package eval: an instruction is done. -/
namespace Go.Proofs.YtpecingkoodmfaaGreatDoor.Ev
open Go.RowKit Book Mem
open Ir (T I O trA ReadsL insA insV)
open Mach (M)
open Go.Proofs.YtpecingkoodmfaaGreatDoor.Cell (In)
set_option linter.unusedSimpArgs false
set_option linter.unusedVariables false
theorem val_in {V : List Int} (h : ∀ x ∈ V, In x) (p : Int) : In (val V p) := getL_in h p
theorem drewN1 (w : World) (q : Nat) : Below w.heap.size w (w.drewN q) := ⟨rfl, rfl, rfl, Nat.le_refl _, fun _ _ => rfl⟩
/-- a call's answer of a value and a flag; the world but for new blocks -/
def Tells3 (d : D) (w : World) (e : Ending) (w' : World) : Prop := e = .returned (.tuple #[.int .i64 d.v, .bool d.on]) ∧ Below w.heap.size w w'
section
variable {W w : World} {q : Nat} {t : T} {wat : List Int} {s : M} {V : List Int} {hit : Bool} {z : Sl}
set_option maxHeartbeats 4000000 in
set_option maxRecDepth 100000 in
theorem calc_any (h : RunAt W w q t wat s V hit z) (hl : V.length ≤ 100000) (hV : ∀ x ∈ V, In x) (x : I) : Calls Tryz.prog 124 #[.pointer (some ⟨q, 0, none⟩), insV x] w (Tells3 (calcI s x.2.1 (val V x.2.2.1) (val V x.2.2.2.1)) w) := by
  obtain ⟨op, a, b, c, ex⟩ := x
  obtain ⟨w1, g, hw1, hg, HG, HB, HZ⟩ := Ir.newBox w (insA (op, a, b, c, ex)) 42
  have k1 : w1.cell? ⟨g, 1, none⟩ = some (.int .i64 a) := whole_cell HG.out rfl
  have k2 : w1.cell? ⟨g, 2, none⟩ = some (.int .i64 b) := whole_cell HG.out rfl
  have k3 : w1.cell? ⟨g, 3, none⟩ = some (.int .i64 c) := whole_cell HG.out rfl
  have CB := Lib.hid (fun k => value_any ((h.below HB.out).drewN k) hl b)
  have CC := Lib.hid (fun k => value_any ((h.below HB.out).drewN k) hl c)
  have ib := val_in hV b
  have ic := val_in hV c
  dsimp only at *
  obtain ⟨vb, hvb⟩ : ∃ v, val V b = v := ⟨_, rfl⟩
  obtain ⟨vc, hvc⟩ : ∃ v, val V c = v := ⟨_, rfl⟩
  rw [hvb] at CB ib ⊢
  rw [hvc] at CC ic ⊢
  have O := Lib.hid (fun k => Cell.one_any a vb ib (w1.drewN k))
  have HP := Lib.hid (fun wd => Cell.two_any a vb vc ic wd)
  have HR := Lib.hid (h.below HB.out)
  have HLV := Lib.hid hl
  have hvb' := Lib.hid hvb
  have hvc' := Lib.hid hvc
  obtain ⟨r1, hr1⟩ : ∃ r, Cell.one a vb = r := ⟨_, rfl⟩
  obtain ⟨r2, hr2⟩ : ∃ r, Cell.two a vb vc = r := ⟨_, rfl⟩
  rw [hr1] at O
  rw [hr2] at HP
  unfold calcI
  rw [hr1, hr2]
  clear h hl hV hvb hvc ib ic hr1 hr2
  obtain ⟨y, is⟩ := r1
  obtain ⟨y2, is2⟩ := r2
  cases is with
  | true =>
    clear HP
    go_enter Tryz.func124, Tryz.ntmps124
    go_wp2_with fail
    go_quiet (first | (go_at_call 125; exact Calls.quiet_of_same (by first | with_reducible exact CB.out _ | with_reducible exact CC.out _)) | (go_at_call 131; exact Calls.quiet_of (O.out _)))
    go_wp2
    go_ret2
    exact ⟨rfl, HB.out.trans ((drewN1 _ _).mono HB.out.size)⟩
  | false =>
    go_enter Tryz.func124, Tryz.ntmps124
    go_wp2_with fail
    go_quiet (first | (go_at_call 125; exact Calls.quiet_of_same (by first | with_reducible exact CB.out _ | with_reducible exact CC.out _)) | (go_at_call 131; exact Calls.quiet_of (O.out _)))
    go_wp2_with fail
    obtain ⟨wr, hwr⟩ : ∃ wr, w1.drewN nq = wr := ⟨_, rfl⟩
    rw [hwr]
    have HB2 := Lib.hid (show Below w.heap.size w wr by rw [← hwr]; exact HB.out.trans ((drewN1 _ _).mono HB.out.size))
    have e1 : wr.cell? ⟨g, 1, none⟩ = some (.int .i64 a) := by rw [← hwr]; exact k1
    have e2 : wr.cell? ⟨g, 2, none⟩ = some (.int .i64 b) := by rw [← hwr]; exact k2
    have e3 : wr.cell? ⟨g, 3, none⟩ = some (.int .i64 c) := by rw [← hwr]; exact k3
    have CB2 := Lib.hid (fun k => by have h := value_any ((HR.out.drewN nq).drewN k) HLV.out b; rw [hwr, hvb'.out] at h; exact h)
    have CC2 := Lib.hid (fun k => by have h := value_any ((HR.out.drewN nq).drewN k) HLV.out c; rw [hwr, hvc'.out] at h; exact h)
    have P2 := Lib.hid (fun k => by have h := HP.out (wr.drewN k); exact h)
    clear CB CC O k1 k2 k3 hwr
    go_quiet (first | (go_at_call 125; exact Calls.quiet_of_same (by first | with_reducible exact CB2.out _ | with_reducible exact CC2.out _)) | (go_at_call 98; exact Calls.quiet_of (P2.out _)))
    go_wp2_with fail
    go_wp2
    go_ret2
    exact ⟨rfl, HB2.out.trans ((drewN1 _ _).mono HB2.out.size)⟩
end
end Go.Proofs.YtpecingkoodmfaaGreatDoor.Ev
/- Package eval: a guard holds; a cell is stored into; a text is told; a byte is asked for. -/
namespace Go.Proofs.YtpecingkoodmfaaGreatDoor.Ev
open Go.RowKit Book Mem
open Ir (T I O trA ReadsL insA insV)
open Mach (M)
open Go.Proofs.YtpecingkoodmfaaGreatDoor.Cell (In)
set_option linter.unusedSimpArgs false
set_option linter.unusedVariables false
theorem xor_zero {a b : Int} (ha : In a) (hb : In b) : bits .xor .i64 a b = 0 ↔ a = b := by
  rw [Cell.bits_xor]
  constructor
  · intro h
    have h0 : BitVec.ofInt 64 a ^^^ BitVec.ofInt 64 b = 0#64 := by
      apply BitVec.eq_of_toInt_eq
      rw [h]; rfl
    have h1 : BitVec.ofInt 64 a = BitVec.ofInt 64 b := by
      have := congrArg (· ^^^ BitVec.ofInt 64 b) h0
      simp only [BitVec.xor_assoc, BitVec.xor_self, BitVec.xor_zero, BitVec.zero_xor] at this
      exact this
    rw [← Cell.toInt_of ha, ← Cell.toInt_of hb, h1]
  · rintro rfl
    rw [BitVec.xor_self]; rfl
set_option maxHeartbeats 4000000 in
set_option maxRecDepth 100000 in
theorem index_any {w : World} {v : Value} {l : List Int} (h : Reads w v l) (hl : l.length ≤ 100000) (x : Int) : Calls Tryz.prog 146 #[v, .int .i64 x] w fun e w' => (∃ k : Int, e = .returned (.int .i64 k) ∧ decide (0 ≤ k) = l.contains x) ∧ w' = w := by
  obtain ⟨n, hn⟩ : ∃ n, l.length = n := ⟨_, rfl⟩
  have HN := Lib.hid hn
  have HV := Lib.hid h
  obtain ⟨av, cv, rfl, -⟩ := h
  rw [hn] at hl HV ⊢
  obtain ⟨res, hres⟩ : ∃ res, l.contains x = res := ⟨_, rfl⟩
  have HRS := Lib.hid hres
  rw [hres]
  clear hn hres
  go_enter Tryz.func146, Tryz.ntmps146
  go_wp2
  go_loopg [8] n (fun z i wr => ∃ j : Nat, z = n - j ∧ j ≤ n ∧ i = .int .i64 (j : Int) ∧ wr = w ∧ Hid ((l.drop j).contains x = res))
  case atStart => exact ⟨0, rfl, Nat.zero_le _, rfl, rfl, Lib.hid HRS.out⟩
  case round =>
    obtain ⟨j, rfl, hj, rfl, hwr, HJ⟩ := hrel
    subst wr
    by_cases hlt : j < n
    · obtain ⟨p, hp⟩ : ∃ p, l[j]? = some p := ⟨_, List.getElem?_eq_getElem (by rw [HN.out]; exact hlt)⟩
      have hk := (List.getElem?_eq_some_iff.1 hp).1
      have HS := Lib.hid (show (x == p || (l.drop (j + 1)).contains x) = res by
        rw [← HJ.out, List.drop_eq_getElem_cons hk, show l[j] = p from (List.getElem?_eq_some_iff.1 hp).2, List.contains_cons])
      obtain ⟨ad, rfl, q0⟩ := Ir.Reads.at' HV.out hp
      have z0 : (0 : Int) ≤ (j : Int) := by omega
      have z1 : (j : Int) < (n : Int) := by omega
      clear HJ hp hk
      by_cases hx : x = p
      · have HF := Lib.hid (show res = true by rw [← HS.out, hx]; simp)
        have hx1 : (x == p) = true := by rw [hx]; simp
        clear HS
        go_wp2
        go_ret
        exact ⟨⟨(j : Int), rfl, by rw [HF.out]; exact decide_eq_true z0⟩, rfl⟩
      · have hx1 : (x == p) = false := by simpa using hx
        have HS2 := Lib.hid (show (l.drop (j + 1)).contains x = res by rw [← HS.out, hx1]; rfl)
        clear HS
        go_wp2
        go_roundg (n - (j + 1))
        case measure => omega
        case rel => exact ⟨j + 1, rfl, by omega, by go_num, rfl, HS2⟩
    · obtain rfl : j = n := by omega
      have HF := Lib.hid (show res = false by rw [← HJ.out, List.drop_of_length_le (Nat.le_of_eq HN.out)]; rfl)
      go_wp2
      go_ret
      exact ⟨⟨-1, rfl, by rw [HF.out]; rfl⟩, rfl⟩
theorem contains_any {w : World} {v : Value} {l : List Int} (h : Reads w v l) (hl : l.length ≤ 100000) (x : Int) : Calls Tryz.prog 137 #[v, .int .i64 x] w fun e w' => e = .returned (.bool (l.contains x)) ∧ w' = w := by
  have C := Lib.hid (index_any h hl x)
  obtain ⟨res, hres⟩ : ∃ res, l.contains x = res := ⟨_, rfl⟩
  rw [hres] at C ⊢
  clear h hl hres
  go_enter Tryz.func137, Tryz.ntmps137
  go_wp2_with (go_at_call 146; refine C.out.mono ?_; rintro e w' ⟨⟨k, rfl, hk⟩, rfl⟩)
  go_ret
  exact ⟨Cell.retB (by rw [← hk]), rfl⟩
section
variable {W w : World} {q : Nat} {t : T} {wat : List Int} {s : M} {V : List Int} {hit : Bool} {z : Sl}
def holdsB (x : I) (b c : Int) : Bool := if x.1 = 9 then decide (b = c) else if x.1 = 8 then decide (b = 0) else if x.1 = 7 then decide (b ≠ 0) else false
/-- a flag, and the world but for new blocks -/
def SaysB (b : Bool) (w : World) (e : Ending) (w' : World) : Prop := e = .returned (.bool b) ∧ Below w.heap.size w w'
theorem flag_dec (b : Int) : (Cell.flag (b == 0) != 0) = decide (b = 0) := by
  by_cases h : b = 0
  · subst h; rfl
  · have h1 : (b == 0) = false := by simpa using h
    rw [h1, decide_eq_false h]; rfl
theorem ne_dec (b : Int) : (b != 0) = decide (b ≠ 0) := by
  by_cases h : b = 0
  · subst h; rfl
  · simp [h, bne]
theorem flag_xor {b c : Int} (h : bits .xor .i64 b c = 0 ↔ b = c) : (Cell.flag (bits .xor .i64 b c == 0) != 0) = decide (b = c) := by
  rw [flag_dec]
  exact decide_eq_decide.2 h
set_option maxHeartbeats 4000000 in
set_option maxRecDepth 100000 in
theorem holds_any (h : RunAt W w q t wat s V hit z) (hl : V.length ≤ 100000) (hV : ∀ x ∈ V, In x) (x : I) : Calls Tryz.prog 130 #[.pointer (some ⟨q, 0, none⟩), insV x] w (SaysB (holdsB x (val V x.2.2.1) (val V x.2.2.2.1)) w) := by
  obtain ⟨op, a, b, c, ex⟩ := x
  obtain ⟨w1, g, hw1, hg, HG, HB, HZ⟩ := Ir.newBox w (insA (op, a, b, c, ex)) 42
  have k0 : w1.cell? ⟨g, 0, none⟩ = some (.int .i64 op) := whole_cell HG.out rfl
  have k2 : w1.cell? ⟨g, 2, none⟩ = some (.int .i64 b) := whole_cell HG.out rfl
  have k3 : w1.cell? ⟨g, 3, none⟩ = some (.int .i64 c) := whole_cell HG.out rfl
  have CB := Lib.hid (value_any (h.below HB.out) hl b)
  have CC := Lib.hid (value_any (h.below HB.out) hl c)
  have ib := val_in hV b
  have ic := val_in hV c
  dsimp only at *
  obtain ⟨vb, hvb⟩ : ∃ v, val V b = v := ⟨_, rfl⟩
  obtain ⟨vc, hvc⟩ : ∃ v, val V c = v := ⟨_, rfl⟩
  rw [hvb] at CB ib ⊢
  rw [hvc] at CC ic ⊢
  have HX := Lib.hid (xor_zero ib ic)
  have FL := Lib.hid (fun b => Cell.flag_any b w1)
  obtain ⟨r, hr⟩ : ∃ r, holdsB (op, a, b, c, ex) vb vc = r := ⟨_, rfl⟩
  rw [hr]
  have HRB := Lib.hid hr
  unfold holdsB at HRB
  dsimp only at HRB
  clear h hl hV hvb hvc ib ic hr
  by_cases h9 : op = 9
  · subst h9
    have hr := HRB.out
    simp only [if_true, reduceIte] at hr
    have HF := Lib.hid hr
    clear HRB hr
    go_enter Tryz.func130, Tryz.ntmps130
    go_wp2_with (first | (go_at_call 125; first | (with_reducible refine CB.out.mono ?_; rintro e w' ⟨rfl, rfl⟩) | (with_reducible refine CC.out.mono ?_; rintro e w' ⟨rfl, rfl⟩)) | (go_at_call 118; refine (FL.out _).mono ?_; rintro e w' ⟨rfl, rfl⟩))
    go_ret
    exact ⟨Cell.retB (by rw [← HF.out]; exact flag_xor HX.out), HB.out⟩
  by_cases h8 : op = 8
  · subst h8
    have hr := HRB.out
    simp only [if_true, reduceIte, (by decide : ¬ (8 : Int) = 9)] at hr
    have HF := Lib.hid hr
    clear HRB hr
    go_enter Tryz.func130, Tryz.ntmps130
    go_wp2_with (first | (go_at_call 125; first | (with_reducible refine CB.out.mono ?_; rintro e w' ⟨rfl, rfl⟩) | (with_reducible refine CC.out.mono ?_; rintro e w' ⟨rfl, rfl⟩)) | (go_at_call 118; refine (FL.out _).mono ?_; rintro e w' ⟨rfl, rfl⟩))
    go_ret
    exact ⟨Cell.retB (by rw [← HF.out]; exact flag_dec _), HB.out⟩
  by_cases h7 : op = 7
  · subst h7
    have hr := HRB.out
    simp only [if_true, reduceIte, (by decide : ¬ (7 : Int) = 9), (by decide : ¬ (7 : Int) = 8)] at hr
    have HF := Lib.hid hr
    clear HRB hr
    go_enter Tryz.func130, Tryz.ntmps130
    go_wp2_with (first | (go_at_call 125; first | (with_reducible refine CB.out.mono ?_; rintro e w' ⟨rfl, rfl⟩) | (with_reducible refine CC.out.mono ?_; rintro e w' ⟨rfl, rfl⟩)) | (go_at_call 118; refine (FL.out _).mono ?_; rintro e w' ⟨rfl, rfl⟩))
    go_ret
    exact ⟨Cell.retB (by rw [← HF.out]; exact ne_dec _), HB.out⟩
  have hr := HRB.out
  rw [if_neg h9, if_neg h8, if_neg h7] at hr
  subst hr
  have e9 : (op == 9) = false := by simpa using h9
  have e8 : (op == 8) = false := by simpa using h8
  have e7 : (op == 7) = false := by simpa using h7
  clear HRB h9 h8 h7
  go_enter Tryz.func130, Tryz.ntmps130
  go_wp2_with (first | (go_at_call 125; first | (with_reducible refine CB.out.mono ?_; rintro e w' ⟨rfl, rfl⟩) | (with_reducible refine CC.out.mono ?_; rintro e w' ⟨rfl, rfl⟩)) | (go_at_call 118; refine (FL.out _).mono ?_; rintro e w' ⟨rfl, rfl⟩))
  go_ret
  exact ⟨rfl, HB.out⟩
end
end Go.Proofs.YtpecingkoodmfaaGreatDoor.Ev
/- Package eval: a cell is stored into; a text is told; a byte is asked for. -/
namespace Go.Proofs.YtpecingkoodmfaaGreatDoor.Ev
open Go.RowKit Book Mem
open Ir (T I O trA ReadsL insA insV)
open Mach (M)
open Go.Proofs.YtpecingkoodmfaaGreatDoor.Cell (In)
set_option linter.unusedSimpArgs false
set_option linter.unusedVariables false
section
variable {W w : World} {q : Nat} {t : T} {wat : List Int} {s : M} {V : List Int} {hit : Bool} {z : Sl}
/-- what a call leaves, its answer a flag -/
def OnB (W : World) (q : Nat) (t : T) (wat V : List Int) (z : Sl) (d : D) (e : Ending) (w' : World) : Prop := e = .returned (.bool d.on) ∧ RunAt W w' q t wat d.s V d.hit z
set_option maxHeartbeats 4000000 in
set_option maxRecDepth 100000 in
theorem put_any (h : RunAt W w q t wat s V false z) (hm : s.mem.length ≤ 100000) (hwt : wat.length ≤ 100000) (b c : Int) : Calls Tryz.prog 126 #[.pointer (some ⟨q, 0, none⟩), .int .i64 b, .int .i64 c] w (OnB W q t wat V z (putI wat s b c)) := by
  obtain ⟨vs, vb, vm, vv, vw, vi, vo, vc, ex'⟩ := z
  have C1 := Lib.hid (get_any (Reads.of_owns h.me) hm b)
  have HR := Lib.hid h
  obtain ⟨-, -, -, -, -, -, -, -, c13, -, -, -, -, c20, -⟩ := h.cells
  by_cases hp : 0 ≤ b ∧ b < (s.mem.length : Int)
  · obtain ⟨k, rfl⟩ : ∃ k : Nat, b = k := ⟨b.toNat, by omega⟩
    have hk : k < s.mem.length := by omega
    rw [getL_yes (List.getElem?_eq_getElem hk)] at C1
    obtain ⟨y, hy⟩ : ∃ y, s.mem[k] = y := ⟨_, rfl⟩
    rw [hy] at C1
    have hme := h.me
    obtain ⟨g, cap, e, -⟩ := hme.row (by rw [vals_length]; omega)
    rw [vals_length] at e
    dsimp only at e hme c13 c20 C1
    subst e
    obtain ⟨x0, x1⟩ := Mem.owns_at hme hk
    rw [hy] at x0
    have H2 := Lib.hid (h.poke rfl hk c)
    have C2 := Lib.hid (contains_any (H2.out.wa.below H2.out.hb) hwt (k : Int))
    have HP := Lib.hid (show putI wat s (k : Int) c = ⟨{ s with mem := s.mem.set k c }, 0, true, wat.contains (k : Int)⟩ by unfold putI; rw [if_pos hp, Int.toNat_natCast])
    obtain ⟨w2, hw2⟩ : ∃ w2, w.setCell ⟨g, k, none⟩ (.int .i64 c) = w2 := ⟨_, rfl⟩
    rw [hw2] at H2 C2
    obtain ⟨-, -, -, -, -, -, -, -, -, -, -, -, -, d20, d21⟩ := H2.out.cells
    have f21 := H2.out.free 21
    obtain ⟨n, hn⟩ : ∃ n, s.mem.length = n := ⟨_, rfl⟩
    have k0 : (0 : Int) ≤ (k : Int) := by omega
    have k1 : (k : Int) < (n : Int) := by omega
    obtain ⟨r, hr⟩ : ∃ r, wat.contains (k : Int) = r := ⟨_, rfl⟩
    dsimp only at C2 d20
    rw [hr] at C2 HP
    rw [hn] at c13 C1 hm
    rw [HP.out]
    clear h hp hk hme hy hr
    go_enter Tryz.func126, Tryz.ntmps126
    go_wp2_with (first | (go_at_call 123; refine C1.out.mono ?_; rintro e w' ⟨rfl, rfl⟩) | (go_at_call 137; refine C2.out.mono ?_; rintro e w' ⟨rfl, rfl⟩))
    go_ret
    exact ⟨rfl, H2.out.field 21 (.bool r) rfl rfl rfl rfl⟩
  · rw [getL_no hp] at C1
    have HP := Lib.hid (show putI wat s b c = ⟨s, 0, false, false⟩ by unfold putI; rw [if_neg hp])
    rw [HP.out]
    dsimp only at c13 C1
    clear h hp
    go_enter Tryz.func126, Tryz.ntmps126
    go_wp2_with (go_at_call 123; refine C1.out.mono ?_; rintro e w' ⟨rfl, rfl⟩)
    go_ret
    exact ⟨rfl, HR.out⟩
set_option maxHeartbeats 4000000 in
set_option maxRecDepth 100000 in
theorem say_any (h : RunAt W w q t wat s V false z) (ho : s.out.size ≤ 2000) (b : ByteArray) (hb : b.size ≤ 100) : Calls Tryz.prog 127 #[.pointer (some ⟨q, 0, none⟩), .string b] w (OnB W q t wat V z (sayI s b)) := by
  have HR := Lib.hid h
  obtain ⟨-, -, -, -, -, -, -, -, -, c14, -, -, -, -, -⟩ := h.cells
  have f14 := h.free 14
  obtain ⟨no, hno⟩ : ∃ n, s.out.size = n := ⟨_, rfl⟩
  obtain ⟨nb, hnb⟩ : ∃ n, b.size = n := ⟨_, rfl⟩
  by_cases hp : s.out.size + b.size ≤ 2000
  · have HP := Lib.hid (show sayI s b = ⟨{ s with out := s.out ++ b }, 0, true, false⟩ by unfold sayI; rw [if_pos hp])
    rw [hno, hnb] at hp
    have H1 : decide (2000 < (no : Int) + (nb : Int)) = false := decide_eq_false (by omega)
    rw [HP.out]
    rw [hno] at ho
    rw [hnb] at hb
    clear h
    go_enter Tryz.func127, Tryz.ntmps127
    go_wp2
    go_ret
    exact ⟨rfl, HR.out.field 14 (.string (s.out ++ b)) rfl rfl rfl rfl⟩
  · have HP := Lib.hid (show sayI s b = ⟨s, 0, false, false⟩ by unfold sayI; rw [if_neg hp])
    rw [hno, hnb] at hp
    have H1 : decide (2000 < (no : Int) + (nb : Int)) = true := decide_eq_true (by omega)
    rw [HP.out]
    rw [hno] at ho
    rw [hnb] at hb
    clear h
    go_enter Tryz.func127, Tryz.ntmps127
    go_wp2
    go_ret
    exact ⟨rfl, HR.out⟩
/-- what a call leaves, its answer a number -/
def OnV (W : World) (q : Nat) (t : T) (wat V : List Int) (z : Sl) (d : D) (e : Ending) (w' : World) : Prop := e = .returned (.int .i64 d.v) ∧ RunAt W w' q t wat d.s V d.hit z
set_option maxHeartbeats 4000000 in
set_option maxRecDepth 100000 in
theorem ask_any (h : RunAt W w q t wat s V false z) (hi : s.inp.size ≤ 1000000) : Calls Tryz.prog 129 #[.pointer (some ⟨q, 0, none⟩)] w (OnV W q t wat V z (askI s)) := by
  have HR := Lib.hid h
  obtain ⟨-, -, -, -, -, -, -, -, -, -, c15, c16, -, -, -⟩ := h.cells
  have f16 := h.free 16
  obtain ⟨ni, hni⟩ : ∃ n, s.inp.size = n := ⟨_, rfl⟩
  by_cases hp : 0 ≤ s.read ∧ s.read < (s.inp.size : Int)
  · obtain ⟨rd, hrd⟩ : ∃ rd : Nat, s.read.toNat = rd := ⟨_, rfl⟩
    have hr : s.read = (rd : Int) := by omega
    have h2 : rd < s.inp.size := by omega
    obtain ⟨by', hby⟩ : ∃ b, s.inp[rd] = b := ⟨_, rfl⟩
    have hD : s.inp.data.toList.getD rd 0 = by' := by rw [← hby, List.getD_eq_getElem?_getD, List.getElem?_eq_getElem (by simpa using h2)]; rfl
    have HP := Lib.hid (show askI s = ⟨{ s with read := (rd : Int) + 1 }, ((by'.toNat : Nat) : Int), true, false⟩ by unfold askI; rw [if_pos hp, hrd, hD, hr])
    have e8 : wrap64 ((by'.toNat : Nat) : Int) = ((by'.toNat : Nat) : Int) := by have := by'.toNat_lt; unfold wrap64; omega
    have C := Lib.hid (within_any (rd : Int) ((ni : Int) - 1) w)
    rw [Ir.within_yes (by omega) (by omega)] at C
    have h3 : (rd : Int) < (ni : Int) := by omega
    have h4 : rd < ni := by omega
    rw [hr] at c16
    rw [HP.out]
    rw [hni] at hi
    clear h hp hr hrd hD
    go_enter Tryz.func129, Tryz.ntmps129
    go_wp2_with (go_at_call 91; refine C.out.mono ?_; rintro e w' ⟨rfl, rfl⟩)
    go_ret
    exact ⟨Cell.ret1 e8, HR.out.field 16 (.int .i64 ((rd : Int) + 1)) rfl rfl rfl rfl⟩
  · have HP := Lib.hid (show askI s = ⟨s, -1, true, false⟩ by unfold askI; rw [if_neg hp])
    have C := Lib.hid (within_any s.read ((ni : Int) - 1) w)
    rw [Ir.within_no (by omega)] at C
    rw [HP.out]
    rw [hni] at hi
    clear h hp
    go_enter Tryz.func129, Tryz.ntmps129
    go_wp2_with (go_at_call 91; refine C.out.mono ?_; rintro e w' ⟨rfl, rfl⟩)
    go_ret
    exact ⟨rfl, HR.out⟩
end
end Go.Proofs.YtpecingkoodmfaaGreatDoor.Ev
/- The walks of package digits: Right, digit, sign, number. -/
namespace Go.Proofs.YtpecingkoodmfaaGreatDoor
open Go.RowKit
set_option linter.unusedSimpArgs false
set_option linter.unusedVariables false

theorem right_yes (b : Int) (h : Dig.rightB b = true) (w : World) :
    Calls Tryz.prog 138 #[.int .i64 b] w fun e w' => e = .returned (.bool true) ∧ w = w' := by
  simp only [Dig.rightB, Bool.and_eq_true, decide_eq_true_eq] at h
  obtain ⟨h0, h1⟩ := h
  go_enter Tryz.func138, Tryz.ntmps138
  go_wp2
  go_ret
  exact ⟨rfl, rfl⟩
theorem right_no (b : Int) (h : Dig.rightB b = false) (w : World) :
    Calls Tryz.prog 138 #[.int .i64 b] w fun e w' => e = .returned (.bool false) ∧ w = w' := by
  simp only [Dig.rightB, Bool.and_eq_false_iff, decide_eq_false_iff_not] at h
  by_cases h0 : 2 ≤ b
  · have h1 : decide (b ≤ 36) = false := by rw [decide_eq_false_iff_not]; rcases h with h | h <;> omega
    clear h
    go_enter Tryz.func138, Tryz.ntmps138
    go_wp2
    go_ret
    exact ⟨rfl, rfl⟩
  · have h1 : b < 2 := by omega
    clear h h0
    go_enter Tryz.func138, Tryz.ntmps138
    go_wp2
    go_ret
    exact ⟨rfl, rfl⟩
end Go.Proofs.YtpecingkoodmfaaGreatDoor
/- The walks of the library's small callees: internal/strconv.isPowerOfTwo, math/bits.TrailingZeros at a base's powers. -/
namespace Go.Proofs.YtpecingkoodmfaaGreatDoor
open Go.RowKit
set_option linter.unusedSimpArgs false
set_option linter.unusedVariables false

def powB (b : Int) : Bool := bits .and .i64 b (b - 1) == 0
theorem pow_walk (b : Int) (h0 : 2 ≤ b) (h1 : b ≤ 36) (w : World) :
    Calls Tryz.prog 144 #[.int .i64 b] w fun e w' => e = .returned (.bool (powB b)) ∧ w = w' := by
  go_enter Tryz.func144, Tryz.ntmps144
  go_wp2
  go_ret
  exact ⟨rfl, rfl⟩
theorem pow_fin : ∀ b : Fin 37, 2 ≤ b.val → powB (b.val : Int) = true → b.val = 2 ∨ b.val = 4 ∨ b.val = 8 ∨ b.val = 16 ∨ b.val = 32 := by decide +kernel
theorem pow_cases {b : Nat} (h0 : 2 ≤ b) (h1 : b ≤ 36) (h : powB b = true) : b = 2 ∨ b = 4 ∨ b = 8 ∨ b = 16 ∨ b = 32 := pow_fin ⟨b, by omega⟩ h0 h
/-- the table of the trailing zeros, as the row lists it -/
def tz64 : List Int := Lib.deBruijn64tab.map fun (n : Nat) => (n : Int)
def Zeros (w : World) : Prop := Lib.TabIs Tryz.prog w "math/bits.deBruijn64tab" .u8 tz64
theorem Tryz.gz : Tryz.prog.globalNamed "math/bits.deBruijn64tab" = some 3 := by kernel_rfl
theorem Zeros.at {w : World} (h : Zeros w) (i : Nat) (hi : i < 64) : w.cell? ⟨3, i, none⟩ = some (.int .u8 (tz64.getD i 0)) := by
  have := h.cell Tryz.gz i (by show i < tz64.length; rw [show tz64.length = 64 from by decide]; exact hi)
  simpa using this
set_option maxHeartbeats 1000000 in
theorem tz_core (a k : Int) (ha : (a == 0) = false) (k0 : 0 ≤ k) (k1 : k ≤ 64) (w : World)
    (h0 : 0 ≤ IntKind.u64.wrap (bits .and .u64 a (IntKind.u64.wrap (-a)) * 285870213051353865) / 288230376151711744)
    (h1 : IntKind.u64.wrap (bits .and .u64 a (IntKind.u64.wrap (-a)) * 285870213051353865) / 288230376151711744 < 64)
    (hc : w.cell? ⟨3, (IntKind.u64.wrap (bits .and .u64 a (IntKind.u64.wrap (-a)) * 285870213051353865) / 288230376151711744).toNat, none⟩ = some (.int .u8 k)) :
    Calls Tryz.prog 154 #[.int .u64 a] w fun e w' => e = .returned (.int .i64 k) ∧ w = w' := by
  go_enter Tryz.func154, Tryz.ntmps154
  go_wp2
  go_ret
  exact ⟨rfl, rfl⟩
theorem tz_at (a k : Int) (i : Nat) (hi : i < 64) (ha : (a == 0) = false) (k0 : 0 ≤ k) (k1 : k ≤ 64) (e : IntKind.u64.wrap (bits .and .u64 a (IntKind.u64.wrap (-a)) * 285870213051353865) / 288230376151711744 = (i : Int)) (ek : tz64.getD i 0 = k) (w : World) (h : Zeros w) :
    Calls Tryz.prog 154 #[.int .u64 a] w fun e w' => e = .returned (.int .i64 k) ∧ w = w' :=
  tz_core a k ha k0 k1 w (by rw [e]; omega) (by rw [e]; omega) (by rw [e, ← ek, Int.toNat_natCast]; exact h.at i hi)
theorem tz64_at (b : Nat) (k : Int) (hk : b = 2 ∧ k = 1 ∨ b = 4 ∧ k = 2 ∨ b = 8 ∧ k = 3 ∨ b = 16 ∧ k = 4 ∨ b = 32 ∧ k = 5) (w : World) (h : Zeros w) :
    Calls Tryz.prog 154 #[.int .u64 b] w fun e w' => e = .returned (.int .i64 k) ∧ w = w' := by
  rcases hk with ⟨rfl, rfl⟩ | ⟨rfl, rfl⟩ | ⟨rfl, rfl⟩ | ⟨rfl, rfl⟩ | ⟨rfl, rfl⟩
  · exact tz_at _ _ (2 ^ 1 * 285870213051353865 % 18446744073709551616 / 288230376151711744) (by decide) rfl (by decide) (by decide) (by decide +kernel) (by decide +kernel) w h
  · exact tz_at _ _ (2 ^ 2 * 285870213051353865 % 18446744073709551616 / 288230376151711744) (by decide) rfl (by decide) (by decide) (by decide +kernel) (by decide +kernel) w h
  · exact tz_at _ _ (2 ^ 3 * 285870213051353865 % 18446744073709551616 / 288230376151711744) (by decide) rfl (by decide) (by decide) (by decide +kernel) (by decide +kernel) w h
  · exact tz_at _ _ (2 ^ 4 * 285870213051353865 % 18446744073709551616 / 288230376151711744) (by decide) rfl (by decide) (by decide) (by decide +kernel) (by decide +kernel) w h
  · exact tz_at _ _ (2 ^ 5 * 285870213051353865 % 18446744073709551616 / 288230376151711744) (by decide) rfl (by decide) (by decide) (by decide +kernel) (by decide +kernel) w h
theorem tz_walk (b : Nat) (k : Int) (hk : b = 2 ∧ k = 1 ∨ b = 4 ∧ k = 2 ∨ b = 8 ∧ k = 3 ∨ b = 16 ∧ k = 4 ∨ b = 32 ∧ k = 5) (w : World) (h : Zeros w) :
    Calls Tryz.prog 145 #[.int .u64 b] w fun e w' => e = .returned (.int .i64 k) ∧ w = w' := by
  have C := Lib.hid (tz64_at b k hk w h)
  have hb : (b : Int) ≤ 32 := by omega
  clear hk h
  go_enter Tryz.func145, Tryz.ntmps145
  go_wp2_with (go_at_call 154; refine C.out.mono ?_; rintro e w' ⟨rfl, rfl⟩)
  go_ret
  exact ⟨rfl, rfl⟩
end Go.Proofs.YtpecingkoodmfaaGreatDoor
