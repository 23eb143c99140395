/- What is proved: hollowaylaw15.EvalEmpty answers true for every input, and its arguments read afterwards as before; the listed package variables start as the program's text lays them (the card ties them). -/
import Derived.Test.YtbiinnfkokaadaaDoorEvLay
import Derived.Test.YtbiinnfkokaadaaDoorRefCopy
import Derived.Deep.RegionWith
import Derived.Test.YtbiinnfkokaadaaDoorEvWalks
import Derived.Test.YtbiinnfkokaadaaDoorRefMach
import Derived.Test.YtbiinnfkokaadaaDoorEvCopy
import Derived.Deep.RegionHeld3
import Derived.Deep.LoopGhost
import Derived.IntWalk
import Derived.Laws.OwnMore
import Derived.OwnWalk
import Derived.Test.YtbiinnfkokaadaaDoorDigPut
import Derived.LaidLaws
import Derived.LaidHandle
import Derived.Lib.LaidTab
import Derived.Lib.LaidIn
import Derived.Lib.LaidCaseMet
import Derived.PinnedBridge
import Derived.ChangeVars
import Derived.Handed
import Derived.Deep.DeepWitnessRef
import Derived.Test.YtbiinnfkokaadaaDoorEvIns
import Derived.Test.YtbiinnfkokaadaaDoorIrMem
import Derived.BigQuiet
import Derived.Deep.QuietTactic
import Derived.Test.YtbiinnfkokaadaaDoorRows
import Derived.Test.YtbiinnfkokaadaaDoorCards
import Derived.Test.YtbiinnfkokaadaaDoorTie
import Derived.WalkKit
import Derived.ProofKit
import Derived.OpenShut
import Derived.ChangeSame
import Derived.JoinedOf
import Derived.RowKitTokens
import Derived.Stop.Joined
import Derived.SevenTiedAt
import Derived.Carry
import Derived.Test.YtbiinnfkokaadaaDoorStateArg
/- Package eval: the machine at an exit. -/
namespace Go.Proofs.YtbiinnfkokaadaaDoor.Ev
open Go.RowKit Book Mem
open Ir (T I O trA ReadsL outA outV)
open Mach (M less cells10 zero10 OwnsL OwnsM stV st_state ld_state state_size slice_one all_one)
set_option linter.unusedSimpArgs false
set_option linter.unusedVariables false
/-- a state's box whose lists are told one by one; further blocks stay -/
structure LV (W w : World) (h : Nat) (m : M) (vS vB vm vv : Value) (xS xB V : List Int) (fx : Nat → Option Obj) : Prop where
  hb : Below W.heap.size W w
  hh : W.heap.size ≤ h
  box : w.heap[h]? = some (.cells (cells10 m.ip m.handler vS vB vm m.out m.inp m.read m.status m.code) 28 (0, 0))
  st : Owns w W.heap.size 3 vS (vals xS)
  bk : Owns w W.heap.size 3 vB (vals xB)
  me : Owns w W.heap.size 3 vm (vals m.mem)
  vl : Owns w W.heap.size 3 vv (vals V)
  ns : ∀ k, blk vS = some k → k ≠ h ∧ blk vB ≠ some k ∧ blk vm ≠ some k ∧ blk vv ≠ some k
  nb : ∀ k, blk vB = some k → k ≠ h ∧ blk vm ≠ some k ∧ blk vv ≠ some k
  nm : ∀ k, blk vm = some k → k ≠ h ∧ blk vv ≠ some k
  nv : ∀ k, blk vv = some k → k ≠ h
  fr : ∀ k o, fx k = some o → w.heap[k]? = some o ∧ k ≠ h ∧ blk vS ≠ some k ∧ blk vB ≠ some k ∧ blk vm ≠ some k ∧ blk vv ≠ some k
section
variable {W w wn : World} {h : Nat} {m : M} {vS vB vm vv v : Value} {xS xB V ys : List Int} {fx : Nat → Option Obj}
theorem LV.lt (g : LV W w h m vS vB vm vv xS xB V fx) : h < w.heap.size := whole_lt g.box
/-- the stack is told -/
theorem LV.setS (g : LV W w h m vS vB vm vv xS xB V fx) (ho : Owns wn W.heap.size 3 v (vals ys)) (ht : Stirred w wn (blk vS).toList) (hk : ∀ b, blk v = some b → blk vS = some b ∨ w.heap.size ≤ b) :
    LV W (wn.setCell ⟨h, 2, none⟩ v) h m v vB vm vv ys xB V fx := by
  have hv : ∀ k, k ∈ (blk vS).toList → blk vS = some k := fun k hm => Option.mem_toList.1 hm
  have hq : ∀ k, blk v = some k → k ≠ h := fun k e e' => by
    subst e'
    rcases hk _ e with hk | e2
    · exact (g.ns _ hk).1 rfl
    · have := g.lt; omega
  have far : ∀ {u : Value} {xs : List Int}, Owns w W.heap.size 3 u (vals xs) → (∀ k, blk vS = some k → blk u ≠ some k) → ∀ k, blk v = some k → blk u ≠ some k := fun hu hn k e e' => by
    rcases hk _ e with hk | e2
    · exact hn k hk e'
    · have := (hu.block _ e').2.1; omega
  have ht2 := Stirred.setCell wn ⟨h, 2, none⟩ v
  have hx : ∀ {k : Nat}, k ≠ h → k ∉ [h] := fun h hm => h (List.mem_singleton.1 hm)
  have hB1 : Below W.heap.size W wn := g.hb.trans (ht.below (fun k hm => (g.st.block k (hv k hm)).1) g.hb.size)
  have keep : ∀ {u : Value} {xs : List Int}, Owns w W.heap.size 3 u (vals xs) → (∀ k, blk u = some k → k ≠ h ∧ blk vS ≠ some k) → Owns (wn.setCell ⟨h, 2, none⟩ v) W.heap.size 3 u (vals xs) := fun hu hn =>
    (hu.touch ht (fun k e hm => (hn k e).2 (hv k hm))).touch ht2 (fun k e => hx (hn k e).1)
  refine ⟨hB1.trans (ht2.below (fun k hm => by rw [List.mem_singleton.1 hm]; exact g.hh) hB1.size), g.hh, whole_set (ht.whole g.box (fun hm => (g.ns _ (hv _ hm)).1 rfl)) 2 v, ho.touch ht2 (fun k e => hx (hq k e)),
    keep g.bk (fun k e => ⟨(g.nb k e).1, fun e' => (g.ns k e').2.1 e⟩), keep g.me (fun k e => ⟨(g.nm k e).1, fun e' => (g.ns k e').2.2.1 e⟩), keep g.vl (fun k e => ⟨g.nv k e, fun e' => (g.ns k e').2.2.2 e⟩),
    fun k e => ⟨hq k e, far g.bk (fun k e => (g.ns k e).2.1) k e, far g.me (fun k e => (g.ns k e).2.2.1) k e, far g.vl (fun k e => (g.ns k e).2.2.2) k e⟩, g.nb, g.nm, g.nv, fun k o e => ?_⟩
  obtain ⟨f1, f2, f3, f4, f5, f6⟩ := g.fr k o e
  refine ⟨ht2.whole (ht.whole f1 (fun hm => f3 (hv k hm))) (hx f2), f2, fun e' => ?_, f4, f5, f6⟩
  rcases hk _ e' with hk | e2
  · exact f3 hk
  · have := whole_lt f1; omega
/-- the other stack is told -/
theorem LV.setB (g : LV W w h m vS vB vm vv xS xB V fx) (ho : Owns wn W.heap.size 3 v (vals ys)) (ht : Stirred w wn (blk vB).toList) (hk : ∀ b, blk v = some b → blk vB = some b ∨ w.heap.size ≤ b) :
    LV W (wn.setCell ⟨h, 3, none⟩ v) h m vS v vm vv xS ys V fx := by
  have hv : ∀ k, k ∈ (blk vB).toList → blk vB = some k := fun k hm => Option.mem_toList.1 hm
  have hq : ∀ k, blk v = some k → k ≠ h := fun k e e' => by
    subst e'
    rcases hk _ e with hk | e2
    · exact (g.nb _ hk).1 rfl
    · have := g.lt; omega
  have far : ∀ {u : Value} {xs : List Int}, Owns w W.heap.size 3 u (vals xs) → (∀ k, blk vB = some k → blk u ≠ some k) → ∀ k, blk v = some k → blk u ≠ some k := fun hu hn k e e' => by
    rcases hk _ e with hk | e2
    · exact hn k hk e'
    · have := (hu.block _ e').2.1; omega
  have ht2 := Stirred.setCell wn ⟨h, 3, none⟩ v
  have hx : ∀ {k : Nat}, k ≠ h → k ∉ [h] := fun h hm => h (List.mem_singleton.1 hm)
  have hB1 : Below W.heap.size W wn := g.hb.trans (ht.below (fun k hm => (g.bk.block k (hv k hm)).1) g.hb.size)
  have keep : ∀ {u : Value} {xs : List Int}, Owns w W.heap.size 3 u (vals xs) → (∀ k, blk u = some k → k ≠ h ∧ blk vB ≠ some k) → Owns (wn.setCell ⟨h, 3, none⟩ v) W.heap.size 3 u (vals xs) := fun hu hn =>
    (hu.touch ht (fun k e hm => (hn k e).2 (hv k hm))).touch ht2 (fun k e => hx (hn k e).1)
  refine ⟨hB1.trans (ht2.below (fun k hm => by rw [List.mem_singleton.1 hm]; exact g.hh) hB1.size), g.hh, whole_set (ht.whole g.box (fun hm => (g.nb _ (hv _ hm)).1 rfl)) 3 v,
    keep g.st (fun k e => ⟨(g.ns k e).1, (g.ns k e).2.1⟩), ho.touch ht2 (fun k e => hx (hq k e)), keep g.me (fun k e => ⟨(g.nm k e).1, fun e' => (g.nb k e').2.1 e⟩), keep g.vl (fun k e => ⟨g.nv k e, fun e' => (g.nb k e').2.2 e⟩),
    fun k e => ⟨(g.ns k e).1, fun e' => far g.st (fun k e1 e2 => (g.ns k e2).2.1 e1) k e' e, (g.ns k e).2.2⟩, fun k e => ⟨hq k e, far g.me (fun k e => (g.nb k e).2.1) k e, far g.vl (fun k e => (g.nb k e).2.2) k e⟩, g.nm, g.nv, fun k o e => ?_⟩
  obtain ⟨f1, f2, f3, f4, f5, f6⟩ := g.fr k o e
  refine ⟨ht2.whole (ht.whole f1 (fun hm => f4 (hv k hm))) (hx f2), f2, f3, fun e' => ?_, f5, f6⟩
  rcases hk _ e' with hk | e2
  · exact f4 hk
  · have := whole_lt f1; omega
end
theorem LV.of_run {W w : World} {q h : Nat} {t : T} {wat : List Int} {s : M} {V : List Int} {hit : Bool} {z : Sl} {ip : Int} (g : RunAt W w q t wat s V hit z) (hh : W.heap.size ≤ h)
    (hx : z.ex h = some (.cells (cells10 ip s.handler z.vs z.vb z.vm s.out s.inp s.read s.status s.code) 28 (0, 0))) :
    LV W w h { s with ip := ip } z.vs z.vb z.vm z.vv s.stack s.back V (fun k => if k = h then none else if k = q then some (.cells (cells22 t s hit z) 56 (0, 0)) else z.ex k) := by
  obtain ⟨f1, f2, f3, f4, f5, f6⟩ := g.fr h _ hx
  refine ⟨g.hb, hh, f1, g.st, g.bk, g.me, g.vl, fun k e => ⟨fun e' => by subst e'; exact f3 e, (g.ns k e).2⟩, fun k e => ⟨fun e' => by subst e'; exact f4 e, (g.nb k e).2⟩, fun k e => ⟨fun e' => by subst e'; exact f5 e, (g.nm k e).2⟩, fun k e e' => by subst e'; exact f6 e, fun k o e => ?_⟩
  split at e
  · cases e
  · rename_i n1
    split at e
    · rename_i n2
      subst n2
      cases e
      exact ⟨g.box, n1, fun e => (g.ns _ e).1 rfl, fun e => (g.nb _ e).1 rfl, fun e => (g.nm _ e).1 rfl, fun e => g.nv _ e rfl⟩
    · obtain ⟨e1, e2, e3⟩ := g.fr k o e
      exact ⟨e1, n1, e3⟩
end Go.Proofs.YtbiinnfkokaadaaDoor.Ev
/- Package eval: the machine at an exit: the walk. -/
namespace Go.Proofs.YtbiinnfkokaadaaDoor.Ev
open Go.RowKit Book Mem
open Ir (T I O trA ReadsL outA outV newBox boxOn)
open Mach (M less cells10 zero10 OwnsL OwnsM stV st_state ld_state state_size slice_one all_one)
set_option linter.unusedSimpArgs false
set_option linter.unusedVariables false
theorem LV.below {W w w' : World} {h : Nat} {m : M} {vS vB vm vv : Value} {xS xB V : List Int} {fx : Nat → Option Obj} (g : LV W w h m vS vB vm vv xS xB V fx) (hb : Below w.heap.size w w') : LV W w' h m vS vB vm vv xS xB V fx :=
  ⟨g.hb.trans (hb.mono g.hb.size), g.hh, (Stirred.of_below hb []).whole g.box List.not_mem_nil, g.st.below hb, g.bk.below hb, g.me.below hb, g.vl.below hb, g.ns, g.nb, g.nm, g.nv, fun k o e => ⟨(Stirred.of_below hb []).whole (g.fr k o e).1 List.not_mem_nil, (g.fr k o e).2⟩⟩
theorem fx_facts {q g r h n m : Nat} {z : Sl} {ob oh or og : Obj} (ho : q < g ∧ g < r ∧ r < h ∧ n = g ∧ m ≤ q) (hx : ∀ k o, z.ex k = some o → k < g ∧ k ≠ q) :
    (fun k => if k = h then none else if k = q then some ob else put1 h oh (put1 r or (put1 g og z.ex)) k) q = some ob ∧ (fun k => if k = h then none else if k = q then some ob else put1 h oh (put1 r or (put1 g og z.ex)) k) r = some or ∧ (fun k => if k = h then none else if k = q then some ob else put1 h oh (put1 r or (put1 g og z.ex)) k) g = some og ∧ ∀ k o, z.ex k = some o → (fun k => if k = h then none else if k = q then some ob else put1 h oh (put1 r or (put1 g og z.ex)) k) k = some o := by
  obtain ⟨h1, h2, h3, -, -⟩ := ho
  unfold put1
  dsimp only
  refine ⟨?_, ?_, ?_, fun k o e => ?_⟩
  · rw [if_neg (by omega), if_pos rfl]
  · rw [if_neg (by omega), if_neg (by omega), if_neg (by omega), if_pos rfl]
  · rw [if_neg (by omega), if_neg (by omega), if_neg (by omega), if_neg (by omega), if_pos rfl]
  · have hk := hx k o e
    rw [if_neg (by omega), if_neg hk.2, if_neg (by omega), if_neg (by omega), if_neg (by omega)]
    exact e
/-- what a call leaves, its answer the machine at an exit -/
def Left (W : World) (q : Nat) (t : T) (s : M) (hit : Bool) (z : Sl) (m : M) (e : Ending) (w' : World) : Prop :=
  ∃ v, e = .returned v ∧ OwnsM w' W.heap.size v m ∧ Below W.heap.size W w' ∧ w'.heap[q]? = some (.cells (cells22 t s hit z) 56 (0, 0)) ∧ ∀ k o, z.ex k = some o → w'.heap[k]? = some o
section
variable {W w : World} {q : Nat} {t : T} {wat : List Int} {s : M} {V : List Int} {hit : Bool} {z : Sl}
set_option maxHeartbeats 8000000 in
set_option maxRecDepth 100000 in
theorem leave_any (hR : RunAt W w q t wat s V hit z) (hz : s.stack.length ≤ 10000) (hz2 : s.back.length ≤ 10000) (hV : V.length ≤ 100000) (x : O) {xs xb : Value} (hxs : Reads W xs x.stack) (hxb : Reads W xb x.back) (l1 : x.stack.length ≤ 10000) (l2 : x.back.length ≤ 10000)
    {ks kb : Nat} (e1 : t.slots = (ks : Int)) (hk1 : ks ≤ s.stack.length) (e2 : t.backs = (kb : Int)) (hk2 : kb ≤ s.back.length) :
    Calls Tryd.prog 27 #[.pointer (some ⟨q, 0, none⟩), outV x xs xb] w (Left W q t s hit z (leaveM t s V x)) := by
  obtain ⟨w1, g, hw1, hg, HG, HB1, HZ1⟩ := newBox w (outA x xs xb) 39
  obtain ⟨w2, r, hw2, hr, HR, HB2, HZ2⟩ := newBox w1 zero10 28
  obtain ⟨w3, h, hw3, hh, HH, HB3, HZ3⟩ := newBox w2 zero10 28
  have R2 := Lib.hid (((hR.fresh (w' := w1) (bs := []) (Stirred.of_below HB1.out []) (fun k hk => by cases hk) (Nat.le_of_eq HZ1.out) HG.out).fresh (w' := w2) (bs := []) (Stirred.of_below HB2.out []) (fun k hk => by cases hk) (Nat.le_of_eq HZ2.out) HR.out))
  have hqg : q < g := by rw [← HZ1.out]; exact hR.lt
  have hgr : g < r := by rw [← HZ2.out]; exact whole_lt HG.out
  have hrh : r < h := by rw [← HZ3.out]; exact whole_lt HR.out
  have HO := Lib.hid (show q < g ∧ g < r ∧ r < h ∧ w.heap.size = g ∧ W.heap.size ≤ q from ⟨hqg, hgr, hrh, HZ1.out, hR.hq⟩)
  have HXL := Lib.hid (fun k o (e : z.ex k = some o) => show k < g ∧ k ≠ q from ⟨by rw [← HZ1.out]; exact whole_lt (hR.fr k o e).1, (hR.fr k o e).2.1⟩)
  have HG3 := Lib.hid (boxOn (boxOn HG.out HB2.out) HB3.out)
  have bx := R2.out.box
  have b9 : w2.cell? ⟨q, 9, none⟩ = some (.int .i64 s.ip) := whole_cell bx rfl
  have b10 : w2.cell? ⟨q, 10, none⟩ = some (.int .i64 s.handler) := whole_cell bx rfl
  have b11 : w2.cell? ⟨q, 11, none⟩ = some z.vs := whole_cell bx rfl
  have b12 : w2.cell? ⟨q, 12, none⟩ = some z.vb := whole_cell bx rfl
  have b13 : w2.cell? ⟨q, 13, none⟩ = some z.vm := whole_cell bx rfl
  have b14 : w2.cell? ⟨q, 14, none⟩ = some (.string s.out) := whole_cell bx rfl
  have b15 : w2.cell? ⟨q, 15, none⟩ = some (.string s.inp) := whole_cell bx rfl
  have b16 : w2.cell? ⟨q, 16, none⟩ = some (.int .i64 s.read) := whole_cell bx rfl
  have b17 : w2.cell? ⟨q, 17, none⟩ = some (.int .i64 s.status) := whole_cell bx rfl
  have b18 : w2.cell? ⟨q, 18, none⟩ = some (.int .i64 s.code) := whole_cell bx rfl
  have HONE := Lib.hid (And.intro (slice_one hR.st.slice) (And.intro (slice_one hR.bk.slice) (slice_one hR.me.slice)))
  have HA := Lib.hid (And.intro hz (And.intro hz2 (And.intro hV (And.intro l1 (And.intro l2 (And.intro hk1 hk2))))))
  have HXS := Lib.hid hxs
  have HXB := Lib.hid hxb
  have HE1 := Lib.hid e1
  have HE2 := Lib.hid e2
  obtain ⟨xip, xst, xk, xbk⟩ := x
  clear bx hR hz hz2 hV hxs hxb l1 l2 e1 e2 hk1 hk2 hqg hgr hrh
  go_enter Tryd.func27, Tryd.ntmps27
  go_upto_region 2 with (refine st_state (by rfl) _ _ rfl h (cells10 s.ip s.handler z.vs z.vb z.vm s.out s.inp s.read s.status s.code) rfl rfl _ _ HH.out rfl rfl (all_one HONE.out.1 HONE.out.2.1 HONE.out.2.2) ?_; intro w4 h4 t4)
  have hGh : g ∉ [h] := fun hm => by have h1 := List.mem_singleton.1 hm; have h2 := HO.out; omega
  have g4 := t4.whole HG3.out hGh
  have g0 : w4.cell? ⟨g, 0, none⟩ = some (.int .i64 xip) := whole_cell g4 rfl
  have h0 : w4.cell? ⟨h, 0, none⟩ = some (.int .i64 s.ip) := whole_cell h4 rfl
  have f0 : w4.frozen? ⟨h, 0, none⟩ = false := whole_frozen h4 0
  have R5 := Lib.hid (R2.out.fresh (w' := w4.setCell ⟨h, 0, none⟩ (.int .i64 xip)) (bs := [h]) (((Stirred.of_below HB3.out [h]).trans t4 (fun k hk => .inl hk)).trans (Stirred.setCell w4 ⟨h, 0, none⟩ (.int .i64 xip)) (fun k hk => .inl hk)) (fun k hk => List.mem_singleton.1 hk) (Nat.le_of_eq HZ3.out) (whole_set h4 0 (.int .i64 xip)))
  have L5 := Lib.hid (LV.of_run (h := h) (ip := xip) R5.out (by have := HO.out; omega) (put1_at h _ _))
  have HFX := Lib.hid (fx_facts (z := z) (ob := .cells (cells22 t s hit z) 56 (0, 0)) HO.out HXL.out (oh := .cells ((cells10 s.ip s.handler z.vs z.vb z.vm s.out s.inp s.read s.status s.code).setIfInBounds 0 (.int .i64 xip)) 28 (0, 0)) (or := .cells zero10 28 (0, 0)) (og := .cells (outA ⟨xip, xst, xk, xbk⟩ xs xb) 39 (0, 0)))
  obtain ⟨w5, hw5⟩ : ∃ w5, w4.setCell ⟨h, 0, none⟩ (.int .i64 xip) = w5 := ⟨_, rfl⟩
  rw [hw5] at L5
  change Hid (LV W w5 h _ _ _ _ _ _ _ _ (fun k => if k = h then none else if k = q then some (.cells (cells22 t s hit z) 56 (0, 0)) else put1 h (.cells ((cells10 s.ip s.handler z.vs z.vb z.vm s.out s.inp s.read s.status s.code).setIfInBounds 0 (.int .i64 xip)) 28 (0, 0)) (put1 r (.cells zero10 28 (0, 0)) (put1 g (.cells (outA ⟨xip, xst, xk, xbk⟩ xs xb) 39 (0, 0)) z.ex)) k)) at L5
  generalize (fun k => if k = h then none else if k = q then some (Obj.cells (cells22 t s hit z) 56 (0, 0)) else put1 h (.cells ((cells10 s.ip s.handler z.vs z.vb z.vm s.out s.inp s.read s.status s.code).setIfInBounds 0 (.int .i64 xip)) 28 (0, 0)) (put1 r (.cells zero10 28 (0, 0)) (put1 g (.cells (outA ⟨xip, xst, xk, xbk⟩ xs xb) 39 (0, 0)) z.ex)) k) = fx at L5 HFX
  obtain ⟨FQ, FR, FG, FE⟩ := HFX.out
  clear g4 h4 t4 b9 b10 b11 b12 b13 b14 b15 b16 b17 b18 hw1 hw2 hw3 hg hr hh R5 R2 HG3 HFX hGh
  dsimp only [Act.put]
  go_upto_region 3 with fail
  clear hw5 g0 h0 f0
  go_cut [] (fun wx => ∃ v6, Hid (LV W wx h { s with ip := xip } v6 z.vb z.vm z.vv (s.stack.take (s.stack.length - ks) ++ xk.map (val V)) s.back V fx))
  case first =>
    have L5d := Lib.hid (L5.out.below (Below.refl _ _).drew)
    have C1 := Lib.hid (lay_any (W := W) (w := w5.drew) (q := q) (vv := z.vv) (l := z.vs) (vp := xs) (ps := xk) (k := ks) L5d.out.hb (L5d.out.fr q _ FQ).1 (fun w' hw' => whole_cell hw' rfl) L5d.out.vl HA.out.2.2.1 L5d.out.st (L5d.out.fr q _ FQ).2.2.1 (fun b e => (L5d.out.ns b e).2.2.2) HXS.out HA.out.2.2.2.2.2.1 HA.out.1 HA.out.2.2.2.1)
    have a2 : w5.drew.cell? ⟨h, 2, none⟩ = some z.vs := whole_cell L5d.out.box rfl
    have a1 : w5.drew.cell? ⟨q, 1, none⟩ = some (.int .i64 (ks : Int)) := by have e := whole_cell (L5d.out.fr q _ FQ).1 (show (cells22 t s hit z)[1]? = some (.int .i64 t.slots) from rfl); rw [HE1.out] at e; exact e
    have ag : w5.drew.cell? ⟨g, 2, none⟩ = some xs := whole_cell (L5d.out.fr g _ FG).1 rfl
    go_wp2_with fail
    go_region_with ((go_at_call 31; refine C1.out.mono ?_; rintro e w6 ⟨v6, rfl, ho6, ht6, hk6⟩; have c2 : w6.cell? ⟨h, 2, none⟩ = some z.vs := whole_cell (ht6.whole L5d.out.box (fun hm => (L5d.out.ns _ (Option.mem_toList.1 hm)).1 rfl)) rfl; have f2 : w6.frozen? ⟨h, 2, none⟩ = false := whole_frozen (ht6.whole L5d.out.box (fun hm => (L5d.out.ns _ (Option.mem_toList.1 hm)).1 rfl)) 2; have L7 := Lib.hid (L5d.out.setS ho6 ht6 hk6); obtain ⟨ao6, cap6, e6⟩ := ho6.slice; obtain ⟨n6, hn6⟩ : ∃ n, (vals (s.stack.take (s.stack.length - ks) ++ xk.map (val V))).length = n := ⟨_, rfl⟩; rw [hn6] at e6; subst e6; clear ho6 ht6 hk6 hn6 a1 a2 ag))
    all_goals
      go_wp2_with fail
      go_meet
      exact ⟨_, L7⟩
  case rest =>
    obtain ⟨v6, L7⟩ := hcut
    clear L5
    obtain ⟨wa, hwa⟩ : ∃ wa, wc = wa := ⟨_, rfl⟩
    subst hwa
    go_upto_region 4 with fail
    go_cut [] (fun wx => ∃ v8, Hid (LV W wx h { s with ip := xip } v6 v8 z.vm z.vv (s.stack.take (s.stack.length - ks) ++ xk.map (val V)) (s.back.take (s.back.length - kb) ++ xbk.map (val V)) V fx))
    case first =>
      have L5d := Lib.hid (L7.out.below (Below.refl _ _).drew)
      have C1 := Lib.hid (lay_any (W := W) (w := wc.drew) (q := q) (vv := z.vv) (l := z.vb) (vp := xb) (ps := xbk) (k := kb) L5d.out.hb (L5d.out.fr q _ FQ).1 (fun w' hw' => whole_cell hw' rfl) L5d.out.vl HA.out.2.2.1 L5d.out.bk (L5d.out.fr q _ FQ).2.2.2.1 (fun b e => (L5d.out.nb b e).2.2) HXB.out HA.out.2.2.2.2.2.2 HA.out.2.1 HA.out.2.2.2.2.1)
      have a2 : wc.drew.cell? ⟨h, 3, none⟩ = some z.vb := whole_cell L5d.out.box rfl
      have a1 : wc.drew.cell? ⟨q, 2, none⟩ = some (.int .i64 (kb : Int)) := by have e := whole_cell (L5d.out.fr q _ FQ).1 (show (cells22 t s hit z)[2]? = some (.int .i64 t.backs) from rfl); rw [HE2.out] at e; exact e
      have ag : wc.drew.cell? ⟨g, 3, none⟩ = some xb := whole_cell (L5d.out.fr g _ FG).1 rfl
      go_wp2_with fail
      go_region_with ((go_at_call 31; refine C1.out.mono ?_; rintro e w6 ⟨v6, rfl, ho6, ht6, hk6⟩; have c2 : w6.cell? ⟨h, 3, none⟩ = some z.vb := whole_cell (ht6.whole L5d.out.box (fun hm => (L5d.out.nb _ (Option.mem_toList.1 hm)).1 rfl)) rfl; have f2 : w6.frozen? ⟨h, 3, none⟩ = false := whole_frozen (ht6.whole L5d.out.box (fun hm => (L5d.out.nb _ (Option.mem_toList.1 hm)).1 rfl)) 3; have L7 := Lib.hid (L5d.out.setB ho6 ht6 hk6); obtain ⟨ao6, cap6, e6⟩ := ho6.slice; obtain ⟨n6, hn6⟩ : ∃ n, (vals (s.back.take (s.back.length - kb) ++ xbk.map (val V))).length = n := ⟨_, rfl⟩; rw [hn6] at e6; subst e6; clear ho6 ht6 hk6 hn6 a1 a2 ag))
      all_goals
        go_wp2_with fail
        go_meet
        exact ⟨_, L7⟩
    case rest =>
      obtain ⟨v8, L9⟩ := hcut
      clear L7
      have HBX := Lib.hid L9.out.box
      have HRX := Lib.hid (L9.out.fr r _ FR).1
      have HON := Lib.hid (And.intro (slice_one L9.out.st.slice) (And.intro (slice_one L9.out.bk.slice) (slice_one L9.out.me.slice)))
      go_wp2_with (first
        | (refine ld_state (by rfl) _ rfl _ rfl _ _ HBX.out rfl ?_)
        | (refine st_state (by rfl) _ _ rfl r _ rfl rfl _ _ HRX.out rfl rfl (all_one HON.out.1 HON.out.2.1 HON.out.2.2) ?_; intro wf hr ht; have HRF := Lib.hid hr; have HTF := Lib.hid ht; clear hr ht))
      refine bodyPost_ret (results_cell_row rfl _ _ r _ _ _ _ rfl HRF.out Tryd.underlying28 rfl state_size) rfl ?_
      have hx : ∀ {k : Nat}, k ≠ r → k ∉ [r] := fun h hm => h (List.mem_singleton.1 hm)
      obtain ⟨-, -, r1, r2, r3, r4⟩ := L9.out.fr r _ FR
      have e1 : t.slots.toNat = ks := by rw [HE1.out]; exact Int.toNat_natCast ks
      have e2 : t.backs.toNat = kb := by rw [HE2.out]; exact Int.toNat_natCast kb
      refine ⟨_, rfl, ⟨v6, v8, z.vm, by unfold leaveM; rfl, ?_⟩, L9.out.hb.trans (HTF.out.below (fun k hk => by rw [List.mem_singleton.1 hk]; have := HO.out; omega) L9.out.hb.size), HTF.out.whole (L9.out.fr q _ FQ).1 (hx (by have := HO.out; omega)), fun k o e => HTF.out.whole (L9.out.fr k _ (FE k o e)).1 (hx (by have h1 := (HXL.out k o e).1; have h2 := HO.out; omega))⟩
      unfold leaveM less
      rw [e1, e2]
      exact ⟨L9.out.st.touch HTF.out (fun k e => hx (fun e' => by subst e'; exact r1 e)), L9.out.bk.touch HTF.out (fun k e => hx (fun e' => by subst e'; exact r2 e)), L9.out.me.touch HTF.out (fun k e => hx (fun e' => by subst e'; exact r3 e)), fun k e => ⟨(L9.out.ns k e).2.1, (L9.out.ns k e).2.2.1⟩, fun k e => (L9.out.nb k e).2.1⟩
end
end Go.Proofs.YtbiinnfkokaadaaDoor.Ev
/- Package eval: may a trace be entered? -/
namespace Go.Proofs.YtbiinnfkokaadaaDoor.Ev
open Go.RowKit Book Mem
open Ir (T I O trA trV ReadsL newBox boxOn)
open Mach (M cells10 stV)
set_option linter.unusedSimpArgs false
set_option linter.unusedVariables false
/-- a flag, and the world but for new blocks -/
def SaysF (b : Bool) (w : World) (e : Ending) (w' : World) : Prop := e = .returned (.bool b) ∧ Below w.heap.size w w'
set_option maxHeartbeats 8000000 in
set_option maxRecDepth 100000 in
theorem may_any {w : World} {t : T} {s : M} {vi vo vc vm : Value} {so bo : Option Addr} {sc bc : Nat} (h1 : s.stack.length ≤ 10000) (h2 : s.back.length ≤ 10000) :
    Calls Tryd.prog 13 #[trV t vi vo vc, stV s (.slice so s.stack.length sc) (.slice bo s.back.length bc) vm] w (SaysF (mayT t s) w) := by
  obtain ⟨n, hn⟩ : ∃ n, s.stack.length = n := ⟨_, rfl⟩
  obtain ⟨m, hm⟩ : ∃ n, s.back.length = n := ⟨_, rfl⟩
  rw [hn] at h1 ⊢
  rw [hm] at h2 ⊢
  obtain ⟨w1, g, hw1, hg, HG, HB1, HZ1⟩ := newBox w (trA t vi vo vc) 26
  obtain ⟨w2, k, hw2, hk, HK, HB2, HZ2⟩ := newBox w1 (cells10 s.ip s.handler (.slice so n sc) (.slice bo m bc) vm s.out s.inp s.read s.status s.code) 28
  have HBF := Lib.hid (HB1.out.trans (HB2.out.mono HB1.out.size))
  have hg2 := boxOn HG.out HB2.out
  have t0 : w2.cell? ⟨g, 0, none⟩ = some (.int .i64 t.start) := whole_cell hg2 rfl
  have t1 : w2.cell? ⟨g, 1, none⟩ = some (.int .i64 t.slots) := whole_cell hg2 rfl
  have t2 : w2.cell? ⟨g, 2, none⟩ = some (.int .i64 t.backs) := whole_cell hg2 rfl
  have t3 : w2.cell? ⟨g, 3, none⟩ = some (.int .i64 t.grow) := whole_cell hg2 rfl
  have t4 : w2.cell? ⟨g, 4, none⟩ = some (.int .i64 t.growBack) := whole_cell hg2 rfl
  have s0 : w2.cell? ⟨k, 0, none⟩ = some (.int .i64 s.ip) := whole_cell HK.out rfl
  have s2 : w2.cell? ⟨k, 2, none⟩ = some (.slice so n sc) := whole_cell HK.out rfl
  have s3 : w2.cell? ⟨k, 3, none⟩ = some (.slice bo m bc) := whole_cell HK.out rfl
  have s8 : w2.cell? ⟨k, 8, none⟩ = some (.int .i64 s.status) := whole_cell HK.out rfl
  have W1 := Lib.hid (within_any t.slots (n : Int) w2)
  have W2 := Lib.hid (within_any t.grow (48 - (n : Int)) w2)
  have W3 := Lib.hid (within_any t.backs (m : Int) w2)
  have W4 := Lib.hid (within_any t.growBack (48 - (m : Int)) w2)
  have HM := Lib.hid (show mayT t s = (decide (s.status = 0) && (decide (s.ip = t.start) && (Ir.within t.slots n && (Ir.within t.grow (48 - n) && (Ir.within t.backs m && Ir.within t.growBack (48 - m)))))) by unfold mayT; rw [hn, hm])
  rw [HM.out]
  obtain ⟨stt, hstt⟩ : ∃ x, s.status = x := ⟨_, rfl⟩
  obtain ⟨sip, hsip⟩ : ∃ x, s.ip = x := ⟨_, rfl⟩
  obtain ⟨ts, hts⟩ : ∃ x, t.start = x := ⟨_, rfl⟩
  rw [hstt] at s8 ⊢
  rw [hsip] at s0 ⊢
  rw [hts] at t0 ⊢
  clear hg2 hn hm HM hstt hsip hts

  by_cases c1 : stt = 0
  rotate_left
  · have e1 : (stt == 0) = false := by simpa using c1
    rw [decide_eq_false c1, Bool.false_and]
    clear c1
    go_enter Tryd.func13, Tryd.ntmps13
    go_wp2_with (go_at_call 26; first | (with_reducible refine W1.out.mono ?_; rintro e w' ⟨rfl, rfl⟩) | (with_reducible refine W2.out.mono ?_; rintro e w' ⟨rfl, rfl⟩) | (with_reducible refine W3.out.mono ?_; rintro e w' ⟨rfl, rfl⟩) | (with_reducible refine W4.out.mono ?_; rintro e w' ⟨rfl, rfl⟩))
    go_ret
    exact ⟨rfl, HBF.out⟩
  have e1 : (stt == 0) = true := by simpa using c1
  rw [decide_eq_true c1, Bool.true_and]
  clear c1
  by_cases c2 : sip = ts
  rotate_left
  · have e2 : (sip == ts) = false := by simpa using c2
    rw [decide_eq_false c2, Bool.false_and]
    clear c2
    go_enter Tryd.func13, Tryd.ntmps13
    go_wp2_with (go_at_call 26; first | (with_reducible refine W1.out.mono ?_; rintro e w' ⟨rfl, rfl⟩) | (with_reducible refine W2.out.mono ?_; rintro e w' ⟨rfl, rfl⟩) | (with_reducible refine W3.out.mono ?_; rintro e w' ⟨rfl, rfl⟩) | (with_reducible refine W4.out.mono ?_; rintro e w' ⟨rfl, rfl⟩))
    go_ret
    exact ⟨rfl, HBF.out⟩
  have e2 : (sip == ts) = true := by simpa using c2
  rw [decide_eq_true c2, Bool.true_and]
  clear c2
  cases d0 : Ir.within t.slots (n : Int)
  · rw [d0] at W1
    rw [Bool.false_and]
    clear d0
    go_enter Tryd.func13, Tryd.ntmps13
    go_wp2_with (go_at_call 26; first | (with_reducible refine W1.out.mono ?_; rintro e w' ⟨rfl, rfl⟩) | (with_reducible refine W2.out.mono ?_; rintro e w' ⟨rfl, rfl⟩) | (with_reducible refine W3.out.mono ?_; rintro e w' ⟨rfl, rfl⟩) | (with_reducible refine W4.out.mono ?_; rintro e w' ⟨rfl, rfl⟩))
    go_ret
    exact ⟨rfl, HBF.out⟩
  rw [d0] at W1
  rw [Bool.true_and]
  clear d0
  cases d1 : Ir.within t.grow (48 - (n : Int))
  · rw [d1] at W2
    rw [Bool.false_and]
    clear d1
    go_enter Tryd.func13, Tryd.ntmps13
    go_wp2_with (go_at_call 26; first | (with_reducible refine W1.out.mono ?_; rintro e w' ⟨rfl, rfl⟩) | (with_reducible refine W2.out.mono ?_; rintro e w' ⟨rfl, rfl⟩) | (with_reducible refine W3.out.mono ?_; rintro e w' ⟨rfl, rfl⟩) | (with_reducible refine W4.out.mono ?_; rintro e w' ⟨rfl, rfl⟩))
    go_ret
    exact ⟨rfl, HBF.out⟩
  rw [d1] at W2
  rw [Bool.true_and]
  clear d1
  cases d2 : Ir.within t.backs (m : Int)
  · rw [d2] at W3
    rw [Bool.false_and]
    clear d2
    go_enter Tryd.func13, Tryd.ntmps13
    go_wp2_with (go_at_call 26; first | (with_reducible refine W1.out.mono ?_; rintro e w' ⟨rfl, rfl⟩) | (with_reducible refine W2.out.mono ?_; rintro e w' ⟨rfl, rfl⟩) | (with_reducible refine W3.out.mono ?_; rintro e w' ⟨rfl, rfl⟩) | (with_reducible refine W4.out.mono ?_; rintro e w' ⟨rfl, rfl⟩))
    go_ret
    exact ⟨rfl, HBF.out⟩
  rw [d2] at W3
  rw [Bool.true_and]
  clear d2
  cases d3 : Ir.within t.growBack (48 - (m : Int))
  · rw [d3] at W4
    clear d3
    go_enter Tryd.func13, Tryd.ntmps13
    go_wp2_with (go_at_call 26; first | (with_reducible refine W1.out.mono ?_; rintro e w' ⟨rfl, rfl⟩) | (with_reducible refine W2.out.mono ?_; rintro e w' ⟨rfl, rfl⟩) | (with_reducible refine W3.out.mono ?_; rintro e w' ⟨rfl, rfl⟩) | (with_reducible refine W4.out.mono ?_; rintro e w' ⟨rfl, rfl⟩))
    go_ret
    exact ⟨rfl, HBF.out⟩
  rw [d3] at W4
  clear d3
  go_enter Tryd.func13, Tryd.ntmps13
  go_wp2_with (go_at_call 26; first | (with_reducible refine W1.out.mono ?_; rintro e w' ⟨rfl, rfl⟩) | (with_reducible refine W2.out.mono ?_; rintro e w' ⟨rfl, rfl⟩) | (with_reducible refine W3.out.mono ?_; rintro e w' ⟨rfl, rfl⟩) | (with_reducible refine W4.out.mono ?_; rintro e w' ⟨rfl, rfl⟩))
  go_ret
  exact ⟨rfl, HBF.out⟩
end Go.Proofs.YtbiinnfkokaadaaDoor.Ev
/- Package eval: a trace is run. -/
namespace Go.Proofs.YtbiinnfkokaadaaDoor.Ev
open Go.RowKit Book Mem
open Ir (T I O trA trV ReadsL ReadsO outA outV newBox boxOn ld_tr ld_out CI CT)
open Mach (M less cells10 zero10 OwnsL OwnsM ReadsM stV st_state ld_state state_size slice_one all_one)
set_option linter.unusedSimpArgs false
set_option linter.unusedVariables false
abbrev zero3 : Array Value := #[.int .i64 0, .int .i64 0, .bool false]
abbrev zero4 : Array Value := #[.int .i64 0, .int .i64 0, .slice none 0 0, .slice none 0 0]
set_option maxRecDepth 1000000 in
theorem done_size : (Tryd.prog.info? 34).map (·.size) = some 3 := by kernel_rfl
section
variable {ops : Array Oper} {rest : List Oper} {o : Oper} {a : Act} {w : World} {Q : Exit → Act → World → Prop}
theorem st_done (hw : Region.wanted o (yielded ops a.tmps) = true) (x y : Operand) (ho : o.op = .store 34 x y) (g : Nat) (cs : Array Value) (hx : a.eval x = .pointer (some ⟨g, 0, none⟩)) (hy : a.eval y = .agg cs) (hcs : cs.size = 3) (old : Array Value) (hold : old.size = 3) (hg : w.heap[g]? = some (.cells old 34 (0, 0))) (h1 : cs.all (·.oneCell') = true)
    (h : ∀ w', w'.heap[g]? = some (.cells cs 34 (0, 0)) → Stirred w w' [g] → wpList Tryd.prog ops Q rest (a.put o.dst undef) w') : wpList Tryd.prog ops Q (o :: rest) a w :=
  wpList_setbox hw _ x y ho g cs hx hy old _ hg (by rw [done_size, hcs]) (by rw [hold, hcs]) h1 h
theorem st_out (hw : Region.wanted o (yielded ops a.tmps) = true) (x y : Operand) (ho : o.op = .store 39 x y) (g : Nat) (cs : Array Value) (hx : a.eval x = .pointer (some ⟨g, 0, none⟩)) (hy : a.eval y = .agg cs) (hcs : cs.size = 4) (old : Array Value) (hold : old.size = 4) (hg : w.heap[g]? = some (.cells old 39 (0, 0))) (h1 : cs.all (·.oneCell') = true)
    (h : ∀ w', w'.heap[g]? = some (.cells cs 39 (0, 0)) → Stirred w w' [g] → wpList Tryd.prog ops Q rest (a.put o.dst undef) w') : wpList Tryd.prog ops Q (o :: rest) a w :=
  wpList_setbox hw _ x y ho g cs hx hy old _ hg (by rw [Ir.out_size, hcs]) (by rw [hold, hcs]) h1 h
end
/-- two rows are answered -/
theorem results_two {P : Program} {fn : Func} {p u : Tmp} {ty tu : TypeId} (h : fn.results = #[.cell p ty, .cell u tu]) (tmps : Array Value) (w : World) (g k : Nat) (t1 t2 : TypeId) (cs ds : Array Value) (fr fs : Nat × Nat) (d e : TypeDesc)
    (hp : tmps.getD p undef = .pointer (some ⟨g, 0, none⟩)) (hg : w.heap[g]? = some (.cells cs t1 fr)) (hu : P.underlying ty = some d) (hd : (match d with | .struct _ | .array _ _ => true | _ => false) = true) (hi : (P.info? ty).map (·.size) = some cs.size)
    (hq : tmps.getD u undef = .pointer (some ⟨k, 0, none⟩)) (hk : w.heap[k]? = some (.cells ds t2 fs)) (hv : P.underlying tu = some e) (he : (match e with | .struct _ | .array _ _ => true | _ => false) = true) (hj : (P.info? tu).map (·.size) = some ds.size) :
    (results fn tmps).run P w = .ok (.tuple #[.agg cs, .agg ds]) w := by
  have hp' : tmps[p]?.getD undef = .pointer (some ⟨g, 0, none⟩) := by simpa using hp
  have hq' : tmps[u]?.getD undef = .pointer (some ⟨k, 0, none⟩) := by simpa using hq
  simp [results, h, hp', hq', asAddr, run_loadVar_row w g t1 ty cs fr d hg hu hd hi, run_loadVar_row w k t2 tu ds fs e hk hv he hj]
/-- what a run answers -/
def Runs (r : R) (w : World) (e : Ending) (w' : World) : Prop :=
  ∃ v, e = .returned (.tuple #[v, .agg #[.int .i64 r.exit, .int .i64 r.steps, .bool r.hit]]) ∧ OwnsM w' w.heap.size v r.s ∧ Below w.heap.size w w'
theorem own_run {w w6 wf : World} {B : Nat} {s : M} {vs vb vm : Value} {ex st : Int} {hit : Bool} {bs : List Nat} (ho : OwnsL w6 B vs vb vm s) (ht : Stirred w6 wf bs) (hB : w.heap.size ≤ B) (hbs : ∀ k ∈ bs, w.heap.size ≤ k ∧ k < B) (hb : Below w.heap.size w w6) :
    Runs ⟨s, ex, st, hit⟩ w (.returned (.tuple #[stV s vs vb vm, .agg #[.int .i64 ex, .int .i64 st, .bool hit]])) wf :=
  have far : ∀ {v : Value} {xs : List Int}, Owns w6 B 3 v (vals xs) → Owns wf w.heap.size 3 v (vals xs) := fun h => (h.touch ht (fun k e hm => by have h1 := (hbs k hm).2; have h2 := (h.block k e).1; omega)).from hB
  ⟨_, rfl, ⟨vs, vb, vm, rfl, ⟨far ho.st, far ho.bk, far ho.me, ho.sb, ho.bm⟩⟩, hb.trans (ht.below (fun k hk => (hbs k hk).1) hb.size)⟩
set_option maxHeartbeats 8000000 in
set_option maxRecDepth 100000 in
/-- .. of a trace that may not be entered -/
theorem run_not {w : World} {t : T} {s : M} {vi vo vc vw v : Value} (hm : ReadsM w v s) (h1 : s.stack.length ≤ 10000) (h2 : s.back.length ≤ 10000) (h3 : s.mem.length ≤ 10000) (hmay : mayT t s = false) :
    Calls Tryd.prog 11 #[trV t vi vo vc, v, vw] w (Runs ⟨s, -1, 0, false⟩ w) := by
  have HM := Lib.hid hm
  obtain ⟨vs, vb, vm, rfl, ⟨⟨so, sc, e1, -⟩, -⟩, ⟨⟨bo, bc, e2, -⟩, -⟩, -⟩ := hm
  subst e1
  subst e2
  obtain ⟨w1, gt, hw1, hgt, HGT, HB1, HZ1⟩ := newBox w (trA t vi vo vc) 26
  obtain ⟨w2, gs, hw2, hgs, HGS, HB2, HZ2⟩ := newBox w1 (cells10 s.ip s.handler (.slice so s.stack.length sc) (.slice bo s.back.length bc) vm s.out s.inp s.read s.status s.code) 28
  obtain ⟨w3, r, hw3, hr, HR, HB3, HZ3⟩ := newBox w2 zero10 28
  obtain ⟨w4, d, hw4, hd, HD, HB4, HZ4⟩ := newBox w3 zero3 34
  have HB24 := Lib.hid (HB3.out.trans (HB4.out.mono HB3.out.size))
  have HB14 := Lib.hid (HB2.out.trans (HB24.out.mono HB2.out.size))
  have HB04 := Lib.hid (HB1.out.trans (HB14.out.mono HB1.out.size))
  have HT4 := Lib.hid (boxOn HGT.out HB14.out)
  have HS4 := Lib.hid (boxOn HGS.out HB24.out)
  have HR4 := Lib.hid (boxOn HR.out HB4.out)
  have HRD := Lib.hid (show w.heap.size ≤ r ∧ r < d from ⟨by rw [← HZ3.out]; exact Nat.le_trans HB1.out.size HB2.out.size, by rw [← HZ4.out]; exact whole_lt HR.out⟩)
  have CM := Lib.hid (show Calls Tryd.prog 13 _ w4 (SaysF false w4) from by have h := may_any (w := w4) (t := t) (s := s) (vi := vi) (vo := vo) (vc := vc) (vm := vm) (so := so) (bo := bo) (sc := sc) (bc := bc) h1 h2; rw [hmay] at h; exact h)
  have CC := Lib.hid (fun wc (hb : Below w4.heap.size w4 wc) => innCopy_any (HM.out.below (HB04.out.trans (hb.mono HB04.out.size))) h1 h2 h3)
  clear h1 h2 h3 hmay HGT HGS HR
  go_enter Tryd.func11, Tryd.ntmps11
  go_wp2_with (first
    | (refine ld_tr (by rfl) _ rfl gt rfl _ rfl HT4.out ?_)
    | (refine ld_state (by rfl) _ rfl gs rfl _ _ HS4.out rfl ?_)
    | (go_at_call 13; refine CM.out.mono ?_; rintro e w5 ⟨rfl, hb⟩; have HB5 := Lib.hid hb; have HS5 := Lib.hid (boxOn HS4.out hb); have HR5 := Lib.hid (boxOn HR4.out hb); have HD5 := Lib.hid (boxOn HD.out hb); have C := Lib.hid (CC.out _ hb); clear hb)
    | (refine ld_state (by rfl) _ rfl gs rfl _ _ HS5.out rfl ?_))
  refine C.out.mono ?_
  rintro e w6 ⟨v6, rfl, ⟨vs6, vb6, vm6, rfl, ho⟩, hb⟩
  have HO := Lib.hid ho
  have HB6 := Lib.hid (HB5.out.trans (hb.mono HB5.out.size))
  have HR6 := Lib.hid (boxOn HR5.out hb)
  have HD6 := Lib.hid (boxOn HD5.out hb)
  have HON := Lib.hid (And.intro (slice_one ho.st.slice) (And.intro (slice_one ho.bk.slice) (slice_one ho.me.slice)))
  have H5 := Lib.hid HB5.out.size
  clear ho hb C HS5 HR5 HD5
  go_wp2_with (first
    | (refine st_state (by rfl) _ _ rfl r _ rfl rfl _ _ HR6.out rfl rfl (all_one HON.out.1 HON.out.2.1 HON.out.2.2) ?_; intro w7 h7 t7; have HR7 := Lib.hid h7; have HT7 := Lib.hid t7; have HD7 := Lib.hid (t7.whole HD6.out (fun hm => by have h1 := List.mem_singleton.1 hm; have h2 := HRD.out.2; omega)); clear h7 t7)
    | (refine st_done (by rfl) _ _ rfl d #[.int .i64 (-1), .int .i64 0, .bool false] rfl rfl rfl _ rfl HD7.out (by simp [Value.oneCell']) ?_; intro w8 h8 t8; have HD8 := Lib.hid h8; have HT8 := Lib.hid t8; have HR8 := Lib.hid (t8.whole HR7.out (fun hm => by have h1 := List.mem_singleton.1 hm; have h2 := HRD.out.2; omega)); clear h8 t8))
  refine bodyPost_ret (results_two rfl _ _ r d _ _ _ _ _ _ _ _ rfl HR8.out Tryd.underlying28 rfl state_size rfl HD8.out Tryd.underlying34 rfl done_size) rfl ?_
  have HT := Lib.hid (HT7.out.more (cs := [r, d]) (fun k hk => by rw [List.mem_singleton.1 hk]; exact List.mem_cons_self) |>.trans (HT8.out.more (cs := [r, d]) (fun k hk => by rw [List.mem_singleton.1 hk]; exact List.mem_cons_of_mem _ List.mem_cons_self)) (fun k hk => .inl hk))
  exact own_run HO.out HT.out (Nat.le_trans HB04.out.size H5.out) (fun k hk => by
    have h1 := HRD.out
    have h2 := whole_lt HR4.out
    have h3 := whole_lt HD.out
    have h4 := H5.out
    rcases List.mem_cons.1 hk with h | h
    · omega
    · have := List.mem_singleton.1 h; omega) (HB04.out.trans (HB6.out.mono HB04.out.size))
end Go.Proofs.YtbiinnfkokaadaaDoor.Ev
/- A region that draws its order and fills boxes: one step each. -/
namespace Go.Proofs.YtbiinnfkokaadaaDoor.Mach
open Go.RowKit Book Mem
set_option linter.unusedVariables false
set_option linter.unusedSimpArgs false
section
variable {ops : Array Oper} {o : Oper} {a : Act} {w : World} {K : Act → World → Prop} {Q : Exit → Act → World → Prop} {F : Prop}
/-- an empty box is made -/
theorem step_alloc_state (hw : Region.wanted o (yielded ops a.tmps) = true) (ho : o.op = .alloc 28)
    (h : ∀ g w', w.heap.size = g → w'.heap[g]? = some (.cells zero10 28 (0, 0)) → Below w.heap.size w w' → K (a.put o.dst (.pointer (some ⟨g, 0, none⟩))) w') : if Region.wanted o (yielded ops a.tmps) = true then o.wp Tryd.prog a w K Q else F := by
  rw [if_pos hw]
  have hk := h w.heap.size (w.alloc (.cells zero10 28)) rfl (heap_alloc_new w _) ((Below.refl w.heap.size w).alloc (Nat.le_refl _) _)
  obtain ⟨dst, op, ty, pos, after, guard⟩ := o
  simp only at ho hk ⊢
  subst ho
  clear h hw
  generalize hw' : w.alloc (.cells zero10 28) = w' at hk
  go_simp
  exact hk
/-- a box is filled -/
theorem step_st_state (hw : Region.wanted o (yielded ops a.tmps) = true) (x y : Operand) (ho : o.op = .store 28 x y) (g : Nat) (cells : Array Value) (hx : a.eval x = .pointer (some ⟨g, 0, none⟩)) (hy : a.eval y = .agg cells) (old : Array Value) (hg : w.heap[g]? = some (.cells old 28 (0, 0))) (hs : cells.size = 10) (hold : old.size = 10) (h1 : cells.all (·.oneCell') = true)
    (h : ∀ w', w'.heap[g]? = some (.cells cells 28 (0, 0)) → Stirred w w' [g] → K (a.put o.dst undef) w') : if Region.wanted o (yielded ops a.tmps) = true then o.wp Tryd.prog a w K Q else F := by
  rw [if_pos hw]
  have hz : (Tryd.prog.info? 28).map (·.size) = some cells.size := by rw [hs]; exact state_size
  exact wp_store_row 28 x y ho g cells hx hy 28 old hg hz (by rw [hold, hs]) h1 (h _ (setRow_heap w g old cells 28 (0, 0) hg) (Stirred.setRow w g cells))
theorem step_st_done (hw : Region.wanted o (yielded ops a.tmps) = true) (x y : Operand) (ho : o.op = .store 34 x y) (g : Nat) (cells : Array Value) (hx : a.eval x = .pointer (some ⟨g, 0, none⟩)) (hy : a.eval y = .agg cells) (old : Array Value) (hg : w.heap[g]? = some (.cells old 34 (0, 0))) (hs : cells.size = 3) (hold : old.size = 3) (h1 : cells.all (·.oneCell') = true)
    (h : ∀ w', w'.heap[g]? = some (.cells cells 34 (0, 0)) → Stirred w w' [g] → K (a.put o.dst undef) w') : if Region.wanted o (yielded ops a.tmps) = true then o.wp Tryd.prog a w K Q else F := by
  rw [if_pos hw]
  have hz : (Tryd.prog.info? 34).map (·.size) = some cells.size := by rw [hs]; exact Ev.done_size
  exact wp_store_row 34 x y ho g cells hx hy 34 old hg hz (by rw [hold, hs]) h1 (h _ (setRow_heap w g old cells 34 (0, 0) hg) (Stirred.setRow w g cells))
end
end Go.Proofs.YtbiinnfkokaadaaDoor.Mach
/- Package eval: a trace that may be entered is run. -/
namespace Go.Proofs.YtbiinnfkokaadaaDoor.Ev
open Go.RowKit Book Mem
open Ir (T I O trA trV ReadsL ReadsO outA outV newBox boxOn ld_tr ld_out CI CT)
open Mach (M less cells10 zero10 OwnsL OwnsM ReadsM stV st_state ld_state state_size slice_one all_one step_st_state)
set_option linter.unusedSimpArgs false
set_option linter.unusedVariables false
/-- the run's box is made -/
theorem RunAt.made {w w5 w6 : World} {t : T} {wat : List Int} {s : M} {vs vb vm vw vi vo vc : Value} {ex : Nat → Option Obj} (hb5 : Below w.heap.size w w5) (hb : Below w5.heap.size w5 w6) (ho : OwnsL w6 w5.heap.size vs vb vm s) (ht : ReadsL w vi vo vc t) (hw : Reads w vw wat) (hx : ∀ k o, ex k = some o → w5.heap[k]? = some o) :
    RunAt w (w6.alloc (.cells (cells22 t s false ⟨vs, vb, vm, .slice none 0 0, vw, vi, vo, vc, ex⟩) 56)) w6.heap.size t wat s [] false ⟨vs, vb, vm, .slice none 0 0, vw, vi, vo, vc, ex⟩ := by
  have hB := hb5.trans (hb.mono hb5.size)
  have ha := (Below.refl w6.heap.size w6).alloc (Nat.le_refl _) (.cells (cells22 t s false ⟨vs, vb, vm, .slice none 0 0, vw, vi, vo, vc, ex⟩) 56)
  refine ⟨hB.trans (ha.mono hB.size), hB.size, heap_alloc_new w6 _, (ho.st.from hb5.size).below ha, (ho.bk.from hb5.size).below ha, (ho.me.from hb5.size).below ha, Owns.nil _ _ _,
    fun k e => ⟨fun e' => by have := (ho.st.block k e).2.1; omega, (ho.sb k e).1, (ho.sb k e).2, fun e' => by cases e'⟩, fun k e => ⟨fun e' => by have := (ho.bk.block k e).2.1; omega, ho.bm k e, fun e' => by cases e'⟩, fun k e => ⟨fun e' => by have := (ho.me.block k e).2.1; omega, fun e' => by cases e'⟩, fun k e => (by cases e), ht, hw, fun k o e => ?_⟩
  have h1 := hx k o e
  have hk := whole_lt h1
  have h2 := (Stirred.of_below hb []).whole h1 List.not_mem_nil
  exact ⟨(Stirred.of_below ha []).whole h2 List.not_mem_nil, fun e' => by have := hb.size; omega, fun e' => by have := (ho.st.block _ e').1; omega, fun e' => by have := (ho.bk.block _ e').1; omega, fun e' => by have := (ho.me.block _ e').1; omega, fun e' => by cases e'⟩
theorem two_more {w w1 w2 : World} {r d : Nat} (h : Stirred w w1 [r]) (g : Stirred w1 w2 [d]) : Stirred w w2 [r, d] :=
  (h.more (cs := [r, d]) (fun k hk => by rw [List.mem_singleton.1 hk]; exact List.mem_cons_self)).trans (g.more (cs := [r, d]) (fun k hk => by rw [List.mem_singleton.1 hk]; exact List.mem_cons_of_mem _ List.mem_cons_self)) (fun k hk => .inl hk)
theorem may_slots {t : T} {s : M} (h : mayT t s = true) : ∃ ks kb : Nat, t.slots = (ks : Int) ∧ ks ≤ s.stack.length ∧ t.backs = (kb : Int) ∧ kb ≤ s.back.length := by
  unfold mayT Ir.within at h
  simp only [Bool.and_eq_true, decide_eq_true_eq] at h
  obtain ⟨-, -, h1, -, h2, -⟩ := h
  exact ⟨t.slots.toNat, t.backs.toNat, by omega, by omega, by omega, by omega⟩
theorem out_none {t : T} {x : Int} {n : Nat} (h : outAt t x = none) (hn : t.outs.length = n) : ¬ (0 ≤ x ∧ x < (n : Int)) := by
  rintro ⟨h0, h1⟩
  unfold outAt at h
  rw [if_pos h0, List.getElem?_eq_none_iff] at h
  omega
theorem out_some {t : T} {x : Int} {o : O} (h : outAt t x = some o) : ∃ k : Nat, x = (k : Int) ∧ t.outs[k]? = some o := by
  unfold outAt at h
  split at h
  · exact ⟨x.toNat, by omega, h⟩
  · cases h
theorem five {w : World} {gx q : Nat} {xo : O} {qs qb : Value} {t : T} {s : M} {xh : Bool} {z : Sl} (h : w.heap[gx]? = some (.cells (outA xo qs qb) 39 (0, 0))) (g : w.heap[q]? = some (.cells (cells22 t s xh z) 56 (0, 0))) :
    w.cell? ⟨gx, 0, none⟩ = some (.int .i64 xo.ip) ∧ w.cell? ⟨gx, 1, none⟩ = some (.int .i64 xo.steps) ∧ w.cell? ⟨gx, 2, none⟩ = some qs ∧ w.cell? ⟨gx, 3, none⟩ = some qb ∧ w.cell? ⟨q, 21, none⟩ = some (.bool xh) := ⟨whole_cell h rfl, whole_cell h rfl, whole_cell h rfl, whole_cell h rfl, whole_cell g rfl⟩
/-- boxes of other kinds are none of a machine's lists -/
theorem own_far2 {w6 : World} {B r d : Nat} {cs ds : Array Value} {s : M} {vs vb vm : Value} (hr : w6.heap[r]? = some (.cells cs 28 (0, 0))) (hd : w6.heap[d]? = some (.cells ds 34 (0, 0))) (ho : OwnsL w6 B vs vb vm s) :
    ∀ k ∈ [r, d], blk vs ≠ some k ∧ blk vb ≠ some k ∧ blk vm ≠ some k := by
  have one : ∀ {v : Value} {xs : List Int} {k T : Nat} {cs : Array Value}, Owns w6 B 3 v (vals xs) → w6.heap[k]? = some (.cells cs T (0, 0)) → T ≠ 3 → blk v ≠ some k := fun h hk hT e => by
    obtain ⟨-, -, cur, hc⟩ := h.block _ e
    rw [hk] at hc
    simp only [Option.some.injEq, Obj.cells.injEq] at hc
    exact hT hc.2.1
  intro k hk
  rcases List.mem_cons.1 hk with h | h
  · subst h; exact ⟨one ho.st hr (by decide), one ho.bk hr (by decide), one ho.me hr (by decide)⟩
  · have h := List.mem_singleton.1 h
    subst h; exact ⟨one ho.st hd (by decide), one ho.bk hd (by decide), one ho.me hd (by decide)⟩
theorem own_run2 {w w6 wf : World} {s : M} {vs vb vm : Value} {ex st : Int} {hit : Bool} {r d : Nat} (ho : OwnsL w6 w.heap.size vs vb vm s) (ht : Stirred w6 wf [r, d]) (hr : w.heap.size ≤ r ∧ r < d) (hf : ∀ k ∈ [r, d], blk vs ≠ some k ∧ blk vb ≠ some k ∧ blk vm ≠ some k) (hb : Below w.heap.size w w6) :
    Runs ⟨s, ex, st, hit⟩ w (.returned (.tuple #[stV s vs vb vm, .agg #[.int .i64 ex, .int .i64 st, .bool hit]])) wf :=
  ⟨_, rfl, ⟨vs, vb, vm, rfl, ⟨ho.st.touch ht (fun k e hm => (hf k hm).1 e), ho.bk.touch ht (fun k e hm => (hf k hm).2.1 e), ho.me.touch ht (fun k e hm => (hf k hm).2.2 e), ho.sb, ho.bm⟩⟩, hb.trans (ht.below (fun k hk => by
    rcases List.mem_cons.1 hk with h | h
    · omega
    · have := List.mem_singleton.1 h; omega) hb.size)⟩
def four (gt gs r d : Nat) (a b c e : Obj) : Nat → Option Obj := put1 gt a (put1 gs b (put1 r c (put1 d e (fun _ => none))))
theorem four_of {gt gs r d : Nat} {a b c e : Obj} (h : gt < gs ∧ gs < r ∧ r < d) : four gt gs r d a b c e gt = some a ∧ four gt gs r d a b c e gs = some b ∧ four gt gs r d a b c e r = some c ∧ four gt gs r d a b c e d = some e := by
  unfold four put1
  refine ⟨if_pos rfl, ?_, ?_, ?_⟩
  · rw [if_neg (by omega), if_pos rfl]
  · rw [if_neg (by omega), if_neg (by omega), if_pos rfl]
  · rw [if_neg (by omega), if_neg (by omega), if_neg (by omega), if_pos rfl]
theorem four_at {gt gs r d : Nat} {a b c e : Obj} {k : Nat} {o : Obj} (h : four gt gs r d a b c e k = some o) : k = gt ∧ o = a ∨ k = gs ∧ o = b ∨ k = r ∧ o = c ∨ k = d ∧ o = e := by
  unfold four put1 at h
  split at h
  · cases h; exact .inl ⟨by assumption, rfl⟩
  · split at h
    · cases h; exact .inr (.inl ⟨by assumption, rfl⟩)
    · split at h
      · cases h; exact .inr (.inr (.inl ⟨by assumption, rfl⟩))
      · split at h
        · cases h; exact .inr (.inr (.inr ⟨by assumption, rfl⟩))
        · cases h
set_option maxHeartbeats 16000000 in
set_option maxRecDepth 100000 in
theorem run_yes {w : World} {t : T} {s : M} {wat : List Int} {vi vo vc vw v : Value} (hm : ReadsM w v s) (ht : ReadsL w vi vo vc t) (hwt : Reads w vw wat) (hz : Sz s [] wat) (hc : CM s) (hi : ∀ x ∈ t.ins, CI x) (hT : Tabs w) (hn : t.ins.length ≤ 10000) (hno : t.outs.length ≤ 10000) (hol : ∀ o ∈ t.outs, o.stack.length ≤ 10000 ∧ o.back.length ≤ 10000) (hmay : mayT t s = true) :
    Calls Tryd.prog 11 #[trV t vi vo vc, v, vw] w (Runs (runT wat t s) w) := by
  have HM := Lib.hid hm
  have HTR := Lib.hid ht
  have HWT := Lib.hid hwt
  have HZ := Lib.hid hz
  have HC := Lib.hid hc
  have HI := Lib.hid hi
  have HTB := Lib.hid hT
  have HLN := Lib.hid (And.intro hn hno)
  have HOL := Lib.hid hol
  have HMY := Lib.hid hmay
  obtain ⟨ai, ci, ao, co, ac, cc, rfl, rfl, rfl⟩ := ht.known
  obtain ⟨aw, cw, rfl, -⟩ := hwt
  obtain ⟨n, hnn⟩ : ∃ n, t.outs.length = n := ⟨_, rfl⟩
  obtain ⟨ni, hni⟩ : ∃ n, t.ins.length = n := ⟨_, rfl⟩
  obtain ⟨nc, hnc⟩ : ∃ n, t.cells.length = n := ⟨_, rfl⟩
  obtain ⟨nw, hnw⟩ : ∃ n, wat.length = n := ⟨_, rfl⟩
  have HNN := Lib.hid hnn
  rw [hnn, hni, hnc] at HTR
  rw [hnw] at HWT
  rw [hnn, hni, hnc, hnw]
  clear hni hnc hnw
  obtain ⟨rr, hrr⟩ : ∃ rr, runT wat t s = rr := ⟨_, rfl⟩
  have HRR := Lib.hid hrr
  rw [hrr]
  clear hrr
  obtain ⟨vs, vb, vm, rfl, ⟨⟨so, sc, e1, -⟩, -⟩, ⟨⟨bo, bc, e2, -⟩, -⟩, -⟩ := hm
  subst e1
  subst e2
  obtain ⟨w1, gt, hw1, hgt, HGT, HB1, HZ1⟩ := newBox w (trA t (.slice ai ni ci) (.slice ao n co) (.slice ac nc cc)) 26
  obtain ⟨w2, gs, hw2, hgs, HGS, HB2, HZ2⟩ := newBox w1 (cells10 s.ip s.handler (.slice so s.stack.length sc) (.slice bo s.back.length bc) vm s.out s.inp s.read s.status s.code) 28
  obtain ⟨w3, r, hw3, hr, HR, HB3, HZ3⟩ := newBox w2 zero10 28
  obtain ⟨w4, d, hw4, hd, HD, HB4, HZ4⟩ := newBox w3 zero3 34
  have HB24 := Lib.hid (HB3.out.trans (HB4.out.mono HB3.out.size))
  have HB14 := Lib.hid (HB2.out.trans (HB24.out.mono HB2.out.size))
  have HB04 := Lib.hid (HB1.out.trans (HB14.out.mono HB1.out.size))
  have HT4 := Lib.hid (boxOn HGT.out HB14.out)
  have HS4 := Lib.hid (boxOn HGS.out HB24.out)
  have HR4 := Lib.hid (boxOn HR.out HB4.out)
  have HRD := Lib.hid (show w.heap.size = gt ∧ gt < gs ∧ gs < r ∧ r < d ∧ d < w4.heap.size from ⟨HZ1.out, by rw [← HZ2.out]; exact whole_lt HGT.out, by rw [← HZ3.out]; exact whole_lt HGS.out, by rw [← HZ4.out]; exact whole_lt HR.out, whole_lt HD.out⟩)
  have CM' := Lib.hid (show Calls Tryd.prog 13 _ w4 (SaysF true w4) from by have h := may_any (w := w4) (t := t) (s := s) (vi := .slice ai ni ci) (vo := .slice ao n co) (vc := .slice ac nc cc) (vm := vm) (so := so) (bo := bo) (sc := sc) (bc := bc) hz.st hz.bk; rw [hmay] at h; exact h)
  have CC := Lib.hid (fun wc (hb : Below w4.heap.size w4 wc) => innCopy_any (HM.out.below (HB04.out.trans (hb.mono HB04.out.size))) hz.st hz.bk hz.me)
  clear hmay HGT HGS HR ht hz hc hi hT hn hno hol hnn
  go_enter Tryd.func11, Tryd.ntmps11
  go_upto_region 2 with (first
    | (refine ld_tr (by rfl) _ rfl gt rfl _ rfl HT4.out ?_)
    | (refine ld_state (by rfl) _ rfl gs rfl _ _ HS4.out rfl ?_)
    | (go_at_call 13; refine CM'.out.mono ?_; rintro e w5 ⟨rfl, hb⟩; have HB5 := Lib.hid hb; clear hb))
  have HT5 := Lib.hid (boxOn HT4.out HB5.out)
  have HS5 := Lib.hid (boxOn HS4.out HB5.out)
  have HR5 := Lib.hid (boxOn HR4.out HB5.out)
  have HD5 := Lib.hid (boxOn HD.out HB5.out)
  have HB05 := Lib.hid (HB04.out.trans (HB5.out.mono HB04.out.size))
  have HLT := Lib.hid HB5.out.size
  have HF4 := Lib.hid (four_of (a := .cells (trA t (.slice ai ni ci) (.slice ao n co) (.slice ac nc cc)) 26 (0, 0)) (b := .cells (cells10 s.ip s.handler (.slice so s.stack.length sc) (.slice bo s.back.length bc) vm s.out s.inp s.read s.status s.code) 28 (0, 0)) (c := .cells zero10 28 (0, 0)) (e := .cells zero3 34 (0, 0)) (show gt < gs ∧ gs < r ∧ r < d from ⟨HRD.out.2.1, HRD.out.2.2.1, HRD.out.2.2.2.1⟩))
  have HF5 := Lib.hid (fun k o (h : four gt gs r d (.cells (trA t (.slice ai ni ci) (.slice ao n co) (.slice ac nc cc)) 26 (0, 0)) (.cells (cells10 s.ip s.handler (.slice so s.stack.length sc) (.slice bo s.back.length bc) vm s.out s.inp s.read s.status s.code) 28 (0, 0)) (.cells zero10 28 (0, 0)) (.cells zero3 34 (0, 0)) k = some o) => show w5.heap[k]? = some o from by
    rcases four_at h with ⟨rfl, rfl⟩ | ⟨rfl, rfl⟩ | ⟨rfl, rfl⟩ | ⟨rfl, rfl⟩
    · exact HT5.out
    · exact HS5.out
    · exact HR5.out
    · exact HD5.out)
  generalize four gt gs r d (.cells (trA t (.slice ai ni ci) (.slice ao n co) (.slice ac nc cc)) 26 (0, 0)) (.cells (cells10 s.ip s.handler (.slice so s.stack.length sc) (.slice bo s.back.length bc) vm s.out s.inp s.read s.status s.code) 28 (0, 0)) (.cells zero10 28 (0, 0)) (.cells zero3 34 (0, 0)) = fx at HF4 HF5
  clear hw1 hw2 hw3 hw4 hgt hgs hr hd HT4 HS4 HR4 HD HB1 HB2 HB3 HB4 HB14 HB24 HZ1 HZ2 HZ3 HZ4 CM' HR5 HD5
  go_cut [8] (fun p wx => ∃ q vs6 vb6 vm6, p = .pointer (some ⟨q, 0, none⟩) ∧ Hid (RunAt w wx q t wat s [] false ⟨vs6, vb6, vm6, .slice none 0 0, (.slice aw nw cw), (.slice ai ni ci), .slice ao n co, (.slice ac nc cc), fx⟩))
  case first =>
    have HTD := Lib.hid (boxOn HT5.out (Below.refl w5.heap.size w5).drew)
    have HSD := Lib.hid (boxOn HS5.out (Below.refl w5.heap.size w5).drew)
    obtain ⟨t0, t1, t2, t3, t4, t5, t6, t7, t8⟩ := Ir.cells9 HTD.out
    have s0 : w5.drew.cell? ⟨gs, 0, none⟩ = some (.int .i64 s.ip) := whole_cell HSD.out rfl
    have s1 : w5.drew.cell? ⟨gs, 1, none⟩ = some (.int .i64 s.handler) := whole_cell HSD.out rfl
    have s2 : w5.drew.cell? ⟨gs, 2, none⟩ = some (.slice so s.stack.length sc) := whole_cell HSD.out rfl
    have s3 : w5.drew.cell? ⟨gs, 3, none⟩ = some (.slice bo s.back.length bc) := whole_cell HSD.out rfl
    have s4 : w5.drew.cell? ⟨gs, 4, none⟩ = some (vm) := whole_cell HSD.out rfl
    have s5 : w5.drew.cell? ⟨gs, 5, none⟩ = some (.string s.out) := whole_cell HSD.out rfl
    have s6 : w5.drew.cell? ⟨gs, 6, none⟩ = some (.string s.inp) := whole_cell HSD.out rfl
    have s7 : w5.drew.cell? ⟨gs, 7, none⟩ = some (.int .i64 s.read) := whole_cell HSD.out rfl
    have s8 : w5.drew.cell? ⟨gs, 8, none⟩ = some (.int .i64 s.status) := whole_cell HSD.out rfl
    have s9 : w5.drew.cell? ⟨gs, 9, none⟩ = some (.int .i64 s.code) := whole_cell HSD.out rfl
    have C := Lib.hid (CC.out _ (HB5.out.trans ((Below.refl w5.heap.size w5).drew.mono HB5.out.size)))
    go_wp2_with fail
    go_region_with ((go_at_call 24; refine C.out.mono ?_; rintro e w6 ⟨v6, rfl, ⟨vs6, vb6, vm6, rfl, ho⟩, hb⟩; obtain ⟨a6, c6, e6⟩ := ho.st.slice; obtain ⟨a7, c7, e7⟩ := ho.bk.slice; obtain ⟨a8, c8, e8⟩ := ho.me.slice; rw [vals_length] at e6 e7 e8; subst e6; subst e7; subst e8; have HO := Lib.hid ho; have HB6 := Lib.hid hb; have HT6 := Lib.hid (boxOn HTD.out hb); obtain ⟨t0, t1, t2, t3, t4, t5, t6, t7, t8⟩ := Ir.cells9 HT6.out; clear ho hb))
    all_goals
      go_wp2_with fail
      go_meet
      exact ⟨_, _, _, _, rfl, RunAt.made HB05.out.drew HB6.out HO.out HTR.out HWT.out HF5.out⟩
  case rest =>
    obtain ⟨q, vs6, vb6, vm6, rfl, HRN⟩ := hcut
    clear HT5 HS5
    have HST := Lib.hid (fun k o (h : fx k = some o) => HF5.out k o h)
    obtain ⟨wa, hwa⟩ : ∃ wa, wc = wa := ⟨_, rfl⟩
    subst hwa
    have CX := Lib.hid (exit_any HRN.out HZ.out HC.out HI.out HTB.out HLN.out.1)
    obtain ⟨x, hx⟩ : ∃ x, goI wat t.last t.ins s [] = x := ⟨_, rfl⟩
    have HXE := Lib.hid hx
    rw [hx] at CX
    have HKN := Lib.hid (show Kin s x.s by rw [← hx]; exact goI_kin _ _ _ _ _)
    have HVL := Lib.hid (show x.V.length ≤ 100000 by rw [← hx]; have h1 := goI_len wat t.last t.ins s []; have h2 := HLN.out.1; simp only [List.length_nil] at h1; omega)
    clear hx
    cases hox : outAt t x.exit with
    | none =>
      have HRT := Lib.hid (show rr = ⟨s, -1, 0, false⟩ by rw [← HRR.out]; unfold runT; rw [if_pos HMY.out, HXE.out]; dsimp only; rw [hox])
      have HNI := Lib.hid (show ¬ (0 ≤ x.exit ∧ x.exit < (n : Int)) from out_none hox HNN.out)
      clear hox
      obtain ⟨xs, xV, xe, xh⟩ := x
      dsimp only at HNI
      go_wp2_with fail
      refine CX.out.mono ?_
      rintro e w7 ⟨rfl, v7, hr7⟩
      have HR7 := Lib.hid hr7
      have HB7 := Lib.hid hr7.hb
      have c6 : w7.cell? ⟨gt, 6, none⟩ = some (.slice ao n co) := whole_cell (hr7.fr gt _ HF4.out.1).1 rfl
      have HS7 := Lib.hid (hr7.fr gs _ HF4.out.2.1).1
      have HR7b := Lib.hid (hr7.fr r _ HF4.out.2.2.1).1
      have HD7b := Lib.hid (hr7.fr d _ HF4.out.2.2.2).1
      have hnb : n ≤ 10000 := by rw [← HNN.out]; exact HLN.out.2
      have C4 := Lib.hid (within_any xe ((n : Int) - 1) w7)
      have HW : Ir.within xe ((n : Int) - 1) = false := Ir.within_no (fun h => HNI.out ⟨h.1, Int.lt_of_le_sub_one h.2⟩)
      rw [HW] at C4
      clear HW
      have C := Lib.hid (innCopy_any (HM.out.below HB7.out) HZ.out.st HZ.out.bk HZ.out.me)
      clear hr7 CX HRN CC
      go_wp2_with (first
        | (go_at_call 26; refine C4.out.mono ?_; rintro e w' ⟨rfl, rfl⟩)
        | (refine ld_state (by rfl) _ rfl gs rfl _ _ HS7.out rfl ?_))
      refine C.out.mono ?_
      rintro e w8 ⟨v6, rfl, ⟨vs8, vb8, vm8, rfl, ho⟩, hb⟩
      have HO := Lib.hid ho
      have HB8 := Lib.hid hb
      have HR6 := Lib.hid (boxOn HR7b.out hb)
      have HD6 := Lib.hid (boxOn HD7b.out hb)
      have HON := Lib.hid (And.intro (slice_one ho.st.slice) (And.intro (slice_one ho.bk.slice) (slice_one ho.me.slice)))
      clear ho hb C
      go_wp2_with (first
        | (refine st_state (by rfl) _ _ rfl r _ rfl rfl _ _ HR6.out rfl rfl (all_one HON.out.1 HON.out.2.1 HON.out.2.2) ?_; intro w7 h7 t7; have HR7 := Lib.hid h7; have HT7 := Lib.hid t7; have HD7 := Lib.hid (t7.whole HD6.out (fun hm => by have h1 := List.mem_singleton.1 hm; have h2 := HRD.out.2.2.2.1; omega)); clear h7 t7)
        | (refine st_done (by rfl) _ _ rfl d #[.int .i64 (-1), .int .i64 0, .bool false] rfl rfl rfl _ rfl HD7.out (by simp [Value.oneCell']) ?_; intro w8 h8 t8; have HD8 := Lib.hid h8; have HT8 := Lib.hid t8; have HR8 := Lib.hid (t8.whole HR7.out (fun hm => by have h1 := List.mem_singleton.1 hm; have h2 := HRD.out.2.2.2.1; omega)); clear h8 t8))
      refine bodyPost_ret (results_two rfl _ _ r d _ _ _ _ _ _ _ _ rfl HR8.out Tryd.underlying28 rfl state_size rfl HD8.out Tryd.underlying34 rfl done_size) rfl ?_
      have HT := Lib.hid (two_more HT7.out HT8.out)
      have hsz := HR7b.out
      rw [HRT.out]
      exact own_run HO.out HT.out (HB7.out.size) (fun k hk => by
        have h1 := HRD.out
        have h2 := whole_lt HR7b.out
        have h3 := whole_lt HD7b.out
        rcases List.mem_cons.1 hk with h | h
        · omega
        · have := List.mem_singleton.1 h; omega) (HB7.out.trans (HB8.out.mono HB7.out.size))
    | some xo =>
      have HRT := Lib.hid (show rr = ⟨leaveM t x.s x.V xo, x.exit, xo.steps, x.hit⟩ by rw [← HRR.out]; unfold runT; rw [if_pos HMY.out, HXE.out]; dsimp only; rw [hox])
      obtain ⟨k, hk, hko⟩ := out_some hox
      clear hox
      obtain ⟨xs, xV, xe, xh⟩ := x
      dsimp only at hk
      subst hk
      have hkl := (List.getElem?_eq_some_iff.1 hko).1
      have hnb : n ≤ 10000 := by rw [← HNN.out]; exact HLN.out.2
      have k0 : (0 : Int) ≤ (k : Int) := Int.natCast_nonneg k
      have k1 : (k : Int) < (n : Int) := by rw [HNN.out] at hkl; exact Int.ofNat_lt.2 hkl
      have HKO := Lib.hid hko
      have HXO := Lib.hid (HOL.out xo (List.mem_of_getElem? hko))
      have HMB := Lib.hid (may_slots HMY.out)
      clear hkl hko
      go_wp2_with fail
      refine CX.out.mono ?_
      rintro e w7 ⟨rfl, v7, hr7⟩
      have HR7 := Lib.hid hr7
      have HB7 := Lib.hid hr7.hb
      have c6 : w7.cell? ⟨gt, 6, none⟩ = some (.slice ao n co) := whole_cell (hr7.fr gt _ HF4.out.1).1 rfl
      have C4 := Lib.hid (within_any (k : Int) ((n : Int) - 1) w7)
      have HW : Ir.within (k : Int) ((n : Int) - 1) = true := Ir.within_yes k0 (Int.le_sub_one_of_lt k1)
      rw [HW] at C4
      obtain ⟨ad, qs, qb, rfl, j0, j1, j2, j3, HQS, HQB⟩ := Ir.ReadsO.at HTR.out.outs HKO.out
      obtain ⟨aq, cq, rfl⟩ := Ir.reads_form HQS
      obtain ⟨ab, cb, rfl⟩ := Ir.reads_form HQB
      have tr : ∀ {p : Addr} {u : Value}, w.cell? p = some u → w7.cell? p = some u := fun {p u} hu => by rw [hr7.hb.cell (p := p) (World.block_lt_of_cell? w _ hu)]; exact hu
      have i0 := tr j0
      have i1 := tr j1
      have i2 := tr j2
      have i3 := tr j3
      have HQ1 := Lib.hid (And.intro HQS HQB)
      obtain ⟨w8, gx, hw8, hgx, HX8, HB8, HZ8⟩ := newBox w7 zero4 39
      clear hr7 CX HRN CC HW HQS HQB j0 j1 j2 j3 tr
      go_upto_region 6 with (first
        | (go_at_call 26; refine C4.out.mono ?_; rintro e w' ⟨rfl, rfl⟩)
        | (refine st_out (by rfl) _ _ rfl gx (outA xo (.slice aq xo.stack.length cq) (.slice ab xo.back.length cb)) rfl rfl rfl _ rfl HX8.out (by simp [Value.oneCell']) ?_; intro w9 h9 t9))
      have HR9 := Lib.hid (HR7.out.fresh (w' := w9) (bs := [gx]) ((Stirred.of_below HB8.out [gx]).trans t9 (fun k hk => .inl hk)) (fun k hk => List.mem_singleton.1 hk) (Nat.le_of_eq HZ8.out) h9)
      obtain ⟨ks, kb, hs1, hs2, hs3, hs4⟩ := HMB.out
      have HGX := Lib.hid (show ∀ j o, fx j = some o → put1 gx (.cells (outA xo (.slice aq xo.stack.length cq) (.slice ab xo.back.length cb)) 39 (0, 0)) fx j = some o from fun j o h => by unfold put1; rw [if_neg (by have h1 := whole_lt (HR7.out.fr j o h).1; have h2 := HZ8.out; omega)]; exact h)
      have CL := Lib.hid (fun wc (hb : Below w9.heap.size w9 wc) => leave_any (HR9.out.below hb) (by rw [HKN.out.stack]; exact HZ.out.st) (by rw [HKN.out.back]; exact HZ.out.bk) HVL.out xo HQ1.out.1 HQ1.out.2 HXO.out.1 HXO.out.2 hs1 (by rw [HKN.out.stack]; exact hs2) hs3 (by rw [HKN.out.back]; exact hs4))
      have HGC := Lib.hid (fun wc (hb : Below w9.heap.size w9 wc) => And.intro ((HR9.out.below hb).fr gx _ (put1_at gx _ _)).1 (And.intro (HR9.out.below hb).box (And.intro ((HR9.out.below hb).fr r _ (HGX.out r _ HF4.out.2.2.1)).1 ((HR9.out.below hb).fr d _ (HGX.out d _ HF4.out.2.2.2)).1)))
      have HEL := Lib.hid (And.intro (put1_at gx (.cells (outA xo (.slice aq xo.stack.length cq) (.slice ab xo.back.length cb)) 39 (0, 0)) fx) (And.intro (HGX.out r _ HF4.out.2.2.1) (HGX.out d _ HF4.out.2.2.2)))
      have HQR := Lib.hid (show w.heap.size ≤ r ∧ r < d ∧ gx ≠ r ∧ gx ≠ d ∧ q ≠ r ∧ q ≠ d from by
        have f1 := (HR7.out.fr r _ HF4.out.2.2.1)
        have f2 := (HR7.out.fr d _ HF4.out.2.2.2)
        have l1 := whole_lt f1.1
        have l2 := whole_lt f2.1
        have l3 := HZ8.out
        have l4 := HRD.out
        exact ⟨by omega, by omega, by omega, by omega, fun e => f1.2.1 e.symm, fun e => f2.2.1 e.symm⟩)
      clear h9 t9 hw8 hgx HX8 HB8 HZ8 HR7 i0 i1 i2 i3 hs1 hs2 hs3 hs4 C4 c6 HF4 HF5 HST HGX
      dsimp only [Act.put]
      have HBC : Hid (Below w9.heap.size w9 w9.drew) := Lib.hid (Below.refl _ _).drew
      have HG9 := HGC.out _ HBC.out
      have KX := Lib.hid (five HG9.1 HG9.2.1)
      clear HG9
      refine wp_region_held (S := fun w' => (w'.cell? ⟨gx, 0, none⟩ = some (.int .i64 xo.ip) ∧ w'.cell? ⟨gx, 1, none⟩ = some (.int .i64 xo.steps) ∧ w'.cell? ⟨gx, 2, none⟩ = some (.slice aq xo.stack.length cq) ∧ w'.cell? ⟨gx, 3, none⟩ = some (.slice ab xo.back.length cb) ∧ w'.cell? ⟨q, 21, none⟩ = some (.bool xh))) (by kernel_rfl) ?_
      change wpAnyH _ _ _ _ _ _ _ _ (World.drew w9)
      refine wpAnyH_take (i := 0) (oi := ⟨some 33, _, _, _, _, _⟩) (v := ?_) rfl (by kernel_rfl) (by kernel_rfl) (by kernel_rfl) (fun _ _ _ h => h) (Or.inl ⟨by rfl, ?_⟩) KX.out ?_; rotate_left; · intro w hSw; (try dsimp only at hSw); go_simp; try with_reducible rfl
      try simp only [Act.put, List.setIfInBounds_toArray, List.set_cons_zero, List.set_cons_succ]
      refine wpAnyH_take (i := 1) (oi := ⟨some 34, _, _, _, _, _⟩) (v := ?_) rfl (by kernel_rfl) (by kernel_rfl) (by kernel_rfl) (fun _ _ _ h => h) (Or.inl ⟨by rfl, ?_⟩) KX.out ?_; rotate_left; · intro w hSw; (try dsimp only at hSw); go_simp; try with_reducible rfl
      try simp only [Act.put, List.setIfInBounds_toArray, List.set_cons_zero, List.set_cons_succ]
      refine wpAnyH_take (i := 3) (oi := ⟨some 36, _, _, _, _, _⟩) (v := ?_) rfl (by kernel_rfl) (by kernel_rfl) (by kernel_rfl) (fun _ _ _ h => h) (Or.inl ⟨by rfl, ?_⟩) KX.out ?_; rotate_left; · intro w hSw; (try dsimp only at hSw); go_simp; try with_reducible rfl
      try simp only [Act.put, List.setIfInBounds_toArray, List.set_cons_zero, List.set_cons_succ]
      refine wpAnyH_take (i := 4) (oi := ⟨some 37, _, _, _, _, _⟩) (v := ?_) rfl (by kernel_rfl) (by kernel_rfl) (by kernel_rfl) (fun _ _ _ h => h) (Or.inl ⟨by rfl, ?_⟩) KX.out ?_; rotate_left; · intro w hSw; (try dsimp only at hSw); go_simp; try with_reducible rfl
      try simp only [Act.put, List.setIfInBounds_toArray, List.set_cons_zero, List.set_cons_succ]
      refine wpAnyH_take (i := 5) (oi := ⟨some 38, _, _, _, _, _⟩) (v := ?_) rfl (by kernel_rfl) (by kernel_rfl) (by kernel_rfl) (fun _ _ _ h => h) (Or.inl ⟨by rfl, ?_⟩) KX.out ?_; rotate_left; · intro w hSw; (try dsimp only at hSw); go_simp; try with_reducible rfl
      try simp only [Act.put, List.setIfInBounds_toArray, List.set_cons_zero, List.set_cons_succ]
      refine wpAnyH_take (i := 6) (oi := ⟨some 39, _, _, _, _, _⟩) (v := ?_) rfl (by kernel_rfl) (by kernel_rfl) (by kernel_rfl) (fun _ _ _ h => h) (Or.inl ⟨by rfl, ?_⟩) KX.out ?_; rotate_left; · intro w hSw; (try dsimp only at hSw); go_simp; try with_reducible rfl
      try simp only [Act.put, List.setIfInBounds_toArray, List.set_cons_zero, List.set_cons_succ]
      refine wpAnyH_take (i := 7) (oi := ⟨some 40, _, _, _, _, _⟩) (v := ?_) rfl (by kernel_rfl) (by kernel_rfl) (by kernel_rfl) (fun _ _ _ h => h) (Or.inl ⟨by rfl, ?_⟩) KX.out ?_; rotate_left; · intro w hSw; (try dsimp only at hSw); go_simp; try with_reducible rfl
      try simp only [Act.put, List.setIfInBounds_toArray, List.set_cons_zero, List.set_cons_succ]
      refine wpAnyH_take (i := 8) (oi := ⟨some 41, _, _, _, _, _⟩) (v := ?_) rfl (by kernel_rfl) (by kernel_rfl) (by kernel_rfl) (fun _ _ _ h => h) (Or.inl ⟨by rfl, ?_⟩) KX.out ?_; rotate_left; · intro w hSw; (try dsimp only at hSw); go_simp; try with_reducible rfl
      try simp only [Act.put, List.setIfInBounds_toArray, List.set_cons_zero, List.set_cons_succ]
      refine wpAnyH_take (i := 9) (oi := ⟨some 42, _, _, _, _, _⟩) (v := ?_) rfl (by kernel_rfl) (by kernel_rfl) (by kernel_rfl) (fun _ _ _ h => h) (Or.inl ⟨by rfl, ?_⟩) KX.out ?_; rotate_left; · intro w hSw; (try dsimp only at hSw); go_simp; try with_reducible rfl
      try simp only [Act.put, List.setIfInBounds_toArray, List.set_cons_zero, List.set_cons_succ]
      refine wpAnyH_take (i := 10) (oi := ⟨some 43, _, _, _, _, _⟩) (v := ?_) rfl (by kernel_rfl) (by kernel_rfl) (by kernel_rfl) (fun _ _ _ h => h) (Or.inl ⟨by rfl, ?_⟩) KX.out ?_; rotate_left; · intro w hSw; (try dsimp only at hSw); go_simp; try with_reducible rfl
      try simp only [Act.put, List.setIfInBounds_toArray, List.set_cons_zero, List.set_cons_succ]
      refine wpAnyH_ready (rs := [2]) (by kernel_rfl) (by simp) ?_
      refine AllReadyH.cons rfl (fun K hK => ?_) ?_
      rotate_left
      · exact AllReadyH.nil
      go_simp
      go_at_call 27
      refine (CL.out _ HBC.out).mono ?_
      rintro e wl ⟨vl, rfl, ⟨vs8, vb8, vm8, rfl, hol⟩, hbl, hql, hel⟩
      have HOL2 := Lib.hid hol
      have HBL := Lib.hid hbl
      have HRL := Lib.hid (hel r _ HEL.out.2.1)
      have HDL := Lib.hid (hel d _ HEL.out.2.2)
      have HQL := Lib.hid hql
      have HXL := Lib.hid (hel gx _ HEL.out.1)
      have HON := Lib.hid (And.intro (slice_one hol.st.slice) (And.intro (slice_one hol.bk.slice) (slice_one hol.me.slice)))
      have KX := Lib.hid (five HXL.out HQL.out)
      clear hol hbl hql hel
      go_wp2_with fail
      refine hK.out _ _ KX.out (fun hHeld => ?_)
      clear hK K hHeld
      try simp only [Act.put, List.setIfInBounds_toArray, List.set_cons_zero, List.set_cons_succ]
      refine wpAnyH_ready (rs := [11]) (by kernel_rfl) (by simp) ?_
      refine AllReadyH.cons rfl (fun K hK => ?_) ?_
      rotate_left
      · exact AllReadyH.nil
      refine step_st_state (by rfl) _ _ rfl r _ rfl rfl _ HRL.out rfl rfl (all_one HON.out.1 HON.out.2.1 HON.out.2.2) ?_
      intro w10 h10 t10
      have HR10 := Lib.hid h10
      have HT10 := Lib.hid t10
      have HD10 := Lib.hid (t10.whole HDL.out (fun hm => by have h1 := List.mem_singleton.1 hm; have h2 := HQR.out; omega))
      have HX10 := Lib.hid (t10.whole HXL.out (fun hm => HQR.out.2.2.1 (List.mem_singleton.1 hm)))
      have HQ10 := Lib.hid (t10.whole HQL.out (fun hm => HQR.out.2.2.2.2.1 (List.mem_singleton.1 hm)))
      have KX := Lib.hid (five HX10.out HQ10.out)
      clear h10 t10
      refine hK.out _ _ KX.out (fun hHeld => ?_)
      clear hK K hHeld
      try simp only [Act.put, List.setIfInBounds_toArray, List.set_cons_zero, List.set_cons_succ]
      refine wpAnyH_ready (rs := [12]) (by kernel_rfl) (by simp) ?_
      refine AllReadyH.cons rfl (fun K hK => ?_) ?_
      rotate_left
      · exact AllReadyH.nil
      refine Mach.step_st_done (by rfl) _ _ rfl d #[.int .i64 (k : Int), .int .i64 xo.steps, .bool xh] rfl rfl _ HD10.out rfl rfl (by simp [Value.oneCell']) ?_
      intro w11 h11 t11
      have HD11 := Lib.hid h11
      have HT11 := Lib.hid t11
      have HR11 := Lib.hid (t11.whole HR10.out (fun hm => by have h1 := List.mem_singleton.1 hm; have h2 := HQR.out; omega))
      have HX11 := Lib.hid (t11.whole HX10.out (fun hm => HQR.out.2.2.2.1 (List.mem_singleton.1 hm)))
      have HQ11 := Lib.hid (t11.whole HQ10.out (fun hm => HQR.out.2.2.2.2.2 (List.mem_singleton.1 hm)))
      have KX := Lib.hid (five HX11.out HQ11.out)
      clear h11 t11
      refine hK.out _ _ KX.out (fun hHeld => ?_)
      clear hK K hHeld
      try simp only [Act.put, List.setIfInBounds_toArray, List.set_cons_zero, List.set_cons_succ]
      refine wpAnyH_done (by kernel_rfl) ?_ _
      go_wp2_with fail
      refine bodyPost_ret (results_two rfl _ _ r d _ _ _ _ _ _ _ _ rfl HR11.out Tryd.underlying28 rfl state_size rfl HD11.out Tryd.underlying34 rfl done_size) rfl ?_
      rw [HRT.out]
      exact own_run2 HOL2.out (two_more HT10.out HT11.out) ⟨HQR.out.1, HQR.out.2.1⟩ (own_far2 HRL.out HDL.out HOL2.out) HBL.out
theorem run_any {w : World} {t : T} {s : M} {wat : List Int} {vi vo vc vw v : Value} (hm : ReadsM w v s) (ht : ReadsL w vi vo vc t) (hwt : Reads w vw wat) (hz : Sz s [] wat) (hc : CM s) (hi : ∀ x ∈ t.ins, CI x) (hT : Tabs w) (hn : t.ins.length ≤ 10000) (hno : t.outs.length ≤ 10000) (hol : ∀ o ∈ t.outs, o.stack.length ≤ 10000 ∧ o.back.length ≤ 10000) :
    Calls Tryd.prog 11 #[trV t vi vo vc, v, vw] w (Runs (runT wat t s) w) := by
  cases h : mayT t s with
  | true => exact run_yes hm ht hwt hz hc hi hT hn hno hol h
  | false =>
    have e : runT wat t s = ⟨s, -1, 0, false⟩ := by unfold runT; rw [if_neg (by rw [h]; decide)]
    rw [e]
    exact run_not hm hz.st hz.bk hz.me h
end Go.Proofs.YtbiinnfkokaadaaDoor.Ev
/- The document's own machine (chapter 9) that has done nothing, taken out of the machine's texts. -/
namespace Go.Proofs.YtbiinnfkokaadaaDoor.Ev
open Go.RowKit Book Mem Mach
set_option linter.unusedVariables false
set_option linter.unusedSimpArgs false
def bootCell (o k : Nat) : Int := if 64 ≤ k ∧ k < 64 + 2 * o then (if k % 2 = 0 then ((k - 64) / 2 : Nat) else 5) else if k = 1 then 1 else 0
def bootMem (o n : Nat) : List Int := (List.range n).map (bootCell o)
theorem bootMem_length (o n : Nat) : (bootMem o n).length = n := by simp [bootMem]
theorem bootMem_at (o n k : Nat) : (bootMem o n)[k]? = if k < n then some (bootCell o k) else none := by
  unfold bootMem
  rw [List.getElem?_map]
  by_cases h : k < n
  · rw [if_pos h, List.getElem?_range h]; rfl
  · rw [if_neg h, List.getElem?_eq_none (by simpa using h)]; rfl
def bootM (n : Nat) (inp : ByteArray) : M := ⟨0, 0, [], [], bootMem 48 n, ⟨#[]⟩, inp, 0, 1, 0⟩
theorem new_box (w : World) (cs : Array Value) (T : TypeId) : ∃ w1 g, w.alloc (.cells cs T) = w1 ∧ w.heap.size = g ∧ Hid (w1.heap[g]? = some (.cells cs T (0, 0))) ∧ Hid (Below w.heap.size w w1) ∧ Hid (w.heap.size = g) :=
  ⟨_, _, rfl, rfl, heap_alloc_new w _, (Below.refl w.heap.size w).alloc (Nat.le_refl _) _, rfl⟩
/-- the first k cells are laid -/
def part (n k : Nat) : List Int := (bootMem 48 n).take k ++ List.replicate (n - k) 0
theorem part_length {n k : Nat} (h : k ≤ n) : (part n k).length = n := by unfold part; rw [List.length_append, List.length_take, bootMem_length, List.length_replicate]; omega
theorem part_zero (n : Nat) : part n 0 = List.replicate n 0 := by simp [part]
theorem part_all (n : Nat) : part n n = bootMem 48 n := by unfold part; rw [Nat.sub_self, List.take_of_length_le (by rw [bootMem_length]; omega)]; simp
theorem part_at {n k j : Nat} (h : k ≤ n) : (part n k)[j]? = if j < n then some (if j < k then bootCell 48 j else 0) else none := by
  unfold part
  by_cases h1 : j < k
  · rw [List.getElem?_append_left (by rw [List.length_take, bootMem_length]; omega), List.getElem?_take, if_pos h1, bootMem_at, if_pos (by omega), if_pos (by omega), if_pos h1]
  · rw [List.getElem?_append_right (by rw [List.length_take, bootMem_length]; omega), List.getElem?_replicate, List.length_take, bootMem_length]
    by_cases h2 : j < n
    · rw [if_pos (by omega), if_pos h2, if_neg h1]
    · rw [if_neg (by omega), if_neg h2]
theorem part_set {n k : Nat} (h : k < n) : (part n k).set k (bootCell 48 k) = part n (k + 1) := by
  apply List.ext_getElem?
  intro j
  rw [List.getElem?_set, part_at (by omega), part_at (by omega), part_length (by omega)]
  by_cases h1 : k = j
  · subst h1
    rw [if_pos rfl, if_pos h, if_pos h, if_pos (by omega)]
  · rw [if_neg h1]
    by_cases h2 : j < n
    · rw [if_pos h2, if_pos h2]
      by_cases h3 : j < k
      · rw [if_pos h3, if_pos (by omega)]
      · rw [if_neg h3, if_neg (by omega)]
    · rw [if_neg h2, if_neg h2]
theorem part_same {n k : Nat} (h : k < n) (h0 : bootCell 48 k = 0) : part n (k + 1) = part n k := by
  apply List.ext_getElem?
  intro j
  rw [part_at (by omega), part_at (by omega)]
  by_cases h1 : j = k
  · subst h1
    rw [if_pos h, if_pos h, if_pos (by omega), if_neg (by omega), h0]
  · by_cases h2 : j < n
    · rw [if_pos h2, if_pos h2]
      by_cases h3 : j < k
      · rw [if_pos h3, if_pos (by omega)]
      · rw [if_neg h3, if_neg (by omega)]
    · rw [if_neg h2, if_neg h2]
set_option maxHeartbeats 8000000 in
set_option maxRecDepth 100000 in
theorem refBoot20 (w : World) (nn : Nat) (hn : (nn : Int) = 20) (inp : ByteArray) :
    Calls Tryd.prog 23 #[.int .i64 20, .string inp] w (GivesM (bootM nn inp) w) := by
  obtain ⟨i0, HI1, HI2, HI3, HI4⟩ := int_facts
  have HI := Lib.hid (And.intro HI1 (And.intro HI2 (And.intro HI3 HI4)))
  clear HI1 HI2 HI3 HI4
  obtain ⟨w1, r, hw1, hr, HR, HB1, HRG⟩ := new_box w zero10 28
  have HM := Lib.hid hn
  have hn3 : nn ≤ 3000 := by omega
  clear hn
  go_enter Tryd.func23, Tryd.ntmps23
  go_upto_region 1 with fail
  clear hw1 hr
  go_wp2_with (at_make; refine wpList_make_full _ rfl _ _ 24 rfl w1.heap.size 3 i0 (.int .i64 0) 1 Tryd.underlying24 HI.out.1 HI.out.2.1 HI.out.2.2.1 .i64 .i64 _ _ nn rfl rfl ?a1 ?a2 ?a3 ?a4 (Nat.le_refl _) ?_)
  case a1 => first | exact HM.out.symm | (have := HM.out; omega)
  case a2 => first | exact HM.out.symm | (have := HM.out; omega)
  case a3 => rw [HI.out.2.2.2]; omega
  case a4 => unfold maxLen; omega
  intro w2 hO hG
  rw [toList_madeCells_one] at hO
  have hb1 := (Stirred.of_grown hG).below (B := w1.heap.size) (fun k h => by cases h) (Nat.le_refl _)
  obtain ⟨g, hg⟩ : ∃ g, w1.heap.size = g := ⟨_, rfl⟩
  rw [hg] at hO hb1 ⊢
  have HGE := Lib.hid hg
  have HO := Lib.hid (show Owns w2 g 3 (.slice (some ⟨g, 0, none⟩) nn nn) (vals (part nn 0)) by
    have := Owns.of_row hO
    rw [part_zero, vals, List.map_replicate]
    exact this)
  have HB2 := Lib.hid hb1
  clear hO hG hb1 hg
  go_wp2_with fail
  go_loopg [6] nn (fun z f wr => ∃ k : Nat, z = nn - k ∧ k ≤ nn ∧ f = .int .i64 k ∧ Hid (Owns wr g 3 (.slice (some ⟨g, 0, none⟩) nn nn) (vals (part nn k))) ∧ Hid (Below g w1 wr))
  case atStart => exact ⟨0, rfl, Nat.zero_le _, rfl, HO, HB2⟩
  case round =>
    obtain ⟨k, rfl, hk, rfl, HX, HY⟩ := hrel
    by_cases hlt : k < nn
    · have hk0 : (0 : Int) ≤ (k : Int) := Int.natCast_nonneg _
      have hk1 : (k : Int) < (nn : Int) := by omega
      obtain ⟨kc, kf⟩ := owns_at HX.out (show k < (part nn k).length by rw [part_length hk]; exact hlt)
      have HS := Lib.hid (fun v : Int => And.intro (HX.out.stored k (.int .i64 v)) (show Below g w1 (wr.setCell ⟨g, k, none⟩ (.int .i64 v)) from HY.out.trans (((Stirred.setCell wr ⟨g, k, none⟩ (.int .i64 v)).below (B := g) (fun j h => by rw [List.mem_singleton.1 h]; exact Nat.le_refl _) (HGE.out ▸ HY.out.size)))))
      by_cases c1 : k = 1
      · subst c1
        have hb : bootCell 48 1 = 1 := rfl
        have H1 := Lib.hid (part_set hlt)
        rw [hb] at H1
        have HZ := Lib.hid (HS.out 1)
        rw [vals_set, H1.out] at HZ
        clear HS
        go_wp2
        go_roundg (nn - (1 + 1))
        case measure => omega
        case rel => exact ⟨1 + 1, rfl, by omega, by go_num, HZ.out.1, HZ.out.2⟩
      · by_cases c2 : 64 ≤ k
        · by_cases c3 : k < 160
          · by_cases c4 : k % 2 = 0
            · have hb : bootCell 48 k = ((k - 64) / 2 : Nat) := by unfold bootCell; rw [if_pos (by omega), if_pos c4]
              have q1 : (k : Int).tmod 2 = 0 := by rw [Int.tmod_eq_emod_of_nonneg hk0]; omega
              obtain ⟨q, hq⟩ : ∃ q, (k - 64) / 2 = q := ⟨_, rfl⟩
              have q2 : ((k : Int) - 64).tdiv 2 = (q : Int) := by rw [Int.tdiv_eq_ediv_of_nonneg (by omega)]; omega
              have q3 : wrap64 (q : Int) = (q : Int) := by unfold wrap64; omega
              have H1 := Lib.hid (part_set hlt)
              rw [hb, hq] at H1
              have hx5 := (HS.out 5).1
              have HZ := Lib.hid (And.intro (hx5.stored k (.int .i64 q)) (show Below g w1 ((wr.setCell ⟨g, k, none⟩ (.int .i64 5)).setCell ⟨g, k, none⟩ (.int .i64 q)) from (HS.out 5).2.trans (((Stirred.setCell _ ⟨g, k, none⟩ (.int .i64 q)).below (B := g) (fun j h => by rw [List.mem_singleton.1 h]; exact Nat.le_refl _) (HGE.out ▸ (HS.out 5).2.size)))))
              rw [vals_set, vals_set, List.set_set, H1.out] at HZ
              rw [vals_set] at hx5
              obtain ⟨kc5, kf5⟩ := owns_at hx5 (show k < ((part nn k).set k 5).length by rw [List.length_set, part_length hk]; exact hlt)
              clear HS hx5 hq hb
              go_wp2
              go_roundg (nn - (k + 1))
              case measure => omega
              case rel => exact ⟨k + 1, rfl, by omega, by go_num, HZ.out.1, HZ.out.2⟩
            · have hb : bootCell 48 k = 5 := by unfold bootCell; rw [if_pos (by omega), if_neg c4]
              have q1 : ¬ (k : Int).tmod 2 = 0 := by rw [Int.tmod_eq_emod_of_nonneg hk0]; omega
              have H1 := Lib.hid (part_set hlt)
              rw [hb] at H1
              have HZ := Lib.hid (HS.out 5)
              rw [vals_set, H1.out] at HZ
              clear HS hb
              go_wp2
              go_roundg (nn - (k + 1))
              case measure => omega
              case rel => exact ⟨k + 1, rfl, by omega, by go_num, HZ.out.1, HZ.out.2⟩
          · have hb : bootCell 48 k = 0 := by unfold bootCell; rw [if_neg (by omega), if_neg c1]
            have H1 := Lib.hid (part_same hlt hb)
            clear HS hb
            go_wp2
            go_roundg (nn - (k + 1))
            case measure => omega
            case rel => exact ⟨k + 1, rfl, by omega, by go_num, by rw [H1.out]; exact HX.out, HY.out⟩
        · have hb : bootCell 48 k = 0 := by unfold bootCell; rw [if_neg (by omega), if_neg c1]
          have H1 := Lib.hid (part_same hlt hb)
          clear HS hb
          go_wp2
          go_roundg (nn - (k + 1))
          case measure => omega
          case rel => exact ⟨k + 1, rfl, by omega, by go_num, by rw [H1.out]; exact HX.out, HY.out⟩
    · obtain rfl : k = nn := by omega
      have HO := Lib.hid HX.out
      rw [part_all] at HO
      have HRR := Lib.hid ((Stirred.of_below (HY.out.mono (Nat.le_of_eq HGE.out)) []).whole HR.out List.not_mem_nil)
      have HBW := Lib.hid (show Below w.heap.size w wr from HB1.out.trans (HY.out.mono (by have := HB1.out.size; have := HGE.out; omega)))
      clear HX
      go_wp2_with (refine st_state (by rfl) _ _ rfl r _ rfl rfl _ _ HRR.out rfl rfl (all_one rfl rfl rfl) ?_; intro wf hrf htf; have HRF := Lib.hid hrf; have HTF := Lib.hid htf; clear hrf htf)
      refine bodyPost_ret (results_cell_row rfl _ _ r _ _ _ _ rfl HRF.out Tryd.underlying28 rfl state_size) rfl ?_
      have hge := HGE.out
      have hrl := whole_lt HR.out
      have hrg := HRG.out
      refine ⟨_, rfl, ⟨_, _, _, rfl, ⟨Owns.nil _ _ _, Owns.nil _ _ _, (HO.out.touch HTF.out (fun j hj hm => ?_)).from (by omega), (fun j e => by simp [blk] at e), (fun j e => by simp [blk] at e)⟩⟩, HBW.out.trans (HTF.out.below (fun j hj => by rw [List.mem_singleton.1 hj]; omega) HBW.out.size)⟩
      have h1 := (HO.out.block j hj).1
      rw [List.mem_singleton.1 hm] at h1
      omega
end Go.Proofs.YtbiinnfkokaadaaDoor.Ev
/- The statements' first call (chapter 15). -/
namespace Go.Proofs.YtbiinnfkokaadaaDoor.Ev
open Go.RowKit Book Mem
open Ir (T I O trA trV trV ReadsL ReadsI ReadsO outA outV insA insV newBox boxOn ld_tr st_tr zero9 CI CT)
open Mach (M less cells10 zero10 OwnsL OwnsM ReadsM stV st_state ld_state state_size slice_one all_one)
set_option linter.unusedSimpArgs false
set_option linter.unusedVariables false
def aT : T := ⟨5, 1, 0, 0, 0, [(2, 0, 0, 0, 0), (4, 11, 0, 0, 0)], [⟨7, 2, [1], []⟩], 0, []⟩
def aM : M := { bootM 20 ⟨#[]⟩ with ip := 5, status := 0, stack := [3, 4] }
theorem aRun : runT [] aT aM = ⟨{ aM with ip := 7, stack := [3, 8] }, 0, 2, false⟩ := by kernel_rfl
theorem aMay : mayT aT aM = true := by kernel_rfl
theorem two_ins {w : World} {g c : Nat} {x y : I} (h : w.heap[g]? = some (.cells (insA x ++ insA y) 43 (0, 0))) : ReadsI w (.slice (some ⟨g, 0, none⟩) 2 c) [x, y] :=
  ⟨_, c, rfl, fun j u hj => by
    rcases j with - | - | j
    · obtain rfl : x = u := by simpa using hj
      exact ⟨_, rfl, whole_cell h rfl, whole_cell h rfl, whole_cell h rfl, whole_cell h rfl, whole_cell h rfl⟩
    · obtain rfl : y = u := by simpa using hj
      exact ⟨_, rfl, whole_cell h rfl, whole_cell h rfl, whole_cell h rfl, whole_cell h rfl, whole_cell h rfl⟩
    · simp at hj⟩
theorem one_int {w : World} {g c : Nat} {x : Int} (h : w.heap[g]? = some (.cells #[.int .i64 x] 3 (0, 0))) : Reads w (.slice (some ⟨g, 0, none⟩) 1 c) [x] :=
  ⟨_, c, rfl, fun j y hj => by
    rcases j with - | j
    · obtain rfl : x = y := by simpa using hj
      exact ⟨_, rfl, whole_cell h rfl⟩
    · simp at hj⟩
theorem no_int (w : World) (ao : Option Addr) (c : Nat) : Reads w (.slice ao 0 c) [] := ⟨ao, c, rfl, fun j y hj => by simp at hj⟩
theorem one_out {w : World} {g c : Nat} {x : O} {vs vb : Value} (h : w.heap[g]? = some (.cells (outA x vs vb) 39 (0, 0))) (h1 : Reads w vs x.stack) (h2 : Reads w vb x.back) : ReadsO w (.slice (some ⟨g, 0, none⟩) 1 c) [x] :=
  ⟨_, c, rfl, fun j y hj => by
    rcases j with - | j
    · obtain rfl : x = y := by simpa using hj
      exact ⟨_, vs, vb, rfl, whole_cell h rfl, whole_cell h rfl, whole_cell h rfl, whole_cell h rfl, h1, h2⟩
    · simp at hj⟩
theorem two_int {w : World} {g c : Nat} {x y : Int} (h : w.heap[g]? = some (.cells #[.int .i64 x, .int .i64 y] 3 (0, 0))) : Reads w (.slice (some ⟨g, 0, none⟩) 2 c) [x, y] :=
  ⟨_, c, rfl, fun j u hj => by
    rcases j with - | - | j
    · obtain rfl : x = u := by simpa using hj
      exact ⟨_, rfl, whole_cell h rfl⟩
    · obtain rfl : y = u := by simpa using hj
      exact ⟨_, rfl, whole_cell h rfl⟩
    · simp at hj⟩
theorem aSz : Sz aM [] [] := ⟨by decide, by decide, by decide, by decide, by decide, by decide, by decide, fun x h => by cases h⟩
theorem aMem : ∀ x ∈ bootMem 48 20, -9223372036854775808 ≤ x ∧ x ≤ 9223372036854775807 := by decide +kernel
theorem aCM : CM aM := ⟨(by intro x hx; simp [aM] at hx; rcases hx with rfl | rfl <;> (unfold Go.Proofs.YtbiinnfkokaadaaDoor.Cell.In; omega)), (fun x h => by cases h), aMem⟩
theorem aCI : ∀ x ∈ aT.ins, CI x := by
  intro x hx
  simp [aT] at hx
  rcases hx with rfl | rfl <;> exact ⟨by unfold Go.Proofs.YtbiinnfkokaadaaDoor.Cell.In; dsimp only; omega, by unfold Go.Proofs.YtbiinnfkokaadaaDoor.Cell.In; dsimp only; omega, by unfold Go.Proofs.YtbiinnfkokaadaaDoor.Cell.In; dsimp only; omega, by unfold Go.Proofs.YtbiinnfkokaadaaDoor.Cell.In; dsimp only; omega, by unfold Go.Proofs.YtbiinnfkokaadaaDoor.Cell.In; dsimp only; omega⟩
set_option maxHeartbeats 8000000 in
set_option maxRecDepth 100000 in
theorem alive_any (w : World) (hT : Tabs w) : Calls Tryd.prog 9 #[] w (SaysF true w) := by
  obtain ⟨w1, g1, hw1, hg1, H1, B1, Z1⟩ := newBox w #[.int .i64 2, .int .i64 0, .int .i64 0, .int .i64 0, .int .i64 0, .int .i64 4, .int .i64 11, .int .i64 0, .int .i64 0, .int .i64 0] 43
  obtain ⟨w2, g2, hw2, hg2, H2, B2, Z2⟩ := newBox w1 #[.int .i64 1] 3
  obtain ⟨w3, g3, hw3, hg3, H3, B3, Z3⟩ := newBox w2 #[.int .i64 7, .int .i64 2, .slice (some ⟨g2, 0, none⟩) 1 1, .slice none 0 0] 39
  obtain ⟨wz, g4, hwz, hg4, HZB, BZ, Z4⟩ := newBox w3 zero9 26
  have B3z := Lib.hid (B3.out.trans (BZ.out.mono B3.out.size))
  have B2z := Lib.hid (B2.out.trans (B3z.out.mono B2.out.size))
  have BFz := Lib.hid (B1.out.trans (B2z.out.mono B1.out.size))
  have J1 := Lib.hid (boxOn H1.out B2z.out)
  have J2 := Lib.hid (boxOn H2.out B3z.out)
  have J3 := Lib.hid (boxOn H3.out BZ.out)
  have NE := Lib.hid (show g1 ≠ g4 ∧ g2 ≠ g4 ∧ g3 ≠ g4 ∧ w.heap.size ≤ g4 by
    have h1 := whole_lt H1.out
    have h2 := whole_lt H2.out
    have h3 := whole_lt H3.out
    have z4 := Z4.out
    have s2 := B2.out.size
    have s3 := B3.out.size
    have s1 := B1.out.size
    omega)
  have HT0 := Lib.hid hT
  clear hT
  go_enter Tryd.func9, Tryd.ntmps9
  go_upto_region 2 with (refine st_tr (by rfl) _ _ rfl g4 #[.int .i64 5, .int .i64 1, .int .i64 0, .int .i64 0, .int .i64 0, .slice (some ⟨g1, 0, none⟩) 2 2, .slice (some ⟨g3, 0, none⟩) 1 1, .int .i64 0, .slice none 0 0] rfl rfl rfl _ rfl HZB.out (by simp [Value.oneCell']) ?_; intro w4 h4 t4)
  have H4 := Lib.hid h4
  have K1 := Lib.hid (t4.whole J1.out (fun hm => NE.out.1 (List.mem_singleton.1 hm)))
  have K2 := Lib.hid (t4.whole J2.out (fun hm => NE.out.2.1 (List.mem_singleton.1 hm)))
  have K3 := Lib.hid (t4.whole J3.out (fun hm => NE.out.2.2.1 (List.mem_singleton.1 hm)))
  have BF := Lib.hid (BFz.out.trans (t4.below (fun k hk => by rw [List.mem_singleton.1 hk]; exact NE.out.2.2.2) BFz.out.size))
  have HR := Lib.hid (show ReadsL w4 (.slice (some ⟨g1, 0, none⟩) 2 2) (.slice (some ⟨g3, 0, none⟩) 1 1) (.slice none 0 0) aT from ⟨two_ins (x := (2, 0, 0, 0, 0)) (y := (4, 11, 0, 0, 0)) K1.out, one_out (x := ⟨7, 2, [1], []⟩) K3.out (one_int K2.out) (no_int _ _ _), no_int _ _ _⟩)
  clear h4 t4 hw1 hw2 hw3 hwz hg1 hg2 hg3 hg4 H1 H2 H3 HZB B1 B2 B3 BZ Z1 Z2 Z3 Z4 J1 J2 J3 B3z B2z BFz K1 K2 K3
  have CB := Lib.hid (refBoot20 w4 20 rfl ⟨#[]⟩)
  dsimp only [Act.put]
  go_wp2_with fail
  refine CB.out.mono ?_
  rintro e w5 ⟨v5, rfl, ⟨vs5, vb5, vm5, rfl, ho5⟩, hb5⟩
  obtain ⟨bo, bc, eb⟩ := ho5.bk.slice
  rw [show (vals (bootM 20 ⟨#[]⟩).back).length = 0 from rfl] at eb
  subst eb
  have HO5 := Lib.hid ho5
  have HB5 := Lib.hid hb5
  have HON := Lib.hid (And.intro (slice_one ho5.st.slice) (And.intro (slice_one ho5.bk.slice) (slice_one ho5.me.slice)))
  obtain ⟨w6, g6, hw6, hg6, H6, B6, Z6⟩ := newBox w5 zero10 28
  clear ho5 hb5 CB
  go_upto_region 4 with (refine st_state (by rfl) _ _ rfl g6 (cells10 0 0 vs5 (.slice bo 0 bc) vm5 ⟨#[]⟩ ⟨#[]⟩ 0 1 0) rfl rfl _ _ H6.out rfl rfl (all_one HON.out.1 HON.out.2.1 HON.out.2.2) ?_; intro w7 h7 t7; obtain ⟨w8, g8, hw8, hg8, H8, B8, Z8⟩ := newBox w7 #[.int .i64 3, .int .i64 4] 3; have HGL := Lib.hid (whole_lt h7); have h8 := boxOn h7 B8.out; have c0 : w8.cell? ⟨g6, 0, none⟩ = some (.int .i64 0) := whole_cell h8 rfl; have f0 : w8.frozen? ⟨g6, 0, none⟩ = false := whole_frozen h8 0; have h9 := whole_set h8 0 (.int .i64 5); have t9 := Stirred.setCell w8 ⟨g6, 0, none⟩ (.int .i64 5); obtain ⟨w9, hw9⟩ : ∃ w9, w8.setCell ⟨g6, 0, none⟩ (.int .i64 5) = w9 := ⟨_, rfl⟩; rw [hw9] at h9 t9; have c8 : w9.cell? ⟨g6, 8, none⟩ = some (.int .i64 1) := whole_cell h9 rfl; have f8 : w9.frozen? ⟨g6, 8, none⟩ = false := whole_frozen h9 8; have h10 := whole_set h9 8 (.int .i64 0); have t10 := Stirred.setCell w9 ⟨g6, 8, none⟩ (.int .i64 0); obtain ⟨w10, hw10⟩ : ∃ w10, w9.setCell ⟨g6, 8, none⟩ (.int .i64 0) = w10 := ⟨_, rfl⟩; rw [hw10] at h10 t10; have c2 : w10.cell? ⟨g6, 2, none⟩ = some vs5 := whole_cell h10 rfl; have f2 : w10.frozen? ⟨g6, 2, none⟩ = false := whole_frozen h10 2; have h11 := whole_set h10 2 (.slice (some ⟨g8, 0, none⟩) 2 2); have t11 := Stirred.setCell w10 ⟨g6, 2, none⟩ (.slice (some ⟨g8, 0, none⟩) 2 2); obtain ⟨w11, hw11⟩ : ∃ w11, w10.setCell ⟨g6, 2, none⟩ (.slice (some ⟨g8, 0, none⟩) 2 2) = w11 := ⟨_, rfl⟩; rw [hw11] at h11 t11; have H11 := Lib.hid h11; have T811 := Lib.hid ((t9.trans t10 (fun k hk => .inl hk)).trans t11 (fun k hk => .inl hk)); have T57 := Lib.hid ((Stirred.of_below B6.out [g6]).trans t7 (fun k hk => .inl hk)); clear h7 t7 h8 h9 t9 h10 t10 h11 t11)
  have H11b := Lib.hid (show w11.heap[g6]? = some (.cells (cells10 5 0 (.slice (some ⟨g8, 0, none⟩) 2 2) (.slice bo 0 bc) vm5 ⟨#[]⟩ ⟨#[]⟩ 0 0 0) 28 (0, 0)) from H11.out)
  have BT := Lib.hid (show Below w4.heap.size w4 w11 from by
    have b1 := HB5.out
    have b2 := b1.trans (T57.out.below (B := w4.heap.size) (fun k hk => by rw [List.mem_singleton.1 hk, ← Z6.out]; exact b1.size) b1.size)
    have b3 := b2.trans (B8.out.mono b2.size)
    exact b3.trans (T811.out.below (B := w4.heap.size) (fun k hk => by rw [List.mem_singleton.1 hk, ← Z6.out]; exact b1.size) b3.size))
  have T511 := Lib.hid ((T57.out.trans (Stirred.of_below B8.out []) (fun k hk => by cases hk)).trans T811.out (fun k hk => .inl hk))
  have hfar : ∀ {v : Value} {xs : List Int}, Owns w5 w4.heap.size 3 v (vals xs) → Owns w11 w4.heap.size 3 v (vals xs) := fun h => h.touch T511.out (fun k e hm => by have h1 := (h.block k e).2.1; have h2 := List.mem_singleton.1 hm; have h3 := Z6.out; omega)
  have H8c := T811.out.whole H8.out (fun hm => by have h1 := List.mem_singleton.1 hm; have h2 := Z8.out; have h3 := HGL.out; simp only at h1; omega)
  have HM11 := Lib.hid (show ReadsM w11 (stV aM (.slice (some ⟨g8, 0, none⟩) 2 2) (.slice bo 0 bc) vm5) aM from ⟨_, _, _, rfl, ⟨two_int H8c, _, 2, rfl, Nat.le_refl _⟩, ReadsC.of_owns (hfar HO5.out.bk), ReadsC.of_owns (hfar HO5.out.me)⟩)
  have HR11 := Lib.hid (HR.out.below BT.out)
  have HT11 := Lib.hid ((HT0.out.mono BF.out).mono BT.out)
  have HQ11 := Lib.hid (boxOn H4.out BT.out)
  have CR := Lib.hid (show Calls Tryd.prog 11 #[trV aT (.slice (some ⟨g1, 0, none⟩) 2 2) (.slice (some ⟨g3, 0, none⟩) 1 1) (.slice none 0 0), stV aM (.slice (some ⟨g8, 0, none⟩) 2 2) (.slice bo 0 bc) vm5, .slice none 0 0] w11 (Runs ⟨{ aM with ip := 7, stack := [3, 8] }, 0, 2, false⟩ w11) from by
    have h := run_any HM11.out HR11.out (no_int w11 none 0) aSz aCM aCI HT11.out (by decide) (by decide) (fun o ho => by rw [List.mem_singleton.1 ho]; exact ⟨by decide, by decide⟩)
    rw [aRun] at h
    exact h)
  have CY := Lib.hid (fun wc => show Calls Tryd.prog 13 #[trV aT (.slice (some ⟨g1, 0, none⟩) 2 2) (.slice (some ⟨g3, 0, none⟩) 1 1) (.slice none 0 0), stV aM (.slice (some ⟨g8, 0, none⟩) 2 2) (.slice bo 0 bc) vm5] wc (SaysF true wc) from by
    have h := may_any (w := wc) (t := aT) (s := aM) (vi := .slice (some ⟨g1, 0, none⟩) 2 2) (vo := .slice (some ⟨g3, 0, none⟩) 1 1) (vc := .slice none 0 0) (vm := vm5) (so := some ⟨g8, 0, none⟩) (bo := bo) (sc := 2) (bc := bc) (by decide) (by decide)
    rw [aMay] at h
    exact h)
  clear hw6 hw8 hg6 hg8 hw9 hw10 hw11 c0 f0 c8 f8 c2 f2 H11 H6 B6 H8 B8 H8c hfar
  try dsimp only [Act.put]
  go_wp2_with (first
    | (refine ld_tr (by rfl) _ rfl g4 rfl _ rfl HQ11.out ?_)
    | (refine ld_state (by rfl) _ rfl g6 rfl _ _ H11b.out rfl ?_))
  refine CR.out.mono ?_
  rintro e w12 ⟨v, rfl, ⟨vs9, vb9, vm9, rfl, ho9⟩, hb9⟩
  obtain ⟨gs9, cs9, es9, hc9, -, -⟩ := ho9.st.row (by show 0 < 2; decide)
  rw [show (vals [3, 8]).length = 2 from rfl] at es9
  have HON9 := Lib.hid (And.intro (slice_one ho9.st.slice) (And.intro (slice_one ho9.bk.slice) (slice_one ho9.me.slice)))
  have k8 := Lib.hid (hc9 1 (.int .i64 8) rfl)
  have HGN := Lib.hid (show gs9 < w12.heap.size from World.block_lt_of_cell? w12 _ k8.out)
  have BW12 := Lib.hid hb9
  subst es9
  obtain ⟨w13, g13, hw13, hg13, H13, B13, Z13⟩ := newBox w12 zero10 28
  obtain ⟨w14, g14, hw14, hg14, H14, B14, Z14⟩ := newBox w13 zero3 34
  have H13b := Lib.hid (boxOn H13.out B14.out)
  have NG := Lib.hid (show gs9 < g13 ∧ g13 < g14 ∧ w11.heap.size ≤ g13 from ⟨by rw [← Z13.out]; exact HGN.out, by rw [← Z14.out]; exact whole_lt H13.out, by rw [← Z13.out]; exact BW12.out.size⟩)
  have B1214 := Lib.hid (B13.out.trans (B14.out.mono B13.out.size))
  have K8 := Lib.hid (show w14.cell? ⟨gs9, 1, none⟩ = some (.int .i64 8) from (Stirred.of_below B1214.out []).cell List.not_mem_nil k8.out)
  clear ho9 hb9 hc9 CR k8
  go_upto_region 5 with (first
    | (refine st_state (by rfl) _ _ rfl g13 _ rfl rfl _ _ H13b.out rfl rfl (all_one HON9.out.1 HON9.out.2.1 HON9.out.2.2) ?_; intro w15 h15 t15; have H15 := Lib.hid h15; have T15 := Lib.hid t15; have H14b := Lib.hid (t15.whole H14.out (fun hm => by have h1 := List.mem_singleton.1 hm; have h2 := NG.out.2.1; omega)); clear h15 t15)
    | (refine st_done (by rfl) _ _ rfl g14 #[.int .i64 0, .int .i64 2, .bool false] rfl rfl rfl _ rfl H14b.out (by simp [Value.oneCell']) ?_; intro w16 h16 t16; have H16 := Lib.hid h16; have T16 := Lib.hid t16; have H15b := Lib.hid (t16.whole H15.out (fun hm => by have h1 := List.mem_singleton.1 hm; have h2 := NG.out.2.1; omega)); clear h16 t16))
  have TT := Lib.hid (two_more T15.out T16.out)
  have HN : ∀ {k : Nat}, k < g13 → k ∉ [g13, g14] := fun {k} h hm => by
    rcases List.mem_cons.1 hm with e | e
    · omega
    · have h1 := List.mem_singleton.1 e; have h2 := NG.out.2.1; omega
  have d0 : w16.cell? ⟨g14, 0, none⟩ = some (.int .i64 0) := whole_cell H16.out rfl
  have d1 : w16.cell? ⟨g14, 1, none⟩ = some (.int .i64 2) := whole_cell H16.out rfl
  have d2 : w16.cell? ⟨g14, 2, none⟩ = some (.bool false) := whole_cell H16.out rfl
  have s0 : w16.cell? ⟨g13, 0, none⟩ = some (.int .i64 7) := whole_cell H15b.out rfl
  have s2 : w16.cell? ⟨g13, 2, none⟩ = some (.slice (some ⟨gs9, 0, none⟩) 2 cs9) := whole_cell H15b.out rfl
  have s8 : w16.cell? ⟨gs9, 1, none⟩ = some (.int .i64 8) := TT.out.cell (HN NG.out.1) K8.out
  have BL := Lib.hid (show Below w11.heap.size w11 w16 from by
    have b1 := BW12.out.trans (B1214.out.mono BW12.out.size)
    exact b1.trans (TT.out.below (fun k hk => by
      rcases List.mem_cons.1 hk with e | e
      · rw [e]; exact NG.out.2.2
      · rw [List.mem_singleton.1 e]; exact Nat.le_of_lt (Nat.lt_of_le_of_lt NG.out.2.2 NG.out.2.1)) b1.size))
  have HQ16 := Lib.hid (boxOn HQ11.out BL.out)
  have H616 := Lib.hid (boxOn H11b.out BL.out)
  have C := Lib.hid (CY.out w16)
  clear HN hw13 hw14 hg13 hg14 CY K8
  try dsimp only [Act.put]
  go_wp2_with (first
    | (refine ld_tr (by rfl) _ rfl g4 rfl _ rfl HQ16.out ?_)
    | (refine ld_state (by rfl) _ rfl g6 rfl _ _ H616.out rfl ?_)
    | (go_at_call 13; refine C.out.mono ?_; rintro e w17 ⟨rfl, hb⟩; have HB17 := Lib.hid hb; clear hb))
  go_ret
  exact ⟨rfl, BF.out.trans ((BT.out.trans ((BL.out.trans (HB17.out.mono BL.out.size)).mono BT.out.size)).mono BF.out.size)⟩
end Go.Proofs.YtbiinnfkokaadaaDoor.Ev
/- The tables that stage 3's rows list: what they hold, and a world in which they are laid. -/
namespace Go.Proofs.YtbiinnfkokaadaaDoor
open Go.RowKit Go.Lib Go.Shelf
set_option linter.unusedVariables false
set_option linter.unusedSimpArgs false
section
variable {H : Type} {enc : TypeId × Value → H}
/-- a world that fits, in which listed variables may hold addresses -/
theorem witness_ref {C : Checked} {os : Os} {f : FuncId} {fn : Func} {s : ChangeSpec} {conds : List PathCond} {apart : Bool} {X : World → Array Value → Prop} (modest : Bool) (w0 : World) (args : Array Value) (fuel : Nat) (hos : w0.os = os)
    (hv : (w0.forCall (fun _ _ => 0) ⟨#[], args, []⟩).variablesRefB C.prog = true)
    (hr : ((w0.forCall (fun _ _ => 0) ⟨#[], args, []⟩).heap.toList.drop C.prog.globals.size).take ((begin C.prog (fun _ _ => 0) default).world.heap.size - C.prog.globals.size) = (begin C.prog (fun _ _ => 0) default).world.heap.toList.drop C.prog.globals.size)
    (hok : Input.okWideB C.prog (w0.forCall (fun _ _ => 0) ⟨#[], args, []⟩) f ⟨#[], args, []⟩ = true)
    (hpre : s.preB enc C.prog fn conds apart (w0.forCall (fun _ _ => 0) ⟨#[], args, []⟩).memory args fuel = true)
    (hsz : s.sizedB enc C.prog fn apart (w0.forCall (fun _ _ => 0) ⟨#[], args, []⟩).memory args fuel = true)
    (hx : X (w0.forCall (fun _ _ => 0) ⟨#[], args, []⟩).memory args) :
    ∃ (w : World) (tape : Tape) (i : Input), w.os = os ∧ (w.forCall tape i).Shaped C.prog ∧ i.vars = [] ∧ Input.okWide C.prog (w.forCall tape i) .any w.heap.size f i ∧
      ((s.pre enc C.prog fn conds apart (w.forCall tape i).memory i.args ∧ X (w.forCall tape i).memory i.args) ∧ sizedMet enc C.prog fn (OpenSpec.ofChange s) apart (w.forCall tape i).memory i.args) ∧ ({ modest := modest } : Assume).holds C.prog (lone (Frame.enter C.prog f i.args .normal) [] (w.forCall tape i)) := by
  refine ⟨w0, fun _ _ => 0, ⟨#[], args, []⟩, hos, World.shaped_of_RefB hv hr, ?_, ?_, ?_, ?_⟩
  · exact (Input.okWide_of_okWideB (base := 0) hok).1
  · exact (Input.okWide_of_okWideB hok).2
  · exact ⟨⟨ChangeSpec.pre_of_preB hpre, hx⟩, sizedMet_of_sizedB hsz⟩
  · simp only [Assume.holds]
    exact ⟨by simp, by simp, fun _ => Modest.zero, by simp, by simp⟩
end
def laidL : List (String × DataW Unit) := [("math/bits.deBruijn32tab", Rows.laid_math_bits_deBruijn32tab), ("math/bits.deBruijn64tab", Rows.laid_math_bits_deBruijn64tab), ("internal/strconv.uint64pow10", Rows.laid_internal_strconv_uint64pow10), ("unicode/utf8.acceptRanges", Rows.laid_unicode_utf8_acceptRanges), ("unicode.CaseRanges", Rows.laid_unicode_CaseRanges), ("unicode/utf8.first", Rows.laid_unicode_utf8_first)]
theorem laidL_split : (laidL.filter fun x => x.2.handleName?.isSome) = [] := rfl
theorem laidMetH_iff {W : World} : laidMetH Tryd.prog laidL W = laidMet Tryd.prog laidL W := by unfold laidMetH; rw [laidL_split]
theorem vars_mem {P : Program} {W : World} : ∀ {l : List (String × DataW Unit)} {ps : List MemPlace}, DataW.LaidVars P W l ps → ∀ {n d}, (n, d) ∈ l → ∃ g t cs fuel p, P.globalNamed n = some g ∧ (P.globals[g]?).map (·.type) = some t ∧ W.var? P n = some cs ∧ DataW.trod (fun _ => ()) P W 0 (fun _ => true) false fuel t cs.toList = some (d, p)
  | [], _, _, _, _, hm => by cases hm
  | (n0, d0) :: r, ps, ⟨g, t, cs, fuel, p, q, h1, h2, h3, h4, h5, h6⟩, n, d, hm => by
    rcases List.mem_cons.1 hm with e | hm
    · obtain ⟨rfl, rfl⟩ := Prod.mk.inj e
      exact ⟨g, t, cs, fuel, p, h1, h2, h3, h4⟩
    · exact vars_mem h5 hm
theorem tens_of {W : World} (h : laidMetH Tryd.prog laidL W) : Tens W := by
  rw [laidMetH_iff] at h
  obtain ⟨ps, hv, _⟩ := h
  obtain ⟨g, t, cs, fuel, p, h1, h2, h3, h4⟩ := vars_mem hv (n := "internal/strconv.uint64pow10") (d := Lib.tabData .u64 Lib.pow10Tab) (by rw [← show Rows.laid_internal_strconv_uint64pow10 (H := Unit) = Lib.tabData .u64 Lib.pow10Tab from by kernel_rfl]; exact .tail _ (.tail _ (.head _)))
  obtain rfl := Option.some.inj (Tryd.gt.symm.trans h1)
  have ht : (Tryd.prog.globals[1]?).map (·.type) = some 111 := by kernel_rfl
  obtain rfl := Option.some.inj (ht.symm.trans h2)
  unfold Tens Lib.TabIs
  rw [h3, ← Lib.cells_of_tab Tryd.underlying111 Tryd.underlying99 (by kernel_rfl) (by kernel_rfl) h4]
theorem zeros_of {W : World} (h : laidMetH Tryd.prog laidL W) : Zeros W := by
  rw [laidMetH_iff] at h
  obtain ⟨ps, hv, _⟩ := h
  obtain ⟨g, t, cs, fuel, p, h1, h2, h3, h4⟩ := vars_mem hv (n := "math/bits.deBruijn64tab") (d := Lib.tabData .u8 tz64) (by rw [← show Rows.laid_math_bits_deBruijn64tab (H := Unit) = Lib.tabData .u8 tz64 from by kernel_rfl]; exact .tail _ (.head _))
  obtain rfl := Option.some.inj (Tryd.gz.symm.trans h1)
  have ht : (Tryd.prog.globals[6]?).map (·.type) = some 128 := by kernel_rfl
  obtain rfl := Option.some.inj (ht.symm.trans h2)
  unfold Zeros Lib.TabIs
  rw [h3, ← Lib.cells_of_tab Tryd.underlying128 Tryd.underlying5 (by kernel_rfl) (by kernel_rfl) h4]
/-- what a datum of plain numbers is in cells -/
def cellsOfD {H : Type} : DataW H → Array Value
  | .agg l => (l.flatMap fun
    | .lit (.int k z) => [Value.int k z]
    | .agg r => r.filterMap fun | .lit (.int k z) => some (Value.int k z) | _ => none
    | _ => []).toArray
  | _ => #[]
def putAt (g : Nat) (cs : Array Value) (h : Array Obj) : Array Obj := h.modify g fun
  | .cells _ t frozen => .cells cs t frozen
  | o => o
noncomputable def N0 (os : Os) : Nat := (World.settled Tryd.prog os).heap.size
noncomputable def laidWorld (os : Os) : World :=
  let w0 := World.holding Tryd.prog os ⟨#[.cells Lib.caseCells5 (Tryd.lays262_ren.t 208)], #[], []⟩
  { w0 with heap := putAt 5 (cellsOfD (H := Unit) Rows.laid_math_bits_deBruijn32tab) (putAt 6 (cellsOfD (H := Unit) Rows.laid_math_bits_deBruijn64tab) (putAt 1 (cellsOfD (H := Unit) Rows.laid_internal_strconv_uint64pow10) (putAt 4 (cellsOfD (H := Unit) Rows.laid_unicode_utf8_acceptRanges) (putAt 3 (cellsOfD Rows.laid_unicode_utf8_first) (putAt 0 #[.slice (some ⟨N0 os, 0, none⟩) 336 336] w0.heap))))) }
noncomputable abbrev called (os : Os) (args : Array Value) : World := ((laidWorld os).forCall (fun _ _ => 0) ⟨#[], args, []⟩).memory
theorem laid_first (os : Os) (args : Array Value) : LaidIn Tryd.prog (called os args) [("math/bits.deBruijn32tab", Rows.laid_math_bits_deBruijn32tab), ("math/bits.deBruijn64tab", Rows.laid_math_bits_deBruijn64tab), ("internal/strconv.uint64pow10", Rows.laid_internal_strconv_uint64pow10), ("unicode/utf8.acceptRanges", Rows.laid_unicode_utf8_acceptRanges)] [5, 6, 1, 4] :=
  LaidIn.of_run _ 10 (by kernel_rfl) (by kernel_rfl) (by kernel_rfl) (by kernel_rfl)
theorem laid_last (os : Os) (args : Array Value) : LaidIn Tryd.prog (called os args) [("unicode/utf8.first", Rows.laid_unicode_utf8_first)] [3] :=
  LaidIn.of_run _ 10 (by kernel_rfl) (by kernel_rfl) (by kernel_rfl) (by kernel_rfl)
theorem case_var (os : Os) (args : Array Value) : (called os args).heap[0]? = some (.cells #[.slice (some ⟨N0 os, 0, none⟩) 336 336] (Tryd.lays262_ren.t 162) (0, 0)) := by kernel_rfl
theorem case_blk (os : Os) (args : Array Value) : (called os args).heap[N0 os]? = some (.cells Lib.caseCells5 (Tryd.lays262_ren.t 208) (0, 0)) := by kernel_rfl
theorem case_ne (os : Os) : (N0 os == 0) = false := by kernel_rfl
theorem case_extra : CaseExtra Tryd.prog Tryd.lays262_ren := ⟨by kernel_rfl, by kernel_rfl, by kernel_rfl, by kernel_rfl, by kernel_rfl, by kernel_rfl⟩
theorem case_206 : Tryd.prog.underlying (Tryd.lays262_ren.t 206) = some (.array 3 (Tryd.lays262_ren.t 21)) := by kernel_rfl
set_option maxRecDepth 100000 in
theorem laid_case (os : Os) (args : Array Value) : LaidIn Tryd.prog (called os args) [("unicode.CaseRanges", Rows.laid_unicode_CaseRanges)] [0, N0 os] := by
  have X := case_extra
  have hvar := case_var os args
  have hblk := case_blk os args
  have hne : N0 os ≠ 0 := by simpa using case_ne os
  generalize called os args = W at *
  generalize N0 os = R at *
  have hT := caseTab_of_block hblk
  have hread := case_slice_reads { Tryd.lays262 with } case_206 X hT caseA_wf (by rw [caseA_size]; unfold maxLen; omega) 0
  rw [case_rows_data, caseA_size] at hread
  have hd : Rows.laid_unicode_CaseRanges = .slice (caseT.map rowData) [] := Pinned.caseRanges_eq
  have hv : W.var? Tryd.prog "unicode.CaseRanges" = some #[.slice (some ⟨R, 0, none⟩) 336 336] := by
    have hn : Tryd.prog.globalNamed "unicode.CaseRanges" = some 0 := X.n13
    simp [World.var?, hn, hvar]
  have hrow : MemPlace.row ⟨0, 0, none⟩ (#[Value.slice (some ⟨R, 0, none⟩) 336 336] : Array Value).size ++ MemPlace.row ⟨R, 0, none⟩ (336 * 5) = ([((⟨0, 0, none⟩ : Addr), 1), (⟨R, 0, none⟩, 336 * 5)] : List (Addr × Nat)).flatMap (fun r => MemPlace.row r.1 r.2) := by simp
  rw [hd]
  have n13 : Tryd.prog.globalNamed "unicode.CaseRanges" = some 0 := X.n13
  have y13 : (Tryd.prog.globals[0]?).map (·.type) = some (Tryd.lays262_ren.t 162) := X.y13
  refine LaidIn.one _ n13 y13 hv hread ?_ ?_ ?_
  · rw [hrow]
    exact rows_nodup _ (by simp; exact fun e => hne e.symm)
  · intro b off hp
    rcases List.mem_append.1 hp with hp | hp
    · obtain ⟨i, hi, e⟩ := MemPlace.mem_row.1 hp
      cases e
      refine ⟨⟨_, _, hvar⟩, fun u v hc => ?_⟩
      obtain rfl : i = 0 := by simp at hi; omega
      rw [Lib.cell_of_heap hvar] at hc
      simp at hc
    · obtain ⟨i, hi, e⟩ := MemPlace.mem_row.1 hp
      cases e
      refine ⟨⟨_, _, hblk⟩, fun u v hc => ?_⟩
      obtain ⟨c0, c1, c2, c3, c4⟩ := hT (i / 5) (by rw [caseA_size]; omega)
      have hi5 : 0 + i = 0 + i / 5 * 5 + i % 5 := by omega
      simp only at hc
      rw [hi5] at hc
      have hm : i % 5 < 5 := Nat.mod_lt _ (by omega)
      match hk : i % 5, hm with
      | 0, _ => rw [hk, Nat.add_zero, c0] at hc; cases hc
      | 1, _ => rw [hk, c1] at hc; cases hc
      | 2, _ => rw [hk, c2] at hc; cases hc
      | 3, _ => rw [hk, c3] at hc; cases hc
      | 4, _ => rw [hk, c4] at hc; cases hc
  · intro x hx
    rw [hrow] at hx
    have := rows_block _ x hx
    simpa using this
theorem apart1 (os : Os) : (([5, 6, 1, 4] : List Nat).all fun b => !(([0, N0 os] : List Nat).contains b)) = true := by kernel_rfl
theorem apart2 (os : Os) : (([5, 6, 1, 4] ++ [0, N0 os] : List Nat).all fun b => !(([3] : List Nat).contains b)) = true := by kernel_rfl
theorem laidWorld_met (os : Os) (args : Array Value) : laidMetH Tryd.prog laidL (called os args) := by
  rw [laidMetH_iff]
  exact (((laid_first os args).append (laid_case os args) (apart1 os)).append (laid_last os args) (apart2 os)).met
end Go.Proofs.YtbiinnfkokaadaaDoor
/- The tables that a run leans on, as the rows list them. -/
namespace Go.Proofs.YtbiinnfkokaadaaDoor.Ev
theorem tabs_of {W : World} (h : laidMetH Tryd.prog laidL W) : Tabs W := ⟨zeros_of h, tens_of h⟩
end Go.Proofs.YtbiinnfkokaadaaDoor.Ev
/- hollowaybook's comparison of two lists of numbers, whatever it comes to. -/
namespace Go.Proofs.YtbiinnfkokaadaaDoor.Ev
open Go.RowKit Book Mem
set_option linter.unusedSimpArgs false
set_option linter.unusedVariables false
theorem drop_end {α : Type} {l : List α} {n : Nat} (h : l.length = n) : l.drop n = [] := List.drop_of_length_le (by omega)
/-- two lists are alike as far as their rests are -/
theorem rest_eq {α : Type} {a b : List α} {j : Nat} {x y : α} (hx : a[j]? = some x) (hy : b[j]? = some y) : (a.drop j = b.drop j) ↔ (x = y ∧ a.drop (j + 1) = b.drop (j + 1)) := by
  have h1 := (List.getElem?_eq_some_iff.1 hx).1
  have h2 := (List.getElem?_eq_some_iff.1 hy).1
  rw [List.drop_eq_getElem_cons h1, List.drop_eq_getElem_cons h2, show a[j] = x from (List.getElem?_eq_some_iff.1 hx).2, show b[j] = y from (List.getElem?_eq_some_iff.1 hy).2, List.cons_eq_cons]
set_option maxHeartbeats 4000000 in
theorem sameInts_any {w : World} {va vb : Value} {a b : List Int} (ha : Reads w va a) (hb : Reads w vb b) (hl : a.length ≤ 1000000) :
    Calls Tryd.prog 14 #[va, vb] w fun e w' => e = .returned (.bool (decide (a = b))) ∧ ∃ q, w' = w.drewN q := by
  obtain ⟨ao, ac, rfl, -⟩ := id ha
  obtain ⟨bo, bc, rfl, -⟩ := id hb
  have HA := Lib.hid ha
  have HB := Lib.hid hb
  obtain ⟨n, hn⟩ : ∃ n, a.length = n := ⟨_, rfl⟩
  obtain ⟨m, hm⟩ : ∃ m, b.length = m := ⟨_, rfl⟩
  have HN := Lib.hid hn
  have HM := Lib.hid hm
  rw [hn] at hl HA ⊢
  rw [hm] at HB ⊢
  obtain ⟨res, hres⟩ : ∃ res, decide (a = b) = res := ⟨_, rfl⟩
  have HRS := Lib.hid hres
  rw [hres]
  by_cases hnm : n = m
  case neg =>
    have HF := Lib.hid (show res = false by rw [← hres]; exact decide_eq_false (fun e => hnm (by rw [← hn, ← hm, e])))
    have e1 : ((n : Int) == (m : Int)) = false := by rw [beq_eq_false_iff_ne]; omega
    have e2 : (n == m) = false := by simpa using hnm
    have e3 : ((n : Int) != (m : Int)) = true := by rw [bne_iff_ne]; omega
    clear ha hb hn hm hres hnm
    go_enter Tryd.func14, Tryd.ntmps14
    go_wp2
    go_ret
    exact ⟨by rw [HF.out]; rfl, 0, rfl⟩
  subst hnm
  clear ha hb hn hm hres
  go_enter Tryd.func14, Tryd.ntmps14
  go_wp2
  go_loopg [5] n (fun z i wr => ∃ j q : Nat, z = n - j ∧ j ≤ n ∧ i = .int .i64 (j : Int) ∧ wr = w.drewN q ∧ Hid (decide (a.drop j = b.drop j) = res))
  case atStart => exact ⟨0, 0, rfl, Nat.zero_le _, rfl, rfl, Lib.hid HRS.out⟩
  case round =>
    obtain ⟨j, q, rfl, hj, rfl, hwr, HJ⟩ := hrel
    subst wr
    by_cases hlt : j < n
    · obtain ⟨x, hx⟩ : ∃ x, a[j]? = some x := ⟨_, List.getElem?_eq_getElem (by rw [HN.out]; exact hlt)⟩
      obtain ⟨y, hy⟩ : ∃ y, b[j]? = some y := ⟨_, List.getElem?_eq_getElem (by rw [HM.out]; exact hlt)⟩
      have HS := Lib.hid (show decide (x = y ∧ a.drop (j + 1) = b.drop (j + 1)) = res by rw [← HJ.out]; exact decide_eq_decide.2 (rest_eq hx hy).symm)
      obtain ⟨aa, rfl, ca⟩ := Ir.Reads.at' HA.out hx
      obtain ⟨ba, rfl, cb⟩ := Ir.Reads.at' HB.out hy
      have z0 : (0 : Int) ≤ (j : Int) := by omega
      have z1 : (j : Int) < (n : Int) := by omega
      clear HJ hx hy
      by_cases hxy : x = y
      · subst hxy
        have HP := Lib.hid (show decide (a.drop (j + 1) = b.drop (j + 1)) = res by rw [← HS.out]; exact decide_eq_decide.2 ⟨fun h => ⟨rfl, h⟩, fun h => h.2⟩)
        clear HS
        go_wp2
        go_quiet (fail)
        go_wp2
        go_roundg (n - (j + 1))
        case measure => omega
        case rel => exact ⟨j + 1, _, rfl, by omega, by go_num, rfl, HP⟩
      · have HF := Lib.hid (show res = false by rw [← HS.out]; exact decide_eq_false (fun h => hxy h.1))
        have e1 : (x == y) = false := by rw [beq_eq_false_iff_ne]; exact hxy
        clear HS hxy
        go_wp2
        go_quiet (fail)
        go_wp2
        go_ret
        exact ⟨by rw [HF.out]; rfl, _, World.drewN_drewN _ _ _⟩
    · obtain rfl : j = n := by omega
      have HF := Lib.hid (show res = true by rw [← HJ.out, drop_end HN.out, drop_end HM.out]; rfl)
      go_wp2
      go_ret
      exact ⟨by rw [HF.out]; rfl, q, rfl⟩
end Go.Proofs.YtbiinnfkokaadaaDoor.Ev
/- Is a machine small enough? -/
namespace Go.Proofs.YtbiinnfkokaadaaDoor.Mach
open Go.RowKit Book Mem
set_option linter.unusedVariables false
set_option linter.unusedSimpArgs false
def lightB (m : M) : Bool := decide (m.mem.length ≤ 700) && decide (m.inp.size ≤ 300) && rightM m
theorem lightB_iff (m : M) : lightB m = true ↔ m.mem.length ≤ 700 ∧ m.inp.size ≤ 300 ∧ Right m := by
  unfold lightB
  rw [Bool.and_eq_true, Bool.and_eq_true, decide_eq_true_eq, decide_eq_true_eq, rightM_iff, and_assoc]
set_option maxHeartbeats 4000000 in
set_option maxRecDepth 100000 in
theorem light_any {w : World} {v : Value} {m : M} (h : ReadsM w v m) (hi : m.inp.size ≤ maxLen) (ho : m.out.size ≤ maxLen) :
    Calls Tryd.prog 7 #[v] w (Says (.bool (lightB m)) w) := by
  have HV := Lib.hid h
  obtain ⟨vs, vb, vm, rfl, -, -, ⟨⟨mo, mc, hm, _⟩, _⟩⟩ := h
  obtain ⟨ip, hn, st, bk, me, ou, inn, rd, stt, cd⟩ := m
  simp only at hm hi ho ⊢
  subst hm
  have hi' : inn.size ≤ 9223372036854775807 := hi
  have HX := Lib.hid (heap_alloc_new w (.cells (cells10 ip hn vs vb (.slice mo me.length mc) ou inn rd stt cd) 28))
  have HB1 := Lib.hid ((Below.refl w.heap.size w).alloc (Nat.le_refl _) (.cells (cells10 ip hn vs vb (.slice mo me.length mc) ou inn rd stt cd) 28))
  have C := Lib.hid (refRight_any (HV.out.below HB1.out) hi ho)
  obtain ⟨rb, hrb⟩ : ∃ b, rightM ⟨ip, hn, st, bk, me, ou, inn, rd, stt, cd⟩ = b := ⟨_, rfl⟩
  have HL := Lib.hid (show lightB ⟨ip, hn, st, bk, me, ou, inn, rd, stt, cd⟩ = (decide (me.length ≤ 700) && decide (inn.size ≤ 300) && rb) by unfold lightB; rw [hrb])
  obtain ⟨lb, hlb⟩ : ∃ b, lightB ⟨ip, hn, st, bk, me, ou, inn, rd, stt, cd⟩ = b := ⟨_, rfl⟩
  rw [hlb]
  rw [hrb] at C
  have HLB := Lib.hid (hlb.symm.trans HL.out)
  clear hi ho hlb HL HV hrb
  by_cases c1 : me.length ≤ 700
  · by_cases c2 : inn.size ≤ 300
    · have HF := Lib.hid (show lb = rb by rw [HLB.out]; simp [c1, c2])
      clear HLB
      go_enter Tryd.func7, Tryd.ntmps7
      go_wp2_with (first
        | (refine ld_state (by rfl) _ rfl _ rfl _ _ HX.out rfl ?_)
        | (go_at_call 15; refine C.out.mono ?_; rintro e w2 ⟨rfl, hb⟩; have HB2 := Lib.hid (HB1.out.trans (hb.mono HB1.out.size)); clear hb))
      go_ret
      exact ⟨by rw [HF.out]; rfl, HB2.out⟩
    · have HF := Lib.hid (show lb = false by rw [HLB.out]; simp [c2])
      clear HLB C HX
      go_enter Tryd.func7, Tryd.ntmps7
      go_wp2
      go_ret
      exact ⟨by rw [HF.out]; rfl, HB1.out⟩
  · have HF := Lib.hid (show lb = false by rw [HLB.out]; simp [c1])
    clear HLB C HX
    go_enter Tryd.func7, Tryd.ntmps7
    go_wp2
    go_ret
    exact ⟨by rw [HF.out]; rfl, HB1.out⟩
end Go.Proofs.YtbiinnfkokaadaaDoor.Mach
/- EvalEmpty: the walk. -/
namespace Go.Proofs.YtbiinnfkokaadaaDoor.EvalEmpty
open Go.RowKit Book Mem Ev
open Ir (T I O trA trV ReadsL ReadsI ReadsO outA outV insA insV newBox boxOn ld_tr st_tr zero9 CI CT)
open Mach (M less cells10 zero10 OwnsL OwnsM ReadsM stV st_state ld_state state_size slice_one all_one lightB lightB_iff Cells)
set_option linter.unusedSimpArgs false
set_option linter.unusedVariables false
def Yes (w : World) (e : Ending) (w' : World) : Prop := e = .returned (.bool true) ∧ Below w.heap.size w w'
def eT (sip ip : Int) (ks kb : Nat) : T := ⟨sip, ks, kb, 0, 0, [], [⟨ip, 1, [], []⟩], 0, []⟩
theorem eMay {sip ip hn rd cd : Int} {st bk me : List Int} {ou inn : ByteArray} {ks kb : Nat} (h1 : ks ≤ st.length) (h2 : kb ≤ bk.length) (h3 : st.length ≤ 48) (h4 : bk.length ≤ 48) : mayT (eT sip ip ks kb) ⟨sip, hn, st, bk, me, ou, inn, rd, 0, cd⟩ = true := by
  unfold mayT eT Ir.within
  dsimp only
  rw [decide_eq_true rfl, decide_eq_true rfl, decide_eq_true (by omega), decide_eq_true (by omega), decide_eq_true (by omega), decide_eq_true (by omega)]
  rfl
theorem eRun {sip ip hn rd cd : Int} {st bk me : List Int} {ou inn : ByteArray} {ks kb : Nat} (h1 : ks ≤ st.length) (h2 : kb ≤ bk.length) (h3 : st.length ≤ 48) (h4 : bk.length ≤ 48) :
    Ev.runT [] (eT sip ip ks kb) ⟨sip, hn, st, bk, me, ou, inn, rd, 0, cd⟩ = ⟨⟨ip, hn, st.take (st.length - ks), bk.take (bk.length - kb), me, ou, inn, rd, 0, cd⟩, 0, 1, false⟩ := by
  unfold Ev.runT
  rw [if_pos (eMay h1 h2 h3 h4)]
  show (⟨leaveM (eT sip ip ks kb) ⟨sip, hn, st, bk, me, ou, inn, rd, 0, cd⟩ [] ⟨ip, 1, [], []⟩, 0, 1, false⟩ : R) = _
  unfold leaveM eT less
  simp only [Int.toNat_natCast, List.map_nil, List.append_nil]

theorem eSz {sip hn rd cd stt : Int} {st bk me : List Int} {ou inn : ByteArray} (h : Mach.Right ⟨sip, hn, st, bk, me, ou, inn, rd, stt, cd⟩) (h1 : me.length ≤ 700) (h2 : inn.size ≤ 300) : Sz ⟨sip, hn, st, bk, me, ou, inn, rd, 0, cd⟩ [] [] :=
  ⟨Nat.le_trans h.stack (by decide), Nat.le_trans h.back (by decide), Nat.le_trans h1 (by decide), h.out, Nat.le_trans h2 (by decide), Nat.zero_le _, Nat.zero_le _, fun x hx => (by cases hx)⟩
theorem eCM {sip hn rd cd stt : Int} {st bk me : List Int} {ou inn : ByteArray} (h : Cells ⟨sip, hn, st, bk, me, ou, inn, rd, stt, cd⟩) : CM ⟨sip, hn, st, bk, me, ou, inn, rd, 0, cd⟩ := ⟨h.stack, h.back, h.mem⟩
theorem len_take {l : List Int} {n k : Nat} (h : l.length = n) (h2 : n ≤ 48) : (l.take k).length ≤ 1000000 := by rw [List.length_take]; omega
theorem wrapK {m : Nat} (h : m ≤ 10000) : IntKind.i64.wrap (m : Int) = (m : Int) := by rw [IntKind.wrap_i64]; omega
theorem le_cap {n k m c : Nat} (h : n - k = m) (g : n ≤ c) : m ≤ c := by rw [← h]; exact Nat.le_trans (Nat.sub_le _ _) g
theorem le_mid {n k m : Nat} (h : n - k = m) (g : n ≤ 48) : m ≤ 10000 := by rw [← h]; exact Nat.le_trans (Nat.sub_le _ _) (Nat.le_trans g (by decide))
theorem cap_of {w : World} {ao : Option Addr} {n c : Nat} {xs : List Int} (h : ReadsC w (.slice ao n c) xs) : n ≤ c := by
  obtain ⟨-, ao', c', e, hc⟩ := h
  simp only [Value.slice.injEq] at e
  obtain ⟨-, e1, e2⟩ := e
  omega
set_option maxHeartbeats 8000000 in
set_option maxRecDepth 100000 in
theorem main (v : Value) (s : M) (sl bks ip : Int) (W : World) (hl : ReadsM W v s ∧ Cells s ∧ s.inp.size ≤ maxLen ∧ s.out.size ≤ maxLen ∧ Cell.In s.read ∧ Cell.In s.status) (w1' : (Lit.int .i64 sl).wf = true) (w2' : (Lit.int .i64 bks).wf = true) (w3' : (Lit.int .i64 ip).wf = true) (hT : Tabs W) :
    Calls Tryd.prog 4 #[v, .int .i64 sl, .int .i64 bks, .int .i64 ip] W (Yes W) := by
  obtain ⟨h, hc, hi, ho, -, -⟩ := hl
  have HM := Lib.hid h
  have HCC := Lib.hid hc
  obtain ⟨vs, vb, vm, rfl, hrs, hrb, hrm⟩ := h
  have HRS := Lib.hid hrs
  have HRB := Lib.hid hrb
  have HRM := Lib.hid hrm
  obtain ⟨⟨so, sc, f1, -⟩, -⟩ := hrs
  obtain ⟨⟨bo, bc, f2, -⟩, -⟩ := hrb
  obtain ⟨⟨mo, mc, f3, -⟩, -⟩ := hrm
  subst f1
  subst f2
  subst f3
  obtain ⟨sip, shn, st, bk, me, ou, inn, rd, stt, cd⟩ := s
  dsimp only at hi ho
  obtain ⟨n1, hn1⟩ : ∃ n, st.length = n := ⟨_, rfl⟩
  obtain ⟨n2, hn2⟩ : ∃ n, bk.length = n := ⟨_, rfl⟩
  obtain ⟨n3, hn3⟩ : ∃ n, me.length = n := ⟨_, rfl⟩
  have HN := Lib.hid (And.intro hn1 (And.intro hn2 hn3))
  have CL0 := Lib.hid (fun wc (hb : Below W.heap.size W wc) => Mach.light_any (HM.out.below hb) hi ho)
  dsimp only at HM CL0 HRS HRB HRM
  rw [hn1, hn2, hn3] at HM CL0
  rw [hn1] at HRS
  rw [hn2] at HRB
  rw [hn3] at HRM
  simp only [hn1, hn2, hn3]
  clear hn1 hn2 hn3
  obtain ⟨w1, g, hw1, hg, HX, HB1, HZ1⟩ := newBox W (cells10 sip shn (.slice so n1 sc) (.slice bo n2 bc) (.slice mo n3 mc) ou inn rd stt cd) 28
  have CL := Lib.hid (CL0.out _ HB1.out)
  have ALF := Lib.hid (fun wc (hb : Below W.heap.size W wc) => alive_any wc (hT.mono hb))
  have HT := Lib.hid hT
  obtain ⟨lb, hlb⟩ : ∃ b, lightB ⟨sip, shn, st, bk, me, ou, inn, rd, stt, cd⟩ = b := ⟨_, rfl⟩
  have HLB := Lib.hid hlb
  rw [hlb] at CL
  clear hlb hT hi ho hc CL0
  cases lb with
  | false =>
    go_enter Tryd.func4, Tryd.ntmps4
    go_wp2_with (first | (refine ld_state (by rfl) _ rfl g rfl _ _ HX.out rfl ?_) | (go_at_call 7; refine CL.out.mono ?_; rintro e w2 ⟨rfl, hb⟩; have HB2 := Lib.hid (HB1.out.trans (hb.mono HB1.out.size)); have HX2 := Lib.hid (boxOn HX.out hb); have s0 : w2.cell? ⟨g, 0, none⟩ = some (.int .i64 sip) := whole_cell HX2.out rfl; have s2 : w2.cell? ⟨g, 2, none⟩ = some (.slice so n1 sc) := whole_cell HX2.out rfl; have s3 : w2.cell? ⟨g, 3, none⟩ = some (.slice bo n2 bc) := whole_cell HX2.out rfl; have AL := Lib.hid (ALF.out _ HB2.out); clear hb) | (go_at_call 9; refine AL.out.mono ?_; rintro e w3 ⟨rfl, hb⟩; have HB3 := Lib.hid (HB2.out.trans (hb.mono HB2.out.size)); clear hb))
    go_ret
    exact ⟨rfl, HB3.out⟩
  | true =>
  by_cases c0 : sl < 0
  · have e0 : decide (sl < 0) = true := decide_eq_true c0
    go_enter Tryd.func4, Tryd.ntmps4
    go_wp2_with (first | (refine ld_state (by rfl) _ rfl g rfl _ _ HX.out rfl ?_) | (go_at_call 7; refine CL.out.mono ?_; rintro e w2 ⟨rfl, hb⟩; have HB2 := Lib.hid (HB1.out.trans (hb.mono HB1.out.size)); have HX2 := Lib.hid (boxOn HX.out hb); have s0 : w2.cell? ⟨g, 0, none⟩ = some (.int .i64 sip) := whole_cell HX2.out rfl; have s2 : w2.cell? ⟨g, 2, none⟩ = some (.slice so n1 sc) := whole_cell HX2.out rfl; have s3 : w2.cell? ⟨g, 3, none⟩ = some (.slice bo n2 bc) := whole_cell HX2.out rfl; have AL := Lib.hid (ALF.out _ HB2.out); clear hb) | (go_at_call 9; refine AL.out.mono ?_; rintro e w3 ⟨rfl, hb⟩; have HB3 := Lib.hid (HB2.out.trans (hb.mono HB2.out.size)); clear hb))
    go_ret
    exact ⟨rfl, HB3.out⟩
  have e0 : decide (sl < 0) = false := decide_eq_false c0
  by_cases c1 : bks < 0
  · have e1 : decide (bks < 0) = true := decide_eq_true c1
    go_enter Tryd.func4, Tryd.ntmps4
    go_wp2_with (first | (refine ld_state (by rfl) _ rfl g rfl _ _ HX.out rfl ?_) | (go_at_call 7; refine CL.out.mono ?_; rintro e w2 ⟨rfl, hb⟩; have HB2 := Lib.hid (HB1.out.trans (hb.mono HB1.out.size)); have HX2 := Lib.hid (boxOn HX.out hb); have s0 : w2.cell? ⟨g, 0, none⟩ = some (.int .i64 sip) := whole_cell HX2.out rfl; have s2 : w2.cell? ⟨g, 2, none⟩ = some (.slice so n1 sc) := whole_cell HX2.out rfl; have s3 : w2.cell? ⟨g, 3, none⟩ = some (.slice bo n2 bc) := whole_cell HX2.out rfl; have AL := Lib.hid (ALF.out _ HB2.out); clear hb) | (go_at_call 9; refine AL.out.mono ?_; rintro e w3 ⟨rfl, hb⟩; have HB3 := Lib.hid (HB2.out.trans (hb.mono HB2.out.size)); clear hb))
    go_ret
    exact ⟨rfl, HB3.out⟩
  have e1 : decide (bks < 0) = false := decide_eq_false c1
  by_cases c2 : (n1 : Int) < sl
  · have e2 : decide ((n1 : Int) < sl) = true := decide_eq_true c2
    go_enter Tryd.func4, Tryd.ntmps4
    go_wp2_with (first | (refine ld_state (by rfl) _ rfl g rfl _ _ HX.out rfl ?_) | (go_at_call 7; refine CL.out.mono ?_; rintro e w2 ⟨rfl, hb⟩; have HB2 := Lib.hid (HB1.out.trans (hb.mono HB1.out.size)); have HX2 := Lib.hid (boxOn HX.out hb); have s0 : w2.cell? ⟨g, 0, none⟩ = some (.int .i64 sip) := whole_cell HX2.out rfl; have s2 : w2.cell? ⟨g, 2, none⟩ = some (.slice so n1 sc) := whole_cell HX2.out rfl; have s3 : w2.cell? ⟨g, 3, none⟩ = some (.slice bo n2 bc) := whole_cell HX2.out rfl; have AL := Lib.hid (ALF.out _ HB2.out); clear hb) | (go_at_call 9; refine AL.out.mono ?_; rintro e w3 ⟨rfl, hb⟩; have HB3 := Lib.hid (HB2.out.trans (hb.mono HB2.out.size)); clear hb))
    go_ret
    exact ⟨rfl, HB3.out⟩
  have e2 : decide ((n1 : Int) < sl) = false := decide_eq_false c2
  by_cases c3 : (n2 : Int) < bks
  · have e3 : decide ((n2 : Int) < bks) = true := decide_eq_true c3
    go_enter Tryd.func4, Tryd.ntmps4
    go_wp2_with (first | (refine ld_state (by rfl) _ rfl g rfl _ _ HX.out rfl ?_) | (go_at_call 7; refine CL.out.mono ?_; rintro e w2 ⟨rfl, hb⟩; have HB2 := Lib.hid (HB1.out.trans (hb.mono HB1.out.size)); have HX2 := Lib.hid (boxOn HX.out hb); have s0 : w2.cell? ⟨g, 0, none⟩ = some (.int .i64 sip) := whole_cell HX2.out rfl; have s2 : w2.cell? ⟨g, 2, none⟩ = some (.slice so n1 sc) := whole_cell HX2.out rfl; have s3 : w2.cell? ⟨g, 3, none⟩ = some (.slice bo n2 bc) := whole_cell HX2.out rfl; have AL := Lib.hid (ALF.out _ HB2.out); clear hb) | (go_at_call 9; refine AL.out.mono ?_; rintro e w3 ⟨rfl, hb⟩; have HB3 := Lib.hid (HB2.out.trans (hb.mono HB2.out.size)); clear hb))
    go_ret
    exact ⟨rfl, HB3.out⟩
  have e3 : decide ((n2 : Int) < bks) = false := decide_eq_false c3
  by_cases c4 : ip < 0
  · have e4 : decide (ip < 0) = true := decide_eq_true c4
    go_enter Tryd.func4, Tryd.ntmps4
    go_wp2_with (first | (refine ld_state (by rfl) _ rfl g rfl _ _ HX.out rfl ?_) | (go_at_call 7; refine CL.out.mono ?_; rintro e w2 ⟨rfl, hb⟩; have HB2 := Lib.hid (HB1.out.trans (hb.mono HB1.out.size)); have HX2 := Lib.hid (boxOn HX.out hb); have s0 : w2.cell? ⟨g, 0, none⟩ = some (.int .i64 sip) := whole_cell HX2.out rfl; have s2 : w2.cell? ⟨g, 2, none⟩ = some (.slice so n1 sc) := whole_cell HX2.out rfl; have s3 : w2.cell? ⟨g, 3, none⟩ = some (.slice bo n2 bc) := whole_cell HX2.out rfl; have AL := Lib.hid (ALF.out _ HB2.out); clear hb) | (go_at_call 9; refine AL.out.mono ?_; rintro e w3 ⟨rfl, hb⟩; have HB3 := Lib.hid (HB2.out.trans (hb.mono HB2.out.size)); clear hb))
    go_ret
    exact ⟨rfl, HB3.out⟩
  have e4 : decide (ip < 0) = false := decide_eq_false c4
  by_cases c5 : 3000 ≤ ip
  · have e5 : decide (3000 ≤ ip) = true := decide_eq_true c5
    go_enter Tryd.func4, Tryd.ntmps4
    go_wp2_with (first | (refine ld_state (by rfl) _ rfl g rfl _ _ HX.out rfl ?_) | (go_at_call 7; refine CL.out.mono ?_; rintro e w2 ⟨rfl, hb⟩; have HB2 := Lib.hid (HB1.out.trans (hb.mono HB1.out.size)); have HX2 := Lib.hid (boxOn HX.out hb); have s0 : w2.cell? ⟨g, 0, none⟩ = some (.int .i64 sip) := whole_cell HX2.out rfl; have s2 : w2.cell? ⟨g, 2, none⟩ = some (.slice so n1 sc) := whole_cell HX2.out rfl; have s3 : w2.cell? ⟨g, 3, none⟩ = some (.slice bo n2 bc) := whole_cell HX2.out rfl; have AL := Lib.hid (ALF.out _ HB2.out); clear hb) | (go_at_call 9; refine AL.out.mono ?_; rintro e w3 ⟨rfl, hb⟩; have HB3 := Lib.hid (HB2.out.trans (hb.mono HB2.out.size)); clear hb))
    go_ret
    exact ⟨rfl, HB3.out⟩
  have e5 : decide (3000 ≤ ip) = false := decide_eq_false c5
  by_cases c6 : sip < 0
  · have e6 : decide (sip < 0) = true := decide_eq_true c6
    go_enter Tryd.func4, Tryd.ntmps4
    go_wp2_with (first | (refine ld_state (by rfl) _ rfl g rfl _ _ HX.out rfl ?_) | (go_at_call 7; refine CL.out.mono ?_; rintro e w2 ⟨rfl, hb⟩; have HB2 := Lib.hid (HB1.out.trans (hb.mono HB1.out.size)); have HX2 := Lib.hid (boxOn HX.out hb); have s0 : w2.cell? ⟨g, 0, none⟩ = some (.int .i64 sip) := whole_cell HX2.out rfl; have s2 : w2.cell? ⟨g, 2, none⟩ = some (.slice so n1 sc) := whole_cell HX2.out rfl; have s3 : w2.cell? ⟨g, 3, none⟩ = some (.slice bo n2 bc) := whole_cell HX2.out rfl; have AL := Lib.hid (ALF.out _ HB2.out); clear hb) | (go_at_call 9; refine AL.out.mono ?_; rintro e w3 ⟨rfl, hb⟩; have HB3 := Lib.hid (HB2.out.trans (hb.mono HB2.out.size)); clear hb))
    go_ret
    exact ⟨rfl, HB3.out⟩
  have e6 : decide (sip < 0) = false := decide_eq_false c6
  by_cases c7 : 3000 ≤ sip
  · have e7 : decide (3000 ≤ sip) = true := decide_eq_true c7
    go_enter Tryd.func4, Tryd.ntmps4
    go_wp2_with (first | (refine ld_state (by rfl) _ rfl g rfl _ _ HX.out rfl ?_) | (go_at_call 7; refine CL.out.mono ?_; rintro e w2 ⟨rfl, hb⟩; have HB2 := Lib.hid (HB1.out.trans (hb.mono HB1.out.size)); have HX2 := Lib.hid (boxOn HX.out hb); have s0 : w2.cell? ⟨g, 0, none⟩ = some (.int .i64 sip) := whole_cell HX2.out rfl; have s2 : w2.cell? ⟨g, 2, none⟩ = some (.slice so n1 sc) := whole_cell HX2.out rfl; have s3 : w2.cell? ⟨g, 3, none⟩ = some (.slice bo n2 bc) := whole_cell HX2.out rfl; have AL := Lib.hid (ALF.out _ HB2.out); clear hb) | (go_at_call 9; refine AL.out.mono ?_; rintro e w3 ⟨rfl, hb⟩; have HB3 := Lib.hid (HB2.out.trans (hb.mono HB2.out.size)); clear hb))
    go_ret
    exact ⟨rfl, HB3.out⟩
  have e7 : decide (3000 ≤ sip) = false := decide_eq_false c7
  obtain ⟨ks, rfl⟩ := Int.eq_ofNat_of_zero_le (Int.not_lt.1 c0)
  obtain ⟨kb, rfl⟩ := Int.eq_ofNat_of_zero_le (Int.not_lt.1 c1)
  have HR := Lib.hid ((lightB_iff _).1 HLB.out)
  have HLE := Lib.hid (show ks ≤ n1 ∧ kb ≤ n2 ∧ n1 ≤ 48 ∧ n2 ≤ 48 ∧ n3 ≤ 700 from by
    have r1 := HR.out.2.2.stack
    have r2 := HR.out.2.2.back
    have r3 := HR.out.1
    have q := HN.out
    dsimp only at r1 r2 r3
    exact ⟨by omega, by omega, by omega, by omega, by omega⟩)
  clear c0 c1 c2 c3 c4 c5 c6 c7
  have q1 : decide (n1 < ks) = false := decide_eq_false (Nat.not_lt.2 HLE.out.1)
  have q2 : decide (n2 < kb) = false := decide_eq_false (Nat.not_lt.2 HLE.out.2.1)
  go_enter Tryd.func4, Tryd.ntmps4
  go_upto_region 3 with (first | (refine ld_state (by rfl) _ rfl g rfl _ _ HX.out rfl ?_) | (go_at_call 7; refine CL.out.mono ?_; rintro e w2 ⟨rfl, hb⟩; have HB2 := Lib.hid (HB1.out.trans (hb.mono HB1.out.size)); have HX2 := Lib.hid (boxOn HX.out hb); have s0 : w2.cell? ⟨g, 0, none⟩ = some (.int .i64 sip) := whole_cell HX2.out rfl; have s2 : w2.cell? ⟨g, 2, none⟩ = some (.slice so n1 sc) := whole_cell HX2.out rfl; have s3 : w2.cell? ⟨g, 3, none⟩ = some (.slice bo n2 bc) := whole_cell HX2.out rfl; have AL := Lib.hid (ALF.out _ HB2.out); clear hb) | (go_at_call 9; refine AL.out.mono ?_; rintro e w3 ⟨rfl, hb⟩; have HB3 := Lib.hid (HB2.out.trans (hb.mono HB2.out.size)); have HX3 := Lib.hid (boxOn HX2.out hb); clear hb))
  have c0 : w3.cell? ⟨g, 0, none⟩ = some (.int .i64 sip) := whole_cell HX3.out rfl
  have c8 : w3.cell? ⟨g, 8, none⟩ = some (.int .i64 stt) := whole_cell HX3.out rfl
  have f8 : w3.frozen? ⟨g, 8, none⟩ = false := whole_frozen HX3.out 8
  have h4 := whole_set HX3.out 8 (.int .i64 0)
  have t4 := Stirred.setCell w3 ⟨g, 8, none⟩ (.int .i64 0)
  obtain ⟨w4, hw4⟩ : ∃ w4, w3.setCell ⟨g, 8, none⟩ (.int .i64 0) = w4 := ⟨_, rfl⟩
  rw [hw4] at h4 t4
  have HX4 := Lib.hid (show w4.heap[g]? = some (.cells (cells10 sip shn (.slice so n1 sc) (.slice bo n2 bc) (.slice mo n3 mc) ou inn rd 0 cd) 28 (0, 0)) from h4)
  have HB4 := Lib.hid (HB3.out.trans (t4.below (fun k hk => by rw [List.mem_singleton.1 hk, ← HZ1.out]; exact Nat.le_refl _) HB3.out.size))
  have d0 : w4.cell? ⟨g, 0, none⟩ = some (.int .i64 sip) := whole_cell h4 rfl
  obtain ⟨w5, g2, hw5, hg2, H5, B5, Z5⟩ := newBox w4 #[.int .i64 ip, .int .i64 1, .slice none 0 0, .slice none 0 0] 39
  obtain ⟨w6, g3, hw6, hg3, H6, B6, Z6⟩ := newBox w5 zero9 26
  have H5b := Lib.hid (boxOn H5.out B6.out)
  have NE := Lib.hid (show g2 < g3 ∧ g < g3 ∧ w4.heap.size ≤ g3 from ⟨by rw [← Z6.out]; exact whole_lt H5.out, by rw [← Z6.out]; exact whole_lt (boxOn HX4.out B5.out), by rw [← Z6.out]; exact B5.out.size⟩)
  clear h4 t4 hw1 hg HX HX2 HX3 HB1 HB2 CL AL ALF e0 e1 e2 e3 e4 e5 e6 e7 q1 q2 s0 s2 s3
  try dsimp only [Act.put]
  go_upto_region 5 with (refine st_tr (by rfl) _ _ rfl g3 #[.int .i64 sip, .int .i64 (ks : Int), .int .i64 (kb : Int), .int .i64 0, .int .i64 0, .slice none 0 0, .slice (some ⟨g2, 0, none⟩) 1 1, .int .i64 0, .slice none 0 0] rfl rfl rfl _ rfl H6.out (by simp [Value.oneCell']) ?_; intro w7 h7 t7)
  have HQ7 := Lib.hid h7
  have B47 := Lib.hid ((B5.out.trans (B6.out.mono B5.out.size)).trans (t7.below (B := w4.heap.size) (fun k hk => by rw [List.mem_singleton.1 hk]; exact NE.out.2.2) (B5.out.trans (B6.out.mono B5.out.size)).size))
  have HX7 := Lib.hid (boxOn HX4.out B47.out)
  have HB7 := Lib.hid (HB4.out.trans (B47.out.mono HB4.out.size))
  have HO7 := t7.whole H5b.out (fun hm => Nat.ne_of_lt NE.out.1 (List.mem_singleton.1 hm))
  have HR7 := Lib.hid (show ReadsL w7 (.slice none 0 0) (.slice (some ⟨g2, 0, none⟩) 1 1) (.slice none 0 0) (eT sip ip ks kb) from ⟨⟨none, 0, rfl, fun j x hj => by simp [eT] at hj⟩, one_out (x := ⟨ip, 1, [], []⟩) HO7 (no_int _ _ _) (no_int _ _ _), no_int _ _ _⟩)
  have HM7 := Lib.hid (show ReadsM w7 (stV ⟨sip, shn, st, bk, me, ou, inn, rd, 0, cd⟩ (.slice so n1 sc) (.slice bo n2 bc) (.slice mo n3 mc)) ⟨sip, shn, st, bk, me, ou, inn, rd, 0, cd⟩ from ⟨_, _, _, rfl, HRS.out.below HB7.out, HRB.out.below HB7.out, HRM.out.below HB7.out⟩)
  have CR := Lib.hid (show Calls Tryd.prog 11 #[trV (eT sip ip ks kb) (.slice none 0 0) (.slice (some ⟨g2, 0, none⟩) 1 1) (.slice none 0 0), stV ⟨sip, shn, st, bk, me, ou, inn, rd, 0, cd⟩ (.slice so n1 sc) (.slice bo n2 bc) (.slice mo n3 mc), .slice none 0 0] w7 (Runs ⟨⟨ip, shn, st.take (n1 - ks), bk.take (n2 - kb), me, ou, inn, rd, 0, cd⟩, 0, 1, false⟩ w7) from by
    have h := run_any HM7.out HR7.out (no_int w7 none 0) (eSz HR.out.2.2 HR.out.1 HR.out.2.1) (eCM HCC.out) (fun x hx => by simp [eT] at hx) (HT.out.mono HB7.out) (Nat.zero_le _) (by show 1 ≤ 10000; decide) (fun o ho => by simp only [eT, List.mem_singleton] at ho; subst ho; exact ⟨Nat.zero_le _, Nat.zero_le _⟩)
    rw [eRun (by rw [HN.out.1]; exact HLE.out.1) (by rw [HN.out.2.1]; exact HLE.out.2.1) (by rw [HN.out.1]; exact HLE.out.2.2.1) (by rw [HN.out.2.1]; exact HLE.out.2.2.2.1), HN.out.1, HN.out.2.1] at h
    exact h)
  have CY := Lib.hid (fun wc => show Calls Tryd.prog 13 #[trV (eT sip ip ks kb) (.slice none 0 0) (.slice (some ⟨g2, 0, none⟩) 1 1) (.slice none 0 0), stV ⟨sip, shn, st, bk, me, ou, inn, rd, 0, cd⟩ (.slice so n1 sc) (.slice bo n2 bc) (.slice mo n3 mc)] wc (SaysF true wc) from by
    have h := may_any (w := wc) (t := eT sip ip ks kb) (s := ⟨sip, shn, st, bk, me, ou, inn, rd, 0, cd⟩) (vi := .slice none 0 0) (vo := .slice (some ⟨g2, 0, none⟩) 1 1) (vc := .slice none 0 0) (vm := .slice mo n3 mc) (so := so) (bo := bo) (sc := sc) (bc := bc) (by show st.length ≤ 10000; rw [HN.out.1]; have := HLE.out.2.2.1; omega) (by show bk.length ≤ 10000; rw [HN.out.2.1]; have := HLE.out.2.2.2.1; omega)
    rw [eMay (by rw [HN.out.1]; exact HLE.out.1) (by rw [HN.out.2.1]; exact HLE.out.2.1) (by rw [HN.out.1]; exact HLE.out.2.2.1) (by rw [HN.out.2.1]; exact HLE.out.2.2.2.1)] at h
    dsimp only at h
    rw [HN.out.1, HN.out.2.1] at h
    exact h)
  clear h7 t7 hw4 hw5 hw6 hg2 hg3 c0 c8 f8 d0 H5 B5 Z5 H6 B6 Z6 H5b HO7 HX4 B47
  try dsimp only [Act.put]
  go_wp2_with (first
    | (refine ld_tr (by rfl) _ rfl g3 rfl _ rfl HQ7.out ?_)
    | (refine ld_state (by rfl) _ rfl g rfl _ _ HX7.out rfl ?_))
  refine CR.out.mono ?_
  rintro e w8 ⟨v, rfl, ⟨vs9, vb9, vm9, rfl, ho9⟩, hb9⟩
  have HO9 := Lib.hid ho9
  have HON9 := Lib.hid (And.intro (slice_one ho9.st.slice) (And.intro (slice_one ho9.bk.slice) (slice_one ho9.me.slice)))
  have BW8 := Lib.hid hb9
  obtain ⟨w9, g13, hw9, hg13, H9, B9, Z9⟩ := newBox w8 zero10 28
  obtain ⟨w10, g14, hw10, hg14, H10, B10, Z10⟩ := newBox w9 zero3 34
  have H9b := Lib.hid (boxOn H9.out B10.out)
  have NG := Lib.hid (show g13 < g14 ∧ w8.heap.size ≤ g13 from ⟨by rw [← Z10.out]; exact whole_lt H9.out, by rw [← Z9.out]; exact Nat.le_refl _⟩)
  have B810 := Lib.hid (B9.out.trans (B10.out.mono B9.out.size))
  clear ho9 hb9 CR
  go_upto_region 6 with (first
    | (refine st_state (by rfl) _ _ rfl g13 _ rfl rfl _ _ H9b.out rfl rfl (all_one HON9.out.1 HON9.out.2.1 HON9.out.2.2) ?_; intro wx h15 t15; have H15x := Lib.hid h15; have T15 := Lib.hid t15; have H10c := Lib.hid (t15.whole H10.out (fun hm => by have h1 := List.mem_singleton.1 hm; have h2 := NG.out.1; omega)); clear h15 t15)
    | (refine st_done (by rfl) _ _ rfl g14 #[.int .i64 0, .int .i64 1, .bool false] rfl rfl rfl _ rfl H10c.out (by simp [Value.oneCell']) ?_; intro w12 h16 t16; have H16 := Lib.hid h16; have T16 := Lib.hid t16; have H15b := Lib.hid (t16.whole H15x.out (fun hm => by have h1 := List.mem_singleton.1 hm; have h2 := NG.out.1; omega)); clear h16 t16))
  have TT := Lib.hid (two_more T15.out T16.out)
  have T812 := Lib.hid (show Stirred w8 w12 [g13, g14] from (Stirred.of_below B810.out [g13, g14]).trans TT.out (fun k hk => .inl hk))
  have HN8 : ∀ {k : Nat}, k < w8.heap.size → k ∉ [g13, g14] := fun {k} h hm => by
    rcases List.mem_cons.1 hm with e | e
    · have h2 := NG.out.2; omega
    · have h1 := List.mem_singleton.1 e; have h2 := NG.out; omega
  have far : ∀ {v : Value} {xs : List Int}, Owns w8 w7.heap.size 3 v (vals xs) → Reads w12 v xs := fun h => Reads.of_owns (h.touch T812.out (fun k e => HN8 (h.block k e).2.1))
  have B712 := Lib.hid (BW8.out.trans (T812.out.below (B := w7.heap.size) (fun k hk => by
    rcases List.mem_cons.1 hk with e | e
    · rw [e]; exact Nat.le_trans BW8.out.size NG.out.2
    · rw [List.mem_singleton.1 e]; exact Nat.le_of_lt (Nat.lt_of_le_of_lt (Nat.le_trans BW8.out.size NG.out.2) NG.out.1)) BW8.out.size))
  have HBX := Lib.hid (HB7.out.trans (B712.out.mono HB7.out.size))
  have KF := Lib.hid (fun w' (hb : Below w12.heap.size w12 w') => show w'.cell? ⟨g, 0, none⟩ = some (.int .i64 sip) ∧ w'.cell? ⟨g, 1, none⟩ = some (.int .i64 shn) ∧ w'.cell? ⟨g, 2, none⟩ = some (.slice so n1 sc) ∧ w'.cell? ⟨g, 3, none⟩ = some (.slice bo n2 bc) ∧ w'.cell? ⟨g, 4, none⟩ = some (.slice mo n3 mc) ∧ w'.cell? ⟨g, 5, none⟩ = some (.string ou) ∧ w'.cell? ⟨g, 6, none⟩ = some (.string inn) ∧ w'.cell? ⟨g, 7, none⟩ = some (.int .i64 rd) ∧ w'.cell? ⟨g, 8, none⟩ = some (.int .i64 0) ∧ w'.cell? ⟨g, 9, none⟩ = some (.int .i64 cd) ∧ w'.cell? ⟨g3, 0, none⟩ = some (.int .i64 sip) ∧ w'.cell? ⟨g3, 1, none⟩ = some (.int .i64 (ks : Int)) ∧ w'.cell? ⟨g3, 2, none⟩ = some (.int .i64 (kb : Int)) ∧ w'.cell? ⟨g3, 3, none⟩ = some (.int .i64 0) ∧ w'.cell? ⟨g3, 4, none⟩ = some (.int .i64 0) ∧ w'.cell? ⟨g3, 5, none⟩ = some (.slice none 0 0) ∧ w'.cell? ⟨g3, 6, none⟩ = some (.slice (some ⟨g2, 0, none⟩) 1 1) ∧ w'.cell? ⟨g3, 7, none⟩ = some (.int .i64 0) ∧ w'.cell? ⟨g3, 8, none⟩ = some (.slice none 0 0) ∧ w'.cell? ⟨g13, 0, none⟩ = some (.int .i64 ip) ∧ w'.cell? ⟨g13, 2, none⟩ = some (vs9) ∧ w'.cell? ⟨g13, 3, none⟩ = some (vb9) ∧ w'.cell? ⟨g13, 4, none⟩ = some (vm9) ∧ w'.cell? ⟨g13, 5, none⟩ = some (.string ou) ∧ w'.cell? ⟨g13, 7, none⟩ = some (.int .i64 rd) ∧ w'.cell? ⟨g14, 0, none⟩ = some (.int .i64 0) ∧ w'.cell? ⟨g14, 1, none⟩ = some (.int .i64 1) ∧ w'.cell? ⟨g14, 2, none⟩ = some (.bool false) from by
    have a := boxOn (boxOn HX7.out B712.out) hb
    have b := boxOn (boxOn HQ7.out B712.out) hb
    have c := boxOn H15b.out hb
    have d := boxOn H16.out hb
    exact ⟨whole_cell a rfl, whole_cell a rfl, whole_cell a rfl, whole_cell a rfl, whole_cell a rfl, whole_cell a rfl, whole_cell a rfl, whole_cell a rfl, whole_cell a rfl, whole_cell a rfl, whole_cell b rfl, whole_cell b rfl, whole_cell b rfl, whole_cell b rfl, whole_cell b rfl, whole_cell b rfl, whole_cell b rfl, whole_cell b rfl, whole_cell b rfl, whole_cell c rfl, whole_cell c rfl, whole_cell c rfl, whole_cell c rfl, whole_cell c rfl, whole_cell c rfl, whole_cell d rfl, whole_cell d rfl, whole_cell d rfl⟩)
  have S1 := Lib.hid (fun wc (hb : Below w12.heap.size w12 wc) => show Calls Tryd.prog 14 #[vs9, .slice so (n1 - ks) sc] wc fun e w' => e = .returned (.bool true) ∧ ∃ q, w' = wc.drewN q from by
    have h := Ev.sameInts_any ((far HO9.out.st).below hb) ((Reads.take HRS.out.1 (n1 - ks) sc (by rw [HN.out.1]; exact Nat.sub_le _ _)).below (HBX.out.trans (hb.mono HBX.out.size))) (len_take HN.out.1 HLE.out.2.2.1)
    rw [decide_eq_true rfl] at h
    exact h)
  have S2 := Lib.hid (fun wc (hb : Below w12.heap.size w12 wc) => show Calls Tryd.prog 14 #[vb9, .slice bo (n2 - kb) bc] wc fun e w' => e = .returned (.bool true) ∧ ∃ q, w' = wc.drewN q from by
    have h := Ev.sameInts_any ((far HO9.out.bk).below hb) ((Reads.take HRB.out.1 (n2 - kb) bc (by rw [HN.out.2.1]; exact Nat.sub_le _ _)).below (HBX.out.trans (hb.mono HBX.out.size))) (len_take HN.out.2.1 HLE.out.2.2.2.1)
    rw [decide_eq_true rfl] at h
    exact h)
  have S3 := Lib.hid (fun wc (hb : Below w12.heap.size w12 wc) => show Calls Tryd.prog 14 #[vm9, .slice mo n3 mc] wc fun e w' => e = .returned (.bool true) ∧ ∃ q, w' = wc.drewN q from by
    have h := Ev.sameInts_any ((far HO9.out.me).below hb) (HRM.out.1.below (HBX.out.trans (hb.mono HBX.out.size))) (by rw [HN.out.2.2]; have := HLE.out.2.2.2.2; omega)
    rw [decide_eq_true rfl] at h
    exact h)
  obtain ⟨m1, hm1⟩ : ∃ m, n1 - ks = m := ⟨_, rfl⟩
  obtain ⟨m2, hm2⟩ : ∃ m, n2 - kb = m := ⟨_, rfl⟩
  have z1 : (n1 : Int) - (ks : Int) = (m1 : Int) := sub_cast hm1 HLE.out.1
  have z2 : (n2 : Int) - (kb : Int) = (m2 : Int) := sub_cast hm2 HLE.out.2.1
  have z3 : wrap64 (m1 : Int) = (m1 : Int) := wrap_nat (le_mid hm1 HLE.out.2.2.1)
  have z4 : wrap64 (m2 : Int) = (m2 : Int) := wrap_nat (le_mid hm2 HLE.out.2.2.2.1)
  have y3 : IntKind.i64.wrap (m1 : Int) = (m1 : Int) := wrapK (le_mid hm1 HLE.out.2.2.1)
  have y4 : IntKind.i64.wrap (m2 : Int) = (m2 : Int) := wrapK (le_mid hm2 HLE.out.2.2.2.1)
  have z5 : m1 ≤ sc := le_cap hm1 (cap_of HRS.out)
  have z6 : m2 ≤ bc := le_cap hm2 (cap_of HRB.out)
  rw [hm1] at S1
  rw [hm2] at S2
  clear hw9 hw10 hg13 hg14 hm1 hm2 far HN8 H9 B9 Z9 H10 B10 Z10 H9b H15x T15 H10c T16 H15b H16 TT T812 HX7 HQ7 HR7 HM7 B810 B712
  try dsimp only [Act.put]
  have HBC : Hid (Below w12.heap.size w12 w12.drew) := Lib.hid (Below.refl _ _).drew
  have KX := Lib.hid (KF.out _ HBC.out)
  refine wp_region_held (S := fun w' => w'.cell? ⟨g, 0, none⟩ = some (.int .i64 sip) ∧ w'.cell? ⟨g, 1, none⟩ = some (.int .i64 shn) ∧ w'.cell? ⟨g, 2, none⟩ = some (.slice so n1 sc) ∧ w'.cell? ⟨g, 3, none⟩ = some (.slice bo n2 bc) ∧ w'.cell? ⟨g, 4, none⟩ = some (.slice mo n3 mc) ∧ w'.cell? ⟨g, 5, none⟩ = some (.string ou) ∧ w'.cell? ⟨g, 6, none⟩ = some (.string inn) ∧ w'.cell? ⟨g, 7, none⟩ = some (.int .i64 rd) ∧ w'.cell? ⟨g, 8, none⟩ = some (.int .i64 0) ∧ w'.cell? ⟨g, 9, none⟩ = some (.int .i64 cd) ∧ w'.cell? ⟨g3, 0, none⟩ = some (.int .i64 sip) ∧ w'.cell? ⟨g3, 1, none⟩ = some (.int .i64 (ks : Int)) ∧ w'.cell? ⟨g3, 2, none⟩ = some (.int .i64 (kb : Int)) ∧ w'.cell? ⟨g3, 3, none⟩ = some (.int .i64 0) ∧ w'.cell? ⟨g3, 4, none⟩ = some (.int .i64 0) ∧ w'.cell? ⟨g3, 5, none⟩ = some (.slice none 0 0) ∧ w'.cell? ⟨g3, 6, none⟩ = some (.slice (some ⟨g2, 0, none⟩) 1 1) ∧ w'.cell? ⟨g3, 7, none⟩ = some (.int .i64 0) ∧ w'.cell? ⟨g3, 8, none⟩ = some (.slice none 0 0) ∧ w'.cell? ⟨g13, 0, none⟩ = some (.int .i64 ip) ∧ w'.cell? ⟨g13, 2, none⟩ = some (vs9) ∧ w'.cell? ⟨g13, 3, none⟩ = some (vb9) ∧ w'.cell? ⟨g13, 4, none⟩ = some (vm9) ∧ w'.cell? ⟨g13, 5, none⟩ = some (.string ou) ∧ w'.cell? ⟨g13, 7, none⟩ = some (.int .i64 rd) ∧ w'.cell? ⟨g14, 0, none⟩ = some (.int .i64 0) ∧ w'.cell? ⟨g14, 1, none⟩ = some (.int .i64 1) ∧ w'.cell? ⟨g14, 2, none⟩ = some (.bool false)) (by kernel_rfl) ?_
  change wpAnyH _ _ _ _ _ _ _ _ (World.drew w12)
  refine wpAnyH_take (i := 0) (oi := ⟨some 75, _, _, _, _, _⟩) (v := ?_) rfl (by kernel_rfl) (by kernel_rfl) (by kernel_rfl) (fun _ _ _ h => h) (Or.inl ⟨by rfl, ?_⟩) KX.out ?_; rotate_left; · intro w hSw; (try dsimp only at hSw); go_simp; try with_reducible rfl
  try simp only [Act.put, List.setIfInBounds_toArray, List.set_cons_zero, List.set_cons_succ]
  refine wpAnyH_take (i := 1) (oi := ⟨some 76, _, _, _, _, _⟩) (v := ?_) rfl (by kernel_rfl) (by kernel_rfl) (by kernel_rfl) (fun _ _ _ h => h) (Or.inl ⟨by rfl, ?_⟩) KX.out ?_; rotate_left; · intro w hSw; (try dsimp only at hSw); go_simp; try with_reducible rfl
  try simp only [Act.put, List.setIfInBounds_toArray, List.set_cons_zero, List.set_cons_succ]
  refine wpAnyH_ready (rs := [2]) (by kernel_rfl) (by simp) ?_
  refine AllReadyH.cons rfl (fun K hK => ?_) ?_
  rotate_left
  · exact AllReadyH.nil
  go_simp
  go_at_call 13
  refine (CY.out _).mono ?_
  rintro e wn ⟨rfl, hb⟩
  have HBC := Lib.hid (HBC.out.trans (hb.mono HBC.out.size))
  have KX := Lib.hid (KF.out _ HBC.out)
  clear hb
  go_wp2_with fail
  refine hK.out _ _ KX.out (fun hHeld => ?_)
  clear hK K hHeld
  try simp only [Act.put, List.setIfInBounds_toArray, List.set_cons_zero, List.set_cons_succ]
  refine wpAnyH_take (i := 3) (oi := ⟨some 78, _, _, _, _, _⟩) (v := ?_) rfl (by kernel_rfl) (by kernel_rfl) (by kernel_rfl) (fun _ _ _ h => h) (Or.inl ⟨by rfl, ?_⟩) KX.out ?_; rotate_left; · intro w hSw; (try dsimp only at hSw); go_simp; try with_reducible rfl
  try simp only [Act.put, List.setIfInBounds_toArray, List.set_cons_zero, List.set_cons_succ]
  refine wpAnyH_take (i := 4) (oi := ⟨some 79, _, _, _, _, _⟩) (v := ?_) rfl (by kernel_rfl) (by kernel_rfl) (by kernel_rfl) (fun _ _ _ h => h) (Or.inl ⟨by rfl, ?_⟩) KX.out ?_; rotate_left; · intro w hSw; (try dsimp only at hSw); go_simp; try with_reducible rfl
  try simp only [Act.put, List.setIfInBounds_toArray, List.set_cons_zero, List.set_cons_succ]
  refine wpAnyH_take (i := 5) (oi := ⟨some 80, _, _, _, _, _⟩) (v := ?_) rfl (by kernel_rfl) (by kernel_rfl) (by kernel_rfl) (fun _ _ _ h => h) (Or.inl ⟨by rfl, ?_⟩) KX.out ?_; rotate_left; · intro w hSw; (try dsimp only at hSw); go_simp; try with_reducible rfl
  try simp only [Act.put, List.setIfInBounds_toArray, List.set_cons_zero, List.set_cons_succ]
  refine wpAnyH_take (i := 6) (oi := ⟨some 81, _, _, _, _, _⟩) (v := ?_) rfl (by kernel_rfl) (by kernel_rfl) (by kernel_rfl) (fun _ _ _ h => h) (Or.inl ⟨by rfl, ?_⟩) KX.out ?_; rotate_left; · intro w hSw; (try dsimp only at hSw); go_simp; try with_reducible rfl
  try simp only [Act.put, List.setIfInBounds_toArray, List.set_cons_zero, List.set_cons_succ]
  refine wpAnyH_take (i := 7) (oi := ⟨some 82, _, _, _, _, _⟩) (v := ?_) rfl (by kernel_rfl) (by kernel_rfl) (by kernel_rfl) (fun _ _ _ h => h) (Or.inl ⟨by rfl, ?_⟩) KX.out ?_; rotate_left; · intro w hSw; (try dsimp only at hSw); go_simp; try with_reducible rfl
  try simp only [Act.put, List.setIfInBounds_toArray, List.set_cons_zero, List.set_cons_succ]
  refine wpAnyH_take (i := 8) (oi := ⟨some 83, _, _, _, _, _⟩) (v := ?_) rfl (by kernel_rfl) (by kernel_rfl) (by kernel_rfl) (fun _ _ _ h => h) (Or.inl ⟨by rfl, ?_⟩) KX.out ?_; rotate_left; · intro w hSw; (try dsimp only at hSw); go_simp; try with_reducible rfl
  try simp only [Act.put, List.setIfInBounds_toArray, List.set_cons_zero, List.set_cons_succ]
  refine wpAnyH_take (i := 9) (oi := ⟨some 84, _, _, _, _, _⟩) (v := ?_) rfl (by kernel_rfl) (by kernel_rfl) (by kernel_rfl) (fun _ _ _ h => h) (Or.inl ⟨by rfl, ?_⟩) KX.out ?_; rotate_left; · intro w hSw; (try dsimp only at hSw); go_simp; try with_reducible rfl
  try simp only [Act.put, List.setIfInBounds_toArray, List.set_cons_zero, List.set_cons_succ]
  refine wpAnyH_take (i := 10) (oi := ⟨some 85, _, _, _, _, _⟩) (v := ?_) rfl (by kernel_rfl) (by kernel_rfl) (by kernel_rfl) (fun _ _ _ h => h) (Or.inl ⟨by rfl, ?_⟩) KX.out ?_; rotate_left; · intro w hSw; (try dsimp only at hSw); go_simp; try with_reducible rfl
  try simp only [Act.put, List.setIfInBounds_toArray, List.set_cons_zero, List.set_cons_succ]
  refine wpAnyH_take (i := 11) (oi := ⟨some 86, _, _, _, _, _⟩) (v := ?_) rfl (by kernel_rfl) (by kernel_rfl) (by kernel_rfl) (fun _ _ _ h => h) (Or.inl ⟨by rfl, ?_⟩) KX.out ?_; rotate_left; · intro w hSw; (try dsimp only at hSw); go_simp; try with_reducible rfl
  try simp only [Act.put, List.setIfInBounds_toArray, List.set_cons_zero, List.set_cons_succ]
  refine wpAnyH_take (i := 12) (oi := ⟨some 87, _, _, _, _, _⟩) (v := ?_) rfl (by kernel_rfl) (by kernel_rfl) (by kernel_rfl) (fun _ _ _ h => h) (Or.inl ⟨by rfl, ?_⟩) KX.out ?_; rotate_left; · intro w hSw; (try dsimp only at hSw); go_simp; try with_reducible rfl
  try simp only [Act.put, List.setIfInBounds_toArray, List.set_cons_zero, List.set_cons_succ]
  refine wpAnyH_take (i := 13) (oi := ⟨some 88, _, _, _, _, _⟩) (v := ?_) rfl (by kernel_rfl) (by kernel_rfl) (by kernel_rfl) (fun _ _ _ h => h) (Or.inl ⟨by rfl, ?_⟩) KX.out ?_; rotate_left; · intro w hSw; (try dsimp only at hSw); go_simp; try with_reducible rfl
  try simp only [Act.put, List.setIfInBounds_toArray, List.set_cons_zero, List.set_cons_succ]
  refine wpAnyH_take (i := 14) (oi := ⟨some 89, _, _, _, _, _⟩) (v := ?_) rfl (by kernel_rfl) (by kernel_rfl) (by kernel_rfl) (fun _ _ _ h => h) (Or.inl ⟨by rfl, ?_⟩) KX.out ?_; rotate_left; · intro w hSw; (try dsimp only at hSw); go_simp; try with_reducible rfl
  try simp only [Act.put, List.setIfInBounds_toArray, List.set_cons_zero, List.set_cons_succ]
  refine wpAnyH_take (i := 15) (oi := ⟨some 90, _, _, _, _, _⟩) (v := ?_) rfl (by kernel_rfl) (by kernel_rfl) (by kernel_rfl) (fun _ _ _ h => h) (Or.inl ⟨by rfl, ?_⟩) KX.out ?_; rotate_left; · intro w hSw; (try dsimp only at hSw); go_simp; try with_reducible rfl
  try simp only [Act.put, List.setIfInBounds_toArray, List.set_cons_zero, List.set_cons_succ]
  refine wpAnyH_take (i := 16) (oi := ⟨some 91, _, _, _, _, _⟩) (v := ?_) rfl (by kernel_rfl) (by kernel_rfl) (by kernel_rfl) (fun _ _ _ h => h) (Or.inl ⟨by rfl, ?_⟩) KX.out ?_; rotate_left; · intro w hSw; (try dsimp only at hSw); go_simp; try with_reducible rfl
  try simp only [Act.put, List.setIfInBounds_toArray, List.set_cons_zero, List.set_cons_succ]
  refine wpAnyH_take (i := 17) (oi := ⟨some 92, _, _, _, _, _⟩) (v := ?_) rfl (by kernel_rfl) (by kernel_rfl) (by kernel_rfl) (fun _ _ _ h => h) (Or.inl ⟨by rfl, ?_⟩) KX.out ?_; rotate_left; · intro w hSw; (try dsimp only at hSw); go_simp; try with_reducible rfl
  try simp only [Act.put, List.setIfInBounds_toArray, List.set_cons_zero, List.set_cons_succ]
  refine wpAnyH_take (i := 18) (oi := ⟨some 93, _, _, _, _, _⟩) (v := ?_) rfl (by kernel_rfl) (by kernel_rfl) (by kernel_rfl) (fun _ _ _ h => h) (Or.inl ⟨by rfl, ?_⟩) KX.out ?_; rotate_left; · intro w hSw; (try dsimp only at hSw); go_simp; try with_reducible rfl
  try simp only [Act.put, List.setIfInBounds_toArray, List.set_cons_zero, List.set_cons_succ]
  refine wpAnyH_take (i := 19) (oi := ⟨some 94, _, _, _, _, _⟩) (v := ?_) rfl (by kernel_rfl) (by kernel_rfl) (by kernel_rfl) (fun _ _ _ h => h) (Or.inl ⟨by rfl, ?_⟩) KX.out ?_; rotate_left; · intro w hSw; (try dsimp only at hSw); go_simp; try with_reducible rfl
  try simp only [Act.put, List.setIfInBounds_toArray, List.set_cons_zero, List.set_cons_succ]
  refine wpAnyH_take (i := 20) (oi := ⟨some 95, _, _, _, _, _⟩) (v := ?_) rfl (by kernel_rfl) (by kernel_rfl) (by kernel_rfl) (fun _ _ _ h => h) (Or.inl ⟨by rfl, ?_⟩) KX.out ?_; rotate_left; · intro w hSw; (try dsimp only at hSw); go_simp; try with_reducible rfl
  try simp only [Act.put, List.setIfInBounds_toArray, List.set_cons_zero, List.set_cons_succ]
  refine wpAnyH_take (i := 21) (oi := ⟨some 96, _, _, _, _, _⟩) (v := ?_) rfl (by kernel_rfl) (by kernel_rfl) (by kernel_rfl) (fun _ _ _ h => h) (Or.inl ⟨by rfl, ?_⟩) KX.out ?_; rotate_left; · intro w hSw; (try dsimp only at hSw); go_simp; try with_reducible rfl
  try simp only [Act.put, List.setIfInBounds_toArray, List.set_cons_zero, List.set_cons_succ]
  refine wpAnyH_take (i := 22) (oi := ⟨some 97, _, _, _, _, _⟩) (v := ?_) rfl (by kernel_rfl) (by kernel_rfl) (by kernel_rfl) (fun _ _ _ h => h) (Or.inl ⟨by rfl, ?_⟩) KX.out ?_; rotate_left; · intro w hSw; (try dsimp only at hSw); go_simp; try with_reducible rfl
  try simp only [Act.put, List.setIfInBounds_toArray, List.set_cons_zero, List.set_cons_succ]
  refine wpAnyH_take (i := 23) (oi := ⟨some 98, _, _, _, _, _⟩) (v := ?_) rfl (by kernel_rfl) (by kernel_rfl) (by kernel_rfl) (fun _ _ _ h => h) (Or.inl ⟨by rfl, ?_⟩) KX.out ?_; rotate_left; · intro w hSw; (try dsimp only at hSw); go_simp; try with_reducible rfl
  try simp only [Act.put, List.setIfInBounds_toArray, List.set_cons_zero, List.set_cons_succ]
  refine wpAnyH_take (i := 24) (oi := ⟨some 99, _, _, _, _, _⟩) (v := ?_) rfl (by kernel_rfl) (by kernel_rfl) (by kernel_rfl) (fun _ _ _ h => h) (Or.inl ⟨by rfl, ?_⟩) KX.out ?_; rotate_left; · intro w hSw; (try dsimp only at hSw); go_simp; try with_reducible rfl
  try simp only [Act.put, List.setIfInBounds_toArray, List.set_cons_zero, List.set_cons_succ]
  refine wpAnyH_ready (rs := [25]) (by kernel_rfl) (by simp) ?_
  refine AllReadyH.cons rfl (fun K hK => ?_) ?_
  rotate_left
  · exact AllReadyH.nil
  go_simp
  go_at_call 14
  refine (S1.out _ HBC.out).mono ?_
  rintro e wn ⟨rfl, nq, hnq⟩
  have HBC := Lib.hid (HBC.out.trans ((show Below _ _ wn from by rw [hnq]; exact drewN1 _ nq).mono HBC.out.size))
  have KX := Lib.hid (KF.out _ HBC.out)
  clear hnq
  go_wp2_with fail
  refine hK.out _ _ KX.out (fun hHeld => ?_)
  clear hK K hHeld
  try simp only [Act.put, List.setIfInBounds_toArray, List.set_cons_zero, List.set_cons_succ]
  refine wpAnyH_take (i := 26) (oi := ⟨some 101, _, _, _, _, _⟩) (v := ?_) rfl (by kernel_rfl) (by kernel_rfl) (by kernel_rfl) (fun _ _ _ h => h) (Or.inl ⟨by rfl, ?_⟩) KX.out ?_; rotate_left; · intro w hSw; (try dsimp only at hSw); go_simp; try with_reducible rfl
  try simp only [Act.put, List.setIfInBounds_toArray, List.set_cons_zero, List.set_cons_succ]
  refine wpAnyH_take (i := 27) (oi := ⟨some 102, _, _, _, _, _⟩) (v := ?_) rfl (by kernel_rfl) (by kernel_rfl) (by kernel_rfl) (fun _ _ _ h => h) (Or.inl ⟨by rfl, ?_⟩) KX.out ?_; rotate_left; · intro w hSw; (try dsimp only at hSw); go_simp; try with_reducible rfl
  try simp only [Act.put, List.setIfInBounds_toArray, List.set_cons_zero, List.set_cons_succ]
  refine wpAnyH_take (i := 28) (oi := ⟨some 103, _, _, _, _, _⟩) (v := ?_) rfl (by kernel_rfl) (by kernel_rfl) (by kernel_rfl) (fun _ _ _ h => h) (Or.inl ⟨by rfl, ?_⟩) KX.out ?_; rotate_left; · intro w hSw; (try dsimp only at hSw); go_simp; try with_reducible rfl
  try simp only [Act.put, List.setIfInBounds_toArray, List.set_cons_zero, List.set_cons_succ]
  refine wpAnyH_take (i := 29) (oi := ⟨some 104, _, _, _, _, _⟩) (v := ?_) rfl (by kernel_rfl) (by kernel_rfl) (by kernel_rfl) (fun _ _ _ h => h) (Or.inl ⟨by rfl, ?_⟩) KX.out ?_; rotate_left; · intro w hSw; (try dsimp only at hSw); go_simp; try with_reducible rfl
  try simp only [Act.put, List.setIfInBounds_toArray, List.set_cons_zero, List.set_cons_succ]
  refine wpAnyH_take (i := 30) (oi := ⟨some 105, _, _, _, _, _⟩) (v := ?_) rfl (by kernel_rfl) (by kernel_rfl) (by kernel_rfl) (fun _ _ _ h => h) (Or.inl ⟨by rfl, ?_⟩) KX.out ?_; rotate_left; · intro w hSw; (try dsimp only at hSw); go_simp; try with_reducible rfl
  try simp only [Act.put, List.setIfInBounds_toArray, List.set_cons_zero, List.set_cons_succ]
  refine wpAnyH_take (i := 31) (oi := ⟨some 106, _, _, _, _, _⟩) (v := ?_) rfl (by kernel_rfl) (by kernel_rfl) (by kernel_rfl) (fun _ _ _ h => h) (Or.inl ⟨by rfl, ?_⟩) KX.out ?_; rotate_left; · intro w hSw; (try dsimp only at hSw); go_simp; try with_reducible rfl
  try simp only [Act.put, List.setIfInBounds_toArray, List.set_cons_zero, List.set_cons_succ]
  refine wpAnyH_take (i := 32) (oi := ⟨some 107, _, _, _, _, _⟩) (v := ?_) rfl (by kernel_rfl) (by kernel_rfl) (by kernel_rfl) (fun _ _ _ h => h) (Or.inl ⟨by rfl, ?_⟩) KX.out ?_; rotate_left; · intro w hSw; (try dsimp only at hSw); go_simp; try with_reducible rfl
  try simp only [Act.put, List.setIfInBounds_toArray, List.set_cons_zero, List.set_cons_succ]
  refine wpAnyH_take (i := 33) (oi := ⟨some 108, _, _, _, _, _⟩) (v := ?_) rfl (by kernel_rfl) (by kernel_rfl) (by kernel_rfl) (fun _ _ _ h => h) (Or.inl ⟨by rfl, ?_⟩) KX.out ?_; rotate_left; · intro w hSw; (try dsimp only at hSw); go_simp; try with_reducible rfl
  try simp only [Act.put, List.setIfInBounds_toArray, List.set_cons_zero, List.set_cons_succ]
  refine wpAnyH_take (i := 34) (oi := ⟨some 109, _, _, _, _, _⟩) (v := ?_) rfl (by kernel_rfl) (by kernel_rfl) (by kernel_rfl) (fun _ _ _ h => h) (Or.inl ⟨by rfl, ?_⟩) KX.out ?_; rotate_left; · intro w hSw; (try dsimp only at hSw); go_simp; try with_reducible rfl
  try simp only [Act.put, List.setIfInBounds_toArray, List.set_cons_zero, List.set_cons_succ]
  refine wpAnyH_take (i := 35) (oi := ⟨some 110, _, _, _, _, _⟩) (v := ?_) rfl (by kernel_rfl) (by kernel_rfl) (by kernel_rfl) (fun _ _ _ h => h) (Or.inl ⟨by rfl, ?_⟩) KX.out ?_; rotate_left; · intro w hSw; (try dsimp only at hSw); go_simp; try with_reducible rfl
  try simp only [Act.put, List.setIfInBounds_toArray, List.set_cons_zero, List.set_cons_succ]
  refine wpAnyH_take (i := 36) (oi := ⟨some 111, _, _, _, _, _⟩) (v := ?_) rfl (by kernel_rfl) (by kernel_rfl) (by kernel_rfl) (fun _ _ _ h => h) (Or.inl ⟨by rfl, ?_⟩) KX.out ?_; rotate_left; · intro w hSw; (try dsimp only at hSw); go_simp; try with_reducible rfl
  try simp only [Act.put, List.setIfInBounds_toArray, List.set_cons_zero, List.set_cons_succ]
  refine wpAnyH_take (i := 37) (oi := ⟨some 112, _, _, _, _, _⟩) (v := ?_) rfl (by kernel_rfl) (by kernel_rfl) (by kernel_rfl) (fun _ _ _ h => h) (Or.inl ⟨by rfl, ?_⟩) KX.out ?_; rotate_left; · intro w hSw; (try dsimp only at hSw); go_simp; try with_reducible rfl
  try simp only [Act.put, List.setIfInBounds_toArray, List.set_cons_zero, List.set_cons_succ]
  refine wpAnyH_ready (rs := [38]) (by kernel_rfl) (by simp) ?_
  refine AllReadyH.cons rfl (fun K hK => ?_) ?_
  rotate_left
  · exact AllReadyH.nil
  go_simp
  go_at_call 14
  refine (S2.out _ HBC.out).mono ?_
  rintro e wn ⟨rfl, nq, hnq⟩
  have HBC := Lib.hid (HBC.out.trans ((show Below _ _ wn from by rw [hnq]; exact drewN1 _ nq).mono HBC.out.size))
  have KX := Lib.hid (KF.out _ HBC.out)
  clear hnq
  go_wp2_with fail
  refine hK.out _ _ KX.out (fun hHeld => ?_)
  clear hK K hHeld
  try simp only [Act.put, List.setIfInBounds_toArray, List.set_cons_zero, List.set_cons_succ]
  refine wpAnyH_take (i := 39) (oi := ⟨some 114, _, _, _, _, _⟩) (v := ?_) rfl (by kernel_rfl) (by kernel_rfl) (by kernel_rfl) (fun _ _ _ h => h) (Or.inl ⟨by rfl, ?_⟩) KX.out ?_; rotate_left; · intro w hSw; (try dsimp only at hSw); go_simp; try with_reducible rfl
  try simp only [Act.put, List.setIfInBounds_toArray, List.set_cons_zero, List.set_cons_succ]
  refine wpAnyH_take (i := 40) (oi := ⟨some 115, _, _, _, _, _⟩) (v := ?_) rfl (by kernel_rfl) (by kernel_rfl) (by kernel_rfl) (fun _ _ _ h => h) (Or.inl ⟨by rfl, ?_⟩) KX.out ?_; rotate_left; · intro w hSw; (try dsimp only at hSw); go_simp; try with_reducible rfl
  try simp only [Act.put, List.setIfInBounds_toArray, List.set_cons_zero, List.set_cons_succ]
  refine wpAnyH_take (i := 41) (oi := ⟨some 116, _, _, _, _, _⟩) (v := ?_) rfl (by kernel_rfl) (by kernel_rfl) (by kernel_rfl) (fun _ _ _ h => h) (Or.inl ⟨by rfl, ?_⟩) KX.out ?_; rotate_left; · intro w hSw; (try dsimp only at hSw); go_simp; try with_reducible rfl
  try simp only [Act.put, List.setIfInBounds_toArray, List.set_cons_zero, List.set_cons_succ]
  refine wpAnyH_take (i := 42) (oi := ⟨some 117, _, _, _, _, _⟩) (v := ?_) rfl (by kernel_rfl) (by kernel_rfl) (by kernel_rfl) (fun _ _ _ h => h) (Or.inl ⟨by rfl, ?_⟩) KX.out ?_; rotate_left; · intro w hSw; (try dsimp only at hSw); go_simp; try with_reducible rfl
  try simp only [Act.put, List.setIfInBounds_toArray, List.set_cons_zero, List.set_cons_succ]
  refine wpAnyH_take (i := 43) (oi := ⟨some 118, _, _, _, _, _⟩) (v := ?_) rfl (by kernel_rfl) (by kernel_rfl) (by kernel_rfl) (fun _ _ _ h => h) (Or.inl ⟨by rfl, ?_⟩) KX.out ?_; rotate_left; · intro w hSw; (try dsimp only at hSw); go_simp; try with_reducible rfl
  try simp only [Act.put, List.setIfInBounds_toArray, List.set_cons_zero, List.set_cons_succ]
  refine wpAnyH_take (i := 44) (oi := ⟨some 119, _, _, _, _, _⟩) (v := ?_) rfl (by kernel_rfl) (by kernel_rfl) (by kernel_rfl) (fun _ _ _ h => h) (Or.inl ⟨by rfl, ?_⟩) KX.out ?_; rotate_left; · intro w hSw; (try dsimp only at hSw); go_simp; try with_reducible rfl
  try simp only [Act.put, List.setIfInBounds_toArray, List.set_cons_zero, List.set_cons_succ]
  refine wpAnyH_ready (rs := [45]) (by kernel_rfl) (by simp) ?_
  refine AllReadyH.cons rfl (fun K hK => ?_) ?_
  rotate_left
  · exact AllReadyH.nil
  go_simp
  go_at_call 14
  refine (S3.out _ HBC.out).mono ?_
  rintro e wn ⟨rfl, nq, hnq⟩
  have HBC := Lib.hid (HBC.out.trans ((show Below _ _ wn from by rw [hnq]; exact drewN1 _ nq).mono HBC.out.size))
  have KX := Lib.hid (KF.out _ HBC.out)
  clear hnq
  go_wp2_with fail
  refine hK.out _ _ KX.out (fun hHeld => ?_)
  clear hK K hHeld
  try simp only [Act.put, List.setIfInBounds_toArray, List.set_cons_zero, List.set_cons_succ]
  refine wpAnyH_take (i := 46) (oi := ⟨some 121, _, _, _, _, _⟩) (v := ?_) rfl (by kernel_rfl) (by kernel_rfl) (by kernel_rfl) (fun _ _ _ h => h) (Or.inl ⟨by rfl, ?_⟩) KX.out ?_; rotate_left; · intro w hSw; (try dsimp only at hSw); go_simp; try with_reducible rfl
  try simp only [Act.put, List.setIfInBounds_toArray, List.set_cons_zero, List.set_cons_succ]
  refine wpAnyH_take (i := 47) (oi := ⟨some 122, _, _, _, _, _⟩) (v := ?_) rfl (by kernel_rfl) (by kernel_rfl) (by kernel_rfl) (fun _ _ _ h => h) (Or.inl ⟨by rfl, ?_⟩) KX.out ?_; rotate_left; · intro w hSw; (try dsimp only at hSw); go_simp; try with_reducible rfl
  try simp only [Act.put, List.setIfInBounds_toArray, List.set_cons_zero, List.set_cons_succ]
  refine wpAnyH_take (i := 48) (oi := ⟨some 123, _, _, _, _, _⟩) (v := ?_) rfl (by kernel_rfl) (by kernel_rfl) (by kernel_rfl) (fun _ _ _ h => h) (Or.inl ⟨by rfl, ?_⟩) KX.out ?_; rotate_left; · intro w hSw; (try dsimp only at hSw); go_simp; try with_reducible rfl
  try simp only [Act.put, List.setIfInBounds_toArray, List.set_cons_zero, List.set_cons_succ]
  refine wpAnyH_take (i := 49) (oi := ⟨some 124, _, _, _, _, _⟩) (v := ?_) rfl (by kernel_rfl) (by kernel_rfl) (by kernel_rfl) (fun _ _ _ h => h) (Or.inl ⟨by rfl, ?_⟩) KX.out ?_; rotate_left; · intro w hSw; (try dsimp only at hSw); go_simp; try with_reducible rfl
  try simp only [Act.put, List.setIfInBounds_toArray, List.set_cons_zero, List.set_cons_succ]
  refine wpAnyH_take (i := 50) (oi := ⟨some 125, _, _, _, _, _⟩) (v := ?_) rfl (by kernel_rfl) (by kernel_rfl) (by kernel_rfl) (fun _ _ _ h => h) (Or.inl ⟨by rfl, ?_⟩) KX.out ?_; rotate_left; · intro w hSw; (try dsimp only at hSw); go_simp; try with_reducible rfl
  try simp only [Act.put, List.setIfInBounds_toArray, List.set_cons_zero, List.set_cons_succ]
  refine wpAnyH_take (i := 51) (oi := ⟨some 126, _, _, _, _, _⟩) (v := ?_) rfl (by kernel_rfl) (by kernel_rfl) (by kernel_rfl) (fun _ _ _ h => h) (Or.inl ⟨by rfl, ?_⟩) KX.out ?_; rotate_left; · intro w hSw; (try dsimp only at hSw); go_simp; try with_reducible rfl
  try simp only [Act.put, List.setIfInBounds_toArray, List.set_cons_zero, List.set_cons_succ]
  refine wpAnyH_take (i := 52) (oi := ⟨some 127, _, _, _, _, _⟩) (v := ?_) rfl (by kernel_rfl) (by kernel_rfl) (by kernel_rfl) (fun _ _ _ h => h) (Or.inl ⟨by rfl, ?_⟩) KX.out ?_; rotate_left; · intro w hSw; (try dsimp only at hSw); go_simp; try with_reducible rfl
  try simp only [Act.put, List.setIfInBounds_toArray, List.set_cons_zero, List.set_cons_succ]
  refine wpAnyH_take (i := 53) (oi := ⟨some 128, _, _, _, _, _⟩) (v := ?_) rfl (by kernel_rfl) (by kernel_rfl) (by kernel_rfl) (fun _ _ _ h => h) (Or.inl ⟨by rfl, ?_⟩) KX.out ?_; rotate_left; · intro w hSw; (try dsimp only at hSw); go_simp; try with_reducible rfl
  try simp only [Act.put, List.setIfInBounds_toArray, List.set_cons_zero, List.set_cons_succ]
  refine wpAnyH_take (i := 54) (oi := ⟨some 129, _, _, _, _, _⟩) (v := ?_) rfl (by kernel_rfl) (by kernel_rfl) (by kernel_rfl) (fun _ _ _ h => h) (Or.inl ⟨by rfl, ?_⟩) KX.out ?_; rotate_left; · intro w hSw; (try dsimp only at hSw); go_simp; try with_reducible rfl
  try simp only [Act.put, List.setIfInBounds_toArray, List.set_cons_zero, List.set_cons_succ]
  refine wpAnyH_take (i := 55) (oi := ⟨some 130, _, _, _, _, _⟩) (v := ?_) rfl (by kernel_rfl) (by kernel_rfl) (by kernel_rfl) (fun _ _ _ h => h) (Or.inl ⟨by rfl, ?_⟩) KX.out ?_; rotate_left; · intro w hSw; (try dsimp only at hSw); go_simp; try with_reducible rfl
  try simp only [Act.put, List.setIfInBounds_toArray, List.set_cons_zero, List.set_cons_succ]
  refine wpAnyH_take (i := 56) (oi := ⟨some 131, _, _, _, _, _⟩) (v := ?_) rfl (by kernel_rfl) (by kernel_rfl) (by kernel_rfl) (fun _ _ _ h => h) (Or.inl ⟨by rfl, ?_⟩) KX.out ?_; rotate_left; · intro w hSw; (try dsimp only at hSw); go_simp; try with_reducible rfl
  try simp only [Act.put, List.setIfInBounds_toArray, List.set_cons_zero, List.set_cons_succ]
  refine wpAnyH_take (i := 57) (oi := ⟨some 132, _, _, _, _, _⟩) (v := ?_) rfl (by kernel_rfl) (by kernel_rfl) (by kernel_rfl) (fun _ _ _ h => h) (Or.inl ⟨by rfl, ?_⟩) KX.out ?_; rotate_left; · intro w hSw; (try dsimp only at hSw); go_simp; try with_reducible rfl
  try simp only [Act.put, List.setIfInBounds_toArray, List.set_cons_zero, List.set_cons_succ]
  refine wpAnyH_take (i := 58) (oi := ⟨some 133, _, _, _, _, _⟩) (v := ?_) rfl (by kernel_rfl) (by kernel_rfl) (by kernel_rfl) (fun _ _ _ h => h) (Or.inl ⟨by rfl, ?_⟩) KX.out ?_; rotate_left; · intro w hSw; (try dsimp only at hSw); go_simp; try with_reducible rfl
  try simp only [Act.put, List.setIfInBounds_toArray, List.set_cons_zero, List.set_cons_succ]
  refine wpAnyH_take (i := 59) (oi := ⟨some 134, _, _, _, _, _⟩) (v := ?_) rfl (by kernel_rfl) (by kernel_rfl) (by kernel_rfl) (fun _ _ _ h => h) (Or.inl ⟨by rfl, ?_⟩) KX.out ?_; rotate_left; · intro w hSw; (try dsimp only at hSw); go_simp; try with_reducible rfl
  try simp only [Act.put, List.setIfInBounds_toArray, List.set_cons_zero, List.set_cons_succ]
  refine wpAnyH_take (i := 60) (oi := ⟨some 135, _, _, _, _, _⟩) (v := ?_) rfl (by kernel_rfl) (by kernel_rfl) (by kernel_rfl) (fun _ _ _ h => h) (Or.inl ⟨by rfl, ?_⟩) KX.out ?_; rotate_left; · intro w hSw; (try dsimp only at hSw); go_simp; try with_reducible rfl
  try simp only [Act.put, List.setIfInBounds_toArray, List.set_cons_zero, List.set_cons_succ]
  refine wpAnyH_take (i := 61) (oi := ⟨some 8, _, _, _, _, _⟩) (v := ?_) rfl (by kernel_rfl) (by kernel_rfl) (by kernel_rfl) (fun _ _ _ h => h) (Or.inl ⟨by rfl, ?_⟩) KX.out ?_; rotate_left; · intro w hSw; (try dsimp only at hSw); go_simp; try with_reducible rfl
  try simp only [Act.put, List.setIfInBounds_toArray, List.set_cons_zero, List.set_cons_succ]
  refine wpAnyH_done (by kernel_rfl) ?_ _
  go_wp2_with fail
  go_ret
  exact ⟨rfl, HBX.out.trans (HBC.out.mono HBX.out.size)⟩
end Go.Proofs.YtbiinnfkokaadaaDoor.EvalEmpty

namespace Go.Proofs.YtbiinnfkokaadaaDoor.evalEmpty
open Mach Mem
open Go.ChangeShapes Go.WideShapes Go.ChangeAt Go.RowKit
set_option linter.unusedVariables false
set_option linter.unusedSimpArgs false

theorem own : ownKnob Tryd.prog.godebug = none := by kernel_rfl
theorem laidOut : laidOutB Tryd.prog = true := by kernel_rfl
abbrev laid : List (String × DataW Unit) := laidL
theorem laid_is : Rows.evalEmptyRow.laid = laid := rfl
set_option maxRecDepth 100000 in
theorem lifted (os : Os) (started : os.Started) (H : Type) (enc : TypeId × Value → H) :
    ReturnsInHanded {} Tryd.checked os 4 .any (fun w args => (Rows.evalEmptySpec.pre enc Tryd.prog Tryd.f4 Rows.evalEmptyRow.domain false w args ∧ laidMetH Tryd.prog laid w) ∧ sizedMet enc Tryd.prog Tryd.f4 (OpenSpec.ofChange Rows.evalEmptySpec) false w args)
      (Rows.evalEmptySpec.post enc Tryd.prog Tryd.f4 false true false false) := by
  refine returnsInHanded_of_change_and (C := Tryd.checked) (X := fun w _ => laidMetH Tryd.prog laid w) (fun _ _ _ hh h => h.of_heap hh) own started (by kernel_rfl) Tryd.func4
    (witness_ref (enc := enc) (C := Tryd.checked) (os := os) (X := fun w _ => laidMetH Tryd.prog laid w) false (laidWorld os) #[.agg #[.int .i64 0, .int .i64 0, .slice none 0 0, .slice none 0 0, .slice none 0 0, .string ⟨#[]⟩, .string ⟨#[]⟩, .int .i64 0, .int .i64 0, .int .i64 0], .int .i64 0, .int .i64 0, .int .i64 0] 8 rfl (by kernel_rfl) (by kernel_rfl) (by kernel_rfl) (by kernel_rfl) (by kernel_rfl) (laidWorld_met os _)) ?_
  intro W base args ds gs before hval0 hW _ _ hL _
  have hval : ∀ (j : Nat) t v, Tryd.f4.params[j]? = some t → args[j]? = some v → Value.okWide Tryd.prog W .any base t v := hval0
  have hW' := hW
  obtain ⟨p, q, hA0, hV, rfl, hfz, hnd⟩ := hW
  have hA : DataW.TrodAll enc Tryd.prog W 0 (fun _ => true) true Tryd.f4.params.toList args.toList ds p := hA0
  rw [Tryd.params4] at hA hval
  obtain ⟨v0, vs0, d0, ds0, p0, q0, hargs, rfl, rfl, h0, r0⟩ := trodAll_cons hA
  obtain ⟨v1, vs1, d1, ds1, p1, q1, rfl, rfl, rfl, h1, r1⟩ := trodAll_cons r0
  obtain ⟨v2, vs2, d2, ds2, p2, q2, rfl, rfl, rfl, h2, r2⟩ := trodAll_cons r1
  obtain ⟨v3, vs3, d3, ds3, p3, q3, rfl, rfl, rfl, h3, r3⟩ := trodAll_cons r2
  obtain ⟨rfl, rfl, rfl⟩ := trodAll_nil r3
  obtain rfl : args = #[v0, v1, v2, v3] := by cases args; simp_all
  obtain ⟨rfl, rfl⟩ := trodVars_none hV
  obtain ⟨xs0, l0⟩ := stateOf (hval 0 28 v0 rfl rfl) h0
  obtain ⟨a1, rfl, rfl, rfl, w1⟩ := open_int Tryd.underlying3 (hval 1 3 v1 rfl rfl) h1
  obtain ⟨a2, rfl, rfl, rfl, w2⟩ := open_int Tryd.underlying3 (hval 2 3 v2 rfl rfl) h2
  obtain ⟨a3, rfl, rfl, rfl, w3⟩ := open_int Tryd.underlying3 (hval 3 3 v3 rfl rfl) h3
  clear hA0 hval0
  simp only [List.append_nil] at hW'
  have hlt0 : ∀ x ∈ p0, x.block < W.heap.size := fun x hx => by simpa using hW'.lt x (by simp [hx])
  refine (EvalEmpty.main v0 xs0 a1 a2 a3 W l0 w1 w2 w3 (Ev.tabs_of hL)).mono fun e W' ⟨he, hg⟩ => ?_
  subst he
  exact ⟨_, rfl, _, _, _, [], _, [], hW', (trodAll_cons_mk (shut_bool Tryd.underlying4 _) trodAll_mk0), (trodAll_cons_mk (Below.trod laidOut (by kernel_rfl) (of_decide_eq_true (by kernel_rfl)) h0 hg hlt0) (trodAll_cons_mk (shut_int Tryd.underlying3 w1) (trodAll_cons_mk (shut_int Tryd.underlying3 w2) (trodAll_cons_mk (shut_int Tryd.underlying3 w3) trodAll_mk0)))), rfl, hg.frame _, fun h => by cases h⟩

theorem over : Rows.evalEmptyRow.holds Tryd.pinned (OpenSpec.ofChange Rows.evalEmptySpec) :=
  OpenClaim.holds_of_wide 4 Tryd.f4 rfl rfl rfl rfl rfl rfl rfl ⟨rfl, rfl, rfl, rfl, rfl⟩ rfl rfl rfl rfl rfl (by kernel_rfl) Tryd.func4 (by kernel_rfl)
    (of_decide_eq_true (by kernel_rfl)) (by unfold Func.isWrapper; first | (rw [if_pos (by decide +kernel)]; kernel_rfl) | (rw [if_neg (by decide +kernel)]; exact ⟨rfl, rfl⟩))
    (fun os started H enc _ => lifted os started H enc)

theorem proved : Rows.EvalEmptyCardSaid :=
  Claim7.holds_tied_plain_at .later [] Rows.evalEmptyCard.laidKinds true Rows.evalEmptyCard.stood.harness Rows.evalEmptyCard.stood.looks
    over (fun _ h => by cases h) (by kernel_rfl) (fun _ h => by cases h) evalEmpty_row_tie rfl ⟨rfl, rfl⟩ (by kernel_rfl) rfl
    (fun f fn hf hfn => by
      obtain rfl : f = 4 := Option.some.inj ((show Tryd.prog.funcNamed "holloway/hollowaylaw15.EvalEmpty" = some 4 by kernel_rfl).symm.trans hf) |>.symm
      obtain rfl : fn = Tryd.f4 := (Option.some.inj (Tryd.func4.symm.trans hfn)).symm
      exact ⟨by kernel_rfl, fun j t ht => by
        rw [Tryd.params4] at ht
        have hm : t ∈ [28, 3, 3, 3] := by
          rcases Array.mem_of_getElem? ht with h
          simpa using h
        simp only [List.mem_cons, List.not_mem_nil, or_false] at hm
        rcases hm with rfl | rfl | rfl | rfl
        · exact (show Tryd.prog.wantsStandIn 28 = false by kernel_rfl)
        · exact (show Tryd.prog.wantsStandIn 3 = false by kernel_rfl)
        · exact (show Tryd.prog.wantsStandIn 3 = false by kernel_rfl)
        · exact (show Tryd.prog.wantsStandIn 3 = false by kernel_rfl)⟩)
    (by kernel_rfl)
#print axioms proved
end Go.Proofs.YtbiinnfkokaadaaDoor.evalEmpty
