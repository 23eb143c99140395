/- EvalTells: the walk. -/
import Derived.Test.YtpecingkoodmfaaGreatDoorS28
import Derived.Test.YtpecingkoodmfaaGreatDoorS15
import Derived.Test.YtpecingkoodmfaaGreatDoorS17
import Derived.Test.YtpecingkoodmfaaGreatDoorS7
import Derived.Test.YtpecingkoodmfaaGreatDoorS21
import Derived.Test.YtpecingkoodmfaaGreatDoorS20
import Derived.BigQuiet
import Derived.Deep.QuietTactic
import Derived.Deep.LoopGhost
import Derived.Deep.DeepCutAuto
namespace Go.Proofs.YtpecingkoodmfaaGreatDoor.EvalTells
open Go.RowKit Book Mem Ev
open Ir (T I O trA trV ReadsL ReadsT newBox boxOn ld_tr st_tr zero9 CI CT lightT lightT_all lightT_small rightT rright_any LentT staysTrace_any)
open Mach (M less cells10 zero10 OwnsL OwnsM ReadsM stV st_state ld_state state_size slice_one all_one lightB lightB_iff Cells sameState_any lentState_any LentM staysState_any Bk bookArr9 Spares bookState_any)
set_option linter.unusedSimpArgs false
set_option linter.unusedVariables false
def Yes (w : World) (e : Ending) (w' : World) : Prop := e = .returned (.bool true) ∧ Below w.heap.size w w'
/-- what is there behind the loans -/
def P5 (w5 wx : World) (t : T) (m : M) (wl : List Int) (g9 g10 : Nat) (ui uo uc vs vb vm vw : Value) : Prop := ∃ B1 B2 B3 gw cw, wx.heap[g9]? = some (.cells (trA t ui uo uc) 26 (0, 0)) ∧ wx.heap[g10]? = some (.cells (cells10 m.ip m.handler vs vb vm m.out m.inp m.read m.status m.code) 50 (0, 0)) ∧ LentT wx B1 (trV t ui uo uc) t ∧ LentM wx B2 (stV m vs vb vm) m ∧ vw = .slice (some ⟨gw, 0, none⟩) wl.length cw ∧ Lent wx B3 gw cw wl ∧ Below w5.heap.size w5 wx
theorem Lent.box {w w' : World} {B g cap q : Nat} {l : List Int} {cs : Array Value} {ty : TypeId} (h : Lent w B g cap l) (ht : Stirred w w' [q]) (hq : w.heap[q]? = some (.cells cs ty (0, 0))) (hn : ty ≠ 3) : Lent w' B g cap l :=
 Owns.touch h ht (fun k e hm => by
  obtain ⟨_, _, c, hc⟩ := Owns.block h k e
  rw [List.mem_singleton.1 hm, hq] at hc
  injection hc with hc
  injection hc with h1 h2
  exact hn h2)
theorem LentM.box {w w' : World} {B q : Nat} {v : Value} {m : M} {cs : Array Value} {ty : TypeId} (h : LentM w B v m) (ht : Stirred w w' [q]) (hq : w.heap[q]? = some (.cells cs ty (0, 0))) (hn : ty ≠ 3) : LentM w' B v m := by
 obtain ⟨g1, c1, g2, c2, g3, c3, e, h1, h2, h3⟩ := h
 exact ⟨g1, c1, g2, c2, g3, c3, e, Lent.box h1 ht hq hn, Lent.box h2 ht hq hn, Lent.box h3 ht hq hn⟩
theorem tq_form {w : World} {B : Nat} {v : Value} {t : T} {S : List Nat} (h : Ir.LentTQ w B v t S) : ∃ ui uo uc, v = trV t ui uo uc ∧ ui.oneCell' = true ∧ uo.oneCell' = true ∧ uc.oneCell' = true := by
 obtain ⟨g1, c1, g2, c2, g3, c3, L, e, -⟩ := h
 exact ⟨_, _, _, e, rfl, rfl, rfl⟩
theorem tr_one {t : T} {ui uo uc : Value} (h1 : ui.oneCell' = true) (h2 : uo.oneCell' = true) (h3 : uc.oneCell' = true) : (trA t ui uo uc).all (·.oneCell') = true := by
 simp only [List.all_toArray, List.all_cons, List.all_nil, h1, h2, h3]
 rfl
theorem runT_mem {wat : List Int} {t : T} {s : M} : (Ev.runT wat t s).s.mem.length = s.mem.length := by
 unfold Ev.runT
 split
 ·have hk := goI_kin wat t.last t.ins s []
  dsimp only
  split
  ·exact hk.mem
  ·rfl
 ·rfl
theorem run_out {wat : List Int} {t : T} {s : M} (hr : rightT t = true) (hm : mayT t s = true) (z1 : s.stack.length ≤ 10000) (z2 : s.back.length ≤ 10000) : ∃ (k : Nat) (o : O), (Ev.runT wat t s).exit = (k : Int) ∧ t.outs[k]? = some o ∧ (Ev.runT wat t s).steps = o.steps := by
 obtain ⟨o, h1, -⟩ := run_end (wat := wat) hr hm z1 z2
 obtain ⟨k, h2, h3⟩ := out_place h1
 rw [runT_is hm rfl h1]
 exact ⟨k, o, h2, h3, rfl⟩
theorem owns_far {w w' : World} {B g : Nat} {vs vb vm : Value} {m : M} (h : OwnsL w B vs vb vm m) (ht : Stirred w w' [g]) (hg : g < B) : OwnsL w' B vs vb vm m :=
 have far : ∀ {v : Value} {xs : List Int}, Owns w B 3 v (vals xs) → Owns w' B 3 v (vals xs) := fun h => h.touch ht (fun k e hm => by have h1 := List.mem_singleton.1 hm; have h2 := (h.block k e).1; omega)
 ⟨far h.st, far h.bk, far h.me, h.sb, h.bm⟩
theorem owns_spares {w w' : World} {B : Nat} {vs vb vm : Value} {m : M} (h : OwnsL w B vs vb vm m) (hs : Spares w w') : OwnsL w' B vs vb vm m := ⟨hs.owns h.st, hs.owns h.bk, hs.owns h.me, h.sb, h.bm⟩
/-- what is wanted -/
def P7 (w6 wx : World) (m : M) (g : Nat) : Prop := ∃ us ub um, wx.heap[g]? = some (.cells (cells10 m.ip m.handler us ub um m.out m.inp m.read m.status m.code) 50 (0, 0)) ∧ ReadsM wx (stV m us ub um) m ∧ w6.heap.size ≤ g ∧ Below w6.heap.size w6 wx
abbrev bookZero : Array Value := #[.slice none 0 0, .slice none 0 0, .slice none 0 0, .slice none 0 0, .slice none 0 0, .slice none 0 0, .slice none 0 0, .slice none 0 0, .slice none 0 0, .slice none 0 0, .slice none 0 0, .slice none 0 0]
theorem Spares.box {w w' : World} {g : Nat} {cs : Array Value} (h : Spares w w') (hg : w.heap[g]? = some (.cells cs 50 (0, 0))) : w'.heap[g]? = some (.cells cs 50 (0, 0)) := h g cs _ (by decide) (by decide) hg
theorem Spares.done {w w' : World} {g : Nat} {cs : Array Value} (h : Spares w w') (hg : w.heap[g]? = some (.cells cs 60 (0, 0))) : w'.heap[g]? = some (.cells cs 60 (0, 0)) := h g cs _ (by decide) (by decide) hg
section
variable {ops : Array Oper} {o : Oper} {a : Act} {w : World} {K : Act → World → Prop} {Q : Exit → Act → World → Prop} {F : Prop}
theorem step_alloc_tr (hw : Region.wanted o (yielded ops a.tmps) = true) (ho : o.op = .alloc 26)
  (h : ∀ g w', w.heap.size = g → w'.heap[g]? = some (.cells zero9 26 (0, 0)) → Below w.heap.size w w' → K (a.put o.dst (.pointer (some ⟨g, 0, none⟩))) w') : if Region.wanted o (yielded ops a.tmps) = true then o.wp Tryz.prog a w K Q else F := by
 rw [if_pos hw]
 have hk := h w.heap.size (w.alloc (.cells zero9 26)) rfl (heap_alloc_new w _) ((Below.refl w.heap.size w).alloc (Nat.le_refl _) _)
 obtain ⟨dst, op, ty, pos, after, guard⟩ := o
 simp only at ho hk ⊢
 subst ho
 clear h hw
 generalize hw' : w.alloc (.cells zero9 26) = w' at hk
 go_simp
 exact hk
theorem step_st_tr (hw : Region.wanted o (yielded ops a.tmps) = true) (x y : Operand) (ho : o.op = .store 26 x y) (g : Nat) (cells : Array Value) (hx : a.eval x = .pointer (some ⟨g, 0, none⟩)) (hy : a.eval y = .agg cells) (old : Array Value) (hg : w.heap[g]? = some (.cells old 26 (0, 0))) (hs : cells.size = 9) (hold : old.size = 9) (h1 : cells.all (·.oneCell') = true)
  (h : ∀ w', w'.heap[g]? = some (.cells cells 26 (0, 0)) → Stirred w w' [g] → K (a.put o.dst undef) w') : if Region.wanted o (yielded ops a.tmps) = true then o.wp Tryz.prog a w K Q else F := by
 rw [if_pos hw]
 have hz : (Tryz.prog.info? 26).map (·.size) = some cells.size := by rw [hs]; exact Ir.tr_size
 exact wp_store_row 26 x y ho g cells hx hy 26 old hg hz (by rw [hold, hs]) h1 (h _ (setRow_heap w g old cells 26 (0, 0) hg) (Stirred.setRow w g cells))
end
theorem wSz {ip sip hn rd cd stt sx : Int} {st bk me wat : List Int} {ou inn : ByteArray} (h : Mach.Right ⟨sip, hn, st, bk, me, ou, inn, rd, stt, cd⟩) (h1 : me.length ≤ 700) (h2 : inn.size ≤ 300) (h3 : wat.length ≤ 700) : Sz ⟨ip, hn, st, bk, me, ou, inn, rd, sx, cd⟩ [] wat :=
 ⟨Nat.le_trans h.stack (by decide), Nat.le_trans h.back (by decide), Nat.le_trans h1 (by decide), h.out, Nat.le_trans h2 (by decide), Nat.zero_le _, Nat.le_trans h3 (by decide), fun x hx => (by cases hx)⟩
theorem wCM {ip sip hn rd cd stt sx : Int} {st bk me : List Int} {ou inn : ByteArray} (h : Cells ⟨sip, hn, st, bk, me, ou, inn, rd, stt, cd⟩) : CM ⟨ip, hn, st, bk, me, ou, inn, rd, sx, cd⟩ := ⟨h.stack, h.back, h.mem⟩
theorem filled {w8 w9 w10 wx w12 : World} {g7 g8 : Nat} (B9 : Below w8.heap.size w8 w9) (B10 : Below w9.heap.size w9 w10) (T15 : Stirred w10 wx [g7]) (T16 : Stirred wx w12 [g8]) (h7 : w8.heap.size ≤ g7) (h8 : w8.heap.size ≤ g8) : Below w8.heap.size w8 w12 := by
 have b1 := B9.trans (B10.mono B9.size)
 have b2 := b1.trans (T15.below (fun k hk => by rw [List.mem_singleton.1 hk]; exact h7) b1.size)
 exact b2.trans (T16.below (fun k hk => by rw [List.mem_singleton.1 hk]; exact h8) b2.size)

set_option maxHeartbeats 16000000 in
set_option maxRecDepth 100000 in
theorem main (v : Value) (t : T) (u : Value) (s : M) (vw : Value) (wl : List Int) (at' : Bool) (W : World) (l0 : ReadsT W v t ∧ CT t) (l1 : ReadsM W u s ∧ Cells s ∧ s.inp.size ≤ maxLen ∧ s.out.size ≤ maxLen ∧ Cell.In s.read ∧ Cell.In s.status) (l2 : Reads W vw wl ∧ ∀ x ∈ wl, (Lit.int .i64 x).wf = true) (hT : Tabs W) :
  Calls Tryz.prog 4 #[v, u, vw, .bool at'] W (Yes W) := by
 obtain ⟨⟨vi, vo, vc, rfl, hR⟩, hCT⟩ := l0
 obtain ⟨hW, hWf⟩ := l2
 have HW := Lib.hid hW
 have HWF := Lib.hid hWf
 obtain ⟨aw, cw, fw, -⟩ := hW
 subst fw
 have HR := Lib.hid hR
 have HCT := Lib.hid hCT
 obtain ⟨h, hc, hi, ho, -, -⟩ := l1
 have HM := Lib.hid h
 have HCC := Lib.hid hc
 obtain ⟨vs, vb, vm, rfl, hrs, hrb, hrm⟩ := h
 have HRS := Lib.hid hrs
 have HRB := Lib.hid hrb
 have HRM := Lib.hid hrm
 obtain ⟨⟨so, sc, f1, -⟩, -⟩ := hrs
 obtain ⟨⟨bo, bc, f2, -⟩, -⟩ := hrb
 obtain ⟨⟨mo, mc, f3, -⟩, -⟩ := hrm
 subst f1
 subst f2
 subst f3
 obtain ⟨ai, ci, ao, co, ac, cc, rfl, rfl, rfl⟩ := hR.known
 obtain ⟨sip, shn, st, bk, me, ou, inn, rd, stt, cd⟩ := s
 dsimp only at hi ho
 have C1 := Lib.hid (fun wc (hb : Below W.heap.size W wc) => Ir.light_any (HR.out.below hb))
 have C2 := Lib.hid (fun wc (hb : Below W.heap.size W wc) => Mach.light_any (HM.out.below hb) hi ho)
 have C3 := Lib.hid (fun wc (hb : Below W.heap.size W wc) (hs : Ir.Small t) => rright_any (HR.out.below hb) hs)
 have C4 := Lib.hid (fun wc (hb : Below W.heap.size W wc) => alive_any wc (hT.mono hb))
 obtain ⟨n1, hn1⟩ : ∃ n, st.length = n := ⟨_, rfl⟩
 obtain ⟨n2, hn2⟩ : ∃ n, bk.length = n := ⟨_, rfl⟩
 obtain ⟨n3, hn3⟩ : ∃ n, me.length = n := ⟨_, rfl⟩
 obtain ⟨ni, hni⟩ : ∃ n, t.ins.length = n := ⟨_, rfl⟩
 obtain ⟨no, hno⟩ : ∃ n, t.outs.length = n := ⟨_, rfl⟩
 obtain ⟨nc, hnc⟩ : ∃ n, t.cells.length = n := ⟨_, rfl⟩
 obtain ⟨nw, hnw⟩ : ∃ n, wl.length = n := ⟨_, rfl⟩
 have HNW := Lib.hid hnw
 have HNC := Lib.hid hnc
 rw [hnw] at HW
 have HN := Lib.hid (And.intro hn1 (And.intro hn2 hn3))
 have HNT := Lib.hid (And.intro hni hno)
 dsimp only at HM C2 HRS HRB HRM
 rw [hn1, hn2, hn3] at HM C2
 rw [hn1] at HRS
 rw [hn2] at HRB
 rw [hn3] at HRM
 rw [hni, hno, hnc] at HR C1 C3
 simp only [hn1, hn2, hn3, hni, hno, hnc, hnw]
 clear hn1 hn2 hn3 hni hno hnc hnw hR hWf
 obtain ⟨w1, gt, hw1, hgt, HG, HB1, HZ1⟩ := newBox W (trA t (.slice ai ni ci) (.slice ao no co) (.slice ac nc cc)) 26
 obtain ⟨w2, gs, hw2, hgs, HX, HB2, HZ2⟩ := newBox w1 (cells10 sip shn (.slice so n1 sc) (.slice bo n2 bc) (.slice mo n3 mc) ou inn rd stt cd) 50
 have HB := Lib.hid (HB1.out.trans (HB2.out.mono HB1.out.size))
 have NE := Lib.hid (show W.heap.size = gt ∧ gt < gs from ⟨HZ1.out, by rw [← HZ2.out]; exact whole_lt HG.out⟩)
 have HG := Lib.hid (boxOn HG.out HB2.out)
 have HT := Lib.hid hT
 obtain ⟨lt, hlt⟩ : ∃ b, lightT t = b := ⟨_, rfl⟩
 obtain ⟨lb, hlb⟩ : ∃ b, lightB ⟨sip, shn, st, bk, me, ou, inn, rd, stt, cd⟩ = b := ⟨_, rfl⟩
 obtain ⟨rt, hrt⟩ : ∃ b, rightT t = b := ⟨_, rfl⟩
 rw [hlt] at C1
 rw [hlb] at C2
 rw [hrt] at C3
 have HLT := Lib.hid hlt
 have HLB := Lib.hid hlb
 have HRT := Lib.hid hrt
 clear hlt hlb hrt hT hi ho hc HB1 HB2 HZ1 HZ2

 cases lt with
 | false =>
  as_aux_lemma =>
  go_enter Tryz.func4, Tryz.ntmps4
  go_wp2_with (first
   | (refine ld_tr (by rfl) _ rfl gt rfl _ rfl HG.out ?_)
   | (refine ld_state (by rfl) _ rfl gs rfl _ _ HX.out rfl ?_)
   | (go_at_call 5; refine (C1.out _ HB.out).mono ?_; rintro e wn ⟨rfl, hb⟩; have HB := Lib.hid (HB.out.trans (hb.mono HB.out.size)); have HG := Lib.hid (boxOn HG.out hb); have HX := Lib.hid (boxOn HX.out hb); clear hb)
   | (go_at_call 26; refine (C2.out _ HB.out).mono ?_; rintro e wn ⟨rfl, hb⟩; have HB := Lib.hid (HB.out.trans (hb.mono HB.out.size)); have HG := Lib.hid (boxOn HG.out hb); have HX := Lib.hid (boxOn HX.out hb); clear hb)
   | (go_at_call 9; refine (C3.out _ HB.out HSM.out).mono ?_; rintro e wn ⟨rfl, hb⟩; have HB := Lib.hid (HB.out.trans (hb.mono HB.out.size)); have HG := Lib.hid (boxOn HG.out hb); have HX := Lib.hid (boxOn HX.out hb); clear hb)
   | (go_at_call 27; refine (C4.out _ HB.out).mono ?_; rintro e wn ⟨rfl, hb⟩; have HB := Lib.hid (HB.out.trans (hb.mono HB.out.size)); have HG := Lib.hid (boxOn HG.out hb); have HX := Lib.hid (boxOn HX.out hb); clear hb))
  go_ret
  exact ⟨rfl, HB.out⟩
 | true =>
 have HSM := Lib.hid (lightT_small HLT.out)
 cases lb with
 | false =>
  as_aux_lemma =>
  go_enter Tryz.func4, Tryz.ntmps4
  go_wp2_with (first
   | (refine ld_tr (by rfl) _ rfl gt rfl _ rfl HG.out ?_)
   | (refine ld_state (by rfl) _ rfl gs rfl _ _ HX.out rfl ?_)
   | (go_at_call 5; refine (C1.out _ HB.out).mono ?_; rintro e wn ⟨rfl, hb⟩; have HB := Lib.hid (HB.out.trans (hb.mono HB.out.size)); have HG := Lib.hid (boxOn HG.out hb); have HX := Lib.hid (boxOn HX.out hb); clear hb)
   | (go_at_call 26; refine (C2.out _ HB.out).mono ?_; rintro e wn ⟨rfl, hb⟩; have HB := Lib.hid (HB.out.trans (hb.mono HB.out.size)); have HG := Lib.hid (boxOn HG.out hb); have HX := Lib.hid (boxOn HX.out hb); clear hb)
   | (go_at_call 9; refine (C3.out _ HB.out HSM.out).mono ?_; rintro e wn ⟨rfl, hb⟩; have HB := Lib.hid (HB.out.trans (hb.mono HB.out.size)); have HG := Lib.hid (boxOn HG.out hb); have HX := Lib.hid (boxOn HX.out hb); clear hb)
   | (go_at_call 27; refine (C4.out _ HB.out).mono ?_; rintro e wn ⟨rfl, hb⟩; have HB := Lib.hid (HB.out.trans (hb.mono HB.out.size)); have HG := Lib.hid (boxOn HG.out hb); have HX := Lib.hid (boxOn HX.out hb); clear hb))
  go_ret
  exact ⟨rfl, HB.out⟩
 | true =>
 by_cases hw60 : 60 < nw
 ·have e60 : decide (60 < (nw : Int)) = true := decide_eq_true (by omega)
  as_aux_lemma =>
  go_enter Tryz.func4, Tryz.ntmps4
  go_wp2_with (first
   | (refine ld_tr (by rfl) _ rfl gt rfl _ rfl HG.out ?_)
   | (refine ld_state (by rfl) _ rfl gs rfl _ _ HX.out rfl ?_)
   | (go_at_call 5; refine (C1.out _ HB.out).mono ?_; rintro e wn ⟨rfl, hb⟩; have HB := Lib.hid (HB.out.trans (hb.mono HB.out.size)); have HG := Lib.hid (boxOn HG.out hb); have HX := Lib.hid (boxOn HX.out hb); clear hb)
   | (go_at_call 26; refine (C2.out _ HB.out).mono ?_; rintro e wn ⟨rfl, hb⟩; have HB := Lib.hid (HB.out.trans (hb.mono HB.out.size)); have HG := Lib.hid (boxOn HG.out hb); have HX := Lib.hid (boxOn HX.out hb); clear hb)
   | (go_at_call 9; refine (C3.out _ HB.out HSM.out).mono ?_; rintro e wn ⟨rfl, hb⟩; have HB := Lib.hid (HB.out.trans (hb.mono HB.out.size)); have HG := Lib.hid (boxOn HG.out hb); have HX := Lib.hid (boxOn HX.out hb); clear hb)
   | (go_at_call 27; refine (C4.out _ HB.out).mono ?_; rintro e wn ⟨rfl, hb⟩; have HB := Lib.hid (HB.out.trans (hb.mono HB.out.size)); have HG := Lib.hid (boxOn HG.out hb); have HX := Lib.hid (boxOn HX.out hb); clear hb))
  go_ret
  exact ⟨rfl, HB.out⟩
 have e60 : decide (60 < (nw : Int)) = false := decide_eq_false (by omega)
 cases rt with
 | false =>
  as_aux_lemma =>
  go_enter Tryz.func4, Tryz.ntmps4
  go_wp2_with (first
   | (refine ld_tr (by rfl) _ rfl gt rfl _ rfl HG.out ?_)
   | (refine ld_state (by rfl) _ rfl gs rfl _ _ HX.out rfl ?_)
   | (go_at_call 5; refine (C1.out _ HB.out).mono ?_; rintro e wn ⟨rfl, hb⟩; have HB := Lib.hid (HB.out.trans (hb.mono HB.out.size)); have HG := Lib.hid (boxOn HG.out hb); have HX := Lib.hid (boxOn HX.out hb); clear hb)
   | (go_at_call 26; refine (C2.out _ HB.out).mono ?_; rintro e wn ⟨rfl, hb⟩; have HB := Lib.hid (HB.out.trans (hb.mono HB.out.size)); have HG := Lib.hid (boxOn HG.out hb); have HX := Lib.hid (boxOn HX.out hb); clear hb)
   | (go_at_call 9; refine (C3.out _ HB.out HSM.out).mono ?_; rintro e wn ⟨rfl, hb⟩; have HB := Lib.hid (HB.out.trans (hb.mono HB.out.size)); have HG := Lib.hid (boxOn HG.out hb); have HX := Lib.hid (boxOn HX.out hb); clear hb)
   | (go_at_call 27; refine (C4.out _ HB.out).mono ?_; rintro e wn ⟨rfl, hb⟩; have HB := Lib.hid (HB.out.trans (hb.mono HB.out.size)); have HG := Lib.hid (boxOn HG.out hb); have HX := Lib.hid (boxOn HX.out hb); clear hb))
  go_ret
  exact ⟨rfl, HB.out⟩
 | true =>
 have HRI := Lib.hid ((lightB_iff _).1 HLB.out)
 have HLE := Lib.hid (show n1 ≤ 48 ∧ n2 ≤ 48 ∧ n3 ≤ 700 from by
  have r1 := HRI.out.2.2.stack
  have r2 := HRI.out.2.2.back
  have r3 := HRI.out.1
  have q := HN.out
  dsimp only at r1 r2 r3
  exact ⟨by omega, by omega, by omega⟩)
 have HRP := Lib.hid (show (0 ≤ t.slots ∧ t.slots ≤ 48) ∧ (0 ≤ t.grow ∧ t.grow ≤ 48) ∧ (0 ≤ t.backs ∧ t.backs ≤ 48) ∧ (0 ≤ t.growBack ∧ t.growBack ≤ 48) from by
  have h := HRT.out
  unfold rightT at h
  simp only [Bool.and_eq_true] at h
  obtain ⟨-, -, h, -⟩ := h
  obtain ⟨-, a, b, c, d⟩ := Ir.takes_all h
  exact ⟨a, b, c, d⟩)
 have HW60 := Lib.hid (show nw ≤ 60 from by omega)
 clear hw60
 obtain ⟨ip1, hip⟩ : ∃ x, (if at' = true then t.start else sip) = x := ⟨_, rfl⟩
 obtain ⟨st1, hst⟩ : ∃ x, (if at' = true then (0 : Int) else stt) = x := ⟨_, rfl⟩
 go_enter Tryz.func4, Tryz.ntmps4
 go_upto_if 44 with (first
   | (refine ld_tr (by rfl) _ rfl gt rfl _ rfl HG.out ?_)
   | (refine ld_state (by rfl) _ rfl gs rfl _ _ HX.out rfl ?_)
   | (go_at_call 5; refine (C1.out _ HB.out).mono ?_; rintro e wn ⟨rfl, hb⟩; have HB := Lib.hid (HB.out.trans (hb.mono HB.out.size)); have HG := Lib.hid (boxOn HG.out hb); have HX := Lib.hid (boxOn HX.out hb); clear hb)
   | (go_at_call 26; refine (C2.out _ HB.out).mono ?_; rintro e wn ⟨rfl, hb⟩; have HB := Lib.hid (HB.out.trans (hb.mono HB.out.size)); have HG := Lib.hid (boxOn HG.out hb); have HX := Lib.hid (boxOn HX.out hb); clear hb)
   | (go_at_call 9; refine (C3.out _ HB.out HSM.out).mono ?_; rintro e wn ⟨rfl, hb⟩; have HB := Lib.hid (HB.out.trans (hb.mono HB.out.size)); have HG := Lib.hid (boxOn HG.out hb); have HX := Lib.hid (boxOn HX.out hb); clear hb)
   | (go_at_call 27; refine (C4.out _ HB.out).mono ?_; rintro e wn ⟨rfl, hb⟩; have HB := Lib.hid (HB.out.trans (hb.mono HB.out.size)); have HG := Lib.hid (boxOn HG.out hb); have HX := Lib.hid (boxOn HX.out hb); clear hb))
 obtain ⟨w3, hw3⟩ : ∃ w3, w3 = wn := ⟨_, rfl⟩
 rw [← hw3] at HB HG HX ⊢
 clear hw3 C1 C2 C3 C4 e60
 go_cut [] (fun wx => Hid (wx.heap[gs]? = some (.cells (cells10 ip1 shn (.slice so n1 sc) (.slice bo n2 bc) (.slice mo n3 mc) ou inn rd st1 cd) 50 (0, 0))) ∧ Hid (wx.heap[gt]? = some (.cells (trA t (.slice ai ni ci) (.slice ao no co) (.slice ac nc cc)) 26 (0, 0))) ∧ Hid (Below W.heap.size W wx))
 case first =>
  cases at' with
  | false =>
   rw [if_neg (by decide)] at hip hst
   subst hip
   subst hst
   go_wp2_with fail
   go_meet
   exact ⟨HX, HG, HB⟩
  | true =>
   rw [if_pos rfl] at hip hst
   subst hip
   subst hst
   have c0 : w3.cell? ⟨gt, 0, none⟩ = some (.int .i64 t.start) := whole_cell HG.out rfl
   have d0 : w3.cell? ⟨gs, 0, none⟩ = some (.int .i64 sip) := whole_cell HX.out rfl
   have d8 : w3.cell? ⟨gs, 8, none⟩ = some (.int .i64 stt) := whole_cell HX.out rfl
   have f0 : w3.frozen? ⟨gs, 0, none⟩ = false := whole_frozen HX.out 0
   have h4 := whole_set HX.out 0 (.int .i64 t.start)
   have t4 := Stirred.setCell w3 ⟨gs, 0, none⟩ (.int .i64 t.start)
   obtain ⟨w4, hw4⟩ : ∃ w4, w3.setCell ⟨gs, 0, none⟩ (.int .i64 t.start) = w4 := ⟨_, rfl⟩
   rw [hw4] at h4 t4
   have h4 : w4.heap[gs]? = some (.cells (cells10 t.start shn (.slice so n1 sc) (.slice bo n2 bc) (.slice mo n3 mc) ou inn rd stt cd) 50 (0, 0)) := h4
   have f8 : w4.frozen? ⟨gs, 8, none⟩ = false := whole_frozen h4 8
   have d8' : w4.cell? ⟨gs, 8, none⟩ = some (.int .i64 stt) := whole_cell h4 rfl
   have h5 := whole_set h4 8 (.int .i64 0)
   have t5 := Stirred.setCell w4 ⟨gs, 8, none⟩ (.int .i64 0)
   obtain ⟨w5, hw5⟩ : ∃ w5, w4.setCell ⟨gs, 8, none⟩ (.int .i64 0) = w5 := ⟨_, rfl⟩
   rw [hw5] at h5 t5
   have HX5 := Lib.hid (show w5.heap[gs]? = some (.cells (cells10 t.start shn (.slice so n1 sc) (.slice bo n2 bc) (.slice mo n3 mc) ou inn rd 0 cd) 50 (0, 0)) from h5)
   have hgs : ∀ k ∈ [gs], W.heap.size ≤ k := fun k hk => by rw [List.mem_singleton.1 hk]; have := NE.out; omega
   have b4 := HB.out.trans (t4.below hgs HB.out.size)
   have HB5 := Lib.hid (b4.trans (t5.below hgs b4.size))
   have hgn : gt ∉ [gs] := fun hm => by have h1 := List.mem_singleton.1 hm; have := NE.out; omega
   have HG5 := Lib.hid (t5.whole (t4.whole HG.out hgn) hgn)
   clear h4 t4 h5 t5 hgs b4 hgn
   go_wp2_with fail
   go_meet
   exact ⟨HX5, HG5, HB5⟩
 case rest =>
  obtain ⟨HX, HG, HB⟩ := hcut
  obtain ⟨w5, hw5⟩ : ∃ z, z = wc := ⟨_, rfl⟩
  subst hw5
  have HB5 := HB
  have HG5 := HG
  have HX5 := HX
  clear HB HG HX
  have HLA := Lib.hid (lightT_all HLT.out)
  have HM5 := Lib.hid (show ReadsM w5 (stV ⟨ip1, shn, st, bk, me, ou, inn, rd, st1, cd⟩ (.slice so n1 sc) (.slice bo n2 bc) (.slice mo n3 mc)) ⟨ip1, shn, st, bk, me, ou, inn, rd, st1, cd⟩ from ⟨_, _, _, rfl, HRS.out.below HB5.out, HRB.out.below HB5.out, HRM.out.below HB5.out⟩)
  have HR5 := Lib.hid (HR.out.below HB5.out)
  have HW5 := Lib.hid (HW.out.below HB5.out)
  have CA := Lib.hid (fun (S : List Nat) wc (hb : Below w5.heap.size w5 wc) (hS : ∀ q ∈ S, w5.heap.size ≤ q ∧ q < wc.heap.size) => Ir.lentTraceQ_any S HR5.out hb hS (by have := HLA.out.1; omega) (by have := HLA.out.2.1; omega) (by have := HLA.out.2.2.1; omega) HSM.out)
  have CB := Lib.hid (fun wc (hb : Below w5.heap.size w5 wc) => lentState_any (HM5.out.below hb) (by show st.length ≤ 10000; rw [HN.out.1]; have := HLE.out.1; omega) (by show bk.length ≤ 10000; rw [HN.out.2.1]; have := HLE.out.2.1; omega) (by show me.length ≤ 10000; rw [HN.out.2.2]; have := HLE.out.2.2; omega))
  have CC := Lib.hid (fun wc (hb : Below w5.heap.size w5 wc) => lent_any (.slice aw nw cw) wl wc (HW5.out.below hb) (by rw [HNW.out]; have := HW60.out; omega))
  have KF := Lib.hid (fun (w' : World) (ha' : w'.heap[gt]? = some (.cells (trA t (.slice ai ni ci) (.slice ao no co) (.slice ac nc cc)) 26 (0, 0))) (hb' : w'.heap[gs]? = some (.cells (cells10 ip1 shn (.slice so n1 sc) (.slice bo n2 bc) (.slice mo n3 mc) ou inn rd st1 cd) 50 (0, 0))) => show w'.cell? ⟨gt, 0, none⟩ = some (.int .i64 t.start) ∧ w'.cell? ⟨gt, 1, none⟩ = some (.int .i64 t.slots) ∧ w'.cell? ⟨gt, 2, none⟩ = some (.int .i64 t.backs) ∧ w'.cell? ⟨gt, 3, none⟩ = some (.int .i64 t.grow) ∧ w'.cell? ⟨gt, 4, none⟩ = some (.int .i64 t.growBack) ∧ w'.cell? ⟨gt, 5, none⟩ = some (.slice ai ni ci) ∧ w'.cell? ⟨gt, 6, none⟩ = some (.slice ao no co) ∧ w'.cell? ⟨gt, 7, none⟩ = some (.int .i64 t.last) ∧ w'.cell? ⟨gt, 8, none⟩ = some (.slice ac nc cc) ∧ w'.cell? ⟨gs, 0, none⟩ = some (.int .i64 ip1) ∧ w'.cell? ⟨gs, 1, none⟩ = some (.int .i64 shn) ∧ w'.cell? ⟨gs, 2, none⟩ = some (.slice so n1 sc) ∧ w'.cell? ⟨gs, 3, none⟩ = some (.slice bo n2 bc) ∧ w'.cell? ⟨gs, 4, none⟩ = some (.slice mo n3 mc) ∧ w'.cell? ⟨gs, 5, none⟩ = some (.string ou) ∧ w'.cell? ⟨gs, 6, none⟩ = some (.string inn) ∧ w'.cell? ⟨gs, 7, none⟩ = some (.int .i64 rd) ∧ w'.cell? ⟨gs, 8, none⟩ = some (.int .i64 st1) ∧ w'.cell? ⟨gs, 9, none⟩ = some (.int .i64 cd) from ⟨whole_cell ha' rfl, whole_cell ha' rfl, whole_cell ha' rfl, whole_cell ha' rfl, whole_cell ha' rfl, whole_cell ha' rfl, whole_cell ha' rfl, whole_cell ha' rfl, whole_cell ha' rfl, whole_cell hb' rfl, whole_cell hb' rfl, whole_cell hb' rfl, whole_cell hb' rfl, whole_cell hb' rfl, whole_cell hb' rfl, whole_cell hb' rfl, whole_cell hb' rfl, whole_cell hb' rfl, whole_cell hb' rfl⟩)
  have NG5 := Lib.hid (show gt < w5.heap.size ∧ gs < w5.heap.size from ⟨whole_lt HG5.out, whole_lt HX5.out⟩)
  go_upto_region 5 with fail
  go_cut [9, 10, 11] (fun x y z wx => ∃ g9 g10 ui uo uc vs vb vm vw, x = .pointer (some ⟨g9, 0, none⟩) ∧ y = .pointer (some ⟨g10, 0, none⟩) ∧ z = vw ∧ Hid (P5 w5 wx t ⟨ip1, shn, st, bk, me, ou, inn, rd, st1, cd⟩ wl g9 g10 ui uo uc vs vb vm vw))
  case first =>
   have HBX : Hid (Below w5.heap.size w5 w5.drew) := Lib.hid (Below.refl _ _).drew
   have HGX := Lib.hid (boxOn HG5.out HBX.out)
   have HSX := Lib.hid (boxOn HX5.out HBX.out)
   have KX := Lib.hid (KF.out _ HGX.out HSX.out)
   refine wp_region_held (S := fun w' => w'.cell? ⟨gt, 0, none⟩ = some (.int .i64 t.start) ∧ w'.cell? ⟨gt, 1, none⟩ = some (.int .i64 t.slots) ∧ w'.cell? ⟨gt, 2, none⟩ = some (.int .i64 t.backs) ∧ w'.cell? ⟨gt, 3, none⟩ = some (.int .i64 t.grow) ∧ w'.cell? ⟨gt, 4, none⟩ = some (.int .i64 t.growBack) ∧ w'.cell? ⟨gt, 5, none⟩ = some (.slice ai ni ci) ∧ w'.cell? ⟨gt, 6, none⟩ = some (.slice ao no co) ∧ w'.cell? ⟨gt, 7, none⟩ = some (.int .i64 t.last) ∧ w'.cell? ⟨gt, 8, none⟩ = some (.slice ac nc cc) ∧ w'.cell? ⟨gs, 0, none⟩ = some (.int .i64 ip1) ∧ w'.cell? ⟨gs, 1, none⟩ = some (.int .i64 shn) ∧ w'.cell? ⟨gs, 2, none⟩ = some (.slice so n1 sc) ∧ w'.cell? ⟨gs, 3, none⟩ = some (.slice bo n2 bc) ∧ w'.cell? ⟨gs, 4, none⟩ = some (.slice mo n3 mc) ∧ w'.cell? ⟨gs, 5, none⟩ = some (.string ou) ∧ w'.cell? ⟨gs, 6, none⟩ = some (.string inn) ∧ w'.cell? ⟨gs, 7, none⟩ = some (.int .i64 rd) ∧ w'.cell? ⟨gs, 8, none⟩ = some (.int .i64 st1) ∧ w'.cell? ⟨gs, 9, none⟩ = some (.int .i64 cd)) (by kernel_rfl) ?_
   change wpAnyH _ _ _ _ _ _ _ _ (World.drew w5)
   refine wpAnyH_take (i := 0) (oi := ⟨some 49, _, _, _, _, _⟩) (v := ?_) rfl (by kernel_rfl) (by kernel_rfl) (by kernel_rfl) (fun _ _ _ h => h) (Or.inl ⟨by rfl, ?_⟩) KX.out ?_; rotate_left; · intro w hSw; (try dsimp only at hSw); go_simp; try with_reducible rfl
   try simp only [Act.put, sx1, sx2, sx3]
   refine wpAnyH_take (i := 2) (oi := ⟨some 51, _, _, _, _, _⟩) (v := ?_) rfl (by kernel_rfl) (by kernel_rfl) (by kernel_rfl) (fun _ _ _ h => h) (Or.inl ⟨by rfl, ?_⟩) KX.out ?_; rotate_left; · intro w hSw; (try dsimp only at hSw); go_simp; try with_reducible rfl
   try simp only [Act.put, sx1, sx2, sx3]
   refine wpAnyH_take (i := 4) (oi := ⟨some 53, _, _, _, _, _⟩) (v := ?_) rfl (by kernel_rfl) (by kernel_rfl) (by kernel_rfl) (fun _ _ _ h => h) (Or.inl ⟨by rfl, ?_⟩) KX.out ?_; rotate_left; · intro w hSw; (try dsimp only at hSw); go_simp; try with_reducible rfl
   try simp only [Act.put, sx1, sx2, sx3]
   refine wpAnyH_ready (rs := [1, 6, 7]) (by kernel_rfl) (by simp) ?_
   refine AllReadyH.cons rfl (fun K hK => ?_) ?_
   ·go_simp
    go_at_call 7
    refine (CA.out [] _ HBX.out (fun q hq => by cases hq)).mono ?_
    rintro e wn ⟨v1, rfl, hl, hb⟩
    try have HL1 := Lib.hid (HL1.out.below hb)
    try have HL2 := Lib.hid (HL2.out.below hb)
    try have HL3 := Lib.hid (Mach.Lent.below HL3.out hb)
    try have A9 := Lib.hid (boxOn A9.out hb)
    try have A10 := Lib.hid (boxOn A10.out hb)
    have HBX := Lib.hid (HBX.out.trans (hb.mono HBX.out.size))
    have HGX := Lib.hid (boxOn HGX.out hb)
    have HSX := Lib.hid (boxOn HSX.out hb)
    have KX := Lib.hid (KF.out _ HGX.out HSX.out)
    have HL1 := Lib.hid hl
    have HV1 := Lib.hid (tq_form hl)
    clear hl hb
    try dsimp only
    go_wp2_with fail
    refine hK.out _ _ KX.out (fun hHeld => ?_)
    clear hK K hHeld
    try simp only [Act.put, sx1, sx2, sx3]
    refine wpAnyH_ready (rs := [3, 6, 7]) (by kernel_rfl) (by simp) ?_
    refine AllReadyH.cons rfl (fun K hK => ?_) ?_
    ·go_simp
     go_at_call 28
     refine (CB.out _ HBX.out).mono ?_
     rintro e wn ⟨v2, rfl, hl, hb⟩
     try have HL1 := Lib.hid (HL1.out.below hb)
     try have HL2 := Lib.hid (HL2.out.below hb)
     try have HL3 := Lib.hid (Mach.Lent.below HL3.out hb)
     try have A9 := Lib.hid (boxOn A9.out hb)
     try have A10 := Lib.hid (boxOn A10.out hb)
     have HBX := Lib.hid (HBX.out.trans (hb.mono HBX.out.size))
     have HGX := Lib.hid (boxOn HGX.out hb)
     have HSX := Lib.hid (boxOn HSX.out hb)
     have KX := Lib.hid (KF.out _ HGX.out HSX.out)
     have HL2 := Lib.hid hl
     clear hl hb
     try dsimp only
     go_wp2_with fail
     refine hK.out _ _ KX.out (fun hHeld => ?_)
     clear hK K hHeld
     try simp only [Act.put, sx1, sx2, sx3]
     refine wpAnyH_ready (rs := [5, 6, 7]) (by kernel_rfl) (by simp) ?_
     refine AllReadyH.cons rfl (fun K hK => ?_) ?_
     ·go_simp
      go_at_call 29
      refine (CC.out _ HBX.out).mono ?_
      rintro e wn ⟨gw, kw, rfl, hl, hb⟩
      try have HL1 := Lib.hid (HL1.out.below hb)
      try have HL2 := Lib.hid (HL2.out.below hb)
      try have HL3 := Lib.hid (Mach.Lent.below HL3.out hb)
      try have A9 := Lib.hid (boxOn A9.out hb)
      try have A10 := Lib.hid (boxOn A10.out hb)
      have HBX := Lib.hid (HBX.out.trans (hb.mono HBX.out.size))
      have HGX := Lib.hid (boxOn HGX.out hb)
      have HSX := Lib.hid (boxOn HSX.out hb)
      have KX := Lib.hid (KF.out _ HGX.out HSX.out)
      have HL3 := Lib.hid hl
      clear hl hb
      try dsimp only
      go_wp2_with fail
      refine hK.out _ _ KX.out (fun hHeld => ?_)
      clear hK K hHeld
      try simp only [Act.put, sx1, sx2, sx3]
      refine wpAnyH_ready (rs := [6, 7]) (by kernel_rfl) (by simp) ?_
      refine AllReadyH.cons rfl (fun K hK => ?_) ?_
      ·refine step_alloc_tr (by rfl) rfl ?_
       intro g9 wn hg hnew hb
       have N9 := Lib.hid (show w5.heap.size ≤ g9 by rw [← hg]; exact HBX.out.size)
       have HL1n := Lib.hid (HL1.out.add hb (Nat.le_of_eq hg))
       try have HL1 := Lib.hid (HL1.out.below hb)
       try have HL2 := Lib.hid (HL2.out.below hb)
       try have HL3 := Lib.hid (Mach.Lent.below HL3.out hb)
       try have A9 := Lib.hid (boxOn A9.out hb)
       try have A10 := Lib.hid (boxOn A10.out hb)
       have HBX := Lib.hid (HBX.out.trans (hb.mono HBX.out.size))
       have HGX := Lib.hid (boxOn HGX.out hb)
       have HSX := Lib.hid (boxOn HSX.out hb)
       have KX := Lib.hid (KF.out _ HGX.out HSX.out)
       have HL1 := HL1n
       have A9 := Lib.hid hnew
       clear hg hnew hb
       refine hK.out _ _ KX.out (fun hHeld => ?_)
       clear hK K hHeld
       try simp only [Act.put, sx1, sx2, sx3]
       refine wpAnyH_ready (rs := [7]) (by kernel_rfl) (by simp) ?_
       refine AllReadyH.cons rfl (fun K hK => ?_) ?_
       ·refine Mach.step_alloc_state (by rfl) rfl ?_
        intro g10 wn hg hnew hb
        have N10 := Lib.hid (show w5.heap.size ≤ g10 by rw [← hg]; exact HBX.out.size)
        have NE := Lib.hid (show g9 ≠ g10 by have h := whole_lt A9.out; omega)
        have HL1n := Lib.hid (HL1.out.add hb (Nat.le_of_eq hg))
        try have HL1 := Lib.hid (HL1.out.below hb)
        try have HL2 := Lib.hid (HL2.out.below hb)
        try have HL3 := Lib.hid (Mach.Lent.below HL3.out hb)
        try have A9 := Lib.hid (boxOn A9.out hb)
        try have A10 := Lib.hid (boxOn A10.out hb)
        have HBX := Lib.hid (HBX.out.trans (hb.mono HBX.out.size))
        have HGX := Lib.hid (boxOn HGX.out hb)
        have HSX := Lib.hid (boxOn HSX.out hb)
        have KX := Lib.hid (KF.out _ HGX.out HSX.out)
        have HL1 := HL1n
        have A10 := Lib.hid hnew
        clear hg hnew hb
        refine hK.out _ _ KX.out (fun hHeld => ?_)
        clear hK K hHeld
        try simp only [Act.put, sx1, sx2, sx3]
        obtain ⟨ui, uo, uc, hv1, o1, o2, o3⟩ := HV1.out
        subst hv1
        obtain ⟨s1, k1, s2, k2, s3, k3, hv2, hl1, hl2, hl3⟩ := id HL2.out
        subst hv2
        refine wpAnyH_ready (rs := [8]) (by kernel_rfl) (by simp) ?_
        refine AllReadyH.cons rfl (fun K hK => ?_) ?_
        ·refine step_st_tr (by rfl) _ _ rfl g9 _ rfl rfl _ A9.out rfl rfl (tr_one o1 o2 o3) ?_
         intro wp h9 ht
         have HL1p := Lib.hid (HL1.out.touch ht (by simp))
         have HL2p := Lib.hid (LentM.box HL2.out ht A9.out (by decide))
         have HL3p := Lib.hid (Lent.box HL3.out ht A9.out (by decide))
         have A10p := Lib.hid (ht.whole A10.out (fun hm => NE.out (List.mem_singleton.1 hm).symm))
         have HBXp := Lib.hid (HBX.out.trans (ht.below (fun k hk => by rw [List.mem_singleton.1 hk]; exact N9.out) HBX.out.size))
         have HGX := Lib.hid (ht.whole HGX.out (fun hm => by have h1 := List.mem_singleton.1 hm; have h2 := N9.out; have h3 := NG5.out; omega))
         have HSX := Lib.hid (ht.whole HSX.out (fun hm => by have h1 := List.mem_singleton.1 hm; have h2 := N9.out; have h3 := NG5.out; omega))
         have KX := Lib.hid (KF.out _ HGX.out HSX.out)
         have A9p := Lib.hid h9
         clear ht h9
         refine hK.out _ _ KX.out (fun hHeld => ?_)
         clear hK K hHeld
         try simp only [Act.put, sx1, sx2, sx3]
         refine wpAnyH_ready (rs := [9]) (by kernel_rfl) (by simp) ?_
         refine AllReadyH.cons rfl (fun K hK => ?_) ?_
         ·refine Mach.step_st_state (by rfl) _ _ rfl g10 _ rfl rfl _ A10p.out rfl rfl (all_one rfl rfl rfl) ?_
          intro wq h10 ht
          have HP5 := Lib.hid (show P5 w5 wq t ⟨ip1, shn, st, bk, me, ou, inn, rd, st1, cd⟩ wl g9 g10 ui uo uc _ _ _ _ from ⟨_, _, _, gw, kw, ht.whole A9p.out (fun hm => NE.out (List.mem_singleton.1 hm)), h10, (HL1p.out.touch ht (by simp)).t, LentM.box HL2p.out ht A10p.out (by decide), rfl, Lent.box HL3p.out ht A10p.out (by decide), HBXp.out.trans (ht.below (fun k hk => by rw [List.mem_singleton.1 hk]; exact N10.out) HBXp.out.size)⟩)
          have HGX := Lib.hid (ht.whole HGX.out (fun hm => by have h1 := List.mem_singleton.1 hm; have h2 := N10.out; have h3 := NG5.out; omega))
          have HSX := Lib.hid (ht.whole HSX.out (fun hm => by have h1 := List.mem_singleton.1 hm; have h2 := N10.out; have h3 := NG5.out; omega))
          have KX := Lib.hid (KF.out _ HGX.out HSX.out)
          clear ht h10
          refine hK.out _ _ KX.out (fun hHeld => ?_)
          clear hK K hHeld
          try simp only [Act.put, sx1, sx2, sx3]
          refine wpAnyH_take (i := 10) (oi := ⟨some 11, _, _, _, _, _⟩) (v := ?_) rfl (by kernel_rfl) (by kernel_rfl) (by kernel_rfl) (fun _ _ _ h => h) (Or.inl ⟨by rfl, ?_⟩) KX.out ?_; rotate_left; · intro w hSw; (try dsimp only at hSw); go_simp; try with_reducible rfl
          try simp only [Act.put, sx1, sx2, sx3]
          refine wpAnyH_done (by kernel_rfl) ?_ _
          go_wp2_with fail
          go_meet
          exact ⟨_, _, _, _, _, _, _, _, _, rfl, rfl, rfl, HP5⟩
         ·exact AllReadyH.nil
        ·exact AllReadyH.nil
       exact AllReadyH.nil
      refine AllReadyH.cons rfl (fun K hK => ?_) ?_
      ·refine Mach.step_alloc_state (by rfl) rfl ?_
       intro g10 wn hg hnew hb
       have N10 := Lib.hid (show w5.heap.size ≤ g10 by rw [← hg]; exact HBX.out.size)
       have HL1n := Lib.hid (HL1.out.add hb (Nat.le_of_eq hg))
       try have HL1 := Lib.hid (HL1.out.below hb)
       try have HL2 := Lib.hid (HL2.out.below hb)
       try have HL3 := Lib.hid (Mach.Lent.below HL3.out hb)
       try have A9 := Lib.hid (boxOn A9.out hb)
       try have A10 := Lib.hid (boxOn A10.out hb)
       have HBX := Lib.hid (HBX.out.trans (hb.mono HBX.out.size))
       have HGX := Lib.hid (boxOn HGX.out hb)
       have HSX := Lib.hid (boxOn HSX.out hb)
       have KX := Lib.hid (KF.out _ HGX.out HSX.out)
       have HL1 := HL1n
       have A10 := Lib.hid hnew
       clear hg hnew hb
       refine hK.out _ _ KX.out (fun hHeld => ?_)
       clear hK K hHeld
       try simp only [Act.put, sx1, sx2, sx3]
       refine wpAnyH_ready (rs := [6]) (by kernel_rfl) (by simp) ?_
       refine AllReadyH.cons rfl (fun K hK => ?_) ?_
       ·refine step_alloc_tr (by rfl) rfl ?_
        intro g9 wn hg hnew hb
        have N9 := Lib.hid (show w5.heap.size ≤ g9 by rw [← hg]; exact HBX.out.size)
        have NE := Lib.hid (show g9 ≠ g10 by have h := whole_lt A10.out; omega)
        have HL1n := Lib.hid (HL1.out.add hb (Nat.le_of_eq hg))
        try have HL1 := Lib.hid (HL1.out.below hb)
        try have HL2 := Lib.hid (HL2.out.below hb)
        try have HL3 := Lib.hid (Mach.Lent.below HL3.out hb)
        try have A9 := Lib.hid (boxOn A9.out hb)
        try have A10 := Lib.hid (boxOn A10.out hb)
        have HBX := Lib.hid (HBX.out.trans (hb.mono HBX.out.size))
        have HGX := Lib.hid (boxOn HGX.out hb)
        have HSX := Lib.hid (boxOn HSX.out hb)
        have KX := Lib.hid (KF.out _ HGX.out HSX.out)
        have HL1 := HL1n
        have A9 := Lib.hid hnew
        clear hg hnew hb
        refine hK.out _ _ KX.out (fun hHeld => ?_)
        clear hK K hHeld
        try simp only [Act.put, sx1, sx2, sx3]
        obtain ⟨ui, uo, uc, hv1, o1, o2, o3⟩ := HV1.out
        subst hv1
        obtain ⟨s1, k1, s2, k2, s3, k3, hv2, hl1, hl2, hl3⟩ := id HL2.out
        subst hv2
        refine wpAnyH_ready (rs := [8]) (by kernel_rfl) (by simp) ?_
        refine AllReadyH.cons rfl (fun K hK => ?_) ?_
        ·refine step_st_tr (by rfl) _ _ rfl g9 _ rfl rfl _ A9.out rfl rfl (tr_one o1 o2 o3) ?_
         intro wp h9 ht
         have HL1p := Lib.hid (HL1.out.touch ht (by simp))
         have HL2p := Lib.hid (LentM.box HL2.out ht A9.out (by decide))
         have HL3p := Lib.hid (Lent.box HL3.out ht A9.out (by decide))
         have A10p := Lib.hid (ht.whole A10.out (fun hm => NE.out (List.mem_singleton.1 hm).symm))
         have HBXp := Lib.hid (HBX.out.trans (ht.below (fun k hk => by rw [List.mem_singleton.1 hk]; exact N9.out) HBX.out.size))
         have HGX := Lib.hid (ht.whole HGX.out (fun hm => by have h1 := List.mem_singleton.1 hm; have h2 := N9.out; have h3 := NG5.out; omega))
         have HSX := Lib.hid (ht.whole HSX.out (fun hm => by have h1 := List.mem_singleton.1 hm; have h2 := N9.out; have h3 := NG5.out; omega))
         have KX := Lib.hid (KF.out _ HGX.out HSX.out)
         have A9p := Lib.hid h9
         clear ht h9
         refine hK.out _ _ KX.out (fun hHeld => ?_)
         clear hK K hHeld
         try simp only [Act.put, sx1, sx2, sx3]
         refine wpAnyH_ready (rs := [9]) (by kernel_rfl) (by simp) ?_
         refine AllReadyH.cons rfl (fun K hK => ?_) ?_
         ·refine Mach.step_st_state (by rfl) _ _ rfl g10 _ rfl rfl _ A10p.out rfl rfl (all_one rfl rfl rfl) ?_
          intro wq h10 ht
          have HP5 := Lib.hid (show P5 w5 wq t ⟨ip1, shn, st, bk, me, ou, inn, rd, st1, cd⟩ wl g9 g10 ui uo uc _ _ _ _ from ⟨_, _, _, gw, kw, ht.whole A9p.out (fun hm => NE.out (List.mem_singleton.1 hm)), h10, (HL1p.out.touch ht (by simp)).t, LentM.box HL2p.out ht A10p.out (by decide), rfl, Lent.box HL3p.out ht A10p.out (by decide), HBXp.out.trans (ht.below (fun k hk => by rw [List.mem_singleton.1 hk]; exact N10.out) HBXp.out.size)⟩)
          have HGX := Lib.hid (ht.whole HGX.out (fun hm => by have h1 := List.mem_singleton.1 hm; have h2 := N10.out; have h3 := NG5.out; omega))
          have HSX := Lib.hid (ht.whole HSX.out (fun hm => by have h1 := List.mem_singleton.1 hm; have h2 := N10.out; have h3 := NG5.out; omega))
          have KX := Lib.hid (KF.out _ HGX.out HSX.out)
          clear ht h10
          refine hK.out _ _ KX.out (fun hHeld => ?_)
          clear hK K hHeld
          try simp only [Act.put, sx1, sx2, sx3]
          refine wpAnyH_take (i := 10) (oi := ⟨some 11, _, _, _, _, _⟩) (v := ?_) rfl (by kernel_rfl) (by kernel_rfl) (by kernel_rfl) (fun _ _ _ h => h) (Or.inl ⟨by rfl, ?_⟩) KX.out ?_; rotate_left; · intro w hSw; (try dsimp only at hSw); go_simp; try with_reducible rfl
          try simp only [Act.put, sx1, sx2, sx3]
          refine wpAnyH_done (by kernel_rfl) ?_ _
          go_wp2_with fail
          go_meet
          exact ⟨_, _, _, _, _, _, _, _, _, rfl, rfl, rfl, HP5⟩
         ·exact AllReadyH.nil
        ·exact AllReadyH.nil
       exact AllReadyH.nil
      exact AllReadyH.nil
     refine AllReadyH.cons rfl (fun K hK => ?_) ?_
     ·refine step_alloc_tr (by rfl) rfl ?_
      intro g9 wn hg hnew hb
      have N9 := Lib.hid (show w5.heap.size ≤ g9 by rw [← hg]; exact HBX.out.size)
      have HL1n := Lib.hid (HL1.out.add hb (Nat.le_of_eq hg))
      try have HL1 := Lib.hid (HL1.out.below hb)
      try have HL2 := Lib.hid (HL2.out.below hb)
      try have HL3 := Lib.hid (Mach.Lent.below HL3.out hb)
      try have A9 := Lib.hid (boxOn A9.out hb)
      try have A10 := Lib.hid (boxOn A10.out hb)
      have HBX := Lib.hid (HBX.out.trans (hb.mono HBX.out.size))
      have HGX := Lib.hid (boxOn HGX.out hb)
      have HSX := Lib.hid (boxOn HSX.out hb)
      have KX := Lib.hid (KF.out _ HGX.out HSX.out)
      have HL1 := HL1n
      have A9 := Lib.hid hnew
      clear hg hnew hb
      refine hK.out _ _ KX.out (fun hHeld => ?_)
      clear hK K hHeld
      try simp only [Act.put, sx1, sx2, sx3]
      refine wpAnyH_ready (rs := [5, 7]) (by kernel_rfl) (by simp) ?_
      refine AllReadyH.cons rfl (fun K hK => ?_) ?_
      ·go_simp
       go_at_call 29
       refine (CC.out _ HBX.out).mono ?_
       rintro e wn ⟨gw, kw, rfl, hl, hb⟩
       try have HL1 := Lib.hid (HL1.out.below hb)
       try have HL2 := Lib.hid (HL2.out.below hb)
       try have HL3 := Lib.hid (Mach.Lent.below HL3.out hb)
       try have A9 := Lib.hid (boxOn A9.out hb)
       try have A10 := Lib.hid (boxOn A10.out hb)
       have HBX := Lib.hid (HBX.out.trans (hb.mono HBX.out.size))
       have HGX := Lib.hid (boxOn HGX.out hb)
       have HSX := Lib.hid (boxOn HSX.out hb)
       have KX := Lib.hid (KF.out _ HGX.out HSX.out)
       have HL3 := Lib.hid hl
       clear hl hb
       try dsimp only
       go_wp2_with fail
       refine hK.out _ _ KX.out (fun hHeld => ?_)
       clear hK K hHeld
       try simp only [Act.put, sx1, sx2, sx3]
       refine wpAnyH_ready (rs := [7]) (by kernel_rfl) (by simp) ?_
       refine AllReadyH.cons rfl (fun K hK => ?_) ?_
       ·refine Mach.step_alloc_state (by rfl) rfl ?_
        intro g10 wn hg hnew hb
        have N10 := Lib.hid (show w5.heap.size ≤ g10 by rw [← hg]; exact HBX.out.size)
        have NE := Lib.hid (show g9 ≠ g10 by have h := whole_lt A9.out; omega)
        have HL1n := Lib.hid (HL1.out.add hb (Nat.le_of_eq hg))
        try have HL1 := Lib.hid (HL1.out.below hb)
        try have HL2 := Lib.hid (HL2.out.below hb)
        try have HL3 := Lib.hid (Mach.Lent.below HL3.out hb)
        try have A9 := Lib.hid (boxOn A9.out hb)
        try have A10 := Lib.hid (boxOn A10.out hb)
        have HBX := Lib.hid (HBX.out.trans (hb.mono HBX.out.size))
        have HGX := Lib.hid (boxOn HGX.out hb)
        have HSX := Lib.hid (boxOn HSX.out hb)
        have KX := Lib.hid (KF.out _ HGX.out HSX.out)
        have HL1 := HL1n
        have A10 := Lib.hid hnew
        clear hg hnew hb
        refine hK.out _ _ KX.out (fun hHeld => ?_)
        clear hK K hHeld
        try simp only [Act.put, sx1, sx2, sx3]
        obtain ⟨ui, uo, uc, hv1, o1, o2, o3⟩ := HV1.out
        subst hv1
        obtain ⟨s1, k1, s2, k2, s3, k3, hv2, hl1, hl2, hl3⟩ := id HL2.out
        subst hv2
        refine wpAnyH_ready (rs := [8]) (by kernel_rfl) (by simp) ?_
        refine AllReadyH.cons rfl (fun K hK => ?_) ?_
        ·refine step_st_tr (by rfl) _ _ rfl g9 _ rfl rfl _ A9.out rfl rfl (tr_one o1 o2 o3) ?_
         intro wp h9 ht
         have HL1p := Lib.hid (HL1.out.touch ht (by simp))
         have HL2p := Lib.hid (LentM.box HL2.out ht A9.out (by decide))
         have HL3p := Lib.hid (Lent.box HL3.out ht A9.out (by decide))
         have A10p := Lib.hid (ht.whole A10.out (fun hm => NE.out (List.mem_singleton.1 hm).symm))
         have HBXp := Lib.hid (HBX.out.trans (ht.below (fun k hk => by rw [List.mem_singleton.1 hk]; exact N9.out) HBX.out.size))
         have HGX := Lib.hid (ht.whole HGX.out (fun hm => by have h1 := List.mem_singleton.1 hm; have h2 := N9.out; have h3 := NG5.out; omega))
         have HSX := Lib.hid (ht.whole HSX.out (fun hm => by have h1 := List.mem_singleton.1 hm; have h2 := N9.out; have h3 := NG5.out; omega))
         have KX := Lib.hid (KF.out _ HGX.out HSX.out)
         have A9p := Lib.hid h9
         clear ht h9
         refine hK.out _ _ KX.out (fun hHeld => ?_)
         clear hK K hHeld
         try simp only [Act.put, sx1, sx2, sx3]
         refine wpAnyH_ready (rs := [9]) (by kernel_rfl) (by simp) ?_
         refine AllReadyH.cons rfl (fun K hK => ?_) ?_
         ·refine Mach.step_st_state (by rfl) _ _ rfl g10 _ rfl rfl _ A10p.out rfl rfl (all_one rfl rfl rfl) ?_
          intro wq h10 ht
          have HP5 := Lib.hid (show P5 w5 wq t ⟨ip1, shn, st, bk, me, ou, inn, rd, st1, cd⟩ wl g9 g10 ui uo uc _ _ _ _ from ⟨_, _, _, gw, kw, ht.whole A9p.out (fun hm => NE.out (List.mem_singleton.1 hm)), h10, (HL1p.out.touch ht (by simp)).t, LentM.box HL2p.out ht A10p.out (by decide), rfl, Lent.box HL3p.out ht A10p.out (by decide), HBXp.out.trans (ht.below (fun k hk => by rw [List.mem_singleton.1 hk]; exact N10.out) HBXp.out.size)⟩)
          have HGX := Lib.hid (ht.whole HGX.out (fun hm => by have h1 := List.mem_singleton.1 hm; have h2 := N10.out; have h3 := NG5.out; omega))
          have HSX := Lib.hid (ht.whole HSX.out (fun hm => by have h1 := List.mem_singleton.1 hm; have h2 := N10.out; have h3 := NG5.out; omega))
          have KX := Lib.hid (KF.out _ HGX.out HSX.out)
          clear ht h10
          refine hK.out _ _ KX.out (fun hHeld => ?_)
          clear hK K hHeld
          try simp only [Act.put, sx1, sx2, sx3]
          refine wpAnyH_take (i := 10) (oi := ⟨some 11, _, _, _, _, _⟩) (v := ?_) rfl (by kernel_rfl) (by kernel_rfl) (by kernel_rfl) (fun _ _ _ h => h) (Or.inl ⟨by rfl, ?_⟩) KX.out ?_; rotate_left; · intro w hSw; (try dsimp only at hSw); go_simp; try with_reducible rfl
          try simp only [Act.put, sx1, sx2, sx3]
          refine wpAnyH_done (by kernel_rfl) ?_ _
          go_wp2_with fail
          go_meet
          exact ⟨_, _, _, _, _, _, _, _, _, rfl, rfl, rfl, HP5⟩
         ·exact AllReadyH.nil
        ·exact AllReadyH.nil
       exact AllReadyH.nil
      refine AllReadyH.cons rfl (fun K hK => ?_) ?_
      ·refine Mach.step_alloc_state (by rfl) rfl ?_
       intro g10 wn hg hnew hb
       have N10 := Lib.hid (show w5.heap.size ≤ g10 by rw [← hg]; exact HBX.out.size)
       have NE := Lib.hid (show g9 ≠ g10 by have h := whole_lt A9.out; omega)
       have HL1n := Lib.hid (HL1.out.add hb (Nat.le_of_eq hg))
       try have HL1 := Lib.hid (HL1.out.below hb)
       try have HL2 := Lib.hid (HL2.out.below hb)
       try have HL3 := Lib.hid (Mach.Lent.below HL3.out hb)
       try have A9 := Lib.hid (boxOn A9.out hb)
       try have A10 := Lib.hid (boxOn A10.out hb)
       have HBX := Lib.hid (HBX.out.trans (hb.mono HBX.out.size))
       have HGX := Lib.hid (boxOn HGX.out hb)
       have HSX := Lib.hid (boxOn HSX.out hb)
       have KX := Lib.hid (KF.out _ HGX.out HSX.out)
       have HL1 := HL1n
       have A10 := Lib.hid hnew
       clear hg hnew hb
       refine hK.out _ _ KX.out (fun hHeld => ?_)
       clear hK K hHeld
       try simp only [Act.put, sx1, sx2, sx3]
       refine wpAnyH_ready (rs := [5]) (by kernel_rfl) (by simp) ?_
       refine AllReadyH.cons rfl (fun K hK => ?_) ?_
       ·go_simp
        go_at_call 29
        refine (CC.out _ HBX.out).mono ?_
        rintro e wn ⟨gw, kw, rfl, hl, hb⟩
        try have HL1 := Lib.hid (HL1.out.below hb)
        try have HL2 := Lib.hid (HL2.out.below hb)
        try have HL3 := Lib.hid (Mach.Lent.below HL3.out hb)
        try have A9 := Lib.hid (boxOn A9.out hb)
        try have A10 := Lib.hid (boxOn A10.out hb)
        have HBX := Lib.hid (HBX.out.trans (hb.mono HBX.out.size))
        have HGX := Lib.hid (boxOn HGX.out hb)
        have HSX := Lib.hid (boxOn HSX.out hb)
        have KX := Lib.hid (KF.out _ HGX.out HSX.out)
        have HL3 := Lib.hid hl
        clear hl hb
        try dsimp only
        go_wp2_with fail
        refine hK.out _ _ KX.out (fun hHeld => ?_)
        clear hK K hHeld
        try simp only [Act.put, sx1, sx2, sx3]
        obtain ⟨ui, uo, uc, hv1, o1, o2, o3⟩ := HV1.out
        subst hv1
        obtain ⟨s1, k1, s2, k2, s3, k3, hv2, hl1, hl2, hl3⟩ := id HL2.out
        subst hv2
        refine wpAnyH_ready (rs := [8]) (by kernel_rfl) (by simp) ?_
        refine AllReadyH.cons rfl (fun K hK => ?_) ?_
        ·refine step_st_tr (by rfl) _ _ rfl g9 _ rfl rfl _ A9.out rfl rfl (tr_one o1 o2 o3) ?_
         intro wp h9 ht
         have HL1p := Lib.hid (HL1.out.touch ht (by simp))
         have HL2p := Lib.hid (LentM.box HL2.out ht A9.out (by decide))
         have HL3p := Lib.hid (Lent.box HL3.out ht A9.out (by decide))
         have A10p := Lib.hid (ht.whole A10.out (fun hm => NE.out (List.mem_singleton.1 hm).symm))
         have HBXp := Lib.hid (HBX.out.trans (ht.below (fun k hk => by rw [List.mem_singleton.1 hk]; exact N9.out) HBX.out.size))
         have HGX := Lib.hid (ht.whole HGX.out (fun hm => by have h1 := List.mem_singleton.1 hm; have h2 := N9.out; have h3 := NG5.out; omega))
         have HSX := Lib.hid (ht.whole HSX.out (fun hm => by have h1 := List.mem_singleton.1 hm; have h2 := N9.out; have h3 := NG5.out; omega))
         have KX := Lib.hid (KF.out _ HGX.out HSX.out)
         have A9p := Lib.hid h9
         clear ht h9
         refine hK.out _ _ KX.out (fun hHeld => ?_)
         clear hK K hHeld
         try simp only [Act.put, sx1, sx2, sx3]
         refine wpAnyH_ready (rs := [9]) (by kernel_rfl) (by simp) ?_
         refine AllReadyH.cons rfl (fun K hK => ?_) ?_
         ·refine Mach.step_st_state (by rfl) _ _ rfl g10 _ rfl rfl _ A10p.out rfl rfl (all_one rfl rfl rfl) ?_
          intro wq h10 ht
          have HP5 := Lib.hid (show P5 w5 wq t ⟨ip1, shn, st, bk, me, ou, inn, rd, st1, cd⟩ wl g9 g10 ui uo uc _ _ _ _ from ⟨_, _, _, gw, kw, ht.whole A9p.out (fun hm => NE.out (List.mem_singleton.1 hm)), h10, (HL1p.out.touch ht (by simp)).t, LentM.box HL2p.out ht A10p.out (by decide), rfl, Lent.box HL3p.out ht A10p.out (by decide), HBXp.out.trans (ht.below (fun k hk => by rw [List.mem_singleton.1 hk]; exact N10.out) HBXp.out.size)⟩)
          have HGX := Lib.hid (ht.whole HGX.out (fun hm => by have h1 := List.mem_singleton.1 hm; have h2 := N10.out; have h3 := NG5.out; omega))
          have HSX := Lib.hid (ht.whole HSX.out (fun hm => by have h1 := List.mem_singleton.1 hm; have h2 := N10.out; have h3 := NG5.out; omega))
          have KX := Lib.hid (KF.out _ HGX.out HSX.out)
          clear ht h10
          refine hK.out _ _ KX.out (fun hHeld => ?_)
          clear hK K hHeld
          try simp only [Act.put, sx1, sx2, sx3]
          refine wpAnyH_take (i := 10) (oi := ⟨some 11, _, _, _, _, _⟩) (v := ?_) rfl (by kernel_rfl) (by kernel_rfl) (by kernel_rfl) (fun _ _ _ h => h) (Or.inl ⟨by rfl, ?_⟩) KX.out ?_; rotate_left; · intro w hSw; (try dsimp only at hSw); go_simp; try with_reducible rfl
          try simp only [Act.put, sx1, sx2, sx3]
          refine wpAnyH_done (by kernel_rfl) ?_ _
          go_wp2_with fail
          go_meet
          exact ⟨_, _, _, _, _, _, _, _, _, rfl, rfl, rfl, HP5⟩
         ·exact AllReadyH.nil
        ·exact AllReadyH.nil
       exact AllReadyH.nil
      exact AllReadyH.nil
     refine AllReadyH.cons rfl (fun K hK => ?_) ?_
     ·refine Mach.step_alloc_state (by rfl) rfl ?_
      intro g10 wn hg hnew hb
      have N10 := Lib.hid (show w5.heap.size ≤ g10 by rw [← hg]; exact HBX.out.size)
      have HL1n := Lib.hid (HL1.out.add hb (Nat.le_of_eq hg))
      try have HL1 := Lib.hid (HL1.out.below hb)
      try have HL2 := Lib.hid (HL2.out.below hb)
      try have HL3 := Lib.hid (Mach.Lent.below HL3.out hb)
      try have A9 := Lib.hid (boxOn A9.out hb)
      try have A10 := Lib.hid (boxOn A10.out hb)
      have HBX := Lib.hid (HBX.out.trans (hb.mono HBX.out.size))
      have HGX := Lib.hid (boxOn HGX.out hb)
      have HSX := Lib.hid (boxOn HSX.out hb)
      have KX := Lib.hid (KF.out _ HGX.out HSX.out)
      have HL1 := HL1n
      have A10 := Lib.hid hnew
      clear hg hnew hb
      refine hK.out _ _ KX.out (fun hHeld => ?_)
      clear hK K hHeld
      try simp only [Act.put, sx1, sx2, sx3]
      refine wpAnyH_ready (rs := [5, 6]) (by kernel_rfl) (by simp) ?_
      refine AllReadyH.cons rfl (fun K hK => ?_) ?_
      ·go_simp
       go_at_call 29
       refine (CC.out _ HBX.out).mono ?_
       rintro e wn ⟨gw, kw, rfl, hl, hb⟩
       try have HL1 := Lib.hid (HL1.out.below hb)
       try have HL2 := Lib.hid (HL2.out.below hb)
       try have HL3 := Lib.hid (Mach.Lent.below HL3.out hb)
       try have A9 := Lib.hid (boxOn A9.out hb)
       try have A10 := Lib.hid (boxOn A10.out hb)
       have HBX := Lib.hid (HBX.out.trans (hb.mono HBX.out.size))
       have HGX := Lib.hid (boxOn HGX.out hb)
       have HSX := Lib.hid (boxOn HSX.out hb)
       have KX := Lib.hid (KF.out _ HGX.out HSX.out)
       have HL3 := Lib.hid hl
       clear hl hb
       try dsimp only
       go_wp2_with fail
       refine hK.out _ _ KX.out (fun hHeld => ?_)
       clear hK K hHeld
       try simp only [Act.put, sx1, sx2, sx3]
       refine wpAnyH_ready (rs := [6]) (by kernel_rfl) (by simp) ?_
       refine AllReadyH.cons rfl (fun K hK => ?_) ?_
       ·refine step_alloc_tr (by rfl) rfl ?_
        intro g9 wn hg hnew hb
        have N9 := Lib.hid (show w5.heap.size ≤ g9 by rw [← hg]; exact HBX.out.size)
        have NE := Lib.hid (show g9 ≠ g10 by have h := whole_lt A10.out; omega)
        have HL1n := Lib.hid (HL1.out.add hb (Nat.le_of_eq hg))
        try have HL1 := Lib.hid (HL1.out.below hb)
        try have HL2 := Lib.hid (HL2.out.below hb)
        try have HL3 := Lib.hid (Mach.Lent.below HL3.out hb)
        try have A9 := Lib.hid (boxOn A9.out hb)
        try have A10 := Lib.hid (boxOn A10.out hb)
        have HBX := Lib.hid (HBX.out.trans (hb.mono HBX.out.size))
        have HGX := Lib.hid (boxOn HGX.out hb)
        have HSX := Lib.hid (boxOn HSX.out hb)
        have KX := Lib.hid (KF.out _ HGX.out HSX.out)
        have HL1 := HL1n
        have A9 := Lib.hid hnew
        clear hg hnew hb
        refine hK.out _ _ KX.out (fun hHeld => ?_)
        clear hK K hHeld
        try simp only [Act.put, sx1, sx2, sx3]
        obtain ⟨ui, uo, uc, hv1, o1, o2, o3⟩ := HV1.out
        subst hv1
        obtain ⟨s1, k1, s2, k2, s3, k3, hv2, hl1, hl2, hl3⟩ := id HL2.out
        subst hv2
        refine wpAnyH_ready (rs := [8]) (by kernel_rfl) (by simp) ?_
        refine AllReadyH.cons rfl (fun K hK => ?_) ?_
        ·refine step_st_tr (by rfl) _ _ rfl g9 _ rfl rfl _ A9.out rfl rfl (tr_one o1 o2 o3) ?_
         intro wp h9 ht
         have HL1p := Lib.hid (HL1.out.touch ht (by simp))
         have HL2p := Lib.hid (LentM.box HL2.out ht A9.out (by decide))
         have HL3p := Lib.hid (Lent.box HL3.out ht A9.out (by decide))
         have A10p := Lib.hid (ht.whole A10.out (fun hm => NE.out (List.mem_singleton.1 hm).symm))
         have HBXp := Lib.hid (HBX.out.trans (ht.below (fun k hk => by rw [List.mem_singleton.1 hk]; exact N9.out) HBX.out.size))
         have HGX := Lib.hid (ht.whole HGX.out (fun hm => by have h1 := List.mem_singleton.1 hm; have h2 := N9.out; have h3 := NG5.out; omega))
         have HSX := Lib.hid (ht.whole HSX.out (fun hm => by have h1 := List.mem_singleton.1 hm; have h2 := N9.out; have h3 := NG5.out; omega))
         have KX := Lib.hid (KF.out _ HGX.out HSX.out)
         have A9p := Lib.hid h9
         clear ht h9
         refine hK.out _ _ KX.out (fun hHeld => ?_)
         clear hK K hHeld
         try simp only [Act.put, sx1, sx2, sx3]
         refine wpAnyH_ready (rs := [9]) (by kernel_rfl) (by simp) ?_
         refine AllReadyH.cons rfl (fun K hK => ?_) ?_
         ·refine Mach.step_st_state (by rfl) _ _ rfl g10 _ rfl rfl _ A10p.out rfl rfl (all_one rfl rfl rfl) ?_
          intro wq h10 ht
          have HP5 := Lib.hid (show P5 w5 wq t ⟨ip1, shn, st, bk, me, ou, inn, rd, st1, cd⟩ wl g9 g10 ui uo uc _ _ _ _ from ⟨_, _, _, gw, kw, ht.whole A9p.out (fun hm => NE.out (List.mem_singleton.1 hm)), h10, (HL1p.out.touch ht (by simp)).t, LentM.box HL2p.out ht A10p.out (by decide), rfl, Lent.box HL3p.out ht A10p.out (by decide), HBXp.out.trans (ht.below (fun k hk => by rw [List.mem_singleton.1 hk]; exact N10.out) HBXp.out.size)⟩)
          have HGX := Lib.hid (ht.whole HGX.out (fun hm => by have h1 := List.mem_singleton.1 hm; have h2 := N10.out; have h3 := NG5.out; omega))
          have HSX := Lib.hid (ht.whole HSX.out (fun hm => by have h1 := List.mem_singleton.1 hm; have h2 := N10.out; have h3 := NG5.out; omega))
          have KX := Lib.hid (KF.out _ HGX.out HSX.out)
          clear ht h10
          refine hK.out _ _ KX.out (fun hHeld => ?_)
          clear hK K hHeld
          try simp only [Act.put, sx1, sx2, sx3]
          refine wpAnyH_take (i := 10) (oi := ⟨some 11, _, _, _, _, _⟩) (v := ?_) rfl (by kernel_rfl) (by kernel_rfl) (by kernel_rfl) (fun _ _ _ h => h) (Or.inl ⟨by rfl, ?_⟩) KX.out ?_; rotate_left; · intro w hSw; (try dsimp only at hSw); go_simp; try with_reducible rfl
          try simp only [Act.put, sx1, sx2, sx3]
          refine wpAnyH_done (by kernel_rfl) ?_ _
          go_wp2_with fail
          go_meet
          exact ⟨_, _, _, _, _, _, _, _, _, rfl, rfl, rfl, HP5⟩
         ·exact AllReadyH.nil
        ·exact AllReadyH.nil
       exact AllReadyH.nil
      refine AllReadyH.cons rfl (fun K hK => ?_) ?_
      ·refine step_alloc_tr (by rfl) rfl ?_
       intro g9 wn hg hnew hb
       have N9 := Lib.hid (show w5.heap.size ≤ g9 by rw [← hg]; exact HBX.out.size)
       have NE := Lib.hid (show g9 ≠ g10 by have h := whole_lt A10.out; omega)
       have HL1n := Lib.hid (HL1.out.add hb (Nat.le_of_eq hg))
       try have HL1 := Lib.hid (HL1.out.below hb)
       try have HL2 := Lib.hid (HL2.out.below hb)
       try have HL3 := Lib.hid (Mach.Lent.below HL3.out hb)
       try have A9 := Lib.hid (boxOn A9.out hb)
       try have A10 := Lib.hid (boxOn A10.out hb)
       have HBX := Lib.hid (HBX.out.trans (hb.mono HBX.out.size))
       have HGX := Lib.hid (boxOn HGX.out hb)
       have HSX := Lib.hid (boxOn HSX.out hb)
       have KX := Lib.hid (KF.out _ HGX.out HSX.out)
       have HL1 := HL1n
       have A9 := Lib.hid hnew
       clear hg hnew hb
       refine hK.out _ _ KX.out (fun hHeld => ?_)
       clear hK K hHeld
       try simp only [Act.put, sx1, sx2, sx3]
       refine wpAnyH_ready (rs := [5]) (by kernel_rfl) (by simp) ?_
       refine AllReadyH.cons rfl (fun K hK => ?_) ?_
       ·go_simp
        go_at_call 29
        refine (CC.out _ HBX.out).mono ?_
        rintro e wn ⟨gw, kw, rfl, hl, hb⟩
        try have HL1 := Lib.hid (HL1.out.below hb)
        try have HL2 := Lib.hid (HL2.out.below hb)
        try have HL3 := Lib.hid (Mach.Lent.below HL3.out hb)
        try have A9 := Lib.hid (boxOn A9.out hb)
        try have A10 := Lib.hid (boxOn A10.out hb)
        have HBX := Lib.hid (HBX.out.trans (hb.mono HBX.out.size))
        have HGX := Lib.hid (boxOn HGX.out hb)
        have HSX := Lib.hid (boxOn HSX.out hb)
        have KX := Lib.hid (KF.out _ HGX.out HSX.out)
        have HL3 := Lib.hid hl
        clear hl hb
        try dsimp only
        go_wp2_with fail
        refine hK.out _ _ KX.out (fun hHeld => ?_)
        clear hK K hHeld
        try simp only [Act.put, sx1, sx2, sx3]
        obtain ⟨ui, uo, uc, hv1, o1, o2, o3⟩ := HV1.out
        subst hv1
        obtain ⟨s1, k1, s2, k2, s3, k3, hv2, hl1, hl2, hl3⟩ := id HL2.out
        subst hv2
        refine wpAnyH_ready (rs := [8]) (by kernel_rfl) (by simp) ?_
        refine AllReadyH.cons rfl (fun K hK => ?_) ?_
        ·refine step_st_tr (by rfl) _ _ rfl g9 _ rfl rfl _ A9.out rfl rfl (tr_one o1 o2 o3) ?_
         intro wp h9 ht
         have HL1p := Lib.hid (HL1.out.touch ht (by simp))
         have HL2p := Lib.hid (LentM.box HL2.out ht A9.out (by decide))
         have HL3p := Lib.hid (Lent.box HL3.out ht A9.out (by decide))
         have A10p := Lib.hid (ht.whole A10.out (fun hm => NE.out (List.mem_singleton.1 hm).symm))
         have HBXp := Lib.hid (HBX.out.trans (ht.below (fun k hk => by rw [List.mem_singleton.1 hk]; exact N9.out) HBX.out.size))
         have HGX := Lib.hid (ht.whole HGX.out (fun hm => by have h1 := List.mem_singleton.1 hm; have h2 := N9.out; have h3 := NG5.out; omega))
         have HSX := Lib.hid (ht.whole HSX.out (fun hm => by have h1 := List.mem_singleton.1 hm; have h2 := N9.out; have h3 := NG5.out; omega))
         have KX := Lib.hid (KF.out _ HGX.out HSX.out)
         have A9p := Lib.hid h9
         clear ht h9
         refine hK.out _ _ KX.out (fun hHeld => ?_)
         clear hK K hHeld
         try simp only [Act.put, sx1, sx2, sx3]
         refine wpAnyH_ready (rs := [9]) (by kernel_rfl) (by simp) ?_
         refine AllReadyH.cons rfl (fun K hK => ?_) ?_
         ·refine Mach.step_st_state (by rfl) _ _ rfl g10 _ rfl rfl _ A10p.out rfl rfl (all_one rfl rfl rfl) ?_
          intro wq h10 ht
          have HP5 := Lib.hid (show P5 w5 wq t ⟨ip1, shn, st, bk, me, ou, inn, rd, st1, cd⟩ wl g9 g10 ui uo uc _ _ _ _ from ⟨_, _, _, gw, kw, ht.whole A9p.out (fun hm => NE.out (List.mem_singleton.1 hm)), h10, (HL1p.out.touch ht (by simp)).t, LentM.box HL2p.out ht A10p.out (by decide), rfl, Lent.box HL3p.out ht A10p.out (by decide), HBXp.out.trans (ht.below (fun k hk => by rw [List.mem_singleton.1 hk]; exact N10.out) HBXp.out.size)⟩)
          have HGX := Lib.hid (ht.whole HGX.out (fun hm => by have h1 := List.mem_singleton.1 hm; have h2 := N10.out; have h3 := NG5.out; omega))
          have HSX := Lib.hid (ht.whole HSX.out (fun hm => by have h1 := List.mem_singleton.1 hm; have h2 := N10.out; have h3 := NG5.out; omega))
          have KX := Lib.hid (KF.out _ HGX.out HSX.out)
          clear ht h10
          refine hK.out _ _ KX.out (fun hHeld => ?_)
          clear hK K hHeld
          try simp only [Act.put, sx1, sx2, sx3]
          refine wpAnyH_take (i := 10) (oi := ⟨some 11, _, _, _, _, _⟩) (v := ?_) rfl (by kernel_rfl) (by kernel_rfl) (by kernel_rfl) (fun _ _ _ h => h) (Or.inl ⟨by rfl, ?_⟩) KX.out ?_; rotate_left; · intro w hSw; (try dsimp only at hSw); go_simp; try with_reducible rfl
          try simp only [Act.put, sx1, sx2, sx3]
          refine wpAnyH_done (by kernel_rfl) ?_ _
          go_wp2_with fail
          go_meet
          exact ⟨_, _, _, _, _, _, _, _, _, rfl, rfl, rfl, HP5⟩
         ·exact AllReadyH.nil
        ·exact AllReadyH.nil
       exact AllReadyH.nil
      exact AllReadyH.nil
     exact AllReadyH.nil
    refine AllReadyH.cons rfl (fun K hK => ?_) ?_
    ·refine step_alloc_tr (by rfl) rfl ?_
     intro g9 wn hg hnew hb
     have N9 := Lib.hid (show w5.heap.size ≤ g9 by rw [← hg]; exact HBX.out.size)
     have HL1n := Lib.hid (HL1.out.add hb (Nat.le_of_eq hg))
     try have HL1 := Lib.hid (HL1.out.below hb)
     try have HL2 := Lib.hid (HL2.out.below hb)
     try have HL3 := Lib.hid (Mach.Lent.below HL3.out hb)
     try have A9 := Lib.hid (boxOn A9.out hb)
     try have A10 := Lib.hid (boxOn A10.out hb)
     have HBX := Lib.hid (HBX.out.trans (hb.mono HBX.out.size))
     have HGX := Lib.hid (boxOn HGX.out hb)
     have HSX := Lib.hid (boxOn HSX.out hb)
     have KX := Lib.hid (KF.out _ HGX.out HSX.out)
     have HL1 := HL1n
     have A9 := Lib.hid hnew
     clear hg hnew hb
     refine hK.out _ _ KX.out (fun hHeld => ?_)
     clear hK K hHeld
     try simp only [Act.put, sx1, sx2, sx3]
     refine wpAnyH_ready (rs := [3, 7]) (by kernel_rfl) (by simp) ?_
     refine AllReadyH.cons rfl (fun K hK => ?_) ?_
     ·go_simp
      go_at_call 28
      refine (CB.out _ HBX.out).mono ?_
      rintro e wn ⟨v2, rfl, hl, hb⟩
      try have HL1 := Lib.hid (HL1.out.below hb)
      try have HL2 := Lib.hid (HL2.out.below hb)
      try have HL3 := Lib.hid (Mach.Lent.below HL3.out hb)
      try have A9 := Lib.hid (boxOn A9.out hb)
      try have A10 := Lib.hid (boxOn A10.out hb)
      have HBX := Lib.hid (HBX.out.trans (hb.mono HBX.out.size))
      have HGX := Lib.hid (boxOn HGX.out hb)
      have HSX := Lib.hid (boxOn HSX.out hb)
      have KX := Lib.hid (KF.out _ HGX.out HSX.out)
      have HL2 := Lib.hid hl
      clear hl hb
      try dsimp only
      go_wp2_with fail
      refine hK.out _ _ KX.out (fun hHeld => ?_)
      clear hK K hHeld
      try simp only [Act.put, sx1, sx2, sx3]
      refine wpAnyH_ready (rs := [5, 7]) (by kernel_rfl) (by simp) ?_
      refine AllReadyH.cons rfl (fun K hK => ?_) ?_
      ·go_simp
       go_at_call 29
       refine (CC.out _ HBX.out).mono ?_
       rintro e wn ⟨gw, kw, rfl, hl, hb⟩
       try have HL1 := Lib.hid (HL1.out.below hb)
       try have HL2 := Lib.hid (HL2.out.below hb)
       try have HL3 := Lib.hid (Mach.Lent.below HL3.out hb)
       try have A9 := Lib.hid (boxOn A9.out hb)
       try have A10 := Lib.hid (boxOn A10.out hb)
       have HBX := Lib.hid (HBX.out.trans (hb.mono HBX.out.size))
       have HGX := Lib.hid (boxOn HGX.out hb)
       have HSX := Lib.hid (boxOn HSX.out hb)
       have KX := Lib.hid (KF.out _ HGX.out HSX.out)
       have HL3 := Lib.hid hl
       clear hl hb
       try dsimp only
       go_wp2_with fail
       refine hK.out _ _ KX.out (fun hHeld => ?_)
       clear hK K hHeld
       try simp only [Act.put, sx1, sx2, sx3]
       refine wpAnyH_ready (rs := [7]) (by kernel_rfl) (by simp) ?_
       refine AllReadyH.cons rfl (fun K hK => ?_) ?_
       ·refine Mach.step_alloc_state (by rfl) rfl ?_
        intro g10 wn hg hnew hb
        have N10 := Lib.hid (show w5.heap.size ≤ g10 by rw [← hg]; exact HBX.out.size)
        have NE := Lib.hid (show g9 ≠ g10 by have h := whole_lt A9.out; omega)
        have HL1n := Lib.hid (HL1.out.add hb (Nat.le_of_eq hg))
        try have HL1 := Lib.hid (HL1.out.below hb)
        try have HL2 := Lib.hid (HL2.out.below hb)
        try have HL3 := Lib.hid (Mach.Lent.below HL3.out hb)
        try have A9 := Lib.hid (boxOn A9.out hb)
        try have A10 := Lib.hid (boxOn A10.out hb)
        have HBX := Lib.hid (HBX.out.trans (hb.mono HBX.out.size))
        have HGX := Lib.hid (boxOn HGX.out hb)
        have HSX := Lib.hid (boxOn HSX.out hb)
        have KX := Lib.hid (KF.out _ HGX.out HSX.out)
        have HL1 := HL1n
        have A10 := Lib.hid hnew
        clear hg hnew hb
        refine hK.out _ _ KX.out (fun hHeld => ?_)
        clear hK K hHeld
        try simp only [Act.put, sx1, sx2, sx3]
        obtain ⟨ui, uo, uc, hv1, o1, o2, o3⟩ := HV1.out
        subst hv1
        obtain ⟨s1, k1, s2, k2, s3, k3, hv2, hl1, hl2, hl3⟩ := id HL2.out
        subst hv2
        refine wpAnyH_ready (rs := [8]) (by kernel_rfl) (by simp) ?_
        refine AllReadyH.cons rfl (fun K hK => ?_) ?_
        ·refine step_st_tr (by rfl) _ _ rfl g9 _ rfl rfl _ A9.out rfl rfl (tr_one o1 o2 o3) ?_
         intro wp h9 ht
         have HL1p := Lib.hid (HL1.out.touch ht (by simp))
         have HL2p := Lib.hid (LentM.box HL2.out ht A9.out (by decide))
         have HL3p := Lib.hid (Lent.box HL3.out ht A9.out (by decide))
         have A10p := Lib.hid (ht.whole A10.out (fun hm => NE.out (List.mem_singleton.1 hm).symm))
         have HBXp := Lib.hid (HBX.out.trans (ht.below (fun k hk => by rw [List.mem_singleton.1 hk]; exact N9.out) HBX.out.size))
         have HGX := Lib.hid (ht.whole HGX.out (fun hm => by have h1 := List.mem_singleton.1 hm; have h2 := N9.out; have h3 := NG5.out; omega))
         have HSX := Lib.hid (ht.whole HSX.out (fun hm => by have h1 := List.mem_singleton.1 hm; have h2 := N9.out; have h3 := NG5.out; omega))
         have KX := Lib.hid (KF.out _ HGX.out HSX.out)
         have A9p := Lib.hid h9
         clear ht h9
         refine hK.out _ _ KX.out (fun hHeld => ?_)
         clear hK K hHeld
         try simp only [Act.put, sx1, sx2, sx3]
         refine wpAnyH_ready (rs := [9]) (by kernel_rfl) (by simp) ?_
         refine AllReadyH.cons rfl (fun K hK => ?_) ?_
         ·refine Mach.step_st_state (by rfl) _ _ rfl g10 _ rfl rfl _ A10p.out rfl rfl (all_one rfl rfl rfl) ?_
          intro wq h10 ht
          have HP5 := Lib.hid (show P5 w5 wq t ⟨ip1, shn, st, bk, me, ou, inn, rd, st1, cd⟩ wl g9 g10 ui uo uc _ _ _ _ from ⟨_, _, _, gw, kw, ht.whole A9p.out (fun hm => NE.out (List.mem_singleton.1 hm)), h10, (HL1p.out.touch ht (by simp)).t, LentM.box HL2p.out ht A10p.out (by decide), rfl, Lent.box HL3p.out ht A10p.out (by decide), HBXp.out.trans (ht.below (fun k hk => by rw [List.mem_singleton.1 hk]; exact N10.out) HBXp.out.size)⟩)
          have HGX := Lib.hid (ht.whole HGX.out (fun hm => by have h1 := List.mem_singleton.1 hm; have h2 := N10.out; have h3 := NG5.out; omega))
          have HSX := Lib.hid (ht.whole HSX.out (fun hm => by have h1 := List.mem_singleton.1 hm; have h2 := N10.out; have h3 := NG5.out; omega))
          have KX := Lib.hid (KF.out _ HGX.out HSX.out)
          clear ht h10
          refine hK.out _ _ KX.out (fun hHeld => ?_)
          clear hK K hHeld
          try simp only [Act.put, sx1, sx2, sx3]
          refine wpAnyH_take (i := 10) (oi := ⟨some 11, _, _, _, _, _⟩) (v := ?_) rfl (by kernel_rfl) (by kernel_rfl) (by kernel_rfl) (fun _ _ _ h => h) (Or.inl ⟨by rfl, ?_⟩) KX.out ?_; rotate_left; · intro w hSw; (try dsimp only at hSw); go_simp; try with_reducible rfl
          try simp only [Act.put, sx1, sx2, sx3]
          refine wpAnyH_done (by kernel_rfl) ?_ _
          go_wp2_with fail
          go_meet
          exact ⟨_, _, _, _, _, _, _, _, _, rfl, rfl, rfl, HP5⟩
         ·exact AllReadyH.nil
        ·exact AllReadyH.nil
       exact AllReadyH.nil
      refine AllReadyH.cons rfl (fun K hK => ?_) ?_
      ·refine Mach.step_alloc_state (by rfl) rfl ?_
       intro g10 wn hg hnew hb
       have N10 := Lib.hid (show w5.heap.size ≤ g10 by rw [← hg]; exact HBX.out.size)
       have NE := Lib.hid (show g9 ≠ g10 by have h := whole_lt A9.out; omega)
       have HL1n := Lib.hid (HL1.out.add hb (Nat.le_of_eq hg))
       try have HL1 := Lib.hid (HL1.out.below hb)
       try have HL2 := Lib.hid (HL2.out.below hb)
       try have HL3 := Lib.hid (Mach.Lent.below HL3.out hb)
       try have A9 := Lib.hid (boxOn A9.out hb)
       try have A10 := Lib.hid (boxOn A10.out hb)
       have HBX := Lib.hid (HBX.out.trans (hb.mono HBX.out.size))
       have HGX := Lib.hid (boxOn HGX.out hb)
       have HSX := Lib.hid (boxOn HSX.out hb)
       have KX := Lib.hid (KF.out _ HGX.out HSX.out)
       have HL1 := HL1n
       have A10 := Lib.hid hnew
       clear hg hnew hb
       refine hK.out _ _ KX.out (fun hHeld => ?_)
       clear hK K hHeld
       try simp only [Act.put, sx1, sx2, sx3]
       refine wpAnyH_ready (rs := [5]) (by kernel_rfl) (by simp) ?_
       refine AllReadyH.cons rfl (fun K hK => ?_) ?_
       ·go_simp
        go_at_call 29
        refine (CC.out _ HBX.out).mono ?_
        rintro e wn ⟨gw, kw, rfl, hl, hb⟩
        try have HL1 := Lib.hid (HL1.out.below hb)
        try have HL2 := Lib.hid (HL2.out.below hb)
        try have HL3 := Lib.hid (Mach.Lent.below HL3.out hb)
        try have A9 := Lib.hid (boxOn A9.out hb)
        try have A10 := Lib.hid (boxOn A10.out hb)
        have HBX := Lib.hid (HBX.out.trans (hb.mono HBX.out.size))
        have HGX := Lib.hid (boxOn HGX.out hb)
        have HSX := Lib.hid (boxOn HSX.out hb)
        have KX := Lib.hid (KF.out _ HGX.out HSX.out)
        have HL3 := Lib.hid hl
        clear hl hb
        try dsimp only
        go_wp2_with fail
        refine hK.out _ _ KX.out (fun hHeld => ?_)
        clear hK K hHeld
        try simp only [Act.put, sx1, sx2, sx3]
        obtain ⟨ui, uo, uc, hv1, o1, o2, o3⟩ := HV1.out
        subst hv1
        obtain ⟨s1, k1, s2, k2, s3, k3, hv2, hl1, hl2, hl3⟩ := id HL2.out
        subst hv2
        refine wpAnyH_ready (rs := [8]) (by kernel_rfl) (by simp) ?_
        refine AllReadyH.cons rfl (fun K hK => ?_) ?_
        ·refine step_st_tr (by rfl) _ _ rfl g9 _ rfl rfl _ A9.out rfl rfl (tr_one o1 o2 o3) ?_
         intro wp h9 ht
         have HL1p := Lib.hid (HL1.out.touch ht (by simp))
         have HL2p := Lib.hid (LentM.box HL2.out ht A9.out (by decide))
         have HL3p := Lib.hid (Lent.box HL3.out ht A9.out (by decide))
         have A10p := Lib.hid (ht.whole A10.out (fun hm => NE.out (List.mem_singleton.1 hm).symm))
         have HBXp := Lib.hid (HBX.out.trans (ht.below (fun k hk => by rw [List.mem_singleton.1 hk]; exact N9.out) HBX.out.size))
         have HGX := Lib.hid (ht.whole HGX.out (fun hm => by have h1 := List.mem_singleton.1 hm; have h2 := N9.out; have h3 := NG5.out; omega))
         have HSX := Lib.hid (ht.whole HSX.out (fun hm => by have h1 := List.mem_singleton.1 hm; have h2 := N9.out; have h3 := NG5.out; omega))
         have KX := Lib.hid (KF.out _ HGX.out HSX.out)
         have A9p := Lib.hid h9
         clear ht h9
         refine hK.out _ _ KX.out (fun hHeld => ?_)
         clear hK K hHeld
         try simp only [Act.put, sx1, sx2, sx3]
         refine wpAnyH_ready (rs := [9]) (by kernel_rfl) (by simp) ?_
         refine AllReadyH.cons rfl (fun K hK => ?_) ?_
         ·refine Mach.step_st_state (by rfl) _ _ rfl g10 _ rfl rfl _ A10p.out rfl rfl (all_one rfl rfl rfl) ?_
          intro wq h10 ht
          have HP5 := Lib.hid (show P5 w5 wq t ⟨ip1, shn, st, bk, me, ou, inn, rd, st1, cd⟩ wl g9 g10 ui uo uc _ _ _ _ from ⟨_, _, _, gw, kw, ht.whole A9p.out (fun hm => NE.out (List.mem_singleton.1 hm)), h10, (HL1p.out.touch ht (by simp)).t, LentM.box HL2p.out ht A10p.out (by decide), rfl, Lent.box HL3p.out ht A10p.out (by decide), HBXp.out.trans (ht.below (fun k hk => by rw [List.mem_singleton.1 hk]; exact N10.out) HBXp.out.size)⟩)
          have HGX := Lib.hid (ht.whole HGX.out (fun hm => by have h1 := List.mem_singleton.1 hm; have h2 := N10.out; have h3 := NG5.out; omega))
          have HSX := Lib.hid (ht.whole HSX.out (fun hm => by have h1 := List.mem_singleton.1 hm; have h2 := N10.out; have h3 := NG5.out; omega))
          have KX := Lib.hid (KF.out _ HGX.out HSX.out)
          clear ht h10
          refine hK.out _ _ KX.out (fun hHeld => ?_)
          clear hK K hHeld
          try simp only [Act.put, sx1, sx2, sx3]
          refine wpAnyH_take (i := 10) (oi := ⟨some 11, _, _, _, _, _⟩) (v := ?_) rfl (by kernel_rfl) (by kernel_rfl) (by kernel_rfl) (fun _ _ _ h => h) (Or.inl ⟨by rfl, ?_⟩) KX.out ?_; rotate_left; · intro w hSw; (try dsimp only at hSw); go_simp; try with_reducible rfl
          try simp only [Act.put, sx1, sx2, sx3]
          refine wpAnyH_done (by kernel_rfl) ?_ _
          go_wp2_with fail
          go_meet
          exact ⟨_, _, _, _, _, _, _, _, _, rfl, rfl, rfl, HP5⟩
         ·exact AllReadyH.nil
        ·exact AllReadyH.nil
       exact AllReadyH.nil
      exact AllReadyH.nil
     refine AllReadyH.cons rfl (fun K hK => ?_) ?_
     ·refine Mach.step_alloc_state (by rfl) rfl ?_
      intro g10 wn hg hnew hb
      have N10 := Lib.hid (show w5.heap.size ≤ g10 by rw [← hg]; exact HBX.out.size)
      have NE := Lib.hid (show g9 ≠ g10 by have h := whole_lt A9.out; omega)
      have HL1n := Lib.hid (HL1.out.add hb (Nat.le_of_eq hg))
      try have HL1 := Lib.hid (HL1.out.below hb)
      try have HL2 := Lib.hid (HL2.out.below hb)
      try have HL3 := Lib.hid (Mach.Lent.below HL3.out hb)
      try have A9 := Lib.hid (boxOn A9.out hb)
      try have A10 := Lib.hid (boxOn A10.out hb)
      have HBX := Lib.hid (HBX.out.trans (hb.mono HBX.out.size))
      have HGX := Lib.hid (boxOn HGX.out hb)
      have HSX := Lib.hid (boxOn HSX.out hb)
      have KX := Lib.hid (KF.out _ HGX.out HSX.out)
      have HL1 := HL1n
      have A10 := Lib.hid hnew
      clear hg hnew hb
      refine hK.out _ _ KX.out (fun hHeld => ?_)
      clear hK K hHeld
      try simp only [Act.put, sx1, sx2, sx3]
      refine wpAnyH_ready (rs := [3]) (by kernel_rfl) (by simp) ?_
      refine AllReadyH.cons rfl (fun K hK => ?_) ?_
      ·go_simp
       go_at_call 28
       refine (CB.out _ HBX.out).mono ?_
       rintro e wn ⟨v2, rfl, hl, hb⟩
       try have HL1 := Lib.hid (HL1.out.below hb)
       try have HL2 := Lib.hid (HL2.out.below hb)
       try have HL3 := Lib.hid (Mach.Lent.below HL3.out hb)
       try have A9 := Lib.hid (boxOn A9.out hb)
       try have A10 := Lib.hid (boxOn A10.out hb)
       have HBX := Lib.hid (HBX.out.trans (hb.mono HBX.out.size))
       have HGX := Lib.hid (boxOn HGX.out hb)
       have HSX := Lib.hid (boxOn HSX.out hb)
       have KX := Lib.hid (KF.out _ HGX.out HSX.out)
       have HL2 := Lib.hid hl
       clear hl hb
       try dsimp only
       go_wp2_with fail
       refine hK.out _ _ KX.out (fun hHeld => ?_)
       clear hK K hHeld
       try simp only [Act.put, sx1, sx2, sx3]
       refine wpAnyH_ready (rs := [5]) (by kernel_rfl) (by simp) ?_
       refine AllReadyH.cons rfl (fun K hK => ?_) ?_
       ·go_simp
        go_at_call 29
        refine (CC.out _ HBX.out).mono ?_
        rintro e wn ⟨gw, kw, rfl, hl, hb⟩
        try have HL1 := Lib.hid (HL1.out.below hb)
        try have HL2 := Lib.hid (HL2.out.below hb)
        try have HL3 := Lib.hid (Mach.Lent.below HL3.out hb)
        try have A9 := Lib.hid (boxOn A9.out hb)
        try have A10 := Lib.hid (boxOn A10.out hb)
        have HBX := Lib.hid (HBX.out.trans (hb.mono HBX.out.size))
        have HGX := Lib.hid (boxOn HGX.out hb)
        have HSX := Lib.hid (boxOn HSX.out hb)
        have KX := Lib.hid (KF.out _ HGX.out HSX.out)
        have HL3 := Lib.hid hl
        clear hl hb
        try dsimp only
        go_wp2_with fail
        refine hK.out _ _ KX.out (fun hHeld => ?_)
        clear hK K hHeld
        try simp only [Act.put, sx1, sx2, sx3]
        obtain ⟨ui, uo, uc, hv1, o1, o2, o3⟩ := HV1.out
        subst hv1
        obtain ⟨s1, k1, s2, k2, s3, k3, hv2, hl1, hl2, hl3⟩ := id HL2.out
        subst hv2
        refine wpAnyH_ready (rs := [8]) (by kernel_rfl) (by simp) ?_
        refine AllReadyH.cons rfl (fun K hK => ?_) ?_
        ·refine step_st_tr (by rfl) _ _ rfl g9 _ rfl rfl _ A9.out rfl rfl (tr_one o1 o2 o3) ?_
         intro wp h9 ht
         have HL1p := Lib.hid (HL1.out.touch ht (by simp))
         have HL2p := Lib.hid (LentM.box HL2.out ht A9.out (by decide))
         have HL3p := Lib.hid (Lent.box HL3.out ht A9.out (by decide))
         have A10p := Lib.hid (ht.whole A10.out (fun hm => NE.out (List.mem_singleton.1 hm).symm))
         have HBXp := Lib.hid (HBX.out.trans (ht.below (fun k hk => by rw [List.mem_singleton.1 hk]; exact N9.out) HBX.out.size))
         have HGX := Lib.hid (ht.whole HGX.out (fun hm => by have h1 := List.mem_singleton.1 hm; have h2 := N9.out; have h3 := NG5.out; omega))
         have HSX := Lib.hid (ht.whole HSX.out (fun hm => by have h1 := List.mem_singleton.1 hm; have h2 := N9.out; have h3 := NG5.out; omega))
         have KX := Lib.hid (KF.out _ HGX.out HSX.out)
         have A9p := Lib.hid h9
         clear ht h9
         refine hK.out _ _ KX.out (fun hHeld => ?_)
         clear hK K hHeld
         try simp only [Act.put, sx1, sx2, sx3]
         refine wpAnyH_ready (rs := [9]) (by kernel_rfl) (by simp) ?_
         refine AllReadyH.cons rfl (fun K hK => ?_) ?_
         ·refine Mach.step_st_state (by rfl) _ _ rfl g10 _ rfl rfl _ A10p.out rfl rfl (all_one rfl rfl rfl) ?_
          intro wq h10 ht
          have HP5 := Lib.hid (show P5 w5 wq t ⟨ip1, shn, st, bk, me, ou, inn, rd, st1, cd⟩ wl g9 g10 ui uo uc _ _ _ _ from ⟨_, _, _, gw, kw, ht.whole A9p.out (fun hm => NE.out (List.mem_singleton.1 hm)), h10, (HL1p.out.touch ht (by simp)).t, LentM.box HL2p.out ht A10p.out (by decide), rfl, Lent.box HL3p.out ht A10p.out (by decide), HBXp.out.trans (ht.below (fun k hk => by rw [List.mem_singleton.1 hk]; exact N10.out) HBXp.out.size)⟩)
          have HGX := Lib.hid (ht.whole HGX.out (fun hm => by have h1 := List.mem_singleton.1 hm; have h2 := N10.out; have h3 := NG5.out; omega))
          have HSX := Lib.hid (ht.whole HSX.out (fun hm => by have h1 := List.mem_singleton.1 hm; have h2 := N10.out; have h3 := NG5.out; omega))
          have KX := Lib.hid (KF.out _ HGX.out HSX.out)
          clear ht h10
          refine hK.out _ _ KX.out (fun hHeld => ?_)
          clear hK K hHeld
          try simp only [Act.put, sx1, sx2, sx3]
          refine wpAnyH_take (i := 10) (oi := ⟨some 11, _, _, _, _, _⟩) (v := ?_) rfl (by kernel_rfl) (by kernel_rfl) (by kernel_rfl) (fun _ _ _ h => h) (Or.inl ⟨by rfl, ?_⟩) KX.out ?_; rotate_left; · intro w hSw; (try dsimp only at hSw); go_simp; try with_reducible rfl
          try simp only [Act.put, sx1, sx2, sx3]
          refine wpAnyH_done (by kernel_rfl) ?_ _
          go_wp2_with fail
          go_meet
          exact ⟨_, _, _, _, _, _, _, _, _, rfl, rfl, rfl, HP5⟩
         ·exact AllReadyH.nil
        ·exact AllReadyH.nil
       exact AllReadyH.nil
      exact AllReadyH.nil
     exact AllReadyH.nil
    refine AllReadyH.cons rfl (fun K hK => ?_) ?_
    ·refine Mach.step_alloc_state (by rfl) rfl ?_
     intro g10 wn hg hnew hb
     have N10 := Lib.hid (show w5.heap.size ≤ g10 by rw [← hg]; exact HBX.out.size)
     have HL1n := Lib.hid (HL1.out.add hb (Nat.le_of_eq hg))
     try have HL1 := Lib.hid (HL1.out.below hb)
     try have HL2 := Lib.hid (HL2.out.below hb)
     try have HL3 := Lib.hid (Mach.Lent.below HL3.out hb)
     try have A9 := Lib.hid (boxOn A9.out hb)
     try have A10 := Lib.hid (boxOn A10.out hb)
     have HBX := Lib.hid (HBX.out.trans (hb.mono HBX.out.size))
     have HGX := Lib.hid (boxOn HGX.out hb)
     have HSX := Lib.hid (boxOn HSX.out hb)
     have KX := Lib.hid (KF.out _ HGX.out HSX.out)
     have HL1 := HL1n
     have A10 := Lib.hid hnew
     clear hg hnew hb
     refine hK.out _ _ KX.out (fun hHeld => ?_)
     clear hK K hHeld
     try simp only [Act.put, sx1, sx2, sx3]
     refine wpAnyH_ready (rs := [3, 6]) (by kernel_rfl) (by simp) ?_
     refine AllReadyH.cons rfl (fun K hK => ?_) ?_
     ·go_simp
      go_at_call 28
      refine (CB.out _ HBX.out).mono ?_
      rintro e wn ⟨v2, rfl, hl, hb⟩
      try have HL1 := Lib.hid (HL1.out.below hb)
      try have HL2 := Lib.hid (HL2.out.below hb)
      try have HL3 := Lib.hid (Mach.Lent.below HL3.out hb)
      try have A9 := Lib.hid (boxOn A9.out hb)
      try have A10 := Lib.hid (boxOn A10.out hb)
      have HBX := Lib.hid (HBX.out.trans (hb.mono HBX.out.size))
      have HGX := Lib.hid (boxOn HGX.out hb)
      have HSX := Lib.hid (boxOn HSX.out hb)
      have KX := Lib.hid (KF.out _ HGX.out HSX.out)
      have HL2 := Lib.hid hl
      clear hl hb
      try dsimp only
      go_wp2_with fail
      refine hK.out _ _ KX.out (fun hHeld => ?_)
      clear hK K hHeld
      try simp only [Act.put, sx1, sx2, sx3]
      refine wpAnyH_ready (rs := [5, 6]) (by kernel_rfl) (by simp) ?_
      refine AllReadyH.cons rfl (fun K hK => ?_) ?_
      ·go_simp
       go_at_call 29
       refine (CC.out _ HBX.out).mono ?_
       rintro e wn ⟨gw, kw, rfl, hl, hb⟩
       try have HL1 := Lib.hid (HL1.out.below hb)
       try have HL2 := Lib.hid (HL2.out.below hb)
       try have HL3 := Lib.hid (Mach.Lent.below HL3.out hb)
       try have A9 := Lib.hid (boxOn A9.out hb)
       try have A10 := Lib.hid (boxOn A10.out hb)
       have HBX := Lib.hid (HBX.out.trans (hb.mono HBX.out.size))
       have HGX := Lib.hid (boxOn HGX.out hb)
       have HSX := Lib.hid (boxOn HSX.out hb)
       have KX := Lib.hid (KF.out _ HGX.out HSX.out)
       have HL3 := Lib.hid hl
       clear hl hb
       try dsimp only
       go_wp2_with fail
       refine hK.out _ _ KX.out (fun hHeld => ?_)
       clear hK K hHeld
       try simp only [Act.put, sx1, sx2, sx3]
       refine wpAnyH_ready (rs := [6]) (by kernel_rfl) (by simp) ?_
       refine AllReadyH.cons rfl (fun K hK => ?_) ?_
       ·refine step_alloc_tr (by rfl) rfl ?_
        intro g9 wn hg hnew hb
        have N9 := Lib.hid (show w5.heap.size ≤ g9 by rw [← hg]; exact HBX.out.size)
        have NE := Lib.hid (show g9 ≠ g10 by have h := whole_lt A10.out; omega)
        have HL1n := Lib.hid (HL1.out.add hb (Nat.le_of_eq hg))
        try have HL1 := Lib.hid (HL1.out.below hb)
        try have HL2 := Lib.hid (HL2.out.below hb)
        try have HL3 := Lib.hid (Mach.Lent.below HL3.out hb)
        try have A9 := Lib.hid (boxOn A9.out hb)
        try have A10 := Lib.hid (boxOn A10.out hb)
        have HBX := Lib.hid (HBX.out.trans (hb.mono HBX.out.size))
        have HGX := Lib.hid (boxOn HGX.out hb)
        have HSX := Lib.hid (boxOn HSX.out hb)
        have KX := Lib.hid (KF.out _ HGX.out HSX.out)
        have HL1 := HL1n
        have A9 := Lib.hid hnew
        clear hg hnew hb
        refine hK.out _ _ KX.out (fun hHeld => ?_)
        clear hK K hHeld
        try simp only [Act.put, sx1, sx2, sx3]
        obtain ⟨ui, uo, uc, hv1, o1, o2, o3⟩ := HV1.out
        subst hv1
        obtain ⟨s1, k1, s2, k2, s3, k3, hv2, hl1, hl2, hl3⟩ := id HL2.out
        subst hv2
        refine wpAnyH_ready (rs := [8]) (by kernel_rfl) (by simp) ?_
        refine AllReadyH.cons rfl (fun K hK => ?_) ?_
        ·refine step_st_tr (by rfl) _ _ rfl g9 _ rfl rfl _ A9.out rfl rfl (tr_one o1 o2 o3) ?_
         intro wp h9 ht
         have HL1p := Lib.hid (HL1.out.touch ht (by simp))
         have HL2p := Lib.hid (LentM.box HL2.out ht A9.out (by decide))
         have HL3p := Lib.hid (Lent.box HL3.out ht A9.out (by decide))
         have A10p := Lib.hid (ht.whole A10.out (fun hm => NE.out (List.mem_singleton.1 hm).symm))
         have HBXp := Lib.hid (HBX.out.trans (ht.below (fun k hk => by rw [List.mem_singleton.1 hk]; exact N9.out) HBX.out.size))
         have HGX := Lib.hid (ht.whole HGX.out (fun hm => by have h1 := List.mem_singleton.1 hm; have h2 := N9.out; have h3 := NG5.out; omega))
         have HSX := Lib.hid (ht.whole HSX.out (fun hm => by have h1 := List.mem_singleton.1 hm; have h2 := N9.out; have h3 := NG5.out; omega))
         have KX := Lib.hid (KF.out _ HGX.out HSX.out)
         have A9p := Lib.hid h9
         clear ht h9
         refine hK.out _ _ KX.out (fun hHeld => ?_)
         clear hK K hHeld
         try simp only [Act.put, sx1, sx2, sx3]
         refine wpAnyH_ready (rs := [9]) (by kernel_rfl) (by simp) ?_
         refine AllReadyH.cons rfl (fun K hK => ?_) ?_
         ·refine Mach.step_st_state (by rfl) _ _ rfl g10 _ rfl rfl _ A10p.out rfl rfl (all_one rfl rfl rfl) ?_
          intro wq h10 ht
          have HP5 := Lib.hid (show P5 w5 wq t ⟨ip1, shn, st, bk, me, ou, inn, rd, st1, cd⟩ wl g9 g10 ui uo uc _ _ _ _ from ⟨_, _, _, gw, kw, ht.whole A9p.out (fun hm => NE.out (List.mem_singleton.1 hm)), h10, (HL1p.out.touch ht (by simp)).t, LentM.box HL2p.out ht A10p.out (by decide), rfl, Lent.box HL3p.out ht A10p.out (by decide), HBXp.out.trans (ht.below (fun k hk => by rw [List.mem_singleton.1 hk]; exact N10.out) HBXp.out.size)⟩)
          have HGX := Lib.hid (ht.whole HGX.out (fun hm => by have h1 := List.mem_singleton.1 hm; have h2 := N10.out; have h3 := NG5.out; omega))
          have HSX := Lib.hid (ht.whole HSX.out (fun hm => by have h1 := List.mem_singleton.1 hm; have h2 := N10.out; have h3 := NG5.out; omega))
          have KX := Lib.hid (KF.out _ HGX.out HSX.out)
          clear ht h10
          refine hK.out _ _ KX.out (fun hHeld => ?_)
          clear hK K hHeld
          try simp only [Act.put, sx1, sx2, sx3]
          refine wpAnyH_take (i := 10) (oi := ⟨some 11, _, _, _, _, _⟩) (v := ?_) rfl (by kernel_rfl) (by kernel_rfl) (by kernel_rfl) (fun _ _ _ h => h) (Or.inl ⟨by rfl, ?_⟩) KX.out ?_; rotate_left; · intro w hSw; (try dsimp only at hSw); go_simp; try with_reducible rfl
          try simp only [Act.put, sx1, sx2, sx3]
          refine wpAnyH_done (by kernel_rfl) ?_ _
          go_wp2_with fail
          go_meet
          exact ⟨_, _, _, _, _, _, _, _, _, rfl, rfl, rfl, HP5⟩
         ·exact AllReadyH.nil
        ·exact AllReadyH.nil
       exact AllReadyH.nil
      refine AllReadyH.cons rfl (fun K hK => ?_) ?_
      ·refine step_alloc_tr (by rfl) rfl ?_
       intro g9 wn hg hnew hb
       have N9 := Lib.hid (show w5.heap.size ≤ g9 by rw [← hg]; exact HBX.out.size)
       have NE := Lib.hid (show g9 ≠ g10 by have h := whole_lt A10.out; omega)
       have HL1n := Lib.hid (HL1.out.add hb (Nat.le_of_eq hg))
       try have HL1 := Lib.hid (HL1.out.below hb)
       try have HL2 := Lib.hid (HL2.out.below hb)
       try have HL3 := Lib.hid (Mach.Lent.below HL3.out hb)
       try have A9 := Lib.hid (boxOn A9.out hb)
       try have A10 := Lib.hid (boxOn A10.out hb)
       have HBX := Lib.hid (HBX.out.trans (hb.mono HBX.out.size))
       have HGX := Lib.hid (boxOn HGX.out hb)
       have HSX := Lib.hid (boxOn HSX.out hb)
       have KX := Lib.hid (KF.out _ HGX.out HSX.out)
       have HL1 := HL1n
       have A9 := Lib.hid hnew
       clear hg hnew hb
       refine hK.out _ _ KX.out (fun hHeld => ?_)
       clear hK K hHeld
       try simp only [Act.put, sx1, sx2, sx3]
       refine wpAnyH_ready (rs := [5]) (by kernel_rfl) (by simp) ?_
       refine AllReadyH.cons rfl (fun K hK => ?_) ?_
       ·go_simp
        go_at_call 29
        refine (CC.out _ HBX.out).mono ?_
        rintro e wn ⟨gw, kw, rfl, hl, hb⟩
        try have HL1 := Lib.hid (HL1.out.below hb)
        try have HL2 := Lib.hid (HL2.out.below hb)
        try have HL3 := Lib.hid (Mach.Lent.below HL3.out hb)
        try have A9 := Lib.hid (boxOn A9.out hb)
        try have A10 := Lib.hid (boxOn A10.out hb)
        have HBX := Lib.hid (HBX.out.trans (hb.mono HBX.out.size))
        have HGX := Lib.hid (boxOn HGX.out hb)
        have HSX := Lib.hid (boxOn HSX.out hb)
        have KX := Lib.hid (KF.out _ HGX.out HSX.out)
        have HL3 := Lib.hid hl
        clear hl hb
        try dsimp only
        go_wp2_with fail
        refine hK.out _ _ KX.out (fun hHeld => ?_)
        clear hK K hHeld
        try simp only [Act.put, sx1, sx2, sx3]
        obtain ⟨ui, uo, uc, hv1, o1, o2, o3⟩ := HV1.out
        subst hv1
        obtain ⟨s1, k1, s2, k2, s3, k3, hv2, hl1, hl2, hl3⟩ := id HL2.out
        subst hv2
        refine wpAnyH_ready (rs := [8]) (by kernel_rfl) (by simp) ?_
        refine AllReadyH.cons rfl (fun K hK => ?_) ?_
        ·refine step_st_tr (by rfl) _ _ rfl g9 _ rfl rfl _ A9.out rfl rfl (tr_one o1 o2 o3) ?_
         intro wp h9 ht
         have HL1p := Lib.hid (HL1.out.touch ht (by simp))
         have HL2p := Lib.hid (LentM.box HL2.out ht A9.out (by decide))
         have HL3p := Lib.hid (Lent.box HL3.out ht A9.out (by decide))
         have A10p := Lib.hid (ht.whole A10.out (fun hm => NE.out (List.mem_singleton.1 hm).symm))
         have HBXp := Lib.hid (HBX.out.trans (ht.below (fun k hk => by rw [List.mem_singleton.1 hk]; exact N9.out) HBX.out.size))
         have HGX := Lib.hid (ht.whole HGX.out (fun hm => by have h1 := List.mem_singleton.1 hm; have h2 := N9.out; have h3 := NG5.out; omega))
         have HSX := Lib.hid (ht.whole HSX.out (fun hm => by have h1 := List.mem_singleton.1 hm; have h2 := N9.out; have h3 := NG5.out; omega))
         have KX := Lib.hid (KF.out _ HGX.out HSX.out)
         have A9p := Lib.hid h9
         clear ht h9
         refine hK.out _ _ KX.out (fun hHeld => ?_)
         clear hK K hHeld
         try simp only [Act.put, sx1, sx2, sx3]
         refine wpAnyH_ready (rs := [9]) (by kernel_rfl) (by simp) ?_
         refine AllReadyH.cons rfl (fun K hK => ?_) ?_
         ·refine Mach.step_st_state (by rfl) _ _ rfl g10 _ rfl rfl _ A10p.out rfl rfl (all_one rfl rfl rfl) ?_
          intro wq h10 ht
          have HP5 := Lib.hid (show P5 w5 wq t ⟨ip1, shn, st, bk, me, ou, inn, rd, st1, cd⟩ wl g9 g10 ui uo uc _ _ _ _ from ⟨_, _, _, gw, kw, ht.whole A9p.out (fun hm => NE.out (List.mem_singleton.1 hm)), h10, (HL1p.out.touch ht (by simp)).t, LentM.box HL2p.out ht A10p.out (by decide), rfl, Lent.box HL3p.out ht A10p.out (by decide), HBXp.out.trans (ht.below (fun k hk => by rw [List.mem_singleton.1 hk]; exact N10.out) HBXp.out.size)⟩)
          have HGX := Lib.hid (ht.whole HGX.out (fun hm => by have h1 := List.mem_singleton.1 hm; have h2 := N10.out; have h3 := NG5.out; omega))
          have HSX := Lib.hid (ht.whole HSX.out (fun hm => by have h1 := List.mem_singleton.1 hm; have h2 := N10.out; have h3 := NG5.out; omega))
          have KX := Lib.hid (KF.out _ HGX.out HSX.out)
          clear ht h10
          refine hK.out _ _ KX.out (fun hHeld => ?_)
          clear hK K hHeld
          try simp only [Act.put, sx1, sx2, sx3]
          refine wpAnyH_take (i := 10) (oi := ⟨some 11, _, _, _, _, _⟩) (v := ?_) rfl (by kernel_rfl) (by kernel_rfl) (by kernel_rfl) (fun _ _ _ h => h) (Or.inl ⟨by rfl, ?_⟩) KX.out ?_; rotate_left; · intro w hSw; (try dsimp only at hSw); go_simp; try with_reducible rfl
          try simp only [Act.put, sx1, sx2, sx3]
          refine wpAnyH_done (by kernel_rfl) ?_ _
          go_wp2_with fail
          go_meet
          exact ⟨_, _, _, _, _, _, _, _, _, rfl, rfl, rfl, HP5⟩
         ·exact AllReadyH.nil
        ·exact AllReadyH.nil
       exact AllReadyH.nil
      exact AllReadyH.nil
     refine AllReadyH.cons rfl (fun K hK => ?_) ?_
     ·refine step_alloc_tr (by rfl) rfl ?_
      intro g9 wn hg hnew hb
      have N9 := Lib.hid (show w5.heap.size ≤ g9 by rw [← hg]; exact HBX.out.size)
      have NE := Lib.hid (show g9 ≠ g10 by have h := whole_lt A10.out; omega)
      have HL1n := Lib.hid (HL1.out.add hb (Nat.le_of_eq hg))
      try have HL1 := Lib.hid (HL1.out.below hb)
      try have HL2 := Lib.hid (HL2.out.below hb)
      try have HL3 := Lib.hid (Mach.Lent.below HL3.out hb)
      try have A9 := Lib.hid (boxOn A9.out hb)
      try have A10 := Lib.hid (boxOn A10.out hb)
      have HBX := Lib.hid (HBX.out.trans (hb.mono HBX.out.size))
      have HGX := Lib.hid (boxOn HGX.out hb)
      have HSX := Lib.hid (boxOn HSX.out hb)
      have KX := Lib.hid (KF.out _ HGX.out HSX.out)
      have HL1 := HL1n
      have A9 := Lib.hid hnew
      clear hg hnew hb
      refine hK.out _ _ KX.out (fun hHeld => ?_)
      clear hK K hHeld
      try simp only [Act.put, sx1, sx2, sx3]
      refine wpAnyH_ready (rs := [3]) (by kernel_rfl) (by simp) ?_
      refine AllReadyH.cons rfl (fun K hK => ?_) ?_
      ·go_simp
       go_at_call 28
       refine (CB.out _ HBX.out).mono ?_
       rintro e wn ⟨v2, rfl, hl, hb⟩
       try have HL1 := Lib.hid (HL1.out.below hb)
       try have HL2 := Lib.hid (HL2.out.below hb)
       try have HL3 := Lib.hid (Mach.Lent.below HL3.out hb)
       try have A9 := Lib.hid (boxOn A9.out hb)
       try have A10 := Lib.hid (boxOn A10.out hb)
       have HBX := Lib.hid (HBX.out.trans (hb.mono HBX.out.size))
       have HGX := Lib.hid (boxOn HGX.out hb)
       have HSX := Lib.hid (boxOn HSX.out hb)
       have KX := Lib.hid (KF.out _ HGX.out HSX.out)
       have HL2 := Lib.hid hl
       clear hl hb
       try dsimp only
       go_wp2_with fail
       refine hK.out _ _ KX.out (fun hHeld => ?_)
       clear hK K hHeld
       try simp only [Act.put, sx1, sx2, sx3]
       refine wpAnyH_ready (rs := [5]) (by kernel_rfl) (by simp) ?_
       refine AllReadyH.cons rfl (fun K hK => ?_) ?_
       ·go_simp
        go_at_call 29
        refine (CC.out _ HBX.out).mono ?_
        rintro e wn ⟨gw, kw, rfl, hl, hb⟩
        try have HL1 := Lib.hid (HL1.out.below hb)
        try have HL2 := Lib.hid (HL2.out.below hb)
        try have HL3 := Lib.hid (Mach.Lent.below HL3.out hb)
        try have A9 := Lib.hid (boxOn A9.out hb)
        try have A10 := Lib.hid (boxOn A10.out hb)
        have HBX := Lib.hid (HBX.out.trans (hb.mono HBX.out.size))
        have HGX := Lib.hid (boxOn HGX.out hb)
        have HSX := Lib.hid (boxOn HSX.out hb)
        have KX := Lib.hid (KF.out _ HGX.out HSX.out)
        have HL3 := Lib.hid hl
        clear hl hb
        try dsimp only
        go_wp2_with fail
        refine hK.out _ _ KX.out (fun hHeld => ?_)
        clear hK K hHeld
        try simp only [Act.put, sx1, sx2, sx3]
        obtain ⟨ui, uo, uc, hv1, o1, o2, o3⟩ := HV1.out
        subst hv1
        obtain ⟨s1, k1, s2, k2, s3, k3, hv2, hl1, hl2, hl3⟩ := id HL2.out
        subst hv2
        refine wpAnyH_ready (rs := [8]) (by kernel_rfl) (by simp) ?_
        refine AllReadyH.cons rfl (fun K hK => ?_) ?_
        ·refine step_st_tr (by rfl) _ _ rfl g9 _ rfl rfl _ A9.out rfl rfl (tr_one o1 o2 o3) ?_
         intro wp h9 ht
         have HL1p := Lib.hid (HL1.out.touch ht (by simp))
         have HL2p := Lib.hid (LentM.box HL2.out ht A9.out (by decide))
         have HL3p := Lib.hid (Lent.box HL3.out ht A9.out (by decide))
         have A10p := Lib.hid (ht.whole A10.out (fun hm => NE.out (List.mem_singleton.1 hm).symm))
         have HBXp := Lib.hid (HBX.out.trans (ht.below (fun k hk => by rw [List.mem_singleton.1 hk]; exact N9.out) HBX.out.size))
         have HGX := Lib.hid (ht.whole HGX.out (fun hm => by have h1 := List.mem_singleton.1 hm; have h2 := N9.out; have h3 := NG5.out; omega))
         have HSX := Lib.hid (ht.whole HSX.out (fun hm => by have h1 := List.mem_singleton.1 hm; have h2 := N9.out; have h3 := NG5.out; omega))
         have KX := Lib.hid (KF.out _ HGX.out HSX.out)
         have A9p := Lib.hid h9
         clear ht h9
         refine hK.out _ _ KX.out (fun hHeld => ?_)
         clear hK K hHeld
         try simp only [Act.put, sx1, sx2, sx3]
         refine wpAnyH_ready (rs := [9]) (by kernel_rfl) (by simp) ?_
         refine AllReadyH.cons rfl (fun K hK => ?_) ?_
         ·refine Mach.step_st_state (by rfl) _ _ rfl g10 _ rfl rfl _ A10p.out rfl rfl (all_one rfl rfl rfl) ?_
          intro wq h10 ht
          have HP5 := Lib.hid (show P5 w5 wq t ⟨ip1, shn, st, bk, me, ou, inn, rd, st1, cd⟩ wl g9 g10 ui uo uc _ _ _ _ from ⟨_, _, _, gw, kw, ht.whole A9p.out (fun hm => NE.out (List.mem_singleton.1 hm)), h10, (HL1p.out.touch ht (by simp)).t, LentM.box HL2p.out ht A10p.out (by decide), rfl, Lent.box HL3p.out ht A10p.out (by decide), HBXp.out.trans (ht.below (fun k hk => by rw [List.mem_singleton.1 hk]; exact N10.out) HBXp.out.size)⟩)
          have HGX := Lib.hid (ht.whole HGX.out (fun hm => by have h1 := List.mem_singleton.1 hm; have h2 := N10.out; have h3 := NG5.out; omega))
          have HSX := Lib.hid (ht.whole HSX.out (fun hm => by have h1 := List.mem_singleton.1 hm; have h2 := N10.out; have h3 := NG5.out; omega))
          have KX := Lib.hid (KF.out _ HGX.out HSX.out)
          clear ht h10
          refine hK.out _ _ KX.out (fun hHeld => ?_)
          clear hK K hHeld
          try simp only [Act.put, sx1, sx2, sx3]
          refine wpAnyH_take (i := 10) (oi := ⟨some 11, _, _, _, _, _⟩) (v := ?_) rfl (by kernel_rfl) (by kernel_rfl) (by kernel_rfl) (fun _ _ _ h => h) (Or.inl ⟨by rfl, ?_⟩) KX.out ?_; rotate_left; · intro w hSw; (try dsimp only at hSw); go_simp; try with_reducible rfl
          try simp only [Act.put, sx1, sx2, sx3]
          refine wpAnyH_done (by kernel_rfl) ?_ _
          go_wp2_with fail
          go_meet
          exact ⟨_, _, _, _, _, _, _, _, _, rfl, rfl, rfl, HP5⟩
         ·exact AllReadyH.nil
        ·exact AllReadyH.nil
       exact AllReadyH.nil
      exact AllReadyH.nil
     exact AllReadyH.nil
    exact AllReadyH.nil
   refine AllReadyH.cons rfl (fun K hK => ?_) ?_
   ·refine step_alloc_tr (by rfl) rfl ?_
    intro g9 wn hg hnew hb
    have N9 := Lib.hid (show w5.heap.size ≤ g9 by rw [← hg]; exact HBX.out.size)
    try have HL1 := Lib.hid (HL1.out.below hb)
    try have HL2 := Lib.hid (HL2.out.below hb)
    try have HL3 := Lib.hid (Mach.Lent.below HL3.out hb)
    try have A9 := Lib.hid (boxOn A9.out hb)
    try have A10 := Lib.hid (boxOn A10.out hb)
    have HBX := Lib.hid (HBX.out.trans (hb.mono HBX.out.size))
    have HGX := Lib.hid (boxOn HGX.out hb)
    have HSX := Lib.hid (boxOn HSX.out hb)
    have KX := Lib.hid (KF.out _ HGX.out HSX.out)
    have A9 := Lib.hid hnew
    clear hg hnew hb
    refine hK.out _ _ KX.out (fun hHeld => ?_)
    clear hK K hHeld
    try simp only [Act.put, sx1, sx2, sx3]
    refine wpAnyH_ready (rs := [1, 7]) (by kernel_rfl) (by simp) ?_
    refine AllReadyH.cons rfl (fun K hK => ?_) ?_
    ·go_simp
     go_at_call 7
     refine (CA.out [g9] _ HBX.out (fun q hq => by rw [List.mem_singleton.1 hq]; exact ⟨N9.out, whole_lt A9.out⟩)).mono ?_
     rintro e wn ⟨v1, rfl, hl, hb⟩
     try have HL1 := Lib.hid (HL1.out.below hb)
     try have HL2 := Lib.hid (HL2.out.below hb)
     try have HL3 := Lib.hid (Mach.Lent.below HL3.out hb)
     try have A9 := Lib.hid (boxOn A9.out hb)
     try have A10 := Lib.hid (boxOn A10.out hb)
     have HBX := Lib.hid (HBX.out.trans (hb.mono HBX.out.size))
     have HGX := Lib.hid (boxOn HGX.out hb)
     have HSX := Lib.hid (boxOn HSX.out hb)
     have KX := Lib.hid (KF.out _ HGX.out HSX.out)
     have HL1 := Lib.hid hl
     have HV1 := Lib.hid (tq_form hl)
     clear hl hb
     try dsimp only
     go_wp2_with fail
     refine hK.out _ _ KX.out (fun hHeld => ?_)
     clear hK K hHeld
     try simp only [Act.put, sx1, sx2, sx3]
     refine wpAnyH_ready (rs := [3, 7]) (by kernel_rfl) (by simp) ?_
     refine AllReadyH.cons rfl (fun K hK => ?_) ?_
     ·go_simp
      go_at_call 28
      refine (CB.out _ HBX.out).mono ?_
      rintro e wn ⟨v2, rfl, hl, hb⟩
      try have HL1 := Lib.hid (HL1.out.below hb)
      try have HL2 := Lib.hid (HL2.out.below hb)
      try have HL3 := Lib.hid (Mach.Lent.below HL3.out hb)
      try have A9 := Lib.hid (boxOn A9.out hb)
      try have A10 := Lib.hid (boxOn A10.out hb)
      have HBX := Lib.hid (HBX.out.trans (hb.mono HBX.out.size))
      have HGX := Lib.hid (boxOn HGX.out hb)
      have HSX := Lib.hid (boxOn HSX.out hb)
      have KX := Lib.hid (KF.out _ HGX.out HSX.out)
      have HL2 := Lib.hid hl
      clear hl hb
      try dsimp only
      go_wp2_with fail
      refine hK.out _ _ KX.out (fun hHeld => ?_)
      clear hK K hHeld
      try simp only [Act.put, sx1, sx2, sx3]
      refine wpAnyH_ready (rs := [5, 7]) (by kernel_rfl) (by simp) ?_
      refine AllReadyH.cons rfl (fun K hK => ?_) ?_
      ·go_simp
       go_at_call 29
       refine (CC.out _ HBX.out).mono ?_
       rintro e wn ⟨gw, kw, rfl, hl, hb⟩
       try have HL1 := Lib.hid (HL1.out.below hb)
       try have HL2 := Lib.hid (HL2.out.below hb)
       try have HL3 := Lib.hid (Mach.Lent.below HL3.out hb)
       try have A9 := Lib.hid (boxOn A9.out hb)
       try have A10 := Lib.hid (boxOn A10.out hb)
       have HBX := Lib.hid (HBX.out.trans (hb.mono HBX.out.size))
       have HGX := Lib.hid (boxOn HGX.out hb)
       have HSX := Lib.hid (boxOn HSX.out hb)
       have KX := Lib.hid (KF.out _ HGX.out HSX.out)
       have HL3 := Lib.hid hl
       clear hl hb
       try dsimp only
       go_wp2_with fail
       refine hK.out _ _ KX.out (fun hHeld => ?_)
       clear hK K hHeld
       try simp only [Act.put, sx1, sx2, sx3]
       refine wpAnyH_ready (rs := [7]) (by kernel_rfl) (by simp) ?_
       refine AllReadyH.cons rfl (fun K hK => ?_) ?_
       ·refine Mach.step_alloc_state (by rfl) rfl ?_
        intro g10 wn hg hnew hb
        have N10 := Lib.hid (show w5.heap.size ≤ g10 by rw [← hg]; exact HBX.out.size)
        have NE := Lib.hid (show g9 ≠ g10 by have h := whole_lt A9.out; omega)
        have HL1n := Lib.hid (HL1.out.add hb (Nat.le_of_eq hg))
        try have HL1 := Lib.hid (HL1.out.below hb)
        try have HL2 := Lib.hid (HL2.out.below hb)
        try have HL3 := Lib.hid (Mach.Lent.below HL3.out hb)
        try have A9 := Lib.hid (boxOn A9.out hb)
        try have A10 := Lib.hid (boxOn A10.out hb)
        have HBX := Lib.hid (HBX.out.trans (hb.mono HBX.out.size))
        have HGX := Lib.hid (boxOn HGX.out hb)
        have HSX := Lib.hid (boxOn HSX.out hb)
        have KX := Lib.hid (KF.out _ HGX.out HSX.out)
        have HL1 := HL1n
        have A10 := Lib.hid hnew
        clear hg hnew hb
        refine hK.out _ _ KX.out (fun hHeld => ?_)
        clear hK K hHeld
        try simp only [Act.put, sx1, sx2, sx3]
        obtain ⟨ui, uo, uc, hv1, o1, o2, o3⟩ := HV1.out
        subst hv1
        obtain ⟨s1, k1, s2, k2, s3, k3, hv2, hl1, hl2, hl3⟩ := id HL2.out
        subst hv2
        refine wpAnyH_ready (rs := [8]) (by kernel_rfl) (by simp) ?_
        refine AllReadyH.cons rfl (fun K hK => ?_) ?_
        ·refine step_st_tr (by rfl) _ _ rfl g9 _ rfl rfl _ A9.out rfl rfl (tr_one o1 o2 o3) ?_
         intro wp h9 ht
         have HL1p := Lib.hid (HL1.out.touch ht (by simp))
         have HL2p := Lib.hid (LentM.box HL2.out ht A9.out (by decide))
         have HL3p := Lib.hid (Lent.box HL3.out ht A9.out (by decide))
         have A10p := Lib.hid (ht.whole A10.out (fun hm => NE.out (List.mem_singleton.1 hm).symm))
         have HBXp := Lib.hid (HBX.out.trans (ht.below (fun k hk => by rw [List.mem_singleton.1 hk]; exact N9.out) HBX.out.size))
         have HGX := Lib.hid (ht.whole HGX.out (fun hm => by have h1 := List.mem_singleton.1 hm; have h2 := N9.out; have h3 := NG5.out; omega))
         have HSX := Lib.hid (ht.whole HSX.out (fun hm => by have h1 := List.mem_singleton.1 hm; have h2 := N9.out; have h3 := NG5.out; omega))
         have KX := Lib.hid (KF.out _ HGX.out HSX.out)
         have A9p := Lib.hid h9
         clear ht h9
         refine hK.out _ _ KX.out (fun hHeld => ?_)
         clear hK K hHeld
         try simp only [Act.put, sx1, sx2, sx3]
         refine wpAnyH_ready (rs := [9]) (by kernel_rfl) (by simp) ?_
         refine AllReadyH.cons rfl (fun K hK => ?_) ?_
         ·refine Mach.step_st_state (by rfl) _ _ rfl g10 _ rfl rfl _ A10p.out rfl rfl (all_one rfl rfl rfl) ?_
          intro wq h10 ht
          have HP5 := Lib.hid (show P5 w5 wq t ⟨ip1, shn, st, bk, me, ou, inn, rd, st1, cd⟩ wl g9 g10 ui uo uc _ _ _ _ from ⟨_, _, _, gw, kw, ht.whole A9p.out (fun hm => NE.out (List.mem_singleton.1 hm)), h10, (HL1p.out.touch ht (by simp)).t, LentM.box HL2p.out ht A10p.out (by decide), rfl, Lent.box HL3p.out ht A10p.out (by decide), HBXp.out.trans (ht.below (fun k hk => by rw [List.mem_singleton.1 hk]; exact N10.out) HBXp.out.size)⟩)
          have HGX := Lib.hid (ht.whole HGX.out (fun hm => by have h1 := List.mem_singleton.1 hm; have h2 := N10.out; have h3 := NG5.out; omega))
          have HSX := Lib.hid (ht.whole HSX.out (fun hm => by have h1 := List.mem_singleton.1 hm; have h2 := N10.out; have h3 := NG5.out; omega))
          have KX := Lib.hid (KF.out _ HGX.out HSX.out)
          clear ht h10
          refine hK.out _ _ KX.out (fun hHeld => ?_)
          clear hK K hHeld
          try simp only [Act.put, sx1, sx2, sx3]
          refine wpAnyH_take (i := 10) (oi := ⟨some 11, _, _, _, _, _⟩) (v := ?_) rfl (by kernel_rfl) (by kernel_rfl) (by kernel_rfl) (fun _ _ _ h => h) (Or.inl ⟨by rfl, ?_⟩) KX.out ?_; rotate_left; · intro w hSw; (try dsimp only at hSw); go_simp; try with_reducible rfl
          try simp only [Act.put, sx1, sx2, sx3]
          refine wpAnyH_done (by kernel_rfl) ?_ _
          go_wp2_with fail
          go_meet
          exact ⟨_, _, _, _, _, _, _, _, _, rfl, rfl, rfl, HP5⟩
         ·exact AllReadyH.nil
        ·exact AllReadyH.nil
       exact AllReadyH.nil
      refine AllReadyH.cons rfl (fun K hK => ?_) ?_
      ·refine Mach.step_alloc_state (by rfl) rfl ?_
       intro g10 wn hg hnew hb
       have N10 := Lib.hid (show w5.heap.size ≤ g10 by rw [← hg]; exact HBX.out.size)
       have NE := Lib.hid (show g9 ≠ g10 by have h := whole_lt A9.out; omega)
       have HL1n := Lib.hid (HL1.out.add hb (Nat.le_of_eq hg))
       try have HL1 := Lib.hid (HL1.out.below hb)
       try have HL2 := Lib.hid (HL2.out.below hb)
       try have HL3 := Lib.hid (Mach.Lent.below HL3.out hb)
       try have A9 := Lib.hid (boxOn A9.out hb)
       try have A10 := Lib.hid (boxOn A10.out hb)
       have HBX := Lib.hid (HBX.out.trans (hb.mono HBX.out.size))
       have HGX := Lib.hid (boxOn HGX.out hb)
       have HSX := Lib.hid (boxOn HSX.out hb)
       have KX := Lib.hid (KF.out _ HGX.out HSX.out)
       have HL1 := HL1n
       have A10 := Lib.hid hnew
       clear hg hnew hb
       refine hK.out _ _ KX.out (fun hHeld => ?_)
       clear hK K hHeld
       try simp only [Act.put, sx1, sx2, sx3]
       refine wpAnyH_ready (rs := [5]) (by kernel_rfl) (by simp) ?_
       refine AllReadyH.cons rfl (fun K hK => ?_) ?_
       ·go_simp
        go_at_call 29
        refine (CC.out _ HBX.out).mono ?_
        rintro e wn ⟨gw, kw, rfl, hl, hb⟩
        try have HL1 := Lib.hid (HL1.out.below hb)
        try have HL2 := Lib.hid (HL2.out.below hb)
        try have HL3 := Lib.hid (Mach.Lent.below HL3.out hb)
        try have A9 := Lib.hid (boxOn A9.out hb)
        try have A10 := Lib.hid (boxOn A10.out hb)
        have HBX := Lib.hid (HBX.out.trans (hb.mono HBX.out.size))
        have HGX := Lib.hid (boxOn HGX.out hb)
        have HSX := Lib.hid (boxOn HSX.out hb)
        have KX := Lib.hid (KF.out _ HGX.out HSX.out)
        have HL3 := Lib.hid hl
        clear hl hb
        try dsimp only
        go_wp2_with fail
        refine hK.out _ _ KX.out (fun hHeld => ?_)
        clear hK K hHeld
        try simp only [Act.put, sx1, sx2, sx3]
        obtain ⟨ui, uo, uc, hv1, o1, o2, o3⟩ := HV1.out
        subst hv1
        obtain ⟨s1, k1, s2, k2, s3, k3, hv2, hl1, hl2, hl3⟩ := id HL2.out
        subst hv2
        refine wpAnyH_ready (rs := [8]) (by kernel_rfl) (by simp) ?_
        refine AllReadyH.cons rfl (fun K hK => ?_) ?_
        ·refine step_st_tr (by rfl) _ _ rfl g9 _ rfl rfl _ A9.out rfl rfl (tr_one o1 o2 o3) ?_
         intro wp h9 ht
         have HL1p := Lib.hid (HL1.out.touch ht (by simp))
         have HL2p := Lib.hid (LentM.box HL2.out ht A9.out (by decide))
         have HL3p := Lib.hid (Lent.box HL3.out ht A9.out (by decide))
         have A10p := Lib.hid (ht.whole A10.out (fun hm => NE.out (List.mem_singleton.1 hm).symm))
         have HBXp := Lib.hid (HBX.out.trans (ht.below (fun k hk => by rw [List.mem_singleton.1 hk]; exact N9.out) HBX.out.size))
         have HGX := Lib.hid (ht.whole HGX.out (fun hm => by have h1 := List.mem_singleton.1 hm; have h2 := N9.out; have h3 := NG5.out; omega))
         have HSX := Lib.hid (ht.whole HSX.out (fun hm => by have h1 := List.mem_singleton.1 hm; have h2 := N9.out; have h3 := NG5.out; omega))
         have KX := Lib.hid (KF.out _ HGX.out HSX.out)
         have A9p := Lib.hid h9
         clear ht h9
         refine hK.out _ _ KX.out (fun hHeld => ?_)
         clear hK K hHeld
         try simp only [Act.put, sx1, sx2, sx3]
         refine wpAnyH_ready (rs := [9]) (by kernel_rfl) (by simp) ?_
         refine AllReadyH.cons rfl (fun K hK => ?_) ?_
         ·refine Mach.step_st_state (by rfl) _ _ rfl g10 _ rfl rfl _ A10p.out rfl rfl (all_one rfl rfl rfl) ?_
          intro wq h10 ht
          have HP5 := Lib.hid (show P5 w5 wq t ⟨ip1, shn, st, bk, me, ou, inn, rd, st1, cd⟩ wl g9 g10 ui uo uc _ _ _ _ from ⟨_, _, _, gw, kw, ht.whole A9p.out (fun hm => NE.out (List.mem_singleton.1 hm)), h10, (HL1p.out.touch ht (by simp)).t, LentM.box HL2p.out ht A10p.out (by decide), rfl, Lent.box HL3p.out ht A10p.out (by decide), HBXp.out.trans (ht.below (fun k hk => by rw [List.mem_singleton.1 hk]; exact N10.out) HBXp.out.size)⟩)
          have HGX := Lib.hid (ht.whole HGX.out (fun hm => by have h1 := List.mem_singleton.1 hm; have h2 := N10.out; have h3 := NG5.out; omega))
          have HSX := Lib.hid (ht.whole HSX.out (fun hm => by have h1 := List.mem_singleton.1 hm; have h2 := N10.out; have h3 := NG5.out; omega))
          have KX := Lib.hid (KF.out _ HGX.out HSX.out)
          clear ht h10
          refine hK.out _ _ KX.out (fun hHeld => ?_)
          clear hK K hHeld
          try simp only [Act.put, sx1, sx2, sx3]
          refine wpAnyH_take (i := 10) (oi := ⟨some 11, _, _, _, _, _⟩) (v := ?_) rfl (by kernel_rfl) (by kernel_rfl) (by kernel_rfl) (fun _ _ _ h => h) (Or.inl ⟨by rfl, ?_⟩) KX.out ?_; rotate_left; · intro w hSw; (try dsimp only at hSw); go_simp; try with_reducible rfl
          try simp only [Act.put, sx1, sx2, sx3]
          refine wpAnyH_done (by kernel_rfl) ?_ _
          go_wp2_with fail
          go_meet
          exact ⟨_, _, _, _, _, _, _, _, _, rfl, rfl, rfl, HP5⟩
         ·exact AllReadyH.nil
        ·exact AllReadyH.nil
       exact AllReadyH.nil
      exact AllReadyH.nil
     refine AllReadyH.cons rfl (fun K hK => ?_) ?_
     ·refine Mach.step_alloc_state (by rfl) rfl ?_
      intro g10 wn hg hnew hb
      have N10 := Lib.hid (show w5.heap.size ≤ g10 by rw [← hg]; exact HBX.out.size)
      have NE := Lib.hid (show g9 ≠ g10 by have h := whole_lt A9.out; omega)
      have HL1n := Lib.hid (HL1.out.add hb (Nat.le_of_eq hg))
      try have HL1 := Lib.hid (HL1.out.below hb)
      try have HL2 := Lib.hid (HL2.out.below hb)
      try have HL3 := Lib.hid (Mach.Lent.below HL3.out hb)
      try have A9 := Lib.hid (boxOn A9.out hb)
      try have A10 := Lib.hid (boxOn A10.out hb)
      have HBX := Lib.hid (HBX.out.trans (hb.mono HBX.out.size))
      have HGX := Lib.hid (boxOn HGX.out hb)
      have HSX := Lib.hid (boxOn HSX.out hb)
      have KX := Lib.hid (KF.out _ HGX.out HSX.out)
      have HL1 := HL1n
      have A10 := Lib.hid hnew
      clear hg hnew hb
      refine hK.out _ _ KX.out (fun hHeld => ?_)
      clear hK K hHeld
      try simp only [Act.put, sx1, sx2, sx3]
      refine wpAnyH_ready (rs := [3]) (by kernel_rfl) (by simp) ?_
      refine AllReadyH.cons rfl (fun K hK => ?_) ?_
      ·go_simp
       go_at_call 28
       refine (CB.out _ HBX.out).mono ?_
       rintro e wn ⟨v2, rfl, hl, hb⟩
       try have HL1 := Lib.hid (HL1.out.below hb)
       try have HL2 := Lib.hid (HL2.out.below hb)
       try have HL3 := Lib.hid (Mach.Lent.below HL3.out hb)
       try have A9 := Lib.hid (boxOn A9.out hb)
       try have A10 := Lib.hid (boxOn A10.out hb)
       have HBX := Lib.hid (HBX.out.trans (hb.mono HBX.out.size))
       have HGX := Lib.hid (boxOn HGX.out hb)
       have HSX := Lib.hid (boxOn HSX.out hb)
       have KX := Lib.hid (KF.out _ HGX.out HSX.out)
       have HL2 := Lib.hid hl
       clear hl hb
       try dsimp only
       go_wp2_with fail
       refine hK.out _ _ KX.out (fun hHeld => ?_)
       clear hK K hHeld
       try simp only [Act.put, sx1, sx2, sx3]
       refine wpAnyH_ready (rs := [5]) (by kernel_rfl) (by simp) ?_
       refine AllReadyH.cons rfl (fun K hK => ?_) ?_
       ·go_simp
        go_at_call 29
        refine (CC.out _ HBX.out).mono ?_
        rintro e wn ⟨gw, kw, rfl, hl, hb⟩
        try have HL1 := Lib.hid (HL1.out.below hb)
        try have HL2 := Lib.hid (HL2.out.below hb)
        try have HL3 := Lib.hid (Mach.Lent.below HL3.out hb)
        try have A9 := Lib.hid (boxOn A9.out hb)
        try have A10 := Lib.hid (boxOn A10.out hb)
        have HBX := Lib.hid (HBX.out.trans (hb.mono HBX.out.size))
        have HGX := Lib.hid (boxOn HGX.out hb)
        have HSX := Lib.hid (boxOn HSX.out hb)
        have KX := Lib.hid (KF.out _ HGX.out HSX.out)
        have HL3 := Lib.hid hl
        clear hl hb
        try dsimp only
        go_wp2_with fail
        refine hK.out _ _ KX.out (fun hHeld => ?_)
        clear hK K hHeld
        try simp only [Act.put, sx1, sx2, sx3]
        obtain ⟨ui, uo, uc, hv1, o1, o2, o3⟩ := HV1.out
        subst hv1
        obtain ⟨s1, k1, s2, k2, s3, k3, hv2, hl1, hl2, hl3⟩ := id HL2.out
        subst hv2
        refine wpAnyH_ready (rs := [8]) (by kernel_rfl) (by simp) ?_
        refine AllReadyH.cons rfl (fun K hK => ?_) ?_
        ·refine step_st_tr (by rfl) _ _ rfl g9 _ rfl rfl _ A9.out rfl rfl (tr_one o1 o2 o3) ?_
         intro wp h9 ht
         have HL1p := Lib.hid (HL1.out.touch ht (by simp))
         have HL2p := Lib.hid (LentM.box HL2.out ht A9.out (by decide))
         have HL3p := Lib.hid (Lent.box HL3.out ht A9.out (by decide))
         have A10p := Lib.hid (ht.whole A10.out (fun hm => NE.out (List.mem_singleton.1 hm).symm))
         have HBXp := Lib.hid (HBX.out.trans (ht.below (fun k hk => by rw [List.mem_singleton.1 hk]; exact N9.out) HBX.out.size))
         have HGX := Lib.hid (ht.whole HGX.out (fun hm => by have h1 := List.mem_singleton.1 hm; have h2 := N9.out; have h3 := NG5.out; omega))
         have HSX := Lib.hid (ht.whole HSX.out (fun hm => by have h1 := List.mem_singleton.1 hm; have h2 := N9.out; have h3 := NG5.out; omega))
         have KX := Lib.hid (KF.out _ HGX.out HSX.out)
         have A9p := Lib.hid h9
         clear ht h9
         refine hK.out _ _ KX.out (fun hHeld => ?_)
         clear hK K hHeld
         try simp only [Act.put, sx1, sx2, sx3]
         refine wpAnyH_ready (rs := [9]) (by kernel_rfl) (by simp) ?_
         refine AllReadyH.cons rfl (fun K hK => ?_) ?_
         ·refine Mach.step_st_state (by rfl) _ _ rfl g10 _ rfl rfl _ A10p.out rfl rfl (all_one rfl rfl rfl) ?_
          intro wq h10 ht
          have HP5 := Lib.hid (show P5 w5 wq t ⟨ip1, shn, st, bk, me, ou, inn, rd, st1, cd⟩ wl g9 g10 ui uo uc _ _ _ _ from ⟨_, _, _, gw, kw, ht.whole A9p.out (fun hm => NE.out (List.mem_singleton.1 hm)), h10, (HL1p.out.touch ht (by simp)).t, LentM.box HL2p.out ht A10p.out (by decide), rfl, Lent.box HL3p.out ht A10p.out (by decide), HBXp.out.trans (ht.below (fun k hk => by rw [List.mem_singleton.1 hk]; exact N10.out) HBXp.out.size)⟩)
          have HGX := Lib.hid (ht.whole HGX.out (fun hm => by have h1 := List.mem_singleton.1 hm; have h2 := N10.out; have h3 := NG5.out; omega))
          have HSX := Lib.hid (ht.whole HSX.out (fun hm => by have h1 := List.mem_singleton.1 hm; have h2 := N10.out; have h3 := NG5.out; omega))
          have KX := Lib.hid (KF.out _ HGX.out HSX.out)
          clear ht h10
          refine hK.out _ _ KX.out (fun hHeld => ?_)
          clear hK K hHeld
          try simp only [Act.put, sx1, sx2, sx3]
          refine wpAnyH_take (i := 10) (oi := ⟨some 11, _, _, _, _, _⟩) (v := ?_) rfl (by kernel_rfl) (by kernel_rfl) (by kernel_rfl) (fun _ _ _ h => h) (Or.inl ⟨by rfl, ?_⟩) KX.out ?_; rotate_left; · intro w hSw; (try dsimp only at hSw); go_simp; try with_reducible rfl
          try simp only [Act.put, sx1, sx2, sx3]
          refine wpAnyH_done (by kernel_rfl) ?_ _
          go_wp2_with fail
          go_meet
          exact ⟨_, _, _, _, _, _, _, _, _, rfl, rfl, rfl, HP5⟩
         ·exact AllReadyH.nil
        ·exact AllReadyH.nil
       exact AllReadyH.nil
      exact AllReadyH.nil
     exact AllReadyH.nil
    refine AllReadyH.cons rfl (fun K hK => ?_) ?_
    ·refine Mach.step_alloc_state (by rfl) rfl ?_
     intro g10 wn hg hnew hb
     have N10 := Lib.hid (show w5.heap.size ≤ g10 by rw [← hg]; exact HBX.out.size)
     have NE := Lib.hid (show g9 ≠ g10 by have h := whole_lt A9.out; omega)
     try have HL1 := Lib.hid (HL1.out.below hb)
     try have HL2 := Lib.hid (HL2.out.below hb)
     try have HL3 := Lib.hid (Mach.Lent.below HL3.out hb)
     try have A9 := Lib.hid (boxOn A9.out hb)
     try have A10 := Lib.hid (boxOn A10.out hb)
     have HBX := Lib.hid (HBX.out.trans (hb.mono HBX.out.size))
     have HGX := Lib.hid (boxOn HGX.out hb)
     have HSX := Lib.hid (boxOn HSX.out hb)
     have KX := Lib.hid (KF.out _ HGX.out HSX.out)
     have A10 := Lib.hid hnew
     clear hg hnew hb
     refine hK.out _ _ KX.out (fun hHeld => ?_)
     clear hK K hHeld
     try simp only [Act.put, sx1, sx2, sx3]
     refine wpAnyH_ready (rs := [1]) (by kernel_rfl) (by simp) ?_
     refine AllReadyH.cons rfl (fun K hK => ?_) ?_
     ·go_simp
      go_at_call 7
      refine (CA.out [g9, g10] _ HBX.out (fun q hq => by
        rcases List.mem_cons.1 hq with h | hq
        ·rw [h]; exact ⟨N9.out, whole_lt A9.out⟩
        ·rw [List.mem_singleton.1 hq]; exact ⟨N10.out, whole_lt A10.out⟩)).mono ?_
      rintro e wn ⟨v1, rfl, hl, hb⟩
      try have HL1 := Lib.hid (HL1.out.below hb)
      try have HL2 := Lib.hid (HL2.out.below hb)
      try have HL3 := Lib.hid (Mach.Lent.below HL3.out hb)
      try have A9 := Lib.hid (boxOn A9.out hb)
      try have A10 := Lib.hid (boxOn A10.out hb)
      have HBX := Lib.hid (HBX.out.trans (hb.mono HBX.out.size))
      have HGX := Lib.hid (boxOn HGX.out hb)
      have HSX := Lib.hid (boxOn HSX.out hb)
      have KX := Lib.hid (KF.out _ HGX.out HSX.out)
      have HL1 := Lib.hid hl
      have HV1 := Lib.hid (tq_form hl)
      clear hl hb
      try dsimp only
      go_wp2_with fail
      refine hK.out _ _ KX.out (fun hHeld => ?_)
      clear hK K hHeld
      try simp only [Act.put, sx1, sx2, sx3]
      refine wpAnyH_ready (rs := [3]) (by kernel_rfl) (by simp) ?_
      refine AllReadyH.cons rfl (fun K hK => ?_) ?_
      ·go_simp
       go_at_call 28
       refine (CB.out _ HBX.out).mono ?_
       rintro e wn ⟨v2, rfl, hl, hb⟩
       try have HL1 := Lib.hid (HL1.out.below hb)
       try have HL2 := Lib.hid (HL2.out.below hb)
       try have HL3 := Lib.hid (Mach.Lent.below HL3.out hb)
       try have A9 := Lib.hid (boxOn A9.out hb)
       try have A10 := Lib.hid (boxOn A10.out hb)
       have HBX := Lib.hid (HBX.out.trans (hb.mono HBX.out.size))
       have HGX := Lib.hid (boxOn HGX.out hb)
       have HSX := Lib.hid (boxOn HSX.out hb)
       have KX := Lib.hid (KF.out _ HGX.out HSX.out)
       have HL2 := Lib.hid hl
       clear hl hb
       try dsimp only
       go_wp2_with fail
       refine hK.out _ _ KX.out (fun hHeld => ?_)
       clear hK K hHeld
       try simp only [Act.put, sx1, sx2, sx3]
       refine wpAnyH_ready (rs := [5]) (by kernel_rfl) (by simp) ?_
       refine AllReadyH.cons rfl (fun K hK => ?_) ?_
       ·go_simp
        go_at_call 29
        refine (CC.out _ HBX.out).mono ?_
        rintro e wn ⟨gw, kw, rfl, hl, hb⟩
        try have HL1 := Lib.hid (HL1.out.below hb)
        try have HL2 := Lib.hid (HL2.out.below hb)
        try have HL3 := Lib.hid (Mach.Lent.below HL3.out hb)
        try have A9 := Lib.hid (boxOn A9.out hb)
        try have A10 := Lib.hid (boxOn A10.out hb)
        have HBX := Lib.hid (HBX.out.trans (hb.mono HBX.out.size))
        have HGX := Lib.hid (boxOn HGX.out hb)
        have HSX := Lib.hid (boxOn HSX.out hb)
        have KX := Lib.hid (KF.out _ HGX.out HSX.out)
        have HL3 := Lib.hid hl
        clear hl hb
        try dsimp only
        go_wp2_with fail
        refine hK.out _ _ KX.out (fun hHeld => ?_)
        clear hK K hHeld
        try simp only [Act.put, sx1, sx2, sx3]
        obtain ⟨ui, uo, uc, hv1, o1, o2, o3⟩ := HV1.out
        subst hv1
        obtain ⟨s1, k1, s2, k2, s3, k3, hv2, hl1, hl2, hl3⟩ := id HL2.out
        subst hv2
        refine wpAnyH_ready (rs := [8]) (by kernel_rfl) (by simp) ?_
        refine AllReadyH.cons rfl (fun K hK => ?_) ?_
        ·refine step_st_tr (by rfl) _ _ rfl g9 _ rfl rfl _ A9.out rfl rfl (tr_one o1 o2 o3) ?_
         intro wp h9 ht
         have HL1p := Lib.hid (HL1.out.touch ht (by simp))
         have HL2p := Lib.hid (LentM.box HL2.out ht A9.out (by decide))
         have HL3p := Lib.hid (Lent.box HL3.out ht A9.out (by decide))
         have A10p := Lib.hid (ht.whole A10.out (fun hm => NE.out (List.mem_singleton.1 hm).symm))
         have HBXp := Lib.hid (HBX.out.trans (ht.below (fun k hk => by rw [List.mem_singleton.1 hk]; exact N9.out) HBX.out.size))
         have HGX := Lib.hid (ht.whole HGX.out (fun hm => by have h1 := List.mem_singleton.1 hm; have h2 := N9.out; have h3 := NG5.out; omega))
         have HSX := Lib.hid (ht.whole HSX.out (fun hm => by have h1 := List.mem_singleton.1 hm; have h2 := N9.out; have h3 := NG5.out; omega))
         have KX := Lib.hid (KF.out _ HGX.out HSX.out)
         have A9p := Lib.hid h9
         clear ht h9
         refine hK.out _ _ KX.out (fun hHeld => ?_)
         clear hK K hHeld
         try simp only [Act.put, sx1, sx2, sx3]
         refine wpAnyH_ready (rs := [9]) (by kernel_rfl) (by simp) ?_
         refine AllReadyH.cons rfl (fun K hK => ?_) ?_
         ·refine Mach.step_st_state (by rfl) _ _ rfl g10 _ rfl rfl _ A10p.out rfl rfl (all_one rfl rfl rfl) ?_
          intro wq h10 ht
          have HP5 := Lib.hid (show P5 w5 wq t ⟨ip1, shn, st, bk, me, ou, inn, rd, st1, cd⟩ wl g9 g10 ui uo uc _ _ _ _ from ⟨_, _, _, gw, kw, ht.whole A9p.out (fun hm => NE.out (List.mem_singleton.1 hm)), h10, (HL1p.out.touch ht (by simp)).t, LentM.box HL2p.out ht A10p.out (by decide), rfl, Lent.box HL3p.out ht A10p.out (by decide), HBXp.out.trans (ht.below (fun k hk => by rw [List.mem_singleton.1 hk]; exact N10.out) HBXp.out.size)⟩)
          have HGX := Lib.hid (ht.whole HGX.out (fun hm => by have h1 := List.mem_singleton.1 hm; have h2 := N10.out; have h3 := NG5.out; omega))
          have HSX := Lib.hid (ht.whole HSX.out (fun hm => by have h1 := List.mem_singleton.1 hm; have h2 := N10.out; have h3 := NG5.out; omega))
          have KX := Lib.hid (KF.out _ HGX.out HSX.out)
          clear ht h10
          refine hK.out _ _ KX.out (fun hHeld => ?_)
          clear hK K hHeld
          try simp only [Act.put, sx1, sx2, sx3]
          refine wpAnyH_take (i := 10) (oi := ⟨some 11, _, _, _, _, _⟩) (v := ?_) rfl (by kernel_rfl) (by kernel_rfl) (by kernel_rfl) (fun _ _ _ h => h) (Or.inl ⟨by rfl, ?_⟩) KX.out ?_; rotate_left; · intro w hSw; (try dsimp only at hSw); go_simp; try with_reducible rfl
          try simp only [Act.put, sx1, sx2, sx3]
          refine wpAnyH_done (by kernel_rfl) ?_ _
          go_wp2_with fail
          go_meet
          exact ⟨_, _, _, _, _, _, _, _, _, rfl, rfl, rfl, HP5⟩
         ·exact AllReadyH.nil
        ·exact AllReadyH.nil
       exact AllReadyH.nil
      exact AllReadyH.nil
     exact AllReadyH.nil
    exact AllReadyH.nil
   refine AllReadyH.cons rfl (fun K hK => ?_) ?_
   ·refine Mach.step_alloc_state (by rfl) rfl ?_
    intro g10 wn hg hnew hb
    have N10 := Lib.hid (show w5.heap.size ≤ g10 by rw [← hg]; exact HBX.out.size)
    try have HL1 := Lib.hid (HL1.out.below hb)
    try have HL2 := Lib.hid (HL2.out.below hb)
    try have HL3 := Lib.hid (Mach.Lent.below HL3.out hb)
    try have A9 := Lib.hid (boxOn A9.out hb)
    try have A10 := Lib.hid (boxOn A10.out hb)
    have HBX := Lib.hid (HBX.out.trans (hb.mono HBX.out.size))
    have HGX := Lib.hid (boxOn HGX.out hb)
    have HSX := Lib.hid (boxOn HSX.out hb)
    have KX := Lib.hid (KF.out _ HGX.out HSX.out)
    have A10 := Lib.hid hnew
    clear hg hnew hb
    refine hK.out _ _ KX.out (fun hHeld => ?_)
    clear hK K hHeld
    try simp only [Act.put, sx1, sx2, sx3]
    refine wpAnyH_ready (rs := [1, 6]) (by kernel_rfl) (by simp) ?_
    refine AllReadyH.cons rfl (fun K hK => ?_) ?_
    ·go_simp
     go_at_call 7
     refine (CA.out [g10] _ HBX.out (fun q hq => by rw [List.mem_singleton.1 hq]; exact ⟨N10.out, whole_lt A10.out⟩)).mono ?_
     rintro e wn ⟨v1, rfl, hl, hb⟩
     try have HL1 := Lib.hid (HL1.out.below hb)
     try have HL2 := Lib.hid (HL2.out.below hb)
     try have HL3 := Lib.hid (Mach.Lent.below HL3.out hb)
     try have A9 := Lib.hid (boxOn A9.out hb)
     try have A10 := Lib.hid (boxOn A10.out hb)
     have HBX := Lib.hid (HBX.out.trans (hb.mono HBX.out.size))
     have HGX := Lib.hid (boxOn HGX.out hb)
     have HSX := Lib.hid (boxOn HSX.out hb)
     have KX := Lib.hid (KF.out _ HGX.out HSX.out)
     have HL1 := Lib.hid hl
     have HV1 := Lib.hid (tq_form hl)
     clear hl hb
     try dsimp only
     go_wp2_with fail
     refine hK.out _ _ KX.out (fun hHeld => ?_)
     clear hK K hHeld
     try simp only [Act.put, sx1, sx2, sx3]
     refine wpAnyH_ready (rs := [3, 6]) (by kernel_rfl) (by simp) ?_
     refine AllReadyH.cons rfl (fun K hK => ?_) ?_
     ·go_simp
      go_at_call 28
      refine (CB.out _ HBX.out).mono ?_
      rintro e wn ⟨v2, rfl, hl, hb⟩
      try have HL1 := Lib.hid (HL1.out.below hb)
      try have HL2 := Lib.hid (HL2.out.below hb)
      try have HL3 := Lib.hid (Mach.Lent.below HL3.out hb)
      try have A9 := Lib.hid (boxOn A9.out hb)
      try have A10 := Lib.hid (boxOn A10.out hb)
      have HBX := Lib.hid (HBX.out.trans (hb.mono HBX.out.size))
      have HGX := Lib.hid (boxOn HGX.out hb)
      have HSX := Lib.hid (boxOn HSX.out hb)
      have KX := Lib.hid (KF.out _ HGX.out HSX.out)
      have HL2 := Lib.hid hl
      clear hl hb
      try dsimp only
      go_wp2_with fail
      refine hK.out _ _ KX.out (fun hHeld => ?_)
      clear hK K hHeld
      try simp only [Act.put, sx1, sx2, sx3]
      refine wpAnyH_ready (rs := [5, 6]) (by kernel_rfl) (by simp) ?_
      refine AllReadyH.cons rfl (fun K hK => ?_) ?_
      ·go_simp
       go_at_call 29
       refine (CC.out _ HBX.out).mono ?_
       rintro e wn ⟨gw, kw, rfl, hl, hb⟩
       try have HL1 := Lib.hid (HL1.out.below hb)
       try have HL2 := Lib.hid (HL2.out.below hb)
       try have HL3 := Lib.hid (Mach.Lent.below HL3.out hb)
       try have A9 := Lib.hid (boxOn A9.out hb)
       try have A10 := Lib.hid (boxOn A10.out hb)
       have HBX := Lib.hid (HBX.out.trans (hb.mono HBX.out.size))
       have HGX := Lib.hid (boxOn HGX.out hb)
       have HSX := Lib.hid (boxOn HSX.out hb)
       have KX := Lib.hid (KF.out _ HGX.out HSX.out)
       have HL3 := Lib.hid hl
       clear hl hb
       try dsimp only
       go_wp2_with fail
       refine hK.out _ _ KX.out (fun hHeld => ?_)
       clear hK K hHeld
       try simp only [Act.put, sx1, sx2, sx3]
       refine wpAnyH_ready (rs := [6]) (by kernel_rfl) (by simp) ?_
       refine AllReadyH.cons rfl (fun K hK => ?_) ?_
       ·refine step_alloc_tr (by rfl) rfl ?_
        intro g9 wn hg hnew hb
        have N9 := Lib.hid (show w5.heap.size ≤ g9 by rw [← hg]; exact HBX.out.size)
        have NE := Lib.hid (show g9 ≠ g10 by have h := whole_lt A10.out; omega)
        have HL1n := Lib.hid (HL1.out.add hb (Nat.le_of_eq hg))
        try have HL1 := Lib.hid (HL1.out.below hb)
        try have HL2 := Lib.hid (HL2.out.below hb)
        try have HL3 := Lib.hid (Mach.Lent.below HL3.out hb)
        try have A9 := Lib.hid (boxOn A9.out hb)
        try have A10 := Lib.hid (boxOn A10.out hb)
        have HBX := Lib.hid (HBX.out.trans (hb.mono HBX.out.size))
        have HGX := Lib.hid (boxOn HGX.out hb)
        have HSX := Lib.hid (boxOn HSX.out hb)
        have KX := Lib.hid (KF.out _ HGX.out HSX.out)
        have HL1 := HL1n
        have A9 := Lib.hid hnew
        clear hg hnew hb
        refine hK.out _ _ KX.out (fun hHeld => ?_)
        clear hK K hHeld
        try simp only [Act.put, sx1, sx2, sx3]
        obtain ⟨ui, uo, uc, hv1, o1, o2, o3⟩ := HV1.out
        subst hv1
        obtain ⟨s1, k1, s2, k2, s3, k3, hv2, hl1, hl2, hl3⟩ := id HL2.out
        subst hv2
        refine wpAnyH_ready (rs := [8]) (by kernel_rfl) (by simp) ?_
        refine AllReadyH.cons rfl (fun K hK => ?_) ?_
        ·refine step_st_tr (by rfl) _ _ rfl g9 _ rfl rfl _ A9.out rfl rfl (tr_one o1 o2 o3) ?_
         intro wp h9 ht
         have HL1p := Lib.hid (HL1.out.touch ht (by simp))
         have HL2p := Lib.hid (LentM.box HL2.out ht A9.out (by decide))
         have HL3p := Lib.hid (Lent.box HL3.out ht A9.out (by decide))
         have A10p := Lib.hid (ht.whole A10.out (fun hm => NE.out (List.mem_singleton.1 hm).symm))
         have HBXp := Lib.hid (HBX.out.trans (ht.below (fun k hk => by rw [List.mem_singleton.1 hk]; exact N9.out) HBX.out.size))
         have HGX := Lib.hid (ht.whole HGX.out (fun hm => by have h1 := List.mem_singleton.1 hm; have h2 := N9.out; have h3 := NG5.out; omega))
         have HSX := Lib.hid (ht.whole HSX.out (fun hm => by have h1 := List.mem_singleton.1 hm; have h2 := N9.out; have h3 := NG5.out; omega))
         have KX := Lib.hid (KF.out _ HGX.out HSX.out)
         have A9p := Lib.hid h9
         clear ht h9
         refine hK.out _ _ KX.out (fun hHeld => ?_)
         clear hK K hHeld
         try simp only [Act.put, sx1, sx2, sx3]
         refine wpAnyH_ready (rs := [9]) (by kernel_rfl) (by simp) ?_
         refine AllReadyH.cons rfl (fun K hK => ?_) ?_
         ·refine Mach.step_st_state (by rfl) _ _ rfl g10 _ rfl rfl _ A10p.out rfl rfl (all_one rfl rfl rfl) ?_
          intro wq h10 ht
          have HP5 := Lib.hid (show P5 w5 wq t ⟨ip1, shn, st, bk, me, ou, inn, rd, st1, cd⟩ wl g9 g10 ui uo uc _ _ _ _ from ⟨_, _, _, gw, kw, ht.whole A9p.out (fun hm => NE.out (List.mem_singleton.1 hm)), h10, (HL1p.out.touch ht (by simp)).t, LentM.box HL2p.out ht A10p.out (by decide), rfl, Lent.box HL3p.out ht A10p.out (by decide), HBXp.out.trans (ht.below (fun k hk => by rw [List.mem_singleton.1 hk]; exact N10.out) HBXp.out.size)⟩)
          have HGX := Lib.hid (ht.whole HGX.out (fun hm => by have h1 := List.mem_singleton.1 hm; have h2 := N10.out; have h3 := NG5.out; omega))
          have HSX := Lib.hid (ht.whole HSX.out (fun hm => by have h1 := List.mem_singleton.1 hm; have h2 := N10.out; have h3 := NG5.out; omega))
          have KX := Lib.hid (KF.out _ HGX.out HSX.out)
          clear ht h10
          refine hK.out _ _ KX.out (fun hHeld => ?_)
          clear hK K hHeld
          try simp only [Act.put, sx1, sx2, sx3]
          refine wpAnyH_take (i := 10) (oi := ⟨some 11, _, _, _, _, _⟩) (v := ?_) rfl (by kernel_rfl) (by kernel_rfl) (by kernel_rfl) (fun _ _ _ h => h) (Or.inl ⟨by rfl, ?_⟩) KX.out ?_; rotate_left; · intro w hSw; (try dsimp only at hSw); go_simp; try with_reducible rfl
          try simp only [Act.put, sx1, sx2, sx3]
          refine wpAnyH_done (by kernel_rfl) ?_ _
          go_wp2_with fail
          go_meet
          exact ⟨_, _, _, _, _, _, _, _, _, rfl, rfl, rfl, HP5⟩
         ·exact AllReadyH.nil
        ·exact AllReadyH.nil
       exact AllReadyH.nil
      refine AllReadyH.cons rfl (fun K hK => ?_) ?_
      ·refine step_alloc_tr (by rfl) rfl ?_
       intro g9 wn hg hnew hb
       have N9 := Lib.hid (show w5.heap.size ≤ g9 by rw [← hg]; exact HBX.out.size)
       have NE := Lib.hid (show g9 ≠ g10 by have h := whole_lt A10.out; omega)
       have HL1n := Lib.hid (HL1.out.add hb (Nat.le_of_eq hg))
       try have HL1 := Lib.hid (HL1.out.below hb)
       try have HL2 := Lib.hid (HL2.out.below hb)
       try have HL3 := Lib.hid (Mach.Lent.below HL3.out hb)
       try have A9 := Lib.hid (boxOn A9.out hb)
       try have A10 := Lib.hid (boxOn A10.out hb)
       have HBX := Lib.hid (HBX.out.trans (hb.mono HBX.out.size))
       have HGX := Lib.hid (boxOn HGX.out hb)
       have HSX := Lib.hid (boxOn HSX.out hb)
       have KX := Lib.hid (KF.out _ HGX.out HSX.out)
       have HL1 := HL1n
       have A9 := Lib.hid hnew
       clear hg hnew hb
       refine hK.out _ _ KX.out (fun hHeld => ?_)
       clear hK K hHeld
       try simp only [Act.put, sx1, sx2, sx3]
       refine wpAnyH_ready (rs := [5]) (by kernel_rfl) (by simp) ?_
       refine AllReadyH.cons rfl (fun K hK => ?_) ?_
       ·go_simp
        go_at_call 29
        refine (CC.out _ HBX.out).mono ?_
        rintro e wn ⟨gw, kw, rfl, hl, hb⟩
        try have HL1 := Lib.hid (HL1.out.below hb)
        try have HL2 := Lib.hid (HL2.out.below hb)
        try have HL3 := Lib.hid (Mach.Lent.below HL3.out hb)
        try have A9 := Lib.hid (boxOn A9.out hb)
        try have A10 := Lib.hid (boxOn A10.out hb)
        have HBX := Lib.hid (HBX.out.trans (hb.mono HBX.out.size))
        have HGX := Lib.hid (boxOn HGX.out hb)
        have HSX := Lib.hid (boxOn HSX.out hb)
        have KX := Lib.hid (KF.out _ HGX.out HSX.out)
        have HL3 := Lib.hid hl
        clear hl hb
        try dsimp only
        go_wp2_with fail
        refine hK.out _ _ KX.out (fun hHeld => ?_)
        clear hK K hHeld
        try simp only [Act.put, sx1, sx2, sx3]
        obtain ⟨ui, uo, uc, hv1, o1, o2, o3⟩ := HV1.out
        subst hv1
        obtain ⟨s1, k1, s2, k2, s3, k3, hv2, hl1, hl2, hl3⟩ := id HL2.out
        subst hv2
        refine wpAnyH_ready (rs := [8]) (by kernel_rfl) (by simp) ?_
        refine AllReadyH.cons rfl (fun K hK => ?_) ?_
        ·refine step_st_tr (by rfl) _ _ rfl g9 _ rfl rfl _ A9.out rfl rfl (tr_one o1 o2 o3) ?_
         intro wp h9 ht
         have HL1p := Lib.hid (HL1.out.touch ht (by simp))
         have HL2p := Lib.hid (LentM.box HL2.out ht A9.out (by decide))
         have HL3p := Lib.hid (Lent.box HL3.out ht A9.out (by decide))
         have A10p := Lib.hid (ht.whole A10.out (fun hm => NE.out (List.mem_singleton.1 hm).symm))
         have HBXp := Lib.hid (HBX.out.trans (ht.below (fun k hk => by rw [List.mem_singleton.1 hk]; exact N9.out) HBX.out.size))
         have HGX := Lib.hid (ht.whole HGX.out (fun hm => by have h1 := List.mem_singleton.1 hm; have h2 := N9.out; have h3 := NG5.out; omega))
         have HSX := Lib.hid (ht.whole HSX.out (fun hm => by have h1 := List.mem_singleton.1 hm; have h2 := N9.out; have h3 := NG5.out; omega))
         have KX := Lib.hid (KF.out _ HGX.out HSX.out)
         have A9p := Lib.hid h9
         clear ht h9
         refine hK.out _ _ KX.out (fun hHeld => ?_)
         clear hK K hHeld
         try simp only [Act.put, sx1, sx2, sx3]
         refine wpAnyH_ready (rs := [9]) (by kernel_rfl) (by simp) ?_
         refine AllReadyH.cons rfl (fun K hK => ?_) ?_
         ·refine Mach.step_st_state (by rfl) _ _ rfl g10 _ rfl rfl _ A10p.out rfl rfl (all_one rfl rfl rfl) ?_
          intro wq h10 ht
          have HP5 := Lib.hid (show P5 w5 wq t ⟨ip1, shn, st, bk, me, ou, inn, rd, st1, cd⟩ wl g9 g10 ui uo uc _ _ _ _ from ⟨_, _, _, gw, kw, ht.whole A9p.out (fun hm => NE.out (List.mem_singleton.1 hm)), h10, (HL1p.out.touch ht (by simp)).t, LentM.box HL2p.out ht A10p.out (by decide), rfl, Lent.box HL3p.out ht A10p.out (by decide), HBXp.out.trans (ht.below (fun k hk => by rw [List.mem_singleton.1 hk]; exact N10.out) HBXp.out.size)⟩)
          have HGX := Lib.hid (ht.whole HGX.out (fun hm => by have h1 := List.mem_singleton.1 hm; have h2 := N10.out; have h3 := NG5.out; omega))
          have HSX := Lib.hid (ht.whole HSX.out (fun hm => by have h1 := List.mem_singleton.1 hm; have h2 := N10.out; have h3 := NG5.out; omega))
          have KX := Lib.hid (KF.out _ HGX.out HSX.out)
          clear ht h10
          refine hK.out _ _ KX.out (fun hHeld => ?_)
          clear hK K hHeld
          try simp only [Act.put, sx1, sx2, sx3]
          refine wpAnyH_take (i := 10) (oi := ⟨some 11, _, _, _, _, _⟩) (v := ?_) rfl (by kernel_rfl) (by kernel_rfl) (by kernel_rfl) (fun _ _ _ h => h) (Or.inl ⟨by rfl, ?_⟩) KX.out ?_; rotate_left; · intro w hSw; (try dsimp only at hSw); go_simp; try with_reducible rfl
          try simp only [Act.put, sx1, sx2, sx3]
          refine wpAnyH_done (by kernel_rfl) ?_ _
          go_wp2_with fail
          go_meet
          exact ⟨_, _, _, _, _, _, _, _, _, rfl, rfl, rfl, HP5⟩
         ·exact AllReadyH.nil
        ·exact AllReadyH.nil
       exact AllReadyH.nil
      exact AllReadyH.nil
     refine AllReadyH.cons rfl (fun K hK => ?_) ?_
     ·refine step_alloc_tr (by rfl) rfl ?_
      intro g9 wn hg hnew hb
      have N9 := Lib.hid (show w5.heap.size ≤ g9 by rw [← hg]; exact HBX.out.size)
      have NE := Lib.hid (show g9 ≠ g10 by have h := whole_lt A10.out; omega)
      have HL1n := Lib.hid (HL1.out.add hb (Nat.le_of_eq hg))
      try have HL1 := Lib.hid (HL1.out.below hb)
      try have HL2 := Lib.hid (HL2.out.below hb)
      try have HL3 := Lib.hid (Mach.Lent.below HL3.out hb)
      try have A9 := Lib.hid (boxOn A9.out hb)
      try have A10 := Lib.hid (boxOn A10.out hb)
      have HBX := Lib.hid (HBX.out.trans (hb.mono HBX.out.size))
      have HGX := Lib.hid (boxOn HGX.out hb)
      have HSX := Lib.hid (boxOn HSX.out hb)
      have KX := Lib.hid (KF.out _ HGX.out HSX.out)
      have HL1 := HL1n
      have A9 := Lib.hid hnew
      clear hg hnew hb
      refine hK.out _ _ KX.out (fun hHeld => ?_)
      clear hK K hHeld
      try simp only [Act.put, sx1, sx2, sx3]
      refine wpAnyH_ready (rs := [3]) (by kernel_rfl) (by simp) ?_
      refine AllReadyH.cons rfl (fun K hK => ?_) ?_
      ·go_simp
       go_at_call 28
       refine (CB.out _ HBX.out).mono ?_
       rintro e wn ⟨v2, rfl, hl, hb⟩
       try have HL1 := Lib.hid (HL1.out.below hb)
       try have HL2 := Lib.hid (HL2.out.below hb)
       try have HL3 := Lib.hid (Mach.Lent.below HL3.out hb)
       try have A9 := Lib.hid (boxOn A9.out hb)
       try have A10 := Lib.hid (boxOn A10.out hb)
       have HBX := Lib.hid (HBX.out.trans (hb.mono HBX.out.size))
       have HGX := Lib.hid (boxOn HGX.out hb)
       have HSX := Lib.hid (boxOn HSX.out hb)
       have KX := Lib.hid (KF.out _ HGX.out HSX.out)
       have HL2 := Lib.hid hl
       clear hl hb
       try dsimp only
       go_wp2_with fail
       refine hK.out _ _ KX.out (fun hHeld => ?_)
       clear hK K hHeld
       try simp only [Act.put, sx1, sx2, sx3]
       refine wpAnyH_ready (rs := [5]) (by kernel_rfl) (by simp) ?_
       refine AllReadyH.cons rfl (fun K hK => ?_) ?_
       ·go_simp
        go_at_call 29
        refine (CC.out _ HBX.out).mono ?_
        rintro e wn ⟨gw, kw, rfl, hl, hb⟩
        try have HL1 := Lib.hid (HL1.out.below hb)
        try have HL2 := Lib.hid (HL2.out.below hb)
        try have HL3 := Lib.hid (Mach.Lent.below HL3.out hb)
        try have A9 := Lib.hid (boxOn A9.out hb)
        try have A10 := Lib.hid (boxOn A10.out hb)
        have HBX := Lib.hid (HBX.out.trans (hb.mono HBX.out.size))
        have HGX := Lib.hid (boxOn HGX.out hb)
        have HSX := Lib.hid (boxOn HSX.out hb)
        have KX := Lib.hid (KF.out _ HGX.out HSX.out)
        have HL3 := Lib.hid hl
        clear hl hb
        try dsimp only
        go_wp2_with fail
        refine hK.out _ _ KX.out (fun hHeld => ?_)
        clear hK K hHeld
        try simp only [Act.put, sx1, sx2, sx3]
        obtain ⟨ui, uo, uc, hv1, o1, o2, o3⟩ := HV1.out
        subst hv1
        obtain ⟨s1, k1, s2, k2, s3, k3, hv2, hl1, hl2, hl3⟩ := id HL2.out
        subst hv2
        refine wpAnyH_ready (rs := [8]) (by kernel_rfl) (by simp) ?_
        refine AllReadyH.cons rfl (fun K hK => ?_) ?_
        ·refine step_st_tr (by rfl) _ _ rfl g9 _ rfl rfl _ A9.out rfl rfl (tr_one o1 o2 o3) ?_
         intro wp h9 ht
         have HL1p := Lib.hid (HL1.out.touch ht (by simp))
         have HL2p := Lib.hid (LentM.box HL2.out ht A9.out (by decide))
         have HL3p := Lib.hid (Lent.box HL3.out ht A9.out (by decide))
         have A10p := Lib.hid (ht.whole A10.out (fun hm => NE.out (List.mem_singleton.1 hm).symm))
         have HBXp := Lib.hid (HBX.out.trans (ht.below (fun k hk => by rw [List.mem_singleton.1 hk]; exact N9.out) HBX.out.size))
         have HGX := Lib.hid (ht.whole HGX.out (fun hm => by have h1 := List.mem_singleton.1 hm; have h2 := N9.out; have h3 := NG5.out; omega))
         have HSX := Lib.hid (ht.whole HSX.out (fun hm => by have h1 := List.mem_singleton.1 hm; have h2 := N9.out; have h3 := NG5.out; omega))
         have KX := Lib.hid (KF.out _ HGX.out HSX.out)
         have A9p := Lib.hid h9
         clear ht h9
         refine hK.out _ _ KX.out (fun hHeld => ?_)
         clear hK K hHeld
         try simp only [Act.put, sx1, sx2, sx3]
         refine wpAnyH_ready (rs := [9]) (by kernel_rfl) (by simp) ?_
         refine AllReadyH.cons rfl (fun K hK => ?_) ?_
         ·refine Mach.step_st_state (by rfl) _ _ rfl g10 _ rfl rfl _ A10p.out rfl rfl (all_one rfl rfl rfl) ?_
          intro wq h10 ht
          have HP5 := Lib.hid (show P5 w5 wq t ⟨ip1, shn, st, bk, me, ou, inn, rd, st1, cd⟩ wl g9 g10 ui uo uc _ _ _ _ from ⟨_, _, _, gw, kw, ht.whole A9p.out (fun hm => NE.out (List.mem_singleton.1 hm)), h10, (HL1p.out.touch ht (by simp)).t, LentM.box HL2p.out ht A10p.out (by decide), rfl, Lent.box HL3p.out ht A10p.out (by decide), HBXp.out.trans (ht.below (fun k hk => by rw [List.mem_singleton.1 hk]; exact N10.out) HBXp.out.size)⟩)
          have HGX := Lib.hid (ht.whole HGX.out (fun hm => by have h1 := List.mem_singleton.1 hm; have h2 := N10.out; have h3 := NG5.out; omega))
          have HSX := Lib.hid (ht.whole HSX.out (fun hm => by have h1 := List.mem_singleton.1 hm; have h2 := N10.out; have h3 := NG5.out; omega))
          have KX := Lib.hid (KF.out _ HGX.out HSX.out)
          clear ht h10
          refine hK.out _ _ KX.out (fun hHeld => ?_)
          clear hK K hHeld
          try simp only [Act.put, sx1, sx2, sx3]
          refine wpAnyH_take (i := 10) (oi := ⟨some 11, _, _, _, _, _⟩) (v := ?_) rfl (by kernel_rfl) (by kernel_rfl) (by kernel_rfl) (fun _ _ _ h => h) (Or.inl ⟨by rfl, ?_⟩) KX.out ?_; rotate_left; · intro w hSw; (try dsimp only at hSw); go_simp; try with_reducible rfl
          try simp only [Act.put, sx1, sx2, sx3]
          refine wpAnyH_done (by kernel_rfl) ?_ _
          go_wp2_with fail
          go_meet
          exact ⟨_, _, _, _, _, _, _, _, _, rfl, rfl, rfl, HP5⟩
         ·exact AllReadyH.nil
        ·exact AllReadyH.nil
       exact AllReadyH.nil
      exact AllReadyH.nil
     exact AllReadyH.nil
    refine AllReadyH.cons rfl (fun K hK => ?_) ?_
    ·refine step_alloc_tr (by rfl) rfl ?_
     intro g9 wn hg hnew hb
     have N9 := Lib.hid (show w5.heap.size ≤ g9 by rw [← hg]; exact HBX.out.size)
     have NE := Lib.hid (show g9 ≠ g10 by have h := whole_lt A10.out; omega)
     try have HL1 := Lib.hid (HL1.out.below hb)
     try have HL2 := Lib.hid (HL2.out.below hb)
     try have HL3 := Lib.hid (Mach.Lent.below HL3.out hb)
     try have A9 := Lib.hid (boxOn A9.out hb)
     try have A10 := Lib.hid (boxOn A10.out hb)
     have HBX := Lib.hid (HBX.out.trans (hb.mono HBX.out.size))
     have HGX := Lib.hid (boxOn HGX.out hb)
     have HSX := Lib.hid (boxOn HSX.out hb)
     have KX := Lib.hid (KF.out _ HGX.out HSX.out)
     have A9 := Lib.hid hnew
     clear hg hnew hb
     refine hK.out _ _ KX.out (fun hHeld => ?_)
     clear hK K hHeld
     try simp only [Act.put, sx1, sx2, sx3]
     refine wpAnyH_ready (rs := [1]) (by kernel_rfl) (by simp) ?_
     refine AllReadyH.cons rfl (fun K hK => ?_) ?_
     ·go_simp
      go_at_call 7
      refine (CA.out [g9, g10] _ HBX.out (fun q hq => by
        rcases List.mem_cons.1 hq with h | hq
        ·rw [h]; exact ⟨N9.out, whole_lt A9.out⟩
        ·rw [List.mem_singleton.1 hq]; exact ⟨N10.out, whole_lt A10.out⟩)).mono ?_
      rintro e wn ⟨v1, rfl, hl, hb⟩
      try have HL1 := Lib.hid (HL1.out.below hb)
      try have HL2 := Lib.hid (HL2.out.below hb)
      try have HL3 := Lib.hid (Mach.Lent.below HL3.out hb)
      try have A9 := Lib.hid (boxOn A9.out hb)
      try have A10 := Lib.hid (boxOn A10.out hb)
      have HBX := Lib.hid (HBX.out.trans (hb.mono HBX.out.size))
      have HGX := Lib.hid (boxOn HGX.out hb)
      have HSX := Lib.hid (boxOn HSX.out hb)
      have KX := Lib.hid (KF.out _ HGX.out HSX.out)
      have HL1 := Lib.hid hl
      have HV1 := Lib.hid (tq_form hl)
      clear hl hb
      try dsimp only
      go_wp2_with fail
      refine hK.out _ _ KX.out (fun hHeld => ?_)
      clear hK K hHeld
      try simp only [Act.put, sx1, sx2, sx3]
      refine wpAnyH_ready (rs := [3]) (by kernel_rfl) (by simp) ?_
      refine AllReadyH.cons rfl (fun K hK => ?_) ?_
      ·go_simp
       go_at_call 28
       refine (CB.out _ HBX.out).mono ?_
       rintro e wn ⟨v2, rfl, hl, hb⟩
       try have HL1 := Lib.hid (HL1.out.below hb)
       try have HL2 := Lib.hid (HL2.out.below hb)
       try have HL3 := Lib.hid (Mach.Lent.below HL3.out hb)
       try have A9 := Lib.hid (boxOn A9.out hb)
       try have A10 := Lib.hid (boxOn A10.out hb)
       have HBX := Lib.hid (HBX.out.trans (hb.mono HBX.out.size))
       have HGX := Lib.hid (boxOn HGX.out hb)
       have HSX := Lib.hid (boxOn HSX.out hb)
       have KX := Lib.hid (KF.out _ HGX.out HSX.out)
       have HL2 := Lib.hid hl
       clear hl hb
       try dsimp only
       go_wp2_with fail
       refine hK.out _ _ KX.out (fun hHeld => ?_)
       clear hK K hHeld
       try simp only [Act.put, sx1, sx2, sx3]
       refine wpAnyH_ready (rs := [5]) (by kernel_rfl) (by simp) ?_
       refine AllReadyH.cons rfl (fun K hK => ?_) ?_
       ·go_simp
        go_at_call 29
        refine (CC.out _ HBX.out).mono ?_
        rintro e wn ⟨gw, kw, rfl, hl, hb⟩
        try have HL1 := Lib.hid (HL1.out.below hb)
        try have HL2 := Lib.hid (HL2.out.below hb)
        try have HL3 := Lib.hid (Mach.Lent.below HL3.out hb)
        try have A9 := Lib.hid (boxOn A9.out hb)
        try have A10 := Lib.hid (boxOn A10.out hb)
        have HBX := Lib.hid (HBX.out.trans (hb.mono HBX.out.size))
        have HGX := Lib.hid (boxOn HGX.out hb)
        have HSX := Lib.hid (boxOn HSX.out hb)
        have KX := Lib.hid (KF.out _ HGX.out HSX.out)
        have HL3 := Lib.hid hl
        clear hl hb
        try dsimp only
        go_wp2_with fail
        refine hK.out _ _ KX.out (fun hHeld => ?_)
        clear hK K hHeld
        try simp only [Act.put, sx1, sx2, sx3]
        obtain ⟨ui, uo, uc, hv1, o1, o2, o3⟩ := HV1.out
        subst hv1
        obtain ⟨s1, k1, s2, k2, s3, k3, hv2, hl1, hl2, hl3⟩ := id HL2.out
        subst hv2
        refine wpAnyH_ready (rs := [8]) (by kernel_rfl) (by simp) ?_
        refine AllReadyH.cons rfl (fun K hK => ?_) ?_
        ·refine step_st_tr (by rfl) _ _ rfl g9 _ rfl rfl _ A9.out rfl rfl (tr_one o1 o2 o3) ?_
         intro wp h9 ht
         have HL1p := Lib.hid (HL1.out.touch ht (by simp))
         have HL2p := Lib.hid (LentM.box HL2.out ht A9.out (by decide))
         have HL3p := Lib.hid (Lent.box HL3.out ht A9.out (by decide))
         have A10p := Lib.hid (ht.whole A10.out (fun hm => NE.out (List.mem_singleton.1 hm).symm))
         have HBXp := Lib.hid (HBX.out.trans (ht.below (fun k hk => by rw [List.mem_singleton.1 hk]; exact N9.out) HBX.out.size))
         have HGX := Lib.hid (ht.whole HGX.out (fun hm => by have h1 := List.mem_singleton.1 hm; have h2 := N9.out; have h3 := NG5.out; omega))
         have HSX := Lib.hid (ht.whole HSX.out (fun hm => by have h1 := List.mem_singleton.1 hm; have h2 := N9.out; have h3 := NG5.out; omega))
         have KX := Lib.hid (KF.out _ HGX.out HSX.out)
         have A9p := Lib.hid h9
         clear ht h9
         refine hK.out _ _ KX.out (fun hHeld => ?_)
         clear hK K hHeld
         try simp only [Act.put, sx1, sx2, sx3]
         refine wpAnyH_ready (rs := [9]) (by kernel_rfl) (by simp) ?_
         refine AllReadyH.cons rfl (fun K hK => ?_) ?_
         ·refine Mach.step_st_state (by rfl) _ _ rfl g10 _ rfl rfl _ A10p.out rfl rfl (all_one rfl rfl rfl) ?_
          intro wq h10 ht
          have HP5 := Lib.hid (show P5 w5 wq t ⟨ip1, shn, st, bk, me, ou, inn, rd, st1, cd⟩ wl g9 g10 ui uo uc _ _ _ _ from ⟨_, _, _, gw, kw, ht.whole A9p.out (fun hm => NE.out (List.mem_singleton.1 hm)), h10, (HL1p.out.touch ht (by simp)).t, LentM.box HL2p.out ht A10p.out (by decide), rfl, Lent.box HL3p.out ht A10p.out (by decide), HBXp.out.trans (ht.below (fun k hk => by rw [List.mem_singleton.1 hk]; exact N10.out) HBXp.out.size)⟩)
          have HGX := Lib.hid (ht.whole HGX.out (fun hm => by have h1 := List.mem_singleton.1 hm; have h2 := N10.out; have h3 := NG5.out; omega))
          have HSX := Lib.hid (ht.whole HSX.out (fun hm => by have h1 := List.mem_singleton.1 hm; have h2 := N10.out; have h3 := NG5.out; omega))
          have KX := Lib.hid (KF.out _ HGX.out HSX.out)
          clear ht h10
          refine hK.out _ _ KX.out (fun hHeld => ?_)
          clear hK K hHeld
          try simp only [Act.put, sx1, sx2, sx3]
          refine wpAnyH_take (i := 10) (oi := ⟨some 11, _, _, _, _, _⟩) (v := ?_) rfl (by kernel_rfl) (by kernel_rfl) (by kernel_rfl) (fun _ _ _ h => h) (Or.inl ⟨by rfl, ?_⟩) KX.out ?_; rotate_left; · intro w hSw; (try dsimp only at hSw); go_simp; try with_reducible rfl
          try simp only [Act.put, sx1, sx2, sx3]
          refine wpAnyH_done (by kernel_rfl) ?_ _
          go_wp2_with fail
          go_meet
          exact ⟨_, _, _, _, _, _, _, _, _, rfl, rfl, rfl, HP5⟩
         ·exact AllReadyH.nil
        ·exact AllReadyH.nil
       exact AllReadyH.nil
      exact AllReadyH.nil
     exact AllReadyH.nil
    exact AllReadyH.nil
   exact AllReadyH.nil
  case rest =>
   obtain ⟨g9, g10, ui, uo, uc, vs, vb, vm, vw, rfl, rfl, rfl, HP5⟩ := hcut
   obtain ⟨w6, hw6⟩ : ∃ z, z = wc := ⟨_, rfl⟩
   subst hw6
   obtain ⟨B1, B2, B3, gw, kw, h9, h10, hT9, hM10, rfl, hL11, hB6⟩ := HP5.out
   have A9 := Lib.hid h9
   have A10 := Lib.hid h10
   have LT := Lib.hid hT9
   have LM := Lib.hid hM10
   have LW := Lib.hid hL11
   have HB6 := Lib.hid (HB5.out.trans (hB6.mono HB5.out.size))
   have HG6 := Lib.hid (boxOn HG5.out hB6)
   have HX6 := Lib.hid (boxOn HX5.out hB6)
   clear h9 h10 hT9 hM10 hL11 hB6 HP5 HM5 HR5 HW5 HG5 HX5 HB5 CA CB CC KF NG5
   have C6 := Lib.hid (fun wc => show Calls Tryz.prog 30 #[trV t (.slice ai ni ci) (.slice ao no co) (.slice ac nc cc), stV ⟨ip1, shn, st, bk, me, ou, inn, rd, st1, cd⟩ (.slice so n1 sc) (.slice bo n2 bc) (.slice mo n3 mc)] wc fun e w' => e = .returned (.bool (mayT t ⟨ip1, shn, st, bk, me, ou, inn, rd, st1, cd⟩)) ∧ Below wc.heap.size wc w' from by
    have h := rmay_any (w := wc) (t := t) (s := ⟨ip1, shn, st, bk, me, ou, inn, rd, st1, cd⟩) (vi := .slice ai ni ci) (vo := .slice ao no co) (vc := .slice ac nc cc) (vm := .slice mo n3 mc) (so := so) (bo := bo) (sc := sc) (bc := bc) (by show st.length ≤ 10000; rw [HN.out.1]; have := HLE.out.1; omega) (by show bk.length ≤ 10000; rw [HN.out.2.1]; have := HLE.out.2.1; omega) HRP.out.1 HRP.out.2.1 HRP.out.2.2.1 HRP.out.2.2.2
    dsimp only at h
    rw [HN.out.1, HN.out.2.1] at h
    exact h)
   have C20 := Lib.hid (fun wc => show Calls Tryz.prog 35 #[trV t ui uo uc, stV ⟨ip1, shn, st, bk, me, ou, inn, rd, st1, cd⟩ vs vb vm] wc (SaysF (mayT t ⟨ip1, shn, st, bk, me, ou, inn, rd, st1, cd⟩) wc) from by
    obtain ⟨q1, c1, q2, c2, q3, c3, e, -⟩ := LM.out
    injection e with e
    injection e with e
    simp only [List.cons.injEq] at e
    obtain ⟨-, -, e1, e2, -⟩ := e
    rw [e1, e2]
    exact may_any (s := ⟨ip1, shn, st, bk, me, ou, inn, rd, st1, cd⟩) (by show st.length ≤ 10000; rw [HN.out.1]; have := HLE.out.1; omega) (by show bk.length ≤ 10000; rw [HN.out.2.1]; have := HLE.out.2.1; omega))
   obtain ⟨my, hmy⟩ : ∃ b, mayT t ⟨ip1, shn, st, bk, me, ou, inn, rd, st1, cd⟩ = b := ⟨_, rfl⟩
   rw [hmy] at C6 C20
   have HMY := Lib.hid hmy
   clear hmy
   have HLN := Lib.hid (runT_lens (wat := wl) (t := t) (s := ⟨ip1, shn, st, bk, me, ou, inn, rd, st1, cd⟩) (lightT_all HLT.out).2.2.2 (by show st.length ≤ 1000; rw [HN.out.1]; have := HLE.out.1; omega) (by show bk.length ≤ 1000; rw [HN.out.2.1]; have := HLE.out.2.1; omega))
   have HML := Lib.hid (runT_mem (wat := wl) (t := t) (s := ⟨ip1, shn, st, bk, me, ou, inn, rd, st1, cd⟩))
   obtain ⟨r, hr⟩ : ∃ r, Ev.runT wl t ⟨ip1, shn, st, bk, me, ou, inn, rd, st1, cd⟩ = r := ⟨_, rfl⟩
   rw [hr] at HLN HML
   obtain ⟨mr, xr, pr, hh⟩ := r
   dsimp only at HLN HML
   rw [HN.out.2.2] at HML
   have HRE := Lib.hid hr
   clear hr
   go_upto_region 7 with (first
    | (refine ld_tr (by rfl) _ rfl gt rfl _ rfl HG6.out ?_)
    | (refine ld_state (by rfl) _ rfl gs rfl _ _ HX6.out rfl ?_)
    | (go_at_call 30; refine (C6.out _).mono ?_; rintro e wn ⟨rfl, hb⟩; have BN := Lib.hid hb; clear hb))
   obtain ⟨w7, hw7⟩ : ∃ z, z = wn := ⟨_, rfl⟩
   subst hw7
   have HG7 := Lib.hid (boxOn HG6.out BN.out)
   have HX7 := Lib.hid (boxOn HX6.out BN.out)
   obtain ⟨w8, g13, hw8, hg13, H13, B8, Z8⟩ := newBox w7 zero10 50
   have N13 := Lib.hid (show w6.heap.size ≤ g13 ∧ gt < g13 ∧ gs < g13 from by rw [← Z8.out]; exact ⟨BN.out.size, whole_lt HG7.out, whole_lt HX7.out⟩)
   clear C6
   go_upto_if 59 with (first
    | (refine ld_state (by rfl) _ rfl gs rfl _ _ HX7.out rfl ?_)
    | (refine st_state (by rfl) _ _ rfl g13 _ rfl rfl _ _ H13.out rfl rfl (all_one rfl rfl rfl) ?_; intro w9 h9 t9; have H13s := Lib.hid h9; have T9 := Lib.hid t9; clear h9 t9))
   have B9 := Lib.hid (show Below w6.heap.size w6 w9 from by
    have b := BN.out.trans (B8.out.mono BN.out.size)
    exact b.trans (T9.out.below (fun k hk => by rw [List.mem_singleton.1 hk]; exact N13.out.1) b.size))
   have HB9 := Lib.hid (HB6.out.trans (B9.out.mono HB6.out.size))
   have HG9 := Lib.hid (boxOn HG6.out B9.out)
   have HX9 := Lib.hid (boxOn HX6.out B9.out)
   clear hw8 hg13 H13 B8 Z8 T9 HG7 HX7 BN
   go_cut [14, 15, 16] (fun x y z wx => x = .int .i64 xr ∧ y = .bool hh ∧ z = .int .i64 pr ∧ Hid (P7 w6 wx mr g13))
   case first =>
    cases my with
    | false =>
     as_aux_lemma =>
     have e : (⟨⟨ip1, shn, st, bk, me, ou, inn, rd, st1, cd⟩, -1, 0, false⟩ : R) = ⟨mr, xr, pr, hh⟩ := by rw [← HRE.out]; unfold Ev.runT; rw [if_neg (by rw [HMY.out]; decide)]
     have HP7 := Lib.hid (show P7 w6 w9 ⟨ip1, shn, st, bk, me, ou, inn, rd, st1, cd⟩ g13 from ⟨_, _, _, H13s.out, ⟨_, _, _, rfl, HRS.out.below HB9.out, HRB.out.below HB9.out, HRM.out.below HB9.out⟩, N13.out.1, B9.out⟩)
     clear HRE HLN HML
     injection e with e1 e2 e3 e4
     subst e1
     subst e2
     subst e3
     subst e4
     go_wp2_with fail
     go_meet
     exact ⟨rfl, rfl, rfl, HP7⟩
    | true =>
     as_aux_lemma =>
     have z1 : st.length ≤ 10000 := by rw [HN.out.1]; have := HLE.out.1; omega
     have z2 : bk.length ≤ 10000 := by rw [HN.out.2.1]; have := HLE.out.2.1; omega
     have z3 : me.length ≤ 10000 := by rw [HN.out.2.2]; have := HLE.out.2.2; omega
     have C10 := Lib.hid (fun wc (hb : Below W.heap.size W wc) => show Calls Tryz.prog 31 #[trV t (.slice ai ni ci) (.slice ao no co) (.slice ac nc cc), stV ⟨ip1, shn, st, bk, me, ou, inn, rd, st1, cd⟩ (.slice so n1 sc) (.slice bo n2 bc) (.slice mo n3 mc), .slice aw nw cw] wc (RRuns (⟨mr, xr, pr, hh⟩ : R) wc) from by
      rw [← HRE.out]
      exact rrun_any (s := ⟨ip1, shn, st, bk, me, ou, inn, rd, st1, cd⟩) (HR.out.below hb) (HRS.out.below hb) (HRB.out.below hb) (HRM.out.below hb) (HW.out.below hb) z1 z2 z3 HRI.out.2.2.out (Nat.le_trans HRI.out.2.1 (by decide)) (by rw [HNW.out]; have := HW60.out; omega) (Nat.le_trans (lightT_all HLT.out).1 (by decide)) HRI.out.2.2.read0 HRT.out HMY.out (wCM HCC.out) HCT.out.ins)
     obtain ⟨k, o, hk, ho, hp⟩ := run_out (wat := wl) (s := ⟨ip1, shn, st, bk, me, ou, inn, rd, st1, cd⟩) HRT.out HMY.out z1 z2
     rw [HRE.out] at hk hp
     dsimp only at hk hp
     subst hk
     subst hp
     have k0 : (0 : Int) ≤ (k : Int) := Int.natCast_nonneg k
     have k1 : (k : Int) < (no : Int) := by have := (List.getElem?_eq_some_iff.1 ho).1; rw [HNT.out.2] at this; exact Int.ofNat_lt.2 this
     have HO := Lib.hid ho
     clear ho z1 z2 z3
     go_wp2_with (first
      | (refine ld_tr (by rfl) _ rfl gt rfl _ rfl HG9.out ?_)
      | (refine ld_state (by rfl) _ rfl gs rfl _ _ HX9.out rfl ?_))
     refine (C10.out _ HB9.out).mono ?_
     rintro e w10 ⟨v, rfl, ⟨us, ub, um, rfl, ho9⟩, hb9⟩
     have HOW := Lib.hid ho9
     have HON := Lib.hid (And.intro (slice_one ho9.st.slice) (And.intro (slice_one ho9.bk.slice) (slice_one ho9.me.slice)))
     have BW := Lib.hid hb9
     have H13t := Lib.hid (boxOn H13s.out hb9)
     clear ho9 hb9
     try dsimp only
     go_upto_region 11 with (first
      | (refine st_state (by rfl) _ _ rfl g13 _ rfl rfl _ _ H13t.out rfl rfl (all_one HON.out.1 HON.out.2.1 HON.out.2.2) ?_; intro w12 h9 t9; have H13u := Lib.hid h9; have T12 := Lib.hid t9; clear h9 t9))
     have HG10 := Lib.hid (boxOn HG9.out BW.out)
     have HG12 := Lib.hid (T12.out.whole HG10.out (fun hm => by have h1 := List.mem_singleton.1 hm; have h2 := N13.out.2.1; omega))
     have B10 := Lib.hid (B9.out.trans (BW.out.mono B9.out.size))
     have B12 := Lib.hid (B10.out.trans (T12.out.below (fun k hk => by rw [List.mem_singleton.1 hk]; exact N13.out.1) B10.out.size))
     have HB12 := Lib.hid (HB6.out.trans (B12.out.mono HB6.out.size))
     have HP7 := Lib.hid (show P7 w6 w12 mr g13 from ⟨_, _, _, H13u.out, OwnsM.reads ⟨_, _, _, rfl, owns_far HOW.out T12.out (whole_lt H13s.out)⟩, N13.out.1, B12.out⟩)
     have c6 : w12.cell? ⟨gt, 6, none⟩ = some (.slice ao no co) := whole_cell HG12.out rfl
     obtain ⟨ad, v1, v2, ea, -, d1, -⟩ := Ir.ReadsO.at (HR.out.below HB12.out).outs HO.out
     clear HO
     subst ea
     go_wp2_with fail
     go_meet
     exact ⟨rfl, rfl, rfl, HP7⟩
   case rest =>
    obtain ⟨rfl, rfl, rfl, HP7⟩ := hcut
    obtain ⟨w11, hw11⟩ : ∃ z, z = wc := ⟨_, rfl⟩
    subst hw11
    obtain ⟨us, ub, um, h13, hr13, hn13, hb7⟩ := HP7.out
    have H13 := Lib.hid h13
    have HR13 := Lib.hid hr13
    have B11 := Lib.hid hb7
    have HB11 := Lib.hid (HB6.out.trans (hb7.mono HB6.out.size))
    have HG := Lib.hid (boxOn HG6.out hb7)
    have HX := Lib.hid (boxOn HX6.out hb7)
    have A9 := Lib.hid (boxOn A9.out hb7)
    have A10 := Lib.hid (boxOn A10.out hb7)
    have LT := Lib.hid (LT.out.below hb7)
    have LM := Lib.hid (LM.out.below hb7)
    have LW := Lib.hid (Mach.Lent.below LW.out hb7)
    clear h13 hr13 hn13 hb7 HP7 H13s N13 HG6 HX6 HG9 HX9 HB9 B9 B11 HB6
    obtain ⟨w12, pb, hw12, hpb, HBK, B12, Z12⟩ := newBox w11 bookZero 40
    have HK12 := Lib.hid (Bk.empty HBK.out)
    have HPL := Lib.hid (show w11.heap.size ≤ pb from by rw [← Z12.out]; exact Nat.le_refl _)
    have HPW := Lib.hid (show W.heap.size ≤ pb from Nat.le_trans HB11.out.size HPL.out)
    clear HBK Z12
    have HQL := Lib.hid (show mr.stack.length ≤ 10000 ∧ mr.back.length ≤ 10000 ∧ mr.mem.length ≤ 10000 from ⟨HLN.out.1, HLN.out.2, by rw [HML.out]; have := HLE.out.2.2; omega⟩)
    have CR := Lib.hid (fun wc (hb : Below w11.heap.size w11 wc) => show Calls Tryz.prog 32 #[trV t ui uo uc, stV ⟨ip1, shn, st, bk, me, ou, inn, rd, st1, cd⟩ vs vb vm, .slice (some ⟨gw, 0, none⟩) wl.length kw] wc (Runs (⟨mr, xr, pr, hh⟩ : R) wc) from by
     rw [← HRE.out]
     obtain ⟨xi, xo, xc, e, hl⟩ := (LT.out.below hb).reads
     rw [e]
     exact run_any (s := ⟨ip1, shn, st, bk, me, ou, inn, rd, st1, cd⟩) (LM.out.below hb).reads hl (Reads.of_owns (Mach.Lent.below LW.out hb).owns) (wSz HRI.out.2.2 HRI.out.1 HRI.out.2.1 (by rw [HNW.out]; have := HW60.out; omega)) (wCM HCC.out) HCT.out.ins (HT.out.mono (HB11.out.trans (hb.mono HB11.out.size))) (Nat.le_trans (lightT_all HLT.out).1 (by decide)) (Nat.le_trans (lightT_all HLT.out).2.1 (by decide)) (fun o ho => ⟨Nat.le_trans ((lightT_all HLT.out).2.2.2 o ho).1 (by decide), Nat.le_trans ((lightT_all HLT.out).2.2.2 o ho).2 (by decide)⟩))
    go_upto_region 13 with fail
    clear hw12 hpb
    go_wp2_with fail
    go_loopg [18] 2 (fun zz kv wq => ∃ (k : Nat) (vS vW : Value) (ls : List (Value × List Value)), zz = 2 - k ∧ k ≤ 2 ∧ kv = .int .i64 (k : Int) ∧ Hid (Bk wq pb vS vW ls) ∧ Hid (ls.length = 3 * k) ∧ Hid (Below w11.heap.size w11 wq))
    case atStart => exact ⟨0, _, _, _, rfl, Nat.zero_le _, rfl, HK12, Lib.hid rfl, B12⟩
    case round =>
     obtain ⟨k, vS, vW, ls, rfl, hk, rfl, HK, HLS, HBR⟩ := hrel
     have HGR := Lib.hid (boxOn HG.out HBR.out)
     have HXR := Lib.hid (boxOn HX.out HBR.out)
     have A9R := Lib.hid (boxOn A9.out HBR.out)
     have A10R := Lib.hid (boxOn A10.out HBR.out)
     have H13R := Lib.hid (boxOn H13.out HBR.out)
     by_cases hlt : k < 2
     ·as_aux_lemma =>
      have k1 : decide ((k : Int) < 2) = true := decide_eq_true (by omega)
      have HLL := Lib.hid (fun q hq => (HK.out.kept.lists.lt q hq).2)
      have HPB := Lib.hid (show pb + 1 ≤ wr.heap.size from whole_lt HK.out.book)
      go_wp2_with (first
       | (refine ld_tr (by rfl) _ rfl g9 rfl _ rfl A9R.out ?_)
       | (refine ld_state (by rfl) _ rfl g10 rfl _ _ A10R.out rfl ?_))
      refine (CR.out _ HBR.out).mono ?_
      rintro e w18 ⟨v, rfl, ⟨ps, pk, pm, rfl, ho9⟩, hb9⟩
      have HO := Lib.hid ho9
      have HON := Lib.hid (And.intro (slice_one ho9.st.slice) (And.intro (slice_one ho9.bk.slice) (slice_one ho9.me.slice)))
      have BW := Lib.hid hb9
      clear ho9 hb9
      obtain ⟨w19, g19, hw19, hg19, H19, B19, Z19⟩ := newBox w18 zero10 50
      obtain ⟨w20, g20, hw20, hg20, H20, B20, Z20⟩ := newBox w19 zero3 60
      have H19b := Lib.hid (boxOn H19.out B20.out)
      have NG := Lib.hid (show g19 < g20 ∧ w18.heap.size ≤ g19 from ⟨by rw [← Z20.out]; exact whole_lt H19.out, by rw [← Z19.out]; exact Nat.le_refl _⟩)
      try dsimp only
      go_upto_region 17 with (first
       | (refine st_state (by rfl) _ _ rfl g19 _ rfl rfl _ _ H19b.out rfl rfl (all_one HON.out.1 HON.out.2.1 HON.out.2.2) ?_; intro wx h15 t15; have H19x := Lib.hid h15; have T19 := Lib.hid t15; have H20c := Lib.hid (t15.whole H20.out (fun hm => by have h1 := List.mem_singleton.1 hm; have h2 := NG.out.1; omega)); clear h15 t15)
       | (refine st_done (by rfl) _ _ rfl g20 #[.int .i64 xr, .int .i64 pr, .bool hh] rfl rfl rfl _ rfl H20c.out (by simp [Value.oneCell']) ?_; intro w21 h16 t16; have H20d := Lib.hid h16; have T20 := Lib.hid t16; have H19d := Lib.hid (t16.whole H19x.out (fun hm => by have h1 := List.mem_singleton.1 hm; have h2 := NG.out.1; omega)); clear h16 t16))
      have BF := Lib.hid (filled B19.out B20.out T19.out T20.out NG.out.2 (Nat.le_trans NG.out.2 (Nat.le_of_lt NG.out.1)))
      have BX := Lib.hid (BW.out.trans (BF.out.mono BW.out.size))
      have HO := Lib.hid (Mach.OwnsL.below HO.out BF.out)
      have HK := Lib.hid (HK.out.below BX.out)
      have HB21 := Lib.hid (HBR.out.trans (BX.out.mono HBR.out.size))
      clear hw19 hg19 H19 B19 Z19 hw20 hg20 H20 B20 Z20 H19b H19x T19 H20c T20 BF BX BW HON HGR HXR A9R A10R H13R HBR CR
      have S := Lib.hid (bookState_any HK.out HO.out HPB.out HLL.out (by have := HLS.out; omega) HQL.out.1 HQL.out.2.1 HQL.out.2.2)
      go_wp2_with (refine ld_state (by rfl) _ rfl g19 rfl _ _ H19d.out rfl ?_)
      refine S.out.mono ?_
      rintro e w22 ⟨rfl, vS2, vW2, hK, hP, hsp⟩
      have HK2 := Lib.hid hK
      have H19e := Lib.hid (Spares.box hsp H19d.out)
      have H20e := Lib.hid (Spares.done hsp H20d.out)
      have HB22 := Lib.hid (HB21.out.trans (hP.mono HPL.out))
      have HOa := Lib.hid (owns_spares HO.out hsp)
      have H13q := Lib.hid (boxOn H13.out HB22.out)
      have CS := Lib.hid (sameState_any (show ReadsM w22 (stV mr ps pk pm) mr from OwnsM.reads ⟨_, _, _, rfl, HOa.out⟩) (HR13.out.below HB22.out) HQL.out.1 HQL.out.2.1 HQL.out.2.2)
      clear hK hP hsp S HO HOa HK H19d H20d HB21
      try dsimp only
      go_wp2_with (first
       | (refine ld_state (by rfl) _ rfl g19 rfl _ _ H19e.out rfl ?_)
       | (refine ld_state (by rfl) _ rfl g13 rfl _ _ H13q.out rfl ?_)
       | (go_at_call 34; refine CS.out.mono ?_; rintro e wz ⟨rfl, hb⟩; have BZ := Lib.hid hb; have y0 : wz.cell? ⟨g20, 0, none⟩ = some (.int .i64 xr) := whole_cell (boxOn H20e.out hb) rfl; have y1 : wz.cell? ⟨g20, 1, none⟩ = some (.int .i64 pr) := whole_cell (boxOn H20e.out hb) rfl; have y2 : wz.cell? ⟨g20, 2, none⟩ = some (.bool hh) := whole_cell (boxOn H20e.out hb) rfl; clear hb))
      go_roundg (2 - (k + 1))
      case measure => omega
      case rel => exact ⟨k + 1, vS2, vW2, _, rfl, by omega, by go_num, Lib.hid (HK2.out.below BZ.out), Lib.hid (by rw [List.length_append, HLS.out]; show 3 * k + 3 = _; omega), Lib.hid (HB22.out.trans (BZ.out.mono HB22.out.size))⟩
     ·as_aux_lemma =>
      have k1 : decide ((k : Int) < 2) = false := decide_eq_false (by omega)
      have HWR := Lib.hid (HB11.out.trans (HBR.out.mono HB11.out.size))
      have z1 : st.length ≤ 10000 := by rw [HN.out.1]; have := HLE.out.1; omega
      have z2 : bk.length ≤ 10000 := by rw [HN.out.2.1]; have := HLE.out.2.1; omega
      have z3 : me.length ≤ 10000 := by rw [HN.out.2.2]; have := HLE.out.2.2; omega
      have D1 := Lib.hid (fun wc (hb : Below wr.heap.size wr wc) => staysTrace_any (LT.out.below (HBR.out.trans (hb.mono HBR.out.size))) (show Ir.ReadsT wc (trV t (.slice ai ni ci) (.slice ao no co) (.slice ac nc cc)) t from ⟨_, _, _, rfl, HR.out.below (HWR.out.trans (hb.mono HWR.out.size))⟩) (Nat.le_trans (lightT_all HLT.out).1 (by decide)) (Nat.le_trans (lightT_all HLT.out).2.1 (by decide)) (Nat.le_trans (lightT_all HLT.out).2.2.1 (by decide)) HSM.out)
      have D2 := Lib.hid (fun wc (hb : Below wr.heap.size wr wc) => staysState_any (LM.out.below (HBR.out.trans (hb.mono HBR.out.size))) (show ReadsM wc (stV ⟨ip1, shn, st, bk, me, ou, inn, rd, st1, cd⟩ (.slice so n1 sc) (.slice bo n2 bc) (.slice mo n3 mc)) ⟨ip1, shn, st, bk, me, ou, inn, rd, st1, cd⟩ from ⟨_, _, _, rfl, HRS.out.below (HWR.out.trans (hb.mono HWR.out.size)), HRB.out.below (HWR.out.trans (hb.mono HWR.out.size)), HRM.out.below (HWR.out.trans (hb.mono HWR.out.size))⟩) z1 z2 z3)
      have D3 := Lib.hid (fun wc (hb : Below wr.heap.size wr wc) => stays_any B3 gw kw (.slice aw nw cw) wl wc (Mach.Lent.below LW.out (HBR.out.trans (hb.mono HBR.out.size))) (HW.out.below (HWR.out.trans (hb.mono HWR.out.size))) (by rw [HNW.out]; have := HW60.out; omega))
      have D4 := Lib.hid (fun wc (hb : Below wr.heap.size wr wc) => apartInts_any pb (pb + 1) vS vW _ wc (Nat.lt_succ_self _) (whole_lt (HK.out.below hb).book) ⟨whole_cell (HK.out.below hb).book rfl, whole_cell (HK.out.below hb).book rfl, whole_cell (HK.out.below hb).book rfl, whole_cell (HK.out.below hb).book rfl, whole_cell (HK.out.below hb).book rfl, whole_cell (HK.out.below hb).book rfl⟩ (whole_cell (HK.out.below hb).book rfl) _ (HK.out.below hb).kept)
      have HBE := Lib.hid (Below.refl wr.heap.size wr)
      clear z1 z2 z3 CR HLN HML HRE
      go_wp2_with (first
       | (refine ld_tr (by rfl) _ rfl g9 rfl _ rfl A9R.out ?_)
       | (refine ld_state (by rfl) _ rfl g10 rfl _ _ A10R.out rfl ?_)
       | (refine ld_tr (by rfl) _ rfl gt rfl _ rfl HGR.out ?_)
       | (refine ld_state (by rfl) _ rfl gs rfl _ _ HXR.out rfl ?_)
       | (go_at_call 35; refine (C20.out _).mono ?_; rintro e wn ⟨rfl, hb⟩; have A9R := Lib.hid (boxOn A9R.out hb); have A10R := Lib.hid (boxOn A10R.out hb); have HGR := Lib.hid (boxOn HGR.out hb); have HXR := Lib.hid (boxOn HXR.out hb); have HBE := Lib.hid (HBE.out.trans (hb.mono HBE.out.size)); clear hb)
       | (go_at_call 24; refine (D1.out _ HBE.out).mono ?_; rintro e wn ⟨rfl, hb⟩; have A9R := Lib.hid (boxOn A9R.out hb); have A10R := Lib.hid (boxOn A10R.out hb); have HGR := Lib.hid (boxOn HGR.out hb); have HXR := Lib.hid (boxOn HXR.out hb); have HBE := Lib.hid (HBE.out.trans (hb.mono HBE.out.size)); clear hb)
       | (go_at_call 36; refine (D2.out _ HBE.out).mono ?_; rintro e wn ⟨rfl, hb⟩; have A9R := Lib.hid (boxOn A9R.out hb); have A10R := Lib.hid (boxOn A10R.out hb); have HGR := Lib.hid (boxOn HGR.out hb); have HXR := Lib.hid (boxOn HXR.out hb); have HBE := Lib.hid (HBE.out.trans (hb.mono HBE.out.size)); clear hb)
       | (go_at_call 37; refine (D3.out _ HBE.out).mono ?_; rintro e wn ⟨rfl, q, hq⟩; have hb := Mach.below_of_drewN hq; clear hq; have A9R := Lib.hid (boxOn A9R.out hb); have A10R := Lib.hid (boxOn A10R.out hb); have HGR := Lib.hid (boxOn HGR.out hb); have HXR := Lib.hid (boxOn HXR.out hb); have HBE := Lib.hid (HBE.out.trans (hb.mono HBE.out.size)); clear hb)
       | (go_at_call 25; refine (D4.out _ HBE.out).mono ?_; rintro e wz ⟨rfl, hb⟩; have HFIN := Lib.hid ((HWR.out.trans (HBE.out.mono HWR.out.size)).trans (hb.mono (Nat.le_succ_of_le HPW.out))); clear hb))
      go_ret
      exact ⟨rfl, HFIN.out⟩
end Go.Proofs.YtpecingkoodmfaaGreatDoor.EvalTells
