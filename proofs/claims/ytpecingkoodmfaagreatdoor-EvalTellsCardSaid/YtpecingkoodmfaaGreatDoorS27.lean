/- Package eval: a trace that may be entered is run. -/
import Derived.Test.YtpecingkoodmfaaGreatDoorS26
import Derived.Test.YtpecingkoodmfaaGreatDoorS8
import Derived.Deep.LoopGhost
import Derived.IntWalk
import Derived.Laws.OwnMore
import Derived.OwnWalk
namespace Go.Proofs.YtpecingkoodmfaaGreatDoor.Ev
open Go.RowKit Book Mem
open Ir (T I O trA trV ReadsL ReadsO outA outV newBox boxOn ld_tr CI CT)
open Mach (M less cells10 zero10 OwnsL OwnsM ReadsM stV st_state ld_state state_size slice_one all_one step_st_state)
set_option linter.unusedSimpArgs false
set_option linter.unusedVariables false
/-- the run's box is made -/
theorem RunAt.made {w w5 w6 : World} {t : T} {wat : List Int} {s : M} {vs vb vm vw vi vo vc : Value} {ex : Nat → Option Obj} (hb5 : Below w.heap.size w w5) (hb : Below w5.heap.size w5 w6) (ho : OwnsL w6 w5.heap.size vs vb vm s) (ht : ReadsL w vi vo vc t) (hw : Reads w vw wat) (hx : ∀ k o, ex k = some o → w5.heap[k]? = some o) :
    RunAt w (w6.alloc (.cells (cells22 t s false ⟨vs, vb, vm, .slice none 0 0, vw, vi, vo, vc, ex⟩) 101)) w6.heap.size t wat s [] false ⟨vs, vb, vm, .slice none 0 0, vw, vi, vo, vc, ex⟩ := by
  have hB := hb5.trans (hb.mono hb5.size)
  have ha := (Below.refl w6.heap.size w6).alloc (Nat.le_refl _) (.cells (cells22 t s false ⟨vs, vb, vm, .slice none 0 0, vw, vi, vo, vc, ex⟩) 101)
  refine ⟨hB.trans (ha.mono hB.size), hB.size, heap_alloc_new w6 _, (ho.st.from hb5.size).below ha, (ho.bk.from hb5.size).below ha, (ho.me.from hb5.size).below ha, Owns.nil _ _ _,
    fun k e => ⟨fun e' => by have := (ho.st.block k e).2.1; omega, (ho.sb k e).1, (ho.sb k e).2, fun e' => by cases e'⟩, fun k e => ⟨fun e' => by have := (ho.bk.block k e).2.1; omega, ho.bm k e, fun e' => by cases e'⟩, fun k e => ⟨fun e' => by have := (ho.me.block k e).2.1; omega, fun e' => by cases e'⟩, fun k e => (by cases e), ht, hw, fun k o e => ?_⟩
  have h1 := hx k o e
  have hk := whole_lt h1
  have h2 := (Stirred.of_below hb []).whole h1 List.not_mem_nil
  exact ⟨(Stirred.of_below ha []).whole h2 List.not_mem_nil, fun e' => by have := hb.size; omega, fun e' => by have := (ho.st.block _ e').1; omega, fun e' => by have := (ho.bk.block _ e').1; omega, fun e' => by have := (ho.me.block _ e').1; omega, fun e' => by cases e'⟩
theorem two_more {w w1 w2 : World} {r d : Nat} (h : Stirred w w1 [r]) (g : Stirred w1 w2 [d]) : Stirred w w2 [r, d] :=
  (h.more (cs := [r, d]) (fun k hk => by rw [List.mem_singleton.1 hk]; exact List.mem_cons_self)).trans (g.more (cs := [r, d]) (fun k hk => by rw [List.mem_singleton.1 hk]; exact List.mem_cons_of_mem _ List.mem_cons_self)) (fun k hk => .inl hk)
theorem may_slots {t : T} {s : M} (h : mayT t s = true) : ∃ ks kb : Nat, t.slots = (ks : Int) ∧ ks ≤ s.stack.length ∧ t.backs = (kb : Int) ∧ kb ≤ s.back.length := by
  unfold mayT Ir.within at h
  simp only [Bool.and_eq_true, decide_eq_true_eq] at h
  obtain ⟨-, -, h1, -, h2, -⟩ := h
  exact ⟨t.slots.toNat, t.backs.toNat, by omega, by omega, by omega, by omega⟩
theorem out_none {t : T} {x : Int} {n : Nat} (h : outAt t x = none) (hn : t.outs.length = n) : ¬ (0 ≤ x ∧ x < (n : Int)) := by
  rintro ⟨h0, h1⟩
  unfold outAt at h
  rw [if_pos h0, List.getElem?_eq_none_iff] at h
  omega
theorem out_some {t : T} {x : Int} {o : O} (h : outAt t x = some o) : ∃ k : Nat, x = (k : Int) ∧ t.outs[k]? = some o := by
  unfold outAt at h
  split at h
  · exact ⟨x.toNat, by omega, h⟩
  · cases h
theorem five {w : World} {gx q : Nat} {xo : O} {qs qb : Value} {t : T} {s : M} {xh : Bool} {z : Sl} (h : w.heap[gx]? = some (.cells (outA xo qs qb) 58 (0, 0))) (g : w.heap[q]? = some (.cells (cells22 t s xh z) 101 (0, 0))) :
    w.cell? ⟨gx, 0, none⟩ = some (.int .i64 xo.ip) ∧ w.cell? ⟨gx, 1, none⟩ = some (.int .i64 xo.steps) ∧ w.cell? ⟨gx, 2, none⟩ = some qs ∧ w.cell? ⟨gx, 3, none⟩ = some qb ∧ w.cell? ⟨q, 21, none⟩ = some (.bool xh) := ⟨whole_cell h rfl, whole_cell h rfl, whole_cell h rfl, whole_cell h rfl, whole_cell g rfl⟩
/-- boxes of other kinds are none of a machine's lists -/
theorem own_far2 {w6 : World} {B r d : Nat} {cs ds : Array Value} {s : M} {vs vb vm : Value} (hr : w6.heap[r]? = some (.cells cs 50 (0, 0))) (hd : w6.heap[d]? = some (.cells ds 60 (0, 0))) (ho : OwnsL w6 B vs vb vm s) :
    ∀ k ∈ [r, d], blk vs ≠ some k ∧ blk vb ≠ some k ∧ blk vm ≠ some k := by
  have one : ∀ {v : Value} {xs : List Int} {k T : Nat} {cs : Array Value}, Owns w6 B 3 v (vals xs) → w6.heap[k]? = some (.cells cs T (0, 0)) → T ≠ 3 → blk v ≠ some k := fun h hk hT e => by
    obtain ⟨-, -, cur, hc⟩ := h.block _ e
    rw [hk] at hc
    simp only [Option.some.injEq, Obj.cells.injEq] at hc
    exact hT hc.2.1
  intro k hk
  rcases List.mem_cons.1 hk with h | h
  · subst h; exact ⟨one ho.st hr (by decide), one ho.bk hr (by decide), one ho.me hr (by decide)⟩
  · have h := List.mem_singleton.1 h
    subst h; exact ⟨one ho.st hd (by decide), one ho.bk hd (by decide), one ho.me hd (by decide)⟩
theorem own_run2 {w w6 wf : World} {s : M} {vs vb vm : Value} {ex st : Int} {hit : Bool} {r d : Nat} (ho : OwnsL w6 w.heap.size vs vb vm s) (ht : Stirred w6 wf [r, d]) (hr : w.heap.size ≤ r ∧ r < d) (hf : ∀ k ∈ [r, d], blk vs ≠ some k ∧ blk vb ≠ some k ∧ blk vm ≠ some k) (hb : Below w.heap.size w w6) :
    Runs ⟨s, ex, st, hit⟩ w (.returned (.tuple #[stV s vs vb vm, .agg #[.int .i64 ex, .int .i64 st, .bool hit]])) wf :=
  ⟨_, rfl, ⟨vs, vb, vm, rfl, ⟨ho.st.touch ht (fun k e hm => (hf k hm).1 e), ho.bk.touch ht (fun k e hm => (hf k hm).2.1 e), ho.me.touch ht (fun k e hm => (hf k hm).2.2 e), ho.sb, ho.bm⟩⟩, hb.trans (ht.below (fun k hk => by
    rcases List.mem_cons.1 hk with h | h
    · omega
    · have := List.mem_singleton.1 h; omega) hb.size)⟩
def four (gt gs r d : Nat) (a b c e : Obj) : Nat → Option Obj := put1 gt a (put1 gs b (put1 r c (put1 d e (fun _ => none))))
theorem four_of {gt gs r d : Nat} {a b c e : Obj} (h : gt < gs ∧ gs < r ∧ r < d) : four gt gs r d a b c e gt = some a ∧ four gt gs r d a b c e gs = some b ∧ four gt gs r d a b c e r = some c ∧ four gt gs r d a b c e d = some e := by
  unfold four put1
  refine ⟨if_pos rfl, ?_, ?_, ?_⟩
  · rw [if_neg (by omega), if_pos rfl]
  · rw [if_neg (by omega), if_neg (by omega), if_pos rfl]
  · rw [if_neg (by omega), if_neg (by omega), if_neg (by omega), if_pos rfl]
theorem four_at {gt gs r d : Nat} {a b c e : Obj} {k : Nat} {o : Obj} (h : four gt gs r d a b c e k = some o) : k = gt ∧ o = a ∨ k = gs ∧ o = b ∨ k = r ∧ o = c ∨ k = d ∧ o = e := by
  unfold four put1 at h
  split at h
  · cases h; exact .inl ⟨by assumption, rfl⟩
  · split at h
    · cases h; exact .inr (.inl ⟨by assumption, rfl⟩)
    · split at h
      · cases h; exact .inr (.inr (.inl ⟨by assumption, rfl⟩))
      · split at h
        · cases h; exact .inr (.inr (.inr ⟨by assumption, rfl⟩))
        · cases h
set_option maxHeartbeats 16000000 in
set_option maxRecDepth 100000 in
theorem run_yes {w : World} {t : T} {s : M} {wat : List Int} {vi vo vc vw v : Value} (hm : ReadsM w v s) (ht : ReadsL w vi vo vc t) (hwt : Reads w vw wat) (hz : Sz s [] wat) (hc : CM s) (hi : ∀ x ∈ t.ins, CI x) (hT : Tabs w) (hn : t.ins.length ≤ 10000) (hno : t.outs.length ≤ 10000) (hol : ∀ o ∈ t.outs, o.stack.length ≤ 10000 ∧ o.back.length ≤ 10000) (hmay : mayT t s = true) :
    Calls Tryz.prog 32 #[trV t vi vo vc, v, vw] w (Runs (runT wat t s) w) := by
  have HM := Lib.hid hm
  have HTR := Lib.hid ht
  have HWT := Lib.hid hwt
  have HZ := Lib.hid hz
  have HC := Lib.hid hc
  have HI := Lib.hid hi
  have HTB := Lib.hid hT
  have HLN := Lib.hid (And.intro hn hno)
  have HOL := Lib.hid hol
  have HMY := Lib.hid hmay
  obtain ⟨ai, ci, ao, co, ac, cc, rfl, rfl, rfl⟩ := ht.known
  obtain ⟨aw, cw, rfl, -⟩ := hwt
  obtain ⟨n, hnn⟩ : ∃ n, t.outs.length = n := ⟨_, rfl⟩
  obtain ⟨ni, hni⟩ : ∃ n, t.ins.length = n := ⟨_, rfl⟩
  obtain ⟨nc, hnc⟩ : ∃ n, t.cells.length = n := ⟨_, rfl⟩
  obtain ⟨nw, hnw⟩ : ∃ n, wat.length = n := ⟨_, rfl⟩
  have HNN := Lib.hid hnn
  rw [hnn, hni, hnc] at HTR
  rw [hnw] at HWT
  rw [hnn, hni, hnc, hnw]
  clear hni hnc hnw
  obtain ⟨rr, hrr⟩ : ∃ rr, runT wat t s = rr := ⟨_, rfl⟩
  have HRR := Lib.hid hrr
  rw [hrr]
  clear hrr
  obtain ⟨vs, vb, vm, rfl, ⟨⟨so, sc, e1, -⟩, -⟩, ⟨⟨bo, bc, e2, -⟩, -⟩, -⟩ := hm
  subst e1
  subst e2
  obtain ⟨w1, gt, hw1, hgt, HGT, HB1, HZ1⟩ := newBox w (trA t (.slice ai ni ci) (.slice ao n co) (.slice ac nc cc)) 26
  obtain ⟨w2, gs, hw2, hgs, HGS, HB2, HZ2⟩ := newBox w1 (cells10 s.ip s.handler (.slice so s.stack.length sc) (.slice bo s.back.length bc) vm s.out s.inp s.read s.status s.code) 50
  obtain ⟨w3, r, hw3, hr, HR, HB3, HZ3⟩ := newBox w2 zero10 50
  obtain ⟨w4, d, hw4, hd, HD, HB4, HZ4⟩ := newBox w3 zero3 60
  have HB24 := Lib.hid (HB3.out.trans (HB4.out.mono HB3.out.size))
  have HB14 := Lib.hid (HB2.out.trans (HB24.out.mono HB2.out.size))
  have HB04 := Lib.hid (HB1.out.trans (HB14.out.mono HB1.out.size))
  have HT4 := Lib.hid (boxOn HGT.out HB14.out)
  have HS4 := Lib.hid (boxOn HGS.out HB24.out)
  have HR4 := Lib.hid (boxOn HR.out HB4.out)
  have HRD := Lib.hid (show w.heap.size = gt ∧ gt < gs ∧ gs < r ∧ r < d ∧ d < w4.heap.size from ⟨HZ1.out, by rw [← HZ2.out]; exact whole_lt HGT.out, by rw [← HZ3.out]; exact whole_lt HGS.out, by rw [← HZ4.out]; exact whole_lt HR.out, whole_lt HD.out⟩)
  have CM' := Lib.hid (show Calls Tryz.prog 35 _ w4 (SaysF true w4) from by have h := may_any (w := w4) (t := t) (s := s) (vi := .slice ai ni ci) (vo := .slice ao n co) (vc := .slice ac nc cc) (vm := vm) (so := so) (bo := bo) (sc := sc) (bc := bc) hz.st hz.bk; rw [hmay] at h; exact h)
  have CC := Lib.hid (fun wc (hb : Below w4.heap.size w4 wc) => innCopy_any (HM.out.below (HB04.out.trans (hb.mono HB04.out.size))) hz.st hz.bk hz.me)
  clear hmay HGT HGS HR ht hz hc hi hT hn hno hol hnn
  go_enter Tryz.func32, Tryz.ntmps32
  go_upto_region 2 with (first
    | (refine ld_tr (by rfl) _ rfl gt rfl _ rfl HT4.out ?_)
    | (refine ld_state (by rfl) _ rfl gs rfl _ _ HS4.out rfl ?_)
    | (go_at_call 35; refine CM'.out.mono ?_; rintro e w5 ⟨rfl, hb⟩; have HB5 := Lib.hid hb; clear hb))
  have HT5 := Lib.hid (boxOn HT4.out HB5.out)
  have HS5 := Lib.hid (boxOn HS4.out HB5.out)
  have HR5 := Lib.hid (boxOn HR4.out HB5.out)
  have HD5 := Lib.hid (boxOn HD.out HB5.out)
  have HB05 := Lib.hid (HB04.out.trans (HB5.out.mono HB04.out.size))
  have HLT := Lib.hid HB5.out.size
  have HF4 := Lib.hid (four_of (a := .cells (trA t (.slice ai ni ci) (.slice ao n co) (.slice ac nc cc)) 26 (0, 0)) (b := .cells (cells10 s.ip s.handler (.slice so s.stack.length sc) (.slice bo s.back.length bc) vm s.out s.inp s.read s.status s.code) 50 (0, 0)) (c := .cells zero10 50 (0, 0)) (e := .cells zero3 60 (0, 0)) (show gt < gs ∧ gs < r ∧ r < d from ⟨HRD.out.2.1, HRD.out.2.2.1, HRD.out.2.2.2.1⟩))
  have HF5 := Lib.hid (fun k o (h : four gt gs r d (.cells (trA t (.slice ai ni ci) (.slice ao n co) (.slice ac nc cc)) 26 (0, 0)) (.cells (cells10 s.ip s.handler (.slice so s.stack.length sc) (.slice bo s.back.length bc) vm s.out s.inp s.read s.status s.code) 50 (0, 0)) (.cells zero10 50 (0, 0)) (.cells zero3 60 (0, 0)) k = some o) => show w5.heap[k]? = some o from by
    rcases four_at h with ⟨rfl, rfl⟩ | ⟨rfl, rfl⟩ | ⟨rfl, rfl⟩ | ⟨rfl, rfl⟩
    · exact HT5.out
    · exact HS5.out
    · exact HR5.out
    · exact HD5.out)
  generalize four gt gs r d (.cells (trA t (.slice ai ni ci) (.slice ao n co) (.slice ac nc cc)) 26 (0, 0)) (.cells (cells10 s.ip s.handler (.slice so s.stack.length sc) (.slice bo s.back.length bc) vm s.out s.inp s.read s.status s.code) 50 (0, 0)) (.cells zero10 50 (0, 0)) (.cells zero3 60 (0, 0)) = fx at HF4 HF5
  clear hw1 hw2 hw3 hw4 hgt hgs hr hd HT4 HS4 HR4 HD HB1 HB2 HB3 HB4 HB14 HB24 HZ1 HZ2 HZ3 HZ4 CM' HR5 HD5
  go_cut [8] (fun p wx => ∃ q vs6 vb6 vm6, p = .pointer (some ⟨q, 0, none⟩) ∧ Hid (RunAt w wx q t wat s [] false ⟨vs6, vb6, vm6, .slice none 0 0, (.slice aw nw cw), (.slice ai ni ci), .slice ao n co, (.slice ac nc cc), fx⟩))
  case first =>
    have HTD := Lib.hid (boxOn HT5.out (Below.refl w5.heap.size w5).drew)
    have HSD := Lib.hid (boxOn HS5.out (Below.refl w5.heap.size w5).drew)
    obtain ⟨t0, t1, t2, t3, t4, t5, t6, t7, t8⟩ := Ir.cells9 HTD.out
    have s0 : w5.drew.cell? ⟨gs, 0, none⟩ = some (.int .i64 s.ip) := whole_cell HSD.out rfl
    have s1 : w5.drew.cell? ⟨gs, 1, none⟩ = some (.int .i64 s.handler) := whole_cell HSD.out rfl
    have s2 : w5.drew.cell? ⟨gs, 2, none⟩ = some (.slice so s.stack.length sc) := whole_cell HSD.out rfl
    have s3 : w5.drew.cell? ⟨gs, 3, none⟩ = some (.slice bo s.back.length bc) := whole_cell HSD.out rfl
    have s4 : w5.drew.cell? ⟨gs, 4, none⟩ = some (vm) := whole_cell HSD.out rfl
    have s5 : w5.drew.cell? ⟨gs, 5, none⟩ = some (.string s.out) := whole_cell HSD.out rfl
    have s6 : w5.drew.cell? ⟨gs, 6, none⟩ = some (.string s.inp) := whole_cell HSD.out rfl
    have s7 : w5.drew.cell? ⟨gs, 7, none⟩ = some (.int .i64 s.read) := whole_cell HSD.out rfl
    have s8 : w5.drew.cell? ⟨gs, 8, none⟩ = some (.int .i64 s.status) := whole_cell HSD.out rfl
    have s9 : w5.drew.cell? ⟨gs, 9, none⟩ = some (.int .i64 s.code) := whole_cell HSD.out rfl
    have C := Lib.hid (CC.out _ (HB5.out.trans ((Below.refl w5.heap.size w5).drew.mono HB5.out.size)))
    go_wp2_with fail
    go_region_with ((go_at_call 89; refine C.out.mono ?_; rintro e w6 ⟨v6, rfl, ⟨vs6, vb6, vm6, rfl, ho⟩, hb⟩; obtain ⟨a6, c6, e6⟩ := ho.st.slice; obtain ⟨a7, c7, e7⟩ := ho.bk.slice; obtain ⟨a8, c8, e8⟩ := ho.me.slice; rw [vals_length] at e6 e7 e8; subst e6; subst e7; subst e8; have HO := Lib.hid ho; have HB6 := Lib.hid hb; have HT6 := Lib.hid (boxOn HTD.out hb); obtain ⟨t0, t1, t2, t3, t4, t5, t6, t7, t8⟩ := Ir.cells9 HT6.out; clear ho hb))
    all_goals
      go_wp2_with fail
      go_meet
      exact ⟨_, _, _, _, rfl, RunAt.made HB05.out.drew HB6.out HO.out HTR.out HWT.out HF5.out⟩
  case rest =>
    obtain ⟨q, vs6, vb6, vm6, rfl, HRN⟩ := hcut
    clear HT5 HS5
    have HST := Lib.hid (fun k o (h : fx k = some o) => HF5.out k o h)
    obtain ⟨wa, hwa⟩ : ∃ wa, wc = wa := ⟨_, rfl⟩
    subst hwa
    have CX := Lib.hid (exit_any HRN.out HZ.out HC.out HI.out HTB.out HLN.out.1)
    obtain ⟨x, hx⟩ : ∃ x, goI wat t.last t.ins s [] = x := ⟨_, rfl⟩
    have HXE := Lib.hid hx
    rw [hx] at CX
    have HKN := Lib.hid (show Kin s x.s by rw [← hx]; exact goI_kin _ _ _ _ _)
    have HVL := Lib.hid (show x.V.length ≤ 100000 by rw [← hx]; have h1 := goI_len wat t.last t.ins s []; have h2 := HLN.out.1; simp only [List.length_nil] at h1; omega)
    clear hx
    cases hox : outAt t x.exit with
    | none =>
      have HRT := Lib.hid (show rr = ⟨s, -1, 0, false⟩ by rw [← HRR.out]; unfold runT; rw [if_pos HMY.out, HXE.out]; dsimp only; rw [hox])
      have HNI := Lib.hid (show ¬ (0 ≤ x.exit ∧ x.exit < (n : Int)) from out_none hox HNN.out)
      clear hox
      obtain ⟨xs, xV, xe, xh⟩ := x
      dsimp only at HNI
      go_wp2_with fail
      refine CX.out.mono ?_
      rintro e w7 ⟨rfl, v7, hr7⟩
      have HR7 := Lib.hid hr7
      have HB7 := Lib.hid hr7.hb
      have c6 : w7.cell? ⟨gt, 6, none⟩ = some (.slice ao n co) := whole_cell (hr7.fr gt _ HF4.out.1).1 rfl
      have HS7 := Lib.hid (hr7.fr gs _ HF4.out.2.1).1
      have HR7b := Lib.hid (hr7.fr r _ HF4.out.2.2.1).1
      have HD7b := Lib.hid (hr7.fr d _ HF4.out.2.2.2).1
      have hnb : n ≤ 10000 := by rw [← HNN.out]; exact HLN.out.2
      have C4 := Lib.hid (within_any xe ((n : Int) - 1) w7)
      have HW : Ir.within xe ((n : Int) - 1) = false := Ir.within_no (fun h => HNI.out ⟨h.1, Int.lt_of_le_sub_one h.2⟩)
      rw [HW] at C4
      clear HW
      have C := Lib.hid (innCopy_any (HM.out.below HB7.out) HZ.out.st HZ.out.bk HZ.out.me)
      clear hr7 CX HRN CC
      go_wp2_with (first
        | (go_at_call 91; refine C4.out.mono ?_; rintro e w' ⟨rfl, rfl⟩)
        | (refine ld_state (by rfl) _ rfl gs rfl _ _ HS7.out rfl ?_))
      refine C.out.mono ?_
      rintro e w8 ⟨v6, rfl, ⟨vs8, vb8, vm8, rfl, ho⟩, hb⟩
      have HO := Lib.hid ho
      have HB8 := Lib.hid hb
      have HR6 := Lib.hid (boxOn HR7b.out hb)
      have HD6 := Lib.hid (boxOn HD7b.out hb)
      have HON := Lib.hid (And.intro (slice_one ho.st.slice) (And.intro (slice_one ho.bk.slice) (slice_one ho.me.slice)))
      clear ho hb C
      go_wp2_with (first
        | (refine st_state (by rfl) _ _ rfl r _ rfl rfl _ _ HR6.out rfl rfl (all_one HON.out.1 HON.out.2.1 HON.out.2.2) ?_; intro w7 h7 t7; have HR7 := Lib.hid h7; have HT7 := Lib.hid t7; have HD7 := Lib.hid (t7.whole HD6.out (fun hm => by have h1 := List.mem_singleton.1 hm; have h2 := HRD.out.2.2.2.1; omega)); clear h7 t7)
        | (refine st_done (by rfl) _ _ rfl d #[.int .i64 (-1), .int .i64 0, .bool false] rfl rfl rfl _ rfl HD7.out (by simp [Value.oneCell']) ?_; intro w8 h8 t8; have HD8 := Lib.hid h8; have HT8 := Lib.hid t8; have HR8 := Lib.hid (t8.whole HR7.out (fun hm => by have h1 := List.mem_singleton.1 hm; have h2 := HRD.out.2.2.2.1; omega)); clear h8 t8))
      refine bodyPost_ret (results_two rfl _ _ r d _ _ _ _ _ _ _ _ rfl HR8.out Tryz.underlying50 rfl state_size rfl HD8.out Tryz.underlying60 rfl done_size) rfl ?_
      have HT := Lib.hid (two_more HT7.out HT8.out)
      have hsz := HR7b.out
      rw [HRT.out]
      exact own_run HO.out HT.out (HB7.out.size) (fun k hk => by
        have h1 := HRD.out
        have h2 := whole_lt HR7b.out
        have h3 := whole_lt HD7b.out
        rcases List.mem_cons.1 hk with h | h
        · omega
        · have := List.mem_singleton.1 h; omega) (HB7.out.trans (HB8.out.mono HB7.out.size))
    | some xo =>
      have HRT := Lib.hid (show rr = ⟨leaveM t x.s x.V xo, x.exit, xo.steps, x.hit⟩ by rw [← HRR.out]; unfold runT; rw [if_pos HMY.out, HXE.out]; dsimp only; rw [hox])
      obtain ⟨k, hk, hko⟩ := out_some hox
      clear hox
      obtain ⟨xs, xV, xe, xh⟩ := x
      dsimp only at hk
      subst hk
      have hkl := (List.getElem?_eq_some_iff.1 hko).1
      have hnb : n ≤ 10000 := by rw [← HNN.out]; exact HLN.out.2
      have k0 : (0 : Int) ≤ (k : Int) := Int.natCast_nonneg k
      have k1 : (k : Int) < (n : Int) := by rw [HNN.out] at hkl; exact Int.ofNat_lt.2 hkl
      have HKO := Lib.hid hko
      have HXO := Lib.hid (HOL.out xo (List.mem_of_getElem? hko))
      have HMB := Lib.hid (may_slots HMY.out)
      clear hkl hko
      go_wp2_with fail
      refine CX.out.mono ?_
      rintro e w7 ⟨rfl, v7, hr7⟩
      have HR7 := Lib.hid hr7
      have HB7 := Lib.hid hr7.hb
      have c6 : w7.cell? ⟨gt, 6, none⟩ = some (.slice ao n co) := whole_cell (hr7.fr gt _ HF4.out.1).1 rfl
      have C4 := Lib.hid (within_any (k : Int) ((n : Int) - 1) w7)
      have HW : Ir.within (k : Int) ((n : Int) - 1) = true := Ir.within_yes k0 (Int.le_sub_one_of_lt k1)
      rw [HW] at C4
      obtain ⟨ad, qs, qb, rfl, j0, j1, j2, j3, HQS, HQB⟩ := Ir.ReadsO.at HTR.out.outs HKO.out
      obtain ⟨aq, cq, rfl⟩ := Ir.reads_form HQS
      obtain ⟨ab, cb, rfl⟩ := Ir.reads_form HQB
      have tr : ∀ {p : Addr} {u : Value}, w.cell? p = some u → w7.cell? p = some u := fun {p u} hu => by rw [hr7.hb.cell (p := p) (World.block_lt_of_cell? w _ hu)]; exact hu
      have i0 := tr j0
      have i1 := tr j1
      have i2 := tr j2
      have i3 := tr j3
      have HQ1 := Lib.hid (And.intro HQS HQB)
      obtain ⟨w8, gx, hw8, hgx, HX8, HB8, HZ8⟩ := newBox w7 zero4 58
      clear hr7 CX HRN CC HW HQS HQB j0 j1 j2 j3 tr
      go_upto_region 6 with (first
        | (go_at_call 91; refine C4.out.mono ?_; rintro e w' ⟨rfl, rfl⟩)
        | (refine st_out (by rfl) _ _ rfl gx (outA xo (.slice aq xo.stack.length cq) (.slice ab xo.back.length cb)) rfl rfl rfl _ rfl HX8.out (by simp [Value.oneCell']) ?_; intro w9 h9 t9))
      have HR9 := Lib.hid (HR7.out.fresh (w' := w9) (bs := [gx]) ((Stirred.of_below HB8.out [gx]).trans t9 (fun k hk => .inl hk)) (fun k hk => List.mem_singleton.1 hk) (Nat.le_of_eq HZ8.out) h9)
      obtain ⟨ks, kb, hs1, hs2, hs3, hs4⟩ := HMB.out
      have HGX := Lib.hid (show ∀ j o, fx j = some o → put1 gx (.cells (outA xo (.slice aq xo.stack.length cq) (.slice ab xo.back.length cb)) 58 (0, 0)) fx j = some o from fun j o h => by unfold put1; rw [if_neg (by have h1 := whole_lt (HR7.out.fr j o h).1; have h2 := HZ8.out; omega)]; exact h)
      have CL := Lib.hid (fun wc (hb : Below w9.heap.size w9 wc) => leave_any (HR9.out.below hb) (by rw [HKN.out.stack]; exact HZ.out.st) (by rw [HKN.out.back]; exact HZ.out.bk) HVL.out xo HQ1.out.1 HQ1.out.2 HXO.out.1 HXO.out.2 hs1 (by rw [HKN.out.stack]; exact hs2) hs3 (by rw [HKN.out.back]; exact hs4))
      have HGC := Lib.hid (fun wc (hb : Below w9.heap.size w9 wc) => And.intro ((HR9.out.below hb).fr gx _ (put1_at gx _ _)).1 (And.intro (HR9.out.below hb).box (And.intro ((HR9.out.below hb).fr r _ (HGX.out r _ HF4.out.2.2.1)).1 ((HR9.out.below hb).fr d _ (HGX.out d _ HF4.out.2.2.2)).1)))
      have HEL := Lib.hid (And.intro (put1_at gx (.cells (outA xo (.slice aq xo.stack.length cq) (.slice ab xo.back.length cb)) 58 (0, 0)) fx) (And.intro (HGX.out r _ HF4.out.2.2.1) (HGX.out d _ HF4.out.2.2.2)))
      have HQR := Lib.hid (show w.heap.size ≤ r ∧ r < d ∧ gx ≠ r ∧ gx ≠ d ∧ q ≠ r ∧ q ≠ d from by
        have f1 := (HR7.out.fr r _ HF4.out.2.2.1)
        have f2 := (HR7.out.fr d _ HF4.out.2.2.2)
        have l1 := whole_lt f1.1
        have l2 := whole_lt f2.1
        have l3 := HZ8.out
        have l4 := HRD.out
        exact ⟨by omega, by omega, by omega, by omega, fun e => f1.2.1 e.symm, fun e => f2.2.1 e.symm⟩)
      clear h9 t9 hw8 hgx HX8 HB8 HZ8 HR7 i0 i1 i2 i3 hs1 hs2 hs3 hs4 C4 c6 HF4 HF5 HST HGX
      dsimp only [Act.put]
      have HBC : Hid (Below w9.heap.size w9 w9.drew) := Lib.hid (Below.refl _ _).drew
      have HG9 := HGC.out _ HBC.out
      have KX := Lib.hid (five HG9.1 HG9.2.1)
      clear HG9
      refine wp_region_held (S := fun w' => (w'.cell? ⟨gx, 0, none⟩ = some (.int .i64 xo.ip) ∧ w'.cell? ⟨gx, 1, none⟩ = some (.int .i64 xo.steps) ∧ w'.cell? ⟨gx, 2, none⟩ = some (.slice aq xo.stack.length cq) ∧ w'.cell? ⟨gx, 3, none⟩ = some (.slice ab xo.back.length cb) ∧ w'.cell? ⟨q, 21, none⟩ = some (.bool xh))) (by kernel_rfl) ?_
      change wpAnyH _ _ _ _ _ _ _ _ (World.drew w9)
      refine wpAnyH_take (i := 0) (oi := ⟨some 33, _, _, _, _, _⟩) (v := ?_) rfl (by kernel_rfl) (by kernel_rfl) (by kernel_rfl) (fun _ _ _ h => h) (Or.inl ⟨by rfl, ?_⟩) KX.out ?_; rotate_left; · intro w hSw; (try dsimp only at hSw); go_simp; try with_reducible rfl
      try simp only [Act.put, sx1, sx2, sx3]
      refine wpAnyH_take (i := 1) (oi := ⟨some 34, _, _, _, _, _⟩) (v := ?_) rfl (by kernel_rfl) (by kernel_rfl) (by kernel_rfl) (fun _ _ _ h => h) (Or.inl ⟨by rfl, ?_⟩) KX.out ?_; rotate_left; · intro w hSw; (try dsimp only at hSw); go_simp; try with_reducible rfl
      try simp only [Act.put, sx1, sx2, sx3]
      refine wpAnyH_take (i := 3) (oi := ⟨some 36, _, _, _, _, _⟩) (v := ?_) rfl (by kernel_rfl) (by kernel_rfl) (by kernel_rfl) (fun _ _ _ h => h) (Or.inl ⟨by rfl, ?_⟩) KX.out ?_; rotate_left; · intro w hSw; (try dsimp only at hSw); go_simp; try with_reducible rfl
      try simp only [Act.put, sx1, sx2, sx3]
      refine wpAnyH_take (i := 4) (oi := ⟨some 37, _, _, _, _, _⟩) (v := ?_) rfl (by kernel_rfl) (by kernel_rfl) (by kernel_rfl) (fun _ _ _ h => h) (Or.inl ⟨by rfl, ?_⟩) KX.out ?_; rotate_left; · intro w hSw; (try dsimp only at hSw); go_simp; try with_reducible rfl
      try simp only [Act.put, sx1, sx2, sx3]
      refine wpAnyH_take (i := 5) (oi := ⟨some 38, _, _, _, _, _⟩) (v := ?_) rfl (by kernel_rfl) (by kernel_rfl) (by kernel_rfl) (fun _ _ _ h => h) (Or.inl ⟨by rfl, ?_⟩) KX.out ?_; rotate_left; · intro w hSw; (try dsimp only at hSw); go_simp; try with_reducible rfl
      try simp only [Act.put, sx1, sx2, sx3]
      refine wpAnyH_take (i := 6) (oi := ⟨some 39, _, _, _, _, _⟩) (v := ?_) rfl (by kernel_rfl) (by kernel_rfl) (by kernel_rfl) (fun _ _ _ h => h) (Or.inl ⟨by rfl, ?_⟩) KX.out ?_; rotate_left; · intro w hSw; (try dsimp only at hSw); go_simp; try with_reducible rfl
      try simp only [Act.put, sx1, sx2, sx3]
      refine wpAnyH_take (i := 7) (oi := ⟨some 40, _, _, _, _, _⟩) (v := ?_) rfl (by kernel_rfl) (by kernel_rfl) (by kernel_rfl) (fun _ _ _ h => h) (Or.inl ⟨by rfl, ?_⟩) KX.out ?_; rotate_left; · intro w hSw; (try dsimp only at hSw); go_simp; try with_reducible rfl
      try simp only [Act.put, sx1, sx2, sx3]
      refine wpAnyH_take (i := 8) (oi := ⟨some 41, _, _, _, _, _⟩) (v := ?_) rfl (by kernel_rfl) (by kernel_rfl) (by kernel_rfl) (fun _ _ _ h => h) (Or.inl ⟨by rfl, ?_⟩) KX.out ?_; rotate_left; · intro w hSw; (try dsimp only at hSw); go_simp; try with_reducible rfl
      try simp only [Act.put, sx1, sx2, sx3]
      refine wpAnyH_take (i := 9) (oi := ⟨some 42, _, _, _, _, _⟩) (v := ?_) rfl (by kernel_rfl) (by kernel_rfl) (by kernel_rfl) (fun _ _ _ h => h) (Or.inl ⟨by rfl, ?_⟩) KX.out ?_; rotate_left; · intro w hSw; (try dsimp only at hSw); go_simp; try with_reducible rfl
      try simp only [Act.put, sx1, sx2, sx3]
      refine wpAnyH_take (i := 10) (oi := ⟨some 43, _, _, _, _, _⟩) (v := ?_) rfl (by kernel_rfl) (by kernel_rfl) (by kernel_rfl) (fun _ _ _ h => h) (Or.inl ⟨by rfl, ?_⟩) KX.out ?_; rotate_left; · intro w hSw; (try dsimp only at hSw); go_simp; try with_reducible rfl
      try simp only [Act.put, sx1, sx2, sx3]
      refine wpAnyH_ready (rs := [2]) (by kernel_rfl) (by simp) ?_
      refine AllReadyH.cons rfl (fun K hK => ?_) ?_
      rotate_left
      · exact AllReadyH.nil
      go_simp
      go_at_call 92
      refine (CL.out _ HBC.out).mono ?_
      rintro e wl ⟨vl, rfl, ⟨vs8, vb8, vm8, rfl, hol⟩, hbl, hql, hel⟩
      have HOL2 := Lib.hid hol
      have HBL := Lib.hid hbl
      have HRL := Lib.hid (hel r _ HEL.out.2.1)
      have HDL := Lib.hid (hel d _ HEL.out.2.2)
      have HQL := Lib.hid hql
      have HXL := Lib.hid (hel gx _ HEL.out.1)
      have HON := Lib.hid (And.intro (slice_one hol.st.slice) (And.intro (slice_one hol.bk.slice) (slice_one hol.me.slice)))
      have KX := Lib.hid (five HXL.out HQL.out)
      clear hol hbl hql hel
      go_wp2_with fail
      refine hK.out _ _ KX.out (fun hHeld => ?_)
      clear hK K hHeld
      try simp only [Act.put, sx1, sx2, sx3]
      refine wpAnyH_ready (rs := [11]) (by kernel_rfl) (by simp) ?_
      refine AllReadyH.cons rfl (fun K hK => ?_) ?_
      rotate_left
      · exact AllReadyH.nil
      refine step_st_state (by rfl) _ _ rfl r _ rfl rfl _ HRL.out rfl rfl (all_one HON.out.1 HON.out.2.1 HON.out.2.2) ?_
      intro w10 h10 t10
      have HR10 := Lib.hid h10
      have HT10 := Lib.hid t10
      have HD10 := Lib.hid (t10.whole HDL.out (fun hm => by have h1 := List.mem_singleton.1 hm; have h2 := HQR.out; omega))
      have HX10 := Lib.hid (t10.whole HXL.out (fun hm => HQR.out.2.2.1 (List.mem_singleton.1 hm)))
      have HQ10 := Lib.hid (t10.whole HQL.out (fun hm => HQR.out.2.2.2.2.1 (List.mem_singleton.1 hm)))
      have KX := Lib.hid (five HX10.out HQ10.out)
      clear h10 t10
      refine hK.out _ _ KX.out (fun hHeld => ?_)
      clear hK K hHeld
      try simp only [Act.put, sx1, sx2, sx3]
      refine wpAnyH_ready (rs := [12]) (by kernel_rfl) (by simp) ?_
      refine AllReadyH.cons rfl (fun K hK => ?_) ?_
      rotate_left
      · exact AllReadyH.nil
      refine Mach.step_st_done (by rfl) _ _ rfl d #[.int .i64 (k : Int), .int .i64 xo.steps, .bool xh] rfl rfl _ HD10.out rfl rfl (by simp [Value.oneCell']) ?_
      intro w11 h11 t11
      have HD11 := Lib.hid h11
      have HT11 := Lib.hid t11
      have HR11 := Lib.hid (t11.whole HR10.out (fun hm => by have h1 := List.mem_singleton.1 hm; have h2 := HQR.out; omega))
      have HX11 := Lib.hid (t11.whole HX10.out (fun hm => HQR.out.2.2.2.1 (List.mem_singleton.1 hm)))
      have HQ11 := Lib.hid (t11.whole HQ10.out (fun hm => HQR.out.2.2.2.2.2 (List.mem_singleton.1 hm)))
      have KX := Lib.hid (five HX11.out HQ11.out)
      clear h11 t11
      refine hK.out _ _ KX.out (fun hHeld => ?_)
      clear hK K hHeld
      try simp only [Act.put, sx1, sx2, sx3]
      refine wpAnyH_done (by kernel_rfl) ?_ _
      go_wp2_with fail
      refine bodyPost_ret (results_two rfl _ _ r d _ _ _ _ _ _ _ _ rfl HR11.out Tryz.underlying50 rfl state_size rfl HD11.out Tryz.underlying60 rfl done_size) rfl ?_
      rw [HRT.out]
      exact own_run2 HOL2.out (two_more HT10.out HT11.out) ⟨HQR.out.1, HQR.out.2.1⟩ (own_far2 HRL.out HDL.out HOL2.out) HBL.out
theorem run_any {w : World} {t : T} {s : M} {wat : List Int} {vi vo vc vw v : Value} (hm : ReadsM w v s) (ht : ReadsL w vi vo vc t) (hwt : Reads w vw wat) (hz : Sz s [] wat) (hc : CM s) (hi : ∀ x ∈ t.ins, CI x) (hT : Tabs w) (hn : t.ins.length ≤ 10000) (hno : t.outs.length ≤ 10000) (hol : ∀ o ∈ t.outs, o.stack.length ≤ 10000 ∧ o.back.length ≤ 10000) :
    Calls Tryz.prog 32 #[trV t vi vo vc, v, vw] w (Runs (runT wat t s) w) := by
  cases h : mayT t s with
  | true => exact run_yes hm ht hwt hz hc hi hT hn hno hol h
  | false =>
    have e : runT wat t s = ⟨s, -1, 0, false⟩ := by unfold runT; rw [if_neg (by rw [h]; decide)]
    rw [e]
    exact run_not hm hz.st hz.bk hz.me h
end Go.Proofs.YtpecingkoodmfaaGreatDoor.Ev
/- The document's own machine (chapter 9) that has done nothing, taken out of the machine's texts. -/
namespace Go.Proofs.YtpecingkoodmfaaGreatDoor.Ev
open Go.RowKit Book Mem Mach
set_option linter.unusedVariables false
set_option linter.unusedSimpArgs false
def bootCell (o k : Nat) : Int := if 64 ≤ k ∧ k < 64 + 2 * o then (if k % 2 = 0 then ((k - 64) / 2 : Nat) else 5) else if k = 1 then 1 else 0
def bootMem (o n : Nat) : List Int := (List.range n).map (bootCell o)
theorem bootMem_length (o n : Nat) : (bootMem o n).length = n := by simp [bootMem]
theorem bootMem_at (o n k : Nat) : (bootMem o n)[k]? = if k < n then some (bootCell o k) else none := by
  unfold bootMem
  rw [List.getElem?_map]
  by_cases h : k < n
  · rw [if_pos h, List.getElem?_range h]; rfl
  · rw [if_neg h, List.getElem?_eq_none (by simpa using h)]; rfl
def bootM (n : Nat) (inp : ByteArray) : M := ⟨0, 0, [], [], bootMem 48 n, ⟨#[]⟩, inp, 0, 1, 0⟩
theorem new_box (w : World) (cs : Array Value) (T : TypeId) : ∃ w1 g, w.alloc (.cells cs T) = w1 ∧ w.heap.size = g ∧ Hid (w1.heap[g]? = some (.cells cs T (0, 0))) ∧ Hid (Below w.heap.size w w1) ∧ Hid (w.heap.size = g) :=
  ⟨_, _, rfl, rfl, heap_alloc_new w _, (Below.refl w.heap.size w).alloc (Nat.le_refl _) _, rfl⟩
/-- the first k cells are laid -/
def part (n k : Nat) : List Int := (bootMem 48 n).take k ++ List.replicate (n - k) 0
theorem part_length {n k : Nat} (h : k ≤ n) : (part n k).length = n := by unfold part; rw [List.length_append, List.length_take, bootMem_length, List.length_replicate]; omega
theorem part_zero (n : Nat) : part n 0 = List.replicate n 0 := by simp [part]
theorem part_all (n : Nat) : part n n = bootMem 48 n := by unfold part; rw [Nat.sub_self, List.take_of_length_le (by rw [bootMem_length]; omega)]; simp
theorem part_at {n k j : Nat} (h : k ≤ n) : (part n k)[j]? = if j < n then some (if j < k then bootCell 48 j else 0) else none := by
  unfold part
  by_cases h1 : j < k
  · rw [List.getElem?_append_left (by rw [List.length_take, bootMem_length]; omega), List.getElem?_take, if_pos h1, bootMem_at, if_pos (by omega), if_pos (by omega), if_pos h1]
  · rw [List.getElem?_append_right (by rw [List.length_take, bootMem_length]; omega), List.getElem?_replicate, List.length_take, bootMem_length]
    by_cases h2 : j < n
    · rw [if_pos (by omega), if_pos h2, if_neg h1]
    · rw [if_neg (by omega), if_neg h2]
theorem part_set {n k : Nat} (h : k < n) : (part n k).set k (bootCell 48 k) = part n (k + 1) := by
  apply List.ext_getElem?
  intro j
  rw [List.getElem?_set, part_at (by omega), part_at (by omega), part_length (by omega)]
  by_cases h1 : k = j
  · subst h1
    rw [if_pos rfl, if_pos h, if_pos h, if_pos (by omega)]
  · rw [if_neg h1]
    by_cases h2 : j < n
    · rw [if_pos h2, if_pos h2]
      by_cases h3 : j < k
      · rw [if_pos h3, if_pos (by omega)]
      · rw [if_neg h3, if_neg (by omega)]
    · rw [if_neg h2, if_neg h2]
theorem part_same {n k : Nat} (h : k < n) (h0 : bootCell 48 k = 0) : part n (k + 1) = part n k := by
  apply List.ext_getElem?
  intro j
  rw [part_at (by omega), part_at (by omega)]
  by_cases h1 : j = k
  · subst h1
    rw [if_pos h, if_pos h, if_pos (by omega), if_neg (by omega), h0]
  · by_cases h2 : j < n
    · rw [if_pos h2, if_pos h2]
      by_cases h3 : j < k
      · rw [if_pos h3, if_pos (by omega)]
      · rw [if_neg h3, if_neg (by omega)]
    · rw [if_neg h2, if_neg h2]
set_option maxHeartbeats 8000000 in
set_option maxRecDepth 100000 in
theorem refBoot20 (w : World) (nn : Nat) (hn : (nn : Int) = 20) (inp : ByteArray) :
    Calls Tryz.prog 85 #[.int .i64 20, .string inp] w (GivesM (bootM nn inp) w) := by
  obtain ⟨i0, HI1, HI2, HI3, HI4⟩ := int_facts
  have HI := Lib.hid (And.intro HI1 (And.intro HI2 (And.intro HI3 HI4)))
  clear HI1 HI2 HI3 HI4
  obtain ⟨w1, r, hw1, hr, HR, HB1, HRG⟩ := new_box w zero10 50
  have HM := Lib.hid hn
  have hn3 : nn ≤ 3000 := by omega
  clear hn
  go_enter Tryz.func85, Tryz.ntmps85
  go_upto_region 1 with fail
  clear hw1 hr
  go_wp2_with (at_make; refine wpList_make_full _ rfl _ _ 24 rfl w1.heap.size 3 i0 (.int .i64 0) 1 Tryz.underlying24 HI.out.1 HI.out.2.1 HI.out.2.2.1 .i64 .i64 _ _ nn rfl rfl ?a1 ?a2 ?a3 ?a4 (Nat.le_refl _) ?_)
  case a1 => first | exact HM.out.symm | (have := HM.out; omega)
  case a2 => first | exact HM.out.symm | (have := HM.out; omega)
  case a3 => rw [HI.out.2.2.2]; omega
  case a4 => unfold maxLen; omega
  intro w2 hO hG
  rw [toList_madeCells_one] at hO
  have hb1 := (Stirred.of_grown hG).below (B := w1.heap.size) (fun k h => by cases h) (Nat.le_refl _)
  obtain ⟨g, hg⟩ : ∃ g, w1.heap.size = g := ⟨_, rfl⟩
  rw [hg] at hO hb1 ⊢
  have HGE := Lib.hid hg
  have HO := Lib.hid (show Owns w2 g 3 (.slice (some ⟨g, 0, none⟩) nn nn) (vals (part nn 0)) by
    have := Owns.of_row hO
    rw [part_zero, vals, List.map_replicate]
    exact this)
  have HB2 := Lib.hid hb1
  clear hO hG hb1 hg
  go_wp2_with fail
  go_loopg [6] nn (fun z f wr => ∃ k : Nat, z = nn - k ∧ k ≤ nn ∧ f = .int .i64 k ∧ Hid (Owns wr g 3 (.slice (some ⟨g, 0, none⟩) nn nn) (vals (part nn k))) ∧ Hid (Below g w1 wr))
  case atStart => exact ⟨0, rfl, Nat.zero_le _, rfl, HO, HB2⟩
  case round =>
    obtain ⟨k, rfl, hk, rfl, HX, HY⟩ := hrel
    by_cases hlt : k < nn
    · have hk0 : (0 : Int) ≤ (k : Int) := Int.natCast_nonneg _
      have hk1 : (k : Int) < (nn : Int) := by omega
      obtain ⟨kc, kf⟩ := owns_at HX.out (show k < (part nn k).length by rw [part_length hk]; exact hlt)
      have HS := Lib.hid (fun v : Int => And.intro (HX.out.stored k (.int .i64 v)) (show Below g w1 (wr.setCell ⟨g, k, none⟩ (.int .i64 v)) from HY.out.trans (((Stirred.setCell wr ⟨g, k, none⟩ (.int .i64 v)).below (B := g) (fun j h => by rw [List.mem_singleton.1 h]; exact Nat.le_refl _) (HGE.out ▸ HY.out.size)))))
      by_cases c1 : k = 1
      · subst c1
        have hb : bootCell 48 1 = 1 := rfl
        have H1 := Lib.hid (part_set hlt)
        rw [hb] at H1
        have HZ := Lib.hid (HS.out 1)
        rw [vals_set, H1.out] at HZ
        clear HS
        go_wp2
        go_roundg (nn - (1 + 1))
        case measure => omega
        case rel => exact ⟨1 + 1, rfl, by omega, by go_num, HZ.out.1, HZ.out.2⟩
      · by_cases c2 : 64 ≤ k
        · by_cases c3 : k < 160
          · by_cases c4 : k % 2 = 0
            · have hb : bootCell 48 k = ((k - 64) / 2 : Nat) := by unfold bootCell; rw [if_pos (by omega), if_pos c4]
              have q1 : (k : Int).tmod 2 = 0 := by rw [Int.tmod_eq_emod_of_nonneg hk0]; omega
              obtain ⟨q, hq⟩ : ∃ q, (k - 64) / 2 = q := ⟨_, rfl⟩
              have q2 : ((k : Int) - 64).tdiv 2 = (q : Int) := by rw [Int.tdiv_eq_ediv_of_nonneg (by omega)]; omega
              have q3 : wrap64 (q : Int) = (q : Int) := by unfold wrap64; omega
              have H1 := Lib.hid (part_set hlt)
              rw [hb, hq] at H1
              have hx5 := (HS.out 5).1
              have HZ := Lib.hid (And.intro (hx5.stored k (.int .i64 q)) (show Below g w1 ((wr.setCell ⟨g, k, none⟩ (.int .i64 5)).setCell ⟨g, k, none⟩ (.int .i64 q)) from (HS.out 5).2.trans (((Stirred.setCell _ ⟨g, k, none⟩ (.int .i64 q)).below (B := g) (fun j h => by rw [List.mem_singleton.1 h]; exact Nat.le_refl _) (HGE.out ▸ (HS.out 5).2.size)))))
              rw [vals_set, vals_set, List.set_set, H1.out] at HZ
              rw [vals_set] at hx5
              obtain ⟨kc5, kf5⟩ := owns_at hx5 (show k < ((part nn k).set k 5).length by rw [List.length_set, part_length hk]; exact hlt)
              clear HS hx5 hq hb
              go_wp2
              go_roundg (nn - (k + 1))
              case measure => omega
              case rel => exact ⟨k + 1, rfl, by omega, by go_num, HZ.out.1, HZ.out.2⟩
            · have hb : bootCell 48 k = 5 := by unfold bootCell; rw [if_pos (by omega), if_neg c4]
              have q1 : ¬ (k : Int).tmod 2 = 0 := by rw [Int.tmod_eq_emod_of_nonneg hk0]; omega
              have H1 := Lib.hid (part_set hlt)
              rw [hb] at H1
              have HZ := Lib.hid (HS.out 5)
              rw [vals_set, H1.out] at HZ
              clear HS hb
              go_wp2
              go_roundg (nn - (k + 1))
              case measure => omega
              case rel => exact ⟨k + 1, rfl, by omega, by go_num, HZ.out.1, HZ.out.2⟩
          · have hb : bootCell 48 k = 0 := by unfold bootCell; rw [if_neg (by omega), if_neg c1]
            have H1 := Lib.hid (part_same hlt hb)
            clear HS hb
            go_wp2
            go_roundg (nn - (k + 1))
            case measure => omega
            case rel => exact ⟨k + 1, rfl, by omega, by go_num, by rw [H1.out]; exact HX.out, HY.out⟩
        · have hb : bootCell 48 k = 0 := by unfold bootCell; rw [if_neg (by omega), if_neg c1]
          have H1 := Lib.hid (part_same hlt hb)
          clear HS hb
          go_wp2
          go_roundg (nn - (k + 1))
          case measure => omega
          case rel => exact ⟨k + 1, rfl, by omega, by go_num, by rw [H1.out]; exact HX.out, HY.out⟩
    · obtain rfl : k = nn := by omega
      have HO := Lib.hid HX.out
      rw [part_all] at HO
      have HRR := Lib.hid ((Stirred.of_below (HY.out.mono (Nat.le_of_eq HGE.out)) []).whole HR.out List.not_mem_nil)
      have HBW := Lib.hid (show Below w.heap.size w wr from HB1.out.trans (HY.out.mono (by have := HB1.out.size; have := HGE.out; omega)))
      clear HX
      go_wp2_with (refine st_state (by rfl) _ _ rfl r _ rfl rfl _ _ HRR.out rfl rfl (all_one rfl rfl rfl) ?_; intro wf hrf htf; have HRF := Lib.hid hrf; have HTF := Lib.hid htf; clear hrf htf)
      refine bodyPost_ret (results_cell_row rfl _ _ r _ _ _ _ rfl HRF.out Tryz.underlying50 rfl state_size) rfl ?_
      have hge := HGE.out
      have hrl := whole_lt HR.out
      have hrg := HRG.out
      refine ⟨_, rfl, ⟨_, _, _, rfl, ⟨Owns.nil _ _ _, Owns.nil _ _ _, (HO.out.touch HTF.out (fun j hj hm => ?_)).from (by omega), (fun j e => by simp [blk] at e), (fun j e => by simp [blk] at e)⟩⟩, HBW.out.trans (HTF.out.below (fun j hj => by rw [List.mem_singleton.1 hj]; omega) HBW.out.size)⟩
      have h1 := (HO.out.block j hj).1
      rw [List.mem_singleton.1 hm] at h1
      omega
end Go.Proofs.YtpecingkoodmfaaGreatDoor.Ev
