/- Package inner: copying; beginning a word. -/
import Derived.Test.YtcffbeihgchpgaaGreatDoorG20
import Derived.Deep.RegionHeld3
import Derived.Test.YtcffbeihgchpgaaGreatDoorG4
import Derived.Test.YtcffbeihgchpgaaGreatDoorG3
import Derived.Test.YtcffbeihgchpgaaGreatDoorG13
import Derived.LaidLaws
import Derived.LaidHandle
import Derived.Lib.LaidTab
import Derived.Lib.LaidIn
import Derived.Lib.LaidCaseMet
import Derived.PinnedBridge
import Derived.ChangeVars
import Derived.Handed
import Derived.Deep.DeepWitnessRef
import Derived.Test.YtcffbeihgchpgaaGreatDoorG2
import Derived.ProofKit
import Derived.ChangeSlices
import Derived.Deep.Slices
namespace Go.Proofs.YtcffbeihgchpgaaGreatDoor.Inn
open Go.RowKit Book Mem Mach
set_option linter.unusedVariables false
set_option linter.unusedSimpArgs false
set_option maxHeartbeats 4000000 in
set_option maxRecDepth 100000 in
/-- slices.Clone of a list wherever it lies -/
theorem clone_reads {w : World} {v : Value} {xs : List Int} (h : ReadsC w v xs) (hl : xs.length ≤ 10000) :
    Calls Tryz.prog 145 #[v] w fun e w' => ∃ c, e = .returned c ∧ Owns w' w.heap.size 3 c (vals xs) ∧ Below w.heap.size w w' := by
  obtain ⟨i0, q1, q2, q3, q4⟩ := info_parts Tryz.bkIntInfo
  have HI := Lib.hid (And.intro q1 (And.intro q2 (And.intro q3 q4)))
  have HR := Lib.hid h.1
  obtain ⟨ao, c, rfl, hc⟩ := h.2
  cases ao with
  | none =>
    have hx : xs = [] := by
      cases xs with
      | nil => rfl
      | cons x r =>
        obtain ⟨ao', c', e, hcell⟩ := h.1
        simp only [Value.slice.injEq] at e
        obtain ⟨a, ha, _⟩ := hcell 0 x rfl
        rw [← e.1] at ha
        cases ha
    subst hx
    exact (Tryz.slices_Clone_int_nil 0 c w).mono fun e w' ⟨h1, h2⟩ => by subst h2; exact ⟨_, h1, Owns.nil _ _ _, Below.refl _ _⟩
  | some ad =>
    obtain ⟨n, hn⟩ : ∃ n, xs.length = n := ⟨_, rfl⟩
    rw [hn] at hc HR
    have HN := Lib.hid hn
    have HL := Lib.hid hl
    rw [hn]
    clear h q1 q2 q3 q4 hn hl
    have hne := Lib.run_eql_slice_some_nil (P := Tryz.prog) w ad n c Tryz.underlying22
    go_enter Tryz.func145, Tryz.ntmps145
    have HB1 := Lib.hid ((Below.refl w.heap.size w).alloc (Nat.le_refl _) (.cells #[] 3))
    go_wp2_with (refine wpList_append_reads _ rfl _ _ 22 rfl w.heap.size 3 i0 (.int .i64 0) 8 Tryz.underlying22 HI.out.1 HI.out.2.1 HI.out.2.2.1 HI.out.2.2.2 rfl (.slice (some ⟨w.heap.size, 0, none⟩) 0 0) [] rfl (Owns.empty _ _ _ _) (.slice (some ad) n c) xs rfl (HR.out.below HB1.out) (by have := HL.out; unfold maxLen; simp; omega) (by have := HL.out; simp; omega) HB1.out.size ?_; intro v1 w2 ho _ ht _; have HO := Lib.hid (show Owns w2 w.heap.size 3 v1 (vals xs) from ho); have HT := Lib.hid (HB1.out.trans (ht.below (fun k hk => by simp [blk] at hk) HB1.out.size)); obtain ⟨a1, c1, e1⟩ := HO.out.slice; rw [vals_length] at e1; subst e1; clear ho ht)
    go_ret
    exact ⟨_, rfl, HO.out, HT.out⟩
theorem SS.six {w : World} {s r : Nat} {m : M} {vs vb vm : Value} {st bk me : List Int} {o1 o2 o3 : Option Value} {wc : World} (h : SS w s r (cells10 m.ip m.handler vs vb vm m.out m.inp m.read m.status m.code) st bk me o1 o2 o3 wc) :
    wc.cell? ⟨s, 2, none⟩ = some vs ∧ wc.cell? ⟨s, 3, none⟩ = some vb ∧ wc.cell? ⟨s, 4, none⟩ = some vm ∧ wc.frozen? ⟨s, 2, none⟩ = false ∧ wc.frozen? ⟨s, 3, none⟩ = false ∧ wc.frozen? ⟨s, 4, none⟩ = false :=
  ⟨whole_cell h.hs rfl, whole_cell h.hs rfl, whole_cell h.hs rfl, whole_frozen h.hs 2, whole_frozen h.hs 3, whole_frozen h.hs 4⟩
end Go.Proofs.YtcffbeihgchpgaaGreatDoor.Inn
/- Package inner: beginning a word; a fault; a step. -/
namespace Go.Proofs.YtcffbeihgchpgaaGreatDoor.Inn
open Go.RowKit Book Mem Mach
set_option linter.unusedVariables false
set_option linter.unusedSimpArgs false
theorem OwnsL.box {w w' : World} {B g : Nat} {vs vb vm : Value} {m : M} {cs : Array Value} (h : OwnsL w B vs vb vm m) (hs : Stirred w w' [g]) (hg : w.heap[g]? = some (.cells cs 24 (0, 0))) : OwnsL w' B vs vb vm m :=
  ⟨own_box h.st hs hg, own_box h.bk hs hg, own_box h.me hs hg, h.sb, h.bm⟩
theorem box_lt {w : World} {g B : Nat} {o : Obj} (h : w.heap[g]? = some o) (hB : B ≤ g) : B ≤ w.heap.size := Nat.le_of_lt (Nat.lt_of_le_of_lt hB (whole_lt h))
/-- what is known while a state's box is written: it, another one, lists of one's own -/
structure BX (w : World) (g r : Nat) (cs : Array Value) (v1 v2 v3 vl : Value) (m : M) (xl : List Int) (wc : World) : Prop where
  hb : Below w.heap.size w wc
  hg : wc.heap[g]? = some (.cells cs 24 (0, 0))
  hr : wc.heap[r]? = some (.cells zero10 24 (0, 0))
  own : OwnsL wc w.heap.size v1 v2 v3 m
  lst : Owns wc w.heap.size 3 vl (vals xl)
  dl : ∀ k, blk vl = some k → blk v1 ≠ some k ∧ blk v3 ≠ some k
theorem BX.set {w wc : World} {g r : Nat} {cs : Array Value} {v1 v2 v3 vl : Value} {m : M} {xl : List Int} (h : BX w g r cs v1 v2 v3 vl m xl wc) (hw : w.heap.size ≤ g) (hn : g ≠ r) (j : Nat) (v : Value) : BX w g r (cs.setIfInBounds j v) v1 v2 v3 vl m xl (wc.setCell ⟨g, j, none⟩ v) :=
  have ht := Stirred.setCell wc ⟨g, j, none⟩ v
  ⟨h.hb.trans (ht.below (fun k hk => by rw [List.mem_singleton.1 hk]; exact hw) h.hb.size), whole_set h.hg j v, ht.whole h.hr (by rw [List.mem_singleton]; exact Ne.symm hn), OwnsL.box h.own ht h.hg, own_box h.lst ht h.hg, h.dl⟩
set_option maxHeartbeats 16000000 in
set_option maxRecDepth 100000 in
theorem innStep_any {w : World} {v : Value} {m : M} (h : ReadsM w v m) (hr : Right m) (hc : Cells m) (hin : m.inp.size ≤ maxLen) (hE : ∀ wc, Below w.heap.size w wc → Tabs wc) :
    Calls Tryz.prog 37 #[v] w (GivesM (Mach.step m) w) := by
  have HV := Lib.hid h
  obtain ⟨vs, vb, vm, rfl, -, -, -⟩ := h
  obtain ⟨w1, w2, g, r, hw1, hw2, hg, hr', HG, HR, HB0, HZ, HW⟩ := two_boxes w (cells10 m.ip m.handler vs vb vm m.out m.inp m.read m.status m.code)
  have HBW := Lib.hid (show Below w.heap.size w w2 by have := HB0.out; rw [← HW.out] at this; exact this)
  have C := Lib.hid (innRun_nat (HV.out.below HBW.out) hr hc hin (fun wc hb => hE wc (HBW.out.trans (hb.mono HBW.out.size))) 1 (by decide))
  have hst : (Mach.run 1 m).1 = Mach.step m := by
    by_cases h0 : m.status = 0
    · rw [run_go h0]; rfl
    · rw [run_still h0]; unfold Mach.step; rw [if_pos h0]
  rw [runI_nat, hst] at C
  clear hr hc hin hE hst
  go_enter Tryz.func37, Tryz.ntmps37
  go_upto_region 1 with fail
  clear hw1 hw2 hg hr'
  go_wp2_with (refine ld_state (by rfl) _ rfl _ rfl _ _ HG.out rfl ?_)
  refine C.out.mono ?_
  rintro e w3 ⟨v, rfl, ⟨v1, v2, v3, rfl, ho⟩, hb⟩
  have HG3 := Lib.hid ((Stirred.of_below hb []).whole HG.out List.not_mem_nil)
  have HR3 := Lib.hid ((Stirred.of_below hb []).whole HR.out List.not_mem_nil)
  have HO3 := Lib.hid (⟨ho.st.from HBW.out.size, ho.bk.from HBW.out.size, ho.me.from HBW.out.size, ho.sb, ho.bm⟩ : OwnsL w3 w.heap.size v1 v2 v3 (Mach.step m))
  have HB3 := Lib.hid (HBW.out.trans (hb.mono HBW.out.size))
  generalize Mach.step m = m1 at *
  clear ho hb C
  go_upto_region 2 with (refine st_state (by rfl) _ _ rfl g _ rfl rfl _ _ HG3.out rfl rfl (all_one (slice_one HO3.out.st.slice) (slice_one HO3.out.bk.slice) (slice_one HO3.out.me.slice)) ?_; intro w4 hg4 ht4; have HG4 := Lib.hid hg4; have HT4 := Lib.hid ht4; clear hg4 ht4)
  dsimp only [Act.put]
  have HO4 := Lib.hid (OwnsL.box HO3.out HT4.out HG3.out)
  have HR4 := Lib.hid (HT4.out.whole HR3.out (by have := HZ.out; rw [List.mem_singleton]; omega))
  have HB4 := Lib.hid (HB3.out.trans (HT4.out.below (fun k hk => by rw [List.mem_singleton.1 hk]; exact Nat.le_of_eq HW.out) HB3.out.size))
  go_wp2_with (first
    | (refine ld_state (by rfl) _ rfl _ rfl _ _ HG4.out rfl ?_)
    | (refine st_state (by rfl) _ _ rfl r _ rfl rfl _ _ HR4.out rfl rfl (all_one (slice_one HO4.out.st.slice) (slice_one HO4.out.bk.slice) (slice_one HO4.out.me.slice)) ?_; intro wf hrf htf; have HRF := Lib.hid hrf; have HTF := Lib.hid htf; clear hrf htf))
  refine bodyPost_ret (results_cell_row rfl _ _ r _ _ _ _ rfl HRF.out Tryz.underlying24 rfl state_size) rfl ?_
  exact ⟨_, rfl, ⟨v1, v2, v3, rfl, OwnsL.box HO4.out HTF.out HR4.out⟩, HB4.out.trans (HTF.out.below (fun k hk => by rw [List.mem_singleton.1 hk]; have h1 := HW.out; have h2 := HZ.out; omega) HB4.out.size)⟩
end Go.Proofs.YtcffbeihgchpgaaGreatDoor.Inn
/- Package inner: which machines may be; a fault. -/
namespace Go.Proofs.YtcffbeihgchpgaaGreatDoor.Inn
open Go.RowKit Book Mem Mach
set_option linter.unusedVariables false
set_option linter.unusedSimpArgs false
set_option maxHeartbeats 16000000 in
set_option maxRecDepth 100000 in
theorem innRight_any {w : World} {v : Value} {m : M} (h : ReadsM w v m) (hi : m.inp.size ≤ maxLen) (ho : m.out.size ≤ maxLen) :
    Calls Tryz.prog 36 #[v] w (Says (.bool (rightM m)) w) := by
  obtain ⟨vs, vb, vm, rfl, ⟨⟨so, sc, hs, _⟩, _⟩, ⟨⟨bo, bc, hb, _⟩, _⟩, ⟨⟨mo, mc, hm, _⟩, _⟩⟩ := h
  obtain ⟨ip, hn, st, bk, me, ou, inn, rd, stt, cd⟩ := m
  simp only at hs hb hm hi ho ⊢
  subst hs
  subst hb
  subst hm
  have hi' : inn.size ≤ 9223372036854775807 := hi
  have ho' : ou.size ≤ 9223372036854775807 := ho
  have HR := Lib.hid (show rightM ⟨ip, hn, st, bk, me, ou, inn, rd, stt, cd⟩ = decide (st.length ≤ 48 ∧ bk.length ≤ 48 ∧ me.length ≤ 3000 ∧ ou.size ≤ 2000 ∧ 0 ≤ rd ∧ rd ≤ inn.size ∧ 0 ≤ stt ∧ stt ≤ 2) from rfl)
  obtain ⟨r, hr⟩ : ∃ r, rightM ⟨ip, hn, st, bk, me, ou, inn, rd, stt, cd⟩ = r := ⟨_, rfl⟩
  rw [hr]
  have HR2 := Lib.hid (hr.symm.trans HR.out)
  clear hi ho hr HR
  have hb1 := Lib.hid ((Below.refl w.heap.size w).alloc (Nat.le_refl _) (.cells (cells10 ip hn (.slice so st.length sc) (.slice bo bk.length bc) (.slice mo me.length mc) ou inn rd stt cd) 24))
  have hw : stt = 0 ∨ stt = 1 ∨ stt = 2 ∨ (¬ stt = 0 ∧ ¬ stt = 1 ∧ ¬ stt = 2) := by omega
  have hways : ¬ st.length ≤ 48 ∨ st.length ≤ 48 ∧ (¬ bk.length ≤ 48 ∨ bk.length ≤ 48 ∧ (¬ me.length ≤ 3000 ∨ me.length ≤ 3000 ∧ (¬ ou.size ≤ 2000 ∨ ou.size ≤ 2000 ∧ (¬ 0 ≤ rd ∨ 0 ≤ rd ∧ (¬ rd ≤ (inn.size : Int) ∨ rd ≤ (inn.size : Int)))))) := by omega
  rcases hw with rfl | rfl | rfl | ⟨s0, s1, s2⟩
  rotate_left 3
  · have HE := Lib.hid (show r = false by rw [HR2.out]; exact decide_eq_false fun h => by omega)
    clear HR2 hways
    go_enter Tryz.func36, Tryz.ntmps36
    go_wp2
    go_ret
    exact ⟨by rw [HE.out]; rfl, hb1.out⟩
  all_goals
    rcases hways with c1 | ⟨c1, c2 | ⟨c2, c3 | ⟨c3, c4 | ⟨c4, c5 | ⟨c5, c6 | c6⟩⟩⟩⟩⟩
    all_goals
      first
        | (have HE := Lib.hid (show r = false by rw [HR2.out]; exact decide_eq_false fun h => by omega)
           clear HR2
           go_enter Tryz.func36, Tryz.ntmps36
           go_wp2
           go_ret
           exact ⟨by rw [HE.out]; rfl, hb1.out⟩)
        | (have HE := Lib.hid (show r = true by rw [HR2.out]; exact decide_eq_true (by omega))
           clear HR2
           go_enter Tryz.func36, Tryz.ntmps36
           go_wp2
           go_ret
           exact ⟨by rw [HE.out]; rfl, hb1.out⟩)
end Go.Proofs.YtcffbeihgchpgaaGreatDoor.Inn
/- Package inner: a run without fuel. -/
namespace Go.Proofs.YtcffbeihgchpgaaGreatDoor.Inn
open Go.RowKit Book Mem Mach
set_option linter.unusedVariables false
set_option linter.unusedSimpArgs false
set_option maxHeartbeats 16000000 in
set_option maxRecDepth 100000 in
theorem innRun_neg {w : World} {v : Value} {m : M} (h : ReadsM w v m) (hr : Right m) (f : Int) (hf : f < 0) :
    Calls Tryz.prog 59 #[v, .int .i64 f] w (Ran w (m, f)) := by
  have HV := Lib.hid h
  obtain ⟨vs, vb, vm, rfl, hs, hb, hm⟩ := h
  obtain ⟨w1, w2, g, r, hw1, hw2, hg, hr', HG, HR, HB0, HZ, HW⟩ := two_boxes w (cells10 m.ip m.handler vs vb vm m.out m.inp m.read m.status m.code)
  have HBW := Lib.hid (show Below w.heap.size w w2 by have := HB0.out; rw [← HW.out] at this; exact this)
  have O := Lib.hid (open_any (HV.out.below HBW.out) hr)
  clear hs hb hm hr
  go_enter Tryz.func59, Tryz.ntmps59
  go_upto_region 1 with fail
  clear hw1 hw2 hg hr'
  go_wp2_with (refine ld_state (by rfl) _ rfl _ rfl _ _ HG.out rfl ?_)
  refine O.out.mono ?_
  rintro e w3 ⟨q, F, rfl, hMk, hb⟩
  have HMK := Lib.hid hMk
  have HB3 := Lib.hid hb
  clear hMk hb O HG
  have hf0 : ¬ 0 < f := by omega
  go_wp2_with fail
  go_loopg [1] 0 (fun z a wr => a = .int .i64 f ∧ wr = w3)
  case atStart => exact ⟨rfl, rfl⟩
  case round =>
    obtain ⟨rfl, rfl⟩ := hrel
    obtain ⟨ps, gs, pb, gb, pf, vC, vH, ch, vs1, vb1, vm1, -, hM⟩ := HMK.out
    have c8 : wr.cell? ⟨q, 8, none⟩ = some (.int .i64 m.status) := whole_cell hM.box rfl
    clear hM
    have C := Lib.hid (state_any HMK.out)
    have HRR := Lib.hid ((Stirred.of_below HB3.out []).whole HR.out List.not_mem_nil)
    have HBWR := Lib.hid (show Below w.heap.size w wr from HBW.out.trans (HB3.out.mono HBW.out.size))
    have HGE := Lib.hid (show w.heap.size ≤ r by have := HW.out; have := HZ.out; omega)
    obtain ⟨st1, hst1⟩ : ∃ z, m.status = z := ⟨_, rfl⟩
    rw [hst1] at c8
    have HST := Lib.hid hst1
    clear hst1 HMK
    by_cases h0 : st1 = 0
    · subst h0
      go_wp2_with fail
      refine C.out.mono ?_
      rintro e wn ⟨v, rfl, ho, hb⟩
      obtain ⟨v1, v2, v3, rfl, hol⟩ := ho
      have HRX := Lib.hid ((Stirred.of_below hb []).whole HRR.out List.not_mem_nil)
      have HOL := Lib.hid hol
      have HBN := Lib.hid hb
      clear hol hb C c8
      go_wp2_with (refine st_state (by rfl) _ _ rfl r _ rfl rfl _ _ HRX.out rfl rfl (all_one (slice_one HOL.out.st.slice) (slice_one HOL.out.bk.slice) (slice_one HOL.out.me.slice)) ?_; intro wf hrf htf; have HRF := Lib.hid hrf; have HTF := Lib.hid htf; clear hrf htf)
      refine bodyPost_ret (results_state_tmp rfl _ _ r _ rfl (load_state HRF.out rfl)) rfl ?_
      have h := OwnsL.far HBWR.out HGE.out (whole_lt HRR.out) HBN.out HOL.out HTF.out
      exact ⟨_, rfl, ⟨v1, v2, v3, rfl, h.1⟩, h.2⟩
    · have h1 : (st1 == 0) = false := by simpa using h0
      clear h0
      go_wp2_with fail
      refine C.out.mono ?_
      rintro e wn ⟨v, rfl, ho, hb⟩
      obtain ⟨v1, v2, v3, rfl, hol⟩ := ho
      have HRX := Lib.hid ((Stirred.of_below hb []).whole HRR.out List.not_mem_nil)
      have HOL := Lib.hid hol
      have HBN := Lib.hid hb
      clear hol hb C c8
      go_wp2_with (refine st_state (by rfl) _ _ rfl r _ rfl rfl _ _ HRX.out rfl rfl (all_one (slice_one HOL.out.st.slice) (slice_one HOL.out.bk.slice) (slice_one HOL.out.me.slice)) ?_; intro wf hrf htf; have HRF := Lib.hid hrf; have HTF := Lib.hid htf; clear hrf htf)
      refine bodyPost_ret (results_state_tmp rfl _ _ r _ rfl (load_state HRF.out rfl)) rfl ?_
      have h := OwnsL.far HBWR.out HGE.out (whole_lt HRR.out) HBN.out HOL.out HTF.out
      exact ⟨_, rfl, ⟨v1, v2, v3, rfl, h.1⟩, h.2⟩
end Go.Proofs.YtcffbeihgchpgaaGreatDoor.Inn
/- The first call of hollowaylaw9's statements. -/
namespace Go.Proofs.YtcffbeihgchpgaaGreatDoor.Inn
open Go.RowKit Book Mem Mach
set_option linter.unusedVariables false
set_option linter.unusedSimpArgs false
def aliveMem : List Int := (((((bootMem 48 300).set 192 2).set 193 3).set 194 6).set 195 13).set 196 5
def aliveM : M := { bootM 300 ⟨#[]⟩ with mem := aliveMem }
def aliveE : M := { aliveM with ip := 192, handler := 0, back := [0], status := 0, code := 0 }
theorem alive_runs : (Mach.run 99 aliveE).2 = 94 ∧ (Mach.run 99 aliveE).1.status = 1 ∧ (Mach.run 99 aliveE).1.stack = [9] := by decide +kernel
theorem alive_right : Right aliveE := (rightM_iff aliveE).1 (by decide +kernel)
theorem alive_mem : ∀ x ∈ aliveMem, -9223372036854775808 ≤ x ∧ x ≤ 9223372036854775807 := by decide +kernel
theorem alive_cells : Cells aliveE :=
  ⟨by show Cell.In 192; unfold Cell.In; decide, by show Cell.In 0; unfold Cell.In; decide, (fun x h => by cases h), (fun x h => by rcases List.mem_singleton.1 h with rfl; unfold Cell.In; decide), (fun x h => alive_mem x h), by show Cell.In 0; unfold Cell.In; decide⟩
theorem alive_boot : (bootMem 48 300)[76]? = some 6 := by decide +kernel
theorem keep5 {w : World} {b g j : Nat} {u v : Value} (hn : b ≠ g) (h : w.cell? ⟨b, 4, none⟩ = some v) : (w.setCell ⟨g, j, none⟩ u).cell? ⟨b, 4, none⟩ = some v :=
  (Stirred.setCell w ⟨g, j, none⟩ u).cell (by rw [List.mem_singleton]; exact hn) h
theorem drewc {w : World} {a : Addr} {v : Value} (h : w.cell? a = some v) : w.drew.cell? a = some v := h
end Go.Proofs.YtcffbeihgchpgaaGreatDoor.Inn
/- The tables that stage 9's rows list: what they hold, and a world in which they are laid. -/
namespace Go.Proofs.YtcffbeihgchpgaaGreatDoor.Inn
open Go.RowKit Go.Lib Go.Shelf
set_option linter.unusedVariables false
set_option linter.unusedSimpArgs false
section
variable {H : Type} {enc : TypeId × Value → H}
/-- a world that fits, in which listed variables may hold addresses -/
theorem witness_ref {C : Checked} {os : Os} {f : FuncId} {fn : Func} {s : ChangeSpec} {conds : List PathCond} {apart : Bool} {X : World → Array Value → Prop} (modest : Bool) (w0 : World) (args : Array Value) (fuel : Nat) (hos : w0.os = os)
    (hv : (w0.forCall (fun _ _ => 0) ⟨#[], args, []⟩).variablesRefB C.prog = true)
    (hr : ((w0.forCall (fun _ _ => 0) ⟨#[], args, []⟩).heap.toList.drop C.prog.globals.size).take ((begin C.prog (fun _ _ => 0) default).world.heap.size - C.prog.globals.size) = (begin C.prog (fun _ _ => 0) default).world.heap.toList.drop C.prog.globals.size)
    (hok : Input.okWideB C.prog (w0.forCall (fun _ _ => 0) ⟨#[], args, []⟩) f ⟨#[], args, []⟩ = true)
    (hpre : s.preB enc C.prog fn conds apart (w0.forCall (fun _ _ => 0) ⟨#[], args, []⟩).memory args fuel = true)
    (hsz : s.sizedB enc C.prog fn apart (w0.forCall (fun _ _ => 0) ⟨#[], args, []⟩).memory args fuel = true)
    (hx : X (w0.forCall (fun _ _ => 0) ⟨#[], args, []⟩).memory args) :
    ∃ (w : World) (tape : Tape) (i : Input), w.os = os ∧ (w.forCall tape i).Shaped C.prog ∧ i.vars = [] ∧ Input.okWide C.prog (w.forCall tape i) .any w.heap.size f i ∧
      ((s.pre enc C.prog fn conds apart (w.forCall tape i).memory i.args ∧ X (w.forCall tape i).memory i.args) ∧ sizedMet enc C.prog fn (OpenSpec.ofChange s) apart (w.forCall tape i).memory i.args) ∧ ({ modest := modest } : Assume).holds C.prog (lone (Frame.enter C.prog f i.args .normal) [] (w.forCall tape i)) := by
  refine ⟨w0, fun _ _ => 0, ⟨#[], args, []⟩, hos, World.shaped_of_RefB hv hr, ?_, ?_, ?_, ?_⟩
  · exact (Input.okWide_of_okWideB (base := 0) hok).1
  · exact (Input.okWide_of_okWideB hok).2
  · exact ⟨⟨ChangeSpec.pre_of_preB hpre, hx⟩, sizedMet_of_sizedB hsz⟩
  · simp only [Assume.holds]
    exact ⟨by simp, by simp, fun _ => Modest.zero, by simp, by simp⟩
end
abbrev laidL9 : List (String × DataW Unit) := [("holloway/op.names", Rows.laid_holloway_op_names), ("math/bits.deBruijn32tab", Rows.laid_math_bits_deBruijn32tab), ("math/bits.deBruijn64tab", Rows.laid_math_bits_deBruijn64tab), ("internal/strconv.uint64pow10", Rows.laid_internal_strconv_uint64pow10), ("unicode/utf8.acceptRanges", Rows.laid_unicode_utf8_acceptRanges), ("errors.errorType", Rows.laid_errors_errorType), ("unicode.CaseRanges", Rows.laid_unicode_CaseRanges), ("unicode/utf8.first", Rows.laid_unicode_utf8_first)]
def tabs7 : List (String × DataW Unit) := [("holloway/op.names", Rows.laid_holloway_op_names), ("math/bits.deBruijn32tab", Rows.laid_math_bits_deBruijn32tab), ("math/bits.deBruijn64tab", Rows.laid_math_bits_deBruijn64tab), ("internal/strconv.uint64pow10", Rows.laid_internal_strconv_uint64pow10), ("unicode/utf8.acceptRanges", Rows.laid_unicode_utf8_acceptRanges), ("unicode.CaseRanges", Rows.laid_unicode_CaseRanges), ("unicode/utf8.first", Rows.laid_unicode_utf8_first)]
theorem laid_none : (laidL9.filter fun x => x.2.handleName?.isNone) = tabs7 := rfl
theorem laid_some : (laidL9.filter fun x => x.2.handleName?.isSome) = [("errors.errorType", Rows.laid_errors_errorType)] := rfl
theorem split9 {W : World} (h : laidMetH Tryz.prog laidL9 W) : laidMet Tryz.prog tabs7 W ∧ handlesMet Tryz.prog [("errors.errorType", Rows.laid_errors_errorType)] W := by
  unfold laidMetH at h
  rw [laid_none, laid_some] at h
  exact h
theorem join9 {W : World} (h : laidMet Tryz.prog tabs7 W) (g : handlesMet Tryz.prog [("errors.errorType", Rows.laid_errors_errorType)] W) : laidMetH Tryz.prog laidL9 W := by
  unfold laidMetH
  rw [laid_none, laid_some]
  exact ⟨h, g⟩
theorem vars_mem9 {P : Program} {W : World} : ∀ {l : List (String × DataW Unit)} {ps : List MemPlace}, DataW.LaidVars P W l ps → ∀ {n d}, (n, d) ∈ l → ∃ g t cs fuel p, P.globalNamed n = some g ∧ (P.globals[g]?).map (·.type) = some t ∧ W.var? P n = some cs ∧ DataW.trod (fun _ => ()) P W 0 (fun _ => true) false fuel t cs.toList = some (d, p)
  | [], _, _, _, _, hm => by cases hm
  | (n0, d0) :: r, ps, ⟨g, t, cs, fuel, p, q, h1, h2, h3, h4, h5, h6⟩, n, d, hm => by
    rcases List.mem_cons.1 hm with e | hm
    · obtain ⟨rfl, rfl⟩ := Prod.mk.inj e
      exact ⟨g, t, cs, fuel, p, h1, h2, h3, h4⟩
    · exact vars_mem9 h5 hm
theorem tens9 {W : World} (h : laidMet Tryz.prog tabs7 W) : Tens W := by
  obtain ⟨ps, hv, _⟩ := h
  obtain ⟨g, t, cs, fuel, p, h1, h2, h3, h4⟩ := vars_mem9 hv (n := "internal/strconv.uint64pow10") (d := Lib.tabData .u64 Lib.pow10Tab) (by rw [← show Rows.laid_internal_strconv_uint64pow10 (H := Unit) = Lib.tabData .u64 Lib.pow10Tab from by kernel_rfl]; exact .tail _ (.tail _ (.tail _ (.head _))))
  obtain rfl := Option.some.inj (Tryz.gt.symm.trans h1)
  have ht : (Tryz.prog.globals[3]?).map (·.type) = some 246 := by kernel_rfl
  obtain rfl := Option.some.inj (ht.symm.trans h2)
  unfold Tens Lib.TabIs
  rw [h3, ← Lib.cells_of_tab Tryz.underlying246 Tryz.underlying98 (by kernel_rfl) (by kernel_rfl) h4]
theorem zeros9 {W : World} (h : laidMet Tryz.prog tabs7 W) : Zeros W := by
  obtain ⟨ps, hv, _⟩ := h
  obtain ⟨g, t, cs, fuel, p, h1, h2, h3, h4⟩ := vars_mem9 hv (n := "math/bits.deBruijn64tab") (d := Lib.tabData .u8 tz64) (by rw [← show Rows.laid_math_bits_deBruijn64tab (H := Unit) = Lib.tabData .u8 tz64 from by kernel_rfl]; exact .tail _ (.tail _ (.head _)))
  obtain rfl := Option.some.inj (Tryz.gz.symm.trans h1)
  have ht : (Tryz.prog.globals[8]?).map (·.type) = some 260 := by kernel_rfl
  obtain rfl := Option.some.inj (ht.symm.trans h2)
  unfold Zeros Lib.TabIs
  rw [h3, ← Lib.cells_of_tab Tryz.underlying260 Tryz.underlying5 (by kernel_rfl) (by kernel_rfl) h4]
theorem names9 {W : World} (h : laidMet Tryz.prog tabs7 W) : NamesIs W := by
  obtain ⟨ps, hv, _⟩ := h
  obtain ⟨g, t, cs, fuel, p, h1, h2, h3, h4⟩ := vars_mem9 hv (n := "holloway/op.names") (d := .agg (opNames.map fun z => .lit (.string z.data.toList))) (by rw [← show Rows.laid_holloway_op_names (H := Unit) = .agg (opNames.map fun z => .lit (.string z.data.toList)) from by kernel_rfl]; exact .head _)
  obtain rfl := Option.some.inj (gn.symm.trans h1)
  have ht : (Tryz.prog.globals[0]?).map (·.type) = some 181 := by kernel_rfl
  obtain rfl := Option.some.inj (ht.symm.trans h2)
  unfold NamesIs
  rw [h3, ← cells_of_strs Tryz.underlying181 Tryz.underlying9 (by kernel_rfl) (by kernel_rfl) h4]
theorem et9 : Tryz.prog.globalNamed "errors.errorType" = some 1 := by kernel_rfl
theorem rt9 : (Tryz.prog.cutTypes.find? (·.1 == "internal/reflectlite.rtype")).map (·.2) = some 200 := by kernel_rfl
theorem size9 : Tryz.prog.types.size + 100 = 387 := by kernel_rfl
theorem oneRow9 : ((List.range (387 - 100)).filter fun t => Tryz.prog.rowNamed t [101, 114, 114, 111, 114]) = [140] := by kernel_rfl
theorem handle9 {W : World} (h : handlesMet Tryz.prog [("errors.errorType", Rows.laid_errors_errorType)] W) : ErrorType W := by
  obtain ⟨name, u, ty, e1, e2, e3, e4, e5⟩ := h ("errors.errorType", Rows.laid_errors_errorType) (List.mem_singleton.2 rfl)
  have en : name = [101, 114, 114, 111, 114] := (Option.some.inj e1).symm
  subst en
  obtain rfl := Option.some.inj (rt9.symm.trans e2)
  have hm : ty ∈ (List.range (387 - 100)).filter fun t => Tryz.prog.rowNamed t [101, 114, 114, 111, 114] := List.mem_filter.2 ⟨List.mem_range.2 (by have := size9; omega), e4⟩
  rw [oneRow9] at hm
  obtain rfl := List.mem_singleton.1 hm
  have hh : typeHandle Tryz.prog 140 = hd 140 := by kernel_rfl
  rw [hh] at e5
  simpa [ErrorType] using World.var?_cell et9 e5 0
theorem tabs_of {W : World} (h : laidMetH Tryz.prog laidL9 W) : Tabs W := ⟨names9 (split9 h).1, handle9 (split9 h).2, zeros9 (split9 h).1, tens9 (split9 h).1⟩
theorem tabs_on {W : World} (h : laidMetH Tryz.prog laidL9 W) : ∀ wc, Below W.heap.size W wc → Tabs wc := fun wc hb => (tabs_of h).mono hb
/-- what a datum of plain numbers is in cells -/
def cellsOfD {H : Type} : DataW H → Array Value
  | .agg l => (l.flatMap fun
    | .lit (.int k z) => [Value.int k z]
    | .agg r => r.filterMap fun | .lit (.int k z) => some (Value.int k z) | _ => none
    | _ => []).toArray
  | _ => #[]
def putAt (g : Nat) (cs : Array Value) (h : Array Obj) : Array Obj := h.modify g fun
  | .cells _ t frozen => .cells cs t frozen
  | o => o
noncomputable def N0 (os : Os) : Nat := (World.settled Tryz.prog os).heap.size
noncomputable def laidWorld (os : Os) : World :=
  let w0 := World.holding Tryz.prog os ⟨#[.cells Lib.caseCells5 (Tryz.lays262_ren.t 208)], #[], []⟩
  { w0 with heap := putAt 0 (opNames.map Value.string).toArray (putAt 7 (cellsOfD (H := Unit) Rows.laid_math_bits_deBruijn32tab) (putAt 8 (cellsOfD (H := Unit) Rows.laid_math_bits_deBruijn64tab) (putAt 3 (cellsOfD (H := Unit) Rows.laid_internal_strconv_uint64pow10) (putAt 6 (cellsOfD (H := Unit) Rows.laid_unicode_utf8_acceptRanges) (putAt 1 #[rty 140] (putAt 5 (cellsOfD Rows.laid_unicode_utf8_first) (putAt 2 #[.slice (some ⟨N0 os, 0, none⟩) 336 336] w0.heap))))))) }
noncomputable abbrev called (os : Os) (args : Array Value) : World := ((laidWorld os).forCall (fun _ _ => 0) ⟨#[], args, []⟩).memory
theorem laid_first (os : Os) (args : Array Value) : LaidIn Tryz.prog (called os args) [("holloway/op.names", Rows.laid_holloway_op_names), ("math/bits.deBruijn32tab", Rows.laid_math_bits_deBruijn32tab), ("math/bits.deBruijn64tab", Rows.laid_math_bits_deBruijn64tab), ("internal/strconv.uint64pow10", Rows.laid_internal_strconv_uint64pow10), ("unicode/utf8.acceptRanges", Rows.laid_unicode_utf8_acceptRanges)] [0, 7, 8, 3, 6] :=
  LaidIn.of_run _ 10 (by kernel_rfl) (by kernel_rfl) (by kernel_rfl) (by kernel_rfl)
theorem laid_last (os : Os) (args : Array Value) : LaidIn Tryz.prog (called os args) [("unicode/utf8.first", Rows.laid_unicode_utf8_first)] [5] :=
  LaidIn.of_run _ 10 (by kernel_rfl) (by kernel_rfl) (by kernel_rfl) (by kernel_rfl)
theorem case_var (os : Os) (args : Array Value) : (called os args).heap[2]? = some (.cells #[.slice (some ⟨N0 os, 0, none⟩) 336 336] (Tryz.lays262_ren.t 162) (0, 0)) := by kernel_rfl
theorem case_blk (os : Os) (args : Array Value) : (called os args).heap[N0 os]? = some (.cells Lib.caseCells5 (Tryz.lays262_ren.t 208) (0, 0)) := by kernel_rfl
theorem case_ne (os : Os) : (N0 os == 2) = false := by kernel_rfl
theorem case_extra : CaseExtra Tryz.prog Tryz.lays262_ren := ⟨by kernel_rfl, by kernel_rfl, by kernel_rfl, by kernel_rfl, by kernel_rfl, by kernel_rfl⟩
theorem case_206 : Tryz.prog.underlying (Tryz.lays262_ren.t 206) = some (.array 3 (Tryz.lays262_ren.t 21)) := by kernel_rfl
set_option maxRecDepth 100000 in
theorem laid_case (os : Os) (args : Array Value) : LaidIn Tryz.prog (called os args) [("unicode.CaseRanges", Rows.laid_unicode_CaseRanges)] [2, N0 os] := by
  have X := case_extra
  have hvar := case_var os args
  have hblk := case_blk os args
  have hne : N0 os ≠ 2 := by simpa using case_ne os
  generalize called os args = W at *
  generalize N0 os = R at *
  have hT := caseTab_of_block hblk
  have hread := case_slice_reads { Tryz.lays262 with } case_206 X hT caseA_wf (by rw [caseA_size]; unfold maxLen; omega) 0
  rw [case_rows_data, caseA_size] at hread
  have hd : Rows.laid_unicode_CaseRanges = .slice (caseT.map rowData) [] := Pinned.caseRanges_eq
  have hv : W.var? Tryz.prog "unicode.CaseRanges" = some #[.slice (some ⟨R, 0, none⟩) 336 336] := by
    have hn : Tryz.prog.globalNamed "unicode.CaseRanges" = some 2 := X.n13
    simp [World.var?, hn, hvar]
  have hrow : MemPlace.row ⟨2, 0, none⟩ (#[Value.slice (some ⟨R, 0, none⟩) 336 336] : Array Value).size ++ MemPlace.row ⟨R, 0, none⟩ (336 * 5) = ([((⟨2, 0, none⟩ : Addr), 1), (⟨R, 0, none⟩, 336 * 5)] : List (Addr × Nat)).flatMap (fun r => MemPlace.row r.1 r.2) := by simp
  rw [hd]
  have n13 : Tryz.prog.globalNamed "unicode.CaseRanges" = some 2 := X.n13
  have y13 : (Tryz.prog.globals[2]?).map (·.type) = some (Tryz.lays262_ren.t 162) := X.y13
  refine LaidIn.one _ n13 y13 hv hread ?_ ?_ ?_
  · rw [hrow]
    exact rows_nodup _ (by simp; exact fun e => hne e.symm)
  · intro b off hp
    rcases List.mem_append.1 hp with hp | hp
    · obtain ⟨i, hi, e⟩ := MemPlace.mem_row.1 hp
      cases e
      refine ⟨⟨_, _, hvar⟩, fun u v hc => ?_⟩
      obtain rfl : i = 0 := by simp at hi; omega
      rw [Lib.cell_of_heap hvar] at hc
      simp at hc
    · obtain ⟨i, hi, e⟩ := MemPlace.mem_row.1 hp
      cases e
      refine ⟨⟨_, _, hblk⟩, fun u v hc => ?_⟩
      obtain ⟨c0, c1, c2, c3, c4⟩ := hT (i / 5) (by rw [caseA_size]; omega)
      have hi5 : 0 + i = 0 + i / 5 * 5 + i % 5 := by omega
      simp only at hc
      rw [hi5] at hc
      have hm : i % 5 < 5 := Nat.mod_lt _ (by omega)
      match hk : i % 5, hm with
      | 0, _ => rw [hk, Nat.add_zero, c0] at hc; cases hc
      | 1, _ => rw [hk, c1] at hc; cases hc
      | 2, _ => rw [hk, c2] at hc; cases hc
      | 3, _ => rw [hk, c3] at hc; cases hc
      | 4, _ => rw [hk, c4] at hc; cases hc
  · intro x hx
    rw [hrow] at hx
    have := rows_block _ x hx
    simpa using this
theorem apart1 (os : Os) : (([0, 7, 8, 3, 6] : List Nat).all fun b => !(([2, N0 os] : List Nat).contains b)) = true := by kernel_rfl
theorem apart2 (os : Os) : (([0, 7, 8, 3, 6] ++ [2, N0 os] : List Nat).all fun b => !(([5] : List Nat).contains b)) = true := by kernel_rfl
theorem handle_met (os : Os) (args : Array Value) : handlesMet Tryz.prog [("errors.errorType", Rows.laid_errors_errorType)] (called os args) :=
  (laidMetH_of_parts (l := [("errors.errorType", Rows.laid_errors_errorType)]) (laidMet_nil _ _) (by kernel_rfl)).2
theorem laidWorld_met (os : Os) (args : Array Value) : laidMetH Tryz.prog laidL9 (called os args) :=
  join9 (((laid_first os args).append (laid_case os args) (apart1 os)).append (laid_last os args) (apart2 os)).met (handle_met os args)
end Go.Proofs.YtcffbeihgchpgaaGreatDoor.Inn
/- A []int that came in. -/
namespace Go.Proofs.YtcffbeihgchpgaaGreatDoor
open Go.ChangeShapes Go.WideShapes Go.ChangeAt Go.RowKit
set_option linter.unusedVariables false
set_option maxRecDepth 1000000 in
theorem cells_int : Tryz.prog.cellsOf 3 = 1 := by kernel_rfl
set_option maxRecDepth 100000 in
theorem readsOf {H : Type} {enc : TypeId × Value → H} {W : World} {base : Nat} {v : Value} {d : DataW H} {p : List MemPlace} (hv : Value.okWide Tryz.prog W .any base 22 v) (h : DataW.Trod enc Tryz.prog W 0 (fun _ => true) true 22 v d p) : ∃ xs, Reads W v xs ∧ ∀ x ∈ xs, (Lit.int .i64 x).wf = true := by
  obtain ⟨a0, len, cap, rfl⟩ := okWide_slice Tryz.underlying22 hv
  obtain ⟨fuel, hf⟩ := h
  rcases open_ints Tryz.underlying22 Tryz.underlying3 cells_int hf with ⟨hcs, hx⟩ | ⟨a, len', cap', zs, hcs, _, hl, hm, hmm, hx, hcell, hwf⟩
  · simp [Value.cells] at hcs
    obtain ⟨rfl, rfl, rfl⟩ := hcs
    exact ⟨[], ⟨none, 0, rfl, fun j s h => by cases h⟩, fun x h => by cases h⟩
  · simp [Value.cells] at hcs
    obtain ⟨rfl, rfl, rfl⟩ := hcs
    simp only [if_true] at hmm
    refine ⟨zs.take len, ⟨some a, cap, by rw [List.length_take, Nat.min_eq_left (by omega)], fun j x h => ⟨a, rfl, ?_⟩⟩, fun x hx => hwf x (List.mem_of_mem_take hx)⟩
    have hj := (List.getElem?_eq_some_iff.1 h).1
    rw [List.length_take] at hj
    rw [List.getElem?_take, if_pos (by omega)] at h
    have := hcell j (by omega)
    rw [List.getD_eq_getElem?_getD, h] at this
    exact this
set_option maxRecDepth 100000 in
/-- .. with the room that it has -/
theorem readsCapOf {H : Type} {enc : TypeId × Value → H} {W : World} {base : Nat} {v : Value} {d : DataW H} {p : List MemPlace} (hv : Value.okWide Tryz.prog W .any base 22 v) (h : DataW.Trod enc Tryz.prog W 0 (fun _ => true) true 22 v d p) : ∃ xs, (Reads W v xs ∧ ∃ ao cap, v = .slice ao xs.length cap ∧ xs.length ≤ cap) ∧ ∀ x ∈ xs, (Lit.int .i64 x).wf = true := by
  obtain ⟨a0, len, cap, rfl⟩ := okWide_slice Tryz.underlying22 hv
  obtain ⟨fuel, hf⟩ := h
  rcases open_ints Tryz.underlying22 Tryz.underlying3 cells_int hf with ⟨hcs, hx⟩ | ⟨a, len', cap', zs, hcs, _, hl, hm, hmm, hx, hcell, hwf⟩
  · simp [Value.cells] at hcs
    obtain ⟨rfl, rfl, rfl⟩ := hcs
    exact ⟨[], ⟨⟨none, 0, rfl, fun j s h => by cases h⟩, none, 0, rfl, Nat.le_refl _⟩, fun x h => by cases h⟩
  · simp [Value.cells] at hcs
    obtain ⟨rfl, rfl, rfl⟩ := hcs
    simp only [if_true] at hmm
    refine ⟨zs.take len, ⟨⟨some a, cap, by rw [List.length_take, Nat.min_eq_left (by omega)], fun j x h => ⟨a, rfl, ?_⟩⟩, some a, cap, by rw [List.length_take, Nat.min_eq_left (by omega)], by rw [List.length_take]; omega⟩, fun x hx => hwf x (List.mem_of_mem_take hx)⟩
    have hj := (List.getElem?_eq_some_iff.1 h).1
    rw [List.length_take] at hj
    rw [List.getElem?_take, if_pos (by omega)] at h
    have := hcell j (by omega)
    rw [List.getD_eq_getElem?_getD, h] at this
    exact this
end Go.Proofs.YtcffbeihgchpgaaGreatDoor
/- An api.State that came in. -/
namespace Go.Proofs.YtcffbeihgchpgaaGreatDoor.Mach
open Go.ChangeShapes Go.WideShapes Go.ChangeAt Go.RowKit
set_option linter.unusedVariables false
set_option linter.unusedSimpArgs false
set_option maxRecDepth 1000000 in
theorem cells_ints : Tryz.prog.cellsOf 22 = 1 := by kernel_rfl
set_option maxRecDepth 1000000 in
theorem cells_text : Tryz.prog.cellsOf 9 = 1 := by kernel_rfl
set_option maxRecDepth 1000000 in
theorem cells_state : Tryz.prog.cellsOf 24 = 10 := by kernel_rfl
theorem readsC_of_trod {H : Type} {enc : TypeId × Value → H} {W : World} {k : Nat} {u : Value} {y : DataW H × List MemPlace} (h : DataW.trod enc Tryz.prog W 0 (fun _ => true) true k 22 [u] = some y) : ∃ xs, ReadsC W u xs ∧ ∀ x ∈ xs, Cell.In x := by
  rcases open_ints Tryz.underlying22 Tryz.underlying3 cells_int h with ⟨hcs, hx⟩ | ⟨a, len', cap', zs, hcs, _, hl, hm, hmm, hx, hcell, hwf⟩
  · simp at hcs
    subst hcs
    exact ⟨[], ⟨⟨none, 0, rfl, fun j s h => by cases h⟩, none, 0, rfl, Nat.le_refl _⟩, fun x h => by cases h⟩
  · simp at hcs
    subst hcs
    simp only [if_true] at hmm
    refine ⟨zs.take len', ⟨⟨some a, cap', by rw [List.length_take, Nat.min_eq_left (by omega)], fun j x h => ⟨a, rfl, ?_⟩⟩, some a, cap', by rw [List.length_take, Nat.min_eq_left (by omega)], by rw [List.length_take]; omega⟩, fun x hx => ?_⟩
    · have hj := (List.getElem?_eq_some_iff.1 h).1
      rw [List.length_take] at hj
      rw [List.getElem?_take, if_pos (by omega)] at h
      have := hcell j (by omega)
      rw [List.getD_eq_getElem?_getD, h] at this
      exact this
    · have := hwf x (List.mem_of_mem_take hx)
      simpa [Lit.wf, Cell.In, IntKind.min, IntKind.signed, IntKind.bits] using this
set_option maxRecDepth 100000 in
theorem stateOf {H : Type} {enc : TypeId × Value → H} {W : World} {base : Nat} {v : Value} {d : DataW H} {p : List MemPlace} (hv : Value.okWide Tryz.prog W .any base 24 v) (h : DataW.Trod enc Tryz.prog W 0 (fun _ => true) true 24 v d p) : ∃ m, ReadsM W v m ∧ Cells m ∧ m.inp.size ≤ maxLen ∧ m.out.size ≤ maxLen ∧ Cell.In m.read ∧ Cell.In m.status := by
  obtain ⟨cs, rfl, hsz⟩ := okWide_struct Tryz.underlying24 hv
  obtain ⟨fuel, hf⟩ := h
  have hsz : cs.size = 10 := hsz.trans cells_state
  obtain ⟨ys, k, _, _, _, hyl, hg⟩ := DataW.trod_struct Tryz.underlying24 hf
  match ys, hyl, cs, hsz with
  | [y0, y1, y2, y3, y4, y5, y6, y7, y8, y9], _, ⟨[c0, c1, c2, c3, c4, c5, c6, c7, c8, c9]⟩, _ =>
    have g0 : DataW.trod enc Tryz.prog W 0 (fun _ => true) true k 3 [c0] = some y0 := by have := hg 0 _ rfl; simpa [cells_int, cells_ints, cells_text, Value.cells] using this
    have g1 : DataW.trod enc Tryz.prog W 0 (fun _ => true) true k 3 [c1] = some y1 := by have := hg 1 _ rfl; simpa [cells_int, cells_ints, cells_text, Value.cells] using this
    have g2 : DataW.trod enc Tryz.prog W 0 (fun _ => true) true k 22 [c2] = some y2 := by have := hg 2 _ rfl; simpa [cells_int, cells_ints, cells_text, Value.cells] using this
    have g3 : DataW.trod enc Tryz.prog W 0 (fun _ => true) true k 22 [c3] = some y3 := by have := hg 3 _ rfl; simpa [cells_int, cells_ints, cells_text, Value.cells] using this
    have g4 : DataW.trod enc Tryz.prog W 0 (fun _ => true) true k 22 [c4] = some y4 := by have := hg 4 _ rfl; simpa [cells_int, cells_ints, cells_text, Value.cells] using this
    have g5 : DataW.trod enc Tryz.prog W 0 (fun _ => true) true k 9 [c5] = some y5 := by have := hg 5 _ rfl; simpa [cells_int, cells_ints, cells_text, Value.cells] using this
    have g6 : DataW.trod enc Tryz.prog W 0 (fun _ => true) true k 9 [c6] = some y6 := by have := hg 6 _ rfl; simpa [cells_int, cells_ints, cells_text, Value.cells] using this
    have g7 : DataW.trod enc Tryz.prog W 0 (fun _ => true) true k 3 [c7] = some y7 := by have := hg 7 _ rfl; simpa [cells_int, cells_ints, cells_text, Value.cells] using this
    have g8 : DataW.trod enc Tryz.prog W 0 (fun _ => true) true k 3 [c8] = some y8 := by have := hg 8 _ rfl; simpa [cells_int, cells_ints, cells_text, Value.cells] using this
    have g9 : DataW.trod enc Tryz.prog W 0 (fun _ => true) true k 3 [c9] = some y9 := by have := hg 9 _ rfl; simpa [cells_int, cells_ints, cells_text, Value.cells] using this
    obtain ⟨z0, e0, _, f0⟩ := DataW.trod_int Tryz.underlying3 g0
    obtain ⟨z1, e1, _, f1⟩ := DataW.trod_int Tryz.underlying3 g1
    obtain ⟨z7, e7, _, f7⟩ := DataW.trod_int Tryz.underlying3 g7
    obtain ⟨z8, e8, _, f8⟩ := DataW.trod_int Tryz.underlying3 g8
    obtain ⟨z9, e9, _, f9⟩ := DataW.trod_int Tryz.underlying3 g9
    obtain ⟨x2, r2, n2⟩ := readsC_of_trod g2
    obtain ⟨x3, r3, n3⟩ := readsC_of_trod g3
    obtain ⟨x4, r4, n4⟩ := readsC_of_trod g4
    obtain ⟨s5, e5, _, f5⟩ := DataW.trod_string Tryz.underlying9 g5
    obtain ⟨s6, e6, _, f6⟩ := DataW.trod_string Tryz.underlying9 g6
    simp at e0 e1 e5 e6 e7 e8 e9
    subst e0; subst e1; subst e5; subst e6; subst e7; subst e8; subst e9
    have inn : ∀ {z : Int}, (Lit.int .i64 z).wf = true → Cell.In z := fun h => by simpa [Lit.wf, Cell.In, IntKind.min, IntKind.signed, IntKind.bits] using h
    exact ⟨⟨z0, z1, x2, x3, x4, s5, s6, z7, z8, z9⟩, ⟨c2, c3, c4, rfl, r2, r3, r4⟩, ⟨inn f0, inn f1, n2, n3, n4, inn f9⟩, f6, f5, inn f7, inn f8⟩
end Go.Proofs.YtcffbeihgchpgaaGreatDoor.Mach
/- Is a machine small enough? -/
namespace Go.Proofs.YtcffbeihgchpgaaGreatDoor.Mach
open Go.RowKit Book Mem
set_option linter.unusedVariables false
set_option linter.unusedSimpArgs false
def lightB (m : M) : Bool := decide (m.mem.length ≤ 700) && decide (m.inp.size ≤ 300) && rightM m
theorem lightB_iff (m : M) : lightB m = true ↔ m.mem.length ≤ 700 ∧ m.inp.size ≤ 300 ∧ Right m := by
  unfold lightB
  rw [Bool.and_eq_true, Bool.and_eq_true, decide_eq_true_eq, decide_eq_true_eq, rightM_iff, and_assoc]
set_option maxHeartbeats 4000000 in
set_option maxRecDepth 100000 in
theorem light_any {w : World} {v : Value} {m : M} (h : ReadsM w v m) (hi : m.inp.size ≤ maxLen) (ho : m.out.size ≤ maxLen) :
    Calls Tryz.prog 8 #[v] w (Says (.bool (lightB m)) w) := by
  have HV := Lib.hid h
  obtain ⟨vs, vb, vm, rfl, -, -, ⟨⟨mo, mc, hm, _⟩, _⟩⟩ := h
  obtain ⟨ip, hn, st, bk, me, ou, inn, rd, stt, cd⟩ := m
  simp only at hm hi ho ⊢
  subst hm
  have hi' : inn.size ≤ 9223372036854775807 := hi
  have HX := Lib.hid (heap_alloc_new w (.cells (cells10 ip hn vs vb (.slice mo me.length mc) ou inn rd stt cd) 24))
  have HB1 := Lib.hid ((Below.refl w.heap.size w).alloc (Nat.le_refl _) (.cells (cells10 ip hn vs vb (.slice mo me.length mc) ou inn rd stt cd) 24))
  have C := Lib.hid (refRight_any (HV.out.below HB1.out) hi ho)
  obtain ⟨rb, hrb⟩ : ∃ b, rightM ⟨ip, hn, st, bk, me, ou, inn, rd, stt, cd⟩ = b := ⟨_, rfl⟩
  have HL := Lib.hid (show lightB ⟨ip, hn, st, bk, me, ou, inn, rd, stt, cd⟩ = (decide (me.length ≤ 700) && decide (inn.size ≤ 300) && rb) by unfold lightB; rw [hrb])
  obtain ⟨lb, hlb⟩ : ∃ b, lightB ⟨ip, hn, st, bk, me, ou, inn, rd, stt, cd⟩ = b := ⟨_, rfl⟩
  rw [hlb]
  rw [hrb] at C
  have HLB := Lib.hid (hlb.symm.trans HL.out)
  clear hi ho hlb HL HV hrb
  by_cases c1 : me.length ≤ 700
  · by_cases c2 : inn.size ≤ 300
    · have HF := Lib.hid (show lb = rb by rw [HLB.out]; simp [c1, c2])
      clear HLB
      go_enter Tryz.func8, Tryz.ntmps8
      go_wp2_with (first
        | (refine ld_state (by rfl) _ rfl _ rfl _ _ HX.out rfl ?_)
        | (go_at_call 32; refine C.out.mono ?_; rintro e w2 ⟨rfl, hb⟩; have HB2 := Lib.hid (HB1.out.trans (hb.mono HB1.out.size)); clear hb))
      go_ret
      exact ⟨by rw [HF.out]; rfl, HB2.out⟩
    · have HF := Lib.hid (show lb = false by rw [HLB.out]; simp [c2])
      clear HLB C HX
      go_enter Tryz.func8, Tryz.ntmps8
      go_wp2
      go_ret
      exact ⟨by rw [HF.out]; rfl, HB1.out⟩
  · have HF := Lib.hid (show lb = false by rw [HLB.out]; simp [c1])
    clear HLB C HX
    go_enter Tryz.func8, Tryz.ntmps8
    go_wp2
    go_ret
    exact ⟨by rw [HF.out]; rfl, HB1.out⟩
end Go.Proofs.YtcffbeihgchpgaaGreatDoor.Mach
