/- Package inner: which machines may be; a fault. -/
import Derived.Test.YtfpaajoggbibnaaGreatDoorG20
import Derived.Test.YtfpaajoggbibnaaGreatDoorG3
import Derived.Test.YtfpaajoggbibnaaGreatDoorG13
import Derived.Deep.RegionHeld3
import Derived.Test.YtfpaajoggbibnaaGreatDoorG4
import Derived.Deep.DrawnRows
namespace Go.Proofs.YtfpaajoggbibnaaGreatDoor.Inn
open Go.RowKit Book Mem Mach
set_option linter.unusedVariables false
set_option linter.unusedSimpArgs false
set_option maxHeartbeats 16000000 in
set_option maxRecDepth 100000 in
theorem innRight_any {w : World} {v : Value} {m : M} (h : ReadsM w v m) (hi : m.inp.size ≤ maxLen) (ho : m.out.size ≤ maxLen) :
    Calls Tryz.prog 13 #[v] w (Says (.bool (rightM m)) w) := by
  obtain ⟨vs, vb, vm, rfl, ⟨⟨so, sc, hs, _⟩, _⟩, ⟨⟨bo, bc, hb, _⟩, _⟩, ⟨⟨mo, mc, hm, _⟩, _⟩⟩ := h
  obtain ⟨ip, hn, st, bk, me, ou, inn, rd, stt, cd⟩ := m
  simp only at hs hb hm hi ho ⊢
  subst hs
  subst hb
  subst hm
  have hi' : inn.size ≤ 9223372036854775807 := hi
  have ho' : ou.size ≤ 9223372036854775807 := ho
  have HR := Lib.hid (show rightM ⟨ip, hn, st, bk, me, ou, inn, rd, stt, cd⟩ = decide (st.length ≤ 48 ∧ bk.length ≤ 48 ∧ me.length ≤ 3000 ∧ ou.size ≤ 2000 ∧ 0 ≤ rd ∧ rd ≤ inn.size ∧ 0 ≤ stt ∧ stt ≤ 2) from rfl)
  obtain ⟨r, hr⟩ : ∃ r, rightM ⟨ip, hn, st, bk, me, ou, inn, rd, stt, cd⟩ = r := ⟨_, rfl⟩
  rw [hr]
  have HR2 := Lib.hid (hr.symm.trans HR.out)
  clear hi ho hr HR
  have hb1 := Lib.hid ((Below.refl w.heap.size w).alloc (Nat.le_refl _) (.cells (cells10 ip hn (.slice so st.length sc) (.slice bo bk.length bc) (.slice mo me.length mc) ou inn rd stt cd) 24))
  have hw : stt = 0 ∨ stt = 1 ∨ stt = 2 ∨ (¬ stt = 0 ∧ ¬ stt = 1 ∧ ¬ stt = 2) := by omega
  have hways : ¬ st.length ≤ 48 ∨ st.length ≤ 48 ∧ (¬ bk.length ≤ 48 ∨ bk.length ≤ 48 ∧ (¬ me.length ≤ 3000 ∨ me.length ≤ 3000 ∧ (¬ ou.size ≤ 2000 ∨ ou.size ≤ 2000 ∧ (¬ 0 ≤ rd ∨ 0 ≤ rd ∧ (¬ rd ≤ (inn.size : Int) ∨ rd ≤ (inn.size : Int)))))) := by omega
  rcases hw with rfl | rfl | rfl | ⟨s0, s1, s2⟩
  rotate_left 3
  · have HE := Lib.hid (show r = false by rw [HR2.out]; exact decide_eq_false fun h => by omega)
    clear HR2 hways
    go_enter Tryz.func13, Tryz.ntmps13
    go_wp2
    go_ret
    exact ⟨by rw [HE.out]; rfl, hb1.out⟩
  all_goals
    rcases hways with c1 | ⟨c1, c2 | ⟨c2, c3 | ⟨c3, c4 | ⟨c4, c5 | ⟨c5, c6 | c6⟩⟩⟩⟩⟩
    all_goals
      first
        | (have HE := Lib.hid (show r = false by rw [HR2.out]; exact decide_eq_false fun h => by omega)
           clear HR2
           go_enter Tryz.func13, Tryz.ntmps13
           go_wp2
           go_ret
           exact ⟨by rw [HE.out]; rfl, hb1.out⟩)
        | (have HE := Lib.hid (show r = true by rw [HR2.out]; exact decide_eq_true (by omega))
           clear HR2
           go_enter Tryz.func13, Tryz.ntmps13
           go_wp2
           go_ret
           exact ⟨by rw [HE.out]; rfl, hb1.out⟩)
set_option maxHeartbeats 16000000 in
set_option maxRecDepth 100000 in
theorem innFault_any {w : World} {v : Value} {m : M} (h : ReadsM w v m) (hr : Right m) (hc : Cells m) (code : Int) :
    Calls Tryz.prog 22 #[v, .int .i64 code] w (GivesM (Mach.fault m code) w) := by
  have HV := Lib.hid h
  obtain ⟨vs, vb, vm, rfl, hs, hb, hm⟩ := h
  obtain ⟨w1, w2, g, r, hw1, hw2, hg, hr', HG, HR, HB0, HZ, HW⟩ := two_boxes w (cells10 m.ip m.handler vs vb vm m.out m.inp m.read m.status m.code)
  have HBW := Lib.hid (show Below w.heap.size w w2 by have := HB0.out; rw [← HW.out] at this; exact this)
  have HI := Lib.hid hc.handler
  have O := Lib.hid (open_any (HV.out.below HBW.out) hr)
  clear hs hb hm hr hc
  go_enter Tryz.func22, Tryz.ntmps22
  go_upto_region 1 with fail
  clear hw1 hw2 hg hr'
  go_wp2_with (refine ld_state (by rfl) _ rfl _ rfl _ _ HG.out rfl ?_)
  refine O.out.mono ?_
  rintro e w3 ⟨q, F, rfl, ⟨ps, gs, pb, gb, pf, vC, vH, ch, vs1, vb1, vm1, rfl, hM⟩, hb⟩
  have HM := Lib.hid hM
  have HB3 := Lib.hid hb
  have FA := Lib.hid (fault_any HM.out hb.size HI.out code)
  clear hM hb O HG
  go_wp2_with fail
  refine FA.out.mono ?_
  rintro e w4 ⟨rfl, hM, hst⟩
  have HM4 := Lib.hid hM
  have HB4 := Lib.hid (HB3.out.trans (hst.below (fun k hk => (HM.out.feet_lt k hk).1) HB3.out.size))
  have C := Lib.hid (state_any HM4.out.mach)
  have HRR := Lib.hid ((Stirred.of_below HB4.out []).whole HR.out List.not_mem_nil)
  have HBWR := Lib.hid (show Below w.heap.size w w4 from HBW.out.trans (HB4.out.mono HBW.out.size))
  have HGE := Lib.hid (show w.heap.size ≤ r by have := HW.out; have := HZ.out; omega)
  clear hM hst FA
  go_wp2_with fail
  refine C.out.mono ?_
  rintro e wn ⟨v, rfl, ho, hb⟩
  obtain ⟨v1, v2, v3, rfl, hol⟩ := ho
  have HRX := Lib.hid ((Stirred.of_below hb []).whole HRR.out List.not_mem_nil)
  have HOL := Lib.hid hol
  have HBN := Lib.hid hb
  clear hol hb C
  go_wp2_with (refine st_state (by rfl) _ _ rfl r _ rfl rfl _ _ HRX.out rfl rfl (all_one (slice_one HOL.out.st.slice) (slice_one HOL.out.bk.slice) (slice_one HOL.out.me.slice)) ?_; intro wf hrf htf; have HRF := Lib.hid hrf; have HTF := Lib.hid htf; clear hrf htf)
  refine bodyPost_ret (results_cell_row rfl _ _ r _ _ _ _ rfl HRF.out Tryz.underlying24 rfl state_size) rfl ?_
  have hf := OwnsL.far HBWR.out HGE.out (whole_lt HRR.out) HBN.out HOL.out HTF.out
  exact ⟨_, rfl, ⟨_, _, _, rfl, hf.1⟩, hf.2⟩
end Go.Proofs.YtfpaajoggbibnaaGreatDoor.Inn
/- Package inner: copying; beginning a word. -/
namespace Go.Proofs.YtfpaajoggbibnaaGreatDoor.Inn
open Go.RowKit Book Mem Mach
set_option linter.unusedVariables false
set_option linter.unusedSimpArgs false
set_option maxHeartbeats 4000000 in
set_option maxRecDepth 100000 in
/-- slices.Clone of a list wherever it lies -/
theorem clone_reads {w : World} {v : Value} {xs : List Int} (h : ReadsC w v xs) (hl : xs.length ≤ 10000) :
    Calls Tryz.prog 70 #[v] w fun e w' => ∃ c, e = .returned c ∧ Owns w' w.heap.size 3 c (vals xs) ∧ Below w.heap.size w w' := by
  obtain ⟨i0, q1, q2, q3, q4⟩ := info_parts Tryz.bkIntInfo
  have HI := Lib.hid (And.intro q1 (And.intro q2 (And.intro q3 q4)))
  have HR := Lib.hid h.1
  obtain ⟨ao, c, rfl, hc⟩ := h.2
  cases ao with
  | none =>
    have hx : xs = [] := by
      cases xs with
      | nil => rfl
      | cons x r =>
        obtain ⟨ao', c', e, hcell⟩ := h.1
        simp only [Value.slice.injEq] at e
        obtain ⟨a, ha, _⟩ := hcell 0 x rfl
        rw [← e.1] at ha
        cases ha
    subst hx
    exact (Tryz.slices_Clone_int_nil 0 c w).mono fun e w' ⟨h1, h2⟩ => by subst h2; exact ⟨_, h1, Owns.nil _ _ _, Below.refl _ _⟩
  | some ad =>
    obtain ⟨n, hn⟩ : ∃ n, xs.length = n := ⟨_, rfl⟩
    rw [hn] at hc HR
    have HN := Lib.hid hn
    have HL := Lib.hid hl
    rw [hn]
    clear h q1 q2 q3 q4 hn hl
    have hne := Lib.run_eql_slice_some_nil (P := Tryz.prog) w ad n c Tryz.underlying22
    go_enter Tryz.func70, Tryz.ntmps70
    have HB1 := Lib.hid ((Below.refl w.heap.size w).alloc (Nat.le_refl _) (.cells #[] 3))
    go_wp2_with (refine wpList_append_reads _ rfl _ _ 22 rfl w.heap.size 3 i0 (.int .i64 0) 8 Tryz.underlying22 HI.out.1 HI.out.2.1 HI.out.2.2.1 HI.out.2.2.2 rfl (.slice (some ⟨w.heap.size, 0, none⟩) 0 0) [] rfl (Owns.empty _ _ _ _) (.slice (some ad) n c) xs rfl (HR.out.below HB1.out) (by have := HL.out; unfold maxLen; simp; omega) (by have := HL.out; simp; omega) HB1.out.size ?_; intro v1 w2 ho _ ht _; have HO := Lib.hid (show Owns w2 w.heap.size 3 v1 (vals xs) from ho); have HT := Lib.hid (HB1.out.trans (ht.below (fun k hk => by simp [blk] at hk) HB1.out.size)); obtain ⟨a1, c1, e1⟩ := HO.out.slice; rw [vals_length] at e1; subst e1; clear ho ht)
    go_ret
    exact ⟨_, rfl, HO.out, HT.out⟩
theorem SS.six {w : World} {s r : Nat} {m : M} {vs vb vm : Value} {st bk me : List Int} {o1 o2 o3 : Option Value} {wc : World} (h : SS w s r (cells10 m.ip m.handler vs vb vm m.out m.inp m.read m.status m.code) st bk me o1 o2 o3 wc) :
    wc.cell? ⟨s, 2, none⟩ = some vs ∧ wc.cell? ⟨s, 3, none⟩ = some vb ∧ wc.cell? ⟨s, 4, none⟩ = some vm ∧ wc.frozen? ⟨s, 2, none⟩ = false ∧ wc.frozen? ⟨s, 3, none⟩ = false ∧ wc.frozen? ⟨s, 4, none⟩ = false :=
  ⟨whole_cell h.hs rfl, whole_cell h.hs rfl, whole_cell h.hs rfl, whole_frozen h.hs 2, whole_frozen h.hs 3, whole_frozen h.hs 4⟩
set_option maxHeartbeats 8000000 in
set_option maxRecDepth 100000 in
theorem innCopy_any {w : World} {v : Value} {m : M} (h : ReadsM w v m) (h1 : m.stack.length ≤ 10000) (h2 : m.back.length ≤ 10000) (h3 : m.mem.length ≤ 10000) :
    Calls Tryz.prog 20 #[v] w (GivesM m w) := by
  obtain ⟨vs, vb, vm, rfl, hs, hb, hm⟩ := h
  have C1 := Lib.hid (fun wc (hbw : Below w.heap.size w wc) => clone_reads (hs.below hbw) h1)
  have C2 := Lib.hid (fun wc (hbw : Below w.heap.size w wc) => clone_reads (hb.below hbw) h2)
  have C3 := Lib.hid (fun wc (hbw : Below w.heap.size w wc) => clone_reads (hm.below hbw) h3)
  obtain ⟨w1, w2, g, r, hw1, hw2, hg, hr, HG, HR, HB, HZ, HW⟩ := two_boxes w (cells10 m.ip m.handler vs vb vm m.out m.inp m.read m.status m.code)
  have HS : Hid (SS w g r (cells10 m.ip m.handler vs vb vm m.out m.inp m.read m.status m.code) m.stack m.back m.mem none none none w2.drew) := Lib.hid ⟨(show Below w.heap.size w w2 by rw [HW.out]; exact HB.out).drew, HG.out, HR.out, fun p e => (by cases e), fun p e => (by cases e), fun p e => (by cases e), fun p p' e => (by cases e), fun p p' e => (by cases e), fun p p' e => (by cases e)⟩
  clear hs hb hm h1 h2 h3
  go_enter Tryz.func20, Tryz.ntmps20
  go_upto_region 1 with fail
  clear hw1 hw2 hg hr HG HR HB
  go_cut [] (fun wx => ∃ v1 v2 v3, Hid (SG w g r m v1 v2 v3 wx))
  case first =>
    obtain ⟨a2, a3, a4, f2, f3, f4⟩ := HS.out.six
    go_wp2_with fail
    go_region_with (first
      | (go_at_call_of 70 vs; refine (C1.out _ HS.out.hb).mono ?_; rintro e wn ⟨c, rfl, hl, hb⟩; obtain ⟨ao, cc, hcc⟩ := hl.slice; rw [vals_length] at hcc; subst hcc; have HS := Lib.hid (HS.out.set1 hl hb); clear hl hb; obtain ⟨a2, a3, a4, f2, f3, f4⟩ := HS.out.six)
      | (go_at_call_of 70 vb; refine (C2.out _ HS.out.hb).mono ?_; rintro e wn ⟨c, rfl, hl, hb⟩; obtain ⟨ao, cc, hcc⟩ := hl.slice; rw [vals_length] at hcc; subst hcc; have HS := Lib.hid (HS.out.set2 hl hb); clear hl hb; obtain ⟨a2, a3, a4, f2, f3, f4⟩ := HS.out.six)
      | (go_at_call_of 70 vm; refine (C3.out _ HS.out.hb).mono ?_; rintro e wn ⟨c, rfl, hl, hb⟩; obtain ⟨ao, cc, hcc⟩ := hl.slice; rw [vals_length] at hcc; subst hcc; have HS := Lib.hid (HS.out.set3 hl hb); clear hl hb; obtain ⟨a2, a3, a4, f2, f3, f4⟩ := HS.out.six))
    all_goals
      go_wp2_with fail
      go_meet
      exact ⟨_, _, _, SG.of (by have := HW.out; omega) (by have := HZ.out; omega) HS.out⟩
  case rest =>
    obtain ⟨v1, v2, v3, HF⟩ := hcut
    clear HS C1 C2 C3
    have HG := Lib.hid HF.out.hs
    have HR := Lib.hid HF.out.hr
    have HO := Lib.hid HF.out.own
    go_wp2_with (first
      | (refine ld_state (by rfl) _ rfl _ rfl _ _ HG.out rfl ?_)
      | (refine st_state (by rfl) _ _ rfl r _ rfl rfl _ _ HR.out rfl rfl (all_one (slice_one HO.out.st.slice) (slice_one HO.out.bk.slice) (slice_one HO.out.me.slice)) ?_; intro wf hr ht; have HRF := Lib.hid hr; have HTF := Lib.hid ht; clear hr ht))
    refine bodyPost_ret (results_cell_row rfl _ _ r _ _ _ _ rfl HRF.out Tryz.underlying24 rfl state_size) rfl ?_
    have hl := fun {v : Value} {xs : List Int} (ho : Owns wc w.heap.size 3 v (vals xs)) (hf : ∀ k, blk v = some k → r < k) => (ho.touch HTF.out (fun k hk hm => by rw [List.mem_singleton] at hm; have := hf k hk; omega) : Owns wf w.heap.size 3 v (vals xs))
    refine ⟨_, rfl, ⟨v1, v2, v3, rfl, ⟨hl HO.out.st (HF.out.far _ (.inl rfl)), hl HO.out.bk (HF.out.far _ (.inr (.inl rfl))), hl HO.out.me (HF.out.far _ (.inr (.inr rfl))), HO.out.sb, HO.out.bm⟩⟩, HF.out.hb.trans (HTF.out.below (B := w.heap.size) (fun k hk => by rw [List.mem_singleton.1 hk]; have h1 := HW.out; have h2 := HZ.out; omega) HF.out.hb.size)⟩
end Go.Proofs.YtfpaajoggbibnaaGreatDoor.Inn
/- Package inner: beginning a word; a fault; a step. -/
namespace Go.Proofs.YtfpaajoggbibnaaGreatDoor.Inn
open Go.RowKit Book Mem Mach
set_option linter.unusedVariables false
set_option linter.unusedSimpArgs false
theorem OwnsL.box {w w' : World} {B g : Nat} {vs vb vm : Value} {m : M} {cs : Array Value} (h : OwnsL w B vs vb vm m) (hs : Stirred w w' [g]) (hg : w.heap[g]? = some (.cells cs 24 (0, 0))) : OwnsL w' B vs vb vm m :=
  ⟨own_box h.st hs hg, own_box h.bk hs hg, own_box h.me hs hg, h.sb, h.bm⟩
theorem box_lt {w : World} {g B : Nat} {o : Obj} (h : w.heap[g]? = some o) (hB : B ≤ g) : B ≤ w.heap.size := Nat.le_of_lt (Nat.lt_of_le_of_lt hB (whole_lt h))
/-- what is known while a state's box is written: it, another one, lists of one's own -/
structure BX (w : World) (g r : Nat) (cs : Array Value) (v1 v2 v3 vl : Value) (m : M) (xl : List Int) (wc : World) : Prop where
  hb : Below w.heap.size w wc
  hg : wc.heap[g]? = some (.cells cs 24 (0, 0))
  hr : wc.heap[r]? = some (.cells zero10 24 (0, 0))
  own : OwnsL wc w.heap.size v1 v2 v3 m
  lst : Owns wc w.heap.size 3 vl (vals xl)
  dl : ∀ k, blk vl = some k → blk v1 ≠ some k ∧ blk v3 ≠ some k
theorem BX.set {w wc : World} {g r : Nat} {cs : Array Value} {v1 v2 v3 vl : Value} {m : M} {xl : List Int} (h : BX w g r cs v1 v2 v3 vl m xl wc) (hw : w.heap.size ≤ g) (hn : g ≠ r) (j : Nat) (v : Value) : BX w g r (cs.setIfInBounds j v) v1 v2 v3 vl m xl (wc.setCell ⟨g, j, none⟩ v) :=
  have ht := Stirred.setCell wc ⟨g, j, none⟩ v
  ⟨h.hb.trans (ht.below (fun k hk => by rw [List.mem_singleton.1 hk]; exact hw) h.hb.size), whole_set h.hg j v, ht.whole h.hr (by rw [List.mem_singleton]; exact Ne.symm hn), OwnsL.box h.own ht h.hg, own_box h.lst ht h.hg, h.dl⟩
set_option maxHeartbeats 16000000 in
set_option maxRecDepth 100000 in
theorem innEnter_any {w : World} {v : Value} {m : M} (h : ReadsM w v m) (h1 : m.stack.length ≤ 10000) (h2 : m.back.length ≤ 10000) (h3 : m.mem.length ≤ 10000) (xt : Int) :
    Calls Tryz.prog 21 #[v, .int .i64 xt] w (GivesM { m with ip := xt, handler := 0, back := [0], status := 0, code := 0 } w) := by
  have HV := Lib.hid h
  obtain ⟨vs, vb, vm, rfl, -, -, -⟩ := h
  obtain ⟨w1, w2, g, r, hw1, hw2, hg, hr, HG, HR, HB0, HZ, HW⟩ := two_boxes w (cells10 m.ip m.handler vs vb vm m.out m.inp m.read m.status m.code)
  have HBW := Lib.hid (show Below w.heap.size w w2 by have := HB0.out; rw [← HW.out] at this; exact this)
  have C := Lib.hid (innCopy_any (HV.out.below HBW.out) h1 h2 h3)
  clear h1 h2 h3
  go_enter Tryz.func21, Tryz.ntmps21
  go_upto_region 1 with fail
  clear hw1 hw2 hg hr
  go_wp2_with (refine ld_state (by rfl) _ rfl _ rfl _ _ HG.out rfl ?_)
  refine C.out.mono ?_
  rintro e w3 ⟨v, rfl, ⟨v1, v2, v3, rfl, ho⟩, hb⟩
  have HG3 := Lib.hid ((Stirred.of_below hb []).whole HG.out List.not_mem_nil)
  have HR3 := Lib.hid ((Stirred.of_below hb []).whole HR.out List.not_mem_nil)
  have HO3 := Lib.hid (⟨ho.st.from HBW.out.size, ho.bk.from HBW.out.size, ho.me.from HBW.out.size, ho.sb, ho.bm⟩ : OwnsL w3 w.heap.size v1 v2 v3 m)
  have HB3 := Lib.hid (HBW.out.trans (hb.mono HBW.out.size))
  clear ho hb C
  go_upto_region 2 with (refine st_state (by rfl) _ _ rfl g _ rfl rfl _ _ HG3.out rfl rfl (all_one (slice_one HO3.out.st.slice) (slice_one HO3.out.bk.slice) (slice_one HO3.out.me.slice)) ?_; intro w4 hg4 ht4; have HG4 := Lib.hid hg4; have HT4 := Lib.hid ht4; clear hg4 ht4)
  dsimp only [Act.put]
  have HO4 := Lib.hid (OwnsL.box HO3.out HT4.out HG3.out)
  have HR4 := Lib.hid (HT4.out.whole HR3.out (by have := HZ.out; rw [List.mem_singleton]; omega))
  have HB4 := Lib.hid (HB3.out.trans (HT4.out.below (fun k hk => by rw [List.mem_singleton.1 hk]; exact Nat.le_of_eq HW.out) HB3.out.size))
  obtain ⟨w5, gl, hw5, hgl, HRW, HB5, HGL⟩ := row_box w4 [(0 : Int)]
  change w4.alloc (.cells #[.int .i64 0] 3) = w5 at hw5
  have HX := Lib.hid (show BX w g r (cells10 m.ip m.handler v1 v2 v3 m.out m.inp m.read m.status m.code) v1 v2 v3 (.slice (some ⟨gl, 0, none⟩) 1 1) m [0] w5 from
    ⟨HB4.out.trans (HB5.out.mono HB4.out.size), (Stirred.of_below HB5.out []).whole HG4.out List.not_mem_nil, (Stirred.of_below HB5.out []).whole HR4.out List.not_mem_nil, HO4.out.below HB5.out,
      .inr ⟨gl, 1, (vals [0]).toArray, rfl, by decide, by have := HB4.out.size; have := HGL.out; omega, HRW.out.1, by decide, by unfold maxLen; decide, by simp, by simp⟩,
      fun k hk => by
        obtain rfl : gl = k := by simpa [blk] using hk
        exact ⟨fun e => by have := (HO4.out.st.block gl e).2.1; have := HGL.out; omega, fun e => by have := (HO4.out.me.block gl e).2.1; have := HGL.out; omega⟩⟩)
  have hgr : g ≠ r := by have := HZ.out; omega
  have X1 := HX.out.set (Nat.le_of_eq HW.out) hgr 0 (.int .i64 xt)
  have X2 := X1.set (Nat.le_of_eq HW.out) hgr 1 (.int .i64 0)
  have X3 := X2.set (Nat.le_of_eq HW.out) hgr 3 (.slice (some ⟨gl, 0, none⟩) 1 1)
  have X4 := X3.set (Nat.le_of_eq HW.out) hgr 8 (.int .i64 0)
  have X5 := Lib.hid (X4.set (Nat.le_of_eq HW.out) hgr 9 (.int .i64 0))
  have k0 : w5.cell? ⟨g, 0, none⟩ = some (.int .i64 m.ip) := whole_cell HX.out.hg rfl
  have k1 : w5.cell? ⟨g, 1, none⟩ = some (.int .i64 m.handler) := whole_cell HX.out.hg rfl
  have k3 : w5.cell? ⟨g, 3, none⟩ = some v2 := whole_cell HX.out.hg rfl
  have k8 : w5.cell? ⟨g, 8, none⟩ = some (.int .i64 m.status) := whole_cell HX.out.hg rfl
  have k9 : w5.cell? ⟨g, 9, none⟩ = some (.int .i64 m.code) := whole_cell HX.out.hg rfl
  have f0 : w5.frozen? ⟨g, 0, none⟩ = false := whole_frozen HX.out.hg 0
  have f1 : w5.frozen? ⟨g, 1, none⟩ = false := whole_frozen HX.out.hg 1
  have f3 : w5.frozen? ⟨g, 3, none⟩ = false := whole_frozen HX.out.hg 3
  have f8 : w5.frozen? ⟨g, 8, none⟩ = false := whole_frozen HX.out.hg 8
  have f9 : w5.frozen? ⟨g, 9, none⟩ = false := whole_frozen HX.out.hg 9
  clear X1 X2 X3 X4
  go_upto_region 4 with fail
  clear k0 k1 k3 k8 k9 f0 f1 f3 f8 f9 hw5 hgl
  go_wp2_with (first
    | (refine ld_state (by rfl) _ rfl _ rfl _ _ X5.out.hg rfl ?_)
    | (refine st_state (by rfl) _ _ rfl r _ rfl rfl _ _ X5.out.hr rfl rfl (all_one (slice_one X5.out.own.st.slice) rfl (slice_one X5.out.own.me.slice)) ?_; intro wf hrf htf; have HRF := Lib.hid hrf; have HTF := Lib.hid htf; clear hrf htf))
  refine bodyPost_ret (results_cell_row rfl _ _ r _ _ _ _ rfl HRF.out Tryz.underlying24 rfl state_size) rfl ?_
  have hO := OwnsL.box X5.out.own HTF.out X5.out.hr
  have hL := own_box X5.out.lst HTF.out X5.out.hr
  refine ⟨_, rfl, ⟨v1, .slice (some ⟨gl, 0, none⟩) 1 1, v3, rfl, ⟨hO.st, hL, hO.me, fun k e => ⟨fun e2 => (X5.out.dl k e2).1 e, (hO.sb k e).2⟩, fun k e => (X5.out.dl k e).2⟩⟩, X5.out.hb.trans (HTF.out.below (fun k hk => by rw [List.mem_singleton.1 hk]; have h1 := HW.out; have h2 := HZ.out; omega) X5.out.hb.size)⟩
set_option maxHeartbeats 16000000 in
set_option maxRecDepth 100000 in
theorem innStep_any {w : World} {v : Value} {m : M} (h : ReadsM w v m) (hr : Right m) (hc : Cells m) (hin : m.inp.size ≤ maxLen) (hE : ∀ wc, Below w.heap.size w wc → Tabs wc) :
    Calls Tryz.prog 8 #[v] w (GivesM (Mach.step m) w) := by
  have HV := Lib.hid h
  obtain ⟨vs, vb, vm, rfl, -, -, -⟩ := h
  obtain ⟨w1, w2, g, r, hw1, hw2, hg, hr', HG, HR, HB0, HZ, HW⟩ := two_boxes w (cells10 m.ip m.handler vs vb vm m.out m.inp m.read m.status m.code)
  have HBW := Lib.hid (show Below w.heap.size w w2 by have := HB0.out; rw [← HW.out] at this; exact this)
  have C := Lib.hid (innRun_nat (HV.out.below HBW.out) hr hc hin (fun wc hb => hE wc (HBW.out.trans (hb.mono HBW.out.size))) 1 (by decide))
  have hst : (Mach.run 1 m).1 = Mach.step m := by
    by_cases h0 : m.status = 0
    · rw [run_go h0]; rfl
    · rw [run_still h0]; unfold Mach.step; rw [if_pos h0]
  rw [runI_nat, hst] at C
  clear hr hc hin hE hst
  go_enter Tryz.func8, Tryz.ntmps8
  go_upto_region 1 with fail
  clear hw1 hw2 hg hr'
  go_wp2_with (refine ld_state (by rfl) _ rfl _ rfl _ _ HG.out rfl ?_)
  refine C.out.mono ?_
  rintro e w3 ⟨v, rfl, ⟨v1, v2, v3, rfl, ho⟩, hb⟩
  have HG3 := Lib.hid ((Stirred.of_below hb []).whole HG.out List.not_mem_nil)
  have HR3 := Lib.hid ((Stirred.of_below hb []).whole HR.out List.not_mem_nil)
  have HO3 := Lib.hid (⟨ho.st.from HBW.out.size, ho.bk.from HBW.out.size, ho.me.from HBW.out.size, ho.sb, ho.bm⟩ : OwnsL w3 w.heap.size v1 v2 v3 (Mach.step m))
  have HB3 := Lib.hid (HBW.out.trans (hb.mono HBW.out.size))
  generalize Mach.step m = m1 at *
  clear ho hb C
  go_upto_region 2 with (refine st_state (by rfl) _ _ rfl g _ rfl rfl _ _ HG3.out rfl rfl (all_one (slice_one HO3.out.st.slice) (slice_one HO3.out.bk.slice) (slice_one HO3.out.me.slice)) ?_; intro w4 hg4 ht4; have HG4 := Lib.hid hg4; have HT4 := Lib.hid ht4; clear hg4 ht4)
  dsimp only [Act.put]
  have HO4 := Lib.hid (OwnsL.box HO3.out HT4.out HG3.out)
  have HR4 := Lib.hid (HT4.out.whole HR3.out (by have := HZ.out; rw [List.mem_singleton]; omega))
  have HB4 := Lib.hid (HB3.out.trans (HT4.out.below (fun k hk => by rw [List.mem_singleton.1 hk]; exact Nat.le_of_eq HW.out) HB3.out.size))
  go_wp2_with (first
    | (refine ld_state (by rfl) _ rfl _ rfl _ _ HG4.out rfl ?_)
    | (refine st_state (by rfl) _ _ rfl r _ rfl rfl _ _ HR4.out rfl rfl (all_one (slice_one HO4.out.st.slice) (slice_one HO4.out.bk.slice) (slice_one HO4.out.me.slice)) ?_; intro wf hrf htf; have HRF := Lib.hid hrf; have HTF := Lib.hid htf; clear hrf htf))
  refine bodyPost_ret (results_cell_row rfl _ _ r _ _ _ _ rfl HRF.out Tryz.underlying24 rfl state_size) rfl ?_
  exact ⟨_, rfl, ⟨v1, v2, v3, rfl, OwnsL.box HO4.out HTF.out HR4.out⟩, HB4.out.trans (HTF.out.below (fun k hk => by rw [List.mem_singleton.1 hk]; have h1 := HW.out; have h2 := HZ.out; omega) HB4.out.size)⟩
end Go.Proofs.YtfpaajoggbibnaaGreatDoor.Inn
/- The first call of hollowaylaw9's statements. -/
namespace Go.Proofs.YtfpaajoggbibnaaGreatDoor.Inn
open Go.RowKit Book Mem Mach
set_option linter.unusedVariables false
set_option linter.unusedSimpArgs false
def aliveMem : List Int := (((((bootMem 48 300).set 192 2).set 193 3).set 194 6).set 195 13).set 196 5
def aliveM : M := { bootM 300 ⟨#[]⟩ with mem := aliveMem }
def aliveE : M := { aliveM with ip := 192, handler := 0, back := [0], status := 0, code := 0 }
theorem alive_runs : (Mach.run 99 aliveE).2 = 94 ∧ (Mach.run 99 aliveE).1.status = 1 ∧ (Mach.run 99 aliveE).1.stack = [9] := by decide +kernel
theorem alive_right : Right aliveE := (rightM_iff aliveE).1 (by decide +kernel)
theorem alive_mem : ∀ x ∈ aliveMem, -9223372036854775808 ≤ x ∧ x ≤ 9223372036854775807 := by decide +kernel
theorem alive_cells : Cells aliveE :=
  ⟨by show Cell.In 192; unfold Cell.In; decide, by show Cell.In 0; unfold Cell.In; decide, (fun x h => by cases h), (fun x h => by rcases List.mem_singleton.1 h with rfl; unfold Cell.In; decide), (fun x h => alive_mem x h), by show Cell.In 0; unfold Cell.In; decide⟩
theorem alive_boot : (bootMem 48 300)[76]? = some 6 := by decide +kernel
theorem keep5 {w : World} {b g j : Nat} {u v : Value} (hn : b ≠ g) (h : w.cell? ⟨b, 4, none⟩ = some v) : (w.setCell ⟨g, j, none⟩ u).cell? ⟨b, 4, none⟩ = some v :=
  (Stirred.setCell w ⟨g, j, none⟩ u).cell (by rw [List.mem_singleton]; exact hn) h
theorem drewc {w : World} {a : Addr} {v : Value} (h : w.cell? a = some v) : w.drew.cell? a = some v := h
set_option maxHeartbeats 16000000 in
set_option maxRecDepth 100000 in
theorem alive_any (w : World) (hE : ∀ wc, Below w.heap.size w wc → Tabs wc) :
    Calls Tryz.prog 6 #[] w fun e w' => e = .returned (.bool true) ∧ Below w.heap.size w w' := by
  have HE := Lib.hid hE
  have C := Lib.hid (innBoot_any w 300 300 (by decide) ⟨#[]⟩)
  clear hE
  go_enter Tryz.func6, Tryz.ntmps6
  go_wp2_with fail
  refine C.out.mono ?_
  rintro e w1 ⟨v, rfl, ⟨v1, v2, v3, rfl, ho⟩, hb⟩
  have hl3 : (bootM 300 ⟨#[]⟩).mem.length = 300 := bootMem_length 48 300
  have h76 : (bootM 300 ⟨#[]⟩).mem[76]? = some 6 := alive_boot
  have HMB := Lib.hid (show aliveE = { bootM 300 ⟨#[]⟩ with mem := ((((((bootM 300 ⟨#[]⟩).mem.set 192 2).set 193 3).set 194 6).set 195 13).set 196 5), ip := 192, handler := 0, back := [0], status := 0, code := 0 } from rfl)
  have HSL := Lib.hid (show (bootM 300 ⟨#[]⟩).stack.length = 0 ∧ (bootM 300 ⟨#[]⟩).back.length = 0 from ⟨rfl, rfl⟩)
  generalize bootM 300 ⟨#[]⟩ = mb at *
  obtain ⟨g, cap, e3, hblk⟩ := owns_slice ho.me (by omega)
  rw [hl3] at e3
  subst e3
  have HO := Lib.hid ho
  have HB1 := Lib.hid hb
  obtain ⟨a1, k1, e1⟩ := ho.st.slice
  obtain ⟨a2, k2, e2⟩ := ho.bk.slice
  rw [vals_length, HSL.out.1] at e1
  rw [vals_length, HSL.out.2] at e2
  subst e1
  subst e2
  obtain ⟨w2, b, hw2, hbb, HX, HB2, HBG⟩ := new_box w1 (cells10 mb.ip mb.handler (.slice a1 0 k1) (.slice a2 0 k2) (.slice (some ⟨g, 0, none⟩) 300 cap) mb.out mb.inp mb.read mb.status mb.code) 24
  have HO2 := Lib.hid (HO.out.below HB2.out)
  have hcell : ∀ {j : Nat} {x : Int}, mb.mem[j]? = some x → w2.cell? ⟨g, j, none⟩ = some (.int .i64 x) := fun {j x} hx => by
    have hj := (List.getElem?_eq_some_iff.1 hx).1
    rw [(owns_at HO2.out.me hj).1]
    congr 2
    rw [List.getElem?_eq_getElem hj] at hx
    exact Option.some.inj hx
  have q76 := hcell h76
  have q192 : w2.cell? ⟨g, 192, none⟩ = some (.int .i64 (mb.mem[192]'(by omega))) := hcell (List.getElem?_eq_getElem _)
  have f192 : w2.frozen? ⟨g, 192, none⟩ = false := (owns_at HO2.out.me (j := 192) (by omega)).2
  generalize mb.mem[192]'(by omega) = z192 at q192
  have q193 : w2.cell? ⟨g, 193, none⟩ = some (.int .i64 (mb.mem[193]'(by omega))) := hcell (List.getElem?_eq_getElem _)
  have f193 : w2.frozen? ⟨g, 193, none⟩ = false := (owns_at HO2.out.me (j := 193) (by omega)).2
  generalize mb.mem[193]'(by omega) = z193 at q193
  have q194 : w2.cell? ⟨g, 194, none⟩ = some (.int .i64 (mb.mem[194]'(by omega))) := hcell (List.getElem?_eq_getElem _)
  have f194 : w2.frozen? ⟨g, 194, none⟩ = false := (owns_at HO2.out.me (j := 194) (by omega)).2
  generalize mb.mem[194]'(by omega) = z194 at q194
  have q195 : w2.cell? ⟨g, 195, none⟩ = some (.int .i64 (mb.mem[195]'(by omega))) := hcell (List.getElem?_eq_getElem _)
  have f195 : w2.frozen? ⟨g, 195, none⟩ = false := (owns_at HO2.out.me (j := 195) (by omega)).2
  generalize mb.mem[195]'(by omega) = z195 at q195
  have q196 : w2.cell? ⟨g, 196, none⟩ = some (.int .i64 (mb.mem[196]'(by omega))) := hcell (List.getElem?_eq_getElem _)
  have f196 : w2.frozen? ⟨g, 196, none⟩ = false := (owns_at HO2.out.me (j := 196) (by omega)).2
  generalize mb.mem[196]'(by omega) = z196 at q196
  have d4 : w2.cell? ⟨b, 4, none⟩ = some (.slice (some ⟨g, 0, none⟩) 300 cap) := whole_cell HX.out rfl
  have d0 : w2.drew.cell? ⟨b, 4, none⟩ = some (.slice (some ⟨g, 0, none⟩) 300 cap) := d4
  have HGB := Lib.hid (show b ≠ g from fun e => by have h1 := (HO.out.me.block g hblk).2.1; have h2 := HBG.out; omega)
  have HL3 := Lib.hid hl3
  clear ho hb C hl3 h76 hcell
  go_wp2_with fail
  go_region_held3 (fun w' => w'.cell? ⟨b, 4, none⟩ = some (.slice (some ⟨g, 0, none⟩) 300 cap))
    (first
      | with_reducible exact d0
      | with_reducible exact drewc (keep5 HGB.out d4)
      | with_reducible exact drewc (keep5 HGB.out (keep5 HGB.out d4))
      | with_reducible exact drewc (keep5 HGB.out (keep5 HGB.out (keep5 HGB.out d4)))
      | with_reducible exact drewc (keep5 HGB.out (keep5 HGB.out (keep5 HGB.out (keep5 HGB.out d4))))
      | with_reducible exact drewc (keep5 HGB.out (keep5 HGB.out (keep5 HGB.out (keep5 HGB.out (keep5 HGB.out d4))))))
    (fail)
  have hst : Stirred w2 (((((w2.setCell ⟨g, 192, none⟩ (.int .i64 2)).setCell ⟨g, 193, none⟩ (.int .i64 3)).setCell ⟨g, 194, none⟩ (.int .i64 6)).setCell ⟨g, 195, none⟩ (.int .i64 13)).setCell ⟨g, 196, none⟩ (.int .i64 5)).drew [g] := (((((Stirred.setCell w2 ⟨g, 192, none⟩ (.int .i64 2)).trans (Stirred.setCell _ ⟨g, 193, none⟩ (.int .i64 3)) (fun k hk => .inl hk)).trans (Stirred.setCell _ ⟨g, 194, none⟩ (.int .i64 6)) (fun k hk => .inl hk)).trans (Stirred.setCell _ ⟨g, 195, none⟩ (.int .i64 13)) (fun k hk => .inl hk)).trans (Stirred.setCell _ ⟨g, 196, none⟩ (.int .i64 5)) (fun k hk => .inl hk)).trans (Stirred.drew _ [g]) (fun k hk => .inl hk)
  have hme : Owns (((((w2.setCell ⟨g, 192, none⟩ (.int .i64 2)).setCell ⟨g, 193, none⟩ (.int .i64 3)).setCell ⟨g, 194, none⟩ (.int .i64 6)).setCell ⟨g, 195, none⟩ (.int .i64 13)).setCell ⟨g, 196, none⟩ (.int .i64 5)).drew w.heap.size 3 (.slice (some ⟨g, 0, none⟩) 300 cap) (vals (((((mb.mem.set 192 2).set 193 3).set 194 6).set 195 13).set 196 5)) := by
    have h1 := ((((HO2.out.me.stored 192 (.int .i64 2)).stored 193 (.int .i64 3)).stored 194 (.int .i64 6)).stored 195 (.int .i64 13)).stored 196 (.int .i64 5)
    rw [vals_set, vals_set, vals_set, vals_set, vals_set] at h1
    exact h1
  have HO7 := Lib.hid (show OwnsL (((((w2.setCell ⟨g, 192, none⟩ (.int .i64 2)).setCell ⟨g, 193, none⟩ (.int .i64 3)).setCell ⟨g, 194, none⟩ (.int .i64 6)).setCell ⟨g, 195, none⟩ (.int .i64 13)).setCell ⟨g, 196, none⟩ (.int .i64 5)).drew w.heap.size (.slice a1 0 k1) (.slice a2 0 k2) (.slice (some ⟨g, 0, none⟩) 300 cap) { mb with mem := (((((mb.mem.set 192 2).set 193 3).set 194 6).set 195 13).set 196 5) } from
    ⟨HO2.out.st.touch hst (fun k hk hm => by rw [List.mem_singleton] at hm; subst hm; exact (HO2.out.sb k hk).2 hblk), HO2.out.bk.touch hst (fun k hk hm => by rw [List.mem_singleton] at hm; subst hm; exact HO2.out.bm k hk hblk), hme, HO2.out.sb, HO2.out.bm⟩)
  have HX7 := Lib.hid (hst.whole HX.out (by rw [List.mem_singleton]; exact HGB.out))
  have hgw : w.heap.size ≤ g := (HO.out.me.block g hblk).1
  have HB7 := Lib.hid ((HB1.out.trans (HB2.out.mono HB1.out.size)).trans (hst.below (B := w.heap.size) (fun k hk => by rw [List.mem_singleton.1 hk]; exact hgw) (Nat.le_trans HB1.out.size HB2.out.size)))
  clear hst hme hgw hw2 hbb q76 q192 q193 q194 q195 q196 f192 f193 f194 f195 f196 d4 d0
  generalize (((((w2.setCell ⟨g, 192, none⟩ (.int .i64 2)).setCell ⟨g, 193, none⟩ (.int .i64 3)).setCell ⟨g, 194, none⟩ (.int .i64 6)).setCell ⟨g, 195, none⟩ (.int .i64 13)).setCell ⟨g, 196, none⟩ (.int .i64 5)).drew = w7 at *
  have HRD := Lib.hid (OwnsM.reads ⟨_, _, _, rfl, HO7.out⟩ : ReadsM w7 (stV { mb with mem := (((((mb.mem.set 192 2).set 193 3).set 194 6).set 195 13).set 196 5) } (.slice a1 0 k1) (.slice a2 0 k2) (.slice (some ⟨g, 0, none⟩) 300 cap)) { mb with mem := (((((mb.mem.set 192 2).set 193 3).set 194 6).set 195 13).set 196 5) })
  have C := Lib.hid (innEnter_any HRD.out (by have := HSL.out.1; show mb.stack.length ≤ 10000; omega) (by have := HSL.out.2; show mb.back.length ≤ 10000; omega) (by have := HL3.out; simp only [List.length_set]; omega) 192)
  simp only at C
  rw [← HMB.out] at C
  clear HMB HSL HL3 HO HO2 HX HRD
  go_wp2_with (refine ld_state (by rfl) _ rfl _ rfl _ _ HX7.out rfl ?_)
  refine C.out.mono ?_
  rintro e w8 ⟨v, rfl, ho, hb⟩
  have HB8 := Lib.hid (HB7.out.trans (hb.mono HB7.out.size))
  have D := Lib.hid (innRun_nat (OwnsM.reads ho) alive_right alive_cells (by show (0 : Nat) ≤ maxLen; exact Nat.zero_le _) (fun wc hbc => HE.out wc (HB8.out.trans (hbc.mono HB8.out.size))) 99 (by decide))
  rw [runI_nat] at D
  obtain ⟨r1, r2, r3⟩ := alive_runs
  rw [r1] at D
  generalize (Mach.run 99 aliveE).1 = mf at *
  obtain ⟨u1, u2, u3, rfl, -⟩ := ho
  clear hb C HX7 HO7 r1
  go_wp2_with fail
  refine D.out.mono ?_
  rintro e w9 ⟨v, rfl, ⟨v1, v2, v3, rfl, ho⟩, hb⟩
  have HB9 := Lib.hid (HB8.out.trans (hb.mono HB8.out.size))
  obtain ⟨h, ch, e1, -⟩ := owns_slice ho.st (by rw [r3]; decide)
  rw [show mf.stack.length = 1 by rw [r3]; rfl] at e1
  subst e1
  have k9 : w9.cell? ⟨h, 0, none⟩ = some (.int .i64 9) := by
    rw [(owns_at ho.st (j := 0) (by rw [r3]; decide)).1]
    congr 2
    simp [r3]
  obtain ⟨a4, k4, e4⟩ := ho.bk.slice
  obtain ⟨a5, k5, e5⟩ := ho.me.slice
  rw [vals_length] at e4 e5
  subst e4
  subst e5
  obtain ⟨w10, b2, hw10, hb2, HX10, HB10, HBG10⟩ := new_box w9 (cells10 mf.ip mf.handler (.slice (some ⟨h, 0, none⟩) 1 ch) (.slice a4 mf.back.length k4) (.slice a5 mf.mem.length k5) mf.out mf.inp mf.read mf.status mf.code) 24
  have hk9 := (Stirred.of_below HB10.out []).cell List.not_mem_nil k9
  have m8 : w10.cell? ⟨b2, 8, none⟩ = some (.int .i64 mf.status) := whole_cell HX10.out rfl
  have m2 : w10.cell? ⟨b2, 2, none⟩ = some (.slice (some ⟨h, 0, none⟩) 1 ch) := whole_cell HX10.out rfl
  rw [r2] at m8
  have HBX := Lib.hid (HB9.out.trans (HB10.out.mono HB9.out.size))
  clear ho hb D r2 r3 k9
  go_wp2
  go_ret
  exact ⟨rfl, HBX.out⟩
end Go.Proofs.YtfpaajoggbibnaaGreatDoor.Inn
/- Is a machine small enough? -/
namespace Go.Proofs.YtfpaajoggbibnaaGreatDoor.Mach
open Go.RowKit Book Mem
set_option linter.unusedVariables false
set_option linter.unusedSimpArgs false
def lightB (m : M) : Bool := decide (m.mem.length ≤ 700) && decide (m.inp.size ≤ 300) && rightM m
theorem lightB_iff (m : M) : lightB m = true ↔ m.mem.length ≤ 700 ∧ m.inp.size ≤ 300 ∧ Right m := by
  unfold lightB
  rw [Bool.and_eq_true, Bool.and_eq_true, decide_eq_true_eq, decide_eq_true_eq, rightM_iff, and_assoc]
set_option maxHeartbeats 4000000 in
set_option maxRecDepth 100000 in
theorem light_any {w : World} {v : Value} {m : M} (h : ReadsM w v m) (hi : m.inp.size ≤ maxLen) (ho : m.out.size ≤ maxLen) :
    Calls Tryz.prog 5 #[v] w (Says (.bool (lightB m)) w) := by
  have HV := Lib.hid h
  obtain ⟨vs, vb, vm, rfl, -, -, ⟨⟨mo, mc, hm, _⟩, _⟩⟩ := h
  obtain ⟨ip, hn, st, bk, me, ou, inn, rd, stt, cd⟩ := m
  simp only at hm hi ho ⊢
  subst hm
  have hi' : inn.size ≤ 9223372036854775807 := hi
  have HX := Lib.hid (heap_alloc_new w (.cells (cells10 ip hn vs vb (.slice mo me.length mc) ou inn rd stt cd) 24))
  have HB1 := Lib.hid ((Below.refl w.heap.size w).alloc (Nat.le_refl _) (.cells (cells10 ip hn vs vb (.slice mo me.length mc) ou inn rd stt cd) 24))
  have C := Lib.hid (refRight_any (HV.out.below HB1.out) hi ho)
  obtain ⟨rb, hrb⟩ : ∃ b, rightM ⟨ip, hn, st, bk, me, ou, inn, rd, stt, cd⟩ = b := ⟨_, rfl⟩
  have HL := Lib.hid (show lightB ⟨ip, hn, st, bk, me, ou, inn, rd, stt, cd⟩ = (decide (me.length ≤ 700) && decide (inn.size ≤ 300) && rb) by unfold lightB; rw [hrb])
  obtain ⟨lb, hlb⟩ : ∃ b, lightB ⟨ip, hn, st, bk, me, ou, inn, rd, stt, cd⟩ = b := ⟨_, rfl⟩
  rw [hlb]
  rw [hrb] at C
  have HLB := Lib.hid (hlb.symm.trans HL.out)
  clear hi ho hlb HL HV hrb
  by_cases c1 : me.length ≤ 700
  · by_cases c2 : inn.size ≤ 300
    · have HF := Lib.hid (show lb = rb by rw [HLB.out]; simp [c1, c2])
      clear HLB
      go_enter Tryz.func5, Tryz.ntmps5
      go_wp2_with (first
        | (refine ld_state (by rfl) _ rfl _ rfl _ _ HX.out rfl ?_)
        | (go_at_call 19; refine C.out.mono ?_; rintro e w2 ⟨rfl, hb⟩; have HB2 := Lib.hid (HB1.out.trans (hb.mono HB1.out.size)); clear hb))
      go_ret
      exact ⟨by rw [HF.out]; rfl, HB2.out⟩
    · have HF := Lib.hid (show lb = false by rw [HLB.out]; simp [c2])
      clear HLB C HX
      go_enter Tryz.func5, Tryz.ntmps5
      go_wp2
      go_ret
      exact ⟨by rw [HF.out]; rfl, HB1.out⟩
  · have HF := Lib.hid (show lb = false by rw [HLB.out]; simp [c1])
    clear HLB C HX
    go_enter Tryz.func5, Tryz.ntmps5
    go_wp2
    go_ret
    exact ⟨by rw [HF.out]; rfl, HB1.out⟩
end Go.Proofs.YtfpaajoggbibnaaGreatDoor.Mach
/- Marks put into kept lists. -/
namespace Go.Proofs.YtfpaajoggbibnaaGreatDoor
open Go.RowKit Book
set_option linter.unusedSimpArgs false
set_option linter.unusedVariables false
set_option maxHeartbeats 2000000 in
theorem putInts_any (p B : Nat) (vS : Value) (ls : List (Value × List Value)) (w : World) (hp : p < B) (c0 : w.cell? ⟨p, 2, none⟩ = some vS) (hL : Lists w B 22 3 vS ls) (hf : ls.length ≤ 250) (hl : ∀ k ∈ ls, k.2.length ≤ 1000000) :
    Calls Tryz.prog 50 #[.pointer (some ⟨p, 0, none⟩)] w fun e w' => e = .returned (.tuple #[]) ∧ ∃ cur, Done (fun j n => intMarks j 0 n) ls ls.length cur ∧ Lists w' B 22 3 vS cur ∧ Stirred w w' (blocks ls) := by
  obtain ⟨ao, cap, hv⟩ := hL.spine.slice
  rw [List.length_map] at hv
  obtain ⟨L, hn⟩ : ∃ n, ls.length = n := ⟨_, rfl⟩
  rw [hn] at hv hf
  rw [hn]
  subst hv
  have HL := Lib.hid hL
  have HN := Lib.hid hn
  have HM := Lib.hid hl
  have HC0 := Lib.hid c0
  have hpb := Lib.hid (fun h => Nat.lt_irrefl p (Nat.lt_of_lt_of_le hp (hL.lt p h).1) : p ∉ blocks ls)
  clear hL hn hl c0
  go_enter Tryz.func50, Tryz.ntmps50
  go_wp2
  go_loopg [2] L (fun g i wr => ∃ (j : Nat) (cur : List (Value × List Value)), g = L - j ∧ j ≤ L ∧ i = .int .i64 j ∧ Hid (Done (fun j n => intMarks j 0 n) ls j cur) ∧ Hid (Lists wr B 22 3 (.slice ao L cap) cur) ∧ Hid (Stirred w wr (blocks ls)))
  case atStart => exact ⟨0, ls, rfl, Nat.zero_le _, rfl, Done.zero _ _, HL.out, Stirred.refl _ _⟩
  case round =>
    obtain ⟨j, cur, rfl, hj, rfl, HD, HK, HT⟩ := hrel
    have c0 := HT.out.cell hpb.out HC0.out
    by_cases hlt : j < L
    · obtain ⟨⟨v, xs⟩, hk⟩ : ∃ k, ls[j]? = some k := ⟨_, List.getElem?_eq_getElem (by rw [HN.out]; exact hlt)⟩
      have hk' := HD.out.rest j _ (Nat.le_refl _) hk
      have ho := HK.out.list _ (List.mem_of_getElem? hk')
      obtain ⟨gS, cS, e1, hcS, _, _⟩ := HK.out.spine.row (by rw [List.length_map, HD.out.len, HN.out]; omega)
      rw [List.length_map, HD.out.len, HN.out] at e1
      simp only [Value.slice.injEq, true_and] at e1
      obtain ⟨rfl, rfl⟩ := e1
      have k1 := hcS j v (by rw [List.getElem?_map, hk']; rfl)
      obtain ⟨n, hn⟩ : ∃ n, xs.length = n := ⟨_, rfl⟩
      have hn6 : n ≤ 1000000 := by rw [← hn]; exact HM.out _ (List.mem_of_getElem? hk)
      obtain ⟨bo, bc, hv⟩ := ho.slice
      dsimp only at ho hv
      rw [hn] at hv
      subst hv
      have HO := Lib.hid ho
      have HK1 := Lib.hid hk
      have HK2 := Lib.hid hk'
      have HXN := Lib.hid hn
      have hj0 : (0 : Int) ≤ (j : Int) := Int.natCast_nonneg _
      have hj1 : (j : Int) < (L : Int) := by omega
      have C := Lib.hid (markInts_any j 0 n (by omega) (by omega) (by omega) wr)
      clear ho hk hk' hn hcS
      go_wp2_with fail
      refine C.out.mono ?_
      rintro e w1 ⟨m, rfl, hm, hb⟩
      obtain ⟨mo, mc, hmv⟩ := hm.slice
      rw [intMarks_length] at hmv
      subst hmv
      have HMK := Lib.hid hm
      have HB := Lib.hid hb
      have HO1 := Lib.hid (HO.out.below hb)
      have HK3 := Lib.hid (HK.out.below hb)
      have HT1 := Lib.hid (HT.out.trans (Stirred.of_below hb []) (fun _ h => by cases h))
      have c01 := HT1.out.cell hpb.out HC0.out
      have hbw := Lib.hid (fun k hk => (HO.out.block k hk).2.1)
      have HS1 := Lib.hid ((Stirred.of_below HB.out []).cell (List.not_mem_nil) k1)
      clear hm hb k1 c0
      go_wp2
      go_loopg [4] n (fun g k wx => ∃ q : Nat, g = n - q ∧ q ≤ n ∧ k = .int .i64 q ∧ Hid (Owns wx B 3 (.slice bo n bc) ((intMarks j 0 n).take q ++ xs.drop q)) ∧ Hid (Stirred w1 wx (blk (.slice bo n bc)).toList))
      case atStart => exact ⟨0, rfl, Nat.zero_le _, rfl, HO1.out, Stirred.refl _ _⟩
      case round =>
        obtain ⟨q, rfl, hq, rfl, HX, HY⟩ := hrel
        by_cases hlq : q < n
        · have hmk : (intMarks j 0 n)[q]? = some (.int .i64 (markI j (0 + q))) := by simp [intMarks, hlq]
          obtain ⟨s, hs⟩ : ∃ s, markI j (0 + q) = s := ⟨_, rfl⟩
          rw [hs] at hmk
          have hxl : ((intMarks j 0 n).take q ++ xs.drop q).length = n := by rw [List.length_append, List.length_take, List.length_drop, intMarks_length, HXN.out]; omega
          obtain ⟨gv, cv, e1, hcv, hfv, _⟩ := HX.out.row (by omega)
          rw [hxl] at e1
          simp only [Value.slice.injEq, true_and] at e1
          obtain ⟨rfl, rfl⟩ := e1
          have hbv := HX.out.capAt (by omega)
          have hy := HY.out
          rw [hbv] at hy
          obtain ⟨gm, cm, e2, hcm, _, _⟩ := HMK.out.row (by rw [intMarks_length]; omega)
          rw [intMarks_length] at e2
          simp only [Value.slice.injEq, true_and] at e2
          obtain ⟨rfl, rfl⟩ := e2
          have n1 : gm ≠ gv := by have h1 := (HMK.out.block gm (HMK.out.capAt (by rw [intMarks_length]; omega))).1; have h2 := hbw.out gv hbv; omega
          have n2 : gS ≠ gv := fun e => HK.out.spine_apart (by decide) gS (HK.out.spine.capAt (by rw [List.length_map, HD.out.len, HN.out]; omega)) (by rw [e]; exact mem_blocks (List.mem_of_getElem? HK2.out) hbv)
          have n3 : p ≠ gv := by have h1 := (HO.out.block gv hbv).1; omega
          have km := hy.cell (show gm ∉ [gv] by simpa using n1) (hcm q _ hmk)
          have k1 := hy.cell (show gS ∉ [gv] by simpa using n2) (HS1.out)
          have c0 := hy.cell (show p ∉ [gv] by simpa using n3) c01
          obtain ⟨old, hold⟩ : ∃ old, ((intMarks j 0 n).take q ++ xs.drop q)[q]? = some old := ⟨_, List.getElem?_eq_getElem (by omega)⟩
          have ko := hcv q old hold
          have kf := hfv q
          have HMX := Lib.hid hmk
          have hq0 : (0 : Int) ≤ (q : Int) := Int.natCast_nonneg _
          have hq1 : (q : Int) < (n : Int) := by omega
          have F1 := Lib.hid ((Stirred.setCell _ ⟨gv, q, none⟩ (.int .i64 s)).cell (show p ∉ [gv] by simpa using n3) c0)
          have F2 := Lib.hid ((Stirred.setCell _ ⟨gv, q, none⟩ (.int .i64 s)).cell (show gS ∉ [gv] by simpa using n2) k1)
          have F3 := Lib.hid ((Stirred.setCell _ ⟨gv, q, none⟩ (.int .i64 s)).cell (show gm ∉ [gv] by simpa using n1) km)
          have hx2 := (HX.out.stored q (.int .i64 s)).touch (Stirred.drew _ []) (fun _ _ => List.not_mem_nil)
          rw [mix_set hmk (by rw [HXN.out, intMarks_length])] at hx2
          have HX2 := Lib.hid hx2
          have HY2 := Lib.hid ((HY.out.trans (Stirred.setCell _ ⟨gv, q, none⟩ (.int .i64 s)) (fun _ h => .inl (by rw [hbv]; exact h))).trans (Stirred.drew _ []) (fun _ h => by cases h))
          clear hmk hs hxl hx2 hcv hfv hcm hold hy hbv
          go_wp2_with fail
          go_region_held3 (fun w' => w'.cell? ⟨p, 2, none⟩ = some (.slice (some ⟨gS, 0, none⟩) L cap) ∧ w'.cell? ⟨gS, j, none⟩ = some (.slice (some ⟨gv, 0, none⟩) n bc) ∧ w'.cell? ⟨gm, q, none⟩ = some (.int .i64 s)) (first | (go_keep; done) | exact ⟨F1.out, F2.out, F3.out⟩) (fail)
          all_goals go_wp2
          go_roundg (n - (q + 1))
          case measure => omega
          case rel => exact ⟨q + 1, rfl, by omega, by go_num, HX2, HY2⟩
        · obtain rfl : q = n := by omega
          go_wp2
          go_roundg (L - (j + 1))
          case measure => omega
          case rel =>
            have hx : (intMarks j 0 q).take q ++ xs.drop q = intMarks j 0 q := by
              rw [List.take_of_length_le (by rw [intMarks_length]; omega), List.drop_eq_nil_of_le (by rw [HXN.out]; omega), List.append_nil]
            have hset := HK3.out.set (by decide) HK2.out HY.out (by have h1 := HX.out; rw [hx] at h1; exact h1)
            have hdone := HD.out.succ HK1.out
            rw [HXN.out] at hdone
            exact ⟨j + 1, _, rfl, by omega, by go_num, hdone, hset, HT1.out.trans HY.out (fun k hk => .inl (mem_blocks (List.mem_of_getElem? HK1.out) (by simpa using hk)))⟩
    · obtain rfl : j = L := by omega
      go_wp2
      go_end0
      exact ⟨rfl, cur, HD.out, HK.out, HT.out⟩
end Go.Proofs.YtfpaajoggbibnaaGreatDoor
