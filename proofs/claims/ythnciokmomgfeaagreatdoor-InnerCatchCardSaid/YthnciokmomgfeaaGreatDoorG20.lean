/- Package inner: copying; beginning a word. -/
import Derived.Test.YthnciokmomgfeaaGreatDoorG19
import Derived.Deep.RegionHeld3
import Derived.Test.YthnciokmomgfeaaGreatDoorG5
import Derived.Deep.RegionLaw
import Derived.Deep.AppendLies
import Derived.Deep.DrawnRows
import Derived.Test.YthnciokmomgfeaaGreatDoorG2
import Derived.Test.YthnciokmomgfeaaGreatDoorG8
import Derived.Deep.RegionWith
import Derived.Deep.QuietTactic
import Derived.BigQuiet
import Derived.Deep.DeepCutAuto
namespace Go.Proofs.YthnciokmomgfeaaGreatDoor.Inn
open Go.RowKit Book Mem Mach
set_option linter.unusedVariables false
set_option linter.unusedSimpArgs false
set_option maxHeartbeats 4000000 in
set_option maxRecDepth 100000 in
/-- slices.Clone of a list wherever it lies -/
theorem clone_reads {w : World} {v : Value} {xs : List Int} (h : ReadsC w v xs) (hl : xs.length ≤ 10000) :
    Calls Tryz.prog 79 #[v] w fun e w' => ∃ c, e = .returned c ∧ Owns w' w.heap.size 3 c (vals xs) ∧ Below w.heap.size w w' := by
  obtain ⟨i0, q1, q2, q3, q4⟩ := info_parts Tryz.bkIntInfo
  have HI := Lib.hid (And.intro q1 (And.intro q2 (And.intro q3 q4)))
  have HR := Lib.hid h.1
  obtain ⟨ao, c, rfl, hc⟩ := h.2
  cases ao with
  | none =>
    have hx : xs = [] := by
      cases xs with
      | nil => rfl
      | cons x r =>
        obtain ⟨ao', c', e, hcell⟩ := h.1
        simp only [Value.slice.injEq] at e
        obtain ⟨a, ha, _⟩ := hcell 0 x rfl
        rw [← e.1] at ha
        cases ha
    subst hx
    exact (Tryz.slices_Clone_int_nil 0 c w).mono fun e w' ⟨h1, h2⟩ => by subst h2; exact ⟨_, h1, Owns.nil _ _ _, Below.refl _ _⟩
  | some ad =>
    obtain ⟨n, hn⟩ : ∃ n, xs.length = n := ⟨_, rfl⟩
    rw [hn] at hc HR
    have HN := Lib.hid hn
    have HL := Lib.hid hl
    rw [hn]
    clear h q1 q2 q3 q4 hn hl
    have hne := Lib.run_eql_slice_some_nil (P := Tryz.prog) w ad n c Tryz.underlying22
    go_enter Tryz.func79, Tryz.ntmps79
    have HB1 := Lib.hid ((Below.refl w.heap.size w).alloc (Nat.le_refl _) (.cells #[] 3))
    go_wp2_with (refine wpList_append_reads _ rfl _ _ 22 rfl w.heap.size 3 i0 (.int .i64 0) 8 Tryz.underlying22 HI.out.1 HI.out.2.1 HI.out.2.2.1 HI.out.2.2.2 rfl (.slice (some ⟨w.heap.size, 0, none⟩) 0 0) [] rfl (Owns.empty _ _ _ _) (.slice (some ad) n c) xs rfl (HR.out.below HB1.out) (by have := HL.out; unfold maxLen; simp; omega) (by have := HL.out; simp; omega) HB1.out.size ?_; intro v1 w2 ho _ ht _; have HO := Lib.hid (show Owns w2 w.heap.size 3 v1 (vals xs) from ho); have HT := Lib.hid (HB1.out.trans (ht.below (fun k hk => by simp [blk] at hk) HB1.out.size)); obtain ⟨a1, c1, e1⟩ := HO.out.slice; rw [vals_length] at e1; subst e1; clear ho ht)
    go_ret
    exact ⟨_, rfl, HO.out, HT.out⟩
theorem SS.six {w : World} {s r : Nat} {m : M} {vs vb vm : Value} {st bk me : List Int} {o1 o2 o3 : Option Value} {wc : World} (h : SS w s r (cells10 m.ip m.handler vs vb vm m.out m.inp m.read m.status m.code) st bk me o1 o2 o3 wc) :
    wc.cell? ⟨s, 2, none⟩ = some vs ∧ wc.cell? ⟨s, 3, none⟩ = some vb ∧ wc.cell? ⟨s, 4, none⟩ = some vm ∧ wc.frozen? ⟨s, 2, none⟩ = false ∧ wc.frozen? ⟨s, 3, none⟩ = false ∧ wc.frozen? ⟨s, 4, none⟩ = false :=
  ⟨whole_cell h.hs rfl, whole_cell h.hs rfl, whole_cell h.hs rfl, whole_frozen h.hs 2, whole_frozen h.hs 3, whole_frozen h.hs 4⟩
set_option maxHeartbeats 8000000 in
set_option maxRecDepth 100000 in
theorem innCopy_any {w : World} {v : Value} {m : M} (h : ReadsM w v m) (h1 : m.stack.length ≤ 10000) (h2 : m.back.length ≤ 10000) (h3 : m.mem.length ≤ 10000) :
    Calls Tryz.prog 28 #[v] w (GivesM m w) := by
  obtain ⟨vs, vb, vm, rfl, hs, hb, hm⟩ := h
  have C1 := Lib.hid (fun wc (hbw : Below w.heap.size w wc) => clone_reads (hs.below hbw) h1)
  have C2 := Lib.hid (fun wc (hbw : Below w.heap.size w wc) => clone_reads (hb.below hbw) h2)
  have C3 := Lib.hid (fun wc (hbw : Below w.heap.size w wc) => clone_reads (hm.below hbw) h3)
  obtain ⟨w1, w2, g, r, hw1, hw2, hg, hr, HG, HR, HB, HZ, HW⟩ := two_boxes w (cells10 m.ip m.handler vs vb vm m.out m.inp m.read m.status m.code)
  have HS : Hid (SS w g r (cells10 m.ip m.handler vs vb vm m.out m.inp m.read m.status m.code) m.stack m.back m.mem none none none w2.drew) := Lib.hid ⟨(show Below w.heap.size w w2 by rw [HW.out]; exact HB.out).drew, HG.out, HR.out, fun p e => (by cases e), fun p e => (by cases e), fun p e => (by cases e), fun p p' e => (by cases e), fun p p' e => (by cases e), fun p p' e => (by cases e)⟩
  clear hs hb hm h1 h2 h3
  go_enter Tryz.func28, Tryz.ntmps28
  go_upto_region 1 with fail
  clear hw1 hw2 hg hr HG HR HB
  go_cut [] (fun wx => ∃ v1 v2 v3, Hid (SG w g r m v1 v2 v3 wx))
  case first =>
    obtain ⟨a2, a3, a4, f2, f3, f4⟩ := HS.out.six
    go_wp2_with fail
    go_region_with (first
      | (go_at_call_of 79 vs; refine (C1.out _ HS.out.hb).mono ?_; rintro e wn ⟨c, rfl, hl, hb⟩; obtain ⟨ao, cc, hcc⟩ := hl.slice; rw [vals_length] at hcc; subst hcc; have HS := Lib.hid (HS.out.set1 hl hb); clear hl hb; obtain ⟨a2, a3, a4, f2, f3, f4⟩ := HS.out.six)
      | (go_at_call_of 79 vb; refine (C2.out _ HS.out.hb).mono ?_; rintro e wn ⟨c, rfl, hl, hb⟩; obtain ⟨ao, cc, hcc⟩ := hl.slice; rw [vals_length] at hcc; subst hcc; have HS := Lib.hid (HS.out.set2 hl hb); clear hl hb; obtain ⟨a2, a3, a4, f2, f3, f4⟩ := HS.out.six)
      | (go_at_call_of 79 vm; refine (C3.out _ HS.out.hb).mono ?_; rintro e wn ⟨c, rfl, hl, hb⟩; obtain ⟨ao, cc, hcc⟩ := hl.slice; rw [vals_length] at hcc; subst hcc; have HS := Lib.hid (HS.out.set3 hl hb); clear hl hb; obtain ⟨a2, a3, a4, f2, f3, f4⟩ := HS.out.six))
    all_goals
      go_wp2_with fail
      go_meet
      exact ⟨_, _, _, SG.of (by have := HW.out; omega) (by have := HZ.out; omega) HS.out⟩
  case rest =>
    obtain ⟨v1, v2, v3, HF⟩ := hcut
    clear HS C1 C2 C3
    have HG := Lib.hid HF.out.hs
    have HR := Lib.hid HF.out.hr
    have HO := Lib.hid HF.out.own
    go_wp2_with (first
      | (refine ld_state (by rfl) _ rfl _ rfl _ _ HG.out rfl ?_)
      | (refine st_state (by rfl) _ _ rfl r _ rfl rfl _ _ HR.out rfl rfl (all_one (slice_one HO.out.st.slice) (slice_one HO.out.bk.slice) (slice_one HO.out.me.slice)) ?_; intro wf hr ht; have HRF := Lib.hid hr; have HTF := Lib.hid ht; clear hr ht))
    refine bodyPost_ret (results_cell_row rfl _ _ r _ _ _ _ rfl HRF.out Tryz.underlying24 rfl state_size) rfl ?_
    have hl := fun {v : Value} {xs : List Int} (ho : Owns wc w.heap.size 3 v (vals xs)) (hf : ∀ k, blk v = some k → r < k) => (ho.touch HTF.out (fun k hk hm => by rw [List.mem_singleton] at hm; have := hf k hk; omega) : Owns wf w.heap.size 3 v (vals xs))
    refine ⟨_, rfl, ⟨v1, v2, v3, rfl, ⟨hl HO.out.st (HF.out.far _ (.inl rfl)), hl HO.out.bk (HF.out.far _ (.inr (.inl rfl))), hl HO.out.me (HF.out.far _ (.inr (.inr rfl))), HO.out.sb, HO.out.bm⟩⟩, HF.out.hb.trans (HTF.out.below (B := w.heap.size) (fun k hk => by rw [List.mem_singleton.1 hk]; have h1 := HW.out; have h2 := HZ.out; omega) HF.out.hb.size)⟩
end Go.Proofs.YthnciokmomgfeaaGreatDoor.Inn
/- One list of texts more. -/
namespace Go.Proofs.YthnciokmomgfeaaGreatDoor
open Go.RowKit Book
set_option linter.unusedSimpArgs false
set_option linter.unusedVariables false
set_option maxHeartbeats 1000000 in
theorem copyInts_any (v : Value) (B : Nat) (xs : List Value) (w : World) (h : Owns w B 3 v xs) (h1 : ∀ u ∈ xs, u.oneCell' = true) (hl : xs.length ≤ 1000000) :
    Calls Tryz.prog 81 #[v] w fun e w' => ∃ c, e = .returned c ∧ Owns w' w.heap.size 3 c xs ∧ Below w.heap.size w w' := by
  obtain ⟨i0, q1, q2, q3, q4⟩ := info_parts Tryz.bkIntInfo
  have HI := Lib.hid (And.intro q1 (And.intro q2 (And.intro q3 q4)))
  have HO := Lib.hid h
  have H1 := Lib.hid h1
  obtain ⟨vo, vc, rfl⟩ := h.slice
  clear h h1 q1 q2 q3 q4
  go_enter Tryz.func81, Tryz.ntmps81
  go_wp2_with (at_builtin; refine wpList_append_rows _ rfl _ _ 22 rfl w.heap.size 3 i0 (.int .i64 0) 8 Tryz.underlying22 HI.out.1 HI.out.2.1 HI.out.2.2.1 HI.out.2.2.2 rfl (.slice none 0 0) [] rfl (Owns.nil _ _ _) B _ xs rfl HO.out H1.out ?c3 ?c4 (Nat.le_refl _) ?_)
  case c3 => rw [List.length_nil]; unfold maxLen; omega
  case c4 => rw [List.length_nil]; omega
  intro v' w' hown _ hT _
  have HF := Lib.hid (show Owns w' w.heap.size 3 v' xs from hown)
  have HG := Lib.hid hT
  clear hown hT
  go_wp2
  go_ret
  exact ⟨_, rfl, HF.out, HG.out.below (B := w.heap.size) (fun _ h => by cases h) (Nat.le_refl _)⟩
set_option maxHeartbeats 4000000 in
set_option maxRecDepth 100000 in
theorem bookInts_any (p B : Nat) (cur : Array Value) (vS vW v : Value) (ls : List (Value × List Value)) (xs : List Value) (w : World) (hp : p < B) (hB : B ≤ w.heap.size) (hlt : ls.length < 250)
    (hbk : w.heap[p]? = some (.cells cur 35 (0, 0))) (e0 : cur[2]? = some vS) (e1 : cur[3]? = some vW)
    (bs : List Nat) (hbs : ∀ k ∈ bs, k < w.heap.size) (hk : Kept w B 22 3 goodInts vS vW ls bs) (ho : Owns w B 3 v xs) (hg : goodInts xs) (hn : ∀ k, blk v = some k → k ∉ blocks ls) (hvb : ∀ k, blk v = some k → k ∉ bs) :
    Calls Tryz.prog 46 #[.pointer (some ⟨p, 0, none⟩), v] w fun e w' => e = .returned (.tuple #[]) ∧ ∃ vS' vW', w'.heap[p]? = some (.cells ((cur.setIfInBounds 2 vS').setIfInBounds 3 vW') 35 (0, 0)) ∧
      Kept w' B 22 3 goodInts vS' vW' (ls ++ [(v, xs)]) bs ∧ Stirred w w' (p :: ((blk vS).toList ++ (blk vW).toList)) := by
  obtain ⟨i1, q1, q2, q3, q4⟩ := info_parts Tryz.bkIntSpineInfo
  have HJ := Lib.hid (And.intro q1 (And.intro q2 (And.intro q3 q4)))
  clear q1 q2 q3 q4
  obtain ⟨ao, cap, hv⟩ := hk.lists.spine.slice
  rw [List.length_map] at hv
  obtain ⟨L, hL⟩ : ∃ n, ls.length = n := ⟨_, rfl⟩
  rw [hL] at hv hlt
  subst hv
  obtain ⟨vo, vc, hvv⟩ := ho.slice
  obtain ⟨n, hxn⟩ : ∃ n, xs.length = n := ⟨_, rfl⟩
  rw [hxn] at hvv
  subst hvv
  have HN := Lib.hid (And.intro hL hxn)
  have HK := Lib.hid hk
  have HO := Lib.hid ho
  have HG := Lib.hid hg
  have HD := Lib.hid hn
  have HVB := Lib.hid hvb
  have HBS := Lib.hid hbs
  have HBK := Lib.hid hbk
  have HE := Lib.hid (And.intro e0 e1)
  have c0 := whole_cell hbk e0
  have f0 := whole_frozen hbk 2
  have hal := Lib.hid ((Below.refl w.heap.size w).alloc (Nat.le_refl _) (.cells #[.slice vo n vc] 22))
  have HSP := Lib.hid (hk.lists.spine.below hal.out)
  clear hL hxn hk ho hg hn hvb hbs hbk e0 e1
  have hli : (L : Int) < 250 := by omega
  go_enter Tryz.func46, Tryz.ntmps46
  go_wp2_with (at_builtin; refine wpList_append_two _ rfl _ _ 29 rfl B 22 i1 (.slice none 0 0) 24 Tryz.underlying29 HJ.out.1 HJ.out.2.1 HJ.out.2.2.1 HJ.out.2.2.2 rfl _ _ rfl HSP.out ⟨w.heap.size, 0, none⟩ 1 1 [.slice vo n vc] rfl rfl ?d1 ?d2 (Nat.zero_lt_succ 0) ?d3 ?d4 ?d5 ?_)
  case d1 => intro j u hj; rcases j with _ | j <;> simp at hj; subst hj; simp [Addr.add]
  case d2 => intro u hu; simp at hu; subst hu; rfl
  case d3 => rw [List.length_map, HN.out.1]; show L + 1 ≤ maxLen; unfold maxLen; omega
  case d4 => rw [List.length_map, HN.out.1]; show (L + 1) * 24 ≤ _; omega
  case d5 => simp; omega
  intro v' w1 hO1 _ hT1 hN1
  have hst : Stirred w w1 (blk (.slice ao L cap)).toList := ((Stirred.of_below hal.out []).more (fun _ h => (by cases h))).trans hT1 (fun k hk => .inl hk)
  have hbk1 := hst.whole HBK.out (fun hm => by have := (HK.out.lists.spine.block p (by simpa using hm)).1; omega)
  have k0 := whole_cell hbk1 HE.out.1
  have f1 := whole_frozen hbk1 2
  obtain ⟨so, sc, hsv⟩ := hO1.slice
  rw [List.length_append, List.length_map, HN.out.1] at hsv
  change v' = .slice so (L + 1) sc at hsv
  subst hsv
  have st2 : Stirred w (w1.setCell ⟨p, 2, none⟩ (.slice so (L + 1) sc)) (p :: (blk (.slice ao L cap)).toList) := (hst.more (fun k hk => List.mem_cons_of_mem _ hk)).trans (Stirred.setCell w1 ⟨p, 2, none⟩ _) (fun k hk => .inl (by simp at hk; simp [hk]))
  have hO2 : Owns (w1.setCell ⟨p, 2, none⟩ (.slice so (L + 1) sc)) B 22 (.slice so (L + 1) sc) (ls.map (·.1) ++ [.slice vo n vc]) := hO1.touch (Stirred.setCell w1 ⟨p, 2, none⟩ _) (fun k hk hm => by
    have := (hO1.block k hk).1
    simp at hm
    omega)
  have hbk2 := whole_set hbk1 2 (.slice so (L + 1) sc)
  obtain ⟨cs, hh⟩ := HK.out.half HBS.out (by decide) hp (by rw [HN.out.1]; omega) HO.out HG.out HD.out HVB.out hO2 st2 (by
    rcases hN1 with e | ⟨k, e, hk⟩
    · exact .inl e
    · exact .inr ⟨k, e, by have h9 := hal.out.size; simp at h9 hk; omega⟩)
  have c1 := whole_cell hbk2 (show (cur.setIfInBounds 2 (.slice so (L + 1) sc))[3]? = some vW by rw [Array.getElem?_setIfInBounds_ne (by decide)]; exact HE.out.2)
  have f1' := whole_frozen hbk2 3
  have hB2 := Nat.le_trans hB st2.size
  obtain ⟨w2, hw2⟩ : ∃ w2, w1.setCell ⟨p, 2, none⟩ (.slice so (L + 1) sc) = w2 := ⟨_, rfl⟩
  rw [hw2] at st2 hO2 hbk2 hh c1 f1' hB2
  have hcl : (cs.map (·.1)).length = L := by have := congrArg List.length hh.eq; simp at this; rw [List.length_map, this, HN.out.1]
  obtain ⟨wo, wc, hwv⟩ := hh.was.slice
  rw [hcl] at hwv
  subst hwv
  have HH := Lib.hid hh
  have HOB := Lib.hid (hh.was.ownBlock_eq hh.wasRow)
  have HB2 := Lib.hid hbk2
  have ST2 := Lib.hid st2
  have HCL := Lib.hid hcl
  have C := Lib.hid (copyInts_any (.slice vo n vc) B xs w2.drew ((hh.lists.list _ (List.mem_append_right _ (List.mem_singleton.2 rfl))).touch (Stirred.drew _ []) (fun _ _ => List.not_mem_nil)) (by obtain ⟨ss, h1, _⟩ := HG.out; rw [h1]; intro u hu; simp at hu; obtain ⟨a, _, rfl⟩ := hu; rfl) (by obtain ⟨ss, h1, h2⟩ := HG.out; rw [h1, List.length_map]; exact h2))
  clear hO1 hT1 hN1 hst hbk1 st2 hO2 hbk2 hh hcl c0 f0
  go_wp2_with fail
  clear hw2 k0 f1
  go_region_law (first
    | (refine step_append_lies _ (by rfl) _ _ 29 (by rfl) B 22 i1 (.slice none 0 0) 1 24 Tryz.underlying29 HJ.out.1 HJ.out.2.1 HJ.out.2.2.1 HJ.out.2.2.2 rfl (by omega) (.slice wo L wc) L (cs.map (·.1)) (by rfl) HW3.out ⟨w3.heap.size, 0, none⟩ 1 1 [.slice co n cc] (by rfl) (by rfl) (news_one _ _ _) (by simp [Value.oneCell']) (by omega) (by unfold maxLen; omega) (by omega) (by simp; omega) (w3.heap.size + 1) (by simp) ?_; intro g ncap w4 hown hgrow hat hlt4; rw [HOB.out] at hgrow hat; have H4 := HH.out.grown hp HB2.out HB3.out hgrow; have c4 := whole_cell H4.2 (show (cur.setIfInBounds 2 (.slice so (L + 1) sc))[3]? = some (.slice wo L wc) by rw [Array.getElem?_setIfInBounds_ne (by decide)]; exact HE.out.2); have f4 := whole_frozen H4.2 3; have HOW := Lib.hid hown; have HGR := Lib.hid hgrow; have HAT := Lib.hid hat; clear hown hgrow hat H4)
    | (go_simp; go_at_call 81; refine C.out.mono ?_; rintro e w3 ⟨c, rfl, hc, hb⟩; obtain ⟨co, cc, hcv⟩ := hc.slice; rw [HN.out.2] at hcv; subst hcv; have HC3 := Lib.hid hc; have HB3 := Lib.hid ((Below.refl w2.heap.size w2).drew.trans hb); clear hc hb; have c1 := (Stirred.of_below HB3.out []).cell List.not_mem_nil c1; have c1a := (Stirred.of_below ((Below.refl w3.heap.size w3).alloc (Nat.le_refl _) (.cells #[.slice co n cc] 22)) []).cell List.not_mem_nil c1; have HW3 := Lib.hid (show World.ownsRow (w3.alloc (.cells #[.slice co n cc] 22)) B 22 1 (.slice wo L wc) L (cs.map (·.1)) from (by have h9 := (HH.out.was.below HB3.out).below ((Below.refl w3.heap.size w3).alloc (Nat.le_refl _) (.cells #[.slice co n cc] 22)); replace h9 := h9.to_row HH.out.wasRow; rw [HCL.out] at h9; exact h9)); have hB3 := Nat.le_trans hB2 HB3.out.size))
  all_goals
    have HF : Owns w4 B 22 (.slice (some ⟨g, 0, none⟩) (L + 1) ncap) (cs.map (·.1) ++ [.slice co n cc]) := by
      exact Owns.of_row HOW.out
    have hcl := HH.out.close (j := 3) (by decide) hp hB2 HB2.out HB3.out HC3.out HF HGR.out (by
      rcases HAT.out with e | e
      · exact .inl (by rw [HF.capAt (by simp)]; first | exact e.symm | exact e)
      · exact .inr ⟨g, HF.capAt (by simp), by have := HB3.out.size; omega⟩) (fun k hk => Nat.lt_of_lt_of_le (HBS.out k hk) ST2.out.size)
    have HR := Lib.hid hcl
    clear HF hcl c4 f4
    go_wp2
    go_end0
    exact ⟨rfl, _, _, HR.out.2.1, HR.out.1, ((ST2.out.more (fun k hk => by rcases List.mem_cons.1 hk with rfl | hk; exact List.mem_cons_self; exact List.mem_cons_of_mem _ (List.mem_append_left _ hk))).trans HR.out.2.2 (fun k hk => .inl (by rcases List.mem_cons.1 hk with rfl | hk; exact List.mem_cons_self; exact List.mem_cons_of_mem _ (List.mem_append_right _ hk))))⟩
end Go.Proofs.YthnciokmomgfeaaGreatDoor
/- hollowaybook over lists that came in: lent, held against one's own. -/
namespace Go.Proofs.YthnciokmomgfeaaGreatDoor
open Go.RowKit Book Mem
set_option linter.unusedSimpArgs false
set_option linter.unusedVariables false
theorem copyReads_any (v : Value) (l : List Int) (w : World) (h : Reads w v l) (hl : l.length ≤ 1000000) :
    Calls Tryz.prog 81 #[v] w fun e w' => ∃ c, e = .returned c ∧ Owns w' w.heap.size 3 c (vals l) ∧ Below w.heap.size w w' := by
  obtain ⟨i0, q1, q2, q3, q4⟩ := info_parts Tryz.bkIntInfo
  have HI := Lib.hid (And.intro q1 (And.intro q2 (And.intro q3 q4)))
  have HR := Lib.hid h
  obtain ⟨vo, vc, rfl, _⟩ := h
  obtain ⟨n, hn⟩ : ∃ n, l.length = n := ⟨_, rfl⟩
  rw [hn] at HR hl ⊢
  have HN := Lib.hid hn
  clear q1 q2 q3 q4 hn
  go_enter Tryz.func81, Tryz.ntmps81
  go_wp2_with (at_builtin; refine wpList_append_reads _ rfl _ _ 22 rfl w.heap.size 3 i0 (.int .i64 0) 8 Tryz.underlying22 HI.out.1 HI.out.2.1 HI.out.2.2.1 HI.out.2.2.2 rfl _ [] rfl (Owns.nil _ _ _) _ l rfl HR.out ?c3 ?c4 (Nat.le_refl _) ?_)
  case c3 => have := HN.out; unfold maxLen; simp; omega
  case c4 => have := HN.out; simp; omega
  intro v' w' hown _ hT _
  have HF := Lib.hid (show Owns w' w.heap.size 3 v' (vals l) from hown)
  have HG := Lib.hid hT
  clear hown hT
  go_wp2
  go_ret
  exact ⟨_, rfl, HF.out, HG.out.below (B := w.heap.size) (fun _ h => by cases h) (Nat.le_refl _)⟩
/-- a list with room behind it, in which a mark stands -/
def Lent (w : World) (B g cap : Nat) (l : List Int) : Prop := Owns w B 3 (.slice (some ⟨g, 0, none⟩) (l.length + 1) cap) (vals (l ++ [-77]))
theorem Lent.owns {w : World} {B g cap : Nat} {l : List Int} (h : Lent w B g cap l) : Owns w B 3 (.slice (some ⟨g, 0, none⟩) l.length cap) (vals l) := by
  have := owns_shorter (m := l.length) h (by simp)
  rw [List.take_left] at this
  exact this
theorem Lent.blk {w : World} {B g cap : Nat} {l : List Int} (h : Lent w B g cap l) : Book.blk (.slice (some ⟨g, 0, none⟩) (l.length + 1) cap) = some g ∧ l.length + 1 ≤ cap := by
  obtain ⟨g', c', e, _, _, hl⟩ := h.row (by rw [vals_length]; simp)
  rw [vals_length] at e hl
  simp only [Value.slice.injEq, Option.some.injEq, Addr.mk.injEq, and_true, List.length_append, List.length_cons, List.length_nil] at e hl
  have : l.length + 1 ≤ cap := by omega
  exact ⟨blk_pos (by omega), this⟩
theorem Lent.touch {w w' : World} {B g cap : Nat} {l : List Int} {bs : List Nat} (h : Lent w B g cap l) (ht : Stirred w w' bs) (hn : g ∉ bs) : Lent w' B g cap l :=
  Owns.touch h ht (fun k hk => by rw [h.blk.1] at hk; simp at hk; subst hk; exact hn)
set_option maxHeartbeats 1000000 in
theorem lent_any (v : Value) (l : List Int) (w : World) (h : Reads w v l) (hl : l.length ≤ 1000) :
    Calls Tryz.prog 35 #[v] w fun e w' => ∃ g cap, e = .returned (.slice (some ⟨g, 0, none⟩) l.length cap) ∧ Lent w' w.heap.size g cap l ∧ Below w.heap.size w w' := by
  obtain ⟨i0, q1, q2, q3, q4⟩ := info_parts Tryz.bkIntInfo
  have HI := Lib.hid (And.intro q1 (And.intro q2 (And.intro q3 q4)))
  have C := Lib.hid (copyReads_any v l w h (by omega))
  obtain ⟨vo, vc, rfl, _⟩ := h
  obtain ⟨n, hn⟩ : ∃ n, l.length = n := ⟨_, rfl⟩
  have HN := Lib.hid hn
  rw [hn] at C hl ⊢
  clear q1 q2 q3 q4 hn
  go_enter Tryz.func35, Tryz.ntmps35
  go_wp2_with fail
  refine C.out.mono ?_
  rintro e w1 ⟨c, rfl, hO, hB⟩
  obtain ⟨co, cc, hcv⟩ := hO.slice
  rw [vals_length, HN.out] at hcv
  subst hcv
  have hal := (Below.refl w1.heap.size w1).alloc (Nat.le_refl _) (.cells #[.int .i64 (-77)] 3)
  have HO := Lib.hid (hO.below hal)
  have HB := Lib.hid hB
  clear hO hB C hal
  go_wp2_with (at_builtin; refine wpList_append_two _ rfl _ _ 22 rfl w.heap.size 3 i0 (.int .i64 0) 8 Tryz.underlying22 HI.out.1 HI.out.2.1 HI.out.2.2.1 HI.out.2.2.2 rfl _ _ rfl HO.out ⟨w1.heap.size, 0, none⟩ 1 1 [.int .i64 (-77)] rfl rfl ?c1 ?c2 (Nat.zero_lt_succ 0) ?c3 ?c4 ?c5 ?_)
  case c1 => intro j u hj; rcases j with _ | j <;> simp at hj; subst hj; simp [Addr.add]
  case c2 => intro u hu; simp at hu; subst hu; rfl
  case c3 => rw [vals_length, HN.out]; show n + 1 ≤ maxLen; unfold maxLen; omega
  case c4 => rw [vals_length, HN.out]; show (n + 1) * 8 ≤ _; omega
  case c5 => have := HB.out.size; simp; omega
  intro v' w2 hO2 _ hT _
  have hv : vals l ++ [.int .i64 (-77)] = vals (l ++ [-77]) := by simp [vals]
  rw [hv] at hO2
  obtain ⟨g, cap, e, hb⟩ := owns_slice hO2 (by simp)
  rw [List.length_append, HN.out] at e
  change v' = .slice (some ⟨g, 0, none⟩) (n + 1) cap at e
  subst e
  have hL : Lent w2 w.heap.size g cap l := by unfold Lent; rw [HN.out]; exact hO2
  have hcap := hL.blk.2
  rw [HN.out] at hcap
  have HL := Lib.hid hL
  have HB2 := Lib.hid ((HB.out.alloc HB.out.size (.cells #[.int .i64 (-77)] 3)).trans (hT.below (B := w.heap.size) (fun k hk => (HO.out.block k (by simpa using hk)).1) (by have := HB.out.size; simp; omega)))
  have hc1 : (n : Int) ≤ (cap : Int) := by omega
  clear hO2 hT hv hb hL
  go_wp2
  go_ret
  exact ⟨g, cap, rfl, HL.out, HB2.out⟩
set_option maxHeartbeats 2000000 in
theorem sameReads_any (va vb : Value) (ss : List Int) (w : World) (ha : Reads w va ss) (hb : Reads w vb ss) (hl : ss.length ≤ 10000000) :
    Calls Tryz.prog 33 #[va, vb] w fun e w' => e = .returned (.bool true) ∧ ∃ q, w' = w.drewN q := by
  obtain ⟨ao, ac, rfl, hca⟩ := ha
  obtain ⟨bo, bc, rfl, hcb⟩ := hb
  have CA := Lib.hid hca
  have CB := Lib.hid hcb
  obtain ⟨n, hn⟩ : ∃ n, ss.length = n := ⟨_, rfl⟩
  have HN := Lib.hid hn
  rw [hn] at hl ⊢
  clear hca hcb hn
  go_enter Tryz.func33, Tryz.ntmps33
  go_wp2
  go_loopg [5] n (fun g i wr => ∃ j q : Nat, g = n - j ∧ j ≤ n ∧ i = .int .i64 j ∧ wr = w.drewN q)
  case atStart => exact ⟨0, 0, rfl, Nat.zero_le _, rfl, rfl⟩
  case round =>
    obtain ⟨j, q, rfl, hj, rfl, rfl⟩ := hrel
    by_cases hlt : j < n
    · obtain ⟨x, hx⟩ : ∃ x, ss[j]? = some x := ⟨ss[j]'(by rw [HN.out]; exact hlt), List.getElem?_eq_getElem _⟩
      obtain ⟨a, rfl, ca⟩ := CA.out j x hx
      obtain ⟨b, rfl, cb⟩ := CB.out j x hx
      clear hx
      go_wp2
      go_quiet (fail)
      go_wp2
      go_roundg (n - (j + 1))
      case measure => omega
      case rel => exact ⟨j + 1, _, rfl, by omega, by go_num, rfl⟩
    · go_wp2
      go_ret
      exact ⟨rfl, q, rfl⟩
set_option maxHeartbeats 1000000 in
theorem stays_any (B g cap : Nat) (vb : Value) (l : List Int) (w : World) (h : Lent w B g cap l) (hb : Reads w vb l) (hl : l.length ≤ 1000) :
    Calls Tryz.prog 47 #[.slice (some ⟨g, 0, none⟩) l.length cap, vb] w fun e w' => e = .returned (.bool true) ∧ ∃ q, w' = w.drewN q := by
  have C := Lib.hid (sameReads_any _ vb l w (Reads.of_owns h.owns) hb (by omega))
  have hcap := h.blk.2
  have k1 := (owns_at h (j := l.length) (by simp)).1
  simp only [List.getElem_append_right (Nat.le_refl _), Nat.sub_self, List.getElem_cons_zero] at k1
  obtain ⟨vo, vc, rfl, _⟩ := hb
  obtain ⟨n, hn⟩ : ∃ n, l.length = n := ⟨_, rfl⟩
  rw [hn] at C hl hcap k1 ⊢
  have K1 := Lib.hid k1
  have hc1 : (n : Int) + 1 ≤ (cap : Int) := by omega
  have hn0 : (0 : Int) ≤ (n : Int) := by omega
  clear hn h k1
  go_enter Tryz.func47, Tryz.ntmps47
  go_wp2_with fail
  refine C.out.mono ?_
  rintro e w1 ⟨rfl, q, rfl⟩
  clear C
  have k1 : (w.drewN q).cell? ⟨g, n, none⟩ = some (.int .i64 (-77)) := K1.out
  go_wp2
  go_ret
  exact ⟨rfl, q, rfl⟩
end Go.Proofs.YthnciokmomgfeaaGreatDoor
/- A book that keeps machines; machines that are lent, held against each other. -/
namespace Go.Proofs.YthnciokmomgfeaaGreatDoor.Mach
open Go.RowKit Book Mem
set_option linter.unusedVariables false
set_option linter.unusedSimpArgs false
/-- all boxes and rows but those of a book are as they were -/
def Spares (w w' : World) : Prop := ∀ (k : Nat) (cs : Array Value) (T : TypeId), T ≠ 22 → T ≠ 35 → w.heap[k]? = some (Obj.cells cs T (0, 0)) → w'.heap[k]? = some (Obj.cells cs T (0, 0))
theorem Spares.owns {w w' : World} (h : Spares w w') {B : Nat} {v : Value} {xs : List Value} (ho : Owns w B 3 v xs) : Owns w' B 3 v xs :=
  ho.same fun k hk => by
    obtain ⟨_, _, c, hc⟩ := ho.block k hk
    rw [hc]
    exact h k c _ (by decide) (by decide) hc
theorem Spares.trans {w w1 w2 : World} (h : Spares w w1) (g : Spares w1 w2) : Spares w w2 := fun k cs T h1 h2 hk => g k cs T h1 h2 (h k cs T h1 h2 hk)
theorem Spares.of_below {w w' : World} (h : Below w.heap.size w w') : Spares w w' := fun k cs T _ _ hk => (Stirred.of_below h []).whole hk List.not_mem_nil
/-- a list that came in, or a row of one's own -/
def L (W w : World) (B : Nat) (v : Value) (xs : List Int) : Prop := ReadsC W v xs ∨ Owns w B 3 v (vals xs)
theorem L.reads {W w : World} {B : Nat} {v : Value} {xs : List Int} (h : L W w B v xs) (hb : Below W.heap.size W w) : ReadsC w v xs := by
  rcases h with h | h
  · exact h.below hb
  · exact ReadsC.of_owns h
theorem L.below {W w w' : World} {B : Nat} {v : Value} {xs : List Int} (h : L W w B v xs) (hb : Below w.heap.size w w') : L W w' B v xs := by
  rcases h with h | h
  · exact .inl h
  · exact .inr (h.below hb)
theorem L.mono {W w w' : World} {B : Nat} {v : Value} {xs : List Int} (h : L W w B v xs) (ho : Spares w w') : L W w' B v xs := by
  rcases h with h | h
  · exact .inl h
  · exact .inr (ho.owns h)
/-- a machine of such lists -/
def LM (W w : World) (B : Nat) (v : Value) (m : M) : Prop := ∃ vs vb vm, v = stV m vs vb vm ∧ L W w B vs m.stack ∧ L W w B vb m.back ∧ L W w B vm m.mem
theorem LM.reads {W w : World} {B : Nat} {v : Value} {m : M} (h : LM W w B v m) (hb : Below W.heap.size W w) : ReadsM w v m := by
  obtain ⟨vs, vb, vm, e, h1, h2, h3⟩ := h
  exact ⟨vs, vb, vm, e, h1.reads hb, h2.reads hb, h3.reads hb⟩
theorem LM.below {W w w' : World} {B : Nat} {v : Value} {m : M} (h : LM W w B v m) (hb : Below w.heap.size w w') : LM W w' B v m := by
  obtain ⟨vs, vb, vm, e, h1, h2, h3⟩ := h
  exact ⟨vs, vb, vm, e, h1.below hb, h2.below hb, h3.below hb⟩
theorem LM.mono {W w w' : World} {B : Nat} {v : Value} {m : M} (h : LM W w B v m) (ho : Spares w w') : LM W w' B v m := by
  obtain ⟨vs, vb, vm, e, h1, h2, h3⟩ := h
  exact ⟨vs, vb, vm, e, h1.mono ho, h2.mono ho, h3.mono ho⟩
theorem LM.of_owns {W w : World} {B B' : Nat} {v : Value} {m : M} (h : OwnsM w B v m) (hB : B' ≤ B) : LM W w B' v m := by
  obtain ⟨vs, vb, vm, e, h1⟩ := h
  exact ⟨vs, vb, vm, e, .inr (h1.st.from hB), .inr (h1.bk.from hB), .inr (h1.me.from hB)⟩
theorem LM.of_reads {W : World} (B : Nat) {v : Value} {m : M} (h : ReadsM W v m) : LM W W B v m := by
  obtain ⟨vs, vb, vm, e, h1, h2, h3⟩ := h
  exact ⟨vs, vb, vm, e, .inl h1, .inl h2, .inl h3⟩
/-- what a call answers: a machine of such lists -/
def TellsL (W : World) (B : Nat) (m : M) (w : World) (e : Ending) (w' : World) : Prop := ∃ v, e = .returned v ∧ LM W w' B v m ∧ Below w.heap.size w w'
/-- a book that keeps lists of ints alone -/
def bookArr9 (vS vW : Value) : Array Value := #[.slice none 0 0, .slice none 0 0, vS, vW, .slice none 0 0, .slice none 0 0, .slice none 0 0, .slice none 0 0, .slice none 0 0, .slice none 0 0, .slice none 0 0, .slice none 0 0]
structure Bk (w : World) (pb : Nat) (vS vW : Value) (ls : List (Value × List Value)) : Prop where
  book : w.heap[pb]? = some (.cells (bookArr9 vS vW) 35 (0, 0))
  kept : Kept w (pb + 1) 22 3 goodInts vS vW ls []
theorem Bk.below {w w' : World} {pb : Nat} {vS vW : Value} {ls : List (Value × List Value)} (h : Bk w pb vS vW ls) (hb : Below w.heap.size w w') : Bk w' pb vS vW ls :=
  ⟨(Stirred.of_below hb []).whole h.book List.not_mem_nil, h.kept.below hb⟩
/-- what is done to a row of one's own that is none of the book's -/
theorem Bk.touch {w w' : World} {pb : Nat} {vS vW : Value} {ls : List (Value × List Value)} (h : Bk w pb vS vW ls) {bs : List Nat} (hs : Stirred w w' bs) (hp : pb ∉ bs) (hk : Kept w' (pb + 1) 22 3 goodInts vS vW ls []) : Bk w' pb vS vW ls :=
  ⟨hs.whole h.book hp, hk⟩
theorem Bk.row {w w' : World} {pb : Nat} {vS vW : Value} {ls : List (Value × List Value)} (h : Bk w pb vS vW ls) (hs : Stirred w w' (pb :: ((blk vS).toList ++ (blk vW).toList))) : Spares w w' := by
  intro k cs T h1 h2 hk
  refine hs.whole hk (fun hm => ?_)
  rcases List.mem_cons.1 hm with rfl | hm
  · rw [h.book] at hk
    simp only [Option.some.injEq, Obj.cells.injEq] at hk
    exact h2 hk.2.1.symm
  · obtain ⟨cs', _, hw, _⟩ := h.kept.was
    rcases List.mem_append.1 hm with hm | hm
    · obtain ⟨_, _, c, hc⟩ := h.kept.lists.spine.block k (by simpa using hm)
      rw [hc] at hk
      simp only [Option.some.injEq, Obj.cells.injEq] at hk
      exact h1 hk.2.1.symm
    · obtain ⟨_, _, c, hc⟩ := hw.block k (by simpa using hm)
      rw [hc] at hk
      simp only [Option.some.injEq, Obj.cells.injEq] at hk
      exact h1 hk.2.1.symm
theorem Bk.low {w w' : World} {pb : Nat} {vS vW : Value} {ls : List (Value × List Value)} (h : Bk w pb vS vW ls) (hs : Stirred w w' (pb :: ((blk vS).toList ++ (blk vW).toList))) : Below pb w w' := by
  refine hs.below (fun k hm => ?_) (Nat.le_of_lt (whole_lt h.book))
  rcases List.mem_cons.1 hm with rfl | hm
  · exact Nat.le_refl _
  · obtain ⟨cs', _, h2, _⟩ := h.kept.was
    rcases List.mem_append.1 hm with hm | hm
    · have := (h.kept.lists.spine.block k (by simpa using hm)).1; omega
    · have := (h2.block k (by simpa using hm)).1; omega
theorem Bk.empty {w : World} {pb : Nat} (h : w.heap[pb]? = some (.cells (bookArr9 (.slice none 0 0) (.slice none 0 0)) 35 (0, 0))) : Bk w pb (.slice none 0 0) (.slice none 0 0) [] :=
  ⟨h, Kept.nil _ _ _ _ _ _⟩
theorem Bk.add {w : World} {pb : Nat} {vS vW : Value} {ls : List (Value × List Value)} (h : Bk w pb vS vW ls) (hlt : ls.length < 250) {v : Value} {xs : List Int} {B : Nat} (ho : Owns w B 3 v (vals xs)) (hB : pb + 1 ≤ B) (hl : xs.length ≤ 10000) (hn : ∀ k, blk v = some k → k ∉ blocks ls) :
    Calls Tryz.prog 46 #[.pointer (some ⟨pb, 0, none⟩), v] w fun e w' => e = .returned (.tuple #[]) ∧ ∃ vS' vW', Bk w' pb vS' vW' (ls ++ [(v, vals xs)]) ∧ Below pb w w' ∧ Spares w w' := by
  have hsz := whole_lt h.book
  refine (bookInts_any pb (pb + 1) (bookArr9 vS vW) vS vW v ls (vals xs) w (Nat.lt_succ_self _) hsz hlt h.book rfl rfl [] (fun _ h => by cases h) h.kept (ho.from hB) ⟨xs, rfl, by omega⟩ hn (fun _ _ => List.not_mem_nil)).mono ?_
  rintro e w' ⟨rfl, vS', vW', h1, h2, h3⟩
  refine ⟨rfl, vS', vW', ⟨?_, h2⟩, h.low h3, h.row h3⟩
  rw [h1]
  rfl
end Go.Proofs.YthnciokmomgfeaaGreatDoor.Mach
/- The document's own machine (chapter 9): beginning a word; a fault. -/
namespace Go.Proofs.YthnciokmomgfeaaGreatDoor.Mach
open Go.RowKit Book Mem
set_option linter.unusedVariables false
set_option linter.unusedSimpArgs false
/-- what is written into a state's box leaves rows of numbers as they were -/
theorem own_box {w w' : World} {g B : Nat} {v : Value} {xs : List Value} {cs : Array Value} (h : Owns w B 3 v xs) (hs : Stirred w w' [g]) (hg : w.heap[g]? = some (.cells cs 24 (0, 0))) : Owns w' B 3 v xs :=
  h.touch hs (fun k hk hm => by
    rw [List.mem_singleton] at hm
    subst hm
    obtain ⟨_, _, c, hc⟩ := h.block k hk
    rw [hg] at hc
    simp only [Option.some.injEq, Obj.cells.injEq] at hc
    exact absurd hc.2.1 (by decide))
theorem L.box {W w w' : World} {g B : Nat} {v : Value} {xs : List Int} {cs : Array Value} (h : L W w B v xs) (hs : Stirred w w' [g]) (hg : w.heap[g]? = some (.cells cs 24 (0, 0))) : L W w' B v xs := by
  rcases h with h | h
  · exact .inl h
  · exact .inr (own_box h hs hg)
theorem L.one {W w : World} {B : Nat} {v : Value} {xs : List Int} (h : L W w B v xs) : v.oneCell' = true := by
  rcases h with h | h
  · obtain ⟨_, ao, c, e, _⟩ := h
    exact slice_one ⟨ao, c, e⟩
  · exact slice_one h.slice
/-- a box is written, another one is not -/
theorem box_other {w w' : World} {g r : Nat} {o : Obj} (hs : Stirred w w' [g]) (h : w.heap[r]? = some o) (hn : g < r ∨ r < g) : w'.heap[r]? = some o :=
  hs.whole h (fun hm => by rw [List.mem_singleton] at hm; omega)
set_option maxHeartbeats 4000000 in
set_option maxRecDepth 100000 in
theorem refEnter_any {W w : World} {B : Nat} {v : Value} {m : M} (h : LM W w B v m) (hB : B ≤ w.heap.size) (xt : Int) :
    Calls Tryz.prog 31 #[v, .int .i64 xt] w (TellsL W B { m with ip := xt, handler := 0, back := [0], status := 0, code := 0 } w) := by
  obtain ⟨vs, vb, vm, rfl, hs, hb, hm⟩ := h
  obtain ⟨i0, HI1, HI2, HI3, HI4⟩ := int_facts
  have HI := Lib.hid (And.intro HI1 (And.intro HI2 (And.intro HI3 HI4)))
  clear HI1 HI2 HI3 HI4
  obtain ⟨ip, hh, st, bk, me, ou, inn, rd, stt, cd⟩ := m
  simp only at hs hb hm ⊢
  obtain ⟨w1, w2, g, r, hw1, hw2, hg, hr, HG, HR, HB0, HZ, HW⟩ := two_boxes w (cells10 ip hh vs vb vm ou inn rd stt cd)
  have HB := Lib.hid (show Below w.heap.size w w2 by rw [HW.out]; exact HB0.out)
  have HLs := Lib.hid (hs.below HB.out)
  have HLb := Lib.hid (hb.below HB.out)
  have HLm := Lib.hid (hm.below HB.out)
  have HBB := Lib.hid hB
  clear hs hb hm HB0 hB
  go_enter Tryz.func31, Tryz.ntmps31
  go_upto_region 1 with fail
  clear hw1 hw2 hg hr
  go_wp2_with (first
    | (refine wpList_lit (by rfl) _ _ 1 _ rfl [0] i0 Tryz.underlying22 HI.out.1 HI.out.2.1 HI.out.2.2.1 (by decide) (by decide) rfl rfl ?_; intro gl wn hgl hol hbl; have HOL := Lib.hid hol; have HG := Lib.hid ((Stirred.of_below hbl []).whole HG.out List.not_mem_nil); have HR := Lib.hid ((Stirred.of_below hbl []).whole HR.out List.not_mem_nil); have HLs := Lib.hid (HLs.out.below hbl); have HLb := Lib.hid (HLb.out.below hbl); have HLm := Lib.hid (HLm.out.below hbl); have HLN := Lib.hid (show L W wn B (.slice (some ⟨gl, 0, none⟩) 1 1) [0] from .inr (Owns.from hol (Nat.le_trans HBB.out HB.out.size))); have HB := Lib.hid (HB.out.trans (hbl.mono HB.out.size)); clear hgl hol hbl)
    | (refine st_int (by rfl) _ _ rfl g 0 rfl (.int .i64 xt) rfl rfl _ _ HG.out (by show 0 < 10; decide) ?_; intro wn hg ht; have HR := Lib.hid (box_other ht HR.out (.inl HZ.out)); have HLs := Lib.hid (HLs.out.box ht HG.out); have HLb := Lib.hid (HLb.out.box ht HG.out); have HLm := Lib.hid (HLm.out.box ht HG.out); (try have HLN := Lib.hid (HLN.out.box ht HG.out)); have HB := Lib.hid (HB.out.trans (ht.below (fun k h => by rw [List.mem_singleton.1 h]; exact Nat.le_of_eq HW.out) (by have := whole_lt HG.out; have := HW.out; omega))); have HG := Lib.hid hg; clear hg ht)
    | (refine st_int (by rfl) _ _ rfl g 1 rfl (.int .i64 0) rfl rfl _ _ HG.out (by show 1 < 10; decide) ?_; intro wn hg ht; have HR := Lib.hid (box_other ht HR.out (.inl HZ.out)); have HLs := Lib.hid (HLs.out.box ht HG.out); have HLb := Lib.hid (HLb.out.box ht HG.out); have HLm := Lib.hid (HLm.out.box ht HG.out); (try have HLN := Lib.hid (HLN.out.box ht HG.out)); have HB := Lib.hid (HB.out.trans (ht.below (fun k h => by rw [List.mem_singleton.1 h]; exact Nat.le_of_eq HW.out) (by have := whole_lt HG.out; have := HW.out; omega))); have HG := Lib.hid hg; clear hg ht)
    | (refine st_ints (by rfl) _ _ rfl g 3 rfl (.slice (some ⟨gl, 0, none⟩) 1 1) rfl rfl _ _ HG.out (by show 3 < 10; decide) ?_; intro wn hg ht; have HR := Lib.hid (box_other ht HR.out (.inl HZ.out)); have HLs := Lib.hid (HLs.out.box ht HG.out); have HLb := Lib.hid (HLb.out.box ht HG.out); have HLm := Lib.hid (HLm.out.box ht HG.out); (try have HLN := Lib.hid (HLN.out.box ht HG.out)); have HB := Lib.hid (HB.out.trans (ht.below (fun k h => by rw [List.mem_singleton.1 h]; exact Nat.le_of_eq HW.out) (by have := whole_lt HG.out; have := HW.out; omega))); have HG := Lib.hid hg; clear hg ht)
    | (refine st_int (by rfl) _ _ rfl g 8 rfl (.int .i64 0) rfl rfl _ _ HG.out (by show 8 < 10; decide) ?_; intro wn hg ht; have HR := Lib.hid (box_other ht HR.out (.inl HZ.out)); have HLs := Lib.hid (HLs.out.box ht HG.out); have HLb := Lib.hid (HLb.out.box ht HG.out); have HLm := Lib.hid (HLm.out.box ht HG.out); (try have HLN := Lib.hid (HLN.out.box ht HG.out)); have HB := Lib.hid (HB.out.trans (ht.below (fun k h => by rw [List.mem_singleton.1 h]; exact Nat.le_of_eq HW.out) (by have := whole_lt HG.out; have := HW.out; omega))); have HG := Lib.hid hg; clear hg ht)
    | (refine st_int (by rfl) _ _ rfl g 9 rfl (.int .i64 0) rfl rfl _ _ HG.out (by show 9 < 10; decide) ?_; intro wn hg ht; have HR := Lib.hid (box_other ht HR.out (.inl HZ.out)); have HLs := Lib.hid (HLs.out.box ht HG.out); have HLb := Lib.hid (HLb.out.box ht HG.out); have HLm := Lib.hid (HLm.out.box ht HG.out); (try have HLN := Lib.hid (HLN.out.box ht HG.out)); have HB := Lib.hid (HB.out.trans (ht.below (fun k h => by rw [List.mem_singleton.1 h]; exact Nat.le_of_eq HW.out) (by have := whole_lt HG.out; have := HW.out; omega))); have HG := Lib.hid hg; clear hg ht)
    | (refine ld_state (by rfl) _ rfl _ rfl _ _ HG.out rfl ?_)
    | (refine st_state (by rfl) _ _ rfl r _ rfl rfl _ _ HR.out rfl rfl (all_one HLs.out.one (by rfl) HLm.out.one) ?_; intro wf hr ht; have HLs := Lib.hid (HLs.out.box ht HR.out); have HLN := Lib.hid (HLN.out.box ht HR.out); have HLm := Lib.hid (HLm.out.box ht HR.out); have HRF := Lib.hid hr; have HB := Lib.hid (HB.out.trans (ht.below (fun k h => by rw [List.mem_singleton.1 h]; have := HW.out; have := HZ.out; omega) (by have := whole_lt HG.out; have := HW.out; omega))); clear hr ht))
  refine bodyPost_ret (results_cell_row rfl _ _ r _ _ _ _ rfl HRF.out Tryz.underlying24 rfl state_size) rfl ?_
  exact ⟨_, rfl, ⟨vs, .slice (some ⟨gl, 0, none⟩) 1 1, vm, rfl, HLs.out, HLN.out, HLm.out⟩, HB.out⟩
end Go.Proofs.YthnciokmomgfeaaGreatDoor.Mach
/- Package inner: beginning a word; a fault; a step. -/
namespace Go.Proofs.YthnciokmomgfeaaGreatDoor.Inn
open Go.RowKit Book Mem Mach
set_option linter.unusedVariables false
set_option linter.unusedSimpArgs false
theorem OwnsL.box {w w' : World} {B g : Nat} {vs vb vm : Value} {m : M} {cs : Array Value} (h : OwnsL w B vs vb vm m) (hs : Stirred w w' [g]) (hg : w.heap[g]? = some (.cells cs 24 (0, 0))) : OwnsL w' B vs vb vm m :=
  ⟨own_box h.st hs hg, own_box h.bk hs hg, own_box h.me hs hg, h.sb, h.bm⟩
theorem box_lt {w : World} {g B : Nat} {o : Obj} (h : w.heap[g]? = some o) (hB : B ≤ g) : B ≤ w.heap.size := Nat.le_of_lt (Nat.lt_of_le_of_lt hB (whole_lt h))
/-- what is known while a state's box is written: it, another one, lists of one's own -/
structure BX (w : World) (g r : Nat) (cs : Array Value) (v1 v2 v3 vl : Value) (m : M) (xl : List Int) (wc : World) : Prop where
  hb : Below w.heap.size w wc
  hg : wc.heap[g]? = some (.cells cs 24 (0, 0))
  hr : wc.heap[r]? = some (.cells zero10 24 (0, 0))
  own : OwnsL wc w.heap.size v1 v2 v3 m
  lst : Owns wc w.heap.size 3 vl (vals xl)
  dl : ∀ k, blk vl = some k → blk v1 ≠ some k ∧ blk v3 ≠ some k
theorem BX.set {w wc : World} {g r : Nat} {cs : Array Value} {v1 v2 v3 vl : Value} {m : M} {xl : List Int} (h : BX w g r cs v1 v2 v3 vl m xl wc) (hw : w.heap.size ≤ g) (hn : g ≠ r) (j : Nat) (v : Value) : BX w g r (cs.setIfInBounds j v) v1 v2 v3 vl m xl (wc.setCell ⟨g, j, none⟩ v) :=
  have ht := Stirred.setCell wc ⟨g, j, none⟩ v
  ⟨h.hb.trans (ht.below (fun k hk => by rw [List.mem_singleton.1 hk]; exact hw) h.hb.size), whole_set h.hg j v, ht.whole h.hr (by rw [List.mem_singleton]; exact Ne.symm hn), OwnsL.box h.own ht h.hg, own_box h.lst ht h.hg, h.dl⟩
set_option maxHeartbeats 16000000 in
set_option maxRecDepth 100000 in
theorem innEnter_any {w : World} {v : Value} {m : M} (h : ReadsM w v m) (h1 : m.stack.length ≤ 10000) (h2 : m.back.length ≤ 10000) (h3 : m.mem.length ≤ 10000) (xt : Int) :
    Calls Tryz.prog 29 #[v, .int .i64 xt] w (GivesM { m with ip := xt, handler := 0, back := [0], status := 0, code := 0 } w) := by
  have HV := Lib.hid h
  obtain ⟨vs, vb, vm, rfl, -, -, -⟩ := h
  obtain ⟨w1, w2, g, r, hw1, hw2, hg, hr, HG, HR, HB0, HZ, HW⟩ := two_boxes w (cells10 m.ip m.handler vs vb vm m.out m.inp m.read m.status m.code)
  have HBW := Lib.hid (show Below w.heap.size w w2 by have := HB0.out; rw [← HW.out] at this; exact this)
  have C := Lib.hid (innCopy_any (HV.out.below HBW.out) h1 h2 h3)
  clear h1 h2 h3
  go_enter Tryz.func29, Tryz.ntmps29
  go_upto_region 1 with fail
  clear hw1 hw2 hg hr
  go_wp2_with (refine ld_state (by rfl) _ rfl _ rfl _ _ HG.out rfl ?_)
  refine C.out.mono ?_
  rintro e w3 ⟨v, rfl, ⟨v1, v2, v3, rfl, ho⟩, hb⟩
  have HG3 := Lib.hid ((Stirred.of_below hb []).whole HG.out List.not_mem_nil)
  have HR3 := Lib.hid ((Stirred.of_below hb []).whole HR.out List.not_mem_nil)
  have HO3 := Lib.hid (⟨ho.st.from HBW.out.size, ho.bk.from HBW.out.size, ho.me.from HBW.out.size, ho.sb, ho.bm⟩ : OwnsL w3 w.heap.size v1 v2 v3 m)
  have HB3 := Lib.hid (HBW.out.trans (hb.mono HBW.out.size))
  clear ho hb C
  go_upto_region 2 with (refine st_state (by rfl) _ _ rfl g _ rfl rfl _ _ HG3.out rfl rfl (all_one (slice_one HO3.out.st.slice) (slice_one HO3.out.bk.slice) (slice_one HO3.out.me.slice)) ?_; intro w4 hg4 ht4; have HG4 := Lib.hid hg4; have HT4 := Lib.hid ht4; clear hg4 ht4)
  dsimp only [Act.put]
  have HO4 := Lib.hid (OwnsL.box HO3.out HT4.out HG3.out)
  have HR4 := Lib.hid (HT4.out.whole HR3.out (by have := HZ.out; rw [List.mem_singleton]; omega))
  have HB4 := Lib.hid (HB3.out.trans (HT4.out.below (fun k hk => by rw [List.mem_singleton.1 hk]; exact Nat.le_of_eq HW.out) HB3.out.size))
  obtain ⟨w5, gl, hw5, hgl, HRW, HB5, HGL⟩ := row_box w4 [(0 : Int)]
  change w4.alloc (.cells #[.int .i64 0] 3) = w5 at hw5
  have HX := Lib.hid (show BX w g r (cells10 m.ip m.handler v1 v2 v3 m.out m.inp m.read m.status m.code) v1 v2 v3 (.slice (some ⟨gl, 0, none⟩) 1 1) m [0] w5 from
    ⟨HB4.out.trans (HB5.out.mono HB4.out.size), (Stirred.of_below HB5.out []).whole HG4.out List.not_mem_nil, (Stirred.of_below HB5.out []).whole HR4.out List.not_mem_nil, HO4.out.below HB5.out,
      .inr ⟨gl, 1, (vals [0]).toArray, rfl, by decide, by have := HB4.out.size; have := HGL.out; omega, HRW.out.1, by decide, by unfold maxLen; decide, by simp, by simp⟩,
      fun k hk => by
        obtain rfl : gl = k := by simpa [blk] using hk
        exact ⟨fun e => by have := (HO4.out.st.block gl e).2.1; have := HGL.out; omega, fun e => by have := (HO4.out.me.block gl e).2.1; have := HGL.out; omega⟩⟩)
  have hgr : g ≠ r := by have := HZ.out; omega
  have X1 := HX.out.set (Nat.le_of_eq HW.out) hgr 0 (.int .i64 xt)
  have X2 := X1.set (Nat.le_of_eq HW.out) hgr 1 (.int .i64 0)
  have X3 := X2.set (Nat.le_of_eq HW.out) hgr 3 (.slice (some ⟨gl, 0, none⟩) 1 1)
  have X4 := X3.set (Nat.le_of_eq HW.out) hgr 8 (.int .i64 0)
  have X5 := Lib.hid (X4.set (Nat.le_of_eq HW.out) hgr 9 (.int .i64 0))
  have k0 : w5.cell? ⟨g, 0, none⟩ = some (.int .i64 m.ip) := whole_cell HX.out.hg rfl
  have k1 : w5.cell? ⟨g, 1, none⟩ = some (.int .i64 m.handler) := whole_cell HX.out.hg rfl
  have k3 : w5.cell? ⟨g, 3, none⟩ = some v2 := whole_cell HX.out.hg rfl
  have k8 : w5.cell? ⟨g, 8, none⟩ = some (.int .i64 m.status) := whole_cell HX.out.hg rfl
  have k9 : w5.cell? ⟨g, 9, none⟩ = some (.int .i64 m.code) := whole_cell HX.out.hg rfl
  have f0 : w5.frozen? ⟨g, 0, none⟩ = false := whole_frozen HX.out.hg 0
  have f1 : w5.frozen? ⟨g, 1, none⟩ = false := whole_frozen HX.out.hg 1
  have f3 : w5.frozen? ⟨g, 3, none⟩ = false := whole_frozen HX.out.hg 3
  have f8 : w5.frozen? ⟨g, 8, none⟩ = false := whole_frozen HX.out.hg 8
  have f9 : w5.frozen? ⟨g, 9, none⟩ = false := whole_frozen HX.out.hg 9
  clear X1 X2 X3 X4
  go_upto_region 4 with fail
  clear k0 k1 k3 k8 k9 f0 f1 f3 f8 f9 hw5 hgl
  go_wp2_with (first
    | (refine ld_state (by rfl) _ rfl _ rfl _ _ X5.out.hg rfl ?_)
    | (refine st_state (by rfl) _ _ rfl r _ rfl rfl _ _ X5.out.hr rfl rfl (all_one (slice_one X5.out.own.st.slice) rfl (slice_one X5.out.own.me.slice)) ?_; intro wf hrf htf; have HRF := Lib.hid hrf; have HTF := Lib.hid htf; clear hrf htf))
  refine bodyPost_ret (results_cell_row rfl _ _ r _ _ _ _ rfl HRF.out Tryz.underlying24 rfl state_size) rfl ?_
  have hO := OwnsL.box X5.out.own HTF.out X5.out.hr
  have hL := own_box X5.out.lst HTF.out X5.out.hr
  refine ⟨_, rfl, ⟨v1, .slice (some ⟨gl, 0, none⟩) 1 1, v3, rfl, ⟨hO.st, hL, hO.me, fun k e => ⟨fun e2 => (X5.out.dl k e2).1 e, (hO.sb k e).2⟩, fun k e => (X5.out.dl k e).2⟩⟩, X5.out.hb.trans (HTF.out.below (fun k hk => by rw [List.mem_singleton.1 hk]; have h1 := HW.out; have h2 := HZ.out; omega) X5.out.hb.size)⟩
set_option maxHeartbeats 16000000 in
set_option maxRecDepth 100000 in
theorem innStep_any {w : World} {v : Value} {m : M} (h : ReadsM w v m) (hr : Right m) (hc : Cells m) (hin : m.inp.size ≤ maxLen) (hE : ∀ wc, Below w.heap.size w wc → Tabs wc) :
    Calls Tryz.prog 16 #[v] w (GivesM (Mach.step m) w) := by
  have HV := Lib.hid h
  obtain ⟨vs, vb, vm, rfl, -, -, -⟩ := h
  obtain ⟨w1, w2, g, r, hw1, hw2, hg, hr', HG, HR, HB0, HZ, HW⟩ := two_boxes w (cells10 m.ip m.handler vs vb vm m.out m.inp m.read m.status m.code)
  have HBW := Lib.hid (show Below w.heap.size w w2 by have := HB0.out; rw [← HW.out] at this; exact this)
  have C := Lib.hid (innRun_nat (HV.out.below HBW.out) hr hc hin (fun wc hb => hE wc (HBW.out.trans (hb.mono HBW.out.size))) 1 (by decide))
  have hst : (Mach.run 1 m).1 = Mach.step m := by
    by_cases h0 : m.status = 0
    · rw [run_go h0]; rfl
    · rw [run_still h0]; unfold Mach.step; rw [if_pos h0]
  rw [runI_nat, hst] at C
  clear hr hc hin hE hst
  go_enter Tryz.func16, Tryz.ntmps16
  go_upto_region 1 with fail
  clear hw1 hw2 hg hr'
  go_wp2_with (refine ld_state (by rfl) _ rfl _ rfl _ _ HG.out rfl ?_)
  refine C.out.mono ?_
  rintro e w3 ⟨v, rfl, ⟨v1, v2, v3, rfl, ho⟩, hb⟩
  have HG3 := Lib.hid ((Stirred.of_below hb []).whole HG.out List.not_mem_nil)
  have HR3 := Lib.hid ((Stirred.of_below hb []).whole HR.out List.not_mem_nil)
  have HO3 := Lib.hid (⟨ho.st.from HBW.out.size, ho.bk.from HBW.out.size, ho.me.from HBW.out.size, ho.sb, ho.bm⟩ : OwnsL w3 w.heap.size v1 v2 v3 (Mach.step m))
  have HB3 := Lib.hid (HBW.out.trans (hb.mono HBW.out.size))
  generalize Mach.step m = m1 at *
  clear ho hb C
  go_upto_region 2 with (refine st_state (by rfl) _ _ rfl g _ rfl rfl _ _ HG3.out rfl rfl (all_one (slice_one HO3.out.st.slice) (slice_one HO3.out.bk.slice) (slice_one HO3.out.me.slice)) ?_; intro w4 hg4 ht4; have HG4 := Lib.hid hg4; have HT4 := Lib.hid ht4; clear hg4 ht4)
  dsimp only [Act.put]
  have HO4 := Lib.hid (OwnsL.box HO3.out HT4.out HG3.out)
  have HR4 := Lib.hid (HT4.out.whole HR3.out (by have := HZ.out; rw [List.mem_singleton]; omega))
  have HB4 := Lib.hid (HB3.out.trans (HT4.out.below (fun k hk => by rw [List.mem_singleton.1 hk]; exact Nat.le_of_eq HW.out) HB3.out.size))
  go_wp2_with (first
    | (refine ld_state (by rfl) _ rfl _ rfl _ _ HG4.out rfl ?_)
    | (refine st_state (by rfl) _ _ rfl r _ rfl rfl _ _ HR4.out rfl rfl (all_one (slice_one HO4.out.st.slice) (slice_one HO4.out.bk.slice) (slice_one HO4.out.me.slice)) ?_; intro wf hrf htf; have HRF := Lib.hid hrf; have HTF := Lib.hid htf; clear hrf htf))
  refine bodyPost_ret (results_cell_row rfl _ _ r _ _ _ _ rfl HRF.out Tryz.underlying24 rfl state_size) rfl ?_
  exact ⟨_, rfl, ⟨v1, v2, v3, rfl, OwnsL.box HO4.out HTF.out HR4.out⟩, HB4.out.trans (HTF.out.below (fun k hk => by rw [List.mem_singleton.1 hk]; have h1 := HW.out; have h2 := HZ.out; omega) HB4.out.size)⟩
end Go.Proofs.YthnciokmomgfeaaGreatDoor.Inn
