/- The document's own machine (chapter 9): copying, beginning a word. -/
import Derived.Test.YtcffbeihgchpgaaGreatDoorG3
import Derived.Laws.ResultCell
import Derived.Deep.DeepCutAuto
import Derived.Deep.RegionLaw
import Derived.Deep.AppendLies
import Derived.Deep.DrawnRows
import Derived.Test.YtcffbeihgchpgaaGreatDoorG2
import Derived.Deep.RegionWith
import Derived.Deep.QuietTactic
import Derived.BigQuiet
import Derived.Test.YtcffbeihgchpgaaGreatDoorRows
import Derived.WalkKit
import Derived.WalkSpells
import Derived.WalkLawsBesides
import Derived.Lib.Hide
namespace Go.Proofs.YtcffbeihgchpgaaGreatDoor.Mach
open Go.RowKit Book Mem
set_option linter.unusedVariables false
set_option linter.unusedSimpArgs false
/-- the int type's facts, in one -/
theorem int_facts : ∃ i0 : TypeInfo, Tryz.prog.info? 3 = some i0 ∧ i0.zero = some (.int .i64 0) ∧ i0.size = 1 ∧ i0.bytes = 8 := by
  obtain ⟨i0, q1, q2, q3, q4⟩ := info_parts Tryz.bkIntInfo
  exact ⟨i0, q1, q2, q3, q4⟩
/-- what is known of the blocks of two lists: none is another one's -/
def offB (v : Value) (k : Nat) : Prop := blk v ≠ some k
theorem blk_new {w : World} {v : Value} (h : blk v = blk (.slice none 0 0) ∨ ∃ k, blk v = some k ∧ w.heap.size ≤ k) : ∀ k, blk v = some k → w.heap.size ≤ k := by
  intro k hk
  rcases h with e | ⟨k', e, h⟩
  · rw [e] at hk; cases hk
  · rw [e] at hk
    simp at hk
    omega
theorem slice_one {v : Value} {n : Nat} (h : ∃ ao c, v = .slice ao n c) : v.oneCell' = true := by
  obtain ⟨ao, c, rfl⟩ := h
  rfl
theorem all_one {ip hh : Int} {vs vb vm : Value} {ou inn : ByteArray} {rd stt cd : Int} (h1 : vs.oneCell' = true) (h2 : vb.oneCell' = true) (h3 : vm.oneCell' = true) : (cells10 ip hh vs vb vm ou inn rd stt cd).all (·.oneCell') = true := by
  simp [cells10, h1, h2, h3, show ∀ k n, (Value.int k n).oneCell' = true from fun _ _ => rfl, show ∀ s, (Value.string s).oneCell' = true from fun _ => rfl]
set_option maxHeartbeats 4000000 in
set_option maxRecDepth 100000 in
theorem refCopy_any {w : World} {v : Value} {m : M} (h : ReadsM w v m) (h1 : m.stack.length ≤ 10000) (h2 : m.back.length ≤ 10000) (h3 : m.mem.length ≤ 10000) :
    Calls Tryz.prog 30 #[v] w (GivesM m w) := by
  obtain ⟨vs, vb, vm, rfl, hs, hb, hm⟩ := h
  obtain ⟨i0, HI1, HI2, HI3, HI4⟩ := int_facts
  have HI := Lib.hid (And.intro HI1 (And.intro HI2 (And.intro HI3 HI4)))
  clear HI1 HI2 HI3 HI4
  obtain ⟨ip, hh, st, bk, me, ou, inn, rd, stt, cd⟩ := m
  simp only at hs hb hm h1 h2 h3 ⊢
  have H1 := Lib.hid h1
  have H2 := Lib.hid h2
  have H3 := Lib.hid h3
  obtain ⟨w1, w2, g, r, hw1, hw2, hg, hr, HG, HR, HB, HZ, HW⟩ := two_boxes w (cells10 ip hh vs vb vm ou inn rd stt cd)
  have HS := Lib.hid hs
  have HK := Lib.hid hb
  have HM := Lib.hid hm
  have HLT := Lib.hid (And.intro (whole_lt HG.out) (whole_lt HR.out))
  have HL := Lib.hid (whole_lt HR.out)
  clear hs hb hm h1 h2 h3
  go_enter Tryz.func30, Tryz.ntmps30
  go_upto_region 1 with fail
  clear hw1 hw2 hg hr
  go_wp2_with (first
    | (refine ld_ints (by rfl) _ rfl _ rfl _ (whole_cell HG.out rfl) ?_)
    | (refine ld_state (by rfl) _ rfl _ rfl _ _ HG.out rfl ?_)
    | (refine wpList_append_reads _ rfl _ _ 22 rfl g 3 i0 (.int .i64 0) 8 Tryz.underlying22 HI.out.1 HI.out.2.1 HI.out.2.2.1 HI.out.2.2.2 rfl (.slice none 0 0) [] rfl (Owns.nil _ _ _) vs st rfl (HS.out.1.below (by rw [HW.out]; exact HB.out)) (by have := H1.out; unfold maxLen; simp; omega) (by have := H1.out; simp; omega) (Nat.le_of_lt (whole_lt HG.out)) ?_; intro v1 wn ho _ ht hn; have HN1 := Lib.hid (fun k hk => Nat.lt_of_lt_of_le HL.out (blk_new hn k hk) : ∀ k, blk v1 = some k → r < k); have HO1 := Lib.hid (show Owns wn g 3 v1 (vals st) from ho); have HB := Lib.hid (HB.out.trans (ht.below (fun _ h => by cases h) (Nat.le_of_lt (whole_lt HG.out)))); have HL := Lib.hid (Nat.lt_of_lt_of_le HL.out ht.size); have HG := Lib.hid (ht.whole HG.out List.not_mem_nil); have HR := Lib.hid (ht.whole HR.out List.not_mem_nil); have HV1 := Lib.hid (slice_one HO1.out.slice); clear ho ht hn)
    | (refine wpList_append_reads _ rfl _ _ 22 rfl g 3 i0 (.int .i64 0) 8 Tryz.underlying22 HI.out.1 HI.out.2.1 HI.out.2.2.1 HI.out.2.2.2 rfl (.slice none 0 0) [] rfl (Owns.nil _ _ _) vb bk rfl (HK.out.1.below (by rw [HW.out]; exact HB.out)) (by have := H2.out; unfold maxLen; simp; omega) (by have := H2.out; simp; omega) (Nat.le_of_lt (whole_lt HG.out)) ?_; intro v2 wn ho _ ht hn; have HN2 := Lib.hid (fun k hk => Nat.lt_of_lt_of_le HL.out (blk_new hn k hk) : ∀ k, blk v2 = some k → r < k); have HD21 := Lib.hid (fun k hk e => by have h9 := (HO1.out.block k e).2.1; have h8 := blk_new hn k hk; omega : ∀ k, blk v2 = some k → blk v1 ≠ some k); have HO1 := Lib.hid (HO1.out.touch ht (fun _ _ => List.not_mem_nil)); have HO2 := Lib.hid (show Owns wn g 3 v2 (vals bk) from ho); have HB := Lib.hid (HB.out.trans (ht.below (fun _ h => by cases h) (Nat.le_of_lt (whole_lt HG.out)))); have HL := Lib.hid (Nat.lt_of_lt_of_le HL.out ht.size); have HG := Lib.hid (ht.whole HG.out List.not_mem_nil); have HR := Lib.hid (ht.whole HR.out List.not_mem_nil); have HV2 := Lib.hid (slice_one HO2.out.slice); clear ho ht hn)
    | (refine wpList_append_reads _ rfl _ _ 22 rfl g 3 i0 (.int .i64 0) 8 Tryz.underlying22 HI.out.1 HI.out.2.1 HI.out.2.2.1 HI.out.2.2.2 rfl (.slice none 0 0) [] rfl (Owns.nil _ _ _) vm me rfl (HM.out.1.below (by rw [HW.out]; exact HB.out)) (by have := H3.out; unfold maxLen; simp; omega) (by have := H3.out; simp; omega) (Nat.le_of_lt (whole_lt HG.out)) ?_; intro v3 wn ho _ ht hn; have HN3 := Lib.hid (fun k hk => Nat.lt_of_lt_of_le HL.out (blk_new hn k hk) : ∀ k, blk v3 = some k → r < k); have HD31 := Lib.hid (fun k hk e => by have h9 := (HO1.out.block k e).2.1; have h8 := blk_new hn k hk; omega : ∀ k, blk v3 = some k → blk v1 ≠ some k); have HD32 := Lib.hid (fun k hk e => by have h9 := (HO2.out.block k e).2.1; have h8 := blk_new hn k hk; omega : ∀ k, blk v3 = some k → blk v2 ≠ some k); have HO1 := Lib.hid (HO1.out.touch ht (fun _ _ => List.not_mem_nil)); have HO2 := Lib.hid (HO2.out.touch ht (fun _ _ => List.not_mem_nil)); have HO3 := Lib.hid (show Owns wn g 3 v3 (vals me) from ho); have HB := Lib.hid (HB.out.trans (ht.below (fun _ h => by cases h) (Nat.le_of_lt (whole_lt HG.out)))); have HL := Lib.hid (Nat.lt_of_lt_of_le HL.out ht.size); have HG := Lib.hid (ht.whole HG.out List.not_mem_nil); have HR := Lib.hid (ht.whole HR.out List.not_mem_nil); have HV3 := Lib.hid (slice_one HO3.out.slice); clear ho ht hn)
    | (refine st_ints (by rfl) _ _ rfl g 2 rfl v1 rfl HV1.out _ _ HG.out (by show 2 < 10; decide) ?_; intro wn hg ht; have HO1 := Lib.hid (HO1.out.touch ht (fun k hk hm => by have h9 := HN1.out k hk; have h8 := HZ.out; rw [List.mem_singleton.1 hm] at h9; omega)); have HB := Lib.hid (HB.out.trans (ht.below (fun _ h => by rw [List.mem_singleton.1 h]; exact Nat.le_refl _) (Nat.le_of_lt (whole_lt HG.out)))); have HL := Lib.hid (Nat.lt_of_lt_of_le HL.out ht.size); have HR := Lib.hid (ht.whole HR.out (fun h => by have := HZ.out; rw [List.mem_singleton.1 h] at this; omega)); have HG := Lib.hid hg; clear hg ht)
    | (refine st_ints (by rfl) _ _ rfl g 3 rfl v2 rfl HV2.out _ _ HG.out (by show 3 < 10; decide) ?_; intro wn hg ht; have HO1 := Lib.hid (HO1.out.touch ht (fun k hk hm => by have h9 := HN1.out k hk; have h8 := HZ.out; rw [List.mem_singleton.1 hm] at h9; omega)); have HO2 := Lib.hid (HO2.out.touch ht (fun k hk hm => by have h9 := HN2.out k hk; have h8 := HZ.out; rw [List.mem_singleton.1 hm] at h9; omega)); have HB := Lib.hid (HB.out.trans (ht.below (fun _ h => by rw [List.mem_singleton.1 h]; exact Nat.le_refl _) (Nat.le_of_lt (whole_lt HG.out)))); have HL := Lib.hid (Nat.lt_of_lt_of_le HL.out ht.size); have HR := Lib.hid (ht.whole HR.out (fun h => by have := HZ.out; rw [List.mem_singleton.1 h] at this; omega)); have HG := Lib.hid hg; clear hg ht)
    | (refine st_ints (by rfl) _ _ rfl g 4 rfl v3 rfl HV3.out _ _ HG.out (by show 4 < 10; decide) ?_; intro wn hg ht; have HO1 := Lib.hid (HO1.out.touch ht (fun k hk hm => by have h9 := HN1.out k hk; have h8 := HZ.out; rw [List.mem_singleton.1 hm] at h9; omega)); have HO2 := Lib.hid (HO2.out.touch ht (fun k hk hm => by have h9 := HN2.out k hk; have h8 := HZ.out; rw [List.mem_singleton.1 hm] at h9; omega)); have HO3 := Lib.hid (HO3.out.touch ht (fun k hk hm => by have h9 := HN3.out k hk; have h8 := HZ.out; rw [List.mem_singleton.1 hm] at h9; omega)); have HB := Lib.hid (HB.out.trans (ht.below (fun _ h => by rw [List.mem_singleton.1 h]; exact Nat.le_refl _) (Nat.le_of_lt (whole_lt HG.out)))); have HL := Lib.hid (Nat.lt_of_lt_of_le HL.out ht.size); have HR := Lib.hid (ht.whole HR.out (fun h => by have := HZ.out; rw [List.mem_singleton.1 h] at this; omega)); have HG := Lib.hid hg; clear hg ht)
    | (refine st_state (by rfl) _ _ rfl r _ rfl rfl _ _ HR.out rfl rfl (all_one HV1.out HV2.out HV3.out) ?_; intro wn hr ht; have HO1 := Lib.hid (HO1.out.touch ht (fun k hk hm => by have h9 := HN1.out k hk; rw [List.mem_singleton.1 hm] at h9; omega)); have HO2 := Lib.hid (HO2.out.touch ht (fun k hk hm => by have h9 := HN2.out k hk; rw [List.mem_singleton.1 hm] at h9; omega)); have HO3 := Lib.hid (HO3.out.touch ht (fun k hk hm => by have h9 := HN3.out k hk; rw [List.mem_singleton.1 hm] at h9; omega)); have HB := Lib.hid (HB.out.trans (ht.below (fun _ h => by rw [List.mem_singleton.1 h]; exact Nat.le_of_lt HZ.out) (Nat.le_of_lt (whole_lt HG.out)))); have HR := Lib.hid hr; clear hr ht))
  refine bodyPost_ret (results_cell_row rfl _ _ r _ _ _ _ rfl HR.out Tryz.underlying24 rfl state_size) rfl ?_
  refine ⟨_, rfl, ⟨v1, v2, v3, rfl, ?_⟩, by rw [HW.out]; exact HB.out⟩
  rw [HW.out]
  exact ⟨HO1.out, HO2.out, HO3.out, fun k hk => ⟨fun e => HD21.out k e hk, fun e => HD31.out k e hk⟩, fun k hk e => HD32.out k e hk⟩
theorem refCopy_ends : True := trivial
end Go.Proofs.YtcffbeihgchpgaaGreatDoor.Mach
/- One list of texts more. -/
namespace Go.Proofs.YtcffbeihgchpgaaGreatDoor
open Go.RowKit Book
set_option linter.unusedSimpArgs false
set_option linter.unusedVariables false
set_option maxHeartbeats 1000000 in
theorem copyInts_any (v : Value) (B : Nat) (xs : List Value) (w : World) (h : Owns w B 3 v xs) (h1 : ∀ u ∈ xs, u.oneCell' = true) (hl : xs.length ≤ 1000000) :
    Calls Tryz.prog 49 #[v] w fun e w' => ∃ c, e = .returned c ∧ Owns w' w.heap.size 3 c xs ∧ Below w.heap.size w w' := by
  obtain ⟨i0, q1, q2, q3, q4⟩ := info_parts Tryz.bkIntInfo
  have HI := Lib.hid (And.intro q1 (And.intro q2 (And.intro q3 q4)))
  have HO := Lib.hid h
  have H1 := Lib.hid h1
  obtain ⟨vo, vc, rfl⟩ := h.slice
  clear h h1 q1 q2 q3 q4
  go_enter Tryz.func49, Tryz.ntmps49
  go_wp2_with (at_builtin; refine wpList_append_rows _ rfl _ _ 22 rfl w.heap.size 3 i0 (.int .i64 0) 8 Tryz.underlying22 HI.out.1 HI.out.2.1 HI.out.2.2.1 HI.out.2.2.2 rfl (.slice none 0 0) [] rfl (Owns.nil _ _ _) B _ xs rfl HO.out H1.out ?c3 ?c4 (Nat.le_refl _) ?_)
  case c3 => rw [List.length_nil]; unfold maxLen; omega
  case c4 => rw [List.length_nil]; omega
  intro v' w' hown _ hT _
  have HF := Lib.hid (show Owns w' w.heap.size 3 v' xs from hown)
  have HG := Lib.hid hT
  clear hown hT
  go_wp2
  go_ret
  exact ⟨_, rfl, HF.out, HG.out.below (B := w.heap.size) (fun _ h => by cases h) (Nat.le_refl _)⟩
set_option maxHeartbeats 4000000 in
set_option maxRecDepth 100000 in
theorem bookInts_any (p B : Nat) (cur : Array Value) (vS vW v : Value) (ls : List (Value × List Value)) (xs : List Value) (w : World) (hp : p < B) (hB : B ≤ w.heap.size) (hlt : ls.length < 250)
    (hbk : w.heap[p]? = some (.cells cur 36 (0, 0))) (e0 : cur[2]? = some vS) (e1 : cur[3]? = some vW)
    (bs : List Nat) (hbs : ∀ k ∈ bs, k < w.heap.size) (hk : Kept w B 22 3 goodInts vS vW ls bs) (ho : Owns w B 3 v xs) (hg : goodInts xs) (hn : ∀ k, blk v = some k → k ∉ blocks ls) (hvb : ∀ k, blk v = some k → k ∉ bs) :
    Calls Tryz.prog 17 #[.pointer (some ⟨p, 0, none⟩), v] w fun e w' => e = .returned (.tuple #[]) ∧ ∃ vS' vW', w'.heap[p]? = some (.cells ((cur.setIfInBounds 2 vS').setIfInBounds 3 vW') 36 (0, 0)) ∧
      Kept w' B 22 3 goodInts vS' vW' (ls ++ [(v, xs)]) bs ∧ Stirred w w' (p :: ((blk vS).toList ++ (blk vW).toList)) := by
  obtain ⟨i1, q1, q2, q3, q4⟩ := info_parts Tryz.bkIntSpineInfo
  have HJ := Lib.hid (And.intro q1 (And.intro q2 (And.intro q3 q4)))
  clear q1 q2 q3 q4
  obtain ⟨ao, cap, hv⟩ := hk.lists.spine.slice
  rw [List.length_map] at hv
  obtain ⟨L, hL⟩ : ∃ n, ls.length = n := ⟨_, rfl⟩
  rw [hL] at hv hlt
  subst hv
  obtain ⟨vo, vc, hvv⟩ := ho.slice
  obtain ⟨n, hxn⟩ : ∃ n, xs.length = n := ⟨_, rfl⟩
  rw [hxn] at hvv
  subst hvv
  have HN := Lib.hid (And.intro hL hxn)
  have HK := Lib.hid hk
  have HO := Lib.hid ho
  have HG := Lib.hid hg
  have HD := Lib.hid hn
  have HVB := Lib.hid hvb
  have HBS := Lib.hid hbs
  have HBK := Lib.hid hbk
  have HE := Lib.hid (And.intro e0 e1)
  have c0 := whole_cell hbk e0
  have f0 := whole_frozen hbk 2
  have hal := Lib.hid ((Below.refl w.heap.size w).alloc (Nat.le_refl _) (.cells #[.slice vo n vc] 22))
  have HSP := Lib.hid (hk.lists.spine.below hal.out)
  clear hL hxn hk ho hg hn hvb hbs hbk e0 e1
  have hli : (L : Int) < 250 := by omega
  go_enter Tryz.func17, Tryz.ntmps17
  go_wp2_with (at_builtin; refine wpList_append_two _ rfl _ _ 30 rfl B 22 i1 (.slice none 0 0) 24 Tryz.underlying30 HJ.out.1 HJ.out.2.1 HJ.out.2.2.1 HJ.out.2.2.2 rfl _ _ rfl HSP.out ⟨w.heap.size, 0, none⟩ 1 1 [.slice vo n vc] rfl rfl ?d1 ?d2 (Nat.zero_lt_succ 0) ?d3 ?d4 ?d5 ?_)
  case d1 => intro j u hj; rcases j with _ | j <;> simp at hj; subst hj; simp [Addr.add]
  case d2 => intro u hu; simp at hu; subst hu; rfl
  case d3 => rw [List.length_map, HN.out.1]; show L + 1 ≤ maxLen; unfold maxLen; omega
  case d4 => rw [List.length_map, HN.out.1]; show (L + 1) * 24 ≤ _; omega
  case d5 => simp; omega
  intro v' w1 hO1 _ hT1 hN1
  have hst : Stirred w w1 (blk (.slice ao L cap)).toList := ((Stirred.of_below hal.out []).more (fun _ h => (by cases h))).trans hT1 (fun k hk => .inl hk)
  have hbk1 := hst.whole HBK.out (fun hm => by have := (HK.out.lists.spine.block p (by simpa using hm)).1; omega)
  have k0 := whole_cell hbk1 HE.out.1
  have f1 := whole_frozen hbk1 2
  obtain ⟨so, sc, hsv⟩ := hO1.slice
  rw [List.length_append, List.length_map, HN.out.1] at hsv
  change v' = .slice so (L + 1) sc at hsv
  subst hsv
  have st2 : Stirred w (w1.setCell ⟨p, 2, none⟩ (.slice so (L + 1) sc)) (p :: (blk (.slice ao L cap)).toList) := (hst.more (fun k hk => List.mem_cons_of_mem _ hk)).trans (Stirred.setCell w1 ⟨p, 2, none⟩ _) (fun k hk => .inl (by simp at hk; simp [hk]))
  have hO2 : Owns (w1.setCell ⟨p, 2, none⟩ (.slice so (L + 1) sc)) B 22 (.slice so (L + 1) sc) (ls.map (·.1) ++ [.slice vo n vc]) := hO1.touch (Stirred.setCell w1 ⟨p, 2, none⟩ _) (fun k hk hm => by
    have := (hO1.block k hk).1
    simp at hm
    omega)
  have hbk2 := whole_set hbk1 2 (.slice so (L + 1) sc)
  obtain ⟨cs, hh⟩ := HK.out.half HBS.out (by decide) hp (by rw [HN.out.1]; omega) HO.out HG.out HD.out HVB.out hO2 st2 (by
    rcases hN1 with e | ⟨k, e, hk⟩
    · exact .inl e
    · exact .inr ⟨k, e, by have h9 := hal.out.size; simp at h9 hk; omega⟩)
  have c1 := whole_cell hbk2 (show (cur.setIfInBounds 2 (.slice so (L + 1) sc))[3]? = some vW by rw [Array.getElem?_setIfInBounds_ne (by decide)]; exact HE.out.2)
  have f1' := whole_frozen hbk2 3
  have hB2 := Nat.le_trans hB st2.size
  obtain ⟨w2, hw2⟩ : ∃ w2, w1.setCell ⟨p, 2, none⟩ (.slice so (L + 1) sc) = w2 := ⟨_, rfl⟩
  rw [hw2] at st2 hO2 hbk2 hh c1 f1' hB2
  have hcl : (cs.map (·.1)).length = L := by have := congrArg List.length hh.eq; simp at this; rw [List.length_map, this, HN.out.1]
  obtain ⟨wo, wc, hwv⟩ := hh.was.slice
  rw [hcl] at hwv
  subst hwv
  have HH := Lib.hid hh
  have HOB := Lib.hid (hh.was.ownBlock_eq hh.wasRow)
  have HB2 := Lib.hid hbk2
  have ST2 := Lib.hid st2
  have HCL := Lib.hid hcl
  have C := Lib.hid (copyInts_any (.slice vo n vc) B xs w2.drew ((hh.lists.list _ (List.mem_append_right _ (List.mem_singleton.2 rfl))).touch (Stirred.drew _ []) (fun _ _ => List.not_mem_nil)) (by obtain ⟨ss, h1, _⟩ := HG.out; rw [h1]; intro u hu; simp at hu; obtain ⟨a, _, rfl⟩ := hu; rfl) (by obtain ⟨ss, h1, h2⟩ := HG.out; rw [h1, List.length_map]; exact h2))
  clear hO1 hT1 hN1 hst hbk1 st2 hO2 hbk2 hh hcl c0 f0
  go_wp2_with fail
  clear hw2 k0 f1
  go_region_law (first
    | (refine step_append_lies _ (by rfl) _ _ 30 (by rfl) B 22 i1 (.slice none 0 0) 1 24 Tryz.underlying30 HJ.out.1 HJ.out.2.1 HJ.out.2.2.1 HJ.out.2.2.2 rfl (by omega) (.slice wo L wc) L (cs.map (·.1)) (by rfl) HW3.out ⟨w3.heap.size, 0, none⟩ 1 1 [.slice co n cc] (by rfl) (by rfl) (news_one _ _ _) (by simp [Value.oneCell']) (by omega) (by unfold maxLen; omega) (by omega) (by simp; omega) (w3.heap.size + 1) (by simp) ?_; intro g ncap w4 hown hgrow hat hlt4; rw [HOB.out] at hgrow hat; have H4 := HH.out.grown hp HB2.out HB3.out hgrow; have c4 := whole_cell H4.2 (show (cur.setIfInBounds 2 (.slice so (L + 1) sc))[3]? = some (.slice wo L wc) by rw [Array.getElem?_setIfInBounds_ne (by decide)]; exact HE.out.2); have f4 := whole_frozen H4.2 3; have HOW := Lib.hid hown; have HGR := Lib.hid hgrow; have HAT := Lib.hid hat; clear hown hgrow hat H4)
    | (go_simp; go_at_call 49; refine C.out.mono ?_; rintro e w3 ⟨c, rfl, hc, hb⟩; obtain ⟨co, cc, hcv⟩ := hc.slice; rw [HN.out.2] at hcv; subst hcv; have HC3 := Lib.hid hc; have HB3 := Lib.hid ((Below.refl w2.heap.size w2).drew.trans hb); clear hc hb; have c1 := (Stirred.of_below HB3.out []).cell List.not_mem_nil c1; have c1a := (Stirred.of_below ((Below.refl w3.heap.size w3).alloc (Nat.le_refl _) (.cells #[.slice co n cc] 22)) []).cell List.not_mem_nil c1; have HW3 := Lib.hid (show World.ownsRow (w3.alloc (.cells #[.slice co n cc] 22)) B 22 1 (.slice wo L wc) L (cs.map (·.1)) from (by have h9 := (HH.out.was.below HB3.out).below ((Below.refl w3.heap.size w3).alloc (Nat.le_refl _) (.cells #[.slice co n cc] 22)); replace h9 := h9.to_row HH.out.wasRow; rw [HCL.out] at h9; exact h9)); have hB3 := Nat.le_trans hB2 HB3.out.size))
  all_goals
    have HF : Owns w4 B 22 (.slice (some ⟨g, 0, none⟩) (L + 1) ncap) (cs.map (·.1) ++ [.slice co n cc]) := by
      exact Owns.of_row HOW.out
    have hcl := HH.out.close (j := 3) (by decide) hp hB2 HB2.out HB3.out HC3.out HF HGR.out (by
      rcases HAT.out with e | e
      · exact .inl (by rw [HF.capAt (by simp)]; first | exact e.symm | exact e)
      · exact .inr ⟨g, HF.capAt (by simp), by have := HB3.out.size; omega⟩) (fun k hk => Nat.lt_of_lt_of_le (HBS.out k hk) ST2.out.size)
    have HR := Lib.hid hcl
    clear HF hcl c4 f4
    go_wp2
    go_end0
    exact ⟨rfl, _, _, HR.out.2.1, HR.out.1, ((ST2.out.more (fun k hk => by rcases List.mem_cons.1 hk with rfl | hk; exact List.mem_cons_self; exact List.mem_cons_of_mem _ (List.mem_append_left _ hk))).trans HR.out.2.2 (fun k hk => .inl (by rcases List.mem_cons.1 hk with rfl | hk; exact List.mem_cons_self; exact List.mem_cons_of_mem _ (List.mem_append_right _ hk))))⟩
end Go.Proofs.YtcffbeihgchpgaaGreatDoor
/- hollowaybook over lists that came in: lent, held against one's own. -/
namespace Go.Proofs.YtcffbeihgchpgaaGreatDoor
open Go.RowKit Book Mem
set_option linter.unusedSimpArgs false
set_option linter.unusedVariables false
theorem copyReads_any (v : Value) (l : List Int) (w : World) (h : Reads w v l) (hl : l.length ≤ 1000000) :
    Calls Tryz.prog 49 #[v] w fun e w' => ∃ c, e = .returned c ∧ Owns w' w.heap.size 3 c (vals l) ∧ Below w.heap.size w w' := by
  obtain ⟨i0, q1, q2, q3, q4⟩ := info_parts Tryz.bkIntInfo
  have HI := Lib.hid (And.intro q1 (And.intro q2 (And.intro q3 q4)))
  have HR := Lib.hid h
  obtain ⟨vo, vc, rfl, _⟩ := h
  obtain ⟨n, hn⟩ : ∃ n, l.length = n := ⟨_, rfl⟩
  rw [hn] at HR hl ⊢
  have HN := Lib.hid hn
  clear q1 q2 q3 q4 hn
  go_enter Tryz.func49, Tryz.ntmps49
  go_wp2_with (at_builtin; refine wpList_append_reads _ rfl _ _ 22 rfl w.heap.size 3 i0 (.int .i64 0) 8 Tryz.underlying22 HI.out.1 HI.out.2.1 HI.out.2.2.1 HI.out.2.2.2 rfl _ [] rfl (Owns.nil _ _ _) _ l rfl HR.out ?c3 ?c4 (Nat.le_refl _) ?_)
  case c3 => have := HN.out; unfold maxLen; simp; omega
  case c4 => have := HN.out; simp; omega
  intro v' w' hown _ hT _
  have HF := Lib.hid (show Owns w' w.heap.size 3 v' (vals l) from hown)
  have HG := Lib.hid hT
  clear hown hT
  go_wp2
  go_ret
  exact ⟨_, rfl, HF.out, HG.out.below (B := w.heap.size) (fun _ h => by cases h) (Nat.le_refl _)⟩
/-- a list with room behind it, in which a mark stands -/
def Lent (w : World) (B g cap : Nat) (l : List Int) : Prop := Owns w B 3 (.slice (some ⟨g, 0, none⟩) (l.length + 1) cap) (vals (l ++ [-77]))
theorem Lent.owns {w : World} {B g cap : Nat} {l : List Int} (h : Lent w B g cap l) : Owns w B 3 (.slice (some ⟨g, 0, none⟩) l.length cap) (vals l) := by
  have := owns_shorter (m := l.length) h (by simp)
  rw [List.take_left] at this
  exact this
theorem Lent.blk {w : World} {B g cap : Nat} {l : List Int} (h : Lent w B g cap l) : Book.blk (.slice (some ⟨g, 0, none⟩) (l.length + 1) cap) = some g ∧ l.length + 1 ≤ cap := by
  obtain ⟨g', c', e, _, _, hl⟩ := h.row (by rw [vals_length]; simp)
  rw [vals_length] at e hl
  simp only [Value.slice.injEq, Option.some.injEq, Addr.mk.injEq, and_true, List.length_append, List.length_cons, List.length_nil] at e hl
  have : l.length + 1 ≤ cap := by omega
  exact ⟨blk_pos (by omega), this⟩
theorem Lent.touch {w w' : World} {B g cap : Nat} {l : List Int} {bs : List Nat} (h : Lent w B g cap l) (ht : Stirred w w' bs) (hn : g ∉ bs) : Lent w' B g cap l :=
  Owns.touch h ht (fun k hk => by rw [h.blk.1] at hk; simp at hk; subst hk; exact hn)
set_option maxHeartbeats 1000000 in
theorem lent_any (v : Value) (l : List Int) (w : World) (h : Reads w v l) (hl : l.length ≤ 1000) :
    Calls Tryz.prog 35 #[v] w fun e w' => ∃ g cap, e = .returned (.slice (some ⟨g, 0, none⟩) l.length cap) ∧ Lent w' w.heap.size g cap l ∧ Below w.heap.size w w' := by
  obtain ⟨i0, q1, q2, q3, q4⟩ := info_parts Tryz.bkIntInfo
  have HI := Lib.hid (And.intro q1 (And.intro q2 (And.intro q3 q4)))
  have C := Lib.hid (copyReads_any v l w h (by omega))
  obtain ⟨vo, vc, rfl, _⟩ := h
  obtain ⟨n, hn⟩ : ∃ n, l.length = n := ⟨_, rfl⟩
  have HN := Lib.hid hn
  rw [hn] at C hl ⊢
  clear q1 q2 q3 q4 hn
  go_enter Tryz.func35, Tryz.ntmps35
  go_wp2_with fail
  refine C.out.mono ?_
  rintro e w1 ⟨c, rfl, hO, hB⟩
  obtain ⟨co, cc, hcv⟩ := hO.slice
  rw [vals_length, HN.out] at hcv
  subst hcv
  have hal := (Below.refl w1.heap.size w1).alloc (Nat.le_refl _) (.cells #[.int .i64 (-77)] 3)
  have HO := Lib.hid (hO.below hal)
  have HB := Lib.hid hB
  clear hO hB C hal
  go_wp2_with (at_builtin; refine wpList_append_two _ rfl _ _ 22 rfl w.heap.size 3 i0 (.int .i64 0) 8 Tryz.underlying22 HI.out.1 HI.out.2.1 HI.out.2.2.1 HI.out.2.2.2 rfl _ _ rfl HO.out ⟨w1.heap.size, 0, none⟩ 1 1 [.int .i64 (-77)] rfl rfl ?c1 ?c2 (Nat.zero_lt_succ 0) ?c3 ?c4 ?c5 ?_)
  case c1 => intro j u hj; rcases j with _ | j <;> simp at hj; subst hj; simp [Addr.add]
  case c2 => intro u hu; simp at hu; subst hu; rfl
  case c3 => rw [vals_length, HN.out]; show n + 1 ≤ maxLen; unfold maxLen; omega
  case c4 => rw [vals_length, HN.out]; show (n + 1) * 8 ≤ _; omega
  case c5 => have := HB.out.size; simp; omega
  intro v' w2 hO2 _ hT _
  have hv : vals l ++ [.int .i64 (-77)] = vals (l ++ [-77]) := by simp [vals]
  rw [hv] at hO2
  obtain ⟨g, cap, e, hb⟩ := owns_slice hO2 (by simp)
  rw [List.length_append, HN.out] at e
  change v' = .slice (some ⟨g, 0, none⟩) (n + 1) cap at e
  subst e
  have hL : Lent w2 w.heap.size g cap l := by unfold Lent; rw [HN.out]; exact hO2
  have hcap := hL.blk.2
  rw [HN.out] at hcap
  have HL := Lib.hid hL
  have HB2 := Lib.hid ((HB.out.alloc HB.out.size (.cells #[.int .i64 (-77)] 3)).trans (hT.below (B := w.heap.size) (fun k hk => (HO.out.block k (by simpa using hk)).1) (by have := HB.out.size; simp; omega)))
  have hc1 : (n : Int) ≤ (cap : Int) := by omega
  clear hO2 hT hv hb hL
  go_wp2
  go_ret
  exact ⟨g, cap, rfl, HL.out, HB2.out⟩
set_option maxHeartbeats 2000000 in
theorem sameReads_any (va vb : Value) (ss : List Int) (w : World) (ha : Reads w va ss) (hb : Reads w vb ss) (hl : ss.length ≤ 10000000) :
    Calls Tryz.prog 21 #[va, vb] w fun e w' => e = .returned (.bool true) ∧ ∃ q, w' = w.drewN q := by
  obtain ⟨ao, ac, rfl, hca⟩ := ha
  obtain ⟨bo, bc, rfl, hcb⟩ := hb
  have CA := Lib.hid hca
  have CB := Lib.hid hcb
  obtain ⟨n, hn⟩ : ∃ n, ss.length = n := ⟨_, rfl⟩
  have HN := Lib.hid hn
  rw [hn] at hl ⊢
  clear hca hcb hn
  go_enter Tryz.func21, Tryz.ntmps21
  go_wp2
  go_loopg [5] n (fun g i wr => ∃ j q : Nat, g = n - j ∧ j ≤ n ∧ i = .int .i64 j ∧ wr = w.drewN q)
  case atStart => exact ⟨0, 0, rfl, Nat.zero_le _, rfl, rfl⟩
  case round =>
    obtain ⟨j, q, rfl, hj, rfl, rfl⟩ := hrel
    by_cases hlt : j < n
    · obtain ⟨x, hx⟩ : ∃ x, ss[j]? = some x := ⟨ss[j]'(by rw [HN.out]; exact hlt), List.getElem?_eq_getElem _⟩
      obtain ⟨a, rfl, ca⟩ := CA.out j x hx
      obtain ⟨b, rfl, cb⟩ := CB.out j x hx
      clear hx
      go_wp2
      go_quiet (fail)
      go_wp2
      go_roundg (n - (j + 1))
      case measure => omega
      case rel => exact ⟨j + 1, _, rfl, by omega, by go_num, rfl⟩
    · go_wp2
      go_ret
      exact ⟨rfl, q, rfl⟩
set_option maxHeartbeats 1000000 in
theorem stays_any (B g cap : Nat) (vb : Value) (l : List Int) (w : World) (h : Lent w B g cap l) (hb : Reads w vb l) (hl : l.length ≤ 1000) :
    Calls Tryz.prog 60 #[.slice (some ⟨g, 0, none⟩) l.length cap, vb] w fun e w' => e = .returned (.bool true) ∧ ∃ q, w' = w.drewN q := by
  have C := Lib.hid (sameReads_any _ vb l w (Reads.of_owns h.owns) hb (by omega))
  have hcap := h.blk.2
  have k1 := (owns_at h (j := l.length) (by simp)).1
  simp only [List.getElem_append_right (Nat.le_refl _), Nat.sub_self, List.getElem_cons_zero] at k1
  obtain ⟨vo, vc, rfl, _⟩ := hb
  obtain ⟨n, hn⟩ : ∃ n, l.length = n := ⟨_, rfl⟩
  rw [hn] at C hl hcap k1 ⊢
  have K1 := Lib.hid k1
  have hc1 : (n : Int) + 1 ≤ (cap : Int) := by omega
  have hn0 : (0 : Int) ≤ (n : Int) := by omega
  clear hn h k1
  go_enter Tryz.func60, Tryz.ntmps60
  go_wp2_with fail
  refine C.out.mono ?_
  rintro e w1 ⟨rfl, q, rfl⟩
  clear C
  have k1 : (w.drewN q).cell? ⟨g, n, none⟩ = some (.int .i64 (-77)) := K1.out
  go_wp2
  go_ret
  exact ⟨rfl, q, rfl⟩
end Go.Proofs.YtcffbeihgchpgaaGreatDoor
/- A book that keeps machines; machines that are lent, held against each other. -/
namespace Go.Proofs.YtcffbeihgchpgaaGreatDoor.Mach
open Go.RowKit Book Mem
set_option linter.unusedVariables false
set_option linter.unusedSimpArgs false
/-- all boxes and rows but those of a book are as they were -/
def Spares (w w' : World) : Prop := ∀ (k : Nat) (cs : Array Value) (T : TypeId), T ≠ 22 → T ≠ 36 → w.heap[k]? = some (Obj.cells cs T (0, 0)) → w'.heap[k]? = some (Obj.cells cs T (0, 0))
theorem Spares.owns {w w' : World} (h : Spares w w') {B : Nat} {v : Value} {xs : List Value} (ho : Owns w B 3 v xs) : Owns w' B 3 v xs :=
  ho.same fun k hk => by
    obtain ⟨_, _, c, hc⟩ := ho.block k hk
    rw [hc]
    exact h k c _ (by decide) (by decide) hc
theorem Spares.trans {w w1 w2 : World} (h : Spares w w1) (g : Spares w1 w2) : Spares w w2 := fun k cs T h1 h2 hk => g k cs T h1 h2 (h k cs T h1 h2 hk)
theorem Spares.of_below {w w' : World} (h : Below w.heap.size w w') : Spares w w' := fun k cs T _ _ hk => (Stirred.of_below h []).whole hk List.not_mem_nil
/-- a list that came in, or a row of one's own -/
def L (W w : World) (B : Nat) (v : Value) (xs : List Int) : Prop := ReadsC W v xs ∨ Owns w B 3 v (vals xs)
theorem L.reads {W w : World} {B : Nat} {v : Value} {xs : List Int} (h : L W w B v xs) (hb : Below W.heap.size W w) : ReadsC w v xs := by
  rcases h with h | h
  · exact h.below hb
  · exact ReadsC.of_owns h
theorem L.below {W w w' : World} {B : Nat} {v : Value} {xs : List Int} (h : L W w B v xs) (hb : Below w.heap.size w w') : L W w' B v xs := by
  rcases h with h | h
  · exact .inl h
  · exact .inr (h.below hb)
theorem L.mono {W w w' : World} {B : Nat} {v : Value} {xs : List Int} (h : L W w B v xs) (ho : Spares w w') : L W w' B v xs := by
  rcases h with h | h
  · exact .inl h
  · exact .inr (ho.owns h)
/-- a machine of such lists -/
def LM (W w : World) (B : Nat) (v : Value) (m : M) : Prop := ∃ vs vb vm, v = stV m vs vb vm ∧ L W w B vs m.stack ∧ L W w B vb m.back ∧ L W w B vm m.mem
theorem LM.reads {W w : World} {B : Nat} {v : Value} {m : M} (h : LM W w B v m) (hb : Below W.heap.size W w) : ReadsM w v m := by
  obtain ⟨vs, vb, vm, e, h1, h2, h3⟩ := h
  exact ⟨vs, vb, vm, e, h1.reads hb, h2.reads hb, h3.reads hb⟩
theorem LM.below {W w w' : World} {B : Nat} {v : Value} {m : M} (h : LM W w B v m) (hb : Below w.heap.size w w') : LM W w' B v m := by
  obtain ⟨vs, vb, vm, e, h1, h2, h3⟩ := h
  exact ⟨vs, vb, vm, e, h1.below hb, h2.below hb, h3.below hb⟩
theorem LM.mono {W w w' : World} {B : Nat} {v : Value} {m : M} (h : LM W w B v m) (ho : Spares w w') : LM W w' B v m := by
  obtain ⟨vs, vb, vm, e, h1, h2, h3⟩ := h
  exact ⟨vs, vb, vm, e, h1.mono ho, h2.mono ho, h3.mono ho⟩
theorem LM.of_owns {W w : World} {B B' : Nat} {v : Value} {m : M} (h : OwnsM w B v m) (hB : B' ≤ B) : LM W w B' v m := by
  obtain ⟨vs, vb, vm, e, h1⟩ := h
  exact ⟨vs, vb, vm, e, .inr (h1.st.from hB), .inr (h1.bk.from hB), .inr (h1.me.from hB)⟩
theorem LM.of_reads {W : World} (B : Nat) {v : Value} {m : M} (h : ReadsM W v m) : LM W W B v m := by
  obtain ⟨vs, vb, vm, e, h1, h2, h3⟩ := h
  exact ⟨vs, vb, vm, e, .inl h1, .inl h2, .inl h3⟩
/-- what a call answers: a machine of such lists -/
def TellsL (W : World) (B : Nat) (m : M) (w : World) (e : Ending) (w' : World) : Prop := ∃ v, e = .returned v ∧ LM W w' B v m ∧ Below w.heap.size w w'
/-- a book that keeps lists of ints alone -/
def bookArr9 (vS vW : Value) : Array Value := #[.slice none 0 0, .slice none 0 0, vS, vW, .slice none 0 0, .slice none 0 0, .slice none 0 0, .slice none 0 0, .slice none 0 0, .slice none 0 0, .slice none 0 0, .slice none 0 0]
structure Bk (w : World) (pb : Nat) (vS vW : Value) (ls : List (Value × List Value)) : Prop where
  book : w.heap[pb]? = some (.cells (bookArr9 vS vW) 36 (0, 0))
  kept : Kept w (pb + 1) 22 3 goodInts vS vW ls []
theorem Bk.below {w w' : World} {pb : Nat} {vS vW : Value} {ls : List (Value × List Value)} (h : Bk w pb vS vW ls) (hb : Below w.heap.size w w') : Bk w' pb vS vW ls :=
  ⟨(Stirred.of_below hb []).whole h.book List.not_mem_nil, h.kept.below hb⟩
/-- what is done to a row of one's own that is none of the book's -/
theorem Bk.touch {w w' : World} {pb : Nat} {vS vW : Value} {ls : List (Value × List Value)} (h : Bk w pb vS vW ls) {bs : List Nat} (hs : Stirred w w' bs) (hp : pb ∉ bs) (hk : Kept w' (pb + 1) 22 3 goodInts vS vW ls []) : Bk w' pb vS vW ls :=
  ⟨hs.whole h.book hp, hk⟩
theorem Bk.row {w w' : World} {pb : Nat} {vS vW : Value} {ls : List (Value × List Value)} (h : Bk w pb vS vW ls) (hs : Stirred w w' (pb :: ((blk vS).toList ++ (blk vW).toList))) : Spares w w' := by
  intro k cs T h1 h2 hk
  refine hs.whole hk (fun hm => ?_)
  rcases List.mem_cons.1 hm with rfl | hm
  · rw [h.book] at hk
    simp only [Option.some.injEq, Obj.cells.injEq] at hk
    exact h2 hk.2.1.symm
  · obtain ⟨cs', _, hw, _⟩ := h.kept.was
    rcases List.mem_append.1 hm with hm | hm
    · obtain ⟨_, _, c, hc⟩ := h.kept.lists.spine.block k (by simpa using hm)
      rw [hc] at hk
      simp only [Option.some.injEq, Obj.cells.injEq] at hk
      exact h1 hk.2.1.symm
    · obtain ⟨_, _, c, hc⟩ := hw.block k (by simpa using hm)
      rw [hc] at hk
      simp only [Option.some.injEq, Obj.cells.injEq] at hk
      exact h1 hk.2.1.symm
theorem Bk.low {w w' : World} {pb : Nat} {vS vW : Value} {ls : List (Value × List Value)} (h : Bk w pb vS vW ls) (hs : Stirred w w' (pb :: ((blk vS).toList ++ (blk vW).toList))) : Below pb w w' := by
  refine hs.below (fun k hm => ?_) (Nat.le_of_lt (whole_lt h.book))
  rcases List.mem_cons.1 hm with rfl | hm
  · exact Nat.le_refl _
  · obtain ⟨cs', _, h2, _⟩ := h.kept.was
    rcases List.mem_append.1 hm with hm | hm
    · have := (h.kept.lists.spine.block k (by simpa using hm)).1; omega
    · have := (h2.block k (by simpa using hm)).1; omega
theorem Bk.empty {w : World} {pb : Nat} (h : w.heap[pb]? = some (.cells (bookArr9 (.slice none 0 0) (.slice none 0 0)) 36 (0, 0))) : Bk w pb (.slice none 0 0) (.slice none 0 0) [] :=
  ⟨h, Kept.nil _ _ _ _ _ _⟩
theorem Bk.add {w : World} {pb : Nat} {vS vW : Value} {ls : List (Value × List Value)} (h : Bk w pb vS vW ls) (hlt : ls.length < 250) {v : Value} {xs : List Int} {B : Nat} (ho : Owns w B 3 v (vals xs)) (hB : pb + 1 ≤ B) (hl : xs.length ≤ 10000) (hn : ∀ k, blk v = some k → k ∉ blocks ls) :
    Calls Tryz.prog 17 #[.pointer (some ⟨pb, 0, none⟩), v] w fun e w' => e = .returned (.tuple #[]) ∧ ∃ vS' vW', Bk w' pb vS' vW' (ls ++ [(v, vals xs)]) ∧ Below pb w w' ∧ Spares w w' := by
  have hsz := whole_lt h.book
  refine (bookInts_any pb (pb + 1) (bookArr9 vS vW) vS vW v ls (vals xs) w (Nat.lt_succ_self _) hsz hlt h.book rfl rfl [] (fun _ h => by cases h) h.kept (ho.from hB) ⟨xs, rfl, by omega⟩ hn (fun _ _ => List.not_mem_nil)).mono ?_
  rintro e w' ⟨rfl, vS', vW', h1, h2, h3⟩
  refine ⟨rfl, vS', vW', ⟨?_, h2⟩, h.low h3, h.row h3⟩
  rw [h1]
  rfl
end Go.Proofs.YtcffbeihgchpgaaGreatDoor.Mach
/- The document's own machine (chapter 9): beginning a word; a fault. -/
namespace Go.Proofs.YtcffbeihgchpgaaGreatDoor.Mach
open Go.RowKit Book Mem
set_option linter.unusedVariables false
set_option linter.unusedSimpArgs false
/-- what is written into a state's box leaves rows of numbers as they were -/
theorem own_box {w w' : World} {g B : Nat} {v : Value} {xs : List Value} {cs : Array Value} (h : Owns w B 3 v xs) (hs : Stirred w w' [g]) (hg : w.heap[g]? = some (.cells cs 24 (0, 0))) : Owns w' B 3 v xs :=
  h.touch hs (fun k hk hm => by
    rw [List.mem_singleton] at hm
    subst hm
    obtain ⟨_, _, c, hc⟩ := h.block k hk
    rw [hg] at hc
    simp only [Option.some.injEq, Obj.cells.injEq] at hc
    exact absurd hc.2.1 (by decide))
theorem L.box {W w w' : World} {g B : Nat} {v : Value} {xs : List Int} {cs : Array Value} (h : L W w B v xs) (hs : Stirred w w' [g]) (hg : w.heap[g]? = some (.cells cs 24 (0, 0))) : L W w' B v xs := by
  rcases h with h | h
  · exact .inl h
  · exact .inr (own_box h hs hg)
theorem L.one {W w : World} {B : Nat} {v : Value} {xs : List Int} (h : L W w B v xs) : v.oneCell' = true := by
  rcases h with h | h
  · obtain ⟨_, ao, c, e, _⟩ := h
    exact slice_one ⟨ao, c, e⟩
  · exact slice_one h.slice
/-- a box is written, another one is not -/
theorem box_other {w w' : World} {g r : Nat} {o : Obj} (hs : Stirred w w' [g]) (h : w.heap[r]? = some o) (hn : g < r ∨ r < g) : w'.heap[r]? = some o :=
  hs.whole h (fun hm => by rw [List.mem_singleton] at hm; omega)
set_option maxHeartbeats 4000000 in
set_option maxRecDepth 100000 in
theorem refEnter_any {W w : World} {B : Nat} {v : Value} {m : M} (h : LM W w B v m) (hB : B ≤ w.heap.size) (xt : Int) :
    Calls Tryz.prog 33 #[v, .int .i64 xt] w (TellsL W B { m with ip := xt, handler := 0, back := [0], status := 0, code := 0 } w) := by
  obtain ⟨vs, vb, vm, rfl, hs, hb, hm⟩ := h
  obtain ⟨i0, HI1, HI2, HI3, HI4⟩ := int_facts
  have HI := Lib.hid (And.intro HI1 (And.intro HI2 (And.intro HI3 HI4)))
  clear HI1 HI2 HI3 HI4
  obtain ⟨ip, hh, st, bk, me, ou, inn, rd, stt, cd⟩ := m
  simp only at hs hb hm ⊢
  obtain ⟨w1, w2, g, r, hw1, hw2, hg, hr, HG, HR, HB0, HZ, HW⟩ := two_boxes w (cells10 ip hh vs vb vm ou inn rd stt cd)
  have HB := Lib.hid (show Below w.heap.size w w2 by rw [HW.out]; exact HB0.out)
  have HLs := Lib.hid (hs.below HB.out)
  have HLb := Lib.hid (hb.below HB.out)
  have HLm := Lib.hid (hm.below HB.out)
  have HBB := Lib.hid hB
  clear hs hb hm HB0 hB
  go_enter Tryz.func33, Tryz.ntmps33
  go_upto_region 1 with fail
  clear hw1 hw2 hg hr
  go_wp2_with (first
    | (refine wpList_lit (by rfl) _ _ 1 _ rfl [0] i0 Tryz.underlying22 HI.out.1 HI.out.2.1 HI.out.2.2.1 (by decide) (by decide) rfl rfl ?_; intro gl wn hgl hol hbl; have HOL := Lib.hid hol; have HG := Lib.hid ((Stirred.of_below hbl []).whole HG.out List.not_mem_nil); have HR := Lib.hid ((Stirred.of_below hbl []).whole HR.out List.not_mem_nil); have HLs := Lib.hid (HLs.out.below hbl); have HLb := Lib.hid (HLb.out.below hbl); have HLm := Lib.hid (HLm.out.below hbl); have HLN := Lib.hid (show L W wn B (.slice (some ⟨gl, 0, none⟩) 1 1) [0] from .inr (Owns.from hol (Nat.le_trans HBB.out HB.out.size))); have HB := Lib.hid (HB.out.trans (hbl.mono HB.out.size)); clear hgl hol hbl)
    | (refine st_int (by rfl) _ _ rfl g 0 rfl (.int .i64 xt) rfl rfl _ _ HG.out (by show 0 < 10; decide) ?_; intro wn hg ht; have HR := Lib.hid (box_other ht HR.out (.inl HZ.out)); have HLs := Lib.hid (HLs.out.box ht HG.out); have HLb := Lib.hid (HLb.out.box ht HG.out); have HLm := Lib.hid (HLm.out.box ht HG.out); (try have HLN := Lib.hid (HLN.out.box ht HG.out)); have HB := Lib.hid (HB.out.trans (ht.below (fun k h => by rw [List.mem_singleton.1 h]; exact Nat.le_of_eq HW.out) (by have := whole_lt HG.out; have := HW.out; omega))); have HG := Lib.hid hg; clear hg ht)
    | (refine st_int (by rfl) _ _ rfl g 1 rfl (.int .i64 0) rfl rfl _ _ HG.out (by show 1 < 10; decide) ?_; intro wn hg ht; have HR := Lib.hid (box_other ht HR.out (.inl HZ.out)); have HLs := Lib.hid (HLs.out.box ht HG.out); have HLb := Lib.hid (HLb.out.box ht HG.out); have HLm := Lib.hid (HLm.out.box ht HG.out); (try have HLN := Lib.hid (HLN.out.box ht HG.out)); have HB := Lib.hid (HB.out.trans (ht.below (fun k h => by rw [List.mem_singleton.1 h]; exact Nat.le_of_eq HW.out) (by have := whole_lt HG.out; have := HW.out; omega))); have HG := Lib.hid hg; clear hg ht)
    | (refine st_ints (by rfl) _ _ rfl g 3 rfl (.slice (some ⟨gl, 0, none⟩) 1 1) rfl rfl _ _ HG.out (by show 3 < 10; decide) ?_; intro wn hg ht; have HR := Lib.hid (box_other ht HR.out (.inl HZ.out)); have HLs := Lib.hid (HLs.out.box ht HG.out); have HLb := Lib.hid (HLb.out.box ht HG.out); have HLm := Lib.hid (HLm.out.box ht HG.out); (try have HLN := Lib.hid (HLN.out.box ht HG.out)); have HB := Lib.hid (HB.out.trans (ht.below (fun k h => by rw [List.mem_singleton.1 h]; exact Nat.le_of_eq HW.out) (by have := whole_lt HG.out; have := HW.out; omega))); have HG := Lib.hid hg; clear hg ht)
    | (refine st_int (by rfl) _ _ rfl g 8 rfl (.int .i64 0) rfl rfl _ _ HG.out (by show 8 < 10; decide) ?_; intro wn hg ht; have HR := Lib.hid (box_other ht HR.out (.inl HZ.out)); have HLs := Lib.hid (HLs.out.box ht HG.out); have HLb := Lib.hid (HLb.out.box ht HG.out); have HLm := Lib.hid (HLm.out.box ht HG.out); (try have HLN := Lib.hid (HLN.out.box ht HG.out)); have HB := Lib.hid (HB.out.trans (ht.below (fun k h => by rw [List.mem_singleton.1 h]; exact Nat.le_of_eq HW.out) (by have := whole_lt HG.out; have := HW.out; omega))); have HG := Lib.hid hg; clear hg ht)
    | (refine st_int (by rfl) _ _ rfl g 9 rfl (.int .i64 0) rfl rfl _ _ HG.out (by show 9 < 10; decide) ?_; intro wn hg ht; have HR := Lib.hid (box_other ht HR.out (.inl HZ.out)); have HLs := Lib.hid (HLs.out.box ht HG.out); have HLb := Lib.hid (HLb.out.box ht HG.out); have HLm := Lib.hid (HLm.out.box ht HG.out); (try have HLN := Lib.hid (HLN.out.box ht HG.out)); have HB := Lib.hid (HB.out.trans (ht.below (fun k h => by rw [List.mem_singleton.1 h]; exact Nat.le_of_eq HW.out) (by have := whole_lt HG.out; have := HW.out; omega))); have HG := Lib.hid hg; clear hg ht)
    | (refine ld_state (by rfl) _ rfl _ rfl _ _ HG.out rfl ?_)
    | (refine st_state (by rfl) _ _ rfl r _ rfl rfl _ _ HR.out rfl rfl (all_one HLs.out.one (by rfl) HLm.out.one) ?_; intro wf hr ht; have HLs := Lib.hid (HLs.out.box ht HR.out); have HLN := Lib.hid (HLN.out.box ht HR.out); have HLm := Lib.hid (HLm.out.box ht HR.out); have HRF := Lib.hid hr; have HB := Lib.hid (HB.out.trans (ht.below (fun k h => by rw [List.mem_singleton.1 h]; have := HW.out; have := HZ.out; omega) (by have := whole_lt HG.out; have := HW.out; omega))); clear hr ht))
  refine bodyPost_ret (results_cell_row rfl _ _ r _ _ _ _ rfl HRF.out Tryz.underlying24 rfl state_size) rfl ?_
  exact ⟨_, rfl, ⟨vs, .slice (some ⟨gl, 0, none⟩) 1 1, vm, rfl, HLs.out, HLN.out, HLm.out⟩, HB.out⟩
end Go.Proofs.YtcffbeihgchpgaaGreatDoor.Mach
/- The walks of package cell: what each call comes to. -/
namespace Go.Proofs.YtcffbeihgchpgaaGreatDoor.Cell
open Go.RowKit

theorem ret1 {k : IntKind} {a b : Int} (h : a = b) : Ending.returned (.int k a) = .returned (.int k b) := by rw [h]
theorem retB {a b : Bool} (h : a = b) : Ending.returned (.bool a) = .returned (.bool b) := by rw [h]
theorem ret2 {k : IntKind} {a b : Int} {c d : Bool} (h : a = b) (g : c = d) : Ending.returned (.tuple #[.int k a, .bool c]) = .returned (.tuple #[.int k b, .bool d]) := by rw [h, g]
theorem ret3 {k : IntKind} {a b a' b' : Int} {c d : Bool} (h : a = b) (h' : a' = b') (g : c = d) : Ending.returned (.tuple #[.int k a, .int k a', .bool c]) = .returned (.tuple #[.int k b, .int k b', .bool d]) := by rw [h, h', g]
theorem retQ {k : IntKind} {a b a' b' : Int} (h : a = b) (h' : a' = b') : Ending.returned (.tuple #[.int k a, .int k a']) = .returned (.tuple #[.int k b, .int k b']) := by rw [h, h']

set_option maxHeartbeats 400000 in
theorem floor_zero (a : Int) (w : World) :
    Calls Tryz.prog 206 #[.int .i64 a, .int .i64 0] w fun e w' => e = .returned (.tuple #[.int .i64 0, .int .i64 0, .bool false]) ∧ w' = w := by
  go_enter Tryz.func206, Tryz.ntmps206
  go_wp2
  go_ret3
  exact ⟨rfl, rfl⟩

set_option maxHeartbeats 400000 in
theorem floor_any (a b : Int) (hb : (b == 0) = false) (ib : In b) (w : World) :
    Calls Tryz.prog 206 #[.int .i64 a, .int .i64 b] w fun e w' => e = .returned (.tuple #[.int .i64 (fq a b), .int .i64 (fr a b), .bool true]) ∧ ∃ n, w' = w.drewN n := by
  have hb' : b ≠ 0 := by simpa using hb
  have IB := Lib.hid ib; clear ib
  go_enter Tryz.func206, Tryz.ntmps206
  go_wp2
  go_quiet (fail)
  go_wp2
  · go_ret3
    exact ⟨ret3 (floor1 ‹_›).1 (floor1 ‹_›).2 rfl, nq, rfl⟩
  · go_ret3
    exact ⟨ret3 (floor2 hb' IB.out ‹_› ‹_›).1 (floor2 hb' IB.out ‹_› ‹_›).2 rfl, nq, rfl⟩
  · go_ret3
    exact ⟨ret3 (floor3 ‹_› ‹_›).1 (floor3 ‹_› ‹_›).2 rfl, nq, rfl⟩
set_option maxHeartbeats 400000 in
theorem crosses_any (x n : Int) (w : World) :
    Calls Tryz.prog 179 #[.int .i64 x, .int .i64 n] w fun e w' => e = .returned (.bool (crosses x n)) ∧ w' = w := by
  go_enter Tryz.func179, Tryz.ntmps179
  go_wp2
  go_ret
  exact ⟨rfl, rfl⟩
set_option maxHeartbeats 400000 in
theorem flag_any (b : Bool) (w : World) :
    Calls Tryz.prog 190 #[.bool b] w fun e w' => e = .returned (.int .i64 (flag b)) ∧ w' = w := by
  cases b
  all_goals
    go_enter Tryz.func190, Tryz.ntmps190
    go_wp2
    go_ret
    exact ⟨rfl, rfl⟩
set_option maxHeartbeats 400000 in
theorem join_any (op a b : Int) (w : World) :
    Calls Tryz.prog 192 #[.int .i64 op, .int .i64 a, .int .i64 b] w fun e w' => e = .returned (.int .i64 (joinV op a b)) ∧ w' = w := by
  go_enter Tryz.func192, Tryz.ntmps192
  go_wp2
  · go_ret; exact ⟨ret1 (join1 ‹_›), rfl⟩
  · go_ret; exact ⟨ret1 (join2 ‹_›), rfl⟩
  · go_ret; exact ⟨ret1 (join3 ‹_› ‹_›), rfl⟩
set_option maxHeartbeats 400000 in
theorem shift_any (op a b : Int) (w : World) :
    Calls Tryz.prog 193 #[.int .i64 op, .int .i64 a, .int .i64 b] w fun e w' => e = .returned (.int .i64 (shiftV op a b)) ∧ w' = w := by
  by_cases h0 : b < 0
  · go_enter Tryz.func193, Tryz.ntmps193
    go_wp2
    go_ret
    exact ⟨ret1 (shift1 (.inl h0)), rfl⟩
  · by_cases h1 : 63 < b
    · go_enter Tryz.func193, Tryz.ntmps193
      go_wp2
      go_ret
      exact ⟨ret1 (shift1 (.inr h1)), rfl⟩
    · go_enter Tryz.func193, Tryz.ntmps193
      go_wp2
      · go_ret; exact ⟨ret1 (shift2 ‹_› (by omega) (by omega)), rfl⟩
      · go_ret; exact ⟨ret1 (shift3 ‹_› (by omega) (by omega)), rfl⟩
set_option maxHeartbeats 400000 in
theorem holds_any (op a b : Int) (w : World) :
    Calls Tryz.prog 194 #[.int .i64 op, .int .i64 a, .int .i64 b] w fun e w' => e = .returned (.bool (holdsV op a b)) ∧ w' = w := by
  go_enter Tryz.func194, Tryz.ntmps194
  go_wp2
  · go_ret; exact ⟨retB (holds1 ‹_›), rfl⟩
  · go_ret; exact ⟨retB (holds2 ‹_›), rfl⟩
  · go_ret; exact ⟨retB (holds3 ‹_› ‹_›), rfl⟩
set_option maxHeartbeats 400000 in
theorem pick_any (op a b : Int) (w : World) :
    Calls Tryz.prog 195 #[.int .i64 op, .int .i64 a, .int .i64 b] w fun e w' => e = .returned (.int .i64 (pickV op a b)) ∧ w' = w := by
  go_enter Tryz.func195, Tryz.ntmps195
  go_wp2
  · go_ret; exact ⟨ret1 (pick1 ‹_›), rfl⟩
  · go_ret; exact ⟨ret1 (pick2 ‹_›), rfl⟩

theorem op_cases (op : Int) : op < 11 ∨ 29 < op ∨ op = 11 ∨ op = 12 ∨ op = 13 ∨ op = 14 ∨ op = 15 ∨ op = 16 ∨ op = 17 ∨ op = 18 ∨ op = 19 ∨ op = 20 ∨ op = 21 ∨ op = 22 ∨ op = 23 ∨ op = 24 ∨ op = 25 ∨ op = 26 ∨ op = 27 ∨ op = 28 ∨ op = 29 := by omega
theorem two_lo {op a b : Int} (h : op < 11) : two op a b = (0, false) := by
  unfold two; repeat rw [if_neg (by omega)]
theorem two_hi {op a b : Int} (h : 29 < op) : two op a b = (0, false) := by
  unfold two; repeat rw [if_neg (by omega)]

/-- What a call of two results comes to; the world is as it was but for draws. -/
def Tells (v : Int × Bool) (w : World) (e : Ending) (w' : World) : Prop := e = .returned (.tuple #[.int .i64 v.1, .bool v.2]) ∧ ∃ n, w' = w.drewN n

set_option maxHeartbeats 400000 in
theorem divide_zero (op a : Int) (w : World) :
    Calls Tryz.prog 191 #[.int .i64 op, .int .i64 a, .int .i64 0] w (Tells (0, false) w) := by
  go_enter Tryz.func191, Tryz.ntmps191
  go_wp2_with (go_at_call 206; refine (floor_zero _ _).mono ?_; rintro e w' ⟨rfl, rfl⟩)
  all_goals
    go_ret2
    exact ⟨ret2 rfl rfl, 0, rfl⟩
set_option maxHeartbeats 400000 in
theorem divide_any (op a b : Int) (hb : (b == 0) = false) (ib : In b) (w : World) :
    Calls Tryz.prog 191 #[.int .i64 op, .int .i64 a, .int .i64 b] w (Tells (if op = 15 then fr a b else fq a b, true) w) := by
  by_cases h : op = 15
  · subst h
    have IB := Lib.hid ib; clear ib
    go_enter Tryz.func191, Tryz.ntmps191
    go_wp2_with (go_at_call 206; refine (floor_any _ _ hb IB.out _).mono ?_; rintro e w' ⟨rfl, n, rfl⟩)
    go_ret2
    exact ⟨ret2 rfl rfl, n, rfl⟩
  · have h' : (op == 15) = false := by simpa using h
    have IB := Lib.hid ib; clear ib
    rw [if_neg h]; clear h
    go_enter Tryz.func191, Tryz.ntmps191
    go_wp2_with (go_at_call 206; refine (floor_any _ _ hb IB.out _).mono ?_; rintro e w' ⟨rfl, n, rfl⟩)
    go_ret2
    exact ⟨ret2 rfl rfl, n, rfl⟩

theorem two_14 {a b : Int} (hb : b ≠ 0) : two 14 a b = (if (14 : Int) = 15 then fr a b else fq a b, true) := by
  show fl a b 14 = _; unfold fl; rw [if_neg hb]
theorem two_15 {a b : Int} (hb : b ≠ 0) : two 15 a b = (if (15 : Int) = 15 then fr a b else fq a b, true) := by
  show fl a b 15 = _; unfold fl; rw [if_neg hb]
set_option maxHeartbeats 1000000 in
theorem two_any (op a b : Int) (ib : In b) (w : World) :
    Calls Tryz.prog 181 #[.int .i64 op, .int .i64 a, .int .i64 b] w (Tells (two op a b) w) := by
  rcases op_cases op with h | h | rfl | rfl | rfl | rfl | rfl | rfl | rfl | rfl | rfl | rfl | rfl | rfl | rfl | rfl | rfl | rfl | rfl | rfl | rfl
  · rw [two_lo h]; go_enter Tryz.func181, Tryz.ntmps181
    go_wp2
    go_ret2; exact ⟨ret2 rfl rfl, 0, rfl⟩
  · rw [two_hi h]; go_enter Tryz.func181, Tryz.ntmps181
    go_wp2
    go_ret2; exact ⟨ret2 rfl rfl, 0, rfl⟩
  · go_enter Tryz.func181, Tryz.ntmps181
    go_wp2
    go_ret2; exact ⟨ret2 rfl rfl, 0, rfl⟩
  · go_enter Tryz.func181, Tryz.ntmps181
    go_wp2
    go_ret2; exact ⟨ret2 (sub_of a b) rfl, 0, rfl⟩
  · go_enter Tryz.func181, Tryz.ntmps181
    go_wp2
    go_ret2; exact ⟨ret2 rfl rfl, 0, rfl⟩
  · by_cases hb : b = 0
    · subst hb; go_enter Tryz.func181, Tryz.ntmps181
      go_wp2_with (go_at_call 191; refine (divide_zero _ _ _).mono ?_; rintro e w' ⟨rfl, n, rfl⟩)
      go_ret2; exact ⟨ret2 rfl rfl, n, rfl⟩
    · rw [two_14 hb]
      have hb' : (b == 0) = false := by simpa using hb
      clear hb
      go_enter Tryz.func181, Tryz.ntmps181
      go_wp2_with (go_at_call 191; refine (divide_any _ _ _ hb' ib _).mono ?_; rintro e w' ⟨rfl, n, rfl⟩)
      go_ret2; exact ⟨ret2 rfl rfl, n, rfl⟩
  · by_cases hb : b = 0
    · subst hb; go_enter Tryz.func181, Tryz.ntmps181
      go_wp2_with (go_at_call 191; refine (divide_zero _ _ _).mono ?_; rintro e w' ⟨rfl, n, rfl⟩)
      go_ret2; exact ⟨ret2 rfl rfl, n, rfl⟩
    · rw [two_15 hb]
      have hb' : (b == 0) = false := by simpa using hb
      clear hb
      go_enter Tryz.func181, Tryz.ntmps181
      go_wp2_with (go_at_call 191; refine (divide_any _ _ _ hb' ib _).mono ?_; rintro e w' ⟨rfl, n, rfl⟩)
      go_ret2; exact ⟨ret2 rfl rfl, n, rfl⟩
  all_goals
    go_enter Tryz.func181, Tryz.ntmps181
    go_wp2_with (first | (go_at_call 192; refine (join_any _ _ _ _).mono ?_; rintro e w' ⟨rfl, rfl⟩) | (go_at_call 193; refine (shift_any _ _ _ _).mono ?_; rintro e w' ⟨rfl, rfl⟩) | (go_at_call 194; refine (holds_any _ _ _ _).mono ?_; rintro e w' ⟨rfl, rfl⟩) | (go_at_call 190; refine (flag_any _ _).mono ?_; rintro e w' ⟨rfl, rfl⟩) | (go_at_call 195; refine (pick_any _ _ _ _).mono ?_; rintro e w' ⟨rfl, rfl⟩))
    go_ret2; exact ⟨ret2 rfl rfl, 0, rfl⟩

theorem one_lo {op a : Int} (h : op < 11) : one op a = (0, false) := by
  unfold one; repeat rw [if_neg (by omega)]
theorem one_hi {op a : Int} (h : 29 < op) : one op a = (0, false) := by
  unfold one; repeat rw [if_neg (by omega)]
set_option maxHeartbeats 1000000 in
theorem one_any (op a : Int) (ia : In a) (w : World) :
    Calls Tryz.prog 180 #[.int .i64 op, .int .i64 a] w (Tells (one op a) w) := by
  rcases op_cases op with h | h | rfl | rfl | rfl | rfl | rfl | rfl | rfl | rfl | rfl | rfl | rfl | rfl | rfl | rfl | rfl | rfl | rfl | rfl | rfl
  · rw [one_lo h]; go_enter Tryz.func180, Tryz.ntmps180
    go_wp2
    go_ret2; exact ⟨ret2 rfl rfl, 0, rfl⟩
  · rw [one_hi h]; go_enter Tryz.func180, Tryz.ntmps180
    go_wp2
    go_ret2; exact ⟨ret2 rfl rfl, 0, rfl⟩
  all_goals
    go_enter Tryz.func180, Tryz.ntmps180
    go_wp2_with (go_at_call 190; refine (flag_any _ _).mono ?_; rintro e w' ⟨rfl, rfl⟩)
    go_ret2; exact ⟨ret2 (by first | rfl | exact neg_of a | exact not_of ia) rfl, 0, rfl⟩
end Go.Proofs.YtcffbeihgchpgaaGreatDoor.Cell
