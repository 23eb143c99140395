
/- The document's own machine (chapter 9): copying, beginning a word. -/
import Derived.Test.YtlomfmilohbgpaaGreatDoorRefMach
import Derived.Laws.ResultCell
import Derived.Deep.DeepCutAuto
namespace Go.Proofs.YtlomfmilohbgpaaGreatDoor.Mach
open Go.RowKit Book Mem
set_option linter.unusedVariables false
set_option linter.unusedSimpArgs false
/-- the int type's facts, in one -/
theorem int_facts : ∃ i0 : TypeInfo, Tryz.prog.info? 3 = some i0 ∧ i0.zero = some (.int .i64 0) ∧ i0.size = 1 ∧ i0.bytes = 8 := by
  obtain ⟨i0, q1, q2, q3, q4⟩ := info_parts Tryz.bkIntInfo
  exact ⟨i0, q1, q2, q3, q4⟩
/-- what is known of the blocks of two lists: none is another one's -/
def offB (v : Value) (k : Nat) : Prop := blk v ≠ some k
theorem blk_new {w : World} {v : Value} (h : blk v = blk (.slice none 0 0) ∨ ∃ k, blk v = some k ∧ w.heap.size ≤ k) : ∀ k, blk v = some k → w.heap.size ≤ k := by
  intro k hk
  rcases h with e | ⟨k', e, h⟩
  · rw [e] at hk; cases hk
  · rw [e] at hk
    simp at hk
    omega
theorem slice_one {v : Value} {n : Nat} (h : ∃ ao c, v = .slice ao n c) : v.oneCell' = true := by
  obtain ⟨ao, c, rfl⟩ := h
  rfl
theorem all_one {ip hh : Int} {vs vb vm : Value} {ou inn : ByteArray} {rd stt cd : Int} (h1 : vs.oneCell' = true) (h2 : vb.oneCell' = true) (h3 : vm.oneCell' = true) : (cells10 ip hh vs vb vm ou inn rd stt cd).all (·.oneCell') = true := by
  simp [cells10, h1, h2, h3, show ∀ k n, (Value.int k n).oneCell' = true from fun _ _ => rfl, show ∀ s, (Value.string s).oneCell' = true from fun _ => rfl]
set_option maxHeartbeats 4000000 in
set_option maxRecDepth 100000 in
theorem refCopy_any {w : World} {v : Value} {m : M} (h : ReadsM w v m) (h1 : m.stack.length ≤ 10000) (h2 : m.back.length ≤ 10000) (h3 : m.mem.length ≤ 10000) :
    Calls Tryz.prog 8 #[v] w (GivesM m w) := by
  obtain ⟨vs, vb, vm, rfl, hs, hb, hm⟩ := h
  obtain ⟨i0, HI1, HI2, HI3, HI4⟩ := int_facts
  have HI := Lib.hid (And.intro HI1 (And.intro HI2 (And.intro HI3 HI4)))
  clear HI1 HI2 HI3 HI4
  obtain ⟨ip, hh, st, bk, me, ou, inn, rd, stt, cd⟩ := m
  simp only at hs hb hm h1 h2 h3 ⊢
  have H1 := Lib.hid h1
  have H2 := Lib.hid h2
  have H3 := Lib.hid h3
  obtain ⟨w1, w2, g, r, hw1, hw2, hg, hr, HG, HR, HB, HZ, HW⟩ := two_boxes w (cells10 ip hh vs vb vm ou inn rd stt cd)
  have HS := Lib.hid hs
  have HK := Lib.hid hb
  have HM := Lib.hid hm
  have HLT := Lib.hid (And.intro (whole_lt HG.out) (whole_lt HR.out))
  have HL := Lib.hid (whole_lt HR.out)
  clear hs hb hm h1 h2 h3
  go_enter Tryz.func8, Tryz.ntmps8
  go_upto_region 1 with fail
  clear hw1 hw2 hg hr
  go_wp2_with (first
    | (refine ld_ints (by rfl) _ rfl _ rfl _ (whole_cell HG.out rfl) ?_)
    | (refine ld_state (by rfl) _ rfl _ rfl _ _ HG.out rfl ?_)
    | (refine wpList_append_reads _ rfl _ _ 22 rfl g 3 i0 (.int .i64 0) 8 Tryz.underlying22 HI.out.1 HI.out.2.1 HI.out.2.2.1 HI.out.2.2.2 rfl (.slice none 0 0) [] rfl (Owns.nil _ _ _) vs st rfl (HS.out.1.below (by rw [HW.out]; exact HB.out)) (by have := H1.out; unfold maxLen; simp; omega) (by have := H1.out; simp; omega) (Nat.le_of_lt (whole_lt HG.out)) ?_; intro v1 wn ho _ ht hn; have HN1 := Lib.hid (fun k hk => Nat.lt_of_lt_of_le HL.out (blk_new hn k hk) : ∀ k, blk v1 = some k → r < k); have HO1 := Lib.hid (show Owns wn g 3 v1 (vals st) from ho); have HB := Lib.hid (HB.out.trans (ht.below (fun _ h => by cases h) (Nat.le_of_lt (whole_lt HG.out)))); have HL := Lib.hid (Nat.lt_of_lt_of_le HL.out ht.size); have HG := Lib.hid (ht.whole HG.out List.not_mem_nil); have HR := Lib.hid (ht.whole HR.out List.not_mem_nil); have HV1 := Lib.hid (slice_one HO1.out.slice); clear ho ht hn)
    | (refine wpList_append_reads _ rfl _ _ 22 rfl g 3 i0 (.int .i64 0) 8 Tryz.underlying22 HI.out.1 HI.out.2.1 HI.out.2.2.1 HI.out.2.2.2 rfl (.slice none 0 0) [] rfl (Owns.nil _ _ _) vb bk rfl (HK.out.1.below (by rw [HW.out]; exact HB.out)) (by have := H2.out; unfold maxLen; simp; omega) (by have := H2.out; simp; omega) (Nat.le_of_lt (whole_lt HG.out)) ?_; intro v2 wn ho _ ht hn; have HN2 := Lib.hid (fun k hk => Nat.lt_of_lt_of_le HL.out (blk_new hn k hk) : ∀ k, blk v2 = some k → r < k); have HD21 := Lib.hid (fun k hk e => by have h9 := (HO1.out.block k e).2.1; have h8 := blk_new hn k hk; omega : ∀ k, blk v2 = some k → blk v1 ≠ some k); have HO1 := Lib.hid (HO1.out.touch ht (fun _ _ => List.not_mem_nil)); have HO2 := Lib.hid (show Owns wn g 3 v2 (vals bk) from ho); have HB := Lib.hid (HB.out.trans (ht.below (fun _ h => by cases h) (Nat.le_of_lt (whole_lt HG.out)))); have HL := Lib.hid (Nat.lt_of_lt_of_le HL.out ht.size); have HG := Lib.hid (ht.whole HG.out List.not_mem_nil); have HR := Lib.hid (ht.whole HR.out List.not_mem_nil); have HV2 := Lib.hid (slice_one HO2.out.slice); clear ho ht hn)
    | (refine wpList_append_reads _ rfl _ _ 22 rfl g 3 i0 (.int .i64 0) 8 Tryz.underlying22 HI.out.1 HI.out.2.1 HI.out.2.2.1 HI.out.2.2.2 rfl (.slice none 0 0) [] rfl (Owns.nil _ _ _) vm me rfl (HM.out.1.below (by rw [HW.out]; exact HB.out)) (by have := H3.out; unfold maxLen; simp; omega) (by have := H3.out; simp; omega) (Nat.le_of_lt (whole_lt HG.out)) ?_; intro v3 wn ho _ ht hn; have HN3 := Lib.hid (fun k hk => Nat.lt_of_lt_of_le HL.out (blk_new hn k hk) : ∀ k, blk v3 = some k → r < k); have HD31 := Lib.hid (fun k hk e => by have h9 := (HO1.out.block k e).2.1; have h8 := blk_new hn k hk; omega : ∀ k, blk v3 = some k → blk v1 ≠ some k); have HD32 := Lib.hid (fun k hk e => by have h9 := (HO2.out.block k e).2.1; have h8 := blk_new hn k hk; omega : ∀ k, blk v3 = some k → blk v2 ≠ some k); have HO1 := Lib.hid (HO1.out.touch ht (fun _ _ => List.not_mem_nil)); have HO2 := Lib.hid (HO2.out.touch ht (fun _ _ => List.not_mem_nil)); have HO3 := Lib.hid (show Owns wn g 3 v3 (vals me) from ho); have HB := Lib.hid (HB.out.trans (ht.below (fun _ h => by cases h) (Nat.le_of_lt (whole_lt HG.out)))); have HL := Lib.hid (Nat.lt_of_lt_of_le HL.out ht.size); have HG := Lib.hid (ht.whole HG.out List.not_mem_nil); have HR := Lib.hid (ht.whole HR.out List.not_mem_nil); have HV3 := Lib.hid (slice_one HO3.out.slice); clear ho ht hn)
    | (refine st_ints (by rfl) _ _ rfl g 2 rfl v1 rfl HV1.out _ _ HG.out (by show 2 < 10; decide) ?_; intro wn hg ht; have HO1 := Lib.hid (HO1.out.touch ht (fun k hk hm => by have h9 := HN1.out k hk; have h8 := HZ.out; rw [List.mem_singleton.1 hm] at h9; omega)); have HB := Lib.hid (HB.out.trans (ht.below (fun _ h => by rw [List.mem_singleton.1 h]; exact Nat.le_refl _) (Nat.le_of_lt (whole_lt HG.out)))); have HL := Lib.hid (Nat.lt_of_lt_of_le HL.out ht.size); have HR := Lib.hid (ht.whole HR.out (fun h => by have := HZ.out; rw [List.mem_singleton.1 h] at this; omega)); have HG := Lib.hid hg; clear hg ht)
    | (refine st_ints (by rfl) _ _ rfl g 3 rfl v2 rfl HV2.out _ _ HG.out (by show 3 < 10; decide) ?_; intro wn hg ht; have HO1 := Lib.hid (HO1.out.touch ht (fun k hk hm => by have h9 := HN1.out k hk; have h8 := HZ.out; rw [List.mem_singleton.1 hm] at h9; omega)); have HO2 := Lib.hid (HO2.out.touch ht (fun k hk hm => by have h9 := HN2.out k hk; have h8 := HZ.out; rw [List.mem_singleton.1 hm] at h9; omega)); have HB := Lib.hid (HB.out.trans (ht.below (fun _ h => by rw [List.mem_singleton.1 h]; exact Nat.le_refl _) (Nat.le_of_lt (whole_lt HG.out)))); have HL := Lib.hid (Nat.lt_of_lt_of_le HL.out ht.size); have HR := Lib.hid (ht.whole HR.out (fun h => by have := HZ.out; rw [List.mem_singleton.1 h] at this; omega)); have HG := Lib.hid hg; clear hg ht)
    | (refine st_ints (by rfl) _ _ rfl g 4 rfl v3 rfl HV3.out _ _ HG.out (by show 4 < 10; decide) ?_; intro wn hg ht; have HO1 := Lib.hid (HO1.out.touch ht (fun k hk hm => by have h9 := HN1.out k hk; have h8 := HZ.out; rw [List.mem_singleton.1 hm] at h9; omega)); have HO2 := Lib.hid (HO2.out.touch ht (fun k hk hm => by have h9 := HN2.out k hk; have h8 := HZ.out; rw [List.mem_singleton.1 hm] at h9; omega)); have HO3 := Lib.hid (HO3.out.touch ht (fun k hk hm => by have h9 := HN3.out k hk; have h8 := HZ.out; rw [List.mem_singleton.1 hm] at h9; omega)); have HB := Lib.hid (HB.out.trans (ht.below (fun _ h => by rw [List.mem_singleton.1 h]; exact Nat.le_refl _) (Nat.le_of_lt (whole_lt HG.out)))); have HL := Lib.hid (Nat.lt_of_lt_of_le HL.out ht.size); have HR := Lib.hid (ht.whole HR.out (fun h => by have := HZ.out; rw [List.mem_singleton.1 h] at this; omega)); have HG := Lib.hid hg; clear hg ht)
    | (refine st_state (by rfl) _ _ rfl r _ rfl rfl _ _ HR.out rfl rfl (all_one HV1.out HV2.out HV3.out) ?_; intro wn hr ht; have HO1 := Lib.hid (HO1.out.touch ht (fun k hk hm => by have h9 := HN1.out k hk; rw [List.mem_singleton.1 hm] at h9; omega)); have HO2 := Lib.hid (HO2.out.touch ht (fun k hk hm => by have h9 := HN2.out k hk; rw [List.mem_singleton.1 hm] at h9; omega)); have HO3 := Lib.hid (HO3.out.touch ht (fun k hk hm => by have h9 := HN3.out k hk; rw [List.mem_singleton.1 hm] at h9; omega)); have HB := Lib.hid (HB.out.trans (ht.below (fun _ h => by rw [List.mem_singleton.1 h]; exact Nat.le_of_lt HZ.out) (Nat.le_of_lt (whole_lt HG.out)))); have HR := Lib.hid hr; clear hr ht))
  refine bodyPost_ret (results_cell_row rfl _ _ r _ _ _ _ rfl HR.out Tryz.underlying24 rfl state_size) rfl ?_
  refine ⟨_, rfl, ⟨v1, v2, v3, rfl, ?_⟩, by rw [HW.out]; exact HB.out⟩
  rw [HW.out]
  exact ⟨HO1.out, HO2.out, HO3.out, fun k hk => ⟨fun e => HD21.out k e hk, fun e => HD31.out k e hk⟩, fun k hk e => HD32.out k e hk⟩
theorem refCopy_ends : True := trivial
end Go.Proofs.YtlomfmilohbgpaaGreatDoor.Mach
