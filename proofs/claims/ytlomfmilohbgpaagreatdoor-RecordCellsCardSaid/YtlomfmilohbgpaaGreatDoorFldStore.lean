
/- Package field: storing. -/
import Derived.Test.YtlomfmilohbgpaaGreatDoorFldRead
namespace Go.Proofs.YtlomfmilohbgpaaGreatDoor.Fld
open Go.RowKit Book Go.Proofs.YtlomfmilohbgpaaGreatDoor.Mem Mem
set_option linter.unusedSimpArgs false
set_option linter.unusedVariables false
section
variable {w : World} {B p : Nat} {vC vH : Value} {cs ch : List Int}
theorem store_no (h : FieldAt w B p vC vH cs ch) (a v : Int) (ha : ¬ (0 ≤ a ∧ a < (cs.length : Int))) : Calls Tryz.prog 103 #[.pointer (some ⟨p, 0, none⟩), .int .i64 a, .int .i64 v] w fun e w' => e = .returned (.bool false) ∧ w' = w := by
  have C := Lib.hid (has_no h a ha)
  clear h ha
  go_enter Tryz.func103, Tryz.ntmps103
  go_wp2_with (go_at_call 73; refine C.out.mono ?_; rintro e wz ⟨rfl, hwz⟩; subst wz)
  go_ret
  exact ⟨rfl, rfl⟩
theorem store_nil (a v : Int) (w : World) : Calls Tryz.prog 103 #[.pointer none, .int .i64 a, .int .i64 v] w fun e w' => e = .returned (.bool false) ∧ w' = w := by
  have C := Lib.hid (has_nil a w)
  go_enter Tryz.func103, Tryz.ntmps103
  go_wp2_with (go_at_call 73; refine C.out.mono ?_; rintro e wz ⟨rfl, hwz⟩; subst wz)
  go_ret
  exact ⟨rfl, rfl⟩
/-- a memory into one of whose cells something is stored -/
def Stored (w : World) (B p : Nat) (vC vH : Value) (cs ch : List Int) (j : Nat) (v : Int) (e : Ending) (w' : World) : Prop :=
  ∃ vH', e = .returned (.bool true) ∧ FieldAt w' B p vC vH' (cs.set j v) (chg ch j) ∧ Stirred w w' (foot p vC vH) ∧ (blk vH' = blk vH ∨ ∃ k, blk vH' = some k ∧ w.heap.size ≤ k)
theorem Mem.FieldAt.cell (h : FieldAt w B p vC vH cs ch) {j : Nat} (hj : j < cs.length) : ∃ g cap x, vC = .slice (some ⟨g, 0, none⟩) cs.length cap ∧ blk vC = some g ∧ w.cell? ⟨g, j, none⟩ = some x ∧ w.frozen? ⟨g, j, none⟩ = false := by
  obtain ⟨g, cap, e, hc, hf, hl⟩ := h.cells.row (by rw [vals_length]; omega)
  rw [vals_length] at e hl
  exact ⟨g, cap, _, e, by rw [e]; exact blk_pos (by omega), hc j (.int .i64 cs[j]) (by simp [vals, hj]), hf j⟩
theorem Mem.FieldAt.stored (h : FieldAt w B p vC vH cs ch) {j g : Nat} (v : Int) (hg : blk vC = some g) : FieldAt (w.setCell ⟨g, j, none⟩ (.int .i64 v)) B p vC vH (cs.set j v) ch := by
  have hs := Stirred.setCell w ⟨g, j, none⟩ (.int .i64 v)
  obtain ⟨g', cap, e⟩ := h.form
  subst e
  have hgg : g' = g := by
    simp only [blk] at hg
    split at hg
    · cases hg
    · simpa using hg
  subst hgg
  have hpg : p ≠ g' := fun e => h.pC.1 (by rw [hg, e])
  have hl : (vals (cs.set j v)) = (vals cs).set j (.int .i64 v) := by simp [vals, List.map_set]
  refine ⟨hs.whole h.whole (by simpa using hpg), h.le, by rw [hl]; exact h.cells.stored j _, ⟨g', cap, by rw [List.length_set]⟩, by rw [List.length_set]; exact h.len, h.chd.touch hs (fun k hk hm => ?_), h.bare, h.sort, by rw [List.length_set]; exact h.within, h.apart⟩
  simp at hm
  subst hm
  exact h.apart _ hg hk
theorem Mem.FieldAt.put (h : FieldAt w B p vC vH cs ch) {w' : World} {v' : Value} {j : Nat} (hj : j < cs.length) (hn : (j : Int) ∉ ch) (ho : Owns w' B 3 v' (vals (Mem.put ch j))) (hs : Stirred w w' (blk vH).toList) (hb : blk v' = blk vH ∨ ∃ k, blk v' = some k ∧ w.heap.size ≤ k) :
    FieldAt (w'.setCell ⟨p, 1, none⟩ v') B p vC v' cs (Mem.put ch j) ∧ Stirred w (w'.setCell ⟨p, 1, none⟩ v') (p :: (blk vH).toList) := by
  have hp : p ∉ (blk vH).toList := fun hm => h.pC.2 (by simpa using hm)
  have hw := whole_set (hs.whole h.whole hp) 1 v'
  have ht := Stirred.setCell w' ⟨p, 1, none⟩ v'
  have hc : Owns w' B 3 vC (vals cs) := h.cells.touch hs (fun k hk hm => h.apart k hk (by simpa using hm))
  have hv : blk v' ≠ some p := fun e => by
    rcases hb with e' | ⟨k, e', hk⟩
    · exact h.pC.2 (by rw [← e', e])
    · rw [e] at e'
      have := whole_lt h.whole
      simp at e'
      omega
  refine ⟨⟨hw, h.le, hc.touch ht (fun k hk hm => by simp at hm; subst hm; exact h.pC.1 hk), h.form, h.len, ho.touch ht (fun k hk hm => by simp at hm; subst hm; exact hv hk), fun e => ?_, put_sort h.sort hn, fun x hx => ?_, fun k hk e => ?_⟩, (hs.more (fun k hk => List.mem_cons_of_mem _ hk)).trans ht (fun k hk => .inl (by simp at hk; simp [hk]))⟩
  · have := (put_mem ch j j).2 (.inl rfl)
    rw [e] at this
    cases this
  · rcases (put_mem ch j x).1 hx with rfl | hx
    · exact ⟨by omega, by omega⟩
    · exact h.within x hx
  · rcases hb with e' | ⟨k', e', hk'⟩
    · exact h.apart k hk (by rw [← e', e])
    · rw [e] at e'
      have := (h.cells.block k hk).2.1
      simp at e'
      omega
set_option maxHeartbeats 2000000 in
theorem store_yes (h : FieldAt w B p vC vH cs ch) (hB : B ≤ w.heap.size) (j : Nat) (v : Int) (hj : j < cs.length) : Calls Tryz.prog 103 #[.pointer (some ⟨p, 0, none⟩), .int .i64 j, .int .i64 v] w (Stored w B p vC vH cs ch j v) := by
  have C := Lib.hid (has_yes h j hj)
  have HF := Lib.hid h
  have hl := h.len
  have HJ := Lib.hid hj
  have hchl := Lib.hid h.chLen
  have c1 := h.c1
  have D := Lib.hid (search_any vH B ch j w h.chd h.sort (by have := h.chLen; omega))
  obtain ⟨n, hn⟩ : ∃ n, cs.length = n := ⟨_, rfl⟩
  have HN := Lib.hid hn
  rw [hn] at hl
  have hjn : (j : Int) < (n : Int) := by omega
  have hj0 : (0 : Int) ≤ (j : Int) := by omega
  by_cases hk : ch.contains (j : Int) = true
  · have HK := Lib.hid hk
    rw [hk] at D
    clear h hj hn hk
    go_enter Tryz.func103, Tryz.ntmps103
    go_wp2_with (go_at_call 73; refine C.out.mono ?_; rintro e wz ⟨rfl, hwz⟩; subst wz)
    (with_reducible refine D.out.mono ?_)
    rintro e wa ⟨rfl, q, hq⟩
    have hs : Stirred w wa [] := by rw [hq]; exact Stirred.drewN _ _ _
    have hF := HF.out.touch hs (fun _ _ => List.not_mem_nil)
    obtain ⟨g', cap', x, e', hb', k1, f1⟩ := hF.cell HJ.out
    have c0 := hF.c0
    rw [e', HN.out] at c0
    have HS := Lib.hid hs
    have HR := Lib.hid (hF.stored (j := j) v hb')
    have HG := Lib.hid hb'
    clear hq hs hF e' hb' c1
    go_wp2
    go_ret
    refine ⟨vH, rfl, by unfold chg; rw [if_pos HK.out]; exact HR.out, (HS.out.more (cs := foot p vC vH) (fun _ h => by cases h)).trans (Stirred.setCell wa ⟨g', j, none⟩ (.int .i64 v)) (fun k hk => .inl ?_), .inl rfl⟩
    simp at hk
    subst hk
    exact List.mem_cons_of_mem _ (List.mem_append_left _ (by simp [HG.out]))
  · have HK := Lib.hid hk
    have hk' : ch.contains (j : Int) = false := by simpa using hk
    rw [hk'] at D
    clear h hj hn hk hk'
    go_enter Tryz.func103, Tryz.ntmps103
    go_wp2_with (go_at_call 73; refine C.out.mono ?_; rintro e wz ⟨rfl, hwz⟩; subst wz)
    (with_reducible refine D.out.mono ?_)
    rintro e wa ⟨rfl, q, hq⟩
    have hs : Stirred w wa [] := by rw [hq]; exact Stirred.drewN _ _ _
    have hF := HF.out.touch hs (fun _ _ => List.not_mem_nil)
    have c1 := hF.c1
    have HS := Lib.hid hs
    have HF1 := Lib.hid hF
    have hba := Nat.le_trans hB hs.size
    clear hq hs hF
    have hal := (Below.refl wa.heap.size wa).alloc (Nat.le_refl _) (.cells #[.int .i64 j] 3)
    have I := Lib.hid (insert_any vH B (vals ch) (lessN ch j) (.int .i64 j) wa.heap.size (wa.alloc (.cells #[.int .i64 j] 3)) (HF1.out.chd.below hal) (fun e => HF1.out.bare (List.map_eq_nil_iff.1 e)) (by rw [vals_length]; exact lessN_le _ _) (by rw [vals_length]; have := hchl.out; have := HN.out; omega)
      (vals_one _) rfl (heap_alloc_new wa _) (fun e => Nat.lt_irrefl _ (HF1.out.chd.block _ e).2.1) (by simp; omega))
    rw [vals_put] at I
    go_wp2_with fail
    refine I.out.mono ?_
    rintro e w1 ⟨v', rfl, ho, hs, hb⟩
    obtain ⟨vo, vc, hv⟩ := ho.slice
    obtain ⟨L, hL⟩ : ∃ L, (vals (Mem.put ch j)).length = L := ⟨_, rfl⟩
    rw [hL] at hv
    subst hv
    clear hL
    have hFb := HF1.out.below hal
    have hn : (j : Int) ∉ ch := by have := HK.out; simpa using this
    have hP := hFb.put HJ.out hn ho hs hb
    have hp : p ∉ (blk vH).toList := fun hm => hFb.pC.2 (by simpa using hm)
    have c2 := whole_cell (hs.whole hFb.whole hp) (show (#[vC, vH] : Array Value)[1]? = some vH from rfl)
    have f2 := whole_frozen (hs.whole hFb.whole hp) 1
    obtain ⟨w2, hw2⟩ : ∃ w2, w1.setCell ⟨p, 1, none⟩ (.slice vo L vc) = w2 := ⟨_, rfl⟩
    rw [hw2] at hP
    obtain ⟨g', cap', x, e', hb', k1, f1⟩ := hP.1.cell HJ.out
    have c0 := hP.1.c0
    rw [e', HN.out] at c0
    have hnew : blk (.slice vo L vc) = blk vH ∨ ∃ k, blk (.slice vo L vc) = some k ∧ w.heap.size ≤ k := by
      rcases hb with e | ⟨k', e, hk'⟩
      · exact .inl e
      · have h1 := HS.out.size
        simp at hk'
        exact .inr ⟨k', e, by omega⟩
    have hst : Stirred w (w2.setCell ⟨g', j, none⟩ (.int .i64 v)) (foot p vC vH) := by
      have h1 : Stirred w (wa.alloc (.cells #[.int .i64 j] 3)) [] := HS.out.trans (Stirred.of_below hal []) (fun _ h => by cases h)
      have h2 := (h1.more (cs := foot p vC vH) (fun _ h => by cases h)).trans hP.2 (fun k hk => .inl (by
        rcases List.mem_cons.1 hk with rfl | hk
        · exact List.mem_cons_self
        · exact List.mem_cons_of_mem _ (List.mem_append_right _ hk)))
      refine h2.trans (Stirred.setCell w2 ⟨g', j, none⟩ (.int .i64 v)) (fun k hk => .inl ?_)
      simp at hk
      subst hk
      exact List.mem_cons_of_mem _ (List.mem_append_left _ (by simp [hb']))
    have HR := Lib.hid (And.intro (hP.1.stored (j := j) v hb') (And.intro hst hnew))
    clear hFb hn hP hp ho hs hb hb' e' hnew hst I D C hal c1
    go_wp2
    go_ret
    exact ⟨_, rfl, by unfold chg; rw [if_neg HK.out]; exact HR.out.1, HR.out.2.1, HR.out.2.2⟩
end
end Go.Proofs.YtlomfmilohbgpaaGreatDoor.Fld