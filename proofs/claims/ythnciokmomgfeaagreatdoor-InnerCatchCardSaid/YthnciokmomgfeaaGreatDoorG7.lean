/- Package field: length, cells, copies, of a memory and of none. -/
import Derived.Test.YthnciokmomgfeaaGreatDoorG6
import Derived.Lib.BufferMore
import Derived.Test.YthnciokmomgfeaaGreatDoorG3
import Derived.Test.YthnciokmomgfeaaGreatDoorG1
import Derived.Great.BuildSlice
import Derived.Laws.Rows
import Derived.Laws.CopyRow
import Derived.Test.YthnciokmomgfeaaGreatDoorG5
import Derived.Laws.ResultCell
import Derived.Deep.RegionHeld3
namespace Go.Proofs.YthnciokmomgfeaaGreatDoor.Fld
open Go.RowKit Book Go.Proofs.YthnciokmomgfeaaGreatDoor.Mem Mem
set_option linter.unusedSimpArgs false
set_option linter.unusedVariables false
section
variable {w : World} {B p : Nat} {vC vH : Value} {cs ch : List Int}
theorem len_any (h : FieldAt w B p vC vH cs ch) : Calls Tryz.prog 117 #[.pointer (some ⟨p, 0, none⟩)] w fun e w' => e = .returned (.int .i64 cs.length) ∧ w' = w := by
  obtain ⟨g, cap, rfl⟩ := h.form
  have c0 := h.c0
  have hl := h.len
  clear h
  obtain ⟨n, hn⟩ : ∃ n, cs.length = n := ⟨_, rfl⟩
  rw [hn] at c0 hl ⊢
  clear hn
  go_enter Tryz.func117, Tryz.ntmps117
  go_wp2
  go_ret
  exact ⟨rfl, rfl⟩
theorem len_nil (w : World) : Calls Tryz.prog 117 #[.pointer none] w fun e w' => e = .returned (.int .i64 0) ∧ w' = w := by
  go_enter Tryz.func117, Tryz.ntmps117
  go_wp2
  go_ret
  exact ⟨rfl, rfl⟩
theorem has_yes (h : FieldAt w B p vC vH cs ch) (j : Nat) (hj : j < cs.length) : Calls Tryz.prog 100 #[.pointer (some ⟨p, 0, none⟩), .int .i64 j] w fun e w' => e = .returned (.bool true) ∧ w' = w := by
  have C := Lib.hid (len_any h)
  have hl := h.len
  clear h
  obtain ⟨n, hn⟩ : ∃ n, cs.length = n := ⟨_, rfl⟩
  rw [hn] at C hl hj
  clear hn
  have h0 : (0 : Int) ≤ (j : Int) := by omega
  have h1 : (j : Int) < (n : Int) := by omega
  go_enter Tryz.func100, Tryz.ntmps100
  go_wp2_with (go_at_call 117; refine C.out.mono ?_; rintro e wz ⟨rfl, hwz⟩; subst wz)
  go_ret
  exact ⟨rfl, rfl⟩
theorem has_no (h : FieldAt w B p vC vH cs ch) (a : Int) (ha : ¬ (0 ≤ a ∧ a < (cs.length : Int))) : Calls Tryz.prog 100 #[.pointer (some ⟨p, 0, none⟩), .int .i64 a] w fun e w' => e = .returned (.bool false) ∧ w' = w := by
  have C := Lib.hid (len_any h)
  have hl := h.len
  clear h
  obtain ⟨n, hn⟩ : ∃ n, cs.length = n := ⟨_, rfl⟩
  rw [hn] at C hl ha
  clear hn
  by_cases h0 : 0 ≤ a
  · have h1 : decide (a < (n : Int)) = false := by simp; omega
    clear ha
    go_enter Tryz.func100, Tryz.ntmps100
    go_wp2_with (go_at_call 117; refine C.out.mono ?_; rintro e wz ⟨rfl, hwz⟩; subst wz)
    go_ret
    exact ⟨rfl, rfl⟩
  · clear ha
    go_enter Tryz.func100, Tryz.ntmps100
    go_wp2
    go_ret
    exact ⟨rfl, rfl⟩
theorem has_nil (a : Int) (w : World) : Calls Tryz.prog 100 #[.pointer none, .int .i64 a] w fun e w' => e = .returned (.bool false) ∧ w' = w := by
  have C := Lib.hid (len_nil w)
  by_cases h0 : 0 ≤ a
  · have h1 : decide (a < (0 : Int)) = false := by simp; omega
    go_enter Tryz.func100, Tryz.ntmps100
    go_wp2_with (go_at_call 117; refine C.out.mono ?_; rintro e wz ⟨rfl, hwz⟩; subst wz)
    go_ret
    exact ⟨rfl, rfl⟩
  · go_enter Tryz.func100, Tryz.ntmps100
    go_wp2
    go_ret
    exact ⟨rfl, rfl⟩
theorem load_yes (h : FieldAt w B p vC vH cs ch) (j : Nat) (x : Int) (hj : cs[j]? = some x) : Calls Tryz.prog 108 #[.pointer (some ⟨p, 0, none⟩), .int .i64 j] w fun e w' => e = .returned (.tuple #[.int .i64 x, .bool true]) ∧ w' = w := by
  have hlt := (List.getElem?_eq_some_iff.1 hj).1
  have C := Lib.hid (has_yes h j hlt)
  have hl := h.len
  obtain ⟨g, cap, e, hc, _, _⟩ := h.cells.row (by rw [vals_length]; omega)
  rw [vals_length] at e
  have k := hc j (.int .i64 x) (by simp [vals, hj])
  have c0 := h.c0
  rw [e] at c0
  obtain ⟨n, hn⟩ : ∃ n, cs.length = n := ⟨_, rfl⟩
  rw [hn] at c0 hl hlt
  clear hn hc hj h e
  have h0 : (0 : Int) ≤ (j : Int) := by omega
  have h1 : (j : Int) < (n : Int) := by omega
  go_enter Tryz.func108, Tryz.ntmps108
  go_wp2_with (go_at_call 100; refine C.out.mono ?_; rintro e wz ⟨rfl, hwz⟩; subst wz)
  go_ret2
  exact ⟨rfl, rfl⟩
theorem load_no (h : FieldAt w B p vC vH cs ch) (a : Int) (ha : ¬ (0 ≤ a ∧ a < (cs.length : Int))) : Calls Tryz.prog 108 #[.pointer (some ⟨p, 0, none⟩), .int .i64 a] w fun e w' => e = .returned (.tuple #[.int .i64 0, .bool false]) ∧ w' = w := by
  have C := Lib.hid (has_no h a ha)
  clear h ha
  go_enter Tryz.func108, Tryz.ntmps108
  go_wp2_with (go_at_call 100; refine C.out.mono ?_; rintro e wz ⟨rfl, hwz⟩; subst wz)
  go_ret2
  exact ⟨rfl, rfl⟩
theorem load_nil (a : Int) (w : World) : Calls Tryz.prog 108 #[.pointer none, .int .i64 a] w fun e w' => e = .returned (.tuple #[.int .i64 0, .bool false]) ∧ w' = w := by
  have C := Lib.hid (has_nil a w)
  go_enter Tryz.func108, Tryz.ntmps108
  go_wp2_with (go_at_call 100; refine C.out.mono ?_; rintro e wz ⟨rfl, hwz⟩; subst wz)
  go_ret2
  exact ⟨rfl, rfl⟩
theorem all_any (h : FieldAt w B p vC vH cs ch) : Calls Tryz.prog 78 #[.pointer (some ⟨p, 0, none⟩)] w fun e w' => ∃ c, e = .returned c ∧ Owns w' w.heap.size 3 c (vals cs) ∧ Below w.heap.size w w' := by
  have C := Lib.hid (clone_any vC B cs w h.cells (by have := h.len; omega))
  have c0 := h.c0
  clear h
  go_enter Tryz.func78, Tryz.ntmps78
  go_wp2_with fail
  refine C.out.mono ?_
  rintro e w1 ⟨c, rfl, hO, hB⟩
  have HO := Lib.hid hO
  have HB := Lib.hid hB
  clear hO hB C
  go_wp2
  go_ret
  exact ⟨c, rfl, HO.out, HB.out⟩
theorem all_nil (w : World) : Calls Tryz.prog 78 #[.pointer none] w fun e w' => e = .returned (.slice none 0 0) ∧ w' = w := by
  go_enter Tryz.func78, Tryz.ntmps78
  go_wp2
  go_ret
  exact ⟨rfl, rfl⟩
end
end Go.Proofs.YthnciokmomgfeaaGreatDoor.Fld/- Package field: storing. -/
namespace Go.Proofs.YthnciokmomgfeaaGreatDoor.Fld
open Go.RowKit Book Go.Proofs.YthnciokmomgfeaaGreatDoor.Mem Mem
set_option linter.unusedSimpArgs false
set_option linter.unusedVariables false
section
variable {w : World} {B p : Nat} {vC vH : Value} {cs ch : List Int}
theorem store_no (h : FieldAt w B p vC vH cs ch) (a v : Int) (ha : ¬ (0 ≤ a ∧ a < (cs.length : Int))) : Calls Tryz.prog 76 #[.pointer (some ⟨p, 0, none⟩), .int .i64 a, .int .i64 v] w fun e w' => e = .returned (.bool false) ∧ w' = w := by
  have C := Lib.hid (has_no h a ha)
  clear h ha
  go_enter Tryz.func76, Tryz.ntmps76
  go_wp2_with (go_at_call 100; refine C.out.mono ?_; rintro e wz ⟨rfl, hwz⟩; subst wz)
  go_ret
  exact ⟨rfl, rfl⟩
theorem store_nil (a v : Int) (w : World) : Calls Tryz.prog 76 #[.pointer none, .int .i64 a, .int .i64 v] w fun e w' => e = .returned (.bool false) ∧ w' = w := by
  have C := Lib.hid (has_nil a w)
  go_enter Tryz.func76, Tryz.ntmps76
  go_wp2_with (go_at_call 100; refine C.out.mono ?_; rintro e wz ⟨rfl, hwz⟩; subst wz)
  go_ret
  exact ⟨rfl, rfl⟩
/-- a memory into one of whose cells something is stored -/
def Stored (w : World) (B p : Nat) (vC vH : Value) (cs ch : List Int) (j : Nat) (v : Int) (e : Ending) (w' : World) : Prop :=
  ∃ vH', e = .returned (.bool true) ∧ FieldAt w' B p vC vH' (cs.set j v) (chg ch j) ∧ Stirred w w' (foot p vC vH) ∧ (blk vH' = blk vH ∨ ∃ k, blk vH' = some k ∧ w.heap.size ≤ k)
theorem Mem.FieldAt.cell (h : FieldAt w B p vC vH cs ch) {j : Nat} (hj : j < cs.length) : ∃ g cap x, vC = .slice (some ⟨g, 0, none⟩) cs.length cap ∧ blk vC = some g ∧ w.cell? ⟨g, j, none⟩ = some x ∧ w.frozen? ⟨g, j, none⟩ = false := by
  obtain ⟨g, cap, e, hc, hf, hl⟩ := h.cells.row (by rw [vals_length]; omega)
  rw [vals_length] at e hl
  exact ⟨g, cap, _, e, by rw [e]; exact blk_pos (by omega), hc j (.int .i64 cs[j]) (by simp [vals, hj]), hf j⟩
theorem Mem.FieldAt.stored (h : FieldAt w B p vC vH cs ch) {j g : Nat} (v : Int) (hg : blk vC = some g) : FieldAt (w.setCell ⟨g, j, none⟩ (.int .i64 v)) B p vC vH (cs.set j v) ch := by
  have hs := Stirred.setCell w ⟨g, j, none⟩ (.int .i64 v)
  obtain ⟨g', cap, e⟩ := h.form
  subst e
  have hgg : g' = g := by
    simp only [blk] at hg
    split at hg
    · cases hg
    · simpa using hg
  subst hgg
  have hpg : p ≠ g' := fun e => h.pC.1 (by rw [hg, e])
  have hl : (vals (cs.set j v)) = (vals cs).set j (.int .i64 v) := by simp [vals, List.map_set]
  refine ⟨hs.whole h.whole (by simpa using hpg), h.le, by rw [hl]; exact h.cells.stored j _, ⟨g', cap, by rw [List.length_set]⟩, by rw [List.length_set]; exact h.len, h.chd.touch hs (fun k hk hm => ?_), h.bare, h.sort, by rw [List.length_set]; exact h.within, h.apart⟩
  simp at hm
  subst hm
  exact h.apart _ hg hk
theorem Mem.FieldAt.put (h : FieldAt w B p vC vH cs ch) {w' : World} {v' : Value} {j : Nat} (hj : j < cs.length) (hn : (j : Int) ∉ ch) (ho : Owns w' B 3 v' (vals (Mem.put ch j))) (hs : Stirred w w' (blk vH).toList) (hb : blk v' = blk vH ∨ ∃ k, blk v' = some k ∧ w.heap.size ≤ k) :
    FieldAt (w'.setCell ⟨p, 1, none⟩ v') B p vC v' cs (Mem.put ch j) ∧ Stirred w (w'.setCell ⟨p, 1, none⟩ v') (p :: (blk vH).toList) := by
  have hp : p ∉ (blk vH).toList := fun hm => h.pC.2 (by simpa using hm)
  have hw := whole_set (hs.whole h.whole hp) 1 v'
  have ht := Stirred.setCell w' ⟨p, 1, none⟩ v'
  have hc : Owns w' B 3 vC (vals cs) := h.cells.touch hs (fun k hk hm => h.apart k hk (by simpa using hm))
  have hv : blk v' ≠ some p := fun e => by
    rcases hb with e' | ⟨k, e', hk⟩
    · exact h.pC.2 (by rw [← e', e])
    · rw [e] at e'
      have := whole_lt h.whole
      simp at e'
      omega
  refine ⟨⟨hw, h.le, hc.touch ht (fun k hk hm => by simp at hm; subst hm; exact h.pC.1 hk), h.form, h.len, ho.touch ht (fun k hk hm => by simp at hm; subst hm; exact hv hk), fun e => ?_, put_sort h.sort hn, fun x hx => ?_, fun k hk e => ?_⟩, (hs.more (fun k hk => List.mem_cons_of_mem _ hk)).trans ht (fun k hk => .inl (by simp at hk; simp [hk]))⟩
  · have := (put_mem ch j j).2 (.inl rfl)
    rw [e] at this
    cases this
  · rcases (put_mem ch j x).1 hx with rfl | hx
    · exact ⟨by omega, by omega⟩
    · exact h.within x hx
  · rcases hb with e' | ⟨k', e', hk'⟩
    · exact h.apart k hk (by rw [← e', e])
    · rw [e] at e'
      have := (h.cells.block k hk).2.1
      simp at e'
      omega
set_option maxHeartbeats 2000000 in
theorem store_yes (h : FieldAt w B p vC vH cs ch) (hB : B ≤ w.heap.size) (j : Nat) (v : Int) (hj : j < cs.length) : Calls Tryz.prog 76 #[.pointer (some ⟨p, 0, none⟩), .int .i64 j, .int .i64 v] w (Stored w B p vC vH cs ch j v) := by
  have C := Lib.hid (has_yes h j hj)
  have HF := Lib.hid h
  have hl := h.len
  have HJ := Lib.hid hj
  have hchl := Lib.hid h.chLen
  have c1 := h.c1
  have D := Lib.hid (search_any vH B ch j w h.chd h.sort (by have := h.chLen; omega))
  obtain ⟨n, hn⟩ : ∃ n, cs.length = n := ⟨_, rfl⟩
  have HN := Lib.hid hn
  rw [hn] at hl
  have hjn : (j : Int) < (n : Int) := by omega
  have hj0 : (0 : Int) ≤ (j : Int) := by omega
  by_cases hk : ch.contains (j : Int) = true
  · have HK := Lib.hid hk
    rw [hk] at D
    clear h hj hn hk
    go_enter Tryz.func76, Tryz.ntmps76
    go_wp2_with (go_at_call 100; refine C.out.mono ?_; rintro e wz ⟨rfl, hwz⟩; subst wz)
    (with_reducible refine D.out.mono ?_)
    rintro e wa ⟨rfl, q, hq⟩
    have hs : Stirred w wa [] := by rw [hq]; exact Stirred.drewN _ _ _
    have hF := HF.out.touch hs (fun _ _ => List.not_mem_nil)
    obtain ⟨g', cap', x, e', hb', k1, f1⟩ := hF.cell HJ.out
    have c0 := hF.c0
    rw [e', HN.out] at c0
    have HS := Lib.hid hs
    have HR := Lib.hid (hF.stored (j := j) v hb')
    have HG := Lib.hid hb'
    clear hq hs hF e' hb' c1
    go_wp2
    go_ret
    refine ⟨vH, rfl, by unfold chg; rw [if_pos HK.out]; exact HR.out, (HS.out.more (cs := foot p vC vH) (fun _ h => by cases h)).trans (Stirred.setCell wa ⟨g', j, none⟩ (.int .i64 v)) (fun k hk => .inl ?_), .inl rfl⟩
    simp at hk
    subst hk
    exact List.mem_cons_of_mem _ (List.mem_append_left _ (by simp [HG.out]))
  · have HK := Lib.hid hk
    have hk' : ch.contains (j : Int) = false := by simpa using hk
    rw [hk'] at D
    clear h hj hn hk hk'
    go_enter Tryz.func76, Tryz.ntmps76
    go_wp2_with (go_at_call 100; refine C.out.mono ?_; rintro e wz ⟨rfl, hwz⟩; subst wz)
    (with_reducible refine D.out.mono ?_)
    rintro e wa ⟨rfl, q, hq⟩
    have hs : Stirred w wa [] := by rw [hq]; exact Stirred.drewN _ _ _
    have hF := HF.out.touch hs (fun _ _ => List.not_mem_nil)
    have c1 := hF.c1
    have HS := Lib.hid hs
    have HF1 := Lib.hid hF
    have hba := Nat.le_trans hB hs.size
    clear hq hs hF
    have hal := (Below.refl wa.heap.size wa).alloc (Nat.le_refl _) (.cells #[.int .i64 j] 3)
    have I := Lib.hid (insert_any vH B (vals ch) (lessN ch j) (.int .i64 j) wa.heap.size (wa.alloc (.cells #[.int .i64 j] 3)) (HF1.out.chd.below hal) (fun e => HF1.out.bare (List.map_eq_nil_iff.1 e)) (by rw [vals_length]; exact lessN_le _ _) (by rw [vals_length]; have := hchl.out; have := HN.out; omega)
      (vals_one _) rfl (heap_alloc_new wa _) (fun e => Nat.lt_irrefl _ (HF1.out.chd.block _ e).2.1) (by simp; omega))
    rw [vals_put] at I
    go_wp2_with fail
    refine I.out.mono ?_
    rintro e w1 ⟨v', rfl, ho, hs, hb⟩
    obtain ⟨vo, vc, hv⟩ := ho.slice
    obtain ⟨L, hL⟩ : ∃ L, (vals (Mem.put ch j)).length = L := ⟨_, rfl⟩
    rw [hL] at hv
    subst hv
    clear hL
    have hFb := HF1.out.below hal
    have hn : (j : Int) ∉ ch := by have := HK.out; simpa using this
    have hP := hFb.put HJ.out hn ho hs hb
    have hp : p ∉ (blk vH).toList := fun hm => hFb.pC.2 (by simpa using hm)
    have c2 := whole_cell (hs.whole hFb.whole hp) (show (#[vC, vH] : Array Value)[1]? = some vH from rfl)
    have f2 := whole_frozen (hs.whole hFb.whole hp) 1
    obtain ⟨w2, hw2⟩ : ∃ w2, w1.setCell ⟨p, 1, none⟩ (.slice vo L vc) = w2 := ⟨_, rfl⟩
    rw [hw2] at hP
    obtain ⟨g', cap', x, e', hb', k1, f1⟩ := hP.1.cell HJ.out
    have c0 := hP.1.c0
    rw [e', HN.out] at c0
    have hnew : blk (.slice vo L vc) = blk vH ∨ ∃ k, blk (.slice vo L vc) = some k ∧ w.heap.size ≤ k := by
      rcases hb with e | ⟨k', e, hk'⟩
      · exact .inl e
      · have h1 := HS.out.size
        simp at hk'
        exact .inr ⟨k', e, by omega⟩
    have hst : Stirred w (w2.setCell ⟨g', j, none⟩ (.int .i64 v)) (foot p vC vH) := by
      have h1 : Stirred w (wa.alloc (.cells #[.int .i64 j] 3)) [] := HS.out.trans (Stirred.of_below hal []) (fun _ h => by cases h)
      have h2 := (h1.more (cs := foot p vC vH) (fun _ h => by cases h)).trans hP.2 (fun k hk => .inl (by
        rcases List.mem_cons.1 hk with rfl | hk
        · exact List.mem_cons_self
        · exact List.mem_cons_of_mem _ (List.mem_append_right _ hk)))
      refine h2.trans (Stirred.setCell w2 ⟨g', j, none⟩ (.int .i64 v)) (fun k hk => .inl ?_)
      simp at hk
      subst hk
      exact List.mem_cons_of_mem _ (List.mem_append_left _ (by simp [hb']))
    have HR := Lib.hid (And.intro (hP.1.stored (j := j) v hb') (And.intro hst hnew))
    clear hFb hn hP hp ho hs hb hb' e' hnew hst I D C hal c1
    go_wp2
    go_ret
    exact ⟨_, rfl, by unfold chg; rw [if_neg HK.out]; exact HR.out.1, HR.out.2.1, HR.out.2.2⟩
end
end Go.Proofs.YthnciokmomgfeaaGreatDoor.Fld/- The code's own machine in memory (package inner): its box, two stacks, a memory of cells. -/
namespace Go.Proofs.YthnciokmomgfeaaGreatDoor.Inn
open Go.RowKit Book Mem Mach
set_option linter.unusedVariables false
abbrev cells13 (m : M) (vs vb vm : Value) (ps pb pf : Nat) : Array Value := #[.int .i64 m.ip, .int .i64 m.handler, vs, vb, vm, .string m.out, .string m.inp, .int .i64 m.read, .int .i64 m.status, .int .i64 m.code, .pointer (some ⟨ps, 0, none⟩), .pointer (some ⟨pb, 0, none⟩), .pointer (some ⟨pf, 0, none⟩)]
/-- the blocks of a machine -/
def feet (q ps gs pb gb pf : Nat) (vC vH : Value) : List Nat := q :: (foot ps gs ++ (foot pb gb ++ Fld.Mem.foot pf vC vH))
structure Mc (w : World) (B q ps gs pb gb pf : Nat) (vC vH : Value) (ch : List Int) (vs vb vm : Value) (m : M) : Prop where
  box : w.heap[q]? = some (.cells (cells13 m vs vb vm ps pb pf) 68 (0, 0))
  le : B ≤ q
  st : PileAt w B ps gs 48 m.stack
  bk : PileAt w B pb gb 48 m.back
  me : Fld.Mem.FieldAt w B pf vC vH m.mem ch
  one : vs.oneCell' = true ∧ vb.oneCell' = true ∧ vm.oneCell' = true
  dqs : q ∉ foot ps gs
  dqb : q ∉ foot pb gb
  dqm : q ∉ Fld.Mem.foot pf vC vH
  dsb : ∀ k ∈ foot ps gs, k ∉ foot pb gb
  dsm : ∀ k ∈ foot ps gs, k ∉ Fld.Mem.foot pf vC vH
  dbm : ∀ k ∈ foot pb gb, k ∉ Fld.Mem.foot pf vC vH
section
variable {w w' : World} {B q ps gs pb gb pf : Nat} {vC vH vC' vH' : Value} {ch : List Int} {vs vb vm : Value} {m : M}
theorem mem_feet {k : Nat} : k ∈ feet q ps gs pb gb pf vC vH ↔ k = q ∨ k ∈ foot ps gs ∨ k ∈ foot pb gb ∨ k ∈ Fld.Mem.foot pf vC vH := by
  unfold feet
  rw [List.mem_cons, List.mem_append, List.mem_append]
theorem Mc.feet_lt (h : Mc w B q ps gs pb gb pf vC vH ch vs vb vm m) : ∀ k ∈ feet q ps gs pb gb pf vC vH, B ≤ k ∧ k < w.heap.size := by
  intro k hk
  rcases mem_feet.1 hk with rfl | hk | hk | hk
  · exact ⟨h.le, whole_lt h.box⟩
  · exact h.st.foot_lt k hk
  · exact h.bk.foot_lt k hk
  · exact h.me.foot_lt k hk
theorem Mc.touch (h : Mc w B q ps gs pb gb pf vC vH ch vs vb vm m) {bs : List Nat} (ht : Stirred w w' bs) (hn : ∀ k ∈ feet q ps gs pb gb pf vC vH, k ∉ bs) : Mc w' B q ps gs pb gb pf vC vH ch vs vb vm m :=
  ⟨ht.whole h.box (hn q (mem_feet.2 (.inl rfl))), h.le, h.st.touch ht (fun k hk => hn k (mem_feet.2 (.inr (.inl hk)))), h.bk.touch ht (fun k hk => hn k (mem_feet.2 (.inr (.inr (.inl hk))))), h.me.touch ht (fun k hk => hn k (mem_feet.2 (.inr (.inr (.inr hk))))), h.one, h.dqs, h.dqb, h.dqm, h.dsb, h.dsm, h.dbm⟩
theorem Mc.below (h : Mc w B q ps gs pb gb pf vC vH ch vs vb vm m) (hb : Below w.heap.size w w') : Mc w' B q ps gs pb gb pf vC vH ch vs vb vm m :=
  h.touch (Stirred.of_below hb []) (fun _ _ => List.not_mem_nil)
theorem Mc.ptrs (h : Mc w B q ps gs pb gb pf vC vH ch vs vb vm m) : w.cell? ⟨q, 10, none⟩ = some (.pointer (some ⟨ps, 0, none⟩)) ∧ w.cell? ⟨q, 11, none⟩ = some (.pointer (some ⟨pb, 0, none⟩)) ∧ w.cell? ⟨q, 12, none⟩ = some (.pointer (some ⟨pf, 0, none⟩)) :=
  ⟨whole_cell h.box rfl, whole_cell h.box rfl, whole_cell h.box rfl⟩
/-- something was done to a stack -/
theorem Mc.stDid (h : Mc w B q ps gs pb gb pf vC vH ch vs vb vm m) {xs : List Int} (hp : PileAt w' B ps gs 48 xs) (ht : Stirred w w' (foot ps gs)) : Mc w' B q ps gs pb gb pf vC vH ch vs vb vm { m with stack := xs } :=
  ⟨ht.whole h.box h.dqs, h.le, hp, h.bk.touch ht (fun k hk hm => h.dsb k hm hk), h.me.touch ht (fun k hk hm => h.dsm k hm hk), h.one, h.dqs, h.dqb, h.dqm, h.dsb, h.dsm, h.dbm⟩
theorem Mc.bkDid (h : Mc w B q ps gs pb gb pf vC vH ch vs vb vm m) {xs : List Int} (hp : PileAt w' B pb gb 48 xs) (ht : Stirred w w' (foot pb gb)) : Mc w' B q ps gs pb gb pf vC vH ch vs vb vm { m with back := xs } :=
  ⟨ht.whole h.box h.dqb, h.le, h.st.touch ht (fun k hk hm => h.dsb k hk hm), hp, h.me.touch ht (fun k hk hm => h.dbm k hm hk), h.one, h.dqs, h.dqb, h.dqm, h.dsb, h.dsm, h.dbm⟩
/-- something was done to the memory -/
theorem Mc.meDid (h : Mc w B q ps gs pb gb pf vC vH ch vs vb vm m) {cs' ch' : List Int} (hp : Fld.Mem.FieldAt w' B pf vC vH' cs' ch') (ht : Stirred w w' (Fld.Mem.foot pf vC vH)) (hn : blk vH' = blk vH ∨ ∃ k, blk vH' = some k ∧ w.heap.size ≤ k) :
    Mc w' B q ps gs pb gb pf vC vH' ch' vs vb vm { m with mem := cs' } ∧ ∀ f ∈ feet q ps gs pb gb pf vC vH', f ∈ feet q ps gs pb gb pf vC vH ∨ w.heap.size ≤ f := by
  have hf : ∀ f ∈ Fld.Mem.foot pf vC vH', f ∈ Fld.Mem.foot pf vC vH ∨ w.heap.size ≤ f := by
    intro f hf
    rcases List.mem_cons.1 hf with rfl | hf
    · exact .inl List.mem_cons_self
    rcases List.mem_append.1 hf with hf | hf
    · exact .inl (List.mem_cons_of_mem _ (List.mem_append_left _ hf))
    · rcases hn with e | ⟨k, e, hk⟩
      · rw [e] at hf
        exact .inl (List.mem_cons_of_mem _ (List.mem_append_right _ hf))
      · rw [e] at hf
        simp at hf
        subst hf
        exact .inr hk
  have out : ∀ k, k < w.heap.size → k ∉ Fld.Mem.foot pf vC vH → k ∉ Fld.Mem.foot pf vC vH' := fun k hk hn' hm => by
    rcases hf k hm with e | e
    · exact hn' e
    · omega
  refine ⟨⟨ht.whole h.box h.dqm, h.le, h.st.touch ht (fun k hk hm => h.dsm k hk hm), h.bk.touch ht (fun k hk hm => h.dbm k hk hm), hp, h.one, h.dqs, h.dqb, out q (whole_lt h.box) h.dqm, h.dsb, fun k hk => out k (h.st.foot_lt k hk).2 (h.dsm k hk), fun k hk => out k (h.bk.foot_lt k hk).2 (h.dbm k hk)⟩, fun f hf' => ?_⟩
  rcases mem_feet.1 hf' with e | e | e | e
  · exact .inl (mem_feet.2 (.inl e))
  · exact .inl (mem_feet.2 (.inr (.inl e)))
  · exact .inl (mem_feet.2 (.inr (.inr (.inl e))))
  · exact (hf f e).imp (fun e => mem_feet.2 (.inr (.inr (.inr e)))) id
/-- a cell of the box is another one -/
theorem Mc.set (h : Mc w B q ps gs pb gb pf vC vH ch vs vb vm m) (j : Nat) (v : Value) (m' : M) (e : cells13 m' vs vb vm ps pb pf = (cells13 m vs vb vm ps pb pf).setIfInBounds j v) (e1 : m'.stack = m.stack) (e2 : m'.back = m.back) (e3 : m'.mem = m.mem) :
    Mc (w.setCell ⟨q, j, none⟩ v) B q ps gs pb gb pf vC vH ch vs vb vm m' := by
  have ht := Stirred.setCell w ⟨q, j, none⟩ v
  have hq : ∀ {l : List Nat}, q ∉ l → ∀ k ∈ l, k ∉ [q] := fun hl k hk hm => hl (by rw [List.mem_singleton] at hm; exact hm ▸ hk)
  refine ⟨by rw [e]; exact whole_set h.box j v, h.le, by rw [e1]; exact h.st.touch ht (hq h.dqs), by rw [e2]; exact h.bk.touch ht (hq h.dqb), by rw [e3]; exact h.me.touch ht (hq h.dqm), h.one, h.dqs, h.dqb, h.dqm, h.dsb, h.dsm, h.dbm⟩
end
/-- a machine whose blocks are these -/
def Mk (w : World) (B q : Nat) (F : List Nat) (m : M) : Prop := ∃ ps gs pb gb pf vC vH ch vs vb vm, F = feet q ps gs pb gb pf vC vH ∧ Mc w B q ps gs pb gb pf vC vH ch vs vb vm m
/-- what was done to a machine -/
def Went (w : World) (B q : Nat) (F : List Nat) (m' : M) (w' : World) : Prop := ∃ F', Mk w' B q F' m' ∧ Stirred w w' F ∧ ∀ k ∈ F', k ∈ F ∨ w.heap.size ≤ k
section
variable {w w' : World} {B q : Nat} {F : List Nat} {m m' : M}
theorem Mc.mach {ps gs pb gb pf : Nat} {vC vH : Value} {ch : List Int} {vs vb vm : Value} (h : Mc w B q ps gs pb gb pf vC vH ch vs vb vm m) : Mk w B q (feet q ps gs pb gb pf vC vH) m := ⟨ps, gs, pb, gb, pf, vC, vH, ch, vs, vb, vm, rfl, h⟩
theorem Mk.lt (h : Mk w B q F m) : ∀ k ∈ F, B ≤ k ∧ k < w.heap.size := by
  obtain ⟨ps, gs, pb, gb, pf, vC, vH, ch, vs, vb, vm, rfl, h⟩ := h
  exact h.feet_lt
theorem Mk.self (h : Mk w B q F m) : q ∈ F := by
  obtain ⟨ps, gs, pb, gb, pf, vC, vH, ch, vs, vb, vm, rfl, h⟩ := h
  exact mem_feet.2 (.inl rfl)
theorem Mk.touch (h : Mk w B q F m) {bs : List Nat} (ht : Stirred w w' bs) (hn : ∀ k ∈ F, k ∉ bs) : Mk w' B q F m := by
  obtain ⟨ps, gs, pb, gb, pf, vC, vH, ch, vs, vb, vm, rfl, h⟩ := h
  exact (h.touch ht hn).mach
theorem Mk.below (h : Mk w B q F m) (hb : Below w.heap.size w w') : Mk w' B q F m := h.touch (Stirred.of_below hb []) (fun _ _ => List.not_mem_nil)
theorem Mk.stays (h : Mk w B q F m) : Went w B q F m w := ⟨F, h, Stirred.refl _ _, fun k hk => .inl hk⟩
theorem Mk.went (h : Mk w' B q F m') (hs : Stirred w w' F) : Went w B q F m' w' := ⟨F, h, hs, fun k hk => .inl hk⟩
theorem Went.below (h : Went w B q F m' w') (hF : ∀ k ∈ F, B ≤ k) (hB : B ≤ w.heap.size) : Below B w w' := by
  obtain ⟨F', h1, h2, h3⟩ := h
  exact h2.below hF hB
theorem Went.trans {w1 : World} {m1 : M} (h : Went w B q F m1 w1) (g : ∀ F1, Mk w1 B q F1 m1 → (∀ k ∈ F1, k ∈ F ∨ w.heap.size ≤ k) → Went w1 B q F1 m' w') : Went w B q F m' w' := by
  obtain ⟨F1, h1, h2, h3⟩ := h
  obtain ⟨F2, g1, g2, g3⟩ := g F1 h1 h3
  refine ⟨F2, g1, h2.trans g2 h3, fun k hk => ?_⟩
  rcases g3 k hk with e | e
  · exact h3 k e
  · exact .inr (Nat.le_trans h2.size e)
/-- new memory alone, then something done -/
theorem Went.from {w1 : World} (hb : Below w.heap.size w w1) (g : Went w1 B q F m' w') : Went w B q F m' w' := by
  obtain ⟨F', g1, g2, g3⟩ := g
  exact ⟨F', g1, (Stirred.of_below hb F).trans g2 (fun k hk => .inl hk), fun k hk => (g3 k hk).imp id (fun e => Nat.le_trans hb.size e)⟩
end
/-- an operation that is done: its box; what it took -/
abbrev cells8 (k g at' nx : Int) (ts tb gs gb : Value) : Array Value := #[.int .i64 k, .int .i64 g, ts, tb, gs, gb, .int .i64 at', .int .i64 nx]
end Go.Proofs.YthnciokmomgfeaaGreatDoor.Inn
/- Package inner: the topmost cells of a stack. -/
namespace Go.Proofs.YthnciokmomgfeaaGreatDoor.Inn
open Go.RowKit Book Mem Mach
set_option linter.unusedVariables false
set_option linter.unusedSimpArgs false
theorem fill_step {cs : List Int} {n k : Nat} {x : Int} (hk : k < n) (hn : n ≤ cs.length) (hx : cs[cs.length - 1 - k]? = some x) :
    (List.replicate (n - k) (0 : Int) ++ cs.drop (cs.length - k)).set (n - 1 - k) x = List.replicate (n - (k + 1)) 0 ++ cs.drop (cs.length - (k + 1)) := by
  have h1 : n - k = (n - (k + 1)) + 1 := by omega
  have h2 : n - 1 - k = n - (k + 1) := by omega
  have h3 : cs.drop (cs.length - (k + 1)) = x :: cs.drop (cs.length - k) := by
    have hlt : cs.length - 1 - k < cs.length := by omega
    rw [show cs.length - (k + 1) = cs.length - 1 - k by omega, List.drop_eq_getElem_cons hlt, show cs.length - 1 - k + 1 = cs.length - k by omega]
    congr 1
    rw [List.getElem?_eq_getElem hlt] at hx
    simpa using hx
  rw [h1, h2, List.replicate_succ', List.append_assoc, List.set_append_right _ _ (by simp), h3]
  simp
/-- a row of the call's own that is known whole -/
def Row (w : World) (B g : Nat) (xs : List Int) : Prop := w.heap[g]? = some (.cells (vals xs).toArray 3 (0, 0)) ∧ B ≤ g
abbrev rowV (g n : Nat) : Value := .slice (some ⟨g, 0, none⟩) n n
theorem Row.below {w w' : World} {B g : Nat} {xs : List Int} (h : Row w B g xs) (hb : Below w.heap.size w w') : Row w' B g xs := ⟨(Stirred.of_below hb []).whole h.1 List.not_mem_nil, h.2⟩
theorem Row.from {w : World} {B B' g : Nat} {xs : List Int} (h : Row w B g xs) (hb : B' ≤ B) : Row w B' g xs := ⟨h.1, Nat.le_trans hb h.2⟩
theorem Row.touch {w w' : World} {B g : Nat} {xs : List Int} {bs : List Nat} (h : Row w B g xs) (hs : Stirred w w' bs) (hn : g ∉ bs) : Row w' B g xs := ⟨hs.whole h.1 hn, h.2⟩
theorem Row.cell {w : World} {B g : Nat} {xs : List Int} (h : Row w B g xs) {j : Nat} {x : Int} (hx : xs[j]? = some x) : w.cell? ⟨g, j, none⟩ = some (.int .i64 x) := whole_cell h.1 (by simp [vals, hx])
theorem Row.reads {w : World} {B g : Nat} {xs : List Int} (h : Row w B g xs) {n : Nat} (hn : xs.length = n) : Reads w (rowV g n) xs := by
  subst hn
  exact ⟨some ⟨g, 0, none⟩, xs.length, rfl, fun j x hj => ⟨_, rfl, by rw [add_row]; exact h.cell hj⟩⟩
/-- what 'top' answers -/
def Tops (xs : List Int) (n : Nat) (w : World) (e : Ending) (w' : World) : Prop := ∃ g, e = .returned (rowV g n) ∧ Row w' w.heap.size g xs ∧ Below w.heap.size w w'
set_option maxHeartbeats 4000000 in
theorem top_any {w : World} {B p gp room : Nat} {cs : List Int} (h : PileAt w B p gp room cs) (n : Nat) (hn : n ≤ cs.length) :
    Calls Tryz.prog 128 #[.pointer (some ⟨p, 0, none⟩), .int .i64 n] w (Tops (cs.drop (cs.length - n)) n w) := by
  obtain ⟨i0, q1, q2, q3, q4⟩ := info_parts Tryz.bkIntInfo
  have HI := Lib.hid (And.intro q1 (And.intro q2 (And.intro q3 q4)))
  clear q1 q2 q3 q4
  have HP := Lib.hid h
  have hfit := h.fits
  have hmost := h.most
  have hn9 : n ≤ 1000 := by omega
  have HN := Lib.hid hn
  clear h hn
  go_enter Tryz.func128, Tryz.ntmps128
  go_wp2_with (at_make; refine wpList_make_full _ rfl _ _ 22 rfl w.heap.size 3 i0 (.int .i64 0) 1 Tryz.underlying22 HI.out.1 HI.out.2.1 HI.out.2.2.1 .i64 .i64 _ _ n rfl rfl ?a1 ?a2 ?a3 ?a4 (Nat.le_refl _) ?_)
  case a1 => rfl
  case a2 => rfl
  case a3 => rw [HI.out.2.2.2]; omega
  case a4 => unfold maxLen; omega
  intro w1 hO hG
  rw [toList_madeCells_one] at hO
  have hrow := row_whole hO
  have hz := hG.size
  obtain ⟨g, hg⟩ : ∃ g, w.heap.size = g := ⟨_, rfl⟩
  rw [hg] at hrow
  have HGW := Lib.hid hg
  have hb1 := (Stirred.of_grown hG).below (B := w.heap.size) (fun k h => by cases h) (Nat.le_refl _)
  have HB := Lib.hid hb1
  have HR0 := Lib.hid (show w1.heap[g]? = some (.cells (vals (List.replicate (n - 0) 0 ++ cs.drop (cs.length - 0))).toArray 3 (0, 0)) from by rw [hrow]; simp [vals])
  rw [hg]
  clear hO hG hrow hz hb1 hg
  go_wp2
  go_loopg [11] n (fun m i wr => ∃ k : Nat, m = n - k ∧ k ≤ n ∧ i = .int .i64 k ∧ Hid (wr.heap[g]? = some (.cells (vals (List.replicate (n - k) 0 ++ cs.drop (cs.length - k))).toArray 3 (0, 0))) ∧ Hid (Below w.heap.size w wr))
  case atStart => exact ⟨0, rfl, Nat.zero_le _, rfl, HR0, HB⟩
  case round =>
    obtain ⟨k, rfl, hk, rfl, HR, HB⟩ := hrel
    by_cases hlt : k < n
    · have hj : cs.length - 1 - k < cs.length := by have := HN.out; omega
      obtain ⟨x, hx⟩ : ∃ x, cs[cs.length - 1 - k]? = some x := ⟨_, List.getElem?_eq_getElem hj⟩
      have C := Lib.hid (peek_yes (HP.out.below HB.out) k x (by have := HN.out; omega) hx)
      have HX := Lib.hid hx
      obtain ⟨i, hi⟩ : ∃ i, n - 1 - k = i := ⟨_, rfl⟩
      have HII := Lib.hid hi
      have e1 : (n : Int) - 1 - (k : Int) = (i : Int) := by omega
      have e2 : (0 : Int) ≤ (i : Int) := by omega
      have e3 : (i : Int) < (n : Int) := by omega
      have e4 : (n : Int) - 1 = (i : Int) + (k : Int) := by omega
      have HLT := Lib.hid hlt
      clear hj hx hi
      go_wp2_with fail
      refine C.out.mono ?_
      rintro e wz ⟨rfl, q, hq⟩
      have HR1 := Lib.hid (show wz.heap[g]? = some (.cells (vals (List.replicate (n - k) 0 ++ cs.drop (cs.length - k))).toArray 3 (0, 0)) by rw [hq]; exact HR.out)
      have HB1 := Lib.hid (show Below w.heap.size w wz by rw [hq]; exact HB.out.trans ((Stirred.drewN wr q []).below (fun _ h => by cases h) HB.out.size))
      clear hq C HR HB
      have f1 : wz.frozen? ⟨g, i, none⟩ = false := whole_frozen HR1.out i
      obtain ⟨y, c1⟩ : ∃ y, wz.cell? ⟨g, i, none⟩ = some y := by
        have hl : i < (vals (List.replicate (n - k) 0 ++ cs.drop (cs.length - k))).length := by rw [vals_length, List.length_append, List.length_replicate, List.length_drop]; have := HN.out; omega
        exact ⟨_, whole_cell HR1.out (by rw [List.getElem?_toArray, List.getElem?_eq_getElem hl])⟩
      have hs := Stirred.setCell wz ⟨g, i, none⟩ (.int .i64 x)
      have hw := whole_set HR1.out i (.int .i64 x)
      have HR2 := Lib.hid (show (wz.setCell ⟨g, i, none⟩ (.int .i64 x)).heap[g]? = some (.cells (vals (List.replicate (n - (k + 1)) 0 ++ cs.drop (cs.length - (k + 1)))).toArray 3 (0, 0)) by
        rw [hw, List.setIfInBounds_toArray, vals_set, ← HII.out, fill_step HLT.out HN.out HX.out])
      have HB2 := Lib.hid (HB1.out.trans (hs.below (B := w.heap.size) (fun z hz => by rw [List.mem_singleton.1 hz]; exact Nat.le_of_eq HGW.out) HB1.out.size))
      clear hs hw HR1 HB1
      go_wp2
      go_roundg (n - (k + 1))
      case measure => omega
      case rel => exact ⟨k + 1, rfl, by omega, by go_num, HR2, HB2⟩
    · obtain rfl : k = n := by omega
      go_wp2
      go_ret
      refine ⟨g, rfl, ⟨?_, Nat.le_of_eq HGW.out⟩, HB.out⟩
      have := HR.out
      rw [Nat.sub_self] at this
      exact this
end Go.Proofs.YthnciokmomgfeaaGreatDoor.Inn
/- Boxes: laws for the walk at blocks of many cells; the worlds behind them are letters with facts. No program in sight. -/
namespace Go.Proofs.YthnciokmomgfeaaGreatDoor.Book
open Go.RowKit
set_option linter.unusedVariables false
theorem Stirred.setRow (w : World) (g : Nat) (cs : Array Value) : Stirred w (w.setRow g cs) [g] :=
  ⟨rfl, rfl, rfl, by simp [World.setRow], fun k hk hn => setRow_other w g k cs (fun e => hn (by rw [e]; exact List.mem_singleton_self _))⟩
section
variable {P : Program} {ops : Array Oper} {rest : List Oper} {o : Oper} {a : Act} {w : World} {Q : Exit → Act → World → Prop}
/-- is a type's value one of many cells? -/
def many : TypeDesc → Bool
  | .struct _ => true
  | .array _ _ => true
  | _ => false
theorem run_isAgg {ty : TypeId} {d : TypeDesc} (hu : P.underlying ty = some d) (w : World) : (isAgg ty).run P w = .ok (many d) w := by
  unfold isAgg
  rw [Sem.run_bind, run_underlying hu w]
  cases d <;> rfl
/-- a cell is read -/
theorem wpList_getf (hw : Region.wanted o (yielded ops a.tmps) = true) (ty : TypeId) (x : Operand) (ho : o.op = .load ty x) (d : TypeDesc) (hu : P.underlying ty = some d) (hd : many d = false)
    (ad : Addr) (hx : a.eval x = .pointer (some ad)) (v : Value) (hc : w.cell? ad = some v) (h : wpList P ops Q rest (a.put o.dst v) w) : wpList P ops Q (o :: rest) a w := by
  refine wpList_step fun K hK => ?_
  rw [if_pos hw]
  have hl : (loadVar ty ad).run P w = .ok v w := by
    simp [loadVar, run_isAgg hu, hd, hc]
  unfold Oper.wp execOp
  simp only [ho, hx, Instr.loadAt, Instr.sureAddr, Sem.run_bind, Sem.run_pure, Result.andThen_ok, hl]
  exact hK _ _ h
/-- a cell of a box is written -/
theorem wpList_setf (hw : Region.wanted o (yielded ops a.tmps) = true) (ty : TypeId) (x y : Operand) (ho : o.op = .store ty x y) (hi : (P.info? ty).map (·.size) = some 1)
    (g j : Nat) (hx : a.eval x = .pointer (some ⟨g, j, none⟩)) (v : Value) (hy : a.eval y = v) (h1 : v.oneCell' = true) (cs : Array Value) (T : TypeId) (hg : w.heap[g]? = some (.cells cs T (0, 0))) (hj : j < cs.size)
    (h : ∀ w', w'.heap[g]? = some (.cells (cs.setIfInBounds j v) T (0, 0)) → Stirred w w' [g] → wpList P ops Q rest (a.put o.dst undef) w') : wpList P ops Q (o :: rest) a w := by
  refine wpList_step fun K hK => ?_
  rw [if_pos hw]
  have hc : v.cells = #[v] := by cases v <;> first | rfl | cases h1
  have hcell : w.cell? ⟨g, j, none⟩ = some cs[j] := whole_cell hg (by simp [hj])
  have hfro : w.frozen? ⟨g, j, none⟩ = false := whole_frozen hg j
  have hs : (storeVar ty ⟨g, j, none⟩ v).run P w = .ok () (w.setCell ⟨g, j, none⟩ v) := by
    have := run_storeCells_at (P := P) g j T [v] 0 cs w hg (by simp; omega) (fun u hu => by simp at hu; subst hu; exact h1)
    cases hq : P.info? ty with
    | none => simp [hq] at hi
    | some i =>
      have hs : i.size = 1 := by simpa [hq] using hi
      have hadd : (⟨g, j, none⟩ : Addr).add 0 = ⟨g, j, none⟩ := by simp [Addr.add]
      simp [storeVar, sizeOf, typeInfo, hq, hc, hs, storeCells, hadd, run_store P w ⟨g, j, none⟩ v _ h1, hcell, hfro]
  unfold Oper.wp execOp
  simp only [ho, hx, hy, Instr.storeAt, Instr.sureAddr, Sem.run_bind, Sem.run_pure, Result.andThen_ok, hs]
  exact hK _ _ (h _ (whole_set hg j v) (Stirred.setCell w ⟨g, j, none⟩ v))
/-- a box is read whole -/
theorem wpList_getbox (hw : Region.wanted o (yielded ops a.tmps) = true) (ty : TypeId) (x : Operand) (ho : o.op = .load ty x) (d : TypeDesc) (hu : P.underlying ty = some d) (hd : (match d with | .struct _ | .array _ _ => true | _ => false) = true)
    (g : Nat) (hx : a.eval x = .pointer (some ⟨g, 0, none⟩)) (cs : Array Value) (T : TypeId) (hg : w.heap[g]? = some (.cells cs T (0, 0))) (hi : (P.info? ty).map (·.size) = some cs.size)
    (h : wpList P ops Q rest (a.put o.dst (.agg cs)) w) : wpList P ops Q (o :: rest) a w := by
  refine wpList_step fun K hK => ?_
  rw [if_pos hw]
  exact wp_load_row ty x ho g hx T cs (0, 0) d hg hu hd hi (hK _ _ h)
/-- a box is written whole -/
theorem wpList_setbox (hw : Region.wanted o (yielded ops a.tmps) = true) (ty : TypeId) (x y : Operand) (ho : o.op = .store ty x y)
    (g : Nat) (cells : Array Value) (hx : a.eval x = .pointer (some ⟨g, 0, none⟩)) (hy : a.eval y = .agg cells) (old : Array Value) (T : TypeId) (hg : w.heap[g]? = some (.cells old T (0, 0))) (hi : (P.info? ty).map (·.size) = some cells.size)
    (hold : old.size = cells.size) (h1 : cells.all (·.oneCell') = true)
    (h : ∀ w', w'.heap[g]? = some (.cells cells T (0, 0)) → Stirred w w' [g] → wpList P ops Q rest (a.put o.dst undef) w') : wpList P ops Q (o :: rest) a w := by
  refine wpList_step fun K hK => ?_
  rw [if_pos hw]
  exact wp_store_row ty x y ho g cells hx hy T old hg hi hold h1 (hK _ _ (h _ (setRow_heap w g old cells T (0, 0) hg) (Stirred.setRow w g cells)))
/-- a slice literal of numbers -/
theorem wpList_lit (hw : Region.wanted o (yielded ops a.tmps) = true) (t E : TypeId) (len : Nat) (parts : Array (Nat × Operand)) (ho : o.op = .buildSlice t len parts) (xs : List Int) (ie : TypeInfo)
    (hu : P.underlying t = some (.slice E)) (hie : P.info? E = some ie) (hz : ie.zero = some (.int .i64 0)) (hsz : ie.size = 1) (hsmall : xs.length ≤ 1000000) (hpos : 0 < xs.length) (hsc : len = xs.length)
    (hf : (parts.toList.map fun x => (x.1, a.eval x.2)) = ((xs.map (Value.int .i64)).zipIdx 0).map fun x => (x.2, x.1))
    (h : ∀ g w', w.heap.size ≤ g → Owns w' w.heap.size E (.slice (some ⟨g, 0, none⟩) len len) (xs.map (Value.int .i64)) → Below w.heap.size w w' → wpList P ops Q rest (a.put o.dst (.slice (some ⟨g, 0, none⟩) len len)) w') : wpList P ops Q (o :: rest) a w := by
  subst hsc
  refine wpList_step fun K hK => ?_
  rw [if_pos hw]
  have hn : (xs.map (Value.int .i64)).length = xs.length := List.length_map _
  refine wp_buildSlice t E xs.length parts ho (xs.map (Value.int .i64)).toArray ie (.int .i64 0) hu hie hz (by rw [hsz]; omega) (by rw [hsz]; omega) ?_ ?_
  · have hf' : (parts.map fun (i, x) => (i, a.eval x)).toList = ((xs.map (Value.int .i64)).zipIdx 0).map fun x => (x.2, x.1) := by
      rw [Array.toList_map]
      exact hf
    rw [hsz, hf']
    exact Great.fill_flat _ _ (fun v hv => by obtain ⟨n, _, rfl⟩ := List.mem_map.1 hv; rfl) (by simp)
  · refine hK _ _ (h _ _ (Nat.le_refl _) (.inr ⟨w.heap.size, xs.length, (xs.map (Value.int .i64)).toArray, by rw [hn], hpos, Nat.le_refl _, heap_alloc_new w _, by rw [hn]; exact Nat.le_refl _, by unfold maxLen; omega, by simp, ?_⟩) ((Below.refl w.heap.size w).alloc (Nat.le_refl _) _))
    exact List.take_length
end
end Go.Proofs.YthnciokmomgfeaaGreatDoor.Book
/- The document's own machine (chapter 9): a state's box, copying, which may be, beginning a word. -/
namespace Go.Proofs.YthnciokmomgfeaaGreatDoor.Mach
open Go.RowKit Book Mem
set_option linter.unusedVariables false
set_option linter.unusedSimpArgs false
abbrev cells10 (ip hn : Int) (vs vb vm : Value) (ou inn : ByteArray) (rd stt cd : Int) : Array Value := #[.int .i64 ip, .int .i64 hn, vs, vb, vm, .string ou, .string inn, .int .i64 rd, .int .i64 stt, .int .i64 cd]
abbrev zero10 : Array Value := #[.int .i64 0, .int .i64 0, .slice none 0 0, .slice none 0 0, .slice none 0 0, .string ⟨#[]⟩, .string ⟨#[]⟩, .int .i64 0, .int .i64 0, .int .i64 0]
theorem state_size : (Tryz.prog.info? 24).map (·.size) = some 10 := by kernel_rfl
theorem load_state {w : World} {g : Nat} {cs : Array Value} (hg : w.heap[g]? = some (.cells cs 24 (0, 0))) (hs : cs.size = 10) : (loadVar 24 ⟨g, 0, none⟩).run Tryz.prog w = .ok (.agg cs) w :=
  run_loadVar_row w g _ _ cs _ _ hg Tryz.underlying24 rfl (by rw [hs]; exact state_size)
section
variable {ops : Array Oper} {rest : List Oper} {o : Oper} {a : Act} {w : World} {Q : Exit → Act → World → Prop}
theorem ld_int (hw : Region.wanted o (yielded ops a.tmps) = true) (x : Operand) (ho : o.op = .load 3 x) (ad : Addr) (hx : a.eval x = .pointer (some ad)) (v : Value) (hc : w.cell? ad = some v) (h : wpList Tryz.prog ops Q rest (a.put o.dst v) w) : wpList Tryz.prog ops Q (o :: rest) a w :=
  wpList_getf hw _ x ho _ Tryz.underlying3 rfl ad hx v hc h
theorem ld_ints (hw : Region.wanted o (yielded ops a.tmps) = true) (x : Operand) (ho : o.op = .load 22 x) (ad : Addr) (hx : a.eval x = .pointer (some ad)) (v : Value) (hc : w.cell? ad = some v) (h : wpList Tryz.prog ops Q rest (a.put o.dst v) w) : wpList Tryz.prog ops Q (o :: rest) a w :=
  wpList_getf hw _ x ho _ Tryz.underlying22 rfl ad hx v hc h
theorem ld_str (hw : Region.wanted o (yielded ops a.tmps) = true) (x : Operand) (ho : o.op = .load 9 x) (ad : Addr) (hx : a.eval x = .pointer (some ad)) (v : Value) (hc : w.cell? ad = some v) (h : wpList Tryz.prog ops Q rest (a.put o.dst v) w) : wpList Tryz.prog ops Q (o :: rest) a w :=
  wpList_getf hw _ x ho _ Tryz.underlying9 rfl ad hx v hc h
theorem one_int : (Tryz.prog.info? 3).map (·.size) = some 1 := by kernel_rfl
theorem one_ints : (Tryz.prog.info? 22).map (·.size) = some 1 := by kernel_rfl
theorem one_str : (Tryz.prog.info? 9).map (·.size) = some 1 := by kernel_rfl
theorem st_int (hw : Region.wanted o (yielded ops a.tmps) = true) (x y : Operand) (ho : o.op = .store 3 x y) (g j : Nat) (hx : a.eval x = .pointer (some ⟨g, j, none⟩)) (v : Value) (hy : a.eval y = v) (h1 : v.oneCell' = true) (cs : Array Value) (T : TypeId) (hg : w.heap[g]? = some (.cells cs T (0, 0))) (hj : j < cs.size)
    (h : ∀ w', w'.heap[g]? = some (.cells (cs.setIfInBounds j v) T (0, 0)) → Stirred w w' [g] → wpList Tryz.prog ops Q rest (a.put o.dst undef) w') : wpList Tryz.prog ops Q (o :: rest) a w :=
  wpList_setf hw _ x y ho one_int g j hx v hy h1 cs T hg hj h
theorem st_ints (hw : Region.wanted o (yielded ops a.tmps) = true) (x y : Operand) (ho : o.op = .store 22 x y) (g j : Nat) (hx : a.eval x = .pointer (some ⟨g, j, none⟩)) (v : Value) (hy : a.eval y = v) (h1 : v.oneCell' = true) (cs : Array Value) (T : TypeId) (hg : w.heap[g]? = some (.cells cs T (0, 0))) (hj : j < cs.size)
    (h : ∀ w', w'.heap[g]? = some (.cells (cs.setIfInBounds j v) T (0, 0)) → Stirred w w' [g] → wpList Tryz.prog ops Q rest (a.put o.dst undef) w') : wpList Tryz.prog ops Q (o :: rest) a w :=
  wpList_setf hw _ x y ho one_ints g j hx v hy h1 cs T hg hj h
theorem st_str (hw : Region.wanted o (yielded ops a.tmps) = true) (x y : Operand) (ho : o.op = .store 9 x y) (g j : Nat) (hx : a.eval x = .pointer (some ⟨g, j, none⟩)) (v : Value) (hy : a.eval y = v) (h1 : v.oneCell' = true) (cs : Array Value) (T : TypeId) (hg : w.heap[g]? = some (.cells cs T (0, 0))) (hj : j < cs.size)
    (h : ∀ w', w'.heap[g]? = some (.cells (cs.setIfInBounds j v) T (0, 0)) → Stirred w w' [g] → wpList Tryz.prog ops Q rest (a.put o.dst undef) w') : wpList Tryz.prog ops Q (o :: rest) a w :=
  wpList_setf hw _ x y ho one_str g j hx v hy h1 cs T hg hj h
theorem ld_state (hw : Region.wanted o (yielded ops a.tmps) = true) (x : Operand) (ho : o.op = .load 24 x) (g : Nat) (hx : a.eval x = .pointer (some ⟨g, 0, none⟩)) (cs : Array Value) (T : TypeId) (hg : w.heap[g]? = some (.cells cs T (0, 0))) (hs : cs.size = 10)
    (h : wpList Tryz.prog ops Q rest (a.put o.dst (.agg cs)) w) : wpList Tryz.prog ops Q (o :: rest) a w :=
  wpList_getbox hw _ x ho _ Tryz.underlying24 rfl g hx cs T hg (by rw [hs]; exact state_size) h
theorem st_state (hw : Region.wanted o (yielded ops a.tmps) = true) (x y : Operand) (ho : o.op = .store 24 x y) (g : Nat) (cells : Array Value) (hx : a.eval x = .pointer (some ⟨g, 0, none⟩)) (hy : a.eval y = .agg cells) (old : Array Value) (T : TypeId) (hg : w.heap[g]? = some (.cells old T (0, 0))) (hs : cells.size = 10) (hold : old.size = 10) (h1 : cells.all (·.oneCell') = true)
    (h : ∀ w', w'.heap[g]? = some (.cells cells T (0, 0)) → Stirred w w' [g] → wpList Tryz.prog ops Q rest (a.put o.dst undef) w') : wpList Tryz.prog ops Q (o :: rest) a w :=
  wpList_setbox hw _ x y ho g cells hx hy old T hg (by rw [hs]; exact state_size) (by rw [hold, hs]) h1 h
end
/-- two new boxes: what came in, and an empty one -/
theorem two_boxes (w : World) (cs : Array Value) : ∃ w1 w2 g r, w.alloc (.cells cs 24) = w1 ∧ w1.alloc (.cells zero10 24) = w2 ∧ w.heap.size = g ∧ w1.heap.size = r ∧
    Hid (w2.heap[g]? = some (.cells cs 24 (0, 0))) ∧ Hid (w2.heap[r]? = some (.cells zero10 24 (0, 0))) ∧ Hid (Below g w w2) ∧ Hid (g < r) ∧ Hid (w.heap.size = g) := by
  have hb1 := (Below.refl w.heap.size w).alloc (Nat.le_refl _) (.cells cs 24)
  have hn1 := heap_alloc_new w (.cells cs 24)
  have hb2 := (Below.refl (w.alloc (.cells cs 24)).heap.size (w.alloc (.cells cs 24))).alloc (Nat.le_refl _) (.cells zero10 24)
  have hn2 := heap_alloc_new (w.alloc (.cells cs 24)) (.cells zero10 24)
  exact ⟨_, _, _, _, rfl, rfl, rfl, rfl, (Stirred.of_below hb2 []).whole hn1 List.not_mem_nil, hn2, hb1.trans (hb2.mono hb1.size), whole_lt hn1, rfl⟩
/-- which machines may be -/
def rightM (m : M) : Bool := decide (m.stack.length ≤ 48 ∧ m.back.length ≤ 48 ∧ m.mem.length ≤ 3000 ∧ m.out.size ≤ 2000 ∧ 0 ≤ m.read ∧ m.read ≤ m.inp.size ∧ 0 ≤ m.status ∧ m.status ≤ 2)
theorem rightM_iff (m : M) : rightM m = true ↔ Right m := by
  unfold rightM
  rw [decide_eq_true_eq]
  exact ⟨fun ⟨a, b, c, d, e, f, g, h⟩ => ⟨a, b, c, d, e, f, g, h⟩, fun ⟨a, b, c, d, e, f, g, h⟩ => ⟨a, b, c, d, e, f, g, h⟩⟩
set_option maxHeartbeats 4000000 in
theorem refRight_any {w : World} {v : Value} {m : M} (h : ReadsM w v m) (hi : m.inp.size ≤ maxLen) (ho : m.out.size ≤ maxLen) :
    Calls Tryz.prog 27 #[v] w (Says (.bool (rightM m)) w) := by
  obtain ⟨vs, vb, vm, rfl, ⟨⟨so, sc, hs, _⟩, _⟩, ⟨⟨bo, bc, hb, _⟩, _⟩, ⟨⟨mo, mc, hm, _⟩, _⟩⟩ := h
  obtain ⟨ip, hn, st, bk, me, ou, inn, rd, stt, cd⟩ := m
  simp only at hs hb hm hi ho ⊢
  subst hs
  subst hb
  subst hm
  have hi' : inn.size ≤ 9223372036854775807 := hi
  have ho' : ou.size ≤ 9223372036854775807 := ho
  have HR := Lib.hid (show rightM ⟨ip, hn, st, bk, me, ou, inn, rd, stt, cd⟩ = decide (st.length ≤ 48 ∧ bk.length ≤ 48 ∧ me.length ≤ 3000 ∧ ou.size ≤ 2000 ∧ 0 ≤ rd ∧ rd ≤ inn.size ∧ 0 ≤ stt ∧ stt ≤ 2) from rfl)
  obtain ⟨r, hr⟩ : ∃ r, rightM ⟨ip, hn, st, bk, me, ou, inn, rd, stt, cd⟩ = r := ⟨_, rfl⟩
  rw [hr]
  have HR2 := Lib.hid (hr.symm.trans HR.out)
  clear hi ho hr HR
  have hb1 := Lib.hid ((Below.refl w.heap.size w).alloc (Nat.le_refl _) (.cells (cells10 ip hn (.slice so st.length sc) (.slice bo bk.length bc) (.slice mo me.length mc) ou inn rd stt cd) 24))
  by_cases c1 : st.length ≤ 48
  · by_cases c2 : bk.length ≤ 48
    · by_cases c3 : me.length ≤ 3000
      · by_cases c4 : ou.size ≤ 2000
        · by_cases c5 : 0 ≤ rd
          · by_cases c6 : rd ≤ (inn.size : Int)
            · by_cases c7 : 0 ≤ stt
              · have HE := Lib.hid (show r = decide (stt ≤ 2) by rw [HR2.out]; exact decide_eq_decide.2 ⟨fun h => h.2.2.2.2.2.2.2, fun h => ⟨c1, c2, c3, c4, c5, c6, c7, h⟩⟩)
                go_enter Tryz.func27, Tryz.ntmps27
                go_wp2
                go_ret
                exact ⟨by rw [HE.out]; rfl, hb1.out⟩
              · have HE := Lib.hid (show r = false by rw [HR2.out]; exact decide_eq_false fun h => c7 h.2.2.2.2.2.2.1)
                go_enter Tryz.func27, Tryz.ntmps27
                go_wp2
                go_ret
                exact ⟨by rw [HE.out]; rfl, hb1.out⟩
            · have HE := Lib.hid (show r = false by rw [HR2.out]; exact decide_eq_false fun h => c6 h.2.2.2.2.2.1)
              go_enter Tryz.func27, Tryz.ntmps27
              go_wp2
              go_ret
              exact ⟨by rw [HE.out]; rfl, hb1.out⟩
          · have HE := Lib.hid (show r = false by rw [HR2.out]; exact decide_eq_false fun h => c5 h.2.2.2.2.1)
            go_enter Tryz.func27, Tryz.ntmps27
            go_wp2
            go_ret
            exact ⟨by rw [HE.out]; rfl, hb1.out⟩
        · have HE := Lib.hid (show r = false by rw [HR2.out]; exact decide_eq_false fun h => c4 h.2.2.2.1)
          go_enter Tryz.func27, Tryz.ntmps27
          go_wp2
          go_ret
          exact ⟨by rw [HE.out]; rfl, hb1.out⟩
      · have HE := Lib.hid (show r = false by rw [HR2.out]; exact decide_eq_false fun h => c3 h.2.2.1)
        go_enter Tryz.func27, Tryz.ntmps27
        go_wp2
        go_ret
        exact ⟨by rw [HE.out]; rfl, hb1.out⟩
    · have HE := Lib.hid (show r = false by rw [HR2.out]; exact decide_eq_false fun h => c2 h.2.1)
      go_enter Tryz.func27, Tryz.ntmps27
      go_wp2
      go_ret
      exact ⟨by rw [HE.out]; rfl, hb1.out⟩
  · have HE := Lib.hid (show r = false by rw [HR2.out]; exact decide_eq_false fun h => c1 h.1)
    go_enter Tryz.func27, Tryz.ntmps27
    go_wp2
    go_ret
    exact ⟨by rw [HE.out]; rfl, hb1.out⟩
end Go.Proofs.YthnciokmomgfeaaGreatDoor.Mach
