/- FieldPlays: what the world holds in a round, and what becomes of it. -/
import Derived.Test.YtifcjcheokkojaaFieldStore
import Derived.Test.YtifcjcheokkojaaFieldLent
import Derived.Test.YtifcjcheokkojaaFieldSet
import Derived.Test.YtifcjcheokkojaaBookAddInts
namespace Go.Proofs.Ytifcjcheokkojaa
open Go.RowKit Book Mem
set_option linter.unusedSimpArgs false
set_option linter.unusedVariables false
/-- a book that keeps lists of ints alone -/
def bookArr (vS vW : Value) : Array Value := #[.slice none 0 0, .slice none 0 0, vS, vW, .slice none 0 0, .slice none 0 0, .slice none 0 0, .slice none 0 0, .slice none 0 0, .slice none 0 0, .slice none 0 0, .slice none 0 0]
/-- the blocks that the law's own lists lie in -/
def ground (bm gm p : Nat) (vC vH vWt : Value) (ex : List Nat) : List Nat := bm :: gm :: (foot p vC vH ++ ((blk vWt).toList ++ ex))
/-- the memory, what it should hold (ds), the set of the changed cells (mh), the list that was lent (l), the book; ex: further blocks that nothing of these lies in -/
structure St (w : World) (B0 pb gm mcap bm : Nat) (l : List Int) (vWt : Value) (p : Nat) (vC vH : Value) (cs ch ds mh : List Int) (q : Nat) (vS vW : Value) (ls : List (Value × List Value)) (ex : List Nat) : Prop where
  fld : FieldAt w B0 p vC vH cs ch
  want : Owns w B0 3 vWt (vals ds)
  map : SetAt w bm q mh
  lent : Lent w B0 gm mcap l
  book : w.heap[pb]? = some (.cells (bookArr vS vW) 38 (0, 0))
  kept : Kept w (pb + 1) 22 3 goodInts vS vW ls (ground bm gm p vC vH vWt ex)
  base : B0 ≤ w.heap.size
  wf : ∀ k, blk vWt = some k → k ∉ foot p vC vH ∧ k ≠ gm ∧ k ∉ ex
  mg : gm ∉ foot p vC vH ∧ gm ∉ ex
  fx : ∀ k ∈ foot p vC vH, k ∉ ex
  xlt : ∀ k ∈ ex, k < w.heap.size
  xcell : ∀ k ∈ ex, k ≠ bm ∧ k ≠ pb
  mb : B0 ≤ bm
section
variable {w w' : World} {B0 pb gm mcap bm : Nat} {l : List Int} {vWt : Value} {p : Nat} {vC vH : Value} {cs ch ds mh : List Int} {q : Nat} {vS vW : Value} {ls : List (Value × List Value)} {ex : List Nat}
theorem row_not {w : World} {B E k : Nat} {v : Value} {xs : List Value} (h : Owns w B E v xs) (hk : blk v = some k) {o : Obj} (ho : w.heap[k]? = some o) (hne : ∀ c, o ≠ .cells c E (0, 0)) : False := by
  obtain ⟨_, _, c, hc⟩ := h.block k hk
  rw [hc] at ho
  simp only [Option.some.injEq] at ho
  exact hne c ho.symm
theorem lentRow (h : Lent w B0 gm mcap l) : ∃ c, w.heap[gm]? = some (.cells c 3 (0, 0)) := (Owns.block h gm h.blk.1).2.2
theorem St.mem_foot (h : St w B0 pb gm mcap bm l vWt p vC vH cs ch ds mh q vS vW ls ex) {k : Nat} (hk : k ∈ foot p vC vH) : (∃ c, w.heap[k]? = some (.cells c 3 (0, 0))) ∨ ∃ c, w.heap[k]? = some (.cells c 52 (0, 0)) := by
  rcases List.mem_cons.1 hk with rfl | hk
  · exact .inr ⟨_, h.fld.whole⟩
  · rcases List.mem_append.1 hk with hk | hk
    · exact .inl (h.fld.cells.block k (by simpa using hk)).2.2
    · exact .inl (h.fld.chd.block k (by simpa using hk)).2.2
theorem St.bm_off (h : St w B0 pb gm mcap bm l vWt p vC vH cs ch ds mh q vS vW ls ex) : bm ∉ foot p vC vH ∧ blk vWt ≠ some bm ∧ bm ≠ gm ∧ bm ≠ pb := by
  obtain ⟨es, c, hb⟩ := h.map.block
  refine ⟨fun hm => ?_, fun e => row_not h.want e hb (fun c h => by cases h), fun e => ?_, fun e => ?_⟩
  · rcases h.mem_foot hm with ⟨c, hc⟩ | ⟨c, hc⟩ <;> rw [hb] at hc <;> simp at hc
  · obtain ⟨c, hc⟩ := lentRow h.lent
    rw [← e, hb] at hc
    simp at hc
  · have := h.book
    rw [← e, hb] at this
    simp at this
theorem St.pb_off (h : St w B0 pb gm mcap bm l vWt p vC vH cs ch ds mh q vS vW ls ex) : pb ∉ foot p vC vH ∧ blk vWt ≠ some pb ∧ pb ≠ gm ∧ pb ≠ bm := by
  have hb := h.book
  refine ⟨fun hm => ?_, fun e => row_not h.want e hb (fun c h => by simp at h), fun e => ?_, fun e => h.bm_off.2.2.2 e.symm⟩
  · rcases h.mem_foot hm with ⟨c, hc⟩ | ⟨c, hc⟩ <;> rw [hb] at hc <;> simp at hc
  · obtain ⟨c, hc⟩ := lentRow h.lent
    rw [← e, hb] at hc
    simp at hc
theorem St.ground_lt (h : St w B0 pb gm mcap bm l vWt p vC vH cs ch ds mh q vS vW ls ex) : ∀ k ∈ ground bm gm p vC vH vWt ex, k < w.heap.size := by
  intro k hk
  unfold ground at hk
  simp only [List.mem_cons, List.mem_append] at hk
  rcases hk with rfl | rfl | hk | hk | hk
  · obtain ⟨es, c, hb⟩ := h.map.block; exact whole_lt hb
  · obtain ⟨c, hc⟩ := lentRow h.lent; exact whole_lt hc
  · exact (h.fld.foot_lt k (by simpa [foot] using hk)).2
  · exact (h.want.block k (by simpa using hk)).2.1
  · exact h.xlt k hk
theorem mem_ground_foot {k : Nat} (h : k ∈ foot p vC vH) : k ∈ ground bm gm p vC vH vWt ex := List.mem_cons_of_mem _ (List.mem_cons_of_mem _ (List.mem_append_left _ h))
theorem mem_ground_want {k : Nat} (h : blk vWt = some k) : k ∈ ground bm gm p vC vH vWt ex := List.mem_cons_of_mem _ (List.mem_cons_of_mem _ (List.mem_append_right _ (List.mem_append_left _ (by simp [h]))))
theorem mem_ground_ex {k : Nat} (h : k ∈ ex) : k ∈ ground bm gm p vC vH vWt ex := List.mem_cons_of_mem _ (List.mem_cons_of_mem _ (List.mem_append_right _ (List.mem_append_right _ h)))
/-- new blocks alone -/
theorem St.below (h : St w B0 pb gm mcap bm l vWt p vC vH cs ch ds mh q vS vW ls ex) (hb : Below w.heap.size w w') : St w' B0 pb gm mcap bm l vWt p vC vH cs ch ds mh q vS vW ls ex :=
  ⟨h.fld.below hb, h.want.below hb, h.map.touch (Stirred.of_below hb []) List.not_mem_nil, h.lent.touch (Stirred.of_below hb []) List.not_mem_nil, (Stirred.of_below hb []).whole h.book List.not_mem_nil, h.kept.below hb,
    Nat.le_trans h.base hb.size, h.wf, h.mg, h.fx, fun k hk => Nat.lt_of_lt_of_le (h.xlt k hk) hb.size, h.xcell, h.mb⟩
/-- something is done to the memory -/
theorem St.field (h : St w B0 pb gm mcap bm l vWt p vC vH cs ch ds mh q vS vW ls ex) {vH' : Value} {cs' ch' : List Int} (hf : FieldAt w' B0 p vC vH' cs' ch') (hs : Stirred w w' (foot p vC vH)) (hn : ∀ k, blk vH' = some k → blk vH = some k ∨ w.heap.size ≤ k) :
    St w' B0 pb gm mcap bm l vWt p vC vH' cs' ch' ds mh q vS vW ls ex := by
  have hfoot : ∀ k ∈ foot p vC vH', k ∈ foot p vC vH ∨ w.heap.size ≤ k := fun k hk => by
    rcases List.mem_cons.1 hk with rfl | hk
    · exact .inl List.mem_cons_self
    · rcases List.mem_append.1 hk with hk | hk
      · exact .inl (List.mem_cons_of_mem _ (List.mem_append_left _ hk))
      · rcases hn k (by simpa using hk) with e | e
        · exact .inl (List.mem_cons_of_mem _ (List.mem_append_right _ (by simp [e])))
        · exact .inr e
  have hgr : ∀ k ∈ ground bm gm p vC vH' vWt ex, k ∈ ground bm gm p vC vH vWt ex ∨ w.heap.size ≤ k := fun k hk => by
    unfold ground at hk
    rcases List.mem_cons.1 hk with rfl | hk
    · exact .inl List.mem_cons_self
    · rcases List.mem_cons.1 hk with rfl | hk
      · exact .inl (List.mem_cons_of_mem _ List.mem_cons_self)
      · rcases List.mem_append.1 hk with hk | hk
        · rcases hfoot k hk with h1 | h1
          · exact .inl (mem_ground_foot h1)
          · exact .inr h1
        · exact .inl (List.mem_cons_of_mem _ (List.mem_cons_of_mem _ (List.mem_append_right _ hk)))
  have hw : ∀ k, blk vWt = some k → k < w.heap.size := fun k hk => (h.want.block k hk).2.1
  have hgm : gm < w.heap.size := by obtain ⟨c, hc⟩ := lentRow h.lent; exact whole_lt hc
  have k1 : Kept w (pb + 1) 22 3 goodInts vS vW ls (ground bm gm p vC vH vWt ex ++ ground bm gm p vC vH' vWt ex) := h.kept.more (fun k hk => by
    rcases List.mem_append.1 hk with hk | hk
    · exact .inl hk
    · rcases hgr k hk with h1 | h1
      · exact .inl h1
      · exact .inr (.inl h1))
  have k2 := (k1.touch hs (fun k hk => List.mem_append_left _ (mem_ground_foot hk))).more (ds := ground bm gm p vC vH' vWt ex) (fun k hk => .inl (List.mem_append_right _ hk))
  exact ⟨hf, h.want.touch hs (fun k hk => (h.wf k hk).1), h.map.touch hs h.bm_off.1, h.lent.touch hs h.mg.1, hs.whole h.book h.pb_off.1, k2, Nat.le_trans h.base hs.size,
    fun k hk => ⟨fun hm => by
      rcases hfoot k hm with h1 | h1
      · exact (h.wf k hk).1 h1
      · have := hw k hk; omega, (h.wf k hk).2⟩,
    ⟨fun hm => by
      rcases hfoot gm hm with h1 | h1
      · exact h.mg.1 h1
      · omega, h.mg.2⟩,
    fun k hk hm => by
      rcases hfoot k hk with h1 | h1
      · exact h.fx k h1 hm
      · have := h.xlt k hm; omega,
    fun k hk => Nat.lt_of_lt_of_le (h.xlt k hk) hs.size, h.xcell, h.mb⟩
/-- what it should hold is changed -/
theorem St.wantSet (h : St w B0 pb gm mcap bm l vWt p vC vH cs ch ds mh q vS vW ls ex) {g j : Nat} (hg : ∃ n cap, vWt = .slice (some ⟨g, 0, none⟩) n cap) (hb : blk vWt = some g) (v : Int) : St (w.setCell ⟨g, j, none⟩ (.int .i64 v)) B0 pb gm mcap bm l vWt p vC vH cs ch (ds.set j v) mh q vS vW ls ex := by
  have hs := Stirred.setCell w ⟨g, j, none⟩ (.int .i64 v)
  have hn : ∀ k ∈ [g], blk vWt = some k := fun k hk => by simp at hk; subst hk; exact hb
  obtain ⟨n, cap, e⟩ := hg
  have hw : Owns (w.setCell ⟨g, j, none⟩ (.int .i64 v)) B0 3 vWt (vals (ds.set j v)) := by
    have h1 := h.want
    rw [e] at h1 ⊢
    rw [← vals_set]
    exact h1.stored j _
  exact ⟨h.fld.touch hs (fun k hk hm => (h.wf k (hn k hm)).1 hk), hw, h.map.touch hs (fun hm => h.bm_off.2.1 (hn _ hm)), h.lent.touch hs (fun hm => (h.wf _ (hn _ hm)).2.1 rfl), hs.whole h.book (fun hm => h.pb_off.2.1 (hn _ hm)),
    h.kept.touch hs (fun k hk => mem_ground_want (hn k hk)), Nat.le_trans h.base hs.size, h.wf, h.mg, h.fx, fun k hk => Nat.lt_of_lt_of_le (h.xlt k hk) hs.size, h.xcell, h.mb⟩
/-- one number more is in the set -/
theorem St.setMore (h : St w B0 pb gm mcap bm l vWt p vC vH cs ch ds mh q vS vW ls ex) {q' : Nat} {mh' : List Int} (hm : SetAt w' bm q' mh') (hs : Stirred w w' [bm]) : St w' B0 pb gm mcap bm l vWt p vC vH cs ch ds mh' q' vS vW ls ex := by
  have ho := h.bm_off
  exact ⟨h.fld.touch hs (fun k hk hm => by simp at hm; subst hm; exact ho.1 hk), h.want.touch hs (fun k hk hm => by simp at hm; subst hm; exact ho.2.1 hk), hm, h.lent.touch hs (fun hm => by simp at hm; exact ho.2.2.1 hm.symm), hs.whole h.book (fun hm => by simp at hm; exact ho.2.2.2 hm.symm),
    h.kept.touch hs (fun k hk => by simp at hk; subst hk; exact List.mem_cons_self), Nat.le_trans h.base hs.size, h.wf, h.mg, h.fx, fun k hk => Nat.lt_of_lt_of_le (h.xlt k hk) hs.size, h.xcell, h.mb⟩
theorem St.count (h : St w B0 pb gm mcap bm l vWt p vC vH cs ch ds mh q vS vW ls ex) {q' : Nat} (hq : q ≤ q') : St w B0 pb gm mcap bm l vWt p vC vH cs ch ds mh q' vS vW ls ex :=
  ⟨h.fld, h.want, h.map.more hq, h.lent, h.book, h.kept, h.base, h.wf, h.mg, h.fx, h.xlt, h.xcell, h.mb⟩
/-- another set -/
theorem St.setNew (h : St w B0 pb gm mcap bm l vWt p vC vH cs ch ds mh q vS vW ls ex) : St (w.alloc (.map #[] 0)) B0 pb gm mcap w.heap.size l vWt p vC vH cs ch ds [] 0 vS vW ls ex := by
  have hb := (Below.refl w.heap.size w).alloc (Nat.le_refl _) (.map #[] 0)
  have h1 := h.below hb
  have hk : Kept w (pb + 1) 22 3 goodInts vS vW ls (ground w.heap.size gm p vC vH vWt ex) := h.kept.more (fun k hk => by
    unfold ground at hk
    rcases List.mem_cons.1 hk with rfl | hk
    · exact .inr (.inl (Nat.le_refl _))
    · exact .inl (List.mem_cons_of_mem _ hk))
  exact ⟨h1.fld, h1.want, SetAt.made w, h1.lent, h1.book, hk.below hb, h1.base, h1.wf, h1.mg, h1.fx, h1.xlt, fun k hk => ⟨by have := h.xlt k hk; omega, (h.xcell k hk).2⟩, h.base⟩
/-- further blocks, made since -/
theorem St.spare (h : St w B0 pb gm mcap bm l vWt p vC vH cs ch ds mh q vS vW ls []) {ex : List Nat} (hb : Below w.heap.size w w') (hx : ∀ k ∈ ex, w.heap.size ≤ k ∧ k < w'.heap.size) : St w' B0 pb gm mcap bm l vWt p vC vH cs ch ds mh q vS vW ls ex := by
  have h1 := h.below hb
  have hbm : bm < w.heap.size := by obtain ⟨es, c, e⟩ := h.map.block; exact whole_lt e
  have hgm : gm < w.heap.size := by obtain ⟨c, hc⟩ := lentRow h.lent; exact whole_lt hc
  have hpb : pb < w.heap.size := whole_lt h.book
  have hk : Kept w (pb + 1) 22 3 goodInts vS vW ls (ground bm gm p vC vH vWt ex) := h.kept.more (fun k hk => by
    unfold ground at hk
    rcases List.mem_cons.1 hk with rfl | hk
    · exact .inl List.mem_cons_self
    · rcases List.mem_cons.1 hk with rfl | hk
      · exact .inl (List.mem_cons_of_mem _ List.mem_cons_self)
      · rcases List.mem_append.1 hk with hk | hk
        · exact .inl (mem_ground_foot hk)
        · rcases List.mem_append.1 hk with hk | hk
          · exact .inl (mem_ground_want (by simpa using hk))
          · exact .inr (.inl (hx k hk).1))
  exact ⟨h1.fld, h1.want, h1.map, h1.lent, h1.book, hk.below hb, h1.base, fun k hk => ⟨(h.wf k hk).1, (h.wf k hk).2.1, fun hm => by have := (hx k hm).1; have := (h.want.block k hk).2.1; omega⟩,
    ⟨h.mg.1, fun hm => by have := (hx _ hm).1; omega⟩, fun k hk hm => by have := (hx k hm).1; have := (h.fld.foot_lt k hk).2; omega, fun k hk => (hx k hk).2, fun k hk => ⟨by have := (hx k hk).1; omega, by have := (hx k hk).1; omega⟩, h.mb⟩
/-- another memory takes its place -/
theorem St.swap {p' : Nat} {vC' vH' : Value} {cs' ch' : List Int} (h : St w B0 pb gm mcap bm l vWt p vC vH cs ch ds mh q vS vW ls (foot p' vC' vH')) (hf : FieldAt w B0 p' vC' vH' cs' ch') : St w B0 pb gm mcap bm l vWt p' vC' vH' cs' ch' ds mh q vS vW ls [] :=
  ⟨hf, h.want, h.map, h.lent, h.book, h.kept.more (fun k hk => .inl (by
    unfold ground at hk
    rcases List.mem_cons.1 hk with rfl | hk
    · exact List.mem_cons_self
    · rcases List.mem_cons.1 hk with rfl | hk
      · exact List.mem_cons_of_mem _ List.mem_cons_self
      · rcases List.mem_append.1 hk with hk | hk
        · exact mem_ground_ex hk
        · rcases List.mem_append.1 hk with hk | hk
          · exact mem_ground_want (by simpa using hk)
          · cases hk)), h.base, fun k hk => ⟨(h.wf k hk).2.2, (h.wf k hk).2.1, List.not_mem_nil⟩, ⟨h.mg.2, List.not_mem_nil⟩, fun _ _ h => (by cases h), fun _ h => (by cases h), fun _ h => (by cases h), h.mb⟩
/-- what the book's growth leaves alone -/
theorem St.row_book (h : St w B0 pb gm mcap bm l vWt p vC vH cs ch ds mh q vS vW ls ex) (hs : Stirred w w' (pb :: ((blk vS).toList ++ (blk vW).toList))) {B : Nat} {v : Value} {xs : List Value} (ho : Owns w B 3 v xs) : Owns w' B 3 v xs := by
  refine ho.touch hs (fun k hk hm => ?_)
  rcases List.mem_cons.1 hm with rfl | hm
  · exact row_not ho hk h.book (fun c h => by simp at h)
  · obtain ⟨cs', _, h2, _⟩ := h.kept.was
    rcases List.mem_append.1 hm with hm | hm
    · exact h.kept.lists.spine.apart ho (by decide) k (by simpa using hm) hk
    · exact h2.apart ho (by decide) k (by simpa using hm) hk
theorem St.book_low (h : St w B0 pb gm mcap bm l vWt p vC vH cs ch ds mh q vS vW ls ex) (hb : B0 ≤ pb) : ∀ k ∈ pb :: ((blk vS).toList ++ (blk vW).toList), B0 ≤ k := by
  intro k hm
  rcases List.mem_cons.1 hm with rfl | hm
  · exact hb
  · obtain ⟨cs', _, h2, _⟩ := h.kept.was
    rcases List.mem_append.1 hm with hm | hm
    · have := (h.kept.lists.spine.block k (by simpa using hm)).1; omega
    · have := (h2.block k (by simpa using hm)).1; omega
theorem St.ground_book (h : St w B0 pb gm mcap bm l vWt p vC vH cs ch ds mh q vS vW ls ex) : ∀ k ∈ ground bm gm p vC vH vWt ex, k ∉ pb :: ((blk vS).toList ++ (blk vW).toList) := by
  intro k hk hm
  have ho := h.kept.off k hk
  rcases List.mem_cons.1 hm with rfl | hm
  · unfold ground at hk
    have hb := h.pb_off
    rcases List.mem_cons.1 hk with e | hk
    · exact hb.2.2.2 e
    · rcases List.mem_cons.1 hk with e | hk
      · exact hb.2.2.1 e
      · rcases List.mem_append.1 hk with hk | hk
        · exact hb.1 hk
        · rcases List.mem_append.1 hk with hk | hk
          · exact hb.2.1 (by simpa using hk)
          · exact (h.xcell _ hk).2 rfl
  · rcases List.mem_append.1 hm with hm | hm
    · exact ho.1 (by simpa using hm)
    · exact ho.2.1 (by simpa using hm)
/-- the numbers below i that are in a list -/
def upTo (ch : List Int) (i : Nat) : List Int := ((List.range i).filter fun k : Nat => decide ((k : Int) ∈ ch)).map fun k : Nat => (k : Int)
theorem upTo_yes {ch : List Int} {i : Nat} (h : (i : Int) ∈ ch) : upTo ch (i + 1) = upTo ch i ++ [(i : Int)] := by simp [upTo, List.range_succ, h]
theorem upTo_no {ch : List Int} {i : Nat} (h : (i : Int) ∉ ch) : upTo ch (i + 1) = upTo ch i := by simp [upTo, List.range_succ, h]
theorem upTo_length (ch : List Int) (i : Nat) : (upTo ch i).length ≤ i := by
  have := List.length_filter_le (fun k : Nat => decide ((k : Int) ∈ ch)) (List.range i)
  simpa [upTo] using this
theorem upTo_all {ch : List Int} {n : Nat} (hs : ch.Pairwise (· < ·)) (hw : ∀ x ∈ ch, 0 ≤ x ∧ x < (n : Int)) : upTo ch n = ch := by
  refine sorted_ext ?_ hs fun x => ?_
  · unfold upTo
    rw [List.pairwise_map]
    exact (List.pairwise_lt_range.filter _).imp fun h => by omega
  · simp only [upTo, List.mem_map, List.mem_filter, List.mem_range, decide_eq_true_eq]
    constructor
    · rintro ⟨k, ⟨_, h⟩, rfl⟩
      exact h
    · intro h
      have := hw x h
      exact ⟨x.toNat, ⟨by omega, by rw [Int.toNat_of_nonneg this.1]; exact h⟩, Int.toNat_of_nonneg this.1⟩
/-- one list more is kept -/
def Added (w : World) (B0 pb gm mcap bm : Nat) (l : List Int) (vWt : Value) (p : Nat) (vC vH : Value) (cs ch ds mh : List Int) (q : Nat) (vS vW : Value) (ls : List (Value × List Value)) (ex : List Nat) (v : Value) (xs : List Int) (e : Ending) (w' : World) : Prop :=
  e = .returned (.tuple #[]) ∧ ∃ vS' vW', St w' B0 pb gm mcap bm l vWt p vC vH cs ch ds mh q vS' vW' (ls ++ [(v, vals xs)]) ex ∧ Stirred w w' (pb :: ((blk vS).toList ++ (blk vW).toList))
theorem St.add (h : St w B0 pb gm mcap bm l vWt p vC vH cs ch ds mh q vS vW ls ex) (hlt : ls.length < 250) {v : Value} {xs : List Int} (hb : pb < w.heap.size) (ho : Owns w (pb + 1) 3 v (vals xs)) (hx : xs.length ≤ 1000000) (hn : ∀ k, blk v = some k → k ∉ blocks ls ∧ k ∉ ground bm gm p vC vH vWt ex) :
    Calls Try.prog 15 #[.pointer (some ⟨pb, 0, none⟩), v] w (Added w B0 pb gm mcap bm l vWt p vC vH cs ch ds mh q vS vW ls ex v xs) := by
  refine (bookInts_any pb (pb + 1) (bookArr vS vW) vS vW v ls (vals xs) w (Nat.lt_succ_self _) hb hlt h.book rfl rfl (ground bm gm p vC vH vWt ex) h.ground_lt h.kept ho ⟨xs, rfl, hx⟩ (fun k hk => (hn k hk).1) (fun k hk => (hn k hk).2)).mono ?_
  rintro e w' ⟨rfl, vS', vW', hbk, hk, hs⟩
  have hg := h.ground_book
  refine ⟨rfl, vS', vW', ⟨h.fld.touch hs (fun k hk => hg k (mem_ground_foot hk)), h.want.touch hs (fun k hk => hg k (mem_ground_want hk)), h.map.touch hs (hg _ List.mem_cons_self), h.lent.touch hs (hg _ (List.mem_cons_of_mem _ List.mem_cons_self)), by rw [hbk]; rfl, hk, Nat.le_trans h.base hs.size, h.wf, h.mg, h.fx, fun k hk => Nat.lt_of_lt_of_le (h.xlt k hk) hs.size, h.xcell, h.mb⟩, hs⟩
end
end Go.Proofs.Ytifcjcheokkojaa
