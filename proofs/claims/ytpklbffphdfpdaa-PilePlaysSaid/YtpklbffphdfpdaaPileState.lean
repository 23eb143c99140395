/- PilePlays: what the world holds in a round, and what becomes of it. -/
import Derived.Test.YtpklbffphdfpdaaPileBackW
import Derived.Test.YtpklbffphdfpdaaBookAddInts
namespace Go.Proofs.Ytpklbffphdfpdaa
open Go.RowKit Book Mem
set_option linter.unusedSimpArgs false
set_option linter.unusedVariables false
/-- a book that keeps lists of ints alone -/
def bookArr (vS vW : Value) : Array Value := #[.slice none 0 0, .slice none 0 0, vS, vW, .slice none 0 0, .slice none 0 0, .slice none 0 0, .slice none 0 0, .slice none 0 0, .slice none 0 0, .slice none 0 0, .slice none 0 0]
/-- the blocks that the law's own lists lie in -/
def ground (p g : Nat) (vWt : Value) (ex : List Nat) : List Nat := foot p g ++ ((blk vWt).toList ++ ex)
theorem mem_ground_foot {p g : Nat} {vWt : Value} {ex : List Nat} {k : Nat} (h : k ∈ foot p g) : k ∈ ground p g vWt ex := List.mem_append_left _ h
theorem mem_ground_want {p g : Nat} {vWt : Value} {ex : List Nat} {k : Nat} (h : blk vWt = some k) : k ∈ ground p g vWt ex := List.mem_append_right _ (List.mem_append_left _ (by simp [h]))
theorem mem_ground_ex {p g : Nat} {vWt : Value} {ex : List Nat} {k : Nat} (h : k ∈ ex) : k ∈ ground p g vWt ex := List.mem_append_right _ (List.mem_append_right _ h)
theorem ground_cases {p g : Nat} {vWt : Value} {ex : List Nat} {k : Nat} (h : k ∈ ground p g vWt ex) : k ∈ foot p g ∨ blk vWt = some k ∨ k ∈ ex := by
  unfold ground at h
  rcases List.mem_append.1 h with h | h
  · exact .inl h
  · rcases List.mem_append.1 h with h | h
    · exact .inr (.inl (by simpa using h))
    · exact .inr (.inr h)
/-- the stack, what it should hold (ds), the book; ex: further blocks that nothing of these lies in -/
structure St (w : World) (B0 pb : Nat) (vWt : Value) (p g room : Nat) (cs ds : List Int) (vS vW : Value) (ls : List (Value × List Value)) (ex : List Nat) : Prop where
  pile : PileAt w B0 p g room cs
  want : Owns w B0 3 vWt (vals ds)
  book : w.heap[pb]? = some (.cells (bookArr vS vW) 37 (0, 0))
  kept : Kept w (pb + 1) 22 3 goodInts vS vW ls (ground p g vWt ex)
  base : B0 ≤ w.heap.size
  wf : ∀ k, blk vWt = some k → k ∉ foot p g ∧ k ∉ ex
  fx : ∀ k ∈ foot p g, k ∉ ex
  xlt : ∀ k ∈ ex, k < w.heap.size
  xcell : ∀ k ∈ ex, k ≠ pb
theorem row_not {w : World} {B E k : Nat} {v : Value} {xs : List Value} (h : Owns w B E v xs) (hk : blk v = some k) {o : Obj} (ho : w.heap[k]? = some o) (hne : ∀ c, o ≠ .cells c E (0, 0)) : False := by
  obtain ⟨_, _, c, hc⟩ := h.block k hk
  rw [hc] at ho
  simp only [Option.some.injEq] at ho
  exact hne c ho.symm
section
variable {w w' : World} {B0 pb : Nat} {vWt : Value} {p g room : Nat} {cs ds : List Int} {vS vW : Value} {ls : List (Value × List Value)} {ex : List Nat}
theorem St.pb_off (h : St w B0 pb vWt p g room cs ds vS vW ls ex) : pb ∉ foot p g ∧ blk vWt ≠ some pb := by
  have hb := h.book
  refine ⟨fun hm => ?_, fun e => row_not h.want e hb (fun c h => by simp at h)⟩
  rcases List.mem_cons.1 hm with e | hm
  · have := h.pile.whole
    rw [← e, hb] at this
    simp at this
  · simp at hm
    have := h.pile.row
    rw [← hm, hb] at this
    simp at this
theorem St.ground_lt (h : St w B0 pb vWt p g room cs ds vS vW ls ex) : ∀ k ∈ ground p g vWt ex, k < w.heap.size := by
  intro k hk
  rcases ground_cases hk with hk | hk | hk
  · exact (h.pile.foot_lt k hk).2
  · exact (h.want.block k hk).2.1
  · exact h.xlt k hk
/-- new blocks alone -/
theorem St.below (h : St w B0 pb vWt p g room cs ds vS vW ls ex) (hb : Below w.heap.size w w') : St w' B0 pb vWt p g room cs ds vS vW ls ex :=
  ⟨h.pile.below hb, h.want.below hb, (Stirred.of_below hb []).whole h.book List.not_mem_nil, h.kept.below hb, Nat.le_trans h.base hb.size, h.wf, h.fx, fun k hk => Nat.lt_of_lt_of_le (h.xlt k hk) hb.size, h.xcell⟩
/-- something is done to the stack -/
theorem St.did (h : St w B0 pb vWt p g room cs ds vS vW ls ex) {cs' : List Int} {bs : List Nat} (hP : PileAt w' B0 p g room cs') (hs : Stirred w w' bs) (hbs : ∀ k ∈ bs, k ∈ foot p g) : St w' B0 pb vWt p g room cs' ds vS vW ls ex := by
  have hs := hs.more hbs
  exact ⟨hP, h.want.touch hs (fun k hk => (h.wf k hk).1), hs.whole h.book h.pb_off.1, h.kept.touch hs (fun k hk => mem_ground_foot hk), Nat.le_trans h.base hs.size, h.wf, h.fx, fun k hk => Nat.lt_of_lt_of_le (h.xlt k hk) hs.size, h.xcell⟩
/-- what it should hold is another list -/
theorem St.wantNew (h : St w B0 pb vWt p g room cs ds vS vW ls ex) {vWt' : Value} {ds' : List Int} {B' : Nat} (hb : Below w.heap.size w w') (ho : Owns w' B' 3 vWt' (vals ds')) (hB : w.heap.size ≤ B') : St w' B0 pb vWt' p g room cs ds' vS vW ls ex := by
  have h1 := h.below hb
  have hk : Kept w (pb + 1) 22 3 goodInts vS vW ls (ground p g vWt' ex) := h.kept.more (fun k hk => by
    rcases ground_cases hk with hk | hk | hk
    · exact .inl (mem_ground_foot hk)
    · exact .inr (.inl (by have := (ho.block k hk).1; omega))
    · exact .inl (mem_ground_ex hk))
  exact ⟨h1.pile, ho.from (Nat.le_trans h.base hB), h1.book, hk.below hb, h1.base, fun k hk => ⟨fun hm => by have := (ho.block k hk).1; have := (h.pile.foot_lt k hm).2; omega, fun hm => by have := (ho.block k hk).1; have := h.xlt k hm; omega⟩, h.fx, h1.xlt, h1.xcell⟩
/-- further blocks, made since -/
theorem St.spare (h : St w B0 pb vWt p g room cs ds vS vW ls []) {ex : List Nat} (hb : Below w.heap.size w w') (hx : ∀ k ∈ ex, w.heap.size ≤ k ∧ k < w'.heap.size) : St w' B0 pb vWt p g room cs ds vS vW ls ex := by
  have h1 := h.below hb
  have hk : Kept w (pb + 1) 22 3 goodInts vS vW ls (ground p g vWt ex) := h.kept.more (fun k hk => by
    rcases ground_cases hk with hk | hk | hk
    · exact .inl (mem_ground_foot hk)
    · exact .inl (mem_ground_want hk)
    · exact .inr (.inl (hx k hk).1))
  exact ⟨h1.pile, h1.want, h1.book, hk.below hb, h1.base, fun k hk => ⟨(h.wf k hk).1, fun hm => by have := (hx k hm).1; have := (h.want.block k hk).2.1; omega⟩,
    fun k hk hm => by have := (hx k hm).1; have := (h.pile.foot_lt k hk).2; omega, fun k hk => (hx k hk).2, fun k hk => by have := (hx k hk).1; have := whole_lt h.book; omega⟩
/-- .. forgotten -/
theorem St.drop (h : St w B0 pb vWt p g room cs ds vS vW ls ex) : St w B0 pb vWt p g room cs ds vS vW ls [] :=
  ⟨h.pile, h.want, h.book, h.kept.more (fun k hk => .inl (by
    rcases ground_cases hk with hk | hk | hk
    · exact mem_ground_foot hk
    · exact mem_ground_want hk
    · cases hk)), h.base, fun k hk => ⟨(h.wf k hk).1, List.not_mem_nil⟩, fun _ _ h => (by cases h), fun _ h => (by cases h), fun _ h => (by cases h)⟩
/-- another stack takes its place -/
theorem St.swap {p' g' room' : Nat} {cs' : List Int} (h : St w B0 pb vWt p g room cs ds vS vW ls (foot p' g')) (hP : PileAt w B0 p' g' room' cs') : St w B0 pb vWt p' g' room' cs' ds vS vW ls [] :=
  ⟨hP, h.want, h.book, h.kept.more (fun k hk => .inl (by
    rcases ground_cases hk with hk | hk | hk
    · exact mem_ground_ex hk
    · exact mem_ground_want hk
    · cases hk)), h.base, fun k hk => ⟨(h.wf k hk).2, List.not_mem_nil⟩, fun _ _ h => (by cases h), fun _ h => (by cases h), fun _ h => (by cases h)⟩
/-- what the book's growth leaves alone -/
theorem St.row_book (h : St w B0 pb vWt p g room cs ds vS vW ls ex) (hs : Stirred w w' (pb :: ((blk vS).toList ++ (blk vW).toList))) {B : Nat} {v : Value} {xs : List Value} (ho : Owns w B 3 v xs) : Owns w' B 3 v xs := by
  refine ho.touch hs (fun k hk hm => ?_)
  rcases List.mem_cons.1 hm with rfl | hm
  · exact row_not ho hk h.book (fun c h => by simp at h)
  · obtain ⟨cs', _, h2, _⟩ := h.kept.was
    rcases List.mem_append.1 hm with hm | hm
    · exact h.kept.lists.spine.apart ho (by decide) k (by simpa using hm) hk
    · exact h2.apart ho (by decide) k (by simpa using hm) hk
theorem St.book_low (h : St w B0 pb vWt p g room cs ds vS vW ls ex) (hb : B0 ≤ pb) : ∀ k ∈ pb :: ((blk vS).toList ++ (blk vW).toList), B0 ≤ k := by
  intro k hm
  rcases List.mem_cons.1 hm with rfl | hm
  · exact hb
  · obtain ⟨cs', _, h2, _⟩ := h.kept.was
    rcases List.mem_append.1 hm with hm | hm
    · have := (h.kept.lists.spine.block k (by simpa using hm)).1; omega
    · have := (h2.block k (by simpa using hm)).1; omega
theorem St.ground_book (h : St w B0 pb vWt p g room cs ds vS vW ls ex) : ∀ k ∈ ground p g vWt ex, k ∉ pb :: ((blk vS).toList ++ (blk vW).toList) := by
  intro k hk hm
  have ho := h.kept.off k hk
  rcases List.mem_cons.1 hm with rfl | hm
  · have hb := h.pb_off
    rcases ground_cases hk with hk | hk | hk
    · exact hb.1 hk
    · exact hb.2 hk
    · exact h.xcell _ hk rfl
  · rcases List.mem_append.1 hm with hm | hm
    · exact ho.1 (by simpa using hm)
    · exact ho.2.1 (by simpa using hm)
/-- one list more is kept -/
def Added (w : World) (B0 pb : Nat) (vWt : Value) (p g room : Nat) (cs ds : List Int) (vS vW : Value) (ls : List (Value × List Value)) (ex : List Nat) (v : Value) (xs : List Int) (e : Ending) (w' : World) : Prop :=
  e = .returned (.tuple #[]) ∧ ∃ vS' vW', St w' B0 pb vWt p g room cs ds vS' vW' (ls ++ [(v, vals xs)]) ex ∧ Stirred w w' (pb :: ((blk vS).toList ++ (blk vW).toList))
theorem St.add (h : St w B0 pb vWt p g room cs ds vS vW ls ex) (hlt : ls.length < 250) {v : Value} {xs : List Int} (ho : Owns w (pb + 1) 3 v (vals xs)) (hx : xs.length ≤ 1000000) (hn : ∀ k, blk v = some k → k ∉ blocks ls ∧ k ∉ ground p g vWt ex) :
    Calls Try.prog 13 #[.pointer (some ⟨pb, 0, none⟩), v] w (Added w B0 pb vWt p g room cs ds vS vW ls ex v xs) := by
  refine (bookInts_any pb (pb + 1) (bookArr vS vW) vS vW v ls (vals xs) w (Nat.lt_succ_self _) (whole_lt h.book) hlt h.book rfl rfl (ground p g vWt ex) h.ground_lt h.kept ho ⟨xs, rfl, hx⟩ (fun k hk => (hn k hk).1) (fun k hk => (hn k hk).2)).mono ?_
  rintro e w' ⟨rfl, vS', vW', hbk, hk, hs⟩
  have hg := h.ground_book
  refine ⟨rfl, vS', vW', ⟨h.pile.touch hs (fun k hk => hg k (mem_ground_foot hk)), h.want.touch hs (fun k hk => hg k (mem_ground_want hk)), by rw [hbk]; rfl, hk, Nat.le_trans h.base hs.size, h.wf, h.fx, fun k hk => Nat.lt_of_lt_of_le (h.xlt k hk) hs.size, h.xcell⟩, hs⟩
/-- what is fresh is kept -/
theorem St.addNew (h : St w B0 pb vWt p g room cs ds vS vW ls ex) (hb : Below w.heap.size w w') (hlt : ls.length < 250) {v : Value} {xs : List Int} {B : Nat} (hB : w.heap.size ≤ B) (ho : Owns w' B 3 v (vals xs)) (hx : xs.length ≤ 1000000) :
    Calls Try.prog 13 #[.pointer (some ⟨pb, 0, none⟩), v] w' (Added w' B0 pb vWt p g room cs ds vS vW ls ex v xs) :=
  (h.below hb).add hlt (ho.from (by have := whole_lt h.book; omega)) hx (fun k hk => ⟨fun hm => by
    have h1 := (ho.block k hk).1
    have h2 := (h.kept.lists.lt k hm).2
    omega, fun hm => by
    have h1 := (ho.block k hk).1
    have h2 := h.ground_lt k hm
    omega⟩)
end
end Go.Proofs.Ytpklbffphdfpdaa
