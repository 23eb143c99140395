
/- WeavePlays: what the world holds in a round: a weave, the document's own one, the list that was lent, the book. -/
import Derived.Test.YtcpdhfigaoaohaaDoorWvState
import Derived.Test.YtcpdhfigaoaohaaDoorWvRefAny
import Derived.Test.YtcpdhfigaoaohaaDoorLent
import Derived.Test.YtcpdhfigaoaohaaDoorBookApartInts
import Derived.Test.YtcpdhfigaoaohaaDoorBookAddInts
namespace Go.Proofs.YtcpdhfigaoaohaaDoor.WvP
open Go.RowKit Book Book.Wide Mem Wv WvR
set_option linter.unusedSimpArgs false
set_option linter.unusedVariables false
/-- a book that keeps lists of ints alone -/
def bookArr (vS vW : Value) : Array Value := #[.slice none 0 0, .slice none 0 0, vS, vW, .slice none 0 0, .slice none 0 0, .slice none 0 0, .slice none 0 0, .slice none 0 0, .slice none 0 0, .slice none 0 0, .slice none 0 0]
/-- the weave (a, in block p), the document's (b, in block pr), the lent list, the book (pb) -/
structure PS (W w : World) (pb p gm pr gl cap : Nat) (bs rs : List Nat) (a b : M) (mem : List Int) (vS vW : Value) (ls : List (Value × List Value)) : Prop where
  wv : WAt w W.heap.size p gm bs a
  rf : RAt w W.heap.size pr rs b
  lent : Lent w W.heap.size gl cap mem
  book : w.heap[pb]? = some (.cells (bookArr vS vW) 38 (0, 0))
  kept : Kept w (pb + 1) 22 3 goodInts vS vW ls (gl :: (bs ++ rs))
  apart : ∀ k ∈ bs, k ∉ rs
  free : gl ∉ bs ∧ gl ∉ rs
  own : pb ∉ bs ∧ pb ∉ rs ∧ pb ≠ gl
  base : W.heap.size ≤ pb
  below : Below W.heap.size W w
  names : NamesIs W
section
variable {W w w' : World} {pb p gm pr gl cap : Nat} {bs rs bs' rs' : List Nat} {a b a' b' : M} {mem : List Int} {vS vW : Value} {ls : List (Value × List Value)}
theorem lent_at {w : World} {B gl cap : Nat} {mem : List Int} (h : Lent w B gl cap mem) : B ≤ gl ∧ gl < w.heap.size := ⟨(Owns.block h gl h.blk.1).1, (Owns.block h gl h.blk.1).2.1⟩
theorem lent_lt (h : Lent w W.heap.size gl cap mem) : gl < w.heap.size := (Owns.block h gl h.blk.1).2.1
/-- new blocks alone -/
theorem PS.more (h : PS W w pb p gm pr gl cap bs rs a b mem vS vW ls) (hb : Below w.heap.size w w') : PS W w' pb p gm pr gl cap bs rs a b mem vS vW ls :=
  ⟨h.wv.below hb, h.rf.below hb, h.lent.touch (Stirred.of_below hb []) List.not_mem_nil, (Stirred.of_below hb []).whole h.book List.not_mem_nil, h.kept.below hb, h.apart, h.free, h.own, h.base, h.below.trans (hb.mono h.below.size), h.names⟩
theorem PS.drewN (h : PS W w pb p gm pr gl cap bs rs a b mem vS vW ls) (q : Nat) : PS W (w.drewN q) pb p gm pr gl cap bs rs a b mem vS vW ls := h.more (Wv.below_drewN w q)
/-- the lists stay what they are where one of their neighbours gets other blocks -/
theorem kept_turn {B : Nat} {xs ys ds : List Nat} (h : Kept w B 22 3 goodInts vS vW ls xs) (hs : Stirred w w' ds) (hd : ∀ k ∈ ds, k ∈ xs) (hy : ∀ k ∈ ys, k ∈ xs ∨ w.heap.size ≤ k) : Kept w' B 22 3 goodInts vS vW ls ys := by
  have k1 : Kept w B 22 3 goodInts vS vW ls (xs ++ ys) := h.more (fun k hk => by
    rcases List.mem_append.1 hk with hk | hk
    · exact .inl hk
    · exact (hy k hk).imp id .inl)
  exact (k1.touch hs (fun k hk => List.mem_append_left _ (hd k hk))).more (ds := ys) (fun k hk => .inl (List.mem_append_right _ hk))
/-- something is done to the weave -/
theorem PS.weave (h : PS W w pb p gm pr gl cap bs rs a b mem vS vW ls) (hA : WAt w' W.heap.size p gm bs' a') (hS : Stirred w w' bs) (hT : ∀ k ∈ bs', k ∈ bs ∨ w.heap.size ≤ k) : PS W w' pb p gm pr gl cap bs' rs a' b mem vS vW ls := by
  refine ⟨hA, h.rf.touch hS (fun k hk hm => h.apart k hm hk), h.lent.touch hS h.free.1, hS.whole h.book h.own.1, kept_turn h.kept hS (fun k hk => List.mem_cons_of_mem _ (List.mem_append_left _ hk)) (fun k hk => ?_), fun k hk hm => ?_, ⟨fun hm => ?_, h.free.2⟩, ⟨fun hm => ?_, h.own.2⟩, h.base, h.below.trans (hS.below (fun k hk => (h.wv.lt k hk).1) h.below.size), h.names⟩
  · rcases List.mem_cons.1 hk with rfl | hk
    · exact .inl List.mem_cons_self
    rcases List.mem_append.1 hk with hk | hk
    · exact (hT k hk).imp (fun e => List.mem_cons_of_mem _ (List.mem_append_left _ e)) id
    · exact .inl (List.mem_cons_of_mem _ (List.mem_append_right _ hk))
  · rcases hT k hk with e | e
    · exact h.apart k e hm
    · have := (h.rf.lt k hm).2; omega
  · rcases hT gl hm with e | e
    · exact h.free.1 e
    · have := lent_lt h.lent; omega
  · rcases hT pb hm with e | e
    · exact h.own.1 e
    · have := whole_lt h.book; omega
/-- something is done to the document's weave -/
theorem PS.ref (h : PS W w pb p gm pr gl cap bs rs a b mem vS vW ls) (hA : RAt w' W.heap.size pr rs' b') (hS : Stirred w w' rs) (hT : ∀ k ∈ rs', k ∈ rs ∨ w.heap.size ≤ k) : PS W w' pb p gm pr gl cap bs rs' a b' mem vS vW ls := by
  refine ⟨h.wv.touch hS h.apart, hA, h.lent.touch hS h.free.2, hS.whole h.book h.own.2.1, kept_turn h.kept hS (fun k hk => List.mem_cons_of_mem _ (List.mem_append_right _ hk)) (fun k hk => ?_), fun k hk hm => ?_, ⟨h.free.1, fun hm => ?_⟩, ⟨h.own.1, fun hm => ?_, h.own.2.2⟩, h.base, h.below.trans (hS.below (fun k hk => (h.rf.lt k hk).1) h.below.size), h.names⟩
  · rcases List.mem_cons.1 hk with rfl | hk
    · exact .inl List.mem_cons_self
    rcases List.mem_append.1 hk with hk | hk
    · exact .inl (List.mem_cons_of_mem _ (List.mem_append_left _ hk))
    · exact (hT k hk).imp (fun e => List.mem_cons_of_mem _ (List.mem_append_right _ e)) id
  · rcases hT k hm with e | e
    · exact h.apart k hk e
    · have := (h.wv.lt k hk).2; omega
  · rcases hT gl hm with e | e
    · exact h.free.2 e
    · have := lent_lt h.lent; omega
  · rcases hT pb hm with e | e
    · exact h.own.2.1 e
    · have := whole_lt h.book; omega
/-- what was answered is kept -/
theorem PS.ints (h : PS W w pb p gm pr gl cap bs rs a b mem vS vW ls) {w1 : World} {v : Value} (hb : Below w.heap.size w w1) (ho : Owns w1 w.heap.size 3 v (vals a.mem)) (hlt : ls.length < 250) :
    Calls Tryd.prog 17 #[.pointer (some ⟨pb, 0, none⟩), v] w1 fun e w' => e = .returned (.tuple #[]) ∧ ∃ vS' vW', PS W w' pb p gm pr gl cap bs rs a b mem vS' vW' (ls ++ [(v, vals a.mem)]) ∧ Owns w' w.heap.size 3 v (vals a.mem) := by
  have h1 := h.more hb
  have hfar : ∀ k, blk v = some k → w.heap.size ≤ k := fun k hk => (ho.block k hk).1
  have hpw : pb < w.heap.size := whole_lt h.book
  refine (bookInts_any pb (pb + 1) (bookArr vS vW) vS vW v ls (vals a.mem) w1 (Nat.lt_succ_self _) (whole_lt h1.book) hlt h1.book rfl rfl (gl :: (bs ++ rs)) (fun k hk => ?_) h1.kept (ho.from hpw) ⟨a.mem, rfl, by have := h.wv.most; omega⟩ (fun k hk hm => ?_) (fun k hk hm => ?_)).mono ?_
  · rcases List.mem_cons.1 hk with rfl | hk
    · exact lent_lt h1.lent
    rcases List.mem_append.1 hk with hk | hk
    · exact (h1.wv.lt k hk).2
    · exact (h1.rf.lt k hk).2
  · have h2 := (h.kept.lists.lt k hm).2
    have h3 := hfar k hk
    omega
  · have h3 := hfar k hk
    rcases List.mem_cons.1 hm with rfl | hm
    · have := lent_lt h.lent; omega
    rcases List.mem_append.1 hm with hm | hm
    · have := (h.wv.lt k hm).2; omega
    · have := (h.rf.lt k hm).2; omega
  · rintro e w' ⟨rfl, vS', vW', h2, h3, h4⟩
    have off : ∀ k ∈ gl :: (bs ++ rs), k ≠ pb → k ∉ pb :: ((blk vS).toList ++ (blk vW).toList) := fun k hk hp hm => by
      rcases List.mem_cons.1 hm with e | hm
      · exact hp e
      rcases List.mem_append.1 hm with hm | hm
      · exact (h1.kept.off k hk).1 (by simpa using hm)
      · exact (h1.kept.off k hk).2.1 (by simpa using hm)
    have hpb : W.heap.size ≤ w1.heap.size := h1.below.size
    refine ⟨rfl, vS', vW', ⟨h1.wv.touch h4 (fun k hk => off k (List.mem_cons_of_mem _ (List.mem_append_left _ hk)) (fun e => h.own.1 (e ▸ hk))), h1.rf.touch h4 (fun k hk => off k (List.mem_cons_of_mem _ (List.mem_append_right _ hk)) (fun e => h.own.2.1 (e ▸ hk))), h1.lent.touch h4 (off gl List.mem_cons_self h.own.2.2.symm), h2, h3, h.apart, h.free, h.own, h.base, h1.below.trans (h4.below (fun k hk => ?_) hpb), h.names⟩, ho.touch h4 (fun k hk hm => ?_)⟩
    · rcases List.mem_cons.1 hk with rfl | hk
      · exact h.base
      have hB := h.base
      rcases List.mem_append.1 hk with hk | hk
      · have := (h1.kept.lists.spine.block k (by simpa using hk)).1; omega
      · obtain ⟨cs, _, h5, _⟩ := h1.kept.was
        have := (h5.block k (by simpa using hk)).1; omega
    · have h5 := hfar k hk
      rcases List.mem_cons.1 hm with rfl | hm
      · omega
      rcases List.mem_append.1 hm with hm | hm
      · have := (h.kept.lists.spine.block k (by simpa using hm)).2.1; omega
      · obtain ⟨cs, _, h6, _⟩ := h.kept.was
        have := (h6.block k (by simpa using hm)).2.1; omega
/-- what a call to the weave makes of all that -/
theorem PS.did (h : PS W w pb p gm pr gl cap bs rs a b mem vS vW ls) {v : Value} {e : Ending} (hd : Did w W.heap.size p gm bs v a' e w') : e = .returned v ∧ ∃ bs', PS W w' pb p gm pr gl cap bs' rs a' b mem vS vW ls ∧ Stirred w w' bs := by
  obtain ⟨he, bs', hA, hS, hT⟩ := hd
  exact ⟨he, bs', h.weave hA hS hT, hS⟩
theorem PS.rdid (h : PS W w pb p gm pr gl cap bs rs a b mem vS vW ls) {v : Value} {e : Ending} (hd : RDid w W.heap.size pr rs v b' e w') : e = .returned v ∧ ∃ rs', PS W w' pb p gm pr gl cap bs rs' a b' mem vS vW ls ∧ Stirred w w' rs := by
  obtain ⟨he, rs', hA, hS, hT⟩ := hd
  exact ⟨he, rs', h.ref hA hS hT, hS⟩
theorem p_op (h : PS W w pb p gm pr gl cap bs rs a b mem vS vW ls) (x : Int) : Calls Tryd.prog 8 #[.pointer (some ⟨p, 0, none⟩), .int .i64 x] w fun e w' => e = .returned (.int .i64 (op x a).1) ∧ ∃ bs', PS W w' pb p gm pr gl cap bs' rs (op x a).2 b mem vS vW ls ∧ Stirred w w' bs :=
  (op_any h.wv x).mono fun e w' hd => h.did hd
theorem r_op (h : PS W w pb p gm pr gl cap bs rs a b mem vS vW ls) (x : Int) : Calls Tryd.prog 9 #[.pointer (some ⟨pr, 0, none⟩), .int .i64 x] w fun e w' => e = .returned (.int .i64 (op x b).1) ∧ ∃ rs', PS W w' pb p gm pr gl cap bs rs' a (op x b).2 mem vS vW ls ∧ Stirred w w' rs :=
  (rop_any h.rf x).mono fun e w' hd => h.rdid hd
theorem p_arg (h : PS W w pb p gm pr gl cap bs rs a b mem vS vW ls) (x y : Int) : Calls Tryd.prog 10 #[.pointer (some ⟨p, 0, none⟩), .int .i64 x, .int .i64 y] w fun e w' => e = .returned (.int .i64 (arg x y a).1) ∧ ∃ bs', PS W w' pb p gm pr gl cap bs' rs (arg x y a).2 b mem vS vW ls ∧ Stirred w w' bs :=
  (arg_any h.wv x y).mono fun e w' hd => h.did hd
theorem r_arg (h : PS W w pb p gm pr gl cap bs rs a b mem vS vW ls) (x y : Int) : Calls Tryd.prog 11 #[.pointer (some ⟨pr, 0, none⟩), .int .i64 x, .int .i64 y] w fun e w' => e = .returned (.int .i64 (arg x y b).1) ∧ ∃ rs', PS W w' pb p gm pr gl cap bs rs' a (arg x y b).2 mem vS vW ls ∧ Stirred w w' rs :=
  (rarg_any h.rf x y).mono fun e w' hd => h.rdid hd
theorem p_call (h : PS W w pb p gm pr gl cap bs rs a b mem vS vW ls) (x : Int) : Calls Tryd.prog 12 #[.pointer (some ⟨p, 0, none⟩), .int .i64 x] w fun e w' => e = .returned (.int .i64 (call x a).1) ∧ ∃ bs', PS W w' pb p gm pr gl cap bs' rs (call x a).2 b mem vS vW ls ∧ Stirred w w' bs :=
  (call_any h.wv x).mono fun e w' hd => h.did hd
theorem r_call (h : PS W w pb p gm pr gl cap bs rs a b mem vS vW ls) (x : Int) : Calls Tryd.prog 13 #[.pointer (some ⟨pr, 0, none⟩), .int .i64 x] w fun e w' => e = .returned (.int .i64 (call x b).1) ∧ ∃ rs', PS W w' pb p gm pr gl cap bs rs' a (call x b).2 mem vS vW ls ∧ Stirred w w' rs :=
  (rcall_any h.rf x).mono fun e w' hd => h.rdid hd
theorem p_form (h : PS W w pb p gm pr gl cap bs rs a b mem vS vW ls) (s : ByteArray) (hs : s.size ≤ 1000) (hl : a.l.length < 1000) : Calls Tryd.prog 14 #[.pointer (some ⟨p, 0, none⟩), .string s] w fun e w' => e = .returned (.int .i64 (form (word s) a).1) ∧ ∃ bs', PS W w' pb p gm pr gl cap bs' rs (form (word s) a).2 b mem vS vW ls ∧ Stirred w w' bs :=
  (form_any h.wv h.below.size (h.names.mono h.below) s hs hl).mono fun e w' hd => h.did hd
theorem r_form (h : PS W w pb p gm pr gl cap bs rs a b mem vS vW ls) (s : ByteArray) (hs : s.size ≤ 1000) (hl : b.l.length < 1000) : Calls Tryd.prog 15 #[.pointer (some ⟨pr, 0, none⟩), .string s] w fun e w' => e = .returned (.int .i64 (form (word s) b).1) ∧ ∃ rs', PS W w' pb p gm pr gl cap bs rs' a (form (word s) b).2 mem vS vW ls ∧ Stirred w w' rs :=
  (rform_any h.rf h.below.size s hs hl).mono fun e w' hd => h.rdid hd
/-- the document's weave as it is read: its cells, the next one, what is open -/
theorem PS.box (h : PS W w pb p gm pr gl cap bs rs a b mem vS vW ls) : ∃ mo mc xo xc, w.heap[pr]? = some (.cells #[.slice mo b.mem.length mc, .int .i64 (b.here : Int), .slice xo b.l.length xc] 49 (0, 0)) ∧ Reads w (.slice mo b.mem.length mc) b.mem := by
  obtain ⟨vm, vo, h1, h2, h3, h4⟩ := h.rf.box
  have h5 := Reads.of_owns h2
  obtain ⟨mo, mc, rfl⟩ := h2.slice
  obtain ⟨xo, xc, rfl⟩ := h3.slice (open_len b.l) (by decide)
  rw [vals_length] at h1 h5
  exact ⟨mo, mc, xo, xc, h1, h5⟩
end
/-- a round's end: both weaves are alike -/
def IN (W w : World) (pb p pr gl cap : Nat) (mem : List Int) (L j c : Nat) : Prop :=
  ∃ gm bs rs m vS vW ls, PS W w pb p gm pr gl cap bs rs m m mem vS vW ls ∧ ls.length ≤ j ∧ m.l.length ≤ c ∧ m.mem.length = L
end Go.Proofs.YtcpdhfigaoaohaaDoor.WvP
