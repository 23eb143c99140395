
/- Kept lists whose elements have several cells (structs): the turn of BookPlain; no program in sight. -/
import Derived.Test.YtpecingkoodmfaaGreatDoorBookPlain
namespace Go.Proofs.YtpecingkoodmfaaGreatDoor.Book.Wide
open Go.RowKit
set_option linter.unusedVariables false
/-- a slice value whose elements, of sz cells each, have these cells: of no room, wherever it leads to, or in a row that is its own -/
def OwnsK (w : World) (B E sz : Nat) (v : Value) (xs : List Value) : Prop :=
  (∃ ao, v = .slice ao 0 0 ∧ xs = []) ∨
  ∃ g n cap cur, v = .slice (some ⟨g, 0, none⟩) n cap ∧ 0 < cap ∧ B ≤ g ∧ w.heap[g]? = some (.cells cur E (0, 0)) ∧ xs.length = n * sz ∧ n ≤ cap ∧ cap ≤ maxLen ∧ cur.size = cap * sz ∧ cur.toList.take (n * sz) = xs
theorem OwnsK.of_row {w : World} {B E sz n : Nat} {v : Value} {xs : List Value} (h : w.ownsRow B E sz v n xs) : OwnsK w B E sz v xs := by
  obtain ⟨hl, h⟩ := h
  rcases h with ⟨h1, h2⟩ | ⟨g, cap, cur, h1, h2, h3, h4, h5, h6, h7⟩
  · subst h2
    rw [Nat.zero_mul] at hl
    exact .inl ⟨none, h1, List.eq_nil_of_length_eq_zero hl⟩
  · by_cases h0 : cap = 0
    · have hn : n = 0 := by omega
      subst h0; subst hn
      rw [Nat.zero_mul] at hl
      exact .inl ⟨_, h1, List.eq_nil_of_length_eq_zero hl⟩
    · exact .inr ⟨g, n, cap, cur, h1, by omega, h2, h3, hl, h4, h5, h6, h7⟩
theorem OwnsK.row_of {w : World} {B E sz g n cap : Nat} {xs : List Value} (h : OwnsK w B E sz (.slice (some ⟨g, 0, none⟩) n cap) xs) (h0 : 0 < cap) : w.ownsRow B E sz (.slice (some ⟨g, 0, none⟩) n cap) n xs := by
  rcases h with ⟨ao, h1, h2⟩ | ⟨g', n', cap', cur, h1, h0', h2, h3, hl, h4, h5, h6, h7⟩
  · simp only [Value.slice.injEq] at h1; omega
  · simp only [Value.slice.injEq, Option.some.injEq, Addr.mk.injEq, and_true] at h1
    obtain ⟨rfl, rfl, rfl⟩ := h1
    exact ⟨hl, .inr ⟨g, cap, cur, rfl, h2, h3, h4, h5, h6, h7⟩⟩
theorem OwnsK.block {w : World} {B E sz : Nat} {v : Value} {xs : List Value} (h : OwnsK w B E sz v xs) : ∀ k, (blk v) = some k → B ≤ k ∧ k < w.heap.size ∧ ∃ cur, w.heap[k]? = some (.cells cur E (0, 0)) := by
  intro k hk
  rcases h with ⟨ao, rfl, _⟩ | ⟨g, n, cap, cur, rfl, h0, hb, hg, _⟩
  · rw [blk_zero] at hk; cases hk
  · rw [blk_pos h0] at hk
    simp at hk
    subst hk
    exact ⟨hb, (Array.getElem?_eq_some_iff.1 hg).1, cur, hg⟩
theorem OwnsK.same {w w' : World} {B E sz : Nat} {v : Value} {xs : List Value} (h : OwnsK w B E sz v xs) (hs : ∀ k, (blk v) = some k → w'.heap[k]? = w.heap[k]?) : OwnsK w' B E sz v xs := by
  rcases h with h2 | ⟨g, n, cap, cur, h1, h0, h2, h3, h4⟩
  · exact .inl h2
  · refine .inr ⟨g, n, cap, cur, h1, h0, h2, ?_, h4⟩
    rw [hs g (by rw [h1, blk_pos h0])]; exact h3
theorem OwnsK.touch {w w' : World} {B E sz : Nat} {v : Value} {xs : List Value} {bs : List Nat} (h : OwnsK w B E sz v xs) (ht : Stirred w w' bs) (hn : ∀ k, (blk v) = some k → k ∉ bs) : OwnsK w' B E sz v xs :=
  h.same fun k hk => ht.block k (h.block k hk).2.1 (hn k hk)
theorem OwnsK.below {w w' : World} {B E sz : Nat} {v : Value} {xs : List Value} (h : OwnsK w B E sz v xs) (hb : Below w.heap.size w w') : OwnsK w' B E sz v xs :=
  h.touch (Stirred.of_below hb []) (fun _ _ => List.not_mem_nil)
theorem OwnsK.from {w : World} {B B' E sz : Nat} {v : Value} {xs : List Value} (h : OwnsK w B E sz v xs) (hb : B' ≤ B) : OwnsK w B' E sz v xs := by
  rcases h with h2 | ⟨g, n, cap, cur, h1, h0, h2, h3⟩
  · exact .inl h2
  · exact .inr ⟨g, n, cap, cur, h1, h0, by omega, h3⟩
theorem OwnsK.empty (w : World) (B E sz : Nat) (ao : Option Addr) : OwnsK w B E sz (.slice ao 0 0) [] := .inl ⟨ao, rfl, rfl⟩
theorem OwnsK.nil (w : World) (B E sz : Nat) : OwnsK w B E sz (.slice none 0 0) [] := .inl ⟨none, rfl, rfl⟩
/-- two rows of other types are no one block -/
theorem _root_.Go.Proofs.YtpecingkoodmfaaGreatDoor.Book.Owns.apartK {w : World} {B B' E E' sz : Nat} {v v' : Value} {xs xs' : List Value} (h : Owns w B E v xs) (h' : OwnsK w B' E' sz v' xs') (hE : E ≠ E') : ∀ k, (blk v) = some k → (blk v') ≠ some k := by
  intro k hk hk'
  obtain ⟨_, _, c, hc⟩ := h.block k hk
  obtain ⟨_, _, c', hc'⟩ := h'.block k hk'
  rw [hc] at hc'
  simp only [Option.some.injEq, Obj.cells.injEq] at hc'
  exact hE hc'.2.1
theorem OwnsK.form {w : World} {B E sz : Nat} {v : Value} {xs : List Value} (h : OwnsK w B E sz v xs) : (∃ ao, v = .slice ao 0 0 ∧ xs = []) ∨ ∃ g n cap, v = .slice (some ⟨g, 0, none⟩) n cap ∧ 0 < cap ∧ xs.length = n * sz := by
  rcases h with h1 | ⟨g, n, cap, cur, h1, h0, _, _, hl, _⟩
  · exact .inl h1
  · exact .inr ⟨g, n, cap, h1, h0, hl⟩
theorem OwnsK.slice {w : World} {B E sz : Nat} {v : Value} {xs : List Value} (h : OwnsK w B E sz v xs) {n : Nat} (hn : xs.length = n * sz) (hz : 0 < sz) : ∃ ao cap, v = .slice ao n cap := by
  rcases h.form with ⟨ao, h1, h2⟩ | ⟨g, n', cap, h1, _, hl⟩
  · subst h2
    have : n = 0 := by
      rcases Nat.eq_zero_or_pos n with h0 | h0
      · exact h0
      · have := Nat.mul_pos h0 hz; simp at hn; omega
    exact ⟨ao, 0, by rw [h1, this]⟩
  · have : n' = n := Nat.eq_of_mul_eq_mul_right hz (by omega)
    exact ⟨_, _, by rw [h1, this]⟩
theorem OwnsK.row {w : World} {B E sz : Nat} {v : Value} {xs : List Value} (h : OwnsK w B E sz v xs) {n : Nat} (hn : xs.length = n * sz) (hz : 0 < sz) (h0 : 0 < n) : ∃ g cap, v = .slice (some ⟨g, 0, none⟩) n cap ∧ (∀ j x, xs[j]? = some x → w.cell? ⟨g, j, none⟩ = some x) ∧ (∀ j, w.frozen? ⟨g, j, none⟩ = false) ∧ n ≤ cap := by
  rcases h with ⟨ao, h1, h2⟩ | ⟨g, n', cap, cur, h1, h0', h2, h3, hl, h4, h5, h6, h7⟩
  · subst h2
    have := Nat.mul_pos h0 hz
    simp at hn; omega
  · have e : n' = n := Nat.eq_of_mul_eq_mul_right hz (by omega)
    subst e
    refine ⟨g, cap, h1, fun j x hx => ?_, fun j => by simp [World.frozen?, h3], h4⟩
    have hj : j < xs.length := (List.getElem?_eq_some_iff.1 hx).1
    rw [← h7, List.getElem?_take, if_pos (by omega)] at hx
    simp [World.cell?, h3]
    simpa using hx
theorem OwnsK.capAt {w : World} {B E sz g n cap : Nat} {xs : List Value} (h : OwnsK w B E sz (.slice (some ⟨g, 0, none⟩) n cap) xs) (h0 : 0 < xs.length) : blk (.slice (some ⟨g, 0, none⟩) n cap) = some g := by
  rcases h with ⟨ao, h1, h2⟩ | ⟨g', n', cap', cur, h1, h0', _⟩
  · rw [h2] at h0; exact absurd h0 (Nat.lt_irrefl 0)
  · simp only [Value.slice.injEq, Option.some.injEq, Addr.mk.injEq, and_true] at h1
    exact blk_pos (by omega)
/-- a store into a row of one's own -/
theorem OwnsK.stored {w : World} {B E sz g n cap : Nat} {xs : List Value} (h : OwnsK w B E sz (.slice (some ⟨g, 0, none⟩) n cap) xs) (j : Nat) (u : Value) : OwnsK (w.setCell ⟨g, j, none⟩ u) B E sz (.slice (some ⟨g, 0, none⟩) n cap) (xs.set j u) := by
  rcases h with ⟨ao, h1, h2⟩ | ⟨g', n', cap', cur, h1, h0, h2, h3, hl, h4, h5, h6, h7⟩
  · subst h2
    exact .inl ⟨ao, h1, rfl⟩
  · simp only [Value.slice.injEq, Option.some.injEq, Addr.mk.injEq, and_true] at h1
    obtain ⟨rfl, rfl, rfl⟩ := h1
    refine .inr ⟨g, n, cap, cur.setIfInBounds j u, rfl, h0, h2, ?_, by simpa using hl, h4, h5, by simpa using h6, ?_⟩
    · simp [World.setCell, Array.getElem?_modify, h3]
    · rw [Array.toList_setIfInBounds, List.take_set, h7]
/-- what a row holds it still holds behind a longer row's change of their block's other cells -/
theorem OwnsK.pre {w w' : World} {B E sz : Nat} {l v : Value} {zs xs : List Value} (hl : OwnsK w B E sz l zs) (hv : OwnsK w B E sz v xs) (hb : (blk l) = (blk v)) (hz : zs.take xs.length = xs) (hl' : OwnsK w' B E sz l zs) : OwnsK w' B E sz v xs := by
  rcases hv with h2 | ⟨g, n, cap, cur, e, q0, q2, q3, ql, q4, q5, q6, q7⟩
  · exact .inl h2
  · subst e
    have hle : xs.length ≤ zs.length := by have := congrArg List.length hz; rw [List.length_take] at this; omega
    rw [blk_pos q0] at hb
    rcases hl with ⟨ao, e, _⟩ | ⟨g', n', cap', cur', e, r0, r2, r3, rl, r4, r5, r6, r7⟩
    · rw [e, blk_zero] at hb; cases hb
    · subst e
      rw [blk_pos r0] at hb
      have hg : g' = g := by simpa using hb
      subst hg
      rw [q3] at r3
      simp only [Option.some.injEq, Obj.cells.injEq, and_true] at r3
      subst r3
      rcases hl' with ⟨ao, e, _⟩ | ⟨g2, n2, cap2, cur2, e, s0, s2, s3, sl, s4, s5, s6, s7⟩
      · simp only [Value.slice.injEq] at e; omega
      · simp only [Value.slice.injEq, Option.some.injEq, Addr.mk.injEq, and_true] at e
        obtain ⟨rfl, rfl, rfl⟩ := e
        refine .inr ⟨g', n, cap, cur2, rfl, q0, q2, s3, ql, q4, q5, by omega, ?_⟩
        have h8 := congrArg (List.take xs.length) s7
        rw [List.take_take, hz, show min xs.length (n' * sz) = n * sz from by omega] at h8
        exact h8
/-- a list of lists: its own row, and each list's own row, no two of which are one -/
structure Lists (w : World) (B SL E sz : Nat) (vS : Value) (ls : List (Value × List Value)) : Prop where
  spine : Owns w B SL vS (ls.map (·.1))
  list : ∀ k ∈ ls, OwnsK w B E sz k.1 k.2
  apart : (blocks ls).Nodup
theorem Lists.nil (w : World) (B SL E sz : Nat) : Lists w B SL E sz (.slice none 0 0) [] := ⟨Owns.nil _ _ _, fun _ h => (by cases h), List.nodup_nil⟩
theorem Lists.touch {w w' : World} {B SL E sz : Nat} {vS : Value} {ls : List (Value × List Value)} {bs : List Nat} (h : Lists w B SL E sz vS ls) (ht : Stirred w w' bs) (hs : ∀ k, (blk vS) = some k → k ∉ bs) (hl : ∀ k ∈ blocks ls, k ∉ bs) : Lists w' B SL E sz vS ls :=
  ⟨h.spine.touch ht hs, fun k hk => (h.list k hk).touch ht (fun b hb => hl b (mem_blocks hk hb)), h.apart⟩
theorem Lists.below {w w' : World} {B SL E sz : Nat} {vS : Value} {ls : List (Value × List Value)} (h : Lists w B SL E sz vS ls) (hb : Below w.heap.size w w') : Lists w' B SL E sz vS ls :=
  h.touch (Stirred.of_below hb []) (fun _ _ => List.not_mem_nil) (fun _ _ => List.not_mem_nil)
theorem Lists.lt {w : World} {B SL E sz : Nat} {vS : Value} {ls : List (Value × List Value)} (h : Lists w B SL E sz vS ls) : ∀ k ∈ blocks ls, B ≤ k ∧ k < w.heap.size := by
  intro b hb
  unfold blocks at hb
  rw [List.mem_flatMap] at hb
  obtain ⟨k, hk, hb⟩ := hb
  have hb' : (blk k.1) = some b := by simpa using hb
  exact ⟨((h.list k hk).block b hb').1, ((h.list k hk).block b hb').2.1⟩
/-- the spine's block is none of the lists' -/
theorem Lists.spine_apart {w : World} {B SL E sz : Nat} {vS : Value} {ls : List (Value × List Value)} (h : Lists w B SL E sz vS ls) (hE : SL ≠ E) : ∀ k, (blk vS) = some k → k ∉ blocks ls := by
  intro b hb hm
  unfold blocks at hm
  rw [List.mem_flatMap] at hm
  obtain ⟨k, hk, hm⟩ := hm
  have hb' : (blk k.1) = some b := by simpa using hm
  exact h.spine.apartK (h.list k hk) hE b hb hb'
/-- one list has other elements now -/
theorem Lists.set {w w' : World} {B SL E sz : Nat} {vS : Value} {ls : List (Value × List Value)} {i : Nat} {v : Value} {xs xs' : List Value} (h : Lists w B SL E sz vS ls) (hE : SL ≠ E) (hi : ls[i]? = some (v, xs)) (ht : Stirred w w' (blk v).toList) (h' : OwnsK w' B E sz v xs') :
    Lists w' B SL E sz vS (ls.set i (v, xs')) := by
  have hm := List.mem_of_getElem? hi
  refine ⟨?_, fun k hk => ?_, by rw [blocks_set hi]; exact h.apart⟩
  · rw [map_set hi]
    refine h.spine.touch ht (fun b hb hb' => ?_)
    exact h.spine_apart hE b hb (mem_blocks hm (by simpa using hb'))
  · obtain ⟨j, hj⟩ := List.getElem?_of_mem hk
    by_cases hij : i = j
    · subst hij
      rw [List.getElem?_set_self' ] at hj
      rw [hi] at hj
      simp at hj
      subst hj
      exact h'
    · rw [List.getElem?_set_ne hij] at hj
      refine (h.list k (List.mem_of_getElem? hj)).touch ht (fun b hb hb' => ?_)
      exact nodup_at h.apart hj hi (fun e => hij e.symm) b hb (by simpa using hb')
/-- what a book keeps of one kind: the lists, and copies of what they held; none of it lies in the blocks bs -/
structure Kept (w : World) (B SL E sz : Nat) (good : List Value → Prop) (vS vW : Value) (ls : List (Value × List Value)) (bs : List Nat) : Prop where
  lists : Lists w B SL E sz vS ls
  was : ∃ cs : List (Value × List Value), cs.map (·.2) = ls.map (·.2) ∧ Owns w B SL vW (cs.map (·.1)) ∧ (∀ k ∈ cs, OwnsK w B E sz k.1 k.2) ∧ ∀ k ∈ bs, k ∉ blocks cs
  spines : ∀ k, (blk vS) = some k → (blk vW) ≠ some k
  fine : ∀ k ∈ ls, good k.2
  few : ls.length ≤ 250
  first : ls = [] → vW = .slice none 0 0
  off : ∀ k ∈ bs, blk vS ≠ some k ∧ blk vW ≠ some k ∧ k ∉ blocks ls
theorem Kept.nil (w : World) (B SL E sz : Nat) (good : List Value → Prop) (bs : List Nat) : Kept w B SL E sz good (.slice none 0 0) (.slice none 0 0) [] bs :=
  ⟨Lists.nil _ _ _ _ _, ⟨[], rfl, Owns.nil _ _ _, (fun _ h => (by cases h)), fun _ _ h => (by cases h)⟩, fun k h => (by cases h), fun _ h => (by cases h), Nat.zero_le _, fun _ => rfl, fun k _ => ⟨fun h => (by cases h), fun h => (by cases h), fun h => (by cases h)⟩⟩
/-- what is done in these blocks alone, and in new ones, leaves a book's lists as they were -/
theorem Kept.touch {w w' : World} {B SL E sz : Nat} {good : List Value → Prop} {vS vW : Value} {ls : List (Value × List Value)} {bs ds : List Nat} (h : Kept w B SL E sz good vS vW ls bs) (ht : Stirred w w' ds) (hd : ∀ k ∈ ds, k ∈ bs) : Kept w' B SL E sz good vS vW ls bs := by
  obtain ⟨cs, h1, h2, h3, h4⟩ := h.was
  refine ⟨h.lists.touch ht (fun k hk hm => (h.off k (hd k hm)).1 hk) (fun k hk hm => (h.off k (hd k hm)).2.2 hk), ⟨cs, h1, h2.touch ht (fun k hk hm => (h.off k (hd k hm)).2.1 hk), fun k hk => (h3 k hk).touch ht (fun b hb hm => ?_), h4⟩, h.spines, h.fine, h.few, h.first, h.off⟩
  exact h4 b (hd b hm) (mem_blocks hk hb)
theorem Kept.below {w w' : World} {B SL E sz : Nat} {good : List Value → Prop} {vS vW : Value} {ls : List (Value × List Value)} {bs : List Nat} (h : Kept w B SL E sz good vS vW ls bs) (hb : Below w.heap.size w w') : Kept w' B SL E sz good vS vW ls bs :=
  h.touch (Stirred.of_below hb []) (fun _ h => by cases h)
/-- other blocks: those, or such as are not yet there -/
theorem Kept.more {w : World} {B SL E sz : Nat} {good : List Value → Prop} {vS vW : Value} {ls : List (Value × List Value)} {bs ds : List Nat} (h : Kept w B SL E sz good vS vW ls bs) (hd : ∀ k ∈ ds, k ∈ bs ∨ w.heap.size ≤ k ∨ k < B) : Kept w B SL E sz good vS vW ls ds := by
  obtain ⟨cs, h1, h2, h3, h4⟩ := h.was
  refine ⟨h.lists, ⟨cs, h1, h2, h3, fun k hk hm => ?_⟩, h.spines, h.fine, h.few, h.first, fun k hk => ?_⟩
  · rcases hd k hk with h5 | h5
    · exact h4 k h5 hm
    · unfold blocks at hm
      rw [List.mem_flatMap] at hm
      obtain ⟨c, hc, hm⟩ := hm
      have h6 := (h3 c hc).block k (by simpa using hm)
      omega
  · rcases hd k hk with h5 | h5
    · exact h.off k h5
    · refine ⟨fun e => ?_, fun e => ?_, fun e => ?_⟩
      · have h6 := h.lists.spine.block k e; omega
      · have h6 := h2.block k e; omega
      · have h6 := h.lists.lt k e; omega
/-- the j-th list, its copy, and what both hold -/
theorem Kept.at {w : World} {B SL E sz : Nat} {good : List Value → Prop} {vS vW : Value} {ls : List (Value × List Value)} {bs : List Nat} (h : Kept w B SL E sz good vS vW ls bs) {j : Nat} (hj : j < ls.length) :
    ∃ gS cS gW cW a b xs, vS = .slice (some ⟨gS, 0, none⟩) ls.length cS ∧ vW = .slice (some ⟨gW, 0, none⟩) ls.length cW ∧ w.cell? ⟨gS, j, none⟩ = some a ∧ w.cell? ⟨gW, j, none⟩ = some b ∧ OwnsK w B E sz a xs ∧ OwnsK w B E sz b xs ∧ good xs := by
  obtain ⟨cs, h1, h2, h3, _⟩ := h.was
  have hl : cs.length = ls.length := by have := congrArg List.length h1; simpa using this
  obtain ⟨gS, cS, e1, c1, _, _⟩ := h.lists.spine.row (by simp; omega)
  obtain ⟨gW, cW, e2, c2, _, _⟩ := h2.row (by simp; omega)
  have k1 : ls[j]? = some ls[j] := List.getElem?_eq_getElem hj
  have k2 : cs[j]? = some (cs[j]'(by omega)) := List.getElem?_eq_getElem _
  have hx : (cs[j]'(by omega)).2 = ls[j].2 := by
    have h4 := congrArg (·[j]?) h1
    simp only [List.getElem?_map, k1, k2, Option.map_some, Option.some.injEq] at h4
    exact h4
  refine ⟨gS, cS, gW, cW, ls[j].1, (cs[j]'(by omega)).1, ls[j].2, by rw [e1]; simp, by rw [e2]; simp [hl], c1 j _ (by simp [k1]), c2 j _ (by simp [k2]), h.lists.list _ (List.getElem_mem hj), ?_, h.fine _ (List.getElem_mem hj)⟩
  have := h3 _ (List.getElem_mem (show j < cs.length by omega))
  rw [hx] at this
  exact this
/-- l is v, grown since w1 -/
structure Grows (w1 : World) (B E sz : Nat) (v : Value) (xs : List Value) (wx : World) (l : Value) (zs : List Value) : Prop where
  long : OwnsK wx B E sz l zs
  short : OwnsK wx B E sz v xs
  pre : zs.take xs.length = xs
  stir : Stirred w1 wx (blk v).toList
  own : (blk l) = (blk v) ∨ ∃ k, (blk l) = some k ∧ w1.heap.size ≤ k
  lt : ∀ k, (blk v) = some k → k < w1.heap.size
theorem Grows.start {w1 : World} {B E sz : Nat} {v : Value} {xs : List Value} (h : OwnsK w1 B E sz v xs) : Grows w1 B E sz v xs w1 v xs :=
  ⟨h, h, by simp, Stirred.refl _ _, .inl rfl, fun k hk => (h.block k hk).2.1⟩
theorem Grows.below {w1 wx wy : World} {B E sz : Nat} {v l : Value} {xs zs : List Value} (h : Grows w1 B E sz v xs wx l zs) (hb : Below wx.heap.size wx wy) : Grows w1 B E sz v xs wy l zs :=
  ⟨h.long.below hb, h.short.below hb, h.pre, h.stir.trans (Stirred.of_below hb []) (fun _ h => by cases h), h.own, h.lt⟩
theorem Grows.append {w1 wx w' : World} {B E sz : Nat} {v l l' : Value} {xs zs news : List Value} (h : Grows w1 B E sz v xs wx l zs) (h2 : OwnsK w' B E sz l' (zs ++ news)) (h3 : OwnsK w' B E sz l zs)
    (h4 : Stirred wx w' (blk l).toList) (h5 : (blk l') = (blk l) ∨ ∃ k, (blk l') = some k ∧ wx.heap.size ≤ k) : Grows w1 B E sz v xs w' l' (zs ++ news) := by
  have hle : xs.length ≤ zs.length := by have := congrArg List.length h.pre; rw [List.length_take] at this; omega
  refine ⟨h2, ?_, ?_, ?_, ?_, h.lt⟩
  · rcases h.own with e | ⟨k, e, hk⟩
    · exact h.long.pre h.short e h.pre h3
    · refine h.short.touch h4 (fun b hb hm => ?_)
      rw [e] at hm
      have := h.lt b hb
      simp at hm
      omega
  · rw [List.take_append_of_le_length hle, h.pre]
  · refine h.stir.trans h4 (fun k hk => ?_)
    rcases h.own with e | ⟨k', e, hk'⟩
    · rw [e] at hk; exact .inl hk
    · rw [e] at hk; simp at hk; exact .inr (by omega)
  · rcases h5 with e | ⟨k, e, hk⟩
    · rw [e]; exact h.own
    · exact .inr ⟨k, e, Nat.le_trans h.stir.size hk⟩
/-- the first j lists, grown since w, are a list of lists of their own -/
structure Gs (w : World) (B SL E sz : Nat) (mk : Nat → Nat → List Value) (most : Nat) (vS : Value) (cur : List (Value × List Value)) (j : Nat) (vO : Value) (gs : List (Value × List Value)) (wr : World) : Prop where
  len : gs.length = j
  out : Owns wr w.heap.size SL vO (gs.map (·.1))
  list : ∀ k ∈ gs, OwnsK wr B E sz k.1 k.2
  mark : ∀ i k, gs[i]? = some k → k.2 = mk i k.2.length ∧ k.2.length ≤ most
  old : Lists wr B SL E sz vS cur
  apart : (blocks gs).Nodup
  low : ∀ b ∈ blocks gs, b ∈ blocks (cur.take j) ∨ w.heap.size ≤ b
  stir : Stirred w wr (blocks cur)
  here : ∀ b ∈ blocks cur, b < w.heap.size
  hereS : ∀ k, (blk vS) = some k → k < w.heap.size
theorem Gs.zero {w : World} {B SL E sz : Nat} {mk : Nat → Nat → List Value} {most : Nat} {vS : Value} {cur : List (Value × List Value)} (h : Lists w B SL E sz vS cur) : Gs w B SL E sz mk most vS cur 0 (.slice none 0 0) [] w :=
  ⟨rfl, Owns.nil _ _ _, fun _ h => (by cases h), fun _ _ h => (by cases h), h, List.nodup_nil, fun _ h => (by cases h), Stirred.refl _ _, fun b hb => (h.lt b hb).2, fun k hk => (h.spine.block k hk).2.1⟩
theorem Gs.out_at {w : World} {B SL E sz : Nat} {mk : Nat → Nat → List Value} {most : Nat} {vS : Value} {cur : List (Value × List Value)} {j : Nat} {vO : Value} {gs : List (Value × List Value)} {wr wx : World}
    (h : Gs w B SL E sz mk most vS cur j vO gs wr) {v l : Value} {xs zs : List Value} (hk : cur[j]? = some (v, xs)) (g : Grows wr B E sz v xs wx l zs) : Owns wx w.heap.size SL vO (gs.map (·.1)) :=
  h.out.touch g.stir (fun k hk' hm => (by
    have h1 := (h.out.block k hk').1
    have h2 := h.here k (mem_blocks (List.mem_of_getElem? hk) (by simpa using hm))
    omega))
theorem Gs.step {w : World} {B SL E sz : Nat} {mk : Nat → Nat → List Value} {most : Nat} {vS : Value} {cur : List (Value × List Value)} {j : Nat} {vO vO' : Value} {gs : List (Value × List Value)} {wr wx w' : World}
    (h : Gs w B SL E sz mk most vS cur j vO gs wr) (hE : SL ≠ E) {v l : Value} {xs zs : List Value} (hk : cur[j]? = some (v, xs)) (g : Grows wr B E sz v xs wx l zs) (hm : zs = mk j zs.length) (hz : zs.length ≤ most)
    (ho : Owns w' w.heap.size SL vO' (gs.map (·.1) ++ [l])) (hs : Stirred wx w' (blk vO).toList) : Gs w B SL E sz mk most vS cur (j + 1) vO' (gs ++ [(l, zs)]) w' := by
  have hmem := List.mem_of_getElem? hk
  have hvlow : ∀ b, (blk v) = some b → b < w.heap.size := fun b hb => h.here b (mem_blocks hmem hb)
  have hgs : ∀ b, (blk v) = some b → b ∉ blocks gs := fun b hb hmb => by
    rcases h.low b hmb with h1 | h1
    · exact take_apart hk h.old.apart b hb h1
    · have := hvlow b hb; omega
  have hlt : ∀ b ∈ blocks gs, b < wr.heap.size := fun b hb => by
    unfold blocks at hb
    rw [List.mem_flatMap] at hb
    obtain ⟨k, hk, hb⟩ := hb
    exact ((h.list k hk).block b (by simpa using hb)).2.1
  have hlv : ∀ b, (blk l) = some b → (blk v) = some b ∨ wr.heap.size ≤ b := fun b hb => by
    rcases g.own with e | ⟨k, e, hk⟩
    · exact .inl (by rw [← e]; exact hb)
    · rw [e] at hb; simp at hb; exact .inr (by omega)
  have hox : Owns wx w.heap.size SL vO (gs.map (·.1)) := h.out.touch g.stir (fun k hk hm => (by
    have h1 := (h.out.block k hk).1
    have h2 := hvlow k (by simpa using hm)
    omega))
  have hwx := g.stir
  have hsE : ∀ {u : Value} {us : List Value}, OwnsK wx B E sz u us → OwnsK w' B E sz u us := fun {u us} hu => hu.touch hs (fun k hk hm => (hox.apartK hu hE) k (by simpa using hm) hk)
  refine ⟨by simp [h.len], by simpa using ho, fun k hk => ?_, fun i k hi => ?_, ⟨?_, fun k hkm => ?_, h.old.apart⟩, ?_, fun b hb => ?_, ?_, h.here, h.hereS⟩
  · rw [List.mem_append, List.mem_singleton] at hk
    rcases hk with hk | rfl
    · exact hsE ((h.list k hk).touch hwx (fun b hb hm => hgs b (by simpa using hm) (mem_blocks hk hb)))
    · exact hsE g.long
  · by_cases hij : i < gs.length
    · rw [List.getElem?_append_left hij] at hi; exact h.mark i k hi
    · rw [List.getElem?_append_right (by omega)] at hi
      have hi0 : i - gs.length = 0 := by
        have := (List.getElem?_eq_some_iff.1 hi).1
        simp at this
        omega
      rw [hi0] at hi
      simp at hi
      subst hi
      have : i = j := by rw [← h.len]; omega
      subst this
      exact ⟨hm, hz⟩
  · refine (h.old.spine.touch hwx (fun b hb hm => h.old.spine_apart hE b hb (mem_blocks hmem (by simpa using hm)))).touch hs (fun b hb hm => ?_)
    have h1 := h.hereS b hb
    have h2 := (h.out.block b (by simpa using hm)).1
    omega
  · obtain ⟨i, hi⟩ := List.getElem?_of_mem hkm
    by_cases hij : j = i
    · subst hij
      rw [hk] at hi
      simp at hi
      subst hi
      exact hsE g.short
    · exact hsE ((h.old.list k hkm).touch hwx (fun b hb hm => nodup_at h.old.apart hk hi hij b (by simpa using hm) hb))
  · rw [blocks_append, List.nodup_append]
    refine ⟨h.apart, ?_, fun b hb b' hb' e => ?_⟩
    · show ((blk l).toList ++ []).Nodup
      cases (blk l) <;> simp
    · subst e
      have hb' : (blk l) = some b := by simpa [blocks] using hb'
      rcases hlv b hb' with h1 | h1
      · exact hgs b h1 hb
      · have := hlt b hb; omega
  · rw [blocks_append, List.mem_append] at hb
    rw [blocks_take hk, List.mem_append]
    rcases hb with hb | hb
    · rcases h.low b hb with h1 | h1
      · exact .inl (.inl h1)
      · exact .inr h1
    · have hb' : (blk l) = some b := by simpa [blocks] using hb
      rcases hlv b hb' with h1 | h1
      · exact .inl (.inr (by simpa using h1))
      · exact .inr (Nat.le_trans h.stir.size h1)
  · refine (h.stir.trans hwx (fun k hk => .inl (mem_blocks hmem (by simpa using hk)))).trans hs (fun k hk => .inr ?_)
    exact (h.out.block k (by simpa using hk)).1
theorem Gs.below {w : World} {B SL E sz : Nat} {mk : Nat → Nat → List Value} {most : Nat} {vS : Value} {cur : List (Value × List Value)} {j : Nat} {vO : Value} {gs : List (Value × List Value)} {wr w' : World}
    (h : Gs w B SL E sz mk most vS cur j vO gs wr) (hb : Below wr.heap.size wr w') : Gs w B SL E sz mk most vS cur j vO gs w' :=
  ⟨h.len, h.out.below hb, fun k hk => (h.list k hk).below hb, h.mark, h.old.below hb, h.apart, h.low, h.stir.trans (Stirred.of_below hb []) (fun _ h => by cases h), h.here, h.hereS⟩
/-- one list more -/
theorem Lists.add {w w' : World} {B SL E sz : Nat} {vS vS' v : Value} {ls : List (Value × List Value)} {xs : List Value} (h : Lists w B SL E sz vS ls) (hE : SL ≠ E) {p : Nat} (hp : p < B) (ho : OwnsK w B E sz v xs) (hn : ∀ k, (blk v) = some k → k ∉ blocks ls)
    (hS : Owns w' B SL vS' (ls.map (·.1) ++ [v])) (ht : Stirred w w' (p :: (blk vS).toList)) : Lists w' B SL E sz vS' (ls ++ [(v, xs)]) := by
  have hst : ∀ {u : Value} {us : List Value}, OwnsK w B E sz u us → OwnsK w' B E sz u us := fun {u us} hu => hu.touch ht (fun k hk hm => by
    rw [List.mem_cons] at hm
    rcases hm with rfl | hm
    · have := (hu.block k hk).1; omega
    · exact h.spine.apartK hu hE k (by simpa using hm) hk)
  refine ⟨by simpa using hS, fun k hk => ?_, ?_⟩
  · rw [List.mem_append, List.mem_singleton] at hk
    rcases hk with hk | rfl
    · exact hst (h.list k hk)
    · exact hst ho
  · rw [blocks_append, List.nodup_append]
    refine ⟨h.apart, ?_, fun b hb b' hb' e => ?_⟩
    · show ((blk v).toList ++ []).Nodup
      cases (blk v) <;> simp
    · subst e
      exact hn b (by simpa [blocks] using hb') hb
/-- a book in which one list more is kept, and its copy is not yet -/
structure Half (w : World) (B SL E sz : Nat) (good : List Value → Prop) (vS vW : Value) (ls : List (Value × List Value)) (v : Value) (xs : List Value) (cs : List (Value × List Value)) (bs : List Nat) : Prop where
  lists : Lists w B SL E sz vS (ls ++ [(v, xs)])
  eq : cs.map (·.2) = ls.map (·.2)
  was : Owns w B SL vW (cs.map (·.1))
  each : ∀ k ∈ cs, OwnsK w B E sz k.1 k.2
  spines : ∀ k, (blk vS) = some k → (blk vW) ≠ some k
  fine : ∀ k ∈ ls, good k.2
  good : good xs
  few : ls.length < 250
  first : ls = [] → vW = .slice none 0 0
  off : ∀ k ∈ bs, blk vS ≠ some k ∧ blk vW ≠ some k ∧ k ∉ blocks (ls ++ [(v, xs)]) ∧ k ∉ blocks cs
theorem Half.wasRow {w : World} {B SL E sz : Nat} {good : List Value → Prop} {vS vW v : Value} {ls cs : List (Value × List Value)} {xs : List Value} {bs : List Nat} (h : Half w B SL E sz good vS vW ls v xs cs bs) : cs.map (·.1) = [] → vW = .slice none 0 0 := fun e => by
  refine h.first (List.map_eq_nil_iff (f := (·.2)).1 ?_)
  rw [← h.eq, List.map_eq_nil_iff.1 e]; rfl
theorem Kept.half {w w' : World} {B SL E sz : Nat} {good : List Value → Prop} {vS vS' vW v : Value} {ls : List (Value × List Value)} {xs : List Value} {bs : List Nat} (h : Kept w B SL E sz good vS vW ls bs) (hbs : ∀ k ∈ bs, k < w.heap.size) (hE : SL ≠ E) {p : Nat} (hp : p < B) (hlt : ls.length < 250)
    (ho : OwnsK w B E sz v xs) (hg : good xs) (hn : ∀ k, (blk v) = some k → k ∉ blocks ls) (hv : ∀ k, blk v = some k → k ∉ bs) (hS : Owns w' B SL vS' (ls.map (·.1) ++ [v])) (ht : Stirred w w' (p :: (blk vS).toList))
    (hnew : (blk vS') = (blk vS) ∨ ∃ k, (blk vS') = some k ∧ w.heap.size ≤ k) : ∃ cs, Half w' B SL E sz good vS' vW ls v xs cs bs := by
  obtain ⟨cs, h1, h2, h3, h4⟩ := h.was
  refine ⟨cs, h.lists.add hE hp ho hn hS ht, h1, h2.touch ht (fun k hk hm => ?_), fun k hk => (h3 k hk).touch ht (fun b hb hm => ?_), fun k hk e => ?_, h.fine, hg, hlt, h.first, fun k hk => ⟨fun e => ?_, (h.off k hk).2.1, fun hm => ?_, h4 k hk⟩⟩
  · rw [List.mem_cons] at hm
    rcases hm with rfl | hm
    · have := (h2.block k hk).1; omega
    · exact h.spines k (by simpa using hm) hk
  · rw [List.mem_cons] at hm
    rcases hm with rfl | hm
    · have := ((h3 k hk).block b hb).1; omega
    · exact h.lists.spine.apartK (h3 k hk) hE b (by simpa using hm) hb
  · rcases hnew with e' | ⟨k', e', hk'⟩
    · rw [e'] at hk; exact h.spines k hk e
    · rw [e'] at hk
      simp at hk
      have := (h2.block k e).2.1
      omega
  · rcases hnew with e' | ⟨k', e', hk'⟩
    · exact (h.off k hk).1 (by rw [← e', e])
    · rw [e] at e'
      have := hbs k hk
      simp at e'
      omega
  · rw [blocks_append, List.mem_append] at hm
    rcases hm with hm | hm
    · exact (h.off k hk).2.2 hm
    · exact hv k (by simpa [blocks] using hm) hk
theorem Half.full {w w' : World} {B SL E sz : Nat} {good : List Value → Prop} {vS vW vW' v c : Value} {ls cs : List (Value × List Value)} {xs : List Value} {bs : List Nat} (h : Half w B SL E sz good vS vW ls v xs cs bs) (hE : SL ≠ E) {p : Nat} (hp : p < B)
    (hW : Owns w' B SL vW' (cs.map (·.1) ++ [c])) (hc : OwnsK w' B E sz c xs) (ht : Stirred w w' (p :: (blk vW).toList)) (hnew : (blk vW') = (blk vW) ∨ ∃ k, (blk vW') = some k ∧ w.heap.size ≤ k) (hbs : ∀ k ∈ bs, k < w.heap.size) (hcn : ∀ k, blk c = some k → w.heap.size ≤ k) : Kept w' B SL E sz good vS vW' (ls ++ [(v, xs)]) bs := by
  have hst : ∀ {u : Value} {us : List Value}, OwnsK w B E sz u us → OwnsK w' B E sz u us := fun {u us} hu => hu.touch ht (fun k hk hm => by
    rw [List.mem_cons] at hm
    rcases hm with rfl | hm
    · have := (hu.block k hk).1; omega
    · exact h.was.apartK hu hE k (by simpa using hm) hk)
  refine ⟨⟨h.lists.spine.touch ht (fun k hk hm => ?_), fun k hk => hst (h.lists.list k hk), h.lists.apart⟩, ⟨cs ++ [(c, xs)], by simp [h.eq], by simpa using hW, fun k hk => ?_, fun k hk hm => ?_⟩, fun k hk e => ?_, fun k hk => ?_, by have := h.few; simp; omega, fun e => by simp at e, fun k hk => ⟨(h.off k hk).1, fun e => ?_, (h.off k hk).2.2.1⟩⟩
  · rw [List.mem_cons] at hm
    rcases hm with rfl | hm
    · have := (h.lists.spine.block k hk).1; omega
    · exact h.spines k hk (by simpa using hm)
  · rw [List.mem_append, List.mem_singleton] at hk
    rcases hk with hk | rfl
    · exact hst (h.each k hk)
    · exact hc
  · rw [blocks_append, List.mem_append] at hm
    rcases hm with hm | hm
    · exact (h.off k hk).2.2.2 hm
    · have h1 := hcn k (by simpa [blocks] using hm)
      have h2 := hbs k hk
      omega
  · rcases hnew with e' | ⟨k', e', hk'⟩
    · rw [e'] at e; exact h.spines k hk e
    · rw [e'] at e
      simp at e
      have := (h.lists.spine.block k hk).2.1
      omega
  · rw [List.mem_append, List.mem_singleton] at hk
    rcases hk with hk | rfl
    · exact h.fine k hk
    · exact h.good
  · rcases hnew with e' | ⟨k', e', hk'⟩
    · exact (h.off k hk).2.1 (by rw [← e', e])
    · rw [e] at e'
      have := hbs k hk
      simp at e'
      omega
theorem Half.grown {w w3 w4 : World} {B SL E sz : Nat} {good : List Value → Prop} {vS vW v : Value} {ls cs : List (Value × List Value)} {xs : List Value} {bs : List Nat} (h : Half w B SL E sz good vS vW ls v xs cs bs) {p T : Nat} {cur : Array Value} {o : Obj} (hp : p < B)
    (hbk : w.heap[p]? = some (.cells cur T (0, 0))) (hb : Below w.heap.size w w3) (hgrow : (w3.alloc o).grownBy w4 (blk vW)) : Stirred w w4 (blk vW).toList ∧ w4.heap[p]? = some (.cells cur T (0, 0)) := by
  have h1 : Stirred w w4 (blk vW).toList := (((Stirred.of_below hb []).trans (Stirred.of_below ((Below.refl w3.heap.size w3).alloc (Nat.le_refl _) o) []) (fun _ h => (by cases h))).more (fun _ h => (by cases h))).trans (Stirred.of_grown hgrow) (fun k hk => .inl hk)
  exact ⟨h1, h1.whole hbk (fun hm => by have := (h.was.block p (by simpa using hm)).1; omega)⟩
theorem Half.close {w w3 w4 : World} {B SL E sz : Nat} {good : List Value → Prop} {vS vW vW' v c : Value} {ls cs : List (Value × List Value)} {xs : List Value} {bs : List Nat} (h : Half w B SL E sz good vS vW ls v xs cs bs) (hE : SL ≠ E) {p T j : Nat} {cur : Array Value} {o : Obj} (hp : p < B) (hB : B ≤ w.heap.size)
    (hbk : w.heap[p]? = some (.cells cur T (0, 0))) (hb : Below w.heap.size w w3) (hc : OwnsK w3 w.heap.size E sz c xs) (hW : Owns w4 B SL vW' (cs.map (·.1) ++ [c])) (hgrow : (w3.alloc o).grownBy w4 (blk vW))
    (hnew : (blk vW') = (blk vW) ∨ ∃ k, (blk vW') = some k ∧ w.heap.size ≤ k) (hbs : ∀ k ∈ bs, k < w.heap.size) :
    Kept (w4.setCell ⟨p, j, none⟩ vW') B SL E sz good vS vW' (ls ++ [(v, xs)]) bs ∧ (w4.setCell ⟨p, j, none⟩ vW').heap[p]? = some (.cells (cur.setIfInBounds j vW') T (0, 0)) ∧ Stirred w (w4.setCell ⟨p, j, none⟩ vW') (p :: (blk vW).toList) := by
  obtain ⟨h1, h2⟩ := h.grown hp hbk hb hgrow
  have hs : Stirred w (w4.setCell ⟨p, j, none⟩ vW') (p :: (blk vW).toList) := (h1.more (fun k hk => List.mem_cons_of_mem _ hk)).trans (Stirred.setCell w4 ⟨p, j, none⟩ vW') (fun k hk => .inl (by simp at hk; simp [hk]))
  have hset : ∀ {B' E' : Nat} {u : Value} {us : List Value}, B ≤ B' → OwnsK w4 B' E' sz u us → OwnsK (w4.setCell ⟨p, j, none⟩ vW') B' E' sz u us := fun {B' E' u us} hle hu => hu.touch (Stirred.setCell w4 ⟨p, j, none⟩ vW') (fun k hk hm => by
    have h3 := (hu.block k hk).1
    simp at hm
    omega)
  have hw3 : Owns (w3.alloc o) B SL vW (cs.map (·.1)) := (h.was.below hb).below ((Below.refl w3.heap.size w3).alloc (Nat.le_refl _) o)
  have hc4 : OwnsK w4 w.heap.size E sz c xs := (hc.below ((Below.refl w3.heap.size w3).alloc (Nat.le_refl _) o)).touch (Stirred.of_grown hgrow) (fun k hk hm => hw3.apartK (hc.below ((Below.refl w3.heap.size w3).alloc (Nat.le_refl _) o)) hE k (by simpa using hm) hk)
  exact ⟨h.full hE hp (hW.touch (Stirred.setCell w4 ⟨p, j, none⟩ vW') (fun k hk hm => by have h3 := (hW.block k hk).1; simp at hm; omega)) ((hset hB hc4).from hB) hs hnew hbs (fun k hk => (hc.block k hk).1), whole_set h2 j vW', hs⟩
section
variable {P : Program} (w : World)
/-- 'append(v, news...)' onto a row of one's own: the longer slice owns its row, and the shorter one still owns what it had -/
theorem run_append_two (B : Nat) (t ty E sz : TypeId) (i : TypeInfo) (z : Value) (bytes : Nat) (ht : P.underlying t = some (.slice E)) (hi : P.info? E = some i) (hz : i.zero = some z)
    (hsize : i.size = sz) (hby : i.bytes = bytes) (hzs : z.cells.size = sz) (hsz : 0 < sz)
    (v : Value) (n : Nat) (xs : List Value) (hown : OwnsK w B E sz v xs) (hn : xs.length = n * sz)
    (a : Addr) (m c : Nat) (news : List Value) (hl : news.length = m * sz) (hnews : ∀ j u, news[j]? = some u → w.cell? (a.add j) = some u) (h1 : ∀ u ∈ news, u.oneCell' = true)
    (h0 : 0 < m) (h63 : n + m ≤ maxLen) (hbytes : (n + m) * bytes ≤ 140737488355328) (hbase : B ≤ w.heap.size) :
    ∃ v' w', (Builtin.append_ #[t, t] ty #[v, .slice (some a) m c]).run P w = .ok v' w' ∧ OwnsK w' B E sz v' (xs ++ news) ∧ OwnsK w' B E sz v xs ∧ Stirred w w' (blk v).toList ∧ ((blk v') = (blk v) ∨ ∃ k, (blk v') = some k ∧ w.heap.size ≤ k) := by
  have hnl : 0 < news.length := by rw [hl]; exact Nat.mul_pos h0 hsz
  have hnew : ∀ {w' : World} {v' : Value}, OwnsK w' w.heap.size E sz v' (xs ++ news) → ∃ k, (blk v') = some k ∧ w.heap.size ≤ k := fun {w' v'} h => by
    rcases h.form with ⟨_, _, h2⟩ | ⟨g, n', cap, h2, hc, _⟩
    · rw [(List.append_eq_nil_iff.1 h2).2] at hnl
      exact absurd hnl (Nat.lt_irrefl 0)
    · subst h2
      exact ⟨g, blk_pos hc, (h.block g (blk_pos hc)).1⟩
  rcases hown.form with ⟨ao, rfl, rfl⟩ | ⟨g, n', cap, rfl, hc0, hl'⟩
  · have hn0 : n = 0 := by
      rcases Nat.eq_zero_or_pos n with h | h
      · exact h
      · have := Nat.mul_pos h hsz; simp at hn; omega
    subst hn0
    cases ao with
    | none =>
      obtain ⟨v', w', hr, h2, h3, h4⟩ := run_append_own (P := P) w w.heap.size t ty E i z sz bytes ht hi hz hsize hby hzs hsz (.slice none 0 0) 0 [] (World.ownsRow_nil _ _ _ _) a m c news hl hnews h1 h63 hbytes (Nat.le_refl _)
      have h5 : OwnsK w' w.heap.size E sz v' ([] ++ news) := OwnsK.of_row h2
      exact ⟨v', w', hr, h5.from hbase, OwnsK.nil _ _ _ _, Stirred.of_grown h3, .inr (hnew h5)⟩
    | some b =>
      obtain ⟨v', w', hr, h2, h3⟩ := run_append_arg_grows (P := P) w t ty E i z sz bytes ht hi hz hsize hby hzs hsz b 0 0 [] (by simp) (fun j u hu => by cases hu) a m c news hl hnews (by omega) h63 hbytes
      have h5 : OwnsK w' w.heap.size E sz v' ([] ++ news) := OwnsK.of_row h2
      exact ⟨v', w', hr, h5.from hbase, OwnsK.empty _ _ _ _ _, (Stirred.of_grown h3).more (fun _ h => by cases h), .inr (hnew h5)⟩
  · have e : n' = n := Nat.eq_of_mul_eq_mul_right hsz (by omega)
    subst e
    have hrow := hown.row_of hc0
    by_cases hroom : n' + m ≤ cap
    · obtain ⟨w', hr, h2, h3⟩ := run_append_fits (P := P) w B t ty E i sz ht hi hsize g n' cap xs hrow a m c news hl hnews h1 hroom
      refine ⟨_, w', hr, OwnsK.of_row h2, ?_, by rw [blk_pos hc0]; exact Stirred.of_grown h3, .inl (by rw [blk_pos hc0, blk_pos hc0])⟩
      rcases h2.2 with ⟨e, _⟩ | ⟨g', cap', cur, e, q2, q3, q4, q5, q6, q7⟩
      · cases e
      · simp only [Value.slice.injEq, Option.some.injEq, Addr.mk.injEq, and_true, true_and] at e
        obtain ⟨rfl, rfl⟩ := e
        refine .inr ⟨g, n', cap, cur, rfl, hc0, q2, q3, hn, by omega, q5, q6, ?_⟩
        have := congrArg (List.take xs.length) q7
        rw [List.take_take, List.take_left] at this
        rw [show min xs.length ((n' + m) * sz) = n' * sz from by rw [Nat.add_mul]; omega] at this
        exact this
    · obtain ⟨v', w', hr, h2, h3⟩ := run_append_arg_grows (P := P) w t ty E i z sz bytes ht hi hz hsize hby hzs hsz ⟨g, 0, none⟩ n' cap xs hn (fun j u hu => by
        have hj : j < xs.length := (List.getElem?_eq_some_iff.1 hu).1
        have := World.ownsRow.cellAt hrow j (by omega)
        rw [hu] at this
        rw [add_row]; exact this) a m c news hl hnews (by omega) h63 hbytes
      have h5 : OwnsK w' w.heap.size E sz v' (xs ++ news) := OwnsK.of_row h2
      exact ⟨v', w', hr, h5.from hbase, hown.touch (Stirred.of_grown h3) (fun _ _ => List.not_mem_nil), (Stirred.of_grown h3).more (fun _ h => by cases h), .inr (hnew h5)⟩
theorem wpList_append_two {ops : Array Oper} {rest : List Oper} {o : Oper} {a : Act} {Q : Exit → Act → World → Prop} (hgd : o.guard = none) (s x : Operand) (t : TypeId)
    (ho : o.op = .call { callee := .builtin .append, args := #[s, x], argTypes := #[t, t] })
    (B E sz : Nat) (i : TypeInfo) (z : Value) (bytes : Nat) (ht : P.underlying t = some (.slice E)) (hi : P.info? E = some i) (hz : i.zero = some z) (hsize : i.size = sz) (hby : i.bytes = bytes) (hzs : z.cells.size = sz) (hsz : 0 < sz)
    (v : Value) (n : Nat) (xs : List Value) (hs : a.eval s = v) (hown : OwnsK w B E sz v xs) (hn : xs.length = n * sz)
    (ad : Addr) (m c : Nat) (news : List Value) (hl : news.length = m * sz) (hx : a.eval x = .slice (some ad) m c) (hnews : ∀ j u, news[j]? = some u → w.cell? (ad.add j) = some u) (h1 : ∀ u ∈ news, u.oneCell' = true)
    (h0 : 0 < m) (h63 : n + m ≤ maxLen) (hbytes : (n + m) * bytes ≤ 140737488355328) (hbase : B ≤ w.heap.size)
    (h : ∀ v' w', OwnsK w' B E sz v' (xs ++ news) → OwnsK w' B E sz v xs → Stirred w w' (blk v).toList → ((blk v') = (blk v) ∨ ∃ k, (blk v') = some k ∧ w.heap.size ≤ k) → wpList P ops Q rest (a.put o.dst v') w') : wpList P ops Q (o :: rest) a w := by
  refine wpList_plain hgd fun K hK => ?_
  obtain ⟨v', w', hr, h2, h3, h4, h5⟩ := run_append_two (P := P) w B t o.type E sz i z bytes ht hi hz hsize hby hzs hsz v n xs hown hn ad m c news hl hnews h1 h0 h63 hbytes hbase
  unfold Oper.wp execOp
  simp only [ho, resolve, invoke, builtin, Sem.run_bind, Sem.run_pure, Result.andThen_ok, List.map_toArray, List.map_cons, List.map_nil, hs, hx, hr]
  exact hK _ _ (h v' w' h2 h3 h4 h5)
end
end Go.Proofs.YtpecingkoodmfaaGreatDoor.Book.Wide
