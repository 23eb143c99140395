/- Kept lists whose elements have several cells (structs): the turn of BookPlain; no program in sight. -/
import Derived.Test.YtlomfmilohbgpaaGreatDoorBookPlain
import Derived.Test.YtlomfmilohbgpaaGreatDoorRows
import Derived.Test.YtlomfmilohbgpaaGreatDoorBookTexts
import Derived.WalkKit
import Derived.WalkSpells
import Derived.WalkLawsBesides
import Derived.Lib.Hide
import Derived.Laws.StructEq
import Derived.Deep.LoopGhost
import Derived.BigQuiet
import Derived.Deep.QuietTactic
import Derived.Test.YtlomfmilohbgpaaGreatDoorK5
import Derived.Deep.DeepCutAuto
import Derived.Deep.RegionHeld3
import Derived.IntWalk
import Derived.Lib.MinMax
import Derived.Test.YtlomfmilohbgpaaGreatDoorCellWalks
import Derived.Test.YtlomfmilohbgpaaGreatDoorRefMoves
import Derived.Test.YtlomfmilohbgpaaGreatDoorK3
import Derived.Test.YtlomfmilohbgpaaGreatDoorK1
import Derived.Deep.CutBlock
namespace Go.Proofs.YtlomfmilohbgpaaGreatDoor.Book.Wide
open Go.RowKit
set_option linter.unusedVariables false
/-- a slice value whose elements, of sz cells each, have these cells: of no room, wherever it leads to, or in a row that is its own -/
def OwnsK (w : World) (B E sz : Nat) (v : Value) (xs : List Value) : Prop :=
  (∃ ao, v = .slice ao 0 0 ∧ xs = []) ∨
  ∃ g n cap cur, v = .slice (some ⟨g, 0, none⟩) n cap ∧ 0 < cap ∧ B ≤ g ∧ w.heap[g]? = some (.cells cur E (0, 0)) ∧ xs.length = n * sz ∧ n ≤ cap ∧ cap ≤ maxLen ∧ cur.size = cap * sz ∧ cur.toList.take (n * sz) = xs
theorem OwnsK.of_row {w : World} {B E sz n : Nat} {v : Value} {xs : List Value} (h : w.ownsRow B E sz v n xs) : OwnsK w B E sz v xs := by
  obtain ⟨hl, h⟩ := h
  rcases h with ⟨h1, h2⟩ | ⟨g, cap, cur, h1, h2, h3, h4, h5, h6, h7⟩
  · subst h2
    rw [Nat.zero_mul] at hl
    exact .inl ⟨none, h1, List.eq_nil_of_length_eq_zero hl⟩
  · by_cases h0 : cap = 0
    · have hn : n = 0 := by omega
      subst h0; subst hn
      rw [Nat.zero_mul] at hl
      exact .inl ⟨_, h1, List.eq_nil_of_length_eq_zero hl⟩
    · exact .inr ⟨g, n, cap, cur, h1, by omega, h2, h3, hl, h4, h5, h6, h7⟩
theorem OwnsK.row_of {w : World} {B E sz g n cap : Nat} {xs : List Value} (h : OwnsK w B E sz (.slice (some ⟨g, 0, none⟩) n cap) xs) (h0 : 0 < cap) : w.ownsRow B E sz (.slice (some ⟨g, 0, none⟩) n cap) n xs := by
  rcases h with ⟨ao, h1, h2⟩ | ⟨g', n', cap', cur, h1, h0', h2, h3, hl, h4, h5, h6, h7⟩
  · simp only [Value.slice.injEq] at h1; omega
  · simp only [Value.slice.injEq, Option.some.injEq, Addr.mk.injEq, and_true] at h1
    obtain ⟨rfl, rfl, rfl⟩ := h1
    exact ⟨hl, .inr ⟨g, cap, cur, rfl, h2, h3, h4, h5, h6, h7⟩⟩
theorem OwnsK.block {w : World} {B E sz : Nat} {v : Value} {xs : List Value} (h : OwnsK w B E sz v xs) : ∀ k, (blk v) = some k → B ≤ k ∧ k < w.heap.size ∧ ∃ cur, w.heap[k]? = some (.cells cur E (0, 0)) := by
  intro k hk
  rcases h with ⟨ao, rfl, _⟩ | ⟨g, n, cap, cur, rfl, h0, hb, hg, _⟩
  · rw [blk_zero] at hk; cases hk
  · rw [blk_pos h0] at hk
    simp at hk
    subst hk
    exact ⟨hb, (Array.getElem?_eq_some_iff.1 hg).1, cur, hg⟩
theorem OwnsK.same {w w' : World} {B E sz : Nat} {v : Value} {xs : List Value} (h : OwnsK w B E sz v xs) (hs : ∀ k, (blk v) = some k → w'.heap[k]? = w.heap[k]?) : OwnsK w' B E sz v xs := by
  rcases h with h2 | ⟨g, n, cap, cur, h1, h0, h2, h3, h4⟩
  · exact .inl h2
  · refine .inr ⟨g, n, cap, cur, h1, h0, h2, ?_, h4⟩
    rw [hs g (by rw [h1, blk_pos h0])]; exact h3
theorem OwnsK.touch {w w' : World} {B E sz : Nat} {v : Value} {xs : List Value} {bs : List Nat} (h : OwnsK w B E sz v xs) (ht : Stirred w w' bs) (hn : ∀ k, (blk v) = some k → k ∉ bs) : OwnsK w' B E sz v xs :=
  h.same fun k hk => ht.block k (h.block k hk).2.1 (hn k hk)
theorem OwnsK.below {w w' : World} {B E sz : Nat} {v : Value} {xs : List Value} (h : OwnsK w B E sz v xs) (hb : Below w.heap.size w w') : OwnsK w' B E sz v xs :=
  h.touch (Stirred.of_below hb []) (fun _ _ => List.not_mem_nil)
theorem OwnsK.from {w : World} {B B' E sz : Nat} {v : Value} {xs : List Value} (h : OwnsK w B E sz v xs) (hb : B' ≤ B) : OwnsK w B' E sz v xs := by
  rcases h with h2 | ⟨g, n, cap, cur, h1, h0, h2, h3⟩
  · exact .inl h2
  · exact .inr ⟨g, n, cap, cur, h1, h0, by omega, h3⟩
theorem OwnsK.empty (w : World) (B E sz : Nat) (ao : Option Addr) : OwnsK w B E sz (.slice ao 0 0) [] := .inl ⟨ao, rfl, rfl⟩
theorem OwnsK.nil (w : World) (B E sz : Nat) : OwnsK w B E sz (.slice none 0 0) [] := .inl ⟨none, rfl, rfl⟩
/-- two rows of other types are no one block -/
theorem _root_.Go.Proofs.YtlomfmilohbgpaaGreatDoor.Book.Owns.apartK {w : World} {B B' E E' sz : Nat} {v v' : Value} {xs xs' : List Value} (h : Owns w B E v xs) (h' : OwnsK w B' E' sz v' xs') (hE : E ≠ E') : ∀ k, (blk v) = some k → (blk v') ≠ some k := by
  intro k hk hk'
  obtain ⟨_, _, c, hc⟩ := h.block k hk
  obtain ⟨_, _, c', hc'⟩ := h'.block k hk'
  rw [hc] at hc'
  simp only [Option.some.injEq, Obj.cells.injEq] at hc'
  exact hE hc'.2.1
theorem OwnsK.form {w : World} {B E sz : Nat} {v : Value} {xs : List Value} (h : OwnsK w B E sz v xs) : (∃ ao, v = .slice ao 0 0 ∧ xs = []) ∨ ∃ g n cap, v = .slice (some ⟨g, 0, none⟩) n cap ∧ 0 < cap ∧ xs.length = n * sz := by
  rcases h with h1 | ⟨g, n, cap, cur, h1, h0, _, _, hl, _⟩
  · exact .inl h1
  · exact .inr ⟨g, n, cap, h1, h0, hl⟩
theorem OwnsK.slice {w : World} {B E sz : Nat} {v : Value} {xs : List Value} (h : OwnsK w B E sz v xs) {n : Nat} (hn : xs.length = n * sz) (hz : 0 < sz) : ∃ ao cap, v = .slice ao n cap := by
  rcases h.form with ⟨ao, h1, h2⟩ | ⟨g, n', cap, h1, _, hl⟩
  · subst h2
    have : n = 0 := by
      rcases Nat.eq_zero_or_pos n with h0 | h0
      · exact h0
      · have := Nat.mul_pos h0 hz; simp at hn; omega
    exact ⟨ao, 0, by rw [h1, this]⟩
  · have : n' = n := Nat.eq_of_mul_eq_mul_right hz (by omega)
    exact ⟨_, _, by rw [h1, this]⟩
theorem OwnsK.row {w : World} {B E sz : Nat} {v : Value} {xs : List Value} (h : OwnsK w B E sz v xs) {n : Nat} (hn : xs.length = n * sz) (hz : 0 < sz) (h0 : 0 < n) : ∃ g cap, v = .slice (some ⟨g, 0, none⟩) n cap ∧ (∀ j x, xs[j]? = some x → w.cell? ⟨g, j, none⟩ = some x) ∧ (∀ j, w.frozen? ⟨g, j, none⟩ = false) ∧ n ≤ cap := by
  rcases h with ⟨ao, h1, h2⟩ | ⟨g, n', cap, cur, h1, h0', h2, h3, hl, h4, h5, h6, h7⟩
  · subst h2
    have := Nat.mul_pos h0 hz
    simp at hn; omega
  · have e : n' = n := Nat.eq_of_mul_eq_mul_right hz (by omega)
    subst e
    refine ⟨g, cap, h1, fun j x hx => ?_, fun j => by simp [World.frozen?, h3], h4⟩
    have hj : j < xs.length := (List.getElem?_eq_some_iff.1 hx).1
    rw [← h7, List.getElem?_take, if_pos (by omega)] at hx
    simp [World.cell?, h3]
    simpa using hx
theorem OwnsK.capAt {w : World} {B E sz g n cap : Nat} {xs : List Value} (h : OwnsK w B E sz (.slice (some ⟨g, 0, none⟩) n cap) xs) (h0 : 0 < xs.length) : blk (.slice (some ⟨g, 0, none⟩) n cap) = some g := by
  rcases h with ⟨ao, h1, h2⟩ | ⟨g', n', cap', cur, h1, h0', _⟩
  · rw [h2] at h0; exact absurd h0 (Nat.lt_irrefl 0)
  · simp only [Value.slice.injEq, Option.some.injEq, Addr.mk.injEq, and_true] at h1
    exact blk_pos (by omega)
/-- a store into a row of one's own -/
theorem OwnsK.stored {w : World} {B E sz g n cap : Nat} {xs : List Value} (h : OwnsK w B E sz (.slice (some ⟨g, 0, none⟩) n cap) xs) (j : Nat) (u : Value) : OwnsK (w.setCell ⟨g, j, none⟩ u) B E sz (.slice (some ⟨g, 0, none⟩) n cap) (xs.set j u) := by
  rcases h with ⟨ao, h1, h2⟩ | ⟨g', n', cap', cur, h1, h0, h2, h3, hl, h4, h5, h6, h7⟩
  · subst h2
    exact .inl ⟨ao, h1, rfl⟩
  · simp only [Value.slice.injEq, Option.some.injEq, Addr.mk.injEq, and_true] at h1
    obtain ⟨rfl, rfl, rfl⟩ := h1
    refine .inr ⟨g, n, cap, cur.setIfInBounds j u, rfl, h0, h2, ?_, by simpa using hl, h4, h5, by simpa using h6, ?_⟩
    · simp [World.setCell, Array.getElem?_modify, h3]
    · rw [Array.toList_setIfInBounds, List.take_set, h7]
/-- what a row holds it still holds behind a longer row's change of their block's other cells -/
theorem OwnsK.pre {w w' : World} {B E sz : Nat} {l v : Value} {zs xs : List Value} (hl : OwnsK w B E sz l zs) (hv : OwnsK w B E sz v xs) (hb : (blk l) = (blk v)) (hz : zs.take xs.length = xs) (hl' : OwnsK w' B E sz l zs) : OwnsK w' B E sz v xs := by
  rcases hv with h2 | ⟨g, n, cap, cur, e, q0, q2, q3, ql, q4, q5, q6, q7⟩
  · exact .inl h2
  · subst e
    have hle : xs.length ≤ zs.length := by have := congrArg List.length hz; rw [List.length_take] at this; omega
    rw [blk_pos q0] at hb
    rcases hl with ⟨ao, e, _⟩ | ⟨g', n', cap', cur', e, r0, r2, r3, rl, r4, r5, r6, r7⟩
    · rw [e, blk_zero] at hb; cases hb
    · subst e
      rw [blk_pos r0] at hb
      have hg : g' = g := by simpa using hb
      subst hg
      rw [q3] at r3
      simp only [Option.some.injEq, Obj.cells.injEq, and_true] at r3
      subst r3
      rcases hl' with ⟨ao, e, _⟩ | ⟨g2, n2, cap2, cur2, e, s0, s2, s3, sl, s4, s5, s6, s7⟩
      · simp only [Value.slice.injEq] at e; omega
      · simp only [Value.slice.injEq, Option.some.injEq, Addr.mk.injEq, and_true] at e
        obtain ⟨rfl, rfl, rfl⟩ := e
        refine .inr ⟨g', n, cap, cur2, rfl, q0, q2, s3, ql, q4, q5, by omega, ?_⟩
        have h8 := congrArg (List.take xs.length) s7
        rw [List.take_take, hz, show min xs.length (n' * sz) = n * sz from by omega] at h8
        exact h8
/-- a list of lists: its own row, and each list's own row, no two of which are one -/
structure Lists (w : World) (B SL E sz : Nat) (vS : Value) (ls : List (Value × List Value)) : Prop where
  spine : Owns w B SL vS (ls.map (·.1))
  list : ∀ k ∈ ls, OwnsK w B E sz k.1 k.2
  apart : (blocks ls).Nodup
theorem Lists.nil (w : World) (B SL E sz : Nat) : Lists w B SL E sz (.slice none 0 0) [] := ⟨Owns.nil _ _ _, fun _ h => (by cases h), List.nodup_nil⟩
theorem Lists.touch {w w' : World} {B SL E sz : Nat} {vS : Value} {ls : List (Value × List Value)} {bs : List Nat} (h : Lists w B SL E sz vS ls) (ht : Stirred w w' bs) (hs : ∀ k, (blk vS) = some k → k ∉ bs) (hl : ∀ k ∈ blocks ls, k ∉ bs) : Lists w' B SL E sz vS ls :=
  ⟨h.spine.touch ht hs, fun k hk => (h.list k hk).touch ht (fun b hb => hl b (mem_blocks hk hb)), h.apart⟩
theorem Lists.below {w w' : World} {B SL E sz : Nat} {vS : Value} {ls : List (Value × List Value)} (h : Lists w B SL E sz vS ls) (hb : Below w.heap.size w w') : Lists w' B SL E sz vS ls :=
  h.touch (Stirred.of_below hb []) (fun _ _ => List.not_mem_nil) (fun _ _ => List.not_mem_nil)
theorem Lists.lt {w : World} {B SL E sz : Nat} {vS : Value} {ls : List (Value × List Value)} (h : Lists w B SL E sz vS ls) : ∀ k ∈ blocks ls, B ≤ k ∧ k < w.heap.size := by
  intro b hb
  unfold blocks at hb
  rw [List.mem_flatMap] at hb
  obtain ⟨k, hk, hb⟩ := hb
  have hb' : (blk k.1) = some b := by simpa using hb
  exact ⟨((h.list k hk).block b hb').1, ((h.list k hk).block b hb').2.1⟩
/-- the spine's block is none of the lists' -/
theorem Lists.spine_apart {w : World} {B SL E sz : Nat} {vS : Value} {ls : List (Value × List Value)} (h : Lists w B SL E sz vS ls) (hE : SL ≠ E) : ∀ k, (blk vS) = some k → k ∉ blocks ls := by
  intro b hb hm
  unfold blocks at hm
  rw [List.mem_flatMap] at hm
  obtain ⟨k, hk, hm⟩ := hm
  have hb' : (blk k.1) = some b := by simpa using hm
  exact h.spine.apartK (h.list k hk) hE b hb hb'
/-- one list has other elements now -/
theorem Lists.set {w w' : World} {B SL E sz : Nat} {vS : Value} {ls : List (Value × List Value)} {i : Nat} {v : Value} {xs xs' : List Value} (h : Lists w B SL E sz vS ls) (hE : SL ≠ E) (hi : ls[i]? = some (v, xs)) (ht : Stirred w w' (blk v).toList) (h' : OwnsK w' B E sz v xs') :
    Lists w' B SL E sz vS (ls.set i (v, xs')) := by
  have hm := List.mem_of_getElem? hi
  refine ⟨?_, fun k hk => ?_, by rw [blocks_set hi]; exact h.apart⟩
  · rw [map_set hi]
    refine h.spine.touch ht (fun b hb hb' => ?_)
    exact h.spine_apart hE b hb (mem_blocks hm (by simpa using hb'))
  · obtain ⟨j, hj⟩ := List.getElem?_of_mem hk
    by_cases hij : i = j
    · subst hij
      rw [List.getElem?_set_self' ] at hj
      rw [hi] at hj
      simp at hj
      subst hj
      exact h'
    · rw [List.getElem?_set_ne hij] at hj
      refine (h.list k (List.mem_of_getElem? hj)).touch ht (fun b hb hb' => ?_)
      exact nodup_at h.apart hj hi (fun e => hij e.symm) b hb (by simpa using hb')
/-- what a book keeps of one kind: the lists, and copies of what they held; none of it lies in the blocks bs -/
structure Kept (w : World) (B SL E sz : Nat) (good : List Value → Prop) (vS vW : Value) (ls : List (Value × List Value)) (bs : List Nat) : Prop where
  lists : Lists w B SL E sz vS ls
  was : ∃ cs : List (Value × List Value), cs.map (·.2) = ls.map (·.2) ∧ Owns w B SL vW (cs.map (·.1)) ∧ (∀ k ∈ cs, OwnsK w B E sz k.1 k.2) ∧ ∀ k ∈ bs, k ∉ blocks cs
  spines : ∀ k, (blk vS) = some k → (blk vW) ≠ some k
  fine : ∀ k ∈ ls, good k.2
  few : ls.length ≤ 250
  first : ls = [] → vW = .slice none 0 0
  off : ∀ k ∈ bs, blk vS ≠ some k ∧ blk vW ≠ some k ∧ k ∉ blocks ls
theorem Kept.nil (w : World) (B SL E sz : Nat) (good : List Value → Prop) (bs : List Nat) : Kept w B SL E sz good (.slice none 0 0) (.slice none 0 0) [] bs :=
  ⟨Lists.nil _ _ _ _ _, ⟨[], rfl, Owns.nil _ _ _, (fun _ h => (by cases h)), fun _ _ h => (by cases h)⟩, fun k h => (by cases h), fun _ h => (by cases h), Nat.zero_le _, fun _ => rfl, fun k _ => ⟨fun h => (by cases h), fun h => (by cases h), fun h => (by cases h)⟩⟩
/-- what is done in these blocks alone, and in new ones, leaves a book's lists as they were -/
theorem Kept.touch {w w' : World} {B SL E sz : Nat} {good : List Value → Prop} {vS vW : Value} {ls : List (Value × List Value)} {bs ds : List Nat} (h : Kept w B SL E sz good vS vW ls bs) (ht : Stirred w w' ds) (hd : ∀ k ∈ ds, k ∈ bs) : Kept w' B SL E sz good vS vW ls bs := by
  obtain ⟨cs, h1, h2, h3, h4⟩ := h.was
  refine ⟨h.lists.touch ht (fun k hk hm => (h.off k (hd k hm)).1 hk) (fun k hk hm => (h.off k (hd k hm)).2.2 hk), ⟨cs, h1, h2.touch ht (fun k hk hm => (h.off k (hd k hm)).2.1 hk), fun k hk => (h3 k hk).touch ht (fun b hb hm => ?_), h4⟩, h.spines, h.fine, h.few, h.first, h.off⟩
  exact h4 b (hd b hm) (mem_blocks hk hb)
theorem Kept.below {w w' : World} {B SL E sz : Nat} {good : List Value → Prop} {vS vW : Value} {ls : List (Value × List Value)} {bs : List Nat} (h : Kept w B SL E sz good vS vW ls bs) (hb : Below w.heap.size w w') : Kept w' B SL E sz good vS vW ls bs :=
  h.touch (Stirred.of_below hb []) (fun _ h => by cases h)
/-- other blocks: those, or such as are not yet there -/
theorem Kept.more {w : World} {B SL E sz : Nat} {good : List Value → Prop} {vS vW : Value} {ls : List (Value × List Value)} {bs ds : List Nat} (h : Kept w B SL E sz good vS vW ls bs) (hd : ∀ k ∈ ds, k ∈ bs ∨ w.heap.size ≤ k ∨ k < B) : Kept w B SL E sz good vS vW ls ds := by
  obtain ⟨cs, h1, h2, h3, h4⟩ := h.was
  refine ⟨h.lists, ⟨cs, h1, h2, h3, fun k hk hm => ?_⟩, h.spines, h.fine, h.few, h.first, fun k hk => ?_⟩
  · rcases hd k hk with h5 | h5
    · exact h4 k h5 hm
    · unfold blocks at hm
      rw [List.mem_flatMap] at hm
      obtain ⟨c, hc, hm⟩ := hm
      have h6 := (h3 c hc).block k (by simpa using hm)
      omega
  · rcases hd k hk with h5 | h5
    · exact h.off k h5
    · refine ⟨fun e => ?_, fun e => ?_, fun e => ?_⟩
      · have h6 := h.lists.spine.block k e; omega
      · have h6 := h2.block k e; omega
      · have h6 := h.lists.lt k e; omega
/-- the j-th list, its copy, and what both hold -/
theorem Kept.at {w : World} {B SL E sz : Nat} {good : List Value → Prop} {vS vW : Value} {ls : List (Value × List Value)} {bs : List Nat} (h : Kept w B SL E sz good vS vW ls bs) {j : Nat} (hj : j < ls.length) :
    ∃ gS cS gW cW a b xs, vS = .slice (some ⟨gS, 0, none⟩) ls.length cS ∧ vW = .slice (some ⟨gW, 0, none⟩) ls.length cW ∧ w.cell? ⟨gS, j, none⟩ = some a ∧ w.cell? ⟨gW, j, none⟩ = some b ∧ OwnsK w B E sz a xs ∧ OwnsK w B E sz b xs ∧ good xs := by
  obtain ⟨cs, h1, h2, h3, _⟩ := h.was
  have hl : cs.length = ls.length := by have := congrArg List.length h1; simpa using this
  obtain ⟨gS, cS, e1, c1, _, _⟩ := h.lists.spine.row (by simp; omega)
  obtain ⟨gW, cW, e2, c2, _, _⟩ := h2.row (by simp; omega)
  have k1 : ls[j]? = some ls[j] := List.getElem?_eq_getElem hj
  have k2 : cs[j]? = some (cs[j]'(by omega)) := List.getElem?_eq_getElem _
  have hx : (cs[j]'(by omega)).2 = ls[j].2 := by
    have h4 := congrArg (·[j]?) h1
    simp only [List.getElem?_map, k1, k2, Option.map_some, Option.some.injEq] at h4
    exact h4
  refine ⟨gS, cS, gW, cW, ls[j].1, (cs[j]'(by omega)).1, ls[j].2, by rw [e1]; simp, by rw [e2]; simp [hl], c1 j _ (by simp [k1]), c2 j _ (by simp [k2]), h.lists.list _ (List.getElem_mem hj), ?_, h.fine _ (List.getElem_mem hj)⟩
  have := h3 _ (List.getElem_mem (show j < cs.length by omega))
  rw [hx] at this
  exact this
/-- l is v, grown since w1 -/
structure Grows (w1 : World) (B E sz : Nat) (v : Value) (xs : List Value) (wx : World) (l : Value) (zs : List Value) : Prop where
  long : OwnsK wx B E sz l zs
  short : OwnsK wx B E sz v xs
  pre : zs.take xs.length = xs
  stir : Stirred w1 wx (blk v).toList
  own : (blk l) = (blk v) ∨ ∃ k, (blk l) = some k ∧ w1.heap.size ≤ k
  lt : ∀ k, (blk v) = some k → k < w1.heap.size
theorem Grows.start {w1 : World} {B E sz : Nat} {v : Value} {xs : List Value} (h : OwnsK w1 B E sz v xs) : Grows w1 B E sz v xs w1 v xs :=
  ⟨h, h, by simp, Stirred.refl _ _, .inl rfl, fun k hk => (h.block k hk).2.1⟩
theorem Grows.below {w1 wx wy : World} {B E sz : Nat} {v l : Value} {xs zs : List Value} (h : Grows w1 B E sz v xs wx l zs) (hb : Below wx.heap.size wx wy) : Grows w1 B E sz v xs wy l zs :=
  ⟨h.long.below hb, h.short.below hb, h.pre, h.stir.trans (Stirred.of_below hb []) (fun _ h => by cases h), h.own, h.lt⟩
theorem Grows.append {w1 wx w' : World} {B E sz : Nat} {v l l' : Value} {xs zs news : List Value} (h : Grows w1 B E sz v xs wx l zs) (h2 : OwnsK w' B E sz l' (zs ++ news)) (h3 : OwnsK w' B E sz l zs)
    (h4 : Stirred wx w' (blk l).toList) (h5 : (blk l') = (blk l) ∨ ∃ k, (blk l') = some k ∧ wx.heap.size ≤ k) : Grows w1 B E sz v xs w' l' (zs ++ news) := by
  have hle : xs.length ≤ zs.length := by have := congrArg List.length h.pre; rw [List.length_take] at this; omega
  refine ⟨h2, ?_, ?_, ?_, ?_, h.lt⟩
  · rcases h.own with e | ⟨k, e, hk⟩
    · exact h.long.pre h.short e h.pre h3
    · refine h.short.touch h4 (fun b hb hm => ?_)
      rw [e] at hm
      have := h.lt b hb
      simp at hm
      omega
  · rw [List.take_append_of_le_length hle, h.pre]
  · refine h.stir.trans h4 (fun k hk => ?_)
    rcases h.own with e | ⟨k', e, hk'⟩
    · rw [e] at hk; exact .inl hk
    · rw [e] at hk; simp at hk; exact .inr (by omega)
  · rcases h5 with e | ⟨k, e, hk⟩
    · rw [e]; exact h.own
    · exact .inr ⟨k, e, Nat.le_trans h.stir.size hk⟩
/-- the first j lists, grown since w, are a list of lists of their own -/
structure Gs (w : World) (B SL E sz : Nat) (mk : Nat → Nat → List Value) (most : Nat) (vS : Value) (cur : List (Value × List Value)) (j : Nat) (vO : Value) (gs : List (Value × List Value)) (wr : World) : Prop where
  len : gs.length = j
  out : Owns wr w.heap.size SL vO (gs.map (·.1))
  list : ∀ k ∈ gs, OwnsK wr B E sz k.1 k.2
  mark : ∀ i k, gs[i]? = some k → k.2 = mk i k.2.length ∧ k.2.length ≤ most
  old : Lists wr B SL E sz vS cur
  apart : (blocks gs).Nodup
  low : ∀ b ∈ blocks gs, b ∈ blocks (cur.take j) ∨ w.heap.size ≤ b
  stir : Stirred w wr (blocks cur)
  here : ∀ b ∈ blocks cur, b < w.heap.size
  hereS : ∀ k, (blk vS) = some k → k < w.heap.size
theorem Gs.zero {w : World} {B SL E sz : Nat} {mk : Nat → Nat → List Value} {most : Nat} {vS : Value} {cur : List (Value × List Value)} (h : Lists w B SL E sz vS cur) : Gs w B SL E sz mk most vS cur 0 (.slice none 0 0) [] w :=
  ⟨rfl, Owns.nil _ _ _, fun _ h => (by cases h), fun _ _ h => (by cases h), h, List.nodup_nil, fun _ h => (by cases h), Stirred.refl _ _, fun b hb => (h.lt b hb).2, fun k hk => (h.spine.block k hk).2.1⟩
theorem Gs.out_at {w : World} {B SL E sz : Nat} {mk : Nat → Nat → List Value} {most : Nat} {vS : Value} {cur : List (Value × List Value)} {j : Nat} {vO : Value} {gs : List (Value × List Value)} {wr wx : World}
    (h : Gs w B SL E sz mk most vS cur j vO gs wr) {v l : Value} {xs zs : List Value} (hk : cur[j]? = some (v, xs)) (g : Grows wr B E sz v xs wx l zs) : Owns wx w.heap.size SL vO (gs.map (·.1)) :=
  h.out.touch g.stir (fun k hk' hm => (by
    have h1 := (h.out.block k hk').1
    have h2 := h.here k (mem_blocks (List.mem_of_getElem? hk) (by simpa using hm))
    omega))
theorem Gs.step {w : World} {B SL E sz : Nat} {mk : Nat → Nat → List Value} {most : Nat} {vS : Value} {cur : List (Value × List Value)} {j : Nat} {vO vO' : Value} {gs : List (Value × List Value)} {wr wx w' : World}
    (h : Gs w B SL E sz mk most vS cur j vO gs wr) (hE : SL ≠ E) {v l : Value} {xs zs : List Value} (hk : cur[j]? = some (v, xs)) (g : Grows wr B E sz v xs wx l zs) (hm : zs = mk j zs.length) (hz : zs.length ≤ most)
    (ho : Owns w' w.heap.size SL vO' (gs.map (·.1) ++ [l])) (hs : Stirred wx w' (blk vO).toList) : Gs w B SL E sz mk most vS cur (j + 1) vO' (gs ++ [(l, zs)]) w' := by
  have hmem := List.mem_of_getElem? hk
  have hvlow : ∀ b, (blk v) = some b → b < w.heap.size := fun b hb => h.here b (mem_blocks hmem hb)
  have hgs : ∀ b, (blk v) = some b → b ∉ blocks gs := fun b hb hmb => by
    rcases h.low b hmb with h1 | h1
    · exact take_apart hk h.old.apart b hb h1
    · have := hvlow b hb; omega
  have hlt : ∀ b ∈ blocks gs, b < wr.heap.size := fun b hb => by
    unfold blocks at hb
    rw [List.mem_flatMap] at hb
    obtain ⟨k, hk, hb⟩ := hb
    exact ((h.list k hk).block b (by simpa using hb)).2.1
  have hlv : ∀ b, (blk l) = some b → (blk v) = some b ∨ wr.heap.size ≤ b := fun b hb => by
    rcases g.own with e | ⟨k, e, hk⟩
    · exact .inl (by rw [← e]; exact hb)
    · rw [e] at hb; simp at hb; exact .inr (by omega)
  have hox : Owns wx w.heap.size SL vO (gs.map (·.1)) := h.out.touch g.stir (fun k hk hm => (by
    have h1 := (h.out.block k hk).1
    have h2 := hvlow k (by simpa using hm)
    omega))
  have hwx := g.stir
  have hsE : ∀ {u : Value} {us : List Value}, OwnsK wx B E sz u us → OwnsK w' B E sz u us := fun {u us} hu => hu.touch hs (fun k hk hm => (hox.apartK hu hE) k (by simpa using hm) hk)
  refine ⟨by simp [h.len], by simpa using ho, fun k hk => ?_, fun i k hi => ?_, ⟨?_, fun k hkm => ?_, h.old.apart⟩, ?_, fun b hb => ?_, ?_, h.here, h.hereS⟩
  · rw [List.mem_append, List.mem_singleton] at hk
    rcases hk with hk | rfl
    · exact hsE ((h.list k hk).touch hwx (fun b hb hm => hgs b (by simpa using hm) (mem_blocks hk hb)))
    · exact hsE g.long
  · by_cases hij : i < gs.length
    · rw [List.getElem?_append_left hij] at hi; exact h.mark i k hi
    · rw [List.getElem?_append_right (by omega)] at hi
      have hi0 : i - gs.length = 0 := by
        have := (List.getElem?_eq_some_iff.1 hi).1
        simp at this
        omega
      rw [hi0] at hi
      simp at hi
      subst hi
      have : i = j := by rw [← h.len]; omega
      subst this
      exact ⟨hm, hz⟩
  · refine (h.old.spine.touch hwx (fun b hb hm => h.old.spine_apart hE b hb (mem_blocks hmem (by simpa using hm)))).touch hs (fun b hb hm => ?_)
    have h1 := h.hereS b hb
    have h2 := (h.out.block b (by simpa using hm)).1
    omega
  · obtain ⟨i, hi⟩ := List.getElem?_of_mem hkm
    by_cases hij : j = i
    · subst hij
      rw [hk] at hi
      simp at hi
      subst hi
      exact hsE g.short
    · exact hsE ((h.old.list k hkm).touch hwx (fun b hb hm => nodup_at h.old.apart hk hi hij b (by simpa using hm) hb))
  · rw [blocks_append, List.nodup_append]
    refine ⟨h.apart, ?_, fun b hb b' hb' e => ?_⟩
    · show ((blk l).toList ++ []).Nodup
      cases (blk l) <;> simp
    · subst e
      have hb' : (blk l) = some b := by simpa [blocks] using hb'
      rcases hlv b hb' with h1 | h1
      · exact hgs b h1 hb
      · have := hlt b hb; omega
  · rw [blocks_append, List.mem_append] at hb
    rw [blocks_take hk, List.mem_append]
    rcases hb with hb | hb
    · rcases h.low b hb with h1 | h1
      · exact .inl (.inl h1)
      · exact .inr h1
    · have hb' : (blk l) = some b := by simpa [blocks] using hb
      rcases hlv b hb' with h1 | h1
      · exact .inl (.inr (by simpa using h1))
      · exact .inr (Nat.le_trans h.stir.size h1)
  · refine (h.stir.trans hwx (fun k hk => .inl (mem_blocks hmem (by simpa using hk)))).trans hs (fun k hk => .inr ?_)
    exact (h.out.block k (by simpa using hk)).1
theorem Gs.below {w : World} {B SL E sz : Nat} {mk : Nat → Nat → List Value} {most : Nat} {vS : Value} {cur : List (Value × List Value)} {j : Nat} {vO : Value} {gs : List (Value × List Value)} {wr w' : World}
    (h : Gs w B SL E sz mk most vS cur j vO gs wr) (hb : Below wr.heap.size wr w') : Gs w B SL E sz mk most vS cur j vO gs w' :=
  ⟨h.len, h.out.below hb, fun k hk => (h.list k hk).below hb, h.mark, h.old.below hb, h.apart, h.low, h.stir.trans (Stirred.of_below hb []) (fun _ h => by cases h), h.here, h.hereS⟩
/-- one list more -/
theorem Lists.add {w w' : World} {B SL E sz : Nat} {vS vS' v : Value} {ls : List (Value × List Value)} {xs : List Value} (h : Lists w B SL E sz vS ls) (hE : SL ≠ E) {p : Nat} (hp : p < B) (ho : OwnsK w B E sz v xs) (hn : ∀ k, (blk v) = some k → k ∉ blocks ls)
    (hS : Owns w' B SL vS' (ls.map (·.1) ++ [v])) (ht : Stirred w w' (p :: (blk vS).toList)) : Lists w' B SL E sz vS' (ls ++ [(v, xs)]) := by
  have hst : ∀ {u : Value} {us : List Value}, OwnsK w B E sz u us → OwnsK w' B E sz u us := fun {u us} hu => hu.touch ht (fun k hk hm => by
    rw [List.mem_cons] at hm
    rcases hm with rfl | hm
    · have := (hu.block k hk).1; omega
    · exact h.spine.apartK hu hE k (by simpa using hm) hk)
  refine ⟨by simpa using hS, fun k hk => ?_, ?_⟩
  · rw [List.mem_append, List.mem_singleton] at hk
    rcases hk with hk | rfl
    · exact hst (h.list k hk)
    · exact hst ho
  · rw [blocks_append, List.nodup_append]
    refine ⟨h.apart, ?_, fun b hb b' hb' e => ?_⟩
    · show ((blk v).toList ++ []).Nodup
      cases (blk v) <;> simp
    · subst e
      exact hn b (by simpa [blocks] using hb') hb
/-- a book in which one list more is kept, and its copy is not yet -/
structure Half (w : World) (B SL E sz : Nat) (good : List Value → Prop) (vS vW : Value) (ls : List (Value × List Value)) (v : Value) (xs : List Value) (cs : List (Value × List Value)) (bs : List Nat) : Prop where
  lists : Lists w B SL E sz vS (ls ++ [(v, xs)])
  eq : cs.map (·.2) = ls.map (·.2)
  was : Owns w B SL vW (cs.map (·.1))
  each : ∀ k ∈ cs, OwnsK w B E sz k.1 k.2
  spines : ∀ k, (blk vS) = some k → (blk vW) ≠ some k
  fine : ∀ k ∈ ls, good k.2
  good : good xs
  few : ls.length < 250
  first : ls = [] → vW = .slice none 0 0
  off : ∀ k ∈ bs, blk vS ≠ some k ∧ blk vW ≠ some k ∧ k ∉ blocks (ls ++ [(v, xs)]) ∧ k ∉ blocks cs
theorem Half.wasRow {w : World} {B SL E sz : Nat} {good : List Value → Prop} {vS vW v : Value} {ls cs : List (Value × List Value)} {xs : List Value} {bs : List Nat} (h : Half w B SL E sz good vS vW ls v xs cs bs) : cs.map (·.1) = [] → vW = .slice none 0 0 := fun e => by
  refine h.first (List.map_eq_nil_iff (f := (·.2)).1 ?_)
  rw [← h.eq, List.map_eq_nil_iff.1 e]; rfl
theorem Kept.half {w w' : World} {B SL E sz : Nat} {good : List Value → Prop} {vS vS' vW v : Value} {ls : List (Value × List Value)} {xs : List Value} {bs : List Nat} (h : Kept w B SL E sz good vS vW ls bs) (hbs : ∀ k ∈ bs, k < w.heap.size) (hE : SL ≠ E) {p : Nat} (hp : p < B) (hlt : ls.length < 250)
    (ho : OwnsK w B E sz v xs) (hg : good xs) (hn : ∀ k, (blk v) = some k → k ∉ blocks ls) (hv : ∀ k, blk v = some k → k ∉ bs) (hS : Owns w' B SL vS' (ls.map (·.1) ++ [v])) (ht : Stirred w w' (p :: (blk vS).toList))
    (hnew : (blk vS') = (blk vS) ∨ ∃ k, (blk vS') = some k ∧ w.heap.size ≤ k) : ∃ cs, Half w' B SL E sz good vS' vW ls v xs cs bs := by
  obtain ⟨cs, h1, h2, h3, h4⟩ := h.was
  refine ⟨cs, h.lists.add hE hp ho hn hS ht, h1, h2.touch ht (fun k hk hm => ?_), fun k hk => (h3 k hk).touch ht (fun b hb hm => ?_), fun k hk e => ?_, h.fine, hg, hlt, h.first, fun k hk => ⟨fun e => ?_, (h.off k hk).2.1, fun hm => ?_, h4 k hk⟩⟩
  · rw [List.mem_cons] at hm
    rcases hm with rfl | hm
    · have := (h2.block k hk).1; omega
    · exact h.spines k (by simpa using hm) hk
  · rw [List.mem_cons] at hm
    rcases hm with rfl | hm
    · have := ((h3 k hk).block b hb).1; omega
    · exact h.lists.spine.apartK (h3 k hk) hE b (by simpa using hm) hb
  · rcases hnew with e' | ⟨k', e', hk'⟩
    · rw [e'] at hk; exact h.spines k hk e
    · rw [e'] at hk
      simp at hk
      have := (h2.block k e).2.1
      omega
  · rcases hnew with e' | ⟨k', e', hk'⟩
    · exact (h.off k hk).1 (by rw [← e', e])
    · rw [e] at e'
      have := hbs k hk
      simp at e'
      omega
  · rw [blocks_append, List.mem_append] at hm
    rcases hm with hm | hm
    · exact (h.off k hk).2.2 hm
    · exact hv k (by simpa [blocks] using hm) hk
theorem Half.full {w w' : World} {B SL E sz : Nat} {good : List Value → Prop} {vS vW vW' v c : Value} {ls cs : List (Value × List Value)} {xs : List Value} {bs : List Nat} (h : Half w B SL E sz good vS vW ls v xs cs bs) (hE : SL ≠ E) {p : Nat} (hp : p < B)
    (hW : Owns w' B SL vW' (cs.map (·.1) ++ [c])) (hc : OwnsK w' B E sz c xs) (ht : Stirred w w' (p :: (blk vW).toList)) (hnew : (blk vW') = (blk vW) ∨ ∃ k, (blk vW') = some k ∧ w.heap.size ≤ k) (hbs : ∀ k ∈ bs, k < w.heap.size) (hcn : ∀ k, blk c = some k → w.heap.size ≤ k) : Kept w' B SL E sz good vS vW' (ls ++ [(v, xs)]) bs := by
  have hst : ∀ {u : Value} {us : List Value}, OwnsK w B E sz u us → OwnsK w' B E sz u us := fun {u us} hu => hu.touch ht (fun k hk hm => by
    rw [List.mem_cons] at hm
    rcases hm with rfl | hm
    · have := (hu.block k hk).1; omega
    · exact h.was.apartK hu hE k (by simpa using hm) hk)
  refine ⟨⟨h.lists.spine.touch ht (fun k hk hm => ?_), fun k hk => hst (h.lists.list k hk), h.lists.apart⟩, ⟨cs ++ [(c, xs)], by simp [h.eq], by simpa using hW, fun k hk => ?_, fun k hk hm => ?_⟩, fun k hk e => ?_, fun k hk => ?_, by have := h.few; simp; omega, fun e => by simp at e, fun k hk => ⟨(h.off k hk).1, fun e => ?_, (h.off k hk).2.2.1⟩⟩
  · rw [List.mem_cons] at hm
    rcases hm with rfl | hm
    · have := (h.lists.spine.block k hk).1; omega
    · exact h.spines k hk (by simpa using hm)
  · rw [List.mem_append, List.mem_singleton] at hk
    rcases hk with hk | rfl
    · exact hst (h.each k hk)
    · exact hc
  · rw [blocks_append, List.mem_append] at hm
    rcases hm with hm | hm
    · exact (h.off k hk).2.2.2 hm
    · have h1 := hcn k (by simpa [blocks] using hm)
      have h2 := hbs k hk
      omega
  · rcases hnew with e' | ⟨k', e', hk'⟩
    · rw [e'] at e; exact h.spines k hk e
    · rw [e'] at e
      simp at e
      have := (h.lists.spine.block k hk).2.1
      omega
  · rw [List.mem_append, List.mem_singleton] at hk
    rcases hk with hk | rfl
    · exact h.fine k hk
    · exact h.good
  · rcases hnew with e' | ⟨k', e', hk'⟩
    · exact (h.off k hk).2.1 (by rw [← e', e])
    · rw [e] at e'
      have := hbs k hk
      simp at e'
      omega
theorem Half.grown {w w3 w4 : World} {B SL E sz : Nat} {good : List Value → Prop} {vS vW v : Value} {ls cs : List (Value × List Value)} {xs : List Value} {bs : List Nat} (h : Half w B SL E sz good vS vW ls v xs cs bs) {p T : Nat} {cur : Array Value} {o : Obj} (hp : p < B)
    (hbk : w.heap[p]? = some (.cells cur T (0, 0))) (hb : Below w.heap.size w w3) (hgrow : (w3.alloc o).grownBy w4 (blk vW)) : Stirred w w4 (blk vW).toList ∧ w4.heap[p]? = some (.cells cur T (0, 0)) := by
  have h1 : Stirred w w4 (blk vW).toList := (((Stirred.of_below hb []).trans (Stirred.of_below ((Below.refl w3.heap.size w3).alloc (Nat.le_refl _) o) []) (fun _ h => (by cases h))).more (fun _ h => (by cases h))).trans (Stirred.of_grown hgrow) (fun k hk => .inl hk)
  exact ⟨h1, h1.whole hbk (fun hm => by have := (h.was.block p (by simpa using hm)).1; omega)⟩
theorem Half.close {w w3 w4 : World} {B SL E sz : Nat} {good : List Value → Prop} {vS vW vW' v c : Value} {ls cs : List (Value × List Value)} {xs : List Value} {bs : List Nat} (h : Half w B SL E sz good vS vW ls v xs cs bs) (hE : SL ≠ E) {p T j : Nat} {cur : Array Value} {o : Obj} (hp : p < B) (hB : B ≤ w.heap.size)
    (hbk : w.heap[p]? = some (.cells cur T (0, 0))) (hb : Below w.heap.size w w3) (hc : OwnsK w3 w.heap.size E sz c xs) (hW : Owns w4 B SL vW' (cs.map (·.1) ++ [c])) (hgrow : (w3.alloc o).grownBy w4 (blk vW))
    (hnew : (blk vW') = (blk vW) ∨ ∃ k, (blk vW') = some k ∧ w.heap.size ≤ k) (hbs : ∀ k ∈ bs, k < w.heap.size) :
    Kept (w4.setCell ⟨p, j, none⟩ vW') B SL E sz good vS vW' (ls ++ [(v, xs)]) bs ∧ (w4.setCell ⟨p, j, none⟩ vW').heap[p]? = some (.cells (cur.setIfInBounds j vW') T (0, 0)) ∧ Stirred w (w4.setCell ⟨p, j, none⟩ vW') (p :: (blk vW).toList) := by
  obtain ⟨h1, h2⟩ := h.grown hp hbk hb hgrow
  have hs : Stirred w (w4.setCell ⟨p, j, none⟩ vW') (p :: (blk vW).toList) := (h1.more (fun k hk => List.mem_cons_of_mem _ hk)).trans (Stirred.setCell w4 ⟨p, j, none⟩ vW') (fun k hk => .inl (by simp at hk; simp [hk]))
  have hset : ∀ {B' E' : Nat} {u : Value} {us : List Value}, B ≤ B' → OwnsK w4 B' E' sz u us → OwnsK (w4.setCell ⟨p, j, none⟩ vW') B' E' sz u us := fun {B' E' u us} hle hu => hu.touch (Stirred.setCell w4 ⟨p, j, none⟩ vW') (fun k hk hm => by
    have h3 := (hu.block k hk).1
    simp at hm
    omega)
  have hw3 : Owns (w3.alloc o) B SL vW (cs.map (·.1)) := (h.was.below hb).below ((Below.refl w3.heap.size w3).alloc (Nat.le_refl _) o)
  have hc4 : OwnsK w4 w.heap.size E sz c xs := (hc.below ((Below.refl w3.heap.size w3).alloc (Nat.le_refl _) o)).touch (Stirred.of_grown hgrow) (fun k hk hm => hw3.apartK (hc.below ((Below.refl w3.heap.size w3).alloc (Nat.le_refl _) o)) hE k (by simpa using hm) hk)
  exact ⟨h.full hE hp (hW.touch (Stirred.setCell w4 ⟨p, j, none⟩ vW') (fun k hk hm => by have h3 := (hW.block k hk).1; simp at hm; omega)) ((hset hB hc4).from hB) hs hnew hbs (fun k hk => (hc.block k hk).1), whole_set h2 j vW', hs⟩
section
variable {P : Program} (w : World)
/-- 'append(v, news...)' onto a row of one's own: the longer slice owns its row, and the shorter one still owns what it had -/
theorem run_append_two (B : Nat) (t ty E sz : TypeId) (i : TypeInfo) (z : Value) (bytes : Nat) (ht : P.underlying t = some (.slice E)) (hi : P.info? E = some i) (hz : i.zero = some z)
    (hsize : i.size = sz) (hby : i.bytes = bytes) (hzs : z.cells.size = sz) (hsz : 0 < sz)
    (v : Value) (n : Nat) (xs : List Value) (hown : OwnsK w B E sz v xs) (hn : xs.length = n * sz)
    (a : Addr) (m c : Nat) (news : List Value) (hl : news.length = m * sz) (hnews : ∀ j u, news[j]? = some u → w.cell? (a.add j) = some u) (h1 : ∀ u ∈ news, u.oneCell' = true)
    (h0 : 0 < m) (h63 : n + m ≤ maxLen) (hbytes : (n + m) * bytes ≤ 140737488355328) (hbase : B ≤ w.heap.size) :
    ∃ v' w', (Builtin.append_ #[t, t] ty #[v, .slice (some a) m c]).run P w = .ok v' w' ∧ OwnsK w' B E sz v' (xs ++ news) ∧ OwnsK w' B E sz v xs ∧ Stirred w w' (blk v).toList ∧ ((blk v') = (blk v) ∨ ∃ k, (blk v') = some k ∧ w.heap.size ≤ k) := by
  have hnl : 0 < news.length := by rw [hl]; exact Nat.mul_pos h0 hsz
  have hnew : ∀ {w' : World} {v' : Value}, OwnsK w' w.heap.size E sz v' (xs ++ news) → ∃ k, (blk v') = some k ∧ w.heap.size ≤ k := fun {w' v'} h => by
    rcases h.form with ⟨_, _, h2⟩ | ⟨g, n', cap, h2, hc, _⟩
    · rw [(List.append_eq_nil_iff.1 h2).2] at hnl
      exact absurd hnl (Nat.lt_irrefl 0)
    · subst h2
      exact ⟨g, blk_pos hc, (h.block g (blk_pos hc)).1⟩
  rcases hown.form with ⟨ao, rfl, rfl⟩ | ⟨g, n', cap, rfl, hc0, hl'⟩
  · have hn0 : n = 0 := by
      rcases Nat.eq_zero_or_pos n with h | h
      · exact h
      · have := Nat.mul_pos h hsz; simp at hn; omega
    subst hn0
    cases ao with
    | none =>
      obtain ⟨v', w', hr, h2, h3, h4⟩ := run_append_own (P := P) w w.heap.size t ty E i z sz bytes ht hi hz hsize hby hzs hsz (.slice none 0 0) 0 [] (World.ownsRow_nil _ _ _ _) a m c news hl hnews h1 h63 hbytes (Nat.le_refl _)
      have h5 : OwnsK w' w.heap.size E sz v' ([] ++ news) := OwnsK.of_row h2
      exact ⟨v', w', hr, h5.from hbase, OwnsK.nil _ _ _ _, Stirred.of_grown h3, .inr (hnew h5)⟩
    | some b =>
      obtain ⟨v', w', hr, h2, h3⟩ := run_append_arg_grows (P := P) w t ty E i z sz bytes ht hi hz hsize hby hzs hsz b 0 0 [] (by simp) (fun j u hu => by cases hu) a m c news hl hnews (by omega) h63 hbytes
      have h5 : OwnsK w' w.heap.size E sz v' ([] ++ news) := OwnsK.of_row h2
      exact ⟨v', w', hr, h5.from hbase, OwnsK.empty _ _ _ _ _, (Stirred.of_grown h3).more (fun _ h => by cases h), .inr (hnew h5)⟩
  · have e : n' = n := Nat.eq_of_mul_eq_mul_right hsz (by omega)
    subst e
    have hrow := hown.row_of hc0
    by_cases hroom : n' + m ≤ cap
    · obtain ⟨w', hr, h2, h3⟩ := run_append_fits (P := P) w B t ty E i sz ht hi hsize g n' cap xs hrow a m c news hl hnews h1 hroom
      refine ⟨_, w', hr, OwnsK.of_row h2, ?_, by rw [blk_pos hc0]; exact Stirred.of_grown h3, .inl (by rw [blk_pos hc0, blk_pos hc0])⟩
      rcases h2.2 with ⟨e, _⟩ | ⟨g', cap', cur, e, q2, q3, q4, q5, q6, q7⟩
      · cases e
      · simp only [Value.slice.injEq, Option.some.injEq, Addr.mk.injEq, and_true, true_and] at e
        obtain ⟨rfl, rfl⟩ := e
        refine .inr ⟨g, n', cap, cur, rfl, hc0, q2, q3, hn, by omega, q5, q6, ?_⟩
        have := congrArg (List.take xs.length) q7
        rw [List.take_take, List.take_left] at this
        rw [show min xs.length ((n' + m) * sz) = n' * sz from by rw [Nat.add_mul]; omega] at this
        exact this
    · obtain ⟨v', w', hr, h2, h3⟩ := run_append_arg_grows (P := P) w t ty E i z sz bytes ht hi hz hsize hby hzs hsz ⟨g, 0, none⟩ n' cap xs hn (fun j u hu => by
        have hj : j < xs.length := (List.getElem?_eq_some_iff.1 hu).1
        have := World.ownsRow.cellAt hrow j (by omega)
        rw [hu] at this
        rw [add_row]; exact this) a m c news hl hnews (by omega) h63 hbytes
      have h5 : OwnsK w' w.heap.size E sz v' (xs ++ news) := OwnsK.of_row h2
      exact ⟨v', w', hr, h5.from hbase, hown.touch (Stirred.of_grown h3) (fun _ _ => List.not_mem_nil), (Stirred.of_grown h3).more (fun _ h => by cases h), .inr (hnew h5)⟩
theorem wpList_append_two {ops : Array Oper} {rest : List Oper} {o : Oper} {a : Act} {Q : Exit → Act → World → Prop} (hgd : o.guard = none) (s x : Operand) (t : TypeId)
    (ho : o.op = .call { callee := .builtin .append, args := #[s, x], argTypes := #[t, t] })
    (B E sz : Nat) (i : TypeInfo) (z : Value) (bytes : Nat) (ht : P.underlying t = some (.slice E)) (hi : P.info? E = some i) (hz : i.zero = some z) (hsize : i.size = sz) (hby : i.bytes = bytes) (hzs : z.cells.size = sz) (hsz : 0 < sz)
    (v : Value) (n : Nat) (xs : List Value) (hs : a.eval s = v) (hown : OwnsK w B E sz v xs) (hn : xs.length = n * sz)
    (ad : Addr) (m c : Nat) (news : List Value) (hl : news.length = m * sz) (hx : a.eval x = .slice (some ad) m c) (hnews : ∀ j u, news[j]? = some u → w.cell? (ad.add j) = some u) (h1 : ∀ u ∈ news, u.oneCell' = true)
    (h0 : 0 < m) (h63 : n + m ≤ maxLen) (hbytes : (n + m) * bytes ≤ 140737488355328) (hbase : B ≤ w.heap.size)
    (h : ∀ v' w', OwnsK w' B E sz v' (xs ++ news) → OwnsK w' B E sz v xs → Stirred w w' (blk v).toList → ((blk v') = (blk v) ∨ ∃ k, (blk v') = some k ∧ w.heap.size ≤ k) → wpList P ops Q rest (a.put o.dst v') w') : wpList P ops Q (o :: rest) a w := by
  refine wpList_plain hgd fun K hK => ?_
  obtain ⟨v', w', hr, h2, h3, h4, h5⟩ := run_append_two (P := P) w B t o.type E sz i z bytes ht hi hz hsize hby hzs hsz v n xs hown hn ad m c news hl hnews h1 h0 h63 hbytes hbase
  unfold Oper.wp execOp
  simp only [ho, resolve, invoke, builtin, Sem.run_bind, Sem.run_pure, Result.andThen_ok, List.map_toArray, List.map_cons, List.map_nil, hs, hx, hr]
  exact hK _ _ (h v' w' h2 h3 h4 h5)
end
end Go.Proofs.YtlomfmilohbgpaaGreatDoor.Book.Wide
/- Cells of lists of structs, one behind the other; no program in sight. -/
namespace Go.Proofs.YtlomfmilohbgpaaGreatDoor.Book
theorem flat_length {α : Type} {enc : α → List Value} {k : Nat} (h : ∀ a, (enc a).length = k) (es : List α) : (es.flatMap enc).length = es.length * k := by
  induction es with
  | nil => simp
  | cons a r ih => rw [List.flatMap_cons, List.length_append, h, ih, List.length_cons, Nat.add_mul, Nat.one_mul, Nat.add_comm]
theorem flat_at {α : Type} {enc : α → List Value} {k : Nat} (h : ∀ a, (enc a).length = k) {es : List α} {j : Nat} {a : α} (ha : es[j]? = some a) {i : Nat} {u : Value} (hu : (enc a)[i]? = some u) : (es.flatMap enc)[j * k + i]? = some u := by
  induction es generalizing j with
  | nil => cases ha
  | cons b r ih =>
    rw [List.flatMap_cons]
    have hi : i < k := by have := (List.getElem?_eq_some_iff.1 hu).1; rw [h] at this; exact this
    cases j with
    | zero =>
      simp at ha
      subst ha
      rw [Nat.zero_mul, Nat.zero_add, List.getElem?_append_left (by rw [h]; exact hi)]
      exact hu
    | succ j =>
      rw [List.getElem?_append_right (by rw [h, Nat.add_mul]; omega), h, show (j + 1) * k + i - k = j * k + i by rw [Nat.add_mul]; omega]
      exact ih ha
/-- lists that were marked bear marks -/
theorem done_wide {ls cur : List (Value × List Value)} {mk : Nat → Nat → List Value} {sz : Nat} (hz : 0 < sz) (h : Done (fun j c => mk j (c / sz)) ls ls.length cur) (most : Nat) (hl : ∀ k ∈ ls, ∃ n, k.2.length = n * sz ∧ n ≤ most) : ∀ i k, cur[i]? = some k → ∃ n, k.2 = mk i n ∧ n ≤ most := by
  intro i k hk
  have hi : i < ls.length := by rw [← h.len]; exact (List.getElem?_eq_some_iff.1 hk).1
  have h1 : ls[i]? = some ls[i] := List.getElem?_eq_getElem hi
  have h2 := h.done i _ hi h1
  obtain ⟨n, h3, h4⟩ := hl _ (List.mem_of_getElem? h1)
  rw [hk, h3, Nat.mul_div_cancel _ hz] at h2
  simp only [Option.some.injEq] at h2
  subst h2
  exact ⟨n, rfl, h4⟩
end Go.Proofs.YtlomfmilohbgpaaGreatDoor.Book
/- The walks of hollowaybook over lists of Seens: marks, comparison. -/
namespace Go.Proofs.YtlomfmilohbgpaaGreatDoor
open Go.RowKit Book Book.Wide
set_option linter.unusedSimpArgs false
set_option linter.unusedVariables false
/-- the cells of an element -/
def seenCells (e : Int × Int × Int × Int) : List Value := [.int .i64 e.1, .int .i64 e.2.1, .int .i64 e.2.2.1, .int .i64 e.2.2.2]
/-- the k-th mark of list i -/
def seenMk (i k : Nat) : Int × Int × Int × Int := (-1000 * (i : Int) - (k : Int) - 1, 0, 0, 0)
/-- the marks of list i, from a place on -/
def seenMks (i a n : Nat) : List (Int × Int × Int × Int) := (List.range n).map fun j => seenMk i (a + j)
theorem seenMks_length (i a n : Nat) : (seenMks i a n).length = n := by simp [seenMks]
theorem seenMks_succ (i a n : Nat) : seenMks i a (n + 1) = seenMks i a n ++ [seenMk i (a + n)] := by unfold seenMks; rw [List.range_succ, List.map_append]; rfl
theorem seenMks_add (i a m n : Nat) : seenMks i a (m + n) = seenMks i a m ++ seenMks i (a + m) n := by
  induction n with
  | zero => simp [seenMks]
  | succ n ih => rw [← Nat.add_assoc, seenMks_succ, ih, seenMks_succ, List.append_assoc, Nat.add_assoc]
/-- their cells -/
abbrev seenMarks (i a n : Nat) : List Value := (seenMks i a n).flatMap seenCells
theorem seenMarks_length (i a n : Nat) : (seenMarks i a n).length = n * 4 := by rw [flat_length (k := 4) (fun _ => rfl), seenMks_length]
theorem seenMarks_add (i a m n : Nat) : seenMarks i a (m + n) = seenMarks i a m ++ seenMarks i (a + m) n := by unfold seenMarks; rw [seenMks_add, List.flatMap_append]
theorem seen_one (es : List (Int × Int × Int × Int)) : ∀ u ∈ es.flatMap seenCells, u.oneCell' = true := by
  intro u hu
  rw [List.mem_flatMap] at hu
  obtain ⟨e, _, hu⟩ := hu
  simp only [seenCells, List.mem_cons, List.not_mem_nil, or_false] at hu
  rcases hu with rfl | rfl | rfl | rfl <;> rfl
theorem Tryz.bkSeensInfo : (Tryz.prog.info? 33).map (fun i => (i.zero, i.size, i.bytes)) = some (some (.agg #[.int .i64 0, .int .i64 0, .int .i64 0, .int .i64 0]), 4, 32) := by kernel_rfl
theorem Tryz.bkSeensSpineInfo : (Tryz.prog.info? 27).map (fun i => (i.zero, i.size, i.bytes)) = some (some (.slice none 0 0), 1, 24) := by kernel_rfl
theorem seen_eq (x0 x1 x2 x3 : Int) (w : World) : (binOp .eql 33 (.agg #[.int .i64 x0, .int .i64 x1, .int .i64 x2, .int .i64 x3]) (.agg #[.int .i64 x0, .int .i64 x1, .int .i64 x2, .int .i64 x3])).run Tryz.prog w = .ok (.bool true) w := by
  rw [run_eql_struct, run_equalIn_struct w _ _ _ _ (by kernel_rfl) (by kernel_rfl)]
  rw [show (Tryz.prog.fieldsOf 33).toList = [⟨"Ip", 3, 0, false, "", "", 0⟩, ⟨"Cell", 3, 1, false, "", "", 8⟩, ⟨"Arg", 3, 2, false, "", "", 16⟩, ⟨"Next", 3, 3, false, "", "", 24⟩] from by kernel_rfl]
  simp [Op.eqFields, part, Tryz.isAgg3, Tryz.isAgg9, Tryz.isAgg4, run_equalIn_int (P := Tryz.prog) _ _ 3 _ .i64 _ _ Tryz.underlying3, run_equalIn_string (P := Tryz.prog) _ _ 9 _ _ Tryz.underlying9, run_equalIn_bool' (P := Tryz.prog) _ _ 4 _ _ Tryz.underlying4]
set_option maxHeartbeats 2000000 in
theorem sameSeens_any (va vb : Value) (Ba Bb : Nat) (es : List (Int × Int × Int × Int)) (w : World) (ha : OwnsK w Ba 33 4 va (es.flatMap seenCells)) (hb : OwnsK w Bb 33 4 vb (es.flatMap seenCells)) (hl : es.length ≤ 10000000) :
    Calls Tryz.prog 9 #[va, vb] w fun e w' => e = .returned (.bool true) ∧ ∃ q, w' = w.drewN q := by
  have hlen := flat_length (enc := seenCells) (k := 4) (fun _ => rfl) es
  obtain ⟨ao, ac, rfl⟩ := ha.slice hlen (by decide)
  obtain ⟨bo, bc, rfl⟩ := hb.slice hlen (by decide)
  have HA := Lib.hid ha
  have HB := Lib.hid hb
  obtain ⟨n, hn⟩ : ∃ n, es.length = n := ⟨_, rfl⟩
  have HN := Lib.hid hn
  rw [hn] at hl HA HB hlen ⊢
  have HL := Lib.hid hlen
  clear ha hb hn hlen
  go_enter Tryz.func9, Tryz.ntmps9
  go_wp2
  go_loopg [5] n (fun g i wr => ∃ j q : Nat, g = n - j ∧ j ≤ n ∧ i = .int .i64 j ∧ wr = w.drewN q)
  case atStart => exact ⟨0, 0, rfl, Nat.zero_le _, rfl, rfl⟩
  case round =>
    obtain ⟨j, q, rfl, hj, rfl, rfl⟩ := hrel
    by_cases hlt : j < n
    · obtain ⟨⟨x0, x1, x2, x3⟩, hx⟩ : ∃ x, es[j]? = some x := ⟨es[j]'(by rw [HN.out]; exact hlt), List.getElem?_eq_getElem _⟩
      obtain ⟨ga, ca, e1, hca, -, -⟩ := HA.out.row HL.out (by decide) (by omega)
      obtain ⟨gb, cb, e2, hcb, -, -⟩ := HB.out.row HL.out (by decide) (by omega)
      simp only [Value.slice.injEq, true_and] at e1 e2
      obtain ⟨rfl, rfl⟩ := e1
      obtain ⟨rfl, rfl⟩ := e2
      have a0 := hca (j * 4 + 0) _ (flat_at (enc := seenCells) (fun _ => rfl) hx (i := 0) rfl)
      have a1 := hca (j * 4 + 1) _ (flat_at (enc := seenCells) (fun _ => rfl) hx (i := 1) rfl)
      have a2 := hca (j * 4 + 2) _ (flat_at (enc := seenCells) (fun _ => rfl) hx (i := 2) rfl)
      have a3 := hca (j * 4 + 3) _ (flat_at (enc := seenCells) (fun _ => rfl) hx (i := 3) rfl)
      have b0 := hcb (j * 4 + 0) _ (flat_at (enc := seenCells) (fun _ => rfl) hx (i := 0) rfl)
      have b1 := hcb (j * 4 + 1) _ (flat_at (enc := seenCells) (fun _ => rfl) hx (i := 1) rfl)
      have b2 := hcb (j * 4 + 2) _ (flat_at (enc := seenCells) (fun _ => rfl) hx (i := 2) rfl)
      have b3 := hcb (j * 4 + 3) _ (flat_at (enc := seenCells) (fun _ => rfl) hx (i := 3) rfl)
      rw [Nat.add_zero] at a0 b0
      have heq := seen_eq x0 x1 x2 x3
      clear hx hca hcb
      go_wp2
      go_quiet (fail)
      go_wp2
      go_roundg (n - (j + 1))
      case measure => omega
      case rel => exact ⟨j + 1, _, rfl, by omega, by go_num, rfl⟩
    · go_wp2
      go_ret
      exact ⟨rfl, q, rfl⟩
def goodSeens (xs : List Value) : Prop := ∃ es : List (Int × Int × Int × Int), xs = es.flatMap seenCells ∧ es.length ≤ 1000000
end Go.Proofs.YtlomfmilohbgpaaGreatDoor
/- The document's own machine: what its walks have in common (new boxes, slice literals). -/
namespace Go.Proofs.YtlomfmilohbgpaaGreatDoor.Mach
open Go.RowKit Book Mem
set_option linter.unusedVariables false
set_option linter.unusedSimpArgs false
/-- a new box, its world named -/
theorem newBox (w : World) (cs : Array Value) (T : TypeId) : ∃ w1 g, w.alloc (.cells cs T) = w1 ∧ w.heap.size = g ∧ Hid (w1.heap[g]? = some (.cells cs T (0, 0))) ∧ Hid (Below w.heap.size w w1) ∧ Hid (w.heap.size = g) :=
  ⟨_, _, rfl, rfl, heap_alloc_new w _, (Below.refl w.heap.size w).alloc (Nat.le_refl _) _, rfl⟩
theorem boxOn {w w' : World} {g : Nat} {cs : Array Value} {T : TypeId} (h : w.heap[g]? = some (.cells cs T (0, 0))) (hb : Below w.heap.size w w') : w'.heap[g]? = some (.cells cs T (0, 0)) := (Stirred.of_below hb []).whole h List.not_mem_nil
/-- a slice literal's row -/
theorem ownsLit {w : World} {B g n : Nat} {cs : Array Value} (h : w.heap[g]? = some (.cells cs 3 (0, 0))) (l : List Int) (hcs : cs.toList = vals l) (hn : l.length = n) (h0 : 0 < n) (hB : B ≤ g) (hl : n ≤ maxLen) : Owns w B 3 (.slice (some ⟨g, 0, none⟩) n n) (vals l) := by
  have hv : (vals l).length = n := by rw [vals_length]; exact hn
  refine .inr ⟨g, n, cs, by rw [hv], h0, hB, h, by rw [hv]; exact Nat.le_refl _, hl, by rw [← Array.length_toList, hcs, hv], ?_⟩
  rw [hcs, List.take_of_length_le (by omega)]
theorem drewK {w : World} {a : Addr} {v : Value} (h : w.cell? a = some v) : w.drew.cell? a = some v := h
end Go.Proofs.YtlomfmilohbgpaaGreatDoor.Mach
/- The document's own machine (chapter 9): a fault, told to be read. -/
namespace Go.Proofs.YtlomfmilohbgpaaGreatDoor.Inn
open Go.RowKit Book Mem Mach
set_option linter.unusedVariables false
set_option linter.unusedSimpArgs false
/-- a machine that is read where its three lists are -/
theorem readsM_of {w : World} {vs vb vm : Value} {m : M} (h1 : ReadsC w vs m.stack) (h2 : ReadsC w vb m.back) (h3 : ReadsC w vm m.mem) : ReadsM w (stV m vs vb vm) m := ⟨vs, vb, vm, rfl, h1, h2, h3⟩
theorem readsC_one {w : World} {v : Value} {xs : List Int} (h : ReadsC w v xs) : v.oneCell' = true := by
  obtain ⟨-, ao, c, rfl, -⟩ := h
  rfl
theorem fault_not {m : M} {code : Int} (h : caught m = false) : Mach.fault m code = { m with status := 2, code := code } := by unfold Mach.fault; rw [if_neg (by rw [h]; decide)]
/-- why a fault is not caught -/
theorem not_caught {m : M} (h : caught m = false) : m.handler < 3 ∨ (¬ m.handler < 3 ∧ (m.back.length : Int) < m.handler) ∨ ∃ q : Nat, ∃ d, m.handler = (q : Int) + 1 ∧ 3 ≤ q + 1 ∧ q < m.back.length ∧ m.back[q]? = some d ∧ (d < 0 ∨ ¬ d < 0 ∧ 48 ≤ d) := by
  unfold caught at h
  simp only [Bool.and_eq_false_iff, decide_eq_false_iff_not] at h
  by_cases c1 : m.handler < 3
  · exact .inl c1
  · by_cases c2 : (m.back.length : Int) < m.handler
    · exact .inr (.inl ⟨c1, c2⟩)
    · refine .inr (.inr ⟨m.handler.toNat - 1, m.back.getD (m.handler.toNat - 1) 0, by omega, by omega, by omega, by rw [List.getD_eq_getElem?_getD, List.getElem?_eq_getElem (by omega)]; rfl, ?_⟩)
      rcases h with ((h | h) | h) | h
      all_goals omega
/-- a list that was there, or a row of one's own made since -/
def Kin (w w' : World) (v : Value) (xs : List Int) (v' : Value) (xs' : List Int) : Prop := (v' = v ∧ xs' = xs) ∨ Owns w' w.heap.size 3 v' (vals xs')
theorem Kin.reads {w w' : World} {v v' : Value} {xs xs' : List Int} (h : Kin w w' v xs v' xs') (hr : ReadsC w v xs) (hb : Below w.heap.size w w') : ReadsC w' v' xs' := by
  rcases h with ⟨rfl, rfl⟩ | h
  · exact hr.below hb
  · exact ReadsC.of_owns h
theorem Kin.list {W w w' : World} {B : Nat} {v v' : Value} {xs xs' : List Int} (h : Kin w w' v xs v' xs') (hr : L W w B v xs) (hb : Below w.heap.size w w') (hB : B ≤ w.heap.size) : L W w' B v' xs' := by
  rcases h with ⟨rfl, rfl⟩ | h
  · exact hr.below hb
  · exact .inr (h.from hB)
/-- what a call answers: a machine whose lists were there, or are its own -/
def TellsK (vs vb vm : Value) (m m' : M) (w : World) (e : Ending) (w' : World) : Prop := ∃ vs' vb' vm', e = .returned (stV m' vs' vb' vm') ∧ Kin w w' vs m.stack vs' m'.stack ∧ Kin w w' vb m.back vb' m'.back ∧ Kin w w' vm m.mem vm' m'.mem ∧ Below w.heap.size w w'
theorem TellsK.tells {vs vb vm : Value} {m m' : M} {w : World} {e : Ending} {w' : World} (h : TellsK vs vb vm m m' w e w') (h1 : ReadsC w vs m.stack) (h2 : ReadsC w vb m.back) (h3 : ReadsC w vm m.mem) : TellsM m' w e w' := by
  obtain ⟨vs', vb', vm', rfl, k1, k2, k3, hb⟩ := h
  exact ⟨_, rfl, readsM_of (k1.reads h1 hb) (k2.reads h2 hb) (k3.reads h3 hb), hb⟩
theorem TellsK.list {W : World} {B : Nat} {vs vb vm : Value} {m m' : M} {w : World} {e : Ending} {w' : World} (h : TellsK vs vb vm m m' w e w') (h1 : L W w B vs m.stack) (h2 : L W w B vb m.back) (h3 : L W w B vm m.mem) (hB : B ≤ w.heap.size) : TellsL W B m' w e w' := by
  obtain ⟨vs', vb', vm', rfl, k1, k2, k3, hb⟩ := h
  exact ⟨_, rfl, ⟨_, _, _, rfl, k1.list h1 hb hB, k2.list h2 hb hB, k3.list h3 hb hB⟩, hb⟩
/-- what is answered: lists that were there -/
theorem fault_end {w w4 wf : World} {g r : Nat} {vs vb vm : Value} {m0 m : M} (e1 : m.stack = m0.stack) (e2 : m.back = m0.back) (e3 : m.mem = m0.mem) (hb4 : Below w.heap.size w w4) (ht : Stirred w4 wf [r]) (hg : w.heap.size = g) (hz : g < r) :
    TellsK vs vb vm m0 m w (.returned (stV m vs vb vm)) wf := by
  have hb : Below w.heap.size w wf := hb4.trans (ht.below (fun k hk => by rw [List.mem_singleton.1 hk]; omega) hb4.size)
  exact ⟨_, _, _, rfl, .inl ⟨rfl, e1⟩, .inl ⟨rfl, e2⟩, .inl ⟨rfl, e3⟩, hb⟩
/-- where a fault is caught -/
theorem is_caught {m : M} (h : caught m = true) : ∃ K D : Nat, ∃ a2 a3, m.handler = ((K + 3 : Nat) : Int) ∧ K + 3 ≤ m.back.length ∧ m.back[K + 2]? = some (D : Int) ∧ m.back[K + 1]? = some a2 ∧ m.back[K]? = some a3 ∧ D < 48 ∧
    ∀ code, Mach.fault m code = { m with handler := a2, ip := a3, back := m.back.take K, stack := deep m.stack D ++ [code] } := by
  have h' := h
  unfold caught at h
  simp only [Bool.and_eq_true, decide_eq_true_eq] at h
  obtain ⟨⟨⟨h1, h2⟩, h3⟩, h4⟩ := h
  obtain ⟨H, hH⟩ : ∃ H : Nat, m.handler = (H : Int) := ⟨m.handler.toNat, by omega⟩
  rw [hH] at h1 h2 h3 h4
  rw [Int.toNat_natCast] at h3 h4
  obtain ⟨K, rfl⟩ : ∃ K, H = K + 3 := ⟨H - 3, by omega⟩
  have e2 : m.back[K + 2]? = some (m.back.getD (K + 2) 0) := by rw [List.getD_eq_getElem?_getD, List.getElem?_eq_getElem (by omega)]; rfl
  have e1 : m.back[K + 1]? = some (m.back.getD (K + 1) 0) := by rw [List.getD_eq_getElem?_getD, List.getElem?_eq_getElem (by omega)]; rfl
  have e0 : m.back[K]? = some (m.back.getD K 0) := by rw [List.getD_eq_getElem?_getD, List.getElem?_eq_getElem (by omega)]; rfl
  rw [show K + 3 - 1 = K + 2 by omega] at h3 h4
  refine ⟨K, (m.back.getD (K + 2) 0).toNat, _, _, hH, by omega, by rw [e2, Int.toNat_of_nonneg h3], e1, e0, by omega, fun code => ?_⟩
  unfold Mach.fault
  rw [if_pos h', hH, Int.toNat_natCast, show K + 3 - 1 = K + 2 by omega, show K + 3 - 2 = K + 1 by omega, show K + 3 - 3 = K by omega]
/-- two boxes while lists are made -/
structure FB (w : World) (g r : Nat) (cs : Array Value) (wc : World) : Prop where
  hb : Below w.heap.size w wc
  hg : wc.heap[g]? = some (.cells cs 24 (0, 0))
  hr : wc.heap[r]? = some (.cells zero10 24 (0, 0))
section
variable {w wc wn : World} {g r : Nat} {cs : Array Value}
theorem FB.on (h : FB w g r cs wc) (hb : Below wc.heap.size wc wn) : FB w g r cs wn := ⟨h.hb.trans (hb.mono h.hb.size), boxOn h.hg hb, boxOn h.hr hb⟩
theorem FB.set (h : FB w g r cs wc) (hw : w.heap.size = g) (hz : g < r) (j : Nat) (v : Value) : FB w g r (cs.setIfInBounds j v) (wc.setCell ⟨g, j, none⟩ v) :=
  have t := Stirred.setCell wc ⟨g, j, none⟩ v
  ⟨h.hb.trans (t.below (fun k hk => by rw [List.mem_singleton.1 (show k ∈ [g] from hk)]; omega) h.hb.size), whole_set h.hg j v, t.whole h.hr (by show r ∉ [g]; rw [List.mem_singleton]; omega)⟩
theorem FB.drew (h : FB w g r cs wc) : FB w g r cs wc.drew := ⟨h.hb.drew, h.hg, h.hr⟩
end
theorem own_set {wc : World} {B g j : Nat} {v u : Value} {xs : List Value} (h : Owns wc B 3 v xs) (hg : g < B) : Owns (wc.setCell ⟨g, j, none⟩ u) B 3 v xs :=
  h.touch (Stirred.setCell wc ⟨g, j, none⟩ u) (fun k hk hm => by have := (h.block k hk).1; rw [List.mem_singleton.1 (show k ∈ [g] from hm)] at this; omega)
end Go.Proofs.YtlomfmilohbgpaaGreatDoor.Inn
/- The walks of the document's own answer to chapter 1 (hollowayref1: cells). -/
namespace Go.Proofs.YtlomfmilohbgpaaGreatDoor.Cell
open Go.RowKit

theorem ref_rest {a b : Int} (ib : In b) (hb : b ≠ 0) : wrap64 (a - wrap64 (wrap64 (a.tdiv b) * b)) = a.tmod b := by
  have h1 : In (a.tmod b) := by
    unfold In at *
    rcases Int.lt_or_gt_of_ne hb with h | h
    · have e : a.tmod b = a.tmod (-b) := (Int.tmod_neg a b).symm
      have := Int.tmod_lt_of_pos a (show 0 < -b by omega)
      have := Int.lt_tmod_of_pos a (show 0 < -b by omega)
      omega
    · have := Int.tmod_lt_of_pos a h
      have := Int.lt_tmod_of_pos a h
      omega
  rw [wrap_mul_left]
  have h2 : wrap64 (a - wrap64 (a.tdiv b * b)) = wrap64 (a - a.tdiv b * b) := by unfold wrap64; omega
  rw [h2, ← wrap_of h1, Int.tmod_def, Int.mul_comm b]
def isTwo (op : Int) : Bool := decide (11 ≤ op ∧ op ≤ 15 ∨ 17 ≤ op ∧ op ≤ 19 ∨ 21 ≤ op ∧ op ≤ 25 ∨ op = 28 ∨ op = 29)
/-- the reference's shift after k rounds -/
def shN (l : Bool) (a : Int) (k : Nat) : Int := if l then (uns a * 2 ^ k) % 18446744073709551616 else uns a / 2 ^ k
theorem shN_in (l : Bool) (a : Int) (k : Nat) : 0 ≤ shN l a k ∧ shN l a k < 18446744073709551616 := by
  have h := uns_lt a
  unfold shN
  split
  · omega
  · have hp : (0 : Int) < 2 ^ k := Int.pow_pos (by decide)
    exact ⟨Int.ediv_nonneg h.1 (by omega), Int.lt_of_le_of_lt (Int.ediv_le_self _ h.1) h.2⟩
theorem shN_left (a : Int) (k : Nat) : IntKind.u64.wrap (shN true a k * 2) = shN true a (k + 1) := by
  simp only [shN, if_true, IntKind.wrap_u64, Int.pow_succ]
  rw [← Int.mul_assoc, Int.mul_emod (uns a * 2 ^ k) 2, Int.mul_emod (uns a * 2 ^ k % _) 2, Int.emod_emod_of_dvd _ (Int.dvd_refl _)]
theorem shN_right (a : Int) (k : Nat) : shN false a k / 2 = shN false a (k + 1) := by
  simp only [shN, Bool.false_eq_true, if_false, Int.pow_succ]
  rw [Int.ediv_ediv_of_nonneg (Int.pow_nonneg (by decide))]
theorem shN_zero (l : Bool) (a : Int) : IntKind.u64.wrap a = shN l a 0 := by
  have h := uns_lt a
  rw [uns_of]; unfold shN; cases l <;> simp <;> omega
theorem shN_end_left {a b : Int} (h0 : 0 ≤ b) (h1 : b ≤ 63) : wrap64 (shN true a b.toNat) = (two 21 a b).1 := by
  show _ = shl a b
  unfold shl; rw [if_neg (by omega)]
  simp only [shN, if_true]
  rw [← wrap_mul_left a, ← wrap_uns a, wrap_mul_left]
  unfold wrap64; omega
theorem shN_end_right {a b : Int} (h0 : 0 ≤ b) (h1 : b ≤ 63) : wrap64 (shN false a b.toNat) = (two 22 a b).1 := by
  show _ = shr a b
  unfold shr; rw [if_neg (by omega)]
  simp only [shN, Bool.false_eq_true, if_false]

theorem isTwo_lo {op : Int} (h : op < 11) : isTwo op = false := by unfold isTwo; rw [decide_eq_false_iff_not]; omega
theorem isTwo_hi {op : Int} (h : 29 < op) : isTwo op = false := by unfold isTwo; rw [decide_eq_false_iff_not]; omega
end Go.Proofs.YtlomfmilohbgpaaGreatDoor.Cell
/- The document's own step (chapter 9): its two boxes and three lists, laws, the code in pieces. -/
namespace Go.Proofs.YtlomfmilohbgpaaGreatDoor.Inn
open Go.RowKit Book Mem Mach
set_option linter.unusedVariables false
set_option linter.unusedSimpArgs false
/-- the box of what came in, the box of what is made, the answer's box, three lists of its own -/
structure SB (W : World) (g x r : Nat) (cw cx : Array Value) (vs vb vm : Value) (st bk me : List Int) (w : World) : Prop where
  hb : Below W.heap.size W w
  hg : w.heap[g]? = some (.cells cw 24 (0, 0))
  hx : w.heap[x]? = some (.cells cx 24 (0, 0))
  hr : w.heap[r]? = some (.cells zero10 24 (0, 0))
  st : Owns w W.heap.size 3 vs (vals st)
  bk : Owns w W.heap.size 3 vb (vals bk)
  me : Owns w W.heap.size 3 vm (vals me)
  d1 : ∀ k, blk vs = some k → blk vb ≠ some k ∧ blk vm ≠ some k
  d2 : ∀ k, blk vb = some k → blk vm ≠ some k
  ne : g ≠ x ∧ x ≠ r ∧ g ≠ r
  low : W.heap.size ≤ x ∧ W.heap.size ≤ r
theorem not_box {w : World} {B g : Nat} {v : Value} {xs : List Value} {cs : Array Value} (h : Owns w B 3 v xs) (hg : w.heap[g]? = some (.cells cs 24 (0, 0))) : g ∉ (blk v).toList := fun hm => by
  obtain ⟨_, _, c, hc⟩ := h.block g (by simpa using hm)
  rw [hg] at hc
  simp only [Option.some.injEq, Obj.cells.injEq] at hc
  exact absurd hc.2.1 (by decide)
theorem blk_part (ao : Option Addr) (n m c : Nat) : blk (.slice ao n c) = blk (.slice ao m c) := by cases ao <;> rfl
section
variable {W w w' wf : World} {g x r : Nat} {cw cx cx' : Array Value} {vs vb vm v' : Value} {st bk me st' : List Int}
theorem SB.set (h : SB W g x r cw cx vs vb vm st bk me w) (hx : w'.heap[x]? = some (.cells cx' 24 (0, 0))) (ht : Stirred w w' [x]) : SB W g x r cw cx' vs vb vm st bk me w' :=
  ⟨h.hb.trans (ht.below (fun k hk => by rw [List.mem_singleton.1 hk]; exact h.low.1) h.hb.size), ht.whole h.hg (fun hm => h.ne.1 (List.mem_singleton.1 hm)), hx, ht.whole h.hr (fun hm => h.ne.2.1 (List.mem_singleton.1 hm).symm),
    own_box h.st ht h.hx, own_box h.bk ht h.hx, own_box h.me ht h.hx, h.d1, h.d2, h.ne, h.low⟩
theorem SB.below (h : SB W g x r cw cx vs vb vm st bk me w) (hb : Below w.heap.size w w') : SB W g x r cw cx vs vb vm st bk me w' :=
  ⟨h.hb.trans (hb.mono h.hb.size), boxOn h.hg hb, boxOn h.hx hb, boxOn h.hr hb, h.st.below hb, h.bk.below hb, h.me.below hb, h.d1, h.d2, h.ne, h.low⟩
theorem SB.drewN (h : SB W g x r cw cx vs vb vm st bk me w) (n : Nat) : SB W g x r cw cx vs vb vm st bk me (w.drewN n) := h.below (bk_below_drewN _ _ _)
theorem SB.cut1 {ao : Option Addr} {n c P : Nat} (h : SB W g x r cw cx (.slice ao n c) vb vm st bk me w) (hP : P ≤ st.length) : SB W g x r cw cx (.slice ao P c) vb vm (st.take P) bk me w :=
  ⟨h.hb, h.hg, h.hx, h.hr, owns_shorter h.st hP, h.bk, h.me, fun k hk => h.d1 k (by rw [blk_part ao n P]; exact hk), h.d2, h.ne, h.low⟩
theorem SB.cut2 {ao : Option Addr} {n c P : Nat} (h : SB W g x r cw cx vs (.slice ao n c) vm st bk me w) (hP : P ≤ bk.length) : SB W g x r cw cx vs (.slice ao P c) vm st (bk.take P) me w :=
  ⟨h.hb, h.hg, h.hx, h.hr, h.st, owns_shorter h.bk hP, h.me, fun k hk => by rw [blk_part ao P n]; exact h.d1 k hk, fun k hk => h.d2 k (by rw [blk_part ao n P]; exact hk), h.ne, h.low⟩
theorem SB.app1 (h : SB W g x r cw cx vs vb vm st bk me w) (ho : Owns w' W.heap.size 3 v' (vals st')) (ht : Stirred w w' (blk vs).toList) (hn : blk v' = blk vs ∨ ∃ k, blk v' = some k ∧ w.heap.size ≤ k) : SB W g x r cw cx v' vb vm st' bk me w' := by
  have t1 : ∀ k, blk vb = some k → k ∉ (blk vs).toList := fun k hk hm => (h.d1 k (by simpa using hm)).1 hk
  have t2 : ∀ k, blk vm = some k → k ∉ (blk vs).toList := fun k hk hm => (h.d1 k (by simpa using hm)).2 hk
  refine ⟨h.hb.trans (ht.below (fun k hk => (h.st.block k (by simpa using hk)).1) h.hb.size), ht.whole h.hg (not_box h.st h.hg), ht.whole h.hx (not_box h.st h.hx), ht.whole h.hr (not_box h.st h.hr), ho, h.bk.touch ht t1, h.me.touch ht t2, fun k hk => ?_, h.d2, h.ne, h.low⟩
  rcases hn with e | ⟨k', e, hl⟩
  · exact h.d1 k (by rw [← e]; exact hk)
  · obtain rfl : k' = k := by rw [e] at hk; simpa using hk
    exact ⟨fun e' => by have := (h.bk.block k' e').2.1; omega, fun e' => by have := (h.me.block k' e').2.1; omega⟩
theorem SB.app2 (h : SB W g x r cw cx vs vb vm st bk me w) (ho : Owns w' W.heap.size 3 v' (vals st')) (ht : Stirred w w' (blk vb).toList) (hn : blk v' = blk vb ∨ ∃ k, blk v' = some k ∧ w.heap.size ≤ k) : SB W g x r cw cx vs v' vm st st' me w' := by
  have t1 : ∀ k, blk vs = some k → k ∉ (blk vb).toList := fun k hk hm => (h.d1 k hk).1 (by simpa using hm)
  have t2 : ∀ k, blk vm = some k → k ∉ (blk vb).toList := fun k hk hm => (h.d2 k (by simpa using hm)) hk
  refine ⟨h.hb.trans (ht.below (fun k hk => (h.bk.block k (by simpa using hk)).1) h.hb.size), ht.whole h.hg (not_box h.bk h.hg), ht.whole h.hx (not_box h.bk h.hx), ht.whole h.hr (not_box h.bk h.hr), h.st.touch ht t1, ho, h.me.touch ht t2, fun k hk => ⟨?_, (h.d1 k hk).2⟩, fun k hk => ?_, h.ne, h.low⟩
  · rcases hn with e | ⟨k', e, hl⟩
    · rw [e]; exact (h.d1 k hk).1
    · rw [e]; intro e'; simp only [Option.some.injEq] at e'; subst e'
      have := (h.st.block k' hk).2.1; omega
  · rcases hn with e | ⟨k', e, hl⟩
    · exact h.d2 k (by rw [← e]; exact hk)
    · obtain rfl : k' = k := by rw [e] at hk; simpa using hk
      exact fun e' => by have := (h.me.block k' e').2.1; omega
theorem SB.setB {gb n c : Nat} (h : SB W g x r cw cx vs (.slice (some ⟨gb, 0, none⟩) n c) vm st bk me w) (hn : 0 < bk.length) (j : Nat) (u : Int) : SB W g x r cw cx vs (.slice (some ⟨gb, 0, none⟩) n c) vm st (bk.set j u) me (w.setCell ⟨gb, j, none⟩ (.int .i64 u)) := by
  obtain ⟨g', c', e, hbk⟩ := owns_slice h.bk hn
  simp only [Value.slice.injEq, Option.some.injEq, Addr.mk.injEq, and_true] at e
  obtain ⟨rfl, e2, rfl⟩ := e
  have ht : Stirred w (w.setCell ⟨gb, j, none⟩ (.int .i64 u)) (blk (.slice (some ⟨gb, 0, none⟩) n c)).toList := by rw [hbk]; exact Stirred.setCell w ⟨gb, j, none⟩ _
  exact h.app2 (by rw [← vals_set]; exact h.bk.stored j _) ht (.inl rfl)
theorem SB.setM {gm n c : Nat} (h : SB W g x r cw cx vs vb (.slice (some ⟨gm, 0, none⟩) n c) st bk me w) (hn : 0 < me.length) (j : Nat) (u : Int) : SB W g x r cw cx vs vb (.slice (some ⟨gm, 0, none⟩) n c) st bk (me.set j u) (w.setCell ⟨gm, j, none⟩ (.int .i64 u)) := by
  obtain ⟨g', c', e, hmm⟩ := owns_slice h.me hn
  simp only [Value.slice.injEq, Option.some.injEq, Addr.mk.injEq, and_true] at e
  obtain ⟨rfl, e2, rfl⟩ := e
  have ht : Stirred w (w.setCell ⟨gm, j, none⟩ (.int .i64 u)) [gm] := Stirred.setCell w ⟨gm, j, none⟩ _
  have n1 := not_box h.me h.hg
  have n2 := not_box h.me h.hx
  have n3 := not_box h.me h.hr
  rw [hmm] at n1 n2 n3
  exact ⟨h.hb.trans (ht.below (fun k hk => by rw [List.mem_singleton.1 hk]; exact (h.me.block gm hmm).1) h.hb.size), ht.whole h.hg n1, ht.whole h.hx n2, ht.whole h.hr n3,
    h.st.touch ht (fun k hk hm => (h.d1 k hk).2 (by rw [List.mem_singleton.1 hm]; exact hmm)), h.bk.touch ht (fun k hk hm => h.d2 k hk (by rw [List.mem_singleton.1 hm]; exact hmm)), by rw [← vals_set]; exact h.me.stored j _, h.d1, h.d2, h.ne, h.low⟩
theorem SB.atB {gb n c j : Nat} {u : Int} (h : SB W g x r cw cx vs (.slice (some ⟨gb, 0, none⟩) n c) vm st bk me w) (hj : bk[j]? = some u) : w.cell? ⟨gb, j, none⟩ = some (.int .i64 u) := by
  obtain ⟨hl, rfl⟩ := List.getElem?_eq_some_iff.1 hj
  exact (owns_at h.bk hl).1
theorem SB.atM {gm n c j : Nat} {u : Int} (h : SB W g x r cw cx vs vb (.slice (some ⟨gm, 0, none⟩) n c) st bk me w) (hj : me[j]? = some u) : w.cell? ⟨gm, j, none⟩ = some (.int .i64 u) := by
  obtain ⟨hl, rfl⟩ := List.getElem?_eq_some_iff.1 hj
  exact (owns_at h.me hl).1
theorem SB.atS {gs n c j : Nat} {u : Int} (h : SB W g x r cw cx (.slice (some ⟨gs, 0, none⟩) n c) vb vm st bk me w) (hj : st[j]? = some u) : w.cell? ⟨gs, j, none⟩ = some (.int .i64 u) := by
  obtain ⟨hl, rfl⟩ := List.getElem?_eq_some_iff.1 hj
  exact (owns_at h.st hl).1
theorem SB.frB {gb n c j : Nat} (h : SB W g x r cw cx vs (.slice (some ⟨gb, 0, none⟩) n c) vm st bk me w) (hj : j < bk.length) : w.frozen? ⟨gb, j, none⟩ = false := (owns_at h.bk hj).2
theorem SB.frM {gm n c j : Nat} (h : SB W g x r cw cx vs vb (.slice (some ⟨gm, 0, none⟩) n c) st bk me w) (hj : j < me.length) : w.frozen? ⟨gm, j, none⟩ = false := (owns_at h.me hj).2
/-- what is answered, its lists its own -/
theorem SB.gives {vs0 vb0 vm0 : Value} {m0 m : M} (h : SB W g x r cw cx vs vb vm m.stack m.back m.mem w) (ht : Stirred w wf [r]) : TellsK vs0 vb0 vm0 m0 m W (.returned (stV m vs vb vm)) wf :=
  ⟨_, _, _, rfl, .inr (own_box h.st ht h.hr), .inr (own_box h.bk ht h.hr), .inr (own_box h.me ht h.hr), h.hb.trans (ht.below (fun k hk => by rw [List.mem_singleton.1 hk]; exact h.low.2) h.hb.size)⟩
end
/-- what a fault answers, held against the machine that came in first -/
def KinM (W w' : World) (vs vb vm : Value) (m m' : M) (vs' vb' vm' : Value) : Prop := Kin W w' vs m.stack vs' m'.stack ∧ Kin W w' vb m.back vb' m'.back ∧ Kin W w' vm m.mem vm' m'.mem ∧ Below W.heap.size W w'
theorem Kin.box {W w' wf : World} {v v' : Value} {xs xs' : List Int} {r : Nat} {cs : Array Value} (h : Kin W w' v xs v' xs') (hr : w'.heap[r]? = some (.cells cs 24 (0, 0))) (ht : Stirred w' wf [r]) : Kin W wf v xs v' xs' := by
  rcases h with h | h
  · exact .inl h
  · exact .inr (own_box h ht hr)
theorem KinM.box {W w' wf : World} {vs vb vm vs' vb' vm' : Value} {m m' : M} {r : Nat} {cs : Array Value} (h : KinM W w' vs vb vm m m' vs' vb' vm') (hr : w'.heap[r]? = some (.cells cs 24 (0, 0))) (hB : W.heap.size ≤ r) (ht : Stirred w' wf [r]) : TellsK vs vb vm m m' W (.returned (stV m' vs' vb' vm')) wf :=
  ⟨_, _, _, rfl, h.1.box hr ht, h.2.1.box hr ht, h.2.2.1.box hr ht, h.2.2.2.trans (ht.below (fun k hk => by rw [List.mem_singleton.1 hk]; exact hB) h.2.2.2.size)⟩
theorem Kin.from {W w w' : World} {v v' : Value} {xs xs' : List Int} (h : Kin w w' v xs v' xs') (hb : Below W.heap.size W w) : Kin W w' v xs v' xs' := by
  rcases h with h | h
  · exact .inl h
  · exact .inr (h.from hb.size)
theorem reads_known {w : World} {v : Value} {xs : List Int} (h : ReadsC w v xs) : ∃ ao n c, v = .slice ao n c := by
  obtain ⟨-, ao, c, e, -⟩ := h
  exact ⟨ao, _, c, e⟩
/-- 'v[:h]': the same row, shorter -/
theorem wpList_slice_low {P : Program} {w : World} {ops : Array Oper} {rest : List Oper} {o : Oper} {a : Act} {Q : Exit → Act → World → Prop} (hw : Region.wanted o (yielded ops a.tmps) = true) (t : TypeId) (x hi : Operand) (hop : o.op = Op.slice t x none (some hi) none)
    (E : TypeId) (ht : P.underlying t = some (.slice E)) (hz : ∀ w, (sizeOf E).run P w = .ok 1 w) (ao : Option Addr) (n c : Nat) (xs : List Int) (hx : a.eval x = .slice ao n c) (hr : ReadsC w (.slice ao n c) xs) (h : Nat) (hhi : a.eval hi = .int .i64 h) (hh : h ≤ xs.length)
    (hK : wpList P ops Q rest (a.put o.dst (.slice ao h c)) w) : wpList P ops Q (o :: rest) a w := by
  refine wpList_step fun K hK' => ?_
  rw [if_pos hw]
  obtain ⟨-, ao', c', e, hcap⟩ := hr
  simp only [Value.slice.injEq] at e
  obtain ⟨rfl, rfl, rfl⟩ := e
  have hs : (Instr.sliceAt t (.slice ao xs.length c) none (some (.int .i64 h)) none).run P w = .ok (.slice ao h c) w := by
    have e1 : ∀ code, (Instr.sliceBound (.int .i64 h) c code).run P w = .ok h w := fun code => by
      have h1 : h ≤ c := by omega
      simp [Instr.sliceBound, asIntOf, h1, go_sem]
    cases ao <;> simp [Instr.sliceAt, Instr.slice, Instr.sliceBounds, run_underlying ht, hz, e1, Addr.add]
  unfold Oper.wp execOp
  simp only [hop, hx, hhi, Option.map_some, Option.map_none, Sem.run_bind, Sem.run_pure, Result.andThen_ok, hs]
  exact hK' _ _ hK
/-- a number is written into a row's cell -/
theorem st_cell {ops : Array Oper} {rest : List Oper} {o : Oper} {a : Act} {w : World} {Q : Exit → Act → World → Prop} (hw : Region.wanted o (yielded ops a.tmps) = true) (x y : Operand) (ho : o.op = .store 3 x y) (g j : Nat) (hx : a.eval x = .pointer (some ⟨g, j, none⟩)) (v : Int) (hy : a.eval y = .int .i64 v) (old : Value) (hc : w.cell? ⟨g, j, none⟩ = some old) (hf : w.frozen? ⟨g, j, none⟩ = false)
    (h : ∀ w', w' = w.setCell ⟨g, j, none⟩ (.int .i64 v) → wpList Tryz.prog ops Q rest (a.put o.dst undef) w') : wpList Tryz.prog ops Q (o :: rest) a w := by
  refine wpList_step fun K hK => ?_
  rw [if_pos hw]
  have hs : (storeVar 3 ⟨g, j, none⟩ (.int .i64 v)).run Tryz.prog w = .ok () (w.setCell ⟨g, j, none⟩ (.int .i64 v)) := by
    have hi := one_int
    cases hq : Tryz.prog.info? 3 with
    | none => simp [hq] at hi
    | some i =>
      have hs : i.size = 1 := by simpa [hq] using hi
      have hadd : (⟨g, j, none⟩ : Addr).add 0 = ⟨g, j, none⟩ := by simp [Addr.add]
      simp [storeVar, sizeOf, typeInfo, hq, show (Value.int .i64 v).cells = #[Value.int .i64 v] from rfl, hs, storeCells, hadd, run_store Tryz.prog w ⟨g, j, none⟩ (.int .i64 v) _ rfl, hc, hf]
  unfold Oper.wp execOp
  simp only [ho, hx, hy, Instr.storeAt, Instr.sureAddr, Sem.run_bind, Sem.run_pure, Result.andThen_ok, hs]
  exact hK _ _ (h _ rfl)
/-- does a piece of code begin with this region? -/
def begins9 (k : Nat) : Code → Bool
  | .region n _ _ => n == k
  | .seq a _ => begins9 k a
  | _ => false
/-- the code from a region on -/
def from9 (k : Nat) : Code → Option Code
  | .seq a b => if begins9 k a then some (.seq a b) else match from9 k a with
    | some d => some d
    | none => if begins9 k b then some b else from9 k b
  | .block _ c => from9 k c
  | .loop c => from9 k c
  | .scope c => from9 k c
  | _ => none
end Go.Proofs.YtlomfmilohbgpaaGreatDoor.Inn
/- Package record: a place, a cell of the memory, a step as it is seen, whether it may be recorded. -/
namespace Go.Proofs.YtlomfmilohbgpaaGreatDoor.Rec
open Go.RowKit Book Book.Wide Mem Mach Inn
set_option linter.unusedSimpArgs false
set_option linter.unusedVariables false
abbrev seenV (x : S) : Value := .agg #[.int .i64 x.1, .int .i64 x.2.1, .int .i64 x.2.2.1, .int .i64 x.2.2.2]
abbrev seenA (x : S) : Array Value := #[.int .i64 x.1, .int .i64 x.2.1, .int .i64 x.2.2.1, .int .i64 x.2.2.2]
theorem place_yes {a : Int} : place a = true ↔ 0 ≤ a ∧ a < 3000 := by unfold place; exact decide_eq_true_iff
theorem place_no {a : Int} (h : ¬ (0 ≤ a ∧ a < 3000)) : place a = false := by unfold place; exact decide_eq_false h
theorem place_any (a : Int) (w : World) : Calls Tryz.prog 29 #[.int .i64 a] w fun e w' => e = .returned (.bool (place a)) ∧ w' = w := by
  by_cases h0 : 0 ≤ a
  · by_cases h1 : a < 3000
    · have HP := Lib.hid (place_yes.2 ⟨h0, h1⟩)
      go_enter Tryz.func29, Tryz.ntmps29
      go_wp2
      go_ret
      exact ⟨by rw [HP.out]; rfl, rfl⟩
    · have HP := Lib.hid (place_no (fun h => h1 h.2))
      go_enter Tryz.func29, Tryz.ntmps29
      go_wp2
      go_ret
      exact ⟨by rw [HP.out]; rfl, rfl⟩
  · have HP := Lib.hid (place_no (fun h => h0 h.1))
    go_enter Tryz.func29, Tryz.ntmps29
    go_wp2
    go_ret
    exact ⟨by rw [HP.out]; rfl, rfl⟩
set_option maxHeartbeats 2000000 in
theorem load_any {w : World} {v : Value} {m : M} (h : ReadsM w v m) (a : Int) : Calls Tryz.prog 24 #[v, .int .i64 a] w (Says (.int .i64 (ld m a)) w) := by
  obtain ⟨vs, vb, vm, rfl, -, -, hm⟩ := h
  obtain ⟨ip, hh, st, bk, me, ou, inn, rd, stt, cd⟩ := m
  simp only at hm ⊢
  obtain ⟨mo, n3, c3, rfl⟩ := reads_known hm
  obtain ⟨w1, g, hw1, hg, HG, HB, HZ⟩ := newBox w (cells10 ip hh vs vb (.slice mo n3 c3) ou inn rd stt cd) 24
  have hl : n3 = me.length := by obtain ⟨⟨_, _, e, _⟩, _⟩ := hm; simp only [Value.slice.injEq] at e; exact e.2.1
  subst hl
  have c4 : w1.cell? ⟨g, 4, none⟩ = some (.slice mo me.length c3) := whole_cell HG.out rfl
  have HM := Lib.hid (hm.1.below HB.out)
  obtain ⟨N, hN⟩ : ∃ N, me.length = N := ⟨_, rfl⟩
  rw [hN] at c4 HM
  rw [hN] at hw1
  clear hm
  by_cases h0 : a < 0
  · have HL := Lib.hid (show ld ⟨ip, hh, st, bk, me, ou, inn, rd, stt, cd⟩ a = 0 by unfold ld; rw [if_pos (.inl h0)])
    rw [hN]
    clear hN
    go_enter Tryz.func24, Tryz.ntmps24
    go_wp2
    go_ret
    exact ⟨by rw [HL.out]; rfl, HB.out⟩
  · by_cases h1 : (N : Int) ≤ a
    · have HL := Lib.hid (show ld ⟨ip, hh, st, bk, me, ou, inn, rd, stt, cd⟩ a = 0 by unfold ld; rw [if_pos (.inr (by show (me.length : Int) ≤ a; rw [hN]; exact h1))])
      rw [hN]
      clear hN
      go_enter Tryz.func24, Tryz.ntmps24
      go_wp2
      go_ret
      exact ⟨by rw [HL.out]; rfl, HB.out⟩
    · obtain ⟨k, rfl⟩ : ∃ k : Nat, a = (k : Int) := ⟨a.toNat, by omega⟩
      have hk : k < me.length := by omega
      obtain ⟨x, hx⟩ : ∃ x, me[k]? = some x := ⟨_, List.getElem?_eq_getElem hk⟩
      have HL := Lib.hid (show ld ⟨ip, hh, st, bk, me, ou, inn, rd, stt, cd⟩ (k : Int) = x by
        unfold ld
        rw [if_neg (by show ¬ ((k : Int) < 0 ∨ (me.length : Int) ≤ (k : Int)); omega)]
        show me.getD (k : Int).toNat 0 = x
        rw [Int.toNat_natCast, List.getD_eq_getElem?_getD, hx]; rfl)
      obtain ⟨ao, ac, e, hc⟩ := HM.out
      rw [hN] at e
      simp only [Value.slice.injEq, true_and] at e
      obtain ⟨rfl, rfl⟩ := e
      obtain ⟨ad, rfl, k1⟩ := hc k x hx
      have z1 : (k : Int) < (N : Int) := by omega
      have z0 : (0 : Int) ≤ (k : Int) := by omega
      rw [hN]
      clear hN hc hx hk
      go_enter Tryz.func24, Tryz.ntmps24
      go_wp2
      go_ret
      exact ⟨by rw [HL.out]; rfl, HB.out⟩
theorem last_any (x : S) (w : World) : Calls Tryz.prog 19 #[seenV x] w (Says (.int .i64 (lastOf x)) w) := by
  obtain ⟨x1, x2, x3, x4⟩ := x
  obtain ⟨w1, g, hw1, hg, HG, HB, HZ⟩ := newBox w (seenA (x1, x2, x3, x4)) 33
  have c0 : w1.cell? ⟨g, 0, none⟩ = some (.int .i64 x1) := whole_cell HG.out rfl
  have c1 : w1.cell? ⟨g, 1, none⟩ = some (.int .i64 x2) := whole_cell HG.out rfl
  have C := Lib.hid (opArg_same x2 w1)
  by_cases ha : argI x2 = true
  · have HL := Lib.hid (show lastOf (x1, x2, x3, x4) = wrap64 (x1 + 1) by unfold lastOf; rw [if_pos ha])
    rw [ha] at C
    clear ha
    go_enter Tryz.func19, Tryz.ntmps19
    go_wp2_with fail
    refine C.out.mono ?_
    rintro e wz ⟨rfl, hwz⟩
    subst wz
    go_wp2
    go_ret
    exact ⟨by rw [HL.out]; rfl, HB.out⟩
  · have ha' : argI x2 = false := by simpa using ha
    have HL := Lib.hid (show lastOf (x1, x2, x3, x4) = x1 by unfold lastOf; rw [if_neg ha])
    rw [ha'] at C
    clear ha ha'
    go_enter Tryz.func19, Tryz.ntmps19
    go_wp2_with fail
    refine C.out.mono ?_
    rintro e wz ⟨rfl, hwz⟩
    subst wz
    go_wp2
    go_ret
    exact ⟨by rw [HL.out]; rfl, HB.out⟩
end Go.Proofs.YtlomfmilohbgpaaGreatDoor.Rec
