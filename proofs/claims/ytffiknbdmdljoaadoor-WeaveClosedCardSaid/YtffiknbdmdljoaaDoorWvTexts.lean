
/- WeaveClosed: the words that close what was opened, as a list of texts of one's own, beside a weave. -/
import Derived.Test.YtffiknbdmdljoaaDoorWvState
import Derived.Test.YtffiknbdmdljoaaDoorWvClosed
import Derived.Test.YtffiknbdmdljoaaDoorBookTexts
namespace Go.Proofs.YtffiknbdmdljoaaDoor.Wv
open Go.RowKit Book Book.Wide Mem
set_option linter.unusedSimpArgs false
set_option linter.unusedVariables false
def txt (k : Nat) : ByteArray := if k = 1 then ⟨#[84, 72, 69, 78]⟩ else if k = 2 then ⟨#[84, 104, 101, 110]⟩ else if k = 3 then ⟨#[85, 78, 84, 73, 76]⟩ else if k = 4 then ⟨#[82, 69, 80, 69, 65, 84]⟩ else ⟨#[76, 79, 79, 80]⟩
theorem txt_size (k : Nat) : (txt k).size ≤ 6 := by
  unfold txt
  repeat' split
  all_goals decide
theorem word_txt : word (txt 1) = 3 ∧ word (txt 2) = 3 ∧ word (txt 3) = 5 ∧ word (txt 4) = 8 ∧ word (txt 5) = 10 := by decide +kernel
theorem words_open : word ⟨#[73, 70]⟩ = 1 ∧ word ⟨#[66, 69, 71, 73, 78]⟩ = 4 ∧ word ⟨#[68, 79]⟩ = 9 ∧ word ⟨#[87, 72, 73, 76, 69]⟩ = 7 ∧ word ⟨#[69, 76, 83, 69]⟩ = 2 := by decide +kernel
/-- what is open may be closed -/
theorem Lay.close {b i k : Nat} {os : List Nat} {m : M} (h : Lay b i (k :: os) m) (hi : i ≤ 200) (hb : b ≤ 100) : Goes b i os (form (word (txt k)) m) ∧ (k = 4 ∨ k = 1 ∨ k = 2 ∨ k = 3 ∨ k = 5) := by
  have ho := h.opens
  have hk : k = 4 ∨ k = 1 ∨ k = 2 ∨ k = 3 ∨ k = 5 := by
    unfold Opens at ho
    split at ho
    · rename_i e; exact .inl e
    · exact .inr ho.1
  refine ⟨?_, hk⟩
  rcases hk with rfl | rfl | rfl | rfl | rfl
  · rw [word_txt.2.2.2.1]; exact h.close4 hi hb
  · rw [word_txt.1]; exact h.close1 (.inl rfl)
  · rw [word_txt.2.1]; exact h.close1 (.inr rfl)
  · rw [word_txt.2.2.1]; exact h.close3 hi hb
  · rw [word_txt.2.2.2.2]; exact h.close5 hi hb
theorem Lay.l_le {b i : Nat} {os : List Nat} {m : M} (h : Lay b i os m) : m.l.length ≤ 2 * os.length := by
  have : ∀ (os : List Nat) (l : List (Nat × Nat)), Opens os l → l.length ≤ 2 * os.length := by
    intro os
    induction os with
    | nil => intro l h; unfold Opens at h; subst h; exact Nat.le_refl _
    | cons k r ih =>
      intro l h
      unfold Opens at h
      split at h
      · obtain ⟨a, c, l', rfl, h2⟩ := h
        have := ih l' h2
        simp only [List.length_cons]; omega
      · obtain ⟨_, a, l', rfl, h2⟩ := h
        have := ih l' h2
        simp only [List.length_cons]; omega
  exact this os m.l h.opens
/-- the texts, the first one that was opened first -/
def strs (os : List Nat) : List Value := os.reverse.map fun k => .string (txt k)
theorem strs_len (os : List Nat) : (strs os).length = os.length := by unfold strs; rw [List.length_map, List.length_reverse]
theorem strs_cons (k : Nat) (os : List Nat) : strs (k :: os) = strs os ++ [.string (txt k)] := by unfold strs; rw [List.reverse_cons, List.map_append]; rfl
theorem strs_top (k c : Nat) (os : List Nat) : (strs (k :: os)).set os.length (.string (txt c)) = strs (c :: os) := by
  rw [strs_cons, strs_cons, List.set_append_right _ _ (by rw [strs_len]; exact Nat.le_refl _), strs_len, Nat.sub_self]
  rfl
theorem strs_at {os : List Nat} {j k : Nat} (h : os[os.length - 1 - j]? = some k) (hj : j < os.length) : (strs os)[j]? = some (.string (txt k)) := by
  unfold strs
  rw [List.getElem?_map, List.getElem?_reverse hj, h]
  rfl
section
variable {W w w' : World} {p gm : Nat} {bs : List Nat} {m : M} {vo : Value} {xs : List Value}
theorem WAt.types {B : Nat} (h : WAt w B p gm bs m) : ∀ k ∈ bs, ∃ cur E, w.heap[k]? = some (.cells cur E (0, 0)) ∧ E ≠ 9 := by
  obtain ⟨v, h1, h2, rfl⟩ := h.box
  intro k hk
  rcases List.mem_cons.1 hk with rfl | hk
  · exact ⟨_, _, h1, by decide⟩
  rcases List.mem_cons.1 hk with rfl | hk
  · exact ⟨_, _, h.cells, by decide⟩
  · obtain ⟨_, _, cur, hc⟩ := h2.block k (by simpa using hk)
    exact ⟨cur, _, hc, by decide⟩
theorem WAt.str_off {B B' : Nat} (h : WAt w B p gm bs m) (ho : Owns w B' 9 vo xs) : ∀ k, blk vo = some k → k ∉ bs := by
  intro k hk hm
  obtain ⟨_, _, cur, hc⟩ := ho.block k hk
  obtain ⟨cur', E, hc', hE⟩ := h.types k hm
  rw [hc] at hc'
  simp only [Option.some.injEq, Obj.cells.injEq] at hc'
  exact hE hc'.2.1.symm
theorem WSt.str (h : WSt W w p m) (ho : Owns w W.heap.size 9 vo xs) (hs : Stirred w w' (blk vo).toList) : WSt W w' p m := by
  obtain ⟨gm, bs, hA⟩ := h.way
  refine ⟨⟨gm, bs, hA.touch hs (fun k hk hm => hA.str_off ho k (by simpa using hm) hk)⟩, h.below.trans (hs.below (fun k hk => (ho.block k (by simpa using hk)).1) h.below.size), h.names⟩
theorem c_form (h : WSt W w p m) (ho : Owns w W.heap.size 9 vo xs) (s : ByteArray) (hs : s.size ≤ 1000) (hl : m.l.length < 1000) : Calls Tryd.prog 16 #[.pointer (some ⟨p, 0, none⟩), .string s] w fun e w' => e = .returned (.int .i64 (form (word s) m).1) ∧ WSt W w' p (form (word s) m).2 ∧ Owns w' W.heap.size 9 vo xs := by
  obtain ⟨gm, bs, hA⟩ := h.way
  exact (d_form hA h.below h.names s hs hl).mono fun e w' hd => ⟨hd.1, hd.2.st, ho.touch hd.2.stir (hA.str_off ho)⟩
theorem c_op (h : WSt W w p m) (ho : Owns w W.heap.size 9 vo xs) (a : Int) : Calls Tryd.prog 10 #[.pointer (some ⟨p, 0, none⟩), .int .i64 a] w fun e w' => e = .returned (.int .i64 (op a m).1) ∧ WSt W w' p (op a m).2 ∧ Owns w' W.heap.size 9 vo xs := by
  obtain ⟨gm, bs, hA⟩ := h.way
  exact (d_op hA h.below h.names a).mono fun e w' hd => ⟨hd.1, hd.2.st, ho.touch hd.2.stir (hA.str_off ho)⟩
/-- a text's box -/
theorem text_box (w : World) (s : ByteArray) : ∃ w2 g, w.alloc (.cells #[.string s] 9) = w2 ∧ w.heap.size = g ∧ (∀ j u, [Value.string s][j]? = some u → w2.cell? ((⟨g, 0, none⟩ : Addr).add j) = some u) ∧ Below w.heap.size w w2 :=
  ⟨_, _, rfl, rfl, fun j u hu => by rw [add_row]; exact whole_cell (heap_alloc_new w _) (by simpa using hu), (Below.refl w.heap.size w).alloc (Nat.le_refl _) _⟩
end
/-- a weave, and the texts of what is open -/
structure CS (W w : World) (p b i : Nat) (os : List Nat) (vo : Value) : Prop where
  way : ∃ m, WSt W w p m ∧ Lay b i os m
  str : Owns w W.heap.size 9 vo (strs os)
end Go.Proofs.YtffiknbdmdljoaaDoor.Wv
