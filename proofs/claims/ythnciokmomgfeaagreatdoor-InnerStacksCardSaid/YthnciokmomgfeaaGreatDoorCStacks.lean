/- What is proved: hollowaylaw9.InnerStacks answers true for every input, and its arguments read afterwards as before; the listed package variables start as the program's text lays them (the card ties them). -/
import Derived.Test.YthnciokmomgfeaaGreatDoorG26
import Derived.Deep.LoopGhost
import Derived.Test.YthnciokmomgfeaaGreatDoorRows
import Derived.Test.YthnciokmomgfeaaGreatDoorCards
import Derived.Test.YthnciokmomgfeaaGreatDoorTie
import Derived.WalkKit
import Derived.ProofKit
import Derived.OpenShut
import Derived.ChangeSame
import Derived.ChangeVars
import Derived.JoinedOf
import Derived.RowKitTokens
import Derived.LaidLaws
import Derived.LaidHandle
import Derived.Stop.Joined
import Derived.SevenTiedAt
import Derived.Carry
import Derived.Test.YthnciokmomgfeaaGreatDoorG25
/- InnerStacks' codes and what they come to; no code of the program in sight. -/
namespace Go.Proofs.YthnciokmomgfeaaGreatDoor.Mach
open Go.RowKit (wrap64)
open Go.Proofs.YthnciokmomgfeaaGreatDoor.Inn
set_option linter.unusedVariables false
set_option linter.unusedSimpArgs false
/-- so many operations stand in a code -/
inductive Counts : List Int → Nat → Prop
  | nil : Counts [] 0
  | op (x : Int) (r : List Int) (n : Nat) : x ≠ 2 → Counts r n → Counts (x :: r) (n + 1)
  | lit (y : Int) (r : List Int) (n : Nat) : Counts r n → Counts (2 :: y :: r) (n + 1)
def codes (b : Int) : List (List Int) := [[8, 8], [10, 10, 10], [6, 7], [9, 7], [33, 34], [16, 16], [20, 20], [2, b, 7], [33, 35, 34, 7], [9, 9, 7, 7]]
theorem plain_as {cd p bk : List Int} {a b c : Int} (hp : p.length ≤ 30) : plainM cd (p ++ [a, b, c]) bk = T (plainX ⟨#[]⟩ (plainMem cd)) 200 (p ++ [a] ++ [b] ++ [c]) (bk.take 40) := by
  unfold plainM
  rw [List.take_of_length_le (by simp; omega)]
  simp
/-- all is as it was, but for the place -/
theorem stacks_run {p bk : List Int} {a b c : Int} (hp : p.length ≤ 30) (hb : Cell.In b) (hc : Cell.In c) {cd : List Int} (h : cd ∈ codes b) :
    ∃ n, Counts cd n ∧ n ≤ 4 ∧ cd.length ≤ 4 ∧ 0 < cd.length ∧ (∀ z ∈ cd, Cell.In z) ∧ run n (plainM cd (p ++ [a, b, c]) bk) = ({ plainM cd (p ++ [a, b, c]) bk with ip := 200 + (cd.length : Int) }, 0) := by
  have hk : (bk.take 40).length ≤ 40 := by rw [List.length_take]; omega
  have nm : ∀ {l : List Int}, (∀ z ∈ l, -100 ≤ z ∧ z ≤ 100) → ∀ z ∈ l, Cell.In z := fun h z hz => by have := h z hz; unfold Cell.In; omega
  simp only [codes, List.mem_cons, List.not_mem_nil, or_false] at h
  rcases h with rfl | rfl | rfl | rfl | rfl | rfl | rfl | rfl | rfl | rfl <;> rw [plain_as hp]
  · exact ⟨2, .op _ _ _ (by decide) (.op _ _ _ (by decide) .nil), by decide, by decide, by decide, nm (by decide), stays_swap hp hk⟩
  · exact ⟨3, .op _ _ _ (by decide) (.op _ _ _ (by decide) (.op _ _ _ (by decide) .nil)), by decide, by decide, by decide, nm (by decide), stays_rot hp hk⟩
  · exact ⟨2, .op _ _ _ (by decide) (.op _ _ _ (by decide) .nil), by decide, by decide, by decide, nm (by decide), stays_dup hp hk⟩
  · exact ⟨2, .op _ _ _ (by decide) (.op _ _ _ (by decide) .nil), by decide, by decide, by decide, nm (by decide), stays_over hp hk⟩
  · exact ⟨2, .op _ _ _ (by decide) (.op _ _ _ (by decide) .nil), by decide, by decide, by decide, nm (by decide), stays_back hp hk⟩
  · exact ⟨2, .op _ _ _ (by decide) (.op _ _ _ (by decide) .nil), by decide, by decide, by decide, nm (by decide), stays_neg hp hk hc⟩
  · exact ⟨2, .op _ _ _ (by decide) (.op _ _ _ (by decide) .nil), by decide, by decide, by decide, nm (by decide), stays_inv hp hk⟩
  · refine ⟨2, .lit _ _ _ (.op _ _ _ (by decide) .nil), by decide, by simp, by simp, ?_, stays_lit hp hk⟩
    intro z hz
    simp only [List.mem_cons, List.not_mem_nil, or_false] at hz
    rcases hz with rfl | rfl | rfl <;> first | exact hb | (unfold Cell.In; omega)
  · exact ⟨4, .op _ _ _ (by decide) (.op _ _ _ (by decide) (.op _ _ _ (by decide) (.op _ _ _ (by decide) .nil))), by decide, by decide, by decide, nm (by decide), stays_at hp hk⟩
  · exact ⟨4, .op _ _ _ (by decide) (.op _ _ _ (by decide) (.op _ _ _ (by decide) (.op _ _ _ (by decide) .nil))), by decide, by decide, by decide, nm (by decide), stays_two hp hk⟩
/-- what is left to count behind the first operation -/
theorem Counts.next {l : List Int} {m : Nat} {k : Nat} {x : Int} (h : Counts (l.drop k) m) (hx : l[k]? = some x) : ∃ n, m = n + 1 ∧ ((x ≠ 2 ∧ Counts (l.drop (k + 1)) n) ∨ (x = 2 ∧ k + 2 ≤ l.length ∧ Counts (l.drop (k + 2)) n)) := by
  have hk := (List.getElem?_eq_some_iff.1 hx).1
  have e : l.drop k = x :: l.drop (k + 1) := by
    rw [List.drop_eq_getElem_cons hk]
    congr 1
    rw [List.getElem?_eq_getElem hk] at hx
    exact Option.some.inj hx
  rw [e] at h
  generalize hr : l.drop (k + 1) = r at h
  cases h with
  | op _ _ n h1 h2 => exact ⟨n, rfl, .inl ⟨h1, h2⟩⟩
  | lit y r' n h2 =>
    have hl : (l.drop (k + 1)).length = r'.length + 1 := by rw [hr]; rfl
    rw [List.length_drop] at hl
    refine ⟨n, rfl, .inr ⟨rfl, by omega, ?_⟩⟩
    rw [show k + 2 = (k + 1) + 1 by omega, ← List.drop_drop, hr]
    exact h2
theorem Counts.last {l : List Int} {m k : Nat} (h : Counts (l.drop k) m) (hk : l.length ≤ k) : m = 0 := by
  rw [List.drop_eq_nil_of_le hk] at h
  cases h
  rfl
end Go.Proofs.YthnciokmomgfeaaGreatDoor.Mach
/- InnerStacks: the walk (written by genstacks.py). -/
namespace Go.Proofs.YthnciokmomgfeaaGreatDoor.InnerStacks
open Go.RowKit Book Mem Mach Inn
set_option linter.unusedVariables false
set_option linter.unusedSimpArgs false
/-- what lies in the codes' row -/
def Row (w : World) (B gS : Nat) (b : Int) : Prop := ∀ i, i < 10 → ∃ cd g, cd ∈ codes b ∧ w.cell? ⟨gS, i, none⟩ = some (.slice (some ⟨g, 0, none⟩) cd.length cd.length) ∧ Owns w B 3 (.slice (some ⟨g, 0, none⟩) cd.length cd.length) (vals cd)
theorem Row.below {w w' : World} {B gS : Nat} {b : Int} (h : Row w B gS b) (hb : Below w.heap.size w w') : Row w' B gS b := fun i hi => by
  obtain ⟨cd, g, h1, h2, h3⟩ := h i hi
  exact ⟨cd, g, h1, (Stirred.of_below hb []).cell List.not_mem_nil h2, h3.below hb⟩
set_option maxHeartbeats 16000000 in
set_option maxRecDepth 100000 in
theorem main (vs : Value) (st : List Int) (vb : Value) (bk : List Int) (a b c : Int) (W : World) (h1 : ReadsC W vs st ∧ ∀ x ∈ st, (Lit.int .i64 x).wf = true) (h2 : ReadsC W vb bk ∧ ∀ x ∈ bk, (Lit.int .i64 x).wf = true) (ha : (Lit.int .i64 a).wf = true) (hbb : (Lit.int .i64 b).wf = true) (hcc : (Lit.int .i64 c).wf = true) (hE : ∀ wc, Below W.heap.size W wc → Tabs wc) :
    Calls Tryz.prog 7 #[vs, vb, .int .i64 a, .int .i64 b, .int .i64 c] W (Yes W) := by
  have HE := Lib.hid hE
  have A := Lib.hid (alive_any W hE)
  obtain ⟨i0, HI1, HI2, HI3, HI4⟩ := int_facts
  have HI := Lib.hid (And.intro HI1 (And.intro HI2 (And.intro HI3 HI4)))
  clear HI1 HI2 HI3 HI4
  have hia := Cell.in_of_wf ha
  have hib := Cell.in_of_wf hbb
  have hic := Cell.in_of_wf hcc
  have HS := Lib.hid h1.1
  have HK := Lib.hid h2.1
  have hst : ∀ x ∈ st, Cell.In x := fun x hx => Cell.in_of_wf (h1.2 x hx)
  have hbk : ∀ x ∈ bk, Cell.In x := fun x hx => Cell.in_of_wf (h2.2 x hx)
  obtain ⟨so, sc, rfl, hsc⟩ := h1.1.2
  obtain ⟨n, hn⟩ : ∃ n, st.length = n := ⟨_, rfl⟩
  obtain ⟨N, hN⟩ : ∃ N, min n 30 = N := ⟨_, rfl⟩
  obtain ⟨p, hp⟩ : ∃ p, (st.take N).drop 0 = p := ⟨_, rfl⟩
  have hpl : p.length = N := by rw [← hp, List.length_drop, List.length_take]; omega
  have hpi : ∀ x ∈ p, Cell.In x := fun x hx => hst x (List.mem_of_mem_take (List.mem_of_mem_drop (by rw [hp]; exact hx)))
  obtain ⟨L, hL⟩ : ∃ L, p ++ [a, b, c] = L := ⟨_, rfl⟩
  obtain ⟨M, hM⟩ : ∃ M, N + 3 = M := ⟨_, rfl⟩
  have hLl : L.length = M := by rw [← hL, List.length_append, hpl, ← hM]; rfl
  have hM33 : M ≤ 33 := by omega
  have hLi : ∀ x ∈ L, Cell.In x := by
    intro x hx
    rw [← hL, List.mem_append] at hx
    rcases hx with hx | hx
    · exact hpi x hx
    · simp only [List.mem_cons, List.not_mem_nil, or_false] at hx
      rcases hx with rfl | rfl | rfl <;> assumption
  have HRUN := Lib.hid (fun (cd : List Int) (h : cd ∈ codes b) => hL ▸ stacks_run (bk := bk) (a := a) (show p.length ≤ 30 by omega) hib hic h)
  have HL := Lib.hid (And.intro hLl (And.intro hLi (And.intro hbk (And.intro hL (And.intro hpl hp)))))
  have m1 : min (n : Int) 30 = (N : Int) := by omega
  have HNN := Lib.hid (show N ≤ st.length ∧ N ≤ 30 by omega)
  rw [hn] at HS hsc ⊢
  clear h1 h2 ha hbb hcc hE hst hbk hpi hLi hLl hL hpl hp hM33 hN hn hia hib hic hsc
  go_enter Tryz.func7, Tryz.ntmps7
  go_wp2_with fail
  refine A.out.mono ?_
  rintro e w1 ⟨rfl, hb⟩
  have HB1 := Lib.hid hb
  have HS1 := Lib.hid (HS.out.below hb)
  clear hb A HS
  go_upto_region 4 with (first
    | (refine wpList_slice_part (o := ⟨_, Op.slice _ _ _ _ none, _, _, _, _⟩) (by rfl) _ _ _ _ rfl 3 Tryz.underlying22 Tryz.sizeOf3 _ st rfl HS1.out 0 N (.inr ⟨rfl, rfl⟩) (.inl rfl) (Nat.zero_le _) HNN.out.1 ?_; intro y hy; rw [HL.out.2.2.2.2.2] at hy; have HY := Lib.hid hy; clear hy)
    | (refine wpList_append_reads _ rfl _ _ 22 rfl w1.heap.size 3 i0 (.int .i64 0) 8 Tryz.underlying22 HI.out.1 HI.out.2.1 HI.out.2.2.1 HI.out.2.2.2 rfl (.slice none 0 0) [] rfl (Owns.nil _ _ _) y p rfl HY.out.1 (by have h := HL.out.2.2.2.2.1; have := HNN.out.2; unfold maxLen; simp; omega) (by have h := HL.out.2.2.2.2.1; have := HNN.out.2; simp; omega) (Nat.le_refl _) ?_; intro v1 w2 ho _ ht hn; obtain ⟨w3, gl, hw3, hgl, HLB, HBL, HGL⟩ := new_box w2 #[.int .i64 a, .int .i64 b, .int .i64 c] 3; have HB2 := Lib.hid (HB1.out.trans ((ht.below (B := w1.heap.size) (fun _ h => by cases h) (Nat.le_refl _)).mono HB1.out.size)); have HB3 := Lib.hid (HB2.out.trans (HBL.out.mono HB2.out.size)); have HV1 := Lib.hid (show Owns w3 w1.heap.size 3 v1 (vals p) from (show Owns w2 w1.heap.size 3 v1 (vals p) from ho).below HBL.out); have HLT := Lib.hid (owns_lit (n := 3) HLB.out [a, b, c] rfl rfl (by decide) (Nat.le_refl _) (by decide)); have HSZ := Lib.hid (Nat.le_trans ht.size HBL.out.size); clear ho ht hn HLB HBL HGL)
    | (refine wpList_append_reads _ rfl _ _ 22 rfl w1.heap.size 3 i0 (.int .i64 0) 8 Tryz.underlying22 HI.out.1 HI.out.2.1 HI.out.2.2.1 HI.out.2.2.2 rfl v1 (vals p) rfl HV1.out (.slice (some ⟨gl, 0, none⟩) 3 3) [a, b, c] rfl (Reads.of_owns HLT.out) (by have h := HL.out.2.2.2.2.1; have := HNN.out.2; rw [vals_length]; unfold maxLen; simp; omega) (by have h := HL.out.2.2.2.2.1; have := HNN.out.2; rw [vals_length]; simp; omega) HSZ.out ?_; intro v2 w4 ho _ ht hn; have HB4 := Lib.hid (HB3.out.trans ((ht.below (B := w1.heap.size) (fun k hk => (HV1.out.block k (by simpa using hk)).1) HSZ.out).mono HB1.out.size)); have HV2 := Lib.hid (show Owns w4 w1.heap.size 3 v2 (vals L) by have h9 := HL.out.2.2.2.1; rw [← h9, vals, List.map_append]; exact ho); clear ho ht hn))
  obtain ⟨lo, lc, e2⟩ := HV2.out.slice
  rw [vals_length, HL.out.1] at e2
  subst e2
  clear hw3 hgl HV1 HLT HSZ HB2 HB3 HY
  obtain ⟨c0, g0, hc0, hg0, HQ0, HD0, HG0⟩ := new_box w4 #[.int .i64 8, .int .i64 8] 3
  obtain ⟨c1, g1, hc1, hg1, HQ1, HD1, HG1⟩ := new_box c0 #[.int .i64 10, .int .i64 10, .int .i64 10] 3
  obtain ⟨c2, g2, hc2, hg2, HQ2, HD2, HG2⟩ := new_box c1 #[.int .i64 6, .int .i64 7] 3
  obtain ⟨c3, g3, hc3, hg3, HQ3, HD3, HG3⟩ := new_box c2 #[.int .i64 9, .int .i64 7] 3
  obtain ⟨c4, g4, hc4, hg4, HQ4, HD4, HG4⟩ := new_box c3 #[.int .i64 33, .int .i64 34] 3
  obtain ⟨c5, g5, hc5, hg5, HQ5, HD5, HG5⟩ := new_box c4 #[.int .i64 16, .int .i64 16] 3
  obtain ⟨c6, g6, hc6, hg6, HQ6, HD6, HG6⟩ := new_box c5 #[.int .i64 20, .int .i64 20] 3
  obtain ⟨c7, g7, hc7, hg7, HQ7, HD7, HG7⟩ := new_box c6 #[.int .i64 2, .int .i64 b, .int .i64 7] 3
  obtain ⟨c8, g8, hc8, hg8, HQ8, HD8, HG8⟩ := new_box c7 #[.int .i64 33, .int .i64 35, .int .i64 34, .int .i64 7] 3
  obtain ⟨c9, g9, hc9, hg9, HQ9, HD9, HG9⟩ := new_box c8 #[.int .i64 9, .int .i64 9, .int .i64 7, .int .i64 7] 3
  obtain ⟨cS, gS, hcS, hgS, HQS, HDS, HGS⟩ := new_box c9 #[.slice (some ⟨g0, 0, none⟩) 2 2, .slice (some ⟨g1, 0, none⟩) 3 3, .slice (some ⟨g2, 0, none⟩) 2 2, .slice (some ⟨g3, 0, none⟩) 2 2, .slice (some ⟨g4, 0, none⟩) 2 2, .slice (some ⟨g5, 0, none⟩) 2 2, .slice (some ⟨g6, 0, none⟩) 2 2, .slice (some ⟨g7, 0, none⟩) 3 3, .slice (some ⟨g8, 0, none⟩) 4 4, .slice (some ⟨g9, 0, none⟩) 4 4] 22
  have T9 := Lib.hid HDS.out
  have T8 := Lib.hid (HD9.out.trans (T9.out.mono HD9.out.size))
  have T7 := Lib.hid (HD8.out.trans (T8.out.mono HD8.out.size))
  have T6 := Lib.hid (HD7.out.trans (T7.out.mono HD7.out.size))
  have T5 := Lib.hid (HD6.out.trans (T6.out.mono HD6.out.size))
  have T4 := Lib.hid (HD5.out.trans (T5.out.mono HD5.out.size))
  have T3 := Lib.hid (HD4.out.trans (T4.out.mono HD4.out.size))
  have T2 := Lib.hid (HD3.out.trans (T3.out.mono HD3.out.size))
  have T1 := Lib.hid (HD2.out.trans (T2.out.mono HD2.out.size))
  have T0 := Lib.hid (HD1.out.trans (T1.out.mono HD1.out.size))
  have TB := Lib.hid (HD0.out.trans (T0.out.mono HD0.out.size))
  have HB5 := Lib.hid (HB4.out.trans (TB.out.mono HB4.out.size))
  have LE0 : w4.heap.size ≤ c0.heap.size := HD0.out.size
  have LE1 : w4.heap.size ≤ c1.heap.size := Nat.le_trans LE0 HD1.out.size
  have LE2 : w4.heap.size ≤ c2.heap.size := Nat.le_trans LE1 HD2.out.size
  have LE3 : w4.heap.size ≤ c3.heap.size := Nat.le_trans LE2 HD3.out.size
  have LE4 : w4.heap.size ≤ c4.heap.size := Nat.le_trans LE3 HD4.out.size
  have LE5 : w4.heap.size ≤ c5.heap.size := Nat.le_trans LE4 HD5.out.size
  have LE6 : w4.heap.size ≤ c6.heap.size := Nat.le_trans LE5 HD6.out.size
  have LE7 : w4.heap.size ≤ c7.heap.size := Nat.le_trans LE6 HD7.out.size
  have LE8 : w4.heap.size ≤ c8.heap.size := Nat.le_trans LE7 HD8.out.size
  have LE9 : w4.heap.size ≤ c9.heap.size := Nat.le_trans LE8 HD9.out.size
  have HROW : Hid (Row cS w4.heap.size gS b) := Lib.hid (by
    intro i hi
    match i, hi with
    | 0, _ => exact ⟨[8, 8], g0, by simp [codes], whole_cell HQS.out rfl, (owns_lit (B := w4.heap.size) (n := 2) (box_on HQ0.out T0.out) [8, 8] rfl rfl (by decide) (by have q := HG0.out; have z := (show w4.heap.size ≤ w4.heap.size from Nat.le_refl _); omega) (by decide))⟩
    | 1, _ => exact ⟨[10, 10, 10], g1, by simp [codes], whole_cell HQS.out rfl, (owns_lit (B := w4.heap.size) (n := 3) (box_on HQ1.out T1.out) [10, 10, 10] rfl rfl (by decide) (by have q := HG1.out; have z := (show w4.heap.size ≤ c0.heap.size from LE0); omega) (by decide))⟩
    | 2, _ => exact ⟨[6, 7], g2, by simp [codes], whole_cell HQS.out rfl, (owns_lit (B := w4.heap.size) (n := 2) (box_on HQ2.out T2.out) [6, 7] rfl rfl (by decide) (by have q := HG2.out; have z := (show w4.heap.size ≤ c1.heap.size from LE1); omega) (by decide))⟩
    | 3, _ => exact ⟨[9, 7], g3, by simp [codes], whole_cell HQS.out rfl, (owns_lit (B := w4.heap.size) (n := 2) (box_on HQ3.out T3.out) [9, 7] rfl rfl (by decide) (by have q := HG3.out; have z := (show w4.heap.size ≤ c2.heap.size from LE2); omega) (by decide))⟩
    | 4, _ => exact ⟨[33, 34], g4, by simp [codes], whole_cell HQS.out rfl, (owns_lit (B := w4.heap.size) (n := 2) (box_on HQ4.out T4.out) [33, 34] rfl rfl (by decide) (by have q := HG4.out; have z := (show w4.heap.size ≤ c3.heap.size from LE3); omega) (by decide))⟩
    | 5, _ => exact ⟨[16, 16], g5, by simp [codes], whole_cell HQS.out rfl, (owns_lit (B := w4.heap.size) (n := 2) (box_on HQ5.out T5.out) [16, 16] rfl rfl (by decide) (by have q := HG5.out; have z := (show w4.heap.size ≤ c4.heap.size from LE4); omega) (by decide))⟩
    | 6, _ => exact ⟨[20, 20], g6, by simp [codes], whole_cell HQS.out rfl, (owns_lit (B := w4.heap.size) (n := 2) (box_on HQ6.out T6.out) [20, 20] rfl rfl (by decide) (by have q := HG6.out; have z := (show w4.heap.size ≤ c5.heap.size from LE5); omega) (by decide))⟩
    | 7, _ => exact ⟨[2, b, 7], g7, by simp [codes], whole_cell HQS.out rfl, (owns_lit (B := w4.heap.size) (n := 3) (box_on HQ7.out T7.out) [2, b, 7] rfl rfl (by decide) (by have q := HG7.out; have z := (show w4.heap.size ≤ c6.heap.size from LE6); omega) (by decide))⟩
    | 8, _ => exact ⟨[33, 35, 34, 7], g8, by simp [codes], whole_cell HQS.out rfl, (owns_lit (B := w4.heap.size) (n := 4) (box_on HQ8.out T8.out) [33, 35, 34, 7] rfl rfl (by decide) (by have q := HG8.out; have z := (show w4.heap.size ≤ c7.heap.size from LE7); omega) (by decide))⟩
    | 9, _ => exact ⟨[9, 9, 7, 7], g9, by simp [codes], whole_cell HQS.out rfl, (owns_lit (B := w4.heap.size) (n := 4) (box_on HQ9.out T9.out) [9, 9, 7, 7] rfl rfl (by decide) (by have q := HG9.out; have z := (show w4.heap.size ≤ c8.heap.size from LE8); omega) (by decide))⟩
    | n + 10, h => exact absurd h (by omega))
  have HV5 := Lib.hid (HV2.out.below TB.out)
  clear LE0 HQ0 HD0 HG0 T0 LE1 HQ1 HD1 HG1 T1 LE2 HQ2 HD2 HG2 T2 LE3 HQ3 HD3 HG3 T3 LE4 HQ4 HD4 HG4 T4 LE5 HQ5 HD5 HG5 T5 LE6 HQ6 HD6 HG6 T6 LE7 HQ7 HD7 HG7 T7 LE8 HQ8 HD8 HG8 T8 LE9 HQ9 HD9 HG9 T9 HQS HDS HGS TB HV2 HB4
  go_wp2_with fail
  go_loopg [45] 10 (fun z f wr => ∃ i : Nat, z = 10 - i ∧ i ≤ 10 ∧ f = .int .i64 i ∧ Hid (Below cS.heap.size cS wr))
  case atStart => exact ⟨0, rfl, by decide, rfl, Below.refl _ _⟩
  case round =>
    obtain ⟨i, rfl, hi, rfl, HW⟩ := hrel
    by_cases hlt : i < 10
    · have i0' : (0 : Int) ≤ (i : Int) := Int.natCast_nonneg _
      have i1' : (i : Int) < 10 := by omega
      obtain ⟨cd, g, hcd, hgc, hown⟩ := HROW.out i hlt
      obtain ⟨nn, hcnt, hn4, hl4, hl0, hin, hrun⟩ := HRUN.out cd hcd
      obtain ⟨K, hK⟩ : ∃ K, cd.length = K := ⟨_, rfl⟩
      obtain ⟨x, hx⟩ : ∃ x, plainM cd L bk = x := ⟨_, rfl⟩
      obtain ⟨y, hy⟩ : ∃ y, { plainM cd L bk with ip := 200 + (cd.length : Int) } = y := ⟨_, rfl⟩
      rw [hy, hx] at hrun
      have hxr : Right x := by rw [← hx]; exact plain_right _ _ _
      have hxc : Cells x := by rw [← hx]; exact plain_cells hin HL.out.2.1 HL.out.2.2.1
      have hxi : x.inp.size ≤ maxLen := by rw [← hx]; exact plain_inp _ _ _
      have hys : y.stack = L := by
        rw [← hy]
        show L.take 40 = L
        rw [List.take_of_length_le (by have := HL.out.1; have := HL.out.2.2.2.2.1; have := HNN.out.2; omega)]
      have hyb : y.back = x.back := by rw [← hy, ← hx]
      have hyp : y.ip = 200 + (K : Int) := by rw [← hy, ← hK]
      rw [hK] at hgc hown hl4 hl0
      have HX := Lib.hid (And.intro hx (And.intro hxr (And.intro hxc (And.intro hxi hrun))))
      have HY := Lib.hid (And.intro hys (And.intro hyb hyp))
      have HCD := Lib.hid (And.intro hcnt (And.intro hK (And.intro hl4 hn4)))
      have kc : wr.cell? ⟨gS, i, none⟩ = some (.slice (some ⟨g, 0, none⟩) K K) := (Stirred.of_below HW.out []).cell List.not_mem_nil hgc
      have HOC := Lib.hid (hown.below HW.out)
      have HBW := Lib.hid (HB5.out.trans (HW.out.mono HB5.out.size))
      have HVW := Lib.hid (HV5.out.below HW.out)
      have C := Lib.hid (plain_any (Reads.of_owns HOC.out) (ReadsC.of_owns HVW.out) (HK.out.below HBW.out))
      rw [HX.out.1] at C
      clear hcd hgc hown hcnt hn4 hin hx hy hxr hxc hxi hys hyb hyp hrun hK
      go_wp2_with fail
      refine C.out.mono ?_
      rintro e w3 hgm
      obtain ⟨s1, k1, s2, k2, s3, k3, rfl, ho, hb⟩ := GivesM.known hgm
      obtain ⟨w4', b4, hw4, hb4, HYB, HBn, HGB⟩ := new_box w3 (cells10 x.ip x.handler (.slice s1 x.stack.length k1) (.slice s2 x.back.length k2) (.slice s3 x.mem.length k3) x.out x.inp x.read x.status x.code) 24
      have hbb := hb.trans (HBn.out.mono hb.size)
      have HBW4 := Lib.hid (HBW.out.trans (hbb.mono HBW.out.size))
      have HW4 := Lib.hid (HW.out.trans (hbb.mono HW.out.size))
      have HO4 := Lib.hid (ho.below HBn.out)
      have HOC4 := Lib.hid (HOC.out.below hbb)
      have HVW4 := Lib.hid (HVW.out.below hbb)
      have R := Lib.hid (runs_any HO4.out.readsM HX.out.2.1 HX.out.2.2.1 HX.out.2.2.2.1 (fun wc hbc => HE.out wc (HBW4.out.trans (hbc.mono HBW4.out.size))) nn (by have := HCD.out.2.2.2; omega) HX.out.2.2.2.2)
      clear C ho hb hbb hgm HBn HGB kc HOC HVW
      go_wp2_with fail
      go_loopg [15, 16] K (fun z f h wx => ∃ k m q : Nat, z = K - k ∧ k ≤ K ∧ f = .int .i64 q ∧ h = .int .i64 k ∧ Hid (Counts (cd.drop k) m ∧ q + m = nn) ∧ wx = w4')
      case atStart => exact ⟨0, nn, 0, rfl, Nat.zero_le _, rfl, rfl, ⟨by rw [List.drop_zero]; exact HCD.out.1, by omega⟩, rfl⟩
      case round =>
        obtain ⟨k, m, q, rfl, hk, rfl, rfl, HC, rfl⟩ := hrel
        have hq4 : q ≤ 4 := by have := HC.out.2; have := HCD.out.2.2.2; omega
        by_cases hlk : k < K
        · have k0' : (0 : Int) ≤ (k : Int) := Int.natCast_nonneg _
          have k1' : (k : Int) < (K : Int) := by omega
          obtain ⟨z, hz⟩ : ∃ z, cd[k]? = some z := ⟨_, List.getElem?_eq_getElem (by rw [HCD.out.2.1]; exact hlk)⟩
          obtain ⟨g', eg, hcell⟩ := owns_cells HOC4.out (by rw [HCD.out.2.1]; omega)
          simp only [Option.some.injEq, Addr.mk.injEq, and_true] at eg
          have kz : wr.cell? ⟨g, k, none⟩ = some (.int .i64 z) := by rw [eg]; exact hcell k z hz
          obtain ⟨m', hm', hor⟩ := HC.out.1.next hz
          have HM := Lib.hid hm'
          have HZ := Lib.hid hor
          clear hcell eg hz hm' hor
          by_cases hz2 : z = 2
          · subst hz2
            go_wp2
            go_roundg (K - (k + 2))
            case measure => omega
            case rel =>
              rcases HZ.out with ⟨h, -⟩ | ⟨-, h1, h2⟩
              · exact absurd rfl h
              · rw [HCD.out.2.1] at h1
                exact ⟨k + 2, m', q + 1, rfl, h1, by go_num, by go_num, ⟨h2, by have := HC.out.2; have := HM.out; omega⟩, rfl⟩
          · go_wp2
            go_roundg (K - (k + 1))
            case measure => omega
            case rel =>
              rcases HZ.out with ⟨-, h⟩ | ⟨h, -, -⟩
              · exact ⟨k + 1, m', q + 1, rfl, by omega, by go_num, by go_num, ⟨h, by have := HC.out.2; have := HM.out; omega⟩, rfl⟩
              · exact absurd h hz2
        · obtain rfl : k = K := by omega
          have hm0 : m = 0 := HC.out.1.last (by rw [HCD.out.2.1]; omega)
          have hqn : q = nn := by have := HC.out.2; omega
          subst hqn
          clear hm0 HC
          have HQL := Lib.hid (show Reads wr (.slice lo M lc) L from Reads.of_owns HVW4.out)
          go_wp2_with (refine ld_state (by rfl) _ rfl _ rfl _ _ HYB.out rfl ?_)
          refine R.out.mono ?_
          rintro e w5 ⟨t1, d1, t2, d2, t3, d3, rfl, ho, hb⟩
          have hlM : y.stack.length = M := by rw [HY.out.1]; exact HL.out.1
          have hlB : y.back.length = x.back.length := by rw [HY.out.2.1]
          rw [hlM, hlB] at ho ⊢
          obtain ⟨w6, b6, hw6, hb6, HZB, HBn, HGZ⟩ := new_box w5 (cells10 y.ip y.handler (.slice t1 M d1) (.slice t2 x.back.length d2) (.slice t3 y.mem.length d3) y.out y.inp y.read y.status y.code) 24
          have hbb := hb.trans (HBn.out.mono hb.size)
          have HBW6 := Lib.hid (HBW4.out.trans (hbb.mono HBW4.out.size))
          have HW6 := Lib.hid (HW4.out.trans (hbb.mono HW4.out.size))
          have HS1' := Lib.hid (show Reads w6 (.slice t1 M d1) L by
            have := Reads.of_owns (ho.below HBn.out).st
            rw [HY.out.1] at this
            exact this)
          have HS2' := Lib.hid (show Reads w6 (.slice t2 x.back.length d2) x.back by
            have := Reads.of_owns (ho.below HBn.out).bk
            rw [HY.out.2.1] at this
            exact this)
          have HR1 := Lib.hid (HQL.out.below hbb)
          have HR2 := Lib.hid (show Reads w6 (.slice s2 x.back.length k2) x.back from Reads.of_owns (HO4.out.bk.below hbb))
          have hx40 : x.back.length ≤ 48 := HX.out.2.1.back
          have q1 := Lib.hid (sameReads_any (.slice t1 M d1) (.slice lo M lc) L w6 HS1'.out HR1.out (by have := HL.out.1; have := HL.out.2.2.2.2.1; have := HNN.out.2; omega))
          have F0 : w6.cell? ⟨b6, 0, none⟩ = some (.int .i64 y.ip) := whole_cell HZB.out rfl
          have F2 : w6.cell? ⟨b6, 2, none⟩ = some (.slice t1 M d1) := whole_cell HZB.out rfl
          have F3 : w6.cell? ⟨b6, 3, none⟩ = some (.slice t2 x.back.length d2) := whole_cell HZB.out rfl
          have G3 : w6.cell? ⟨b4, 3, none⟩ = some (.slice s2 x.back.length k2) := whole_cell (box_on HYB.out hbb) rfl
          clear ho hb hbb R HBn HGZ hlM hlB HQL
          go_upto_region 16 with fail
          clear hw6 hb6
          have hyp := HY.out.2.2
          rw [hyp] at F0
          clear hyp
          go_wp2_with fail
          refine q1.out.mono ?_
          rintro e w7 ⟨rfl, q7, rfl⟩
          have hs7 := Stirred.drewN w6 q7 []
          have q2 := Lib.hid (sameReads_any (.slice t2 x.back.length d2) (.slice s2 x.back.length k2) x.back (w6.drewN q7) (HS2'.out.below (hs7.below (fun _ h => by cases h) (Nat.le_refl _))) (HR2.out.below (hs7.below (fun _ h => by cases h) (Nat.le_refl _))) (by omega))
          clear hs7 q1
          go_wp2_with fail
          refine q2.out.mono ?_
          rintro e w8 ⟨rfl, q8, rfl⟩
          have HF := Lib.hid (show Below cS.heap.size cS (w6.drewN (q7 + q8)) from Inn.below_drewN HW6.out (q7 + q8) (Nat.le_refl _))
          clear q2
          go_wp2
          go_roundg (10 - (i + 1))
          case measure => omega
          case rel => exact ⟨i + 1, rfl, by omega, by go_num, HF⟩
    · obtain rfl : i = 10 := by omega
      have HF := Lib.hid (HB5.out.trans (HW.out.mono HB5.out.size))
      go_wp2
      go_ret
      exact ⟨rfl, HF.out⟩
end Go.Proofs.YthnciokmomgfeaaGreatDoor.InnerStacks

namespace Go.Proofs.YthnciokmomgfeaaGreatDoor.innerStacks
open Inn Mach Mem
open Go.ChangeShapes Go.WideShapes Go.ChangeAt Go.RowKit
set_option linter.unusedVariables false
set_option linter.unusedSimpArgs false

theorem own : ownKnob Tryz.prog.godebug = none := by kernel_rfl
theorem laidOut : laidOutB Tryz.prog = true := by kernel_rfl
abbrev laid : List (String × DataW Unit) := laidL9
theorem laid_is : Rows.innerStacksRow.laid = laid := rfl
set_option maxRecDepth 100000 in
theorem lifted (os : Os) (started : os.Started) (H : Type) (enc : TypeId × Value → H) :
    ReturnsInHanded {} Tryz.checked os 7 .any (fun w args => (Rows.innerStacksSpec.pre enc Tryz.prog Tryz.f7 Rows.innerStacksRow.domain false w args ∧ laidMetH Tryz.prog laid w) ∧ sizedMet enc Tryz.prog Tryz.f7 (OpenSpec.ofChange Rows.innerStacksSpec) false w args)
      (Rows.innerStacksSpec.post enc Tryz.prog Tryz.f7 false true false false) := by
  refine returnsInHanded_of_change_and (C := Tryz.checked) (X := fun w _ => laidMetH Tryz.prog laid w) (fun _ _ _ hh h => h.of_heap hh) own started (by kernel_rfl) Tryz.func7
    (Inn.witness_ref (enc := enc) (C := Tryz.checked) (os := os) (X := fun w _ => laidMetH Tryz.prog laid w) false (Inn.laidWorld os) #[.slice none 0 0, .slice none 0 0, .int .i64 0, .int .i64 0, .int .i64 0] 8 rfl (by kernel_rfl) (by kernel_rfl) (by kernel_rfl) (by kernel_rfl) (by kernel_rfl) (Inn.laidWorld_met os _)) ?_
  intro W base args ds gs before hval0 hW _ _ hL _
  have hval : ∀ (j : Nat) t v, Tryz.f7.params[j]? = some t → args[j]? = some v → Value.okWide Tryz.prog W .any base t v := hval0
  have hW' := hW
  obtain ⟨p, q, hA0, hV, rfl, hfz, hnd⟩ := hW
  have hA : DataW.TrodAll enc Tryz.prog W 0 (fun _ => true) true Tryz.f7.params.toList args.toList ds p := hA0
  rw [Tryz.params7] at hA hval
  obtain ⟨v0, vs0, d0, ds0, p0, q0, hargs, rfl, rfl, h0, r0⟩ := trodAll_cons hA
  obtain ⟨v1, vs1, d1, ds1, p1, q1, rfl, rfl, rfl, h1, r1⟩ := trodAll_cons r0
  obtain ⟨v2, vs2, d2, ds2, p2, q2, rfl, rfl, rfl, h2, r2⟩ := trodAll_cons r1
  obtain ⟨v3, vs3, d3, ds3, p3, q3, rfl, rfl, rfl, h3, r3⟩ := trodAll_cons r2
  obtain ⟨v4, vs4, d4, ds4, p4, q4, rfl, rfl, rfl, h4, r4⟩ := trodAll_cons r3
  obtain ⟨rfl, rfl, rfl⟩ := trodAll_nil r4
  obtain rfl : args = #[v0, v1, v2, v3, v4] := by cases args; simp_all
  obtain ⟨rfl, rfl⟩ := trodVars_none hV
  obtain ⟨xs0, l0⟩ := readsCapOf (hval 0 22 v0 rfl rfl) h0
  obtain ⟨xs1, l1⟩ := readsCapOf (hval 1 22 v1 rfl rfl) h1
  obtain ⟨a2, rfl, rfl, rfl, w2⟩ := open_int Tryz.underlying3 (hval 2 3 v2 rfl rfl) h2
  obtain ⟨a3, rfl, rfl, rfl, w3⟩ := open_int Tryz.underlying3 (hval 3 3 v3 rfl rfl) h3
  obtain ⟨a4, rfl, rfl, rfl, w4⟩ := open_int Tryz.underlying3 (hval 4 3 v4 rfl rfl) h4
  clear hA0 hval0
  simp only [List.append_nil] at hW'
  have hlt0 : ∀ x ∈ p0, x.block < W.heap.size := fun x hx => by simpa using hW'.lt x (by simp [hx])
  have hlt1 : ∀ x ∈ p1, x.block < W.heap.size := fun x hx => by simpa using hW'.lt x (by simp [hx])
  refine (InnerStacks.main v0 xs0 v1 xs1 a2 a3 a4 W l0 l1 w2 w3 w4 (tabs_on hL)).mono fun e W' ⟨he, hg⟩ => ?_
  subst he
  exact ⟨_, rfl, _, _, _, [], _, [], hW', (trodAll_cons_mk (shut_bool Tryz.underlying4 _) trodAll_mk0), (trodAll_cons_mk (Below.trod laidOut (by kernel_rfl) (of_decide_eq_true (by kernel_rfl)) h0 hg hlt0) (trodAll_cons_mk (Below.trod laidOut (by kernel_rfl) (of_decide_eq_true (by kernel_rfl)) h1 hg hlt1) (trodAll_cons_mk (shut_int Tryz.underlying3 w2) (trodAll_cons_mk (shut_int Tryz.underlying3 w3) (trodAll_cons_mk (shut_int Tryz.underlying3 w4) trodAll_mk0))))), rfl, hg.frame _, fun h => by cases h⟩

theorem over : Rows.innerStacksRow.holds Tryz.pinned (OpenSpec.ofChange Rows.innerStacksSpec) :=
  OpenClaim.holds_of_wide 7 Tryz.f7 rfl rfl rfl rfl rfl rfl rfl ⟨rfl, rfl, rfl, rfl, rfl⟩ rfl rfl rfl rfl rfl (by kernel_rfl) Tryz.func7 (by kernel_rfl)
    (of_decide_eq_true (by kernel_rfl)) (by unfold Func.isWrapper; first | (rw [if_pos (by decide +kernel)]; kernel_rfl) | (rw [if_neg (by decide +kernel)]; exact ⟨rfl, rfl⟩))
    (fun os started H enc _ => lifted os started H enc)

theorem proved : Rows.InnerStacksCardSaid :=
  Claim7.holds_tied_plain_at .later [] Rows.innerStacksCard.laidKinds true Rows.innerStacksCard.stood.harness Rows.innerStacksCard.stood.looks
    over (fun _ h => by cases h) (by kernel_rfl) (fun _ h => by cases h) innerStacks_row_tie rfl ⟨rfl, rfl⟩ (by kernel_rfl) rfl
    (fun f fn hf hfn => by
      obtain rfl : f = 7 := Option.some.inj ((show Tryz.prog.funcNamed "holloway/hollowaylaw9.InnerStacks" = some 7 by kernel_rfl).symm.trans hf) |>.symm
      obtain rfl : fn = Tryz.f7 := (Option.some.inj (Tryz.func7.symm.trans hfn)).symm
      exact ⟨by kernel_rfl, fun j t ht => by
        rw [Tryz.params7] at ht
        have hm : t ∈ [22, 22, 3, 3, 3] := by
          rcases Array.mem_of_getElem? ht with h
          simpa using h
        simp only [List.mem_cons, List.not_mem_nil, or_false] at hm
        rcases hm with rfl | rfl | rfl | rfl | rfl
        · exact (show Tryz.prog.wantsStandIn 22 = false by kernel_rfl)
        · exact (show Tryz.prog.wantsStandIn 22 = false by kernel_rfl)
        · exact (show Tryz.prog.wantsStandIn 3 = false by kernel_rfl)
        · exact (show Tryz.prog.wantsStandIn 3 = false by kernel_rfl)
        · exact (show Tryz.prog.wantsStandIn 3 = false by kernel_rfl)⟩)
    (by kernel_rfl)
#print axioms proved
end Go.Proofs.YthnciokmomgfeaaGreatDoor.innerStacks
