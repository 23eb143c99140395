
/- Package hot, plainly: places that are counted, which one is given up, what a pass makes of the counts; and how they lie in memory. No code in sight. -/
import Derived.Test.YtajgkheagahfeaaWideAppend
namespace Go.Proofs.Ytajgkheagahfeaa.Hot
open Go.RowKit Book Book.Wide
set_option linter.unusedSimpArgs false
set_option linter.unusedVariables false
/-- a place: its ip and its count -/
abbrev Pl := Int × Int
/-- p is given up ahead of q -/
def goesB (p q : Pl) : Bool := decide (p.2 < q.2 ∨ p.2 = q.2 ∧ p.1 < q.1)
theorem goes_yes {p q : Pl} : goesB p q = true ↔ p.2 < q.2 ∨ p.2 = q.2 ∧ p.1 < q.1 := by unfold goesB; exact decide_eq_true_iff
theorem goes_trans {p q r : Pl} (h1 : goesB q p = false) (h2 : goesB r q = false) : goesB r p = false := by
  unfold goesB at *
  rw [decide_eq_false_iff_not] at *
  omega
theorem goes_irrefl (p : Pl) : goesB p p = false := by unfold goesB; rw [decide_eq_false_iff_not]; omega
theorem goes_asymm {p q : Pl} (h : goesB p q = true) : goesB q p = false := by unfold goesB at *; rw [decide_eq_false_iff_not]; rw [decide_eq_true_iff] at h; omega
/-- where ip is counted, or -1 -/
def idxI (ps : List Pl) (ip : Int) : Int := match ps.findIdx? (fun x => decide (x.1 = ip)) with
  | some j => (j : Int)
  | none => -1
theorem idxI_no {ps : List Pl} {ip : Int} (h : ∀ x ∈ ps, x.1 ≠ ip) : idxI ps ip = -1 := by
  unfold idxI
  rw [List.findIdx?_eq_none_iff.2 (fun x hx => by simpa using h x hx)]
theorem idxI_yes {ps : List Pl} {ip : Int} {j : Nat} {x : Pl} (hj : ps[j]? = some x) (hx : x.1 = ip) (hn : ∀ i y, i < j → ps[i]? = some y → y.1 ≠ ip) : idxI ps ip = (j : Int) := by
  unfold idxI
  have hl := (List.getElem?_eq_some_iff.1 hj).1
  have he : ps[j] = x := (List.getElem?_eq_some_iff.1 hj).2
  rw [List.findIdx?_eq_some_iff_getElem.2 ⟨hl, by rw [he]; simpa using hx, fun i hi => by
    have := hn i ps[i] hi (List.getElem?_eq_getElem (by omega))
    simpa using this⟩]
/-- no place is counted twice -/
def Apart (ps : List Pl) : Prop := (ps.map (·.1)).Nodup
theorem Apart.at {ps : List Pl} (h : Apart ps) {i j : Nat} {x y : Pl} (hi : ps[i]? = some x) (hj : ps[j]? = some y) (he : x.1 = y.1) : i = j := by
  have hli := (List.getElem?_eq_some_iff.1 hi).1
  have hlj := (List.getElem?_eq_some_iff.1 hj).1
  have hxi := (List.getElem?_eq_some_iff.1 hi).2
  have hxj := (List.getElem?_eq_some_iff.1 hj).2
  have hp := List.pairwise_iff_getElem.1 (show (ps.map (·.1)).Pairwise (· ≠ ·) from h)
  rcases Nat.lt_trichotomy i j with hlt | heq | hgt
  · refine absurd ?_ (hp i j (by simpa using hli) (by simpa using hlj) hlt)
    rw [List.getElem_map, List.getElem_map, hxi, hxj, he]
  · exact heq
  · refine absurd ?_ (hp j i (by simpa using hlj) (by simpa using hli) hgt)
    rw [List.getElem_map, List.getElem_map, hxi, hxj, he]
theorem Apart.idx {ps : List Pl} (h : Apart ps) {ip : Int} {j : Nat} {x : Pl} (hj : ps[j]? = some x) (hx : x.1 = ip) : idxI ps ip = (j : Int) :=
  idxI_yes hj hx (fun i y hi hy e => by have := h.at hy hj (by rw [e, hx]); omega)
/-- the last one moves into a place that is given up -/
def dropAt (ps : List Pl) (j : Nat) : List Pl := (ps.set j (ps.getD (ps.length - 1) (0, 0))).take (ps.length - 1)
theorem dropAt_length (ps : List Pl) (j : Nat) : (dropAt ps j).length = ps.length - 1 := by unfold dropAt; rw [List.length_take, List.length_set]; omega
theorem dropAt_perm {ps : List Pl} {j : Nat} {x : Pl} (hj : ps[j]? = some x) : ps.Perm (x :: dropAt ps j) := by
  obtain ⟨hl, he⟩ := List.getElem?_eq_some_iff.1 hj
  have hne : ps ≠ [] := by rintro rfl; simp at hl
  obtain ⟨a, l, rfl⟩ : ∃ a l, ps = a ++ [l] := ⟨ps.dropLast, ps.getLast hne, (List.dropLast_concat_getLast hne).symm⟩
  have hlast : (a ++ [l]).getD ((a ++ [l]).length - 1) (0, 0) = l := by simp [List.getD]
  unfold dropAt
  rw [hlast]
  simp only [List.length_append, List.length_cons, List.length_nil, Nat.add_sub_cancel] at hl ⊢
  by_cases h : j = a.length
  · subst h
    have hx : l = x := by simpa using he
    subst hx
    rw [List.set_append_right _ _ (Nat.le_refl _), List.take_append_of_le_length (Nat.le_refl _), List.take_length]
    exact List.perm_append_comm
  · have hja : j < a.length := by omega
    rw [List.set_append_left _ _ hja, List.take_append_of_le_length (by simp), List.take_of_length_le (by simp)]
    have hx : a[j] = x := by rw [List.getElem_append_left hja] at he; exact he
    have h1 : a = a.take j ++ x :: a.drop (j + 1) := by rw [← hx]; simp
    have h2 : a.set j l = a.take j ++ l :: a.drop (j + 1) := List.set_eq_take_append_cons_drop.trans (by rw [if_pos hja])
    rw [h2]
    refine (List.Perm.append_right [l] (List.Perm.of_eq h1)).trans ?_
    refine List.perm_append_comm.trans ?_
    show (l :: (a.take j ++ x :: a.drop (j + 1))).Perm _
    refine (List.Perm.cons l List.perm_middle).trans ((List.Perm.swap x l _).trans (List.Perm.cons x ?_))
    exact List.perm_middle.symm
/-- a function with another value at one place -/
def upd (f : Int → Int) (a v : Int) : Int → Int := fun z => if z = a then v else f z
theorem upd_same (f : Int → Int) (a v : Int) : upd f a v a = v := if_pos rfl
theorem upd_other (f : Int → Int) {a b : Int} (v : Int) (h : b ≠ a) : upd f a v b = f b := if_neg h
/-- the counts: of each ip, 0 if there is none -/
structure Is (ps : List Pl) (f : Int → Int) : Prop where
  apart : Apart ps
  mem : ∀ x ∈ ps, f x.1 = x.2 ∧ 1 ≤ x.2
  all : ∀ ip, f ip ≠ 0 → (ip, f ip) ∈ ps
theorem Is.pos {ps : List Pl} {f : Int → Int} (h : Is ps f) (ip : Int) : 0 ≤ f ip := by
  by_cases h0 : f ip = 0
  · omega
  · have := (h.mem _ (h.all ip h0)).2; simp only at this; omega
theorem Is.none {ps : List Pl} {f : Int → Int} (h : Is ps f) {ip : Int} (h0 : f ip = 0) : ∀ x ∈ ps, x.1 ≠ ip := by
  intro x hx e
  have := h.mem x hx
  rw [e, h0] at this
  omega
theorem Is.at {ps : List Pl} {f : Int → Int} (h : Is ps f) {ip : Int} (h0 : f ip ≠ 0) : ∃ j : Nat, ps[j]? = some (ip, f ip) := List.getElem?_of_mem (h.all ip h0)
theorem Is.nil : Is [] (fun _ => 0) := ⟨List.nodup_nil, (fun x hx => by cases hx), fun ip h => absurd rfl h⟩
theorem Is.add {ps : List Pl} {f : Int → Int} (h : Is ps f) {ip : Int} (h0 : f ip = 0) : Is (ps ++ [(ip, 1)]) (upd f ip 1) := by
  have hn := h.none h0
  refine ⟨?_, fun x hx => ?_, fun z hz => ?_⟩
  · unfold Apart
    rw [List.map_append, List.nodup_append]
    refine ⟨h.apart, by simp, fun a ha b hb e => ?_⟩
    obtain ⟨x, hx, rfl⟩ := List.mem_map.1 ha
    have hb' : b = ip := by simpa using hb
    exact hn x hx (by rw [e, hb'])
  · rcases List.mem_append.1 hx with hx | hx
    · rw [upd_other _ _ (hn x hx)]; exact h.mem x hx
    · obtain rfl : x = (ip, 1) := by simpa using hx
      exact ⟨upd_same _ _ _, Int.le_refl _⟩
  · by_cases e : z = ip
    · subst e; rw [upd_same]; simp
    · rw [upd_other _ _ e] at hz ⊢
      exact List.mem_append_left _ (h.all z hz)
theorem Is.bump {ps : List Pl} {f : Int → Int} (h : Is ps f) {j : Nat} {ip : Int} (hj : ps[j]? = some (ip, f ip)) : Is (ps.set j (ip, f ip + 1)) (upd f ip (f ip + 1)) := by
  have hp := (h.mem _ (List.mem_of_getElem? hj)).2
  have hl := (List.getElem?_eq_some_iff.1 hj).1
  refine ⟨?_, fun x hx => ?_, fun z hz => ?_⟩
  · have : (ps.set j (ip, f ip + 1)).map (·.1) = ps.map (·.1) := by
      rw [List.map_set]
      refine List.ext_getElem? fun i => ?_
      rw [List.getElem?_set]
      by_cases hij : j = i
      · subst hij
        rw [if_pos rfl, if_pos (by simpa using hl), List.getElem?_map, hj]
        rfl
      · rw [if_neg hij]
    unfold Apart
    rw [this]
    exact h.apart
  · obtain ⟨i, hi⟩ := List.getElem?_of_mem hx
    rw [List.getElem?_set] at hi
    by_cases hij : j = i
    · subst hij
      rw [if_pos rfl, if_pos hl] at hi
      obtain rfl : (ip, f ip + 1) = x := by simpa using hi
      exact ⟨upd_same _ _ _, by show 1 ≤ f ip + 1; omega⟩
    · rw [if_neg hij] at hi
      have hne : x.1 ≠ ip := fun e => hij (h.apart.at hj hi e.symm)
      rw [upd_other _ _ hne]
      exact h.mem x (List.mem_of_getElem? hi)
  · by_cases e : z = ip
    · subst e
      rw [upd_same]
      exact List.mem_of_getElem? (i := j) (by rw [List.getElem?_set, if_pos rfl, if_pos hl])
    · rw [upd_other _ _ e] at hz ⊢
      obtain ⟨i, hi⟩ := h.at hz
      have hij : j ≠ i := by
        rintro rfl
        rw [hj] at hi
        simp only [Option.some.injEq, Prod.mk.injEq] at hi
        exact e hi.1.symm
      exact List.mem_of_getElem? (i := i) (by rw [List.getElem?_set, if_neg hij]; exact hi)
theorem Is.drop {ps : List Pl} {f : Int → Int} (h : Is ps f) {j : Nat} {x : Pl} (hj : ps[j]? = some x) : Is (dropAt ps j) (upd f x.1 0) := by
  have hp := dropAt_perm hj
  have hnd : (x.1 :: (dropAt ps j).map (·.1)).Nodup := (hp.map (fun y : Pl => y.1)).nodup_iff.1 h.apart
  rw [List.nodup_cons] at hnd
  refine ⟨hnd.2, fun y hy => ?_, fun z hz => ?_⟩
  · have hne : y.1 ≠ x.1 := fun e => hnd.1 (by rw [← e]; exact List.mem_map_of_mem hy)
    rw [upd_other _ _ hne]
    exact h.mem y (hp.mem_iff.2 (List.mem_cons_of_mem _ hy))
  · by_cases e : z = x.1
    · subst e; rw [upd_same] at hz; exact absurd rfl hz
    · rw [upd_other _ _ e] at hz ⊢
      rcases List.mem_cons.1 (hp.mem_iff.1 (h.all z hz)) with h1 | h1
      · exact absurd (by rw [← h1]) e
      · exact h1
/-- the place that is given up first -/
def Least (f : Int → Int) (a : Int) : Prop := f a ≠ 0 ∧ ∀ b, f b ≠ 0 → goesB (b, f b) (a, f a) = false
theorem Least.one {f : Int → Int} {a b : Int} (ha : Least f a) (hb : Least f b) : a = b := by
  have h1 := ha.2 b hb.1
  have h2 := hb.2 a ha.1
  unfold goesB at h1 h2
  rw [decide_eq_false_iff_not] at h1 h2
  simp only at h1 h2
  omega
/-- room for ip: none is wanted, or the first one goes -/
def Room (f : Int → Int) (m : Nat) (ip : Int) (f1 : Int → Int) (m1 : Nat) : Prop :=
  (f ip ≠ 0 ∨ m < 32) ∧ f1 = f ∧ m1 = m ∨ f ip = 0 ∧ 32 ≤ m ∧ ∃ a, Least f a ∧ f1 = upd f a 0 ∧ m1 = m - 1
/-- one pass more -/
structure Pass (n : Int) (f : Int → Int) (m : Nat) (ip : Int) (b : Bool) (f' : Int → Int) (m' : Nat) : Prop where
  way : ∃ f1 m1, Room f m ip f1 m1 ∧ f1 ip = f ip ∧ (b = decide (n ≤ f ip + 1)) ∧ f' = (if n ≤ f ip + 1 then upd f1 ip 0 else upd f1 ip (f ip + 1)) ∧
    m' + (if n ≤ f ip + 1 then 1 else 0) = m1 + (if f ip = 0 then 1 else 0)
/-- a place's cells -/
def cellsOf (x : Pl) : List Value := [.int .i64 x.1, .int .i64 x.2]
theorem cells_len (ps : List Pl) : (ps.flatMap cellsOf).length = ps.length * 2 := flat_length (enc := cellsOf) (k := 2) (fun _ => rfl) ps
theorem cells_one (ps : List Pl) : ∀ u ∈ ps.flatMap cellsOf, u.oneCell' = true := by
  intro u hu
  obtain ⟨x, _, hx⟩ := List.mem_flatMap.1 hu
  simp only [cellsOf, List.mem_cons, List.not_mem_nil, or_false] at hx
  rcases hx with rfl | rfl <;> rfl
theorem cells_set (ps : List Pl) (j : Nat) (x : Pl) : (ps.set j x).flatMap cellsOf = ((ps.flatMap cellsOf).set (j * 2) (.int .i64 x.1)).set (j * 2 + 1) (.int .i64 x.2) := by
  induction ps generalizing j with
  | nil => simp
  | cons y r ih =>
    cases j with
    | zero => rfl
    | succ j =>
      rw [List.set_cons_succ, List.flatMap_cons, List.flatMap_cons, ih j]
      show cellsOf y ++ _ = ((cellsOf y ++ r.flatMap cellsOf).set ((j + 1) * 2) _).set ((j + 1) * 2 + 1) _
      rw [List.set_append_right _ _ (by show 2 ≤ _; omega), List.set_append_right _ _ (by show 2 ≤ _; omega)]
      show _ = cellsOf y ++ ((r.flatMap cellsOf).set ((j + 1) * 2 - 2) _).set ((j + 1) * 2 + 1 - 2) _
      rw [show (j + 1) * 2 - 2 = j * 2 by omega, show (j + 1) * 2 + 1 - 2 = j * 2 + 1 by omega]
theorem cells_take (ps : List Pl) (m : Nat) : (ps.take m).flatMap cellsOf = (ps.flatMap cellsOf).take (m * 2) := by
  induction m generalizing ps with
  | zero => simp
  | succ m ih =>
    cases ps with
    | nil => simp
    | cons x r =>
      rw [List.take_succ_cons, List.flatMap_cons, List.flatMap_cons, ih r]
      rw [List.take_append, show (cellsOf x).take ((m + 1) * 2) = cellsOf x from List.take_of_length_le (by show 2 ≤ _; omega)]
      congr 2
      show _ = (m + 1) * 2 - 2
      omega
/-- the counts in memory: the pointer leads to block p, they lie in the blocks bs; n: from where on one is hot -/
structure At (w : World) (B p : Nat) (bs : List Nat) (n : Int) (ps : List Pl) : Prop where
  own : ∃ v, w.heap[p]? = some (.cells #[.int .i64 n, v] 39 (0, 0)) ∧ OwnsK w B 41 2 v (ps.flatMap cellsOf) ∧ bs = p :: (blk v).toList
  low : B ≤ p
  few : ps.length ≤ 32
section
variable {w w' : World} {B p : Nat} {bs ds : List Nat} {n : Int} {ps : List Pl}
theorem At.lt (h : At w B p bs n ps) : ∀ k ∈ bs, B ≤ k ∧ k < w.heap.size := by
  obtain ⟨v, h1, h2, rfl⟩ := h.own
  intro k hk
  rcases List.mem_cons.1 hk with rfl | hk
  · exact ⟨h.low, whole_lt h1⟩
  · have := h2.block k (by simpa using hk); exact ⟨this.1, this.2.1⟩
theorem At.mem (h : At w B p bs n ps) : p ∈ bs := by obtain ⟨v, _, _, rfl⟩ := h.own; exact List.mem_cons_self
theorem At.touch (h : At w B p bs n ps) (hs : Stirred w w' ds) (hd : ∀ k ∈ bs, k ∉ ds) : At w' B p bs n ps := by
  obtain ⟨v, h1, h2, rfl⟩ := h.own
  exact ⟨⟨v, hs.whole h1 (hd p List.mem_cons_self), h2.touch hs (fun k hk => hd k (List.mem_cons_of_mem _ (by simp [hk]))), rfl⟩, h.low, h.few⟩
theorem At.below (h : At w B p bs n ps) (hb : Below w.heap.size w w') : At w' B p bs n ps :=
  h.touch (Stirred.of_below hb []) (fun _ _ => List.not_mem_nil)
theorem At.from {B' : Nat} (h : At w B p bs n ps) (hB : B' ≤ B) : At w B' p bs n ps := by
  obtain ⟨v, h1, h2, h3⟩ := h.own
  exact ⟨⟨v, h1, h2.from hB, h3⟩, Nat.le_trans hB h.low, h.few⟩
/-- the pointer's block is none of the row's -/
theorem ptr_off {T : Array Value} {v : Value} {xs : List Value} (h1 : w.heap[p]? = some (.cells T 39 (0, 0))) (h2 : OwnsK w B 41 2 v xs) : ∀ k, blk v = some k → k ≠ p := by
  rintro k hk rfl
  obtain ⟨_, _, c, hc⟩ := h2.block k hk
  rw [hc] at h1
  simp at h1
/-- a place and where its cells lie -/
theorem At.place (h : At w B p bs n ps) {j : Nat} {x : Pl} (hj : ps[j]? = some x) : ∃ g cap, w.heap[p]? = some (.cells #[.int .i64 n, .slice (some ⟨g, 0, none⟩) ps.length cap] 39 (0, 0)) ∧ OwnsK w B 41 2 (.slice (some ⟨g, 0, none⟩) ps.length cap) (ps.flatMap cellsOf) ∧ bs = [p, g] ∧ g ≠ p ∧ blk (.slice (some ⟨g, 0, none⟩) ps.length cap) = some g ∧
    w.cell? ⟨g, j * 2, none⟩ = some (.int .i64 x.1) ∧ w.cell? ⟨g, j * 2 + 1, none⟩ = some (.int .i64 x.2) ∧ ∀ i, w.frozen? ⟨g, i, none⟩ = false := by
  have hl := (List.getElem?_eq_some_iff.1 hj).1
  obtain ⟨v, h1, h2, rfl⟩ := h.own
  obtain ⟨g, cap, rfl, hc, hf, hcap⟩ := h2.row (cells_len ps) (by decide) (by omega)
  have hb : blk (.slice (some ⟨g, 0, none⟩) ps.length cap) = some g := blk_pos (by omega)
  refine ⟨g, cap, h1, h2, by rw [hb]; rfl, ptr_off h1 h2 g hb, hb, ?_, ?_, hf⟩
  · have := hc (j * 2) _ (by have := flat_at (enc := cellsOf) (k := 2) (fun _ => rfl) hj (i := 0) (u := .int .i64 x.1) rfl; simpa using this); exact this
  · exact hc (j * 2 + 1) _ (flat_at (enc := cellsOf) (k := 2) (fun _ => rfl) hj (i := 1) (u := .int .i64 x.2) rfl)
/-- a fresh one -/
theorem At.made {N : Nat} (hB : N ≤ p) (h1 : w.heap[p]? = some (.cells #[.int .i64 n, .slice none 0 0] 39 (0, 0))) : At w N p [p] n [] :=
  ⟨⟨_, h1, OwnsK.nil _ _ _ _, rfl⟩, hB, by decide⟩
/-- another count at a place -/
theorem At.bump (h : At w B p bs n ps) {j : Nat} {x : Pl} (hj : ps[j]? = some x) (c : Int) {g cap : Nat} (h1 : w.heap[p]? = some (.cells #[.int .i64 n, .slice (some ⟨g, 0, none⟩) ps.length cap] 39 (0, 0))) : At (w.setCell ⟨g, j * 2 + 1, none⟩ (.int .i64 c)) B p bs n (ps.set j (x.1, c)) ∧ Stirred w (w.setCell ⟨g, j * 2 + 1, none⟩ (.int .i64 c)) bs := by
  obtain ⟨g', cap', h1', h2, rfl, hg, hb, c0, c1, _⟩ := h.place hj
  rw [h1] at h1'
  simp only [Option.some.injEq, Obj.cells.injEq, and_true, Array.mk.injEq, List.cons.injEq, Value.slice.injEq, Addr.mk.injEq, true_and] at h1'
  obtain ⟨rfl, rfl⟩ := h1'
  have hs := Stirred.setCell w ⟨g, j * 2 + 1, none⟩ (.int .i64 c)
  have hst := h2.stored (j * 2 + 1) (.int .i64 c)
  have e : (ps.set j (x.1, c)).flatMap cellsOf = (ps.flatMap cellsOf).set (j * 2 + 1) (.int .i64 c) := by
    rw [cells_set]
    congr 1
    refine List.ext_getElem? fun i => ?_
    rw [List.getElem?_set]
    split
    · rename_i hi
      subst hi
      have := flat_at (enc := cellsOf) (k := 2) (fun _ => rfl) hj (i := 0) (u := .int .i64 x.1) rfl
      rw [Nat.add_zero] at this
      rw [this, if_pos (List.getElem?_eq_some_iff.1 this).1]
    · rfl
  refine ⟨⟨⟨_, ?_, ?_, by rw [hb]; rfl⟩, h.low, by rw [List.length_set]; exact h.few⟩, hs.more (fun k hk => by rw [List.mem_singleton.1 hk]; simp)⟩
  · exact hs.whole h1 (by simpa using hg.symm)
  · rw [e]; exact hst
/-- one place less: the last one's cells were stored there, and the slice is shorter -/
theorem At.dropped (h : At w B p bs n ps) {j : Nat} {x l : Pl} (hj : ps[j]? = some x) (hlast : ps[ps.length - 1]? = some l) {g cap : Nat} (h1 : w.heap[p]? = some (.cells #[.int .i64 n, .slice (some ⟨g, 0, none⟩) ps.length cap] 39 (0, 0))) :
    At (((w.setCell ⟨g, j * 2, none⟩ (.int .i64 l.1)).setCell ⟨g, j * 2 + 1, none⟩ (.int .i64 l.2)).setCell ⟨p, 1, none⟩ (.slice (some ⟨g, 0, none⟩) (ps.length - 1) cap)) B p bs n (dropAt ps j) ∧
    Stirred w (((w.setCell ⟨g, j * 2, none⟩ (.int .i64 l.1)).setCell ⟨g, j * 2 + 1, none⟩ (.int .i64 l.2)).setCell ⟨p, 1, none⟩ (.slice (some ⟨g, 0, none⟩) (ps.length - 1) cap)) bs := by
  obtain ⟨g', cap', h1', h2, rfl, hg, hb, c0, c1, _⟩ := h.place hj
  rw [h1] at h1'
  simp only [Option.some.injEq, Obj.cells.injEq, and_true, Array.mk.injEq, List.cons.injEq, Value.slice.injEq, Addr.mk.injEq, true_and] at h1'
  obtain ⟨rfl, rfl⟩ := h1'
  have hs1 := Stirred.setCell w ⟨g, j * 2, none⟩ (.int .i64 l.1)
  have hs2 := Stirred.setCell (w.setCell ⟨g, j * 2, none⟩ (.int .i64 l.1)) ⟨g, j * 2 + 1, none⟩ (.int .i64 l.2)
  have hs12 : Stirred w ((w.setCell ⟨g, j * 2, none⟩ (.int .i64 l.1)).setCell ⟨g, j * 2 + 1, none⟩ (.int .i64 l.2)) [g] := hs1.trans hs2 (fun k hk => .inl hk)
  have hst := (h2.stored (j * 2) (.int .i64 l.1)).stored (j * 2 + 1) (.int .i64 l.2)
  rw [← cells_set ps j l] at hst
  obtain ⟨w2, hw2⟩ : ∃ w2, (w.setCell ⟨g, j * 2, none⟩ (.int .i64 l.1)).setCell ⟨g, j * 2 + 1, none⟩ (.int .i64 l.2) = w2 := ⟨_, rfl⟩
  rw [hw2] at hs12 hst ⊢
  have h1' := hs12.whole h1 (by simpa using hg.symm)
  have hs3 := Stirred.setCell w2 ⟨p, 1, none⟩ (.slice (some ⟨g, 0, none⟩) (ps.length - 1) cap)
  have hsh := hst.shorter (by decide) (show ps.length - 1 ≤ ps.length by omega)
  have e : dropAt ps j = (ps.set j l).take (ps.length - 1) := by unfold dropAt; rw [List.getD, hlast]; rfl
  rw [← cells_take, ← e] at hsh
  have hcap : 0 < cap := by
    rcases h2.form with ⟨ao, e, hxx⟩ | ⟨g', n', c', e, hc, hl⟩
    · simp only [Value.slice.injEq] at e
      have := (List.getElem?_eq_some_iff.1 hj).1
      omega
    · simp only [Value.slice.injEq] at e; omega
  refine ⟨⟨⟨_, by have := whole_set h1' 1 (.slice (some ⟨g, 0, none⟩) (ps.length - 1) cap); exact this, hsh.touch hs3 (fun k hk hm => ?_), by rw [blk_pos hcap]; rfl⟩, h.low, by rw [dropAt_length]; have := h.few; omega⟩, ?_⟩
  · rw [blk_pos hcap] at hk
    simp only [Option.some.injEq] at hk
    subst hk
    exact hg (by simpa using hm)
  · exact (hs12.more (fun k hk => by rw [List.mem_singleton.1 hk]; simp)).trans hs3 (fun k hk => .inl (by rw [List.mem_singleton.1 hk]; simp))
/-- a longer list is kept, behind an append -/
theorem At.longer {w1 : World} {v v' : Value} {xs : List Value} {ps' : List Pl} (h1 : w.heap[p]? = some (.cells #[.int .i64 n, v] 39 (0, 0))) (h2 : OwnsK w B 41 2 v xs) (hp : B ≤ p) (ht : Stirred w w1 (blk v).toList)
    (h3 : OwnsK w1 B 41 2 v' (ps'.flatMap cellsOf)) (few : ps'.length ≤ 32) :
    At (w1.setCell ⟨p, 1, none⟩ v') B p (p :: (blk v').toList) n ps' ∧ Stirred w (w1.setCell ⟨p, 1, none⟩ v') (p :: (blk v).toList) := by
  have hw1 := ht.whole h1 (fun hm => ptr_off h1 h2 p (by simpa using hm) rfl)
  refine ⟨⟨⟨v', whole_set hw1 1 v', h3.touch (Stirred.setCell w1 ⟨p, 1, none⟩ v') (fun k hk hm => ptr_off hw1 h3 k hk (by simpa using hm)), rfl⟩, hp, few⟩, ?_⟩
  exact (ht.more (fun k hk => List.mem_cons_of_mem _ hk)).trans (Stirred.setCell w1 ⟨p, 1, none⟩ v') (fun k hk => .inl (by simp at hk; simp [hk]))
/-- what a call makes of the counts: it answers v, and they are ps' -/
def Did (w : World) (B p : Nat) (bs : List Nat) (n : Int) (v : Value) (ps' : List Pl) (e : Ending) (w' : World) : Prop :=
  e = .returned v ∧ ∃ bs', At w' B p bs' n ps' ∧ Stirred w w' bs ∧ ∀ k ∈ bs', k ∈ bs ∨ w.heap.size ≤ k
end
end Go.Proofs.Ytajgkheagahfeaa.Hot
