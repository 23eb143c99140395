/- Lists of exits that are lent; are they as they were? -/
import Derived.Test.YtpecingkoodmfaaGreatDoorS16
import Derived.Test.YtpecingkoodmfaaGreatDoorS17
import Derived.Test.YtpecingkoodmfaaGreatDoorS4
import Derived.Lib.ItoaNum
import Derived.Below
import Derived.LaidLaws
import Derived.LaidHandle
import Derived.Lib.LaidTab
import Derived.ChangeVars
import Derived.ChangeArms
import Derived.Stop.Joined
import Derived.Test.YtpecingkoodmfaaGreatDoorS10
import Derived.Deep.LoopGhost
import Derived.IntWalk
import Derived.Test.YtpecingkoodmfaaGreatDoorS6
import Derived.Deep.RegionWith
import Derived.Deep.DeepCutAuto
import Derived.Deep.Slices
namespace Go.Proofs.YtpecingkoodmfaaGreatDoor.Ir
open Go.RowKit Book Book.Wide Mem Go.Deep
set_option linter.unusedSimpArgs false
set_option linter.unusedVariables false
/-- an exit, and the values of its two lists -/
abbrev OX := O × Value × Value
instance lentInhO : Inhabited O := ⟨⟨0, 0, [], []⟩⟩
def outCells (e : OX) : List Value := [.int .i64 e.1.ip, .int .i64 e.1.steps, e.2.1, e.2.2]
/-- their lists can be read -/
def RowsOf (w : World) (L : List OX) : Prop := ∀ e ∈ L, Reads w e.2.1 e.1.stack ∧ Reads w e.2.2 e.1.back
theorem RowsOf.below {w w' : World} {L : List OX} (h : RowsOf w L) (hb : Below w.heap.size w w') : RowsOf w' L := fun e he => ⟨(h e he).1.below hb, (h e he).2.below hb⟩
theorem out_len (l : List OX) : (l.flatMap outCells).length = l.length * 4 := flat_length (enc := outCells) (k := 4) (fun _ => rfl) l
theorem out_one {w : World} {l : List OX} (h : RowsOf w l) : ∀ u ∈ l.flatMap outCells, u.oneCell' = true := by
  intro u hu
  rw [List.mem_flatMap] at hu
  obtain ⟨e, he, hu⟩ := hu
  obtain ⟨h1, h2⟩ := h e he
  obtain ⟨a1, c1, e1⟩ := reads_form h1
  obtain ⟨a2, c2, e2⟩ := reads_form h2
  simp only [outCells, List.mem_cons, List.not_mem_nil, or_false] at hu
  rcases hu with rfl | rfl | rfl | rfl
  · rfl
  · rfl
  · rw [e1]; rfl
  · rw [e2]; rfl
theorem out_back {l : List OX} {j : Nat} {u : Value} (h : (l.flatMap outCells)[j]? = some u) : ∃ x, l[j / 4]? = some x ∧ (outCells x)[j % 4]? = some u := by
  have hj := (List.getElem?_eq_some_iff.1 h).1
  rw [out_len] at hj
  obtain ⟨x, hx⟩ : ∃ x, l[j / 4]? = some x := ⟨_, List.getElem?_eq_getElem (by omega)⟩
  have h4 : j % 4 < 4 := Nat.mod_lt _ (by decide)
  obtain ⟨u', hu⟩ : ∃ u', (outCells x)[j % 4]? = some u' := ⟨_, List.getElem?_eq_getElem (by show j % 4 < 4; exact h4)⟩
  have h1 := flat_at (enc := outCells) (k := 4) (fun _ => rfl) hx hu
  rw [show j / 4 * 4 + j % 4 = j by omega, h] at h1
  exact ⟨x, hx, by rw [hu]; exact h1.symm⟩
theorem ReadsO.rows {w : World} {v : Value} {l : List O} (h : ReadsO w v l) : ∃ L : List OX, L.map (·.1) = l ∧ ReadsK w 4 v (L.flatMap outCells) ∧ RowsOf w L := by
  obtain ⟨ao, cap, e, hc⟩ := h
  have each : ∀ i, i < l.length → ∃ q : OX, l[i]? = some q.1 ∧ (∃ ad : Addr, ao = some ad ∧ w.cell? (ad.add (i * 4)) = some (.int .i64 q.1.ip) ∧ w.cell? ⟨(ad.add (i * 4)).block, (ad.add (i * 4)).off + 1, none⟩ = some (.int .i64 q.1.steps) ∧ w.cell? ⟨(ad.add (i * 4)).block, (ad.add (i * 4)).off + 2, none⟩ = some q.2.1 ∧ w.cell? ⟨(ad.add (i * 4)).block, (ad.add (i * 4)).off + 3, none⟩ = some q.2.2) ∧ Reads w q.2.1 q.1.stack ∧ Reads w q.2.2 q.1.back := by
    intro i hi
    have hx : l[i]? = some l[i] := List.getElem?_eq_getElem hi
    obtain ⟨ad, vs, vb, ha, h0, h1, h2, h3, h4, h5⟩ := hc i _ hx
    exact ⟨(l[i], vs, vb), hx, ⟨ad, ha, h0, h1, h2, h3⟩, h4, h5⟩
  obtain ⟨q, hq⟩ := choose_lt each
  have hlen : ((List.range l.length).map q).length = l.length := by simp
  have hat : ∀ j x, ((List.range l.length).map q)[j]? = some x → j < l.length ∧ q j = x := by
    intro j x h
    have hj := (List.getElem?_eq_some_iff.1 h).1
    rw [hlen] at hj
    rw [List.getElem?_map, List.getElem?_range hj] at h
    exact ⟨hj, by simpa using h⟩
  refine ⟨(List.range l.length).map q, ?_, ⟨ao, l.length, cap, e, by rw [out_len, hlen], fun j u hj => ?_⟩, fun x hx => ?_⟩
  · apply List.ext_getElem?
    intro i
    by_cases hi : i < l.length
    · rw [List.getElem?_map, List.getElem?_map, List.getElem?_range hi]
      exact (hq i hi).1.symm
    · rw [List.getElem?_eq_none (by simp; omega), List.getElem?_eq_none (by omega)]
  · obtain ⟨x, hx, hu⟩ := out_back hj
    obtain ⟨hj4, rfl⟩ := hat _ _ hx
    obtain ⟨ad, ha, h0, h1, h2, h3⟩ := (hq _ hj4).2.1
    refine ⟨ad, ha, ?_⟩
    have hm : j % 4 = 0 ∨ j % 4 = 1 ∨ j % 4 = 2 ∨ j % 4 = 3 := by omega
    have ed : ∀ i, ad.add (j / 4 * 4 + i) = ⟨(ad.add (j / 4 * 4)).block, (ad.add (j / 4 * 4)).off + i, none⟩ → i = j % 4 → ad.add j = ⟨(ad.add (j / 4 * 4)).block, (ad.add (j / 4 * 4)).off + i, none⟩ := fun i e hi => by rw [← e, hi, show j / 4 * 4 + j % 4 = j by omega]
    rcases hm with hm | hm | hm | hm
    · rw [hm] at hu
      obtain rfl := Option.some.inj hu
      rw [show ad.add j = ad.add (j / 4 * 4) by rw [show j / 4 * 4 = j by omega]]
      exact h0
    · rw [hm] at hu
      obtain rfl := Option.some.inj hu
      rw [ed 1 (by rw [← Go.Deep.add_add]; rfl) hm.symm]
      exact h1
    · rw [hm] at hu
      obtain rfl := Option.some.inj hu
      rw [ed 2 (by rw [← Go.Deep.add_add]; rfl) hm.symm]
      exact h2
    · rw [hm] at hu
      obtain rfl := Option.some.inj hu
      rw [ed 3 (by rw [← Go.Deep.add_add]; rfl) hm.symm]
      exact h3
  · obtain ⟨j, hj, rfl⟩ := List.mem_map.1 hx
    exact (hq j (by simpa using hj)).2.2
theorem ReadsO.of_owns {w : World} {B : Nat} {v : Value} {L : List OX} (h : OwnsK w B 58 4 v (L.flatMap outCells)) (hr : RowsOf w L) : ReadsO w v (L.map (·.1)) := by
  rcases Nat.eq_zero_or_pos L.length with h0 | h0
  · have e : L = [] := List.eq_nil_of_length_eq_zero h0
    subst e
    obtain ⟨ao, cap, e⟩ := h.slice (n := 0) rfl (by decide)
    exact ⟨ao, cap, e, fun j x hj => by simp at hj⟩
  · obtain ⟨g, cap, e, hc, -, -⟩ := h.row (out_len L) (by decide) h0
    refine ⟨_, cap, by rw [e, List.length_map], fun j x hj => ?_⟩
    rw [List.getElem?_map, Option.map_eq_some_iff] at hj
    obtain ⟨y, hy, rfl⟩ := hj
    have a0 := hc (j * 4 + 0) _ (flat_at (enc := outCells) (k := 4) (fun _ => rfl) hy (i := 0) rfl)
    have a1 := hc (j * 4 + 1) _ (flat_at (enc := outCells) (k := 4) (fun _ => rfl) hy (i := 1) rfl)
    have a2 := hc (j * 4 + 2) _ (flat_at (enc := outCells) (k := 4) (fun _ => rfl) hy (i := 2) rfl)
    have a3 := hc (j * 4 + 3) _ (flat_at (enc := outCells) (k := 4) (fun _ => rfl) hy (i := 3) rfl)
    have hm := hr y (List.mem_of_getElem? hy)
    refine ⟨⟨g, 0, none⟩, y.2.1, y.2.2, rfl, ?_, ?_, ?_, ?_, hm.1, hm.2⟩
    all_goals rw [add_row]
    · exact a0
    · exact a1
    · exact a2
    · exact a3
set_option maxRecDepth 1000000 in
theorem Tryz.irOutInfo : (Tryz.prog.info? 58).map (fun i => (i.zero, i.size, i.bytes)) = some (some (.agg #[.int .i64 0, .int .i64 0, .slice none 0 0, .slice none 0 0]), 4, 64) := by kernel_rfl
/-- a list of numbers that is read, none of its cells in a block -/
def ReadsX (w : World) (g : Nat) (v : Value) (xs : List Int) : Prop := ∃ ao cap, v = .slice ao xs.length cap ∧ ∀ j x, xs[j]? = some x → ∃ a : Addr, ao = some a ∧ (a.add j).block ≠ g ∧ w.cell? (a.add j) = some (.int .i64 x)
theorem ReadsX.reads {w : World} {g : Nat} {v : Value} {xs : List Int} (h : ReadsX w g v xs) : Reads w v xs := by
  obtain ⟨ao, cap, e, hc⟩ := h
  exact ⟨ao, cap, e, fun j x hj => by obtain ⟨a, ha, _, hx⟩ := hc j x hj; exact ⟨a, ha, hx⟩⟩
theorem ReadsX.touch {w w' : World} {g : Nat} {v : Value} {xs : List Int} (h : ReadsX w g v xs) (ht : Stirred w w' [g]) : ReadsX w' g v xs := by
  obtain ⟨ao, cap, e, hc⟩ := h
  refine ⟨ao, cap, e, fun j x hj => ?_⟩
  obtain ⟨a, ha, hn, hx⟩ := hc j x hj
  exact ⟨a, ha, hn, by rw [World.cell?_of_block (ht.block _ (World.block_lt_of_cell? w _ hx) (by rw [List.mem_singleton]; exact hn))]; exact hx⟩
theorem ReadsX.stirTo {w w' : World} {g k : Nat} {v : Value} {xs : List Int} (h : ReadsX w g v xs) (h' : ReadsX w k v xs) (ht : Stirred w w' [g]) : ReadsX w' k v xs := by
  have h1 := h.touch ht
  obtain ⟨ao, cap, e, hc⟩ := h'
  obtain ⟨ao', cap', e', hc'⟩ := h1
  rw [e] at e'
  simp only [Value.slice.injEq, true_and] at e'
  obtain ⟨rfl, rfl⟩ := e'
  refine ⟨ao, cap, e, fun j x hj => ?_⟩
  obtain ⟨a, ha, hn, _⟩ := hc j x hj
  obtain ⟨a', ha', _, hx⟩ := hc' j x hj
  rw [ha] at ha'
  obtain rfl := Option.some.inj ha'
  exact ⟨a, ha, hn, hx⟩
theorem ReadsX.below {w w' : World} {g : Nat} {v : Value} {xs : List Int} (h : ReadsX w g v xs) (hb : Below w.heap.size w w') : ReadsX w' g v xs := by
  obtain ⟨ao, cap, e, hc⟩ := h
  refine ⟨ao, cap, e, fun j x hj => ?_⟩
  obtain ⟨a, ha, hn, hx⟩ := hc j x hj
  exact ⟨a, ha, hn, cellOn hb hx⟩
theorem ReadsX.of_old {w : World} {g : Nat} {v : Value} {xs : List Int} (h : Reads w v xs) (hg : w.heap.size ≤ g) : ReadsX w g v xs := by
  obtain ⟨ao, cap, e, hc⟩ := h
  refine ⟨ao, cap, e, fun j x hj => ?_⟩
  obtain ⟨a, ha, hx⟩ := hc j x hj
  exact ⟨a, ha, fun e => by have := World.block_lt_of_cell? w _ hx; omega, hx⟩
theorem ReadsX.of_owns {w : World} {B g : Nat} {v : Value} {xs : List Int} (h : Owns w B 3 v (vals xs)) (hg : ∀ k, blk v = some k → k ≠ g) : ReadsX w g v xs := by
  rcases Nat.eq_zero_or_pos xs.length with h0 | h0
  · obtain ⟨ao, cap, e⟩ := h.slice
    rw [vals_length] at e
    exact ⟨ao, cap, e, fun j x hj => by have := (List.getElem?_eq_some_iff.1 hj).1; omega⟩
  · obtain ⟨g', cap, e, hb⟩ := owns_slice h h0
    obtain ⟨ao, cap', e', hc⟩ := Reads.of_owns h
    rw [e] at e'
    simp only [Value.slice.injEq, true_and] at e'
    refine ⟨_, cap, e, fun j x hj => ?_⟩
    obtain ⟨a, ha, hx⟩ := hc j x hj
    rw [← e'.1] at ha
    obtain rfl := Option.some.inj ha
    exact ⟨_, rfl, by rw [add_row]; exact hg g' hb, hx⟩
/-- their lists can be read, and lie elsewhere -/
def RowsX (w : World) (g : Nat) (L : List OX) : Prop := ∀ e ∈ L, ReadsX w g e.2.1 e.1.stack ∧ ReadsX w g e.2.2 e.1.back
theorem RowsX.rows {w : World} {g : Nat} {L : List OX} (h : RowsX w g L) : RowsOf w L := fun e he => ⟨(h e he).1.reads, (h e he).2.reads⟩
theorem RowsX.touch {w w' : World} {g : Nat} {L : List OX} (h : RowsX w g L) (ht : Stirred w w' [g]) : RowsX w' g L := fun e he => ⟨(h e he).1.touch ht, (h e he).2.touch ht⟩
theorem RowsX.stirTo {w w' : World} {g k : Nat} {L : List OX} (h : RowsX w g L) (h' : RowsX w k L) (ht : Stirred w w' [g]) : RowsX w' k L := fun e he => ⟨(h e he).1.stirTo (h' e he).1 ht, (h e he).2.stirTo (h' e he).2 ht⟩
theorem RowsX.of_old {w : World} {g : Nat} {L : List OX} (h : RowsOf w L) (hg : w.heap.size ≤ g) : RowsX w g L := fun e he => ⟨ReadsX.of_old (h e he).1 hg, ReadsX.of_old (h e he).2 hg⟩
theorem RowsX.below {w w' : World} {g : Nat} {L : List OX} (h : RowsX w g L) (hb : Below w.heap.size w w') : RowsX w' g L := fun e he => ⟨(h e he).1.below hb, (h e he).2.below hb⟩
theorem RowsX.set {w : World} {g : Nat} {L : List OX} (h : RowsX w g L) (k : Nat) {e : OX} (he : ReadsX w g e.2.1 e.1.stack ∧ ReadsX w g e.2.2 e.1.back) : RowsX w g (L.set k e) := fun x hx => by
  rcases List.mem_or_eq_of_mem_set hx with h1 | h1
  · exact h x h1
  · rw [h1]; exact he
theorem out_set {l : List OX} {k i : Nat} {x x' : OX} {u : Value} (hx : l[k]? = some x) (hi : i < 4) (he : outCells x' = (outCells x).set i u) : (l.flatMap outCells).set (k * 4 + i) u = (l.set k x').flatMap outCells := by
  induction l generalizing k with
  | nil => cases hx
  | cons a r ih =>
    cases k with
    | zero =>
      obtain rfl : a = x := by simpa using hx
      rw [List.flatMap_cons, List.set_cons_zero, List.flatMap_cons, he, Nat.zero_mul, Nat.zero_add, List.set_append_left _ _ (by show i < 4; exact hi)]
    | succ k =>
      have hx' : r[k]? = some x := by simpa using hx
      rw [List.flatMap_cons, List.set_cons_succ, List.flatMap_cons, ← ih hx', List.set_append_right _ _ (by show 4 ≤ (k + 1) * 4 + i; omega)]
      congr 2
      show (k + 1) * 4 + i - 4 = k * 4 + i
      omega
theorem map_same {l : List OX} {k : Nat} {x x' : OX} (hx : l[k]? = some x) (h : x'.1 = x.1) : (l.set k x').map (·.1) = l.map (·.1) := by
  induction l generalizing k with
  | nil => cases hx
  | cons a r ih =>
    cases k with
    | zero =>
      obtain rfl : a = x := by simpa using hx
      rw [List.set_cons_zero, List.map_cons, List.map_cons, h]
    | succ k =>
      have hx' : r[k]? = some x := by simpa using hx
      rw [List.set_cons_succ, List.map_cons, List.map_cons, ih hx']
/-- what is known while an exit's two lists are copied -/
structure XS (w0 : World) (B g : Nat) (P : Nat → Prop) (n cap : Nat) (L : List OX) (x2 x3 : List Int) (o1 o2 : Option Value) (wc : World) : Prop where
  hb : Below w0.heap.size w0 wc
  ho : OwnsK wc B 58 4 (.slice (some ⟨g, 0, none⟩) n cap) (L.flatMap outCells)
  hg : g < wc.heap.size
  hk : ∀ k, P k → k < wc.heap.size
  hx : RowsX wc g L
  hy : ∀ k, P k → RowsX wc k L
  h1 : ∀ v, o1 = some v → ReadsX wc g v x2 ∧ ∀ k, P k → ReadsX wc k v x2
  h2 : ∀ v, o2 = some v → ReadsX wc g v x3 ∧ ∀ k, P k → ReadsX wc k v x3
section
variable {w0 : World} {B g n cap : Nat} {P : Nat → Prop} {L : List OX} {x2 x3 : List Int} {o1 o2 : Option Value} {wc wn : World}
theorem XS.step (h : XS w0 B g P n cap L x2 x3 o1 o2 wc) (hb : Below wc.heap.size wc wn) : XS w0 B g P n cap L x2 x3 o1 o2 wn :=
  ⟨h.hb.trans (hb.mono h.hb.size), h.ho.below hb, Nat.lt_of_lt_of_le h.hg hb.size, fun k hk => Nat.lt_of_lt_of_le (h.hk k hk) hb.size, h.hx.below hb, fun k hk => (h.hy k hk).below hb, fun v e => ⟨(h.h1 v e).1.below hb, fun k hk => ((h.h1 v e).2 k hk).below hb⟩, fun v e => ⟨(h.h2 v e).1.below hb, fun k hk => ((h.h2 v e).2 k hk).below hb⟩⟩
theorem XS.new (h : XS w0 B g P n cap L x2 x3 o1 o2 wc) {v : Value} {xs : List Int} (hl : Owns wn wc.heap.size 3 v (vals xs)) : ReadsX wn g v xs ∧ ∀ k, P k → ReadsX wn k v xs :=
  ⟨ReadsX.of_owns hl (fun k hk => by have h1 := (Owns.block hl k hk).1; have h2 := h.hg; omega), fun k hp => ReadsX.of_owns hl (fun q hk => by have h1 := (Owns.block hl q hk).1; have h2 := h.hk k hp; omega)⟩
theorem XS.set1 (h : XS w0 B g P n cap L x2 x3 o1 o2 wc) {v : Value} (hl : Owns wn wc.heap.size 3 v (vals x2)) (hb : Below wc.heap.size wc wn) : XS w0 B g P n cap L x2 x3 (some v) o2 wn :=
  have h' := h.step hb
  ⟨h'.hb, h'.ho, h'.hg, h'.hk, h'.hx, h'.hy, fun u e => by cases e; exact h.new hl, h'.h2⟩
theorem XS.set2 (h : XS w0 B g P n cap L x2 x3 o1 o2 wc) {v : Value} (hl : Owns wn wc.heap.size 3 v (vals x3)) (hb : Below wc.heap.size wc wn) : XS w0 B g P n cap L x2 x3 o1 (some v) wn :=
  have h' := h.step hb
  ⟨h'.hb, h'.ho, h'.hg, h'.hk, h'.hx, h'.hy, h'.h1, fun u e => by cases e; exact h.new hl⟩
theorem XS.cells (h : XS w0 B g P n cap L x2 x3 o1 o2 wc) (hL : L.length = n) {j : Nat} {o : O} {vs vb : Value} (hj : L[j]? = some (o, vs, vb)) :
    wc.cell? ⟨g, j * 4 + 2, none⟩ = some vs ∧ wc.cell? ⟨g, j * 4 + 3, none⟩ = some vb ∧ wc.frozen? ⟨g, j * 4 + 2, none⟩ = false ∧ wc.frozen? ⟨g, j * 4 + 3, none⟩ = false := by
  have hn := (List.getElem?_eq_some_iff.1 hj).1
  obtain ⟨g', cap', e, hc, hf, -⟩ := h.ho.row (n := n) (by rw [out_len, hL]) (by decide) (by omega)
  simp only [Value.slice.injEq, Option.some.injEq, Addr.mk.injEq, and_true, true_and] at e
  obtain ⟨rfl, rfl⟩ := e
  exact ⟨hc _ _ (flat_at (enc := outCells) (k := 4) (fun _ => rfl) hj (i := 2) rfl), hc _ _ (flat_at (enc := outCells) (k := 4) (fun _ => rfl) hj (i := 3) rfl), hf _, hf _⟩
theorem XS.done {j : Nat} {y0 y1 : Int} {vs vb c1 c2 : Value} (h : XS w0 B g P n cap L x2 x3 (some c1) (some c2) wc) (hj : L[j]? = some (⟨y0, y1, x2, x3⟩, vs, vb)) :
    OwnsK ((wc.setCell ⟨g, j * 4 + 2, none⟩ c1).setCell ⟨g, j * 4 + 3, none⟩ c2) B 58 4 (.slice (some ⟨g, 0, none⟩) n cap) ((L.set j (⟨y0, y1, x2, x3⟩, c1, c2)).flatMap outCells) ∧ RowsX ((wc.setCell ⟨g, j * 4 + 2, none⟩ c1).setCell ⟨g, j * 4 + 3, none⟩ c2) g (L.set j (⟨y0, y1, x2, x3⟩, c1, c2)) ∧ (∀ k, P k → RowsX ((wc.setCell ⟨g, j * 4 + 2, none⟩ c1).setCell ⟨g, j * 4 + 3, none⟩ c2) k (L.set j (⟨y0, y1, x2, x3⟩, c1, c2))) ∧ Stirred wc ((wc.setCell ⟨g, j * 4 + 2, none⟩ c1).setCell ⟨g, j * 4 + 3, none⟩ c2) [g] := by
  have ht : Stirred wc ((wc.setCell ⟨g, j * 4 + 2, none⟩ c1).setCell ⟨g, j * 4 + 3, none⟩ c2) [g] := (Stirred.setCell wc ⟨g, j * 4 + 2, none⟩ c1).trans (Stirred.setCell _ ⟨g, j * 4 + 3, none⟩ c2) (fun k hk => .inl hk)
  have hn := (List.getElem?_eq_some_iff.1 hj).1
  have h1 := (h.ho.stored (j * 4 + 2) c1).stored (j * 4 + 3) c2
  rw [out_set (x' := (⟨y0, y1, x2, x3⟩, c1, vb)) hj (by decide) rfl, out_set (l := L.set j _) (x := (⟨y0, y1, x2, x3⟩, c1, vb)) (x' := (⟨y0, y1, x2, x3⟩, c1, c2)) (by rw [List.getElem?_set_self hn]) (by decide) rfl, List.set_set] at h1
  exact ⟨h1, (h.hx.touch ht).set j ⟨(h.h1 _ rfl).1.touch ht, (h.h2 _ rfl).1.touch ht⟩, fun k hk => (h.hx.stirTo (h.hy k hk) ht).set j ⟨(h.h1 _ rfl).1.stirTo ((h.h1 _ rfl).2 k hk) ht, (h.h2 _ rfl).1.stirTo ((h.h2 _ rfl).2 k hk) ht⟩, ht⟩
end
theorem RowsOf.stirred {w w' : World} {row : Option Nat} {L : List OX} (h0 : RowsOf w L) (h : ∀ g, row = some g → RowsX w g L) (ht : Stirred w w' row.toList) : RowsOf w' L := by
  cases row with
  | none => exact h0.below (ht.below (B := w.heap.size) (fun k hk => by cases hk) (Nat.le_refl _))
  | some g => exact ((h g rfl).touch ht).rows
theorem RowsX.stirred {w w' : World} {row : Option Nat} {k : Nat} {L : List OX} (h0 : RowsX w k L) (h : ∀ g, row = some g → RowsX w g L) (ht : Stirred w w' row.toList) : RowsX w' k L := by
  cases row with
  | none => exact h0.below (ht.below (B := w.heap.size) (fun k hk => by cases hk) (Nat.le_refl _))
  | some g => exact (h g rfl).stirTo h0 ht
set_option maxHeartbeats 8000000 in
theorem copyExits_any (v : Value) (L0 : List OX) (w : World) (h : ReadsK w 4 v (L0.flatMap outCells)) (hr : RowsOf w L0) (hl : L0.length ≤ 1000000) (hs : ∀ e ∈ L0, e.1.stack.length ≤ 1000000 ∧ e.1.back.length ≤ 1000000) (P : Nat → Prop) (hk : ∀ k, P k → RowsX w k L0) (hkw : ∀ k, P k → k < w.heap.size) :
    Calls Tryz.prog 94 #[v] w fun e w' => ∃ c L, e = .returned c ∧ L.map (·.1) = L0.map (·.1) ∧ OwnsK w' w.heap.size 58 4 c (L.flatMap outCells) ∧ RowsOf w' L ∧ (∀ g, blk c = some g → RowsX w' g L) ∧ (∀ k, P k → RowsX w' k L) ∧ Below w.heap.size w w' := by
  obtain ⟨i0, q1, q2, q3, q4⟩ := info_parts Tryz.irOutInfo
  have HI := Lib.hid (And.intro q1 (And.intro q2 (And.intro q3 q4)))
  have HR := Lib.hid h
  have HO := Lib.hid (out_one hr)
  have HRW := Lib.hid hr
  have HSZ := Lib.hid hs
  have HK := Lib.hid hk
  have HKW := Lib.hid hkw
  obtain ⟨n, hn⟩ : ∃ n, L0.length = n := ⟨_, rfl⟩
  have HN := Lib.hid hn
  have HL := Lib.hid (show (L0.flatMap outCells).length = n * 4 by rw [out_len, hn])
  obtain ⟨vo, n', vc, rfl, hn', _⟩ := h
  obtain rfl : n' = n := by have := HL.out; omega
  rw [hn] at hl
  clear q1 q2 q3 q4 hn hn' hr hs hk hkw
  go_enter Tryz.func94, Tryz.ntmps94
  go_wp2_with (refine Wide.wpList_append_reads rfl _ _ 23 rfl w.heap.size 58 4 i0 (.agg #[.int .i64 0, .int .i64 0, .slice none 0 0, .slice none 0 0]) 64 Tryz.underlying23 HI.out.1 HI.out.2.1 HI.out.2.2.1 HI.out.2.2.2 rfl (by decide) (.slice none 0 0) 0 [] rfl (OwnsK.nil _ _ _ _) rfl (.slice vo n' vc) n' (L0.flatMap outCells) rfl HR.out HL.out ?c0 ?c1 ?c2 (Nat.le_refl _) ?_)
  case c0 => exact HO.out
  case c1 => unfold maxLen; omega
  case c2 => omega
  intro v' w1 hown _ hT hN
  have HF := Lib.hid (show OwnsK w1 w.heap.size 58 4 v' (L0.flatMap outCells) from by simpa using hown)
  have HB1 := Lib.hid (hT.below (B := w.heap.size) (fun _ h => by cases h) (Nat.le_refl _))
  obtain ⟨fo, fc, hv'⟩ := HF.out.slice (n := n') HL.out (by decide)
  subst hv'
  clear hown hT hN
  go_wp2_with fail
  go_loopg [3] n' (fun z i wr => ∃ (j : Nat) (L : List OX), z = n' - j ∧ j ≤ n' ∧ i = .int .i64 (j : Int) ∧ Hid (L.map (·.1) = L0.map (·.1)) ∧ Hid (OwnsK wr w.heap.size 58 4 (.slice fo n' fc) (L.flatMap outCells)) ∧ Hid (∀ g, w.heap.size ≤ g → blk (.slice fo n' fc) = some g → RowsX wr g L) ∧ Hid (∀ k, P k → RowsX wr k L) ∧ Hid (Below w.heap.size w wr))
  case atStart => exact ⟨0, L0, rfl, Nat.zero_le _, rfl, Lib.hid rfl, Lib.hid HF.out, Lib.hid (fun g hg _ e he => ⟨(ReadsX.of_old (HRW.out e he).1 hg).below HB1.out, (ReadsX.of_old (HRW.out e he).2 hg).below HB1.out⟩), Lib.hid (fun k hk => (HK.out k hk).below HB1.out), HB1⟩
  case round =>
    obtain ⟨j, L, rfl, hj, rfl, HM, HX, HRX, HRK, HBR⟩ := hrel
    by_cases hlt : j < n'
    · have hLl : L.length = n' := by have h := congrArg List.length HM.out; rw [List.length_map, List.length_map, HN.out] at h; exact h
      obtain ⟨g, cap, e1, hc, hf, hcap⟩ := HX.out.row (n := n') (by rw [out_len, hLl]) (by decide) (by omega)
      simp only [Value.slice.injEq, true_and] at e1
      obtain ⟨rfl, rfl⟩ := e1
      have hbk : blk (.slice (some ⟨g, 0, none⟩) n' fc) = some g := HX.out.capAt (by rw [out_len, hLl]; omega)
      have hgw := (HX.out.block g hbk).1
      obtain ⟨⟨⟨x0, x1, x2, x3⟩, vs, vb⟩, hx⟩ : ∃ x, L[j]? = some x := ⟨_, List.getElem?_eq_getElem (by omega)⟩
      have HXJ := Lib.hid hx
      have hrows := HRX.out g hgw hbk _ (List.mem_of_getElem? hx)
      have HRG := Lib.hid (HRX.out g hgw hbk)
      have hsz : x2.length ≤ 1000000 ∧ x3.length ≤ 1000000 := by
        have h : (⟨x0, x1, x2, x3⟩ : O) ∈ L0.map (·.1) := by rw [← HM.out]; exact List.mem_map.2 ⟨_, List.mem_of_getElem? hx, rfl⟩
        obtain ⟨e, he, h2⟩ := List.mem_map.1 h
        have h3 := HSZ.out e he
        rw [h2] at h3
        exact h3
      dsimp only at hrows
      have C1 := Lib.hid (fun wd (hb : Below wr.heap.size wr wd) => copyReads_any vs x2 wd (hrows.1.reads.below hb) hsz.1)
      have C2 := Lib.hid (fun wd (hb : Below wr.heap.size wr wd) => copyReads_any vb x3 wd (hrows.2.reads.below hb) hsz.2)
      have hgl := (HX.out.block g hbk).2.1
      have HS : Hid (XS wr w.heap.size g P n' fc L x2 x3 none none wr.drew) := Lib.hid (XS.step (wc := wr) ⟨Below.refl _ _, HX.out, hgl, fun k hk => Nat.lt_of_lt_of_le (HKW.out k hk) HBR.out.size, HRX.out g hgw hbk, HRK.out, fun v e => (by cases e), fun v e => (by cases e)⟩ (Below.refl _ _).drew)
      obtain ⟨so, sc, rfl⟩ := reads_form hrows.1.reads
      obtain ⟨bo, bc, rfl⟩ := reads_form hrows.2.reads
      have z0 : (0 : Int) ≤ (j : Int) := by omega
      have z1 : (j : Int) < (n' : Int) := by omega
      have HGW := Lib.hid hgw
      have HBK := Lib.hid hbk
      have HLL := Lib.hid hLl
      have HJL := Lib.hid hlt
      obtain ⟨a2, a3, f2, f3⟩ := HS.out.cells hLl hx
      clear hc hf hcap hx hrows hsz hgw hbk hLl hgl
      go_wp2_with fail
      go_region_with (first
        | (go_at_call_of 55 (Value.slice so x2.length sc); refine (C1.out _ HS.out.hb).mono ?_; rintro e wn ⟨c1, rfl, hl, hb⟩; obtain ⟨c1o, c1c, rfl⟩ := reads_form (Reads.of_owns hl); have HS := Lib.hid (HS.out.set1 hl hb); clear hl hb; obtain ⟨a2, a3, f2, f3⟩ := HS.out.cells HLL.out HXJ.out)
        | (go_at_call_of 55 (Value.slice bo x3.length bc); refine (C2.out _ HS.out.hb).mono ?_; rintro e wn ⟨c2, rfl, hl, hb⟩; obtain ⟨c2o, c2c, rfl⟩ := reads_form (Reads.of_owns hl); have HS := Lib.hid (HS.out.set2 hl hb); clear hl hb; obtain ⟨a2, a3, f2, f3⟩ := HS.out.cells HLL.out HXJ.out))
      all_goals
        have D := Lib.hid (HS.out.done HXJ.out)
        have HSB := Lib.hid HS.out.hb
        clear HS a2 a3 f2 f3 C1 C2
        go_wp2_with fail
        go_roundg (n' - (j + 1))
        case measure => have := HJL.out; omega
        case rel =>
          exact ⟨j + 1, L.set j (⟨x0, x1, x2, x3⟩, Value.slice c1o x2.length c1c, Value.slice c2o x3.length c2c), rfl, HJL.out, by go_num, Lib.hid ((map_same (x' := (⟨x0, x1, x2, x3⟩, Value.slice c1o x2.length c1c, Value.slice c2o x3.length c2c)) HXJ.out rfl).trans HM.out), Lib.hid D.out.1, Lib.hid (fun g' _ hg' => by have h := HBK.out; rw [hg'] at h; cases h; exact D.out.2.1), Lib.hid D.out.2.2.1, Lib.hid ((HBR.out.trans (HSB.out.mono HBR.out.size)).trans (D.out.2.2.2.below (B := w.heap.size) (fun k hk => by rw [List.mem_singleton.1 hk]; exact HGW.out) ((HBR.out.trans (HSB.out.mono HBR.out.size)).size)))⟩
    · obtain rfl : j = n' := by omega
      have HRF := Lib.hid (show RowsOf wr L from by
        rcases Nat.eq_zero_or_pos j with h0 | h0
        · have hLl : L.length = 0 := by have h := congrArg List.length HM.out; rw [List.length_map, List.length_map, HN.out] at h; omega
          have e : L = [] := List.eq_nil_of_length_eq_zero hLl
          rw [e]
          exact fun x hx => by cases hx
        · have hLl : L.length = j := by have h := congrArg List.length HM.out; rw [List.length_map, List.length_map, HN.out] at h; exact h
          obtain ⟨g, cap, e1, -, -, -⟩ := HX.out.row (n := j) (by rw [out_len, hLl]) (by decide) h0
          simp only [Value.slice.injEq, true_and] at e1
          obtain ⟨rfl, rfl⟩ := e1
          have hbk : blk (.slice (some ⟨g, 0, none⟩) j fc) = some g := HX.out.capAt (by rw [out_len, hLl]; omega)
          exact (HRX.out g (HX.out.block g hbk).1 hbk).rows)
      go_wp2
      go_ret
      exact ⟨_, rfl, L, HM.out, HX.out, HRF.out, fun g hg => HRX.out g (HX.out.block g hg).1 hg, HRK.out, HBR.out⟩
/-- the mark -/
def markX : OX := (⟨-77, 0, [], []⟩, .slice none 0 0, .slice none 0 0)
/-- a list with room behind it, in which a mark stands -/
def LentX (w : World) (B g cap : Nat) (L : List OX) : Prop := OwnsK w B 58 4 (.slice (some ⟨g, 0, none⟩) (L.length + 1) cap) ((L ++ [markX]).flatMap outCells)
theorem LentX.owns {w : World} {B g cap : Nat} {L : List OX} (h : LentX w B g cap L) : OwnsK w B 58 4 (.slice (some ⟨g, 0, none⟩) L.length cap) (L.flatMap outCells) := by
  have h1 := OwnsK.shorter (m := L.length) h (by decide) (Nat.le_succ _)
  rw [List.flatMap_append, ← out_len, List.take_left] at h1
  exact h1
theorem LentX.below {w w' : World} {B g cap : Nat} {L : List OX} (h : LentX w B g cap L) (hb : Below w.heap.size w w') : LentX w' B g cap L := OwnsK.below h hb
set_option maxHeartbeats 4000000 in
theorem lentExits_any (v : Value) (L : List OX) (w : World) (hK : ReadsK w 4 v (L.flatMap outCells)) (hr : RowsOf w L) (hl : L.length ≤ 1000) (hs : ∀ e ∈ L, e.1.stack.length ≤ 1000000 ∧ e.1.back.length ≤ 1000000) (P : Nat → Prop) (hk : ∀ k, P k → RowsX w k L) (hkw : ∀ k, P k → k < w.heap.size) :
    Calls Tryz.prog 39 #[v] w fun e w' => ∃ g cap L', e = .returned (.slice (some ⟨g, 0, none⟩) L.length cap) ∧ L'.map (·.1) = L.map (·.1) ∧ LentX w' w.heap.size g cap L' ∧ RowsOf w' L' ∧ (∀ k, P k → RowsX w' k L') ∧ L.length + 1 ≤ cap ∧ Below w.heap.size w w' := by
  obtain ⟨i0, q1, q2, q3, q4⟩ := info_parts Tryz.irOutInfo
  have HI := Lib.hid (And.intro q1 (And.intro q2 (And.intro q3 q4)))
  have C := Lib.hid (copyExits_any v L w hK hr (by omega) hs P hk hkw)
  obtain ⟨vo, n, vc, rfl, hn, _⟩ := hK
  obtain rfl : L.length = n := by rw [out_len] at hn; omega
  obtain ⟨n, hn⟩ : ∃ n, L.length = n := ⟨_, rfl⟩
  have HN := Lib.hid hn
  rw [hn] at C hl ⊢
  clear q1 q2 q3 q4 hn hr hs hk
  go_enter Tryz.func39, Tryz.ntmps39
  go_wp2_with fail
  refine C.out.mono ?_
  rintro e w1 ⟨c, L1, rfl, hm, hO, hR1, hRX, hRK, hB⟩
  have HLM := Lib.hid hm
  have hN1 : L1.length = L.length := by have h := congrArg List.length hm; rw [List.length_map, List.length_map] at h; exact h
  have HN := Lib.hid (hN1.trans HN.out)
  have HL := Lib.hid (show (L1.flatMap outCells).length = n * 4 by rw [out_len, HN.out])
  obtain ⟨co, cc, hcv⟩ := hO.slice (n := n) HL.out (by decide)
  subst hcv
  have hal := (Below.refl w1.heap.size w1).alloc (Nat.le_refl _) (.cells #[.int .i64 (-77), .int .i64 0, .slice none 0 0, .slice none 0 0] 58)
  have hAN := heap_alloc_new w1 (.cells #[.int .i64 (-77), .int .i64 0, .slice none 0 0, .slice none 0 0] 58)
  have HO := Lib.hid (hO.below hal)
  have HRW := Lib.hid (hR1.below hal)
  have HRX := Lib.hid (fun g hg => (hRX g hg).below hal)
  have HRK := Lib.hid (fun k hk => (hRK k hk).below hal)
  have HRD := Lib.hid (show ReadsK (w1.alloc (.cells #[.int .i64 (-77), .int .i64 0, .slice none 0 0, .slice none 0 0] 58)) 4 (.slice (some ⟨w1.heap.size, 0, none⟩) 1 1) (outCells markX) from ReadsK.of_whole (T := 58) hAN rfl)
  have HB := Lib.hid hB
  have HBA := Lib.hid (hB.trans (hal.mono hB.size))
  clear hO hB C hal hAN hR1 hRX hRK hm hN1
  go_wp2_with (refine Wide.wpList_append_reads rfl _ _ 23 rfl w.heap.size 58 4 i0 (.agg #[.int .i64 0, .int .i64 0, .slice none 0 0, .slice none 0 0]) 64 Tryz.underlying23 HI.out.1 HI.out.2.1 HI.out.2.2.1 HI.out.2.2.2 rfl (by decide) (.slice co n cc) n (L1.flatMap outCells) rfl HO.out HL.out (.slice (some ⟨w1.heap.size, 0, none⟩) 1 1) 1 (outCells markX) rfl HRD.out rfl ?c0 ?c1 ?c2 HBA.out.size ?_)
  case c0 =>
    intro u hu
    simp only [outCells, markX, List.mem_cons, List.not_mem_nil, or_false] at hu
    rcases hu with rfl | rfl | rfl | rfl <;> rfl
  case c1 => unfold maxLen; omega
  case c2 => omega
  intro v' w2 hO2 _ hS _
  obtain ⟨g, cap, hv', -, -, hcap⟩ := hO2.row (n := n + 1) (by rw [List.length_append, HL.out, Nat.add_mul]; rfl) (by decide) (Nat.succ_pos _)
  subst hv'
  have hLS : LentX w2 w.heap.size g cap L1 := by
    unfold LentX
    rw [HN.out, List.flatMap_append]
    simpa using hO2
  have HLS := Lib.hid hLS
  have HR2 := Lib.hid (HRW.out.stirred HRX.out hS)
  have HRK2 := Lib.hid (fun k hk => (HRK.out k hk).stirred HRX.out hS)
  have HBF := Lib.hid (HBA.out.trans (hS.below (B := w.heap.size) (fun k hk => (HO.out.block k (by simpa using hk)).1) HBA.out.size))
  have hc1 : (n : Int) ≤ (cap : Int) := by omega
  have HC := Lib.hid hcap
  clear hO2 hS hLS hcap
  go_wp2
  go_ret
  exact ⟨g, cap, L1, rfl, HLM.out, HLS.out, HR2.out, HRK2.out, HC.out, HBF.out⟩
set_option maxHeartbeats 2000000 in
theorem staysExits_any (B g cap : Nat) (vb : Value) (L : List OX) (w : World) (h : LentX w B g cap L) (hr : RowsOf w L) (hb : ReadsO w vb (L.map (·.1))) (hl : L.length ≤ 1000) (hs : ∀ e ∈ L, e.1.stack.length ≤ 1000000 ∧ e.1.back.length ≤ 1000000) (hcap : L.length + 1 ≤ cap) :
    Calls Tryz.prog 59 #[.slice (some ⟨g, 0, none⟩) L.length cap, vb] w (Says (.bool true) w) := by
  have C := Lib.hid ((sameExits_any (ReadsO.of_owns h.owns hr) hb (by rw [List.length_map]; omega) (fun o ho => by obtain ⟨e, he, rfl⟩ := List.mem_map.1 ho; exact hs e he)).mono fun e w' hh => (⟨by rw [hh.1, decide_eq_true (rfl : L.map (·.1) = L.map (·.1))], hh.2⟩ : e = Ending.returned (.bool true) ∧ Below w.heap.size w w'))
  obtain ⟨g', cap', e, hc, -, -⟩ := OwnsK.row h (n := L.length + 1) (by rw [out_len, List.length_append]; rfl) (by decide) (Nat.succ_pos _)
  simp only [Value.slice.injEq, Option.some.injEq, Addr.mk.injEq, and_true, true_and] at e
  obtain ⟨rfl, rfl⟩ := e
  have k1 := hc (L.length * 4 + 0) (.int .i64 (-77)) (flat_at (enc := outCells) (k := 4) (fun _ => rfl) (j := L.length) (a := markX) (by simp) (i := 0) rfl)
  obtain ⟨vo, vc, rfl, _⟩ := hb
  obtain ⟨n, hn⟩ : ∃ n, L.length = n := ⟨_, rfl⟩
  rw [List.length_map] at C ⊢
  rw [hn] at C hl hcap k1 ⊢
  have K1 := Lib.hid k1
  have hc1 : (n : Int) + 1 ≤ (cap : Int) := by omega
  have hn0 : (0 : Int) ≤ (n : Int) := by omega
  clear hn h hr k1 hc hs
  go_enter Tryz.func59, Tryz.ntmps59
  go_wp2_with fail
  refine C.out.mono ?_
  rintro e w1 ⟨rfl, hbb⟩
  have HB1 := Lib.hid hbb
  have k1 : w1.cell? ⟨g, n * 4, none⟩ = some (.int .i64 (-77)) := cellOn hbb K1.out
  clear C hbb
  go_wp2
  go_ret
  exact ⟨rfl, HB1.out⟩
end Go.Proofs.YtpecingkoodmfaaGreatDoor.Ir
