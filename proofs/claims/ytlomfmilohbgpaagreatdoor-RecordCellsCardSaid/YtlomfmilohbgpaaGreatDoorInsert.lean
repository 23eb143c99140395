
/- slices.Insert of one number into a row of one's own. -/
import Derived.Test.YtlomfmilohbgpaaGreatDoorRows
import Derived.Test.YtlomfmilohbgpaaGreatDoorBookPlain
import Derived.Shelf.Spec.SlicesInsert
import Derived.Shelf.Spec.SlicesInsertGrow
import Derived.Lib.Hide
namespace Go.Proofs
open Go.Shelf
def Tryz.laysIns_ren : Go.Shelf.Ren := ⟨fun | 21 => 112 | 27 => 123 | 28 => 124 | 35 => 133 | 39 => 145 | n => n, fun | 0 => 0 | 3 => 3 | 4 => 4 | 22 => 22 | n => n, fun | n => n⟩
theorem Tryz.laysIns : Go.Proofs.Lays2.n21 Tryz.prog Tryz.laysIns_ren := {
  mixed := by kernel_rfl
  f21 := Tryz.func112.trans (congrArg some (by kernel_rfl))
  f27 := Tryz.func123.trans (congrArg some (by kernel_rfl))
  f28 := Tryz.func124.trans (congrArg some (by kernel_rfl))
  f35 := Tryz.func133.trans (congrArg some (by kernel_rfl))
  f39 := Tryz.func145.trans (congrArg some (by kernel_rfl))
  t0 := Tryz.underlying0
  a0 := Tryz.isAgg0
  z0 := Tryz.sizeOf0
  v0 := Tryz.zeroValue0
  t3 := Tryz.underlying3
  a3 := Tryz.isAgg3
  z3 := Tryz.sizeOf3
  v3 := Tryz.zeroValue3
  t4 := Tryz.underlying4
  a4 := Tryz.isAgg4
  z4 := Tryz.sizeOf4
  v4 := Tryz.zeroValue4
  t22 := Tryz.underlying22
  a22 := Tryz.isAgg22
  z22 := Tryz.sizeOf22
  v22 := Tryz.zeroValue22
  i3 := by kernel_rfl }
end Go.Proofs
namespace Go.Proofs.YtlomfmilohbgpaaGreatDoor.Book
open Go.RowKit
set_option linter.unusedVariables false
/-- many stores into one block -/
theorem Stirred.setCells (b : Nat) : ∀ (vs : List Value) (o : Nat) (w : World), Stirred w (w.setCells b o vs) [b]
  | [], _, w => Stirred.refl w _
  | v :: r, o, w => (Stirred.setCell w ⟨b, o, none⟩ v).trans (Stirred.setCells b r (o + 1) _) (fun _ h => .inl h)
theorem setCells_block (b T c : Nat) : ∀ (vs : List Value) (o : Nat) (w : World), (∃ cur, w.heap[b]? = some (.cells cur T (0, 0)) ∧ cur.size = c) → ∃ cur, (w.setCells b o vs).heap[b]? = some (.cells cur T (0, 0)) ∧ cur.size = c
  | [], _, _, h => h
  | v :: r, o, w, ⟨cur, h1, h2⟩ => setCells_block b T c r (o + 1) _ ⟨_, whole_set h1 o v, by simpa using h2⟩
/-- a block that is known whole, of which the first cells are these -/
theorem Owns.of_cells {w : World} {B E g cap : Nat} {xs : List Value} (hg : ∃ cur, w.heap[g]? = some (.cells cur E (0, 0)) ∧ cur.size = cap) (hB : B ≤ g) (hc : ∀ j x, xs[j]? = some x → w.cell? ⟨g, j, none⟩ = some x)
    (h0 : 0 < cap) (hl : xs.length ≤ cap) (hm : cap ≤ maxLen) : Owns w B E (.slice (some ⟨g, 0, none⟩) xs.length cap) xs := by
  obtain ⟨cur, h1, h2⟩ := hg
  refine .inr ⟨g, cap, cur, rfl, h0, hB, h1, hl, hm, h2, ?_⟩
  refine List.ext_getElem? fun j => ?_
  rw [List.getElem?_take]
  split
  · rename_i hj
    obtain ⟨x, hx⟩ : ∃ x, xs[j]? = some x := ⟨_, List.getElem?_eq_getElem hj⟩
    have := hc j x hx
    rw [hx]
    simpa [World.cell?, h1] using this
  · rename_i hj
    rw [List.getElem?_eq_none (by omega)]
/-- what slices.Insert leaves of a slice -/
def Inserted (w : World) (B E : Nat) (v : Value) (ys : List Value) (e : Ending) (w' : World) : Prop :=
  ∃ v', e = .returned v' ∧ Owns w' B E v' ys ∧ Stirred w w' (blk v).toList ∧ (blk v' = blk v ∨ ∃ k, blk v' = some k ∧ w.heap.size ≤ k)
end Go.Proofs.YtlomfmilohbgpaaGreatDoor.Book
namespace Go.Proofs.YtlomfmilohbgpaaGreatDoor
open Go.RowKit Book
theorem insert_any (v : Value) (B : Nat) (xs : List Value) (i : Nat) (a : Value) (vb : Nat) (w : World) (hv : Owns w B 3 v xs) (hz : xs = [] → v = .slice none 0 0) (hi : i ≤ xs.length) (hl : xs.length ≤ 1000000)
    (h1 : ∀ u ∈ xs, u.oneCell' = true) (h1a : a.oneCell' = true) (hvb : w.heap[vb]? = some (.cells #[a] 3 (0, 0))) (hn : blk v ≠ some vb) (hB : B ≤ w.heap.size) :
    Calls Tryz.prog 112 #[v, .int .i64 i, .slice (some ⟨vb, 0, none⟩) 1 1] w (Inserted w B 3 v (xs.take i ++ a :: xs.drop i)) := by
  have hvs : ∀ j u, [a][j]? = some u → w.cell? ⟨vb, 0 + j, none⟩ = some u := fun j u hj => by
    rcases j with _ | j <;> simp at hj
    subst hj
    exact whole_cell hvb rfl
  have h1v : ∀ u ∈ [a], u.oneCell' = true := fun u hu => by simp at hu; subst hu; exact h1a
  have hgc := grownCap_ge w
  have hgm := grownCap_le_maxLen w
  -- a new row behind the end
  have endGrow : ∀ (base : Option Addr) (c : Nat), v = .slice base xs.length c → xs.length ≤ c → c < xs.length + 1 → (base = none → xs.length = 0) → (∀ b, base = some b → ∀ j u, xs[j]? = some u → w.cell? (b.add j) = some u) → i = xs.length →
      Calls Tryz.prog 112 #[v, .int .i64 i, .slice (some ⟨vb, 0, none⟩) 1 1] w (Inserted w B 3 v (xs.take i ++ a :: xs.drop i)) := by
    rintro base c rfl h2 h3 h4 h5 rfl
    refine (Any2.slices_Insert_int_end_grow Tryz.laysIns base xs.length c vb 0 1 1 xs [a] w (by omega) h2 h3 (by omega) rfl rfl h4 h5 hvs h1v).mono ?_
    rintro e w' ⟨rfl, hw⟩
    have hg := hgc (xs.length + 1) c 3
    have hm := hgm (xs.length + 1) c 3 (by unfold maxLen; omega)
    have hsz : ((xs ++ [a]).toArray ++ Builtin.zeroCells (Value.int .i64 0).cells (grownCap w (xs.length + 1) c 3 - (xs.length + 1))).size = grownCap w (xs.length + 1) c 3 := by
      rw [Array.size_append, size_zeroCells]
      simp [Value.cells]
      omega
    have hO : Owns w' w.heap.size 3 (.slice (some ⟨w.heap.size, 0, none⟩) (xs.length + 1) (grownCap w (xs.length + 1) c 3)) (xs ++ [a]) := by
      refine .inr ⟨w.heap.size, _, _, by simp, by omega, Nat.le_refl _, by rw [hw]; exact heap_alloc_new w.drew _, by simpa using hg, hm, hsz, ?_⟩
      rw [Array.toList_append]
      exact List.take_left' rfl
    have hS : Stirred w w' (blk (.slice base xs.length c)).toList := by
      rw [hw]
      exact (Stirred.drew w _).trans (Stirred.of_below ((Below.refl w.drew.heap.size w.drew).alloc (Nat.le_refl _) _) []) (fun _ h => by cases h)
    refine ⟨_, rfl, ?_, hS, .inr ⟨w.heap.size, blk_pos (Nat.lt_of_lt_of_le (Nat.succ_pos _) hg), Nat.le_refl _⟩⟩
    rw [List.take_length, List.drop_length]
    exact hO.from hB
  rcases hv.form with ⟨ao, rfl, rfl⟩ | ⟨g, cap, rfl, hc0⟩
  · have hz' := hz rfl
    simp only [Value.slice.injEq, and_true] at hz'
    subst hz'
    exact endGrow none 0 rfl (Nat.le_refl _) (by simp) (fun _ => rfl) (fun b h => by cases h) (by simpa using hi)
  · have hbk : ∃ cur, w.heap[g]? = some (.cells cur 3 (0, 0)) ∧ cur.size = cap := by
      rcases hv with ⟨ao, e, _⟩ | ⟨g', cap', cur, e, _, _, q3, _, _, q6, _⟩
      · simp only [Value.slice.injEq] at e; omega
      · simp only [Value.slice.injEq, Option.some.injEq, Addr.mk.injEq, and_true, true_and] at e
        obtain ⟨rfl, rfl⟩ := e
        exact ⟨cur, q3, q6⟩
    have hcap : cap ≤ maxLen ∧ xs.length ≤ cap ∧ B ≤ g := by
      rcases hv with ⟨ao, e, _⟩ | ⟨g', cap', cur, e, _, q2, q3, q4, q5, q6, _⟩
      · simp only [Value.slice.injEq] at e; omega
      · simp only [Value.slice.injEq, Option.some.injEq, Addr.mk.injEq, and_true, true_and] at e
        obtain ⟨rfl, rfl⟩ := e
        exact ⟨q5, q4, q2⟩
    have hgl := (hv.block g (blk_pos hc0)).2.1
    obtain ⟨cur, hcur, hcs⟩ := hbk
    have hcell : ∀ j u, xs[j]? = some u → w.cell? ⟨g, j, none⟩ = some u := fun j u hj => by
      have hlt : j < xs.length := (List.getElem?_eq_some_iff.1 hj).1
      obtain ⟨g', c', e, hc, _, _⟩ := hv.row (by omega)
      simp only [Value.slice.injEq, Option.some.injEq, Addr.mk.injEq, and_true, true_and] at e
      rw [e.1]; exact hc j u hj
    have hsome : ∀ j, j < cap → (w.cell? ⟨g, j, none⟩).isSome = true := fun j hj => by simp [World.cell?, hcur]; omega
    have hfro : ∀ j, w.frozen? ⟨g, j, none⟩ = false := fun j => whole_frozen hcur j
    have hvg : vb ≠ g := fun e => hn (by rw [blk_pos hc0, e])
    by_cases hroom : xs.length + 1 ≤ cap
    · by_cases hend : i = xs.length
      · subst hend
        refine (Any2.slices_Insert_int_end_room Tryz.laysIns g 0 xs.length cap vb 0 1 1 [a] w (by omega) hroom (by have := hcap.1; unfold maxLen at this; omega) rfl (fun j hj => by rw [Nat.zero_add]; exact hsome _ (by omega)) (fun j _ => hfro _) hvs h1v).mono ?_
        rintro e w' ⟨rfl, rfl⟩
        have hO := Owns.of_cells (w := w.setCells g (0 + xs.length) [a]) (B := B) (E := 3) (g := g) (cap := cap) (xs := xs ++ [a]) (setCells_block g 3 cap [a] _ w ⟨cur, hcur, hcs⟩) hcap.2.2 (fun j x hj => by
          by_cases hj' : j < xs.length
          · rw [List.getElem?_append_left hj'] at hj
            rw [World.cell?_setCells_out g _ _ _ _ (fun _ _ => .inl (by show j < 0 + xs.length; omega))]
            exact hcell j x hj
          · have hlt := (List.getElem?_eq_some_iff.1 hj).1
            simp at hlt
            have hj0 : j = xs.length := by omega
            subst hj0
            rw [List.getElem?_append_right (Nat.le_refl _), Nat.sub_self] at hj
            have := World.cell?_setCells_in g [a] (0 + xs.length) w (fun k hk => by simp at hk; subst hk; exact hsome _ (by omega)) 0 (by simp)
            simp at hj
            subst hj
            simpa using this) hc0 (by simpa using hroom) hcap.1
        refine ⟨_, rfl, ?_, by rw [blk_pos hc0]; exact Stirred.setCells g _ _ _, .inl (by rw [blk_pos hc0, blk_pos hc0])⟩
        rw [List.take_length, List.drop_length]
        simpa using hO
      · have hlt : i < xs.length := by omega
        refine (Any2.slices_Insert_int_shift Tryz.laysIns g 0 xs.length cap i vb 0 1 1 xs [a] w hlt (by omega) hroom (by have := hcap.1; unfold maxLen at this; omega) hvg rfl rfl (fun j u hj => by rw [Nat.zero_add]; exact hcell j u hj) (fun j hj => by rw [Nat.zero_add]; exact hsome _ (by omega)) (fun j _ => hfro _) hvs h1 h1v
          3 3 1 cap (by simp [World.shape?, hvb]) (by simp [World.shape?, hcur, hcs]) (by omega) (whole_frozen hvb 0) (whole_frozen hvb 1)).mono ?_
        rintro e w' ⟨rfl, rfl⟩
        have hdl : (xs.drop i).length = xs.length - i := List.length_drop
        have hsome1 : ∀ j, j < cap → ((w.drew.setCells g (0 + (i + 1)) (xs.drop i)).cell? ⟨g, j, none⟩).isSome = true := fun j hj => isSome_setCells g (xs.drop i) (0 + (i + 1)) w.drew (fun k hk => hsome _ (by omega)) j (hsome j hj)
        have hO := Owns.of_cells (w := (w.drew.setCells g (0 + (i + 1)) (xs.drop i)).setCells g (0 + i) [a]) (B := B) (E := 3) (g := g) (cap := cap) (xs := xs.take i ++ a :: xs.drop i)
          (setCells_block g 3 cap [a] _ _ (setCells_block g 3 cap (xs.drop i) _ _ ⟨cur, hcur, hcs⟩)) hcap.2.2 (fun j x hj => by
            have htl : (xs.take i).length = i := by rw [List.length_take]; omega
            by_cases h2 : j < i
            · rw [List.getElem?_append_left (by omega), List.getElem?_take, if_pos h2] at hj
              rw [World.cell?_setCells_out g _ _ _ _ (fun _ _ => .inl (by show j < 0 + i; omega)), World.cell?_setCells_out g _ _ _ _ (fun _ _ => .inl (by show j < 0 + (i + 1); omega))]
              exact hcell j x hj
            · rw [List.getElem?_append_right (by omega), htl] at hj
              by_cases h3 : j = i
              · subst h3
                rw [Nat.sub_self] at hj
                simp at hj
                subst hj
                have := World.cell?_setCells_in g [a] (0 + j) (w.drew.setCells g (0 + (j + 1)) (xs.drop j)) (fun k hk => by simp at hk; subst hk; exact hsome1 _ (by omega)) 0 (by simp)
                simpa using this
              · obtain ⟨q, rfl⟩ : ∃ q, j = i + 1 + q := ⟨j - (i + 1), by omega⟩
                rw [show i + 1 + q - i = q + 1 by omega] at hj
                simp only [List.getElem?_cons_succ] at hj
                have hql : q < (xs.drop i).length := (List.getElem?_eq_some_iff.1 hj).1
                rw [World.cell?_setCells_out g _ _ _ _ (fun _ _ => .inr (by show 0 + i + 1 ≤ i + 1 + q; omega))]
                have := World.cell?_setCells_in g (xs.drop i) (0 + (i + 1)) w.drew (fun k hk => hsome _ (by omega)) q hql
                rw [List.getElem?_eq_getElem hql] at hj
                rw [← hj, ← this, Nat.zero_add]) hc0 (by rw [List.length_append, List.length_cons, hdl, List.length_take]; omega) hcap.1
        refine ⟨_, rfl, ?_, by rw [blk_pos hc0]; exact ((Stirred.drew w _).trans (Stirred.setCells g _ _ _) (fun _ h => .inl h)).trans (Stirred.setCells g _ _ _) (fun _ h => .inl h), .inl (by rw [blk_pos hc0, blk_pos hc0])⟩
        rw [show (xs.take i ++ a :: xs.drop i).length = xs.length + 1 by rw [List.length_append, List.length_cons, hdl, List.length_take]; omega] at hO
        exact hO
    · by_cases hend : i = xs.length
      · exact endGrow (some ⟨g, 0, none⟩) cap rfl hcap.2.1 (by omega) (fun h => by cases h) (fun b hb j u hj => by simp at hb; subst hb; rw [add_row]; exact hcell j u hj) hend
      · have hlt : i < xs.length := by omega
        refine (Any2.slices_Insert_int_grow Tryz.laysIns g 0 xs.length cap i vb 0 1 1 xs [a] w hlt (by omega) hcap.2.1 (by omega) (by omega) rfl rfl (fun j u hj => by rw [Nat.zero_add]; exact hcell j u hj) hvs h1 h1v).mono ?_
        rintro e w' ⟨he, hw⟩
        replace he : e = .returned (.slice (some ⟨w.heap.size, 0, none⟩) (xs.length + 1) (grownCap w (xs.length + 1) cap 3)) := he
        replace hw : w' = (((w.alloc (.cells ((xs.take i).toArray ++ Builtin.zeroCells (Value.int .i64 0).cells (xs.length + 1 - i) ++ Builtin.zeroCells (Value.int .i64 0).cells (grownCap w (xs.length + 1) cap 3 - (xs.length + 1))) 3)).drew.setCells w.heap.size i [a]).drew).setCells w.heap.size (i + 1) (xs.drop i) := hw
        subst he
        have hg := hgc (xs.length + 1) cap 3
        have hm := hgm (xs.length + 1) cap 3 (by unfold maxLen; omega)
        have hdl : (xs.drop i).length = xs.length - i := List.length_drop
        have htl : (xs.take i).length = i := by rw [List.length_take]; omega
        generalize grownCap w (xs.length + 1) cap 3 = G at hg hm hw ⊢
        have hsz : ((xs.take i).toArray ++ Builtin.zeroCells (Value.int .i64 0).cells (xs.length + 1 - i) ++ Builtin.zeroCells (Value.int .i64 0).cells (G - (xs.length + 1))).size = G := by
          rw [Array.size_append, Array.size_append, size_zeroCells, size_zeroCells]
          simp [Value.cells]
          omega
        have hpre : ∀ j u, (xs.take i)[j]? = some u → ((xs.take i).toArray ++ Builtin.zeroCells (Value.int .i64 0).cells (xs.length + 1 - i) ++ Builtin.zeroCells (Value.int .i64 0).cells (G - (xs.length + 1)))[j]? = some u := fun j u hj => by
          have hjl := (List.getElem?_eq_some_iff.1 hj).1
          rw [Array.append_assoc, Array.getElem?_append_left (by simpa using hjl)]
          simpa using hj
        obtain ⟨W0, hW0⟩ : ∃ W0, w.alloc (.cells ((xs.take i).toArray ++ Builtin.zeroCells (Value.int .i64 0).cells (xs.length + 1 - i) ++ Builtin.zeroCells (Value.int .i64 0).cells (G - (xs.length + 1))) 3) = W0 := ⟨_, rfl⟩
        have hnew : W0.heap[w.heap.size]? = some (.cells ((xs.take i).toArray ++ Builtin.zeroCells (Value.int .i64 0).cells (xs.length + 1 - i) ++ Builtin.zeroCells (Value.int .i64 0).cells (G - (xs.length + 1))) 3 (0, 0)) := by rw [← hW0]; exact heap_alloc_new w _
        rw [hW0] at hw
        have hs0 : ∀ j, j < G → (W0.cell? ⟨w.heap.size, j, none⟩).isSome = true := fun j hj => by simp only [World.cell?, hnew]; rw [Array.getElem?_eq_getElem (by rw [hsz]; exact hj)]; rfl
        have hs1 : ∀ j, j < G → (((W0.drew.setCells w.heap.size i [a]).drew).cell? ⟨w.heap.size, j, none⟩).isSome = true := fun j hj => isSome_setCells w.heap.size [a] i W0.drew (fun k hk => by simp at hk; subst hk; exact hs0 _ (by omega)) _ (hs0 j hj)
        have hO := Owns.of_cells (w := w') (B := w.heap.size) (E := 3) (g := w.heap.size) (cap := G) (xs := xs.take i ++ a :: xs.drop i)
          (by rw [hw]; exact setCells_block _ 3 G (xs.drop i) _ _ (setCells_block _ 3 G [a] i W0.drew ⟨_, hnew, hsz⟩)) (Nat.le_refl _) (fun j x hj => by
            rw [hw]
            by_cases h2 : j < i
            · rw [List.getElem?_append_left (by omega)] at hj
              rw [World.cell?_setCells_out _ _ _ _ _ (fun _ _ => .inl (by show j < i + 1; omega))]
              show (W0.drew.setCells w.heap.size i [a]).cell? _ = _
              rw [World.cell?_setCells_out _ _ _ _ _ (fun _ _ => .inl (by show j < i; omega))]
              have := hpre j x hj
              show W0.cell? _ = _
              simp only [World.cell?, hnew]
              simpa using this
            · rw [List.getElem?_append_right (by omega), htl] at hj
              by_cases h3 : j = i
              · subst h3
                rw [Nat.sub_self] at hj
                simp at hj
                subst hj
                rw [World.cell?_setCells_out _ _ _ _ _ (fun _ _ => .inl (by show j < j + 1; omega))]
                have := World.cell?_setCells_in w.heap.size [a] j W0.drew (fun k hk => by simp at hk; subst hk; exact hs0 _ (by omega)) 0 (by simp)
                simpa using this
              · obtain ⟨q, rfl⟩ : ∃ q, j = i + 1 + q := ⟨j - (i + 1), by omega⟩
                rw [show i + 1 + q - i = q + 1 by omega] at hj
                simp only [List.getElem?_cons_succ] at hj
                have hql : q < (xs.drop i).length := (List.getElem?_eq_some_iff.1 hj).1
                have := World.cell?_setCells_in w.heap.size (xs.drop i) (i + 1) _ (fun k hk => hs1 _ (by omega)) q hql
                rw [List.getElem?_eq_getElem hql] at hj
                rw [← hj, ← this]) (by omega) (by rw [List.length_append, List.length_cons, hdl, htl]; omega) hm
        have hS : Stirred w w' (blk (.slice (some ⟨g, 0, none⟩) xs.length cap)).toList := by
          have s1 : Stirred w W0.drew [] := by rw [← hW0]; exact (Stirred.of_below ((Below.refl w.heap.size w).alloc (Nat.le_refl _) _) []).trans (Stirred.drew _ []) (fun _ h => by cases h)
          rw [hw]
          refine (((s1.trans (Stirred.setCells w.heap.size [a] i _) (fun k hk => .inr (by simp at hk; omega))).trans (Stirred.drew _ []) (fun _ h => by cases h)).trans (Stirred.setCells w.heap.size (xs.drop i) (i + 1) _) (fun k hk => .inr (by simp at hk; omega))).more (fun _ h => by cases h)
        refine ⟨_, rfl, ?_, hS, .inr ⟨w.heap.size, blk_pos (by omega), Nat.le_refl _⟩⟩
        rw [show (xs.take i ++ a :: xs.drop i).length = xs.length + 1 by rw [List.length_append, List.length_cons, hdl, htl]; omega] at hO
        exact hO.from hB
end Go.Proofs.YtlomfmilohbgpaaGreatDoor
