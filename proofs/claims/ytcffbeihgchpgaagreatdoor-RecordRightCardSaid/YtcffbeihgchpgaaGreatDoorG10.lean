/- slices.Insert of one number into a row of one's own. -/
import Derived.Test.YtcffbeihgchpgaaGreatDoorRows
import Derived.Test.YtcffbeihgchpgaaGreatDoorG1
import Derived.Shelf.Spec.SlicesInsert
import Derived.Shelf.Spec.SlicesInsertGrow
import Derived.Lib.Hide
import Derived.Test.YtcffbeihgchpgaaGreatDoorG2
import Derived.Test.YtcffbeihgchpgaaGreatDoorG9
import Derived.Test.YtcffbeihgchpgaaGreatDoorG3
import Derived.WalkKit
import Derived.Lib.MinMax
import Derived.Laws.CopyOwn
import Derived.Laws.AppendOwnNone
import Derived.BigQuiet
import Derived.Deep.QuietTactic
import Derived.Lib.BufferMore
namespace Go.Proofs
open Go.Shelf
def Tryz.laysIns_ren : Go.Shelf.Ren := ⟨fun | 21 => 186 | 27 => 197 | 28 => 198 | 35 => 207 | 39 => 219 | n => n, fun | 0 => 0 | 3 => 3 | 4 => 4 | 22 => 22 | n => n, fun | n => n⟩
theorem Tryz.laysIns : Go.Proofs.Lays2.n21 Tryz.prog Tryz.laysIns_ren := {
  mixed := by kernel_rfl
  f21 := Tryz.func186.trans (congrArg some (by kernel_rfl))
  f27 := Tryz.func197.trans (congrArg some (by kernel_rfl))
  f28 := Tryz.func198.trans (congrArg some (by kernel_rfl))
  f35 := Tryz.func207.trans (congrArg some (by kernel_rfl))
  f39 := Tryz.func219.trans (congrArg some (by kernel_rfl))
  t0 := Tryz.underlying0
  a0 := Tryz.isAgg0
  z0 := Tryz.sizeOf0
  v0 := Tryz.zeroValue0
  t3 := Tryz.underlying3
  a3 := Tryz.isAgg3
  z3 := Tryz.sizeOf3
  v3 := Tryz.zeroValue3
  t4 := Tryz.underlying4
  a4 := Tryz.isAgg4
  z4 := Tryz.sizeOf4
  v4 := Tryz.zeroValue4
  t22 := Tryz.underlying22
  a22 := Tryz.isAgg22
  z22 := Tryz.sizeOf22
  v22 := Tryz.zeroValue22
  i3 := by kernel_rfl }
end Go.Proofs
namespace Go.Proofs.YtcffbeihgchpgaaGreatDoor.Book
open Go.RowKit
set_option linter.unusedVariables false
/-- many stores into one block -/
theorem Stirred.setCells (b : Nat) : ∀ (vs : List Value) (o : Nat) (w : World), Stirred w (w.setCells b o vs) [b]
  | [], _, w => Stirred.refl w _
  | v :: r, o, w => (Stirred.setCell w ⟨b, o, none⟩ v).trans (Stirred.setCells b r (o + 1) _) (fun _ h => .inl h)
theorem setCells_block (b T c : Nat) : ∀ (vs : List Value) (o : Nat) (w : World), (∃ cur, w.heap[b]? = some (.cells cur T (0, 0)) ∧ cur.size = c) → ∃ cur, (w.setCells b o vs).heap[b]? = some (.cells cur T (0, 0)) ∧ cur.size = c
  | [], _, _, h => h
  | v :: r, o, w, ⟨cur, h1, h2⟩ => setCells_block b T c r (o + 1) _ ⟨_, whole_set h1 o v, by simpa using h2⟩
/-- a block that is known whole, of which the first cells are these -/
theorem Owns.of_cells {w : World} {B E g cap : Nat} {xs : List Value} (hg : ∃ cur, w.heap[g]? = some (.cells cur E (0, 0)) ∧ cur.size = cap) (hB : B ≤ g) (hc : ∀ j x, xs[j]? = some x → w.cell? ⟨g, j, none⟩ = some x)
    (h0 : 0 < cap) (hl : xs.length ≤ cap) (hm : cap ≤ maxLen) : Owns w B E (.slice (some ⟨g, 0, none⟩) xs.length cap) xs := by
  obtain ⟨cur, h1, h2⟩ := hg
  refine .inr ⟨g, cap, cur, rfl, h0, hB, h1, hl, hm, h2, ?_⟩
  refine List.ext_getElem? fun j => ?_
  rw [List.getElem?_take]
  split
  · rename_i hj
    obtain ⟨x, hx⟩ : ∃ x, xs[j]? = some x := ⟨_, List.getElem?_eq_getElem hj⟩
    have := hc j x hx
    rw [hx]
    simpa [World.cell?, h1] using this
  · rename_i hj
    rw [List.getElem?_eq_none (by omega)]
/-- what slices.Insert leaves of a slice -/
def Inserted (w : World) (B E : Nat) (v : Value) (ys : List Value) (e : Ending) (w' : World) : Prop :=
  ∃ v', e = .returned v' ∧ Owns w' B E v' ys ∧ Stirred w w' (blk v).toList ∧ (blk v' = blk v ∨ ∃ k, blk v' = some k ∧ w.heap.size ≤ k)
end Go.Proofs.YtcffbeihgchpgaaGreatDoor.Book
namespace Go.Proofs.YtcffbeihgchpgaaGreatDoor
open Go.RowKit Book
theorem insert_any (v : Value) (B : Nat) (xs : List Value) (i : Nat) (a : Value) (vb : Nat) (w : World) (hv : Owns w B 3 v xs) (hz : xs = [] → v = .slice none 0 0) (hi : i ≤ xs.length) (hl : xs.length ≤ 1000000)
    (h1 : ∀ u ∈ xs, u.oneCell' = true) (h1a : a.oneCell' = true) (hvb : w.heap[vb]? = some (.cells #[a] 3 (0, 0))) (hn : blk v ≠ some vb) (hB : B ≤ w.heap.size) :
    Calls Tryz.prog 186 #[v, .int .i64 i, .slice (some ⟨vb, 0, none⟩) 1 1] w (Inserted w B 3 v (xs.take i ++ a :: xs.drop i)) := by
  have hvs : ∀ j u, [a][j]? = some u → w.cell? ⟨vb, 0 + j, none⟩ = some u := fun j u hj => by
    rcases j with _ | j <;> simp at hj
    subst hj
    exact whole_cell hvb rfl
  have h1v : ∀ u ∈ [a], u.oneCell' = true := fun u hu => by simp at hu; subst hu; exact h1a
  have hgc := grownCap_ge w
  have hgm := grownCap_le_maxLen w
  -- a new row behind the end
  have endGrow : ∀ (base : Option Addr) (c : Nat), v = .slice base xs.length c → xs.length ≤ c → c < xs.length + 1 → (base = none → xs.length = 0) → (∀ b, base = some b → ∀ j u, xs[j]? = some u → w.cell? (b.add j) = some u) → i = xs.length →
      Calls Tryz.prog 186 #[v, .int .i64 i, .slice (some ⟨vb, 0, none⟩) 1 1] w (Inserted w B 3 v (xs.take i ++ a :: xs.drop i)) := by
    rintro base c rfl h2 h3 h4 h5 rfl
    refine (Any2.slices_Insert_int_end_grow Tryz.laysIns base xs.length c vb 0 1 1 xs [a] w (by omega) h2 h3 (by omega) rfl rfl h4 h5 hvs h1v).mono ?_
    rintro e w' ⟨rfl, hw⟩
    have hg := hgc (xs.length + 1) c 3
    have hm := hgm (xs.length + 1) c 3 (by unfold maxLen; omega)
    have hsz : ((xs ++ [a]).toArray ++ Builtin.zeroCells (Value.int .i64 0).cells (grownCap w (xs.length + 1) c 3 - (xs.length + 1))).size = grownCap w (xs.length + 1) c 3 := by
      rw [Array.size_append, size_zeroCells]
      simp [Value.cells]
      omega
    have hO : Owns w' w.heap.size 3 (.slice (some ⟨w.heap.size, 0, none⟩) (xs.length + 1) (grownCap w (xs.length + 1) c 3)) (xs ++ [a]) := by
      refine .inr ⟨w.heap.size, _, _, by simp, by omega, Nat.le_refl _, by rw [hw]; exact heap_alloc_new w.drew _, by simpa using hg, hm, hsz, ?_⟩
      rw [Array.toList_append]
      exact List.take_left' rfl
    have hS : Stirred w w' (blk (.slice base xs.length c)).toList := by
      rw [hw]
      exact (Stirred.drew w _).trans (Stirred.of_below ((Below.refl w.drew.heap.size w.drew).alloc (Nat.le_refl _) _) []) (fun _ h => by cases h)
    refine ⟨_, rfl, ?_, hS, .inr ⟨w.heap.size, blk_pos (Nat.lt_of_lt_of_le (Nat.succ_pos _) hg), Nat.le_refl _⟩⟩
    rw [List.take_length, List.drop_length]
    exact hO.from hB
  rcases hv.form with ⟨ao, rfl, rfl⟩ | ⟨g, cap, rfl, hc0⟩
  · have hz' := hz rfl
    simp only [Value.slice.injEq, and_true] at hz'
    subst hz'
    exact endGrow none 0 rfl (Nat.le_refl _) (by simp) (fun _ => rfl) (fun b h => by cases h) (by simpa using hi)
  · have hbk : ∃ cur, w.heap[g]? = some (.cells cur 3 (0, 0)) ∧ cur.size = cap := by
      rcases hv with ⟨ao, e, _⟩ | ⟨g', cap', cur, e, _, _, q3, _, _, q6, _⟩
      · simp only [Value.slice.injEq] at e; omega
      · simp only [Value.slice.injEq, Option.some.injEq, Addr.mk.injEq, and_true, true_and] at e
        obtain ⟨rfl, rfl⟩ := e
        exact ⟨cur, q3, q6⟩
    have hcap : cap ≤ maxLen ∧ xs.length ≤ cap ∧ B ≤ g := by
      rcases hv with ⟨ao, e, _⟩ | ⟨g', cap', cur, e, _, q2, q3, q4, q5, q6, _⟩
      · simp only [Value.slice.injEq] at e; omega
      · simp only [Value.slice.injEq, Option.some.injEq, Addr.mk.injEq, and_true, true_and] at e
        obtain ⟨rfl, rfl⟩ := e
        exact ⟨q5, q4, q2⟩
    have hgl := (hv.block g (blk_pos hc0)).2.1
    obtain ⟨cur, hcur, hcs⟩ := hbk
    have hcell : ∀ j u, xs[j]? = some u → w.cell? ⟨g, j, none⟩ = some u := fun j u hj => by
      have hlt : j < xs.length := (List.getElem?_eq_some_iff.1 hj).1
      obtain ⟨g', c', e, hc, _, _⟩ := hv.row (by omega)
      simp only [Value.slice.injEq, Option.some.injEq, Addr.mk.injEq, and_true, true_and] at e
      rw [e.1]; exact hc j u hj
    have hsome : ∀ j, j < cap → (w.cell? ⟨g, j, none⟩).isSome = true := fun j hj => by simp [World.cell?, hcur]; omega
    have hfro : ∀ j, w.frozen? ⟨g, j, none⟩ = false := fun j => whole_frozen hcur j
    have hvg : vb ≠ g := fun e => hn (by rw [blk_pos hc0, e])
    by_cases hroom : xs.length + 1 ≤ cap
    · by_cases hend : i = xs.length
      · subst hend
        refine (Any2.slices_Insert_int_end_room Tryz.laysIns g 0 xs.length cap vb 0 1 1 [a] w (by omega) hroom (by have := hcap.1; unfold maxLen at this; omega) rfl (fun j hj => by rw [Nat.zero_add]; exact hsome _ (by omega)) (fun j _ => hfro _) hvs h1v).mono ?_
        rintro e w' ⟨rfl, rfl⟩
        have hO := Owns.of_cells (w := w.setCells g (0 + xs.length) [a]) (B := B) (E := 3) (g := g) (cap := cap) (xs := xs ++ [a]) (setCells_block g 3 cap [a] _ w ⟨cur, hcur, hcs⟩) hcap.2.2 (fun j x hj => by
          by_cases hj' : j < xs.length
          · rw [List.getElem?_append_left hj'] at hj
            rw [World.cell?_setCells_out g _ _ _ _ (fun _ _ => .inl (by show j < 0 + xs.length; omega))]
            exact hcell j x hj
          · have hlt := (List.getElem?_eq_some_iff.1 hj).1
            simp at hlt
            have hj0 : j = xs.length := by omega
            subst hj0
            rw [List.getElem?_append_right (Nat.le_refl _), Nat.sub_self] at hj
            have := World.cell?_setCells_in g [a] (0 + xs.length) w (fun k hk => by simp at hk; subst hk; exact hsome _ (by omega)) 0 (by simp)
            simp at hj
            subst hj
            simpa using this) hc0 (by simpa using hroom) hcap.1
        refine ⟨_, rfl, ?_, by rw [blk_pos hc0]; exact Stirred.setCells g _ _ _, .inl (by rw [blk_pos hc0, blk_pos hc0])⟩
        rw [List.take_length, List.drop_length]
        simpa using hO
      · have hlt : i < xs.length := by omega
        refine (Any2.slices_Insert_int_shift Tryz.laysIns g 0 xs.length cap i vb 0 1 1 xs [a] w hlt (by omega) hroom (by have := hcap.1; unfold maxLen at this; omega) hvg rfl rfl (fun j u hj => by rw [Nat.zero_add]; exact hcell j u hj) (fun j hj => by rw [Nat.zero_add]; exact hsome _ (by omega)) (fun j _ => hfro _) hvs h1 h1v
          3 3 1 cap (by simp [World.shape?, hvb]) (by simp [World.shape?, hcur, hcs]) (by omega) (whole_frozen hvb 0) (whole_frozen hvb 1)).mono ?_
        rintro e w' ⟨rfl, rfl⟩
        have hdl : (xs.drop i).length = xs.length - i := List.length_drop
        have hsome1 : ∀ j, j < cap → ((w.drew.setCells g (0 + (i + 1)) (xs.drop i)).cell? ⟨g, j, none⟩).isSome = true := fun j hj => isSome_setCells g (xs.drop i) (0 + (i + 1)) w.drew (fun k hk => hsome _ (by omega)) j (hsome j hj)
        have hO := Owns.of_cells (w := (w.drew.setCells g (0 + (i + 1)) (xs.drop i)).setCells g (0 + i) [a]) (B := B) (E := 3) (g := g) (cap := cap) (xs := xs.take i ++ a :: xs.drop i)
          (setCells_block g 3 cap [a] _ _ (setCells_block g 3 cap (xs.drop i) _ _ ⟨cur, hcur, hcs⟩)) hcap.2.2 (fun j x hj => by
            have htl : (xs.take i).length = i := by rw [List.length_take]; omega
            by_cases h2 : j < i
            · rw [List.getElem?_append_left (by omega), List.getElem?_take, if_pos h2] at hj
              rw [World.cell?_setCells_out g _ _ _ _ (fun _ _ => .inl (by show j < 0 + i; omega)), World.cell?_setCells_out g _ _ _ _ (fun _ _ => .inl (by show j < 0 + (i + 1); omega))]
              exact hcell j x hj
            · rw [List.getElem?_append_right (by omega), htl] at hj
              by_cases h3 : j = i
              · subst h3
                rw [Nat.sub_self] at hj
                simp at hj
                subst hj
                have := World.cell?_setCells_in g [a] (0 + j) (w.drew.setCells g (0 + (j + 1)) (xs.drop j)) (fun k hk => by simp at hk; subst hk; exact hsome1 _ (by omega)) 0 (by simp)
                simpa using this
              · obtain ⟨q, rfl⟩ : ∃ q, j = i + 1 + q := ⟨j - (i + 1), by omega⟩
                rw [show i + 1 + q - i = q + 1 by omega] at hj
                simp only [List.getElem?_cons_succ] at hj
                have hql : q < (xs.drop i).length := (List.getElem?_eq_some_iff.1 hj).1
                rw [World.cell?_setCells_out g _ _ _ _ (fun _ _ => .inr (by show 0 + i + 1 ≤ i + 1 + q; omega))]
                have := World.cell?_setCells_in g (xs.drop i) (0 + (i + 1)) w.drew (fun k hk => hsome _ (by omega)) q hql
                rw [List.getElem?_eq_getElem hql] at hj
                rw [← hj, ← this, Nat.zero_add]) hc0 (by rw [List.length_append, List.length_cons, hdl, List.length_take]; omega) hcap.1
        refine ⟨_, rfl, ?_, by rw [blk_pos hc0]; exact ((Stirred.drew w _).trans (Stirred.setCells g _ _ _) (fun _ h => .inl h)).trans (Stirred.setCells g _ _ _) (fun _ h => .inl h), .inl (by rw [blk_pos hc0, blk_pos hc0])⟩
        rw [show (xs.take i ++ a :: xs.drop i).length = xs.length + 1 by rw [List.length_append, List.length_cons, hdl, List.length_take]; omega] at hO
        exact hO
    · by_cases hend : i = xs.length
      · exact endGrow (some ⟨g, 0, none⟩) cap rfl hcap.2.1 (by omega) (fun h => by cases h) (fun b hb j u hj => by simp at hb; subst hb; rw [add_row]; exact hcell j u hj) hend
      · have hlt : i < xs.length := by omega
        refine (Any2.slices_Insert_int_grow Tryz.laysIns g 0 xs.length cap i vb 0 1 1 xs [a] w hlt (by omega) hcap.2.1 (by omega) (by omega) rfl rfl (fun j u hj => by rw [Nat.zero_add]; exact hcell j u hj) hvs h1 h1v).mono ?_
        rintro e w' ⟨he, hw⟩
        replace he : e = .returned (.slice (some ⟨w.heap.size, 0, none⟩) (xs.length + 1) (grownCap w (xs.length + 1) cap 3)) := he
        replace hw : w' = (((w.alloc (.cells ((xs.take i).toArray ++ Builtin.zeroCells (Value.int .i64 0).cells (xs.length + 1 - i) ++ Builtin.zeroCells (Value.int .i64 0).cells (grownCap w (xs.length + 1) cap 3 - (xs.length + 1))) 3)).drew.setCells w.heap.size i [a]).drew).setCells w.heap.size (i + 1) (xs.drop i) := hw
        subst he
        have hg := hgc (xs.length + 1) cap 3
        have hm := hgm (xs.length + 1) cap 3 (by unfold maxLen; omega)
        have hdl : (xs.drop i).length = xs.length - i := List.length_drop
        have htl : (xs.take i).length = i := by rw [List.length_take]; omega
        generalize grownCap w (xs.length + 1) cap 3 = G at hg hm hw ⊢
        have hsz : ((xs.take i).toArray ++ Builtin.zeroCells (Value.int .i64 0).cells (xs.length + 1 - i) ++ Builtin.zeroCells (Value.int .i64 0).cells (G - (xs.length + 1))).size = G := by
          rw [Array.size_append, Array.size_append, size_zeroCells, size_zeroCells]
          simp [Value.cells]
          omega
        have hpre : ∀ j u, (xs.take i)[j]? = some u → ((xs.take i).toArray ++ Builtin.zeroCells (Value.int .i64 0).cells (xs.length + 1 - i) ++ Builtin.zeroCells (Value.int .i64 0).cells (G - (xs.length + 1)))[j]? = some u := fun j u hj => by
          have hjl := (List.getElem?_eq_some_iff.1 hj).1
          rw [Array.append_assoc, Array.getElem?_append_left (by simpa using hjl)]
          simpa using hj
        obtain ⟨W0, hW0⟩ : ∃ W0, w.alloc (.cells ((xs.take i).toArray ++ Builtin.zeroCells (Value.int .i64 0).cells (xs.length + 1 - i) ++ Builtin.zeroCells (Value.int .i64 0).cells (G - (xs.length + 1))) 3) = W0 := ⟨_, rfl⟩
        have hnew : W0.heap[w.heap.size]? = some (.cells ((xs.take i).toArray ++ Builtin.zeroCells (Value.int .i64 0).cells (xs.length + 1 - i) ++ Builtin.zeroCells (Value.int .i64 0).cells (G - (xs.length + 1))) 3 (0, 0)) := by rw [← hW0]; exact heap_alloc_new w _
        rw [hW0] at hw
        have hs0 : ∀ j, j < G → (W0.cell? ⟨w.heap.size, j, none⟩).isSome = true := fun j hj => by simp only [World.cell?, hnew]; rw [Array.getElem?_eq_getElem (by rw [hsz]; exact hj)]; rfl
        have hs1 : ∀ j, j < G → (((W0.drew.setCells w.heap.size i [a]).drew).cell? ⟨w.heap.size, j, none⟩).isSome = true := fun j hj => isSome_setCells w.heap.size [a] i W0.drew (fun k hk => by simp at hk; subst hk; exact hs0 _ (by omega)) _ (hs0 j hj)
        have hO := Owns.of_cells (w := w') (B := w.heap.size) (E := 3) (g := w.heap.size) (cap := G) (xs := xs.take i ++ a :: xs.drop i)
          (by rw [hw]; exact setCells_block _ 3 G (xs.drop i) _ _ (setCells_block _ 3 G [a] i W0.drew ⟨_, hnew, hsz⟩)) (Nat.le_refl _) (fun j x hj => by
            rw [hw]
            by_cases h2 : j < i
            · rw [List.getElem?_append_left (by omega)] at hj
              rw [World.cell?_setCells_out _ _ _ _ _ (fun _ _ => .inl (by show j < i + 1; omega))]
              show (W0.drew.setCells w.heap.size i [a]).cell? _ = _
              rw [World.cell?_setCells_out _ _ _ _ _ (fun _ _ => .inl (by show j < i; omega))]
              have := hpre j x hj
              show W0.cell? _ = _
              simp only [World.cell?, hnew]
              simpa using this
            · rw [List.getElem?_append_right (by omega), htl] at hj
              by_cases h3 : j = i
              · subst h3
                rw [Nat.sub_self] at hj
                simp at hj
                subst hj
                rw [World.cell?_setCells_out _ _ _ _ _ (fun _ _ => .inl (by show j < j + 1; omega))]
                have := World.cell?_setCells_in w.heap.size [a] j W0.drew (fun k hk => by simp at hk; subst hk; exact hs0 _ (by omega)) 0 (by simp)
                simpa using this
              · obtain ⟨q, rfl⟩ : ∃ q, j = i + 1 + q := ⟨j - (i + 1), by omega⟩
                rw [show i + 1 + q - i = q + 1 by omega] at hj
                simp only [List.getElem?_cons_succ] at hj
                have hql : q < (xs.drop i).length := (List.getElem?_eq_some_iff.1 hj).1
                have := World.cell?_setCells_in w.heap.size (xs.drop i) (i + 1) _ (fun k hk => hs1 _ (by omega)) q hql
                rw [List.getElem?_eq_getElem hql] at hj
                rw [← hj, ← this]) (by omega) (by rw [List.length_append, List.length_cons, hdl, htl]; omega) hm
        have hS : Stirred w w' (blk (.slice (some ⟨g, 0, none⟩) xs.length cap)).toList := by
          have s1 : Stirred w W0.drew [] := by rw [← hW0]; exact (Stirred.of_below ((Below.refl w.heap.size w).alloc (Nat.le_refl _) _) []).trans (Stirred.drew _ []) (fun _ h => by cases h)
          rw [hw]
          refine (((s1.trans (Stirred.setCells w.heap.size [a] i _) (fun k hk => .inr (by simp at hk; omega))).trans (Stirred.drew _ []) (fun _ h => by cases h)).trans (Stirred.setCells w.heap.size (xs.drop i) (i + 1) _) (fun k hk => .inr (by simp at hk; omega))).more (fun _ h => by cases h)
        refine ⟨_, rfl, ?_, hS, .inr ⟨w.heap.size, blk_pos (by omega), Nat.le_refl _⟩⟩
        rw [show (xs.take i ++ a :: xs.drop i).length = xs.length + 1 by rw [List.length_append, List.length_cons, hdl, htl]; omega] at hO
        exact hO.from hB
end Go.Proofs.YtcffbeihgchpgaaGreatDoor
/- Plain facts on rising lists of numbers; what a memory of cells is in memory. -/
namespace Go.Proofs.YtcffbeihgchpgaaGreatDoor.Fld.Mem
open Go.RowKit Book Go.Proofs.YtcffbeihgchpgaaGreatDoor.Mem
/-- as many as are less -/
abbrev lessN (xs : List Int) (x : Int) : Nat := xs.countP (· < x)
theorem lessN_le (xs : List Int) (x : Int) : lessN xs x ≤ xs.length := List.countP_le_length
theorem lessN_all {xs : List Int} {x : Int} (h : ∀ y ∈ xs, x < y) : lessN xs x = 0 := by
  unfold lessN
  rw [List.countP_eq_zero]
  intro y hy
  have := h y hy
  simp; omega
theorem lessN_split {xs : List Int} (h : xs.Pairwise (· < ·)) (x : Int) : (∀ y ∈ xs.take (lessN xs x), y < x) ∧ (∀ y ∈ xs.drop (lessN xs x), x ≤ y) := by
  induction xs with
  | nil => exact ⟨fun y h => by simp at h, fun y h => by simp at h⟩
  | cons a r ih =>
    obtain ⟨h1, h2⟩ := List.pairwise_cons.1 h
    obtain ⟨i1, i2⟩ := ih h2
    by_cases hax : a < x
    · have e : lessN (a :: r) x = lessN r x + 1 := by unfold lessN; rw [List.countP_cons_of_pos (by simpa using hax)]
      rw [e]
      refine ⟨fun y hy => ?_, fun y hy => i2 y (by simpa using hy)⟩
      rw [List.take_succ_cons, List.mem_cons] at hy
      rcases hy with rfl | hy
      · exact hax
      · exact i1 y hy
    · have e : lessN (a :: r) x = 0 := by
        refine lessN_all' ?_ 
        intro y hy
        rcases List.mem_cons.1 hy with rfl | hy
        · omega
        · have := h1 y hy; omega
      rw [e]
      refine ⟨fun y hy => by simp at hy, fun y hy => ?_⟩
      rw [List.drop_zero, List.mem_cons] at hy
      rcases hy with rfl | hy
      · omega
      · have := h1 y hy; omega
where
  lessN_all' {xs : List Int} {x : Int} (h : ∀ y ∈ xs, x ≤ y) : lessN xs x = 0 := by
    unfold lessN
    rw [List.countP_eq_zero]
    intro y hy
    have := h y hy
    simp; omega
/-- one number more, at its place -/
abbrev put (xs : List Int) (x : Int) : List Int := xs.take (lessN xs x) ++ x :: xs.drop (lessN xs x)
theorem put_mem (xs : List Int) (x y : Int) : y ∈ put xs x ↔ y = x ∨ y ∈ xs := by
  unfold put
  rw [List.mem_append, List.mem_cons]
  have : y ∈ xs ↔ y ∈ xs.take (lessN xs x) ∨ y ∈ xs.drop (lessN xs x) := by rw [← List.mem_append, List.take_append_drop]
  rw [this]
  constructor
  · rintro (h | h | h)
    · exact .inr (.inl h)
    · exact .inl h
    · exact .inr (.inr h)
  · rintro (h | h | h)
    · exact .inr (.inl h)
    · exact .inl h
    · exact .inr (.inr h)
theorem put_sort {xs : List Int} (h : xs.Pairwise (· < ·)) {x : Int} (hn : x ∉ xs) : (put xs x).Pairwise (· < ·) := by
  obtain ⟨h1, h2⟩ := lessN_split h x
  unfold put
  have hd : ∀ y ∈ xs.drop (lessN xs x), x < y := fun y hy => by
    have := h2 y hy
    have hne : y ≠ x := fun e => hn (e ▸ List.mem_of_mem_drop hy)
    omega
  rw [List.pairwise_append, List.pairwise_cons]
  refine ⟨h.sublist (List.take_sublist _ _), ⟨hd, h.sublist (List.drop_sublist _ _)⟩, fun a ha b hb => ?_⟩
  have := h1 a ha
  rcases List.mem_cons.1 hb with rfl | hb
  · exact this
  · have := hd b hb; omega
/-- what a store makes of the changed cells -/
def chg (xs : List Int) (x : Int) : List Int := if xs.contains x then xs else put xs x
theorem chg_mem (xs : List Int) (x y : Int) : y ∈ chg xs x ↔ y = x ∨ y ∈ xs := by
  unfold chg
  split
  · rename_i h
    have h : x ∈ xs := by simpa using h
    exact ⟨.inr, fun h2 => by rcases h2 with rfl | h2; exact h; exact h2⟩
  · exact put_mem xs x y
theorem chg_sort {xs : List Int} (h : xs.Pairwise (· < ·)) (x : Int) : (chg xs x).Pairwise (· < ·) := by
  unfold chg
  split
  · exact h
  · rename_i hc
    exact put_sort h (by simpa using hc)
/-- rising lists that hold the same are one -/
theorem sorted_ext {xs ys : List Int} (hx : xs.Pairwise (· < ·)) (hy : ys.Pairwise (· < ·)) (h : ∀ a, a ∈ xs ↔ a ∈ ys) : xs = ys := by
  induction xs generalizing ys with
  | nil =>
    cases ys with
    | nil => rfl
    | cons b r => exact absurd ((h b).2 List.mem_cons_self) (by simp)
  | cons a r ih =>
    cases ys with
    | nil => exact absurd ((h a).1 List.mem_cons_self) (by simp)
    | cons b s =>
      obtain ⟨x1, x2⟩ := List.pairwise_cons.1 hx
      obtain ⟨y1, y2⟩ := List.pairwise_cons.1 hy
      have hab : a = b := by
        rcases List.mem_cons.1 ((h a).1 List.mem_cons_self) with e | h1
        · exact e
        · rcases List.mem_cons.1 ((h b).2 List.mem_cons_self) with e | h2
          · exact e.symm
          · have := y1 a h1; have := x1 b h2; omega
      subst hab
      rw [ih x2 y2 fun c => ?_]
      constructor
      · intro hc
        rcases List.mem_cons.1 ((h c).1 (List.mem_cons_of_mem _ hc)) with rfl | h1
        · exact absurd (x1 c hc) (by omega)
        · exact h1
      · intro hc
        rcases List.mem_cons.1 ((h c).2 (List.mem_cons_of_mem _ hc)) with rfl | h1
        · exact absurd (y1 c hc) (by omega)
        · exact h1
theorem sorted_len {xs : List Int} {lo hi : Int} (h : xs.Pairwise (· < ·)) (hb : ∀ x ∈ xs, lo ≤ x ∧ x < hi) : xs.length ≤ (hi - lo).toNat := by
  induction xs generalizing lo with
  | nil => simp
  | cons a r ih =>
    obtain ⟨h1, h2⟩ := List.pairwise_cons.1 h
    have ha := hb a List.mem_cons_self
    have := ih (lo := a + 1) h2 fun x hx => ⟨by have := h1 x hx; omega, (hb x (List.mem_cons_of_mem _ hx)).2⟩
    simp only [List.length_cons]
    omega
theorem vals_put (xs : List Int) (x : Int) : (vals xs).take (lessN xs x) ++ .int .i64 x :: (vals xs).drop (lessN xs x) = vals (put xs x) := by simp [vals, put]
/-- a memory of cells: its block, its cells' row, the row of the changed ones -/
structure FieldAt (w : World) (B p : Nat) (vC vH : Value) (cs ch : List Int) : Prop where
  whole : w.heap[p]? = some (.cells #[vC, vH] 155 (0, 0))
  le : B ≤ p
  cells : Owns w B 3 vC (vals cs)
  form : ∃ g cap, vC = .slice (some ⟨g, 0, none⟩) cs.length cap
  len : cs.length ≤ 3000
  chd : Owns w B 3 vH (vals ch)
  bare : ch = [] → vH = .slice none 0 0
  sort : ch.Pairwise (· < ·)
  within : ∀ x ∈ ch, 0 ≤ x ∧ x < (cs.length : Int)
  apart : ∀ k, blk vC = some k → blk vH ≠ some k
/-- the blocks of a memory -/
abbrev foot (p : Nat) (vC vH : Value) : List Nat := p :: ((blk vC).toList ++ (blk vH).toList)
section
variable {w w' : World} {B p : Nat} {vC vH : Value} {cs ch : List Int}
theorem FieldAt.chLen (h : FieldAt w B p vC vH cs ch) : ch.length ≤ cs.length := by
  have := sorted_len h.sort h.within
  omega
theorem FieldAt.touch (h : FieldAt w B p vC vH cs ch) {bs : List Nat} (ht : Stirred w w' bs) (hn : ∀ k ∈ foot p vC vH, k ∉ bs) : FieldAt w' B p vC vH cs ch :=
  ⟨ht.whole h.whole (hn p List.mem_cons_self), h.le, h.cells.touch ht (fun k hk => hn k (List.mem_cons_of_mem _ (List.mem_append_left _ (by simp [hk])))), h.form, h.len,
    h.chd.touch ht (fun k hk => hn k (List.mem_cons_of_mem _ (List.mem_append_right _ (by simp [hk])))), h.bare, h.sort, h.within, h.apart⟩
theorem FieldAt.below (h : FieldAt w B p vC vH cs ch) (hb : Below w.heap.size w w') : FieldAt w' B p vC vH cs ch :=
  h.touch (Stirred.of_below hb []) (fun _ _ => List.not_mem_nil)
theorem FieldAt.from (h : FieldAt w B p vC vH cs ch) {B' : Nat} (hb : B' ≤ B) : FieldAt w B' p vC vH cs ch :=
  ⟨h.whole, Nat.le_trans hb h.le, h.cells.from hb, h.form, h.len, h.chd.from hb, h.bare, h.sort, h.within, h.apart⟩
theorem FieldAt.foot_lt (h : FieldAt w B p vC vH cs ch) : ∀ k ∈ foot p vC vH, B ≤ k ∧ k < w.heap.size := by
  intro k hk
  rcases List.mem_cons.1 hk with rfl | hk
  · exact ⟨h.le, whole_lt h.whole⟩
  · rcases List.mem_append.1 hk with hk | hk
    · have := h.cells.block k (by simpa using hk); exact ⟨this.1, this.2.1⟩
    · have := h.chd.block k (by simpa using hk); exact ⟨this.1, this.2.1⟩
theorem FieldAt.pC (h : FieldAt w B p vC vH cs ch) : blk vC ≠ some p ∧ blk vH ≠ some p := by
  refine ⟨fun e => ?_, fun e => ?_⟩
  · obtain ⟨_, _, c, hc⟩ := h.cells.block p e
    rw [h.whole] at hc
    simp only [Option.some.injEq, Obj.cells.injEq] at hc
    exact absurd hc.2.1 (by decide)
  · obtain ⟨_, _, c, hc⟩ := h.chd.block p e
    rw [h.whole] at hc
    simp only [Option.some.injEq, Obj.cells.injEq] at hc
    exact absurd hc.2.1 (by decide)
theorem FieldAt.c0 (h : FieldAt w B p vC vH cs ch) : w.cell? ⟨p, 0, .none⟩ = some vC := whole_cell h.whole rfl
theorem FieldAt.c1 (h : FieldAt w B p vC vH cs ch) : w.cell? ⟨p, 1, .none⟩ = some vH := whole_cell h.whole rfl
end
/-- cells stored at the head of a row of one's own -/
theorem Owns.restored {w : World} {B g cap : Nat} {xs ys : List Value} (h : Owns w B 3 (.slice (some ⟨g, 0, none⟩) xs.length cap) xs) (hl : ys.length = xs.length) : Owns (w.setCells g 0 ys) B 3 (.slice (some ⟨g, 0, none⟩) ys.length cap) ys := by
  rcases h with ⟨ao, h1, h2⟩ | ⟨g', cap', cur, h1, h0, h2, h3, h4, h5, h6, h7⟩
  · subst h2
    obtain rfl : ys = [] := List.eq_nil_of_length_eq_zero hl
    exact .inl ⟨ao, h1, rfl⟩
  · simp only [Value.slice.injEq, Option.some.injEq, Addr.mk.injEq, and_true, true_and] at h1
    obtain ⟨rfl, rfl⟩ := h1
    refine Owns.of_cells (setCells_block g 3 cap ys 0 w ⟨cur, h3, h6⟩) h2 (fun j x hj => ?_) h0 (by omega) h5
    have hlt := (List.getElem?_eq_some_iff.1 hj).1
    have := World.cell?_setCells_in g ys 0 w (fun k hk => by simp only [World.cell?, h3]; rw [Nat.zero_add, Array.getElem?_eq_getElem (by omega)]; rfl) j hlt
    rw [Nat.zero_add] at this
    rw [this, ← hj, List.getElem?_eq_getElem hlt]
end Go.Proofs.YtcffbeihgchpgaaGreatDoor.Fld.Mem
/- Package field: making, reading, copying. -/
namespace Go.Proofs.YtcffbeihgchpgaaGreatDoor.Fld
open Go.RowKit Book Go.Proofs.YtcffbeihgchpgaaGreatDoor.Mem Mem
set_option linter.unusedSimpArgs false
set_option linter.unusedVariables false
theorem search_any (v : Value) (B : Nat) (xs : List Int) (x : Int) (w : World) (h : Owns w B 3 v (vals xs)) (hs : xs.Pairwise (· < ·)) (hl : xs.length ≤ 1000000) :
    Calls Tryz.prog 185 #[v, .int .i64 x] w fun e w' => e = .returned (.tuple #[.int .i64 (lessN xs x : Nat), .bool (xs.contains x)]) ∧ ∃ q, w' = w.drewN q := by
  rcases h.form with ⟨ao, rfl, hx⟩ | ⟨g, cap, rfl, hc0⟩
  · have hx : xs = [] := List.map_eq_nil_iff.1 hx
    subst hx
    exact (Tryz.slices_BinarySearch_int_empty ao 0 x w).mono fun e w' ⟨h1, h2⟩ => ⟨h1, 0, h2⟩
  · rw [vals_length]
    have := Tryz.slices_BinarySearch_int g 0 xs.length cap xs x w (Nat.le_refl _) (by omega) (fun j hj => by
      obtain ⟨g', c', e, hc, _, _⟩ := h.row (by rw [vals_length]; omega)
      simp only [Value.slice.injEq, Option.some.injEq, Addr.mk.injEq, and_true, true_and] at e
      rw [Nat.zero_add, e.1]
      exact hc j _ (by simp [vals, List.getD_eq_getElem?_getD, List.getElem?_eq_getElem hj])) (by rw [List.take_length]; exact hs.imp fun h => Int.le_of_lt h)
    rw [List.take_length] at this
    exact this
theorem Tryz.fdIntInfo : (Tryz.prog.info? 3).map (fun i => (i.zero, i.size, i.bytes)) = some (some (.int .i64 0), 1, 8) := by kernel_rfl
/-- a memory that was made in this call -/
def Made (w : World) (cs : List Int) (e : Ending) (w' : World) : Prop := ∃ p vC, e = .returned (.pointer (some ⟨p, 0, none⟩)) ∧ FieldAt w' w.heap.size p vC (.slice none 0 0) cs [] ∧ Below w.heap.size w w'
set_option maxHeartbeats 1000000 in
theorem new_any (n : Int) (m : Nat) (hm : (m : Int) = min (max n 0) 3000) (w : World) : Calls Tryz.prog 132 #[.int .i64 n] w (Made w (List.replicate m 0)) := by
  obtain ⟨i0, q1, q2, q3, q4⟩ := info_parts Tryz.fdIntInfo
  have HM := Lib.hid hm
  have hm3 : m ≤ 3000 := by omega
  have HI := Lib.hid (And.intro q1 (And.intro q2 (And.intro q3 q4)))
  clear q1 q2 q3 q4 hm
  go_enter Tryz.func132, Tryz.ntmps132
  go_wp2_with (at_make; refine wpList_make_full _ rfl _ _ 22 rfl w.heap.size 3 i0 (.int .i64 0) 1 Tryz.underlying22 HI.out.1 HI.out.2.1 HI.out.2.2.1 .i64 .i64 _ _ m rfl rfl ?a1 ?a2 ?a3 ?a4 (Nat.le_refl _) ?_)
  case a1 => exact HM.out.symm
  case a2 => exact HM.out.symm
  case a3 => rw [HI.out.2.2.2]; omega
  case a4 => unfold maxLen; omega
  intro w1 hO hG
  rw [toList_madeCells_one] at hO
  have HO := Lib.hid (Owns.of_row hO)
  have HG := Lib.hid hG
  have hz := hG.size
  clear hO hG
  go_wp2
  go_ret
  have hb := ((Below.refl w1.heap.size w1).alloc (Nat.le_refl _) (.cells #[.slice (some ⟨w.heap.size, 0, none⟩) m m, .slice none 0 0] 155))
  have hv : vals (List.replicate m 0) = List.replicate m (.int .i64 0) := by simp [vals]
  refine ⟨w1.heap.size, _, rfl, ⟨heap_alloc_new w1 _, hz, by rw [hv]; exact HO.out.below hb, ⟨_, _, by rw [List.length_replicate]⟩, by simpa using hm3, Owns.nil _ _ _, fun _ => rfl, List.Pairwise.nil, (fun x h => by cases h), (fun k _ h => by cases h)⟩, ((Stirred.of_grown HG.out).below (fun k h => by cases h) (Nat.le_refl _)).trans (hb.mono hz)⟩
set_option maxHeartbeats 1000000 in
set_option maxRecDepth 100000 in
theorem of_any (v : Value) (xs : List Int) (w : World) (h : Reads w v xs) (hl : xs.length ≤ 1000000) : Calls Tryz.prog 119 #[v] w (Made w (xs.take 3000)) := by
  obtain ⟨ao, cap, rfl, hc⟩ := h
  obtain ⟨n, hn⟩ : ∃ n, xs.length = n := ⟨_, rfl⟩
  rw [hn] at hl ⊢
  obtain ⟨m, hm⟩ : ∃ m, min n 3000 = m := ⟨_, rfl⟩
  have HN := Lib.hid hn
  have HM := Lib.hid hm
  have HC := Lib.hid hc
  have C := Lib.hid (new_any (n : Int) m (by omega) w)
  clear hn hm hc
  go_enter Tryz.func119, Tryz.ntmps119
  go_wp2_with fail
  refine C.out.mono ?_
  rintro e w1 ⟨p, vC, rfl, hF, hb⟩
  obtain ⟨g, fc, hvc⟩ := hF.form
  subst hvc
  have hvl : (vals (xs.take 3000)).length = m := by rw [vals_length, List.length_take, HN.out, Nat.min_comm]; exact HM.out
  have hml : (xs.take 3000).length = m := by rw [← vals_length]; exact hvl
  have hm3 : m ≤ 3000 := by have := HM.out; omega
  have hmn : m ≤ n := by have := HM.out; omega
  have hF1 := hF
  simp only [List.length_replicate] at hF1
  have hw2 : ∃ w2, (∀ ty, (Builtin.copy_ #[22, 22] ty #[.slice (some ⟨g, 0, none⟩) m fc, .slice ao n cap]).run Tryz.prog w1 = .ok (goInt m) w2) ∧
      FieldAt w2 w.heap.size p (.slice (some ⟨g, 0, none⟩) m fc) (.slice none 0 0) (xs.take 3000) [] ∧ Below w.heap.size w w2 := by
    by_cases h0 : m = 0
    · have hx : xs.take 3000 = [] := List.eq_nil_of_length_eq_zero (by omega)
      rw [hx]
      subst h0
      exact ⟨w1, fun ty => run_copy_none w1 22 22 ty 3 _ ao 0 fc n cap Tryz.underlying22 (by kernel_rfl) (by simp), hF1, hb⟩
    · obtain ⟨a, ha, _⟩ := HC.out 0 (xs[0]'(by rw [HN.out]; omega)) (List.getElem?_eq_getElem _)
      subst ha
      have hr := hF1.cells.row (by rw [vals_length, List.length_replicate]; omega)
      obtain ⟨g', c', e, hcell, hf, hlc⟩ := hr
      simp only [Value.slice.injEq, Option.some.injEq, Addr.mk.injEq, and_true, true_and] at e
      obtain ⟨e1, e2, e3⟩ := e
      rw [← e1] at hcell hf
      rw [vals_length, List.length_replicate, ← e3] at hlc
      have hrun : ∀ ty, (Builtin.copy_ #[22, 22] ty #[.slice (some ⟨g, 0, none⟩) m fc, .slice (some a) n cap]).run Tryz.prog w1 = .ok (goInt m) (w1.setCells g 0 (vals (xs.take 3000))) := fun ty => by
        have := run_copy_cells (P := Tryz.prog) w1 22 22 ty 3 g 0 m fc a n cap (vals (xs.take 3000)) Tryz.underlying22 (by kernel_rfl) (by rw [hvl]; simp only [Nat.min_def]; split <;> omega)
          (fun j v hj => by
            simp only [vals, List.getElem?_map, Option.map_eq_some_iff] at hj
            obtain ⟨x, hx, rfl⟩ := hj
            rw [List.getElem?_take] at hx
            split at hx
            · obtain ⟨a', e', hc'⟩ := HC.out j x hx
              simp only [Option.some.injEq] at e'
              subst e'
              rw [hb.cell (p := a.add j) (World.block_lt_of_cell? w _ hc')]
              exact hc'
            · cases hx)
          (fun j hj => by rw [Nat.zero_add, hcell j (.int .i64 0) (by simp only [vals, List.getElem?_map, List.getElem?_replicate]; rw [if_pos (by omega)]; rfl)]; rfl) (fun j _ => hf _) (vals_one _)
        rw [hvl] at this
        exact this
      have hO := hF1.cells
      rw [show m = (vals (List.replicate m 0)).length by rw [vals_length, List.length_replicate]] at hO
      have hO2 := Owns.restored (ys := vals (xs.take 3000)) (cap := fc) (g := g) (xs := vals (List.replicate m 0)) (by rw [vals_length, List.length_replicate] at hO ⊢; exact hO) (by rw [hvl, vals_length, List.length_replicate])
      rw [hvl] at hO2
      have hbg : blk (.slice (some ⟨g, 0, none⟩) m fc) = some g := blk_pos (by omega)
      have hpg : p ∉ [g] := fun h => by
        simp at h
        subst h
        exact hF1.pC.1 hbg
      have hS := Stirred.setCells g (vals (xs.take 3000)) 0 w1
      exact ⟨_, hrun, ⟨hS.whole hF1.whole hpg, hF1.le, hO2, ⟨g, fc, by rw [hml]⟩, by rw [hml]; exact hm3, Owns.nil _ _ _, fun _ => rfl, List.Pairwise.nil, (fun x h => by cases h), (fun k _ h => by cases h)⟩,
        hb.trans (hS.below (fun k hk => by simp at hk; subst hk; exact (hF1.cells.block _ hbg).1) hb.size)⟩
  obtain ⟨w2, hrun, hF2, hb2⟩ := hw2
  have HR := Lib.hid hrun
  have HF := Lib.hid hF2
  have HB := Lib.hid hb2
  have c0 := hF1.c0
  clear hF hF1 hF2 hb hb2 C hrun hvl hml hm3 hmn
  go_wp2_with (with_reducible refine wpList_copy_runI _ rfl _ _ 22 22 rfl _ _ rfl rfl (HR.out _) ?_)
  go_ret
  exact ⟨p, _, rfl, HF.out, HB.out⟩
end Go.Proofs.YtcffbeihgchpgaaGreatDoor.Fld/- Package field: length, cells, copies, of a memory and of none. -/
namespace Go.Proofs.YtcffbeihgchpgaaGreatDoor.Fld
open Go.RowKit Book Go.Proofs.YtcffbeihgchpgaaGreatDoor.Mem Mem
set_option linter.unusedSimpArgs false
set_option linter.unusedVariables false
section
variable {w : World} {B p : Nat} {vC vH : Value} {cs ch : List Int}
theorem len_any (h : FieldAt w B p vC vH cs ch) : Calls Tryz.prog 158 #[.pointer (some ⟨p, 0, none⟩)] w fun e w' => e = .returned (.int .i64 cs.length) ∧ w' = w := by
  obtain ⟨g, cap, rfl⟩ := h.form
  have c0 := h.c0
  have hl := h.len
  clear h
  obtain ⟨n, hn⟩ : ∃ n, cs.length = n := ⟨_, rfl⟩
  rw [hn] at c0 hl ⊢
  clear hn
  go_enter Tryz.func158, Tryz.ntmps158
  go_wp2
  go_ret
  exact ⟨rfl, rfl⟩
theorem len_nil (w : World) : Calls Tryz.prog 158 #[.pointer none] w fun e w' => e = .returned (.int .i64 0) ∧ w' = w := by
  go_enter Tryz.func158, Tryz.ntmps158
  go_wp2
  go_ret
  exact ⟨rfl, rfl⟩
theorem has_yes (h : FieldAt w B p vC vH cs ch) (j : Nat) (hj : j < cs.length) : Calls Tryz.prog 147 #[.pointer (some ⟨p, 0, none⟩), .int .i64 j] w fun e w' => e = .returned (.bool true) ∧ w' = w := by
  have C := Lib.hid (len_any h)
  have hl := h.len
  clear h
  obtain ⟨n, hn⟩ : ∃ n, cs.length = n := ⟨_, rfl⟩
  rw [hn] at C hl hj
  clear hn
  have h0 : (0 : Int) ≤ (j : Int) := by omega
  have h1 : (j : Int) < (n : Int) := by omega
  go_enter Tryz.func147, Tryz.ntmps147
  go_wp2_with (go_at_call 158; refine C.out.mono ?_; rintro e wz ⟨rfl, hwz⟩; subst wz)
  go_ret
  exact ⟨rfl, rfl⟩
theorem has_no (h : FieldAt w B p vC vH cs ch) (a : Int) (ha : ¬ (0 ≤ a ∧ a < (cs.length : Int))) : Calls Tryz.prog 147 #[.pointer (some ⟨p, 0, none⟩), .int .i64 a] w fun e w' => e = .returned (.bool false) ∧ w' = w := by
  have C := Lib.hid (len_any h)
  have hl := h.len
  clear h
  obtain ⟨n, hn⟩ : ∃ n, cs.length = n := ⟨_, rfl⟩
  rw [hn] at C hl ha
  clear hn
  by_cases h0 : 0 ≤ a
  · have h1 : decide (a < (n : Int)) = false := by simp; omega
    clear ha
    go_enter Tryz.func147, Tryz.ntmps147
    go_wp2_with (go_at_call 158; refine C.out.mono ?_; rintro e wz ⟨rfl, hwz⟩; subst wz)
    go_ret
    exact ⟨rfl, rfl⟩
  · clear ha
    go_enter Tryz.func147, Tryz.ntmps147
    go_wp2
    go_ret
    exact ⟨rfl, rfl⟩
theorem has_nil (a : Int) (w : World) : Calls Tryz.prog 147 #[.pointer none, .int .i64 a] w fun e w' => e = .returned (.bool false) ∧ w' = w := by
  have C := Lib.hid (len_nil w)
  by_cases h0 : 0 ≤ a
  · have h1 : decide (a < (0 : Int)) = false := by simp; omega
    go_enter Tryz.func147, Tryz.ntmps147
    go_wp2_with (go_at_call 158; refine C.out.mono ?_; rintro e wz ⟨rfl, hwz⟩; subst wz)
    go_ret
    exact ⟨rfl, rfl⟩
  · go_enter Tryz.func147, Tryz.ntmps147
    go_wp2
    go_ret
    exact ⟨rfl, rfl⟩
theorem load_yes (h : FieldAt w B p vC vH cs ch) (j : Nat) (x : Int) (hj : cs[j]? = some x) : Calls Tryz.prog 133 #[.pointer (some ⟨p, 0, none⟩), .int .i64 j] w fun e w' => e = .returned (.tuple #[.int .i64 x, .bool true]) ∧ w' = w := by
  have hlt := (List.getElem?_eq_some_iff.1 hj).1
  have C := Lib.hid (has_yes h j hlt)
  have hl := h.len
  obtain ⟨g, cap, e, hc, _, _⟩ := h.cells.row (by rw [vals_length]; omega)
  rw [vals_length] at e
  have k := hc j (.int .i64 x) (by simp [vals, hj])
  have c0 := h.c0
  rw [e] at c0
  obtain ⟨n, hn⟩ : ∃ n, cs.length = n := ⟨_, rfl⟩
  rw [hn] at c0 hl hlt
  clear hn hc hj h e
  have h0 : (0 : Int) ≤ (j : Int) := by omega
  have h1 : (j : Int) < (n : Int) := by omega
  go_enter Tryz.func133, Tryz.ntmps133
  go_wp2_with (go_at_call 147; refine C.out.mono ?_; rintro e wz ⟨rfl, hwz⟩; subst wz)
  go_ret2
  exact ⟨rfl, rfl⟩
theorem load_no (h : FieldAt w B p vC vH cs ch) (a : Int) (ha : ¬ (0 ≤ a ∧ a < (cs.length : Int))) : Calls Tryz.prog 133 #[.pointer (some ⟨p, 0, none⟩), .int .i64 a] w fun e w' => e = .returned (.tuple #[.int .i64 0, .bool false]) ∧ w' = w := by
  have C := Lib.hid (has_no h a ha)
  clear h ha
  go_enter Tryz.func133, Tryz.ntmps133
  go_wp2_with (go_at_call 147; refine C.out.mono ?_; rintro e wz ⟨rfl, hwz⟩; subst wz)
  go_ret2
  exact ⟨rfl, rfl⟩
theorem load_nil (a : Int) (w : World) : Calls Tryz.prog 133 #[.pointer none, .int .i64 a] w fun e w' => e = .returned (.tuple #[.int .i64 0, .bool false]) ∧ w' = w := by
  have C := Lib.hid (has_nil a w)
  go_enter Tryz.func133, Tryz.ntmps133
  go_wp2_with (go_at_call 147; refine C.out.mono ?_; rintro e wz ⟨rfl, hwz⟩; subst wz)
  go_ret2
  exact ⟨rfl, rfl⟩
theorem all_any (h : FieldAt w B p vC vH cs ch) : Calls Tryz.prog 124 #[.pointer (some ⟨p, 0, none⟩)] w fun e w' => ∃ c, e = .returned c ∧ Owns w' w.heap.size 3 c (vals cs) ∧ Below w.heap.size w w' := by
  have C := Lib.hid (clone_any vC B cs w h.cells (by have := h.len; omega))
  have c0 := h.c0
  clear h
  go_enter Tryz.func124, Tryz.ntmps124
  go_wp2_with fail
  refine C.out.mono ?_
  rintro e w1 ⟨c, rfl, hO, hB⟩
  have HO := Lib.hid hO
  have HB := Lib.hid hB
  clear hO hB C
  go_wp2
  go_ret
  exact ⟨c, rfl, HO.out, HB.out⟩
theorem all_nil (w : World) : Calls Tryz.prog 124 #[.pointer none] w fun e w' => e = .returned (.slice none 0 0) ∧ w' = w := by
  go_enter Tryz.func124, Tryz.ntmps124
  go_wp2
  go_ret
  exact ⟨rfl, rfl⟩
end
end Go.Proofs.YtcffbeihgchpgaaGreatDoor.Fld/- Package field: storing. -/
namespace Go.Proofs.YtcffbeihgchpgaaGreatDoor.Fld
open Go.RowKit Book Go.Proofs.YtcffbeihgchpgaaGreatDoor.Mem Mem
set_option linter.unusedSimpArgs false
set_option linter.unusedVariables false
section
variable {w : World} {B p : Nat} {vC vH : Value} {cs ch : List Int}
theorem store_no (h : FieldAt w B p vC vH cs ch) (a v : Int) (ha : ¬ (0 ≤ a ∧ a < (cs.length : Int))) : Calls Tryz.prog 177 #[.pointer (some ⟨p, 0, none⟩), .int .i64 a, .int .i64 v] w fun e w' => e = .returned (.bool false) ∧ w' = w := by
  have C := Lib.hid (has_no h a ha)
  clear h ha
  go_enter Tryz.func177, Tryz.ntmps177
  go_wp2_with (go_at_call 147; refine C.out.mono ?_; rintro e wz ⟨rfl, hwz⟩; subst wz)
  go_ret
  exact ⟨rfl, rfl⟩
theorem store_nil (a v : Int) (w : World) : Calls Tryz.prog 177 #[.pointer none, .int .i64 a, .int .i64 v] w fun e w' => e = .returned (.bool false) ∧ w' = w := by
  have C := Lib.hid (has_nil a w)
  go_enter Tryz.func177, Tryz.ntmps177
  go_wp2_with (go_at_call 147; refine C.out.mono ?_; rintro e wz ⟨rfl, hwz⟩; subst wz)
  go_ret
  exact ⟨rfl, rfl⟩
/-- a memory into one of whose cells something is stored -/
def Stored (w : World) (B p : Nat) (vC vH : Value) (cs ch : List Int) (j : Nat) (v : Int) (e : Ending) (w' : World) : Prop :=
  ∃ vH', e = .returned (.bool true) ∧ FieldAt w' B p vC vH' (cs.set j v) (chg ch j) ∧ Stirred w w' (foot p vC vH) ∧ (blk vH' = blk vH ∨ ∃ k, blk vH' = some k ∧ w.heap.size ≤ k)
theorem Mem.FieldAt.cell (h : FieldAt w B p vC vH cs ch) {j : Nat} (hj : j < cs.length) : ∃ g cap x, vC = .slice (some ⟨g, 0, none⟩) cs.length cap ∧ blk vC = some g ∧ w.cell? ⟨g, j, none⟩ = some x ∧ w.frozen? ⟨g, j, none⟩ = false := by
  obtain ⟨g, cap, e, hc, hf, hl⟩ := h.cells.row (by rw [vals_length]; omega)
  rw [vals_length] at e hl
  exact ⟨g, cap, _, e, by rw [e]; exact blk_pos (by omega), hc j (.int .i64 cs[j]) (by simp [vals, hj]), hf j⟩
theorem Mem.FieldAt.stored (h : FieldAt w B p vC vH cs ch) {j g : Nat} (v : Int) (hg : blk vC = some g) : FieldAt (w.setCell ⟨g, j, none⟩ (.int .i64 v)) B p vC vH (cs.set j v) ch := by
  have hs := Stirred.setCell w ⟨g, j, none⟩ (.int .i64 v)
  obtain ⟨g', cap, e⟩ := h.form
  subst e
  have hgg : g' = g := by
    simp only [blk] at hg
    split at hg
    · cases hg
    · simpa using hg
  subst hgg
  have hpg : p ≠ g' := fun e => h.pC.1 (by rw [hg, e])
  have hl : (vals (cs.set j v)) = (vals cs).set j (.int .i64 v) := by simp [vals, List.map_set]
  refine ⟨hs.whole h.whole (by simpa using hpg), h.le, by rw [hl]; exact h.cells.stored j _, ⟨g', cap, by rw [List.length_set]⟩, by rw [List.length_set]; exact h.len, h.chd.touch hs (fun k hk hm => ?_), h.bare, h.sort, by rw [List.length_set]; exact h.within, h.apart⟩
  simp at hm
  subst hm
  exact h.apart _ hg hk
theorem Mem.FieldAt.put (h : FieldAt w B p vC vH cs ch) {w' : World} {v' : Value} {j : Nat} (hj : j < cs.length) (hn : (j : Int) ∉ ch) (ho : Owns w' B 3 v' (vals (Mem.put ch j))) (hs : Stirred w w' (blk vH).toList) (hb : blk v' = blk vH ∨ ∃ k, blk v' = some k ∧ w.heap.size ≤ k) :
    FieldAt (w'.setCell ⟨p, 1, none⟩ v') B p vC v' cs (Mem.put ch j) ∧ Stirred w (w'.setCell ⟨p, 1, none⟩ v') (p :: (blk vH).toList) := by
  have hp : p ∉ (blk vH).toList := fun hm => h.pC.2 (by simpa using hm)
  have hw := whole_set (hs.whole h.whole hp) 1 v'
  have ht := Stirred.setCell w' ⟨p, 1, none⟩ v'
  have hc : Owns w' B 3 vC (vals cs) := h.cells.touch hs (fun k hk hm => h.apart k hk (by simpa using hm))
  have hv : blk v' ≠ some p := fun e => by
    rcases hb with e' | ⟨k, e', hk⟩
    · exact h.pC.2 (by rw [← e', e])
    · rw [e] at e'
      have := whole_lt h.whole
      simp at e'
      omega
  refine ⟨⟨hw, h.le, hc.touch ht (fun k hk hm => by simp at hm; subst hm; exact h.pC.1 hk), h.form, h.len, ho.touch ht (fun k hk hm => by simp at hm; subst hm; exact hv hk), fun e => ?_, put_sort h.sort hn, fun x hx => ?_, fun k hk e => ?_⟩, (hs.more (fun k hk => List.mem_cons_of_mem _ hk)).trans ht (fun k hk => .inl (by simp at hk; simp [hk]))⟩
  · have := (put_mem ch j j).2 (.inl rfl)
    rw [e] at this
    cases this
  · rcases (put_mem ch j x).1 hx with rfl | hx
    · exact ⟨by omega, by omega⟩
    · exact h.within x hx
  · rcases hb with e' | ⟨k', e', hk'⟩
    · exact h.apart k hk (by rw [← e', e])
    · rw [e] at e'
      have := (h.cells.block k hk).2.1
      simp at e'
      omega
set_option maxHeartbeats 2000000 in
theorem store_yes (h : FieldAt w B p vC vH cs ch) (hB : B ≤ w.heap.size) (j : Nat) (v : Int) (hj : j < cs.length) : Calls Tryz.prog 177 #[.pointer (some ⟨p, 0, none⟩), .int .i64 j, .int .i64 v] w (Stored w B p vC vH cs ch j v) := by
  have C := Lib.hid (has_yes h j hj)
  have HF := Lib.hid h
  have hl := h.len
  have HJ := Lib.hid hj
  have hchl := Lib.hid h.chLen
  have c1 := h.c1
  have D := Lib.hid (search_any vH B ch j w h.chd h.sort (by have := h.chLen; omega))
  obtain ⟨n, hn⟩ : ∃ n, cs.length = n := ⟨_, rfl⟩
  have HN := Lib.hid hn
  rw [hn] at hl
  have hjn : (j : Int) < (n : Int) := by omega
  have hj0 : (0 : Int) ≤ (j : Int) := by omega
  by_cases hk : ch.contains (j : Int) = true
  · have HK := Lib.hid hk
    rw [hk] at D
    clear h hj hn hk
    go_enter Tryz.func177, Tryz.ntmps177
    go_wp2_with (go_at_call 147; refine C.out.mono ?_; rintro e wz ⟨rfl, hwz⟩; subst wz)
    (with_reducible refine D.out.mono ?_)
    rintro e wa ⟨rfl, q, hq⟩
    have hs : Stirred w wa [] := by rw [hq]; exact Stirred.drewN _ _ _
    have hF := HF.out.touch hs (fun _ _ => List.not_mem_nil)
    obtain ⟨g', cap', x, e', hb', k1, f1⟩ := hF.cell HJ.out
    have c0 := hF.c0
    rw [e', HN.out] at c0
    have HS := Lib.hid hs
    have HR := Lib.hid (hF.stored (j := j) v hb')
    have HG := Lib.hid hb'
    clear hq hs hF e' hb' c1
    go_wp2
    go_ret
    refine ⟨vH, rfl, by unfold chg; rw [if_pos HK.out]; exact HR.out, (HS.out.more (cs := foot p vC vH) (fun _ h => by cases h)).trans (Stirred.setCell wa ⟨g', j, none⟩ (.int .i64 v)) (fun k hk => .inl ?_), .inl rfl⟩
    simp at hk
    subst hk
    exact List.mem_cons_of_mem _ (List.mem_append_left _ (by simp [HG.out]))
  · have HK := Lib.hid hk
    have hk' : ch.contains (j : Int) = false := by simpa using hk
    rw [hk'] at D
    clear h hj hn hk hk'
    go_enter Tryz.func177, Tryz.ntmps177
    go_wp2_with (go_at_call 147; refine C.out.mono ?_; rintro e wz ⟨rfl, hwz⟩; subst wz)
    (with_reducible refine D.out.mono ?_)
    rintro e wa ⟨rfl, q, hq⟩
    have hs : Stirred w wa [] := by rw [hq]; exact Stirred.drewN _ _ _
    have hF := HF.out.touch hs (fun _ _ => List.not_mem_nil)
    have c1 := hF.c1
    have HS := Lib.hid hs
    have HF1 := Lib.hid hF
    have hba := Nat.le_trans hB hs.size
    clear hq hs hF
    have hal := (Below.refl wa.heap.size wa).alloc (Nat.le_refl _) (.cells #[.int .i64 j] 3)
    have I := Lib.hid (insert_any vH B (vals ch) (lessN ch j) (.int .i64 j) wa.heap.size (wa.alloc (.cells #[.int .i64 j] 3)) (HF1.out.chd.below hal) (fun e => HF1.out.bare (List.map_eq_nil_iff.1 e)) (by rw [vals_length]; exact lessN_le _ _) (by rw [vals_length]; have := hchl.out; have := HN.out; omega)
      (vals_one _) rfl (heap_alloc_new wa _) (fun e => Nat.lt_irrefl _ (HF1.out.chd.block _ e).2.1) (by simp; omega))
    rw [vals_put] at I
    go_wp2_with fail
    refine I.out.mono ?_
    rintro e w1 ⟨v', rfl, ho, hs, hb⟩
    obtain ⟨vo, vc, hv⟩ := ho.slice
    obtain ⟨L, hL⟩ : ∃ L, (vals (Mem.put ch j)).length = L := ⟨_, rfl⟩
    rw [hL] at hv
    subst hv
    clear hL
    have hFb := HF1.out.below hal
    have hn : (j : Int) ∉ ch := by have := HK.out; simpa using this
    have hP := hFb.put HJ.out hn ho hs hb
    have hp : p ∉ (blk vH).toList := fun hm => hFb.pC.2 (by simpa using hm)
    have c2 := whole_cell (hs.whole hFb.whole hp) (show (#[vC, vH] : Array Value)[1]? = some vH from rfl)
    have f2 := whole_frozen (hs.whole hFb.whole hp) 1
    obtain ⟨w2, hw2⟩ : ∃ w2, w1.setCell ⟨p, 1, none⟩ (.slice vo L vc) = w2 := ⟨_, rfl⟩
    rw [hw2] at hP
    obtain ⟨g', cap', x, e', hb', k1, f1⟩ := hP.1.cell HJ.out
    have c0 := hP.1.c0
    rw [e', HN.out] at c0
    have hnew : blk (.slice vo L vc) = blk vH ∨ ∃ k, blk (.slice vo L vc) = some k ∧ w.heap.size ≤ k := by
      rcases hb with e | ⟨k', e, hk'⟩
      · exact .inl e
      · have h1 := HS.out.size
        simp at hk'
        exact .inr ⟨k', e, by omega⟩
    have hst : Stirred w (w2.setCell ⟨g', j, none⟩ (.int .i64 v)) (foot p vC vH) := by
      have h1 : Stirred w (wa.alloc (.cells #[.int .i64 j] 3)) [] := HS.out.trans (Stirred.of_below hal []) (fun _ h => by cases h)
      have h2 := (h1.more (cs := foot p vC vH) (fun _ h => by cases h)).trans hP.2 (fun k hk => .inl (by
        rcases List.mem_cons.1 hk with rfl | hk
        · exact List.mem_cons_self
        · exact List.mem_cons_of_mem _ (List.mem_append_right _ hk)))
      refine h2.trans (Stirred.setCell w2 ⟨g', j, none⟩ (.int .i64 v)) (fun k hk => .inl ?_)
      simp at hk
      subst hk
      exact List.mem_cons_of_mem _ (List.mem_append_left _ (by simp [hb']))
    have HR := Lib.hid (And.intro (hP.1.stored (j := j) v hb') (And.intro hst hnew))
    clear hFb hn hP hp ho hs hb hb' e' hnew hst I D C hal c1
    go_wp2
    go_ret
    exact ⟨_, rfl, by unfold chg; rw [if_neg HK.out]; exact HR.out.1, HR.out.2.1, HR.out.2.2⟩
end
end Go.Proofs.YtcffbeihgchpgaaGreatDoor.Fld