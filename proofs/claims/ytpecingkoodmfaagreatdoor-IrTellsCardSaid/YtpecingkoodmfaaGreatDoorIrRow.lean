
/- A list of instructions in a row of its own: what it reads as, what a store makes of it. -/
import Derived.Test.YtpecingkoodmfaaGreatDoorIrStore
import Derived.Test.YtpecingkoodmfaaGreatDoorWideAppend
namespace Go.Proofs.YtpecingkoodmfaaGreatDoor.Ir
open Go.RowKit Book Book.Wide Mem
set_option linter.unusedVariables false
set_option linter.unusedSimpArgs false
def insCells (x : I) : List Value := [.int .i64 x.1, .int .i64 x.2.1, .int .i64 x.2.2.1, .int .i64 x.2.2.2.1, .int .i64 x.2.2.2.2]
theorem ins_len (l : List I) : (l.flatMap insCells).length = l.length * 5 := flat_length (enc := insCells) (k := 5) (fun _ => rfl) l
theorem ins_one (l : List I) : ∀ u ∈ l.flatMap insCells, u.oneCell' = true := by
  intro u hu
  rw [List.mem_flatMap] at hu
  obtain ⟨e, _, hu⟩ := hu
  simp only [insCells, List.mem_cons, List.not_mem_nil, or_false] at hu
  rcases hu with rfl | rfl | rfl | rfl | rfl <;> rfl
theorem ins_back {l : List I} {j : Nat} {u : Value} (h : (l.flatMap insCells)[j]? = some u) : ∃ x, l[j / 5]? = some x ∧ (insCells x)[j % 5]? = some u := by
  have hj := (List.getElem?_eq_some_iff.1 h).1
  rw [ins_len] at hj
  obtain ⟨x, hx⟩ : ∃ x, l[j / 5]? = some x := ⟨_, List.getElem?_eq_getElem (by omega)⟩
  have h4 : j % 5 < 5 := Nat.mod_lt _ (by decide)
  obtain ⟨u', hu⟩ : ∃ u', (insCells x)[j % 5]? = some u' := ⟨_, List.getElem?_eq_getElem (by show j % 5 < 5; exact h4)⟩
  have h1 := flat_at (enc := insCells) (k := 5) (fun _ => rfl) hx hu
  rw [show j / 5 * 5 + j % 5 = j by omega, h] at h1
  exact ⟨x, hx, by rw [hu]; exact h1.symm⟩
theorem ReadsI.toK {w : World} {v : Value} {l : List I} (h : ReadsI w v l) : ReadsK w 5 v (l.flatMap insCells) := by
  obtain ⟨ao, cap, e, hc⟩ := h
  refine ⟨ao, l.length, cap, e, ins_len l, fun j u hj => ?_⟩
  obtain ⟨x, hx, hu⟩ := ins_back hj
  obtain ⟨ad, ha, h0, h1, h2, h3, h4⟩ := hc _ x hx
  refine ⟨ad, ha, ?_⟩
  have hm : j % 5 = 0 ∨ j % 5 = 1 ∨ j % 5 = 2 ∨ j % 5 = 3 ∨ j % 5 = 4 := by omega
  have ed : ∀ i, ad.add (j / 5 * 5 + i) = ⟨(ad.add (j / 5 * 5)).block, (ad.add (j / 5 * 5)).off + i, none⟩ → i = j % 5 → ad.add j = ⟨(ad.add (j / 5 * 5)).block, (ad.add (j / 5 * 5)).off + i, none⟩ := fun i e hi => by rw [← e, hi, show j / 5 * 5 + j % 5 = j by omega]
  rcases hm with hm | hm | hm | hm | hm
  · rw [hm] at hu
    obtain rfl := Option.some.inj hu
    rw [show ad.add j = ad.add (j / 5 * 5) by rw [show j / 5 * 5 = j by omega]]
    exact h0
  · rw [hm] at hu
    obtain rfl := Option.some.inj hu
    rw [ed 1 (by rw [← Go.Deep.add_add]; rfl) hm.symm]
    exact h1
  · rw [hm] at hu
    obtain rfl := Option.some.inj hu
    rw [ed 2 (by rw [← Go.Deep.add_add]; rfl) hm.symm]
    exact h2
  · rw [hm] at hu
    obtain rfl := Option.some.inj hu
    rw [ed 3 (by rw [← Go.Deep.add_add]; rfl) hm.symm]
    exact h3
  · rw [hm] at hu
    obtain rfl := Option.some.inj hu
    rw [ed 4 (by rw [← Go.Deep.add_add]; rfl) hm.symm]
    exact h4
theorem ReadsI.of_owns {w : World} {B : Nat} {v : Value} {l : List I} (h : OwnsK w B 42 5 v (l.flatMap insCells)) : ReadsI w v l := by
  rcases Nat.eq_zero_or_pos l.length with h0 | h0
  · have e : l = [] := List.eq_nil_of_length_eq_zero h0
    subst e
    obtain ⟨ao, cap, e⟩ := h.slice (n := 0) rfl (by decide)
    exact ⟨ao, cap, e, fun j x hj => by simp at hj⟩
  · obtain ⟨g, cap, e, hc, -, -⟩ := h.row (ins_len l) (by decide) h0
    refine ⟨_, cap, e, fun j x hj => ⟨_, rfl, ?_⟩⟩
    have a0 := hc (j * 5 + 0) _ (flat_at (enc := insCells) (k := 5) (fun _ => rfl) hj (i := 0) rfl)
    have a1 := hc (j * 5 + 1) _ (flat_at (enc := insCells) (k := 5) (fun _ => rfl) hj (i := 1) rfl)
    have a2 := hc (j * 5 + 2) _ (flat_at (enc := insCells) (k := 5) (fun _ => rfl) hj (i := 2) rfl)
    have a3 := hc (j * 5 + 3) _ (flat_at (enc := insCells) (k := 5) (fun _ => rfl) hj (i := 3) rfl)
    have a4 := hc (j * 5 + 4) _ (flat_at (enc := insCells) (k := 5) (fun _ => rfl) hj (i := 4) rfl)
    rw [add_row]
    exact ⟨a0, a1, a2, a3, a4⟩
theorem flat_set {l : List I} {k i : Nat} {x x' : I} {u : Value} (hx : l[k]? = some x) (hi : i < 5) (he : insCells x' = (insCells x).set i u) : (l.flatMap insCells).set (k * 5 + i) u = (l.set k x').flatMap insCells := by
  induction l generalizing k with
  | nil => cases hx
  | cons a r ih =>
    cases k with
    | zero =>
      obtain rfl : a = x := by simpa using hx
      rw [List.flatMap_cons, List.set_cons_zero, List.flatMap_cons, he, Nat.zero_mul, Nat.zero_add, List.set_append_left _ _ (by show i < 5; exact hi)]
    | succ k =>
      have hx' : r[k]? = some x := by simpa using hx
      rw [List.flatMap_cons, List.set_cons_succ, List.flatMap_cons, ← ih hx', List.set_append_right _ _ (by show 5 ≤ (k + 1) * 5 + i; omega)]
      congr 2
      show (k + 1) * 5 + i - 5 = k * 5 + i
      omega
/-- one cell of a row that is its own -/
theorem ins_cell {w : World} {B g m cap : Nat} {l : List I} (h : OwnsK w B 42 5 (.slice (some ⟨g, 0, none⟩) m cap) (l.flatMap insCells)) {k i : Nat} {x : I} {u : Value} (hx : l[k]? = some x) (hu : (insCells x)[i]? = some u) : w.cell? ⟨g, k * 5 + i, none⟩ = some u ∧ w.frozen? ⟨g, k * 5 + i, none⟩ = false := by
  have h0 : 0 < l.length := Nat.lt_of_le_of_lt (Nat.zero_le _) (List.getElem?_eq_some_iff.1 hx).1
  obtain ⟨g', cap', e, hc, hf, -⟩ := h.row (ins_len l) (by decide) h0
  simp only [Value.slice.injEq, Option.some.injEq, Addr.mk.injEq, and_true] at e
  obtain ⟨rfl, -, -⟩ := e
  exact ⟨hc _ _ (flat_at (enc := insCells) (k := 5) (fun _ => rfl) hx hu), hf _⟩
set_option maxRecDepth 1000000 in
theorem Tryz.irInsInfo : (Tryz.prog.info? 42).map (fun i => (i.zero, i.size, i.bytes)) = some (some (.agg #[.int .i64 0, .int .i64 0, .int .i64 0, .int .i64 0, .int .i64 0]), 5, 40) := by kernel_rfl
set_option maxRecDepth 1000000 in
theorem Tryz.irIntInfo : (Tryz.prog.info? 3).map (fun i => (i.zero, i.size, i.bytes)) = some (some (.int .i64 0), 1, 8) := by kernel_rfl
end Go.Proofs.YtpecingkoodmfaaGreatDoor.Ir
