
/- Package inner: what is done to a machine's stacks, told of the machine; the cells of a catch are taken. -/
import Derived.Test.YtlomfmilohbgpaaGreatDoorInnState
namespace Go.Proofs.YtlomfmilohbgpaaGreatDoor.Inn
open Go.RowKit Book Mem Mach
set_option linter.unusedVariables false
set_option linter.unusedSimpArgs false
/-- an answer, and what became of a machine -/
def DidM (w : World) (B q ps gs pb gb pf : Nat) (vC vH : Value) (ch : List Int) (vs vb vm : Value) (m' : M) (v : Value) (e : Ending) (w' : World) : Prop :=
  e = .returned v ∧ Mc w' B q ps gs pb gb pf vC vH ch vs vb vm m' ∧ Stirred w w' (feet q ps gs pb gb pf vC vH)
section
variable {w w' : World} {B q ps gs pb gb pf : Nat} {vC vH : Value} {ch : List Int} {vs vb vm : Value} {m : M}
theorem feet_st : ∀ k ∈ foot ps gs, k ∈ feet q ps gs pb gb pf vC vH := fun k hk => mem_feet.2 (.inr (.inl hk))
theorem feet_bk : ∀ k ∈ foot pb gb, k ∈ feet q ps gs pb gb pf vC vH := fun k hk => mem_feet.2 (.inr (.inr (.inl hk)))
theorem feet_me : ∀ k ∈ Fld.Mem.foot pf vC vH, k ∈ feet q ps gs pb gb pf vC vH := fun k hk => mem_feet.2 (.inr (.inr (.inr hk)))
theorem feet_q : q ∈ feet q ps gs pb gb pf vC vH := mem_feet.2 (.inl rfl)
theorem stir_q (w : World) (j : Nat) (v : Value) : Stirred w (w.setCell ⟨q, j, none⟩ v) (feet q ps gs pb gb pf vC vH) := (Stirred.setCell w ⟨q, j, none⟩ v).more (fun k hk => by rw [List.mem_singleton.1 hk]; exact feet_q)
theorem Mc.push (h : Mc w B q ps gs pb gb pf vC vH ch vs vb vm m) (v : Value) (xs : List Int) (hv : ∀ w', Stirred w w' (feet q ps gs pb gb pf vC vH) → Reads w' v xs) (hf : m.stack.length + xs.length ≤ 48) :
    Calls Tryz.prog 69 #[.pointer (some ⟨ps, 0, none⟩), v] w (DidM w B q ps gs pb gb pf vC vH ch vs vb vm { m with stack := m.stack ++ xs } (.bool true)) :=
  (push_yes h.st v xs (fun w' hs => hv w' (hs.more feet_st)) hf).mono fun e w' ⟨h1, h2, h3⟩ => ⟨h1, h.stDid h2 h3, h3.more feet_st⟩
theorem Mc.pushB (h : Mc w B q ps gs pb gb pf vC vH ch vs vb vm m) (v : Value) (xs : List Int) (hv : ∀ w', Stirred w w' (feet q ps gs pb gb pf vC vH) → Reads w' v xs) (hf : m.back.length + xs.length ≤ 48) :
    Calls Tryz.prog 69 #[.pointer (some ⟨pb, 0, none⟩), v] w (DidM w B q ps gs pb gb pf vC vH ch vs vb vm { m with back := m.back ++ xs } (.bool true)) :=
  (push_yes h.bk v xs (fun w' hs => hv w' (hs.more feet_bk)) hf).mono fun e w' ⟨h1, h2, h3⟩ => ⟨h1, h.bkDid h2 h3, h3.more feet_bk⟩
theorem Mc.cut (h : Mc w B q ps gs pb gb pf vC vH ch vs vb vm m) (n : Nat) (hn : n ≤ 48) :
    Calls Tryz.prog 67 #[.pointer (some ⟨ps, 0, none⟩), .int .i64 n] w (DidM w B q ps gs pb gb pf vC vH ch vs vb vm { m with stack := cutTo m.stack n } (.bool true)) :=
  (cut_yes h.st n hn).mono fun e w' ⟨h1, h2, h3⟩ => ⟨h1, h.stDid h2 h3, h3.more feet_st⟩
theorem Mc.cutB (h : Mc w B q ps gs pb gb pf vC vH ch vs vb vm m) (n : Nat) (hn : n ≤ 48) :
    Calls Tryz.prog 67 #[.pointer (some ⟨pb, 0, none⟩), .int .i64 n] w (DidM w B q ps gs pb gb pf vC vH ch vs vb vm { m with back := cutTo m.back n } (.bool true)) :=
  (cut_yes h.bk n hn).mono fun e w' ⟨h1, h2, h3⟩ => ⟨h1, h.bkDid h2 h3, h3.more feet_bk⟩
/-- a cell of the box is written -/
theorem Mc.set' (h : Mc w B q ps gs pb gb pf vC vH ch vs vb vm m) (j : Nat) (v : Value) (m' : M) (e : cells13 m' vs vb vm ps pb pf = (cells13 m vs vb vm ps pb pf).setIfInBounds j v) (e1 : m'.stack = m.stack) (e2 : m'.back = m.back) (e3 : m'.mem = m.mem) :
    Mc (w.setCell ⟨q, j, none⟩ v) B q ps gs pb gb pf vC vH ch vs vb vm m' ∧ Stirred w (w.setCell ⟨q, j, none⟩ v) (feet q ps gs pb gb pf vC vH) := ⟨h.set j v m' e e1 e2 e3, stir_q w j v⟩
end
/-- a new row of numbers -/
theorem row_box (w : World) (xs : List Int) : ∃ w1 g, w.alloc (.cells (vals xs).toArray 3) = w1 ∧ w.heap.size = g ∧ Hid (Row w1 g g xs) ∧ Hid (Below w.heap.size w w1) ∧ Hid (w.heap.size = g) :=
  ⟨_, _, rfl, rfl, ⟨heap_alloc_new w _, Nat.le_refl _⟩, (Below.refl w.heap.size w).alloc (Nat.le_refl _) _, rfl⟩
/-- .. stays, whatever is done elsewhere -/
theorem Row.stays {w : World} {B g n : Nat} {xs : List Int} {F : List Nat} (h : Row w B g xs) (hn : xs.length = n) (hF : ∀ k ∈ F, k < B) : ∀ w', Stirred w w' F → Reads w' (rowV g n) xs :=
  fun w' hs => (h.touch hs (fun hm => by have h1 := hF g hm; have h2 := h.2; omega)).reads hn
theorem nth_at {l : List Int} {k : Nat} {x : Int} (hk : k < l.length) (h : l[l.length - 1 - k]? = some x) : nth l k = x := by
  unfold nth
  rw [if_pos hk, List.getD_eq_getElem?_getD, h]
  rfl
theorem nth_drop {l : List Int} {n k : Nat} (hn : n ≤ l.length) (hk : k < n) : (l.drop (l.length - n))[n - 1 - k]? = some (nth l k) := by
  have h1 : l.length - 1 - k < l.length := by omega
  rw [List.getElem?_drop, show l.length - n + (n - 1 - k) = l.length - 1 - k by omega, List.getElem?_eq_getElem h1]
  congr 1
  exact (nth_at (by omega) (List.getElem?_eq_getElem h1)).symm
set_option maxHeartbeats 4000000 in
set_option maxRecDepth 100000 in
/-- the cells of the nearest Catch are taken -/
theorem uncatch_any {w : World} {B q ps gs pb gb pf : Nat} {vC vH : Value} {ch : List Int} {vs vb vm : Value} {m : M} (h : Mc w B q ps gs pb gb pf vC vH ch vs vb vm m) (hB : B ≤ w.heap.size) (hl : 3 ≤ m.back.length) :
    Calls Tryz.prog 68 #[.pointer (some ⟨q, 0, none⟩)] w (DidM w B q ps gs pb gb pf vC vH ch vs vb vm { m with handler := nth m.back 1, back := less m.back 3 } (.int .i64 (nth m.back 2))) := by
  have C := Lib.hid (pop_yes h.bk hB 3 (m.back.length - 3) (by omega))
  have HH := Lib.hid h
  have HL := Lib.hid hl
  obtain ⟨n1, n2, n3⟩ := h.ptrs
  clear h hl hB
  go_enter Tryz.func68, Tryz.ntmps68
  go_wp2_with fail
  refine C.out.mono ?_
  rintro e w1 ⟨v, rfl, ho, hp, hs⟩
  have hM := HH.out.bkDid hp hs
  have hS := hs.more (feet_bk (q := q) (ps := ps) (gs := gs) (pf := pf) (vC := vC) (vH := vH))
  have hlen : (m.back.drop (m.back.length - 3)).length = 3 := by rw [List.length_drop]; have := HL.out; omega
  obtain ⟨g, cap, rfl, hblk⟩ := owns_slice ho (by rw [hlen]; decide)
  rw [hlen] at ho
  have x0 : (m.back.drop (m.back.length - 3))[0]? = some (nth m.back 2) := nth_drop (n := 3) (k := 2) HL.out (by decide)
  have x1 : (m.back.drop (m.back.length - 3))[1]? = some (nth m.back 1) := nth_drop (n := 3) (k := 1) HL.out (by decide)
  have k0 : w1.cell? ⟨g, 0, none⟩ = some (.int .i64 (nth m.back 2)) := by
    rw [(owns_at ho (j := 0) (by rw [hlen]; decide)).1]; congr 2; rw [List.getElem?_eq_getElem (by rw [hlen]; decide)] at x0; exact Option.some.inj x0
  have k1 : w1.cell? ⟨g, 1, none⟩ = some (.int .i64 (nth m.back 1)) := by
    rw [(owns_at ho (j := 1) (by rw [hlen]; decide)).1]; congr 2; rw [List.getElem?_eq_getElem (by rw [hlen]; decide)] at x1; exact Option.some.inj x1
  have c1 : w1.cell? ⟨q, 1, none⟩ = some (.int .i64 m.handler) := whole_cell hM.box rfl
  have f1 : w1.frozen? ⟨q, 1, none⟩ = false := whole_frozen hM.box 1
  rw [hlen]
  have HR := Lib.hid (hM.set' 1 (.int .i64 (nth m.back 1)) { m with handler := nth m.back 1, back := less m.back 3 } rfl rfl rfl rfl)
  have HSS := Lib.hid hS
  clear ho hp hs hM hS hlen hblk x0 x1 C
  generalize nth m.back 2 = y2 at *
  generalize nth m.back 1 = y1 at *
  go_wp2
  go_ret
  exact ⟨rfl, HR.out.1, HSS.out.trans HR.out.2 (fun k hk => .inl hk)⟩
end Go.Proofs.YtlomfmilohbgpaaGreatDoor.Inn
