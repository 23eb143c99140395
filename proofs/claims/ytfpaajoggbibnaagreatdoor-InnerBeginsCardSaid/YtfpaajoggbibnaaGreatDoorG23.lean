/- Steps of a machine that runs plain code: what each operation makes of the stacks (written by gengo.py). -/
import Derived.Test.YtfpaajoggbibnaaGreatDoorG2
namespace Go.Proofs.YtfpaajoggbibnaaGreatDoor.Mach
open Go.RowKit (wrap64)
open Go.Proofs.YtfpaajoggbibnaaGreatDoor.Cell (In)
set_option linter.unusedVariables false
set_option linter.unusedSimpArgs false
/-- a machine somewhere else, with other stacks -/
def T (x : M) (j : Nat) (st bk : List Int) : M := { x with ip := (j : Int), stack := st, back := bk }
theorem step_at {m : M} {j k : Nat} (h0 : m.status = 0) (hj : m.ip = (j : Int)) (hx : m.mem[j]? = some (k : Int)) (hk : k < 48) (ha : argOf k = true → j + 1 < m.mem.length) (h1 : (movesOf k).1 ≤ (m.stack.length : Int)) (h2 : (movesOf k).2.1 ≤ (m.back.length : Int)) (h3 : (m.stack.length : Int) - (movesOf k).1 + (movesOf k).2.2.1 ≤ 48) (h4 : (m.back.length : Int) - (movesOf k).2.1 + (movesOf k).2.2.2 ≤ 48) :
    step m = exec k m ((j : Int) + (if argOf k = true then 2 else 1)) (m.mem.getD (j + 1) 0) := by
  have hl := (List.getElem?_eq_some_iff.1 hx).1
  have hg : m.mem.getD m.ip.toNat 0 = (k : Int) := by rw [List.getD_eq_getElem?_getD, hj, Int.toNat_natCast, hx]; rfl
  unfold step
  rw [if_neg (by omega), if_neg (by omega)]
  simp only [hg]
  rw [if_neg (by omega), if_neg (by omega), hj, Int.toNat_natCast, Int.toNat_natCast]
  rw [if_neg (by rintro ⟨e, h⟩; have := ha e; omega), if_neg (by omega), if_neg (by omega), if_neg (by omega), if_neg (by omega)]
theorem nth_snoc (l : List Int) (a : Int) : nth (l ++ [a]) 0 = a := by
  unfold nth
  rw [if_pos (by simp), List.getD_eq_getElem?_getD, List.length_append, List.length_singleton, List.getElem?_append_right (by omega)]
  simp
theorem nth_snocS (l : List Int) (a : Int) (k : Nat) : nth (l ++ [a]) (k + 1) = nth l k := by
  unfold nth
  by_cases h : k < l.length
  · rw [if_pos (by simp; omega), if_pos h, List.getD_eq_getElem?_getD, List.getD_eq_getElem?_getD, List.length_append, List.length_singleton, List.getElem?_append_left (by omega)]
    congr 2
    omega
  · rw [if_neg (by simp; omega), if_neg h]
theorem less_snoc (l : List Int) (a : Int) (k : Nat) : less (l ++ [a]) (k + 1) = less l k := by
  unfold less
  rw [List.length_append, List.length_singleton, List.take_append_of_le_length (by omega)]
  congr 1
  omega
theorem less_none (l : List Int) : less l 0 = l := by unfold less; rw [Nat.sub_zero, List.take_length]
theorem arg_at {l : List Int} {j : Nat} {g : Int} (h : l[j]? = some g) : l.getD j 0 = g := by rw [List.getD_eq_getElem?_getD, h]; rfl
theorem arg_lt {l : List Int} {j : Nat} {g : Int} (h : l[j]? = some g) : j < l.length := (List.getElem?_eq_some_iff.1 h).1
theorem nth_at {l : List Int} {a : Int} : nth (l ++ [a]) 0 = a := nth_snoc l a
theorem go_lit {x : M} (h0 : x.status = 0) {j : Nat} {g : Int} (hx : x.mem[j]? = some 2) (hg : x.mem[j + 1]? = some g) {l bk : List Int} (hs : l.length + 1 ≤ 48) (hb : bk.length ≤ 48) :
    step (T x j (l) (bk)) = T x (j + 2) (l ++ [g]) bk := by
  have hm : movesOf 2 = (0, 0, 1, 0) := rfl
  rw [step_at (m := T x j (l) (bk)) (k := 2) h0 rfl hx (by decide) (fun _ => arg_lt hg)
    (by rw [hm]; simp only [T, List.length_append, List.length_cons, List.length_nil]; omega) (by rw [hm]; simp only [T, List.length_append, List.length_cons, List.length_nil]; omega)
    (by rw [hm]; simp only [T, List.length_append, List.length_cons, List.length_nil]; omega) (by rw [hm]; simp only [T, List.length_append, List.length_cons, List.length_nil]; omega)]
  show { T x j (l) (bk) with ip := ((j : Int) + 2), stack := (l) ++ [(T x j (l) (bk)).mem.getD (j + 1) 0] } = _
  rw [arg_at (show (T x j (l) (bk)).mem[j + 1]? = _ from hg)]
  try simp only [T, nth_snoc, nth_snocS, less_snoc, less_none, Int.natCast_add]
  try simp only [List.append_assoc, List.cons_append, List.nil_append]
  try rfl
theorem go_dup {x : M} (h0 : x.status = 0) {j : Nat} (hx : x.mem[j]? = some 6) {l bk : List Int} {a : Int} (hs : l.length + 2 ≤ 48) (hb : bk.length ≤ 48) :
    step (T x j (l ++ [a]) (bk)) = T x (j + 1) (l ++ [a] ++ [a]) bk := by
  have hm : movesOf 6 = (1, 0, 2, 0) := rfl
  rw [step_at (m := T x j (l ++ [a]) (bk)) (k := 6) h0 rfl hx (by decide) (fun e => by cases e)
    (by rw [hm]; simp only [T, List.length_append, List.length_cons, List.length_nil]; omega) (by rw [hm]; simp only [T, List.length_append, List.length_cons, List.length_nil]; omega)
    (by rw [hm]; simp only [T, List.length_append, List.length_cons, List.length_nil]; omega) (by rw [hm]; simp only [T, List.length_append, List.length_cons, List.length_nil]; omega)]
  show { T x j (l ++ [a]) (bk) with ip := ((j : Int) + 1), stack := less (l ++ [a]) 1 ++ [nth (l ++ [a]) 0, nth (l ++ [a]) 0] } = _
  try simp only [T, nth_snoc, nth_snocS, less_snoc, less_none, Int.natCast_add]
  try simp only [List.append_assoc, List.cons_append, List.nil_append]
  try rfl
theorem go_drop {x : M} (h0 : x.status = 0) {j : Nat} (hx : x.mem[j]? = some 7) {l bk : List Int} {a : Int} (hs : l.length + 1 ≤ 48) (hb : bk.length ≤ 48) :
    step (T x j (l ++ [a]) (bk)) = T x (j + 1) (l) bk := by
  have hm : movesOf 7 = (1, 0, 0, 0) := rfl
  rw [step_at (m := T x j (l ++ [a]) (bk)) (k := 7) h0 rfl hx (by decide) (fun e => by cases e)
    (by rw [hm]; simp only [T, List.length_append, List.length_cons, List.length_nil]; omega) (by rw [hm]; simp only [T, List.length_append, List.length_cons, List.length_nil]; omega)
    (by rw [hm]; simp only [T, List.length_append, List.length_cons, List.length_nil]; omega) (by rw [hm]; simp only [T, List.length_append, List.length_cons, List.length_nil]; omega)]
  show { T x j (l ++ [a]) (bk) with ip := ((j : Int) + 1), stack := less (l ++ [a]) 1 } = _
  try simp only [T, nth_snoc, nth_snocS, less_snoc, less_none, Int.natCast_add]
  try simp only [List.append_assoc, List.cons_append, List.nil_append]
  try rfl
theorem go_swap {x : M} (h0 : x.status = 0) {j : Nat} (hx : x.mem[j]? = some 8) {l bk : List Int} {a b : Int} (hs : l.length + 2 ≤ 48) (hb : bk.length ≤ 48) :
    step (T x j (l ++ [a] ++ [b]) (bk)) = T x (j + 1) (l ++ [b] ++ [a]) bk := by
  have hm : movesOf 8 = (2, 0, 2, 0) := rfl
  rw [step_at (m := T x j (l ++ [a] ++ [b]) (bk)) (k := 8) h0 rfl hx (by decide) (fun e => by cases e)
    (by rw [hm]; simp only [T, List.length_append, List.length_cons, List.length_nil]; omega) (by rw [hm]; simp only [T, List.length_append, List.length_cons, List.length_nil]; omega)
    (by rw [hm]; simp only [T, List.length_append, List.length_cons, List.length_nil]; omega) (by rw [hm]; simp only [T, List.length_append, List.length_cons, List.length_nil]; omega)]
  show { T x j (l ++ [a] ++ [b]) (bk) with ip := ((j : Int) + 1), stack := less (l ++ [a] ++ [b]) 2 ++ [nth (l ++ [a] ++ [b]) 0, nth (l ++ [a] ++ [b]) 1] } = _
  try simp only [T, nth_snoc, nth_snocS, less_snoc, less_none, Int.natCast_add]
  try simp only [List.append_assoc, List.cons_append, List.nil_append]
  try rfl
theorem go_over {x : M} (h0 : x.status = 0) {j : Nat} (hx : x.mem[j]? = some 9) {l bk : List Int} {a b : Int} (hs : l.length + 3 ≤ 48) (hb : bk.length ≤ 48) :
    step (T x j (l ++ [a] ++ [b]) (bk)) = T x (j + 1) (l ++ [a] ++ [b] ++ [a]) bk := by
  have hm : movesOf 9 = (2, 0, 3, 0) := rfl
  rw [step_at (m := T x j (l ++ [a] ++ [b]) (bk)) (k := 9) h0 rfl hx (by decide) (fun e => by cases e)
    (by rw [hm]; simp only [T, List.length_append, List.length_cons, List.length_nil]; omega) (by rw [hm]; simp only [T, List.length_append, List.length_cons, List.length_nil]; omega)
    (by rw [hm]; simp only [T, List.length_append, List.length_cons, List.length_nil]; omega) (by rw [hm]; simp only [T, List.length_append, List.length_cons, List.length_nil]; omega)]
  show { T x j (l ++ [a] ++ [b]) (bk) with ip := ((j : Int) + 1), stack := less (l ++ [a] ++ [b]) 2 ++ [nth (l ++ [a] ++ [b]) 1, nth (l ++ [a] ++ [b]) 0, nth (l ++ [a] ++ [b]) 1] } = _
  try simp only [T, nth_snoc, nth_snocS, less_snoc, less_none, Int.natCast_add]
  try simp only [List.append_assoc, List.cons_append, List.nil_append]
  try rfl
theorem go_rot {x : M} (h0 : x.status = 0) {j : Nat} (hx : x.mem[j]? = some 10) {l bk : List Int} {a b c : Int} (hs : l.length + 3 ≤ 48) (hb : bk.length ≤ 48) :
    step (T x j (l ++ [a] ++ [b] ++ [c]) (bk)) = T x (j + 1) (l ++ [b] ++ [c] ++ [a]) bk := by
  have hm : movesOf 10 = (3, 0, 3, 0) := rfl
  rw [step_at (m := T x j (l ++ [a] ++ [b] ++ [c]) (bk)) (k := 10) h0 rfl hx (by decide) (fun e => by cases e)
    (by rw [hm]; simp only [T, List.length_append, List.length_cons, List.length_nil]; omega) (by rw [hm]; simp only [T, List.length_append, List.length_cons, List.length_nil]; omega)
    (by rw [hm]; simp only [T, List.length_append, List.length_cons, List.length_nil]; omega) (by rw [hm]; simp only [T, List.length_append, List.length_cons, List.length_nil]; omega)]
  show { T x j (l ++ [a] ++ [b] ++ [c]) (bk) with ip := ((j : Int) + 1), stack := less (l ++ [a] ++ [b] ++ [c]) 3 ++ [nth (l ++ [a] ++ [b] ++ [c]) 1, nth (l ++ [a] ++ [b] ++ [c]) 0, nth (l ++ [a] ++ [b] ++ [c]) 2] } = _
  try simp only [T, nth_snoc, nth_snocS, less_snoc, less_none, Int.natCast_add]
  try simp only [List.append_assoc, List.cons_append, List.nil_append]
  try rfl
theorem go_add {x : M} (h0 : x.status = 0) {j : Nat} (hx : x.mem[j]? = some 11) {l bk : List Int} {a b : Int} (hs : l.length + 2 ≤ 48) (hb : bk.length ≤ 48) :
    step (T x j (l ++ [a] ++ [b]) (bk)) = T x (j + 1) (l ++ [wrap64 (a + b)]) bk := by
  have hm : movesOf 11 = (2, 0, 1, 0) := rfl
  rw [step_at (m := T x j (l ++ [a] ++ [b]) (bk)) (k := 11) h0 rfl hx (by decide) (fun e => by cases e)
    (by rw [hm]; simp only [T, List.length_append, List.length_cons, List.length_nil]; omega) (by rw [hm]; simp only [T, List.length_append, List.length_cons, List.length_nil]; omega)
    (by rw [hm]; simp only [T, List.length_append, List.length_cons, List.length_nil]; omega) (by rw [hm]; simp only [T, List.length_append, List.length_cons, List.length_nil]; omega)]
  show { T x j (l ++ [a] ++ [b]) (bk) with ip := ((j : Int) + 1), stack := less (l ++ [a] ++ [b]) 2 ++ [wrap64 (nth (l ++ [a] ++ [b]) 1 + nth (l ++ [a] ++ [b]) 0)] } = _
  try simp only [T, nth_snoc, nth_snocS, less_snoc, less_none, Int.natCast_add]
  try simp only [List.append_assoc, List.cons_append, List.nil_append]
  try rfl
theorem go_neg {x : M} (h0 : x.status = 0) {j : Nat} (hx : x.mem[j]? = some 16) {l bk : List Int} {a : Int} (hs : l.length + 1 ≤ 48) (hb : bk.length ≤ 48) :
    step (T x j (l ++ [a]) (bk)) = T x (j + 1) (l ++ [wrap64 (-a)]) bk := by
  have hm : movesOf 16 = (1, 0, 1, 0) := rfl
  rw [step_at (m := T x j (l ++ [a]) (bk)) (k := 16) h0 rfl hx (by decide) (fun e => by cases e)
    (by rw [hm]; simp only [T, List.length_append, List.length_cons, List.length_nil]; omega) (by rw [hm]; simp only [T, List.length_append, List.length_cons, List.length_nil]; omega)
    (by rw [hm]; simp only [T, List.length_append, List.length_cons, List.length_nil]; omega) (by rw [hm]; simp only [T, List.length_append, List.length_cons, List.length_nil]; omega)]
  show { T x j (l ++ [a]) (bk) with ip := ((j : Int) + 1), stack := less (l ++ [a]) 1 ++ [wrap64 (-(nth (l ++ [a]) 0))] } = _
  try simp only [T, nth_snoc, nth_snocS, less_snoc, less_none, Int.natCast_add]
  try simp only [List.append_assoc, List.cons_append, List.nil_append]
  try rfl
theorem go_inv {x : M} (h0 : x.status = 0) {j : Nat} (hx : x.mem[j]? = some 20) {l bk : List Int} {a : Int} (hs : l.length + 1 ≤ 48) (hb : bk.length ≤ 48) :
    step (T x j (l ++ [a]) (bk)) = T x (j + 1) (l ++ [-1 - a]) bk := by
  have hm : movesOf 20 = (1, 0, 1, 0) := rfl
  rw [step_at (m := T x j (l ++ [a]) (bk)) (k := 20) h0 rfl hx (by decide) (fun e => by cases e)
    (by rw [hm]; simp only [T, List.length_append, List.length_cons, List.length_nil]; omega) (by rw [hm]; simp only [T, List.length_append, List.length_cons, List.length_nil]; omega)
    (by rw [hm]; simp only [T, List.length_append, List.length_cons, List.length_nil]; omega) (by rw [hm]; simp only [T, List.length_append, List.length_cons, List.length_nil]; omega)]
  show { T x j (l ++ [a]) (bk) with ip := ((j : Int) + 1), stack := less (l ++ [a]) 1 ++ [-1 - nth (l ++ [a]) 0] } = _
  try simp only [T, nth_snoc, nth_snocS, less_snoc, less_none, Int.natCast_add]
  try simp only [List.append_assoc, List.cons_append, List.nil_append]
  try rfl
theorem go_nop {x : M} (h0 : x.status = 0) {j : Nat} (hx : x.mem[j]? = some 47) {l bk : List Int} (hs : l.length ≤ 48) (hb : bk.length ≤ 48) :
    step (T x j (l) (bk)) = T x (j + 1) (l) bk := by
  have hm : movesOf 47 = (0, 0, 0, 0) := rfl
  rw [step_at (m := T x j (l) (bk)) (k := 47) h0 rfl hx (by decide) (fun e => by cases e)
    (by rw [hm]; simp only [T, List.length_append, List.length_cons, List.length_nil]; omega) (by rw [hm]; simp only [T, List.length_append, List.length_cons, List.length_nil]; omega)
    (by rw [hm]; simp only [T, List.length_append, List.length_cons, List.length_nil]; omega) (by rw [hm]; simp only [T, List.length_append, List.length_cons, List.length_nil]; omega)]
  show { T x j (l) (bk) with ip := ((j : Int) + 1), stack := (l) } = _
  try simp only [T, nth_snoc, nth_snocS, less_snoc, less_none, Int.natCast_add]
  try simp only [List.append_assoc, List.cons_append, List.nil_append]
  try rfl
theorem go_tob {x : M} (h0 : x.status = 0) {j : Nat} (hx : x.mem[j]? = some 33) {l bk : List Int} {a : Int} (hs : l.length + 1 ≤ 48) (hb : bk.length + 1 ≤ 48) :
    step (T x j (l ++ [a]) (bk)) = T x (j + 1) l (bk ++ [a]) := by
  have hm : movesOf 33 = (1, 0, 0, 1) := rfl
  rw [step_at (m := T x j (l ++ [a]) (bk)) (k := 33) h0 rfl hx (by decide) (fun e => by cases e)
    (by rw [hm]; simp only [T, List.length_append, List.length_cons, List.length_nil]; omega) (by rw [hm]; simp only [T, List.length_append, List.length_cons, List.length_nil]; omega)
    (by rw [hm]; simp only [T, List.length_append, List.length_cons, List.length_nil]; omega) (by rw [hm]; simp only [T, List.length_append, List.length_cons, List.length_nil]; omega)]
  show { T x j (l ++ [a]) (bk) with ip := ((j : Int) + 1), stack := less (l ++ [a]) 1, back := (bk) ++ [nth (l ++ [a]) 0] } = _
  try simp only [T, nth_snoc, nth_snocS, less_snoc, less_none, Int.natCast_add]
  try simp only [List.append_assoc, List.cons_append, List.nil_append]
  try rfl
theorem go_fromb {x : M} (h0 : x.status = 0) {j : Nat} (hx : x.mem[j]? = some 34) {l bk : List Int} {a : Int} (hs : l.length + 1 ≤ 48) (hb : bk.length + 1 ≤ 48) :
    step (T x j (l) (bk ++ [a])) = T x (j + 1) (l ++ [a]) bk := by
  have hm : movesOf 34 = (0, 1, 1, 0) := rfl
  rw [step_at (m := T x j (l) (bk ++ [a])) (k := 34) h0 rfl hx (by decide) (fun e => by cases e)
    (by rw [hm]; simp only [T, List.length_append, List.length_cons, List.length_nil]; omega) (by rw [hm]; simp only [T, List.length_append, List.length_cons, List.length_nil]; omega)
    (by rw [hm]; simp only [T, List.length_append, List.length_cons, List.length_nil]; omega) (by rw [hm]; simp only [T, List.length_append, List.length_cons, List.length_nil]; omega)]
  show { T x j (l) (bk ++ [a]) with ip := ((j : Int) + 1), stack := (l) ++ [nth (bk ++ [a]) 0], back := less (bk ++ [a]) 1 } = _
  try simp only [T, nth_snoc, nth_snocS, less_snoc, less_none, Int.natCast_add]
  try simp only [List.append_assoc, List.cons_append, List.nil_append]
  try rfl
theorem go_atb {x : M} (h0 : x.status = 0) {j : Nat} (hx : x.mem[j]? = some 35) {l bk : List Int} {a : Int} (hs : l.length + 1 ≤ 48) (hb : bk.length + 1 ≤ 48) :
    step (T x j (l) (bk ++ [a])) = T x (j + 1) (l ++ [a]) (bk ++ [a]) := by
  have hm : movesOf 35 = (0, 1, 1, 1) := rfl
  rw [step_at (m := T x j (l) (bk ++ [a])) (k := 35) h0 rfl hx (by decide) (fun e => by cases e)
    (by rw [hm]; simp only [T, List.length_append, List.length_cons, List.length_nil]; omega) (by rw [hm]; simp only [T, List.length_append, List.length_cons, List.length_nil]; omega)
    (by rw [hm]; simp only [T, List.length_append, List.length_cons, List.length_nil]; omega) (by rw [hm]; simp only [T, List.length_append, List.length_cons, List.length_nil]; omega)]
  show { T x j (l) (bk ++ [a]) with ip := ((j : Int) + 1), stack := (l) ++ [nth (bk ++ [a]) 0] } = _
  try simp only [T, nth_snoc, nth_snocS, less_snoc, less_none, Int.natCast_add]
  try simp only [List.append_assoc, List.cons_append, List.nil_append]
  try rfl
theorem go_do {x : M} (h0 : x.status = 0) {j : Nat} (hx : x.mem[j]? = some 36) {l bk : List Int} {a b : Int} (hs : l.length + 2 ≤ 48) (hb : bk.length + 2 ≤ 48) :
    step (T x j (l ++ [a] ++ [b]) (bk)) = T x (j + 1) l (bk ++ [a] ++ [b]) := by
  have hm : movesOf 36 = (2, 0, 0, 2) := rfl
  rw [step_at (m := T x j (l ++ [a] ++ [b]) (bk)) (k := 36) h0 rfl hx (by decide) (fun e => by cases e)
    (by rw [hm]; simp only [T, List.length_append, List.length_cons, List.length_nil]; omega) (by rw [hm]; simp only [T, List.length_append, List.length_cons, List.length_nil]; omega)
    (by rw [hm]; simp only [T, List.length_append, List.length_cons, List.length_nil]; omega) (by rw [hm]; simp only [T, List.length_append, List.length_cons, List.length_nil]; omega)]
  show { T x j (l ++ [a] ++ [b]) (bk) with ip := ((j : Int) + 1), stack := less (l ++ [a] ++ [b]) 2, back := (bk) ++ [nth (l ++ [a] ++ [b]) 1, nth (l ++ [a] ++ [b]) 0] } = _
  try simp only [T, nth_snoc, nth_snocS, less_snoc, less_none, Int.natCast_add]
  try simp only [List.append_assoc, List.cons_append, List.nil_append]
  try rfl
theorem go_branch {x : M} (h0 : x.status = 0) {j : Nat} {n : Nat} (hx : x.mem[j]? = some 3) (hg : x.mem[j + 1]? = some (n : Int)) {l bk : List Int} (hs : l.length ≤ 48) (hb : bk.length ≤ 48) :
    step (T x j (l) (bk)) = T x n l bk := by
  have hm : movesOf 3 = (0, 0, 0, 0) := rfl
  rw [step_at (m := T x j (l) (bk)) (k := 3) h0 rfl hx (by decide) (fun _ => arg_lt hg)
    (by rw [hm]; simp only [T, List.length_append, List.length_cons, List.length_nil]; omega) (by rw [hm]; simp only [T, List.length_append, List.length_cons, List.length_nil]; omega)
    (by rw [hm]; simp only [T, List.length_append, List.length_cons, List.length_nil]; omega) (by rw [hm]; simp only [T, List.length_append, List.length_cons, List.length_nil]; omega)]
  show { T x j (l) (bk) with ip := (T x j (l) (bk)).mem.getD (j + 1) 0 } = _
  rw [arg_at (show (T x j (l) (bk)).mem[j + 1]? = _ from hg)]
  try simp only [T, nth_snoc, nth_snocS, less_snoc, less_none, Int.natCast_add]
  try simp only [List.append_assoc, List.cons_append, List.nil_append]
  try rfl
theorem go_exit {x : M} (h0 : x.status = 0) {j : Nat} (hx : x.mem[j]? = some 5) {l bk : List Int} {r : Nat} (hs : l.length ≤ 48) (hb : bk.length + 1 ≤ 48) :
    step (T x j (l) (bk ++ [(r : Int)])) = T x r l bk := by
  have hm : movesOf 5 = (0, 1, 0, 0) := rfl
  rw [step_at (m := T x j (l) (bk ++ [(r : Int)])) (k := 5) h0 rfl hx (by decide) (fun e => by cases e)
    (by rw [hm]; simp only [T, List.length_append, List.length_cons, List.length_nil]; omega) (by rw [hm]; simp only [T, List.length_append, List.length_cons, List.length_nil]; omega)
    (by rw [hm]; simp only [T, List.length_append, List.length_cons, List.length_nil]; omega) (by rw [hm]; simp only [T, List.length_append, List.length_cons, List.length_nil]; omega)]
  show { T x j (l) (bk ++ [(r : Int)]) with ip := nth (bk ++ [(r : Int)]) 0, back := less (bk ++ [(r : Int)]) 1 } = _
  try simp only [T, nth_snoc, nth_snocS, less_snoc, less_none, Int.natCast_add]
  try simp only [List.append_assoc, List.cons_append, List.nil_append]
  try rfl
theorem go_halt {x : M} (h0 : x.status = 0) {j : Nat} (hx : x.mem[j]? = some 0) {l bk : List Int} (hs : l.length ≤ 48) (hb : bk.length ≤ 48) :
    step (T x j (l) (bk)) = { T x j l bk with status := 1 } := by
  have hm : movesOf 0 = (0, 0, 0, 0) := rfl
  rw [step_at (m := T x j (l) (bk)) (k := 0) h0 rfl hx (by decide) (fun e => by cases e)
    (by rw [hm]; simp only [T, List.length_append, List.length_cons, List.length_nil]; omega) (by rw [hm]; simp only [T, List.length_append, List.length_cons, List.length_nil]; omega)
    (by rw [hm]; simp only [T, List.length_append, List.length_cons, List.length_nil]; omega) (by rw [hm]; simp only [T, List.length_append, List.length_cons, List.length_nil]; omega)]
  show { T x j (l) (bk) with status := 1 } = _
  try simp only [T, nth_snoc, nth_snocS, less_snoc, less_none, Int.natCast_add]
  try simp only [List.append_assoc, List.cons_append, List.nil_append]
  try rfl
theorem go_loop {x : M} (h0 : x.status = 0) {j : Nat} {n : Nat} (hx : x.mem[j]? = some 37) (hg : x.mem[j + 1]? = some (n : Int)) {l bk : List Int} {a b : Int} (hs : l.length ≤ 48) (hb : bk.length + 2 ≤ 48) :
    step (T x j (l) (bk ++ [a] ++ [b])) = if wrap64 (b + 1) = a then T x (j + 2) l bk else T x n l (bk ++ [a] ++ [wrap64 (b + 1)]) := by
  have hm : movesOf 37 = (0, 2, 0, 2) := rfl
  rw [step_at (m := T x j (l) (bk ++ [a] ++ [b])) (k := 37) h0 rfl hx (by decide) (fun _ => arg_lt hg)
    (by rw [hm]; simp only [T, List.length_append, List.length_cons, List.length_nil]; omega) (by rw [hm]; simp only [T, List.length_append, List.length_cons, List.length_nil]; omega)
    (by rw [hm]; simp only [T, List.length_append, List.length_cons, List.length_nil]; omega) (by rw [hm]; simp only [T, List.length_append, List.length_cons, List.length_nil]; omega)]
  show (if wrap64 (nth (bk ++ [a] ++ [b]) 0 + 1) = nth (bk ++ [a] ++ [b]) 1 then { T x j (l) (bk ++ [a] ++ [b]) with ip := ((j : Int) + 2), back := less (bk ++ [a] ++ [b]) 2 } else { T x j (l) (bk ++ [a] ++ [b]) with ip := (T x j (l) (bk ++ [a] ++ [b])).mem.getD (j + 1) 0, back := less (bk ++ [a] ++ [b]) 1 ++ [wrap64 (nth (bk ++ [a] ++ [b]) 0 + 1)] }) = _
  rw [arg_at (show (T x j (l) (bk ++ [a] ++ [b])).mem[j + 1]? = _ from hg)]
  try simp only [T, nth_snoc, nth_snocS, less_snoc, less_none, Int.natCast_add]
  try simp only [List.append_assoc, List.cons_append, List.nil_append]
  try rfl
theorem go_ploop {x : M} (h0 : x.status = 0) {j : Nat} {n : Nat} (hx : x.mem[j]? = some 38) (hg : x.mem[j + 1]? = some (n : Int)) {l bk : List Int} {a b c : Int} (hs : l.length + 1 ≤ 48) (hb : bk.length + 2 ≤ 48) :
    step (T x j (l ++ [c]) (bk ++ [a] ++ [b])) = if Cell.crosses (wrap64 (b - a)) c = true then T x (j + 2) l bk else T x n l (bk ++ [a] ++ [wrap64 (b + c)]) := by
  have hm : movesOf 38 = (1, 2, 0, 2) := rfl
  rw [step_at (m := T x j (l ++ [c]) (bk ++ [a] ++ [b])) (k := 38) h0 rfl hx (by decide) (fun _ => arg_lt hg)
    (by rw [hm]; simp only [T, List.length_append, List.length_cons, List.length_nil]; omega) (by rw [hm]; simp only [T, List.length_append, List.length_cons, List.length_nil]; omega)
    (by rw [hm]; simp only [T, List.length_append, List.length_cons, List.length_nil]; omega) (by rw [hm]; simp only [T, List.length_append, List.length_cons, List.length_nil]; omega)]
  show (if Cell.crosses (wrap64 (nth (bk ++ [a] ++ [b]) 0 - nth (bk ++ [a] ++ [b]) 1)) (nth (l ++ [c]) 0) = true then { T x j (l ++ [c]) (bk ++ [a] ++ [b]) with ip := ((j : Int) + 2), stack := less (l ++ [c]) 1, back := less (bk ++ [a] ++ [b]) 2 } else { T x j (l ++ [c]) (bk ++ [a] ++ [b]) with ip := (T x j (l ++ [c]) (bk ++ [a] ++ [b])).mem.getD (j + 1) 0, stack := less (l ++ [c]) 1, back := less (bk ++ [a] ++ [b]) 1 ++ [wrap64 (nth (bk ++ [a] ++ [b]) 0 + nth (l ++ [c]) 0)] }) = _
  rw [arg_at (show (T x j (l ++ [c]) (bk ++ [a] ++ [b])).mem[j + 1]? = _ from hg)]
  try simp only [T, nth_snoc, nth_snocS, less_snoc, less_none, Int.natCast_add]
  try simp only [List.append_assoc, List.cons_append, List.nil_append]
  try rfl
theorem go_store {x : M} (h0 : x.status = 0) {j : Nat} (hx : x.mem[j]? = some 31) {l bk : List Int} {v : Int} {r : Nat} (hr : r < x.mem.length) (hs : l.length + 2 ≤ 48) (hb : bk.length ≤ 48) :
    step (T x j (l ++ [v] ++ [(r : Int)]) (bk)) = T { x with mem := x.mem.set r v } (j + 1) l bk := by
  have hm : movesOf 31 = (2, 0, 0, 0) := rfl
  rw [step_at (m := T x j (l ++ [v] ++ [(r : Int)]) (bk)) (k := 31) h0 rfl hx (by decide) (fun e => by cases e)
    (by rw [hm]; simp only [T, List.length_append, List.length_cons, List.length_nil]; omega) (by rw [hm]; simp only [T, List.length_append, List.length_cons, List.length_nil]; omega)
    (by rw [hm]; simp only [T, List.length_append, List.length_cons, List.length_nil]; omega) (by rw [hm]; simp only [T, List.length_append, List.length_cons, List.length_nil]; omega)]
  show (if nth (l ++ [v] ++ [(r : Int)]) 0 < 0 ∨ ((T x j (l ++ [v] ++ [(r : Int)]) (bk)).mem.length : Int) ≤ nth (l ++ [v] ++ [(r : Int)]) 0 then fault (T x j (l ++ [v] ++ [(r : Int)]) (bk)) (-9) else { T x j (l ++ [v] ++ [(r : Int)]) (bk) with ip := ((j : Int) + 1), stack := less (l ++ [v] ++ [(r : Int)]) 2, mem := (T x j (l ++ [v] ++ [(r : Int)]) (bk)).mem.set (nth (l ++ [v] ++ [(r : Int)]) 0).toNat (nth (l ++ [v] ++ [(r : Int)]) 1) }) = _
  rw [if_neg (by rw [nth_snoc]; show ¬ ((r : Int) < 0 ∨ (x.mem.length : Int) ≤ r); omega)]
  have e : ((r : Int)).toNat = r := Int.toNat_natCast r
  simp only [nth_snoc, e]
  try simp only [T, nth_snoc, nth_snocS, less_snoc, less_none, Int.natCast_add]
  try simp only [List.append_assoc, List.cons_append, List.nil_append]
  try rfl
theorem go_addto {x : M} (h0 : x.status = 0) {j : Nat} (hx : x.mem[j]? = some 32) {l bk : List Int} {u v : Int} {r : Nat} (hr : x.mem[r]? = some u) (hs : l.length + 2 ≤ 48) (hb : bk.length ≤ 48) :
    step (T x j (l ++ [v] ++ [(r : Int)]) (bk)) = T { x with mem := x.mem.set r (wrap64 (u + v)) } (j + 1) l bk := by
  have hm : movesOf 32 = (2, 0, 0, 0) := rfl
  rw [step_at (m := T x j (l ++ [v] ++ [(r : Int)]) (bk)) (k := 32) h0 rfl hx (by decide) (fun e => by cases e)
    (by rw [hm]; simp only [T, List.length_append, List.length_cons, List.length_nil]; omega) (by rw [hm]; simp only [T, List.length_append, List.length_cons, List.length_nil]; omega)
    (by rw [hm]; simp only [T, List.length_append, List.length_cons, List.length_nil]; omega) (by rw [hm]; simp only [T, List.length_append, List.length_cons, List.length_nil]; omega)]
  show (if nth (l ++ [v] ++ [(r : Int)]) 0 < 0 ∨ ((T x j (l ++ [v] ++ [(r : Int)]) (bk)).mem.length : Int) ≤ nth (l ++ [v] ++ [(r : Int)]) 0 then fault (T x j (l ++ [v] ++ [(r : Int)]) (bk)) (-9) else { T x j (l ++ [v] ++ [(r : Int)]) (bk) with ip := ((j : Int) + 1), stack := less (l ++ [v] ++ [(r : Int)]) 2, mem := (T x j (l ++ [v] ++ [(r : Int)]) (bk)).mem.set (nth (l ++ [v] ++ [(r : Int)]) 0).toNat (wrap64 ((T x j (l ++ [v] ++ [(r : Int)]) (bk)).mem.getD (nth (l ++ [v] ++ [(r : Int)]) 0).toNat 0 + nth (l ++ [v] ++ [(r : Int)]) 1)) }) = _
  rw [if_neg (by rw [nth_snoc]; show ¬ ((r : Int) < 0 ∨ (x.mem.length : Int) ≤ r); have := arg_lt hr; omega)]
  have e : ((r : Int)).toNat = r := Int.toNat_natCast r
  have e2 : x.mem.getD r 0 = u := arg_at hr
  simp only [nth_snoc, e, T, e2]
  try simp only [T, nth_snoc, nth_snocS, less_snoc, less_none, Int.natCast_add]
  try simp only [List.append_assoc, List.cons_append, List.nil_append]
  try rfl
theorem go_fetch {x : M} (h0 : x.status = 0) {j : Nat} (hx : x.mem[j]? = some 30) {l bk : List Int} {v : Int} {r : Nat} (hr : x.mem[r]? = some v) (hs : l.length + 1 ≤ 48) (hb : bk.length ≤ 48) :
    step (T x j (l ++ [(r : Int)]) (bk)) = T x (j + 1) (l ++ [v]) bk := by
  have hm : movesOf 30 = (1, 0, 1, 0) := rfl
  rw [step_at (m := T x j (l ++ [(r : Int)]) (bk)) (k := 30) h0 rfl hx (by decide) (fun e => by cases e)
    (by rw [hm]; simp only [T, List.length_append, List.length_cons, List.length_nil]; omega) (by rw [hm]; simp only [T, List.length_append, List.length_cons, List.length_nil]; omega)
    (by rw [hm]; simp only [T, List.length_append, List.length_cons, List.length_nil]; omega) (by rw [hm]; simp only [T, List.length_append, List.length_cons, List.length_nil]; omega)]
  show (if nth (l ++ [(r : Int)]) 0 < 0 ∨ ((T x j (l ++ [(r : Int)]) (bk)).mem.length : Int) ≤ nth (l ++ [(r : Int)]) 0 then fault (T x j (l ++ [(r : Int)]) (bk)) (-9) else { T x j (l ++ [(r : Int)]) (bk) with ip := ((j : Int) + 1), stack := less (l ++ [(r : Int)]) 1 ++ [(T x j (l ++ [(r : Int)]) (bk)).mem.getD (nth (l ++ [(r : Int)]) 0).toNat 0] }) = _
  rw [if_neg (by rw [nth_snoc]; show ¬ ((r : Int) < 0 ∨ (x.mem.length : Int) ≤ r); have := arg_lt hr; omega)]
  have e : ((r : Int)).toNat = r := Int.toNat_natCast r
  have e2 : x.mem.getD r 0 = v := arg_at hr
  simp only [nth_snoc, e, T, e2]
  try simp only [T, nth_snoc, nth_snocS, less_snoc, less_none, Int.natCast_add]
  try simp only [List.append_assoc, List.cons_append, List.nil_append]
  try rfl
theorem go_emit {x : M} (h0 : x.status = 0) {j : Nat} (hx : x.mem[j]? = some 41) {l bk : List Int} {a : Int} (ho : x.out.size + 1 ≤ 2000) (hs : l.length + 1 ≤ 48) (hb : bk.length ≤ 48) :
    step (T x j (l ++ [a]) (bk)) = T { x with out := x.out ++ ⟨#[UInt8.ofNat (a % 256).toNat]⟩ } (j + 1) l bk := by
  have hm : movesOf 41 = (1, 0, 0, 0) := rfl
  rw [step_at (m := T x j (l ++ [a]) (bk)) (k := 41) h0 rfl hx (by decide) (fun e => by cases e)
    (by rw [hm]; simp only [T, List.length_append, List.length_cons, List.length_nil]; omega) (by rw [hm]; simp only [T, List.length_append, List.length_cons, List.length_nil]; omega)
    (by rw [hm]; simp only [T, List.length_append, List.length_cons, List.length_nil]; omega) (by rw [hm]; simp only [T, List.length_append, List.length_cons, List.length_nil]; omega)]
  show (if 2000 < (T x j (l ++ [a]) (bk)).out.size + 1 then fault (T x j (l ++ [a]) (bk)) (-57) else { T x j (l ++ [a]) (bk) with ip := ((j : Int) + 1), stack := less (l ++ [a]) 1, out := (T x j (l ++ [a]) (bk)).out ++ ⟨#[UInt8.ofNat (nth (l ++ [a]) 0 % 256).toNat]⟩ }) = _
  rw [if_neg (show ¬ 2000 < (T x j (l ++ [a]) bk).out.size + 1 from Nat.not_lt.2 ho)]
  try simp only [T, nth_snoc, nth_snocS, less_snoc, less_none, Int.natCast_add]
  try simp only [List.append_assoc, List.cons_append, List.nil_append]
  try rfl
theorem go_key {x : M} (h0 : x.status = 0) {j : Nat} (hx : x.mem[j]? = some 43) {l bk : List Int} (hr : x.read < x.inp.size) (hs : l.length + 1 ≤ 48) (hb : bk.length ≤ 48) :
    step (T x j (l) (bk)) = T { x with read := x.read + 1 } (j + 1) (l ++ [((x.inp.data.toList.getD x.read.toNat 0).toNat : Int)]) bk := by
  have hm : movesOf 43 = (0, 0, 1, 0) := rfl
  rw [step_at (m := T x j (l) (bk)) (k := 43) h0 rfl hx (by decide) (fun e => by cases e)
    (by rw [hm]; simp only [T, List.length_append, List.length_cons, List.length_nil]; omega) (by rw [hm]; simp only [T, List.length_append, List.length_cons, List.length_nil]; omega)
    (by rw [hm]; simp only [T, List.length_append, List.length_cons, List.length_nil]; omega) (by rw [hm]; simp only [T, List.length_append, List.length_cons, List.length_nil]; omega)]
  show (if (T x j (l) (bk)).read < (T x j (l) (bk)).inp.size then { T x j (l) (bk) with ip := ((j : Int) + 1), stack := (l) ++ [(((T x j (l) (bk)).inp.data.toList.getD (T x j (l) (bk)).read.toNat 0).toNat : Int)], read := (T x j (l) (bk)).read + 1 } else { T x j (l) (bk) with ip := ((j : Int) + 1), stack := (l) ++ [-1] }) = _
  rw [if_pos (show (T x j l bk).read < (T x j l bk).inp.size from hr)]
  try simp only [T, nth_snoc, nth_snocS, less_snoc, less_none, Int.natCast_add]
  try simp only [List.append_assoc, List.cons_append, List.nil_append]
  try rfl
theorem go_nokey {x : M} (h0 : x.status = 0) {j : Nat} (hx : x.mem[j]? = some 43) {l bk : List Int} (hr : ¬ x.read < x.inp.size) (hs : l.length + 1 ≤ 48) (hb : bk.length ≤ 48) :
    step (T x j (l) (bk)) = T x (j + 1) (l ++ [-1]) bk := by
  have hm : movesOf 43 = (0, 0, 1, 0) := rfl
  rw [step_at (m := T x j (l) (bk)) (k := 43) h0 rfl hx (by decide) (fun e => by cases e)
    (by rw [hm]; simp only [T, List.length_append, List.length_cons, List.length_nil]; omega) (by rw [hm]; simp only [T, List.length_append, List.length_cons, List.length_nil]; omega)
    (by rw [hm]; simp only [T, List.length_append, List.length_cons, List.length_nil]; omega) (by rw [hm]; simp only [T, List.length_append, List.length_cons, List.length_nil]; omega)]
  show (if (T x j (l) (bk)).read < (T x j (l) (bk)).inp.size then { T x j (l) (bk) with ip := ((j : Int) + 1), stack := (l) ++ [(((T x j (l) (bk)).inp.data.toList.getD (T x j (l) (bk)).read.toNat 0).toNat : Int)], read := (T x j (l) (bk)).read + 1 } else { T x j (l) (bk) with ip := ((j : Int) + 1), stack := (l) ++ [-1] }) = _
  rw [if_neg (show ¬ (T x j l bk).read < (T x j l bk).inp.size from hr)]
  try simp only [T, nth_snoc, nth_snocS, less_snoc, less_none, Int.natCast_add]
  try simp only [List.append_assoc, List.cons_append, List.nil_append]
  try rfl
theorem go_catch {x : M} (h0 : x.status = 0) {j : Nat} (hx : x.mem[j]? = some 46) {l bk : List Int} {r : Nat} (hs : l.length + 1 ≤ 48) (hb : bk.length + 4 ≤ 48) :
    step (T x j (l ++ [(r : Int)]) (bk)) = T { x with handler := (bk.length : Int) + 3 } r l (bk ++ [((j + 1 : Nat) : Int), x.handler, (l.length : Int), 1]) := by
  have hm : movesOf 46 = (1, 0, 0, 4) := rfl
  rw [step_at (m := T x j (l ++ [(r : Int)]) (bk)) (k := 46) h0 rfl hx (by decide) (fun e => by cases e)
    (by rw [hm]; simp only [T, List.length_append, List.length_cons, List.length_nil]; omega) (by rw [hm]; simp only [T, List.length_append, List.length_cons, List.length_nil]; omega)
    (by rw [hm]; simp only [T, List.length_append, List.length_cons, List.length_nil]; omega) (by rw [hm]; simp only [T, List.length_append, List.length_cons, List.length_nil]; omega)]
  show { T x j (l ++ [(r : Int)]) (bk) with ip := nth (l ++ [(r : Int)]) 0, stack := less (l ++ [(r : Int)]) 1, back := (bk) ++ [((j : Int) + 1), x.handler, ((less (l ++ [(r : Int)]) 1).length : Int), 1], handler := ((bk).length : Int) + 3 } = _
  try simp only [T, nth_snoc, nth_snocS, less_snoc, less_none, Int.natCast_add]
  try simp only [List.append_assoc, List.cons_append, List.nil_append]
  try rfl
theorem go_pass {x : M} (h0 : x.status = 0) {j : Nat} (hx : x.mem[j]? = some 45) {l bk : List Int} (hs : l.length + 1 ≤ 48) (hb : bk.length ≤ 48) :
    step (T x j (l ++ [0]) (bk)) = T x (j + 1) l bk := by
  have hm : movesOf 45 = (1, 0, 0, 0) := rfl
  rw [step_at (m := T x j (l ++ [0]) (bk)) (k := 45) h0 rfl hx (by decide) (fun e => by cases e)
    (by rw [hm]; simp only [T, List.length_append, List.length_cons, List.length_nil]; omega) (by rw [hm]; simp only [T, List.length_append, List.length_cons, List.length_nil]; omega)
    (by rw [hm]; simp only [T, List.length_append, List.length_cons, List.length_nil]; omega) (by rw [hm]; simp only [T, List.length_append, List.length_cons, List.length_nil]; omega)]
  show (if nth (l ++ [0]) 0 = 0 then { T x j (l ++ [0]) (bk) with ip := ((j : Int) + 1), stack := less (l ++ [0]) 1 } else fault { T x j (l ++ [0]) (bk) with stack := less (l ++ [0]) 1 } (nth (l ++ [0]) 0)) = _
  rw [if_pos (nth_snoc _ _)]
  try simp only [T, nth_snoc, nth_snocS, less_snoc, less_none, Int.natCast_add]
  try simp only [List.append_assoc, List.cons_append, List.nil_append]
  try rfl
theorem go_throw {x : M} (h0 : x.status = 0) {j : Nat} (hx : x.mem[j]? = some 45) {l bk : List Int} {a : Int} (ha : a ≠ 0) (hs : l.length + 1 ≤ 48) (hb : bk.length ≤ 48) :
    step (T x j (l ++ [a]) (bk)) = fault (T x j l bk) a := by
  have hm : movesOf 45 = (1, 0, 0, 0) := rfl
  rw [step_at (m := T x j (l ++ [a]) (bk)) (k := 45) h0 rfl hx (by decide) (fun e => by cases e)
    (by rw [hm]; simp only [T, List.length_append, List.length_cons, List.length_nil]; omega) (by rw [hm]; simp only [T, List.length_append, List.length_cons, List.length_nil]; omega)
    (by rw [hm]; simp only [T, List.length_append, List.length_cons, List.length_nil]; omega) (by rw [hm]; simp only [T, List.length_append, List.length_cons, List.length_nil]; omega)]
  show (if nth (l ++ [a]) 0 = 0 then { T x j (l ++ [a]) (bk) with ip := ((j : Int) + 1), stack := less (l ++ [a]) 1 } else fault { T x j (l ++ [a]) (bk) with stack := less (l ++ [a]) 1 } (nth (l ++ [a]) 0)) = _
  rw [if_neg (by rw [nth_snoc]; exact ha)]
  try simp only [T, nth_snoc, nth_snocS, less_snoc, less_none, Int.natCast_add]
  try simp only [List.append_assoc, List.cons_append, List.nil_append]
  try rfl
theorem go_endcatch {x : M} (h0 : x.status = 0) {j : Nat} (hx : x.mem[j]? = some 1) {l bk : List Int} {b : Int} {r : Nat} {c : Int} (hh : x.handler = (bk.length : Int) + 3) (hl : l.length < 48) (hs : l.length ≤ 48) (hb : bk.length + 3 ≤ 48) :
    step (T x j (l) (bk ++ [(r : Int)] ++ [c] ++ [b])) = T { x with handler := c } r (l ++ [0]) bk := by
  have hm : movesOf 1 = (0, 0, 0, 0) := rfl
  rw [step_at (m := T x j (l) (bk ++ [(r : Int)] ++ [c] ++ [b])) (k := 1) h0 rfl hx (by decide) (fun e => by cases e)
    (by rw [hm]; simp only [T, List.length_append, List.length_cons, List.length_nil]; omega) (by rw [hm]; simp only [T, List.length_append, List.length_cons, List.length_nil]; omega)
    (by rw [hm]; simp only [T, List.length_append, List.length_cons, List.length_nil]; omega) (by rw [hm]; simp only [T, List.length_append, List.length_cons, List.length_nil]; omega)]
  show (if (T x j (l) (bk ++ [(r : Int)] ++ [c] ++ [b])).handler < 3 ∨ ((bk ++ [(r : Int)] ++ [c] ++ [b]).length : Int) ≠ (T x j (l) (bk ++ [(r : Int)] ++ [c] ++ [b])).handler then fault (T x j (l) (bk ++ [(r : Int)] ++ [c] ++ [b])) (-25) else if 48 ≤ (l).length then fault (T x j (l) (bk ++ [(r : Int)] ++ [c] ++ [b])) (-3) else { T x j (l) (bk ++ [(r : Int)] ++ [c] ++ [b]) with ip := nth (bk ++ [(r : Int)] ++ [c] ++ [b]) 2, handler := nth (bk ++ [(r : Int)] ++ [c] ++ [b]) 1, back := less (bk ++ [(r : Int)] ++ [c] ++ [b]) 3, stack := (l) ++ [0] }) = _
  rw [if_neg (by show ¬ (x.handler < 3 ∨ _ ≠ x.handler); simp only [List.length_append, List.length_cons, List.length_nil]; omega), if_neg (by omega)]
  try simp only [T, nth_snoc, nth_snocS, less_snoc, less_none, Int.natCast_add]
  try simp only [List.append_assoc, List.cons_append, List.nil_append]
  try rfl
/-- what of the memory is code that lies from b on -/
def lay : List Int → Nat → List Int → List Int
  | mem, _, [] => mem
  | mem, b, c :: cs => lay (mem.set b c) (b + 1) cs
theorem lay_length (mem : List Int) (b : Nat) (cs : List Int) : (lay mem b cs).length = mem.length := by
  induction cs generalizing mem b with
  | nil => rfl
  | cons c cs ih => unfold lay; rw [ih, List.length_set]
theorem lay_snoc (mem : List Int) (b : Nat) (cs : List Int) (c : Int) : lay mem b (cs ++ [c]) = (lay mem b cs).set (b + cs.length) c := by
  induction cs generalizing mem b with
  | nil => rfl
  | cons d cs ih =>
    show lay (mem.set b d) (b + 1) (cs ++ [c]) = (lay (mem.set b d) (b + 1) cs).set (b + (cs.length + 1)) c
    rw [ih, show b + 1 + cs.length = b + (cs.length + 1) by omega]
theorem lay_below (mem : List Int) (b : Nat) (cs : List Int) {j : Nat} (h : j < b ∨ b + cs.length ≤ j) : (lay mem b cs)[j]? = mem[j]? := by
  induction cs generalizing mem b with
  | nil => rfl
  | cons c cs ih =>
    unfold lay
    rw [List.length_cons] at h
    rw [ih (mem.set b c) (b + 1) (by omega), List.getElem?_set_ne (by omega)]
theorem lay_at (mem : List Int) (b : Nat) (cs : List Int) {j : Nat} (h : j < cs.length) (hm : b + j < mem.length) : (lay mem b cs)[b + j]? = cs[j]? := by
  induction cs generalizing mem b j with
  | nil => cases h
  | cons c cs ih =>
    unfold lay
    cases j with
    | zero => rw [lay_below _ _ _ (.inl (by omega)), Nat.add_zero, List.getElem?_set_self (by omega)]; rfl
    | succ j =>
      rw [List.length_cons] at h
      rw [show b + (j + 1) = (b + 1) + j by omega, ih (mem.set b c) (b + 1) (by omega) (by rw [List.length_set]; omega)]
      rfl
/-- one step more -/
theorem run_one {n : Nat} {s t : M} (h : s.status = 0) (e : step s = t) : run (n + 1) s = run n t := by
  rw [← e]
  conv => lhs; unfold run
  rw [if_pos h]
end Go.Proofs.YtfpaajoggbibnaaGreatDoor.Mach
