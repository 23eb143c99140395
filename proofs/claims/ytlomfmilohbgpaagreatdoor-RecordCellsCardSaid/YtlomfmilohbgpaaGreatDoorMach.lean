
/- A machine in plain lists, and its steps, as the document has them (chapter 9); no code of package inner in sight. -/
import Derived.Test.YtlomfmilohbgpaaGreatDoorRefMoves
import Derived.Test.YtlomfmilohbgpaaGreatDoorCellPlain
import Derived.Lib.ItoaNum
namespace Go.Proofs.YtlomfmilohbgpaaGreatDoor.Mach
open Go.RowKit (wrap64)
open Go.Proofs.YtlomfmilohbgpaaGreatDoor.Cell (In)
set_option linter.unusedVariables false
/-- a machine; the lists' deepest cells first -/
structure M where
  ip : Int
  handler : Int
  stack : List Int
  back : List Int
  mem : List Int
  out : ByteArray
  inp : ByteArray
  read : Int
  status : Int
  code : Int
structure Right (s : M) : Prop where
  stack : s.stack.length ≤ 48
  back : s.back.length ≤ 48
  mem : s.mem.length ≤ 3000
  out : s.out.size ≤ 2000
  read0 : 0 ≤ s.read
  read1 : s.read ≤ s.inp.size
  status0 : 0 ≤ s.status
  status1 : s.status ≤ 2
/-- every number is a cell's -/
structure Cells (s : M) : Prop where
  ip : In s.ip
  handler : In s.handler
  stack : ∀ x ∈ s.stack, In x
  back : ∀ x ∈ s.back, In x
  mem : ∀ x ∈ s.mem, In x
  code : In s.code
/-- may a fault be caught? -/
def caught (s : M) : Bool := decide (3 ≤ s.handler) && decide (s.handler ≤ s.back.length) && decide (0 ≤ s.back.getD (s.handler.toNat - 1) 0) && decide (s.back.getD (s.handler.toNat - 1) 0 < 48)
/-- a stack that is so deep -/
def deep (l : List Int) (n : Nat) : List Int := l.take n ++ List.replicate (n - l.length) 0
theorem deep_length (l : List Int) (n : Nat) : (deep l n).length = n := by unfold deep; rw [List.length_append, List.length_take, List.length_replicate]; omega
def fault (s : M) (code : Int) : M :=
  if caught s = true then { s with handler := s.back.getD (s.handler.toNat - 2) 0, ip := s.back.getD (s.handler.toNat - 3) 0, back := s.back.take (s.handler.toNat - 3), stack := deep s.stack (s.back.getD (s.handler.toNat - 1) 0).toNat ++ [code] }
  else { s with status := 2, code := code }
/-- the k-th cell from the top; 0 of none -/
def nth (l : List Int) (k : Nat) : Int := if k < l.length then l.getD (l.length - 1 - k) 0 else 0
/-- what is laid on a list less its top a cells -/
def less (l : List Int) (a : Nat) : List Int := l.take (l.length - a)
/-- an operation is done, its cells and its room being there: s as it was, i the cell behind it, g its operand -/
def exec (k : Nat) (s : M) (i g : Int) : M :=
  let p := nth s.stack 0
  let q := nth s.stack 1
  let r := nth s.stack 2
  let one := less s.stack 1
  let two := less s.stack 2
  match k with
  | 0 => { s with status := 1 }
  | 1 => if s.handler < 3 ∨ (s.back.length : Int) ≠ s.handler then fault s (-25) else if 48 ≤ s.stack.length then fault s (-3) else { s with ip := nth s.back 2, handler := nth s.back 1, back := less s.back 3, stack := s.stack ++ [0] }
  | 2 => { s with ip := i, stack := s.stack ++ [g] }
  | 3 => { s with ip := g }
  | 4 => { s with ip := if p = 0 then g else i, stack := one }
  | 5 => { s with ip := nth s.back 0, back := less s.back 1 }
  | 6 => { s with ip := i, stack := one ++ [p, p] }
  | 7 => { s with ip := i, stack := one }
  | 8 => { s with ip := i, stack := two ++ [p, q] }
  | 9 => { s with ip := i, stack := two ++ [q, p, q] }
  | 10 => { s with ip := i, stack := less s.stack 3 ++ [q, p, r] }
  | 30 => if p < 0 ∨ (s.mem.length : Int) ≤ p then fault s (-9) else { s with ip := i, stack := one ++ [s.mem.getD p.toNat 0] }
  | 31 => if p < 0 ∨ (s.mem.length : Int) ≤ p then fault s (-9) else { s with ip := i, stack := two, mem := s.mem.set p.toNat q }
  | 32 => if p < 0 ∨ (s.mem.length : Int) ≤ p then fault s (-9) else { s with ip := i, stack := two, mem := s.mem.set p.toNat (wrap64 (s.mem.getD p.toNat 0 + q)) }
  | 33 => { s with ip := i, stack := one, back := s.back ++ [p] }
  | 34 => { s with ip := i, stack := s.stack ++ [nth s.back 0], back := less s.back 1 }
  | 35 => { s with ip := i, stack := s.stack ++ [nth s.back 0] }
  | 36 => { s with ip := i, stack := two, back := s.back ++ [q, p] }
  | 37 => if wrap64 (nth s.back 0 + 1) = nth s.back 1 then { s with ip := i, back := less s.back 2 } else { s with ip := g, back := less s.back 1 ++ [wrap64 (nth s.back 0 + 1)] }
  | 38 => if Cell.crosses (wrap64 (nth s.back 0 - nth s.back 1)) p = true then { s with ip := i, stack := one, back := less s.back 2 } else { s with ip := g, stack := one, back := less s.back 1 ++ [wrap64 (nth s.back 0 + p)] }
  | 39 => { s with ip := i, stack := s.stack ++ [nth s.back 2] }
  | 40 => { s with ip := i, back := less s.back 2 }
  | 41 => if 2000 < s.out.size + 1 then fault s (-57) else { s with ip := i, stack := one, out := s.out ++ ⟨#[UInt8.ofNat (p % 256).toNat]⟩ }
  | 42 => if 2000 < s.out.size + ((Lib.itoa p).length + 1) then fault s (-57) else { s with ip := i, stack := one, out := s.out ++ (⟨(Lib.itoa p).toArray⟩ ++ ⟨#[32]⟩) }
  | 43 => if s.read < s.inp.size then { s with ip := i, stack := s.stack ++ [((s.inp.data.toList.getD s.read.toNat 0).toNat : Int)], read := s.read + 1 } else { s with ip := i, stack := s.stack ++ [-1] }
  | 44 => if p < 64 ∨ (s.mem.length : Int) ≤ p then fault s (-13) else { s with ip := p, stack := one, back := s.back ++ [i] }
  | 45 => if p = 0 then { s with ip := i, stack := one } else fault { s with stack := one } p
  | 46 => { s with ip := p, stack := one, back := s.back ++ [i, s.handler, (one.length : Int), 1], handler := (s.back.length : Int) + 3 }
  | 47 => { s with ip := i }
  | k =>
    if k ∈ [16, 20, 26, 27] then { s with ip := i, stack := one ++ [(Cell.one k p).1] }
    else if (Cell.two k q p).2 = true then { s with ip := i, stack := two ++ [(Cell.two k q p).1] } else fault s (-10)
/-- a step -/
def step (s : M) : M :=
  if s.status ≠ 0 then s
  else if s.ip < 0 ∨ (s.mem.length : Int) ≤ s.ip then fault s (-9)
  else
    let c := s.mem.getD s.ip.toNat 0
    if 64 ≤ c then (if 48 ≤ s.back.length then fault s (-5) else { s with ip := c, back := s.back ++ [wrap64 (s.ip + 1)] })
    else if c < 0 ∨ 48 ≤ c then fault s (-13)
    else
      let k := c.toNat
      if argOf k = true ∧ s.mem.length ≤ s.ip.toNat + 1 then fault s (-9)
      else
        let m := movesOf k
        if (s.stack.length : Int) < m.1 then fault s (-4)
        else if (s.back.length : Int) < m.2.1 then fault s (-6)
        else if 48 < (s.stack.length : Int) - m.1 + m.2.2.1 then fault s (-3)
        else if 48 < (s.back.length : Int) - m.2.1 + m.2.2.2 then fault s (-5)
        else exec k s (s.ip + (if argOf k = true then 2 else 1)) (s.mem.getD (s.ip.toNat + 1) 0)
/-- steps, as long as it is running and fuel is left; and what is left -/
def run : Nat → M → M × Nat
  | 0, s => (s, 0)
  | n + 1, s => if s.status = 0 then run n (step s) else (s, n + 1)
theorem run_still {s : M} (h : s.status ≠ 0) (n : Nat) : run n s = (s, n) := by
  cases n with
  | zero => rfl
  | succ n => unfold run; rw [if_neg h]
/-- fuel in two parts does what all of it does at once -/
theorem run_add (a b : Nat) (s : M) : run (b + (run a s).2) (run a s).1 = run (a + b) s := by
  induction a generalizing s with
  | zero => show run (b + 0) s = run (0 + b) s; rw [Nat.add_zero, Nat.zero_add]
  | succ a ih =>
    by_cases h : s.status = 0
    · rw [show run (a + 1) s = run a (step s) by rw [run, if_pos h], ih (step s), show a + 1 + b = (a + b) + 1 by omega, show run (a + b + 1) s = run (a + b) (step s) by rw [run, if_pos h]]
    · rw [run_still h (a + 1), show a + 1 + b = b + (a + 1) by omega]
theorem run_left (n : Nat) (s : M) : (run n s).2 ≤ n ∧ ((run n s).1.status = 0 → (run n s).2 = 0) := by
  induction n generalizing s with
  | zero => exact ⟨Nat.le_refl _, fun _ => rfl⟩
  | succ n ih =>
    by_cases h : s.status = 0
    · rw [show run (n + 1) s = run n (step s) by rw [run, if_pos h]]
      exact ⟨Nat.le_succ_of_le (ih (step s)).1, (ih (step s)).2⟩
    · rw [run_still h]
      exact ⟨Nat.le_refl _, fun h' => absurd h' h⟩
theorem less_length (l : List Int) (a : Nat) : (less l a).length = l.length - a := by unfold less; rw [List.length_take]; omega
/-- a fault leaves a machine right -/
theorem fault_right {s : M} (h : Right s) (c : Int) : Right (fault s c) := by
  unfold fault
  split
  · rename_i hc
    have hd : s.back.getD (s.handler.toNat - 1) 0 < 48 := by unfold caught at hc; simp only [Bool.and_eq_true, decide_eq_true_eq] at hc; exact hc.2
    have hd0 : 0 ≤ s.back.getD (s.handler.toNat - 1) 0 := by unfold caught at hc; simp only [Bool.and_eq_true, decide_eq_true_eq] at hc; exact hc.1.2
    refine ⟨?_, ?_, h.mem, h.out, h.read0, h.read1, h.status0, h.status1⟩
    · show (deep s.stack (s.back.getD (s.handler.toNat - 1) 0).toNat ++ [c]).length ≤ 48
      rw [List.length_append, deep_length]
      show _ + 1 ≤ 48
      omega
    · show (s.back.take (s.handler.toNat - 3)).length ≤ 48
      rw [List.length_take]
      have := h.back
      omega
  · exact ⟨h.stack, h.back, h.mem, h.out, h.read0, h.read1, by show (0 : Int) ≤ 2; decide, by show (2 : Int) ≤ 2; decide⟩
end Go.Proofs.YtlomfmilohbgpaaGreatDoor.Mach
