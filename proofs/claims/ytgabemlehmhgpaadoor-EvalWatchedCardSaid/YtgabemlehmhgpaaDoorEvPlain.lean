
/- What a trace does, in plain lists (chapter 15); no code in sight. -/
import Derived.Test.YtgabemlehmhgpaaDoorIrPlain
import Derived.Test.YtgabemlehmhgpaaDoorMach
namespace Go.Proofs.YtgabemlehmhgpaaDoor.Ev
open Go.RowKit (wrap64)
open Ir (T I O)
open Mach (M less)
open Go.Proofs.YtgabemlehmhgpaaDoor.Cell (In)
set_option linter.unusedVariables false
/-- the cell of a list at a place, and whether there is one -/
def getL (l : List Int) (p : Int) : Int × Bool := if 0 ≤ p ∧ p < (l.length : Int) then (l.getD p.toNat 0, true) else (0, false)
def val (V : List Int) (p : Int) : Int := (getL V p).1
/-- what an instruction comes to: the machine, its value, does it go on, was a watched cell stored into -/
structure D where
  s : M
  v : Int
  on : Bool
  hit : Bool
def sayI (s : M) (b : ByteArray) : D := if s.out.size + b.size ≤ 2000 then ⟨{ s with out := s.out ++ b }, 0, true, false⟩ else ⟨s, 0, false, false⟩
def byteT (b : Int) : ByteArray := ⟨#[UInt8.ofNat (b % 256).toNat]⟩
def tellT (b : Int) : ByteArray := ⟨(Lib.itoa b).toArray⟩ ++ ⟨#[32]⟩
def putI (wat : List Int) (s : M) (b c : Int) : D := if 0 ≤ b ∧ b < (s.mem.length : Int) then ⟨{ s with mem := s.mem.set b.toNat c }, 0, true, wat.contains b⟩ else ⟨s, 0, false, false⟩
def askI (s : M) : D := if 0 ≤ s.read ∧ s.read < (s.inp.size : Int) then ⟨{ s with read := s.read + 1 }, ((s.inp.data.toList.getD s.read.toNat 0).toNat : Int), true, false⟩ else ⟨s, -1, true, false⟩
def calcI (s : M) (a b c : Int) : D := if (Cell.one a b).2 = true then ⟨s, (Cell.one a b).1, true, false⟩ else ⟨s, (Cell.two a b c).1, (Cell.two a b c).2, false⟩
def seeI (s : M) (l : List Int) (p : Int) : D := ⟨s, (getL l p).1, (getL l p).2, false⟩
def doI (wat : List Int) (s : M) (V : List Int) (x : I) : D :=
  if x.1 = 1 then ⟨s, x.2.1, true, false⟩
  else if x.1 = 2 then seeI s s.stack (wrap64 ((s.stack.length : Int) - 1 - x.2.1))
  else if x.1 = 3 then seeI s s.back (wrap64 ((s.back.length : Int) - 1 - x.2.1))
  else if x.1 = 4 then calcI s x.2.1 (val V x.2.2.1) (val V x.2.2.2.1)
  else if x.1 = 5 then seeI s s.mem (val V x.2.2.1)
  else if x.1 = 6 then putI wat s (val V x.2.2.1) (val V x.2.2.2.1)
  else if x.1 = 10 then sayI s (byteT (val V x.2.2.1))
  else if x.1 = 11 then sayI s (tellT (val V x.2.2.1))
  else if x.1 = 12 then askI s
  else if x.1 = 7 then ⟨s, 0, decide (val V x.2.2.1 ≠ 0), false⟩
  else if x.1 = 8 then ⟨s, 0, decide (val V x.2.2.1 = 0), false⟩
  else if x.1 = 9 then ⟨s, 0, decide (val V x.2.2.1 = val V x.2.2.2.1), false⟩
  else ⟨s, 0, false, false⟩
/-- the instructions: the machine, the values, the exit, was a watched cell stored into -/
structure X where
  s : M
  V : List Int
  exit : Int
  hit : Bool
def goI (wat : List Int) (last : Int) : List I → M → List Int → X
  | [], s, V => ⟨s, V, last, false⟩
  | x :: l, s, V =>
    let d := doI wat s V x
    if d.hit = true then ⟨d.s, V, x.2.1, true⟩
    else if d.on = true then goI wat last l d.s (V ++ [d.v])
    else ⟨d.s, V, x.2.2.2.2, false⟩
def leaveM (t : T) (s : M) (V : List Int) (o : O) : M := { s with ip := o.ip, stack := less s.stack t.slots.toNat ++ o.stack.map (val V), back := less s.back t.backs.toNat ++ o.back.map (val V) }
def mayT (t : T) (s : M) : Bool :=
  decide (s.status = 0) && (decide (s.ip = t.start) && (Ir.within t.slots s.stack.length && (Ir.within t.grow (48 - s.stack.length) && (Ir.within t.backs s.back.length && Ir.within t.growBack (48 - s.back.length)))))
/-- what a run comes to: the machine, the exit, its steps, was a watched cell stored into -/
structure R where
  s : M
  exit : Int
  steps : Int
  hit : Bool
def outAt (t : T) (x : Int) : Option O := if 0 ≤ x then t.outs[x.toNat]? else none
def runT (wat : List Int) (t : T) (s : M) : R :=
  if mayT t s = true then
    let x := goI wat t.last t.ins s []
    match outAt t x.exit with
    | some o => ⟨leaveM t x.s x.V o, x.exit, o.steps, x.hit⟩
    | none => ⟨s, -1, 0, false⟩
  else ⟨s, -1, 0, false⟩
theorem goI_at {wat : List Int} {last : Int} {l : List I} {s : M} {V : List Int} {k : Nat} {x : I} (hx : l[k]? = some x) : goI wat last (l.drop k) s V = if (doI wat s V x).hit = true then ⟨(doI wat s V x).s, V, x.2.1, true⟩ else if (doI wat s V x).on = true then goI wat last (l.drop (k + 1)) (doI wat s V x).s (V ++ [(doI wat s V x).v]) else ⟨(doI wat s V x).s, V, x.2.2.2.2, false⟩ := by
  have hk := (List.getElem?_eq_some_iff.1 hx).1
  rw [List.drop_eq_getElem_cons hk, show l[k] = x from (List.getElem?_eq_some_iff.1 hx).2]
  rfl
/-- what stays of a machine while a trace is run -/
structure Kin (s u : M) : Prop where
  ip : u.ip = s.ip
  handler : u.handler = s.handler
  stack : u.stack = s.stack
  back : u.back = s.back
  mem : u.mem.length = s.mem.length
  inp : u.inp = s.inp
  status : u.status = s.status
  code : u.code = s.code
  read : s.read ≤ u.read ∧ (s.read ≤ s.inp.size → u.read ≤ s.inp.size)
  out : s.out.size ≤ 2000 → u.out.size ≤ 2000
theorem Kin.refl (s : M) : Kin s s := ⟨rfl, rfl, rfl, rfl, rfl, rfl, rfl, rfl, ⟨Int.le_refl _, id⟩, id⟩
theorem Kin.trans {a b c : M} (h : Kin a b) (g : Kin b c) : Kin a c :=
  ⟨g.ip.trans h.ip, g.handler.trans h.handler, g.stack.trans h.stack, g.back.trans h.back, g.mem.trans h.mem, g.inp.trans h.inp, g.status.trans h.status, g.code.trans h.code, ⟨Int.le_trans h.read.1 g.read.1, fun q => by have h1 := h.read.2 q; have h2 := g.read.2; rw [h.inp] at h2; exact h2 h1⟩, fun q => g.out (h.out q)⟩
theorem sayI_kin (s : M) (b : ByteArray) : Kin s (sayI s b).s := by
  unfold sayI
  split
  · rename_i h
    exact ⟨rfl, rfl, rfl, rfl, rfl, rfl, rfl, rfl, ⟨Int.le_refl _, id⟩, fun _ => by show (s.out ++ b).size ≤ 2000; rw [ByteArray.size_append]; exact h⟩
  · exact Kin.refl s
theorem calcI_kin (s : M) (a b c : Int) : Kin s (calcI s a b c).s := by unfold calcI; split <;> exact Kin.refl s
theorem putI_kin (wat : List Int) (s : M) (b c : Int) : Kin s (putI wat s b c).s := by
  unfold putI
  split
  · exact ⟨rfl, rfl, rfl, rfl, List.length_set, rfl, rfl, rfl, ⟨Int.le_refl _, id⟩, id⟩
  · exact Kin.refl s
theorem askI_kin (s : M) : Kin s (askI s).s := by
  unfold askI
  split
  · rename_i h
    exact ⟨rfl, rfl, rfl, rfl, rfl, rfl, rfl, rfl, ⟨by show s.read ≤ s.read + 1; omega, fun _ => by show s.read + 1 ≤ _; omega⟩, id⟩
  · exact Kin.refl s
theorem doI_kin (wat : List Int) (s : M) (V : List Int) (x : I) : Kin s (doI wat s V x).s := by
  unfold doI
  by_cases h1 : x.1 = 1
  · rw [if_pos h1]; exact Kin.refl s
  rw [if_neg h1]; clear h1
  by_cases h1 : x.1 = 2
  · rw [if_pos h1]; exact Kin.refl s
  rw [if_neg h1]; clear h1
  by_cases h1 : x.1 = 3
  · rw [if_pos h1]; exact Kin.refl s
  rw [if_neg h1]; clear h1
  by_cases h1 : x.1 = 4
  · rw [if_pos h1]; exact calcI_kin _ _ _ _
  rw [if_neg h1]; clear h1
  by_cases h1 : x.1 = 5
  · rw [if_pos h1]; exact Kin.refl s
  rw [if_neg h1]; clear h1
  by_cases h1 : x.1 = 6
  · rw [if_pos h1]; exact putI_kin _ _ _ _
  rw [if_neg h1]; clear h1
  by_cases h1 : x.1 = 10
  · rw [if_pos h1]; exact sayI_kin _ _
  rw [if_neg h1]; clear h1
  by_cases h1 : x.1 = 11
  · rw [if_pos h1]; exact sayI_kin _ _
  rw [if_neg h1]; clear h1
  by_cases h1 : x.1 = 12
  · rw [if_pos h1]; exact askI_kin _
  rw [if_neg h1]; clear h1
  by_cases h1 : x.1 = 7
  · rw [if_pos h1]; exact Kin.refl s
  rw [if_neg h1]; clear h1
  by_cases h1 : x.1 = 8
  · rw [if_pos h1]; exact Kin.refl s
  rw [if_neg h1]; clear h1
  by_cases h1 : x.1 = 9
  · rw [if_pos h1]; exact Kin.refl s
  rw [if_neg h1]
  exact Kin.refl s
theorem goI_kin (wat : List Int) (last : Int) (l : List I) (s : M) (V : List Int) : Kin s (goI wat last l s V).s := by
  induction l generalizing s V with
  | nil => exact Kin.refl s
  | cons x l ih =>
    have hd := doI_kin wat s V x
    unfold goI
    dsimp only
    split
    · exact hd
    · split
      · exact hd.trans (ih _ _)
      · exact hd
/-- every value is a cell's -/
theorem getL_in {l : List Int} (h : ∀ x ∈ l, In x) (p : Int) : In (getL l p).1 := by
  unfold getL
  split
  · rename_i hp
    obtain ⟨n, hn⟩ : ∃ n : Nat, p = n := ⟨p.toNat, by omega⟩
    subst hn
    have hlt : n < l.length := by omega
    show In (l.getD (n : Int).toNat 0)
    rw [Int.toNat_natCast, List.getD_eq_getElem?_getD, List.getElem?_eq_getElem hlt]
    exact h _ (List.getElem_mem hlt)
  · unfold In; decide
theorem zero_in : In 0 := by unfold In; decide
end Go.Proofs.YtgabemlehmhgpaaDoor.Ev
