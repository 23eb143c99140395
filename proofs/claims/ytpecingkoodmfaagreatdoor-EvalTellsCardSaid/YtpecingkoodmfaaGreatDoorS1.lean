/- What a trace is, in plain lists, and which may be (chapter 14); no code in sight. -/
import Derived.RowKit
import Derived.WalkKit
namespace Go.Proofs.YtpecingkoodmfaaGreatDoor.Ir
open Go.RowKit (wrap64)
set_option linter.unusedVariables false
/-- an instruction: Op, A, B, C, X -/
abbrev I := Int × Int × Int × Int × Int
/-- an exit -/
structure O where
  ip : Int
  steps : Int
  stack : List Int
  back : List Int
/-- a trace -/
structure T where
  start : Int
  slots : Int
  backs : Int
  grow : Int
  growBack : Int
  ins : List I
  outs : List O
  last : Int
  cells : List Int
theorem O.ext' {a b : O} (h1 : a.ip = b.ip) (h2 : a.steps = b.steps) (h3 : a.stack = b.stack) (h4 : a.back = b.back) : a = b := by
  cases a; cases b; simp only at h1 h2 h3 h4; subst h1; subst h2; subst h3; subst h4; rfl
instance : DecidableEq O := fun a b => decidable_of_iff (a.ip = b.ip ∧ a.steps = b.steps ∧ a.stack = b.stack ∧ a.back = b.back)
  ⟨fun h => O.ext' h.1 h.2.1 h.2.2.1 h.2.2.2, fun h => by subst h; exact ⟨rfl, rfl, rfl, rfl⟩⟩
theorem T.ext' {a b : T} (h1 : a.start = b.start) (h2 : a.slots = b.slots) (h3 : a.backs = b.backs) (h4 : a.grow = b.grow) (h5 : a.growBack = b.growBack) (h6 : a.ins = b.ins) (h7 : a.outs = b.outs) (h8 : a.last = b.last) (h9 : a.cells = b.cells) : a = b := by
  cases a; cases b; simp only at h1 h2 h3 h4 h5 h6 h7 h8 h9; subst h1; subst h2; subst h3; subst h4; subst h5; subst h6; subst h7; subst h8; subst h9; rfl
instance : DecidableEq T := fun a b => decidable_of_iff (a.start = b.start ∧ a.slots = b.slots ∧ a.backs = b.backs ∧ a.grow = b.grow ∧ a.growBack = b.growBack ∧ a.ins = b.ins ∧ a.outs = b.outs ∧ a.last = b.last ∧ a.cells = b.cells)
  ⟨fun h => T.ext' h.1 h.2.1 h.2.2.1 h.2.2.2.1 h.2.2.2.2.1 h.2.2.2.2.2.1 h.2.2.2.2.2.2.1 h.2.2.2.2.2.2.2.1 h.2.2.2.2.2.2.2.2, fun h => by subst h; exact ⟨rfl, rfl, rfl, rfl, rfl, rfl, rfl, rfl, rfl⟩⟩
/-- is a number 0 to most? -/
def within (n most : Int) : Bool := decide (0 ≤ n ∧ n ≤ most)
/-- has an instruction a value? -/
def gives (op : Int) : Bool := decide (op = 1 ∨ op = 2 ∨ op = 3 ∨ op = 4 ∨ op = 5 ∨ op = 12)
/-- operations of two cells, of one -/
def twoI (op : Int) : Bool := decide (11 ≤ op ∧ op ≤ 15 ∨ 17 ≤ op ∧ op ≤ 19 ∨ 21 ≤ op ∧ op ≤ 25 ∨ op = 28 ∨ op = 29)
def oneI (op : Int) : Bool := decide (op = 16 ∨ op = 20 ∨ op = 26 ∨ op = 27)
/-- the places that an instruction names, the exits -/
def usesL (x : I) : List Int :=
  if x.1 = 4 then (if twoI x.2.1 = true then [x.2.2.1, x.2.2.2.1] else [x.2.2.1])
  else if x.1 = 6 ∨ x.1 = 9 then [x.2.2.1, x.2.2.2.1]
  else if x.1 = 5 ∨ x.1 = 7 ∨ x.1 = 8 ∨ x.1 = 10 ∨ x.1 = 11 then [x.2.2.1]
  else []
def outsL (x : I) : List Int :=
  if x.1 = 6 then [x.2.2.2.2, x.2.1]
  else if x.1 = 4 then (if x.2.1 = 14 ∨ x.2.1 = 15 then [x.2.2.2.2] else [])
  else if x.1 = 5 ∨ x.1 = 7 ∨ x.1 = 8 ∨ x.1 = 9 ∨ x.1 = 10 ∨ x.1 = 11 then [x.2.2.2.2]
  else []
/-- the operation of the instruction at a place; 0: there is none -/
def opAt (ins : List I) (p : Int) : Int := match ins[p.toNat]? with | some x => x.1 | none => 0
/-- are places earlier than one, and do they give? -/
def okP (ins : List I) (at' p : Int) : Bool := within p (at' - 1) && gives (opAt ins p)
def known (ins : List I) (l : List Int) (at' : Int) : Bool := l.all (okP ins at')
/-- may an exit be named at a place? -/
def leads (t : T) (x at' : Int) : Bool := within x ((t.outs.length : Int) - 1) && (match t.outs[x.toNat]? with | some o => known t.ins o.stack at' && known t.ins o.back at' | none => false)
/-- what an instruction works on -/
def works (t : T) (x : I) : Bool :=
  if x.1 = 2 then within x.2.1 (t.slots - 1)
  else if x.1 = 3 then within x.2.1 (t.backs - 1)
  else if x.1 = 4 then twoI x.2.1 || oneI x.2.1
  else within (x.1 - 1) 11
/-- may the instruction at a place be there? -/
def insOk (t : T) (k : Int) (x : I) : Bool := works t x && known t.ins (usesL x) k && (outsL x).all (fun y => leads t y k)
def insFrom (t : T) : Nat → List I → Bool
  | _, [] => true
  | k, x :: l => insOk t k x && insFrom t (k + 1) l
def outOk (t : T) (o : O) : Bool := within o.steps 120 && within o.ip 2999 && decide ((o.stack.length : Int) ≤ t.slots + t.grow) && decide ((o.back.length : Int) ≤ t.backs + t.growBack)
def rise (least : Int) : List Int → Bool
  | [] => true
  | a :: l => decide (least ≤ a ∧ a < 3000) && rise (a + 1) l
def takes (t : T) : Bool := within t.start 2999 && within t.slots 48 && within t.grow 48 && within t.backs 48 && within t.growBack 48
def endOk (t : T) : Bool := leads t t.last t.ins.length && (match t.outs[t.last.toNat]? with | some o => decide (1 ≤ o.steps) | none => false)
/-- may a trace be? -/
def rightT (t : T) : Bool := decide (t.ins.length ≤ 1000) && (decide (t.outs.length ≤ 300) && (takes t && (rise 0 t.cells && (t.outs.all (outOk t) && (insFrom t 0 t.ins && endOk t)))))
theorem insFrom_at {t : T} {l : List I} {k : Nat} {x : I} (hx : l[k]? = some x) : insFrom t k (l.drop k) = (insOk t k x && insFrom t (k + 1) (l.drop (k + 1))) := by
  have hk := (List.getElem?_eq_some_iff.1 hx).1
  rw [List.drop_eq_getElem_cons hk, show l[k] = x from (List.getElem?_eq_some_iff.1 hx).2]
  rfl
theorem all_at {α : Type} {f : α → Bool} {l : List α} {k : Nat} {x : α} (hx : l[k]? = some x) : (l.drop k).all f = (f x && (l.drop (k + 1)).all f) := by
  have hk := (List.getElem?_eq_some_iff.1 hx).1
  rw [List.drop_eq_getElem_cons hk, show l[k] = x from (List.getElem?_eq_some_iff.1 hx).2]
  rfl
theorem rise_at {least : Int} {l : List Int} {k : Nat} {x : Int} (hx : l[k]? = some x) : rise least (l.drop k) = (decide (least ≤ x ∧ x < 3000) && rise (x + 1) (l.drop (k + 1))) := by
  have hk := (List.getElem?_eq_some_iff.1 hx).1
  rw [List.drop_eq_getElem_cons hk, show l[k] = x from (List.getElem?_eq_some_iff.1 hx).2]
  rfl
theorem drop_end {α : Type} {l : List α} {n : Nat} (h : l.length = n) : l.drop n = [] := List.drop_of_length_le (by omega)
theorem within_yes {n most : Int} (h0 : 0 ≤ n) (h1 : n ≤ most) : within n most = true := decide_eq_true ⟨h0, h1⟩
theorem within_no {n most : Int} (h : ¬ (0 ≤ n ∧ n ≤ most)) : within n most = false := decide_eq_false h
theorem opAt_some {ins : List I} {k : Nat} {x : I} (h : ins[k]? = some x) : opAt ins (k : Int) = x.1 := by unfold opAt; rw [Int.toNat_natCast, h]
theorem leads_at {t : T} {k : Nat} {o : O} (h : t.outs[k]? = some o) (at' : Int) : leads t (k : Int) at' = (known t.ins o.stack at' && known t.ins o.back at') := by
  have hk := (List.getElem?_eq_some_iff.1 h).1
  unfold leads
  rw [within_yes (by omega) (by omega), Int.toNat_natCast, h, Bool.true_and]
theorem leads_no {t : T} {x at' : Int} (h : ¬ (0 ≤ x ∧ x < (t.outs.length : Int))) : leads t x at' = false := by
  unfold leads
  rw [within_no (by omega), Bool.false_and]
theorem endOk_at {t : T} {k : Nat} {o : O} (h : t.outs[k]? = some o) (hl : t.last = k) : endOk t = ((known t.ins o.stack t.ins.length && known t.ins o.back t.ins.length) && decide (1 ≤ o.steps)) := by
  unfold endOk
  rw [hl, leads_at h, Int.toNat_natCast, h]
theorem endOk_no {t : T} (h : ¬ (0 ≤ t.last ∧ t.last < (t.outs.length : Int))) : endOk t = false := by
  unfold endOk
  rw [leads_no h, Bool.false_and]
end Go.Proofs.YtpecingkoodmfaaGreatDoor.Ir
