/- A machine in plain lists, and its steps, as the document has them (chapter 9); no code of package inner in sight. -/
import Derived.Test.YtpecingkoodmfaaGreatDoorRows
import Derived.Test.YtpecingkoodmfaaGreatDoorS2
import Derived.WalkKit
import Derived.ProofKit
import Derived.Lib.Hide
import Derived.Test.YtpecingkoodmfaaGreatDoorS3
import Derived.Lib.ItoaNum
import Derived.Test.YtpecingkoodmfaaGreatDoorS1
import Derived.Deep.RegionLaw
import Derived.WalkSpells
import Derived.WalkLawsBesides
import Derived.Laws.BytesArg
import Derived.Deep.LoopGhost
import Derived.Laws.AppendOwnNone
import Derived.BigQuiet
import Derived.Deep.QuietTactic
import Derived.Laws.Rows
import Derived.Laws.ResultCell
import Derived.Deep.RegionHeld3
import Derived.Deep.DeepCutAuto
namespace Go.Proofs.YtpecingkoodmfaaGreatDoor.Mach
open Go.RowKit (wrap64)
open Go.Proofs.YtpecingkoodmfaaGreatDoor.Cell (In)
set_option linter.unusedVariables false
/-- a machine; the lists' deepest cells first -/
structure M where
  ip : Int
  handler : Int
  stack : List Int
  back : List Int
  mem : List Int
  out : ByteArray
  inp : ByteArray
  read : Int
  status : Int
  code : Int
structure Right (s : M) : Prop where
  stack : s.stack.length ≤ 48
  back : s.back.length ≤ 48
  mem : s.mem.length ≤ 3000
  out : s.out.size ≤ 2000
  read0 : 0 ≤ s.read
  read1 : s.read ≤ s.inp.size
  status0 : 0 ≤ s.status
  status1 : s.status ≤ 2
/-- every number is a cell's -/
structure Cells (s : M) : Prop where
  ip : In s.ip
  handler : In s.handler
  stack : ∀ x ∈ s.stack, In x
  back : ∀ x ∈ s.back, In x
  mem : ∀ x ∈ s.mem, In x
  code : In s.code
/-- what is laid on a list less its top a cells -/
def less (l : List Int) (a : Nat) : List Int := l.take (l.length - a)
end Go.Proofs.YtpecingkoodmfaaGreatDoor.Mach
/- What a trace does, in plain lists (chapter 15); no code in sight. -/
namespace Go.Proofs.YtpecingkoodmfaaGreatDoor.Ev
open Go.RowKit (wrap64)
open Ir (T I O)
open Mach (M less)
open Go.Proofs.YtpecingkoodmfaaGreatDoor.Cell (In)
set_option linter.unusedVariables false
/-- the cell of a list at a place, and whether there is one -/
def getL (l : List Int) (p : Int) : Int × Bool := if 0 ≤ p ∧ p < (l.length : Int) then (l.getD p.toNat 0, true) else (0, false)
def val (V : List Int) (p : Int) : Int := (getL V p).1
/-- what an instruction comes to: the machine, its value, does it go on, was a watched cell stored into -/
structure D where
  s : M
  v : Int
  on : Bool
  hit : Bool
def sayI (s : M) (b : ByteArray) : D := if s.out.size + b.size ≤ 2000 then ⟨{ s with out := s.out ++ b }, 0, true, false⟩ else ⟨s, 0, false, false⟩
def byteT (b : Int) : ByteArray := ⟨#[UInt8.ofNat (b % 256).toNat]⟩
def tellT (b : Int) : ByteArray := ⟨(Lib.itoa b).toArray⟩ ++ ⟨#[32]⟩
def putI (wat : List Int) (s : M) (b c : Int) : D := if 0 ≤ b ∧ b < (s.mem.length : Int) then ⟨{ s with mem := s.mem.set b.toNat c }, 0, true, wat.contains b⟩ else ⟨s, 0, false, false⟩
def askI (s : M) : D := if 0 ≤ s.read ∧ s.read < (s.inp.size : Int) then ⟨{ s with read := s.read + 1 }, ((s.inp.data.toList.getD s.read.toNat 0).toNat : Int), true, false⟩ else ⟨s, -1, true, false⟩
def calcI (s : M) (a b c : Int) : D := if (Cell.one a b).2 = true then ⟨s, (Cell.one a b).1, true, false⟩ else ⟨s, (Cell.two a b c).1, (Cell.two a b c).2, false⟩
def seeI (s : M) (l : List Int) (p : Int) : D := ⟨s, (getL l p).1, (getL l p).2, false⟩
def doI (wat : List Int) (s : M) (V : List Int) (x : I) : D :=
  if x.1 = 1 then ⟨s, x.2.1, true, false⟩
  else if x.1 = 2 then seeI s s.stack (wrap64 ((s.stack.length : Int) - 1 - x.2.1))
  else if x.1 = 3 then seeI s s.back (wrap64 ((s.back.length : Int) - 1 - x.2.1))
  else if x.1 = 4 then calcI s x.2.1 (val V x.2.2.1) (val V x.2.2.2.1)
  else if x.1 = 5 then seeI s s.mem (val V x.2.2.1)
  else if x.1 = 6 then putI wat s (val V x.2.2.1) (val V x.2.2.2.1)
  else if x.1 = 10 then sayI s (byteT (val V x.2.2.1))
  else if x.1 = 11 then sayI s (tellT (val V x.2.2.1))
  else if x.1 = 12 then askI s
  else if x.1 = 7 then ⟨s, 0, decide (val V x.2.2.1 ≠ 0), false⟩
  else if x.1 = 8 then ⟨s, 0, decide (val V x.2.2.1 = 0), false⟩
  else if x.1 = 9 then ⟨s, 0, decide (val V x.2.2.1 = val V x.2.2.2.1), false⟩
  else ⟨s, 0, false, false⟩
/-- the instructions: the machine, the values, the exit, was a watched cell stored into -/
structure X where
  s : M
  V : List Int
  exit : Int
  hit : Bool
def goI (wat : List Int) (last : Int) : List I → M → List Int → X
  | [], s, V => ⟨s, V, last, false⟩
  | x :: l, s, V =>
    let d := doI wat s V x
    if d.hit = true then ⟨d.s, V, x.2.1, true⟩
    else if d.on = true then goI wat last l d.s (V ++ [d.v])
    else ⟨d.s, V, x.2.2.2.2, false⟩
def leaveM (t : T) (s : M) (V : List Int) (o : O) : M := { s with ip := o.ip, stack := less s.stack t.slots.toNat ++ o.stack.map (val V), back := less s.back t.backs.toNat ++ o.back.map (val V) }
def mayT (t : T) (s : M) : Bool :=
  decide (s.status = 0) && (decide (s.ip = t.start) && (Ir.within t.slots s.stack.length && (Ir.within t.grow (48 - s.stack.length) && (Ir.within t.backs s.back.length && Ir.within t.growBack (48 - s.back.length)))))
/-- what a run comes to: the machine, the exit, its steps, was a watched cell stored into -/
structure R where
  s : M
  exit : Int
  steps : Int
  hit : Bool
def outAt (t : T) (x : Int) : Option O := if 0 ≤ x then t.outs[x.toNat]? else none
def runT (wat : List Int) (t : T) (s : M) : R :=
  if mayT t s = true then
    let x := goI wat t.last t.ins s []
    match outAt t x.exit with
    | some o => ⟨leaveM t x.s x.V o, x.exit, o.steps, x.hit⟩
    | none => ⟨s, -1, 0, false⟩
  else ⟨s, -1, 0, false⟩
theorem goI_at {wat : List Int} {last : Int} {l : List I} {s : M} {V : List Int} {k : Nat} {x : I} (hx : l[k]? = some x) : goI wat last (l.drop k) s V = if (doI wat s V x).hit = true then ⟨(doI wat s V x).s, V, x.2.1, true⟩ else if (doI wat s V x).on = true then goI wat last (l.drop (k + 1)) (doI wat s V x).s (V ++ [(doI wat s V x).v]) else ⟨(doI wat s V x).s, V, x.2.2.2.2, false⟩ := by
  have hk := (List.getElem?_eq_some_iff.1 hx).1
  rw [List.drop_eq_getElem_cons hk, show l[k] = x from (List.getElem?_eq_some_iff.1 hx).2]
  rfl
/-- what stays of a machine while a trace is run -/
structure Kin (s u : M) : Prop where
  ip : u.ip = s.ip
  handler : u.handler = s.handler
  stack : u.stack = s.stack
  back : u.back = s.back
  mem : u.mem.length = s.mem.length
  inp : u.inp = s.inp
  status : u.status = s.status
  code : u.code = s.code
  read : s.read ≤ u.read ∧ (s.read ≤ s.inp.size → u.read ≤ s.inp.size)
  out : s.out.size ≤ 2000 → u.out.size ≤ 2000
theorem Kin.refl (s : M) : Kin s s := ⟨rfl, rfl, rfl, rfl, rfl, rfl, rfl, rfl, ⟨Int.le_refl _, id⟩, id⟩
theorem Kin.trans {a b c : M} (h : Kin a b) (g : Kin b c) : Kin a c :=
  ⟨g.ip.trans h.ip, g.handler.trans h.handler, g.stack.trans h.stack, g.back.trans h.back, g.mem.trans h.mem, g.inp.trans h.inp, g.status.trans h.status, g.code.trans h.code, ⟨Int.le_trans h.read.1 g.read.1, fun q => by have h1 := h.read.2 q; have h2 := g.read.2; rw [h.inp] at h2; exact h2 h1⟩, fun q => g.out (h.out q)⟩
theorem sayI_kin (s : M) (b : ByteArray) : Kin s (sayI s b).s := by
  unfold sayI
  split
  · rename_i h
    exact ⟨rfl, rfl, rfl, rfl, rfl, rfl, rfl, rfl, ⟨Int.le_refl _, id⟩, fun _ => by show (s.out ++ b).size ≤ 2000; rw [ByteArray.size_append]; exact h⟩
  · exact Kin.refl s
theorem calcI_kin (s : M) (a b c : Int) : Kin s (calcI s a b c).s := by unfold calcI; split <;> exact Kin.refl s
theorem putI_kin (wat : List Int) (s : M) (b c : Int) : Kin s (putI wat s b c).s := by
  unfold putI
  split
  · exact ⟨rfl, rfl, rfl, rfl, List.length_set, rfl, rfl, rfl, ⟨Int.le_refl _, id⟩, id⟩
  · exact Kin.refl s
theorem askI_kin (s : M) : Kin s (askI s).s := by
  unfold askI
  split
  · rename_i h
    exact ⟨rfl, rfl, rfl, rfl, rfl, rfl, rfl, rfl, ⟨by show s.read ≤ s.read + 1; omega, fun _ => by show s.read + 1 ≤ _; omega⟩, id⟩
  · exact Kin.refl s
theorem doI_kin (wat : List Int) (s : M) (V : List Int) (x : I) : Kin s (doI wat s V x).s := by
  unfold doI
  by_cases h1 : x.1 = 1
  · rw [if_pos h1]; exact Kin.refl s
  rw [if_neg h1]; clear h1
  by_cases h1 : x.1 = 2
  · rw [if_pos h1]; exact Kin.refl s
  rw [if_neg h1]; clear h1
  by_cases h1 : x.1 = 3
  · rw [if_pos h1]; exact Kin.refl s
  rw [if_neg h1]; clear h1
  by_cases h1 : x.1 = 4
  · rw [if_pos h1]; exact calcI_kin _ _ _ _
  rw [if_neg h1]; clear h1
  by_cases h1 : x.1 = 5
  · rw [if_pos h1]; exact Kin.refl s
  rw [if_neg h1]; clear h1
  by_cases h1 : x.1 = 6
  · rw [if_pos h1]; exact putI_kin _ _ _ _
  rw [if_neg h1]; clear h1
  by_cases h1 : x.1 = 10
  · rw [if_pos h1]; exact sayI_kin _ _
  rw [if_neg h1]; clear h1
  by_cases h1 : x.1 = 11
  · rw [if_pos h1]; exact sayI_kin _ _
  rw [if_neg h1]; clear h1
  by_cases h1 : x.1 = 12
  · rw [if_pos h1]; exact askI_kin _
  rw [if_neg h1]; clear h1
  by_cases h1 : x.1 = 7
  · rw [if_pos h1]; exact Kin.refl s
  rw [if_neg h1]; clear h1
  by_cases h1 : x.1 = 8
  · rw [if_pos h1]; exact Kin.refl s
  rw [if_neg h1]; clear h1
  by_cases h1 : x.1 = 9
  · rw [if_pos h1]; exact Kin.refl s
  rw [if_neg h1]
  exact Kin.refl s
theorem goI_kin (wat : List Int) (last : Int) (l : List I) (s : M) (V : List Int) : Kin s (goI wat last l s V).s := by
  induction l generalizing s V with
  | nil => exact Kin.refl s
  | cons x l ih =>
    have hd := doI_kin wat s V x
    unfold goI
    dsimp only
    split
    · exact hd
    · split
      · exact hd.trans (ih _ _)
      · exact hd
/-- every value is a cell's -/
theorem getL_in {l : List Int} (h : ∀ x ∈ l, In x) (p : Int) : In (getL l p).1 := by
  unfold getL
  split
  · rename_i hp
    obtain ⟨n, hn⟩ : ∃ n : Nat, p = n := ⟨p.toNat, by omega⟩
    subst hn
    have hlt : n < l.length := by omega
    show In (l.getD (n : Int).toNat 0)
    rw [Int.toNat_natCast, List.getD_eq_getElem?_getD, List.getElem?_eq_getElem hlt]
    exact h _ (List.getElem_mem hlt)
  · unfold In; decide
theorem zero_in : In 0 := by unfold In; decide
end Go.Proofs.YtpecingkoodmfaaGreatDoor.Ev
/- Parts of a list that is only read, as laws for the walk; 'append' of what is read, inside a region that draws its order. -/
namespace Go.Proofs.YtpecingkoodmfaaGreatDoor
open Go.RowKit Book Mem
set_option linter.unusedVariables false
/-- what a slice reads as, and the room that it has -/
def ReadsC (w : World) (v : Value) (xs : List Int) : Prop := Reads w v xs ∧ ∃ ao c, v = .slice ao xs.length c ∧ xs.length ≤ c
theorem ReadsC.of_owns {w : World} {B : Nat} {v : Value} {xs : List Int} (h : Owns w B 3 v (vals xs)) : ReadsC w v xs := by
  refine ⟨Reads.of_owns h, ?_⟩
  rcases h with ⟨ao, h1, h2⟩ | ⟨g, cap, cur, h1, h0, h2, h3, h4, _⟩
  · have hx : xs = [] := List.map_eq_nil_iff.1 h2
    subst hx
    exact ⟨ao, 0, h1, Nat.le_refl _⟩
  · rw [vals_length] at h1 h4
    exact ⟨_, _, h1, h4⟩
theorem ReadsC.below {w w' : World} {v : Value} {xs : List Int} (h : ReadsC w v xs) (hb : Below w.heap.size w w') : ReadsC w' v xs := ⟨h.1.below hb, h.2⟩
end Go.Proofs.YtpecingkoodmfaaGreatDoor
/- A machine in memory: a value of ten fields, its lists wherever they lie, or its own. -/
namespace Go.Proofs.YtpecingkoodmfaaGreatDoor.Mach
open Go.RowKit Book Mem
set_option linter.unusedVariables false
abbrev stV (m : M) (vs vb vm : Value) : Value := .agg #[.int .i64 m.ip, .int .i64 m.handler, vs, vb, vm, .string m.out, .string m.inp, .int .i64 m.read, .int .i64 m.status, .int .i64 m.code]
/-- a machine that is read, its lists wherever they lie -/
def ReadsM (w : World) (v : Value) (m : M) : Prop := ∃ vs vb vm, v = stV m vs vb vm ∧ ReadsC w vs m.stack ∧ ReadsC w vb m.back ∧ ReadsC w vm m.mem
theorem ReadsM.below {w w' : World} {v : Value} {m : M} (h : ReadsM w v m) (hb : Below w.heap.size w w') : ReadsM w' v m := by
  obtain ⟨vs, vb, vm, e, h1, h2, h3⟩ := h
  exact ⟨vs, vb, vm, e, h1.below hb, h2.below hb, h3.below hb⟩
/-- its lists are its own, from block B on -/
structure OwnsL (w : World) (B : Nat) (vs vb vm : Value) (m : M) : Prop where
  st : Owns w B 3 vs (vals m.stack)
  bk : Owns w B 3 vb (vals m.back)
  me : Owns w B 3 vm (vals m.mem)
  sb : ∀ k, blk vs = some k → blk vb ≠ some k ∧ blk vm ≠ some k
  bm : ∀ k, blk vb = some k → blk vm ≠ some k
def OwnsM (w : World) (B : Nat) (v : Value) (m : M) : Prop := ∃ vs vb vm, v = stV m vs vb vm ∧ OwnsL w B vs vb vm m
theorem OwnsL.below {w w' : World} {B : Nat} {vs vb vm : Value} {m : M} (h : OwnsL w B vs vb vm m) (hb : Below w.heap.size w w') : OwnsL w' B vs vb vm m :=
  ⟨h.st.touch (Stirred.of_below hb []) (fun _ _ => List.not_mem_nil), h.bk.touch (Stirred.of_below hb []) (fun _ _ => List.not_mem_nil), h.me.touch (Stirred.of_below hb []) (fun _ _ => List.not_mem_nil), h.sb, h.bm⟩
theorem OwnsM.reads {w : World} {B : Nat} {v : Value} {m : M} (h : OwnsM w B v m) : ReadsM w v m := by
  obtain ⟨vs, vb, vm, e, h1⟩ := h
  exact ⟨vs, vb, vm, e, ReadsC.of_owns h1.st, ReadsC.of_owns h1.bk, ReadsC.of_owns h1.me⟩
/-- what a call answers: a machine with lists of its own, made since -/
def GivesM (m : M) (w : World) (e : Ending) (w' : World) : Prop := ∃ v, e = .returned v ∧ OwnsM w' w.heap.size v m ∧ Below w.heap.size w w'
/-- what a call says, and it leaves all as it was, but for new blocks -/
def Says (v : Value) (w : World) (e : Ending) (w' : World) : Prop := e = .returned v ∧ Below w.heap.size w w'
end Go.Proofs.YtpecingkoodmfaaGreatDoor.Mach
/- The walks of hollowaybook over lists of texts: marks, comparison. -/
namespace Go.Proofs.YtpecingkoodmfaaGreatDoor
open Go.RowKit Book
set_option linter.unusedSimpArgs false
set_option linter.unusedVariables false
theorem bk_below_drewN (B : Nat) (w : World) : ∀ n, Below B w (w.drewN n)
  | 0 => Below.refl _ _
  | n + 1 => by rw [← World.drew_drewN]; exact (bk_below_drewN B w n).drew
end Go.Proofs.YtpecingkoodmfaaGreatDoor
/- The walks of hollowaybook over lists of ints: marks, comparison. -/
namespace Go.Proofs.YtpecingkoodmfaaGreatDoor
open Go.RowKit Book
set_option linter.unusedSimpArgs false
set_option linter.unusedVariables false
/-- the k-th mark of list i -/
def markI (i k : Nat) : Int := -1000000 * (i : Int) - (k : Int) - 7
theorem Tryz.bkIntInfo : (Tryz.prog.info? 3).map (fun i => (i.zero, i.size, i.bytes)) = some (some (.int .i64 0), 1, 8) := by kernel_rfl
theorem Tryz.bkIntSpineInfo : (Tryz.prog.info? 24).map (fun i => (i.zero, i.size, i.bytes)) = some (some (.slice none 0 0), 1, 24) := by kernel_rfl
/-- the marks of list i, from a place on -/
def intMarks (i a n : Nat) : List Value := (List.range n).map fun j => .int .i64 (markI i (a + j))
theorem intMarks_succ (i a n : Nat) : intMarks i a (n + 1) = intMarks i a n ++ [.int .i64 (markI i (a + n))] := by unfold intMarks; rw [List.range_succ, List.map_append]; rfl
theorem intMarks_length (i a n : Nat) : (intMarks i a n).length = n := by simp [intMarks]
set_option maxHeartbeats 2000000 in
theorem markInts_any (i a n : Nat) (hi : i ≤ 1000000) (ha : a ≤ 10000000) (hn : n ≤ 10000000) (w : World) :
    Calls Tryz.prog 105 #[.int .i64 i, .int .i64 a, .int .i64 n] w fun e w' => ∃ v, e = .returned v ∧ Owns w' w.heap.size 3 v (intMarks i a n) ∧ Below w.heap.size w w' := by
  obtain ⟨i0, q1, q2, q3, q4⟩ := info_parts Tryz.bkIntInfo
  have HI := Lib.hid (And.intro q1 (And.intro q2 (And.intro q3 q4)))
  clear q1 q2 q3 q4
  go_enter Tryz.func105, Tryz.ntmps105
  go_wp2
  go_loopg [7, 8] n (fun g v k wr => ∃ j : Nat, g = n - j ∧ j ≤ n ∧ k = .int .i64 ((a + j : Nat) : Int) ∧ Hid (Owns wr w.heap.size 3 v (intMarks i a j)) ∧ Hid (Below w.heap.size w wr))
  case atStart => exact ⟨0, rfl, Nat.zero_le _, by simp, Owns.nil _ _ _, Below.refl _ _⟩
  case round =>
    obtain ⟨j, rfl, hj, rfl, HO, HB⟩ := hrel
    by_cases hlt : j < n
    · have hlen := intMarks_length i a j
      have HL := Lib.hid hlen
      obtain ⟨K, hK⟩ : ∃ K : Nat, a + j = K := ⟨_, rfl⟩
      have hK6 : K ≤ 20000000 := by omega
      have HKq := Lib.hid hK
      have HO1 := Lib.hid (HO.out.touch (Stirred.of_grown (World.grownBy_alloc wr (.cells #[.int .i64 (-1000000 * (i : Int) - (K : Int) - 7)] 3) none)) (fun _ _ => List.not_mem_nil))
      have hadj : (a : Int) + (j : Int) = (K : Int) := by omega
      simp only [Int.natCast_add, hadj]
      clear hlen hK
      go_wp2_with (at_builtin; refine wpList_append_two _ rfl _ _ 24 rfl w.heap.size 3 i0 (.int .i64 0) 8 Tryz.underlying24 HI.out.1 HI.out.2.1 HI.out.2.2.1 HI.out.2.2.2 rfl _ _ rfl HO1.out ⟨wr.heap.size, 0, none⟩ 1 1 [.int .i64 (-1000000 * (i : Int) - (K : Int) - 7)] rfl rfl ?c1 ?c2 (Nat.zero_lt_succ 0) ?c3 ?c4 ?c5 ?_)
      case c1 => intro j u hj; rcases j with _ | j <;> simp at hj; subst hj; simp [Addr.add]
      case c2 => intro u hu; simp at hu; subst hu; rfl
      case c3 => rw [HL.out]; show j + 1 ≤ maxLen; unfold maxLen; omega
      case c4 => rw [HL.out]; show (j + 1) * 8 ≤ _; omega
      case c5 => have := HB.out.size; simp; omega
      intro v' w2 hO2 _ hT _
      have hbl := Lib.hid (fun k hk => (HO.out.block k hk).1)
      have HO2 := Lib.hid (show Owns w2 w.heap.size 3 v' (intMarks i a (j + 1)) by rw [intMarks_succ, HKq.out]; exact hO2)
      have HB2 := Lib.hid ((HB.out.alloc HB.out.size (.cells #[.int .i64 (-1000000 * (i : Int) - (K : Int) - 7)] 3)).trans (hT.below (B := w.heap.size) (fun k hk => hbl.out k (by simpa using hk)) (by have := HB.out.size; simp; omega)))
      clear hO2 hT
      go_wp2
      go_roundg (n - (j + 1))
      case measure => omega
      case rel => exact ⟨j + 1, rfl, by omega, by have := HKq.out; go_num, HO2, HB2⟩
    · obtain rfl : j = n := by omega
      go_wp2
      go_ret
      exact ⟨_, rfl, HO.out, HB.out⟩
set_option maxHeartbeats 2000000 in
theorem sameInts_any (va vb : Value) (Ba Bb : Nat) (ss : List Int) (w : World) (ha : Owns w Ba 3 va (ss.map (.int .i64))) (hb : Owns w Bb 3 vb (ss.map (.int .i64))) (hl : ss.length ≤ 10000000) :
    Calls Tryz.prog 21 #[va, vb] w fun e w' => e = .returned (.bool true) ∧ ∃ q, w' = w.drewN q := by
  cases ss with
  | nil =>
    obtain ⟨ao, cap, rfl⟩ := ha.slice
    obtain ⟨bo, cap', rfl⟩ := hb.slice
    clear ha hb hl
    go_enter Tryz.func21, Tryz.ntmps21
    go_wp2
    go_loopg [5] 0 (fun g i wr => i = .int .i64 0 ∧ wr = w)
    case atStart => exact ⟨rfl, rfl⟩
    case round =>
      obtain ⟨rfl, rfl⟩ := hrel
      go_wp2
      go_ret
      exact ⟨rfl, 0, rfl⟩
  | cons s0 r =>
    obtain ⟨g, cap, rfl, hca, _, _⟩ := ha.row (by simp)
    obtain ⟨h, cap', rfl, hcb, _, _⟩ := hb.row (by simp)
    have CA := Lib.hid hca
    have CB := Lib.hid hcb
    obtain ⟨n, hn⟩ : ∃ n, ((s0 :: r).map (Value.int .i64)).length = n := ⟨_, rfl⟩
    obtain ⟨ss, hss⟩ : ∃ ss, s0 :: r = ss := ⟨_, rfl⟩
    rw [hss] at CA CB hn hl
    have hn' : n = ss.length := by rw [← hn]; simp
    have HN := Lib.hid hn'
    have hnl : n ≤ 10000000 := by omega
    rw [hss, hn]
    clear ha hb hca hcb hn hss hn' hl
    go_enter Tryz.func21, Tryz.ntmps21
    go_wp2
    go_loopg [5] n (fun g i wr => ∃ j q : Nat, g = n - j ∧ j ≤ n ∧ i = .int .i64 j ∧ wr = w.drewN q)
    case atStart => exact ⟨0, 0, rfl, Nat.zero_le _, rfl, rfl⟩
    case round =>
      obtain ⟨j, q, rfl, hj, rfl, rfl⟩ := hrel
      by_cases hlt : j < n
      · obtain ⟨x, hx⟩ : ∃ x, ss[j]? = some x := ⟨ss[j]'(by rw [← HN.out]; exact hlt), List.getElem?_eq_getElem _⟩
        have ca : w.cell? ⟨g, j, none⟩ = some (.int .i64 x) := CA.out j _ (by simp [hx])
        have cb : w.cell? ⟨h, j, none⟩ = some (.int .i64 x) := CB.out j _ (by simp [hx])
        clear hx
        go_wp2
        go_quiet (fail)
        go_wp2
        go_roundg (n - (j + 1))
        case measure => omega
        case rel => exact ⟨j + 1, _, rfl, by omega, by go_num, rfl⟩
      · go_wp2
        go_ret
        exact ⟨rfl, q, rfl⟩
def goodInts (xs : List Value) : Prop := ∃ ss : List Int, xs = ss.map (.int .i64) ∧ ss.length ≤ 1000000
set_option maxHeartbeats 2000000 in
theorem stillInts_any (p B : Nat) (vS vW : Value) (ls : List (Value × List Value)) (w : World) (c0 : w.cell? ⟨p, 2, none⟩ = some vS) (c1 : w.cell? ⟨p, 3, none⟩ = some vW) (bs : List Nat) (hk : Kept w B 24 3 goodInts vS vW ls bs) :
    Calls Tryz.prog 61 #[.pointer (some ⟨p, 0, none⟩)] w fun e w' => e = .returned (.bool true) ∧ ∃ q, w' = w.drewN q := by
  have HK := Lib.hid hk
  obtain ⟨ao, cap, hv⟩ := hk.lists.spine.slice
  rw [List.length_map] at hv
  have hf := hk.few
  obtain ⟨n, hn⟩ : ∃ n, ls.length = n := ⟨_, rfl⟩
  rw [hn] at hv hf
  subst hv
  have HN := Lib.hid hn
  clear hk hn
  go_enter Tryz.func61, Tryz.ntmps61
  go_wp2
  go_loopg [3] n (fun g i wr => ∃ j : Nat, g = n - j ∧ j ≤ n ∧ i = .int .i64 j ∧ Hid (∃ q, wr = w.drewN q))
  case atStart => exact ⟨0, rfl, Nat.zero_le _, rfl, 0, rfl⟩
  case round =>
    obtain ⟨j, rfl, hj, rfl, HQ⟩ := hrel
    have hsame : ∀ {a : Addr} {v : Value}, w.cell? a = some v → wr.cell? a = some v := fun {a v} h => by obtain ⟨q, e⟩ := HQ.out; rw [e]; exact h
    have hB : Below w.heap.size w wr := by obtain ⟨q, e⟩ := HQ.out; rw [e]; exact bk_below_drewN _ _ _
    have c0 := hsame c0
    by_cases hlt : j < n
    · obtain ⟨gS, cS, gW, cW, a, b, xs, e1, rfl, k1, k2, o1, o2, ss, rfl, hl⟩ := HK.out.at (j := j) (by rw [HN.out]; exact hlt)
      simp only [Value.slice.injEq] at e1
      obtain ⟨rfl, _, rfl⟩ := e1
      have hN := HN.out
      rw [hN] at c1
      have c1 := hsame c1
      have k1 := hsame k1
      have k2 := hsame k2
      clear hN
      have C := fun k : Nat => Lib.hid (sameInts_any a b B B ss (wr.drewN k) ((o1.below hB).below (bk_below_drewN _ _ k)) ((o2.below hB).below (bk_below_drewN _ _ k)) (by omega))
      obtain ⟨ao, ac, ha⟩ := o1.slice
      obtain ⟨bo, bc, hb⟩ := o2.slice
      rw [List.length_map] at ha hb
      subst ha hb
      clear o1 o2 hsame
      have HB := Lib.hid hB
      clear hB
      go_wp2
      go_quiet ((go_at_call 21; exact Calls.quiet_of (C _).out))
      go_wp2
      go_roundg (n - (j + 1))
      case measure => omega
      case rel => exact ⟨j + 1, rfl, by omega, by go_num, by obtain ⟨q, e⟩ := HQ.out; rw [e]; exact ⟨_, World.drewN_drewN _ _ _⟩⟩
    · clear hsame hB
      go_wp2
      go_ret
      exact ⟨rfl, HQ.out⟩
end Go.Proofs.YtpecingkoodmfaaGreatDoor
/- The document's own machine (chapter 9): a state's box, copying, which may be, beginning a word. -/
namespace Go.Proofs.YtpecingkoodmfaaGreatDoor.Mach
open Go.RowKit Book Mem
set_option linter.unusedVariables false
set_option linter.unusedSimpArgs false
abbrev cells10 (ip hn : Int) (vs vb vm : Value) (ou inn : ByteArray) (rd stt cd : Int) : Array Value := #[.int .i64 ip, .int .i64 hn, vs, vb, vm, .string ou, .string inn, .int .i64 rd, .int .i64 stt, .int .i64 cd]
abbrev zero10 : Array Value := #[.int .i64 0, .int .i64 0, .slice none 0 0, .slice none 0 0, .slice none 0 0, .string ⟨#[]⟩, .string ⟨#[]⟩, .int .i64 0, .int .i64 0, .int .i64 0]
theorem state_size : (Tryz.prog.info? 50).map (·.size) = some 10 := by kernel_rfl
section
variable {ops : Array Oper} {rest : List Oper} {o : Oper} {a : Act} {w : World} {Q : Exit → Act → World → Prop}
theorem ld_int (hw : Region.wanted o (yielded ops a.tmps) = true) (x : Operand) (ho : o.op = .load 3 x) (ad : Addr) (hx : a.eval x = .pointer (some ad)) (v : Value) (hc : w.cell? ad = some v) (h : wpList Tryz.prog ops Q rest (a.put o.dst v) w) : wpList Tryz.prog ops Q (o :: rest) a w :=
  wpList_getf hw _ x ho _ Tryz.underlying3 rfl ad hx v hc h
theorem ld_ints (hw : Region.wanted o (yielded ops a.tmps) = true) (x : Operand) (ho : o.op = .load 24 x) (ad : Addr) (hx : a.eval x = .pointer (some ad)) (v : Value) (hc : w.cell? ad = some v) (h : wpList Tryz.prog ops Q rest (a.put o.dst v) w) : wpList Tryz.prog ops Q (o :: rest) a w :=
  wpList_getf hw _ x ho _ Tryz.underlying24 rfl ad hx v hc h
theorem ld_str (hw : Region.wanted o (yielded ops a.tmps) = true) (x : Operand) (ho : o.op = .load 9 x) (ad : Addr) (hx : a.eval x = .pointer (some ad)) (v : Value) (hc : w.cell? ad = some v) (h : wpList Tryz.prog ops Q rest (a.put o.dst v) w) : wpList Tryz.prog ops Q (o :: rest) a w :=
  wpList_getf hw _ x ho _ Tryz.underlying9 rfl ad hx v hc h
theorem ld_state (hw : Region.wanted o (yielded ops a.tmps) = true) (x : Operand) (ho : o.op = .load 50 x) (g : Nat) (hx : a.eval x = .pointer (some ⟨g, 0, none⟩)) (cs : Array Value) (T : TypeId) (hg : w.heap[g]? = some (.cells cs T (0, 0))) (hs : cs.size = 10)
    (h : wpList Tryz.prog ops Q rest (a.put o.dst (.agg cs)) w) : wpList Tryz.prog ops Q (o :: rest) a w :=
  wpList_getbox hw _ x ho _ Tryz.underlying50 rfl g hx cs T hg (by rw [hs]; exact state_size) h
theorem st_state (hw : Region.wanted o (yielded ops a.tmps) = true) (x y : Operand) (ho : o.op = .store 50 x y) (g : Nat) (cells : Array Value) (hx : a.eval x = .pointer (some ⟨g, 0, none⟩)) (hy : a.eval y = .agg cells) (old : Array Value) (T : TypeId) (hg : w.heap[g]? = some (.cells old T (0, 0))) (hs : cells.size = 10) (hold : old.size = 10) (h1 : cells.all (·.oneCell') = true)
    (h : ∀ w', w'.heap[g]? = some (.cells cells T (0, 0)) → Stirred w w' [g] → wpList Tryz.prog ops Q rest (a.put o.dst undef) w') : wpList Tryz.prog ops Q (o :: rest) a w :=
  wpList_setbox hw _ x y ho g cells hx hy old T hg (by rw [hs]; exact state_size) (by rw [hold, hs]) h1 h
end
/-- two new boxes: what came in, and an empty one -/
theorem two_boxes (w : World) (cs : Array Value) : ∃ w1 w2 g r, w.alloc (.cells cs 50) = w1 ∧ w1.alloc (.cells zero10 50) = w2 ∧ w.heap.size = g ∧ w1.heap.size = r ∧
    Hid (w2.heap[g]? = some (.cells cs 50 (0, 0))) ∧ Hid (w2.heap[r]? = some (.cells zero10 50 (0, 0))) ∧ Hid (Below g w w2) ∧ Hid (g < r) ∧ Hid (w.heap.size = g) := by
  have hb1 := (Below.refl w.heap.size w).alloc (Nat.le_refl _) (.cells cs 50)
  have hn1 := heap_alloc_new w (.cells cs 50)
  have hb2 := (Below.refl (w.alloc (.cells cs 50)).heap.size (w.alloc (.cells cs 50))).alloc (Nat.le_refl _) (.cells zero10 50)
  have hn2 := heap_alloc_new (w.alloc (.cells cs 50)) (.cells zero10 50)
  exact ⟨_, _, _, _, rfl, rfl, rfl, rfl, (Stirred.of_below hb2 []).whole hn1 List.not_mem_nil, hn2, hb1.trans (hb2.mono hb1.size), whole_lt hn1, rfl⟩
/-- which machines may be -/
def rightM (m : M) : Bool := decide (m.stack.length ≤ 48 ∧ m.back.length ≤ 48 ∧ m.mem.length ≤ 3000 ∧ m.out.size ≤ 2000 ∧ 0 ≤ m.read ∧ m.read ≤ m.inp.size ∧ 0 ≤ m.status ∧ m.status ≤ 2)
theorem rightM_iff (m : M) : rightM m = true ↔ Right m := by
  unfold rightM
  rw [decide_eq_true_eq]
  exact ⟨fun ⟨a, b, c, d, e, f, g, h⟩ => ⟨a, b, c, d, e, f, g, h⟩, fun ⟨a, b, c, d, e, f, g, h⟩ => ⟨a, b, c, d, e, f, g, h⟩⟩
set_option maxHeartbeats 4000000 in
theorem refRight_any {w : World} {v : Value} {m : M} (h : ReadsM w v m) (hi : m.inp.size ≤ maxLen) (ho : m.out.size ≤ maxLen) :
    Calls Tryz.prog 84 #[v] w (Says (.bool (rightM m)) w) := by
  obtain ⟨vs, vb, vm, rfl, ⟨⟨so, sc, hs, _⟩, _⟩, ⟨⟨bo, bc, hb, _⟩, _⟩, ⟨⟨mo, mc, hm, _⟩, _⟩⟩ := h
  obtain ⟨ip, hn, st, bk, me, ou, inn, rd, stt, cd⟩ := m
  simp only at hs hb hm hi ho ⊢
  subst hs
  subst hb
  subst hm
  have hi' : inn.size ≤ 9223372036854775807 := hi
  have ho' : ou.size ≤ 9223372036854775807 := ho
  have HR := Lib.hid (show rightM ⟨ip, hn, st, bk, me, ou, inn, rd, stt, cd⟩ = decide (st.length ≤ 48 ∧ bk.length ≤ 48 ∧ me.length ≤ 3000 ∧ ou.size ≤ 2000 ∧ 0 ≤ rd ∧ rd ≤ inn.size ∧ 0 ≤ stt ∧ stt ≤ 2) from rfl)
  obtain ⟨r, hr⟩ : ∃ r, rightM ⟨ip, hn, st, bk, me, ou, inn, rd, stt, cd⟩ = r := ⟨_, rfl⟩
  rw [hr]
  have HR2 := Lib.hid (hr.symm.trans HR.out)
  clear hi ho hr HR
  have hb1 := Lib.hid ((Below.refl w.heap.size w).alloc (Nat.le_refl _) (.cells (cells10 ip hn (.slice so st.length sc) (.slice bo bk.length bc) (.slice mo me.length mc) ou inn rd stt cd) 50))
  by_cases c1 : st.length ≤ 48
  · by_cases c2 : bk.length ≤ 48
    · by_cases c3 : me.length ≤ 3000
      · by_cases c4 : ou.size ≤ 2000
        · by_cases c5 : 0 ≤ rd
          · by_cases c6 : rd ≤ (inn.size : Int)
            · by_cases c7 : 0 ≤ stt
              · have HE := Lib.hid (show r = decide (stt ≤ 2) by rw [HR2.out]; exact decide_eq_decide.2 ⟨fun h => h.2.2.2.2.2.2.2, fun h => ⟨c1, c2, c3, c4, c5, c6, c7, h⟩⟩)
                go_enter Tryz.func84, Tryz.ntmps84
                go_wp2
                go_ret
                exact ⟨by rw [HE.out]; rfl, hb1.out⟩
              · have HE := Lib.hid (show r = false by rw [HR2.out]; exact decide_eq_false fun h => c7 h.2.2.2.2.2.2.1)
                go_enter Tryz.func84, Tryz.ntmps84
                go_wp2
                go_ret
                exact ⟨by rw [HE.out]; rfl, hb1.out⟩
            · have HE := Lib.hid (show r = false by rw [HR2.out]; exact decide_eq_false fun h => c6 h.2.2.2.2.2.1)
              go_enter Tryz.func84, Tryz.ntmps84
              go_wp2
              go_ret
              exact ⟨by rw [HE.out]; rfl, hb1.out⟩
          · have HE := Lib.hid (show r = false by rw [HR2.out]; exact decide_eq_false fun h => c5 h.2.2.2.2.1)
            go_enter Tryz.func84, Tryz.ntmps84
            go_wp2
            go_ret
            exact ⟨by rw [HE.out]; rfl, hb1.out⟩
        · have HE := Lib.hid (show r = false by rw [HR2.out]; exact decide_eq_false fun h => c4 h.2.2.2.1)
          go_enter Tryz.func84, Tryz.ntmps84
          go_wp2
          go_ret
          exact ⟨by rw [HE.out]; rfl, hb1.out⟩
      · have HE := Lib.hid (show r = false by rw [HR2.out]; exact decide_eq_false fun h => c3 h.2.2.1)
        go_enter Tryz.func84, Tryz.ntmps84
        go_wp2
        go_ret
        exact ⟨by rw [HE.out]; rfl, hb1.out⟩
    · have HE := Lib.hid (show r = false by rw [HR2.out]; exact decide_eq_false fun h => c2 h.2.1)
      go_enter Tryz.func84, Tryz.ntmps84
      go_wp2
      go_ret
      exact ⟨by rw [HE.out]; rfl, hb1.out⟩
  · have HE := Lib.hid (show r = false by rw [HR2.out]; exact decide_eq_false fun h => c1 h.1)
    go_enter Tryz.func84, Tryz.ntmps84
    go_wp2
    go_ret
    exact ⟨by rw [HE.out]; rfl, hb1.out⟩
end Go.Proofs.YtpecingkoodmfaaGreatDoor.Mach
/- The document's own machine (chapter 9): copying, beginning a word. -/
namespace Go.Proofs.YtpecingkoodmfaaGreatDoor.Mach
open Go.RowKit Book Mem
set_option linter.unusedVariables false
set_option linter.unusedSimpArgs false
/-- the int type's facts, in one -/
theorem int_facts : ∃ i0 : TypeInfo, Tryz.prog.info? 3 = some i0 ∧ i0.zero = some (.int .i64 0) ∧ i0.size = 1 ∧ i0.bytes = 8 := by
  obtain ⟨i0, q1, q2, q3, q4⟩ := info_parts Tryz.bkIntInfo
  exact ⟨i0, q1, q2, q3, q4⟩
theorem slice_one {v : Value} {n : Nat} (h : ∃ ao c, v = .slice ao n c) : v.oneCell' = true := by
  obtain ⟨ao, c, rfl⟩ := h
  rfl
theorem all_one {ip hh : Int} {vs vb vm : Value} {ou inn : ByteArray} {rd stt cd : Int} (h1 : vs.oneCell' = true) (h2 : vb.oneCell' = true) (h3 : vm.oneCell' = true) : (cells10 ip hh vs vb vm ou inn rd stt cd).all (·.oneCell') = true := by
  simp [cells10, h1, h2, h3, show ∀ k n, (Value.int k n).oneCell' = true from fun _ _ => rfl, show ∀ s, (Value.string s).oneCell' = true from fun _ => rfl]
end Go.Proofs.YtpecingkoodmfaaGreatDoor.Mach
