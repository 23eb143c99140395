
/- A machine in memory: a value of ten fields, its lists wherever they lie, or its own. -/
import Derived.Test.YtlomfmilohbgpaaGreatDoorMach
import Derived.Test.YtlomfmilohbgpaaGreatDoorSub
namespace Go.Proofs.YtlomfmilohbgpaaGreatDoor.Mach
open Go.RowKit Book Mem
set_option linter.unusedVariables false
abbrev stV (m : M) (vs vb vm : Value) : Value := .agg #[.int .i64 m.ip, .int .i64 m.handler, vs, vb, vm, .string m.out, .string m.inp, .int .i64 m.read, .int .i64 m.status, .int .i64 m.code]
/-- a machine that is read, its lists wherever they lie -/
def ReadsM (w : World) (v : Value) (m : M) : Prop := ∃ vs vb vm, v = stV m vs vb vm ∧ ReadsC w vs m.stack ∧ ReadsC w vb m.back ∧ ReadsC w vm m.mem
theorem ReadsM.below {w w' : World} {v : Value} {m : M} (h : ReadsM w v m) (hb : Below w.heap.size w w') : ReadsM w' v m := by
  obtain ⟨vs, vb, vm, e, h1, h2, h3⟩ := h
  exact ⟨vs, vb, vm, e, h1.below hb, h2.below hb, h3.below hb⟩
/-- its lists are its own, from block B on -/
structure OwnsL (w : World) (B : Nat) (vs vb vm : Value) (m : M) : Prop where
  st : Owns w B 3 vs (vals m.stack)
  bk : Owns w B 3 vb (vals m.back)
  me : Owns w B 3 vm (vals m.mem)
  sb : ∀ k, blk vs = some k → blk vb ≠ some k ∧ blk vm ≠ some k
  bm : ∀ k, blk vb = some k → blk vm ≠ some k
def OwnsM (w : World) (B : Nat) (v : Value) (m : M) : Prop := ∃ vs vb vm, v = stV m vs vb vm ∧ OwnsL w B vs vb vm m
theorem OwnsL.below {w w' : World} {B : Nat} {vs vb vm : Value} {m : M} (h : OwnsL w B vs vb vm m) (hb : Below w.heap.size w w') : OwnsL w' B vs vb vm m :=
  ⟨h.st.touch (Stirred.of_below hb []) (fun _ _ => List.not_mem_nil), h.bk.touch (Stirred.of_below hb []) (fun _ _ => List.not_mem_nil), h.me.touch (Stirred.of_below hb []) (fun _ _ => List.not_mem_nil), h.sb, h.bm⟩
theorem OwnsM.below {w w' : World} {B : Nat} {v : Value} {m : M} (h : OwnsM w B v m) (hb : Below w.heap.size w w') : OwnsM w' B v m := by
  obtain ⟨vs, vb, vm, e, h1⟩ := h
  exact ⟨vs, vb, vm, e, h1.below hb⟩
theorem OwnsM.reads {w : World} {B : Nat} {v : Value} {m : M} (h : OwnsM w B v m) : ReadsM w v m := by
  obtain ⟨vs, vb, vm, e, h1⟩ := h
  exact ⟨vs, vb, vm, e, ReadsC.of_owns h1.st, ReadsC.of_owns h1.bk, ReadsC.of_owns h1.me⟩
/-- what a call answers: a machine with lists of its own, made since -/
def GivesM (m : M) (w : World) (e : Ending) (w' : World) : Prop := ∃ v, e = .returned v ∧ OwnsM w' w.heap.size v m ∧ Below w.heap.size w w'
/-- .. a machine that can be read -/
def TellsM (m : M) (w : World) (e : Ending) (w' : World) : Prop := ∃ v, e = .returned v ∧ ReadsM w' v m ∧ Below w.heap.size w w'
theorem GivesM.tells {m : M} {w : World} {e : Ending} {w' : World} (h : GivesM m w e w') : TellsM m w e w' := by
  obtain ⟨v, e, h1, h2⟩ := h
  exact ⟨v, e, h1.reads, h2⟩
/-- what a call says, and it leaves all as it was, but for new blocks -/
def Says (v : Value) (w : World) (e : Ending) (w' : World) : Prop := e = .returned v ∧ Below w.heap.size w w'
end Go.Proofs.YtlomfmilohbgpaaGreatDoor.Mach
