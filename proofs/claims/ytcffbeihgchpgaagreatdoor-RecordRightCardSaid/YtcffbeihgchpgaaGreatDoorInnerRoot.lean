
/- Package inner's contracts, as hollowaylaw9's statements use them (what leans on no machine's further facts). -/
import Derived.Test.YtcffbeihgchpgaaGreatDoorG22
import Derived.Test.YtcffbeihgchpgaaGreatDoorG27
import Derived.Test.YtcffbeihgchpgaaGreatDoorG20
import Derived.Test.YtcffbeihgchpgaaGreatDoorG6
namespace Go.Proofs.YtcffbeihgchpgaaGreatDoor.Mach
open Go.RowKit Book Mem
theorem OwnsL.readsM {w : World} {B : Nat} {vs vb vm : Value} {m : M} (h : OwnsL w B vs vb vm m) : ReadsM w (stV m vs vb vm) m := OwnsM.reads ⟨vs, vb, vm, rfl, h⟩
end Go.Proofs.YtcffbeihgchpgaaGreatDoor.Mach
namespace Go.Proofs.YtcffbeihgchpgaaGreatDoor.Inn
open Go.RowKit Book Mem Mach
set_option linter.unusedVariables false
set_option linter.unusedSimpArgs false
/-- true is returned -/
def Yes (w : World) (e : Ending) (w' : World) : Prop := e = .returned (.bool true) ∧ Below w.heap.size w w'
/-- what a call answers: a machine with lists of its own, its slices known -/
def GivesK (m : M) (w : World) (e : Ending) (w' : World) : Prop :=
  ∃ a1 k1 a2 k2 a3 k3, e = .returned (stV m (.slice a1 m.stack.length k1) (.slice a2 m.back.length k2) (.slice a3 m.mem.length k3)) ∧
    OwnsL w' w.heap.size (.slice a1 m.stack.length k1) (.slice a2 m.back.length k2) (.slice a3 m.mem.length k3) m ∧ Below w.heap.size w w'
theorem known {w w' : World} {v : Value} {m : M} {B : Nat} (h : OwnsM w B v m) : ∃ a1 k1 a2 k2 a3 k3, v = stV m (.slice a1 m.stack.length k1) (.slice a2 m.back.length k2) (.slice a3 m.mem.length k3) ∧
    OwnsL w B (.slice a1 m.stack.length k1) (.slice a2 m.back.length k2) (.slice a3 m.mem.length k3) m := by
  obtain ⟨v1, v2, v3, rfl, ho⟩ := h
  obtain ⟨a1, k1, e1⟩ := ho.st.slice
  obtain ⟨a2, k2, e2⟩ := ho.bk.slice
  obtain ⟨a3, k3, e3⟩ := ho.me.slice
  rw [vals_length] at e1 e2 e3
  subst e1
  subst e2
  subst e3
  exact ⟨a1, k1, a2, k2, a3, k3, rfl, ho⟩
theorem GivesM.known {m : M} {w : World} {e : Ending} {w' : World} (h : GivesM m w e w') : GivesK m w e w' := by
  obtain ⟨v, rfl, ho, hb⟩ := h
  obtain ⟨a1, k1, a2, k2, a3, k3, rfl, ho'⟩ := Inn.known (w' := w') ho
  exact ⟨a1, k1, a2, k2, a3, k3, rfl, ho', hb⟩
/-- what a run answers, its slices known -/
def RanK (m : M) (k : Nat) (w : World) (e : Ending) (w' : World) : Prop :=
  ∃ a1 k1 a2 k2 a3 k3, e = .returned (.tuple #[stV m (.slice a1 m.stack.length k1) (.slice a2 m.back.length k2) (.slice a3 m.mem.length k3), .int .i64 k]) ∧
    OwnsL w' w.heap.size (.slice a1 m.stack.length k1) (.slice a2 m.back.length k2) (.slice a3 m.mem.length k3) m ∧ Below w.heap.size w w'
theorem runs_any {w : World} {v : Value} {m : M} (h : ReadsM w v m) (hr : Right m) (hc : Cells m) (hin : m.inp.size ≤ maxLen) (hE : ∀ wc, Below w.heap.size w wc → Tabs wc) (n : Nat) (hn : n ≤ 9223372036854775807) {m' : M} {k : Nat} (e : Mach.run n m = (m', k)) :
    Calls Tryz.prog 59 #[v, .int .i64 n] w (RanK m' k w) := by
  refine (innRun_nat h hr hc hin hE n hn).mono ?_
  rintro e1 w' ⟨v, rfl, ho, hb⟩
  rw [runI_nat, e] at *
  obtain ⟨a1, k1, a2, k2, a3, k3, rfl, ho'⟩ := Inn.known (w' := w') ho
  exact ⟨a1, k1, a2, k2, a3, k3, rfl, ho', hb⟩
theorem run_inp (n : Nat) (s : M) : (Mach.run n s).1.inp = s.inp := by
  induction n generalizing s with
  | zero => rfl
  | succ n ih =>
    by_cases h : s.status = 0
    · rw [run_go h, ih, step_inp]
    · rw [run_still h]
/-- a box of a machine stays where nobody writes -/
theorem box_on {w w' : World} {g : Nat} {cs : Array Value} {T : TypeId} (h : w.heap[g]? = some (.cells cs T (0, 0))) (hb : Below w.heap.size w w') : w'.heap[g]? = some (.cells cs T (0, 0)) := (Stirred.of_below hb []).whole h List.not_mem_nil
end Go.Proofs.YtcffbeihgchpgaaGreatDoor.Inn
