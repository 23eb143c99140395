
/- What the two answers of chapter 14 lean on both. -/
import Derived.Test.YtpecingkoodmfaaGreatDoorIrLeads
namespace Go.Proofs.YtpecingkoodmfaaGreatDoor.Ir
open Go.RowKit Book Mem
set_option linter.unusedSimpArgs false
set_option linter.unusedVariables false
theorem takes_all {t : T} (h : takes t = true) : (0 ≤ t.start ∧ t.start ≤ 2999) ∧ (0 ≤ t.slots ∧ t.slots ≤ 48) ∧ (0 ≤ t.grow ∧ t.grow ≤ 48) ∧ (0 ≤ t.backs ∧ t.backs ≤ 48) ∧ (0 ≤ t.growBack ∧ t.growBack ≤ 48) := by
  unfold takes within at h
  simp only [Bool.and_eq_true, decide_eq_true_eq] at h
  obtain ⟨⟨⟨⟨h1, h2⟩, h3⟩, h4⟩, h5⟩ := h
  exact ⟨h1, h2, h3, h4, h5⟩
theorem same_call {f : FuncId} {args : Array Value} {w : World} {v : Value} (h : Calls Tryz.prog f args w fun e w' => e = .returned v ∧ w' = w) : Calls Tryz.prog f args w (Says v w) :=
  h.mono fun e w' hh => ⟨hh.1, by rw [hh.2]; exact Below.refl _ _⟩
/-- a trace's box, its lists' lengths known -/
abbrev trB (st sl bks gr gb : Int) (ai : Option Addr) (m ci : Nat) (ao : Option Addr) (no co : Nat) (la : Int) (ac : Option Addr) (nc cc : Nat) : Array Value := #[.int .i64 st, .int .i64 sl, .int .i64 bks, .int .i64 gr, .int .i64 gb, .slice ai m ci, .slice ao no co, .int .i64 la, .slice ac nc cc]
theorem both {w : World} {g g5 : Nat} {st sl bks gr gb la : Int} {vi vo vc : Value} {op a b c d : Int} (h : w.heap[g]? = some (.cells #[.int .i64 st, .int .i64 sl, .int .i64 bks, .int .i64 gr, .int .i64 gb, vi, vo, .int .i64 la, vc] 26 (0, 0))) (h5 : w.heap[g5]? = some (.cells #[.int .i64 op, .int .i64 a, .int .i64 b, .int .i64 c, .int .i64 d] 42 (0, 0))) :
    w.cell? ⟨g, 0, none⟩ = some (.int .i64 st) ∧ w.cell? ⟨g, 1, none⟩ = some (.int .i64 sl) ∧ w.cell? ⟨g, 2, none⟩ = some (.int .i64 bks) ∧ w.cell? ⟨g, 3, none⟩ = some (.int .i64 gr) ∧ w.cell? ⟨g, 4, none⟩ = some (.int .i64 gb) ∧ w.cell? ⟨g, 5, none⟩ = some vi ∧ w.cell? ⟨g, 6, none⟩ = some vo ∧ w.cell? ⟨g, 7, none⟩ = some (.int .i64 la) ∧ w.cell? ⟨g, 8, none⟩ = some vc ∧ w.cell? ⟨g5, 0, none⟩ = some (.int .i64 op) ∧ w.cell? ⟨g5, 1, none⟩ = some (.int .i64 a) ∧ w.cell? ⟨g5, 2, none⟩ = some (.int .i64 b) ∧ w.cell? ⟨g5, 3, none⟩ = some (.int .i64 c) ∧ w.cell? ⟨g5, 4, none⟩ = some (.int .i64 d) :=
  ⟨whole_cell h rfl, whole_cell h rfl, whole_cell h rfl, whole_cell h rfl, whole_cell h rfl, whole_cell h rfl, whole_cell h rfl, whole_cell h rfl, whole_cell h rfl, whole_cell h5 rfl, whole_cell h5 rfl, whole_cell h5 rfl, whole_cell h5 rfl, whole_cell h5 rfl⟩
/-- a world behind a step that only adds blocks -/
theorem on_drew {w w' : World} (hb : Below w.heap.size w w') : Below w.heap.size w w'.drew := hb.drew
theorem usesL_len (x : I) : (usesL x).length ≤ 2 := by
  unfold usesL
  repeat' split
  all_goals simp
theorem outsL_len (x : I) : (outsL x).length ≤ 2 := by
  unfold outsL
  repeat' split
  all_goals simp
theorem rightT_parts (t : T) : rightT t = (decide (t.ins.length ≤ 1000) && (decide (t.outs.length ≤ 300) && (takes t && (rise 0 t.cells && (t.outs.all (outOk t) && (insFrom t 0 t.ins && endOk t)))))) := rfl
end Go.Proofs.YtpecingkoodmfaaGreatDoor.Ir
