/- The table of the operations' names, a package variable: what it holds, that it stays, and a world in which it is laid. -/
import Derived.Test.YtlhamfiflmlepaaDoorOpSpec
import Derived.LaidLaws
import Derived.LaidHandle
import Derived.Lib.LaidTab
import Derived.ChangeVars
import Derived.ChangeArms
import Derived.Stop.Joined
namespace Go.Proofs.YtlhamfiflmlepaaDoor
open Go.RowKit
set_option linter.unusedVariables false
set_option linter.unusedSimpArgs false
/-- an array of strings that reads as these holds them, cell for cell -/
theorem cells_of_strs {H : Type} {enc : TypeId × Value → H} {P : Program} {w : World} {base : Nat} {sp : Nat → Bool} {held : Bool} {fuel : Nat} {t e : TypeId} {n : Nat} {cs : List Value} {zs : List ByteArray} {p : List MemPlace}
    (ht : P.underlying t = some (.array n e)) (he : P.underlying e = some .string) (hce : P.cellsOf e = 1) (hct : P.cellsOf t = n)
    (h : DataW.trod enc P w base sp held fuel t cs = some (.agg (zs.map fun z => .lit (.string z.data.toList)), p)) : cs = zs.map Value.string := by
  cases fuel with
  | zero => simp [DataW.trod] at h
  | succ fuel =>
    simp only [DataW.trod, ht, hce, hct, Nat.mul_one] at h
    split at h
    · rename_i hl
      obtain ⟨xs, hm, hx⟩ := Option.map_eq_some_iff.1 h
      have hxs : xs.map (·.1) = zs.map fun z => (DataW.lit (.string z.data.toList) : DataW H) := by
        have := congrArg Prod.fst hx
        simpa using this
      have hxl : xs.length = n := by simpa using Lib.mapM_length hm
      have hzl : zs.length = n := by
        have := congrArg List.length hxs
        simp at this
        omega
      apply List.ext_getElem?
      intro i
      by_cases hi : i < n
      · obtain ⟨b, hb, hf⟩ := Lib.mapM_at hm i i (by simp [hi])
        obtain ⟨z, hc, rfl, _⟩ := DataW.trod_string he hf
        have h1 : cs[i]? = some (.string z) := by
          have := congrArg (·[0]?) hc
          simpa [List.getElem?_take, List.getElem?_drop] using this
        have h2 : (xs.map (·.1))[i]? = some (DataW.lit (.string z.data.toList) : DataW H) := by simp [hb]
        rw [hxs] at h2
        simp only [List.getElem?_map, Option.map_eq_some_iff, DataW.lit.injEq, Lit.string.injEq] at h2
        obtain ⟨z', hz', he'⟩ := h2
        obtain rfl : z' = z := by
          apply ByteArray.ext
          exact Array.toList_inj.1 he'
        simp [h1, hz']
      · rw [List.getElem?_eq_none (by omega), List.getElem?_eq_none (by simp; omega)]
    · cases h
theorem gn : Tryd.prog.globalNamed "holloway/op.names" = some 0 := by kernel_rfl
/-- the table holds the names -/
def NamesIs (W : World) : Prop := W.var? Tryd.prog "holloway/op.names" = some (opNames.map Value.string).toArray
theorem NamesIs.mono {w w' : World} (h : NamesIs w) (hb : Below w.heap.size w w') : NamesIs w' := by
  unfold NamesIs World.var? at *
  rw [gn, Option.bind_some] at h ⊢
  have hl : 0 < w.heap.size := by
    rcases Nat.lt_or_ge 0 w.heap.size with h0 | h0
    · exact h0
    · rw [Array.getElem?_eq_none h0] at h; cases h
  rw [hb.block _ hl]; exact h
theorem NamesIs.cell {W : World} (h : NamesIs W) {k : Nat} (hk : k < 48) : W.cell? ⟨0, k, none⟩ = some (.string (nameOf k)) := by
  have := World.var?_cell gn h k
  rw [this, List.getElem?_toArray, List.getElem?_map, nameOf, List.getD_eq_getElem?_getD, List.getElem?_eq_getElem (by rw [opNames_length]; exact hk)]
  rfl
theorem vars_mem {P : Program} {W : World} : ∀ {l : List (String × DataW Unit)} {ps : List MemPlace}, DataW.LaidVars P W l ps → ∀ {n d}, (n, d) ∈ l → ∃ g t cs fuel p, P.globalNamed n = some g ∧ (P.globals[g]?).map (·.type) = some t ∧ W.var? P n = some cs ∧ DataW.trod (fun _ => ()) P W 0 (fun _ => true) false fuel t cs.toList = some (d, p)
  | [], _, _, _, _, hm => by cases hm
  | (n0, d0) :: r, ps, ⟨g, t, cs, fuel, p, q, h1, h2, h3, h4, h5, h6⟩, n, d, hm => by
    rcases List.mem_cons.1 hm with e | hm
    · obtain ⟨rfl, rfl⟩ := Prod.mk.inj e
      exact ⟨g, t, cs, fuel, p, h1, h2, h3, h4⟩
    · exact vars_mem h5 hm
abbrev laidL : List (String × DataW Unit) := [("holloway/op.names", Rows.laid_holloway_op_names)]
theorem names_of {W : World} (h : laidMetH Tryd.prog laidL W) : NamesIs W := by
  have h : laidMet Tryd.prog laidL W := h
  obtain ⟨ps, hv, _⟩ := h
  obtain ⟨g, t, cs, fuel, p, h1, h2, h3, h4⟩ := vars_mem hv (n := "holloway/op.names") (d := .agg (opNames.map fun z => .lit (.string z.data.toList))) (by rw [← show Rows.laid_holloway_op_names (H := Unit) = .agg (opNames.map fun z => .lit (.string z.data.toList)) from by kernel_rfl]; exact .head _)
  obtain rfl := Option.some.inj (gn.symm.trans h1)
  have ht : (Tryd.prog.globals[0]?).map (·.type) = some 38 := by kernel_rfl
  obtain rfl := Option.some.inj (ht.symm.trans h2)
  unfold NamesIs
  rw [h3, ← cells_of_strs Tryd.underlying38 Tryd.underlying9 (by kernel_rfl) (by kernel_rfl) h4]
def layAt (g : Nat) (cs : Array Value) (h : Array Obj) : Array Obj := h.modify g fun
  | .cells _ t frozen => .cells cs t frozen
  | o => o
noncomputable def laidWorld (os : Os) : World :=
  let w0 := World.holding Tryd.prog os ⟨#[], #[], []⟩
  { w0 with heap := layAt 0 (opNames.map Value.string).toArray w0.heap }
theorem laidWorld_met (os : Os) (args : Array Value) : laidMetH Tryd.prog laidL ((laidWorld os).forCall (fun _ _ => 0) ⟨#[], args, []⟩).memory :=
  laidMet_of_run' 8 (by kernel_rfl) (by kernel_rfl)
end Go.Proofs.YtlhamfiflmlepaaDoor
