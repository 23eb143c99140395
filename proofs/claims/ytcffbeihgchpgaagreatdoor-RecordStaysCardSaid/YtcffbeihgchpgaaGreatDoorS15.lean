/- hollowayref1: letters made great; two names alike. -/
import Derived.Test.YtcffbeihgchpgaaGreatDoorRows
import Derived.WalkKit
import Derived.ProofKit
import Derived.Lib.Hide
import Derived.Lib.Case
import Derived.Lib.ConvBytes
import Derived.Lib.BytesEntry
import Derived.Deep.LoopGhost
import Derived.Test.YtcffbeihgchpgaaGreatDoorS2
import Derived.LaidLaws
import Derived.LaidHandle
import Derived.Lib.LaidTab
import Derived.ChangeVars
import Derived.ChangeArms
import Derived.Stop.Joined
import Derived.Deep.QuietTactic
import Derived.BigQuiet
import Derived.Test.YtcffbeihgchpgaaGreatDoorS8
import Derived.Test.YtcffbeihgchpgaaGreatDoorS14
import Derived.Deep.RegionHeld3
namespace Go.Proofs.YtcffbeihgchpgaaGreatDoor
open Go.RowKit
set_option linter.unusedSimpArgs false
set_option linter.unusedVariables false
/-- the row of bytes in block N: the first k of l are made great -/
def UpRow (N : Nat) (l : List UInt8) (k : Nat) (w : World) : Prop := ∀ j, j < l.length → w.cell? ⟨N, j, none⟩ = some (.int .u8 ((if j < k then Lib.upperB (l.getD j 0) else l.getD j 0).toNat : Int)) ∧ w.frozen? ⟨N, j, none⟩ = false
theorem UpRow.start (s : ByteArray) (w : World) : UpRow w.heap.size s.data.toList 0 (Lib.bytesWorld w 5 s) := by
  intro j hj
  have hl : s.data.toList.length = s.size := Array.length_toList
  refine ⟨?_, ?_⟩
  · rw [Lib.bytesWorld_cell w 5 s j (by omega), if_neg (by omega)]
  · have h := Lib.bytesWorld_at_new w 5 s
    have hsz : s.size ≤ (Lib.bytesCells w 5 s).size := by unfold Lib.bytesCells; simp
    simp only [World.frozen?, h]
    simp
    omega
theorem UpRow.keep {N k : Nat} {l : List UInt8} {w : World} (h : UpRow N l k w) (hk : k < l.length) (hx : Lib.upperB (l.getD k 0) = l.getD k 0) : UpRow N l (k + 1) w := by
  intro j hj
  obtain ⟨h1, h2⟩ := h j hj
  refine ⟨?_, h2⟩
  rw [h1]
  by_cases hjk : j < k
  · rw [if_pos hjk, if_pos (by omega)]
  · by_cases he : j = k
    · subst he; rw [if_neg hjk, if_pos (by omega), hx]
    · rw [if_neg hjk, if_neg (by omega)]
theorem UpRow.store {N k : Nat} {l : List UInt8} {w : World} {v : Value} (h : UpRow N l k w) (hk : k < l.length) (hv : v = .int .u8 ((Lib.upperB (l.getD k 0)).toNat : Int)) : UpRow N l (k + 1) (w.setCell ⟨N, k, none⟩ v) := by
  intro j hj
  obtain ⟨h1, h2⟩ := h j hj
  refine ⟨?_, by rw [World.frozen?_setCell]; exact h2⟩
  by_cases he : j = k
  · subst he
    rw [World.cell?_setCell_same _ _ _ h1, hv, if_pos (by omega)]
  · rw [World.cell?_setCell_other _ _ _ _ (by intro e; injection e; omega), h1]
    by_cases hjk : j < k
    · rw [if_pos hjk, if_pos (by omega)]
    · rw [if_neg hjk, if_neg (by omega)]
end Go.Proofs.YtcffbeihgchpgaaGreatDoor
/- Plain facts on the names of operations; what a name names; the document's answers for every number. -/
namespace Go.Proofs.YtcffbeihgchpgaaGreatDoor
open Go.RowKit
set_option linter.unusedSimpArgs false
set_option linter.unusedVariables false
def nameI (a : Int) : ByteArray := if isOp a then nameOf a.toNat else ⟨#[]⟩
def movesI (a : Int) : Int × Int × Int × Int := if isOp a then movesOf a.toNat else (0, 0, 0, 0)
def argI (a : Int) : Bool := if isOp a then argOf a.toNat else false
def plainI (a : Int) : Bool := if isOp a then plainOf a.toNat else false
def opB (a : Int) : Bool := decide (isOp a)
/-- letters made small -/
def low (s : ByteArray) : ByteArray := ⟨(s.data.toList.map Lib.lowerB).toArray⟩
theorem moves_all : ∀ i : Fin 48, 0 ≤ (movesOf i).1 ∧ (movesOf i).1 ≤ 4 ∧ 0 ≤ (movesOf i).2.1 ∧ (movesOf i).2.1 ≤ 4 ∧ 0 ≤ (movesOf i).2.2.1 ∧ (movesOf i).2.2.1 ≤ 4 ∧ 0 ≤ (movesOf i).2.2.2 ∧ (movesOf i).2.2.2 ≤ 4 := by decide +kernel
theorem movesI_in (a : Int) : 0 ≤ (movesI a).1 ∧ (movesI a).1 ≤ 4 ∧ 0 ≤ (movesI a).2.1 ∧ (movesI a).2.1 ≤ 4 ∧ 0 ≤ (movesI a).2.2.1 ∧ (movesI a).2.2.1 ≤ 4 ∧ 0 ≤ (movesI a).2.2.2 ∧ (movesI a).2.2.2 ≤ 4 := by
  unfold movesI
  split
  · rename_i h; exact moves_all ⟨a.toNat, by have := h.1; have := h.2; omega⟩
  · exact ⟨by decide, by decide, by decide, by decide, by decide, by decide, by decide, by decide⟩
theorem nat_of_op {a : Int} (h : isOp a) : ∃ k : Nat, k < 48 ∧ a = (k : Int) := ⟨a.toNat, by have := h.1; have := h.2; omega, by have := h.1; omega⟩
theorem isOp_nat {k : Nat} (h : k < 48) : isOp (k : Int) := ⟨by omega, by omega⟩
theorem nameI_nat {k : Nat} (h : k < 48) : nameI (k : Int) = nameOf k := by unfold nameI; rw [if_pos (isOp_nat h)]; rfl
theorem nameI_no {a : Int} (h : ¬ isOp a) : nameI a = ⟨#[]⟩ := by unfold nameI; rw [if_neg h]
-- the document's answers
end Go.Proofs.YtcffbeihgchpgaaGreatDoor
/- What package op answers, by the document: the forms in which its walks are wanted. -/
namespace Go.Proofs.YtcffbeihgchpgaaGreatDoor
open Go.RowKit
/-- a call that answers this, and leaves what was there -/
def Says (v : Value) (w : World) (e : Ending) (w' : World) : Prop := e = .returned v ∧ Below w.heap.size w w'
theorem Says.of {v : Value} {w : World} {e : Ending} {w' : World} (h : e = .returned v ∧ w' = w) : Says v w e w' := ⟨h.1, by rw [h.2]; exact Below.refl _ _⟩
end Go.Proofs.YtcffbeihgchpgaaGreatDoor
/- The table of the operations' names, a package variable: what it holds, that it stays, and a world in which it is laid. -/
namespace Go.Proofs.YtcffbeihgchpgaaGreatDoor
open Go.RowKit
set_option linter.unusedVariables false
set_option linter.unusedSimpArgs false
/-- an array of strings that reads as these holds them, cell for cell -/
theorem cells_of_strs {H : Type} {enc : TypeId × Value → H} {P : Program} {w : World} {base : Nat} {sp : Nat → Bool} {held : Bool} {fuel : Nat} {t e : TypeId} {n : Nat} {cs : List Value} {zs : List ByteArray} {p : List MemPlace}
    (ht : P.underlying t = some (.array n e)) (he : P.underlying e = some .string) (hce : P.cellsOf e = 1) (hct : P.cellsOf t = n)
    (h : DataW.trod enc P w base sp held fuel t cs = some (.agg (zs.map fun z => .lit (.string z.data.toList)), p)) : cs = zs.map Value.string := by
  cases fuel with
  | zero => simp [DataW.trod] at h
  | succ fuel =>
    simp only [DataW.trod, ht, hce, hct, Nat.mul_one] at h
    split at h
    · rename_i hl
      obtain ⟨xs, hm, hx⟩ := Option.map_eq_some_iff.1 h
      have hxs : xs.map (·.1) = zs.map fun z => (DataW.lit (.string z.data.toList) : DataW H) := by
        have := congrArg Prod.fst hx
        simpa using this
      have hxl : xs.length = n := by simpa using Lib.mapM_length hm
      have hzl : zs.length = n := by
        have := congrArg List.length hxs
        simp at this
        omega
      apply List.ext_getElem?
      intro i
      by_cases hi : i < n
      · obtain ⟨b, hb, hf⟩ := Lib.mapM_at hm i i (by simp [hi])
        obtain ⟨z, hc, rfl, _⟩ := DataW.trod_string he hf
        have h1 : cs[i]? = some (.string z) := by
          have := congrArg (·[0]?) hc
          simpa [List.getElem?_take, List.getElem?_drop] using this
        have h2 : (xs.map (·.1))[i]? = some (DataW.lit (.string z.data.toList) : DataW H) := by simp [hb]
        rw [hxs] at h2
        simp only [List.getElem?_map, Option.map_eq_some_iff, DataW.lit.injEq, Lit.string.injEq] at h2
        obtain ⟨z', hz', he'⟩ := h2
        obtain rfl : z' = z := by
          apply ByteArray.ext
          exact Array.toList_inj.1 he'
        simp [h1, hz']
      · rw [List.getElem?_eq_none (by omega), List.getElem?_eq_none (by simp; omega)]
    · cases h
theorem gn : Tryz.prog.globalNamed "holloway/op.names" = some 0 := by kernel_rfl
/-- the table holds the names -/
def NamesIs (W : World) : Prop := W.var? Tryz.prog "holloway/op.names" = some (opNames.map Value.string).toArray
theorem NamesIs.mono {w w' : World} (h : NamesIs w) (hb : Below w.heap.size w w') : NamesIs w' := by
  unfold NamesIs World.var? at *
  rw [gn, Option.bind_some] at h ⊢
  have hl : 0 < w.heap.size := by
    rcases Nat.lt_or_ge 0 w.heap.size with h0 | h0
    · exact h0
    · rw [Array.getElem?_eq_none h0] at h; cases h
  rw [hb.block _ hl]; exact h
theorem NamesIs.cell {W : World} (h : NamesIs W) {k : Nat} (hk : k < 48) : W.cell? ⟨0, k, none⟩ = some (.string (nameOf k)) := by
  have := World.var?_cell gn h k
  rw [this, List.getElem?_toArray, List.getElem?_map, nameOf, List.getD_eq_getElem?_getD, List.getElem?_eq_getElem (by rw [opNames_length]; exact hk)]
  rfl
abbrev laidL : List (String × DataW Unit) := [("holloway/op.names", Rows.laid_holloway_op_names)]
def layAt (g : Nat) (cs : Array Value) (h : Array Obj) : Array Obj := h.modify g fun
  | .cells _ t frozen => .cells cs t frozen
  | o => o
noncomputable def laidWorld (os : Os) : World :=
  let w0 := World.holding Tryz.prog os ⟨#[], #[], []⟩
  { w0 with heap := layAt 0 (opNames.map Value.string).toArray w0.heap }
theorem laidWorld_met (os : Os) (args : Array Value) : laidMetH Tryz.prog laidL ((laidWorld os).forCall (fun _ _ => 0) ⟨#[], args, []⟩).memory :=
  laidMet_of_run' 8 (by kernel_rfl) (by kernel_rfl)
end Go.Proofs.YtcffbeihgchpgaaGreatDoor
/- Package op: fromStack of every number. -/
namespace Go.Proofs.YtcffbeihgchpgaaGreatDoor
open Go.RowKit
set_option linter.unusedSimpArgs false
set_option linter.unusedVariables false
set_option maxHeartbeats 16000000 in
theorem fromStack_at (k : Nat) (hk : k < 48) (w : World) : Calls Tryz.prog 159 #[.int .i64 k] w fun e w' => e = .returned (.int .i64 (movesOf k).1) ∧ w' = w := by
  rcases (by omega : k = 0 ∨ k = 1 ∨ k = 2 ∨ k = 3 ∨ k = 4 ∨ k = 5 ∨ k = 6 ∨ k = 7 ∨ k = 8 ∨ k = 9 ∨ k = 10 ∨ k = 11 ∨ k = 12 ∨ k = 13 ∨ k = 14 ∨ k = 15 ∨ k = 16 ∨ k = 17 ∨ k = 18 ∨ k = 19 ∨ k = 20 ∨ k = 21 ∨ k = 22 ∨ k = 23 ∨ k = 24 ∨ k = 25 ∨ k = 26 ∨ k = 27 ∨ k = 28 ∨ k = 29 ∨ k = 30 ∨ k = 31 ∨ k = 32 ∨ k = 33 ∨ k = 34 ∨ k = 35 ∨ k = 36 ∨ k = 37 ∨ k = 38 ∨ k = 39 ∨ k = 40 ∨ k = 41 ∨ k = 42 ∨ k = 43 ∨ k = 44 ∨ k = 45 ∨ k = 46 ∨ k = 47) with rfl | rfl | rfl | rfl | rfl | rfl | rfl | rfl | rfl | rfl | rfl | rfl | rfl | rfl | rfl | rfl | rfl | rfl | rfl | rfl | rfl | rfl | rfl | rfl | rfl | rfl | rfl | rfl | rfl | rfl | rfl | rfl | rfl | rfl | rfl | rfl | rfl | rfl | rfl | rfl | rfl | rfl | rfl | rfl | rfl | rfl | rfl | rfl
  all_goals
    go_enter Tryz.func159, Tryz.ntmps159
    go_wp2
    go_ret
    exact ⟨rfl, rfl⟩
set_option maxHeartbeats 8000000 in
theorem fromStack_out (a : Int) (ha : ¬ isOp a) (w : World) : Calls Tryz.prog 159 #[.int .i64 a] w fun e w' => e = .returned (.int .i64 0) ∧ w' = w := by
  rcases (by omega : a < 0 ∨ 48 ≤ a) with h | h
  all_goals
    clear ha
    go_enter Tryz.func159, Tryz.ntmps159
    go_wp2
    go_ret
    exact ⟨rfl, rfl⟩
theorem fromStack_any (a : Int) (w : World) : Calls Tryz.prog 159 #[.int .i64 a] w fun e w' => e = .returned (.int .i64 (movesI a).1) ∧ w' = w := by
  by_cases h : isOp a
  · obtain ⟨k, hk, rfl⟩ := nat_of_op h
    rw [show movesI (k : Int) = movesOf k by unfold movesI; rw [if_pos h]; rfl]
    exact fromStack_at k hk w
  · rw [show movesI a = (0, 0, 0, 0) by unfold movesI; rw [if_neg h]]
    exact fromStack_out a h w
end Go.Proofs.YtcffbeihgchpgaaGreatDoor
/- Package op: fromBack of every number. -/
namespace Go.Proofs.YtcffbeihgchpgaaGreatDoor
open Go.RowKit
set_option linter.unusedSimpArgs false
set_option linter.unusedVariables false
set_option maxHeartbeats 16000000 in
theorem fromBack_at (k : Nat) (hk : k < 48) (w : World) : Calls Tryz.prog 160 #[.int .i64 k] w fun e w' => e = .returned (.int .i64 (movesOf k).2.1) ∧ w' = w := by
  rcases (by omega : k = 0 ∨ k = 1 ∨ k = 2 ∨ k = 3 ∨ k = 4 ∨ k = 5 ∨ k = 6 ∨ k = 7 ∨ k = 8 ∨ k = 9 ∨ k = 10 ∨ k = 11 ∨ k = 12 ∨ k = 13 ∨ k = 14 ∨ k = 15 ∨ k = 16 ∨ k = 17 ∨ k = 18 ∨ k = 19 ∨ k = 20 ∨ k = 21 ∨ k = 22 ∨ k = 23 ∨ k = 24 ∨ k = 25 ∨ k = 26 ∨ k = 27 ∨ k = 28 ∨ k = 29 ∨ k = 30 ∨ k = 31 ∨ k = 32 ∨ k = 33 ∨ k = 34 ∨ k = 35 ∨ k = 36 ∨ k = 37 ∨ k = 38 ∨ k = 39 ∨ k = 40 ∨ k = 41 ∨ k = 42 ∨ k = 43 ∨ k = 44 ∨ k = 45 ∨ k = 46 ∨ k = 47) with rfl | rfl | rfl | rfl | rfl | rfl | rfl | rfl | rfl | rfl | rfl | rfl | rfl | rfl | rfl | rfl | rfl | rfl | rfl | rfl | rfl | rfl | rfl | rfl | rfl | rfl | rfl | rfl | rfl | rfl | rfl | rfl | rfl | rfl | rfl | rfl | rfl | rfl | rfl | rfl | rfl | rfl | rfl | rfl | rfl | rfl | rfl | rfl
  all_goals
    go_enter Tryz.func160, Tryz.ntmps160
    go_wp2
    go_ret
    exact ⟨rfl, rfl⟩
set_option maxHeartbeats 8000000 in
theorem fromBack_out (a : Int) (ha : ¬ isOp a) (w : World) : Calls Tryz.prog 160 #[.int .i64 a] w fun e w' => e = .returned (.int .i64 0) ∧ w' = w := by
  rcases (by omega : a < 0 ∨ 48 ≤ a) with h | h
  all_goals
    clear ha
    go_enter Tryz.func160, Tryz.ntmps160
    go_wp2
    go_ret
    exact ⟨rfl, rfl⟩
theorem fromBack_any (a : Int) (w : World) : Calls Tryz.prog 160 #[.int .i64 a] w fun e w' => e = .returned (.int .i64 (movesI a).2.1) ∧ w' = w := by
  by_cases h : isOp a
  · obtain ⟨k, hk, rfl⟩ := nat_of_op h
    rw [show movesI (k : Int) = movesOf k by unfold movesI; rw [if_pos h]; rfl]
    exact fromBack_at k hk w
  · rw [show movesI a = (0, 0, 0, 0) by unfold movesI; rw [if_neg h]]
    exact fromBack_out a h w
end Go.Proofs.YtcffbeihgchpgaaGreatDoor
/- Package op: toStack of every number. -/
namespace Go.Proofs.YtcffbeihgchpgaaGreatDoor
open Go.RowKit
set_option linter.unusedSimpArgs false
set_option linter.unusedVariables false
set_option maxHeartbeats 16000000 in
theorem toStack_at (k : Nat) (hk : k < 48) (w : World) : Calls Tryz.prog 173 #[.int .i64 k] w fun e w' => e = .returned (.int .i64 (movesOf k).2.2.1) ∧ w' = w := by
  rcases (by omega : k = 0 ∨ k = 1 ∨ k = 2 ∨ k = 3 ∨ k = 4 ∨ k = 5 ∨ k = 6 ∨ k = 7 ∨ k = 8 ∨ k = 9 ∨ k = 10 ∨ k = 11 ∨ k = 12 ∨ k = 13 ∨ k = 14 ∨ k = 15 ∨ k = 16 ∨ k = 17 ∨ k = 18 ∨ k = 19 ∨ k = 20 ∨ k = 21 ∨ k = 22 ∨ k = 23 ∨ k = 24 ∨ k = 25 ∨ k = 26 ∨ k = 27 ∨ k = 28 ∨ k = 29 ∨ k = 30 ∨ k = 31 ∨ k = 32 ∨ k = 33 ∨ k = 34 ∨ k = 35 ∨ k = 36 ∨ k = 37 ∨ k = 38 ∨ k = 39 ∨ k = 40 ∨ k = 41 ∨ k = 42 ∨ k = 43 ∨ k = 44 ∨ k = 45 ∨ k = 46 ∨ k = 47) with rfl | rfl | rfl | rfl | rfl | rfl | rfl | rfl | rfl | rfl | rfl | rfl | rfl | rfl | rfl | rfl | rfl | rfl | rfl | rfl | rfl | rfl | rfl | rfl | rfl | rfl | rfl | rfl | rfl | rfl | rfl | rfl | rfl | rfl | rfl | rfl | rfl | rfl | rfl | rfl | rfl | rfl | rfl | rfl | rfl | rfl | rfl | rfl
  all_goals
    go_enter Tryz.func173, Tryz.ntmps173
    go_wp2
    go_ret
    exact ⟨rfl, rfl⟩
set_option maxHeartbeats 8000000 in
theorem toStack_out (a : Int) (ha : ¬ isOp a) (w : World) : Calls Tryz.prog 173 #[.int .i64 a] w fun e w' => e = .returned (.int .i64 0) ∧ w' = w := by
  rcases (by omega : a < 0 ∨ 48 ≤ a) with h | h
  all_goals
    clear ha
    go_enter Tryz.func173, Tryz.ntmps173
    go_wp2
    go_ret
    exact ⟨rfl, rfl⟩
theorem toStack_any (a : Int) (w : World) : Calls Tryz.prog 173 #[.int .i64 a] w fun e w' => e = .returned (.int .i64 (movesI a).2.2.1) ∧ w' = w := by
  by_cases h : isOp a
  · obtain ⟨k, hk, rfl⟩ := nat_of_op h
    rw [show movesI (k : Int) = movesOf k by unfold movesI; rw [if_pos h]; rfl]
    exact toStack_at k hk w
  · rw [show movesI a = (0, 0, 0, 0) by unfold movesI; rw [if_neg h]]
    exact toStack_out a h w
end Go.Proofs.YtcffbeihgchpgaaGreatDoor
/- Package op: toBack of every number. -/
namespace Go.Proofs.YtcffbeihgchpgaaGreatDoor
open Go.RowKit
set_option linter.unusedSimpArgs false
set_option linter.unusedVariables false
set_option maxHeartbeats 16000000 in
theorem toBack_at (k : Nat) (hk : k < 48) (w : World) : Calls Tryz.prog 174 #[.int .i64 k] w fun e w' => e = .returned (.int .i64 (movesOf k).2.2.2) ∧ w' = w := by
  rcases (by omega : k = 0 ∨ k = 1 ∨ k = 2 ∨ k = 3 ∨ k = 4 ∨ k = 5 ∨ k = 6 ∨ k = 7 ∨ k = 8 ∨ k = 9 ∨ k = 10 ∨ k = 11 ∨ k = 12 ∨ k = 13 ∨ k = 14 ∨ k = 15 ∨ k = 16 ∨ k = 17 ∨ k = 18 ∨ k = 19 ∨ k = 20 ∨ k = 21 ∨ k = 22 ∨ k = 23 ∨ k = 24 ∨ k = 25 ∨ k = 26 ∨ k = 27 ∨ k = 28 ∨ k = 29 ∨ k = 30 ∨ k = 31 ∨ k = 32 ∨ k = 33 ∨ k = 34 ∨ k = 35 ∨ k = 36 ∨ k = 37 ∨ k = 38 ∨ k = 39 ∨ k = 40 ∨ k = 41 ∨ k = 42 ∨ k = 43 ∨ k = 44 ∨ k = 45 ∨ k = 46 ∨ k = 47) with rfl | rfl | rfl | rfl | rfl | rfl | rfl | rfl | rfl | rfl | rfl | rfl | rfl | rfl | rfl | rfl | rfl | rfl | rfl | rfl | rfl | rfl | rfl | rfl | rfl | rfl | rfl | rfl | rfl | rfl | rfl | rfl | rfl | rfl | rfl | rfl | rfl | rfl | rfl | rfl | rfl | rfl | rfl | rfl | rfl | rfl | rfl | rfl
  all_goals
    go_enter Tryz.func174, Tryz.ntmps174
    go_wp2
    go_ret
    exact ⟨rfl, rfl⟩
set_option maxHeartbeats 8000000 in
theorem toBack_out (a : Int) (ha : ¬ isOp a) (w : World) : Calls Tryz.prog 174 #[.int .i64 a] w fun e w' => e = .returned (.int .i64 0) ∧ w' = w := by
  rcases (by omega : a < 0 ∨ 48 ≤ a) with h | h
  all_goals
    clear ha
    go_enter Tryz.func174, Tryz.ntmps174
    go_wp2
    go_ret
    exact ⟨rfl, rfl⟩
theorem toBack_any (a : Int) (w : World) : Calls Tryz.prog 174 #[.int .i64 a] w fun e w' => e = .returned (.int .i64 (movesI a).2.2.2) ∧ w' = w := by
  by_cases h : isOp a
  · obtain ⟨k, hk, rfl⟩ := nat_of_op h
    rw [show movesI (k : Int) = movesOf k by unfold movesI; rw [if_pos h]; rfl]
    exact toBack_at k hk w
  · rw [show movesI a = (0, 0, 0, 0) by unfold movesI; rw [if_neg h]]
    exact toBack_out a h w
end Go.Proofs.YtcffbeihgchpgaaGreatDoor
/- Package op: what each of its calls answers, for every number and every text; the table of names holds them. -/
namespace Go.Proofs.YtcffbeihgchpgaaGreatDoor
open Go.RowKit
set_option linter.unusedSimpArgs false
set_option linter.unusedVariables false
theorem opRight_same (a : Int) (w : World) : Calls Tryz.prog 106 #[.int .i64 a] w fun e w' => e = .returned (.bool (opB a)) ∧ w' = w := by
  by_cases h0 : 0 ≤ a
  · have e0 : opB a = decide (a < 48) := by simp [opB, isOp, h0]
    rw [e0]
    clear e0
    go_enter Tryz.func106, Tryz.ntmps106
    go_wp2
    go_ret
    exact ⟨rfl, rfl⟩
  · have e0 : opB a = false := by simp [opB, isOp, h0]
    rw [e0]
    clear e0
    go_enter Tryz.func106, Tryz.ntmps106
    go_wp2
    go_ret
    exact ⟨rfl, rfl⟩
theorem opName_same (a : Int) (w : World) (hn : NamesIs w) : Calls Tryz.prog 138 #[.int .i64 a] w fun e w' => e = .returned (.string (nameI a)) ∧ w' = w := by
  have C := Lib.hid (opRight_same a w)
  by_cases h : isOp a
  · obtain ⟨k, hk, rfl⟩ := nat_of_op h
    rw [show opB (k : Int) = true from decide_eq_true h] at C
    rw [nameI_nat hk]
    have hc := hn.cell hk
    have e0 : (0 : Int) ≤ (k : Int) := by omega
    have e1 : (k : Int) < 48 := by omega
    go_enter Tryz.func138, Tryz.ntmps138
    go_wp2_with fail
    refine C.out.mono ?_
    rintro e wz ⟨rfl, hwz⟩
    subst wz
    go_wp2
    go_ret
    exact ⟨rfl, rfl⟩
  · rw [show opB a = false from decide_eq_false h] at C
    rw [nameI_no h]
    go_enter Tryz.func138, Tryz.ntmps138
    go_wp2_with fail
    refine C.out.mono ?_
    rintro e wz ⟨rfl, hwz⟩
    subst wz
    go_wp2
    go_ret
    exact ⟨rfl, rfl⟩
theorem opArg_same (a : Int) (w : World) : Calls Tryz.prog 86 #[.int .i64 a] w fun e w' => e = .returned (.bool (argI a)) ∧ w' = w := by
  by_cases h : isOp a
  · obtain ⟨k, hk, rfl⟩ := nat_of_op h
    rw [show argI (k : Int) = argOf k by unfold argI; rw [if_pos h]; rfl]
    clear h
    by_cases h2 : k = 2
    · subst h2; go_enter Tryz.func86, Tryz.ntmps86; go_wp2; go_ret; exact ⟨rfl, rfl⟩
    by_cases h3 : k = 3
    · subst h3; go_enter Tryz.func86, Tryz.ntmps86; go_wp2; go_ret; exact ⟨rfl, rfl⟩
    by_cases h4 : k = 4
    · subst h4; go_enter Tryz.func86, Tryz.ntmps86; go_wp2; go_ret; exact ⟨rfl, rfl⟩
    by_cases h37 : k = 37
    · subst h37; go_enter Tryz.func86, Tryz.ntmps86; go_wp2; go_ret; exact ⟨rfl, rfl⟩
    by_cases h38 : k = 38
    · subst h38; go_enter Tryz.func86, Tryz.ntmps86; go_wp2; go_ret; exact ⟨rfl, rfl⟩
    have e : argOf k = false := by unfold argOf; exact decide_eq_false (by omega)
    rw [e]
    have e2 : ((k : Int) == 2) = false := by simp; omega
    have e3 : ((k : Int) == 3) = false := by simp; omega
    have e4 : ((k : Int) == 4) = false := by simp; omega
    have e37 : ((k : Int) == 37) = false := by simp; omega
    have e38 : ((k : Int) == 38) = false := by simp; omega
    go_enter Tryz.func86, Tryz.ntmps86
    go_wp2
    go_ret
    exact ⟨rfl, rfl⟩
  · rw [show argI a = false by unfold argI; rw [if_neg h]]
    rcases (by omega : a < 0 ∨ 48 ≤ a) with h | h
    all_goals
      go_enter Tryz.func86, Tryz.ntmps86
      go_wp2
      go_ret
      exact ⟨rfl, rfl⟩
theorem opPlain_same (a : Int) (w : World) : Calls Tryz.prog 87 #[.int .i64 a] w fun e w' => e = .returned (.bool (plainI a)) ∧ w' = w := by
  have C := Lib.hid (opRight_same a w)
  by_cases h : isOp a
  · obtain ⟨k, hk, rfl⟩ := nat_of_op h
    rw [show opB (k : Int) = true from decide_eq_true h] at C
    rw [show plainI (k : Int) = plainOf k by unfold plainI; rw [if_pos h]; rfl]
    clear h
    by_cases h2 : k = 0
    · subst h2; go_enter Tryz.func87, Tryz.ntmps87; go_wp2; go_ret; exact ⟨rfl, rfl⟩
    by_cases h3 : k = 1
    · subst h3; go_enter Tryz.func87, Tryz.ntmps87; go_wp2; go_ret; exact ⟨rfl, rfl⟩
    by_cases h4 : k = 45
    · subst h4; go_enter Tryz.func87, Tryz.ntmps87; go_wp2; go_ret; exact ⟨rfl, rfl⟩
    by_cases h37 : k = 46
    · subst h37; go_enter Tryz.func87, Tryz.ntmps87; go_wp2; go_ret; exact ⟨rfl, rfl⟩
    have e : plainOf k = true := by unfold plainOf; exact decide_eq_true (by omega)
    rw [e]
    have e2 : ((k : Int) == 0) = false := by simp; omega
    have e3 : ((k : Int) == 1) = false := by simp; omega
    have e45 : ((k : Int) == 45) = false := by simp; omega
    have e46 : ((k : Int) == 46) = false := by simp; omega
    go_enter Tryz.func87, Tryz.ntmps87
    go_wp2_with fail
    refine C.out.mono ?_
    rintro e wz ⟨rfl, hwz⟩
    subst wz
    go_wp2
    go_ret
    exact ⟨rfl, rfl⟩
  · rw [show plainI a = false by unfold plainI; rw [if_neg h]]
    rw [show opB a = false from decide_eq_false h] at C
    rcases (by omega : a < 0 ∨ 48 ≤ a) with h | h
    all_goals
      go_enter Tryz.func87, Tryz.ntmps87
      go_wp2_with fail
      refine C.out.mono ?_
      rintro e wz ⟨rfl, hwz⟩
      subst wz
      go_wp2
      go_ret
      exact ⟨rfl, rfl⟩
theorem opTakes_same (a : Int) (w : World) : Calls Tryz.prog 148 #[.int .i64 a] w fun e w' => e = .returned (.tuple #[.int .i64 (movesI a).1, .int .i64 (movesI a).2.1]) ∧ w' = w := by
  have C := Lib.hid (fromStack_any a w)
  have D := Lib.hid (fromBack_any a w)
  generalize movesI a = m at C D ⊢
  obtain ⟨m1, m2, m3, m4⟩ := m
  dsimp only at C D ⊢
  go_enter Tryz.func148, Tryz.ntmps148
  go_wp2_with fail
  refine C.out.mono ?_
  rintro e wz ⟨rfl, hwz⟩
  subst wz
  clear C
  go_wp2_with fail
  refine D.out.mono ?_
  rintro e wz ⟨rfl, hwz⟩
  subst wz
  go_wp2
  go_ret2
  exact ⟨rfl, rfl⟩
theorem opGives_same (a : Int) (w : World) : Calls Tryz.prog 161 #[.int .i64 a] w fun e w' => e = .returned (.tuple #[.int .i64 (movesI a).2.2.1, .int .i64 (movesI a).2.2.2]) ∧ w' = w := by
  have C := Lib.hid (toStack_any a w)
  have D := Lib.hid (toBack_any a w)
  generalize movesI a = m at C D ⊢
  obtain ⟨m1, m2, m3, m4⟩ := m
  dsimp only at C D ⊢
  go_enter Tryz.func161, Tryz.ntmps161
  go_wp2_with fail
  refine C.out.mono ?_
  rintro e wz ⟨rfl, hwz⟩
  subst wz
  clear C
  go_wp2_with fail
  refine D.out.mono ?_
  rintro e wz ⟨rfl, hwz⟩
  subst wz
  go_wp2
  go_ret2
  exact ⟨rfl, rfl⟩
end Go.Proofs.YtcffbeihgchpgaaGreatDoor
/- Package inner: what an operation lacks on the stacks; a word that is called. -/
namespace Go.Proofs.YtcffbeihgchpgaaGreatDoor.Inn
open Go.RowKit Book Mem Mach
set_option linter.unusedVariables false
set_option linter.unusedSimpArgs false
theorem moves_nat {k : Nat} (hk : k < 48) : movesI (k : Int) = movesOf k := by unfold movesI; rw [if_pos (isOp_nat hk)]; rfl
/-- the code of what is lacking; 0: nothing -/
def lackM (m : M) (k : Nat) : Int :=
  if (m.stack.length : Int) - (movesOf k).1 < 0 then -4
  else if (m.back.length : Int) - (movesOf k).2.1 < 0 then -6
  else if 48 < (m.stack.length : Int) - (movesOf k).1 + (movesOf k).2.2.1 then -3
  else if 48 < (m.back.length : Int) - (movesOf k).2.1 + (movesOf k).2.2.2 then -5
  else 0
set_option maxHeartbeats 8000000 in
set_option maxRecDepth 100000 in
theorem lack_any {w : World} {B q : Nat} {F : List Nat} {m : M} (h : Mk w B q F m) (k : Nat) (hk : k < 48) :
    Calls Tryz.prog 149 #[.pointer (some ⟨q, 0, none⟩), .int .i64 k] w fun e w' => e = .returned (.int .i64 (lackM m k)) ∧ ∃ n, w' = w.drewN n := by
  obtain ⟨ps, gs, pb, gb, pf, vC, vH, ch, vs, vb, vm, -, h⟩ := h
  have L1 := Lib.hid (fun wc (n : Nat) (e : wc = w.drewN n) => by rw [e]; exact len_any (h.st.touch (Stirred.drewN w n []) (fun _ _ => List.not_mem_nil)) : ∀ wc (n : Nat), wc = w.drewN n → Calls Tryz.prog 140 #[.pointer (some ⟨ps, 0, none⟩)] wc fun e w' => e = .returned (.int .i64 m.stack.length) ∧ w' = wc)
  have L2 := Lib.hid (fun wc (n : Nat) (e : wc = w.drewN n) => by rw [e]; exact len_any (h.bk.touch (Stirred.drewN w n []) (fun _ _ => List.not_mem_nil)) : ∀ wc (n : Nat), wc = w.drewN n → Calls Tryz.prog 140 #[.pointer (some ⟨pb, 0, none⟩)] wc fun e w' => e = .returned (.int .i64 m.back.length) ∧ w' = wc)
  have hs := h.st.fits
  have hb := h.bk.fits
  obtain ⟨n1, n2, n3⟩ := h.ptrs
  have hmv := movesI_in k
  have T := Lib.hid (opTakes_same k w)
  have G := Lib.hid (opGives_same k w)
  have hL : lackM m k = lackM m k := rfl
  rw [show lackM m k = (if (m.stack.length : Int) - (movesI k).1 < 0 then -4 else if (m.back.length : Int) - (movesI k).2.1 < 0 then -6 else if 48 < (m.stack.length : Int) - (movesI k).1 + (movesI k).2.2.1 then -3 else if 48 < (m.back.length : Int) - (movesI k).2.1 + (movesI k).2.2.2 then -5 else 0) by rw [moves_nat hk]; rfl]
  clear hL h
  obtain ⟨ns, hns⟩ : ∃ n, m.stack.length = n := ⟨_, rfl⟩
  obtain ⟨nb, hnb⟩ : ∃ n, m.back.length = n := ⟨_, rfl⟩
  rw [hns] at hs L1
  rw [hnb] at hb L2
  rw [hns, hnb]
  clear hns hnb hk
  generalize movesI (k : Int) = mv at *
  obtain ⟨a, b, x, y⟩ := mv
  simp only at hmv T G ⊢
  obtain ⟨ha0, ha1, hb0, hb1, hx0, hx1, hy0, hy1⟩ := hmv
  obtain ⟨r, hr⟩ : ∃ r : Int, (if (ns : Int) - a < 0 then -4 else if (nb : Int) - b < 0 then -6 else if 48 < (ns : Int) - a + x then -3 else if 48 < (nb : Int) - b + y then -5 else 0) = r := ⟨_, rfl⟩
  rw [hr]
  have HR := Lib.hid hr
  clear hr
  by_cases c1 : (ns : Int) - a < 0
  · skip
    obtain rfl : r = -4 := by rw [← HR.out, if_pos c1]
    clear HR
    go_enter Tryz.func149, Tryz.ntmps149
    go_wp2_with fail
    refine T.out.mono ?_
    rintro e wz ⟨rfl, hwz⟩
    subst wz
    go_wp2_with fail
    refine G.out.mono ?_
    rintro e wz ⟨rfl, hwz⟩
    subst wz
    go_wp2_with fail
    go_quiet ((first | (go_at_call_of 140 (Value.pointer (some (⟨ps, 0, none⟩ : Addr))); exact Calls.quiet_of_same (L1.out _ _ rfl)) | (go_at_call_of 140 (Value.pointer (some (⟨pb, 0, none⟩ : Addr))); exact Calls.quiet_of_same (L2.out _ _ rfl))))
    go_wp2
    go_ret
    exact ⟨rfl, _, rfl⟩
  · by_cases c2 : (nb : Int) - b < 0
    · skip
      obtain rfl : r = -6 := by rw [← HR.out, if_neg c1, if_pos c2]
      clear HR
      go_enter Tryz.func149, Tryz.ntmps149
      go_wp2_with fail
      refine T.out.mono ?_
      rintro e wz ⟨rfl, hwz⟩
      subst wz
      go_wp2_with fail
      refine G.out.mono ?_
      rintro e wz ⟨rfl, hwz⟩
      subst wz
      go_wp2_with fail
      go_quiet ((first | (go_at_call_of 140 (Value.pointer (some (⟨ps, 0, none⟩ : Addr))); exact Calls.quiet_of_same (L1.out _ _ rfl)) | (go_at_call_of 140 (Value.pointer (some (⟨pb, 0, none⟩ : Addr))); exact Calls.quiet_of_same (L2.out _ _ rfl))))
      go_wp2
      go_ret
      exact ⟨rfl, _, rfl⟩
    · by_cases c3 : 48 < (ns : Int) - a + x
      · skip
        obtain rfl : r = -3 := by rw [← HR.out, if_neg c1, if_neg c2, if_pos c3]
        clear HR
        go_enter Tryz.func149, Tryz.ntmps149
        go_wp2_with fail
        refine T.out.mono ?_
        rintro e wz ⟨rfl, hwz⟩
        subst wz
        go_wp2_with fail
        refine G.out.mono ?_
        rintro e wz ⟨rfl, hwz⟩
        subst wz
        go_wp2_with fail
        go_quiet ((first | (go_at_call_of 140 (Value.pointer (some (⟨ps, 0, none⟩ : Addr))); exact Calls.quiet_of_same (L1.out _ _ rfl)) | (go_at_call_of 140 (Value.pointer (some (⟨pb, 0, none⟩ : Addr))); exact Calls.quiet_of_same (L2.out _ _ rfl))))
        go_wp2
        go_ret
        exact ⟨rfl, _, rfl⟩
      · by_cases c4 : 48 < (nb : Int) - b + y
        · skip
          obtain rfl : r = -5 := by rw [← HR.out, if_neg c1, if_neg c2, if_neg c3, if_pos c4]
          clear HR
          go_enter Tryz.func149, Tryz.ntmps149
          go_wp2_with fail
          refine T.out.mono ?_
          rintro e wz ⟨rfl, hwz⟩
          subst wz
          go_wp2_with fail
          refine G.out.mono ?_
          rintro e wz ⟨rfl, hwz⟩
          subst wz
          go_wp2_with fail
          go_quiet ((first | (go_at_call_of 140 (Value.pointer (some (⟨ps, 0, none⟩ : Addr))); exact Calls.quiet_of_same (L1.out _ _ rfl)) | (go_at_call_of 140 (Value.pointer (some (⟨pb, 0, none⟩ : Addr))); exact Calls.quiet_of_same (L2.out _ _ rfl))))
          go_wp2
          go_ret
          exact ⟨rfl, _, rfl⟩
        · skip
          obtain rfl : r = 0 := by rw [← HR.out, if_neg c1, if_neg c2, if_neg c3, if_neg c4]
          clear HR
          go_enter Tryz.func149, Tryz.ntmps149
          go_wp2_with fail
          refine T.out.mono ?_
          rintro e wz ⟨rfl, hwz⟩
          subst wz
          go_wp2_with fail
          refine G.out.mono ?_
          rintro e wz ⟨rfl, hwz⟩
          subst wz
          go_wp2_with fail
          go_quiet ((first | (go_at_call_of 140 (Value.pointer (some (⟨ps, 0, none⟩ : Addr))); exact Calls.quiet_of_same (L1.out _ _ rfl)) | (go_at_call_of 140 (Value.pointer (some (⟨pb, 0, none⟩ : Addr))); exact Calls.quiet_of_same (L2.out _ _ rfl))))
          go_wp2
          go_ret
          exact ⟨rfl, _, rfl⟩
end Go.Proofs.YtcffbeihgchpgaaGreatDoor.Inn
/- Package inner: an operation: what it takes is looked at ahead, and goes when nothing can stand in its way. -/
namespace Go.Proofs.YtcffbeihgchpgaaGreatDoor.Inn
open Go.RowKit Book Mem Mach
set_option linter.unusedVariables false
set_option linter.unusedSimpArgs false
/-- a machine went on, or can't go on: then what a fault makes of it is mE -/
def Gone (w : World) (B q : Nat) (F D : List Nat) (at' : Int) (mE : M) (e : Ending) (w' : World) : Prop :=
  (∃ F', e = .returned .nilIface ∧ Mk w' B q F' mE ∧ Stirred w w' D ∧ ∀ f ∈ F', f ∈ F ∨ w.heap.size ≤ f) ∨
  ∃ F' m1 c, e = .returned (faultV c at') ∧ (c == 0) = false ∧ Cell.In m1.handler ∧ mE = Mach.fault m1 c ∧ Mk w' B q F' m1 ∧ Stirred w w' D ∧ ∀ f ∈ F', f ∈ F ∨ w.heap.size ≤ f
section
variable {w : World} {B q ps gs pb gb pf : Nat} {vC vH : Value} {ch : List Int} {vs vb vm : Value} {m : M} {xb : Nat} {g nx : Int}
abbrev new8 (k g at' nx : Int) : Array Value := cells8 k g at' nx (.slice none 0 0) (.slice none 0 0) (.slice none 0 0) (.slice none 0 0)
set_option maxHeartbeats 8000000 in
set_option maxRecDepth 100000 in
theorem operate_lack (h : Mc w B q ps gs pb gb pf vC vH ch vs vb vm m) (k : Nat) (hk : k < 48) (hx : w.heap[xb]? = some (.cells (new8 k g m.ip nx) 163 (0, 0))) (hc : Cells m) (hl : lackM m k ≠ 0) :
    Calls Tryz.prog 137 #[.pointer (some ⟨q, 0, none⟩), .pointer (some ⟨xb, 0, none⟩)] w (Gone w B q (feet q ps gs pb gb pf vC vH) (xb :: feet q ps gs pb gb pf vC vH) m.ip (Mach.fault m (lackM m k))) := by
  have HH := Lib.hid h
  have HC := Lib.hid hc.handler
  have T := Lib.hid (opTakes_same k w)
  have L := Lib.hid (lack_any h.mach k hk)
  have c0 : w.cell? ⟨xb, 0, none⟩ = some (.int .i64 (k : Int)) := whole_cell hx rfl
  have X := Lib.hid (fun n => xfault_some ((Stirred.drewN w n []).whole hx List.not_mem_nil) (lackM m k) (by simpa using hl))
  have hl' : (lackM m k != 0) = true := by simpa using hl
  have HL := Lib.hid (show (lackM m k == 0) = false by simpa using hl)
  generalize lackM m k = c at *
  clear h hc hx hl
  go_enter Tryz.func137, Tryz.ntmps137
  go_wp2_with fail
  refine T.out.mono ?_
  rintro e wz ⟨rfl, hwz⟩
  subst wz
  go_wp2_with fail
  refine L.out.mono ?_
  rintro e wz ⟨rfl, n, hq⟩
  subst hq
  go_wp2_with fail
  refine (X.out n).mono ?_
  rintro e wz ⟨rfl, hwz⟩
  subst wz
  go_wp2
  go_ret
  exact .inr ⟨_, m, c, rfl, HL.out, HC.out, rfl, (HH.out.touch (Stirred.drewN w n []) (fun _ _ => List.not_mem_nil)).mach, Stirred.drewN w n _, fun f hf => .inl hf⟩
end
end Go.Proofs.YtcffbeihgchpgaaGreatDoor.Inn
