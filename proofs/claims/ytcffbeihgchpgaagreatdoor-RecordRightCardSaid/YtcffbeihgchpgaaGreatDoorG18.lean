/- hollowayref1: letters made great; two names alike. -/
import Derived.Test.YtcffbeihgchpgaaGreatDoorRows
import Derived.WalkKit
import Derived.ProofKit
import Derived.Lib.Hide
import Derived.Lib.Case
import Derived.Lib.ConvBytes
import Derived.Lib.BytesEntry
import Derived.Deep.LoopGhost
import Derived.Test.YtcffbeihgchpgaaGreatDoorG2
import Derived.LaidLaws
import Derived.LaidHandle
import Derived.Lib.LaidTab
import Derived.ChangeVars
import Derived.ChangeArms
import Derived.Stop.Joined
import Derived.Deep.QuietTactic
import Derived.BigQuiet
import Derived.Test.YtcffbeihgchpgaaGreatDoorG11
import Derived.Test.YtcffbeihgchpgaaGreatDoorG17
import Derived.Deep.RegionHeld3
namespace Go.Proofs.YtcffbeihgchpgaaGreatDoor
open Go.RowKit
set_option linter.unusedSimpArgs false
set_option linter.unusedVariables false
theorem bytes_len (s : ByteArray) : s.data.toList.length = s.size := Array.length_toList
/-- the row of bytes in block N: the first k of l are made great -/
def UpRow (N : Nat) (l : List UInt8) (k : Nat) (w : World) : Prop := ∀ j, j < l.length → w.cell? ⟨N, j, none⟩ = some (.int .u8 ((if j < k then Lib.upperB (l.getD j 0) else l.getD j 0).toNat : Int)) ∧ w.frozen? ⟨N, j, none⟩ = false
theorem UpRow.start (s : ByteArray) (w : World) : UpRow w.heap.size s.data.toList 0 (Lib.bytesWorld w 5 s) := by
  intro j hj
  have hl : s.data.toList.length = s.size := Array.length_toList
  refine ⟨?_, ?_⟩
  · rw [Lib.bytesWorld_cell w 5 s j (by omega), if_neg (by omega)]
  · have h := Lib.bytesWorld_at_new w 5 s
    have hsz : s.size ≤ (Lib.bytesCells w 5 s).size := by unfold Lib.bytesCells; simp
    simp only [World.frozen?, h]
    simp
    omega
theorem UpRow.keep {N k : Nat} {l : List UInt8} {w : World} (h : UpRow N l k w) (hk : k < l.length) (hx : Lib.upperB (l.getD k 0) = l.getD k 0) : UpRow N l (k + 1) w := by
  intro j hj
  obtain ⟨h1, h2⟩ := h j hj
  refine ⟨?_, h2⟩
  rw [h1]
  by_cases hjk : j < k
  · rw [if_pos hjk, if_pos (by omega)]
  · by_cases he : j = k
    · subst he; rw [if_neg hjk, if_pos (by omega), hx]
    · rw [if_neg hjk, if_neg (by omega)]
theorem UpRow.store {N k : Nat} {l : List UInt8} {w : World} {v : Value} (h : UpRow N l k w) (hk : k < l.length) (hv : v = .int .u8 ((Lib.upperB (l.getD k 0)).toNat : Int)) : UpRow N l (k + 1) (w.setCell ⟨N, k, none⟩ v) := by
  intro j hj
  obtain ⟨h1, h2⟩ := h j hj
  refine ⟨?_, by rw [World.frozen?_setCell]; exact h2⟩
  by_cases he : j = k
  · subst he
    rw [World.cell?_setCell_same _ _ _ h1, hv, if_pos (by omega)]
  · rw [World.cell?_setCell_other _ _ _ _ (by intro e; injection e; omega), h1]
    by_cases hjk : j < k
    · rw [if_pos hjk, if_pos (by omega)]
    · rw [if_neg hjk, if_neg (by omega)]
theorem lower_cases (c : UInt8) : (97 ≤ (c.toNat : Int) ∧ (c.toNat : Int) ≤ 122 ∧ ((Lib.upperB c).toNat : Int) = (c.toNat : Int) - 32) ∨ ((c.toNat : Int) < 97 ∧ Lib.upperB c = c) ∨ (122 < (c.toNat : Int) ∧ 97 ≤ (c.toNat : Int) ∧ Lib.upperB c = c) := by
  have e := Lib.isLowerB_int c
  by_cases h1 : 97 ≤ (c.toNat : Int)
  · by_cases h2 : (c.toNat : Int) ≤ 122
    · have h3 : Lib.isLowerB c = true := by rw [e]; simp [h1, h2]
      exact .inl ⟨h1, h2, Lib.upperB_int c h3⟩
    · have h3 : Lib.isLowerB c = false := by rw [e]; simp [h2]
      exact .inr (.inr ⟨by omega, h1, Lib.upperB_of_not c h3⟩)
  · have h3 : Lib.isLowerB c = false := by rw [e]; simp [h1]
    exact .inr (.inl ⟨by omega, Lib.upperB_of_not c h3⟩)
set_option maxRecDepth 100000 in
theorem up_text (s : ByteArray) (cap N : Nat) (w : World) (h : UpRow N s.data.toList s.size w) :
    (convert 77 9 (.slice (some ⟨N, 0, none⟩) s.size cap)).run Tryz.prog w = .ok (.string ⟨(s.data.toList.map Lib.upperB).toArray⟩) w := by
  have hl := bytes_len s
  have e := run_convert_bytes_arg (P := Tryz.prog) w 77 5 Tryz.underlying77 Tryz.underlying5 N 0 s.size cap ((s.data.toList.map Lib.upperB).map fun x => (x.toNat : Int)) (by simp [hl])
    (fun i hi => by
      have hil : i < s.data.toList.length := by omega
      rw [Nat.zero_add, (h i hil).1, if_pos hi]
      simp [hil, List.getD, List.getElem?_eq_getElem hil]) 9 Tryz.underlying9
  rw [e]
  congr 2
  simp only [strOfNums, List.map_map]
  exact congrArg (fun x : List UInt8 => (⟨x.toArray⟩ : ByteArray)) (List.map_congr_left fun x _ => by simp)
theorem bytesw_below (w : World) (s : ByteArray) : Below w.heap.size w (Lib.bytesWorld w 5 s) := by
  refine ⟨rfl, rfl, rfl, ?_, fun j hj => Lib.bytesWorld_at_old w 5 s j hj⟩
  rw [Lib.bytesWorld_size]; omega
/-- letters made great -/
def up (s : ByteArray) : ByteArray := ⟨(s.data.toList.map Lib.upperB).toArray⟩
/-- are two names alike? -/
def alike (a b : ByteArray) : Bool := (up a).toList == (up b).toList
end Go.Proofs.YtcffbeihgchpgaaGreatDoor
/- Plain facts on the names of operations; what a name names; the document's answers for every number. -/
namespace Go.Proofs.YtcffbeihgchpgaaGreatDoor
open Go.RowKit
set_option linter.unusedSimpArgs false
set_option linter.unusedVariables false
def nameI (a : Int) : ByteArray := if isOp a then nameOf a.toNat else ⟨#[]⟩
def movesI (a : Int) : Int × Int × Int × Int := if isOp a then movesOf a.toNat else (0, 0, 0, 0)
def argI (a : Int) : Bool := if isOp a then argOf a.toNat else false
def plainI (a : Int) : Bool := if isOp a then plainOf a.toNat else false
def opB (a : Int) : Bool := decide (isOp a)
/-- the last operation below n with that name -/
def lastOp (s : ByteArray) : Nat → Option Nat
  | 0 => none
  | n + 1 => if alike (nameOf n) s then some n else lastOp s n
def ofN (s : ByteArray) : Option Nat := lastOp s 48
/-- letters made small -/
def low (s : ByteArray) : ByteArray := ⟨(s.data.toList.map Lib.lowerB).toArray⟩
theorem alike_iff (a b : ByteArray) : alike a b = true ↔ a.data.toList.map Lib.upperB = b.data.toList.map Lib.upperB := by
  unfold alike
  rw [ByteArray.toList_eq, ByteArray.toList_eq, beq_iff_eq]
  rfl
theorem alike_size {a b : ByteArray} (h : alike a b = true) : a.size = b.size := by
  have := congrArg List.length ((alike_iff a b).1 h)
  rw [List.length_map, List.length_map, bytes_len, bytes_len] at this
  exact this
def bytesOf (k : Nat) : List UInt8 := (nameOf k).data.toList
theorem distinct : ∀ i : Fin 48, ∀ j : Fin 48, (bytesOf i).map Lib.upperB = (bytesOf j).map Lib.upperB → i = j := by decide +kernel
theorem low_same_name : ∀ i : Fin 48, ((bytesOf i).map Lib.lowerB).map Lib.upperB = (bytesOf i).map Lib.upperB := by decide +kernel
theorem name_full : ∀ i : Fin 48, bytesOf i ≠ [] := by decide +kernel
theorem name_short : ∀ i : Fin 48, (bytesOf i).length ≤ 8 := by decide +kernel
theorem nameOf_size {k : Nat} (h : k < 48) : (nameOf k).size ≤ 8 := by rw [← bytes_len]; exact name_short ⟨k, h⟩
theorem nameI_size (a : Int) : (nameI a).size ≤ 8 := by
  unfold nameI
  split
  · rename_i h; exact nameOf_size (by have := h.1; have := h.2; omega)
  · exact Nat.zero_le 8
theorem same_op {s : ByteArray} {i j : Nat} (hi : i < 48) (hj : j < 48) (h1 : alike (nameOf i) s = true) (h2 : alike (nameOf j) s = true) : i = j := by
  have := distinct ⟨i, hi⟩ ⟨j, hj⟩ (((alike_iff _ _).1 h1).trans ((alike_iff _ _).1 h2).symm)
  simpa using this
theorem lastOp_some {s : ByteArray} {n k : Nat} (h : lastOp s n = some k) : k < n ∧ alike (nameOf k) s = true := by
  induction n with
  | zero => cases h
  | succ n ih =>
    unfold lastOp at h
    split at h
    · rename_i ha; simp at h; subst h; exact ⟨by omega, ha⟩
    · obtain ⟨h1, h2⟩ := ih h; exact ⟨by omega, h2⟩
theorem lastOp_of {s : ByteArray} {n k : Nat} (hn : n ≤ 48) (hk : k < n) (h : alike (nameOf k) s = true) : lastOp s n = some k := by
  induction n with
  | zero => omega
  | succ n ih =>
    unfold lastOp
    split
    · rename_i ha; rw [same_op (by omega) (by omega) ha h]
    · rename_i ha
      have : k ≠ n := fun e => ha (e ▸ h)
      exact ih (by omega) (by omega)
theorem ofN_of {s : ByteArray} {k : Nat} (hk : k < 48) (h : alike (nameOf k) s = true) : ofN s = some k := lastOp_of (Nat.le_refl _) hk h
theorem ofN_name {k : Nat} (hk : k < 48) : ofN (nameOf k) = some k := ofN_of hk ((alike_iff _ _).2 rfl)
theorem ofN_low {k : Nat} (hk : k < 48) : ofN (low (nameOf k)) = some k := ofN_of hk ((alike_iff _ _).2 (low_same_name ⟨k, hk⟩).symm)
theorem ofN_empty : ofN ⟨#[]⟩ = none := by
  cases h : ofN ⟨#[]⟩ with
  | none => rfl
  | some k =>
    obtain ⟨hk, ha⟩ := lastOp_some h
    have := (alike_iff _ _).1 ha
    exact absurd (List.map_eq_nil_iff.1 this) (name_full ⟨k, hk⟩)
theorem ofN_longer {k : Nat} {m : ByteArray} (hk : k < 48) (hm : m ≠ ⟨#[]⟩) : ofN (nameOf k ++ m) ≠ some k := fun h => by
  obtain ⟨_, ha⟩ := lastOp_some h
  have := alike_size ha
  rw [ByteArray.size_append] at this
  have h0 : m.size = 0 := by omega
  exact hm (by apply ByteArray.ext; exact Array.eq_empty_of_size_eq_zero h0)
theorem nameI_inj {a b : Int} (ha : isOp a) (hb : isOp b) (h : nameI a = nameI b) : a = b := by
  unfold nameI at h
  rw [if_pos ha, if_pos hb] at h
  have := same_op (s := nameOf a.toNat) (i := a.toNat) (j := b.toNat) (by have := ha.1; have := ha.2; omega) (by have := hb.1; have := hb.2; omega) ((alike_iff _ _).2 rfl) ((alike_iff _ _).2 (by rw [h]))
  have := ha.1; have := hb.1; omega
theorem moves_all : ∀ i : Fin 48, 0 ≤ (movesOf i).1 ∧ (movesOf i).1 ≤ 4 ∧ 0 ≤ (movesOf i).2.1 ∧ (movesOf i).2.1 ≤ 4 ∧ 0 ≤ (movesOf i).2.2.1 ∧ (movesOf i).2.2.1 ≤ 4 ∧ 0 ≤ (movesOf i).2.2.2 ∧ (movesOf i).2.2.2 ≤ 4 := by decide +kernel
theorem movesI_in (a : Int) : 0 ≤ (movesI a).1 ∧ (movesI a).1 ≤ 4 ∧ 0 ≤ (movesI a).2.1 ∧ (movesI a).2.1 ≤ 4 ∧ 0 ≤ (movesI a).2.2.1 ∧ (movesI a).2.2.1 ≤ 4 ∧ 0 ≤ (movesI a).2.2.2 ∧ (movesI a).2.2.2 ≤ 4 := by
  unfold movesI
  split
  · rename_i h; exact moves_all ⟨a.toNat, by have := h.1; have := h.2; omega⟩
  · exact ⟨by decide, by decide, by decide, by decide, by decide, by decide, by decide, by decide⟩
theorem nat_of_op {a : Int} (h : isOp a) : ∃ k : Nat, k < 48 ∧ a = (k : Int) := ⟨a.toNat, by have := h.1; have := h.2; omega, by have := h.1; omega⟩
theorem isOp_nat {k : Nat} (h : k < 48) : isOp (k : Int) := ⟨by omega, by omega⟩
theorem nameI_nat {k : Nat} (h : k < 48) : nameI (k : Int) = nameOf k := by unfold nameI; rw [if_pos (isOp_nat h)]; rfl
theorem nameI_no {a : Int} (h : ¬ isOp a) : nameI a = ⟨#[]⟩ := by unfold nameI; rw [if_neg h]
-- the document's answers
theorem refArg_any (a : Int) (w : World) : Calls Tryz.prog 44 #[.int .i64 a] w fun e w' => e = .returned (.bool (argI a)) ∧ w' = w := by
  by_cases h : isOp a
  · obtain ⟨k, hk, rfl⟩ := nat_of_op h
    rw [show argI (k : Int) = argOf k by unfold argI; rw [if_pos h]; rfl]
    exact refArg_at k hk w
  · rw [show argI a = false by unfold argI; rw [if_neg h]]
    exact refArg_out a h w
theorem refPlain_any (a : Int) (w : World) : Calls Tryz.prog 42 #[.int .i64 a] w fun e w' => e = .returned (.bool (plainI a)) ∧ w' = w := by
  by_cases h : isOp a
  · obtain ⟨k, hk, rfl⟩ := nat_of_op h
    rw [show plainI (k : Int) = plainOf k by unfold plainI; rw [if_pos h]; rfl]
    exact refPlain_at k hk w
  · rw [show plainI a = false by unfold plainI; rw [if_neg h]]
    exact refPlain_out a h w
theorem refMoves_any (a : Int) (w : World) : Calls Tryz.prog 52 #[.int .i64 a] w fun e w' => e = .returned (.tuple #[.int .i64 (movesI a).1, .int .i64 (movesI a).2.1, .int .i64 (movesI a).2.2.1, .int .i64 (movesI a).2.2.2]) ∧ w' = w := by
  by_cases h : isOp a
  · obtain ⟨k, hk, rfl⟩ := nat_of_op h
    rw [show movesI (k : Int) = movesOf k by unfold movesI; rw [if_pos h]; rfl]
    exact refMoves_at k hk w
  · rw [show movesI a = (0, 0, 0, 0) by unfold movesI; rw [if_neg h]]
    exact refMoves_out a h w
end Go.Proofs.YtcffbeihgchpgaaGreatDoor
/- What package op answers, by the document: the forms in which its walks are wanted. -/
namespace Go.Proofs.YtcffbeihgchpgaaGreatDoor
open Go.RowKit
/-- the number that a name names; 0 of none -/
def ofI (s : ByteArray) : Int := (((ofN s).getD 0 : Nat) : Int)
def ofB (s : ByteArray) : Bool := (ofN s).isSome
/-- a call that answers this, and leaves what was there -/
def Says (v : Value) (w : World) (e : Ending) (w' : World) : Prop := e = .returned v ∧ Below w.heap.size w w'
theorem Says.of {v : Value} {w : World} {e : Ending} {w' : World} (h : e = .returned v ∧ w' = w) : Says v w e w' := ⟨h.1, by rw [h.2]; exact Below.refl _ _⟩
end Go.Proofs.YtcffbeihgchpgaaGreatDoor
/- The table of the operations' names, a package variable: what it holds, that it stays, and a world in which it is laid. -/
namespace Go.Proofs.YtcffbeihgchpgaaGreatDoor
open Go.RowKit
set_option linter.unusedVariables false
set_option linter.unusedSimpArgs false
/-- an array of strings that reads as these holds them, cell for cell -/
theorem cells_of_strs {H : Type} {enc : TypeId × Value → H} {P : Program} {w : World} {base : Nat} {sp : Nat → Bool} {held : Bool} {fuel : Nat} {t e : TypeId} {n : Nat} {cs : List Value} {zs : List ByteArray} {p : List MemPlace}
    (ht : P.underlying t = some (.array n e)) (he : P.underlying e = some .string) (hce : P.cellsOf e = 1) (hct : P.cellsOf t = n)
    (h : DataW.trod enc P w base sp held fuel t cs = some (.agg (zs.map fun z => .lit (.string z.data.toList)), p)) : cs = zs.map Value.string := by
  cases fuel with
  | zero => simp [DataW.trod] at h
  | succ fuel =>
    simp only [DataW.trod, ht, hce, hct, Nat.mul_one] at h
    split at h
    · rename_i hl
      obtain ⟨xs, hm, hx⟩ := Option.map_eq_some_iff.1 h
      have hxs : xs.map (·.1) = zs.map fun z => (DataW.lit (.string z.data.toList) : DataW H) := by
        have := congrArg Prod.fst hx
        simpa using this
      have hxl : xs.length = n := by simpa using Lib.mapM_length hm
      have hzl : zs.length = n := by
        have := congrArg List.length hxs
        simp at this
        omega
      apply List.ext_getElem?
      intro i
      by_cases hi : i < n
      · obtain ⟨b, hb, hf⟩ := Lib.mapM_at hm i i (by simp [hi])
        obtain ⟨z, hc, rfl, _⟩ := DataW.trod_string he hf
        have h1 : cs[i]? = some (.string z) := by
          have := congrArg (·[0]?) hc
          simpa [List.getElem?_take, List.getElem?_drop] using this
        have h2 : (xs.map (·.1))[i]? = some (DataW.lit (.string z.data.toList) : DataW H) := by simp [hb]
        rw [hxs] at h2
        simp only [List.getElem?_map, Option.map_eq_some_iff, DataW.lit.injEq, Lit.string.injEq] at h2
        obtain ⟨z', hz', he'⟩ := h2
        obtain rfl : z' = z := by
          apply ByteArray.ext
          exact Array.toList_inj.1 he'
        simp [h1, hz']
      · rw [List.getElem?_eq_none (by omega), List.getElem?_eq_none (by simp; omega)]
    · cases h
theorem gn : Tryz.prog.globalNamed "holloway/op.names" = some 0 := by kernel_rfl
/-- the table holds the names -/
def NamesIs (W : World) : Prop := W.var? Tryz.prog "holloway/op.names" = some (opNames.map Value.string).toArray
theorem NamesIs.mono {w w' : World} (h : NamesIs w) (hb : Below w.heap.size w w') : NamesIs w' := by
  unfold NamesIs World.var? at *
  rw [gn, Option.bind_some] at h ⊢
  have hl : 0 < w.heap.size := by
    rcases Nat.lt_or_ge 0 w.heap.size with h0 | h0
    · exact h0
    · rw [Array.getElem?_eq_none h0] at h; cases h
  rw [hb.block _ hl]; exact h
theorem NamesIs.cell {W : World} (h : NamesIs W) {k : Nat} (hk : k < 48) : W.cell? ⟨0, k, none⟩ = some (.string (nameOf k)) := by
  have := World.var?_cell gn h k
  rw [this, List.getElem?_toArray, List.getElem?_map, nameOf, List.getD_eq_getElem?_getD, List.getElem?_eq_getElem (by rw [opNames_length]; exact hk)]
  rfl
theorem vars_mem {P : Program} {W : World} : ∀ {l : List (String × DataW Unit)} {ps : List MemPlace}, DataW.LaidVars P W l ps → ∀ {n d}, (n, d) ∈ l → ∃ g t cs fuel p, P.globalNamed n = some g ∧ (P.globals[g]?).map (·.type) = some t ∧ W.var? P n = some cs ∧ DataW.trod (fun _ => ()) P W 0 (fun _ => true) false fuel t cs.toList = some (d, p)
  | [], _, _, _, _, hm => by cases hm
  | (n0, d0) :: r, ps, ⟨g, t, cs, fuel, p, q, h1, h2, h3, h4, h5, h6⟩, n, d, hm => by
    rcases List.mem_cons.1 hm with e | hm
    · obtain ⟨rfl, rfl⟩ := Prod.mk.inj e
      exact ⟨g, t, cs, fuel, p, h1, h2, h3, h4⟩
    · exact vars_mem h5 hm
abbrev laidL : List (String × DataW Unit) := [("holloway/op.names", Rows.laid_holloway_op_names)]
theorem names_of {W : World} (h : laidMetH Tryz.prog laidL W) : NamesIs W := by
  have h : laidMet Tryz.prog laidL W := h
  obtain ⟨ps, hv, _⟩ := h
  obtain ⟨g, t, cs, fuel, p, h1, h2, h3, h4⟩ := vars_mem hv (n := "holloway/op.names") (d := .agg (opNames.map fun z => .lit (.string z.data.toList))) (by rw [← show Rows.laid_holloway_op_names (H := Unit) = .agg (opNames.map fun z => .lit (.string z.data.toList)) from by kernel_rfl]; exact .head _)
  obtain rfl := Option.some.inj (gn.symm.trans h1)
  have ht : (Tryz.prog.globals[0]?).map (·.type) = some 181 := by kernel_rfl
  obtain rfl := Option.some.inj (ht.symm.trans h2)
  unfold NamesIs
  rw [h3, ← cells_of_strs Tryz.underlying181 Tryz.underlying9 (by kernel_rfl) (by kernel_rfl) h4]
def layAt (g : Nat) (cs : Array Value) (h : Array Obj) : Array Obj := h.modify g fun
  | .cells _ t frozen => .cells cs t frozen
  | o => o
noncomputable def laidWorld (os : Os) : World :=
  let w0 := World.holding Tryz.prog os ⟨#[], #[], []⟩
  { w0 with heap := layAt 0 (opNames.map Value.string).toArray w0.heap }
theorem laidWorld_met (os : Os) (args : Array Value) : laidMetH Tryz.prog laidL ((laidWorld os).forCall (fun _ _ => 0) ⟨#[], args, []⟩).memory :=
  laidMet_of_run' 8 (by kernel_rfl) (by kernel_rfl)
end Go.Proofs.YtcffbeihgchpgaaGreatDoor
/- Package op: fromStack of every number. -/
namespace Go.Proofs.YtcffbeihgchpgaaGreatDoor
open Go.RowKit
set_option linter.unusedSimpArgs false
set_option linter.unusedVariables false
set_option maxHeartbeats 16000000 in
theorem fromStack_at (k : Nat) (hk : k < 48) (w : World) : Calls Tryz.prog 159 #[.int .i64 k] w fun e w' => e = .returned (.int .i64 (movesOf k).1) ∧ w' = w := by
  rcases (by omega : k = 0 ∨ k = 1 ∨ k = 2 ∨ k = 3 ∨ k = 4 ∨ k = 5 ∨ k = 6 ∨ k = 7 ∨ k = 8 ∨ k = 9 ∨ k = 10 ∨ k = 11 ∨ k = 12 ∨ k = 13 ∨ k = 14 ∨ k = 15 ∨ k = 16 ∨ k = 17 ∨ k = 18 ∨ k = 19 ∨ k = 20 ∨ k = 21 ∨ k = 22 ∨ k = 23 ∨ k = 24 ∨ k = 25 ∨ k = 26 ∨ k = 27 ∨ k = 28 ∨ k = 29 ∨ k = 30 ∨ k = 31 ∨ k = 32 ∨ k = 33 ∨ k = 34 ∨ k = 35 ∨ k = 36 ∨ k = 37 ∨ k = 38 ∨ k = 39 ∨ k = 40 ∨ k = 41 ∨ k = 42 ∨ k = 43 ∨ k = 44 ∨ k = 45 ∨ k = 46 ∨ k = 47) with rfl | rfl | rfl | rfl | rfl | rfl | rfl | rfl | rfl | rfl | rfl | rfl | rfl | rfl | rfl | rfl | rfl | rfl | rfl | rfl | rfl | rfl | rfl | rfl | rfl | rfl | rfl | rfl | rfl | rfl | rfl | rfl | rfl | rfl | rfl | rfl | rfl | rfl | rfl | rfl | rfl | rfl | rfl | rfl | rfl | rfl | rfl | rfl
  all_goals
    go_enter Tryz.func159, Tryz.ntmps159
    go_wp2
    go_ret
    exact ⟨rfl, rfl⟩
set_option maxHeartbeats 8000000 in
theorem fromStack_out (a : Int) (ha : ¬ isOp a) (w : World) : Calls Tryz.prog 159 #[.int .i64 a] w fun e w' => e = .returned (.int .i64 0) ∧ w' = w := by
  rcases (by omega : a < 0 ∨ 48 ≤ a) with h | h
  all_goals
    clear ha
    go_enter Tryz.func159, Tryz.ntmps159
    go_wp2
    go_ret
    exact ⟨rfl, rfl⟩
theorem fromStack_any (a : Int) (w : World) : Calls Tryz.prog 159 #[.int .i64 a] w fun e w' => e = .returned (.int .i64 (movesI a).1) ∧ w' = w := by
  by_cases h : isOp a
  · obtain ⟨k, hk, rfl⟩ := nat_of_op h
    rw [show movesI (k : Int) = movesOf k by unfold movesI; rw [if_pos h]; rfl]
    exact fromStack_at k hk w
  · rw [show movesI a = (0, 0, 0, 0) by unfold movesI; rw [if_neg h]]
    exact fromStack_out a h w
end Go.Proofs.YtcffbeihgchpgaaGreatDoor
/- Package op: fromBack of every number. -/
namespace Go.Proofs.YtcffbeihgchpgaaGreatDoor
open Go.RowKit
set_option linter.unusedSimpArgs false
set_option linter.unusedVariables false
set_option maxHeartbeats 16000000 in
theorem fromBack_at (k : Nat) (hk : k < 48) (w : World) : Calls Tryz.prog 160 #[.int .i64 k] w fun e w' => e = .returned (.int .i64 (movesOf k).2.1) ∧ w' = w := by
  rcases (by omega : k = 0 ∨ k = 1 ∨ k = 2 ∨ k = 3 ∨ k = 4 ∨ k = 5 ∨ k = 6 ∨ k = 7 ∨ k = 8 ∨ k = 9 ∨ k = 10 ∨ k = 11 ∨ k = 12 ∨ k = 13 ∨ k = 14 ∨ k = 15 ∨ k = 16 ∨ k = 17 ∨ k = 18 ∨ k = 19 ∨ k = 20 ∨ k = 21 ∨ k = 22 ∨ k = 23 ∨ k = 24 ∨ k = 25 ∨ k = 26 ∨ k = 27 ∨ k = 28 ∨ k = 29 ∨ k = 30 ∨ k = 31 ∨ k = 32 ∨ k = 33 ∨ k = 34 ∨ k = 35 ∨ k = 36 ∨ k = 37 ∨ k = 38 ∨ k = 39 ∨ k = 40 ∨ k = 41 ∨ k = 42 ∨ k = 43 ∨ k = 44 ∨ k = 45 ∨ k = 46 ∨ k = 47) with rfl | rfl | rfl | rfl | rfl | rfl | rfl | rfl | rfl | rfl | rfl | rfl | rfl | rfl | rfl | rfl | rfl | rfl | rfl | rfl | rfl | rfl | rfl | rfl | rfl | rfl | rfl | rfl | rfl | rfl | rfl | rfl | rfl | rfl | rfl | rfl | rfl | rfl | rfl | rfl | rfl | rfl | rfl | rfl | rfl | rfl | rfl | rfl
  all_goals
    go_enter Tryz.func160, Tryz.ntmps160
    go_wp2
    go_ret
    exact ⟨rfl, rfl⟩
set_option maxHeartbeats 8000000 in
theorem fromBack_out (a : Int) (ha : ¬ isOp a) (w : World) : Calls Tryz.prog 160 #[.int .i64 a] w fun e w' => e = .returned (.int .i64 0) ∧ w' = w := by
  rcases (by omega : a < 0 ∨ 48 ≤ a) with h | h
  all_goals
    clear ha
    go_enter Tryz.func160, Tryz.ntmps160
    go_wp2
    go_ret
    exact ⟨rfl, rfl⟩
theorem fromBack_any (a : Int) (w : World) : Calls Tryz.prog 160 #[.int .i64 a] w fun e w' => e = .returned (.int .i64 (movesI a).2.1) ∧ w' = w := by
  by_cases h : isOp a
  · obtain ⟨k, hk, rfl⟩ := nat_of_op h
    rw [show movesI (k : Int) = movesOf k by unfold movesI; rw [if_pos h]; rfl]
    exact fromBack_at k hk w
  · rw [show movesI a = (0, 0, 0, 0) by unfold movesI; rw [if_neg h]]
    exact fromBack_out a h w
end Go.Proofs.YtcffbeihgchpgaaGreatDoor
/- Package op: toStack of every number. -/
namespace Go.Proofs.YtcffbeihgchpgaaGreatDoor
open Go.RowKit
set_option linter.unusedSimpArgs false
set_option linter.unusedVariables false
set_option maxHeartbeats 16000000 in
theorem toStack_at (k : Nat) (hk : k < 48) (w : World) : Calls Tryz.prog 173 #[.int .i64 k] w fun e w' => e = .returned (.int .i64 (movesOf k).2.2.1) ∧ w' = w := by
  rcases (by omega : k = 0 ∨ k = 1 ∨ k = 2 ∨ k = 3 ∨ k = 4 ∨ k = 5 ∨ k = 6 ∨ k = 7 ∨ k = 8 ∨ k = 9 ∨ k = 10 ∨ k = 11 ∨ k = 12 ∨ k = 13 ∨ k = 14 ∨ k = 15 ∨ k = 16 ∨ k = 17 ∨ k = 18 ∨ k = 19 ∨ k = 20 ∨ k = 21 ∨ k = 22 ∨ k = 23 ∨ k = 24 ∨ k = 25 ∨ k = 26 ∨ k = 27 ∨ k = 28 ∨ k = 29 ∨ k = 30 ∨ k = 31 ∨ k = 32 ∨ k = 33 ∨ k = 34 ∨ k = 35 ∨ k = 36 ∨ k = 37 ∨ k = 38 ∨ k = 39 ∨ k = 40 ∨ k = 41 ∨ k = 42 ∨ k = 43 ∨ k = 44 ∨ k = 45 ∨ k = 46 ∨ k = 47) with rfl | rfl | rfl | rfl | rfl | rfl | rfl | rfl | rfl | rfl | rfl | rfl | rfl | rfl | rfl | rfl | rfl | rfl | rfl | rfl | rfl | rfl | rfl | rfl | rfl | rfl | rfl | rfl | rfl | rfl | rfl | rfl | rfl | rfl | rfl | rfl | rfl | rfl | rfl | rfl | rfl | rfl | rfl | rfl | rfl | rfl | rfl | rfl
  all_goals
    go_enter Tryz.func173, Tryz.ntmps173
    go_wp2
    go_ret
    exact ⟨rfl, rfl⟩
set_option maxHeartbeats 8000000 in
theorem toStack_out (a : Int) (ha : ¬ isOp a) (w : World) : Calls Tryz.prog 173 #[.int .i64 a] w fun e w' => e = .returned (.int .i64 0) ∧ w' = w := by
  rcases (by omega : a < 0 ∨ 48 ≤ a) with h | h
  all_goals
    clear ha
    go_enter Tryz.func173, Tryz.ntmps173
    go_wp2
    go_ret
    exact ⟨rfl, rfl⟩
theorem toStack_any (a : Int) (w : World) : Calls Tryz.prog 173 #[.int .i64 a] w fun e w' => e = .returned (.int .i64 (movesI a).2.2.1) ∧ w' = w := by
  by_cases h : isOp a
  · obtain ⟨k, hk, rfl⟩ := nat_of_op h
    rw [show movesI (k : Int) = movesOf k by unfold movesI; rw [if_pos h]; rfl]
    exact toStack_at k hk w
  · rw [show movesI a = (0, 0, 0, 0) by unfold movesI; rw [if_neg h]]
    exact toStack_out a h w
end Go.Proofs.YtcffbeihgchpgaaGreatDoor
/- Package op: toBack of every number. -/
namespace Go.Proofs.YtcffbeihgchpgaaGreatDoor
open Go.RowKit
set_option linter.unusedSimpArgs false
set_option linter.unusedVariables false
set_option maxHeartbeats 16000000 in
theorem toBack_at (k : Nat) (hk : k < 48) (w : World) : Calls Tryz.prog 174 #[.int .i64 k] w fun e w' => e = .returned (.int .i64 (movesOf k).2.2.2) ∧ w' = w := by
  rcases (by omega : k = 0 ∨ k = 1 ∨ k = 2 ∨ k = 3 ∨ k = 4 ∨ k = 5 ∨ k = 6 ∨ k = 7 ∨ k = 8 ∨ k = 9 ∨ k = 10 ∨ k = 11 ∨ k = 12 ∨ k = 13 ∨ k = 14 ∨ k = 15 ∨ k = 16 ∨ k = 17 ∨ k = 18 ∨ k = 19 ∨ k = 20 ∨ k = 21 ∨ k = 22 ∨ k = 23 ∨ k = 24 ∨ k = 25 ∨ k = 26 ∨ k = 27 ∨ k = 28 ∨ k = 29 ∨ k = 30 ∨ k = 31 ∨ k = 32 ∨ k = 33 ∨ k = 34 ∨ k = 35 ∨ k = 36 ∨ k = 37 ∨ k = 38 ∨ k = 39 ∨ k = 40 ∨ k = 41 ∨ k = 42 ∨ k = 43 ∨ k = 44 ∨ k = 45 ∨ k = 46 ∨ k = 47) with rfl | rfl | rfl | rfl | rfl | rfl | rfl | rfl | rfl | rfl | rfl | rfl | rfl | rfl | rfl | rfl | rfl | rfl | rfl | rfl | rfl | rfl | rfl | rfl | rfl | rfl | rfl | rfl | rfl | rfl | rfl | rfl | rfl | rfl | rfl | rfl | rfl | rfl | rfl | rfl | rfl | rfl | rfl | rfl | rfl | rfl | rfl | rfl
  all_goals
    go_enter Tryz.func174, Tryz.ntmps174
    go_wp2
    go_ret
    exact ⟨rfl, rfl⟩
set_option maxHeartbeats 8000000 in
theorem toBack_out (a : Int) (ha : ¬ isOp a) (w : World) : Calls Tryz.prog 174 #[.int .i64 a] w fun e w' => e = .returned (.int .i64 0) ∧ w' = w := by
  rcases (by omega : a < 0 ∨ 48 ≤ a) with h | h
  all_goals
    clear ha
    go_enter Tryz.func174, Tryz.ntmps174
    go_wp2
    go_ret
    exact ⟨rfl, rfl⟩
theorem toBack_any (a : Int) (w : World) : Calls Tryz.prog 174 #[.int .i64 a] w fun e w' => e = .returned (.int .i64 (movesI a).2.2.2) ∧ w' = w := by
  by_cases h : isOp a
  · obtain ⟨k, hk, rfl⟩ := nat_of_op h
    rw [show movesI (k : Int) = movesOf k by unfold movesI; rw [if_pos h]; rfl]
    exact toBack_at k hk w
  · rw [show movesI a = (0, 0, 0, 0) by unfold movesI; rw [if_neg h]]
    exact toBack_out a h w
end Go.Proofs.YtcffbeihgchpgaaGreatDoor
/- Package op: what each of its calls answers, for every number and every text; the table of names holds them. -/
namespace Go.Proofs.YtcffbeihgchpgaaGreatDoor
open Go.RowKit
set_option linter.unusedSimpArgs false
set_option linter.unusedVariables false
theorem op_below_drewN (B : Nat) (w : World) : ∀ n, Below B w (w.drewN n)
  | 0 => Below.refl _ _
  | n + 1 => by rw [← World.drew_drewN]; exact (op_below_drewN B w n).drew
theorem opRight_same (a : Int) (w : World) : Calls Tryz.prog 106 #[.int .i64 a] w fun e w' => e = .returned (.bool (opB a)) ∧ w' = w := by
  by_cases h0 : 0 ≤ a
  · have e0 : opB a = decide (a < 48) := by simp [opB, isOp, h0]
    rw [e0]
    clear e0
    go_enter Tryz.func106, Tryz.ntmps106
    go_wp2
    go_ret
    exact ⟨rfl, rfl⟩
  · have e0 : opB a = false := by simp [opB, isOp, h0]
    rw [e0]
    clear e0
    go_enter Tryz.func106, Tryz.ntmps106
    go_wp2
    go_ret
    exact ⟨rfl, rfl⟩
theorem opRight_any (a : Int) (w : World) : Calls Tryz.prog 106 #[.int .i64 a] w (Says (.bool (opB a)) w) :=
  (opRight_same a w).mono fun e w' h => Says.of h
theorem opName_same (a : Int) (w : World) (hn : NamesIs w) : Calls Tryz.prog 138 #[.int .i64 a] w fun e w' => e = .returned (.string (nameI a)) ∧ w' = w := by
  have C := Lib.hid (opRight_same a w)
  by_cases h : isOp a
  · obtain ⟨k, hk, rfl⟩ := nat_of_op h
    rw [show opB (k : Int) = true from decide_eq_true h] at C
    rw [nameI_nat hk]
    have hc := hn.cell hk
    have e0 : (0 : Int) ≤ (k : Int) := by omega
    have e1 : (k : Int) < 48 := by omega
    go_enter Tryz.func138, Tryz.ntmps138
    go_wp2_with fail
    refine C.out.mono ?_
    rintro e wz ⟨rfl, hwz⟩
    subst wz
    go_wp2
    go_ret
    exact ⟨rfl, rfl⟩
  · rw [show opB a = false from decide_eq_false h] at C
    rw [nameI_no h]
    go_enter Tryz.func138, Tryz.ntmps138
    go_wp2_with fail
    refine C.out.mono ?_
    rintro e wz ⟨rfl, hwz⟩
    subst wz
    go_wp2
    go_ret
    exact ⟨rfl, rfl⟩
theorem opName_any (a : Int) (w : World) (hn : NamesIs w) : Calls Tryz.prog 138 #[.int .i64 a] w (Says (.string (nameI a)) w) :=
  (opName_same a w hn).mono fun e w' h => Says.of h
theorem opArg_same (a : Int) (w : World) : Calls Tryz.prog 86 #[.int .i64 a] w fun e w' => e = .returned (.bool (argI a)) ∧ w' = w := by
  by_cases h : isOp a
  · obtain ⟨k, hk, rfl⟩ := nat_of_op h
    rw [show argI (k : Int) = argOf k by unfold argI; rw [if_pos h]; rfl]
    clear h
    by_cases h2 : k = 2
    · subst h2; go_enter Tryz.func86, Tryz.ntmps86; go_wp2; go_ret; exact ⟨rfl, rfl⟩
    by_cases h3 : k = 3
    · subst h3; go_enter Tryz.func86, Tryz.ntmps86; go_wp2; go_ret; exact ⟨rfl, rfl⟩
    by_cases h4 : k = 4
    · subst h4; go_enter Tryz.func86, Tryz.ntmps86; go_wp2; go_ret; exact ⟨rfl, rfl⟩
    by_cases h37 : k = 37
    · subst h37; go_enter Tryz.func86, Tryz.ntmps86; go_wp2; go_ret; exact ⟨rfl, rfl⟩
    by_cases h38 : k = 38
    · subst h38; go_enter Tryz.func86, Tryz.ntmps86; go_wp2; go_ret; exact ⟨rfl, rfl⟩
    have e : argOf k = false := by unfold argOf; exact decide_eq_false (by omega)
    rw [e]
    have e2 : ((k : Int) == 2) = false := by simp; omega
    have e3 : ((k : Int) == 3) = false := by simp; omega
    have e4 : ((k : Int) == 4) = false := by simp; omega
    have e37 : ((k : Int) == 37) = false := by simp; omega
    have e38 : ((k : Int) == 38) = false := by simp; omega
    go_enter Tryz.func86, Tryz.ntmps86
    go_wp2
    go_ret
    exact ⟨rfl, rfl⟩
  · rw [show argI a = false by unfold argI; rw [if_neg h]]
    rcases (by omega : a < 0 ∨ 48 ≤ a) with h | h
    all_goals
      go_enter Tryz.func86, Tryz.ntmps86
      go_wp2
      go_ret
      exact ⟨rfl, rfl⟩
theorem opArg_any (a : Int) (w : World) : Calls Tryz.prog 86 #[.int .i64 a] w (Says (.bool (argI a)) w) :=
  (opArg_same a w).mono fun e w' h => Says.of h
theorem opPlain_same (a : Int) (w : World) : Calls Tryz.prog 87 #[.int .i64 a] w fun e w' => e = .returned (.bool (plainI a)) ∧ w' = w := by
  have C := Lib.hid (opRight_same a w)
  by_cases h : isOp a
  · obtain ⟨k, hk, rfl⟩ := nat_of_op h
    rw [show opB (k : Int) = true from decide_eq_true h] at C
    rw [show plainI (k : Int) = plainOf k by unfold plainI; rw [if_pos h]; rfl]
    clear h
    by_cases h2 : k = 0
    · subst h2; go_enter Tryz.func87, Tryz.ntmps87; go_wp2; go_ret; exact ⟨rfl, rfl⟩
    by_cases h3 : k = 1
    · subst h3; go_enter Tryz.func87, Tryz.ntmps87; go_wp2; go_ret; exact ⟨rfl, rfl⟩
    by_cases h4 : k = 45
    · subst h4; go_enter Tryz.func87, Tryz.ntmps87; go_wp2; go_ret; exact ⟨rfl, rfl⟩
    by_cases h37 : k = 46
    · subst h37; go_enter Tryz.func87, Tryz.ntmps87; go_wp2; go_ret; exact ⟨rfl, rfl⟩
    have e : plainOf k = true := by unfold plainOf; exact decide_eq_true (by omega)
    rw [e]
    have e2 : ((k : Int) == 0) = false := by simp; omega
    have e3 : ((k : Int) == 1) = false := by simp; omega
    have e45 : ((k : Int) == 45) = false := by simp; omega
    have e46 : ((k : Int) == 46) = false := by simp; omega
    go_enter Tryz.func87, Tryz.ntmps87
    go_wp2_with fail
    refine C.out.mono ?_
    rintro e wz ⟨rfl, hwz⟩
    subst wz
    go_wp2
    go_ret
    exact ⟨rfl, rfl⟩
  · rw [show plainI a = false by unfold plainI; rw [if_neg h]]
    rw [show opB a = false from decide_eq_false h] at C
    rcases (by omega : a < 0 ∨ 48 ≤ a) with h | h
    all_goals
      go_enter Tryz.func87, Tryz.ntmps87
      go_wp2_with fail
      refine C.out.mono ?_
      rintro e wz ⟨rfl, hwz⟩
      subst wz
      go_wp2
      go_ret
      exact ⟨rfl, rfl⟩
theorem opPlain_any (a : Int) (w : World) : Calls Tryz.prog 87 #[.int .i64 a] w (Says (.bool (plainI a)) w) :=
  (opPlain_same a w).mono fun e w' h => Says.of h
theorem opTakes_same (a : Int) (w : World) : Calls Tryz.prog 148 #[.int .i64 a] w fun e w' => e = .returned (.tuple #[.int .i64 (movesI a).1, .int .i64 (movesI a).2.1]) ∧ w' = w := by
  have C := Lib.hid (fromStack_any a w)
  have D := Lib.hid (fromBack_any a w)
  generalize movesI a = m at C D ⊢
  obtain ⟨m1, m2, m3, m4⟩ := m
  dsimp only at C D ⊢
  go_enter Tryz.func148, Tryz.ntmps148
  go_wp2_with fail
  refine C.out.mono ?_
  rintro e wz ⟨rfl, hwz⟩
  subst wz
  clear C
  go_wp2_with fail
  refine D.out.mono ?_
  rintro e wz ⟨rfl, hwz⟩
  subst wz
  go_wp2
  go_ret2
  exact ⟨rfl, rfl⟩
theorem opTakes_any (a : Int) (w : World) : Calls Tryz.prog 148 #[.int .i64 a] w (Says (.tuple #[.int .i64 (movesI a).1, .int .i64 (movesI a).2.1]) w) :=
  (opTakes_same a w).mono fun e w' h => Says.of h
theorem opGives_same (a : Int) (w : World) : Calls Tryz.prog 161 #[.int .i64 a] w fun e w' => e = .returned (.tuple #[.int .i64 (movesI a).2.2.1, .int .i64 (movesI a).2.2.2]) ∧ w' = w := by
  have C := Lib.hid (toStack_any a w)
  have D := Lib.hid (toBack_any a w)
  generalize movesI a = m at C D ⊢
  obtain ⟨m1, m2, m3, m4⟩ := m
  dsimp only at C D ⊢
  go_enter Tryz.func161, Tryz.ntmps161
  go_wp2_with fail
  refine C.out.mono ?_
  rintro e wz ⟨rfl, hwz⟩
  subst wz
  clear C
  go_wp2_with fail
  refine D.out.mono ?_
  rintro e wz ⟨rfl, hwz⟩
  subst wz
  go_wp2
  go_ret2
  exact ⟨rfl, rfl⟩
theorem opGives_any (a : Int) (w : World) : Calls Tryz.prog 161 #[.int .i64 a] w (Says (.tuple #[.int .i64 (movesI a).2.2.1, .int .i64 (movesI a).2.2.2]) w) :=
  (opGives_same a w).mono fun e w' h => Says.of h
/-- is a text that name, of which the letters are great? -/
def namedB (s t : ByteArray) : Bool := decide (s.data.toList.map Lib.upperB = t.data.toList)
theorem namedB_size {s t : ByteArray} (h : s.size ≠ t.size) : namedB s t = false := by
  unfold namedB
  refine decide_eq_false fun e => h ?_
  have := congrArg List.length e
  rw [List.length_map, bytes_len, bytes_len] at this
  exact this
theorem byte_at (s : ByteArray) (k : Nat) (h : k < s.size) : s.data.toList[k]? = some s[k] := by
  rw [List.getElem?_eq_getElem (by rw [bytes_len]; exact h)]
  rfl
theorem take_step {s t : ByteArray} {k : Nat} (hs : k < s.size) (ht : k < t.size) : ((s.data.toList.take (k + 1)).map Lib.upperB = t.data.toList.take (k + 1)) ↔ ((s.data.toList.take k).map Lib.upperB = t.data.toList.take k ∧ Lib.upperB s[k] = t[k]) := by
  rw [List.take_add_one, List.take_add_one, byte_at s k hs, byte_at t k ht, List.map_append]
  simp only [Option.toList_some, List.map_cons, List.map_nil]
  constructor
  · intro e
    have := List.append_inj e (by simp [List.length_take, bytes_len]; omega)
    exact ⟨this.1, by simpa using this.2⟩
  · rintro ⟨e1, e2⟩
    rw [e1, e2]
theorem name_up : ∀ i : Fin 48, (bytesOf i).map Lib.upperB = bytesOf i := by decide +kernel
theorem namedB_name {s : ByteArray} {k : Nat} (hk : k < 48) : namedB s (nameOf k) = alike (nameOf k) s := by
  have h := name_up ⟨k, hk⟩
  by_cases e : s.data.toList.map Lib.upperB = (nameOf k).data.toList
  · rw [show namedB s (nameOf k) = true from decide_eq_true e, (alike_iff _ _).2 (by rw [e]; exact h)]
  · rw [show namedB s (nameOf k) = false from decide_eq_false e]
    cases h2 : alike (nameOf k) s with
    | false => rfl
    | true => exact absurd (((alike_iff _ _).1 h2).symm.trans h) e
end Go.Proofs.YtcffbeihgchpgaaGreatDoor
/- Package inner: what an operation lacks on the stacks; a word that is called. -/
namespace Go.Proofs.YtcffbeihgchpgaaGreatDoor.Inn
open Go.RowKit Book Mem Mach
set_option linter.unusedVariables false
set_option linter.unusedSimpArgs false
theorem moves_nat {k : Nat} (hk : k < 48) : movesI (k : Int) = movesOf k := by unfold movesI; rw [if_pos (isOp_nat hk)]; rfl
/-- the code of what is lacking; 0: nothing -/
def lackM (m : M) (k : Nat) : Int :=
  if (m.stack.length : Int) - (movesOf k).1 < 0 then -4
  else if (m.back.length : Int) - (movesOf k).2.1 < 0 then -6
  else if 48 < (m.stack.length : Int) - (movesOf k).1 + (movesOf k).2.2.1 then -3
  else if 48 < (m.back.length : Int) - (movesOf k).2.1 + (movesOf k).2.2.2 then -5
  else 0
set_option maxHeartbeats 8000000 in
set_option maxRecDepth 100000 in
theorem lack_any {w : World} {B q : Nat} {F : List Nat} {m : M} (h : Mk w B q F m) (k : Nat) (hk : k < 48) :
    Calls Tryz.prog 149 #[.pointer (some ⟨q, 0, none⟩), .int .i64 k] w fun e w' => e = .returned (.int .i64 (lackM m k)) ∧ ∃ n, w' = w.drewN n := by
  obtain ⟨ps, gs, pb, gb, pf, vC, vH, ch, vs, vb, vm, -, h⟩ := h
  have L1 := Lib.hid (fun wc (n : Nat) (e : wc = w.drewN n) => by rw [e]; exact len_any (h.st.touch (Stirred.drewN w n []) (fun _ _ => List.not_mem_nil)) : ∀ wc (n : Nat), wc = w.drewN n → Calls Tryz.prog 140 #[.pointer (some ⟨ps, 0, none⟩)] wc fun e w' => e = .returned (.int .i64 m.stack.length) ∧ w' = wc)
  have L2 := Lib.hid (fun wc (n : Nat) (e : wc = w.drewN n) => by rw [e]; exact len_any (h.bk.touch (Stirred.drewN w n []) (fun _ _ => List.not_mem_nil)) : ∀ wc (n : Nat), wc = w.drewN n → Calls Tryz.prog 140 #[.pointer (some ⟨pb, 0, none⟩)] wc fun e w' => e = .returned (.int .i64 m.back.length) ∧ w' = wc)
  have hs := h.st.fits
  have hb := h.bk.fits
  obtain ⟨n1, n2, n3⟩ := h.ptrs
  have hmv := movesI_in k
  have T := Lib.hid (opTakes_same k w)
  have G := Lib.hid (opGives_same k w)
  have hL : lackM m k = lackM m k := rfl
  rw [show lackM m k = (if (m.stack.length : Int) - (movesI k).1 < 0 then -4 else if (m.back.length : Int) - (movesI k).2.1 < 0 then -6 else if 48 < (m.stack.length : Int) - (movesI k).1 + (movesI k).2.2.1 then -3 else if 48 < (m.back.length : Int) - (movesI k).2.1 + (movesI k).2.2.2 then -5 else 0) by rw [moves_nat hk]; rfl]
  clear hL h
  obtain ⟨ns, hns⟩ : ∃ n, m.stack.length = n := ⟨_, rfl⟩
  obtain ⟨nb, hnb⟩ : ∃ n, m.back.length = n := ⟨_, rfl⟩
  rw [hns] at hs L1
  rw [hnb] at hb L2
  rw [hns, hnb]
  clear hns hnb hk
  generalize movesI (k : Int) = mv at *
  obtain ⟨a, b, x, y⟩ := mv
  simp only at hmv T G ⊢
  obtain ⟨ha0, ha1, hb0, hb1, hx0, hx1, hy0, hy1⟩ := hmv
  obtain ⟨r, hr⟩ : ∃ r : Int, (if (ns : Int) - a < 0 then -4 else if (nb : Int) - b < 0 then -6 else if 48 < (ns : Int) - a + x then -3 else if 48 < (nb : Int) - b + y then -5 else 0) = r := ⟨_, rfl⟩
  rw [hr]
  have HR := Lib.hid hr
  clear hr
  by_cases c1 : (ns : Int) - a < 0
  · skip
    obtain rfl : r = -4 := by rw [← HR.out, if_pos c1]
    clear HR
    go_enter Tryz.func149, Tryz.ntmps149
    go_wp2_with fail
    refine T.out.mono ?_
    rintro e wz ⟨rfl, hwz⟩
    subst wz
    go_wp2_with fail
    refine G.out.mono ?_
    rintro e wz ⟨rfl, hwz⟩
    subst wz
    go_wp2_with fail
    go_quiet ((first | (go_at_call_of 140 (Value.pointer (some (⟨ps, 0, none⟩ : Addr))); exact Calls.quiet_of_same (L1.out _ _ rfl)) | (go_at_call_of 140 (Value.pointer (some (⟨pb, 0, none⟩ : Addr))); exact Calls.quiet_of_same (L2.out _ _ rfl))))
    go_wp2
    go_ret
    exact ⟨rfl, _, rfl⟩
  · by_cases c2 : (nb : Int) - b < 0
    · skip
      obtain rfl : r = -6 := by rw [← HR.out, if_neg c1, if_pos c2]
      clear HR
      go_enter Tryz.func149, Tryz.ntmps149
      go_wp2_with fail
      refine T.out.mono ?_
      rintro e wz ⟨rfl, hwz⟩
      subst wz
      go_wp2_with fail
      refine G.out.mono ?_
      rintro e wz ⟨rfl, hwz⟩
      subst wz
      go_wp2_with fail
      go_quiet ((first | (go_at_call_of 140 (Value.pointer (some (⟨ps, 0, none⟩ : Addr))); exact Calls.quiet_of_same (L1.out _ _ rfl)) | (go_at_call_of 140 (Value.pointer (some (⟨pb, 0, none⟩ : Addr))); exact Calls.quiet_of_same (L2.out _ _ rfl))))
      go_wp2
      go_ret
      exact ⟨rfl, _, rfl⟩
    · by_cases c3 : 48 < (ns : Int) - a + x
      · skip
        obtain rfl : r = -3 := by rw [← HR.out, if_neg c1, if_neg c2, if_pos c3]
        clear HR
        go_enter Tryz.func149, Tryz.ntmps149
        go_wp2_with fail
        refine T.out.mono ?_
        rintro e wz ⟨rfl, hwz⟩
        subst wz
        go_wp2_with fail
        refine G.out.mono ?_
        rintro e wz ⟨rfl, hwz⟩
        subst wz
        go_wp2_with fail
        go_quiet ((first | (go_at_call_of 140 (Value.pointer (some (⟨ps, 0, none⟩ : Addr))); exact Calls.quiet_of_same (L1.out _ _ rfl)) | (go_at_call_of 140 (Value.pointer (some (⟨pb, 0, none⟩ : Addr))); exact Calls.quiet_of_same (L2.out _ _ rfl))))
        go_wp2
        go_ret
        exact ⟨rfl, _, rfl⟩
      · by_cases c4 : 48 < (nb : Int) - b + y
        · skip
          obtain rfl : r = -5 := by rw [← HR.out, if_neg c1, if_neg c2, if_neg c3, if_pos c4]
          clear HR
          go_enter Tryz.func149, Tryz.ntmps149
          go_wp2_with fail
          refine T.out.mono ?_
          rintro e wz ⟨rfl, hwz⟩
          subst wz
          go_wp2_with fail
          refine G.out.mono ?_
          rintro e wz ⟨rfl, hwz⟩
          subst wz
          go_wp2_with fail
          go_quiet ((first | (go_at_call_of 140 (Value.pointer (some (⟨ps, 0, none⟩ : Addr))); exact Calls.quiet_of_same (L1.out _ _ rfl)) | (go_at_call_of 140 (Value.pointer (some (⟨pb, 0, none⟩ : Addr))); exact Calls.quiet_of_same (L2.out _ _ rfl))))
          go_wp2
          go_ret
          exact ⟨rfl, _, rfl⟩
        · skip
          obtain rfl : r = 0 := by rw [← HR.out, if_neg c1, if_neg c2, if_neg c3, if_neg c4]
          clear HR
          go_enter Tryz.func149, Tryz.ntmps149
          go_wp2_with fail
          refine T.out.mono ?_
          rintro e wz ⟨rfl, hwz⟩
          subst wz
          go_wp2_with fail
          refine G.out.mono ?_
          rintro e wz ⟨rfl, hwz⟩
          subst wz
          go_wp2_with fail
          go_quiet ((first | (go_at_call_of 140 (Value.pointer (some (⟨ps, 0, none⟩ : Addr))); exact Calls.quiet_of_same (L1.out _ _ rfl)) | (go_at_call_of 140 (Value.pointer (some (⟨pb, 0, none⟩ : Addr))); exact Calls.quiet_of_same (L2.out _ _ rfl))))
          go_wp2
          go_ret
          exact ⟨rfl, _, rfl⟩
end Go.Proofs.YtcffbeihgchpgaaGreatDoor.Inn
/- Package inner: an operation: what it takes is looked at ahead, and goes when nothing can stand in its way. -/
namespace Go.Proofs.YtcffbeihgchpgaaGreatDoor.Inn
open Go.RowKit Book Mem Mach
set_option linter.unusedVariables false
set_option linter.unusedSimpArgs false
/-- a machine went on, or can't go on: then what a fault makes of it is mE -/
def Gone (w : World) (B q : Nat) (F D : List Nat) (at' : Int) (mE : M) (e : Ending) (w' : World) : Prop :=
  (∃ F', e = .returned .nilIface ∧ Mk w' B q F' mE ∧ Stirred w w' D ∧ ∀ f ∈ F', f ∈ F ∨ w.heap.size ≤ f) ∨
  ∃ F' m1 c, e = .returned (faultV c at') ∧ (c == 0) = false ∧ Cell.In m1.handler ∧ mE = Mach.fault m1 c ∧ Mk w' B q F' m1 ∧ Stirred w w' D ∧ ∀ f ∈ F', f ∈ F ∨ w.heap.size ≤ f
section
variable {w : World} {B q ps gs pb gb pf : Nat} {vC vH : Value} {ch : List Int} {vs vb vm : Value} {m : M} {xb : Nat} {g nx : Int}
abbrev new8 (k g at' nx : Int) : Array Value := cells8 k g at' nx (.slice none 0 0) (.slice none 0 0) (.slice none 0 0) (.slice none 0 0)
set_option maxHeartbeats 8000000 in
set_option maxRecDepth 100000 in
theorem operate_lack (h : Mc w B q ps gs pb gb pf vC vH ch vs vb vm m) (k : Nat) (hk : k < 48) (hx : w.heap[xb]? = some (.cells (new8 k g m.ip nx) 163 (0, 0))) (hc : Cells m) (hl : lackM m k ≠ 0) :
    Calls Tryz.prog 137 #[.pointer (some ⟨q, 0, none⟩), .pointer (some ⟨xb, 0, none⟩)] w (Gone w B q (feet q ps gs pb gb pf vC vH) (xb :: feet q ps gs pb gb pf vC vH) m.ip (Mach.fault m (lackM m k))) := by
  have HH := Lib.hid h
  have HC := Lib.hid hc.handler
  have T := Lib.hid (opTakes_same k w)
  have L := Lib.hid (lack_any h.mach k hk)
  have c0 : w.cell? ⟨xb, 0, none⟩ = some (.int .i64 (k : Int)) := whole_cell hx rfl
  have X := Lib.hid (fun n => xfault_some ((Stirred.drewN w n []).whole hx List.not_mem_nil) (lackM m k) (by simpa using hl))
  have hl' : (lackM m k != 0) = true := by simpa using hl
  have HL := Lib.hid (show (lackM m k == 0) = false by simpa using hl)
  generalize lackM m k = c at *
  clear h hc hx hl
  go_enter Tryz.func137, Tryz.ntmps137
  go_wp2_with fail
  refine T.out.mono ?_
  rintro e wz ⟨rfl, hwz⟩
  subst wz
  go_wp2_with fail
  refine L.out.mono ?_
  rintro e wz ⟨rfl, n, hq⟩
  subst hq
  go_wp2_with fail
  refine (X.out n).mono ?_
  rintro e wz ⟨rfl, hwz⟩
  subst wz
  go_wp2
  go_ret
  exact .inr ⟨_, m, c, rfl, HL.out, HC.out, rfl, (HH.out.touch (Stirred.drewN w n []) (fun _ _ => List.not_mem_nil)).mach, Stirred.drewN w n _, fun f hf => .inl hf⟩
end
end Go.Proofs.YtcffbeihgchpgaaGreatDoor.Inn
