
/- The tables that stage 14's rows list: what they hold, that they stay, and a world in which they are laid; the name of an instruction, a number's digits. -/
import Derived.Test.YtpecingkoodmfaaGreatDoorIrWalks
import Derived.Test.YtpecingkoodmfaaGreatDoorShelf
import Derived.Lib.ItoaNum
import Derived.Below
import Derived.LaidLaws
import Derived.LaidHandle
import Derived.Lib.LaidTab
import Derived.ChangeVars
import Derived.ChangeArms
import Derived.Stop.Joined
namespace Go.Proofs.YtpecingkoodmfaaGreatDoor.Ir
open Go.RowKit Book Mem
set_option linter.unusedVariables false
set_option linter.unusedSimpArgs false
/-- the instructions' names, by their numbers -/
def irNames : List ByteArray := [⟨#[]⟩, ⟨#[99, 111, 110, 115, 116]⟩, ⟨#[115, 108, 111, 116]⟩, ⟨#[98, 101, 104, 105, 110, 100]⟩, ⟨#[99, 97, 108, 99]⟩, ⟨#[108, 111, 97, 100]⟩, ⟨#[112, 117, 116]⟩, ⟨#[109, 117, 115, 116]⟩, ⟨#[109, 117, 115, 116, 110, 111, 116]⟩, ⟨#[115, 97, 109, 101]⟩, ⟨#[115, 97, 121]⟩, ⟨#[116, 101, 108, 108]⟩, ⟨#[97, 115, 107]⟩]
def nameI (op : Int) : ByteArray := if 0 ≤ op ∧ op ≤ 12 then irNames.getD op.toNat ⟨#[]⟩ else ⟨#[]⟩
/-- an array of strings that reads as these holds them, cell for cell -/
theorem cells_of_strs {H : Type} {enc : TypeId × Value → H} {P : Program} {w : World} {base : Nat} {sp : Nat → Bool} {held : Bool} {fuel : Nat} {t e : TypeId} {n : Nat} {cs : List Value} {zs : List ByteArray} {p : List MemPlace}
    (ht : P.underlying t = some (.array n e)) (he : P.underlying e = some .string) (hce : P.cellsOf e = 1) (hct : P.cellsOf t = n)
    (h : DataW.trod enc P w base sp held fuel t cs = some (.agg (zs.map fun z => .lit (.string z.data.toList)), p)) : cs = zs.map Value.string := by
  cases fuel with
  | zero => simp [DataW.trod] at h
  | succ fuel =>
    simp only [DataW.trod, ht, hce, hct, Nat.mul_one] at h
    split at h
    · rename_i hl
      obtain ⟨xs, hm, hx⟩ := Option.map_eq_some_iff.1 h
      have hxs : xs.map (·.1) = zs.map fun z => (DataW.lit (.string z.data.toList) : DataW H) := by
        have := congrArg Prod.fst hx
        simpa using this
      have hxl : xs.length = n := by simpa using Lib.mapM_length hm
      have hzl : zs.length = n := by
        have := congrArg List.length hxs
        simp at this
        omega
      apply List.ext_getElem?
      intro i
      by_cases hi : i < n
      · obtain ⟨b, hb, hf⟩ := Lib.mapM_at hm i i (by simp [hi])
        obtain ⟨z, hc, rfl, _⟩ := DataW.trod_string he hf
        have h1 : cs[i]? = some (.string z) := by
          have := congrArg (·[0]?) hc
          simpa [List.getElem?_take, List.getElem?_drop] using this
        have h2 : (xs.map (·.1))[i]? = some (DataW.lit (.string z.data.toList) : DataW H) := by simp [hb]
        rw [hxs] at h2
        simp only [List.getElem?_map, Option.map_eq_some_iff, DataW.lit.injEq, Lit.string.injEq] at h2
        obtain ⟨z', hz', he'⟩ := h2
        obtain rfl : z' = z := by
          apply ByteArray.ext
          exact Array.toList_inj.1 he'
        simp [h1, hz']
      · rw [List.getElem?_eq_none (by omega), List.getElem?_eq_none (by simp; omega)]
    · cases h
theorem gn : Tryz.prog.globalNamed "holloway/ir.names" = some 0 := by kernel_rfl
theorem gp : Tryz.prog.globalNamed "internal/strconv.uint64pow10" = some 1 := by kernel_rfl
/-- the table holds the names; the table of powers of ten -/
def NamesI (W : World) : Prop := W.var? Tryz.prog "holloway/ir.names" = some (irNames.map Value.string).toArray
def Tens (w : World) : Prop := Lib.TabIs Tryz.prog w "internal/strconv.uint64pow10" .u64 Lib.pow10Tab
theorem NamesI.mono {w w' : World} (h : NamesI w) (hb : Below w.heap.size w w') : NamesI w' := by
  unfold NamesI World.var? at *
  rw [gn, Option.bind_some] at h ⊢
  have hl : 0 < w.heap.size := by
    rcases Nat.lt_or_ge 0 w.heap.size with h0 | h0
    · exact h0
    · rw [Array.getElem?_eq_none h0] at h; cases h
  rw [hb.block _ hl]; exact h
theorem Tens.mono {w w' : World} (h : Tens w) (hb : Below w.heap.size w w') : Tens w' := by
  unfold Tens Lib.TabIs World.var? at *
  rw [gp, Option.bind_some] at h ⊢
  have hl : 1 < w.heap.size := by
    rcases Nat.lt_or_ge 1 w.heap.size with h0 | h0
    · exact h0
    · rw [Array.getElem?_eq_none h0] at h; cases h
  rw [hb.block _ hl]; exact h
/-- both tables -/
structure Tabs (w : World) : Prop where
  names : NamesI w
  tens : Tens w
theorem Tabs.mono {w w' : World} (h : Tabs w) (hb : Below w.heap.size w w') : Tabs w' := ⟨h.names.mono hb, h.tens.mono hb⟩
theorem NamesI.cell {W : World} (h : NamesI W) {k : Nat} (hk : k < 13) : W.cell? ⟨0, k, none⟩ = some (.string (nameI k)) := by
  have := World.var?_cell gn h k
  rw [this, List.getElem?_toArray, List.getElem?_map, nameI, if_pos (by omega), Int.toNat_natCast, List.getD_eq_getElem?_getD, List.getElem?_eq_getElem (by show k < 13; exact hk)]
  rfl
theorem vars_mem {P : Program} {W : World} : ∀ {l : List (String × DataW Unit)} {ps : List MemPlace}, DataW.LaidVars P W l ps → ∀ {n d}, (n, d) ∈ l → ∃ g t cs fuel p, P.globalNamed n = some g ∧ (P.globals[g]?).map (·.type) = some t ∧ W.var? P n = some cs ∧ DataW.trod (fun _ => ()) P W 0 (fun _ => true) false fuel t cs.toList = some (d, p)
  | [], _, _, _, _, hm => by cases hm
  | (n0, d0) :: r, ps, ⟨g, t, cs, fuel, p, q, h1, h2, h3, h4, h5, h6⟩, n, d, hm => by
    rcases List.mem_cons.1 hm with e | hm
    · obtain ⟨rfl, rfl⟩ := Prod.mk.inj e
      exact ⟨g, t, cs, fuel, p, h1, h2, h3, h4⟩
    · exact vars_mem h5 hm
abbrev laidL : List (String × DataW Unit) := [("math/bits.deBruijn32tab", Rows.laid_math_bits_deBruijn32tab), ("math/bits.deBruijn64tab", Rows.laid_math_bits_deBruijn64tab), ("internal/strconv.uint64pow10", Rows.laid_internal_strconv_uint64pow10), ("holloway/ir.names", Rows.laid_holloway_ir_names)]
theorem tabs_of {W : World} (h : laidMetH Tryz.prog laidL W) : Tabs W := by
  have h : laidMet Tryz.prog laidL W := h
  obtain ⟨ps, hv, _⟩ := h
  constructor
  · obtain ⟨g, t, cs, fuel, p, h1, h2, h3, h4⟩ := vars_mem hv (n := "holloway/ir.names") (d := .agg (irNames.map fun z => .lit (.string z.data.toList))) (by rw [← show Rows.laid_holloway_ir_names (H := Unit) = .agg (irNames.map fun z => .lit (.string z.data.toList)) from by kernel_rfl]; exact .tail _ (.tail _ (.tail _ (.head _))))
    obtain rfl := Option.some.inj (gn.symm.trans h1)
    have ht : (Tryz.prog.globals[0]?).map (·.type) = some 105 := by kernel_rfl
    obtain rfl := Option.some.inj (ht.symm.trans h2)
    unfold NamesI
    rw [h3, ← cells_of_strs Tryz.underlying105 Tryz.underlying9 (by kernel_rfl) (by kernel_rfl) h4]
  · obtain ⟨g, t, cs, fuel, p, h1, h2, h3, h4⟩ := vars_mem hv (n := "internal/strconv.uint64pow10") (d := Lib.tabData .u64 Lib.pow10Tab) (by rw [← show Rows.laid_internal_strconv_uint64pow10 (H := Unit) = Lib.tabData .u64 Lib.pow10Tab from by kernel_rfl]; exact .tail _ (.tail _ (.head _)))
    obtain rfl := Option.some.inj (gp.symm.trans h1)
    have ht : (Tryz.prog.globals[1]?).map (·.type) = some 143 := by kernel_rfl
    obtain rfl := Option.some.inj (ht.symm.trans h2)
    unfold Tens Lib.TabIs
    rw [h3, ← Lib.cells_of_tab Tryz.underlying143 Tryz.underlying78 (by kernel_rfl) (by kernel_rfl) h4]
/-- what a datum of plain numbers is in cells -/
def cellsOfD {H : Type} : DataW H → Array Value
  | .agg l => (l.flatMap fun
    | .lit (.int k z) => [Value.int k z]
    | .agg r => r.filterMap fun | .lit (.int k z) => some (Value.int k z) | _ => none
    | _ => []).toArray
  | _ => #[]
def layAt (g : Nat) (cs : Array Value) (h : Array Obj) : Array Obj := h.modify g fun
  | .cells _ t frozen => .cells cs t frozen
  | o => o
noncomputable def laidWorld (os : Os) : World :=
  let w0 := World.holding Tryz.prog os ⟨#[], #[], []⟩
  { w0 with heap := layAt 2 (cellsOfD (H := Unit) Rows.laid_math_bits_deBruijn32tab) (layAt 3 (cellsOfD (H := Unit) Rows.laid_math_bits_deBruijn64tab) (layAt 1 (cellsOfD (H := Unit) Rows.laid_internal_strconv_uint64pow10) (layAt 0 (irNames.map Value.string).toArray w0.heap))) }
theorem laidWorld_met (os : Os) (args : Array Value) : laidMetH Tryz.prog laidL ((laidWorld os).forCall (fun _ _ => 0) ⟨#[], args, []⟩).memory :=
  laidMet_of_run' 10 (by kernel_rfl) (by kernel_rfl)
set_option maxHeartbeats 1000000 in
theorem name_any {w : World} (h : NamesI w) (op : Int) : Calls Tryz.prog 56 #[.int .i64 op] w fun e w' => e = .returned (.string (nameI op)) ∧ w' = w := by
  by_cases h0 : 0 ≤ op ∧ op ≤ 12
  · obtain ⟨k, rfl⟩ : ∃ k : Nat, op = (k : Int) := ⟨op.toNat, by omega⟩
    have hc := h.cell (k := k) (by omega)
    have C := Lib.hid (within_any (k : Int) 12 w)
    rw [within_yes h0.1 h0.2] at C
    have y0 : (0 : Int) ≤ (k : Int) := h0.1
    have y1 : (k : Int) < 13 := by omega
    obtain ⟨s, hs⟩ : ∃ s, nameI (k : Int) = s := ⟨_, rfl⟩
    rw [hs] at hc ⊢
    clear h h0 hs
    go_enter Tryz.func56, Tryz.ntmps56
    go_wp2_with fail
    refine C.out.mono ?_
    rintro e wz ⟨rfl, hwz⟩
    subst wz
    go_wp2
    go_ret
    exact ⟨rfl, rfl⟩
  · have C := Lib.hid (within_any op 12 w)
    rw [within_no h0] at C
    have HN := Lib.hid (show nameI op = ⟨#[]⟩ from if_neg h0)
    clear h h0
    go_enter Tryz.func56, Tryz.ntmps56
    go_wp2_with fail
    refine C.out.mono ?_
    rintro e wz ⟨rfl, hwz⟩
    subst wz
    go_wp2
    go_ret
    exact ⟨by rw [HN.out]; rfl, rfl⟩
abbrev strV (l : List UInt8) : Value := .string ⟨l.toArray⟩
theorem grow_below {B : Nat} (w : World) (h : B ≤ w.heap.size) (k : Nat) (os : Array Obj) : Below B w (Go.Sort.grow (w.drewN k) os) := by
  refine ⟨rfl, rfl, rfl, ?_, ?_⟩
  · show w.heap.size ≤ (w.heap ++ os).size
    simp
  · intro j hj
    show (w.heap ++ os)[j]? = w.heap[j]?
    rw [Array.getElem?_append_left (by omega)]
theorem itoa_any (n : Int) (hn : Cell.In n) {w : World} (hp : Tens w) :
    Calls Tryz.prog 57 #[.int .i64 n] w fun e w' => e = .returned (strV (Lib.itoa n)) ∧ Below w.heap.size w w' :=
  (Tryz.strconv_Itoa n hn.1 hn.2 w hp).mono fun e w' ⟨h1, k, os, h2⟩ => ⟨h1, h2 ▸ grow_below w (Nat.le_refl _) k os⟩
end Go.Proofs.YtpecingkoodmfaaGreatDoor.Ir
