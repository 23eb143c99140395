
/- The table of the words of control, a package variable: what it holds, that it stays, and a world in which it is laid. -/
import Derived.Test.YtcpdhfigaoaohaaDoorCards
import Derived.Test.YtcpdhfigaoaohaaDoorWvPlain
import Derived.LaidLaws
import Derived.LaidHandle
import Derived.Lib.LaidTab
import Derived.ChangeVars
import Derived.ChangeArms
import Derived.Stop.Joined
namespace Go.Proofs.YtcpdhfigaoaohaaDoor.Wv
open Go.RowKit
set_option linter.unusedVariables false
set_option linter.unusedSimpArgs false
/-- an array of strings that reads as these holds them, cell for cell -/
theorem cells_of_strs {H : Type} {enc : TypeId × Value → H} {P : Program} {w : World} {base : Nat} {sp : Nat → Bool} {held : Bool} {fuel : Nat} {t e : TypeId} {n : Nat} {cs : List Value} {zs : List ByteArray} {p : List MemPlace}
    (ht : P.underlying t = some (.array n e)) (he : P.underlying e = some .string) (hce : P.cellsOf e = 1) (hct : P.cellsOf t = n)
    (h : DataW.trod enc P w base sp held fuel t cs = some (.agg (zs.map fun z => .lit (.string z.data.toList)), p)) : cs = zs.map Value.string := by
  cases fuel with
  | zero => simp [DataW.trod] at h
  | succ fuel =>
    simp only [DataW.trod, ht, hce, hct, Nat.mul_one] at h
    split at h
    · rename_i hl
      obtain ⟨xs, hm, hx⟩ := Option.map_eq_some_iff.1 h
      have hxs : xs.map (·.1) = zs.map fun z => (DataW.lit (.string z.data.toList) : DataW H) := by
        have := congrArg Prod.fst hx
        simpa using this
      have hxl : xs.length = n := by simpa using Lib.mapM_length hm
      have hzl : zs.length = n := by
        have := congrArg List.length hxs
        simp at this
        omega
      apply List.ext_getElem?
      intro i
      by_cases hi : i < n
      · obtain ⟨b, hb, hf⟩ := Lib.mapM_at hm i i (by simp [hi])
        obtain ⟨z, hc, rfl, _⟩ := DataW.trod_string he hf
        have h1 : cs[i]? = some (.string z) := by
          have := congrArg (·[0]?) hc
          simpa [List.getElem?_take, List.getElem?_drop] using this
        have h2 : (xs.map (·.1))[i]? = some (DataW.lit (.string z.data.toList) : DataW H) := by simp [hb]
        rw [hxs] at h2
        simp only [List.getElem?_map, Option.map_eq_some_iff, DataW.lit.injEq, Lit.string.injEq] at h2
        obtain ⟨z', hz', he'⟩ := h2
        obtain rfl : z' = z := by
          apply ByteArray.ext
          exact Array.toList_inj.1 he'
        simp [h1, hz']
      · rw [List.getElem?_eq_none (by omega), List.getElem?_eq_none (by simp; omega)]
    · cases h
/-- the words of control -/
def wvNames : List ByteArray := [⟨#[73, 70]⟩, ⟨#[69, 76, 83, 69]⟩, ⟨#[84, 72, 69, 78]⟩, ⟨#[66, 69, 71, 73, 78]⟩, ⟨#[85, 78, 84, 73, 76]⟩, ⟨#[65, 71, 65, 73, 78]⟩, ⟨#[87, 72, 73, 76, 69]⟩, ⟨#[82, 69, 80, 69, 65, 84]⟩, ⟨#[68, 79]⟩, ⟨#[76, 79, 79, 80]⟩, ⟨#[43, 76, 79, 79, 80]⟩]
theorem wvNames_length : wvNames.length = 11 := rfl
def wvName (k : Nat) : ByteArray := wvNames.getD k ⟨#[]⟩
theorem gn : Tryd.prog.globalNamed "holloway/weave.names" = some 0 := by kernel_rfl
/-- the table holds the names -/
def NamesIs (W : World) : Prop := W.var? Tryd.prog "holloway/weave.names" = some (wvNames.map Value.string).toArray
theorem NamesIs.mono {w w' : World} (h : NamesIs w) (hb : Below w.heap.size w w') : NamesIs w' := by
  unfold NamesIs World.var? at *
  rw [gn, Option.bind_some] at h ⊢
  have hl : 0 < w.heap.size := by
    rcases Nat.lt_or_ge 0 w.heap.size with h0 | h0
    · exact h0
    · rw [Array.getElem?_eq_none h0] at h; cases h
  rw [hb.block _ hl]; exact h
theorem NamesIs.cell {W : World} (h : NamesIs W) {k : Nat} (hk : k < 11) : W.cell? ⟨0, k, none⟩ = some (.string (wvName k)) := by
  have := World.var?_cell gn h k
  rw [this, List.getElem?_toArray, List.getElem?_map, wvName, List.getD_eq_getElem?_getD, List.getElem?_eq_getElem (by rw [wvNames_length]; exact hk)]
  rfl
theorem vars_mem {P : Program} {W : World} : ∀ {l : List (String × DataW Unit)} {ps : List MemPlace}, DataW.LaidVars P W l ps → ∀ {n d}, (n, d) ∈ l → ∃ g t cs fuel p, P.globalNamed n = some g ∧ (P.globals[g]?).map (·.type) = some t ∧ W.var? P n = some cs ∧ DataW.trod (fun _ => ()) P W 0 (fun _ => true) false fuel t cs.toList = some (d, p)
  | [], _, _, _, _, hm => by cases hm
  | (n0, d0) :: r, ps, ⟨g, t, cs, fuel, p, q, h1, h2, h3, h4, h5, h6⟩, n, d, hm => by
    rcases List.mem_cons.1 hm with e | hm
    · obtain ⟨rfl, rfl⟩ := Prod.mk.inj e
      exact ⟨g, t, cs, fuel, p, h1, h2, h3, h4⟩
    · exact vars_mem h5 hm
abbrev laidL : List (String × DataW Unit) := [("holloway/weave.names", Rows.laid_holloway_weave_names)]
theorem names_of {W : World} (h : laidMetH Tryd.prog laidL W) : NamesIs W := by
  have h : laidMet Tryd.prog laidL W := h
  obtain ⟨ps, hv, _⟩ := h
  obtain ⟨g, t, cs, fuel, p, h1, h2, h3, h4⟩ := vars_mem hv (n := "holloway/weave.names") (d := .agg (wvNames.map fun z => .lit (.string z.data.toList))) (by rw [← show Rows.laid_holloway_weave_names (H := Unit) = .agg (wvNames.map fun z => .lit (.string z.data.toList)) from by kernel_rfl]; exact .head _)
  obtain rfl := Option.some.inj (gn.symm.trans h1)
  have ht : (Tryd.prog.globals[0]?).map (·.type) = some 77 := by kernel_rfl
  obtain rfl := Option.some.inj (ht.symm.trans h2)
  unfold NamesIs
  rw [h3, ← cells_of_strs Tryd.underlying77 Tryd.underlying9 (by kernel_rfl) (by kernel_rfl) h4]
def layAt (g : Nat) (cs : Array Value) (h : Array Obj) : Array Obj := h.modify g fun
  | .cells _ t frozen => .cells cs t frozen
  | o => o
noncomputable def laidWorld (os : Os) : World :=
  let w0 := World.holding Tryd.prog os ⟨#[], #[], []⟩
  { w0 with heap := layAt 0 (wvNames.map Value.string).toArray w0.heap }
theorem laidWorld_met (os : Os) (args : Array Value) : laidMetH Tryd.prog laidL ((laidWorld os).forCall (fun _ _ => 0) ⟨#[], args, []⟩).memory :=
  laidMet_of_run' 8 (by kernel_rfl) (by kernel_rfl)
/-- which word of control a text is, less one -/
def wvOf (s : ByteArray) : Option Nat := (List.range 11).find? fun k => alike s (wvName k)
theorem wvName_size (k : Nat) (hk : k < 11) : (wvName k).size ≤ 6 := by
  have : ∀ k : Fin 11, (wvName k).size ≤ 6 := by decide
  exact this ⟨k, hk⟩
theorem wv_up (k : Nat) (hk : k < 11) : (wvName k).data.toList.map Lib.upperB = (wvName k).data.toList := by
  have : ∀ k : Fin 11, (wvName k).data.toList.map Lib.upperB = (wvName k).data.toList := by decide +kernel
  exact this ⟨k, hk⟩
theorem alike_up {s t : ByteArray} (h : t.data.toList.map Lib.upperB = t.data.toList) : alike s t = decide (up s = t) := by
  by_cases e : up s = t
  · rw [decide_eq_true e, alike_iff, h, ← e]; rfl
  · rw [decide_eq_false e]
    cases ha : alike s t with
    | false => rfl
    | true =>
      rw [alike_iff, h] at ha
      refine absurd ?_ e
      apply ByteArray.ext
      exact Array.toList_inj.1 ha
theorem wvOf_word (s : ByteArray) : word s = match wvOf s with
    | some k => k + 1
    | none => 0 := by
  have h : ∀ k, k < 11 → alike s (wvName k) = decide (up s = wvName k) := fun k hk => alike_up (wv_up k hk)
  unfold wvOf
  rw [show List.range 11 = [0, 1, 2, 3, 4, 5, 6, 7, 8, 9, 10] from rfl]
  simp only [List.find?_cons, List.find?_nil, h 0 (by decide), h 1 (by decide), h 2 (by decide), h 3 (by decide), h 4 (by decide), h 5 (by decide), h 6 (by decide), h 7 (by decide), h 8 (by decide), h 9 (by decide), h 10 (by decide)]
  unfold word
  simp only [show wvName 0 = ⟨#[73, 70]⟩ from rfl, show wvName 1 = ⟨#[69, 76, 83, 69]⟩ from rfl, show wvName 2 = ⟨#[84, 72, 69, 78]⟩ from rfl, show wvName 3 = ⟨#[66, 69, 71, 73, 78]⟩ from rfl, show wvName 4 = ⟨#[85, 78, 84, 73, 76]⟩ from rfl, show wvName 5 = ⟨#[65, 71, 65, 73, 78]⟩ from rfl, show wvName 6 = ⟨#[87, 72, 73, 76, 69]⟩ from rfl, show wvName 7 = ⟨#[82, 69, 80, 69, 65, 84]⟩ from rfl, show wvName 8 = ⟨#[68, 79]⟩ from rfl, show wvName 9 = ⟨#[76, 79, 79, 80]⟩ from rfl, show wvName 10 = ⟨#[43, 76, 79, 79, 80]⟩ from rfl]
  by_cases c0 : up s = ⟨#[73, 70]⟩
  · rw [if_pos c0, decide_eq_true c0]
  rw [if_neg c0, decide_eq_false c0]
  by_cases c1 : up s = ⟨#[69, 76, 83, 69]⟩
  · rw [if_pos c1, decide_eq_true c1]
  rw [if_neg c1, decide_eq_false c1]
  by_cases c2 : up s = ⟨#[84, 72, 69, 78]⟩
  · rw [if_pos c2, decide_eq_true c2]
  rw [if_neg c2, decide_eq_false c2]
  by_cases c3 : up s = ⟨#[66, 69, 71, 73, 78]⟩
  · rw [if_pos c3, decide_eq_true c3]
  rw [if_neg c3, decide_eq_false c3]
  by_cases c4 : up s = ⟨#[85, 78, 84, 73, 76]⟩
  · rw [if_pos c4, decide_eq_true c4]
  rw [if_neg c4, decide_eq_false c4]
  by_cases c5 : up s = ⟨#[65, 71, 65, 73, 78]⟩
  · rw [if_pos c5, decide_eq_true c5]
  rw [if_neg c5, decide_eq_false c5]
  by_cases c6 : up s = ⟨#[87, 72, 73, 76, 69]⟩
  · rw [if_pos c6, decide_eq_true c6]
  rw [if_neg c6, decide_eq_false c6]
  by_cases c7 : up s = ⟨#[82, 69, 80, 69, 65, 84]⟩
  · rw [if_pos c7, decide_eq_true c7]
  rw [if_neg c7, decide_eq_false c7]
  by_cases c8 : up s = ⟨#[68, 79]⟩
  · rw [if_pos c8, decide_eq_true c8]
  rw [if_neg c8, decide_eq_false c8]
  by_cases c9 : up s = ⟨#[76, 79, 79, 80]⟩
  · rw [if_pos c9, decide_eq_true c9]
  rw [if_neg c9, decide_eq_false c9]
  by_cases c10 : up s = ⟨#[43, 76, 79, 79, 80]⟩
  · rw [if_pos c10, decide_eq_true c10]
  rw [if_neg c10, decide_eq_false c10]
end Go.Proofs.YtcpdhfigaoaohaaDoor.Wv
