/- One of the layings of the program at the shelf (the kit's own print, one of its declarations). -/
import Derived.Shelf.Strings.Builder1
import Derived.Shelf.Small.Utf8
import Derived.Shelf.Strings.BuilderF
import Derived.Shelf.Strings.BuilderK
import Derived.Shelf.Strconv.Itoa0
import Derived.Shelf.Strconv.Itoa1
import Derived.Shelf.LaysM
import Derived.Shelf.Strconv.Itoa2
import Derived.Shelf.Strconv.Itoa3
import Derived.Shelf.Strconv.Itoa4
import Derived.Shelf.Unicode.Latin
import Derived.Shelf.Unicode.DecodeSlow
import Derived.Shelf.Unicode.CaseLookup
import Derived.Shelf.Unicode.CaseConvert
import Derived.Shelf.Unicode.CaseTo
import Derived.Shelf.Unicode.CaseLaid
import Derived.Ground.Names2Prog
import Derived.Shelf.Slices.Clone
import Derived.Test.YtpecingkoodmfaaGreatDoorProg
import Derived.Test.YtpecingkoodmfaaGreatDoorS24
import Derived.LaidLaws
import Derived.LaidHandle
import Derived.Lib.LaidTab
import Derived.Lib.LaidIn
import Derived.Lib.LaidCaseMet
import Derived.PinnedBridge
import Derived.ChangeVars
import Derived.Handed
import Derived.Deep.DeepWitnessRef
import Derived.Test.YtpecingkoodmfaaGreatDoorS8
import Derived.Test.YtpecingkoodmfaaGreatDoorS10
import Derived.Deep.Slices
import Derived.ProofKit
import Derived.ChangeSlices
namespace Go.Proofs
open Go.Shelf
def Tryz.lays262_ren : Go.Shelf.Ren := ⟨fun | 262 => 161 | 313 => 166 | 274 => 168 | 275 => 169 | n => n, fun | 3 => 3 | 21 => 21 | 162 => 175 | 203 => 173 | 4 => 4 | 160 => 180 | 46 => 135 | 0 => 0 | 208 => 186 | 51 => 144 | 206 => 184 | n => n, fun | 13 => 4 | n => n⟩
theorem Tryz.lays262 : Go.Proofs.Lays.n262 Tryz.prog Tryz.lays262_ren := {
  mixed := by kernel_rfl
  f262 := Tryz.func161.trans (congrArg some (by kernel_rfl))
  f274 := Tryz.func168.trans (congrArg some (by kernel_rfl))
  f275 := Tryz.func169.trans (congrArg some (by kernel_rfl))
  f313 := Tryz.func166.trans (congrArg some (by kernel_rfl))
  t0 := Tryz.underlying0
  a0 := Tryz.isAgg0
  z0 := Tryz.sizeOf0
  v0 := Tryz.zeroValue0
  t3 := Tryz.underlying3
  a3 := Tryz.isAgg3
  z3 := Tryz.sizeOf3
  v3 := Tryz.zeroValue3
  t4 := Tryz.underlying4
  a4 := Tryz.isAgg4
  z4 := Tryz.sizeOf4
  v4 := Tryz.zeroValue4
  t21 := Tryz.underlying21
  a21 := Tryz.isAgg21
  z21 := Tryz.sizeOf21
  v21 := Tryz.zeroValue21
  t46 := Tryz.underlying135
  a46 := Tryz.isAgg135
  z46 := Tryz.sizeOf135
  v46 := Tryz.zeroValue135
  t51 := Tryz.underlying144
  a51 := Tryz.isAgg144
  z51 := Tryz.sizeOf144
  v51 := Tryz.zeroValue144
  t160 := Tryz.underlying180
  a160 := Tryz.isAgg180
  z160 := Tryz.sizeOf180
  v160 := Tryz.zeroValue180
  t162 := Tryz.underlying175
  a162 := Tryz.isAgg175
  z162 := Tryz.sizeOf175
  v162 := Tryz.zeroValue175
  t203 := Tryz.underlying173
  a203 := Tryz.isAgg173
  z203 := Tryz.sizeOf173
  v203 := Tryz.zeroValue173
  t206 := Tryz.underlying184
  a206 := Tryz.isAgg184
  z206 := Tryz.sizeOf184
  v206 := Tryz.zeroValue184
  t208 := Tryz.underlying186
  a208 := Tryz.isAgg186
  z208 := Tryz.sizeOf186
  v208 := Tryz.zeroValue186
  g13 := by kernel_rfl }
end Go.Proofs
/- The tables that stage 3's rows list: what they hold, and a world in which they are laid. -/
namespace Go.Proofs.YtpecingkoodmfaaGreatDoor
open Go.RowKit Go.Lib Go.Shelf
set_option linter.unusedVariables false
set_option linter.unusedSimpArgs false
section
variable {H : Type} {enc : TypeId × Value → H}
/-- a world that fits, in which listed variables may hold addresses -/
theorem witness_ref {C : Checked} {os : Os} {f : FuncId} {fn : Func} {s : ChangeSpec} {conds : List PathCond} {apart : Bool} {X : World → Array Value → Prop} (modest : Bool) (w0 : World) (args : Array Value) (fuel : Nat) (hos : w0.os = os)
    (hv : (w0.forCall (fun _ _ => 0) ⟨#[], args, []⟩).variablesRefB C.prog = true)
    (hr : ((w0.forCall (fun _ _ => 0) ⟨#[], args, []⟩).heap.toList.drop C.prog.globals.size).take ((begin C.prog (fun _ _ => 0) default).world.heap.size - C.prog.globals.size) = (begin C.prog (fun _ _ => 0) default).world.heap.toList.drop C.prog.globals.size)
    (hok : Input.okWideB C.prog (w0.forCall (fun _ _ => 0) ⟨#[], args, []⟩) f ⟨#[], args, []⟩ = true)
    (hpre : s.preB enc C.prog fn conds apart (w0.forCall (fun _ _ => 0) ⟨#[], args, []⟩).memory args fuel = true)
    (hsz : s.sizedB enc C.prog fn apart (w0.forCall (fun _ _ => 0) ⟨#[], args, []⟩).memory args fuel = true)
    (hx : X (w0.forCall (fun _ _ => 0) ⟨#[], args, []⟩).memory args) :
    ∃ (w : World) (tape : Tape) (i : Input), w.os = os ∧ (w.forCall tape i).Shaped C.prog ∧ i.vars = [] ∧ Input.okWide C.prog (w.forCall tape i) .any w.heap.size f i ∧
      ((s.pre enc C.prog fn conds apart (w.forCall tape i).memory i.args ∧ X (w.forCall tape i).memory i.args) ∧ sizedMet enc C.prog fn (OpenSpec.ofChange s) apart (w.forCall tape i).memory i.args) ∧ ({ modest := modest } : Assume).holds C.prog (lone (Frame.enter C.prog f i.args .normal) [] (w.forCall tape i)) := by
  refine ⟨w0, fun _ _ => 0, ⟨#[], args, []⟩, hos, World.shaped_of_RefB hv hr, ?_, ?_, ?_, ?_⟩
  · exact (Input.okWide_of_okWideB (base := 0) hok).1
  · exact (Input.okWide_of_okWideB hok).2
  · exact ⟨⟨ChangeSpec.pre_of_preB hpre, hx⟩, sizedMet_of_sizedB hsz⟩
  · simp only [Assume.holds]
    exact ⟨by simp, by simp, fun _ => Modest.zero, by simp, by simp⟩
end
def laidL : List (String × DataW Unit) := [("math/bits.deBruijn32tab", Rows.laid_math_bits_deBruijn32tab), ("math/bits.deBruijn64tab", Rows.laid_math_bits_deBruijn64tab), ("internal/strconv.uint64pow10", Rows.laid_internal_strconv_uint64pow10), ("unicode/utf8.acceptRanges", Rows.laid_unicode_utf8_acceptRanges), ("unicode.CaseRanges", Rows.laid_unicode_CaseRanges), ("unicode/utf8.first", Rows.laid_unicode_utf8_first)]
theorem laidL_split : (laidL.filter fun x => x.2.handleName?.isSome) = [] := rfl
theorem laidMetH_iff {W : World} : laidMetH Tryz.prog laidL W = laidMet Tryz.prog laidL W := by unfold laidMetH; rw [laidL_split]
theorem vars_mem {P : Program} {W : World} : ∀ {l : List (String × DataW Unit)} {ps : List MemPlace}, DataW.LaidVars P W l ps → ∀ {n d}, (n, d) ∈ l → ∃ g t cs fuel p, P.globalNamed n = some g ∧ (P.globals[g]?).map (·.type) = some t ∧ W.var? P n = some cs ∧ DataW.trod (fun _ => ()) P W 0 (fun _ => true) false fuel t cs.toList = some (d, p)
  | [], _, _, _, _, hm => by cases hm
  | (n0, d0) :: r, ps, ⟨g, t, cs, fuel, p, q, h1, h2, h3, h4, h5, h6⟩, n, d, hm => by
    rcases List.mem_cons.1 hm with e | hm
    · obtain ⟨rfl, rfl⟩ := Prod.mk.inj e
      exact ⟨g, t, cs, fuel, p, h1, h2, h3, h4⟩
    · exact vars_mem h5 hm
theorem tens_of {W : World} (h : laidMetH Tryz.prog laidL W) : Tens W := by
  rw [laidMetH_iff] at h
  obtain ⟨ps, hv, _⟩ := h
  obtain ⟨g, t, cs, fuel, p, h1, h2, h3, h4⟩ := vars_mem hv (n := "internal/strconv.uint64pow10") (d := Lib.tabData .u64 Lib.pow10Tab) (by rw [← show Rows.laid_internal_strconv_uint64pow10 (H := Unit) = Lib.tabData .u64 Lib.pow10Tab from by kernel_rfl]; exact .tail _ (.tail _ (.head _)))
  obtain rfl := Option.some.inj (Tryz.gt.symm.trans h1)
  have ht : (Tryz.prog.globals[1]?).map (·.type) = some 143 := by kernel_rfl
  obtain rfl := Option.some.inj (ht.symm.trans h2)
  unfold Tens Lib.TabIs
  rw [h3, ← Lib.cells_of_tab Tryz.underlying143 Tryz.underlying78 (by kernel_rfl) (by kernel_rfl) h4]
theorem zeros_of {W : World} (h : laidMetH Tryz.prog laidL W) : Zeros W := by
  rw [laidMetH_iff] at h
  obtain ⟨ps, hv, _⟩ := h
  obtain ⟨g, t, cs, fuel, p, h1, h2, h3, h4⟩ := vars_mem hv (n := "math/bits.deBruijn64tab") (d := Lib.tabData .u8 tz64) (by rw [← show Rows.laid_math_bits_deBruijn64tab (H := Unit) = Lib.tabData .u8 tz64 from by kernel_rfl]; exact .tail _ (.head _))
  obtain rfl := Option.some.inj (Tryz.gz.symm.trans h1)
  have ht : (Tryz.prog.globals[3]?).map (·.type) = some 168 := by kernel_rfl
  obtain rfl := Option.some.inj (ht.symm.trans h2)
  unfold Zeros Lib.TabIs
  rw [h3, ← Lib.cells_of_tab Tryz.underlying168 Tryz.underlying5 (by kernel_rfl) (by kernel_rfl) h4]
/-- what a datum of plain numbers is in cells -/
def cellsOfD {H : Type} : DataW H → Array Value
  | .agg l => (l.flatMap fun
    | .lit (.int k z) => [Value.int k z]
    | .agg r => r.filterMap fun | .lit (.int k z) => some (Value.int k z) | _ => none
    | _ => []).toArray
  | _ => #[]
def putAt (g : Nat) (cs : Array Value) (h : Array Obj) : Array Obj := h.modify g fun
  | .cells _ t frozen => .cells cs t frozen
  | o => o
noncomputable def N0 (os : Os) : Nat := (World.settled Tryz.prog os).heap.size
noncomputable def laidWorld (os : Os) : World :=
  let w0 := World.holding Tryz.prog os ⟨#[.cells Lib.caseCells5 (Tryz.lays262_ren.t 208)], #[], []⟩
  { w0 with heap := putAt 2 (cellsOfD (H := Unit) Rows.laid_math_bits_deBruijn32tab) (putAt 3 (cellsOfD (H := Unit) Rows.laid_math_bits_deBruijn64tab) (putAt 1 (cellsOfD (H := Unit) Rows.laid_internal_strconv_uint64pow10) (putAt 7 (cellsOfD (H := Unit) Rows.laid_unicode_utf8_acceptRanges) (putAt 6 (cellsOfD Rows.laid_unicode_utf8_first) (putAt 4 #[.slice (some ⟨N0 os, 0, none⟩) 336 336] w0.heap))))) }
noncomputable abbrev called (os : Os) (args : Array Value) : World := ((laidWorld os).forCall (fun _ _ => 0) ⟨#[], args, []⟩).memory
theorem laid_first (os : Os) (args : Array Value) : LaidIn Tryz.prog (called os args) [("math/bits.deBruijn32tab", Rows.laid_math_bits_deBruijn32tab), ("math/bits.deBruijn64tab", Rows.laid_math_bits_deBruijn64tab), ("internal/strconv.uint64pow10", Rows.laid_internal_strconv_uint64pow10), ("unicode/utf8.acceptRanges", Rows.laid_unicode_utf8_acceptRanges)] [2, 3, 1, 7] :=
  LaidIn.of_run _ 10 (by kernel_rfl) (by kernel_rfl) (by kernel_rfl) (by kernel_rfl)
theorem laid_last (os : Os) (args : Array Value) : LaidIn Tryz.prog (called os args) [("unicode/utf8.first", Rows.laid_unicode_utf8_first)] [6] :=
  LaidIn.of_run _ 10 (by kernel_rfl) (by kernel_rfl) (by kernel_rfl) (by kernel_rfl)
theorem case_var (os : Os) (args : Array Value) : (called os args).heap[4]? = some (.cells #[.slice (some ⟨N0 os, 0, none⟩) 336 336] (Tryz.lays262_ren.t 162) (0, 0)) := by kernel_rfl
theorem case_blk (os : Os) (args : Array Value) : (called os args).heap[N0 os]? = some (.cells Lib.caseCells5 (Tryz.lays262_ren.t 208) (0, 0)) := by kernel_rfl
theorem case_ne (os : Os) : (N0 os == 4) = false := by kernel_rfl
theorem case_extra : CaseExtra Tryz.prog Tryz.lays262_ren := ⟨by kernel_rfl, by kernel_rfl, by kernel_rfl, by kernel_rfl, by kernel_rfl, by kernel_rfl⟩
theorem case_206 : Tryz.prog.underlying (Tryz.lays262_ren.t 206) = some (.array 3 (Tryz.lays262_ren.t 21)) := by kernel_rfl
set_option maxRecDepth 100000 in
theorem laid_case (os : Os) (args : Array Value) : LaidIn Tryz.prog (called os args) [("unicode.CaseRanges", Rows.laid_unicode_CaseRanges)] [4, N0 os] := by
  have X := case_extra
  have hvar := case_var os args
  have hblk := case_blk os args
  have hne : N0 os ≠ 4 := by simpa using case_ne os
  generalize called os args = W at *
  generalize N0 os = R at *
  have hT := caseTab_of_block hblk
  have hread := case_slice_reads { Tryz.lays262 with } case_206 X hT caseA_wf (by rw [caseA_size]; unfold maxLen; omega) 0
  rw [case_rows_data, caseA_size] at hread
  have hd : Rows.laid_unicode_CaseRanges = .slice (caseT.map rowData) [] := Pinned.caseRanges_eq
  have hv : W.var? Tryz.prog "unicode.CaseRanges" = some #[.slice (some ⟨R, 0, none⟩) 336 336] := by
    have hn : Tryz.prog.globalNamed "unicode.CaseRanges" = some 4 := X.n13
    simp [World.var?, hn, hvar]
  have hrow : MemPlace.row ⟨4, 0, none⟩ (#[Value.slice (some ⟨R, 0, none⟩) 336 336] : Array Value).size ++ MemPlace.row ⟨R, 0, none⟩ (336 * 5) = ([((⟨4, 0, none⟩ : Addr), 1), (⟨R, 0, none⟩, 336 * 5)] : List (Addr × Nat)).flatMap (fun r => MemPlace.row r.1 r.2) := by simp
  rw [hd]
  have n13 : Tryz.prog.globalNamed "unicode.CaseRanges" = some 4 := X.n13
  have y13 : (Tryz.prog.globals[4]?).map (·.type) = some (Tryz.lays262_ren.t 162) := X.y13
  refine LaidIn.one _ n13 y13 hv hread ?_ ?_ ?_
  · rw [hrow]
    exact rows_nodup _ (by simp; exact fun e => hne e.symm)
  · intro b off hp
    rcases List.mem_append.1 hp with hp | hp
    · obtain ⟨i, hi, e⟩ := MemPlace.mem_row.1 hp
      cases e
      refine ⟨⟨_, _, hvar⟩, fun u v hc => ?_⟩
      obtain rfl : i = 0 := by simp at hi; omega
      rw [Lib.cell_of_heap hvar] at hc
      simp at hc
    · obtain ⟨i, hi, e⟩ := MemPlace.mem_row.1 hp
      cases e
      refine ⟨⟨_, _, hblk⟩, fun u v hc => ?_⟩
      obtain ⟨c0, c1, c2, c3, c4⟩ := hT (i / 5) (by rw [caseA_size]; omega)
      have hi5 : 0 + i = 0 + i / 5 * 5 + i % 5 := by omega
      simp only at hc
      rw [hi5] at hc
      have hm : i % 5 < 5 := Nat.mod_lt _ (by omega)
      match hk : i % 5, hm with
      | 0, _ => rw [hk, Nat.add_zero, c0] at hc; cases hc
      | 1, _ => rw [hk, c1] at hc; cases hc
      | 2, _ => rw [hk, c2] at hc; cases hc
      | 3, _ => rw [hk, c3] at hc; cases hc
      | 4, _ => rw [hk, c4] at hc; cases hc
  · intro x hx
    rw [hrow] at hx
    have := rows_block _ x hx
    simpa using this
theorem apart1 (os : Os) : (([2, 3, 1, 7] : List Nat).all fun b => !(([4, N0 os] : List Nat).contains b)) = true := by kernel_rfl
theorem apart2 (os : Os) : (([2, 3, 1, 7] ++ [4, N0 os] : List Nat).all fun b => !(([6] : List Nat).contains b)) = true := by kernel_rfl
theorem laidWorld_met (os : Os) (args : Array Value) : laidMetH Tryz.prog laidL (called os args) := by
  rw [laidMetH_iff]
  exact (((laid_first os args).append (laid_case os args) (apart1 os)).append (laid_last os args) (apart2 os)).met
end Go.Proofs.YtpecingkoodmfaaGreatDoor
/- The tables that a run leans on, as the rows list them. -/
namespace Go.Proofs.YtpecingkoodmfaaGreatDoor.Ev
theorem tabs_of {W : World} (h : laidMetH Tryz.prog laidL W) : Tabs W := ⟨zeros_of h, tens_of h⟩
end Go.Proofs.YtpecingkoodmfaaGreatDoor.Ev
/- An api.State that came in. -/
namespace Go.Proofs.YtpecingkoodmfaaGreatDoor.Mach
open Go.ChangeShapes Go.WideShapes Go.ChangeAt Go.RowKit
set_option linter.unusedVariables false
set_option linter.unusedSimpArgs false
set_option maxRecDepth 1000000 in
theorem cells_ints : Tryz.prog.cellsOf 24 = 1 := by kernel_rfl
set_option maxRecDepth 1000000 in
theorem cells_text : Tryz.prog.cellsOf 9 = 1 := by kernel_rfl
set_option maxRecDepth 1000000 in
theorem cells_state : Tryz.prog.cellsOf 50 = 10 := by kernel_rfl
theorem readsC_of_trod {H : Type} {enc : TypeId × Value → H} {W : World} {k : Nat} {u : Value} {y : DataW H × List MemPlace} (h : DataW.trod enc Tryz.prog W 0 (fun _ => true) true k 24 [u] = some y) : ∃ xs, ReadsC W u xs ∧ ∀ x ∈ xs, Cell.In x := by
  rcases open_ints Tryz.underlying24 Tryz.underlying3 cells_int h with ⟨hcs, hx⟩ | ⟨a, len', cap', zs, hcs, _, hl, hm, hmm, hx, hcell, hwf⟩
  · simp at hcs
    subst hcs
    exact ⟨[], ⟨⟨none, 0, rfl, fun j s h => by cases h⟩, none, 0, rfl, Nat.le_refl _⟩, fun x h => by cases h⟩
  · simp at hcs
    subst hcs
    simp only [if_true] at hmm
    refine ⟨zs.take len', ⟨⟨some a, cap', by rw [List.length_take, Nat.min_eq_left (by omega)], fun j x h => ⟨a, rfl, ?_⟩⟩, some a, cap', by rw [List.length_take, Nat.min_eq_left (by omega)], by rw [List.length_take]; omega⟩, fun x hx => ?_⟩
    · have hj := (List.getElem?_eq_some_iff.1 h).1
      rw [List.length_take] at hj
      rw [List.getElem?_take, if_pos (by omega)] at h
      have := hcell j (by omega)
      rw [List.getD_eq_getElem?_getD, h] at this
      exact this
    · have := hwf x (List.mem_of_mem_take hx)
      simpa [Lit.wf, Cell.In, IntKind.min, IntKind.signed, IntKind.bits] using this
set_option maxRecDepth 100000 in
theorem stateOf {H : Type} {enc : TypeId × Value → H} {W : World} {base : Nat} {v : Value} {d : DataW H} {p : List MemPlace} (hv : Value.okWide Tryz.prog W .any base 50 v) (h : DataW.Trod enc Tryz.prog W 0 (fun _ => true) true 50 v d p) : ∃ m, ReadsM W v m ∧ Cells m ∧ m.inp.size ≤ maxLen ∧ m.out.size ≤ maxLen ∧ Cell.In m.read ∧ Cell.In m.status := by
  obtain ⟨cs, rfl, hsz⟩ := okWide_struct Tryz.underlying50 hv
  obtain ⟨fuel, hf⟩ := h
  have hsz : cs.size = 10 := hsz.trans cells_state
  obtain ⟨ys, k, _, _, _, hyl, hg⟩ := DataW.trod_struct Tryz.underlying50 hf
  match ys, hyl, cs, hsz with
  | [y0, y1, y2, y3, y4, y5, y6, y7, y8, y9], _, ⟨[c0, c1, c2, c3, c4, c5, c6, c7, c8, c9]⟩, _ =>
    have g0 : DataW.trod enc Tryz.prog W 0 (fun _ => true) true k 3 [c0] = some y0 := by have := hg 0 _ rfl; simpa [cells_int, cells_ints, cells_text, Value.cells] using this
    have g1 : DataW.trod enc Tryz.prog W 0 (fun _ => true) true k 3 [c1] = some y1 := by have := hg 1 _ rfl; simpa [cells_int, cells_ints, cells_text, Value.cells] using this
    have g2 : DataW.trod enc Tryz.prog W 0 (fun _ => true) true k 24 [c2] = some y2 := by have := hg 2 _ rfl; simpa [cells_int, cells_ints, cells_text, Value.cells] using this
    have g3 : DataW.trod enc Tryz.prog W 0 (fun _ => true) true k 24 [c3] = some y3 := by have := hg 3 _ rfl; simpa [cells_int, cells_ints, cells_text, Value.cells] using this
    have g4 : DataW.trod enc Tryz.prog W 0 (fun _ => true) true k 24 [c4] = some y4 := by have := hg 4 _ rfl; simpa [cells_int, cells_ints, cells_text, Value.cells] using this
    have g5 : DataW.trod enc Tryz.prog W 0 (fun _ => true) true k 9 [c5] = some y5 := by have := hg 5 _ rfl; simpa [cells_int, cells_ints, cells_text, Value.cells] using this
    have g6 : DataW.trod enc Tryz.prog W 0 (fun _ => true) true k 9 [c6] = some y6 := by have := hg 6 _ rfl; simpa [cells_int, cells_ints, cells_text, Value.cells] using this
    have g7 : DataW.trod enc Tryz.prog W 0 (fun _ => true) true k 3 [c7] = some y7 := by have := hg 7 _ rfl; simpa [cells_int, cells_ints, cells_text, Value.cells] using this
    have g8 : DataW.trod enc Tryz.prog W 0 (fun _ => true) true k 3 [c8] = some y8 := by have := hg 8 _ rfl; simpa [cells_int, cells_ints, cells_text, Value.cells] using this
    have g9 : DataW.trod enc Tryz.prog W 0 (fun _ => true) true k 3 [c9] = some y9 := by have := hg 9 _ rfl; simpa [cells_int, cells_ints, cells_text, Value.cells] using this
    obtain ⟨z0, e0, _, f0⟩ := DataW.trod_int Tryz.underlying3 g0
    obtain ⟨z1, e1, _, f1⟩ := DataW.trod_int Tryz.underlying3 g1
    obtain ⟨z7, e7, _, f7⟩ := DataW.trod_int Tryz.underlying3 g7
    obtain ⟨z8, e8, _, f8⟩ := DataW.trod_int Tryz.underlying3 g8
    obtain ⟨z9, e9, _, f9⟩ := DataW.trod_int Tryz.underlying3 g9
    obtain ⟨x2, r2, n2⟩ := readsC_of_trod g2
    obtain ⟨x3, r3, n3⟩ := readsC_of_trod g3
    obtain ⟨x4, r4, n4⟩ := readsC_of_trod g4
    obtain ⟨s5, e5, _, f5⟩ := DataW.trod_string Tryz.underlying9 g5
    obtain ⟨s6, e6, _, f6⟩ := DataW.trod_string Tryz.underlying9 g6
    simp at e0 e1 e5 e6 e7 e8 e9
    subst e0; subst e1; subst e5; subst e6; subst e7; subst e8; subst e9
    have inn : ∀ {z : Int}, (Lit.int .i64 z).wf = true → Cell.In z := fun h => by simpa [Lit.wf, Cell.In, IntKind.min, IntKind.signed, IntKind.bits] using h
    exact ⟨⟨z0, z1, x2, x3, x4, s5, s6, z7, z8, z9⟩, ⟨c2, c3, c4, rfl, r2, r3, r4⟩, ⟨inn f0, inn f1, n2, n3, n4, inn f9⟩, f6, f5, inn f7, inn f8⟩
end Go.Proofs.YtpecingkoodmfaaGreatDoor.Mach
