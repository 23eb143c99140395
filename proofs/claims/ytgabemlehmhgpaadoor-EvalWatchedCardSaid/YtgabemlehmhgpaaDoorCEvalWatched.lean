/- What is proved: hollowaylaw15.EvalWatched answers true for every input, and its arguments read afterwards as before; the listed package variables start as the program's text lays them (the card ties them). -/
import Derived.Test.YtgabemlehmhgpaaDoorDigPut
import Derived.LaidLaws
import Derived.LaidHandle
import Derived.Lib.LaidTab
import Derived.Lib.LaidIn
import Derived.Lib.LaidCaseMet
import Derived.PinnedBridge
import Derived.ChangeVars
import Derived.Handed
import Derived.Deep.DeepWitnessRef
import Derived.Test.YtgabemlehmhgpaaDoorEvPut
import Derived.Test.YtgabemlehmhgpaaDoorFaultText
import Derived.Laws.BytesArg
import Derived.Deep.RegionWith
import Derived.Test.YtgabemlehmhgpaaDoorEvPlain
import Derived.Test.YtgabemlehmhgpaaDoorMachCells
import Derived.Test.YtgabemlehmhgpaaDoorIrArg
import Derived.Test.YtgabemlehmhgpaaDoorIrMem
import Derived.Test.YtgabemlehmhgpaaDoorBookInts
import Derived.Laws.MakeOwn
import Derived.Deep.LoopGhost
import Derived.Test.YtgabemlehmhgpaaDoorSub
import Derived.Test.YtgabemlehmhgpaaDoorRefCopy
import Derived.Test.YtgabemlehmhgpaaDoorEvWalks
import Derived.Test.YtgabemlehmhgpaaDoorRefMach
import Derived.Test.YtgabemlehmhgpaaDoorEvCopy
import Derived.Deep.RegionHeld3
import Derived.IntWalk
import Derived.Laws.OwnMore
import Derived.OwnWalk
import Derived.Test.YtgabemlehmhgpaaDoorIrR0
import Derived.Deep.RegionLaw
import Derived.Deep.AppendLies
import Derived.Deep.DrawnRows
import Derived.Test.YtgabemlehmhgpaaDoorVals
import Derived.Test.YtgabemlehmhgpaaDoorBookTexts
import Derived.Test.YtgabemlehmhgpaaDoorBookPlain
import Derived.Deep.DeepCutAuto
import Derived.Test.YtgabemlehmhgpaaDoorIrRefR
import Derived.BigQuiet
import Derived.Deep.QuietTactic
import Derived.Test.YtgabemlehmhgpaaDoorRows
import Derived.Test.YtgabemlehmhgpaaDoorCards
import Derived.Test.YtgabemlehmhgpaaDoorTie
import Derived.WalkKit
import Derived.ProofKit
import Derived.OpenShut
import Derived.ChangeSame
import Derived.JoinedOf
import Derived.RowKitTokens
import Derived.Stop.Joined
import Derived.SevenTiedAt
import Derived.Carry
import Derived.Test.YtgabemlehmhgpaaDoorStateArg
/- The tables that stage 3's rows list: what they hold, and a world in which they are laid. -/
namespace Go.Proofs.YtgabemlehmhgpaaDoor
open Go.RowKit Go.Lib Go.Shelf
set_option linter.unusedVariables false
set_option linter.unusedSimpArgs false
section
variable {H : Type} {enc : TypeId × Value → H}
/-- a world that fits, in which listed variables may hold addresses -/
theorem witness_ref {C : Checked} {os : Os} {f : FuncId} {fn : Func} {s : ChangeSpec} {conds : List PathCond} {apart : Bool} {X : World → Array Value → Prop} (modest : Bool) (w0 : World) (args : Array Value) (fuel : Nat) (hos : w0.os = os)
    (hv : (w0.forCall (fun _ _ => 0) ⟨#[], args, []⟩).variablesRefB C.prog = true)
    (hr : ((w0.forCall (fun _ _ => 0) ⟨#[], args, []⟩).heap.toList.drop C.prog.globals.size).take ((begin C.prog (fun _ _ => 0) default).world.heap.size - C.prog.globals.size) = (begin C.prog (fun _ _ => 0) default).world.heap.toList.drop C.prog.globals.size)
    (hok : Input.okWideB C.prog (w0.forCall (fun _ _ => 0) ⟨#[], args, []⟩) f ⟨#[], args, []⟩ = true)
    (hpre : s.preB enc C.prog fn conds apart (w0.forCall (fun _ _ => 0) ⟨#[], args, []⟩).memory args fuel = true)
    (hsz : s.sizedB enc C.prog fn apart (w0.forCall (fun _ _ => 0) ⟨#[], args, []⟩).memory args fuel = true)
    (hx : X (w0.forCall (fun _ _ => 0) ⟨#[], args, []⟩).memory args) :
    ∃ (w : World) (tape : Tape) (i : Input), w.os = os ∧ (w.forCall tape i).Shaped C.prog ∧ i.vars = [] ∧ Input.okWide C.prog (w.forCall tape i) .any w.heap.size f i ∧
      ((s.pre enc C.prog fn conds apart (w.forCall tape i).memory i.args ∧ X (w.forCall tape i).memory i.args) ∧ sizedMet enc C.prog fn (OpenSpec.ofChange s) apart (w.forCall tape i).memory i.args) ∧ ({ modest := modest } : Assume).holds C.prog (lone (Frame.enter C.prog f i.args .normal) [] (w.forCall tape i)) := by
  refine ⟨w0, fun _ _ => 0, ⟨#[], args, []⟩, hos, World.shaped_of_RefB hv hr, ?_, ?_, ?_, ?_⟩
  · exact (Input.okWide_of_okWideB (base := 0) hok).1
  · exact (Input.okWide_of_okWideB hok).2
  · exact ⟨⟨ChangeSpec.pre_of_preB hpre, hx⟩, sizedMet_of_sizedB hsz⟩
  · simp only [Assume.holds]
    exact ⟨by simp, by simp, fun _ => Modest.zero, by simp, by simp⟩
end
def laidL : List (String × DataW Unit) := [("math/bits.deBruijn32tab", Rows.laid_math_bits_deBruijn32tab), ("math/bits.deBruijn64tab", Rows.laid_math_bits_deBruijn64tab), ("internal/strconv.uint64pow10", Rows.laid_internal_strconv_uint64pow10), ("unicode/utf8.acceptRanges", Rows.laid_unicode_utf8_acceptRanges), ("unicode.CaseRanges", Rows.laid_unicode_CaseRanges), ("unicode/utf8.first", Rows.laid_unicode_utf8_first)]
theorem laidL_split : (laidL.filter fun x => x.2.handleName?.isSome) = [] := rfl
theorem laidMetH_iff {W : World} : laidMetH Tryd.prog laidL W = laidMet Tryd.prog laidL W := by unfold laidMetH; rw [laidL_split]
theorem vars_mem {P : Program} {W : World} : ∀ {l : List (String × DataW Unit)} {ps : List MemPlace}, DataW.LaidVars P W l ps → ∀ {n d}, (n, d) ∈ l → ∃ g t cs fuel p, P.globalNamed n = some g ∧ (P.globals[g]?).map (·.type) = some t ∧ W.var? P n = some cs ∧ DataW.trod (fun _ => ()) P W 0 (fun _ => true) false fuel t cs.toList = some (d, p)
  | [], _, _, _, _, hm => by cases hm
  | (n0, d0) :: r, ps, ⟨g, t, cs, fuel, p, q, h1, h2, h3, h4, h5, h6⟩, n, d, hm => by
    rcases List.mem_cons.1 hm with e | hm
    · obtain ⟨rfl, rfl⟩ := Prod.mk.inj e
      exact ⟨g, t, cs, fuel, p, h1, h2, h3, h4⟩
    · exact vars_mem h5 hm
theorem tens_of {W : World} (h : laidMetH Tryd.prog laidL W) : Tens W := by
  rw [laidMetH_iff] at h
  obtain ⟨ps, hv, _⟩ := h
  obtain ⟨g, t, cs, fuel, p, h1, h2, h3, h4⟩ := vars_mem hv (n := "internal/strconv.uint64pow10") (d := Lib.tabData .u64 Lib.pow10Tab) (by rw [← show Rows.laid_internal_strconv_uint64pow10 (H := Unit) = Lib.tabData .u64 Lib.pow10Tab from by kernel_rfl]; exact .tail _ (.tail _ (.head _)))
  obtain rfl := Option.some.inj (Tryd.gt.symm.trans h1)
  have ht : (Tryd.prog.globals[1]?).map (·.type) = some 109 := by kernel_rfl
  obtain rfl := Option.some.inj (ht.symm.trans h2)
  unfold Tens Lib.TabIs
  rw [h3, ← Lib.cells_of_tab Tryd.underlying109 Tryd.underlying97 (by kernel_rfl) (by kernel_rfl) h4]
theorem zeros_of {W : World} (h : laidMetH Tryd.prog laidL W) : Zeros W := by
  rw [laidMetH_iff] at h
  obtain ⟨ps, hv, _⟩ := h
  obtain ⟨g, t, cs, fuel, p, h1, h2, h3, h4⟩ := vars_mem hv (n := "math/bits.deBruijn64tab") (d := Lib.tabData .u8 tz64) (by rw [← show Rows.laid_math_bits_deBruijn64tab (H := Unit) = Lib.tabData .u8 tz64 from by kernel_rfl]; exact .tail _ (.head _))
  obtain rfl := Option.some.inj (Tryd.gz.symm.trans h1)
  have ht : (Tryd.prog.globals[6]?).map (·.type) = some 126 := by kernel_rfl
  obtain rfl := Option.some.inj (ht.symm.trans h2)
  unfold Zeros Lib.TabIs
  rw [h3, ← Lib.cells_of_tab Tryd.underlying126 Tryd.underlying5 (by kernel_rfl) (by kernel_rfl) h4]
/-- what a datum of plain numbers is in cells -/
def cellsOfD {H : Type} : DataW H → Array Value
  | .agg l => (l.flatMap fun
    | .lit (.int k z) => [Value.int k z]
    | .agg r => r.filterMap fun | .lit (.int k z) => some (Value.int k z) | _ => none
    | _ => []).toArray
  | _ => #[]
def putAt (g : Nat) (cs : Array Value) (h : Array Obj) : Array Obj := h.modify g fun
  | .cells _ t frozen => .cells cs t frozen
  | o => o
noncomputable def N0 (os : Os) : Nat := (World.settled Tryd.prog os).heap.size
noncomputable def laidWorld (os : Os) : World :=
  let w0 := World.holding Tryd.prog os ⟨#[.cells Lib.caseCells5 (Tryd.lays262_ren.t 208)], #[], []⟩
  { w0 with heap := putAt 5 (cellsOfD (H := Unit) Rows.laid_math_bits_deBruijn32tab) (putAt 6 (cellsOfD (H := Unit) Rows.laid_math_bits_deBruijn64tab) (putAt 1 (cellsOfD (H := Unit) Rows.laid_internal_strconv_uint64pow10) (putAt 4 (cellsOfD (H := Unit) Rows.laid_unicode_utf8_acceptRanges) (putAt 3 (cellsOfD Rows.laid_unicode_utf8_first) (putAt 0 #[.slice (some ⟨N0 os, 0, none⟩) 336 336] w0.heap))))) }
noncomputable abbrev called (os : Os) (args : Array Value) : World := ((laidWorld os).forCall (fun _ _ => 0) ⟨#[], args, []⟩).memory
theorem laid_first (os : Os) (args : Array Value) : LaidIn Tryd.prog (called os args) [("math/bits.deBruijn32tab", Rows.laid_math_bits_deBruijn32tab), ("math/bits.deBruijn64tab", Rows.laid_math_bits_deBruijn64tab), ("internal/strconv.uint64pow10", Rows.laid_internal_strconv_uint64pow10), ("unicode/utf8.acceptRanges", Rows.laid_unicode_utf8_acceptRanges)] [5, 6, 1, 4] :=
  LaidIn.of_run _ 10 (by kernel_rfl) (by kernel_rfl) (by kernel_rfl) (by kernel_rfl)
theorem laid_last (os : Os) (args : Array Value) : LaidIn Tryd.prog (called os args) [("unicode/utf8.first", Rows.laid_unicode_utf8_first)] [3] :=
  LaidIn.of_run _ 10 (by kernel_rfl) (by kernel_rfl) (by kernel_rfl) (by kernel_rfl)
theorem case_var (os : Os) (args : Array Value) : (called os args).heap[0]? = some (.cells #[.slice (some ⟨N0 os, 0, none⟩) 336 336] (Tryd.lays262_ren.t 162) (0, 0)) := by kernel_rfl
theorem case_blk (os : Os) (args : Array Value) : (called os args).heap[N0 os]? = some (.cells Lib.caseCells5 (Tryd.lays262_ren.t 208) (0, 0)) := by kernel_rfl
theorem case_ne (os : Os) : (N0 os == 0) = false := by kernel_rfl
theorem case_extra : CaseExtra Tryd.prog Tryd.lays262_ren := ⟨by kernel_rfl, by kernel_rfl, by kernel_rfl, by kernel_rfl, by kernel_rfl, by kernel_rfl⟩
theorem case_206 : Tryd.prog.underlying (Tryd.lays262_ren.t 206) = some (.array 3 (Tryd.lays262_ren.t 21)) := by kernel_rfl
set_option maxRecDepth 100000 in
theorem laid_case (os : Os) (args : Array Value) : LaidIn Tryd.prog (called os args) [("unicode.CaseRanges", Rows.laid_unicode_CaseRanges)] [0, N0 os] := by
  have X := case_extra
  have hvar := case_var os args
  have hblk := case_blk os args
  have hne : N0 os ≠ 0 := by simpa using case_ne os
  generalize called os args = W at *
  generalize N0 os = R at *
  have hT := caseTab_of_block hblk
  have hread := case_slice_reads { Tryd.lays262 with } case_206 X hT caseA_wf (by rw [caseA_size]; unfold maxLen; omega) 0
  rw [case_rows_data, caseA_size] at hread
  have hd : Rows.laid_unicode_CaseRanges = .slice (caseT.map rowData) [] := Pinned.caseRanges_eq
  have hv : W.var? Tryd.prog "unicode.CaseRanges" = some #[.slice (some ⟨R, 0, none⟩) 336 336] := by
    have hn : Tryd.prog.globalNamed "unicode.CaseRanges" = some 0 := X.n13
    simp [World.var?, hn, hvar]
  have hrow : MemPlace.row ⟨0, 0, none⟩ (#[Value.slice (some ⟨R, 0, none⟩) 336 336] : Array Value).size ++ MemPlace.row ⟨R, 0, none⟩ (336 * 5) = ([((⟨0, 0, none⟩ : Addr), 1), (⟨R, 0, none⟩, 336 * 5)] : List (Addr × Nat)).flatMap (fun r => MemPlace.row r.1 r.2) := by simp
  rw [hd]
  have n13 : Tryd.prog.globalNamed "unicode.CaseRanges" = some 0 := X.n13
  have y13 : (Tryd.prog.globals[0]?).map (·.type) = some (Tryd.lays262_ren.t 162) := X.y13
  refine LaidIn.one _ n13 y13 hv hread ?_ ?_ ?_
  · rw [hrow]
    exact rows_nodup _ (by simp; exact fun e => hne e.symm)
  · intro b off hp
    rcases List.mem_append.1 hp with hp | hp
    · obtain ⟨i, hi, e⟩ := MemPlace.mem_row.1 hp
      cases e
      refine ⟨⟨_, _, hvar⟩, fun u v hc => ?_⟩
      obtain rfl : i = 0 := by simp at hi; omega
      rw [Lib.cell_of_heap hvar] at hc
      simp at hc
    · obtain ⟨i, hi, e⟩ := MemPlace.mem_row.1 hp
      cases e
      refine ⟨⟨_, _, hblk⟩, fun u v hc => ?_⟩
      obtain ⟨c0, c1, c2, c3, c4⟩ := hT (i / 5) (by rw [caseA_size]; omega)
      have hi5 : 0 + i = 0 + i / 5 * 5 + i % 5 := by omega
      simp only at hc
      rw [hi5] at hc
      have hm : i % 5 < 5 := Nat.mod_lt _ (by omega)
      match hk : i % 5, hm with
      | 0, _ => rw [hk, Nat.add_zero, c0] at hc; cases hc
      | 1, _ => rw [hk, c1] at hc; cases hc
      | 2, _ => rw [hk, c2] at hc; cases hc
      | 3, _ => rw [hk, c3] at hc; cases hc
      | 4, _ => rw [hk, c4] at hc; cases hc
  · intro x hx
    rw [hrow] at hx
    have := rows_block _ x hx
    simpa using this
theorem apart1 (os : Os) : (([5, 6, 1, 4] : List Nat).all fun b => !(([0, N0 os] : List Nat).contains b)) = true := by kernel_rfl
theorem apart2 (os : Os) : (([5, 6, 1, 4] ++ [0, N0 os] : List Nat).all fun b => !(([3] : List Nat).contains b)) = true := by kernel_rfl
theorem laidWorld_met (os : Os) (args : Array Value) : laidMetH Tryd.prog laidL (called os args) := by
  rw [laidMetH_iff]
  exact (((laid_first os args).append (laid_case os args) (apart1 os)).append (laid_last os args) (apart2 os)).met
end Go.Proofs.YtgabemlehmhgpaaDoor
/- Package eval: an instruction is done: every kind. -/
namespace Go.Proofs.YtgabemlehmhgpaaDoor.Ev
open Go.RowKit Book Mem
open Ir (T I O trA ReadsL insA insV)
open Mach (M)
open Go.Proofs.YtgabemlehmhgpaaDoor.Cell (In)
set_option linter.unusedSimpArgs false
set_option linter.unusedVariables false
/-- a new row of one byte; it as a text -/
theorem byte_box (w : World) (x : Int) : ∃ w1 g, w.alloc (.cells #[.int .u8 x] 5) = w1 ∧ w.heap.size = g ∧ (convert 62 9 (.slice (some ⟨g, 0, none⟩) 1 1)).run Tryd.prog w1 = .ok (.string ⟨#[UInt8.ofNat x.toNat]⟩) w1 ∧ Hid (Below w.heap.size w w1) := by
  refine ⟨_, _, rfl, rfl, ?_, (Below.refl w.heap.size w).alloc (Nat.le_refl _) _⟩
  have e := run_convert_bytes_arg (P := Tryd.prog) (w.alloc (.cells #[.int .u8 x] 5)) 62 5 Tryd.underlying62 Tryd.underlying5 w.heap.size 0 1 1 [x] rfl
    (fun i hi => by obtain rfl : i = 0 := by omega
                    exact whole_cell (heap_alloc_new w _) rfl) 9 Tryd.underlying9
  exact e
theorem put_up' {v : Int} (hv : v.natAbs < 18446744073709551616) : Lib.itoa v = Dig.putV Dig.upD v 10 := by
  unfold Lib.itoa Dig.putV Dig.sgn
  rw [show (10 : Int).toNat = 10 from rfl, ← Dig.dec_digs Dig.upD (fun d h => by unfold Dig.upD; rw [if_pos h]) _ hv]
  split
  · rfl
  · rw [List.nil_append, show v.toNat = v.natAbs from by omega]
theorem put_dot {p : Int} (ip : Cell.In p) : putT p 10 = Lib.itoa p := by
  unfold Cell.In at ip
  rw [put_up' (by omega)]
  rfl
/-- what is asked of a run's sizes -/
structure Sz (s : M) (V wat : List Int) : Prop where
  st : s.stack.length ≤ 10000
  bk : s.back.length ≤ 10000
  me : s.mem.length ≤ 10000
  ou : s.out.size ≤ 2000
  inp : s.inp.size ≤ 1000000
  vl : V.length ≤ 100000
  wa : wat.length ≤ 100000
  vi : ∀ x ∈ V, In x
theorem Sz.kin {s u : M} {V wat : List Int} (h : Sz s V wat) (k : Kin s u) : Sz u V wat :=
  ⟨by rw [k.stack]; exact h.st, by rw [k.back]; exact h.bk, by rw [k.mem]; exact h.me, k.out h.ou, by rw [k.inp]; exact h.inp, h.vl, h.wa, h.vi⟩
structure Tabs (w : World) : Prop where
  z : Zeros w
  t : Tens w
theorem Tabs.mono {w w' : World} (h : Tabs w) (hb : Below w.heap.size w w') : Tabs w' := ⟨h.z.mono hb, h.t.mono hb⟩
/-- what an instruction leaves -/
def DidI (W : World) (q : Nat) (t : T) (wat V : List Int) (z : Sl) (d : D) (e : Ending) (w' : World) : Prop := e = .returned (.tuple #[.int .i64 d.v, .bool d.on]) ∧ RunAt W w' q t wat d.s V d.hit z
section
variable {W w : World} {q : Nat} {t : T} {wat : List Int} {s : M} {V : List Int} {hit : Bool} {z : Sl}
set_option maxHeartbeats 4000000 in
set_option maxRecDepth 100000 in
theorem do1 (h : RunAt W w q t wat s V false z) (hz : Sz s V wat) (hT : Tabs W) (a b c ex : Int) : Calls Tryd.prog 28 #[.pointer (some ⟨q, 0, none⟩), insV (1, a, b, c, ex)] w (DidI W q t wat V z (doI wat s V (1, a, b, c, ex))) := by
  obtain ⟨w1, g, hw1, hg, HG, HB, HZ⟩ := Ir.newBox w (insA (1, a, b, c, ex)) 42
  have k0 : w1.cell? ⟨g, 0, none⟩ = some (.int .i64 1) := whole_cell HG.out rfl
  have k1 : w1.cell? ⟨g, 1, none⟩ = some (.int .i64 a) := whole_cell HG.out rfl
  have HR := Lib.hid (h.below HB.out)
  clear h hz
  go_enter Tryd.func28, Tryd.ntmps28
  go_wp2
  go_ret2
  exact ⟨rfl, HR.out⟩

set_option maxHeartbeats 4000000 in
set_option maxRecDepth 100000 in
theorem do2 (h : RunAt W w q t wat s V false z) (hz : Sz s V wat) (hT : Tabs W) (a b c ex : Int) : Calls Tryd.prog 28 #[.pointer (some ⟨q, 0, none⟩), insV (2, a, b, c, ex)] w (DidI W q t wat V z (doI wat s V (2, a, b, c, ex))) := by
  obtain ⟨w1, g, hw1, hg, HG, HB, HZ⟩ := Ir.newBox w (insA (2, a, b, c, ex)) 42
  have k0 : w1.cell? ⟨g, 0, none⟩ = some (.int .i64 2) := whole_cell HG.out rfl
  have k1 : w1.cell? ⟨g, 1, none⟩ = some (.int .i64 a) := whole_cell HG.out rfl
  have HR := Lib.hid (h.below HB.out)
  obtain ⟨n, hn⟩ : ∃ n, s.stack.length = n := ⟨_, rfl⟩
  have hsz := hz.st
  have C := Lib.hid (fun k => get_any (Reads.of_owns (HR.out.drewN k).st) (Nat.le_trans hsz (by decide)) (wrap64 ((n : Int) - 1 - a)))
  obtain ⟨ao, cap, e⟩ := HR.out.st.slice
  obtain ⟨c0, c1, c2, c5, c6, c7, c11, c12, c13, c14, c15, c16, c19, c20, c21⟩ := HR.out.cells
  obtain ⟨vs, vb, vm, vv, vw, vi, vo, vc, ex'⟩ := z
  rw [vals_length, hn] at e
  rw [hn] at hsz
  dsimp only at e c11 c12 C
  subst e
  obtain ⟨r, hr⟩ : ∃ r, getL s.stack (wrap64 ((n : Int) - 1 - a)) = r := ⟨_, rfl⟩
  have HP := Lib.hid (show doI wat s V (2, a, b, c, ex) = ⟨s, r.1, r.2, false⟩ by rw [← hr, ← hn]; rfl)
  rw [hr] at C
  rw [HP.out]
  have hlen := hz.st
  clear h hz hr HP hlen c0 c1 c2 c5 c6 c7 c13 c14 c15 c16 c19 c20 c21
  go_enter Tryd.func28, Tryd.ntmps28
  go_wp2_with fail
  go_quiet ((go_at_call 30; exact Calls.quiet_of_same (C.out _)))
  go_wp2
  go_ret2
  exact ⟨rfl, HR.out.drewN _⟩

set_option maxHeartbeats 4000000 in
set_option maxRecDepth 100000 in
theorem do3 (h : RunAt W w q t wat s V false z) (hz : Sz s V wat) (hT : Tabs W) (a b c ex : Int) : Calls Tryd.prog 28 #[.pointer (some ⟨q, 0, none⟩), insV (3, a, b, c, ex)] w (DidI W q t wat V z (doI wat s V (3, a, b, c, ex))) := by
  obtain ⟨w1, g, hw1, hg, HG, HB, HZ⟩ := Ir.newBox w (insA (3, a, b, c, ex)) 42
  have k0 : w1.cell? ⟨g, 0, none⟩ = some (.int .i64 3) := whole_cell HG.out rfl
  have k1 : w1.cell? ⟨g, 1, none⟩ = some (.int .i64 a) := whole_cell HG.out rfl
  have HR := Lib.hid (h.below HB.out)
  obtain ⟨n, hn⟩ : ∃ n, s.back.length = n := ⟨_, rfl⟩
  have hsz := hz.bk
  have C := Lib.hid (fun k => get_any (Reads.of_owns (HR.out.drewN k).bk) (Nat.le_trans hsz (by decide)) (wrap64 ((n : Int) - 1 - a)))
  obtain ⟨ao, cap, e⟩ := HR.out.bk.slice
  obtain ⟨c0, c1, c2, c5, c6, c7, c11, c12, c13, c14, c15, c16, c19, c20, c21⟩ := HR.out.cells
  obtain ⟨vs, vb, vm, vv, vw, vi, vo, vc, ex'⟩ := z
  rw [vals_length, hn] at e
  rw [hn] at hsz
  dsimp only at e c11 c12 C
  subst e
  obtain ⟨r, hr⟩ : ∃ r, getL s.back (wrap64 ((n : Int) - 1 - a)) = r := ⟨_, rfl⟩
  have HP := Lib.hid (show doI wat s V (3, a, b, c, ex) = ⟨s, r.1, r.2, false⟩ by rw [← hr, ← hn]; rfl)
  rw [hr] at C
  rw [HP.out]
  have hlen := hz.bk
  clear h hz hr HP hlen c0 c1 c2 c5 c6 c7 c13 c14 c15 c16 c19 c20 c21
  go_enter Tryd.func28, Tryd.ntmps28
  go_wp2_with fail
  go_quiet ((go_at_call 30; exact Calls.quiet_of_same (C.out _)))
  go_wp2
  go_ret2
  exact ⟨rfl, HR.out.drewN _⟩
end
end Go.Proofs.YtgabemlehmhgpaaDoor.Ev
/- The tables that a run leans on, as the rows list them. -/
namespace Go.Proofs.YtgabemlehmhgpaaDoor.Ev
theorem tabs_of {W : World} (h : laidMetH Tryd.prog laidL W) : Tabs W := ⟨zeros_of h, tens_of h⟩
end Go.Proofs.YtgabemlehmhgpaaDoor.Ev
/- Package eval: an instruction is done: the other kinds, and all. -/
namespace Go.Proofs.YtgabemlehmhgpaaDoor.Ev
open Go.RowKit Book Mem
open Ir (T I O trA ReadsL insA insV)
open Mach (M)
open Go.Proofs.YtgabemlehmhgpaaDoor.Cell (In)
set_option linter.unusedSimpArgs false
set_option linter.unusedVariables false
theorem put_any' (y : Int) (iy : In y) (w : World) (hT : Tabs w) : Calls Tryd.prog 35 #[.int .i64 y, .int .i64 10] w fun e w' => e = .returned (.string ⟨(Lib.itoa y).toArray⟩) ∧ Below w.heap.size w w' := by
  have h := Go.Proofs.YtgabemlehmhgpaaDoor.put_any y 10 iy.1 iy.2 w hT.z hT.t
  rw [put_dot iy] at h
  exact h
theorem calcI_s (s : M) (a b c : Int) : (calcI s a b c).s = s := by unfold calcI; split <;> rfl
theorem calcI_hit (s : M) (a b c : Int) : (calcI s a b c).hit = false := by unfold calcI; split <;> rfl
theorem sayI_v (s : M) (b : ByteArray) : (sayI s b).v = 0 := by unfold sayI; split <;> rfl
theorem putI_v (wat : List Int) (s : M) (b c : Int) : (putI wat s b c).v = 0 := by unfold putI; split <;> rfl
theorem askI_on (s : M) : (askI s).on = true := by unfold askI; split <;> rfl
theorem doI_holds {wat : List Int} {s : M} {V : List Int} {x : I} (h1 : x.1 ≠ 1) (h2 : x.1 ≠ 2) (h3 : x.1 ≠ 3) (h4 : x.1 ≠ 4) (h5 : x.1 ≠ 5) (h6 : x.1 ≠ 6) (h10 : x.1 ≠ 10) (h11 : x.1 ≠ 11) (h12 : x.1 ≠ 12) : doI wat s V x = ⟨s, 0, holdsB x (val V x.2.2.1) (val V x.2.2.2.1), false⟩ := by
  unfold doI holdsB
  rw [if_neg h1, if_neg h2, if_neg h3, if_neg h4, if_neg h5, if_neg h6, if_neg h10, if_neg h11, if_neg h12]
  by_cases h9 : x.1 = 9
  · rw [if_neg (by omega), if_neg (by omega), if_pos h9, if_pos h9]
  · by_cases h8 : x.1 = 8
    · rw [if_neg (by omega), if_pos h8, if_neg h9, if_pos h8]
    · by_cases h7 : x.1 = 7
      · rw [if_pos h7, if_neg h9, if_neg h8, if_pos h7]
      · rw [if_neg h7, if_neg h8, if_neg h9, if_neg h9, if_neg h8, if_neg h7]
section
variable {W w : World} {q : Nat} {t : T} {wat : List Int} {s : M} {V : List Int} {hit : Bool} {z : Sl}

set_option maxHeartbeats 4000000 in
set_option maxRecDepth 100000 in
theorem do4 (h : RunAt W w q t wat s V false z) (hz : Sz s V wat) (hT : Tabs W) (a b c ex : Int) : Calls Tryd.prog 28 #[.pointer (some ⟨q, 0, none⟩), insV (4, a, b, c, ex)] w (DidI W q t wat V z (doI wat s V (4, a, b, c, ex))) := by
  obtain ⟨w1, g, hw1, hg, HG, HB, HZ⟩ := Ir.newBox w (insA (4, a, b, c, ex)) 42
  have k0 : w1.cell? ⟨g, 0, none⟩ = some (.int .i64 4) := whole_cell HG.out rfl
  have k1 : w1.cell? ⟨g, 1, none⟩ = some (.int .i64 a) := whole_cell HG.out rfl
  have k2 : w1.cell? ⟨g, 2, none⟩ = some (.int .i64 b) := whole_cell HG.out rfl
  have k3 : w1.cell? ⟨g, 3, none⟩ = some (.int .i64 c) := whole_cell HG.out rfl
  have k4 : w1.cell? ⟨g, 4, none⟩ = some (.int .i64 ex) := whole_cell HG.out rfl
  have HR := Lib.hid (h.below HB.out)
  have C := Lib.hid (calc_any HR.out hz.vl hz.vi (4, a, b, c, ex))
  have HP := Lib.hid (show doI wat s V (4, a, b, c, ex) = calcI s a (val V b) (val V c) from rfl)
  rw [HP.out]
  dsimp only at C
  have HS := Lib.hid (calcI_s s a (val V b) (val V c))
  have HH := Lib.hid (calcI_hit s a (val V b) (val V c))
  generalize calcI s a (val V b) (val V c) = d at *
  obtain ⟨ds, dv, don, dh⟩ := d
  obtain rfl := HS.out
  obtain rfl := HH.out
  clear h hz HP HS HH hT
  go_enter Tryd.func28, Tryd.ntmps28
  go_wp2_with (go_at_call 31; refine C.out.mono ?_; rintro e w2 ⟨rfl, hb⟩; have HR := Lib.hid (HR.out.below hb); clear hb)
  go_ret2
  exact ⟨rfl, HR.out⟩

set_option maxHeartbeats 4000000 in
set_option maxRecDepth 100000 in
theorem do5 (h : RunAt W w q t wat s V false z) (hz : Sz s V wat) (hT : Tabs W) (a b c ex : Int) : Calls Tryd.prog 28 #[.pointer (some ⟨q, 0, none⟩), insV (5, a, b, c, ex)] w (DidI W q t wat V z (doI wat s V (5, a, b, c, ex))) := by
  obtain ⟨w1, g, hw1, hg, HG, HB, HZ⟩ := Ir.newBox w (insA (5, a, b, c, ex)) 42
  have k0 : w1.cell? ⟨g, 0, none⟩ = some (.int .i64 5) := whole_cell HG.out rfl
  have k2 : w1.cell? ⟨g, 2, none⟩ = some (.int .i64 b) := whole_cell HG.out rfl
  have HR := Lib.hid (h.below HB.out)
  have CV := Lib.hid (fun k => value_any (HR.out.drewN k) hz.vl b)
  have CG := Lib.hid (fun k => get_any (Reads.of_owns (HR.out.drewN k).me) (Nat.le_trans hz.me (by decide)) (val V b))
  obtain ⟨-, -, -, -, -, -, -, -, c13, -⟩ := HR.out.cells
  obtain ⟨vs, vb, vm, vv, vw, vi, vo, vc, ex'⟩ := z
  dsimp only at c13 CG
  have HP := Lib.hid (show doI wat s V (5, a, b, c, ex) = seeI s s.mem (val V b) from rfl)
  rw [HP.out]
  unfold seeI
  obtain ⟨r, hr⟩ : ∃ r, getL s.mem (val V b) = r := ⟨_, rfl⟩
  rw [hr] at CG ⊢
  clear h hz hr HP
  go_enter Tryd.func28, Tryd.ntmps28
  go_wp2_with fail
  go_quiet (first | (go_at_call 32; exact Calls.quiet_of_same (CV.out _)) | (go_at_call 30; exact Calls.quiet_of_same (CG.out _)))
  go_wp2
  go_ret2
  exact ⟨rfl, HR.out.drewN _⟩

set_option maxHeartbeats 4000000 in
set_option maxRecDepth 100000 in
theorem do6 (h : RunAt W w q t wat s V false z) (hz : Sz s V wat) (hT : Tabs W) (a b c ex : Int) : Calls Tryd.prog 28 #[.pointer (some ⟨q, 0, none⟩), insV (6, a, b, c, ex)] w (DidI W q t wat V z (doI wat s V (6, a, b, c, ex))) := by
  obtain ⟨w1, g, hw1, hg, HG, HB, HZ⟩ := Ir.newBox w (insA (6, a, b, c, ex)) 42
  have k0 : w1.cell? ⟨g, 0, none⟩ = some (.int .i64 6) := whole_cell HG.out rfl
  have k2 : w1.cell? ⟨g, 2, none⟩ = some (.int .i64 b) := whole_cell HG.out rfl
  have k3 : w1.cell? ⟨g, 3, none⟩ = some (.int .i64 c) := whole_cell HG.out rfl
  have HR := Lib.hid (h.below HB.out)
  have CB := Lib.hid (value_any HR.out.drew hz.vl b)
  have CC := Lib.hid (value_any HR.out.drew hz.vl c)
  have CP := Lib.hid (put_any HR.out.drew (Nat.le_trans hz.me (by decide)) hz.wa (val V b) (val V c))
  have HP := Lib.hid (show doI wat s V (6, a, b, c, ex) = putI wat s (val V b) (val V c) from rfl)
  rw [HP.out]
  have HS := Lib.hid (putI_v wat s (val V b) (val V c))
  generalize putI wat s (val V b) (val V c) = d at *
  obtain ⟨ds, dv, don, dh⟩ := d
  obtain rfl := HS.out
  clear h hz HP HS hT
  go_enter Tryd.func28, Tryd.ntmps28
  go_wp2_with fail
  go_region_with (first
    | (go_at_call 32; first | (with_reducible refine CB.out.mono ?_; rintro e w' ⟨rfl, rfl⟩) | (with_reducible refine CC.out.mono ?_; rintro e w' ⟨rfl, rfl⟩))
    | (go_at_call 33; refine CP.out.mono ?_; rintro e w2 ⟨rfl, hr2⟩; have HR2 := Lib.hid hr2; clear hr2))
  all_goals
    go_wp2
    go_ret2
    exact ⟨rfl, HR2.out⟩

set_option maxHeartbeats 4000000 in
set_option maxRecDepth 100000 in
theorem do10 (h : RunAt W w q t wat s V false z) (hz : Sz s V wat) (hT : Tabs W) (a b c ex : Int) : Calls Tryd.prog 28 #[.pointer (some ⟨q, 0, none⟩), insV (10, a, b, c, ex)] w (DidI W q t wat V z (doI wat s V (10, a, b, c, ex))) := by
  obtain ⟨w1, g, hw1, hg, HG, HB, HZ⟩ := Ir.newBox w (insA (10, a, b, c, ex)) 42
  have k0 : w1.cell? ⟨g, 0, none⟩ = some (.int .i64 10) := whole_cell HG.out rfl
  have k2 : w1.cell? ⟨g, 2, none⟩ = some (.int .i64 b) := whole_cell HG.out rfl
  have HR := Lib.hid (h.below HB.out)
  obtain ⟨y, hy⟩ : ∃ y, val V b = y := ⟨_, rfl⟩
  have C1 := Lib.hid (value_any HR.out hz.vl b)
  rw [hy] at C1
  obtain ⟨w2, gl, hw2, hgl, hcv, HB2⟩ := byte_box w1 (y % 256)
  have C2 := Lib.hid (say_any (HR.out.below HB2.out) hz.ou (byteT y) (by show 1 ≤ 100; decide))
  have HP := Lib.hid (show doI wat s V (10, a, b, c, ex) = sayI s (byteT y) by rw [← hy]; rfl)
  rw [HP.out]
  have HS := Lib.hid (sayI_v s (byteT y))
  unfold byteT at *
  generalize sayI s _ = d at *
  obtain ⟨ds, dv, don, dh⟩ := d
  obtain rfl := HS.out
  clear h hz hy HP HS hT
  go_enter Tryd.func28, Tryd.ntmps28
  go_wp2_with (first
    | (go_at_call 32; refine C1.out.mono ?_; rintro e w' ⟨rfl, rfl⟩)
    | (go_at_call 34; refine C2.out.mono ?_; rintro e w3 ⟨rfl, hr2⟩; have HR2 := Lib.hid hr2; clear hr2))
  go_ret2
  exact ⟨rfl, HR2.out⟩

set_option maxHeartbeats 4000000 in
set_option maxRecDepth 100000 in
theorem do11 (h : RunAt W w q t wat s V false z) (hz : Sz s V wat) (hT : Tabs W) (a b c ex : Int) : Calls Tryd.prog 28 #[.pointer (some ⟨q, 0, none⟩), insV (11, a, b, c, ex)] w (DidI W q t wat V z (doI wat s V (11, a, b, c, ex))) := by
  obtain ⟨w1, g, hw1, hg, HG, HB, HZ⟩ := Ir.newBox w (insA (11, a, b, c, ex)) 42
  have k0 : w1.cell? ⟨g, 0, none⟩ = some (.int .i64 11) := whole_cell HG.out rfl
  have k2 : w1.cell? ⟨g, 2, none⟩ = some (.int .i64 b) := whole_cell HG.out rfl
  have HR := Lib.hid (h.below HB.out)
  obtain ⟨y, hy⟩ : ∃ y, val V b = y := ⟨_, rfl⟩
  have iy : In y := by rw [← hy]; exact val_in hz.vi b
  have C1 := Lib.hid (value_any HR.out hz.vl b)
  rw [hy] at C1
  have HT1 := hT.mono HR.out.hb
  have C2 := Lib.hid (put_any' y iy w1 HT1)
  have hlen := itoa_len iy.1 iy.2
  have hsz : (⟨(Lib.itoa y).toArray⟩ : ByteArray).size = (Lib.itoa y).length := by simp [ByteArray.size]
  have C3 := Lib.hid (fun wc (hb : Below w1.heap.size w1 wc) => say_any (HR.out.below hb) hz.ou (tellT y) (by unfold tellT; rw [ByteArray.size_append, hsz]; show _ + 1 ≤ 100; omega))
  have HP := Lib.hid (show doI wat s V (11, a, b, c, ex) = sayI s (tellT y) by rw [← hy]; rfl)
  rw [HP.out]
  have HS := Lib.hid (sayI_v s (tellT y))
  have HL := Lib.hid (And.intro hlen hsz)
  unfold tellT at *
  generalize Lib.itoa y = tl at *
  obtain ⟨nl, hnl⟩ : ∃ n, tl.length = n := ⟨_, rfl⟩
  rw [hnl] at hlen hsz
  generalize sayI s _ = d at *
  obtain ⟨ds, dv, don, dh⟩ := d
  obtain rfl := HS.out
  clear h hz hy HP HS hT HT1 HL
  go_enter Tryd.func28, Tryd.ntmps28
  go_wp2_with (first
    | (go_at_call 32; refine C1.out.mono ?_; rintro e w' ⟨rfl, rfl⟩)
    | (go_at_call 35; refine C2.out.mono ?_; rintro e w2 ⟨rfl, hb⟩; have C4 := Lib.hid (C3.out _ hb); clear hb)
    | (go_at_call 34; refine C4.out.mono ?_; rintro e w3 ⟨rfl, hr2⟩; have HR2 := Lib.hid hr2; clear hr2))
  go_ret2
  exact ⟨rfl, HR2.out⟩

set_option maxHeartbeats 4000000 in
set_option maxRecDepth 100000 in
theorem do12 (h : RunAt W w q t wat s V false z) (hz : Sz s V wat) (hT : Tabs W) (a b c ex : Int) : Calls Tryd.prog 28 #[.pointer (some ⟨q, 0, none⟩), insV (12, a, b, c, ex)] w (DidI W q t wat V z (doI wat s V (12, a, b, c, ex))) := by
  obtain ⟨w1, g, hw1, hg, HG, HB, HZ⟩ := Ir.newBox w (insA (12, a, b, c, ex)) 42
  have k0 : w1.cell? ⟨g, 0, none⟩ = some (.int .i64 12) := whole_cell HG.out rfl
  have HR := Lib.hid (h.below HB.out)
  have C1 := Lib.hid (ask_any HR.out hz.inp)
  have HP := Lib.hid (show doI wat s V (12, a, b, c, ex) = askI s from rfl)
  rw [HP.out]
  have HS := Lib.hid (askI_on s)
  generalize askI s = d at *
  obtain ⟨ds, dv, don, dh⟩ := d
  obtain rfl := HS.out
  clear h hz HP HS hT
  go_enter Tryd.func28, Tryd.ntmps28
  go_wp2_with (go_at_call 36; refine C1.out.mono ?_; rintro e w3 ⟨rfl, hr2⟩; have HR2 := Lib.hid hr2; clear hr2)
  go_ret2
  exact ⟨rfl, HR2.out⟩

set_option maxHeartbeats 4000000 in
set_option maxRecDepth 100000 in
theorem doElse (op : Int) (h1 : op ≠ 1) (h2 : op ≠ 2) (h3 : op ≠ 3) (h4 : op ≠ 4) (h5 : op ≠ 5) (h6 : op ≠ 6) (h10 : op ≠ 10) (h11 : op ≠ 11) (h12 : op ≠ 12) (h : RunAt W w q t wat s V false z) (hz : Sz s V wat) (hT : Tabs W) (a b c ex : Int) : Calls Tryd.prog 28 #[.pointer (some ⟨q, 0, none⟩), insV (op, a, b, c, ex)] w (DidI W q t wat V z (doI wat s V (op, a, b, c, ex))) := by
  obtain ⟨w1, g, hw1, hg, HG, HB, HZ⟩ := Ir.newBox w (insA (op, a, b, c, ex)) 42
  have k0 : w1.cell? ⟨g, 0, none⟩ = some (.int .i64 op) := whole_cell HG.out rfl
  have k1 : w1.cell? ⟨g, 1, none⟩ = some (.int .i64 a) := whole_cell HG.out rfl
  have k2 : w1.cell? ⟨g, 2, none⟩ = some (.int .i64 b) := whole_cell HG.out rfl
  have k3 : w1.cell? ⟨g, 3, none⟩ = some (.int .i64 c) := whole_cell HG.out rfl
  have k4 : w1.cell? ⟨g, 4, none⟩ = some (.int .i64 ex) := whole_cell HG.out rfl
  have HR := Lib.hid (h.below HB.out)
  have C1 := Lib.hid (holds_any HR.out hz.vl hz.vi (op, a, b, c, ex))
  have HP := Lib.hid (show doI wat s V (op, a, b, c, ex) = ⟨s, 0, holdsB (op, a, b, c, ex) (val V b) (val V c), false⟩ from doI_holds h1 h2 h3 h4 h5 h6 h10 h11 h12)
  rw [HP.out]
  dsimp only at C1
  generalize holdsB (op, a, b, c, ex) (val V b) (val V c) = r at *
  have e1 : (op == 1) = false := by simpa using h1
  have e2 : (op == 2) = false := by simpa using h2
  have e3 : (op == 3) = false := by simpa using h3
  have e4 : (op == 4) = false := by simpa using h4
  have e5 : (op == 5) = false := by simpa using h5
  have e6 : (op == 6) = false := by simpa using h6
  have e10 : (op == 10) = false := by simpa using h10
  have e11 : (op == 11) = false := by simpa using h11
  have e12 : (op == 12) = false := by simpa using h12
  clear h hz HP hT h1 h2 h3 h4 h5 h6 h10 h11 h12
  go_enter Tryd.func28, Tryd.ntmps28
  go_wp2_with (go_at_call 37; refine C1.out.mono ?_; rintro e w3 ⟨rfl, hb⟩; have HR := Lib.hid (HR.out.below hb); clear hb)
  go_ret2
  exact ⟨rfl, HR.out⟩

theorem do_any (h : RunAt W w q t wat s V false z) (hz : Sz s V wat) (hT : Tabs W) (x : I) : Calls Tryd.prog 28 #[.pointer (some ⟨q, 0, none⟩), insV x] w (DidI W q t wat V z (doI wat s V x)) := by
  obtain ⟨op, a, b, c, ex⟩ := x
  by_cases h1 : op = 1
  · subst h1; exact do1 h hz hT a b c ex
  by_cases h2 : op = 2
  · subst h2; exact do2 h hz hT a b c ex
  by_cases h3 : op = 3
  · subst h3; exact do3 h hz hT a b c ex
  by_cases h4 : op = 4
  · subst h4; exact do4 h hz hT a b c ex
  by_cases h5 : op = 5
  · subst h5; exact do5 h hz hT a b c ex
  by_cases h6 : op = 6
  · subst h6; exact do6 h hz hT a b c ex
  by_cases h10 : op = 10
  · subst h10; exact do10 h hz hT a b c ex
  by_cases h11 : op = 11
  · subst h11; exact do11 h hz hT a b c ex
  by_cases h12 : op = 12
  · subst h12; exact do12 h hz hT a b c ex
  exact doElse op h1 h2 h3 h4 h5 h6 h10 h11 h12 h hz hT a b c ex
end
end Go.Proofs.YtgabemlehmhgpaaDoor.Ev
/- Every value of a run is a cell's. -/
namespace Go.Proofs.YtgabemlehmhgpaaDoor.Ev
open Ir (T I O CI CT)
open Mach (M less)
open Go.Proofs.YtgabemlehmhgpaaDoor.Cell (In)
set_option linter.unusedVariables false
structure CM (s : M) : Prop where
  st : ∀ x ∈ s.stack, In x
  bk : ∀ x ∈ s.back, In x
  me : ∀ x ∈ s.mem, In x
theorem sayI_in {s : M} (hs : CM s) (b : ByteArray) : In (sayI s b).v ∧ CM (sayI s b).s := by
  unfold sayI
  split
  · exact ⟨zero_in, hs.st, hs.bk, hs.me⟩
  · exact ⟨zero_in, hs⟩
theorem doI_in {wat : List Int} {s : M} {V : List Int} {x : I} (hx : CI x) (hs : CM s) (hV : ∀ y ∈ V, In y) : In (doI wat s V x).v ∧ CM (doI wat s V x).s := by
  have iv : ∀ p, In (val V p) := fun p => getL_in hV p
  unfold doI
  by_cases h1 : x.1 = 1
  · rw [if_pos h1]; exact ⟨hx.a, hs⟩
  rw [if_neg h1]; clear h1
  by_cases h1 : x.1 = 2
  · rw [if_pos h1]; exact ⟨getL_in hs.st _, hs⟩
  rw [if_neg h1]; clear h1
  by_cases h1 : x.1 = 3
  · rw [if_pos h1]; exact ⟨getL_in hs.bk _, hs⟩
  rw [if_neg h1]; clear h1
  by_cases h1 : x.1 = 4
  · rw [if_pos h1]
    unfold calcI
    split
    · exact ⟨Mach.one_in _ (iv _), hs⟩
    · exact ⟨Mach.two_in _ (iv _) (iv _), hs⟩
  rw [if_neg h1]; clear h1
  by_cases h1 : x.1 = 5
  · rw [if_pos h1]; exact ⟨getL_in hs.me _, hs⟩
  rw [if_neg h1]; clear h1
  by_cases h1 : x.1 = 6
  · rw [if_pos h1]
    unfold putI
    split
    · exact ⟨zero_in, hs.st, hs.bk, Mach.set_in hs.me _ (iv _)⟩
    · exact ⟨zero_in, hs⟩
  rw [if_neg h1]; clear h1
  by_cases h1 : x.1 = 10
  · rw [if_pos h1]; exact sayI_in hs _
  rw [if_neg h1]; clear h1
  by_cases h1 : x.1 = 11
  · rw [if_pos h1]; exact sayI_in hs _
  rw [if_neg h1]; clear h1
  by_cases h1 : x.1 = 12
  · rw [if_pos h1]
    unfold askI
    split
    · exact ⟨Mach.byte_in _, hs.st, hs.bk, hs.me⟩
    · exact ⟨(show In (-1) from (by unfold Go.Proofs.YtgabemlehmhgpaaDoor.Cell.In; omega)), hs⟩
  rw [if_neg h1]; clear h1
  by_cases h1 : x.1 = 7
  · rw [if_pos h1]; exact ⟨zero_in, hs⟩
  rw [if_neg h1]; clear h1
  by_cases h1 : x.1 = 8
  · rw [if_pos h1]; exact ⟨zero_in, hs⟩
  rw [if_neg h1]; clear h1
  by_cases h1 : x.1 = 9
  · rw [if_pos h1]; exact ⟨zero_in, hs⟩
  rw [if_neg h1]
  exact ⟨zero_in, hs⟩
theorem goI_len (wat : List Int) (last : Int) (l : List I) (s : M) (V : List Int) : (goI wat last l s V).V.length ≤ V.length + l.length := by
  induction l generalizing s V with
  | nil => exact Nat.le_refl _
  | cons x l ih =>
    unfold goI
    dsimp only
    split
    · exact Nat.le_add_right _ _
    · split
      · refine Nat.le_trans (ih _ _) ?_
        simp only [List.length_append, List.length_cons, List.length_nil]
        omega
      · exact Nat.le_add_right _ _
theorem goI_in {wat : List Int} {last : Int} {l : List I} (hl : ∀ x ∈ l, CI x) {s : M} {V : List Int} (hs : CM s) (hV : ∀ y ∈ V, In y) : (∀ y ∈ (goI wat last l s V).V, In y) ∧ CM (goI wat last l s V).s := by
  induction l generalizing s V with
  | nil => exact ⟨hV, hs⟩
  | cons x l ih =>
    have hd := doI_in (wat := wat) (hl x List.mem_cons_self) hs hV
    unfold goI
    dsimp only
    split
    · exact ⟨hV, hd.2⟩
    · split
      · exact ih (fun y hy => hl y (List.mem_cons_of_mem _ hy)) hd.2 (fun y hy => by
          rcases List.mem_append.1 hy with h | h
          · exact hV y h
          · rw [List.mem_singleton.1 h]; exact hd.1)
      · exact ⟨hV, hd.2⟩
end Go.Proofs.YtgabemlehmhgpaaDoor.Ev
/- A trace's box is written whole, or one of its cells. -/
namespace Go.Proofs.YtgabemlehmhgpaaDoor.Ir
open Go.RowKit Book Mem
set_option linter.unusedVariables false
set_option maxRecDepth 1000000 in
theorem sz_i : (Tryd.prog.info? 3).map (·.size) = some 1 := by kernel_rfl
set_option maxRecDepth 1000000 in
theorem sz_is : (Tryd.prog.info? 24).map (·.size) = some 1 := by kernel_rfl
set_option maxRecDepth 1000000 in
theorem sz_cs : (Tryd.prog.info? 22).map (·.size) = some 1 := by kernel_rfl
set_option maxRecDepth 1000000 in
theorem sz_os : (Tryd.prog.info? 23).map (·.size) = some 1 := by kernel_rfl
abbrev zero9 : Array Value := #[.int .i64 0, .int .i64 0, .int .i64 0, .int .i64 0, .int .i64 0, .slice none 0 0, .slice none 0 0, .int .i64 0, .slice none 0 0]
section
variable {ops : Array Oper} {rest : List Oper} {o : Oper} {a : Act} {w : World} {Q : Exit → Act → World → Prop}
theorem st_tr (hw : Region.wanted o (yielded ops a.tmps) = true) (x y : Operand) (ho : o.op = .store 26 x y) (g : Nat) (cs : Array Value) (hx : a.eval x = .pointer (some ⟨g, 0, none⟩)) (hy : a.eval y = .agg cs) (hcs : cs.size = 9) (old : Array Value) (hold : old.size = 9) (hg : w.heap[g]? = some (.cells old 26 (0, 0))) (h1 : cs.all (·.oneCell') = true)
    (h : ∀ w', w'.heap[g]? = some (.cells cs 26 (0, 0)) → Stirred w w' [g] → wpList Tryd.prog ops Q rest (a.put o.dst undef) w') : wpList Tryd.prog ops Q (o :: rest) a w :=
  wpList_setbox hw _ x y ho g cs hx hy old _ hg (by rw [tr_size, hcs]) (by rw [hold, hcs]) h1 h
end
end Go.Proofs.YtgabemlehmhgpaaDoor.Ir
/- Package eval: the instructions are done, one after the other. -/
namespace Go.Proofs.YtgabemlehmhgpaaDoor.Ev
open Go.RowKit Book Mem
open Ir (T I O trA ReadsL insA insV CI CT)
open Mach (M)
open Go.Proofs.YtgabemlehmhgpaaDoor.Cell (In)
set_option linter.unusedSimpArgs false
set_option linter.unusedVariables false
abbrev zero5 : Array Value := #[.int .i64 0, .int .i64 0, .int .i64 0, .int .i64 0, .int .i64 0]
section
variable {ops : Array Oper} {rest : List Oper} {o : Oper} {a : Act} {w : World} {Q : Exit → Act → World → Prop}
theorem st_ins (hw : Region.wanted o (yielded ops a.tmps) = true) (x y : Operand) (ho : o.op = .store 42 x y) (g : Nat) (cs : Array Value) (hx : a.eval x = .pointer (some ⟨g, 0, none⟩)) (hy : a.eval y = .agg cs) (hcs : cs.size = 5) (old : Array Value) (hold : old.size = 5) (hg : w.heap[g]? = some (.cells old 42 (0, 0))) (h1 : cs.all (·.oneCell') = true)
    (h : ∀ w', w'.heap[g]? = some (.cells cs 42 (0, 0)) → Stirred w w' [g] → wpList Tryd.prog ops Q rest (a.put o.dst undef) w') : wpList Tryd.prog ops Q (o :: rest) a w :=
  wpList_setbox hw _ x y ho g cs hx hy old _ hg (by rw [Ir.ins_size, hcs]) (by rw [hold, hcs]) h1 h
end
theorem put1_at (g : Nat) (o : Obj) (e : Nat → Option Obj) : put1 g o e g = some o := by unfold put1; rw [if_pos rfl]
/-- a row of one number -/
theorem row_one (w : World) (x : Int) : ∃ w1 g, w.alloc (.cells #[.int .i64 x] 3) = w1 ∧ w.heap.size = g ∧ Hid (Reads w1 (.slice (some ⟨g, 0, none⟩) 1 1) [x]) ∧ Hid (Below w.heap.size w w1) :=
  ⟨_, _, rfl, rfl, Reads.of_owns (Owns.built w (.int .i64 x) 3), (Below.refl w.heap.size w).alloc (Nat.le_refl _) _⟩
/-- what the instructions leave -/
def DidX (W : World) (q : Nat) (t : T) (wat : List Int) (z : Sl) (x : X) (e : Ending) (w' : World) : Prop := e = .returned (.int .i64 x.exit) ∧ ∃ v, RunAt W w' q t wat x.s x.V x.hit { z with vv := v }
section
variable {W w : World} {q : Nat} {t : T} {wat : List Int} {s : M} {V : List Int} {hit : Bool} {z : Sl}
set_option maxHeartbeats 8000000 in
set_option maxRecDepth 100000 in
theorem exit_any (h : RunAt W w q t wat s [] false z) (hz : Sz s [] wat) (hs : CM s) (hc : ∀ x ∈ t.ins, CI x) (hT : Tabs W) (hn : t.ins.length ≤ 10000) : Calls Tryd.prog 22 #[.pointer (some ⟨q, 0, none⟩)] w (DidX W q t wat z (goI wat t.last t.ins s [])) := by
  obtain ⟨i0, q1, q2, q3, q4⟩ := info_parts Tryd.bkIntInfo
  have HI := Lib.hid (And.intro q1 (And.intro q2 (And.intro q3 q4)))
  have HR := Lib.hid h
  have HZ := Lib.hid hz
  have HS := Lib.hid hs
  have HC := Lib.hid hc
  have HT := Lib.hid hT
  obtain ⟨n, hnn⟩ : ∃ n, t.ins.length = n := ⟨_, rfl⟩
  have HN := Lib.hid hnn
  rw [hnn] at hn
  obtain ⟨ai, ci, -, -, -, -, e1, -, -⟩ := h.tr.known
  rw [hnn] at e1
  obtain ⟨c0, c1, c2, c5, c6, c7, c11, c12, c13, c14, c15, c16, c19, c20, c21⟩ := h.cells
  have f19 := h.free 19
  obtain ⟨w1, hmk, hO, hG⟩ := run_makeSlice_owned (P := Tryd.prog) w w.heap.size 24 3 i0 (.int .i64 0) 1 Tryd.underlying24 HI.out.1 HI.out.2.1 HI.out.2.2.1 .i64 .i64 n (by omega) (by rw [HI.out.2.2.2]; omega) (by unfold maxLen; omega) (Nat.le_refl _)
  obtain ⟨vs, vb, vm, vv, vw, vi, vo, vc, ex'⟩ := z
  dsimp only at e1 c5 c6 c11 c12 c13 c19 c20
  subst e1
  have hb1 := (Stirred.of_grown hG)
  have H1 := Lib.hid ((HR.out.newVals (w' := w1) (v := .slice (some ⟨w.heap.size, 0, none⟩) 0 n) (V' := []) ((Owns.of_row hO).from HR.out.hb.size) (hb1.more (fun k hk => by cases hk)) (fun k e => .inr ((Owns.of_row hO).block k e).1)))
  have f19 := whole_frozen (hb1.whole h.box (by simp)) 19
  have c19 := whole_cell (hb1.whole h.box (by simp)) (show _[19]? = some vv from rfl)
  obtain ⟨g1, hg1⟩ : ∃ g1, w.heap.size = g1 := ⟨_, rfl⟩
  rw [hg1] at hmk H1
  obtain ⟨w2, hw2⟩ : ∃ w2, w1.setCell ⟨q, 19, none⟩ (.slice (some ⟨g1, 0, none⟩) 0 n) = w2 := ⟨_, rfl⟩
  rw [hw2] at H1
  obtain ⟨-, -, -, d5, -, -, -, -, -, -, -, -, -, -, -⟩ := H1.out.cells
  dsimp only at d5
  have HTR := Lib.hid h.tr.ins
  have HX := Lib.hid (show goI wat t.last (t.ins.drop 0) s [] = goI wat t.last t.ins s [] from rfl)
  obtain ⟨res, hres⟩ : ∃ res, goI wat t.last t.ins s [] = res := ⟨_, rfl⟩
  rw [hres] at HX ⊢
  have HMK := hmk
  clear h hz hs hc hT hnn hO hG hb1 q1 q2 q3 q4 hres hg1
  go_enter Tryd.func22, Tryd.ntmps22
  go_wp2
  go_loopg [23] n (fun zz i wr => ∃ (j : Nat) (s' : M) (V' : List Int) (v' : Value), zz = n - j ∧ j ≤ n ∧ i = .int .i64 (j : Int) ∧ Hid (RunAt W wr q t wat s' V' false ⟨vs, vb, vm, v', vw, .slice ai n ci, vo, vc, ex'⟩) ∧ Hid (Sz s' [] wat ∧ CM s' ∧ V'.length = j ∧ ∀ y ∈ V', In y) ∧ Hid (goI wat t.last (t.ins.drop j) s' V' = res))
  case atStart => exact ⟨0, s, [], _, rfl, Nat.zero_le _, rfl, H1, Lib.hid ⟨HZ.out, HS.out, rfl, fun y hy => (by cases hy)⟩, HX⟩
  case round =>
    obtain ⟨j, s', V', v', rfl, hj, rfl, HRR, HQ, HJ⟩ := hrel
    clear H1 HR hmk HMK hw2 c0 c1 c2 c5 c6 c7 c11 c12 c13 c14 c15 c16 c19 c20 c21 f19 d5 HX HZ HS
    by_cases hlt : j < n
    · obtain ⟨x, hx⟩ : ∃ x, t.ins[j]? = some x := ⟨_, List.getElem?_eq_getElem (by rw [HN.out]; exact hlt)⟩
      have HCX := Lib.hid (HC.out x (List.mem_of_getElem? hx))
      obtain ⟨ad, rfl, i0', i1, i2, i3, i4⟩ := Ir.ReadsI.at (HTR.out.below HRR.out.hb) hx
      have HG1 := Lib.hid (goI_at (wat := wat) (last := t.last) (s := s') (V := V') hx)
      have HSV := Lib.hid (show Sz s' V' wat from ⟨HQ.out.1.st, HQ.out.1.bk, HQ.out.1.me, HQ.out.1.ou, HQ.out.1.inp, by rw [HQ.out.2.2.1]; omega, HQ.out.1.wa, HQ.out.2.2.2⟩)
      have HIN := Lib.hid (doI_in (wat := wat) HCX.out HQ.out.2.1 HQ.out.2.2.2)
      have HKN := Lib.hid (doI_kin wat s' V' x)
      obtain ⟨op, a, b, c, ex⟩ := x
      obtain ⟨w3, g, hw3, hg, HG3, HB3, HZ3⟩ := Ir.newBox wr zero5 42
      have z0 : (0 : Int) ≤ (j : Int) := by omega
      have z1 : (j : Int) < (n : Int) := by omega
      have HDO := Lib.hid (fun w4 (hr4 : RunAt W w4 q t wat s' V' false { (⟨vs, vb, vm, v', vw, .slice (some ad) n ci, vo, vc, ex'⟩ : Sl) with ex := put1 g (.cells (insA (op, a, b, c, ex)) 42 (0, 0)) ex' }) => do_any hr4 HSV.out HT.out (op, a, b, c, ex))
      have HEX := Lib.hid (fun k o (e : ex' k = some o) => show put1 g (.cells (insA (op, a, b, c, ex)) 42 (0, 0)) ex' k = some o by
        unfold put1
        rw [if_neg (by have := whole_lt (HRR.out.fr k o e).1; have := HZ3.out; omega)]
        exact e)
      obtain ⟨d, hd⟩ : ∃ d, doI wat s' V' (op, a, b, c, ex) = d := ⟨_, rfl⟩
      rw [hd] at HG1 HIN HKN HDO
      rw [HG1.out] at HJ
      obtain ⟨ds, dv, don, dh⟩ := d
      dsimp only at i0' i1 i2 i3 i4 HIN HKN HJ
      clear hd hx HG1 HCX
      cases dh with
      | true =>
        go_wp2_with (first
          | (refine st_ins (by rfl) _ _ rfl g (insA (op, a, b, c, ex)) rfl rfl rfl _ rfl HG3.out (by simp [Value.oneCell']) ?_; intro w4 h4 t4; have HR4 := Lib.hid (HRR.out.fresh (w' := w4) (bs := [g]) ((Stirred.of_below HB3.out [g]).trans t4 (fun k hk => .inl hk)) (fun k hk => List.mem_singleton.1 hk) (Nat.le_of_eq HZ3.out) h4); have C := Lib.hid (HDO.out _ HR4.out); have m0 : w4.cell? ⟨g, 0, none⟩ = some (.int .i64 op) := whole_cell h4 rfl; have m1 : w4.cell? ⟨g, 1, none⟩ = some (.int .i64 a) := whole_cell h4 rfl; have m2 : w4.cell? ⟨g, 2, none⟩ = some (.int .i64 b) := whole_cell h4 rfl; have m3 : w4.cell? ⟨g, 3, none⟩ = some (.int .i64 c) := whole_cell h4 rfl; have m4 : w4.cell? ⟨g, 4, none⟩ = some (.int .i64 ex) := whole_cell h4 rfl; clear h4 t4)
          | fail)
        refine C.out.mono ?_
        rintro e w5 ⟨rfl, hr5⟩
        have HR5 := Lib.hid hr5
        clear hr5 C HR4 m0 m1 m2 m3 m4 HDO
        obtain ⟨-, -, -, -, -, -, -, -, -, -, -, -, -, -, d21⟩ := HR5.out.cells
        have hb5 := (HR5.out.fr g _ (put1_at g _ ex')).1
        have k1 : w5.cell? ⟨g, 1, none⟩ = some (.int .i64 a) := whole_cell hb5 rfl
        clear hb5
        go_wp2
        go_ret
        have HJ2 := Lib.hid (show (⟨ds, V', a, true⟩ : X) = res from HJ.out)
        refine ⟨by rw [← HJ2.out]; rfl, v', ?_⟩
        rw [← HJ2.out]
        exact HR5.out.less (e' := ex') HEX.out
      | false =>
      cases don with
      | false =>
        go_wp2_with (first
          | (refine st_ins (by rfl) _ _ rfl g (insA (op, a, b, c, ex)) rfl rfl rfl _ rfl HG3.out (by simp [Value.oneCell']) ?_; intro w4 h4 t4; have HR4 := Lib.hid (HRR.out.fresh (w' := w4) (bs := [g]) ((Stirred.of_below HB3.out [g]).trans t4 (fun k hk => .inl hk)) (fun k hk => List.mem_singleton.1 hk) (Nat.le_of_eq HZ3.out) h4); have C := Lib.hid (HDO.out _ HR4.out); have m0 : w4.cell? ⟨g, 0, none⟩ = some (.int .i64 op) := whole_cell h4 rfl; have m1 : w4.cell? ⟨g, 1, none⟩ = some (.int .i64 a) := whole_cell h4 rfl; have m2 : w4.cell? ⟨g, 2, none⟩ = some (.int .i64 b) := whole_cell h4 rfl; have m3 : w4.cell? ⟨g, 3, none⟩ = some (.int .i64 c) := whole_cell h4 rfl; have m4 : w4.cell? ⟨g, 4, none⟩ = some (.int .i64 ex) := whole_cell h4 rfl; clear h4 t4)
          | fail)
        refine C.out.mono ?_
        rintro e w5 ⟨rfl, hr5⟩
        have HR5 := Lib.hid hr5
        clear hr5 C HR4 m0 m1 m2 m3 m4 HDO
        obtain ⟨-, -, -, -, -, -, -, -, -, -, -, -, -, -, d21⟩ := HR5.out.cells
        have hb5 := (HR5.out.fr g _ (put1_at g _ ex')).1
        have k4 : w5.cell? ⟨g, 4, none⟩ = some (.int .i64 ex) := whole_cell hb5 rfl
        clear hb5
        go_wp2
        go_ret
        have HJ2 := Lib.hid (show (⟨ds, V', ex, false⟩ : X) = res from HJ.out)
        refine ⟨by rw [← HJ2.out]; rfl, v', ?_⟩
        rw [← HJ2.out]
        exact HR5.out.less (e' := ex') HEX.out
      | true =>
        go_wp2_with (first
          | (refine st_ins (by rfl) _ _ rfl g (insA (op, a, b, c, ex)) rfl rfl rfl _ rfl HG3.out (by simp [Value.oneCell']) ?_; intro w4 h4 t4; have HR4 := Lib.hid (HRR.out.fresh (w' := w4) (bs := [g]) ((Stirred.of_below HB3.out [g]).trans t4 (fun k hk => .inl hk)) (fun k hk => List.mem_singleton.1 hk) (Nat.le_of_eq HZ3.out) h4); have C := Lib.hid (HDO.out _ HR4.out); have m0 : w4.cell? ⟨g, 0, none⟩ = some (.int .i64 op) := whole_cell h4 rfl; have m1 : w4.cell? ⟨g, 1, none⟩ = some (.int .i64 a) := whole_cell h4 rfl; have m2 : w4.cell? ⟨g, 2, none⟩ = some (.int .i64 b) := whole_cell h4 rfl; have m3 : w4.cell? ⟨g, 3, none⟩ = some (.int .i64 c) := whole_cell h4 rfl; have m4 : w4.cell? ⟨g, 4, none⟩ = some (.int .i64 ex) := whole_cell h4 rfl; clear h4 t4)
          | fail)
        refine C.out.mono ?_
        rintro e w5 ⟨rfl, hr5⟩
        have HR5 := Lib.hid hr5
        clear hr5 C HR4 m0 m1 m2 m3 m4 HDO
        obtain ⟨-, -, -, -, -, -, -, -, -, -, -, -, d19, -, d21⟩ := HR5.out.cells
        have HR5 := Lib.hid (HR5.out.less (e' := ex') HEX.out)
        obtain ⟨w6, g6, hw6, hg6, HROW, HB6⟩ := row_one w5 dv
        have HR6 := Lib.hid (HR5.out.below HB6.out)
        have HV6 := Lib.hid (show Owns w6 W.heap.size 3 v' (vals V') from HR6.out.vl)
        obtain ⟨ao6, cap6, e6⟩ := HV6.out.slice
        rw [vals_length, HQ.out.2.2.1] at e6
        subst e6
        have HBS := Lib.hid HR6.out.hb.size
        have HVL := Lib.hid HQ.out.2.2.1
        go_wp2_with (refine wpList_append_reads _ rfl _ _ 24 rfl W.heap.size 3 i0 (.int .i64 0) 8 Tryd.underlying24 HI.out.1 HI.out.2.1 HI.out.2.2.1 HI.out.2.2.2 rfl (.slice ao6 j cap6) (vals V') rfl HV6.out (.slice (some ⟨g6, 0, none⟩) 1 1) [dv] rfl HROW.out (by rw [vals_length, HVL.out]; unfold maxLen; simp; omega) (by rw [vals_length, HVL.out]; simp; omega) HBS.out ?_; intro v2 w7 ho _ ht hk; have hq7 := ht.whole HR6.out.box (fun hm => HR6.out.nv _ (Option.mem_toList.1 hm) rfl); have p19 := whole_cell hq7 (show _[19]? = some (Value.slice ao6 j cap6) from rfl); have f19 := whole_frozen hq7 19; have HR7 := Lib.hid (HR6.out.push (x := dv) (by rw [vals, List.map_append]; exact ho) ht hk); obtain ⟨ao7, cap7, e7⟩ := ho.slice; rw [show (vals V' ++ vals [dv]).length = V'.length + 1 by simp] at e7; subst e7; clear ho ht hk hq7)
        have HJ3 := Lib.hid (show goI wat t.last (t.ins.drop (j + 1)) ds (V' ++ [dv]) = res from HJ.out)
        clear HJ
        go_roundg (n - (j + 1))
        case measure => omega
        case rel => exact ⟨j + 1, ds, V' ++ [dv], _, rfl, by omega, by go_num, HR7, Lib.hid ⟨HQ.out.1.kin HKN.out, HIN.out.2, by rw [List.length_append, HQ.out.2.2.1]; rfl, fun y hy => by
          rcases List.mem_append.1 hy with h | h
          · exact HQ.out.2.2.2 y h
          · rw [List.mem_singleton.1 h]; exact HIN.out.1⟩, HJ3⟩
    · obtain rfl : j = n := by omega
      have HJ2 := Lib.hid (show (⟨s', V', t.last, false⟩ : X) = res by rw [← HJ.out, List.drop_of_length_le (Nat.le_of_eq HN.out)]; rfl)
      obtain ⟨-, -, -, -, -, e7, -⟩ := HRR.out.cells
      go_wp2
      go_ret
      refine ⟨by rw [← HJ2.out]; rfl, v', ?_⟩
      rw [← HJ2.out]
      exact HRR.out
end
end Go.Proofs.YtgabemlehmhgpaaDoor.Ev
/- Package eval: a stack as it is at an exit. -/
namespace Go.Proofs.YtgabemlehmhgpaaDoor.Ev
open Go.RowKit Book Mem
open Ir (T I O trA ReadsL insA insV CI CT)
open Mach (M less)
open Go.Proofs.YtgabemlehmhgpaaDoor.Cell (In)
set_option linter.unusedSimpArgs false
set_option linter.unusedVariables false
theorem wpList_slice_low {P : Program} {w : World} {ops : Array Oper} {rest : List Oper} {o : Oper} {a : Act} {Q : Exit → Act → World → Prop} (hw : Region.wanted o (yielded ops a.tmps) = true) (t : TypeId) (x hi : Operand) (hop : o.op = Op.slice t x none (some hi) none)
    (E : TypeId) (ht : P.underlying t = some (.slice E)) (hz : ∀ w, (sizeOf E).run P w = .ok 1 w) (ao : Option Addr) (n c : Nat) (xs : List Int) (hx : a.eval x = .slice ao n c) (hr : ReadsC w (.slice ao n c) xs) (h : Nat) (hhi : a.eval hi = .int .i64 h) (hh : h ≤ xs.length)
    (hK : wpList P ops Q rest (a.put o.dst (.slice ao h c)) w) : wpList P ops Q (o :: rest) a w := by
  refine wpList_step fun K hK' => ?_
  rw [if_pos hw]
  obtain ⟨-, ao', c', e, hcap⟩ := hr
  simp only [Value.slice.injEq] at e
  obtain ⟨rfl, rfl, rfl⟩ := e
  have hs : (Instr.sliceAt t (.slice ao xs.length c) none (some (.int .i64 h)) none).run P w = .ok (.slice ao h c) w := by
    have e1 : ∀ code, (Instr.sliceBound (.int .i64 h) c code).run P w = .ok h w := fun code => by
      have h1 : h ≤ c := by omega
      simp [Instr.sliceBound, asIntOf, h1, go_sem]
    cases ao <;> simp [Instr.sliceAt, Instr.slice, Instr.sliceBounds, run_underlying ht, hz, e1, Addr.add]
  unfold Oper.wp execOp
  simp only [hop, hx, hhi, Option.map_some, Option.map_none, Sem.run_bind, Sem.run_pure, Result.andThen_ok, hs]
  exact hK' _ _ hK
theorem wrap_nat {m : Nat} (h : m ≤ 10000) : wrap64 (m : Int) = (m : Int) := by unfold wrap64; omega
theorem sub_cast {nx k m : Nat} (h : nx - k = m) (hk : k ≤ nx) : (nx : Int) - (k : Int) = (m : Int) := by omega
theorem len_ok {m n j : Nat} (h : m ≤ 10000) (g : n ≤ 10000) (hj : j ≤ n) : m + j + 1 ≤ maxLen := by unfold maxLen; omega
theorem len_ok8 {m n j : Nat} (h : m ≤ 10000) (g : n ≤ 10000) (hj : j ≤ n) : (m + j + 1) * 8 ≤ 140737488355328 := by omega
/-- a value of a run, known by the box's one cell and the list alone -/
theorem value_at {w : World} {q : Nat} {vv : Value} {V : List Int} (c19 : w.cell? ⟨q, 19, none⟩ = some vv) (hv : Reads w vv V) (hl : V.length ≤ 100000) (p : Int) : Calls Tryd.prog 32 #[.pointer (some ⟨q, 0, none⟩), .int .i64 p] w fun e w' => e = .returned (.int .i64 (val V p)) ∧ w' = w := by
  have C := Lib.hid (get_any hv hl p)
  obtain ⟨g, hg⟩ : ∃ g, getL V p = g := ⟨_, rfl⟩
  have HV := Lib.hid (show val V p = g.1 by unfold val; rw [hg])
  rw [hg] at C
  clear hv hl hg
  go_enter Tryd.func32, Tryd.ntmps32
  go_wp2_with (go_at_call 30; refine C.out.mono ?_; rintro e w' ⟨rfl, rfl⟩)
  go_ret
  exact ⟨Cell.ret1 HV.out.symm, rfl⟩
/-- a list less its topmost cells, and values behind -/
def Laid (w : World) (B : Nat) (l : Value) (ys : List Int) (e : Ending) (w' : World) : Prop :=
  ∃ v, e = .returned v ∧ Owns w' B 3 v (vals ys) ∧ Stirred w w' (blk l).toList ∧ ∀ b, blk v = some b → blk l = some b ∨ w.heap.size ≤ b
set_option maxHeartbeats 8000000 in
set_option maxRecDepth 100000 in
theorem lay_any {W w : World} {q : Nat} {o : Obj} {vv l vp : Value} {V xs ps : List Int} {k : Nat} (hb : Below W.heap.size W w) (hq : w.heap[q]? = some o) (hc : ∀ w' : World, w'.heap[q]? = some o → w'.cell? ⟨q, 19, none⟩ = some vv) (hv : Owns w W.heap.size 3 vv (vals V)) (hV : V.length ≤ 100000)
    (hl : Owns w W.heap.size 3 l (vals xs)) (nq : blk l ≠ some q) (nv : ∀ b, blk l = some b → blk vv ≠ some b) (hp : Reads W vp ps) (hk : k ≤ xs.length) (hx : xs.length ≤ 10000) (hps : ps.length ≤ 10000) :
    Calls Tryd.prog 29 #[.pointer (some ⟨q, 0, none⟩), l, .int .i64 (k : Int), vp] w (Laid w W.heap.size l (xs.take (xs.length - k) ++ ps.map (val V))) := by
  obtain ⟨i0, q1, q2, q3, q4⟩ := info_parts Tryd.bkIntInfo
  have HI := Lib.hid (And.intro q1 (And.intro q2 (And.intro q3 q4)))
  obtain ⟨ao, cap, el⟩ := hl.slice
  rw [vals_length] at el
  obtain ⟨m, hm⟩ : ∃ m, xs.length - k = m := ⟨_, rfl⟩
  obtain ⟨nx, hnx⟩ : ∃ n, xs.length = n := ⟨_, rfl⟩
  obtain ⟨n, hn⟩ : ∃ n, ps.length = n := ⟨_, rfl⟩
  have HL := Lib.hid hl
  have HRC := Lib.hid (ReadsC.of_owns hl)
  rw [el] at HRC
  rw [hnx] at el HRC
  obtain ⟨vo, vc, rfl, -⟩ := hp.below hb
  have HP := Lib.hid hp
  rw [hn] at HP
  rw [hn]
  have HN := Lib.hid hn
  have HB := Lib.hid hb
  have HQ := Lib.hid hq
  have HC := Lib.hid hc
  have HV := Lib.hid hv
  have HVL := Lib.hid hV
  have NQ := Lib.hid nq
  have NV := Lib.hid nv
  have hm0 : m ≤ 10000 := by rw [← hm]; exact Nat.le_trans (Nat.sub_le _ _) hx
  have HM := Lib.hid (show m ≤ 10000 ∧ n ≤ 10000 ∧ m ≤ xs.length from ⟨hm0, by rw [← hn]; exact hps, by rw [← hm]; exact Nat.sub_le _ _⟩)
  have hm1 : wrap64 (m : Int) = (m : Int) := wrap_nat hm0
  have HSH := Lib.hid (show Owns w W.heap.size 3 (.slice ao m cap) (vals (xs.take m)) by rw [el] at hl; exact Mem.owns_shorter hl (by rw [← hm]; exact Nat.sub_le _ _))
  have HBK := Lib.hid (show blk (.slice ao m cap) = blk l by rw [el]; cases ao <;> rfl)
  rw [hm]
  subst el
  have hm2 : (nx : Int) - (k : Int) = (m : Int) := sub_cast (by rw [← hnx]; exact hm) (by rw [← hnx]; exact hk)
  have hcap : m ≤ cap := by
    obtain ⟨-, ao', c', e, hcc⟩ := HRC.out
    simp only [Value.slice.injEq] at e
    obtain ⟨-, -, rfl⟩ := e
    exact Nat.le_trans HM.out.2.2 hcc
  clear hl hp hb hq hc hv hV nq nv hn hnx hm hk hx hps hm0 q1 q2 q3 q4
  go_enter Tryd.func29, Tryd.ntmps29
  go_wp2
  simp only [hm1]
  clear hm1 hm2 hcap
  go_loopg [1, 19] n (fun zz v i wr => ∃ (j : Nat), zz = n - j ∧ j ≤ n ∧ i = .int .i64 (j : Int) ∧ Hid (Owns wr W.heap.size 3 v (vals (xs.take m ++ (ps.take j).map (val V)))) ∧ Hid (Stirred w wr (blk (.slice ao nx cap)).toList) ∧ Hid (∀ b, blk v = some b → blk (.slice ao nx cap) = some b ∨ w.heap.size ≤ b))
  case atStart => exact ⟨0, rfl, Nat.zero_le _, rfl, Lib.hid (by rw [List.take_zero, List.map_nil, List.append_nil]; exact HSH.out), Lib.hid (Stirred.refl _ _), Lib.hid (fun b e => .inl (by rw [← HBK.out]; exact e))⟩
  case round =>
    obtain ⟨j, rfl, hj, rfl, HO, HT, HK⟩ := hrel
    have hin : ∀ b, b ∈ (blk (.slice ao nx cap)).toList → blk (.slice ao nx cap) = some b := fun b hm => Option.mem_toList.1 hm
    have HBW := Lib.hid (HB.out.trans (HT.out.below (B := W.heap.size) (fun b hm => (HL.out.block b (hin b hm)).1) HB.out.size))
    by_cases hlt : j < n
    · obtain ⟨p, hp⟩ : ∃ p, ps[j]? = some p := ⟨_, List.getElem?_eq_getElem (by rw [HN.out]; exact hlt)⟩
      have htk : (ps.take (j + 1)).map (val V) = (ps.take j).map (val V) ++ [val V p] := by rw [List.take_add_one, hp]; simp
      obtain ⟨ad, rfl, p0⟩ := Ir.Reads.at' (HP.out.below HBW.out) hp
      have HQR := Lib.hid (HT.out.whole HQ.out (fun hm => NQ.out (hin q hm)))
      have HVR := Lib.hid (HV.out.touch HT.out (fun b e hm => NV.out b (hin b hm) e))
      have C := Lib.hid (value_at (HC.out _ HQR.out) (Reads.of_owns HVR.out) HVL.out p)
      obtain ⟨y, hy⟩ : ∃ y, val V p = y := ⟨_, rfl⟩
      rw [hy] at C htk
      have HTK := Lib.hid htk
      obtain ⟨ao5, cap5, e5⟩ := HO.out.slice
      subst e5
      obtain ⟨w6, g6, hw6, hg6, HROW, HB6⟩ := row_one wr y
      have HO6 := Lib.hid (HO.out.below HB6.out)
      have hlen : (vals (xs.take m ++ (ps.take j).map (val V))).length = m + j := by
        rw [vals_length, List.length_append, List.length_map, List.length_take, List.length_take, HN.out, Nat.min_eq_left HM.out.2.2, Nat.min_eq_left hj]
      have HLE := Lib.hid hlen
      have z0 : (0 : Int) ≤ (j : Int) := by omega
      have z1 : (j : Int) < (n : Int) := by omega
      have z3 : n ≤ 10000 := HM.out.2.1
      clear hp hy htk
      rw [hlen] at HO HO6 HK
      rw [hlen]
      have HBS := Lib.hid (show W.heap.size ≤ w6.heap.size from Nat.le_trans HBW.out.size HB6.out.size)
      clear hlen
      go_wp2_with (first
        | (go_at_call 32; refine C.out.mono ?_; rintro e w' ⟨rfl, rfl⟩)
        | (refine wpList_append_reads _ rfl _ _ 24 rfl W.heap.size 3 i0 (.int .i64 0) 8 Tryd.underlying24 HI.out.1 HI.out.2.1 HI.out.2.2.1 HI.out.2.2.2 rfl (.slice ao5 (m + j) cap5) (vals (xs.take m ++ (ps.take j).map (val V))) rfl HO6.out (.slice (some ⟨g6, 0, none⟩) 1 1) [y] rfl HROW.out (by rw [HLE.out]; exact len_ok HM.out.1 HM.out.2.1 hj) (by rw [HLE.out]; exact len_ok8 HM.out.1 HM.out.2.1 hj) HBS.out ?_; intro v2 w7 ho _ ht hk; have HO7 := Lib.hid ho; have HT7 := Lib.hid ht; have HK7 := Lib.hid hk; clear ho ht hk))
      go_roundg (n - (j + 1))
      case measure => omega
      case rel => exact ⟨j + 1, rfl, by omega, by go_num, Lib.hid (by rw [HTK.out, ← List.append_assoc, vals, List.map_append]; exact HO7.out), Lib.hid ((HT.out.trans (Stirred.of_below HB6.out []) (fun k hk => (by cases hk))).trans HT7.out (fun b hb => by
        rcases HK.out b (Option.mem_toList.1 hb) with h | h
        · exact .inl (Option.mem_toList.2 h)
        · exact .inr h)), Lib.hid (fun b e => by
        rcases HK7.out with h | ⟨b', h, hh⟩
        · exact HK.out b (h ▸ e)
        · rw [h] at e; cases e; exact .inr (by have h1 := HT.out.size; have h2 := HB6.out.size; omega))⟩
    · obtain rfl : j = n := by omega
      have HO2 := Lib.hid (show Owns wr W.heap.size 3 _ (vals (xs.take m ++ ps.map (val V))) by have h := HO.out; rw [List.take_of_length_le (Nat.le_of_eq HN.out)] at h; exact h)
      go_wp2
      go_ret
      exact ⟨_, rfl, HO2.out, HT.out, HK.out⟩
end Go.Proofs.YtgabemlehmhgpaaDoor.Ev
/- Package eval: the machine at an exit. -/
namespace Go.Proofs.YtgabemlehmhgpaaDoor.Ev
open Go.RowKit Book Mem
open Ir (T I O trA ReadsL outA outV)
open Mach (M less cells10 zero10 OwnsL OwnsM stV st_state ld_state state_size slice_one all_one)
set_option linter.unusedSimpArgs false
set_option linter.unusedVariables false
/-- a state's box whose lists are told one by one; further blocks stay -/
structure LV (W w : World) (h : Nat) (m : M) (vS vB vm vv : Value) (xS xB V : List Int) (fx : Nat → Option Obj) : Prop where
  hb : Below W.heap.size W w
  hh : W.heap.size ≤ h
  box : w.heap[h]? = some (.cells (cells10 m.ip m.handler vS vB vm m.out m.inp m.read m.status m.code) 28 (0, 0))
  st : Owns w W.heap.size 3 vS (vals xS)
  bk : Owns w W.heap.size 3 vB (vals xB)
  me : Owns w W.heap.size 3 vm (vals m.mem)
  vl : Owns w W.heap.size 3 vv (vals V)
  ns : ∀ k, blk vS = some k → k ≠ h ∧ blk vB ≠ some k ∧ blk vm ≠ some k ∧ blk vv ≠ some k
  nb : ∀ k, blk vB = some k → k ≠ h ∧ blk vm ≠ some k ∧ blk vv ≠ some k
  nm : ∀ k, blk vm = some k → k ≠ h ∧ blk vv ≠ some k
  nv : ∀ k, blk vv = some k → k ≠ h
  fr : ∀ k o, fx k = some o → w.heap[k]? = some o ∧ k ≠ h ∧ blk vS ≠ some k ∧ blk vB ≠ some k ∧ blk vm ≠ some k ∧ blk vv ≠ some k
section
variable {W w wn : World} {h : Nat} {m : M} {vS vB vm vv v : Value} {xS xB V ys : List Int} {fx : Nat → Option Obj}
theorem LV.lt (g : LV W w h m vS vB vm vv xS xB V fx) : h < w.heap.size := whole_lt g.box
/-- the stack is told -/
theorem LV.setS (g : LV W w h m vS vB vm vv xS xB V fx) (ho : Owns wn W.heap.size 3 v (vals ys)) (ht : Stirred w wn (blk vS).toList) (hk : ∀ b, blk v = some b → blk vS = some b ∨ w.heap.size ≤ b) :
    LV W (wn.setCell ⟨h, 2, none⟩ v) h m v vB vm vv ys xB V fx := by
  have hv : ∀ k, k ∈ (blk vS).toList → blk vS = some k := fun k hm => Option.mem_toList.1 hm
  have hq : ∀ k, blk v = some k → k ≠ h := fun k e e' => by
    subst e'
    rcases hk _ e with hk | e2
    · exact (g.ns _ hk).1 rfl
    · have := g.lt; omega
  have far : ∀ {u : Value} {xs : List Int}, Owns w W.heap.size 3 u (vals xs) → (∀ k, blk vS = some k → blk u ≠ some k) → ∀ k, blk v = some k → blk u ≠ some k := fun hu hn k e e' => by
    rcases hk _ e with hk | e2
    · exact hn k hk e'
    · have := (hu.block _ e').2.1; omega
  have ht2 := Stirred.setCell wn ⟨h, 2, none⟩ v
  have hx : ∀ {k : Nat}, k ≠ h → k ∉ [h] := fun h hm => h (List.mem_singleton.1 hm)
  have hB1 : Below W.heap.size W wn := g.hb.trans (ht.below (fun k hm => (g.st.block k (hv k hm)).1) g.hb.size)
  have keep : ∀ {u : Value} {xs : List Int}, Owns w W.heap.size 3 u (vals xs) → (∀ k, blk u = some k → k ≠ h ∧ blk vS ≠ some k) → Owns (wn.setCell ⟨h, 2, none⟩ v) W.heap.size 3 u (vals xs) := fun hu hn =>
    (hu.touch ht (fun k e hm => (hn k e).2 (hv k hm))).touch ht2 (fun k e => hx (hn k e).1)
  refine ⟨hB1.trans (ht2.below (fun k hm => by rw [List.mem_singleton.1 hm]; exact g.hh) hB1.size), g.hh, whole_set (ht.whole g.box (fun hm => (g.ns _ (hv _ hm)).1 rfl)) 2 v, ho.touch ht2 (fun k e => hx (hq k e)),
    keep g.bk (fun k e => ⟨(g.nb k e).1, fun e' => (g.ns k e').2.1 e⟩), keep g.me (fun k e => ⟨(g.nm k e).1, fun e' => (g.ns k e').2.2.1 e⟩), keep g.vl (fun k e => ⟨g.nv k e, fun e' => (g.ns k e').2.2.2 e⟩),
    fun k e => ⟨hq k e, far g.bk (fun k e => (g.ns k e).2.1) k e, far g.me (fun k e => (g.ns k e).2.2.1) k e, far g.vl (fun k e => (g.ns k e).2.2.2) k e⟩, g.nb, g.nm, g.nv, fun k o e => ?_⟩
  obtain ⟨f1, f2, f3, f4, f5, f6⟩ := g.fr k o e
  refine ⟨ht2.whole (ht.whole f1 (fun hm => f3 (hv k hm))) (hx f2), f2, fun e' => ?_, f4, f5, f6⟩
  rcases hk _ e' with hk | e2
  · exact f3 hk
  · have := whole_lt f1; omega
/-- the other stack is told -/
theorem LV.setB (g : LV W w h m vS vB vm vv xS xB V fx) (ho : Owns wn W.heap.size 3 v (vals ys)) (ht : Stirred w wn (blk vB).toList) (hk : ∀ b, blk v = some b → blk vB = some b ∨ w.heap.size ≤ b) :
    LV W (wn.setCell ⟨h, 3, none⟩ v) h m vS v vm vv xS ys V fx := by
  have hv : ∀ k, k ∈ (blk vB).toList → blk vB = some k := fun k hm => Option.mem_toList.1 hm
  have hq : ∀ k, blk v = some k → k ≠ h := fun k e e' => by
    subst e'
    rcases hk _ e with hk | e2
    · exact (g.nb _ hk).1 rfl
    · have := g.lt; omega
  have far : ∀ {u : Value} {xs : List Int}, Owns w W.heap.size 3 u (vals xs) → (∀ k, blk vB = some k → blk u ≠ some k) → ∀ k, blk v = some k → blk u ≠ some k := fun hu hn k e e' => by
    rcases hk _ e with hk | e2
    · exact hn k hk e'
    · have := (hu.block _ e').2.1; omega
  have ht2 := Stirred.setCell wn ⟨h, 3, none⟩ v
  have hx : ∀ {k : Nat}, k ≠ h → k ∉ [h] := fun h hm => h (List.mem_singleton.1 hm)
  have hB1 : Below W.heap.size W wn := g.hb.trans (ht.below (fun k hm => (g.bk.block k (hv k hm)).1) g.hb.size)
  have keep : ∀ {u : Value} {xs : List Int}, Owns w W.heap.size 3 u (vals xs) → (∀ k, blk u = some k → k ≠ h ∧ blk vB ≠ some k) → Owns (wn.setCell ⟨h, 3, none⟩ v) W.heap.size 3 u (vals xs) := fun hu hn =>
    (hu.touch ht (fun k e hm => (hn k e).2 (hv k hm))).touch ht2 (fun k e => hx (hn k e).1)
  refine ⟨hB1.trans (ht2.below (fun k hm => by rw [List.mem_singleton.1 hm]; exact g.hh) hB1.size), g.hh, whole_set (ht.whole g.box (fun hm => (g.nb _ (hv _ hm)).1 rfl)) 3 v,
    keep g.st (fun k e => ⟨(g.ns k e).1, (g.ns k e).2.1⟩), ho.touch ht2 (fun k e => hx (hq k e)), keep g.me (fun k e => ⟨(g.nm k e).1, fun e' => (g.nb k e').2.1 e⟩), keep g.vl (fun k e => ⟨g.nv k e, fun e' => (g.nb k e').2.2 e⟩),
    fun k e => ⟨(g.ns k e).1, fun e' => far g.st (fun k e1 e2 => (g.ns k e2).2.1 e1) k e' e, (g.ns k e).2.2⟩, fun k e => ⟨hq k e, far g.me (fun k e => (g.nb k e).2.1) k e, far g.vl (fun k e => (g.nb k e).2.2) k e⟩, g.nm, g.nv, fun k o e => ?_⟩
  obtain ⟨f1, f2, f3, f4, f5, f6⟩ := g.fr k o e
  refine ⟨ht2.whole (ht.whole f1 (fun hm => f4 (hv k hm))) (hx f2), f2, f3, fun e' => ?_, f5, f6⟩
  rcases hk _ e' with hk | e2
  · exact f4 hk
  · have := whole_lt f1; omega
end
theorem LV.of_run {W w : World} {q h : Nat} {t : T} {wat : List Int} {s : M} {V : List Int} {hit : Bool} {z : Sl} {ip : Int} (g : RunAt W w q t wat s V hit z) (hh : W.heap.size ≤ h)
    (hx : z.ex h = some (.cells (cells10 ip s.handler z.vs z.vb z.vm s.out s.inp s.read s.status s.code) 28 (0, 0))) :
    LV W w h { s with ip := ip } z.vs z.vb z.vm z.vv s.stack s.back V (fun k => if k = h then none else if k = q then some (.cells (cells22 t s hit z) 51 (0, 0)) else z.ex k) := by
  obtain ⟨f1, f2, f3, f4, f5, f6⟩ := g.fr h _ hx
  refine ⟨g.hb, hh, f1, g.st, g.bk, g.me, g.vl, fun k e => ⟨fun e' => by subst e'; exact f3 e, (g.ns k e).2⟩, fun k e => ⟨fun e' => by subst e'; exact f4 e, (g.nb k e).2⟩, fun k e => ⟨fun e' => by subst e'; exact f5 e, (g.nm k e).2⟩, fun k e e' => by subst e'; exact f6 e, fun k o e => ?_⟩
  split at e
  · cases e
  · rename_i n1
    split at e
    · rename_i n2
      subst n2
      cases e
      exact ⟨g.box, n1, fun e => (g.ns _ e).1 rfl, fun e => (g.nb _ e).1 rfl, fun e => (g.nm _ e).1 rfl, fun e => g.nv _ e rfl⟩
    · obtain ⟨e1, e2, e3⟩ := g.fr k o e
      exact ⟨e1, n1, e3⟩
end Go.Proofs.YtgabemlehmhgpaaDoor.Ev
/- Package eval: the machine at an exit: the walk. -/
namespace Go.Proofs.YtgabemlehmhgpaaDoor.Ev
open Go.RowKit Book Mem
open Ir (T I O trA ReadsL outA outV newBox boxOn)
open Mach (M less cells10 zero10 OwnsL OwnsM stV st_state ld_state state_size slice_one all_one)
set_option linter.unusedSimpArgs false
set_option linter.unusedVariables false
theorem LV.below {W w w' : World} {h : Nat} {m : M} {vS vB vm vv : Value} {xS xB V : List Int} {fx : Nat → Option Obj} (g : LV W w h m vS vB vm vv xS xB V fx) (hb : Below w.heap.size w w') : LV W w' h m vS vB vm vv xS xB V fx :=
  ⟨g.hb.trans (hb.mono g.hb.size), g.hh, (Stirred.of_below hb []).whole g.box List.not_mem_nil, g.st.below hb, g.bk.below hb, g.me.below hb, g.vl.below hb, g.ns, g.nb, g.nm, g.nv, fun k o e => ⟨(Stirred.of_below hb []).whole (g.fr k o e).1 List.not_mem_nil, (g.fr k o e).2⟩⟩
theorem fx_facts {q g r h n m : Nat} {z : Sl} {ob oh or og : Obj} (ho : q < g ∧ g < r ∧ r < h ∧ n = g ∧ m ≤ q) (hx : ∀ k o, z.ex k = some o → k < g ∧ k ≠ q) :
    (fun k => if k = h then none else if k = q then some ob else put1 h oh (put1 r or (put1 g og z.ex)) k) q = some ob ∧ (fun k => if k = h then none else if k = q then some ob else put1 h oh (put1 r or (put1 g og z.ex)) k) r = some or ∧ (fun k => if k = h then none else if k = q then some ob else put1 h oh (put1 r or (put1 g og z.ex)) k) g = some og ∧ ∀ k o, z.ex k = some o → (fun k => if k = h then none else if k = q then some ob else put1 h oh (put1 r or (put1 g og z.ex)) k) k = some o := by
  obtain ⟨h1, h2, h3, -, -⟩ := ho
  unfold put1
  dsimp only
  refine ⟨?_, ?_, ?_, fun k o e => ?_⟩
  · rw [if_neg (by omega), if_pos rfl]
  · rw [if_neg (by omega), if_neg (by omega), if_neg (by omega), if_pos rfl]
  · rw [if_neg (by omega), if_neg (by omega), if_neg (by omega), if_neg (by omega), if_pos rfl]
  · have hk := hx k o e
    rw [if_neg (by omega), if_neg hk.2, if_neg (by omega), if_neg (by omega), if_neg (by omega)]
    exact e
/-- what a call leaves, its answer the machine at an exit -/
def Left (W : World) (q : Nat) (t : T) (s : M) (hit : Bool) (z : Sl) (m : M) (e : Ending) (w' : World) : Prop :=
  ∃ v, e = .returned v ∧ OwnsM w' W.heap.size v m ∧ Below W.heap.size W w' ∧ w'.heap[q]? = some (.cells (cells22 t s hit z) 51 (0, 0)) ∧ ∀ k o, z.ex k = some o → w'.heap[k]? = some o
section
variable {W w : World} {q : Nat} {t : T} {wat : List Int} {s : M} {V : List Int} {hit : Bool} {z : Sl}
set_option maxHeartbeats 8000000 in
set_option maxRecDepth 100000 in
theorem leave_any (hR : RunAt W w q t wat s V hit z) (hz : s.stack.length ≤ 10000) (hz2 : s.back.length ≤ 10000) (hV : V.length ≤ 100000) (x : O) {xs xb : Value} (hxs : Reads W xs x.stack) (hxb : Reads W xb x.back) (l1 : x.stack.length ≤ 10000) (l2 : x.back.length ≤ 10000)
    {ks kb : Nat} (e1 : t.slots = (ks : Int)) (hk1 : ks ≤ s.stack.length) (e2 : t.backs = (kb : Int)) (hk2 : kb ≤ s.back.length) :
    Calls Tryd.prog 24 #[.pointer (some ⟨q, 0, none⟩), outV x xs xb] w (Left W q t s hit z (leaveM t s V x)) := by
  obtain ⟨w1, g, hw1, hg, HG, HB1, HZ1⟩ := newBox w (outA x xs xb) 39
  obtain ⟨w2, r, hw2, hr, HR, HB2, HZ2⟩ := newBox w1 zero10 28
  obtain ⟨w3, h, hw3, hh, HH, HB3, HZ3⟩ := newBox w2 zero10 28
  have R2 := Lib.hid (((hR.fresh (w' := w1) (bs := []) (Stirred.of_below HB1.out []) (fun k hk => by cases hk) (Nat.le_of_eq HZ1.out) HG.out).fresh (w' := w2) (bs := []) (Stirred.of_below HB2.out []) (fun k hk => by cases hk) (Nat.le_of_eq HZ2.out) HR.out))
  have hqg : q < g := by rw [← HZ1.out]; exact hR.lt
  have hgr : g < r := by rw [← HZ2.out]; exact whole_lt HG.out
  have hrh : r < h := by rw [← HZ3.out]; exact whole_lt HR.out
  have HO := Lib.hid (show q < g ∧ g < r ∧ r < h ∧ w.heap.size = g ∧ W.heap.size ≤ q from ⟨hqg, hgr, hrh, HZ1.out, hR.hq⟩)
  have HXL := Lib.hid (fun k o (e : z.ex k = some o) => show k < g ∧ k ≠ q from ⟨by rw [← HZ1.out]; exact whole_lt (hR.fr k o e).1, (hR.fr k o e).2.1⟩)
  have HG3 := Lib.hid (boxOn (boxOn HG.out HB2.out) HB3.out)
  have bx := R2.out.box
  have b9 : w2.cell? ⟨q, 9, none⟩ = some (.int .i64 s.ip) := whole_cell bx rfl
  have b10 : w2.cell? ⟨q, 10, none⟩ = some (.int .i64 s.handler) := whole_cell bx rfl
  have b11 : w2.cell? ⟨q, 11, none⟩ = some z.vs := whole_cell bx rfl
  have b12 : w2.cell? ⟨q, 12, none⟩ = some z.vb := whole_cell bx rfl
  have b13 : w2.cell? ⟨q, 13, none⟩ = some z.vm := whole_cell bx rfl
  have b14 : w2.cell? ⟨q, 14, none⟩ = some (.string s.out) := whole_cell bx rfl
  have b15 : w2.cell? ⟨q, 15, none⟩ = some (.string s.inp) := whole_cell bx rfl
  have b16 : w2.cell? ⟨q, 16, none⟩ = some (.int .i64 s.read) := whole_cell bx rfl
  have b17 : w2.cell? ⟨q, 17, none⟩ = some (.int .i64 s.status) := whole_cell bx rfl
  have b18 : w2.cell? ⟨q, 18, none⟩ = some (.int .i64 s.code) := whole_cell bx rfl
  have HONE := Lib.hid (And.intro (slice_one hR.st.slice) (And.intro (slice_one hR.bk.slice) (slice_one hR.me.slice)))
  have HA := Lib.hid (And.intro hz (And.intro hz2 (And.intro hV (And.intro l1 (And.intro l2 (And.intro hk1 hk2))))))
  have HXS := Lib.hid hxs
  have HXB := Lib.hid hxb
  have HE1 := Lib.hid e1
  have HE2 := Lib.hid e2
  obtain ⟨xip, xst, xk, xbk⟩ := x
  clear bx hR hz hz2 hV hxs hxb l1 l2 e1 e2 hk1 hk2 hqg hgr hrh
  go_enter Tryd.func24, Tryd.ntmps24
  go_upto_region 2 with (refine st_state (by rfl) _ _ rfl h (cells10 s.ip s.handler z.vs z.vb z.vm s.out s.inp s.read s.status s.code) rfl rfl _ _ HH.out rfl rfl (all_one HONE.out.1 HONE.out.2.1 HONE.out.2.2) ?_; intro w4 h4 t4)
  have hGh : g ∉ [h] := fun hm => by have h1 := List.mem_singleton.1 hm; have h2 := HO.out; omega
  have g4 := t4.whole HG3.out hGh
  have g0 : w4.cell? ⟨g, 0, none⟩ = some (.int .i64 xip) := whole_cell g4 rfl
  have h0 : w4.cell? ⟨h, 0, none⟩ = some (.int .i64 s.ip) := whole_cell h4 rfl
  have f0 : w4.frozen? ⟨h, 0, none⟩ = false := whole_frozen h4 0
  have R5 := Lib.hid (R2.out.fresh (w' := w4.setCell ⟨h, 0, none⟩ (.int .i64 xip)) (bs := [h]) (((Stirred.of_below HB3.out [h]).trans t4 (fun k hk => .inl hk)).trans (Stirred.setCell w4 ⟨h, 0, none⟩ (.int .i64 xip)) (fun k hk => .inl hk)) (fun k hk => List.mem_singleton.1 hk) (Nat.le_of_eq HZ3.out) (whole_set h4 0 (.int .i64 xip)))
  have L5 := Lib.hid (LV.of_run (h := h) (ip := xip) R5.out (by have := HO.out; omega) (put1_at h _ _))
  have HFX := Lib.hid (fx_facts (z := z) (ob := .cells (cells22 t s hit z) 51 (0, 0)) HO.out HXL.out (oh := .cells ((cells10 s.ip s.handler z.vs z.vb z.vm s.out s.inp s.read s.status s.code).setIfInBounds 0 (.int .i64 xip)) 28 (0, 0)) (or := .cells zero10 28 (0, 0)) (og := .cells (outA ⟨xip, xst, xk, xbk⟩ xs xb) 39 (0, 0)))
  obtain ⟨w5, hw5⟩ : ∃ w5, w4.setCell ⟨h, 0, none⟩ (.int .i64 xip) = w5 := ⟨_, rfl⟩
  rw [hw5] at L5
  change Hid (LV W w5 h _ _ _ _ _ _ _ _ (fun k => if k = h then none else if k = q then some (.cells (cells22 t s hit z) 51 (0, 0)) else put1 h (.cells ((cells10 s.ip s.handler z.vs z.vb z.vm s.out s.inp s.read s.status s.code).setIfInBounds 0 (.int .i64 xip)) 28 (0, 0)) (put1 r (.cells zero10 28 (0, 0)) (put1 g (.cells (outA ⟨xip, xst, xk, xbk⟩ xs xb) 39 (0, 0)) z.ex)) k)) at L5
  generalize (fun k => if k = h then none else if k = q then some (Obj.cells (cells22 t s hit z) 51 (0, 0)) else put1 h (.cells ((cells10 s.ip s.handler z.vs z.vb z.vm s.out s.inp s.read s.status s.code).setIfInBounds 0 (.int .i64 xip)) 28 (0, 0)) (put1 r (.cells zero10 28 (0, 0)) (put1 g (.cells (outA ⟨xip, xst, xk, xbk⟩ xs xb) 39 (0, 0)) z.ex)) k) = fx at L5 HFX
  obtain ⟨FQ, FR, FG, FE⟩ := HFX.out
  clear g4 h4 t4 b9 b10 b11 b12 b13 b14 b15 b16 b17 b18 hw1 hw2 hw3 hg hr hh R5 R2 HG3 HFX hGh
  dsimp only [Act.put]
  go_upto_region 3 with fail
  clear hw5 g0 h0 f0
  go_cut [] (fun wx => ∃ v6, Hid (LV W wx h { s with ip := xip } v6 z.vb z.vm z.vv (s.stack.take (s.stack.length - ks) ++ xk.map (val V)) s.back V fx))
  case first =>
    have L5d := Lib.hid (L5.out.below (Below.refl _ _).drew)
    have C1 := Lib.hid (lay_any (W := W) (w := w5.drew) (q := q) (vv := z.vv) (l := z.vs) (vp := xs) (ps := xk) (k := ks) L5d.out.hb (L5d.out.fr q _ FQ).1 (fun w' hw' => whole_cell hw' rfl) L5d.out.vl HA.out.2.2.1 L5d.out.st (L5d.out.fr q _ FQ).2.2.1 (fun b e => (L5d.out.ns b e).2.2.2) HXS.out HA.out.2.2.2.2.2.1 HA.out.1 HA.out.2.2.2.1)
    have a2 : w5.drew.cell? ⟨h, 2, none⟩ = some z.vs := whole_cell L5d.out.box rfl
    have a1 : w5.drew.cell? ⟨q, 1, none⟩ = some (.int .i64 (ks : Int)) := by have e := whole_cell (L5d.out.fr q _ FQ).1 (show (cells22 t s hit z)[1]? = some (.int .i64 t.slots) from rfl); rw [HE1.out] at e; exact e
    have ag : w5.drew.cell? ⟨g, 2, none⟩ = some xs := whole_cell (L5d.out.fr g _ FG).1 rfl
    go_wp2_with fail
    go_region_with ((go_at_call 29; refine C1.out.mono ?_; rintro e w6 ⟨v6, rfl, ho6, ht6, hk6⟩; have c2 : w6.cell? ⟨h, 2, none⟩ = some z.vs := whole_cell (ht6.whole L5d.out.box (fun hm => (L5d.out.ns _ (Option.mem_toList.1 hm)).1 rfl)) rfl; have f2 : w6.frozen? ⟨h, 2, none⟩ = false := whole_frozen (ht6.whole L5d.out.box (fun hm => (L5d.out.ns _ (Option.mem_toList.1 hm)).1 rfl)) 2; have L7 := Lib.hid (L5d.out.setS ho6 ht6 hk6); obtain ⟨ao6, cap6, e6⟩ := ho6.slice; obtain ⟨n6, hn6⟩ : ∃ n, (vals (s.stack.take (s.stack.length - ks) ++ xk.map (val V))).length = n := ⟨_, rfl⟩; rw [hn6] at e6; subst e6; clear ho6 ht6 hk6 hn6 a1 a2 ag))
    all_goals
      go_wp2_with fail
      go_meet
      exact ⟨_, L7⟩
  case rest =>
    obtain ⟨v6, L7⟩ := hcut
    clear L5
    obtain ⟨wa, hwa⟩ : ∃ wa, wc = wa := ⟨_, rfl⟩
    subst hwa
    go_upto_region 4 with fail
    go_cut [] (fun wx => ∃ v8, Hid (LV W wx h { s with ip := xip } v6 v8 z.vm z.vv (s.stack.take (s.stack.length - ks) ++ xk.map (val V)) (s.back.take (s.back.length - kb) ++ xbk.map (val V)) V fx))
    case first =>
      have L5d := Lib.hid (L7.out.below (Below.refl _ _).drew)
      have C1 := Lib.hid (lay_any (W := W) (w := wc.drew) (q := q) (vv := z.vv) (l := z.vb) (vp := xb) (ps := xbk) (k := kb) L5d.out.hb (L5d.out.fr q _ FQ).1 (fun w' hw' => whole_cell hw' rfl) L5d.out.vl HA.out.2.2.1 L5d.out.bk (L5d.out.fr q _ FQ).2.2.2.1 (fun b e => (L5d.out.nb b e).2.2) HXB.out HA.out.2.2.2.2.2.2 HA.out.2.1 HA.out.2.2.2.2.1)
      have a2 : wc.drew.cell? ⟨h, 3, none⟩ = some z.vb := whole_cell L5d.out.box rfl
      have a1 : wc.drew.cell? ⟨q, 2, none⟩ = some (.int .i64 (kb : Int)) := by have e := whole_cell (L5d.out.fr q _ FQ).1 (show (cells22 t s hit z)[2]? = some (.int .i64 t.backs) from rfl); rw [HE2.out] at e; exact e
      have ag : wc.drew.cell? ⟨g, 3, none⟩ = some xb := whole_cell (L5d.out.fr g _ FG).1 rfl
      go_wp2_with fail
      go_region_with ((go_at_call 29; refine C1.out.mono ?_; rintro e w6 ⟨v6, rfl, ho6, ht6, hk6⟩; have c2 : w6.cell? ⟨h, 3, none⟩ = some z.vb := whole_cell (ht6.whole L5d.out.box (fun hm => (L5d.out.nb _ (Option.mem_toList.1 hm)).1 rfl)) rfl; have f2 : w6.frozen? ⟨h, 3, none⟩ = false := whole_frozen (ht6.whole L5d.out.box (fun hm => (L5d.out.nb _ (Option.mem_toList.1 hm)).1 rfl)) 3; have L7 := Lib.hid (L5d.out.setB ho6 ht6 hk6); obtain ⟨ao6, cap6, e6⟩ := ho6.slice; obtain ⟨n6, hn6⟩ : ∃ n, (vals (s.back.take (s.back.length - kb) ++ xbk.map (val V))).length = n := ⟨_, rfl⟩; rw [hn6] at e6; subst e6; clear ho6 ht6 hk6 hn6 a1 a2 ag))
      all_goals
        go_wp2_with fail
        go_meet
        exact ⟨_, L7⟩
    case rest =>
      obtain ⟨v8, L9⟩ := hcut
      clear L7
      have HBX := Lib.hid L9.out.box
      have HRX := Lib.hid (L9.out.fr r _ FR).1
      have HON := Lib.hid (And.intro (slice_one L9.out.st.slice) (And.intro (slice_one L9.out.bk.slice) (slice_one L9.out.me.slice)))
      go_wp2_with (first
        | (refine ld_state (by rfl) _ rfl _ rfl _ _ HBX.out rfl ?_)
        | (refine st_state (by rfl) _ _ rfl r _ rfl rfl _ _ HRX.out rfl rfl (all_one HON.out.1 HON.out.2.1 HON.out.2.2) ?_; intro wf hr ht; have HRF := Lib.hid hr; have HTF := Lib.hid ht; clear hr ht))
      refine bodyPost_ret (results_cell_row rfl _ _ r _ _ _ _ rfl HRF.out Tryd.underlying28 rfl state_size) rfl ?_
      have hx : ∀ {k : Nat}, k ≠ r → k ∉ [r] := fun h hm => h (List.mem_singleton.1 hm)
      obtain ⟨-, -, r1, r2, r3, r4⟩ := L9.out.fr r _ FR
      have e1 : t.slots.toNat = ks := by rw [HE1.out]; exact Int.toNat_natCast ks
      have e2 : t.backs.toNat = kb := by rw [HE2.out]; exact Int.toNat_natCast kb
      refine ⟨_, rfl, ⟨v6, v8, z.vm, by unfold leaveM; rfl, ?_⟩, L9.out.hb.trans (HTF.out.below (fun k hk => by rw [List.mem_singleton.1 hk]; have := HO.out; omega) L9.out.hb.size), HTF.out.whole (L9.out.fr q _ FQ).1 (hx (by have := HO.out; omega)), fun k o e => HTF.out.whole (L9.out.fr k _ (FE k o e)).1 (hx (by have h1 := (HXL.out k o e).1; have h2 := HO.out; omega))⟩
      unfold leaveM less
      rw [e1, e2]
      exact ⟨L9.out.st.touch HTF.out (fun k e => hx (fun e' => by subst e'; exact r1 e)), L9.out.bk.touch HTF.out (fun k e => hx (fun e' => by subst e'; exact r2 e)), L9.out.me.touch HTF.out (fun k e => hx (fun e' => by subst e'; exact r3 e)), fun k e => ⟨(L9.out.ns k e).2.1, (L9.out.ns k e).2.2.1⟩, fun k e => (L9.out.nb k e).2.1⟩
end
end Go.Proofs.YtgabemlehmhgpaaDoor.Ev
/- Package eval: may a trace be entered? -/
namespace Go.Proofs.YtgabemlehmhgpaaDoor.Ev
open Go.RowKit Book Mem
open Ir (T I O trA trV ReadsL newBox boxOn)
open Mach (M cells10 stV)
set_option linter.unusedSimpArgs false
set_option linter.unusedVariables false
/-- a flag, and the world but for new blocks -/
def SaysF (b : Bool) (w : World) (e : Ending) (w' : World) : Prop := e = .returned (.bool b) ∧ Below w.heap.size w w'
set_option maxHeartbeats 8000000 in
set_option maxRecDepth 100000 in
theorem may_any {w : World} {t : T} {s : M} {vi vo vc vm : Value} {so bo : Option Addr} {sc bc : Nat} (h1 : s.stack.length ≤ 10000) (h2 : s.back.length ≤ 10000) :
    Calls Tryd.prog 20 #[trV t vi vo vc, stV s (.slice so s.stack.length sc) (.slice bo s.back.length bc) vm] w (SaysF (mayT t s) w) := by
  obtain ⟨n, hn⟩ : ∃ n, s.stack.length = n := ⟨_, rfl⟩
  obtain ⟨m, hm⟩ : ∃ n, s.back.length = n := ⟨_, rfl⟩
  rw [hn] at h1 ⊢
  rw [hm] at h2 ⊢
  obtain ⟨w1, g, hw1, hg, HG, HB1, HZ1⟩ := newBox w (trA t vi vo vc) 26
  obtain ⟨w2, k, hw2, hk, HK, HB2, HZ2⟩ := newBox w1 (cells10 s.ip s.handler (.slice so n sc) (.slice bo m bc) vm s.out s.inp s.read s.status s.code) 28
  have HBF := Lib.hid (HB1.out.trans (HB2.out.mono HB1.out.size))
  have hg2 := boxOn HG.out HB2.out
  have t0 : w2.cell? ⟨g, 0, none⟩ = some (.int .i64 t.start) := whole_cell hg2 rfl
  have t1 : w2.cell? ⟨g, 1, none⟩ = some (.int .i64 t.slots) := whole_cell hg2 rfl
  have t2 : w2.cell? ⟨g, 2, none⟩ = some (.int .i64 t.backs) := whole_cell hg2 rfl
  have t3 : w2.cell? ⟨g, 3, none⟩ = some (.int .i64 t.grow) := whole_cell hg2 rfl
  have t4 : w2.cell? ⟨g, 4, none⟩ = some (.int .i64 t.growBack) := whole_cell hg2 rfl
  have s0 : w2.cell? ⟨k, 0, none⟩ = some (.int .i64 s.ip) := whole_cell HK.out rfl
  have s2 : w2.cell? ⟨k, 2, none⟩ = some (.slice so n sc) := whole_cell HK.out rfl
  have s3 : w2.cell? ⟨k, 3, none⟩ = some (.slice bo m bc) := whole_cell HK.out rfl
  have s8 : w2.cell? ⟨k, 8, none⟩ = some (.int .i64 s.status) := whole_cell HK.out rfl
  have W1 := Lib.hid (within_any t.slots (n : Int) w2)
  have W2 := Lib.hid (within_any t.grow (48 - (n : Int)) w2)
  have W3 := Lib.hid (within_any t.backs (m : Int) w2)
  have W4 := Lib.hid (within_any t.growBack (48 - (m : Int)) w2)
  have HM := Lib.hid (show mayT t s = (decide (s.status = 0) && (decide (s.ip = t.start) && (Ir.within t.slots n && (Ir.within t.grow (48 - n) && (Ir.within t.backs m && Ir.within t.growBack (48 - m)))))) by unfold mayT; rw [hn, hm])
  rw [HM.out]
  obtain ⟨stt, hstt⟩ : ∃ x, s.status = x := ⟨_, rfl⟩
  obtain ⟨sip, hsip⟩ : ∃ x, s.ip = x := ⟨_, rfl⟩
  obtain ⟨ts, hts⟩ : ∃ x, t.start = x := ⟨_, rfl⟩
  rw [hstt] at s8 ⊢
  rw [hsip] at s0 ⊢
  rw [hts] at t0 ⊢
  clear hg2 hn hm HM hstt hsip hts

  by_cases c1 : stt = 0
  rotate_left
  · have e1 : (stt == 0) = false := by simpa using c1
    rw [decide_eq_false c1, Bool.false_and]
    clear c1
    go_enter Tryd.func20, Tryd.ntmps20
    go_wp2_with (go_at_call 23; first | (with_reducible refine W1.out.mono ?_; rintro e w' ⟨rfl, rfl⟩) | (with_reducible refine W2.out.mono ?_; rintro e w' ⟨rfl, rfl⟩) | (with_reducible refine W3.out.mono ?_; rintro e w' ⟨rfl, rfl⟩) | (with_reducible refine W4.out.mono ?_; rintro e w' ⟨rfl, rfl⟩))
    go_ret
    exact ⟨rfl, HBF.out⟩
  have e1 : (stt == 0) = true := by simpa using c1
  rw [decide_eq_true c1, Bool.true_and]
  clear c1
  by_cases c2 : sip = ts
  rotate_left
  · have e2 : (sip == ts) = false := by simpa using c2
    rw [decide_eq_false c2, Bool.false_and]
    clear c2
    go_enter Tryd.func20, Tryd.ntmps20
    go_wp2_with (go_at_call 23; first | (with_reducible refine W1.out.mono ?_; rintro e w' ⟨rfl, rfl⟩) | (with_reducible refine W2.out.mono ?_; rintro e w' ⟨rfl, rfl⟩) | (with_reducible refine W3.out.mono ?_; rintro e w' ⟨rfl, rfl⟩) | (with_reducible refine W4.out.mono ?_; rintro e w' ⟨rfl, rfl⟩))
    go_ret
    exact ⟨rfl, HBF.out⟩
  have e2 : (sip == ts) = true := by simpa using c2
  rw [decide_eq_true c2, Bool.true_and]
  clear c2
  cases d0 : Ir.within t.slots (n : Int)
  · rw [d0] at W1
    rw [Bool.false_and]
    clear d0
    go_enter Tryd.func20, Tryd.ntmps20
    go_wp2_with (go_at_call 23; first | (with_reducible refine W1.out.mono ?_; rintro e w' ⟨rfl, rfl⟩) | (with_reducible refine W2.out.mono ?_; rintro e w' ⟨rfl, rfl⟩) | (with_reducible refine W3.out.mono ?_; rintro e w' ⟨rfl, rfl⟩) | (with_reducible refine W4.out.mono ?_; rintro e w' ⟨rfl, rfl⟩))
    go_ret
    exact ⟨rfl, HBF.out⟩
  rw [d0] at W1
  rw [Bool.true_and]
  clear d0
  cases d1 : Ir.within t.grow (48 - (n : Int))
  · rw [d1] at W2
    rw [Bool.false_and]
    clear d1
    go_enter Tryd.func20, Tryd.ntmps20
    go_wp2_with (go_at_call 23; first | (with_reducible refine W1.out.mono ?_; rintro e w' ⟨rfl, rfl⟩) | (with_reducible refine W2.out.mono ?_; rintro e w' ⟨rfl, rfl⟩) | (with_reducible refine W3.out.mono ?_; rintro e w' ⟨rfl, rfl⟩) | (with_reducible refine W4.out.mono ?_; rintro e w' ⟨rfl, rfl⟩))
    go_ret
    exact ⟨rfl, HBF.out⟩
  rw [d1] at W2
  rw [Bool.true_and]
  clear d1
  cases d2 : Ir.within t.backs (m : Int)
  · rw [d2] at W3
    rw [Bool.false_and]
    clear d2
    go_enter Tryd.func20, Tryd.ntmps20
    go_wp2_with (go_at_call 23; first | (with_reducible refine W1.out.mono ?_; rintro e w' ⟨rfl, rfl⟩) | (with_reducible refine W2.out.mono ?_; rintro e w' ⟨rfl, rfl⟩) | (with_reducible refine W3.out.mono ?_; rintro e w' ⟨rfl, rfl⟩) | (with_reducible refine W4.out.mono ?_; rintro e w' ⟨rfl, rfl⟩))
    go_ret
    exact ⟨rfl, HBF.out⟩
  rw [d2] at W3
  rw [Bool.true_and]
  clear d2
  cases d3 : Ir.within t.growBack (48 - (m : Int))
  · rw [d3] at W4
    clear d3
    go_enter Tryd.func20, Tryd.ntmps20
    go_wp2_with (go_at_call 23; first | (with_reducible refine W1.out.mono ?_; rintro e w' ⟨rfl, rfl⟩) | (with_reducible refine W2.out.mono ?_; rintro e w' ⟨rfl, rfl⟩) | (with_reducible refine W3.out.mono ?_; rintro e w' ⟨rfl, rfl⟩) | (with_reducible refine W4.out.mono ?_; rintro e w' ⟨rfl, rfl⟩))
    go_ret
    exact ⟨rfl, HBF.out⟩
  rw [d3] at W4
  clear d3
  go_enter Tryd.func20, Tryd.ntmps20
  go_wp2_with (go_at_call 23; first | (with_reducible refine W1.out.mono ?_; rintro e w' ⟨rfl, rfl⟩) | (with_reducible refine W2.out.mono ?_; rintro e w' ⟨rfl, rfl⟩) | (with_reducible refine W3.out.mono ?_; rintro e w' ⟨rfl, rfl⟩) | (with_reducible refine W4.out.mono ?_; rintro e w' ⟨rfl, rfl⟩))
  go_ret
  exact ⟨rfl, HBF.out⟩
end Go.Proofs.YtgabemlehmhgpaaDoor.Ev
/- Package eval: a trace is run. -/
namespace Go.Proofs.YtgabemlehmhgpaaDoor.Ev
open Go.RowKit Book Mem
open Ir (T I O trA trV ReadsL ReadsO outA outV newBox boxOn ld_tr ld_out CI CT)
open Mach (M less cells10 zero10 OwnsL OwnsM ReadsM stV st_state ld_state state_size slice_one all_one)
set_option linter.unusedSimpArgs false
set_option linter.unusedVariables false
abbrev zero3 : Array Value := #[.int .i64 0, .int .i64 0, .bool false]
abbrev zero4 : Array Value := #[.int .i64 0, .int .i64 0, .slice none 0 0, .slice none 0 0]
set_option maxRecDepth 1000000 in
theorem done_size : (Tryd.prog.info? 34).map (·.size) = some 3 := by kernel_rfl
section
variable {ops : Array Oper} {rest : List Oper} {o : Oper} {a : Act} {w : World} {Q : Exit → Act → World → Prop}
theorem st_done (hw : Region.wanted o (yielded ops a.tmps) = true) (x y : Operand) (ho : o.op = .store 34 x y) (g : Nat) (cs : Array Value) (hx : a.eval x = .pointer (some ⟨g, 0, none⟩)) (hy : a.eval y = .agg cs) (hcs : cs.size = 3) (old : Array Value) (hold : old.size = 3) (hg : w.heap[g]? = some (.cells old 34 (0, 0))) (h1 : cs.all (·.oneCell') = true)
    (h : ∀ w', w'.heap[g]? = some (.cells cs 34 (0, 0)) → Stirred w w' [g] → wpList Tryd.prog ops Q rest (a.put o.dst undef) w') : wpList Tryd.prog ops Q (o :: rest) a w :=
  wpList_setbox hw _ x y ho g cs hx hy old _ hg (by rw [done_size, hcs]) (by rw [hold, hcs]) h1 h
theorem st_out (hw : Region.wanted o (yielded ops a.tmps) = true) (x y : Operand) (ho : o.op = .store 39 x y) (g : Nat) (cs : Array Value) (hx : a.eval x = .pointer (some ⟨g, 0, none⟩)) (hy : a.eval y = .agg cs) (hcs : cs.size = 4) (old : Array Value) (hold : old.size = 4) (hg : w.heap[g]? = some (.cells old 39 (0, 0))) (h1 : cs.all (·.oneCell') = true)
    (h : ∀ w', w'.heap[g]? = some (.cells cs 39 (0, 0)) → Stirred w w' [g] → wpList Tryd.prog ops Q rest (a.put o.dst undef) w') : wpList Tryd.prog ops Q (o :: rest) a w :=
  wpList_setbox hw _ x y ho g cs hx hy old _ hg (by rw [Ir.out_size, hcs]) (by rw [hold, hcs]) h1 h
end
/-- two rows are answered -/
theorem results_two {P : Program} {fn : Func} {p u : Tmp} {ty tu : TypeId} (h : fn.results = #[.cell p ty, .cell u tu]) (tmps : Array Value) (w : World) (g k : Nat) (t1 t2 : TypeId) (cs ds : Array Value) (fr fs : Nat × Nat) (d e : TypeDesc)
    (hp : tmps.getD p undef = .pointer (some ⟨g, 0, none⟩)) (hg : w.heap[g]? = some (.cells cs t1 fr)) (hu : P.underlying ty = some d) (hd : (match d with | .struct _ | .array _ _ => true | _ => false) = true) (hi : (P.info? ty).map (·.size) = some cs.size)
    (hq : tmps.getD u undef = .pointer (some ⟨k, 0, none⟩)) (hk : w.heap[k]? = some (.cells ds t2 fs)) (hv : P.underlying tu = some e) (he : (match e with | .struct _ | .array _ _ => true | _ => false) = true) (hj : (P.info? tu).map (·.size) = some ds.size) :
    (results fn tmps).run P w = .ok (.tuple #[.agg cs, .agg ds]) w := by
  have hp' : tmps[p]?.getD undef = .pointer (some ⟨g, 0, none⟩) := by simpa using hp
  have hq' : tmps[u]?.getD undef = .pointer (some ⟨k, 0, none⟩) := by simpa using hq
  simp [results, h, hp', hq', asAddr, run_loadVar_row w g t1 ty cs fr d hg hu hd hi, run_loadVar_row w k t2 tu ds fs e hk hv he hj]
/-- what a run answers -/
def Runs (r : R) (w : World) (e : Ending) (w' : World) : Prop :=
  ∃ v, e = .returned (.tuple #[v, .agg #[.int .i64 r.exit, .int .i64 r.steps, .bool r.hit]]) ∧ OwnsM w' w.heap.size v r.s ∧ Below w.heap.size w w'
theorem own_run {w w6 wf : World} {B : Nat} {s : M} {vs vb vm : Value} {ex st : Int} {hit : Bool} {bs : List Nat} (ho : OwnsL w6 B vs vb vm s) (ht : Stirred w6 wf bs) (hB : w.heap.size ≤ B) (hbs : ∀ k ∈ bs, w.heap.size ≤ k ∧ k < B) (hb : Below w.heap.size w w6) :
    Runs ⟨s, ex, st, hit⟩ w (.returned (.tuple #[stV s vs vb vm, .agg #[.int .i64 ex, .int .i64 st, .bool hit]])) wf :=
  have far : ∀ {v : Value} {xs : List Int}, Owns w6 B 3 v (vals xs) → Owns wf w.heap.size 3 v (vals xs) := fun h => (h.touch ht (fun k e hm => by have h1 := (hbs k hm).2; have h2 := (h.block k e).1; omega)).from hB
  ⟨_, rfl, ⟨vs, vb, vm, rfl, ⟨far ho.st, far ho.bk, far ho.me, ho.sb, ho.bm⟩⟩, hb.trans (ht.below (fun k hk => (hbs k hk).1) hb.size)⟩
set_option maxHeartbeats 8000000 in
set_option maxRecDepth 100000 in
/-- .. of a trace that may not be entered -/
theorem run_not {w : World} {t : T} {s : M} {vi vo vc vw v : Value} (hm : ReadsM w v s) (h1 : s.stack.length ≤ 10000) (h2 : s.back.length ≤ 10000) (h3 : s.mem.length ≤ 10000) (hmay : mayT t s = false) :
    Calls Tryd.prog 9 #[trV t vi vo vc, v, vw] w (Runs ⟨s, -1, 0, false⟩ w) := by
  have HM := Lib.hid hm
  obtain ⟨vs, vb, vm, rfl, ⟨⟨so, sc, e1, -⟩, -⟩, ⟨⟨bo, bc, e2, -⟩, -⟩, -⟩ := hm
  subst e1
  subst e2
  obtain ⟨w1, gt, hw1, hgt, HGT, HB1, HZ1⟩ := newBox w (trA t vi vo vc) 26
  obtain ⟨w2, gs, hw2, hgs, HGS, HB2, HZ2⟩ := newBox w1 (cells10 s.ip s.handler (.slice so s.stack.length sc) (.slice bo s.back.length bc) vm s.out s.inp s.read s.status s.code) 28
  obtain ⟨w3, r, hw3, hr, HR, HB3, HZ3⟩ := newBox w2 zero10 28
  obtain ⟨w4, d, hw4, hd, HD, HB4, HZ4⟩ := newBox w3 zero3 34
  have HB24 := Lib.hid (HB3.out.trans (HB4.out.mono HB3.out.size))
  have HB14 := Lib.hid (HB2.out.trans (HB24.out.mono HB2.out.size))
  have HB04 := Lib.hid (HB1.out.trans (HB14.out.mono HB1.out.size))
  have HT4 := Lib.hid (boxOn HGT.out HB14.out)
  have HS4 := Lib.hid (boxOn HGS.out HB24.out)
  have HR4 := Lib.hid (boxOn HR.out HB4.out)
  have HRD := Lib.hid (show w.heap.size ≤ r ∧ r < d from ⟨by rw [← HZ3.out]; exact Nat.le_trans HB1.out.size HB2.out.size, by rw [← HZ4.out]; exact whole_lt HR.out⟩)
  have CM := Lib.hid (show Calls Tryd.prog 20 _ w4 (SaysF false w4) from by have h := may_any (w := w4) (t := t) (s := s) (vi := vi) (vo := vo) (vc := vc) (vm := vm) (so := so) (bo := bo) (sc := sc) (bc := bc) h1 h2; rw [hmay] at h; exact h)
  have CC := Lib.hid (fun wc (hb : Below w4.heap.size w4 wc) => innCopy_any (HM.out.below (HB04.out.trans (hb.mono HB04.out.size))) h1 h2 h3)
  clear h1 h2 h3 hmay HGT HGS HR
  go_enter Tryd.func9, Tryd.ntmps9
  go_wp2_with (first
    | (refine ld_tr (by rfl) _ rfl gt rfl _ rfl HT4.out ?_)
    | (refine ld_state (by rfl) _ rfl gs rfl _ _ HS4.out rfl ?_)
    | (go_at_call 20; refine CM.out.mono ?_; rintro e w5 ⟨rfl, hb⟩; have HB5 := Lib.hid hb; have HS5 := Lib.hid (boxOn HS4.out hb); have HR5 := Lib.hid (boxOn HR4.out hb); have HD5 := Lib.hid (boxOn HD.out hb); have C := Lib.hid (CC.out _ hb); clear hb)
    | (refine ld_state (by rfl) _ rfl gs rfl _ _ HS5.out rfl ?_))
  refine C.out.mono ?_
  rintro e w6 ⟨v6, rfl, ⟨vs6, vb6, vm6, rfl, ho⟩, hb⟩
  have HO := Lib.hid ho
  have HB6 := Lib.hid (HB5.out.trans (hb.mono HB5.out.size))
  have HR6 := Lib.hid (boxOn HR5.out hb)
  have HD6 := Lib.hid (boxOn HD5.out hb)
  have HON := Lib.hid (And.intro (slice_one ho.st.slice) (And.intro (slice_one ho.bk.slice) (slice_one ho.me.slice)))
  have H5 := Lib.hid HB5.out.size
  clear ho hb C HS5 HR5 HD5
  go_wp2_with (first
    | (refine st_state (by rfl) _ _ rfl r _ rfl rfl _ _ HR6.out rfl rfl (all_one HON.out.1 HON.out.2.1 HON.out.2.2) ?_; intro w7 h7 t7; have HR7 := Lib.hid h7; have HT7 := Lib.hid t7; have HD7 := Lib.hid (t7.whole HD6.out (fun hm => by have h1 := List.mem_singleton.1 hm; have h2 := HRD.out.2; omega)); clear h7 t7)
    | (refine st_done (by rfl) _ _ rfl d #[.int .i64 (-1), .int .i64 0, .bool false] rfl rfl rfl _ rfl HD7.out (by simp [Value.oneCell']) ?_; intro w8 h8 t8; have HD8 := Lib.hid h8; have HT8 := Lib.hid t8; have HR8 := Lib.hid (t8.whole HR7.out (fun hm => by have h1 := List.mem_singleton.1 hm; have h2 := HRD.out.2; omega)); clear h8 t8))
  refine bodyPost_ret (results_two rfl _ _ r d _ _ _ _ _ _ _ _ rfl HR8.out Tryd.underlying28 rfl state_size rfl HD8.out Tryd.underlying34 rfl done_size) rfl ?_
  have HT := Lib.hid (HT7.out.more (cs := [r, d]) (fun k hk => by rw [List.mem_singleton.1 hk]; exact List.mem_cons_self) |>.trans (HT8.out.more (cs := [r, d]) (fun k hk => by rw [List.mem_singleton.1 hk]; exact List.mem_cons_of_mem _ List.mem_cons_self)) (fun k hk => .inl hk))
  exact own_run HO.out HT.out (Nat.le_trans HB04.out.size H5.out) (fun k hk => by
    have h1 := HRD.out
    have h2 := whole_lt HR4.out
    have h3 := whole_lt HD.out
    have h4 := H5.out
    rcases List.mem_cons.1 hk with h | h
    · omega
    · have := List.mem_singleton.1 h; omega) (HB04.out.trans (HB6.out.mono HB04.out.size))
end Go.Proofs.YtgabemlehmhgpaaDoor.Ev
/- A region that draws its order and fills a state's box: one step each. -/
namespace Go.Proofs.YtgabemlehmhgpaaDoor.Mach
open Go.RowKit Book Mem
set_option linter.unusedVariables false
set_option linter.unusedSimpArgs false
section
variable {ops : Array Oper} {o : Oper} {a : Act} {w : World} {K : Act → World → Prop} {Q : Exit → Act → World → Prop} {F : Prop}
/-- an empty box is made -/
theorem step_alloc_state (hw : Region.wanted o (yielded ops a.tmps) = true) (ho : o.op = .alloc 28)
    (h : ∀ g w', w.heap.size = g → w'.heap[g]? = some (.cells zero10 28 (0, 0)) → Below w.heap.size w w' → K (a.put o.dst (.pointer (some ⟨g, 0, none⟩))) w') : if Region.wanted o (yielded ops a.tmps) = true then o.wp Tryd.prog a w K Q else F := by
  rw [if_pos hw]
  have hk := h w.heap.size (w.alloc (.cells zero10 28)) rfl (heap_alloc_new w _) ((Below.refl w.heap.size w).alloc (Nat.le_refl _) _)
  obtain ⟨dst, op, ty, pos, after, guard⟩ := o
  simp only at ho hk ⊢
  subst ho
  clear h hw
  generalize hw' : w.alloc (.cells zero10 28) = w' at hk
  go_simp
  exact hk
/-- a box is filled -/
theorem step_st_state (hw : Region.wanted o (yielded ops a.tmps) = true) (x y : Operand) (ho : o.op = .store 28 x y) (g : Nat) (cells : Array Value) (hx : a.eval x = .pointer (some ⟨g, 0, none⟩)) (hy : a.eval y = .agg cells) (old : Array Value) (hg : w.heap[g]? = some (.cells old 28 (0, 0))) (hs : cells.size = 10) (hold : old.size = 10) (h1 : cells.all (·.oneCell') = true)
    (h : ∀ w', w'.heap[g]? = some (.cells cells 28 (0, 0)) → Stirred w w' [g] → K (a.put o.dst undef) w') : if Region.wanted o (yielded ops a.tmps) = true then o.wp Tryd.prog a w K Q else F := by
  rw [if_pos hw]
  have hz : (Tryd.prog.info? 28).map (·.size) = some cells.size := by rw [hs]; exact state_size
  exact wp_store_row 28 x y ho g cells hx hy 28 old hg hz (by rw [hold, hs]) h1 (h _ (setRow_heap w g old cells 28 (0, 0) hg) (Stirred.setRow w g cells))
end
end Go.Proofs.YtgabemlehmhgpaaDoor.Mach
/- A region that draws its order and fills boxes: one step each. -/
namespace Go.Proofs.YtgabemlehmhgpaaDoor.Mach
open Go.RowKit Book Mem
set_option linter.unusedVariables false
set_option linter.unusedSimpArgs false
section
variable {ops : Array Oper} {o : Oper} {a : Act} {w : World} {K : Act → World → Prop} {Q : Exit → Act → World → Prop} {F : Prop}
theorem step_st_done (hw : Region.wanted o (yielded ops a.tmps) = true) (x y : Operand) (ho : o.op = .store 34 x y) (g : Nat) (cells : Array Value) (hx : a.eval x = .pointer (some ⟨g, 0, none⟩)) (hy : a.eval y = .agg cells) (old : Array Value) (hg : w.heap[g]? = some (.cells old 34 (0, 0))) (hs : cells.size = 3) (hold : old.size = 3) (h1 : cells.all (·.oneCell') = true)
    (h : ∀ w', w'.heap[g]? = some (.cells cells 34 (0, 0)) → Stirred w w' [g] → K (a.put o.dst undef) w') : if Region.wanted o (yielded ops a.tmps) = true then o.wp Tryd.prog a w K Q else F := by
  rw [if_pos hw]
  have hz : (Tryd.prog.info? 34).map (·.size) = some cells.size := by rw [hs]; exact Ev.done_size
  exact wp_store_row 34 x y ho g cells hx hy 34 old hg hz (by rw [hold, hs]) h1 (h _ (setRow_heap w g old cells 34 (0, 0) hg) (Stirred.setRow w g cells))
end
end Go.Proofs.YtgabemlehmhgpaaDoor.Mach
/- Package eval: a trace that may be entered is run. -/
namespace Go.Proofs.YtgabemlehmhgpaaDoor.Ev
open Go.RowKit Book Mem
open Ir (T I O trA trV ReadsL ReadsO outA outV newBox boxOn ld_tr ld_out CI CT)
open Mach (M less cells10 zero10 OwnsL OwnsM ReadsM stV st_state ld_state state_size slice_one all_one step_st_state)
set_option linter.unusedSimpArgs false
set_option linter.unusedVariables false
/-- the run's box is made -/
theorem RunAt.made {w w5 w6 : World} {t : T} {wat : List Int} {s : M} {vs vb vm vw vi vo vc : Value} {ex : Nat → Option Obj} (hb5 : Below w.heap.size w w5) (hb : Below w5.heap.size w5 w6) (ho : OwnsL w6 w5.heap.size vs vb vm s) (ht : ReadsL w vi vo vc t) (hw : Reads w vw wat) (hx : ∀ k o, ex k = some o → w5.heap[k]? = some o) :
    RunAt w (w6.alloc (.cells (cells22 t s false ⟨vs, vb, vm, .slice none 0 0, vw, vi, vo, vc, ex⟩) 51)) w6.heap.size t wat s [] false ⟨vs, vb, vm, .slice none 0 0, vw, vi, vo, vc, ex⟩ := by
  have hB := hb5.trans (hb.mono hb5.size)
  have ha := (Below.refl w6.heap.size w6).alloc (Nat.le_refl _) (.cells (cells22 t s false ⟨vs, vb, vm, .slice none 0 0, vw, vi, vo, vc, ex⟩) 51)
  refine ⟨hB.trans (ha.mono hB.size), hB.size, heap_alloc_new w6 _, (ho.st.from hb5.size).below ha, (ho.bk.from hb5.size).below ha, (ho.me.from hb5.size).below ha, Owns.nil _ _ _,
    fun k e => ⟨fun e' => by have := (ho.st.block k e).2.1; omega, (ho.sb k e).1, (ho.sb k e).2, fun e' => by cases e'⟩, fun k e => ⟨fun e' => by have := (ho.bk.block k e).2.1; omega, ho.bm k e, fun e' => by cases e'⟩, fun k e => ⟨fun e' => by have := (ho.me.block k e).2.1; omega, fun e' => by cases e'⟩, fun k e => (by cases e), ht, hw, fun k o e => ?_⟩
  have h1 := hx k o e
  have hk := whole_lt h1
  have h2 := (Stirred.of_below hb []).whole h1 List.not_mem_nil
  exact ⟨(Stirred.of_below ha []).whole h2 List.not_mem_nil, fun e' => by have := hb.size; omega, fun e' => by have := (ho.st.block _ e').1; omega, fun e' => by have := (ho.bk.block _ e').1; omega, fun e' => by have := (ho.me.block _ e').1; omega, fun e' => by cases e'⟩
theorem two_more {w w1 w2 : World} {r d : Nat} (h : Stirred w w1 [r]) (g : Stirred w1 w2 [d]) : Stirred w w2 [r, d] :=
  (h.more (cs := [r, d]) (fun k hk => by rw [List.mem_singleton.1 hk]; exact List.mem_cons_self)).trans (g.more (cs := [r, d]) (fun k hk => by rw [List.mem_singleton.1 hk]; exact List.mem_cons_of_mem _ List.mem_cons_self)) (fun k hk => .inl hk)
theorem may_slots {t : T} {s : M} (h : mayT t s = true) : ∃ ks kb : Nat, t.slots = (ks : Int) ∧ ks ≤ s.stack.length ∧ t.backs = (kb : Int) ∧ kb ≤ s.back.length := by
  unfold mayT Ir.within at h
  simp only [Bool.and_eq_true, decide_eq_true_eq] at h
  obtain ⟨-, -, h1, -, h2, -⟩ := h
  exact ⟨t.slots.toNat, t.backs.toNat, by omega, by omega, by omega, by omega⟩
theorem out_none {t : T} {x : Int} {n : Nat} (h : outAt t x = none) (hn : t.outs.length = n) : ¬ (0 ≤ x ∧ x < (n : Int)) := by
  rintro ⟨h0, h1⟩
  unfold outAt at h
  rw [if_pos h0, List.getElem?_eq_none_iff] at h
  omega
theorem out_some {t : T} {x : Int} {o : O} (h : outAt t x = some o) : ∃ k : Nat, x = (k : Int) ∧ t.outs[k]? = some o := by
  unfold outAt at h
  split at h
  · exact ⟨x.toNat, by omega, h⟩
  · cases h
theorem five {w : World} {gx q : Nat} {xo : O} {qs qb : Value} {t : T} {s : M} {xh : Bool} {z : Sl} (h : w.heap[gx]? = some (.cells (outA xo qs qb) 39 (0, 0))) (g : w.heap[q]? = some (.cells (cells22 t s xh z) 51 (0, 0))) :
    w.cell? ⟨gx, 0, none⟩ = some (.int .i64 xo.ip) ∧ w.cell? ⟨gx, 1, none⟩ = some (.int .i64 xo.steps) ∧ w.cell? ⟨gx, 2, none⟩ = some qs ∧ w.cell? ⟨gx, 3, none⟩ = some qb ∧ w.cell? ⟨q, 21, none⟩ = some (.bool xh) := ⟨whole_cell h rfl, whole_cell h rfl, whole_cell h rfl, whole_cell h rfl, whole_cell g rfl⟩
/-- boxes of other kinds are none of a machine's lists -/
theorem own_far2 {w6 : World} {B r d : Nat} {cs ds : Array Value} {s : M} {vs vb vm : Value} (hr : w6.heap[r]? = some (.cells cs 28 (0, 0))) (hd : w6.heap[d]? = some (.cells ds 34 (0, 0))) (ho : OwnsL w6 B vs vb vm s) :
    ∀ k ∈ [r, d], blk vs ≠ some k ∧ blk vb ≠ some k ∧ blk vm ≠ some k := by
  have one : ∀ {v : Value} {xs : List Int} {k T : Nat} {cs : Array Value}, Owns w6 B 3 v (vals xs) → w6.heap[k]? = some (.cells cs T (0, 0)) → T ≠ 3 → blk v ≠ some k := fun h hk hT e => by
    obtain ⟨-, -, cur, hc⟩ := h.block _ e
    rw [hk] at hc
    simp only [Option.some.injEq, Obj.cells.injEq] at hc
    exact hT hc.2.1
  intro k hk
  rcases List.mem_cons.1 hk with h | h
  · subst h; exact ⟨one ho.st hr (by decide), one ho.bk hr (by decide), one ho.me hr (by decide)⟩
  · have h := List.mem_singleton.1 h
    subst h; exact ⟨one ho.st hd (by decide), one ho.bk hd (by decide), one ho.me hd (by decide)⟩
theorem own_run2 {w w6 wf : World} {s : M} {vs vb vm : Value} {ex st : Int} {hit : Bool} {r d : Nat} (ho : OwnsL w6 w.heap.size vs vb vm s) (ht : Stirred w6 wf [r, d]) (hr : w.heap.size ≤ r ∧ r < d) (hf : ∀ k ∈ [r, d], blk vs ≠ some k ∧ blk vb ≠ some k ∧ blk vm ≠ some k) (hb : Below w.heap.size w w6) :
    Runs ⟨s, ex, st, hit⟩ w (.returned (.tuple #[stV s vs vb vm, .agg #[.int .i64 ex, .int .i64 st, .bool hit]])) wf :=
  ⟨_, rfl, ⟨vs, vb, vm, rfl, ⟨ho.st.touch ht (fun k e hm => (hf k hm).1 e), ho.bk.touch ht (fun k e hm => (hf k hm).2.1 e), ho.me.touch ht (fun k e hm => (hf k hm).2.2 e), ho.sb, ho.bm⟩⟩, hb.trans (ht.below (fun k hk => by
    rcases List.mem_cons.1 hk with h | h
    · omega
    · have := List.mem_singleton.1 h; omega) hb.size)⟩
def four (gt gs r d : Nat) (a b c e : Obj) : Nat → Option Obj := put1 gt a (put1 gs b (put1 r c (put1 d e (fun _ => none))))
theorem four_of {gt gs r d : Nat} {a b c e : Obj} (h : gt < gs ∧ gs < r ∧ r < d) : four gt gs r d a b c e gt = some a ∧ four gt gs r d a b c e gs = some b ∧ four gt gs r d a b c e r = some c ∧ four gt gs r d a b c e d = some e := by
  unfold four put1
  refine ⟨if_pos rfl, ?_, ?_, ?_⟩
  · rw [if_neg (by omega), if_pos rfl]
  · rw [if_neg (by omega), if_neg (by omega), if_pos rfl]
  · rw [if_neg (by omega), if_neg (by omega), if_neg (by omega), if_pos rfl]
theorem four_at {gt gs r d : Nat} {a b c e : Obj} {k : Nat} {o : Obj} (h : four gt gs r d a b c e k = some o) : k = gt ∧ o = a ∨ k = gs ∧ o = b ∨ k = r ∧ o = c ∨ k = d ∧ o = e := by
  unfold four put1 at h
  split at h
  · cases h; exact .inl ⟨by assumption, rfl⟩
  · split at h
    · cases h; exact .inr (.inl ⟨by assumption, rfl⟩)
    · split at h
      · cases h; exact .inr (.inr (.inl ⟨by assumption, rfl⟩))
      · split at h
        · cases h; exact .inr (.inr (.inr ⟨by assumption, rfl⟩))
        · cases h
set_option maxHeartbeats 16000000 in
set_option maxRecDepth 100000 in
theorem run_yes {w : World} {t : T} {s : M} {wat : List Int} {vi vo vc vw v : Value} (hm : ReadsM w v s) (ht : ReadsL w vi vo vc t) (hwt : Reads w vw wat) (hz : Sz s [] wat) (hc : CM s) (hi : ∀ x ∈ t.ins, CI x) (hT : Tabs w) (hn : t.ins.length ≤ 10000) (hno : t.outs.length ≤ 10000) (hol : ∀ o ∈ t.outs, o.stack.length ≤ 10000 ∧ o.back.length ≤ 10000) (hmay : mayT t s = true) :
    Calls Tryd.prog 9 #[trV t vi vo vc, v, vw] w (Runs (runT wat t s) w) := by
  have HM := Lib.hid hm
  have HTR := Lib.hid ht
  have HWT := Lib.hid hwt
  have HZ := Lib.hid hz
  have HC := Lib.hid hc
  have HI := Lib.hid hi
  have HTB := Lib.hid hT
  have HLN := Lib.hid (And.intro hn hno)
  have HOL := Lib.hid hol
  have HMY := Lib.hid hmay
  obtain ⟨ai, ci, ao, co, ac, cc, rfl, rfl, rfl⟩ := ht.known
  obtain ⟨aw, cw, rfl, -⟩ := hwt
  obtain ⟨n, hnn⟩ : ∃ n, t.outs.length = n := ⟨_, rfl⟩
  obtain ⟨ni, hni⟩ : ∃ n, t.ins.length = n := ⟨_, rfl⟩
  obtain ⟨nc, hnc⟩ : ∃ n, t.cells.length = n := ⟨_, rfl⟩
  obtain ⟨nw, hnw⟩ : ∃ n, wat.length = n := ⟨_, rfl⟩
  have HNN := Lib.hid hnn
  rw [hnn, hni, hnc] at HTR
  rw [hnw] at HWT
  rw [hnn, hni, hnc, hnw]
  clear hni hnc hnw
  obtain ⟨rr, hrr⟩ : ∃ rr, runT wat t s = rr := ⟨_, rfl⟩
  have HRR := Lib.hid hrr
  rw [hrr]
  clear hrr
  obtain ⟨vs, vb, vm, rfl, ⟨⟨so, sc, e1, -⟩, -⟩, ⟨⟨bo, bc, e2, -⟩, -⟩, -⟩ := hm
  subst e1
  subst e2
  obtain ⟨w1, gt, hw1, hgt, HGT, HB1, HZ1⟩ := newBox w (trA t (.slice ai ni ci) (.slice ao n co) (.slice ac nc cc)) 26
  obtain ⟨w2, gs, hw2, hgs, HGS, HB2, HZ2⟩ := newBox w1 (cells10 s.ip s.handler (.slice so s.stack.length sc) (.slice bo s.back.length bc) vm s.out s.inp s.read s.status s.code) 28
  obtain ⟨w3, r, hw3, hr, HR, HB3, HZ3⟩ := newBox w2 zero10 28
  obtain ⟨w4, d, hw4, hd, HD, HB4, HZ4⟩ := newBox w3 zero3 34
  have HB24 := Lib.hid (HB3.out.trans (HB4.out.mono HB3.out.size))
  have HB14 := Lib.hid (HB2.out.trans (HB24.out.mono HB2.out.size))
  have HB04 := Lib.hid (HB1.out.trans (HB14.out.mono HB1.out.size))
  have HT4 := Lib.hid (boxOn HGT.out HB14.out)
  have HS4 := Lib.hid (boxOn HGS.out HB24.out)
  have HR4 := Lib.hid (boxOn HR.out HB4.out)
  have HRD := Lib.hid (show w.heap.size = gt ∧ gt < gs ∧ gs < r ∧ r < d ∧ d < w4.heap.size from ⟨HZ1.out, by rw [← HZ2.out]; exact whole_lt HGT.out, by rw [← HZ3.out]; exact whole_lt HGS.out, by rw [← HZ4.out]; exact whole_lt HR.out, whole_lt HD.out⟩)
  have CM' := Lib.hid (show Calls Tryd.prog 20 _ w4 (SaysF true w4) from by have h := may_any (w := w4) (t := t) (s := s) (vi := .slice ai ni ci) (vo := .slice ao n co) (vc := .slice ac nc cc) (vm := vm) (so := so) (bo := bo) (sc := sc) (bc := bc) hz.st hz.bk; rw [hmay] at h; exact h)
  have CC := Lib.hid (fun wc (hb : Below w4.heap.size w4 wc) => innCopy_any (HM.out.below (HB04.out.trans (hb.mono HB04.out.size))) hz.st hz.bk hz.me)
  clear hmay HGT HGS HR ht hz hc hi hT hn hno hol hnn
  go_enter Tryd.func9, Tryd.ntmps9
  go_upto_region 2 with (first
    | (refine ld_tr (by rfl) _ rfl gt rfl _ rfl HT4.out ?_)
    | (refine ld_state (by rfl) _ rfl gs rfl _ _ HS4.out rfl ?_)
    | (go_at_call 20; refine CM'.out.mono ?_; rintro e w5 ⟨rfl, hb⟩; have HB5 := Lib.hid hb; clear hb))
  have HT5 := Lib.hid (boxOn HT4.out HB5.out)
  have HS5 := Lib.hid (boxOn HS4.out HB5.out)
  have HR5 := Lib.hid (boxOn HR4.out HB5.out)
  have HD5 := Lib.hid (boxOn HD.out HB5.out)
  have HB05 := Lib.hid (HB04.out.trans (HB5.out.mono HB04.out.size))
  have HLT := Lib.hid HB5.out.size
  have HF4 := Lib.hid (four_of (a := .cells (trA t (.slice ai ni ci) (.slice ao n co) (.slice ac nc cc)) 26 (0, 0)) (b := .cells (cells10 s.ip s.handler (.slice so s.stack.length sc) (.slice bo s.back.length bc) vm s.out s.inp s.read s.status s.code) 28 (0, 0)) (c := .cells zero10 28 (0, 0)) (e := .cells zero3 34 (0, 0)) (show gt < gs ∧ gs < r ∧ r < d from ⟨HRD.out.2.1, HRD.out.2.2.1, HRD.out.2.2.2.1⟩))
  have HF5 := Lib.hid (fun k o (h : four gt gs r d (.cells (trA t (.slice ai ni ci) (.slice ao n co) (.slice ac nc cc)) 26 (0, 0)) (.cells (cells10 s.ip s.handler (.slice so s.stack.length sc) (.slice bo s.back.length bc) vm s.out s.inp s.read s.status s.code) 28 (0, 0)) (.cells zero10 28 (0, 0)) (.cells zero3 34 (0, 0)) k = some o) => show w5.heap[k]? = some o from by
    rcases four_at h with ⟨rfl, rfl⟩ | ⟨rfl, rfl⟩ | ⟨rfl, rfl⟩ | ⟨rfl, rfl⟩
    · exact HT5.out
    · exact HS5.out
    · exact HR5.out
    · exact HD5.out)
  generalize four gt gs r d (.cells (trA t (.slice ai ni ci) (.slice ao n co) (.slice ac nc cc)) 26 (0, 0)) (.cells (cells10 s.ip s.handler (.slice so s.stack.length sc) (.slice bo s.back.length bc) vm s.out s.inp s.read s.status s.code) 28 (0, 0)) (.cells zero10 28 (0, 0)) (.cells zero3 34 (0, 0)) = fx at HF4 HF5
  clear hw1 hw2 hw3 hw4 hgt hgs hr hd HT4 HS4 HR4 HD HB1 HB2 HB3 HB4 HB14 HB24 HZ1 HZ2 HZ3 HZ4 CM' HR5 HD5
  go_cut [8] (fun p wx => ∃ q vs6 vb6 vm6, p = .pointer (some ⟨q, 0, none⟩) ∧ Hid (RunAt w wx q t wat s [] false ⟨vs6, vb6, vm6, .slice none 0 0, (.slice aw nw cw), (.slice ai ni ci), .slice ao n co, (.slice ac nc cc), fx⟩))
  case first =>
    have HTD := Lib.hid (boxOn HT5.out (Below.refl w5.heap.size w5).drew)
    have HSD := Lib.hid (boxOn HS5.out (Below.refl w5.heap.size w5).drew)
    obtain ⟨t0, t1, t2, t3, t4, t5, t6, t7, t8⟩ := Ir.cells9 HTD.out
    have s0 : w5.drew.cell? ⟨gs, 0, none⟩ = some (.int .i64 s.ip) := whole_cell HSD.out rfl
    have s1 : w5.drew.cell? ⟨gs, 1, none⟩ = some (.int .i64 s.handler) := whole_cell HSD.out rfl
    have s2 : w5.drew.cell? ⟨gs, 2, none⟩ = some (.slice so s.stack.length sc) := whole_cell HSD.out rfl
    have s3 : w5.drew.cell? ⟨gs, 3, none⟩ = some (.slice bo s.back.length bc) := whole_cell HSD.out rfl
    have s4 : w5.drew.cell? ⟨gs, 4, none⟩ = some (vm) := whole_cell HSD.out rfl
    have s5 : w5.drew.cell? ⟨gs, 5, none⟩ = some (.string s.out) := whole_cell HSD.out rfl
    have s6 : w5.drew.cell? ⟨gs, 6, none⟩ = some (.string s.inp) := whole_cell HSD.out rfl
    have s7 : w5.drew.cell? ⟨gs, 7, none⟩ = some (.int .i64 s.read) := whole_cell HSD.out rfl
    have s8 : w5.drew.cell? ⟨gs, 8, none⟩ = some (.int .i64 s.status) := whole_cell HSD.out rfl
    have s9 : w5.drew.cell? ⟨gs, 9, none⟩ = some (.int .i64 s.code) := whole_cell HSD.out rfl
    have C := Lib.hid (CC.out _ (HB5.out.trans ((Below.refl w5.heap.size w5).drew.mono HB5.out.size)))
    go_wp2_with fail
    go_region_with ((go_at_call 21; refine C.out.mono ?_; rintro e w6 ⟨v6, rfl, ⟨vs6, vb6, vm6, rfl, ho⟩, hb⟩; obtain ⟨a6, c6, e6⟩ := ho.st.slice; obtain ⟨a7, c7, e7⟩ := ho.bk.slice; obtain ⟨a8, c8, e8⟩ := ho.me.slice; rw [vals_length] at e6 e7 e8; subst e6; subst e7; subst e8; have HO := Lib.hid ho; have HB6 := Lib.hid hb; have HT6 := Lib.hid (boxOn HTD.out hb); obtain ⟨t0, t1, t2, t3, t4, t5, t6, t7, t8⟩ := Ir.cells9 HT6.out; clear ho hb))
    all_goals
      go_wp2_with fail
      go_meet
      exact ⟨_, _, _, _, rfl, RunAt.made HB05.out.drew HB6.out HO.out HTR.out HWT.out HF5.out⟩
  case rest =>
    obtain ⟨q, vs6, vb6, vm6, rfl, HRN⟩ := hcut
    clear HT5 HS5
    have HST := Lib.hid (fun k o (h : fx k = some o) => HF5.out k o h)
    obtain ⟨wa, hwa⟩ : ∃ wa, wc = wa := ⟨_, rfl⟩
    subst hwa
    have CX := Lib.hid (exit_any HRN.out HZ.out HC.out HI.out HTB.out HLN.out.1)
    obtain ⟨x, hx⟩ : ∃ x, goI wat t.last t.ins s [] = x := ⟨_, rfl⟩
    have HXE := Lib.hid hx
    rw [hx] at CX
    have HKN := Lib.hid (show Kin s x.s by rw [← hx]; exact goI_kin _ _ _ _ _)
    have HVL := Lib.hid (show x.V.length ≤ 100000 by rw [← hx]; have h1 := goI_len wat t.last t.ins s []; have h2 := HLN.out.1; simp only [List.length_nil] at h1; omega)
    clear hx
    cases hox : outAt t x.exit with
    | none =>
      have HRT := Lib.hid (show rr = ⟨s, -1, 0, false⟩ by rw [← HRR.out]; unfold runT; rw [if_pos HMY.out, HXE.out]; dsimp only; rw [hox])
      have HNI := Lib.hid (show ¬ (0 ≤ x.exit ∧ x.exit < (n : Int)) from out_none hox HNN.out)
      clear hox
      obtain ⟨xs, xV, xe, xh⟩ := x
      dsimp only at HNI
      go_wp2_with fail
      refine CX.out.mono ?_
      rintro e w7 ⟨rfl, v7, hr7⟩
      have HR7 := Lib.hid hr7
      have HB7 := Lib.hid hr7.hb
      have c6 : w7.cell? ⟨gt, 6, none⟩ = some (.slice ao n co) := whole_cell (hr7.fr gt _ HF4.out.1).1 rfl
      have HS7 := Lib.hid (hr7.fr gs _ HF4.out.2.1).1
      have HR7b := Lib.hid (hr7.fr r _ HF4.out.2.2.1).1
      have HD7b := Lib.hid (hr7.fr d _ HF4.out.2.2.2).1
      have hnb : n ≤ 10000 := by rw [← HNN.out]; exact HLN.out.2
      have C4 := Lib.hid (within_any xe ((n : Int) - 1) w7)
      have HW : Ir.within xe ((n : Int) - 1) = false := Ir.within_no (fun h => HNI.out ⟨h.1, Int.lt_of_le_sub_one h.2⟩)
      rw [HW] at C4
      clear HW
      have C := Lib.hid (innCopy_any (HM.out.below HB7.out) HZ.out.st HZ.out.bk HZ.out.me)
      clear hr7 CX HRN CC
      go_wp2_with (first
        | (go_at_call 23; refine C4.out.mono ?_; rintro e w' ⟨rfl, rfl⟩)
        | (refine ld_state (by rfl) _ rfl gs rfl _ _ HS7.out rfl ?_))
      refine C.out.mono ?_
      rintro e w8 ⟨v6, rfl, ⟨vs8, vb8, vm8, rfl, ho⟩, hb⟩
      have HO := Lib.hid ho
      have HB8 := Lib.hid hb
      have HR6 := Lib.hid (boxOn HR7b.out hb)
      have HD6 := Lib.hid (boxOn HD7b.out hb)
      have HON := Lib.hid (And.intro (slice_one ho.st.slice) (And.intro (slice_one ho.bk.slice) (slice_one ho.me.slice)))
      clear ho hb C
      go_wp2_with (first
        | (refine st_state (by rfl) _ _ rfl r _ rfl rfl _ _ HR6.out rfl rfl (all_one HON.out.1 HON.out.2.1 HON.out.2.2) ?_; intro w7 h7 t7; have HR7 := Lib.hid h7; have HT7 := Lib.hid t7; have HD7 := Lib.hid (t7.whole HD6.out (fun hm => by have h1 := List.mem_singleton.1 hm; have h2 := HRD.out.2.2.2.1; omega)); clear h7 t7)
        | (refine st_done (by rfl) _ _ rfl d #[.int .i64 (-1), .int .i64 0, .bool false] rfl rfl rfl _ rfl HD7.out (by simp [Value.oneCell']) ?_; intro w8 h8 t8; have HD8 := Lib.hid h8; have HT8 := Lib.hid t8; have HR8 := Lib.hid (t8.whole HR7.out (fun hm => by have h1 := List.mem_singleton.1 hm; have h2 := HRD.out.2.2.2.1; omega)); clear h8 t8))
      refine bodyPost_ret (results_two rfl _ _ r d _ _ _ _ _ _ _ _ rfl HR8.out Tryd.underlying28 rfl state_size rfl HD8.out Tryd.underlying34 rfl done_size) rfl ?_
      have HT := Lib.hid (two_more HT7.out HT8.out)
      have hsz := HR7b.out
      rw [HRT.out]
      exact own_run HO.out HT.out (HB7.out.size) (fun k hk => by
        have h1 := HRD.out
        have h2 := whole_lt HR7b.out
        have h3 := whole_lt HD7b.out
        rcases List.mem_cons.1 hk with h | h
        · omega
        · have := List.mem_singleton.1 h; omega) (HB7.out.trans (HB8.out.mono HB7.out.size))
    | some xo =>
      have HRT := Lib.hid (show rr = ⟨leaveM t x.s x.V xo, x.exit, xo.steps, x.hit⟩ by rw [← HRR.out]; unfold runT; rw [if_pos HMY.out, HXE.out]; dsimp only; rw [hox])
      obtain ⟨k, hk, hko⟩ := out_some hox
      clear hox
      obtain ⟨xs, xV, xe, xh⟩ := x
      dsimp only at hk
      subst hk
      have hkl := (List.getElem?_eq_some_iff.1 hko).1
      have hnb : n ≤ 10000 := by rw [← HNN.out]; exact HLN.out.2
      have k0 : (0 : Int) ≤ (k : Int) := Int.natCast_nonneg k
      have k1 : (k : Int) < (n : Int) := by rw [HNN.out] at hkl; exact Int.ofNat_lt.2 hkl
      have HKO := Lib.hid hko
      have HXO := Lib.hid (HOL.out xo (List.mem_of_getElem? hko))
      have HMB := Lib.hid (may_slots HMY.out)
      clear hkl hko
      go_wp2_with fail
      refine CX.out.mono ?_
      rintro e w7 ⟨rfl, v7, hr7⟩
      have HR7 := Lib.hid hr7
      have HB7 := Lib.hid hr7.hb
      have c6 : w7.cell? ⟨gt, 6, none⟩ = some (.slice ao n co) := whole_cell (hr7.fr gt _ HF4.out.1).1 rfl
      have C4 := Lib.hid (within_any (k : Int) ((n : Int) - 1) w7)
      have HW : Ir.within (k : Int) ((n : Int) - 1) = true := Ir.within_yes k0 (Int.le_sub_one_of_lt k1)
      rw [HW] at C4
      obtain ⟨ad, qs, qb, rfl, j0, j1, j2, j3, HQS, HQB⟩ := Ir.ReadsO.at HTR.out.outs HKO.out
      obtain ⟨aq, cq, rfl⟩ := Ir.reads_form HQS
      obtain ⟨ab, cb, rfl⟩ := Ir.reads_form HQB
      have tr : ∀ {p : Addr} {u : Value}, w.cell? p = some u → w7.cell? p = some u := fun {p u} hu => by rw [hr7.hb.cell (p := p) (World.block_lt_of_cell? w _ hu)]; exact hu
      have i0 := tr j0
      have i1 := tr j1
      have i2 := tr j2
      have i3 := tr j3
      have HQ1 := Lib.hid (And.intro HQS HQB)
      obtain ⟨w8, gx, hw8, hgx, HX8, HB8, HZ8⟩ := newBox w7 zero4 39
      clear hr7 CX HRN CC HW HQS HQB j0 j1 j2 j3 tr
      go_upto_region 6 with (first
        | (go_at_call 23; refine C4.out.mono ?_; rintro e w' ⟨rfl, rfl⟩)
        | (refine st_out (by rfl) _ _ rfl gx (outA xo (.slice aq xo.stack.length cq) (.slice ab xo.back.length cb)) rfl rfl rfl _ rfl HX8.out (by simp [Value.oneCell']) ?_; intro w9 h9 t9))
      have HR9 := Lib.hid (HR7.out.fresh (w' := w9) (bs := [gx]) ((Stirred.of_below HB8.out [gx]).trans t9 (fun k hk => .inl hk)) (fun k hk => List.mem_singleton.1 hk) (Nat.le_of_eq HZ8.out) h9)
      obtain ⟨ks, kb, hs1, hs2, hs3, hs4⟩ := HMB.out
      have HGX := Lib.hid (show ∀ j o, fx j = some o → put1 gx (.cells (outA xo (.slice aq xo.stack.length cq) (.slice ab xo.back.length cb)) 39 (0, 0)) fx j = some o from fun j o h => by unfold put1; rw [if_neg (by have h1 := whole_lt (HR7.out.fr j o h).1; have h2 := HZ8.out; omega)]; exact h)
      have CL := Lib.hid (fun wc (hb : Below w9.heap.size w9 wc) => leave_any (HR9.out.below hb) (by rw [HKN.out.stack]; exact HZ.out.st) (by rw [HKN.out.back]; exact HZ.out.bk) HVL.out xo HQ1.out.1 HQ1.out.2 HXO.out.1 HXO.out.2 hs1 (by rw [HKN.out.stack]; exact hs2) hs3 (by rw [HKN.out.back]; exact hs4))
      have HGC := Lib.hid (fun wc (hb : Below w9.heap.size w9 wc) => And.intro ((HR9.out.below hb).fr gx _ (put1_at gx _ _)).1 (And.intro (HR9.out.below hb).box (And.intro ((HR9.out.below hb).fr r _ (HGX.out r _ HF4.out.2.2.1)).1 ((HR9.out.below hb).fr d _ (HGX.out d _ HF4.out.2.2.2)).1)))
      have HEL := Lib.hid (And.intro (put1_at gx (.cells (outA xo (.slice aq xo.stack.length cq) (.slice ab xo.back.length cb)) 39 (0, 0)) fx) (And.intro (HGX.out r _ HF4.out.2.2.1) (HGX.out d _ HF4.out.2.2.2)))
      have HQR := Lib.hid (show w.heap.size ≤ r ∧ r < d ∧ gx ≠ r ∧ gx ≠ d ∧ q ≠ r ∧ q ≠ d from by
        have f1 := (HR7.out.fr r _ HF4.out.2.2.1)
        have f2 := (HR7.out.fr d _ HF4.out.2.2.2)
        have l1 := whole_lt f1.1
        have l2 := whole_lt f2.1
        have l3 := HZ8.out
        have l4 := HRD.out
        exact ⟨by omega, by omega, by omega, by omega, fun e => f1.2.1 e.symm, fun e => f2.2.1 e.symm⟩)
      clear h9 t9 hw8 hgx HX8 HB8 HZ8 HR7 i0 i1 i2 i3 hs1 hs2 hs3 hs4 C4 c6 HF4 HF5 HST HGX
      dsimp only [Act.put]
      have HBC : Hid (Below w9.heap.size w9 w9.drew) := Lib.hid (Below.refl _ _).drew
      have HG9 := HGC.out _ HBC.out
      have KX := Lib.hid (five HG9.1 HG9.2.1)
      clear HG9
      refine wp_region_held (S := fun w' => (w'.cell? ⟨gx, 0, none⟩ = some (.int .i64 xo.ip) ∧ w'.cell? ⟨gx, 1, none⟩ = some (.int .i64 xo.steps) ∧ w'.cell? ⟨gx, 2, none⟩ = some (.slice aq xo.stack.length cq) ∧ w'.cell? ⟨gx, 3, none⟩ = some (.slice ab xo.back.length cb) ∧ w'.cell? ⟨q, 21, none⟩ = some (.bool xh))) (by kernel_rfl) ?_
      change wpAnyH _ _ _ _ _ _ _ _ (World.drew w9)
      refine wpAnyH_take (i := 0) (oi := ⟨some 33, _, _, _, _, _⟩) (v := ?_) rfl (by kernel_rfl) (by kernel_rfl) (by kernel_rfl) (fun _ _ _ h => h) (Or.inl ⟨by rfl, ?_⟩) KX.out ?_; rotate_left; · intro w hSw; (try dsimp only at hSw); go_simp; try with_reducible rfl
      try simp only [Act.put, List.setIfInBounds_toArray, List.set_cons_zero, List.set_cons_succ]
      refine wpAnyH_take (i := 1) (oi := ⟨some 34, _, _, _, _, _⟩) (v := ?_) rfl (by kernel_rfl) (by kernel_rfl) (by kernel_rfl) (fun _ _ _ h => h) (Or.inl ⟨by rfl, ?_⟩) KX.out ?_; rotate_left; · intro w hSw; (try dsimp only at hSw); go_simp; try with_reducible rfl
      try simp only [Act.put, List.setIfInBounds_toArray, List.set_cons_zero, List.set_cons_succ]
      refine wpAnyH_take (i := 3) (oi := ⟨some 36, _, _, _, _, _⟩) (v := ?_) rfl (by kernel_rfl) (by kernel_rfl) (by kernel_rfl) (fun _ _ _ h => h) (Or.inl ⟨by rfl, ?_⟩) KX.out ?_; rotate_left; · intro w hSw; (try dsimp only at hSw); go_simp; try with_reducible rfl
      try simp only [Act.put, List.setIfInBounds_toArray, List.set_cons_zero, List.set_cons_succ]
      refine wpAnyH_take (i := 4) (oi := ⟨some 37, _, _, _, _, _⟩) (v := ?_) rfl (by kernel_rfl) (by kernel_rfl) (by kernel_rfl) (fun _ _ _ h => h) (Or.inl ⟨by rfl, ?_⟩) KX.out ?_; rotate_left; · intro w hSw; (try dsimp only at hSw); go_simp; try with_reducible rfl
      try simp only [Act.put, List.setIfInBounds_toArray, List.set_cons_zero, List.set_cons_succ]
      refine wpAnyH_take (i := 5) (oi := ⟨some 38, _, _, _, _, _⟩) (v := ?_) rfl (by kernel_rfl) (by kernel_rfl) (by kernel_rfl) (fun _ _ _ h => h) (Or.inl ⟨by rfl, ?_⟩) KX.out ?_; rotate_left; · intro w hSw; (try dsimp only at hSw); go_simp; try with_reducible rfl
      try simp only [Act.put, List.setIfInBounds_toArray, List.set_cons_zero, List.set_cons_succ]
      refine wpAnyH_take (i := 6) (oi := ⟨some 39, _, _, _, _, _⟩) (v := ?_) rfl (by kernel_rfl) (by kernel_rfl) (by kernel_rfl) (fun _ _ _ h => h) (Or.inl ⟨by rfl, ?_⟩) KX.out ?_; rotate_left; · intro w hSw; (try dsimp only at hSw); go_simp; try with_reducible rfl
      try simp only [Act.put, List.setIfInBounds_toArray, List.set_cons_zero, List.set_cons_succ]
      refine wpAnyH_take (i := 7) (oi := ⟨some 40, _, _, _, _, _⟩) (v := ?_) rfl (by kernel_rfl) (by kernel_rfl) (by kernel_rfl) (fun _ _ _ h => h) (Or.inl ⟨by rfl, ?_⟩) KX.out ?_; rotate_left; · intro w hSw; (try dsimp only at hSw); go_simp; try with_reducible rfl
      try simp only [Act.put, List.setIfInBounds_toArray, List.set_cons_zero, List.set_cons_succ]
      refine wpAnyH_take (i := 8) (oi := ⟨some 41, _, _, _, _, _⟩) (v := ?_) rfl (by kernel_rfl) (by kernel_rfl) (by kernel_rfl) (fun _ _ _ h => h) (Or.inl ⟨by rfl, ?_⟩) KX.out ?_; rotate_left; · intro w hSw; (try dsimp only at hSw); go_simp; try with_reducible rfl
      try simp only [Act.put, List.setIfInBounds_toArray, List.set_cons_zero, List.set_cons_succ]
      refine wpAnyH_take (i := 9) (oi := ⟨some 42, _, _, _, _, _⟩) (v := ?_) rfl (by kernel_rfl) (by kernel_rfl) (by kernel_rfl) (fun _ _ _ h => h) (Or.inl ⟨by rfl, ?_⟩) KX.out ?_; rotate_left; · intro w hSw; (try dsimp only at hSw); go_simp; try with_reducible rfl
      try simp only [Act.put, List.setIfInBounds_toArray, List.set_cons_zero, List.set_cons_succ]
      refine wpAnyH_take (i := 10) (oi := ⟨some 43, _, _, _, _, _⟩) (v := ?_) rfl (by kernel_rfl) (by kernel_rfl) (by kernel_rfl) (fun _ _ _ h => h) (Or.inl ⟨by rfl, ?_⟩) KX.out ?_; rotate_left; · intro w hSw; (try dsimp only at hSw); go_simp; try with_reducible rfl
      try simp only [Act.put, List.setIfInBounds_toArray, List.set_cons_zero, List.set_cons_succ]
      refine wpAnyH_ready (rs := [2]) (by kernel_rfl) (by simp) ?_
      refine AllReadyH.cons rfl (fun K hK => ?_) ?_
      rotate_left
      · exact AllReadyH.nil
      go_simp
      go_at_call 24
      refine (CL.out _ HBC.out).mono ?_
      rintro e wl ⟨vl, rfl, ⟨vs8, vb8, vm8, rfl, hol⟩, hbl, hql, hel⟩
      have HOL2 := Lib.hid hol
      have HBL := Lib.hid hbl
      have HRL := Lib.hid (hel r _ HEL.out.2.1)
      have HDL := Lib.hid (hel d _ HEL.out.2.2)
      have HQL := Lib.hid hql
      have HXL := Lib.hid (hel gx _ HEL.out.1)
      have HON := Lib.hid (And.intro (slice_one hol.st.slice) (And.intro (slice_one hol.bk.slice) (slice_one hol.me.slice)))
      have KX := Lib.hid (five HXL.out HQL.out)
      clear hol hbl hql hel
      go_wp2_with fail
      refine hK.out _ _ KX.out (fun hHeld => ?_)
      clear hK K hHeld
      try simp only [Act.put, List.setIfInBounds_toArray, List.set_cons_zero, List.set_cons_succ]
      refine wpAnyH_ready (rs := [11]) (by kernel_rfl) (by simp) ?_
      refine AllReadyH.cons rfl (fun K hK => ?_) ?_
      rotate_left
      · exact AllReadyH.nil
      refine step_st_state (by rfl) _ _ rfl r _ rfl rfl _ HRL.out rfl rfl (all_one HON.out.1 HON.out.2.1 HON.out.2.2) ?_
      intro w10 h10 t10
      have HR10 := Lib.hid h10
      have HT10 := Lib.hid t10
      have HD10 := Lib.hid (t10.whole HDL.out (fun hm => by have h1 := List.mem_singleton.1 hm; have h2 := HQR.out; omega))
      have HX10 := Lib.hid (t10.whole HXL.out (fun hm => HQR.out.2.2.1 (List.mem_singleton.1 hm)))
      have HQ10 := Lib.hid (t10.whole HQL.out (fun hm => HQR.out.2.2.2.2.1 (List.mem_singleton.1 hm)))
      have KX := Lib.hid (five HX10.out HQ10.out)
      clear h10 t10
      refine hK.out _ _ KX.out (fun hHeld => ?_)
      clear hK K hHeld
      try simp only [Act.put, List.setIfInBounds_toArray, List.set_cons_zero, List.set_cons_succ]
      refine wpAnyH_ready (rs := [12]) (by kernel_rfl) (by simp) ?_
      refine AllReadyH.cons rfl (fun K hK => ?_) ?_
      rotate_left
      · exact AllReadyH.nil
      refine Mach.step_st_done (by rfl) _ _ rfl d #[.int .i64 (k : Int), .int .i64 xo.steps, .bool xh] rfl rfl _ HD10.out rfl rfl (by simp [Value.oneCell']) ?_
      intro w11 h11 t11
      have HD11 := Lib.hid h11
      have HT11 := Lib.hid t11
      have HR11 := Lib.hid (t11.whole HR10.out (fun hm => by have h1 := List.mem_singleton.1 hm; have h2 := HQR.out; omega))
      have HX11 := Lib.hid (t11.whole HX10.out (fun hm => HQR.out.2.2.2.1 (List.mem_singleton.1 hm)))
      have HQ11 := Lib.hid (t11.whole HQ10.out (fun hm => HQR.out.2.2.2.2.2 (List.mem_singleton.1 hm)))
      have KX := Lib.hid (five HX11.out HQ11.out)
      clear h11 t11
      refine hK.out _ _ KX.out (fun hHeld => ?_)
      clear hK K hHeld
      try simp only [Act.put, List.setIfInBounds_toArray, List.set_cons_zero, List.set_cons_succ]
      refine wpAnyH_done (by kernel_rfl) ?_ _
      go_wp2_with fail
      refine bodyPost_ret (results_two rfl _ _ r d _ _ _ _ _ _ _ _ rfl HR11.out Tryd.underlying28 rfl state_size rfl HD11.out Tryd.underlying34 rfl done_size) rfl ?_
      rw [HRT.out]
      exact own_run2 HOL2.out (two_more HT10.out HT11.out) ⟨HQR.out.1, HQR.out.2.1⟩ (own_far2 HRL.out HDL.out HOL2.out) HBL.out
theorem run_any {w : World} {t : T} {s : M} {wat : List Int} {vi vo vc vw v : Value} (hm : ReadsM w v s) (ht : ReadsL w vi vo vc t) (hwt : Reads w vw wat) (hz : Sz s [] wat) (hc : CM s) (hi : ∀ x ∈ t.ins, CI x) (hT : Tabs w) (hn : t.ins.length ≤ 10000) (hno : t.outs.length ≤ 10000) (hol : ∀ o ∈ t.outs, o.stack.length ≤ 10000 ∧ o.back.length ≤ 10000) :
    Calls Tryd.prog 9 #[trV t vi vo vc, v, vw] w (Runs (runT wat t s) w) := by
  cases h : mayT t s with
  | true => exact run_yes hm ht hwt hz hc hi hT hn hno hol h
  | false =>
    have e : runT wat t s = ⟨s, -1, 0, false⟩ := by unfold runT; rw [if_neg (by rw [h]; decide)]
    rw [e]
    exact run_not hm hz.st hz.bk hz.me h
end Go.Proofs.YtgabemlehmhgpaaDoor.Ev
/- The document's own machine (chapter 9) that has done nothing, taken out of the machine's texts. -/
namespace Go.Proofs.YtgabemlehmhgpaaDoor.Ev
open Go.RowKit Book Mem Mach
set_option linter.unusedVariables false
set_option linter.unusedSimpArgs false
def bootCell (o k : Nat) : Int := if 64 ≤ k ∧ k < 64 + 2 * o then (if k % 2 = 0 then ((k - 64) / 2 : Nat) else 5) else if k = 1 then 1 else 0
def bootMem (o n : Nat) : List Int := (List.range n).map (bootCell o)
theorem bootMem_length (o n : Nat) : (bootMem o n).length = n := by simp [bootMem]
theorem bootMem_at (o n k : Nat) : (bootMem o n)[k]? = if k < n then some (bootCell o k) else none := by
  unfold bootMem
  rw [List.getElem?_map]
  by_cases h : k < n
  · rw [if_pos h, List.getElem?_range h]; rfl
  · rw [if_neg h, List.getElem?_eq_none (by simpa using h)]; rfl
def bootM (n : Nat) (inp : ByteArray) : M := ⟨0, 0, [], [], bootMem 48 n, ⟨#[]⟩, inp, 0, 1, 0⟩
theorem new_box (w : World) (cs : Array Value) (T : TypeId) : ∃ w1 g, w.alloc (.cells cs T) = w1 ∧ w.heap.size = g ∧ Hid (w1.heap[g]? = some (.cells cs T (0, 0))) ∧ Hid (Below w.heap.size w w1) ∧ Hid (w.heap.size = g) :=
  ⟨_, _, rfl, rfl, heap_alloc_new w _, (Below.refl w.heap.size w).alloc (Nat.le_refl _) _, rfl⟩
/-- the first k cells are laid -/
def part (n k : Nat) : List Int := (bootMem 48 n).take k ++ List.replicate (n - k) 0
theorem part_length {n k : Nat} (h : k ≤ n) : (part n k).length = n := by unfold part; rw [List.length_append, List.length_take, bootMem_length, List.length_replicate]; omega
theorem part_zero (n : Nat) : part n 0 = List.replicate n 0 := by simp [part]
theorem part_all (n : Nat) : part n n = bootMem 48 n := by unfold part; rw [Nat.sub_self, List.take_of_length_le (by rw [bootMem_length]; omega)]; simp
theorem part_at {n k j : Nat} (h : k ≤ n) : (part n k)[j]? = if j < n then some (if j < k then bootCell 48 j else 0) else none := by
  unfold part
  by_cases h1 : j < k
  · rw [List.getElem?_append_left (by rw [List.length_take, bootMem_length]; omega), List.getElem?_take, if_pos h1, bootMem_at, if_pos (by omega), if_pos (by omega), if_pos h1]
  · rw [List.getElem?_append_right (by rw [List.length_take, bootMem_length]; omega), List.getElem?_replicate, List.length_take, bootMem_length]
    by_cases h2 : j < n
    · rw [if_pos (by omega), if_pos h2, if_neg h1]
    · rw [if_neg (by omega), if_neg h2]
theorem part_set {n k : Nat} (h : k < n) : (part n k).set k (bootCell 48 k) = part n (k + 1) := by
  apply List.ext_getElem?
  intro j
  rw [List.getElem?_set, part_at (by omega), part_at (by omega), part_length (by omega)]
  by_cases h1 : k = j
  · subst h1
    rw [if_pos rfl, if_pos h, if_pos h, if_pos (by omega)]
  · rw [if_neg h1]
    by_cases h2 : j < n
    · rw [if_pos h2, if_pos h2]
      by_cases h3 : j < k
      · rw [if_pos h3, if_pos (by omega)]
      · rw [if_neg h3, if_neg (by omega)]
    · rw [if_neg h2, if_neg h2]
theorem part_same {n k : Nat} (h : k < n) (h0 : bootCell 48 k = 0) : part n (k + 1) = part n k := by
  apply List.ext_getElem?
  intro j
  rw [part_at (by omega), part_at (by omega)]
  by_cases h1 : j = k
  · subst h1
    rw [if_pos h, if_pos h, if_pos (by omega), if_neg (by omega), h0]
  · by_cases h2 : j < n
    · rw [if_pos h2, if_pos h2]
      by_cases h3 : j < k
      · rw [if_pos h3, if_pos (by omega)]
      · rw [if_neg h3, if_neg (by omega)]
    · rw [if_neg h2, if_neg h2]
set_option maxHeartbeats 8000000 in
set_option maxRecDepth 100000 in
theorem refBoot20 (w : World) (nn : Nat) (hn : (nn : Int) = 20) (inp : ByteArray) :
    Calls Tryd.prog 19 #[.int .i64 20, .string inp] w (GivesM (bootM nn inp) w) := by
  obtain ⟨i0, HI1, HI2, HI3, HI4⟩ := int_facts
  have HI := Lib.hid (And.intro HI1 (And.intro HI2 (And.intro HI3 HI4)))
  clear HI1 HI2 HI3 HI4
  obtain ⟨w1, r, hw1, hr, HR, HB1, HRG⟩ := new_box w zero10 28
  have HM := Lib.hid hn
  have hn3 : nn ≤ 3000 := by omega
  clear hn
  go_enter Tryd.func19, Tryd.ntmps19
  go_upto_region 1 with fail
  clear hw1 hr
  go_wp2_with (at_make; refine wpList_make_full _ rfl _ _ 24 rfl w1.heap.size 3 i0 (.int .i64 0) 1 Tryd.underlying24 HI.out.1 HI.out.2.1 HI.out.2.2.1 .i64 .i64 _ _ nn rfl rfl ?a1 ?a2 ?a3 ?a4 (Nat.le_refl _) ?_)
  case a1 => first | exact HM.out.symm | (have := HM.out; omega)
  case a2 => first | exact HM.out.symm | (have := HM.out; omega)
  case a3 => rw [HI.out.2.2.2]; omega
  case a4 => unfold maxLen; omega
  intro w2 hO hG
  rw [toList_madeCells_one] at hO
  have hb1 := (Stirred.of_grown hG).below (B := w1.heap.size) (fun k h => by cases h) (Nat.le_refl _)
  obtain ⟨g, hg⟩ : ∃ g, w1.heap.size = g := ⟨_, rfl⟩
  rw [hg] at hO hb1 ⊢
  have HGE := Lib.hid hg
  have HO := Lib.hid (show Owns w2 g 3 (.slice (some ⟨g, 0, none⟩) nn nn) (vals (part nn 0)) by
    have := Owns.of_row hO
    rw [part_zero, vals, List.map_replicate]
    exact this)
  have HB2 := Lib.hid hb1
  clear hO hG hb1 hg
  go_wp2_with fail
  go_loopg [6] nn (fun z f wr => ∃ k : Nat, z = nn - k ∧ k ≤ nn ∧ f = .int .i64 k ∧ Hid (Owns wr g 3 (.slice (some ⟨g, 0, none⟩) nn nn) (vals (part nn k))) ∧ Hid (Below g w1 wr))
  case atStart => exact ⟨0, rfl, Nat.zero_le _, rfl, HO, HB2⟩
  case round =>
    obtain ⟨k, rfl, hk, rfl, HX, HY⟩ := hrel
    by_cases hlt : k < nn
    · have hk0 : (0 : Int) ≤ (k : Int) := Int.natCast_nonneg _
      have hk1 : (k : Int) < (nn : Int) := by omega
      obtain ⟨kc, kf⟩ := owns_at HX.out (show k < (part nn k).length by rw [part_length hk]; exact hlt)
      have HS := Lib.hid (fun v : Int => And.intro (HX.out.stored k (.int .i64 v)) (show Below g w1 (wr.setCell ⟨g, k, none⟩ (.int .i64 v)) from HY.out.trans (((Stirred.setCell wr ⟨g, k, none⟩ (.int .i64 v)).below (B := g) (fun j h => by rw [List.mem_singleton.1 h]; exact Nat.le_refl _) (HGE.out ▸ HY.out.size)))))
      by_cases c1 : k = 1
      · subst c1
        have hb : bootCell 48 1 = 1 := rfl
        have H1 := Lib.hid (part_set hlt)
        rw [hb] at H1
        have HZ := Lib.hid (HS.out 1)
        rw [vals_set, H1.out] at HZ
        clear HS
        go_wp2
        go_roundg (nn - (1 + 1))
        case measure => omega
        case rel => exact ⟨1 + 1, rfl, by omega, by go_num, HZ.out.1, HZ.out.2⟩
      · by_cases c2 : 64 ≤ k
        · by_cases c3 : k < 160
          · by_cases c4 : k % 2 = 0
            · have hb : bootCell 48 k = ((k - 64) / 2 : Nat) := by unfold bootCell; rw [if_pos (by omega), if_pos c4]
              have q1 : (k : Int).tmod 2 = 0 := by rw [Int.tmod_eq_emod_of_nonneg hk0]; omega
              obtain ⟨q, hq⟩ : ∃ q, (k - 64) / 2 = q := ⟨_, rfl⟩
              have q2 : ((k : Int) - 64).tdiv 2 = (q : Int) := by rw [Int.tdiv_eq_ediv_of_nonneg (by omega)]; omega
              have q3 : wrap64 (q : Int) = (q : Int) := by unfold wrap64; omega
              have H1 := Lib.hid (part_set hlt)
              rw [hb, hq] at H1
              have hx5 := (HS.out 5).1
              have HZ := Lib.hid (And.intro (hx5.stored k (.int .i64 q)) (show Below g w1 ((wr.setCell ⟨g, k, none⟩ (.int .i64 5)).setCell ⟨g, k, none⟩ (.int .i64 q)) from (HS.out 5).2.trans (((Stirred.setCell _ ⟨g, k, none⟩ (.int .i64 q)).below (B := g) (fun j h => by rw [List.mem_singleton.1 h]; exact Nat.le_refl _) (HGE.out ▸ (HS.out 5).2.size)))))
              rw [vals_set, vals_set, List.set_set, H1.out] at HZ
              rw [vals_set] at hx5
              obtain ⟨kc5, kf5⟩ := owns_at hx5 (show k < ((part nn k).set k 5).length by rw [List.length_set, part_length hk]; exact hlt)
              clear HS hx5 hq hb
              go_wp2
              go_roundg (nn - (k + 1))
              case measure => omega
              case rel => exact ⟨k + 1, rfl, by omega, by go_num, HZ.out.1, HZ.out.2⟩
            · have hb : bootCell 48 k = 5 := by unfold bootCell; rw [if_pos (by omega), if_neg c4]
              have q1 : ¬ (k : Int).tmod 2 = 0 := by rw [Int.tmod_eq_emod_of_nonneg hk0]; omega
              have H1 := Lib.hid (part_set hlt)
              rw [hb] at H1
              have HZ := Lib.hid (HS.out 5)
              rw [vals_set, H1.out] at HZ
              clear HS hb
              go_wp2
              go_roundg (nn - (k + 1))
              case measure => omega
              case rel => exact ⟨k + 1, rfl, by omega, by go_num, HZ.out.1, HZ.out.2⟩
          · have hb : bootCell 48 k = 0 := by unfold bootCell; rw [if_neg (by omega), if_neg c1]
            have H1 := Lib.hid (part_same hlt hb)
            clear HS hb
            go_wp2
            go_roundg (nn - (k + 1))
            case measure => omega
            case rel => exact ⟨k + 1, rfl, by omega, by go_num, by rw [H1.out]; exact HX.out, HY.out⟩
        · have hb : bootCell 48 k = 0 := by unfold bootCell; rw [if_neg (by omega), if_neg c1]
          have H1 := Lib.hid (part_same hlt hb)
          clear HS hb
          go_wp2
          go_roundg (nn - (k + 1))
          case measure => omega
          case rel => exact ⟨k + 1, rfl, by omega, by go_num, by rw [H1.out]; exact HX.out, HY.out⟩
    · obtain rfl : k = nn := by omega
      have HO := Lib.hid HX.out
      rw [part_all] at HO
      have HRR := Lib.hid ((Stirred.of_below (HY.out.mono (Nat.le_of_eq HGE.out)) []).whole HR.out List.not_mem_nil)
      have HBW := Lib.hid (show Below w.heap.size w wr from HB1.out.trans (HY.out.mono (by have := HB1.out.size; have := HGE.out; omega)))
      clear HX
      go_wp2_with (refine st_state (by rfl) _ _ rfl r _ rfl rfl _ _ HRR.out rfl rfl (all_one rfl rfl rfl) ?_; intro wf hrf htf; have HRF := Lib.hid hrf; have HTF := Lib.hid htf; clear hrf htf)
      refine bodyPost_ret (results_cell_row rfl _ _ r _ _ _ _ rfl HRF.out Tryd.underlying28 rfl state_size) rfl ?_
      have hge := HGE.out
      have hrl := whole_lt HR.out
      have hrg := HRG.out
      refine ⟨_, rfl, ⟨_, _, _, rfl, ⟨Owns.nil _ _ _, Owns.nil _ _ _, (HO.out.touch HTF.out (fun j hj hm => ?_)).from (by omega), (fun j e => by simp [blk] at e), (fun j e => by simp [blk] at e)⟩⟩, HBW.out.trans (HTF.out.below (fun j hj => by rw [List.mem_singleton.1 hj]; omega) HBW.out.size)⟩
      have h1 := (HO.out.block j hj).1
      rw [List.mem_singleton.1 hm] at h1
      omega
end Go.Proofs.YtgabemlehmhgpaaDoor.Ev
/- The statements' first call (chapter 15). -/
namespace Go.Proofs.YtgabemlehmhgpaaDoor.Ev
open Go.RowKit Book Mem
open Ir (T I O trA trV trV ReadsL ReadsI ReadsO outA outV insA insV newBox boxOn ld_tr st_tr zero9 CI CT)
open Mach (M less cells10 zero10 OwnsL OwnsM ReadsM stV st_state ld_state state_size slice_one all_one)
set_option linter.unusedSimpArgs false
set_option linter.unusedVariables false
def aT : T := ⟨5, 1, 0, 0, 0, [(2, 0, 0, 0, 0), (4, 11, 0, 0, 0)], [⟨7, 2, [1], []⟩], 0, []⟩
def aM : M := { bootM 20 ⟨#[]⟩ with ip := 5, status := 0, stack := [3, 4] }
theorem aRun : runT [] aT aM = ⟨{ aM with ip := 7, stack := [3, 8] }, 0, 2, false⟩ := by kernel_rfl
theorem aMay : mayT aT aM = true := by kernel_rfl
theorem two_ins {w : World} {g c : Nat} {x y : I} (h : w.heap[g]? = some (.cells (insA x ++ insA y) 42 (0, 0))) : ReadsI w (.slice (some ⟨g, 0, none⟩) 2 c) [x, y] :=
  ⟨_, c, rfl, fun j u hj => by
    rcases j with - | - | j
    · obtain rfl : x = u := by simpa using hj
      exact ⟨_, rfl, whole_cell h rfl, whole_cell h rfl, whole_cell h rfl, whole_cell h rfl, whole_cell h rfl⟩
    · obtain rfl : y = u := by simpa using hj
      exact ⟨_, rfl, whole_cell h rfl, whole_cell h rfl, whole_cell h rfl, whole_cell h rfl, whole_cell h rfl⟩
    · simp at hj⟩
theorem one_int {w : World} {g c : Nat} {x : Int} (h : w.heap[g]? = some (.cells #[.int .i64 x] 3 (0, 0))) : Reads w (.slice (some ⟨g, 0, none⟩) 1 c) [x] :=
  ⟨_, c, rfl, fun j y hj => by
    rcases j with - | j
    · obtain rfl : x = y := by simpa using hj
      exact ⟨_, rfl, whole_cell h rfl⟩
    · simp at hj⟩
theorem no_int (w : World) (ao : Option Addr) (c : Nat) : Reads w (.slice ao 0 c) [] := ⟨ao, c, rfl, fun j y hj => by simp at hj⟩
theorem one_out {w : World} {g c : Nat} {x : O} {vs vb : Value} (h : w.heap[g]? = some (.cells (outA x vs vb) 39 (0, 0))) (h1 : Reads w vs x.stack) (h2 : Reads w vb x.back) : ReadsO w (.slice (some ⟨g, 0, none⟩) 1 c) [x] :=
  ⟨_, c, rfl, fun j y hj => by
    rcases j with - | j
    · obtain rfl : x = y := by simpa using hj
      exact ⟨_, vs, vb, rfl, whole_cell h rfl, whole_cell h rfl, whole_cell h rfl, whole_cell h rfl, h1, h2⟩
    · simp at hj⟩
theorem two_int {w : World} {g c : Nat} {x y : Int} (h : w.heap[g]? = some (.cells #[.int .i64 x, .int .i64 y] 3 (0, 0))) : Reads w (.slice (some ⟨g, 0, none⟩) 2 c) [x, y] :=
  ⟨_, c, rfl, fun j u hj => by
    rcases j with - | - | j
    · obtain rfl : x = u := by simpa using hj
      exact ⟨_, rfl, whole_cell h rfl⟩
    · obtain rfl : y = u := by simpa using hj
      exact ⟨_, rfl, whole_cell h rfl⟩
    · simp at hj⟩
theorem aSz : Sz aM [] [] := ⟨by decide, by decide, by decide, by decide, by decide, by decide, by decide, fun x h => by cases h⟩
theorem aMem : ∀ x ∈ bootMem 48 20, -9223372036854775808 ≤ x ∧ x ≤ 9223372036854775807 := by decide +kernel
theorem aCM : CM aM := ⟨(by intro x hx; simp [aM] at hx; rcases hx with rfl | rfl <;> (unfold Go.Proofs.YtgabemlehmhgpaaDoor.Cell.In; omega)), (fun x h => by cases h), aMem⟩
theorem aCI : ∀ x ∈ aT.ins, CI x := by
  intro x hx
  simp [aT] at hx
  rcases hx with rfl | rfl <;> exact ⟨by unfold Go.Proofs.YtgabemlehmhgpaaDoor.Cell.In; dsimp only; omega, by unfold Go.Proofs.YtgabemlehmhgpaaDoor.Cell.In; dsimp only; omega, by unfold Go.Proofs.YtgabemlehmhgpaaDoor.Cell.In; dsimp only; omega, by unfold Go.Proofs.YtgabemlehmhgpaaDoor.Cell.In; dsimp only; omega, by unfold Go.Proofs.YtgabemlehmhgpaaDoor.Cell.In; dsimp only; omega⟩
set_option maxHeartbeats 8000000 in
set_option maxRecDepth 100000 in
theorem alive_any (w : World) (hT : Tabs w) : Calls Tryd.prog 7 #[] w (SaysF true w) := by
  obtain ⟨w1, g1, hw1, hg1, H1, B1, Z1⟩ := newBox w #[.int .i64 2, .int .i64 0, .int .i64 0, .int .i64 0, .int .i64 0, .int .i64 4, .int .i64 11, .int .i64 0, .int .i64 0, .int .i64 0] 42
  obtain ⟨w2, g2, hw2, hg2, H2, B2, Z2⟩ := newBox w1 #[.int .i64 1] 3
  obtain ⟨w3, g3, hw3, hg3, H3, B3, Z3⟩ := newBox w2 #[.int .i64 7, .int .i64 2, .slice (some ⟨g2, 0, none⟩) 1 1, .slice none 0 0] 39
  obtain ⟨wz, g4, hwz, hg4, HZB, BZ, Z4⟩ := newBox w3 zero9 26
  have B3z := Lib.hid (B3.out.trans (BZ.out.mono B3.out.size))
  have B2z := Lib.hid (B2.out.trans (B3z.out.mono B2.out.size))
  have BFz := Lib.hid (B1.out.trans (B2z.out.mono B1.out.size))
  have J1 := Lib.hid (boxOn H1.out B2z.out)
  have J2 := Lib.hid (boxOn H2.out B3z.out)
  have J3 := Lib.hid (boxOn H3.out BZ.out)
  have NE := Lib.hid (show g1 ≠ g4 ∧ g2 ≠ g4 ∧ g3 ≠ g4 ∧ w.heap.size ≤ g4 by
    have h1 := whole_lt H1.out
    have h2 := whole_lt H2.out
    have h3 := whole_lt H3.out
    have z4 := Z4.out
    have s2 := B2.out.size
    have s3 := B3.out.size
    have s1 := B1.out.size
    omega)
  have HT0 := Lib.hid hT
  clear hT
  go_enter Tryd.func7, Tryd.ntmps7
  go_upto_region 2 with (refine st_tr (by rfl) _ _ rfl g4 #[.int .i64 5, .int .i64 1, .int .i64 0, .int .i64 0, .int .i64 0, .slice (some ⟨g1, 0, none⟩) 2 2, .slice (some ⟨g3, 0, none⟩) 1 1, .int .i64 0, .slice none 0 0] rfl rfl rfl _ rfl HZB.out (by simp [Value.oneCell']) ?_; intro w4 h4 t4)
  have H4 := Lib.hid h4
  have K1 := Lib.hid (t4.whole J1.out (fun hm => NE.out.1 (List.mem_singleton.1 hm)))
  have K2 := Lib.hid (t4.whole J2.out (fun hm => NE.out.2.1 (List.mem_singleton.1 hm)))
  have K3 := Lib.hid (t4.whole J3.out (fun hm => NE.out.2.2.1 (List.mem_singleton.1 hm)))
  have BF := Lib.hid (BFz.out.trans (t4.below (fun k hk => by rw [List.mem_singleton.1 hk]; exact NE.out.2.2.2) BFz.out.size))
  have HR := Lib.hid (show ReadsL w4 (.slice (some ⟨g1, 0, none⟩) 2 2) (.slice (some ⟨g3, 0, none⟩) 1 1) (.slice none 0 0) aT from ⟨two_ins (x := (2, 0, 0, 0, 0)) (y := (4, 11, 0, 0, 0)) K1.out, one_out (x := ⟨7, 2, [1], []⟩) K3.out (one_int K2.out) (no_int _ _ _), no_int _ _ _⟩)
  clear h4 t4 hw1 hw2 hw3 hwz hg1 hg2 hg3 hg4 H1 H2 H3 HZB B1 B2 B3 BZ Z1 Z2 Z3 Z4 J1 J2 J3 B3z B2z BFz K1 K2 K3
  have CB := Lib.hid (refBoot20 w4 20 rfl ⟨#[]⟩)
  dsimp only [Act.put]
  go_wp2_with fail
  refine CB.out.mono ?_
  rintro e w5 ⟨v5, rfl, ⟨vs5, vb5, vm5, rfl, ho5⟩, hb5⟩
  obtain ⟨bo, bc, eb⟩ := ho5.bk.slice
  rw [show (vals (bootM 20 ⟨#[]⟩).back).length = 0 from rfl] at eb
  subst eb
  have HO5 := Lib.hid ho5
  have HB5 := Lib.hid hb5
  have HON := Lib.hid (And.intro (slice_one ho5.st.slice) (And.intro (slice_one ho5.bk.slice) (slice_one ho5.me.slice)))
  obtain ⟨w6, g6, hw6, hg6, H6, B6, Z6⟩ := newBox w5 zero10 28
  clear ho5 hb5 CB
  go_upto_region 4 with (refine st_state (by rfl) _ _ rfl g6 (cells10 0 0 vs5 (.slice bo 0 bc) vm5 ⟨#[]⟩ ⟨#[]⟩ 0 1 0) rfl rfl _ _ H6.out rfl rfl (all_one HON.out.1 HON.out.2.1 HON.out.2.2) ?_; intro w7 h7 t7; obtain ⟨w8, g8, hw8, hg8, H8, B8, Z8⟩ := newBox w7 #[.int .i64 3, .int .i64 4] 3; have HGL := Lib.hid (whole_lt h7); have h8 := boxOn h7 B8.out; have c0 : w8.cell? ⟨g6, 0, none⟩ = some (.int .i64 0) := whole_cell h8 rfl; have f0 : w8.frozen? ⟨g6, 0, none⟩ = false := whole_frozen h8 0; have h9 := whole_set h8 0 (.int .i64 5); have t9 := Stirred.setCell w8 ⟨g6, 0, none⟩ (.int .i64 5); obtain ⟨w9, hw9⟩ : ∃ w9, w8.setCell ⟨g6, 0, none⟩ (.int .i64 5) = w9 := ⟨_, rfl⟩; rw [hw9] at h9 t9; have c8 : w9.cell? ⟨g6, 8, none⟩ = some (.int .i64 1) := whole_cell h9 rfl; have f8 : w9.frozen? ⟨g6, 8, none⟩ = false := whole_frozen h9 8; have h10 := whole_set h9 8 (.int .i64 0); have t10 := Stirred.setCell w9 ⟨g6, 8, none⟩ (.int .i64 0); obtain ⟨w10, hw10⟩ : ∃ w10, w9.setCell ⟨g6, 8, none⟩ (.int .i64 0) = w10 := ⟨_, rfl⟩; rw [hw10] at h10 t10; have c2 : w10.cell? ⟨g6, 2, none⟩ = some vs5 := whole_cell h10 rfl; have f2 : w10.frozen? ⟨g6, 2, none⟩ = false := whole_frozen h10 2; have h11 := whole_set h10 2 (.slice (some ⟨g8, 0, none⟩) 2 2); have t11 := Stirred.setCell w10 ⟨g6, 2, none⟩ (.slice (some ⟨g8, 0, none⟩) 2 2); obtain ⟨w11, hw11⟩ : ∃ w11, w10.setCell ⟨g6, 2, none⟩ (.slice (some ⟨g8, 0, none⟩) 2 2) = w11 := ⟨_, rfl⟩; rw [hw11] at h11 t11; have H11 := Lib.hid h11; have T811 := Lib.hid ((t9.trans t10 (fun k hk => .inl hk)).trans t11 (fun k hk => .inl hk)); have T57 := Lib.hid ((Stirred.of_below B6.out [g6]).trans t7 (fun k hk => .inl hk)); clear h7 t7 h8 h9 t9 h10 t10 h11 t11)
  have H11b := Lib.hid (show w11.heap[g6]? = some (.cells (cells10 5 0 (.slice (some ⟨g8, 0, none⟩) 2 2) (.slice bo 0 bc) vm5 ⟨#[]⟩ ⟨#[]⟩ 0 0 0) 28 (0, 0)) from H11.out)
  have BT := Lib.hid (show Below w4.heap.size w4 w11 from by
    have b1 := HB5.out
    have b2 := b1.trans (T57.out.below (B := w4.heap.size) (fun k hk => by rw [List.mem_singleton.1 hk, ← Z6.out]; exact b1.size) b1.size)
    have b3 := b2.trans (B8.out.mono b2.size)
    exact b3.trans (T811.out.below (B := w4.heap.size) (fun k hk => by rw [List.mem_singleton.1 hk, ← Z6.out]; exact b1.size) b3.size))
  have T511 := Lib.hid ((T57.out.trans (Stirred.of_below B8.out []) (fun k hk => by cases hk)).trans T811.out (fun k hk => .inl hk))
  have hfar : ∀ {v : Value} {xs : List Int}, Owns w5 w4.heap.size 3 v (vals xs) → Owns w11 w4.heap.size 3 v (vals xs) := fun h => h.touch T511.out (fun k e hm => by have h1 := (h.block k e).2.1; have h2 := List.mem_singleton.1 hm; have h3 := Z6.out; omega)
  have H8c := T811.out.whole H8.out (fun hm => by have h1 := List.mem_singleton.1 hm; have h2 := Z8.out; have h3 := HGL.out; simp only at h1; omega)
  have HM11 := Lib.hid (show ReadsM w11 (stV aM (.slice (some ⟨g8, 0, none⟩) 2 2) (.slice bo 0 bc) vm5) aM from ⟨_, _, _, rfl, ⟨two_int H8c, _, 2, rfl, Nat.le_refl _⟩, ReadsC.of_owns (hfar HO5.out.bk), ReadsC.of_owns (hfar HO5.out.me)⟩)
  have HR11 := Lib.hid (HR.out.below BT.out)
  have HT11 := Lib.hid ((HT0.out.mono BF.out).mono BT.out)
  have HQ11 := Lib.hid (boxOn H4.out BT.out)
  have CR := Lib.hid (show Calls Tryd.prog 9 #[trV aT (.slice (some ⟨g1, 0, none⟩) 2 2) (.slice (some ⟨g3, 0, none⟩) 1 1) (.slice none 0 0), stV aM (.slice (some ⟨g8, 0, none⟩) 2 2) (.slice bo 0 bc) vm5, .slice none 0 0] w11 (Runs ⟨{ aM with ip := 7, stack := [3, 8] }, 0, 2, false⟩ w11) from by
    have h := run_any HM11.out HR11.out (no_int w11 none 0) aSz aCM aCI HT11.out (by decide) (by decide) (fun o ho => by rw [List.mem_singleton.1 ho]; exact ⟨by decide, by decide⟩)
    rw [aRun] at h
    exact h)
  have CY := Lib.hid (fun wc => show Calls Tryd.prog 20 #[trV aT (.slice (some ⟨g1, 0, none⟩) 2 2) (.slice (some ⟨g3, 0, none⟩) 1 1) (.slice none 0 0), stV aM (.slice (some ⟨g8, 0, none⟩) 2 2) (.slice bo 0 bc) vm5] wc (SaysF true wc) from by
    have h := may_any (w := wc) (t := aT) (s := aM) (vi := .slice (some ⟨g1, 0, none⟩) 2 2) (vo := .slice (some ⟨g3, 0, none⟩) 1 1) (vc := .slice none 0 0) (vm := vm5) (so := some ⟨g8, 0, none⟩) (bo := bo) (sc := 2) (bc := bc) (by decide) (by decide)
    rw [aMay] at h
    exact h)
  clear hw6 hw8 hg6 hg8 hw9 hw10 hw11 c0 f0 c8 f8 c2 f2 H11 H6 B6 H8 B8 H8c hfar
  try dsimp only [Act.put]
  go_wp2_with (first
    | (refine ld_tr (by rfl) _ rfl g4 rfl _ rfl HQ11.out ?_)
    | (refine ld_state (by rfl) _ rfl g6 rfl _ _ H11b.out rfl ?_))
  refine CR.out.mono ?_
  rintro e w12 ⟨v, rfl, ⟨vs9, vb9, vm9, rfl, ho9⟩, hb9⟩
  obtain ⟨gs9, cs9, es9, hc9, -, -⟩ := ho9.st.row (by show 0 < 2; decide)
  rw [show (vals [3, 8]).length = 2 from rfl] at es9
  have HON9 := Lib.hid (And.intro (slice_one ho9.st.slice) (And.intro (slice_one ho9.bk.slice) (slice_one ho9.me.slice)))
  have k8 := Lib.hid (hc9 1 (.int .i64 8) rfl)
  have HGN := Lib.hid (show gs9 < w12.heap.size from World.block_lt_of_cell? w12 _ k8.out)
  have BW12 := Lib.hid hb9
  subst es9
  obtain ⟨w13, g13, hw13, hg13, H13, B13, Z13⟩ := newBox w12 zero10 28
  obtain ⟨w14, g14, hw14, hg14, H14, B14, Z14⟩ := newBox w13 zero3 34
  have H13b := Lib.hid (boxOn H13.out B14.out)
  have NG := Lib.hid (show gs9 < g13 ∧ g13 < g14 ∧ w11.heap.size ≤ g13 from ⟨by rw [← Z13.out]; exact HGN.out, by rw [← Z14.out]; exact whole_lt H13.out, by rw [← Z13.out]; exact BW12.out.size⟩)
  have B1214 := Lib.hid (B13.out.trans (B14.out.mono B13.out.size))
  have K8 := Lib.hid (show w14.cell? ⟨gs9, 1, none⟩ = some (.int .i64 8) from (Stirred.of_below B1214.out []).cell List.not_mem_nil k8.out)
  clear ho9 hb9 hc9 CR k8
  go_upto_region 5 with (first
    | (refine st_state (by rfl) _ _ rfl g13 _ rfl rfl _ _ H13b.out rfl rfl (all_one HON9.out.1 HON9.out.2.1 HON9.out.2.2) ?_; intro w15 h15 t15; have H15 := Lib.hid h15; have T15 := Lib.hid t15; have H14b := Lib.hid (t15.whole H14.out (fun hm => by have h1 := List.mem_singleton.1 hm; have h2 := NG.out.2.1; omega)); clear h15 t15)
    | (refine st_done (by rfl) _ _ rfl g14 #[.int .i64 0, .int .i64 2, .bool false] rfl rfl rfl _ rfl H14b.out (by simp [Value.oneCell']) ?_; intro w16 h16 t16; have H16 := Lib.hid h16; have T16 := Lib.hid t16; have H15b := Lib.hid (t16.whole H15.out (fun hm => by have h1 := List.mem_singleton.1 hm; have h2 := NG.out.2.1; omega)); clear h16 t16))
  have TT := Lib.hid (two_more T15.out T16.out)
  have HN : ∀ {k : Nat}, k < g13 → k ∉ [g13, g14] := fun {k} h hm => by
    rcases List.mem_cons.1 hm with e | e
    · omega
    · have h1 := List.mem_singleton.1 e; have h2 := NG.out.2.1; omega
  have d0 : w16.cell? ⟨g14, 0, none⟩ = some (.int .i64 0) := whole_cell H16.out rfl
  have d1 : w16.cell? ⟨g14, 1, none⟩ = some (.int .i64 2) := whole_cell H16.out rfl
  have d2 : w16.cell? ⟨g14, 2, none⟩ = some (.bool false) := whole_cell H16.out rfl
  have s0 : w16.cell? ⟨g13, 0, none⟩ = some (.int .i64 7) := whole_cell H15b.out rfl
  have s2 : w16.cell? ⟨g13, 2, none⟩ = some (.slice (some ⟨gs9, 0, none⟩) 2 cs9) := whole_cell H15b.out rfl
  have s8 : w16.cell? ⟨gs9, 1, none⟩ = some (.int .i64 8) := TT.out.cell (HN NG.out.1) K8.out
  have BL := Lib.hid (show Below w11.heap.size w11 w16 from by
    have b1 := BW12.out.trans (B1214.out.mono BW12.out.size)
    exact b1.trans (TT.out.below (fun k hk => by
      rcases List.mem_cons.1 hk with e | e
      · rw [e]; exact NG.out.2.2
      · rw [List.mem_singleton.1 e]; exact Nat.le_of_lt (Nat.lt_of_le_of_lt NG.out.2.2 NG.out.2.1)) b1.size))
  have HQ16 := Lib.hid (boxOn HQ11.out BL.out)
  have H616 := Lib.hid (boxOn H11b.out BL.out)
  have C := Lib.hid (CY.out w16)
  clear HN hw13 hw14 hg13 hg14 CY K8
  try dsimp only [Act.put]
  go_wp2_with (first
    | (refine ld_tr (by rfl) _ rfl g4 rfl _ rfl HQ16.out ?_)
    | (refine ld_state (by rfl) _ rfl g6 rfl _ _ H616.out rfl ?_)
    | (go_at_call 20; refine C.out.mono ?_; rintro e w17 ⟨rfl, hb⟩; have HB17 := Lib.hid hb; clear hb))
  go_ret
  exact ⟨rfl, BF.out.trans ((BT.out.trans ((BL.out.trans (HB17.out.mono BL.out.size)).mono BT.out.size)).mono BF.out.size)⟩
end Go.Proofs.YtgabemlehmhgpaaDoor.Ev
/- The document's own May (chapter 15). -/
namespace Go.Proofs.YtgabemlehmhgpaaDoor.Ev
open Go.RowKit Book Mem
open Ir (T I O trA trV ReadsL newBox boxOn)
open Mach (M cells10 stV)
set_option linter.unusedSimpArgs false
set_option linter.unusedVariables false
/-- of a trace whose numbers may be -/
theorem may_ref {t : T} {s : M} (h1 : 0 ≤ t.slots) (h2 : 0 ≤ t.grow) (h3 : 0 ≤ t.backs) (h4 : 0 ≤ t.growBack) :
    mayT t s = (decide (s.status = 0) && (decide (s.ip = t.start) && (decide (t.slots ≤ (s.stack.length : Int)) && (decide ((s.stack.length : Int) + t.grow ≤ 48) && (decide (t.backs ≤ (s.back.length : Int)) && decide ((s.back.length : Int) + t.growBack ≤ 48)))))) := by
  unfold mayT Ir.within
  congr 1
  congr 1
  rw [decide_eq_decide.2 (show (0 ≤ t.slots ∧ t.slots ≤ (s.stack.length : Int)) ↔ t.slots ≤ (s.stack.length : Int) from ⟨fun h => h.2, fun h => ⟨h1, h⟩⟩),
    decide_eq_decide.2 (show (0 ≤ t.grow ∧ t.grow ≤ 48 - (s.stack.length : Int)) ↔ (s.stack.length : Int) + t.grow ≤ 48 from ⟨fun h => by omega, fun h => ⟨h2, by omega⟩⟩),
    decide_eq_decide.2 (show (0 ≤ t.backs ∧ t.backs ≤ (s.back.length : Int)) ↔ t.backs ≤ (s.back.length : Int) from ⟨fun h => h.2, fun h => ⟨h3, h⟩⟩),
    decide_eq_decide.2 (show (0 ≤ t.growBack ∧ t.growBack ≤ 48 - (s.back.length : Int)) ↔ (s.back.length : Int) + t.growBack ≤ 48 from ⟨fun h => by omega, fun h => ⟨h4, by omega⟩⟩)]
set_option maxHeartbeats 8000000 in
set_option maxRecDepth 100000 in
theorem rmay_any {w : World} {t : T} {s : M} {vi vo vc vm : Value} {so bo : Option Addr} {sc bc : Nat} (h1 : s.stack.length ≤ 10000) (h2 : s.back.length ≤ 10000) (g1 : 0 ≤ t.slots ∧ t.slots ≤ 48) (g2 : 0 ≤ t.grow ∧ t.grow ≤ 48) (g3 : 0 ≤ t.backs ∧ t.backs ≤ 48) (g4 : 0 ≤ t.growBack ∧ t.growBack ≤ 48) :
    Calls Tryd.prog 8 #[trV t vi vo vc, stV s (.slice so s.stack.length sc) (.slice bo s.back.length bc) vm] w fun e w' => e = .returned (.bool (mayT t s)) ∧ Below w.heap.size w w' := by
  rw [may_ref g1.1 g2.1 g3.1 g4.1]
  obtain ⟨n, hn⟩ : ∃ n, s.stack.length = n := ⟨_, rfl⟩
  obtain ⟨m, hm⟩ : ∃ n, s.back.length = n := ⟨_, rfl⟩
  rw [hn] at h1 ⊢
  rw [hm] at h2 ⊢
  obtain ⟨w1, g, hw1, hg, HG, HB1, HZ1⟩ := newBox w (trA t vi vo vc) 26
  obtain ⟨w2, k, hw2, hk, HK, HB2, HZ2⟩ := newBox w1 (cells10 s.ip s.handler (.slice so n sc) (.slice bo m bc) vm s.out s.inp s.read s.status s.code) 28
  have HBF := Lib.hid (HB1.out.trans (HB2.out.mono HB1.out.size))
  have hg2 := boxOn HG.out HB2.out
  obtain ⟨stt, hstt⟩ : ∃ x, s.status = x := ⟨_, rfl⟩
  obtain ⟨sip, hsip⟩ : ∃ x, s.ip = x := ⟨_, rfl⟩
  obtain ⟨ts, hts⟩ : ∃ x, t.start = x := ⟨_, rfl⟩
  obtain ⟨ks, hks⟩ : ∃ x, t.slots = x := ⟨_, rfl⟩
  obtain ⟨kg, hkg⟩ : ∃ x, t.grow = x := ⟨_, rfl⟩
  obtain ⟨kb, hkb⟩ : ∃ x, t.backs = x := ⟨_, rfl⟩
  obtain ⟨kh, hkh⟩ : ∃ x, t.growBack = x := ⟨_, rfl⟩
  have t0 : w2.cell? ⟨g, 0, none⟩ = some (.int .i64 ts) := by rw [← hts]; exact whole_cell hg2 rfl
  have t1 : w2.cell? ⟨g, 1, none⟩ = some (.int .i64 ks) := by rw [← hks]; exact whole_cell hg2 rfl
  have t2 : w2.cell? ⟨g, 2, none⟩ = some (.int .i64 kb) := by rw [← hkb]; exact whole_cell hg2 rfl
  have t3 : w2.cell? ⟨g, 3, none⟩ = some (.int .i64 kg) := by rw [← hkg]; exact whole_cell hg2 rfl
  have t4 : w2.cell? ⟨g, 4, none⟩ = some (.int .i64 kh) := by rw [← hkh]; exact whole_cell hg2 rfl
  have s0 : w2.cell? ⟨k, 0, none⟩ = some (.int .i64 sip) := by rw [← hsip]; exact whole_cell HK.out rfl
  have s2 : w2.cell? ⟨k, 2, none⟩ = some (.slice so n sc) := whole_cell HK.out rfl
  have s3 : w2.cell? ⟨k, 3, none⟩ = some (.slice bo m bc) := whole_cell HK.out rfl
  have s8 : w2.cell? ⟨k, 8, none⟩ = some (.int .i64 stt) := by rw [← hstt]; exact whole_cell HK.out rfl
  rw [hstt, hsip, hts, hks, hkg, hkb, hkh]
  rw [hks] at g1
  rw [hkg] at g2
  rw [hkb] at g3
  rw [hkh] at g4
  obtain ⟨g10, g11⟩ := g1
  obtain ⟨g20, g21⟩ := g2
  obtain ⟨g30, g31⟩ := g3
  obtain ⟨g40, g41⟩ := g4
  clear hg2 hn hm hstt hsip hts hks hkg hkb hkh
  by_cases c1 : stt = 0
  rotate_left
  · have e1 : (stt == 0) = false := by simpa using c1
    rw [decide_eq_false c1, Bool.false_and]
    clear c1
    go_enter Tryd.func8, Tryd.ntmps8
    go_wp2
    go_ret
    exact ⟨rfl, HBF.out⟩
  have e1 : (stt == 0) = true := by simpa using c1
  rw [decide_eq_true c1, Bool.true_and]
  clear c1
  by_cases c2 : sip = ts
  rotate_left
  · have e2 : (sip == ts) = false := by simpa using c2
    rw [decide_eq_false c2, Bool.false_and]
    clear c2
    go_enter Tryd.func8, Tryd.ntmps8
    go_wp2
    go_ret
    exact ⟨rfl, HBF.out⟩
  have e2 : (sip == ts) = true := by simpa using c2
  rw [decide_eq_true c2, Bool.true_and]
  clear c2
  cases d0 : decide (ks ≤ (n : Int))
  · rw [Bool.false_and]
    go_enter Tryd.func8, Tryd.ntmps8
    go_wp2
    go_ret
    exact ⟨rfl, HBF.out⟩
  rw [Bool.true_and]
  cases d1 : decide ((n : Int) + kg ≤ 48)
  · rw [Bool.false_and]
    go_enter Tryd.func8, Tryd.ntmps8
    go_wp2
    go_ret
    exact ⟨rfl, HBF.out⟩
  rw [Bool.true_and]
  cases d2 : decide (kb ≤ (m : Int))
  · rw [Bool.false_and]
    go_enter Tryd.func8, Tryd.ntmps8
    go_wp2
    go_ret
    exact ⟨rfl, HBF.out⟩
  rw [Bool.true_and]
  cases d3 : decide ((m : Int) + kh ≤ 48)
  · skip
    go_enter Tryd.func8, Tryd.ntmps8
    go_wp2
    go_ret
    exact ⟨rfl, HBF.out⟩
  go_enter Tryd.func8, Tryd.ntmps8
  go_wp2
  go_ret
  exact ⟨rfl, HBF.out⟩
end Go.Proofs.YtgabemlehmhgpaaDoor.Ev
/- The document's own machine at an exit (chapter 15). -/
namespace Go.Proofs.YtgabemlehmhgpaaDoor.Ev
open Go.RowKit Book Mem
open Ir (T I O trA trV ReadsL outA outV newBox boxOn)
open Mach (M less cells10 zero10 OwnsL OwnsM stV st_state ld_state state_size slice_one all_one)
set_option linter.unusedSimpArgs false
set_option linter.unusedVariables false
section
variable {ops : Array Oper} {rest : List Oper} {o : Oper} {a : Act} {w : World} {Q : Exit → Act → World → Prop}
theorem rst_out (hw : Region.wanted o (yielded ops a.tmps) = true) (x y : Operand) (ho : o.op = .store 39 x y) (g : Nat) (cs : Array Value) (hx : a.eval x = .pointer (some ⟨g, 0, none⟩)) (hy : a.eval y = .agg cs) (hcs : cs.size = 4) (old : Array Value) (hold : old.size = 4) (hg : w.heap[g]? = some (.cells old 39 (0, 0))) (h1 : cs.all (·.oneCell') = true)
    (h : ∀ w', w'.heap[g]? = some (.cells cs 39 (0, 0)) → Stirred w w' [g] → wpList Tryd.prog ops Q rest (a.put o.dst undef) w') : wpList Tryd.prog ops Q (o :: rest) a w :=
  wpList_setbox hw _ x y ho g cs hx hy old _ hg (by rw [Ir.out_size, hcs]) (by rw [hold, hcs]) h1 h
end
theorem rrow_one (w : World) (x : Int) : ∃ w1 g, w.alloc (.cells #[.int .i64 x] 3) = w1 ∧ w.heap.size = g ∧ Hid (Reads w1 (.slice (some ⟨g, 0, none⟩) 1 1) [x]) ∧ Hid (Below w.heap.size w w1) :=
  ⟨_, _, rfl, rfl, Reads.of_owns (Owns.built w (.int .i64 x) 3), (Below.refl w.heap.size w).alloc (Nat.le_refl _) _⟩
theorem rwrap_nat {m : Nat} (h : m ≤ 10000) : wrap64 (m : Int) = (m : Int) := by unfold wrap64; omega
theorem rsub_cast {nx k m : Nat} (h : nx - k = m) (hk : k ≤ nx) : (nx : Int) - (k : Int) = (m : Int) := by omega
theorem rlen_ok {m n j : Nat} (h : m ≤ 10000) (g : n ≤ 10000) (hj : j ≤ n) : m + j + 1 ≤ maxLen := by unfold maxLen; omega
theorem rlen_ok8 {m n j : Nat} (h : m ≤ 10000) (g : n ≤ 10000) (hj : j ≤ n) : (m + j + 1) * 8 ≤ 140737488355328 := by omega
theorem rcap_of {w : World} {ao : Option Addr} {n c : Nat} {xs : List Int} (h : ReadsC w (.slice ao n c) xs) : n ≤ c := by
  obtain ⟨-, ao', c', e, hc⟩ := h
  simp only [Value.slice.injEq] at e
  obtain ⟨-, e1, e2⟩ := e
  omega
theorem rval_at {V : List Int} {p : Int} (h : 0 ≤ p ∧ p < (V.length : Int)) : ∃ k : Nat, p = (k : Int) ∧ V[k]? = some (val V p) := by
  obtain ⟨k, rfl⟩ : ∃ k : Nat, p = k := ⟨p.toNat, by omega⟩
  have hk : k < V.length := by omega
  refine ⟨k, rfl, ?_⟩
  unfold val getL
  rw [if_pos h, Int.toNat_natCast, List.getD_eq_getElem?_getD, List.getElem?_eq_getElem hk]
  rfl
/-- what is there behind an exit: two new stacks, the memory as it lay -/
def RLeft (w : World) (vm : Value) (m : M) (e : Ending) (w' : World) : Prop :=
  ∃ v1 v2, e = .returned (stV m v1 v2 vm) ∧ Owns w' w.heap.size 3 v1 (vals m.stack) ∧ Owns w' w.heap.size 3 v2 (vals m.back) ∧ (∀ k, blk v1 = some k → blk v2 ≠ some k) ∧ Below w.heap.size w w'
end Go.Proofs.YtgabemlehmhgpaaDoor.Ev
/- A trace that may be, entered where it may be: its exits lie in range, and what they name is there. -/
namespace Go.Proofs.YtgabemlehmhgpaaDoor.Ev
open Go.RowKit (wrap64)
open Ir (T I O rightT insOk insFrom known okP leads usesL outsL works within twoI oneI)
open Mach (M less)
set_option linter.unusedVariables false
/-- every place that an exit names is one of so many -/
def Names (n : Nat) (o : O) : Prop := (∀ p ∈ o.stack, 0 ≤ p ∧ p < (n : Int)) ∧ ∀ p ∈ o.back, 0 ≤ p ∧ p < (n : Int)
theorem within_iff {n m : Int} : within n m = true ↔ 0 ≤ n ∧ n ≤ m := by unfold within; exact decide_eq_true_iff
theorem known_names {ins : List I} {l : List Int} {k : Nat} (h : known ins l (k : Int) = true) : ∀ p ∈ l, 0 ≤ p ∧ p < (k : Int) := by
  intro p hp
  have h1 := List.all_eq_true.1 h p hp
  unfold okP at h1
  rw [Bool.and_eq_true, within_iff] at h1
  exact ⟨h1.1.1, by have := h1.1.2; omega⟩
theorem leads_names {t : T} {x : Int} {k : Nat} (h : leads t x (k : Int) = true) : ∃ o, outAt t x = some o ∧ Names k o := by
  unfold leads at h
  rw [Bool.and_eq_true, within_iff] at h
  obtain ⟨⟨h0, h1⟩, h2⟩ := h
  cases ho : t.outs[x.toNat]? with
  | none => rw [ho] at h2; cases h2
  | some o =>
    rw [ho] at h2
    dsimp only at h2
    rw [Bool.and_eq_true] at h2
    exact ⟨o, by unfold outAt; rw [if_pos h0, ho], known_names h2.1, known_names h2.2⟩
theorem getL_on {l : List Int} {p : Int} (h : 0 ≤ p ∧ p < (l.length : Int)) : (getL l p).2 = true := by unfold getL; rw [if_pos h]
theorem slot_on {l : List Int} {a m : Int} (h : 0 ≤ a ∧ a ≤ m - 1) (hm : m ≤ (l.length : Int)) (hl : l.length ≤ 10000) : (getL l (wrap64 ((l.length : Int) - 1 - a))).2 = true := by
  apply getL_on
  have : wrap64 ((l.length : Int) - 1 - a) = (l.length : Int) - 1 - a := by unfold wrap64; omega
  rw [this]
  omega
theorem one_on {a b : Int} (h : oneI a = true) : (Cell.one a b).2 = true := by
  unfold oneI at h
  have h := decide_eq_true_iff.1 h
  rcases h with rfl | rfl | rfl | rfl <;> rfl
theorem two_on {a b c : Int} (h : twoI a = true) (h1 : a ≠ 14) (h2 : a ≠ 15) : (Cell.two a b c).2 = true := by
  unfold twoI at h
  have h := decide_eq_true_iff.1 h
  have hc : a = 11 ∨ a = 12 ∨ a = 13 ∨ a = 17 ∨ a = 18 ∨ a = 19 ∨ a = 21 ∨ a = 22 ∨ a = 23 ∨ a = 24 ∨ a = 25 ∨ a = 28 ∨ a = 29 := by omega
  rcases hc with rfl | rfl | rfl | rfl | rfl | rfl | rfl | rfl | rfl | rfl | rfl | rfl | rfl <;> rfl
theorem sayI_hit (s : M) (b : ByteArray) : (sayI s b).hit = false := by unfold sayI; split <;> rfl
theorem calcI_hit' (s : M) (a b c : Int) : (calcI s a b c).hit = false := by unfold calcI; split <;> rfl
theorem askI_on' (s : M) : (askI s).on = true ∧ (askI s).hit = false := by unfold askI; split <;> exact ⟨rfl, rfl⟩
/-- an instruction that may be there leaves by an exit that it names -/
theorem doI_leaves {t : T} {wat : List Int} {s : M} {V : List Int} {x : I} {k : Nat} (hx : insOk t k x = true) (h1 : t.slots ≤ (s.stack.length : Int)) (h2 : t.backs ≤ (s.back.length : Int)) (z1 : s.stack.length ≤ 10000) (z2 : s.back.length ≤ 10000) :
    ((doI wat s V x).hit = true → leads t x.2.1 k = true) ∧ ((doI wat s V x).hit = false → (doI wat s V x).on = false → leads t x.2.2.2.2 k = true) := by
  unfold insOk at hx
  rw [Bool.and_eq_true, Bool.and_eq_true] at hx
  obtain ⟨⟨hw, -⟩, ho⟩ := hx
  have ho := List.all_eq_true.1 ho
  obtain ⟨op, a, b, c, e⟩ := x
  dsimp only
  by_cases c1 : op = 1
  · subst c1; exact ⟨fun h => (by cases h), fun _ h => (by cases h)⟩
  by_cases c2 : op = 2
  · subst c2
    have h := within_iff.1 (show within a (t.slots - 1) = true from hw)
    have hon := slot_on (l := s.stack) ⟨h.1, h.2⟩ h1 z1
    exact ⟨fun h => (by cases h), fun _ h => (by rw [show (doI wat s V (2, a, b, c, e)).on = (getL s.stack (wrap64 ((s.stack.length : Int) - 1 - a))).2 from rfl, hon] at h; cases h)⟩
  by_cases c3 : op = 3
  · subst c3
    have h := within_iff.1 (show within a (t.backs - 1) = true from hw)
    have hon := slot_on (l := s.back) ⟨h.1, h.2⟩ h2 z2
    exact ⟨fun h => (by cases h), fun _ h => (by rw [show (doI wat s V (3, a, b, c, e)).on = (getL s.back (wrap64 ((s.back.length : Int) - 1 - a))).2 from rfl, hon] at h; cases h)⟩
  by_cases c4 : op = 4
  · subst c4
    have hw' : (twoI a || oneI a) = true := hw
    refine ⟨fun h => (by rw [show (doI wat s V (4, a, b, c, e)).hit = (calcI s a (val V b) (val V c)).hit from rfl, calcI_hit'] at h; cases h), fun _ h => ?_⟩
    by_cases d : a = 14 ∨ a = 15
    · exact ho e (by unfold outsL; dsimp only; rw [if_neg (by decide), if_pos rfl, if_pos d]; exact List.mem_cons_self)
    · exfalso
      have hon : (calcI s a (val V b) (val V c)).on = true := by
        unfold calcI
        split
        · rfl
        · rename_i h1
          rw [Bool.or_eq_true] at hw'
          rcases hw' with g | g
          · exact two_on g (fun q => d (.inl q)) (fun q => d (.inr q))
          · exact absurd (one_on g) h1
      rw [show (doI wat s V (4, a, b, c, e)).on = (calcI s a (val V b) (val V c)).on from rfl, hon] at h
      cases h
  by_cases c6 : op = 6
  · subst c6
    exact ⟨fun _ => ho a (by unfold outsL; rw [if_pos rfl]; exact List.mem_cons_of_mem _ List.mem_cons_self), fun _ _ => ho e (by unfold outsL; rw [if_pos rfl]; exact List.mem_cons_self)⟩
  by_cases c12 : op = 12
  · subst c12
    exact ⟨fun h => (by rw [show (doI wat s V (12, a, b, c, e)).hit = (askI s).hit from rfl, (askI_on' s).2] at h; cases h), fun _ h => (by rw [show (doI wat s V (12, a, b, c, e)).on = (askI s).on from rfl, (askI_on' s).1] at h; cases h)⟩
  have hwk : within (op - 1) 11 = true := by
    have h : (if op = 2 then within a (t.slots - 1) else if op = 3 then within a (t.backs - 1) else if op = 4 then twoI a || oneI a else within (op - 1) 11) = true := hw
    rw [if_neg c2, if_neg c3, if_neg c4] at h
    exact h
  have hw2 := within_iff.1 hwk
  have hop : op = 5 ∨ op = 7 ∨ op = 8 ∨ op = 9 ∨ op = 10 ∨ op = 11 := by omega
  have hin : e ∈ outsL (op, a, b, c, e) := by
    unfold outsL
    dsimp only
    rw [if_neg c6, if_neg c4, if_pos hop]
    exact List.mem_cons_self
  refine ⟨fun h => ?_, fun _ _ => ho e hin⟩
  exfalso
  rcases hop with rfl | rfl | rfl | rfl | rfl | rfl
  · cases h
  · cases h
  · cases h
  · cases h
  · rw [show (doI wat s V (10, a, b, c, e)).hit = (sayI s (byteT (val V b))).hit from rfl, sayI_hit] at h; cases h
  · rw [show (doI wat s V (11, a, b, c, e)).hit = (sayI s (tellT (val V b))).hit from rfl, sayI_hit] at h; cases h
/-- the instructions leave by an exit that lies in range, and whose places are told by then -/
theorem goI_leaves {t : T} {wat : List Int} : ∀ (l : List I) (k : Nat) (s : M) (V : List Int), insFrom t k l = true → leads t t.last ((k + l.length : Nat) : Int) = true → V.length = k → t.slots ≤ (s.stack.length : Int) → t.backs ≤ (s.back.length : Int) → s.stack.length ≤ 10000 → s.back.length ≤ 10000 →
    ∃ o, outAt t (goI wat t.last l s V).exit = some o ∧ Names (goI wat t.last l s V).V.length o
  | [], k, s, V, _, hl, hV, _, _, _, _ => by
    obtain ⟨o, h1, h2⟩ := leads_names (k := k) (by simpa using hl)
    exact ⟨o, h1, by rw [show (goI wat t.last [] s V).V = V from rfl, hV]; exact h2⟩
  | x :: l, k, s, V, hi, hl, hV, h1, h2, z1, z2 => by
    have hi' : (insOk t k x && insFrom t (k + 1) l) = true := hi
    rw [Bool.and_eq_true] at hi'
    have hd := doI_leaves (wat := wat) (V := V) hi'.1 h1 h2 z1 z2
    have hk := doI_kin wat s V x
    unfold goI
    dsimp only
    cases hh : (doI wat s V x).hit with
    | true =>
      rw [if_pos rfl]
      obtain ⟨o, g1, g2⟩ := leads_names (hd.1 hh)
      exact ⟨o, g1, by show Names V.length o; rw [hV]; exact g2⟩
    | false =>
      rw [if_neg (by decide)]
      cases hon : (doI wat s V x).on with
      | true =>
        rw [if_pos rfl]
        exact goI_leaves l (k + 1) _ _ hi'.2 (by rw [show k + 1 + l.length = k + (x :: l).length by simp; omega]; exact hl) (by rw [List.length_append, hV]; rfl) (by rw [hk.stack]; exact h1) (by rw [hk.back]; exact h2) (by rw [hk.stack]; exact z1) (by rw [hk.back]; exact z2)
      | false =>
        rw [if_neg (by decide)]
        obtain ⟨o, g1, g2⟩ := leads_names (hd.2 hh hon)
        exact ⟨o, g1, by show Names V.length o; rw [hV]; exact g2⟩
end Go.Proofs.YtgabemlehmhgpaaDoor.Ev
/- Watched cells (chapter 15): with none nothing is hit; with all of them the first thing that is stored is. -/
namespace Go.Proofs.YtgabemlehmhgpaaDoor.Ev
open Ir (T I O rightT insOk insFrom)
open Mach (M less)
set_option linter.unusedVariables false
/-- every cell of a memory is watched -/
def AllW (wat : List Int) (n : Nat) : Prop := ∀ p : Int, 0 ≤ p → p < (n : Int) → wat.contains p = true
theorem putI_all {wat : List Int} {s : M} (h : AllW wat s.mem.length) (b c : Int) : ((putI wat s b c).hit = true ∧ ∃ j, (putI wat s b c).s.mem = s.mem.set j c) ∨ (putI wat s b c = putI [] s b c ∧ (putI [] s b c).s.mem = s.mem) := by
  unfold putI
  by_cases hb : 0 ≤ b ∧ b < (s.mem.length : Int)
  · rw [if_pos hb]
    exact .inl ⟨h b hb.1 hb.2, _, rfl⟩
  · rw [if_neg hb, if_neg hb]
    exact .inr ⟨rfl, rfl⟩
theorem putI_none (s : M) (b c : Int) : (putI [] s b c).hit = false := by unfold putI; split <;> rfl
theorem sayI_mem (s : M) (b : ByteArray) : (sayI s b).s.mem = s.mem := by unfold sayI; split <;> rfl
theorem askI_mem (s : M) : (askI s).s.mem = s.mem := by unfold askI; split <;> rfl
theorem calcI_mem (s : M) (a b c : Int) : (calcI s a b c).s.mem = s.mem := by unfold calcI; split <;> rfl
/-- an instruction, all cells watched, or none -/
theorem doI_all {wat : List Int} {s : M} (h : AllW wat s.mem.length) (V : List Int) (x : I) : (doI [] s V x).hit = false ∧ (((doI wat s V x).hit = true ∧ ∃ j c, (doI wat s V x).s.mem = s.mem.set j c) ∨ (doI wat s V x = doI [] s V x ∧ (doI [] s V x).s.mem = s.mem)) := by
  unfold doI
  by_cases h1 : x.1 = 1
  · rw [if_pos h1, if_pos h1]; exact ⟨rfl, .inr ⟨rfl, rfl⟩⟩
  rw [if_neg h1, if_neg h1]; clear h1
  by_cases h1 : x.1 = 2
  · rw [if_pos h1, if_pos h1]; exact ⟨rfl, .inr ⟨rfl, rfl⟩⟩
  rw [if_neg h1, if_neg h1]; clear h1
  by_cases h1 : x.1 = 3
  · rw [if_pos h1, if_pos h1]; exact ⟨rfl, .inr ⟨rfl, rfl⟩⟩
  rw [if_neg h1, if_neg h1]; clear h1
  by_cases h1 : x.1 = 4
  · rw [if_pos h1, if_pos h1]; exact ⟨calcI_hit' _ _ _ _, .inr ⟨rfl, calcI_mem _ _ _ _⟩⟩
  rw [if_neg h1, if_neg h1]; clear h1
  by_cases h1 : x.1 = 5
  · rw [if_pos h1, if_pos h1]; exact ⟨rfl, .inr ⟨rfl, rfl⟩⟩
  rw [if_neg h1, if_neg h1]; clear h1
  by_cases h1 : x.1 = 6
  · rw [if_pos h1, if_pos h1]
    refine ⟨putI_none _ _ _, ?_⟩
    rcases putI_all h (val V x.2.2.1) (val V x.2.2.2.1) with ⟨g, j, e⟩ | g
    · exact .inl ⟨g, j, _, e⟩
    · exact .inr g
  rw [if_neg h1, if_neg h1]; clear h1
  by_cases h1 : x.1 = 10
  · rw [if_pos h1]; exact ⟨sayI_hit _ _, .inr ⟨rfl, sayI_mem _ _⟩⟩
  rw [if_neg h1]; clear h1
  by_cases h1 : x.1 = 11
  · rw [if_pos h1]; exact ⟨sayI_hit _ _, .inr ⟨rfl, sayI_mem _ _⟩⟩
  rw [if_neg h1]; clear h1
  by_cases h1 : x.1 = 12
  · rw [if_pos h1]; exact ⟨(askI_on' _).2, .inr ⟨rfl, askI_mem _⟩⟩
  rw [if_neg h1]; clear h1
  by_cases h1 : x.1 = 7
  · rw [if_pos h1]; exact ⟨rfl, .inr ⟨rfl, rfl⟩⟩
  rw [if_neg h1]; clear h1
  by_cases h1 : x.1 = 8
  · rw [if_pos h1]; exact ⟨rfl, .inr ⟨rfl, rfl⟩⟩
  rw [if_neg h1]; clear h1
  by_cases h1 : x.1 = 9
  · rw [if_pos h1]; exact ⟨rfl, .inr ⟨rfl, rfl⟩⟩
  rw [if_neg h1]
  exact ⟨rfl, .inr ⟨rfl, rfl⟩⟩
theorem goI_all {wat : List Int} {last : Int} : ∀ (l : List I) (s : M) (V : List Int), AllW wat s.mem.length → (goI [] last l s V).hit = false ∧ (((goI wat last l s V).hit = true ∧ ∃ j c, (goI wat last l s V).s.mem = s.mem.set j c) ∨ (goI wat last l s V = goI [] last l s V ∧ (goI [] last l s V).s.mem = s.mem))
  | [], s, V, h => ⟨rfl, .inr ⟨rfl, rfl⟩⟩
  | x :: l, s, V, h => by
    obtain ⟨h0, hd⟩ := doI_all h V x
    have hk := doI_kin [] s V x
    unfold goI
    dsimp only
    rw [h0, if_neg (show ¬ (false = true) by decide)]
    rcases hd with ⟨hh, j, c, e⟩ | ⟨e, hm⟩
    · rw [if_pos hh]
      refine ⟨?_, .inl ⟨rfl, j, c, e⟩⟩
      split
      · exact goI_none last l _ _
      · rfl
    · rw [e, h0, if_neg (show ¬ (false = true) by decide)]
      split
      · have ih := goI_all (wat := wat) (last := last) l (doI [] s V x).s (V ++ [(doI [] s V x).v]) (by rw [hm]; exact h)
        rw [hm] at ih
        exact ih
      · exact ⟨rfl, .inr ⟨rfl, hm⟩⟩
where
  goI_none (last : Int) : ∀ (l : List I) (s : M) (V : List Int), (goI [] last l s V).hit = false
  | [], _, _ => rfl
  | x :: l, s, V => by
    have h0 : (doI [] s V x).hit = false := (doI_all (wat := (List.range s.mem.length).map Int.ofNat) (s := s) (fun p h1 h2 => by
      rw [List.contains_iff_mem]
      exact List.mem_map.2 ⟨p.toNat, List.mem_range.2 (by omega), Int.toNat_of_nonneg h1⟩) V x).1
    unfold goI
    dsimp only
    rw [h0, if_neg (show ¬ (false = true) by decide)]
    split
    · exact goI_none last l _ _
    · rfl
/-- what both runs come to, of a trace that may be entered -/
theorem runT_all {wat : List Int} {t : T} {s : M} (hr : rightT t = true) (hm : mayT t s = true) (z1 : s.stack.length ≤ 10000) (z2 : s.back.length ≤ 10000) (h : AllW wat s.mem.length) :
    (Ev.runT [] t s).hit = false ∧ (Ev.runT [] t s).s.mem.length = s.mem.length ∧ (Ev.runT wat t s).s.mem.length = s.mem.length ∧
    (((Ev.runT wat t s).hit = true ∧ ∃ j c, (Ev.runT wat t s).s.mem = s.mem.set j c) ∨ ((Ev.runT wat t s).hit = false ∧ Ev.runT wat t s = Ev.runT [] t s ∧ (Ev.runT wat t s).s.mem = s.mem)) := by
  have hend : ∀ wt, ∃ o, outAt t (goI wt t.last t.ins s []).exit = some o := fun wt => by
    unfold rightT at hr
    simp only [Bool.and_eq_true] at hr
    obtain ⟨-, -, ht, -, -, hi, he⟩ := hr
    unfold mayT at hm
    simp only [Bool.and_eq_true] at hm
    obtain ⟨-, -, g1, -, g2, -⟩ := hm
    unfold Ir.endOk at he
    rw [Bool.and_eq_true] at he
    obtain ⟨o, h1, -⟩ := goI_leaves (wat := wt) t.ins 0 s [] hi (by rw [Nat.zero_add]; exact he.1) rfl (within_iff.1 g1).2 (within_iff.1 g2).2 z1 z2
    exact ⟨o, h1⟩
  obtain ⟨h0, hg⟩ := goI_all (wat := wat) (last := t.last) t.ins s [] h
  have k1 := (goI_kin [] t.last t.ins s []).mem
  have k2 := (goI_kin wat t.last t.ins s []).mem
  obtain ⟨o1, e1⟩ := hend []
  obtain ⟨o2, e2⟩ := hend wat
  unfold Ev.runT
  rw [if_pos hm, if_pos hm]
  dsimp only
  rw [e1, e2]
  dsimp only
  refine ⟨h0, k1, k2, ?_⟩
  rcases hg with ⟨g1, j, c, g2⟩ | ⟨g1, g2⟩
  · exact .inl ⟨g1, j, c, g2⟩
  · have e3 : o2 = o1 := by rw [g1, e1] at e2; exact (Option.some.inj e2).symm
    subst e3
    rw [g1]
    exact .inr ⟨h0, rfl, g2⟩
/-- stacks behind a run are small -/
theorem runT_lens {wat : List Int} {t : T} {s : M} (h : ∀ o ∈ t.outs, o.stack.length ≤ 60 ∧ o.back.length ≤ 60) (z1 : s.stack.length ≤ 1000) (z2 : s.back.length ≤ 1000) : (Ev.runT wat t s).s.stack.length ≤ 10000 ∧ (Ev.runT wat t s).s.back.length ≤ 10000 := by
  unfold Ev.runT
  split
  · have hk := goI_kin wat t.last t.ins s []
    dsimp only
    cases ho : outAt t (goI wat t.last t.ins s []).exit with
    | none => exact ⟨by show s.stack.length ≤ 10000; omega, by show s.back.length ≤ 10000; omega⟩
    | some o =>
      have hm : o ∈ t.outs := by
        unfold outAt at ho
        split at ho
        · exact List.mem_of_getElem? ho
        · cases ho
      have h1 := h o hm
      show (leaveM t (goI wat t.last t.ins s []).s (goI wat t.last t.ins s []).V o).stack.length ≤ 10000 ∧ (leaveM t (goI wat t.last t.ins s []).s (goI wat t.last t.ins s []).V o).back.length ≤ 10000
      unfold leaveM less
      dsimp only
      rw [hk.stack, hk.back]
      simp only [List.length_append, List.length_map, List.length_take]
      exact ⟨by omega, by omega⟩
  · exact ⟨by show s.stack.length ≤ 10000; omega, by show s.back.length ≤ 10000; omega⟩
/-- how many cells differ, of the first ones -/
def diffs (a b : List Int) : Nat → Nat
  | 0 => 0
  | k + 1 => diffs a b k + (if a[k]? = b[k]? then 0 else 1)
theorem diffs_same (a : List Int) (k : Nat) : diffs a a k = 0 := by
  induction k with
  | zero => rfl
  | succ k ih => unfold diffs; rw [ih, if_pos rfl]
theorem diffs_eq {a b : List Int} {k : Nat} {x y : Int} (hx : a[k]? = some x) (hy : b[k]? = some y) (h : x = y) : diffs a b (k + 1) = diffs a b k := by
  subst h
  show diffs a b k + (if a[k]? = b[k]? then 0 else 1) = _
  rw [if_pos (by rw [hx, hy]), Nat.add_zero]
theorem diffs_ne {a b : List Int} {k : Nat} {x y : Int} (hx : a[k]? = some x) (hy : b[k]? = some y) (h : ¬ x = y) : diffs a b (k + 1) = diffs a b k + 1 := by
  show diffs a b k + (if a[k]? = b[k]? then 0 else 1) = _
  rw [if_neg (by rw [hx, hy]; exact fun e => h (Option.some.inj e))]
theorem diffs_le (a b : List Int) (k : Nat) : diffs a b k ≤ k := by
  induction k with
  | zero => exact Nat.le_refl _
  | succ k ih => unfold diffs; split <;> omega
theorem diffs_set (a : List Int) (j : Nat) (c : Int) (k : Nat) : diffs (a.set j c) a k ≤ (if j < k then 1 else 0) := by
  induction k with
  | zero => exact Nat.le_refl _
  | succ k ih =>
    unfold diffs
    by_cases hj : j = k
    · subst hj
      rw [if_neg (Nat.lt_irrefl j)] at ih
      rw [if_pos (Nat.lt_succ_self j)]
      split <;> omega
    · rw [if_pos (List.getElem?_set_ne hj)]
      by_cases hk : j < k
      · rw [if_pos hk] at ih; rw [if_pos (by omega)]; omega
      · rw [if_neg hk] at ih; rw [if_neg (by omega)]; omega
end Go.Proofs.YtgabemlehmhgpaaDoor.Ev
/- Is a machine small enough? -/
namespace Go.Proofs.YtgabemlehmhgpaaDoor.Mach
open Go.RowKit Book Mem
set_option linter.unusedVariables false
set_option linter.unusedSimpArgs false
def lightB (m : M) : Bool := decide (m.mem.length ≤ 700) && decide (m.inp.size ≤ 300) && rightM m
theorem lightB_iff (m : M) : lightB m = true ↔ m.mem.length ≤ 700 ∧ m.inp.size ≤ 300 ∧ Right m := by
  unfold lightB
  rw [Bool.and_eq_true, Bool.and_eq_true, decide_eq_true_eq, decide_eq_true_eq, rightM_iff, and_assoc]
set_option maxHeartbeats 4000000 in
set_option maxRecDepth 100000 in
theorem light_any {w : World} {v : Value} {m : M} (h : ReadsM w v m) (hi : m.inp.size ≤ maxLen) (ho : m.out.size ≤ maxLen) :
    Calls Tryd.prog 5 #[v] w (Says (.bool (lightB m)) w) := by
  have HV := Lib.hid h
  obtain ⟨vs, vb, vm, rfl, -, -, ⟨⟨mo, mc, hm, _⟩, _⟩⟩ := h
  obtain ⟨ip, hn, st, bk, me, ou, inn, rd, stt, cd⟩ := m
  simp only at hm hi ho ⊢
  subst hm
  have hi' : inn.size ≤ 9223372036854775807 := hi
  have HX := Lib.hid (heap_alloc_new w (.cells (cells10 ip hn vs vb (.slice mo me.length mc) ou inn rd stt cd) 28))
  have HB1 := Lib.hid ((Below.refl w.heap.size w).alloc (Nat.le_refl _) (.cells (cells10 ip hn vs vb (.slice mo me.length mc) ou inn rd stt cd) 28))
  have C := Lib.hid (refRight_any (HV.out.below HB1.out) hi ho)
  obtain ⟨rb, hrb⟩ : ∃ b, rightM ⟨ip, hn, st, bk, me, ou, inn, rd, stt, cd⟩ = b := ⟨_, rfl⟩
  have HL := Lib.hid (show lightB ⟨ip, hn, st, bk, me, ou, inn, rd, stt, cd⟩ = (decide (me.length ≤ 700) && decide (inn.size ≤ 300) && rb) by unfold lightB; rw [hrb])
  obtain ⟨lb, hlb⟩ : ∃ b, lightB ⟨ip, hn, st, bk, me, ou, inn, rd, stt, cd⟩ = b := ⟨_, rfl⟩
  rw [hlb]
  rw [hrb] at C
  have HLB := Lib.hid (hlb.symm.trans HL.out)
  clear hi ho hlb HL HV hrb
  by_cases c1 : me.length ≤ 700
  · by_cases c2 : inn.size ≤ 300
    · have HF := Lib.hid (show lb = rb by rw [HLB.out]; simp [c1, c2])
      clear HLB
      go_enter Tryd.func5, Tryd.ntmps5
      go_wp2_with (first
        | (refine ld_state (by rfl) _ rfl _ rfl _ _ HX.out rfl ?_)
        | (go_at_call 11; refine C.out.mono ?_; rintro e w2 ⟨rfl, hb⟩; have HB2 := Lib.hid (HB1.out.trans (hb.mono HB1.out.size)); clear hb))
      go_ret
      exact ⟨by rw [HF.out]; rfl, HB2.out⟩
    · have HF := Lib.hid (show lb = false by rw [HLB.out]; simp [c2])
      clear HLB C HX
      go_enter Tryd.func5, Tryd.ntmps5
      go_wp2
      go_ret
      exact ⟨by rw [HF.out]; rfl, HB1.out⟩
  · have HF := Lib.hid (show lb = false by rw [HLB.out]; simp [c1])
    clear HLB C HX
    go_enter Tryd.func5, Tryd.ntmps5
    go_wp2
    go_ret
    exact ⟨by rw [HF.out]; rfl, HB1.out⟩
end Go.Proofs.YtgabemlehmhgpaaDoor.Mach
/- The statements of chapter 14: is a trace small enough? The statements' first call. -/
namespace Go.Proofs.YtgabemlehmhgpaaDoor.Ir
open Go.RowKit Book Mem
set_option linter.unusedSimpArgs false
set_option linter.unusedVariables false
def lightO (o : O) : Bool := decide (o.stack.length ≤ 60) && decide (o.back.length ≤ 60)
def lightT (t : T) : Bool := (t.outs.take 100).all lightO && (decide (t.ins.length ≤ 120) && (decide (t.outs.length ≤ 60) && decide (t.cells.length ≤ 100)))
theorem lightT_all {t : T} (h : lightT t = true) : t.ins.length ≤ 120 ∧ t.outs.length ≤ 60 ∧ t.cells.length ≤ 100 ∧ ∀ o ∈ t.outs, o.stack.length ≤ 60 ∧ o.back.length ≤ 60 := by
  unfold lightT at h
  simp only [Bool.and_eq_true, decide_eq_true_eq] at h
  obtain ⟨h0, h1, h2, h3⟩ := h
  refine ⟨h1, h2, h3, fun o ho => ?_⟩
  rw [List.take_of_length_le (by omega)] at h0
  have := List.all_eq_true.1 h0 o ho
  unfold lightO at this
  simpa only [Bool.and_eq_true, decide_eq_true_eq] using this
theorem lightT_small {t : T} (h : lightT t = true) : Small t := by
  obtain ⟨h1, h2, h3, h4⟩ := lightT_all h
  exact ⟨by omega, by omega, by omega, fun o ho => by have := h4 o ho; omega⟩
theorem take_at {α : Type} {l : List α} {f : α → Bool} {j : Nat} {x : α} (hx : l[j]? = some x) (hj : j < 100) : (l.take 100).drop j = x :: (l.take 100).drop (j + 1) := by
  have h : (l.take 100)[j]? = some x := by rw [List.getElem?_take, if_pos hj]; exact hx
  have hk := (List.getElem?_eq_some_iff.1 h).1
  rw [List.drop_eq_getElem_cons hk, show (l.take 100)[j] = x from (List.getElem?_eq_some_iff.1 h).2]
set_option maxHeartbeats 8000000 in
theorem light_any {w : World} {t : T} {vi vo vc : Value} (h : ReadsL w vi vo vc t) : Calls Tryd.prog 4 #[trV t vi vo vc] w (Says (.bool (lightT t)) w) := by
  obtain ⟨ai, ci, ao, co, ac, cc, rfl, rfl, rfl⟩ := h.known
  obtain ⟨w1, g, hw1, hg, HG, HB, HZ⟩ := newBox w (trA t (.slice ai t.ins.length ci) (.slice ao t.outs.length co) (.slice ac t.cells.length cc)) 26
  have HR := Lib.hid (h.below HB.out)
  obtain ⟨c0, c1, c2, c3, c4, c5, c6, c7, c8⟩ := cells9 HG.out
  obtain ⟨res, hres⟩ : ∃ res, lightT t = res := ⟨_, rfl⟩
  obtain ⟨st, sl, bks, gr, gb, ins, outs, la, cells⟩ := t
  dsimp only at *
  obtain ⟨m, hm⟩ : ∃ m, ins.length = m := ⟨_, rfl⟩
  obtain ⟨no, hno⟩ : ∃ no, outs.length = no := ⟨_, rfl⟩
  obtain ⟨nc, hnc⟩ : ∃ nc, cells.length = nc := ⟨_, rfl⟩
  have HNO := Lib.hid hno
  have HRB := Lib.hid (show (((outs.take 100).drop 0).all lightO && (decide (m ≤ 120) && (decide (no ≤ 60) && decide (nc ≤ 100)))) = res by rw [← hres, ← hm, ← hno, ← hnc]; rfl)
  rw [hres]
  rw [hm, hno, hnc] at hw1 HR ⊢
  rw [hm] at c5
  rw [hno] at c6
  rw [hnc] at c8
  clear h hm hno hnc hres
  go_enter Tryd.func4, Tryd.ntmps4
  go_wp2
  go_loopg [3] 101 (fun z i wr => ∃ j : Nat, z = 101 - j ∧ j ≤ 100 ∧ i = .int .i64 (j : Int) ∧ wr = w1 ∧ Hid ((((outs.take 100).drop j).all lightO && (decide (m ≤ 120) && (decide (no ≤ 60) && decide (nc ≤ 100)))) = res))
  case atStart => exact ⟨0, rfl, by omega, rfl, rfl, Lib.hid HRB.out⟩
  case round =>
    obtain ⟨j, rfl, hj, rfl, hwr, HJ⟩ := hrel
    subst wr
    by_cases hlt : j < no ∧ j < 100
    · obtain ⟨x, hx⟩ : ∃ x, outs[j]? = some x := ⟨_, List.getElem?_eq_getElem (by rw [HNO.out]; exact hlt.1)⟩
      have HS := Lib.hid (show (lightO x && (((outs.take 100).drop (j + 1)).all lightO && (decide (m ≤ 120) && (decide (no ≤ 60) && decide (nc ≤ 100))))) = res by rw [← HJ.out, take_at (f := lightO) hx hlt.2, List.all_cons, Bool.and_assoc])
      obtain ⟨ad, vs, vb, rfl, -, -, i2, i3, hvs, hvb⟩ := ReadsO.at HR.out.outs hx
      obtain ⟨x0, x1, x2, x3⟩ := x
      obtain ⟨so, sc, rfl⟩ := reads_form hvs
      obtain ⟨to', tc, rfl⟩ := reads_form hvb
      dsimp only at i2 i3 HS
      obtain ⟨ns, hns⟩ : ∃ ns, x2.length = ns := ⟨_, rfl⟩
      obtain ⟨nb, hnb⟩ : ∃ nb, x3.length = nb := ⟨_, rfl⟩
      have HS2 := Lib.hid (show ((decide (ns ≤ 60) && decide (nb ≤ 60)) && (((outs.take 100).drop (j + 1)).all lightO && (decide (m ≤ 120) && (decide (no ≤ 60) && decide (nc ≤ 100))))) = res by rw [← hns, ← hnb]; exact HS.out)
      rw [hns] at i2
      rw [hnb] at i3
      have z0 : (0 : Int) ≤ (j : Int) := by omega
      have z1 : (j : Int) < (no : Int) := by omega
      have z2 : (j : Int) < 100 := by omega
      have z3 : decide (j < no) = true := decide_eq_true hlt.1
      clear HJ hx hvs hvb hns hnb HS
      by_cases q1 : 60 < ns
      · have HF := Lib.hid (show res = false by rw [← HS2.out, decide_eq_false (show ¬ ns ≤ 60 by omega)]; rfl)
        have d1 : decide (60 < (ns : Int)) = true := decide_eq_true (by omega)
        clear HS2 q1 hlt
        go_wp2
        go_ret
        exact ⟨by rw [HF.out]; rfl, HB.out⟩
      · have d1 : decide (60 < (ns : Int)) = false := decide_eq_false (by omega)
        by_cases q2 : 60 < nb
        · have HF := Lib.hid (show res = false by rw [← HS2.out, decide_eq_false (show ¬ nb ≤ 60 by omega)]; simp)
          have d2 : decide (60 < (nb : Int)) = true := decide_eq_true (by omega)
          clear HS2 q1 q2 hlt
          go_wp2
          go_ret
          exact ⟨by rw [HF.out]; rfl, HB.out⟩
        · have d2 : decide (60 < (nb : Int)) = false := decide_eq_false (by omega)
          have HP := Lib.hid (show (((outs.take 100).drop (j + 1)).all lightO && (decide (m ≤ 120) && (decide (no ≤ 60) && decide (nc ≤ 100)))) = res by rw [← HS2.out, decide_eq_true (show ns ≤ 60 by omega), decide_eq_true (show nb ≤ 60 by omega)]; rfl)
          have hj1 : j + 1 ≤ 100 := hlt.2
          have HJ1 := Lib.hid hj1
          clear HS2 q1 q2 hlt hj1
          go_wp2
          go_roundg (101 - (j + 1))
          case measure => omega
          case rel => exact ⟨j + 1, rfl, HJ1.out, by go_num, rfl, HP⟩
    · have HR2 := Lib.hid (show (decide (m ≤ 120) && (decide (no ≤ 60) && decide (nc ≤ 100))) = res by
        have h := HJ.out
        rw [show (outs.take 100).drop j = [] from List.drop_of_length_le (by rw [List.length_take, HNO.out]; omega)] at h
        simpa using h)
      have HBF := HB
      by_cases q0 : j < no
      · have z1 : (j : Int) < (no : Int) := by omega
        have z3 : decide (j < no) = true := decide_eq_true q0
        have z2 : decide ((j : Int) < 100) = false := decide_eq_false (by omega)
        have z4 : decide (j < 100) = false := decide_eq_false (by omega)
        have HNJ := Lib.hid (show j = 100 by omega)
        by_cases p1 : m ≤ 120
        · have f1 : decide ((m : Int) ≤ 120) = true := decide_eq_true (by omega)
          by_cases p2 : no ≤ 60
          · have f2 : decide ((no : Int) ≤ 60) = true := decide_eq_true (by omega)
            by_cases p3 : nc ≤ 100
            · have f3 : decide ((nc : Int) ≤ 100) = true := decide_eq_true (by omega)
              have HF := Lib.hid (show res = true by rw [← HR2.out, decide_eq_true p1, decide_eq_true p2, decide_eq_true p3]; rfl)
              clear HR2 p1 p2 p3 hlt q0
              go_wp2
              go_ret
              exact ⟨by rw [HF.out]; rfl, HB.out⟩
            · have f3 : decide ((nc : Int) ≤ 100) = false := decide_eq_false (by omega)
              have HF := Lib.hid (show res = false by rw [← HR2.out, decide_eq_false p3]; simp)
              have HP3 := Lib.hid f3
              clear HR2 p1 p2 p3 hlt q0
              go_wp2
              go_ret
              exact ⟨by rw [HF.out]; first | rfl | exact retB HP3.out, HB.out⟩
          · have f2 : decide ((no : Int) ≤ 60) = false := decide_eq_false (by omega)
            have HF := Lib.hid (show res = false by rw [← HR2.out, decide_eq_false p2]; simp)
            clear HR2 p1 p2 hlt q0
            go_wp2
            go_ret
            exact ⟨by rw [HF.out]; rfl, HB.out⟩
        · have f1 : decide ((m : Int) ≤ 120) = false := decide_eq_false (by omega)
          have HF := Lib.hid (show res = false by rw [← HR2.out, decide_eq_false p1]; rfl)
          clear HR2 p1 hlt q0
          go_wp2
          go_ret
          exact ⟨by rw [HF.out]; rfl, HB.out⟩
      · have z3 : decide (j < no) = false := decide_eq_false q0
        have z1 : decide ((j : Int) < (no : Int)) = false := decide_eq_false (by omega)
        by_cases p1 : m ≤ 120
        · have f1 : decide ((m : Int) ≤ 120) = true := decide_eq_true (by omega)
          by_cases p2 : no ≤ 60
          · have f2 : decide ((no : Int) ≤ 60) = true := decide_eq_true (by omega)
            by_cases p3 : nc ≤ 100
            · have f3 : decide ((nc : Int) ≤ 100) = true := decide_eq_true (by omega)
              have HF := Lib.hid (show res = true by rw [← HR2.out, decide_eq_true p1, decide_eq_true p2, decide_eq_true p3]; rfl)
              clear HR2 p1 p2 p3 hlt q0
              go_wp2
              go_ret
              exact ⟨by rw [HF.out]; rfl, HB.out⟩
            · have f3 : decide ((nc : Int) ≤ 100) = false := decide_eq_false (by omega)
              have HF := Lib.hid (show res = false by rw [← HR2.out, decide_eq_false p3]; simp)
              have HP3 := Lib.hid f3
              clear HR2 p1 p2 p3 hlt q0
              go_wp2
              go_ret
              exact ⟨by rw [HF.out]; first | rfl | exact retB HP3.out, HB.out⟩
          · have f2 : decide ((no : Int) ≤ 60) = false := decide_eq_false (by omega)
            have HF := Lib.hid (show res = false by rw [← HR2.out, decide_eq_false p2]; simp)
            clear HR2 p1 p2 hlt q0
            go_wp2
            go_ret
            exact ⟨by rw [HF.out]; rfl, HB.out⟩
        · have f1 : decide ((m : Int) ≤ 120) = false := decide_eq_false (by omega)
          have HF := Lib.hid (show res = false by rw [← HR2.out, decide_eq_false p1]; rfl)
          clear HR2 p1 hlt q0
          go_wp2
          go_ret
          exact ⟨by rw [HF.out]; rfl, HB.out⟩
end Go.Proofs.YtgabemlehmhgpaaDoor.Ir
/- One list of texts more. -/
namespace Go.Proofs.YtgabemlehmhgpaaDoor
open Go.RowKit Book
set_option linter.unusedSimpArgs false
set_option linter.unusedVariables false
end Go.Proofs.YtgabemlehmhgpaaDoor
/- hollowaybook over lists that came in: lent, held against one's own. -/
namespace Go.Proofs.YtgabemlehmhgpaaDoor
open Go.RowKit Book Mem
set_option linter.unusedSimpArgs false
set_option linter.unusedVariables false
/-- a list with room behind it, in which a mark stands -/
def Lent (w : World) (B g cap : Nat) (l : List Int) : Prop := Owns w B 3 (.slice (some ⟨g, 0, none⟩) (l.length + 1) cap) (vals (l ++ [-77]))
theorem Lent.owns {w : World} {B g cap : Nat} {l : List Int} (h : Lent w B g cap l) : Owns w B 3 (.slice (some ⟨g, 0, none⟩) l.length cap) (vals l) := by
  have := owns_shorter (m := l.length) h (by simp)
  rw [List.take_left] at this
  exact this
theorem Lent.blk {w : World} {B g cap : Nat} {l : List Int} (h : Lent w B g cap l) : Book.blk (.slice (some ⟨g, 0, none⟩) (l.length + 1) cap) = some g ∧ l.length + 1 ≤ cap := by
  obtain ⟨g', c', e, _, _, hl⟩ := h.row (by rw [vals_length]; simp)
  rw [vals_length] at e hl
  simp only [Value.slice.injEq, Option.some.injEq, Addr.mk.injEq, and_true, List.length_append, List.length_cons, List.length_nil] at e hl
  have : l.length + 1 ≤ cap := by omega
  exact ⟨blk_pos (by omega), this⟩
theorem Lent.touch {w w' : World} {B g cap : Nat} {l : List Int} {bs : List Nat} (h : Lent w B g cap l) (ht : Stirred w w' bs) (hn : g ∉ bs) : Lent w' B g cap l :=
  Owns.touch h ht (fun k hk => by rw [h.blk.1] at hk; simp at hk; subst hk; exact hn)
set_option maxHeartbeats 2000000 in
theorem sameReads_any (va vb : Value) (ss : List Int) (w : World) (ha : Reads w va ss) (hb : Reads w vb ss) (hl : ss.length ≤ 10000000) :
    Calls Tryd.prog 25 #[va, vb] w fun e w' => e = .returned (.bool true) ∧ ∃ q, w' = w.drewN q := by
  obtain ⟨ao, ac, rfl, hca⟩ := ha
  obtain ⟨bo, bc, rfl, hcb⟩ := hb
  have CA := Lib.hid hca
  have CB := Lib.hid hcb
  obtain ⟨n, hn⟩ : ∃ n, ss.length = n := ⟨_, rfl⟩
  have HN := Lib.hid hn
  rw [hn] at hl ⊢
  clear hca hcb hn
  go_enter Tryd.func25, Tryd.ntmps25
  go_wp2
  go_loopg [5] n (fun g i wr => ∃ j q : Nat, g = n - j ∧ j ≤ n ∧ i = .int .i64 j ∧ wr = w.drewN q)
  case atStart => exact ⟨0, 0, rfl, Nat.zero_le _, rfl, rfl⟩
  case round =>
    obtain ⟨j, q, rfl, hj, rfl, rfl⟩ := hrel
    by_cases hlt : j < n
    · obtain ⟨x, hx⟩ : ∃ x, ss[j]? = some x := ⟨ss[j]'(by rw [HN.out]; exact hlt), List.getElem?_eq_getElem _⟩
      obtain ⟨a, rfl, ca⟩ := CA.out j x hx
      obtain ⟨b, rfl, cb⟩ := CB.out j x hx
      clear hx
      go_wp2
      go_quiet (fail)
      go_wp2
      go_roundg (n - (j + 1))
      case measure => omega
      case rel => exact ⟨j + 1, _, rfl, by omega, by go_num, rfl⟩
    · go_wp2
      go_ret
      exact ⟨rfl, q, rfl⟩
end Go.Proofs.YtgabemlehmhgpaaDoor
/- A book that keeps machines; machines that are lent, held against each other. -/
namespace Go.Proofs.YtgabemlehmhgpaaDoor.Mach
open Go.RowKit Book Mem
set_option linter.unusedVariables false
set_option linter.unusedSimpArgs false
/-- a list that came in, or a row of one's own -/
def L (W w : World) (B : Nat) (v : Value) (xs : List Int) : Prop := ReadsC W v xs ∨ Owns w B 3 v (vals xs)
theorem L.reads {W w : World} {B : Nat} {v : Value} {xs : List Int} (h : L W w B v xs) (hb : Below W.heap.size W w) : ReadsC w v xs := by
  rcases h with h | h
  · exact h.below hb
  · exact ReadsC.of_owns h
theorem L.below {W w w' : World} {B : Nat} {v : Value} {xs : List Int} (h : L W w B v xs) (hb : Below w.heap.size w w') : L W w' B v xs := by
  rcases h with h | h
  · exact .inl h
  · exact .inr (h.below hb)
/-- a machine of such lists -/
def LM (W w : World) (B : Nat) (v : Value) (m : M) : Prop := ∃ vs vb vm, v = stV m vs vb vm ∧ L W w B vs m.stack ∧ L W w B vb m.back ∧ L W w B vm m.mem
theorem LM.reads {W w : World} {B : Nat} {v : Value} {m : M} (h : LM W w B v m) (hb : Below W.heap.size W w) : ReadsM w v m := by
  obtain ⟨vs, vb, vm, e, h1, h2, h3⟩ := h
  exact ⟨vs, vb, vm, e, h1.reads hb, h2.reads hb, h3.reads hb⟩
theorem LM.below {W w w' : World} {B : Nat} {v : Value} {m : M} (h : LM W w B v m) (hb : Below w.heap.size w w') : LM W w' B v m := by
  obtain ⟨vs, vb, vm, e, h1, h2, h3⟩ := h
  exact ⟨vs, vb, vm, e, h1.below hb, h2.below hb, h3.below hb⟩
theorem LM.of_owns {W w : World} {B B' : Nat} {v : Value} {m : M} (h : OwnsM w B v m) (hB : B' ≤ B) : LM W w B' v m := by
  obtain ⟨vs, vb, vm, e, h1⟩ := h
  exact ⟨vs, vb, vm, e, .inr (h1.st.from hB), .inr (h1.bk.from hB), .inr (h1.me.from hB)⟩
theorem LM.of_reads {W : World} (B : Nat) {v : Value} {m : M} (h : ReadsM W v m) : LM W W B v m := by
  obtain ⟨vs, vb, vm, e, h1, h2, h3⟩ := h
  exact ⟨vs, vb, vm, e, .inl h1, .inl h2, .inl h3⟩
/-- what a call answers: a machine of such lists -/
def TellsL (W : World) (B : Nat) (m : M) (w : World) (e : Ending) (w' : World) : Prop := ∃ v, e = .returned v ∧ LM W w' B v m ∧ Below w.heap.size w w'
/-- a book that keeps lists of ints alone -/
def bookArr9 (vS vW : Value) : Array Value := #[.slice none 0 0, .slice none 0 0, vS, vW, .slice none 0 0, .slice none 0 0, .slice none 0 0, .slice none 0 0, .slice none 0 0, .slice none 0 0, .slice none 0 0, .slice none 0 0]
end Go.Proofs.YtgabemlehmhgpaaDoor.Mach
/- Marks put into kept lists. -/
namespace Go.Proofs.YtgabemlehmhgpaaDoor
open Go.RowKit Book
set_option linter.unusedSimpArgs false
set_option linter.unusedVariables false
end Go.Proofs.YtgabemlehmhgpaaDoor
/- Kept lists, grown. -/
namespace Go.Proofs.YtgabemlehmhgpaaDoor
open Go.RowKit Book
set_option linter.unusedSimpArgs false
set_option linter.unusedVariables false
theorem intMarks_add (i a m n : Nat) : intMarks i a (m + n) = intMarks i a m ++ intMarks i (a + m) n := by
  induction n with
  | zero => simp [intMarks]
  | succ n ih => rw [← Nat.add_assoc, intMarks_succ, ih, intMarks_succ, List.append_assoc, Nat.add_assoc]
theorem intMarks_one (i a n : Nat) : ∀ u ∈ intMarks i a n, u.oneCell' = true := by
  intro u hu
  simp only [intMarks, List.mem_map] at hu
  obtain ⟨j, _, rfl⟩ := hu
  rfl
end Go.Proofs.YtgabemlehmhgpaaDoor
/- Do lists bear their marks? -/
namespace Go.Proofs.YtgabemlehmhgpaaDoor
open Go.RowKit Book
set_option linter.unusedSimpArgs false
set_option linter.unusedVariables false
theorem intMarks_eq (i a n : Nat) : intMarks i a n = ((List.range n).map fun j => markI i (a + j)).map (.int .i64) := by simp [intMarks]
end Go.Proofs.YtgabemlehmhgpaaDoor
/- Kinds of which a book keeps no list: nothing is done. -/
namespace Go.Proofs.YtgabemlehmhgpaaDoor
open Go.RowKit Book
set_option linter.unusedSimpArgs false
set_option linter.unusedVariables false
end Go.Proofs.YtgabemlehmhgpaaDoor
/- Lists that were marked bear marks. -/
namespace Go.Proofs.YtgabemlehmhgpaaDoor
open Book
theorem done_marks {ls cur : List (Value × List Value)} {mk : Nat → Nat → List Value} (h : Done mk ls ls.length cur) (hm : ∀ i n, (mk i n).length = n) (most : Nat) (hl : ∀ k ∈ ls, k.2.length ≤ most) : ∀ i k, cur[i]? = some k → k.2 = mk i k.2.length ∧ k.2.length ≤ most := by
  intro i k hk
  have hi : i < ls.length := by rw [← h.len]; exact (List.getElem?_eq_some_iff.1 hk).1
  have h1 : ls[i]? = some ls[i] := List.getElem?_eq_getElem hi
  have h2 := h.done i _ hi h1
  rw [hk] at h2
  simp only [Option.some.injEq] at h2
  subst h2
  dsimp only
  rw [hm]
  exact ⟨rfl, hl _ (List.mem_of_getElem? h1)⟩
end Go.Proofs.YtgabemlehmhgpaaDoor
/- A book that keeps lists of one kind alone (Ints): is each as it was, and apart from the others? -/
namespace Go.Proofs.YtgabemlehmhgpaaDoor
open Go.RowKit Book
set_option linter.unusedSimpArgs false
set_option linter.unusedVariables false
/-- a book that keeps one kind alone -/
structure BookInts (w : World) (p : Nat) (vS : Value) : Prop where
  c2 : w.cell? ⟨p, 2, none⟩ = some vS
  c0 : w.cell? ⟨p, 0, none⟩ = some (.slice none 0 0)
  c4 : w.cell? ⟨p, 4, none⟩ = some (.slice none 0 0)
  c6 : w.cell? ⟨p, 6, none⟩ = some (.slice none 0 0)
  c8 : w.cell? ⟨p, 8, none⟩ = some (.slice none 0 0)
  c10 : w.cell? ⟨p, 10, none⟩ = some (.slice none 0 0)
theorem BookInts.stirred {w w' : World} {bs : List Nat} {p : Nat} {vS : Value} (h : BookInts w p vS) (ht : Stirred w w' bs) (hn : p ∉ bs) : BookInts w' p vS :=
  ⟨ht.cell hn h.c2, ht.cell hn h.c0, ht.cell hn h.c4, ht.cell hn h.c6, ht.cell hn h.c8, ht.cell hn h.c10⟩
end Go.Proofs.YtgabemlehmhgpaaDoor
/- Machines held against each other; lent; laid into a book. -/
namespace Go.Proofs.YtgabemlehmhgpaaDoor.Mach
open Go.RowKit Book Mem
set_option linter.unusedVariables false
set_option linter.unusedSimpArgs false
/-- two new boxes -/
theorem two_boxes2 (w : World) (cs cs' : Array Value) : ∃ w1 w2 g r, w.alloc (.cells cs 28) = w1 ∧ w1.alloc (.cells cs' 28) = w2 ∧ w.heap.size = g ∧ w1.heap.size = r ∧
    Hid (w2.heap[g]? = some (.cells cs 28 (0, 0))) ∧ Hid (w2.heap[r]? = some (.cells cs' 28 (0, 0))) ∧ Hid (Below w.heap.size w w2) ∧ Hid (g < r) ∧ Hid (w.heap.size = g) := by
  have hb1 := (Below.refl w.heap.size w).alloc (Nat.le_refl _) (.cells cs 28)
  have hn1 := heap_alloc_new w (.cells cs 28)
  have hb2 := (Below.refl (w.alloc (.cells cs 28)).heap.size (w.alloc (.cells cs 28))).alloc (Nat.le_refl _) (.cells cs' 28)
  have hn2 := heap_alloc_new (w.alloc (.cells cs 28)) (.cells cs' 28)
  exact ⟨_, _, _, _, rfl, rfl, rfl, rfl, (Stirred.of_below hb2 []).whole hn1 List.not_mem_nil, hn2, hb1.trans (hb2.mono hb1.size), whole_lt hn1, rfl⟩
set_option maxHeartbeats 8000000 in
set_option maxRecDepth 100000 in
theorem sameState_any {w : World} {v v' : Value} {m : M} (h : ReadsM w v m) (h' : ReadsM w v' m) (h1 : m.stack.length ≤ 10000) (h2 : m.back.length ≤ 10000) (h3 : m.mem.length ≤ 10000) :
    Calls Tryd.prog 10 #[v, v'] w (Says (.bool true) w) := by
  obtain ⟨vs, vb, vm, rfl, hs, hb, hm⟩ := h
  obtain ⟨vs', vb', vm', rfl, hs', hb', hm'⟩ := h'
  obtain ⟨ip, hh, st, bk, me, ou, inn, rd, stt, cd⟩ := m
  simp only at hs hb hm hs' hb' hm' h1 h2 h3 ⊢
  have C1 := Lib.hid (fun wc (hbw : Below w.heap.size w wc) => sameReads_any vs vs' st wc (hs.1.below hbw) (hs'.1.below hbw) (by omega))
  have C2 := Lib.hid (fun wc (hbw : Below w.heap.size w wc) => sameReads_any vb vb' bk wc (hb.1.below hbw) (hb'.1.below hbw) (by omega))
  have C3 := Lib.hid (fun wc (hbw : Below w.heap.size w wc) => sameReads_any vm vm' me wc (hm.1.below hbw) (hm'.1.below hbw) (by omega))
  obtain ⟨w1, w2, g, r, hw1, hw2, hg, hr, HG, HR, HB, HZ, HW⟩ := two_boxes2 w (cells10 ip hh vs vb vm ou inn rd stt cd) (cells10 ip hh vs' vb' vm' ou inn rd stt cd)
  have e1 : (ou.toList == ou.toList) = true := beq_self_eq_true _
  have e2 : (inn.toList == inn.toList) = true := beq_self_eq_true _
  clear hs hb hm hs' hb' hm' h1 h2 h3
  go_enter Tryd.func10, Tryd.ntmps10
  simp only [List.append_eq, List.cons_append, List.nil_append]
  go_wp2_with (first
    | (refine ld_int (by rfl) _ rfl _ rfl _ (whole_cell HG.out rfl) ?_)
    | (refine ld_int (by rfl) _ rfl _ rfl _ (whole_cell HR.out rfl) ?_)
    | (refine ld_ints (by rfl) _ rfl _ rfl _ (whole_cell HG.out rfl) ?_)
    | (refine ld_ints (by rfl) _ rfl _ rfl _ (whole_cell HR.out rfl) ?_)
    | (refine ld_str (by rfl) _ rfl _ rfl _ (whole_cell HG.out rfl) ?_)
    | (refine ld_str (by rfl) _ rfl _ rfl _ (whole_cell HR.out rfl) ?_)
    | (go_at_call 25; (with_reducible refine (C1.out _ HB.out).mono ?_); rintro e wn ⟨rfl, q, hq⟩; have HB := Lib.hid (show Below w.heap.size w wn by rw [hq]; exact HB.out.trans (bk_below_drewN _ _ _)); have HG := Lib.hid (show wn.heap[g]? = some (.cells (cells10 ip hh vs vb vm ou inn rd stt cd) 28 (0, 0)) by rw [hq]; exact HG.out); have HR := Lib.hid (show wn.heap[r]? = some (.cells (cells10 ip hh vs' vb' vm' ou inn rd stt cd) 28 (0, 0)) by rw [hq]; exact HR.out); clear hq)
    | (go_at_call 25; (with_reducible refine (C2.out _ HB.out).mono ?_); rintro e wn ⟨rfl, q, hq⟩; have HB := Lib.hid (show Below w.heap.size w wn by rw [hq]; exact HB.out.trans (bk_below_drewN _ _ _)); have HG := Lib.hid (show wn.heap[g]? = some (.cells (cells10 ip hh vs vb vm ou inn rd stt cd) 28 (0, 0)) by rw [hq]; exact HG.out); have HR := Lib.hid (show wn.heap[r]? = some (.cells (cells10 ip hh vs' vb' vm' ou inn rd stt cd) 28 (0, 0)) by rw [hq]; exact HR.out); clear hq)
    | (go_at_call 25; (with_reducible refine (C3.out _ HB.out).mono ?_); rintro e wn ⟨rfl, q, hq⟩; have HB := Lib.hid (show Below w.heap.size w wn by rw [hq]; exact HB.out.trans (bk_below_drewN _ _ _)); have HG := Lib.hid (show wn.heap[g]? = some (.cells (cells10 ip hh vs vb vm ou inn rd stt cd) 28 (0, 0)) by rw [hq]; exact HG.out); have HR := Lib.hid (show wn.heap[r]? = some (.cells (cells10 ip hh vs' vb' vm' ou inn rd stt cd) 28 (0, 0)) by rw [hq]; exact HR.out); clear hq))
  go_ret
  exact ⟨rfl, HB.out⟩
end Go.Proofs.YtgabemlehmhgpaaDoor.Mach
/- EvalWatched: the walk. -/
namespace Go.Proofs.YtgabemlehmhgpaaDoor.EvalWatched
open Go.RowKit Book Mem Ev
open Ir (T I O trA trV ReadsL ReadsT newBox boxOn ld_tr CI CT lightT lightT_all lightT_small rightT rright_any)
open Mach (M less cells10 zero10 OwnsL OwnsM ReadsM stV st_state ld_state state_size slice_one all_one lightB lightB_iff Cells sameState_any)
set_option linter.unusedSimpArgs false
set_option linter.unusedVariables false
def Yes (w : World) (e : Ending) (w' : World) : Prop := e = .returned (.bool true) ∧ Below w.heap.size w w'
/-- 0, 1, .. -/
def upto (k : Nat) : List Int := (List.range k).map Int.ofNat
theorem upto_succ (k : Nat) : upto (k + 1) = upto k ++ [(k : Int)] := by unfold upto; rw [List.range_succ, List.map_append]; rfl
theorem upto_length (k : Nat) : (upto k).length = k := by unfold upto; rw [List.length_map, List.length_range]
theorem upto_all (n : Nat) : AllW (upto n) n := fun p h0 h1 => by
  rw [List.contains_iff_mem]
  exact List.mem_map.2 ⟨p.toNat, List.mem_range.2 (by omega), Int.toNat_of_nonneg h0⟩
theorem wSz {ip sip hn rd cd stt : Int} {st bk me wat : List Int} {ou inn : ByteArray} (h : Mach.Right ⟨sip, hn, st, bk, me, ou, inn, rd, stt, cd⟩) (h1 : me.length ≤ 700) (h2 : inn.size ≤ 300) (h3 : wat.length ≤ 700) : Sz ⟨ip, hn, st, bk, me, ou, inn, rd, 0, cd⟩ [] wat :=
  ⟨Nat.le_trans h.stack (by decide), Nat.le_trans h.back (by decide), Nat.le_trans h1 (by decide), h.out, Nat.le_trans h2 (by decide), Nat.zero_le _, Nat.le_trans h3 (by decide), fun x hx => (by cases hx)⟩
theorem wCM {ip sip hn rd cd stt : Int} {st bk me : List Int} {ou inn : ByteArray} (h : Cells ⟨sip, hn, st, bk, me, ou, inn, rd, stt, cd⟩) : CM ⟨ip, hn, st, bk, me, ou, inn, rd, 0, cd⟩ := ⟨h.stack, h.back, h.mem⟩
theorem filled {w8 w9 w10 wx w12 : World} {g7 g8 : Nat} (B9 : Below w8.heap.size w8 w9) (B10 : Below w9.heap.size w9 w10) (T15 : Stirred w10 wx [g7]) (T16 : Stirred wx w12 [g8]) (h7 : w8.heap.size ≤ g7) (h8 : w8.heap.size ≤ g8) : Below w8.heap.size w8 w12 := by
  have b1 := B9.trans (B10.mono B9.size)
  have b2 := b1.trans (T15.below (fun k hk => by rw [List.mem_singleton.1 hk]; exact h7) b1.size)
  exact b2.trans (T16.below (fun k hk => by rw [List.mem_singleton.1 hk]; exact h8) b2.size)
theorem le1 {n : Nat} (h : n ≤ 1) : decide ((n : Int) ≤ 1) = true := decide_eq_true (by omega)
theorem wlen {n k : Nat} (h : n ≤ 700) (hk : k ≤ n) : k + 1 ≤ maxLen ∧ (k + 1) * 8 ≤ 140737488355328 := ⟨by unfold maxLen; omega, by omega⟩
set_option maxHeartbeats 16000000 in
set_option maxRecDepth 100000 in
theorem main (v : Value) (t : T) (u : Value) (s : M) (W : World) (l0 : ReadsT W v t ∧ CT t) (l1 : ReadsM W u s ∧ Cells s ∧ s.inp.size ≤ maxLen ∧ s.out.size ≤ maxLen ∧ Cell.In s.read ∧ Cell.In s.status) (hT : Tabs W) :
    Calls Tryd.prog 3 #[v, u] W (Yes W) := by
  obtain ⟨⟨vi, vo, vc, rfl, hR⟩, hCT⟩ := l0
  have HR := Lib.hid hR
  have HCT := Lib.hid hCT
  obtain ⟨h, hc, hi, ho, -, -⟩ := l1
  have HM := Lib.hid h
  have HCC := Lib.hid hc
  obtain ⟨vs, vb, vm, rfl, hrs, hrb, hrm⟩ := h
  have HRS := Lib.hid hrs
  have HRB := Lib.hid hrb
  have HRM := Lib.hid hrm
  obtain ⟨⟨so, sc, f1, -⟩, -⟩ := hrs
  obtain ⟨⟨bo, bc, f2, -⟩, -⟩ := hrb
  obtain ⟨⟨mo, mc, f3, -⟩, -⟩ := hrm
  subst f1
  subst f2
  subst f3
  obtain ⟨ai, ci, ao, co, ac, cc, rfl, rfl, rfl⟩ := hR.known
  obtain ⟨sip, shn, st, bk, me, ou, inn, rd, stt, cd⟩ := s
  dsimp only at hi ho
  have C1 := Lib.hid (fun wc (hb : Below W.heap.size W wc) => Ir.light_any (HR.out.below hb))
  have C2 := Lib.hid (fun wc (hb : Below W.heap.size W wc) => Mach.light_any (HM.out.below hb) hi ho)
  have C3 := Lib.hid (fun wc (hb : Below W.heap.size W wc) (hs : Ir.Small t) => rright_any (HR.out.below hb) hs)
  have C4 := Lib.hid (fun wc (hb : Below W.heap.size W wc) => alive_any wc (hT.mono hb))
  obtain ⟨n1, hn1⟩ : ∃ n, st.length = n := ⟨_, rfl⟩
  obtain ⟨n2, hn2⟩ : ∃ n, bk.length = n := ⟨_, rfl⟩
  obtain ⟨n3, hn3⟩ : ∃ n, me.length = n := ⟨_, rfl⟩
  obtain ⟨ni, hni⟩ : ∃ n, t.ins.length = n := ⟨_, rfl⟩
  obtain ⟨no, hno⟩ : ∃ n, t.outs.length = n := ⟨_, rfl⟩
  obtain ⟨nc, hnc⟩ : ∃ n, t.cells.length = n := ⟨_, rfl⟩
  have HN := Lib.hid (And.intro hn1 (And.intro hn2 hn3))
  have HNT := Lib.hid (And.intro hni hno)
  dsimp only at HM C2 HRS HRB HRM
  rw [hn1, hn2, hn3] at HM C2
  rw [hn1] at HRS
  rw [hn2] at HRB
  rw [hn3] at HRM
  rw [hni, hno, hnc] at HR C1 C3
  simp only [hn1, hn2, hn3, hni, hno, hnc]
  clear hn1 hn2 hn3 hni hno hnc hR
  obtain ⟨w1, gt, hw1, hgt, HG, HB1, HZ1⟩ := newBox W (trA t (.slice ai ni ci) (.slice ao no co) (.slice ac nc cc)) 26
  obtain ⟨w2, gs, hw2, hgs, HX, HB2, HZ2⟩ := newBox w1 (cells10 sip shn (.slice so n1 sc) (.slice bo n2 bc) (.slice mo n3 mc) ou inn rd stt cd) 28
  have HB := Lib.hid (HB1.out.trans (HB2.out.mono HB1.out.size))
  have NE := Lib.hid (show W.heap.size = gt ∧ gt < gs from ⟨HZ1.out, by rw [← HZ2.out]; exact whole_lt HG.out⟩)
  have HG := Lib.hid (boxOn HG.out HB2.out)
  have HT := Lib.hid hT
  obtain ⟨lt, hlt⟩ : ∃ b, lightT t = b := ⟨_, rfl⟩
  obtain ⟨lb, hlb⟩ : ∃ b, lightB ⟨sip, shn, st, bk, me, ou, inn, rd, stt, cd⟩ = b := ⟨_, rfl⟩
  obtain ⟨rt, hrt⟩ : ∃ b, rightT t = b := ⟨_, rfl⟩
  rw [hlt] at C1
  rw [hlb] at C2
  rw [hrt] at C3
  have HLT := Lib.hid hlt
  have HLB := Lib.hid hlb
  have HRT := Lib.hid hrt
  clear hlt hlb hrt hT hi ho hc HB1 HB2 HZ1 HZ2
  cases lt with
  | false =>
    as_aux_lemma =>
    go_enter Tryd.func3, Tryd.ntmps3
    go_wp2_with (first
      | (refine ld_tr (by rfl) _ rfl gt rfl _ rfl HG.out ?_)
      | (refine ld_state (by rfl) _ rfl gs rfl _ _ HX.out rfl ?_)
      | (go_at_call 4; refine (C1.out _ HB.out).mono ?_; rintro e wn ⟨rfl, hb⟩; have HB := Lib.hid (HB.out.trans (hb.mono HB.out.size)); have HG := Lib.hid (boxOn HG.out hb); have HX := Lib.hid (boxOn HX.out hb); clear hb)
      | (go_at_call 5; refine (C2.out _ HB.out).mono ?_; rintro e wn ⟨rfl, hb⟩; have HB := Lib.hid (HB.out.trans (hb.mono HB.out.size)); have HG := Lib.hid (boxOn HG.out hb); have HX := Lib.hid (boxOn HX.out hb); clear hb)
      | (go_at_call 6; refine (C3.out _ HB.out HSM.out).mono ?_; rintro e wn ⟨rfl, hb⟩; have HB := Lib.hid (HB.out.trans (hb.mono HB.out.size)); have HG := Lib.hid (boxOn HG.out hb); have HX := Lib.hid (boxOn HX.out hb); clear hb)
      | (go_at_call 7; refine (C4.out _ HB.out).mono ?_; rintro e wn ⟨rfl, hb⟩; have HB := Lib.hid (HB.out.trans (hb.mono HB.out.size)); have HG := Lib.hid (boxOn HG.out hb); have HX := Lib.hid (boxOn HX.out hb); clear hb))
    go_ret
    exact ⟨rfl, HB.out⟩
  | true =>
  have HSM := Lib.hid (lightT_small HLT.out)
  cases lb with
  | false =>
    as_aux_lemma =>
    go_enter Tryd.func3, Tryd.ntmps3
    go_wp2_with (first
      | (refine ld_tr (by rfl) _ rfl gt rfl _ rfl HG.out ?_)
      | (refine ld_state (by rfl) _ rfl gs rfl _ _ HX.out rfl ?_)
      | (go_at_call 4; refine (C1.out _ HB.out).mono ?_; rintro e wn ⟨rfl, hb⟩; have HB := Lib.hid (HB.out.trans (hb.mono HB.out.size)); have HG := Lib.hid (boxOn HG.out hb); have HX := Lib.hid (boxOn HX.out hb); clear hb)
      | (go_at_call 5; refine (C2.out _ HB.out).mono ?_; rintro e wn ⟨rfl, hb⟩; have HB := Lib.hid (HB.out.trans (hb.mono HB.out.size)); have HG := Lib.hid (boxOn HG.out hb); have HX := Lib.hid (boxOn HX.out hb); clear hb)
      | (go_at_call 6; refine (C3.out _ HB.out HSM.out).mono ?_; rintro e wn ⟨rfl, hb⟩; have HB := Lib.hid (HB.out.trans (hb.mono HB.out.size)); have HG := Lib.hid (boxOn HG.out hb); have HX := Lib.hid (boxOn HX.out hb); clear hb)
      | (go_at_call 7; refine (C4.out _ HB.out).mono ?_; rintro e wn ⟨rfl, hb⟩; have HB := Lib.hid (HB.out.trans (hb.mono HB.out.size)); have HG := Lib.hid (boxOn HG.out hb); have HX := Lib.hid (boxOn HX.out hb); clear hb))
    go_ret
    exact ⟨rfl, HB.out⟩
  | true =>
  cases rt with
  | false =>
    as_aux_lemma =>
    go_enter Tryd.func3, Tryd.ntmps3
    go_wp2_with (first
      | (refine ld_tr (by rfl) _ rfl gt rfl _ rfl HG.out ?_)
      | (refine ld_state (by rfl) _ rfl gs rfl _ _ HX.out rfl ?_)
      | (go_at_call 4; refine (C1.out _ HB.out).mono ?_; rintro e wn ⟨rfl, hb⟩; have HB := Lib.hid (HB.out.trans (hb.mono HB.out.size)); have HG := Lib.hid (boxOn HG.out hb); have HX := Lib.hid (boxOn HX.out hb); clear hb)
      | (go_at_call 5; refine (C2.out _ HB.out).mono ?_; rintro e wn ⟨rfl, hb⟩; have HB := Lib.hid (HB.out.trans (hb.mono HB.out.size)); have HG := Lib.hid (boxOn HG.out hb); have HX := Lib.hid (boxOn HX.out hb); clear hb)
      | (go_at_call 6; refine (C3.out _ HB.out HSM.out).mono ?_; rintro e wn ⟨rfl, hb⟩; have HB := Lib.hid (HB.out.trans (hb.mono HB.out.size)); have HG := Lib.hid (boxOn HG.out hb); have HX := Lib.hid (boxOn HX.out hb); clear hb)
      | (go_at_call 7; refine (C4.out _ HB.out).mono ?_; rintro e wn ⟨rfl, hb⟩; have HB := Lib.hid (HB.out.trans (hb.mono HB.out.size)); have HG := Lib.hid (boxOn HG.out hb); have HX := Lib.hid (boxOn HX.out hb); clear hb))
    go_ret
    exact ⟨rfl, HB.out⟩
  | true =>
  have HRI := Lib.hid ((lightB_iff _).1 HLB.out)
  have HLE := Lib.hid (show n1 ≤ 48 ∧ n2 ≤ 48 ∧ n3 ≤ 700 from by
    have r1 := HRI.out.2.2.stack
    have r2 := HRI.out.2.2.back
    have r3 := HRI.out.1
    have q := HN.out
    dsimp only at r1 r2 r3
    exact ⟨by omega, by omega, by omega⟩)
  have HRP := Lib.hid (show (0 ≤ t.slots ∧ t.slots ≤ 48) ∧ (0 ≤ t.grow ∧ t.grow ≤ 48) ∧ (0 ≤ t.backs ∧ t.backs ≤ 48) ∧ (0 ≤ t.growBack ∧ t.growBack ≤ 48) from by
    have h := HRT.out
    unfold rightT at h
    simp only [Bool.and_eq_true] at h
    obtain ⟨-, -, h, -⟩ := h
    obtain ⟨-, a, b, c, d⟩ := Ir.takes_all h
    exact ⟨a, b, c, d⟩)
  have C5 := Lib.hid (fun wc => show Calls Tryd.prog 8 #[trV t (.slice ai ni ci) (.slice ao no co) (.slice ac nc cc), stV ⟨t.start, shn, st, bk, me, ou, inn, rd, 0, cd⟩ (.slice so n1 sc) (.slice bo n2 bc) (.slice mo n3 mc)] wc fun e w' => e = .returned (.bool (mayT t ⟨t.start, shn, st, bk, me, ou, inn, rd, 0, cd⟩)) ∧ Below wc.heap.size wc w' from by
    have h := rmay_any (w := wc) (t := t) (s := ⟨t.start, shn, st, bk, me, ou, inn, rd, 0, cd⟩) (vi := .slice ai ni ci) (vo := .slice ao no co) (vc := .slice ac nc cc) (vm := .slice mo n3 mc) (so := so) (bo := bo) (sc := sc) (bc := bc) (by show st.length ≤ 10000; rw [HN.out.1]; have := HLE.out.1; omega) (by show bk.length ≤ 10000; rw [HN.out.2.1]; have := HLE.out.2.1; omega) HRP.out.1 HRP.out.2.1 HRP.out.2.2.1 HRP.out.2.2.2
    dsimp only at h
    rw [HN.out.1, HN.out.2.1] at h
    exact h)
  obtain ⟨my, hmy⟩ : ∃ b, mayT t ⟨t.start, shn, st, bk, me, ou, inn, rd, 0, cd⟩ = b := ⟨_, rfl⟩
  rw [hmy] at C5
  have HMY := Lib.hid hmy
  clear hmy
  go_enter Tryd.func3, Tryd.ntmps3
  go_upto_region 3 with (first
      | (refine ld_tr (by rfl) _ rfl gt rfl _ rfl HG.out ?_)
      | (refine ld_state (by rfl) _ rfl gs rfl _ _ HX.out rfl ?_)
      | (go_at_call 4; refine (C1.out _ HB.out).mono ?_; rintro e wn ⟨rfl, hb⟩; have HB := Lib.hid (HB.out.trans (hb.mono HB.out.size)); have HG := Lib.hid (boxOn HG.out hb); have HX := Lib.hid (boxOn HX.out hb); clear hb)
      | (go_at_call 5; refine (C2.out _ HB.out).mono ?_; rintro e wn ⟨rfl, hb⟩; have HB := Lib.hid (HB.out.trans (hb.mono HB.out.size)); have HG := Lib.hid (boxOn HG.out hb); have HX := Lib.hid (boxOn HX.out hb); clear hb)
      | (go_at_call 6; refine (C3.out _ HB.out HSM.out).mono ?_; rintro e wn ⟨rfl, hb⟩; have HB := Lib.hid (HB.out.trans (hb.mono HB.out.size)); have HG := Lib.hid (boxOn HG.out hb); have HX := Lib.hid (boxOn HX.out hb); clear hb)
      | (go_at_call 7; refine (C4.out _ HB.out).mono ?_; rintro e wn ⟨rfl, hb⟩; have HB := Lib.hid (HB.out.trans (hb.mono HB.out.size)); have HG := Lib.hid (boxOn HG.out hb); have HX := Lib.hid (boxOn HX.out hb); clear hb))
  obtain ⟨w3, hw3⟩ : ∃ w3, w3 = wn := ⟨_, rfl⟩
  rw [← hw3] at HB HG HX ⊢
  clear hw3
  have c0 : w3.cell? ⟨gt, 0, none⟩ = some (.int .i64 t.start) := whole_cell HG.out rfl
  have d0 : w3.cell? ⟨gs, 0, none⟩ = some (.int .i64 sip) := whole_cell HX.out rfl
  have d8 : w3.cell? ⟨gs, 8, none⟩ = some (.int .i64 stt) := whole_cell HX.out rfl
  have f0 : w3.frozen? ⟨gs, 0, none⟩ = false := whole_frozen HX.out 0
  have h4 := whole_set HX.out 0 (.int .i64 t.start)
  have t4 := Stirred.setCell w3 ⟨gs, 0, none⟩ (.int .i64 t.start)
  obtain ⟨w4, hw4⟩ : ∃ w4, w3.setCell ⟨gs, 0, none⟩ (.int .i64 t.start) = w4 := ⟨_, rfl⟩
  rw [hw4] at h4 t4
  have h4 : w4.heap[gs]? = some (.cells (cells10 t.start shn (.slice so n1 sc) (.slice bo n2 bc) (.slice mo n3 mc) ou inn rd stt cd) 28 (0, 0)) := h4
  have f8 : w4.frozen? ⟨gs, 8, none⟩ = false := whole_frozen h4 8
  have d8' : w4.cell? ⟨gs, 8, none⟩ = some (.int .i64 stt) := whole_cell h4 rfl
  have h5 := whole_set h4 8 (.int .i64 0)
  have t5 := Stirred.setCell w4 ⟨gs, 8, none⟩ (.int .i64 0)
  obtain ⟨w5, hw5⟩ : ∃ w5, w4.setCell ⟨gs, 8, none⟩ (.int .i64 0) = w5 := ⟨_, rfl⟩
  rw [hw5] at h5 t5
  have HX5 := Lib.hid (show w5.heap[gs]? = some (.cells (cells10 t.start shn (.slice so n1 sc) (.slice bo n2 bc) (.slice mo n3 mc) ou inn rd 0 cd) 28 (0, 0)) from h5)
  have hgs : ∀ k ∈ [gs], W.heap.size ≤ k := fun k hk => by rw [List.mem_singleton.1 hk]; have := NE.out; omega
  have b4 := HB.out.trans (t4.below hgs HB.out.size)
  have HB5 := Lib.hid (b4.trans (t5.below hgs b4.size))
  have hgn : gt ∉ [gs] := fun hm => by have h1 := List.mem_singleton.1 hm; have := NE.out; omega
  have HG5 := Lib.hid (t5.whole (t4.whole HG.out hgn) hgn)
  clear h4 t4 h5 t5 hgs b4 hgn HB HG HX C1 C2 C3 C4
  go_upto_region 4 with fail
  clear c0 d0 d8 f0 f8 d8' hw4 hw5
  cases my with
  | false =>
    as_aux_lemma =>
    go_wp2_with (first
      | (refine ld_tr (by rfl) _ rfl gt rfl _ rfl HG5.out ?_)
      | (refine ld_state (by rfl) _ rfl gs rfl _ _ HX5.out rfl ?_)
      | (go_at_call 8; refine (C5.out _).mono ?_; rintro e wn ⟨rfl, hb⟩; have HB6 := Lib.hid (HB5.out.trans (hb.mono HB5.out.size)); clear hb))
    go_ret
    exact ⟨rfl, HB6.out⟩
  | true =>
  go_upto_region 7 with (first
      | (refine ld_tr (by rfl) _ rfl gt rfl _ rfl HG5.out ?_)
      | (refine ld_state (by rfl) _ rfl gs rfl _ _ HX5.out rfl ?_)
      | (go_at_call 8; refine (C5.out _).mono ?_; rintro e w6 ⟨rfl, hb⟩; have HB6 := Lib.hid (HB5.out.trans (hb.mono HB5.out.size)); have HG6 := Lib.hid (boxOn HG5.out hb); have HX6 := Lib.hid (boxOn HX5.out hb); clear hb))
  obtain ⟨i0, q1, q2, q3, q4⟩ := info_parts Tryd.bkIntInfo
  have HI := Lib.hid (And.intro q1 (And.intro q2 (And.intro q3 q4)))
  clear q1 q2 q3 q4 C5 HB5 HG5 HX5
  go_wp2_with fail
  go_loopg [5, 6] n3 (fun zz l i wr => ∃ k : Nat, zz = n3 - k ∧ k ≤ n3 ∧ i = .int .i64 (k : Int) ∧ Hid (Owns wr w6.heap.size 3 l (vals (upto k))) ∧ Hid (Below w6.heap.size w6 wr))
  case atStart => exact ⟨0, rfl, Nat.zero_le _, rfl, Lib.hid (Owns.nil _ _ _), Lib.hid (Below.refl _ _)⟩
  case round =>
    obtain ⟨k, rfl, hk, rfl, HO, HBR⟩ := hrel
    have HXR := Lib.hid (boxOn HX6.out HBR.out)
    have HGR := Lib.hid (boxOn HG6.out HBR.out)
    have HWR := Lib.hid (HB6.out.trans (HBR.out.mono HB6.out.size))
    have r4 : wr.cell? ⟨gs, 4, none⟩ = some (.slice mo n3 mc) := whole_cell HXR.out rfl
    obtain ⟨ao5, cap5, e5⟩ := HO.out.slice
    rw [vals_length, upto_length] at e5
    subst e5
    by_cases hlt : k < n3
    · as_aux_lemma =>
      obtain ⟨w16, g16, hw16, hg16, HROW, HB16⟩ := rrow_one wr (k : Int)
      have HO16 := Lib.hid (HO.out.below HB16.out)
      have k0 : (0 : Int) ≤ (k : Int) := Int.natCast_nonneg k
      have k1 : (k : Int) < (n3 : Int) := Int.ofNat_lt.2 hlt
      have HBS := Lib.hid (show w6.heap.size ≤ w16.heap.size from Nat.le_trans HBR.out.size HB16.out.size)
      have hb7 : n3 ≤ 700 := HLE.out.2.2
      have HWL := Lib.hid (wlen HLE.out.2.2 hk)
      go_wp2_with (refine wpList_append_reads _ rfl _ _ 24 rfl w6.heap.size 3 i0 (.int .i64 0) 8 Tryd.underlying24 HI.out.1 HI.out.2.1 HI.out.2.2.1 HI.out.2.2.2 rfl (.slice ao5 k cap5) (vals (upto k)) rfl HO16.out (.slice (some ⟨g16, 0, none⟩) 1 1) [(k : Int)] rfl HROW.out (by rw [vals_length, upto_length]; exact HWL.out.1) (by rw [vals_length, upto_length]; exact HWL.out.2) HBS.out ?_; intro v2 w17 ho _ ht hk; have HO17 := Lib.hid ho; have HT17 := Lib.hid ht; clear ho ht hk)
      go_roundg (n3 - (k + 1))
      case measure => omega
      case rel => exact ⟨k + 1, rfl, by omega, by go_num, Lib.hid (by rw [upto_succ, vals, List.map_append]; exact HO17.out), Lib.hid ((HBR.out.trans (HB16.out.mono HBR.out.size)).trans (HT17.out.below (B := w6.heap.size) (fun b hb => (HO16.out.block b (Option.mem_toList.1 hb)).1) HBS.out))⟩
    · have hkn : n3 = k := by omega
      subst hkn
      have k1 : decide ((n3 : Int) < (n3 : Int)) = false := decide_eq_false (Int.lt_irrefl _)
      have HAL := Lib.hid (show Reads wr (.slice ao5 n3 cap5) (upto n3) from Reads.of_owns HO.out)
      have CR1 := Lib.hid (fun wc (hb : Below W.heap.size W wc) (hw : Reads wc (.slice none 0 0) ([])) => show Calls Tryd.prog 9 #[trV t (.slice ai ni ci) (.slice ao no co) (.slice ac nc cc), stV ⟨t.start, shn, st, bk, me, ou, inn, rd, 0, cd⟩ (.slice so n1 sc) (.slice bo n2 bc) (.slice mo n3 mc), .slice none 0 0] wc (Runs (Ev.runT ([]) t ⟨t.start, shn, st, bk, me, ou, inn, rd, 0, cd⟩) wc) from
        run_any (s := ⟨t.start, shn, st, bk, me, ou, inn, rd, 0, cd⟩) ⟨_, _, _, rfl, HRS.out.below hb, HRB.out.below hb, HRM.out.below hb⟩ (HR.out.below hb) hw (wSz HRI.out.2.2 HRI.out.1 HRI.out.2.1 (by first | exact Nat.zero_le _ | (rw [upto_length]; exact HLE.out.2.2))) (wCM HCC.out) HCT.out.ins (HT.out.mono hb) (by rw [HNT.out.1, ← HNT.out.1]; exact Nat.le_trans (lightT_all HLT.out).1 (by decide)) (Nat.le_trans (lightT_all HLT.out).2.1 (by decide)) (fun o ho => ⟨Nat.le_trans ((lightT_all HLT.out).2.2.2 o ho).1 (by decide), Nat.le_trans ((lightT_all HLT.out).2.2.2 o ho).2 (by decide)⟩))
      have CR2 := Lib.hid (fun wc (hb : Below W.heap.size W wc) (hw : Reads wc (.slice ao5 n3 cap5) (upto n3)) => show Calls Tryd.prog 9 #[trV t (.slice ai ni ci) (.slice ao no co) (.slice ac nc cc), stV ⟨t.start, shn, st, bk, me, ou, inn, rd, 0, cd⟩ (.slice so n1 sc) (.slice bo n2 bc) (.slice mo n3 mc), .slice ao5 n3 cap5] wc (Runs (Ev.runT (upto n3) t ⟨t.start, shn, st, bk, me, ou, inn, rd, 0, cd⟩) wc) from
        run_any (s := ⟨t.start, shn, st, bk, me, ou, inn, rd, 0, cd⟩) ⟨_, _, _, rfl, HRS.out.below hb, HRB.out.below hb, HRM.out.below hb⟩ (HR.out.below hb) hw (wSz HRI.out.2.2 HRI.out.1 HRI.out.2.1 (by first | exact Nat.zero_le _ | (rw [upto_length]; exact HLE.out.2.2))) (wCM HCC.out) HCT.out.ins (HT.out.mono hb) (by rw [HNT.out.1, ← HNT.out.1]; exact Nat.le_trans (lightT_all HLT.out).1 (by decide)) (Nat.le_trans (lightT_all HLT.out).2.1 (by decide)) (fun o ho => ⟨Nat.le_trans ((lightT_all HLT.out).2.2.2 o ho).1 (by decide), Nat.le_trans ((lightT_all HLT.out).2.2.2 o ho).2 (by decide)⟩))
      have HTW := Lib.hid (runT_all (wat := upto n3) (t := t) (s := ⟨t.start, shn, st, bk, me, ou, inn, rd, 0, cd⟩) HRT.out HMY.out (by show st.length ≤ 10000; rw [HN.out.1]; have := HLE.out.1; omega) (by show bk.length ≤ 10000; rw [HN.out.2.1]; have := HLE.out.2.1; omega) (by show AllW _ me.length; rw [HN.out.2.2]; exact upto_all n3))
      have HK1 := Lib.hid (goI_kin [] t.last t.ins ⟨t.start, shn, st, bk, me, ou, inn, rd, 0, cd⟩ [])
      have HLN := Lib.hid (runT_lens (wat := []) (t := t) (s := ⟨t.start, shn, st, bk, me, ou, inn, rd, 0, cd⟩) (lightT_all HLT.out).2.2.2 (by show st.length ≤ 1000; rw [HN.out.1]; have := HLE.out.1; omega) (by show bk.length ≤ 1000; rw [HN.out.2.1]; have := HLE.out.2.1; omega))
      obtain ⟨r1, hr1⟩ : ∃ r, Ev.runT [] t ⟨t.start, shn, st, bk, me, ou, inn, rd, 0, cd⟩ = r := ⟨_, rfl⟩
      obtain ⟨r2, hr2⟩ : ∃ r, Ev.runT (upto n3) t ⟨t.start, shn, st, bk, me, ou, inn, rd, 0, cd⟩ = r := ⟨_, rfl⟩
      rw [hr1] at CR1 HTW HLN
      rw [hr2] at CR2 HTW
      clear hr1 hr2
      obtain ⟨m1, x1, p1, h1⟩ := r1
      obtain ⟨m2, x2, p2, h2⟩ := r2
      dsimp only at HTW HLN
      obtain rfl : h1 = false := HTW.out.1
      go_wp2_with (first
        | (refine ld_tr (by rfl) _ rfl gt rfl _ rfl HGR.out ?_)
        | (refine ld_state (by rfl) _ rfl gs rfl _ _ HXR.out rfl ?_))
      refine (CR1.out _ HWR.out (no_int _ none 0)).mono ?_
      rintro e w18 ⟨v, rfl, ⟨vs1, vb1, vm1, rfl, ho9⟩, hb9⟩
      have HO1 := Lib.hid ho9
      have HON1 := Lib.hid (And.intro (slice_one ho9.st.slice) (And.intro (slice_one ho9.bk.slice) (slice_one ho9.me.slice)))
      have BW1 := Lib.hid hb9
      obtain ⟨w19, g7, hw9, hg9, H9, B9, Z9⟩ := newBox w18 zero10 28
      obtain ⟨w110, g8, hw10, hg10, H10, B10, Z10⟩ := newBox w19 zero3 34
      have H9b := Lib.hid (boxOn H9.out B10.out)
      have NG1 := Lib.hid (show g7 < g8 ∧ w18.heap.size ≤ g7 from ⟨by rw [← Z10.out]; exact whole_lt H9.out, by rw [← Z9.out]; exact Nat.le_refl _⟩)
      clear ho9 hb9
      try dsimp only
      go_upto_region 12 with (first
        | (refine st_state (by rfl) _ _ rfl g7 _ rfl rfl _ _ H9b.out rfl rfl (all_one HON1.out.1 HON1.out.2.1 HON1.out.2.2) ?_; intro wx h15 t15; have H15x := Lib.hid h15; have T15 := Lib.hid t15; have H10c := Lib.hid (t15.whole H10.out (fun hm => by have h1 := List.mem_singleton.1 hm; have h2 := NG1.out.1; omega)); clear h15 t15)
        | (refine st_done (by rfl) _ _ rfl g8 #[.int .i64 x1, .int .i64 p1, .bool false] rfl rfl rfl _ rfl H10c.out (by simp [Value.oneCell']) ?_; intro w112 h16 t16; have H16 := Lib.hid h16; have T16 := Lib.hid t16; have H15b := Lib.hid (t16.whole H15x.out (fun hm => by have h1 := List.mem_singleton.1 hm; have h2 := NG1.out.1; omega)); clear h16 t16))
      have BF1 := Lib.hid (filled B9.out B10.out T15.out T16.out NG1.out.2 (Nat.le_trans NG1.out.2 (Nat.le_of_lt NG1.out.1)))
      have BX1 := Lib.hid (BW1.out.trans (BF1.out.mono BW1.out.size))
      have HA1 := Lib.hid H15b.out
      have HB1 := Lib.hid H16.out
      clear hw9 hg9 hw10 hg10 H9 B9 Z9 H10 B10 Z10 H9b H15x T15 H10c T16 H15b H16
      have HW1 := Lib.hid (HWR.out.trans (BX1.out.mono HWR.out.size))
      have HG1 := Lib.hid (boxOn HGR.out BX1.out)
      have HX1 := Lib.hid (boxOn HXR.out BX1.out)
      go_wp2_with (first
        | (refine ld_tr (by rfl) _ rfl gt rfl _ rfl HG1.out ?_)
        | (refine ld_state (by rfl) _ rfl gs rfl _ _ HX1.out rfl ?_))
      refine (CR2.out _ HW1.out (HAL.out.below BX1.out)).mono ?_
      rintro e w28 ⟨v, rfl, ⟨vs2, vb2, vm2, rfl, ho9⟩, hb9⟩
      have HO2 := Lib.hid ho9
      have HON2 := Lib.hid (And.intro (slice_one ho9.st.slice) (And.intro (slice_one ho9.bk.slice) (slice_one ho9.me.slice)))
      have BW2 := Lib.hid hb9
      obtain ⟨w29, g9, hw9, hg9, H9, B9, Z9⟩ := newBox w28 zero10 28
      obtain ⟨w210, g10, hw10, hg10, H10, B10, Z10⟩ := newBox w29 zero3 34
      have H9b := Lib.hid (boxOn H9.out B10.out)
      have NG2 := Lib.hid (show g9 < g10 ∧ w28.heap.size ≤ g9 from ⟨by rw [← Z10.out]; exact whole_lt H9.out, by rw [← Z9.out]; exact Nat.le_refl _⟩)
      clear ho9 hb9
      try dsimp only
      go_upto_region 13 with (first
        | (refine st_state (by rfl) _ _ rfl g9 _ rfl rfl _ _ H9b.out rfl rfl (all_one HON2.out.1 HON2.out.2.1 HON2.out.2.2) ?_; intro wx h15 t15; have H15x := Lib.hid h15; have T15 := Lib.hid t15; have H10c := Lib.hid (t15.whole H10.out (fun hm => by have h1 := List.mem_singleton.1 hm; have h2 := NG2.out.1; omega)); clear h15 t15)
        | (refine st_done (by rfl) _ _ rfl g10 #[.int .i64 x2, .int .i64 p2, .bool h2] rfl rfl rfl _ rfl H10c.out (by simp [Value.oneCell']) ?_; intro w212 h16 t16; have H16 := Lib.hid h16; have T16 := Lib.hid t16; have H15b := Lib.hid (t16.whole H15x.out (fun hm => by have h1 := List.mem_singleton.1 hm; have h2 := NG2.out.1; omega)); clear h16 t16))
      have BF2 := Lib.hid (filled B9.out B10.out T15.out T16.out NG2.out.2 (Nat.le_trans NG2.out.2 (Nat.le_of_lt NG2.out.1)))
      have BX2 := Lib.hid (BW2.out.trans (BF2.out.mono BW2.out.size))
      have HA2 := Lib.hid H15b.out
      have HB2 := Lib.hid H16.out
      clear hw9 hg9 hw10 hg10 H9 B9 Z9 H10 B10 Z10 H9b H15x T15 H10c T16 H15b H16
      have HW2 := Lib.hid (HW1.out.trans (BX2.out.mono HW1.out.size))
      have HX2 := Lib.hid (boxOn HX1.out BX2.out)
      have HA1' := Lib.hid (boxOn HA1.out BX2.out)
      have HB1' := Lib.hid (boxOn HB1.out BX2.out)
      have HM1 := Lib.hid (show ReadsM w212 (stV m1 vs1 vb1 vm1) m1 from (OwnsM.reads ⟨_, _, _, rfl, HO1.out⟩).below (BF1.out.trans (BX2.out.mono BF1.out.size)))
      have HM2 := Lib.hid (show ReadsM w212 (stV m2 vs2 vb2 vm2) m2 from (OwnsM.reads ⟨_, _, _, rfl, HO2.out⟩).below BF2.out)
      have HL1 := Lib.hid (show m1.mem.length = n3 from by rw [HTW.out.2.1]; exact HN.out.2.2)
      have HL2 := Lib.hid (show m2.mem.length = n3 from by rw [HTW.out.2.2.1]; exact HN.out.2.2)
      obtain ⟨mo1, mc1, em1⟩ := HO1.out.me.slice
      rw [vals_length, HL1.out] at em1
      obtain ⟨mo2, mc2, em2⟩ := HO2.out.me.slice
      rw [vals_length, HL2.out] at em2
      subst em1
      subst em2
      have HR2 := Lib.hid (show Reads w212 (.slice mo2 n3 mc2) m2.mem from by
        obtain ⟨_, _, _, e, -, -, h⟩ := HM2.out
        injection e with e
        injection e with e
        simp only [List.cons.injEq, Array.mk.injEq] at e
        obtain ⟨-, -, -, -, e, -⟩ := e
        rw [e]; exact h.1)
      have b82 : w212.cell? ⟨g8, 2, none⟩ = some (.bool false) := whole_cell HB1'.out rfl
      have b74 : w212.cell? ⟨g7, 4, none⟩ = some (.slice mo1 n3 mc1) := whole_cell HA1'.out rfl
      have b94 : w212.cell? ⟨g9, 4, none⟩ = some (.slice mo2 n3 mc2) := whole_cell HA2.out rfl
      have bs4 : w212.cell? ⟨gs, 4, none⟩ = some (.slice mo n3 mc) := whole_cell HX2.out rfl
      have hb7 : n3 ≤ 700 := HLE.out.2.2
      have d33 : decide (n3 = n3) = true := decide_eq_true rfl
      go_wp2_with fail
      clear b82 b74 b94 bs4 d33 k1
      go_loopg [11, 12] n3 (fun zz cv i wq => ∃ k : Nat, zz = n3 - k ∧ k ≤ n3 ∧ cv = .int .i64 ((diffs m2.mem me k : Nat) : Int) ∧ i = .int .i64 (k : Int) ∧ Hid (Below w212.heap.size w212 wq))
      case atStart => exact ⟨0, rfl, Nat.zero_le _, rfl, rfl, Lib.hid (Below.refl _ _)⟩
      case round =>
        obtain ⟨k, rfl, hk, rfl, rfl, HBQ⟩ := hrel
        have HXQ := Lib.hid (boxOn HX2.out HBQ.out)
        have HAQ := Lib.hid (boxOn HA2.out HBQ.out)
        have y4 : wr.cell? ⟨g9, 4, none⟩ = some (.slice mo2 n3 mc2) := whole_cell HAQ.out rfl
        have s4 : wr.cell? ⟨gs, 4, none⟩ = some (.slice mo n3 mc) := whole_cell HXQ.out rfl
        obtain ⟨D, hD⟩ : ∃ D, diffs m2.mem me k = D := ⟨_, rfl⟩
        have hDk : D ≤ k := by rw [← hD]; exact diffs_le _ _ _
        rw [hD]
        by_cases hlt : k < n3
        · obtain ⟨yv, hy⟩ : ∃ y, m2.mem[k]? = some y := ⟨_, List.getElem?_eq_getElem (by rw [HL2.out]; exact hlt)⟩
          obtain ⟨sv, hs⟩ : ∃ y, me[k]? = some y := ⟨_, List.getElem?_eq_getElem (by rw [HN.out.2.2]; exact hlt)⟩
          obtain ⟨ay, ey, cy⟩ := Ir.Reads.at' (HR2.out.below HBQ.out) hy
          obtain ⟨am, em, cm⟩ := Ir.Reads.at' (HRM.out.1.below (HW2.out.trans (HBQ.out.mono HW2.out.size))) hs
          subst ey
          subst em
          have k0 : (0 : Int) ≤ (k : Int) := Int.natCast_nonneg k
          have k1 : (k : Int) < (n3 : Int) := Int.ofNat_lt.2 hlt
          by_cases hd : yv = sv
          · as_aux_lemma =>
            have hd1 : diffs m2.mem me (k + 1) = D := by rw [diffs_eq hy hs hd, hD]
            have HD1 := Lib.hid hd1
            clear hd1 hD hy hs
            subst hd
            go_upto_region 21 with fail
            go_quiet (fail)
            go_wp2_with fail
            go_roundg (n3 - (k + 1))
            case measure => omega
            case rel => exact ⟨k + 1, rfl, by omega, by rw [HD1.out], by go_num, Lib.hid (HBQ.out.trans ((drewN1 _ _).mono HBQ.out.size))⟩
          · as_aux_lemma =>
            have e1 : decide (yv = sv) = false := decide_eq_false hd
            have e1' : (yv = sv) = False := eq_false hd
            have hd1 : diffs m2.mem me (k + 1) = D + 1 := by rw [diffs_ne hy hs hd, hD]
            have HD1 := Lib.hid hd1
            clear hd1 hD hy hs
            go_upto_region 21 with fail
            go_quiet (fail)
            go_wp2_with fail
            go_roundg (n3 - (k + 1))
            case measure => omega
            case rel => exact ⟨k + 1, rfl, by omega, by rw [HD1.out]; go_num, by go_num, Lib.hid (HBQ.out.trans ((drewN1 _ _).mono HBQ.out.size))⟩
        · have hkn : n3 = k := by omega
          subst hkn
          have k1 : decide ((n3 : Int) < (n3 : Int)) = false := decide_eq_false (Int.lt_irrefl _)
          have e102 : wr.cell? ⟨g10, 2, none⟩ = some (.bool h2) := whole_cell (boxOn HB2.out HBQ.out) rfl
          have HWQ := Lib.hid (HW2.out.trans (HBQ.out.mono HW2.out.size))
          rcases HTW.out.2.2.2 with ⟨eh, j, c, em⟩ | ⟨eh, er, em⟩
          · as_aux_lemma =>
            have eh : h2 = true := eh
            subst eh
            have hD1 : D ≤ 1 := by
              rw [← hD, em]
              have h := diffs_set me j c n3
              split at h <;> omega
            have e1 : decide ((D : Int) ≤ 1) = true := le1 hD1
            clear hD em hD1
            go_wp2_with fail
            go_ret
            exact ⟨rfl, HWQ.out⟩
          · as_aux_lemma =>
            injection er with er1 er2 er3 er4
            have hD0 : D = 0 := by rw [← hD, show m2.mem = me from em]; exact diffs_same _ _
            subst hD0
            subst er1 er2 er3 er4
            have CS := Lib.hid (sameState_any (HM1.out.below HBQ.out) (HM2.out.below HBQ.out) HLN.out.1 HLN.out.2 (by rw [HL1.out]; omega))
            have HA1q := Lib.hid (boxOn HA1'.out HBQ.out)
            have HA2q := Lib.hid (boxOn HA2.out HBQ.out)
            have x80 : wr.cell? ⟨g8, 0, none⟩ = some (.int .i64 x2) := whole_cell (boxOn HB1'.out HBQ.out) rfl
            have x81 : wr.cell? ⟨g8, 1, none⟩ = some (.int .i64 p2) := whole_cell (boxOn HB1'.out HBQ.out) rfl
            have x82 : wr.cell? ⟨g8, 2, none⟩ = some (.bool false) := whole_cell (boxOn HB1'.out HBQ.out) rfl
            have x90 : wr.cell? ⟨g10, 0, none⟩ = some (.int .i64 x2) := whole_cell (boxOn HB2.out HBQ.out) rfl
            have x91 : wr.cell? ⟨g10, 1, none⟩ = some (.int .i64 p2) := whole_cell (boxOn HB2.out HBQ.out) rfl
            clear hD em HTW
            go_wp2_with (first
              | (refine ld_state (by rfl) _ rfl g7 rfl _ _ HA1q.out rfl ?_)
              | (refine ld_state (by rfl) _ rfl g9 rfl _ _ HA2q.out rfl ?_)
              | (go_at_call 10; refine CS.out.mono ?_; rintro e wz ⟨rfl, hb⟩; have HBZ := Lib.hid (HWQ.out.trans (hb.mono HWQ.out.size)); clear hb))
            go_ret
            exact ⟨rfl, HBZ.out⟩
end Go.Proofs.YtgabemlehmhgpaaDoor.EvalWatched

namespace Go.Proofs.YtgabemlehmhgpaaDoor.evalWatched
open Mach Mem
open Go.ChangeShapes Go.WideShapes Go.ChangeAt Go.RowKit
set_option linter.unusedVariables false
set_option linter.unusedSimpArgs false

theorem own : ownKnob Tryd.prog.godebug = none := by kernel_rfl
theorem laidOut : laidOutB Tryd.prog = true := by kernel_rfl
abbrev laid : List (String × DataW Unit) := laidL
theorem laid_is : Rows.evalWatchedRow.laid = laid := rfl
set_option maxRecDepth 100000 in
theorem lifted (os : Os) (started : os.Started) (H : Type) (enc : TypeId × Value → H) :
    ReturnsInHanded {} Tryd.checked os 3 .any (fun w args => (Rows.evalWatchedSpec.pre enc Tryd.prog Tryd.f3 Rows.evalWatchedRow.domain false w args ∧ laidMetH Tryd.prog laid w) ∧ sizedMet enc Tryd.prog Tryd.f3 (OpenSpec.ofChange Rows.evalWatchedSpec) false w args)
      (Rows.evalWatchedSpec.post enc Tryd.prog Tryd.f3 false true false false) := by
  refine returnsInHanded_of_change_and (C := Tryd.checked) (X := fun w _ => laidMetH Tryd.prog laid w) (fun _ _ _ hh h => h.of_heap hh) own started (by kernel_rfl) Tryd.func3
    (witness_ref (enc := enc) (C := Tryd.checked) (os := os) (X := fun w _ => laidMetH Tryd.prog laid w) false (laidWorld os) #[.agg #[.int .i64 0, .int .i64 0, .int .i64 0, .int .i64 0, .int .i64 0, .slice none 0 0, .slice none 0 0, .int .i64 0, .slice none 0 0], .agg #[.int .i64 0, .int .i64 0, .slice none 0 0, .slice none 0 0, .slice none 0 0, .string ⟨#[]⟩, .string ⟨#[]⟩, .int .i64 0, .int .i64 0, .int .i64 0]] 8 rfl (by kernel_rfl) (by kernel_rfl) (by kernel_rfl) (by kernel_rfl) (by kernel_rfl) (laidWorld_met os _)) ?_
  intro W base args ds gs before hval0 hW _ _ hL _
  have hval : ∀ (j : Nat) t v, Tryd.f3.params[j]? = some t → args[j]? = some v → Value.okWide Tryd.prog W .any base t v := hval0
  have hW' := hW
  obtain ⟨p, q, hA0, hV, rfl, hfz, hnd⟩ := hW
  have hA : DataW.TrodAll enc Tryd.prog W 0 (fun _ => true) true Tryd.f3.params.toList args.toList ds p := hA0
  rw [Tryd.params3] at hA hval
  obtain ⟨v0, vs0, d0, ds0, p0, q0, hargs, rfl, rfl, h0, r0⟩ := trodAll_cons hA
  obtain ⟨v1, vs1, d1, ds1, p1, q1, rfl, rfl, rfl, h1, r1⟩ := trodAll_cons r0
  obtain ⟨rfl, rfl, rfl⟩ := trodAll_nil r1
  obtain rfl : args = #[v0, v1] := by cases args; simp_all
  obtain ⟨rfl, rfl⟩ := trodVars_none hV
  obtain ⟨xs0, l0⟩ := Ir.traceArgOf (hval 0 26 v0 rfl rfl) h0
  obtain ⟨xs1, l1⟩ := stateOf (hval 1 28 v1 rfl rfl) h1
  clear hA0 hval0
  simp only [List.append_nil] at hW'
  have hlt0 : ∀ x ∈ p0, x.block < W.heap.size := fun x hx => by simpa using hW'.lt x (by simp [hx])
  have hlt1 : ∀ x ∈ p1, x.block < W.heap.size := fun x hx => by simpa using hW'.lt x (by simp [hx])
  refine (EvalWatched.main v0 xs0 v1 xs1 W l0 l1 (Ev.tabs_of hL)).mono fun e W' ⟨he, hg⟩ => ?_
  subst he
  exact ⟨_, rfl, _, _, _, [], _, [], hW', (trodAll_cons_mk (shut_bool Tryd.underlying4 _) trodAll_mk0), (trodAll_cons_mk (Below.trod laidOut (by kernel_rfl) (of_decide_eq_true (by kernel_rfl)) h0 hg hlt0) (trodAll_cons_mk (Below.trod laidOut (by kernel_rfl) (of_decide_eq_true (by kernel_rfl)) h1 hg hlt1) trodAll_mk0)), rfl, hg.frame _, fun h => by cases h⟩

theorem over : Rows.evalWatchedRow.holds Tryd.pinned (OpenSpec.ofChange Rows.evalWatchedSpec) :=
  OpenClaim.holds_of_wide 3 Tryd.f3 rfl rfl rfl rfl rfl rfl rfl ⟨rfl, rfl, rfl, rfl, rfl⟩ rfl rfl rfl rfl rfl (by kernel_rfl) Tryd.func3 (by kernel_rfl)
    (of_decide_eq_true (by kernel_rfl)) (by unfold Func.isWrapper; first | (rw [if_pos (by decide +kernel)]; kernel_rfl) | (rw [if_neg (by decide +kernel)]; exact ⟨rfl, rfl⟩))
    (fun os started H enc _ => lifted os started H enc)

theorem proved : Rows.EvalWatchedCardSaid :=
  Claim7.holds_tied_plain_at .later [] Rows.evalWatchedCard.laidKinds true Rows.evalWatchedCard.stood.harness Rows.evalWatchedCard.stood.looks
    over (fun _ h => by cases h) (by kernel_rfl) (fun _ h => by cases h) evalWatched_row_tie rfl ⟨rfl, rfl⟩ (by kernel_rfl) rfl
    (fun f fn hf hfn => by
      obtain rfl : f = 3 := Option.some.inj ((show Tryd.prog.funcNamed "holloway/hollowaylaw15.EvalWatched" = some 3 by kernel_rfl).symm.trans hf) |>.symm
      obtain rfl : fn = Tryd.f3 := (Option.some.inj (Tryd.func3.symm.trans hfn)).symm
      exact ⟨by kernel_rfl, fun j t ht => by
        rw [Tryd.params3] at ht
        have hm : t ∈ [26, 28] := by
          rcases Array.mem_of_getElem? ht with h
          simpa using h
        simp only [List.mem_cons, List.not_mem_nil, or_false] at hm
        rcases hm with rfl | rfl
        · exact (show Tryd.prog.wantsStandIn 26 = false by kernel_rfl)
        · exact (show Tryd.prog.wantsStandIn 28 = false by kernel_rfl)⟩)
    (by kernel_rfl)
#print axioms proved
end Go.Proofs.YtgabemlehmhgpaaDoor.evalWatched
