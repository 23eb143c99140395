/- Package inner: steps, as long as there is fuel. -/
import Derived.Test.YtlomfmilohbgpaaGreatDoorK4
import Derived.Laws.ResultCell
import Derived.Deep.LoopGhost
import Derived.Deep.DeepCutAuto
import Derived.Deep.RegionHeld3
import Derived.Test.YtlomfmilohbgpaaGreatDoorBookInts
import Derived.Deep.RegionLaw
import Derived.Deep.AppendLies
import Derived.Deep.DrawnRows
import Derived.Test.YtlomfmilohbgpaaGreatDoorVals
import Derived.Test.YtlomfmilohbgpaaGreatDoorRefCopy
import Derived.Deep.RegionWith
import Derived.Deep.QuietTactic
import Derived.BigQuiet
import Derived.LaidLaws
import Derived.LaidHandle
import Derived.Lib.LaidTab
import Derived.Lib.LaidIn
import Derived.Lib.LaidCaseMet
import Derived.PinnedBridge
import Derived.ChangeVars
import Derived.Handed
import Derived.Deep.DeepWitnessRef
import Derived.ProofKit
import Derived.ChangeSlices
import Derived.Test.YtlomfmilohbgpaaGreatDoorMachMem
import Derived.Deep.Slices
import Derived.Test.YtlomfmilohbgpaaGreatDoorK2
import Derived.Test.YtlomfmilohbgpaaGreatDoorK3
import Derived.Test.YtlomfmilohbgpaaGreatDoorOpPlain
import Derived.Test.YtlomfmilohbgpaaGreatDoorRefMach
import Derived.Test.YtlomfmilohbgpaaGreatDoorK1
namespace Go.Proofs.YtlomfmilohbgpaaGreatDoor.Inn
open Go.RowKit Book Mem Mach
set_option linter.unusedVariables false
set_option linter.unusedSimpArgs false
theorem results_state_tmp {fn : Func} {p u : Tmp} {ty : TypeId} {P : Program} (h : fn.results = #[.cell p ty, .tmp u]) (tmps : Array Value) (w : World) (g : Nat) (cs : Array Value)
    (hp : tmps.getD p undef = .pointer (some ⟨g, 0, none⟩)) (hl : (loadVar ty ⟨g, 0, none⟩).run P w = .ok (.agg cs) w) :
    (results fn tmps).run P w = .ok (.tuple #[.agg cs, tmps.getD u undef]) w := by
  rw [results_cell_tmp h, hp]
  simp [asAddr, Result.andThen, hl]
/-- run with whatever fuel -/
def runI (m : M) (f : Int) : M × Int := if f < 0 then (m, f) else ((Mach.run f.toNat m).1, ((Mach.run f.toNat m).2 : Int))
theorem runI_nat (m : M) (n : Nat) : runI m (n : Int) = ((Mach.run n m).1, ((Mach.run n m).2 : Int)) := by
  unfold runI
  rw [if_neg (by omega), Int.toNat_natCast]
theorem runI_neg {m : M} {f : Int} (h : f < 0) : runI m f = (m, f) := if_pos h
/-- what a run answers -/
def Ran (w : World) (r : M × Int) (e : Ending) (w' : World) : Prop := ∃ v, e = .returned (.tuple #[v, .int .i64 r.2]) ∧ OwnsM w' w.heap.size v r.1 ∧ Below w.heap.size w w'
theorem run_go {n : Nat} {s : M} (h : s.status = 0) : Mach.run (n + 1) s = Mach.run n (Mach.step s) := by
  conv => lhs; unfold Mach.run
  rw [if_pos h]
/-- what is told at the end -/
theorem OwnsL.far {w wr wn wf : World} {r : Nat} {v1 v2 v3 : Value} {m : M} (hbw : Below w.heap.size w wr) (hr : w.heap.size ≤ r) (hrl : r < wr.heap.size) (hb : Below wr.heap.size wr wn) (ho : OwnsL wn wr.heap.size v1 v2 v3 m) (ht : Stirred wn wf [r]) :
    OwnsL wf w.heap.size v1 v2 v3 m ∧ Below w.heap.size w wf := by
  have hl := fun {v : Value} {xs : List Int} (h : Owns wn wr.heap.size 3 v (vals xs)) => (h.touch ht (fun k hk hm => by rw [List.mem_singleton] at hm; have := (h.block k hk).1; omega)).from hbw.size
  exact ⟨⟨hl ho.st, hl ho.bk, hl ho.me, ho.sb, ho.bm⟩, (hbw.trans (hb.mono hbw.size)).trans (ht.below (fun k hk => by rw [List.mem_singleton.1 hk]; exact hr) (Nat.le_trans hbw.size hb.size))⟩
theorem ran_end {w wr wn wf : World} {r n k : Nat} {v1 v2 v3 : Value} {m m1 : M} (hst : Mach.run n m = (m1, k)) (hbw : Below w.heap.size w wr) (hr : w.heap.size ≤ r) (hrl : r < wr.heap.size) (hb : Below wr.heap.size wr wn) (ho : OwnsL wn wr.heap.size v1 v2 v3 m1) (ht : Stirred wn wf [r]) :
    Ran w ((Mach.run n m).1, ((Mach.run n m).2 : Int)) (.returned (.tuple #[stV m1 v1 v2 v3, .int .i64 (k : Int)])) wf := by
  have h := OwnsL.far hbw hr hrl hb ho ht
  rw [hst]
  exact ⟨_, rfl, ⟨v1, v2, v3, rfl, h.1⟩, h.2⟩
set_option maxHeartbeats 16000000 in
set_option maxRecDepth 100000 in
theorem innRun_nat {w : World} {v : Value} {m : M} (h : ReadsM w v m) (hr : Right m) (hc : Cells m) (hin : m.inp.size ≤ maxLen) (hE : ∀ wc, Below w.heap.size w wc → Tabs wc) (n : Nat) (hn : n ≤ 9223372036854775807) :
    Calls Tryz.prog 23 #[v, .int .i64 n] w (Ran w (runI m n)) := by
  rw [runI_nat]
  have HV := Lib.hid h
  obtain ⟨vs, vb, vm, rfl, hs, hb, hm⟩ := h
  obtain ⟨w1, w2, g, r, hw1, hw2, hg, hr', HG, HR, HB0, HZ, HW⟩ := two_boxes w (cells10 m.ip m.handler vs vb vm m.out m.inp m.read m.status m.code)
  have HBW := Lib.hid (show Below w.heap.size w w2 by have := HB0.out; rw [← HW.out] at this; exact this)
  have HRC := Lib.hid (And.intro hr (And.intro hc hin))
  have HE := Lib.hid hE
  have O := Lib.hid (open_any (HV.out.below HBW.out) hr)
  clear hs hb hm hr hc hin hE
  go_enter Tryz.func23, Tryz.ntmps23
  go_upto_region 1 with fail
  clear hw1 hw2 hg hr'
  go_wp2_with (refine ld_state (by rfl) _ rfl _ rfl _ _ HG.out rfl ?_)
  refine O.out.mono ?_
  rintro e w3 ⟨q, F, rfl, hMk, hb⟩
  have HMK := Lib.hid hMk
  have HB3 := Lib.hid hb
  obtain ⟨B, hB⟩ : ∃ B, w2.heap.size = B := ⟨_, rfl⟩
  have HBB := Lib.hid hB
  rw [hB] at HMK HB3
  have HEB := Lib.hid (fun wr (hbr : Below B w3 wr) wc (hbc : Below B wr wc) => HE.out wc (HBW.out.trans (((HB3.out.trans hbr).trans hbc).mono (by have := HBW.out.size; have := HBB.out; omega))) : ∀ wr, Below B w3 wr → ∀ wc, Below B wr wc → Tabs wc)
  clear hMk hb O HG hB
  go_wp2_with fail
  go_loopg [1] n (fun z f wr => ∃ (k : Nat) (F : List Nat) (m1 : M), k = z ∧ k ≤ n ∧ f = .int .i64 k ∧ Hid (Mk wr B q F m1) ∧ Hid (Below B w3 wr) ∧ Hid (Mach.run k m1 = Mach.run n m) ∧ Hid (Right m1) ∧ Hid (Cells m1) ∧ Hid (m1.inp = m.inp))
  case atStart => exact ⟨n, F, m, rfl, Nat.le_refl _, rfl, HMK, Below.refl _ _, rfl, HRC.out.1, HRC.out.2.1, rfl⟩
  case round =>
    obtain ⟨k, F1, m1, rfl, hk, rfl, HMK, HBR, HRN, HR1, HC1, HI1⟩ := hrel
    obtain ⟨ps, gs, pb, gb, pf, vC, vH, ch, vs1, vb1, vm1, -, hM⟩ := HMK.out
    have c8 : wr.cell? ⟨q, 8, none⟩ = some (.int .i64 m1.status) := whole_cell hM.box rfl
    have HBsz := Lib.hid (show B ≤ wr.heap.size from Nat.le_trans (by have := HB3.out.size; have := HBB.out; omega) HBR.out.size)
    clear hM
    by_cases hgo : m1.status = 0 ∧ 0 < k
    · obtain ⟨h0, hk0⟩ := hgo
      obtain ⟨k', rfl⟩ : ∃ k', k = k' + 1 := ⟨k - 1, by omega⟩
      have S := Lib.hid (step_any HMK.out HBsz.out HR1.out HC1.out (by rw [HI1.out]; exact HRC.out.2.2) (HEB.out wr HBR.out) h0)
      have HRN2 := Lib.hid (show Mach.run k' (Mach.step m1) = Mach.run n m by rw [← HRN.out, run_go h0])
      have HR2 := Lib.hid (step_right HR1.out)
      have HC2 := Lib.hid (step_cells HR1.out HC1.out)
      have HI2 := Lib.hid (show (Mach.step m1).inp = m.inp by rw [step_inp, HI1.out])
      rw [h0] at c8
      clear h0 HRN HR1 HC1 HI1
      go_wp2_with fail
      refine S.out.mono ?_
      rintro e wn ⟨F2, rfl, hMk, hb⟩
      have HMK := Lib.hid hMk
      have HBR := Lib.hid (HBR.out.trans hb)
      clear hMk hb S c8
      go_wp2
      go_roundg k'
      case measure => omega
      case rel => exact ⟨k', F2, _, rfl, by omega, by go_num, HMK, HBR, HRN2, HR2, HC2, HI2⟩
    · have HST := Lib.hid (show Mach.run n m = (m1, k) by
        rw [← HRN.out]
        by_cases h0 : m1.status = 0
        · obtain rfl : k = 0 := by
            rcases Nat.eq_zero_or_pos k with e | e
            · exact e
            · exact absurd ⟨h0, e⟩ hgo
          rfl
        · exact run_still h0 k)
      have C := Lib.hid (state_any HMK.out)
      have HRR := Lib.hid ((Stirred.of_below (HB3.out.trans HBR.out |>.mono (Nat.le_of_eq HBB.out) : Below w2.heap.size w2 wr) []).whole HR.out List.not_mem_nil)
      have HBWR := Lib.hid (show Below w.heap.size w wr from HBW.out.trans (((HB3.out.trans HBR.out)).mono (by have := HBW.out.size; have := HBB.out; omega)))
      have HGE := Lib.hid (show w.heap.size ≤ r by have := HW.out; have := HZ.out; omega)
      obtain ⟨st1, hst1⟩ : ∃ z, m1.status = z := ⟨_, rfl⟩
      rw [hst1] at c8 hgo
      clear HRN HR1 HC1 HI1 HMK hst1
      by_cases h0 : st1 = 0
      · have hk1 : ¬ (0 : Int) < (k : Int) := by omega
        subst h0
        clear hgo
        go_wp2_with fail
        refine C.out.mono ?_
        rintro e wn ⟨v, rfl, ho, hb⟩
        obtain ⟨v1, v2, v3, rfl, hol⟩ := ho
        have HRX := Lib.hid ((Stirred.of_below hb []).whole HRR.out List.not_mem_nil)
        have HOL := Lib.hid hol
        have HBN := Lib.hid hb
        clear hol hb C c8
        go_wp2_with (refine st_state (by rfl) _ _ rfl r _ rfl rfl _ _ HRX.out rfl rfl (all_one (slice_one HOL.out.st.slice) (slice_one HOL.out.bk.slice) (slice_one HOL.out.me.slice)) ?_; intro wf hrf htf; have HRF := Lib.hid hrf; have HTF := Lib.hid htf; clear hrf htf)
        refine bodyPost_ret (results_state_tmp rfl _ _ r _ rfl (load_state HRF.out rfl)) rfl ?_
        exact ran_end HST.out HBWR.out HGE.out (whole_lt HRR.out) HBN.out HOL.out HTF.out
      · have h1 : (st1 == 0) = false := by simpa using h0
        clear hgo h0
        go_wp2_with fail
        refine C.out.mono ?_
        rintro e wn ⟨v, rfl, ho, hb⟩
        obtain ⟨v1, v2, v3, rfl, hol⟩ := ho
        have HRX := Lib.hid ((Stirred.of_below hb []).whole HRR.out List.not_mem_nil)
        have HOL := Lib.hid hol
        have HBN := Lib.hid hb
        clear hol hb C c8
        go_wp2_with (refine st_state (by rfl) _ _ rfl r _ rfl rfl _ _ HRX.out rfl rfl (all_one (slice_one HOL.out.st.slice) (slice_one HOL.out.bk.slice) (slice_one HOL.out.me.slice)) ?_; intro wf hrf htf; have HRF := Lib.hid hrf; have HTF := Lib.hid htf; clear hrf htf)
        refine bodyPost_ret (results_state_tmp rfl _ _ r _ rfl (load_state HRF.out rfl)) rfl ?_
        exact ran_end HST.out HBWR.out HGE.out (whole_lt HRR.out) HBN.out HOL.out HTF.out
end Go.Proofs.YtlomfmilohbgpaaGreatDoor.Inn
/- Package inner: a machine that has done nothing; a step; beginning a word; a fault; which may be; copying. -/
namespace Go.Proofs.YtlomfmilohbgpaaGreatDoor.Inn
open Go.RowKit Book Mem Mach
set_option linter.unusedVariables false
set_option linter.unusedSimpArgs false
/-- a cell of the beginning, the first o operations being there -/
def bootCell (o k : Nat) : Int := if 64 ≤ k ∧ k < 64 + 2 * o then (if k % 2 = 0 then ((k - 64) / 2 : Nat) else 5) else if k = 1 then 1 else 0
def bootMem (o n : Nat) : List Int := (List.range n).map (bootCell o)
theorem bootMem_length (o n : Nat) : (bootMem o n).length = n := by simp [bootMem]
theorem bootMem_at (o n k : Nat) : (bootMem o n)[k]? = if k < n then some (bootCell o k) else none := by
  unfold bootMem
  rw [List.getElem?_map]
  by_cases h : k < n
  · rw [if_pos h, List.getElem?_range h]; rfl
  · rw [if_neg h, List.getElem?_eq_none (by simpa using h)]; rfl
theorem boot_start (n : Nat) : ((List.replicate n (0 : Int)).set 0 0).set 1 1 = bootMem 0 n := by
  apply List.ext_getElem?
  intro k
  rw [bootMem_at, List.getElem?_set, List.getElem?_set, List.getElem?_replicate, List.length_set, List.length_replicate]
  unfold bootCell
  repeat' split
  all_goals first | rfl | (exfalso; omega) | (congr 1; omega)
theorem boot_next (o n : Nat) : ((bootMem o n).set (64 + 2 * o) (o : Int)).set (64 + 2 * o + 1) 5 = bootMem (o + 1) n := by
  apply List.ext_getElem?
  intro k
  rw [bootMem_at, List.getElem?_set, List.getElem?_set, bootMem_at, List.length_set, bootMem_length]
  unfold bootCell
  repeat' split
  all_goals first | rfl | (exfalso; omega) | (congr 1; omega)
/-- a machine that has done nothing -/
def bootM (n : Nat) (inp : ByteArray) : M := ⟨0, 0, [], [], bootMem 48 n, ⟨#[]⟩, inp, 0, 1, 0⟩
section
variable {w : World} {B p : Nat} {vC vH : Value} {cs ch : List Int}
/-- a store, whether or not there is such a cell -/
def Sto (w : World) (B p : Nat) (vC : Value) (cs : List Int) (e : Ending) (w' : World) : Prop := ∃ b vH' ch', e = .returned (.bool b) ∧ Fld.Mem.FieldAt w' B p vC vH' cs ch' ∧ Below B w w'
theorem store_what (h : Fld.Mem.FieldAt w B p vC vH cs ch) (hB : B ≤ w.heap.size) (j : Nat) (v : Int) : Calls Tryz.prog 103 #[.pointer (some ⟨p, 0, none⟩), .int .i64 j, .int .i64 v] w (Sto w B p vC (cs.set j v)) := by
  by_cases hj : j < cs.length
  · refine (Fld.store_yes h hB j v hj).mono ?_
    rintro e w' ⟨vH', he, hF, hS, -⟩
    exact ⟨true, vH', _, he, hF, hS.below (fun k hk => (h.foot_lt k hk).1) hB⟩
  · refine (Fld.store_no h j v (by omega)).mono ?_
    rintro e w' ⟨he, rfl⟩
    rw [List.set_eq_of_length_le (by omega)]
    exact ⟨false, vH, ch, he, h, Below.refl _ _⟩
end
end Go.Proofs.YtlomfmilohbgpaaGreatDoor.Inn
/- Package inner: copying; beginning a word. -/
namespace Go.Proofs.YtlomfmilohbgpaaGreatDoor.Inn
open Go.RowKit Book Mem Mach
set_option linter.unusedVariables false
set_option linter.unusedSimpArgs false
set_option maxHeartbeats 4000000 in
set_option maxRecDepth 100000 in
/-- slices.Clone of a list wherever it lies -/
theorem clone_reads {w : World} {v : Value} {xs : List Int} (h : ReadsC w v xs) (hl : xs.length ≤ 10000) :
    Calls Tryz.prog 71 #[v] w fun e w' => ∃ c, e = .returned c ∧ Owns w' w.heap.size 3 c (vals xs) ∧ Below w.heap.size w w' := by
  obtain ⟨i0, q1, q2, q3, q4⟩ := info_parts Tryz.bkIntInfo
  have HI := Lib.hid (And.intro q1 (And.intro q2 (And.intro q3 q4)))
  have HR := Lib.hid h.1
  obtain ⟨ao, c, rfl, hc⟩ := h.2
  cases ao with
  | none =>
    have hx : xs = [] := by
      cases xs with
      | nil => rfl
      | cons x r =>
        obtain ⟨ao', c', e, hcell⟩ := h.1
        simp only [Value.slice.injEq] at e
        obtain ⟨a, ha, _⟩ := hcell 0 x rfl
        rw [← e.1] at ha
        cases ha
    subst hx
    exact (Tryz.slices_Clone_int_nil 0 c w).mono fun e w' ⟨h1, h2⟩ => by subst h2; exact ⟨_, h1, Owns.nil _ _ _, Below.refl _ _⟩
  | some ad =>
    obtain ⟨n, hn⟩ : ∃ n, xs.length = n := ⟨_, rfl⟩
    rw [hn] at hc HR
    have HN := Lib.hid hn
    have HL := Lib.hid hl
    rw [hn]
    clear h q1 q2 q3 q4 hn hl
    have hne := Lib.run_eql_slice_some_nil (P := Tryz.prog) w ad n c Tryz.underlying22
    go_enter Tryz.func71, Tryz.ntmps71
    have HB1 := Lib.hid ((Below.refl w.heap.size w).alloc (Nat.le_refl _) (.cells #[] 3))
    go_wp2_with (refine wpList_append_reads _ rfl _ _ 22 rfl w.heap.size 3 i0 (.int .i64 0) 8 Tryz.underlying22 HI.out.1 HI.out.2.1 HI.out.2.2.1 HI.out.2.2.2 rfl (.slice (some ⟨w.heap.size, 0, none⟩) 0 0) [] rfl (Owns.empty _ _ _ _) (.slice (some ad) n c) xs rfl (HR.out.below HB1.out) (by have := HL.out; unfold maxLen; simp; omega) (by have := HL.out; simp; omega) HB1.out.size ?_; intro v1 w2 ho _ ht _; have HO := Lib.hid (show Owns w2 w.heap.size 3 v1 (vals xs) from ho); have HT := Lib.hid (HB1.out.trans (ht.below (fun k hk => by simp [blk] at hk) HB1.out.size)); obtain ⟨a1, c1, e1⟩ := HO.out.slice; rw [vals_length] at e1; subst e1; clear ho ht)
    go_ret
    exact ⟨_, rfl, HO.out, HT.out⟩
theorem SS.six {w : World} {s r : Nat} {m : M} {vs vb vm : Value} {st bk me : List Int} {o1 o2 o3 : Option Value} {wc : World} (h : SS w s r (cells10 m.ip m.handler vs vb vm m.out m.inp m.read m.status m.code) st bk me o1 o2 o3 wc) :
    wc.cell? ⟨s, 2, none⟩ = some vs ∧ wc.cell? ⟨s, 3, none⟩ = some vb ∧ wc.cell? ⟨s, 4, none⟩ = some vm ∧ wc.frozen? ⟨s, 2, none⟩ = false ∧ wc.frozen? ⟨s, 3, none⟩ = false ∧ wc.frozen? ⟨s, 4, none⟩ = false :=
  ⟨whole_cell h.hs rfl, whole_cell h.hs rfl, whole_cell h.hs rfl, whole_frozen h.hs 2, whole_frozen h.hs 3, whole_frozen h.hs 4⟩
end Go.Proofs.YtlomfmilohbgpaaGreatDoor.Inn
/- One list of texts more. -/
namespace Go.Proofs.YtlomfmilohbgpaaGreatDoor
open Go.RowKit Book
set_option linter.unusedSimpArgs false
set_option linter.unusedVariables false
end Go.Proofs.YtlomfmilohbgpaaGreatDoor
/- hollowaybook over lists that came in: lent, held against one's own. -/
namespace Go.Proofs.YtlomfmilohbgpaaGreatDoor
open Go.RowKit Book Mem
set_option linter.unusedSimpArgs false
set_option linter.unusedVariables false
/-- a list with room behind it, in which a mark stands -/
def Lent (w : World) (B g cap : Nat) (l : List Int) : Prop := Owns w B 3 (.slice (some ⟨g, 0, none⟩) (l.length + 1) cap) (vals (l ++ [-77]))
theorem Lent.owns {w : World} {B g cap : Nat} {l : List Int} (h : Lent w B g cap l) : Owns w B 3 (.slice (some ⟨g, 0, none⟩) l.length cap) (vals l) := by
  have := owns_shorter (m := l.length) h (by simp)
  rw [List.take_left] at this
  exact this
theorem Lent.blk {w : World} {B g cap : Nat} {l : List Int} (h : Lent w B g cap l) : Book.blk (.slice (some ⟨g, 0, none⟩) (l.length + 1) cap) = some g ∧ l.length + 1 ≤ cap := by
  obtain ⟨g', c', e, _, _, hl⟩ := h.row (by rw [vals_length]; simp)
  rw [vals_length] at e hl
  simp only [Value.slice.injEq, Option.some.injEq, Addr.mk.injEq, and_true, List.length_append, List.length_cons, List.length_nil] at e hl
  have : l.length + 1 ≤ cap := by omega
  exact ⟨blk_pos (by omega), this⟩
theorem Lent.touch {w w' : World} {B g cap : Nat} {l : List Int} {bs : List Nat} (h : Lent w B g cap l) (ht : Stirred w w' bs) (hn : g ∉ bs) : Lent w' B g cap l :=
  Owns.touch h ht (fun k hk => by rw [h.blk.1] at hk; simp at hk; subst hk; exact hn)
end Go.Proofs.YtlomfmilohbgpaaGreatDoor
/- A book that keeps machines; machines that are lent, held against each other. -/
namespace Go.Proofs.YtlomfmilohbgpaaGreatDoor.Mach
open Go.RowKit Book Mem
set_option linter.unusedVariables false
set_option linter.unusedSimpArgs false
/-- a list that came in, or a row of one's own -/
def L (W w : World) (B : Nat) (v : Value) (xs : List Int) : Prop := ReadsC W v xs ∨ Owns w B 3 v (vals xs)
theorem L.reads {W w : World} {B : Nat} {v : Value} {xs : List Int} (h : L W w B v xs) (hb : Below W.heap.size W w) : ReadsC w v xs := by
  rcases h with h | h
  · exact h.below hb
  · exact ReadsC.of_owns h
theorem L.below {W w w' : World} {B : Nat} {v : Value} {xs : List Int} (h : L W w B v xs) (hb : Below w.heap.size w w') : L W w' B v xs := by
  rcases h with h | h
  · exact .inl h
  · exact .inr (h.below hb)
/-- a machine of such lists -/
def LM (W w : World) (B : Nat) (v : Value) (m : M) : Prop := ∃ vs vb vm, v = stV m vs vb vm ∧ L W w B vs m.stack ∧ L W w B vb m.back ∧ L W w B vm m.mem
theorem LM.reads {W w : World} {B : Nat} {v : Value} {m : M} (h : LM W w B v m) (hb : Below W.heap.size W w) : ReadsM w v m := by
  obtain ⟨vs, vb, vm, e, h1, h2, h3⟩ := h
  exact ⟨vs, vb, vm, e, h1.reads hb, h2.reads hb, h3.reads hb⟩
theorem LM.below {W w w' : World} {B : Nat} {v : Value} {m : M} (h : LM W w B v m) (hb : Below w.heap.size w w') : LM W w' B v m := by
  obtain ⟨vs, vb, vm, e, h1, h2, h3⟩ := h
  exact ⟨vs, vb, vm, e, h1.below hb, h2.below hb, h3.below hb⟩
theorem LM.of_owns {W w : World} {B B' : Nat} {v : Value} {m : M} (h : OwnsM w B v m) (hB : B' ≤ B) : LM W w B' v m := by
  obtain ⟨vs, vb, vm, e, h1⟩ := h
  exact ⟨vs, vb, vm, e, .inr (h1.st.from hB), .inr (h1.bk.from hB), .inr (h1.me.from hB)⟩
theorem LM.of_reads {W : World} (B : Nat) {v : Value} {m : M} (h : ReadsM W v m) : LM W W B v m := by
  obtain ⟨vs, vb, vm, e, h1, h2, h3⟩ := h
  exact ⟨vs, vb, vm, e, .inl h1, .inl h2, .inl h3⟩
/-- what a call answers: a machine of such lists -/
def TellsL (W : World) (B : Nat) (m : M) (w : World) (e : Ending) (w' : World) : Prop := ∃ v, e = .returned v ∧ LM W w' B v m ∧ Below w.heap.size w w'
/-- a book that keeps lists of ints alone -/
def bookArr9 (vS vW : Value) : Array Value := #[.slice none 0 0, .slice none 0 0, vS, vW, .slice none 0 0, .slice none 0 0, .slice none 0 0, .slice none 0 0, .slice none 0 0, .slice none 0 0, .slice none 0 0, .slice none 0 0]
end Go.Proofs.YtlomfmilohbgpaaGreatDoor.Mach
/- The document's own machine (chapter 9): beginning a word; a fault. -/
namespace Go.Proofs.YtlomfmilohbgpaaGreatDoor.Mach
open Go.RowKit Book Mem
set_option linter.unusedVariables false
set_option linter.unusedSimpArgs false
/-- what is written into a state's box leaves rows of numbers as they were -/
theorem own_box {w w' : World} {g B : Nat} {v : Value} {xs : List Value} {cs : Array Value} (h : Owns w B 3 v xs) (hs : Stirred w w' [g]) (hg : w.heap[g]? = some (.cells cs 24 (0, 0))) : Owns w' B 3 v xs :=
  h.touch hs (fun k hk hm => by
    rw [List.mem_singleton] at hm
    subst hm
    obtain ⟨_, _, c, hc⟩ := h.block k hk
    rw [hg] at hc
    simp only [Option.some.injEq, Obj.cells.injEq] at hc
    exact absurd hc.2.1 (by decide))
theorem L.box {W w w' : World} {g B : Nat} {v : Value} {xs : List Int} {cs : Array Value} (h : L W w B v xs) (hs : Stirred w w' [g]) (hg : w.heap[g]? = some (.cells cs 24 (0, 0))) : L W w' B v xs := by
  rcases h with h | h
  · exact .inl h
  · exact .inr (own_box h hs hg)
theorem L.one {W w : World} {B : Nat} {v : Value} {xs : List Int} (h : L W w B v xs) : v.oneCell' = true := by
  rcases h with h | h
  · obtain ⟨_, ao, c, e, _⟩ := h
    exact slice_one ⟨ao, c, e⟩
  · exact slice_one h.slice
/-- a box is written, another one is not -/
theorem box_other {w w' : World} {g r : Nat} {o : Obj} (hs : Stirred w w' [g]) (h : w.heap[r]? = some o) (hn : g < r ∨ r < g) : w'.heap[r]? = some o :=
  hs.whole h (fun hm => by rw [List.mem_singleton] at hm; omega)
set_option maxHeartbeats 4000000 in
set_option maxRecDepth 100000 in
theorem refEnter_any {W w : World} {B : Nat} {v : Value} {m : M} (h : LM W w B v m) (hB : B ≤ w.heap.size) (xt : Int) :
    Calls Tryz.prog 11 #[v, .int .i64 xt] w (TellsL W B { m with ip := xt, handler := 0, back := [0], status := 0, code := 0 } w) := by
  obtain ⟨vs, vb, vm, rfl, hs, hb, hm⟩ := h
  obtain ⟨i0, HI1, HI2, HI3, HI4⟩ := int_facts
  have HI := Lib.hid (And.intro HI1 (And.intro HI2 (And.intro HI3 HI4)))
  clear HI1 HI2 HI3 HI4
  obtain ⟨ip, hh, st, bk, me, ou, inn, rd, stt, cd⟩ := m
  simp only at hs hb hm ⊢
  obtain ⟨w1, w2, g, r, hw1, hw2, hg, hr, HG, HR, HB0, HZ, HW⟩ := two_boxes w (cells10 ip hh vs vb vm ou inn rd stt cd)
  have HB := Lib.hid (show Below w.heap.size w w2 by rw [HW.out]; exact HB0.out)
  have HLs := Lib.hid (hs.below HB.out)
  have HLb := Lib.hid (hb.below HB.out)
  have HLm := Lib.hid (hm.below HB.out)
  have HBB := Lib.hid hB
  clear hs hb hm HB0 hB
  go_enter Tryz.func11, Tryz.ntmps11
  go_upto_region 1 with fail
  clear hw1 hw2 hg hr
  go_wp2_with (first
    | (refine wpList_lit (by rfl) _ _ 1 _ rfl [0] i0 Tryz.underlying22 HI.out.1 HI.out.2.1 HI.out.2.2.1 (by decide) (by decide) rfl rfl ?_; intro gl wn hgl hol hbl; have HOL := Lib.hid hol; have HG := Lib.hid ((Stirred.of_below hbl []).whole HG.out List.not_mem_nil); have HR := Lib.hid ((Stirred.of_below hbl []).whole HR.out List.not_mem_nil); have HLs := Lib.hid (HLs.out.below hbl); have HLb := Lib.hid (HLb.out.below hbl); have HLm := Lib.hid (HLm.out.below hbl); have HLN := Lib.hid (show L W wn B (.slice (some ⟨gl, 0, none⟩) 1 1) [0] from .inr (Owns.from hol (Nat.le_trans HBB.out HB.out.size))); have HB := Lib.hid (HB.out.trans (hbl.mono HB.out.size)); clear hgl hol hbl)
    | (refine st_int (by rfl) _ _ rfl g 0 rfl (.int .i64 xt) rfl rfl _ _ HG.out (by show 0 < 10; decide) ?_; intro wn hg ht; have HR := Lib.hid (box_other ht HR.out (.inl HZ.out)); have HLs := Lib.hid (HLs.out.box ht HG.out); have HLb := Lib.hid (HLb.out.box ht HG.out); have HLm := Lib.hid (HLm.out.box ht HG.out); (try have HLN := Lib.hid (HLN.out.box ht HG.out)); have HB := Lib.hid (HB.out.trans (ht.below (fun k h => by rw [List.mem_singleton.1 h]; exact Nat.le_of_eq HW.out) (by have := whole_lt HG.out; have := HW.out; omega))); have HG := Lib.hid hg; clear hg ht)
    | (refine st_int (by rfl) _ _ rfl g 1 rfl (.int .i64 0) rfl rfl _ _ HG.out (by show 1 < 10; decide) ?_; intro wn hg ht; have HR := Lib.hid (box_other ht HR.out (.inl HZ.out)); have HLs := Lib.hid (HLs.out.box ht HG.out); have HLb := Lib.hid (HLb.out.box ht HG.out); have HLm := Lib.hid (HLm.out.box ht HG.out); (try have HLN := Lib.hid (HLN.out.box ht HG.out)); have HB := Lib.hid (HB.out.trans (ht.below (fun k h => by rw [List.mem_singleton.1 h]; exact Nat.le_of_eq HW.out) (by have := whole_lt HG.out; have := HW.out; omega))); have HG := Lib.hid hg; clear hg ht)
    | (refine st_ints (by rfl) _ _ rfl g 3 rfl (.slice (some ⟨gl, 0, none⟩) 1 1) rfl rfl _ _ HG.out (by show 3 < 10; decide) ?_; intro wn hg ht; have HR := Lib.hid (box_other ht HR.out (.inl HZ.out)); have HLs := Lib.hid (HLs.out.box ht HG.out); have HLb := Lib.hid (HLb.out.box ht HG.out); have HLm := Lib.hid (HLm.out.box ht HG.out); (try have HLN := Lib.hid (HLN.out.box ht HG.out)); have HB := Lib.hid (HB.out.trans (ht.below (fun k h => by rw [List.mem_singleton.1 h]; exact Nat.le_of_eq HW.out) (by have := whole_lt HG.out; have := HW.out; omega))); have HG := Lib.hid hg; clear hg ht)
    | (refine st_int (by rfl) _ _ rfl g 8 rfl (.int .i64 0) rfl rfl _ _ HG.out (by show 8 < 10; decide) ?_; intro wn hg ht; have HR := Lib.hid (box_other ht HR.out (.inl HZ.out)); have HLs := Lib.hid (HLs.out.box ht HG.out); have HLb := Lib.hid (HLb.out.box ht HG.out); have HLm := Lib.hid (HLm.out.box ht HG.out); (try have HLN := Lib.hid (HLN.out.box ht HG.out)); have HB := Lib.hid (HB.out.trans (ht.below (fun k h => by rw [List.mem_singleton.1 h]; exact Nat.le_of_eq HW.out) (by have := whole_lt HG.out; have := HW.out; omega))); have HG := Lib.hid hg; clear hg ht)
    | (refine st_int (by rfl) _ _ rfl g 9 rfl (.int .i64 0) rfl rfl _ _ HG.out (by show 9 < 10; decide) ?_; intro wn hg ht; have HR := Lib.hid (box_other ht HR.out (.inl HZ.out)); have HLs := Lib.hid (HLs.out.box ht HG.out); have HLb := Lib.hid (HLb.out.box ht HG.out); have HLm := Lib.hid (HLm.out.box ht HG.out); (try have HLN := Lib.hid (HLN.out.box ht HG.out)); have HB := Lib.hid (HB.out.trans (ht.below (fun k h => by rw [List.mem_singleton.1 h]; exact Nat.le_of_eq HW.out) (by have := whole_lt HG.out; have := HW.out; omega))); have HG := Lib.hid hg; clear hg ht)
    | (refine ld_state (by rfl) _ rfl _ rfl _ _ HG.out rfl ?_)
    | (refine st_state (by rfl) _ _ rfl r _ rfl rfl _ _ HR.out rfl rfl (all_one HLs.out.one (by rfl) HLm.out.one) ?_; intro wf hr ht; have HLs := Lib.hid (HLs.out.box ht HR.out); have HLN := Lib.hid (HLN.out.box ht HR.out); have HLm := Lib.hid (HLm.out.box ht HR.out); have HRF := Lib.hid hr; have HB := Lib.hid (HB.out.trans (ht.below (fun k h => by rw [List.mem_singleton.1 h]; have := HW.out; have := HZ.out; omega) (by have := whole_lt HG.out; have := HW.out; omega))); clear hr ht))
  refine bodyPost_ret (results_cell_row rfl _ _ r _ _ _ _ rfl HRF.out Tryz.underlying24 rfl state_size) rfl ?_
  exact ⟨_, rfl, ⟨vs, .slice (some ⟨gl, 0, none⟩) 1 1, vm, rfl, HLs.out, HLN.out, HLm.out⟩, HB.out⟩
end Go.Proofs.YtlomfmilohbgpaaGreatDoor.Mach
/- Package inner: beginning a word; a fault; a step. -/
namespace Go.Proofs.YtlomfmilohbgpaaGreatDoor.Inn
open Go.RowKit Book Mem Mach
set_option linter.unusedVariables false
set_option linter.unusedSimpArgs false
theorem OwnsL.box {w w' : World} {B g : Nat} {vs vb vm : Value} {m : M} {cs : Array Value} (h : OwnsL w B vs vb vm m) (hs : Stirred w w' [g]) (hg : w.heap[g]? = some (.cells cs 24 (0, 0))) : OwnsL w' B vs vb vm m :=
  ⟨own_box h.st hs hg, own_box h.bk hs hg, own_box h.me hs hg, h.sb, h.bm⟩
theorem box_lt {w : World} {g B : Nat} {o : Obj} (h : w.heap[g]? = some o) (hB : B ≤ g) : B ≤ w.heap.size := Nat.le_of_lt (Nat.lt_of_le_of_lt hB (whole_lt h))
/-- what is known while a state's box is written: it, another one, lists of one's own -/
structure BX (w : World) (g r : Nat) (cs : Array Value) (v1 v2 v3 vl : Value) (m : M) (xl : List Int) (wc : World) : Prop where
  hb : Below w.heap.size w wc
  hg : wc.heap[g]? = some (.cells cs 24 (0, 0))
  hr : wc.heap[r]? = some (.cells zero10 24 (0, 0))
  own : OwnsL wc w.heap.size v1 v2 v3 m
  lst : Owns wc w.heap.size 3 vl (vals xl)
  dl : ∀ k, blk vl = some k → blk v1 ≠ some k ∧ blk v3 ≠ some k
theorem BX.set {w wc : World} {g r : Nat} {cs : Array Value} {v1 v2 v3 vl : Value} {m : M} {xl : List Int} (h : BX w g r cs v1 v2 v3 vl m xl wc) (hw : w.heap.size ≤ g) (hn : g ≠ r) (j : Nat) (v : Value) : BX w g r (cs.setIfInBounds j v) v1 v2 v3 vl m xl (wc.setCell ⟨g, j, none⟩ v) :=
  have ht := Stirred.setCell wc ⟨g, j, none⟩ v
  ⟨h.hb.trans (ht.below (fun k hk => by rw [List.mem_singleton.1 hk]; exact hw) h.hb.size), whole_set h.hg j v, ht.whole h.hr (by rw [List.mem_singleton]; exact Ne.symm hn), OwnsL.box h.own ht h.hg, own_box h.lst ht h.hg, h.dl⟩
set_option maxHeartbeats 16000000 in
set_option maxRecDepth 100000 in
theorem innStep_any {w : World} {v : Value} {m : M} (h : ReadsM w v m) (hr : Right m) (hc : Cells m) (hin : m.inp.size ≤ maxLen) (hE : ∀ wc, Below w.heap.size w wc → Tabs wc) :
    Calls Tryz.prog 15 #[v] w (GivesM (Mach.step m) w) := by
  have HV := Lib.hid h
  obtain ⟨vs, vb, vm, rfl, -, -, -⟩ := h
  obtain ⟨w1, w2, g, r, hw1, hw2, hg, hr', HG, HR, HB0, HZ, HW⟩ := two_boxes w (cells10 m.ip m.handler vs vb vm m.out m.inp m.read m.status m.code)
  have HBW := Lib.hid (show Below w.heap.size w w2 by have := HB0.out; rw [← HW.out] at this; exact this)
  have C := Lib.hid (innRun_nat (HV.out.below HBW.out) hr hc hin (fun wc hb => hE wc (HBW.out.trans (hb.mono HBW.out.size))) 1 (by decide))
  have hst : (Mach.run 1 m).1 = Mach.step m := by
    by_cases h0 : m.status = 0
    · rw [run_go h0]; rfl
    · rw [run_still h0]; unfold Mach.step; rw [if_pos h0]
  rw [runI_nat, hst] at C
  clear hr hc hin hE hst
  go_enter Tryz.func15, Tryz.ntmps15
  go_upto_region 1 with fail
  clear hw1 hw2 hg hr'
  go_wp2_with (refine ld_state (by rfl) _ rfl _ rfl _ _ HG.out rfl ?_)
  refine C.out.mono ?_
  rintro e w3 ⟨v, rfl, ⟨v1, v2, v3, rfl, ho⟩, hb⟩
  have HG3 := Lib.hid ((Stirred.of_below hb []).whole HG.out List.not_mem_nil)
  have HR3 := Lib.hid ((Stirred.of_below hb []).whole HR.out List.not_mem_nil)
  have HO3 := Lib.hid (⟨ho.st.from HBW.out.size, ho.bk.from HBW.out.size, ho.me.from HBW.out.size, ho.sb, ho.bm⟩ : OwnsL w3 w.heap.size v1 v2 v3 (Mach.step m))
  have HB3 := Lib.hid (HBW.out.trans (hb.mono HBW.out.size))
  generalize Mach.step m = m1 at *
  clear ho hb C
  go_upto_region 2 with (refine st_state (by rfl) _ _ rfl g _ rfl rfl _ _ HG3.out rfl rfl (all_one (slice_one HO3.out.st.slice) (slice_one HO3.out.bk.slice) (slice_one HO3.out.me.slice)) ?_; intro w4 hg4 ht4; have HG4 := Lib.hid hg4; have HT4 := Lib.hid ht4; clear hg4 ht4)
  dsimp only [Act.put]
  have HO4 := Lib.hid (OwnsL.box HO3.out HT4.out HG3.out)
  have HR4 := Lib.hid (HT4.out.whole HR3.out (by have := HZ.out; rw [List.mem_singleton]; omega))
  have HB4 := Lib.hid (HB3.out.trans (HT4.out.below (fun k hk => by rw [List.mem_singleton.1 hk]; exact Nat.le_of_eq HW.out) HB3.out.size))
  go_wp2_with (first
    | (refine ld_state (by rfl) _ rfl _ rfl _ _ HG4.out rfl ?_)
    | (refine st_state (by rfl) _ _ rfl r _ rfl rfl _ _ HR4.out rfl rfl (all_one (slice_one HO4.out.st.slice) (slice_one HO4.out.bk.slice) (slice_one HO4.out.me.slice)) ?_; intro wf hrf htf; have HRF := Lib.hid hrf; have HTF := Lib.hid htf; clear hrf htf))
  refine bodyPost_ret (results_cell_row rfl _ _ r _ _ _ _ rfl HRF.out Tryz.underlying24 rfl state_size) rfl ?_
  exact ⟨_, rfl, ⟨v1, v2, v3, rfl, OwnsL.box HO4.out HTF.out HR4.out⟩, HB4.out.trans (HTF.out.below (fun k hk => by rw [List.mem_singleton.1 hk]; have h1 := HW.out; have h2 := HZ.out; omega) HB4.out.size)⟩
end Go.Proofs.YtlomfmilohbgpaaGreatDoor.Inn
/- The first call of hollowaylaw9's statements. -/
namespace Go.Proofs.YtlomfmilohbgpaaGreatDoor.Inn
open Go.RowKit Book Mem Mach
set_option linter.unusedVariables false
set_option linter.unusedSimpArgs false
def aliveMem : List Int := (((((bootMem 48 300).set 192 2).set 193 3).set 194 6).set 195 13).set 196 5
def aliveM : M := { bootM 300 ⟨#[]⟩ with mem := aliveMem }
def aliveE : M := { aliveM with ip := 192, handler := 0, back := [0], status := 0, code := 0 }
theorem alive_runs : (Mach.run 99 aliveE).2 = 94 ∧ (Mach.run 99 aliveE).1.status = 1 ∧ (Mach.run 99 aliveE).1.stack = [9] := by decide +kernel
theorem alive_right : Right aliveE := (rightM_iff aliveE).1 (by decide +kernel)
theorem alive_mem : ∀ x ∈ aliveMem, -9223372036854775808 ≤ x ∧ x ≤ 9223372036854775807 := by decide +kernel
theorem alive_cells : Cells aliveE :=
  ⟨by show Cell.In 192; unfold Cell.In; decide, by show Cell.In 0; unfold Cell.In; decide, (fun x h => by cases h), (fun x h => by rcases List.mem_singleton.1 h with rfl; unfold Cell.In; decide), (fun x h => alive_mem x h), by show Cell.In 0; unfold Cell.In; decide⟩
theorem alive_boot : (bootMem 48 300)[76]? = some 6 := by decide +kernel
theorem keep5 {w : World} {b g j : Nat} {u v : Value} (hn : b ≠ g) (h : w.cell? ⟨b, 4, none⟩ = some v) : (w.setCell ⟨g, j, none⟩ u).cell? ⟨b, 4, none⟩ = some v :=
  (Stirred.setCell w ⟨g, j, none⟩ u).cell (by rw [List.mem_singleton]; exact hn) h
theorem drewc {w : World} {a : Addr} {v : Value} (h : w.cell? a = some v) : w.drew.cell? a = some v := h
end Go.Proofs.YtlomfmilohbgpaaGreatDoor.Inn
/- The tables that stage 9's rows list: what they hold, and a world in which they are laid. -/
namespace Go.Proofs.YtlomfmilohbgpaaGreatDoor.Inn
open Go.RowKit Go.Lib Go.Shelf
set_option linter.unusedVariables false
set_option linter.unusedSimpArgs false
section
variable {H : Type} {enc : TypeId × Value → H}
/-- a world that fits, in which listed variables may hold addresses -/
theorem witness_ref {C : Checked} {os : Os} {f : FuncId} {fn : Func} {s : ChangeSpec} {conds : List PathCond} {apart : Bool} {X : World → Array Value → Prop} (modest : Bool) (w0 : World) (args : Array Value) (fuel : Nat) (hos : w0.os = os)
    (hv : (w0.forCall (fun _ _ => 0) ⟨#[], args, []⟩).variablesRefB C.prog = true)
    (hr : ((w0.forCall (fun _ _ => 0) ⟨#[], args, []⟩).heap.toList.drop C.prog.globals.size).take ((begin C.prog (fun _ _ => 0) default).world.heap.size - C.prog.globals.size) = (begin C.prog (fun _ _ => 0) default).world.heap.toList.drop C.prog.globals.size)
    (hok : Input.okWideB C.prog (w0.forCall (fun _ _ => 0) ⟨#[], args, []⟩) f ⟨#[], args, []⟩ = true)
    (hpre : s.preB enc C.prog fn conds apart (w0.forCall (fun _ _ => 0) ⟨#[], args, []⟩).memory args fuel = true)
    (hsz : s.sizedB enc C.prog fn apart (w0.forCall (fun _ _ => 0) ⟨#[], args, []⟩).memory args fuel = true)
    (hx : X (w0.forCall (fun _ _ => 0) ⟨#[], args, []⟩).memory args) :
    ∃ (w : World) (tape : Tape) (i : Input), w.os = os ∧ (w.forCall tape i).Shaped C.prog ∧ i.vars = [] ∧ Input.okWide C.prog (w.forCall tape i) .any w.heap.size f i ∧
      ((s.pre enc C.prog fn conds apart (w.forCall tape i).memory i.args ∧ X (w.forCall tape i).memory i.args) ∧ sizedMet enc C.prog fn (OpenSpec.ofChange s) apart (w.forCall tape i).memory i.args) ∧ ({ modest := modest } : Assume).holds C.prog (lone (Frame.enter C.prog f i.args .normal) [] (w.forCall tape i)) := by
  refine ⟨w0, fun _ _ => 0, ⟨#[], args, []⟩, hos, World.shaped_of_RefB hv hr, ?_, ?_, ?_, ?_⟩
  · exact (Input.okWide_of_okWideB (base := 0) hok).1
  · exact (Input.okWide_of_okWideB hok).2
  · exact ⟨⟨ChangeSpec.pre_of_preB hpre, hx⟩, sizedMet_of_sizedB hsz⟩
  · simp only [Assume.holds]
    exact ⟨by simp, by simp, fun _ => Modest.zero, by simp, by simp⟩
end
abbrev laidL9 : List (String × DataW Unit) := [("holloway/op.names", Rows.laid_holloway_op_names), ("math/bits.deBruijn32tab", Rows.laid_math_bits_deBruijn32tab), ("math/bits.deBruijn64tab", Rows.laid_math_bits_deBruijn64tab), ("internal/strconv.uint64pow10", Rows.laid_internal_strconv_uint64pow10), ("unicode/utf8.acceptRanges", Rows.laid_unicode_utf8_acceptRanges), ("errors.errorType", Rows.laid_errors_errorType), ("unicode.CaseRanges", Rows.laid_unicode_CaseRanges), ("unicode/utf8.first", Rows.laid_unicode_utf8_first)]
def tabs7 : List (String × DataW Unit) := [("holloway/op.names", Rows.laid_holloway_op_names), ("math/bits.deBruijn32tab", Rows.laid_math_bits_deBruijn32tab), ("math/bits.deBruijn64tab", Rows.laid_math_bits_deBruijn64tab), ("internal/strconv.uint64pow10", Rows.laid_internal_strconv_uint64pow10), ("unicode/utf8.acceptRanges", Rows.laid_unicode_utf8_acceptRanges), ("unicode.CaseRanges", Rows.laid_unicode_CaseRanges), ("unicode/utf8.first", Rows.laid_unicode_utf8_first)]
theorem laid_none : (laidL9.filter fun x => x.2.handleName?.isNone) = tabs7 := rfl
theorem laid_some : (laidL9.filter fun x => x.2.handleName?.isSome) = [("errors.errorType", Rows.laid_errors_errorType)] := rfl
theorem split9 {W : World} (h : laidMetH Tryz.prog laidL9 W) : laidMet Tryz.prog tabs7 W ∧ handlesMet Tryz.prog [("errors.errorType", Rows.laid_errors_errorType)] W := by
  unfold laidMetH at h
  rw [laid_none, laid_some] at h
  exact h
theorem join9 {W : World} (h : laidMet Tryz.prog tabs7 W) (g : handlesMet Tryz.prog [("errors.errorType", Rows.laid_errors_errorType)] W) : laidMetH Tryz.prog laidL9 W := by
  unfold laidMetH
  rw [laid_none, laid_some]
  exact ⟨h, g⟩
theorem vars_mem9 {P : Program} {W : World} : ∀ {l : List (String × DataW Unit)} {ps : List MemPlace}, DataW.LaidVars P W l ps → ∀ {n d}, (n, d) ∈ l → ∃ g t cs fuel p, P.globalNamed n = some g ∧ (P.globals[g]?).map (·.type) = some t ∧ W.var? P n = some cs ∧ DataW.trod (fun _ => ()) P W 0 (fun _ => true) false fuel t cs.toList = some (d, p)
  | [], _, _, _, _, hm => by cases hm
  | (n0, d0) :: r, ps, ⟨g, t, cs, fuel, p, q, h1, h2, h3, h4, h5, h6⟩, n, d, hm => by
    rcases List.mem_cons.1 hm with e | hm
    · obtain ⟨rfl, rfl⟩ := Prod.mk.inj e
      exact ⟨g, t, cs, fuel, p, h1, h2, h3, h4⟩
    · exact vars_mem9 h5 hm
theorem tens9 {W : World} (h : laidMet Tryz.prog tabs7 W) : Tens W := by
  obtain ⟨ps, hv, _⟩ := h
  obtain ⟨g, t, cs, fuel, p, h1, h2, h3, h4⟩ := vars_mem9 hv (n := "internal/strconv.uint64pow10") (d := Lib.tabData .u64 Lib.pow10Tab) (by rw [← show Rows.laid_internal_strconv_uint64pow10 (H := Unit) = Lib.tabData .u64 Lib.pow10Tab from by kernel_rfl]; exact .tail _ (.tail _ (.tail _ (.head _))))
  obtain rfl := Option.some.inj (Tryz.gt.symm.trans h1)
  have ht : (Tryz.prog.globals[3]?).map (·.type) = some 193 := by kernel_rfl
  obtain rfl := Option.some.inj (ht.symm.trans h2)
  unfold Tens Lib.TabIs
  rw [h3, ← Lib.cells_of_tab Tryz.underlying193 Tryz.underlying76 (by kernel_rfl) (by kernel_rfl) h4]
theorem zeros9 {W : World} (h : laidMet Tryz.prog tabs7 W) : Zeros W := by
  obtain ⟨ps, hv, _⟩ := h
  obtain ⟨g, t, cs, fuel, p, h1, h2, h3, h4⟩ := vars_mem9 hv (n := "math/bits.deBruijn64tab") (d := Lib.tabData .u8 tz64) (by rw [← show Rows.laid_math_bits_deBruijn64tab (H := Unit) = Lib.tabData .u8 tz64 from by kernel_rfl]; exact .tail _ (.tail _ (.head _)))
  obtain rfl := Option.some.inj (Tryz.gz.symm.trans h1)
  have ht : (Tryz.prog.globals[8]?).map (·.type) = some 207 := by kernel_rfl
  obtain rfl := Option.some.inj (ht.symm.trans h2)
  unfold Zeros Lib.TabIs
  rw [h3, ← Lib.cells_of_tab Tryz.underlying207 Tryz.underlying5 (by kernel_rfl) (by kernel_rfl) h4]
theorem names9 {W : World} (h : laidMet Tryz.prog tabs7 W) : NamesIs W := by
  obtain ⟨ps, hv, _⟩ := h
  obtain ⟨g, t, cs, fuel, p, h1, h2, h3, h4⟩ := vars_mem9 hv (n := "holloway/op.names") (d := .agg (opNames.map fun z => .lit (.string z.data.toList))) (by rw [← show Rows.laid_holloway_op_names (H := Unit) = .agg (opNames.map fun z => .lit (.string z.data.toList)) from by kernel_rfl]; exact .head _)
  obtain rfl := Option.some.inj (gn.symm.trans h1)
  have ht : (Tryz.prog.globals[0]?).map (·.type) = some 122 := by kernel_rfl
  obtain rfl := Option.some.inj (ht.symm.trans h2)
  unfold NamesIs
  rw [h3, ← cells_of_strs Tryz.underlying122 Tryz.underlying9 (by kernel_rfl) (by kernel_rfl) h4]
theorem et9 : Tryz.prog.globalNamed "errors.errorType" = some 1 := by kernel_rfl
theorem rt9 : (Tryz.prog.cutTypes.find? (·.1 == "internal/reflectlite.rtype")).map (·.2) = some 145 := by kernel_rfl
theorem size9 : Tryz.prog.types.size + 100 = 334 := by kernel_rfl
theorem oneRow9 : ((List.range (334 - 100)).filter fun t => Tryz.prog.rowNamed t [101, 114, 114, 111, 114]) = [80] := by kernel_rfl
theorem handle9 {W : World} (h : handlesMet Tryz.prog [("errors.errorType", Rows.laid_errors_errorType)] W) : ErrorType W := by
  obtain ⟨name, u, ty, e1, e2, e3, e4, e5⟩ := h ("errors.errorType", Rows.laid_errors_errorType) (List.mem_singleton.2 rfl)
  have en : name = [101, 114, 114, 111, 114] := (Option.some.inj e1).symm
  subst en
  obtain rfl := Option.some.inj (rt9.symm.trans e2)
  have hm : ty ∈ (List.range (334 - 100)).filter fun t => Tryz.prog.rowNamed t [101, 114, 114, 111, 114] := List.mem_filter.2 ⟨List.mem_range.2 (by have := size9; omega), e4⟩
  rw [oneRow9] at hm
  obtain rfl := List.mem_singleton.1 hm
  have hh : typeHandle Tryz.prog 80 = hd 80 := by kernel_rfl
  rw [hh] at e5
  simpa [ErrorType] using World.var?_cell et9 e5 0
theorem tabs_of {W : World} (h : laidMetH Tryz.prog laidL9 W) : Tabs W := ⟨names9 (split9 h).1, handle9 (split9 h).2, zeros9 (split9 h).1, tens9 (split9 h).1⟩
theorem tabs_on {W : World} (h : laidMetH Tryz.prog laidL9 W) : ∀ wc, Below W.heap.size W wc → Tabs wc := fun wc hb => (tabs_of h).mono hb
/-- what a datum of plain numbers is in cells -/
def cellsOfD {H : Type} : DataW H → Array Value
  | .agg l => (l.flatMap fun
    | .lit (.int k z) => [Value.int k z]
    | .agg r => r.filterMap fun | .lit (.int k z) => some (Value.int k z) | _ => none
    | _ => []).toArray
  | _ => #[]
def putAt (g : Nat) (cs : Array Value) (h : Array Obj) : Array Obj := h.modify g fun
  | .cells _ t frozen => .cells cs t frozen
  | o => o
noncomputable def N0 (os : Os) : Nat := (World.settled Tryz.prog os).heap.size
noncomputable def laidWorld (os : Os) : World :=
  let w0 := World.holding Tryz.prog os ⟨#[.cells Lib.caseCells5 (Tryz.lays262_ren.t 208)], #[], []⟩
  { w0 with heap := putAt 0 (opNames.map Value.string).toArray (putAt 7 (cellsOfD (H := Unit) Rows.laid_math_bits_deBruijn32tab) (putAt 8 (cellsOfD (H := Unit) Rows.laid_math_bits_deBruijn64tab) (putAt 3 (cellsOfD (H := Unit) Rows.laid_internal_strconv_uint64pow10) (putAt 6 (cellsOfD (H := Unit) Rows.laid_unicode_utf8_acceptRanges) (putAt 1 #[rty 80] (putAt 5 (cellsOfD Rows.laid_unicode_utf8_first) (putAt 2 #[.slice (some ⟨N0 os, 0, none⟩) 336 336] w0.heap))))))) }
noncomputable abbrev called (os : Os) (args : Array Value) : World := ((laidWorld os).forCall (fun _ _ => 0) ⟨#[], args, []⟩).memory
theorem laid_first (os : Os) (args : Array Value) : LaidIn Tryz.prog (called os args) [("holloway/op.names", Rows.laid_holloway_op_names), ("math/bits.deBruijn32tab", Rows.laid_math_bits_deBruijn32tab), ("math/bits.deBruijn64tab", Rows.laid_math_bits_deBruijn64tab), ("internal/strconv.uint64pow10", Rows.laid_internal_strconv_uint64pow10), ("unicode/utf8.acceptRanges", Rows.laid_unicode_utf8_acceptRanges)] [0, 7, 8, 3, 6] :=
  LaidIn.of_run _ 10 (by kernel_rfl) (by kernel_rfl) (by kernel_rfl) (by kernel_rfl)
theorem laid_last (os : Os) (args : Array Value) : LaidIn Tryz.prog (called os args) [("unicode/utf8.first", Rows.laid_unicode_utf8_first)] [5] :=
  LaidIn.of_run _ 10 (by kernel_rfl) (by kernel_rfl) (by kernel_rfl) (by kernel_rfl)
theorem case_var (os : Os) (args : Array Value) : (called os args).heap[2]? = some (.cells #[.slice (some ⟨N0 os, 0, none⟩) 336 336] (Tryz.lays262_ren.t 162) (0, 0)) := by kernel_rfl
theorem case_blk (os : Os) (args : Array Value) : (called os args).heap[N0 os]? = some (.cells Lib.caseCells5 (Tryz.lays262_ren.t 208) (0, 0)) := by kernel_rfl
theorem case_ne (os : Os) : (N0 os == 2) = false := by kernel_rfl
theorem case_extra : CaseExtra Tryz.prog Tryz.lays262_ren := ⟨by kernel_rfl, by kernel_rfl, by kernel_rfl, by kernel_rfl, by kernel_rfl, by kernel_rfl⟩
theorem case_206 : Tryz.prog.underlying (Tryz.lays262_ren.t 206) = some (.array 3 (Tryz.lays262_ren.t 21)) := by kernel_rfl
set_option maxRecDepth 100000 in
theorem laid_case (os : Os) (args : Array Value) : LaidIn Tryz.prog (called os args) [("unicode.CaseRanges", Rows.laid_unicode_CaseRanges)] [2, N0 os] := by
  have X := case_extra
  have hvar := case_var os args
  have hblk := case_blk os args
  have hne : N0 os ≠ 2 := by simpa using case_ne os
  generalize called os args = W at *
  generalize N0 os = R at *
  have hT := caseTab_of_block hblk
  have hread := case_slice_reads { Tryz.lays262 with } case_206 X hT caseA_wf (by rw [caseA_size]; unfold maxLen; omega) 0
  rw [case_rows_data, caseA_size] at hread
  have hd : Rows.laid_unicode_CaseRanges = .slice (caseT.map rowData) [] := Pinned.caseRanges_eq
  have hv : W.var? Tryz.prog "unicode.CaseRanges" = some #[.slice (some ⟨R, 0, none⟩) 336 336] := by
    have hn : Tryz.prog.globalNamed "unicode.CaseRanges" = some 2 := X.n13
    simp [World.var?, hn, hvar]
  have hrow : MemPlace.row ⟨2, 0, none⟩ (#[Value.slice (some ⟨R, 0, none⟩) 336 336] : Array Value).size ++ MemPlace.row ⟨R, 0, none⟩ (336 * 5) = ([((⟨2, 0, none⟩ : Addr), 1), (⟨R, 0, none⟩, 336 * 5)] : List (Addr × Nat)).flatMap (fun r => MemPlace.row r.1 r.2) := by simp
  rw [hd]
  have n13 : Tryz.prog.globalNamed "unicode.CaseRanges" = some 2 := X.n13
  have y13 : (Tryz.prog.globals[2]?).map (·.type) = some (Tryz.lays262_ren.t 162) := X.y13
  refine LaidIn.one _ n13 y13 hv hread ?_ ?_ ?_
  · rw [hrow]
    exact rows_nodup _ (by simp; exact fun e => hne e.symm)
  · intro b off hp
    rcases List.mem_append.1 hp with hp | hp
    · obtain ⟨i, hi, e⟩ := MemPlace.mem_row.1 hp
      cases e
      refine ⟨⟨_, _, hvar⟩, fun u v hc => ?_⟩
      obtain rfl : i = 0 := by simp at hi; omega
      rw [Lib.cell_of_heap hvar] at hc
      simp at hc
    · obtain ⟨i, hi, e⟩ := MemPlace.mem_row.1 hp
      cases e
      refine ⟨⟨_, _, hblk⟩, fun u v hc => ?_⟩
      obtain ⟨c0, c1, c2, c3, c4⟩ := hT (i / 5) (by rw [caseA_size]; omega)
      have hi5 : 0 + i = 0 + i / 5 * 5 + i % 5 := by omega
      simp only at hc
      rw [hi5] at hc
      have hm : i % 5 < 5 := Nat.mod_lt _ (by omega)
      match hk : i % 5, hm with
      | 0, _ => rw [hk, Nat.add_zero, c0] at hc; cases hc
      | 1, _ => rw [hk, c1] at hc; cases hc
      | 2, _ => rw [hk, c2] at hc; cases hc
      | 3, _ => rw [hk, c3] at hc; cases hc
      | 4, _ => rw [hk, c4] at hc; cases hc
  · intro x hx
    rw [hrow] at hx
    have := rows_block _ x hx
    simpa using this
theorem apart1 (os : Os) : (([0, 7, 8, 3, 6] : List Nat).all fun b => !(([2, N0 os] : List Nat).contains b)) = true := by kernel_rfl
theorem apart2 (os : Os) : (([0, 7, 8, 3, 6] ++ [2, N0 os] : List Nat).all fun b => !(([5] : List Nat).contains b)) = true := by kernel_rfl
theorem handle_met (os : Os) (args : Array Value) : handlesMet Tryz.prog [("errors.errorType", Rows.laid_errors_errorType)] (called os args) :=
  (laidMetH_of_parts (l := [("errors.errorType", Rows.laid_errors_errorType)]) (laidMet_nil _ _) (by kernel_rfl)).2
theorem laidWorld_met (os : Os) (args : Array Value) : laidMetH Tryz.prog laidL9 (called os args) :=
  join9 (((laid_first os args).append (laid_case os args) (apart1 os)).append (laid_last os args) (apart2 os)).met (handle_met os args)
end Go.Proofs.YtlomfmilohbgpaaGreatDoor.Inn
/- A []int that came in. -/
namespace Go.Proofs.YtlomfmilohbgpaaGreatDoor
open Go.ChangeShapes Go.WideShapes Go.ChangeAt Go.RowKit
set_option linter.unusedVariables false
set_option maxRecDepth 1000000 in
theorem cells_int : Tryz.prog.cellsOf 3 = 1 := by kernel_rfl
set_option maxRecDepth 100000 in
theorem readsOf {H : Type} {enc : TypeId × Value → H} {W : World} {base : Nat} {v : Value} {d : DataW H} {p : List MemPlace} (hv : Value.okWide Tryz.prog W .any base 22 v) (h : DataW.Trod enc Tryz.prog W 0 (fun _ => true) true 22 v d p) : ∃ xs, Reads W v xs ∧ ∀ x ∈ xs, (Lit.int .i64 x).wf = true := by
  obtain ⟨a0, len, cap, rfl⟩ := okWide_slice Tryz.underlying22 hv
  obtain ⟨fuel, hf⟩ := h
  rcases open_ints Tryz.underlying22 Tryz.underlying3 cells_int hf with ⟨hcs, hx⟩ | ⟨a, len', cap', zs, hcs, _, hl, hm, hmm, hx, hcell, hwf⟩
  · simp [Value.cells] at hcs
    obtain ⟨rfl, rfl, rfl⟩ := hcs
    exact ⟨[], ⟨none, 0, rfl, fun j s h => by cases h⟩, fun x h => by cases h⟩
  · simp [Value.cells] at hcs
    obtain ⟨rfl, rfl, rfl⟩ := hcs
    simp only [if_true] at hmm
    refine ⟨zs.take len, ⟨some a, cap, by rw [List.length_take, Nat.min_eq_left (by omega)], fun j x h => ⟨a, rfl, ?_⟩⟩, fun x hx => hwf x (List.mem_of_mem_take hx)⟩
    have hj := (List.getElem?_eq_some_iff.1 h).1
    rw [List.length_take] at hj
    rw [List.getElem?_take, if_pos (by omega)] at h
    have := hcell j (by omega)
    rw [List.getD_eq_getElem?_getD, h] at this
    exact this
set_option maxRecDepth 100000 in
/-- .. with the room that it has -/
theorem readsCapOf {H : Type} {enc : TypeId × Value → H} {W : World} {base : Nat} {v : Value} {d : DataW H} {p : List MemPlace} (hv : Value.okWide Tryz.prog W .any base 22 v) (h : DataW.Trod enc Tryz.prog W 0 (fun _ => true) true 22 v d p) : ∃ xs, (Reads W v xs ∧ ∃ ao cap, v = .slice ao xs.length cap ∧ xs.length ≤ cap) ∧ ∀ x ∈ xs, (Lit.int .i64 x).wf = true := by
  obtain ⟨a0, len, cap, rfl⟩ := okWide_slice Tryz.underlying22 hv
  obtain ⟨fuel, hf⟩ := h
  rcases open_ints Tryz.underlying22 Tryz.underlying3 cells_int hf with ⟨hcs, hx⟩ | ⟨a, len', cap', zs, hcs, _, hl, hm, hmm, hx, hcell, hwf⟩
  · simp [Value.cells] at hcs
    obtain ⟨rfl, rfl, rfl⟩ := hcs
    exact ⟨[], ⟨⟨none, 0, rfl, fun j s h => by cases h⟩, none, 0, rfl, Nat.le_refl _⟩, fun x h => by cases h⟩
  · simp [Value.cells] at hcs
    obtain ⟨rfl, rfl, rfl⟩ := hcs
    simp only [if_true] at hmm
    refine ⟨zs.take len, ⟨⟨some a, cap, by rw [List.length_take, Nat.min_eq_left (by omega)], fun j x h => ⟨a, rfl, ?_⟩⟩, some a, cap, by rw [List.length_take, Nat.min_eq_left (by omega)], by rw [List.length_take]; omega⟩, fun x hx => hwf x (List.mem_of_mem_take hx)⟩
    have hj := (List.getElem?_eq_some_iff.1 h).1
    rw [List.length_take] at hj
    rw [List.getElem?_take, if_pos (by omega)] at h
    have := hcell j (by omega)
    rw [List.getD_eq_getElem?_getD, h] at this
    exact this
end Go.Proofs.YtlomfmilohbgpaaGreatDoor
/- An api.State that came in. -/
namespace Go.Proofs.YtlomfmilohbgpaaGreatDoor.Mach
open Go.ChangeShapes Go.WideShapes Go.ChangeAt Go.RowKit
set_option linter.unusedVariables false
set_option linter.unusedSimpArgs false
set_option maxRecDepth 1000000 in
theorem cells_ints : Tryz.prog.cellsOf 22 = 1 := by kernel_rfl
set_option maxRecDepth 1000000 in
theorem cells_text : Tryz.prog.cellsOf 9 = 1 := by kernel_rfl
set_option maxRecDepth 1000000 in
theorem cells_state : Tryz.prog.cellsOf 24 = 10 := by kernel_rfl
theorem readsC_of_trod {H : Type} {enc : TypeId × Value → H} {W : World} {k : Nat} {u : Value} {y : DataW H × List MemPlace} (h : DataW.trod enc Tryz.prog W 0 (fun _ => true) true k 22 [u] = some y) : ∃ xs, ReadsC W u xs ∧ ∀ x ∈ xs, Cell.In x := by
  rcases open_ints Tryz.underlying22 Tryz.underlying3 cells_int h with ⟨hcs, hx⟩ | ⟨a, len', cap', zs, hcs, _, hl, hm, hmm, hx, hcell, hwf⟩
  · simp at hcs
    subst hcs
    exact ⟨[], ⟨⟨none, 0, rfl, fun j s h => by cases h⟩, none, 0, rfl, Nat.le_refl _⟩, fun x h => by cases h⟩
  · simp at hcs
    subst hcs
    simp only [if_true] at hmm
    refine ⟨zs.take len', ⟨⟨some a, cap', by rw [List.length_take, Nat.min_eq_left (by omega)], fun j x h => ⟨a, rfl, ?_⟩⟩, some a, cap', by rw [List.length_take, Nat.min_eq_left (by omega)], by rw [List.length_take]; omega⟩, fun x hx => ?_⟩
    · have hj := (List.getElem?_eq_some_iff.1 h).1
      rw [List.length_take] at hj
      rw [List.getElem?_take, if_pos (by omega)] at h
      have := hcell j (by omega)
      rw [List.getD_eq_getElem?_getD, h] at this
      exact this
    · have := hwf x (List.mem_of_mem_take hx)
      simpa [Lit.wf, Cell.In, IntKind.min, IntKind.signed, IntKind.bits] using this
set_option maxRecDepth 100000 in
theorem stateOf {H : Type} {enc : TypeId × Value → H} {W : World} {base : Nat} {v : Value} {d : DataW H} {p : List MemPlace} (hv : Value.okWide Tryz.prog W .any base 24 v) (h : DataW.Trod enc Tryz.prog W 0 (fun _ => true) true 24 v d p) : ∃ m, ReadsM W v m ∧ Cells m ∧ m.inp.size ≤ maxLen ∧ m.out.size ≤ maxLen ∧ Cell.In m.read ∧ Cell.In m.status := by
  obtain ⟨cs, rfl, hsz⟩ := okWide_struct Tryz.underlying24 hv
  obtain ⟨fuel, hf⟩ := h
  have hsz : cs.size = 10 := hsz.trans cells_state
  obtain ⟨ys, k, _, _, _, hyl, hg⟩ := DataW.trod_struct Tryz.underlying24 hf
  match ys, hyl, cs, hsz with
  | [y0, y1, y2, y3, y4, y5, y6, y7, y8, y9], _, ⟨[c0, c1, c2, c3, c4, c5, c6, c7, c8, c9]⟩, _ =>
    have g0 : DataW.trod enc Tryz.prog W 0 (fun _ => true) true k 3 [c0] = some y0 := by have := hg 0 _ rfl; simpa [cells_int, cells_ints, cells_text, Value.cells] using this
    have g1 : DataW.trod enc Tryz.prog W 0 (fun _ => true) true k 3 [c1] = some y1 := by have := hg 1 _ rfl; simpa [cells_int, cells_ints, cells_text, Value.cells] using this
    have g2 : DataW.trod enc Tryz.prog W 0 (fun _ => true) true k 22 [c2] = some y2 := by have := hg 2 _ rfl; simpa [cells_int, cells_ints, cells_text, Value.cells] using this
    have g3 : DataW.trod enc Tryz.prog W 0 (fun _ => true) true k 22 [c3] = some y3 := by have := hg 3 _ rfl; simpa [cells_int, cells_ints, cells_text, Value.cells] using this
    have g4 : DataW.trod enc Tryz.prog W 0 (fun _ => true) true k 22 [c4] = some y4 := by have := hg 4 _ rfl; simpa [cells_int, cells_ints, cells_text, Value.cells] using this
    have g5 : DataW.trod enc Tryz.prog W 0 (fun _ => true) true k 9 [c5] = some y5 := by have := hg 5 _ rfl; simpa [cells_int, cells_ints, cells_text, Value.cells] using this
    have g6 : DataW.trod enc Tryz.prog W 0 (fun _ => true) true k 9 [c6] = some y6 := by have := hg 6 _ rfl; simpa [cells_int, cells_ints, cells_text, Value.cells] using this
    have g7 : DataW.trod enc Tryz.prog W 0 (fun _ => true) true k 3 [c7] = some y7 := by have := hg 7 _ rfl; simpa [cells_int, cells_ints, cells_text, Value.cells] using this
    have g8 : DataW.trod enc Tryz.prog W 0 (fun _ => true) true k 3 [c8] = some y8 := by have := hg 8 _ rfl; simpa [cells_int, cells_ints, cells_text, Value.cells] using this
    have g9 : DataW.trod enc Tryz.prog W 0 (fun _ => true) true k 3 [c9] = some y9 := by have := hg 9 _ rfl; simpa [cells_int, cells_ints, cells_text, Value.cells] using this
    obtain ⟨z0, e0, _, f0⟩ := DataW.trod_int Tryz.underlying3 g0
    obtain ⟨z1, e1, _, f1⟩ := DataW.trod_int Tryz.underlying3 g1
    obtain ⟨z7, e7, _, f7⟩ := DataW.trod_int Tryz.underlying3 g7
    obtain ⟨z8, e8, _, f8⟩ := DataW.trod_int Tryz.underlying3 g8
    obtain ⟨z9, e9, _, f9⟩ := DataW.trod_int Tryz.underlying3 g9
    obtain ⟨x2, r2, n2⟩ := readsC_of_trod g2
    obtain ⟨x3, r3, n3⟩ := readsC_of_trod g3
    obtain ⟨x4, r4, n4⟩ := readsC_of_trod g4
    obtain ⟨s5, e5, _, f5⟩ := DataW.trod_string Tryz.underlying9 g5
    obtain ⟨s6, e6, _, f6⟩ := DataW.trod_string Tryz.underlying9 g6
    simp at e0 e1 e5 e6 e7 e8 e9
    subst e0; subst e1; subst e5; subst e6; subst e7; subst e8; subst e9
    have inn : ∀ {z : Int}, (Lit.int .i64 z).wf = true → Cell.In z := fun h => by simpa [Lit.wf, Cell.In, IntKind.min, IntKind.signed, IntKind.bits] using h
    exact ⟨⟨z0, z1, x2, x3, x4, s5, s6, z7, z8, z9⟩, ⟨c2, c3, c4, rfl, r2, r3, r4⟩, ⟨inn f0, inn f1, n2, n3, n4, inn f9⟩, f6, f5, inn f7, inn f8⟩
end Go.Proofs.YtlomfmilohbgpaaGreatDoor.Mach
/- What a recording is, in plain lists (chapter 13); no code of package record in sight. -/
namespace Go.Proofs.YtlomfmilohbgpaaGreatDoor.Rec
open Mach
open Go.RowKit (wrap64)
open Go.Proofs.YtlomfmilohbgpaaGreatDoor.Cell (In)
set_option linter.unusedVariables false
/-- a step that was recorded: its ip, the cell there, the operand, the ip behind it -/
abbrev S := Int × Int × Int × Int
structure R where
  start : Int
  last : Int
  loop : Bool
  steps : List S
/-- a machine without its handler -/
def bare (m : M) : M := { m with handler := 0 }
/-- a cell of the memory; 0, if there is none -/
def ld (m : M) (a : Int) : Int := if a < 0 ∨ (m.mem.length : Int) ≤ a then 0 else m.mem.getD a.toNat 0
/-- a step as it is seen -/
def see (m : M) (nx : Int) : S := (m.ip, ld m m.ip, if argI (ld m m.ip) = true then ld m (wrap64 (m.ip + 1)) else 0, nx)
def place (a : Int) : Bool := decide (0 ≤ a ∧ a < 3000)
def lastOf (x : S) : Int := if argI x.2.1 = true then wrap64 (x.1 + 1) else x.1
/-- may a step be recorded? -/
def fit (x : S) : Bool := decide ((plainI x.2.1 = true ∨ 64 ≤ x.2.1) ∧ (argI x.2.1 = true ∨ x.2.2.1 = 0) ∧ place x.1 = true ∧ place (lastOf x) = true ∧ place x.2.2.2 = true)
/-- what is recorded of a machine without its handler: left: how many more steps may be done -/
def tape (start : Int) : Nat → List S → M → R
  | left, l, m =>
    if l ≠ [] ∧ m.ip = start then ⟨start, m.ip, true, l⟩
    else match left with
      | 0 => ⟨start, m.ip, false, l⟩
      | n + 1 => if (Mach.step m).status ≠ 0 ∨ fit (see m (Mach.step m).ip) = false then ⟨start, m.ip, false, l⟩ else tape start n (l ++ [see m (Mach.step m).ip]) (Mach.step m)
/-- of a machine its recording -/
def recOf (m : M) (most : Nat) : R := tape m.ip most [] (bare m)
/-- how many steps there may be -/
def mostOf (most : Int) : Nat := (min (max most 0) 120).toNat
end Go.Proofs.YtlomfmilohbgpaaGreatDoor.Rec
/- Package inner: which machines may be; a fault. -/
namespace Go.Proofs.YtlomfmilohbgpaaGreatDoor.Inn
open Go.RowKit Book Mem Mach
set_option linter.unusedVariables false
set_option linter.unusedSimpArgs false
set_option maxHeartbeats 16000000 in
set_option maxRecDepth 100000 in
theorem innRight_any {w : World} {v : Value} {m : M} (h : ReadsM w v m) (hi : m.inp.size ≤ maxLen) (ho : m.out.size ≤ maxLen) :
    Calls Tryz.prog 14 #[v] w (Says (.bool (rightM m)) w) := by
  obtain ⟨vs, vb, vm, rfl, ⟨⟨so, sc, hs, _⟩, _⟩, ⟨⟨bo, bc, hb, _⟩, _⟩, ⟨⟨mo, mc, hm, _⟩, _⟩⟩ := h
  obtain ⟨ip, hn, st, bk, me, ou, inn, rd, stt, cd⟩ := m
  simp only at hs hb hm hi ho ⊢
  subst hs
  subst hb
  subst hm
  have hi' : inn.size ≤ 9223372036854775807 := hi
  have ho' : ou.size ≤ 9223372036854775807 := ho
  have HR := Lib.hid (show rightM ⟨ip, hn, st, bk, me, ou, inn, rd, stt, cd⟩ = decide (st.length ≤ 48 ∧ bk.length ≤ 48 ∧ me.length ≤ 3000 ∧ ou.size ≤ 2000 ∧ 0 ≤ rd ∧ rd ≤ inn.size ∧ 0 ≤ stt ∧ stt ≤ 2) from rfl)
  obtain ⟨r, hr⟩ : ∃ r, rightM ⟨ip, hn, st, bk, me, ou, inn, rd, stt, cd⟩ = r := ⟨_, rfl⟩
  rw [hr]
  have HR2 := Lib.hid (hr.symm.trans HR.out)
  clear hi ho hr HR
  have hb1 := Lib.hid ((Below.refl w.heap.size w).alloc (Nat.le_refl _) (.cells (cells10 ip hn (.slice so st.length sc) (.slice bo bk.length bc) (.slice mo me.length mc) ou inn rd stt cd) 24))
  have hw : stt = 0 ∨ stt = 1 ∨ stt = 2 ∨ (¬ stt = 0 ∧ ¬ stt = 1 ∧ ¬ stt = 2) := by omega
  have hways : ¬ st.length ≤ 48 ∨ st.length ≤ 48 ∧ (¬ bk.length ≤ 48 ∨ bk.length ≤ 48 ∧ (¬ me.length ≤ 3000 ∨ me.length ≤ 3000 ∧ (¬ ou.size ≤ 2000 ∨ ou.size ≤ 2000 ∧ (¬ 0 ≤ rd ∨ 0 ≤ rd ∧ (¬ rd ≤ (inn.size : Int) ∨ rd ≤ (inn.size : Int)))))) := by omega
  rcases hw with rfl | rfl | rfl | ⟨s0, s1, s2⟩
  rotate_left 3
  · have HE := Lib.hid (show r = false by rw [HR2.out]; exact decide_eq_false fun h => by omega)
    clear HR2 hways
    go_enter Tryz.func14, Tryz.ntmps14
    go_wp2
    go_ret
    exact ⟨by rw [HE.out]; rfl, hb1.out⟩
  all_goals
    rcases hways with c1 | ⟨c1, c2 | ⟨c2, c3 | ⟨c3, c4 | ⟨c4, c5 | ⟨c5, c6 | c6⟩⟩⟩⟩⟩
    all_goals
      first
        | (have HE := Lib.hid (show r = false by rw [HR2.out]; exact decide_eq_false fun h => by omega)
           clear HR2
           go_enter Tryz.func14, Tryz.ntmps14
           go_wp2
           go_ret
           exact ⟨by rw [HE.out]; rfl, hb1.out⟩)
        | (have HE := Lib.hid (show r = true by rw [HR2.out]; exact decide_eq_true (by omega))
           clear HR2
           go_enter Tryz.func14, Tryz.ntmps14
           go_wp2
           go_ret
           exact ⟨by rw [HE.out]; rfl, hb1.out⟩)
end Go.Proofs.YtlomfmilohbgpaaGreatDoor.Inn
