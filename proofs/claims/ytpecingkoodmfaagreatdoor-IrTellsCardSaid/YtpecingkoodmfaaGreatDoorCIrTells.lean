/- What is proved: hollowaylaw14.IrTells answers true for every input, and its arguments read afterwards as before; the listed package variables start as the program's text lays them (the card ties them). -/
import Derived.Test.YtpecingkoodmfaaGreatDoorIrLentT
import Derived.Test.YtpecingkoodmfaaGreatDoorVals
import Derived.ProofKit
import Derived.ChangeSlices
import Derived.Test.YtpecingkoodmfaaGreatDoorIrMem
import Derived.Test.YtpecingkoodmfaaGreatDoorCellPlain
import Derived.Deep.Slices
import Derived.Test.YtpecingkoodmfaaGreatDoorBookInts
import Derived.Deep.RegionHeld3
import Derived.Deep.DrawnRows
import Derived.Test.YtpecingkoodmfaaGreatDoorBookPlain
import Derived.Test.YtpecingkoodmfaaGreatDoorBookPutInts
import Derived.Test.YtpecingkoodmfaaGreatDoorBookGrowInts
import Derived.Test.YtpecingkoodmfaaGreatDoorBookNone
import Derived.RowKit
import Derived.Lib.ItoaNum
import Derived.Lib.Case
import Derived.WalkKit
import Derived.Test.YtpecingkoodmfaaGreatDoorRows
import Derived.WalkSpells
import Derived.WalkLawsBesides
import Derived.Lib.Hide
import Derived.Lib.Strings
import Derived.Deep.DeepCutAuto
import Derived.Deep.LoopGhost
import Derived.Test.YtpecingkoodmfaaGreatDoorRefKinds
import Derived.Deep.RegionLaw
import Derived.Test.YtpecingkoodmfaaGreatDoorBoxes
import Derived.Laws.Rows
import Derived.Laws.ResultCell
import Derived.Test.YtpecingkoodmfaaGreatDoorLent
import Derived.Deep.RegionWith
import Derived.Test.YtpecingkoodmfaaGreatDoorIrRefR
import Derived.Test.YtpecingkoodmfaaGreatDoorIrSameT
import Derived.Test.YtpecingkoodmfaaGreatDoorBookAddInts
import Derived.Test.YtpecingkoodmfaaGreatDoorIrText
import Derived.Test.YtpecingkoodmfaaGreatDoorIrUses
import Derived.Test.YtpecingkoodmfaaGreatDoorIrR0
import Derived.BigQuiet
import Derived.Deep.QuietTactic
import Derived.Test.YtpecingkoodmfaaGreatDoorCards
import Derived.Test.YtpecingkoodmfaaGreatDoorTie
import Derived.OpenShut
import Derived.ChangeSame
import Derived.ChangeVars
import Derived.JoinedOf
import Derived.RowKitTokens
import Derived.LaidLaws
import Derived.LaidHandle
import Derived.Stop.Joined
import Derived.SevenTiedAt
import Derived.Carry
/- A trace that was lent is as it was. -/
namespace Go.Proofs.YtpecingkoodmfaaGreatDoor.Ir
open Go.RowKit Book Book.Wide Mem Go.Deep
set_option linter.unusedVariables false
set_option linter.unusedSimpArgs false
theorem drew_below {w : World} {r : Value} {e : Ending} {w' : World} (h : e = .returned r ∧ ∃ q, w' = w.drewN q) : e = .returned r ∧ Below w.heap.size w w' := by
  obtain ⟨h1, q, h2⟩ := h
  exact ⟨h1, by rw [h2]; exact bk_below_drewN _ _ _⟩
set_option maxHeartbeats 8000000 in
set_option maxRecDepth 100000 in
theorem staysTrace_any {w : World} {B : Nat} {v v' : Value} {t : T} (h : LentT w B v t) (h' : ReadsT w v' t) (h1 : t.ins.length ≤ 1000) (h2 : t.outs.length ≤ 1000) (h3 : t.cells.length ≤ 1000) (hs : Small t) :
    Calls Tryz.prog 24 #[v, v'] w (Says (.bool true) w) := by
  obtain ⟨g1, c1, g2, c2, g3, c3, L, rfl, hl1, ⟨hm, hl2, hr⟩, hl3, hc1, hc2⟩ := h
  obtain ⟨vi, vo, vc, rfl, hR⟩ := h'
  have hLl : L.length = t.outs.length := by rw [← hm, List.length_map]
  have C1 := Lib.hid (fun wc (hbw : Below w.heap.size w wc) => (staysCodes_any B g1 c1 vi t.ins wc (hl1.below hbw) (hR.ins.below hbw) h1 hc1).mono fun e w' hh => drew_below hh)
  have C2 := Lib.hid (fun wc (hbw : Below w.heap.size w wc) => staysExits_any B g2 c2 vo L wc (hl2.below hbw) (hr.below hbw) (by rw [hm]; exact hR.outs.below hbw) (by omega) (fun e he => hs.stack e.1 (by rw [← hm]; exact List.mem_map.2 ⟨e, he, rfl⟩)) (by omega))
  have C3 := Lib.hid (fun wc (hbw : Below w.heap.size w wc) => (stays_any B g3 c3 vc t.cells wc (Lent.below hl3 hbw) (hR.cells.below hbw) h3).mono fun e w' hh => drew_below hh)
  rw [hLl] at C2
  obtain ⟨ai, ci, ao, co, ac, cc, rfl, rfl, rfl⟩ := hR.known
  obtain ⟨n1, hn1⟩ : ∃ n, t.ins.length = n := ⟨_, rfl⟩
  obtain ⟨n2, hn2⟩ : ∃ n, t.outs.length = n := ⟨_, rfl⟩
  obtain ⟨n3, hn3⟩ : ∃ n, t.cells.length = n := ⟨_, rfl⟩
  rw [hn1] at C1 ⊢
  rw [hn2] at C2 ⊢
  rw [hn3] at C3 ⊢
  obtain ⟨w1, g, hw1, hg, HG, HB, HZ⟩ := newBox w (trA t (.slice (some ⟨g1, 0, none⟩) n1 c1) (.slice (some ⟨g2, 0, none⟩) n2 c2) (.slice (some ⟨g3, 0, none⟩) n3 c3)) 26
  obtain ⟨w2, r, hw2, hr2, HR, HB2, HZ2⟩ := newBox w1 (trA t (.slice ai n1 ci) (.slice ao n2 co) (.slice ac n3 cc)) 26
  have HBF := Lib.hid (HB.out.trans (HB2.out.mono HB.out.size))
  have HG2 := Lib.hid (boxOn HG.out HB2.out)
  have HCe := Lib.hid (fun w3 (hbb : Below w2.heap.size w2 w3) => And.intro (cells9 (boxOn HG2.out hbb)) (cells9 (boxOn HR.out hbb)))
  obtain ⟨⟨a0, a1, a2, a3, a4, a5, a6, a7, a8⟩, b0, b1, b2, b3, b4, b5, b6, b7, b8⟩ := HCe.out w2 (Below.refl _ _)
  clear hl1 hl2 hl3 hm hr hR h1 h2 h3 hs hc1 hc2 hLl hn1 hn2 hn3
  go_enter Tryz.func24, Tryz.ntmps24
  go_wp2_with fail
  refine (C1.out _ HBF.out).mono ?_
  rintro e w3 ⟨rfl, hb⟩
  have HB3 := Lib.hid hb
  obtain ⟨⟨a0, a1, a2, a3, a4, a5, a6, a7, a8⟩, b0, b1, b2, b3, b4, b5, b6, b7, b8⟩ := HCe.out w3 hb
  clear hb C1
  go_wp2_with fail
  refine (C2.out _ (HBF.out.trans (HB3.out.mono HBF.out.size))).mono ?_
  rintro e w4 ⟨rfl, hb⟩
  have HB4 := Lib.hid (HB3.out.trans (hb.mono HB3.out.size))
  obtain ⟨⟨a0, a1, a2, a3, a4, a5, a6, a7, a8⟩, b0, b1, b2, b3, b4, b5, b6, b7, b8⟩ := HCe.out w4 HB4.out
  clear hb C2
  go_wp2_with fail
  refine (C3.out _ (HBF.out.trans (HB4.out.mono HBF.out.size))).mono ?_
  rintro e w5 ⟨rfl, hb⟩
  have HB5 := Lib.hid (HBF.out.trans ((HB4.out.trans (hb.mono HB4.out.size)).mono HBF.out.size))
  clear hb C3 HCe
  go_wp2
  go_ret
  exact ⟨rfl, HB5.out⟩
end Go.Proofs.YtpecingkoodmfaaGreatDoor.Ir
/- A []int that came in. -/
namespace Go.Proofs.YtpecingkoodmfaaGreatDoor
open Go.ChangeShapes Go.WideShapes Go.ChangeAt Go.RowKit
set_option linter.unusedVariables false
set_option maxRecDepth 1000000 in
theorem cells_int : Tryz.prog.cellsOf 3 = 1 := by kernel_rfl
set_option maxRecDepth 100000 in
theorem readsOf {H : Type} {enc : TypeId × Value → H} {W : World} {base : Nat} {v : Value} {d : DataW H} {p : List MemPlace} (hv : Value.okWide Tryz.prog W .any base 24 v) (h : DataW.Trod enc Tryz.prog W 0 (fun _ => true) true 24 v d p) : ∃ xs, Reads W v xs ∧ ∀ x ∈ xs, (Lit.int .i64 x).wf = true := by
  obtain ⟨a0, len, cap, rfl⟩ := okWide_slice Tryz.underlying24 hv
  obtain ⟨fuel, hf⟩ := h
  rcases open_ints Tryz.underlying24 Tryz.underlying3 cells_int hf with ⟨hcs, hx⟩ | ⟨a, len', cap', zs, hcs, _, hl, hm, hmm, hx, hcell, hwf⟩
  · simp [Value.cells] at hcs
    obtain ⟨rfl, rfl, rfl⟩ := hcs
    exact ⟨[], ⟨none, 0, rfl, fun j s h => by cases h⟩, fun x h => by cases h⟩
  · simp [Value.cells] at hcs
    obtain ⟨rfl, rfl, rfl⟩ := hcs
    simp only [if_true] at hmm
    refine ⟨zs.take len, ⟨some a, cap, by rw [List.length_take, Nat.min_eq_left (by omega)], fun j x h => ⟨a, rfl, ?_⟩⟩, fun x hx => hwf x (List.mem_of_mem_take hx)⟩
    have hj := (List.getElem?_eq_some_iff.1 h).1
    rw [List.length_take] at hj
    rw [List.getElem?_take, if_pos (by omega)] at h
    have := hcell j (by omega)
    rw [List.getD_eq_getElem?_getD, h] at this
    exact this
set_option maxRecDepth 100000 in
/-- .. with the room that it has -/
theorem readsCapOf {H : Type} {enc : TypeId × Value → H} {W : World} {base : Nat} {v : Value} {d : DataW H} {p : List MemPlace} (hv : Value.okWide Tryz.prog W .any base 24 v) (h : DataW.Trod enc Tryz.prog W 0 (fun _ => true) true 24 v d p) : ∃ xs, (Reads W v xs ∧ ∃ ao cap, v = .slice ao xs.length cap ∧ xs.length ≤ cap) ∧ ∀ x ∈ xs, (Lit.int .i64 x).wf = true := by
  obtain ⟨a0, len, cap, rfl⟩ := okWide_slice Tryz.underlying24 hv
  obtain ⟨fuel, hf⟩ := h
  rcases open_ints Tryz.underlying24 Tryz.underlying3 cells_int hf with ⟨hcs, hx⟩ | ⟨a, len', cap', zs, hcs, _, hl, hm, hmm, hx, hcell, hwf⟩
  · simp [Value.cells] at hcs
    obtain ⟨rfl, rfl, rfl⟩ := hcs
    exact ⟨[], ⟨⟨none, 0, rfl, fun j s h => by cases h⟩, none, 0, rfl, Nat.le_refl _⟩, fun x h => by cases h⟩
  · simp [Value.cells] at hcs
    obtain ⟨rfl, rfl, rfl⟩ := hcs
    simp only [if_true] at hmm
    refine ⟨zs.take len, ⟨⟨some a, cap, by rw [List.length_take, Nat.min_eq_left (by omega)], fun j x h => ⟨a, rfl, ?_⟩⟩, some a, cap, by rw [List.length_take, Nat.min_eq_left (by omega)], by rw [List.length_take]; omega⟩, fun x hx => hwf x (List.mem_of_mem_take hx)⟩
    have hj := (List.getElem?_eq_some_iff.1 h).1
    rw [List.length_take] at hj
    rw [List.getElem?_take, if_pos (by omega)] at h
    have := hcell j (by omega)
    rw [List.getD_eq_getElem?_getD, h] at this
    exact this
end Go.Proofs.YtpecingkoodmfaaGreatDoor
/- An api.Trace that came in. -/
namespace Go.Proofs.YtpecingkoodmfaaGreatDoor.Ir
open Go.ChangeShapes Go.WideShapes Go.ChangeAt Go.RowKit Go.Deep
set_option linter.unusedVariables false
set_option linter.unusedSimpArgs false

instance : Inhabited O := ⟨⟨0, 0, [], []⟩⟩
structure CI (x : I) : Prop where
  op : Cell.In x.1
  a : Cell.In x.2.1
  b : Cell.In x.2.2.1
  c : Cell.In x.2.2.2.1
  x : Cell.In x.2.2.2.2
/-- .. of a trace those that are asked for -/
structure CT (t : T) : Prop where
  start : Cell.In t.start
  ins : ∀ x ∈ t.ins, CI x
  cells : ∀ x ∈ t.cells, Cell.In x
set_option maxRecDepth 1000000 in
theorem cells_ints : Tryz.prog.cellsOf 24 = 1 := by kernel_rfl
set_option maxRecDepth 1000000 in
theorem cells_insv : Tryz.prog.cellsOf 22 = 1 := by kernel_rfl
set_option maxRecDepth 1000000 in
theorem cells_outs : Tryz.prog.cellsOf 23 = 1 := by kernel_rfl
set_option maxRecDepth 1000000 in
theorem cells_ins : Tryz.prog.cellsOf 42 = 5 := by kernel_rfl
set_option maxRecDepth 1000000 in
theorem cells_out : Tryz.prog.cellsOf 58 = 4 := by kernel_rfl
set_option maxRecDepth 1000000 in
theorem cells_tr : Tryz.prog.cellsOf 26 = 9 := by kernel_rfl
theorem in_wf {x : Int} (h : (Lit.int .i64 x).wf = true) : Cell.In x := by simpa [Lit.wf, Cell.In, IntKind.min, IntKind.signed, IntKind.bits] using h
theorem reads_of_trod {H : Type} {enc : TypeId × Value → H} {W : World} {k : Nat} {u : Value} {y : DataW H × List MemPlace} (h : DataW.trod enc Tryz.prog W 0 (fun _ => true) true k 24 [u] = some y) : ∃ xs, Reads W u xs ∧ ∀ x ∈ xs, Cell.In x := by
  rcases open_ints Tryz.underlying24 Tryz.underlying3 cells_int h with ⟨hcs, hx⟩ | ⟨a, len', cap', zs, hcs, _, hl, hm, hmm, hx, hcell, hwf⟩
  · simp at hcs
    subst hcs
    exact ⟨[], ⟨none, 0, rfl, fun j s h => by cases h⟩, fun x h => by cases h⟩
  · simp at hcs
    subst hcs
    simp only [if_true] at hmm
    refine ⟨zs.take len', ⟨some a, cap', by rw [List.length_take, Nat.min_eq_left (by omega)], fun j x h => ⟨a, rfl, ?_⟩⟩, fun x hx => in_wf (hwf x (List.mem_of_mem_take hx))⟩
    have hj := (List.getElem?_eq_some_iff.1 h).1
    rw [List.length_take] at hj
    rw [List.getElem?_take, if_pos (by omega)] at h
    have := hcell j (by omega)
    rw [List.getD_eq_getElem?_getD, h] at this
    exact this
set_option maxRecDepth 100000 in
theorem ins_of_trod {H : Type} {enc : TypeId × Value → H} {W : World} {k : Nat} {u : Value} {y : DataW H × List MemPlace} (h : DataW.trod enc Tryz.prog W 0 (fun _ => true) true k 22 [u] = some y) : ∃ l : List I, ReadsI W u l ∧ ∀ x ∈ l, CI x := by
  rcases open_slice Tryz.underlying22 h with ⟨hcs, hx⟩ | ⟨a, len, cap, m, n, D, Pl, hcs, _, hl, hm, hmm, hx, hi⟩
  · simp at hcs
    subst hcs
    exact ⟨[], ⟨none, 0, rfl, fun j o h => by cases h⟩, fun x h => by cases h⟩
  · simp at hcs
    subst hcs
    simp only [if_true] at hmm
    have each : ∀ i, i < len → ∃ q : I, (W.cell? (a.add (i * 5)) = some (.int .i64 q.1) ∧ W.cell? ⟨(a.add (i * 5)).block, (a.add (i * 5)).off + 1, none⟩ = some (.int .i64 q.2.1) ∧ W.cell? ⟨(a.add (i * 5)).block, (a.add (i * 5)).off + 2, none⟩ = some (.int .i64 q.2.2.1) ∧ W.cell? ⟨(a.add (i * 5)).block, (a.add (i * 5)).off + 3, none⟩ = some (.int .i64 q.2.2.2.1) ∧ W.cell? ⟨(a.add (i * 5)).block, (a.add (i * 5)).off + 4, none⟩ = some (.int .i64 q.2.2.2.2)) ∧ CI q := by
      intro i hil
      obtain ⟨cs, h1, h2⟩ := hi i (by omega)
      rw [cells_ins] at h1
      obtain ⟨_, hlen, hcell⟩ := World.cells?_some h1
      obtain ⟨ys, k, _, _, _, hyl, hg⟩ := DataW.trod_struct Tryz.underlying42 h2
      match ys, hyl, cs, hlen with
      | [y0, y1, y2, y3, y4], _, [v0, v1, v2, v3, v4], _ =>
        have g0 : DataW.trod enc Tryz.prog W 0 (fun _ => true) true k 3 [v0] = some y0 := by have := hg 0 _ rfl; simpa [cells_int] using this
        have g1 : DataW.trod enc Tryz.prog W 0 (fun _ => true) true k 3 [v1] = some y1 := by have := hg 1 _ rfl; simpa [cells_int] using this
        have g2 : DataW.trod enc Tryz.prog W 0 (fun _ => true) true k 3 [v2] = some y2 := by have := hg 2 _ rfl; simpa [cells_int] using this
        have g3 : DataW.trod enc Tryz.prog W 0 (fun _ => true) true k 3 [v3] = some y3 := by have := hg 3 _ rfl; simpa [cells_int] using this
        have g4 : DataW.trod enc Tryz.prog W 0 (fun _ => true) true k 3 [v4] = some y4 := by have := hg 4 _ rfl; simpa [cells_int] using this
        obtain ⟨z0, e0, _, f0⟩ := DataW.trod_int Tryz.underlying3 g0
        obtain ⟨z1, e1, _, f1⟩ := DataW.trod_int Tryz.underlying3 g1
        obtain ⟨z2, e2, _, f2⟩ := DataW.trod_int Tryz.underlying3 g2
        obtain ⟨z3, e3, _, f3⟩ := DataW.trod_int Tryz.underlying3 g3
        obtain ⟨z4, e4, _, f4⟩ := DataW.trod_int Tryz.underlying3 g4
        simp at e0 e1 e2 e3 e4
        subst e0; subst e1; subst e2; subst e3; subst e4
        have c0 := hcell 0 (by omega)
        have c1 := hcell 1 (by omega)
        have c2 := hcell 2 (by omega)
        have c3 := hcell 3 (by omega)
        have c4 := hcell 4 (by omega)
        exact ⟨(z0, z1, z2, z3, z4), ⟨by simpa [add_add] using c0, c1, c2, c3, c4⟩, in_wf f0, in_wf f1, in_wf f2, in_wf f3, in_wf f4⟩
    obtain ⟨q, hq⟩ := choose_lt each
    refine ⟨(List.range len).map q, ⟨some a, cap, by simp, fun j o h => ?_⟩, fun x hx => ?_⟩
    · rw [List.getElem?_map] at h
      by_cases hj : j < len
      · rw [List.getElem?_range hj] at h
        simp at h
        have := (hq j hj).1
        rw [h] at this
        exact ⟨a, rfl, this⟩
      · rw [List.getElem?_eq_none (by simp; omega)] at h
        cases h
    · obtain ⟨j, hj, rfl⟩ := List.mem_map.1 hx
      exact (hq j (by simpa using hj)).2
set_option maxRecDepth 100000 in
theorem outs_of_trod {H : Type} {enc : TypeId × Value → H} {W : World} {k : Nat} {u : Value} {y : DataW H × List MemPlace} (h : DataW.trod enc Tryz.prog W 0 (fun _ => true) true k 23 [u] = some y) : ∃ l : List O, ReadsO W u l := by
  rcases open_slice Tryz.underlying23 h with ⟨hcs, hx⟩ | ⟨a, len, cap, m, n, D, Pl, hcs, _, hl, hm, hmm, hx, hi⟩
  · simp at hcs
    subst hcs
    exact ⟨[], none, 0, rfl, fun j o h => by cases h⟩
  · simp at hcs
    subst hcs
    simp only [if_true] at hmm
    have each : ∀ i, i < len → ∃ q : O × Value × Value, W.cell? (a.add (i * 4)) = some (.int .i64 q.1.ip) ∧ W.cell? ⟨(a.add (i * 4)).block, (a.add (i * 4)).off + 1, none⟩ = some (.int .i64 q.1.steps) ∧ W.cell? ⟨(a.add (i * 4)).block, (a.add (i * 4)).off + 2, none⟩ = some q.2.1 ∧ W.cell? ⟨(a.add (i * 4)).block, (a.add (i * 4)).off + 3, none⟩ = some q.2.2 ∧ Reads W q.2.1 q.1.stack ∧ Reads W q.2.2 q.1.back := by
      intro i hil
      obtain ⟨cs, h1, h2⟩ := hi i (by omega)
      rw [cells_out] at h1
      obtain ⟨_, hlen, hcell⟩ := World.cells?_some h1
      obtain ⟨ys, k, _, _, _, hyl, hg⟩ := DataW.trod_struct Tryz.underlying58 h2
      match ys, hyl, cs, hlen with
      | [y0, y1, y2, y3], _, [v0, v1, v2, v3], _ =>
        have g0 : DataW.trod enc Tryz.prog W 0 (fun _ => true) true k 3 [v0] = some y0 := by have := hg 0 _ rfl; simpa [cells_int, cells_ints] using this
        have g1 : DataW.trod enc Tryz.prog W 0 (fun _ => true) true k 3 [v1] = some y1 := by have := hg 1 _ rfl; simpa [cells_int, cells_ints] using this
        have g2 : DataW.trod enc Tryz.prog W 0 (fun _ => true) true k 24 [v2] = some y2 := by have := hg 2 _ rfl; simpa [cells_int, cells_ints] using this
        have g3 : DataW.trod enc Tryz.prog W 0 (fun _ => true) true k 24 [v3] = some y3 := by have := hg 3 _ rfl; simpa [cells_int, cells_ints] using this
        obtain ⟨z0, e0, _, f0⟩ := DataW.trod_int Tryz.underlying3 g0
        obtain ⟨z1, e1, _, f1⟩ := DataW.trod_int Tryz.underlying3 g1
        obtain ⟨x2, r2, _⟩ := reads_of_trod g2
        obtain ⟨x3, r3, _⟩ := reads_of_trod g3
        simp at e0 e1
        subst e0; subst e1
        have c0 := hcell 0 (by omega)
        have c1 := hcell 1 (by omega)
        have c2 := hcell 2 (by omega)
        have c3 := hcell 3 (by omega)
        exact ⟨(⟨z0, z1, x2, x3⟩, v2, v3), by simpa [add_add] using c0, c1, c2, c3, r2, r3⟩
    obtain ⟨q, hq⟩ := choose_lt each
    refine ⟨(List.range len).map fun i => (q i).1, some a, cap, by simp, fun j o h => ?_⟩
    rw [List.getElem?_map] at h
    by_cases hj : j < len
    · rw [List.getElem?_range hj] at h
      simp at h
      have := hq j hj
      rw [h] at this
      exact ⟨a, (q j).2.1, (q j).2.2, rfl, this⟩
    · rw [List.getElem?_eq_none (by simp; omega)] at h
      cases h
set_option maxRecDepth 100000 in
theorem traceArgOf {H : Type} {enc : TypeId × Value → H} {W : World} {base : Nat} {v : Value} {d : DataW H} {p : List MemPlace} (hv : Value.okWide Tryz.prog W .any base 26 v) (h : DataW.Trod enc Tryz.prog W 0 (fun _ => true) true 26 v d p) : ∃ t, ReadsT W v t ∧ CT t := by
  obtain ⟨cs, rfl, hsz⟩ := okWide_struct Tryz.underlying26 hv
  obtain ⟨fuel, hf⟩ := h
  have hsz : cs.size = 9 := hsz.trans cells_tr
  obtain ⟨ys, k, _, _, _, hyl, hg⟩ := DataW.trod_struct Tryz.underlying26 hf
  match ys, hyl, cs, hsz with
  | [y0, y1, y2, y3, y4, y5, y6, y7, y8], _, ⟨[c0, c1, c2, c3, c4, c5, c6, c7, c8]⟩, _ =>
    have g0 : DataW.trod enc Tryz.prog W 0 (fun _ => true) true k 3 [c0] = some y0 := by have := hg 0 _ rfl; simpa [cells_int, cells_ints, cells_insv, cells_outs, Value.cells] using this
    have g1 : DataW.trod enc Tryz.prog W 0 (fun _ => true) true k 3 [c1] = some y1 := by have := hg 1 _ rfl; simpa [cells_int, cells_ints, cells_insv, cells_outs, Value.cells] using this
    have g2 : DataW.trod enc Tryz.prog W 0 (fun _ => true) true k 3 [c2] = some y2 := by have := hg 2 _ rfl; simpa [cells_int, cells_ints, cells_insv, cells_outs, Value.cells] using this
    have g3 : DataW.trod enc Tryz.prog W 0 (fun _ => true) true k 3 [c3] = some y3 := by have := hg 3 _ rfl; simpa [cells_int, cells_ints, cells_insv, cells_outs, Value.cells] using this
    have g4 : DataW.trod enc Tryz.prog W 0 (fun _ => true) true k 3 [c4] = some y4 := by have := hg 4 _ rfl; simpa [cells_int, cells_ints, cells_insv, cells_outs, Value.cells] using this
    have g5 : DataW.trod enc Tryz.prog W 0 (fun _ => true) true k 22 [c5] = some y5 := by have := hg 5 _ rfl; simpa [cells_int, cells_ints, cells_insv, cells_outs, Value.cells] using this
    have g6 : DataW.trod enc Tryz.prog W 0 (fun _ => true) true k 23 [c6] = some y6 := by have := hg 6 _ rfl; simpa [cells_int, cells_ints, cells_insv, cells_outs, Value.cells] using this
    have g7 : DataW.trod enc Tryz.prog W 0 (fun _ => true) true k 3 [c7] = some y7 := by have := hg 7 _ rfl; simpa [cells_int, cells_ints, cells_insv, cells_outs, Value.cells] using this
    have g8 : DataW.trod enc Tryz.prog W 0 (fun _ => true) true k 24 [c8] = some y8 := by have := hg 8 _ rfl; simpa [cells_int, cells_ints, cells_insv, cells_outs, Value.cells] using this
    obtain ⟨z0, e0, _, f0⟩ := DataW.trod_int Tryz.underlying3 g0
    obtain ⟨z1, e1, _, f1⟩ := DataW.trod_int Tryz.underlying3 g1
    obtain ⟨z2, e2, _, f2⟩ := DataW.trod_int Tryz.underlying3 g2
    obtain ⟨z3, e3, _, f3⟩ := DataW.trod_int Tryz.underlying3 g3
    obtain ⟨z4, e4, _, f4⟩ := DataW.trod_int Tryz.underlying3 g4
    obtain ⟨z7, e7, _, f7⟩ := DataW.trod_int Tryz.underlying3 g7
    obtain ⟨x5, r5, n5⟩ := ins_of_trod g5
    obtain ⟨x6, r6⟩ := outs_of_trod g6
    obtain ⟨x8, r8, n8⟩ := reads_of_trod g8
    simp at e0 e1 e2 e3 e4 e7
    subst e0; subst e1; subst e2; subst e3; subst e4; subst e7
    exact ⟨⟨z0, z1, z2, z3, z4, x5, x6, z7, x8⟩, ⟨c5, c6, c8, rfl, r5, r6, r8⟩, in_wf f0, n5, n8⟩
end Go.Proofs.YtpecingkoodmfaaGreatDoor.Ir
/- Do lists bear their marks? -/
namespace Go.Proofs.YtpecingkoodmfaaGreatDoor
open Go.RowKit Book
set_option linter.unusedSimpArgs false
set_option linter.unusedVariables false
theorem intMarks_eq (i a n : Nat) : intMarks i a n = ((List.range n).map fun j => markI i (a + j)).map (.int .i64) := by simp [intMarks]
set_option maxHeartbeats 2000000 in
theorem markedInts_any (B : Nat) (v : Value) (ls : List (Value × List Value)) (w : World) (hs : Owns w B 24 v (ls.map (·.1))) (hl : ∀ k ∈ ls, Owns w B 3 k.1 k.2) (hf : ls.length ≤ 250) (hm : ∀ i k, ls[i]? = some k → k.2 = intMarks i 0 k.2.length ∧ k.2.length ≤ 2000000) :
    Calls Tryz.prog 79 #[v] w fun e w' => e = .returned (.bool true) ∧ Below w.heap.size w w' := by
  obtain ⟨ao, cap, hv⟩ := hs.slice
  rw [List.length_map] at hv
  obtain ⟨L, hn⟩ : ∃ n, ls.length = n := ⟨_, rfl⟩
  rw [hn] at hv hf
  subst hv
  have HS := Lib.hid hs
  have HL := Lib.hid hl
  have HN := Lib.hid hn
  have HM := Lib.hid hm
  clear hs hl hn hm
  go_enter Tryz.func79, Tryz.ntmps79
  go_wp2
  go_loopg [3] L (fun g i wr => ∃ j : Nat, g = L - j ∧ j ≤ L ∧ i = .int .i64 j ∧ Hid (Below w.heap.size w wr))
  case atStart => exact ⟨0, rfl, Nat.zero_le _, rfl, Below.refl _ _⟩
  case round =>
    obtain ⟨j, rfl, hj, rfl, HB⟩ := hrel
    by_cases hlt : j < L
    · obtain ⟨⟨v, xs⟩, hk⟩ : ∃ k, ls[j]? = some k := ⟨_, List.getElem?_eq_getElem (by rw [HN.out]; exact hlt)⟩
      have ho := (HL.out _ (List.mem_of_getElem? hk)).below HB.out
      obtain ⟨gS, cS, e1, hcS, _, _⟩ := HS.out.row (by rw [List.length_map, HN.out]; omega)
      rw [List.length_map, HN.out] at e1
      simp only [Value.slice.injEq, true_and] at e1
      obtain ⟨rfl, rfl⟩ := e1
      have k0 := hcS j v (by rw [List.getElem?_map, hk]; rfl)
      have k1 := (Stirred.of_below HB.out []).cell (List.not_mem_nil) k0
      obtain ⟨n, hn⟩ : ∃ n, xs.length = n := ⟨_, rfl⟩
      have hxs := (HM.out _ _ hk).1
      have hn6 := (HM.out _ _ hk).2
      dsimp only at hxs hn6 ho
      rw [hn] at hxs hn6
      subst hxs
      obtain ⟨bo, bc, hbv⟩ := ho.slice
      rw [hn] at hbv
      subst hbv
      have HO := Lib.hid ho
      have hj0 : (0 : Int) ≤ (j : Int) := Int.natCast_nonneg _
      have hj1 : (j : Int) < (L : Int) := by omega
      have C := fun w => Lib.hid (markInts_any j 0 n (by omega) (by omega) (by omega) w)
      clear ho hk hn hcS k0
      go_wp2_with fail
      go_region_held3 (fun w' => w'.cell? ⟨gS, j, none⟩ = some (.slice bo n bc) ∧ Hid (Below wr.heap.size wr w'))
        (first
          | exact ⟨(Stirred.of_below HB2.out []).cell (List.not_mem_nil) k1, HB2⟩
          | exact ⟨(Stirred.of_below HB1.out []).cell (List.not_mem_nil) k1, HB1⟩
          | exact ⟨k1, (Below.refl wr.heap.size wr).drew⟩)
        (first
          | (go_at_call 105; refine (C _).out.mono ?_; rintro e w1 ⟨f, rfl, hf, hb⟩; have HB1 := Lib.hid ((Below.refl wr.heap.size wr).drew.trans hb); have HF := Lib.hid hf; clear hf hb)
          | (go_at_call 21; have hf := HF.out; have ho := HO.out.below HB1.out; rw [intMarks_eq] at hf ho; refine (sameInts_any _ _ _ _ _ _ ho hf (by simp; omega)).mono ?_; clear hf ho; rintro e w2 ⟨rfl, q, hq⟩; have HB2 := Lib.hid (show Below wr.heap.size wr w2 by rw [hq]; exact HB1.out.trans (bk_below_drewN _ _ _)); clear hq))
      all_goals go_wp2
      go_roundg (L - (j + 1))
      case measure => omega
      case rel => exact ⟨j + 1, rfl, by omega, by go_num, HB.out.trans (HB2.out.mono HB.out.size)⟩
    · obtain rfl : j = L := by omega
      go_wp2
      go_ret
      exact ⟨rfl, HB.out⟩
end Go.Proofs.YtpecingkoodmfaaGreatDoor
/- Lists that were marked bear marks. -/
namespace Go.Proofs.YtpecingkoodmfaaGreatDoor
open Book
theorem done_marks {ls cur : List (Value × List Value)} {mk : Nat → Nat → List Value} (h : Done mk ls ls.length cur) (hm : ∀ i n, (mk i n).length = n) (most : Nat) (hl : ∀ k ∈ ls, k.2.length ≤ most) : ∀ i k, cur[i]? = some k → k.2 = mk i k.2.length ∧ k.2.length ≤ most := by
  intro i k hk
  have hi : i < ls.length := by rw [← h.len]; exact (List.getElem?_eq_some_iff.1 hk).1
  have h1 : ls[i]? = some ls[i] := List.getElem?_eq_getElem hi
  have h2 := h.done i _ hi h1
  rw [hk] at h2
  simp only [Option.some.injEq] at h2
  subst h2
  dsimp only
  rw [hm]
  exact ⟨rfl, hl _ (List.mem_of_getElem? h1)⟩
end Go.Proofs.YtpecingkoodmfaaGreatDoor
/- A book that keeps lists of one kind alone (Ints): is each as it was, and apart from the others? -/
namespace Go.Proofs.YtpecingkoodmfaaGreatDoor
open Go.RowKit Book
set_option linter.unusedSimpArgs false
set_option linter.unusedVariables false
/-- a book that keeps one kind alone -/
structure BookInts (w : World) (p : Nat) (vS : Value) : Prop where
  c2 : w.cell? ⟨p, 2, none⟩ = some vS
  c0 : w.cell? ⟨p, 0, none⟩ = some (.slice none 0 0)
  c4 : w.cell? ⟨p, 4, none⟩ = some (.slice none 0 0)
  c6 : w.cell? ⟨p, 6, none⟩ = some (.slice none 0 0)
  c8 : w.cell? ⟨p, 8, none⟩ = some (.slice none 0 0)
  c10 : w.cell? ⟨p, 10, none⟩ = some (.slice none 0 0)
theorem BookInts.stirred {w w' : World} {bs : List Nat} {p : Nat} {vS : Value} (h : BookInts w p vS) (ht : Stirred w w' bs) (hn : p ∉ bs) : BookInts w' p vS :=
  ⟨ht.cell hn h.c2, ht.cell hn h.c0, ht.cell hn h.c4, ht.cell hn h.c6, ht.cell hn h.c8, ht.cell hn h.c10⟩
set_option maxHeartbeats 4000000 in
theorem apartInts_any (p B : Nat) (vS vW : Value) (ls : List (Value × List Value)) (w : World) (hp : p < B) (hB : B ≤ w.heap.size) (hb : BookInts w p vS) (c1 : w.cell? ⟨p, 3, none⟩ = some vW) (bs : List Nat) (hk : Kept w B 24 3 goodInts vS vW ls bs) :
    Calls Tryz.prog 25 #[.pointer (some ⟨p, 0, none⟩)] w fun e w' => e = .returned (.bool true) ∧ Below B w w' := by
  have hlen : ∀ k ∈ ls, k.2.length ≤ 1000000 := fun k hkm => by obtain ⟨ss, h1, h2⟩ := hk.fine k hkm; rw [h1, List.length_map]; exact h2
  have HK := Lib.hid hk
  have HL := Lib.hid hlen
  have HT := Lib.hid hb
  have HC1 := Lib.hid c1
  have hpb := Lib.hid (fun h => Nat.lt_irrefl p (Nat.lt_of_lt_of_le hp (hk.lists.lt p h).1) : p ∉ blocks ls)
  clear hlen hb c1 hk
  go_enter Tryz.func25, Tryz.ntmps25
  have C := Lib.hid (stillTexts_none p w HT.out.c0)
  go_wp2_with fail
  refine C.out.mono ?_
  rintro e wz ⟨rfl, hwz⟩
  subst wz
  clear C
  have C := Lib.hid (stillInts_any p B vS vW ls w HT.out.c2 HC1.out bs HK.out)
  go_wp2_with fail
  refine C.out.mono ?_
  rintro e w0 ⟨rfl, q, hq⟩
  have hs0 : Stirred w w0 [] := by rw [hq]; exact Stirred.drewN _ _ _
  have HS0 := Lib.hid hs0
  have HB0 := Lib.hid (show Below w.heap.size w w0 by rw [hq]; exact bk_below_drewN _ _ _)
  have T0 := Lib.hid (HT.out.stirred hs0 List.not_mem_nil)
  have L0 := Lib.hid (HK.out.lists.below HB0.out)
  clear hq hs0 C
  have C := Lib.hid (stillWords_none p w0 T0.out.c4)
  go_wp2_with fail
  refine C.out.mono ?_
  rintro e wz ⟨rfl, hwz⟩
  subst wz
  clear C
  have C := Lib.hid (stillSeens_none p w0 T0.out.c6)
  go_wp2_with fail
  refine C.out.mono ?_
  rintro e wz ⟨rfl, hwz⟩
  subst wz
  clear C
  have C := Lib.hid (stillCodes_none p w0 T0.out.c8)
  go_wp2_with fail
  refine C.out.mono ?_
  rintro e wz ⟨rfl, hwz⟩
  subst wz
  clear C
  have C := Lib.hid (stillExits_none p w0 T0.out.c10)
  go_wp2_with fail
  refine C.out.mono ?_
  rintro e wz ⟨rfl, hwz⟩
  subst wz
  clear C
  have C := Lib.hid (putExits_none p w0 T0.out.c10)
  go_wp2_with fail
  refine C.out.mono ?_
  rintro e wz ⟨rfl, hwz⟩
  subst wz
  clear C
  have C := Lib.hid (putTexts_none p w0 T0.out.c0)
  go_wp2_with fail
  refine C.out.mono ?_
  rintro e wz ⟨rfl, hwz⟩
  subst wz
  clear C
  have C := Lib.hid (putInts_any p B vS ls w0 hp T0.out.c2 L0.out HK.out.few HL.out)
  go_wp2_with fail
  refine C.out.mono ?_
  rintro e w1 ⟨rfl, cur, hd, hl, ht⟩
  have D1 := Lib.hid hd
  have L1 := Lib.hid hl
  have S1 := Lib.hid ((HS0.out.more (fun _ h => (by cases h))).trans ht (fun k hk => .inl hk) : Stirred w w1 (blocks ls))
  have T1 := Lib.hid (T0.out.stirred ht hpb.out)
  clear C hd hl ht
  have C := Lib.hid (putWords_none p w1 T1.out.c4)
  go_wp2_with fail
  refine C.out.mono ?_
  rintro e wz ⟨rfl, hwz⟩
  subst wz
  clear C
  have C := Lib.hid (putSeens_none p w1 T1.out.c6)
  go_wp2_with fail
  refine C.out.mono ?_
  rintro e wz ⟨rfl, hwz⟩
  subst wz
  clear C
  have C := Lib.hid (putCodes_none p w1 T1.out.c8)
  go_wp2_with fail
  refine C.out.mono ?_
  rintro e wz ⟨rfl, hwz⟩
  subst wz
  clear C
  have C := Lib.hid (growTexts_none p w1 T1.out.c0)
  go_wp2_with fail
  refine C.out.mono ?_
  rintro e wz ⟨rfl, hwz⟩
  subst wz
  clear C
  have hmk := Lib.hid (done_marks D1.out (fun i n => intMarks_length i 0 n) 1000000 HL.out)
  have C := Lib.hid (growInts_any p B vS cur w1 hp (Nat.le_trans hB S1.out.size) T1.out.c2 L1.out (by rw [D1.out.len]; exact HK.out.few) (fun k hk => by obtain ⟨i, hi⟩ := List.getElem?_of_mem hk; exact (hmk.out i k hi).2) (fun i k hi => (hmk.out i k hi).1))
  go_wp2_with fail
  refine C.out.mono ?_
  rintro e w2 ⟨vO, gs, rfl, hg⟩
  have G2 := Lib.hid hg
  have hst : Stirred w1 w2 (blocks ls) := by have := hg.stir; rw [D1.out.blocks] at this; exact this
  have S2 := Lib.hid (S1.out.trans hst (fun k hk => .inl hk))
  have T2 := Lib.hid (T1.out.stirred hst hpb.out)
  clear C hg hst
  have C := Lib.hid (growWords_none p w2 T2.out.c4)
  go_wp2_with fail
  refine C.out.mono ?_
  rintro e wz ⟨rfl, hwz⟩
  subst wz
  clear C
  have C := Lib.hid (growSeens_none p w2 T2.out.c6)
  go_wp2_with fail
  refine C.out.mono ?_
  rintro e wz ⟨rfl, hwz⟩
  subst wz
  clear C
  have C := Lib.hid (growCodes_none p w2 T2.out.c8)
  go_wp2_with fail
  refine C.out.mono ?_
  rintro e wz ⟨rfl, hwz⟩
  subst wz
  clear C
  have C := Lib.hid (growExits_none p w2 T2.out.c10)
  go_wp2_with fail
  refine C.out.mono ?_
  rintro e wz ⟨rfl, hwz⟩
  subst wz
  clear C
  have c0 := T2.out.c0
  have c2 := T2.out.c2
  have c4 := T2.out.c4
  have c6 := T2.out.c6
  have c8 := T2.out.c8
  have c10 := T2.out.c10
  have C := Lib.hid (markedTexts_none w2)
  go_wp2_with fail
  refine C.out.mono ?_
  rintro e wz ⟨rfl, hwz⟩
  subst wz
  clear C
  have C := Lib.hid (markedTexts_none w2)
  go_wp2_with fail
  refine C.out.mono ?_
  rintro e wz ⟨rfl, hwz⟩
  subst wz
  clear C
  clear c0 c2 c4 c6 c8 c10
  have hlg := Lib.hid (show gs.length ≤ 250 by rw [G2.out.len, D1.out.len]; exact HK.out.few)
  have C := Lib.hid (markedInts_any B vO gs w2 (G2.out.out.from (Nat.le_trans hB S1.out.size)) G2.out.list hlg.out G2.out.mark)
  go_wp2_with fail
  refine C.out.mono ?_
  rintro e w3 ⟨rfl, hb⟩
  have S3 := Lib.hid (S2.out.trans (Stirred.of_below hb []) (fun _ h => (by cases h)))
  have T3 := Lib.hid (T2.out.stirred (Stirred.of_below hb []) List.not_mem_nil)
  have L3 := Lib.hid (G2.out.old.below hb)
  clear C hb
  have c0 := T3.out.c0
  have c2 := T3.out.c2
  have c4 := T3.out.c4
  have c6 := T3.out.c6
  have c8 := T3.out.c8
  have c10 := T3.out.c10
  have C := Lib.hid (markedInts_any B vS cur w3 L3.out.spine L3.out.list (by rw [D1.out.len]; exact HK.out.few) (fun i k hi => ⟨(hmk.out i k hi).1, Nat.le_trans (hmk.out i k hi).2 (by decide)⟩))
  go_wp2_with fail
  refine C.out.mono ?_
  rintro e w4 ⟨rfl, hb⟩
  have S4 := Lib.hid (S3.out.trans (Stirred.of_below hb []) (fun _ h => (by cases h)))
  have T4 := Lib.hid (T3.out.stirred (Stirred.of_below hb []) List.not_mem_nil)
  clear C hb
  clear c0 c2 c4 c6 c8 c10
  have c0 := T4.out.c0
  have c2 := T4.out.c2
  have c4 := T4.out.c4
  have c6 := T4.out.c6
  have c8 := T4.out.c8
  have c10 := T4.out.c10
  have C := Lib.hid (markedWords_none w4)
  go_wp2_with fail
  refine C.out.mono ?_
  rintro e wz ⟨rfl, hwz⟩
  subst wz
  clear C
  have C := Lib.hid (markedWords_none w4)
  go_wp2_with fail
  refine C.out.mono ?_
  rintro e wz ⟨rfl, hwz⟩
  subst wz
  clear C
  have C := Lib.hid (markedSeens_none w4)
  go_wp2_with fail
  refine C.out.mono ?_
  rintro e wz ⟨rfl, hwz⟩
  subst wz
  clear C
  have C := Lib.hid (markedSeens_none w4)
  go_wp2_with fail
  refine C.out.mono ?_
  rintro e wz ⟨rfl, hwz⟩
  subst wz
  clear C
  have C := Lib.hid (markedCodes_none w4)
  go_wp2_with fail
  refine C.out.mono ?_
  rintro e wz ⟨rfl, hwz⟩
  subst wz
  clear C
  have C := Lib.hid (markedCodes_none w4)
  go_wp2_with fail
  refine C.out.mono ?_
  rintro e wz ⟨rfl, hwz⟩
  subst wz
  clear C
  have C := Lib.hid (markedExits_none w4)
  go_wp2_with fail
  refine C.out.mono ?_
  rintro e wz ⟨rfl, hwz⟩
  subst wz
  clear C
  have C := Lib.hid (markedExits_none w4)
  go_wp2_with fail
  refine C.out.mono ?_
  rintro e wz ⟨rfl, hwz⟩
  subst wz
  clear C
  go_wp2
  go_ret
  exact ⟨rfl, S4.out.below (fun k hk => (HK.out.lists.lt k hk).1) hB⟩
end Go.Proofs.YtpecingkoodmfaaGreatDoor
/- Numbers as digits, and digits as numbers, in plain functions: no program in sight. -/
namespace Go.Proofs.YtpecingkoodmfaaGreatDoor.Dig
open Go.RowKit (wrap64)

def upD (d : Nat) : UInt8 := UInt8.ofNat (if d < 10 then 48 + d else 55 + d)
def loD (d : Nat) : UInt8 := UInt8.ofNat (if d < 10 then 48 + d else 87 + d)
/-- the j lowest digits of u -/
def suf (f : Nat → UInt8) (b u : Nat) : Nat → List UInt8
  | 0 => []
  | j + 1 => f (u / b ^ j % b) :: suf f b u j
def ndF (b : Nat) : Nat → Nat → Nat
  | 0, _ => 1
  | k + 1, u => if u < b then 1 else ndF b k (u / b) + 1
/-- how many digits a number has -/
def nd (b u : Nat) : Nat := ndF b 64 u
def digs (f : Nat → UInt8) (b u : Nat) : List UInt8 := suf f b u (nd b u)
def Fits (b u n : Nat) : Prop := 1 ≤ n ∧ u < b ^ n ∧ (n = 1 ∨ b ^ (n - 1) ≤ u)

theorem ndF_fits {b : Nat} (hb : 2 ≤ b) : ∀ (k u : Nat), u < 2 ^ (k + 1) → Fits b u (ndF b k u)
  | 0, u, h => ⟨Nat.le_refl _, by simp only [ndF, Nat.pow_one]; simp at h; omega, .inl rfl⟩
  | k + 1, u, h => by
    unfold ndF
    by_cases hu : u < b
    · rw [if_pos hu]; exact ⟨Nat.le_refl _, by simpa using hu, .inl rfl⟩
    · rw [if_neg hu]
      have hd : u / b < 2 ^ (k + 1) := by
        rw [Nat.div_lt_iff_lt_mul (by omega)]
        rw [Nat.pow_succ] at h
        exact Nat.lt_of_lt_of_le h (Nat.mul_le_mul_left _ hb)
      obtain ⟨h1, h2, h3⟩ := ndF_fits hb k (u / b) hd
      refine ⟨by omega, ?_, .inr ?_⟩
      · rw [Nat.pow_succ]; exact (Nat.div_lt_iff_lt_mul (by omega)).1 h2
      · rw [Nat.add_sub_cancel]
        rcases h3 with h3 | h3
        · rw [h3, Nat.pow_one]; omega
        · have h4 := (Nat.le_div_iff_mul_le (by omega)).1 h3
          rw [← Nat.pow_succ] at h4
          rwa [show (ndF b k (u / b) - 1).succ = ndF b k (u / b) from by omega] at h4
theorem nd_fits {b u : Nat} (hb : 2 ≤ b) (hu : u < 18446744073709551616) : Fits b u (nd b u) :=
  ndF_fits hb 64 u (Nat.lt_of_lt_of_le hu (by decide))
theorem fits_one {b u m n : Nat} (hb : 2 ≤ b) (hm : Fits b u m) (hn : Fits b u n) : m = n := by
  have key : ∀ {m n : Nat}, Fits b u m → Fits b u n → ¬ m < n := fun {m n} hm hn hlt => by
    have h1 := hm.2.1
    rcases hn.2.2 with h2 | h2
    · have := hm.1; omega
    · have h3 : b ^ m ≤ b ^ (n - 1) := Nat.pow_le_pow_right (by omega) (by omega)
      omega
  have h1 := key hm hn
  have h2 := key hn hm
  omega
theorem nd_eq {b u n : Nat} (hb : 2 ≤ b) (hu : u < 18446744073709551616) (hn : Fits b u n) : nd b u = n := fits_one hb (nd_fits hb hu) hn
theorem nd_le {b u : Nat} (hb : 2 ≤ b) (hu : u < 18446744073709551616) : nd b u ≤ 64 := by
  obtain ⟨h1, h2, h3⟩ := nd_fits hb hu
  rcases h3 with h3 | h3
  · omega
  · rcases Nat.lt_or_ge 64 (nd b u) with h | h
    · have h4 : 2 ^ 64 ≤ b ^ (nd b u - 1) := Nat.le_trans (Nat.pow_le_pow_left hb 64) (Nat.pow_le_pow_right (by omega) (by omega))
      have : (2 : Nat) ^ 64 = 18446744073709551616 := by decide
      omega
    · exact h
theorem suf_length (f : Nat → UInt8) (b u : Nat) : ∀ j, (suf f b u j).length = j
  | 0 => rfl
  | j + 1 => by simp [suf, suf_length f b u j]
theorem digs_length (f : Nat → UInt8) (b u : Nat) : (digs f b u).length = nd b u := suf_length f b u _
theorem suf_snoc (f : Nat → UInt8) (b u : Nat) : ∀ j, suf f b u (j + 1) = suf f b (u / b) j ++ [f (u % b)]
  | 0 => by simp [suf]
  | j + 1 => by
    rw [suf, suf_snoc f b u j]
    show _ = f (u / b / b ^ j % b) :: suf f b (u / b) j ++ _
    rw [Nat.div_div_eq_div_mul, Nat.mul_comm b, ← Nat.pow_succ]
    rfl
theorem suf_map (f g h : Nat → UInt8) (k : UInt8 → UInt8) (b u : Nat) (hb : 0 < b) (he : ∀ d, d < b → k (f d) = h d) : ∀ j, (suf f b u j).map k = suf h b u j
  | 0 => rfl
  | j + 1 => by simp only [suf, List.map_cons, suf_map f g h k b u hb he j, he _ (Nat.mod_lt _ hb)]
theorem suf_all (f : Nat → UInt8) (p : UInt8 → Prop) (b u : Nat) (hb : 0 < b) (he : ∀ d, d < b → p (f d)) : ∀ j, ∀ c ∈ suf f b u j, p c
  | 0, _, h => by cases h
  | j + 1, c, h => by
    rcases List.mem_cons.1 h with rfl | h
    · exact he _ (Nat.mod_lt _ hb)
    · exact suf_all f p b u hb he j c h
theorem upper_lo_fin : ∀ d : Fin 36, Lib.upperB (loD d.val) = upD d.val := by decide
theorem upper_lo {d : Nat} (h : d < 36) : Lib.upperB (loD d) = upD d := upper_lo_fin ⟨d, h⟩
theorem lo_ascii_fin : ∀ d : Fin 36, (loD d.val).toNat < 128 := by decide
theorem lo_ascii {d : Nat} (h : d < 36) : (loD d).toNat < 128 := lo_ascii_fin ⟨d, h⟩
theorem nDigits_fits (u : Nat) : Fits 10 u (Lib.nDigits u) := by
  refine ⟨Lib.nDigits_pos u, Lib.lt_pow_nDigits u, ?_⟩
  induction u using Nat.strongRecOn with
  | _ u ih =>
    by_cases h : u < 10
    · exact .inl (Lib.nDigits_small h)
    · rw [Lib.nDigits_big h, Nat.add_sub_cancel]
      have hp := Lib.nDigits_pos (u / 10)
      rcases ih (u / 10) (by omega) with h3 | h3
      · rw [h3]; right; omega
      · right
        have h4 := (Nat.le_div_iff_mul_le (by decide)).1 h3
        rw [← Nat.pow_succ, show (Lib.nDigits (u / 10) - 1).succ = Lib.nDigits (u / 10) from by omega] at h4
        exact h4
theorem dec_suf (f : Nat → UInt8) (hf : ∀ d, d < 10 → f d = UInt8.ofNat (48 + d)) (u : Nat) : Lib.decDigits u = suf f 10 u (Lib.nDigits u) := by
  induction u using Nat.strongRecOn with
  | _ u ih =>
    by_cases h : u < 10
    · rw [Lib.decDigits, dif_pos h, Lib.nDigits_small h]
      simp [suf, Nat.mod_eq_of_lt h, hf u h]
    · rw [Lib.decDigits, dif_neg h, Lib.nDigits_big h, suf_snoc, ih (u / 10) (by omega), hf _ (Nat.mod_lt _ (by decide))]
theorem dec_digs (f : Nat → UInt8) (hf : ∀ d, d < 10 → f d = UInt8.ofNat (48 + d)) (u : Nat) (hu : u < 18446744073709551616) : Lib.decDigits u = digs f 10 u := by
  rw [dec_suf f hf, digs, nd_eq (by decide) hu (nDigits_fits u)]

def rightB (base : Int) : Bool := decide (2 ≤ base) && decide (base ≤ 36)
def sgn (v : Int) : List UInt8 := if v < 0 then [45] else []
/-- what a number's digits are -/
def putV (f : Nat → UInt8) (v base : Int) : List UInt8 := sgn v ++ digs f base.toNat v.natAbs
theorem itoa_put {v : Int} (hv : v.natAbs < 18446744073709551616) : Lib.itoa v = putV loD v 10 := by
  unfold Lib.itoa putV sgn
  rw [show (10 : Int).toNat = 10 from rfl, ← dec_digs loD (fun d h => by unfold loD; rw [if_pos h]) _ hv]
  split
  · rfl
  · rw [show v.toNat = v.natAbs from by omega]; rfl
theorem put_upper (v base : Int) (h0 : 2 ≤ base) (h1 : base ≤ 36) : (putV loD v base).map Lib.upperB = putV upD v base := by
  unfold putV digs sgn
  rw [List.map_append, suf_map loD loD upD Lib.upperB _ _ (by omega) (fun d hd => upper_lo (by omega))]
  congr 1
  split <;> decide
theorem put_ascii (v base : Int) (h0 : 2 ≤ base) (h1 : base ≤ 36) : ∀ c ∈ putV loD v base, c.toNat < 128 := by
  intro c hc
  unfold putV digs sgn at hc
  rcases List.mem_append.1 hc with h | h
  · split at h
    · simp at h; subst h; decide
    · cases h
  · exact suf_all loD (fun c => c.toNat < 128) _ _ (by omega) (fun d hd => lo_ascii (by omega)) _ c h
theorem put_length (f : Nat → UInt8) (v base : Int) (h0 : 2 ≤ base) (hv : v.natAbs < 18446744073709551616) : 1 ≤ (putV f v base).length ∧ (putV f v base).length ≤ 65 := by
  unfold putV sgn
  rw [List.length_append, digs_length]
  have h1 := nd_le (b := base.toNat) (u := v.natAbs) (by omega) hv
  have h2 := (nd_fits (b := base.toNat) (u := v.natAbs) (by omega) hv).1
  split <;> simp <;> omega

/-- what a byte stands for; 36: none -/
def dig (c : UInt8) : Int :=
  if 48 ≤ c.toNat ∧ c.toNat ≤ 57 then c.toNat - 48
  else if 97 ≤ c.toNat ∧ c.toNat ≤ 122 then c.toNat - 87
  else if 65 ≤ c.toNat ∧ c.toNat ≤ 90 then c.toNat - 55
  else 36
def numL (b : Int) : Int → List UInt8 → Option Int
  | v, [] => some v
  | v, c :: r => if b ≤ dig c then none else numL b (wrap64 (wrap64 (v * b) + dig c)) r
def numV (l : List UInt8) (b : Int) : Option Int := if l = [] ∨ 70 < l.length then none else numL b 0 l
def signV (c : UInt8) : Int := if c = 36 then 16 else if c = 35 then 10 else if c = 37 then 2 else 0
def signed (l : List UInt8) (b : Int) : List UInt8 × Int := match l with
  | [] => ([], b)
  | c :: r => if signV c = 0 then (c :: r, b) else (r, signV c)
def minus (l : List UInt8) : List UInt8 × Bool := match l with
  | [] => ([], false)
  | c :: r => if c = 45 then (r, true) else (c :: r, false)
def quoted (l : List UInt8) : Option UInt8 := match l with
  | [a, c, b] => if a = 39 ∧ b = 39 then some c else none
  | _ => none
def withSign (neg : Bool) : Option Int → Int × Bool
  | none => (0, false)
  | some v => (if neg then wrap64 (-v) else v, true)
/-- what a text is as a number -/
def getV (l : List UInt8) (base : Int) : Int × Bool :=
  if rightB base then
    match quoted l with
    | some c => (c.toNat, true)
    | none => withSign (minus (signed l base).1).2 (numV (minus (signed l base).1).1 (signed l base).2)
  else (0, false)

theorem wrap_step (x y k : Int) : wrap64 (wrap64 (wrap64 x * k) + y) = wrap64 (x * k + y) := by
  have h : wrap64 (wrap64 x * k) = wrap64 (x * k) := by
    unfold wrap64
    have e : ((x + 9223372036854775808) % 18446744073709551616 - 9223372036854775808) = x - 18446744073709551616 * ((x + 9223372036854775808) / 18446744073709551616) := by omega
    rw [e, Int.sub_mul, Int.mul_assoc, Int.mul_comm 18446744073709551616 (_ * k)]
    omega
  rw [h]; unfold wrap64; omega
theorem dig_up_fin : ∀ d : Fin 36, dig (upD d.val) = (d.val : Int) := by decide
theorem dig_up {d : Nat} (h : d < 36) : dig (upD d) = (d : Int) := dig_up_fin ⟨d, h⟩
theorem numL_suf (b u : Nat) (hb : 2 ≤ b) (h36 : b ≤ 36) : ∀ (j : Nat) (a : Int), numL b (wrap64 a) (suf upD b u j) = some (wrap64 (a * (b ^ j : Nat) + (u % b ^ j : Nat)))
  | 0, a => by simp [numL, suf, Nat.mod_one]
  | j + 1, a => by
    have hm : u / b ^ j % b < b := Nat.mod_lt _ (by omega)
    rw [suf, numL, dig_up (by omega), if_neg (by omega), wrap_step, numL_suf b u hb h36 j]
    congr 2
    have e : u % b ^ (j + 1) = (u / b ^ j % b) * b ^ j + u % b ^ j := by
      rw [Nat.pow_succ, Nat.mod_mul]
      rw [Nat.mul_comm (b ^ j)]; omega
    rw [e, Int.add_mul]
    have e2 : (b ^ (j + 1) : Nat) = b * b ^ j := by rw [Nat.pow_succ, Nat.mul_comm]
    rw [e2]
    push_cast
    rw [Int.mul_assoc]
    omega
theorem numV_digs {b u : Nat} (hb : 2 ≤ b) (h36 : b ≤ 36) (hu : u < 18446744073709551616) : numV (digs upD b u) b = some (wrap64 u) := by
  obtain ⟨h1, h2, h3⟩ := nd_fits hb hu
  have h4 := nd_le hb hu
  have hl := digs_length upD b u
  unfold numV
  rw [if_neg (by
    rintro (h | h)
    · rw [h] at hl; simp at hl; omega
    · omega)]
  have h := numL_suf b u hb h36 (nd b u) 0
  rw [show wrap64 0 = 0 from by unfold wrap64; omega] at h
  unfold digs
  rw [h, Int.zero_mul, Int.zero_add, Nat.mod_eq_of_lt h2]

theorem up_plain_fin : ∀ d : Fin 36, signV (upD d.val) = 0 ∧ upD d.val ≠ 45 ∧ upD d.val ≠ 39 := by decide
theorem up_plain {d : Nat} (h : d < 36) : signV (upD d) = 0 ∧ upD d ≠ 45 ∧ upD d ≠ 39 := up_plain_fin ⟨d, h⟩
/-- digits have neither a sign nor a minus nor an apostrophe -/
def Plain (c : UInt8) : Prop := signV c = 0 ∧ c ≠ 45 ∧ c ≠ 39
theorem digs_plain {b u : Nat} (hb : 2 ≤ b) (h36 : b ≤ 36) : ∀ c ∈ digs upD b u, Plain c :=
  suf_all upD Plain b u (by omega) (fun d hd => up_plain (by omega)) _
theorem quoted_head {c : UInt8} {r : List UInt8} (h : c ≠ 39) : quoted (c :: r) = none := by
  unfold quoted
  split
  · rename_i a x b e; rw [if_neg]; rintro ⟨rfl, _⟩; simp at e; exact h e.1
  · rfl
theorem neg_wrap {v : Int} (h0 : -9223372036854775808 ≤ v) (h : v < 0) : wrap64 (-wrap64 (v.natAbs : Int)) = v := by unfold wrap64; omega
theorem pos_wrap {v : Int} (h1 : v ≤ 9223372036854775807) (h : ¬ v < 0) : wrap64 (v.natAbs : Int) = v := by unfold wrap64; omega
theorem abs_lt {v : Int} (h0 : -9223372036854775808 ≤ v) (h1 : v ≤ 9223372036854775807) : v.natAbs < 18446744073709551616 := by omega
/-- a number's digits, behind the base's own sign: read they are the number -/
theorem tail_back {v : Int} {b : Nat} (hb : 2 ≤ b) (h36 : b ≤ 36) (h0 : -9223372036854775808 ≤ v) (h1 : v ≤ 9223372036854775807) :
    withSign (minus (putV upD v b)).2 (numV (minus (putV upD v b)).1 b) = (v, true) := by
  have hn := numV_digs hb h36 (abs_lt h0 h1)
  have hp := digs_plain (u := v.natAbs) hb h36
  have hl := digs_length upD b v.natAbs
  have hk := (nd_fits hb (abs_lt h0 h1)).1
  unfold putV sgn
  rw [Int.toNat_natCast]
  cases hd : digs upD b v.natAbs with
  | nil => rw [hd] at hl; simp at hl; omega
  | cons c r =>
    rw [hd] at hn hp
    by_cases h : v < 0
    · rw [if_pos h]
      show withSign (minus (45 :: c :: r)).2 (numV (minus (45 :: c :: r)).1 b) = _
      simp only [minus, if_true]
      rw [hn]
      simp only [withSign, if_true]
      rw [neg_wrap h0 h]
    · rw [if_neg h]
      have hc := (hp c List.mem_cons_self).2.1
      simp only [List.nil_append, minus]
      rw [if_neg hc, hn]
      simp only [withSign, Bool.false_eq_true, if_false]
      rw [pos_wrap h1 h]
theorem put_cons {v : Int} {b : Nat} (hb : 2 ≤ b) (h36 : b ≤ 36) (h0 : -9223372036854775808 ≤ v) (h1 : v ≤ 9223372036854775807) :
    ∃ c r, putV upD v b = c :: r ∧ signV c = 0 ∧ c ≠ 39 := by
  have hp := digs_plain (u := v.natAbs) hb h36
  have hl := digs_length upD b v.natAbs
  have hk := (nd_fits hb (abs_lt h0 h1)).1
  unfold putV sgn
  rw [Int.toNat_natCast]
  cases hd : digs upD b v.natAbs with
  | nil => rw [hd] at hl; simp at hl; omega
  | cons c r =>
    rw [hd] at hp
    by_cases h : v < 0
    · rw [if_pos h]; exact ⟨45, c :: r, rfl, by decide, by decide⟩
    · rw [if_neg h]; exact ⟨c, r, rfl, (hp c List.mem_cons_self).1, (hp c List.mem_cons_self).2.2⟩
theorem back {v base : Int} (hb : rightB base = true) (h0 : -9223372036854775808 ≤ v) (h1 : v ≤ 9223372036854775807) : getV (putV upD v base) base = (v, true) := by
  have hb' := hb
  simp only [rightB, Bool.and_eq_true, decide_eq_true_eq] at hb'
  obtain ⟨b, rfl⟩ := Int.eq_ofNat_of_zero_le (show 0 ≤ base by omega)
  obtain ⟨c, r, e, e1, e2⟩ := put_cons (v := v) (b := b) (by omega) (by omega) h0 h1
  have h := tail_back (v := v) (b := b) (by omega) (by omega) h0 h1
  unfold getV
  rw [if_pos hb]
  rw [e] at h ⊢
  rw [quoted_head e2]
  simp only [signed, if_pos e1]
  exact h
theorem back_signed {v base : Int} {b : Nat} {c : UInt8} (hb : rightB base = true) (hs : signV c = b) (hc : c ≠ 39) (hb2 : 2 ≤ b) (h36 : b ≤ 36) (h0 : -9223372036854775808 ≤ v) (h1 : v ≤ 9223372036854775807) :
    getV (c :: putV upD v b) base = (v, true) := by
  have h := tail_back (v := v) (b := b) hb2 h36 h0 h1
  unfold getV
  rw [if_pos hb, quoted_head hc]
  simp only [signed]
  rw [if_neg (by omega), hs]
  exact h
end Go.Proofs.YtpecingkoodmfaaGreatDoor.Dig
/- The walk of the document's own Put (hollowayref1: digits). -/
namespace Go.Proofs.YtpecingkoodmfaaGreatDoor
open Go.RowKit
set_option linter.unusedSimpArgs false
set_option linter.unusedVariables false

abbrev txt (l : List UInt8) : Value := .string ⟨l.toArray⟩
abbrev upText : ByteArray := ⟨#[48, 49, 50, 51, 52, 53, 54, 55, 56, 57, 65, 66, 67, 68, 69, 70, 71, 72, 73, 74, 75, 76, 77, 78, 79, 80, 81, 82, 83, 84, 85, 86, 87, 88, 89, 90]⟩
theorem up_piece_fin : ∀ k : Fin 36, (upText.data.toList.drop k.val).take 1 = [Dig.upD k.val] := by decide +kernel
theorem up_piece {k : Nat} (h : k < 36) : upText.extract k (k + 1) = ⟨[Dig.upD k].toArray⟩ := by
  rw [Lib.extract_eq, Nat.add_sub_cancel_left, up_piece_fin ⟨k, h⟩]
theorem txt_cons (c : UInt8) (l : List UInt8) : (⟨[c].toArray⟩ : ByteArray) ++ ⟨l.toArray⟩ = ⟨(c :: l).toArray⟩ := by
  apply ByteArray.ext; simp [ByteArray.data_append]
set_option maxHeartbeats 1000000 in
theorem refPut_wrong (v b : Int) (hb : Dig.rightB b = false) (w : World) :
    Calls Tryz.prog 12 #[.int .i64 v, .int .i64 b] w fun e w' => e = .returned (txt []) ∧ w = w' := by
  simp only [Dig.rightB, Bool.and_eq_false_iff, decide_eq_false_iff_not] at hb
  by_cases h0 : b < 2
  · clear hb
    go_enter Tryz.func12, Tryz.ntmps12
    go_wp2
    go_ret
    exact ⟨rfl, rfl⟩
  · have h1 : 36 < b := by omega
    clear hb
    go_enter Tryz.func12, Tryz.ntmps12
    go_wp2
    go_ret
    exact ⟨rfl, rfl⟩
def PutRel (b U j : Nat) (u s : Value) : Prop := j ≤ Dig.nd b U ∧ (j ≤ 1 ∨ b ^ (j - 1) ≤ U) ∧ u = .int .u64 (U / b ^ j : Nat) ∧ s = txt (Dig.suf Dig.upD b U j)
theorem neg_u64 {U : Nat} (h : (U : Int) ≤ 9223372036854775808) : IntKind.u64.wrap (-IntKind.u64.wrap (-(U : Int))) = (U : Int) := by
  have e : ∀ x, IntKind.u64.wrap x = x % 18446744073709551616 := fun x => by simp [IntKind.wrap, IntKind.bits, IntKind.signed]
  rw [e, e]; omega
theorem pos_u64 {U : Nat} (h : (U : Int) ≤ 9223372036854775807) : IntKind.u64.wrap (U : Int) = (U : Int) := by
  have e : ∀ x, IntKind.u64.wrap x = x % 18446744073709551616 := fun x => by simp [IntKind.wrap, IntKind.bits, IntKind.signed]
  rw [e]; omega
theorem put_start (b U : Nat) (x : Int) (h : x = U) : PutRel b U 0 (.int .u64 x) (.string ⟨#[]⟩) :=
  ⟨Nat.zero_le _, .inl (Nat.zero_le _), by rw [h, Nat.pow_zero, Nat.div_one], rfl⟩
theorem put_next {b U j q : Nat} {l : List UInt8} (hf : Dig.Fits b U (Dig.nd b U)) (h2 : 2 ≤ b) (hq : U / b ^ j = q) (hl : Dig.suf Dig.upD b U j = l) (hgo : 0 < q ∨ j = 0) :
    j < Dig.nd b U ∧ PutRel b U (j + 1) (.int .u64 (q / b : Nat)) (txt (Dig.upD (q % b) :: l)) := by
  have hb : 0 < b ^ j := Nat.pow_pos (by omega)
  have hlt : j < Dig.nd b U := by
    rcases hgo with h | h
    · rcases Nat.lt_or_ge j (Dig.nd b U) with h3 | h3
      · exact h3
      · have h4 : b ^ Dig.nd b U ≤ b ^ j := Nat.pow_le_pow_right (by omega) h3
        have : U / b ^ j = 0 := Nat.div_eq_of_lt (Nat.lt_of_lt_of_le hf.2.1 h4)
        omega
    · have := hf.1; omega
  refine ⟨hlt, hlt, ?_, ?_, ?_⟩
  · rcases hgo with h | h
    · right
      rw [Nat.add_sub_cancel]
      rw [← hq] at h
      exact (Nat.div_pos_iff.1 h).2
    · left; omega
  · rw [← hq, Nat.div_div_eq_div_mul, ← Nat.pow_succ]
  · rw [Dig.suf, hq, hl]
theorem put_end {b U j : Nat} (hu : U < 18446744073709551616) (h2 : 2 ≤ b) (hj : 1 ≤ j) (hq : U / b ^ j = 0) (hlow : j ≤ 1 ∨ b ^ (j - 1) ≤ U) : Dig.suf Dig.upD b U j = Dig.digs Dig.upD b U := by
  unfold Dig.digs
  rw [Dig.nd_eq h2 hu ⟨hj, ?_, ?_⟩]
  · rcases Nat.lt_or_ge U (b ^ j) with h | h
    · exact h
    · have := Nat.div_pos h (Nat.pow_pos (by omega)); omega
  · rcases hlow with h | h
    · left; omega
    · right; exact h
theorem mod_int (q b : Nat) : ((q : Int) % (b : Int)) = ((q % b : Nat) : Int) := by omega
theorem div_int (q b : Nat) : ((q : Int) / (b : Int)) = ((q / b : Nat) : Int) := by omega
set_option maxHeartbeats 4000000 in
set_option maxRecDepth 100000 in
theorem refPut_right (v : Int) (b : Nat) (h2 : 2 ≤ b) (h36 : b ≤ 36) (v0 : -9223372036854775808 ≤ v) (v1 : v ≤ 9223372036854775807) (w : World) :
    Calls Tryz.prog 12 #[.int .i64 v, .int .i64 b] w fun e w' => e = .returned (txt (Dig.putV Dig.upD v b)) ∧ w = w' := by
  have hf := Dig.nd_fits (b := b) (u := v.natAbs) h2 (Dig.abs_lt v0 v1)
  have hul := Dig.abs_lt v0 v1
  by_cases hn : v < 0
  · obtain ⟨U, rfl⟩ : ∃ U : Nat, v = -(U : Int) := ⟨v.natAbs, by omega⟩
    have hU : (-(U : Int)).natAbs = U := by omega
    rw [hU] at hf hul
    have HP := Lib.hid (show Dig.putV Dig.upD (-(U : Int)) b = 45 :: Dig.digs Dig.upD b U from by unfold Dig.putV Dig.sgn; rw [if_pos hn, hU]; rfl)
    have HF := Lib.hid hf
    have HU := Lib.hid hul
    clear hf hU hul
    go_enter Tryz.func12, Tryz.ntmps12
    go_wp2
    go_loopg [5, 6] (Dig.nd b U) (fun k u s wr => ∃ j, k = Dig.nd b U - j ∧ Hid (PutRel b U j u s) ∧ w = wr)
    case atStart => exact ⟨0, by omega, put_start _ _ _ (neg_u64 (by omega)), rfl⟩
    case round =>
      obtain ⟨j, rfl, HR, rfl⟩ := hrel
      obtain ⟨hj, hlow, rfl, rfl⟩ := HR.out
      clear HR
      have HJ := Lib.hid hlow
      obtain ⟨q, hq⟩ : ∃ q, U / b ^ j = q := ⟨_, rfl⟩
      obtain ⟨l, hl⟩ : ∃ l, Dig.suf Dig.upD b U j = l := ⟨_, rfl⟩
      rw [hq, hl]
      have hqU : q ≤ U := by rw [← hq]; exact Nat.div_le_self _ _
      have hll : l.length ≤ 64 := by
        rw [← hl, Dig.suf_length]
        exact Nat.le_trans hj (Dig.nd_le h2 HU.out)
      have HQ := Lib.hid hq
      have HL := Lib.hid hl
      clear hq hl hlow
      by_cases hq0 : 0 < q
      · have r0 : 0 ≤ (q : Int) % (b : Int) := by omega
        have r1 : (q : Int) % (b : Int) < 36 := by have := Int.emod_lt_of_pos (q : Int) (show (0 : Int) < b by omega); omega
        have r2 : min (q % b + 1) 36 - q % b + l.length ≤ 9223372036854775807 := by omega
        have r3 : (q : Int) / (b : Int) ≤ 18446744073709551615 := by
          have h := HU.out
          rw [div_int]
          have := Nat.div_le_self q b
          omega
        have r4 : 0 ≤ (q : Int) / (b : Int) := Int.ediv_nonneg (by omega) (by omega)
        have hN := Lib.hid (put_next (b := b) (U := U) (j := j) HF.out h2 HQ.out HL.out (.inl hq0))
        have hup := Lib.hid (up_piece (k := q % b) (by have := Nat.mod_lt q (show b > 0 by omega); omega))
        go_wp2
        go_roundg (Dig.nd b U - (j + 1))
        case measure => have := hN.out.1; omega
        case rel => exact ⟨j + 1, rfl, by rw [div_int, hup.out, txt_cons]; exact hN.out.2, rfl⟩
      · obtain rfl : q = 0 := by omega
        by_cases hj0 : j = 0
        · subst hj0
          obtain rfl : [] = l := HL.out
          have hN := Lib.hid (put_next (b := b) (U := U) (j := 0) HF.out h2 HQ.out HL.out (.inr rfl))
          have hup := Lib.hid (up_piece (k := 0) (by omega))
          clear hll
          go_wp2
          go_roundg (Dig.nd b U - (0 + 1))
          case measure => have := hN.out.1; omega
          case rel => exact ⟨0 + 1, rfl, by
            have h := hN.out.2
            rw [Nat.zero_div, Nat.zero_mod] at h
            exact h, rfl⟩
        · have hne : l.isEmpty = false := by
            have h := HL.out
            cases l with
            | nil => cases j with
              | zero => exact absurd rfl hj0
              | succ j => cases h
            | cons _ _ => rfl
          have hE := put_end (b := b) (U := U) (j := j) HU.out h2 (by omega) HQ.out HJ.out
          rw [HL.out] at hE
          have HE := Lib.hid hE
          have h1l : 1 + l.length ≤ 9223372036854775807 := by omega
          clear hE
          go_wp2
          go_ret
          exact ⟨by rw [HP.out, ← HE.out]; first | rfl | exact congrArg (fun x => Ending.returned (.string x)) (txt_cons 45 _), rfl⟩
  · obtain ⟨U, rfl⟩ : ∃ U : Nat, v = (U : Int) := ⟨v.natAbs, by omega⟩
    have hU : (U : Int).natAbs = U := by omega
    rw [hU] at hf hul
    have HP := Lib.hid (show Dig.putV Dig.upD (U : Int) b = Dig.digs Dig.upD b U from by unfold Dig.putV Dig.sgn; rw [if_neg hn, hU]; rfl)
    have HF := Lib.hid hf
    have HU := Lib.hid hul
    clear hf hU hul
    go_enter Tryz.func12, Tryz.ntmps12
    go_wp2
    go_loopg [5, 6] (Dig.nd b U) (fun k u s wr => ∃ j, k = Dig.nd b U - j ∧ Hid (PutRel b U j u s) ∧ w = wr)
    case atStart => exact ⟨0, by omega, put_start _ _ _ (by first | rfl | exact pos_u64 (by omega)), rfl⟩
    case round =>
      obtain ⟨j, rfl, HR, rfl⟩ := hrel
      obtain ⟨hj, hlow, rfl, rfl⟩ := HR.out
      clear HR
      have HJ := Lib.hid hlow
      obtain ⟨q, hq⟩ : ∃ q, U / b ^ j = q := ⟨_, rfl⟩
      obtain ⟨l, hl⟩ : ∃ l, Dig.suf Dig.upD b U j = l := ⟨_, rfl⟩
      rw [hq, hl]
      have hqU : q ≤ U := by rw [← hq]; exact Nat.div_le_self _ _
      have hll : l.length ≤ 64 := by
        rw [← hl, Dig.suf_length]
        exact Nat.le_trans hj (Dig.nd_le h2 HU.out)
      have HQ := Lib.hid hq
      have HL := Lib.hid hl
      clear hq hl hlow
      by_cases hq0 : 0 < q
      · have r0 : 0 ≤ (q : Int) % (b : Int) := by omega
        have r1 : (q : Int) % (b : Int) < 36 := by have := Int.emod_lt_of_pos (q : Int) (show (0 : Int) < b by omega); omega
        have r2 : min (q % b + 1) 36 - q % b + l.length ≤ 9223372036854775807 := by omega
        have r3 : (q : Int) / (b : Int) ≤ 18446744073709551615 := by
          have h := HU.out
          rw [div_int]
          have := Nat.div_le_self q b
          omega
        have r4 : 0 ≤ (q : Int) / (b : Int) := Int.ediv_nonneg (by omega) (by omega)
        have hN := Lib.hid (put_next (b := b) (U := U) (j := j) HF.out h2 HQ.out HL.out (.inl hq0))
        have hup := Lib.hid (up_piece (k := q % b) (by have := Nat.mod_lt q (show b > 0 by omega); omega))
        go_wp2
        go_roundg (Dig.nd b U - (j + 1))
        case measure => have := hN.out.1; omega
        case rel => exact ⟨j + 1, rfl, by rw [div_int, hup.out, txt_cons]; exact hN.out.2, rfl⟩
      · obtain rfl : q = 0 := by omega
        by_cases hj0 : j = 0
        · subst hj0
          obtain rfl : [] = l := HL.out
          have hN := Lib.hid (put_next (b := b) (U := U) (j := 0) HF.out h2 HQ.out HL.out (.inr rfl))
          have hup := Lib.hid (up_piece (k := 0) (by omega))
          clear hll
          go_wp2
          go_roundg (Dig.nd b U - (0 + 1))
          case measure => have := hN.out.1; omega
          case rel => exact ⟨0 + 1, rfl, by
            have h := hN.out.2
            rw [Nat.zero_div, Nat.zero_mod] at h
            exact h, rfl⟩
        · have hne : l.isEmpty = false := by
            have h := HL.out
            cases l with
            | nil => cases j with
              | zero => exact absurd rfl hj0
              | succ j => cases h
            | cons _ _ => rfl
          have hE := put_end (b := b) (U := U) (j := j) HU.out h2 (by omega) HQ.out HJ.out
          rw [HL.out] at hE
          have HE := Lib.hid hE
          have h1l : 1 + l.length ≤ 9223372036854775807 := by omega
          clear hE
          go_wp2
          go_ret
          exact ⟨by rw [HP.out, ← HE.out]; rfl, rfl⟩
/-- what Put tells, whatever the base is -/
def putT (v b : Int) : List UInt8 := if Dig.rightB b then Dig.putV Dig.upD v b else []
theorem refPut_any (v b : Int) (v0 : -9223372036854775808 ≤ v) (v1 : v ≤ 9223372036854775807) (w : World) :
    Calls Tryz.prog 12 #[.int .i64 v, .int .i64 b] w fun e w' => e = .returned (txt (putT v b)) ∧ w = w' := by
  unfold putT
  cases hb : Dig.rightB b with
  | false => exact refPut_wrong v b hb w
  | true =>
    simp only [Dig.rightB, Bool.and_eq_true, decide_eq_true_eq] at hb
    obtain ⟨n, rfl⟩ := Int.eq_ofNat_of_zero_le (show 0 ≤ b by omega)
    exact refPut_right v n (by omega) (by omega) v0 v1 w
end Go.Proofs.YtpecingkoodmfaaGreatDoor
/- The document's own answers on operations: what they take and give; which can be in a trace. -/
namespace Go.Proofs.YtpecingkoodmfaaGreatDoor
open Go.RowKit
set_option linter.unusedSimpArgs false
set_option linter.unusedVariables false
/-- four results -/
theorem results_tmp4 {fn : Func} {t u v x : Tmp} (h : fn.results = #[.tmp t, .tmp u, .tmp v, .tmp x]) (tmps : Array Value) (P : Program) (w : World) :
    (results fn tmps).run P w = .ok (.tuple #[tmps.getD t undef, tmps.getD u undef, tmps.getD v undef, tmps.getD x undef]) w := by
  simp [results, h]
end Go.Proofs.YtpecingkoodmfaaGreatDoor
/- A machine in plain lists, and its steps, as the document has them (chapter 9); no code of package inner in sight. -/
namespace Go.Proofs.YtpecingkoodmfaaGreatDoor.Mach
open Go.RowKit (wrap64)
open Go.Proofs.YtpecingkoodmfaaGreatDoor.Cell (In)
set_option linter.unusedVariables false
/-- a machine; the lists' deepest cells first -/
structure M where
  ip : Int
  handler : Int
  stack : List Int
  back : List Int
  mem : List Int
  out : ByteArray
  inp : ByteArray
  read : Int
  status : Int
  code : Int
structure Right (s : M) : Prop where
  stack : s.stack.length ≤ 48
  back : s.back.length ≤ 48
  mem : s.mem.length ≤ 3000
  out : s.out.size ≤ 2000
  read0 : 0 ≤ s.read
  read1 : s.read ≤ s.inp.size
  status0 : 0 ≤ s.status
  status1 : s.status ≤ 2
/-- every number is a cell's -/
structure Cells (s : M) : Prop where
  ip : In s.ip
  handler : In s.handler
  stack : ∀ x ∈ s.stack, In x
  back : ∀ x ∈ s.back, In x
  mem : ∀ x ∈ s.mem, In x
  code : In s.code
/-- may a fault be caught? -/
def caught (s : M) : Bool := decide (3 ≤ s.handler) && decide (s.handler ≤ s.back.length) && decide (0 ≤ s.back.getD (s.handler.toNat - 1) 0) && decide (s.back.getD (s.handler.toNat - 1) 0 < 48)
/-- a stack that is so deep -/
def deep (l : List Int) (n : Nat) : List Int := l.take n ++ List.replicate (n - l.length) 0
theorem deep_length (l : List Int) (n : Nat) : (deep l n).length = n := by unfold deep; rw [List.length_append, List.length_take, List.length_replicate]; omega
def fault (s : M) (code : Int) : M :=
  if caught s = true then { s with handler := s.back.getD (s.handler.toNat - 2) 0, ip := s.back.getD (s.handler.toNat - 3) 0, back := s.back.take (s.handler.toNat - 3), stack := deep s.stack (s.back.getD (s.handler.toNat - 1) 0).toNat ++ [code] }
  else { s with status := 2, code := code }
/-- the k-th cell from the top; 0 of none -/
def nth (l : List Int) (k : Nat) : Int := if k < l.length then l.getD (l.length - 1 - k) 0 else 0
/-- what is laid on a list less its top a cells -/
def less (l : List Int) (a : Nat) : List Int := l.take (l.length - a)
/-- an operation is done, its cells and its room being there: s as it was, i the cell behind it, g its operand -/
def exec (k : Nat) (s : M) (i g : Int) : M :=
  let p := nth s.stack 0
  let q := nth s.stack 1
  let r := nth s.stack 2
  let one := less s.stack 1
  let two := less s.stack 2
  match k with
  | 0 => { s with status := 1 }
  | 1 => if s.handler < 3 ∨ (s.back.length : Int) ≠ s.handler then fault s (-25) else if 48 ≤ s.stack.length then fault s (-3) else { s with ip := nth s.back 2, handler := nth s.back 1, back := less s.back 3, stack := s.stack ++ [0] }
  | 2 => { s with ip := i, stack := s.stack ++ [g] }
  | 3 => { s with ip := g }
  | 4 => { s with ip := if p = 0 then g else i, stack := one }
  | 5 => { s with ip := nth s.back 0, back := less s.back 1 }
  | 6 => { s with ip := i, stack := one ++ [p, p] }
  | 7 => { s with ip := i, stack := one }
  | 8 => { s with ip := i, stack := two ++ [p, q] }
  | 9 => { s with ip := i, stack := two ++ [q, p, q] }
  | 10 => { s with ip := i, stack := less s.stack 3 ++ [q, p, r] }
  | 30 => if p < 0 ∨ (s.mem.length : Int) ≤ p then fault s (-9) else { s with ip := i, stack := one ++ [s.mem.getD p.toNat 0] }
  | 31 => if p < 0 ∨ (s.mem.length : Int) ≤ p then fault s (-9) else { s with ip := i, stack := two, mem := s.mem.set p.toNat q }
  | 32 => if p < 0 ∨ (s.mem.length : Int) ≤ p then fault s (-9) else { s with ip := i, stack := two, mem := s.mem.set p.toNat (wrap64 (s.mem.getD p.toNat 0 + q)) }
  | 33 => { s with ip := i, stack := one, back := s.back ++ [p] }
  | 34 => { s with ip := i, stack := s.stack ++ [nth s.back 0], back := less s.back 1 }
  | 35 => { s with ip := i, stack := s.stack ++ [nth s.back 0] }
  | 36 => { s with ip := i, stack := two, back := s.back ++ [q, p] }
  | 37 => if wrap64 (nth s.back 0 + 1) = nth s.back 1 then { s with ip := i, back := less s.back 2 } else { s with ip := g, back := less s.back 1 ++ [wrap64 (nth s.back 0 + 1)] }
  | 38 => if Cell.crosses (wrap64 (nth s.back 0 - nth s.back 1)) p = true then { s with ip := i, stack := one, back := less s.back 2 } else { s with ip := g, stack := one, back := less s.back 1 ++ [wrap64 (nth s.back 0 + p)] }
  | 39 => { s with ip := i, stack := s.stack ++ [nth s.back 2] }
  | 40 => { s with ip := i, back := less s.back 2 }
  | 41 => if 2000 < s.out.size + 1 then fault s (-57) else { s with ip := i, stack := one, out := s.out ++ ⟨#[UInt8.ofNat (p % 256).toNat]⟩ }
  | 42 => if 2000 < s.out.size + ((Lib.itoa p).length + 1) then fault s (-57) else { s with ip := i, stack := one, out := s.out ++ (⟨(Lib.itoa p).toArray⟩ ++ ⟨#[32]⟩) }
  | 43 => if s.read < s.inp.size then { s with ip := i, stack := s.stack ++ [((s.inp.data.toList.getD s.read.toNat 0).toNat : Int)], read := s.read + 1 } else { s with ip := i, stack := s.stack ++ [-1] }
  | 44 => if p < 64 ∨ (s.mem.length : Int) ≤ p then fault s (-13) else { s with ip := p, stack := one, back := s.back ++ [i] }
  | 45 => if p = 0 then { s with ip := i, stack := one } else fault { s with stack := one } p
  | 46 => { s with ip := p, stack := one, back := s.back ++ [i, s.handler, (one.length : Int), 1], handler := (s.back.length : Int) + 3 }
  | 47 => { s with ip := i }
  | k =>
    if k ∈ [16, 20, 26, 27] then { s with ip := i, stack := one ++ [(Cell.one k p).1] }
    else if (Cell.two k q p).2 = true then { s with ip := i, stack := two ++ [(Cell.two k q p).1] } else fault s (-10)
/-- a step -/
def step (s : M) : M :=
  if s.status ≠ 0 then s
  else if s.ip < 0 ∨ (s.mem.length : Int) ≤ s.ip then fault s (-9)
  else
    let c := s.mem.getD s.ip.toNat 0
    if 64 ≤ c then (if 48 ≤ s.back.length then fault s (-5) else { s with ip := c, back := s.back ++ [wrap64 (s.ip + 1)] })
    else if c < 0 ∨ 48 ≤ c then fault s (-13)
    else
      let k := c.toNat
      if argOf k = true ∧ s.mem.length ≤ s.ip.toNat + 1 then fault s (-9)
      else
        let m := movesOf k
        if (s.stack.length : Int) < m.1 then fault s (-4)
        else if (s.back.length : Int) < m.2.1 then fault s (-6)
        else if 48 < (s.stack.length : Int) - m.1 + m.2.2.1 then fault s (-3)
        else if 48 < (s.back.length : Int) - m.2.1 + m.2.2.2 then fault s (-5)
        else exec k s (s.ip + (if argOf k = true then 2 else 1)) (s.mem.getD (s.ip.toNat + 1) 0)
/-- steps, as long as it is running and fuel is left; and what is left -/
def run : Nat → M → M × Nat
  | 0, s => (s, 0)
  | n + 1, s => if s.status = 0 then run n (step s) else (s, n + 1)
theorem run_still {s : M} (h : s.status ≠ 0) (n : Nat) : run n s = (s, n) := by
  cases n with
  | zero => rfl
  | succ n => unfold run; rw [if_neg h]
/-- fuel in two parts does what all of it does at once -/
theorem run_add (a b : Nat) (s : M) : run (b + (run a s).2) (run a s).1 = run (a + b) s := by
  induction a generalizing s with
  | zero => show run (b + 0) s = run (0 + b) s; rw [Nat.add_zero, Nat.zero_add]
  | succ a ih =>
    by_cases h : s.status = 0
    · rw [show run (a + 1) s = run a (step s) by rw [run, if_pos h], ih (step s), show a + 1 + b = (a + b) + 1 by omega, show run (a + b + 1) s = run (a + b) (step s) by rw [run, if_pos h]]
    · rw [run_still h (a + 1), show a + 1 + b = b + (a + 1) by omega]
theorem run_left (n : Nat) (s : M) : (run n s).2 ≤ n ∧ ((run n s).1.status = 0 → (run n s).2 = 0) := by
  induction n generalizing s with
  | zero => exact ⟨Nat.le_refl _, fun _ => rfl⟩
  | succ n ih =>
    by_cases h : s.status = 0
    · rw [show run (n + 1) s = run n (step s) by rw [run, if_pos h]]
      exact ⟨Nat.le_succ_of_le (ih (step s)).1, (ih (step s)).2⟩
    · rw [run_still h]
      exact ⟨Nat.le_refl _, fun h' => absurd h' h⟩
theorem less_length (l : List Int) (a : Nat) : (less l a).length = l.length - a := by unfold less; rw [List.length_take]; omega
/-- a fault leaves a machine right -/
theorem fault_right {s : M} (h : Right s) (c : Int) : Right (fault s c) := by
  unfold fault
  split
  · rename_i hc
    have hd : s.back.getD (s.handler.toNat - 1) 0 < 48 := by unfold caught at hc; simp only [Bool.and_eq_true, decide_eq_true_eq] at hc; exact hc.2
    have hd0 : 0 ≤ s.back.getD (s.handler.toNat - 1) 0 := by unfold caught at hc; simp only [Bool.and_eq_true, decide_eq_true_eq] at hc; exact hc.1.2
    refine ⟨?_, ?_, h.mem, h.out, h.read0, h.read1, h.status0, h.status1⟩
    · show (deep s.stack (s.back.getD (s.handler.toNat - 1) 0).toNat ++ [c]).length ≤ 48
      rw [List.length_append, deep_length]
      show _ + 1 ≤ 48
      omega
    · show (s.back.take (s.handler.toNat - 3)).length ≤ 48
      rw [List.length_take]
      have := h.back
      omega
  · exact ⟨h.stack, h.back, h.mem, h.out, h.read0, h.read1, by show (0 : Int) ≤ 2; decide, by show (2 : Int) ≤ 2; decide⟩
end Go.Proofs.YtpecingkoodmfaaGreatDoor.Mach
/- Parts of a list that is only read, as laws for the walk; 'append' of what is read, inside a region that draws its order. -/
namespace Go.Proofs.YtpecingkoodmfaaGreatDoor
open Go.RowKit Book Mem
set_option linter.unusedVariables false
/-- what a slice reads as, and the room that it has -/
def ReadsC (w : World) (v : Value) (xs : List Int) : Prop := Reads w v xs ∧ ∃ ao c, v = .slice ao xs.length c ∧ xs.length ≤ c
theorem ReadsC.of_owns {w : World} {B : Nat} {v : Value} {xs : List Int} (h : Owns w B 3 v (vals xs)) : ReadsC w v xs := by
  refine ⟨Reads.of_owns h, ?_⟩
  rcases h with ⟨ao, h1, h2⟩ | ⟨g, cap, cur, h1, h0, h2, h3, h4, _⟩
  · have hx : xs = [] := List.map_eq_nil_iff.1 h2
    subst hx
    exact ⟨ao, 0, h1, Nat.le_refl _⟩
  · rw [vals_length] at h1 h4
    exact ⟨_, _, h1, h4⟩
theorem ReadsC.below {w w' : World} {v : Value} {xs : List Int} (h : ReadsC w v xs) (hb : Below w.heap.size w w') : ReadsC w' v xs := ⟨h.1.below hb, h.2⟩
theorem run_slice_part {P : Program} (w : World) (t E : TypeId) (ht : P.underlying t = some (.slice E)) (hz : ∀ w, (sizeOf E).run P w = .ok 1 w) (v : Value) (xs : List Int) (hr : ReadsC w v xs) (l h : Nat) (lo hi : Option Value)
    (hlo : lo = some (.int .i64 l) ∨ lo = none ∧ l = 0) (hhi : hi = some (.int .i64 h) ∨ hi = none ∧ h = xs.length) (hlh : l ≤ h) (hh : h ≤ xs.length) :
    ∃ v', (Instr.sliceAt t v lo hi none).run P w = .ok v' w ∧ ReadsC w v' ((xs.take h).drop l) := by
  obtain ⟨⟨_, _, e0, hc⟩, ao, c, rfl, hcap⟩ := hr
  simp only [Value.slice.injEq] at e0
  obtain ⟨rfl, -, rfl⟩ := e0
  have hlen : ((xs.take h).drop l).length = h - l := by rw [List.length_drop, List.length_take]; omega
  refine ⟨.slice (if c = l then ao else ao.map (·.add (l * 1))) (h - l) (c - l), ?_, ⟨_, _, by rw [hlen], fun j x hj => ?_⟩, _, _, by rw [hlen], by rw [hlen]; omega⟩
  · have e1 : ∀ code, (Instr.sliceBound (.int .i64 h) c code).run P w = .ok h w := fun code => by
      have h1 : h ≤ c := by omega
      simp [Instr.sliceBound, asIntOf, h1, go_sem]
    have e2 : ∀ code, (Instr.sliceBound (.int .i64 l) h code).run P w = .ok l w := fun code => by
      simp [Instr.sliceBound, asIntOf, hlh, go_sem]
    rcases hlo with rfl | ⟨rfl, rfl⟩ <;> rcases hhi with rfl | ⟨rfl, rfl⟩ <;> simp [Instr.sliceAt, Instr.slice, Instr.sliceBounds, run_underlying ht, hz, e1, e2]
  · have hjl := (List.getElem?_eq_some_iff.1 hj).1
    rw [hlen] at hjl
    rw [List.getElem?_drop, List.getElem?_take, if_pos (by omega)] at hj
    obtain ⟨a, rfl, hx⟩ := hc _ x hj
    refine ⟨a.add l, by rw [if_neg (by omega)]; simp, ?_⟩
    rw [Go.Deep.add_add]
    exact hx
/-- 'v[l:h]', of a list that is read -/
theorem wpList_slice_part {P : Program} {w : World} {ops : Array Oper} {rest : List Oper} {o : Oper} {a : Act} {Q : Exit → Act → World → Prop} (hw : Region.wanted o (yielded ops a.tmps) = true) (t : TypeId) (x : Operand) (lo hi : Option Operand) (hop : o.op = Op.slice t x lo hi none)
    (E : TypeId) (ht : P.underlying t = some (.slice E)) (hz : ∀ w, (sizeOf E).run P w = .ok 1 w) (v : Value) (xs : List Int) (hx : a.eval x = v) (hr : ReadsC w v xs) (l h : Nat)
    (hlo : lo.map a.eval = some (.int .i64 l) ∨ lo.map a.eval = none ∧ l = 0) (hhi : hi.map a.eval = some (.int .i64 h) ∨ hi.map a.eval = none ∧ h = xs.length) (hlh : l ≤ h) (hh : h ≤ xs.length)
    (hK : ∀ v', ReadsC w v' ((xs.take h).drop l) → wpList P ops Q rest (a.put o.dst v') w) : wpList P ops Q (o :: rest) a w := by
  obtain ⟨v', hrun, h2⟩ := run_slice_part (P := P) w t E ht hz v xs hr l h _ _ hlo hhi hlh hh
  refine wpList_step fun K hK' => ?_
  rw [if_pos hw]
  unfold Oper.wp execOp
  simp only [hop, hx, Option.map_none, hrun, Sem.run_bind, Sem.run_pure, Result.andThen_ok]
  exact hK' _ _ (hK v' h2)
theorem wp_append_reads {P : Program} (w : World) {o : Oper} {a : Act} {K : Act → World → Prop} {Q : Exit → Act → World → Prop} (s x : Operand) (t : TypeId)
    (ho : o.op = .call { callee := .builtin .append, args := #[s, x], argTypes := #[t, t] })
    (B E : Nat) (i : TypeInfo) (z : Value) (bytes : Nat) (ht : P.underlying t = some (.slice E)) (hi : P.info? E = some i) (hz : i.zero = some z) (hsize : i.size = 1) (hby : i.bytes = bytes) (hzs : z.cells.size = 1)
    (v : Value) (xs : List Value) (hs : a.eval s = v) (hown : Owns w B E v xs)
    (u : Value) (ys : List Int) (hx : a.eval x = u) (hu : Reads w u ys)
    (h63 : xs.length + ys.length ≤ maxLen) (hbytes : (xs.length + ys.length) * bytes ≤ 140737488355328) (hbase : B ≤ w.heap.size)
    (h : ∀ v' w', Owns w' B E v' (xs ++ vals ys) → Owns w' B E v xs → Stirred w w' (blk v).toList → ((blk v') = (blk v) ∨ ∃ k, (blk v') = some k ∧ w.heap.size ≤ k) → K (a.put o.dst v') w') : o.wp P a w K Q := by
  obtain ⟨uo, uc, rfl, hc⟩ := hu
  by_cases hy : ys = []
  · subst hy
    obtain ⟨vo, vc, hle, rfl⟩ : ∃ vo vc, xs.length ≤ vc ∧ v = .slice vo xs.length vc := by
      rcases hown with ⟨ao, h1, h2⟩ | ⟨g, cap, cur, h1, h0, _, _, h3, _⟩
      · exact ⟨ao, 0, by rw [h2]; exact Nat.le_refl _, by rw [h1, h2]; rfl⟩
      · exact ⟨_, _, h3, h1⟩
    have hr := run_append_empty (P := P) w t o.type E i ht hi vo uo xs.length vc uc hle
    unfold Oper.wp execOp
    simp only [ho, resolve, invoke, builtin, Sem.run_bind, Sem.run_pure, Result.andThen_ok, List.map_toArray, List.map_cons, List.map_nil, hs, hx, List.length_nil, hr]
    exact h _ w (by rw [show vals [] = [] from rfl, List.append_nil]; exact hown) hown (Stirred.refl _ _) (.inl rfl)
  · have hl : 0 < ys.length := List.length_pos_iff.2 hy
    obtain ⟨a0, rfl, _⟩ := hc 0 ys[0] (List.getElem?_eq_getElem hl)
    have hn := vals_length ys
    obtain ⟨v', w', hr, h2, h3, h4, h5⟩ := run_append_two (P := P) w B t o.type E i z bytes ht hi hz hsize hby hzs v xs hown a0 uc (vals ys) (fun j u hj => by
      simp only [vals, List.getElem?_map, Option.map_eq_some_iff] at hj
      obtain ⟨y, hy, rfl⟩ := hj
      obtain ⟨a', e', hc'⟩ := hc j y hy
      simp only [Option.some.injEq] at e'
      subst e'
      exact hc') (vals_one _) (by rw [vals_length]; exact hl) (by rw [vals_length]; exact h63) (by rw [vals_length]; exact hbytes) hbase
    rw [hn] at hr
    unfold Oper.wp execOp
    simp only [ho, resolve, invoke, builtin, Sem.run_bind, Sem.run_pure, Result.andThen_ok, List.map_toArray, List.map_cons, List.map_nil, hs, hx, hr]
    exact h v' w' h2 h3 h4 h5
theorem step_append_reads {P : Program} {w : World} {ops : Array Oper} {o : Oper} {a : Act} {K : Act → World → Prop} {Q : Exit → Act → World → Prop} {F : Prop} (hw : Region.wanted o (yielded ops a.tmps) = true) (s x : Operand) (t : TypeId)
    (ho : o.op = .call { callee := .builtin .append, args := #[s, x], argTypes := #[t, t] })
    (B E : Nat) (i : TypeInfo) (z : Value) (bytes : Nat) (ht : P.underlying t = some (.slice E)) (hi : P.info? E = some i) (hz : i.zero = some z) (hsize : i.size = 1) (hby : i.bytes = bytes) (hzs : z.cells.size = 1)
    (v : Value) (xs : List Value) (hs : a.eval s = v) (hown : Owns w B E v xs)
    (u : Value) (ys : List Int) (hx : a.eval x = u) (hu : Reads w u ys)
    (h63 : xs.length + ys.length ≤ maxLen) (hbytes : (xs.length + ys.length) * bytes ≤ 140737488355328) (hbase : B ≤ w.heap.size)
    (h : ∀ v' w', Owns w' B E v' (xs ++ vals ys) → Owns w' B E v xs → Stirred w w' (blk v).toList → ((blk v') = (blk v) ∨ ∃ k, (blk v') = some k ∧ w.heap.size ≤ k) → K (a.put o.dst v') w') : if Region.wanted o (yielded ops a.tmps) = true then o.wp P a w K Q else F := by
  rw [if_pos hw]
  exact wp_append_reads w s x t ho B E i z bytes ht hi hz hsize hby hzs v xs hs hown u ys hx hu h63 hbytes hbase h
end Go.Proofs.YtpecingkoodmfaaGreatDoor
/- A machine in memory: a value of ten fields, its lists wherever they lie, or its own. -/
namespace Go.Proofs.YtpecingkoodmfaaGreatDoor.Mach
open Go.RowKit Book Mem
set_option linter.unusedVariables false
abbrev stV (m : M) (vs vb vm : Value) : Value := .agg #[.int .i64 m.ip, .int .i64 m.handler, vs, vb, vm, .string m.out, .string m.inp, .int .i64 m.read, .int .i64 m.status, .int .i64 m.code]
/-- a machine that is read, its lists wherever they lie -/
def ReadsM (w : World) (v : Value) (m : M) : Prop := ∃ vs vb vm, v = stV m vs vb vm ∧ ReadsC w vs m.stack ∧ ReadsC w vb m.back ∧ ReadsC w vm m.mem
theorem ReadsM.below {w w' : World} {v : Value} {m : M} (h : ReadsM w v m) (hb : Below w.heap.size w w') : ReadsM w' v m := by
  obtain ⟨vs, vb, vm, e, h1, h2, h3⟩ := h
  exact ⟨vs, vb, vm, e, h1.below hb, h2.below hb, h3.below hb⟩
/-- its lists are its own, from block B on -/
structure OwnsL (w : World) (B : Nat) (vs vb vm : Value) (m : M) : Prop where
  st : Owns w B 3 vs (vals m.stack)
  bk : Owns w B 3 vb (vals m.back)
  me : Owns w B 3 vm (vals m.mem)
  sb : ∀ k, blk vs = some k → blk vb ≠ some k ∧ blk vm ≠ some k
  bm : ∀ k, blk vb = some k → blk vm ≠ some k
def OwnsM (w : World) (B : Nat) (v : Value) (m : M) : Prop := ∃ vs vb vm, v = stV m vs vb vm ∧ OwnsL w B vs vb vm m
theorem OwnsL.below {w w' : World} {B : Nat} {vs vb vm : Value} {m : M} (h : OwnsL w B vs vb vm m) (hb : Below w.heap.size w w') : OwnsL w' B vs vb vm m :=
  ⟨h.st.touch (Stirred.of_below hb []) (fun _ _ => List.not_mem_nil), h.bk.touch (Stirred.of_below hb []) (fun _ _ => List.not_mem_nil), h.me.touch (Stirred.of_below hb []) (fun _ _ => List.not_mem_nil), h.sb, h.bm⟩
theorem OwnsM.below {w w' : World} {B : Nat} {v : Value} {m : M} (h : OwnsM w B v m) (hb : Below w.heap.size w w') : OwnsM w' B v m := by
  obtain ⟨vs, vb, vm, e, h1⟩ := h
  exact ⟨vs, vb, vm, e, h1.below hb⟩
theorem OwnsM.reads {w : World} {B : Nat} {v : Value} {m : M} (h : OwnsM w B v m) : ReadsM w v m := by
  obtain ⟨vs, vb, vm, e, h1⟩ := h
  exact ⟨vs, vb, vm, e, ReadsC.of_owns h1.st, ReadsC.of_owns h1.bk, ReadsC.of_owns h1.me⟩
/-- what a call answers: a machine with lists of its own, made since -/
def GivesM (m : M) (w : World) (e : Ending) (w' : World) : Prop := ∃ v, e = .returned v ∧ OwnsM w' w.heap.size v m ∧ Below w.heap.size w w'
/-- .. a machine that can be read -/
def TellsM (m : M) (w : World) (e : Ending) (w' : World) : Prop := ∃ v, e = .returned v ∧ ReadsM w' v m ∧ Below w.heap.size w w'
theorem GivesM.tells {m : M} {w : World} {e : Ending} {w' : World} (h : GivesM m w e w') : TellsM m w e w' := by
  obtain ⟨v, e, h1, h2⟩ := h
  exact ⟨v, e, h1.reads, h2⟩
/-- what a call says, and it leaves all as it was, but for new blocks -/
def Says (v : Value) (w : World) (e : Ending) (w' : World) : Prop := e = .returned v ∧ Below w.heap.size w w'
end Go.Proofs.YtpecingkoodmfaaGreatDoor.Mach
/- The document's own machine (chapter 9): a state's box, copying, which may be, beginning a word. -/
namespace Go.Proofs.YtpecingkoodmfaaGreatDoor.Mach
open Go.RowKit Book Mem
set_option linter.unusedVariables false
set_option linter.unusedSimpArgs false
abbrev cells10 (ip hn : Int) (vs vb vm : Value) (ou inn : ByteArray) (rd stt cd : Int) : Array Value := #[.int .i64 ip, .int .i64 hn, vs, vb, vm, .string ou, .string inn, .int .i64 rd, .int .i64 stt, .int .i64 cd]
abbrev zero10 : Array Value := #[.int .i64 0, .int .i64 0, .slice none 0 0, .slice none 0 0, .slice none 0 0, .string ⟨#[]⟩, .string ⟨#[]⟩, .int .i64 0, .int .i64 0, .int .i64 0]
theorem state_size : (Tryz.prog.info? 50).map (·.size) = some 10 := by kernel_rfl
theorem load_state {w : World} {g : Nat} {cs : Array Value} (hg : w.heap[g]? = some (.cells cs 50 (0, 0))) (hs : cs.size = 10) : (loadVar 50 ⟨g, 0, none⟩).run Tryz.prog w = .ok (.agg cs) w :=
  run_loadVar_row w g _ _ cs _ _ hg Tryz.underlying50 rfl (by rw [hs]; exact state_size)
section
variable {ops : Array Oper} {rest : List Oper} {o : Oper} {a : Act} {w : World} {Q : Exit → Act → World → Prop}
theorem ld_int (hw : Region.wanted o (yielded ops a.tmps) = true) (x : Operand) (ho : o.op = .load 3 x) (ad : Addr) (hx : a.eval x = .pointer (some ad)) (v : Value) (hc : w.cell? ad = some v) (h : wpList Tryz.prog ops Q rest (a.put o.dst v) w) : wpList Tryz.prog ops Q (o :: rest) a w :=
  wpList_getf hw _ x ho _ Tryz.underlying3 rfl ad hx v hc h
theorem ld_ints (hw : Region.wanted o (yielded ops a.tmps) = true) (x : Operand) (ho : o.op = .load 24 x) (ad : Addr) (hx : a.eval x = .pointer (some ad)) (v : Value) (hc : w.cell? ad = some v) (h : wpList Tryz.prog ops Q rest (a.put o.dst v) w) : wpList Tryz.prog ops Q (o :: rest) a w :=
  wpList_getf hw _ x ho _ Tryz.underlying24 rfl ad hx v hc h
theorem ld_str (hw : Region.wanted o (yielded ops a.tmps) = true) (x : Operand) (ho : o.op = .load 9 x) (ad : Addr) (hx : a.eval x = .pointer (some ad)) (v : Value) (hc : w.cell? ad = some v) (h : wpList Tryz.prog ops Q rest (a.put o.dst v) w) : wpList Tryz.prog ops Q (o :: rest) a w :=
  wpList_getf hw _ x ho _ Tryz.underlying9 rfl ad hx v hc h
theorem one_int : (Tryz.prog.info? 3).map (·.size) = some 1 := by kernel_rfl
theorem one_ints : (Tryz.prog.info? 24).map (·.size) = some 1 := by kernel_rfl
theorem one_str : (Tryz.prog.info? 9).map (·.size) = some 1 := by kernel_rfl
theorem st_int (hw : Region.wanted o (yielded ops a.tmps) = true) (x y : Operand) (ho : o.op = .store 3 x y) (g j : Nat) (hx : a.eval x = .pointer (some ⟨g, j, none⟩)) (v : Value) (hy : a.eval y = v) (h1 : v.oneCell' = true) (cs : Array Value) (T : TypeId) (hg : w.heap[g]? = some (.cells cs T (0, 0))) (hj : j < cs.size)
    (h : ∀ w', w'.heap[g]? = some (.cells (cs.setIfInBounds j v) T (0, 0)) → Stirred w w' [g] → wpList Tryz.prog ops Q rest (a.put o.dst undef) w') : wpList Tryz.prog ops Q (o :: rest) a w :=
  wpList_setf hw _ x y ho one_int g j hx v hy h1 cs T hg hj h
theorem st_ints (hw : Region.wanted o (yielded ops a.tmps) = true) (x y : Operand) (ho : o.op = .store 24 x y) (g j : Nat) (hx : a.eval x = .pointer (some ⟨g, j, none⟩)) (v : Value) (hy : a.eval y = v) (h1 : v.oneCell' = true) (cs : Array Value) (T : TypeId) (hg : w.heap[g]? = some (.cells cs T (0, 0))) (hj : j < cs.size)
    (h : ∀ w', w'.heap[g]? = some (.cells (cs.setIfInBounds j v) T (0, 0)) → Stirred w w' [g] → wpList Tryz.prog ops Q rest (a.put o.dst undef) w') : wpList Tryz.prog ops Q (o :: rest) a w :=
  wpList_setf hw _ x y ho one_ints g j hx v hy h1 cs T hg hj h
theorem st_str (hw : Region.wanted o (yielded ops a.tmps) = true) (x y : Operand) (ho : o.op = .store 9 x y) (g j : Nat) (hx : a.eval x = .pointer (some ⟨g, j, none⟩)) (v : Value) (hy : a.eval y = v) (h1 : v.oneCell' = true) (cs : Array Value) (T : TypeId) (hg : w.heap[g]? = some (.cells cs T (0, 0))) (hj : j < cs.size)
    (h : ∀ w', w'.heap[g]? = some (.cells (cs.setIfInBounds j v) T (0, 0)) → Stirred w w' [g] → wpList Tryz.prog ops Q rest (a.put o.dst undef) w') : wpList Tryz.prog ops Q (o :: rest) a w :=
  wpList_setf hw _ x y ho one_str g j hx v hy h1 cs T hg hj h
theorem ld_state (hw : Region.wanted o (yielded ops a.tmps) = true) (x : Operand) (ho : o.op = .load 50 x) (g : Nat) (hx : a.eval x = .pointer (some ⟨g, 0, none⟩)) (cs : Array Value) (T : TypeId) (hg : w.heap[g]? = some (.cells cs T (0, 0))) (hs : cs.size = 10)
    (h : wpList Tryz.prog ops Q rest (a.put o.dst (.agg cs)) w) : wpList Tryz.prog ops Q (o :: rest) a w :=
  wpList_getbox hw _ x ho _ Tryz.underlying50 rfl g hx cs T hg (by rw [hs]; exact state_size) h
theorem st_state (hw : Region.wanted o (yielded ops a.tmps) = true) (x y : Operand) (ho : o.op = .store 50 x y) (g : Nat) (cells : Array Value) (hx : a.eval x = .pointer (some ⟨g, 0, none⟩)) (hy : a.eval y = .agg cells) (old : Array Value) (T : TypeId) (hg : w.heap[g]? = some (.cells old T (0, 0))) (hs : cells.size = 10) (hold : old.size = 10) (h1 : cells.all (·.oneCell') = true)
    (h : ∀ w', w'.heap[g]? = some (.cells cells T (0, 0)) → Stirred w w' [g] → wpList Tryz.prog ops Q rest (a.put o.dst undef) w') : wpList Tryz.prog ops Q (o :: rest) a w :=
  wpList_setbox hw _ x y ho g cells hx hy old T hg (by rw [hs]; exact state_size) (by rw [hold, hs]) h1 h
end
/-- two new boxes: what came in, and an empty one -/
theorem two_boxes (w : World) (cs : Array Value) : ∃ w1 w2 g r, w.alloc (.cells cs 50) = w1 ∧ w1.alloc (.cells zero10 50) = w2 ∧ w.heap.size = g ∧ w1.heap.size = r ∧
    Hid (w2.heap[g]? = some (.cells cs 50 (0, 0))) ∧ Hid (w2.heap[r]? = some (.cells zero10 50 (0, 0))) ∧ Hid (Below g w w2) ∧ Hid (g < r) ∧ Hid (w.heap.size = g) := by
  have hb1 := (Below.refl w.heap.size w).alloc (Nat.le_refl _) (.cells cs 50)
  have hn1 := heap_alloc_new w (.cells cs 50)
  have hb2 := (Below.refl (w.alloc (.cells cs 50)).heap.size (w.alloc (.cells cs 50))).alloc (Nat.le_refl _) (.cells zero10 50)
  have hn2 := heap_alloc_new (w.alloc (.cells cs 50)) (.cells zero10 50)
  exact ⟨_, _, _, _, rfl, rfl, rfl, rfl, (Stirred.of_below hb2 []).whole hn1 List.not_mem_nil, hn2, hb1.trans (hb2.mono hb1.size), whole_lt hn1, rfl⟩
/-- which machines may be -/
def rightM (m : M) : Bool := decide (m.stack.length ≤ 48 ∧ m.back.length ≤ 48 ∧ m.mem.length ≤ 3000 ∧ m.out.size ≤ 2000 ∧ 0 ≤ m.read ∧ m.read ≤ m.inp.size ∧ 0 ≤ m.status ∧ m.status ≤ 2)
theorem rightM_iff (m : M) : rightM m = true ↔ Right m := by
  unfold rightM
  rw [decide_eq_true_eq]
  exact ⟨fun ⟨a, b, c, d, e, f, g, h⟩ => ⟨a, b, c, d, e, f, g, h⟩, fun ⟨a, b, c, d, e, f, g, h⟩ => ⟨a, b, c, d, e, f, g, h⟩⟩
set_option maxHeartbeats 4000000 in
theorem refRight_any {w : World} {v : Value} {m : M} (h : ReadsM w v m) (hi : m.inp.size ≤ maxLen) (ho : m.out.size ≤ maxLen) :
    Calls Tryz.prog 84 #[v] w (Says (.bool (rightM m)) w) := by
  obtain ⟨vs, vb, vm, rfl, ⟨⟨so, sc, hs, _⟩, _⟩, ⟨⟨bo, bc, hb, _⟩, _⟩, ⟨⟨mo, mc, hm, _⟩, _⟩⟩ := h
  obtain ⟨ip, hn, st, bk, me, ou, inn, rd, stt, cd⟩ := m
  simp only at hs hb hm hi ho ⊢
  subst hs
  subst hb
  subst hm
  have hi' : inn.size ≤ 9223372036854775807 := hi
  have ho' : ou.size ≤ 9223372036854775807 := ho
  have HR := Lib.hid (show rightM ⟨ip, hn, st, bk, me, ou, inn, rd, stt, cd⟩ = decide (st.length ≤ 48 ∧ bk.length ≤ 48 ∧ me.length ≤ 3000 ∧ ou.size ≤ 2000 ∧ 0 ≤ rd ∧ rd ≤ inn.size ∧ 0 ≤ stt ∧ stt ≤ 2) from rfl)
  obtain ⟨r, hr⟩ : ∃ r, rightM ⟨ip, hn, st, bk, me, ou, inn, rd, stt, cd⟩ = r := ⟨_, rfl⟩
  rw [hr]
  have HR2 := Lib.hid (hr.symm.trans HR.out)
  clear hi ho hr HR
  have hb1 := Lib.hid ((Below.refl w.heap.size w).alloc (Nat.le_refl _) (.cells (cells10 ip hn (.slice so st.length sc) (.slice bo bk.length bc) (.slice mo me.length mc) ou inn rd stt cd) 50))
  by_cases c1 : st.length ≤ 48
  · by_cases c2 : bk.length ≤ 48
    · by_cases c3 : me.length ≤ 3000
      · by_cases c4 : ou.size ≤ 2000
        · by_cases c5 : 0 ≤ rd
          · by_cases c6 : rd ≤ (inn.size : Int)
            · by_cases c7 : 0 ≤ stt
              · have HE := Lib.hid (show r = decide (stt ≤ 2) by rw [HR2.out]; exact decide_eq_decide.2 ⟨fun h => h.2.2.2.2.2.2.2, fun h => ⟨c1, c2, c3, c4, c5, c6, c7, h⟩⟩)
                go_enter Tryz.func84, Tryz.ntmps84
                go_wp2
                go_ret
                exact ⟨by rw [HE.out]; rfl, hb1.out⟩
              · have HE := Lib.hid (show r = false by rw [HR2.out]; exact decide_eq_false fun h => c7 h.2.2.2.2.2.2.1)
                go_enter Tryz.func84, Tryz.ntmps84
                go_wp2
                go_ret
                exact ⟨by rw [HE.out]; rfl, hb1.out⟩
            · have HE := Lib.hid (show r = false by rw [HR2.out]; exact decide_eq_false fun h => c6 h.2.2.2.2.2.1)
              go_enter Tryz.func84, Tryz.ntmps84
              go_wp2
              go_ret
              exact ⟨by rw [HE.out]; rfl, hb1.out⟩
          · have HE := Lib.hid (show r = false by rw [HR2.out]; exact decide_eq_false fun h => c5 h.2.2.2.2.1)
            go_enter Tryz.func84, Tryz.ntmps84
            go_wp2
            go_ret
            exact ⟨by rw [HE.out]; rfl, hb1.out⟩
        · have HE := Lib.hid (show r = false by rw [HR2.out]; exact decide_eq_false fun h => c4 h.2.2.2.1)
          go_enter Tryz.func84, Tryz.ntmps84
          go_wp2
          go_ret
          exact ⟨by rw [HE.out]; rfl, hb1.out⟩
      · have HE := Lib.hid (show r = false by rw [HR2.out]; exact decide_eq_false fun h => c3 h.2.2.1)
        go_enter Tryz.func84, Tryz.ntmps84
        go_wp2
        go_ret
        exact ⟨by rw [HE.out]; rfl, hb1.out⟩
    · have HE := Lib.hid (show r = false by rw [HR2.out]; exact decide_eq_false fun h => c2 h.2.1)
      go_enter Tryz.func84, Tryz.ntmps84
      go_wp2
      go_ret
      exact ⟨by rw [HE.out]; rfl, hb1.out⟩
  · have HE := Lib.hid (show r = false by rw [HR2.out]; exact decide_eq_false fun h => c1 h.1)
    go_enter Tryz.func84, Tryz.ntmps84
    go_wp2
    go_ret
    exact ⟨by rw [HE.out]; rfl, hb1.out⟩
end Go.Proofs.YtpecingkoodmfaaGreatDoor.Mach
/- The document's own machine (chapter 9): copying, beginning a word. -/
namespace Go.Proofs.YtpecingkoodmfaaGreatDoor.Mach
open Go.RowKit Book Mem
set_option linter.unusedVariables false
set_option linter.unusedSimpArgs false
/-- the int type's facts, in one -/
theorem int_facts : ∃ i0 : TypeInfo, Tryz.prog.info? 3 = some i0 ∧ i0.zero = some (.int .i64 0) ∧ i0.size = 1 ∧ i0.bytes = 8 := by
  obtain ⟨i0, q1, q2, q3, q4⟩ := info_parts Tryz.bkIntInfo
  exact ⟨i0, q1, q2, q3, q4⟩
/-- what is known of the blocks of two lists: none is another one's -/
def offB (v : Value) (k : Nat) : Prop := blk v ≠ some k
theorem blk_new {w : World} {v : Value} (h : blk v = blk (.slice none 0 0) ∨ ∃ k, blk v = some k ∧ w.heap.size ≤ k) : ∀ k, blk v = some k → w.heap.size ≤ k := by
  intro k hk
  rcases h with e | ⟨k', e, h⟩
  · rw [e] at hk; cases hk
  · rw [e] at hk
    simp at hk
    omega
theorem slice_one {v : Value} {n : Nat} (h : ∃ ao c, v = .slice ao n c) : v.oneCell' = true := by
  obtain ⟨ao, c, rfl⟩ := h
  rfl
theorem all_one {ip hh : Int} {vs vb vm : Value} {ou inn : ByteArray} {rd stt cd : Int} (h1 : vs.oneCell' = true) (h2 : vb.oneCell' = true) (h3 : vm.oneCell' = true) : (cells10 ip hh vs vb vm ou inn rd stt cd).all (·.oneCell') = true := by
  simp [cells10, h1, h2, h3, show ∀ k n, (Value.int k n).oneCell' = true from fun _ _ => rfl, show ∀ s, (Value.string s).oneCell' = true from fun _ => rfl]
theorem refCopy_ends : True := trivial
end Go.Proofs.YtpecingkoodmfaaGreatDoor.Mach
/- A book that keeps machines; machines that are lent, held against each other. -/
namespace Go.Proofs.YtpecingkoodmfaaGreatDoor.Mach
open Go.RowKit Book Mem
set_option linter.unusedVariables false
set_option linter.unusedSimpArgs false
/-- all boxes and rows but those of a book are as they were -/
def Spares (w w' : World) : Prop := ∀ (k : Nat) (cs : Array Value) (T : TypeId), T ≠ 24 → T ≠ 40 → w.heap[k]? = some (Obj.cells cs T (0, 0)) → w'.heap[k]? = some (Obj.cells cs T (0, 0))
theorem Spares.owns {w w' : World} (h : Spares w w') {B : Nat} {v : Value} {xs : List Value} (ho : Owns w B 3 v xs) : Owns w' B 3 v xs :=
  ho.same fun k hk => by
    obtain ⟨_, _, c, hc⟩ := ho.block k hk
    rw [hc]
    exact h k c _ (by decide) (by decide) hc
theorem Spares.trans {w w1 w2 : World} (h : Spares w w1) (g : Spares w1 w2) : Spares w w2 := fun k cs T h1 h2 hk => g k cs T h1 h2 (h k cs T h1 h2 hk)
theorem Spares.of_below {w w' : World} (h : Below w.heap.size w w') : Spares w w' := fun k cs T _ _ hk => (Stirred.of_below h []).whole hk List.not_mem_nil
/-- a list that came in, or a row of one's own -/
def L (W w : World) (B : Nat) (v : Value) (xs : List Int) : Prop := ReadsC W v xs ∨ Owns w B 3 v (vals xs)
theorem L.reads {W w : World} {B : Nat} {v : Value} {xs : List Int} (h : L W w B v xs) (hb : Below W.heap.size W w) : ReadsC w v xs := by
  rcases h with h | h
  · exact h.below hb
  · exact ReadsC.of_owns h
theorem L.below {W w w' : World} {B : Nat} {v : Value} {xs : List Int} (h : L W w B v xs) (hb : Below w.heap.size w w') : L W w' B v xs := by
  rcases h with h | h
  · exact .inl h
  · exact .inr (h.below hb)
theorem L.mono {W w w' : World} {B : Nat} {v : Value} {xs : List Int} (h : L W w B v xs) (ho : Spares w w') : L W w' B v xs := by
  rcases h with h | h
  · exact .inl h
  · exact .inr (ho.owns h)
/-- a machine of such lists -/
def LM (W w : World) (B : Nat) (v : Value) (m : M) : Prop := ∃ vs vb vm, v = stV m vs vb vm ∧ L W w B vs m.stack ∧ L W w B vb m.back ∧ L W w B vm m.mem
theorem LM.reads {W w : World} {B : Nat} {v : Value} {m : M} (h : LM W w B v m) (hb : Below W.heap.size W w) : ReadsM w v m := by
  obtain ⟨vs, vb, vm, e, h1, h2, h3⟩ := h
  exact ⟨vs, vb, vm, e, h1.reads hb, h2.reads hb, h3.reads hb⟩
theorem LM.below {W w w' : World} {B : Nat} {v : Value} {m : M} (h : LM W w B v m) (hb : Below w.heap.size w w') : LM W w' B v m := by
  obtain ⟨vs, vb, vm, e, h1, h2, h3⟩ := h
  exact ⟨vs, vb, vm, e, h1.below hb, h2.below hb, h3.below hb⟩
theorem LM.mono {W w w' : World} {B : Nat} {v : Value} {m : M} (h : LM W w B v m) (ho : Spares w w') : LM W w' B v m := by
  obtain ⟨vs, vb, vm, e, h1, h2, h3⟩ := h
  exact ⟨vs, vb, vm, e, h1.mono ho, h2.mono ho, h3.mono ho⟩
theorem LM.of_owns {W w : World} {B B' : Nat} {v : Value} {m : M} (h : OwnsM w B v m) (hB : B' ≤ B) : LM W w B' v m := by
  obtain ⟨vs, vb, vm, e, h1⟩ := h
  exact ⟨vs, vb, vm, e, .inr (h1.st.from hB), .inr (h1.bk.from hB), .inr (h1.me.from hB)⟩
theorem LM.of_reads {W : World} (B : Nat) {v : Value} {m : M} (h : ReadsM W v m) : LM W W B v m := by
  obtain ⟨vs, vb, vm, e, h1, h2, h3⟩ := h
  exact ⟨vs, vb, vm, e, .inl h1, .inl h2, .inl h3⟩
/-- what a call answers: a machine of such lists -/
def TellsL (W : World) (B : Nat) (m : M) (w : World) (e : Ending) (w' : World) : Prop := ∃ v, e = .returned v ∧ LM W w' B v m ∧ Below w.heap.size w w'
/-- a book that keeps lists of ints alone -/
def bookArr9 (vS vW : Value) : Array Value := #[.slice none 0 0, .slice none 0 0, vS, vW, .slice none 0 0, .slice none 0 0, .slice none 0 0, .slice none 0 0, .slice none 0 0, .slice none 0 0, .slice none 0 0, .slice none 0 0]
structure Bk (w : World) (pb : Nat) (vS vW : Value) (ls : List (Value × List Value)) : Prop where
  book : w.heap[pb]? = some (.cells (bookArr9 vS vW) 40 (0, 0))
  kept : Kept w (pb + 1) 24 3 goodInts vS vW ls []
theorem Bk.below {w w' : World} {pb : Nat} {vS vW : Value} {ls : List (Value × List Value)} (h : Bk w pb vS vW ls) (hb : Below w.heap.size w w') : Bk w' pb vS vW ls :=
  ⟨(Stirred.of_below hb []).whole h.book List.not_mem_nil, h.kept.below hb⟩
/-- what is done to a row of one's own that is none of the book's -/
theorem Bk.touch {w w' : World} {pb : Nat} {vS vW : Value} {ls : List (Value × List Value)} (h : Bk w pb vS vW ls) {bs : List Nat} (hs : Stirred w w' bs) (hp : pb ∉ bs) (hk : Kept w' (pb + 1) 24 3 goodInts vS vW ls []) : Bk w' pb vS vW ls :=
  ⟨hs.whole h.book hp, hk⟩
theorem Bk.row {w w' : World} {pb : Nat} {vS vW : Value} {ls : List (Value × List Value)} (h : Bk w pb vS vW ls) (hs : Stirred w w' (pb :: ((blk vS).toList ++ (blk vW).toList))) : Spares w w' := by
  intro k cs T h1 h2 hk
  refine hs.whole hk (fun hm => ?_)
  rcases List.mem_cons.1 hm with rfl | hm
  · rw [h.book] at hk
    simp only [Option.some.injEq, Obj.cells.injEq] at hk
    exact h2 hk.2.1.symm
  · obtain ⟨cs', _, hw, _⟩ := h.kept.was
    rcases List.mem_append.1 hm with hm | hm
    · obtain ⟨_, _, c, hc⟩ := h.kept.lists.spine.block k (by simpa using hm)
      rw [hc] at hk
      simp only [Option.some.injEq, Obj.cells.injEq] at hk
      exact h1 hk.2.1.symm
    · obtain ⟨_, _, c, hc⟩ := hw.block k (by simpa using hm)
      rw [hc] at hk
      simp only [Option.some.injEq, Obj.cells.injEq] at hk
      exact h1 hk.2.1.symm
theorem Bk.low {w w' : World} {pb : Nat} {vS vW : Value} {ls : List (Value × List Value)} (h : Bk w pb vS vW ls) (hs : Stirred w w' (pb :: ((blk vS).toList ++ (blk vW).toList))) : Below pb w w' := by
  refine hs.below (fun k hm => ?_) (Nat.le_of_lt (whole_lt h.book))
  rcases List.mem_cons.1 hm with rfl | hm
  · exact Nat.le_refl _
  · obtain ⟨cs', _, h2, _⟩ := h.kept.was
    rcases List.mem_append.1 hm with hm | hm
    · have := (h.kept.lists.spine.block k (by simpa using hm)).1; omega
    · have := (h2.block k (by simpa using hm)).1; omega
theorem Bk.empty {w : World} {pb : Nat} (h : w.heap[pb]? = some (.cells (bookArr9 (.slice none 0 0) (.slice none 0 0)) 40 (0, 0))) : Bk w pb (.slice none 0 0) (.slice none 0 0) [] :=
  ⟨h, Kept.nil _ _ _ _ _ _⟩
theorem Bk.add {w : World} {pb : Nat} {vS vW : Value} {ls : List (Value × List Value)} (h : Bk w pb vS vW ls) (hlt : ls.length < 250) {v : Value} {xs : List Int} {B : Nat} (ho : Owns w B 3 v (vals xs)) (hB : pb + 1 ≤ B) (hl : xs.length ≤ 10000) (hn : ∀ k, blk v = some k → k ∉ blocks ls) :
    Calls Tryz.prog 15 #[.pointer (some ⟨pb, 0, none⟩), v] w fun e w' => e = .returned (.tuple #[]) ∧ ∃ vS' vW', Bk w' pb vS' vW' (ls ++ [(v, vals xs)]) ∧ Below pb w w' ∧ Spares w w' := by
  have hsz := whole_lt h.book
  refine (bookInts_any pb (pb + 1) (bookArr9 vS vW) vS vW v ls (vals xs) w (Nat.lt_succ_self _) hsz hlt h.book rfl rfl [] (fun _ h => by cases h) h.kept (ho.from hB) ⟨xs, rfl, by omega⟩ hn (fun _ _ => List.not_mem_nil)).mono ?_
  rintro e w' ⟨rfl, vS', vW', h1, h2, h3⟩
  refine ⟨rfl, vS', vW', ⟨?_, h2⟩, h.low h3, h.row h3⟩
  rw [h1]
  rfl
end Go.Proofs.YtpecingkoodmfaaGreatDoor.Mach
/- IrTells: the walk. -/
namespace Go.Proofs.YtpecingkoodmfaaGreatDoor.IrTells
open Go.RowKit Book Book.Wide Mem Ir
set_option linter.unusedSimpArgs false
set_option linter.unusedVariables false
theorem put_up {v : Int} (hv : v.natAbs < 18446744073709551616) : Lib.itoa v = Dig.putV Dig.upD v 10 := by
  unfold Lib.itoa Dig.putV Dig.sgn
  rw [show (10 : Int).toNat = 10 from rfl, ← Dig.dec_digs Dig.upD (fun d h => by unfold Dig.upD; rw [if_pos h]) _ hv]
  split
  · rfl
  · rw [List.nil_append, show v.toNat = v.natAbs from by omega]
theorem put10 {c : Int} (hn : Cell.In c) (w : World) : Calls Tryz.prog 12 #[.int .i64 c, .int .i64 10] w fun e w' => e = .returned (.string ⟨(Lib.itoa c).toArray⟩) ∧ w' = w := by
  have h := refPut_any c 10 hn.1 hn.2 w
  have e : putT c 10 = Lib.itoa c := by
    rw [put_up (by have := hn.1; have := hn.2; omega)]
    rfl
  rw [e] at h
  exact h.mono fun e w' hh => ⟨hh.1, hh.2.symm⟩
abbrev namesA : Array Value := #[.string ⟨#[]⟩, .string ⟨#[99, 111, 110, 115, 116]⟩, .string ⟨#[115, 108, 111, 116]⟩, .string ⟨#[98, 101, 104, 105, 110, 100]⟩, .string ⟨#[99, 97, 108, 99]⟩, .string ⟨#[108, 111, 97, 100]⟩, .string ⟨#[112, 117, 116]⟩, .string ⟨#[109, 117, 115, 116]⟩, .string ⟨#[109, 117, 115, 116, 110, 111, 116]⟩, .string ⟨#[115, 97, 109, 101]⟩, .string ⟨#[115, 97, 121]⟩, .string ⟨#[116, 101, 108, 108]⟩, .string ⟨#[97, 115, 107]⟩]
theorem names_at {k : Nat} (hk : k < 13) : namesA[k]? = some (.string (nameI (k : Int))) := by
  have h : k = 0 ∨ k = 1 ∨ k = 2 ∨ k = 3 ∨ k = 4 ∨ k = 5 ∨ k = 6 ∨ k = 7 ∨ k = 8 ∨ k = 9 ∨ k = 10 ∨ k = 11 ∨ k = 12 := by omega
  rcases h with rfl | rfl | rfl | rfl | rfl | rfl | rfl | rfl | rfl | rfl | rfl | rfl | rfl <;> rfl
theorem apart2 {w1 w2 : World} {B : Nat} {ty : TypeId} {v1 v2 : Value} {xs ys : List Value} (h1 : Owns w1 B ty v1 xs) (h2 : Owns w2 w1.heap.size ty v2 ys) (k : Nat) (e1 : blk v1 = some k) (e2 : blk v2 = some k) : False := by
  have a := (h1.block k e1).2.1
  have b := (h2.block k e2).1
  omega
theorem text_is {op a b c d : Int} {nm : List UInt8} (h : 1 ≤ op ∧ op ≤ 12) (hn : nameL op = nm) : textI (op, a, b, c, d) = nm ++ (32 :: (Lib.itoa a ++ (32 :: (Lib.itoa b ++ (32 :: (Lib.itoa c ++ (32 :: Lib.itoa d))))))) := by
  unfold textI tailL
  rw [if_pos h, hn]
  simp
abbrev bookZero : Array Value := #[.slice none 0 0, .slice none 0 0, .slice none 0 0, .slice none 0 0, .slice none 0 0, .slice none 0 0, .slice none 0 0, .slice none 0 0, .slice none 0 0, .slice none 0 0, .slice none 0 0, .slice none 0 0]
theorem drewN1 (w : World) (n : Nat) : Below w.heap.size w (w.drewN n) := bk_below_drewN _ _ _
theorem below_of_drewN {w wn : World} {q : Nat} (h : wn = w.drewN q) : Below w.heap.size w wn := by rw [h]; exact bk_below_drewN _ _ _
abbrev zero5 : Array Value := #[.int .i64 0, .int .i64 0, .int .i64 0, .int .i64 0, .int .i64 0]
section
variable {ops : Array Oper} {rest : List Oper} {o : Oper} {a : Act} {w : World} {Q : Exit → Act → World → Prop}
theorem st_ins (hw : Region.wanted o (yielded ops a.tmps) = true) (x y : Operand) (ho : o.op = .store 42 x y) (g : Nat) (cs : Array Value) (hx : a.eval x = .pointer (some ⟨g, 0, none⟩)) (hy : a.eval y = .agg cs) (hcs : cs.size = 5) (old : Array Value) (hold : old.size = 5) (hg : w.heap[g]? = some (.cells old 42 (0, 0))) (h1 : cs.all (·.oneCell') = true)
    (h : ∀ w', w'.heap[g]? = some (.cells cs 42 (0, 0)) → Stirred w w' [g] → wpList Tryz.prog ops Q rest (a.put o.dst undef) w') : wpList Tryz.prog ops Q (o :: rest) a w :=
  wpList_setbox hw _ x y ho g cs hx hy old _ hg (by rw [Ir.ins_size, hcs]) (by rw [hold, hcs]) h1 h
end
theorem Spares.names {w w' : World} {g : Nat} {cs : Array Value} (h : Mach.Spares w w') (hg : w.heap[g]? = some (.cells cs 9 (0, 0))) : w'.heap[g]? = some (.cells cs 9 (0, 0)) := h g cs _ (by decide) (by decide) hg
theorem Spares.ins {w w' : World} {g : Nat} {cs : Array Value} (h : Mach.Spares w w') (hg : w.heap[g]? = some (.cells cs 42 (0, 0))) : w'.heap[g]? = some (.cells cs 42 (0, 0)) := h g cs _ (by decide) (by decide) hg
def Yes (w : World) (e : Ending) (w' : World) : Prop := e = .returned (.bool true) ∧ Below w.heap.size w w'
set_option maxHeartbeats 16000000 in
set_option maxRecDepth 100000 in
theorem main (v u : Value) (t s : T) (W : World) (l0 : ReadsT W v t ∧ CT t) (l1 : ReadsT W u s ∧ CT s) (hT : Tabs W) :
    Calls Tryz.prog 3 #[v, u] W (Yes W) := by
  obtain ⟨⟨vi, vo, vc, rfl, hR⟩, hCT⟩ := l0
  obtain ⟨⟨ui, uo, uc, rfl, hS⟩, -⟩ := l1
  obtain ⟨ai, ci, ao, co, ac, cc, rfl, rfl, rfl⟩ := hR.known
  obtain ⟨bi, di, bo, dO, bc, dc, rfl, rfl, rfl⟩ := hS.known
  obtain ⟨w1, g, hw1, hg, HG, HB, HZ⟩ := newBox W (trA t (.slice ai t.ins.length ci) (.slice ao t.outs.length co) (.slice ac t.cells.length cc)) 26
  obtain ⟨w2, h, hw2, hh, HH, HB2, HZ2⟩ := newBox w1 (trA s (.slice bi s.ins.length di) (.slice bo s.outs.length dO) (.slice bc s.cells.length dc)) 26
  have HBF := Lib.hid (HB.out.trans (HB2.out.mono HB.out.size))
  have HG2 := Lib.hid (boxOn HG.out HB2.out)
  have HR := Lib.hid (hR.below HBF.out)
  have HS := Lib.hid (hS.below HBF.out)
  have HT := Lib.hid (hT.mono HBF.out)
  have HCT := Lib.hid hCT
  have CL := Lib.hid (light_any HR.out)
  have CM := Lib.hid (fun wd (hb : Below w2.heap.size w2 wd) => light_any (HS.out.below hb))
  have AL := Lib.hid (fun wd (hb : Below w2.heap.size w2 wd) => alive_any wd (HT.out.mono hb))
  have HCe := Lib.hid (fun w3 (hbb : Below w2.heap.size w2 w3) => And.intro (cells9 (boxOn HG2.out hbb)) (cells9 (boxOn HH.out hbb)))
  have HLS := Lib.hid (show lightT t = true → Small t from lightT_small)
  have HMS := Lib.hid (show lightT s = true → Small s from lightT_small)
  obtain ⟨lt, hlt⟩ : ∃ lt, lightT t = lt := ⟨_, rfl⟩
  obtain ⟨ls, hls⟩ : ∃ ls, lightT s = ls := ⟨_, rfl⟩
  have HLT := Lib.hid hlt
  rw [hlt] at CL HLS
  rw [hls] at CM HMS
  obtain ⟨⟨a0, a1, a2, a3, a4, a5, a6, a7, a8⟩, b0, b1, b2, b3, b4, b5, b6, b7, b8⟩ := HCe.out w2 (Below.refl _ _)
  clear hR hS hT hCT hlt hls
  cases lt with
  | false =>
    go_enter Tryz.func3, Tryz.ntmps3
    go_wp2_with fail
    refine CL.out.mono ?_
    rintro e w3 ⟨rfl, hb⟩
    have D := Lib.hid (AL.out w3 hb)
    have HB3 := Lib.hid (HBF.out.trans (hb.mono HBF.out.size))
    clear hb
    go_wp2_with fail
    refine D.out.mono ?_
    rintro e w4 ⟨rfl, hb⟩
    have HB4 := Lib.hid (HB3.out.trans (hb.mono HB3.out.size))
    clear hb
    go_wp2
    go_ret
    exact ⟨rfl, HB4.out⟩
  | true =>
  cases ls with
  | false =>
    go_enter Tryz.func3, Tryz.ntmps3
    go_wp2_with fail
    refine CL.out.mono ?_
    rintro e w3 ⟨rfl, hb⟩
    have HX3 := Lib.hid hb
    obtain ⟨⟨a0, a1, a2, a3, a4, a5, a6, a7, a8⟩, b0, b1, b2, b3, b4, b5, b6, b7, b8⟩ := HCe.out w3 hb
    clear hb
    go_wp2_with fail
    refine (CM.out w3 HX3.out).mono ?_
    rintro e w4 ⟨rfl, hb⟩
    have HX4 := Lib.hid (HX3.out.trans (hb.mono HX3.out.size))
    clear hb
    go_wp2_with fail
    refine (AL.out w4 HX4.out).mono ?_
    rintro e w5 ⟨rfl, hb⟩
    have HB5 := Lib.hid (HBF.out.trans ((HX4.out.trans (hb.mono HX4.out.size)).mono HBF.out.size))
    clear hb
    go_wp2
    go_ret
    exact ⟨rfl, HB5.out⟩
  | true =>
  have HSM := Lib.hid (HLS.out rfl)
  have HSS := Lib.hid (HMS.out rfl)
  have HLL := Lib.hid (Ir.lightT_all HLT.out)
  go_enter Tryz.func3, Tryz.ntmps3
  go_wp2_with fail
  refine CL.out.mono ?_
  rintro e w3 ⟨rfl, hb⟩
  have HX3 := Lib.hid hb
  obtain ⟨⟨a0, a1, a2, a3, a4, a5, a6, a7, a8⟩, b0, b1, b2, b3, b4, b5, b6, b7, b8⟩ := HCe.out w3 hb
  clear hb CL
  go_wp2_with fail
  refine (CM.out w3 HX3.out).mono ?_
  rintro e w4 ⟨rfl, hb⟩
  have HX4 := Lib.hid (HX3.out.trans (hb.mono HX3.out.size))
  clear hb CM
  go_wp2_with fail
  refine (AL.out w4 HX4.out).mono ?_
  rintro e w5 ⟨rfl, hb⟩
  have HX5 := Lib.hid (HX4.out.trans (hb.mono HX4.out.size))
  obtain ⟨⟨a0, a1, a2, a3, a4, a5, a6, a7, a8⟩, b0, b1, b2, b3, b4, b5, b6, b7, b8⟩ := HCe.out w5 HX5.out
  clear hb AL hw1 hw2 hg hh
  go_wp2_with fail
  have C := Lib.hid (lentTrace_any (HR.out.below HX5.out) (by have := HLL.out.1; omega) (by have := HLL.out.2.1; omega) (by have := HLL.out.2.2.1; omega) HSM.out)
  refine C.out.mono ?_
  rintro e w6 ⟨v', rfl, hL, hb⟩
  have HX6 := Lib.hid (HX5.out.trans (hb.mono HX5.out.size))
  have HLT6 := Lib.hid hL
  obtain ⟨g1, c1, g2, c2, g3, c3, L, rfl, -, -, -, -, -⟩ := hL
  obtain ⟨⟨a0, a1, a2, a3, a4, a5, a6, a7, a8⟩, b0, b1, b2, b3, b4, b5, b6, b7, b8⟩ := HCe.out w6 HX6.out
  clear hb C
  obtain ⟨w7, gm, hw7, hgm, HZ7, HB7, HZL⟩ := newBox w6 zero9 26
  have HGM := Lib.hid (show w2.heap.size ≤ gm by have h1 := HX6.out.size; have h2 := HZL.out; omega)
  go_upto_region 4 with (refine st_tr (by rfl) _ _ rfl gm (trA t (.slice (some ⟨g1, 0, none⟩) t.ins.length c1) (.slice (some ⟨g2, 0, none⟩) t.outs.length c2) (.slice (some ⟨g3, 0, none⟩) t.cells.length c3)) rfl rfl rfl _ rfl HZ7.out (by simp [Value.oneCell']) ?_; intro w8 h8 t8)
  have HM8 := Lib.hid h8
  have HB68 := Lib.hid (HB7.out.trans (t8.below (B := w6.heap.size) (fun k hk => by rw [List.mem_singleton.1 hk]; have := HZL.out; omega) HB7.out.size))
  have HX8 := Lib.hid (HX6.out.trans (HB68.out.mono HX6.out.size))
  have HL8 := Lib.hid (HLT6.out.below HB68.out)
  have HLR := Lib.hid (show ReadsL w8 (.slice (some ⟨g1, 0, none⟩) t.ins.length c1) (.slice (some ⟨g2, 0, none⟩) t.outs.length c2) (.slice (some ⟨g3, 0, none⟩) t.cells.length c3) t from by
    obtain ⟨x1, x2, x3, e, h⟩ := HL8.out.reads
    simp only [trV, trA, Value.agg.injEq, Array.mk.injEq, List.cons.injEq, true_and, and_true] at e
    obtain ⟨rfl, rfl, rfl⟩ := e
    exact h)
  clear h8 t8 hw7 hgm HZ7 HB7 a0 a1 a2 a3 a4 a5 a6 a7 a8 b0 b1 b2 b3 b4 b5 b6 b7 b8 HLT6
  have HCf := Lib.hid (fun w9 (hb : Below w8.heap.size w8 w9) => And.intro (cells9 (boxOn HM8.out hb)) (HCe.out w9 (HX8.out.trans (hb.mono HX8.out.size))))
  have R1 := Lib.hid (fun w9 (hb : Below w8.heap.size w8 w9) => right_any (HLR.out.below hb) HSM.out ((HT.out.mono HX8.out).mono hb).names)
  have R2 := Lib.hid (fun w9 (hb : Below w8.heap.size w8 w9) => rright_any ((HR.out.below HX8.out).below hb) HSM.out)
  have R3 := Lib.hid (fun w9 (hb : Below w8.heap.size w8 w9) => same_any (HLR.out.below hb) ((HS.out.below HX8.out).below hb) HSM.out)
  have R4 := Lib.hid (fun w9 (hb : Below w8.heap.size w8 w9) => sameTrace_any ((HR.out.below HX8.out).below hb) ((HS.out.below HX8.out).below hb) HSM.out)
  have R5 := Lib.hid (fun w9 (hb : Below w8.heap.size w8 w9) => show Calls Tryz.prog 10 #[trV t (.slice (some ⟨g1, 0, none⟩) t.ins.length c1) (.slice (some ⟨g2, 0, none⟩) t.outs.length c2) (.slice (some ⟨g3, 0, none⟩) t.cells.length c3), trV t (.slice ai t.ins.length ci) (.slice ao t.outs.length co) (.slice ac t.cells.length cc)] w9 (Says (.bool true) w9) from (same_any (HLR.out.below hb) ((HR.out.below HX8.out).below hb) HSM.out).mono fun e w' hh => ⟨by rw [hh.1, decide_eq_true (rfl : t = t)], hh.2⟩)
  obtain ⟨rt, hrt⟩ : ∃ r, rightT t = r := ⟨_, rfl⟩
  obtain ⟨sm, hsm⟩ : ∃ r, decide (t = s) = r := ⟨_, rfl⟩
  rw [hrt] at R1 R2
  rw [hsm] at R3 R4
  have n1 : (rt != rt) = false := by cases rt <;> rfl
  have n2 : (sm != sm) = false := by cases sm <;> rfl
  clear hrt hsm
  simp only [Act.put, List.setIfInBounds_toArray, List.set_cons_zero, List.set_cons_succ]
  go_cut [47] (fun x wx => x = .bool false ∧ Hid (Below w8.heap.size w8 wx))
  case first =>
    have HBC : Hid (Below w8.heap.size w8 w8.drew) := Lib.hid (Below.refl _ _).drew
    have KX := Lib.hid (HCf.out _ HBC.out)
    refine wp_region_held (S := fun w' => (w'.cell? ⟨gm, 0, none⟩ = some (.int .i64 t.start) ∧ w'.cell? ⟨gm, 1, none⟩ = some (.int .i64 t.slots) ∧ w'.cell? ⟨gm, 2, none⟩ = some (.int .i64 t.backs) ∧ w'.cell? ⟨gm, 3, none⟩ = some (.int .i64 t.grow) ∧ w'.cell? ⟨gm, 4, none⟩ = some (.int .i64 t.growBack) ∧ w'.cell? ⟨gm, 5, none⟩ = some (.slice (some ⟨g1, 0, none⟩) t.ins.length c1) ∧ w'.cell? ⟨gm, 6, none⟩ = some (.slice (some ⟨g2, 0, none⟩) t.outs.length c2) ∧ w'.cell? ⟨gm, 7, none⟩ = some (.int .i64 t.last) ∧ w'.cell? ⟨gm, 8, none⟩ = some (.slice (some ⟨g3, 0, none⟩) t.cells.length c3)) ∧ (w'.cell? ⟨g, 0, none⟩ = some (.int .i64 t.start) ∧ w'.cell? ⟨g, 1, none⟩ = some (.int .i64 t.slots) ∧ w'.cell? ⟨g, 2, none⟩ = some (.int .i64 t.backs) ∧ w'.cell? ⟨g, 3, none⟩ = some (.int .i64 t.grow) ∧ w'.cell? ⟨g, 4, none⟩ = some (.int .i64 t.growBack) ∧ w'.cell? ⟨g, 5, none⟩ = some (.slice ai t.ins.length ci) ∧ w'.cell? ⟨g, 6, none⟩ = some (.slice ao t.outs.length co) ∧ w'.cell? ⟨g, 7, none⟩ = some (.int .i64 t.last) ∧ w'.cell? ⟨g, 8, none⟩ = some (.slice ac t.cells.length cc)) ∧ (w'.cell? ⟨h, 0, none⟩ = some (.int .i64 s.start) ∧ w'.cell? ⟨h, 1, none⟩ = some (.int .i64 s.slots) ∧ w'.cell? ⟨h, 2, none⟩ = some (.int .i64 s.backs) ∧ w'.cell? ⟨h, 3, none⟩ = some (.int .i64 s.grow) ∧ w'.cell? ⟨h, 4, none⟩ = some (.int .i64 s.growBack) ∧ w'.cell? ⟨h, 5, none⟩ = some (.slice bi s.ins.length di) ∧ w'.cell? ⟨h, 6, none⟩ = some (.slice bo s.outs.length dO) ∧ w'.cell? ⟨h, 7, none⟩ = some (.int .i64 s.last) ∧ w'.cell? ⟨h, 8, none⟩ = some (.slice bc s.cells.length dc))) (by kernel_rfl) ?_
    change wpAnyH _ _ _ _ _ _ _ _ (World.drew w8)
    cases rt
    all_goals
      cases sm
      all_goals
        refine wpAnyH_take (i := 0) (oi := ⟨some 28, _, _, _, _, _⟩) (v := ?_) rfl (by kernel_rfl) (by kernel_rfl) (by kernel_rfl) (fun _ _ _ h => h) (Or.inl ⟨by rfl, ?_⟩) KX.out ?_; rotate_left; · intro w hSw; (try dsimp only at hSw); go_simp; try with_reducible rfl
        try simp only [Act.put, List.setIfInBounds_toArray, List.set_cons_zero, List.set_cons_succ]
        refine wpAnyH_take (i := 2) (oi := ⟨some 30, _, _, _, _, _⟩) (v := ?_) rfl (by kernel_rfl) (by kernel_rfl) (by kernel_rfl) (fun _ _ _ h => h) (Or.inl ⟨by rfl, ?_⟩) KX.out ?_; rotate_left; · intro w hSw; (try dsimp only at hSw); go_simp; try with_reducible rfl
        try simp only [Act.put, List.setIfInBounds_toArray, List.set_cons_zero, List.set_cons_succ]
        refine wpAnyH_ready (rs := [1]) (by kernel_rfl) (by simp) ?_
        refine AllReadyH.cons rfl (fun K hK => ?_) ?_
        rotate_left
        · exact AllReadyH.nil
        go_simp
        go_at_call 8
        refine (R1.out _ HBC.out).mono ?_
        rintro e wn ⟨rfl, hb⟩
        have HBC := Lib.hid (HBC.out.trans (hb.mono HBC.out.size))
        have KX := Lib.hid (HCf.out _ HBC.out)
        clear hb
        go_wp2_with fail
        refine hK.out _ _ KX.out (fun hHeld => ?_)
        clear hK K hHeld
        try simp only [Act.put, List.setIfInBounds_toArray, List.set_cons_zero, List.set_cons_succ]
        refine wpAnyH_ready (rs := [3]) (by kernel_rfl) (by simp) ?_
        refine AllReadyH.cons rfl (fun K hK => ?_) ?_
        rotate_left
        · exact AllReadyH.nil
        go_simp
        go_at_call 9
        refine (R2.out _ HBC.out).mono ?_
        rintro e wn ⟨rfl, hb⟩
        have HBC := Lib.hid (HBC.out.trans (hb.mono HBC.out.size))
        have KX := Lib.hid (HCf.out _ HBC.out)
        clear hb
        go_wp2_with fail
        refine hK.out _ _ KX.out (fun hHeld => ?_)
        clear hK K hHeld
        try simp only [Act.put, List.setIfInBounds_toArray, List.set_cons_zero, List.set_cons_succ]
        refine wpAnyH_take (i := 4) (oi := ⟨some 32, _, _, _, _, _⟩) (v := ?_) rfl (by kernel_rfl) (by kernel_rfl) (by kernel_rfl) (fun _ _ _ h => h) (Or.inl ⟨by rfl, ?_⟩) KX.out ?_; rotate_left; · intro w hSw; (try dsimp only at hSw); go_simp; try with_reducible rfl
        try simp only [Act.put, List.setIfInBounds_toArray, List.set_cons_zero, List.set_cons_succ]
        refine wpAnyH_take (i := 5) (oi := ⟨some 33, _, _, _, _, _⟩) (v := ?_) rfl (by kernel_rfl) (by kernel_rfl) (by kernel_rfl) (fun _ _ _ h => h) (Or.inl ⟨by rfl, ?_⟩) KX.out ?_; rotate_left; · intro w hSw; (try dsimp only at hSw); go_simp; try with_reducible rfl
        try simp only [Act.put, List.setIfInBounds_toArray, List.set_cons_zero, List.set_cons_succ]
        refine wpAnyH_take (i := 6) (oi := ⟨some 34, _, _, _, _, _⟩) (v := ?_) rfl (by kernel_rfl) (by kernel_rfl) (by kernel_rfl) (fun _ _ _ h => h) (Or.inl ⟨by rfl, ?_⟩) KX.out ?_; rotate_left; · intro w hSw; (try dsimp only at hSw); go_simp; try with_reducible rfl
        try simp only [Act.put, List.setIfInBounds_toArray, List.set_cons_zero, List.set_cons_succ]
        refine wpAnyH_take (i := 7) (oi := ⟨some 35, _, _, _, _, _⟩) (v := ?_) rfl (by kernel_rfl) (by kernel_rfl) (by kernel_rfl) (fun _ _ _ h => h) (Or.inl ⟨by rfl, ?_⟩) KX.out ?_; rotate_left; · intro w hSw; (try dsimp only at hSw); go_simp; try with_reducible rfl
        try simp only [Act.put, List.setIfInBounds_toArray, List.set_cons_zero, List.set_cons_succ]
        refine wpAnyH_take (i := 9) (oi := ⟨some 37, _, _, _, _, _⟩) (v := ?_) rfl (by kernel_rfl) (by kernel_rfl) (by kernel_rfl) (fun _ _ _ h => h) (Or.inl ⟨by rfl, ?_⟩) KX.out ?_; rotate_left; · intro w hSw; (try dsimp only at hSw); go_simp; try with_reducible rfl
        try simp only [Act.put, List.setIfInBounds_toArray, List.set_cons_zero, List.set_cons_succ]
        refine wpAnyH_take (i := 10) (oi := ⟨some 38, _, _, _, _, _⟩) (v := ?_) rfl (by kernel_rfl) (by kernel_rfl) (by kernel_rfl) (fun _ _ _ h => h) (Or.inl ⟨by rfl, ?_⟩) KX.out ?_; rotate_left; · intro w hSw; (try dsimp only at hSw); go_simp; try with_reducible rfl
        try simp only [Act.put, List.setIfInBounds_toArray, List.set_cons_zero, List.set_cons_succ]
        refine wpAnyH_ready (rs := [8]) (by kernel_rfl) (by simp) ?_
        refine AllReadyH.cons rfl (fun K hK => ?_) ?_
        rotate_left
        · exact AllReadyH.nil
        go_simp
        go_at_call 10
        refine (R3.out _ HBC.out).mono ?_
        rintro e wn ⟨rfl, hb⟩
        have HBC := Lib.hid (HBC.out.trans (hb.mono HBC.out.size))
        have KX := Lib.hid (HCf.out _ HBC.out)
        clear hb
        go_wp2_with fail
        refine hK.out _ _ KX.out (fun hHeld => ?_)
        clear hK K hHeld
        try simp only [Act.put, List.setIfInBounds_toArray, List.set_cons_zero, List.set_cons_succ]
        refine wpAnyH_ready (rs := [11]) (by kernel_rfl) (by simp) ?_
        refine AllReadyH.cons rfl (fun K hK => ?_) ?_
        rotate_left
        · exact AllReadyH.nil
        go_simp
        go_at_call 11
        refine (R4.out _ HBC.out).mono ?_
        rintro e wn ⟨rfl, hb⟩
        have HBC := Lib.hid (HBC.out.trans (hb.mono HBC.out.size))
        have KX := Lib.hid (HCf.out _ HBC.out)
        clear hb
        go_wp2_with fail
        refine hK.out _ _ KX.out (fun hHeld => ?_)
        clear hK K hHeld
        try simp only [Act.put, List.setIfInBounds_toArray, List.set_cons_zero, List.set_cons_succ]
        refine wpAnyH_take (i := 12) (oi := ⟨some 40, _, _, _, _, _⟩) (v := ?_) rfl (by kernel_rfl) (by kernel_rfl) (by kernel_rfl) (fun _ _ _ h => h) (Or.inl ⟨by rfl, ?_⟩) KX.out ?_; rotate_left; · intro w hSw; (try dsimp only at hSw); go_simp; try with_reducible rfl
        try simp only [Act.put, List.setIfInBounds_toArray, List.set_cons_zero, List.set_cons_succ]
        refine wpAnyH_take (i := 13) (oi := ⟨some 41, _, _, _, _, _⟩) (v := ?_) rfl (by kernel_rfl) (by kernel_rfl) (by kernel_rfl) (fun _ _ _ h => h) (Or.inl ⟨by rfl, ?_⟩) KX.out ?_; rotate_left; · intro w hSw; (try dsimp only at hSw); go_simp; try with_reducible rfl
        try simp only [Act.put, List.setIfInBounds_toArray, List.set_cons_zero, List.set_cons_succ]
        refine wpAnyH_take (i := 14) (oi := ⟨some 42, _, _, _, _, _⟩) (v := ?_) rfl (by kernel_rfl) (by kernel_rfl) (by kernel_rfl) (fun _ _ _ h => h) (Or.inl ⟨by rfl, ?_⟩) KX.out ?_; rotate_left; · intro w hSw; (try dsimp only at hSw); go_simp; try with_reducible rfl
        try simp only [Act.put, List.setIfInBounds_toArray, List.set_cons_zero, List.set_cons_succ]
        refine wpAnyH_take (i := 15) (oi := ⟨some 43, _, _, _, _, _⟩) (v := ?_) rfl (by kernel_rfl) (by kernel_rfl) (by kernel_rfl) (fun _ _ _ h => h) (Or.inl ⟨by rfl, ?_⟩) KX.out ?_; rotate_left; · intro w hSw; (try dsimp only at hSw); go_simp; try with_reducible rfl
        try simp only [Act.put, List.setIfInBounds_toArray, List.set_cons_zero, List.set_cons_succ]
        refine wpAnyH_take (i := 16) (oi := ⟨some 44, _, _, _, _, _⟩) (v := ?_) rfl (by kernel_rfl) (by kernel_rfl) (by kernel_rfl) (fun _ _ _ h => h) (Or.inl ⟨by rfl, ?_⟩) KX.out ?_; rotate_left; · intro w hSw; (try dsimp only at hSw); go_simp; try with_reducible rfl
        try simp only [Act.put, List.setIfInBounds_toArray, List.set_cons_zero, List.set_cons_succ]
        refine wpAnyH_ready (rs := [17]) (by kernel_rfl) (by simp) ?_
        refine AllReadyH.cons rfl (fun K hK => ?_) ?_
        rotate_left
        · exact AllReadyH.nil
        go_simp
        go_at_call 10
        refine (R5.out _ HBC.out).mono ?_
        rintro e wn ⟨rfl, hb⟩
        have HBC := Lib.hid (HBC.out.trans (hb.mono HBC.out.size))
        have KX := Lib.hid (HCf.out _ HBC.out)
        clear hb
        go_wp2_with fail
        refine hK.out _ _ KX.out (fun hHeld => ?_)
        clear hK K hHeld
        try simp only [Act.put, List.setIfInBounds_toArray, List.set_cons_zero, List.set_cons_succ]
        refine wpAnyH_take (i := 18) (oi := ⟨some 46, _, _, _, _, _⟩) (v := ?_) rfl (by kernel_rfl) (by kernel_rfl) (by kernel_rfl) (fun _ _ _ h => h) (Or.inl ⟨by rfl, ?_⟩) KX.out ?_; rotate_left; · intro w hSw; (try dsimp only at hSw); go_simp; try with_reducible rfl
        try simp only [Act.put, List.setIfInBounds_toArray, List.set_cons_zero, List.set_cons_succ]
        refine wpAnyH_take (i := 19) (oi := ⟨some 47, _, _, _, _, _⟩) (v := ?_) rfl (by kernel_rfl) (by kernel_rfl) (by kernel_rfl) (fun _ _ _ h => h) (Or.inl ⟨by rfl, ?_⟩) KX.out ?_; rotate_left; · intro w hSw; (try dsimp only at hSw); go_simp; try with_reducible rfl
        try simp only [Act.put, List.setIfInBounds_toArray, List.set_cons_zero, List.set_cons_succ]
        refine wpAnyH_done (by kernel_rfl) ?_ _
        go_wp2_with fail
        go_meet
        exact ⟨rfl, HBC⟩
  case rest =>
    obtain ⟨rfl, HB9⟩ := hcut
    obtain ⟨w9, hw9⟩ : ∃ z, z = wc := ⟨_, rfl⟩
    subst hw9
    have HX9 := Lib.hid (HX8.out.trans (HB9.out.mono HX8.out.size))
    clear R1 R2 R3 R4 R5 n1 n2
    obtain ⟨w10, gN, hw10, hgN, HN, B10, Z10⟩ := newBox w9 namesA 9
    go_upto_region 7 with fail
    clear hw10 hgN
    obtain ⟨w11, pb, hw11, hpb, HBK, B11, Z11⟩ := newBox w10 bookZero 40
    have HK11 := Lib.hid (Mach.Bk.empty HBK.out)
    have HN := Lib.hid (boxOn HN.out B11.out)
    have HB11 := Lib.hid (HB9.out.trans ((B10.out.trans (B11.out.mono B10.out.size)).mono HB9.out.size))
    have HX11 := Lib.hid (HX8.out.trans (HB11.out.mono HX8.out.size))
    have HPL := Lib.hid (show w8.heap.size ≤ pb ∧ W.heap.size ≤ pb ∧ w2.heap.size ≤ pb from by have h1 := HB9.out.size; have h2 := B10.out.size; have h3 := Z11.out; have h4 := HX8.out.size; have h5 := HBF.out.size; exact ⟨by omega, by omega, by omega⟩)
    clear HBK Z11 Z10 B10 B11
    go_upto_region 8 with fail
    clear hw11 hpb
    go_wp2_with fail
    go_loopg [8] t.ins.length (fun zz kv wq => ∃ (k : Nat) (vS vW : Value) (ls : List (Value × List Value)), zz = t.ins.length - k ∧ k ≤ t.ins.length ∧ kv = .int .i64 (k : Int) ∧ Hid (Mach.Bk wq pb vS vW ls) ∧ Hid (ls.length = 2 * k) ∧ Hid (Below w8.heap.size w8 wq) ∧ Hid (wq.heap[gN]? = some (.cells namesA 9 (0, 0))))
    case atStart => exact ⟨0, _, _, _, rfl, Nat.zero_le _, rfl, HK11, Lib.hid rfl, HB11, HN⟩
    case round =>
      obtain ⟨k, vS, vW, ls, rfl, hk, rfl, HK, HLS, HBR, HNR⟩ := hrel
      have HXR := Lib.hid (HX8.out.trans (HBR.out.mono HX8.out.size))
      obtain ⟨⟨m0, m1, m2, m3, m4, m5, m6, m7, m8⟩, ⟨a0, a1, a2, a3, a4, a5, a6, a7, a8⟩, -⟩ := HCf.out wr HBR.out
      by_cases hlt : k < t.ins.length
      · as_aux_lemma =>
        have k0 : (0 : Int) ≤ (k : Int) := Int.natCast_nonneg k
        have k1 : (k : Int) < (t.ins.length : Int) := Int.ofNat_lt.2 hlt
        have HPB := Lib.hid (show pb + 1 ≤ wr.heap.size from whole_lt HK.out.book)
        obtain ⟨x, hx⟩ : ∃ x, t.ins[k]? = some x := ⟨_, List.getElem?_eq_getElem hlt⟩
        have hci := HCT.out.ins x (List.mem_of_getElem? hx)
        obtain ⟨op, a, b, c, d⟩ := x
        have HCI := Lib.hid hci
        obtain ⟨ad, ea, d0, d1, d2, d3, d4⟩ := Ir.ReadsI.at (HR.out.below HXR.out).ins hx
        dsimp only at d0 d1 d2 d3 d4
        clear hci hx
        subst ea
        obtain ⟨w20, gi, hw20, hgi, H20, B20, Z20⟩ := newBox wr zero5 42
        go_upto_region 12 with (refine st_ins (by rfl) _ _ rfl gi (insA (op, a, b, c, d)) rfl rfl rfl _ rfl H20.out (by simp [Value.oneCell']) ?_; intro w21 h21 t21; have HI := Lib.hid h21; have T21 := Lib.hid t21; clear h21 t21)
        have NI := Lib.hid (show wr.heap.size ≤ gi from by rw [← Z20.out]; exact Nat.le_refl _)
        have B21 := Lib.hid (show Below wr.heap.size wr w21 from B20.out.trans (T21.out.below (fun k hk => by rw [List.mem_singleton.1 hk]; exact NI.out) B20.out.size))
        clear hw20 hgi H20 B20 Z20 T21 d0 d1 d2 d3 d4 m0 m1 m2 m3 m4 m5 m6 m7 m8 a0 a1 a2 a3 a4 a5 a6 a7 a8
        have KI := Lib.hid (fun (w' : World) (hx : w'.heap[gi]? = some (.cells (insA (op, a, b, c, d)) 42 (0, 0))) => show w'.cell? ⟨gi, 0, none⟩ = some (.int .i64 op) ∧ w'.cell? ⟨gi, 1, none⟩ = some (.int .i64 a) ∧ w'.cell? ⟨gi, 2, none⟩ = some (.int .i64 b) ∧ w'.cell? ⟨gi, 3, none⟩ = some (.int .i64 c) ∧ w'.cell? ⟨gi, 4, none⟩ = some (.int .i64 d) from ⟨whole_cell hx rfl, whole_cell hx rfl, whole_cell hx rfl, whole_cell hx rfl, whole_cell hx rfl⟩)
        obtain ⟨i0, i1, i2, i3, i4⟩ := KI.out w21 HI.out
        go_upto_region 13 with fail
        go_cut [70] (fun x wx => x = .bool (decide (1 ≤ op ∧ op ≤ 12)) ∧ w21 = wx)
        case first =>
          by_cases h1 : 1 ≤ op
          · by_cases h2 : op ≤ 12
            · as_aux_lemma =>
              have e1 : decide (1 ≤ op) = true := decide_eq_true h1
              have e2 : decide (op ≤ 12) = true := decide_eq_true h2
              have e3 : decide (1 ≤ op ∧ op ≤ 12) = true := decide_eq_true ⟨h1, h2⟩
              have E3 := Lib.hid e3
              clear h1 h2 e3
              go_wp2_with fail
              go_meet
              exact ⟨by rw [E3.out], rfl⟩
            · as_aux_lemma =>
              have e1 : decide (1 ≤ op) = true := decide_eq_true h1
              have e2 : decide (op ≤ 12) = false := decide_eq_false h2
              have e3 : decide (1 ≤ op ∧ op ≤ 12) = false := decide_eq_false (fun h => h2 h.2)
              have E3 := Lib.hid e3
              clear h1 h2 e3
              go_wp2_with fail
              go_meet
              exact ⟨by rw [E3.out], rfl⟩
          · as_aux_lemma =>
            have e1 : decide (1 ≤ op) = false := decide_eq_false h1
            have e3 : decide (1 ≤ op ∧ op ≤ 12) = false := decide_eq_false (fun h => h1 h.1)
            have E3 := Lib.hid e3
            clear h1 e3
            go_wp2_with fail
            go_meet
            exact ⟨by rw [E3.out], rfl⟩
        case rest =>
        obtain ⟨rfl, hwx⟩ := hcut
        subst hwx
        obtain ⟨q, hq⟩ : ∃ q, decide (1 ≤ op ∧ op ≤ 12) = q := ⟨_, rfl⟩
        rw [hq]
        go_upto_if 70 with fail
        go_cut [10] (fun x wx => x = .string ⟨(textI (op, a, b, c, d)).toArray⟩ ∧ Hid (Below w21.heap.size w21 wx))
        case first =>
          cases q with
          | false =>
            as_aux_lemma =>
            have e : textI (op, a, b, c, d) = [] := by unfold textI; rw [if_neg (of_decide_eq_false hq)]
            have E := Lib.hid e
            clear e hq
            go_wp2_with fail
            go_meet
            exact ⟨by rw [E.out], Lib.hid (Below.refl _ _)⟩
          | true =>
            as_aux_lemma =>
            have hop := of_decide_eq_true hq
            clear hq
            obtain ⟨j, rfl⟩ := Int.eq_ofNat_of_zero_le (show 0 ≤ op from by omega)
            obtain ⟨ch, r, hn, hr⟩ := nameL_some hop
            obtain ⟨nm, hnm⟩ : ∃ nm, nameL (j : Int) = nm := ⟨_, rfl⟩
            have hnl : nm.length ≤ 11 := by rw [← hnm, hn]; simp; omega
            have htx := text_is (a := a) (b := b) (c := c) (d := d) hop hnm
            have cN : w21.cell? ⟨gN, j, none⟩ = some (.string ⟨nm.toArray⟩) := by
              have h := whole_cell (boxOn HNR.out B21.out) (names_at (k := j) (by omega))
              rw [nameI_eq, hnm] at h
              exact h
            have j0 : (0 : Int) ≤ (j : Int) := Int.natCast_nonneg j
            have j1 : (j : Int) < 13 := by omega
            have la := itoa_len HCI.out.a.1 HCI.out.a.2
            have lb := itoa_len HCI.out.b.1 HCI.out.b.2
            have lc := itoa_len HCI.out.c.1 HCI.out.c.2
            have ld := itoa_len HCI.out.x.1 HCI.out.x.2
            have PA := Lib.hid (fun wz => put10 HCI.out.a wz)
            have PB := Lib.hid (fun wz => put10 HCI.out.b wz)
            have PC := Lib.hid (fun wz => put10 HCI.out.c wz)
            have PD := Lib.hid (fun wz => put10 HCI.out.x wz)
            dsimp only at la lb lc ld PA PB PC PD
            obtain ⟨ta, hta⟩ : ∃ l, Lib.itoa a = l := ⟨_, rfl⟩
            obtain ⟨tb, htb⟩ : ∃ l, Lib.itoa b = l := ⟨_, rfl⟩
            obtain ⟨tc, htc⟩ : ∃ l, Lib.itoa c = l := ⟨_, rfl⟩
            obtain ⟨td, htd⟩ : ∃ l, Lib.itoa d = l := ⟨_, rfl⟩
            rw [hta] at la PA
            rw [htb] at lb PB
            rw [htc] at lc PC
            rw [htd] at ld PD
            rw [hta, htb, htc, htd] at htx
            have HTX := Lib.hid htx
            clear hta htb htc htd hn hr hnm htx hop
            have l1 : ¬ 9223372036854775807 < nm.length + 1 := by omega
            have l2 : ¬ 9223372036854775807 < nm.length + 1 + ta.length := by omega
            have l3 : ¬ 9223372036854775807 < nm.length + 1 + ta.length + 1 := by omega
            have l4 : ¬ 9223372036854775807 < nm.length + 1 + ta.length + 1 + tb.length := by omega
            have l5 : ¬ 9223372036854775807 < nm.length + 1 + ta.length + 1 + tb.length + 1 := by omega
            have l6 : ¬ 9223372036854775807 < nm.length + 1 + ta.length + 1 + tb.length + 1 + tc.length := by omega
            have l7 : ¬ 9223372036854775807 < nm.length + 1 + ta.length + 1 + tb.length + 1 + tc.length + 1 := by omega
            have l8 : ¬ 9223372036854775807 < nm.length + 1 + ta.length + 1 + tb.length + 1 + tc.length + 1 + td.length := by omega
            clear la lb lc ld hnl
            go_upto_region 14 with fail
            go_quiet ((go_at_call 12; exact Calls.quiet_of_same (by first | with_reducible exact PA.out _ | with_reducible exact PB.out _ | with_reducible exact PC.out _ | with_reducible exact PD.out _)))
            go_wp2_with fail
            go_meet
            refine ⟨congrArg Value.string ?_, Lib.hid (drewN1 _ _)⟩
            rw [HTX.out]
            apply ByteArray.ext
            simp [ByteArray.data_append]
        case rest =>
        obtain ⟨rfl, HB22⟩ := hcut
        obtain ⟨w22, hw22⟩ : ∃ z, z = wc := ⟨_, rfl⟩
        subst hw22
        clear hq i0 i1 i2 i3 i4
        obtain ⟨tx, htx⟩ : ∃ l, textI (op, a, b, c, d) = l := ⟨_, rfl⟩
        rw [htx]
        have HTX := Lib.hid htx
        clear htx
        have hkb : t.ins.length ≤ 120 := HLL.out.1
        have HI := Lib.hid (boxOn HI.out HB22.out)
        have B22 := Lib.hid (B21.out.trans (HB22.out.mono B21.out.size))
        clear B21 HB22
        go_upto_region 15 with fail
        go_cut [11, 12] (fun va vb wx => Hid (Owns wx w22.heap.size 3 va (vals (usesL (op, a, b, c, d)))) ∧ Hid (Owns wx w22.heap.size 3 vb (vals (outsL (op, a, b, c, d)))) ∧ Hid (∀ k, blk va = some k → blk vb = some k → False) ∧ Hid (Below w22.heap.size w22 wx))
        case first =>
          as_aux_lemma =>
          have HBC : Hid (Below w22.heap.size w22 w22.drew) := Lib.hid (Below.refl _ _).drew
          have HIX := Lib.hid (boxOn HI.out HBC.out)
          have KX := Lib.hid (KI.out _ HIX.out)
          refine wp_region_held (S := fun w' => w'.cell? ⟨gi, 0, none⟩ = some (.int .i64 op) ∧ w'.cell? ⟨gi, 1, none⟩ = some (.int .i64 a) ∧ w'.cell? ⟨gi, 2, none⟩ = some (.int .i64 b) ∧ w'.cell? ⟨gi, 3, none⟩ = some (.int .i64 c) ∧ w'.cell? ⟨gi, 4, none⟩ = some (.int .i64 d)) (by kernel_rfl) ?_
          change wpAnyH _ _ _ _ _ _ _ _ (World.drew w22)
          refine wpAnyH_take (i := 0) (oi := ⟨some 96, _, _, _, _, _⟩) (v := ?_) rfl (by kernel_rfl) (by kernel_rfl) (by kernel_rfl) (fun _ _ _ h => h) (Or.inl ⟨by rfl, ?_⟩) KX.out ?_; rotate_left; · intro w hSw; (try dsimp only at hSw); go_simp; try with_reducible rfl
          try simp only [Act.put, List.setIfInBounds_toArray, List.set_cons_zero, List.set_cons_succ]
          refine wpAnyH_take (i := 2) (oi := ⟨some 98, _, _, _, _, _⟩) (v := ?_) rfl (by kernel_rfl) (by kernel_rfl) (by kernel_rfl) (fun _ _ _ h => h) (Or.inl ⟨by rfl, ?_⟩) KX.out ?_; rotate_left; · intro w hSw; (try dsimp only at hSw); go_simp; try with_reducible rfl
          try simp only [Act.put, List.setIfInBounds_toArray, List.set_cons_zero, List.set_cons_succ]
          refine wpAnyH_ready (rs := [1]) (by kernel_rfl) (by simp) ?_
          refine AllReadyH.cons rfl (fun K hK => ?_) ?_
          rotate_left
          · exact AllReadyH.nil
          go_simp
          go_at_call 13
          refine (uses_any (op, a, b, c, d) _).mono ?_
          rintro e wn ⟨va, rfl, ho, hb⟩
          try have HAP := Lib.hid (fun k (e1 : blk va = some k) (e2 : blk vb = some k) => apart2 HOB.out ho k e2 e1)
          try have HOA := Lib.hid (HOA.out.below hb)
          try have HOB := Lib.hid (HOB.out.below hb)
          have HOA := Lib.hid (ho.from HBC.out.size)
          have HBC := Lib.hid (HBC.out.trans (hb.mono HBC.out.size))
          have HIX := Lib.hid (boxOn HIX.out hb)
          have KX := Lib.hid (KI.out _ HIX.out)
          clear ho hb
          go_wp2_with fail
          refine hK.out _ _ KX.out (fun hHeld => ?_)
          clear hK K hHeld
          try simp only [Act.put, List.setIfInBounds_toArray, List.set_cons_zero, List.set_cons_succ]
          refine wpAnyH_ready (rs := [3]) (by kernel_rfl) (by simp) ?_
          refine AllReadyH.cons rfl (fun K hK => ?_) ?_
          rotate_left
          · exact AllReadyH.nil
          go_simp
          go_at_call 14
          refine (outs_any (op, a, b, c, d) _).mono ?_
          rintro e wn ⟨vb, rfl, ho, hb⟩
          try have HAP := Lib.hid (fun k (e1 : blk va = some k) (e2 : blk vb = some k) => apart2 HOA.out ho k e1 e2)
          try have HOA := Lib.hid (HOA.out.below hb)
          try have HOB := Lib.hid (HOB.out.below hb)
          have HOB := Lib.hid (ho.from HBC.out.size)
          have HBC := Lib.hid (HBC.out.trans (hb.mono HBC.out.size))
          have HIX := Lib.hid (boxOn HIX.out hb)
          have KX := Lib.hid (KI.out _ HIX.out)
          clear ho hb
          go_wp2_with fail
          refine hK.out _ _ KX.out (fun hHeld => ?_)
          clear hK K hHeld
          try simp only [Act.put, List.setIfInBounds_toArray, List.set_cons_zero, List.set_cons_succ]
          refine wpAnyH_take (i := 4) (oi := ⟨some 11, _, _, _, _, _⟩) (v := ?_) rfl (by kernel_rfl) (by kernel_rfl) (by kernel_rfl) (fun _ _ _ h => h) (Or.inl ⟨by rfl, ?_⟩) KX.out ?_; rotate_left; · intro w hSw; (try dsimp only at hSw); go_simp; try with_reducible rfl
          try simp only [Act.put, List.setIfInBounds_toArray, List.set_cons_zero, List.set_cons_succ]
          refine wpAnyH_take (i := 5) (oi := ⟨some 12, _, _, _, _, _⟩) (v := ?_) rfl (by kernel_rfl) (by kernel_rfl) (by kernel_rfl) (fun _ _ _ h => h) (Or.inl ⟨by rfl, ?_⟩) KX.out ?_; rotate_left; · intro w hSw; (try dsimp only at hSw); go_simp; try with_reducible rfl
          try simp only [Act.put, List.setIfInBounds_toArray, List.set_cons_zero, List.set_cons_succ]
          refine wpAnyH_done (by kernel_rfl) ?_ _
          go_wp2_with fail
          go_meet
          exact ⟨HOA, HOB, HAP, HBC⟩
        case rest =>
        obtain ⟨va, eva⟩ : ∃ z, z = u11 := ⟨_, rfl⟩
        subst eva
        obtain ⟨vb, evb⟩ : ∃ z, z = u12 := ⟨_, rfl⟩
        subst evb
        obtain ⟨HOA, HOB, HAP, HB23⟩ := hcut
        obtain ⟨w23, hw23⟩ : ∃ z, z = wc := ⟨_, rfl⟩
        subst hw23
        have HI := Lib.hid (boxOn HI.out HB23.out)
        have B23 := Lib.hid (B22.out.trans (HB23.out.mono B22.out.size))
        have HLL2 := Lib.hid (fun q hq => (HK.out.kept.lists.lt q hq).2)
        have HK := Lib.hid (HK.out.below B23.out)
        have UA := Lib.hid (usesL_len (op, a, b, c, d))
        have UB := Lib.hid (outsL_len (op, a, b, c, d))
        have S22 := Lib.hid (show wr.heap.size ≤ w22.heap.size ∧ pb + 1 ≤ w22.heap.size from ⟨B22.out.size, Nat.le_trans HPB.out B22.out.size⟩)
        have HBR23 := Lib.hid (HBR.out.trans (B23.out.mono HBR.out.size))
        have HNR := Lib.hid (boxOn HNR.out B23.out)
        clear B22 B23 HB23 HBR
        obtain ⟨xl, hxl⟩ : ∃ l, usesL (op, a, b, c, d) = l := ⟨_, rfl⟩
        obtain ⟨yl, hyl⟩ : ∃ l, outsL (op, a, b, c, d) = l := ⟨_, rfl⟩
        rw [hxl] at HOA UA
        rw [hyl] at HOB UB
        have HXL := Lib.hid (And.intro hxl hyl)
        clear hxl hyl
        have S1 := Lib.hid (HK.out.add (by have := HLS.out; have h := HLL.out.1; omega) HOA.out S22.out.2 (Nat.le_trans UA.out (by decide)) (fun q e hm => by have h1 := (HOA.out.block q e).1; have h2 := HLL2.out q hm; have h3 := S22.out.1; omega))
        go_wp2_with fail
        refine S1.out.mono ?_
        rintro e w24 ⟨rfl, vS1, vW1, hK, hP, hsp⟩
        have HK := Lib.hid hK
        have HI := Lib.hid (Spares.ins hsp HI.out)
        have HOA := Lib.hid (hsp.owns HOA.out)
        have HOB := Lib.hid (hsp.owns HOB.out)
        have HNR := Lib.hid (Spares.names hsp HNR.out)
        have HBR24 := Lib.hid (HBR23.out.trans (hP.mono HPL.out.1))
        clear hK hP hsp S1 HBR23
        try dsimp only
        have S2 := Lib.hid (HK.out.add (by have := HLS.out; have h := HLL.out.1; rw [List.length_append]; show ls.length + 1 < 250; omega) HOB.out S22.out.2 (Nat.le_trans UB.out (by decide)) (fun q e hm => by
          rw [blocks_append, List.mem_append] at hm
          rcases hm with hm | hm
          · have h1 := (HOB.out.block q e).1; have h2 := HLL2.out q hm; have h3 := S22.out.1; omega
          · have h : blk va = some q := by simpa [blocks] using hm
            exact HAP.out q h e))
        go_wp2_with fail
        refine S2.out.mono ?_
        rintro e w25 ⟨rfl, vS2, vW2, hK, hP, hsp⟩
        have HK := Lib.hid hK
        have HI := Lib.hid (Spares.ins hsp HI.out)
        have HOA := Lib.hid (hsp.owns HOA.out)
        have HOB := Lib.hid (hsp.owns HOB.out)
        have HNR := Lib.hid (Spares.names hsp HNR.out)
        have HBR25 := Lib.hid (HBR24.out.trans (hP.mono HPL.out.1))
        clear hK hP hsp S2 HBR24
        try dsimp only
        go_upto_region 18 with fail
        go_cut [118] (fun x wx => x = .bool false ∧ Hid (Below w25.heap.size w25 wx))
        case first =>
          as_aux_lemma =>
          have HTB := Lib.hid (HT.out.mono (HX8.out.trans (HBR25.out.mono HX8.out.size)))
          have HBC : Hid (Below w25.heap.size w25 w25.drew) := Lib.hid (Below.refl _ _).drew
          have HIX := Lib.hid (boxOn HI.out HBC.out)
          have KX := Lib.hid (KI.out _ HIX.out)
          obtain ⟨gv, hgv⟩ : ∃ q, gives op = q := ⟨_, rfl⟩
          have CT1 := Lib.hid (fun wd (hb : Below w25.heap.size w25 wd) => show Calls Tryz.prog 16 #[insV (op, a, b, c, d)] wd (Says (.string ⟨tx.toArray⟩) wd) from by rw [← HTX.out]; exact text_any (HTB.out.mono hb) op a b c d ⟨HCI.out.a, HCI.out.b, HCI.out.c, HCI.out.x⟩)
          have CG1 := Lib.hid (fun wd => gives_any op wd)
          have CG2 := Lib.hid (fun wd => rgives_any op wd)
          rw [hgv] at CG1 CG2
          have n2 : (gv != gv) = false := by cases gv <;> rfl
          clear hgv
          refine wp_region_held (S := fun w' => w'.cell? ⟨gi, 0, none⟩ = some (.int .i64 op) ∧ w'.cell? ⟨gi, 1, none⟩ = some (.int .i64 a) ∧ w'.cell? ⟨gi, 2, none⟩ = some (.int .i64 b) ∧ w'.cell? ⟨gi, 3, none⟩ = some (.int .i64 c) ∧ w'.cell? ⟨gi, 4, none⟩ = some (.int .i64 d)) (by kernel_rfl) ?_
          change wpAnyH _ _ _ _ _ _ _ _ (World.drew w25)
          refine wpAnyH_take (i := 0) (oi := ⟨some 106, _, _, _, _, _⟩) (v := ?_) rfl (by kernel_rfl) (by kernel_rfl) (by kernel_rfl) (fun _ _ _ h => h) (Or.inl ⟨by rfl, ?_⟩) KX.out ?_; rotate_left; · intro w hSw; (try dsimp only at hSw); go_simp; try with_reducible rfl
          try simp only [Act.put, List.setIfInBounds_toArray, List.set_cons_zero, List.set_cons_succ]
          refine wpAnyH_take (i := 2) (oi := ⟨some 108, _, _, _, _, _⟩) (v := ?_) rfl (by kernel_rfl) (by kernel_rfl) (by kernel_rfl) (fun _ _ _ h => h) (Or.inl ⟨by rfl, ?_⟩) KX.out ?_; rotate_left; · intro w hSw; (try dsimp only at hSw); go_simp; try with_reducible rfl
          try simp only [Act.put, List.setIfInBounds_toArray, List.set_cons_zero, List.set_cons_succ]
          refine wpAnyH_ready (rs := [1]) (by kernel_rfl) (by simp) ?_
          refine AllReadyH.cons rfl (fun K hK => ?_) ?_
          rotate_left
          · exact AllReadyH.nil
          go_simp
          go_at_call 16
          refine (CT1.out _ HBC.out).mono ?_
          rintro e wn ⟨rfl, hb⟩
          have HBC := Lib.hid (HBC.out.trans (hb.mono HBC.out.size))
          have HIX := Lib.hid (boxOn HIX.out hb)
          have KX := Lib.hid (KI.out _ HIX.out)
          clear hb
          go_wp2_with fail
          refine hK.out _ _ KX.out (fun hHeld => ?_)
          clear hK K hHeld
          try simp only [Act.put, List.setIfInBounds_toArray, List.set_cons_zero, List.set_cons_succ]
          refine wpAnyH_take (i := 3) (oi := ⟨some 109, _, _, _, _, _⟩) (v := ?_) rfl (by kernel_rfl) (by kernel_rfl) (by kernel_rfl) (fun _ _ _ h => h) (Or.inl ⟨by rfl, ?_⟩) KX.out ?_; rotate_left; · intro w hSw; (try dsimp only at hSw); go_simp; try with_reducible rfl
          try simp only [Act.put, List.setIfInBounds_toArray, List.set_cons_zero, List.set_cons_succ]
          refine wpAnyH_take (i := 4) (oi := ⟨some 110, _, _, _, _, _⟩) (v := ?_) rfl (by kernel_rfl) (by kernel_rfl) (by kernel_rfl) (fun _ _ _ h => h) (Or.inl ⟨by rfl, ?_⟩) KX.out ?_; rotate_left; · intro w hSw; (try dsimp only at hSw); go_simp; try with_reducible rfl
          try simp only [Act.put, List.setIfInBounds_toArray, List.set_cons_zero, List.set_cons_succ]
          refine wpAnyH_take (i := 5) (oi := ⟨some 111, _, _, _, _, _⟩) (v := ?_) rfl (by kernel_rfl) (by kernel_rfl) (by kernel_rfl) (fun _ _ _ h => h) (Or.inl ⟨by rfl, ?_⟩) KX.out ?_; rotate_left; · intro w hSw; (try dsimp only at hSw); go_simp; try with_reducible rfl
          try simp only [Act.put, List.setIfInBounds_toArray, List.set_cons_zero, List.set_cons_succ]
          refine wpAnyH_take (i := 6) (oi := ⟨some 112, _, _, _, _, _⟩) (v := ?_) rfl (by kernel_rfl) (by kernel_rfl) (by kernel_rfl) (fun _ _ _ h => h) (Or.inl ⟨by rfl, ?_⟩) KX.out ?_; rotate_left; · intro w hSw; (try dsimp only at hSw); go_simp; try with_reducible rfl
          try simp only [Act.put, List.setIfInBounds_toArray, List.set_cons_zero, List.set_cons_succ]
          refine wpAnyH_take (i := 8) (oi := ⟨some 114, _, _, _, _, _⟩) (v := ?_) rfl (by kernel_rfl) (by kernel_rfl) (by kernel_rfl) (fun _ _ _ h => h) (Or.inl ⟨by rfl, ?_⟩) KX.out ?_; rotate_left; · intro w hSw; (try dsimp only at hSw); go_simp; try with_reducible rfl
          try simp only [Act.put, List.setIfInBounds_toArray, List.set_cons_zero, List.set_cons_succ]
          refine wpAnyH_take (i := 9) (oi := ⟨some 115, _, _, _, _, _⟩) (v := ?_) rfl (by kernel_rfl) (by kernel_rfl) (by kernel_rfl) (fun _ _ _ h => h) (Or.inl ⟨by rfl, ?_⟩) KX.out ?_; rotate_left; · intro w hSw; (try dsimp only at hSw); go_simp; try with_reducible rfl
          try simp only [Act.put, List.setIfInBounds_toArray, List.set_cons_zero, List.set_cons_succ]
          refine wpAnyH_ready (rs := [7]) (by kernel_rfl) (by simp) ?_
          refine AllReadyH.cons rfl (fun K hK => ?_) ?_
          rotate_left
          · exact AllReadyH.nil
          go_simp
          go_at_call 17
          refine (CG1.out _).mono ?_
          rintro e wn ⟨rfl, rfl⟩
          go_wp2_with fail
          refine hK.out _ _ KX.out (fun hHeld => ?_)
          clear hK K hHeld
          try simp only [Act.put, List.setIfInBounds_toArray, List.set_cons_zero, List.set_cons_succ]
          refine wpAnyH_ready (rs := [10]) (by kernel_rfl) (by simp) ?_
          refine AllReadyH.cons rfl (fun K hK => ?_) ?_
          rotate_left
          · exact AllReadyH.nil
          go_simp
          go_at_call 18
          refine (CG2.out _).mono ?_
          rintro e wn ⟨rfl, rfl⟩
          go_wp2_with fail
          refine hK.out _ _ KX.out (fun hHeld => ?_)
          clear hK K hHeld
          try simp only [Act.put, List.setIfInBounds_toArray, List.set_cons_zero, List.set_cons_succ]
          refine wpAnyH_take (i := 11) (oi := ⟨some 117, _, _, _, _, _⟩) (v := ?_) rfl (by kernel_rfl) (by kernel_rfl) (by kernel_rfl) (fun _ _ _ h => h) (Or.inl ⟨by rfl, ?_⟩) KX.out ?_; rotate_left; · intro w hSw; (try dsimp only at hSw); go_simp; try with_reducible rfl
          try simp only [Act.put, List.setIfInBounds_toArray, List.set_cons_zero, List.set_cons_succ]
          refine wpAnyH_take (i := 12) (oi := ⟨some 118, _, _, _, _, _⟩) (v := ?_) rfl (by kernel_rfl) (by kernel_rfl) (by kernel_rfl) (fun _ _ _ h => h) (Or.inl ⟨by rfl, ?_⟩) KX.out ?_; rotate_left; · intro w hSw; (try dsimp only at hSw); go_simp; try with_reducible rfl
          try simp only [Act.put, List.setIfInBounds_toArray, List.set_cons_zero, List.set_cons_succ]
          refine wpAnyH_done (by kernel_rfl) ?_ _
          go_wp2_with fail
          go_meet
          exact ⟨rfl, HBC⟩
        case rest =>
        obtain ⟨rfl, HB26⟩ := hcut
        obtain ⟨w26, hw26⟩ : ∃ z, z = wc := ⟨_, rfl⟩
        subst hw26
        have HI := Lib.hid (boxOn HI.out HB26.out)
        have HK := Lib.hid (HK.out.below HB26.out)
        have HOA := Lib.hid (HOA.out.below HB26.out)
        have HOB := Lib.hid (HOB.out.below HB26.out)
        have HNR := Lib.hid (boxOn HNR.out HB26.out)
        have HBR26 := Lib.hid (HBR25.out.trans (HB26.out.mono HBR25.out.size))
        clear HB26 HBR25
        obtain ⟨i0, i1, i2, i3, i4⟩ := KI.out w26 HI.out
        have CI2 := Lib.hid (risTwo_any a w26)
        have CI1 := Lib.hid (risOne_any a w26)
        obtain ⟨y2, hy2⟩ : ∃ q, twoI a = q := ⟨_, rfl⟩
        obtain ⟨y1, hy1⟩ : ∃ q, oneI a = q := ⟨_, rfl⟩
        rw [hy2] at CI2
        rw [hy1] at CI1
        clear hy1 hy2
        go_upto_region 20 with fail
        go_cut [133] (fun x wx => ∃ q, x = .bool q ∧ w26 = wx)
        case first =>
          by_cases h4 : op = 4
          · as_aux_lemma =>
            subst h4
            cases y2
            all_goals
              cases y1
            all_goals
              go_wp2_with (first | (go_at_call 19; refine CI2.out.mono ?_; rintro e wn ⟨rfl, rfl⟩) | (go_at_call 20; refine CI1.out.mono ?_; rintro e wn ⟨rfl, rfl⟩))
              go_meet
              exact ⟨_, rfl, rfl⟩
          · as_aux_lemma =>
            have e4 : decide (op = 4) = false := decide_eq_false h4
            have e4' : (op = 4) = False := eq_false h4
            have e4b : (op == 4) = false := by simpa using h4
            clear h4
            go_wp2_with fail
            go_meet
            exact ⟨_, rfl, rfl⟩
        case rest =>
        obtain ⟨q, rfl, hwx⟩ := hcut
        subst hwx
        cases q with
        | true =>
          as_aux_lemma =>
          go_wp2_with fail
          go_roundg (t.ins.length - (k + 1))
          case measure => omega
          case rel => exact ⟨k + 1, vS2, vW2, _, rfl, by omega, by go_num, HK, Lib.hid (by rw [List.length_append, List.length_append, HLS.out]; show 2 * k + 1 + 1 = _; omega), HBR26, HNR⟩
        | false =>
          as_aux_lemma =>
          have SU := Lib.hid (fun wd => ruses_any (op, a, b, c, d) wd)
          have SO := Lib.hid (fun wd => routs_any (op, a, b, c, d) wd)
          rw [HXL.out.1] at SU
          rw [HXL.out.2] at SO
          go_wp2_with fail
          refine (SU.out _).mono ?_
          rintro e w27 ⟨v1, rfl, ho, hb⟩
          have HO1 := Lib.hid ho
          have HB27 := Lib.hid hb
          obtain ⟨i0, i1, i2, i3, i4⟩ := KI.out w27 (boxOn HI.out hb)
          have SS := Lib.hid (sameReads_any va v1 xl w27 (Reads.of_owns (HOA.out.below hb)) (Reads.of_owns ho) (Nat.le_trans UA.out (by decide)))
          clear ho hb
          try dsimp only
          go_wp2_with fail
          refine SS.out.mono ?_
          rintro e w28 ⟨rfl, q, hq⟩
          have hb := below_of_drewN hq
          have HB28 := Lib.hid (HB27.out.trans (hb.mono HB27.out.size))
          clear hq hb
          obtain ⟨i0, i1, i2, i3, i4⟩ := KI.out w28 (boxOn HI.out HB28.out)
          try dsimp only
          go_wp2_with fail
          refine (SO.out _).mono ?_
          rintro e w29 ⟨v2, rfl, ho, hb⟩
          have HB29 := Lib.hid (HB28.out.trans (hb.mono HB28.out.size))
          have SS2 := Lib.hid (sameReads_any vb v2 yl w29 (Reads.of_owns (HOB.out.below HB29.out)) (Reads.of_owns ho) (Nat.le_trans UB.out (by decide)))
          clear ho hb
          try dsimp only
          go_wp2_with fail
          refine SS2.out.mono ?_
          rintro e w30 ⟨rfl, q, hq⟩
          have hb := below_of_drewN hq
          have HB30 := Lib.hid (HB29.out.trans (hb.mono HB29.out.size))
          clear hq hb
          try dsimp only
          go_wp2_with fail
          go_roundg (t.ins.length - (k + 1))
          case measure => omega
          case rel => exact ⟨k + 1, vS2, vW2, _, rfl, by omega, by go_num, Lib.hid (HK.out.below HB30.out), Lib.hid (by rw [List.length_append, List.length_append, HLS.out]; show 2 * k + 1 + 1 = _; omega), Lib.hid (HBR26.out.trans (HB30.out.mono HBR26.out.size)), Lib.hid (boxOn HNR.out HB30.out)⟩
      · as_aux_lemma =>
        have hkn : k = t.ins.length := by omega
        have k1 : decide ((k : Int) < (t.ins.length : Int)) = false := decide_eq_false (by omega)
        have HWR := Lib.hid (HBF.out.trans (HXR.out.mono HBF.out.size))
        have D1 := Lib.hid (fun wc (hb : Below wr.heap.size wr wc) => staysTrace_any (HL8.out.below (HBR.out.trans (hb.mono HBR.out.size))) (show ReadsT wc (trV t (.slice ai t.ins.length ci) (.slice ao t.outs.length co) (.slice ac t.cells.length cc)) t from ⟨_, _, _, rfl, HR.out.below (HXR.out.trans (hb.mono HXR.out.size))⟩) (Nat.le_trans HLL.out.1 (by decide)) (Nat.le_trans HLL.out.2.1 (by decide)) (Nat.le_trans HLL.out.2.2.1 (by decide)) HSM.out)
        have D4 := Lib.hid (fun wc (hb : Below wr.heap.size wr wc) => apartInts_any pb (pb + 1) vS vW _ wc (Nat.lt_succ_self _) (whole_lt (HK.out.below hb).book) ⟨whole_cell (HK.out.below hb).book rfl, whole_cell (HK.out.below hb).book rfl, whole_cell (HK.out.below hb).book rfl, whole_cell (HK.out.below hb).book rfl, whole_cell (HK.out.below hb).book rfl, whole_cell (HK.out.below hb).book rfl⟩ (whole_cell (HK.out.below hb).book rfl) _ (HK.out.below hb).kept)
        clear hkn
        go_wp2_with fail
        refine (D1.out _ (Below.refl _ _)).mono ?_
        rintro e w31 ⟨rfl, hb⟩
        have D := Lib.hid (D4.out _ hb)
        have HB31 := Lib.hid (HWR.out.trans (hb.mono HWR.out.size))
        clear hb D1 D4
        try dsimp only
        go_wp2_with fail
        refine D.out.mono ?_
        rintro e w32 ⟨rfl, hb⟩
        have HFIN := Lib.hid (HB31.out.trans (hb.mono (Nat.le_succ_of_le HPL.out.2.1)))
        clear hb
        try dsimp only
        go_wp2_with fail
        go_ret
        exact ⟨rfl, HFIN.out⟩
end Go.Proofs.YtpecingkoodmfaaGreatDoor.IrTells

namespace Go.Proofs.YtpecingkoodmfaaGreatDoor.irTells
open Ir Go.ChangeShapes Go.WideShapes Go.ChangeAt Go.RowKit
set_option linter.unusedVariables false
set_option linter.unusedSimpArgs false

theorem own : ownKnob Tryz.prog.godebug = none := by kernel_rfl
theorem laidOut : laidOutB Tryz.prog = true := by kernel_rfl
abbrev laid : List (String × DataW Unit) := laidL
theorem laid_is : Rows.irTellsRow.laid = laid := rfl
set_option maxRecDepth 100000 in
theorem lifted (os : Os) (started : os.Started) (H : Type) (enc : TypeId × Value → H) :
    ReturnsInHanded {} Tryz.checked os 3 .any (fun w args => (Rows.irTellsSpec.pre enc Tryz.prog Tryz.f3 Rows.irTellsRow.domain false w args ∧ laidMetH Tryz.prog laid w) ∧ sizedMet enc Tryz.prog Tryz.f3 (OpenSpec.ofChange Rows.irTellsSpec) false w args)
      (Rows.irTellsSpec.post enc Tryz.prog Tryz.f3 false true false false) := by
  refine returnsInHanded_of_change_and (C := Tryz.checked) (X := fun w _ => laidMetH Tryz.prog laid w) (fun _ _ _ hh h => h.of_heap hh) own started (by kernel_rfl) Tryz.func3
    (ChangeSpec.witness_at (enc := enc) (C := Tryz.checked) (os := os) (X := fun w _ => laidMetH Tryz.prog laid w) false (laidWorld os) #[.agg #[.int .i64 0, .int .i64 0, .int .i64 0, .int .i64 0, .int .i64 0, .slice none 0 0, .slice none 0 0, .int .i64 0, .slice none 0 0], .agg #[.int .i64 0, .int .i64 0, .int .i64 0, .int .i64 0, .int .i64 0, .slice none 0 0, .slice none 0 0, .int .i64 0, .slice none 0 0]] 8 rfl (by kernel_rfl) (by kernel_rfl) (by kernel_rfl) (by kernel_rfl) (by kernel_rfl) (laidWorld_met os _)) ?_
  intro W base args ds gs before hval0 hW _ _ hL _
  have hval : ∀ (j : Nat) t v, Tryz.f3.params[j]? = some t → args[j]? = some v → Value.okWide Tryz.prog W .any base t v := hval0
  have hW' := hW
  obtain ⟨p, q, hA0, hV, rfl, hfz, hnd⟩ := hW
  have hA : DataW.TrodAll enc Tryz.prog W 0 (fun _ => true) true Tryz.f3.params.toList args.toList ds p := hA0
  rw [Tryz.params3] at hA hval
  obtain ⟨v0, vs0, d0, ds0, p0, q0, hargs, rfl, rfl, h0, r0⟩ := trodAll_cons hA
  obtain ⟨v1, vs1, d1, ds1, p1, q1, rfl, rfl, rfl, h1, r1⟩ := trodAll_cons r0
  obtain ⟨rfl, rfl, rfl⟩ := trodAll_nil r1
  obtain rfl : args = #[v0, v1] := by cases args; simp_all
  obtain ⟨rfl, rfl⟩ := trodVars_none hV
  obtain ⟨xs0, l0⟩ := Ir.traceArgOf (hval 0 26 v0 rfl rfl) h0
  obtain ⟨xs1, l1⟩ := Ir.traceArgOf (hval 1 26 v1 rfl rfl) h1
  clear hA0 hval0
  simp only [List.append_nil] at hW'
  have hlt0 : ∀ x ∈ p0, x.block < W.heap.size := fun x hx => by simpa using hW'.lt x (by simp [hx])
  have hlt1 : ∀ x ∈ p1, x.block < W.heap.size := fun x hx => by simpa using hW'.lt x (by simp [hx])
  refine (IrTells.main v0 v1 xs0 xs1 W l0 l1 (tabs_of hL)).mono fun e W' ⟨he, hg⟩ => ?_
  subst he
  exact ⟨_, rfl, _, _, _, [], _, [], hW', (trodAll_cons_mk (shut_bool Tryz.underlying4 _) trodAll_mk0), (trodAll_cons_mk (Below.trod laidOut (by kernel_rfl) (of_decide_eq_true (by kernel_rfl)) h0 hg hlt0) (trodAll_cons_mk (Below.trod laidOut (by kernel_rfl) (of_decide_eq_true (by kernel_rfl)) h1 hg hlt1) trodAll_mk0)), rfl, hg.frame _, fun h => by cases h⟩

theorem over : Rows.irTellsRow.holds Tryz.pinned (OpenSpec.ofChange Rows.irTellsSpec) :=
  OpenClaim.holds_of_wide 3 Tryz.f3 rfl rfl rfl rfl rfl rfl rfl ⟨rfl, rfl, rfl, rfl, rfl⟩ rfl rfl rfl rfl rfl (by kernel_rfl) Tryz.func3 (by kernel_rfl)
    (of_decide_eq_true (by kernel_rfl)) (by unfold Func.isWrapper; first | (rw [if_pos (by decide +kernel)]; kernel_rfl) | (rw [if_neg (by decide +kernel)]; exact ⟨rfl, rfl⟩))
    (fun os started H enc _ => lifted os started H enc)

theorem proved : Rows.IrTellsCardSaid :=
  Claim7.holds_tied_plain_at .later [] Rows.irTellsCard.laidKinds true Rows.irTellsCard.stood.harness Rows.irTellsCard.stood.looks
    over (fun _ h => by cases h) (by kernel_rfl) (fun _ h => by cases h) irTells_row_tie rfl ⟨rfl, rfl⟩ (by kernel_rfl) rfl
    (fun f fn hf hfn => by
      obtain rfl : f = 3 := Option.some.inj ((show Tryz.prog.funcNamed "holloway/hollowaylaw14.IrTells" = some 3 by kernel_rfl).symm.trans hf) |>.symm
      obtain rfl : fn = Tryz.f3 := (Option.some.inj (Tryz.func3.symm.trans hfn)).symm
      exact ⟨by kernel_rfl, fun j t ht => by
        rw [Tryz.params3] at ht
        have hm : t ∈ [26, 26] := by
          rcases Array.mem_of_getElem? ht with h
          simpa using h
        simp only [List.mem_cons, List.not_mem_nil, or_false] at hm
        rcases hm with rfl | rfl
        · exact (show Tryz.prog.wantsStandIn 26 = false by kernel_rfl)
        · exact (show Tryz.prog.wantsStandIn 26 = false by kernel_rfl)⟩)
    (by kernel_rfl)
#print axioms proved
end Go.Proofs.YtpecingkoodmfaaGreatDoor.irTells
