/- What is proved: hollowaylaw9.InnerCalls answers true for every input, and its arguments read afterwards as before; the listed package variables start as the program's text lays them (the card ties them). -/
import Derived.Test.YthnciokmomgfeaaGreatDoorG25
import Derived.Deep.RegionHeld3
import Derived.IntWalk
import Derived.Test.YthnciokmomgfeaaGreatDoorRows
import Derived.Test.YthnciokmomgfeaaGreatDoorCards
import Derived.Test.YthnciokmomgfeaaGreatDoorTie
import Derived.WalkKit
import Derived.ProofKit
import Derived.OpenShut
import Derived.ChangeSame
import Derived.ChangeVars
import Derived.JoinedOf
import Derived.RowKitTokens
import Derived.LaidLaws
import Derived.LaidHandle
import Derived.Stop.Joined
import Derived.SevenTiedAt
import Derived.Carry
/- InnerCalls: the walk. -/
namespace Go.Proofs.YthnciokmomgfeaaGreatDoor.InnerCalls
open Go.RowKit Book Mem Mach Inn
set_option linter.unusedVariables false
set_option linter.unusedSimpArgs false
set_option maxHeartbeats 16000000 in
set_option maxRecDepth 100000 in
/-- what is not small enough -/
theorem less_small (v : Value) (m : M) (a x : Int) (W : World) (h : ReadsM W v m) (hi : m.inp.size ≤ maxLen) (ho : m.out.size ≤ maxLen) (hE : ∀ wc, Below W.heap.size W wc → Tabs wc)
    (hg : lightB m = false ∨ lightB m = true ∧ (m.mem.length < 20 ∨ ¬ m.mem.length < 20 ∧ (48 ≤ m.stack.length ∨ ¬ 48 ≤ m.stack.length ∧ (48 ≤ m.back.length ∨ ¬ 48 ≤ m.back.length ∧ (a < 0 ∨ ¬ a < 0 ∧ ((m.mem.length : Int) - 5 < a ∨ ¬ (m.mem.length : Int) - 5 < a ∧ a < 64)))))) :
    Calls Tryz.prog 6 #[v, .int .i64 a, .int .i64 x] W (Yes W) := by
  have HV := Lib.hid h
  have HE := Lib.hid hE
  obtain ⟨vs, vb, vm, rfl, ⟨-, so, sc, rfl, -⟩, ⟨-, bo, bc, rfl, -⟩, ⟨-, mo, mc, rfl, -⟩⟩ := h
  obtain ⟨w1, g, hw1, hg', HX, HB1, HG⟩ := new_box W (cells10 m.ip m.handler (.slice so m.stack.length sc) (.slice bo m.back.length bc) (.slice mo m.mem.length mc) m.out m.inp m.read m.status m.code) 24
  have C := Lib.hid (light_any (HV.out.below HB1.out) hi ho)
  have hlen : m.mem.length ≤ 700 ∨ lightB m = false := by
    rcases hg with c | ⟨c, -⟩
    · exact .inr c
    · exact .inl ((lightB_iff m).1 c).1
  obtain ⟨n2, hn2⟩ : ∃ n, m.stack.length = n := ⟨_, rfl⟩
  obtain ⟨n3, hn3⟩ : ∃ n, m.back.length = n := ⟨_, rfl⟩
  obtain ⟨n, hn⟩ : ∃ n, m.mem.length = n := ⟨_, rfl⟩
  rw [hn2, hn3, hn] at C HX hw1 hg ⊢
  rw [hn] at hlen
  clear hE hi ho hn2 hn3 hn HV HG
  rcases hg with c | ⟨c, c1 | ⟨c1, c2 | ⟨c2, c3 | ⟨c3, c4 | ⟨c4, c5 | ⟨c5, c6⟩⟩⟩⟩⟩⟩ <;> rw [c] at C
  · clear c hlen
    go_enter Tryz.func6, Tryz.ntmps6
    go_wp2_with (refine ld_state (by rfl) _ rfl _ rfl _ _ HX.out rfl ?_)
    refine C.out.mono ?_
    rintro e w2 ⟨rfl, hb⟩
    have HB2 := Lib.hid (HB1.out.trans (hb.mono HB1.out.size))
    have A := Lib.hid (alive_any w2 (fun wc hbc => HE.out wc (HB2.out.trans (hbc.mono HB2.out.size))))
    clear C hb HX
    go_wp2_with fail
    refine A.out.mono ?_
    rintro e w3 ⟨rfl, hb⟩
    have HB3 := Lib.hid (HB2.out.trans (hb.mono HB2.out.size))
    clear hb A HB2
    go_wp2
    go_ret
    exact ⟨rfl, HB3.out⟩
  all_goals
    have hle : n ≤ 700 := by rcases hlen with h | h; exact h; rw [c] at h; cases h
    clear c hlen
    go_enter Tryz.func6, Tryz.ntmps6
    go_wp2_with (refine ld_state (by rfl) _ rfl _ rfl _ _ HX.out rfl ?_)
    refine C.out.mono ?_
    rintro e w2 ⟨rfl, hb⟩
    have HB2 := Lib.hid (HB1.out.trans (hb.mono HB1.out.size))
    have A := Lib.hid (alive_any w2 (fun wc hbc => HE.out wc (HB2.out.trans (hbc.mono HB2.out.size))))
    have k2 : w2.cell? ⟨g, 2, none⟩ = some (.slice so n2 sc) := whole_cell (box_on HX.out hb) rfl
    have k3 : w2.cell? ⟨g, 3, none⟩ = some (.slice bo n3 bc) := whole_cell (box_on HX.out hb) rfl
    have k4 : w2.cell? ⟨g, 4, none⟩ = some (.slice mo n mc) := whole_cell (box_on HX.out hb) rfl
    clear C hb HX
    go_wp2_with fail
    refine A.out.mono ?_
    rintro e w3 ⟨rfl, hb⟩
    have HB3 := Lib.hid (HB2.out.trans (hb.mono HB2.out.size))
    clear hb A HB2 k2 k3 k4
    go_wp2
    go_ret
    exact ⟨rfl, HB3.out⟩
set_option maxHeartbeats 16000000 in
set_option maxRecDepth 100000 in
/-- what is small enough -/
theorem small (v : Value) (m : M) (at' : Nat) (x : Int) (hx : Cell.In x) (W : World) (h : ReadsM W v m) (hi : m.inp.size ≤ maxLen) (ho : m.out.size ≤ maxLen) (hc : Cells m) (hl : lightB m = true) (h20 : 20 ≤ m.mem.length) (hs : m.stack.length < 48) (hb : m.back.length < 48) (h64 : 64 ≤ at') (hat : at' + 5 ≤ m.mem.length) (hE : ∀ wc, Below W.heap.size W wc → Tabs wc) :
    Calls Tryz.prog 6 #[v, .int .i64 at', .int .i64 x] W (Yes W) := by
  obtain ⟨l1, l2, hr⟩ := (lightB_iff m).1 hl
  have HV := Lib.hid h
  have HE := Lib.hid hE
  obtain ⟨vs, vb, vm, rfl, ⟨-, so, sc, rfl, -⟩, ⟨hbr, bo, bc, rfl, -⟩, ⟨-, mo, mc, rfl, -⟩⟩ := h
  have HBR := Lib.hid hbr
  obtain ⟨w1, g, hw1, hg', HX, HB1, HG⟩ := new_box W (cells10 m.ip m.handler (.slice so m.stack.length sc) (.slice bo m.back.length bc) (.slice mo m.mem.length mc) m.out m.inp m.read m.status m.code) 24
  have C := Lib.hid (light_any (HV.out.below HB1.out) hi ho)
  rw [hl] at C
  have hl1 : (1 : Nat) = 1 := rfl
  obtain ⟨i1, hi1⟩ : ∃ i, at' + 1 = i := ⟨_, rfl⟩
  obtain ⟨i2, hi2⟩ : ∃ i, at' + 2 = i := ⟨_, rfl⟩
  -- the machine that is run, and what becomes of it
  obtain ⟨xM, hxM⟩ : ∃ z : M, { m with mem := (((m.mem.set at' 2).set i1 x).set i2 5).set 0 (at' : Int), ip := 0, status := 0 } = z := ⟨_, rfl⟩
  have hrun : Mach.run 3 xM = ({ xM with ip := 1, stack := m.stack ++ [x] }, 0) := called h64 hat hs hb xM (by rw [← hxM, ← hi1, ← hi2])
  have hxr : Right xM := by rw [← hxM]; exact ⟨hr.stack, hr.back, by simp only [List.length_set]; exact hr.mem, hr.out, hr.read0, hr.read1, Int.le_refl 0, (by decide : (0 : Int) ≤ 2)⟩
  have hin : ∀ (l : List Int) (j : Nat) (y : Int), (∀ z ∈ l, Cell.In z) → Cell.In y → ∀ z ∈ l.set j y, Cell.In z := fun l j y h1 h2 z hz => by
    rcases List.mem_or_eq_of_mem_set hz with h | h
    · exact h1 z h
    · rw [h]; exact h2
  have numI : ∀ k : Int, 0 ≤ k → k ≤ 3000 → Cell.In k := fun k h1 h2 => by unfold Cell.In; omega
  have hxc : Cells xM := by
    rw [← hxM]
    exact ⟨numI 0 (by decide) (by decide), hc.handler, hc.stack, hc.back, hin _ _ _ (hin _ _ _ (hin _ _ _ (hin _ _ _ hc.mem (numI 2 (by decide) (by decide))) hx) (numI 5 (by decide) (by decide))) (numI at' (by omega) (by omega)), hc.code⟩
  have hxi : xM.inp.size ≤ maxLen := by rw [← hxM]; exact hi
  obtain ⟨yM, hy⟩ : ∃ z : M, { xM with ip := 1, stack := m.stack ++ [x] } = z := ⟨_, rfl⟩
  rw [hy] at hrun
  have hy0 : yM.status = 0 := by rw [← hy, ← hxM]
  have hyi : yM.ip = 1 := by rw [← hy]
  have hys : yM.stack = m.stack ++ [x] := by rw [← hy]
  have hyb : yM.back = m.back := by rw [← hy, ← hxM]
  have HP := Lib.hid (And.intro hxr (And.intro hxc (And.intro hxi hrun)))
  have HY := Lib.hid (And.intro hy0 (And.intro hyi (And.intro hys hyb)))
  have HXM := Lib.hid hxM
  have K := Lib.hid (fun wc (hbc : Below W.heap.size W wc) => innCopy_any (HV.out.below hbc) (by omega) (by omega) (by omega))
  obtain ⟨n2, hn2⟩ : ∃ n, m.stack.length = n := ⟨_, rfl⟩
  obtain ⟨n3, hn3⟩ : ∃ n, m.back.length = n := ⟨_, rfl⟩
  obtain ⟨n, hn⟩ : ∃ n, m.mem.length = n := ⟨_, rfl⟩
  obtain ⟨N2, hN2⟩ : ∃ N, n2 + 1 = N := ⟨_, rfl⟩
  have eN : (n2 : Int) + 1 = (N2 : Int) := by omega
  have e1 : (at' : Int) + 1 = (i1 : Int) := by omega
  have e2 : (at' : Int) + 2 = (i2 : Int) := by omega
  have HN := Lib.hid (And.intro hn2 (And.intro hn3 (And.intro hn hN2)))
  rw [hn2, hn3, hn] at C HX K hw1 HV ⊢
  rw [hn3] at HBR
  rw [hn2] at hs
  rw [hn3] at hb
  rw [hn] at h20 hat l1
  have j0 : at' < n := by omega
  have j1 : i1 < n := by omega
  have j2 : i2 < n := by omega
  have jz : 0 < n := by omega
  have HJ := Lib.hid (show at' ≠ i1 ∧ at' ≠ i2 ∧ i1 ≠ i2 by omega)
  have p1 : ¬ n < 20 := by omega
  have p2 : ¬ 48 ≤ n2 := by omega
  have p3 : ¬ 48 ≤ n3 := by omega
  have p4 : ¬ (at' : Int) < 0 := by omega
  have p5 : ¬ ((n : Int) - 5 < (at' : Int)) := by omega
  have p6 : ¬ (at' : Int) < 64 := by omega
  have HQ := Lib.hid (And.intro eN (And.intro e1 (And.intro e2 (And.intro j0 (And.intro j1 (And.intro j2 jz))))))
  clear eN e1 e2 j0 j1 j2 jz hs hb h64 hat h20
  clear hn2 hn3 hn hN2 hy0 hyi hys hyb hy hxM hrun hxr hxc hxi hin numI hc hi ho hr hl hE hbr hi1 hi2 hl1 l2 hx
  go_enter Tryz.func6, Tryz.ntmps6
  go_wp2_with (refine ld_state (by rfl) _ rfl _ rfl _ _ HX.out rfl ?_)
  refine C.out.mono ?_
  rintro e w2 ⟨rfl, hb2⟩
  have HB2 := Lib.hid (HB1.out.trans (hb2.mono HB1.out.size))
  have HX2 := Lib.hid (box_on HX.out hb2)
  have A := Lib.hid (alive_any w2 (fun wc hbc => HE.out wc (HB2.out.trans (hbc.mono HB2.out.size))))
  have k2 : w2.cell? ⟨g, 2, none⟩ = some (.slice so n2 sc) := whole_cell HX2.out rfl
  have k3 : w2.cell? ⟨g, 3, none⟩ = some (.slice bo n3 bc) := whole_cell HX2.out rfl
  have k4 : w2.cell? ⟨g, 4, none⟩ = some (.slice mo n mc) := whole_cell HX2.out rfl
  clear C hb2 HX
  go_wp2_with fail
  refine A.out.mono ?_
  rintro e w3 ⟨rfl, hb3⟩
  have HB3 := Lib.hid (HB2.out.trans (hb3.mono HB2.out.size))
  have HX3 := Lib.hid (box_on HX2.out hb3)
  have R1 := Lib.hid (K.out w3 HB3.out)
  have HG3 := Lib.hid (show g < w3.heap.size from whole_lt HX3.out)
  clear A hb3 HX2 HB2 k2 k3 k4 K
  go_wp2_with (refine ld_state (by rfl) _ rfl _ rfl _ _ HX3.out rfl ?_)
  refine R1.out.mono ?_
  rintro e w4 hgm
  clear p1 p2 p3 p5 p6
  obtain ⟨eN, e1, e2, j0, j1, j2, jz⟩ := HQ.out
  have r0 : (0 : Int) ≤ (at' : Int) := Int.natCast_nonneg _
  have r1 : (0 : Int) ≤ (i1 : Int) := Int.natCast_nonneg _
  have r2 : (0 : Int) ≤ (i2 : Int) := Int.natCast_nonneg _
  have r3 : (at' : Int) < (n : Int) := by omega
  have r4 : (i1 : Int) < (n : Int) := by omega
  have r5 : (i2 : Int) < (n : Int) := by omega
  have r6 : IntKind.i64.wrap ((at' : Int) + 1) = (i1 : Int) := (IntWalk.i64_in _ (by omega)).trans (by omega)
  have r7 : IntKind.i64.wrap ((at' : Int) + 2) = (i2 : Int) := (IntWalk.i64_in _ (by omega)).trans (by omega)
  clear e1 e2
  obtain ⟨a1, c1, a2, c2, gm, cap, rfl, ho4, hrow, hb4⟩ := GivesM.block HN.out.2.2.1 jz hgm
  rw [HN.out.1, HN.out.2.1] at ho4 ⊢
  have HB4 := Lib.hid (HB3.out.trans (hb4.mono HB3.out.size))
  have HX4 := Lib.hid (box_on HX3.out hb4)
  obtain ⟨w5, b, hw5, hb5, HY5, HBn, HG5⟩ := new_box w4 (cells10 m.ip m.handler (.slice a1 n2 c1) (.slice a2 n3 c2) (.slice (some ⟨gm, 0, none⟩) n cap) m.out m.inp m.read m.status m.code) 24
  have M5 := Lib.hid (MB.make HN.out.2.2.1 ho4 hrow hb4.size HY5.out HBn.out HG5.out)
  have HB5 := Lib.hid (HB4.out.trans (HBn.out.mono HB4.out.size))
  have HX5 := Lib.hid (box_on HX4.out HBn.out)
  have HLO := Lib.hid (show W.heap.size ≤ w3.heap.size from HB3.out.size)
  have s4 : w5.cell? ⟨g, 4, none⟩ = some (.slice mo n mc) := whole_cell HX5.out rfl
  have d4 := M5.out.c4
  have d0 : w5.drew.cell? ⟨b, 4, none⟩ = some (.slice (some ⟨gm, 0, none⟩) n cap) := M5.out.drew.c4
  have HGB := Lib.hid M5.out.ne
  have HGM := Lib.hid (show g ≠ gm from fun e => by have h1 := (ho4.me.block gm hrow).1; have h2 := HG.out; have h3 := HLO.out; have h4 := whole_lt HX4.out; have h5 := HG3.out; omega)
  have HGX := Lib.hid (show g ≠ b from fun e => by have h4 := whole_lt HX4.out; have h5 := HG5.out; omega)
  have M6a := Lib.hid (M5.out.store at' 2)
  have M6b := Lib.hid (M6a.out.store i1 x)
  have M6c := Lib.hid (M6b.out.store i2 5)
  obtain ⟨z0, q0⟩ := M5.out.some j0
  obtain ⟨z1, q1⟩ := M5.out.some j1
  obtain ⟨z2, q2⟩ := M5.out.some j2
  have f0 := M5.out.gz j0
  have f1 := M5.out.gz j1
  have f2 := M5.out.gz j2
  obtain ⟨y1, q1'⟩ := M6a.out.some j1
  obtain ⟨y2, q2'⟩ := M6b.out.some j2
  have f1' := M6a.out.gz j1
  have f2' := M6b.out.gz j2
  clear R1 hb4 ho4 HB3 HX3 HB4 HX4 hgm HBn HY5 hrow
  go_wp2_with fail
  go_region_held3 (fun w' => w'.cell? ⟨b, 4, none⟩ = some (.slice (some ⟨gm, 0, none⟩) n cap))
    (first
      | with_reducible exact d0
      | with_reducible exact drewc (keep5 HGB.out d4)
      | with_reducible exact drewc (keep5 HGB.out (keep5 HGB.out d4))
      | with_reducible exact drewc (keep5 HGB.out (keep5 HGB.out (keep5 HGB.out d4))))
    (fail)
  have M6 := Lib.hid M6c.out.drew
  have HB6 := Lib.hid (HB5.out.trans ((((M5.out.belowG at' (.int .i64 2)).trans (M6a.out.belowG i1 (.int .i64 x))).trans (M6b.out.belowG i2 (.int .i64 5))).trans M6c.out.belowD |>.mono HLO.out))
  have HX6 := Lib.hid (show (((w5.setCell ⟨gm, at', none⟩ (.int .i64 2)).setCell ⟨gm, i1, none⟩ (.int .i64 x)).setCell ⟨gm, i2, none⟩ (.int .i64 5)).drew.heap[g]? = some (.cells (cells10 m.ip m.handler (.slice so n2 sc) (.slice bo n3 bc) (.slice mo n mc) m.out m.inp m.read m.status m.code) 24 (0, 0)) from
    (Stirred.drew _ []).whole ((Stirred.setCell _ ⟨gm, i2, none⟩ (.int .i64 5)).whole ((Stirred.setCell _ ⟨gm, i1, none⟩ (.int .i64 x)).whole ((Stirred.setCell _ ⟨gm, at', none⟩ (.int .i64 2)).whole HX5.out (by rw [List.mem_singleton]; exact HGM.out)) (by rw [List.mem_singleton]; exact HGM.out)) (by rw [List.mem_singleton]; exact HGM.out)) List.not_mem_nil)
  clear q0 q1 q2 f0 f1 f2 q1' q2' f1' f2' M6a M6b M6c M5 HB5 HX5 s4 d4 d0
  generalize (((w5.setCell ⟨gm, at', none⟩ (.int .i64 2)).setCell ⟨gm, i1, none⟩ (.int .i64 x)).setCell ⟨gm, i2, none⟩ (.int .i64 5)).drew = w6 at *
  obtain ⟨w7, hw7⟩ : ∃ w', w6.setCell ⟨gm, 0, none⟩ (.int .i64 at') = w' := ⟨_, rfl⟩
  have M7 := Lib.hid (M6.out.store 0 at')
  have HX7 := Lib.hid ((Stirred.setCell w6 ⟨gm, 0, none⟩ (.int .i64 at')).whole HX6.out (by rw [List.mem_singleton]; exact HGM.out))
  have HB7 := Lib.hid (HB6.out.trans ((M6.out.belowG 0 (.int .i64 at')).mono HLO.out))
  rw [hw7] at M7 HX7 HB7
  obtain ⟨w8, hw8⟩ : ∃ w', w7.setCell ⟨b, 0, none⟩ (.int .i64 0) = w' := ⟨_, rfl⟩
  have M8 := Lib.hid (M7.out.ip 0)
  have HX8 := Lib.hid ((Stirred.setCell w7 ⟨b, 0, none⟩ (.int .i64 0)).whole HX7.out (by rw [List.mem_singleton]; exact HGX.out))
  have HB8 := Lib.hid (HB7.out.trans ((M7.out.belowB 0 (.int .i64 0)).mono HLO.out))
  rw [hw8] at M8 HX8 HB8
  obtain ⟨w9, hw9⟩ : ∃ w', w8.setCell ⟨b, 8, none⟩ (.int .i64 0) = w' := ⟨_, rfl⟩
  have M9 := Lib.hid (M8.out.status 0)
  have HX9 := Lib.hid ((Stirred.setCell w8 ⟨b, 8, none⟩ (.int .i64 0)).whole HX8.out (by rw [List.mem_singleton]; exact HGX.out))
  have HB9 := Lib.hid (HB8.out.trans ((M8.out.belowB 8 (.int .i64 0)).mono HLO.out))
  rw [hw9] at M9 HX9 HB9
  have M9 := Lib.hid (show MB w9 w3.heap.size b gm n cap (.slice a1 n2 c1) (.slice a2 n3 c2) xM by rw [← HXM.out]; exact M9.out)
  have x4 := M6.out.c4
  obtain ⟨z3, t0⟩ := M6.out.some jz
  have t1 := M6.out.gz jz
  have t2 : w7.cell? ⟨b, 0, none⟩ = some (.int .i64 m.ip) := whole_cell M7.out.box rfl
  have t3 := M7.out.fz 0
  have t4 : w8.cell? ⟨b, 8, none⟩ = some (.int .i64 m.status) := whole_cell M8.out.box rfl
  have t5 := M8.out.fz 8
  have R3 := Lib.hid (runs_any M9.out.readsM HP.out.1 HP.out.2.1 HP.out.2.2.1 (fun wc hbc => HE.out wc (HB9.out.trans (hbc.mono HB9.out.size))) 3 (by decide) HP.out.2.2.2)
  have HM9 := Lib.hid M9.out.box
  clear M6 M7 M8 HX6 HX7 HX8 HB6 HB7 HB8 HGB
  go_wp2_with (refine ld_state (by rfl) _ rfl _ rfl _ _ HM9.out rfl ?_)
  refine R3.out.mono ?_
  rintro e wa ⟨z1, y1, z2, y2, z3, y3, rfl, hoa, hba⟩
  obtain ⟨hy0, hyi, hys, hyb⟩ := HY.out
  rw [show yM.stack.length = N2 by rw [hys, List.length_append, HN.out.1]; exact HN.out.2.2.2, show yM.back.length = n3 by rw [hyb]; exact HN.out.2.1] at hoa ⊢
  have HOA := Lib.hid hoa
  have HBA := Lib.hid (HB9.out.trans (hba.mono HB9.out.size))
  have HXA := Lib.hid (box_on HX9.out hba)
  obtain ⟨wb, gb, hwb, hgb, HYB, HBn, HGB⟩ := new_box wa (cells10 yM.ip yM.handler (.slice z1 N2 y1) (.slice z2 n3 y2) (.slice z3 yM.mem.length y3) yM.out yM.inp yM.read yM.status yM.code) 24
  have HBB := Lib.hid (HBA.out.trans (HBn.out.mono HBA.out.size))
  have HXB := Lib.hid (box_on HXA.out HBn.out)
  have HOB := Lib.hid (HOA.out.below HBn.out)
  have p8 : wb.cell? ⟨gb, 8, none⟩ = some (.int .i64 0) := by rw [← hy0]; exact whole_cell HYB.out rfl
  have p0 : wb.cell? ⟨gb, 0, none⟩ = some (.int .i64 1) := by rw [← hyi]; exact whole_cell HYB.out rfl
  obtain ⟨gs, cs, es, hblk⟩ := owns_slice HOB.out.st (by rw [hys, List.length_append, List.length_singleton]; omega)
  have e2 : Value.slice z1 N2 y1 = .slice (some ⟨gs, 0, none⟩) N2 y1 := by
    simp only [Value.slice.injEq] at es
    rw [es.1]
  have HST := Lib.hid HOB.out.st
  rw [e2] at HYB HST hwb ⊢
  have p2 : wb.cell? ⟨gb, 2, none⟩ = some (.slice (some ⟨gs, 0, none⟩) N2 y1) := whole_cell HYB.out rfl
  have p3 : wb.cell? ⟨gb, 3, none⟩ = some (.slice z2 n3 y2) := whole_cell HYB.out rfl
  have s2 : wb.cell? ⟨g, 2, none⟩ = some (.slice so n2 sc) := whole_cell HXB.out rfl
  have s3 : wb.cell? ⟨g, 3, none⟩ = some (.slice bo n3 bc) := whole_cell HXB.out rfl
  have p5 : wb.cell? ⟨gs, n2, none⟩ = some (.int .i64 x) := by
    obtain ⟨h1, -⟩ := owns_at HST.out (j := n2) (by rw [hys, List.length_append, List.length_singleton, HN.out.1]; omega)
    rw [h1]
    congr 2
    have h2 : yM.stack[n2]? = some x := by rw [hys, ← HN.out.1]; simp
    rw [List.getElem?_eq_getElem (by rw [hys, List.length_append, List.length_singleton, HN.out.1]; omega)] at h2
    exact Option.some.inj h2
  have l0 : (0 : Int) ≤ (n2 : Int) := Int.natCast_nonneg _
  have l1 : (n2 : Int) < (N2 : Int) := by omega
  have B := Lib.hid (sameReads_any (.slice z2 n3 y2) (.slice bo n3 bc) m.back wb (by rw [← hyb]; exact Reads.of_owns HOB.out.bk) (HBR.out.below HBB.out) (by have := HN.out.2.1; have := HP.out.1.back; rw [hyb.symm] at *; omega))
  clear R3 hoa hba HOA HBA HXA hy0 hyi hys hyb es e2 hblk hw5 hw7 hw8 hw9 x4 t0 t1 t2 t3 t4 t5 M9 HM9 HX9
  go_wp2_with fail
  refine B.out.mono ?_
  rintro e wc ⟨rfl, q, rfl⟩
  have HBC := Lib.hid (show Below W.heap.size W (wb.drewN q) from HBB.out.trans (((Stirred.drewN wb q []).below (fun _ h => by cases h) (Nat.le_refl _)).mono HBB.out.size))
  go_wp2
  go_ret
  exact ⟨rfl, HBC.out⟩
theorem main (v : Value) (m : M) (a x : Int) (W : World) (h : ReadsM W v m ∧ Cells m ∧ m.inp.size ≤ maxLen ∧ m.out.size ≤ maxLen ∧ Cell.In m.read ∧ Cell.In m.status) (_ : (Lit.int .i64 a).wf = true) (hx : (Lit.int .i64 x).wf = true) (hE : ∀ wc, Below W.heap.size W wc → Tabs wc) :
    Calls Tryz.prog 6 #[v, .int .i64 a, .int .i64 x] W (Yes W) := by
  obtain ⟨h, hc, hi, ho, -, -⟩ := h
  by_cases c : lightB m = true
  · by_cases c1 : m.mem.length < 20
    · exact less_small v m a x W h hi ho hE (.inr ⟨c, .inl c1⟩)
    by_cases c2 : 48 ≤ m.stack.length
    · exact less_small v m a x W h hi ho hE (.inr ⟨c, .inr ⟨c1, .inl c2⟩⟩)
    by_cases c3 : 48 ≤ m.back.length
    · exact less_small v m a x W h hi ho hE (.inr ⟨c, .inr ⟨c1, .inr ⟨c2, .inl c3⟩⟩⟩)
    by_cases c4 : a < 0
    · exact less_small v m a x W h hi ho hE (.inr ⟨c, .inr ⟨c1, .inr ⟨c2, .inr ⟨c3, .inl c4⟩⟩⟩⟩)
    by_cases c5 : (m.mem.length : Int) - 5 < a
    · exact less_small v m a x W h hi ho hE (.inr ⟨c, .inr ⟨c1, .inr ⟨c2, .inr ⟨c3, .inr ⟨c4, .inl c5⟩⟩⟩⟩⟩)
    by_cases c6 : a < 64
    · exact less_small v m a x W h hi ho hE (.inr ⟨c, .inr ⟨c1, .inr ⟨c2, .inr ⟨c3, .inr ⟨c4, .inr ⟨c5, c6⟩⟩⟩⟩⟩⟩)
    obtain ⟨a, rfl⟩ := Int.eq_ofNat_of_zero_le (Int.not_lt.1 c4)
    exact small v m a x (Cell.in_of_wf hx) W h hi ho hc c (by omega) (by omega) (by omega) (by omega) (by omega) hE
  · exact less_small v m a x W h hi ho hE (.inl (by simpa using c))
end Go.Proofs.YthnciokmomgfeaaGreatDoor.InnerCalls

namespace Go.Proofs.YthnciokmomgfeaaGreatDoor.innerCalls
open Inn Mach Mem
open Go.ChangeShapes Go.WideShapes Go.ChangeAt Go.RowKit
set_option linter.unusedVariables false
set_option linter.unusedSimpArgs false

theorem own : ownKnob Tryz.prog.godebug = none := by kernel_rfl
theorem laidOut : laidOutB Tryz.prog = true := by kernel_rfl
abbrev laid : List (String × DataW Unit) := laidL9
theorem laid_is : Rows.innerCallsRow.laid = laid := rfl
set_option maxRecDepth 100000 in
theorem lifted (os : Os) (started : os.Started) (H : Type) (enc : TypeId × Value → H) :
    ReturnsInHanded {} Tryz.checked os 6 .any (fun w args => (Rows.innerCallsSpec.pre enc Tryz.prog Tryz.f6 Rows.innerCallsRow.domain false w args ∧ laidMetH Tryz.prog laid w) ∧ sizedMet enc Tryz.prog Tryz.f6 (OpenSpec.ofChange Rows.innerCallsSpec) false w args)
      (Rows.innerCallsSpec.post enc Tryz.prog Tryz.f6 false true false false) := by
  refine returnsInHanded_of_change_and (C := Tryz.checked) (X := fun w _ => laidMetH Tryz.prog laid w) (fun _ _ _ hh h => h.of_heap hh) own started (by kernel_rfl) Tryz.func6
    (Inn.witness_ref (enc := enc) (C := Tryz.checked) (os := os) (X := fun w _ => laidMetH Tryz.prog laid w) false (Inn.laidWorld os) #[.agg #[.int .i64 0, .int .i64 0, .slice none 0 0, .slice none 0 0, .slice none 0 0, .string ⟨#[]⟩, .string ⟨#[]⟩, .int .i64 0, .int .i64 0, .int .i64 0], .int .i64 0, .int .i64 0] 8 rfl (by kernel_rfl) (by kernel_rfl) (by kernel_rfl) (by kernel_rfl) (by kernel_rfl) (Inn.laidWorld_met os _)) ?_
  intro W base args ds gs before hval0 hW _ _ hL _
  have hval : ∀ (j : Nat) t v, Tryz.f6.params[j]? = some t → args[j]? = some v → Value.okWide Tryz.prog W .any base t v := hval0
  have hW' := hW
  obtain ⟨p, q, hA0, hV, rfl, hfz, hnd⟩ := hW
  have hA : DataW.TrodAll enc Tryz.prog W 0 (fun _ => true) true Tryz.f6.params.toList args.toList ds p := hA0
  rw [Tryz.params6] at hA hval
  obtain ⟨v0, vs0, d0, ds0, p0, q0, hargs, rfl, rfl, h0, r0⟩ := trodAll_cons hA
  obtain ⟨v1, vs1, d1, ds1, p1, q1, rfl, rfl, rfl, h1, r1⟩ := trodAll_cons r0
  obtain ⟨v2, vs2, d2, ds2, p2, q2, rfl, rfl, rfl, h2, r2⟩ := trodAll_cons r1
  obtain ⟨rfl, rfl, rfl⟩ := trodAll_nil r2
  obtain rfl : args = #[v0, v1, v2] := by cases args; simp_all
  obtain ⟨rfl, rfl⟩ := trodVars_none hV
  obtain ⟨xs0, l0⟩ := stateOf (hval 0 24 v0 rfl rfl) h0
  obtain ⟨a1, rfl, rfl, rfl, w1⟩ := open_int Tryz.underlying3 (hval 1 3 v1 rfl rfl) h1
  obtain ⟨a2, rfl, rfl, rfl, w2⟩ := open_int Tryz.underlying3 (hval 2 3 v2 rfl rfl) h2
  clear hA0 hval0
  simp only [List.append_nil] at hW'
  have hlt0 : ∀ x ∈ p0, x.block < W.heap.size := fun x hx => by simpa using hW'.lt x (by simp [hx])
  refine (InnerCalls.main v0 xs0 a1 a2 W l0 w1 w2 (tabs_on hL)).mono fun e W' ⟨he, hg⟩ => ?_
  subst he
  exact ⟨_, rfl, _, _, _, [], _, [], hW', (trodAll_cons_mk (shut_bool Tryz.underlying4 _) trodAll_mk0), (trodAll_cons_mk (Below.trod laidOut (by kernel_rfl) (of_decide_eq_true (by kernel_rfl)) h0 hg hlt0) (trodAll_cons_mk (shut_int Tryz.underlying3 w1) (trodAll_cons_mk (shut_int Tryz.underlying3 w2) trodAll_mk0))), rfl, hg.frame _, fun h => by cases h⟩

theorem over : Rows.innerCallsRow.holds Tryz.pinned (OpenSpec.ofChange Rows.innerCallsSpec) :=
  OpenClaim.holds_of_wide 6 Tryz.f6 rfl rfl rfl rfl rfl rfl rfl ⟨rfl, rfl, rfl, rfl, rfl⟩ rfl rfl rfl rfl rfl (by kernel_rfl) Tryz.func6 (by kernel_rfl)
    (of_decide_eq_true (by kernel_rfl)) (by unfold Func.isWrapper; first | (rw [if_pos (by decide +kernel)]; kernel_rfl) | (rw [if_neg (by decide +kernel)]; exact ⟨rfl, rfl⟩))
    (fun os started H enc _ => lifted os started H enc)

theorem proved : Rows.InnerCallsCardSaid :=
  Claim7.holds_tied_plain_at .later [] Rows.innerCallsCard.laidKinds true Rows.innerCallsCard.stood.harness Rows.innerCallsCard.stood.looks
    over (fun _ h => by cases h) (by kernel_rfl) (fun _ h => by cases h) innerCalls_row_tie rfl ⟨rfl, rfl⟩ (by kernel_rfl) rfl
    (fun f fn hf hfn => by
      obtain rfl : f = 6 := Option.some.inj ((show Tryz.prog.funcNamed "holloway/hollowaylaw9.InnerCalls" = some 6 by kernel_rfl).symm.trans hf) |>.symm
      obtain rfl : fn = Tryz.f6 := (Option.some.inj (Tryz.func6.symm.trans hfn)).symm
      exact ⟨by kernel_rfl, fun j t ht => by
        rw [Tryz.params6] at ht
        have hm : t ∈ [24, 3, 3] := by
          rcases Array.mem_of_getElem? ht with h
          simpa using h
        simp only [List.mem_cons, List.not_mem_nil, or_false] at hm
        rcases hm with rfl | rfl | rfl
        · exact (show Tryz.prog.wantsStandIn 24 = false by kernel_rfl)
        · exact (show Tryz.prog.wantsStandIn 3 = false by kernel_rfl)
        · exact (show Tryz.prog.wantsStandIn 3 = false by kernel_rfl)⟩)
    (by kernel_rfl)
#print axioms proved
end Go.Proofs.YthnciokmomgfeaaGreatDoor.innerCalls
