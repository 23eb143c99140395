
/- Package eval: an instruction is done: the other kinds, and all. -/
import Derived.Test.YtbiinnfkokaadaaDoorEvIns
import Derived.Deep.RegionWith
namespace Go.Proofs.YtbiinnfkokaadaaDoor.Ev
open Go.RowKit Book Mem
open Ir (T I O trA ReadsL insA insV)
open Mach (M)
open Go.Proofs.YtbiinnfkokaadaaDoor.Cell (In)
set_option linter.unusedSimpArgs false
set_option linter.unusedVariables false
theorem put_any' (y : Int) (iy : In y) (w : World) (hT : Tabs w) : Calls Tryd.prog 37 #[.int .i64 y, .int .i64 10] w fun e w' => e = .returned (.string ⟨(Lib.itoa y).toArray⟩) ∧ Below w.heap.size w w' := by
  have h := Go.Proofs.YtbiinnfkokaadaaDoor.put_any y 10 iy.1 iy.2 w hT.z hT.t
  rw [put_dot iy] at h
  exact h
theorem calcI_s (s : M) (a b c : Int) : (calcI s a b c).s = s := by unfold calcI; split <;> rfl
theorem calcI_hit (s : M) (a b c : Int) : (calcI s a b c).hit = false := by unfold calcI; split <;> rfl
theorem sayI_v (s : M) (b : ByteArray) : (sayI s b).v = 0 := by unfold sayI; split <;> rfl
theorem putI_v (wat : List Int) (s : M) (b c : Int) : (putI wat s b c).v = 0 := by unfold putI; split <;> rfl
theorem askI_on (s : M) : (askI s).on = true := by unfold askI; split <;> rfl
theorem doI_holds {wat : List Int} {s : M} {V : List Int} {x : I} (h1 : x.1 ≠ 1) (h2 : x.1 ≠ 2) (h3 : x.1 ≠ 3) (h4 : x.1 ≠ 4) (h5 : x.1 ≠ 5) (h6 : x.1 ≠ 6) (h10 : x.1 ≠ 10) (h11 : x.1 ≠ 11) (h12 : x.1 ≠ 12) : doI wat s V x = ⟨s, 0, holdsB x (val V x.2.2.1) (val V x.2.2.2.1), false⟩ := by
  unfold doI holdsB
  rw [if_neg h1, if_neg h2, if_neg h3, if_neg h4, if_neg h5, if_neg h6, if_neg h10, if_neg h11, if_neg h12]
  by_cases h9 : x.1 = 9
  · rw [if_neg (by omega), if_neg (by omega), if_pos h9, if_pos h9]
  · by_cases h8 : x.1 = 8
    · rw [if_neg (by omega), if_pos h8, if_neg h9, if_pos h8]
    · by_cases h7 : x.1 = 7
      · rw [if_pos h7, if_neg h9, if_neg h8, if_pos h7]
      · rw [if_neg h7, if_neg h8, if_neg h9, if_neg h9, if_neg h8, if_neg h7]
section
variable {W w : World} {q : Nat} {t : T} {wat : List Int} {s : M} {V : List Int} {hit : Bool} {z : Sl}

set_option maxHeartbeats 4000000 in
set_option maxRecDepth 100000 in
theorem do4 (h : RunAt W w q t wat s V false z) (hz : Sz s V wat) (hT : Tabs W) (a b c ex : Int) : Calls Tryd.prog 30 #[.pointer (some ⟨q, 0, none⟩), insV (4, a, b, c, ex)] w (DidI W q t wat V z (doI wat s V (4, a, b, c, ex))) := by
  obtain ⟨w1, g, hw1, hg, HG, HB, HZ⟩ := Ir.newBox w (insA (4, a, b, c, ex)) 43
  have k0 : w1.cell? ⟨g, 0, none⟩ = some (.int .i64 4) := whole_cell HG.out rfl
  have k1 : w1.cell? ⟨g, 1, none⟩ = some (.int .i64 a) := whole_cell HG.out rfl
  have k2 : w1.cell? ⟨g, 2, none⟩ = some (.int .i64 b) := whole_cell HG.out rfl
  have k3 : w1.cell? ⟨g, 3, none⟩ = some (.int .i64 c) := whole_cell HG.out rfl
  have k4 : w1.cell? ⟨g, 4, none⟩ = some (.int .i64 ex) := whole_cell HG.out rfl
  have HR := Lib.hid (h.below HB.out)
  have C := Lib.hid (calc_any HR.out hz.vl hz.vi (4, a, b, c, ex))
  have HP := Lib.hid (show doI wat s V (4, a, b, c, ex) = calcI s a (val V b) (val V c) from rfl)
  rw [HP.out]
  dsimp only at C
  have HS := Lib.hid (calcI_s s a (val V b) (val V c))
  have HH := Lib.hid (calcI_hit s a (val V b) (val V c))
  generalize calcI s a (val V b) (val V c) = d at *
  obtain ⟨ds, dv, don, dh⟩ := d
  obtain rfl := HS.out
  obtain rfl := HH.out
  clear h hz HP HS HH hT
  go_enter Tryd.func30, Tryd.ntmps30
  go_wp2_with (go_at_call 33; refine C.out.mono ?_; rintro e w2 ⟨rfl, hb⟩; have HR := Lib.hid (HR.out.below hb); clear hb)
  go_ret2
  exact ⟨rfl, HR.out⟩

set_option maxHeartbeats 4000000 in
set_option maxRecDepth 100000 in
theorem do5 (h : RunAt W w q t wat s V false z) (hz : Sz s V wat) (hT : Tabs W) (a b c ex : Int) : Calls Tryd.prog 30 #[.pointer (some ⟨q, 0, none⟩), insV (5, a, b, c, ex)] w (DidI W q t wat V z (doI wat s V (5, a, b, c, ex))) := by
  obtain ⟨w1, g, hw1, hg, HG, HB, HZ⟩ := Ir.newBox w (insA (5, a, b, c, ex)) 43
  have k0 : w1.cell? ⟨g, 0, none⟩ = some (.int .i64 5) := whole_cell HG.out rfl
  have k2 : w1.cell? ⟨g, 2, none⟩ = some (.int .i64 b) := whole_cell HG.out rfl
  have HR := Lib.hid (h.below HB.out)
  have CV := Lib.hid (fun k => value_any (HR.out.drewN k) hz.vl b)
  have CG := Lib.hid (fun k => get_any (Reads.of_owns (HR.out.drewN k).me) (Nat.le_trans hz.me (by decide)) (val V b))
  obtain ⟨-, -, -, -, -, -, -, -, c13, -⟩ := HR.out.cells
  obtain ⟨vs, vb, vm, vv, vw, vi, vo, vc, ex'⟩ := z
  dsimp only at c13 CG
  have HP := Lib.hid (show doI wat s V (5, a, b, c, ex) = seeI s s.mem (val V b) from rfl)
  rw [HP.out]
  unfold seeI
  obtain ⟨r, hr⟩ : ∃ r, getL s.mem (val V b) = r := ⟨_, rfl⟩
  rw [hr] at CG ⊢
  clear h hz hr HP
  go_enter Tryd.func30, Tryd.ntmps30
  go_wp2_with fail
  go_quiet (first | (go_at_call 34; exact Calls.quiet_of_same (CV.out _)) | (go_at_call 32; exact Calls.quiet_of_same (CG.out _)))
  go_wp2
  go_ret2
  exact ⟨rfl, HR.out.drewN _⟩

set_option maxHeartbeats 4000000 in
set_option maxRecDepth 100000 in
theorem do6 (h : RunAt W w q t wat s V false z) (hz : Sz s V wat) (hT : Tabs W) (a b c ex : Int) : Calls Tryd.prog 30 #[.pointer (some ⟨q, 0, none⟩), insV (6, a, b, c, ex)] w (DidI W q t wat V z (doI wat s V (6, a, b, c, ex))) := by
  obtain ⟨w1, g, hw1, hg, HG, HB, HZ⟩ := Ir.newBox w (insA (6, a, b, c, ex)) 43
  have k0 : w1.cell? ⟨g, 0, none⟩ = some (.int .i64 6) := whole_cell HG.out rfl
  have k2 : w1.cell? ⟨g, 2, none⟩ = some (.int .i64 b) := whole_cell HG.out rfl
  have k3 : w1.cell? ⟨g, 3, none⟩ = some (.int .i64 c) := whole_cell HG.out rfl
  have HR := Lib.hid (h.below HB.out)
  have CB := Lib.hid (value_any HR.out.drew hz.vl b)
  have CC := Lib.hid (value_any HR.out.drew hz.vl c)
  have CP := Lib.hid (put_any HR.out.drew (Nat.le_trans hz.me (by decide)) hz.wa (val V b) (val V c))
  have HP := Lib.hid (show doI wat s V (6, a, b, c, ex) = putI wat s (val V b) (val V c) from rfl)
  rw [HP.out]
  have HS := Lib.hid (putI_v wat s (val V b) (val V c))
  generalize putI wat s (val V b) (val V c) = d at *
  obtain ⟨ds, dv, don, dh⟩ := d
  obtain rfl := HS.out
  clear h hz HP HS hT
  go_enter Tryd.func30, Tryd.ntmps30
  go_wp2_with fail
  go_region_with (first
    | (go_at_call 34; first | (with_reducible refine CB.out.mono ?_; rintro e w' ⟨rfl, rfl⟩) | (with_reducible refine CC.out.mono ?_; rintro e w' ⟨rfl, rfl⟩))
    | (go_at_call 35; refine CP.out.mono ?_; rintro e w2 ⟨rfl, hr2⟩; have HR2 := Lib.hid hr2; clear hr2))
  all_goals
    go_wp2
    go_ret2
    exact ⟨rfl, HR2.out⟩

set_option maxHeartbeats 4000000 in
set_option maxRecDepth 100000 in
theorem do10 (h : RunAt W w q t wat s V false z) (hz : Sz s V wat) (hT : Tabs W) (a b c ex : Int) : Calls Tryd.prog 30 #[.pointer (some ⟨q, 0, none⟩), insV (10, a, b, c, ex)] w (DidI W q t wat V z (doI wat s V (10, a, b, c, ex))) := by
  obtain ⟨w1, g, hw1, hg, HG, HB, HZ⟩ := Ir.newBox w (insA (10, a, b, c, ex)) 43
  have k0 : w1.cell? ⟨g, 0, none⟩ = some (.int .i64 10) := whole_cell HG.out rfl
  have k2 : w1.cell? ⟨g, 2, none⟩ = some (.int .i64 b) := whole_cell HG.out rfl
  have HR := Lib.hid (h.below HB.out)
  obtain ⟨y, hy⟩ : ∃ y, val V b = y := ⟨_, rfl⟩
  have C1 := Lib.hid (value_any HR.out hz.vl b)
  rw [hy] at C1
  obtain ⟨w2, gl, hw2, hgl, hcv, HB2⟩ := byte_box w1 (y % 256)
  have C2 := Lib.hid (say_any (HR.out.below HB2.out) hz.ou (byteT y) (by show 1 ≤ 100; decide))
  have HP := Lib.hid (show doI wat s V (10, a, b, c, ex) = sayI s (byteT y) by rw [← hy]; rfl)
  rw [HP.out]
  have HS := Lib.hid (sayI_v s (byteT y))
  unfold byteT at *
  generalize sayI s _ = d at *
  obtain ⟨ds, dv, don, dh⟩ := d
  obtain rfl := HS.out
  clear h hz hy HP HS hT
  go_enter Tryd.func30, Tryd.ntmps30
  go_wp2_with (first
    | (go_at_call 34; refine C1.out.mono ?_; rintro e w' ⟨rfl, rfl⟩)
    | (go_at_call 36; refine C2.out.mono ?_; rintro e w3 ⟨rfl, hr2⟩; have HR2 := Lib.hid hr2; clear hr2))
  go_ret2
  exact ⟨rfl, HR2.out⟩

set_option maxHeartbeats 4000000 in
set_option maxRecDepth 100000 in
theorem do11 (h : RunAt W w q t wat s V false z) (hz : Sz s V wat) (hT : Tabs W) (a b c ex : Int) : Calls Tryd.prog 30 #[.pointer (some ⟨q, 0, none⟩), insV (11, a, b, c, ex)] w (DidI W q t wat V z (doI wat s V (11, a, b, c, ex))) := by
  obtain ⟨w1, g, hw1, hg, HG, HB, HZ⟩ := Ir.newBox w (insA (11, a, b, c, ex)) 43
  have k0 : w1.cell? ⟨g, 0, none⟩ = some (.int .i64 11) := whole_cell HG.out rfl
  have k2 : w1.cell? ⟨g, 2, none⟩ = some (.int .i64 b) := whole_cell HG.out rfl
  have HR := Lib.hid (h.below HB.out)
  obtain ⟨y, hy⟩ : ∃ y, val V b = y := ⟨_, rfl⟩
  have iy : In y := by rw [← hy]; exact val_in hz.vi b
  have C1 := Lib.hid (value_any HR.out hz.vl b)
  rw [hy] at C1
  have HT1 := hT.mono HR.out.hb
  have C2 := Lib.hid (put_any' y iy w1 HT1)
  have hlen := itoa_len iy.1 iy.2
  have hsz : (⟨(Lib.itoa y).toArray⟩ : ByteArray).size = (Lib.itoa y).length := by simp [ByteArray.size]
  have C3 := Lib.hid (fun wc (hb : Below w1.heap.size w1 wc) => say_any (HR.out.below hb) hz.ou (tellT y) (by unfold tellT; rw [ByteArray.size_append, hsz]; show _ + 1 ≤ 100; omega))
  have HP := Lib.hid (show doI wat s V (11, a, b, c, ex) = sayI s (tellT y) by rw [← hy]; rfl)
  rw [HP.out]
  have HS := Lib.hid (sayI_v s (tellT y))
  have HL := Lib.hid (And.intro hlen hsz)
  unfold tellT at *
  generalize Lib.itoa y = tl at *
  obtain ⟨nl, hnl⟩ : ∃ n, tl.length = n := ⟨_, rfl⟩
  rw [hnl] at hlen hsz
  generalize sayI s _ = d at *
  obtain ⟨ds, dv, don, dh⟩ := d
  obtain rfl := HS.out
  clear h hz hy HP HS hT HT1 HL
  go_enter Tryd.func30, Tryd.ntmps30
  go_wp2_with (first
    | (go_at_call 34; refine C1.out.mono ?_; rintro e w' ⟨rfl, rfl⟩)
    | (go_at_call 37; refine C2.out.mono ?_; rintro e w2 ⟨rfl, hb⟩; have C4 := Lib.hid (C3.out _ hb); clear hb)
    | (go_at_call 36; refine C4.out.mono ?_; rintro e w3 ⟨rfl, hr2⟩; have HR2 := Lib.hid hr2; clear hr2))
  go_ret2
  exact ⟨rfl, HR2.out⟩

set_option maxHeartbeats 4000000 in
set_option maxRecDepth 100000 in
theorem do12 (h : RunAt W w q t wat s V false z) (hz : Sz s V wat) (hT : Tabs W) (a b c ex : Int) : Calls Tryd.prog 30 #[.pointer (some ⟨q, 0, none⟩), insV (12, a, b, c, ex)] w (DidI W q t wat V z (doI wat s V (12, a, b, c, ex))) := by
  obtain ⟨w1, g, hw1, hg, HG, HB, HZ⟩ := Ir.newBox w (insA (12, a, b, c, ex)) 43
  have k0 : w1.cell? ⟨g, 0, none⟩ = some (.int .i64 12) := whole_cell HG.out rfl
  have HR := Lib.hid (h.below HB.out)
  have C1 := Lib.hid (ask_any HR.out hz.inp)
  have HP := Lib.hid (show doI wat s V (12, a, b, c, ex) = askI s from rfl)
  rw [HP.out]
  have HS := Lib.hid (askI_on s)
  generalize askI s = d at *
  obtain ⟨ds, dv, don, dh⟩ := d
  obtain rfl := HS.out
  clear h hz HP HS hT
  go_enter Tryd.func30, Tryd.ntmps30
  go_wp2_with (go_at_call 38; refine C1.out.mono ?_; rintro e w3 ⟨rfl, hr2⟩; have HR2 := Lib.hid hr2; clear hr2)
  go_ret2
  exact ⟨rfl, HR2.out⟩

set_option maxHeartbeats 4000000 in
set_option maxRecDepth 100000 in
theorem doElse (op : Int) (h1 : op ≠ 1) (h2 : op ≠ 2) (h3 : op ≠ 3) (h4 : op ≠ 4) (h5 : op ≠ 5) (h6 : op ≠ 6) (h10 : op ≠ 10) (h11 : op ≠ 11) (h12 : op ≠ 12) (h : RunAt W w q t wat s V false z) (hz : Sz s V wat) (hT : Tabs W) (a b c ex : Int) : Calls Tryd.prog 30 #[.pointer (some ⟨q, 0, none⟩), insV (op, a, b, c, ex)] w (DidI W q t wat V z (doI wat s V (op, a, b, c, ex))) := by
  obtain ⟨w1, g, hw1, hg, HG, HB, HZ⟩ := Ir.newBox w (insA (op, a, b, c, ex)) 43
  have k0 : w1.cell? ⟨g, 0, none⟩ = some (.int .i64 op) := whole_cell HG.out rfl
  have k1 : w1.cell? ⟨g, 1, none⟩ = some (.int .i64 a) := whole_cell HG.out rfl
  have k2 : w1.cell? ⟨g, 2, none⟩ = some (.int .i64 b) := whole_cell HG.out rfl
  have k3 : w1.cell? ⟨g, 3, none⟩ = some (.int .i64 c) := whole_cell HG.out rfl
  have k4 : w1.cell? ⟨g, 4, none⟩ = some (.int .i64 ex) := whole_cell HG.out rfl
  have HR := Lib.hid (h.below HB.out)
  have C1 := Lib.hid (holds_any HR.out hz.vl hz.vi (op, a, b, c, ex))
  have HP := Lib.hid (show doI wat s V (op, a, b, c, ex) = ⟨s, 0, holdsB (op, a, b, c, ex) (val V b) (val V c), false⟩ from doI_holds h1 h2 h3 h4 h5 h6 h10 h11 h12)
  rw [HP.out]
  dsimp only at C1
  generalize holdsB (op, a, b, c, ex) (val V b) (val V c) = r at *
  have e1 : (op == 1) = false := by simpa using h1
  have e2 : (op == 2) = false := by simpa using h2
  have e3 : (op == 3) = false := by simpa using h3
  have e4 : (op == 4) = false := by simpa using h4
  have e5 : (op == 5) = false := by simpa using h5
  have e6 : (op == 6) = false := by simpa using h6
  have e10 : (op == 10) = false := by simpa using h10
  have e11 : (op == 11) = false := by simpa using h11
  have e12 : (op == 12) = false := by simpa using h12
  clear h hz HP hT h1 h2 h3 h4 h5 h6 h10 h11 h12
  go_enter Tryd.func30, Tryd.ntmps30
  go_wp2_with (go_at_call 39; refine C1.out.mono ?_; rintro e w3 ⟨rfl, hb⟩; have HR := Lib.hid (HR.out.below hb); clear hb)
  go_ret2
  exact ⟨rfl, HR.out⟩

theorem do_any (h : RunAt W w q t wat s V false z) (hz : Sz s V wat) (hT : Tabs W) (x : I) : Calls Tryd.prog 30 #[.pointer (some ⟨q, 0, none⟩), insV x] w (DidI W q t wat V z (doI wat s V x)) := by
  obtain ⟨op, a, b, c, ex⟩ := x
  by_cases h1 : op = 1
  · subst h1; exact do1 h hz hT a b c ex
  by_cases h2 : op = 2
  · subst h2; exact do2 h hz hT a b c ex
  by_cases h3 : op = 3
  · subst h3; exact do3 h hz hT a b c ex
  by_cases h4 : op = 4
  · subst h4; exact do4 h hz hT a b c ex
  by_cases h5 : op = 5
  · subst h5; exact do5 h hz hT a b c ex
  by_cases h6 : op = 6
  · subst h6; exact do6 h hz hT a b c ex
  by_cases h10 : op = 10
  · subst h10; exact do10 h hz hT a b c ex
  by_cases h11 : op = 11
  · subst h11; exact do11 h hz hT a b c ex
  by_cases h12 : op = 12
  · subst h12; exact do12 h hz hT a b c ex
  exact doElse op h1 h2 h3 h4 h5 h6 h10 h11 h12 h hz hT a b c ex
end
end Go.Proofs.YtbiinnfkokaadaaDoor.Ev
