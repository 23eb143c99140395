
/- The document's own weave: what is open, cells that are laid. -/
import Derived.Test.YtcpdhfigaoaohaaDoorWvRefMem
import Derived.Test.YtcpdhfigaoaohaaDoorWvWalks
import Derived.Deep.RegionWith
namespace Go.Proofs.YtcpdhfigaoaohaaDoor.WvR
open Go.RowKit Book Book.Wide Mem Wv
set_option linter.unusedSimpArgs false
set_option linter.unusedVariables false
set_option maxRecDepth 100000
theorem open_size : (Tryd.prog.info? 62).map (·.size) = some 2 := by kernel_rfl
/-- cells, one after the other -/
def layN : List Int → M → M
  | [], m => m
  | x :: r, m => layN r (m.one x)
theorem layN_snoc (xs : List Int) (x : Int) (m : M) : layN (xs ++ [x]) m = (layN xs m).one x := by
  induction xs generalizing m with
  | nil => rfl
  | cons y r ih => exact ih _
theorem layN_facts (xs : List Int) (m : M) : (layN xs m).mem.length = m.mem.length ∧ (layN xs m).here = m.here + xs.length ∧ (layN xs m).l = m.l := by
  induction xs generalizing m with
  | nil => exact ⟨rfl, rfl, rfl⟩
  | cons y r ih =>
    obtain ⟨h1, h2, h3⟩ := ih (m.one y)
    refine ⟨h1.trans (by simp [M.one]), ?_, h3⟩
    show (layN r (m.one y)).here = _
    rw [h2]; simp [M.one]; omega
section
variable {w : World} {B p : Nat} {bs : List Nat} {m : M}
set_option maxHeartbeats 2000000 in
theorem rtop_no (h : RAt w B p bs m) {k : Nat} (hk : m.l.length ≤ k) (hk2 : k < 2) : Calls Tryd.prog 35 #[.pointer (some ⟨p, 0, none⟩), .int .i64 (k : Int)] w fun e w' => e = .returned (partV (0, 0)) ∧ Below w.heap.size w w' := by
  obtain ⟨b, hbz⟩ : ∃ b, w.heap.size = b := ⟨_, rfl⟩
  obtain ⟨w1, hw1⟩ : ∃ w1, w.alloc (.cells #[.int .i64 0, .int .i64 0] 62) = w1 := ⟨_, rfl⟩
  have hb1 := (Below.refl w.heap.size w).alloc (Nat.le_refl _) (.cells #[.int .i64 0, .int .i64 0] 62)
  have hn1 := heap_alloc_new w (.cells #[.int .i64 0, .int .i64 0] 62)
  rw [hw1] at hb1 hn1
  rw [hbz] at hn1
  obtain ⟨vm, v, k1, k2, k3, _⟩ := (h.below hb1).box
  obtain ⟨vo, vc, rfl⟩ := k3.slice (open_len m.l) (by decide)
  obtain ⟨N, hN⟩ : ∃ N, m.l.length = N := ⟨_, rfl⟩
  rw [hN] at k1 hk
  have c2 : w1.cell? ⟨p, 2, none⟩ = some (.slice vo N vc) := whole_cell k1 rfl
  have a0 := whole_cell hn1 (j := 0) (v := .int .i64 0) rfl
  have a1 := whole_cell hn1 (j := 1) (v := .int .i64 0) rfl
  have f0 := whole_frozen hn1 0
  have f1 := whole_frozen hn1 1
  have hset := whole_set (whole_set hn1 0 (.int .i64 0)) 1 (.int .i64 0)
  have hbb := Below.setCell (Below.setCell hb1 (p := ⟨b, 0, none⟩) (by rw [← hbz]; exact Nat.le_refl _) (.int .i64 0)) (p := ⟨b, 1, none⟩) (by rw [← hbz]; exact Nat.le_refl _) (.int .i64 0)
  have HT := Lib.hid (And.intro (show _ = some (Obj.cells #[.int .i64 0, .int .i64 0] 62 (0, 0)) from hset) hbb)
  have z1 : (N : Int) ≤ (k : Int) := by omega
  clear h hk2 hb1 hn1 k1 k2 k3 hset hbb hN
  go_enter Tryd.func35, Tryd.ntmps35
  go_wp2
  (try simp only [Exit.inBlock, Exit.then])
  refine bodyPost_ret (results_cell_row rfl _ _ b _ _ _ _ rfl HT.out.1 Tryd.underlying62 rfl open_size) rfl ?_
  exact ⟨rfl, by first | exact HT.out.2 | (have h0 := HT.out.2; rw [hbz] at h0; exact h0)⟩
set_option maxHeartbeats 2000000 in
theorem rtop_yes (h : RAt w B p bs m) {k : Nat} {x : Nat × Nat} (hk : m.l[k]? = some x) (hk2 : k < 2) : Calls Tryd.prog 35 #[.pointer (some ⟨p, 0, none⟩), .int .i64 (k : Int)] w fun e w' => e = .returned (partV x) ∧ Below w.heap.size w w' := by
  have hl := (List.getElem?_eq_some_iff.1 hk).1
  have hfew := h.few
  obtain ⟨b, hbz⟩ : ∃ b, w.heap.size = b := ⟨_, rfl⟩
  obtain ⟨w1, hw1⟩ : ∃ w1, w.alloc (.cells #[.int .i64 0, .int .i64 0] 62) = w1 := ⟨_, rfl⟩
  have hb1 := (Below.refl w.heap.size w).alloc (Nat.le_refl _) (.cells #[.int .i64 0, .int .i64 0] 62)
  have hn1 := heap_alloc_new w (.cells #[.int .i64 0, .int .i64 0] 62)
  rw [hw1] at hb1 hn1
  rw [hbz] at hn1
  obtain ⟨g, cap, vm, k1, hcap, q0, q1⟩ := (h.below hb1).part hk
  obtain ⟨N, hN⟩ : ∃ N, m.l.length = N := ⟨_, rfl⟩
  obtain ⟨j, hj⟩ : ∃ j, N - 1 - k = j := ⟨_, rfl⟩
  rw [hN] at k1 hl hfew hcap q0 q1
  rw [hj] at q0 q1
  obtain ⟨x1, x2⟩ := x
  have c2 : w1.cell? ⟨p, 2, none⟩ = some (.slice (some ⟨g, 0, none⟩) N cap) := whole_cell k1 rfl
  have a0 := whole_cell hn1 (j := 0) (v := .int .i64 0) rfl
  have a1 := whole_cell hn1 (j := 1) (v := .int .i64 0) rfl
  have f0 := whole_frozen hn1 0
  have f1 := whole_frozen hn1 1
  have q0 : w1.cell? ⟨g, j * 2, none⟩ = some (.int .i64 (x1 : Int)) := q0
  have q1 : w1.cell? ⟨g, j * 2 + 1, none⟩ = some (.int .i64 (x2 : Int)) := q1
  have hset := whole_set (whole_set hn1 0 (.int .i64 (x1 : Int))) 1 (.int .i64 (x2 : Int))
  have hbb := Below.setCell (Below.setCell hb1 (p := ⟨b, 0, none⟩) (by rw [← hbz]; exact Nat.le_refl _) (.int .i64 (x1 : Int))) (p := ⟨b, 1, none⟩) (by rw [← hbz]; exact Nat.le_refl _) (.int .i64 (x2 : Int))
  have HT := Lib.hid (And.intro (show _ = some (Obj.cells #[.int .i64 (x1 : Int), .int .i64 (x2 : Int)] 62 (0, 0)) from hset) hbb)
  have e1 : (N : Int) - 1 - (k : Int) = (j : Int) := by omega
  have z0 : (0 : Int) ≤ (j : Int) := by omega
  have z1 : (j : Int) < (N : Int) := by omega
  have z2 : ¬ (N : Int) ≤ (k : Int) := by omega
  have z2' : decide (N ≤ k) = false := decide_eq_false (by omega)
  have z4 : IntKind.i64.wrap ((N : Int) - 1) = (N : Int) - 1 := IntWalk.i64_in _ (by omega)
  have z5 : IntKind.i64.wrap ((N : Int) - 1 - (k : Int)) = (N : Int) - 1 - (k : Int) := IntWalk.i64_in _ (by omega)
  clear h hk hb1 hn1 k1 hset hbb hN hj
  go_enter Tryd.func35, Tryd.ntmps35
  go_wp2
  go_region
  go_wp2
  (try simp only [Exit.inBlock, Exit.then])
  refine bodyPost_ret (results_cell_row rfl _ _ b _ _ _ _ rfl (show (World.drew _).heap[b]? = _ from HT.out.1) Tryd.underlying62 rfl open_size) rfl ?_
  exact ⟨rfl, HT.out.2.trans (((Stirred.drew _ []).below (fun _ h => by cases h) (Nat.le_refl _)).mono HT.out.2.size)⟩
theorem rtop_any (h : RAt w B p bs m) : Calls Tryd.prog 35 #[.pointer (some ⟨p, 0, none⟩), .int .i64 0] w fun e w' => e = .returned (partV m.top) ∧ Below w.heap.size w w' := by
  unfold M.top
  cases hl : m.l with
  | nil => exact rtop_no h (k := 0) (by rw [hl]; exact Nat.le_refl _) (by decide)
  | cons x r => exact rtop_yes h (k := 0) (by rw [hl]; rfl) (by decide)
theorem runder_any (h : RAt w B p bs m) : Calls Tryd.prog 35 #[.pointer (some ⟨p, 0, none⟩), .int .i64 1] w fun e w' => e = .returned (partV m.under) ∧ Below w.heap.size w w' := by
  unfold M.under
  rcases hl : m.l with - | ⟨x, - | ⟨y, r⟩⟩
  · exact rtop_no h (k := 1) (by rw [hl]; decide) (by decide)
  · exact rtop_no h (k := 1) (by rw [hl]; exact Nat.le_refl _) (by decide)
  · exact rtop_yes h (k := 1) (by rw [hl]; rfl) (by decide)
set_option maxHeartbeats 4000000 in
theorem rlay_any (h : RAt w B p bs m) (xs : List Int) (gl n : Nat) (hxn : xs.length = n) (hg : w.heap[gl]? = some (.cells (vals xs).toArray 3 (0, 0))) (hn : gl ∉ bs) (hx : n ≤ 2) :
    Calls Tryd.prog 31 #[.pointer (some ⟨p, 0, none⟩), .slice (some ⟨gl, 0, none⟩) n n] w fun e w' => e = .returned (.bool (m.fits n)) ∧ RAt w' B p bs (if m.fits n then layN xs m else m) ∧ Stirred w w' bs := by
  obtain ⟨L, hL⟩ : ∃ L, m.mem.length = L := ⟨_, rfl⟩
  obtain ⟨H, hH⟩ : ∃ H, m.here = H := ⟨_, rfl⟩
  have hHL := h.fine.here
  have hmost := h.most
  rw [hL] at hHL hmost
  rw [hH] at hHL
  have HA := Lib.hid h
  have HX := Lib.hid (And.intro hxn (And.intro hg hn))
  have HLH := Lib.hid (And.intro hL hH)
  obtain ⟨vm, vo, h1, h2, h3, h4⟩ := h.box
  clear h3 h4
  obtain ⟨mo, mc, rfl⟩ := h2.slice
  rw [vals_length, hL, hH] at h1
  have c0 : w.cell? ⟨p, 0, none⟩ = some (.slice mo L mc) := whole_cell h1 rfl
  have c1 : w.cell? ⟨p, 1, none⟩ = some (.int .i64 (H : Int)) := whole_cell h1 rfl
  have z4 : IntKind.i64.wrap ((L : Int) - (H : Int)) = (L : Int) - (H : Int) := IntWalk.i64_in _ (by omega)
  have HB := Lib.hid h1
  clear h h1 h2 hg hn hxn hL hH
  by_cases hf : H + n ≤ L
  · have hfit : m.fits n = true := fits_iff.2 (by rw [HLH.out.1, HLH.out.2]; exact hf)
    rw [hfit]
    simp only [if_true]
    have z0 : ¬ (L : Int) - (H : Int) < (n : Int) := by omega
    have z0' : decide ((L : Int) - (H : Int) < (n : Int)) = false := decide_eq_false z0
    have HF := Lib.hid hf
    have HR0 := Lib.hid (show RAt w.drew B p bs (layN (xs.take 0) m) ∧ Stirred w w.drew bs from ⟨by rw [List.take_zero]; exact HA.out.touch (Stirred.drew w []) (fun _ _ => List.not_mem_nil), Stirred.drew w bs⟩)
    clear hfit hf c0 c1
    go_enter Tryd.func31, Tryd.ntmps31
    have c0 : w.cell? ⟨p, 0, none⟩ = some (.slice mo L mc) := whole_cell HB.out rfl
    have c1 : w.cell? ⟨p, 1, none⟩ = some (.int .i64 (H : Int)) := whole_cell HB.out rfl
    go_wp2
    go_region
    clear c0 c1
    go_wp2
    go_loopg [5] n (fun g i wr => ∃ k : Nat, g = n - k ∧ k ≤ n ∧ i = .int .i64 (k : Int) ∧ Hid (RAt wr B p bs (layN (xs.take k) m) ∧ Stirred w wr bs))
    case atStart => exact ⟨0, rfl, Nat.zero_le _, rfl, HR0⟩
    case round =>
      obtain ⟨k, rfl, hk, rfl, HR⟩ := hrel
      by_cases hlt : k < n
      · obtain ⟨x, hxk⟩ : ∃ x, xs[k]? = some x := ⟨_, List.getElem?_eq_getElem (by rw [HX.out.1]; exact hlt)⟩
        obtain ⟨f1, f2, f3⟩ := layN_facts (xs.take k) m
        have hsn : layN (xs.take (k + 1)) m = (layN (xs.take k) m).one x := by rw [List.take_add_one, hxk, Option.toList_some, layN_snoc]
        obtain ⟨M1, hM1⟩ : ∃ M1, layN (xs.take k) m = M1 := ⟨_, rfl⟩
        obtain ⟨J, hJ⟩ : ∃ J, M1.here = J := ⟨_, rfl⟩
        have hR := HR.out
        rw [hM1] at hR f1 f2 f3 hsn
        rw [HLH.out.1] at f1
        rw [HLH.out.2, List.length_take, HX.out.1, Nat.min_eq_left hk, hJ] at f2
        have hfl := HF.out
        obtain ⟨g, cap, vo1, h1, hgb, hgp, hcells, hfro, hcap⟩ := hR.1.row (by rw [f1]; omega)
        have hput := hR.1.put h1 (by rw [f1]; omega) J x
        rw [f1, hJ] at h1
        have d0 : wr.cell? ⟨p, 0, none⟩ = some (.slice (some ⟨g, 0, none⟩) L cap) := whole_cell h1 rfl
        have d1 : wr.cell? ⟨p, 1, none⟩ = some (.int .i64 (J : Int)) := whole_cell h1 rfl
        have d2 : wr.cell? ⟨gl, k, none⟩ = some (.int .i64 x) := whole_cell (hR.2.whole HX.out.2.1 HX.out.2.2) (by
          rw [List.getElem?_toArray, show (vals xs)[k]? = (xs[k]?).map (Value.int .i64) from List.getElem?_map, hxk]; rfl)
        obtain ⟨y, hy⟩ : ∃ y, M1.mem[J]? = some y := ⟨_, List.getElem?_eq_getElem (by rw [f1]; omega)⟩
        have d3 := hcells J y hy
        have d4 := hfro J
        have z0 : (0 : Int) ≤ (k : Int) := by omega
        have z1 : (k : Int) < (n : Int) := by omega
        have z2 : (0 : Int) ≤ (J : Int) := by omega
        have z3 : (J : Int) < (L : Int) := by omega
        have HP := Lib.hid (show ∀ w5, (wr.setCell ⟨g, J, none⟩ (.int .i64 x)).drew = w5 → RAt w5 B p bs (M1.point J x) ∧ Stirred w w5 bs from fun w5 h5 => by
          rw [← h5]
          exact ⟨hput.1.touch (Stirred.drew _ []) (fun _ _ => List.not_mem_nil), (hR.2.trans hput.2 (fun k hk => .inl hk)).trans (Stirred.drew _ bs) (fun k hk => .inl hk)⟩)
        have HS := Lib.hid hsn
        have HM := Lib.hid (And.intro f1 (And.intro hJ f2))
        have hJL : J < L := by omega
        clear hR hput h1 hgb hgp hcells hfro hcap hxk f1 f2 f3 hsn hM1 hy HR hJ hfl
        go_wp2
        go_region
        obtain ⟨w5, hw5⟩ : ∃ w5, (wr.setCell ⟨g, J, none⟩ (.int .i64 x)).drew = w5 := ⟨_, rfl⟩
        obtain ⟨hA5, hS5⟩ := HP.out w5 hw5
        rw [hw5]
        obtain ⟨vm5, vo5, b5, b6⟩ := hA5.box
        clear b6
        rw [show (M1.point J x).here = J from HM.out.2.1] at b5
        have d5 : w5.cell? ⟨p, 1, none⟩ = some (.int .i64 (J : Int)) := whole_cell b5 rfl
        have d6 : w5.frozen? ⟨p, 1, none⟩ = false := whole_frozen b5 1
        have HR' := Lib.hid (show ∀ v : Int, v = ((J + 1 : Nat) : Int) → Hid (RAt (w5.setCell ⟨p, 1, none⟩ (.int .i64 v)) B p bs (layN (xs.take (k + 1)) m) ∧ Stirred w (w5.setCell ⟨p, 1, none⟩ (.int .i64 v)) bs) from by
          rintro v rfl
          have hm := hA5.moved (n := J + 1) (by
            obtain ⟨q1, q2⟩ := hA5.fine
            refine ⟨by show J + 1 ≤ (M1.mem.set J x).length; rw [List.length_set, HM.out.1]; omega, fun y hy => ?_⟩
            have := q2 y hy
            rw [show (M1.point J x).here = J from HM.out.2.1] at this
            exact ⟨Nat.le_succ_of_le this.1, fun h => Nat.lt_succ_of_lt (this.2.1 h), this.2.2⟩)
          refine Lib.hid ⟨?_, hS5.trans hm.2 (fun k hk => .inl hk)⟩
          rw [HS.out]
          have e : M1.one x = ⟨(M1.point J x).mem, J + 1, (M1.point J x).l⟩ := by unfold M.one M.point; rw [HM.out.2.1]
          rw [e]
          exact hm.1)
        clear d0 d1 d2 d3 d4 hA5 hS5 b5 hw5
        go_wp2
        go_roundg (n - (k + 1))
        case measure => omega
        case rel => exact ⟨k + 1, rfl, by omega, by go_num, HR'.out _ (by first | rfl | omega | (unfold wrap64; omega))⟩
      · obtain rfl : k = n := by omega
        have hR := HR.out
        rw [List.take_of_length_le (by rw [HX.out.1]; exact Nat.le_refl _)] at hR
        go_wp2
        go_ret
        exact ⟨rfl, hR.1, hR.2⟩
  · have hfit : m.fits n = false := by
      cases h : m.fits n with
      | false => rfl
      | true => rw [fits_iff, HLH.out.1, HLH.out.2] at h; exact absurd h hf
    rw [hfit]
    have z0 : (L : Int) - (H : Int) < (n : Int) := by omega
    clear hfit hf
    go_enter Tryd.func31, Tryd.ntmps31
    go_wp2
    go_region
    go_wp2
    go_ret
    exact ⟨rfl, HA.out.touch (Stirred.drew w []) (fun _ _ => List.not_mem_nil), Stirred.drew w bs⟩
end
end Go.Proofs.YtcpdhfigaoaohaaDoor.WvR
