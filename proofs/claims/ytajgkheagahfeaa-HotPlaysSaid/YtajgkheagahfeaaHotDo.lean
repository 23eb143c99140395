
/- Package hot: which place goes first, a place given up, one more. -/
import Derived.Test.YtajgkheagahfeaaHotWalks
import Derived.Deep.RegionLaw
import Derived.Deep.AppendLies
import Derived.Deep.DrawnRows
import Derived.Deep.RegionWith
namespace Go.Proofs.Ytajgkheagahfeaa.Hot
open Go.RowKit Book Book.Wide
set_option linter.unusedSimpArgs false
set_option linter.unusedVariables false
theorem below_drewN' (w : World) (q : Nat) : Below w.heap.size w (w.drewN q) := (Stirred.drewN w q []).below (fun _ h => by cases h) (Nat.le_refl _)
set_option maxHeartbeats 4000000 in
theorem first_any {w : World} {B p : Nat} {bs : List Nat} {n : Int} {ps : List Pl} (h : At w B p bs n ps) (h0 : 0 < ps.length) :
    Calls Try.prog 16 #[.pointer (some ⟨p, 0, none⟩)] w fun e w' => (∃ f x, e = .returned (.int .i64 ((f : Nat) : Int)) ∧ ps[f]? = some x ∧ ∀ y ∈ ps, goesB y x = false) ∧ Below w.heap.size w w' := by
  have HA := Lib.hid h
  have hfew := h.few
  obtain ⟨x0, hx0⟩ : ∃ x, ps[0]? = some x := ⟨_, List.getElem?_eq_getElem h0⟩
  obtain ⟨g, cap, h1, _⟩ := h.place hx0
  obtain ⟨m, hm⟩ : ∃ m, ps.length = m := ⟨_, rfl⟩
  have HM := Lib.hid hm
  rw [hm] at h1 hfew h0
  have c1 : w.cell? ⟨p, 1, none⟩ = some (.slice (some ⟨g, 0, none⟩) m cap) := whole_cell h1 rfl
  have H1 := Lib.hid h1
  have HX0 := Lib.hid hx0
  have hcells : ∀ wr, Below w.heap.size w wr → wr.cell? ⟨p, 1, none⟩ = some (.slice (some ⟨g, 0, none⟩) m cap) ∧ ∀ j x, ps[j]? = some x → wr.cell? ⟨g, j * 2, none⟩ = some (.int .i64 x.1) ∧ wr.cell? ⟨g, j * 2 + 1, none⟩ = some (.int .i64 x.2) := by
    intro wr hb
    have h1' := (Stirred.of_below hb []).whole H1.out List.not_mem_nil
    refine ⟨whole_cell h1' rfl, fun j x hj => ?_⟩
    obtain ⟨g', cap', h2, _, _, _, _, k0, k1, _⟩ := (HA.out.below hb).place hj
    rw [HM.out, h1'] at h2
    simp only [Option.some.injEq, Obj.cells.injEq, and_true, Array.mk.injEq, List.cons.injEq, Value.slice.injEq, Addr.mk.injEq, true_and] at h2
    obtain ⟨rfl, rfl⟩ := h2
    exact ⟨k0, k1⟩
  have HCL := Lib.hid hcells
  clear h h1 hm hx0 hcells
  go_enter Try.func16, Try.ntmps16
  go_wp2
  go_loopg [3, 11] m (fun g' a i wr => ∃ (k f : Nat), g' = m - k ∧ k ≤ m ∧ a = .int .i64 f ∧ i = .int .i64 k ∧ f < m ∧ Hid (∃ x, ps[f]? = some x ∧ ∀ j y, j < k → ps[j]? = some y → goesB y x = false) ∧ Hid (Below w.heap.size w wr))
  case atStart => exact ⟨0, 0, rfl, Nat.zero_le _, rfl, rfl, h0, Lib.hid ⟨x0, HX0.out, fun j y hj => absurd hj (Nat.not_lt_zero _)⟩, Lib.hid (Below.refl _ _)⟩
  case round =>
    obtain ⟨k, f, rfl, hk, rfl, rfl, hfm, HF, HB⟩ := hrel
    by_cases hlt : k < m
    · obtain ⟨y, hy⟩ : ∃ y, ps[k]? = some y := ⟨_, List.getElem?_eq_getElem (by rw [HM.out]; exact hlt)⟩
      obtain ⟨x, hx, hxm⟩ := HF.out
      have HXM := Lib.hid hxm
      have HX := Lib.hid hx
      have HY := Lib.hid hy
      obtain ⟨x1, x2⟩ := x
      obtain ⟨y1, y2⟩ := y
      obtain ⟨d1, hd⟩ := HCL.out wr HB.out
      have k0 := (hd k _ hy).1
      have k1 := (hd k _ hy).2
      obtain ⟨b, hbz⟩ : ∃ b, wr.heap.size = b := ⟨_, rfl⟩
      obtain ⟨wa, hwa⟩ : ∃ wa, wr.alloc (placeO (0, 0)) = wa := ⟨_, rfl⟩
      have hba := (Below.refl wr.heap.size wr).alloc (Nat.le_refl _) (placeO (0, 0))
      have hna := heap_alloc_new wr (placeO (0, 0))
      rw [hwa] at hba hna
      rw [hbz] at hna
      have a0 := whole_cell hna (j := 0) (v := .int .i64 0) rfl
      have a1 := whole_cell hna (j := 1) (v := .int .i64 0) rfl
      have f0 := whole_frozen hna 0
      have f1 := whole_frozen hna 1
      have hnb := whole_set (whole_set hna 0 (.int .i64 y1)) 1 (.int .i64 y2)
      have hbb := Below.setCell (Below.setCell hba (p := ⟨b, 0, none⟩) (by rw [← hbz]; exact Nat.le_refl _) (.int .i64 y1)) (p := ⟨b, 1, none⟩) (by rw [← hbz]; exact Nat.le_refl _) (.int .i64 y2)
      obtain ⟨wb, hwb⟩ : ∃ wb, (wa.setCell ⟨b, 0, none⟩ (.int .i64 y1)).setCell ⟨b, 1, none⟩ (.int .i64 y2) = wb := ⟨_, rfl⟩
      rw [hwb] at hnb hbb
      have HBB := Lib.hid (HB.out.trans (hbb.mono HB.out.size))
      have HNB := Lib.hid (show wb.heap[b]? = some (.cells #[.int .i64 y1, .int .i64 y2] 41 (0, 0)) from hnb)
      obtain ⟨e1, he⟩ := HCL.out wb HBB.out
      have q0 := (he f _ hx).1
      have q1 := (he f _ hx).2
      have b0 := whole_cell HNB.out (j := 0) (v := .int .i64 y1) rfl
      have b1 := whole_cell HNB.out (j := 1) (v := .int .i64 y2) rfl
      have z0 : (0 : Int) ≤ (k : Int) := by omega
      have z1 : (k : Int) < (m : Int) := by omega
      have z2 : (0 : Int) ≤ (f : Int) := by omega
      have z3 : (f : Int) < (m : Int) := by omega
      have S0 : Hid (wb.drew.cell? ⟨p, 1, none⟩ = some (.slice (some ⟨g, 0, none⟩) m cap) ∧ wb.drew.cell? ⟨g, f * 2, none⟩ = some (.int .i64 x1) ∧ wb.drew.cell? ⟨g, f * 2 + 1, none⟩ = some (.int .i64 x2) ∧ wb.drew.cell? ⟨b, 0, none⟩ = some (.int .i64 y1) ∧ wb.drew.cell? ⟨b, 1, none⟩ = some (.int .i64 y2)) := ⟨e1, q0, q1, b0, b1⟩
      have C := Lib.hid (goes_any (y1, y2) (x1, x2) wb.drew)
      have HBD := Lib.hid (show Below w.heap.size w wb.drew from HBB.out.trans (Below.drew (Below.refl _ _)))
      clear hx hxm hy hba hna hnb hbb hd he HF
      by_cases hgo : goesB (y1, y2) (x1, x2) = true
      · rw [hgo] at C
        have HF1 := Lib.hid (show ∃ z, ps[k]? = some z ∧ ∀ j y, j < k + 1 → ps[j]? = some y → goesB y z = false from ⟨_, HY.out, fun j y hj hy => by
          by_cases h : j = k
          · subst h
            rw [HY.out] at hy
            obtain rfl : (y1, y2) = y := by simpa using hy
            exact goes_irrefl _
          · exact goes_trans (goes_asymm hgo) (HXM.out j y (by omega) hy)⟩)
        clear hgo
        go_wp2_with fail
        go_region_held3 (fun w' => w'.cell? ⟨p, 1, none⟩ = some (.slice (some ⟨g, 0, none⟩) m cap) ∧ w'.cell? ⟨g, f * 2, none⟩ = some (.int .i64 x1) ∧ w'.cell? ⟨g, f * 2 + 1, none⟩ = some (.int .i64 x2) ∧ w'.cell? ⟨b, 0, none⟩ = some (.int .i64 y1) ∧ w'.cell? ⟨b, 1, none⟩ = some (.int .i64 y2))
          (first | with_reducible exact S1.out | with_reducible exact S0.out)
          ((go_at_call 17; refine C.out.mono ?_; rintro e w1 ⟨rfl, hb1⟩; have HB1 := Lib.hid (HBD.out.trans (hb1.mono HBD.out.size)); have S1 := Lib.hid (And.intro ((Stirred.of_below hb1 []).cell List.not_mem_nil S0.out.1) (And.intro ((Stirred.of_below hb1 []).cell List.not_mem_nil S0.out.2.1) (And.intro ((Stirred.of_below hb1 []).cell List.not_mem_nil S0.out.2.2.1) (And.intro ((Stirred.of_below hb1 []).cell List.not_mem_nil S0.out.2.2.2.1) ((Stirred.of_below hb1 []).cell List.not_mem_nil S0.out.2.2.2.2))))); clear hb1))
        all_goals go_wp2
        go_roundg (m - (k + 1))
        case measure => omega
        case rel => exact ⟨k + 1, k, rfl, by omega, rfl, by go_num, hlt, HF1, HB1⟩
      · rw [show goesB (y1, y2) (x1, x2) = false by simpa using hgo] at C
        have HF1 := Lib.hid (show ∃ z, ps[f]? = some z ∧ ∀ j y, j < k + 1 → ps[j]? = some y → goesB y z = false from ⟨_, HX.out, fun j y hj hy => by
          by_cases h : j = k
          · subst h
            rw [HY.out] at hy
            obtain rfl : (y1, y2) = y := by simpa using hy
            simpa using hgo
          · exact HXM.out j y (by omega) hy⟩)
        clear hgo
        go_wp2_with fail
        go_region_held3 (fun w' => w'.cell? ⟨p, 1, none⟩ = some (.slice (some ⟨g, 0, none⟩) m cap) ∧ w'.cell? ⟨g, f * 2, none⟩ = some (.int .i64 x1) ∧ w'.cell? ⟨g, f * 2 + 1, none⟩ = some (.int .i64 x2) ∧ w'.cell? ⟨b, 0, none⟩ = some (.int .i64 y1) ∧ w'.cell? ⟨b, 1, none⟩ = some (.int .i64 y2))
          (first | with_reducible exact S1.out | with_reducible exact S0.out)
          ((go_at_call 17; refine C.out.mono ?_; rintro e w1 ⟨rfl, hb1⟩; have HB1 := Lib.hid (HBD.out.trans (hb1.mono HBD.out.size)); have S1 := Lib.hid (And.intro ((Stirred.of_below hb1 []).cell List.not_mem_nil S0.out.1) (And.intro ((Stirred.of_below hb1 []).cell List.not_mem_nil S0.out.2.1) (And.intro ((Stirred.of_below hb1 []).cell List.not_mem_nil S0.out.2.2.1) (And.intro ((Stirred.of_below hb1 []).cell List.not_mem_nil S0.out.2.2.2.1) ((Stirred.of_below hb1 []).cell List.not_mem_nil S0.out.2.2.2.2))))); clear hb1))
        all_goals go_wp2
        go_roundg (m - (k + 1))
        case measure => omega
        case rel => exact ⟨k + 1, f, rfl, by omega, rfl, by go_num, hfm, HF1, HB1⟩
    · obtain rfl : k = m := by omega
      clear hlt
      go_wp2
      go_ret
      obtain ⟨x, hx, hxm⟩ := HF.out
      refine ⟨⟨f, x, rfl, hx, fun y hy => ?_⟩, HB.out⟩
      obtain ⟨j, hj⟩ := List.getElem?_of_mem hy
      exact hxm j y (by have := (List.getElem?_eq_some_iff.1 hj).1; rw [HM.out] at this; exact this) hj
set_option maxHeartbeats 4000000 in
theorem drop_any {w : World} {B p : Nat} {bs : List Nat} {n : Int} {ps : List Pl} (h : At w B p bs n ps) {j : Nat} {x : Pl} (hj : ps[j]? = some x) :
    Calls Try.prog 15 #[.pointer (some ⟨p, 0, none⟩), .int .i64 j] w fun e w' => e = .returned (.tuple #[]) ∧ At w' B p bs n (dropAt ps j) ∧ Stirred w w' bs := by
  have hfew := h.few
  have hl := (List.getElem?_eq_some_iff.1 hj).1
  obtain ⟨l, hlast⟩ : ∃ l, ps[ps.length - 1]? = some l := ⟨_, List.getElem?_eq_getElem (by omega)⟩
  obtain ⟨g, cap, h1, h2, hbs, hgp, hb, b0, b1, hf⟩ := h.place hj
  obtain ⟨g', cap', h1', _, _, _, _, l0, l1, _⟩ := h.place hlast
  rw [h1] at h1'
  simp only [Option.some.injEq, Obj.cells.injEq, and_true, Array.mk.injEq, List.cons.injEq, Value.slice.injEq, Addr.mk.injEq, true_and] at h1'
  obtain ⟨rfl, rfl⟩ := h1'
  have HD := Lib.hid (h.dropped hj hlast h1)
  obtain ⟨l1', l2'⟩ := l
  have hcap : ps.length ≤ cap := by
    obtain ⟨g3, c3, e3, _, _, h3⟩ := h2.row (cells_len ps) (by decide) (by omega)
    simp only [Value.slice.injEq] at e3
    omega
  obtain ⟨N, hN⟩ : ∃ N, ps.length = N := ⟨_, rfl⟩
  obtain ⟨m, hm⟩ : ∃ m, N - 1 = m := ⟨_, rfl⟩
  rw [hN] at h1 hl hfew l0 l1 HD hcap
  rw [hm] at l0 l1 HD
  have c1 : w.cell? ⟨p, 1, none⟩ = some (.slice (some ⟨g, 0, none⟩) N cap) := whole_cell (show w.heap[p]? = _ from h1) rfl
  have g0 : w.frozen? ⟨g, j * 2, none⟩ = false := hf _
  have g1 : w.frozen? ⟨g, j * 2 + 1, none⟩ = false := hf _
  have hne : p ≠ g := fun e => hgp e.symm
  have fp : w.frozen? ⟨p, 1, none⟩ = false := whole_frozen (show w.heap[p]? = _ from h1) 1
  rw [show ((l1', l2') : Pl).1 = l1' from rfl, show ((l1', l2') : Pl).2 = l2' from rfl] at HD
  have z0 : (0 : Int) ≤ (j : Int) := by omega
  have z1 : (j : Int) < (N : Int) := by omega
  have z2 : (N : Int) - 1 = (m : Int) := by omega
  have z3 : (0 : Int) ≤ (m : Int) := by omega
  have z4 : (m : Int) < (N : Int) := by omega
  have z5 : (m : Int) ≤ (cap : Int) := by omega
  have z6 : m ≤ cap := by omega
  have z7 : (N : Int) ≤ 32 := by omega
  clear h hlast h1 h2 hb hf hm hN
  go_enter Try.func15, Try.ntmps15
  go_wp2_with fail
  go_region
  go_wp2
  go_end0
  exact ⟨rfl, HD.out.1.touch (Stirred.drew _ []) (fun _ _ => List.not_mem_nil), HD.out.2.trans (Stirred.drew _ []) (fun _ h => by cases h)⟩
end Go.Proofs.Ytajgkheagahfeaa.Hot
