
/- An api.Recording that came in. -/
import Derived.Test.YtcffbeihgchpgaaGreatDoorRecChk
import Derived.Test.YtcffbeihgchpgaaGreatDoorG22
namespace Go.Proofs.YtcffbeihgchpgaaGreatDoor.Rec
open Go.ChangeShapes Go.WideShapes Go.ChangeAt Go.RowKit Go.Deep Mach Mem
set_option linter.unusedVariables false
set_option linter.unusedSimpArgs false
set_option maxRecDepth 1000000 in
theorem cells_seen : Tryz.prog.cellsOf 55 = 4 := by kernel_rfl
set_option maxRecDepth 1000000 in
theorem cells_bool : Tryz.prog.cellsOf 4 = 1 := by kernel_rfl
set_option maxRecDepth 1000000 in
theorem cells_seens : Tryz.prog.cellsOf 37 = 1 := by kernel_rfl
set_option maxRecDepth 1000000 in
theorem cells_rec : Tryz.prog.cellsOf 39 = 4 := by kernel_rfl
set_option maxRecDepth 100000 in
theorem seens_of_trod {H : Type} {enc : TypeId × Value → H} {W : World} {k : Nat} {u : Value} {y : DataW H × List MemPlace} (h : DataW.trod enc Tryz.prog W 0 (fun _ => true) true k 37 [u] = some y) : ∃ l : List S, ReadsS W u l := by
  rcases open_slice Tryz.underlying37 h with ⟨hcs, hx⟩ | ⟨a, len, cap, m, n, D, Pl, hcs, _, hl, hm, hmm, hx, hi⟩
  · simp at hcs
    subst hcs
    exact ⟨[], none, 0, rfl, fun j o h => by cases h⟩
  · simp at hcs
    subst hcs
    simp only [if_true] at hmm
    have each : ∀ i, i < len → ∃ q : S, W.cell? (a.add (i * 4)) = some (.int .i64 q.1) ∧ W.cell? ⟨(a.add (i * 4)).block, (a.add (i * 4)).off + 1, none⟩ = some (.int .i64 q.2.1) ∧ W.cell? ⟨(a.add (i * 4)).block, (a.add (i * 4)).off + 2, none⟩ = some (.int .i64 q.2.2.1) ∧ W.cell? ⟨(a.add (i * 4)).block, (a.add (i * 4)).off + 3, none⟩ = some (.int .i64 q.2.2.2) := by
      intro i hil
      obtain ⟨cs, h1, h2⟩ := hi i (by omega)
      rw [cells_seen] at h1
      obtain ⟨_, hlen, hcell⟩ := World.cells?_some h1
      obtain ⟨ys, k, _, _, _, hyl, hg⟩ := DataW.trod_struct Tryz.underlying55 h2
      match ys, hyl, cs, hlen with
      | [y0, y1, y2, y3], _, [v0, v1, v2, v3], _ =>
        have g0 : DataW.trod enc Tryz.prog W 0 (fun _ => true) true k 3 [v0] = some y0 := by have := hg 0 _ rfl; simpa [cells_int] using this
        have g1 : DataW.trod enc Tryz.prog W 0 (fun _ => true) true k 3 [v1] = some y1 := by have := hg 1 _ rfl; simpa [cells_int] using this
        have g2 : DataW.trod enc Tryz.prog W 0 (fun _ => true) true k 3 [v2] = some y2 := by have := hg 2 _ rfl; simpa [cells_int] using this
        have g3 : DataW.trod enc Tryz.prog W 0 (fun _ => true) true k 3 [v3] = some y3 := by have := hg 3 _ rfl; simpa [cells_int] using this
        obtain ⟨z0, e0, _, _⟩ := DataW.trod_int Tryz.underlying3 g0
        obtain ⟨z1, e1, _, _⟩ := DataW.trod_int Tryz.underlying3 g1
        obtain ⟨z2, e2, _, _⟩ := DataW.trod_int Tryz.underlying3 g2
        obtain ⟨z3, e3, _, _⟩ := DataW.trod_int Tryz.underlying3 g3
        simp at e0 e1 e2 e3
        subst e0; subst e1; subst e2; subst e3
        have c0 := hcell 0 (by omega)
        have c1 := hcell 1 (by omega)
        have c2 := hcell 2 (by omega)
        have c3 := hcell 3 (by omega)
        refine ⟨(z0, z1, z2, z3), by simpa [add_add] using c0, ?_, ?_, ?_⟩
        · exact c1
        · exact c2
        · exact c3
    obtain ⟨q, hq⟩ := choose_lt each
    refine ⟨(List.range len).map q, some a, cap, by simp, fun j o h => ?_⟩
    rw [List.getElem?_map] at h
    by_cases hj : j < len
    · rw [List.getElem?_range hj] at h
      simp at h
      have := hq j hj
      rw [h] at this
      exact ⟨a, rfl, this⟩
    · rw [List.getElem?_eq_none (by simp; omega)] at h
      cases h
set_option maxRecDepth 100000 in
theorem recArgOf {H : Type} {enc : TypeId × Value → H} {W : World} {base : Nat} {v : Value} {d : DataW H} {p : List MemPlace} (hv : Value.okWide Tryz.prog W .any base 39 v) (h : DataW.Trod enc Tryz.prog W 0 (fun _ => true) true 39 v d p) : ∃ r u, v = recV r u ∧ ReadsS W u r.steps := by
  obtain ⟨cs, rfl, hsz⟩ := okWide_struct Tryz.underlying39 hv
  obtain ⟨fuel, hf⟩ := h
  have hsz : cs.size = 4 := hsz.trans cells_rec
  obtain ⟨ys, k, _, _, _, hyl, hg⟩ := DataW.trod_struct Tryz.underlying39 hf
  match ys, hyl, cs, hsz with
  | [y0, y1, y2, y3], _, ⟨[c0, c1, c2, c3]⟩, _ =>
    have g0 : DataW.trod enc Tryz.prog W 0 (fun _ => true) true k 3 [c0] = some y0 := by have := hg 0 _ rfl; simpa [cells_int, cells_bool, cells_seens, Value.cells] using this
    have g1 : DataW.trod enc Tryz.prog W 0 (fun _ => true) true k 3 [c1] = some y1 := by have := hg 1 _ rfl; simpa [cells_int, cells_bool, cells_seens, Value.cells] using this
    have g2 : DataW.trod enc Tryz.prog W 0 (fun _ => true) true k 4 [c2] = some y2 := by have := hg 2 _ rfl; simpa [cells_int, cells_bool, cells_seens, Value.cells] using this
    have g3 : DataW.trod enc Tryz.prog W 0 (fun _ => true) true k 37 [c3] = some y3 := by have := hg 3 _ rfl; simpa [cells_int, cells_bool, cells_seens, Value.cells] using this
    obtain ⟨z0, e0, _, f0⟩ := DataW.trod_int Tryz.underlying3 g0
    obtain ⟨z1, e1, _, f1⟩ := DataW.trod_int Tryz.underlying3 g1
    obtain ⟨z2, e2, _⟩ := DataW.trod_bool Tryz.underlying4 g2
    obtain ⟨l, hl⟩ := seens_of_trod g3
    simp at e0 e1 e2
    subst e0; subst e1; subst e2
    exact ⟨⟨z0, z1, z2, l⟩, c3, rfl, hl⟩
end Go.Proofs.YtcffbeihgchpgaaGreatDoor.Rec
