
/- Package weave: cells that are laid; what is opened, closed, led on. -/
import Derived.Test.YtcpdhfigaoaohaaDoorWvWalks
namespace Go.Proofs.YtcpdhfigaoaohaaDoor.Wv
open Go.RowKit Book Book.Wide Mem
set_option linter.unusedSimpArgs false
set_option linter.unusedVariables false
/-- 'copy(x[off:], l)' into a block that is known whole, all of l -/
theorem run_copy_all {P : Program} (w : World) (dT sT ty elem : TypeId) (hu : P.underlying dT = some (.slice elem)) (hsz : (P.info? elem).map (·.size) = some 1)
    (dp : Option Addr) (dLen dCap : Nat) (v : Value) (xs : List Int) (hr : Reads w v xs) (hle : xs.length ≤ dLen) (g off : Nat) (cur : List Int) (t : TypeId) (hg : w.heap[g]? = some (.cells (vals cur).toArray t (0, 0))) (hp : 0 < xs.length → dp = some ⟨g, off, none⟩) (hfit : off + xs.length ≤ cur.length) :
    ∃ w', (Builtin.copy_ #[dT, sT] ty #[.slice dp dLen dCap, v]).run P w = .ok (.int .i64 (xs.length : Int)) w' ∧ w'.heap[g]? = some (.cells (vals (splice cur off xs)).toArray t (0, 0)) ∧ Stirred w w' [g] := by
  obtain ⟨ao, cap, rfl, hc⟩ := hr
  by_cases h0 : xs.length = 0
  · have hx : xs = [] := List.eq_nil_of_length_eq_zero h0
    subst hx
    exact ⟨w, run_copy_none w dT sT ty elem dp ao dLen dCap 0 cap hu hsz (by simp), by simpa [splice] using hg, Stirred.refl _ _⟩
  · obtain ⟨ad, rfl, _⟩ := hc 0 xs[0] (List.getElem?_eq_getElem (by omega))
    have hd' := hp (by omega)
    subst hd'
    have hrun := run_copy_row (P := P) w dT sT ty elem g off dLen dCap ad xs.length cap (vals cur).toArray t (vals xs) hu hsz hg (by rw [vals_length]; exact (Nat.min_eq_left hle).symm) (fun j v hj => by
      simp only [vals, List.getElem?_map, Option.map_eq_some_iff] at hj
      obtain ⟨x, hx, rfl⟩ := hj
      obtain ⟨a', e, hx'⟩ := hc j x hx
      simp only [Option.some.injEq] at e
      subst e
      exact hx') (by rw [vals_length]; simpa using hfit) (vals_one _)
    refine ⟨_, by rw [hrun, vals_length]; rfl, ?_, stirred_setRow _ _ _⟩
    rw [setRow_heap w g _ _ _ _ hg]
    have := splice_vals cur xs off
    unfold splice at this
    rw [vals_length] at this
    simp only [List.append_assoc, vals_length]
    unfold splice
    rw [this]
theorem step_copy_all {P : Program} {w : World} {ops : Array Oper} {o : Oper} {a : Act} {K : Act → World → Prop} {Q : Exit → Act → World → Prop} {F : Prop} (hw : Region.wanted o (yielded ops a.tmps) = true) (d s : Operand) (dT sT : TypeId)
    (ho : o.op = .call { callee := .builtin .copy, args := #[d, s], argTypes := #[dT, sT] }) (elem : TypeId) (hu : P.underlying dT = some (.slice elem)) (hsz : (P.info? elem).map (·.size) = some 1)
    (dp : Option Addr) (dLen dCap : Nat) (hd : a.eval d = .slice dp dLen dCap) (v : Value) (xs : List Int) (hs : a.eval s = v) (hr : Reads w v xs) (hle : xs.length ≤ dLen) (g off : Nat) (cur : List Int) (t : TypeId) (hg : w.heap[g]? = some (.cells (vals cur).toArray t (0, 0))) (hp : 0 < xs.length → dp = some ⟨g, off, none⟩) (hfit : off + xs.length ≤ cur.length)
    (n : Nat) (hn : xs.length = n) (h : ∀ w', w'.heap[g]? = some (.cells (vals (splice cur off xs)).toArray t (0, 0)) → Stirred w w' [g] → K (a.put o.dst (.int .i64 (n : Int))) w') : if Region.wanted o (yielded ops a.tmps) = true then o.wp P a w K Q else F := by
  rw [if_pos hw]
  subst hn
  obtain ⟨w', hrun, h1, h2⟩ := run_copy_all (P := P) w dT sT o.type elem hu hsz dp dLen dCap v xs hr hle g off cur t hg hp hfit
  unfold Oper.wp execOp
  simp only [ho, resolve, invoke, builtin, Sem.run_bind, Sem.run_pure, Result.andThen_ok, List.map_toArray, List.map_cons, List.map_nil, hd, hs, hrun]
  exact h w' h1 h2
theorem partInfo : (Tryd.prog.info? 80).map (fun i => (i.zero, i.size, i.bytes)) = some (some (.agg #[.int .i64 0, .int .i64 0]), 2, 16) := by kernel_rfl
section
variable {w : World} {B p gm : Nat} {bs : List Nat} {m : M}
theorem Fine.splice {m : M} (h : Fine m) (cs : List Int) (hf : m.here + cs.length ≤ m.mem.length) : Fine ⟨Go.splice m.mem m.here cs, m.here, m.l⟩ := ⟨by show m.here ≤ (Go.splice m.mem m.here cs).length; rw [length_splice _ _ _ hf]; exact h.here, h.cell⟩
theorem Fine.on {m : M} (h : Fine m) (cs : List Int) (hf : m.here + cs.length ≤ m.mem.length) : Fine (m.laid cs) :=
  h.more (by show (Go.splice m.mem m.here cs).length = _; exact length_splice _ _ _ hf) (Nat.le_add_right _ _) (by show m.here + cs.length ≤ (Go.splice m.mem m.here cs).length; rw [length_splice _ _ _ hf]; exact hf) (fun x hx => .inl hx)
set_option maxHeartbeats 4000000 in
theorem lay_any (h : WAt w B p gm bs m) (v : Value) (cs : List Int) (hr : Reads w v cs) (hcs : cs.length ≤ 1000) : Calls Tryd.prog 27 #[.pointer (some ⟨p, 0, none⟩), v] w (Did w B p gm bs (.int .i64 (layR cs m).1) (layR cs m).2) := by
  have HA := Lib.hid h
  have HR := Lib.hid hr
  obtain ⟨vo, vc, rfl, _⟩ := hr
  have hmost := h.most
  have hhere := h.fine.here
  obtain ⟨vq, k1, k2, k3⟩ := h.box
  obtain ⟨L, hL⟩ : ∃ L, m.mem.length = L := ⟨_, rfl⟩
  obtain ⟨H, hH⟩ : ∃ H, m.here = H := ⟨_, rfl⟩
  obtain ⟨n, hn⟩ : ∃ n, cs.length = n := ⟨_, rfl⟩
  have HL := Lib.hid (And.intro hL (And.intro hH hn))
  rw [hL, hH] at k1
  rw [hn] at HR hcs ⊢
  rw [hL] at hmost hhere
  rw [hH] at hhere
  have c0 : w.cell? ⟨p, 0, none⟩ = some (.slice (some ⟨gm, 0, none⟩) L L) := whole_cell k1 rfl
  have c1 : w.cell? ⟨p, 1, none⟩ = some (.int .i64 (H : Int)) := whole_cell k1 rfl
  have f1 : w.frozen? ⟨p, 1, none⟩ = false := whole_frozen k1 1
  have z0 : IntKind.i64.wrap ((L : Int) - (H : Int)) = (L : Int) - (H : Int) := IntWalk.i64_in _ (by omega)
  by_cases hfit : H + n ≤ L
  · have HLR := Lib.hid (show layR cs m = (0, m.laid cs) by unfold layR; rw [if_pos (by rw [hL, hH, hn]; exact hfit)])
    have z1 : ¬ (L : Int) - (H : Int) < (n : Int) := by omega
    have z2 : decide ((L : Int) - (H : Int) < (n : Int)) = false := decide_eq_false z1
    have hfit' : m.here + cs.length ≤ m.mem.length := by rw [hL, hH, hn]; exact hfit
    have HFT := Lib.hid hfit'
    clear hL hH hn hfit' k1 k2 k3 h
    go_enter Tryd.func27, Tryd.ntmps27
    go_wp2_with fail
    go_quiet (fail)
    obtain ⟨w1, hw1⟩ : ∃ w1, w.drewN nq = w1 := ⟨_, rfl⟩
    have hA1 := HA.out.drewN nq
    have hR1 := HR.out.below (below_drewN w nq)
    have hS1 := Stirred.drewN w nq bs
    rw [hw1]
    rw [hw1] at hA1 hR1 hS1
    have HA1 := Lib.hid hA1
    have HS1 := Lib.hid hS1
    have HAD := Lib.hid hA1.drew
    have HRD := Lib.hid (show Reads w1.drew (.slice vo n vc) cs from hR1.below (Below.drew (Below.refl _ _)))
    obtain ⟨vq, k1, k2, k3⟩ := hA1.box
    rw [HL.out.1, HL.out.2.1] at k1
    have c0 : w1.cell? ⟨p, 0, none⟩ = some (.slice (some ⟨gm, 0, none⟩) L L) := whole_cell k1 rfl
    have c1 : w1.cell? ⟨p, 1, none⟩ = some (.int .i64 (H : Int)) := whole_cell k1 rfl
    have f1 : w1.frozen? ⟨p, 1, none⟩ = false := whole_frozen k1 1
    have y0 : (0 : Int) ≤ (H : Int) := by omega
    have y1 : (H : Int) ≤ (L : Int) := by omega
    have y2 : IntKind.i64.wrap ((H : Int) + (n : Int)) = (H : Int) + (n : Int) := IntWalk.i64_in _ (by omega)
    obtain ⟨S, hS⟩ : ∃ S : Int, (H : Int) + (n : Int) = S := ⟨_, rfl⟩
    rw [hS] at y2
    have HSS := Lib.hid hS
    have HGS := Lib.hid HAD.out.cells
    clear k1 k2 k3 hA1 hR1 hS1
    by_cases hHL : H = L
    · subst hHL
      have hn0 : n = 0 := by omega
      subst hn0
      have hSH : S = (H : Int) := by omega
      subst hSH
      have y3 : IntKind.i64.wrap (H : Int) = (H : Int) := IntWalk.i64_in _ (by omega)
      go_wp2_with fail
      go_region_law (refine step_copy_all (by rfl) _ _ 22 22 (by rfl) 3 Tryd.underlying22 Tryd.piIntSize (some ⟨gm, 0, none⟩) (0) (0) (by rfl) (.slice vo 0 vc) cs (by rfl) HRD.out (by rw [HL.out.2.2]; omega) gm m.here m.mem 3 HGS.out (fun h0 => absurd h0 (by rw [HL.out.2.2]; decide)) (by rw [HL.out.1, HL.out.2.1, HL.out.2.2]; omega) 0 HL.out.2.2 ?_; intro wc hg hS; have HAC := Lib.hid (And.intro (HAD.out.refill (length_splice _ _ _ HFT.out) hg hS (HAD.out.fine.splice cs HFT.out)) hS); obtain ⟨vqc, q1, -, -⟩ := HAC.out.1.box; have b0 := whole_cell (j := 0) q1 rfl; have b1 := whole_cell (j := 1) q1 rfl; have b2 := whole_frozen q1 1; simp only [HL.out.2.1] at b1; clear hg hS q1)
      all_goals
        go_wp2
        go_ret
        have hM := HAC.out.1.moved (n := m.here + cs.length) (HA.out.fine.on cs HFT.out)
        rw [show ((m.here + cs.length : Nat) : Int) = (H : Int) by rw [HL.out.2.1, HL.out.2.2]; have := HSS.out; omega] at hM
        have hb0 : ∀ k ∈ bs, k ∈ bs ∨ w.heap.size ≤ k := fun k hk => .inl hk
        have hgm : ∀ k ∈ [gm], k ∈ bs := fun k hk => by rw [List.mem_singleton.1 hk]; obtain ⟨_, _, _, e⟩ := HA.out.box; rw [e]; simp
        exact ⟨by rw [HLR.out]; rfl, bs, by rw [HLR.out]; exact hM.1, ((HS1.out.trans (Stirred.drew w1 bs) hb0).trans (HAC.out.2.more hgm) hb0).trans hM.2 hb0, hb0⟩
    · have hHL2 : ¬ L = H := fun e => hHL e.symm
      go_wp2_with fail
      go_region_law (refine step_copy_all (by rfl) _ _ 22 22 (by rfl) 3 Tryd.underlying22 Tryd.piIntSize (some ⟨gm, H, none⟩) (L - H) (L - H) (by rfl) (.slice vo n vc) cs (by rfl) HRD.out (by rw [HL.out.2.2]; omega) gm m.here m.mem 3 HGS.out (fun _ => by rw [HL.out.2.1]) (by rw [HL.out.1, HL.out.2.1, HL.out.2.2]; omega) n HL.out.2.2 ?_; intro wc hg hS; have HAC := Lib.hid (And.intro (HAD.out.refill (length_splice _ _ _ HFT.out) hg hS (HAD.out.fine.splice cs HFT.out)) hS); obtain ⟨vqc, q1, -, -⟩ := HAC.out.1.box; have b0 := whole_cell (j := 0) q1 rfl; have b1 := whole_cell (j := 1) q1 rfl; have b2 := whole_frozen q1 1; simp only [HL.out.2.1] at b1; clear hg hS q1)
      all_goals
        go_wp2
        go_ret
        have hM := HAC.out.1.moved (n := m.here + cs.length) (HA.out.fine.on cs HFT.out)
        rw [show ((m.here + cs.length : Nat) : Int) = S by rw [HL.out.2.1, HL.out.2.2]; have := HSS.out; omega] at hM
        have hb0 : ∀ k ∈ bs, k ∈ bs ∨ w.heap.size ≤ k := fun k hk => .inl hk
        have hgm : ∀ k ∈ [gm], k ∈ bs := fun k hk => by rw [List.mem_singleton.1 hk]; obtain ⟨_, _, _, e⟩ := HA.out.box; rw [e]; simp
        exact ⟨by rw [HLR.out]; rfl, bs, by rw [HLR.out]; exact hM.1, ((HS1.out.trans (Stirred.drew w1 bs) hb0).trans (HAC.out.2.more hgm) hb0).trans hM.2 hb0, hb0⟩
  · have HLR := Lib.hid (show layR cs m = (-8, m) by unfold layR; rw [if_neg (by rw [hL, hH, hn]; exact hfit)])
    have z1 : (L : Int) - (H : Int) < (n : Int) := by omega
    have z2 : decide ((L : Int) - (H : Int) < (n : Int)) = true := decide_eq_true z1
    clear hL hH hn k1 k2 k3 h
    go_enter Tryd.func27, Tryd.ntmps27
    go_wp2_with fail
    go_quiet (fail)
    go_wp2
    go_ret
    refine Did.same (by rw [HLR.out]; exact HA.out) (by rw [HLR.out]; rfl) (below_drewN _ _)
end
end Go.Proofs.YtcpdhfigaoaohaaDoor.Wv
