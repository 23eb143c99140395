
/- Package weave: what is opened, closed, led on. -/
import Derived.Test.YtcpdhfigaoaohaaDoorWvLay
namespace Go.Proofs.YtcpdhfigaoaohaaDoor.Wv
open Go.RowKit Book Book.Wide Mem
set_option linter.unusedSimpArgs false
set_option linter.unusedVariables false
theorem Fine.tail {m : M} (h : Fine m) : Fine m.dropped := ⟨h.here, fun x hx => h.cell x (List.mem_of_mem_tail hx)⟩
theorem Fine.pointed {m : M} (h : Fine m) (k : Nat) (v : Int) : Fine (m.point k v) := ⟨by show m.here ≤ (m.mem.set k v).length; rw [List.length_set]; exact h.here, h.cell⟩
/-- a part's fields -/
theorem field0 (a b : Int) (w : World) : (Instr.field 80 (.agg #[.int .i64 a, .int .i64 b]) 0).run Tryd.prog w = .ok (.int .i64 a) w := by kernel_rfl
theorem field1 (a b : Int) (w : World) : (Instr.field 80 (.agg #[.int .i64 a, .int .i64 b]) 1).run Tryd.prog w = .ok (.int .i64 b) w := by kernel_rfl
section
variable {w : World} {B p gm : Nat} {bs : List Nat} {m : M}
theorem point_at (h : WAt w B p gm bs m) (k : Nat) (v : Int) : WAt (w.setCell ⟨gm, k, none⟩ (.int .i64 v)) B p gm bs (m.point k v) ∧ Stirred w (w.setCell ⟨gm, k, none⟩ (.int .i64 v)) bs := by
  have hs := Stirred.setCell w ⟨gm, k, none⟩ (.int .i64 v)
  have hw := whole_set h.cells k (.int .i64 v)
  rw [List.setIfInBounds_toArray, vals_set] at hw
  refine ⟨h.refill (by rw [List.length_set]) hw hs (h.fine.pointed k v), hs.more (fun j hj => ?_)⟩
  obtain ⟨_, _, _, e⟩ := h.box
  rw [List.mem_singleton.1 hj, e]
  simp
set_option maxHeartbeats 4000000 in
theorem drop_any (h : WAt w B p gm bs m) (h0 : 0 < m.l.length) : Calls Tryd.prog 81 #[.pointer (some ⟨p, 0, none⟩)] w fun e w' => e = .returned (.tuple #[]) ∧ WAt w' B p gm bs m.dropped ∧ Stirred w w' bs := by
  have hfew := h.few
  obtain ⟨x, hx⟩ : ∃ x, m.l[0]? = some x := ⟨_, List.getElem?_eq_getElem h0⟩
  obtain ⟨g, cap, k1, k2, hbs, hcap, hbl, _, _⟩ := h.part hx
  obtain ⟨N, hN⟩ : ∃ N, m.l.length = N := ⟨_, rfl⟩
  obtain ⟨j, hj⟩ : ∃ j, N - 1 = j := ⟨_, rfl⟩
  have hlt : m.l.tail.length = j := by rw [List.length_tail, hN, hj]
  have hop : ∀ w1, w1 = w → WAt (w1.setCell ⟨p, 2, none⟩ (.slice (some ⟨g, 0, none⟩) j cap)) B p gm bs m.dropped ∧ Stirred w (w1.setCell ⟨p, 2, none⟩ (.slice (some ⟨g, 0, none⟩) j cap)) bs := by
    rintro w1 rfl
    have hsh := k2.shorter (by decide) (show j ≤ m.l.length by omega)
    have e : (openCells m.l).take (j * 2) = openCells m.l.tail := by rw [← hlt]; exact open_tail m.l
    rw [e] at hsh
    have := h.opened k1 k2 (by rw [hbl]; exact hbs) (Stirred.refl _ _) hsh h.fine.tail (by rw [hlt]; omega)
    rw [blk_pos (show 0 < cap by omega)] at this
    rw [hbs] at this ⊢
    exact this
  have HOP := Lib.hid (hop w rfl)
  rw [hN] at k1 hfew h0 hcap
  have c2 : w.cell? ⟨p, 2, none⟩ = some (.slice (some ⟨g, 0, none⟩) N cap) := whole_cell k1 rfl
  have f2 : w.frozen? ⟨p, 2, none⟩ = false := whole_frozen k1 2
  have z2 : (N : Int) - 1 = (j : Int) := by omega
  have z3 : (0 : Int) ≤ (j : Int) := by omega
  have z6 : j ≤ cap := by omega
  have z5 : (j : Int) ≤ (cap : Int) := by omega
  have z7 : (N : Int) ≤ 1000 := by omega
  have z8 : IntKind.i64.wrap ((N : Int) - 1) = (N : Int) - 1 := IntWalk.i64_in _ (by omega)
  have z9 : IntKind.i64.wrap (j : Int) = (j : Int) := IntWalk.i64_in _ (by omega)
  clear h k1 k2 hbs hbl hx hN hj hlt hop
  go_enter Tryd.func81, Tryd.ntmps81
  go_wp2_with fail
  go_region
  go_wp2
  go_end0
  exact ⟨rfl, HOP.out.1.touch (Stirred.drew _ []) (fun _ _ => List.not_mem_nil), HOP.out.2.trans (Stirred.drew _ bs) (fun k hk => .inl hk)⟩
set_option maxHeartbeats 4000000 in
set_option maxRecDepth 100000 in
theorem lead_any (h : WAt w B p gm bs m) (hk : m.top.1 = 1 ∨ m.top.1 = 2 ∨ m.top.1 = 4) : Calls Tryd.prog 80 #[.pointer (some ⟨p, 0, none⟩)] w fun e w' => e = .returned (.tuple #[]) ∧ WAt w' B p gm bs m.lead ∧ Stirred w w' bs := by
  have htop := h.fine.top_at hk
  have hhere := h.fine.here
  have hmost := h.most
  have h0 : 0 < m.l.length := top_some (by omega)
  have HH0 := Lib.hid h0
  have HA := Lib.hid h
  have C := Lib.hid (top_any h.drew)
  obtain ⟨x1, hx1⟩ : ∃ x, m.top.1 = x := ⟨_, rfl⟩
  obtain ⟨x2, hx2⟩ : ∃ x, m.top.2 = x := ⟨_, rfl⟩
  obtain ⟨H, hH⟩ : ∃ H, m.here = H := ⟨_, rfl⟩
  obtain ⟨L, hL⟩ : ∃ L, m.mem.length = L := ⟨_, rfl⟩
  have HX := Lib.hid (And.intro hx2 (And.intro hH hL))
  rw [show partV m.top = .agg #[.int .i64 (x1 : Int), .int .i64 (x2 : Int)] by unfold partV; rw [hx1, hx2]] at C
  rw [hx2, hH] at htop
  rw [hH, hL] at hhere
  rw [hL] at hmost
  have hfacts : ∀ w1, Below w.heap.size w w1 → w1.cell? ⟨p, 0, none⟩ = some (.slice (some ⟨gm, 0, none⟩) L L) ∧ w1.cell? ⟨p, 1, none⟩ = some (.int .i64 (H : Int)) ∧ (∃ u, w1.cell? ⟨gm, x2, none⟩ = some (.int .i64 u)) ∧ w1.frozen? ⟨gm, x2, none⟩ = false := by
    intro w1 hb
    have hA := HA.out.below hb
    obtain ⟨_, k1, _, _⟩ := hA.box
    rw [HX.out.2.1, HX.out.2.2] at k1
    refine ⟨whole_cell k1 rfl, whole_cell k1 rfl, ?_, whole_frozen hA.cells x2⟩
    have hlt : x2 < m.mem.length := by rw [HX.out.2.2]; omega
    exact ⟨m.mem[x2], whole_cell hA.cells (by simp [vals, hlt])⟩
  have HFC := Lib.hid hfacts
  have hfd := field1 (x1 : Int) (x2 : Int)
  obtain ⟨c0, c1, ⟨u0, u1⟩, u2⟩ := hfacts w (Below.refl _ _)
  have z0 : (0 : Int) ≤ (x2 : Int) := by omega
  have z1 : (x2 : Int) < (L : Int) := by omega
  have S0 : Hid (w.drew.cell? ⟨p, 0, none⟩ = some (.slice (some ⟨gm, 0, none⟩) L L) ∧ w.drew.cell? ⟨p, 1, none⟩ = some (.int .i64 (H : Int))) := ⟨c0, c1⟩
  have HBD := Lib.hid (show Below w.heap.size w w.drew from Below.drew (Below.refl _ _))
  clear h hk h0 hx1 hx2 hH hL hfacts u1 u2
  go_enter Tryd.func80, Tryd.ntmps80
  go_wp2_with fail
  go_region_held3 (fun w' => w'.cell? ⟨p, 0, none⟩ = some (.slice (some ⟨gm, 0, none⟩) L L) ∧ w'.cell? ⟨p, 1, none⟩ = some (.int .i64 (H : Int)))
    (first | with_reducible exact S2.out | with_reducible exact S1.out | with_reducible exact S0.out)
    ((go_at_call 63; refine C.out.mono ?_; rintro e w1 ⟨rfl, hb1⟩; have HB1 := Lib.hid (HBD.out.trans (hb1.mono HBD.out.size)); obtain ⟨d0, d1, ⟨u0, u1⟩, u2⟩ := HFC.out w1 HB1.out; have S1 : Hid (w1.cell? ⟨p, 0, none⟩ = some (.slice (some ⟨gm, 0, none⟩) L L) ∧ w1.cell? ⟨p, 1, none⟩ = some (.int .i64 (H : Int))) := ⟨d0, d1⟩; have HPT := Lib.hid (point_at (HA.out.below HB1.out) x2 (H : Int)); have S2 : Hid ((w1.setCell ⟨gm, x2, none⟩ (.int .i64 (H : Int))).cell? ⟨p, 0, none⟩ = some (.slice (some ⟨gm, 0, none⟩) L L) ∧ (w1.setCell ⟨gm, x2, none⟩ (.int .i64 (H : Int))).cell? ⟨p, 1, none⟩ = some (.int .i64 (H : Int))) := (by obtain ⟨_, k1, _, _⟩ := HPT.out.1.box; have k1 : (w1.setCell ⟨gm, x2, none⟩ (.int .i64 (H : Int))).heap[p]? = some (.cells #[.slice (some ⟨gm, 0, none⟩) (m.mem.set x2 (H : Int)).length (m.mem.set x2 (H : Int)).length, .int .i64 (m.here : Int), _] 54 (0, 0)) := k1; rw [List.length_set, HX.out.2.1, HX.out.2.2] at k1; exact ⟨whole_cell k1 rfl, whole_cell k1 rfl⟩); clear hb1 d0 d1))
  have D := Lib.hid (drop_any HPT.out.1 HH0.out)
  go_wp2_with fail
  refine D.out.mono ?_
  rintro e w3 ⟨rfl, hA3, hS3⟩
  have HA3 := Lib.hid hA3
  have HS3 := Lib.hid (((Stirred.of_below HB1.out bs).trans HPT.out.2 (fun k hk => .inl hk)).trans hS3 (fun k hk => .inl hk))
  clear hA3 hS3 D
  go_wp2
  go_end0
  refine ⟨rfl, ?_, HS3.out⟩
  have := HA3.out
  rw [← HX.out.1, ← HX.out.2.1] at this
  exact this
set_option maxHeartbeats 4000000 in
theorem push_any (h : WAt w B p gm bs m) (hB : B ≤ w.heap.size) (k c : Nat) (hf : Fine (m.push k c)) (hl : m.l.length < 1000) : Calls Tryd.prog 82 #[.pointer (some ⟨p, 0, none⟩), .int .i64 (k : Int), .int .i64 (c : Int)] w (Did w B p gm bs (.tuple #[]) (m.push k c)) := by
  obtain ⟨i0, q1, q2, q3, q4⟩ := info_parts partInfo
  have HI := Lib.hid (And.intro q1 (And.intro q2 (And.intro q3 q4)))
  clear q1 q2 q3 q4
  have HA := Lib.hid h
  have HF := Lib.hid hf
  obtain ⟨vq, k1, k2, k3⟩ := h.box
  obtain ⟨vo, vc, rfl⟩ := k2.slice (open_len m.l) (by decide)
  obtain ⟨r, hr⟩ : ∃ r, m.l.length = r := ⟨_, rfl⟩
  have HR := Lib.hid hr
  have HL := Lib.hid (show (openCells m.l).length = r * 2 by rw [open_len, hr])
  have HK1 := Lib.hid k1
  have HK2 := Lib.hid k2
  have HK3 := Lib.hid k3
  rw [hr] at k1 hl
  have c2 : w.cell? ⟨p, 2, none⟩ = some (.slice vo r vc) := whole_cell k1 rfl
  obtain ⟨w3, hw3⟩ : ∃ w3, w.alloc (.cells #[.int .i64 (k : Int), .int .i64 (c : Int)] 80) = w3 := ⟨_, rfl⟩
  obtain ⟨b, hbz⟩ : ∃ b, w.heap.size = b := ⟨_, rfl⟩
  have hb3 := (Below.refl w.heap.size w).alloc (Nat.le_refl _) (.cells #[.int .i64 (k : Int), .int .i64 (c : Int)] 80)
  have hn3 := heap_alloc_new w (.cells #[.int .i64 (k : Int), .int .i64 (c : Int)] 80)
  rw [hw3] at hb3 hn3
  rw [hbz] at hn3
  have HB3 := Lib.hid hb3
  have HRD := Lib.hid (show ReadsK w3 2 (.slice (some ⟨b, 0, none⟩) 1 1) [.int .i64 (k : Int), .int .i64 (c : Int)] from ReadsK.of_whole (T := 80) hn3 rfl)
  have HO3 := Lib.hid (k2.below hb3)
  have HA3 := Lib.hid (h.below hb3)
  have HW3 := Lib.hid ((Stirred.of_below hb3 []).whole k1 List.not_mem_nil)
  have HBS := Lib.hid (Nat.le_trans hB hb3.size)
  have HBZ := Lib.hid hbz
  rw [hr] at HO3
  clear h hf k1 k2 k3 hr hb3 hn3 hB
  go_enter Tryd.func82, Tryd.ntmps82
  go_wp2_with (refine Wide.wpList_append_reads rfl _ _ 52 rfl B 80 2 i0 (.agg #[.int .i64 0, .int .i64 0]) 16 Tryd.underlying52 HI.out.1 HI.out.2.1 HI.out.2.2.1 HI.out.2.2.2 rfl (by decide) _ r (openCells m.l) rfl HO3.out HL.out (.slice (some ⟨b, 0, none⟩) 1 1) 1 [.int .i64 (k : Int), .int .i64 (c : Int)] rfl HRD.out rfl ?c0 ?c1 ?c2 HBS.out ?_)
  case c0 => intro u hu; simp only [List.mem_cons, List.not_mem_nil, or_false] at hu; rcases hu with rfl | rfl <;> rfl
  case c1 => unfold maxLen; omega
  case c2 => omega
  intro v' w4 hO _ hS hN
  have hO' : OwnsK w4 B 80 2 v' (openCells ((k, c) :: m.l)) := by rw [open_cons]; exact hO
  obtain ⟨so, sc, hv', -⟩ := hO'.row (n := r + 1) (by rw [open_len, List.length_cons, HR.out]) (by decide) (Nat.succ_pos _)
  have HN4 := Lib.hid (show WAt (w4.setCell ⟨p, 2, none⟩ v') B p gm (p :: gm :: (blk v').toList) (m.push k c) ∧ Stirred w (w4.setCell ⟨p, 2, none⟩ v') bs from by
    have hk1 := (Stirred.of_below HB3.out []).whole HK1.out List.not_mem_nil
    have hk2 := HK2.out.below HB3.out
    have := HA3.out.opened hk1 hk2 HK3.out (by rw [HR.out]; exact hS) hO' HF.out (by rw [List.length_cons, HR.out]; omega)
    exact ⟨this.1, (Stirred.of_below HB3.out bs).trans this.2 (fun k hk => .inl hk)⟩)
  have HN5 := Lib.hid (show ∀ k ∈ p :: gm :: (blk v').toList, k ∈ bs ∨ w.heap.size ≤ k from fun k hk => by
    rcases List.mem_cons.1 hk with rfl | hk
    · exact .inl (by rw [HK3.out]; simp)
    rcases List.mem_cons.1 hk with rfl | hk
    · exact .inl (by rw [HK3.out]; simp)
    · rcases hN with e | ⟨k', e, hk'⟩
      · refine .inl ?_
        rw [HK3.out, HR.out, ← e]
        simp at hk ⊢
        exact .inr (.inr hk)
      · rw [e] at hk
        obtain rfl : k = k' := by simpa using hk
        exact .inr (Nat.le_trans HB3.out.size hk'))
  have hp4 := hS.whole HW3.out (fun hm => by
    have ho := HA3.out.off ((Stirred.of_below HB3.out []).whole HK1.out List.not_mem_nil) (HK2.out.below HB3.out)
    rw [HR.out] at ho
    exact (ho.2 p (by simpa using hm)).1 rfl)
  have t1 := whole_cell (j := 2) hp4 rfl
  have t2 := whole_frozen hp4 2
  subst hv'
  clear hO hO' hS hN hp4
  go_wp2
  go_end0
  exact ⟨rfl, _, HN4.out.1, HN4.out.2, HN5.out⟩
end
end Go.Proofs.YtcpdhfigaoaohaaDoor.Wv
