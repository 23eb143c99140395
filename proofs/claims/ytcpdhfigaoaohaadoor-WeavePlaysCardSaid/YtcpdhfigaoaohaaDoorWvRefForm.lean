
/- The document's own weave: one more that is open; the frame of Form. -/
import Derived.Test.YtcpdhfigaoaohaaDoorWvRefNew
import Derived.Test.YtcpdhfigaoaohaaDoorWvOpen
import Derived.Test.YtcpdhfigaoaohaaDoorGreat
namespace Go.Proofs.YtcpdhfigaoaohaaDoor.WvR
open Go.RowKit Book Book.Wide Mem Wv
set_option linter.unusedSimpArgs false
set_option linter.unusedVariables false
set_option maxRecDepth 100000
theorem openInfo : (Tryd.prog.info? 62).map (fun i => (i.zero, i.size, i.bytes)) = some (some (.agg #[.int .i64 0, .int .i64 0]), 2, 16) := by kernel_rfl
theorem great_up (s : ByteArray) (hs : s.size ≤ 1000000) (w : World) : Calls Tryd.prog 36 #[.string s] w fun e w' => e = .returned (.string (up s)) ∧ Below w.heap.size w w' := by
  have C := Lib.hid (great_any s hs w)
  go_enter Tryd.func36, Tryd.ntmps36
  go_wp2_with fail
  refine C.out.mono ?_
  rintro e w1 ⟨rfl, hb⟩
  have HB := Lib.hid hb
  clear C hb
  go_wp2
  go_ret
  exact ⟨rfl, HB.out⟩
section
variable {w : World} {B p : Nat} {bs : List Nat} {m : M}
/-- one more is open: what its append wants, what the store makes of it -/
theorem push_world (h : RAt w B p bs m) (hB : B ≤ w.heap.size) (k c : Nat) (hf : Fine (m.push k c)) (hl : m.l.length < 1000) : ∃ vo vc, w.cell? ⟨p, 2, none⟩ = some (.slice vo m.l.length vc) ∧
    ∀ w3 b, w.alloc (.cells #[.int .i64 (k : Int), .int .i64 (c : Int)] 62) = w3 → w.heap.size = b →
      w3.cell? ⟨p, 2, none⟩ = some (.slice vo m.l.length vc) ∧ ReadsK w3 2 (.slice (some ⟨b, 0, none⟩) 1 1) [.int .i64 (k : Int), .int .i64 (c : Int)] ∧ OwnsK w3 B 62 2 (.slice vo m.l.length vc) (openCells m.l) ∧ B ≤ w3.heap.size ∧ Below w.heap.size w w3 ∧
      ∀ v' w4, OwnsK w4 B 62 2 v' (openCells m.l ++ [.int .i64 (k : Int), .int .i64 (c : Int)]) → Stirred w3 w4 (blk (.slice vo m.l.length vc)).toList → ((blk v') = (blk (.slice vo m.l.length vc)) ∨ ∃ k', (blk v') = some k' ∧ w3.heap.size ≤ k') →
        ∃ so sc old, v' = .slice so (m.l.length + 1) sc ∧ w4.cell? ⟨p, 2, none⟩ = some old ∧ w4.frozen? ⟨p, 2, none⟩ = false ∧ RDid w B p bs (.int .i64 0) (m.push k c) (.returned (.int .i64 0)) (w4.setCell ⟨p, 2, none⟩ v') := by
  obtain ⟨vm, vq, k1, k2, k3, k4⟩ := h.box
  obtain ⟨vo, vc, rfl⟩ := k3.slice (open_len m.l) (by decide)
  refine ⟨vo, vc, whole_cell k1 rfl, ?_⟩
  rintro w3 b hw3 hbz
  have hb3 := (Below.refl w.heap.size w).alloc (Nat.le_refl _) (.cells #[.int .i64 (k : Int), .int .i64 (c : Int)] 62)
  have hn3 := heap_alloc_new w (.cells #[.int .i64 (k : Int), .int .i64 (c : Int)] 62)
  rw [hw3] at hb3 hn3
  rw [hbz] at hn3
  have h3 := h.below hb3
  have j1 := (Stirred.of_below hb3 []).whole k1 List.not_mem_nil
  have j2 := k2.below hb3
  have j3 := k3.below hb3
  refine ⟨whole_cell j1 rfl, ReadsK.of_whole (T := 62) hn3 rfl, j3, Nat.le_trans hB hb3.size, hb3, ?_⟩
  intro v' w4 hO hS hN
  have hO' : OwnsK w4 B 62 2 v' (openCells ((k, c) :: m.l)) := by rw [open_cons]; exact hO
  obtain ⟨so, sc, hv', -⟩ := hO'.row (n := m.l.length + 1) (by rw [open_len, List.length_cons]) (by decide) (Nat.succ_pos _)
  have hp4 := hS.whole j1 (fun hm => (roff j1 j2 j3).2.1 p (by simpa using hm) rfl)
  have hop := h3.opened j1 j2 j3 k4 hS hO' hf (by rw [List.length_cons]; omega)
  refine ⟨_, _, _, hv', whole_cell (j := 2) hp4 rfl, whole_frozen hp4 2, rfl, _, hop.1, (Stirred.of_below hb3 bs).trans hop.2 (fun k hk => .inl hk), fun j hj => ?_⟩
  rw [k4]
  rcases List.mem_cons.1 hj with rfl | hj
  · exact .inl List.mem_cons_self
  rcases List.mem_append.1 hj with hj | hj
  · exact .inl (List.mem_cons_of_mem _ (List.mem_append_left _ hj))
  · rcases hN with e | ⟨k', e, hk'⟩
    · exact .inl (List.mem_cons_of_mem _ (List.mem_append_right _ (by rw [← e]; exact hj)))
    · rw [e] at hj
      obtain rfl : j = k' := by simpa using hj
      exact .inr (Nat.le_trans hb3.size hk')
/-- n of what is open are gone -/
theorem drop_world (h : RAt w B p bs m) (n : Nat) (hn : n ≤ m.l.length) (h0 : 0 < m.l.length) : ∃ g cap, w.cell? ⟨p, 2, none⟩ = some (.slice (some ⟨g, 0, none⟩) m.l.length cap) ∧ w.frozen? ⟨p, 2, none⟩ = false ∧ m.l.length ≤ cap ∧
    RAt (w.setCell ⟨p, 2, none⟩ (.slice (some ⟨g, 0, none⟩) (m.l.length - n) cap)) B p bs (m.held (m.l.drop n)) ∧ Stirred w (w.setCell ⟨p, 2, none⟩ (.slice (some ⟨g, 0, none⟩) (m.l.length - n) cap)) bs := by
  obtain ⟨vm, v, k1, k2, k3, k4⟩ := h.box
  obtain ⟨g, cap, rfl, _, _, hcap⟩ := k3.row (open_len m.l) (by decide) h0
  have hsh := k3.shorter (m := m.l.length - n) (by decide) (by omega)
  have e : (openCells m.l).take ((m.l.length - n) * 2) = openCells (m.l.drop n) := by
    unfold openCells
    rw [← List.take_append_drop n m.l]
    generalize hA : m.l.take n = A
    generalize hD : m.l.drop n = D
    have hl : m.l.length - n = D.length := by rw [← hD, List.length_drop]
    have hA' : A.length = n := by rw [← hA, List.length_take]; omega
    rw [List.reverse_append, List.flatMap_append, List.drop_left' hA', List.length_append, hA', Nat.add_sub_cancel_left, List.take_left' (by rw [flat_length (enc := fun x : Nat × Nat => [Value.int .i64 (x.1 : Int), .int .i64 (x.2 : Int)]) (k := 2) (fun _ => rfl), List.length_reverse])]
  rw [e] at hsh
  have hop := h.opened k1 k2 k3 k4 (Stirred.refl _ _) hsh ⟨h.fine.here, fun x hx => h.fine.cell x (List.mem_of_mem_drop hx)⟩ (by rw [List.length_drop]; have := h.few; omega)
  refine ⟨g, cap, whole_cell k1 rfl, whole_frozen k1 2, hcap, ?_, hop.2⟩
  have := hop.1
  rw [blk_pos (show 0 < cap by omega)] at this k4
  rw [k4]
  exact this
end
end Go.Proofs.YtcpdhfigaoaohaaDoor.WvR
