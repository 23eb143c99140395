
/- The document's own weave: ELSE (a region that draws its order, with an append to a shorter list). -/
import Derived.Test.YtcpdhfigaoaohaaDoorWvRefWays4
namespace Go.Proofs.YtcpdhfigaoaohaaDoor.WvR
open Go.RowKit Book Book.Wide Mem Wv
set_option linter.unusedSimpArgs false
set_option linter.unusedVariables false
set_option maxRecDepth 100000
theorem form2_eq (m : M) : form 2 m = if m.top.1 = 1 then (if m.fits 2 then (0, ((m.two 3 0).point m.top.2 (m.here + 2 : Nat)).held ((2, m.here + 1) :: m.l.tail)) else (-8, m)) else (-22, m) := rfl
section
variable {w : World} {B p : Nat} {bs : List Nat} {m : M}
theorem open_tail' (l : List (Nat × Nat)) : (openCells l).take ((l.length - 1) * 2) = openCells l.tail := by rw [← List.length_tail]; exact open_tail l
/-- one is gone, another is open: what its append wants, what the store makes of it -/
theorem swap_world (h : RAt w B p bs m) (hB : B ≤ w.heap.size) (k c : Nat) (hf : Fine (m.held ((k, c) :: m.l.tail))) (hl : m.l.length < 1000) (h0 : 0 < m.l.length) : ∃ g cap, w.cell? ⟨p, 2, none⟩ = some (.slice (some ⟨g, 0, none⟩) m.l.length cap) ∧ m.l.length ≤ cap ∧
    ∀ w3 b, w.alloc (.cells #[.int .i64 (k : Int), .int .i64 (c : Int)] 62) = w3 → w.heap.size = b →
      w3.cell? ⟨p, 2, none⟩ = some (.slice (some ⟨g, 0, none⟩) m.l.length cap) ∧ ReadsK w3 2 (.slice (some ⟨b, 0, none⟩) 1 1) [.int .i64 (k : Int), .int .i64 (c : Int)] ∧ OwnsK w3 B 62 2 (.slice (some ⟨g, 0, none⟩) (m.l.length - 1) cap) (openCells m.l.tail) ∧ B ≤ w3.heap.size ∧
      ∀ v' w4, OwnsK w4 B 62 2 v' (openCells m.l.tail ++ [.int .i64 (k : Int), .int .i64 (c : Int)]) → Stirred w3 w4 (blk (.slice (some ⟨g, 0, none⟩) (m.l.length - 1) cap)).toList → ((blk v') = (blk (.slice (some ⟨g, 0, none⟩) (m.l.length - 1) cap)) ∨ ∃ k', (blk v') = some k' ∧ w3.heap.size ≤ k') →
        ∃ so sc old, v' = .slice so (m.l.length - 1 + 1) sc ∧ w4.cell? ⟨p, 2, none⟩ = some old ∧ w4.frozen? ⟨p, 2, none⟩ = false ∧ RDid w B p bs (.int .i64 0) (m.held ((k, c) :: m.l.tail)) (.returned (.int .i64 0)) (w4.setCell ⟨p, 2, none⟩ v') := by
  obtain ⟨vm, vq, k1, k2, k3, k4⟩ := h.box
  obtain ⟨g, cap, rfl, _, _, hcap⟩ := k3.row (open_len m.l) (by decide) h0
  have hbl : ∀ n, blk (.slice (some ⟨g, 0, none⟩) n cap) = some g := fun n => blk_pos (by omega)
  refine ⟨g, cap, whole_cell k1 rfl, hcap, ?_⟩
  rintro w3 b hw3 hbz
  have hb3 := (Below.refl w.heap.size w).alloc (Nat.le_refl _) (.cells #[.int .i64 (k : Int), .int .i64 (c : Int)] 62)
  have hn3 := heap_alloc_new w (.cells #[.int .i64 (k : Int), .int .i64 (c : Int)] 62)
  rw [hw3] at hb3 hn3
  rw [hbz] at hn3
  have h3 := h.below hb3
  have j1 := (Stirred.of_below hb3 []).whole k1 List.not_mem_nil
  have j2 := k2.below hb3
  have j3 := k3.below hb3
  have hsh := j3.shorter (m := m.l.length - 1) (by decide) (by omega)
  rw [open_tail'] at hsh
  refine ⟨whole_cell j1 rfl, ReadsK.of_whole (T := 62) hn3 rfl, hsh, Nat.le_trans hB hb3.size, ?_⟩
  intro v' w4 hO hS hN
  rw [hbl] at hS hN
  have hO' : OwnsK w4 B 62 2 v' (openCells ((k, c) :: m.l.tail)) := by rw [open_cons]; exact hO
  obtain ⟨so, sc, hv', -⟩ := hO'.row (n := m.l.length - 1 + 1) (by rw [open_len, List.length_cons, List.length_tail]) (by decide) (Nat.succ_pos _)
  have hS' : Stirred w3 w4 (blk (.slice (some ⟨g, 0, none⟩) m.l.length cap)).toList := by rw [hbl]; exact hS
  have hp4 := hS'.whole j1 (fun hm => (roff j1 j2 j3).2.1 p (by simpa using hm) rfl)
  have hop := h3.opened j1 j2 j3 k4 hS' hO' hf (by rw [List.length_cons, List.length_tail]; omega)
  refine ⟨_, _, _, hv', whole_cell (j := 2) hp4 rfl, whole_frozen hp4 2, rfl, _, hop.1, (Stirred.of_below hb3 bs).trans hop.2 (fun k hk => .inl hk), fun j hj => ?_⟩
  rw [k4]
  rcases List.mem_cons.1 hj with rfl | hj
  · exact .inl List.mem_cons_self
  rcases List.mem_append.1 hj with hj | hj
  · exact .inl (List.mem_cons_of_mem _ (List.mem_append_left _ hj))
  · rcases hN with e | ⟨k', e, hk'⟩
    · exact .inl (List.mem_cons_of_mem _ (List.mem_append_right _ (by rw [hbl, ← e]; exact hj)))
    · rw [e] at hj
      obtain rfl : j = k' := by simpa using hj
      exact .inr (Nat.le_trans hb3.size hk')
set_option maxHeartbeats 8000000 in
theorem rform2 (h : RAt w B p bs m) (hB : B ≤ w.heap.size) (s : ByteArray) (hs : s.size ≤ 1000) (hl : m.l.length < 1000) (hu : up s = ⟨#[69, 76, 83, 69]⟩) : Calls Tryd.prog 15 #[.pointer (some ⟨p, 0, none⟩), .string s] w (RDid w B p bs (.int .i64 (form 2 m).1) (form 2 m).2) := by
  obtain ⟨i0, q1, q2, q3, q4⟩ := info_parts openInfo
  have HI := Lib.hid (And.intro q1 (And.intro q2 (And.intro q3 q4)))
  clear q1 q2 q3 q4
  have C := Lib.hid (rtop_any h)
  have HA := Lib.hid h
  have HBW := Lib.hid hB
  obtain ⟨⟨a1, a2⟩, hta⟩ : ∃ x, m.top = x := ⟨_, rfl⟩
  obtain ⟨⟨b1, b2⟩, htb⟩ : ∃ x, m.under = x := ⟨_, rfl⟩
  obtain ⟨H, hH⟩ : ∃ H, m.here = H := ⟨_, rfl⟩
  have hH9 : H ≤ 1000 := by have h1 := h.fine.here; have h2 := h.most; omega
  rw [hta] at C
  have HT := Lib.hid (And.intro hta (And.intro htb hH))
  have HS := Lib.hid hs
  have HU := Lib.hid hu
  have HLL := Lib.hid hl
  clear h hs hu hB hl hta hH
  go_enter Tryd.func15, Tryd.ntmps15
  go_wp2_with fail
  refine C.out.mono ?_
  rintro e w1 ⟨rfl, hb1⟩
  have D := Lib.hid (runder_any (HA.out.below hb1))
  rw [htb] at D
  have HB1 := Lib.hid hb1
  clear C hb1 htb
  go_wp2_with fail
  refine D.out.mono ?_
  rintro e w2 ⟨rfl, hb2⟩
  have hb02 := HB1.out.trans (hb2.mono HB1.out.size)
  obtain ⟨w3, ga, hw3, hga, hn3, hb3⟩ := open_box w2 a1 a2
  obtain ⟨w4, gb, hw4, hgb, hn4, hb4⟩ := open_box w3 b1 b2
  have hz3 : w3.heap.size = w2.heap.size + 1 := by rw [← hw3]; exact size_alloc _ _
  rw [hgb] at hz3
  have hb03 := hb02.trans (hb3.mono hb02.size)
  have hb04 := hb03.trans (hb4.mono hb03.size)
  have HF4 := Lib.hid (show Fr w w4 B p ga gb bs m (a1, a2) (b1, b2) from ⟨HA.out.below hb04, (Stirred.of_below hb4 []).whole hn3 List.not_mem_nil, hn4, hb04,
    fun hk => by have h1 := (HA.out.lt _ hk).2; have h2 := hb02.size; omega, fun hk => by have h1 := (HA.out.lt _ hk).2; have h2 := hb03.size; omega⟩)
  obtain ⟨vm4, vo4, bx4, bx5⟩ := HF4.out.way.box
  rw [HT.out.2.2] at bx4
  have c1 : w4.cell? ⟨p, 1, none⟩ = some (.int .i64 (H : Int)) := whole_cell bx4 rfl
  have G := Lib.hid (great_up s (by have := HS.out; omega) w4)
  rw [HU.out] at G
  clear D hb2 hb02 hn3 hn4 hb3 hb4 hb03 hb04 bx4 bx5 hgb
  subst hw4 hw3
  have HG := Lib.hid (And.intro hga hz3)
  clear hga hz3
  go_wp2_with fail
  refine G.out.mono ?_
  rintro e w5 ⟨rfl, hb5⟩
  have HF := Lib.hid (HF4.out.next hb5)
  clear G hb5 HF4 c1
  rw [← HG.out.2, HG.out.1]
  clear HG
  have dA : w5.cell? ⟨ga, 0, none⟩ = some (.int .i64 (a1 : Int)) := whole_cell HF.out.boxa rfl
  by_cases hk : a1 = 1
  · have HK := Lib.hid hk
    subst hk
    obtain ⟨w6, gl, hw6, hgl, hg6, hb6⟩ := lit_box w5 [3, 0]
    have HB6 := Lib.hid hb6
    have E0 := Lib.hid (rlay_any (HF.out.way.below hb6) [3, 0] gl 2 rfl hg6 (by rw [← hgl]; exact HF.out.way.old) (by decide))
    have hw6 : w5.alloc (.cells #[.int .i64 (3), .int .i64 (0)] 3) = w6 := hw6
    clear hb6 hg6
    cases hf : m.fits 2
    · have HFF := Lib.hid hf
      have E := Lib.hid E0.out
      rw [hf] at E
      clear hf E0
      go_wp2_with fail
      refine E.out.mono ?_
      rintro e w7 ⟨rfl, hA, hS⟩
      have hS7 := ((Stirred.of_below HF.out.below bs).trans (Stirred.of_below HB6.out bs) (fun k hk => .inl hk)).trans hS (fun k hk => .inl hk)
      have HR := Lib.hid (show RDid w B p bs (.int .i64 (-8)) m (.returned (.int .i64 (-8))) w7 from ⟨rfl, bs, (show RAt w7 B p bs m from hA), hS7, fun k hk => .inl hk⟩)
      clear E hA hS hS7
      go_wp2
      go_ret
      rw [show form 2 m = (-8, m) from by rw [form2_eq, if_pos (by rw [HT.out.1]), HFF.out]; rfl]
      exact HR.out
    · have HFF := Lib.hid hf
      have E := Lib.hid E0.out
      rw [hf] at E
      clear hf E0
      go_wp2_with fail
      refine E.out.mono ?_
      rintro e w7 ⟨rfl, hA, hS⟩
      have HA7 := Lib.hid (show RAt w7 B p bs (layN [3, 0] m) from hA)
      have HS57 := Lib.hid ((Stirred.of_below HB6.out bs).trans hS (fun k hk => .inl hk))
      have HS7 := Lib.hid (((Stirred.of_below HF.out.below bs).trans (Stirred.of_below HB6.out bs) (fun k hk => .inl hk)).trans hS (fun k hk => .inl hk))
      clear E hA hS hw6 hgl
      have hin := HA.out.fine.cell (1, a2) (top_in HT.out.1 (by show (1 : Nat) ≠ 0; decide))
      have hlow : a2 < H := by rw [← HT.out.2.2]; exact hin.2.1 (.inl rfl)
      obtain ⟨L, hL⟩ : ∃ L, m.mem.length = L := ⟨_, rfl⟩
      have hHL : H ≤ L := by rw [← HT.out.2.2, ← hL]; exact HA.out.fine.here
      have hL7 : (layN [3, 0] m).mem.length = L := (layN_facts _ _).1.trans hL
      have hH7 : (layN [3, 0] m).here = H + 2 := by rw [(layN_facts _ _).2.1, HT.out.2.2]; rfl
      obtain ⟨g0, cap0, vo5, k1, _, _, hcells, hfro, _⟩ := HA7.out.row (by rw [hL7]; omega)
      have hput := HA7.out.put k1 (by rw [hL7]; omega) a2 ((H + 2 : Nat) : Int)
      rw [hL7, hH7] at k1
      have c0 : w7.cell? ⟨p, 0, none⟩ = some (.slice (some ⟨g0, 0, none⟩) L cap0) := whole_cell k1 rfl
      have c1 : w7.cell? ⟨p, 1, none⟩ = some (.int .i64 ((H + 2 : Nat) : Int)) := whole_cell k1 rfl
      have dA1 : w7.cell? ⟨ga, 1, none⟩ = some (.int .i64 (a2 : Int)) := whole_cell (HS57.out.whole HF.out.boxa HF.out.na) rfl
      obtain ⟨y, hy⟩ : ∃ y, (layN [3, 0] m).mem[a2]? = some y := ⟨_, List.getElem?_eq_getElem (by rw [hL7]; omega)⟩
      have d3 := hcells a2 y hy
      have d4 := hfro a2
      have u0 : (0 : Int) ≤ (a2 : Int) := by omega
      have u1 : (a2 : Int) < (L : Int) := by omega
      obtain ⟨J, hJ⟩ : ∃ J, H + 2 = J := ⟨_, rfl⟩
      rw [hJ] at c1 hput
      have HP := Lib.hid (show ∀ w8, (w7.setCell ⟨g0, a2, none⟩ (.int .i64 (J : Int))).drew = w8 → RAt w8 B p bs ((layN [3, 0] m).point a2 (J : Int)) ∧ Stirred w w8 bs from fun w8 h8 => by
        rw [← h8]
        exact ⟨hput.1.touch (Stirred.drew _ []) (fun _ _ => List.not_mem_nil), (HS7.out.trans hput.2 (fun k hk => .inl hk)).trans (Stirred.drew _ bs) (fun k hk => .inl hk)⟩)
      have HFT := Lib.hid (show form 2 m = (0, ((layN [3, 0] m).point a2 (J : Int)).held ((2, H + 1) :: ((layN [3, 0] m).point a2 (J : Int)).l.tail)) from by
        rw [form2_eq, if_pos (by rw [HT.out.1]), HFF.out, HT.out.1, HT.out.2.2, ← hJ]; rfl)
      have HH8 := Lib.hid (show ((layN [3, 0] m).point a2 (J : Int)).here = J from hH7.trans hJ)
      clear k1 hcells hfro hput hy hin hL hHL hlow hL7 hH7 hJ
      go_wp2_with fail
      go_region
      obtain ⟨w8, hw8⟩ : ∃ w8, (w7.setCell ⟨g0, a2, none⟩ (.int .i64 (J : Int))).drew = w8 := ⟨_, rfl⟩
      have HA8 := Lib.hid (HP.out w8 hw8).1
      have HS8 := Lib.hid (HP.out w8 hw8).2
      rw [hw8]
      clear hw8 c0 c1 dA1 d3 d4 u0 u1 HP
      have hfine : Fine (((layN [3, 0] m).point a2 (J : Int)).held ((2, H + 1) :: ((layN [3, 0] m).point a2 (J : Int)).l.tail)) := by
        have := (form_kin 2 HA.out.fine).fine
        rw [HFT.out] at this
        exact this
      obtain ⟨r, hr⟩ : ∃ r, m.l.length = r := ⟨_, rfl⟩
      have hr0 : 0 < r := by
        rw [← hr]
        have h1 := HT.out.1
        cases hl : m.l with
        | nil => unfold M.top at h1; rw [hl] at h1; simp at h1
        | cons _ _ => exact Nat.succ_pos _
      have hrl := HLL.out
      rw [hr] at hrl
      have HA8d := Lib.hid (show RAt w8.drew B p bs ((layN [3, 0] m).point a2 (J : Int)) from HA8.out.touch (Stirred.drew w8 []) (fun _ _ => List.not_mem_nil))
      have HS8d := Lib.hid (show Stirred w w8.drew bs from HS8.out.trans (Stirred.drew w8 bs) (fun k hk => .inl hk))
      obtain ⟨vm, vq, k1, _, _, _⟩ := HA8.out.box
      obtain ⟨g, cap, c2d, hcap, hpush⟩ := swap_world HA8d.out (Nat.le_trans HBW.out HS8d.out.size) 2 (H + 1) hfine (by show m.l.length < 1000; exact HLL.out) (by show 0 < m.l.length; omega)
      obtain ⟨c2', hRD, hO8, hB8, hlast⟩ := hpush ((w8.alloc (.cells #[.int .i64 2, .int .i64 ((H : Int) + 1)] 62)).drew) w8.heap.size rfl rfl
      rw [show ((layN [3, 0] m).point a2 (J : Int)).l.length = r from hr] at c2d c2' hO8 hlast hcap
      obtain ⟨j, hj⟩ : ∃ j, r - 1 = j := ⟨_, rfl⟩
      rw [hj] at hO8 hlast
      have c2 : w8.cell? ⟨p, 2, none⟩ = some (.slice (some ⟨g, 0, none⟩) r cap) := c2d
      have c2a : (w8.alloc (.cells #[.int .i64 2, .int .i64 ((H : Int) + 1)] 62)).cell? ⟨p, 2, none⟩ = some (.slice (some ⟨g, 0, none⟩) r cap) := c2'
      have HRD := Lib.hid hRD
      have HO8 := Lib.hid hO8
      have HB8 := Lib.hid hB8
      have HLT := Lib.hid hlast
      have HLN := Lib.hid (show (openCells m.l.tail).length = j * 2 by rw [open_len, List.length_tail, hr, hj])
      have z2 : (r : Int) - 1 = (j : Int) := by omega
      have z3 : (0 : Int) ≤ (j : Int) := by omega
      have z6 : j ≤ cap := by omega
      have z5 : (j : Int) ≤ (cap : Int) := by omega
      have z7 : (r : Int) ≤ 1000 := by omega
      have z8 : IntKind.i64.wrap ((r : Int) - 1) = (r : Int) - 1 := IntWalk.i64_in _ (by omega)
      have z9 : IntKind.i64.wrap (j : Int) = (j : Int) := IntWalk.i64_in _ (by omega)
      have z10 : IntKind.i64.wrap ((H : Int) + 1) = (H : Int) + 1 := IntWalk.i64_in _ (by omega)
      have hj1 : j ≤ 1000 := by omega
      clear hpush hRD hO8 hB8 hlast hfine hr k1 c2d c2' hj hr0 hrl hcap
      go_wp2_with fail
      go_region_law (refine Wide.step_append_reads (by rfl) _ _ 47 (by rfl) B 62 2 i0 (.agg #[.int .i64 0, .int .i64 0]) 16 Tryd.underlying47 HI.out.1 HI.out.2.1 HI.out.2.2.1 HI.out.2.2.2 rfl (by decide) (.slice (some ⟨g, 0, none⟩) j cap) j (openCells m.l.tail) (by rfl) HO8.out HLN.out (.slice (some ⟨w8.heap.size, 0, none⟩) 1 1) 1 [.int .i64 ((2 : Nat) : Int), .int .i64 ((H + 1 : Nat) : Int)] (by rfl) HRD.out rfl (by intro u hu; simp only [List.mem_cons, List.not_mem_nil, or_false] at hu; rcases hu with rfl | rfl <;> rfl) (by unfold maxLen; omega) (by omega) HB8.out ?_; intro v' w9 hO _ hS hN; obtain ⟨so, sc, old, hv', t1, t2, hR⟩ := HLT.out v' w9 hO hS hN; subst hv'; have HR := Lib.hid (rdid_after HS8d.out hR); clear hO hS hN hR)
      all_goals
        go_wp2
        go_ret
        rw [HFT.out]
        exact HR.out
  · have y1 : ¬ (a1 : Int) = 1 := by omega
    have y2 : ((a1 : Int) == 1) = false := by simpa using y1
    have HN := Lib.hid (show form 2 m = (-22, m) from by rw [form2_eq, if_neg (by rw [HT.out.1]; exact hk)])
    clear hk
    go_wp2
    go_ret
    rw [HN.out]
    exact ⟨rfl, bs, HF.out.way, Stirred.of_below HF.out.below bs, fun k hk => .inl hk⟩
end
end Go.Proofs.YtcpdhfigaoaohaaDoor.WvR
