
/- The document's own weave: DO (a region that draws its order, with an append). -/
import Derived.Test.YtcpdhfigaoaohaaDoorWvRefWays3
import Derived.Deep.RegionLaw
namespace Go.Proofs.YtcpdhfigaoaohaaDoor.WvR
open Go.RowKit Book Book.Wide Mem Wv
set_option linter.unusedSimpArgs false
set_option linter.unusedVariables false
set_option maxRecDepth 100000
section
variable {w : World} {B p : Nat} {bs : List Nat} {m : M}
set_option maxHeartbeats 8000000 in
theorem rform9 (h : RAt w B p bs m) (hB : B ≤ w.heap.size) (s : ByteArray) (hs : s.size ≤ 1000) (hl : m.l.length < 1000) (hu : up s = ⟨#[68, 79]⟩) : Calls Tryd.prog 15 #[.pointer (some ⟨p, 0, none⟩), .string s] w (RDid w B p bs (.int .i64 (form 9 m).1) (form 9 m).2) := by
  obtain ⟨i0, q1, q2, q3, q4⟩ := info_parts openInfo
  have HI := Lib.hid (And.intro q1 (And.intro q2 (And.intro q3 q4)))
  clear q1 q2 q3 q4
  have C := Lib.hid (rtop_any h)
  have HA := Lib.hid h
  have HBW := Lib.hid hB
  obtain ⟨⟨a1, a2⟩, hta⟩ : ∃ x, m.top = x := ⟨_, rfl⟩
  obtain ⟨⟨b1, b2⟩, htb⟩ : ∃ x, m.under = x := ⟨_, rfl⟩
  obtain ⟨H, hH⟩ : ∃ H, m.here = H := ⟨_, rfl⟩
  have hH9 : H ≤ 1000 := by have h1 := h.fine.here; have h2 := h.most; omega
  rw [hta] at C
  have HT := Lib.hid (And.intro hta (And.intro htb hH))
  have HS := Lib.hid hs
  have HU := Lib.hid hu
  have HLL := Lib.hid hl
  clear h hs hu hB hl hta hH
  go_enter Tryd.func15, Tryd.ntmps15
  go_wp2_with fail
  refine C.out.mono ?_
  rintro e w1 ⟨rfl, hb1⟩
  have D := Lib.hid (runder_any (HA.out.below hb1))
  rw [htb] at D
  have HB1 := Lib.hid hb1
  clear C hb1 htb
  go_wp2_with fail
  refine D.out.mono ?_
  rintro e w2 ⟨rfl, hb2⟩
  have hb02 := HB1.out.trans (hb2.mono HB1.out.size)
  obtain ⟨w3, ga, hw3, hga, hn3, hb3⟩ := open_box w2 a1 a2
  obtain ⟨w4, gb, hw4, hgb, hn4, hb4⟩ := open_box w3 b1 b2
  have hz3 : w3.heap.size = w2.heap.size + 1 := by rw [← hw3]; exact size_alloc _ _
  rw [hgb] at hz3
  have hb03 := hb02.trans (hb3.mono hb02.size)
  have hb04 := hb03.trans (hb4.mono hb03.size)
  have HF4 := Lib.hid (show Fr w w4 B p ga gb bs m (a1, a2) (b1, b2) from ⟨HA.out.below hb04, (Stirred.of_below hb4 []).whole hn3 List.not_mem_nil, hn4, hb04,
    fun hk => by have h1 := (HA.out.lt _ hk).2; have h2 := hb02.size; omega, fun hk => by have h1 := (HA.out.lt _ hk).2; have h2 := hb03.size; omega⟩)
  obtain ⟨vm4, vo4, bx4, bx5⟩ := HF4.out.way.box
  rw [HT.out.2.2] at bx4
  have c1 : w4.cell? ⟨p, 1, none⟩ = some (.int .i64 (H : Int)) := whole_cell bx4 rfl
  have G := Lib.hid (great_up s (by have := HS.out; omega) w4)
  rw [HU.out] at G
  clear D hb2 hb02 hn3 hn4 hb3 hb4 hb03 hb04 bx4 bx5 hgb
  subst hw4 hw3
  have HG := Lib.hid (And.intro hga hz3)
  clear hga hz3
  go_wp2_with fail
  refine G.out.mono ?_
  rintro e w5 ⟨rfl, hb5⟩
  have HF := Lib.hid (HF4.out.next hb5)
  clear G hb5 HF4 c1
  rw [← HG.out.2, HG.out.1]
  clear HG
  obtain ⟨w6, gl, hw6, hgl, hg6, hb6⟩ := lit_box w5 [36]
  have HB6 := Lib.hid hb6
  have E0 := Lib.hid (rlay_any (HF.out.way.below hb6) [36] gl 1 rfl hg6 (by rw [← hgl]; exact HF.out.way.old) (by decide))
  have hw6 : w5.alloc (.cells #[.int .i64 (36)] 3) = w6 := hw6
  clear hb6 hg6
  cases hf : m.fits 1
  · have HFF := Lib.hid hf
    have E := Lib.hid E0.out
    rw [hf] at E
    clear hf E0
    go_wp2_with fail
    refine E.out.mono ?_
    rintro e w7 ⟨rfl, hA, hS⟩
    have hS7 := ((Stirred.of_below HF.out.below bs).trans (Stirred.of_below HB6.out bs) (fun k hk => .inl hk)).trans hS (fun k hk => .inl hk)
    have HR := Lib.hid (show RDid w B p bs (.int .i64 (-8)) m (.returned (.int .i64 (-8))) w7 from ⟨rfl, bs, (show RAt w7 B p bs m from hA), hS7, fun k hk => .inl hk⟩)
    clear E hA hS hS7
    go_wp2
    go_ret
    rw [show form 9 m = (-8, m) from by unfold form; rw [HFF.out]; rfl]
    exact HR.out
  · have HFF := Lib.hid hf
    have E := Lib.hid E0.out
    rw [hf] at E
    clear hf E0
    go_wp2_with fail
    refine E.out.mono ?_
    rintro e w7 ⟨rfl, hA, hS⟩
    have HA7 := Lib.hid (show RAt w7 B p bs (layN [36] m) from hA)
    have HS57 := Lib.hid ((Stirred.of_below HB6.out bs).trans hS (fun k hk => .inl hk))
    have HS7 := Lib.hid (((Stirred.of_below HF.out.below bs).trans (Stirred.of_below HB6.out bs) (fun k hk => .inl hk)).trans hS (fun k hk => .inl hk))
    clear E hA hS hw6 hgl
    have HFM := Lib.hid (show form 9 m = (0, (layN [36] m).push 5 (H + 1)) from by unfold form; rw [HFF.out, HT.out.2.2]; rfl)
    have hfine : Fine ((layN [36] m).push 5 (H + 1)) := by
      have := (form_kin 9 HA.out.fine).fine
      rw [HFM.out] at this
      exact this
    obtain ⟨r, hr⟩ : ∃ r, m.l.length = r := ⟨_, rfl⟩
    have hrl := HLL.out
    rw [hr] at hrl
    have HA7d := Lib.hid (show RAt w7.drew B p bs (layN [36] m) from HA7.out.touch (Stirred.drew w7 []) (fun _ _ => List.not_mem_nil))
    have HS7d := Lib.hid (show Stirred w w7.drew bs from HS7.out.trans (Stirred.drew w7 bs) (fun k hk => .inl hk))
    obtain ⟨vm, vq, k1, _, _, _⟩ := HA7.out.box
    rw [show (layN [36] m).here = H + 1 by rw [(layN_facts _ _).2.1, HT.out.2.2]; rfl] at k1
    obtain ⟨vo, vc, c2d, hpush⟩ := push_world HA7d.out (Nat.le_trans HBW.out HS7d.out.size) 5 (H + 1) hfine (by show m.l.length < 1000; exact HLL.out)
    obtain ⟨J, hJ⟩ : ∃ J, H + 1 = J := ⟨_, rfl⟩
    rw [hJ] at k1 hpush
    obtain ⟨c2', hRD, hO8, hB8, hb8, hlast⟩ := hpush ((w7.alloc (.cells #[.int .i64 5, .int .i64 (J : Int)] 62)).drew) w7.heap.size rfl rfl
    rw [show (layN [36] m).l.length = r from hr] at c2d c2' hO8 hlast
    have c1 : w7.cell? ⟨p, 1, none⟩ = some (.int .i64 (J : Int)) := whole_cell k1 rfl
    have c2 : w7.cell? ⟨p, 2, none⟩ = some (.slice vo r vc) := c2d
    have k2 := (Stirred.of_below ((Below.refl w7.heap.size w7).alloc (Nat.le_refl _) (.cells #[.int .i64 5, .int .i64 (J : Int)] 62)) []).whole k1 List.not_mem_nil
    have c1a : (w7.alloc (.cells #[.int .i64 5, .int .i64 (J : Int)] 62)).cell? ⟨p, 1, none⟩ = some (.int .i64 (J : Int)) := whole_cell k2 rfl
    have c2a : (w7.alloc (.cells #[.int .i64 5, .int .i64 (J : Int)] 62)).cell? ⟨p, 2, none⟩ = some (.slice vo r vc) := c2'
    have HRD := Lib.hid hRD
    have HO8 := Lib.hid hO8
    have HB8 := Lib.hid hB8
    have HLT := Lib.hid hlast
    have HJ := Lib.hid hJ
    have HLN := Lib.hid (show (openCells m.l).length = r * 2 by rw [open_len, hr])
    clear hpush hRD hO8 hB8 hb8 hlast hfine hr k1 k2 c2d c2' hJ
    go_wp2_with fail
    go_region_law (refine Wide.step_append_reads (by rfl) _ _ 47 (by rfl) B 62 2 i0 (.agg #[.int .i64 0, .int .i64 0]) 16 Tryd.underlying47 HI.out.1 HI.out.2.1 HI.out.2.2.1 HI.out.2.2.2 rfl (by decide) (.slice vo r vc) r (openCells m.l) (by rfl) HO8.out HLN.out (.slice (some ⟨w7.heap.size, 0, none⟩) 1 1) 1 [.int .i64 5, .int .i64 (J : Int)] (by rfl) HRD.out rfl (by intro u hu; simp only [List.mem_cons, List.not_mem_nil, or_false] at hu; rcases hu with rfl | rfl <;> rfl) (by unfold maxLen; omega) (by omega) HB8.out ?_; intro v' w9 hO _ hS hN; obtain ⟨so, sc, old, hv', t1, t2, hR⟩ := HLT.out v' w9 hO hS hN; subst hv'; have HR := Lib.hid (rdid_after HS7d.out hR); clear hO hS hN hR)
    all_goals
      go_wp2
      go_ret
      rw [HFM.out, HJ.out]
      exact HR.out
end
end Go.Proofs.YtcpdhfigaoaohaaDoor.WvR
