
/- The document's own weave: words of control that lead what was open to a cell. -/
import Derived.Test.YtcpdhfigaoaohaaDoorWvRefWays
namespace Go.Proofs.YtcpdhfigaoaohaaDoor.WvR
open Go.RowKit Book Book.Wide Mem Wv
set_option linter.unusedSimpArgs false
set_option linter.unusedVariables false
set_option maxRecDepth 100000
theorem form3_eq (m : M) : form 3 m = if m.top.1 = 1 ∨ m.top.1 = 2 then (0, (m.point m.top.2 m.here).held m.l.tail) else (-22, m) := rfl
theorem top_in {m : M} {a : Nat × Nat} (h : m.top = a) (h0 : a.1 ≠ 0) : a ∈ m.l := by
  unfold M.top at h
  cases hl : m.l with
  | nil => rw [hl] at h; subst h; exact absurd rfl h0
  | cons x r => rw [hl] at h; subst h; exact List.mem_cons_self
section
variable {w : World} {B p : Nat} {bs : List Nat} {m : M}
set_option maxHeartbeats 8000000 in
theorem rform3 (h : RAt w B p bs m) (hB : B ≤ w.heap.size) (s : ByteArray) (hs : s.size ≤ 1000) (hl : m.l.length < 1000) (hu : up s = ⟨#[84, 72, 69, 78]⟩) : Calls Tryd.prog 15 #[.pointer (some ⟨p, 0, none⟩), .string s] w (RDid w B p bs (.int .i64 (form 3 m).1) (form 3 m).2) := by
  obtain ⟨i0, q1, q2, q3, q4⟩ := info_parts openInfo
  have HI := Lib.hid (And.intro q1 (And.intro q2 (And.intro q3 q4)))
  clear q1 q2 q3 q4
  have C := Lib.hid (rtop_any h)
  have HA := Lib.hid h
  have HBW := Lib.hid hB
  obtain ⟨⟨a1, a2⟩, hta⟩ : ∃ x, m.top = x := ⟨_, rfl⟩
  obtain ⟨⟨b1, b2⟩, htb⟩ : ∃ x, m.under = x := ⟨_, rfl⟩
  obtain ⟨H, hH⟩ : ∃ H, m.here = H := ⟨_, rfl⟩
  have hH9 : H ≤ 1000 := by have h1 := h.fine.here; have h2 := h.most; omega
  rw [hta] at C
  have HT := Lib.hid (And.intro hta (And.intro htb hH))
  have HS := Lib.hid hs
  have HU := Lib.hid hu
  have HLL := Lib.hid hl
  clear h hs hu hB hl hta hH
  go_enter Tryd.func15, Tryd.ntmps15
  go_wp2_with fail
  refine C.out.mono ?_
  rintro e w1 ⟨rfl, hb1⟩
  have D := Lib.hid (runder_any (HA.out.below hb1))
  rw [htb] at D
  have HB1 := Lib.hid hb1
  clear C hb1 htb
  go_wp2_with fail
  refine D.out.mono ?_
  rintro e w2 ⟨rfl, hb2⟩
  have hb02 := HB1.out.trans (hb2.mono HB1.out.size)
  obtain ⟨w3, ga, hw3, hga, hn3, hb3⟩ := open_box w2 a1 a2
  obtain ⟨w4, gb, hw4, hgb, hn4, hb4⟩ := open_box w3 b1 b2
  have hz3 : w3.heap.size = w2.heap.size + 1 := by rw [← hw3]; exact size_alloc _ _
  rw [hgb] at hz3
  have hb03 := hb02.trans (hb3.mono hb02.size)
  have hb04 := hb03.trans (hb4.mono hb03.size)
  have HF4 := Lib.hid (show Fr w w4 B p ga gb bs m (a1, a2) (b1, b2) from ⟨HA.out.below hb04, (Stirred.of_below hb4 []).whole hn3 List.not_mem_nil, hn4, hb04,
    fun hk => by have h1 := (HA.out.lt _ hk).2; have h2 := hb02.size; omega, fun hk => by have h1 := (HA.out.lt _ hk).2; have h2 := hb03.size; omega⟩)
  obtain ⟨vm4, vo4, bx4, bx5⟩ := HF4.out.way.box
  rw [HT.out.2.2] at bx4
  have c1 : w4.cell? ⟨p, 1, none⟩ = some (.int .i64 (H : Int)) := whole_cell bx4 rfl
  have G := Lib.hid (great_up s (by have := HS.out; omega) w4)
  rw [HU.out] at G
  clear D hb2 hb02 hn3 hn4 hb3 hb4 hb03 hb04 bx4 bx5 hgb
  subst hw4 hw3
  have HG := Lib.hid (And.intro hga hz3)
  clear hga hz3
  go_wp2_with fail
  refine G.out.mono ?_
  rintro e w5 ⟨rfl, hb5⟩
  have HF := Lib.hid (HF4.out.next hb5)
  clear G hb5 HF4 c1
  rw [← HG.out.2, HG.out.1]
  clear HG
  have dA : w5.cell? ⟨ga, 0, none⟩ = some (.int .i64 (a1 : Int)) := whole_cell HF.out.boxa rfl
  by_cases hk : a1 = 1 ∨ a1 = 2
  · have HFT := Lib.hid (show form 3 m = (0, (m.point a2 (H : Int)).held ((m.point a2 (H : Int)).l.drop 1)) from by rw [form3_eq, if_pos (by rw [HT.out.1]; exact hk), HT.out.1, HT.out.2.2, List.drop_one]; rfl)
    have hin := HA.out.fine.cell (a1, a2) (top_in HT.out.1 (by show a1 ≠ 0; omega))
    have hlow : a2 < H := by rw [← HT.out.2.2]; exact hin.2.1 (by show a1 = 1 ∨ a1 = 2 ∨ a1 = 4; omega)
    obtain ⟨L, hL⟩ : ∃ L, m.mem.length = L := ⟨_, rfl⟩
    have hHL : H ≤ L := by rw [← HT.out.2.2, ← hL]; exact HA.out.fine.here
    obtain ⟨g0, cap0, vo5, k1, _, _, hcells, hfro, _⟩ := HF.out.way.row (by rw [hL]; omega)
    have hput := HF.out.way.put k1 (by rw [hL]; omega) a2 (H : Int)
    rw [hL, HT.out.2.2] at k1
    have c0 : w5.cell? ⟨p, 0, none⟩ = some (.slice (some ⟨g0, 0, none⟩) L cap0) := whole_cell k1 rfl
    have dA1 : w5.cell? ⟨ga, 1, none⟩ = some (.int .i64 (a2 : Int)) := whole_cell HF.out.boxa rfl
    obtain ⟨y, hy⟩ : ∃ y, m.mem[a2]? = some y := ⟨_, List.getElem?_eq_getElem (by rw [hL]; omega)⟩
    have d3 := hcells a2 y hy
    have d4 := hfro a2
    have u0 : (0 : Int) ≤ (a2 : Int) := by omega
    have u1 : (a2 : Int) < (L : Int) := by omega
    have HP := Lib.hid (show ∀ w7, (w5.setCell ⟨g0, a2, none⟩ (.int .i64 (H : Int))).drew = w7 → RAt w7 B p bs (m.point a2 (H : Int)) ∧ Stirred w w7 bs from fun w7 h7 => by
      rw [← h7]
      exact ⟨hput.1.touch (Stirred.drew _ []) (fun _ _ => List.not_mem_nil), ((Stirred.of_below HF.out.below bs).trans hput.2 (fun k hk => .inl hk)).trans (Stirred.drew _ bs) (fun k hk => .inl hk)⟩)
    have hk1 : a1 ≠ 0 := by omega
    clear k1 hcells hfro hput hy hin hL hHL hlow
    rcases hk with rfl | rfl
    all_goals
      go_wp2_with fail
      go_region
      obtain ⟨w7, hw7⟩ : ∃ w7, (w5.setCell ⟨g0, a2, none⟩ (.int .i64 (H : Int))).drew = w7 := ⟨_, rfl⟩
      have HA7 := Lib.hid (HP.out w7 hw7).1
      have HS7 := Lib.hid (HP.out w7 hw7).2
      rw [hw7]
      clear hw7 c0 dA dA1 d3 d4 u0 u1 HP
      have HFM := Lib.hid (show form 3 m = (0, (m.point a2 (H : Int)).held ((m.point a2 (H : Int)).l.drop 1)) from HFT.out)
      obtain ⟨r, hr⟩ : ∃ r, m.l.length = r := ⟨_, rfl⟩
      have hr0 : 0 < r := by
        rw [← hr]
        have h1 := HT.out.1
        cases hl : m.l with
        | nil => unfold M.top at h1; rw [hl] at h1; simp at h1
        | cons _ _ => exact Nat.succ_pos _
      have hrl := HLL.out
      rw [hr] at hrl
      obtain ⟨j, hj⟩ : ∃ j, r - 1 = j := ⟨_, rfl⟩
      obtain ⟨g, cap, c2, f2, hcap, hA8, hS8⟩ := drop_world HA7.out 1 (by show 1 ≤ m.l.length; omega) (by show 0 < m.l.length; omega)
      rw [show (m.point a2 (H : Int)).l.length = r from hr] at c2 hcap hA8 hS8
      rw [hj] at hA8 hS8
      have HR := Lib.hid (show ∀ w8, (w7.setCell ⟨p, 2, none⟩ (.slice (some ⟨g, 0, none⟩) j cap)).drew = w8 → RDid w B p bs (.int .i64 0) ((m.point a2 (H : Int)).held ((m.point a2 (H : Int)).l.drop 1)) (.returned (.int .i64 0)) w8 from fun w8 h8 => by
        rw [← h8]
        exact ⟨rfl, bs, hA8.touch (Stirred.drew _ []) (fun _ _ => List.not_mem_nil), (HS7.out.trans hS8 (fun k hk => .inl hk)).trans (Stirred.drew _ bs) (fun k hk => .inl hk), fun k hk => .inl hk⟩)
      have z2 : (r : Int) - 1 = (j : Int) := by omega
      have z3 : (0 : Int) ≤ (j : Int) := by omega
      have z6 : j ≤ cap := by omega
      have z5 : (j : Int) ≤ (cap : Int) := by omega
      have z7 : (r : Int) ≤ 1000 := by omega
      have z8 : IntKind.i64.wrap ((r : Int) - 1) = (r : Int) - 1 := IntWalk.i64_in _ (by omega)
      have z9 : IntKind.i64.wrap (j : Int) = (j : Int) := IntWalk.i64_in _ (by omega)
      clear hr hr0 hrl hj hcap hA8 hS8
      go_wp2_with fail
      go_region
      go_wp2
      go_ret
      rw [HFM.out]
      exact HR.out _ rfl
  · have y3 : ¬ (a1 : Int) = 2 := by omega
    have y4 : ((a1 : Int) == 2) = false := by simpa using y3
    have y5 : ((a1 : Int) != 2) = true := by simpa using y3
    have y6 : ((a1 : Int) != 1) = true := by simp; omega
    have y1 : ¬ (a1 : Int) = 1 := by omega
    have y2 : ((a1 : Int) == 1) = false := by simpa using y1
    have HN := Lib.hid (show form 3 m = (-22, m) from by rw [form3_eq, if_neg (by rw [HT.out.1]; exact hk)])
    clear hk
    go_wp2
    go_ret
    rw [HN.out]
    exact ⟨rfl, bs, HF.out.way, Stirred.of_below HF.out.below bs, fun k hk => .inl hk⟩
end
end Go.Proofs.YtcpdhfigaoaohaaDoor.WvR
