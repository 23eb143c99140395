
/- The document's own weave: REPEAT, and a text that is no word of control. -/
import Derived.Test.YtcpdhfigaoaohaaDoorWvRefWays2
namespace Go.Proofs.YtcpdhfigaoaohaaDoor.WvR
open Go.RowKit Book Book.Wide Mem Wv
set_option linter.unusedSimpArgs false
set_option linter.unusedVariables false
set_option maxRecDepth 100000
theorem form8_eq (m : M) : form 8 m = if m.top.1 = 4 ∧ m.under.1 = 3 then (if m.fits 2 then (0, ((m.two 3 m.under.2).point m.top.2 (m.here + 2 : Nat)).held m.l.tail.tail) else (-8, m)) else (-22, m) := rfl
theorem drop_two {l : List (Nat × Nat)} : l.drop 2 = l.tail.tail := by rcases l with - | ⟨x, - | ⟨y, r⟩⟩ <;> rfl
theorem toList_ne {a : ByteArray} {l : List UInt8} (h : a ≠ ⟨l.toArray⟩) : (a.toList == l) = false := by
  cases e : (a.toList == l) with
  | false => rfl
  | true =>
    have e1 := eq_of_beq e
    rw [ByteArray.toList_eq] at e1
    obtain ⟨d⟩ := a
    exact absurd (by rw [← e1]) h
section
variable {w : World} {B p : Nat} {bs : List Nat} {m : M}
set_option maxHeartbeats 8000000 in
theorem rform0_at (h : RAt w B p bs m) (hB : B ≤ w.heap.size) (s : ByteArray) (hs : s.size ≤ 1000) (hl : m.l.length < 1000) {U : ByteArray} (hu : up s = U) (f0 : (U.toList == [73, 70]) = false) (f1 : (U.toList == [69, 76, 83, 69]) = false) (f2 : (U.toList == [84, 72, 69, 78]) = false) (f3 : (U.toList == [66, 69, 71, 73, 78]) = false) (f4 : (U.toList == [85, 78, 84, 73, 76]) = false) (f5 : (U.toList == [65, 71, 65, 73, 78]) = false) (f6 : (U.toList == [87, 72, 73, 76, 69]) = false) (f7 : (U.toList == [82, 69, 80, 69, 65, 84]) = false) (f8 : (U.toList == [68, 79]) = false) (f9 : (U.toList == [76, 79, 79, 80]) = false) (f10 : (U.toList == [43, 76, 79, 79, 80]) = false) : Calls Tryd.prog 15 #[.pointer (some ⟨p, 0, none⟩), .string s] w (RDid w B p bs (.int .i64 (form 0 m).1) (form 0 m).2) := by
  obtain ⟨i0, q1, q2, q3, q4⟩ := info_parts openInfo
  have HI := Lib.hid (And.intro q1 (And.intro q2 (And.intro q3 q4)))
  clear q1 q2 q3 q4
  have C := Lib.hid (rtop_any h)
  have HA := Lib.hid h
  have HBW := Lib.hid hB
  obtain ⟨⟨a1, a2⟩, hta⟩ : ∃ x, m.top = x := ⟨_, rfl⟩
  obtain ⟨⟨b1, b2⟩, htb⟩ : ∃ x, m.under = x := ⟨_, rfl⟩
  obtain ⟨H, hH⟩ : ∃ H, m.here = H := ⟨_, rfl⟩
  have hH9 : H ≤ 1000 := by have h1 := h.fine.here; have h2 := h.most; omega
  rw [hta] at C
  have HT := Lib.hid (And.intro hta (And.intro htb hH))
  have HS := Lib.hid hs
  have HU := Lib.hid hu
  have HLL := Lib.hid hl
  clear h hs hu hB hl hta hH
  go_enter Tryd.func15, Tryd.ntmps15
  go_wp2_with fail
  refine C.out.mono ?_
  rintro e w1 ⟨rfl, hb1⟩
  have D := Lib.hid (runder_any (HA.out.below hb1))
  rw [htb] at D
  have HB1 := Lib.hid hb1
  clear C hb1 htb
  go_wp2_with fail
  refine D.out.mono ?_
  rintro e w2 ⟨rfl, hb2⟩
  have hb02 := HB1.out.trans (hb2.mono HB1.out.size)
  obtain ⟨w3, ga, hw3, hga, hn3, hb3⟩ := open_box w2 a1 a2
  obtain ⟨w4, gb, hw4, hgb, hn4, hb4⟩ := open_box w3 b1 b2
  have hz3 : w3.heap.size = w2.heap.size + 1 := by rw [← hw3]; exact size_alloc _ _
  rw [hgb] at hz3
  have hb03 := hb02.trans (hb3.mono hb02.size)
  have hb04 := hb03.trans (hb4.mono hb03.size)
  have HF4 := Lib.hid (show Fr w w4 B p ga gb bs m (a1, a2) (b1, b2) from ⟨HA.out.below hb04, (Stirred.of_below hb4 []).whole hn3 List.not_mem_nil, hn4, hb04,
    fun hk => by have h1 := (HA.out.lt _ hk).2; have h2 := hb02.size; omega, fun hk => by have h1 := (HA.out.lt _ hk).2; have h2 := hb03.size; omega⟩)
  obtain ⟨vm4, vo4, bx4, bx5⟩ := HF4.out.way.box
  rw [HT.out.2.2] at bx4
  have c1 : w4.cell? ⟨p, 1, none⟩ = some (.int .i64 (H : Int)) := whole_cell bx4 rfl
  have G := Lib.hid (great_up s (by have := HS.out; omega) w4)
  rw [HU.out] at G
  clear D hb2 hb02 hn3 hn4 hb3 hb4 hb03 hb04 bx4 bx5 hgb
  subst hw4 hw3
  have HG := Lib.hid (And.intro hga hz3)
  clear hga hz3
  go_wp2_with fail
  refine G.out.mono ?_
  rintro e w5 ⟨rfl, hb5⟩
  have HF := Lib.hid (HF4.out.next hb5)
  clear G hb5 HF4 c1
  rw [← HG.out.2, HG.out.1]
  clear HG
  go_wp2
  go_ret
  exact ⟨rfl, bs, HF.out.way, Stirred.of_below HF.out.below bs, fun k hk => .inl hk⟩
theorem rform0 (h : RAt w B p bs m) (hB : B ≤ w.heap.size) (s : ByteArray) (hs : s.size ≤ 1000) (hl : m.l.length < 1000) (hu : word s = 0) : Calls Tryd.prog 15 #[.pointer (some ⟨p, 0, none⟩), .string s] w (RDid w B p bs (.int .i64 (form 0 m).1) (form 0 m).2) := by
  unfold word at hu
  exact rform0_at h hB s hs hl rfl (toList_ne fun e => by rw [e] at hu; exact absurd hu (by decide +kernel)) (toList_ne fun e => by rw [e] at hu; exact absurd hu (by decide +kernel)) (toList_ne fun e => by rw [e] at hu; exact absurd hu (by decide +kernel)) (toList_ne fun e => by rw [e] at hu; exact absurd hu (by decide +kernel)) (toList_ne fun e => by rw [e] at hu; exact absurd hu (by decide +kernel)) (toList_ne fun e => by rw [e] at hu; exact absurd hu (by decide +kernel)) (toList_ne fun e => by rw [e] at hu; exact absurd hu (by decide +kernel)) (toList_ne fun e => by rw [e] at hu; exact absurd hu (by decide +kernel)) (toList_ne fun e => by rw [e] at hu; exact absurd hu (by decide +kernel)) (toList_ne fun e => by rw [e] at hu; exact absurd hu (by decide +kernel)) (toList_ne fun e => by rw [e] at hu; exact absurd hu (by decide +kernel))
set_option maxHeartbeats 8000000 in
theorem rform8 (h : RAt w B p bs m) (hB : B ≤ w.heap.size) (s : ByteArray) (hs : s.size ≤ 1000) (hl : m.l.length < 1000) (hu : up s = ⟨#[82, 69, 80, 69, 65, 84]⟩) : Calls Tryd.prog 15 #[.pointer (some ⟨p, 0, none⟩), .string s] w (RDid w B p bs (.int .i64 (form 8 m).1) (form 8 m).2) := by
  obtain ⟨i0, q1, q2, q3, q4⟩ := info_parts openInfo
  have HI := Lib.hid (And.intro q1 (And.intro q2 (And.intro q3 q4)))
  clear q1 q2 q3 q4
  have C := Lib.hid (rtop_any h)
  have HA := Lib.hid h
  have HBW := Lib.hid hB
  obtain ⟨⟨a1, a2⟩, hta⟩ : ∃ x, m.top = x := ⟨_, rfl⟩
  obtain ⟨⟨b1, b2⟩, htb⟩ : ∃ x, m.under = x := ⟨_, rfl⟩
  obtain ⟨H, hH⟩ : ∃ H, m.here = H := ⟨_, rfl⟩
  have hH9 : H ≤ 1000 := by have h1 := h.fine.here; have h2 := h.most; omega
  rw [hta] at C
  have HT := Lib.hid (And.intro hta (And.intro htb hH))
  have HS := Lib.hid hs
  have HU := Lib.hid hu
  have HLL := Lib.hid hl
  clear h hs hu hB hl hta hH
  go_enter Tryd.func15, Tryd.ntmps15
  go_wp2_with fail
  refine C.out.mono ?_
  rintro e w1 ⟨rfl, hb1⟩
  have D := Lib.hid (runder_any (HA.out.below hb1))
  rw [htb] at D
  have HB1 := Lib.hid hb1
  clear C hb1 htb
  go_wp2_with fail
  refine D.out.mono ?_
  rintro e w2 ⟨rfl, hb2⟩
  have hb02 := HB1.out.trans (hb2.mono HB1.out.size)
  obtain ⟨w3, ga, hw3, hga, hn3, hb3⟩ := open_box w2 a1 a2
  obtain ⟨w4, gb, hw4, hgb, hn4, hb4⟩ := open_box w3 b1 b2
  have hz3 : w3.heap.size = w2.heap.size + 1 := by rw [← hw3]; exact size_alloc _ _
  rw [hgb] at hz3
  have hb03 := hb02.trans (hb3.mono hb02.size)
  have hb04 := hb03.trans (hb4.mono hb03.size)
  have HF4 := Lib.hid (show Fr w w4 B p ga gb bs m (a1, a2) (b1, b2) from ⟨HA.out.below hb04, (Stirred.of_below hb4 []).whole hn3 List.not_mem_nil, hn4, hb04,
    fun hk => by have h1 := (HA.out.lt _ hk).2; have h2 := hb02.size; omega, fun hk => by have h1 := (HA.out.lt _ hk).2; have h2 := hb03.size; omega⟩)
  obtain ⟨vm4, vo4, bx4, bx5⟩ := HF4.out.way.box
  rw [HT.out.2.2] at bx4
  have c1 : w4.cell? ⟨p, 1, none⟩ = some (.int .i64 (H : Int)) := whole_cell bx4 rfl
  have G := Lib.hid (great_up s (by have := HS.out; omega) w4)
  rw [HU.out] at G
  clear D hb2 hb02 hn3 hn4 hb3 hb4 hb03 hb04 bx4 bx5 hgb
  subst hw4 hw3
  have HG := Lib.hid (And.intro hga hz3)
  clear hga hz3
  go_wp2_with fail
  refine G.out.mono ?_
  rintro e w5 ⟨rfl, hb5⟩
  have HF := Lib.hid (HF4.out.next hb5)
  clear G hb5 HF4 c1
  rw [← HG.out.2, HG.out.1]
  clear HG
  have dA : w5.cell? ⟨ga, 0, none⟩ = some (.int .i64 (a1 : Int)) := whole_cell HF.out.boxa rfl
  have dB : w5.cell? ⟨gb, 0, none⟩ = some (.int .i64 (b1 : Int)) := whole_cell HF.out.boxb rfl
  have dB1 : w5.cell? ⟨gb, 1, none⟩ = some (.int .i64 (b2 : Int)) := whole_cell HF.out.boxb rfl
  by_cases hk : a1 = 4
  · subst hk
    by_cases hk : b1 = 3
    · subst hk
      have HL2 := Lib.hid (show 2 ≤ m.l.length from by
        have h1 := HT.out.2.1
        unfold M.under at h1
        rcases hl : m.l with - | ⟨x, - | ⟨y, r⟩⟩
        · rw [hl] at h1; simp at h1
        · rw [hl] at h1; simp at h1
        · simp)
      obtain ⟨w6, gl, hw6, hgl, hg6, hb6⟩ := lit_box w5 [3, (b2 : Int)]
      have HB6 := Lib.hid hb6
      have E0 := Lib.hid (rlay_any (HF.out.way.below hb6) [3, (b2 : Int)] gl 2 rfl hg6 (by rw [← hgl]; exact HF.out.way.old) (by decide))
      have hw6 : w5.alloc (.cells #[.int .i64 (3), .int .i64 ((b2 : Int))] 3) = w6 := hw6
      clear hb6 hg6
      cases hf : m.fits 2
      · have HFF := Lib.hid hf
        have E := Lib.hid E0.out
        rw [hf] at E
        clear hf E0
        go_wp2_with fail
        refine E.out.mono ?_
        rintro e w7 ⟨rfl, hA, hS⟩
        have hS7 := ((Stirred.of_below HF.out.below bs).trans (Stirred.of_below HB6.out bs) (fun k hk => .inl hk)).trans hS (fun k hk => .inl hk)
        have HR := Lib.hid (show RDid w B p bs (.int .i64 (-8)) m (.returned (.int .i64 (-8))) w7 from ⟨rfl, bs, (show RAt w7 B p bs m from hA), hS7, fun k hk => .inl hk⟩)
        clear E hA hS hS7
        go_wp2
        go_ret
        rw [show form 8 m = (-8, m) from by rw [form8_eq, if_pos (by rw [HT.out.1, HT.out.2.1]; exact ⟨rfl, rfl⟩), HFF.out]; rfl]
        exact HR.out
      · have HFF := Lib.hid hf
        have E := Lib.hid E0.out
        rw [hf] at E
        clear hf E0
        go_wp2_with fail
        refine E.out.mono ?_
        rintro e w7 ⟨rfl, hA, hS⟩
        have HA7 := Lib.hid (show RAt w7 B p bs (layN [3, (b2 : Int)] m) from hA)
        have HS57 := Lib.hid ((Stirred.of_below HB6.out bs).trans hS (fun k hk => .inl hk))
        have HS7 := Lib.hid (((Stirred.of_below HF.out.below bs).trans (Stirred.of_below HB6.out bs) (fun k hk => .inl hk)).trans hS (fun k hk => .inl hk))
        clear E hA hS hw6 hgl
        have hin := HA.out.fine.cell (4, a2) (top_in HT.out.1 (by show (4 : Nat) ≠ 0; decide))
        have hlow : a2 < H := by rw [← HT.out.2.2]; exact hin.2.1 (.inr (.inr rfl))
        obtain ⟨L, hL⟩ : ∃ L, m.mem.length = L := ⟨_, rfl⟩
        have hHL : H ≤ L := by rw [← HT.out.2.2, ← hL]; exact HA.out.fine.here
        have hL7 : (layN [3, (b2 : Int)] m).mem.length = L := (layN_facts _ _).1.trans hL
        have hH7 : (layN [3, (b2 : Int)] m).here = H + 2 := by rw [(layN_facts _ _).2.1, HT.out.2.2]; rfl
        obtain ⟨g0, cap0, vo5, k1, _, _, hcells, hfro, _⟩ := HA7.out.row (by rw [hL7]; omega)
        have hput := HA7.out.put k1 (by rw [hL7]; omega) a2 ((H + 2 : Nat) : Int)
        rw [hL7, hH7] at k1
        have c0 : w7.cell? ⟨p, 0, none⟩ = some (.slice (some ⟨g0, 0, none⟩) L cap0) := whole_cell k1 rfl
        have c1 : w7.cell? ⟨p, 1, none⟩ = some (.int .i64 ((H + 2 : Nat) : Int)) := whole_cell k1 rfl
        have dA1 : w7.cell? ⟨ga, 1, none⟩ = some (.int .i64 (a2 : Int)) := whole_cell (HS57.out.whole HF.out.boxa HF.out.na) rfl
        obtain ⟨y, hy⟩ : ∃ y, (layN [3, (b2 : Int)] m).mem[a2]? = some y := ⟨_, List.getElem?_eq_getElem (by rw [hL7]; omega)⟩
        have d3 := hcells a2 y hy
        have d4 := hfro a2
        have u0 : (0 : Int) ≤ (a2 : Int) := by omega
        have u1 : (a2 : Int) < (L : Int) := by omega
        obtain ⟨J, hJ⟩ : ∃ J, H + 2 = J := ⟨_, rfl⟩
        rw [hJ] at c1 hput
        have HP := Lib.hid (show ∀ w8, (w7.setCell ⟨g0, a2, none⟩ (.int .i64 (J : Int))).drew = w8 → RAt w8 B p bs ((layN [3, (b2 : Int)] m).point a2 (J : Int)) ∧ Stirred w w8 bs from fun w8 h8 => by
          rw [← h8]
          exact ⟨hput.1.touch (Stirred.drew _ []) (fun _ _ => List.not_mem_nil), (HS7.out.trans hput.2 (fun k hk => .inl hk)).trans (Stirred.drew _ bs) (fun k hk => .inl hk)⟩)
        have HFT := Lib.hid (show form 8 m = (0, ((layN [3, (b2 : Int)] m).point a2 (J : Int)).held (((layN [3, (b2 : Int)] m).point a2 (J : Int)).l.drop 2)) from by
          rw [form8_eq, if_pos (by rw [HT.out.1, HT.out.2.1]; exact ⟨rfl, rfl⟩), HFF.out, HT.out.1, HT.out.2.1, HT.out.2.2, ← hJ, drop_two]; rfl)
        clear k1 hcells hfro hput hy hin hL hHL hlow hL7 hH7 hJ
        go_wp2_with fail
        go_region
        obtain ⟨w8, hw8⟩ : ∃ w8, (w7.setCell ⟨g0, a2, none⟩ (.int .i64 (J : Int))).drew = w8 := ⟨_, rfl⟩
        have HA8 := Lib.hid (HP.out w8 hw8).1
        have HS8 := Lib.hid (HP.out w8 hw8).2
        rw [hw8]
        clear hw8 c0 c1 dA1 d3 d4 u0 u1 HP
        have HFM := Lib.hid (show form 8 m = (0, ((layN [3, (b2 : Int)] m).point a2 (J : Int)).held (((layN [3, (b2 : Int)] m).point a2 (J : Int)).l.drop 2)) from HFT.out)
        obtain ⟨r, hr⟩ : ∃ r, m.l.length = r := ⟨_, rfl⟩
        have hr0 : 0 < r := by
          rw [← hr]
          have h1 := HT.out.1
          cases hl : m.l with
          | nil => unfold M.top at h1; rw [hl] at h1; simp at h1
          | cons _ _ => exact Nat.succ_pos _
        have hrl := HLL.out
        have hr2 := HL2.out
        rw [hr] at hr2
        rw [hr] at hrl
        obtain ⟨j, hj⟩ : ∃ j, r - 2 = j := ⟨_, rfl⟩
        obtain ⟨g, cap, c2, f2, hcap, hA8, hS8⟩ := drop_world HA8.out 2 (by show 2 ≤ m.l.length; exact HL2.out) (by show 0 < m.l.length; omega)
        rw [show ((layN [3, (b2 : Int)] m).point a2 (J : Int)).l.length = r from hr] at c2 hcap hA8 hS8
        rw [hj] at hA8 hS8
        have HR := Lib.hid (show ∀ w9, (w8.setCell ⟨p, 2, none⟩ (.slice (some ⟨g, 0, none⟩) j cap)).drew = w9 → RDid w B p bs (.int .i64 0) (((layN [3, (b2 : Int)] m).point a2 (J : Int)).held (((layN [3, (b2 : Int)] m).point a2 (J : Int)).l.drop 2)) (.returned (.int .i64 0)) w9 from fun w9 h9 => by
          rw [← h9]
          exact ⟨rfl, bs, hA8.touch (Stirred.drew _ []) (fun _ _ => List.not_mem_nil), (HS8.out.trans hS8 (fun k hk => .inl hk)).trans (Stirred.drew _ bs) (fun k hk => .inl hk), fun k hk => .inl hk⟩)
        have z2 : (r : Int) - 2 = (j : Int) := by omega
        have z3 : (0 : Int) ≤ (j : Int) := by omega
        have z6 : j ≤ cap := by omega
        have z5 : (j : Int) ≤ (cap : Int) := by omega
        have z7 : (r : Int) ≤ 1000 := by omega
        have z8 : IntKind.i64.wrap ((r : Int) - 2) = (r : Int) - 2 := IntWalk.i64_in _ (by omega)
        have z9 : IntKind.i64.wrap (j : Int) = (j : Int) := IntWalk.i64_in _ (by omega)
        clear hr hr0 hrl hj hcap hA8 hS8
        go_wp2_with fail
        go_region
        go_wp2
        go_ret
        rw [HFM.out]
        exact HR.out _ rfl
    · have y1 : ¬ (b1 : Int) = 3 := by omega
      have y2 : ((b1 : Int) == 3) = false := by simpa using y1
      have y3 : ((b1 : Int) != 3) = true := by simpa using y1
      have HN := Lib.hid (show form 8 m = (-22, m) from by rw [form8_eq, if_neg (by rw [HT.out.1, HT.out.2.1]; intro hh; exact hk (hh.2))])
      clear hk
      go_wp2
      go_ret
      rw [HN.out]
      exact ⟨rfl, bs, HF.out.way, Stirred.of_below HF.out.below bs, fun k hk => .inl hk⟩
  · have y1 : ¬ (a1 : Int) = 4 := by omega
    have y2 : ((a1 : Int) == 4) = false := by simpa using y1
    have y3 : ((a1 : Int) != 4) = true := by simpa using y1
    have HN := Lib.hid (show form 8 m = (-22, m) from by rw [form8_eq, if_neg (by rw [HT.out.1, HT.out.2.1]; intro hh; exact hk (hh.1))])
    clear hk
    go_wp2
    go_ret
    rw [HN.out]
    exact ⟨rfl, bs, HF.out.way, Stirred.of_below HF.out.below bs, fun k hk => .inl hk⟩
end
end Go.Proofs.YtcpdhfigaoaohaaDoor.WvR
