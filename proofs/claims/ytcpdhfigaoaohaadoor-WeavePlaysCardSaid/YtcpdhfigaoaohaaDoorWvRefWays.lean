
/- The document's own weave: its words of control, one way a word. -/
import Derived.Test.YtcpdhfigaoaohaaDoorWvRefForm
import Derived.Deep.RegionWith
namespace Go.Proofs.YtcpdhfigaoaohaaDoor.WvR
open Go.RowKit Book Book.Wide Mem Wv
set_option linter.unusedSimpArgs false
set_option linter.unusedVariables false
set_option maxRecDepth 100000
theorem size_alloc (w : World) (o : Obj) : (w.alloc o).heap.size = w.heap.size + 1 := by first | exact Array.size_push _ | simp [World.alloc]
theorem open_box (w : World) (a b : Nat) : ∃ w1 g, w.alloc (.cells #[.int .i64 (a : Int), .int .i64 (b : Int)] 62) = w1 ∧ w.heap.size = g ∧ w1.heap[g]? = some (.cells #[.int .i64 (a : Int), .int .i64 (b : Int)] 62 (0, 0)) ∧ Below w.heap.size w w1 :=
  ⟨_, _, rfl, rfl, heap_alloc_new w _, (Below.refl w.heap.size w).alloc (Nat.le_refl _) _⟩
/-- what stands behind the first rows of Form: the weave, and what is open -/
structure Fr (w w5 : World) (B p ga gb : Nat) (bs : List Nat) (m : M) (a b : Nat × Nat) : Prop where
  way : RAt w5 B p bs m
  boxa : w5.heap[ga]? = some (.cells #[.int .i64 (a.1 : Int), .int .i64 (a.2 : Int)] 62 (0, 0))
  boxb : w5.heap[gb]? = some (.cells #[.int .i64 (b.1 : Int), .int .i64 (b.2 : Int)] 62 (0, 0))
  below : Below w.heap.size w w5
  na : ga ∉ bs
  nb : gb ∉ bs
theorem Fr.next {w w5 w6 : World} {B p ga gb : Nat} {bs : List Nat} {m : M} {a b : Nat × Nat} (h : Fr w w5 B p ga gb bs m a b) (hb : Below w5.heap.size w5 w6) : Fr w w6 B p ga gb bs m a b :=
  ⟨h.way.below hb, (Stirred.of_below hb []).whole h.boxa List.not_mem_nil, (Stirred.of_below hb []).whole h.boxb List.not_mem_nil, h.below.trans (hb.mono h.below.size), h.na, h.nb⟩
theorem rdid_after {w w7 w' : World} {B p : Nat} {bs : List Nat} {v : Value} {m' : M} {e : Ending} (hS : Stirred w w7 bs) (h : RDid w7 B p bs v m' e w') : RDid w B p bs v m' e w' := by
  obtain ⟨he, bs', h1, h2, h3⟩ := h
  exact ⟨he, bs', h1, hS.trans h2 (fun k hk => .inl hk), fun k hk => (h3 k hk).imp id (fun hk => Nat.le_trans hS.size hk)⟩
theorem form7_eq (m : M) : form 7 m = if m.top.1 = 3 then (if m.fits 2 then (0, (m.two 4 0).held ((4, m.here + 1) :: m.l)) else (-8, m)) else (-22, m) := rfl
theorem form5_eq (m : M) : form 5 m = if m.top.1 = 3 then (if m.fits 2 then (0, (m.two 4 m.top.2).held m.l.tail) else (-8, m)) else (-22, m) := rfl
theorem form6_eq (m : M) : form 6 m = if m.top.1 = 3 then (if m.fits 2 then (0, (m.two 3 m.top.2).held m.l.tail) else (-8, m)) else (-22, m) := rfl
theorem form10_eq (m : M) : form 10 m = if m.top.1 = 5 then (if m.fits 2 then (0, (m.two 37 m.top.2).held m.l.tail) else (-8, m)) else (-22, m) := rfl
theorem form11_eq (m : M) : form 11 m = if m.top.1 = 5 then (if m.fits 2 then (0, (m.two 38 m.top.2).held m.l.tail) else (-8, m)) else (-22, m) := rfl
section
variable {w : World} {B p : Nat} {bs : List Nat} {m : M}
set_option maxHeartbeats 8000000 in
theorem rform1 (h : RAt w B p bs m) (hB : B ≤ w.heap.size) (s : ByteArray) (hs : s.size ≤ 1000) (hl : m.l.length < 1000) (hu : up s = ⟨#[73, 70]⟩) : Calls Tryd.prog 15 #[.pointer (some ⟨p, 0, none⟩), .string s] w (RDid w B p bs (.int .i64 (form 1 m).1) (form 1 m).2) := by
  obtain ⟨i0, q1, q2, q3, q4⟩ := info_parts openInfo
  have HI := Lib.hid (And.intro q1 (And.intro q2 (And.intro q3 q4)))
  clear q1 q2 q3 q4
  have C := Lib.hid (rtop_any h)
  have HA := Lib.hid h
  have HBW := Lib.hid hB
  obtain ⟨⟨a1, a2⟩, hta⟩ : ∃ x, m.top = x := ⟨_, rfl⟩
  obtain ⟨⟨b1, b2⟩, htb⟩ : ∃ x, m.under = x := ⟨_, rfl⟩
  obtain ⟨H, hH⟩ : ∃ H, m.here = H := ⟨_, rfl⟩
  have hH9 : H ≤ 1000 := by have h1 := h.fine.here; have h2 := h.most; omega
  rw [hta] at C
  have HT := Lib.hid (And.intro hta (And.intro htb hH))
  have HS := Lib.hid hs
  have HU := Lib.hid hu
  have HLL := Lib.hid hl
  clear h hs hu hB hl hta hH
  go_enter Tryd.func15, Tryd.ntmps15
  go_wp2_with fail
  refine C.out.mono ?_
  rintro e w1 ⟨rfl, hb1⟩
  have D := Lib.hid (runder_any (HA.out.below hb1))
  rw [htb] at D
  have HB1 := Lib.hid hb1
  clear C hb1 htb
  go_wp2_with fail
  refine D.out.mono ?_
  rintro e w2 ⟨rfl, hb2⟩
  have hb02 := HB1.out.trans (hb2.mono HB1.out.size)
  obtain ⟨w3, ga, hw3, hga, hn3, hb3⟩ := open_box w2 a1 a2
  obtain ⟨w4, gb, hw4, hgb, hn4, hb4⟩ := open_box w3 b1 b2
  have hz3 : w3.heap.size = w2.heap.size + 1 := by rw [← hw3]; exact size_alloc _ _
  rw [hgb] at hz3
  have hb03 := hb02.trans (hb3.mono hb02.size)
  have hb04 := hb03.trans (hb4.mono hb03.size)
  have HF4 := Lib.hid (show Fr w w4 B p ga gb bs m (a1, a2) (b1, b2) from ⟨HA.out.below hb04, (Stirred.of_below hb4 []).whole hn3 List.not_mem_nil, hn4, hb04,
    fun hk => by have h1 := (HA.out.lt _ hk).2; have h2 := hb02.size; omega, fun hk => by have h1 := (HA.out.lt _ hk).2; have h2 := hb03.size; omega⟩)
  obtain ⟨vm4, vo4, bx4, bx5⟩ := HF4.out.way.box
  rw [HT.out.2.2] at bx4
  have c1 : w4.cell? ⟨p, 1, none⟩ = some (.int .i64 (H : Int)) := whole_cell bx4 rfl
  have G := Lib.hid (great_up s (by have := HS.out; omega) w4)
  rw [HU.out] at G
  clear D hb2 hb02 hn3 hn4 hb3 hb4 hb03 hb04 bx4 bx5 hgb
  subst hw4 hw3
  have HG := Lib.hid (And.intro hga hz3)
  clear hga hz3
  go_wp2_with fail
  refine G.out.mono ?_
  rintro e w5 ⟨rfl, hb5⟩
  have HF := Lib.hid (HF4.out.next hb5)
  clear G hb5 HF4 c1
  rw [← HG.out.2, HG.out.1]
  clear HG
  obtain ⟨w6, gl, hw6, hgl, hg6, hb6⟩ := lit_box w5 [4, 0]
  have HB6 := Lib.hid hb6
  have E0 := Lib.hid (rlay_any (HF.out.way.below hb6) [4, 0] gl 2 rfl hg6 (by rw [← hgl]; exact HF.out.way.old) (by decide))
  have hw6 : w5.alloc (.cells #[.int .i64 (4), .int .i64 (0)] 3) = w6 := hw6
  clear hb6 hg6
  cases hf : m.fits 2
  · have HFF := Lib.hid hf
    have E := Lib.hid E0.out
    rw [hf] at E
    clear hf E0
    go_wp2_with fail
    refine E.out.mono ?_
    rintro e w7 ⟨rfl, hA, hS⟩
    have hS7 := ((Stirred.of_below HF.out.below bs).trans (Stirred.of_below HB6.out bs) (fun k hk => .inl hk)).trans hS (fun k hk => .inl hk)
    have HR := Lib.hid (show RDid w B p bs (.int .i64 (-8)) m (.returned (.int .i64 (-8))) w7 from ⟨rfl, bs, (show RAt w7 B p bs m from hA), hS7, fun k hk => .inl hk⟩)
    clear E hA hS hS7
    go_wp2
    go_ret
    rw [show form 1 m = (-8, m) from by unfold form; rw [HFF.out]; rfl]
    exact HR.out
  · have HFF := Lib.hid hf
    have E := Lib.hid E0.out
    rw [hf] at E
    clear hf E0
    go_wp2_with fail
    refine E.out.mono ?_
    rintro e w7 ⟨rfl, hA, hS⟩
    have HA7 := Lib.hid (show RAt w7 B p bs (layN [4, 0] m) from hA)
    have HS57 := Lib.hid ((Stirred.of_below HB6.out bs).trans hS (fun k hk => .inl hk))
    have HS7 := Lib.hid (((Stirred.of_below HF.out.below bs).trans (Stirred.of_below HB6.out bs) (fun k hk => .inl hk)).trans hS (fun k hk => .inl hk))
    clear E hA hS hw6 hgl
    have HFM := Lib.hid (show form 1 m = (0, (layN [4, 0] m).push 1 (H + 1)) from by unfold form; rw [HFF.out, HT.out.2.2]; rfl)
    have hfine : Fine ((layN [4, 0] m).push 1 (H + 1)) := by
      have := (form_kin 1 HA.out.fine).fine
      rw [HFM.out] at this
      exact this
    obtain ⟨r, hr⟩ : ∃ r, m.l.length = r := ⟨_, rfl⟩
    have hrl := HLL.out
    rw [hr] at hrl
    obtain ⟨vo, vc, c2, hpush⟩ := push_world HA7.out (Nat.le_trans HBW.out HS7.out.size) 1 (H + 1) hfine (by show m.l.length < 1000; exact HLL.out)
    obtain ⟨b, hbz⟩ : ∃ b, w7.heap.size = b := ⟨_, rfl⟩
    obtain ⟨w8, hw8⟩ : ∃ w8, w7.alloc (.cells #[.int .i64 ((1 : Nat) : Int), .int .i64 ((H + 1 : Nat) : Int)] 62) = w8 := ⟨_, rfl⟩
    obtain ⟨c2', hRD, hO8, hB8, hb8, hlast⟩ := hpush w8 b hw8 hbz
    rw [show (layN [4, 0] m).l.length = r from hr] at c2 c2' hO8 hlast
    have HRD := Lib.hid hRD
    have HO8 := Lib.hid hO8
    have HB8 := Lib.hid hB8
    have HLT := Lib.hid hlast
    have HLN := Lib.hid (show (openCells m.l).length = r * 2 by rw [open_len, hr])
    have hw8 : w7.alloc (.cells #[.int .i64 1, .int .i64 ((H : Int) + 1)] 62) = w8 := hw8
    have z8 : IntKind.i64.wrap ((H : Int) + 1) = (H : Int) + 1 := IntWalk.i64_in _ (by omega)
    clear hpush hRD hO8 hB8 hb8 hlast hfine hr
    go_wp2_with (refine Wide.wpList_append_reads rfl _ _ 47 rfl B 62 2 i0 (.agg #[.int .i64 0, .int .i64 0]) 16 Tryd.underlying47 HI.out.1 HI.out.2.1 HI.out.2.2.1 HI.out.2.2.2 rfl (by decide) _ r (openCells m.l) rfl HO8.out HLN.out (.slice (some ⟨b, 0, none⟩) 1 1) 1 [.int .i64 ((1 : Nat) : Int), .int .i64 ((H + 1 : Nat) : Int)] rfl HRD.out rfl ?c0 ?c1 ?c2 HB8.out ?_)
    case c0 => intro u hu; simp only [List.mem_cons, List.not_mem_nil, or_false] at hu; rcases hu with rfl | rfl <;> rfl
    case c1 => unfold maxLen; omega
    case c2 => omega
    intro v' w9 hO _ hS hN
    obtain ⟨so, sc, old, hv', t1, t2, hR⟩ := HLT.out v' w9 hO hS hN
    subst hv'
    have HR := Lib.hid (rdid_after HS7.out hR)
    clear hO hS hN hR c2 c2'
    go_wp2
    go_ret
    rw [HFM.out]
    exact HR.out
set_option maxHeartbeats 8000000 in
theorem rform4 (h : RAt w B p bs m) (hB : B ≤ w.heap.size) (s : ByteArray) (hs : s.size ≤ 1000) (hl : m.l.length < 1000) (hu : up s = ⟨#[66, 69, 71, 73, 78]⟩) : Calls Tryd.prog 15 #[.pointer (some ⟨p, 0, none⟩), .string s] w (RDid w B p bs (.int .i64 (form 4 m).1) (form 4 m).2) := by
  obtain ⟨i0, q1, q2, q3, q4⟩ := info_parts openInfo
  have HI := Lib.hid (And.intro q1 (And.intro q2 (And.intro q3 q4)))
  clear q1 q2 q3 q4
  have C := Lib.hid (rtop_any h)
  have HA := Lib.hid h
  have HBW := Lib.hid hB
  obtain ⟨⟨a1, a2⟩, hta⟩ : ∃ x, m.top = x := ⟨_, rfl⟩
  obtain ⟨⟨b1, b2⟩, htb⟩ : ∃ x, m.under = x := ⟨_, rfl⟩
  obtain ⟨H, hH⟩ : ∃ H, m.here = H := ⟨_, rfl⟩
  have hH9 : H ≤ 1000 := by have h1 := h.fine.here; have h2 := h.most; omega
  rw [hta] at C
  have HT := Lib.hid (And.intro hta (And.intro htb hH))
  have HS := Lib.hid hs
  have HU := Lib.hid hu
  have HLL := Lib.hid hl
  clear h hs hu hB hl hta hH
  go_enter Tryd.func15, Tryd.ntmps15
  go_wp2_with fail
  refine C.out.mono ?_
  rintro e w1 ⟨rfl, hb1⟩
  have D := Lib.hid (runder_any (HA.out.below hb1))
  rw [htb] at D
  have HB1 := Lib.hid hb1
  clear C hb1 htb
  go_wp2_with fail
  refine D.out.mono ?_
  rintro e w2 ⟨rfl, hb2⟩
  have hb02 := HB1.out.trans (hb2.mono HB1.out.size)
  obtain ⟨w3, ga, hw3, hga, hn3, hb3⟩ := open_box w2 a1 a2
  obtain ⟨w4, gb, hw4, hgb, hn4, hb4⟩ := open_box w3 b1 b2
  have hz3 : w3.heap.size = w2.heap.size + 1 := by rw [← hw3]; exact size_alloc _ _
  rw [hgb] at hz3
  have hb03 := hb02.trans (hb3.mono hb02.size)
  have hb04 := hb03.trans (hb4.mono hb03.size)
  have HF4 := Lib.hid (show Fr w w4 B p ga gb bs m (a1, a2) (b1, b2) from ⟨HA.out.below hb04, (Stirred.of_below hb4 []).whole hn3 List.not_mem_nil, hn4, hb04,
    fun hk => by have h1 := (HA.out.lt _ hk).2; have h2 := hb02.size; omega, fun hk => by have h1 := (HA.out.lt _ hk).2; have h2 := hb03.size; omega⟩)
  obtain ⟨vm4, vo4, bx4, bx5⟩ := HF4.out.way.box
  rw [HT.out.2.2] at bx4
  have c1 : w4.cell? ⟨p, 1, none⟩ = some (.int .i64 (H : Int)) := whole_cell bx4 rfl
  have G := Lib.hid (great_up s (by have := HS.out; omega) w4)
  rw [HU.out] at G
  clear D hb2 hb02 hn3 hn4 hb3 hb4 hb03 hb04 bx4 bx5 hgb
  subst hw4 hw3
  have HG := Lib.hid (And.intro hga hz3)
  clear hga hz3
  go_wp2_with fail
  refine G.out.mono ?_
  rintro e w5 ⟨rfl, hb5⟩
  have HF := Lib.hid (HF4.out.next hb5)
  clear G hb5 HF4 c1
  rw [← HG.out.2, HG.out.1]
  clear HG
  have HS5 := Lib.hid (Stirred.of_below HF.out.below bs)
  have HFM := Lib.hid (show form 4 m = (0, (m).push 3 (H)) from by unfold form; rw [HT.out.2.2]; rfl)
  have hfine : Fine ((m).push 3 (H)) := by
    have := (form_kin 4 HA.out.fine).fine
    rw [HFM.out] at this
    exact this
  obtain ⟨r, hr⟩ : ∃ r, m.l.length = r := ⟨_, rfl⟩
  have hrl := HLL.out
  rw [hr] at hrl
  obtain ⟨vo, vc, c2, hpush⟩ := push_world HF.out.way (Nat.le_trans HBW.out HS5.out.size) 3 (H) hfine (by show m.l.length < 1000; exact HLL.out)
  obtain ⟨b, hbz⟩ : ∃ b, w5.heap.size = b := ⟨_, rfl⟩
  obtain ⟨w8, hw8⟩ : ∃ w8, w5.alloc (.cells #[.int .i64 ((3 : Nat) : Int), .int .i64 ((H : Nat) : Int)] 62) = w8 := ⟨_, rfl⟩
  obtain ⟨c2', hRD, hO8, hB8, hb8, hlast⟩ := hpush w8 b hw8 hbz
  rw [show (m).l.length = r from hr] at c2 c2' hO8 hlast
  have HRD := Lib.hid hRD
  have HO8 := Lib.hid hO8
  have HB8 := Lib.hid hB8
  have HLT := Lib.hid hlast
  have HLN := Lib.hid (show (openCells m.l).length = r * 2 by rw [open_len, hr])
  have hw8 : w5.alloc (.cells #[.int .i64 3, .int .i64 ((H : Int))] 62) = w8 := hw8
  have z8 : IntKind.i64.wrap ((H : Int) + 1) = (H : Int) + 1 := IntWalk.i64_in _ (by omega)
  clear hpush hRD hO8 hB8 hb8 hlast hfine hr
  go_wp2_with (refine Wide.wpList_append_reads rfl _ _ 47 rfl B 62 2 i0 (.agg #[.int .i64 0, .int .i64 0]) 16 Tryd.underlying47 HI.out.1 HI.out.2.1 HI.out.2.2.1 HI.out.2.2.2 rfl (by decide) _ r (openCells m.l) rfl HO8.out HLN.out (.slice (some ⟨b, 0, none⟩) 1 1) 1 [.int .i64 ((3 : Nat) : Int), .int .i64 ((H : Nat) : Int)] rfl HRD.out rfl ?c0 ?c1 ?c2 HB8.out ?_)
  case c0 => intro u hu; simp only [List.mem_cons, List.not_mem_nil, or_false] at hu; rcases hu with rfl | rfl <;> rfl
  case c1 => unfold maxLen; omega
  case c2 => omega
  intro v' w9 hO _ hS hN
  obtain ⟨so, sc, old, hv', t1, t2, hR⟩ := HLT.out v' w9 hO hS hN
  subst hv'
  have HR := Lib.hid (rdid_after HS5.out hR)
  clear hO hS hN hR c2 c2'
  go_wp2
  go_ret
  rw [HFM.out]
  exact HR.out
set_option maxHeartbeats 8000000 in
theorem rform7 (h : RAt w B p bs m) (hB : B ≤ w.heap.size) (s : ByteArray) (hs : s.size ≤ 1000) (hl : m.l.length < 1000) (hu : up s = ⟨#[87, 72, 73, 76, 69]⟩) : Calls Tryd.prog 15 #[.pointer (some ⟨p, 0, none⟩), .string s] w (RDid w B p bs (.int .i64 (form 7 m).1) (form 7 m).2) := by
  obtain ⟨i0, q1, q2, q3, q4⟩ := info_parts openInfo
  have HI := Lib.hid (And.intro q1 (And.intro q2 (And.intro q3 q4)))
  clear q1 q2 q3 q4
  have C := Lib.hid (rtop_any h)
  have HA := Lib.hid h
  have HBW := Lib.hid hB
  obtain ⟨⟨a1, a2⟩, hta⟩ : ∃ x, m.top = x := ⟨_, rfl⟩
  obtain ⟨⟨b1, b2⟩, htb⟩ : ∃ x, m.under = x := ⟨_, rfl⟩
  obtain ⟨H, hH⟩ : ∃ H, m.here = H := ⟨_, rfl⟩
  have hH9 : H ≤ 1000 := by have h1 := h.fine.here; have h2 := h.most; omega
  rw [hta] at C
  have HT := Lib.hid (And.intro hta (And.intro htb hH))
  have HS := Lib.hid hs
  have HU := Lib.hid hu
  have HLL := Lib.hid hl
  clear h hs hu hB hl hta hH
  go_enter Tryd.func15, Tryd.ntmps15
  go_wp2_with fail
  refine C.out.mono ?_
  rintro e w1 ⟨rfl, hb1⟩
  have D := Lib.hid (runder_any (HA.out.below hb1))
  rw [htb] at D
  have HB1 := Lib.hid hb1
  clear C hb1 htb
  go_wp2_with fail
  refine D.out.mono ?_
  rintro e w2 ⟨rfl, hb2⟩
  have hb02 := HB1.out.trans (hb2.mono HB1.out.size)
  obtain ⟨w3, ga, hw3, hga, hn3, hb3⟩ := open_box w2 a1 a2
  obtain ⟨w4, gb, hw4, hgb, hn4, hb4⟩ := open_box w3 b1 b2
  have hz3 : w3.heap.size = w2.heap.size + 1 := by rw [← hw3]; exact size_alloc _ _
  rw [hgb] at hz3
  have hb03 := hb02.trans (hb3.mono hb02.size)
  have hb04 := hb03.trans (hb4.mono hb03.size)
  have HF4 := Lib.hid (show Fr w w4 B p ga gb bs m (a1, a2) (b1, b2) from ⟨HA.out.below hb04, (Stirred.of_below hb4 []).whole hn3 List.not_mem_nil, hn4, hb04,
    fun hk => by have h1 := (HA.out.lt _ hk).2; have h2 := hb02.size; omega, fun hk => by have h1 := (HA.out.lt _ hk).2; have h2 := hb03.size; omega⟩)
  obtain ⟨vm4, vo4, bx4, bx5⟩ := HF4.out.way.box
  rw [HT.out.2.2] at bx4
  have c1 : w4.cell? ⟨p, 1, none⟩ = some (.int .i64 (H : Int)) := whole_cell bx4 rfl
  have G := Lib.hid (great_up s (by have := HS.out; omega) w4)
  rw [HU.out] at G
  clear D hb2 hb02 hn3 hn4 hb3 hb4 hb03 hb04 bx4 bx5 hgb
  subst hw4 hw3
  have HG := Lib.hid (And.intro hga hz3)
  clear hga hz3
  go_wp2_with fail
  refine G.out.mono ?_
  rintro e w5 ⟨rfl, hb5⟩
  have HF := Lib.hid (HF4.out.next hb5)
  clear G hb5 HF4 c1
  rw [← HG.out.2, HG.out.1]
  clear HG
  have dA : w5.cell? ⟨ga, 0, none⟩ = some (.int .i64 (a1 : Int)) := whole_cell HF.out.boxa rfl
  by_cases hk : a1 = 3
  · have HK := Lib.hid hk
    subst hk
    obtain ⟨w6, gl, hw6, hgl, hg6, hb6⟩ := lit_box w5 [4, 0]
    have HB6 := Lib.hid hb6
    have E0 := Lib.hid (rlay_any (HF.out.way.below hb6) [4, 0] gl 2 rfl hg6 (by rw [← hgl]; exact HF.out.way.old) (by decide))
    have hw6 : w5.alloc (.cells #[.int .i64 (4), .int .i64 (0)] 3) = w6 := hw6
    clear hb6 hg6
    cases hf : m.fits 2
    · have HFF := Lib.hid hf
      have E := Lib.hid E0.out
      rw [hf] at E
      clear hf E0
      go_wp2_with fail
      refine E.out.mono ?_
      rintro e w7 ⟨rfl, hA, hS⟩
      have hS7 := ((Stirred.of_below HF.out.below bs).trans (Stirred.of_below HB6.out bs) (fun k hk => .inl hk)).trans hS (fun k hk => .inl hk)
      have HR := Lib.hid (show RDid w B p bs (.int .i64 (-8)) m (.returned (.int .i64 (-8))) w7 from ⟨rfl, bs, (show RAt w7 B p bs m from hA), hS7, fun k hk => .inl hk⟩)
      clear E hA hS hS7
      go_wp2
      go_ret
      rw [show form 7 m = (-8, m) from by rw [form7_eq, if_pos (by rw [HT.out.1]), HFF.out]; rfl]
      exact HR.out
    · have HFF := Lib.hid hf
      have E := Lib.hid E0.out
      rw [hf] at E
      clear hf E0
      go_wp2_with fail
      refine E.out.mono ?_
      rintro e w7 ⟨rfl, hA, hS⟩
      have HA7 := Lib.hid (show RAt w7 B p bs (layN [4, 0] m) from hA)
      have HS57 := Lib.hid ((Stirred.of_below HB6.out bs).trans hS (fun k hk => .inl hk))
      have HS7 := Lib.hid (((Stirred.of_below HF.out.below bs).trans (Stirred.of_below HB6.out bs) (fun k hk => .inl hk)).trans hS (fun k hk => .inl hk))
      clear E hA hS hw6 hgl
      have HFM := Lib.hid (show form 7 m = (0, (layN [4, 0] m).push 4 (H + 1)) from by rw [form7_eq, if_pos (by rw [HT.out.1]), HFF.out, HT.out.2.2]; rfl)
      have hfine : Fine ((layN [4, 0] m).push 4 (H + 1)) := by
        have := (form_kin 7 HA.out.fine).fine
        rw [HFM.out] at this
        exact this
      obtain ⟨r, hr⟩ : ∃ r, m.l.length = r := ⟨_, rfl⟩
      have hrl := HLL.out
      rw [hr] at hrl
      obtain ⟨vo, vc, c2, hpush⟩ := push_world HA7.out (Nat.le_trans HBW.out HS7.out.size) 4 (H + 1) hfine (by show m.l.length < 1000; exact HLL.out)
      obtain ⟨b, hbz⟩ : ∃ b, w7.heap.size = b := ⟨_, rfl⟩
      obtain ⟨w8, hw8⟩ : ∃ w8, w7.alloc (.cells #[.int .i64 ((4 : Nat) : Int), .int .i64 ((H + 1 : Nat) : Int)] 62) = w8 := ⟨_, rfl⟩
      obtain ⟨c2', hRD, hO8, hB8, hb8, hlast⟩ := hpush w8 b hw8 hbz
      rw [show (layN [4, 0] m).l.length = r from hr] at c2 c2' hO8 hlast
      have HRD := Lib.hid hRD
      have HO8 := Lib.hid hO8
      have HB8 := Lib.hid hB8
      have HLT := Lib.hid hlast
      have HLN := Lib.hid (show (openCells m.l).length = r * 2 by rw [open_len, hr])
      have hw8 : w7.alloc (.cells #[.int .i64 4, .int .i64 ((H : Int) + 1)] 62) = w8 := hw8
      have z8 : IntKind.i64.wrap ((H : Int) + 1) = (H : Int) + 1 := IntWalk.i64_in _ (by omega)
      clear hpush hRD hO8 hB8 hb8 hlast hfine hr
      go_wp2_with (refine Wide.wpList_append_reads rfl _ _ 47 rfl B 62 2 i0 (.agg #[.int .i64 0, .int .i64 0]) 16 Tryd.underlying47 HI.out.1 HI.out.2.1 HI.out.2.2.1 HI.out.2.2.2 rfl (by decide) _ r (openCells m.l) rfl HO8.out HLN.out (.slice (some ⟨b, 0, none⟩) 1 1) 1 [.int .i64 ((4 : Nat) : Int), .int .i64 ((H + 1 : Nat) : Int)] rfl HRD.out rfl ?c0 ?c1 ?c2 HB8.out ?_)
      case c0 => intro u hu; simp only [List.mem_cons, List.not_mem_nil, or_false] at hu; rcases hu with rfl | rfl <;> rfl
      case c1 => unfold maxLen; omega
      case c2 => omega
      intro v' w9 hO _ hS hN
      obtain ⟨so, sc, old, hv', t1, t2, hR⟩ := HLT.out v' w9 hO hS hN
      subst hv'
      have HR := Lib.hid (rdid_after HS7.out hR)
      clear hO hS hN hR c2 c2'
      go_wp2
      go_ret
      rw [HFM.out]
      exact HR.out
  · have y1 : ¬ (a1 : Int) = 3 := by omega
    have y2 : ((a1 : Int) == 3) = false := by simpa using y1
    have HN := Lib.hid (show form 7 m = (-22, m) from by rw [form7_eq, if_neg (by rw [HT.out.1]; exact hk)])
    clear hk
    go_wp2
    go_ret
    rw [HN.out]
    exact ⟨rfl, bs, HF.out.way, Stirred.of_below HF.out.below bs, fun k hk => .inl hk⟩
set_option maxHeartbeats 8000000 in
theorem rform5 (h : RAt w B p bs m) (hB : B ≤ w.heap.size) (s : ByteArray) (hs : s.size ≤ 1000) (hl : m.l.length < 1000) (hu : up s = ⟨#[85, 78, 84, 73, 76]⟩) : Calls Tryd.prog 15 #[.pointer (some ⟨p, 0, none⟩), .string s] w (RDid w B p bs (.int .i64 (form 5 m).1) (form 5 m).2) := by
  obtain ⟨i0, q1, q2, q3, q4⟩ := info_parts openInfo
  have HI := Lib.hid (And.intro q1 (And.intro q2 (And.intro q3 q4)))
  clear q1 q2 q3 q4
  have C := Lib.hid (rtop_any h)
  have HA := Lib.hid h
  have HBW := Lib.hid hB
  obtain ⟨⟨a1, a2⟩, hta⟩ : ∃ x, m.top = x := ⟨_, rfl⟩
  obtain ⟨⟨b1, b2⟩, htb⟩ : ∃ x, m.under = x := ⟨_, rfl⟩
  obtain ⟨H, hH⟩ : ∃ H, m.here = H := ⟨_, rfl⟩
  have hH9 : H ≤ 1000 := by have h1 := h.fine.here; have h2 := h.most; omega
  rw [hta] at C
  have HT := Lib.hid (And.intro hta (And.intro htb hH))
  have HS := Lib.hid hs
  have HU := Lib.hid hu
  have HLL := Lib.hid hl
  clear h hs hu hB hl hta hH
  go_enter Tryd.func15, Tryd.ntmps15
  go_wp2_with fail
  refine C.out.mono ?_
  rintro e w1 ⟨rfl, hb1⟩
  have D := Lib.hid (runder_any (HA.out.below hb1))
  rw [htb] at D
  have HB1 := Lib.hid hb1
  clear C hb1 htb
  go_wp2_with fail
  refine D.out.mono ?_
  rintro e w2 ⟨rfl, hb2⟩
  have hb02 := HB1.out.trans (hb2.mono HB1.out.size)
  obtain ⟨w3, ga, hw3, hga, hn3, hb3⟩ := open_box w2 a1 a2
  obtain ⟨w4, gb, hw4, hgb, hn4, hb4⟩ := open_box w3 b1 b2
  have hz3 : w3.heap.size = w2.heap.size + 1 := by rw [← hw3]; exact size_alloc _ _
  rw [hgb] at hz3
  have hb03 := hb02.trans (hb3.mono hb02.size)
  have hb04 := hb03.trans (hb4.mono hb03.size)
  have HF4 := Lib.hid (show Fr w w4 B p ga gb bs m (a1, a2) (b1, b2) from ⟨HA.out.below hb04, (Stirred.of_below hb4 []).whole hn3 List.not_mem_nil, hn4, hb04,
    fun hk => by have h1 := (HA.out.lt _ hk).2; have h2 := hb02.size; omega, fun hk => by have h1 := (HA.out.lt _ hk).2; have h2 := hb03.size; omega⟩)
  obtain ⟨vm4, vo4, bx4, bx5⟩ := HF4.out.way.box
  rw [HT.out.2.2] at bx4
  have c1 : w4.cell? ⟨p, 1, none⟩ = some (.int .i64 (H : Int)) := whole_cell bx4 rfl
  have G := Lib.hid (great_up s (by have := HS.out; omega) w4)
  rw [HU.out] at G
  clear D hb2 hb02 hn3 hn4 hb3 hb4 hb03 hb04 bx4 bx5 hgb
  subst hw4 hw3
  have HG := Lib.hid (And.intro hga hz3)
  clear hga hz3
  go_wp2_with fail
  refine G.out.mono ?_
  rintro e w5 ⟨rfl, hb5⟩
  have HF := Lib.hid (HF4.out.next hb5)
  clear G hb5 HF4 c1
  rw [← HG.out.2, HG.out.1]
  clear HG
  have dA : w5.cell? ⟨ga, 0, none⟩ = some (.int .i64 (a1 : Int)) := whole_cell HF.out.boxa rfl
  by_cases hk : a1 = 3
  · have HK := Lib.hid hk
    subst hk
    have dA1 : w5.cell? ⟨ga, 1, none⟩ = some (.int .i64 (a2 : Int)) := whole_cell HF.out.boxa rfl
    have G := Lib.hid (great_up s (by have := HS.out; omega) w5)
    rw [HU.out] at G
    have HF0 := Lib.hid HF.out
    clear dA1
    go_wp2_with fail
    refine G.out.mono ?_
    rintro e w5 ⟨rfl, hb5⟩
    have HF := Lib.hid (HF0.out.next hb5)
    have dA1 : w5.cell? ⟨ga, 1, none⟩ = some (.int .i64 (a2 : Int)) := whole_cell HF.out.boxa rfl
    clear G hb5 HF0 dA
    obtain ⟨w6, gl, hw6, hgl, hg6, hb6⟩ := lit_box w5 [4, (a2 : Int)]
    have HB6 := Lib.hid hb6
    have E0 := Lib.hid (rlay_any (HF.out.way.below hb6) [4, (a2 : Int)] gl 2 rfl hg6 (by rw [← hgl]; exact HF.out.way.old) (by decide))
    have hw6 : w5.alloc (.cells #[.int .i64 (4), .int .i64 ((a2 : Int))] 3) = w6 := hw6
    clear hb6 hg6
    cases hf : m.fits 2
    · have HFF := Lib.hid hf
      have E := Lib.hid E0.out
      rw [hf] at E
      clear hf E0
      go_wp2_with fail
      refine E.out.mono ?_
      rintro e w7 ⟨rfl, hA, hS⟩
      have hS7 := ((Stirred.of_below HF.out.below bs).trans (Stirred.of_below HB6.out bs) (fun k hk => .inl hk)).trans hS (fun k hk => .inl hk)
      have HR := Lib.hid (show RDid w B p bs (.int .i64 (-8)) m (.returned (.int .i64 (-8))) w7 from ⟨rfl, bs, (show RAt w7 B p bs m from hA), hS7, fun k hk => .inl hk⟩)
      clear E hA hS hS7
      go_wp2
      go_ret
      rw [show form 5 m = (-8, m) from by rw [form5_eq, if_pos (by rw [HT.out.1]), HFF.out]; rfl]
      exact HR.out
    · have HFF := Lib.hid hf
      have E := Lib.hid E0.out
      rw [hf] at E
      clear hf E0
      go_wp2_with fail
      refine E.out.mono ?_
      rintro e w7 ⟨rfl, hA, hS⟩
      have HA7 := Lib.hid (show RAt w7 B p bs (layN [4, (a2 : Int)] m) from hA)
      have HS57 := Lib.hid ((Stirred.of_below HB6.out bs).trans hS (fun k hk => .inl hk))
      have HS7 := Lib.hid (((Stirred.of_below HF.out.below bs).trans (Stirred.of_below HB6.out bs) (fun k hk => .inl hk)).trans hS (fun k hk => .inl hk))
      clear E hA hS hw6 hgl
      have HFM := Lib.hid (show form 5 m = (0, (layN [4, (a2 : Int)] m).held ((layN [4, (a2 : Int)] m).l.drop 1)) from by rw [form5_eq, if_pos (by rw [HT.out.1]), HFF.out, HT.out.1, List.drop_one]; rfl)
      obtain ⟨r, hr⟩ : ∃ r, m.l.length = r := ⟨_, rfl⟩
      have hr0 : 0 < r := by
        rw [← hr]
        have h1 := HT.out.1
        cases hl : m.l with
        | nil => unfold M.top at h1; rw [hl] at h1; simp at h1
        | cons _ _ => exact Nat.succ_pos _
      have hrl := HLL.out
      rw [hr] at hrl
      obtain ⟨j, hj⟩ : ∃ j, r - 1 = j := ⟨_, rfl⟩
      obtain ⟨g, cap, c2, f2, hcap, hA8, hS8⟩ := drop_world HA7.out 1 (by show 1 ≤ m.l.length; omega) (by show 0 < m.l.length; omega)
      rw [show (layN [4, (a2 : Int)] m).l.length = r from hr] at c2 hcap hA8 hS8
      rw [hj] at hA8 hS8
      have HR := Lib.hid (show ∀ w8, (w7.setCell ⟨p, 2, none⟩ (.slice (some ⟨g, 0, none⟩) j cap)).drew = w8 → RDid w B p bs (.int .i64 0) ((layN [4, (a2 : Int)] m).held ((layN [4, (a2 : Int)] m).l.drop 1)) (.returned (.int .i64 0)) w8 from fun w8 h8 => by
        rw [← h8]
        exact ⟨rfl, bs, hA8.touch (Stirred.drew _ []) (fun _ _ => List.not_mem_nil), (HS7.out.trans hS8 (fun k hk => .inl hk)).trans (Stirred.drew _ bs) (fun k hk => .inl hk), fun k hk => .inl hk⟩)
      have z2 : (r : Int) - 1 = (j : Int) := by omega
      have z3 : (0 : Int) ≤ (j : Int) := by omega
      have z6 : j ≤ cap := by omega
      have z5 : (j : Int) ≤ (cap : Int) := by omega
      have z7 : (r : Int) ≤ 1000 := by omega
      have z8 : IntKind.i64.wrap ((r : Int) - 1) = (r : Int) - 1 := IntWalk.i64_in _ (by omega)
      have z9 : IntKind.i64.wrap (j : Int) = (j : Int) := IntWalk.i64_in _ (by omega)
      clear hr hr0 hrl hj hcap hA8 hS8
      go_wp2_with fail
      go_region
      go_wp2
      go_ret
      rw [HFM.out]
      exact HR.out _ rfl
  · have y1 : ¬ (a1 : Int) = 3 := by omega
    have y2 : ((a1 : Int) == 3) = false := by simpa using y1
    have HN := Lib.hid (show form 5 m = (-22, m) from by rw [form5_eq, if_neg (by rw [HT.out.1]; exact hk)])
    clear hk
    go_wp2
    go_ret
    rw [HN.out]
    exact ⟨rfl, bs, HF.out.way, Stirred.of_below HF.out.below bs, fun k hk => .inl hk⟩
set_option maxHeartbeats 8000000 in
theorem rform6 (h : RAt w B p bs m) (hB : B ≤ w.heap.size) (s : ByteArray) (hs : s.size ≤ 1000) (hl : m.l.length < 1000) (hu : up s = ⟨#[65, 71, 65, 73, 78]⟩) : Calls Tryd.prog 15 #[.pointer (some ⟨p, 0, none⟩), .string s] w (RDid w B p bs (.int .i64 (form 6 m).1) (form 6 m).2) := by
  obtain ⟨i0, q1, q2, q3, q4⟩ := info_parts openInfo
  have HI := Lib.hid (And.intro q1 (And.intro q2 (And.intro q3 q4)))
  clear q1 q2 q3 q4
  have C := Lib.hid (rtop_any h)
  have HA := Lib.hid h
  have HBW := Lib.hid hB
  obtain ⟨⟨a1, a2⟩, hta⟩ : ∃ x, m.top = x := ⟨_, rfl⟩
  obtain ⟨⟨b1, b2⟩, htb⟩ : ∃ x, m.under = x := ⟨_, rfl⟩
  obtain ⟨H, hH⟩ : ∃ H, m.here = H := ⟨_, rfl⟩
  have hH9 : H ≤ 1000 := by have h1 := h.fine.here; have h2 := h.most; omega
  rw [hta] at C
  have HT := Lib.hid (And.intro hta (And.intro htb hH))
  have HS := Lib.hid hs
  have HU := Lib.hid hu
  have HLL := Lib.hid hl
  clear h hs hu hB hl hta hH
  go_enter Tryd.func15, Tryd.ntmps15
  go_wp2_with fail
  refine C.out.mono ?_
  rintro e w1 ⟨rfl, hb1⟩
  have D := Lib.hid (runder_any (HA.out.below hb1))
  rw [htb] at D
  have HB1 := Lib.hid hb1
  clear C hb1 htb
  go_wp2_with fail
  refine D.out.mono ?_
  rintro e w2 ⟨rfl, hb2⟩
  have hb02 := HB1.out.trans (hb2.mono HB1.out.size)
  obtain ⟨w3, ga, hw3, hga, hn3, hb3⟩ := open_box w2 a1 a2
  obtain ⟨w4, gb, hw4, hgb, hn4, hb4⟩ := open_box w3 b1 b2
  have hz3 : w3.heap.size = w2.heap.size + 1 := by rw [← hw3]; exact size_alloc _ _
  rw [hgb] at hz3
  have hb03 := hb02.trans (hb3.mono hb02.size)
  have hb04 := hb03.trans (hb4.mono hb03.size)
  have HF4 := Lib.hid (show Fr w w4 B p ga gb bs m (a1, a2) (b1, b2) from ⟨HA.out.below hb04, (Stirred.of_below hb4 []).whole hn3 List.not_mem_nil, hn4, hb04,
    fun hk => by have h1 := (HA.out.lt _ hk).2; have h2 := hb02.size; omega, fun hk => by have h1 := (HA.out.lt _ hk).2; have h2 := hb03.size; omega⟩)
  obtain ⟨vm4, vo4, bx4, bx5⟩ := HF4.out.way.box
  rw [HT.out.2.2] at bx4
  have c1 : w4.cell? ⟨p, 1, none⟩ = some (.int .i64 (H : Int)) := whole_cell bx4 rfl
  have G := Lib.hid (great_up s (by have := HS.out; omega) w4)
  rw [HU.out] at G
  clear D hb2 hb02 hn3 hn4 hb3 hb4 hb03 hb04 bx4 bx5 hgb
  subst hw4 hw3
  have HG := Lib.hid (And.intro hga hz3)
  clear hga hz3
  go_wp2_with fail
  refine G.out.mono ?_
  rintro e w5 ⟨rfl, hb5⟩
  have HF := Lib.hid (HF4.out.next hb5)
  clear G hb5 HF4 c1
  rw [← HG.out.2, HG.out.1]
  clear HG
  have dA : w5.cell? ⟨ga, 0, none⟩ = some (.int .i64 (a1 : Int)) := whole_cell HF.out.boxa rfl
  by_cases hk : a1 = 3
  · have HK := Lib.hid hk
    subst hk
    have dA1 : w5.cell? ⟨ga, 1, none⟩ = some (.int .i64 (a2 : Int)) := whole_cell HF.out.boxa rfl
    have G := Lib.hid (great_up s (by have := HS.out; omega) w5)
    rw [HU.out] at G
    have HF0 := Lib.hid HF.out
    clear dA1
    go_wp2_with fail
    refine G.out.mono ?_
    rintro e w5 ⟨rfl, hb5⟩
    have HF := Lib.hid (HF0.out.next hb5)
    have dA1 : w5.cell? ⟨ga, 1, none⟩ = some (.int .i64 (a2 : Int)) := whole_cell HF.out.boxa rfl
    clear G hb5 HF0 dA
    obtain ⟨w6, gl, hw6, hgl, hg6, hb6⟩ := lit_box w5 [3, (a2 : Int)]
    have HB6 := Lib.hid hb6
    have E0 := Lib.hid (rlay_any (HF.out.way.below hb6) [3, (a2 : Int)] gl 2 rfl hg6 (by rw [← hgl]; exact HF.out.way.old) (by decide))
    have hw6 : w5.alloc (.cells #[.int .i64 (3), .int .i64 ((a2 : Int))] 3) = w6 := hw6
    clear hb6 hg6
    cases hf : m.fits 2
    · have HFF := Lib.hid hf
      have E := Lib.hid E0.out
      rw [hf] at E
      clear hf E0
      go_wp2_with fail
      refine E.out.mono ?_
      rintro e w7 ⟨rfl, hA, hS⟩
      have hS7 := ((Stirred.of_below HF.out.below bs).trans (Stirred.of_below HB6.out bs) (fun k hk => .inl hk)).trans hS (fun k hk => .inl hk)
      have HR := Lib.hid (show RDid w B p bs (.int .i64 (-8)) m (.returned (.int .i64 (-8))) w7 from ⟨rfl, bs, (show RAt w7 B p bs m from hA), hS7, fun k hk => .inl hk⟩)
      clear E hA hS hS7
      go_wp2
      go_ret
      rw [show form 6 m = (-8, m) from by rw [form6_eq, if_pos (by rw [HT.out.1]), HFF.out]; rfl]
      exact HR.out
    · have HFF := Lib.hid hf
      have E := Lib.hid E0.out
      rw [hf] at E
      clear hf E0
      go_wp2_with fail
      refine E.out.mono ?_
      rintro e w7 ⟨rfl, hA, hS⟩
      have HA7 := Lib.hid (show RAt w7 B p bs (layN [3, (a2 : Int)] m) from hA)
      have HS57 := Lib.hid ((Stirred.of_below HB6.out bs).trans hS (fun k hk => .inl hk))
      have HS7 := Lib.hid (((Stirred.of_below HF.out.below bs).trans (Stirred.of_below HB6.out bs) (fun k hk => .inl hk)).trans hS (fun k hk => .inl hk))
      clear E hA hS hw6 hgl
      have HFM := Lib.hid (show form 6 m = (0, (layN [3, (a2 : Int)] m).held ((layN [3, (a2 : Int)] m).l.drop 1)) from by rw [form6_eq, if_pos (by rw [HT.out.1]), HFF.out, HT.out.1, List.drop_one]; rfl)
      obtain ⟨r, hr⟩ : ∃ r, m.l.length = r := ⟨_, rfl⟩
      have hr0 : 0 < r := by
        rw [← hr]
        have h1 := HT.out.1
        cases hl : m.l with
        | nil => unfold M.top at h1; rw [hl] at h1; simp at h1
        | cons _ _ => exact Nat.succ_pos _
      have hrl := HLL.out
      rw [hr] at hrl
      obtain ⟨j, hj⟩ : ∃ j, r - 1 = j := ⟨_, rfl⟩
      obtain ⟨g, cap, c2, f2, hcap, hA8, hS8⟩ := drop_world HA7.out 1 (by show 1 ≤ m.l.length; omega) (by show 0 < m.l.length; omega)
      rw [show (layN [3, (a2 : Int)] m).l.length = r from hr] at c2 hcap hA8 hS8
      rw [hj] at hA8 hS8
      have HR := Lib.hid (show ∀ w8, (w7.setCell ⟨p, 2, none⟩ (.slice (some ⟨g, 0, none⟩) j cap)).drew = w8 → RDid w B p bs (.int .i64 0) ((layN [3, (a2 : Int)] m).held ((layN [3, (a2 : Int)] m).l.drop 1)) (.returned (.int .i64 0)) w8 from fun w8 h8 => by
        rw [← h8]
        exact ⟨rfl, bs, hA8.touch (Stirred.drew _ []) (fun _ _ => List.not_mem_nil), (HS7.out.trans hS8 (fun k hk => .inl hk)).trans (Stirred.drew _ bs) (fun k hk => .inl hk), fun k hk => .inl hk⟩)
      have z2 : (r : Int) - 1 = (j : Int) := by omega
      have z3 : (0 : Int) ≤ (j : Int) := by omega
      have z6 : j ≤ cap := by omega
      have z5 : (j : Int) ≤ (cap : Int) := by omega
      have z7 : (r : Int) ≤ 1000 := by omega
      have z8 : IntKind.i64.wrap ((r : Int) - 1) = (r : Int) - 1 := IntWalk.i64_in _ (by omega)
      have z9 : IntKind.i64.wrap (j : Int) = (j : Int) := IntWalk.i64_in _ (by omega)
      clear hr hr0 hrl hj hcap hA8 hS8
      go_wp2_with fail
      go_region
      go_wp2
      go_ret
      rw [HFM.out]
      exact HR.out _ rfl
  · have y1 : ¬ (a1 : Int) = 3 := by omega
    have y2 : ((a1 : Int) == 3) = false := by simpa using y1
    have HN := Lib.hid (show form 6 m = (-22, m) from by rw [form6_eq, if_neg (by rw [HT.out.1]; exact hk)])
    clear hk
    go_wp2
    go_ret
    rw [HN.out]
    exact ⟨rfl, bs, HF.out.way, Stirred.of_below HF.out.below bs, fun k hk => .inl hk⟩
set_option maxHeartbeats 8000000 in
theorem rform10 (h : RAt w B p bs m) (hB : B ≤ w.heap.size) (s : ByteArray) (hs : s.size ≤ 1000) (hl : m.l.length < 1000) (hu : up s = ⟨#[76, 79, 79, 80]⟩) : Calls Tryd.prog 15 #[.pointer (some ⟨p, 0, none⟩), .string s] w (RDid w B p bs (.int .i64 (form 10 m).1) (form 10 m).2) := by
  obtain ⟨i0, q1, q2, q3, q4⟩ := info_parts openInfo
  have HI := Lib.hid (And.intro q1 (And.intro q2 (And.intro q3 q4)))
  clear q1 q2 q3 q4
  have C := Lib.hid (rtop_any h)
  have HA := Lib.hid h
  have HBW := Lib.hid hB
  obtain ⟨⟨a1, a2⟩, hta⟩ : ∃ x, m.top = x := ⟨_, rfl⟩
  obtain ⟨⟨b1, b2⟩, htb⟩ : ∃ x, m.under = x := ⟨_, rfl⟩
  obtain ⟨H, hH⟩ : ∃ H, m.here = H := ⟨_, rfl⟩
  have hH9 : H ≤ 1000 := by have h1 := h.fine.here; have h2 := h.most; omega
  rw [hta] at C
  have HT := Lib.hid (And.intro hta (And.intro htb hH))
  have HS := Lib.hid hs
  have HU := Lib.hid hu
  have HLL := Lib.hid hl
  clear h hs hu hB hl hta hH
  go_enter Tryd.func15, Tryd.ntmps15
  go_wp2_with fail
  refine C.out.mono ?_
  rintro e w1 ⟨rfl, hb1⟩
  have D := Lib.hid (runder_any (HA.out.below hb1))
  rw [htb] at D
  have HB1 := Lib.hid hb1
  clear C hb1 htb
  go_wp2_with fail
  refine D.out.mono ?_
  rintro e w2 ⟨rfl, hb2⟩
  have hb02 := HB1.out.trans (hb2.mono HB1.out.size)
  obtain ⟨w3, ga, hw3, hga, hn3, hb3⟩ := open_box w2 a1 a2
  obtain ⟨w4, gb, hw4, hgb, hn4, hb4⟩ := open_box w3 b1 b2
  have hz3 : w3.heap.size = w2.heap.size + 1 := by rw [← hw3]; exact size_alloc _ _
  rw [hgb] at hz3
  have hb03 := hb02.trans (hb3.mono hb02.size)
  have hb04 := hb03.trans (hb4.mono hb03.size)
  have HF4 := Lib.hid (show Fr w w4 B p ga gb bs m (a1, a2) (b1, b2) from ⟨HA.out.below hb04, (Stirred.of_below hb4 []).whole hn3 List.not_mem_nil, hn4, hb04,
    fun hk => by have h1 := (HA.out.lt _ hk).2; have h2 := hb02.size; omega, fun hk => by have h1 := (HA.out.lt _ hk).2; have h2 := hb03.size; omega⟩)
  obtain ⟨vm4, vo4, bx4, bx5⟩ := HF4.out.way.box
  rw [HT.out.2.2] at bx4
  have c1 : w4.cell? ⟨p, 1, none⟩ = some (.int .i64 (H : Int)) := whole_cell bx4 rfl
  have G := Lib.hid (great_up s (by have := HS.out; omega) w4)
  rw [HU.out] at G
  clear D hb2 hb02 hn3 hn4 hb3 hb4 hb03 hb04 bx4 bx5 hgb
  subst hw4 hw3
  have HG := Lib.hid (And.intro hga hz3)
  clear hga hz3
  go_wp2_with fail
  refine G.out.mono ?_
  rintro e w5 ⟨rfl, hb5⟩
  have HF := Lib.hid (HF4.out.next hb5)
  clear G hb5 HF4 c1
  rw [← HG.out.2, HG.out.1]
  clear HG
  have dA : w5.cell? ⟨ga, 0, none⟩ = some (.int .i64 (a1 : Int)) := whole_cell HF.out.boxa rfl
  by_cases hk : a1 = 5
  · have HK := Lib.hid hk
    subst hk
    have dA1 : w5.cell? ⟨ga, 1, none⟩ = some (.int .i64 (a2 : Int)) := whole_cell HF.out.boxa rfl
    have G := Lib.hid (great_up s (by have := HS.out; omega) w5)
    rw [HU.out] at G
    have HF0 := Lib.hid HF.out
    clear dA1
    go_wp2_with fail
    refine G.out.mono ?_
    rintro e w5 ⟨rfl, hb5⟩
    have HF := Lib.hid (HF0.out.next hb5)
    have dA1 : w5.cell? ⟨ga, 1, none⟩ = some (.int .i64 (a2 : Int)) := whole_cell HF.out.boxa rfl
    clear G hb5 HF0 dA
    obtain ⟨w6, gl, hw6, hgl, hg6, hb6⟩ := lit_box w5 [37, (a2 : Int)]
    have HB6 := Lib.hid hb6
    have E0 := Lib.hid (rlay_any (HF.out.way.below hb6) [37, (a2 : Int)] gl 2 rfl hg6 (by rw [← hgl]; exact HF.out.way.old) (by decide))
    have hw6 : w5.alloc (.cells #[.int .i64 (37), .int .i64 ((a2 : Int))] 3) = w6 := hw6
    clear hb6 hg6
    cases hf : m.fits 2
    · have HFF := Lib.hid hf
      have E := Lib.hid E0.out
      rw [hf] at E
      clear hf E0
      go_wp2_with fail
      refine E.out.mono ?_
      rintro e w7 ⟨rfl, hA, hS⟩
      have hS7 := ((Stirred.of_below HF.out.below bs).trans (Stirred.of_below HB6.out bs) (fun k hk => .inl hk)).trans hS (fun k hk => .inl hk)
      have HR := Lib.hid (show RDid w B p bs (.int .i64 (-8)) m (.returned (.int .i64 (-8))) w7 from ⟨rfl, bs, (show RAt w7 B p bs m from hA), hS7, fun k hk => .inl hk⟩)
      clear E hA hS hS7
      go_wp2
      go_ret
      rw [show form 10 m = (-8, m) from by rw [form10_eq, if_pos (by rw [HT.out.1]), HFF.out]; rfl]
      exact HR.out
    · have HFF := Lib.hid hf
      have E := Lib.hid E0.out
      rw [hf] at E
      clear hf E0
      go_wp2_with fail
      refine E.out.mono ?_
      rintro e w7 ⟨rfl, hA, hS⟩
      have HA7 := Lib.hid (show RAt w7 B p bs (layN [37, (a2 : Int)] m) from hA)
      have HS57 := Lib.hid ((Stirred.of_below HB6.out bs).trans hS (fun k hk => .inl hk))
      have HS7 := Lib.hid (((Stirred.of_below HF.out.below bs).trans (Stirred.of_below HB6.out bs) (fun k hk => .inl hk)).trans hS (fun k hk => .inl hk))
      clear E hA hS hw6 hgl
      have HFM := Lib.hid (show form 10 m = (0, (layN [37, (a2 : Int)] m).held ((layN [37, (a2 : Int)] m).l.drop 1)) from by rw [form10_eq, if_pos (by rw [HT.out.1]), HFF.out, HT.out.1, List.drop_one]; rfl)
      obtain ⟨r, hr⟩ : ∃ r, m.l.length = r := ⟨_, rfl⟩
      have hr0 : 0 < r := by
        rw [← hr]
        have h1 := HT.out.1
        cases hl : m.l with
        | nil => unfold M.top at h1; rw [hl] at h1; simp at h1
        | cons _ _ => exact Nat.succ_pos _
      have hrl := HLL.out
      rw [hr] at hrl
      obtain ⟨j, hj⟩ : ∃ j, r - 1 = j := ⟨_, rfl⟩
      obtain ⟨g, cap, c2, f2, hcap, hA8, hS8⟩ := drop_world HA7.out 1 (by show 1 ≤ m.l.length; omega) (by show 0 < m.l.length; omega)
      rw [show (layN [37, (a2 : Int)] m).l.length = r from hr] at c2 hcap hA8 hS8
      rw [hj] at hA8 hS8
      have HR := Lib.hid (show ∀ w8, (w7.setCell ⟨p, 2, none⟩ (.slice (some ⟨g, 0, none⟩) j cap)).drew = w8 → RDid w B p bs (.int .i64 0) ((layN [37, (a2 : Int)] m).held ((layN [37, (a2 : Int)] m).l.drop 1)) (.returned (.int .i64 0)) w8 from fun w8 h8 => by
        rw [← h8]
        exact ⟨rfl, bs, hA8.touch (Stirred.drew _ []) (fun _ _ => List.not_mem_nil), (HS7.out.trans hS8 (fun k hk => .inl hk)).trans (Stirred.drew _ bs) (fun k hk => .inl hk), fun k hk => .inl hk⟩)
      have z2 : (r : Int) - 1 = (j : Int) := by omega
      have z3 : (0 : Int) ≤ (j : Int) := by omega
      have z6 : j ≤ cap := by omega
      have z5 : (j : Int) ≤ (cap : Int) := by omega
      have z7 : (r : Int) ≤ 1000 := by omega
      have z8 : IntKind.i64.wrap ((r : Int) - 1) = (r : Int) - 1 := IntWalk.i64_in _ (by omega)
      have z9 : IntKind.i64.wrap (j : Int) = (j : Int) := IntWalk.i64_in _ (by omega)
      clear hr hr0 hrl hj hcap hA8 hS8
      go_wp2_with fail
      go_region
      go_wp2
      go_ret
      rw [HFM.out]
      exact HR.out _ rfl
  · have y1 : ¬ (a1 : Int) = 5 := by omega
    have y2 : ((a1 : Int) == 5) = false := by simpa using y1
    have HN := Lib.hid (show form 10 m = (-22, m) from by rw [form10_eq, if_neg (by rw [HT.out.1]; exact hk)])
    clear hk
    go_wp2
    go_ret
    rw [HN.out]
    exact ⟨rfl, bs, HF.out.way, Stirred.of_below HF.out.below bs, fun k hk => .inl hk⟩
set_option maxHeartbeats 8000000 in
theorem rform11 (h : RAt w B p bs m) (hB : B ≤ w.heap.size) (s : ByteArray) (hs : s.size ≤ 1000) (hl : m.l.length < 1000) (hu : up s = ⟨#[43, 76, 79, 79, 80]⟩) : Calls Tryd.prog 15 #[.pointer (some ⟨p, 0, none⟩), .string s] w (RDid w B p bs (.int .i64 (form 11 m).1) (form 11 m).2) := by
  obtain ⟨i0, q1, q2, q3, q4⟩ := info_parts openInfo
  have HI := Lib.hid (And.intro q1 (And.intro q2 (And.intro q3 q4)))
  clear q1 q2 q3 q4
  have C := Lib.hid (rtop_any h)
  have HA := Lib.hid h
  have HBW := Lib.hid hB
  obtain ⟨⟨a1, a2⟩, hta⟩ : ∃ x, m.top = x := ⟨_, rfl⟩
  obtain ⟨⟨b1, b2⟩, htb⟩ : ∃ x, m.under = x := ⟨_, rfl⟩
  obtain ⟨H, hH⟩ : ∃ H, m.here = H := ⟨_, rfl⟩
  have hH9 : H ≤ 1000 := by have h1 := h.fine.here; have h2 := h.most; omega
  rw [hta] at C
  have HT := Lib.hid (And.intro hta (And.intro htb hH))
  have HS := Lib.hid hs
  have HU := Lib.hid hu
  have HLL := Lib.hid hl
  clear h hs hu hB hl hta hH
  go_enter Tryd.func15, Tryd.ntmps15
  go_wp2_with fail
  refine C.out.mono ?_
  rintro e w1 ⟨rfl, hb1⟩
  have D := Lib.hid (runder_any (HA.out.below hb1))
  rw [htb] at D
  have HB1 := Lib.hid hb1
  clear C hb1 htb
  go_wp2_with fail
  refine D.out.mono ?_
  rintro e w2 ⟨rfl, hb2⟩
  have hb02 := HB1.out.trans (hb2.mono HB1.out.size)
  obtain ⟨w3, ga, hw3, hga, hn3, hb3⟩ := open_box w2 a1 a2
  obtain ⟨w4, gb, hw4, hgb, hn4, hb4⟩ := open_box w3 b1 b2
  have hz3 : w3.heap.size = w2.heap.size + 1 := by rw [← hw3]; exact size_alloc _ _
  rw [hgb] at hz3
  have hb03 := hb02.trans (hb3.mono hb02.size)
  have hb04 := hb03.trans (hb4.mono hb03.size)
  have HF4 := Lib.hid (show Fr w w4 B p ga gb bs m (a1, a2) (b1, b2) from ⟨HA.out.below hb04, (Stirred.of_below hb4 []).whole hn3 List.not_mem_nil, hn4, hb04,
    fun hk => by have h1 := (HA.out.lt _ hk).2; have h2 := hb02.size; omega, fun hk => by have h1 := (HA.out.lt _ hk).2; have h2 := hb03.size; omega⟩)
  obtain ⟨vm4, vo4, bx4, bx5⟩ := HF4.out.way.box
  rw [HT.out.2.2] at bx4
  have c1 : w4.cell? ⟨p, 1, none⟩ = some (.int .i64 (H : Int)) := whole_cell bx4 rfl
  have G := Lib.hid (great_up s (by have := HS.out; omega) w4)
  rw [HU.out] at G
  clear D hb2 hb02 hn3 hn4 hb3 hb4 hb03 hb04 bx4 bx5 hgb
  subst hw4 hw3
  have HG := Lib.hid (And.intro hga hz3)
  clear hga hz3
  go_wp2_with fail
  refine G.out.mono ?_
  rintro e w5 ⟨rfl, hb5⟩
  have HF := Lib.hid (HF4.out.next hb5)
  clear G hb5 HF4 c1
  rw [← HG.out.2, HG.out.1]
  clear HG
  have dA : w5.cell? ⟨ga, 0, none⟩ = some (.int .i64 (a1 : Int)) := whole_cell HF.out.boxa rfl
  by_cases hk : a1 = 5
  · have HK := Lib.hid hk
    subst hk
    have dA1 : w5.cell? ⟨ga, 1, none⟩ = some (.int .i64 (a2 : Int)) := whole_cell HF.out.boxa rfl
    have G := Lib.hid (great_up s (by have := HS.out; omega) w5)
    rw [HU.out] at G
    have HF0 := Lib.hid HF.out
    clear dA1
    go_wp2_with fail
    refine G.out.mono ?_
    rintro e w5 ⟨rfl, hb5⟩
    have HF := Lib.hid (HF0.out.next hb5)
    have dA1 : w5.cell? ⟨ga, 1, none⟩ = some (.int .i64 (a2 : Int)) := whole_cell HF.out.boxa rfl
    clear G hb5 HF0 dA
    obtain ⟨w6, gl, hw6, hgl, hg6, hb6⟩ := lit_box w5 [38, (a2 : Int)]
    have HB6 := Lib.hid hb6
    have E0 := Lib.hid (rlay_any (HF.out.way.below hb6) [38, (a2 : Int)] gl 2 rfl hg6 (by rw [← hgl]; exact HF.out.way.old) (by decide))
    have hw6 : w5.alloc (.cells #[.int .i64 (38), .int .i64 ((a2 : Int))] 3) = w6 := hw6
    clear hb6 hg6
    cases hf : m.fits 2
    · have HFF := Lib.hid hf
      have E := Lib.hid E0.out
      rw [hf] at E
      clear hf E0
      go_wp2_with fail
      refine E.out.mono ?_
      rintro e w7 ⟨rfl, hA, hS⟩
      have hS7 := ((Stirred.of_below HF.out.below bs).trans (Stirred.of_below HB6.out bs) (fun k hk => .inl hk)).trans hS (fun k hk => .inl hk)
      have HR := Lib.hid (show RDid w B p bs (.int .i64 (-8)) m (.returned (.int .i64 (-8))) w7 from ⟨rfl, bs, (show RAt w7 B p bs m from hA), hS7, fun k hk => .inl hk⟩)
      clear E hA hS hS7
      go_wp2
      go_ret
      rw [show form 11 m = (-8, m) from by rw [form11_eq, if_pos (by rw [HT.out.1]), HFF.out]; rfl]
      exact HR.out
    · have HFF := Lib.hid hf
      have E := Lib.hid E0.out
      rw [hf] at E
      clear hf E0
      go_wp2_with fail
      refine E.out.mono ?_
      rintro e w7 ⟨rfl, hA, hS⟩
      have HA7 := Lib.hid (show RAt w7 B p bs (layN [38, (a2 : Int)] m) from hA)
      have HS57 := Lib.hid ((Stirred.of_below HB6.out bs).trans hS (fun k hk => .inl hk))
      have HS7 := Lib.hid (((Stirred.of_below HF.out.below bs).trans (Stirred.of_below HB6.out bs) (fun k hk => .inl hk)).trans hS (fun k hk => .inl hk))
      clear E hA hS hw6 hgl
      have HFM := Lib.hid (show form 11 m = (0, (layN [38, (a2 : Int)] m).held ((layN [38, (a2 : Int)] m).l.drop 1)) from by rw [form11_eq, if_pos (by rw [HT.out.1]), HFF.out, HT.out.1, List.drop_one]; rfl)
      obtain ⟨r, hr⟩ : ∃ r, m.l.length = r := ⟨_, rfl⟩
      have hr0 : 0 < r := by
        rw [← hr]
        have h1 := HT.out.1
        cases hl : m.l with
        | nil => unfold M.top at h1; rw [hl] at h1; simp at h1
        | cons _ _ => exact Nat.succ_pos _
      have hrl := HLL.out
      rw [hr] at hrl
      obtain ⟨j, hj⟩ : ∃ j, r - 1 = j := ⟨_, rfl⟩
      obtain ⟨g, cap, c2, f2, hcap, hA8, hS8⟩ := drop_world HA7.out 1 (by show 1 ≤ m.l.length; omega) (by show 0 < m.l.length; omega)
      rw [show (layN [38, (a2 : Int)] m).l.length = r from hr] at c2 hcap hA8 hS8
      rw [hj] at hA8 hS8
      have HR := Lib.hid (show ∀ w8, (w7.setCell ⟨p, 2, none⟩ (.slice (some ⟨g, 0, none⟩) j cap)).drew = w8 → RDid w B p bs (.int .i64 0) ((layN [38, (a2 : Int)] m).held ((layN [38, (a2 : Int)] m).l.drop 1)) (.returned (.int .i64 0)) w8 from fun w8 h8 => by
        rw [← h8]
        exact ⟨rfl, bs, hA8.touch (Stirred.drew _ []) (fun _ _ => List.not_mem_nil), (HS7.out.trans hS8 (fun k hk => .inl hk)).trans (Stirred.drew _ bs) (fun k hk => .inl hk), fun k hk => .inl hk⟩)
      have z2 : (r : Int) - 1 = (j : Int) := by omega
      have z3 : (0 : Int) ≤ (j : Int) := by omega
      have z6 : j ≤ cap := by omega
      have z5 : (j : Int) ≤ (cap : Int) := by omega
      have z7 : (r : Int) ≤ 1000 := by omega
      have z8 : IntKind.i64.wrap ((r : Int) - 1) = (r : Int) - 1 := IntWalk.i64_in _ (by omega)
      have z9 : IntKind.i64.wrap (j : Int) = (j : Int) := IntWalk.i64_in _ (by omega)
      clear hr hr0 hrl hj hcap hA8 hS8
      go_wp2_with fail
      go_region
      go_wp2
      go_ret
      rw [HFM.out]
      exact HR.out _ rfl
  · have y1 : ¬ (a1 : Int) = 5 := by omega
    have y2 : ((a1 : Int) == 5) = false := by simpa using y1
    have HN := Lib.hid (show form 11 m = (-22, m) from by rw [form11_eq, if_neg (by rw [HT.out.1]; exact hk)])
    clear hk
    go_wp2
    go_ret
    rw [HN.out]
    exact ⟨rfl, bs, HF.out.way, Stirred.of_below HF.out.below bs, fun k hk => .inl hk⟩
end
end Go.Proofs.YtcpdhfigaoaohaaDoor.WvR
