/- Traces that are lent. -/
import Derived.Test.YtpecingkoodmfaaGreatDoorS18
import Derived.Test.YtpecingkoodmfaaGreatDoorS16
import Derived.Deep.RegionWith
import Derived.Deep.DeepCutAuto
namespace Go.Proofs.YtpecingkoodmfaaGreatDoor.Ir
open Go.RowKit Book Book.Wide Mem Go.Deep
set_option linter.unusedVariables false
set_option linter.unusedSimpArgs false
theorem Lent.below {w w' : World} {B g cap : Nat} {l : List Int} (h : Lent w B g cap l) (hb : Below w.heap.size w w') : Lent w' B g cap l := Owns.below h hb
theorem LentC.blk {w : World} {B g cap : Nat} {l : List I} (h : LentC w B g cap l) : Book.blk (.slice (some ⟨g, 0, none⟩) (l.length + 1) cap) = some g := OwnsK.capAt h (by rw [ins_len, List.length_append]; simp)
theorem LentX.blk {w : World} {B g cap : Nat} {l : List OX} (h : LentX w B g cap l) : Book.blk (.slice (some ⟨g, 0, none⟩) (l.length + 1) cap) = some g := OwnsK.capAt h (by rw [out_len, List.length_append]; simp)
theorem LentC.touch {w w' : World} {B g cap : Nat} {l : List I} {bs : List Nat} (h : LentC w B g cap l) (ht : Stirred w w' bs) (hn : g ∉ bs) : LentC w' B g cap l :=
  OwnsK.touch h ht (fun k hk => by rw [h.blk] at hk; cases hk; exact hn)
theorem LentX.touch {w w' : World} {B g cap : Nat} {l : List OX} {bs : List Nat} (h : LentX w B g cap l) (ht : Stirred w w' bs) (hn : g ∉ bs) : LentX w' B g cap l :=
  OwnsK.touch h ht (fun k hk => by rw [h.blk] at hk; cases hk; exact hn)
theorem three_set9 {w : World} {g : Nat} {cs : Array Value} {T : TypeId} (h : w.heap[g]? = some (.cells cs T (0, 0))) (a b c : Value) :
    (((w.setCell ⟨g, 5, none⟩ a).setCell ⟨g, 6, none⟩ b).setCell ⟨g, 8, none⟩ c).heap[g]? = some (.cells (((cs.setIfInBounds 5 a).setIfInBounds 6 b).setIfInBounds 8 c) T (0, 0)) ∧ Stirred w (((w.setCell ⟨g, 5, none⟩ a).setCell ⟨g, 6, none⟩ b).setCell ⟨g, 8, none⟩ c) [g] :=
  ⟨whole_set (whole_set (whole_set h 5 a) 6 b) 8 c, ((Stirred.setCell w ⟨g, 5, none⟩ a).trans (Stirred.setCell _ ⟨g, 6, none⟩ b) (fun k hk => .inl hk)).trans (Stirred.setCell _ ⟨g, 8, none⟩ c) (fun k hk => .inl hk)⟩
/-- a trace whose lists have room behind them, in which a mark stands -/
def LentT (w : World) (B : Nat) (v : Value) (t : T) : Prop := ∃ g1 c1 g2 c2 g3 c3 L, v = trV t (.slice (some ⟨g1, 0, none⟩) t.ins.length c1) (.slice (some ⟨g2, 0, none⟩) t.outs.length c2) (.slice (some ⟨g3, 0, none⟩) t.cells.length c3) ∧ LentC w B g1 c1 t.ins ∧ (L.map (·.1) = t.outs ∧ LentX w B g2 c2 L ∧ RowsOf w L) ∧ Lent w B g3 c3 t.cells ∧ t.ins.length + 1 ≤ c1 ∧ t.outs.length + 1 ≤ c2
theorem LentT.below {w w' : World} {B : Nat} {v : Value} {t : T} (h : LentT w B v t) (hb : Below w.heap.size w w') : LentT w' B v t := by
  obtain ⟨g1, c1, g2, c2, g3, c3, L, e, h1, ⟨h2, h3, h4⟩, h5, h6, h7⟩ := h
  exact ⟨g1, c1, g2, c2, g3, c3, L, e, h1.below hb, ⟨h2, h3.below hb, h4.below hb⟩, Lent.below h5 hb, h6, h7⟩
theorem LentT.reads {w : World} {B : Nat} {v : Value} {t : T} (h : LentT w B v t) : ReadsT w v t := by
  obtain ⟨g1, c1, g2, c2, g3, c3, L, e, h1, ⟨h2, h3, h4⟩, h5, h6, h7⟩ := h
  have hL : L.length = t.outs.length := by rw [← h2, List.length_map]
  exact ⟨_, _, _, e, ReadsI.of_owns h1.owns, by rw [← h2, List.length_map]; exact ReadsO.of_owns h3.owns h4, Reads.of_owns (Lent.owns h5)⟩
/-- .. and none of it lies in some blocks -/
def LentTQ (w : World) (B : Nat) (v : Value) (t : T) (S : List Nat) : Prop := ∃ g1 c1 g2 c2 g3 c3 L, v = trV t (.slice (some ⟨g1, 0, none⟩) t.ins.length c1) (.slice (some ⟨g2, 0, none⟩) t.outs.length c2) (.slice (some ⟨g3, 0, none⟩) t.cells.length c3) ∧ LentC w B g1 c1 t.ins ∧ (L.map (·.1) = t.outs ∧ LentX w B g2 c2 L ∧ RowsOf w L) ∧ Lent w B g3 c3 t.cells ∧ t.ins.length + 1 ≤ c1 ∧ t.outs.length + 1 ≤ c2 ∧ ∀ q ∈ S, RowsX w q L ∧ q ≠ g1 ∧ q ≠ g2 ∧ q ≠ g3
theorem LentTQ.t {w : World} {B : Nat} {v : Value} {t : T} {S : List Nat} (h : LentTQ w B v t S) : LentT w B v t := by
  obtain ⟨g1, c1, g2, c2, g3, c3, L, e, h1, h2, h5, h6, h7, -⟩ := h
  exact ⟨g1, c1, g2, c2, g3, c3, L, e, h1, h2, h5, h6, h7⟩
theorem LentTQ.below {w w' : World} {B : Nat} {v : Value} {t : T} {S : List Nat} (h : LentTQ w B v t S) (hb : Below w.heap.size w w') : LentTQ w' B v t S := by
  obtain ⟨g1, c1, g2, c2, g3, c3, L, e, h1, ⟨h2, h3, h4⟩, h5, h6, h7, h8⟩ := h
  exact ⟨g1, c1, g2, c2, g3, c3, L, e, h1.below hb, ⟨h2, h3.below hb, h4.below hb⟩, Lent.below h5 hb, h6, h7, fun q hq => ⟨(h8 q hq).1.below hb, (h8 q hq).2⟩⟩
/-- a new block -/
theorem LentTQ.add {w w' : World} {B q : Nat} {v : Value} {t : T} {S : List Nat} (h : LentTQ w B v t S) (hb : Below w.heap.size w w') (hq : w.heap.size ≤ q) : LentTQ w' B v t (q :: S) := by
  obtain ⟨g1, c1, g2, c2, g3, c3, L, e, h1, ⟨h2, h3, h4⟩, h5, h6, h7, h8⟩ := h
  have b1 := (OwnsK.block h1 _ h1.blk).2.1
  have b2 := (OwnsK.block h3 _ h3.blk).2.1
  have b3 := (Owns.block h5 _ h5.blk.1).2.1
  refine ⟨g1, c1, g2, c2, g3, c3, L, e, h1.below hb, ⟨h2, h3.below hb, h4.below hb⟩, Lent.below h5 hb, h6, h7, fun k hk => ?_⟩
  rcases List.mem_cons.1 hk with rfl | hk
  · exact ⟨(RowsX.of_old h4 hq).below hb, by omega, by omega, by omega⟩
  · exact ⟨(h8 k hk).1.below hb, (h8 k hk).2⟩
/-- such a block is filled -/
theorem LentTQ.touch {w w' : World} {B q : Nat} {v : Value} {t : T} {S : List Nat} (h : LentTQ w B v t S) (ht : Stirred w w' [q]) (hq : q ∈ S) : LentTQ w' B v t S := by
  obtain ⟨g1, c1, g2, c2, g3, c3, L, e, h1, ⟨h2, h3, h4⟩, h5, h6, h7, h8⟩ := h
  obtain ⟨hx, n1, n2, n3⟩ := h8 q hq
  have no : ∀ {g : Nat}, q ≠ g → g ∉ [q] := fun hn hm => hn (List.mem_singleton.1 hm).symm
  exact ⟨g1, c1, g2, c2, g3, c3, L, e, h1.touch ht (no n1), ⟨h2, h3.touch ht (no n2), (hx.touch ht).rows⟩, h5.touch ht (no n3), h6, h7, fun k hk => ⟨hx.stirTo (h8 k hk).1 ht, (h8 k hk).2⟩⟩
/-- an exit's list that is lent, in a block; its lists lie in neither of two blocks, nor in some others -/
def LX (w : World) (B g k : Nat) (S : List Nat) (p : Nat × Nat) (l : List O) : Prop := ∃ L, L.map (·.1) = l ∧ LentX w B p.1 p.2 L ∧ RowsX w g L ∧ RowsX w k L ∧ ∀ q ∈ S, RowsX w q L
/-- what is known while three lists are lent one by one -/
structure LS (w : World) (g r : Nat) (S : List Nat) (cs : Array Value) (t : T) (o1 o2 o3 : Option (Nat × Nat)) (wc : World) : Prop where
  hb : Below w.heap.size w wc
  hg : wc.heap[g]? = some (.cells cs 26 (0, 0))
  hr : wc.heap[r]? = some (.cells zero9 26 (0, 0))
  h1 : ∀ p, o1 = some p → (LentC wc w.heap.size p.1 p.2 t.ins ∧ t.ins.length + 1 ≤ p.2) ∧ r < p.1
  h2 : ∀ p, o2 = some p → (LX wc w.heap.size g r S p t.outs ∧ t.outs.length + 1 ≤ p.2) ∧ r < p.1
  h3 : ∀ p, o3 = some p → Lent wc w.heap.size p.1 p.2 t.cells ∧ r < p.1
theorem LX.below {w w' : World} {B g k : Nat} {S : List Nat} {p : Nat × Nat} {l : List O} (h : LX w B g k S p l) (hb : Below w.heap.size w w') : LX w' B g k S p l := by
  obtain ⟨L, h1, h2, h3, h4, h5⟩ := h
  exact ⟨L, h1, h2.below hb, h3.below hb, h4.below hb, fun q hq => (h5 q hq).below hb⟩
section
variable {w : World} {g r : Nat} {S : List Nat} {cs : Array Value} {t : T} {o1 o2 o3 : Option (Nat × Nat)} {wc wn : World}
theorem LS.step (h : LS w g r S cs t o1 o2 o3 wc) (hb : Below wc.heap.size wc wn) : LS w g r S cs t o1 o2 o3 wn :=
  ⟨h.hb.trans (hb.mono h.hb.size), (Stirred.of_below hb []).whole h.hg List.not_mem_nil, (Stirred.of_below hb []).whole h.hr List.not_mem_nil,
    fun p e => ⟨⟨(h.h1 p e).1.1.below hb, (h.h1 p e).1.2⟩, (h.h1 p e).2⟩, fun p e => ⟨⟨(h.h2 p e).1.1.below hb, (h.h2 p e).1.2⟩, (h.h2 p e).2⟩, fun p e => ⟨Lent.below (h.h3 p e).1 hb, (h.h3 p e).2⟩⟩
theorem LS.rlt (h : LS w g r S cs t o1 o2 o3 wc) {k : Nat} (hk : wc.heap.size ≤ k) : r < k := Nat.lt_of_lt_of_le (whole_lt h.hr) hk
theorem LS.set1 (h : LS w g r S cs t o1 o2 o3 wc) {l k : Nat} (hl : LentC wn wc.heap.size l k t.ins) (hc : t.ins.length + 1 ≤ k) (hb : Below wc.heap.size wc wn) : LS w g r S cs t (some (l, k)) o2 o3 wn :=
  have h' := h.step hb
  ⟨h'.hb, h'.hg, h'.hr, fun p e => by cases e; exact ⟨⟨OwnsK.from hl h.hb.size, hc⟩, h.rlt (OwnsK.block hl _ hl.blk).1⟩, h'.h2, h'.h3⟩
theorem LS.set2 (h : LS w g r S cs t o1 o2 o3 wc) {l k : Nat} {L : List OX} (hm : L.map (·.1) = t.outs) (hl : LentX wn wc.heap.size l k L) (h1 : RowsX wn g L) (h2 : RowsX wn r L) (h3 : ∀ q ∈ S, RowsX wn q L) (hc : t.outs.length + 1 ≤ k) (hb : Below wc.heap.size wc wn) : LS w g r S cs t o1 (some (l, k)) o3 wn :=
  have h' := h.step hb
  ⟨h'.hb, h'.hg, h'.hr, h'.h1, fun p e => by cases e; exact ⟨⟨⟨L, hm, OwnsK.from hl h.hb.size, h1, h2, h3⟩, hc⟩, h.rlt (OwnsK.block hl _ hl.blk).1⟩, h'.h3⟩
theorem LS.set3 (h : LS w g r S cs t o1 o2 o3 wc) {l k : Nat} (hl : Lent wn wc.heap.size l k t.cells) (hb : Below wc.heap.size wc wn) : LS w g r S cs t o1 o2 (some (l, k)) wn :=
  have h' := h.step hb
  ⟨h'.hb, h'.hg, h'.hr, h'.h1, h'.h2, fun p e => by cases e; exact ⟨Owns.from hl h.hb.size, h.rlt (Owns.block hl _ hl.blk.1).1⟩⟩
end
/-- what is there behind the three stores -/
structure LG (w : World) (g r : Nat) (S : List Nat) (t : T) (l1 k1 l2 k2 l3 k3 : Nat) (wc : World) : Prop where
  hb : Below w.heap.size w wc
  hg : wc.heap[g]? = some (.cells (trA t (.slice (some ⟨l1, 0, none⟩) t.ins.length k1) (.slice (some ⟨l2, 0, none⟩) t.outs.length k2) (.slice (some ⟨l3, 0, none⟩) t.cells.length k3)) 26 (0, 0))
  hr : wc.heap[r]? = some (.cells zero9 26 (0, 0))
  h1 : (LentC wc w.heap.size l1 k1 t.ins ∧ t.ins.length + 1 ≤ k1) ∧ r < l1
  h2 : (LX wc w.heap.size g r S (l2, k2) t.outs ∧ t.outs.length + 1 ≤ k2) ∧ r < l2
  h3 : Lent wc w.heap.size l3 k3 t.cells ∧ r < l3
theorem LG.of {w : World} {g r : Nat} {S : List Nat} {t : T} {vi vo vc : Value} {l1 k1 l2 k2 l3 k3 : Nat} {wc : World} (hw : w.heap.size ≤ g) (hgr : g < r) (h : LS w g r S (trA t vi vo vc) t (some (l1, k1)) (some (l2, k2)) (some (l3, k3)) wc) :
    LG w g r S t l1 k1 l2 k2 l3 k3 (((wc.setCell ⟨g, 5, none⟩ (.slice (some ⟨l1, 0, none⟩) t.ins.length k1)).setCell ⟨g, 6, none⟩ (.slice (some ⟨l2, 0, none⟩) t.outs.length k2)).setCell ⟨g, 8, none⟩ (.slice (some ⟨l3, 0, none⟩) t.cells.length k3)) := by
  have hs := three_set9 h.hg (.slice (some ⟨l1, 0, none⟩) t.ins.length k1) (.slice (some ⟨l2, 0, none⟩) t.outs.length k2) (.slice (some ⟨l3, 0, none⟩) t.cells.length k3)
  have hn : ∀ {l : Nat}, r < l → l ∉ [g] := fun hl hm => by rw [List.mem_singleton] at hm; omega
  obtain ⟨⟨L, e1, e2, e3, e4, e6⟩, e5⟩ := (h.h2 _ rfl).1
  exact ⟨h.hb.trans ((hs.2.below (B := w.heap.size) (fun k hk => by rw [List.mem_singleton.1 hk]; exact hw) h.hb.size)), hs.1, hs.2.whole h.hr (fun hm => by rw [List.mem_singleton] at hm; omega),
    ⟨⟨(h.h1 _ rfl).1.1.touch hs.2 (hn (h.h1 _ rfl).2), (h.h1 _ rfl).1.2⟩, (h.h1 _ rfl).2⟩, ⟨⟨⟨L, e1, e2.touch hs.2 (hn (h.h2 _ rfl).2), e3.touch hs.2, e3.stirTo e4 hs.2, fun q hq => e3.stirTo (e6 q hq) hs.2⟩, e5⟩, (h.h2 _ rfl).2⟩, ⟨(h.h3 _ rfl).1.touch hs.2 (hn (h.h3 _ rfl).2), (h.h3 _ rfl).2⟩⟩
theorem LS.cells {vi vo vc : Value} {w : World} {g r : Nat} {S : List Nat} {t : T} {o1 o2 o3 : Option (Nat × Nat)} {wc : World} (h : LS w g r S (trA t vi vo vc) t o1 o2 o3 wc) :
    wc.cell? ⟨g, 5, none⟩ = some vi ∧ wc.cell? ⟨g, 6, none⟩ = some vo ∧ wc.cell? ⟨g, 8, none⟩ = some vc ∧ wc.frozen? ⟨g, 5, none⟩ = false ∧ wc.frozen? ⟨g, 6, none⟩ = false ∧ wc.frozen? ⟨g, 8, none⟩ = false :=
  ⟨whole_cell h.hg rfl, whole_cell h.hg rfl, whole_cell h.hg rfl, whole_frozen h.hg 5, whole_frozen h.hg 6, whole_frozen h.hg 8⟩
set_option maxHeartbeats 16000000 in
set_option maxRecDepth 100000 in
theorem lentTraceQ_any {w0 w : World} {vi vo vc : Value} {t : T} (S : List Nat) (h0 : ReadsL w0 vi vo vc t) (hb0 : Below w0.heap.size w0 w) (hS : ∀ q ∈ S, w0.heap.size ≤ q ∧ q < w.heap.size) (h1 : t.ins.length ≤ 1000) (h2 : t.outs.length ≤ 1000) (h3 : t.cells.length ≤ 1000) (hs : Small t) :
    Calls Tryz.prog 7 #[trV t vi vo vc] w fun e w' => ∃ v', e = .returned v' ∧ LentTQ w' w.heap.size v' t S ∧ Below w.heap.size w w' := by
  obtain ⟨L, hL, hK0, hr0⟩ := h0.outs.rows
  have h := h0.below hb0
  have hK := hK0.below hb0
  have hr := hr0.below hb0
  have hsz := hb0.size
  have hLl : L.length = t.outs.length := by rw [← hL, List.length_map]
  obtain ⟨w1, g, hw1, hg, HG, HB, HZ⟩ := newBox w (trA t vi vo vc) 26
  obtain ⟨w2, r, hw2, hr2, HR, HB2, HZ2⟩ := newBox w1 zero9 26
  have HBF := Lib.hid (HB.out.trans (HB2.out.mono HB.out.size))
  have HGR := Lib.hid (show g < r by have h := whole_lt HG.out; have h2 := HZ2.out; omega)
  have C1 := Lib.hid (fun wc (hbw : Below w.heap.size w wc) => lentCodes_any vi t.ins wc (h.ins.below hbw) h1)
  have HP0 := Lib.hid (show ∀ k, (k = g ∨ k = r ∨ k ∈ S) → w0.heap.size ≤ k from fun k hk => by
    have h5 := HZ.out
    have h6 := HZ2.out
    have h7 := HB.out.size
    rcases hk with hk | hk | hk
    · omega
    · omega
    · exact (hS k hk).1)
  have HP1 := Lib.hid (show ∀ k, (k = g ∨ k = r ∨ k ∈ S) → ∀ n, r < n → w.heap.size ≤ n → k < n from fun k hk n h1 h2 => by
    have h5 := HGR.out
    rcases hk with hk | hk | hk
    · omega
    · omega
    · exact Nat.lt_of_lt_of_le (hS k hk).2 h2)
  have C2 := Lib.hid (fun wc (hbw : Below w.heap.size w wc) (hrc : r < wc.heap.size) => lentExits_any vo L wc (hK.below hbw) (hr.below hbw) (by omega) (fun e he => hs.stack e.1 (by rw [← hL]; exact List.mem_map.2 ⟨e, he, rfl⟩)) (fun k => k = g ∨ k = r ∨ k ∈ S) (fun k hk => (RowsX.of_old (g := k) hr0 (HP0.out k hk)).below (hb0.trans (hbw.mono hsz))) (fun k hk => HP1.out k hk _ hrc hbw.size))
  have C3 := Lib.hid (fun wc (hbw : Below w.heap.size w wc) => lent_any vc t.cells wc (h.cells.below hbw) h3)
  have HS : Hid (LS w g r S (trA t vi vo vc) t none none none w2.drew) := Lib.hid (LS.step (wc := w2) ⟨HBF.out, boxOn HG.out HB2.out, HR.out, fun p e => (by cases e), fun p e => (by cases e), fun p e => (by cases e)⟩ (Below.refl _ _).drew)
  have HL := Lib.hid hL
  rw [hLl] at C2
  obtain ⟨ai, ci, ao, co, ac, cc, rfl, rfl, rfl⟩ := h.known
  have HSQ := Lib.hid hS
  clear h hL hK hr hLl h1 h2 h3 hs h0 hb0 hS hK0 hr0 hsz
  go_enter Tryz.func7, Tryz.ntmps7
  go_upto_region 1 with fail
  clear hw1 hw2 hg hr2 HG HR HB HB2 HBF
  go_cut [] (fun wx => ∃ l1 k1 l2 k2 l3 k3, Hid (LG w g r S t l1 k1 l2 k2 l3 k3 wx))
  case first =>
    obtain ⟨a5, a6, a8, f5, f6, f8⟩ := HS.out.cells
    go_wp2_with fail
    go_region_with (first
      | (go_at_call 38; refine (C1.out _ HS.out.hb).mono ?_; rintro e wn ⟨l1, k1, rfl, hl, hc, hb⟩; have HS := Lib.hid (HS.out.set1 hl hc hb); clear hl hb hc; obtain ⟨a5, a6, a8, f5, f6, f8⟩ := HS.out.cells)
      | (go_at_call 39; refine (C2.out _ HS.out.hb (whole_lt HS.out.hr)).mono ?_; rintro e wn ⟨l2, k2, L2, rfl, hm, hl, -, hx, hc, hb⟩; have HS := Lib.hid (HS.out.set2 (hm.trans HL.out) hl (hx _ (.inl rfl)) (hx _ (.inr (.inl rfl))) (fun q hq => hx q (.inr (.inr hq))) hc hb); clear hm hl hx hc hb; obtain ⟨a5, a6, a8, f5, f6, f8⟩ := HS.out.cells)
      | (go_at_call 29; refine (C3.out _ HS.out.hb).mono ?_; rintro e wn ⟨l3, k3, rfl, hl, hb⟩; have HS := Lib.hid (HS.out.set3 hl hb); clear hl hb; obtain ⟨a5, a6, a8, f5, f6, f8⟩ := HS.out.cells))
    all_goals
      go_wp2_with fail
      go_meet
      exact ⟨_, _, _, _, _, _, LG.of (by have := HZ.out; omega) HGR.out HS.out⟩
  case rest =>
    obtain ⟨l1, k1, l2, k2, l3, k3, HF⟩ := hcut
    clear HS C1 C2 C3
    have HG := Lib.hid HF.out.hg
    have HR := Lib.hid HF.out.hr
    go_wp2_with (first
      | (refine ld_tr (by rfl) _ rfl _ rfl _ (by rfl) HG.out ?_)
      | (refine st_tr (by rfl) _ _ rfl r _ rfl rfl rfl _ rfl HR.out (by simp [Value.oneCell']) ?_; intro wf hr ht; have HRF := Lib.hid hr; have HTF := Lib.hid ht; clear hr ht))
    refine bodyPost_ret (results_cell_row rfl _ _ r _ _ _ _ rfl HRF.out Tryz.underlying26 rfl tr_size) rfl ?_
    have hn : ∀ {l : Nat}, r < l → l ∉ [r] := fun hl hm => by rw [List.mem_singleton] at hm; omega
    obtain ⟨⟨L', e1, e2, e3, e4, e6⟩, e5⟩ := HF.out.h2.1
    exact ⟨_, rfl, ⟨l1, k1, l2, k2, l3, k3, L', rfl, HF.out.h1.1.1.touch HTF.out (hn HF.out.h1.2), ⟨e1, e2.touch HTF.out (hn HF.out.h2.2), (e4.touch HTF.out).rows⟩, HF.out.h3.1.touch HTF.out (hn HF.out.h3.2), HF.out.h1.1.2, e5, fun q hq => ⟨e4.stirTo (e6 q hq) HTF.out, by have h1 := (HSQ.out q hq).2; have h2 := (OwnsK.block HF.out.h1.1.1 _ HF.out.h1.1.1.blk).1; omega, by have h1 := (HSQ.out q hq).2; have h2 := (OwnsK.block e2 _ e2.blk).1; omega, by have h1 := (HSQ.out q hq).2; have h2 := (Owns.block HF.out.h3.1 _ HF.out.h3.1.blk.1).1; omega⟩⟩, HF.out.hb.trans (HTF.out.below (B := w.heap.size) (fun k hk => by rw [List.mem_singleton.1 hk]; have h1 := HGR.out; have h2 := HZ.out; omega) HF.out.hb.size)⟩
end Go.Proofs.YtpecingkoodmfaaGreatDoor.Ir
