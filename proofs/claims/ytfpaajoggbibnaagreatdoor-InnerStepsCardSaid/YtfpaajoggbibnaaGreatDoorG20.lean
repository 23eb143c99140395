/- Lists that came in, lent and held against one's own, as long as a machine's memory. -/
import Derived.Test.YtfpaajoggbibnaaGreatDoorG3
import Derived.Test.YtfpaajoggbibnaaGreatDoorG19
import Derived.Deep.RegionWith
import Derived.Deep.DeepCutAuto
import Derived.Test.YtfpaajoggbibnaaGreatDoorG18
import Derived.Deep.RegionHeld3
import Derived.Test.YtfpaajoggbibnaaGreatDoorG4
namespace Go.Proofs.YtfpaajoggbibnaaGreatDoor
open Go.RowKit Book Mem
set_option linter.unusedSimpArgs false
set_option linter.unusedVariables false
set_option maxHeartbeats 1000000 in
theorem lent10_any (v : Value) (l : List Int) (w : World) (h : Reads w v l) (hl : l.length ≤ 10000) :
    Calls Tryz.prog 25 #[v] w fun e w' => ∃ g cap, e = .returned (.slice (some ⟨g, 0, none⟩) l.length cap) ∧ Lent w' w.heap.size g cap l ∧ Below w.heap.size w w' := by
  obtain ⟨i0, q1, q2, q3, q4⟩ := info_parts Tryz.bkIntInfo
  have HI := Lib.hid (And.intro q1 (And.intro q2 (And.intro q3 q4)))
  have C := Lib.hid (copyReads_any v l w h (by omega))
  obtain ⟨vo, vc, rfl, _⟩ := h
  obtain ⟨n, hn⟩ : ∃ n, l.length = n := ⟨_, rfl⟩
  have HN := Lib.hid hn
  rw [hn] at C hl ⊢
  clear q1 q2 q3 q4 hn
  go_enter Tryz.func25, Tryz.ntmps25
  go_wp2_with fail
  refine C.out.mono ?_
  rintro e w1 ⟨c, rfl, hO, hB⟩
  obtain ⟨co, cc, hcv⟩ := hO.slice
  rw [vals_length, HN.out] at hcv
  subst hcv
  have hal := (Below.refl w1.heap.size w1).alloc (Nat.le_refl _) (.cells #[.int .i64 (-77)] 3)
  have HO := Lib.hid (hO.below hal)
  have HB := Lib.hid hB
  clear hO hB C hal
  go_wp2_with (at_builtin; refine wpList_append_two _ rfl _ _ 22 rfl w.heap.size 3 i0 (.int .i64 0) 8 Tryz.underlying22 HI.out.1 HI.out.2.1 HI.out.2.2.1 HI.out.2.2.2 rfl _ _ rfl HO.out ⟨w1.heap.size, 0, none⟩ 1 1 [.int .i64 (-77)] rfl rfl ?c1 ?c2 (Nat.zero_lt_succ 0) ?c3 ?c4 ?c5 ?_)
  case c1 => intro j u hj; rcases j with _ | j <;> simp at hj; subst hj; simp [Addr.add]
  case c2 => intro u hu; simp at hu; subst hu; rfl
  case c3 => rw [vals_length, HN.out]; show n + 1 ≤ maxLen; unfold maxLen; omega
  case c4 => rw [vals_length, HN.out]; show (n + 1) * 8 ≤ _; omega
  case c5 => have := HB.out.size; simp; omega
  intro v' w2 hO2 _ hT _
  have hv : vals l ++ [.int .i64 (-77)] = vals (l ++ [-77]) := by simp [vals]
  rw [hv] at hO2
  obtain ⟨g, cap, e, hb⟩ := owns_slice hO2 (by simp)
  rw [List.length_append, HN.out] at e
  change v' = .slice (some ⟨g, 0, none⟩) (n + 1) cap at e
  subst e
  have hL : Lent w2 w.heap.size g cap l := by unfold Lent; rw [HN.out]; exact hO2
  have hcap := hL.blk.2
  rw [HN.out] at hcap
  have HL := Lib.hid hL
  have HB2 := Lib.hid ((HB.out.alloc HB.out.size (.cells #[.int .i64 (-77)] 3)).trans (hT.below (B := w.heap.size) (fun k hk => (HO.out.block k (by simpa using hk)).1) (by have := HB.out.size; simp; omega)))
  have hc1 : (n : Int) ≤ (cap : Int) := by omega
  clear hO2 hT hv hb hL
  go_wp2
  go_ret
  exact ⟨g, cap, rfl, HL.out, HB2.out⟩
set_option maxHeartbeats 1000000 in
theorem stays10_any (B g cap : Nat) (vb : Value) (l : List Int) (w : World) (h : Lent w B g cap l) (hb : Reads w vb l) (hl : l.length ≤ 10000) :
    Calls Tryz.prog 38 #[.slice (some ⟨g, 0, none⟩) l.length cap, vb] w fun e w' => e = .returned (.bool true) ∧ ∃ q, w' = w.drewN q := by
  have C := Lib.hid (sameReads_any _ vb l w (Reads.of_owns h.owns) hb (by omega))
  have hcap := h.blk.2
  have k1 := (owns_at h (j := l.length) (by simp)).1
  simp only [List.getElem_append_right (Nat.le_refl _), Nat.sub_self, List.getElem_cons_zero] at k1
  obtain ⟨vo, vc, rfl, _⟩ := hb
  obtain ⟨n, hn⟩ : ∃ n, l.length = n := ⟨_, rfl⟩
  rw [hn] at C hl hcap k1 ⊢
  have K1 := Lib.hid k1
  have hc1 : (n : Int) + 1 ≤ (cap : Int) := by omega
  have hn0 : (0 : Int) ≤ (n : Int) := by omega
  clear hn h k1
  go_enter Tryz.func38, Tryz.ntmps38
  go_wp2_with fail
  refine C.out.mono ?_
  rintro e w1 ⟨rfl, q, rfl⟩
  clear C
  have k1 : (w.drewN q).cell? ⟨g, n, none⟩ = some (.int .i64 (-77)) := K1.out
  go_wp2
  go_ret
  exact ⟨rfl, q, rfl⟩
end Go.Proofs.YtfpaajoggbibnaaGreatDoor
/- Machines that are lent. -/
namespace Go.Proofs.YtfpaajoggbibnaaGreatDoor.Mach
open Go.RowKit Book Mem
set_option linter.unusedVariables false
set_option linter.unusedSimpArgs false
theorem three_set {w : World} {g : Nat} {cs : Array Value} {T : TypeId} (h : w.heap[g]? = some (.cells cs T (0, 0))) (a b c : Value) :
    (((w.setCell ⟨g, 2, none⟩ a).setCell ⟨g, 3, none⟩ b).setCell ⟨g, 4, none⟩ c).heap[g]? = some (.cells (((cs.setIfInBounds 2 a).setIfInBounds 3 b).setIfInBounds 4 c) T (0, 0)) ∧ Stirred w (((w.setCell ⟨g, 2, none⟩ a).setCell ⟨g, 3, none⟩ b).setCell ⟨g, 4, none⟩ c) [g] :=
  ⟨whole_set (whole_set (whole_set h 2 a) 3 b) 4 c, ((Stirred.setCell w ⟨g, 2, none⟩ a).trans (Stirred.setCell _ ⟨g, 3, none⟩ b) (fun k hk => .inl hk)).trans (Stirred.setCell _ ⟨g, 4, none⟩ c) (fun k hk => .inl hk)⟩
/-- a machine whose lists have room behind them, in which a mark stands -/
def LentM (w : World) (B : Nat) (v : Value) (m : M) : Prop := ∃ g1 c1 g2 c2 g3 c3, v = stV m (.slice (some ⟨g1, 0, none⟩) m.stack.length c1) (.slice (some ⟨g2, 0, none⟩) m.back.length c2) (.slice (some ⟨g3, 0, none⟩) m.mem.length c3) ∧ Lent w B g1 c1 m.stack ∧ Lent w B g2 c2 m.back ∧ Lent w B g3 c3 m.mem
theorem Lent.below {w w' : World} {B g cap : Nat} {l : List Int} (h : Lent w B g cap l) (hb : Below w.heap.size w w') : Lent w' B g cap l := Owns.below h hb
theorem LentM.below {w w' : World} {B : Nat} {v : Value} {m : M} (h : LentM w B v m) (hb : Below w.heap.size w w') : LentM w' B v m := by
  obtain ⟨g1, c1, g2, c2, g3, c3, e, h1, h2, h3⟩ := h
  exact ⟨g1, c1, g2, c2, g3, c3, e, Lent.below h1 hb, Lent.below h2 hb, Lent.below h3 hb⟩
theorem LentM.mono {w w' : World} {B : Nat} {v : Value} {m : M} (h : LentM w B v m) (ho : Spares w w') : LentM w' B v m := by
  obtain ⟨g1, c1, g2, c2, g3, c3, e, h1, h2, h3⟩ := h
  exact ⟨g1, c1, g2, c2, g3, c3, e, ho.owns h1, ho.owns h2, ho.owns h3⟩
theorem LentM.reads {w : World} {B : Nat} {v : Value} {m : M} (h : LentM w B v m) : ReadsM w v m := by
  obtain ⟨g1, c1, g2, c2, g3, c3, e, h1, h2, h3⟩ := h
  exact ⟨_, _, _, e, ReadsC.of_owns h1.owns, ReadsC.of_owns h2.owns, ReadsC.of_owns h3.owns⟩
/-- what is known while three lists are lent one by one -/
structure LS (w : World) (g r : Nat) (cs : Array Value) (st bk me : List Int) (o1 o2 o3 : Option (Nat × Nat)) (wc : World) : Prop where
  hb : Below w.heap.size w wc
  hg : wc.heap[g]? = some (.cells cs 24 (0, 0))
  hr : wc.heap[r]? = some (.cells zero10 24 (0, 0))
  h1 : ∀ p, o1 = some p → Lent wc w.heap.size p.1 p.2 st ∧ r < p.1
  h2 : ∀ p, o2 = some p → Lent wc w.heap.size p.1 p.2 bk ∧ r < p.1
  h3 : ∀ p, o3 = some p → Lent wc w.heap.size p.1 p.2 me ∧ r < p.1
section
variable {w : World} {g r : Nat} {cs : Array Value} {st bk me : List Int} {o1 o2 o3 : Option (Nat × Nat)} {wc wn : World}
theorem LS.step (h : LS w g r cs st bk me o1 o2 o3 wc) (hb : Below wc.heap.size wc wn) : LS w g r cs st bk me o1 o2 o3 wn :=
  ⟨h.hb.trans (hb.mono h.hb.size), (Stirred.of_below hb []).whole h.hg List.not_mem_nil, (Stirred.of_below hb []).whole h.hr List.not_mem_nil,
    fun p e => ⟨Lent.below (h.h1 p e).1 hb, (h.h1 p e).2⟩, fun p e => ⟨Lent.below (h.h2 p e).1 hb, (h.h2 p e).2⟩, fun p e => ⟨Lent.below (h.h3 p e).1 hb, (h.h3 p e).2⟩⟩
theorem LS.new (h : LS w g r cs st bk me o1 o2 o3 wc) {l k : Nat} {xs : List Int} (hl : Lent wn wc.heap.size l k xs) : Lent wn w.heap.size l k xs ∧ r < l :=
  ⟨Owns.from hl h.hb.size, Nat.lt_of_lt_of_le (whole_lt h.hr) (Owns.block hl _ hl.blk.1).1⟩
theorem LS.set1 (h : LS w g r cs st bk me o1 o2 o3 wc) {l k : Nat} (hl : Lent wn wc.heap.size l k st) (hb : Below wc.heap.size wc wn) : LS w g r cs st bk me (some (l, k)) o2 o3 wn :=
  have h' := h.step hb
  ⟨h'.hb, h'.hg, h'.hr, fun p e => by cases e; exact h.new hl, h'.h2, h'.h3⟩
theorem LS.set2 (h : LS w g r cs st bk me o1 o2 o3 wc) {l k : Nat} (hl : Lent wn wc.heap.size l k bk) (hb : Below wc.heap.size wc wn) : LS w g r cs st bk me o1 (some (l, k)) o3 wn :=
  have h' := h.step hb
  ⟨h'.hb, h'.hg, h'.hr, h'.h1, fun p e => by cases e; exact h.new hl, h'.h3⟩
theorem LS.set3 (h : LS w g r cs st bk me o1 o2 o3 wc) {l k : Nat} (hl : Lent wn wc.heap.size l k me) (hb : Below wc.heap.size wc wn) : LS w g r cs st bk me o1 o2 (some (l, k)) wn :=
  have h' := h.step hb
  ⟨h'.hb, h'.hg, h'.hr, h'.h1, h'.h2, fun p e => by cases e; exact h.new hl⟩
theorem LS.cells {ip hh : Int} {vs vb vm : Value} {ou inn : ByteArray} {rd stt cd : Int} (h : LS w g r (cells10 ip hh vs vb vm ou inn rd stt cd) st bk me o1 o2 o3 wc) :
    wc.cell? ⟨g, 2, none⟩ = some vs ∧ wc.cell? ⟨g, 3, none⟩ = some vb ∧ wc.cell? ⟨g, 4, none⟩ = some vm ∧ wc.frozen? ⟨g, 2, none⟩ = false ∧ wc.frozen? ⟨g, 3, none⟩ = false ∧ wc.frozen? ⟨g, 4, none⟩ = false :=
  ⟨whole_cell h.hg rfl, whole_cell h.hg rfl, whole_cell h.hg rfl, whole_frozen h.hg 2, whole_frozen h.hg 3, whole_frozen h.hg 4⟩
end
/-- what is there behind the three stores -/
structure LG (w : World) (g r : Nat) (ip hh : Int) (ou inn : ByteArray) (rd stt cd : Int) (st bk me : List Int) (ns nb nm l1 k1 l2 k2 l3 k3 : Nat) (wc : World) : Prop where
  hb : Below w.heap.size w wc
  hg : wc.heap[g]? = some (.cells (cells10 ip hh (.slice (some ⟨l1, 0, none⟩) ns k1) (.slice (some ⟨l2, 0, none⟩) nb k2) (.slice (some ⟨l3, 0, none⟩) nm k3) ou inn rd stt cd) 24 (0, 0))
  hr : wc.heap[r]? = some (.cells zero10 24 (0, 0))
  h1 : Lent wc w.heap.size l1 k1 st ∧ r < l1
  h2 : Lent wc w.heap.size l2 k2 bk ∧ r < l2
  h3 : Lent wc w.heap.size l3 k3 me ∧ r < l3
theorem LG.of {w : World} {g r : Nat} {ip hh : Int} {vs vb vm : Value} {ou inn : ByteArray} {rd stt cd : Int} {st bk me : List Int} {ns nb nm l1 k1 l2 k2 l3 k3 : Nat} {wc : World} (hw : w.heap.size ≤ g) (hgr : g < r) (h : LS w g r (cells10 ip hh vs vb vm ou inn rd stt cd) st bk me (some (l1, k1)) (some (l2, k2)) (some (l3, k3)) wc) :
    LG w g r ip hh ou inn rd stt cd st bk me ns nb nm l1 k1 l2 k2 l3 k3 (((wc.setCell ⟨g, 2, none⟩ (.slice (some ⟨l1, 0, none⟩) ns k1)).setCell ⟨g, 3, none⟩ (.slice (some ⟨l2, 0, none⟩) nb k2)).setCell ⟨g, 4, none⟩ (.slice (some ⟨l3, 0, none⟩) nm k3)) := by
  have hs := three_set h.hg (.slice (some ⟨l1, 0, none⟩) ns k1) (.slice (some ⟨l2, 0, none⟩) nb k2) (.slice (some ⟨l3, 0, none⟩) nm k3)
  have hl := fun {l k : Nat} {xs : List Int} (hl : Lent wc w.heap.size l k xs ∧ r < l) => (⟨hl.1.touch hs.2 (fun hm => by rw [List.mem_singleton] at hm; omega), hl.2⟩ : Lent _ w.heap.size l k xs ∧ r < l)
  exact ⟨h.hb.trans ((hs.2.below (B := w.heap.size) (fun k hk => by rw [List.mem_singleton.1 hk]; exact hw) h.hb.size)), hs.1, hs.2.whole h.hr (fun hm => by rw [List.mem_singleton] at hm; omega), hl (h.h1 _ rfl), hl (h.h2 _ rfl), hl (h.h3 _ rfl)⟩
set_option maxHeartbeats 16000000 in
set_option maxRecDepth 100000 in
theorem lentState_any {w : World} {v : Value} {m : M} (h : ReadsM w v m) (h1 : m.stack.length ≤ 10000) (h2 : m.back.length ≤ 10000) (h3 : m.mem.length ≤ 10000) :
    Calls Tryz.prog 7 #[v] w fun e w' => ∃ v', e = .returned v' ∧ LentM w' w.heap.size v' m ∧ Below w.heap.size w w' := by
  obtain ⟨vs, vb, vm, rfl, hs, hb, hm⟩ := h
  obtain ⟨ip, hh, st, bk, me, ou, inn, rd, stt, cd⟩ := m
  simp only at hs hb hm h1 h2 h3 ⊢
  obtain ⟨ns, hns⟩ : ∃ n, st.length = n := ⟨_, rfl⟩
  obtain ⟨nb, hnb⟩ : ∃ n, bk.length = n := ⟨_, rfl⟩
  obtain ⟨nm, hnm⟩ : ∃ n, me.length = n := ⟨_, rfl⟩
  have HNS := Lib.hid hns
  have HNB := Lib.hid hnb
  have HNM := Lib.hid hnm
  have C1 := Lib.hid (fun wc (hbw : Below w.heap.size w wc) => lent10_any vs st wc (hs.1.below hbw) h1)
  have C2 := Lib.hid (fun wc (hbw : Below w.heap.size w wc) => lent10_any vb bk wc (hb.1.below hbw) h2)
  have C3 := Lib.hid (fun wc (hbw : Below w.heap.size w wc) => lent10_any vm me wc (hm.1.below hbw) h3)
  rw [hns] at C1
  rw [hnb] at C2
  rw [hnm] at C3
  obtain ⟨w1, w2, g, r, hw1, hw2, hg, hr, HG, HR, HB, HZ, HW⟩ := two_boxes2 w (cells10 ip hh vs vb vm ou inn rd stt cd) zero10
  have HS : Hid (LS w g r (cells10 ip hh vs vb vm ou inn rd stt cd) st bk me none none none w2.drew) := Lib.hid ⟨HB.out.drew, HG.out, HR.out, fun p e => (by cases e), fun p e => (by cases e), fun p e => (by cases e)⟩
  clear hs hb hm h1 h2 h3 hns hnb hnm
  go_enter Tryz.func7, Tryz.ntmps7
  go_upto_region 1 with fail
  clear hw1 hw2 hg hr HG HR HB
  go_cut [] (fun wx => ∃ l1 k1 l2 k2 l3 k3, Hid (LG w g r ip hh ou inn rd stt cd st bk me ns nb nm l1 k1 l2 k2 l3 k3 wx))
  case first =>
    obtain ⟨a2, a3, a4, f2, f3, f4⟩ := HS.out.cells
    go_wp2_with fail
    go_region_with (first
      | (go_at_call_of 25 vs; refine (C1.out _ HS.out.hb).mono ?_; rintro e wn ⟨l1, k1, rfl, hl, hb⟩; have HS := Lib.hid (HS.out.set1 hl hb); clear hl hb; obtain ⟨a2, a3, a4, f2, f3, f4⟩ := HS.out.cells)
      | (go_at_call_of 25 vb; refine (C2.out _ HS.out.hb).mono ?_; rintro e wn ⟨l2, k2, rfl, hl, hb⟩; have HS := Lib.hid (HS.out.set2 hl hb); clear hl hb; obtain ⟨a2, a3, a4, f2, f3, f4⟩ := HS.out.cells)
      | (go_at_call_of 25 vm; refine (C3.out _ HS.out.hb).mono ?_; rintro e wn ⟨l3, k3, rfl, hl, hb⟩; have HS := Lib.hid (HS.out.set3 hl hb); clear hl hb; obtain ⟨a2, a3, a4, f2, f3, f4⟩ := HS.out.cells))
    all_goals
      go_wp2_with fail
      go_meet
      exact ⟨_, _, _, _, _, _, LG.of (by have := HW.out; omega) HZ.out HS.out⟩
  case rest =>
    obtain ⟨l1, k1, l2, k2, l3, k3, HF⟩ := hcut
    clear HS C1 C2 C3
    have HG := Lib.hid HF.out.hg
    have HR := Lib.hid HF.out.hr
    go_wp2_with (first
      | (refine ld_state (by rfl) _ rfl _ rfl _ _ HG.out rfl ?_)
      | (refine st_state (by rfl) _ _ rfl r _ rfl rfl _ _ HR.out rfl rfl (all_one rfl rfl rfl) ?_; intro wf hr ht; have HRF := Lib.hid hr; have HTF := Lib.hid ht; clear hr ht))
    refine bodyPost_ret (results_cell_row rfl _ _ r _ _ _ _ rfl HRF.out Tryz.underlying24 rfl state_size) rfl ?_
    have hl := fun {l k : Nat} {xs : List Int} (hl : Lent wc w.heap.size l k xs ∧ r < l) => (hl.1.touch HTF.out (fun hm => by rw [List.mem_singleton] at hm; omega) : Lent wf w.heap.size l k xs)
    refine ⟨_, rfl, ⟨l1, k1, l2, k2, l3, k3, ?_, hl HF.out.h1, hl HF.out.h2, hl HF.out.h3⟩, HF.out.hb.trans (HTF.out.below (B := w.heap.size) (fun k hk => by rw [List.mem_singleton.1 hk]; have h1 := HW.out; have h2 := HZ.out; omega) HF.out.hb.size)⟩
    simp only [HNS.out, HNB.out, HNM.out]
end Go.Proofs.YtfpaajoggbibnaaGreatDoor.Mach
/- A machine that was lent is as it was; a machine's lists are laid into a book. -/
namespace Go.Proofs.YtfpaajoggbibnaaGreatDoor.Mach
open Go.RowKit Book Mem
set_option linter.unusedVariables false
set_option linter.unusedSimpArgs false
theorem below_of_drewN {w wn : World} {q : Nat} (h : wn = w.drewN q) : Below w.heap.size w wn := by rw [h]; exact bk_below_drewN _ _ _
set_option maxHeartbeats 8000000 in
set_option maxRecDepth 100000 in
theorem staysState_any {w : World} {B : Nat} {v v' : Value} {m : M} (h : LentM w B v m) (h' : ReadsM w v' m) (h1 : m.stack.length ≤ 10000) (h2 : m.back.length ≤ 10000) (h3 : m.mem.length ≤ 10000) :
    Calls Tryz.prog 12 #[v, v'] w (Says (.bool true) w) := by
  have CS := Lib.hid (fun wc (hbw : Below w.heap.size w wc) => sameState_any (h.reads.below hbw) (h'.below hbw) (by omega) (by omega) (by omega))
  obtain ⟨g1, k1, g2, k2, g3, k3, rfl, hl1, hl2, hl3⟩ := h
  obtain ⟨vs', vb', vm', rfl, hs', hb', hm'⟩ := h'
  obtain ⟨ip, hh, st, bk, me, ou, inn, rd, stt, cd⟩ := m
  simp only at hl1 hl2 hl3 hs' hb' hm' h1 h2 h3 CS ⊢
  have C1 := Lib.hid (fun wc (hbw : Below w.heap.size w wc) => stays10_any B g1 k1 vs' st wc (Lent.below hl1 hbw) (hs'.1.below hbw) h1)
  have C2 := Lib.hid (fun wc (hbw : Below w.heap.size w wc) => stays10_any B g2 k2 vb' bk wc (Lent.below hl2 hbw) (hb'.1.below hbw) h2)
  have C3 := Lib.hid (fun wc (hbw : Below w.heap.size w wc) => stays10_any B g3 k3 vm' me wc (Lent.below hl3 hbw) (hm'.1.below hbw) h3)
  obtain ⟨ns, hns⟩ : ∃ n, st.length = n := ⟨_, rfl⟩
  obtain ⟨nb, hnb⟩ : ∃ n, bk.length = n := ⟨_, rfl⟩
  obtain ⟨nm, hnm⟩ : ∃ n, me.length = n := ⟨_, rfl⟩
  rw [hns] at C1 CS ⊢
  rw [hnb] at C2 CS ⊢
  rw [hnm] at C3 CS ⊢
  obtain ⟨w1, w2, g, r, hw1, hw2, hg, hr, HG, HR, HB, HZ, HW⟩ := two_boxes2 w (cells10 ip hh (.slice (some ⟨g1, 0, none⟩) ns k1) (.slice (some ⟨g2, 0, none⟩) nb k2) (.slice (some ⟨g3, 0, none⟩) nm k3) ou inn rd stt cd) (cells10 ip hh vs' vb' vm' ou inn rd stt cd)
  clear hl1 hl2 hl3 hs' hb' hm' h1 h2 h3 hns hnb hnm
  go_enter Tryz.func12, Tryz.ntmps12
  go_wp2_with (first
    | (refine ld_state (by rfl) _ rfl _ rfl _ _ HG.out rfl ?_)
    | (refine ld_state (by rfl) _ rfl _ rfl _ _ HR.out rfl ?_)
    | (refine ld_ints (by rfl) _ rfl _ rfl _ (whole_cell HG.out rfl) ?_)
    | (refine ld_ints (by rfl) _ rfl _ rfl _ (whole_cell HR.out rfl) ?_)
    | (go_at_call 11; (refine (CS.out _ HB.out).mono ?_); rintro e wn ⟨rfl, hbs⟩; have HB := Lib.hid (show Below w.heap.size w wn from HB.out.trans (hbs.mono HB.out.size)); have HG := Lib.hid ((Stirred.of_below (hbs) []).whole HG.out List.not_mem_nil); have HR := Lib.hid ((Stirred.of_below (hbs) []).whole HR.out List.not_mem_nil); clear hbs)
    | (go_at_call 38; (with_reducible refine (C1.out _ HB.out).mono ?_); rintro e wn ⟨rfl, q, hq⟩; have hbs := below_of_drewN hq; have HB := Lib.hid (show Below w.heap.size w wn from HB.out.trans (hbs.mono HB.out.size)); have HG := Lib.hid ((Stirred.of_below (hbs) []).whole HG.out List.not_mem_nil); have HR := Lib.hid ((Stirred.of_below (hbs) []).whole HR.out List.not_mem_nil); clear hbs hq)
    | (go_at_call 38; (with_reducible refine (C2.out _ HB.out).mono ?_); rintro e wn ⟨rfl, q, hq⟩; have hbs := below_of_drewN hq; have HB := Lib.hid (show Below w.heap.size w wn from HB.out.trans (hbs.mono HB.out.size)); have HG := Lib.hid ((Stirred.of_below (hbs) []).whole HG.out List.not_mem_nil); have HR := Lib.hid ((Stirred.of_below (hbs) []).whole HR.out List.not_mem_nil); clear hbs hq)
    | (go_at_call 38; (with_reducible refine (C3.out _ HB.out).mono ?_); rintro e wn ⟨rfl, q, hq⟩; have hbs := below_of_drewN hq; have HB := Lib.hid (show Below w.heap.size w wn from HB.out.trans (hbs.mono HB.out.size)); have HG := Lib.hid ((Stirred.of_below (hbs) []).whole HG.out List.not_mem_nil); have HR := Lib.hid ((Stirred.of_below (hbs) []).whole HR.out List.not_mem_nil); clear hbs hq))
  go_ret
  exact ⟨rfl, HB.out⟩
/-- what laying a machine's lists into a book does -/
def Laid (pb : Nat) (ls : List (Value × List Value)) (w : World) (w' : World) : Prop := ∃ vS vW, Bk w' pb vS vW ls ∧ Below pb w w' ∧ Spares w w'
set_option maxHeartbeats 8000000 in
set_option maxRecDepth 100000 in
theorem bookState_any {w : World} {pb B : Nat} {vS vW : Value} {ls : List (Value × List Value)} {vs vb vm : Value} {m : M} (h : Bk w pb vS vW ls) (ho : OwnsL w B vs vb vm m) (hpb : pb + 1 ≤ B) (hd : ∀ k ∈ blocks ls, k < B) (hls : ls.length + 3 ≤ 250)
    (h1 : m.stack.length ≤ 10000) (h2 : m.back.length ≤ 10000) (h3 : m.mem.length ≤ 10000) :
    Calls Tryz.prog 10 #[.pointer (some ⟨pb, 0, none⟩), stV m vs vb vm] w fun e w' => e = .returned (.tuple #[]) ∧ Laid pb (ls ++ [(vs, vals m.stack), (vb, vals m.back), (vm, vals m.mem)]) w w' := by
  obtain ⟨ip, hh, st, bk, me, ou, inn, rd, stt, cd⟩ := m
  simp only at ho h1 h2 h3 ⊢
  have hb1 := (Below.refl w.heap.size w).alloc (Nat.le_refl _) (.cells (cells10 ip hh vs vb vm ou inn rd stt cd) 24)
  have hn1 := heap_alloc_new w (.cells (cells10 ip hh vs vb vm ou inn rd stt cd) 24)
  obtain ⟨w1, hw1⟩ : ∃ w1, w.alloc (.cells (cells10 ip hh vs vb vm ou inn rd stt cd) 24) = w1 := ⟨_, rfl⟩
  rw [hw1] at hb1 hn1
  obtain ⟨g, hg⟩ : ∃ g, w.heap.size = g := ⟨_, rfl⟩
  rw [hg] at hn1
  have HG := Lib.hid hn1
  have HB1 := Lib.hid hb1
  have HK := Lib.hid (h.below hb1)
  have HO1 := Lib.hid (ho.st.below hb1)
  have HO2 := Lib.hid (ho.bk.below hb1)
  have HO3 := Lib.hid (ho.me.below hb1)
  have HSB := Lib.hid (And.intro ho.sb ho.bm)
  have HPB := Lib.hid hpb
  have HD := Lib.hid hd
  have HLS := Lib.hid hls
  have H1 := Lib.hid h1
  have H2 := Lib.hid h2
  have H3 := Lib.hid h3
  have HPG := Lib.hid (show pb < w.heap.size from whole_lt h.book)
  have HLW := Lib.hid (show ∀ k ∈ blocks ls, k < w.heap.size from fun k hk => (h.kept.lists.lt k hk).2)
  clear ho h hb1 hn1 hpb hd hls h1 h2 h3
  have hgb : ∀ {B v xs}, Owns w1 B 3 v xs → True := fun _ => trivial
  have C := Lib.hid (HK.out.add (by have := HLS.out; omega) HO1.out HPB.out H1.out (fun k hk hm => by have h9 := (HO1.out.block k hk).1; have h8 := HD.out k hm; omega))
  go_enter Tryz.func10, Tryz.ntmps10
  go_upto_region 1 with fail
  clear hw1 hg hgb
  go_wp2_with (first
    | (refine ld_ints (by rfl) _ rfl _ rfl _ (whole_cell HG.out rfl) ?_)
    | fail)
  refine C.out.mono ?_
  rintro e w2 ⟨rfl, vS1, vW1, hk, hb, hs⟩
  have HK2 := Lib.hid hk
  have HB2 := Lib.hid hb
  have HS2 := Lib.hid hs
  have HO1b := Lib.hid (hs.owns HO1.out)
  have HO2b := Lib.hid (hs.owns HO2.out)
  have HO3b := Lib.hid (hs.owns HO3.out)
  have HG := Lib.hid (hs _ _ _ (by decide) (by decide) HG.out)
  clear hk hb hs C
  have C := Lib.hid (HK2.out.add (by have := HLS.out; rw [List.length_append]; simp; omega) HO2b.out HPB.out H2.out (fun k hk hm => by
    rw [blocks_append, List.mem_append] at hm
    rcases hm with hm | hm
    · have h9 := (HO2.out.block k hk).1
      have h8 := HD.out k hm
      omega
    · exact (HSB.out.1 k (by simpa [blocks] using hm)).1 hk))
  go_wp2_with (first
    | (refine ld_ints (by rfl) _ rfl _ rfl _ (whole_cell HG.out rfl) ?_)
    | fail)
  refine C.out.mono ?_
  rintro e w3 ⟨rfl, vS2, vW2, hk, hb, hs⟩
  have HK3 := Lib.hid hk
  have HB3 := Lib.hid (HB2.out.trans hb)
  have HS3 := Lib.hid (HS2.out.trans hs)
  have HO3c := Lib.hid (hs.owns HO3b.out)
  have HG := Lib.hid (hs _ _ _ (by decide) (by decide) HG.out)
  clear hk hb hs C
  have C := Lib.hid (HK3.out.add (by have := HLS.out; rw [List.length_append, List.length_append]; simp; omega) HO3c.out HPB.out H3.out (fun k hk hm => by
    rw [blocks_append, blocks_append, List.mem_append, List.mem_append] at hm
    rcases hm with (hm | hm) | hm
    · have h9 := (HO3.out.block k hk).1
      have h8 := HD.out k hm
      omega
    · exact (HSB.out.1 k (by simpa [blocks] using hm)).2 hk
    · exact HSB.out.2 k (by simpa [blocks] using hm) hk))
  go_wp2_with (first
    | (refine ld_ints (by rfl) _ rfl _ rfl _ (whole_cell HG.out rfl) ?_)
    | fail)
  refine C.out.mono ?_
  rintro e w4 ⟨rfl, vS3, vW3, hk, hb, hs⟩
  have HF := Lib.hid (show Laid pb (ls ++ [(vs, vals st), (vb, vals bk), (vm, vals me)]) w w4 from ⟨vS3, vW3, by simpa using hk, ((HB1.out.mono (Nat.le_of_lt HPG.out)).trans (HB3.out.trans hb)), (Spares.of_below HB1.out).trans (HS3.out.trans hs)⟩)
  clear hk hb hs C
  go_wp2
  go_end0
  exact ⟨rfl, HF.out⟩
end Go.Proofs.YtfpaajoggbibnaaGreatDoor.Mach
/- Package inner: copying; beginning a word. -/
namespace Go.Proofs.YtfpaajoggbibnaaGreatDoor.Inn
open Go.RowKit Book Mem Mach
set_option linter.unusedVariables false
set_option linter.unusedSimpArgs false
set_option maxHeartbeats 4000000 in
set_option maxRecDepth 100000 in
/-- slices.Clone of a list wherever it lies -/
theorem clone_reads {w : World} {v : Value} {xs : List Int} (h : ReadsC w v xs) (hl : xs.length ≤ 10000) :
    Calls Tryz.prog 70 #[v] w fun e w' => ∃ c, e = .returned c ∧ Owns w' w.heap.size 3 c (vals xs) ∧ Below w.heap.size w w' := by
  obtain ⟨i0, q1, q2, q3, q4⟩ := info_parts Tryz.bkIntInfo
  have HI := Lib.hid (And.intro q1 (And.intro q2 (And.intro q3 q4)))
  have HR := Lib.hid h.1
  obtain ⟨ao, c, rfl, hc⟩ := h.2
  cases ao with
  | none =>
    have hx : xs = [] := by
      cases xs with
      | nil => rfl
      | cons x r =>
        obtain ⟨ao', c', e, hcell⟩ := h.1
        simp only [Value.slice.injEq] at e
        obtain ⟨a, ha, _⟩ := hcell 0 x rfl
        rw [← e.1] at ha
        cases ha
    subst hx
    exact (Tryz.slices_Clone_int_nil 0 c w).mono fun e w' ⟨h1, h2⟩ => by subst h2; exact ⟨_, h1, Owns.nil _ _ _, Below.refl _ _⟩
  | some ad =>
    obtain ⟨n, hn⟩ : ∃ n, xs.length = n := ⟨_, rfl⟩
    rw [hn] at hc HR
    have HN := Lib.hid hn
    have HL := Lib.hid hl
    rw [hn]
    clear h q1 q2 q3 q4 hn hl
    have hne := Lib.run_eql_slice_some_nil (P := Tryz.prog) w ad n c Tryz.underlying22
    go_enter Tryz.func70, Tryz.ntmps70
    have HB1 := Lib.hid ((Below.refl w.heap.size w).alloc (Nat.le_refl _) (.cells #[] 3))
    go_wp2_with (refine wpList_append_reads _ rfl _ _ 22 rfl w.heap.size 3 i0 (.int .i64 0) 8 Tryz.underlying22 HI.out.1 HI.out.2.1 HI.out.2.2.1 HI.out.2.2.2 rfl (.slice (some ⟨w.heap.size, 0, none⟩) 0 0) [] rfl (Owns.empty _ _ _ _) (.slice (some ad) n c) xs rfl (HR.out.below HB1.out) (by have := HL.out; unfold maxLen; simp; omega) (by have := HL.out; simp; omega) HB1.out.size ?_; intro v1 w2 ho _ ht _; have HO := Lib.hid (show Owns w2 w.heap.size 3 v1 (vals xs) from ho); have HT := Lib.hid (HB1.out.trans (ht.below (fun k hk => by simp [blk] at hk) HB1.out.size)); obtain ⟨a1, c1, e1⟩ := HO.out.slice; rw [vals_length] at e1; subst e1; clear ho ht)
    go_ret
    exact ⟨_, rfl, HO.out, HT.out⟩
theorem SS.six {w : World} {s r : Nat} {m : M} {vs vb vm : Value} {st bk me : List Int} {o1 o2 o3 : Option Value} {wc : World} (h : SS w s r (cells10 m.ip m.handler vs vb vm m.out m.inp m.read m.status m.code) st bk me o1 o2 o3 wc) :
    wc.cell? ⟨s, 2, none⟩ = some vs ∧ wc.cell? ⟨s, 3, none⟩ = some vb ∧ wc.cell? ⟨s, 4, none⟩ = some vm ∧ wc.frozen? ⟨s, 2, none⟩ = false ∧ wc.frozen? ⟨s, 3, none⟩ = false ∧ wc.frozen? ⟨s, 4, none⟩ = false :=
  ⟨whole_cell h.hs rfl, whole_cell h.hs rfl, whole_cell h.hs rfl, whole_frozen h.hs 2, whole_frozen h.hs 3, whole_frozen h.hs 4⟩
set_option maxHeartbeats 8000000 in
set_option maxRecDepth 100000 in
theorem innCopy_any {w : World} {v : Value} {m : M} (h : ReadsM w v m) (h1 : m.stack.length ≤ 10000) (h2 : m.back.length ≤ 10000) (h3 : m.mem.length ≤ 10000) :
    Calls Tryz.prog 20 #[v] w (GivesM m w) := by
  obtain ⟨vs, vb, vm, rfl, hs, hb, hm⟩ := h
  have C1 := Lib.hid (fun wc (hbw : Below w.heap.size w wc) => clone_reads (hs.below hbw) h1)
  have C2 := Lib.hid (fun wc (hbw : Below w.heap.size w wc) => clone_reads (hb.below hbw) h2)
  have C3 := Lib.hid (fun wc (hbw : Below w.heap.size w wc) => clone_reads (hm.below hbw) h3)
  obtain ⟨w1, w2, g, r, hw1, hw2, hg, hr, HG, HR, HB, HZ, HW⟩ := two_boxes w (cells10 m.ip m.handler vs vb vm m.out m.inp m.read m.status m.code)
  have HS : Hid (SS w g r (cells10 m.ip m.handler vs vb vm m.out m.inp m.read m.status m.code) m.stack m.back m.mem none none none w2.drew) := Lib.hid ⟨(show Below w.heap.size w w2 by rw [HW.out]; exact HB.out).drew, HG.out, HR.out, fun p e => (by cases e), fun p e => (by cases e), fun p e => (by cases e), fun p p' e => (by cases e), fun p p' e => (by cases e), fun p p' e => (by cases e)⟩
  clear hs hb hm h1 h2 h3
  go_enter Tryz.func20, Tryz.ntmps20
  go_upto_region 1 with fail
  clear hw1 hw2 hg hr HG HR HB
  go_cut [] (fun wx => ∃ v1 v2 v3, Hid (SG w g r m v1 v2 v3 wx))
  case first =>
    obtain ⟨a2, a3, a4, f2, f3, f4⟩ := HS.out.six
    go_wp2_with fail
    go_region_with (first
      | (go_at_call_of 70 vs; refine (C1.out _ HS.out.hb).mono ?_; rintro e wn ⟨c, rfl, hl, hb⟩; obtain ⟨ao, cc, hcc⟩ := hl.slice; rw [vals_length] at hcc; subst hcc; have HS := Lib.hid (HS.out.set1 hl hb); clear hl hb; obtain ⟨a2, a3, a4, f2, f3, f4⟩ := HS.out.six)
      | (go_at_call_of 70 vb; refine (C2.out _ HS.out.hb).mono ?_; rintro e wn ⟨c, rfl, hl, hb⟩; obtain ⟨ao, cc, hcc⟩ := hl.slice; rw [vals_length] at hcc; subst hcc; have HS := Lib.hid (HS.out.set2 hl hb); clear hl hb; obtain ⟨a2, a3, a4, f2, f3, f4⟩ := HS.out.six)
      | (go_at_call_of 70 vm; refine (C3.out _ HS.out.hb).mono ?_; rintro e wn ⟨c, rfl, hl, hb⟩; obtain ⟨ao, cc, hcc⟩ := hl.slice; rw [vals_length] at hcc; subst hcc; have HS := Lib.hid (HS.out.set3 hl hb); clear hl hb; obtain ⟨a2, a3, a4, f2, f3, f4⟩ := HS.out.six))
    all_goals
      go_wp2_with fail
      go_meet
      exact ⟨_, _, _, SG.of (by have := HW.out; omega) (by have := HZ.out; omega) HS.out⟩
  case rest =>
    obtain ⟨v1, v2, v3, HF⟩ := hcut
    clear HS C1 C2 C3
    have HG := Lib.hid HF.out.hs
    have HR := Lib.hid HF.out.hr
    have HO := Lib.hid HF.out.own
    go_wp2_with (first
      | (refine ld_state (by rfl) _ rfl _ rfl _ _ HG.out rfl ?_)
      | (refine st_state (by rfl) _ _ rfl r _ rfl rfl _ _ HR.out rfl rfl (all_one (slice_one HO.out.st.slice) (slice_one HO.out.bk.slice) (slice_one HO.out.me.slice)) ?_; intro wf hr ht; have HRF := Lib.hid hr; have HTF := Lib.hid ht; clear hr ht))
    refine bodyPost_ret (results_cell_row rfl _ _ r _ _ _ _ rfl HRF.out Tryz.underlying24 rfl state_size) rfl ?_
    have hl := fun {v : Value} {xs : List Int} (ho : Owns wc w.heap.size 3 v (vals xs)) (hf : ∀ k, blk v = some k → r < k) => (ho.touch HTF.out (fun k hk hm => by rw [List.mem_singleton] at hm; have := hf k hk; omega) : Owns wf w.heap.size 3 v (vals xs))
    refine ⟨_, rfl, ⟨v1, v2, v3, rfl, ⟨hl HO.out.st (HF.out.far _ (.inl rfl)), hl HO.out.bk (HF.out.far _ (.inr (.inl rfl))), hl HO.out.me (HF.out.far _ (.inr (.inr rfl))), HO.out.sb, HO.out.bm⟩⟩, HF.out.hb.trans (HTF.out.below (B := w.heap.size) (fun k hk => by rw [List.mem_singleton.1 hk]; have h1 := HW.out; have h2 := HZ.out; omega) HF.out.hb.size)⟩
end Go.Proofs.YtfpaajoggbibnaaGreatDoor.Inn
/- Package inner: beginning a word; a fault; a step. -/
namespace Go.Proofs.YtfpaajoggbibnaaGreatDoor.Inn
open Go.RowKit Book Mem Mach
set_option linter.unusedVariables false
set_option linter.unusedSimpArgs false
theorem OwnsL.box {w w' : World} {B g : Nat} {vs vb vm : Value} {m : M} {cs : Array Value} (h : OwnsL w B vs vb vm m) (hs : Stirred w w' [g]) (hg : w.heap[g]? = some (.cells cs 24 (0, 0))) : OwnsL w' B vs vb vm m :=
  ⟨own_box h.st hs hg, own_box h.bk hs hg, own_box h.me hs hg, h.sb, h.bm⟩
/-- what is known while a state's box is written: it, another one, lists of one's own -/
structure BX (w : World) (g r : Nat) (cs : Array Value) (v1 v2 v3 vl : Value) (m : M) (xl : List Int) (wc : World) : Prop where
  hb : Below w.heap.size w wc
  hg : wc.heap[g]? = some (.cells cs 24 (0, 0))
  hr : wc.heap[r]? = some (.cells zero10 24 (0, 0))
  own : OwnsL wc w.heap.size v1 v2 v3 m
  lst : Owns wc w.heap.size 3 vl (vals xl)
  dl : ∀ k, blk vl = some k → blk v1 ≠ some k ∧ blk v3 ≠ some k
theorem BX.set {w wc : World} {g r : Nat} {cs : Array Value} {v1 v2 v3 vl : Value} {m : M} {xl : List Int} (h : BX w g r cs v1 v2 v3 vl m xl wc) (hw : w.heap.size ≤ g) (hn : g ≠ r) (j : Nat) (v : Value) : BX w g r (cs.setIfInBounds j v) v1 v2 v3 vl m xl (wc.setCell ⟨g, j, none⟩ v) :=
  have ht := Stirred.setCell wc ⟨g, j, none⟩ v
  ⟨h.hb.trans (ht.below (fun k hk => by rw [List.mem_singleton.1 hk]; exact hw) h.hb.size), whole_set h.hg j v, ht.whole h.hr (by rw [List.mem_singleton]; exact Ne.symm hn), OwnsL.box h.own ht h.hg, own_box h.lst ht h.hg, h.dl⟩
set_option maxHeartbeats 16000000 in
set_option maxRecDepth 100000 in
theorem innEnter_any {w : World} {v : Value} {m : M} (h : ReadsM w v m) (h1 : m.stack.length ≤ 10000) (h2 : m.back.length ≤ 10000) (h3 : m.mem.length ≤ 10000) (xt : Int) :
    Calls Tryz.prog 21 #[v, .int .i64 xt] w (GivesM { m with ip := xt, handler := 0, back := [0], status := 0, code := 0 } w) := by
  have HV := Lib.hid h
  obtain ⟨vs, vb, vm, rfl, -, -, -⟩ := h
  obtain ⟨w1, w2, g, r, hw1, hw2, hg, hr, HG, HR, HB0, HZ, HW⟩ := two_boxes w (cells10 m.ip m.handler vs vb vm m.out m.inp m.read m.status m.code)
  have HBW := Lib.hid (show Below w.heap.size w w2 by have := HB0.out; rw [← HW.out] at this; exact this)
  have C := Lib.hid (innCopy_any (HV.out.below HBW.out) h1 h2 h3)
  clear h1 h2 h3
  go_enter Tryz.func21, Tryz.ntmps21
  go_upto_region 1 with fail
  clear hw1 hw2 hg hr
  go_wp2_with (refine ld_state (by rfl) _ rfl _ rfl _ _ HG.out rfl ?_)
  refine C.out.mono ?_
  rintro e w3 ⟨v, rfl, ⟨v1, v2, v3, rfl, ho⟩, hb⟩
  have HG3 := Lib.hid ((Stirred.of_below hb []).whole HG.out List.not_mem_nil)
  have HR3 := Lib.hid ((Stirred.of_below hb []).whole HR.out List.not_mem_nil)
  have HO3 := Lib.hid (⟨ho.st.from HBW.out.size, ho.bk.from HBW.out.size, ho.me.from HBW.out.size, ho.sb, ho.bm⟩ : OwnsL w3 w.heap.size v1 v2 v3 m)
  have HB3 := Lib.hid (HBW.out.trans (hb.mono HBW.out.size))
  clear ho hb C
  go_upto_region 2 with (refine st_state (by rfl) _ _ rfl g _ rfl rfl _ _ HG3.out rfl rfl (all_one (slice_one HO3.out.st.slice) (slice_one HO3.out.bk.slice) (slice_one HO3.out.me.slice)) ?_; intro w4 hg4 ht4; have HG4 := Lib.hid hg4; have HT4 := Lib.hid ht4; clear hg4 ht4)
  dsimp only [Act.put]
  have HO4 := Lib.hid (OwnsL.box HO3.out HT4.out HG3.out)
  have HR4 := Lib.hid (HT4.out.whole HR3.out (by have := HZ.out; rw [List.mem_singleton]; omega))
  have HB4 := Lib.hid (HB3.out.trans (HT4.out.below (fun k hk => by rw [List.mem_singleton.1 hk]; exact Nat.le_of_eq HW.out) HB3.out.size))
  obtain ⟨w5, gl, hw5, hgl, HRW, HB5, HGL⟩ := row_box w4 [(0 : Int)]
  change w4.alloc (.cells #[.int .i64 0] 3) = w5 at hw5
  have HX := Lib.hid (show BX w g r (cells10 m.ip m.handler v1 v2 v3 m.out m.inp m.read m.status m.code) v1 v2 v3 (.slice (some ⟨gl, 0, none⟩) 1 1) m [0] w5 from
    ⟨HB4.out.trans (HB5.out.mono HB4.out.size), (Stirred.of_below HB5.out []).whole HG4.out List.not_mem_nil, (Stirred.of_below HB5.out []).whole HR4.out List.not_mem_nil, HO4.out.below HB5.out,
      .inr ⟨gl, 1, (vals [0]).toArray, rfl, by decide, by have := HB4.out.size; have := HGL.out; omega, HRW.out.1, by decide, by unfold maxLen; decide, by simp, by simp⟩,
      fun k hk => by
        obtain rfl : gl = k := by simpa [blk] using hk
        exact ⟨fun e => by have := (HO4.out.st.block gl e).2.1; have := HGL.out; omega, fun e => by have := (HO4.out.me.block gl e).2.1; have := HGL.out; omega⟩⟩)
  have hgr : g ≠ r := by have := HZ.out; omega
  have X1 := HX.out.set (Nat.le_of_eq HW.out) hgr 0 (.int .i64 xt)
  have X2 := X1.set (Nat.le_of_eq HW.out) hgr 1 (.int .i64 0)
  have X3 := X2.set (Nat.le_of_eq HW.out) hgr 3 (.slice (some ⟨gl, 0, none⟩) 1 1)
  have X4 := X3.set (Nat.le_of_eq HW.out) hgr 8 (.int .i64 0)
  have X5 := Lib.hid (X4.set (Nat.le_of_eq HW.out) hgr 9 (.int .i64 0))
  have k0 : w5.cell? ⟨g, 0, none⟩ = some (.int .i64 m.ip) := whole_cell HX.out.hg rfl
  have k1 : w5.cell? ⟨g, 1, none⟩ = some (.int .i64 m.handler) := whole_cell HX.out.hg rfl
  have k3 : w5.cell? ⟨g, 3, none⟩ = some v2 := whole_cell HX.out.hg rfl
  have k8 : w5.cell? ⟨g, 8, none⟩ = some (.int .i64 m.status) := whole_cell HX.out.hg rfl
  have k9 : w5.cell? ⟨g, 9, none⟩ = some (.int .i64 m.code) := whole_cell HX.out.hg rfl
  have f0 : w5.frozen? ⟨g, 0, none⟩ = false := whole_frozen HX.out.hg 0
  have f1 : w5.frozen? ⟨g, 1, none⟩ = false := whole_frozen HX.out.hg 1
  have f3 : w5.frozen? ⟨g, 3, none⟩ = false := whole_frozen HX.out.hg 3
  have f8 : w5.frozen? ⟨g, 8, none⟩ = false := whole_frozen HX.out.hg 8
  have f9 : w5.frozen? ⟨g, 9, none⟩ = false := whole_frozen HX.out.hg 9
  clear X1 X2 X3 X4
  go_upto_region 4 with fail
  clear k0 k1 k3 k8 k9 f0 f1 f3 f8 f9 hw5 hgl
  go_wp2_with (first
    | (refine ld_state (by rfl) _ rfl _ rfl _ _ X5.out.hg rfl ?_)
    | (refine st_state (by rfl) _ _ rfl r _ rfl rfl _ _ X5.out.hr rfl rfl (all_one (slice_one X5.out.own.st.slice) rfl (slice_one X5.out.own.me.slice)) ?_; intro wf hrf htf; have HRF := Lib.hid hrf; have HTF := Lib.hid htf; clear hrf htf))
  refine bodyPost_ret (results_cell_row rfl _ _ r _ _ _ _ rfl HRF.out Tryz.underlying24 rfl state_size) rfl ?_
  have hO := OwnsL.box X5.out.own HTF.out X5.out.hr
  have hL := own_box X5.out.lst HTF.out X5.out.hr
  refine ⟨_, rfl, ⟨v1, .slice (some ⟨gl, 0, none⟩) 1 1, v3, rfl, ⟨hO.st, hL, hO.me, fun k e => ⟨fun e2 => (X5.out.dl k e2).1 e, (hO.sb k e).2⟩, fun k e => (X5.out.dl k e).2⟩⟩, X5.out.hb.trans (HTF.out.below (fun k hk => by rw [List.mem_singleton.1 hk]; have h1 := HW.out; have h2 := HZ.out; omega) X5.out.hb.size)⟩
set_option maxHeartbeats 16000000 in
set_option maxRecDepth 100000 in
theorem innStep_any {w : World} {v : Value} {m : M} (h : ReadsM w v m) (hr : Right m) (hc : Cells m) (hin : m.inp.size ≤ maxLen) (hE : ∀ wc, Below w.heap.size w wc → Tabs wc) :
    Calls Tryz.prog 8 #[v] w (GivesM (Mach.step m) w) := by
  have HV := Lib.hid h
  obtain ⟨vs, vb, vm, rfl, -, -, -⟩ := h
  obtain ⟨w1, w2, g, r, hw1, hw2, hg, hr', HG, HR, HB0, HZ, HW⟩ := two_boxes w (cells10 m.ip m.handler vs vb vm m.out m.inp m.read m.status m.code)
  have HBW := Lib.hid (show Below w.heap.size w w2 by have := HB0.out; rw [← HW.out] at this; exact this)
  have C := Lib.hid (innRun_nat (HV.out.below HBW.out) hr hc hin (fun wc hb => hE wc (HBW.out.trans (hb.mono HBW.out.size))) 1 (by decide))
  have hst : (Mach.run 1 m).1 = Mach.step m := by
    by_cases h0 : m.status = 0
    · rw [run_go h0]; rfl
    · rw [run_still h0]; unfold Mach.step; rw [if_pos h0]
  rw [runI_nat, hst] at C
  clear hr hc hin hE hst
  go_enter Tryz.func8, Tryz.ntmps8
  go_upto_region 1 with fail
  clear hw1 hw2 hg hr'
  go_wp2_with (refine ld_state (by rfl) _ rfl _ rfl _ _ HG.out rfl ?_)
  refine C.out.mono ?_
  rintro e w3 ⟨v, rfl, ⟨v1, v2, v3, rfl, ho⟩, hb⟩
  have HG3 := Lib.hid ((Stirred.of_below hb []).whole HG.out List.not_mem_nil)
  have HR3 := Lib.hid ((Stirred.of_below hb []).whole HR.out List.not_mem_nil)
  have HO3 := Lib.hid (⟨ho.st.from HBW.out.size, ho.bk.from HBW.out.size, ho.me.from HBW.out.size, ho.sb, ho.bm⟩ : OwnsL w3 w.heap.size v1 v2 v3 (Mach.step m))
  have HB3 := Lib.hid (HBW.out.trans (hb.mono HBW.out.size))
  generalize Mach.step m = m1 at *
  clear ho hb C
  go_upto_region 2 with (refine st_state (by rfl) _ _ rfl g _ rfl rfl _ _ HG3.out rfl rfl (all_one (slice_one HO3.out.st.slice) (slice_one HO3.out.bk.slice) (slice_one HO3.out.me.slice)) ?_; intro w4 hg4 ht4; have HG4 := Lib.hid hg4; have HT4 := Lib.hid ht4; clear hg4 ht4)
  dsimp only [Act.put]
  have HO4 := Lib.hid (OwnsL.box HO3.out HT4.out HG3.out)
  have HR4 := Lib.hid (HT4.out.whole HR3.out (by have := HZ.out; rw [List.mem_singleton]; omega))
  have HB4 := Lib.hid (HB3.out.trans (HT4.out.below (fun k hk => by rw [List.mem_singleton.1 hk]; exact Nat.le_of_eq HW.out) HB3.out.size))
  go_wp2_with (first
    | (refine ld_state (by rfl) _ rfl _ rfl _ _ HG4.out rfl ?_)
    | (refine st_state (by rfl) _ _ rfl r _ rfl rfl _ _ HR4.out rfl rfl (all_one (slice_one HO4.out.st.slice) (slice_one HO4.out.bk.slice) (slice_one HO4.out.me.slice)) ?_; intro wf hrf htf; have HRF := Lib.hid hrf; have HTF := Lib.hid htf; clear hrf htf))
  refine bodyPost_ret (results_cell_row rfl _ _ r _ _ _ _ rfl HRF.out Tryz.underlying24 rfl state_size) rfl ?_
  exact ⟨_, rfl, ⟨v1, v2, v3, rfl, OwnsL.box HO4.out HTF.out HR4.out⟩, HB4.out.trans (HTF.out.below (fun k hk => by rw [List.mem_singleton.1 hk]; have h1 := HW.out; have h2 := HZ.out; omega) HB4.out.size)⟩
end Go.Proofs.YtfpaajoggbibnaaGreatDoor.Inn
/- The first call of hollowaylaw9's statements. -/
namespace Go.Proofs.YtfpaajoggbibnaaGreatDoor.Inn
open Go.RowKit Book Mem Mach
set_option linter.unusedVariables false
set_option linter.unusedSimpArgs false
def aliveMem : List Int := (((((bootMem 48 300).set 192 2).set 193 3).set 194 6).set 195 13).set 196 5
def aliveM : M := { bootM 300 ⟨#[]⟩ with mem := aliveMem }
def aliveE : M := { aliveM with ip := 192, handler := 0, back := [0], status := 0, code := 0 }
theorem alive_runs : (Mach.run 99 aliveE).2 = 94 ∧ (Mach.run 99 aliveE).1.status = 1 ∧ (Mach.run 99 aliveE).1.stack = [9] := by decide +kernel
theorem alive_right : Right aliveE := (rightM_iff aliveE).1 (by decide +kernel)
theorem alive_mem : ∀ x ∈ aliveMem, -9223372036854775808 ≤ x ∧ x ≤ 9223372036854775807 := by decide +kernel
theorem alive_cells : Cells aliveE :=
  ⟨by show Cell.In 192; unfold Cell.In; decide, by show Cell.In 0; unfold Cell.In; decide, (fun x h => by cases h), (fun x h => by rcases List.mem_singleton.1 h with rfl; unfold Cell.In; decide), (fun x h => alive_mem x h), by show Cell.In 0; unfold Cell.In; decide⟩
theorem alive_boot : (bootMem 48 300)[76]? = some 6 := by decide +kernel
theorem keep5 {w : World} {b g j : Nat} {u v : Value} (hn : b ≠ g) (h : w.cell? ⟨b, 4, none⟩ = some v) : (w.setCell ⟨g, j, none⟩ u).cell? ⟨b, 4, none⟩ = some v :=
  (Stirred.setCell w ⟨g, j, none⟩ u).cell (by rw [List.mem_singleton]; exact hn) h
theorem drewc {w : World} {a : Addr} {v : Value} (h : w.cell? a = some v) : w.drew.cell? a = some v := h
set_option maxHeartbeats 16000000 in
set_option maxRecDepth 100000 in
theorem alive_any (w : World) (hE : ∀ wc, Below w.heap.size w wc → Tabs wc) :
    Calls Tryz.prog 6 #[] w fun e w' => e = .returned (.bool true) ∧ Below w.heap.size w w' := by
  have HE := Lib.hid hE
  have C := Lib.hid (innBoot_any w 300 300 (by decide) ⟨#[]⟩)
  clear hE
  go_enter Tryz.func6, Tryz.ntmps6
  go_wp2_with fail
  refine C.out.mono ?_
  rintro e w1 ⟨v, rfl, ⟨v1, v2, v3, rfl, ho⟩, hb⟩
  have hl3 : (bootM 300 ⟨#[]⟩).mem.length = 300 := bootMem_length 48 300
  have h76 : (bootM 300 ⟨#[]⟩).mem[76]? = some 6 := alive_boot
  have HMB := Lib.hid (show aliveE = { bootM 300 ⟨#[]⟩ with mem := ((((((bootM 300 ⟨#[]⟩).mem.set 192 2).set 193 3).set 194 6).set 195 13).set 196 5), ip := 192, handler := 0, back := [0], status := 0, code := 0 } from rfl)
  have HSL := Lib.hid (show (bootM 300 ⟨#[]⟩).stack.length = 0 ∧ (bootM 300 ⟨#[]⟩).back.length = 0 from ⟨rfl, rfl⟩)
  generalize bootM 300 ⟨#[]⟩ = mb at *
  obtain ⟨g, cap, e3, hblk⟩ := owns_slice ho.me (by omega)
  rw [hl3] at e3
  subst e3
  have HO := Lib.hid ho
  have HB1 := Lib.hid hb
  obtain ⟨a1, k1, e1⟩ := ho.st.slice
  obtain ⟨a2, k2, e2⟩ := ho.bk.slice
  rw [vals_length, HSL.out.1] at e1
  rw [vals_length, HSL.out.2] at e2
  subst e1
  subst e2
  obtain ⟨w2, b, hw2, hbb, HX, HB2, HBG⟩ := new_box w1 (cells10 mb.ip mb.handler (.slice a1 0 k1) (.slice a2 0 k2) (.slice (some ⟨g, 0, none⟩) 300 cap) mb.out mb.inp mb.read mb.status mb.code) 24
  have HO2 := Lib.hid (HO.out.below HB2.out)
  have hcell : ∀ {j : Nat} {x : Int}, mb.mem[j]? = some x → w2.cell? ⟨g, j, none⟩ = some (.int .i64 x) := fun {j x} hx => by
    have hj := (List.getElem?_eq_some_iff.1 hx).1
    rw [(owns_at HO2.out.me hj).1]
    congr 2
    rw [List.getElem?_eq_getElem hj] at hx
    exact Option.some.inj hx
  have q76 := hcell h76
  have q192 : w2.cell? ⟨g, 192, none⟩ = some (.int .i64 (mb.mem[192]'(by omega))) := hcell (List.getElem?_eq_getElem _)
  have f192 : w2.frozen? ⟨g, 192, none⟩ = false := (owns_at HO2.out.me (j := 192) (by omega)).2
  generalize mb.mem[192]'(by omega) = z192 at q192
  have q193 : w2.cell? ⟨g, 193, none⟩ = some (.int .i64 (mb.mem[193]'(by omega))) := hcell (List.getElem?_eq_getElem _)
  have f193 : w2.frozen? ⟨g, 193, none⟩ = false := (owns_at HO2.out.me (j := 193) (by omega)).2
  generalize mb.mem[193]'(by omega) = z193 at q193
  have q194 : w2.cell? ⟨g, 194, none⟩ = some (.int .i64 (mb.mem[194]'(by omega))) := hcell (List.getElem?_eq_getElem _)
  have f194 : w2.frozen? ⟨g, 194, none⟩ = false := (owns_at HO2.out.me (j := 194) (by omega)).2
  generalize mb.mem[194]'(by omega) = z194 at q194
  have q195 : w2.cell? ⟨g, 195, none⟩ = some (.int .i64 (mb.mem[195]'(by omega))) := hcell (List.getElem?_eq_getElem _)
  have f195 : w2.frozen? ⟨g, 195, none⟩ = false := (owns_at HO2.out.me (j := 195) (by omega)).2
  generalize mb.mem[195]'(by omega) = z195 at q195
  have q196 : w2.cell? ⟨g, 196, none⟩ = some (.int .i64 (mb.mem[196]'(by omega))) := hcell (List.getElem?_eq_getElem _)
  have f196 : w2.frozen? ⟨g, 196, none⟩ = false := (owns_at HO2.out.me (j := 196) (by omega)).2
  generalize mb.mem[196]'(by omega) = z196 at q196
  have d4 : w2.cell? ⟨b, 4, none⟩ = some (.slice (some ⟨g, 0, none⟩) 300 cap) := whole_cell HX.out rfl
  have d0 : w2.drew.cell? ⟨b, 4, none⟩ = some (.slice (some ⟨g, 0, none⟩) 300 cap) := d4
  have HGB := Lib.hid (show b ≠ g from fun e => by have h1 := (HO.out.me.block g hblk).2.1; have h2 := HBG.out; omega)
  have HL3 := Lib.hid hl3
  clear ho hb C hl3 h76 hcell
  go_wp2_with fail
  go_region_held3 (fun w' => w'.cell? ⟨b, 4, none⟩ = some (.slice (some ⟨g, 0, none⟩) 300 cap))
    (first
      | with_reducible exact d0
      | with_reducible exact drewc (keep5 HGB.out d4)
      | with_reducible exact drewc (keep5 HGB.out (keep5 HGB.out d4))
      | with_reducible exact drewc (keep5 HGB.out (keep5 HGB.out (keep5 HGB.out d4)))
      | with_reducible exact drewc (keep5 HGB.out (keep5 HGB.out (keep5 HGB.out (keep5 HGB.out d4))))
      | with_reducible exact drewc (keep5 HGB.out (keep5 HGB.out (keep5 HGB.out (keep5 HGB.out (keep5 HGB.out d4))))))
    (fail)
  have hst : Stirred w2 (((((w2.setCell ⟨g, 192, none⟩ (.int .i64 2)).setCell ⟨g, 193, none⟩ (.int .i64 3)).setCell ⟨g, 194, none⟩ (.int .i64 6)).setCell ⟨g, 195, none⟩ (.int .i64 13)).setCell ⟨g, 196, none⟩ (.int .i64 5)).drew [g] := (((((Stirred.setCell w2 ⟨g, 192, none⟩ (.int .i64 2)).trans (Stirred.setCell _ ⟨g, 193, none⟩ (.int .i64 3)) (fun k hk => .inl hk)).trans (Stirred.setCell _ ⟨g, 194, none⟩ (.int .i64 6)) (fun k hk => .inl hk)).trans (Stirred.setCell _ ⟨g, 195, none⟩ (.int .i64 13)) (fun k hk => .inl hk)).trans (Stirred.setCell _ ⟨g, 196, none⟩ (.int .i64 5)) (fun k hk => .inl hk)).trans (Stirred.drew _ [g]) (fun k hk => .inl hk)
  have hme : Owns (((((w2.setCell ⟨g, 192, none⟩ (.int .i64 2)).setCell ⟨g, 193, none⟩ (.int .i64 3)).setCell ⟨g, 194, none⟩ (.int .i64 6)).setCell ⟨g, 195, none⟩ (.int .i64 13)).setCell ⟨g, 196, none⟩ (.int .i64 5)).drew w.heap.size 3 (.slice (some ⟨g, 0, none⟩) 300 cap) (vals (((((mb.mem.set 192 2).set 193 3).set 194 6).set 195 13).set 196 5)) := by
    have h1 := ((((HO2.out.me.stored 192 (.int .i64 2)).stored 193 (.int .i64 3)).stored 194 (.int .i64 6)).stored 195 (.int .i64 13)).stored 196 (.int .i64 5)
    rw [vals_set, vals_set, vals_set, vals_set, vals_set] at h1
    exact h1
  have HO7 := Lib.hid (show OwnsL (((((w2.setCell ⟨g, 192, none⟩ (.int .i64 2)).setCell ⟨g, 193, none⟩ (.int .i64 3)).setCell ⟨g, 194, none⟩ (.int .i64 6)).setCell ⟨g, 195, none⟩ (.int .i64 13)).setCell ⟨g, 196, none⟩ (.int .i64 5)).drew w.heap.size (.slice a1 0 k1) (.slice a2 0 k2) (.slice (some ⟨g, 0, none⟩) 300 cap) { mb with mem := (((((mb.mem.set 192 2).set 193 3).set 194 6).set 195 13).set 196 5) } from
    ⟨HO2.out.st.touch hst (fun k hk hm => by rw [List.mem_singleton] at hm; subst hm; exact (HO2.out.sb k hk).2 hblk), HO2.out.bk.touch hst (fun k hk hm => by rw [List.mem_singleton] at hm; subst hm; exact HO2.out.bm k hk hblk), hme, HO2.out.sb, HO2.out.bm⟩)
  have HX7 := Lib.hid (hst.whole HX.out (by rw [List.mem_singleton]; exact HGB.out))
  have hgw : w.heap.size ≤ g := (HO.out.me.block g hblk).1
  have HB7 := Lib.hid ((HB1.out.trans (HB2.out.mono HB1.out.size)).trans (hst.below (B := w.heap.size) (fun k hk => by rw [List.mem_singleton.1 hk]; exact hgw) (Nat.le_trans HB1.out.size HB2.out.size)))
  clear hst hme hgw hw2 hbb q76 q192 q193 q194 q195 q196 f192 f193 f194 f195 f196 d4 d0
  generalize (((((w2.setCell ⟨g, 192, none⟩ (.int .i64 2)).setCell ⟨g, 193, none⟩ (.int .i64 3)).setCell ⟨g, 194, none⟩ (.int .i64 6)).setCell ⟨g, 195, none⟩ (.int .i64 13)).setCell ⟨g, 196, none⟩ (.int .i64 5)).drew = w7 at *
  have HRD := Lib.hid (OwnsM.reads ⟨_, _, _, rfl, HO7.out⟩ : ReadsM w7 (stV { mb with mem := (((((mb.mem.set 192 2).set 193 3).set 194 6).set 195 13).set 196 5) } (.slice a1 0 k1) (.slice a2 0 k2) (.slice (some ⟨g, 0, none⟩) 300 cap)) { mb with mem := (((((mb.mem.set 192 2).set 193 3).set 194 6).set 195 13).set 196 5) })
  have C := Lib.hid (innEnter_any HRD.out (by have := HSL.out.1; show mb.stack.length ≤ 10000; omega) (by have := HSL.out.2; show mb.back.length ≤ 10000; omega) (by have := HL3.out; simp only [List.length_set]; omega) 192)
  simp only at C
  rw [← HMB.out] at C
  clear HMB HSL HL3 HO HO2 HX HRD
  go_wp2_with (refine ld_state (by rfl) _ rfl _ rfl _ _ HX7.out rfl ?_)
  refine C.out.mono ?_
  rintro e w8 ⟨v, rfl, ho, hb⟩
  have HB8 := Lib.hid (HB7.out.trans (hb.mono HB7.out.size))
  have D := Lib.hid (innRun_nat (OwnsM.reads ho) alive_right alive_cells (by show (0 : Nat) ≤ maxLen; exact Nat.zero_le _) (fun wc hbc => HE.out wc (HB8.out.trans (hbc.mono HB8.out.size))) 99 (by decide))
  rw [runI_nat] at D
  obtain ⟨r1, r2, r3⟩ := alive_runs
  rw [r1] at D
  generalize (Mach.run 99 aliveE).1 = mf at *
  obtain ⟨u1, u2, u3, rfl, -⟩ := ho
  clear hb C HX7 HO7 r1
  go_wp2_with fail
  refine D.out.mono ?_
  rintro e w9 ⟨v, rfl, ⟨v1, v2, v3, rfl, ho⟩, hb⟩
  have HB9 := Lib.hid (HB8.out.trans (hb.mono HB8.out.size))
  obtain ⟨h, ch, e1, -⟩ := owns_slice ho.st (by rw [r3]; decide)
  rw [show mf.stack.length = 1 by rw [r3]; rfl] at e1
  subst e1
  have k9 : w9.cell? ⟨h, 0, none⟩ = some (.int .i64 9) := by
    rw [(owns_at ho.st (j := 0) (by rw [r3]; decide)).1]
    congr 2
    simp [r3]
  obtain ⟨a4, k4, e4⟩ := ho.bk.slice
  obtain ⟨a5, k5, e5⟩ := ho.me.slice
  rw [vals_length] at e4 e5
  subst e4
  subst e5
  obtain ⟨w10, b2, hw10, hb2, HX10, HB10, HBG10⟩ := new_box w9 (cells10 mf.ip mf.handler (.slice (some ⟨h, 0, none⟩) 1 ch) (.slice a4 mf.back.length k4) (.slice a5 mf.mem.length k5) mf.out mf.inp mf.read mf.status mf.code) 24
  have hk9 := (Stirred.of_below HB10.out []).cell List.not_mem_nil k9
  have m8 : w10.cell? ⟨b2, 8, none⟩ = some (.int .i64 mf.status) := whole_cell HX10.out rfl
  have m2 : w10.cell? ⟨b2, 2, none⟩ = some (.slice (some ⟨h, 0, none⟩) 1 ch) := whole_cell HX10.out rfl
  rw [r2] at m8
  have HBX := Lib.hid (HB9.out.trans (HB10.out.mono HB9.out.size))
  clear ho hb D r2 r3 k9
  go_wp2
  go_ret
  exact ⟨rfl, HBX.out⟩
end Go.Proofs.YtfpaajoggbibnaaGreatDoor.Inn
