/- Lists that came in, lent and held against one's own, as long as a machine's memory. -/
import Derived.Test.YtpecingkoodmfaaGreatDoorS17
import Derived.Test.YtpecingkoodmfaaGreatDoorS20
import Derived.Deep.RegionWith
import Derived.Deep.DeepCutAuto
namespace Go.Proofs.YtpecingkoodmfaaGreatDoor
open Go.RowKit Book Mem
set_option linter.unusedSimpArgs false
set_option linter.unusedVariables false
set_option maxHeartbeats 1000000 in
theorem lent10_any (v : Value) (l : List Int) (w : World) (h : Reads w v l) (hl : l.length ≤ 10000) :
    Calls Tryz.prog 29 #[v] w fun e w' => ∃ g cap, e = .returned (.slice (some ⟨g, 0, none⟩) l.length cap) ∧ Lent w' w.heap.size g cap l ∧ Below w.heap.size w w' := by
  obtain ⟨i0, q1, q2, q3, q4⟩ := info_parts Tryz.bkIntInfo
  have HI := Lib.hid (And.intro q1 (And.intro q2 (And.intro q3 q4)))
  have C := Lib.hid (copyReads_any v l w h (by omega))
  obtain ⟨vo, vc, rfl, _⟩ := h
  obtain ⟨n, hn⟩ : ∃ n, l.length = n := ⟨_, rfl⟩
  have HN := Lib.hid hn
  rw [hn] at C hl ⊢
  clear q1 q2 q3 q4 hn
  go_enter Tryz.func29, Tryz.ntmps29
  go_wp2_with fail
  refine C.out.mono ?_
  rintro e w1 ⟨c, rfl, hO, hB⟩
  obtain ⟨co, cc, hcv⟩ := hO.slice
  rw [vals_length, HN.out] at hcv
  subst hcv
  have hal := (Below.refl w1.heap.size w1).alloc (Nat.le_refl _) (.cells #[.int .i64 (-77)] 3)
  have HO := Lib.hid (hO.below hal)
  have HB := Lib.hid hB
  clear hO hB C hal
  go_wp2_with (at_builtin; refine wpList_append_two _ rfl _ _ 24 rfl w.heap.size 3 i0 (.int .i64 0) 8 Tryz.underlying24 HI.out.1 HI.out.2.1 HI.out.2.2.1 HI.out.2.2.2 rfl _ _ rfl HO.out ⟨w1.heap.size, 0, none⟩ 1 1 [.int .i64 (-77)] rfl rfl ?c1 ?c2 (Nat.zero_lt_succ 0) ?c3 ?c4 ?c5 ?_)
  case c1 => intro j u hj; rcases j with _ | j <;> simp at hj; subst hj; simp [Addr.add]
  case c2 => intro u hu; simp at hu; subst hu; rfl
  case c3 => rw [vals_length, HN.out]; show n + 1 ≤ maxLen; unfold maxLen; omega
  case c4 => rw [vals_length, HN.out]; show (n + 1) * 8 ≤ _; omega
  case c5 => have := HB.out.size; simp; omega
  intro v' w2 hO2 _ hT _
  have hv : vals l ++ [.int .i64 (-77)] = vals (l ++ [-77]) := by simp [vals]
  rw [hv] at hO2
  obtain ⟨g, cap, e, hb⟩ := owns_slice hO2 (by simp)
  rw [List.length_append, HN.out] at e
  change v' = .slice (some ⟨g, 0, none⟩) (n + 1) cap at e
  subst e
  have hL : Lent w2 w.heap.size g cap l := by unfold Lent; rw [HN.out]; exact hO2
  have hcap := hL.blk.2
  rw [HN.out] at hcap
  have HL := Lib.hid hL
  have HB2 := Lib.hid ((HB.out.alloc HB.out.size (.cells #[.int .i64 (-77)] 3)).trans (hT.below (B := w.heap.size) (fun k hk => (HO.out.block k (by simpa using hk)).1) (by have := HB.out.size; simp; omega)))
  have hc1 : (n : Int) ≤ (cap : Int) := by omega
  clear hO2 hT hv hb hL
  go_wp2
  go_ret
  exact ⟨g, cap, rfl, HL.out, HB2.out⟩
set_option maxHeartbeats 1000000 in
theorem stays10_any (B g cap : Nat) (vb : Value) (l : List Int) (w : World) (h : Lent w B g cap l) (hb : Reads w vb l) (hl : l.length ≤ 10000) :
    Calls Tryz.prog 37 #[.slice (some ⟨g, 0, none⟩) l.length cap, vb] w fun e w' => e = .returned (.bool true) ∧ ∃ q, w' = w.drewN q := by
  have C := Lib.hid (sameReads_any _ vb l w (Reads.of_owns h.owns) hb (by omega))
  have hcap := h.blk.2
  have k1 := (owns_at h (j := l.length) (by simp)).1
  simp only [List.getElem_append_right (Nat.le_refl _), Nat.sub_self, List.getElem_cons_zero] at k1
  obtain ⟨vo, vc, rfl, _⟩ := hb
  obtain ⟨n, hn⟩ : ∃ n, l.length = n := ⟨_, rfl⟩
  rw [hn] at C hl hcap k1 ⊢
  have K1 := Lib.hid k1
  have hc1 : (n : Int) + 1 ≤ (cap : Int) := by omega
  have hn0 : (0 : Int) ≤ (n : Int) := by omega
  clear hn h k1
  go_enter Tryz.func37, Tryz.ntmps37
  go_wp2_with fail
  refine C.out.mono ?_
  rintro e w1 ⟨rfl, q, rfl⟩
  clear C
  have k1 : (w.drewN q).cell? ⟨g, n, none⟩ = some (.int .i64 (-77)) := K1.out
  go_wp2
  go_ret
  exact ⟨rfl, q, rfl⟩
end Go.Proofs.YtpecingkoodmfaaGreatDoor
/- Machines that are lent. -/
namespace Go.Proofs.YtpecingkoodmfaaGreatDoor.Mach
open Go.RowKit Book Mem
set_option linter.unusedVariables false
set_option linter.unusedSimpArgs false
theorem three_set {w : World} {g : Nat} {cs : Array Value} {T : TypeId} (h : w.heap[g]? = some (.cells cs T (0, 0))) (a b c : Value) :
    (((w.setCell ⟨g, 2, none⟩ a).setCell ⟨g, 3, none⟩ b).setCell ⟨g, 4, none⟩ c).heap[g]? = some (.cells (((cs.setIfInBounds 2 a).setIfInBounds 3 b).setIfInBounds 4 c) T (0, 0)) ∧ Stirred w (((w.setCell ⟨g, 2, none⟩ a).setCell ⟨g, 3, none⟩ b).setCell ⟨g, 4, none⟩ c) [g] :=
  ⟨whole_set (whole_set (whole_set h 2 a) 3 b) 4 c, ((Stirred.setCell w ⟨g, 2, none⟩ a).trans (Stirred.setCell _ ⟨g, 3, none⟩ b) (fun k hk => .inl hk)).trans (Stirred.setCell _ ⟨g, 4, none⟩ c) (fun k hk => .inl hk)⟩
/-- a machine whose lists have room behind them, in which a mark stands -/
def LentM (w : World) (B : Nat) (v : Value) (m : M) : Prop := ∃ g1 c1 g2 c2 g3 c3, v = stV m (.slice (some ⟨g1, 0, none⟩) m.stack.length c1) (.slice (some ⟨g2, 0, none⟩) m.back.length c2) (.slice (some ⟨g3, 0, none⟩) m.mem.length c3) ∧ Lent w B g1 c1 m.stack ∧ Lent w B g2 c2 m.back ∧ Lent w B g3 c3 m.mem
theorem Lent.below {w w' : World} {B g cap : Nat} {l : List Int} (h : Lent w B g cap l) (hb : Below w.heap.size w w') : Lent w' B g cap l := Owns.below h hb
theorem LentM.below {w w' : World} {B : Nat} {v : Value} {m : M} (h : LentM w B v m) (hb : Below w.heap.size w w') : LentM w' B v m := by
  obtain ⟨g1, c1, g2, c2, g3, c3, e, h1, h2, h3⟩ := h
  exact ⟨g1, c1, g2, c2, g3, c3, e, Lent.below h1 hb, Lent.below h2 hb, Lent.below h3 hb⟩
theorem LentM.reads {w : World} {B : Nat} {v : Value} {m : M} (h : LentM w B v m) : ReadsM w v m := by
  obtain ⟨g1, c1, g2, c2, g3, c3, e, h1, h2, h3⟩ := h
  exact ⟨_, _, _, e, ReadsC.of_owns h1.owns, ReadsC.of_owns h2.owns, ReadsC.of_owns h3.owns⟩
/-- what is known while three lists are lent one by one -/
structure LS (w : World) (g r : Nat) (cs : Array Value) (st bk me : List Int) (o1 o2 o3 : Option (Nat × Nat)) (wc : World) : Prop where
  hb : Below w.heap.size w wc
  hg : wc.heap[g]? = some (.cells cs 50 (0, 0))
  hr : wc.heap[r]? = some (.cells zero10 50 (0, 0))
  h1 : ∀ p, o1 = some p → Lent wc w.heap.size p.1 p.2 st ∧ r < p.1
  h2 : ∀ p, o2 = some p → Lent wc w.heap.size p.1 p.2 bk ∧ r < p.1
  h3 : ∀ p, o3 = some p → Lent wc w.heap.size p.1 p.2 me ∧ r < p.1
section
variable {w : World} {g r : Nat} {cs : Array Value} {st bk me : List Int} {o1 o2 o3 : Option (Nat × Nat)} {wc wn : World}
theorem LS.step (h : LS w g r cs st bk me o1 o2 o3 wc) (hb : Below wc.heap.size wc wn) : LS w g r cs st bk me o1 o2 o3 wn :=
  ⟨h.hb.trans (hb.mono h.hb.size), (Stirred.of_below hb []).whole h.hg List.not_mem_nil, (Stirred.of_below hb []).whole h.hr List.not_mem_nil,
    fun p e => ⟨Lent.below (h.h1 p e).1 hb, (h.h1 p e).2⟩, fun p e => ⟨Lent.below (h.h2 p e).1 hb, (h.h2 p e).2⟩, fun p e => ⟨Lent.below (h.h3 p e).1 hb, (h.h3 p e).2⟩⟩
theorem LS.new (h : LS w g r cs st bk me o1 o2 o3 wc) {l k : Nat} {xs : List Int} (hl : Lent wn wc.heap.size l k xs) : Lent wn w.heap.size l k xs ∧ r < l :=
  ⟨Owns.from hl h.hb.size, Nat.lt_of_lt_of_le (whole_lt h.hr) (Owns.block hl _ hl.blk.1).1⟩
theorem LS.set1 (h : LS w g r cs st bk me o1 o2 o3 wc) {l k : Nat} (hl : Lent wn wc.heap.size l k st) (hb : Below wc.heap.size wc wn) : LS w g r cs st bk me (some (l, k)) o2 o3 wn :=
  have h' := h.step hb
  ⟨h'.hb, h'.hg, h'.hr, fun p e => by cases e; exact h.new hl, h'.h2, h'.h3⟩
theorem LS.set2 (h : LS w g r cs st bk me o1 o2 o3 wc) {l k : Nat} (hl : Lent wn wc.heap.size l k bk) (hb : Below wc.heap.size wc wn) : LS w g r cs st bk me o1 (some (l, k)) o3 wn :=
  have h' := h.step hb
  ⟨h'.hb, h'.hg, h'.hr, h'.h1, fun p e => by cases e; exact h.new hl, h'.h3⟩
theorem LS.set3 (h : LS w g r cs st bk me o1 o2 o3 wc) {l k : Nat} (hl : Lent wn wc.heap.size l k me) (hb : Below wc.heap.size wc wn) : LS w g r cs st bk me o1 o2 (some (l, k)) wn :=
  have h' := h.step hb
  ⟨h'.hb, h'.hg, h'.hr, h'.h1, h'.h2, fun p e => by cases e; exact h.new hl⟩
theorem LS.cells {ip hh : Int} {vs vb vm : Value} {ou inn : ByteArray} {rd stt cd : Int} (h : LS w g r (cells10 ip hh vs vb vm ou inn rd stt cd) st bk me o1 o2 o3 wc) :
    wc.cell? ⟨g, 2, none⟩ = some vs ∧ wc.cell? ⟨g, 3, none⟩ = some vb ∧ wc.cell? ⟨g, 4, none⟩ = some vm ∧ wc.frozen? ⟨g, 2, none⟩ = false ∧ wc.frozen? ⟨g, 3, none⟩ = false ∧ wc.frozen? ⟨g, 4, none⟩ = false :=
  ⟨whole_cell h.hg rfl, whole_cell h.hg rfl, whole_cell h.hg rfl, whole_frozen h.hg 2, whole_frozen h.hg 3, whole_frozen h.hg 4⟩
end
/-- what is there behind the three stores -/
structure LG (w : World) (g r : Nat) (ip hh : Int) (ou inn : ByteArray) (rd stt cd : Int) (st bk me : List Int) (ns nb nm l1 k1 l2 k2 l3 k3 : Nat) (wc : World) : Prop where
  hb : Below w.heap.size w wc
  hg : wc.heap[g]? = some (.cells (cells10 ip hh (.slice (some ⟨l1, 0, none⟩) ns k1) (.slice (some ⟨l2, 0, none⟩) nb k2) (.slice (some ⟨l3, 0, none⟩) nm k3) ou inn rd stt cd) 50 (0, 0))
  hr : wc.heap[r]? = some (.cells zero10 50 (0, 0))
  h1 : Lent wc w.heap.size l1 k1 st ∧ r < l1
  h2 : Lent wc w.heap.size l2 k2 bk ∧ r < l2
  h3 : Lent wc w.heap.size l3 k3 me ∧ r < l3
theorem LG.of {w : World} {g r : Nat} {ip hh : Int} {vs vb vm : Value} {ou inn : ByteArray} {rd stt cd : Int} {st bk me : List Int} {ns nb nm l1 k1 l2 k2 l3 k3 : Nat} {wc : World} (hw : w.heap.size ≤ g) (hgr : g < r) (h : LS w g r (cells10 ip hh vs vb vm ou inn rd stt cd) st bk me (some (l1, k1)) (some (l2, k2)) (some (l3, k3)) wc) :
    LG w g r ip hh ou inn rd stt cd st bk me ns nb nm l1 k1 l2 k2 l3 k3 (((wc.setCell ⟨g, 2, none⟩ (.slice (some ⟨l1, 0, none⟩) ns k1)).setCell ⟨g, 3, none⟩ (.slice (some ⟨l2, 0, none⟩) nb k2)).setCell ⟨g, 4, none⟩ (.slice (some ⟨l3, 0, none⟩) nm k3)) := by
  have hs := three_set h.hg (.slice (some ⟨l1, 0, none⟩) ns k1) (.slice (some ⟨l2, 0, none⟩) nb k2) (.slice (some ⟨l3, 0, none⟩) nm k3)
  have hl := fun {l k : Nat} {xs : List Int} (hl : Lent wc w.heap.size l k xs ∧ r < l) => (⟨hl.1.touch hs.2 (fun hm => by rw [List.mem_singleton] at hm; omega), hl.2⟩ : Lent _ w.heap.size l k xs ∧ r < l)
  exact ⟨h.hb.trans ((hs.2.below (B := w.heap.size) (fun k hk => by rw [List.mem_singleton.1 hk]; exact hw) h.hb.size)), hs.1, hs.2.whole h.hr (fun hm => by rw [List.mem_singleton] at hm; omega), hl (h.h1 _ rfl), hl (h.h2 _ rfl), hl (h.h3 _ rfl)⟩
set_option maxHeartbeats 16000000 in
set_option maxRecDepth 100000 in
theorem lentState_any {w : World} {v : Value} {m : M} (h : ReadsM w v m) (h1 : m.stack.length ≤ 10000) (h2 : m.back.length ≤ 10000) (h3 : m.mem.length ≤ 10000) :
    Calls Tryz.prog 28 #[v] w fun e w' => ∃ v', e = .returned v' ∧ LentM w' w.heap.size v' m ∧ Below w.heap.size w w' := by
  obtain ⟨vs, vb, vm, rfl, hs, hb, hm⟩ := h
  obtain ⟨ip, hh, st, bk, me, ou, inn, rd, stt, cd⟩ := m
  simp only at hs hb hm h1 h2 h3 ⊢
  obtain ⟨ns, hns⟩ : ∃ n, st.length = n := ⟨_, rfl⟩
  obtain ⟨nb, hnb⟩ : ∃ n, bk.length = n := ⟨_, rfl⟩
  obtain ⟨nm, hnm⟩ : ∃ n, me.length = n := ⟨_, rfl⟩
  have HNS := Lib.hid hns
  have HNB := Lib.hid hnb
  have HNM := Lib.hid hnm
  have C1 := Lib.hid (fun wc (hbw : Below w.heap.size w wc) => lent10_any vs st wc (hs.1.below hbw) h1)
  have C2 := Lib.hid (fun wc (hbw : Below w.heap.size w wc) => lent10_any vb bk wc (hb.1.below hbw) h2)
  have C3 := Lib.hid (fun wc (hbw : Below w.heap.size w wc) => lent10_any vm me wc (hm.1.below hbw) h3)
  rw [hns] at C1
  rw [hnb] at C2
  rw [hnm] at C3
  obtain ⟨w1, w2, g, r, hw1, hw2, hg, hr, HG, HR, HB, HZ, HW⟩ := two_boxes2 w (cells10 ip hh vs vb vm ou inn rd stt cd) zero10
  have HS : Hid (LS w g r (cells10 ip hh vs vb vm ou inn rd stt cd) st bk me none none none w2.drew) := Lib.hid ⟨HB.out.drew, HG.out, HR.out, fun p e => (by cases e), fun p e => (by cases e), fun p e => (by cases e)⟩
  clear hs hb hm h1 h2 h3 hns hnb hnm
  go_enter Tryz.func28, Tryz.ntmps28
  go_upto_region 1 with fail
  clear hw1 hw2 hg hr HG HR HB
  go_cut [] (fun wx => ∃ l1 k1 l2 k2 l3 k3, Hid (LG w g r ip hh ou inn rd stt cd st bk me ns nb nm l1 k1 l2 k2 l3 k3 wx))
  case first =>
    obtain ⟨a2, a3, a4, f2, f3, f4⟩ := HS.out.cells
    go_wp2_with fail
    go_region_with (first
      | (go_at_call_of 29 vs; refine (C1.out _ HS.out.hb).mono ?_; rintro e wn ⟨l1, k1, rfl, hl, hb⟩; have HS := Lib.hid (HS.out.set1 hl hb); clear hl hb; obtain ⟨a2, a3, a4, f2, f3, f4⟩ := HS.out.cells)
      | (go_at_call_of 29 vb; refine (C2.out _ HS.out.hb).mono ?_; rintro e wn ⟨l2, k2, rfl, hl, hb⟩; have HS := Lib.hid (HS.out.set2 hl hb); clear hl hb; obtain ⟨a2, a3, a4, f2, f3, f4⟩ := HS.out.cells)
      | (go_at_call_of 29 vm; refine (C3.out _ HS.out.hb).mono ?_; rintro e wn ⟨l3, k3, rfl, hl, hb⟩; have HS := Lib.hid (HS.out.set3 hl hb); clear hl hb; obtain ⟨a2, a3, a4, f2, f3, f4⟩ := HS.out.cells))
    all_goals
      go_wp2_with fail
      go_meet
      exact ⟨_, _, _, _, _, _, LG.of (by have := HW.out; omega) HZ.out HS.out⟩
  case rest =>
    obtain ⟨l1, k1, l2, k2, l3, k3, HF⟩ := hcut
    clear HS C1 C2 C3
    have HG := Lib.hid HF.out.hg
    have HR := Lib.hid HF.out.hr
    go_wp2_with (first
      | (refine ld_state (by rfl) _ rfl _ rfl _ _ HG.out rfl ?_)
      | (refine st_state (by rfl) _ _ rfl r _ rfl rfl _ _ HR.out rfl rfl (all_one rfl rfl rfl) ?_; intro wf hr ht; have HRF := Lib.hid hr; have HTF := Lib.hid ht; clear hr ht))
    refine bodyPost_ret (results_cell_row rfl _ _ r _ _ _ _ rfl HRF.out Tryz.underlying50 rfl state_size) rfl ?_
    have hl := fun {l k : Nat} {xs : List Int} (hl : Lent wc w.heap.size l k xs ∧ r < l) => (hl.1.touch HTF.out (fun hm => by rw [List.mem_singleton] at hm; omega) : Lent wf w.heap.size l k xs)
    refine ⟨_, rfl, ⟨l1, k1, l2, k2, l3, k3, ?_, hl HF.out.h1, hl HF.out.h2, hl HF.out.h3⟩, HF.out.hb.trans (HTF.out.below (B := w.heap.size) (fun k hk => by rw [List.mem_singleton.1 hk]; have h1 := HW.out; have h2 := HZ.out; omega) HF.out.hb.size)⟩
    simp only [HNS.out, HNB.out, HNM.out]
end Go.Proofs.YtpecingkoodmfaaGreatDoor.Mach
