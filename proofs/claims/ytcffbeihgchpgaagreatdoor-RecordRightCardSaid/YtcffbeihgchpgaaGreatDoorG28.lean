/- The document's own machine: what its walks have in common (new boxes, slice literals). -/
import Derived.Test.YtcffbeihgchpgaaGreatDoorG4
import Derived.BigQuiet
import Derived.Deep.QuietTactic
import Derived.Deep.DeepCutAuto
import Derived.Deep.RegionHeld3
import Derived.Deep.LoopGhost
import Derived.IntWalk
import Derived.Lib.MinMax
import Derived.Test.YtcffbeihgchpgaaGreatDoorG2
import Derived.Test.YtcffbeihgchpgaaGreatDoorG6
import Derived.Test.YtcffbeihgchpgaaGreatDoorG5
import Derived.Deep.CutBlock
namespace Go.Proofs.YtcffbeihgchpgaaGreatDoor.Mach
open Go.RowKit Book Mem
set_option linter.unusedVariables false
set_option linter.unusedSimpArgs false
/-- a new box, its world named -/
theorem newBox (w : World) (cs : Array Value) (T : TypeId) : ∃ w1 g, w.alloc (.cells cs T) = w1 ∧ w.heap.size = g ∧ Hid (w1.heap[g]? = some (.cells cs T (0, 0))) ∧ Hid (Below w.heap.size w w1) ∧ Hid (w.heap.size = g) :=
  ⟨_, _, rfl, rfl, heap_alloc_new w _, (Below.refl w.heap.size w).alloc (Nat.le_refl _) _, rfl⟩
theorem boxOn {w w' : World} {g : Nat} {cs : Array Value} {T : TypeId} (h : w.heap[g]? = some (.cells cs T (0, 0))) (hb : Below w.heap.size w w') : w'.heap[g]? = some (.cells cs T (0, 0)) := (Stirred.of_below hb []).whole h List.not_mem_nil
/-- a slice literal's row -/
theorem ownsLit {w : World} {B g n : Nat} {cs : Array Value} (h : w.heap[g]? = some (.cells cs 3 (0, 0))) (l : List Int) (hcs : cs.toList = vals l) (hn : l.length = n) (h0 : 0 < n) (hB : B ≤ g) (hl : n ≤ maxLen) : Owns w B 3 (.slice (some ⟨g, 0, none⟩) n n) (vals l) := by
  have hv : (vals l).length = n := by rw [vals_length]; exact hn
  refine .inr ⟨g, n, cs, by rw [hv], h0, hB, h, by rw [hv]; exact Nat.le_refl _, hl, by rw [← Array.length_toList, hcs, hv], ?_⟩
  rw [hcs, List.take_of_length_le (by omega)]
theorem drewK {w : World} {a : Addr} {v : Value} (h : w.cell? a = some v) : w.drew.cell? a = some v := h
end Go.Proofs.YtcffbeihgchpgaaGreatDoor.Mach
/- The document's own machine (chapter 9): a fault, told to be read. -/
namespace Go.Proofs.YtcffbeihgchpgaaGreatDoor.Inn
open Go.RowKit Book Mem Mach
set_option linter.unusedVariables false
set_option linter.unusedSimpArgs false
/-- a machine that is read where its three lists are -/
theorem readsM_of {w : World} {vs vb vm : Value} {m : M} (h1 : ReadsC w vs m.stack) (h2 : ReadsC w vb m.back) (h3 : ReadsC w vm m.mem) : ReadsM w (stV m vs vb vm) m := ⟨vs, vb, vm, rfl, h1, h2, h3⟩
theorem readsC_one {w : World} {v : Value} {xs : List Int} (h : ReadsC w v xs) : v.oneCell' = true := by
  obtain ⟨-, ao, c, rfl, -⟩ := h
  rfl
theorem fault_not {m : M} {code : Int} (h : caught m = false) : Mach.fault m code = { m with status := 2, code := code } := by unfold Mach.fault; rw [if_neg (by rw [h]; decide)]
/-- why a fault is not caught -/
theorem not_caught {m : M} (h : caught m = false) : m.handler < 3 ∨ (¬ m.handler < 3 ∧ (m.back.length : Int) < m.handler) ∨ ∃ q : Nat, ∃ d, m.handler = (q : Int) + 1 ∧ 3 ≤ q + 1 ∧ q < m.back.length ∧ m.back[q]? = some d ∧ (d < 0 ∨ ¬ d < 0 ∧ 48 ≤ d) := by
  unfold caught at h
  simp only [Bool.and_eq_false_iff, decide_eq_false_iff_not] at h
  by_cases c1 : m.handler < 3
  · exact .inl c1
  · by_cases c2 : (m.back.length : Int) < m.handler
    · exact .inr (.inl ⟨c1, c2⟩)
    · refine .inr (.inr ⟨m.handler.toNat - 1, m.back.getD (m.handler.toNat - 1) 0, by omega, by omega, by omega, by rw [List.getD_eq_getElem?_getD, List.getElem?_eq_getElem (by omega)]; rfl, ?_⟩)
      rcases h with ((h | h) | h) | h
      all_goals omega
/-- a list that was there, or a row of one's own made since -/
def Kin (w w' : World) (v : Value) (xs : List Int) (v' : Value) (xs' : List Int) : Prop := (v' = v ∧ xs' = xs) ∨ Owns w' w.heap.size 3 v' (vals xs')
theorem Kin.reads {w w' : World} {v v' : Value} {xs xs' : List Int} (h : Kin w w' v xs v' xs') (hr : ReadsC w v xs) (hb : Below w.heap.size w w') : ReadsC w' v' xs' := by
  rcases h with ⟨rfl, rfl⟩ | h
  · exact hr.below hb
  · exact ReadsC.of_owns h
theorem Kin.list {W w w' : World} {B : Nat} {v v' : Value} {xs xs' : List Int} (h : Kin w w' v xs v' xs') (hr : L W w B v xs) (hb : Below w.heap.size w w') (hB : B ≤ w.heap.size) : L W w' B v' xs' := by
  rcases h with ⟨rfl, rfl⟩ | h
  · exact hr.below hb
  · exact .inr (h.from hB)
/-- what a call answers: a machine whose lists were there, or are its own -/
def TellsK (vs vb vm : Value) (m m' : M) (w : World) (e : Ending) (w' : World) : Prop := ∃ vs' vb' vm', e = .returned (stV m' vs' vb' vm') ∧ Kin w w' vs m.stack vs' m'.stack ∧ Kin w w' vb m.back vb' m'.back ∧ Kin w w' vm m.mem vm' m'.mem ∧ Below w.heap.size w w'
theorem TellsK.tells {vs vb vm : Value} {m m' : M} {w : World} {e : Ending} {w' : World} (h : TellsK vs vb vm m m' w e w') (h1 : ReadsC w vs m.stack) (h2 : ReadsC w vb m.back) (h3 : ReadsC w vm m.mem) : TellsM m' w e w' := by
  obtain ⟨vs', vb', vm', rfl, k1, k2, k3, hb⟩ := h
  exact ⟨_, rfl, readsM_of (k1.reads h1 hb) (k2.reads h2 hb) (k3.reads h3 hb), hb⟩
theorem TellsK.list {W : World} {B : Nat} {vs vb vm : Value} {m m' : M} {w : World} {e : Ending} {w' : World} (h : TellsK vs vb vm m m' w e w') (h1 : L W w B vs m.stack) (h2 : L W w B vb m.back) (h3 : L W w B vm m.mem) (hB : B ≤ w.heap.size) : TellsL W B m' w e w' := by
  obtain ⟨vs', vb', vm', rfl, k1, k2, k3, hb⟩ := h
  exact ⟨_, rfl, ⟨_, _, _, rfl, k1.list h1 hb hB, k2.list h2 hb hB, k3.list h3 hb hB⟩, hb⟩
/-- what is answered: lists that were there -/
theorem fault_end {w w4 wf : World} {g r : Nat} {vs vb vm : Value} {m0 m : M} (e1 : m.stack = m0.stack) (e2 : m.back = m0.back) (e3 : m.mem = m0.mem) (hb4 : Below w.heap.size w w4) (ht : Stirred w4 wf [r]) (hg : w.heap.size = g) (hz : g < r) :
    TellsK vs vb vm m0 m w (.returned (stV m vs vb vm)) wf := by
  have hb : Below w.heap.size w wf := hb4.trans (ht.below (fun k hk => by rw [List.mem_singleton.1 hk]; omega) hb4.size)
  exact ⟨_, _, _, rfl, .inl ⟨rfl, e1⟩, .inl ⟨rfl, e2⟩, .inl ⟨rfl, e3⟩, hb⟩
set_option maxHeartbeats 16000000 in
set_option maxRecDepth 100000 in
theorem refFault_not {w : World} {vs vb vm : Value} {m : M} (hs : ReadsC w vs m.stack) (hb : ReadsC w vb m.back) (hm : ReadsC w vm m.mem) (hl : m.back.length ≤ 48) (code : Int) (hc : caught m = false) :
    Calls Tryz.prog 50 #[stV m vs vb vm, .int .i64 code] w (TellsK vs vb vm m (Mach.fault m code) w) := by
  rw [fault_not hc]
  have hways := not_caught hc
  obtain ⟨ip, hh, st, bk, me, ou, inn, rd, stt, cd⟩ := m
  simp only at hs hb hm hl hways ⊢
  obtain ⟨w1, w2, g, r, hw1, hw2, hg, hr, HG, HR, HB0, HZ, HW⟩ := two_boxes w (cells10 ip hh vs vb vm ou inn rd stt cd)
  have HB := Lib.hid (show Below w.heap.size w w2 by have := HB0.out; rw [← HW.out] at this; exact this)
  have HS := Lib.hid hs
  have HK := Lib.hid hb
  have HM := Lib.hid hm
  have HONE := Lib.hid (And.intro (readsC_one hs) (And.intro (readsC_one hb) (readsC_one hm)))
  have hone1 := readsC_one hs
  obtain ⟨-, so, sc, rfl, -⟩ := hs
  obtain ⟨-, mo, mc, rfl, -⟩ := hm
  obtain ⟨⟨bo, bc, rfl, hbk⟩, -⟩ := hb
  obtain ⟨nb, hnb⟩ : ∃ n, bk.length = n := ⟨_, rfl⟩
  rw [hnb] at HK HG hw1 hways hl ⊢
  have HBC := Lib.hid (fun (j : Nat) (x : Int) (hx : bk[j]? = some x) => hbk j x hx)
  -- what is written
  have HSET : Hid (∀ wz, Below w.heap.size w wz → wz.heap[g]? = some (.cells (cells10 ip hh (.slice so st.length sc) (.slice bo nb bc) (.slice mo me.length mc) ou inn rd stt cd) 24 (0, 0)) → wz.heap[r]? = some (.cells zero10 24 (0, 0)) →
      Below w.heap.size w ((wz.setCell ⟨g, 8, none⟩ (.int .i64 2)).setCell ⟨g, 9, none⟩ (.int .i64 code)) ∧ ((wz.setCell ⟨g, 8, none⟩ (.int .i64 2)).setCell ⟨g, 9, none⟩ (.int .i64 code)).heap[g]? = some (.cells (cells10 ip hh (.slice so st.length sc) (.slice bo nb bc) (.slice mo me.length mc) ou inn rd 2 code) 24 (0, 0)) ∧ ((wz.setCell ⟨g, 8, none⟩ (.int .i64 2)).setCell ⟨g, 9, none⟩ (.int .i64 code)).heap[r]? = some (.cells zero10 24 (0, 0))) := Lib.hid (fun wz h1 h2 h3 => by
    have t := (Stirred.setCell wz ⟨g, 8, none⟩ (.int .i64 2)).trans (Stirred.setCell _ ⟨g, 9, none⟩ (.int .i64 code)) (fun k hk => .inl hk)
    exact ⟨h1.trans (t.below (fun k hk => by rw [List.mem_singleton.1 (show k ∈ [g] from hk)]; exact Nat.le_of_eq HW.out) h1.size), whole_set (whole_set h2 8 (.int .i64 2)) 9 (.int .i64 code), t.whole h3 (by show r ∉ [g]; rw [List.mem_singleton]; have := HZ.out; omega)⟩)
  have k1 : w2.cell? ⟨g, 1, none⟩ = some (.int .i64 hh) := whole_cell HG.out rfl
  have k3 : w2.cell? ⟨g, 3, none⟩ = some (.slice bo nb bc) := whole_cell HG.out rfl
  have k8 : w2.cell? ⟨g, 8, none⟩ = some (.int .i64 stt) := whole_cell HG.out rfl
  have z8 := whole_frozen HG.out 8
  have z9 := whole_frozen HG.out 9
  have k9 : w2.cell? ⟨g, 9, none⟩ = some (.int .i64 cd) := whole_cell HG.out rfl
  clear hc hnb HB0 hbk hone1
  rcases hways with h1 | ⟨h1, h2⟩ | ⟨q, d, rfl, h3, h4, h5, h6⟩
  rotate_left 2
  · have e0 : (0 : Int) ≤ (q : Int) := Int.natCast_nonneg _
    have e1 : (q : Int) < (nb : Int) := by omega
    have e2 : (q : Int) + 1 - 1 = (q : Int) := by omega
    have e3 : ¬ (q : Int) + 1 < 3 := by omega
    have e4 : (q : Int) + 1 ≤ (nb : Int) := by omega
    have e5 : 3 ≤ (q : Int) + 1 := by omega
    obtain ⟨ad, rfl, hca⟩ := HBC.out q d h5
    have hcw : w2.cell? (ad.add q) = some (.int .i64 d) := by rw [HB.out.cell (World.block_lt_of_cell? w _ hca)]; exact hca
    clear hca h5 h3 h4
    rcases h6 with h6 | ⟨h6, h7⟩
    all_goals
      go_enter Tryz.func50, Tryz.ntmps50
      go_upto_region 1 with fail
      clear hw1 hw2 hg hr
      go_upto_region 11 with fail
      obtain ⟨w3, hw3⟩ : ∃ w', w2.setCell ⟨g, 8, none⟩ (.int .i64 2) = w' := ⟨_, rfl⟩
      have HT := Lib.hid (HSET.out w2 HB.out HG.out HR.out)
      have HG3 := whole_set HG.out 8 (.int .i64 2)
      rw [hw3] at HG3
      have z9' := whole_frozen HG3 9
      have k9' : w3.cell? ⟨g, 9, none⟩ = some (.int .i64 cd) := whole_cell HG3 rfl
      obtain ⟨w4, hw4⟩ : ∃ w', w3.setCell ⟨g, 9, none⟩ (.int .i64 code) = w' := ⟨_, rfl⟩
      rw [hw3, hw4] at HT
      clear z9 k9 HG3 HSET k1 k3
      go_upto_region 12 with fail
      clear hw3 hw4 z9' k9' z8 k8
      go_wp2_with (first
        | (refine ld_state (by rfl) _ rfl _ rfl _ _ HT.out.2.1 rfl ?_)
        | (refine st_state (by rfl) _ _ rfl r _ rfl rfl _ _ HT.out.2.2 rfl rfl (all_one HONE.out.1 HONE.out.2.1 HONE.out.2.2) ?_; intro wf hrf htf; have HRF := Lib.hid hrf; have HTF := Lib.hid htf; clear hrf htf))
      refine bodyPost_ret (results_cell_row rfl _ _ r _ _ _ _ rfl HRF.out Tryz.underlying24 rfl state_size) rfl ?_
      exact fault_end (m := ⟨ip, (q : Int) + 1, st, bk, me, ou, inn, rd, 2, code⟩) rfl rfl rfl HT.out.1 HTF.out HW.out HZ.out
  all_goals
    go_enter Tryz.func50, Tryz.ntmps50
    go_upto_region 1 with fail
    clear hw1 hw2 hg hr
    go_upto_region 11 with fail
    obtain ⟨w3, hw3⟩ : ∃ w', w2.setCell ⟨g, 8, none⟩ (.int .i64 2) = w' := ⟨_, rfl⟩
    have HT := Lib.hid (HSET.out w2 HB.out HG.out HR.out)
    have HG3 := whole_set HG.out 8 (.int .i64 2)
    rw [hw3] at HG3
    have z9' := whole_frozen HG3 9
    have k9' : w3.cell? ⟨g, 9, none⟩ = some (.int .i64 cd) := whole_cell HG3 rfl
    obtain ⟨w4, hw4⟩ : ∃ w', w3.setCell ⟨g, 9, none⟩ (.int .i64 code) = w' := ⟨_, rfl⟩
    rw [hw3, hw4] at HT
    clear z9 k9 HG3 HSET k1 k3
    go_upto_region 12 with fail
    clear hw3 hw4 z9' k9' z8 k8
    go_wp2_with (first
      | (refine ld_state (by rfl) _ rfl _ rfl _ _ HT.out.2.1 rfl ?_)
      | (refine st_state (by rfl) _ _ rfl r _ rfl rfl _ _ HT.out.2.2 rfl rfl (all_one HONE.out.1 HONE.out.2.1 HONE.out.2.2) ?_; intro wf hrf htf; have HRF := Lib.hid hrf; have HTF := Lib.hid htf; clear hrf htf))
    refine bodyPost_ret (results_cell_row rfl _ _ r _ _ _ _ rfl HRF.out Tryz.underlying24 rfl state_size) rfl ?_
    exact fault_end (m := ⟨ip, hh, st, bk, me, ou, inn, rd, 2, code⟩) rfl rfl rfl HT.out.1 HTF.out HW.out HZ.out
/-- where a fault is caught -/
theorem is_caught {m : M} (h : caught m = true) : ∃ K D : Nat, ∃ a2 a3, m.handler = ((K + 3 : Nat) : Int) ∧ K + 3 ≤ m.back.length ∧ m.back[K + 2]? = some (D : Int) ∧ m.back[K + 1]? = some a2 ∧ m.back[K]? = some a3 ∧ D < 48 ∧
    ∀ code, Mach.fault m code = { m with handler := a2, ip := a3, back := m.back.take K, stack := deep m.stack D ++ [code] } := by
  have h' := h
  unfold caught at h
  simp only [Bool.and_eq_true, decide_eq_true_eq] at h
  obtain ⟨⟨⟨h1, h2⟩, h3⟩, h4⟩ := h
  obtain ⟨H, hH⟩ : ∃ H : Nat, m.handler = (H : Int) := ⟨m.handler.toNat, by omega⟩
  rw [hH] at h1 h2 h3 h4
  rw [Int.toNat_natCast] at h3 h4
  obtain ⟨K, rfl⟩ : ∃ K, H = K + 3 := ⟨H - 3, by omega⟩
  have e2 : m.back[K + 2]? = some (m.back.getD (K + 2) 0) := by rw [List.getD_eq_getElem?_getD, List.getElem?_eq_getElem (by omega)]; rfl
  have e1 : m.back[K + 1]? = some (m.back.getD (K + 1) 0) := by rw [List.getD_eq_getElem?_getD, List.getElem?_eq_getElem (by omega)]; rfl
  have e0 : m.back[K]? = some (m.back.getD K 0) := by rw [List.getD_eq_getElem?_getD, List.getElem?_eq_getElem (by omega)]; rfl
  rw [show K + 3 - 1 = K + 2 by omega] at h3 h4
  refine ⟨K, (m.back.getD (K + 2) 0).toNat, _, _, hH, by omega, by rw [e2, Int.toNat_of_nonneg h3], e1, e0, by omega, fun code => ?_⟩
  unfold Mach.fault
  rw [if_pos h', hH, Int.toNat_natCast, show K + 3 - 1 = K + 2 by omega, show K + 3 - 2 = K + 1 by omega, show K + 3 - 3 = K by omega]
/-- two boxes while lists are made -/
structure FB (w : World) (g r : Nat) (cs : Array Value) (wc : World) : Prop where
  hb : Below w.heap.size w wc
  hg : wc.heap[g]? = some (.cells cs 24 (0, 0))
  hr : wc.heap[r]? = some (.cells zero10 24 (0, 0))
section
variable {w wc wn : World} {g r : Nat} {cs : Array Value}
theorem FB.on (h : FB w g r cs wc) (hb : Below wc.heap.size wc wn) : FB w g r cs wn := ⟨h.hb.trans (hb.mono h.hb.size), boxOn h.hg hb, boxOn h.hr hb⟩
theorem FB.set (h : FB w g r cs wc) (hw : w.heap.size = g) (hz : g < r) (j : Nat) (v : Value) : FB w g r (cs.setIfInBounds j v) (wc.setCell ⟨g, j, none⟩ v) :=
  have t := Stirred.setCell wc ⟨g, j, none⟩ v
  ⟨h.hb.trans (t.below (fun k hk => by rw [List.mem_singleton.1 (show k ∈ [g] from hk)]; omega) h.hb.size), whole_set h.hg j v, t.whole h.hr (by show r ∉ [g]; rw [List.mem_singleton]; omega)⟩
theorem FB.drew (h : FB w g r cs wc) : FB w g r cs wc.drew := ⟨h.hb.drew, h.hg, h.hr⟩
end
theorem own_set {wc : World} {B g j : Nat} {v u : Value} {xs : List Value} (h : Owns wc B 3 v xs) (hg : g < B) : Owns (wc.setCell ⟨g, j, none⟩ u) B 3 v xs :=
  h.touch (Stirred.setCell wc ⟨g, j, none⟩ u) (fun k hk hm => by have := (h.block k hk).1; rw [List.mem_singleton.1 (show k ∈ [g] from hm)] at this; omega)
set_option maxHeartbeats 16000000 in
set_option maxRecDepth 100000 in
theorem refFault_caught {w : World} {vs vb vm : Value} {m : M} (hs : ReadsC w vs m.stack) (hb : ReadsC w vb m.back) (hm : ReadsC w vm m.mem) (hl : m.back.length ≤ 48) (hsl : m.stack.length ≤ 48) (code : Int) (hc : caught m = true) :
    Calls Tryz.prog 50 #[stV m vs vb vm, .int .i64 code] w (TellsK vs vb vm m (Mach.fault m code) w) := by
  obtain ⟨K, D, a2, a3, eh, hK, hd, h2, h3, hD, hf⟩ := is_caught hc
  rw [hf]
  obtain ⟨ip, hh, st, bk, me, ou, inn, rd, stt, cd⟩ := m
  simp only at hs hb hm hl hsl eh hK hd h2 h3 ⊢
  subst eh
  obtain ⟨K1, hK1⟩ : ∃ k, K + 1 = k := ⟨_, rfl⟩
  obtain ⟨K2, hK2⟩ : ∃ k, K + 2 = k := ⟨_, rfl⟩
  obtain ⟨K3, hK3⟩ : ∃ k, K + 3 = k := ⟨_, rfl⟩
  rw [hK1] at h2
  rw [hK2] at hd
  rw [hK3] at hK ⊢
  obtain ⟨i0, HI1, HI2, HI3, HI4⟩ := int_facts
  have HI := Lib.hid (And.intro HI1 (And.intro HI2 (And.intro HI3 HI4)))
  clear HI1 HI2 HI3 HI4
  obtain ⟨w1, w2, g, r, hw1, hw2, hg, hr, HG, HR, HB0, HZ, HW⟩ := two_boxes w (cells10 ip K3 vs vb vm ou inn rd stt cd)
  have HB := Lib.hid (show Below w.heap.size w w2 by have := HB0.out; rw [← HW.out] at this; exact this)
  have HS := Lib.hid hs
  have HKK := Lib.hid hb
  have HM := Lib.hid hm
  have HONE := Lib.hid (readsC_one hm)
  obtain ⟨-, so, sc, rfl, -⟩ := hs
  obtain ⟨-, mo, mc, rfl, -⟩ := hm
  obtain ⟨⟨bo, bc, rfl, hbk⟩, -⟩ := hb
  obtain ⟨ad, rfl, hcd⟩ := hbk K2 _ hd
  obtain ⟨_, e, hc2⟩ := hbk K1 _ h2
  obtain rfl := Option.some.inj e
  obtain ⟨_, e, hc3⟩ := hbk K _ h3
  obtain rfl := Option.some.inj e
  obtain ⟨nb, hnb⟩ : ∃ n, bk.length = n := ⟨_, rfl⟩
  obtain ⟨n, hn⟩ : ∃ n, st.length = n := ⟨_, rfl⟩
  rw [hnb] at HKK HG hw1 hK hl ⊢
  rw [hn] at HS HG hw1 hsl ⊢
  have HN := Lib.hid (And.intro hnb (And.intro hn (And.intro hK (And.intro hK3 (And.intro hl hsl)))))
  have lift : ∀ {j : Nat} {x : Int} {wc : World}, w.cell? (ad.add j) = some (.int .i64 x) → Below w.heap.size w wc → wc.cell? (ad.add j) = some (.int .i64 x) := fun h hb => by rw [hb.cell (World.block_lt_of_cell? w _ h)]; exact h
  have HF := Lib.hid (show FB w g r _ w2 from ⟨HB.out, HG.out, HR.out⟩)
  have HAD := Lib.hid (fun wc (hb : Below w.heap.size w wc) => And.intro (lift hc2 hb) (lift hc3 hb))
  have x2 : w2.cell? (ad.add K2) = some (.int .i64 D) := lift hcd HB.out
  have x1 : w2.cell? (ad.add K1) = some (.int .i64 a2) := lift hc2 HB.out
  have x0 : w2.cell? (ad.add K) = some (.int .i64 a3) := lift hc3 HB.out
  have k1 : w2.cell? ⟨g, 1, none⟩ = some (.int .i64 K3) := whole_cell HG.out rfl
  have k0 : w2.cell? ⟨g, 0, none⟩ = some (.int .i64 ip) := whole_cell HG.out rfl
  have k3 : w2.cell? ⟨g, 3, none⟩ = some (.slice (some ad) nb bc) := whole_cell HG.out rfl
  have z0 := whole_frozen HG.out 0
  have z1 := whole_frozen HG.out 1
  have e0 : 3 ≤ (K3 : Int) := by omega
  have e1 : (K3 : Int) ≤ (nb : Int) := by omega
  have e2 : (K3 : Int) - 1 = (K2 : Int) := by omega
  have e3 : (0 : Int) ≤ (K2 : Int) := Int.natCast_nonneg _
  have e4 : (K2 : Int) < (nb : Int) := by omega
  have e5 : (0 : Int) ≤ (D : Int) := Int.natCast_nonneg _
  have e6 : (D : Int) < 48 := by omega
  have f3 : (0 : Int) ≤ (K1 : Int) := Int.natCast_nonneg _
  have f4 : (K1 : Int) < (nb : Int) := by omega
  have f5 : (0 : Int) ≤ (K : Int) := Int.natCast_nonneg _
  have f6 : (K : Int) < (nb : Int) := by omega
  have r2 : IntKind.i64.wrap ((K3 : Int) - 2) = (K1 : Int) := (IntWalk.i64_in _ (by omega)).trans (by omega)
  have r3 : IntKind.i64.wrap ((K3 : Int) - 3) = (K : Int) := (IntWalk.i64_in _ (by omega)).trans (by omega)
  have e7 : (K3 : Int) - 3 = (K : Int) := by omega
  have HE7 := Lib.hid e7
  have HADB := Lib.hid (And.intro (show (ad.add K1).block ≠ g by have := World.block_lt_of_cell? w _ hc2; have := HW.out; omega) (show (ad.add K).block ≠ g by have := World.block_lt_of_cell? w _ hc3; have := HW.out; omega))
  clear hcd hc2 hc3 hbk hd h2 h3 hf hc hnb hn hK1 hK2 hK3 lift HB0 e7
  go_enter Tryz.func50, Tryz.ntmps50
  go_upto_region 1 with fail
  clear hw1 hw2 hg hr
  go_upto_region 4 with fail
  have d3 : w2.drew.cell? ⟨g, 3, none⟩ = some (.slice (some ad) nb bc) := k3
  have y1 : w2.drew.cell? (ad.add K1) = some (.int .i64 a2) := x1
  have y0 : w2.drew.cell? (ad.add K) = some (.int .i64 a3) := x0
  have HF1 := Lib.hid (HF.out.set HW.out HZ.out 1 (.int .i64 a2))
  have HF2 := Lib.hid (HF1.out.set HW.out HZ.out 0 (.int .i64 a3))
  have q3a : (w2.setCell ⟨g, 1, none⟩ (.int .i64 a2)).cell? ⟨g, 3, none⟩ = some (.slice (some ad) nb bc) := whole_cell HF1.out.hg rfl
  have q3b : ((w2.setCell ⟨g, 1, none⟩ (.int .i64 a2)).setCell ⟨g, 0, none⟩ (.int .i64 a3)).cell? ⟨g, 3, none⟩ = some (.slice (some ad) nb bc) := whole_cell HF2.out.hg rfl
  have q1a := (HAD.out _ HF1.out.hb).1
  have q0a := (HAD.out _ HF1.out.hb).2
  have q1b := (HAD.out _ HF2.out.hb).1
  have q0b := (HAD.out _ HF2.out.hb).2
  go_region_held3 (fun w' => w'.cell? ⟨g, 3, none⟩ = some (.slice (some ad) nb bc) ∧ w'.cell? (ad.add K1) = some (.int .i64 a2) ∧ w'.cell? (ad.add K) = some (.int .i64 a3))
    (first
      | with_reducible exact ⟨d3, y1, y0⟩
      | exact ⟨drewK q3a, drewK q1a, drewK q0a⟩
      | exact ⟨drewK q3b, drewK q1b, drewK q0b⟩)
    (fail)
  have HF3 := Lib.hid HF2.out.drew
  clear q3a q3b q1a q0a q1b q0b d3 y1 y0 x2 x1 x0 k1 k0 k3 z0 z1 HF HF1 HF2 HG HR HAD e2 e3 e4 f3 f4 r2 r3
  generalize ((w2.setCell ⟨g, 1, none⟩ (.int .i64 a2)).setCell ⟨g, 0, none⟩ (.int .i64 a3)).drew = w3 at *
  have HLK := Lib.hid (show (bk.take K).length = K by have := HN.out.1; have := HN.out.2.2.1; have := HN.out.2.2.2.1; rw [List.length_take]; omega)
  have e7 := HE7.out
  have k3 : w3.cell? ⟨g, 3, none⟩ = some (.slice (some ad) nb bc) := whole_cell HF3.out.hg rfl
  have z3 := whole_frozen HF3.out.hg 3
  have HK3 := Lib.hid (HKK.out.below HF3.out.hb)
  have HGB := Lib.hid (show g < w3.heap.size from whole_lt HF3.out.hg)
  have HRG := Lib.hid (show r < w3.heap.size from whole_lt HF3.out.hr)
  go_upto_region 6 with (first
    | (refine wpList_slice_part (o := ⟨_, Op.slice _ _ _ _ none, _, _, _, _⟩) (by rfl) _ _ _ _ rfl 3 Tryz.underlying22 Tryz.sizeOf3 _ bk rfl HK3.out 0 K (.inr ⟨rfl, rfl⟩) (.inl rfl) (Nat.zero_le _) (by have := HN.out.1; have := HN.out.2.2.1; have := HN.out.2.2.2.1; omega) ?_; intro y hy; rw [List.drop_zero] at hy; have HY := Lib.hid hy; clear hy)
    | (refine wpList_append_reads _ rfl _ _ 22 rfl w3.heap.size 3 i0 (.int .i64 0) 8 Tryz.underlying22 HI.out.1 HI.out.2.1 HI.out.2.2.1 HI.out.2.2.2 rfl (.slice none 0 0) [] rfl (Owns.nil _ _ _) y (bk.take K) rfl HY.out.1 (by have := HN.out.1; have := HN.out.2.2.2.2.1; unfold maxLen; rw [List.length_take]; simp; omega) (by have := HN.out.1; have := HN.out.2.2.2.2.1; rw [List.length_take]; simp; omega) (Nat.le_refl _) ?_; intro v3 w4 ho _ ht hn; have HV3 := Lib.hid (show Owns w4 w3.heap.size 3 v3 (vals (bk.take K)) from ho); obtain ⟨vo, vc, ev⟩ := HV3.out.slice; rw [vals_length, HLK.out] at ev; subst ev; have HF4 := Lib.hid (HF3.out.on (ht.below (fun _ h => by cases h) (Nat.le_refl _))); have k3' := (show w4.cell? ⟨g, 3, none⟩ = some (.slice (some ad) nb bc) from whole_cell HF4.out.hg rfl); have z3' := whole_frozen HF4.out.hg 3; clear ho ht hn))
  have HF5 := Lib.hid (HF4.out.set HW.out HZ.out 3 (.slice vo K vc))
  have HV5 := Lib.hid (own_set (j := 3) (u := .slice vo K vc) HV3.out HGB.out)
  clear k3 z3 k3' z3' HV3 HF4 HF3 HY HK3 e7
  generalize w4.setCell ⟨g, 3, none⟩ (.slice vo K vc) = w5 at *
  obtain ⟨P, hP⟩ : ∃ P, min D n = P := ⟨_, rfl⟩
  have m1 : min (D : Int) (n : Int) = (P : Int) := by omega
  have HPP := Lib.hid (show P ≤ st.length ∧ P ≤ D ∧ (st.take P).length = P ∧ st.take P = st.take D ∧ D - P = D - st.length by
    have h := HN.out.2.1
    refine ⟨by omega, by omega, by rw [List.length_take]; omega, ?_, by omega⟩
    rw [← hP, ← h, ← List.take_eq_take_min])
  have HDD := Lib.hid hD
  have HS5 := Lib.hid (HS.out.below HF5.out.hb)
  have k2 : w5.cell? ⟨g, 2, none⟩ = some (.slice so n sc) := whole_cell HF5.out.hg rfl
  have HG5 := Lib.hid (show g < w5.heap.size ∧ r < w5.heap.size from ⟨whole_lt HF5.out.hg, whole_lt HF5.out.hr⟩)
  clear hP
  go_wp2_with (first
    | (refine wpList_slice_part (o := ⟨_, Op.slice _ _ _ _ none, _, _, _, _⟩) (by rfl) _ _ _ _ rfl 3 Tryz.underlying22 Tryz.sizeOf3 _ st rfl HS5.out 0 P (.inr ⟨rfl, rfl⟩) (.inl rfl) (Nat.zero_le _) HPP.out.1 ?_; intro y hy; rw [List.drop_zero] at hy; have HY := Lib.hid hy; clear hy)
    | (refine wpList_append_reads _ rfl _ _ 22 rfl w5.heap.size 3 i0 (.int .i64 0) 8 Tryz.underlying22 HI.out.1 HI.out.2.1 HI.out.2.2.1 HI.out.2.2.2 rfl (.slice none 0 0) [] rfl (Owns.nil _ _ _) y (st.take P) rfl HY.out.1 (by have := HPP.out.2.2.1; have := HPP.out.2.1; have := HDD.out; unfold maxLen; simp only [List.length_nil]; omega) (by have := HPP.out.2.2.1; have := HPP.out.2.1; have := HDD.out; simp only [List.length_nil]; omega) (Nat.le_refl _) ?_; intro v6 w6 ho _ ht hn; have HV6 := Lib.hid (show Owns w6 w5.heap.size 3 v6 (vals (st.take P)) from ho); obtain ⟨lo, lc, ev⟩ := HV6.out.slice; rw [vals_length, HPP.out.2.2.1] at ev; subst ev; have HB6 := Lib.hid (ht.below (B := w5.heap.size) (fun _ h => by cases h) (Nat.le_refl _)); clear ho ht hn))
  go_loopg [7] (D - P) (fun z f wr => ∃ (L j : Nat) (lo : Option Addr) (lc : Nat), z = D - L ∧ L ≤ D ∧ f = .slice lo L lc ∧ Hid (L = P + j) ∧ Hid (Owns wr w5.heap.size 3 (.slice lo L lc) (vals (st.take P ++ List.replicate j 0))) ∧ Hid (Below w5.heap.size w5 wr))
  case atStart => exact ⟨P, 0, lo, lc, rfl, HPP.out.2.1, rfl, rfl, by rw [List.replicate_zero, List.append_nil]; exact HV6.out, HB6.out⟩
  case round =>
    obtain ⟨L, j, lo, lc, rfl, hL, rfl, HJ, HO, HBL⟩ := hrel
    have HLJ := Lib.hid (show (st.take P ++ List.replicate j 0).length = L by rw [List.length_append, HPP.out.2.2.1, List.length_replicate]; exact HJ.out.symm)
    by_cases hlt : L < D
    · have b1 : (L : Int) < (D : Int) := by omega
      obtain ⟨w7, gl, hw7, hgl, HLB, HBX, HGL⟩ := newBox wr #[.int .i64 0] 3
      have HLT := Lib.hid (ownsLit (n := 1) HLB.out [0] rfl rfl (by decide) (Nat.le_refl _) (by decide))
      have HO7 := Lib.hid (HO.out.below HBX.out)
      have HB7 := Lib.hid (HBL.out.trans (HBX.out.mono HBL.out.size))
      clear HLB HBX HGL
      go_wp2_with (refine wpList_append_reads _ rfl _ _ 22 rfl w5.heap.size 3 i0 (.int .i64 0) 8 Tryz.underlying22 HI.out.1 HI.out.2.1 HI.out.2.2.1 HI.out.2.2.2 rfl (.slice lo L lc) (vals (st.take P ++ List.replicate j 0)) rfl HO7.out (.slice (some ⟨gl, 0, none⟩) 1 1) [0] rfl (Reads.of_owns HLT.out) (by have := HLJ.out; have := HDD.out; rw [vals_length]; unfold maxLen; simp only [List.length_singleton]; omega) (by have := HLJ.out; have := HDD.out; rw [vals_length]; simp only [List.length_singleton]; omega) HB7.out.size ?_; intro v8 w8 ho _ ht hn; have HV8 := Lib.hid (show Owns w8 w5.heap.size 3 v8 (vals (st.take P ++ List.replicate (j + 1) 0)) by rw [List.replicate_succ', ← List.append_assoc, vals, List.map_append]; exact ho); obtain ⟨lo', lc', ev⟩ := HV8.out.slice; rw [vals_length, List.length_append, HPP.out.2.2.1, List.length_replicate, show P + (j + 1) = L + 1 by have := HJ.out; omega] at ev; subst ev; have HB8 := Lib.hid (HB7.out.trans (ht.below (B := w5.heap.size) (fun k hk => (HO7.out.block k (by simpa using hk)).1) HB7.out.size)); clear ho ht hn)
      go_roundg (D - (L + 1))
      case measure => omega
      case rel => exact ⟨L + 1, j + 1, lo', lc', rfl, by omega, rfl, by have := HJ.out; show L + 1 = P + (j + 1); omega, HV8, HB8⟩
    · have b1 : ¬ (L : Int) < (D : Int) := by omega
      obtain rfl : L = D := by omega
      obtain ⟨w7, gl, hw7, hgl, HLB, HBX, HGL⟩ := newBox wr #[.int .i64 code] 3
      have HLT := Lib.hid (ownsLit (n := 1) HLB.out [code] rfl rfl (by decide) (Nat.le_refl _) (by decide))
      have HO7 := Lib.hid (HO.out.below HBX.out)
      have HB7 := Lib.hid (HBL.out.trans (HBX.out.mono HBL.out.size))
      have HDP := Lib.hid (show st.take P ++ List.replicate j 0 = deep st L by
        unfold deep
        have := HJ.out
        rw [HPP.out.2.2.2.1, show j = L - st.length by have := HPP.out.2.2.2.2; omega])
      clear HLB HBX HGL
      go_wp2_with (first
        | (refine wpList_append_reads _ rfl _ _ 22 rfl w5.heap.size 3 i0 (.int .i64 0) 8 Tryz.underlying22 HI.out.1 HI.out.2.1 HI.out.2.2.1 HI.out.2.2.2 rfl (.slice lo L lc) (vals (st.take P ++ List.replicate j 0)) rfl HO7.out (.slice (some ⟨gl, 0, none⟩) 1 1) [code] rfl (Reads.of_owns HLT.out) (by have := HLJ.out; have := HDD.out; rw [vals_length]; unfold maxLen; simp only [List.length_singleton]; omega) (by have := HLJ.out; have := HDD.out; rw [vals_length]; simp only [List.length_singleton]; omega) HB7.out.size ?_; intro v8 w8 ho _ ht hn; have HV8 := Lib.hid (show Owns w8 w5.heap.size 3 v8 (vals (deep st L ++ [code])) by rw [← HDP.out, vals, List.map_append]; exact ho); obtain ⟨lo', lc', ev⟩ := HV8.out.slice; rw [vals_length, List.length_append, deep_length, List.length_singleton] at ev; subst ev; have HB8 := Lib.hid (HB7.out.trans (ht.below (B := w5.heap.size) (fun k hk => (HO7.out.block k (by simpa using hk)).1) HB7.out.size)); have HF8 := Lib.hid (HF5.out.on HB8.out); have HV3' := Lib.hid (HV5.out.below HB8.out); have k2' := (show w8.cell? ⟨g, 2, none⟩ = some (.slice so n sc) from whole_cell HF8.out.hg rfl); have z2' := whole_frozen HF8.out.hg 2; have HF9 := Lib.hid (HF8.out.set HW.out HZ.out 2 (.slice lo' (L + 1) lc')); have HV9 := Lib.hid (own_set (j := 2) (u := .slice lo' (L + 1) lc') HV8.out HG5.out.1); have HV39 := Lib.hid (own_set (j := 2) (u := .slice lo' (L + 1) lc') HV3'.out HGB.out); clear ho ht hn)
        | (refine ld_state (by rfl) _ rfl _ rfl _ _ HF9.out.hg rfl ?_)
        | (refine st_state (by rfl) _ _ rfl r _ rfl rfl _ _ HF9.out.hr rfl rfl (all_one (by rfl) (by rfl) (by rfl)) ?_; intro wf hrf htf; have HRF := Lib.hid hrf; have HTF := Lib.hid htf; clear hrf htf))
      refine bodyPost_ret (results_cell_row rfl _ _ r _ _ _ _ rfl HRF.out Tryz.underlying24 rfl state_size) rfl ?_
      have hbf : Below w.heap.size w wf := HF9.out.hb.trans (HTF.out.below (fun k hk => by rw [List.mem_singleton.1 hk]; have := HW.out; have := HZ.out; omega) HF9.out.hb.size)
      have o1 : Owns wf w5.heap.size 3 (.slice lo' (L + 1) lc') (vals (deep st L ++ [code])) := HV9.out.touch HTF.out (fun k hk hm => by have h1 := (HV9.out.block k hk).1; have h2 := HG5.out.2; rw [List.mem_singleton.1 hm] at h1; omega)
      have o2 : Owns wf w3.heap.size 3 (.slice vo K vc) (vals (bk.take K)) := HV39.out.touch HTF.out (fun k hk hm => by have h1 := (HV39.out.block k hk).1; have h2 := HRG.out; rw [List.mem_singleton.1 hm] at h1; omega)
      have hz1 : w.heap.size ≤ w5.heap.size := by have h1 := HG5.out.1; have h2 := HW.out; omega
      have hz2 : w.heap.size ≤ w3.heap.size := by have h1 := HRG.out; have h2 := HW.out; have h3 := HZ.out; omega
      exact ⟨_, _, _, rfl, .inr (o1.from hz1), .inr (o2.from hz2), .inl ⟨rfl, rfl⟩, hbf⟩
/-- a fault, whatever it is -/
theorem refFault_kin {w : World} {vs vb vm : Value} {m : M} (hs : ReadsC w vs m.stack) (hb : ReadsC w vb m.back) (hm : ReadsC w vm m.mem) (hr : m.back.length ≤ 48) (hsl : m.stack.length ≤ 48) (code : Int) :
    Calls Tryz.prog 50 #[stV m vs vb vm, .int .i64 code] w (TellsK vs vb vm m (Mach.fault m code) w) := by
  cases hc : caught m with
  | true => exact refFault_caught hs hb hm hr hsl code hc
  | false => exact refFault_not hs hb hm hr code hc
theorem refFault_any {w : World} {v : Value} {m : M} (h : ReadsM w v m) (hr : Right m) (code : Int) :
    Calls Tryz.prog 50 #[v, .int .i64 code] w (TellsM (Mach.fault m code) w) := by
  obtain ⟨vs, vb, vm, rfl, hs, hb, hm⟩ := h
  exact (refFault_kin hs hb hm hr.back hr.stack code).mono fun e w' h => h.tells hs hb hm
end Go.Proofs.YtcffbeihgchpgaaGreatDoor.Inn
/- The document's own step (chapter 9): its two boxes and three lists, laws, the code in pieces. -/
namespace Go.Proofs.YtcffbeihgchpgaaGreatDoor.Inn
open Go.RowKit Book Mem Mach
set_option linter.unusedVariables false
set_option linter.unusedSimpArgs false
/-- the box of what came in, the box of what is made, the answer's box, three lists of its own -/
structure SB (W : World) (g x r : Nat) (cw cx : Array Value) (vs vb vm : Value) (st bk me : List Int) (w : World) : Prop where
  hb : Below W.heap.size W w
  hg : w.heap[g]? = some (.cells cw 24 (0, 0))
  hx : w.heap[x]? = some (.cells cx 24 (0, 0))
  hr : w.heap[r]? = some (.cells zero10 24 (0, 0))
  st : Owns w W.heap.size 3 vs (vals st)
  bk : Owns w W.heap.size 3 vb (vals bk)
  me : Owns w W.heap.size 3 vm (vals me)
  d1 : ∀ k, blk vs = some k → blk vb ≠ some k ∧ blk vm ≠ some k
  d2 : ∀ k, blk vb = some k → blk vm ≠ some k
  ne : g ≠ x ∧ x ≠ r ∧ g ≠ r
  low : W.heap.size ≤ x ∧ W.heap.size ≤ r
theorem not_box {w : World} {B g : Nat} {v : Value} {xs : List Value} {cs : Array Value} (h : Owns w B 3 v xs) (hg : w.heap[g]? = some (.cells cs 24 (0, 0))) : g ∉ (blk v).toList := fun hm => by
  obtain ⟨_, _, c, hc⟩ := h.block g (by simpa using hm)
  rw [hg] at hc
  simp only [Option.some.injEq, Obj.cells.injEq] at hc
  exact absurd hc.2.1 (by decide)
theorem blk_part (ao : Option Addr) (n m c : Nat) : blk (.slice ao n c) = blk (.slice ao m c) := by cases ao <;> rfl
section
variable {W w w' wf : World} {g x r : Nat} {cw cx cx' : Array Value} {vs vb vm v' : Value} {st bk me st' : List Int}
theorem SB.set (h : SB W g x r cw cx vs vb vm st bk me w) (hx : w'.heap[x]? = some (.cells cx' 24 (0, 0))) (ht : Stirred w w' [x]) : SB W g x r cw cx' vs vb vm st bk me w' :=
  ⟨h.hb.trans (ht.below (fun k hk => by rw [List.mem_singleton.1 hk]; exact h.low.1) h.hb.size), ht.whole h.hg (fun hm => h.ne.1 (List.mem_singleton.1 hm)), hx, ht.whole h.hr (fun hm => h.ne.2.1 (List.mem_singleton.1 hm).symm),
    own_box h.st ht h.hx, own_box h.bk ht h.hx, own_box h.me ht h.hx, h.d1, h.d2, h.ne, h.low⟩
theorem SB.below (h : SB W g x r cw cx vs vb vm st bk me w) (hb : Below w.heap.size w w') : SB W g x r cw cx vs vb vm st bk me w' :=
  ⟨h.hb.trans (hb.mono h.hb.size), boxOn h.hg hb, boxOn h.hx hb, boxOn h.hr hb, h.st.below hb, h.bk.below hb, h.me.below hb, h.d1, h.d2, h.ne, h.low⟩
theorem SB.drewN (h : SB W g x r cw cx vs vb vm st bk me w) (n : Nat) : SB W g x r cw cx vs vb vm st bk me (w.drewN n) := h.below (bk_below_drewN _ _ _)
theorem SB.cut1 {ao : Option Addr} {n c P : Nat} (h : SB W g x r cw cx (.slice ao n c) vb vm st bk me w) (hP : P ≤ st.length) : SB W g x r cw cx (.slice ao P c) vb vm (st.take P) bk me w :=
  ⟨h.hb, h.hg, h.hx, h.hr, owns_shorter h.st hP, h.bk, h.me, fun k hk => h.d1 k (by rw [blk_part ao n P]; exact hk), h.d2, h.ne, h.low⟩
theorem SB.cut2 {ao : Option Addr} {n c P : Nat} (h : SB W g x r cw cx vs (.slice ao n c) vm st bk me w) (hP : P ≤ bk.length) : SB W g x r cw cx vs (.slice ao P c) vm st (bk.take P) me w :=
  ⟨h.hb, h.hg, h.hx, h.hr, h.st, owns_shorter h.bk hP, h.me, fun k hk => by rw [blk_part ao P n]; exact h.d1 k hk, fun k hk => h.d2 k (by rw [blk_part ao n P]; exact hk), h.ne, h.low⟩
theorem SB.app1 (h : SB W g x r cw cx vs vb vm st bk me w) (ho : Owns w' W.heap.size 3 v' (vals st')) (ht : Stirred w w' (blk vs).toList) (hn : blk v' = blk vs ∨ ∃ k, blk v' = some k ∧ w.heap.size ≤ k) : SB W g x r cw cx v' vb vm st' bk me w' := by
  have t1 : ∀ k, blk vb = some k → k ∉ (blk vs).toList := fun k hk hm => (h.d1 k (by simpa using hm)).1 hk
  have t2 : ∀ k, blk vm = some k → k ∉ (blk vs).toList := fun k hk hm => (h.d1 k (by simpa using hm)).2 hk
  refine ⟨h.hb.trans (ht.below (fun k hk => (h.st.block k (by simpa using hk)).1) h.hb.size), ht.whole h.hg (not_box h.st h.hg), ht.whole h.hx (not_box h.st h.hx), ht.whole h.hr (not_box h.st h.hr), ho, h.bk.touch ht t1, h.me.touch ht t2, fun k hk => ?_, h.d2, h.ne, h.low⟩
  rcases hn with e | ⟨k', e, hl⟩
  · exact h.d1 k (by rw [← e]; exact hk)
  · obtain rfl : k' = k := by rw [e] at hk; simpa using hk
    exact ⟨fun e' => by have := (h.bk.block k' e').2.1; omega, fun e' => by have := (h.me.block k' e').2.1; omega⟩
theorem SB.app2 (h : SB W g x r cw cx vs vb vm st bk me w) (ho : Owns w' W.heap.size 3 v' (vals st')) (ht : Stirred w w' (blk vb).toList) (hn : blk v' = blk vb ∨ ∃ k, blk v' = some k ∧ w.heap.size ≤ k) : SB W g x r cw cx vs v' vm st st' me w' := by
  have t1 : ∀ k, blk vs = some k → k ∉ (blk vb).toList := fun k hk hm => (h.d1 k hk).1 (by simpa using hm)
  have t2 : ∀ k, blk vm = some k → k ∉ (blk vb).toList := fun k hk hm => (h.d2 k (by simpa using hm)) hk
  refine ⟨h.hb.trans (ht.below (fun k hk => (h.bk.block k (by simpa using hk)).1) h.hb.size), ht.whole h.hg (not_box h.bk h.hg), ht.whole h.hx (not_box h.bk h.hx), ht.whole h.hr (not_box h.bk h.hr), h.st.touch ht t1, ho, h.me.touch ht t2, fun k hk => ⟨?_, (h.d1 k hk).2⟩, fun k hk => ?_, h.ne, h.low⟩
  · rcases hn with e | ⟨k', e, hl⟩
    · rw [e]; exact (h.d1 k hk).1
    · rw [e]; intro e'; simp only [Option.some.injEq] at e'; subst e'
      have := (h.st.block k' hk).2.1; omega
  · rcases hn with e | ⟨k', e, hl⟩
    · exact h.d2 k (by rw [← e]; exact hk)
    · obtain rfl : k' = k := by rw [e] at hk; simpa using hk
      exact fun e' => by have := (h.me.block k' e').2.1; omega
theorem SB.setB {gb n c : Nat} (h : SB W g x r cw cx vs (.slice (some ⟨gb, 0, none⟩) n c) vm st bk me w) (hn : 0 < bk.length) (j : Nat) (u : Int) : SB W g x r cw cx vs (.slice (some ⟨gb, 0, none⟩) n c) vm st (bk.set j u) me (w.setCell ⟨gb, j, none⟩ (.int .i64 u)) := by
  obtain ⟨g', c', e, hbk⟩ := owns_slice h.bk hn
  simp only [Value.slice.injEq, Option.some.injEq, Addr.mk.injEq, and_true] at e
  obtain ⟨rfl, e2, rfl⟩ := e
  have ht : Stirred w (w.setCell ⟨gb, j, none⟩ (.int .i64 u)) (blk (.slice (some ⟨gb, 0, none⟩) n c)).toList := by rw [hbk]; exact Stirred.setCell w ⟨gb, j, none⟩ _
  exact h.app2 (by rw [← vals_set]; exact h.bk.stored j _) ht (.inl rfl)
theorem SB.setM {gm n c : Nat} (h : SB W g x r cw cx vs vb (.slice (some ⟨gm, 0, none⟩) n c) st bk me w) (hn : 0 < me.length) (j : Nat) (u : Int) : SB W g x r cw cx vs vb (.slice (some ⟨gm, 0, none⟩) n c) st bk (me.set j u) (w.setCell ⟨gm, j, none⟩ (.int .i64 u)) := by
  obtain ⟨g', c', e, hmm⟩ := owns_slice h.me hn
  simp only [Value.slice.injEq, Option.some.injEq, Addr.mk.injEq, and_true] at e
  obtain ⟨rfl, e2, rfl⟩ := e
  have ht : Stirred w (w.setCell ⟨gm, j, none⟩ (.int .i64 u)) [gm] := Stirred.setCell w ⟨gm, j, none⟩ _
  have n1 := not_box h.me h.hg
  have n2 := not_box h.me h.hx
  have n3 := not_box h.me h.hr
  rw [hmm] at n1 n2 n3
  exact ⟨h.hb.trans (ht.below (fun k hk => by rw [List.mem_singleton.1 hk]; exact (h.me.block gm hmm).1) h.hb.size), ht.whole h.hg n1, ht.whole h.hx n2, ht.whole h.hr n3,
    h.st.touch ht (fun k hk hm => (h.d1 k hk).2 (by rw [List.mem_singleton.1 hm]; exact hmm)), h.bk.touch ht (fun k hk hm => h.d2 k hk (by rw [List.mem_singleton.1 hm]; exact hmm)), by rw [← vals_set]; exact h.me.stored j _, h.d1, h.d2, h.ne, h.low⟩
theorem SB.atB {gb n c j : Nat} {u : Int} (h : SB W g x r cw cx vs (.slice (some ⟨gb, 0, none⟩) n c) vm st bk me w) (hj : bk[j]? = some u) : w.cell? ⟨gb, j, none⟩ = some (.int .i64 u) := by
  obtain ⟨hl, rfl⟩ := List.getElem?_eq_some_iff.1 hj
  exact (owns_at h.bk hl).1
theorem SB.atM {gm n c j : Nat} {u : Int} (h : SB W g x r cw cx vs vb (.slice (some ⟨gm, 0, none⟩) n c) st bk me w) (hj : me[j]? = some u) : w.cell? ⟨gm, j, none⟩ = some (.int .i64 u) := by
  obtain ⟨hl, rfl⟩ := List.getElem?_eq_some_iff.1 hj
  exact (owns_at h.me hl).1
theorem SB.atS {gs n c j : Nat} {u : Int} (h : SB W g x r cw cx (.slice (some ⟨gs, 0, none⟩) n c) vb vm st bk me w) (hj : st[j]? = some u) : w.cell? ⟨gs, j, none⟩ = some (.int .i64 u) := by
  obtain ⟨hl, rfl⟩ := List.getElem?_eq_some_iff.1 hj
  exact (owns_at h.st hl).1
theorem SB.frB {gb n c j : Nat} (h : SB W g x r cw cx vs (.slice (some ⟨gb, 0, none⟩) n c) vm st bk me w) (hj : j < bk.length) : w.frozen? ⟨gb, j, none⟩ = false := (owns_at h.bk hj).2
theorem SB.frM {gm n c j : Nat} (h : SB W g x r cw cx vs vb (.slice (some ⟨gm, 0, none⟩) n c) st bk me w) (hj : j < me.length) : w.frozen? ⟨gm, j, none⟩ = false := (owns_at h.me hj).2
/-- what is answered, its lists its own -/
theorem SB.gives {vs0 vb0 vm0 : Value} {m0 m : M} (h : SB W g x r cw cx vs vb vm m.stack m.back m.mem w) (ht : Stirred w wf [r]) : TellsK vs0 vb0 vm0 m0 m W (.returned (stV m vs vb vm)) wf :=
  ⟨_, _, _, rfl, .inr (own_box h.st ht h.hr), .inr (own_box h.bk ht h.hr), .inr (own_box h.me ht h.hr), h.hb.trans (ht.below (fun k hk => by rw [List.mem_singleton.1 hk]; exact h.low.2) h.hb.size)⟩
end
/-- what a fault answers, held against the machine that came in first -/
def KinM (W w' : World) (vs vb vm : Value) (m m' : M) (vs' vb' vm' : Value) : Prop := Kin W w' vs m.stack vs' m'.stack ∧ Kin W w' vb m.back vb' m'.back ∧ Kin W w' vm m.mem vm' m'.mem ∧ Below W.heap.size W w'
theorem Kin.box {W w' wf : World} {v v' : Value} {xs xs' : List Int} {r : Nat} {cs : Array Value} (h : Kin W w' v xs v' xs') (hr : w'.heap[r]? = some (.cells cs 24 (0, 0))) (ht : Stirred w' wf [r]) : Kin W wf v xs v' xs' := by
  rcases h with h | h
  · exact .inl h
  · exact .inr (own_box h ht hr)
theorem KinM.box {W w' wf : World} {vs vb vm vs' vb' vm' : Value} {m m' : M} {r : Nat} {cs : Array Value} (h : KinM W w' vs vb vm m m' vs' vb' vm') (hr : w'.heap[r]? = some (.cells cs 24 (0, 0))) (hB : W.heap.size ≤ r) (ht : Stirred w' wf [r]) : TellsK vs vb vm m m' W (.returned (stV m' vs' vb' vm')) wf :=
  ⟨_, _, _, rfl, h.1.box hr ht, h.2.1.box hr ht, h.2.2.1.box hr ht, h.2.2.2.trans (ht.below (fun k hk => by rw [List.mem_singleton.1 hk]; exact hB) h.2.2.2.size)⟩
theorem Kin.from {W w w' : World} {v v' : Value} {xs xs' : List Int} (h : Kin w w' v xs v' xs') (hb : Below W.heap.size W w) : Kin W w' v xs v' xs' := by
  rcases h with h | h
  · exact .inl h
  · exact .inr (h.from hb.size)
theorem reads_known {w : World} {v : Value} {xs : List Int} (h : ReadsC w v xs) : ∃ ao n c, v = .slice ao n c := by
  obtain ⟨-, ao, c, e, -⟩ := h
  exact ⟨ao, _, c, e⟩
/-- a fault of the machine that came in, called later -/
theorem refFault_told {W w : World} {vs vb vm : Value} {m : M} (hs : ReadsC W vs m.stack) (hb : ReadsC W vb m.back) (hm : ReadsC W vm m.mem) (h1 : m.back.length ≤ 48) (h2 : m.stack.length ≤ 48) (hw : Below W.heap.size W w) (code : Int) :
    Calls Tryz.prog 50 #[stV m vs vb vm, .int .i64 code] w fun e w' => ∃ s1 n1 c1 s2 n2 c2 s3 n3 c3, e = .returned (stV (Mach.fault m code) (.slice s1 n1 c1) (.slice s2 n2 c2) (.slice s3 n3 c3)) ∧ KinM W w' vs vb vm m (Mach.fault m code) (.slice s1 n1 c1) (.slice s2 n2 c2) (.slice s3 n3 c3) ∧ Below w.heap.size w w' := by
  refine (refFault_kin (hs.below hw) (hb.below hw) (hm.below hw) h1 h2 code).mono ?_
  rintro e w' ⟨vs', vb', vm', rfl, k1, k2, k3, hbw⟩
  obtain ⟨s1, n1, c1, rfl⟩ := reads_known (k1.reads (hs.below hw) hbw)
  obtain ⟨s2, n2, c2, rfl⟩ := reads_known (k2.reads (hb.below hw) hbw)
  obtain ⟨s3, n3, c3, rfl⟩ := reads_known (k3.reads (hm.below hw) hbw)
  exact ⟨s1, n1, c1, s2, n2, c2, s3, n3, c3, rfl, ⟨k1.from hw, k2.from hw, k3.from hw, hw.trans (hbw.mono hw.size)⟩, hbw⟩
/-- a fault of the machine that is being made -/
theorem refFault_own {W w : World} {g x r : Nat} {cw cx : Array Value} {vs vb vm vs0 vb0 vm0 : Value} {m m0 : M} (h : SB W g x r cw cx vs vb vm m.stack m.back m.mem w) (h1 : m.back.length ≤ 48) (h2 : m.stack.length ≤ 48) (code : Int) :
    Calls Tryz.prog 50 #[stV m vs vb vm, .int .i64 code] w fun e w' => ∃ s1 n1 c1 s2 n2 c2 s3 n3 c3, e = .returned (stV (Mach.fault m code) (.slice s1 n1 c1) (.slice s2 n2 c2) (.slice s3 n3 c3)) ∧ KinM W w' vs0 vb0 vm0 m0 (Mach.fault m code) (.slice s1 n1 c1) (.slice s2 n2 c2) (.slice s3 n3 c3) ∧ Below w.heap.size w w' := by
  have r1 := ReadsC.of_owns h.st
  have r2 := ReadsC.of_owns h.bk
  have r3 := ReadsC.of_owns h.me
  have own : ∀ {w' : World} {v v' v0 : Value} {xs xs' xs0 : List Int}, Kin w w' v xs v' xs' → Owns w W.heap.size 3 v (vals xs) → Below w.heap.size w w' → Kin W w' v0 xs0 v' xs' := fun k ho hb => by
    rcases k with ⟨rfl, rfl⟩ | k
    · exact .inr (ho.below hb)
    · exact .inr (k.from h.hb.size)
  refine (refFault_kin r1 r2 r3 h1 h2 code).mono ?_
  rintro e w' ⟨vs', vb', vm', rfl, k1, k2, k3, hbw⟩
  obtain ⟨s1, n1, c1, rfl⟩ := reads_known (k1.reads r1 hbw)
  obtain ⟨s2, n2, c2, rfl⟩ := reads_known (k2.reads r2 hbw)
  obtain ⟨s3, n3, c3, rfl⟩ := reads_known (k3.reads r3 hbw)
  exact ⟨s1, n1, c1, s2, n2, c2, s3, n3, c3, rfl, ⟨own k1 h.st hbw, own k2 h.bk hbw, own k3 h.me hbw, h.hb.trans (hbw.mono h.hb.size)⟩, hbw⟩
/-- 'v[:h]': the same row, shorter -/
theorem wpList_slice_low {P : Program} {w : World} {ops : Array Oper} {rest : List Oper} {o : Oper} {a : Act} {Q : Exit → Act → World → Prop} (hw : Region.wanted o (yielded ops a.tmps) = true) (t : TypeId) (x hi : Operand) (hop : o.op = Op.slice t x none (some hi) none)
    (E : TypeId) (ht : P.underlying t = some (.slice E)) (hz : ∀ w, (sizeOf E).run P w = .ok 1 w) (ao : Option Addr) (n c : Nat) (xs : List Int) (hx : a.eval x = .slice ao n c) (hr : ReadsC w (.slice ao n c) xs) (h : Nat) (hhi : a.eval hi = .int .i64 h) (hh : h ≤ xs.length)
    (hK : wpList P ops Q rest (a.put o.dst (.slice ao h c)) w) : wpList P ops Q (o :: rest) a w := by
  refine wpList_step fun K hK' => ?_
  rw [if_pos hw]
  obtain ⟨-, ao', c', e, hcap⟩ := hr
  simp only [Value.slice.injEq] at e
  obtain ⟨rfl, rfl, rfl⟩ := e
  have hs : (Instr.sliceAt t (.slice ao xs.length c) none (some (.int .i64 h)) none).run P w = .ok (.slice ao h c) w := by
    have e1 : ∀ code, (Instr.sliceBound (.int .i64 h) c code).run P w = .ok h w := fun code => by
      have h1 : h ≤ c := by omega
      simp [Instr.sliceBound, asIntOf, h1, go_sem]
    cases ao <;> simp [Instr.sliceAt, Instr.slice, Instr.sliceBounds, run_underlying ht, hz, e1, Addr.add]
  unfold Oper.wp execOp
  simp only [hop, hx, hhi, Option.map_some, Option.map_none, Sem.run_bind, Sem.run_pure, Result.andThen_ok, hs]
  exact hK' _ _ hK
/-- a number is written into a row's cell -/
theorem st_cell {ops : Array Oper} {rest : List Oper} {o : Oper} {a : Act} {w : World} {Q : Exit → Act → World → Prop} (hw : Region.wanted o (yielded ops a.tmps) = true) (x y : Operand) (ho : o.op = .store 3 x y) (g j : Nat) (hx : a.eval x = .pointer (some ⟨g, j, none⟩)) (v : Int) (hy : a.eval y = .int .i64 v) (old : Value) (hc : w.cell? ⟨g, j, none⟩ = some old) (hf : w.frozen? ⟨g, j, none⟩ = false)
    (h : ∀ w', w' = w.setCell ⟨g, j, none⟩ (.int .i64 v) → wpList Tryz.prog ops Q rest (a.put o.dst undef) w') : wpList Tryz.prog ops Q (o :: rest) a w := by
  refine wpList_step fun K hK => ?_
  rw [if_pos hw]
  have hs : (storeVar 3 ⟨g, j, none⟩ (.int .i64 v)).run Tryz.prog w = .ok () (w.setCell ⟨g, j, none⟩ (.int .i64 v)) := by
    have hi := one_int
    cases hq : Tryz.prog.info? 3 with
    | none => simp [hq] at hi
    | some i =>
      have hs : i.size = 1 := by simpa [hq] using hi
      have hadd : (⟨g, j, none⟩ : Addr).add 0 = ⟨g, j, none⟩ := by simp [Addr.add]
      simp [storeVar, sizeOf, typeInfo, hq, show (Value.int .i64 v).cells = #[Value.int .i64 v] from rfl, hs, storeCells, hadd, run_store Tryz.prog w ⟨g, j, none⟩ (.int .i64 v) _ rfl, hc, hf]
  unfold Oper.wp execOp
  simp only [ho, hx, hy, Instr.storeAt, Instr.sureAddr, Sem.run_bind, Sem.run_pure, Result.andThen_ok, hs]
  exact hK _ _ (h _ rfl)
/-- does a piece of code begin with this region? -/
def begins9 (k : Nat) : Code → Bool
  | .region n _ _ => n == k
  | .seq a _ => begins9 k a
  | _ => false
/-- the code from a region on -/
def from9 (k : Nat) : Code → Option Code
  | .seq a b => if begins9 k a then some (.seq a b) else match from9 k a with
    | some d => some d
    | none => if begins9 k b then some b else from9 k b
  | .block _ c => from9 k c
  | .loop c => from9 k c
  | .scope c => from9 k c
  | _ => none
noncomputable def codeFrom (k : Nat) : Code := ((Tryz.f18.body.bind (from9 k)).getD .skip)
end Go.Proofs.YtcffbeihgchpgaaGreatDoor.Inn
