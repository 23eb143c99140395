/- What is proved: hollowaylaw9.InnerBegins answers true for every input, and its arguments read afterwards as before; the listed package variables start as the program's text lays them (the card ties them). -/
import Derived.Test.YtfpaajoggbibnaaGreatDoorG4
import Derived.BigQuiet
import Derived.Deep.QuietTactic
import Derived.Deep.DeepCutAuto
import Derived.Deep.RegionHeld3
import Derived.Deep.LoopGhost
import Derived.IntWalk
import Derived.Lib.MinMax
import Derived.Test.YtfpaajoggbibnaaGreatDoorG26
import Derived.Test.YtfpaajoggbibnaaGreatDoorG25
import Derived.Test.YtfpaajoggbibnaaGreatDoorG21
import Derived.Test.YtfpaajoggbibnaaGreatDoorG22
import Derived.Test.YtfpaajoggbibnaaGreatDoorRows
import Derived.Test.YtfpaajoggbibnaaGreatDoorCards
import Derived.Test.YtfpaajoggbibnaaGreatDoorTie
import Derived.WalkKit
import Derived.ProofKit
import Derived.OpenShut
import Derived.ChangeSame
import Derived.ChangeVars
import Derived.JoinedOf
import Derived.RowKitTokens
import Derived.LaidLaws
import Derived.LaidHandle
import Derived.Stop.Joined
import Derived.SevenTiedAt
import Derived.Carry
/- The document's own machine: what its walks have in common (new boxes, slice literals). -/
namespace Go.Proofs.YtfpaajoggbibnaaGreatDoor.Mach
open Go.RowKit Book Mem
set_option linter.unusedVariables false
set_option linter.unusedSimpArgs false
/-- a new box, its world named -/
theorem newBox (w : World) (cs : Array Value) (T : TypeId) : ∃ w1 g, w.alloc (.cells cs T) = w1 ∧ w.heap.size = g ∧ Hid (w1.heap[g]? = some (.cells cs T (0, 0))) ∧ Hid (Below w.heap.size w w1) ∧ Hid (w.heap.size = g) :=
  ⟨_, _, rfl, rfl, heap_alloc_new w _, (Below.refl w.heap.size w).alloc (Nat.le_refl _) _, rfl⟩
theorem boxOn {w w' : World} {g : Nat} {cs : Array Value} {T : TypeId} (h : w.heap[g]? = some (.cells cs T (0, 0))) (hb : Below w.heap.size w w') : w'.heap[g]? = some (.cells cs T (0, 0)) := (Stirred.of_below hb []).whole h List.not_mem_nil
/-- a slice literal's row -/
theorem ownsLit {w : World} {B g n : Nat} {cs : Array Value} (h : w.heap[g]? = some (.cells cs 3 (0, 0))) (l : List Int) (hcs : cs.toList = vals l) (hn : l.length = n) (h0 : 0 < n) (hB : B ≤ g) (hl : n ≤ maxLen) : Owns w B 3 (.slice (some ⟨g, 0, none⟩) n n) (vals l) := by
  have hv : (vals l).length = n := by rw [vals_length]; exact hn
  refine .inr ⟨g, n, cs, by rw [hv], h0, hB, h, by rw [hv]; exact Nat.le_refl _, hl, by rw [← Array.length_toList, hcs, hv], ?_⟩
  rw [hcs, List.take_of_length_le (by omega)]
theorem drewK {w : World} {a : Addr} {v : Value} (h : w.cell? a = some v) : w.drew.cell? a = some v := h
end Go.Proofs.YtfpaajoggbibnaaGreatDoor.Mach
/- The document's own machine (chapter 9): a fault, told to be read. -/
namespace Go.Proofs.YtfpaajoggbibnaaGreatDoor.Inn
open Go.RowKit Book Mem Mach
set_option linter.unusedVariables false
set_option linter.unusedSimpArgs false
/-- a machine that is read where its three lists are -/
theorem readsM_of {w : World} {vs vb vm : Value} {m : M} (h1 : ReadsC w vs m.stack) (h2 : ReadsC w vb m.back) (h3 : ReadsC w vm m.mem) : ReadsM w (stV m vs vb vm) m := ⟨vs, vb, vm, rfl, h1, h2, h3⟩
theorem readsC_one {w : World} {v : Value} {xs : List Int} (h : ReadsC w v xs) : v.oneCell' = true := by
  obtain ⟨-, ao, c, rfl, -⟩ := h
  rfl
theorem fault_not {m : M} {code : Int} (h : caught m = false) : Mach.fault m code = { m with status := 2, code := code } := by unfold Mach.fault; rw [if_neg (by rw [h]; decide)]
/-- why a fault is not caught -/
theorem not_caught {m : M} (h : caught m = false) : m.handler < 3 ∨ (¬ m.handler < 3 ∧ (m.back.length : Int) < m.handler) ∨ ∃ q : Nat, ∃ d, m.handler = (q : Int) + 1 ∧ 3 ≤ q + 1 ∧ q < m.back.length ∧ m.back[q]? = some d ∧ (d < 0 ∨ ¬ d < 0 ∧ 48 ≤ d) := by
  unfold caught at h
  simp only [Bool.and_eq_false_iff, decide_eq_false_iff_not] at h
  by_cases c1 : m.handler < 3
  · exact .inl c1
  · by_cases c2 : (m.back.length : Int) < m.handler
    · exact .inr (.inl ⟨c1, c2⟩)
    · refine .inr (.inr ⟨m.handler.toNat - 1, m.back.getD (m.handler.toNat - 1) 0, by omega, by omega, by omega, by rw [List.getD_eq_getElem?_getD, List.getElem?_eq_getElem (by omega)]; rfl, ?_⟩)
      rcases h with ((h | h) | h) | h
      all_goals omega
/-- a list that was there, or a row of one's own made since -/
def Kin (w w' : World) (v : Value) (xs : List Int) (v' : Value) (xs' : List Int) : Prop := (v' = v ∧ xs' = xs) ∨ Owns w' w.heap.size 3 v' (vals xs')
theorem Kin.reads {w w' : World} {v v' : Value} {xs xs' : List Int} (h : Kin w w' v xs v' xs') (hr : ReadsC w v xs) (hb : Below w.heap.size w w') : ReadsC w' v' xs' := by
  rcases h with ⟨rfl, rfl⟩ | h
  · exact hr.below hb
  · exact ReadsC.of_owns h
theorem Kin.list {W w w' : World} {B : Nat} {v v' : Value} {xs xs' : List Int} (h : Kin w w' v xs v' xs') (hr : L W w B v xs) (hb : Below w.heap.size w w') (hB : B ≤ w.heap.size) : L W w' B v' xs' := by
  rcases h with ⟨rfl, rfl⟩ | h
  · exact hr.below hb
  · exact .inr (h.from hB)
/-- what a call answers: a machine whose lists were there, or are its own -/
def TellsK (vs vb vm : Value) (m m' : M) (w : World) (e : Ending) (w' : World) : Prop := ∃ vs' vb' vm', e = .returned (stV m' vs' vb' vm') ∧ Kin w w' vs m.stack vs' m'.stack ∧ Kin w w' vb m.back vb' m'.back ∧ Kin w w' vm m.mem vm' m'.mem ∧ Below w.heap.size w w'
theorem TellsK.tells {vs vb vm : Value} {m m' : M} {w : World} {e : Ending} {w' : World} (h : TellsK vs vb vm m m' w e w') (h1 : ReadsC w vs m.stack) (h2 : ReadsC w vb m.back) (h3 : ReadsC w vm m.mem) : TellsM m' w e w' := by
  obtain ⟨vs', vb', vm', rfl, k1, k2, k3, hb⟩ := h
  exact ⟨_, rfl, readsM_of (k1.reads h1 hb) (k2.reads h2 hb) (k3.reads h3 hb), hb⟩
theorem TellsK.list {W : World} {B : Nat} {vs vb vm : Value} {m m' : M} {w : World} {e : Ending} {w' : World} (h : TellsK vs vb vm m m' w e w') (h1 : L W w B vs m.stack) (h2 : L W w B vb m.back) (h3 : L W w B vm m.mem) (hB : B ≤ w.heap.size) : TellsL W B m' w e w' := by
  obtain ⟨vs', vb', vm', rfl, k1, k2, k3, hb⟩ := h
  exact ⟨_, rfl, ⟨_, _, _, rfl, k1.list h1 hb hB, k2.list h2 hb hB, k3.list h3 hb hB⟩, hb⟩
/-- what is answered: lists that were there -/
theorem fault_end {w w4 wf : World} {g r : Nat} {vs vb vm : Value} {m0 m : M} (e1 : m.stack = m0.stack) (e2 : m.back = m0.back) (e3 : m.mem = m0.mem) (hb4 : Below w.heap.size w w4) (ht : Stirred w4 wf [r]) (hg : w.heap.size = g) (hz : g < r) :
    TellsK vs vb vm m0 m w (.returned (stV m vs vb vm)) wf := by
  have hb : Below w.heap.size w wf := hb4.trans (ht.below (fun k hk => by rw [List.mem_singleton.1 hk]; omega) hb4.size)
  exact ⟨_, _, _, rfl, .inl ⟨rfl, e1⟩, .inl ⟨rfl, e2⟩, .inl ⟨rfl, e3⟩, hb⟩
set_option maxHeartbeats 16000000 in
set_option maxRecDepth 100000 in
theorem refFault_not {w : World} {vs vb vm : Value} {m : M} (hs : ReadsC w vs m.stack) (hb : ReadsC w vb m.back) (hm : ReadsC w vm m.mem) (hl : m.back.length ≤ 48) (code : Int) (hc : caught m = false) :
    Calls Tryz.prog 24 #[stV m vs vb vm, .int .i64 code] w (TellsK vs vb vm m (Mach.fault m code) w) := by
  rw [fault_not hc]
  have hways := not_caught hc
  obtain ⟨ip, hh, st, bk, me, ou, inn, rd, stt, cd⟩ := m
  simp only at hs hb hm hl hways ⊢
  obtain ⟨w1, w2, g, r, hw1, hw2, hg, hr, HG, HR, HB0, HZ, HW⟩ := two_boxes w (cells10 ip hh vs vb vm ou inn rd stt cd)
  have HB := Lib.hid (show Below w.heap.size w w2 by have := HB0.out; rw [← HW.out] at this; exact this)
  have HS := Lib.hid hs
  have HK := Lib.hid hb
  have HM := Lib.hid hm
  have HONE := Lib.hid (And.intro (readsC_one hs) (And.intro (readsC_one hb) (readsC_one hm)))
  have hone1 := readsC_one hs
  obtain ⟨-, so, sc, rfl, -⟩ := hs
  obtain ⟨-, mo, mc, rfl, -⟩ := hm
  obtain ⟨⟨bo, bc, rfl, hbk⟩, -⟩ := hb
  obtain ⟨nb, hnb⟩ : ∃ n, bk.length = n := ⟨_, rfl⟩
  rw [hnb] at HK HG hw1 hways hl ⊢
  have HBC := Lib.hid (fun (j : Nat) (x : Int) (hx : bk[j]? = some x) => hbk j x hx)
  -- what is written
  have HSET : Hid (∀ wz, Below w.heap.size w wz → wz.heap[g]? = some (.cells (cells10 ip hh (.slice so st.length sc) (.slice bo nb bc) (.slice mo me.length mc) ou inn rd stt cd) 24 (0, 0)) → wz.heap[r]? = some (.cells zero10 24 (0, 0)) →
      Below w.heap.size w ((wz.setCell ⟨g, 8, none⟩ (.int .i64 2)).setCell ⟨g, 9, none⟩ (.int .i64 code)) ∧ ((wz.setCell ⟨g, 8, none⟩ (.int .i64 2)).setCell ⟨g, 9, none⟩ (.int .i64 code)).heap[g]? = some (.cells (cells10 ip hh (.slice so st.length sc) (.slice bo nb bc) (.slice mo me.length mc) ou inn rd 2 code) 24 (0, 0)) ∧ ((wz.setCell ⟨g, 8, none⟩ (.int .i64 2)).setCell ⟨g, 9, none⟩ (.int .i64 code)).heap[r]? = some (.cells zero10 24 (0, 0))) := Lib.hid (fun wz h1 h2 h3 => by
    have t := (Stirred.setCell wz ⟨g, 8, none⟩ (.int .i64 2)).trans (Stirred.setCell _ ⟨g, 9, none⟩ (.int .i64 code)) (fun k hk => .inl hk)
    exact ⟨h1.trans (t.below (fun k hk => by rw [List.mem_singleton.1 (show k ∈ [g] from hk)]; exact Nat.le_of_eq HW.out) h1.size), whole_set (whole_set h2 8 (.int .i64 2)) 9 (.int .i64 code), t.whole h3 (by show r ∉ [g]; rw [List.mem_singleton]; have := HZ.out; omega)⟩)
  have k1 : w2.cell? ⟨g, 1, none⟩ = some (.int .i64 hh) := whole_cell HG.out rfl
  have k3 : w2.cell? ⟨g, 3, none⟩ = some (.slice bo nb bc) := whole_cell HG.out rfl
  have k8 : w2.cell? ⟨g, 8, none⟩ = some (.int .i64 stt) := whole_cell HG.out rfl
  have z8 := whole_frozen HG.out 8
  have z9 := whole_frozen HG.out 9
  have k9 : w2.cell? ⟨g, 9, none⟩ = some (.int .i64 cd) := whole_cell HG.out rfl
  clear hc hnb HB0 hbk hone1
  rcases hways with h1 | ⟨h1, h2⟩ | ⟨q, d, rfl, h3, h4, h5, h6⟩
  rotate_left 2
  · have e0 : (0 : Int) ≤ (q : Int) := Int.natCast_nonneg _
    have e1 : (q : Int) < (nb : Int) := by omega
    have e2 : (q : Int) + 1 - 1 = (q : Int) := by omega
    have e3 : ¬ (q : Int) + 1 < 3 := by omega
    have e4 : (q : Int) + 1 ≤ (nb : Int) := by omega
    have e5 : 3 ≤ (q : Int) + 1 := by omega
    obtain ⟨ad, rfl, hca⟩ := HBC.out q d h5
    have hcw : w2.cell? (ad.add q) = some (.int .i64 d) := by rw [HB.out.cell (World.block_lt_of_cell? w _ hca)]; exact hca
    clear hca h5 h3 h4
    rcases h6 with h6 | ⟨h6, h7⟩
    all_goals
      go_enter Tryz.func24, Tryz.ntmps24
      go_upto_region 1 with fail
      clear hw1 hw2 hg hr
      go_upto_region 11 with fail
      obtain ⟨w3, hw3⟩ : ∃ w', w2.setCell ⟨g, 8, none⟩ (.int .i64 2) = w' := ⟨_, rfl⟩
      have HT := Lib.hid (HSET.out w2 HB.out HG.out HR.out)
      have HG3 := whole_set HG.out 8 (.int .i64 2)
      rw [hw3] at HG3
      have z9' := whole_frozen HG3 9
      have k9' : w3.cell? ⟨g, 9, none⟩ = some (.int .i64 cd) := whole_cell HG3 rfl
      obtain ⟨w4, hw4⟩ : ∃ w', w3.setCell ⟨g, 9, none⟩ (.int .i64 code) = w' := ⟨_, rfl⟩
      rw [hw3, hw4] at HT
      clear z9 k9 HG3 HSET k1 k3
      go_upto_region 12 with fail
      clear hw3 hw4 z9' k9' z8 k8
      go_wp2_with (first
        | (refine ld_state (by rfl) _ rfl _ rfl _ _ HT.out.2.1 rfl ?_)
        | (refine st_state (by rfl) _ _ rfl r _ rfl rfl _ _ HT.out.2.2 rfl rfl (all_one HONE.out.1 HONE.out.2.1 HONE.out.2.2) ?_; intro wf hrf htf; have HRF := Lib.hid hrf; have HTF := Lib.hid htf; clear hrf htf))
      refine bodyPost_ret (results_cell_row rfl _ _ r _ _ _ _ rfl HRF.out Tryz.underlying24 rfl state_size) rfl ?_
      exact fault_end (m := ⟨ip, (q : Int) + 1, st, bk, me, ou, inn, rd, 2, code⟩) rfl rfl rfl HT.out.1 HTF.out HW.out HZ.out
  all_goals
    go_enter Tryz.func24, Tryz.ntmps24
    go_upto_region 1 with fail
    clear hw1 hw2 hg hr
    go_upto_region 11 with fail
    obtain ⟨w3, hw3⟩ : ∃ w', w2.setCell ⟨g, 8, none⟩ (.int .i64 2) = w' := ⟨_, rfl⟩
    have HT := Lib.hid (HSET.out w2 HB.out HG.out HR.out)
    have HG3 := whole_set HG.out 8 (.int .i64 2)
    rw [hw3] at HG3
    have z9' := whole_frozen HG3 9
    have k9' : w3.cell? ⟨g, 9, none⟩ = some (.int .i64 cd) := whole_cell HG3 rfl
    obtain ⟨w4, hw4⟩ : ∃ w', w3.setCell ⟨g, 9, none⟩ (.int .i64 code) = w' := ⟨_, rfl⟩
    rw [hw3, hw4] at HT
    clear z9 k9 HG3 HSET k1 k3
    go_upto_region 12 with fail
    clear hw3 hw4 z9' k9' z8 k8
    go_wp2_with (first
      | (refine ld_state (by rfl) _ rfl _ rfl _ _ HT.out.2.1 rfl ?_)
      | (refine st_state (by rfl) _ _ rfl r _ rfl rfl _ _ HT.out.2.2 rfl rfl (all_one HONE.out.1 HONE.out.2.1 HONE.out.2.2) ?_; intro wf hrf htf; have HRF := Lib.hid hrf; have HTF := Lib.hid htf; clear hrf htf))
    refine bodyPost_ret (results_cell_row rfl _ _ r _ _ _ _ rfl HRF.out Tryz.underlying24 rfl state_size) rfl ?_
    exact fault_end (m := ⟨ip, hh, st, bk, me, ou, inn, rd, 2, code⟩) rfl rfl rfl HT.out.1 HTF.out HW.out HZ.out
/-- where a fault is caught -/
theorem is_caught {m : M} (h : caught m = true) : ∃ K D : Nat, ∃ a2 a3, m.handler = ((K + 3 : Nat) : Int) ∧ K + 3 ≤ m.back.length ∧ m.back[K + 2]? = some (D : Int) ∧ m.back[K + 1]? = some a2 ∧ m.back[K]? = some a3 ∧ D < 48 ∧
    ∀ code, Mach.fault m code = { m with handler := a2, ip := a3, back := m.back.take K, stack := deep m.stack D ++ [code] } := by
  have h' := h
  unfold caught at h
  simp only [Bool.and_eq_true, decide_eq_true_eq] at h
  obtain ⟨⟨⟨h1, h2⟩, h3⟩, h4⟩ := h
  obtain ⟨H, hH⟩ : ∃ H : Nat, m.handler = (H : Int) := ⟨m.handler.toNat, by omega⟩
  rw [hH] at h1 h2 h3 h4
  rw [Int.toNat_natCast] at h3 h4
  obtain ⟨K, rfl⟩ : ∃ K, H = K + 3 := ⟨H - 3, by omega⟩
  have e2 : m.back[K + 2]? = some (m.back.getD (K + 2) 0) := by rw [List.getD_eq_getElem?_getD, List.getElem?_eq_getElem (by omega)]; rfl
  have e1 : m.back[K + 1]? = some (m.back.getD (K + 1) 0) := by rw [List.getD_eq_getElem?_getD, List.getElem?_eq_getElem (by omega)]; rfl
  have e0 : m.back[K]? = some (m.back.getD K 0) := by rw [List.getD_eq_getElem?_getD, List.getElem?_eq_getElem (by omega)]; rfl
  rw [show K + 3 - 1 = K + 2 by omega] at h3 h4
  refine ⟨K, (m.back.getD (K + 2) 0).toNat, _, _, hH, by omega, by rw [e2, Int.toNat_of_nonneg h3], e1, e0, by omega, fun code => ?_⟩
  unfold Mach.fault
  rw [if_pos h', hH, Int.toNat_natCast, show K + 3 - 1 = K + 2 by omega, show K + 3 - 2 = K + 1 by omega, show K + 3 - 3 = K by omega]
/-- two boxes while lists are made -/
structure FB (w : World) (g r : Nat) (cs : Array Value) (wc : World) : Prop where
  hb : Below w.heap.size w wc
  hg : wc.heap[g]? = some (.cells cs 24 (0, 0))
  hr : wc.heap[r]? = some (.cells zero10 24 (0, 0))
section
variable {w wc wn : World} {g r : Nat} {cs : Array Value}
theorem FB.on (h : FB w g r cs wc) (hb : Below wc.heap.size wc wn) : FB w g r cs wn := ⟨h.hb.trans (hb.mono h.hb.size), boxOn h.hg hb, boxOn h.hr hb⟩
theorem FB.set (h : FB w g r cs wc) (hw : w.heap.size = g) (hz : g < r) (j : Nat) (v : Value) : FB w g r (cs.setIfInBounds j v) (wc.setCell ⟨g, j, none⟩ v) :=
  have t := Stirred.setCell wc ⟨g, j, none⟩ v
  ⟨h.hb.trans (t.below (fun k hk => by rw [List.mem_singleton.1 (show k ∈ [g] from hk)]; omega) h.hb.size), whole_set h.hg j v, t.whole h.hr (by show r ∉ [g]; rw [List.mem_singleton]; omega)⟩
theorem FB.drew (h : FB w g r cs wc) : FB w g r cs wc.drew := ⟨h.hb.drew, h.hg, h.hr⟩
end
theorem own_set {wc : World} {B g j : Nat} {v u : Value} {xs : List Value} (h : Owns wc B 3 v xs) (hg : g < B) : Owns (wc.setCell ⟨g, j, none⟩ u) B 3 v xs :=
  h.touch (Stirred.setCell wc ⟨g, j, none⟩ u) (fun k hk hm => by have := (h.block k hk).1; rw [List.mem_singleton.1 (show k ∈ [g] from hm)] at this; omega)
set_option maxHeartbeats 16000000 in
set_option maxRecDepth 100000 in
theorem refFault_caught {w : World} {vs vb vm : Value} {m : M} (hs : ReadsC w vs m.stack) (hb : ReadsC w vb m.back) (hm : ReadsC w vm m.mem) (hl : m.back.length ≤ 48) (hsl : m.stack.length ≤ 48) (code : Int) (hc : caught m = true) :
    Calls Tryz.prog 24 #[stV m vs vb vm, .int .i64 code] w (TellsK vs vb vm m (Mach.fault m code) w) := by
  obtain ⟨K, D, a2, a3, eh, hK, hd, h2, h3, hD, hf⟩ := is_caught hc
  rw [hf]
  obtain ⟨ip, hh, st, bk, me, ou, inn, rd, stt, cd⟩ := m
  simp only at hs hb hm hl hsl eh hK hd h2 h3 ⊢
  subst eh
  obtain ⟨K1, hK1⟩ : ∃ k, K + 1 = k := ⟨_, rfl⟩
  obtain ⟨K2, hK2⟩ : ∃ k, K + 2 = k := ⟨_, rfl⟩
  obtain ⟨K3, hK3⟩ : ∃ k, K + 3 = k := ⟨_, rfl⟩
  rw [hK1] at h2
  rw [hK2] at hd
  rw [hK3] at hK ⊢
  obtain ⟨i0, HI1, HI2, HI3, HI4⟩ := int_facts
  have HI := Lib.hid (And.intro HI1 (And.intro HI2 (And.intro HI3 HI4)))
  clear HI1 HI2 HI3 HI4
  obtain ⟨w1, w2, g, r, hw1, hw2, hg, hr, HG, HR, HB0, HZ, HW⟩ := two_boxes w (cells10 ip K3 vs vb vm ou inn rd stt cd)
  have HB := Lib.hid (show Below w.heap.size w w2 by have := HB0.out; rw [← HW.out] at this; exact this)
  have HS := Lib.hid hs
  have HKK := Lib.hid hb
  have HM := Lib.hid hm
  have HONE := Lib.hid (readsC_one hm)
  obtain ⟨-, so, sc, rfl, -⟩ := hs
  obtain ⟨-, mo, mc, rfl, -⟩ := hm
  obtain ⟨⟨bo, bc, rfl, hbk⟩, -⟩ := hb
  obtain ⟨ad, rfl, hcd⟩ := hbk K2 _ hd
  obtain ⟨_, e, hc2⟩ := hbk K1 _ h2
  obtain rfl := Option.some.inj e
  obtain ⟨_, e, hc3⟩ := hbk K _ h3
  obtain rfl := Option.some.inj e
  obtain ⟨nb, hnb⟩ : ∃ n, bk.length = n := ⟨_, rfl⟩
  obtain ⟨n, hn⟩ : ∃ n, st.length = n := ⟨_, rfl⟩
  rw [hnb] at HKK HG hw1 hK hl ⊢
  rw [hn] at HS HG hw1 hsl ⊢
  have HN := Lib.hid (And.intro hnb (And.intro hn (And.intro hK (And.intro hK3 (And.intro hl hsl)))))
  have lift : ∀ {j : Nat} {x : Int} {wc : World}, w.cell? (ad.add j) = some (.int .i64 x) → Below w.heap.size w wc → wc.cell? (ad.add j) = some (.int .i64 x) := fun h hb => by rw [hb.cell (World.block_lt_of_cell? w _ h)]; exact h
  have HF := Lib.hid (show FB w g r _ w2 from ⟨HB.out, HG.out, HR.out⟩)
  have HAD := Lib.hid (fun wc (hb : Below w.heap.size w wc) => And.intro (lift hc2 hb) (lift hc3 hb))
  have x2 : w2.cell? (ad.add K2) = some (.int .i64 D) := lift hcd HB.out
  have x1 : w2.cell? (ad.add K1) = some (.int .i64 a2) := lift hc2 HB.out
  have x0 : w2.cell? (ad.add K) = some (.int .i64 a3) := lift hc3 HB.out
  have k1 : w2.cell? ⟨g, 1, none⟩ = some (.int .i64 K3) := whole_cell HG.out rfl
  have k0 : w2.cell? ⟨g, 0, none⟩ = some (.int .i64 ip) := whole_cell HG.out rfl
  have k3 : w2.cell? ⟨g, 3, none⟩ = some (.slice (some ad) nb bc) := whole_cell HG.out rfl
  have z0 := whole_frozen HG.out 0
  have z1 := whole_frozen HG.out 1
  have e0 : 3 ≤ (K3 : Int) := by omega
  have e1 : (K3 : Int) ≤ (nb : Int) := by omega
  have e2 : (K3 : Int) - 1 = (K2 : Int) := by omega
  have e3 : (0 : Int) ≤ (K2 : Int) := Int.natCast_nonneg _
  have e4 : (K2 : Int) < (nb : Int) := by omega
  have e5 : (0 : Int) ≤ (D : Int) := Int.natCast_nonneg _
  have e6 : (D : Int) < 48 := by omega
  have f3 : (0 : Int) ≤ (K1 : Int) := Int.natCast_nonneg _
  have f4 : (K1 : Int) < (nb : Int) := by omega
  have f5 : (0 : Int) ≤ (K : Int) := Int.natCast_nonneg _
  have f6 : (K : Int) < (nb : Int) := by omega
  have r2 : IntKind.i64.wrap ((K3 : Int) - 2) = (K1 : Int) := (IntWalk.i64_in _ (by omega)).trans (by omega)
  have r3 : IntKind.i64.wrap ((K3 : Int) - 3) = (K : Int) := (IntWalk.i64_in _ (by omega)).trans (by omega)
  have e7 : (K3 : Int) - 3 = (K : Int) := by omega
  have HE7 := Lib.hid e7
  have HADB := Lib.hid (And.intro (show (ad.add K1).block ≠ g by have := World.block_lt_of_cell? w _ hc2; have := HW.out; omega) (show (ad.add K).block ≠ g by have := World.block_lt_of_cell? w _ hc3; have := HW.out; omega))
  clear hcd hc2 hc3 hbk hd h2 h3 hf hc hnb hn hK1 hK2 hK3 lift HB0 e7
  go_enter Tryz.func24, Tryz.ntmps24
  go_upto_region 1 with fail
  clear hw1 hw2 hg hr
  go_upto_region 4 with fail
  have d3 : w2.drew.cell? ⟨g, 3, none⟩ = some (.slice (some ad) nb bc) := k3
  have y1 : w2.drew.cell? (ad.add K1) = some (.int .i64 a2) := x1
  have y0 : w2.drew.cell? (ad.add K) = some (.int .i64 a3) := x0
  have HF1 := Lib.hid (HF.out.set HW.out HZ.out 1 (.int .i64 a2))
  have HF2 := Lib.hid (HF1.out.set HW.out HZ.out 0 (.int .i64 a3))
  have q3a : (w2.setCell ⟨g, 1, none⟩ (.int .i64 a2)).cell? ⟨g, 3, none⟩ = some (.slice (some ad) nb bc) := whole_cell HF1.out.hg rfl
  have q3b : ((w2.setCell ⟨g, 1, none⟩ (.int .i64 a2)).setCell ⟨g, 0, none⟩ (.int .i64 a3)).cell? ⟨g, 3, none⟩ = some (.slice (some ad) nb bc) := whole_cell HF2.out.hg rfl
  have q1a := (HAD.out _ HF1.out.hb).1
  have q0a := (HAD.out _ HF1.out.hb).2
  have q1b := (HAD.out _ HF2.out.hb).1
  have q0b := (HAD.out _ HF2.out.hb).2
  go_region_held3 (fun w' => w'.cell? ⟨g, 3, none⟩ = some (.slice (some ad) nb bc) ∧ w'.cell? (ad.add K1) = some (.int .i64 a2) ∧ w'.cell? (ad.add K) = some (.int .i64 a3))
    (first
      | with_reducible exact ⟨d3, y1, y0⟩
      | exact ⟨drewK q3a, drewK q1a, drewK q0a⟩
      | exact ⟨drewK q3b, drewK q1b, drewK q0b⟩)
    (fail)
  have HF3 := Lib.hid HF2.out.drew
  clear q3a q3b q1a q0a q1b q0b d3 y1 y0 x2 x1 x0 k1 k0 k3 z0 z1 HF HF1 HF2 HG HR HAD e2 e3 e4 f3 f4 r2 r3
  generalize ((w2.setCell ⟨g, 1, none⟩ (.int .i64 a2)).setCell ⟨g, 0, none⟩ (.int .i64 a3)).drew = w3 at *
  have HLK := Lib.hid (show (bk.take K).length = K by have := HN.out.1; have := HN.out.2.2.1; have := HN.out.2.2.2.1; rw [List.length_take]; omega)
  have e7 := HE7.out
  have k3 : w3.cell? ⟨g, 3, none⟩ = some (.slice (some ad) nb bc) := whole_cell HF3.out.hg rfl
  have z3 := whole_frozen HF3.out.hg 3
  have HK3 := Lib.hid (HKK.out.below HF3.out.hb)
  have HGB := Lib.hid (show g < w3.heap.size from whole_lt HF3.out.hg)
  have HRG := Lib.hid (show r < w3.heap.size from whole_lt HF3.out.hr)
  go_upto_region 6 with (first
    | (refine wpList_slice_part (o := ⟨_, Op.slice _ _ _ _ none, _, _, _, _⟩) (by rfl) _ _ _ _ rfl 3 Tryz.underlying22 Tryz.sizeOf3 _ bk rfl HK3.out 0 K (.inr ⟨rfl, rfl⟩) (.inl rfl) (Nat.zero_le _) (by have := HN.out.1; have := HN.out.2.2.1; have := HN.out.2.2.2.1; omega) ?_; intro y hy; rw [List.drop_zero] at hy; have HY := Lib.hid hy; clear hy)
    | (refine wpList_append_reads _ rfl _ _ 22 rfl w3.heap.size 3 i0 (.int .i64 0) 8 Tryz.underlying22 HI.out.1 HI.out.2.1 HI.out.2.2.1 HI.out.2.2.2 rfl (.slice none 0 0) [] rfl (Owns.nil _ _ _) y (bk.take K) rfl HY.out.1 (by have := HN.out.1; have := HN.out.2.2.2.2.1; unfold maxLen; rw [List.length_take]; simp; omega) (by have := HN.out.1; have := HN.out.2.2.2.2.1; rw [List.length_take]; simp; omega) (Nat.le_refl _) ?_; intro v3 w4 ho _ ht hn; have HV3 := Lib.hid (show Owns w4 w3.heap.size 3 v3 (vals (bk.take K)) from ho); obtain ⟨vo, vc, ev⟩ := HV3.out.slice; rw [vals_length, HLK.out] at ev; subst ev; have HF4 := Lib.hid (HF3.out.on (ht.below (fun _ h => by cases h) (Nat.le_refl _))); have k3' := (show w4.cell? ⟨g, 3, none⟩ = some (.slice (some ad) nb bc) from whole_cell HF4.out.hg rfl); have z3' := whole_frozen HF4.out.hg 3; clear ho ht hn))
  have HF5 := Lib.hid (HF4.out.set HW.out HZ.out 3 (.slice vo K vc))
  have HV5 := Lib.hid (own_set (j := 3) (u := .slice vo K vc) HV3.out HGB.out)
  clear k3 z3 k3' z3' HV3 HF4 HF3 HY HK3 e7
  generalize w4.setCell ⟨g, 3, none⟩ (.slice vo K vc) = w5 at *
  obtain ⟨P, hP⟩ : ∃ P, min D n = P := ⟨_, rfl⟩
  have m1 : min (D : Int) (n : Int) = (P : Int) := by omega
  have HPP := Lib.hid (show P ≤ st.length ∧ P ≤ D ∧ (st.take P).length = P ∧ st.take P = st.take D ∧ D - P = D - st.length by
    have h := HN.out.2.1
    refine ⟨by omega, by omega, by rw [List.length_take]; omega, ?_, by omega⟩
    rw [← hP, ← h, ← List.take_eq_take_min])
  have HDD := Lib.hid hD
  have HS5 := Lib.hid (HS.out.below HF5.out.hb)
  have k2 : w5.cell? ⟨g, 2, none⟩ = some (.slice so n sc) := whole_cell HF5.out.hg rfl
  have HG5 := Lib.hid (show g < w5.heap.size ∧ r < w5.heap.size from ⟨whole_lt HF5.out.hg, whole_lt HF5.out.hr⟩)
  clear hP
  go_wp2_with (first
    | (refine wpList_slice_part (o := ⟨_, Op.slice _ _ _ _ none, _, _, _, _⟩) (by rfl) _ _ _ _ rfl 3 Tryz.underlying22 Tryz.sizeOf3 _ st rfl HS5.out 0 P (.inr ⟨rfl, rfl⟩) (.inl rfl) (Nat.zero_le _) HPP.out.1 ?_; intro y hy; rw [List.drop_zero] at hy; have HY := Lib.hid hy; clear hy)
    | (refine wpList_append_reads _ rfl _ _ 22 rfl w5.heap.size 3 i0 (.int .i64 0) 8 Tryz.underlying22 HI.out.1 HI.out.2.1 HI.out.2.2.1 HI.out.2.2.2 rfl (.slice none 0 0) [] rfl (Owns.nil _ _ _) y (st.take P) rfl HY.out.1 (by have := HPP.out.2.2.1; have := HPP.out.2.1; have := HDD.out; unfold maxLen; simp only [List.length_nil]; omega) (by have := HPP.out.2.2.1; have := HPP.out.2.1; have := HDD.out; simp only [List.length_nil]; omega) (Nat.le_refl _) ?_; intro v6 w6 ho _ ht hn; have HV6 := Lib.hid (show Owns w6 w5.heap.size 3 v6 (vals (st.take P)) from ho); obtain ⟨lo, lc, ev⟩ := HV6.out.slice; rw [vals_length, HPP.out.2.2.1] at ev; subst ev; have HB6 := Lib.hid (ht.below (B := w5.heap.size) (fun _ h => by cases h) (Nat.le_refl _)); clear ho ht hn))
  go_loopg [7] (D - P) (fun z f wr => ∃ (L j : Nat) (lo : Option Addr) (lc : Nat), z = D - L ∧ L ≤ D ∧ f = .slice lo L lc ∧ Hid (L = P + j) ∧ Hid (Owns wr w5.heap.size 3 (.slice lo L lc) (vals (st.take P ++ List.replicate j 0))) ∧ Hid (Below w5.heap.size w5 wr))
  case atStart => exact ⟨P, 0, lo, lc, rfl, HPP.out.2.1, rfl, rfl, by rw [List.replicate_zero, List.append_nil]; exact HV6.out, HB6.out⟩
  case round =>
    obtain ⟨L, j, lo, lc, rfl, hL, rfl, HJ, HO, HBL⟩ := hrel
    have HLJ := Lib.hid (show (st.take P ++ List.replicate j 0).length = L by rw [List.length_append, HPP.out.2.2.1, List.length_replicate]; exact HJ.out.symm)
    by_cases hlt : L < D
    · have b1 : (L : Int) < (D : Int) := by omega
      obtain ⟨w7, gl, hw7, hgl, HLB, HBX, HGL⟩ := newBox wr #[.int .i64 0] 3
      have HLT := Lib.hid (ownsLit (n := 1) HLB.out [0] rfl rfl (by decide) (Nat.le_refl _) (by decide))
      have HO7 := Lib.hid (HO.out.below HBX.out)
      have HB7 := Lib.hid (HBL.out.trans (HBX.out.mono HBL.out.size))
      clear HLB HBX HGL
      go_wp2_with (refine wpList_append_reads _ rfl _ _ 22 rfl w5.heap.size 3 i0 (.int .i64 0) 8 Tryz.underlying22 HI.out.1 HI.out.2.1 HI.out.2.2.1 HI.out.2.2.2 rfl (.slice lo L lc) (vals (st.take P ++ List.replicate j 0)) rfl HO7.out (.slice (some ⟨gl, 0, none⟩) 1 1) [0] rfl (Reads.of_owns HLT.out) (by have := HLJ.out; have := HDD.out; rw [vals_length]; unfold maxLen; simp only [List.length_singleton]; omega) (by have := HLJ.out; have := HDD.out; rw [vals_length]; simp only [List.length_singleton]; omega) HB7.out.size ?_; intro v8 w8 ho _ ht hn; have HV8 := Lib.hid (show Owns w8 w5.heap.size 3 v8 (vals (st.take P ++ List.replicate (j + 1) 0)) by rw [List.replicate_succ', ← List.append_assoc, vals, List.map_append]; exact ho); obtain ⟨lo', lc', ev⟩ := HV8.out.slice; rw [vals_length, List.length_append, HPP.out.2.2.1, List.length_replicate, show P + (j + 1) = L + 1 by have := HJ.out; omega] at ev; subst ev; have HB8 := Lib.hid (HB7.out.trans (ht.below (B := w5.heap.size) (fun k hk => (HO7.out.block k (by simpa using hk)).1) HB7.out.size)); clear ho ht hn)
      go_roundg (D - (L + 1))
      case measure => omega
      case rel => exact ⟨L + 1, j + 1, lo', lc', rfl, by omega, rfl, by have := HJ.out; show L + 1 = P + (j + 1); omega, HV8, HB8⟩
    · have b1 : ¬ (L : Int) < (D : Int) := by omega
      obtain rfl : L = D := by omega
      obtain ⟨w7, gl, hw7, hgl, HLB, HBX, HGL⟩ := newBox wr #[.int .i64 code] 3
      have HLT := Lib.hid (ownsLit (n := 1) HLB.out [code] rfl rfl (by decide) (Nat.le_refl _) (by decide))
      have HO7 := Lib.hid (HO.out.below HBX.out)
      have HB7 := Lib.hid (HBL.out.trans (HBX.out.mono HBL.out.size))
      have HDP := Lib.hid (show st.take P ++ List.replicate j 0 = deep st L by
        unfold deep
        have := HJ.out
        rw [HPP.out.2.2.2.1, show j = L - st.length by have := HPP.out.2.2.2.2; omega])
      clear HLB HBX HGL
      go_wp2_with (first
        | (refine wpList_append_reads _ rfl _ _ 22 rfl w5.heap.size 3 i0 (.int .i64 0) 8 Tryz.underlying22 HI.out.1 HI.out.2.1 HI.out.2.2.1 HI.out.2.2.2 rfl (.slice lo L lc) (vals (st.take P ++ List.replicate j 0)) rfl HO7.out (.slice (some ⟨gl, 0, none⟩) 1 1) [code] rfl (Reads.of_owns HLT.out) (by have := HLJ.out; have := HDD.out; rw [vals_length]; unfold maxLen; simp only [List.length_singleton]; omega) (by have := HLJ.out; have := HDD.out; rw [vals_length]; simp only [List.length_singleton]; omega) HB7.out.size ?_; intro v8 w8 ho _ ht hn; have HV8 := Lib.hid (show Owns w8 w5.heap.size 3 v8 (vals (deep st L ++ [code])) by rw [← HDP.out, vals, List.map_append]; exact ho); obtain ⟨lo', lc', ev⟩ := HV8.out.slice; rw [vals_length, List.length_append, deep_length, List.length_singleton] at ev; subst ev; have HB8 := Lib.hid (HB7.out.trans (ht.below (B := w5.heap.size) (fun k hk => (HO7.out.block k (by simpa using hk)).1) HB7.out.size)); have HF8 := Lib.hid (HF5.out.on HB8.out); have HV3' := Lib.hid (HV5.out.below HB8.out); have k2' := (show w8.cell? ⟨g, 2, none⟩ = some (.slice so n sc) from whole_cell HF8.out.hg rfl); have z2' := whole_frozen HF8.out.hg 2; have HF9 := Lib.hid (HF8.out.set HW.out HZ.out 2 (.slice lo' (L + 1) lc')); have HV9 := Lib.hid (own_set (j := 2) (u := .slice lo' (L + 1) lc') HV8.out HG5.out.1); have HV39 := Lib.hid (own_set (j := 2) (u := .slice lo' (L + 1) lc') HV3'.out HGB.out); clear ho ht hn)
        | (refine ld_state (by rfl) _ rfl _ rfl _ _ HF9.out.hg rfl ?_)
        | (refine st_state (by rfl) _ _ rfl r _ rfl rfl _ _ HF9.out.hr rfl rfl (all_one (by rfl) (by rfl) (by rfl)) ?_; intro wf hrf htf; have HRF := Lib.hid hrf; have HTF := Lib.hid htf; clear hrf htf))
      refine bodyPost_ret (results_cell_row rfl _ _ r _ _ _ _ rfl HRF.out Tryz.underlying24 rfl state_size) rfl ?_
      have hbf : Below w.heap.size w wf := HF9.out.hb.trans (HTF.out.below (fun k hk => by rw [List.mem_singleton.1 hk]; have := HW.out; have := HZ.out; omega) HF9.out.hb.size)
      have o1 : Owns wf w5.heap.size 3 (.slice lo' (L + 1) lc') (vals (deep st L ++ [code])) := HV9.out.touch HTF.out (fun k hk hm => by have h1 := (HV9.out.block k hk).1; have h2 := HG5.out.2; rw [List.mem_singleton.1 hm] at h1; omega)
      have o2 : Owns wf w3.heap.size 3 (.slice vo K vc) (vals (bk.take K)) := HV39.out.touch HTF.out (fun k hk hm => by have h1 := (HV39.out.block k hk).1; have h2 := HRG.out; rw [List.mem_singleton.1 hm] at h1; omega)
      have hz1 : w.heap.size ≤ w5.heap.size := by have h1 := HG5.out.1; have h2 := HW.out; omega
      have hz2 : w.heap.size ≤ w3.heap.size := by have h1 := HRG.out; have h2 := HW.out; have h3 := HZ.out; omega
      exact ⟨_, _, _, rfl, .inr (o1.from hz1), .inr (o2.from hz2), .inl ⟨rfl, rfl⟩, hbf⟩
/-- a fault, whatever it is -/
theorem refFault_kin {w : World} {vs vb vm : Value} {m : M} (hs : ReadsC w vs m.stack) (hb : ReadsC w vb m.back) (hm : ReadsC w vm m.mem) (hr : m.back.length ≤ 48) (hsl : m.stack.length ≤ 48) (code : Int) :
    Calls Tryz.prog 24 #[stV m vs vb vm, .int .i64 code] w (TellsK vs vb vm m (Mach.fault m code) w) := by
  cases hc : caught m with
  | true => exact refFault_caught hs hb hm hr hsl code hc
  | false => exact refFault_not hs hb hm hr code hc
theorem refFault_any {w : World} {v : Value} {m : M} (h : ReadsM w v m) (hr : Right m) (code : Int) :
    Calls Tryz.prog 24 #[v, .int .i64 code] w (TellsM (Mach.fault m code) w) := by
  obtain ⟨vs, vb, vm, rfl, hs, hb, hm⟩ := h
  exact (refFault_kin hs hb hm hr.back hr.stack code).mono fun e w' h => h.tells hs hb hm
end Go.Proofs.YtfpaajoggbibnaaGreatDoor.Inn
/- A region that draws its order and makes, fills and hands on states' boxes: one step each. -/
namespace Go.Proofs.YtfpaajoggbibnaaGreatDoor.Mach
open Go.RowKit Book Mem
set_option linter.unusedVariables false
set_option linter.unusedSimpArgs false
section
variable {ops : Array Oper} {o : Oper} {a : Act} {w : World} {K : Act → World → Prop} {Q : Exit → Act → World → Prop} {F : Prop}
/-- an empty box is made -/
theorem step_alloc_state (hw : Region.wanted o (yielded ops a.tmps) = true) (ho : o.op = .alloc 24)
    (h : ∀ g w', w.heap.size = g → w'.heap[g]? = some (.cells zero10 24 (0, 0)) → Below w.heap.size w w' → K (a.put o.dst (.pointer (some ⟨g, 0, none⟩))) w') : if Region.wanted o (yielded ops a.tmps) = true then o.wp Tryz.prog a w K Q else F := by
  rw [if_pos hw]
  have hk := h w.heap.size (w.alloc (.cells zero10 24)) rfl (heap_alloc_new w _) ((Below.refl w.heap.size w).alloc (Nat.le_refl _) _)
  obtain ⟨dst, op, ty, pos, after, guard⟩ := o
  simp only at ho hk ⊢
  subst ho
  clear h hw
  generalize hw' : w.alloc (.cells zero10 24) = w' at hk
  go_simp
  exact hk
/-- a box is filled -/
theorem step_st_state (hw : Region.wanted o (yielded ops a.tmps) = true) (x y : Operand) (ho : o.op = .store 24 x y) (g : Nat) (cells : Array Value) (hx : a.eval x = .pointer (some ⟨g, 0, none⟩)) (hy : a.eval y = .agg cells) (old : Array Value) (hg : w.heap[g]? = some (.cells old 24 (0, 0))) (hs : cells.size = 10) (hold : old.size = 10) (h1 : cells.all (·.oneCell') = true)
    (h : ∀ w', w'.heap[g]? = some (.cells cells 24 (0, 0)) → Stirred w w' [g] → K (a.put o.dst undef) w') : if Region.wanted o (yielded ops a.tmps) = true then o.wp Tryz.prog a w K Q else F := by
  rw [if_pos hw]
  have hz : (Tryz.prog.info? 24).map (·.size) = some cells.size := by rw [hs]; exact state_size
  exact wp_store_row 24 x y ho g cells hx hy 24 old hg hz (by rw [hold, hs]) h1 (h _ (setRow_heap w g old cells 24 (0, 0) hg) (Stirred.setRow w g cells))
end
theorem OwnsL.from {w : World} {B B' : Nat} {vs vb vm : Value} {m : M} (h : OwnsL w B vs vb vm m) (hB : B' ≤ B) : OwnsL w B' vs vb vm m := ⟨h.st.from hB, h.bk.from hB, h.me.from hB, h.sb, h.bm⟩
theorem OwnsL.box {w w' : World} {B g : Nat} {vs vb vm : Value} {m : M} {cs : Array Value} (h : OwnsL w B vs vb vm m) (hs : Stirred w w' [g]) (hg : w.heap[g]? = some (.cells cs 24 (0, 0))) : OwnsL w' B vs vb vm m := ⟨own_box h.st hs hg, own_box h.bk hs hg, own_box h.me hs hg, h.sb, h.bm⟩
/-- lists that were made later are other ones -/
theorem apart12 {X Y : World} {B : Nat} {e1 e2 e3 f1 f2 f3 : Value} {mE mF : M} (he : OwnsL X B e1 e2 e3 mE) (hf : OwnsL Y X.heap.size f1 f2 f3 mF) : ∀ k, (blk e1 = some k ∨ blk e2 = some k ∨ blk e3 = some k) → blk f1 ≠ some k ∧ blk f2 ≠ some k ∧ blk f3 ≠ some k := by
  intro k h
  have hl : k < X.heap.size := by
    rcases h with h | h | h
    · exact (he.st.block k h).2.1
    · exact (he.bk.block k h).2.1
    · exact (he.me.block k h).2.1
  exact ⟨fun h' => by have := (hf.st.block k h').1; omega, fun h' => by have := (hf.bk.block k h').1; omega, fun h' => by have := (hf.me.block k h').1; omega⟩
/-- two machines were made, each in a box of its own -/
structure P12 (w12 wx : World) (b15 b16 : Nat) (mE mF : M) (e1 e2 e3 f1 f2 f3 : Value) : Prop where
  hb : Below w12.heap.size w12 wx
  h15 : wx.heap[b15]? = some (.cells (cells10 mE.ip mE.handler e1 e2 e3 mE.out mE.inp mE.read mE.status mE.code) 24 (0, 0))
  h16 : wx.heap[b16]? = some (.cells (cells10 mF.ip mF.handler f1 f2 f3 mF.out mF.inp mF.read mF.status mF.code) 24 (0, 0))
  oe : OwnsL wx w12.heap.size e1 e2 e3 mE
  of : OwnsL wx w12.heap.size f1 f2 f3 mF
  ap : ∀ k, (blk e1 = some k ∨ blk e2 = some k ∨ blk e3 = some k) → blk f1 ≠ some k ∧ blk f2 ≠ some k ∧ blk f3 ≠ some k
theorem box_two {w w' : World} {g r : Nat} {o : Obj} (hs : Stirred w w' [g]) (h : w.heap[r]? = some o) (hn : r ≠ g) : w'.heap[r]? = some o :=
  hs.whole h (fun hm => hn (List.mem_singleton.1 hm))
end Go.Proofs.YtfpaajoggbibnaaGreatDoor.Mach
/- Machines in a book's company: what stays when lists are laid into a book. -/
namespace Go.Proofs.YtfpaajoggbibnaaGreatDoor.Mach
open Go.RowKit Book Mem
set_option linter.unusedVariables false
set_option linter.unusedSimpArgs false
theorem LentM.spares {w w' : World} {B : Nat} {v : Value} {m : M} (h : LentM w B v m) (hs : Spares w w') : LentM w' B v m := by
  obtain ⟨g1, k1, g2, k2, g3, k3, e, h1, h2, h3⟩ := h
  exact ⟨g1, k1, g2, k2, g3, k3, e, hs.owns h1, hs.owns h2, hs.owns h3⟩
theorem OwnsL.spares {w w' : World} {B : Nat} {vs vb vm : Value} {m : M} (h : OwnsL w B vs vb vm m) (hs : Spares w w') : OwnsL w' B vs vb vm m :=
  ⟨hs.owns h.st, hs.owns h.bk, hs.owns h.me, h.sb, h.bm⟩
/-- lists made behind a book's lists, and behind three others, are none of them -/
theorem apart_ls {X : World} {B : Nat} {ls : List (Value × List Value)} {e1 e2 e3 f1 f2 f3 : Value} {mF : M} (h6 : ∀ k ∈ blocks ls, k < B) (hf : OwnsL X B f1 f2 f3 mF)
    (ap : ∀ k, (blk e1 = some k ∨ blk e2 = some k ∨ blk e3 = some k) → blk f1 ≠ some k ∧ blk f2 ≠ some k ∧ blk f3 ≠ some k) (x1 x2 x3 : List Value) :
    ∀ k ∈ blocks (ls ++ [(e1, x1), (e2, x2), (e3, x3)]), blk f1 ≠ some k ∧ blk f2 ≠ some k ∧ blk f3 ≠ some k := by
  intro k hk
  rw [blocks_append, List.mem_append] at hk
  rcases hk with hk | hk
  · have := h6 k hk
    exact ⟨fun h' => by have := (hf.st.block k h').1; omega, fun h' => by have := (hf.bk.block k h').1; omega, fun h' => by have := (hf.me.block k h').1; omega⟩
  · refine ap k ?_
    simp only [blocks, List.flatMap_cons, List.flatMap_nil, List.append_nil, List.mem_append, Option.mem_toList] at hk
    exact hk
/-- a word is begun, told to be read -/
theorem refEnter_tells {w : World} {v : Value} {m : M} (h : ReadsM w v m) (xt : Int) :
    Calls Tryz.prog 23 #[v, .int .i64 xt] w (TellsM { m with ip := xt, handler := 0, back := [0], status := 0, code := 0 } w) := by
  refine (refEnter_any (LM.of_reads w.heap.size h) (Nat.le_refl _) xt).mono ?_
  rintro e w' ⟨v', rfl, hl, hb⟩
  exact ⟨v', rfl, hl.reads hb, hb⟩
end Go.Proofs.YtfpaajoggbibnaaGreatDoor.Mach
/- InnerBegins: the walk. -/
namespace Go.Proofs.YtfpaajoggbibnaaGreatDoor.InnerBegins
open Go.RowKit Book Mem Mach Inn
set_option linter.unusedVariables false
set_option linter.unusedSimpArgs false
/-- ten cells of a state's box -/
def Ten (w : World) (g : Nat) (ip hn : Int) (vs vb vm : Value) (ou inn : ByteArray) (rd stt cd : Int) : Prop :=
    w.cell? ⟨g, 0, none⟩ = some (.int .i64 ip) ∧ w.cell? ⟨g, 1, none⟩ = some (.int .i64 hn) ∧ w.cell? ⟨g, 2, none⟩ = some vs ∧ w.cell? ⟨g, 3, none⟩ = some vb ∧ w.cell? ⟨g, 4, none⟩ = some vm ∧ w.cell? ⟨g, 5, none⟩ = some (.string ou) ∧ w.cell? ⟨g, 6, none⟩ = some (.string inn) ∧
      w.cell? ⟨g, 7, none⟩ = some (.int .i64 rd) ∧ w.cell? ⟨g, 8, none⟩ = some (.int .i64 stt) ∧ w.cell? ⟨g, 9, none⟩ = some (.int .i64 cd)
theorem Ten.of {w : World} {g : Nat} {ip hn rd stt cd : Int} {vs vb vm : Value} {ou inn : ByteArray} (h : w.heap[g]? = some (.cells (cells10 ip hn vs vb vm ou inn rd stt cd) 24 (0, 0))) : Ten w g ip hn vs vb vm ou inn rd stt cd :=
  ⟨whole_cell h rfl, whole_cell h rfl, whole_cell h rfl, whole_cell h rfl, whole_cell h rfl, whole_cell h rfl, whole_cell h rfl, whole_cell h rfl, whole_cell h rfl, whole_cell h rfl⟩
abbrev bookZero : Array Value := #[.slice none 0 0, .slice none 0 0, .slice none 0 0, .slice none 0 0, .slice none 0 0, .slice none 0 0, .slice none 0 0, .slice none 0 0, .slice none 0 0, .slice none 0 0, .slice none 0 0, .slice none 0 0]
theorem Spares.box {w w' : World} {g : Nat} {cs : Array Value} (h : Spares w w') (hg : w.heap[g]? = some (.cells cs 24 (0, 0))) : w'.heap[g]? = some (.cells cs 24 (0, 0)) := h g cs _ (by decide) (by decide) hg
set_option maxHeartbeats 16000000 in
set_option maxRecDepth 100000 in
theorem small (n : Int) (inp : ByteArray) (v : Value) (m : M) (xt code : Int) (W : World) (h : ReadsM W v m) (hc : Cells m) (hE : ∀ wc, Below W.heap.size W wc → Tabs wc)
    (h1 : inp.size ≤ 300) (h2 : m.mem.length ≤ 4000) (h3 : m.stack.length ≤ 200) (h4 : m.back.length ≤ 200) (h5 : m.out.size ≤ 4000) (h6 : m.inp.size ≤ 300) (h7 : n ≤ 5000) :
    Calls Tryz.prog 4 #[.int .i64 n, .string inp, v, .int .i64 xt, .int .i64 code] W (Yes W) := by
  have HV := Lib.hid h
  have HE := Lib.hid hE
  obtain ⟨vs, vb, vm, rfl, ⟨-, so, sc, rfl, -⟩, ⟨-, bo, bc, rfl, -⟩, ⟨-, mo, mc, rfl, -⟩⟩ := h
  obtain ⟨w1, g, hw1, hg', HX, HB1, HG⟩ := new_box W (cells10 m.ip m.handler (.slice so m.stack.length sc) (.slice bo m.back.length bc) (.slice mo m.mem.length mc) m.out m.inp m.read m.status m.code) 24
  have A := Lib.hid (alive_any w1 (fun wc hbc => hE wc (HB1.out.trans (hbc.mono HB1.out.size))))
  have HL := Lib.hid (And.intro h1 (And.intro h2 (And.intro h3 (And.intro h4 (And.intro h5 h6)))))
  have HC := Lib.hid hc
  have hn' : inp.size ≤ 9223372036854775807 := by omega
  have hi' : m.inp.size ≤ 9223372036854775807 := by omega
  have ho' : m.out.size ≤ 9223372036854775807 := by omega
  have c1 : ¬ 300 < inp.size := by omega
  have c5 : ¬ 4000 < m.out.size := by omega
  have c6 : ¬ 300 < m.inp.size := by omega
  have c7 : ¬ 5000 < n := by omega
  obtain ⟨n2, hn2⟩ : ∃ n, m.stack.length = n := ⟨_, rfl⟩
  obtain ⟨n3, hn3⟩ : ∃ n, m.back.length = n := ⟨_, rfl⟩
  obtain ⟨n4, hn4⟩ : ∃ n, m.mem.length = n := ⟨_, rfl⟩
  rw [hn2] at HX hw1 h3 HV ⊢
  rw [hn3] at HX hw1 h4 HV ⊢
  rw [hn4] at HX hw1 h2 HV ⊢
  have c2 : ¬ 4000 < n4 := by omega
  have c3 : ¬ 200 < n2 := by omega
  have c4 : ¬ 200 < n3 := by omega
  have HN := Lib.hid (And.intro hn2 (And.intro hn3 hn4))
  have k2 : w1.cell? ⟨g, 2, none⟩ = some (.slice so n2 sc) := whole_cell HX.out rfl
  have k3 : w1.cell? ⟨g, 3, none⟩ = some (.slice bo n3 bc) := whole_cell HX.out rfl
  have k4 : w1.cell? ⟨g, 4, none⟩ = some (.slice mo n4 mc) := whole_cell HX.out rfl
  have k5 : w1.cell? ⟨g, 5, none⟩ = some (.string m.out) := whole_cell HX.out rfl
  have k6 : w1.cell? ⟨g, 6, none⟩ = some (.string m.inp) := whole_cell HX.out rfl
  clear hE hc h1 h2 h3 h4 h5 h6 h7 hn2 hn3 hn4
  go_enter Tryz.func4, Tryz.ntmps4
  go_wp2_with fail
  refine A.out.mono ?_
  rintro e w2 ⟨rfl, hb⟩
  have HB2 := Lib.hid (HB1.out.trans (hb.mono HB1.out.size))
  have HX2 := Lib.hid (box_on HX.out hb)
  clear hb A k2 k3 k4 k5 k6
  go_upto_region 3 with fail
  clear hw1 hg'
  obtain ⟨w3, pb, hw3, hpb, HBK, HB3, HPB⟩ := new_box w2 bookZero 35
  have HK3 := Lib.hid (Bk.empty HBK.out)
  have HX3 := Lib.hid (box_on HX2.out HB3.out)
  have HW3 := Lib.hid (HB2.out.trans (HB3.out.mono HB2.out.size))
  have HPL := Lib.hid (show pb < w3.heap.size from whole_lt HBK.out)
  have HGP := Lib.hid (show g < pb by have h1 := whole_lt HX2.out; have h2 := HPB.out; omega)
  have HWP := Lib.hid (show W.heap.size ≤ pb by have h1 := HB2.out.size; have h2 := HPB.out; omega)
  obtain ⟨nn, hnn⟩ : ∃ k : Nat, (k : Int) = min (max n 0) 3000 := ⟨(min (max n 0) 3000).toNat, by omega⟩
  have C := Lib.hid (innBoot_any w3 n nn hnn inp)
  obtain ⟨x, hx⟩ : ∃ x, bootM nn inp = x := ⟨_, rfl⟩
  rw [hx] at C
  have HNN := Lib.hid (And.intro hnn hx)
  clear hnn hx HBK HX HX2
  go_wp2_with fail
  refine C.out.mono ?_
  rintro e w4 hgm
  obtain ⟨s1, p1, s2, p2, s3, p3, rfl, ho, hb⟩ := GivesM.known hgm
  obtain ⟨w5, b12, hw5, hb12, HYB, HBn, HGB⟩ := new_box w4 (cells10 x.ip x.handler (.slice s1 x.stack.length p1) (.slice s2 x.back.length p2) (.slice s3 x.mem.length p3) x.out x.inp x.read x.status x.code) 24
  have hb35 := hb.trans (HBn.out.mono hb.size)
  have HO5 := Lib.hid (ho.below HBn.out)
  have HK5 := Lib.hid (HK3.out.below hb35)
  have HX5 := Lib.hid (box_on HX3.out hb35)
  have HW5 := Lib.hid (HW3.out.trans (hb35.mono HW3.out.size))
  have hxl : x.stack.length = 0 ∧ x.back.length = 0 ∧ x.mem.length ≤ 3000 := by
    rw [← HNN.out.2]
    exact ⟨rfl, rfl, by show (bootMem 48 nn).length ≤ 3000; rw [bootMem_length]; have := HNN.out.1; omega⟩
  have S := Lib.hid (bookState_any HK5.out HO5.out (by have := HPL.out; omega) (fun k hk => by cases hk) (by show 0 + 3 ≤ 250; decide) (by omega) (by omega) (by omega))
  have HXL := Lib.hid hxl
  clear C ho hb hgm hb35 hxl HBn
  go_upto_region 5 with fail
  clear hw3 hpb hw5 hb12
  go_wp2_with (refine ld_state (by rfl) _ rfl _ rfl _ _ HYB.out rfl ?_)
  refine S.out.mono ?_
  rintro e w6 ⟨rfl, vS6, vW6, hK6, hP6, hsp6⟩
  have HK6 := Lib.hid hK6
  have HW6 := Lib.hid (HW5.out.trans (hP6.mono HWP.out))
  have HY6 := Lib.hid (Spares.box hsp6 HYB.out)
  have HX6 := Lib.hid (Spares.box hsp6 HX5.out)
  have HO6 : Hid (OwnsL w6 w3.heap.size (.slice s1 x.stack.length p1) (.slice s2 x.back.length p2) (.slice s3 x.mem.length p3) x) := Lib.hid ⟨hsp6.owns HO5.out.st, hsp6.owns HO5.out.bk, hsp6.owns HO5.out.me, HO5.out.sb, HO5.out.bm⟩
  clear S hK6 hP6 hsp6 HYB HX5 HO5 HK5
  have HVW := Lib.hid (fun wc (hb : Below w6.heap.size w6 wc) => HV.out.below (HW6.out.trans (hb.mono HW6.out.size)))
  obtain ⟨rb, hrb⟩ : ∃ rb, rightM m = rb := ⟨_, rfl⟩
  have HRB := Lib.hid hrb
  have HR1 : Hid (∀ wc, Below w6.heap.size w6 wc → Calls Tryz.prog 13 #[stV m (.slice so n2 sc) (.slice bo n3 bc) (.slice mo n4 mc)] wc (Says (.bool rb) wc)) := Lib.hid (fun wc hb => by rw [← hrb]; exact innRight_any (HVW.out wc hb) hi' ho')
  have HR2 : Hid (∀ wc, Below w6.heap.size w6 wc → Calls Tryz.prog 19 #[stV m (.slice so n2 sc) (.slice bo n3 bc) (.slice mo n4 mc)] wc (Says (.bool rb) wc)) := Lib.hid (fun wc hb => by rw [← hrb]; exact refRight_any (HVW.out wc hb) hi' ho')
  have HR3 := Lib.hid (fun wc (hb : Below w6.heap.size w6 wc) => innCopy_any (HVW.out wc hb) (by have := HN.out; have := HL.out; omega) (by have := HN.out; have := HL.out; omega) (by have := HN.out; have := HL.out; omega))
  have HB6 := Lib.hid (show Below w6.heap.size w6 w6.drew from (Below.refl _ _).drew)
  have HX6 := Lib.hid (show w6.drew.heap[g]? = _ from HX6.out)
  have HY6 := Lib.hid (show w6.drew.heap[b12]? = _ from HY6.out)
  clear hrb
  go_wp2_with fail
  go_region_held3 (fun w' => (w'.cell? ⟨g, 0, none⟩ = some (.int .i64 m.ip) ∧ w'.cell? ⟨g, 1, none⟩ = some (.int .i64 m.handler) ∧ w'.cell? ⟨g, 2, none⟩ = some (.slice so n2 sc) ∧ w'.cell? ⟨g, 3, none⟩ = some (.slice bo n3 bc) ∧ w'.cell? ⟨g, 4, none⟩ = some (.slice mo n4 mc) ∧ w'.cell? ⟨g, 5, none⟩ = some (.string m.out) ∧ w'.cell? ⟨g, 6, none⟩ = some (.string m.inp) ∧ w'.cell? ⟨g, 7, none⟩ = some (.int .i64 m.read) ∧ w'.cell? ⟨g, 8, none⟩ = some (.int .i64 m.status) ∧ w'.cell? ⟨g, 9, none⟩ = some (.int .i64 m.code)) ∧ (w'.cell? ⟨b12, 0, none⟩ = some (.int .i64 x.ip) ∧ w'.cell? ⟨b12, 1, none⟩ = some (.int .i64 x.handler) ∧ w'.cell? ⟨b12, 2, none⟩ = some (.slice s1 x.stack.length p1) ∧ w'.cell? ⟨b12, 3, none⟩ = some (.slice s2 x.back.length p2) ∧ w'.cell? ⟨b12, 4, none⟩ = some (.slice s3 x.mem.length p3) ∧ w'.cell? ⟨b12, 5, none⟩ = some (.string x.out) ∧ w'.cell? ⟨b12, 6, none⟩ = some (.string x.inp) ∧ w'.cell? ⟨b12, 7, none⟩ = some (.int .i64 x.read) ∧ w'.cell? ⟨b12, 8, none⟩ = some (.int .i64 x.status) ∧ w'.cell? ⟨b12, 9, none⟩ = some (.int .i64 x.code)))
    (exact And.intro (Ten.of HX6.out) (Ten.of HY6.out))
    (first
      | (go_at_call 11; refine S2.out.mono ?_; rintro e wn ⟨rfl, hb⟩; have HX6 := Lib.hid (box_on HX6.out hb); have HY6 := Lib.hid (box_on HY6.out hb); have HB6 := Lib.hid (HB6.out.trans (hb.mono HB6.out.size)); clear hb)
      | (go_at_call 11; refine S1.out.mono ?_; rintro e wn ⟨rfl, hb⟩; have HX6 := Lib.hid (box_on HX6.out hb); have HY6 := Lib.hid (box_on HY6.out hb); have HB6 := Lib.hid (HB6.out.trans (hb.mono HB6.out.size)); clear hb)
      | (go_at_call 18; refine (refBoot_any _ n nn HNN.out.1 inp).mono ?_; rintro e wn ⟨vr, rfl, ho, hb⟩; have HX6 := Lib.hid (box_on HX6.out hb); have HY6 := Lib.hid (box_on HY6.out hb); have HB6 := Lib.hid (HB6.out.trans (hb.mono HB6.out.size)); have S1 := Lib.hid (sameState_any (OwnsL.readsM (HO6.out.below HB6.out)) (show ReadsM wn vr x by rw [← HNN.out.2]; exact ho.reads) (by have := HXL.out; omega) (by have := HXL.out; omega) (by have := HXL.out; omega)); clear ho hb)
      | (go_at_call 13; refine (HR1.out _ HB6.out).mono ?_; rintro e wn ⟨rfl, hb⟩; have HX6 := Lib.hid (box_on HX6.out hb); have HY6 := Lib.hid (box_on HY6.out hb); have HB6 := Lib.hid (HB6.out.trans (hb.mono HB6.out.size)); clear hb)
      | (go_at_call 19; refine (HR2.out _ HB6.out).mono ?_; rintro e wn ⟨rfl, hb⟩; have HX6 := Lib.hid (box_on HX6.out hb); have HY6 := Lib.hid (box_on HY6.out hb); have HB6 := Lib.hid (HB6.out.trans (hb.mono HB6.out.size)); clear hb)
      | (go_at_call 20; refine (HR3.out _ HB6.out).mono ?_; rintro e wn ⟨vr, rfl, ho, hb⟩; have HX6 := Lib.hid (box_on HX6.out hb); have HY6 := Lib.hid (box_on HY6.out hb); have HB6 := Lib.hid (HB6.out.trans (hb.mono HB6.out.size)); have S2 := Lib.hid (sameState_any ho.reads (HV.out.below (HW6.out.trans (HB6.out.mono HW6.out.size))) (by have := HN.out; have := HL.out; omega) (by have := HN.out; have := HL.out; omega) (by have := HN.out; have := HL.out; omega)); clear ho hb))
  -- a copy is kept
  have C := Lib.hid (HR3.out wn HB6.out)
  have HKn := Lib.hid (HK6.out.below HB6.out)
  have HWn := Lib.hid (HW6.out.trans (HB6.out.mono HW6.out.size))
  have HPn := Lib.hid (show pb < wn.heap.size from whole_lt HKn.out.book)
  clear HK6 HY6 HO6 HR1 HR2 HR3 HVW HB6
  go_upto_region 8 with fail
  go_wp2_with (refine ld_state (by rfl) _ rfl _ rfl _ _ HX6.out rfl ?_)
  refine C.out.mono ?_
  rintro e w7 hgm
  obtain ⟨u1, q1, u2, q2, u3, q3, rfl, ho, hb⟩ := GivesM.known hgm
  rw [HN.out.1, HN.out.2.1, HN.out.2.2] at ho ⊢
  obtain ⟨w8, b13, hw8, hb13, HZB, HBn, HGZ⟩ := new_box w7 (cells10 m.ip m.handler (.slice u1 n2 q1) (.slice u2 n3 q2) (.slice u3 n4 q3) m.out m.inp m.read m.status m.code) 24
  have hb78 := hb.trans (HBn.out.mono hb.size)
  have HO8 := Lib.hid (ho.below HBn.out)
  have HK8 := Lib.hid (HKn.out.below hb78)
  have HX8 := Lib.hid (box_on HX6.out hb78)
  have HW8 := Lib.hid (HWn.out.trans (hb78.mono HWn.out.size))
  have S := Lib.hid (bookState_any HK8.out HO8.out (by have := HPn.out; omega) (fun k hk => (HKn.out.kept.lists.lt k hk).2) (by show 0 + 3 + 3 ≤ 250; decide) (by have := HN.out; have := HL.out; omega) (by have := HN.out; have := HL.out; omega) (by have := HN.out; have := HL.out; omega))
  clear C ho hb hgm hb78 HBn
  go_upto_region 9 with fail
  clear hw8 hb13
  go_wp2_with (refine ld_state (by rfl) _ rfl _ rfl _ _ HZB.out rfl ?_)
  refine S.out.mono ?_
  rintro e w9 ⟨rfl, vS9, vW9, hK9, hP9, hsp9⟩
  have HK9 := Lib.hid hK9
  have HW9 := Lib.hid (HW8.out.trans (hP9.mono HWP.out))
  have HX9 := Lib.hid (Spares.box hsp9 HX8.out)
  have R := Lib.hid (refRight_any (HV.out.below HW9.out) hi' ho')
  rw [HRB.out] at R
  clear S hK9 hP9 hsp9 HZB HX8 HO8 HK8 HKn HX6
  go_upto_region 10 with fail
  go_wp2_with (refine ld_state (by rfl) _ rfl _ rfl _ _ HX9.out rfl ?_)
  refine R.out.mono ?_
  rintro e w10 ⟨rfl, hb⟩
  have HK10 := Lib.hid (HK9.out.below hb)
  have HW10 := Lib.hid (HW9.out.trans (hb.mono HW9.out.size))
  have HX10 := Lib.hid (box_on HX9.out hb)
  clear R hb HK9 HW9 HX9
  cases rb with
  | false =>
    have AP := Lib.hid (apartInts_any pb (pb + 1) vS9 vW9 _ w10 (Nat.lt_succ_self _) (whole_lt HK10.out.book) ⟨whole_cell HK10.out.book rfl, whole_cell HK10.out.book rfl, whole_cell HK10.out.book rfl, whole_cell HK10.out.book rfl, whole_cell HK10.out.book rfl, whole_cell HK10.out.book rfl⟩ (whole_cell HK10.out.book rfl) _ HK10.out.kept)
    go_wp2_with fail
    refine AP.out.mono ?_
    rintro e w11 ⟨rfl, hb⟩
    have HF := Lib.hid (HW10.out.trans (hb.mono (Nat.le_succ_of_le HWP.out)))
    clear AP hb
    go_wp2
    go_ret
    exact ⟨rfl, HF.out⟩
  | true =>
    have hr : Right m := (rightM_iff m).1 HRB.out
    have HR := Lib.hid hr
    clear hr
    have C := Lib.hid (lentState_any (HV.out.below HW10.out) (by have := HN.out; have := HL.out; omega) (by have := HN.out; have := HL.out; omega) (by have := HN.out; have := HL.out; omega))
    go_upto_region 11 with fail
    go_wp2_with (refine ld_state (by rfl) _ rfl _ rfl _ _ HX10.out rfl ?_)
    refine C.out.mono ?_
    rintro e w11 ⟨v', rfl, hlm, hb⟩
    obtain ⟨l1, y1, l2, y2, l3, y3, rfl, hl1, hl2, hl3⟩ := id hlm
    rw [HN.out.1, HN.out.2.1, HN.out.2.2] at hlm ⊢
    obtain ⟨w12, b14, hw12, hb14, HLB, HBn, HGL⟩ := new_box w11 (cells10 m.ip m.handler (.slice (some ⟨l1, 0, none⟩) n2 y1) (.slice (some ⟨l2, 0, none⟩) n3 y2) (.slice (some ⟨l3, 0, none⟩) n4 y3) m.out m.inp m.read m.status m.code) 24
    have hbb := hb.trans (HBn.out.mono hb.size)
    have HLM := Lib.hid (hlm.below HBn.out)
    have HW12 := Lib.hid (HW10.out.trans (hbb.mono HW10.out.size))
    have HK12 := Lib.hid (HK10.out.below hbb)
    have HX12 := Lib.hid (box_on HX10.out hbb)
    clear C hb hbb hlm hl1 hl2 hl3 HBn HGL HK10 HX10 HW10
    go_upto_region 12 with fail
    clear hw12 hb14
    have HX := Lib.hid (show Below w12.heap.size w12 w12.drew from (Below.refl _ _).drew)
    have H14 := Lib.hid (show w12.drew.heap[b14]? = some (.cells (cells10 m.ip m.handler (.slice (some ⟨l1, 0, none⟩) n2 y1) (.slice (some ⟨l2, 0, none⟩) n3 y2) (.slice (some ⟨l3, 0, none⟩) n4 y3) m.out m.inp m.read m.status m.code) 24 (0, 0)) from HLB.out)
    have N14 := Lib.hid (show b14 < w12.heap.size from whole_lt HLB.out)
    have HEn := Lib.hid (fun wc (hb : Below w12.heap.size w12 wc) => innEnter_any (HLM.out.reads.below hb) (by have := HN.out; have := HL.out; omega) (by have := HN.out; have := HL.out; omega) (by have := HN.out; have := HL.out; omega) xt)
    have HFa := Lib.hid (fun wc (hb : Below w12.heap.size w12 wc) => innFault_any (HLM.out.reads.below hb) HR.out HC.out code)
    go_cut [15, 16] (fun z y wx => ∃ b15 b16 e1 i1 e2 i2 e3 i3 f1 j1 f2 j2 f3 j3, z = .pointer (some ⟨b15, 0, none⟩) ∧ y = .pointer (some ⟨b16, 0, none⟩) ∧ Hid (P12 w12 wx b15 b16 { m with ip := xt, handler := 0, back := [0], status := 0, code := 0 } (Mach.fault m code) (.slice e1 m.stack.length i1) (.slice e2 1 i2) (.slice e3 m.mem.length i3) (.slice f1 (Mach.fault m code).stack.length j1) (.slice f2 (Mach.fault m code).back.length j2) (.slice f3 (Mach.fault m code).mem.length j3)))
    case first =>
      refine wp_region_held (S := fun w' => w'.cell? ⟨b14, 0, none⟩ = some (.int .i64 m.ip) ∧ w'.cell? ⟨b14, 1, none⟩ = some (.int .i64 m.handler) ∧ w'.cell? ⟨b14, 2, none⟩ = some (.slice (some ⟨l1, 0, none⟩) n2 y1) ∧ w'.cell? ⟨b14, 3, none⟩ = some (.slice (some ⟨l2, 0, none⟩) n3 y2) ∧ w'.cell? ⟨b14, 4, none⟩ = some (.slice (some ⟨l3, 0, none⟩) n4 y3) ∧ w'.cell? ⟨b14, 5, none⟩ = some (.string m.out) ∧ w'.cell? ⟨b14, 6, none⟩ = some (.string m.inp) ∧ w'.cell? ⟨b14, 7, none⟩ = some (.int .i64 m.read) ∧ w'.cell? ⟨b14, 8, none⟩ = some (.int .i64 m.status) ∧ w'.cell? ⟨b14, 9, none⟩ = some (.int .i64 m.code)) (by kernel_rfl) ?_
      change wpAnyH _ _ _ _ _ _ _ _ (World.drew w12)
      refine wpAnyH_take (i := 0) (v := ?_) rfl (by kernel_rfl) (by kernel_rfl) (by kernel_rfl) (fun _ _ _ h => h) (Or.inl ⟨by rfl, ?_⟩) (Ten.of H14.out) ?_
      rotate_left
      · intro w hSw
        (try dsimp only at hSw)
        go_simp
        try with_reducible rfl
      try simp only [Act.put, List.setIfInBounds_toArray, List.set_cons_zero, List.set_cons_succ]
      refine wpAnyH_take (i := 1) (v := ?_) rfl (by kernel_rfl) (by kernel_rfl) (by kernel_rfl) (fun _ _ _ h => h) (Or.inl ⟨by rfl, ?_⟩) (Ten.of H14.out) ?_
      rotate_left
      · intro w hSw
        (try dsimp only at hSw)
        go_simp
        try with_reducible rfl
      try simp only [Act.put, List.setIfInBounds_toArray, List.set_cons_zero, List.set_cons_succ]
      refine wpAnyH_take (i := 3) (v := ?_) rfl (by kernel_rfl) (by kernel_rfl) (by kernel_rfl) (fun _ _ _ h => h) (Or.inl ⟨by rfl, ?_⟩) (Ten.of H14.out) ?_
      rotate_left
      · intro w hSw
        (try dsimp only at hSw)
        go_simp
        try with_reducible rfl
      try simp only [Act.put, List.setIfInBounds_toArray, List.set_cons_zero, List.set_cons_succ]
      refine wpAnyH_take (i := 4) (v := ?_) rfl (by kernel_rfl) (by kernel_rfl) (by kernel_rfl) (fun _ _ _ h => h) (Or.inl ⟨by rfl, ?_⟩) (Ten.of H14.out) ?_
      rotate_left
      · intro w hSw
        (try dsimp only at hSw)
        go_simp
        try with_reducible rfl
      try simp only [Act.put, List.setIfInBounds_toArray, List.set_cons_zero, List.set_cons_succ]
      refine wpAnyH_ready (rs := [2, 6, 7]) (by kernel_rfl) (by simp) ?_
      refine AllReadyH.cons rfl (fun K hK => ?_) ?_
      · go_simp
        go_at_call 21
        refine (HEn.out _ HX.out).mono ?_
        rintro e wn hgm
        obtain ⟨e1, i1, e2, i2, e3, i3, rfl, ho, hb⟩ := GivesM.known hgm
        have HE1 := Lib.hid (OwnsL.from ho HX.out.size)
        have H14 := Lib.hid (box_on H14.out hb)
        have HX := Lib.hid (HX.out.trans (hb.mono HX.out.size))
        have HE := HE1
        clear ho hgm hb
        go_wp2_with fail
        refine hK.out _ _ (Ten.of H14.out) (fun hHeld => ?_)
        clear hK K hHeld
        try simp only [Act.put, List.setIfInBounds_toArray, List.set_cons_zero, List.set_cons_succ]
        refine wpAnyH_ready (rs := [5, 6, 7]) (by kernel_rfl) (by simp) ?_
        refine AllReadyH.cons rfl (fun K hK => ?_) ?_
        · go_simp
          go_at_call 22
          refine (HFa.out _ HX.out).mono ?_
          rintro e wn hgm
          obtain ⟨f1, j1, f2, j2, f3, j3, rfl, ho, hb⟩ := GivesM.known hgm
          have AP := Lib.hid (apart12 HE.out ho)
          have HF1 := Lib.hid (OwnsL.from ho HX.out.size)
          have H14 := Lib.hid (box_on H14.out hb)
          have HE := Lib.hid (HE.out.below hb)
          have HX := Lib.hid (HX.out.trans (hb.mono HX.out.size))
          have HF := HF1
          clear ho hgm hb
          go_wp2_with fail
          refine hK.out _ _ (Ten.of H14.out) (fun hHeld => ?_)
          clear hK K hHeld
          try simp only [Act.put, List.setIfInBounds_toArray, List.set_cons_zero, List.set_cons_succ]
          refine wpAnyH_ready (rs := [6, 7]) (by kernel_rfl) (by simp) ?_
          refine AllReadyH.cons rfl (fun K hK => ?_) ?_
          · refine step_alloc_state (by rfl) rfl ?_
            intro b15 wn hg hnew hb
            have N15 := Lib.hid (show w12.heap.size ≤ b15 by rw [← hg]; exact HX.out.size)
            have H14 := Lib.hid (box_on H14.out hb)
            have HE := Lib.hid (HE.out.below hb)
            have HF := Lib.hid (HF.out.below hb)
            have HX := Lib.hid (HX.out.trans (hb.mono HX.out.size))
            have A15 := Lib.hid hnew
            clear hg hnew hb
            refine hK.out _ _ (Ten.of H14.out) (fun hHeld => ?_)
            clear hK K hHeld
            try simp only [Act.put, List.setIfInBounds_toArray, List.set_cons_zero, List.set_cons_succ]
            refine wpAnyH_ready (rs := [7]) (by kernel_rfl) (by simp) ?_
            refine AllReadyH.cons rfl (fun K hK => ?_) ?_
            · refine step_alloc_state (by rfl) rfl ?_
              intro b16 wn hg hnew hb
              have N16 := Lib.hid (show w12.heap.size ≤ b16 by rw [← hg]; exact HX.out.size)
              have NE := Lib.hid (show b15 < b16 by rw [← hg]; exact whole_lt A15.out)
              have H14 := Lib.hid (box_on H14.out hb)
              have A15 := Lib.hid (box_on A15.out hb)
              have HE := Lib.hid (HE.out.below hb)
              have HF := Lib.hid (HF.out.below hb)
              have HX := Lib.hid (HX.out.trans (hb.mono HX.out.size))
              have A16 := Lib.hid hnew
              clear hg hnew hb
              refine hK.out _ _ (Ten.of H14.out) (fun hHeld => ?_)
              clear hK K hHeld
              try simp only [Act.put, List.setIfInBounds_toArray, List.set_cons_zero, List.set_cons_succ]
              refine wpAnyH_ready (rs := [8]) (by kernel_rfl) (by simp) ?_
              refine AllReadyH.cons rfl (fun K hK => ?_) ?_
              · refine step_st_state (by rfl) _ _ rfl b15 _ rfl rfl _ A15.out rfl rfl (all_one rfl rfl rfl) ?_
                intro wp h15 ht
                have hlow : ∀ k ∈ [b15], w12.heap.size ≤ k := fun k hk => by rw [List.mem_singleton.1 hk]; exact N15.out
                have HXp := Lib.hid (HX.out.trans (ht.below hlow HX.out.size))
                have H14 := Lib.hid (box_two ht H14.out (by have h1 := N15.out; have h2 := N14.out; omega))
                have A16 := Lib.hid (box_two ht A16.out (by have := NE.out; omega))
                have HE := Lib.hid (HE.out.box ht A15.out)
                have HF := Lib.hid (HF.out.box ht A15.out)
                have B15 := Lib.hid h15
                clear ht h15 hlow
                refine hK.out _ _ (Ten.of H14.out) (fun hHeld => ?_)
                clear hK K hHeld
                try simp only [Act.put, List.setIfInBounds_toArray, List.set_cons_zero, List.set_cons_succ]
                refine wpAnyH_ready (rs := [9]) (by kernel_rfl) (by simp) ?_
                refine AllReadyH.cons rfl (fun K hK => ?_) ?_
                · refine step_st_state (by rfl) _ _ rfl b16 _ rfl rfl _ A16.out rfl rfl (all_one rfl rfl rfl) ?_
                  intro wq h16 ht
                  have hlow : ∀ k ∈ [b16], w12.heap.size ≤ k := fun k hk => by rw [List.mem_singleton.1 hk]; exact N16.out
                  have HF9 := Lib.hid (show P12 w12 wq b15 b16 _ _ _ _ _ _ _ _ from ⟨HXp.out.trans (ht.below hlow HXp.out.size), box_two ht B15.out (by have := NE.out; omega), h16, HE.out.box ht A16.out, HF.out.box ht A16.out, AP.out⟩)
                  have H14 := Lib.hid (box_two ht H14.out (by have h1 := N16.out; have h2 := N14.out; omega))
                  clear ht h16 hlow
                  refine hK.out _ _ (Ten.of H14.out) (fun hHeld => ?_)
                  clear hK K hHeld
                  try simp only [Act.put, List.setIfInBounds_toArray, List.set_cons_zero, List.set_cons_succ]
                  refine wpAnyH_done (by kernel_rfl) ?_ _
                  first | go_meet | (go_wp2_with fail; go_meet)
                  exact ⟨_, _, _, _, _, _, _, _, _, _, _, _, _, _, rfl, rfl, HF9⟩
                · exact AllReadyH.nil
              · exact AllReadyH.nil
            exact AllReadyH.nil
          refine AllReadyH.cons rfl (fun K hK => ?_) ?_
          · refine step_alloc_state (by rfl) rfl ?_
            intro b16 wn hg hnew hb
            have N16 := Lib.hid (show w12.heap.size ≤ b16 by rw [← hg]; exact HX.out.size)
            have H14 := Lib.hid (box_on H14.out hb)
            have HE := Lib.hid (HE.out.below hb)
            have HF := Lib.hid (HF.out.below hb)
            have HX := Lib.hid (HX.out.trans (hb.mono HX.out.size))
            have A16 := Lib.hid hnew
            clear hg hnew hb
            refine hK.out _ _ (Ten.of H14.out) (fun hHeld => ?_)
            clear hK K hHeld
            try simp only [Act.put, List.setIfInBounds_toArray, List.set_cons_zero, List.set_cons_succ]
            refine wpAnyH_ready (rs := [6]) (by kernel_rfl) (by simp) ?_
            refine AllReadyH.cons rfl (fun K hK => ?_) ?_
            · refine step_alloc_state (by rfl) rfl ?_
              intro b15 wn hg hnew hb
              have N15 := Lib.hid (show w12.heap.size ≤ b15 by rw [← hg]; exact HX.out.size)
              have NE := Lib.hid (show b16 < b15 by rw [← hg]; exact whole_lt A16.out)
              have H14 := Lib.hid (box_on H14.out hb)
              have A16 := Lib.hid (box_on A16.out hb)
              have HE := Lib.hid (HE.out.below hb)
              have HF := Lib.hid (HF.out.below hb)
              have HX := Lib.hid (HX.out.trans (hb.mono HX.out.size))
              have A15 := Lib.hid hnew
              clear hg hnew hb
              refine hK.out _ _ (Ten.of H14.out) (fun hHeld => ?_)
              clear hK K hHeld
              try simp only [Act.put, List.setIfInBounds_toArray, List.set_cons_zero, List.set_cons_succ]
              refine wpAnyH_ready (rs := [8]) (by kernel_rfl) (by simp) ?_
              refine AllReadyH.cons rfl (fun K hK => ?_) ?_
              · refine step_st_state (by rfl) _ _ rfl b15 _ rfl rfl _ A15.out rfl rfl (all_one rfl rfl rfl) ?_
                intro wp h15 ht
                have hlow : ∀ k ∈ [b15], w12.heap.size ≤ k := fun k hk => by rw [List.mem_singleton.1 hk]; exact N15.out
                have HXp := Lib.hid (HX.out.trans (ht.below hlow HX.out.size))
                have H14 := Lib.hid (box_two ht H14.out (by have h1 := N15.out; have h2 := N14.out; omega))
                have A16 := Lib.hid (box_two ht A16.out (by have := NE.out; omega))
                have HE := Lib.hid (HE.out.box ht A15.out)
                have HF := Lib.hid (HF.out.box ht A15.out)
                have B15 := Lib.hid h15
                clear ht h15 hlow
                refine hK.out _ _ (Ten.of H14.out) (fun hHeld => ?_)
                clear hK K hHeld
                try simp only [Act.put, List.setIfInBounds_toArray, List.set_cons_zero, List.set_cons_succ]
                refine wpAnyH_ready (rs := [9]) (by kernel_rfl) (by simp) ?_
                refine AllReadyH.cons rfl (fun K hK => ?_) ?_
                · refine step_st_state (by rfl) _ _ rfl b16 _ rfl rfl _ A16.out rfl rfl (all_one rfl rfl rfl) ?_
                  intro wq h16 ht
                  have hlow : ∀ k ∈ [b16], w12.heap.size ≤ k := fun k hk => by rw [List.mem_singleton.1 hk]; exact N16.out
                  have HF9 := Lib.hid (show P12 w12 wq b15 b16 _ _ _ _ _ _ _ _ from ⟨HXp.out.trans (ht.below hlow HXp.out.size), box_two ht B15.out (by have := NE.out; omega), h16, HE.out.box ht A16.out, HF.out.box ht A16.out, AP.out⟩)
                  have H14 := Lib.hid (box_two ht H14.out (by have h1 := N16.out; have h2 := N14.out; omega))
                  clear ht h16 hlow
                  refine hK.out _ _ (Ten.of H14.out) (fun hHeld => ?_)
                  clear hK K hHeld
                  try simp only [Act.put, List.setIfInBounds_toArray, List.set_cons_zero, List.set_cons_succ]
                  refine wpAnyH_done (by kernel_rfl) ?_ _
                  first | go_meet | (go_wp2_with fail; go_meet)
                  exact ⟨_, _, _, _, _, _, _, _, _, _, _, _, _, _, rfl, rfl, HF9⟩
                · exact AllReadyH.nil
              · exact AllReadyH.nil
            exact AllReadyH.nil
          exact AllReadyH.nil
        refine AllReadyH.cons rfl (fun K hK => ?_) ?_
        · refine step_alloc_state (by rfl) rfl ?_
          intro b15 wn hg hnew hb
          have N15 := Lib.hid (show w12.heap.size ≤ b15 by rw [← hg]; exact HX.out.size)
          have H14 := Lib.hid (box_on H14.out hb)
          have HE := Lib.hid (HE.out.below hb)
          have HX := Lib.hid (HX.out.trans (hb.mono HX.out.size))
          have A15 := Lib.hid hnew
          clear hg hnew hb
          refine hK.out _ _ (Ten.of H14.out) (fun hHeld => ?_)
          clear hK K hHeld
          try simp only [Act.put, List.setIfInBounds_toArray, List.set_cons_zero, List.set_cons_succ]
          refine wpAnyH_ready (rs := [5, 7]) (by kernel_rfl) (by simp) ?_
          refine AllReadyH.cons rfl (fun K hK => ?_) ?_
          · go_simp
            go_at_call 22
            refine (HFa.out _ HX.out).mono ?_
            rintro e wn hgm
            obtain ⟨f1, j1, f2, j2, f3, j3, rfl, ho, hb⟩ := GivesM.known hgm
            have AP := Lib.hid (apart12 HE.out ho)
            have HF1 := Lib.hid (OwnsL.from ho HX.out.size)
            have H14 := Lib.hid (box_on H14.out hb)
            have A15 := Lib.hid (box_on A15.out hb)
            have HE := Lib.hid (HE.out.below hb)
            have HX := Lib.hid (HX.out.trans (hb.mono HX.out.size))
            have HF := HF1
            clear ho hgm hb
            go_wp2_with fail
            refine hK.out _ _ (Ten.of H14.out) (fun hHeld => ?_)
            clear hK K hHeld
            try simp only [Act.put, List.setIfInBounds_toArray, List.set_cons_zero, List.set_cons_succ]
            refine wpAnyH_ready (rs := [7]) (by kernel_rfl) (by simp) ?_
            refine AllReadyH.cons rfl (fun K hK => ?_) ?_
            · refine step_alloc_state (by rfl) rfl ?_
              intro b16 wn hg hnew hb
              have N16 := Lib.hid (show w12.heap.size ≤ b16 by rw [← hg]; exact HX.out.size)
              have NE := Lib.hid (show b15 < b16 by rw [← hg]; exact whole_lt A15.out)
              have H14 := Lib.hid (box_on H14.out hb)
              have A15 := Lib.hid (box_on A15.out hb)
              have HE := Lib.hid (HE.out.below hb)
              have HF := Lib.hid (HF.out.below hb)
              have HX := Lib.hid (HX.out.trans (hb.mono HX.out.size))
              have A16 := Lib.hid hnew
              clear hg hnew hb
              refine hK.out _ _ (Ten.of H14.out) (fun hHeld => ?_)
              clear hK K hHeld
              try simp only [Act.put, List.setIfInBounds_toArray, List.set_cons_zero, List.set_cons_succ]
              refine wpAnyH_ready (rs := [8]) (by kernel_rfl) (by simp) ?_
              refine AllReadyH.cons rfl (fun K hK => ?_) ?_
              · refine step_st_state (by rfl) _ _ rfl b15 _ rfl rfl _ A15.out rfl rfl (all_one rfl rfl rfl) ?_
                intro wp h15 ht
                have hlow : ∀ k ∈ [b15], w12.heap.size ≤ k := fun k hk => by rw [List.mem_singleton.1 hk]; exact N15.out
                have HXp := Lib.hid (HX.out.trans (ht.below hlow HX.out.size))
                have H14 := Lib.hid (box_two ht H14.out (by have h1 := N15.out; have h2 := N14.out; omega))
                have A16 := Lib.hid (box_two ht A16.out (by have := NE.out; omega))
                have HE := Lib.hid (HE.out.box ht A15.out)
                have HF := Lib.hid (HF.out.box ht A15.out)
                have B15 := Lib.hid h15
                clear ht h15 hlow
                refine hK.out _ _ (Ten.of H14.out) (fun hHeld => ?_)
                clear hK K hHeld
                try simp only [Act.put, List.setIfInBounds_toArray, List.set_cons_zero, List.set_cons_succ]
                refine wpAnyH_ready (rs := [9]) (by kernel_rfl) (by simp) ?_
                refine AllReadyH.cons rfl (fun K hK => ?_) ?_
                · refine step_st_state (by rfl) _ _ rfl b16 _ rfl rfl _ A16.out rfl rfl (all_one rfl rfl rfl) ?_
                  intro wq h16 ht
                  have hlow : ∀ k ∈ [b16], w12.heap.size ≤ k := fun k hk => by rw [List.mem_singleton.1 hk]; exact N16.out
                  have HF9 := Lib.hid (show P12 w12 wq b15 b16 _ _ _ _ _ _ _ _ from ⟨HXp.out.trans (ht.below hlow HXp.out.size), box_two ht B15.out (by have := NE.out; omega), h16, HE.out.box ht A16.out, HF.out.box ht A16.out, AP.out⟩)
                  have H14 := Lib.hid (box_two ht H14.out (by have h1 := N16.out; have h2 := N14.out; omega))
                  clear ht h16 hlow
                  refine hK.out _ _ (Ten.of H14.out) (fun hHeld => ?_)
                  clear hK K hHeld
                  try simp only [Act.put, List.setIfInBounds_toArray, List.set_cons_zero, List.set_cons_succ]
                  refine wpAnyH_done (by kernel_rfl) ?_ _
                  first | go_meet | (go_wp2_with fail; go_meet)
                  exact ⟨_, _, _, _, _, _, _, _, _, _, _, _, _, _, rfl, rfl, HF9⟩
                · exact AllReadyH.nil
              · exact AllReadyH.nil
            exact AllReadyH.nil
          refine AllReadyH.cons rfl (fun K hK => ?_) ?_
          · refine step_alloc_state (by rfl) rfl ?_
            intro b16 wn hg hnew hb
            have N16 := Lib.hid (show w12.heap.size ≤ b16 by rw [← hg]; exact HX.out.size)
            have NE := Lib.hid (show b15 < b16 by rw [← hg]; exact whole_lt A15.out)
            have H14 := Lib.hid (box_on H14.out hb)
            have A15 := Lib.hid (box_on A15.out hb)
            have HE := Lib.hid (HE.out.below hb)
            have HX := Lib.hid (HX.out.trans (hb.mono HX.out.size))
            have A16 := Lib.hid hnew
            clear hg hnew hb
            refine hK.out _ _ (Ten.of H14.out) (fun hHeld => ?_)
            clear hK K hHeld
            try simp only [Act.put, List.setIfInBounds_toArray, List.set_cons_zero, List.set_cons_succ]
            refine wpAnyH_ready (rs := [5]) (by kernel_rfl) (by simp) ?_
            refine AllReadyH.cons rfl (fun K hK => ?_) ?_
            · go_simp
              go_at_call 22
              refine (HFa.out _ HX.out).mono ?_
              rintro e wn hgm
              obtain ⟨f1, j1, f2, j2, f3, j3, rfl, ho, hb⟩ := GivesM.known hgm
              have AP := Lib.hid (apart12 HE.out ho)
              have HF1 := Lib.hid (OwnsL.from ho HX.out.size)
              have H14 := Lib.hid (box_on H14.out hb)
              have A15 := Lib.hid (box_on A15.out hb)
              have A16 := Lib.hid (box_on A16.out hb)
              have HE := Lib.hid (HE.out.below hb)
              have HX := Lib.hid (HX.out.trans (hb.mono HX.out.size))
              have HF := HF1
              clear ho hgm hb
              go_wp2_with fail
              refine hK.out _ _ (Ten.of H14.out) (fun hHeld => ?_)
              clear hK K hHeld
              try simp only [Act.put, List.setIfInBounds_toArray, List.set_cons_zero, List.set_cons_succ]
              refine wpAnyH_ready (rs := [8]) (by kernel_rfl) (by simp) ?_
              refine AllReadyH.cons rfl (fun K hK => ?_) ?_
              · refine step_st_state (by rfl) _ _ rfl b15 _ rfl rfl _ A15.out rfl rfl (all_one rfl rfl rfl) ?_
                intro wp h15 ht
                have hlow : ∀ k ∈ [b15], w12.heap.size ≤ k := fun k hk => by rw [List.mem_singleton.1 hk]; exact N15.out
                have HXp := Lib.hid (HX.out.trans (ht.below hlow HX.out.size))
                have H14 := Lib.hid (box_two ht H14.out (by have h1 := N15.out; have h2 := N14.out; omega))
                have A16 := Lib.hid (box_two ht A16.out (by have := NE.out; omega))
                have HE := Lib.hid (HE.out.box ht A15.out)
                have HF := Lib.hid (HF.out.box ht A15.out)
                have B15 := Lib.hid h15
                clear ht h15 hlow
                refine hK.out _ _ (Ten.of H14.out) (fun hHeld => ?_)
                clear hK K hHeld
                try simp only [Act.put, List.setIfInBounds_toArray, List.set_cons_zero, List.set_cons_succ]
                refine wpAnyH_ready (rs := [9]) (by kernel_rfl) (by simp) ?_
                refine AllReadyH.cons rfl (fun K hK => ?_) ?_
                · refine step_st_state (by rfl) _ _ rfl b16 _ rfl rfl _ A16.out rfl rfl (all_one rfl rfl rfl) ?_
                  intro wq h16 ht
                  have hlow : ∀ k ∈ [b16], w12.heap.size ≤ k := fun k hk => by rw [List.mem_singleton.1 hk]; exact N16.out
                  have HF9 := Lib.hid (show P12 w12 wq b15 b16 _ _ _ _ _ _ _ _ from ⟨HXp.out.trans (ht.below hlow HXp.out.size), box_two ht B15.out (by have := NE.out; omega), h16, HE.out.box ht A16.out, HF.out.box ht A16.out, AP.out⟩)
                  have H14 := Lib.hid (box_two ht H14.out (by have h1 := N16.out; have h2 := N14.out; omega))
                  clear ht h16 hlow
                  refine hK.out _ _ (Ten.of H14.out) (fun hHeld => ?_)
                  clear hK K hHeld
                  try simp only [Act.put, List.setIfInBounds_toArray, List.set_cons_zero, List.set_cons_succ]
                  refine wpAnyH_done (by kernel_rfl) ?_ _
                  first | go_meet | (go_wp2_with fail; go_meet)
                  exact ⟨_, _, _, _, _, _, _, _, _, _, _, _, _, _, rfl, rfl, HF9⟩
                · exact AllReadyH.nil
              · exact AllReadyH.nil
            exact AllReadyH.nil
          exact AllReadyH.nil
        refine AllReadyH.cons rfl (fun K hK => ?_) ?_
        · refine step_alloc_state (by rfl) rfl ?_
          intro b16 wn hg hnew hb
          have N16 := Lib.hid (show w12.heap.size ≤ b16 by rw [← hg]; exact HX.out.size)
          have H14 := Lib.hid (box_on H14.out hb)
          have HE := Lib.hid (HE.out.below hb)
          have HX := Lib.hid (HX.out.trans (hb.mono HX.out.size))
          have A16 := Lib.hid hnew
          clear hg hnew hb
          refine hK.out _ _ (Ten.of H14.out) (fun hHeld => ?_)
          clear hK K hHeld
          try simp only [Act.put, List.setIfInBounds_toArray, List.set_cons_zero, List.set_cons_succ]
          refine wpAnyH_ready (rs := [5, 6]) (by kernel_rfl) (by simp) ?_
          refine AllReadyH.cons rfl (fun K hK => ?_) ?_
          · go_simp
            go_at_call 22
            refine (HFa.out _ HX.out).mono ?_
            rintro e wn hgm
            obtain ⟨f1, j1, f2, j2, f3, j3, rfl, ho, hb⟩ := GivesM.known hgm
            have AP := Lib.hid (apart12 HE.out ho)
            have HF1 := Lib.hid (OwnsL.from ho HX.out.size)
            have H14 := Lib.hid (box_on H14.out hb)
            have A16 := Lib.hid (box_on A16.out hb)
            have HE := Lib.hid (HE.out.below hb)
            have HX := Lib.hid (HX.out.trans (hb.mono HX.out.size))
            have HF := HF1
            clear ho hgm hb
            go_wp2_with fail
            refine hK.out _ _ (Ten.of H14.out) (fun hHeld => ?_)
            clear hK K hHeld
            try simp only [Act.put, List.setIfInBounds_toArray, List.set_cons_zero, List.set_cons_succ]
            refine wpAnyH_ready (rs := [6]) (by kernel_rfl) (by simp) ?_
            refine AllReadyH.cons rfl (fun K hK => ?_) ?_
            · refine step_alloc_state (by rfl) rfl ?_
              intro b15 wn hg hnew hb
              have N15 := Lib.hid (show w12.heap.size ≤ b15 by rw [← hg]; exact HX.out.size)
              have NE := Lib.hid (show b16 < b15 by rw [← hg]; exact whole_lt A16.out)
              have H14 := Lib.hid (box_on H14.out hb)
              have A16 := Lib.hid (box_on A16.out hb)
              have HE := Lib.hid (HE.out.below hb)
              have HF := Lib.hid (HF.out.below hb)
              have HX := Lib.hid (HX.out.trans (hb.mono HX.out.size))
              have A15 := Lib.hid hnew
              clear hg hnew hb
              refine hK.out _ _ (Ten.of H14.out) (fun hHeld => ?_)
              clear hK K hHeld
              try simp only [Act.put, List.setIfInBounds_toArray, List.set_cons_zero, List.set_cons_succ]
              refine wpAnyH_ready (rs := [8]) (by kernel_rfl) (by simp) ?_
              refine AllReadyH.cons rfl (fun K hK => ?_) ?_
              · refine step_st_state (by rfl) _ _ rfl b15 _ rfl rfl _ A15.out rfl rfl (all_one rfl rfl rfl) ?_
                intro wp h15 ht
                have hlow : ∀ k ∈ [b15], w12.heap.size ≤ k := fun k hk => by rw [List.mem_singleton.1 hk]; exact N15.out
                have HXp := Lib.hid (HX.out.trans (ht.below hlow HX.out.size))
                have H14 := Lib.hid (box_two ht H14.out (by have h1 := N15.out; have h2 := N14.out; omega))
                have A16 := Lib.hid (box_two ht A16.out (by have := NE.out; omega))
                have HE := Lib.hid (HE.out.box ht A15.out)
                have HF := Lib.hid (HF.out.box ht A15.out)
                have B15 := Lib.hid h15
                clear ht h15 hlow
                refine hK.out _ _ (Ten.of H14.out) (fun hHeld => ?_)
                clear hK K hHeld
                try simp only [Act.put, List.setIfInBounds_toArray, List.set_cons_zero, List.set_cons_succ]
                refine wpAnyH_ready (rs := [9]) (by kernel_rfl) (by simp) ?_
                refine AllReadyH.cons rfl (fun K hK => ?_) ?_
                · refine step_st_state (by rfl) _ _ rfl b16 _ rfl rfl _ A16.out rfl rfl (all_one rfl rfl rfl) ?_
                  intro wq h16 ht
                  have hlow : ∀ k ∈ [b16], w12.heap.size ≤ k := fun k hk => by rw [List.mem_singleton.1 hk]; exact N16.out
                  have HF9 := Lib.hid (show P12 w12 wq b15 b16 _ _ _ _ _ _ _ _ from ⟨HXp.out.trans (ht.below hlow HXp.out.size), box_two ht B15.out (by have := NE.out; omega), h16, HE.out.box ht A16.out, HF.out.box ht A16.out, AP.out⟩)
                  have H14 := Lib.hid (box_two ht H14.out (by have h1 := N16.out; have h2 := N14.out; omega))
                  clear ht h16 hlow
                  refine hK.out _ _ (Ten.of H14.out) (fun hHeld => ?_)
                  clear hK K hHeld
                  try simp only [Act.put, List.setIfInBounds_toArray, List.set_cons_zero, List.set_cons_succ]
                  refine wpAnyH_done (by kernel_rfl) ?_ _
                  first | go_meet | (go_wp2_with fail; go_meet)
                  exact ⟨_, _, _, _, _, _, _, _, _, _, _, _, _, _, rfl, rfl, HF9⟩
                · exact AllReadyH.nil
              · exact AllReadyH.nil
            exact AllReadyH.nil
          refine AllReadyH.cons rfl (fun K hK => ?_) ?_
          · refine step_alloc_state (by rfl) rfl ?_
            intro b15 wn hg hnew hb
            have N15 := Lib.hid (show w12.heap.size ≤ b15 by rw [← hg]; exact HX.out.size)
            have NE := Lib.hid (show b16 < b15 by rw [← hg]; exact whole_lt A16.out)
            have H14 := Lib.hid (box_on H14.out hb)
            have A16 := Lib.hid (box_on A16.out hb)
            have HE := Lib.hid (HE.out.below hb)
            have HX := Lib.hid (HX.out.trans (hb.mono HX.out.size))
            have A15 := Lib.hid hnew
            clear hg hnew hb
            refine hK.out _ _ (Ten.of H14.out) (fun hHeld => ?_)
            clear hK K hHeld
            try simp only [Act.put, List.setIfInBounds_toArray, List.set_cons_zero, List.set_cons_succ]
            refine wpAnyH_ready (rs := [5]) (by kernel_rfl) (by simp) ?_
            refine AllReadyH.cons rfl (fun K hK => ?_) ?_
            · go_simp
              go_at_call 22
              refine (HFa.out _ HX.out).mono ?_
              rintro e wn hgm
              obtain ⟨f1, j1, f2, j2, f3, j3, rfl, ho, hb⟩ := GivesM.known hgm
              have AP := Lib.hid (apart12 HE.out ho)
              have HF1 := Lib.hid (OwnsL.from ho HX.out.size)
              have H14 := Lib.hid (box_on H14.out hb)
              have A15 := Lib.hid (box_on A15.out hb)
              have A16 := Lib.hid (box_on A16.out hb)
              have HE := Lib.hid (HE.out.below hb)
              have HX := Lib.hid (HX.out.trans (hb.mono HX.out.size))
              have HF := HF1
              clear ho hgm hb
              go_wp2_with fail
              refine hK.out _ _ (Ten.of H14.out) (fun hHeld => ?_)
              clear hK K hHeld
              try simp only [Act.put, List.setIfInBounds_toArray, List.set_cons_zero, List.set_cons_succ]
              refine wpAnyH_ready (rs := [8]) (by kernel_rfl) (by simp) ?_
              refine AllReadyH.cons rfl (fun K hK => ?_) ?_
              · refine step_st_state (by rfl) _ _ rfl b15 _ rfl rfl _ A15.out rfl rfl (all_one rfl rfl rfl) ?_
                intro wp h15 ht
                have hlow : ∀ k ∈ [b15], w12.heap.size ≤ k := fun k hk => by rw [List.mem_singleton.1 hk]; exact N15.out
                have HXp := Lib.hid (HX.out.trans (ht.below hlow HX.out.size))
                have H14 := Lib.hid (box_two ht H14.out (by have h1 := N15.out; have h2 := N14.out; omega))
                have A16 := Lib.hid (box_two ht A16.out (by have := NE.out; omega))
                have HE := Lib.hid (HE.out.box ht A15.out)
                have HF := Lib.hid (HF.out.box ht A15.out)
                have B15 := Lib.hid h15
                clear ht h15 hlow
                refine hK.out _ _ (Ten.of H14.out) (fun hHeld => ?_)
                clear hK K hHeld
                try simp only [Act.put, List.setIfInBounds_toArray, List.set_cons_zero, List.set_cons_succ]
                refine wpAnyH_ready (rs := [9]) (by kernel_rfl) (by simp) ?_
                refine AllReadyH.cons rfl (fun K hK => ?_) ?_
                · refine step_st_state (by rfl) _ _ rfl b16 _ rfl rfl _ A16.out rfl rfl (all_one rfl rfl rfl) ?_
                  intro wq h16 ht
                  have hlow : ∀ k ∈ [b16], w12.heap.size ≤ k := fun k hk => by rw [List.mem_singleton.1 hk]; exact N16.out
                  have HF9 := Lib.hid (show P12 w12 wq b15 b16 _ _ _ _ _ _ _ _ from ⟨HXp.out.trans (ht.below hlow HXp.out.size), box_two ht B15.out (by have := NE.out; omega), h16, HE.out.box ht A16.out, HF.out.box ht A16.out, AP.out⟩)
                  have H14 := Lib.hid (box_two ht H14.out (by have h1 := N16.out; have h2 := N14.out; omega))
                  clear ht h16 hlow
                  refine hK.out _ _ (Ten.of H14.out) (fun hHeld => ?_)
                  clear hK K hHeld
                  try simp only [Act.put, List.setIfInBounds_toArray, List.set_cons_zero, List.set_cons_succ]
                  refine wpAnyH_done (by kernel_rfl) ?_ _
                  first | go_meet | (go_wp2_with fail; go_meet)
                  exact ⟨_, _, _, _, _, _, _, _, _, _, _, _, _, _, rfl, rfl, HF9⟩
                · exact AllReadyH.nil
              · exact AllReadyH.nil
            exact AllReadyH.nil
          exact AllReadyH.nil
        exact AllReadyH.nil
      refine AllReadyH.cons rfl (fun K hK => ?_) ?_
      · refine step_alloc_state (by rfl) rfl ?_
        intro b15 wn hg hnew hb
        have N15 := Lib.hid (show w12.heap.size ≤ b15 by rw [← hg]; exact HX.out.size)
        have H14 := Lib.hid (box_on H14.out hb)
        have HX := Lib.hid (HX.out.trans (hb.mono HX.out.size))
        have A15 := Lib.hid hnew
        clear hg hnew hb
        refine hK.out _ _ (Ten.of H14.out) (fun hHeld => ?_)
        clear hK K hHeld
        try simp only [Act.put, List.setIfInBounds_toArray, List.set_cons_zero, List.set_cons_succ]
        refine wpAnyH_ready (rs := [2, 7]) (by kernel_rfl) (by simp) ?_
        refine AllReadyH.cons rfl (fun K hK => ?_) ?_
        · go_simp
          go_at_call 21
          refine (HEn.out _ HX.out).mono ?_
          rintro e wn hgm
          obtain ⟨e1, i1, e2, i2, e3, i3, rfl, ho, hb⟩ := GivesM.known hgm
          have HE1 := Lib.hid (OwnsL.from ho HX.out.size)
          have H14 := Lib.hid (box_on H14.out hb)
          have A15 := Lib.hid (box_on A15.out hb)
          have HX := Lib.hid (HX.out.trans (hb.mono HX.out.size))
          have HE := HE1
          clear ho hgm hb
          go_wp2_with fail
          refine hK.out _ _ (Ten.of H14.out) (fun hHeld => ?_)
          clear hK K hHeld
          try simp only [Act.put, List.setIfInBounds_toArray, List.set_cons_zero, List.set_cons_succ]
          refine wpAnyH_ready (rs := [5, 7]) (by kernel_rfl) (by simp) ?_
          refine AllReadyH.cons rfl (fun K hK => ?_) ?_
          · go_simp
            go_at_call 22
            refine (HFa.out _ HX.out).mono ?_
            rintro e wn hgm
            obtain ⟨f1, j1, f2, j2, f3, j3, rfl, ho, hb⟩ := GivesM.known hgm
            have AP := Lib.hid (apart12 HE.out ho)
            have HF1 := Lib.hid (OwnsL.from ho HX.out.size)
            have H14 := Lib.hid (box_on H14.out hb)
            have A15 := Lib.hid (box_on A15.out hb)
            have HE := Lib.hid (HE.out.below hb)
            have HX := Lib.hid (HX.out.trans (hb.mono HX.out.size))
            have HF := HF1
            clear ho hgm hb
            go_wp2_with fail
            refine hK.out _ _ (Ten.of H14.out) (fun hHeld => ?_)
            clear hK K hHeld
            try simp only [Act.put, List.setIfInBounds_toArray, List.set_cons_zero, List.set_cons_succ]
            refine wpAnyH_ready (rs := [7]) (by kernel_rfl) (by simp) ?_
            refine AllReadyH.cons rfl (fun K hK => ?_) ?_
            · refine step_alloc_state (by rfl) rfl ?_
              intro b16 wn hg hnew hb
              have N16 := Lib.hid (show w12.heap.size ≤ b16 by rw [← hg]; exact HX.out.size)
              have NE := Lib.hid (show b15 < b16 by rw [← hg]; exact whole_lt A15.out)
              have H14 := Lib.hid (box_on H14.out hb)
              have A15 := Lib.hid (box_on A15.out hb)
              have HE := Lib.hid (HE.out.below hb)
              have HF := Lib.hid (HF.out.below hb)
              have HX := Lib.hid (HX.out.trans (hb.mono HX.out.size))
              have A16 := Lib.hid hnew
              clear hg hnew hb
              refine hK.out _ _ (Ten.of H14.out) (fun hHeld => ?_)
              clear hK K hHeld
              try simp only [Act.put, List.setIfInBounds_toArray, List.set_cons_zero, List.set_cons_succ]
              refine wpAnyH_ready (rs := [8]) (by kernel_rfl) (by simp) ?_
              refine AllReadyH.cons rfl (fun K hK => ?_) ?_
              · refine step_st_state (by rfl) _ _ rfl b15 _ rfl rfl _ A15.out rfl rfl (all_one rfl rfl rfl) ?_
                intro wp h15 ht
                have hlow : ∀ k ∈ [b15], w12.heap.size ≤ k := fun k hk => by rw [List.mem_singleton.1 hk]; exact N15.out
                have HXp := Lib.hid (HX.out.trans (ht.below hlow HX.out.size))
                have H14 := Lib.hid (box_two ht H14.out (by have h1 := N15.out; have h2 := N14.out; omega))
                have A16 := Lib.hid (box_two ht A16.out (by have := NE.out; omega))
                have HE := Lib.hid (HE.out.box ht A15.out)
                have HF := Lib.hid (HF.out.box ht A15.out)
                have B15 := Lib.hid h15
                clear ht h15 hlow
                refine hK.out _ _ (Ten.of H14.out) (fun hHeld => ?_)
                clear hK K hHeld
                try simp only [Act.put, List.setIfInBounds_toArray, List.set_cons_zero, List.set_cons_succ]
                refine wpAnyH_ready (rs := [9]) (by kernel_rfl) (by simp) ?_
                refine AllReadyH.cons rfl (fun K hK => ?_) ?_
                · refine step_st_state (by rfl) _ _ rfl b16 _ rfl rfl _ A16.out rfl rfl (all_one rfl rfl rfl) ?_
                  intro wq h16 ht
                  have hlow : ∀ k ∈ [b16], w12.heap.size ≤ k := fun k hk => by rw [List.mem_singleton.1 hk]; exact N16.out
                  have HF9 := Lib.hid (show P12 w12 wq b15 b16 _ _ _ _ _ _ _ _ from ⟨HXp.out.trans (ht.below hlow HXp.out.size), box_two ht B15.out (by have := NE.out; omega), h16, HE.out.box ht A16.out, HF.out.box ht A16.out, AP.out⟩)
                  have H14 := Lib.hid (box_two ht H14.out (by have h1 := N16.out; have h2 := N14.out; omega))
                  clear ht h16 hlow
                  refine hK.out _ _ (Ten.of H14.out) (fun hHeld => ?_)
                  clear hK K hHeld
                  try simp only [Act.put, List.setIfInBounds_toArray, List.set_cons_zero, List.set_cons_succ]
                  refine wpAnyH_done (by kernel_rfl) ?_ _
                  first | go_meet | (go_wp2_with fail; go_meet)
                  exact ⟨_, _, _, _, _, _, _, _, _, _, _, _, _, _, rfl, rfl, HF9⟩
                · exact AllReadyH.nil
              · exact AllReadyH.nil
            exact AllReadyH.nil
          refine AllReadyH.cons rfl (fun K hK => ?_) ?_
          · refine step_alloc_state (by rfl) rfl ?_
            intro b16 wn hg hnew hb
            have N16 := Lib.hid (show w12.heap.size ≤ b16 by rw [← hg]; exact HX.out.size)
            have NE := Lib.hid (show b15 < b16 by rw [← hg]; exact whole_lt A15.out)
            have H14 := Lib.hid (box_on H14.out hb)
            have A15 := Lib.hid (box_on A15.out hb)
            have HE := Lib.hid (HE.out.below hb)
            have HX := Lib.hid (HX.out.trans (hb.mono HX.out.size))
            have A16 := Lib.hid hnew
            clear hg hnew hb
            refine hK.out _ _ (Ten.of H14.out) (fun hHeld => ?_)
            clear hK K hHeld
            try simp only [Act.put, List.setIfInBounds_toArray, List.set_cons_zero, List.set_cons_succ]
            refine wpAnyH_ready (rs := [5]) (by kernel_rfl) (by simp) ?_
            refine AllReadyH.cons rfl (fun K hK => ?_) ?_
            · go_simp
              go_at_call 22
              refine (HFa.out _ HX.out).mono ?_
              rintro e wn hgm
              obtain ⟨f1, j1, f2, j2, f3, j3, rfl, ho, hb⟩ := GivesM.known hgm
              have AP := Lib.hid (apart12 HE.out ho)
              have HF1 := Lib.hid (OwnsL.from ho HX.out.size)
              have H14 := Lib.hid (box_on H14.out hb)
              have A15 := Lib.hid (box_on A15.out hb)
              have A16 := Lib.hid (box_on A16.out hb)
              have HE := Lib.hid (HE.out.below hb)
              have HX := Lib.hid (HX.out.trans (hb.mono HX.out.size))
              have HF := HF1
              clear ho hgm hb
              go_wp2_with fail
              refine hK.out _ _ (Ten.of H14.out) (fun hHeld => ?_)
              clear hK K hHeld
              try simp only [Act.put, List.setIfInBounds_toArray, List.set_cons_zero, List.set_cons_succ]
              refine wpAnyH_ready (rs := [8]) (by kernel_rfl) (by simp) ?_
              refine AllReadyH.cons rfl (fun K hK => ?_) ?_
              · refine step_st_state (by rfl) _ _ rfl b15 _ rfl rfl _ A15.out rfl rfl (all_one rfl rfl rfl) ?_
                intro wp h15 ht
                have hlow : ∀ k ∈ [b15], w12.heap.size ≤ k := fun k hk => by rw [List.mem_singleton.1 hk]; exact N15.out
                have HXp := Lib.hid (HX.out.trans (ht.below hlow HX.out.size))
                have H14 := Lib.hid (box_two ht H14.out (by have h1 := N15.out; have h2 := N14.out; omega))
                have A16 := Lib.hid (box_two ht A16.out (by have := NE.out; omega))
                have HE := Lib.hid (HE.out.box ht A15.out)
                have HF := Lib.hid (HF.out.box ht A15.out)
                have B15 := Lib.hid h15
                clear ht h15 hlow
                refine hK.out _ _ (Ten.of H14.out) (fun hHeld => ?_)
                clear hK K hHeld
                try simp only [Act.put, List.setIfInBounds_toArray, List.set_cons_zero, List.set_cons_succ]
                refine wpAnyH_ready (rs := [9]) (by kernel_rfl) (by simp) ?_
                refine AllReadyH.cons rfl (fun K hK => ?_) ?_
                · refine step_st_state (by rfl) _ _ rfl b16 _ rfl rfl _ A16.out rfl rfl (all_one rfl rfl rfl) ?_
                  intro wq h16 ht
                  have hlow : ∀ k ∈ [b16], w12.heap.size ≤ k := fun k hk => by rw [List.mem_singleton.1 hk]; exact N16.out
                  have HF9 := Lib.hid (show P12 w12 wq b15 b16 _ _ _ _ _ _ _ _ from ⟨HXp.out.trans (ht.below hlow HXp.out.size), box_two ht B15.out (by have := NE.out; omega), h16, HE.out.box ht A16.out, HF.out.box ht A16.out, AP.out⟩)
                  have H14 := Lib.hid (box_two ht H14.out (by have h1 := N16.out; have h2 := N14.out; omega))
                  clear ht h16 hlow
                  refine hK.out _ _ (Ten.of H14.out) (fun hHeld => ?_)
                  clear hK K hHeld
                  try simp only [Act.put, List.setIfInBounds_toArray, List.set_cons_zero, List.set_cons_succ]
                  refine wpAnyH_done (by kernel_rfl) ?_ _
                  first | go_meet | (go_wp2_with fail; go_meet)
                  exact ⟨_, _, _, _, _, _, _, _, _, _, _, _, _, _, rfl, rfl, HF9⟩
                · exact AllReadyH.nil
              · exact AllReadyH.nil
            exact AllReadyH.nil
          exact AllReadyH.nil
        refine AllReadyH.cons rfl (fun K hK => ?_) ?_
        · refine step_alloc_state (by rfl) rfl ?_
          intro b16 wn hg hnew hb
          have N16 := Lib.hid (show w12.heap.size ≤ b16 by rw [← hg]; exact HX.out.size)
          have NE := Lib.hid (show b15 < b16 by rw [← hg]; exact whole_lt A15.out)
          have H14 := Lib.hid (box_on H14.out hb)
          have A15 := Lib.hid (box_on A15.out hb)
          have HX := Lib.hid (HX.out.trans (hb.mono HX.out.size))
          have A16 := Lib.hid hnew
          clear hg hnew hb
          refine hK.out _ _ (Ten.of H14.out) (fun hHeld => ?_)
          clear hK K hHeld
          try simp only [Act.put, List.setIfInBounds_toArray, List.set_cons_zero, List.set_cons_succ]
          refine wpAnyH_ready (rs := [2]) (by kernel_rfl) (by simp) ?_
          refine AllReadyH.cons rfl (fun K hK => ?_) ?_
          · go_simp
            go_at_call 21
            refine (HEn.out _ HX.out).mono ?_
            rintro e wn hgm
            obtain ⟨e1, i1, e2, i2, e3, i3, rfl, ho, hb⟩ := GivesM.known hgm
            have HE1 := Lib.hid (OwnsL.from ho HX.out.size)
            have H14 := Lib.hid (box_on H14.out hb)
            have A15 := Lib.hid (box_on A15.out hb)
            have A16 := Lib.hid (box_on A16.out hb)
            have HX := Lib.hid (HX.out.trans (hb.mono HX.out.size))
            have HE := HE1
            clear ho hgm hb
            go_wp2_with fail
            refine hK.out _ _ (Ten.of H14.out) (fun hHeld => ?_)
            clear hK K hHeld
            try simp only [Act.put, List.setIfInBounds_toArray, List.set_cons_zero, List.set_cons_succ]
            refine wpAnyH_ready (rs := [5]) (by kernel_rfl) (by simp) ?_
            refine AllReadyH.cons rfl (fun K hK => ?_) ?_
            · go_simp
              go_at_call 22
              refine (HFa.out _ HX.out).mono ?_
              rintro e wn hgm
              obtain ⟨f1, j1, f2, j2, f3, j3, rfl, ho, hb⟩ := GivesM.known hgm
              have AP := Lib.hid (apart12 HE.out ho)
              have HF1 := Lib.hid (OwnsL.from ho HX.out.size)
              have H14 := Lib.hid (box_on H14.out hb)
              have A15 := Lib.hid (box_on A15.out hb)
              have A16 := Lib.hid (box_on A16.out hb)
              have HE := Lib.hid (HE.out.below hb)
              have HX := Lib.hid (HX.out.trans (hb.mono HX.out.size))
              have HF := HF1
              clear ho hgm hb
              go_wp2_with fail
              refine hK.out _ _ (Ten.of H14.out) (fun hHeld => ?_)
              clear hK K hHeld
              try simp only [Act.put, List.setIfInBounds_toArray, List.set_cons_zero, List.set_cons_succ]
              refine wpAnyH_ready (rs := [8]) (by kernel_rfl) (by simp) ?_
              refine AllReadyH.cons rfl (fun K hK => ?_) ?_
              · refine step_st_state (by rfl) _ _ rfl b15 _ rfl rfl _ A15.out rfl rfl (all_one rfl rfl rfl) ?_
                intro wp h15 ht
                have hlow : ∀ k ∈ [b15], w12.heap.size ≤ k := fun k hk => by rw [List.mem_singleton.1 hk]; exact N15.out
                have HXp := Lib.hid (HX.out.trans (ht.below hlow HX.out.size))
                have H14 := Lib.hid (box_two ht H14.out (by have h1 := N15.out; have h2 := N14.out; omega))
                have A16 := Lib.hid (box_two ht A16.out (by have := NE.out; omega))
                have HE := Lib.hid (HE.out.box ht A15.out)
                have HF := Lib.hid (HF.out.box ht A15.out)
                have B15 := Lib.hid h15
                clear ht h15 hlow
                refine hK.out _ _ (Ten.of H14.out) (fun hHeld => ?_)
                clear hK K hHeld
                try simp only [Act.put, List.setIfInBounds_toArray, List.set_cons_zero, List.set_cons_succ]
                refine wpAnyH_ready (rs := [9]) (by kernel_rfl) (by simp) ?_
                refine AllReadyH.cons rfl (fun K hK => ?_) ?_
                · refine step_st_state (by rfl) _ _ rfl b16 _ rfl rfl _ A16.out rfl rfl (all_one rfl rfl rfl) ?_
                  intro wq h16 ht
                  have hlow : ∀ k ∈ [b16], w12.heap.size ≤ k := fun k hk => by rw [List.mem_singleton.1 hk]; exact N16.out
                  have HF9 := Lib.hid (show P12 w12 wq b15 b16 _ _ _ _ _ _ _ _ from ⟨HXp.out.trans (ht.below hlow HXp.out.size), box_two ht B15.out (by have := NE.out; omega), h16, HE.out.box ht A16.out, HF.out.box ht A16.out, AP.out⟩)
                  have H14 := Lib.hid (box_two ht H14.out (by have h1 := N16.out; have h2 := N14.out; omega))
                  clear ht h16 hlow
                  refine hK.out _ _ (Ten.of H14.out) (fun hHeld => ?_)
                  clear hK K hHeld
                  try simp only [Act.put, List.setIfInBounds_toArray, List.set_cons_zero, List.set_cons_succ]
                  refine wpAnyH_done (by kernel_rfl) ?_ _
                  first | go_meet | (go_wp2_with fail; go_meet)
                  exact ⟨_, _, _, _, _, _, _, _, _, _, _, _, _, _, rfl, rfl, HF9⟩
                · exact AllReadyH.nil
              · exact AllReadyH.nil
            exact AllReadyH.nil
          exact AllReadyH.nil
        exact AllReadyH.nil
      refine AllReadyH.cons rfl (fun K hK => ?_) ?_
      · refine step_alloc_state (by rfl) rfl ?_
        intro b16 wn hg hnew hb
        have N16 := Lib.hid (show w12.heap.size ≤ b16 by rw [← hg]; exact HX.out.size)
        have H14 := Lib.hid (box_on H14.out hb)
        have HX := Lib.hid (HX.out.trans (hb.mono HX.out.size))
        have A16 := Lib.hid hnew
        clear hg hnew hb
        refine hK.out _ _ (Ten.of H14.out) (fun hHeld => ?_)
        clear hK K hHeld
        try simp only [Act.put, List.setIfInBounds_toArray, List.set_cons_zero, List.set_cons_succ]
        refine wpAnyH_ready (rs := [2, 6]) (by kernel_rfl) (by simp) ?_
        refine AllReadyH.cons rfl (fun K hK => ?_) ?_
        · go_simp
          go_at_call 21
          refine (HEn.out _ HX.out).mono ?_
          rintro e wn hgm
          obtain ⟨e1, i1, e2, i2, e3, i3, rfl, ho, hb⟩ := GivesM.known hgm
          have HE1 := Lib.hid (OwnsL.from ho HX.out.size)
          have H14 := Lib.hid (box_on H14.out hb)
          have A16 := Lib.hid (box_on A16.out hb)
          have HX := Lib.hid (HX.out.trans (hb.mono HX.out.size))
          have HE := HE1
          clear ho hgm hb
          go_wp2_with fail
          refine hK.out _ _ (Ten.of H14.out) (fun hHeld => ?_)
          clear hK K hHeld
          try simp only [Act.put, List.setIfInBounds_toArray, List.set_cons_zero, List.set_cons_succ]
          refine wpAnyH_ready (rs := [5, 6]) (by kernel_rfl) (by simp) ?_
          refine AllReadyH.cons rfl (fun K hK => ?_) ?_
          · go_simp
            go_at_call 22
            refine (HFa.out _ HX.out).mono ?_
            rintro e wn hgm
            obtain ⟨f1, j1, f2, j2, f3, j3, rfl, ho, hb⟩ := GivesM.known hgm
            have AP := Lib.hid (apart12 HE.out ho)
            have HF1 := Lib.hid (OwnsL.from ho HX.out.size)
            have H14 := Lib.hid (box_on H14.out hb)
            have A16 := Lib.hid (box_on A16.out hb)
            have HE := Lib.hid (HE.out.below hb)
            have HX := Lib.hid (HX.out.trans (hb.mono HX.out.size))
            have HF := HF1
            clear ho hgm hb
            go_wp2_with fail
            refine hK.out _ _ (Ten.of H14.out) (fun hHeld => ?_)
            clear hK K hHeld
            try simp only [Act.put, List.setIfInBounds_toArray, List.set_cons_zero, List.set_cons_succ]
            refine wpAnyH_ready (rs := [6]) (by kernel_rfl) (by simp) ?_
            refine AllReadyH.cons rfl (fun K hK => ?_) ?_
            · refine step_alloc_state (by rfl) rfl ?_
              intro b15 wn hg hnew hb
              have N15 := Lib.hid (show w12.heap.size ≤ b15 by rw [← hg]; exact HX.out.size)
              have NE := Lib.hid (show b16 < b15 by rw [← hg]; exact whole_lt A16.out)
              have H14 := Lib.hid (box_on H14.out hb)
              have A16 := Lib.hid (box_on A16.out hb)
              have HE := Lib.hid (HE.out.below hb)
              have HF := Lib.hid (HF.out.below hb)
              have HX := Lib.hid (HX.out.trans (hb.mono HX.out.size))
              have A15 := Lib.hid hnew
              clear hg hnew hb
              refine hK.out _ _ (Ten.of H14.out) (fun hHeld => ?_)
              clear hK K hHeld
              try simp only [Act.put, List.setIfInBounds_toArray, List.set_cons_zero, List.set_cons_succ]
              refine wpAnyH_ready (rs := [8]) (by kernel_rfl) (by simp) ?_
              refine AllReadyH.cons rfl (fun K hK => ?_) ?_
              · refine step_st_state (by rfl) _ _ rfl b15 _ rfl rfl _ A15.out rfl rfl (all_one rfl rfl rfl) ?_
                intro wp h15 ht
                have hlow : ∀ k ∈ [b15], w12.heap.size ≤ k := fun k hk => by rw [List.mem_singleton.1 hk]; exact N15.out
                have HXp := Lib.hid (HX.out.trans (ht.below hlow HX.out.size))
                have H14 := Lib.hid (box_two ht H14.out (by have h1 := N15.out; have h2 := N14.out; omega))
                have A16 := Lib.hid (box_two ht A16.out (by have := NE.out; omega))
                have HE := Lib.hid (HE.out.box ht A15.out)
                have HF := Lib.hid (HF.out.box ht A15.out)
                have B15 := Lib.hid h15
                clear ht h15 hlow
                refine hK.out _ _ (Ten.of H14.out) (fun hHeld => ?_)
                clear hK K hHeld
                try simp only [Act.put, List.setIfInBounds_toArray, List.set_cons_zero, List.set_cons_succ]
                refine wpAnyH_ready (rs := [9]) (by kernel_rfl) (by simp) ?_
                refine AllReadyH.cons rfl (fun K hK => ?_) ?_
                · refine step_st_state (by rfl) _ _ rfl b16 _ rfl rfl _ A16.out rfl rfl (all_one rfl rfl rfl) ?_
                  intro wq h16 ht
                  have hlow : ∀ k ∈ [b16], w12.heap.size ≤ k := fun k hk => by rw [List.mem_singleton.1 hk]; exact N16.out
                  have HF9 := Lib.hid (show P12 w12 wq b15 b16 _ _ _ _ _ _ _ _ from ⟨HXp.out.trans (ht.below hlow HXp.out.size), box_two ht B15.out (by have := NE.out; omega), h16, HE.out.box ht A16.out, HF.out.box ht A16.out, AP.out⟩)
                  have H14 := Lib.hid (box_two ht H14.out (by have h1 := N16.out; have h2 := N14.out; omega))
                  clear ht h16 hlow
                  refine hK.out _ _ (Ten.of H14.out) (fun hHeld => ?_)
                  clear hK K hHeld
                  try simp only [Act.put, List.setIfInBounds_toArray, List.set_cons_zero, List.set_cons_succ]
                  refine wpAnyH_done (by kernel_rfl) ?_ _
                  first | go_meet | (go_wp2_with fail; go_meet)
                  exact ⟨_, _, _, _, _, _, _, _, _, _, _, _, _, _, rfl, rfl, HF9⟩
                · exact AllReadyH.nil
              · exact AllReadyH.nil
            exact AllReadyH.nil
          refine AllReadyH.cons rfl (fun K hK => ?_) ?_
          · refine step_alloc_state (by rfl) rfl ?_
            intro b15 wn hg hnew hb
            have N15 := Lib.hid (show w12.heap.size ≤ b15 by rw [← hg]; exact HX.out.size)
            have NE := Lib.hid (show b16 < b15 by rw [← hg]; exact whole_lt A16.out)
            have H14 := Lib.hid (box_on H14.out hb)
            have A16 := Lib.hid (box_on A16.out hb)
            have HE := Lib.hid (HE.out.below hb)
            have HX := Lib.hid (HX.out.trans (hb.mono HX.out.size))
            have A15 := Lib.hid hnew
            clear hg hnew hb
            refine hK.out _ _ (Ten.of H14.out) (fun hHeld => ?_)
            clear hK K hHeld
            try simp only [Act.put, List.setIfInBounds_toArray, List.set_cons_zero, List.set_cons_succ]
            refine wpAnyH_ready (rs := [5]) (by kernel_rfl) (by simp) ?_
            refine AllReadyH.cons rfl (fun K hK => ?_) ?_
            · go_simp
              go_at_call 22
              refine (HFa.out _ HX.out).mono ?_
              rintro e wn hgm
              obtain ⟨f1, j1, f2, j2, f3, j3, rfl, ho, hb⟩ := GivesM.known hgm
              have AP := Lib.hid (apart12 HE.out ho)
              have HF1 := Lib.hid (OwnsL.from ho HX.out.size)
              have H14 := Lib.hid (box_on H14.out hb)
              have A15 := Lib.hid (box_on A15.out hb)
              have A16 := Lib.hid (box_on A16.out hb)
              have HE := Lib.hid (HE.out.below hb)
              have HX := Lib.hid (HX.out.trans (hb.mono HX.out.size))
              have HF := HF1
              clear ho hgm hb
              go_wp2_with fail
              refine hK.out _ _ (Ten.of H14.out) (fun hHeld => ?_)
              clear hK K hHeld
              try simp only [Act.put, List.setIfInBounds_toArray, List.set_cons_zero, List.set_cons_succ]
              refine wpAnyH_ready (rs := [8]) (by kernel_rfl) (by simp) ?_
              refine AllReadyH.cons rfl (fun K hK => ?_) ?_
              · refine step_st_state (by rfl) _ _ rfl b15 _ rfl rfl _ A15.out rfl rfl (all_one rfl rfl rfl) ?_
                intro wp h15 ht
                have hlow : ∀ k ∈ [b15], w12.heap.size ≤ k := fun k hk => by rw [List.mem_singleton.1 hk]; exact N15.out
                have HXp := Lib.hid (HX.out.trans (ht.below hlow HX.out.size))
                have H14 := Lib.hid (box_two ht H14.out (by have h1 := N15.out; have h2 := N14.out; omega))
                have A16 := Lib.hid (box_two ht A16.out (by have := NE.out; omega))
                have HE := Lib.hid (HE.out.box ht A15.out)
                have HF := Lib.hid (HF.out.box ht A15.out)
                have B15 := Lib.hid h15
                clear ht h15 hlow
                refine hK.out _ _ (Ten.of H14.out) (fun hHeld => ?_)
                clear hK K hHeld
                try simp only [Act.put, List.setIfInBounds_toArray, List.set_cons_zero, List.set_cons_succ]
                refine wpAnyH_ready (rs := [9]) (by kernel_rfl) (by simp) ?_
                refine AllReadyH.cons rfl (fun K hK => ?_) ?_
                · refine step_st_state (by rfl) _ _ rfl b16 _ rfl rfl _ A16.out rfl rfl (all_one rfl rfl rfl) ?_
                  intro wq h16 ht
                  have hlow : ∀ k ∈ [b16], w12.heap.size ≤ k := fun k hk => by rw [List.mem_singleton.1 hk]; exact N16.out
                  have HF9 := Lib.hid (show P12 w12 wq b15 b16 _ _ _ _ _ _ _ _ from ⟨HXp.out.trans (ht.below hlow HXp.out.size), box_two ht B15.out (by have := NE.out; omega), h16, HE.out.box ht A16.out, HF.out.box ht A16.out, AP.out⟩)
                  have H14 := Lib.hid (box_two ht H14.out (by have h1 := N16.out; have h2 := N14.out; omega))
                  clear ht h16 hlow
                  refine hK.out _ _ (Ten.of H14.out) (fun hHeld => ?_)
                  clear hK K hHeld
                  try simp only [Act.put, List.setIfInBounds_toArray, List.set_cons_zero, List.set_cons_succ]
                  refine wpAnyH_done (by kernel_rfl) ?_ _
                  first | go_meet | (go_wp2_with fail; go_meet)
                  exact ⟨_, _, _, _, _, _, _, _, _, _, _, _, _, _, rfl, rfl, HF9⟩
                · exact AllReadyH.nil
              · exact AllReadyH.nil
            exact AllReadyH.nil
          exact AllReadyH.nil
        refine AllReadyH.cons rfl (fun K hK => ?_) ?_
        · refine step_alloc_state (by rfl) rfl ?_
          intro b15 wn hg hnew hb
          have N15 := Lib.hid (show w12.heap.size ≤ b15 by rw [← hg]; exact HX.out.size)
          have NE := Lib.hid (show b16 < b15 by rw [← hg]; exact whole_lt A16.out)
          have H14 := Lib.hid (box_on H14.out hb)
          have A16 := Lib.hid (box_on A16.out hb)
          have HX := Lib.hid (HX.out.trans (hb.mono HX.out.size))
          have A15 := Lib.hid hnew
          clear hg hnew hb
          refine hK.out _ _ (Ten.of H14.out) (fun hHeld => ?_)
          clear hK K hHeld
          try simp only [Act.put, List.setIfInBounds_toArray, List.set_cons_zero, List.set_cons_succ]
          refine wpAnyH_ready (rs := [2]) (by kernel_rfl) (by simp) ?_
          refine AllReadyH.cons rfl (fun K hK => ?_) ?_
          · go_simp
            go_at_call 21
            refine (HEn.out _ HX.out).mono ?_
            rintro e wn hgm
            obtain ⟨e1, i1, e2, i2, e3, i3, rfl, ho, hb⟩ := GivesM.known hgm
            have HE1 := Lib.hid (OwnsL.from ho HX.out.size)
            have H14 := Lib.hid (box_on H14.out hb)
            have A15 := Lib.hid (box_on A15.out hb)
            have A16 := Lib.hid (box_on A16.out hb)
            have HX := Lib.hid (HX.out.trans (hb.mono HX.out.size))
            have HE := HE1
            clear ho hgm hb
            go_wp2_with fail
            refine hK.out _ _ (Ten.of H14.out) (fun hHeld => ?_)
            clear hK K hHeld
            try simp only [Act.put, List.setIfInBounds_toArray, List.set_cons_zero, List.set_cons_succ]
            refine wpAnyH_ready (rs := [5]) (by kernel_rfl) (by simp) ?_
            refine AllReadyH.cons rfl (fun K hK => ?_) ?_
            · go_simp
              go_at_call 22
              refine (HFa.out _ HX.out).mono ?_
              rintro e wn hgm
              obtain ⟨f1, j1, f2, j2, f3, j3, rfl, ho, hb⟩ := GivesM.known hgm
              have AP := Lib.hid (apart12 HE.out ho)
              have HF1 := Lib.hid (OwnsL.from ho HX.out.size)
              have H14 := Lib.hid (box_on H14.out hb)
              have A15 := Lib.hid (box_on A15.out hb)
              have A16 := Lib.hid (box_on A16.out hb)
              have HE := Lib.hid (HE.out.below hb)
              have HX := Lib.hid (HX.out.trans (hb.mono HX.out.size))
              have HF := HF1
              clear ho hgm hb
              go_wp2_with fail
              refine hK.out _ _ (Ten.of H14.out) (fun hHeld => ?_)
              clear hK K hHeld
              try simp only [Act.put, List.setIfInBounds_toArray, List.set_cons_zero, List.set_cons_succ]
              refine wpAnyH_ready (rs := [8]) (by kernel_rfl) (by simp) ?_
              refine AllReadyH.cons rfl (fun K hK => ?_) ?_
              · refine step_st_state (by rfl) _ _ rfl b15 _ rfl rfl _ A15.out rfl rfl (all_one rfl rfl rfl) ?_
                intro wp h15 ht
                have hlow : ∀ k ∈ [b15], w12.heap.size ≤ k := fun k hk => by rw [List.mem_singleton.1 hk]; exact N15.out
                have HXp := Lib.hid (HX.out.trans (ht.below hlow HX.out.size))
                have H14 := Lib.hid (box_two ht H14.out (by have h1 := N15.out; have h2 := N14.out; omega))
                have A16 := Lib.hid (box_two ht A16.out (by have := NE.out; omega))
                have HE := Lib.hid (HE.out.box ht A15.out)
                have HF := Lib.hid (HF.out.box ht A15.out)
                have B15 := Lib.hid h15
                clear ht h15 hlow
                refine hK.out _ _ (Ten.of H14.out) (fun hHeld => ?_)
                clear hK K hHeld
                try simp only [Act.put, List.setIfInBounds_toArray, List.set_cons_zero, List.set_cons_succ]
                refine wpAnyH_ready (rs := [9]) (by kernel_rfl) (by simp) ?_
                refine AllReadyH.cons rfl (fun K hK => ?_) ?_
                · refine step_st_state (by rfl) _ _ rfl b16 _ rfl rfl _ A16.out rfl rfl (all_one rfl rfl rfl) ?_
                  intro wq h16 ht
                  have hlow : ∀ k ∈ [b16], w12.heap.size ≤ k := fun k hk => by rw [List.mem_singleton.1 hk]; exact N16.out
                  have HF9 := Lib.hid (show P12 w12 wq b15 b16 _ _ _ _ _ _ _ _ from ⟨HXp.out.trans (ht.below hlow HXp.out.size), box_two ht B15.out (by have := NE.out; omega), h16, HE.out.box ht A16.out, HF.out.box ht A16.out, AP.out⟩)
                  have H14 := Lib.hid (box_two ht H14.out (by have h1 := N16.out; have h2 := N14.out; omega))
                  clear ht h16 hlow
                  refine hK.out _ _ (Ten.of H14.out) (fun hHeld => ?_)
                  clear hK K hHeld
                  try simp only [Act.put, List.setIfInBounds_toArray, List.set_cons_zero, List.set_cons_succ]
                  refine wpAnyH_done (by kernel_rfl) ?_ _
                  first | go_meet | (go_wp2_with fail; go_meet)
                  exact ⟨_, _, _, _, _, _, _, _, _, _, _, _, _, _, rfl, rfl, HF9⟩
                · exact AllReadyH.nil
              · exact AllReadyH.nil
            exact AllReadyH.nil
          exact AllReadyH.nil
        exact AllReadyH.nil
      exact AllReadyH.nil
    case rest =>
      obtain ⟨b15, b16, e1, i1, e2, i2, e3, i3, f1, j1, f2, j2, f3, j3, rfl, rfl, HP12⟩ := hcut
      have HMF := Lib.hid (Mach.fault_right HR.out code)
      obtain ⟨mE, hmE⟩ : ∃ z : M, ({ m with ip := xt, handler := 0, back := [0], status := 0, code := 0 } : M) = z := ⟨_, rfl⟩
      obtain ⟨mF, hmF⟩ : ∃ z, Mach.fault m code = z := ⟨_, rfl⟩
      rw [hmF] at HP12 HMF
      rw [hmE] at HP12
      have HQE := Lib.hid hmE
      have HQF := Lib.hid hmF
      have HEL := Lib.hid (show mE.stack.length ≤ 10000 ∧ mE.back.length ≤ 10000 ∧ mE.mem.length ≤ 10000 by
        rw [← hmE]
        have h1 := HN.out
        have h2 := HL.out
        refine ⟨by show m.stack.length ≤ 10000; omega, by show (1 : Nat) ≤ 10000; omega, by show m.mem.length ≤ 10000; omega⟩)
      have HFL := Lib.hid (show mF.stack.length ≤ 10000 ∧ mF.back.length ≤ 10000 ∧ mF.mem.length ≤ 10000 by
        have h1 := HMF.out.stack
        have h2 := HMF.out.back
        have h3 := HMF.out.mem
        exact ⟨by omega, by omega, by omega⟩)
      clear hmE hmF HMF
      have HPB := Lib.hid (show pb + 1 ≤ w12.heap.size from whole_lt HK12.out.book)
      have HLT := Lib.hid (fun k hk => (HK12.out.kept.lists.lt k hk).2)
      have HKc := Lib.hid (HK12.out.below HP12.out.hb)
      have HXc := Lib.hid (box_on HX12.out HP12.out.hb)
      have H14c := Lib.hid (box_on HLB.out HP12.out.hb)
      have HLc := Lib.hid (HLM.out.below HP12.out.hb)
      have HBc := Lib.hid HP12.out.hb
      have H15c := Lib.hid HP12.out.h15
      have H16c := Lib.hid HP12.out.h16
      have HOE := Lib.hid HP12.out.oe
      have HOF := Lib.hid HP12.out.of
      have HAP := Lib.hid HP12.out.ap
      have S := Lib.hid (bookState_any HKc.out HOE.out HPB.out HLT.out (by show 0 + 3 + 3 + 3 ≤ 250; decide) HEL.out.1 HEL.out.2.1 HEL.out.2.2)
      clear S1 S2 HP12 HK12 HX12 HLB HLM HX H14 HEn HFa
      go_upto_region 13 with fail
      go_wp2_with (refine ld_state (by rfl) _ rfl _ rfl _ _ H15c.out rfl ?_)
      refine S.out.mono ?_
      rintro e w13 ⟨rfl, vS13, vW13, hK, hP, hsp⟩
      have HK13 := Lib.hid hK
      have HB13 := Lib.hid (show Below pb w12 w13 from (HBc.out.mono (by have := HPB.out; omega)).trans hP)
      have HX13 := Lib.hid (Spares.box hsp HXc.out)
      have H14d := Lib.hid (Spares.box hsp H14c.out)
      have H15d := Lib.hid (Spares.box hsp H15c.out)
      have H16d := Lib.hid (Spares.box hsp H16c.out)
      have HLd := Lib.hid (HLc.out.spares hsp)
      have HOEd := Lib.hid (HOE.out.spares hsp)
      have HOFd := Lib.hid (HOF.out.spares hsp)
      clear hK hP hsp S HKc HXc H14c H15c H16c HLc HOE HOF HBc
      have S := Lib.hid (bookApart_any HK13.out HOFd.out HPB.out (apart_ls HLT.out HOFd.out HAP.out _ _ _) (by show 0 + 3 + 3 + 3 + 3 ≤ 250; decide) HFL.out.1 HFL.out.2.1 HFL.out.2.2)
      go_upto_region 14 with fail
      go_wp2_with (refine ld_state (by rfl) _ rfl _ rfl _ _ H16d.out rfl ?_)
      refine S.out.mono ?_
      rintro e w14 ⟨rfl, vS14, vW14, hK, hP, hsp⟩
      have HK14 := Lib.hid hK
      have HB14 := Lib.hid (HB13.out.trans hP)
      have HX14 := Lib.hid (Spares.box hsp HX13.out)
      have H14e := Lib.hid (Spares.box hsp H14d.out)
      have H15e := Lib.hid (Spares.box hsp H15d.out)
      have H16e := Lib.hid (Spares.box hsp H16d.out)
      have HLe := Lib.hid (HLd.out.spares hsp)
      have HOEe := Lib.hid (HOEd.out.spares hsp)
      have HOFe := Lib.hid (HOFd.out.spares hsp)
      clear hK hP hsp S HK13 HX13 H14d H15d H16d HLd HOEd HOFd HB13
      have HW14 := Lib.hid (show Below W.heap.size W w14 from HW12.out.trans (HB14.out.mono HWP.out))
      have HV14 := Lib.hid (fun wc (hb : Below w14.heap.size w14 wc) => HV.out.below (HW14.out.trans (hb.mono HW14.out.size)))
      have HML := Lib.hid (show m.stack.length ≤ 10000 ∧ m.back.length ≤ 10000 ∧ m.mem.length ≤ 10000 by have := HN.out; have := HL.out; omega)
      have HEr := Lib.hid (fun wc (hb : Below w14.heap.size w14 wc) => refEnter_tells (HV14.out wc hb) xt)
      have HFr := Lib.hid (fun wc (hb : Below w14.heap.size w14 wc) => refFault_any (HV14.out wc hb) HR.out code)
      have HSt := Lib.hid (fun wc (hb : Below w14.heap.size w14 wc) => staysState_any (HLe.out.below hb) (HV14.out wc hb) HML.out.1 HML.out.2.1 HML.out.2.2)
      rw [HQE.out] at HEr
      rw [HQF.out] at HFr
      go_upto_region 15 with fail
      have HB15 := Lib.hid (show Below w14.heap.size w14 w14.drew from (Below.refl _ _).drew)
      have HX14 := Lib.hid (show w14.drew.heap[g]? = _ from HX14.out)
      have H15e := Lib.hid (show w14.drew.heap[b15]? = _ from H15e.out)
      have H16e := Lib.hid (show w14.drew.heap[b16]? = _ from H16e.out)
      have H14e := Lib.hid (show w14.drew.heap[b14]? = _ from H14e.out)
      go_region_held3 (fun w' => (w'.cell? ⟨b15, 0, none⟩ = some (.int .i64 mE.ip) ∧ w'.cell? ⟨b15, 1, none⟩ = some (.int .i64 mE.handler) ∧ w'.cell? ⟨b15, 2, none⟩ = some (.slice e1 m.stack.length i1) ∧ w'.cell? ⟨b15, 3, none⟩ = some (.slice e2 1 i2) ∧ w'.cell? ⟨b15, 4, none⟩ = some (.slice e3 m.mem.length i3) ∧ w'.cell? ⟨b15, 5, none⟩ = some (.string mE.out) ∧ w'.cell? ⟨b15, 6, none⟩ = some (.string mE.inp) ∧ w'.cell? ⟨b15, 7, none⟩ = some (.int .i64 mE.read) ∧ w'.cell? ⟨b15, 8, none⟩ = some (.int .i64 mE.status) ∧ w'.cell? ⟨b15, 9, none⟩ = some (.int .i64 mE.code)) ∧ (w'.cell? ⟨g, 0, none⟩ = some (.int .i64 m.ip) ∧ w'.cell? ⟨g, 1, none⟩ = some (.int .i64 m.handler) ∧ w'.cell? ⟨g, 2, none⟩ = some (.slice so n2 sc) ∧ w'.cell? ⟨g, 3, none⟩ = some (.slice bo n3 bc) ∧ w'.cell? ⟨g, 4, none⟩ = some (.slice mo n4 mc) ∧ w'.cell? ⟨g, 5, none⟩ = some (.string m.out) ∧ w'.cell? ⟨g, 6, none⟩ = some (.string m.inp) ∧ w'.cell? ⟨g, 7, none⟩ = some (.int .i64 m.read) ∧ w'.cell? ⟨g, 8, none⟩ = some (.int .i64 m.status) ∧ w'.cell? ⟨g, 9, none⟩ = some (.int .i64 m.code)) ∧ (w'.cell? ⟨b16, 0, none⟩ = some (.int .i64 mF.ip) ∧ w'.cell? ⟨b16, 1, none⟩ = some (.int .i64 mF.handler) ∧ w'.cell? ⟨b16, 2, none⟩ = some (.slice f1 mF.stack.length j1) ∧ w'.cell? ⟨b16, 3, none⟩ = some (.slice f2 mF.back.length j2) ∧ w'.cell? ⟨b16, 4, none⟩ = some (.slice f3 mF.mem.length j3) ∧ w'.cell? ⟨b16, 5, none⟩ = some (.string mF.out) ∧ w'.cell? ⟨b16, 6, none⟩ = some (.string mF.inp) ∧ w'.cell? ⟨b16, 7, none⟩ = some (.int .i64 mF.read) ∧ w'.cell? ⟨b16, 8, none⟩ = some (.int .i64 mF.status) ∧ w'.cell? ⟨b16, 9, none⟩ = some (.int .i64 mF.code)) ∧ (w'.cell? ⟨b14, 0, none⟩ = some (.int .i64 m.ip) ∧ w'.cell? ⟨b14, 1, none⟩ = some (.int .i64 m.handler) ∧ w'.cell? ⟨b14, 2, none⟩ = some (.slice (some ⟨l1, 0, none⟩) n2 y1) ∧ w'.cell? ⟨b14, 3, none⟩ = some (.slice (some ⟨l2, 0, none⟩) n3 y2) ∧ w'.cell? ⟨b14, 4, none⟩ = some (.slice (some ⟨l3, 0, none⟩) n4 y3) ∧ w'.cell? ⟨b14, 5, none⟩ = some (.string m.out) ∧ w'.cell? ⟨b14, 6, none⟩ = some (.string m.inp) ∧ w'.cell? ⟨b14, 7, none⟩ = some (.int .i64 m.read) ∧ w'.cell? ⟨b14, 8, none⟩ = some (.int .i64 m.status) ∧ w'.cell? ⟨b14, 9, none⟩ = some (.int .i64 m.code)))
        (exact And.intro (Ten.of H15e.out) (And.intro (Ten.of HX14.out) (And.intro (Ten.of H16e.out) (Ten.of H14e.out))))
        (first
          | (go_at_call 11; refine T2.out.mono ?_; rintro e wn ⟨rfl, hb⟩; have HX14 := Lib.hid (box_on HX14.out hb); have H15e := Lib.hid (box_on H15e.out hb); have H16e := Lib.hid (box_on H16e.out hb); have H14e := Lib.hid (box_on H14e.out hb); have HB15 := Lib.hid (HB15.out.trans (hb.mono HB15.out.size)); clear hb)
          | (go_at_call 11; refine T1.out.mono ?_; rintro e wn ⟨rfl, hb⟩; have HX14 := Lib.hid (box_on HX14.out hb); have H15e := Lib.hid (box_on H15e.out hb); have H16e := Lib.hid (box_on H16e.out hb); have H14e := Lib.hid (box_on H14e.out hb); have HB15 := Lib.hid (HB15.out.trans (hb.mono HB15.out.size)); clear hb)
          | (go_at_call 23; refine (HEr.out _ HB15.out).mono ?_; rintro e wn ⟨vr, rfl, ho, hb⟩; have HX14 := Lib.hid (box_on HX14.out hb); have H15e := Lib.hid (box_on H15e.out hb); have H16e := Lib.hid (box_on H16e.out hb); have H14e := Lib.hid (box_on H14e.out hb); have HB15 := Lib.hid (HB15.out.trans (hb.mono HB15.out.size)); have T1 := Lib.hid (sameState_any (OwnsL.readsM (HOEe.out.below HB15.out)) ho HEL.out.1 HEL.out.2.1 HEL.out.2.2); clear ho hb)
          | (go_at_call 24; refine (HFr.out _ HB15.out).mono ?_; rintro e wn ⟨vr, rfl, ho, hb⟩; have HX14 := Lib.hid (box_on HX14.out hb); have H15e := Lib.hid (box_on H15e.out hb); have H16e := Lib.hid (box_on H16e.out hb); have H14e := Lib.hid (box_on H14e.out hb); have HB15 := Lib.hid (HB15.out.trans (hb.mono HB15.out.size)); have T2 := Lib.hid (sameState_any (OwnsL.readsM (HOFe.out.below HB15.out)) ho HFL.out.1 HFL.out.2.1 HFL.out.2.2); clear ho hb)
          | (go_at_call 12; refine (HSt.out _ HB15.out).mono ?_; rintro e wn ⟨rfl, hb⟩; have HX14 := Lib.hid (box_on HX14.out hb); have H15e := Lib.hid (box_on H15e.out hb); have H16e := Lib.hid (box_on H16e.out hb); have H14e := Lib.hid (box_on H14e.out hb); have HB15 := Lib.hid (HB15.out.trans (hb.mono HB15.out.size)); clear hb))
      have HK15 := Lib.hid (HK14.out.below HB15.out)
      have HW15 := Lib.hid (HW14.out.trans (HB15.out.mono HW14.out.size))
      clear HB15 HX14 H15e H16e H14e HEr HFr HSt HV14 HOEe HOFe HLe HK14 HW14 HB14
      have AP := Lib.hid (apartInts_any pb (pb + 1) vS14 vW14 _ wn (Nat.lt_succ_self _) (whole_lt HK15.out.book) ⟨whole_cell HK15.out.book rfl, whole_cell HK15.out.book rfl, whole_cell HK15.out.book rfl, whole_cell HK15.out.book rfl, whole_cell HK15.out.book rfl, whole_cell HK15.out.book rfl⟩ (whole_cell HK15.out.book rfl) _ HK15.out.kept)
      go_wp2_with fail
      refine AP.out.mono ?_
      rintro e w16 ⟨rfl, hb⟩
      have HF := Lib.hid (HW15.out.trans (hb.mono (Nat.le_succ_of_le HWP.out)))
      clear AP hb
      go_wp2
      go_ret
      exact ⟨rfl, HF.out⟩
theorem main (n : Int) (inp : ByteArray) (v : Value) (m : M) (xt code : Int) (W : World) (_ : (Lit.int .i64 n).wf = true) (hn : inp.size ≤ maxLen) (h : ReadsM W v m ∧ Cells m ∧ m.inp.size ≤ maxLen ∧ m.out.size ≤ maxLen ∧ Cell.In m.read ∧ Cell.In m.status) (_ : (Lit.int .i64 xt).wf = true) (_ : (Lit.int .i64 code).wf = true) (hE : ∀ wc, Below W.heap.size W wc → Tabs wc) :
    Calls Tryz.prog 4 #[.int .i64 n, .string inp, v, .int .i64 xt, .int .i64 code] W (Yes W) := by
  obtain ⟨h, hc, hi, ho, -, -⟩ := h
  by_cases c1 : 300 < inp.size
  · exact not_small n inp v m xt code W h hn hi ho hE (.inl c1)
  by_cases c2 : 4000 < m.mem.length
  · exact not_small n inp v m xt code W h hn hi ho hE (.inr ⟨c1, .inl c2⟩)
  by_cases c3 : 200 < m.stack.length
  · exact not_small n inp v m xt code W h hn hi ho hE (.inr ⟨c1, .inr ⟨c2, .inl c3⟩⟩)
  by_cases c4 : 200 < m.back.length
  · exact not_small n inp v m xt code W h hn hi ho hE (.inr ⟨c1, .inr ⟨c2, .inr ⟨c3, .inl c4⟩⟩⟩)
  by_cases c5 : 4000 < m.out.size
  · exact not_small n inp v m xt code W h hn hi ho hE (.inr ⟨c1, .inr ⟨c2, .inr ⟨c3, .inr ⟨c4, .inl c5⟩⟩⟩⟩)
  by_cases c6 : 300 < m.inp.size
  · exact not_small n inp v m xt code W h hn hi ho hE (.inr ⟨c1, .inr ⟨c2, .inr ⟨c3, .inr ⟨c4, .inr ⟨c5, .inl c6⟩⟩⟩⟩⟩)
  by_cases c7 : 5000 < n
  · exact not_small n inp v m xt code W h hn hi ho hE (.inr ⟨c1, .inr ⟨c2, .inr ⟨c3, .inr ⟨c4, .inr ⟨c5, .inr ⟨c6, c7⟩⟩⟩⟩⟩⟩)
  exact small n inp v m xt code W h hc hE (by omega) (by omega) (by omega) (by omega) (by omega) (by omega) (by omega)
end Go.Proofs.YtfpaajoggbibnaaGreatDoor.InnerBegins

namespace Go.Proofs.YtfpaajoggbibnaaGreatDoor.innerBegins
open Inn Mach Mem
open Go.ChangeShapes Go.WideShapes Go.ChangeAt Go.RowKit
set_option linter.unusedVariables false
set_option linter.unusedSimpArgs false

theorem own : ownKnob Tryz.prog.godebug = none := by kernel_rfl
theorem laidOut : laidOutB Tryz.prog = true := by kernel_rfl
abbrev laid : List (String × DataW Unit) := laidL9
theorem laid_is : Rows.innerBeginsRow.laid = laid := rfl
set_option maxRecDepth 100000 in
theorem lifted (os : Os) (started : os.Started) (H : Type) (enc : TypeId × Value → H) :
    ReturnsInHanded {} Tryz.checked os 4 .any (fun w args => (Rows.innerBeginsSpec.pre enc Tryz.prog Tryz.f4 Rows.innerBeginsRow.domain false w args ∧ laidMetH Tryz.prog laid w) ∧ sizedMet enc Tryz.prog Tryz.f4 (OpenSpec.ofChange Rows.innerBeginsSpec) false w args)
      (Rows.innerBeginsSpec.post enc Tryz.prog Tryz.f4 false true false false) := by
  refine returnsInHanded_of_change_and (C := Tryz.checked) (X := fun w _ => laidMetH Tryz.prog laid w) (fun _ _ _ hh h => h.of_heap hh) own started (by kernel_rfl) Tryz.func4
    (Inn.witness_ref (enc := enc) (C := Tryz.checked) (os := os) (X := fun w _ => laidMetH Tryz.prog laid w) false (Inn.laidWorld os) #[.int .i64 0, .string ⟨#[]⟩, .agg #[.int .i64 0, .int .i64 0, .slice none 0 0, .slice none 0 0, .slice none 0 0, .string ⟨#[]⟩, .string ⟨#[]⟩, .int .i64 0, .int .i64 0, .int .i64 0], .int .i64 0, .int .i64 0] 8 rfl (by kernel_rfl) (by kernel_rfl) (by kernel_rfl) (by kernel_rfl) (by kernel_rfl) (Inn.laidWorld_met os _)) ?_
  intro W base args ds gs before hval0 hW _ _ hL _
  have hval : ∀ (j : Nat) t v, Tryz.f4.params[j]? = some t → args[j]? = some v → Value.okWide Tryz.prog W .any base t v := hval0
  have hW' := hW
  obtain ⟨p, q, hA0, hV, rfl, hfz, hnd⟩ := hW
  have hA : DataW.TrodAll enc Tryz.prog W 0 (fun _ => true) true Tryz.f4.params.toList args.toList ds p := hA0
  rw [Tryz.params4] at hA hval
  obtain ⟨v0, vs0, d0, ds0, p0, q0, hargs, rfl, rfl, h0, r0⟩ := trodAll_cons hA
  obtain ⟨v1, vs1, d1, ds1, p1, q1, rfl, rfl, rfl, h1, r1⟩ := trodAll_cons r0
  obtain ⟨v2, vs2, d2, ds2, p2, q2, rfl, rfl, rfl, h2, r2⟩ := trodAll_cons r1
  obtain ⟨v3, vs3, d3, ds3, p3, q3, rfl, rfl, rfl, h3, r3⟩ := trodAll_cons r2
  obtain ⟨v4, vs4, d4, ds4, p4, q4, rfl, rfl, rfl, h4, r4⟩ := trodAll_cons r3
  obtain ⟨rfl, rfl, rfl⟩ := trodAll_nil r4
  obtain rfl : args = #[v0, v1, v2, v3, v4] := by cases args; simp_all
  obtain ⟨rfl, rfl⟩ := trodVars_none hV
  obtain ⟨a0, rfl, rfl, rfl, w0⟩ := open_int Tryz.underlying3 (hval 0 3 v0 rfl rfl) h0
  obtain ⟨a1, rfl, rfl, rfl, w1⟩ := Go.ChangeMaps.open_string Tryz.underlying9 (hval 1 9 v1 rfl rfl) h1
  obtain ⟨xs2, l2⟩ := stateOf (hval 2 24 v2 rfl rfl) h2
  obtain ⟨a3, rfl, rfl, rfl, w3⟩ := open_int Tryz.underlying3 (hval 3 3 v3 rfl rfl) h3
  obtain ⟨a4, rfl, rfl, rfl, w4⟩ := open_int Tryz.underlying3 (hval 4 3 v4 rfl rfl) h4
  clear hA0 hval0
  simp only [List.append_nil] at hW'
  have hlt2 : ∀ x ∈ p2, x.block < W.heap.size := fun x hx => by simpa using hW'.lt x (by simp [hx])
  refine (InnerBegins.main a0 a1 v2 xs2 a3 a4 W w0 w1 l2 w3 w4 (tabs_on hL)).mono fun e W' ⟨he, hg⟩ => ?_
  subst he
  exact ⟨_, rfl, _, _, _, [], _, [], hW', (trodAll_cons_mk (shut_bool Tryz.underlying4 _) trodAll_mk0), (trodAll_cons_mk (shut_int Tryz.underlying3 w0) (trodAll_cons_mk (Go.ChangeMaps.shut_string Tryz.underlying9 w1) (trodAll_cons_mk (Below.trod laidOut (by kernel_rfl) (of_decide_eq_true (by kernel_rfl)) h2 hg hlt2) (trodAll_cons_mk (shut_int Tryz.underlying3 w3) (trodAll_cons_mk (shut_int Tryz.underlying3 w4) trodAll_mk0))))), rfl, hg.frame _, fun h => by cases h⟩

theorem over : Rows.innerBeginsRow.holds Tryz.pinned (OpenSpec.ofChange Rows.innerBeginsSpec) :=
  OpenClaim.holds_of_wide 4 Tryz.f4 rfl rfl rfl rfl rfl rfl rfl ⟨rfl, rfl, rfl, rfl, rfl⟩ rfl rfl rfl rfl rfl (by kernel_rfl) Tryz.func4 (by kernel_rfl)
    (of_decide_eq_true (by kernel_rfl)) (by unfold Func.isWrapper; first | (rw [if_pos (by decide +kernel)]; kernel_rfl) | (rw [if_neg (by decide +kernel)]; exact ⟨rfl, rfl⟩))
    (fun os started H enc _ => lifted os started H enc)

theorem proved : Rows.InnerBeginsCardSaid :=
  Claim7.holds_tied_plain_at .later [] Rows.innerBeginsCard.laidKinds true Rows.innerBeginsCard.stood.harness Rows.innerBeginsCard.stood.looks
    over (fun _ h => by cases h) (by kernel_rfl) (fun _ h => by cases h) innerBegins_row_tie rfl ⟨rfl, rfl⟩ (by kernel_rfl) rfl
    (fun f fn hf hfn => by
      obtain rfl : f = 4 := Option.some.inj ((show Tryz.prog.funcNamed "holloway/hollowaylaw9.InnerBegins" = some 4 by kernel_rfl).symm.trans hf) |>.symm
      obtain rfl : fn = Tryz.f4 := (Option.some.inj (Tryz.func4.symm.trans hfn)).symm
      exact ⟨by kernel_rfl, fun j t ht => by
        rw [Tryz.params4] at ht
        have hm : t ∈ [3, 9, 24, 3, 3] := by
          rcases Array.mem_of_getElem? ht with h
          simpa using h
        simp only [List.mem_cons, List.not_mem_nil, or_false] at hm
        rcases hm with rfl | rfl | rfl | rfl | rfl
        · exact (show Tryz.prog.wantsStandIn 3 = false by kernel_rfl)
        · exact (show Tryz.prog.wantsStandIn 9 = false by kernel_rfl)
        · exact (show Tryz.prog.wantsStandIn 24 = false by kernel_rfl)
        · exact (show Tryz.prog.wantsStandIn 3 = false by kernel_rfl)
        · exact (show Tryz.prog.wantsStandIn 3 = false by kernel_rfl)⟩)
    (by kernel_rfl)
#print axioms proved
end Go.Proofs.YtfpaajoggbibnaaGreatDoor.innerBegins
