/- Machines held against each other; lent; laid into a book. -/
import Derived.Test.YtcffbeihgchpgaaGreatDoorG4
import Derived.Test.YtcffbeihgchpgaaGreatDoorG23
import Derived.Deep.DeepCutAuto
namespace Go.Proofs.YtcffbeihgchpgaaGreatDoor.Mach
open Go.RowKit Book Mem
set_option linter.unusedVariables false
set_option linter.unusedSimpArgs false
/-- two new boxes -/
theorem two_boxes2 (w : World) (cs cs' : Array Value) : ∃ w1 w2 g r, w.alloc (.cells cs 24) = w1 ∧ w1.alloc (.cells cs' 24) = w2 ∧ w.heap.size = g ∧ w1.heap.size = r ∧
    Hid (w2.heap[g]? = some (.cells cs 24 (0, 0))) ∧ Hid (w2.heap[r]? = some (.cells cs' 24 (0, 0))) ∧ Hid (Below w.heap.size w w2) ∧ Hid (g < r) ∧ Hid (w.heap.size = g) := by
  have hb1 := (Below.refl w.heap.size w).alloc (Nat.le_refl _) (.cells cs 24)
  have hn1 := heap_alloc_new w (.cells cs 24)
  have hb2 := (Below.refl (w.alloc (.cells cs 24)).heap.size (w.alloc (.cells cs 24))).alloc (Nat.le_refl _) (.cells cs' 24)
  have hn2 := heap_alloc_new (w.alloc (.cells cs 24)) (.cells cs' 24)
  exact ⟨_, _, _, _, rfl, rfl, rfl, rfl, (Stirred.of_below hb2 []).whole hn1 List.not_mem_nil, hn2, hb1.trans (hb2.mono hb1.size), whole_lt hn1, rfl⟩
set_option maxHeartbeats 8000000 in
set_option maxRecDepth 100000 in
theorem sameState_any {w : World} {v v' : Value} {m : M} (h : ReadsM w v m) (h' : ReadsM w v' m) (h1 : m.stack.length ≤ 10000) (h2 : m.back.length ≤ 10000) (h3 : m.mem.length ≤ 10000) :
    Calls Tryz.prog 23 #[v, v'] w (Says (.bool true) w) := by
  obtain ⟨vs, vb, vm, rfl, hs, hb, hm⟩ := h
  obtain ⟨vs', vb', vm', rfl, hs', hb', hm'⟩ := h'
  obtain ⟨ip, hh, st, bk, me, ou, inn, rd, stt, cd⟩ := m
  simp only at hs hb hm hs' hb' hm' h1 h2 h3 ⊢
  have C1 := Lib.hid (fun wc (hbw : Below w.heap.size w wc) => sameReads_any vs vs' st wc (hs.1.below hbw) (hs'.1.below hbw) (by omega))
  have C2 := Lib.hid (fun wc (hbw : Below w.heap.size w wc) => sameReads_any vb vb' bk wc (hb.1.below hbw) (hb'.1.below hbw) (by omega))
  have C3 := Lib.hid (fun wc (hbw : Below w.heap.size w wc) => sameReads_any vm vm' me wc (hm.1.below hbw) (hm'.1.below hbw) (by omega))
  obtain ⟨w1, w2, g, r, hw1, hw2, hg, hr, HG, HR, HB, HZ, HW⟩ := two_boxes2 w (cells10 ip hh vs vb vm ou inn rd stt cd) (cells10 ip hh vs' vb' vm' ou inn rd stt cd)
  have e1 : (ou.toList == ou.toList) = true := beq_self_eq_true _
  have e2 : (inn.toList == inn.toList) = true := beq_self_eq_true _
  clear hs hb hm hs' hb' hm' h1 h2 h3
  go_enter Tryz.func23, Tryz.ntmps23
  simp only [List.append_eq, List.cons_append, List.nil_append]
  go_wp2_with (first
    | (refine ld_int (by rfl) _ rfl _ rfl _ (whole_cell HG.out rfl) ?_)
    | (refine ld_int (by rfl) _ rfl _ rfl _ (whole_cell HR.out rfl) ?_)
    | (refine ld_ints (by rfl) _ rfl _ rfl _ (whole_cell HG.out rfl) ?_)
    | (refine ld_ints (by rfl) _ rfl _ rfl _ (whole_cell HR.out rfl) ?_)
    | (refine ld_str (by rfl) _ rfl _ rfl _ (whole_cell HG.out rfl) ?_)
    | (refine ld_str (by rfl) _ rfl _ rfl _ (whole_cell HR.out rfl) ?_)
    | (go_at_call 21; (with_reducible refine (C1.out _ HB.out).mono ?_); rintro e wn ⟨rfl, q, hq⟩; have HB := Lib.hid (show Below w.heap.size w wn by rw [hq]; exact HB.out.trans (bk_below_drewN _ _ _)); have HG := Lib.hid (show wn.heap[g]? = some (.cells (cells10 ip hh vs vb vm ou inn rd stt cd) 24 (0, 0)) by rw [hq]; exact HG.out); have HR := Lib.hid (show wn.heap[r]? = some (.cells (cells10 ip hh vs' vb' vm' ou inn rd stt cd) 24 (0, 0)) by rw [hq]; exact HR.out); clear hq)
    | (go_at_call 21; (with_reducible refine (C2.out _ HB.out).mono ?_); rintro e wn ⟨rfl, q, hq⟩; have HB := Lib.hid (show Below w.heap.size w wn by rw [hq]; exact HB.out.trans (bk_below_drewN _ _ _)); have HG := Lib.hid (show wn.heap[g]? = some (.cells (cells10 ip hh vs vb vm ou inn rd stt cd) 24 (0, 0)) by rw [hq]; exact HG.out); have HR := Lib.hid (show wn.heap[r]? = some (.cells (cells10 ip hh vs' vb' vm' ou inn rd stt cd) 24 (0, 0)) by rw [hq]; exact HR.out); clear hq)
    | (go_at_call 21; (with_reducible refine (C3.out _ HB.out).mono ?_); rintro e wn ⟨rfl, q, hq⟩; have HB := Lib.hid (show Below w.heap.size w wn by rw [hq]; exact HB.out.trans (bk_below_drewN _ _ _)); have HG := Lib.hid (show wn.heap[g]? = some (.cells (cells10 ip hh vs vb vm ou inn rd stt cd) 24 (0, 0)) by rw [hq]; exact HG.out); have HR := Lib.hid (show wn.heap[r]? = some (.cells (cells10 ip hh vs' vb' vm' ou inn rd stt cd) 24 (0, 0)) by rw [hq]; exact HR.out); clear hq))
  go_ret
  exact ⟨rfl, HB.out⟩
end Go.Proofs.YtcffbeihgchpgaaGreatDoor.Mach
