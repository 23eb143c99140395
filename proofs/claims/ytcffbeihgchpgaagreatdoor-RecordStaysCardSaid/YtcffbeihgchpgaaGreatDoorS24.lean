/- The document's own step (chapter 9): ways of the switch (7). -/
import Derived.Test.YtcffbeihgchpgaaGreatDoorS20
namespace Go.Proofs.YtcffbeihgchpgaaGreatDoor.Inn
open Go.RowKit Book Mem Mach
set_option linter.unusedVariables false
set_option linter.unusedSimpArgs false
section
variable {W w : World} {g x r : Nat} {ip hh i arg : Int} {st bk me : List Int} {ou inn : ByteArray} {rd stt cd : Int} {vs0 vb0 vm0 : Value} {so bo mo : Option Addr} {n nb nm sc bc mc : Nat} {p q r3 : Int}
set_option maxHeartbeats 8000000 in
set_option maxRecDepth 1000000 in
theorem way37_end (h : Got W w g x r ip hh i st bk me ou inn rd stt cd vs0 vb0 vm0 so bo mo n nb nm sc bc mc p q r3) (Q : Nat) (hQ : Q + 2 = nb) {u0 u1 : Int} (hu0 : nth bk 0 = u0) (hu1 : nth bk 1 = u1) (he : wrap64 (u0 + 1) = u1) :
    Way w g x r 37 arg n nb p q r3 (.slice so n sc) (TellsK vs0 vb0 vm0 ⟨ip, hh, st, bk, me, ou, inn, rd, stt, cd⟩ (exec 37 ⟨ip, hh, st, bk, me, ou, inn, rd, stt, cd⟩ i arg) W) := by
  have HGT := Lib.hid h
  have HS := Lib.hid h.sb
  have Lst := Lib.hid (And.intro h.hn h.l1)
  have Lbk := Lib.hid (And.intro h.hnb h.l2)
  obtain ⟨gb, cb, eb, -⟩ := owns_slice h.sb.bk (by rw [h.hnb]; omega)
  simp only [Value.slice.injEq] at eb
  obtain ⟨rfl, -, rfl⟩ := eb
  have hlb : less bk 2 = bk.take Q := less_take h.hnb hQ
  have l2 := h.l2
  obtain ⟨Q1, hQ1⟩ : ∃ k, Q + 1 = k := ⟨_, rfl⟩
  have HU0 := Lib.hid (show bk[Q1]? = some u0 by rw [← hu0]; exact nth_get h.hnb (by omega))
  have x0 : (nb : Int) - 1 = (Q1 : Int) := by omega
  have y0 : (0 : Int) ≤ (Q1 : Int) := Int.natCast_nonneg _
  have z0 : (Q1 : Int) < (nb : Int) := by omega
  have HU1 := Lib.hid (show bk[Q]? = some u1 by rw [← hu1]; exact nth_get h.hnb (by omega))
  have x1 : (nb : Int) - 2 = (Q : Int) := by omega
  have y1 : (0 : Int) ≤ (Q : Int) := Int.natCast_nonneg _
  have z1 : (Q : Int) < (nb : Int) := by omega
  have yc : (0 : Int) ≤ (Q : Int) := Int.natCast_nonneg _
  have hset : less bk 1 ++ [wrap64 (u0 + 1)] = bk.set Q1 (wrap64 (u0 + 1)) := by
    have hl1 : less bk 1 = bk.take Q1 := less_take h.hnb (by omega)
    rw [hl1]
    exact take_set (by rw [h.hnb]; omega) _
  have HQL := Lib.hid (show Q1 < bk.length by rw [h.hnb]; omega)
  rw [show exec 37 ⟨ip, hh, st, bk, me, ou, inn, rd, stt, cd⟩ i arg = (⟨i, hh, st, bk.take Q, me, ou, inn, rd, stt, cd⟩ : M) from by simp only [exec, h.hp, hu0, hu1, if_pos he, hlb]]
  clear hset hu0 hu1
  obtain ⟨i0, q1, q2, q3, q4⟩ := int_facts
  have HI := Lib.hid (And.intro q1 (And.intro q2 (And.intro q3 q4)))
  clear q1 q2 q3 q4
  have HQ := Lib.hid hQ
  clear hQ
  clear h
  unfold Way
  intros
  conv => arg 2; whnf
  go_upto_region 114 with (first
    | (refine st_ints (by rfl) _ _ rfl x _ rfl _ rfl rfl _ _ HS.out.hx (Nat.le_of_ble_eq_true rfl) ?_; intro wn hx ht; have HS := Lib.hid (HS.out.set hx ht); clear hx ht)
    | (refine ld_state (by rfl) _ rfl _ rfl _ _ HS.out.hx rfl ?_))
  have k3 := whole_cell (j := 3) HS.out.hx rfl
  have k30 := HS.out.atB HU0.out
  have k31 := HS.out.atB HU1.out
  go_quiet (fail)
  have HS := Lib.hid (HS.out.drewN nq)
  clear k3 k30 k31
  go_wp2_with (first
    | (refine ld_ints (by rfl) _ rfl _ rfl _ (whole_cell HS.out.hx rfl) ?_)
    | (refine wpList_slice_low (o := ⟨_, Op.slice _ _ _ _ none, _, _, _, _⟩) (by rfl) _ _ _ (by rfl) 3 Tryz.underlying22 Tryz.sizeOf3 (some ⟨gb, 0, none⟩) nb bc (bk) (by rfl) (ReadsC.of_owns HS.out.bk) Q (by rfl) (by rw [Lbk.out.1]; have := HQ.out; omega) ?_; have HS := Lib.hid (HS.out.cut2 (P := Q) (by rw [Lbk.out.1]; have := HQ.out; omega)); have Lbk := Lib.hid (And.intro (show (bk.take Q).length = Q by rw [List.length_take, Lbk.out.1]; have := HQ.out; omega) (show Q ≤ 48 by have := Lbk.out.2; have := HQ.out; omega)))
    | (refine st_ints (by rfl) _ _ rfl x _ rfl _ rfl rfl _ _ HS.out.hx (Nat.le_of_ble_eq_true rfl) ?_; intro wn hx ht; have HS := Lib.hid (HS.out.set hx ht); clear hx ht)
    | (refine ld_state (by rfl) _ rfl _ rfl _ _ HS.out.hx rfl ?_)
    | (refine st_state (by rfl) _ _ rfl r _ rfl rfl _ _ HS.out.hr rfl rfl (all_one rfl rfl rfl) ?_; intro wf hrf htf; have HRF := Lib.hid hrf; have HTF := Lib.hid htf; clear hrf htf))
  refine bodyPost_ret (results_cell_row rfl _ _ r _ _ _ _ rfl HRF.out Tryz.underlying24 rfl state_size) rfl ?_
  exact SB.gives (m := ⟨i, hh, st, bk.take Q, me, ou, inn, rd, stt, cd⟩) (vs := (.slice so n sc)) (vb := (.slice (some ⟨gb, 0, none⟩) Q bc)) (vm := (.slice mo nm mc)) HS.out HTF.out
set_option maxHeartbeats 8000000 in
set_option maxRecDepth 1000000 in
theorem way37_on (h : Got W w g x r ip hh i st bk me ou inn rd stt cd vs0 vb0 vm0 so bo mo n nb nm sc bc mc p q r3) (Q : Nat) (hQ : Q + 2 = nb) {u0 u1 : Int} (hu0 : nth bk 0 = u0) (hu1 : nth bk 1 = u1) (he : ¬ wrap64 (u0 + 1) = u1) :
    Way w g x r 37 arg n nb p q r3 (.slice so n sc) (TellsK vs0 vb0 vm0 ⟨ip, hh, st, bk, me, ou, inn, rd, stt, cd⟩ (exec 37 ⟨ip, hh, st, bk, me, ou, inn, rd, stt, cd⟩ i arg) W) := by
  have HGT := Lib.hid h
  have HS := Lib.hid h.sb
  have Lst := Lib.hid (And.intro h.hn h.l1)
  have Lbk := Lib.hid (And.intro h.hnb h.l2)
  obtain ⟨gb, cb, eb, -⟩ := owns_slice h.sb.bk (by rw [h.hnb]; omega)
  simp only [Value.slice.injEq] at eb
  obtain ⟨rfl, -, rfl⟩ := eb
  have hlb : less bk 2 = bk.take Q := less_take h.hnb hQ
  have l2 := h.l2
  obtain ⟨Q1, hQ1⟩ : ∃ k, Q + 1 = k := ⟨_, rfl⟩
  have HU0 := Lib.hid (show bk[Q1]? = some u0 by rw [← hu0]; exact nth_get h.hnb (by omega))
  have x0 : (nb : Int) - 1 = (Q1 : Int) := by omega
  have y0 : (0 : Int) ≤ (Q1 : Int) := Int.natCast_nonneg _
  have z0 : (Q1 : Int) < (nb : Int) := by omega
  have HU1 := Lib.hid (show bk[Q]? = some u1 by rw [← hu1]; exact nth_get h.hnb (by omega))
  have x1 : (nb : Int) - 2 = (Q : Int) := by omega
  have y1 : (0 : Int) ≤ (Q : Int) := Int.natCast_nonneg _
  have z1 : (Q : Int) < (nb : Int) := by omega
  have yc : (0 : Int) ≤ (Q : Int) := Int.natCast_nonneg _
  have hset : less bk 1 ++ [wrap64 (u0 + 1)] = bk.set Q1 (wrap64 (u0 + 1)) := by
    have hl1 : less bk 1 = bk.take Q1 := less_take h.hnb (by omega)
    rw [hl1]
    exact take_set (by rw [h.hnb]; omega) _
  have HQL := Lib.hid (show Q1 < bk.length by rw [h.hnb]; omega)
  rw [show exec 37 ⟨ip, hh, st, bk, me, ou, inn, rd, stt, cd⟩ i arg = (⟨arg, hh, st, bk.set Q1 (wrap64 (u0 + 1)), me, ou, inn, rd, stt, cd⟩ : M) from by simp only [exec, h.hp, hu0, hu1, if_neg he, hset]]
  clear hset hu0 hu1
  obtain ⟨i0, q1, q2, q3, q4⟩ := int_facts
  have HI := Lib.hid (And.intro q1 (And.intro q2 (And.intro q3 q4)))
  clear q1 q2 q3 q4
  have HQ := Lib.hid hQ
  clear hQ
  clear h
  unfold Way
  intros
  conv => arg 2; whnf
  go_upto_region 114 with (first
    | (refine st_ints (by rfl) _ _ rfl x _ rfl _ rfl rfl _ _ HS.out.hx (Nat.le_of_ble_eq_true rfl) ?_; intro wn hx ht; have HS := Lib.hid (HS.out.set hx ht); clear hx ht)
    | (refine ld_state (by rfl) _ rfl _ rfl _ _ HS.out.hx rfl ?_))
  have k3 := whole_cell (j := 3) HS.out.hx rfl
  have k30 := HS.out.atB HU0.out
  have k31 := HS.out.atB HU1.out
  go_quiet (fail)
  have HS := Lib.hid (HS.out.drewN nq)
  clear k3 k30 k31
  go_wp2_with (first
    | (refine ld_ints (by rfl) _ rfl _ rfl _ (whole_cell HS.out.hx rfl) ?_)
    | (refine st_cell (by rfl) _ _ rfl gb Q1 rfl _ rfl _ (HS.out.atB HU0.out) (HS.out.frB HQL.out) ?_; intro wn hwn; have HS := Lib.hid (show SB W g x r _ _ _ _ _ _ (bk.set Q1 (wrap64 (u0 + 1))) _ wn by rw [hwn]; exact HS.out.setB (by have := HQL.out; omega) Q1 _); clear hwn)
    | (refine st_ints (by rfl) _ _ rfl x _ rfl _ rfl rfl _ _ HS.out.hx (Nat.le_of_ble_eq_true rfl) ?_; intro wn hx ht; have HS := Lib.hid (HS.out.set hx ht); clear hx ht)
    | (refine st_int (by rfl) _ _ rfl x _ rfl _ rfl rfl _ _ HS.out.hx (Nat.le_of_ble_eq_true rfl) ?_; intro wn hx ht; have HS := Lib.hid (HS.out.set hx ht); clear hx ht)
    | (refine ld_state (by rfl) _ rfl _ rfl _ _ HS.out.hx rfl ?_)
    | (refine st_state (by rfl) _ _ rfl r _ rfl rfl _ _ HS.out.hr rfl rfl (all_one rfl rfl rfl) ?_; intro wf hrf htf; have HRF := Lib.hid hrf; have HTF := Lib.hid htf; clear hrf htf))
  refine bodyPost_ret (results_cell_row rfl _ _ r _ _ _ _ rfl HRF.out Tryz.underlying24 rfl state_size) rfl ?_
  exact SB.gives (m := ⟨arg, hh, st, bk.set Q1 (wrap64 (u0 + 1)), me, ou, inn, rd, stt, cd⟩) (vs := (.slice so n sc)) (vb := (.slice (some ⟨gb, 0, none⟩) nb bc)) (vm := (.slice mo nm mc)) HS.out HTF.out
end
end Go.Proofs.YtcffbeihgchpgaaGreatDoor.Inn
