/- The document's own step (chapter 9): ways of the switch (D). -/
import Derived.Test.YtcffbeihgchpgaaGreatDoorS20
namespace Go.Proofs.YtcffbeihgchpgaaGreatDoor.Inn
open Go.RowKit Book Mem Mach
set_option linter.unusedVariables false
set_option linter.unusedSimpArgs false
section
variable {W w : World} {g x r : Nat} {ip hh i arg : Int} {st bk me : List Int} {ou inn : ByteArray} {rd stt cd : Int} {vs0 vb0 vm0 : Value} {so bo mo : Option Addr} {n nb nm sc bc mc : Nat} {p q r3 : Int}
set_option maxHeartbeats 8000000 in
set_option maxRecDepth 1000000 in
theorem way46 (h : Got W w g x r ip hh i st bk me ou inn rd stt cd vs0 vb0 vm0 so bo mo n nb nm sc bc mc p q r3) (P : Nat) (hP : P + 1 = n) :
    Way w g x r 46 arg n nb p q r3 (.slice so P sc) (TellsK vs0 vb0 vm0 ⟨ip, hh, st, bk, me, ou, inn, rd, stt, cd⟩ (exec 46 ⟨ip, hh, st, bk, me, ou, inn, rd, stt, cd⟩ i arg) W) := by
  have HGT := Lib.hid h
  have HS := Lib.hid (h.sb.cut1 (P := P) (by rw [h.hn]; omega))
  have Lst := Lib.hid (And.intro (less_take_length h.hn hP) (show P ≤ 48 by have := h.l1; omega))
  have hl : less st 1 = st.take P := less_take h.hn hP
  have Lbk := Lib.hid (And.intro h.hnb h.l2)
  rw [show exec 46 ⟨ip, hh, st, bk, me, ou, inn, rd, stt, cd⟩ i arg = (⟨p, ((nb : Int) + 3), st.take P, bk ++ [i, hh, (P : Int), 1], me, ou, inn, rd, stt, cd⟩ : M) from by simp only [exec, h.hp, hl, Lst.out.1, h.hnb]]
  obtain ⟨i0, q1, q2, q3, q4⟩ := int_facts
  have HI := Lib.hid (And.intro q1 (And.intro q2 (And.intro q3 q4)))
  clear q1 q2 q3 q4
  clear hP
  clear h
  unfold Way
  intros
  conv => arg 2; whnf
  go_wp2_with (first
    | (refine wpList_lit (by rfl) _ _ 3 _ rfl [i, hh, (P : Int)] i0 Tryz.underlying22 HI.out.1 HI.out.2.1 HI.out.2.2.1 (by simp) (by simp) rfl rfl ?_; intro gl wl hgl hol hbl; have HS := Lib.hid (HS.out.below hbl); have HOL := Lib.hid hol; clear hgl hol hbl)
    | (refine wpList_append_reads _ rfl _ _ 22 rfl W.heap.size 3 i0 (.int .i64 0) 8 Tryz.underlying22 HI.out.1 HI.out.2.1 HI.out.2.2.1 HI.out.2.2.2 rfl _ (vals (bk)) rfl HS.out.bk _ [i, hh, (P : Int)] rfl (Reads.of_owns HOL.out) (by rw [vals_length, Lbk.out.1]; have := Lbk.out.2; unfold maxLen; simp only [List.length_cons, List.length_nil]; omega) (by rw [vals_length, Lbk.out.1]; have := Lbk.out.2; simp only [List.length_cons, List.length_nil]; omega) HS.out.hb.size ?_; intro vb wn ho _ ht hnw; have HS := Lib.hid (HS.out.app2 (st' := bk ++ [i, hh, (P : Int)]) (by rw [vals_append]; exact ho) ht hnw); obtain ⟨bo, bc, ev⟩ := HS.out.bk.slice; rw [vals_length, List.length_append, Lbk.out.1] at ev; change vb = .slice bo (nb + 3) bc at ev; subst ev; have Lbk := Lib.hid (And.intro (show (bk ++ [i, hh, (P : Int)]).length = nb + 3 by rw [List.length_append, Lbk.out.1]; rfl) (show nb + 3 ≤ 90 by have := Lbk.out.2; omega)); clear ho ht hnw)
    | (refine wpList_lit (by rfl) _ _ 1 _ rfl [1] i0 Tryz.underlying22 HI.out.1 HI.out.2.1 HI.out.2.2.1 (by simp) (by simp) rfl rfl ?_; intro gl wl hgl hol hbl; have HS := Lib.hid (HS.out.below hbl); have HOL := Lib.hid hol; clear hgl hol hbl)
    | (refine wpList_append_reads _ rfl _ _ 22 rfl W.heap.size 3 i0 (.int .i64 0) 8 Tryz.underlying22 HI.out.1 HI.out.2.1 HI.out.2.2.1 HI.out.2.2.2 rfl _ (vals (bk ++ [i, hh, (P : Int)])) rfl HS.out.bk _ [1] rfl (Reads.of_owns HOL.out) (by rw [vals_length, Lbk.out.1]; have := Lbk.out.2; unfold maxLen; simp only [List.length_cons, List.length_nil]; omega) (by rw [vals_length, Lbk.out.1]; have := Lbk.out.2; simp only [List.length_cons, List.length_nil]; omega) HS.out.hb.size ?_; intro vz wn ho _ ht hnw; have HS := Lib.hid (HS.out.app2 (st' := bk ++ [i, hh, (P : Int)] ++ [1]) (by rw [vals_append]; exact ho) ht hnw); obtain ⟨zo, zc, ev⟩ := HS.out.bk.slice; rw [vals_length, List.length_append, Lbk.out.1] at ev; change vz = .slice zo ((nb + 3) + 1) zc at ev; subst ev; have Lbk := Lib.hid (And.intro (show (bk ++ [i, hh, (P : Int)] ++ [1]).length = (nb + 3) + 1 by rw [List.length_append, Lbk.out.1]; rfl) (show (nb + 3) + 1 ≤ 96 by have := Lbk.out.2; omega)); clear ho ht hnw)
    | (refine ld_int (by rfl) _ rfl _ rfl _ (whole_cell HS.out.hx rfl) ?_)
    | (refine ld_ints (by rfl) _ rfl _ rfl _ (whole_cell HS.out.hx rfl) ?_)
    | (refine st_ints (by rfl) _ _ rfl x _ rfl _ rfl rfl _ _ HS.out.hx (Nat.le_of_ble_eq_true rfl) ?_; intro wn hx ht; have HS := Lib.hid (HS.out.set hx ht); clear hx ht)
    | (refine st_int (by rfl) _ _ rfl x _ rfl _ rfl rfl _ _ HS.out.hx (Nat.le_of_ble_eq_true rfl) ?_; intro wn hx ht; have HS := Lib.hid (HS.out.set hx ht); clear hx ht)
    | (refine ld_state (by rfl) _ rfl _ rfl _ _ HS.out.hx rfl ?_)
    | (refine st_state (by rfl) _ _ rfl r _ rfl rfl _ _ HS.out.hr rfl rfl (all_one rfl rfl rfl) ?_; intro wf hrf htf; have HRF := Lib.hid hrf; have HTF := Lib.hid htf; clear hrf htf))
  refine bodyPost_ret (results_cell_row rfl _ _ r _ _ _ _ rfl HRF.out Tryz.underlying24 rfl state_size) rfl ?_
  have hq := HS.out
  rw [List.append_assoc] at hq
  exact SB.gives (m := ⟨p, ((nb : Int) + 3), st.take P, bk ++ [i, hh, (P : Int), 1], me, ou, inn, rd, stt, cd⟩) (vs := (.slice so P sc)) (vb := (.slice zo (nb + 3 + 1) zc)) (vm := (.slice mo nm mc)) hq HTF.out
end
end Go.Proofs.YtcffbeihgchpgaaGreatDoor.Inn
