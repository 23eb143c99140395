/- The document's own step (chapter 9): ways of the switch (B). -/
import Derived.Test.YtcffbeihgchpgaaGreatDoorS20
import Derived.StillTailTactics
namespace Go.Proofs.YtcffbeihgchpgaaGreatDoor.Inn
open Go.RowKit Book Mem Mach
set_option linter.unusedVariables false
set_option linter.unusedSimpArgs false
section
variable {W w : World} {g x r : Nat} {ip hh i arg : Int} {st bk me : List Int} {ou inn : ByteArray} {rd stt cd : Int} {vs0 vb0 vm0 : Value} {so bo mo : Option Addr} {n nb nm sc bc mc : Nat} {p q r3 : Int}
set_option maxHeartbeats 8000000 in
set_option maxRecDepth 1000000 in
theorem way1_ok (h : Got W w g x r ip hh i st bk me ou inn rd stt cd vs0 vb0 vm0 so bo mo n nb nm sc bc mc p q r3) (hh0 : hh = (nb : Int)) (Q : Nat) (hQ : Q + 3 = nb) (hn48 : ¬ 48 ≤ n) :
    Way w g x r 1 arg n nb p q r3 (.slice so n sc) (TellsK vs0 vb0 vm0 ⟨ip, hh, st, bk, me, ou, inn, rd, stt, cd⟩ (exec 1 ⟨ip, hh, st, bk, me, ou, inn, rd, stt, cd⟩ i arg) W) := by
  have HGT := Lib.hid h
  have HS := Lib.hid h.sb
  have Lst := Lib.hid (And.intro h.hn h.l1)
  have Lbk := Lib.hid (And.intro h.hnb h.l2)
  subst hh0
  obtain ⟨gb, cb, eb, -⟩ := owns_slice h.sb.bk (by rw [h.hnb]; omega)
  simp only [Value.slice.injEq] at eb
  obtain ⟨rfl, -, rfl⟩ := eb
  have hlb : less bk 3 = bk.take Q := less_take h.hnb hQ
  have l2 := h.l2
  obtain ⟨u1, hu1⟩ : ∃ u, nth bk 1 = u := ⟨_, rfl⟩
  obtain ⟨Q1, hQ1⟩ : ∃ k, Q + 1 = k := ⟨_, rfl⟩
  have HU1 := Lib.hid (show bk[Q1]? = some u1 by rw [← hu1]; exact nth_get h.hnb (by omega))
  have x1 : (nb : Int) - 2 = (Q1 : Int) := by omega
  have y1 : (0 : Int) ≤ (Q1 : Int) := Int.natCast_nonneg _
  have z1 : (Q1 : Int) < (nb : Int) := by omega
  obtain ⟨u2, hu2⟩ : ∃ u, nth bk 2 = u := ⟨_, rfl⟩
  have HU2 := Lib.hid (show bk[Q]? = some u2 by rw [← hu2]; exact nth_get h.hnb (by omega))
  have x2 : (nb : Int) - 3 = (Q : Int) := by omega
  have y2 : (0 : Int) ≤ (Q : Int) := Int.natCast_nonneg _
  have z2 : (Q : Int) < (nb : Int) := by omega
  have yc : (0 : Int) ≤ (Q : Int) := Int.natCast_nonneg _
  rw [show exec 1 ⟨ip, (nb : Int), st, bk, me, ou, inn, rd, stt, cd⟩ i arg = (⟨u2, u1, st ++ [0], bk.take Q, me, ou, inn, rd, stt, cd⟩ : M) from by simp only [exec]; rw [if_neg (by rw [h.hnb]; omega), if_neg (by rw [h.hn]; exact hn48)]; simp only [hu1, hu2, hlb]]
  obtain ⟨i0, q1, q2, q3, q4⟩ := int_facts
  have HI := Lib.hid (And.intro q1 (And.intro q2 (And.intro q3 q4)))
  clear q1 q2 q3 q4
  have HQ := Lib.hid hQ
  clear hQ hu1 hu2
  clear h
  unfold Way
  intros
  conv => arg 2; whnf
  go_upto_region 61 with (first
    | (refine ld_int (by rfl) _ rfl _ rfl _ (whole_cell HS.out.hx rfl) ?_))
  have HS1 := Lib.hid (HS.out.set (whole_set HS.out.hx 0 (.int .i64 u2)) (Stirred.setCell w ⟨x, 0, none⟩ (.int .i64 u2)))
  have HS2 := Lib.hid (HS1.out.set (whole_set HS1.out.hx 1 (.int .i64 u1)) (Stirred.setCell (w.setCell ⟨x, 0, none⟩ (.int .i64 u2)) ⟨x, 1, none⟩ (.int .i64 u1)))
  have z0 := whole_frozen HS.out.hx 0
  have z1 := whole_frozen HS.out.hx 1
  have b0 : w.cell? ⟨x, 0, none⟩ = some (.int .i64 i) := whole_cell HS.out.hx rfl
  have b1 : w.cell? ⟨x, 1, none⟩ = some (.int .i64 (nb : Int)) := whole_cell HS.out.hx rfl
  have d3 : w.drew.cell? ⟨x, 3, none⟩ = some (.slice (some ⟨gb, 0, none⟩) nb bc) := whole_cell HS.out.hx rfl
  have d1 : w.drew.cell? ⟨gb, Q1, none⟩ = some (.int .i64 u1) := HS.out.atB HU1.out
  have d2 : w.drew.cell? ⟨gb, Q, none⟩ = some (.int .i64 u2) := HS.out.atB HU2.out
  have e3 : (w.setCell ⟨x, 0, none⟩ (.int .i64 u2)).cell? ⟨x, 3, none⟩ = some (.slice (some ⟨gb, 0, none⟩) nb bc) := whole_cell HS1.out.hx rfl
  have e1 := HS1.out.atB HU1.out
  have e2 := HS1.out.atB HU2.out
  have f3 : ((w.setCell ⟨x, 0, none⟩ (.int .i64 u2)).setCell ⟨x, 1, none⟩ (.int .i64 u1)).cell? ⟨x, 3, none⟩ = some (.slice (some ⟨gb, 0, none⟩) nb bc) := whole_cell HS2.out.hx rfl
  have f1 := HS2.out.atB HU1.out
  have f2 := HS2.out.atB HU2.out
  have r2 : IntKind.i64.wrap ((nb : Int) - 2) = (Q1 : Int) := (IntWalk.i64_in _ (by have := Lbk.out.2; omega)).trans x1
  have r3' : IntKind.i64.wrap ((nb : Int) - 3) = (Q : Int) := (IntWalk.i64_in _ (by have := Lbk.out.2; omega)).trans x2
  have X2 := Lib.hid x2
  clear x1 x2
  go_region_held3 (fun w' => w'.cell? ⟨x, 3, none⟩ = some (.slice (some ⟨gb, 0, none⟩) nb bc) ∧ w'.cell? ⟨gb, Q1, none⟩ = some (.int .i64 u1) ∧ w'.cell? ⟨gb, Q, none⟩ = some (.int .i64 u2))
    (first
      | with_reducible exact ⟨d3, d1, d2⟩
      | exact ⟨drewK e3, drewK e1, drewK e2⟩
      | exact ⟨drewK f3, drewK f1, drewK f2⟩)
    (fail)
  have HS := Lib.hid (HS2.out.below ((Below.refl _ _).drew))
  have x2 := X2.out
  clear HS1 HS2 z0 z1 b0 b1 d3 d1 d2 e3 e1 e2 f3 f1 f2 r2 r3'
  generalize ((w.setCell ⟨x, 0, none⟩ (.int .i64 u2)).setCell ⟨x, 1, none⟩ (.int .i64 u1)).drew = w3 at *
  go_wp2_with (first
    | (refine wpList_lit (by rfl) _ _ 1 _ rfl [0] i0 Tryz.underlying22 HI.out.1 HI.out.2.1 HI.out.2.2.1 (by simp) (by simp) rfl rfl ?_; intro gl wl hgl hol hbl; have HS := Lib.hid (HS.out.below hbl); have HOL := Lib.hid hol; clear hgl hol hbl)
    | (refine wpList_append_reads _ rfl _ _ 22 rfl W.heap.size 3 i0 (.int .i64 0) 8 Tryz.underlying22 HI.out.1 HI.out.2.1 HI.out.2.2.1 HI.out.2.2.2 rfl _ (vals (st)) rfl HS.out.st _ [0] rfl (Reads.of_owns HOL.out) (by rw [vals_length, Lst.out.1]; have := Lst.out.2; unfold maxLen; simp only [List.length_cons, List.length_nil]; omega) (by rw [vals_length, Lst.out.1]; have := Lst.out.2; simp only [List.length_cons, List.length_nil]; omega) HS.out.hb.size ?_; intro vs wn ho _ ht hnw; have HS := Lib.hid (HS.out.app1 (st' := st ++ [0]) (by rw [vals_append]; exact ho) ht hnw); obtain ⟨so, sc, ev⟩ := HS.out.st.slice; rw [vals_length, List.length_append, Lst.out.1] at ev; change vs = .slice so (n + 1) sc at ev; subst ev; have Lst := Lib.hid (And.intro (show (st ++ [0]).length = n + 1 by rw [List.length_append, Lst.out.1]; rfl) (show n + 1 ≤ 96 by have := Lst.out.2; omega)); clear ho ht hnw)
    | (refine ld_ints (by rfl) _ rfl _ rfl _ (whole_cell HS.out.hx rfl) ?_)
    | (refine wpList_slice_low (o := ⟨_, Op.slice _ _ _ _ none, _, _, _, _⟩) (by rfl) _ _ _ (by rfl) 3 Tryz.underlying22 Tryz.sizeOf3 (some ⟨gb, 0, none⟩) nb bc (bk) (by rfl) (ReadsC.of_owns HS.out.bk) Q (by rfl) (by rw [Lbk.out.1]; have := HQ.out; omega) ?_; have HS := Lib.hid (HS.out.cut2 (P := Q) (by rw [Lbk.out.1]; have := HQ.out; omega)); have Lbk := Lib.hid (And.intro (show (bk.take Q).length = Q by rw [List.length_take, Lbk.out.1]; have := HQ.out; omega) (show Q ≤ 48 by have := Lbk.out.2; have := HQ.out; omega)))
    | (refine st_ints (by rfl) _ _ rfl x _ rfl _ rfl rfl _ _ HS.out.hx (Nat.le_of_ble_eq_true rfl) ?_; intro wn hx ht; have HS := Lib.hid (HS.out.set hx ht); clear hx ht)
    | (refine ld_state (by rfl) _ rfl _ rfl _ _ HS.out.hx rfl ?_)
    | (refine st_state (by rfl) _ _ rfl r _ rfl rfl _ _ HS.out.hr rfl rfl (all_one rfl rfl rfl) ?_; intro wf hrf htf; have HRF := Lib.hid hrf; have HTF := Lib.hid htf; clear hrf htf))
  refine bodyPost_ret (results_cell_row rfl _ _ r _ _ _ _ rfl HRF.out Tryz.underlying24 rfl state_size) rfl ?_
  exact SB.gives (m := ⟨u2, u1, st ++ [0], bk.take Q, me, ou, inn, rd, stt, cd⟩) (vs := (.slice so (n + 1) sc)) (vb := (.slice (some ⟨gb, 0, none⟩) Q bc)) (vm := (.slice mo nm mc)) HS.out HTF.out
end
end Go.Proofs.YtcffbeihgchpgaaGreatDoor.Inn
/- The document's own step (chapter 9): ways of the switch (C). -/
namespace Go.Proofs.YtcffbeihgchpgaaGreatDoor.Inn
open Go.RowKit Book Mem Mach
set_option linter.unusedVariables false
set_option linter.unusedSimpArgs false
section
variable {W w : World} {g x r : Nat} {ip hh i arg : Int} {st bk me : List Int} {ou inn : ByteArray} {rd stt cd : Int} {vs0 vb0 vm0 : Value} {so bo mo : Option Addr} {n nb nm sc bc mc : Nat} {p q r3 : Int}
set_option maxHeartbeats 8000000 in
set_option maxRecDepth 1000000 in
theorem way32_ok (h : Got W w g x r ip hh i st bk me ou inn rd stt cd vs0 vb0 vm0 so bo mo n nb nm sc bc mc p q r3) (P : Nat) (hP : P + 2 = n) (J : Nat) (hJ : p = (J : Int)) (hJm : J < nm) :
    Way w g x r 32 arg n nb p q r3 (.slice so P sc) (TellsK vs0 vb0 vm0 ⟨ip, hh, st, bk, me, ou, inn, rd, stt, cd⟩ (exec 32 ⟨ip, hh, st, bk, me, ou, inn, rd, stt, cd⟩ i arg) W) := by
  have HGT := Lib.hid h
  have HS := Lib.hid (h.sb.cut1 (P := P) (by rw [h.hn]; omega))
  have Lst := Lib.hid (And.intro (less_take_length h.hn hP) (show P ≤ 48 by have := h.l1; omega))
  have hl : less st 2 = st.take P := less_take h.hn hP
  have Lbk := Lib.hid (And.intro h.hnb h.l2)
  obtain ⟨gm, cm, em, -⟩ := owns_slice h.sb.me (by rw [h.hnm]; omega)
  simp only [Value.slice.injEq] at em
  obtain ⟨rfl, -, rfl⟩ := em
  subst hJ
  obtain ⟨u, hu⟩ : ∃ u, me.getD J 0 = u := ⟨_, rfl⟩
  have HU := Lib.hid (show me[J]? = some u by rw [← hu, List.getD_eq_getElem?_getD, List.getElem?_eq_getElem (by rw [h.hnm]; exact hJm)]; rfl)
  have HJL := Lib.hid (show J < me.length by rw [h.hnm]; exact hJm)
  have hcond : ¬ ((J : Int) < 0 ∨ ((me.length : Nat) : Int) ≤ (J : Int)) := by rw [h.hnm]; omega
  have y0 : (0 : Int) ≤ (J : Int) := Int.natCast_nonneg _
  have y1 : (J : Int) < (nm : Int) := by omega
  have l3 := h.l3
  rw [show exec 32 ⟨ip, hh, st, bk, me, ou, inn, rd, stt, cd⟩ i arg = (⟨i, hh, st.take P, bk, me.set J (wrap64 (u + q)), ou, inn, rd, stt, cd⟩ : M) from by simp only [exec, h.hp, h.hq, h.hr, if_neg hcond, hl, Int.toNat_natCast, hu]]
  obtain ⟨i0, q1, q2, q3, q4⟩ := int_facts
  have HI := Lib.hid (And.intro q1 (And.intro q2 (And.intro q3 q4)))
  clear q1 q2 q3 q4
  clear hP hcond
  clear h
  unfold Way
  intros
  conv => arg 2; whnf
  go_upto_region 92 with (first
    | (refine ld_ints (by rfl) _ rfl _ rfl _ (whole_cell HS.out.hx rfl) ?_)
    | (refine st_ints (by rfl) _ _ rfl x _ rfl _ rfl rfl _ _ HS.out.hx (Nat.le_of_ble_eq_true rfl) ?_; intro wn hx ht; have HS := Lib.hid (HS.out.set hx ht); clear hx ht))
  have HS := Lib.hid (HS.out.below (Below.refl _ _).drew)
  have k4 := whole_cell (j := 4) HS.out.hx rfl
  have kJ := HS.out.atM HU.out
  go_still_tail 11, (by kernel_rfl)
  clear k4 kJ
  have HWR := Lib.hid (show IntKind.i64.wrap (u + q) = wrap64 (u + q) from by unfold wrap64; exact IntKind.wrap_i64 _)
  go_wp2_with (first
    | (refine st_cell (by rfl) _ _ rfl gm J rfl _ rfl _ (HS.out.atM HU.out) (HS.out.frM HJL.out) ?_; intro wn hwn; have HS := Lib.hid (show SB W g x r _ _ _ _ _ _ _ (me.set J (wrap64 (u + q))) wn by rw [hwn, HWR.out]; exact HS.out.setM (by have := HJL.out; omega) J _); clear hwn)
    | (refine ld_state (by rfl) _ rfl _ rfl _ _ HS.out.hx rfl ?_)
    | (refine st_state (by rfl) _ _ rfl r _ rfl rfl _ _ HS.out.hr rfl rfl (all_one rfl rfl rfl) ?_; intro wf hrf htf; have HRF := Lib.hid hrf; have HTF := Lib.hid htf; clear hrf htf))
  refine bodyPost_ret (results_cell_row rfl _ _ r _ _ _ _ rfl HRF.out Tryz.underlying24 rfl state_size) rfl ?_
  exact SB.gives (m := ⟨i, hh, st.take P, bk, me.set J (wrap64 (u + q)), ou, inn, rd, stt, cd⟩) (vs := (.slice so P sc)) (vb := (.slice bo nb bc)) (vm := (.slice (some ⟨gm, 0, none⟩) nm mc)) HS.out HTF.out
end
end Go.Proofs.YtcffbeihgchpgaaGreatDoor.Inn
