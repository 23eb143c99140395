/- The document's own step (chapter 9): the head. -/
import Derived.Test.YtcffbeihgchpgaaGreatDoorS29
namespace Go.Proofs.YtcffbeihgchpgaaGreatDoor.Inn
open Go.RowKit Book Mem Mach
set_option linter.unusedVariables false
set_option linter.unusedSimpArgs false
section
variable {W w : World} {g x r : Nat} {ip hh i arg : Int} {st bk me : List Int} {ou inn : ByteArray} {rd stt cd : Int} {vs0 vb0 vm0 : Value} {so bo mo : Option Addr} {n nb nm sc bc mc : Nat}
set_option maxHeartbeats 8000000 in
set_option maxRecDepth 1000000 in
theorem head_low (hS : SB W g x r (cells10 ip hh vs0 vb0 vm0 ou inn rd stt cd) (cells10 ip hh (.slice so n sc) (.slice bo nb bc) (.slice mo nm mc) ou inn rd stt cd) (.slice so n sc) (.slice bo nb bc) (.slice mo nm mc) st bk me w) (hn : st.length = n) (hnb : bk.length = nb) (hnm : me.length = nm) (l1 : n ≤ 48) (l2 : nb ≤ 48) (l3 : nm ≤ 3000) (rs : ReadsC W vs0 st) (rb : ReadsC W vb0 bk) (rm : ReadsC W vm0 me) (rd0 : 0 ≤ rd) (rd1 : rd ≤ (inn.size : Int)) (ou1 : ou.size ≤ 2000) (in1 : inn.size ≤ maxLen) (cl : Cells ⟨ip, hh, st, bk, me, ou, inn, rd, stt, cd⟩) (c1 : ip < 0) :
    AtH 4 w g x r (TellsK vs0 vb0 vm0 ⟨ip, hh, st, bk, me, ou, inn, rd, stt, cd⟩ (Mach.fault ⟨ip, hh, st, bk, me, ou, inn, rd, stt, cd⟩ (-9)) W) := by
  have HS := Lib.hid hS
  have HGH := Lib.hid (And.intro hn (And.intro hnb hnm))
  have HRD := Lib.hid (And.intro rs (And.intro rb rm))
  have FT0 : ∀ code, Hid (∀ wc, Below W.heap.size W wc → _) := fun code => Lib.hid (fun wc (hw : Below W.heap.size W wc) => refFault_told (m := ⟨ip, hh, st, bk, me, ou, inn, rd, stt, cd⟩) rs rb rm (by show bk.length ≤ 48; rw [hnb]; exact l2) (by show st.length ≤ 48; rw [hn]; exact l1) hw code)
  have HLOW := Lib.hid hS.low.2
  have FT := FT0 (-9)
  have Lbk := Lib.hid (And.intro hnb l2)
  obtain ⟨i0, q1, q2, q3, q4⟩ := int_facts
  have HI := Lib.hid (And.intro q1 (And.intro q2 (And.intro q3 q4)))
  clear q1 q2 q3 q4
  clear hS hn hnb hnm rs rb rm cl rd0 rd1 ou1 in1 FT0
  unfold AtH
  intros
  conv => arg 2; whnf
  go_wp2_with (first
    | (refine ld_int (by rfl) _ rfl _ rfl _ (whole_cell HS.out.hx rfl) ?_)
    | (refine ld_ints (by rfl) _ rfl _ rfl _ (whole_cell HS.out.hx rfl) ?_)
    | (refine ld_state (by rfl) _ rfl _ rfl _ _ HS.out.hg rfl ?_)
    | (go_at_call 50; refine (FT.out _ HS.out.hb).mono ?_; rintro e wn ⟨s1, n1, c1', s2, n2, c2', s3, n3, c3', rfl, hk, hb⟩; have HKM := Lib.hid hk; have HRR := Lib.hid (boxOn HS.out.hr hb); clear hk hb)
    | (refine st_state (by rfl) _ _ rfl r _ rfl rfl _ _ HRR.out rfl rfl (all_one rfl rfl rfl) ?_; intro wf hrf htf; have HRF := Lib.hid hrf; have HTF := Lib.hid htf; clear hrf htf))
  refine bodyPost_ret (results_cell_row rfl _ _ r _ _ _ _ rfl HRF.out Tryz.underlying24 rfl state_size) rfl ?_
  exact KinM.box HKM.out HRR.out HLOW.out HTF.out
set_option maxHeartbeats 8000000 in
set_option maxRecDepth 1000000 in
theorem head_high (hS : SB W g x r (cells10 ip hh vs0 vb0 vm0 ou inn rd stt cd) (cells10 ip hh (.slice so n sc) (.slice bo nb bc) (.slice mo nm mc) ou inn rd stt cd) (.slice so n sc) (.slice bo nb bc) (.slice mo nm mc) st bk me w) (hn : st.length = n) (hnb : bk.length = nb) (hnm : me.length = nm) (l1 : n ≤ 48) (l2 : nb ≤ 48) (l3 : nm ≤ 3000) (rs : ReadsC W vs0 st) (rb : ReadsC W vb0 bk) (rm : ReadsC W vm0 me) (rd0 : 0 ≤ rd) (rd1 : rd ≤ (inn.size : Int)) (ou1 : ou.size ≤ 2000) (in1 : inn.size ≤ maxLen) (cl : Cells ⟨ip, hh, st, bk, me, ou, inn, rd, stt, cd⟩) (c0 : ¬ ip < 0) (c1 : (nm : Int) ≤ ip) :
    AtH 4 w g x r (TellsK vs0 vb0 vm0 ⟨ip, hh, st, bk, me, ou, inn, rd, stt, cd⟩ (Mach.fault ⟨ip, hh, st, bk, me, ou, inn, rd, stt, cd⟩ (-9)) W) := by
  have HS := Lib.hid hS
  have HGH := Lib.hid (And.intro hn (And.intro hnb hnm))
  have HRD := Lib.hid (And.intro rs (And.intro rb rm))
  have FT0 : ∀ code, Hid (∀ wc, Below W.heap.size W wc → _) := fun code => Lib.hid (fun wc (hw : Below W.heap.size W wc) => refFault_told (m := ⟨ip, hh, st, bk, me, ou, inn, rd, stt, cd⟩) rs rb rm (by show bk.length ≤ 48; rw [hnb]; exact l2) (by show st.length ≤ 48; rw [hn]; exact l1) hw code)
  have HLOW := Lib.hid hS.low.2
  have FT := FT0 (-9)
  have Lbk := Lib.hid (And.intro hnb l2)
  obtain ⟨i0, q1, q2, q3, q4⟩ := int_facts
  have HI := Lib.hid (And.intro q1 (And.intro q2 (And.intro q3 q4)))
  clear q1 q2 q3 q4
  clear hS hn hnb hnm rs rb rm cl rd0 rd1 ou1 in1 FT0
  unfold AtH
  intros
  conv => arg 2; whnf
  go_wp2_with (first
    | (refine ld_int (by rfl) _ rfl _ rfl _ (whole_cell HS.out.hx rfl) ?_)
    | (refine ld_ints (by rfl) _ rfl _ rfl _ (whole_cell HS.out.hx rfl) ?_)
    | (refine ld_state (by rfl) _ rfl _ rfl _ _ HS.out.hg rfl ?_)
    | (go_at_call 50; refine (FT.out _ HS.out.hb).mono ?_; rintro e wn ⟨s1, n1, c1', s2, n2, c2', s3, n3, c3', rfl, hk, hb⟩; have HKM := Lib.hid hk; have HRR := Lib.hid (boxOn HS.out.hr hb); clear hk hb)
    | (refine st_state (by rfl) _ _ rfl r _ rfl rfl _ _ HRR.out rfl rfl (all_one rfl rfl rfl) ?_; intro wf hrf htf; have HRF := Lib.hid hrf; have HTF := Lib.hid htf; clear hrf htf))
  refine bodyPost_ret (results_cell_row rfl _ _ r _ _ _ _ rfl HRF.out Tryz.underlying24 rfl state_size) rfl ?_
  exact KinM.box HKM.out HRR.out HLOW.out HTF.out
set_option maxHeartbeats 8000000 in
set_option maxRecDepth 1000000 in
theorem head_callfull (hS : SB W g x r (cells10 ip hh vs0 vb0 vm0 ou inn rd stt cd) (cells10 ip hh (.slice so n sc) (.slice bo nb bc) (.slice mo nm mc) ou inn rd stt cd) (.slice so n sc) (.slice bo nb bc) (.slice mo nm mc) st bk me w) (hn : st.length = n) (hnb : bk.length = nb) (hnm : me.length = nm) (l1 : n ≤ 48) (l2 : nb ≤ 48) (l3 : nm ≤ 3000) (rs : ReadsC W vs0 st) (rb : ReadsC W vb0 bk) (rm : ReadsC W vm0 me) (j0 : 0 ≤ ip) (j1 : ip < (nm : Int)) (rd0 : 0 ≤ rd) (rd1 : rd ≤ (inn.size : Int)) (ou1 : ou.size ≤ 2000) (in1 : inn.size ≤ maxLen) (cl : Cells ⟨ip, hh, st, bk, me, ou, inn, rd, stt, cd⟩) {c : Int} (hc : ∀ {J : Nat}, (J : Int) = ip → me[J]? = some c) (c1 : 64 ≤ c) (c2 : 48 ≤ nb) :
    AtH 4 w g x r (TellsK vs0 vb0 vm0 ⟨ip, hh, st, bk, me, ou, inn, rd, stt, cd⟩ (Mach.fault ⟨ip, hh, st, bk, me, ou, inn, rd, stt, cd⟩ (-5)) W) := by
  obtain ⟨gm, cm, em, -⟩ := owns_slice hS.me (by rw [hnm]; omega)
  simp only [Value.slice.injEq] at em
  obtain ⟨rfl, -, rfl⟩ := em
  obtain ⟨J, rfl⟩ : ∃ J : Nat, ip = (J : Int) := ⟨ip.toNat, by omega⟩
  have HU := Lib.hid (show me[J]? = some c from hc rfl)
  have y0 : (0 : Int) ≤ (J : Int) := Int.natCast_nonneg _
  have e0 : ¬ (J : Int) < 0 := by omega
  have HS := Lib.hid hS
  have HGH := Lib.hid (And.intro hn (And.intro hnb hnm))
  have HRD := Lib.hid (And.intro rs (And.intro rb rm))
  have FT0 : ∀ code, Hid (∀ wc, Below W.heap.size W wc → _) := fun code => Lib.hid (fun wc (hw : Below W.heap.size W wc) => refFault_told (m := ⟨(J : Int), hh, st, bk, me, ou, inn, rd, stt, cd⟩) rs rb rm (by show bk.length ≤ 48; rw [hnb]; exact l2) (by show st.length ≤ 48; rw [hn]; exact l1) hw code)
  have HLOW := Lib.hid hS.low.2
  have FT := FT0 (-5)
  have Lbk := Lib.hid (And.intro hnb l2)
  obtain ⟨i0, q1, q2, q3, q4⟩ := int_facts
  have HI := Lib.hid (And.intro q1 (And.intro q2 (And.intro q3 q4)))
  clear q1 q2 q3 q4
  clear hc
  clear hS hn hnb hnm rs rb rm cl rd0 rd1 ou1 in1 FT0
  unfold AtH
  intros
  conv => arg 2; whnf
  go_wp2_with (first
    | (refine ld_int (by rfl) _ rfl _ rfl _ (HS.out.atM HU.out) ?_)
    | (refine ld_int (by rfl) _ rfl _ rfl _ (whole_cell HS.out.hx rfl) ?_)
    | (refine ld_ints (by rfl) _ rfl _ rfl _ (whole_cell HS.out.hx rfl) ?_)
    | (refine ld_state (by rfl) _ rfl _ rfl _ _ HS.out.hg rfl ?_)
    | (go_at_call 50; refine (FT.out _ HS.out.hb).mono ?_; rintro e wn ⟨s1, n1, c1', s2, n2, c2', s3, n3, c3', rfl, hk, hb⟩; have HKM := Lib.hid hk; have HRR := Lib.hid (boxOn HS.out.hr hb); clear hk hb)
    | (refine st_state (by rfl) _ _ rfl r _ rfl rfl _ _ HRR.out rfl rfl (all_one rfl rfl rfl) ?_; intro wf hrf htf; have HRF := Lib.hid hrf; have HTF := Lib.hid htf; clear hrf htf))
  refine bodyPost_ret (results_cell_row rfl _ _ r _ _ _ _ rfl HRF.out Tryz.underlying24 rfl state_size) rfl ?_
  exact KinM.box HKM.out HRR.out HLOW.out HTF.out
set_option maxHeartbeats 8000000 in
set_option maxRecDepth 1000000 in
theorem head_call (hS : SB W g x r (cells10 ip hh vs0 vb0 vm0 ou inn rd stt cd) (cells10 ip hh (.slice so n sc) (.slice bo nb bc) (.slice mo nm mc) ou inn rd stt cd) (.slice so n sc) (.slice bo nb bc) (.slice mo nm mc) st bk me w) (hn : st.length = n) (hnb : bk.length = nb) (hnm : me.length = nm) (l1 : n ≤ 48) (l2 : nb ≤ 48) (l3 : nm ≤ 3000) (rs : ReadsC W vs0 st) (rb : ReadsC W vb0 bk) (rm : ReadsC W vm0 me) (j0 : 0 ≤ ip) (j1 : ip < (nm : Int)) (rd0 : 0 ≤ rd) (rd1 : rd ≤ (inn.size : Int)) (ou1 : ou.size ≤ 2000) (in1 : inn.size ≤ maxLen) (cl : Cells ⟨ip, hh, st, bk, me, ou, inn, rd, stt, cd⟩) {c : Int} (hc : ∀ {J : Nat}, (J : Int) = ip → me[J]? = some c) (c1 : 64 ≤ c) (c2 : ¬ 48 ≤ nb) :
    AtH 4 w g x r (TellsK vs0 vb0 vm0 ⟨ip, hh, st, bk, me, ou, inn, rd, stt, cd⟩ (⟨c, hh, st, bk ++ [ip + 1], me, ou, inn, rd, stt, cd⟩) W) := by
  obtain ⟨gm, cm, em, -⟩ := owns_slice hS.me (by rw [hnm]; omega)
  simp only [Value.slice.injEq] at em
  obtain ⟨rfl, -, rfl⟩ := em
  obtain ⟨J, rfl⟩ : ∃ J : Nat, ip = (J : Int) := ⟨ip.toNat, by omega⟩
  have HU := Lib.hid (show me[J]? = some c from hc rfl)
  have y0 : (0 : Int) ≤ (J : Int) := Int.natCast_nonneg _
  have e0 : ¬ (J : Int) < 0 := by omega
  have HS := Lib.hid hS
  have HGH := Lib.hid (And.intro hn (And.intro hnb hnm))
  have HRD := Lib.hid (And.intro rs (And.intro rb rm))
  have FT0 : ∀ code, Hid (∀ wc, Below W.heap.size W wc → _) := fun code => Lib.hid (fun wc (hw : Below W.heap.size W wc) => refFault_told (m := ⟨(J : Int), hh, st, bk, me, ou, inn, rd, stt, cd⟩) rs rb rm (by show bk.length ≤ 48; rw [hnb]; exact l2) (by show st.length ≤ 48; rw [hn]; exact l1) hw code)
  have HLOW := Lib.hid hS.low.2
  have Lbk := Lib.hid (And.intro hnb l2)
  have c3 : ¬ 48 ≤ (nb : Int) := by omega
  obtain ⟨i0, q1, q2, q3, q4⟩ := int_facts
  have HI := Lib.hid (And.intro q1 (And.intro q2 (And.intro q3 q4)))
  clear q1 q2 q3 q4
  clear hc
  clear hS hn hnb hnm rs rb rm cl rd0 rd1 ou1 in1 FT0
  unfold AtH
  intros
  conv => arg 2; whnf
  go_wp2_with (first
    | (refine wpList_lit (by rfl) _ _ 1 _ rfl [(J : Int) + 1] i0 Tryz.underlying22 HI.out.1 HI.out.2.1 HI.out.2.2.1 (by simp) (by simp) rfl rfl ?_; intro gl wl hgl hol hbl; have HS := Lib.hid (HS.out.below hbl); have HOL := Lib.hid hol; clear hgl hol hbl)
    | (refine wpList_append_reads _ rfl _ _ 22 rfl W.heap.size 3 i0 (.int .i64 0) 8 Tryz.underlying22 HI.out.1 HI.out.2.1 HI.out.2.2.1 HI.out.2.2.2 rfl _ (vals (bk)) rfl HS.out.bk _ [(J : Int) + 1] rfl (Reads.of_owns HOL.out) (by rw [vals_length, Lbk.out.1]; have := Lbk.out.2; unfold maxLen; simp only [List.length_cons, List.length_nil]; omega) (by rw [vals_length, Lbk.out.1]; have := Lbk.out.2; simp only [List.length_cons, List.length_nil]; omega) HS.out.hb.size ?_; intro vb wn ho _ ht hnw; have HS := Lib.hid (HS.out.app2 (st' := bk ++ [(J : Int) + 1]) (by rw [vals_append]; exact ho) ht hnw); obtain ⟨bo, bc, ev⟩ := HS.out.bk.slice; rw [vals_length, List.length_append, Lbk.out.1] at ev; change vb = .slice bo (nb + 1) bc at ev; subst ev; have Lbk := Lib.hid (And.intro (show (bk ++ [(J : Int) + 1]).length = nb + 1 by rw [List.length_append, Lbk.out.1]; rfl) (show nb + 1 ≤ 96 by have := Lbk.out.2; omega)); clear ho ht hnw)
    | (refine ld_int (by rfl) _ rfl _ rfl _ (HS.out.atM HU.out) ?_)
    | (refine ld_int (by rfl) _ rfl _ rfl _ (whole_cell HS.out.hx rfl) ?_)
    | (refine ld_ints (by rfl) _ rfl _ rfl _ (whole_cell HS.out.hx rfl) ?_)
    | (refine st_ints (by rfl) _ _ rfl x _ rfl _ rfl rfl _ _ HS.out.hx (Nat.le_of_ble_eq_true rfl) ?_; intro wn hx ht; have HS := Lib.hid (HS.out.set hx ht); clear hx ht)
    | (refine st_int (by rfl) _ _ rfl x _ rfl _ rfl rfl _ _ HS.out.hx (Nat.le_of_ble_eq_true rfl) ?_; intro wn hx ht; have HS := Lib.hid (HS.out.set hx ht); clear hx ht)
    | (refine ld_state (by rfl) _ rfl _ rfl _ _ HS.out.hx rfl ?_)
    | (refine st_state (by rfl) _ _ rfl r _ rfl rfl _ _ HS.out.hr rfl rfl (all_one rfl rfl rfl) ?_; intro wf hrf htf; have HRF := Lib.hid hrf; have HTF := Lib.hid htf; clear hrf htf))
  refine bodyPost_ret (results_cell_row rfl _ _ r _ _ _ _ rfl HRF.out Tryz.underlying24 rfl state_size) rfl ?_
  exact SB.gives (m := ⟨c, hh, st, bk ++ [(J : Int) + 1], me, ou, inn, rd, stt, cd⟩) (vs := (.slice so n sc)) (vb := (.slice bo (nb + 1) bc)) (vm := (.slice (some ⟨gm, 0, none⟩) nm mc)) HS.out HTF.out
set_option maxHeartbeats 8000000 in
set_option maxRecDepth 1000000 in
theorem head_none (hS : SB W g x r (cells10 ip hh vs0 vb0 vm0 ou inn rd stt cd) (cells10 ip hh (.slice so n sc) (.slice bo nb bc) (.slice mo nm mc) ou inn rd stt cd) (.slice so n sc) (.slice bo nb bc) (.slice mo nm mc) st bk me w) (hn : st.length = n) (hnb : bk.length = nb) (hnm : me.length = nm) (l1 : n ≤ 48) (l2 : nb ≤ 48) (l3 : nm ≤ 3000) (rs : ReadsC W vs0 st) (rb : ReadsC W vb0 bk) (rm : ReadsC W vm0 me) (j0 : 0 ≤ ip) (j1 : ip < (nm : Int)) (rd0 : 0 ≤ rd) (rd1 : rd ≤ (inn.size : Int)) (ou1 : ou.size ≤ 2000) (in1 : inn.size ≤ maxLen) (cl : Cells ⟨ip, hh, st, bk, me, ou, inn, rd, stt, cd⟩) {c : Int} (hc : ∀ {J : Nat}, (J : Int) = ip → me[J]? = some c) (c1 : ¬ 64 ≤ c) (c2 : ¬ isOp c) :
    AtH 4 w g x r (TellsK vs0 vb0 vm0 ⟨ip, hh, st, bk, me, ou, inn, rd, stt, cd⟩ (Mach.fault ⟨ip, hh, st, bk, me, ou, inn, rd, stt, cd⟩ (-13)) W) := by
  obtain ⟨gm, cm, em, -⟩ := owns_slice hS.me (by rw [hnm]; omega)
  simp only [Value.slice.injEq] at em
  obtain ⟨rfl, -, rfl⟩ := em
  obtain ⟨J, rfl⟩ : ∃ J : Nat, ip = (J : Int) := ⟨ip.toNat, by omega⟩
  have HU := Lib.hid (show me[J]? = some c from hc rfl)
  have y0 : (0 : Int) ≤ (J : Int) := Int.natCast_nonneg _
  have e0 : ¬ (J : Int) < 0 := by omega
  have HS := Lib.hid hS
  have HGH := Lib.hid (And.intro hn (And.intro hnb hnm))
  have HRD := Lib.hid (And.intro rs (And.intro rb rm))
  have FT0 : ∀ code, Hid (∀ wc, Below W.heap.size W wc → _) := fun code => Lib.hid (fun wc (hw : Below W.heap.size W wc) => refFault_told (m := ⟨(J : Int), hh, st, bk, me, ou, inn, rd, stt, cd⟩) rs rb rm (by show bk.length ≤ 48; rw [hnb]; exact l2) (by show st.length ≤ 48; rw [hn]; exact l1) hw code)
  have HLOW := Lib.hid hS.low.2
  have FT := FT0 (-13)
  have Lbk := Lib.hid (And.intro hnb l2)
  have CO := Lib.hid (fun wc => refOp_any c wc)
  rw [show decide (isOp c) = false from decide_eq_false c2] at CO
  obtain ⟨i0, q1, q2, q3, q4⟩ := int_facts
  have HI := Lib.hid (And.intro q1 (And.intro q2 (And.intro q3 q4)))
  clear q1 q2 q3 q4
  clear hc
  clear hS hn hnb hnm rs rb rm cl rd0 rd1 ou1 in1 FT0
  unfold AtH
  intros
  conv => arg 2; whnf
  go_wp2_with (first
    | (refine ld_int (by rfl) _ rfl _ rfl _ (HS.out.atM HU.out) ?_)
    | (refine ld_int (by rfl) _ rfl _ rfl _ (whole_cell HS.out.hx rfl) ?_)
    | (refine ld_ints (by rfl) _ rfl _ rfl _ (whole_cell HS.out.hx rfl) ?_)
    | (go_at_call 51; refine (CO.out _).mono ?_; rintro e wz ⟨rfl, hwz⟩; subst hwz)
    | (refine ld_state (by rfl) _ rfl _ rfl _ _ HS.out.hg rfl ?_)
    | (go_at_call 50; refine (FT.out _ HS.out.hb).mono ?_; rintro e wn ⟨s1, n1, c1', s2, n2, c2', s3, n3, c3', rfl, hk, hb⟩; have HKM := Lib.hid hk; have HRR := Lib.hid (boxOn HS.out.hr hb); clear hk hb)
    | (refine st_state (by rfl) _ _ rfl r _ rfl rfl _ _ HRR.out rfl rfl (all_one rfl rfl rfl) ?_; intro wf hrf htf; have HRF := Lib.hid hrf; have HTF := Lib.hid htf; clear hrf htf))
  refine bodyPost_ret (results_cell_row rfl _ _ r _ _ _ _ rfl HRF.out Tryz.underlying24 rfl state_size) rfl ?_
  exact KinM.box HKM.out HRR.out HLOW.out HTF.out
set_option maxHeartbeats 8000000 in
set_option maxRecDepth 1000000 in
theorem head_noarg (hS : SB W g x r (cells10 ip hh vs0 vb0 vm0 ou inn rd stt cd) (cells10 ip hh (.slice so n sc) (.slice bo nb bc) (.slice mo nm mc) ou inn rd stt cd) (.slice so n sc) (.slice bo nb bc) (.slice mo nm mc) st bk me w) (hn : st.length = n) (hnb : bk.length = nb) (hnm : me.length = nm) (l1 : n ≤ 48) (l2 : nb ≤ 48) (l3 : nm ≤ 3000) (rs : ReadsC W vs0 st) (rb : ReadsC W vb0 bk) (rm : ReadsC W vm0 me) (j0 : 0 ≤ ip) (j1 : ip < (nm : Int)) (rd0 : 0 ≤ rd) (rd1 : rd ≤ (inn.size : Int)) (ou1 : ou.size ≤ 2000) (in1 : inn.size ≤ maxLen) (cl : Cells ⟨ip, hh, st, bk, me, ou, inn, rd, stt, cd⟩) {c : Int} (hc : ∀ {J : Nat}, (J : Int) = ip → me[J]? = some c) (k : Nat) (hk : k < 48) (hck : c = (k : Int)) (ha : argOf k = true) (c4 : (nm : Int) ≤ ip + 1) :
    AtH 4 w g x r (TellsK vs0 vb0 vm0 ⟨ip, hh, st, bk, me, ou, inn, rd, stt, cd⟩ (Mach.fault ⟨ip, hh, st, bk, me, ou, inn, rd, stt, cd⟩ (-9)) W) := by
  obtain ⟨gm, cm, em, -⟩ := owns_slice hS.me (by rw [hnm]; omega)
  simp only [Value.slice.injEq] at em
  obtain ⟨rfl, -, rfl⟩ := em
  obtain ⟨J, rfl⟩ : ∃ J : Nat, ip = (J : Int) := ⟨ip.toNat, by omega⟩
  have HU := Lib.hid (show me[J]? = some c from hc rfl)
  have y0 : (0 : Int) ≤ (J : Int) := Int.natCast_nonneg _
  have e0 : ¬ (J : Int) < 0 := by omega
  have HS := Lib.hid hS
  have HGH := Lib.hid (And.intro hn (And.intro hnb hnm))
  have HRD := Lib.hid (And.intro rs (And.intro rb rm))
  have FT0 : ∀ code, Hid (∀ wc, Below W.heap.size W wc → _) := fun code => Lib.hid (fun wc (hw : Below W.heap.size W wc) => refFault_told (m := ⟨(J : Int), hh, st, bk, me, ou, inn, rd, stt, cd⟩) rs rb rm (by show bk.length ≤ 48; rw [hnb]; exact l2) (by show st.length ≤ 48; rw [hn]; exact l1) hw code)
  have HLOW := Lib.hid hS.low.2
  have FT := FT0 (-9)
  have Lbk := Lib.hid (And.intro hnb l2)
  subst hck
  have c1 : ¬ 64 ≤ (k : Int) := by omega
  have CO := Lib.hid (fun wc => refOp_any (k : Int) wc)
  rw [show decide (isOp (k : Int)) = true from decide_eq_true ⟨by omega, by omega⟩] at CO
  have CA := Lib.hid (fun wc => refArg_at k hk wc)
  rw [ha] at CA
  obtain ⟨i0, q1, q2, q3, q4⟩ := int_facts
  have HI := Lib.hid (And.intro q1 (And.intro q2 (And.intro q3 q4)))
  clear q1 q2 q3 q4
  clear hc
  clear hS hn hnb hnm rs rb rm cl rd0 rd1 ou1 in1 FT0
  unfold AtH
  intros
  conv => arg 2; whnf
  go_wp2_with (first
    | (refine ld_int (by rfl) _ rfl _ rfl _ (HS.out.atM HU.out) ?_)
    | (refine ld_int (by rfl) _ rfl _ rfl _ (whole_cell HS.out.hx rfl) ?_)
    | (refine ld_ints (by rfl) _ rfl _ rfl _ (whole_cell HS.out.hx rfl) ?_)
    | (go_at_call 51; refine (CO.out _).mono ?_; rintro e wz ⟨rfl, hwz⟩; subst hwz)
    | (go_at_call 44; refine (CA.out _).mono ?_; rintro e wz ⟨rfl, hwz⟩; subst hwz)
    | (refine ld_state (by rfl) _ rfl _ rfl _ _ HS.out.hg rfl ?_)
    | (go_at_call 50; refine (FT.out _ HS.out.hb).mono ?_; rintro e wn ⟨s1, n1, c1', s2, n2, c2', s3, n3, c3', rfl, hk, hb⟩; have HKM := Lib.hid hk; have HRR := Lib.hid (boxOn HS.out.hr hb); clear hk hb)
    | (refine st_state (by rfl) _ _ rfl r _ rfl rfl _ _ HRR.out rfl rfl (all_one rfl rfl rfl) ?_; intro wf hrf htf; have HRF := Lib.hid hrf; have HTF := Lib.hid htf; clear hrf htf))
  refine bodyPost_ret (results_cell_row rfl _ _ r _ _ _ _ rfl HRF.out Tryz.underlying24 rfl state_size) rfl ?_
  exact KinM.box HKM.out HRR.out HLOW.out HTF.out
set_option maxHeartbeats 8000000 in
set_option maxRecDepth 1000000 in
theorem head_arg (hS : SB W g x r (cells10 ip hh vs0 vb0 vm0 ou inn rd stt cd) (cells10 ip hh (.slice so n sc) (.slice bo nb bc) (.slice mo nm mc) ou inn rd stt cd) (.slice so n sc) (.slice bo nb bc) (.slice mo nm mc) st bk me w) (hn : st.length = n) (hnb : bk.length = nb) (hnm : me.length = nm) (l1 : n ≤ 48) (l2 : nb ≤ 48) (l3 : nm ≤ 3000) (rs : ReadsC W vs0 st) (rb : ReadsC W vb0 bk) (rm : ReadsC W vm0 me) (j0 : 0 ≤ ip) (j1 : ip < (nm : Int)) (rd0 : 0 ≤ rd) (rd1 : rd ≤ (inn.size : Int)) (ou1 : ou.size ≤ 2000) (in1 : inn.size ≤ maxLen) (cl : Cells ⟨ip, hh, st, bk, me, ou, inn, rd, stt, cd⟩) {c : Int} (hc : ∀ {J : Nat}, (J : Int) = ip → me[J]? = some c) (k : Nat) (hk : k < 48) (hck : c = (k : Int)) (ha : argOf k = true) (arg : Int) (hj : ∀ {J : Nat}, (J : Int) = ip + 1 → me[J]? = some arg) (c4 : ip + 1 < (nm : Int)) {R : Ending → World → Prop} (hw : AtK 20 w g x r k arg R) :
    AtH 4 w g x r R := by
  obtain ⟨gm, cm, em, -⟩ := owns_slice hS.me (by rw [hnm]; omega)
  simp only [Value.slice.injEq] at em
  obtain ⟨rfl, -, rfl⟩ := em
  obtain ⟨J, rfl⟩ : ∃ J : Nat, ip = (J : Int) := ⟨ip.toNat, by omega⟩
  have HU := Lib.hid (show me[J]? = some c from hc rfl)
  have y0 : (0 : Int) ≤ (J : Int) := Int.natCast_nonneg _
  have e0 : ¬ (J : Int) < 0 := by omega
  obtain ⟨J1, hJ1⟩ : ∃ z, J + 1 = z := ⟨_, rfl⟩
  have HU1 := Lib.hid (show me[J1]? = some arg from hj (by omega))
  have x1 : (J : Int) + 1 = (J1 : Int) := by omega
  have y1 : (0 : Int) ≤ (J1 : Int) := Int.natCast_nonneg _
  have z1 : (J1 : Int) < (nm : Int) := by omega
  subst hck
  have HS := Lib.hid hS
  have HW : Hid (AtK 20 w g x r k arg R) := by apply Lib.hid; exact hw
  have c1 : ¬ 64 ≤ (k : Int) := by omega
  have CO := Lib.hid (fun wc => refOp_any (k : Int) wc)
  rw [show decide (isOp (k : Int)) = true from decide_eq_true ⟨by omega, by omega⟩] at CO
  have CA := Lib.hid (fun wc => refArg_at k hk wc)
  rw [ha] at CA
  clear hw hS hc hn hnb hnm rs rb rm cl rd0 rd1 ou1 in1 hj
  unfold AtH
  intros
  conv => arg 2; whnf
  go_upto_if 77 with (first
    | (refine ld_int (by rfl) _ rfl _ rfl _ (HS.out.atM HU.out) ?_)
    | (refine ld_int (by rfl) _ rfl _ rfl _ (whole_cell HS.out.hx rfl) ?_)
    | (refine ld_ints (by rfl) _ rfl _ rfl _ (whole_cell HS.out.hx rfl) ?_)
    | (go_at_call 51; refine (CO.out _).mono ?_; rintro e wz ⟨rfl, hwz⟩; subst hwz)
    | (go_at_call 44; refine (CA.out _).mono ?_; rintro e wz ⟨rfl, hwz⟩; subst hwz))
  rename_i K9 hK9
  have HK9 := Lib.hid hK9
  clear hK9
  refine wp_cond_true (by rfl) ?_
  go_wp2_with (first
    | (refine ld_int (by rfl) _ rfl _ rfl _ (HS.out.atM HU1.out) ?_)
    | (refine ld_int (by rfl) _ rfl _ rfl _ (whole_cell HS.out.hx rfl) ?_)
    | (refine ld_ints (by rfl) _ rfl _ rfl _ (whole_cell HS.out.hx rfl) ?_))
  refine HK9.out _ _ ?_
  refine AtK.use (j := 20) ?_
  unfold AtK
  intros
  exact HW.out
set_option maxHeartbeats 8000000 in
set_option maxRecDepth 1000000 in
theorem head_op (hS : SB W g x r (cells10 ip hh vs0 vb0 vm0 ou inn rd stt cd) (cells10 ip hh (.slice so n sc) (.slice bo nb bc) (.slice mo nm mc) ou inn rd stt cd) (.slice so n sc) (.slice bo nb bc) (.slice mo nm mc) st bk me w) (hn : st.length = n) (hnb : bk.length = nb) (hnm : me.length = nm) (l1 : n ≤ 48) (l2 : nb ≤ 48) (l3 : nm ≤ 3000) (rs : ReadsC W vs0 st) (rb : ReadsC W vb0 bk) (rm : ReadsC W vm0 me) (j0 : 0 ≤ ip) (j1 : ip < (nm : Int)) (rd0 : 0 ≤ rd) (rd1 : rd ≤ (inn.size : Int)) (ou1 : ou.size ≤ 2000) (in1 : inn.size ≤ maxLen) (cl : Cells ⟨ip, hh, st, bk, me, ou, inn, rd, stt, cd⟩) {c : Int} (hc : ∀ {J : Nat}, (J : Int) = ip → me[J]? = some c) (k : Nat) (hk : k < 48) (hck : c = (k : Int)) (ha : argOf k = false) {R : Ending → World → Prop} (hw : AtK 20 w g x r k 0 R) :
    AtH 4 w g x r R := by
  obtain ⟨gm, cm, em, -⟩ := owns_slice hS.me (by rw [hnm]; omega)
  simp only [Value.slice.injEq] at em
  obtain ⟨rfl, -, rfl⟩ := em
  obtain ⟨J, rfl⟩ : ∃ J : Nat, ip = (J : Int) := ⟨ip.toNat, by omega⟩
  have HU := Lib.hid (show me[J]? = some c from hc rfl)
  have y0 : (0 : Int) ≤ (J : Int) := Int.natCast_nonneg _
  have e0 : ¬ (J : Int) < 0 := by omega
  subst hck
  have HS := Lib.hid hS
  have HW : Hid (AtK 20 w g x r k 0 R) := by apply Lib.hid; exact hw
  have c1 : ¬ 64 ≤ (k : Int) := by omega
  have CO := Lib.hid (fun wc => refOp_any (k : Int) wc)
  rw [show decide (isOp (k : Int)) = true from decide_eq_true ⟨by omega, by omega⟩] at CO
  have CA := Lib.hid (fun wc => refArg_at k hk wc)
  rw [ha] at CA
  clear hw hS hc hn hnb hnm rs rb rm cl rd0 rd1 ou1 in1
  unfold AtH
  intros
  conv => arg 2; whnf
  go_upto_if 77 with (first
    | (refine ld_int (by rfl) _ rfl _ rfl _ (HS.out.atM HU.out) ?_)
    | (refine ld_int (by rfl) _ rfl _ rfl _ (whole_cell HS.out.hx rfl) ?_)
    | (refine ld_ints (by rfl) _ rfl _ rfl _ (whole_cell HS.out.hx rfl) ?_)
    | (go_at_call 51; refine (CO.out _).mono ?_; rintro e wz ⟨rfl, hwz⟩; subst hwz)
    | (go_at_call 44; refine (CA.out _).mono ?_; rintro e wz ⟨rfl, hwz⟩; subst hwz))
  refine wp_cond_false (by rfl) (wp_skip ?_)
  refine ‹∀ (a : Act) (w : World), Code.wp _ _ _ a w → _› _ _ ?_
  refine AtK.use (j := 20) ?_
  unfold AtK
  intros
  exact HW.out
end
end Go.Proofs.YtcffbeihgchpgaaGreatDoor.Inn
