
/- Package record: a step as it is seen. -/
import Derived.Test.YtcffbeihgchpgaaGreatDoorRecReg
namespace Go.Proofs.YtcffbeihgchpgaaGreatDoor.Rec
open Go.RowKit Book Book.Wide Mem Mach Inn
set_option linter.unusedSimpArgs false
set_option linter.unusedVariables false
/-- behind the region: the new step's box -/
structure SeeP (w2 wx : World) (g r : Nat) (cs : Array Value) (s : S) : Prop where
  hb : Below w2.heap.size w2 wx
  hg : wx.heap[g]? = some (.cells cs 24 (0, 0))
  hr : wx.heap[r]? = some (.cells (seenA s) 55 (0, 0))
  low : w2.heap.size ≤ r
set_option maxHeartbeats 8000000 in
set_option maxRecDepth 100000 in
theorem see_any {w : World} {v : Value} {m : M} (h : ReadsM w v m) (nx : Int) : Calls Tryz.prog 38 #[v, .int .i64 nx] w (Says (seenV (see m nx)) w) := by
  have HV := Lib.hid h
  obtain ⟨vs, vb, vm, rfl, hs, hb, hm⟩ := h
  obtain ⟨s1, n1, d1, rfl⟩ := reads_known hs
  obtain ⟨s2, n2, d2, rfl⟩ := reads_known hb
  obtain ⟨s3, n3, d3, rfl⟩ := reads_known hm
  obtain ⟨ip, hh, st, bk, me, ou, inn, rd, stt, cd⟩ := m
  simp only at hs hb hm ⊢
  obtain ⟨w1, g, hw1, hg, HG, HB, HZ⟩ := newBox w (cells10 ip hh (.slice s1 n1 d1) (.slice s2 n2 d2) (.slice s3 n3 d3) ou inn rd stt cd) 24
  obtain ⟨w2, r, hw2, hr, HR, HB1, HZ2⟩ := newBox w1 (seenA (0, 0, 0, 0)) 55
  have HG2 := Lib.hid (boxOn HG.out HB1.out)
  have HB2 := Lib.hid (HB.out.trans (HB1.out.mono HB.out.size))
  have HGR := Lib.hid (show g < r ∧ w.heap.size ≤ g ∧ r < w2.heap.size by have h1 := HZ.out; have h2 := HZ2.out; have h3 := whole_lt HG.out; have h4 := whole_lt HR.out; omega)
  obtain ⟨M0, hM0⟩ : ∃ M0 : M, (⟨ip, hh, st, bk, me, ou, inn, rd, stt, cd⟩ : M) = M0 := ⟨_, rfl⟩
  have HM0 := Lib.hid hM0
  have HV2 := Lib.hid (show ReadsM w2 _ M0 from by have := HV.out.below HB2.out; rw [← hM0]; exact this)
  obtain ⟨c, hc⟩ : ∃ c, ld M0 ip = c := ⟨_, rfl⟩
  have HC := Lib.hid hc
  have HIP := Lib.hid (show M0.ip = ip by rw [← hM0])
  have HCa := Lib.hid (fun wc (hb : Below w2.heap.size w2 wc) (a : Int) => load_any (HV2.out.below hb) a)
  have HX := Lib.hid (show Below w2.heap.size w2 w2.drew from (Below.refl _ _).drew)
  have H14 := Lib.hid (show w2.drew.heap[g]? = _ from HG2.out)
  clear hs hb hm hM0 hc
  go_enter Tryz.func38, Tryz.ntmps38
  go_upto_region 1 with fail
  clear hw1 hw2 hg hr
  go_cut [5] (fun x wx => ∃ r5, x = .pointer (some ⟨r5, 0, none⟩) ∧ Hid (SeeP w2 wx g r5 (cells10 ip hh (.slice s1 n1 d1) (.slice s2 n2 d2) (.slice s3 n3 d3) ou inn rd stt cd) (ip, c, 0, nx)))
  case first =>
    refine wp_region_held (S := fun w' => w'.cell? ⟨g, 0, none⟩ = some (.int .i64 ip) ∧ w'.cell? ⟨g, 1, none⟩ = some (.int .i64 hh) ∧ w'.cell? ⟨g, 2, none⟩ = some (.slice s1 n1 d1) ∧ w'.cell? ⟨g, 3, none⟩ = some (.slice s2 n2 d2) ∧ w'.cell? ⟨g, 4, none⟩ = some (.slice s3 n3 d3) ∧ w'.cell? ⟨g, 5, none⟩ = some (.string ou) ∧ w'.cell? ⟨g, 6, none⟩ = some (.string inn) ∧ w'.cell? ⟨g, 7, none⟩ = some (.int .i64 rd) ∧ w'.cell? ⟨g, 8, none⟩ = some (.int .i64 stt) ∧ w'.cell? ⟨g, 9, none⟩ = some (.int .i64 cd)) (by kernel_rfl) ?_
    change wpAnyH _ _ _ _ _ _ _ _ (World.drew w2)
    refine wpAnyH_take (i := 0) (oi := ⟨some 6, _, _, _, _, _⟩) (v := ?_) rfl (by kernel_rfl) (by kernel_rfl) (by kernel_rfl) (fun _ _ _ h => h) (Or.inl ⟨by rfl, ?_⟩) (cells_ten H14.out) ?_
    rotate_left
    · intro w hSw
      (try dsimp only at hSw)
      go_simp
      try with_reducible rfl
    try simp only [Act.put, List.setIfInBounds_toArray, List.set_cons_zero, List.set_cons_succ]
    refine wpAnyH_take (i := 1) (oi := ⟨some 7, _, _, _, _, _⟩) (v := ?_) rfl (by kernel_rfl) (by kernel_rfl) (by kernel_rfl) (fun _ _ _ h => h) (Or.inl ⟨by rfl, ?_⟩) (cells_ten H14.out) ?_
    rotate_left
    · intro w hSw
      (try dsimp only at hSw)
      go_simp
      try with_reducible rfl
    try simp only [Act.put, List.setIfInBounds_toArray, List.set_cons_zero, List.set_cons_succ]
    refine wpAnyH_take (i := 2) (oi := ⟨some 8, _, _, _, _, _⟩) (v := ?_) rfl (by kernel_rfl) (by kernel_rfl) (by kernel_rfl) (fun _ _ _ h => h) (Or.inl ⟨by rfl, ?_⟩) (cells_ten H14.out) ?_
    rotate_left
    · intro w hSw
      (try dsimp only at hSw)
      go_simp
      try with_reducible rfl
    try simp only [Act.put, List.setIfInBounds_toArray, List.set_cons_zero, List.set_cons_succ]
    refine wpAnyH_take (i := 3) (oi := ⟨some 9, _, _, _, _, _⟩) (v := ?_) rfl (by kernel_rfl) (by kernel_rfl) (by kernel_rfl) (fun _ _ _ h => h) (Or.inl ⟨by rfl, ?_⟩) (cells_ten H14.out) ?_
    rotate_left
    · intro w hSw
      (try dsimp only at hSw)
      go_simp
      try with_reducible rfl
    try simp only [Act.put, List.setIfInBounds_toArray, List.set_cons_zero, List.set_cons_succ]
    refine wpAnyH_take (i := 4) (oi := ⟨some 10, _, _, _, _, _⟩) (v := ?_) rfl (by kernel_rfl) (by kernel_rfl) (by kernel_rfl) (fun _ _ _ h => h) (Or.inl ⟨by rfl, ?_⟩) (cells_ten H14.out) ?_
    rotate_left
    · intro w hSw
      (try dsimp only at hSw)
      go_simp
      try with_reducible rfl
    try simp only [Act.put, List.setIfInBounds_toArray, List.set_cons_zero, List.set_cons_succ]
    refine wpAnyH_take (i := 6) (oi := ⟨some 12, _, _, _, _, _⟩) (v := ?_) rfl (by kernel_rfl) (by kernel_rfl) (by kernel_rfl) (fun _ _ _ h => h) (Or.inl ⟨by rfl, ?_⟩) (cells_ten H14.out) ?_
    rotate_left
    · intro w hSw
      (try dsimp only at hSw)
      go_simp
      try with_reducible rfl
    try simp only [Act.put, List.setIfInBounds_toArray, List.set_cons_zero, List.set_cons_succ]
    refine wpAnyH_ready (rs := [5, 8]) (by kernel_rfl) (by simp) ?_
    refine AllReadyH.cons rfl (fun K hK => ?_) ?_
    · go_simp
      go_at_call 85
      refine (HCa.out _ HX.out ip).mono ?_
      rintro e wn ⟨rfl, hb⟩
      have H14 := Lib.hid (boxOn H14.out hb)
      have HX := Lib.hid (HX.out.trans (hb.mono HX.out.size))
      clear hb
      rw [HC.out]
      go_wp2_with fail
      refine hK.out _ _ (cells_ten H14.out) (fun hHeld => ?_)
      clear hK K hHeld
      try simp only [Act.put, List.setIfInBounds_toArray, List.set_cons_zero, List.set_cons_succ]
      refine wpAnyH_take (i := 7) (oi := ⟨some 13, _, _, _, _, _⟩) (v := ?_) rfl (by kernel_rfl) (by kernel_rfl) (by kernel_rfl) (fun _ _ _ h => h) (Or.inl ⟨by rfl, ?_⟩) (cells_ten H14.out) ?_
      rotate_left
      · intro w hSw
        (try dsimp only at hSw)
        go_simp
        try with_reducible rfl
      try simp only [Act.put, List.setIfInBounds_toArray, List.set_cons_zero, List.set_cons_succ]
      refine wpAnyH_ready (rs := [8]) (by kernel_rfl) (by simp) ?_
      refine AllReadyH.cons rfl (fun K hK => ?_) ?_
      · refine step_alloc_seen 5 (by rfl) rfl rfl ?_
        intro r5 wn hg hnew hb
        have N5 := Lib.hid (show w2.heap.size ≤ r5 by rw [← hg]; exact HX.out.size)
        have H14 := Lib.hid (boxOn H14.out hb)
        have HX := Lib.hid (HX.out.trans (hb.mono HX.out.size))
        have A5 := Lib.hid hnew
        clear hg hnew hb
        refine hK.out _ _ (cells_ten H14.out) (fun hHeld => ?_)
        clear hK K hHeld
        try simp only [Act.put, List.setIfInBounds_toArray, List.set_cons_zero, List.set_cons_succ]
        refine wpAnyH_ready (rs := [9]) (by kernel_rfl) (by simp) ?_
        refine AllReadyH.cons rfl (fun K hK => ?_) ?_
        · refine step_st_seen (by rfl) rfl _ _ rfl r5 (ip, c, 0, nx) rfl rfl _ A5.out rfl ?_
          intro wp h5 ht
          have hlow : ∀ k ∈ [r5], w2.heap.size ≤ k := fun k hk => by rw [List.mem_singleton.1 hk]; exact N5.out
          have H14 := Lib.hid (ht.whole H14.out (fun hm => by have h1 := N5.out; have h2 := HGR.out; rw [List.mem_singleton] at hm; omega))
          have HF := Lib.hid (show SeeP w2 wp g r5 _ (ip, c, 0, nx) from ⟨HX.out.trans (ht.below hlow HX.out.size), H14.out, h5, N5.out⟩)
          clear ht h5 hlow
          refine hK.out _ _ (cells_ten H14.out) (fun hHeld => ?_)
          clear hK K hHeld
          try simp only [Act.put, List.setIfInBounds_toArray, List.set_cons_zero, List.set_cons_succ]
          refine wpAnyH_done (by kernel_rfl) ?_ _
          first | go_meet | (go_wp2_with fail; go_meet)
          exact ⟨_, rfl, HF⟩
        · exact AllReadyH.nil
      exact AllReadyH.nil
    refine AllReadyH.cons rfl (fun K hK => ?_) ?_
    · refine step_alloc_seen 5 (by rfl) rfl rfl ?_
      intro r5 wn hg hnew hb
      have N5 := Lib.hid (show w2.heap.size ≤ r5 by rw [← hg]; exact HX.out.size)
      have H14 := Lib.hid (boxOn H14.out hb)
      have HX := Lib.hid (HX.out.trans (hb.mono HX.out.size))
      have A5 := Lib.hid hnew
      clear hg hnew hb
      refine hK.out _ _ (cells_ten H14.out) (fun hHeld => ?_)
      clear hK K hHeld
      try simp only [Act.put, List.setIfInBounds_toArray, List.set_cons_zero, List.set_cons_succ]
      refine wpAnyH_ready (rs := [5]) (by kernel_rfl) (by simp) ?_
      refine AllReadyH.cons rfl (fun K hK => ?_) ?_
      · go_simp
        go_at_call 85
        refine (HCa.out _ HX.out ip).mono ?_
        rintro e wn ⟨rfl, hb⟩
        have A5 := Lib.hid (boxOn A5.out hb)
        have H14 := Lib.hid (boxOn H14.out hb)
        have HX := Lib.hid (HX.out.trans (hb.mono HX.out.size))
        clear hb
        rw [HC.out]
        go_wp2_with fail
        refine hK.out _ _ (cells_ten H14.out) (fun hHeld => ?_)
        clear hK K hHeld
        try simp only [Act.put, List.setIfInBounds_toArray, List.set_cons_zero, List.set_cons_succ]
        refine wpAnyH_take (i := 7) (oi := ⟨some 13, _, _, _, _, _⟩) (v := ?_) rfl (by kernel_rfl) (by kernel_rfl) (by kernel_rfl) (fun _ _ _ h => h) (Or.inl ⟨by rfl, ?_⟩) (cells_ten H14.out) ?_
        rotate_left
        · intro w hSw
          (try dsimp only at hSw)
          go_simp
          try with_reducible rfl
        try simp only [Act.put, List.setIfInBounds_toArray, List.set_cons_zero, List.set_cons_succ]
        refine wpAnyH_ready (rs := [9]) (by kernel_rfl) (by simp) ?_
        refine AllReadyH.cons rfl (fun K hK => ?_) ?_
        · refine step_st_seen (by rfl) rfl _ _ rfl r5 (ip, c, 0, nx) rfl rfl _ A5.out rfl ?_
          intro wp h5 ht
          have hlow : ∀ k ∈ [r5], w2.heap.size ≤ k := fun k hk => by rw [List.mem_singleton.1 hk]; exact N5.out
          have H14 := Lib.hid (ht.whole H14.out (fun hm => by have h1 := N5.out; have h2 := HGR.out; rw [List.mem_singleton] at hm; omega))
          have HF := Lib.hid (show SeeP w2 wp g r5 _ (ip, c, 0, nx) from ⟨HX.out.trans (ht.below hlow HX.out.size), H14.out, h5, N5.out⟩)
          clear ht h5 hlow
          refine hK.out _ _ (cells_ten H14.out) (fun hHeld => ?_)
          clear hK K hHeld
          try simp only [Act.put, List.setIfInBounds_toArray, List.set_cons_zero, List.set_cons_succ]
          refine wpAnyH_done (by kernel_rfl) ?_ _
          first | go_meet | (go_wp2_with fail; go_meet)
          exact ⟨_, rfl, HF⟩
        · exact AllReadyH.nil
      exact AllReadyH.nil
    exact AllReadyH.nil
  case rest =>
    obtain ⟨r5, rfl, HP⟩ := hcut
    have HB3 := Lib.hid (HB2.out.trans (HP.out.hb.mono HB2.out.size))
    have e0 : wc.cell? ⟨r5, 0, none⟩ = some (.int .i64 ip) := whole_cell HP.out.hr rfl
    have f0 : wc.cell? ⟨g, 0, none⟩ = some (.int .i64 ip) := whole_cell HP.out.hg rfl
    have e1 : wc.cell? ⟨r5, 1, none⟩ = some (.int .i64 c) := whole_cell HP.out.hr rfl
    have A := Lib.hid (opArg_same c wc)
    have HR3 := Lib.hid (boxOn HR.out HP.out.hb)
    clear HCa HX H14
    by_cases ha : argI c = true
    · rw [ha] at A
      obtain ⟨ar, har⟩ : ∃ ar, ld M0 (wrap64 (ip + 1)) = ar := ⟨_, rfl⟩
      have D := Lib.hid (load_any (HV2.out.below HP.out.hb) (wrap64 (ip + 1)))
      rw [har] at D
      have HS := Lib.hid (show see M0 nx = (ip, c, ar, nx) by unfold see; rw [HIP.out, HC.out, if_pos ha, har])
      clear ha har
      go_wp2_with fail
      refine A.out.mono ?_
      rintro e wz ⟨rfl, hwz⟩
      subst wz
      clear A
      go_wp2_with (refine ld_state (by rfl) _ rfl _ rfl _ _ HP.out.hg rfl ?_)
      refine D.out.mono ?_
      rintro e w4 ⟨rfl, hb⟩
      have HX5 := Lib.hid (boxOn HP.out.hr hb)
      have HR4 := Lib.hid (boxOn HR3.out hb)
      have HB4 := Lib.hid (HB3.out.trans (hb.mono HB3.out.size))
      have N5 := Lib.hid (show r ≠ r5 ∧ w.heap.size ≤ r5 ∧ w.heap.size ≤ r by have h1 := HP.out.low; have h2 := HGR.out; have h3 := HB2.out.size; omega)
      clear hb D e0 e1 f0
      go_wp2_with (first
        | (refine st_seen_f (by rfl) _ _ rfl r5 2 rfl ar rfl (ip, c, 0, nx) (ip, c, ar, nx) HX5.out (by decide) rfl ?_; intro w5 h5 ht5; have HX6 := Lib.hid h5; have HR6 := Lib.hid (ht5.whole HR4.out (fun hm => N5.out.1 (by simpa using hm))); have HB6 := Lib.hid (HB4.out.trans (ht5.below (fun k hk => by rw [List.mem_singleton.1 hk]; exact N5.out.2.1) HB4.out.size)); clear h5 ht5)
        | (refine ld_seen (by rfl) _ rfl r5 rfl (ip, c, ar, nx) HX6.out ?_)
        | (refine st_seen (by rfl) _ _ rfl r (ip, c, ar, nx) rfl rfl _ HR6.out rfl ?_; intro wf hrf htf; have HRF := Lib.hid hrf; have HBF := Lib.hid (HB6.out.trans (htf.below (fun k hk => by rw [List.mem_singleton.1 hk]; exact N5.out.2.2) HB6.out.size)); clear hrf htf))
      refine bodyPost_ret (results_cell_row rfl _ _ r _ _ _ _ rfl HRF.out Tryz.underlying55 rfl seen_size) rfl ?_
      exact ⟨by rw [HM0.out, HS.out], HBF.out⟩
    · have ha' : argI c = false := by simpa using ha
      rw [ha'] at A
      have HS := Lib.hid (show see M0 nx = (ip, c, 0, nx) by unfold see; rw [HIP.out, HC.out, if_neg ha])
      have N5 := Lib.hid (show w.heap.size ≤ r by have h2 := HGR.out; omega)
      clear ha ha'
      go_wp2_with fail
      refine A.out.mono ?_
      rintro e wz ⟨rfl, hwz⟩
      subst wz
      clear A
      have HXP := Lib.hid HP.out.hr
      go_wp2_with (first
        | (refine ld_seen (by rfl) _ rfl r5 rfl (ip, c, 0, nx) HXP.out ?_)
        | (refine st_seen (by rfl) _ _ rfl r (ip, c, 0, nx) rfl rfl _ HR3.out rfl ?_; intro wf hrf htf; have HRF := Lib.hid hrf; have HBF := Lib.hid (HB3.out.trans (htf.below (fun k hk => by rw [List.mem_singleton.1 hk]; exact N5.out) HB3.out.size)); clear hrf htf))
      refine bodyPost_ret (results_cell_row rfl _ _ r _ _ _ _ rfl HRF.out Tryz.underlying55 rfl seen_size) rfl ?_
      exact ⟨by rw [HM0.out, HS.out], HBF.out⟩
end Go.Proofs.YtcffbeihgchpgaaGreatDoor.Rec
