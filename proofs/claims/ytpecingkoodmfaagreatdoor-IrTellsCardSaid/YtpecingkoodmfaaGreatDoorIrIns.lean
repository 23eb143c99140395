
/- Package ir: may the instruction at a place be there? -/
import Derived.Test.YtpecingkoodmfaaGreatDoorIrSmall
import Derived.Test.YtpecingkoodmfaaGreatDoorIrUses
namespace Go.Proofs.YtpecingkoodmfaaGreatDoor.Ir
open Go.RowKit Book Mem
set_option linter.unusedSimpArgs false
set_option linter.unusedVariables false
set_option maxHeartbeats 8000000 in
set_option maxRecDepth 100000 in
theorem rightIns_any {w : World} {t : T} {vi vo vc : Value} (h : ReadsL w vi vo vc t) (hs : Small t) (ht : takes t = true) (hN : NamesI w) (k : Nat) {x : I} (hx : t.ins[k]? = some x) :
    Calls Tryz.prog 43 #[trV t vi vo vc, .int .i64 (k : Int)] w (Says (.bool (insOk t k x)) w) := by
  have hk := (List.getElem?_eq_some_iff.1 hx).1
  obtain ⟨ai, ci, ao, co, ac, cc, rfl, rfl, rfl⟩ := h.known
  obtain ⟨m, hm⟩ : ∃ m, t.ins.length = m := ⟨_, rfl⟩
  obtain ⟨no, hno⟩ : ∃ no, t.outs.length = no := ⟨_, rfl⟩
  obtain ⟨nc, hnc⟩ : ∃ nc, t.cells.length = nc := ⟨_, rfl⟩
  have HM := Lib.hid hm
  rw [hm, hno, hnc] at h ⊢
  have HS := Lib.hid hs
  have HT := Lib.hid ht
  have HK := Lib.hid (show k ≤ t.ins.length from Nat.le_of_lt hk)
  have hm6 : m ≤ 1000000 := by rw [← hm]; exact hs.ins
  have hkm : k < m := by rw [← hm]; exact hk
  obtain ⟨w1, g, hw1, hg, HG, HB, HZ⟩ := newBox w (trA t (.slice ai m ci) (.slice ao no co) (.slice ac nc cc)) 26
  have HR := Lib.hid (h.below HB.out)
  obtain ⟨c0, c1, c2, c3, c4, c5, c6, c7, c8⟩ := cells9 HG.out
  obtain ⟨ad, rfl, i0, i1, i2, i3, i4⟩ := ReadsI.at HR.out.ins hx
  obtain ⟨op, a, b, c, d⟩ := x
  obtain ⟨w2, g5, hw2, hg5, HI, HB2, HZ2⟩ := newBox w1 (insA (op, a, b, c, d)) 42
  have HG2 := Lib.hid (boxOn HG.out HB2.out)
  have HR2 := Lib.hid (HR.out.below HB2.out)
  have HBF := Lib.hid (HB.out.trans (HB2.out.mono HB.out.size))
  have HN := Lib.hid (hN.mono HBF.out)
  obtain ⟨res, hres⟩ : ∃ res, insOk t (k : Int) (op, a, b, c, d) = res := ⟨_, rfl⟩
  have HRS := Lib.hid hres
  rw [hres]
  obtain ⟨b1, hb1⟩ : ∃ b1, works t (op, a, b, c, d) = b1 := ⟨_, rfl⟩
  obtain ⟨b2, hb2⟩ : ∃ b2, known t.ins (usesL (op, a, b, c, d)) (k : Int) = b2 := ⟨_, rfl⟩
  have HRB := Lib.hid (show (b1 && b2 && (outsL (op, a, b, c, d)).all (fun y => leads t y (k : Int))) = res by rw [← hres, ← hb1, ← hb2]; rfl)
  have CW := Lib.hid (fun wd (hb : Below w2.heap.size w2 wd) => works_any (HR2.out.below hb) HT.out (HN.out.mono hb) (op, a, b, c, d))
  rw [hb1] at CW
  have CU := Lib.hid (fun wd => uses_any (op, a, b, c, d) wd)
  have CK := Lib.hid (fun wd (hb : Below w2.heap.size w2 wd) (v : Value) (hv : Reads wd v (usesL (op, a, b, c, d))) => known_any (HR2.out.below hb) hv k HK.out (Nat.le_trans HK.out HS.out.ins) (Nat.le_trans (usesL_len _) (by decide)))
  rw [hb2] at CK
  have CO := Lib.hid (fun wd => outs_any (op, a, b, c, d) wd)
  have CL := Lib.hid (fun wd (hb : Below w2.heap.size w2 wd) (y : Int) => leads_any (HR2.out.below hb) HS.out y k HK.out)
  have HBX := Lib.hid (show Below w2.heap.size w2 w2.drew from (Below.refl _ _).drew)
  obtain ⟨st, sl, bks, gr, gb, ins, outs, la, cells⟩ := t
  dsimp only at *
  have y0 : (0 : Int) ≤ (k : Int) := by omega
  have y1 : (k : Int) < (m : Int) := by omega
  clear h hs ht hN hx hk hm hno hnc hres hb1 hb2 hkm
  go_enter Tryz.func43, Tryz.ntmps43
  go_upto_region 2 with fail
  clear c0 c1 c2 c3 c4 c5 c6 c7 c8 i0 i1 i2 i3 i4 y0 y1 hw1 hw2 hg hg5
  refine wp_region_held (S := fun w' => w'.cell? ⟨g, 0, none⟩ = some (.int .i64 st) ∧ w'.cell? ⟨g, 1, none⟩ = some (.int .i64 sl) ∧ w'.cell? ⟨g, 2, none⟩ = some (.int .i64 bks) ∧ w'.cell? ⟨g, 3, none⟩ = some (.int .i64 gr) ∧ w'.cell? ⟨g, 4, none⟩ = some (.int .i64 gb) ∧ w'.cell? ⟨g, 5, none⟩ = some (.slice (some ad) m ci) ∧ w'.cell? ⟨g, 6, none⟩ = some (.slice ao no co) ∧ w'.cell? ⟨g, 7, none⟩ = some (.int .i64 la) ∧ w'.cell? ⟨g, 8, none⟩ = some (.slice ac nc cc) ∧ w'.cell? ⟨g5, 0, none⟩ = some (.int .i64 op) ∧ w'.cell? ⟨g5, 1, none⟩ = some (.int .i64 a) ∧ w'.cell? ⟨g5, 2, none⟩ = some (.int .i64 b) ∧ w'.cell? ⟨g5, 3, none⟩ = some (.int .i64 c) ∧ w'.cell? ⟨g5, 4, none⟩ = some (.int .i64 d)) (by kernel_rfl) ?_
  change wpAnyH _ _ _ _ _ _ _ _ (World.drew w2)
  cases b1 with
  | false =>
    have HF := Lib.hid (show res = false by rw [← HRB.out]; rfl)
    refine wpAnyH_take (i := 0) (oi := ⟨some 13, _, _, _, _, _⟩) (v := ?_) rfl (by kernel_rfl) (by kernel_rfl) (by kernel_rfl) (fun _ _ _ h => h) (Or.inl ⟨by rfl, ?_⟩) (both (boxOn HG2.out HBX.out) (boxOn HI.out HBX.out)) ?_
    rotate_left
    · intro w hSw
      (try dsimp only at hSw)
      go_simp
      try with_reducible rfl
    try simp only [Act.put, List.setIfInBounds_toArray, List.set_cons_zero, List.set_cons_succ]
    refine wpAnyH_take (i := 1) (oi := ⟨some 14, _, _, _, _, _⟩) (v := ?_) rfl (by kernel_rfl) (by kernel_rfl) (by kernel_rfl) (fun _ _ _ h => h) (Or.inl ⟨by rfl, ?_⟩) (both (boxOn HG2.out HBX.out) (boxOn HI.out HBX.out)) ?_
    rotate_left
    · intro w hSw
      (try dsimp only at hSw)
      go_simp
      try with_reducible rfl
    try simp only [Act.put, List.setIfInBounds_toArray, List.set_cons_zero, List.set_cons_succ]
    refine wpAnyH_ready (rs := [2]) (by kernel_rfl) (by simp) ?_
    refine AllReadyH.cons rfl (fun K hK => ?_) ?_
    rotate_left
    · exact AllReadyH.nil
    go_simp
    go_at_call 96
    refine (CW.out _ HBX.out).mono ?_
    rintro e wn ⟨rfl, hb⟩
    have HBX := Lib.hid (HBX.out.trans (hb.mono HBX.out.size))
    clear hb
    go_wp2_with fail
    refine hK.out _ _ (both (boxOn HG2.out HBX.out) (boxOn HI.out HBX.out)) (fun hHeld => ?_)
    clear hK K hHeld
    try simp only [Act.put, List.setIfInBounds_toArray, List.set_cons_zero, List.set_cons_succ]
    refine wpAnyH_take (i := 3) (oi := ⟨some 16, _, _, _, _, _⟩) (v := ?_) rfl (by kernel_rfl) (by kernel_rfl) (by kernel_rfl) (fun _ _ _ h => h) (Or.inl ⟨by rfl, ?_⟩) (both (boxOn HG2.out HBX.out) (boxOn HI.out HBX.out)) ?_
    rotate_left
    · intro w hSw
      (try dsimp only at hSw)
      go_simp
      try with_reducible rfl
    try simp only [Act.put, List.setIfInBounds_toArray, List.set_cons_zero, List.set_cons_succ]
    refine wpAnyH_take (i := 4) (oi := ⟨some 17, _, _, _, _, _⟩) (v := ?_) rfl (by kernel_rfl) (by kernel_rfl) (by kernel_rfl) (fun _ _ _ h => h) (Or.inl ⟨by rfl, ?_⟩) (both (boxOn HG2.out HBX.out) (boxOn HI.out HBX.out)) ?_
    rotate_left
    · intro w hSw
      (try dsimp only at hSw)
      go_simp
      try with_reducible rfl
    try simp only [Act.put, List.setIfInBounds_toArray, List.set_cons_zero, List.set_cons_succ]
    refine wpAnyH_take (i := 5) (oi := ⟨some 18, _, _, _, _, _⟩) (v := undef) rfl (by kernel_rfl) (by kernel_rfl) (by kernel_rfl) (fun _ _ _ h => h) (Or.inr ⟨by rfl, rfl⟩) (both (boxOn HG2.out HBX.out) (boxOn HI.out HBX.out)) ?_
    try simp only [Act.put, List.setIfInBounds_toArray, List.set_cons_zero, List.set_cons_succ]
    refine wpAnyH_take (i := 6) (oi := ⟨some 19, _, _, _, _, _⟩) (v := undef) rfl (by kernel_rfl) (by kernel_rfl) (by kernel_rfl) (fun _ _ _ h => h) (Or.inr ⟨by rfl, rfl⟩) (both (boxOn HG2.out HBX.out) (boxOn HI.out HBX.out)) ?_
    try simp only [Act.put, List.setIfInBounds_toArray, List.set_cons_zero, List.set_cons_succ]
    refine wpAnyH_take (i := 7) (oi := ⟨some 20, _, _, _, _, _⟩) (v := undef) rfl (by kernel_rfl) (by kernel_rfl) (by kernel_rfl) (fun _ _ _ h => h) (Or.inr ⟨by rfl, rfl⟩) (both (boxOn HG2.out HBX.out) (boxOn HI.out HBX.out)) ?_
    try simp only [Act.put, List.setIfInBounds_toArray, List.set_cons_zero, List.set_cons_succ]
    refine wpAnyH_take (i := 8) (oi := ⟨some 21, _, _, _, _, _⟩) (v := undef) rfl (by kernel_rfl) (by kernel_rfl) (by kernel_rfl) (fun _ _ _ h => h) (Or.inr ⟨by rfl, rfl⟩) (both (boxOn HG2.out HBX.out) (boxOn HI.out HBX.out)) ?_
    try simp only [Act.put, List.setIfInBounds_toArray, List.set_cons_zero, List.set_cons_succ]
    refine wpAnyH_take (i := 9) (oi := ⟨some 22, _, _, _, _, _⟩) (v := undef) rfl (by kernel_rfl) (by kernel_rfl) (by kernel_rfl) (fun _ _ _ h => h) (Or.inr ⟨by rfl, rfl⟩) (both (boxOn HG2.out HBX.out) (boxOn HI.out HBX.out)) ?_
    try simp only [Act.put, List.setIfInBounds_toArray, List.set_cons_zero, List.set_cons_succ]
    refine wpAnyH_take (i := 10) (oi := ⟨some 23, _, _, _, _, _⟩) (v := undef) rfl (by kernel_rfl) (by kernel_rfl) (by kernel_rfl) (fun _ _ _ h => h) (Or.inr ⟨by rfl, rfl⟩) (both (boxOn HG2.out HBX.out) (boxOn HI.out HBX.out)) ?_
    try simp only [Act.put, List.setIfInBounds_toArray, List.set_cons_zero, List.set_cons_succ]
    refine wpAnyH_take (i := 11) (oi := ⟨some 24, _, _, _, _, _⟩) (v := ?_) rfl (by kernel_rfl) (by kernel_rfl) (by kernel_rfl) (fun _ _ _ h => h) (Or.inl ⟨by rfl, ?_⟩) (both (boxOn HG2.out HBX.out) (boxOn HI.out HBX.out)) ?_
    rotate_left
    · intro w hSw
      (try dsimp only at hSw)
      go_simp
      try with_reducible rfl
    try simp only [Act.put, List.setIfInBounds_toArray, List.set_cons_zero, List.set_cons_succ]
    refine wpAnyH_done (by kernel_rfl) ?_ _
    go_wp2
    go_ret
    exact ⟨by rw [HF.out]; rfl, HBF.out.trans (HBX.out.mono HBF.out.size)⟩
  | true =>
    refine wpAnyH_take (i := 0) (oi := ⟨some 13, _, _, _, _, _⟩) (v := ?_) rfl (by kernel_rfl) (by kernel_rfl) (by kernel_rfl) (fun _ _ _ h => h) (Or.inl ⟨by rfl, ?_⟩) (both (boxOn HG2.out HBX.out) (boxOn HI.out HBX.out)) ?_
    rotate_left
    · intro w hSw
      (try dsimp only at hSw)
      go_simp
      try with_reducible rfl
    try simp only [Act.put, List.setIfInBounds_toArray, List.set_cons_zero, List.set_cons_succ]
    refine wpAnyH_take (i := 1) (oi := ⟨some 14, _, _, _, _, _⟩) (v := ?_) rfl (by kernel_rfl) (by kernel_rfl) (by kernel_rfl) (fun _ _ _ h => h) (Or.inl ⟨by rfl, ?_⟩) (both (boxOn HG2.out HBX.out) (boxOn HI.out HBX.out)) ?_
    rotate_left
    · intro w hSw
      (try dsimp only at hSw)
      go_simp
      try with_reducible rfl
    try simp only [Act.put, List.setIfInBounds_toArray, List.set_cons_zero, List.set_cons_succ]
    refine wpAnyH_ready (rs := [2]) (by kernel_rfl) (by simp) ?_
    refine AllReadyH.cons rfl (fun K hK => ?_) ?_
    rotate_left
    · exact AllReadyH.nil
    go_simp
    go_at_call 96
    refine (CW.out _ HBX.out).mono ?_
    rintro e wn ⟨rfl, hb⟩
    have HBX := Lib.hid (HBX.out.trans (hb.mono HBX.out.size))
    clear hb
    go_wp2_with fail
    refine hK.out _ _ (both (boxOn HG2.out HBX.out) (boxOn HI.out HBX.out)) (fun hHeld => ?_)
    clear hK K hHeld
    try simp only [Act.put, List.setIfInBounds_toArray, List.set_cons_zero, List.set_cons_succ]
    refine wpAnyH_take (i := 3) (oi := ⟨some 16, _, _, _, _, _⟩) (v := ?_) rfl (by kernel_rfl) (by kernel_rfl) (by kernel_rfl) (fun _ _ _ h => h) (Or.inl ⟨by rfl, ?_⟩) (both (boxOn HG2.out HBX.out) (boxOn HI.out HBX.out)) ?_
    rotate_left
    · intro w hSw
      (try dsimp only at hSw)
      go_simp
      try with_reducible rfl
    try simp only [Act.put, List.setIfInBounds_toArray, List.set_cons_zero, List.set_cons_succ]
    refine wpAnyH_take (i := 4) (oi := ⟨some 17, _, _, _, _, _⟩) (v := ?_) rfl (by kernel_rfl) (by kernel_rfl) (by kernel_rfl) (fun _ _ _ h => h) (Or.inl ⟨by rfl, ?_⟩) (both (boxOn HG2.out HBX.out) (boxOn HI.out HBX.out)) ?_
    rotate_left
    · intro w hSw
      (try dsimp only at hSw)
      go_simp
      try with_reducible rfl
    try simp only [Act.put, List.setIfInBounds_toArray, List.set_cons_zero, List.set_cons_succ]
    refine wpAnyH_take (i := 5) (oi := ⟨some 18, _, _, _, _, _⟩) (v := ?_) rfl (by kernel_rfl) (by kernel_rfl) (by kernel_rfl) (fun _ _ _ h => h) (Or.inl ⟨by rfl, ?_⟩) (both (boxOn HG2.out HBX.out) (boxOn HI.out HBX.out)) ?_
    rotate_left
    · intro w hSw
      (try dsimp only at hSw)
      go_simp
      try with_reducible rfl
    try simp only [Act.put, List.setIfInBounds_toArray, List.set_cons_zero, List.set_cons_succ]
    refine wpAnyH_take (i := 6) (oi := ⟨some 19, _, _, _, _, _⟩) (v := ?_) rfl (by kernel_rfl) (by kernel_rfl) (by kernel_rfl) (fun _ _ _ h => h) (Or.inl ⟨by rfl, ?_⟩) (both (boxOn HG2.out HBX.out) (boxOn HI.out HBX.out)) ?_
    rotate_left
    · intro w hSw
      (try dsimp only at hSw)
      go_simp
      try with_reducible rfl
    try simp only [Act.put, List.setIfInBounds_toArray, List.set_cons_zero, List.set_cons_succ]
    refine wpAnyH_take (i := 8) (oi := ⟨some 21, _, _, _, _, _⟩) (v := ?_) rfl (by kernel_rfl) (by kernel_rfl) (by kernel_rfl) (fun _ _ _ h => h) (Or.inl ⟨by rfl, ?_⟩) (both (boxOn HG2.out HBX.out) (boxOn HI.out HBX.out)) ?_
    rotate_left
    · intro w hSw
      (try dsimp only at hSw)
      go_simp
      try with_reducible rfl
    try simp only [Act.put, List.setIfInBounds_toArray, List.set_cons_zero, List.set_cons_succ]
    refine wpAnyH_ready (rs := [7]) (by kernel_rfl) (by simp) ?_
    refine AllReadyH.cons rfl (fun K hK => ?_) ?_
    rotate_left
    · exact AllReadyH.nil
    go_simp
    go_at_call 13
    refine (CU.out _).mono ?_
    rintro e wn ⟨vu, rfl, hou, hb⟩
    have HVU := Lib.hid (Reads.of_owns hou)
    have HBX := Lib.hid (HBX.out.trans (hb.mono HBX.out.size))
    clear hb hou
    go_wp2_with fail
    refine hK.out _ _ (both (boxOn HG2.out HBX.out) (boxOn HI.out HBX.out)) (fun hHeld => ?_)
    clear hK K hHeld
    try simp only [Act.put, List.setIfInBounds_toArray, List.set_cons_zero, List.set_cons_succ]
    refine wpAnyH_ready (rs := [9]) (by kernel_rfl) (by simp) ?_
    refine AllReadyH.cons rfl (fun K hK => ?_) ?_
    rotate_left
    · exact AllReadyH.nil
    go_simp
    go_at_call 97
    refine (CK.out _ HBX.out vu HVU.out).mono ?_
    rintro e wn ⟨rfl, hb⟩
    have HBX := Lib.hid (HBX.out.trans (hb.mono HBX.out.size))
    clear hb
    go_wp2_with fail
    refine hK.out _ _ (both (boxOn HG2.out HBX.out) (boxOn HI.out HBX.out)) (fun hHeld => ?_)
    clear hK K hHeld
    try simp only [Act.put, List.setIfInBounds_toArray, List.set_cons_zero, List.set_cons_succ]
    refine wpAnyH_take (i := 10) (oi := ⟨some 23, _, _, _, _, _⟩) (v := ?_) rfl (by kernel_rfl) (by kernel_rfl) (by kernel_rfl) (fun _ _ _ h => h) (Or.inl ⟨by rfl, ?_⟩) (both (boxOn HG2.out HBX.out) (boxOn HI.out HBX.out)) ?_
    rotate_left
    · intro w hSw
      (try dsimp only at hSw)
      go_simp
      try with_reducible rfl
    try simp only [Act.put, List.setIfInBounds_toArray, List.set_cons_zero, List.set_cons_succ]
    refine wpAnyH_take (i := 11) (oi := ⟨some 24, _, _, _, _, _⟩) (v := ?_) rfl (by kernel_rfl) (by kernel_rfl) (by kernel_rfl) (fun _ _ _ h => h) (Or.inl ⟨by rfl, ?_⟩) (both (boxOn HG2.out HBX.out) (boxOn HI.out HBX.out)) ?_
    rotate_left
    · intro w hSw
      (try dsimp only at hSw)
      go_simp
      try with_reducible rfl
    try simp only [Act.put, List.setIfInBounds_toArray, List.set_cons_zero, List.set_cons_succ]
    refine wpAnyH_done (by kernel_rfl) ?_ _
    cases b2 with
    | false =>
      have HF := Lib.hid (show res = false by rw [← HRB.out]; rfl)
      go_wp2
      go_ret
      exact ⟨by rw [HF.out]; rfl, HBF.out.trans (HBX.out.mono HBF.out.size)⟩
    | true =>
      have HRO := Lib.hid (show (outsL (op, a, b, c, d)).all (fun y => leads ⟨st, sl, bks, gr, gb, ins, outs, la, cells⟩ y (k : Int)) = res by have h := HRB.out; simpa using h)
      have HLL := Lib.hid (outsL_len (op, a, b, c, d))
      generalize outsL (op, a, b, c, d) = lo at HRO HLL CO
      have HI2 := Lib.hid (boxOn HI.out HBX.out)
      clear CW CU CK HVU
      go_wp2_with (refine ld_ins (by rfl) _ rfl g5 rfl (insA (op, a, b, c, d)) rfl HI2.out ?_)
      refine (CO.out _).mono ?_
      rintro e w3 ⟨vo, rfl, hoo, hb⟩
      have HBX := Lib.hid (HBX.out.trans (hb.mono HBX.out.size))
      have HVO := Lib.hid (Reads.of_owns hoo)
      obtain ⟨av, cv, rfl⟩ := reads_form HVO.out
      obtain ⟨n, hn⟩ : ∃ n, lo.length = n := ⟨_, rfl⟩
      have HN2 := Lib.hid hn
      have hn2 : n ≤ 2 := by rw [← hn]; exact HLL.out
      rw [hn] at HVO ⊢
      clear hoo hb CO HI2 hn
      go_wp2
      go_loopg [28] n (fun z i wr => ∃ j : Nat, z = n - j ∧ j ≤ n ∧ i = .int .i64 (j : Int) ∧ Hid (Below w3.heap.size w3 wr) ∧ Hid ((lo.drop j).all (fun y => leads ⟨st, sl, bks, gr, gb, ins, outs, la, cells⟩ y (k : Int)) = res))
      case atStart => exact ⟨0, rfl, Nat.zero_le _, rfl, Lib.hid (Below.refl _ _), Lib.hid HRO.out⟩
      case round =>
        obtain ⟨j, rfl, hj, rfl, HBR, HJ⟩ := hrel
        have HBX := Lib.hid (HBX.out.trans (HBR.out.mono HBX.out.size))
        have HBQ := Lib.hid (HBF.out.trans (HBX.out.mono HBF.out.size))
        by_cases hlt : j < n
        · obtain ⟨p, hp⟩ : ∃ p, lo[j]? = some p := ⟨_, List.getElem?_eq_getElem (by rw [HN2.out]; exact hlt)⟩
          have HSJ := Lib.hid (show (leads ⟨st, sl, bks, gr, gb, ins, outs, la, cells⟩ p (k : Int) && (lo.drop (j + 1)).all (fun y => leads ⟨st, sl, bks, gr, gb, ins, outs, la, cells⟩ y (k : Int))) = res by rw [← HJ.out]; exact (all_at (f := fun y => leads ⟨st, sl, bks, gr, gb, ins, outs, la, cells⟩ y (k : Int)) hp).symm)
          obtain ⟨ad2, rfl, q0⟩ := Reads.at' (HVO.out.below HBR.out) hp
          have z0 : (0 : Int) ≤ (j : Int) := by omega
          have z1 : (j : Int) < (n : Int) := by omega
          have C := Lib.hid (CL.out _ HBX.out p)
          have HGx := Lib.hid (boxOn HG2.out HBX.out)
          clear HJ hp
          cases hc : leads ⟨st, sl, bks, gr, gb, ins, outs, la, cells⟩ p (k : Int) with
          | false =>
            have HF := Lib.hid (show res = false by rw [← HSJ.out, hc]; rfl)
            rw [hc] at C
            clear hc HSJ
            go_wp2_with (refine ld_tr (by rfl) _ rfl g rfl (trB st sl bks gr gb (some ad) m ci ao no co la ac nc cc) rfl HGx.out ?_)
            refine C.out.mono ?_
            rintro e w4 ⟨rfl, hb⟩
            have HBQ := Lib.hid (HBQ.out.trans (hb.mono HBQ.out.size))
            clear hb C
            go_wp2
            go_ret
            exact ⟨by rw [HF.out]; rfl, HBQ.out⟩
          | true =>
            have HP := Lib.hid (show (lo.drop (j + 1)).all (fun y => leads ⟨st, sl, bks, gr, gb, ins, outs, la, cells⟩ y (k : Int)) = res by rw [← HSJ.out, hc]; rfl)
            rw [hc] at C
            clear hc HSJ
            go_wp2_with (refine ld_tr (by rfl) _ rfl g rfl (trB st sl bks gr gb (some ad) m ci ao no co la ac nc cc) rfl HGx.out ?_)
            refine C.out.mono ?_
            rintro e w4 ⟨rfl, hb⟩
            have HBR2 := Lib.hid (HBR.out.trans (hb.mono HBR.out.size))
            clear hb C
            go_wp2
            go_roundg (n - (j + 1))
            case measure => omega
            case rel => exact ⟨j + 1, rfl, by omega, by go_num, HBR2, HP⟩
        · obtain rfl : j = n := by omega
          have HF := Lib.hid (show res = true by rw [← HJ.out, drop_end HN2.out]; rfl)
          go_wp2
          go_ret
          exact ⟨by rw [HF.out]; rfl, HBQ.out⟩
end Go.Proofs.YtpecingkoodmfaaGreatDoor.Ir
