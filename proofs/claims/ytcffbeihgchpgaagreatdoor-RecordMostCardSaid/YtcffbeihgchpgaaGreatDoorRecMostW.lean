
/- RecordMost: the walk. -/
import Derived.Test.YtcffbeihgchpgaaGreatDoorRecMore
import Derived.Test.YtcffbeihgchpgaaGreatDoorG22
namespace Go.Proofs.YtcffbeihgchpgaaGreatDoor.RecordMost
open Go.RowKit Book Book.Wide Mem Mach Inn Rec
set_option linter.unusedVariables false
set_option linter.unusedSimpArgs false
def Yes (w : World) (e : Ending) (w' : World) : Prop := e = .returned (.bool true) ∧ Below w.heap.size w w'
theorem rec_size' : (Tryz.prog.info? 39).map (·.size) = some 4 := by kernel_rfl
section
variable {ops : Array Oper} {o : Oper} {a : Act} {w : World} {K : Act → World → Prop} {Q : Exit → Act → World → Prop} {F : Prop}
theorem step_alloc_rec (d : Tmp) (hw : Region.wanted o (yielded ops a.tmps) = true) (ho : o.op = .alloc 39) (hd : o.dst = some d)
    (h : ∀ g w', w.heap.size = g → w'.heap[g]? = some (.cells recZ 39 (0, 0)) → Below w.heap.size w w' → K (a.put (some d) (.pointer (some ⟨g, 0, none⟩))) w') : if Region.wanted o (yielded ops a.tmps) = true then o.wp Tryz.prog a w K Q else F := by
  rw [if_pos hw]
  have hk := h w.heap.size (w.alloc (.cells recZ 39)) rfl (heap_alloc_new w _) ((Below.refl w.heap.size w).alloc (Nat.le_refl _) _)
  rw [← hd] at hk
  obtain ⟨dst, op, ty, pos, after, guard⟩ := o
  simp only at ho hk ⊢
  subst ho
  clear h hw
  generalize hw' : w.alloc (.cells recZ 39) = w' at hk
  go_simp
  exact hk
theorem step_st_rec (hw : Region.wanted o (yielded ops a.tmps) = true) (hd : o.dst = none) (x y : Operand) (ho : o.op = .store 39 x y) (g : Nat) (r : R) (v : Value) (hv : v.oneCell' = true) (hx : a.eval x = .pointer (some ⟨g, 0, none⟩)) (hy : a.eval y = recV r v) (old : Array Value) (hg : w.heap[g]? = some (.cells old 39 (0, 0))) (hold : old.size = 4)
    (h : ∀ w', w'.heap[g]? = some (.cells (recA r v) 39 (0, 0)) → Stirred w w' [g] → K a w') : if Region.wanted o (yielded ops a.tmps) = true then o.wp Tryz.prog a w K Q else F := by
  rw [if_pos hw]
  have hk := h _ (setRow_heap w g old (recA r v) 39 (0, 0) hg) (Stirred.setRow w g (recA r v))
  have hk : K (a.put o.dst undef) (w.setRow g (recA r v)) := by rw [hd]; exact hk
  exact wp_store_row 39 x y ho g (recA r v) hx hy 39 old hg rec_size' (by rw [hold]; rfl) (recA_one r hv) hk
end
theorem owns_box {w w' : World} {B g : Nat} {v : Value} {l : List S} {c : Array Value} (h : OwnsK w B 55 4 v (l.flatMap seenCells)) (hs : Stirred w w' [g]) (hg : w.heap[g]? = some (.cells c 39 (0, 0))) : OwnsK w' B 55 4 v (l.flatMap seenCells) :=
  h.touch hs (fun k hk hm => by
    rw [List.mem_singleton] at hm
    subst hm
    obtain ⟨_, _, c', hc⟩ := h.block k hk
    rw [hg] at hc
    simp only [Option.some.injEq, Obj.cells.injEq] at hc
    exact absurd hc.2.1 (by decide))
theorem one_of {w : World} {B : Nat} {v : Value} {l : List S} (h : OwnsK w B 55 4 v (l.flatMap seenCells)) : v.oneCell' = true := by
  obtain ⟨ao, c, rfl⟩ := h.slice (seen_len l) (by decide)
  rfl
theorem take_flat (l : List S) (n : Nat) : (l.flatMap seenCells).take (n * 4) = (l.take n).flatMap seenCells := by
  induction l generalizing n with
  | nil => simp
  | cons x l ih =>
    cases n with
    | zero => simp
    | succ n =>
      rw [List.take_succ_cons, List.flatMap_cons, List.flatMap_cons, show (n + 1) * 4 = (seenCells x).length + n * 4 by simp [seenCells]; omega, List.take_length_add_append, ih]
theorem eight {w : World} {b7 b8 : Nat} {s l : Int} {o : Bool} {vx vy : Value} (h7 : w.heap[b7]? = some (.cells #[.int .i64 s, .int .i64 l, .bool o, vx] 39 (0, 0))) (h8 : w.heap[b8]? = some (.cells #[.int .i64 s, .int .i64 l, .bool o, vy] 39 (0, 0))) : w.cell? ⟨b7, 0, none⟩ = some (.int .i64 s) ∧ w.cell? ⟨b7, 1, none⟩ = some (.int .i64 l) ∧ w.cell? ⟨b7, 2, none⟩ = some (.bool o) ∧ w.cell? ⟨b7, 3, none⟩ = some vx ∧ w.cell? ⟨b8, 0, none⟩ = some (.int .i64 s) ∧ w.cell? ⟨b8, 1, none⟩ = some (.int .i64 l) ∧ w.cell? ⟨b8, 2, none⟩ = some (.bool o) ∧ w.cell? ⟨b8, 3, none⟩ = some vy :=
  ⟨whole_cell h7 rfl, whole_cell h7 rfl, whole_cell h7 rfl, whole_cell h7 rfl, whole_cell h8 rfl, whole_cell h8 rfl, whole_cell h8 rfl, whole_cell h8 rfl⟩
/-- behind the region: both recordings in their boxes -/
structure PM (w wx : World) (b7 b8 : Nat) (x y : R) (vx vy : Value) : Prop where
  hb : Below w.heap.size w wx
  h7 : wx.heap[b7]? = some (.cells (recA x vx) 39 (0, 0))
  h8 : wx.heap[b8]? = some (.cells (recA y vy) 39 (0, 0))
  ox : OwnsK wx w.heap.size 55 4 vx (x.steps.flatMap seenCells)
  oy : OwnsK wx w.heap.size 55 4 vy (y.steps.flatMap seenCells)
set_option maxHeartbeats 8000000 in
set_option maxRecDepth 100000 in
/-- what is not small enough -/
theorem less_small (v : Value) (m : M) (a b : Int) (W : World) (h : ReadsM W v m) (hi : m.inp.size ≤ maxLen) (ho : m.out.size ≤ maxLen) (hE : ∀ wc, Below W.heap.size W wc → Tabs wc)
    (hg : lightB m = false ∨ lightB m = true ∧ (a < 0 ∨ ¬ a < 0 ∧ (b < a ∨ ¬ b < a ∧ 120 < b))) :
    Calls Tryz.prog 5 #[v, .int .i64 a, .int .i64 b] W (Yes W) := by
  have HV := Lib.hid h
  have HE := Lib.hid hE
  obtain ⟨vs, vb, vm, rfl, -, -, -⟩ := h
  obtain ⟨w1, g, hw1, hg', HX, HB1, HG⟩ := newBox W (cells10 m.ip m.handler vs vb vm m.out m.inp m.read m.status m.code) 24
  have C := Lib.hid (light_any (HV.out.below HB1.out) hi ho)
  clear hE hi ho
  rcases hg with c | ⟨c, c1 | ⟨c1, c2 | ⟨c2, c3⟩⟩⟩ <;> rw [c] at C <;> clear c
  all_goals
    go_enter Tryz.func5, Tryz.ntmps5
    go_wp2_with (refine ld_state (by rfl) _ rfl _ rfl _ _ HX.out rfl ?_)
    refine C.out.mono ?_
    rintro e w2 ⟨rfl, hb⟩
    have HB2 := Lib.hid (HB1.out.trans (hb.mono HB1.out.size))
    have A := Lib.hid (Rec.alive_any w2 (fun wc hbc => HE.out wc (HB2.out.trans (hbc.mono HB2.out.size))))
    clear C hb HX HV HG
    go_wp2_with fail
    refine A.out.mono ?_
    rintro e w3 ⟨rfl, hb⟩
    have HB3 := Lib.hid (HB2.out.trans (hb.mono HB2.out.size))
    clear hb A HB2
    go_wp2
    go_ret
    exact ⟨rfl, HB3.out⟩
set_option maxHeartbeats 16000000 in
set_option maxRecDepth 100000 in
theorem small (v : Value) (m : M) (a b : Nat) (hab : a ≤ b) (hb120 : b ≤ 120) (W : World) (h : ReadsM W v m) (hi : m.inp.size ≤ maxLen) (ho : m.out.size ≤ maxLen) (hc : Cells m) (hl : lightB m = true) (hE : ∀ wc, Below W.heap.size W wc → Tabs wc) :
    Calls Tryz.prog 5 #[v, .int .i64 a, .int .i64 b] W (Yes W) := by
  obtain ⟨l1, l2, hr⟩ := (lightB_iff m).1 hl
  have HV := Lib.hid h
  have HE := Lib.hid hE
  obtain ⟨vs, vb, vm, rfl, hs, hb, hm⟩ := h
  obtain ⟨s1, n1, d1, rfl⟩ := reads_known hs
  obtain ⟨s2, n2, d2, rfl⟩ := reads_known hb
  obtain ⟨s3, n3, d3, rfl⟩ := reads_known hm
  obtain ⟨w1, g, hw1, hg', HX, HB1, HG⟩ := newBox W (cells10 m.ip m.handler (.slice s1 n1 d1) (.slice s2 n2 d2) (.slice s3 n3 d3) m.out m.inp m.read m.status m.code) 24
  have C := Lib.hid (light_any (HV.out.below HB1.out) hi ho)
  rw [hl] at C
  have HRC := Lib.hid (And.intro hr (And.intro hc hi))
  have hma : mostOf (a : Int) = a := by unfold mostOf; omega
  have hmb : mostOf (b : Int) = b := by unfold mostOf; omega
  obtain ⟨RA, hRA⟩ : ∃ R, recOf m a = R := ⟨_, rfl⟩
  obtain ⟨RB, hRB⟩ : ∃ R, recOf m b = R := ⟨_, rfl⟩
  obtain ⟨q1, q2, q3, q4⟩ := tape_less m.ip (b - a) a [] (bare m) RA RB hRA (by rw [show a + (b - a) = b by omega]; exact hRB)
  have q1 : RA.steps.length ≤ a := by rw [List.length_nil, Nat.zero_add] at q1; exact q1
  have q4 : RA.steps.length = a ∨ RA = RB := by rw [List.length_nil, Nat.zero_add] at q4; exact q4
  have qb : RB.steps.length ≤ 120 := by
    have := (tape_less m.ip 0 b [] (bare m) RB RB hRB hRB).1
    rw [List.length_nil, Nat.zero_add] at this
    omega
  have HQ := Lib.hid (And.intro q1 (And.intro q2 (And.intro q3 (And.intro q4 qb))))
  have z0 : ¬ (a : Int) < 0 := by omega
  have z1 : ¬ (b : Int) < (a : Int) := by omega
  have z2 : ¬ (120 : Int) < (b : Int) := by omega
  have HE2 := Lib.hid (show ∀ wc, Below W.heap.size W wc → Calls Tryz.prog 11 #[stV m (.slice s1 n1 d1) (.slice s2 n2 d2) (.slice s3 n3 d3), .int .i64 a] wc (GivesR RA wc) from fun wc hbw => by
    have := loop_any (HV.out.below hbw) HRC.out.1 HRC.out.2.1 HRC.out.2.2 (fun wd hbd => HE.out wd (hbw.trans (hbd.mono hbw.size))) (a : Int)
    rw [hma, hRA] at this; exact this)
  have HF2 := Lib.hid (show ∀ wc, Below W.heap.size W wc → Calls Tryz.prog 11 #[stV m (.slice s1 n1 d1) (.slice s2 n2 d2) (.slice s3 n3 d3), .int .i64 b] wc (GivesR RB wc) from fun wc hbw => by
    have := loop_any (HV.out.below hbw) HRC.out.1 HRC.out.2.1 HRC.out.2.2 (fun wd hbd => HE.out wd (hbw.trans (hbd.mono hbw.size))) (b : Int)
    rw [hmb, hRB] at this; exact this)
  clear hs hb hm hi ho hc hr hl l1 l2 hE q1 q2 q3 q4 qb hRA hRB hma hmb
  go_enter Tryz.func5, Tryz.ntmps5
  go_wp2_with (refine ld_state (by rfl) _ rfl _ rfl _ _ HX.out rfl ?_)
  refine C.out.mono ?_
  rintro e w2 ⟨rfl, hb2⟩
  have HB2 := Lib.hid (HB1.out.trans (hb2.mono HB1.out.size))
  have HX2 := Lib.hid (boxOn HX.out hb2)
  have A := Lib.hid (Rec.alive_any w2 (fun wc hbc => HE.out wc (HB2.out.trans (hbc.mono HB2.out.size))))
  clear C hb2 hw1 hg'
  go_wp2_with fail
  refine A.out.mono ?_
  rintro e w3 ⟨rfl, hb3⟩
  have HB3 := Lib.hid (HB2.out.trans (hb3.mono HB2.out.size))
  have HX3 := Lib.hid (boxOn HX2.out hb3)
  clear A hb3
  go_upto_region 3 with fail
  have HX := Lib.hid (show Below w3.heap.size w3 w3.drew from (Below.refl _ _).drew)
  have H14 := Lib.hid (show w3.drew.heap[g]? = _ from HX3.out)
  have N14 := Lib.hid (show g < w3.heap.size from whole_lt HX3.out)
  have HEn := Lib.hid (fun wc (hb : Below w3.heap.size w3 wc) => HE2.out wc (HB3.out.trans (hb.mono HB3.out.size)))
  have HFa := Lib.hid (fun wc (hb : Below w3.heap.size w3 wc) => HF2.out wc (HB3.out.trans (hb.mono HB3.out.size)))
  go_cut [7, 8] (fun z y wx => ∃ b7 b8 vx vy, z = .pointer (some ⟨b7, 0, none⟩) ∧ y = .pointer (some ⟨b8, 0, none⟩) ∧ Hid (PM w3 wx b7 b8 RA RB vx vy))
  case first =>
    refine wp_region_held (S := fun w' => w'.cell? ⟨g, 0, none⟩ = some (.int .i64 m.ip) ∧ w'.cell? ⟨g, 1, none⟩ = some (.int .i64 m.handler) ∧ w'.cell? ⟨g, 2, none⟩ = some (.slice s1 n1 d1) ∧ w'.cell? ⟨g, 3, none⟩ = some (.slice s2 n2 d2) ∧ w'.cell? ⟨g, 4, none⟩ = some (.slice s3 n3 d3) ∧ w'.cell? ⟨g, 5, none⟩ = some (.string m.out) ∧ w'.cell? ⟨g, 6, none⟩ = some (.string m.inp) ∧ w'.cell? ⟨g, 7, none⟩ = some (.int .i64 m.read) ∧ w'.cell? ⟨g, 8, none⟩ = some (.int .i64 m.status) ∧ w'.cell? ⟨g, 9, none⟩ = some (.int .i64 m.code)) (by kernel_rfl) ?_
    change wpAnyH _ _ _ _ _ _ _ _ (World.drew w3)
    refine wpAnyH_take (i := 0) (oi := ⟨some 30, _, _, _, _, _⟩) (v := ?_) rfl (by kernel_rfl) (by kernel_rfl) (by kernel_rfl) (fun _ _ _ h => h) (Or.inl ⟨by rfl, ?_⟩) (cells_ten H14.out) ?_
    rotate_left
    · intro w hSw
      (try dsimp only at hSw)
      go_simp
      try with_reducible rfl
    try simp only [Act.put, List.setIfInBounds_toArray, List.set_cons_zero, List.set_cons_succ]
    refine wpAnyH_take (i := 1) (oi := ⟨some 31, _, _, _, _, _⟩) (v := ?_) rfl (by kernel_rfl) (by kernel_rfl) (by kernel_rfl) (fun _ _ _ h => h) (Or.inl ⟨by rfl, ?_⟩) (cells_ten H14.out) ?_
    rotate_left
    · intro w hSw
      (try dsimp only at hSw)
      go_simp
      try with_reducible rfl
    try simp only [Act.put, List.setIfInBounds_toArray, List.set_cons_zero, List.set_cons_succ]
    refine wpAnyH_take (i := 3) (oi := ⟨some 33, _, _, _, _, _⟩) (v := ?_) rfl (by kernel_rfl) (by kernel_rfl) (by kernel_rfl) (fun _ _ _ h => h) (Or.inl ⟨by rfl, ?_⟩) (cells_ten H14.out) ?_
    rotate_left
    · intro w hSw
      (try dsimp only at hSw)
      go_simp
      try with_reducible rfl
    try simp only [Act.put, List.setIfInBounds_toArray, List.set_cons_zero, List.set_cons_succ]
    refine wpAnyH_take (i := 4) (oi := ⟨some 34, _, _, _, _, _⟩) (v := ?_) rfl (by kernel_rfl) (by kernel_rfl) (by kernel_rfl) (fun _ _ _ h => h) (Or.inl ⟨by rfl, ?_⟩) (cells_ten H14.out) ?_
    rotate_left
    · intro w hSw
      (try dsimp only at hSw)
      go_simp
      try with_reducible rfl
    try simp only [Act.put, List.setIfInBounds_toArray, List.set_cons_zero, List.set_cons_succ]
    refine wpAnyH_ready (rs := [2, 6, 7]) (by kernel_rfl) (by simp) ?_
    refine AllReadyH.cons rfl (fun K hK => ?_) ?_
    · go_simp
      go_at_call 11
      refine (HEn.out _ HX.out).mono ?_
      rintro e wn ⟨vx, rfl, ho, hb⟩
      have HOE1 := Lib.hid (ho.from HX.out.size)
      have H14 := Lib.hid (boxOn H14.out hb)
      have HX := Lib.hid (HX.out.trans (hb.mono HX.out.size))
      have HOE := HOE1
      clear ho hb
      go_wp2_with fail
      refine hK.out _ _ (cells_ten H14.out) (fun hHeld => ?_)
      clear hK K hHeld
      try simp only [Act.put, List.setIfInBounds_toArray, List.set_cons_zero, List.set_cons_succ]
      refine wpAnyH_ready (rs := [5, 6, 7]) (by kernel_rfl) (by simp) ?_
      refine AllReadyH.cons rfl (fun K hK => ?_) ?_
      · go_simp
        go_at_call 11
        refine (HFa.out _ HX.out).mono ?_
        rintro e wn ⟨vy, rfl, ho, hb⟩
        have HOF1 := Lib.hid (ho.from HX.out.size)
        have H14 := Lib.hid (boxOn H14.out hb)
        have HOE := Lib.hid (HOE.out.below hb)
        have HX := Lib.hid (HX.out.trans (hb.mono HX.out.size))
        have HOF := HOF1
        clear ho hb
        go_wp2_with fail
        refine hK.out _ _ (cells_ten H14.out) (fun hHeld => ?_)
        clear hK K hHeld
        try simp only [Act.put, List.setIfInBounds_toArray, List.set_cons_zero, List.set_cons_succ]
        refine wpAnyH_ready (rs := [6, 7]) (by kernel_rfl) (by simp) ?_
        refine AllReadyH.cons rfl (fun K hK => ?_) ?_
        · refine step_alloc_rec 7 (by rfl) rfl rfl ?_
          intro b7 wn hg hnew hb
          have N7 := Lib.hid (show w3.heap.size ≤ b7 by rw [← hg]; exact HX.out.size)
          have H14 := Lib.hid (boxOn H14.out hb)
          have HOE := Lib.hid (HOE.out.below hb)
          have HOF := Lib.hid (HOF.out.below hb)
          have HX := Lib.hid (HX.out.trans (hb.mono HX.out.size))
          have A7 := Lib.hid hnew
          clear hg hnew hb
          refine hK.out _ _ (cells_ten H14.out) (fun hHeld => ?_)
          clear hK K hHeld
          try simp only [Act.put, List.setIfInBounds_toArray, List.set_cons_zero, List.set_cons_succ]
          refine wpAnyH_ready (rs := [7]) (by kernel_rfl) (by simp) ?_
          refine AllReadyH.cons rfl (fun K hK => ?_) ?_
          · refine step_alloc_rec 8 (by rfl) rfl rfl ?_
            intro b8 wn hg hnew hb
            have N8 := Lib.hid (show w3.heap.size ≤ b8 by rw [← hg]; exact HX.out.size)
            have NE := Lib.hid (show b7 < b8 by rw [← hg]; exact whole_lt A7.out)
            have H14 := Lib.hid (boxOn H14.out hb)
            have A7 := Lib.hid (boxOn A7.out hb)
            have HOE := Lib.hid (HOE.out.below hb)
            have HOF := Lib.hid (HOF.out.below hb)
            have HX := Lib.hid (HX.out.trans (hb.mono HX.out.size))
            have A8 := Lib.hid hnew
            clear hg hnew hb
            refine hK.out _ _ (cells_ten H14.out) (fun hHeld => ?_)
            clear hK K hHeld
            try simp only [Act.put, List.setIfInBounds_toArray, List.set_cons_zero, List.set_cons_succ]
            refine wpAnyH_ready (rs := [8]) (by kernel_rfl) (by simp) ?_
            refine AllReadyH.cons rfl (fun K hK => ?_) ?_
            · refine step_st_rec (by rfl) rfl _ _ rfl b7 RA vx (one_of HOE.out) rfl rfl _ A7.out rfl ?_
              intro wp h7 ht
              have hlow : ∀ k ∈ [b7], w3.heap.size ≤ k := fun k hk => by rw [List.mem_singleton.1 hk]; exact N7.out
              have HXp := Lib.hid (HX.out.trans (ht.below hlow HX.out.size))
              have H14 := Lib.hid (ht.whole H14.out (fun hm => by have h0 := List.mem_singleton.1 hm; have h1 := N7.out; have h2 := N14.out; omega))
              have A8 := Lib.hid (ht.whole A8.out (fun hm => by have h0 := List.mem_singleton.1 hm; have := NE.out; omega))
              have HOE := Lib.hid (owns_box HOE.out ht A7.out)
              have HOF := Lib.hid (owns_box HOF.out ht A7.out)
              have B7 := Lib.hid h7
              clear ht h7 hlow
              refine hK.out _ _ (cells_ten H14.out) (fun hHeld => ?_)
              clear hK K hHeld
              try simp only [Act.put, List.setIfInBounds_toArray, List.set_cons_zero, List.set_cons_succ]
              refine wpAnyH_ready (rs := [9]) (by kernel_rfl) (by simp) ?_
              refine AllReadyH.cons rfl (fun K hK => ?_) ?_
              · refine step_st_rec (by rfl) rfl _ _ rfl b8 RB vy (one_of HOF.out) rfl rfl _ A8.out rfl ?_
                intro wq h8 ht
                have hlow : ∀ k ∈ [b8], w3.heap.size ≤ k := fun k hk => by rw [List.mem_singleton.1 hk]; exact N8.out
                have HF9 := Lib.hid (show PM w3 wq b7 b8 RA RB vx vy from ⟨HXp.out.trans (ht.below hlow HXp.out.size), ht.whole B7.out (fun hm => by have h0 := List.mem_singleton.1 hm; have := NE.out; omega), h8, owns_box HOE.out ht A8.out, owns_box HOF.out ht A8.out⟩)
                have H14 := Lib.hid (ht.whole H14.out (fun hm => by have h0 := List.mem_singleton.1 hm; have h1 := N8.out; have h2 := N14.out; omega))
                clear ht h8 hlow
                refine hK.out _ _ (cells_ten H14.out) (fun hHeld => ?_)
                clear hK K hHeld
                try simp only [Act.put, List.setIfInBounds_toArray, List.set_cons_zero, List.set_cons_succ]
                refine wpAnyH_done (by kernel_rfl) ?_ _
                first | go_meet | (go_wp2_with fail; go_meet)
                exact ⟨_, _, _, _, rfl, rfl, HF9⟩
              · exact AllReadyH.nil
            · exact AllReadyH.nil
          exact AllReadyH.nil
        refine AllReadyH.cons rfl (fun K hK => ?_) ?_
        · refine step_alloc_rec 8 (by rfl) rfl rfl ?_
          intro b8 wn hg hnew hb
          have N8 := Lib.hid (show w3.heap.size ≤ b8 by rw [← hg]; exact HX.out.size)
          have H14 := Lib.hid (boxOn H14.out hb)
          have HOE := Lib.hid (HOE.out.below hb)
          have HOF := Lib.hid (HOF.out.below hb)
          have HX := Lib.hid (HX.out.trans (hb.mono HX.out.size))
          have A8 := Lib.hid hnew
          clear hg hnew hb
          refine hK.out _ _ (cells_ten H14.out) (fun hHeld => ?_)
          clear hK K hHeld
          try simp only [Act.put, List.setIfInBounds_toArray, List.set_cons_zero, List.set_cons_succ]
          refine wpAnyH_ready (rs := [6]) (by kernel_rfl) (by simp) ?_
          refine AllReadyH.cons rfl (fun K hK => ?_) ?_
          · refine step_alloc_rec 7 (by rfl) rfl rfl ?_
            intro b7 wn hg hnew hb
            have N7 := Lib.hid (show w3.heap.size ≤ b7 by rw [← hg]; exact HX.out.size)
            have NE := Lib.hid (show b8 < b7 by rw [← hg]; exact whole_lt A8.out)
            have H14 := Lib.hid (boxOn H14.out hb)
            have A8 := Lib.hid (boxOn A8.out hb)
            have HOE := Lib.hid (HOE.out.below hb)
            have HOF := Lib.hid (HOF.out.below hb)
            have HX := Lib.hid (HX.out.trans (hb.mono HX.out.size))
            have A7 := Lib.hid hnew
            clear hg hnew hb
            refine hK.out _ _ (cells_ten H14.out) (fun hHeld => ?_)
            clear hK K hHeld
            try simp only [Act.put, List.setIfInBounds_toArray, List.set_cons_zero, List.set_cons_succ]
            refine wpAnyH_ready (rs := [8]) (by kernel_rfl) (by simp) ?_
            refine AllReadyH.cons rfl (fun K hK => ?_) ?_
            · refine step_st_rec (by rfl) rfl _ _ rfl b7 RA vx (one_of HOE.out) rfl rfl _ A7.out rfl ?_
              intro wp h7 ht
              have hlow : ∀ k ∈ [b7], w3.heap.size ≤ k := fun k hk => by rw [List.mem_singleton.1 hk]; exact N7.out
              have HXp := Lib.hid (HX.out.trans (ht.below hlow HX.out.size))
              have H14 := Lib.hid (ht.whole H14.out (fun hm => by have h0 := List.mem_singleton.1 hm; have h1 := N7.out; have h2 := N14.out; omega))
              have A8 := Lib.hid (ht.whole A8.out (fun hm => by have h0 := List.mem_singleton.1 hm; have := NE.out; omega))
              have HOE := Lib.hid (owns_box HOE.out ht A7.out)
              have HOF := Lib.hid (owns_box HOF.out ht A7.out)
              have B7 := Lib.hid h7
              clear ht h7 hlow
              refine hK.out _ _ (cells_ten H14.out) (fun hHeld => ?_)
              clear hK K hHeld
              try simp only [Act.put, List.setIfInBounds_toArray, List.set_cons_zero, List.set_cons_succ]
              refine wpAnyH_ready (rs := [9]) (by kernel_rfl) (by simp) ?_
              refine AllReadyH.cons rfl (fun K hK => ?_) ?_
              · refine step_st_rec (by rfl) rfl _ _ rfl b8 RB vy (one_of HOF.out) rfl rfl _ A8.out rfl ?_
                intro wq h8 ht
                have hlow : ∀ k ∈ [b8], w3.heap.size ≤ k := fun k hk => by rw [List.mem_singleton.1 hk]; exact N8.out
                have HF9 := Lib.hid (show PM w3 wq b7 b8 RA RB vx vy from ⟨HXp.out.trans (ht.below hlow HXp.out.size), ht.whole B7.out (fun hm => by have h0 := List.mem_singleton.1 hm; have := NE.out; omega), h8, owns_box HOE.out ht A8.out, owns_box HOF.out ht A8.out⟩)
                have H14 := Lib.hid (ht.whole H14.out (fun hm => by have h0 := List.mem_singleton.1 hm; have h1 := N8.out; have h2 := N14.out; omega))
                clear ht h8 hlow
                refine hK.out _ _ (cells_ten H14.out) (fun hHeld => ?_)
                clear hK K hHeld
                try simp only [Act.put, List.setIfInBounds_toArray, List.set_cons_zero, List.set_cons_succ]
                refine wpAnyH_done (by kernel_rfl) ?_ _
                first | go_meet | (go_wp2_with fail; go_meet)
                exact ⟨_, _, _, _, rfl, rfl, HF9⟩
              · exact AllReadyH.nil
            · exact AllReadyH.nil
          exact AllReadyH.nil
        exact AllReadyH.nil
      refine AllReadyH.cons rfl (fun K hK => ?_) ?_
      · refine step_alloc_rec 7 (by rfl) rfl rfl ?_
        intro b7 wn hg hnew hb
        have N7 := Lib.hid (show w3.heap.size ≤ b7 by rw [← hg]; exact HX.out.size)
        have H14 := Lib.hid (boxOn H14.out hb)
        have HOE := Lib.hid (HOE.out.below hb)
        have HX := Lib.hid (HX.out.trans (hb.mono HX.out.size))
        have A7 := Lib.hid hnew
        clear hg hnew hb
        refine hK.out _ _ (cells_ten H14.out) (fun hHeld => ?_)
        clear hK K hHeld
        try simp only [Act.put, List.setIfInBounds_toArray, List.set_cons_zero, List.set_cons_succ]
        refine wpAnyH_ready (rs := [5, 7]) (by kernel_rfl) (by simp) ?_
        refine AllReadyH.cons rfl (fun K hK => ?_) ?_
        · go_simp
          go_at_call 11
          refine (HFa.out _ HX.out).mono ?_
          rintro e wn ⟨vy, rfl, ho, hb⟩
          have HOF1 := Lib.hid (ho.from HX.out.size)
          have H14 := Lib.hid (boxOn H14.out hb)
          have A7 := Lib.hid (boxOn A7.out hb)
          have HOE := Lib.hid (HOE.out.below hb)
          have HX := Lib.hid (HX.out.trans (hb.mono HX.out.size))
          have HOF := HOF1
          clear ho hb
          go_wp2_with fail
          refine hK.out _ _ (cells_ten H14.out) (fun hHeld => ?_)
          clear hK K hHeld
          try simp only [Act.put, List.setIfInBounds_toArray, List.set_cons_zero, List.set_cons_succ]
          refine wpAnyH_ready (rs := [7]) (by kernel_rfl) (by simp) ?_
          refine AllReadyH.cons rfl (fun K hK => ?_) ?_
          · refine step_alloc_rec 8 (by rfl) rfl rfl ?_
            intro b8 wn hg hnew hb
            have N8 := Lib.hid (show w3.heap.size ≤ b8 by rw [← hg]; exact HX.out.size)
            have NE := Lib.hid (show b7 < b8 by rw [← hg]; exact whole_lt A7.out)
            have H14 := Lib.hid (boxOn H14.out hb)
            have A7 := Lib.hid (boxOn A7.out hb)
            have HOE := Lib.hid (HOE.out.below hb)
            have HOF := Lib.hid (HOF.out.below hb)
            have HX := Lib.hid (HX.out.trans (hb.mono HX.out.size))
            have A8 := Lib.hid hnew
            clear hg hnew hb
            refine hK.out _ _ (cells_ten H14.out) (fun hHeld => ?_)
            clear hK K hHeld
            try simp only [Act.put, List.setIfInBounds_toArray, List.set_cons_zero, List.set_cons_succ]
            refine wpAnyH_ready (rs := [8]) (by kernel_rfl) (by simp) ?_
            refine AllReadyH.cons rfl (fun K hK => ?_) ?_
            · refine step_st_rec (by rfl) rfl _ _ rfl b7 RA vx (one_of HOE.out) rfl rfl _ A7.out rfl ?_
              intro wp h7 ht
              have hlow : ∀ k ∈ [b7], w3.heap.size ≤ k := fun k hk => by rw [List.mem_singleton.1 hk]; exact N7.out
              have HXp := Lib.hid (HX.out.trans (ht.below hlow HX.out.size))
              have H14 := Lib.hid (ht.whole H14.out (fun hm => by have h0 := List.mem_singleton.1 hm; have h1 := N7.out; have h2 := N14.out; omega))
              have A8 := Lib.hid (ht.whole A8.out (fun hm => by have h0 := List.mem_singleton.1 hm; have := NE.out; omega))
              have HOE := Lib.hid (owns_box HOE.out ht A7.out)
              have HOF := Lib.hid (owns_box HOF.out ht A7.out)
              have B7 := Lib.hid h7
              clear ht h7 hlow
              refine hK.out _ _ (cells_ten H14.out) (fun hHeld => ?_)
              clear hK K hHeld
              try simp only [Act.put, List.setIfInBounds_toArray, List.set_cons_zero, List.set_cons_succ]
              refine wpAnyH_ready (rs := [9]) (by kernel_rfl) (by simp) ?_
              refine AllReadyH.cons rfl (fun K hK => ?_) ?_
              · refine step_st_rec (by rfl) rfl _ _ rfl b8 RB vy (one_of HOF.out) rfl rfl _ A8.out rfl ?_
                intro wq h8 ht
                have hlow : ∀ k ∈ [b8], w3.heap.size ≤ k := fun k hk => by rw [List.mem_singleton.1 hk]; exact N8.out
                have HF9 := Lib.hid (show PM w3 wq b7 b8 RA RB vx vy from ⟨HXp.out.trans (ht.below hlow HXp.out.size), ht.whole B7.out (fun hm => by have h0 := List.mem_singleton.1 hm; have := NE.out; omega), h8, owns_box HOE.out ht A8.out, owns_box HOF.out ht A8.out⟩)
                have H14 := Lib.hid (ht.whole H14.out (fun hm => by have h0 := List.mem_singleton.1 hm; have h1 := N8.out; have h2 := N14.out; omega))
                clear ht h8 hlow
                refine hK.out _ _ (cells_ten H14.out) (fun hHeld => ?_)
                clear hK K hHeld
                try simp only [Act.put, List.setIfInBounds_toArray, List.set_cons_zero, List.set_cons_succ]
                refine wpAnyH_done (by kernel_rfl) ?_ _
                first | go_meet | (go_wp2_with fail; go_meet)
                exact ⟨_, _, _, _, rfl, rfl, HF9⟩
              · exact AllReadyH.nil
            · exact AllReadyH.nil
          exact AllReadyH.nil
        refine AllReadyH.cons rfl (fun K hK => ?_) ?_
        · refine step_alloc_rec 8 (by rfl) rfl rfl ?_
          intro b8 wn hg hnew hb
          have N8 := Lib.hid (show w3.heap.size ≤ b8 by rw [← hg]; exact HX.out.size)
          have NE := Lib.hid (show b7 < b8 by rw [← hg]; exact whole_lt A7.out)
          have H14 := Lib.hid (boxOn H14.out hb)
          have A7 := Lib.hid (boxOn A7.out hb)
          have HOE := Lib.hid (HOE.out.below hb)
          have HX := Lib.hid (HX.out.trans (hb.mono HX.out.size))
          have A8 := Lib.hid hnew
          clear hg hnew hb
          refine hK.out _ _ (cells_ten H14.out) (fun hHeld => ?_)
          clear hK K hHeld
          try simp only [Act.put, List.setIfInBounds_toArray, List.set_cons_zero, List.set_cons_succ]
          refine wpAnyH_ready (rs := [5]) (by kernel_rfl) (by simp) ?_
          refine AllReadyH.cons rfl (fun K hK => ?_) ?_
          · go_simp
            go_at_call 11
            refine (HFa.out _ HX.out).mono ?_
            rintro e wn ⟨vy, rfl, ho, hb⟩
            have HOF1 := Lib.hid (ho.from HX.out.size)
            have H14 := Lib.hid (boxOn H14.out hb)
            have A7 := Lib.hid (boxOn A7.out hb)
            have A8 := Lib.hid (boxOn A8.out hb)
            have HOE := Lib.hid (HOE.out.below hb)
            have HX := Lib.hid (HX.out.trans (hb.mono HX.out.size))
            have HOF := HOF1
            clear ho hb
            go_wp2_with fail
            refine hK.out _ _ (cells_ten H14.out) (fun hHeld => ?_)
            clear hK K hHeld
            try simp only [Act.put, List.setIfInBounds_toArray, List.set_cons_zero, List.set_cons_succ]
            refine wpAnyH_ready (rs := [8]) (by kernel_rfl) (by simp) ?_
            refine AllReadyH.cons rfl (fun K hK => ?_) ?_
            · refine step_st_rec (by rfl) rfl _ _ rfl b7 RA vx (one_of HOE.out) rfl rfl _ A7.out rfl ?_
              intro wp h7 ht
              have hlow : ∀ k ∈ [b7], w3.heap.size ≤ k := fun k hk => by rw [List.mem_singleton.1 hk]; exact N7.out
              have HXp := Lib.hid (HX.out.trans (ht.below hlow HX.out.size))
              have H14 := Lib.hid (ht.whole H14.out (fun hm => by have h0 := List.mem_singleton.1 hm; have h1 := N7.out; have h2 := N14.out; omega))
              have A8 := Lib.hid (ht.whole A8.out (fun hm => by have h0 := List.mem_singleton.1 hm; have := NE.out; omega))
              have HOE := Lib.hid (owns_box HOE.out ht A7.out)
              have HOF := Lib.hid (owns_box HOF.out ht A7.out)
              have B7 := Lib.hid h7
              clear ht h7 hlow
              refine hK.out _ _ (cells_ten H14.out) (fun hHeld => ?_)
              clear hK K hHeld
              try simp only [Act.put, List.setIfInBounds_toArray, List.set_cons_zero, List.set_cons_succ]
              refine wpAnyH_ready (rs := [9]) (by kernel_rfl) (by simp) ?_
              refine AllReadyH.cons rfl (fun K hK => ?_) ?_
              · refine step_st_rec (by rfl) rfl _ _ rfl b8 RB vy (one_of HOF.out) rfl rfl _ A8.out rfl ?_
                intro wq h8 ht
                have hlow : ∀ k ∈ [b8], w3.heap.size ≤ k := fun k hk => by rw [List.mem_singleton.1 hk]; exact N8.out
                have HF9 := Lib.hid (show PM w3 wq b7 b8 RA RB vx vy from ⟨HXp.out.trans (ht.below hlow HXp.out.size), ht.whole B7.out (fun hm => by have h0 := List.mem_singleton.1 hm; have := NE.out; omega), h8, owns_box HOE.out ht A8.out, owns_box HOF.out ht A8.out⟩)
                have H14 := Lib.hid (ht.whole H14.out (fun hm => by have h0 := List.mem_singleton.1 hm; have h1 := N8.out; have h2 := N14.out; omega))
                clear ht h8 hlow
                refine hK.out _ _ (cells_ten H14.out) (fun hHeld => ?_)
                clear hK K hHeld
                try simp only [Act.put, List.setIfInBounds_toArray, List.set_cons_zero, List.set_cons_succ]
                refine wpAnyH_done (by kernel_rfl) ?_ _
                first | go_meet | (go_wp2_with fail; go_meet)
                exact ⟨_, _, _, _, rfl, rfl, HF9⟩
              · exact AllReadyH.nil
            · exact AllReadyH.nil
          exact AllReadyH.nil
        exact AllReadyH.nil
      refine AllReadyH.cons rfl (fun K hK => ?_) ?_
      · refine step_alloc_rec 8 (by rfl) rfl rfl ?_
        intro b8 wn hg hnew hb
        have N8 := Lib.hid (show w3.heap.size ≤ b8 by rw [← hg]; exact HX.out.size)
        have H14 := Lib.hid (boxOn H14.out hb)
        have HOE := Lib.hid (HOE.out.below hb)
        have HX := Lib.hid (HX.out.trans (hb.mono HX.out.size))
        have A8 := Lib.hid hnew
        clear hg hnew hb
        refine hK.out _ _ (cells_ten H14.out) (fun hHeld => ?_)
        clear hK K hHeld
        try simp only [Act.put, List.setIfInBounds_toArray, List.set_cons_zero, List.set_cons_succ]
        refine wpAnyH_ready (rs := [5, 6]) (by kernel_rfl) (by simp) ?_
        refine AllReadyH.cons rfl (fun K hK => ?_) ?_
        · go_simp
          go_at_call 11
          refine (HFa.out _ HX.out).mono ?_
          rintro e wn ⟨vy, rfl, ho, hb⟩
          have HOF1 := Lib.hid (ho.from HX.out.size)
          have H14 := Lib.hid (boxOn H14.out hb)
          have A8 := Lib.hid (boxOn A8.out hb)
          have HOE := Lib.hid (HOE.out.below hb)
          have HX := Lib.hid (HX.out.trans (hb.mono HX.out.size))
          have HOF := HOF1
          clear ho hb
          go_wp2_with fail
          refine hK.out _ _ (cells_ten H14.out) (fun hHeld => ?_)
          clear hK K hHeld
          try simp only [Act.put, List.setIfInBounds_toArray, List.set_cons_zero, List.set_cons_succ]
          refine wpAnyH_ready (rs := [6]) (by kernel_rfl) (by simp) ?_
          refine AllReadyH.cons rfl (fun K hK => ?_) ?_
          · refine step_alloc_rec 7 (by rfl) rfl rfl ?_
            intro b7 wn hg hnew hb
            have N7 := Lib.hid (show w3.heap.size ≤ b7 by rw [← hg]; exact HX.out.size)
            have NE := Lib.hid (show b8 < b7 by rw [← hg]; exact whole_lt A8.out)
            have H14 := Lib.hid (boxOn H14.out hb)
            have A8 := Lib.hid (boxOn A8.out hb)
            have HOE := Lib.hid (HOE.out.below hb)
            have HOF := Lib.hid (HOF.out.below hb)
            have HX := Lib.hid (HX.out.trans (hb.mono HX.out.size))
            have A7 := Lib.hid hnew
            clear hg hnew hb
            refine hK.out _ _ (cells_ten H14.out) (fun hHeld => ?_)
            clear hK K hHeld
            try simp only [Act.put, List.setIfInBounds_toArray, List.set_cons_zero, List.set_cons_succ]
            refine wpAnyH_ready (rs := [8]) (by kernel_rfl) (by simp) ?_
            refine AllReadyH.cons rfl (fun K hK => ?_) ?_
            · refine step_st_rec (by rfl) rfl _ _ rfl b7 RA vx (one_of HOE.out) rfl rfl _ A7.out rfl ?_
              intro wp h7 ht
              have hlow : ∀ k ∈ [b7], w3.heap.size ≤ k := fun k hk => by rw [List.mem_singleton.1 hk]; exact N7.out
              have HXp := Lib.hid (HX.out.trans (ht.below hlow HX.out.size))
              have H14 := Lib.hid (ht.whole H14.out (fun hm => by have h0 := List.mem_singleton.1 hm; have h1 := N7.out; have h2 := N14.out; omega))
              have A8 := Lib.hid (ht.whole A8.out (fun hm => by have h0 := List.mem_singleton.1 hm; have := NE.out; omega))
              have HOE := Lib.hid (owns_box HOE.out ht A7.out)
              have HOF := Lib.hid (owns_box HOF.out ht A7.out)
              have B7 := Lib.hid h7
              clear ht h7 hlow
              refine hK.out _ _ (cells_ten H14.out) (fun hHeld => ?_)
              clear hK K hHeld
              try simp only [Act.put, List.setIfInBounds_toArray, List.set_cons_zero, List.set_cons_succ]
              refine wpAnyH_ready (rs := [9]) (by kernel_rfl) (by simp) ?_
              refine AllReadyH.cons rfl (fun K hK => ?_) ?_
              · refine step_st_rec (by rfl) rfl _ _ rfl b8 RB vy (one_of HOF.out) rfl rfl _ A8.out rfl ?_
                intro wq h8 ht
                have hlow : ∀ k ∈ [b8], w3.heap.size ≤ k := fun k hk => by rw [List.mem_singleton.1 hk]; exact N8.out
                have HF9 := Lib.hid (show PM w3 wq b7 b8 RA RB vx vy from ⟨HXp.out.trans (ht.below hlow HXp.out.size), ht.whole B7.out (fun hm => by have h0 := List.mem_singleton.1 hm; have := NE.out; omega), h8, owns_box HOE.out ht A8.out, owns_box HOF.out ht A8.out⟩)
                have H14 := Lib.hid (ht.whole H14.out (fun hm => by have h0 := List.mem_singleton.1 hm; have h1 := N8.out; have h2 := N14.out; omega))
                clear ht h8 hlow
                refine hK.out _ _ (cells_ten H14.out) (fun hHeld => ?_)
                clear hK K hHeld
                try simp only [Act.put, List.setIfInBounds_toArray, List.set_cons_zero, List.set_cons_succ]
                refine wpAnyH_done (by kernel_rfl) ?_ _
                first | go_meet | (go_wp2_with fail; go_meet)
                exact ⟨_, _, _, _, rfl, rfl, HF9⟩
              · exact AllReadyH.nil
            · exact AllReadyH.nil
          exact AllReadyH.nil
        refine AllReadyH.cons rfl (fun K hK => ?_) ?_
        · refine step_alloc_rec 7 (by rfl) rfl rfl ?_
          intro b7 wn hg hnew hb
          have N7 := Lib.hid (show w3.heap.size ≤ b7 by rw [← hg]; exact HX.out.size)
          have NE := Lib.hid (show b8 < b7 by rw [← hg]; exact whole_lt A8.out)
          have H14 := Lib.hid (boxOn H14.out hb)
          have A8 := Lib.hid (boxOn A8.out hb)
          have HOE := Lib.hid (HOE.out.below hb)
          have HX := Lib.hid (HX.out.trans (hb.mono HX.out.size))
          have A7 := Lib.hid hnew
          clear hg hnew hb
          refine hK.out _ _ (cells_ten H14.out) (fun hHeld => ?_)
          clear hK K hHeld
          try simp only [Act.put, List.setIfInBounds_toArray, List.set_cons_zero, List.set_cons_succ]
          refine wpAnyH_ready (rs := [5]) (by kernel_rfl) (by simp) ?_
          refine AllReadyH.cons rfl (fun K hK => ?_) ?_
          · go_simp
            go_at_call 11
            refine (HFa.out _ HX.out).mono ?_
            rintro e wn ⟨vy, rfl, ho, hb⟩
            have HOF1 := Lib.hid (ho.from HX.out.size)
            have H14 := Lib.hid (boxOn H14.out hb)
            have A7 := Lib.hid (boxOn A7.out hb)
            have A8 := Lib.hid (boxOn A8.out hb)
            have HOE := Lib.hid (HOE.out.below hb)
            have HX := Lib.hid (HX.out.trans (hb.mono HX.out.size))
            have HOF := HOF1
            clear ho hb
            go_wp2_with fail
            refine hK.out _ _ (cells_ten H14.out) (fun hHeld => ?_)
            clear hK K hHeld
            try simp only [Act.put, List.setIfInBounds_toArray, List.set_cons_zero, List.set_cons_succ]
            refine wpAnyH_ready (rs := [8]) (by kernel_rfl) (by simp) ?_
            refine AllReadyH.cons rfl (fun K hK => ?_) ?_
            · refine step_st_rec (by rfl) rfl _ _ rfl b7 RA vx (one_of HOE.out) rfl rfl _ A7.out rfl ?_
              intro wp h7 ht
              have hlow : ∀ k ∈ [b7], w3.heap.size ≤ k := fun k hk => by rw [List.mem_singleton.1 hk]; exact N7.out
              have HXp := Lib.hid (HX.out.trans (ht.below hlow HX.out.size))
              have H14 := Lib.hid (ht.whole H14.out (fun hm => by have h0 := List.mem_singleton.1 hm; have h1 := N7.out; have h2 := N14.out; omega))
              have A8 := Lib.hid (ht.whole A8.out (fun hm => by have h0 := List.mem_singleton.1 hm; have := NE.out; omega))
              have HOE := Lib.hid (owns_box HOE.out ht A7.out)
              have HOF := Lib.hid (owns_box HOF.out ht A7.out)
              have B7 := Lib.hid h7
              clear ht h7 hlow
              refine hK.out _ _ (cells_ten H14.out) (fun hHeld => ?_)
              clear hK K hHeld
              try simp only [Act.put, List.setIfInBounds_toArray, List.set_cons_zero, List.set_cons_succ]
              refine wpAnyH_ready (rs := [9]) (by kernel_rfl) (by simp) ?_
              refine AllReadyH.cons rfl (fun K hK => ?_) ?_
              · refine step_st_rec (by rfl) rfl _ _ rfl b8 RB vy (one_of HOF.out) rfl rfl _ A8.out rfl ?_
                intro wq h8 ht
                have hlow : ∀ k ∈ [b8], w3.heap.size ≤ k := fun k hk => by rw [List.mem_singleton.1 hk]; exact N8.out
                have HF9 := Lib.hid (show PM w3 wq b7 b8 RA RB vx vy from ⟨HXp.out.trans (ht.below hlow HXp.out.size), ht.whole B7.out (fun hm => by have h0 := List.mem_singleton.1 hm; have := NE.out; omega), h8, owns_box HOE.out ht A8.out, owns_box HOF.out ht A8.out⟩)
                have H14 := Lib.hid (ht.whole H14.out (fun hm => by have h0 := List.mem_singleton.1 hm; have h1 := N8.out; have h2 := N14.out; omega))
                clear ht h8 hlow
                refine hK.out _ _ (cells_ten H14.out) (fun hHeld => ?_)
                clear hK K hHeld
                try simp only [Act.put, List.setIfInBounds_toArray, List.set_cons_zero, List.set_cons_succ]
                refine wpAnyH_done (by kernel_rfl) ?_ _
                first | go_meet | (go_wp2_with fail; go_meet)
                exact ⟨_, _, _, _, rfl, rfl, HF9⟩
              · exact AllReadyH.nil
            · exact AllReadyH.nil
          exact AllReadyH.nil
        exact AllReadyH.nil
      exact AllReadyH.nil
    refine AllReadyH.cons rfl (fun K hK => ?_) ?_
    · refine step_alloc_rec 7 (by rfl) rfl rfl ?_
      intro b7 wn hg hnew hb
      have N7 := Lib.hid (show w3.heap.size ≤ b7 by rw [← hg]; exact HX.out.size)
      have H14 := Lib.hid (boxOn H14.out hb)
      have HX := Lib.hid (HX.out.trans (hb.mono HX.out.size))
      have A7 := Lib.hid hnew
      clear hg hnew hb
      refine hK.out _ _ (cells_ten H14.out) (fun hHeld => ?_)
      clear hK K hHeld
      try simp only [Act.put, List.setIfInBounds_toArray, List.set_cons_zero, List.set_cons_succ]
      refine wpAnyH_ready (rs := [2, 7]) (by kernel_rfl) (by simp) ?_
      refine AllReadyH.cons rfl (fun K hK => ?_) ?_
      · go_simp
        go_at_call 11
        refine (HEn.out _ HX.out).mono ?_
        rintro e wn ⟨vx, rfl, ho, hb⟩
        have HOE1 := Lib.hid (ho.from HX.out.size)
        have H14 := Lib.hid (boxOn H14.out hb)
        have A7 := Lib.hid (boxOn A7.out hb)
        have HX := Lib.hid (HX.out.trans (hb.mono HX.out.size))
        have HOE := HOE1
        clear ho hb
        go_wp2_with fail
        refine hK.out _ _ (cells_ten H14.out) (fun hHeld => ?_)
        clear hK K hHeld
        try simp only [Act.put, List.setIfInBounds_toArray, List.set_cons_zero, List.set_cons_succ]
        refine wpAnyH_ready (rs := [5, 7]) (by kernel_rfl) (by simp) ?_
        refine AllReadyH.cons rfl (fun K hK => ?_) ?_
        · go_simp
          go_at_call 11
          refine (HFa.out _ HX.out).mono ?_
          rintro e wn ⟨vy, rfl, ho, hb⟩
          have HOF1 := Lib.hid (ho.from HX.out.size)
          have H14 := Lib.hid (boxOn H14.out hb)
          have A7 := Lib.hid (boxOn A7.out hb)
          have HOE := Lib.hid (HOE.out.below hb)
          have HX := Lib.hid (HX.out.trans (hb.mono HX.out.size))
          have HOF := HOF1
          clear ho hb
          go_wp2_with fail
          refine hK.out _ _ (cells_ten H14.out) (fun hHeld => ?_)
          clear hK K hHeld
          try simp only [Act.put, List.setIfInBounds_toArray, List.set_cons_zero, List.set_cons_succ]
          refine wpAnyH_ready (rs := [7]) (by kernel_rfl) (by simp) ?_
          refine AllReadyH.cons rfl (fun K hK => ?_) ?_
          · refine step_alloc_rec 8 (by rfl) rfl rfl ?_
            intro b8 wn hg hnew hb
            have N8 := Lib.hid (show w3.heap.size ≤ b8 by rw [← hg]; exact HX.out.size)
            have NE := Lib.hid (show b7 < b8 by rw [← hg]; exact whole_lt A7.out)
            have H14 := Lib.hid (boxOn H14.out hb)
            have A7 := Lib.hid (boxOn A7.out hb)
            have HOE := Lib.hid (HOE.out.below hb)
            have HOF := Lib.hid (HOF.out.below hb)
            have HX := Lib.hid (HX.out.trans (hb.mono HX.out.size))
            have A8 := Lib.hid hnew
            clear hg hnew hb
            refine hK.out _ _ (cells_ten H14.out) (fun hHeld => ?_)
            clear hK K hHeld
            try simp only [Act.put, List.setIfInBounds_toArray, List.set_cons_zero, List.set_cons_succ]
            refine wpAnyH_ready (rs := [8]) (by kernel_rfl) (by simp) ?_
            refine AllReadyH.cons rfl (fun K hK => ?_) ?_
            · refine step_st_rec (by rfl) rfl _ _ rfl b7 RA vx (one_of HOE.out) rfl rfl _ A7.out rfl ?_
              intro wp h7 ht
              have hlow : ∀ k ∈ [b7], w3.heap.size ≤ k := fun k hk => by rw [List.mem_singleton.1 hk]; exact N7.out
              have HXp := Lib.hid (HX.out.trans (ht.below hlow HX.out.size))
              have H14 := Lib.hid (ht.whole H14.out (fun hm => by have h0 := List.mem_singleton.1 hm; have h1 := N7.out; have h2 := N14.out; omega))
              have A8 := Lib.hid (ht.whole A8.out (fun hm => by have h0 := List.mem_singleton.1 hm; have := NE.out; omega))
              have HOE := Lib.hid (owns_box HOE.out ht A7.out)
              have HOF := Lib.hid (owns_box HOF.out ht A7.out)
              have B7 := Lib.hid h7
              clear ht h7 hlow
              refine hK.out _ _ (cells_ten H14.out) (fun hHeld => ?_)
              clear hK K hHeld
              try simp only [Act.put, List.setIfInBounds_toArray, List.set_cons_zero, List.set_cons_succ]
              refine wpAnyH_ready (rs := [9]) (by kernel_rfl) (by simp) ?_
              refine AllReadyH.cons rfl (fun K hK => ?_) ?_
              · refine step_st_rec (by rfl) rfl _ _ rfl b8 RB vy (one_of HOF.out) rfl rfl _ A8.out rfl ?_
                intro wq h8 ht
                have hlow : ∀ k ∈ [b8], w3.heap.size ≤ k := fun k hk => by rw [List.mem_singleton.1 hk]; exact N8.out
                have HF9 := Lib.hid (show PM w3 wq b7 b8 RA RB vx vy from ⟨HXp.out.trans (ht.below hlow HXp.out.size), ht.whole B7.out (fun hm => by have h0 := List.mem_singleton.1 hm; have := NE.out; omega), h8, owns_box HOE.out ht A8.out, owns_box HOF.out ht A8.out⟩)
                have H14 := Lib.hid (ht.whole H14.out (fun hm => by have h0 := List.mem_singleton.1 hm; have h1 := N8.out; have h2 := N14.out; omega))
                clear ht h8 hlow
                refine hK.out _ _ (cells_ten H14.out) (fun hHeld => ?_)
                clear hK K hHeld
                try simp only [Act.put, List.setIfInBounds_toArray, List.set_cons_zero, List.set_cons_succ]
                refine wpAnyH_done (by kernel_rfl) ?_ _
                first | go_meet | (go_wp2_with fail; go_meet)
                exact ⟨_, _, _, _, rfl, rfl, HF9⟩
              · exact AllReadyH.nil
            · exact AllReadyH.nil
          exact AllReadyH.nil
        refine AllReadyH.cons rfl (fun K hK => ?_) ?_
        · refine step_alloc_rec 8 (by rfl) rfl rfl ?_
          intro b8 wn hg hnew hb
          have N8 := Lib.hid (show w3.heap.size ≤ b8 by rw [← hg]; exact HX.out.size)
          have NE := Lib.hid (show b7 < b8 by rw [← hg]; exact whole_lt A7.out)
          have H14 := Lib.hid (boxOn H14.out hb)
          have A7 := Lib.hid (boxOn A7.out hb)
          have HOE := Lib.hid (HOE.out.below hb)
          have HX := Lib.hid (HX.out.trans (hb.mono HX.out.size))
          have A8 := Lib.hid hnew
          clear hg hnew hb
          refine hK.out _ _ (cells_ten H14.out) (fun hHeld => ?_)
          clear hK K hHeld
          try simp only [Act.put, List.setIfInBounds_toArray, List.set_cons_zero, List.set_cons_succ]
          refine wpAnyH_ready (rs := [5]) (by kernel_rfl) (by simp) ?_
          refine AllReadyH.cons rfl (fun K hK => ?_) ?_
          · go_simp
            go_at_call 11
            refine (HFa.out _ HX.out).mono ?_
            rintro e wn ⟨vy, rfl, ho, hb⟩
            have HOF1 := Lib.hid (ho.from HX.out.size)
            have H14 := Lib.hid (boxOn H14.out hb)
            have A7 := Lib.hid (boxOn A7.out hb)
            have A8 := Lib.hid (boxOn A8.out hb)
            have HOE := Lib.hid (HOE.out.below hb)
            have HX := Lib.hid (HX.out.trans (hb.mono HX.out.size))
            have HOF := HOF1
            clear ho hb
            go_wp2_with fail
            refine hK.out _ _ (cells_ten H14.out) (fun hHeld => ?_)
            clear hK K hHeld
            try simp only [Act.put, List.setIfInBounds_toArray, List.set_cons_zero, List.set_cons_succ]
            refine wpAnyH_ready (rs := [8]) (by kernel_rfl) (by simp) ?_
            refine AllReadyH.cons rfl (fun K hK => ?_) ?_
            · refine step_st_rec (by rfl) rfl _ _ rfl b7 RA vx (one_of HOE.out) rfl rfl _ A7.out rfl ?_
              intro wp h7 ht
              have hlow : ∀ k ∈ [b7], w3.heap.size ≤ k := fun k hk => by rw [List.mem_singleton.1 hk]; exact N7.out
              have HXp := Lib.hid (HX.out.trans (ht.below hlow HX.out.size))
              have H14 := Lib.hid (ht.whole H14.out (fun hm => by have h0 := List.mem_singleton.1 hm; have h1 := N7.out; have h2 := N14.out; omega))
              have A8 := Lib.hid (ht.whole A8.out (fun hm => by have h0 := List.mem_singleton.1 hm; have := NE.out; omega))
              have HOE := Lib.hid (owns_box HOE.out ht A7.out)
              have HOF := Lib.hid (owns_box HOF.out ht A7.out)
              have B7 := Lib.hid h7
              clear ht h7 hlow
              refine hK.out _ _ (cells_ten H14.out) (fun hHeld => ?_)
              clear hK K hHeld
              try simp only [Act.put, List.setIfInBounds_toArray, List.set_cons_zero, List.set_cons_succ]
              refine wpAnyH_ready (rs := [9]) (by kernel_rfl) (by simp) ?_
              refine AllReadyH.cons rfl (fun K hK => ?_) ?_
              · refine step_st_rec (by rfl) rfl _ _ rfl b8 RB vy (one_of HOF.out) rfl rfl _ A8.out rfl ?_
                intro wq h8 ht
                have hlow : ∀ k ∈ [b8], w3.heap.size ≤ k := fun k hk => by rw [List.mem_singleton.1 hk]; exact N8.out
                have HF9 := Lib.hid (show PM w3 wq b7 b8 RA RB vx vy from ⟨HXp.out.trans (ht.below hlow HXp.out.size), ht.whole B7.out (fun hm => by have h0 := List.mem_singleton.1 hm; have := NE.out; omega), h8, owns_box HOE.out ht A8.out, owns_box HOF.out ht A8.out⟩)
                have H14 := Lib.hid (ht.whole H14.out (fun hm => by have h0 := List.mem_singleton.1 hm; have h1 := N8.out; have h2 := N14.out; omega))
                clear ht h8 hlow
                refine hK.out _ _ (cells_ten H14.out) (fun hHeld => ?_)
                clear hK K hHeld
                try simp only [Act.put, List.setIfInBounds_toArray, List.set_cons_zero, List.set_cons_succ]
                refine wpAnyH_done (by kernel_rfl) ?_ _
                first | go_meet | (go_wp2_with fail; go_meet)
                exact ⟨_, _, _, _, rfl, rfl, HF9⟩
              · exact AllReadyH.nil
            · exact AllReadyH.nil
          exact AllReadyH.nil
        exact AllReadyH.nil
      refine AllReadyH.cons rfl (fun K hK => ?_) ?_
      · refine step_alloc_rec 8 (by rfl) rfl rfl ?_
        intro b8 wn hg hnew hb
        have N8 := Lib.hid (show w3.heap.size ≤ b8 by rw [← hg]; exact HX.out.size)
        have NE := Lib.hid (show b7 < b8 by rw [← hg]; exact whole_lt A7.out)
        have H14 := Lib.hid (boxOn H14.out hb)
        have A7 := Lib.hid (boxOn A7.out hb)
        have HX := Lib.hid (HX.out.trans (hb.mono HX.out.size))
        have A8 := Lib.hid hnew
        clear hg hnew hb
        refine hK.out _ _ (cells_ten H14.out) (fun hHeld => ?_)
        clear hK K hHeld
        try simp only [Act.put, List.setIfInBounds_toArray, List.set_cons_zero, List.set_cons_succ]
        refine wpAnyH_ready (rs := [2]) (by kernel_rfl) (by simp) ?_
        refine AllReadyH.cons rfl (fun K hK => ?_) ?_
        · go_simp
          go_at_call 11
          refine (HEn.out _ HX.out).mono ?_
          rintro e wn ⟨vx, rfl, ho, hb⟩
          have HOE1 := Lib.hid (ho.from HX.out.size)
          have H14 := Lib.hid (boxOn H14.out hb)
          have A7 := Lib.hid (boxOn A7.out hb)
          have A8 := Lib.hid (boxOn A8.out hb)
          have HX := Lib.hid (HX.out.trans (hb.mono HX.out.size))
          have HOE := HOE1
          clear ho hb
          go_wp2_with fail
          refine hK.out _ _ (cells_ten H14.out) (fun hHeld => ?_)
          clear hK K hHeld
          try simp only [Act.put, List.setIfInBounds_toArray, List.set_cons_zero, List.set_cons_succ]
          refine wpAnyH_ready (rs := [5]) (by kernel_rfl) (by simp) ?_
          refine AllReadyH.cons rfl (fun K hK => ?_) ?_
          · go_simp
            go_at_call 11
            refine (HFa.out _ HX.out).mono ?_
            rintro e wn ⟨vy, rfl, ho, hb⟩
            have HOF1 := Lib.hid (ho.from HX.out.size)
            have H14 := Lib.hid (boxOn H14.out hb)
            have A7 := Lib.hid (boxOn A7.out hb)
            have A8 := Lib.hid (boxOn A8.out hb)
            have HOE := Lib.hid (HOE.out.below hb)
            have HX := Lib.hid (HX.out.trans (hb.mono HX.out.size))
            have HOF := HOF1
            clear ho hb
            go_wp2_with fail
            refine hK.out _ _ (cells_ten H14.out) (fun hHeld => ?_)
            clear hK K hHeld
            try simp only [Act.put, List.setIfInBounds_toArray, List.set_cons_zero, List.set_cons_succ]
            refine wpAnyH_ready (rs := [8]) (by kernel_rfl) (by simp) ?_
            refine AllReadyH.cons rfl (fun K hK => ?_) ?_
            · refine step_st_rec (by rfl) rfl _ _ rfl b7 RA vx (one_of HOE.out) rfl rfl _ A7.out rfl ?_
              intro wp h7 ht
              have hlow : ∀ k ∈ [b7], w3.heap.size ≤ k := fun k hk => by rw [List.mem_singleton.1 hk]; exact N7.out
              have HXp := Lib.hid (HX.out.trans (ht.below hlow HX.out.size))
              have H14 := Lib.hid (ht.whole H14.out (fun hm => by have h0 := List.mem_singleton.1 hm; have h1 := N7.out; have h2 := N14.out; omega))
              have A8 := Lib.hid (ht.whole A8.out (fun hm => by have h0 := List.mem_singleton.1 hm; have := NE.out; omega))
              have HOE := Lib.hid (owns_box HOE.out ht A7.out)
              have HOF := Lib.hid (owns_box HOF.out ht A7.out)
              have B7 := Lib.hid h7
              clear ht h7 hlow
              refine hK.out _ _ (cells_ten H14.out) (fun hHeld => ?_)
              clear hK K hHeld
              try simp only [Act.put, List.setIfInBounds_toArray, List.set_cons_zero, List.set_cons_succ]
              refine wpAnyH_ready (rs := [9]) (by kernel_rfl) (by simp) ?_
              refine AllReadyH.cons rfl (fun K hK => ?_) ?_
              · refine step_st_rec (by rfl) rfl _ _ rfl b8 RB vy (one_of HOF.out) rfl rfl _ A8.out rfl ?_
                intro wq h8 ht
                have hlow : ∀ k ∈ [b8], w3.heap.size ≤ k := fun k hk => by rw [List.mem_singleton.1 hk]; exact N8.out
                have HF9 := Lib.hid (show PM w3 wq b7 b8 RA RB vx vy from ⟨HXp.out.trans (ht.below hlow HXp.out.size), ht.whole B7.out (fun hm => by have h0 := List.mem_singleton.1 hm; have := NE.out; omega), h8, owns_box HOE.out ht A8.out, owns_box HOF.out ht A8.out⟩)
                have H14 := Lib.hid (ht.whole H14.out (fun hm => by have h0 := List.mem_singleton.1 hm; have h1 := N8.out; have h2 := N14.out; omega))
                clear ht h8 hlow
                refine hK.out _ _ (cells_ten H14.out) (fun hHeld => ?_)
                clear hK K hHeld
                try simp only [Act.put, List.setIfInBounds_toArray, List.set_cons_zero, List.set_cons_succ]
                refine wpAnyH_done (by kernel_rfl) ?_ _
                first | go_meet | (go_wp2_with fail; go_meet)
                exact ⟨_, _, _, _, rfl, rfl, HF9⟩
              · exact AllReadyH.nil
            · exact AllReadyH.nil
          exact AllReadyH.nil
        exact AllReadyH.nil
      exact AllReadyH.nil
    refine AllReadyH.cons rfl (fun K hK => ?_) ?_
    · refine step_alloc_rec 8 (by rfl) rfl rfl ?_
      intro b8 wn hg hnew hb
      have N8 := Lib.hid (show w3.heap.size ≤ b8 by rw [← hg]; exact HX.out.size)
      have H14 := Lib.hid (boxOn H14.out hb)
      have HX := Lib.hid (HX.out.trans (hb.mono HX.out.size))
      have A8 := Lib.hid hnew
      clear hg hnew hb
      refine hK.out _ _ (cells_ten H14.out) (fun hHeld => ?_)
      clear hK K hHeld
      try simp only [Act.put, List.setIfInBounds_toArray, List.set_cons_zero, List.set_cons_succ]
      refine wpAnyH_ready (rs := [2, 6]) (by kernel_rfl) (by simp) ?_
      refine AllReadyH.cons rfl (fun K hK => ?_) ?_
      · go_simp
        go_at_call 11
        refine (HEn.out _ HX.out).mono ?_
        rintro e wn ⟨vx, rfl, ho, hb⟩
        have HOE1 := Lib.hid (ho.from HX.out.size)
        have H14 := Lib.hid (boxOn H14.out hb)
        have A8 := Lib.hid (boxOn A8.out hb)
        have HX := Lib.hid (HX.out.trans (hb.mono HX.out.size))
        have HOE := HOE1
        clear ho hb
        go_wp2_with fail
        refine hK.out _ _ (cells_ten H14.out) (fun hHeld => ?_)
        clear hK K hHeld
        try simp only [Act.put, List.setIfInBounds_toArray, List.set_cons_zero, List.set_cons_succ]
        refine wpAnyH_ready (rs := [5, 6]) (by kernel_rfl) (by simp) ?_
        refine AllReadyH.cons rfl (fun K hK => ?_) ?_
        · go_simp
          go_at_call 11
          refine (HFa.out _ HX.out).mono ?_
          rintro e wn ⟨vy, rfl, ho, hb⟩
          have HOF1 := Lib.hid (ho.from HX.out.size)
          have H14 := Lib.hid (boxOn H14.out hb)
          have A8 := Lib.hid (boxOn A8.out hb)
          have HOE := Lib.hid (HOE.out.below hb)
          have HX := Lib.hid (HX.out.trans (hb.mono HX.out.size))
          have HOF := HOF1
          clear ho hb
          go_wp2_with fail
          refine hK.out _ _ (cells_ten H14.out) (fun hHeld => ?_)
          clear hK K hHeld
          try simp only [Act.put, List.setIfInBounds_toArray, List.set_cons_zero, List.set_cons_succ]
          refine wpAnyH_ready (rs := [6]) (by kernel_rfl) (by simp) ?_
          refine AllReadyH.cons rfl (fun K hK => ?_) ?_
          · refine step_alloc_rec 7 (by rfl) rfl rfl ?_
            intro b7 wn hg hnew hb
            have N7 := Lib.hid (show w3.heap.size ≤ b7 by rw [← hg]; exact HX.out.size)
            have NE := Lib.hid (show b8 < b7 by rw [← hg]; exact whole_lt A8.out)
            have H14 := Lib.hid (boxOn H14.out hb)
            have A8 := Lib.hid (boxOn A8.out hb)
            have HOE := Lib.hid (HOE.out.below hb)
            have HOF := Lib.hid (HOF.out.below hb)
            have HX := Lib.hid (HX.out.trans (hb.mono HX.out.size))
            have A7 := Lib.hid hnew
            clear hg hnew hb
            refine hK.out _ _ (cells_ten H14.out) (fun hHeld => ?_)
            clear hK K hHeld
            try simp only [Act.put, List.setIfInBounds_toArray, List.set_cons_zero, List.set_cons_succ]
            refine wpAnyH_ready (rs := [8]) (by kernel_rfl) (by simp) ?_
            refine AllReadyH.cons rfl (fun K hK => ?_) ?_
            · refine step_st_rec (by rfl) rfl _ _ rfl b7 RA vx (one_of HOE.out) rfl rfl _ A7.out rfl ?_
              intro wp h7 ht
              have hlow : ∀ k ∈ [b7], w3.heap.size ≤ k := fun k hk => by rw [List.mem_singleton.1 hk]; exact N7.out
              have HXp := Lib.hid (HX.out.trans (ht.below hlow HX.out.size))
              have H14 := Lib.hid (ht.whole H14.out (fun hm => by have h0 := List.mem_singleton.1 hm; have h1 := N7.out; have h2 := N14.out; omega))
              have A8 := Lib.hid (ht.whole A8.out (fun hm => by have h0 := List.mem_singleton.1 hm; have := NE.out; omega))
              have HOE := Lib.hid (owns_box HOE.out ht A7.out)
              have HOF := Lib.hid (owns_box HOF.out ht A7.out)
              have B7 := Lib.hid h7
              clear ht h7 hlow
              refine hK.out _ _ (cells_ten H14.out) (fun hHeld => ?_)
              clear hK K hHeld
              try simp only [Act.put, List.setIfInBounds_toArray, List.set_cons_zero, List.set_cons_succ]
              refine wpAnyH_ready (rs := [9]) (by kernel_rfl) (by simp) ?_
              refine AllReadyH.cons rfl (fun K hK => ?_) ?_
              · refine step_st_rec (by rfl) rfl _ _ rfl b8 RB vy (one_of HOF.out) rfl rfl _ A8.out rfl ?_
                intro wq h8 ht
                have hlow : ∀ k ∈ [b8], w3.heap.size ≤ k := fun k hk => by rw [List.mem_singleton.1 hk]; exact N8.out
                have HF9 := Lib.hid (show PM w3 wq b7 b8 RA RB vx vy from ⟨HXp.out.trans (ht.below hlow HXp.out.size), ht.whole B7.out (fun hm => by have h0 := List.mem_singleton.1 hm; have := NE.out; omega), h8, owns_box HOE.out ht A8.out, owns_box HOF.out ht A8.out⟩)
                have H14 := Lib.hid (ht.whole H14.out (fun hm => by have h0 := List.mem_singleton.1 hm; have h1 := N8.out; have h2 := N14.out; omega))
                clear ht h8 hlow
                refine hK.out _ _ (cells_ten H14.out) (fun hHeld => ?_)
                clear hK K hHeld
                try simp only [Act.put, List.setIfInBounds_toArray, List.set_cons_zero, List.set_cons_succ]
                refine wpAnyH_done (by kernel_rfl) ?_ _
                first | go_meet | (go_wp2_with fail; go_meet)
                exact ⟨_, _, _, _, rfl, rfl, HF9⟩
              · exact AllReadyH.nil
            · exact AllReadyH.nil
          exact AllReadyH.nil
        refine AllReadyH.cons rfl (fun K hK => ?_) ?_
        · refine step_alloc_rec 7 (by rfl) rfl rfl ?_
          intro b7 wn hg hnew hb
          have N7 := Lib.hid (show w3.heap.size ≤ b7 by rw [← hg]; exact HX.out.size)
          have NE := Lib.hid (show b8 < b7 by rw [← hg]; exact whole_lt A8.out)
          have H14 := Lib.hid (boxOn H14.out hb)
          have A8 := Lib.hid (boxOn A8.out hb)
          have HOE := Lib.hid (HOE.out.below hb)
          have HX := Lib.hid (HX.out.trans (hb.mono HX.out.size))
          have A7 := Lib.hid hnew
          clear hg hnew hb
          refine hK.out _ _ (cells_ten H14.out) (fun hHeld => ?_)
          clear hK K hHeld
          try simp only [Act.put, List.setIfInBounds_toArray, List.set_cons_zero, List.set_cons_succ]
          refine wpAnyH_ready (rs := [5]) (by kernel_rfl) (by simp) ?_
          refine AllReadyH.cons rfl (fun K hK => ?_) ?_
          · go_simp
            go_at_call 11
            refine (HFa.out _ HX.out).mono ?_
            rintro e wn ⟨vy, rfl, ho, hb⟩
            have HOF1 := Lib.hid (ho.from HX.out.size)
            have H14 := Lib.hid (boxOn H14.out hb)
            have A7 := Lib.hid (boxOn A7.out hb)
            have A8 := Lib.hid (boxOn A8.out hb)
            have HOE := Lib.hid (HOE.out.below hb)
            have HX := Lib.hid (HX.out.trans (hb.mono HX.out.size))
            have HOF := HOF1
            clear ho hb
            go_wp2_with fail
            refine hK.out _ _ (cells_ten H14.out) (fun hHeld => ?_)
            clear hK K hHeld
            try simp only [Act.put, List.setIfInBounds_toArray, List.set_cons_zero, List.set_cons_succ]
            refine wpAnyH_ready (rs := [8]) (by kernel_rfl) (by simp) ?_
            refine AllReadyH.cons rfl (fun K hK => ?_) ?_
            · refine step_st_rec (by rfl) rfl _ _ rfl b7 RA vx (one_of HOE.out) rfl rfl _ A7.out rfl ?_
              intro wp h7 ht
              have hlow : ∀ k ∈ [b7], w3.heap.size ≤ k := fun k hk => by rw [List.mem_singleton.1 hk]; exact N7.out
              have HXp := Lib.hid (HX.out.trans (ht.below hlow HX.out.size))
              have H14 := Lib.hid (ht.whole H14.out (fun hm => by have h0 := List.mem_singleton.1 hm; have h1 := N7.out; have h2 := N14.out; omega))
              have A8 := Lib.hid (ht.whole A8.out (fun hm => by have h0 := List.mem_singleton.1 hm; have := NE.out; omega))
              have HOE := Lib.hid (owns_box HOE.out ht A7.out)
              have HOF := Lib.hid (owns_box HOF.out ht A7.out)
              have B7 := Lib.hid h7
              clear ht h7 hlow
              refine hK.out _ _ (cells_ten H14.out) (fun hHeld => ?_)
              clear hK K hHeld
              try simp only [Act.put, List.setIfInBounds_toArray, List.set_cons_zero, List.set_cons_succ]
              refine wpAnyH_ready (rs := [9]) (by kernel_rfl) (by simp) ?_
              refine AllReadyH.cons rfl (fun K hK => ?_) ?_
              · refine step_st_rec (by rfl) rfl _ _ rfl b8 RB vy (one_of HOF.out) rfl rfl _ A8.out rfl ?_
                intro wq h8 ht
                have hlow : ∀ k ∈ [b8], w3.heap.size ≤ k := fun k hk => by rw [List.mem_singleton.1 hk]; exact N8.out
                have HF9 := Lib.hid (show PM w3 wq b7 b8 RA RB vx vy from ⟨HXp.out.trans (ht.below hlow HXp.out.size), ht.whole B7.out (fun hm => by have h0 := List.mem_singleton.1 hm; have := NE.out; omega), h8, owns_box HOE.out ht A8.out, owns_box HOF.out ht A8.out⟩)
                have H14 := Lib.hid (ht.whole H14.out (fun hm => by have h0 := List.mem_singleton.1 hm; have h1 := N8.out; have h2 := N14.out; omega))
                clear ht h8 hlow
                refine hK.out _ _ (cells_ten H14.out) (fun hHeld => ?_)
                clear hK K hHeld
                try simp only [Act.put, List.setIfInBounds_toArray, List.set_cons_zero, List.set_cons_succ]
                refine wpAnyH_done (by kernel_rfl) ?_ _
                first | go_meet | (go_wp2_with fail; go_meet)
                exact ⟨_, _, _, _, rfl, rfl, HF9⟩
              · exact AllReadyH.nil
            · exact AllReadyH.nil
          exact AllReadyH.nil
        exact AllReadyH.nil
      refine AllReadyH.cons rfl (fun K hK => ?_) ?_
      · refine step_alloc_rec 7 (by rfl) rfl rfl ?_
        intro b7 wn hg hnew hb
        have N7 := Lib.hid (show w3.heap.size ≤ b7 by rw [← hg]; exact HX.out.size)
        have NE := Lib.hid (show b8 < b7 by rw [← hg]; exact whole_lt A8.out)
        have H14 := Lib.hid (boxOn H14.out hb)
        have A8 := Lib.hid (boxOn A8.out hb)
        have HX := Lib.hid (HX.out.trans (hb.mono HX.out.size))
        have A7 := Lib.hid hnew
        clear hg hnew hb
        refine hK.out _ _ (cells_ten H14.out) (fun hHeld => ?_)
        clear hK K hHeld
        try simp only [Act.put, List.setIfInBounds_toArray, List.set_cons_zero, List.set_cons_succ]
        refine wpAnyH_ready (rs := [2]) (by kernel_rfl) (by simp) ?_
        refine AllReadyH.cons rfl (fun K hK => ?_) ?_
        · go_simp
          go_at_call 11
          refine (HEn.out _ HX.out).mono ?_
          rintro e wn ⟨vx, rfl, ho, hb⟩
          have HOE1 := Lib.hid (ho.from HX.out.size)
          have H14 := Lib.hid (boxOn H14.out hb)
          have A7 := Lib.hid (boxOn A7.out hb)
          have A8 := Lib.hid (boxOn A8.out hb)
          have HX := Lib.hid (HX.out.trans (hb.mono HX.out.size))
          have HOE := HOE1
          clear ho hb
          go_wp2_with fail
          refine hK.out _ _ (cells_ten H14.out) (fun hHeld => ?_)
          clear hK K hHeld
          try simp only [Act.put, List.setIfInBounds_toArray, List.set_cons_zero, List.set_cons_succ]
          refine wpAnyH_ready (rs := [5]) (by kernel_rfl) (by simp) ?_
          refine AllReadyH.cons rfl (fun K hK => ?_) ?_
          · go_simp
            go_at_call 11
            refine (HFa.out _ HX.out).mono ?_
            rintro e wn ⟨vy, rfl, ho, hb⟩
            have HOF1 := Lib.hid (ho.from HX.out.size)
            have H14 := Lib.hid (boxOn H14.out hb)
            have A7 := Lib.hid (boxOn A7.out hb)
            have A8 := Lib.hid (boxOn A8.out hb)
            have HOE := Lib.hid (HOE.out.below hb)
            have HX := Lib.hid (HX.out.trans (hb.mono HX.out.size))
            have HOF := HOF1
            clear ho hb
            go_wp2_with fail
            refine hK.out _ _ (cells_ten H14.out) (fun hHeld => ?_)
            clear hK K hHeld
            try simp only [Act.put, List.setIfInBounds_toArray, List.set_cons_zero, List.set_cons_succ]
            refine wpAnyH_ready (rs := [8]) (by kernel_rfl) (by simp) ?_
            refine AllReadyH.cons rfl (fun K hK => ?_) ?_
            · refine step_st_rec (by rfl) rfl _ _ rfl b7 RA vx (one_of HOE.out) rfl rfl _ A7.out rfl ?_
              intro wp h7 ht
              have hlow : ∀ k ∈ [b7], w3.heap.size ≤ k := fun k hk => by rw [List.mem_singleton.1 hk]; exact N7.out
              have HXp := Lib.hid (HX.out.trans (ht.below hlow HX.out.size))
              have H14 := Lib.hid (ht.whole H14.out (fun hm => by have h0 := List.mem_singleton.1 hm; have h1 := N7.out; have h2 := N14.out; omega))
              have A8 := Lib.hid (ht.whole A8.out (fun hm => by have h0 := List.mem_singleton.1 hm; have := NE.out; omega))
              have HOE := Lib.hid (owns_box HOE.out ht A7.out)
              have HOF := Lib.hid (owns_box HOF.out ht A7.out)
              have B7 := Lib.hid h7
              clear ht h7 hlow
              refine hK.out _ _ (cells_ten H14.out) (fun hHeld => ?_)
              clear hK K hHeld
              try simp only [Act.put, List.setIfInBounds_toArray, List.set_cons_zero, List.set_cons_succ]
              refine wpAnyH_ready (rs := [9]) (by kernel_rfl) (by simp) ?_
              refine AllReadyH.cons rfl (fun K hK => ?_) ?_
              · refine step_st_rec (by rfl) rfl _ _ rfl b8 RB vy (one_of HOF.out) rfl rfl _ A8.out rfl ?_
                intro wq h8 ht
                have hlow : ∀ k ∈ [b8], w3.heap.size ≤ k := fun k hk => by rw [List.mem_singleton.1 hk]; exact N8.out
                have HF9 := Lib.hid (show PM w3 wq b7 b8 RA RB vx vy from ⟨HXp.out.trans (ht.below hlow HXp.out.size), ht.whole B7.out (fun hm => by have h0 := List.mem_singleton.1 hm; have := NE.out; omega), h8, owns_box HOE.out ht A8.out, owns_box HOF.out ht A8.out⟩)
                have H14 := Lib.hid (ht.whole H14.out (fun hm => by have h0 := List.mem_singleton.1 hm; have h1 := N8.out; have h2 := N14.out; omega))
                clear ht h8 hlow
                refine hK.out _ _ (cells_ten H14.out) (fun hHeld => ?_)
                clear hK K hHeld
                try simp only [Act.put, List.setIfInBounds_toArray, List.set_cons_zero, List.set_cons_succ]
                refine wpAnyH_done (by kernel_rfl) ?_ _
                first | go_meet | (go_wp2_with fail; go_meet)
                exact ⟨_, _, _, _, rfl, rfl, HF9⟩
              · exact AllReadyH.nil
            · exact AllReadyH.nil
          exact AllReadyH.nil
        exact AllReadyH.nil
      exact AllReadyH.nil
    exact AllReadyH.nil
  case rest =>
    obtain ⟨b7, b8, vx, vy, rfl, rfl, HP⟩ := hcut
    have HBc := Lib.hid (HB3.out.trans (HP.out.hb.mono HB3.out.size))
    have hox := HP.out.ox
    have hoy := HP.out.oy
    obtain ⟨xo, xc, rfl⟩ := hox.slice (seen_len _) (by decide)
    obtain ⟨nx, hnx⟩ : ∃ n, RA.steps.length = n := ⟨_, rfl⟩
    obtain ⟨ny, hny⟩ : ∃ n, RB.steps.length = n := ⟨_, rfl⟩
    have HNX := Lib.hid hnx
    have HNY := Lib.hid hny
    obtain ⟨q1, q2, q3, q4, qb⟩ := HQ.out
    rw [hnx] at q1 q2 q3 q4
    rw [hny] at q2 qb
    have HQ4 := Lib.hid (And.intro q3 q4)
    rw [hnx] at hox
    have x3 : wc.cell? ⟨b7, 3, none⟩ = some (.slice xo nx xc) := by have := whole_cell (j := 3) HP.out.h7 rfl; rw [hnx] at this; exact this
    have hbig : (RB.steps.take nx) = RA.steps := q3
    have HOX := Lib.hid hox
    have HOY := Lib.hid hoy
    have dx : nx ≤ a := q1
    have dy : nx ≤ ny := q2
    have dxi : (nx : Int) ≤ (a : Int) := by omega
    have dyi : (nx : Int) ≤ (ny : Int) := by omega
    clear HEn HFa HX H14 N14 q3 q4 hox hbig HE2 HF2
    rcases hoy.form with ⟨ao, rfl, h0⟩ | ⟨gy, n', yc, rfl, hyc, hyl⟩
    · obtain rfl : ny = 0 := by have h1 := seen_len RB.steps; rw [h0, hny] at h1; simp at h1; omega
      obtain rfl : nx = 0 := by omega
      have hRA : RA.steps = [] := List.eq_nil_of_length_eq_zero hnx
      have y3 : wc.cell? ⟨b8, 3, none⟩ = some (.slice ao 0 0) := whole_cell (j := 3) HP.out.h8 rfl
      have HSV := Lib.hid (show OwnsK wc w3.heap.size 55 4 (.slice ao 0 0) (RA.steps.flatMap seenCells) from by rw [hRA]; exact OwnsK.empty _ _ _ _ _)
      clear hoy h0 hnx hny hRA
      cases ao with
      | none =>
        have C1 := Lib.hid (fun q => sameSeens_any (.slice xo 0 xc) (.slice none 0 0) W.heap.size W.heap.size RA.steps (wc.drewN q) ((HOX.out.below (bk_below_drewN wc.heap.size wc q)).from HB3.out.size) ((HSV.out.below (bk_below_drewN wc.heap.size wc q)).from HB3.out.size) (by rw [HNX.out]; omega))
        by_cases hna : 0 = a
        · subst hna
          clear dx dxi z0 z1
          go_wp2_with fail
          go_quiet ((go_at_call 29; exact Calls.quiet_of (C1.out _)))
          go_wp2
          go_ret
          exact ⟨rfl, HBc.out.trans ((bk_below_drewN _ _ _).mono HBc.out.size)⟩
        · have e1 : ((0 : Int) == (a : Int)) = false := beq_eq_false_iff_ne.2 (by omega)
          have e2 : (0 == a) = false := by simpa using hna
          have hRR : RA = RB := HQ4.out.2.resolve_left hna
          have C2 := Lib.hid (fun wd (hbd : Below wc.heap.size wc wd) => same_any (r := RA) (HP.out.ox.below hbd) (show OwnsK wd _ 55 4 (.slice none 0 0) (RA.steps.flatMap seenCells) from by rw [hRR]; exact HOY.out.below hbd) (by rw [HNX.out]; omega))
          have h8 : wc.heap[b8]? = some (.cells (recA RA (.slice none 0 0)) 39 (0, 0)) := by rw [hRR]; exact HP.out.h8
          have h7 : wc.heap[b7]? = some (.cells #[.int .i64 RA.start, .int .i64 RA.last, .bool RA.loop, .slice xo 0 xc] 39 (0, 0)) := by have := HP.out.h7; rw [HNX.out] at this; exact this
          have H7 := Lib.hid h7
          have H8 := Lib.hid h8
          obtain ⟨k1, k2, k3, k4, k5, k6, k7, k8⟩ := eight h7 h8
          have KX := Lib.hid (eight h7 h8)
          rw [HNX.out] at C2
          clear hna hRR h7 h8 x3 y3
          go_wp2_with fail
          go_region_held3 (fun w' => w'.cell? ⟨b7, 0, none⟩ = some (.int .i64 RA.start) ∧ w'.cell? ⟨b7, 1, none⟩ = some (.int .i64 RA.last) ∧ w'.cell? ⟨b7, 2, none⟩ = some (.bool RA.loop) ∧ w'.cell? ⟨b7, 3, none⟩ = some (.slice xo 0 xc) ∧ w'.cell? ⟨b8, 0, none⟩ = some (.int .i64 RA.start) ∧ w'.cell? ⟨b8, 1, none⟩ = some (.int .i64 RA.last) ∧ w'.cell? ⟨b8, 2, none⟩ = some (.bool RA.loop) ∧ w'.cell? ⟨b8, 3, none⟩ = some (.slice none 0 0))
            (first | with_reducible exact K6.out | exact KX.out)
            (first
            | (go_at_call 14; refine (C2.out _ (bk_below_drewN wc.heap.size wc _)).mono ?_; rintro e w6 ⟨rfl, hb⟩; have hb6 := (bk_below_drewN wc.heap.size wc _).trans (hb.mono (bk_below_drewN wc.heap.size wc _).size); have HB6 := Lib.hid (HBc.out.trans (hb6.mono HBc.out.size)); have K6 := Lib.hid (eight (boxOn H7.out hb6) (boxOn H8.out hb6)); clear hb hb6)
            | (go_at_call 29; refine (C1.out 1).mono ?_; rintro e w5 ⟨rfl, q, rfl⟩))
          all_goals
            go_wp2
            go_ret
            exact ⟨rfl, HB6.out⟩
      | some qa =>
        have C1 := Lib.hid (fun q => sameSeens_any (.slice xo 0 xc) (.slice (some qa) 0 0) W.heap.size W.heap.size RA.steps (wc.drewN q) ((HOX.out.below (bk_below_drewN wc.heap.size wc q)).from HB3.out.size) ((HSV.out.below (bk_below_drewN wc.heap.size wc q)).from HB3.out.size) (by rw [HNX.out]; omega))
        by_cases hna : 0 = a
        · subst hna
          clear dx dxi z0 z1
          go_wp2_with fail
          go_quiet ((go_at_call 29; exact Calls.quiet_of (C1.out _)))
          go_wp2
          go_ret
          exact ⟨rfl, HBc.out.trans ((bk_below_drewN _ _ _).mono HBc.out.size)⟩
        · have e1 : ((0 : Int) == (a : Int)) = false := beq_eq_false_iff_ne.2 (by omega)
          have e2 : (0 == a) = false := by simpa using hna
          have hRR : RA = RB := HQ4.out.2.resolve_left hna
          have C2 := Lib.hid (fun wd (hbd : Below wc.heap.size wc wd) => same_any (r := RA) (HP.out.ox.below hbd) (show OwnsK wd _ 55 4 (.slice (some qa) 0 0) (RA.steps.flatMap seenCells) from by rw [hRR]; exact HOY.out.below hbd) (by rw [HNX.out]; omega))
          have h8 : wc.heap[b8]? = some (.cells (recA RA (.slice (some qa) 0 0)) 39 (0, 0)) := by rw [hRR]; exact HP.out.h8
          have h7 : wc.heap[b7]? = some (.cells #[.int .i64 RA.start, .int .i64 RA.last, .bool RA.loop, .slice xo 0 xc] 39 (0, 0)) := by have := HP.out.h7; rw [HNX.out] at this; exact this
          have H7 := Lib.hid h7
          have H8 := Lib.hid h8
          obtain ⟨k1, k2, k3, k4, k5, k6, k7, k8⟩ := eight h7 h8
          have KX := Lib.hid (eight h7 h8)
          rw [HNX.out] at C2
          clear hna hRR h7 h8 x3 y3
          go_wp2_with fail
          go_region_held3 (fun w' => w'.cell? ⟨b7, 0, none⟩ = some (.int .i64 RA.start) ∧ w'.cell? ⟨b7, 1, none⟩ = some (.int .i64 RA.last) ∧ w'.cell? ⟨b7, 2, none⟩ = some (.bool RA.loop) ∧ w'.cell? ⟨b7, 3, none⟩ = some (.slice xo 0 xc) ∧ w'.cell? ⟨b8, 0, none⟩ = some (.int .i64 RA.start) ∧ w'.cell? ⟨b8, 1, none⟩ = some (.int .i64 RA.last) ∧ w'.cell? ⟨b8, 2, none⟩ = some (.bool RA.loop) ∧ w'.cell? ⟨b8, 3, none⟩ = some (.slice (some qa) 0 0))
            (first | with_reducible exact K6.out | exact KX.out)
            (first
            | (go_at_call 14; refine (C2.out _ (bk_below_drewN wc.heap.size wc _)).mono ?_; rintro e w6 ⟨rfl, hb⟩; have hb6 := (bk_below_drewN wc.heap.size wc _).trans (hb.mono (bk_below_drewN wc.heap.size wc _).size); have HB6 := Lib.hid (HBc.out.trans (hb6.mono HBc.out.size)); have K6 := Lib.hid (eight (boxOn H7.out hb6) (boxOn H8.out hb6)); clear hb hb6)
            | (go_at_call 29; refine (C1.out 1).mono ?_; rintro e w5 ⟨rfl, q, rfl⟩))
          all_goals
            go_wp2
            go_ret
            exact ⟨rfl, HB6.out⟩
    · have hn' : n' = ny := by have h1 := seen_len RB.steps; rw [hny] at h1; omega
      subst hn'
      have y3 : wc.cell? ⟨b8, 3, none⟩ = some (.slice (some ⟨gy, 0, none⟩) n' yc) := whole_cell (j := 3) HP.out.h8 rfl
      have hcap : n' ≤ yc := by
        rcases hoy with ⟨ao, e, _⟩ | ⟨_, _, _, _, e, _, _, _, _, hc, _⟩
        · simp only [Value.slice.injEq] at e; omega
        · simp only [Value.slice.injEq, Option.some.injEq, Addr.mk.injEq, and_true] at e; obtain ⟨rfl, rfl, rfl⟩ := e; exact hc
      have hci : (nx : Int) ≤ (yc : Int) := by omega
      have HSV := Lib.hid (show OwnsK wc w3.heap.size 55 4 (.slice (some ⟨gy, 0, none⟩) nx yc) (RA.steps.flatMap seenCells) from by
        have h1 := OwnsK.shorter hoy (by decide) dy
        rw [take_flat, HQ4.out.1] at h1
        exact h1)
      clear hoy hyc hyl hnx hny hcap
      have C1 := Lib.hid (fun q => sameSeens_any (.slice xo nx xc) (.slice (some ⟨gy, 0, none⟩) nx yc) W.heap.size W.heap.size RA.steps (wc.drewN q) ((HOX.out.below (bk_below_drewN wc.heap.size wc q)).from HB3.out.size) ((HSV.out.below (bk_below_drewN wc.heap.size wc q)).from HB3.out.size) (by rw [HNX.out]; omega))
      by_cases hna : nx = a
      · subst hna
        clear dx dxi z0 z1
        go_wp2_with fail
        go_quiet ((go_at_call 29; exact Calls.quiet_of (C1.out _)))
        go_wp2
        go_ret
        exact ⟨rfl, HBc.out.trans ((bk_below_drewN _ _ _).mono HBc.out.size)⟩
      · have e1 : ((nx : Int) == (a : Int)) = false := beq_eq_false_iff_ne.2 (by omega)
        have e2 : (nx == a) = false := by simpa using hna
        have hRR : RA = RB := HQ4.out.2.resolve_left hna
        have C2 := Lib.hid (fun wd (hbd : Below wc.heap.size wc wd) => same_any (r := RA) (HP.out.ox.below hbd) (show OwnsK wd _ 55 4 (.slice (some ⟨gy, 0, none⟩) n' yc) (RA.steps.flatMap seenCells) from by rw [hRR]; exact HOY.out.below hbd) (by rw [HNX.out]; omega))
        have h8 : wc.heap[b8]? = some (.cells (recA RA (.slice (some ⟨gy, 0, none⟩) n' yc)) 39 (0, 0)) := by rw [hRR]; exact HP.out.h8
        have h7 : wc.heap[b7]? = some (.cells #[.int .i64 RA.start, .int .i64 RA.last, .bool RA.loop, .slice xo nx xc] 39 (0, 0)) := by have := HP.out.h7; rw [HNX.out] at this; exact this
        have H7 := Lib.hid h7
        have H8 := Lib.hid h8
        obtain ⟨k1, k2, k3, k4, k5, k6, k7, k8⟩ := eight h7 h8
        have KX := Lib.hid (eight h7 h8)
        rw [HNX.out] at C2
        clear hna hRR h7 h8 x3 y3
        go_wp2_with fail
        go_region_held3 (fun w' => w'.cell? ⟨b7, 0, none⟩ = some (.int .i64 RA.start) ∧ w'.cell? ⟨b7, 1, none⟩ = some (.int .i64 RA.last) ∧ w'.cell? ⟨b7, 2, none⟩ = some (.bool RA.loop) ∧ w'.cell? ⟨b7, 3, none⟩ = some (.slice xo nx xc) ∧ w'.cell? ⟨b8, 0, none⟩ = some (.int .i64 RA.start) ∧ w'.cell? ⟨b8, 1, none⟩ = some (.int .i64 RA.last) ∧ w'.cell? ⟨b8, 2, none⟩ = some (.bool RA.loop) ∧ w'.cell? ⟨b8, 3, none⟩ = some (.slice (some ⟨gy, 0, none⟩) n' yc))
          (first | with_reducible exact K6.out | exact KX.out)
          (first
          | (go_at_call 14; refine (C2.out _ (bk_below_drewN wc.heap.size wc _)).mono ?_; rintro e w6 ⟨rfl, hb⟩; have hb6 := (bk_below_drewN wc.heap.size wc _).trans (hb.mono (bk_below_drewN wc.heap.size wc _).size); have HB6 := Lib.hid (HBc.out.trans (hb6.mono HBc.out.size)); have K6 := Lib.hid (eight (boxOn H7.out hb6) (boxOn H8.out hb6)); clear hb hb6)
          | (go_at_call 29; refine (C1.out 1).mono ?_; rintro e w5 ⟨rfl, q, rfl⟩))
        all_goals
          go_wp2
          go_ret
          exact ⟨rfl, HB6.out⟩
theorem main (v : Value) (m : M) (a b : Int) (W : World) (hl : ReadsM W v m ∧ Cells m ∧ m.inp.size ≤ maxLen ∧ m.out.size ≤ maxLen ∧ Cell.In m.read ∧ Cell.In m.status) (_ : (Lit.int .i64 a).wf = true) (_ : (Lit.int .i64 b).wf = true) (hE : ∀ wc, Below W.heap.size W wc → Tabs wc) :
    Calls Tryz.prog 5 #[v, .int .i64 a, .int .i64 b] W (Yes W) := by
  obtain ⟨h, hc, hi, ho, -, -⟩ := hl
  by_cases c : lightB m = true
  · by_cases c1 : a < 0
    · exact less_small v m a b W h hi ho hE (.inr ⟨c, .inl c1⟩)
    by_cases c2 : b < a
    · exact less_small v m a b W h hi ho hE (.inr ⟨c, .inr ⟨c1, .inl c2⟩⟩)
    by_cases c3 : 120 < b
    · exact less_small v m a b W h hi ho hE (.inr ⟨c, .inr ⟨c1, .inr ⟨c2, c3⟩⟩⟩)
    obtain ⟨a, rfl⟩ := Int.eq_ofNat_of_zero_le (Int.not_lt.1 c1)
    obtain ⟨b, rfl⟩ := Int.eq_ofNat_of_zero_le (show 0 ≤ b by omega)
    exact small v m a b (by omega) (by omega) W h hi ho hc c hE
  · exact less_small v m a b W h hi ho hE (.inl (by simpa using c))
end Go.Proofs.YtcffbeihgchpgaaGreatDoor.RecordMost
