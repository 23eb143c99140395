/- InnerSteps: the walk. -/
import Derived.Test.YtfpaajoggbibnaaGreatDoorG36
import Derived.Test.YtfpaajoggbibnaaGreatDoorG18
import Derived.Test.YtfpaajoggbibnaaGreatDoorG19
namespace Go.Proofs.YtfpaajoggbibnaaGreatDoor.InnerSteps
open Go.RowKit Book Mem Mach Inn
set_option linter.unusedVariables false
set_option linter.unusedSimpArgs false
/-- ten cells of a state's box -/
def Ten (w : World) (g : Nat) (ip hn : Int) (vs vb vm : Value) (ou inn : ByteArray) (rd stt cd : Int) : Prop :=
    w.cell? ⟨g, 0, none⟩ = some (.int .i64 ip) ∧ w.cell? ⟨g, 1, none⟩ = some (.int .i64 hn) ∧ w.cell? ⟨g, 2, none⟩ = some vs ∧ w.cell? ⟨g, 3, none⟩ = some vb ∧ w.cell? ⟨g, 4, none⟩ = some vm ∧ w.cell? ⟨g, 5, none⟩ = some (.string ou) ∧ w.cell? ⟨g, 6, none⟩ = some (.string inn) ∧
      w.cell? ⟨g, 7, none⟩ = some (.int .i64 rd) ∧ w.cell? ⟨g, 8, none⟩ = some (.int .i64 stt) ∧ w.cell? ⟨g, 9, none⟩ = some (.int .i64 cd)
theorem Ten.of {w : World} {g : Nat} {ip hn rd stt cd : Int} {vs vb vm : Value} {ou inn : ByteArray} (h : w.heap[g]? = some (.cells (cells10 ip hn vs vb vm ou inn rd stt cd) 24 (0, 0))) : Ten w g ip hn vs vb vm ou inn rd stt cd :=
  ⟨whole_cell h rfl, whole_cell h rfl, whole_cell h rfl, whole_cell h rfl, whole_cell h rfl, whole_cell h rfl, whole_cell h rfl, whole_cell h rfl, whole_cell h rfl, whole_cell h rfl⟩
abbrev bookZero : Array Value := #[.slice none 0 0, .slice none 0 0, .slice none 0 0, .slice none 0 0, .slice none 0 0, .slice none 0 0, .slice none 0 0, .slice none 0 0, .slice none 0 0, .slice none 0 0, .slice none 0 0, .slice none 0 0]
theorem Spares.box {w w' : World} {g : Nat} {cs : Array Value} (h : Spares w w') (hg : w.heap[g]? = some (.cells cs 24 (0, 0))) : w'.heap[g]? = some (.cells cs 24 (0, 0)) := h g cs _ (by decide) (by decide) hg
/-- two boxes that hold the machine that came in -/
structure P4 (w3 wx : World) (b8 b9 : Nat) (cs : Array Value) : Prop where
  hb : Below w3.heap.size w3 wx
  h8 : wx.heap[b8]? = some (.cells cs 24 (0, 0))
  h9 : wx.heap[b9]? = some (.cells cs 24 (0, 0))
  n8 : w3.heap.size ≤ b8
  n9 : w3.heap.size ≤ b9
  ne : b8 ≠ b9
set_option maxHeartbeats 16000000 in
set_option maxRecDepth 100000 in
/-- what is small enough -/
theorem small (v : Value) (m : M) (n : Nat) (f : Int) (hn : n ≤ 60) (hf : f ≤ 300) (hfc : Cell.In f) (W : World) (h : ReadsM W v m) (hi : m.inp.size ≤ maxLen) (ho : m.out.size ≤ maxLen) (hc : Cells m) (hl : lightB m = true) (hE : ∀ wc, Below W.heap.size W wc → Tabs wc) :
    Calls Tryz.prog 3 #[v, .int .i64 n, .int .i64 f] W (Yes W) := by
  obtain ⟨l1, l2, hr⟩ := (lightB_iff m).1 hl
  have HV := Lib.hid h
  have HE := Lib.hid hE
  obtain ⟨vs, vb, vm, rfl, ⟨-, so, sc, rfl, -⟩, ⟨-, bo, bc, rfl, -⟩, ⟨-, mo, mc, rfl, -⟩⟩ := h
  obtain ⟨n2, hn2⟩ : ∃ n, m.stack.length = n := ⟨_, rfl⟩
  obtain ⟨n3, hn3⟩ : ∃ n, m.back.length = n := ⟨_, rfl⟩
  obtain ⟨n4, hn4⟩ : ∃ n, m.mem.length = n := ⟨_, rfl⟩
  rw [hn2, hn3, hn4] at HV ⊢
  have HN := Lib.hid (And.intro hn2 (And.intro hn3 hn4))
  obtain ⟨w1, g, hw1, hg', HX, HB1, HG⟩ := new_box W (cells10 m.ip m.handler (.slice so n2 sc) (.slice bo n3 bc) (.slice mo n4 mc) m.out m.inp m.read m.status m.code) 24
  have C := Lib.hid (light_any (HV.out.below HB1.out) hi ho)
  rw [hl] at C
  have HR := Lib.hid hr
  have HC := Lib.hid (And.intro hc (And.intro hi ho))
  have HF := Lib.hid (And.intro hf (And.intro hfc hn))
  clear hr hc hi ho l1 l2 hl hE hn2 hn3 hn4 hfc
  go_enter Tryz.func3, Tryz.ntmps3
  go_wp2_with (refine ld_state (by rfl) _ rfl _ rfl _ _ HX.out rfl ?_)
  refine C.out.mono ?_
  rintro e w2 ⟨rfl, hb⟩
  have HB2 := Lib.hid (HB1.out.trans (hb.mono HB1.out.size))
  have HX2 := Lib.hid (box_on HX.out hb)
  have A := Lib.hid (alive_any w2 (fun wc hbc => HE.out wc (HB2.out.trans (hbc.mono HB2.out.size))))
  clear C hb hw1 hg' HX HG
  go_wp2_with fail
  refine A.out.mono ?_
  rintro e w2' ⟨rfl, hb⟩
  have HB2 := Lib.hid (HB2.out.trans (hb.mono HB2.out.size))
  have HX2 := Lib.hid (box_on HX2.out hb)
  clear hb A
  go_upto_region 3 with fail
  obtain ⟨w3, pb, hw3, hpb, HBK, HB3, HPB⟩ := new_box w2' bookZero 35
  have HK3 := Lib.hid (Bk.empty HBK.out)
  have HX3 := Lib.hid (box_on HX2.out HB3.out)
  have HW3 := Lib.hid (HB2.out.trans (HB3.out.mono HB2.out.size))
  have HPL := Lib.hid (show pb < w3.heap.size from whole_lt HBK.out)
  have HGP := Lib.hid (show g < pb by have h1 := whole_lt HX2.out; have h2 := HPB.out; omega)
  have HWP := Lib.hid (show W.heap.size ≤ pb by have h1 := HB2.out.size; have h2 := HPB.out; omega)
  clear HBK HX2 HB2
  go_upto_region 4 with fail
  clear hw3 hpb
  have HXB := Lib.hid (show Below w3.heap.size w3 w3.drew from (Below.refl _ _).drew)
  have HXd := Lib.hid (show w3.drew.heap[g]? = _ from HX3.out)
  have NG := Lib.hid (show g < w3.heap.size from whole_lt HX3.out)
  go_cut [8, 9] (fun z y wx => ∃ b8 b9, z = .pointer (some ⟨b8, 0, none⟩) ∧ y = .pointer (some ⟨b9, 0, none⟩) ∧ Hid (P4 w3 wx b8 b9 (cells10 m.ip m.handler (.slice so n2 sc) (.slice bo n3 bc) (.slice mo n4 mc) m.out m.inp m.read m.status m.code)))
  case first =>
    refine wp_region_held (S := fun w' => w'.cell? ⟨g, 0, none⟩ = some (.int .i64 m.ip) ∧ w'.cell? ⟨g, 1, none⟩ = some (.int .i64 m.handler) ∧ w'.cell? ⟨g, 2, none⟩ = some (.slice so n2 sc) ∧ w'.cell? ⟨g, 3, none⟩ = some (.slice bo n3 bc) ∧ w'.cell? ⟨g, 4, none⟩ = some (.slice mo n4 mc) ∧ w'.cell? ⟨g, 5, none⟩ = some (.string m.out) ∧ w'.cell? ⟨g, 6, none⟩ = some (.string m.inp) ∧ w'.cell? ⟨g, 7, none⟩ = some (.int .i64 m.read) ∧ w'.cell? ⟨g, 8, none⟩ = some (.int .i64 m.status) ∧ w'.cell? ⟨g, 9, none⟩ = some (.int .i64 m.code)) (by kernel_rfl) ?_
    change wpAnyH _ _ _ _ _ _ _ _ (World.drew w3)
    refine wpAnyH_take (i := 0) (oi := ⟨some 41, _, _, _, _, _⟩) (v := ?_) rfl (by kernel_rfl) (by kernel_rfl) (by kernel_rfl) (fun _ _ _ h => h) (Or.inl ⟨by rfl, ?_⟩) (Ten.of HXd.out) ?_
    rotate_left
    · intro w hSw
      (try dsimp only at hSw)
      go_simp
      try with_reducible rfl
    try simp only [Act.put, List.setIfInBounds_toArray, List.set_cons_zero, List.set_cons_succ]
    refine wpAnyH_take (i := 1) (oi := ⟨some 42, _, _, _, _, _⟩) (v := ?_) rfl (by kernel_rfl) (by kernel_rfl) (by kernel_rfl) (fun _ _ _ h => h) (Or.inl ⟨by rfl, ?_⟩) (Ten.of HXd.out) ?_
    rotate_left
    · intro w hSw
      (try dsimp only at hSw)
      go_simp
      try with_reducible rfl
    try simp only [Act.put, List.setIfInBounds_toArray, List.set_cons_zero, List.set_cons_succ]
    refine wpAnyH_ready (rs := [2, 3]) (by kernel_rfl) (by simp) ?_
    refine AllReadyH.cons rfl (fun K hK => ?_) ?_
    · refine step_alloc_at 8 (by rfl) rfl rfl ?_
      intro b8 wn hg hnew hb
      have N8 := Lib.hid (show w3.heap.size ≤ b8 by rw [← hg]; exact HXB.out.size)
      have HXd := Lib.hid (box_on HXd.out hb)
      have HXB := Lib.hid (HXB.out.trans (hb.mono HXB.out.size))
      have A8 := Lib.hid hnew
      clear hg hnew hb
      refine hK.out _ _ (Ten.of HXd.out) (fun hHeld => ?_)
      clear hK K hHeld
      try simp only [Act.put, List.setIfInBounds_toArray, List.set_cons_zero, List.set_cons_succ]
      refine wpAnyH_ready (rs := [3]) (by kernel_rfl) (by simp) ?_
      refine AllReadyH.cons rfl (fun K hK => ?_) ?_
      · refine step_alloc_at 9 (by rfl) rfl rfl ?_
        intro b9 wn hg hnew hb
        have N9 := Lib.hid (show w3.heap.size ≤ b9 by rw [← hg]; exact HXB.out.size)
        have NE := Lib.hid (show b8 < b9 by rw [← hg]; exact whole_lt A8.out)
        have HXd := Lib.hid (box_on HXd.out hb)
        have A8 := Lib.hid (box_on A8.out hb)
        have HXB := Lib.hid (HXB.out.trans (hb.mono HXB.out.size))
        have A9 := Lib.hid hnew
        clear hg hnew hb
        refine hK.out _ _ (Ten.of HXd.out) (fun hHeld => ?_)
        clear hK K hHeld
        try simp only [Act.put, List.setIfInBounds_toArray, List.set_cons_zero, List.set_cons_succ]
        refine wpAnyH_ready (rs := [4]) (by kernel_rfl) (by simp) ?_
        refine AllReadyH.cons rfl (fun K hK => ?_) ?_
        · refine step_st_at (by rfl) rfl _ _ rfl b8 _ rfl rfl _ A8.out rfl rfl (all_one rfl rfl rfl) ?_
          intro wp h8 ht
          have hlow : ∀ k ∈ [b8], w3.heap.size ≤ k := fun k hk => by rw [List.mem_singleton.1 hk]; exact N8.out
          have HXp := Lib.hid (HXB.out.trans (ht.below hlow HXB.out.size))
          have HXd := Lib.hid (box_two ht HXd.out (by have h1 := N8.out; have h2 := NG.out; omega))
          have A9 := Lib.hid (box_two ht A9.out (by have := NE.out; omega))
          have B8 := Lib.hid h8
          clear ht h8 hlow
          refine hK.out _ _ (Ten.of HXd.out) (fun hHeld => ?_)
          clear hK K hHeld
          try simp only [Act.put, List.setIfInBounds_toArray, List.set_cons_zero, List.set_cons_succ]
          refine wpAnyH_ready (rs := [5]) (by kernel_rfl) (by simp) ?_
          refine AllReadyH.cons rfl (fun K hK => ?_) ?_
          · refine step_st_at (by rfl) rfl _ _ rfl b9 _ rfl rfl _ A9.out rfl rfl (all_one rfl rfl rfl) ?_
            intro wq h9 ht
            have hlow : ∀ k ∈ [b9], w3.heap.size ≤ k := fun k hk => by rw [List.mem_singleton.1 hk]; exact N9.out
            have HF9 := Lib.hid (show P4 w3 wq b8 b9 _ from ⟨HXp.out.trans (ht.below hlow HXp.out.size), box_two ht B8.out (by have := NE.out; omega), h9, N8.out, N9.out, (by have := NE.out; omega)⟩)
            have HXd := Lib.hid (box_two ht HXd.out (by have h1 := N9.out; have h2 := NG.out; omega))
            clear ht h9 hlow
            refine hK.out _ _ (Ten.of HXd.out) (fun hHeld => ?_)
            clear hK K hHeld
            try simp only [Act.put, List.setIfInBounds_toArray, List.set_cons_zero, List.set_cons_succ]
            refine wpAnyH_done (by kernel_rfl) ?_ _
            first | go_meet | (go_wp2_with fail; go_meet)
            exact ⟨_, _, rfl, rfl, HF9⟩
          · exact AllReadyH.nil
        · exact AllReadyH.nil
      exact AllReadyH.nil
    refine AllReadyH.cons rfl (fun K hK => ?_) ?_
    · refine step_alloc_at 9 (by rfl) rfl rfl ?_
      intro b9 wn hg hnew hb
      have N9 := Lib.hid (show w3.heap.size ≤ b9 by rw [← hg]; exact HXB.out.size)
      have HXd := Lib.hid (box_on HXd.out hb)
      have HXB := Lib.hid (HXB.out.trans (hb.mono HXB.out.size))
      have A9 := Lib.hid hnew
      clear hg hnew hb
      refine hK.out _ _ (Ten.of HXd.out) (fun hHeld => ?_)
      clear hK K hHeld
      try simp only [Act.put, List.setIfInBounds_toArray, List.set_cons_zero, List.set_cons_succ]
      refine wpAnyH_ready (rs := [2]) (by kernel_rfl) (by simp) ?_
      refine AllReadyH.cons rfl (fun K hK => ?_) ?_
      · refine step_alloc_at 8 (by rfl) rfl rfl ?_
        intro b8 wn hg hnew hb
        have N8 := Lib.hid (show w3.heap.size ≤ b8 by rw [← hg]; exact HXB.out.size)
        have NE := Lib.hid (show b9 < b8 by rw [← hg]; exact whole_lt A9.out)
        have HXd := Lib.hid (box_on HXd.out hb)
        have A9 := Lib.hid (box_on A9.out hb)
        have HXB := Lib.hid (HXB.out.trans (hb.mono HXB.out.size))
        have A8 := Lib.hid hnew
        clear hg hnew hb
        refine hK.out _ _ (Ten.of HXd.out) (fun hHeld => ?_)
        clear hK K hHeld
        try simp only [Act.put, List.setIfInBounds_toArray, List.set_cons_zero, List.set_cons_succ]
        refine wpAnyH_ready (rs := [4]) (by kernel_rfl) (by simp) ?_
        refine AllReadyH.cons rfl (fun K hK => ?_) ?_
        · refine step_st_at (by rfl) rfl _ _ rfl b8 _ rfl rfl _ A8.out rfl rfl (all_one rfl rfl rfl) ?_
          intro wp h8 ht
          have hlow : ∀ k ∈ [b8], w3.heap.size ≤ k := fun k hk => by rw [List.mem_singleton.1 hk]; exact N8.out
          have HXp := Lib.hid (HXB.out.trans (ht.below hlow HXB.out.size))
          have HXd := Lib.hid (box_two ht HXd.out (by have h1 := N8.out; have h2 := NG.out; omega))
          have A9 := Lib.hid (box_two ht A9.out (by have := NE.out; omega))
          have B8 := Lib.hid h8
          clear ht h8 hlow
          refine hK.out _ _ (Ten.of HXd.out) (fun hHeld => ?_)
          clear hK K hHeld
          try simp only [Act.put, List.setIfInBounds_toArray, List.set_cons_zero, List.set_cons_succ]
          refine wpAnyH_ready (rs := [5]) (by kernel_rfl) (by simp) ?_
          refine AllReadyH.cons rfl (fun K hK => ?_) ?_
          · refine step_st_at (by rfl) rfl _ _ rfl b9 _ rfl rfl _ A9.out rfl rfl (all_one rfl rfl rfl) ?_
            intro wq h9 ht
            have hlow : ∀ k ∈ [b9], w3.heap.size ≤ k := fun k hk => by rw [List.mem_singleton.1 hk]; exact N9.out
            have HF9 := Lib.hid (show P4 w3 wq b8 b9 _ from ⟨HXp.out.trans (ht.below hlow HXp.out.size), box_two ht B8.out (by have := NE.out; omega), h9, N8.out, N9.out, (by have := NE.out; omega)⟩)
            have HXd := Lib.hid (box_two ht HXd.out (by have h1 := N9.out; have h2 := NG.out; omega))
            clear ht h9 hlow
            refine hK.out _ _ (Ten.of HXd.out) (fun hHeld => ?_)
            clear hK K hHeld
            try simp only [Act.put, List.setIfInBounds_toArray, List.set_cons_zero, List.set_cons_succ]
            refine wpAnyH_done (by kernel_rfl) ?_ _
            first | go_meet | (go_wp2_with fail; go_meet)
            exact ⟨_, _, rfl, rfl, HF9⟩
          · exact AllReadyH.nil
        · exact AllReadyH.nil
      exact AllReadyH.nil
    exact AllReadyH.nil
  case rest =>
    obtain ⟨b8, b9, rfl, rfl, HP4⟩ := hcut
    have HWc := Lib.hid (HW3.out.trans (HP4.out.hb.mono HW3.out.size))
    have HKc := Lib.hid (HK3.out.below HP4.out.hb)
    have HXc := Lib.hid (box_on HX3.out HP4.out.hb)
    have HBN := Lib.hid (show pb < b8 ∧ pb < b9 ∧ b8 ≠ b9 ∧ g ≠ b8 ∧ g ≠ b9 by have h1 := HP4.out.n8; have h2 := HP4.out.n9; have h3 := HPL.out; have h4 := HP4.out.ne; have h5 := HGP.out; omega)
    have HLx := Lib.hid (L3.start (B := pb + 1) HV.out HWc.out)
    have H8 := Lib.hid HP4.out.h8
    have H9 := Lib.hid HP4.out.h9
    clear HP4 HX3 HK3 HW3 HXd HXB NG
    go_wp2_with fail
    go_loopg [10] n (fun z f wr => ∃ (k : Nat) (q : M) (t1 : Option Addr) (d1 c1 : Nat) (t2 : Option Addr) (d2 c2 : Nat) (t3 : Option Addr) (d3 c3 : Nat) (u1 : Option Addr) (f1 a1 : Nat) (u2 : Option Addr) (f2 a2 : Nat) (u3 : Option Addr) (f3 a3 : Nat) (vS vW : Value) (ls : List (Value × List Value)), z = n - k ∧ k ≤ n ∧ f = .int .i64 k ∧
      Hid (wr.heap[b8]? = some (.cells (cells10 q.ip q.handler (.slice t1 d1 c1) (.slice t2 d2 c2) (.slice t3 d3 c3) q.out q.inp q.read q.status q.code) 24 (0, 0))) ∧
      Hid (wr.heap[b9]? = some (.cells (cells10 q.ip q.handler (.slice u1 f1 a1) (.slice u2 f2 a2) (.slice u3 f3 a3) q.out q.inp q.read q.status q.code) 24 (0, 0))) ∧
      Hid (L3 W wr (pb + 1) (.slice t1 d1 c1) (.slice t2 d2 c2) (.slice t3 d3 c3) q) ∧ Hid (L3 W wr (pb + 1) (.slice u1 f1 a1) (.slice u2 f2 a2) (.slice u3 f3 a3) q) ∧ Hid (Bk wr pb vS vW ls) ∧ Hid (ls.length = 3 * min k 10) ∧
      Hid (wr.heap[g]? = some (.cells (cells10 m.ip m.handler (.slice so n2 sc) (.slice bo n3 bc) (.slice mo n4 mc) m.out m.inp m.read m.status m.code) 24 (0, 0))) ∧ Hid (Below W.heap.size W wr) ∧ Hid (Right q ∧ Cells q ∧ q.inp = m.inp))
    case atStart => exact ⟨0, m, so, n2, sc, bo, n3, bc, mo, n4, mc, so, n2, sc, bo, n3, bc, mo, n4, mc, _, _, _, rfl, Nat.zero_le _, rfl, H8, H9, HLx, HLx, HKc, rfl, HXc, HWc, Lib.hid ⟨HR.out, HC.out.1, rfl⟩⟩
    case round =>
      obtain ⟨k, q, t1, d1, c1, t2, d2, c2, t3, d3, c3, u1, f1, a1, u2, f2, a2, u3, f3, a3, vS, vW, ls, rfl, hk, rfl, H8, H9, HLx, HLy, HK, HLS, HXg, HWr, HQ⟩ := hrel
      by_cases hlt : k < n
      · have b1 : (k : Int) < (n : Int) := by omega
        have HQL := Lib.hid (show q.stack.length ≤ 10000 ∧ q.back.length ≤ 10000 ∧ q.mem.length ≤ 10000 ∧ q.inp.size ≤ maxLen by
          have h1 := HQ.out.1.stack
          have h2 := HQ.out.1.back
          have h3 := HQ.out.1.mem
          exact ⟨by omega, by omega, by omega, by rw [HQ.out.2.2]; exact HC.out.2.1⟩)
        have C := Lib.hid (lentState_any (HLx.out.reads HWr.out) HQL.out.1 HQL.out.2.1 HQL.out.2.2.1)
        go_upto_region 8 with fail
        go_wp2_with (refine ld_state (by rfl) _ rfl _ rfl _ _ H8.out rfl ?_)
        refine C.out.mono ?_
        rintro e w7 ⟨v', rfl, hlm, hb⟩
        obtain ⟨l1, y1, l2, y2, l3, y3, rfl, hl1, hl2, hl3⟩ := id hlm
        obtain ⟨w8, b11, hw8, hb11, H11, HBn, HGL⟩ := new_box w7 (cells10 q.ip q.handler (.slice (some ⟨l1, 0, none⟩) q.stack.length y1) (.slice (some ⟨l2, 0, none⟩) q.back.length y2) (.slice (some ⟨l3, 0, none⟩) q.mem.length y3) q.out q.inp q.read q.status q.code) 24
        have hbb := hb.trans (HBn.out.mono hb.size)
        have HLM := Lib.hid (hlm.below HBn.out)
        have HW8 := Lib.hid (HWr.out.trans (hbb.mono HWr.out.size))
        have HK8 := Lib.hid (HK.out.below hbb)
        have H8 := Lib.hid (box_on H8.out hbb)
        have H9 := Lib.hid (box_on H9.out hbb)
        have HXg := Lib.hid (box_on HXg.out hbb)
        have HLx := Lib.hid (HLx.out.below hbb)
        have HLy := Lib.hid (HLy.out.below hbb)
        clear C hb hbb hlm hl1 hl2 hl3 HBn HGL HK HWr
        go_upto_region 9 with fail
        clear hw8 hb11
        have HX := Lib.hid (show Below w8.heap.size w8 w8.drew from (Below.refl _ _).drew)
        have H9d := H9
        have H11d := H11
        have H11 := Lib.hid (show w8.drew.heap[b11]? = _ from H11.out)
        have H9 := Lib.hid (show w8.drew.heap[b9]? = _ from H9.out)
        have N9 := Lib.hid (show b9 < w8.heap.size ∧ b11 < w8.heap.size from ⟨whole_lt H9d.out, whole_lt H11d.out⟩)
        have HSt := Lib.hid (fun wc (hb : Below w8.heap.size w8 wc) => innStep_any (HLM.out.reads.below hb) HQ.out.1 HQ.out.2.1 HQL.out.2.2.2 (fun wd hbd => HE.out wd ((HW8.out.trans (hb.mono HW8.out.size)).trans (hbd.mono (Nat.le_trans HW8.out.size hb.size)))))
        have HRf := Lib.hid (fun wc (hb : Below w8.heap.size w8 wc) => refStep_list (HLy.out.below hb) (HW8.out.trans (hb.mono HW8.out.size)) (by have h1 := whole_lt HK8.out.book; have h2 := hb.size; omega) HQ.out.1 HQ.out.2.1 HQL.out.2.2.2)
        go_cut [12, 13] (fun z y wx => ∃ b12 b13 e1 i1 e2 i2 e3 i3 s1 z1 j1 s2 z2 j2 s3 z3 j3, z = .pointer (some ⟨b12, 0, none⟩) ∧ y = .pointer (some ⟨b13, 0, none⟩) ∧ Hid (P9 w8 wx W (pb + 1) b12 b13 (Mach.step q) (.slice e1 (Mach.step q).stack.length i1) (.slice e2 (Mach.step q).back.length i2) (.slice e3 (Mach.step q).mem.length i3) (.slice s1 z1 j1) (.slice s2 z2 j2) (.slice s3 z3 j3)))
        case first =>
          refine wp_region_held (S := fun w' => (w'.cell? ⟨b11, 0, none⟩ = some (.int .i64 q.ip) ∧ w'.cell? ⟨b11, 1, none⟩ = some (.int .i64 q.handler) ∧ w'.cell? ⟨b11, 2, none⟩ = some (.slice (some ⟨l1, 0, none⟩) q.stack.length y1) ∧ w'.cell? ⟨b11, 3, none⟩ = some (.slice (some ⟨l2, 0, none⟩) q.back.length y2) ∧ w'.cell? ⟨b11, 4, none⟩ = some (.slice (some ⟨l3, 0, none⟩) q.mem.length y3) ∧ w'.cell? ⟨b11, 5, none⟩ = some (.string q.out) ∧ w'.cell? ⟨b11, 6, none⟩ = some (.string q.inp) ∧ w'.cell? ⟨b11, 7, none⟩ = some (.int .i64 q.read) ∧ w'.cell? ⟨b11, 8, none⟩ = some (.int .i64 q.status) ∧ w'.cell? ⟨b11, 9, none⟩ = some (.int .i64 q.code)) ∧ (w'.cell? ⟨b9, 0, none⟩ = some (.int .i64 q.ip) ∧ w'.cell? ⟨b9, 1, none⟩ = some (.int .i64 q.handler) ∧ w'.cell? ⟨b9, 2, none⟩ = some (.slice u1 f1 a1) ∧ w'.cell? ⟨b9, 3, none⟩ = some (.slice u2 f2 a2) ∧ w'.cell? ⟨b9, 4, none⟩ = some (.slice u3 f3 a3) ∧ w'.cell? ⟨b9, 5, none⟩ = some (.string q.out) ∧ w'.cell? ⟨b9, 6, none⟩ = some (.string q.inp) ∧ w'.cell? ⟨b9, 7, none⟩ = some (.int .i64 q.read) ∧ w'.cell? ⟨b9, 8, none⟩ = some (.int .i64 q.status) ∧ w'.cell? ⟨b9, 9, none⟩ = some (.int .i64 q.code))) (by kernel_rfl) ?_
          change wpAnyH _ _ _ _ _ _ _ _ (World.drew w8)
          refine wpAnyH_take (i := 0) (oi := ⟨some 50, _, _, _, _, _⟩) (v := ?_) rfl (by kernel_rfl) (by kernel_rfl) (by kernel_rfl) (fun _ _ _ h => h) (Or.inl ⟨by rfl, ?_⟩) (And.intro (Ten.of H11.out) (Ten.of H9.out)) ?_
          rotate_left
          · intro w hSw
            (try dsimp only at hSw)
            go_simp
            try with_reducible rfl
          try simp only [Act.put, List.setIfInBounds_toArray, List.set_cons_zero, List.set_cons_succ]
          refine wpAnyH_take (i := 2) (oi := ⟨some 52, _, _, _, _, _⟩) (v := ?_) rfl (by kernel_rfl) (by kernel_rfl) (by kernel_rfl) (fun _ _ _ h => h) (Or.inl ⟨by rfl, ?_⟩) (And.intro (Ten.of H11.out) (Ten.of H9.out)) ?_
          rotate_left
          · intro w hSw
            (try dsimp only at hSw)
            go_simp
            try with_reducible rfl
          try simp only [Act.put, List.setIfInBounds_toArray, List.set_cons_zero, List.set_cons_succ]
          refine wpAnyH_ready (rs := [1, 4, 5]) (by kernel_rfl) (by simp) ?_
          refine AllReadyH.cons rfl (fun K hK => ?_) ?_
          · go_simp
            go_at_call 8
            refine (HSt.out _ HX.out).mono ?_
            rintro e wn hgm
            obtain ⟨e1, i1, e2, i2, e3, i3, rfl, ho, hb⟩ := GivesM.known hgm
            have HEn := Lib.hid (OwnsL.from ho HX.out.size)
            have H11 := Lib.hid (box_on H11.out hb)
            have H9 := Lib.hid (box_on H9.out hb)
            have HX := Lib.hid (HX.out.trans (hb.mono HX.out.size))
            have HE9 := HEn
            clear ho hgm hb
            go_wp2_with fail
            refine hK.out _ _ (And.intro (Ten.of H11.out) (Ten.of H9.out)) (fun hHeld => ?_)
            clear hK K hHeld
            try simp only [Act.put, List.setIfInBounds_toArray, List.set_cons_zero, List.set_cons_succ]
            refine wpAnyH_ready (rs := [3, 4, 5]) (by kernel_rfl) (by simp) ?_
            refine AllReadyH.cons rfl (fun K hK => ?_) ?_
            · go_simp
              go_at_call 9
              refine (HRf.out _ HX.out).mono ?_
              rintro e wn ⟨s1, z1, j1, s2, z2, j2, s3, z3, j3, rfl, hl, hb⟩
              have HFn := Lib.hid hl
              have H11 := Lib.hid (box_on H11.out hb)
              have H9 := Lib.hid (box_on H9.out hb)
              have HE9 := Lib.hid (OwnsL.below HE9.out hb)
              have HX := Lib.hid (HX.out.trans (hb.mono HX.out.size))
              have HF9 := HFn
              clear hl hb
              go_wp2_with fail
              refine hK.out _ _ (And.intro (Ten.of H11.out) (Ten.of H9.out)) (fun hHeld => ?_)
              clear hK K hHeld
              try simp only [Act.put, List.setIfInBounds_toArray, List.set_cons_zero, List.set_cons_succ]
              refine wpAnyH_ready (rs := [4, 5]) (by kernel_rfl) (by simp) ?_
              refine AllReadyH.cons rfl (fun K hK => ?_) ?_
              · refine step_alloc_at 12 (by rfl) rfl rfl ?_
                intro b12 wn hg hnew hb
                have N12 := Lib.hid (show w8.heap.size ≤ b12 by rw [← hg]; exact HX.out.size)
                have H11 := Lib.hid (box_on H11.out hb)
                have H9 := Lib.hid (box_on H9.out hb)
                have HE9 := Lib.hid (OwnsL.below HE9.out hb)
                have HF9 := Lib.hid (HF9.out.below hb)
                have HX := Lib.hid (HX.out.trans (hb.mono HX.out.size))
                have A12 := Lib.hid hnew
                clear hg hnew hb
                refine hK.out _ _ (And.intro (Ten.of H11.out) (Ten.of H9.out)) (fun hHeld => ?_)
                clear hK K hHeld
                try simp only [Act.put, List.setIfInBounds_toArray, List.set_cons_zero, List.set_cons_succ]
                refine wpAnyH_ready (rs := [5]) (by kernel_rfl) (by simp) ?_
                refine AllReadyH.cons rfl (fun K hK => ?_) ?_
                · refine step_alloc_at 13 (by rfl) rfl rfl ?_
                  intro b13 wn hg hnew hb
                  have N13 := Lib.hid (show w8.heap.size ≤ b13 by rw [← hg]; exact HX.out.size)
                  have NE := Lib.hid (show b12 < b13 by rw [← hg]; exact whole_lt A12.out)
                  have H11 := Lib.hid (box_on H11.out hb)
                  have H9 := Lib.hid (box_on H9.out hb)
                  have A12 := Lib.hid (box_on A12.out hb)
                  have HE9 := Lib.hid (OwnsL.below HE9.out hb)
                  have HF9 := Lib.hid (HF9.out.below hb)
                  have HX := Lib.hid (HX.out.trans (hb.mono HX.out.size))
                  have A13 := Lib.hid hnew
                  clear hg hnew hb
                  refine hK.out _ _ (And.intro (Ten.of H11.out) (Ten.of H9.out)) (fun hHeld => ?_)
                  clear hK K hHeld
                  try simp only [Act.put, List.setIfInBounds_toArray, List.set_cons_zero, List.set_cons_succ]
                  refine wpAnyH_ready (rs := [6]) (by kernel_rfl) (by simp) ?_
                  refine AllReadyH.cons rfl (fun K hK => ?_) ?_
                  · refine step_st_at (by rfl) rfl _ _ rfl b12 _ rfl rfl _ A12.out rfl rfl (all_one rfl rfl rfl) ?_
                    intro wp h12 ht
                    have hlow : ∀ k ∈ [b12], w8.heap.size ≤ k := fun k hk => by rw [List.mem_singleton.1 hk]; exact N12.out
                    have HXp := Lib.hid (HX.out.trans (ht.below hlow HX.out.size))
                    have H11 := Lib.hid (box_two ht H11.out (by have h1 := N12.out; have h2 := N9.out; omega))
                    have H9 := Lib.hid (box_two ht H9.out (by have h1 := N12.out; have h2 := N9.out; omega))
                    have A13 := Lib.hid (box_two ht A13.out (by have := NE.out; omega))
                    have HE9 := Lib.hid (Mach.OwnsL.box HE9.out ht A12.out)
                    have HF9 := Lib.hid (HF9.out.box ht A12.out)
                    have B12 := Lib.hid h12
                    clear ht h12 hlow
                    refine hK.out _ _ (And.intro (Ten.of H11.out) (Ten.of H9.out)) (fun hHeld => ?_)
                    clear hK K hHeld
                    try simp only [Act.put, List.setIfInBounds_toArray, List.set_cons_zero, List.set_cons_succ]
                    refine wpAnyH_ready (rs := [7]) (by kernel_rfl) (by simp) ?_
                    refine AllReadyH.cons rfl (fun K hK => ?_) ?_
                    · refine step_st_at (by rfl) rfl _ _ rfl b13 _ rfl rfl _ A13.out rfl rfl (all_one rfl rfl rfl) ?_
                      intro wq h13 ht
                      have hlow : ∀ k ∈ [b13], w8.heap.size ≤ k := fun k hk => by rw [List.mem_singleton.1 hk]; exact N13.out
                      have HP9 := Lib.hid (show P9 w8 wq W (pb + 1) b12 b13 _ _ _ _ _ _ _ from ⟨HXp.out.trans (ht.below hlow HXp.out.size), box_two ht B12.out (by have := NE.out; omega), h13, Mach.OwnsL.box HE9.out ht A13.out, HF9.out.box ht A13.out, N12.out, N13.out⟩)
                      have H11 := Lib.hid (box_two ht H11.out (by have h1 := N13.out; have h2 := N9.out; omega))
                      have H9 := Lib.hid (box_two ht H9.out (by have h1 := N13.out; have h2 := N9.out; omega))
                      clear ht h13 hlow
                      refine hK.out _ _ (And.intro (Ten.of H11.out) (Ten.of H9.out)) (fun hHeld => ?_)
                      clear hK K hHeld
                      try simp only [Act.put, List.setIfInBounds_toArray, List.set_cons_zero, List.set_cons_succ]
                      refine wpAnyH_done (by kernel_rfl) ?_ _
                      first | go_meet | (go_wp2_with fail; go_meet)
                      exact ⟨_, _, _, _, _, _, _, _, _, _, _, _, _, _, _, _, _, rfl, rfl, HP9⟩
                    · exact AllReadyH.nil
                  · exact AllReadyH.nil
                exact AllReadyH.nil
              refine AllReadyH.cons rfl (fun K hK => ?_) ?_
              · refine step_alloc_at 13 (by rfl) rfl rfl ?_
                intro b13 wn hg hnew hb
                have N13 := Lib.hid (show w8.heap.size ≤ b13 by rw [← hg]; exact HX.out.size)
                have H11 := Lib.hid (box_on H11.out hb)
                have H9 := Lib.hid (box_on H9.out hb)
                have HE9 := Lib.hid (OwnsL.below HE9.out hb)
                have HF9 := Lib.hid (HF9.out.below hb)
                have HX := Lib.hid (HX.out.trans (hb.mono HX.out.size))
                have A13 := Lib.hid hnew
                clear hg hnew hb
                refine hK.out _ _ (And.intro (Ten.of H11.out) (Ten.of H9.out)) (fun hHeld => ?_)
                clear hK K hHeld
                try simp only [Act.put, List.setIfInBounds_toArray, List.set_cons_zero, List.set_cons_succ]
                refine wpAnyH_ready (rs := [4]) (by kernel_rfl) (by simp) ?_
                refine AllReadyH.cons rfl (fun K hK => ?_) ?_
                · refine step_alloc_at 12 (by rfl) rfl rfl ?_
                  intro b12 wn hg hnew hb
                  have N12 := Lib.hid (show w8.heap.size ≤ b12 by rw [← hg]; exact HX.out.size)
                  have NE := Lib.hid (show b13 < b12 by rw [← hg]; exact whole_lt A13.out)
                  have H11 := Lib.hid (box_on H11.out hb)
                  have H9 := Lib.hid (box_on H9.out hb)
                  have A13 := Lib.hid (box_on A13.out hb)
                  have HE9 := Lib.hid (OwnsL.below HE9.out hb)
                  have HF9 := Lib.hid (HF9.out.below hb)
                  have HX := Lib.hid (HX.out.trans (hb.mono HX.out.size))
                  have A12 := Lib.hid hnew
                  clear hg hnew hb
                  refine hK.out _ _ (And.intro (Ten.of H11.out) (Ten.of H9.out)) (fun hHeld => ?_)
                  clear hK K hHeld
                  try simp only [Act.put, List.setIfInBounds_toArray, List.set_cons_zero, List.set_cons_succ]
                  refine wpAnyH_ready (rs := [6]) (by kernel_rfl) (by simp) ?_
                  refine AllReadyH.cons rfl (fun K hK => ?_) ?_
                  · refine step_st_at (by rfl) rfl _ _ rfl b12 _ rfl rfl _ A12.out rfl rfl (all_one rfl rfl rfl) ?_
                    intro wp h12 ht
                    have hlow : ∀ k ∈ [b12], w8.heap.size ≤ k := fun k hk => by rw [List.mem_singleton.1 hk]; exact N12.out
                    have HXp := Lib.hid (HX.out.trans (ht.below hlow HX.out.size))
                    have H11 := Lib.hid (box_two ht H11.out (by have h1 := N12.out; have h2 := N9.out; omega))
                    have H9 := Lib.hid (box_two ht H9.out (by have h1 := N12.out; have h2 := N9.out; omega))
                    have A13 := Lib.hid (box_two ht A13.out (by have := NE.out; omega))
                    have HE9 := Lib.hid (Mach.OwnsL.box HE9.out ht A12.out)
                    have HF9 := Lib.hid (HF9.out.box ht A12.out)
                    have B12 := Lib.hid h12
                    clear ht h12 hlow
                    refine hK.out _ _ (And.intro (Ten.of H11.out) (Ten.of H9.out)) (fun hHeld => ?_)
                    clear hK K hHeld
                    try simp only [Act.put, List.setIfInBounds_toArray, List.set_cons_zero, List.set_cons_succ]
                    refine wpAnyH_ready (rs := [7]) (by kernel_rfl) (by simp) ?_
                    refine AllReadyH.cons rfl (fun K hK => ?_) ?_
                    · refine step_st_at (by rfl) rfl _ _ rfl b13 _ rfl rfl _ A13.out rfl rfl (all_one rfl rfl rfl) ?_
                      intro wq h13 ht
                      have hlow : ∀ k ∈ [b13], w8.heap.size ≤ k := fun k hk => by rw [List.mem_singleton.1 hk]; exact N13.out
                      have HP9 := Lib.hid (show P9 w8 wq W (pb + 1) b12 b13 _ _ _ _ _ _ _ from ⟨HXp.out.trans (ht.below hlow HXp.out.size), box_two ht B12.out (by have := NE.out; omega), h13, Mach.OwnsL.box HE9.out ht A13.out, HF9.out.box ht A13.out, N12.out, N13.out⟩)
                      have H11 := Lib.hid (box_two ht H11.out (by have h1 := N13.out; have h2 := N9.out; omega))
                      have H9 := Lib.hid (box_two ht H9.out (by have h1 := N13.out; have h2 := N9.out; omega))
                      clear ht h13 hlow
                      refine hK.out _ _ (And.intro (Ten.of H11.out) (Ten.of H9.out)) (fun hHeld => ?_)
                      clear hK K hHeld
                      try simp only [Act.put, List.setIfInBounds_toArray, List.set_cons_zero, List.set_cons_succ]
                      refine wpAnyH_done (by kernel_rfl) ?_ _
                      first | go_meet | (go_wp2_with fail; go_meet)
                      exact ⟨_, _, _, _, _, _, _, _, _, _, _, _, _, _, _, _, _, rfl, rfl, HP9⟩
                    · exact AllReadyH.nil
                  · exact AllReadyH.nil
                exact AllReadyH.nil
              exact AllReadyH.nil
            refine AllReadyH.cons rfl (fun K hK => ?_) ?_
            · refine step_alloc_at 12 (by rfl) rfl rfl ?_
              intro b12 wn hg hnew hb
              have N12 := Lib.hid (show w8.heap.size ≤ b12 by rw [← hg]; exact HX.out.size)
              have H11 := Lib.hid (box_on H11.out hb)
              have H9 := Lib.hid (box_on H9.out hb)
              have HE9 := Lib.hid (OwnsL.below HE9.out hb)
              have HX := Lib.hid (HX.out.trans (hb.mono HX.out.size))
              have A12 := Lib.hid hnew
              clear hg hnew hb
              refine hK.out _ _ (And.intro (Ten.of H11.out) (Ten.of H9.out)) (fun hHeld => ?_)
              clear hK K hHeld
              try simp only [Act.put, List.setIfInBounds_toArray, List.set_cons_zero, List.set_cons_succ]
              refine wpAnyH_ready (rs := [3, 5]) (by kernel_rfl) (by simp) ?_
              refine AllReadyH.cons rfl (fun K hK => ?_) ?_
              · go_simp
                go_at_call 9
                refine (HRf.out _ HX.out).mono ?_
                rintro e wn ⟨s1, z1, j1, s2, z2, j2, s3, z3, j3, rfl, hl, hb⟩
                have HFn := Lib.hid hl
                have H11 := Lib.hid (box_on H11.out hb)
                have H9 := Lib.hid (box_on H9.out hb)
                have A12 := Lib.hid (box_on A12.out hb)
                have HE9 := Lib.hid (OwnsL.below HE9.out hb)
                have HX := Lib.hid (HX.out.trans (hb.mono HX.out.size))
                have HF9 := HFn
                clear hl hb
                go_wp2_with fail
                refine hK.out _ _ (And.intro (Ten.of H11.out) (Ten.of H9.out)) (fun hHeld => ?_)
                clear hK K hHeld
                try simp only [Act.put, List.setIfInBounds_toArray, List.set_cons_zero, List.set_cons_succ]
                refine wpAnyH_ready (rs := [5]) (by kernel_rfl) (by simp) ?_
                refine AllReadyH.cons rfl (fun K hK => ?_) ?_
                · refine step_alloc_at 13 (by rfl) rfl rfl ?_
                  intro b13 wn hg hnew hb
                  have N13 := Lib.hid (show w8.heap.size ≤ b13 by rw [← hg]; exact HX.out.size)
                  have NE := Lib.hid (show b12 < b13 by rw [← hg]; exact whole_lt A12.out)
                  have H11 := Lib.hid (box_on H11.out hb)
                  have H9 := Lib.hid (box_on H9.out hb)
                  have A12 := Lib.hid (box_on A12.out hb)
                  have HE9 := Lib.hid (OwnsL.below HE9.out hb)
                  have HF9 := Lib.hid (HF9.out.below hb)
                  have HX := Lib.hid (HX.out.trans (hb.mono HX.out.size))
                  have A13 := Lib.hid hnew
                  clear hg hnew hb
                  refine hK.out _ _ (And.intro (Ten.of H11.out) (Ten.of H9.out)) (fun hHeld => ?_)
                  clear hK K hHeld
                  try simp only [Act.put, List.setIfInBounds_toArray, List.set_cons_zero, List.set_cons_succ]
                  refine wpAnyH_ready (rs := [6]) (by kernel_rfl) (by simp) ?_
                  refine AllReadyH.cons rfl (fun K hK => ?_) ?_
                  · refine step_st_at (by rfl) rfl _ _ rfl b12 _ rfl rfl _ A12.out rfl rfl (all_one rfl rfl rfl) ?_
                    intro wp h12 ht
                    have hlow : ∀ k ∈ [b12], w8.heap.size ≤ k := fun k hk => by rw [List.mem_singleton.1 hk]; exact N12.out
                    have HXp := Lib.hid (HX.out.trans (ht.below hlow HX.out.size))
                    have H11 := Lib.hid (box_two ht H11.out (by have h1 := N12.out; have h2 := N9.out; omega))
                    have H9 := Lib.hid (box_two ht H9.out (by have h1 := N12.out; have h2 := N9.out; omega))
                    have A13 := Lib.hid (box_two ht A13.out (by have := NE.out; omega))
                    have HE9 := Lib.hid (Mach.OwnsL.box HE9.out ht A12.out)
                    have HF9 := Lib.hid (HF9.out.box ht A12.out)
                    have B12 := Lib.hid h12
                    clear ht h12 hlow
                    refine hK.out _ _ (And.intro (Ten.of H11.out) (Ten.of H9.out)) (fun hHeld => ?_)
                    clear hK K hHeld
                    try simp only [Act.put, List.setIfInBounds_toArray, List.set_cons_zero, List.set_cons_succ]
                    refine wpAnyH_ready (rs := [7]) (by kernel_rfl) (by simp) ?_
                    refine AllReadyH.cons rfl (fun K hK => ?_) ?_
                    · refine step_st_at (by rfl) rfl _ _ rfl b13 _ rfl rfl _ A13.out rfl rfl (all_one rfl rfl rfl) ?_
                      intro wq h13 ht
                      have hlow : ∀ k ∈ [b13], w8.heap.size ≤ k := fun k hk => by rw [List.mem_singleton.1 hk]; exact N13.out
                      have HP9 := Lib.hid (show P9 w8 wq W (pb + 1) b12 b13 _ _ _ _ _ _ _ from ⟨HXp.out.trans (ht.below hlow HXp.out.size), box_two ht B12.out (by have := NE.out; omega), h13, Mach.OwnsL.box HE9.out ht A13.out, HF9.out.box ht A13.out, N12.out, N13.out⟩)
                      have H11 := Lib.hid (box_two ht H11.out (by have h1 := N13.out; have h2 := N9.out; omega))
                      have H9 := Lib.hid (box_two ht H9.out (by have h1 := N13.out; have h2 := N9.out; omega))
                      clear ht h13 hlow
                      refine hK.out _ _ (And.intro (Ten.of H11.out) (Ten.of H9.out)) (fun hHeld => ?_)
                      clear hK K hHeld
                      try simp only [Act.put, List.setIfInBounds_toArray, List.set_cons_zero, List.set_cons_succ]
                      refine wpAnyH_done (by kernel_rfl) ?_ _
                      first | go_meet | (go_wp2_with fail; go_meet)
                      exact ⟨_, _, _, _, _, _, _, _, _, _, _, _, _, _, _, _, _, rfl, rfl, HP9⟩
                    · exact AllReadyH.nil
                  · exact AllReadyH.nil
                exact AllReadyH.nil
              refine AllReadyH.cons rfl (fun K hK => ?_) ?_
              · refine step_alloc_at 13 (by rfl) rfl rfl ?_
                intro b13 wn hg hnew hb
                have N13 := Lib.hid (show w8.heap.size ≤ b13 by rw [← hg]; exact HX.out.size)
                have NE := Lib.hid (show b12 < b13 by rw [← hg]; exact whole_lt A12.out)
                have H11 := Lib.hid (box_on H11.out hb)
                have H9 := Lib.hid (box_on H9.out hb)
                have A12 := Lib.hid (box_on A12.out hb)
                have HE9 := Lib.hid (OwnsL.below HE9.out hb)
                have HX := Lib.hid (HX.out.trans (hb.mono HX.out.size))
                have A13 := Lib.hid hnew
                clear hg hnew hb
                refine hK.out _ _ (And.intro (Ten.of H11.out) (Ten.of H9.out)) (fun hHeld => ?_)
                clear hK K hHeld
                try simp only [Act.put, List.setIfInBounds_toArray, List.set_cons_zero, List.set_cons_succ]
                refine wpAnyH_ready (rs := [3]) (by kernel_rfl) (by simp) ?_
                refine AllReadyH.cons rfl (fun K hK => ?_) ?_
                · go_simp
                  go_at_call 9
                  refine (HRf.out _ HX.out).mono ?_
                  rintro e wn ⟨s1, z1, j1, s2, z2, j2, s3, z3, j3, rfl, hl, hb⟩
                  have HFn := Lib.hid hl
                  have H11 := Lib.hid (box_on H11.out hb)
                  have H9 := Lib.hid (box_on H9.out hb)
                  have A12 := Lib.hid (box_on A12.out hb)
                  have A13 := Lib.hid (box_on A13.out hb)
                  have HE9 := Lib.hid (OwnsL.below HE9.out hb)
                  have HX := Lib.hid (HX.out.trans (hb.mono HX.out.size))
                  have HF9 := HFn
                  clear hl hb
                  go_wp2_with fail
                  refine hK.out _ _ (And.intro (Ten.of H11.out) (Ten.of H9.out)) (fun hHeld => ?_)
                  clear hK K hHeld
                  try simp only [Act.put, List.setIfInBounds_toArray, List.set_cons_zero, List.set_cons_succ]
                  refine wpAnyH_ready (rs := [6]) (by kernel_rfl) (by simp) ?_
                  refine AllReadyH.cons rfl (fun K hK => ?_) ?_
                  · refine step_st_at (by rfl) rfl _ _ rfl b12 _ rfl rfl _ A12.out rfl rfl (all_one rfl rfl rfl) ?_
                    intro wp h12 ht
                    have hlow : ∀ k ∈ [b12], w8.heap.size ≤ k := fun k hk => by rw [List.mem_singleton.1 hk]; exact N12.out
                    have HXp := Lib.hid (HX.out.trans (ht.below hlow HX.out.size))
                    have H11 := Lib.hid (box_two ht H11.out (by have h1 := N12.out; have h2 := N9.out; omega))
                    have H9 := Lib.hid (box_two ht H9.out (by have h1 := N12.out; have h2 := N9.out; omega))
                    have A13 := Lib.hid (box_two ht A13.out (by have := NE.out; omega))
                    have HE9 := Lib.hid (Mach.OwnsL.box HE9.out ht A12.out)
                    have HF9 := Lib.hid (HF9.out.box ht A12.out)
                    have B12 := Lib.hid h12
                    clear ht h12 hlow
                    refine hK.out _ _ (And.intro (Ten.of H11.out) (Ten.of H9.out)) (fun hHeld => ?_)
                    clear hK K hHeld
                    try simp only [Act.put, List.setIfInBounds_toArray, List.set_cons_zero, List.set_cons_succ]
                    refine wpAnyH_ready (rs := [7]) (by kernel_rfl) (by simp) ?_
                    refine AllReadyH.cons rfl (fun K hK => ?_) ?_
                    · refine step_st_at (by rfl) rfl _ _ rfl b13 _ rfl rfl _ A13.out rfl rfl (all_one rfl rfl rfl) ?_
                      intro wq h13 ht
                      have hlow : ∀ k ∈ [b13], w8.heap.size ≤ k := fun k hk => by rw [List.mem_singleton.1 hk]; exact N13.out
                      have HP9 := Lib.hid (show P9 w8 wq W (pb + 1) b12 b13 _ _ _ _ _ _ _ from ⟨HXp.out.trans (ht.below hlow HXp.out.size), box_two ht B12.out (by have := NE.out; omega), h13, Mach.OwnsL.box HE9.out ht A13.out, HF9.out.box ht A13.out, N12.out, N13.out⟩)
                      have H11 := Lib.hid (box_two ht H11.out (by have h1 := N13.out; have h2 := N9.out; omega))
                      have H9 := Lib.hid (box_two ht H9.out (by have h1 := N13.out; have h2 := N9.out; omega))
                      clear ht h13 hlow
                      refine hK.out _ _ (And.intro (Ten.of H11.out) (Ten.of H9.out)) (fun hHeld => ?_)
                      clear hK K hHeld
                      try simp only [Act.put, List.setIfInBounds_toArray, List.set_cons_zero, List.set_cons_succ]
                      refine wpAnyH_done (by kernel_rfl) ?_ _
                      first | go_meet | (go_wp2_with fail; go_meet)
                      exact ⟨_, _, _, _, _, _, _, _, _, _, _, _, _, _, _, _, _, rfl, rfl, HP9⟩
                    · exact AllReadyH.nil
                  · exact AllReadyH.nil
                exact AllReadyH.nil
              exact AllReadyH.nil
            refine AllReadyH.cons rfl (fun K hK => ?_) ?_
            · refine step_alloc_at 13 (by rfl) rfl rfl ?_
              intro b13 wn hg hnew hb
              have N13 := Lib.hid (show w8.heap.size ≤ b13 by rw [← hg]; exact HX.out.size)
              have H11 := Lib.hid (box_on H11.out hb)
              have H9 := Lib.hid (box_on H9.out hb)
              have HE9 := Lib.hid (OwnsL.below HE9.out hb)
              have HX := Lib.hid (HX.out.trans (hb.mono HX.out.size))
              have A13 := Lib.hid hnew
              clear hg hnew hb
              refine hK.out _ _ (And.intro (Ten.of H11.out) (Ten.of H9.out)) (fun hHeld => ?_)
              clear hK K hHeld
              try simp only [Act.put, List.setIfInBounds_toArray, List.set_cons_zero, List.set_cons_succ]
              refine wpAnyH_ready (rs := [3, 4]) (by kernel_rfl) (by simp) ?_
              refine AllReadyH.cons rfl (fun K hK => ?_) ?_
              · go_simp
                go_at_call 9
                refine (HRf.out _ HX.out).mono ?_
                rintro e wn ⟨s1, z1, j1, s2, z2, j2, s3, z3, j3, rfl, hl, hb⟩
                have HFn := Lib.hid hl
                have H11 := Lib.hid (box_on H11.out hb)
                have H9 := Lib.hid (box_on H9.out hb)
                have A13 := Lib.hid (box_on A13.out hb)
                have HE9 := Lib.hid (OwnsL.below HE9.out hb)
                have HX := Lib.hid (HX.out.trans (hb.mono HX.out.size))
                have HF9 := HFn
                clear hl hb
                go_wp2_with fail
                refine hK.out _ _ (And.intro (Ten.of H11.out) (Ten.of H9.out)) (fun hHeld => ?_)
                clear hK K hHeld
                try simp only [Act.put, List.setIfInBounds_toArray, List.set_cons_zero, List.set_cons_succ]
                refine wpAnyH_ready (rs := [4]) (by kernel_rfl) (by simp) ?_
                refine AllReadyH.cons rfl (fun K hK => ?_) ?_
                · refine step_alloc_at 12 (by rfl) rfl rfl ?_
                  intro b12 wn hg hnew hb
                  have N12 := Lib.hid (show w8.heap.size ≤ b12 by rw [← hg]; exact HX.out.size)
                  have NE := Lib.hid (show b13 < b12 by rw [← hg]; exact whole_lt A13.out)
                  have H11 := Lib.hid (box_on H11.out hb)
                  have H9 := Lib.hid (box_on H9.out hb)
                  have A13 := Lib.hid (box_on A13.out hb)
                  have HE9 := Lib.hid (OwnsL.below HE9.out hb)
                  have HF9 := Lib.hid (HF9.out.below hb)
                  have HX := Lib.hid (HX.out.trans (hb.mono HX.out.size))
                  have A12 := Lib.hid hnew
                  clear hg hnew hb
                  refine hK.out _ _ (And.intro (Ten.of H11.out) (Ten.of H9.out)) (fun hHeld => ?_)
                  clear hK K hHeld
                  try simp only [Act.put, List.setIfInBounds_toArray, List.set_cons_zero, List.set_cons_succ]
                  refine wpAnyH_ready (rs := [6]) (by kernel_rfl) (by simp) ?_
                  refine AllReadyH.cons rfl (fun K hK => ?_) ?_
                  · refine step_st_at (by rfl) rfl _ _ rfl b12 _ rfl rfl _ A12.out rfl rfl (all_one rfl rfl rfl) ?_
                    intro wp h12 ht
                    have hlow : ∀ k ∈ [b12], w8.heap.size ≤ k := fun k hk => by rw [List.mem_singleton.1 hk]; exact N12.out
                    have HXp := Lib.hid (HX.out.trans (ht.below hlow HX.out.size))
                    have H11 := Lib.hid (box_two ht H11.out (by have h1 := N12.out; have h2 := N9.out; omega))
                    have H9 := Lib.hid (box_two ht H9.out (by have h1 := N12.out; have h2 := N9.out; omega))
                    have A13 := Lib.hid (box_two ht A13.out (by have := NE.out; omega))
                    have HE9 := Lib.hid (Mach.OwnsL.box HE9.out ht A12.out)
                    have HF9 := Lib.hid (HF9.out.box ht A12.out)
                    have B12 := Lib.hid h12
                    clear ht h12 hlow
                    refine hK.out _ _ (And.intro (Ten.of H11.out) (Ten.of H9.out)) (fun hHeld => ?_)
                    clear hK K hHeld
                    try simp only [Act.put, List.setIfInBounds_toArray, List.set_cons_zero, List.set_cons_succ]
                    refine wpAnyH_ready (rs := [7]) (by kernel_rfl) (by simp) ?_
                    refine AllReadyH.cons rfl (fun K hK => ?_) ?_
                    · refine step_st_at (by rfl) rfl _ _ rfl b13 _ rfl rfl _ A13.out rfl rfl (all_one rfl rfl rfl) ?_
                      intro wq h13 ht
                      have hlow : ∀ k ∈ [b13], w8.heap.size ≤ k := fun k hk => by rw [List.mem_singleton.1 hk]; exact N13.out
                      have HP9 := Lib.hid (show P9 w8 wq W (pb + 1) b12 b13 _ _ _ _ _ _ _ from ⟨HXp.out.trans (ht.below hlow HXp.out.size), box_two ht B12.out (by have := NE.out; omega), h13, Mach.OwnsL.box HE9.out ht A13.out, HF9.out.box ht A13.out, N12.out, N13.out⟩)
                      have H11 := Lib.hid (box_two ht H11.out (by have h1 := N13.out; have h2 := N9.out; omega))
                      have H9 := Lib.hid (box_two ht H9.out (by have h1 := N13.out; have h2 := N9.out; omega))
                      clear ht h13 hlow
                      refine hK.out _ _ (And.intro (Ten.of H11.out) (Ten.of H9.out)) (fun hHeld => ?_)
                      clear hK K hHeld
                      try simp only [Act.put, List.setIfInBounds_toArray, List.set_cons_zero, List.set_cons_succ]
                      refine wpAnyH_done (by kernel_rfl) ?_ _
                      first | go_meet | (go_wp2_with fail; go_meet)
                      exact ⟨_, _, _, _, _, _, _, _, _, _, _, _, _, _, _, _, _, rfl, rfl, HP9⟩
                    · exact AllReadyH.nil
                  · exact AllReadyH.nil
                exact AllReadyH.nil
              refine AllReadyH.cons rfl (fun K hK => ?_) ?_
              · refine step_alloc_at 12 (by rfl) rfl rfl ?_
                intro b12 wn hg hnew hb
                have N12 := Lib.hid (show w8.heap.size ≤ b12 by rw [← hg]; exact HX.out.size)
                have NE := Lib.hid (show b13 < b12 by rw [← hg]; exact whole_lt A13.out)
                have H11 := Lib.hid (box_on H11.out hb)
                have H9 := Lib.hid (box_on H9.out hb)
                have A13 := Lib.hid (box_on A13.out hb)
                have HE9 := Lib.hid (OwnsL.below HE9.out hb)
                have HX := Lib.hid (HX.out.trans (hb.mono HX.out.size))
                have A12 := Lib.hid hnew
                clear hg hnew hb
                refine hK.out _ _ (And.intro (Ten.of H11.out) (Ten.of H9.out)) (fun hHeld => ?_)
                clear hK K hHeld
                try simp only [Act.put, List.setIfInBounds_toArray, List.set_cons_zero, List.set_cons_succ]
                refine wpAnyH_ready (rs := [3]) (by kernel_rfl) (by simp) ?_
                refine AllReadyH.cons rfl (fun K hK => ?_) ?_
                · go_simp
                  go_at_call 9
                  refine (HRf.out _ HX.out).mono ?_
                  rintro e wn ⟨s1, z1, j1, s2, z2, j2, s3, z3, j3, rfl, hl, hb⟩
                  have HFn := Lib.hid hl
                  have H11 := Lib.hid (box_on H11.out hb)
                  have H9 := Lib.hid (box_on H9.out hb)
                  have A12 := Lib.hid (box_on A12.out hb)
                  have A13 := Lib.hid (box_on A13.out hb)
                  have HE9 := Lib.hid (OwnsL.below HE9.out hb)
                  have HX := Lib.hid (HX.out.trans (hb.mono HX.out.size))
                  have HF9 := HFn
                  clear hl hb
                  go_wp2_with fail
                  refine hK.out _ _ (And.intro (Ten.of H11.out) (Ten.of H9.out)) (fun hHeld => ?_)
                  clear hK K hHeld
                  try simp only [Act.put, List.setIfInBounds_toArray, List.set_cons_zero, List.set_cons_succ]
                  refine wpAnyH_ready (rs := [6]) (by kernel_rfl) (by simp) ?_
                  refine AllReadyH.cons rfl (fun K hK => ?_) ?_
                  · refine step_st_at (by rfl) rfl _ _ rfl b12 _ rfl rfl _ A12.out rfl rfl (all_one rfl rfl rfl) ?_
                    intro wp h12 ht
                    have hlow : ∀ k ∈ [b12], w8.heap.size ≤ k := fun k hk => by rw [List.mem_singleton.1 hk]; exact N12.out
                    have HXp := Lib.hid (HX.out.trans (ht.below hlow HX.out.size))
                    have H11 := Lib.hid (box_two ht H11.out (by have h1 := N12.out; have h2 := N9.out; omega))
                    have H9 := Lib.hid (box_two ht H9.out (by have h1 := N12.out; have h2 := N9.out; omega))
                    have A13 := Lib.hid (box_two ht A13.out (by have := NE.out; omega))
                    have HE9 := Lib.hid (Mach.OwnsL.box HE9.out ht A12.out)
                    have HF9 := Lib.hid (HF9.out.box ht A12.out)
                    have B12 := Lib.hid h12
                    clear ht h12 hlow
                    refine hK.out _ _ (And.intro (Ten.of H11.out) (Ten.of H9.out)) (fun hHeld => ?_)
                    clear hK K hHeld
                    try simp only [Act.put, List.setIfInBounds_toArray, List.set_cons_zero, List.set_cons_succ]
                    refine wpAnyH_ready (rs := [7]) (by kernel_rfl) (by simp) ?_
                    refine AllReadyH.cons rfl (fun K hK => ?_) ?_
                    · refine step_st_at (by rfl) rfl _ _ rfl b13 _ rfl rfl _ A13.out rfl rfl (all_one rfl rfl rfl) ?_
                      intro wq h13 ht
                      have hlow : ∀ k ∈ [b13], w8.heap.size ≤ k := fun k hk => by rw [List.mem_singleton.1 hk]; exact N13.out
                      have HP9 := Lib.hid (show P9 w8 wq W (pb + 1) b12 b13 _ _ _ _ _ _ _ from ⟨HXp.out.trans (ht.below hlow HXp.out.size), box_two ht B12.out (by have := NE.out; omega), h13, Mach.OwnsL.box HE9.out ht A13.out, HF9.out.box ht A13.out, N12.out, N13.out⟩)
                      have H11 := Lib.hid (box_two ht H11.out (by have h1 := N13.out; have h2 := N9.out; omega))
                      have H9 := Lib.hid (box_two ht H9.out (by have h1 := N13.out; have h2 := N9.out; omega))
                      clear ht h13 hlow
                      refine hK.out _ _ (And.intro (Ten.of H11.out) (Ten.of H9.out)) (fun hHeld => ?_)
                      clear hK K hHeld
                      try simp only [Act.put, List.setIfInBounds_toArray, List.set_cons_zero, List.set_cons_succ]
                      refine wpAnyH_done (by kernel_rfl) ?_ _
                      first | go_meet | (go_wp2_with fail; go_meet)
                      exact ⟨_, _, _, _, _, _, _, _, _, _, _, _, _, _, _, _, _, rfl, rfl, HP9⟩
                    · exact AllReadyH.nil
                  · exact AllReadyH.nil
                exact AllReadyH.nil
              exact AllReadyH.nil
            exact AllReadyH.nil
          refine AllReadyH.cons rfl (fun K hK => ?_) ?_
          · refine step_alloc_at 12 (by rfl) rfl rfl ?_
            intro b12 wn hg hnew hb
            have N12 := Lib.hid (show w8.heap.size ≤ b12 by rw [← hg]; exact HX.out.size)
            have H11 := Lib.hid (box_on H11.out hb)
            have H9 := Lib.hid (box_on H9.out hb)
            have HX := Lib.hid (HX.out.trans (hb.mono HX.out.size))
            have A12 := Lib.hid hnew
            clear hg hnew hb
            refine hK.out _ _ (And.intro (Ten.of H11.out) (Ten.of H9.out)) (fun hHeld => ?_)
            clear hK K hHeld
            try simp only [Act.put, List.setIfInBounds_toArray, List.set_cons_zero, List.set_cons_succ]
            refine wpAnyH_ready (rs := [1, 5]) (by kernel_rfl) (by simp) ?_
            refine AllReadyH.cons rfl (fun K hK => ?_) ?_
            · go_simp
              go_at_call 8
              refine (HSt.out _ HX.out).mono ?_
              rintro e wn hgm
              obtain ⟨e1, i1, e2, i2, e3, i3, rfl, ho, hb⟩ := GivesM.known hgm
              have HEn := Lib.hid (OwnsL.from ho HX.out.size)
              have H11 := Lib.hid (box_on H11.out hb)
              have H9 := Lib.hid (box_on H9.out hb)
              have A12 := Lib.hid (box_on A12.out hb)
              have HX := Lib.hid (HX.out.trans (hb.mono HX.out.size))
              have HE9 := HEn
              clear ho hgm hb
              go_wp2_with fail
              refine hK.out _ _ (And.intro (Ten.of H11.out) (Ten.of H9.out)) (fun hHeld => ?_)
              clear hK K hHeld
              try simp only [Act.put, List.setIfInBounds_toArray, List.set_cons_zero, List.set_cons_succ]
              refine wpAnyH_ready (rs := [3, 5]) (by kernel_rfl) (by simp) ?_
              refine AllReadyH.cons rfl (fun K hK => ?_) ?_
              · go_simp
                go_at_call 9
                refine (HRf.out _ HX.out).mono ?_
                rintro e wn ⟨s1, z1, j1, s2, z2, j2, s3, z3, j3, rfl, hl, hb⟩
                have HFn := Lib.hid hl
                have H11 := Lib.hid (box_on H11.out hb)
                have H9 := Lib.hid (box_on H9.out hb)
                have A12 := Lib.hid (box_on A12.out hb)
                have HE9 := Lib.hid (OwnsL.below HE9.out hb)
                have HX := Lib.hid (HX.out.trans (hb.mono HX.out.size))
                have HF9 := HFn
                clear hl hb
                go_wp2_with fail
                refine hK.out _ _ (And.intro (Ten.of H11.out) (Ten.of H9.out)) (fun hHeld => ?_)
                clear hK K hHeld
                try simp only [Act.put, List.setIfInBounds_toArray, List.set_cons_zero, List.set_cons_succ]
                refine wpAnyH_ready (rs := [5]) (by kernel_rfl) (by simp) ?_
                refine AllReadyH.cons rfl (fun K hK => ?_) ?_
                · refine step_alloc_at 13 (by rfl) rfl rfl ?_
                  intro b13 wn hg hnew hb
                  have N13 := Lib.hid (show w8.heap.size ≤ b13 by rw [← hg]; exact HX.out.size)
                  have NE := Lib.hid (show b12 < b13 by rw [← hg]; exact whole_lt A12.out)
                  have H11 := Lib.hid (box_on H11.out hb)
                  have H9 := Lib.hid (box_on H9.out hb)
                  have A12 := Lib.hid (box_on A12.out hb)
                  have HE9 := Lib.hid (OwnsL.below HE9.out hb)
                  have HF9 := Lib.hid (HF9.out.below hb)
                  have HX := Lib.hid (HX.out.trans (hb.mono HX.out.size))
                  have A13 := Lib.hid hnew
                  clear hg hnew hb
                  refine hK.out _ _ (And.intro (Ten.of H11.out) (Ten.of H9.out)) (fun hHeld => ?_)
                  clear hK K hHeld
                  try simp only [Act.put, List.setIfInBounds_toArray, List.set_cons_zero, List.set_cons_succ]
                  refine wpAnyH_ready (rs := [6]) (by kernel_rfl) (by simp) ?_
                  refine AllReadyH.cons rfl (fun K hK => ?_) ?_
                  · refine step_st_at (by rfl) rfl _ _ rfl b12 _ rfl rfl _ A12.out rfl rfl (all_one rfl rfl rfl) ?_
                    intro wp h12 ht
                    have hlow : ∀ k ∈ [b12], w8.heap.size ≤ k := fun k hk => by rw [List.mem_singleton.1 hk]; exact N12.out
                    have HXp := Lib.hid (HX.out.trans (ht.below hlow HX.out.size))
                    have H11 := Lib.hid (box_two ht H11.out (by have h1 := N12.out; have h2 := N9.out; omega))
                    have H9 := Lib.hid (box_two ht H9.out (by have h1 := N12.out; have h2 := N9.out; omega))
                    have A13 := Lib.hid (box_two ht A13.out (by have := NE.out; omega))
                    have HE9 := Lib.hid (Mach.OwnsL.box HE9.out ht A12.out)
                    have HF9 := Lib.hid (HF9.out.box ht A12.out)
                    have B12 := Lib.hid h12
                    clear ht h12 hlow
                    refine hK.out _ _ (And.intro (Ten.of H11.out) (Ten.of H9.out)) (fun hHeld => ?_)
                    clear hK K hHeld
                    try simp only [Act.put, List.setIfInBounds_toArray, List.set_cons_zero, List.set_cons_succ]
                    refine wpAnyH_ready (rs := [7]) (by kernel_rfl) (by simp) ?_
                    refine AllReadyH.cons rfl (fun K hK => ?_) ?_
                    · refine step_st_at (by rfl) rfl _ _ rfl b13 _ rfl rfl _ A13.out rfl rfl (all_one rfl rfl rfl) ?_
                      intro wq h13 ht
                      have hlow : ∀ k ∈ [b13], w8.heap.size ≤ k := fun k hk => by rw [List.mem_singleton.1 hk]; exact N13.out
                      have HP9 := Lib.hid (show P9 w8 wq W (pb + 1) b12 b13 _ _ _ _ _ _ _ from ⟨HXp.out.trans (ht.below hlow HXp.out.size), box_two ht B12.out (by have := NE.out; omega), h13, Mach.OwnsL.box HE9.out ht A13.out, HF9.out.box ht A13.out, N12.out, N13.out⟩)
                      have H11 := Lib.hid (box_two ht H11.out (by have h1 := N13.out; have h2 := N9.out; omega))
                      have H9 := Lib.hid (box_two ht H9.out (by have h1 := N13.out; have h2 := N9.out; omega))
                      clear ht h13 hlow
                      refine hK.out _ _ (And.intro (Ten.of H11.out) (Ten.of H9.out)) (fun hHeld => ?_)
                      clear hK K hHeld
                      try simp only [Act.put, List.setIfInBounds_toArray, List.set_cons_zero, List.set_cons_succ]
                      refine wpAnyH_done (by kernel_rfl) ?_ _
                      first | go_meet | (go_wp2_with fail; go_meet)
                      exact ⟨_, _, _, _, _, _, _, _, _, _, _, _, _, _, _, _, _, rfl, rfl, HP9⟩
                    · exact AllReadyH.nil
                  · exact AllReadyH.nil
                exact AllReadyH.nil
              refine AllReadyH.cons rfl (fun K hK => ?_) ?_
              · refine step_alloc_at 13 (by rfl) rfl rfl ?_
                intro b13 wn hg hnew hb
                have N13 := Lib.hid (show w8.heap.size ≤ b13 by rw [← hg]; exact HX.out.size)
                have NE := Lib.hid (show b12 < b13 by rw [← hg]; exact whole_lt A12.out)
                have H11 := Lib.hid (box_on H11.out hb)
                have H9 := Lib.hid (box_on H9.out hb)
                have A12 := Lib.hid (box_on A12.out hb)
                have HE9 := Lib.hid (OwnsL.below HE9.out hb)
                have HX := Lib.hid (HX.out.trans (hb.mono HX.out.size))
                have A13 := Lib.hid hnew
                clear hg hnew hb
                refine hK.out _ _ (And.intro (Ten.of H11.out) (Ten.of H9.out)) (fun hHeld => ?_)
                clear hK K hHeld
                try simp only [Act.put, List.setIfInBounds_toArray, List.set_cons_zero, List.set_cons_succ]
                refine wpAnyH_ready (rs := [3]) (by kernel_rfl) (by simp) ?_
                refine AllReadyH.cons rfl (fun K hK => ?_) ?_
                · go_simp
                  go_at_call 9
                  refine (HRf.out _ HX.out).mono ?_
                  rintro e wn ⟨s1, z1, j1, s2, z2, j2, s3, z3, j3, rfl, hl, hb⟩
                  have HFn := Lib.hid hl
                  have H11 := Lib.hid (box_on H11.out hb)
                  have H9 := Lib.hid (box_on H9.out hb)
                  have A12 := Lib.hid (box_on A12.out hb)
                  have A13 := Lib.hid (box_on A13.out hb)
                  have HE9 := Lib.hid (OwnsL.below HE9.out hb)
                  have HX := Lib.hid (HX.out.trans (hb.mono HX.out.size))
                  have HF9 := HFn
                  clear hl hb
                  go_wp2_with fail
                  refine hK.out _ _ (And.intro (Ten.of H11.out) (Ten.of H9.out)) (fun hHeld => ?_)
                  clear hK K hHeld
                  try simp only [Act.put, List.setIfInBounds_toArray, List.set_cons_zero, List.set_cons_succ]
                  refine wpAnyH_ready (rs := [6]) (by kernel_rfl) (by simp) ?_
                  refine AllReadyH.cons rfl (fun K hK => ?_) ?_
                  · refine step_st_at (by rfl) rfl _ _ rfl b12 _ rfl rfl _ A12.out rfl rfl (all_one rfl rfl rfl) ?_
                    intro wp h12 ht
                    have hlow : ∀ k ∈ [b12], w8.heap.size ≤ k := fun k hk => by rw [List.mem_singleton.1 hk]; exact N12.out
                    have HXp := Lib.hid (HX.out.trans (ht.below hlow HX.out.size))
                    have H11 := Lib.hid (box_two ht H11.out (by have h1 := N12.out; have h2 := N9.out; omega))
                    have H9 := Lib.hid (box_two ht H9.out (by have h1 := N12.out; have h2 := N9.out; omega))
                    have A13 := Lib.hid (box_two ht A13.out (by have := NE.out; omega))
                    have HE9 := Lib.hid (Mach.OwnsL.box HE9.out ht A12.out)
                    have HF9 := Lib.hid (HF9.out.box ht A12.out)
                    have B12 := Lib.hid h12
                    clear ht h12 hlow
                    refine hK.out _ _ (And.intro (Ten.of H11.out) (Ten.of H9.out)) (fun hHeld => ?_)
                    clear hK K hHeld
                    try simp only [Act.put, List.setIfInBounds_toArray, List.set_cons_zero, List.set_cons_succ]
                    refine wpAnyH_ready (rs := [7]) (by kernel_rfl) (by simp) ?_
                    refine AllReadyH.cons rfl (fun K hK => ?_) ?_
                    · refine step_st_at (by rfl) rfl _ _ rfl b13 _ rfl rfl _ A13.out rfl rfl (all_one rfl rfl rfl) ?_
                      intro wq h13 ht
                      have hlow : ∀ k ∈ [b13], w8.heap.size ≤ k := fun k hk => by rw [List.mem_singleton.1 hk]; exact N13.out
                      have HP9 := Lib.hid (show P9 w8 wq W (pb + 1) b12 b13 _ _ _ _ _ _ _ from ⟨HXp.out.trans (ht.below hlow HXp.out.size), box_two ht B12.out (by have := NE.out; omega), h13, Mach.OwnsL.box HE9.out ht A13.out, HF9.out.box ht A13.out, N12.out, N13.out⟩)
                      have H11 := Lib.hid (box_two ht H11.out (by have h1 := N13.out; have h2 := N9.out; omega))
                      have H9 := Lib.hid (box_two ht H9.out (by have h1 := N13.out; have h2 := N9.out; omega))
                      clear ht h13 hlow
                      refine hK.out _ _ (And.intro (Ten.of H11.out) (Ten.of H9.out)) (fun hHeld => ?_)
                      clear hK K hHeld
                      try simp only [Act.put, List.setIfInBounds_toArray, List.set_cons_zero, List.set_cons_succ]
                      refine wpAnyH_done (by kernel_rfl) ?_ _
                      first | go_meet | (go_wp2_with fail; go_meet)
                      exact ⟨_, _, _, _, _, _, _, _, _, _, _, _, _, _, _, _, _, rfl, rfl, HP9⟩
                    · exact AllReadyH.nil
                  · exact AllReadyH.nil
                exact AllReadyH.nil
              exact AllReadyH.nil
            refine AllReadyH.cons rfl (fun K hK => ?_) ?_
            · refine step_alloc_at 13 (by rfl) rfl rfl ?_
              intro b13 wn hg hnew hb
              have N13 := Lib.hid (show w8.heap.size ≤ b13 by rw [← hg]; exact HX.out.size)
              have NE := Lib.hid (show b12 < b13 by rw [← hg]; exact whole_lt A12.out)
              have H11 := Lib.hid (box_on H11.out hb)
              have H9 := Lib.hid (box_on H9.out hb)
              have A12 := Lib.hid (box_on A12.out hb)
              have HX := Lib.hid (HX.out.trans (hb.mono HX.out.size))
              have A13 := Lib.hid hnew
              clear hg hnew hb
              refine hK.out _ _ (And.intro (Ten.of H11.out) (Ten.of H9.out)) (fun hHeld => ?_)
              clear hK K hHeld
              try simp only [Act.put, List.setIfInBounds_toArray, List.set_cons_zero, List.set_cons_succ]
              refine wpAnyH_ready (rs := [1]) (by kernel_rfl) (by simp) ?_
              refine AllReadyH.cons rfl (fun K hK => ?_) ?_
              · go_simp
                go_at_call 8
                refine (HSt.out _ HX.out).mono ?_
                rintro e wn hgm
                obtain ⟨e1, i1, e2, i2, e3, i3, rfl, ho, hb⟩ := GivesM.known hgm
                have HEn := Lib.hid (OwnsL.from ho HX.out.size)
                have H11 := Lib.hid (box_on H11.out hb)
                have H9 := Lib.hid (box_on H9.out hb)
                have A12 := Lib.hid (box_on A12.out hb)
                have A13 := Lib.hid (box_on A13.out hb)
                have HX := Lib.hid (HX.out.trans (hb.mono HX.out.size))
                have HE9 := HEn
                clear ho hgm hb
                go_wp2_with fail
                refine hK.out _ _ (And.intro (Ten.of H11.out) (Ten.of H9.out)) (fun hHeld => ?_)
                clear hK K hHeld
                try simp only [Act.put, List.setIfInBounds_toArray, List.set_cons_zero, List.set_cons_succ]
                refine wpAnyH_ready (rs := [3]) (by kernel_rfl) (by simp) ?_
                refine AllReadyH.cons rfl (fun K hK => ?_) ?_
                · go_simp
                  go_at_call 9
                  refine (HRf.out _ HX.out).mono ?_
                  rintro e wn ⟨s1, z1, j1, s2, z2, j2, s3, z3, j3, rfl, hl, hb⟩
                  have HFn := Lib.hid hl
                  have H11 := Lib.hid (box_on H11.out hb)
                  have H9 := Lib.hid (box_on H9.out hb)
                  have A12 := Lib.hid (box_on A12.out hb)
                  have A13 := Lib.hid (box_on A13.out hb)
                  have HE9 := Lib.hid (OwnsL.below HE9.out hb)
                  have HX := Lib.hid (HX.out.trans (hb.mono HX.out.size))
                  have HF9 := HFn
                  clear hl hb
                  go_wp2_with fail
                  refine hK.out _ _ (And.intro (Ten.of H11.out) (Ten.of H9.out)) (fun hHeld => ?_)
                  clear hK K hHeld
                  try simp only [Act.put, List.setIfInBounds_toArray, List.set_cons_zero, List.set_cons_succ]
                  refine wpAnyH_ready (rs := [6]) (by kernel_rfl) (by simp) ?_
                  refine AllReadyH.cons rfl (fun K hK => ?_) ?_
                  · refine step_st_at (by rfl) rfl _ _ rfl b12 _ rfl rfl _ A12.out rfl rfl (all_one rfl rfl rfl) ?_
                    intro wp h12 ht
                    have hlow : ∀ k ∈ [b12], w8.heap.size ≤ k := fun k hk => by rw [List.mem_singleton.1 hk]; exact N12.out
                    have HXp := Lib.hid (HX.out.trans (ht.below hlow HX.out.size))
                    have H11 := Lib.hid (box_two ht H11.out (by have h1 := N12.out; have h2 := N9.out; omega))
                    have H9 := Lib.hid (box_two ht H9.out (by have h1 := N12.out; have h2 := N9.out; omega))
                    have A13 := Lib.hid (box_two ht A13.out (by have := NE.out; omega))
                    have HE9 := Lib.hid (Mach.OwnsL.box HE9.out ht A12.out)
                    have HF9 := Lib.hid (HF9.out.box ht A12.out)
                    have B12 := Lib.hid h12
                    clear ht h12 hlow
                    refine hK.out _ _ (And.intro (Ten.of H11.out) (Ten.of H9.out)) (fun hHeld => ?_)
                    clear hK K hHeld
                    try simp only [Act.put, List.setIfInBounds_toArray, List.set_cons_zero, List.set_cons_succ]
                    refine wpAnyH_ready (rs := [7]) (by kernel_rfl) (by simp) ?_
                    refine AllReadyH.cons rfl (fun K hK => ?_) ?_
                    · refine step_st_at (by rfl) rfl _ _ rfl b13 _ rfl rfl _ A13.out rfl rfl (all_one rfl rfl rfl) ?_
                      intro wq h13 ht
                      have hlow : ∀ k ∈ [b13], w8.heap.size ≤ k := fun k hk => by rw [List.mem_singleton.1 hk]; exact N13.out
                      have HP9 := Lib.hid (show P9 w8 wq W (pb + 1) b12 b13 _ _ _ _ _ _ _ from ⟨HXp.out.trans (ht.below hlow HXp.out.size), box_two ht B12.out (by have := NE.out; omega), h13, Mach.OwnsL.box HE9.out ht A13.out, HF9.out.box ht A13.out, N12.out, N13.out⟩)
                      have H11 := Lib.hid (box_two ht H11.out (by have h1 := N13.out; have h2 := N9.out; omega))
                      have H9 := Lib.hid (box_two ht H9.out (by have h1 := N13.out; have h2 := N9.out; omega))
                      clear ht h13 hlow
                      refine hK.out _ _ (And.intro (Ten.of H11.out) (Ten.of H9.out)) (fun hHeld => ?_)
                      clear hK K hHeld
                      try simp only [Act.put, List.setIfInBounds_toArray, List.set_cons_zero, List.set_cons_succ]
                      refine wpAnyH_done (by kernel_rfl) ?_ _
                      first | go_meet | (go_wp2_with fail; go_meet)
                      exact ⟨_, _, _, _, _, _, _, _, _, _, _, _, _, _, _, _, _, rfl, rfl, HP9⟩
                    · exact AllReadyH.nil
                  · exact AllReadyH.nil
                exact AllReadyH.nil
              exact AllReadyH.nil
            exact AllReadyH.nil
          refine AllReadyH.cons rfl (fun K hK => ?_) ?_
          · refine step_alloc_at 13 (by rfl) rfl rfl ?_
            intro b13 wn hg hnew hb
            have N13 := Lib.hid (show w8.heap.size ≤ b13 by rw [← hg]; exact HX.out.size)
            have H11 := Lib.hid (box_on H11.out hb)
            have H9 := Lib.hid (box_on H9.out hb)
            have HX := Lib.hid (HX.out.trans (hb.mono HX.out.size))
            have A13 := Lib.hid hnew
            clear hg hnew hb
            refine hK.out _ _ (And.intro (Ten.of H11.out) (Ten.of H9.out)) (fun hHeld => ?_)
            clear hK K hHeld
            try simp only [Act.put, List.setIfInBounds_toArray, List.set_cons_zero, List.set_cons_succ]
            refine wpAnyH_ready (rs := [1, 4]) (by kernel_rfl) (by simp) ?_
            refine AllReadyH.cons rfl (fun K hK => ?_) ?_
            · go_simp
              go_at_call 8
              refine (HSt.out _ HX.out).mono ?_
              rintro e wn hgm
              obtain ⟨e1, i1, e2, i2, e3, i3, rfl, ho, hb⟩ := GivesM.known hgm
              have HEn := Lib.hid (OwnsL.from ho HX.out.size)
              have H11 := Lib.hid (box_on H11.out hb)
              have H9 := Lib.hid (box_on H9.out hb)
              have A13 := Lib.hid (box_on A13.out hb)
              have HX := Lib.hid (HX.out.trans (hb.mono HX.out.size))
              have HE9 := HEn
              clear ho hgm hb
              go_wp2_with fail
              refine hK.out _ _ (And.intro (Ten.of H11.out) (Ten.of H9.out)) (fun hHeld => ?_)
              clear hK K hHeld
              try simp only [Act.put, List.setIfInBounds_toArray, List.set_cons_zero, List.set_cons_succ]
              refine wpAnyH_ready (rs := [3, 4]) (by kernel_rfl) (by simp) ?_
              refine AllReadyH.cons rfl (fun K hK => ?_) ?_
              · go_simp
                go_at_call 9
                refine (HRf.out _ HX.out).mono ?_
                rintro e wn ⟨s1, z1, j1, s2, z2, j2, s3, z3, j3, rfl, hl, hb⟩
                have HFn := Lib.hid hl
                have H11 := Lib.hid (box_on H11.out hb)
                have H9 := Lib.hid (box_on H9.out hb)
                have A13 := Lib.hid (box_on A13.out hb)
                have HE9 := Lib.hid (OwnsL.below HE9.out hb)
                have HX := Lib.hid (HX.out.trans (hb.mono HX.out.size))
                have HF9 := HFn
                clear hl hb
                go_wp2_with fail
                refine hK.out _ _ (And.intro (Ten.of H11.out) (Ten.of H9.out)) (fun hHeld => ?_)
                clear hK K hHeld
                try simp only [Act.put, List.setIfInBounds_toArray, List.set_cons_zero, List.set_cons_succ]
                refine wpAnyH_ready (rs := [4]) (by kernel_rfl) (by simp) ?_
                refine AllReadyH.cons rfl (fun K hK => ?_) ?_
                · refine step_alloc_at 12 (by rfl) rfl rfl ?_
                  intro b12 wn hg hnew hb
                  have N12 := Lib.hid (show w8.heap.size ≤ b12 by rw [← hg]; exact HX.out.size)
                  have NE := Lib.hid (show b13 < b12 by rw [← hg]; exact whole_lt A13.out)
                  have H11 := Lib.hid (box_on H11.out hb)
                  have H9 := Lib.hid (box_on H9.out hb)
                  have A13 := Lib.hid (box_on A13.out hb)
                  have HE9 := Lib.hid (OwnsL.below HE9.out hb)
                  have HF9 := Lib.hid (HF9.out.below hb)
                  have HX := Lib.hid (HX.out.trans (hb.mono HX.out.size))
                  have A12 := Lib.hid hnew
                  clear hg hnew hb
                  refine hK.out _ _ (And.intro (Ten.of H11.out) (Ten.of H9.out)) (fun hHeld => ?_)
                  clear hK K hHeld
                  try simp only [Act.put, List.setIfInBounds_toArray, List.set_cons_zero, List.set_cons_succ]
                  refine wpAnyH_ready (rs := [6]) (by kernel_rfl) (by simp) ?_
                  refine AllReadyH.cons rfl (fun K hK => ?_) ?_
                  · refine step_st_at (by rfl) rfl _ _ rfl b12 _ rfl rfl _ A12.out rfl rfl (all_one rfl rfl rfl) ?_
                    intro wp h12 ht
                    have hlow : ∀ k ∈ [b12], w8.heap.size ≤ k := fun k hk => by rw [List.mem_singleton.1 hk]; exact N12.out
                    have HXp := Lib.hid (HX.out.trans (ht.below hlow HX.out.size))
                    have H11 := Lib.hid (box_two ht H11.out (by have h1 := N12.out; have h2 := N9.out; omega))
                    have H9 := Lib.hid (box_two ht H9.out (by have h1 := N12.out; have h2 := N9.out; omega))
                    have A13 := Lib.hid (box_two ht A13.out (by have := NE.out; omega))
                    have HE9 := Lib.hid (Mach.OwnsL.box HE9.out ht A12.out)
                    have HF9 := Lib.hid (HF9.out.box ht A12.out)
                    have B12 := Lib.hid h12
                    clear ht h12 hlow
                    refine hK.out _ _ (And.intro (Ten.of H11.out) (Ten.of H9.out)) (fun hHeld => ?_)
                    clear hK K hHeld
                    try simp only [Act.put, List.setIfInBounds_toArray, List.set_cons_zero, List.set_cons_succ]
                    refine wpAnyH_ready (rs := [7]) (by kernel_rfl) (by simp) ?_
                    refine AllReadyH.cons rfl (fun K hK => ?_) ?_
                    · refine step_st_at (by rfl) rfl _ _ rfl b13 _ rfl rfl _ A13.out rfl rfl (all_one rfl rfl rfl) ?_
                      intro wq h13 ht
                      have hlow : ∀ k ∈ [b13], w8.heap.size ≤ k := fun k hk => by rw [List.mem_singleton.1 hk]; exact N13.out
                      have HP9 := Lib.hid (show P9 w8 wq W (pb + 1) b12 b13 _ _ _ _ _ _ _ from ⟨HXp.out.trans (ht.below hlow HXp.out.size), box_two ht B12.out (by have := NE.out; omega), h13, Mach.OwnsL.box HE9.out ht A13.out, HF9.out.box ht A13.out, N12.out, N13.out⟩)
                      have H11 := Lib.hid (box_two ht H11.out (by have h1 := N13.out; have h2 := N9.out; omega))
                      have H9 := Lib.hid (box_two ht H9.out (by have h1 := N13.out; have h2 := N9.out; omega))
                      clear ht h13 hlow
                      refine hK.out _ _ (And.intro (Ten.of H11.out) (Ten.of H9.out)) (fun hHeld => ?_)
                      clear hK K hHeld
                      try simp only [Act.put, List.setIfInBounds_toArray, List.set_cons_zero, List.set_cons_succ]
                      refine wpAnyH_done (by kernel_rfl) ?_ _
                      first | go_meet | (go_wp2_with fail; go_meet)
                      exact ⟨_, _, _, _, _, _, _, _, _, _, _, _, _, _, _, _, _, rfl, rfl, HP9⟩
                    · exact AllReadyH.nil
                  · exact AllReadyH.nil
                exact AllReadyH.nil
              refine AllReadyH.cons rfl (fun K hK => ?_) ?_
              · refine step_alloc_at 12 (by rfl) rfl rfl ?_
                intro b12 wn hg hnew hb
                have N12 := Lib.hid (show w8.heap.size ≤ b12 by rw [← hg]; exact HX.out.size)
                have NE := Lib.hid (show b13 < b12 by rw [← hg]; exact whole_lt A13.out)
                have H11 := Lib.hid (box_on H11.out hb)
                have H9 := Lib.hid (box_on H9.out hb)
                have A13 := Lib.hid (box_on A13.out hb)
                have HE9 := Lib.hid (OwnsL.below HE9.out hb)
                have HX := Lib.hid (HX.out.trans (hb.mono HX.out.size))
                have A12 := Lib.hid hnew
                clear hg hnew hb
                refine hK.out _ _ (And.intro (Ten.of H11.out) (Ten.of H9.out)) (fun hHeld => ?_)
                clear hK K hHeld
                try simp only [Act.put, List.setIfInBounds_toArray, List.set_cons_zero, List.set_cons_succ]
                refine wpAnyH_ready (rs := [3]) (by kernel_rfl) (by simp) ?_
                refine AllReadyH.cons rfl (fun K hK => ?_) ?_
                · go_simp
                  go_at_call 9
                  refine (HRf.out _ HX.out).mono ?_
                  rintro e wn ⟨s1, z1, j1, s2, z2, j2, s3, z3, j3, rfl, hl, hb⟩
                  have HFn := Lib.hid hl
                  have H11 := Lib.hid (box_on H11.out hb)
                  have H9 := Lib.hid (box_on H9.out hb)
                  have A12 := Lib.hid (box_on A12.out hb)
                  have A13 := Lib.hid (box_on A13.out hb)
                  have HE9 := Lib.hid (OwnsL.below HE9.out hb)
                  have HX := Lib.hid (HX.out.trans (hb.mono HX.out.size))
                  have HF9 := HFn
                  clear hl hb
                  go_wp2_with fail
                  refine hK.out _ _ (And.intro (Ten.of H11.out) (Ten.of H9.out)) (fun hHeld => ?_)
                  clear hK K hHeld
                  try simp only [Act.put, List.setIfInBounds_toArray, List.set_cons_zero, List.set_cons_succ]
                  refine wpAnyH_ready (rs := [6]) (by kernel_rfl) (by simp) ?_
                  refine AllReadyH.cons rfl (fun K hK => ?_) ?_
                  · refine step_st_at (by rfl) rfl _ _ rfl b12 _ rfl rfl _ A12.out rfl rfl (all_one rfl rfl rfl) ?_
                    intro wp h12 ht
                    have hlow : ∀ k ∈ [b12], w8.heap.size ≤ k := fun k hk => by rw [List.mem_singleton.1 hk]; exact N12.out
                    have HXp := Lib.hid (HX.out.trans (ht.below hlow HX.out.size))
                    have H11 := Lib.hid (box_two ht H11.out (by have h1 := N12.out; have h2 := N9.out; omega))
                    have H9 := Lib.hid (box_two ht H9.out (by have h1 := N12.out; have h2 := N9.out; omega))
                    have A13 := Lib.hid (box_two ht A13.out (by have := NE.out; omega))
                    have HE9 := Lib.hid (Mach.OwnsL.box HE9.out ht A12.out)
                    have HF9 := Lib.hid (HF9.out.box ht A12.out)
                    have B12 := Lib.hid h12
                    clear ht h12 hlow
                    refine hK.out _ _ (And.intro (Ten.of H11.out) (Ten.of H9.out)) (fun hHeld => ?_)
                    clear hK K hHeld
                    try simp only [Act.put, List.setIfInBounds_toArray, List.set_cons_zero, List.set_cons_succ]
                    refine wpAnyH_ready (rs := [7]) (by kernel_rfl) (by simp) ?_
                    refine AllReadyH.cons rfl (fun K hK => ?_) ?_
                    · refine step_st_at (by rfl) rfl _ _ rfl b13 _ rfl rfl _ A13.out rfl rfl (all_one rfl rfl rfl) ?_
                      intro wq h13 ht
                      have hlow : ∀ k ∈ [b13], w8.heap.size ≤ k := fun k hk => by rw [List.mem_singleton.1 hk]; exact N13.out
                      have HP9 := Lib.hid (show P9 w8 wq W (pb + 1) b12 b13 _ _ _ _ _ _ _ from ⟨HXp.out.trans (ht.below hlow HXp.out.size), box_two ht B12.out (by have := NE.out; omega), h13, Mach.OwnsL.box HE9.out ht A13.out, HF9.out.box ht A13.out, N12.out, N13.out⟩)
                      have H11 := Lib.hid (box_two ht H11.out (by have h1 := N13.out; have h2 := N9.out; omega))
                      have H9 := Lib.hid (box_two ht H9.out (by have h1 := N13.out; have h2 := N9.out; omega))
                      clear ht h13 hlow
                      refine hK.out _ _ (And.intro (Ten.of H11.out) (Ten.of H9.out)) (fun hHeld => ?_)
                      clear hK K hHeld
                      try simp only [Act.put, List.setIfInBounds_toArray, List.set_cons_zero, List.set_cons_succ]
                      refine wpAnyH_done (by kernel_rfl) ?_ _
                      first | go_meet | (go_wp2_with fail; go_meet)
                      exact ⟨_, _, _, _, _, _, _, _, _, _, _, _, _, _, _, _, _, rfl, rfl, HP9⟩
                    · exact AllReadyH.nil
                  · exact AllReadyH.nil
                exact AllReadyH.nil
              exact AllReadyH.nil
            refine AllReadyH.cons rfl (fun K hK => ?_) ?_
            · refine step_alloc_at 12 (by rfl) rfl rfl ?_
              intro b12 wn hg hnew hb
              have N12 := Lib.hid (show w8.heap.size ≤ b12 by rw [← hg]; exact HX.out.size)
              have NE := Lib.hid (show b13 < b12 by rw [← hg]; exact whole_lt A13.out)
              have H11 := Lib.hid (box_on H11.out hb)
              have H9 := Lib.hid (box_on H9.out hb)
              have A13 := Lib.hid (box_on A13.out hb)
              have HX := Lib.hid (HX.out.trans (hb.mono HX.out.size))
              have A12 := Lib.hid hnew
              clear hg hnew hb
              refine hK.out _ _ (And.intro (Ten.of H11.out) (Ten.of H9.out)) (fun hHeld => ?_)
              clear hK K hHeld
              try simp only [Act.put, List.setIfInBounds_toArray, List.set_cons_zero, List.set_cons_succ]
              refine wpAnyH_ready (rs := [1]) (by kernel_rfl) (by simp) ?_
              refine AllReadyH.cons rfl (fun K hK => ?_) ?_
              · go_simp
                go_at_call 8
                refine (HSt.out _ HX.out).mono ?_
                rintro e wn hgm
                obtain ⟨e1, i1, e2, i2, e3, i3, rfl, ho, hb⟩ := GivesM.known hgm
                have HEn := Lib.hid (OwnsL.from ho HX.out.size)
                have H11 := Lib.hid (box_on H11.out hb)
                have H9 := Lib.hid (box_on H9.out hb)
                have A12 := Lib.hid (box_on A12.out hb)
                have A13 := Lib.hid (box_on A13.out hb)
                have HX := Lib.hid (HX.out.trans (hb.mono HX.out.size))
                have HE9 := HEn
                clear ho hgm hb
                go_wp2_with fail
                refine hK.out _ _ (And.intro (Ten.of H11.out) (Ten.of H9.out)) (fun hHeld => ?_)
                clear hK K hHeld
                try simp only [Act.put, List.setIfInBounds_toArray, List.set_cons_zero, List.set_cons_succ]
                refine wpAnyH_ready (rs := [3]) (by kernel_rfl) (by simp) ?_
                refine AllReadyH.cons rfl (fun K hK => ?_) ?_
                · go_simp
                  go_at_call 9
                  refine (HRf.out _ HX.out).mono ?_
                  rintro e wn ⟨s1, z1, j1, s2, z2, j2, s3, z3, j3, rfl, hl, hb⟩
                  have HFn := Lib.hid hl
                  have H11 := Lib.hid (box_on H11.out hb)
                  have H9 := Lib.hid (box_on H9.out hb)
                  have A12 := Lib.hid (box_on A12.out hb)
                  have A13 := Lib.hid (box_on A13.out hb)
                  have HE9 := Lib.hid (OwnsL.below HE9.out hb)
                  have HX := Lib.hid (HX.out.trans (hb.mono HX.out.size))
                  have HF9 := HFn
                  clear hl hb
                  go_wp2_with fail
                  refine hK.out _ _ (And.intro (Ten.of H11.out) (Ten.of H9.out)) (fun hHeld => ?_)
                  clear hK K hHeld
                  try simp only [Act.put, List.setIfInBounds_toArray, List.set_cons_zero, List.set_cons_succ]
                  refine wpAnyH_ready (rs := [6]) (by kernel_rfl) (by simp) ?_
                  refine AllReadyH.cons rfl (fun K hK => ?_) ?_
                  · refine step_st_at (by rfl) rfl _ _ rfl b12 _ rfl rfl _ A12.out rfl rfl (all_one rfl rfl rfl) ?_
                    intro wp h12 ht
                    have hlow : ∀ k ∈ [b12], w8.heap.size ≤ k := fun k hk => by rw [List.mem_singleton.1 hk]; exact N12.out
                    have HXp := Lib.hid (HX.out.trans (ht.below hlow HX.out.size))
                    have H11 := Lib.hid (box_two ht H11.out (by have h1 := N12.out; have h2 := N9.out; omega))
                    have H9 := Lib.hid (box_two ht H9.out (by have h1 := N12.out; have h2 := N9.out; omega))
                    have A13 := Lib.hid (box_two ht A13.out (by have := NE.out; omega))
                    have HE9 := Lib.hid (Mach.OwnsL.box HE9.out ht A12.out)
                    have HF9 := Lib.hid (HF9.out.box ht A12.out)
                    have B12 := Lib.hid h12
                    clear ht h12 hlow
                    refine hK.out _ _ (And.intro (Ten.of H11.out) (Ten.of H9.out)) (fun hHeld => ?_)
                    clear hK K hHeld
                    try simp only [Act.put, List.setIfInBounds_toArray, List.set_cons_zero, List.set_cons_succ]
                    refine wpAnyH_ready (rs := [7]) (by kernel_rfl) (by simp) ?_
                    refine AllReadyH.cons rfl (fun K hK => ?_) ?_
                    · refine step_st_at (by rfl) rfl _ _ rfl b13 _ rfl rfl _ A13.out rfl rfl (all_one rfl rfl rfl) ?_
                      intro wq h13 ht
                      have hlow : ∀ k ∈ [b13], w8.heap.size ≤ k := fun k hk => by rw [List.mem_singleton.1 hk]; exact N13.out
                      have HP9 := Lib.hid (show P9 w8 wq W (pb + 1) b12 b13 _ _ _ _ _ _ _ from ⟨HXp.out.trans (ht.below hlow HXp.out.size), box_two ht B12.out (by have := NE.out; omega), h13, Mach.OwnsL.box HE9.out ht A13.out, HF9.out.box ht A13.out, N12.out, N13.out⟩)
                      have H11 := Lib.hid (box_two ht H11.out (by have h1 := N13.out; have h2 := N9.out; omega))
                      have H9 := Lib.hid (box_two ht H9.out (by have h1 := N13.out; have h2 := N9.out; omega))
                      clear ht h13 hlow
                      refine hK.out _ _ (And.intro (Ten.of H11.out) (Ten.of H9.out)) (fun hHeld => ?_)
                      clear hK K hHeld
                      try simp only [Act.put, List.setIfInBounds_toArray, List.set_cons_zero, List.set_cons_succ]
                      refine wpAnyH_done (by kernel_rfl) ?_ _
                      first | go_meet | (go_wp2_with fail; go_meet)
                      exact ⟨_, _, _, _, _, _, _, _, _, _, _, _, _, _, _, _, _, rfl, rfl, HP9⟩
                    · exact AllReadyH.nil
                  · exact AllReadyH.nil
                exact AllReadyH.nil
              exact AllReadyH.nil
            exact AllReadyH.nil
          exact AllReadyH.nil
        case rest =>
          obtain ⟨b12, b13, e1, i1, e2, i2, e3, i3, s1, z1, j1, s2, z2, j2, s3, z3, j3, rfl, rfl, HP9⟩ := hcut
          obtain ⟨w9, hw9⟩ : ∃ z, z = wc := ⟨_, rfl⟩
          subst hw9
          obtain ⟨q1, hq1⟩ : ∃ z, Mach.step q = z := ⟨_, rfl⟩
          rw [hq1] at HP9
          have HQ1 := Lib.hid (show Right q1 ∧ Cells q1 ∧ q1.inp = m.inp by rw [← hq1]; exact ⟨step_right HQ.out.1, step_cells HQ.out.1 HQ.out.2.1, by rw [step_inp]; exact HQ.out.2.2⟩)
          have HQL1 := Lib.hid (show q1.stack.length ≤ 10000 ∧ q1.back.length ≤ 10000 ∧ q1.mem.length ≤ 10000 ∧ q1.inp.size ≤ maxLen ∧ q1.out.size ≤ maxLen by
            have h1 := HQ1.out.1.stack
            have h2 := HQ1.out.1.back
            have h3 := HQ1.out.1.mem
            have h4 := HQ1.out.1.out
            exact ⟨by omega, by omega, by omega, by rw [HQ1.out.2.2]; exact HC.out.2.1, by unfold maxLen; omega⟩)
          have HPB8 := Lib.hid (show pb + 1 ≤ w8.heap.size from whole_lt HK8.out.book)
          have HLT := Lib.hid (fun k hk => (HK8.out.kept.lists.lt k hk).2)
          have hb9 := HP9.out.hb
          have HKr := Lib.hid (HK8.out.below hb9)
          have H8r := Lib.hid (box_on H8.out hb9)
          have H9r := Lib.hid (box_on H9d.out hb9)
          have H11r := Lib.hid (box_on H11d.out hb9)
          have HXr := Lib.hid (box_on HXg.out hb9)
          have HLxr := Lib.hid (HLx.out.below hb9)
          have HLMr := Lib.hid (HLM.out.below hb9)
          have HW9 := Lib.hid (HW8.out.trans (hb9.mono HW8.out.size))
          have HOE := Lib.hid HP9.out.oe
          have HLfr := Lib.hid HP9.out.lf
          have H12r := Lib.hid HP9.out.h12
          have H13r := Lib.hid HP9.out.h13
          have HN12 := Lib.hid (show b12 ≠ b8 ∧ b12 ≠ b9 ∧ b13 ≠ b8 ∧ b13 ≠ b9 by
            have h1 := HP9.out.n12
            have h2 := HP9.out.n13
            have h3 := whole_lt H8.out
            have h4 := N9.out.1
            omega)
          clear hq1 hb9 HP9 HSt HRf HK8 H8 H9 H9d H11 H11d HXg HLx HLy HLM HW8 HX N9
          go_upto_if 55 with fail
          go_cut [] (fun wx => ∃ vS2 vW2 ls2, Hid (Bk wx pb vS2 vW2 ls2) ∧ Hid (ls2.length = 3 * min (k + 1) 10) ∧ Hid (Spares w9 wx) ∧ Hid (Below pb w9 wx))
          case first =>
            by_cases h10 : k < 10
            · have b10 : (k : Int) < 10 := by omega
              have S := Lib.hid (bookState_any HKr.out HOE.out HPB8.out HLT.out (by have := HLS.out; omega) HQL1.out.1 HQL1.out.2.1 HQL1.out.2.2.1)
              go_wp2_with (refine ld_state (by rfl) _ rfl _ rfl _ _ H12r.out rfl ?_)
              refine S.out.mono ?_
              rintro e w10 ⟨rfl, vS2, vW2, hK, hP, hsp⟩
              have HF := Lib.hid (And.intro hK (And.intro hP hsp))
              clear hK hP hsp S
              go_wp2_with fail
              go_meet
              exact ⟨vS2, vW2, _, Lib.hid HF.out.1, Lib.hid (by rw [List.length_append, HLS.out]; show 3 * min k 10 + 3 = _; omega), Lib.hid HF.out.2.2, Lib.hid HF.out.2.1⟩
            · have b10 : ¬ (k : Int) < 10 := by omega
              go_wp2_with fail
              go_meet
              exact ⟨vS, vW, ls, HKr, Lib.hid (by rw [HLS.out]; omega), Lib.hid (fun _ _ _ _ _ h => h), Lib.hid (Below.refl _ _)⟩
          case rest =>
            obtain ⟨w10, hw10⟩ : ∃ z, z = wc := ⟨_, rfl⟩
            subst hw10
            obtain ⟨vS2, vW2, ls2, HK, HLS2, HSP, HBP⟩ := hcut
            have H12 := Lib.hid (Spares.box HSP.out H12r.out)
            have H13 := Lib.hid (Spares.box HSP.out H13r.out)
            have H11 := Lib.hid (Spares.box HSP.out H11r.out)
            have H8 := Lib.hid (Spares.box HSP.out H8r.out)
            have H9 := Lib.hid (Spares.box HSP.out H9r.out)
            have HXg := Lib.hid (Spares.box HSP.out HXr.out)
            have HLe := Lib.hid (L3.mono (L3.owns (W := W) (OwnsL.from HOE.out HPB8.out)) HSP.out)
            have HLf := Lib.hid (HLfr.out.mono HSP.out)
            have HLx := Lib.hid (HLxr.out.mono HSP.out)
            have HLM := Lib.hid (HLMr.out.mono HSP.out)
            have HWr := Lib.hid (show Below W.heap.size W w10 from HW9.out.trans (HBP.out.mono HWP.out))
            clear H12r H13r H11r H8r H9r HXr HLfr HLxr HLMr HOE HKr HSP HBP HW9
            have T1 := Lib.hid (fun wc (hb : Below w10.heap.size w10 wc) => sameState_any ((HLe.out.below hb).reads (HWr.out.trans (hb.mono HWr.out.size))) ((HLf.out.below hb).reads (HWr.out.trans (hb.mono HWr.out.size))) HQL1.out.1 HQL1.out.2.1 HQL1.out.2.2.1)
            have T2 := Lib.hid (fun wc (hb : Below w10.heap.size w10 wc) => staysState_any (HLM.out.below hb) ((HLx.out.below hb).reads (HWr.out.trans (hb.mono HWr.out.size))) HQL.out.1 HQL.out.2.1 HQL.out.2.2.1)
            have T3 := Lib.hid (fun wc (hb : Below w10.heap.size w10 wc) => innRight_any ((HLe.out.below hb).reads (HWr.out.trans (hb.mono HWr.out.size))) HQL1.out.2.2.2.1 HQL1.out.2.2.2.2)
            rw [(rightM_iff q1).2 HQ1.out.1] at T3
            have HB12 := Lib.hid (Below.refl w10.heap.size w10)
            go_upto_region 14 with (first
              | (refine ld_state (by rfl) _ rfl _ rfl _ _ H12.out rfl ?_)
              | (refine ld_state (by rfl) _ rfl _ rfl _ _ H13.out rfl ?_)
              | (refine ld_state (by rfl) _ rfl _ rfl _ _ H11.out rfl ?_)
              | (refine ld_state (by rfl) _ rfl _ rfl _ _ H8.out rfl ?_)
              | (go_at_call 11; refine (T1.out _ HB12.out).mono ?_; rintro e wn ⟨rfl, hb⟩; have H12 := Lib.hid (box_on H12.out hb); have H13 := Lib.hid (box_on H13.out hb); have H11 := Lib.hid (box_on H11.out hb); have H8 := Lib.hid (box_on H8.out hb); have H9 := Lib.hid (box_on H9.out hb); have HXg := Lib.hid (box_on HXg.out hb); have HB12 := Lib.hid (HB12.out.trans (hb.mono HB12.out.size)); clear hb)
              | (go_at_call 12; refine (T2.out _ HB12.out).mono ?_; rintro e wn ⟨rfl, hb⟩; have H12 := Lib.hid (box_on H12.out hb); have H13 := Lib.hid (box_on H13.out hb); have H11 := Lib.hid (box_on H11.out hb); have H8 := Lib.hid (box_on H8.out hb); have H9 := Lib.hid (box_on H9.out hb); have HXg := Lib.hid (box_on HXg.out hb); have HB12 := Lib.hid (HB12.out.trans (hb.mono HB12.out.size)); clear hb)
              | (go_at_call 13; refine (T3.out _ HB12.out).mono ?_; rintro e wn ⟨rfl, hb⟩; have H12 := Lib.hid (box_on H12.out hb); have H13 := Lib.hid (box_on H13.out hb); have H11 := Lib.hid (box_on H11.out hb); have H8 := Lib.hid (box_on H8.out hb); have H9 := Lib.hid (box_on H9.out hb); have HXg := Lib.hid (box_on HXg.out hb); have HB12 := Lib.hid (HB12.out.trans (hb.mono HB12.out.size)); clear hb))
            obtain ⟨w13, hw13⟩ : ∃ z, z = wn := ⟨_, rfl⟩
            subst hw13
            have HK := Lib.hid (HK.out.below HB12.out)
            have HLe := Lib.hid (HLe.out.below HB12.out)
            have HLf := Lib.hid (HLf.out.below HB12.out)
            have HWr := Lib.hid (HWr.out.trans (HB12.out.mono HWr.out.size))
            clear T1 T2 T3 HLx HLM HB12 H11
            have HK := Lib.hid (HK.out.below (Below.refl _ _).drew)
            have HLe := Lib.hid (HLe.out.below (Below.refl _ _).drew)
            have HLf := Lib.hid (HLf.out.below (Below.refl _ _).drew)
            have HWr := Lib.hid (HWr.out.trans ((Below.refl w13.heap.size w13).drew.mono HWr.out.size))
            have H12 := Lib.hid (show w13.drew.heap[b12]? = _ from H12.out)
            have H13 := Lib.hid (show w13.drew.heap[b13]? = _ from H13.out)
            have H8 := Lib.hid (show w13.drew.heap[b8]? = _ from H8.out)
            have H9 := Lib.hid (show w13.drew.heap[b9]? = _ from H9.out)
            have HXg := Lib.hid (show w13.drew.heap[g]? = _ from HXg.out)
            refine wp_region_held (S := fun w' => (w'.cell? ⟨b12, 0, none⟩ = some (.int .i64 q1.ip) ∧ w'.cell? ⟨b12, 1, none⟩ = some (.int .i64 q1.handler) ∧ w'.cell? ⟨b12, 2, none⟩ = some (.slice e1 q1.stack.length i1) ∧ w'.cell? ⟨b12, 3, none⟩ = some (.slice e2 q1.back.length i2) ∧ w'.cell? ⟨b12, 4, none⟩ = some (.slice e3 q1.mem.length i3) ∧ w'.cell? ⟨b12, 5, none⟩ = some (.string q1.out) ∧ w'.cell? ⟨b12, 6, none⟩ = some (.string q1.inp) ∧ w'.cell? ⟨b12, 7, none⟩ = some (.int .i64 q1.read) ∧ w'.cell? ⟨b12, 8, none⟩ = some (.int .i64 q1.status) ∧ w'.cell? ⟨b12, 9, none⟩ = some (.int .i64 q1.code)) ∧ (w'.cell? ⟨b13, 0, none⟩ = some (.int .i64 q1.ip) ∧ w'.cell? ⟨b13, 1, none⟩ = some (.int .i64 q1.handler) ∧ w'.cell? ⟨b13, 2, none⟩ = some (.slice s1 z1 j1) ∧ w'.cell? ⟨b13, 3, none⟩ = some (.slice s2 z2 j2) ∧ w'.cell? ⟨b13, 4, none⟩ = some (.slice s3 z3 j3) ∧ w'.cell? ⟨b13, 5, none⟩ = some (.string q1.out) ∧ w'.cell? ⟨b13, 6, none⟩ = some (.string q1.inp) ∧ w'.cell? ⟨b13, 7, none⟩ = some (.int .i64 q1.read) ∧ w'.cell? ⟨b13, 8, none⟩ = some (.int .i64 q1.status) ∧ w'.cell? ⟨b13, 9, none⟩ = some (.int .i64 q1.code))) (by kernel_rfl) ?_
            change wpAnyH _ _ _ _ _ _ _ _ (World.drew w13)
            refine wpAnyH_take (i := 0) (oi := ⟨some 74, _, _, _, _, _⟩) (v := ?_) rfl (by kernel_rfl) (by kernel_rfl) (by kernel_rfl) (fun _ _ _ h => h) (Or.inl ⟨by rfl, ?_⟩) (And.intro (Ten.of H12.out) (Ten.of H13.out)) ?_
            rotate_left
            · intro w hSw
              (try dsimp only at hSw)
              go_simp
              try with_reducible rfl
            try simp only [Act.put, List.setIfInBounds_toArray, List.set_cons_zero, List.set_cons_succ]
            refine wpAnyH_take (i := 1) (oi := ⟨some 75, _, _, _, _, _⟩) (v := ?_) rfl (by kernel_rfl) (by kernel_rfl) (by kernel_rfl) (fun _ _ _ h => h) (Or.inl ⟨by rfl, ?_⟩) (And.intro (Ten.of H12.out) (Ten.of H13.out)) ?_
            rotate_left
            · intro w hSw
              (try dsimp only at hSw)
              go_simp
              try with_reducible rfl
            try simp only [Act.put, List.setIfInBounds_toArray, List.set_cons_zero, List.set_cons_succ]
            refine wpAnyH_ready (rs := [2]) (by kernel_rfl) (by simp) ?_
            refine AllReadyH.cons rfl (fun K hK => ?_) ?_
            · refine step_st_at (by rfl) rfl _ _ rfl b8 _ rfl rfl _ H8.out rfl rfl (all_one rfl rfl rfl) ?_
              intro wp h8 ht
              have HK := Lib.hid (Bk.box HK.out ht H8.out)
              have HLe := Lib.hid (HLe.out.box ht H8.out)
              have HLf := Lib.hid (HLf.out.box ht H8.out)
              have HWr := Lib.hid (HWr.out.trans (ht.below (fun k hk => by rw [List.mem_singleton.1 hk]; have h1 := HBN.out; have h2 := HWP.out; omega) HWr.out.size))
              have H9 := Lib.hid (box_two ht H9.out (by have h1 := HBN.out; omega))
              have H12 := Lib.hid (box_two ht H12.out (by have h1 := HN12.out; omega))
              have H13 := Lib.hid (box_two ht H13.out (by have h1 := HN12.out; omega))
              have HXg := Lib.hid (box_two ht HXg.out (by have h1 := HBN.out; omega))
              have H8 := Lib.hid h8
              clear ht h8
              refine hK.out _ _ (And.intro (Ten.of H12.out) (Ten.of H13.out)) (fun hHeld => ?_)
              clear hK K hHeld
              try simp only [Act.put, List.setIfInBounds_toArray, List.set_cons_zero, List.set_cons_succ]
              refine wpAnyH_ready (rs := [3]) (by kernel_rfl) (by simp) ?_
              refine AllReadyH.cons rfl (fun K hK => ?_) ?_
              · refine step_st_at (by rfl) rfl _ _ rfl b9 _ rfl rfl _ H9.out rfl rfl (all_one rfl rfl rfl) ?_
                intro wq h9 ht
                have HK := Lib.hid (Bk.box HK.out ht H9.out)
                have HLe := Lib.hid (HLe.out.box ht H9.out)
                have HLf := Lib.hid (HLf.out.box ht H9.out)
                have HWr := Lib.hid (HWr.out.trans (ht.below (fun k hk => by rw [List.mem_singleton.1 hk]; have h1 := HBN.out; have h2 := HWP.out; omega) HWr.out.size))
                have H8 := Lib.hid (box_two ht H8.out (by have h1 := HBN.out; omega))
                have H12 := Lib.hid (box_two ht H12.out (by have h1 := HN12.out; omega))
                have H13 := Lib.hid (box_two ht H13.out (by have h1 := HN12.out; omega))
                have HXg := Lib.hid (box_two ht HXg.out (by have h1 := HBN.out; omega))
                have H9 := Lib.hid h9
                clear ht h9
                refine hK.out _ _ (And.intro (Ten.of H12.out) (Ten.of H13.out)) (fun hHeld => ?_)
                clear hK K hHeld
                try simp only [Act.put, List.setIfInBounds_toArray, List.set_cons_zero, List.set_cons_succ]
                refine wpAnyH_done (by kernel_rfl) ?_ _
                go_wp2_with fail
                go_roundg (n - (k + 1))
                case measure => omega
                case rel => exact ⟨k + 1, q1, e1, _, i1, e2, _, i2, e3, _, i3, s1, z1, j1, s2, z2, j2, s3, z3, j3, vS2, vW2, ls2, rfl, by omega, by go_num, H8, H9, HLe, HLf, HK, HLS2, HXg, HWr, HQ1⟩
              · exact AllReadyH.nil
            · exact AllReadyH.nil
      · obtain rfl : k = n := by omega
        have HML := Lib.hid (show m.stack.length ≤ 10000 ∧ m.back.length ≤ 10000 ∧ m.mem.length ≤ 10000 by
          have h1 := HR.out.stack
          have h2 := HR.out.back
          have h3 := HR.out.mem
          exact ⟨by omega, by omega, by omega⟩)
        have C := Lib.hid (lentState_any (HV.out.below HWr.out) HML.out.1 HML.out.2.1 HML.out.2.2)
        clear H8 H9 HLx HLy HQ
        go_upto_region 15 with fail
        go_wp2_with (refine ld_state (by rfl) _ rfl _ rfl _ _ HXg.out rfl ?_)
        refine C.out.mono ?_
        rintro e w17 ⟨v', rfl, hlm, hb⟩
        obtain ⟨l1, y1, l2, y2, l3, y3, rfl, hl1, hl2, hl3⟩ := id hlm
        obtain ⟨w18, b14, hw18, hb14, H14, HBn, HGL⟩ := new_box w17 (cells10 m.ip m.handler (.slice (some ⟨l1, 0, none⟩) m.stack.length y1) (.slice (some ⟨l2, 0, none⟩) m.back.length y2) (.slice (some ⟨l3, 0, none⟩) m.mem.length y3) m.out m.inp m.read m.status m.code) 24
        have hbb := hb.trans (HBn.out.mono hb.size)
        have HLM := Lib.hid (hlm.below HBn.out)
        have HW18 := Lib.hid (HWr.out.trans (hbb.mono HWr.out.size))
        have HK := Lib.hid (HK.out.below hbb)
        have HXg := Lib.hid (box_on HXg.out hbb)
        clear C hb hbb hlm hl1 hl2 hl3 HBn HGL HWr
        obtain ⟨mR, hmR⟩ : ∃ z, runI m f = z := ⟨_, rfl⟩
        have HRR := Lib.hid (show Right mR.1 by rw [← hmR]; exact runI_right HR.out f)
        have C := Lib.hid (innRun_any HLM.out.reads HR.out HC.out.1 HC.out.2.1 (fun wd hbd => HE.out wd (HW18.out.trans (hbd.mono HW18.out.size))) f HF.out.2.1.2)
        rw [hmR] at C
        have HMR := Lib.hid hmR
        have HLT := Lib.hid (fun k hk => (HK.out.kept.lists.lt k hk).2)
        have HPB8 := Lib.hid (show pb + 1 ≤ w18.heap.size from whole_lt HK.out.book)
        clear hmR
        go_upto_region 16 with fail
        clear hw18 hb14
        go_wp2_with (refine ld_state (by rfl) _ rfl _ rfl _ _ H14.out rfl ?_)
        refine C.out.mono ?_
        rintro e w19 ⟨v2, rfl, ho, hb⟩
        obtain ⟨r1, i1, r2, i2, r3, i3, rfl, ho'⟩ := Inn.known (w' := w19) ho
        obtain ⟨w20, b15, hw20, hb15, H15, HBn, HGL⟩ := new_box w19 (cells10 mR.1.ip mR.1.handler (.slice r1 mR.1.stack.length i1) (.slice r2 mR.1.back.length i2) (.slice r3 mR.1.mem.length i3) mR.1.out mR.1.inp mR.1.read mR.1.status mR.1.code) 24
        have hbb := hb.trans (HBn.out.mono hb.size)
        have HOR := Lib.hid (OwnsL.below ho' HBn.out)
        have HW20 := Lib.hid (HW18.out.trans (hbb.mono HW18.out.size))
        have HK := Lib.hid (HK.out.below hbb)
        have HXg := Lib.hid (box_on HXg.out hbb)
        have H14 := Lib.hid (box_on H14.out hbb)
        have HLM := Lib.hid (HLM.out.below hbb)
        have HSZ := Lib.hid hbb.size
        clear C hb hbb ho ho' HBn HGL HW18
        have HLm := Lib.hid (L3.start (B := pb + 1) HV.out HW20.out)
        have C := Lib.hid (refRun_any (HLm.out.a.reads HW20.out) (HLm.out.b.reads HW20.out) (HLm.out.c.reads HW20.out) HR.out HC.out.1 HC.out.2.1 f HF.out.2.1.2)
        rw [HMR.out] at C
        go_upto_region 17 with fail
        clear hw20 hb15
        go_wp2_with (refine ld_state (by rfl) _ rfl _ rfl _ _ HXg.out rfl ?_)
        refine C.out.mono ?_
        rintro e w21 ⟨s1, z1, j1, s2, z2, j2, s3, z3, j3, rfl, hk1, hk2, hk3, hb⟩
        have hB20 : pb + 1 ≤ w20.heap.size := by have h1 := HPB8.out; have h2 := HSZ.out; omega
        obtain ⟨w22, b17, hw22, hb17, H17, HBn, HGL⟩ := new_box w21 (cells10 mR.1.ip mR.1.handler (.slice s1 z1 j1) (.slice s2 z2 j2) (.slice s3 z3 j3) mR.1.out mR.1.inp mR.1.read mR.1.status mR.1.code) 24
        have hbb := hb.trans (HBn.out.mono hb.size)
        have HLb := Lib.hid (L3.below (show L3 W w21 (pb + 1) (.slice s1 z1 j1) (.slice s2 z2 j2) (.slice s3 z3 j3) mR.1 from ⟨hk1.list HLm.out.a hb hB20, hk2.list HLm.out.b hb hB20, hk3.list HLm.out.c hb hB20⟩) HBn.out)
        have HOR := Lib.hid (OwnsL.below HOR.out hbb)
        have HWr := Lib.hid (HW20.out.trans (hbb.mono HW20.out.size))
        have HK := Lib.hid (HK.out.below hbb)
        have HXg := Lib.hid (box_on HXg.out hbb)
        have H14 := Lib.hid (box_on H14.out hbb)
        have H15 := Lib.hid (box_on H15.out hbb)
        have HLM := Lib.hid (HLM.out.below hbb)
        have HLm := Lib.hid (HLm.out.below hbb)
        clear C hb hbb hk1 hk2 hk3 hB20 HBn HGL HW20
        have HRL := Lib.hid (show mR.1.stack.length ≤ 10000 ∧ mR.1.back.length ≤ 10000 ∧ mR.1.mem.length ≤ 10000 by
          have h1 := HRR.out.stack
          have h2 := HRR.out.back
          have h3 := HRR.out.mem
          exact ⟨by omega, by omega, by omega⟩)
        have S := Lib.hid (bookState_any HK.out HOR.out HPB8.out HLT.out (by have := HLS.out; omega) HRL.out.1 HRL.out.2.1 HRL.out.2.2)
        go_upto_region 18 with fail
        clear hw22 hb17
        go_wp2_with (refine ld_state (by rfl) _ rfl _ rfl _ _ H15.out rfl ?_)
        refine S.out.mono ?_
        rintro e w23 ⟨rfl, vS3, vW3, hK, hP, hsp⟩
        have HK := Lib.hid hK
        have H14 := Lib.hid (Spares.box hsp H14.out)
        have H15 := Lib.hid (Spares.box hsp H15.out)
        have H17 := Lib.hid (Spares.box hsp H17.out)
        have HXg := Lib.hid (Spares.box hsp HXg.out)
        have HLa := Lib.hid (L3.mono (L3.owns (W := W) (OwnsL.from HOR.out HPB8.out)) hsp)
        have HLb := Lib.hid (HLb.out.mono hsp)
        have HLm := Lib.hid (HLm.out.mono hsp)
        have HLM := Lib.hid (HLM.out.mono hsp)
        have HWr := Lib.hid (show Below W.heap.size W w23 from HWr.out.trans (hP.mono HWP.out))
        clear hK hP hsp S HOR
        have T1 := Lib.hid (fun wc (hb : Below w23.heap.size w23 wc) => sameState_any ((HLa.out.below hb).reads (HWr.out.trans (hb.mono HWr.out.size))) ((HLb.out.below hb).reads (HWr.out.trans (hb.mono HWr.out.size))) HRL.out.1 HRL.out.2.1 HRL.out.2.2)
        have T2 := Lib.hid (fun wc (hb : Below w23.heap.size w23 wc) => staysState_any (HLM.out.below hb) ((HLm.out.below hb).reads (HWr.out.trans (hb.mono HWr.out.size))) HML.out.1 HML.out.2.1 HML.out.2.2)
        have T3 := Lib.hid (fun wc (hb : Below w23.heap.size w23 wc) => apartInts_any pb (pb + 1) vS3 vW3 _ wc (Nat.lt_succ_self _) (whole_lt (HK.out.below hb).book) ⟨whole_cell (HK.out.below hb).book rfl, whole_cell (HK.out.below hb).book rfl, whole_cell (HK.out.below hb).book rfl, whole_cell (HK.out.below hb).book rfl, whole_cell (HK.out.below hb).book rfl, whole_cell (HK.out.below hb).book rfl⟩ (whole_cell (HK.out.below hb).book rfl) _ (HK.out.below hb).kept)
        have HB19 := Lib.hid (Below.refl w23.heap.size w23)
        go_wp2_with (first
          | (refine ld_state (by rfl) _ rfl _ rfl _ _ H15.out rfl ?_)
          | (refine ld_state (by rfl) _ rfl _ rfl _ _ H17.out rfl ?_)
          | (refine ld_state (by rfl) _ rfl _ rfl _ _ H14.out rfl ?_)
          | (refine ld_state (by rfl) _ rfl _ rfl _ _ HXg.out rfl ?_)
          | (go_at_call 11; refine (T1.out _ HB19.out).mono ?_; rintro e wn ⟨rfl, hb⟩; have H15 := Lib.hid (box_on H15.out hb); have H17 := Lib.hid (box_on H17.out hb); have H14 := Lib.hid (box_on H14.out hb); have HXg := Lib.hid (box_on HXg.out hb); have HB19 := Lib.hid (HB19.out.trans (hb.mono HB19.out.size)); clear hb)
          | (go_at_call 12; refine (T2.out _ HB19.out).mono ?_; rintro e wn ⟨rfl, hb⟩; have H15 := Lib.hid (box_on H15.out hb); have H17 := Lib.hid (box_on H17.out hb); have H14 := Lib.hid (box_on H14.out hb); have HXg := Lib.hid (box_on HXg.out hb); have HB19 := Lib.hid (HB19.out.trans (hb.mono HB19.out.size)); clear hb)
          | (go_at_call 16; refine (T3.out _ HB19.out).mono ?_; rintro e wz ⟨rfl, hb⟩; have HFIN := Lib.hid ((HWr.out.trans (HB19.out.mono HWr.out.size)).trans (hb.mono (Nat.le_succ_of_le HWP.out))); clear hb))
        go_ret
        exact ⟨rfl, HFIN.out⟩
theorem main (v : Value) (m : M) (n f : Int) (W : World) (h : ReadsM W v m ∧ Cells m ∧ m.inp.size ≤ maxLen ∧ m.out.size ≤ maxLen ∧ Cell.In m.read ∧ Cell.In m.status) (_ : (Lit.int .i64 n).wf = true) (hfw : (Lit.int .i64 f).wf = true) (hE : ∀ wc, Below W.heap.size W wc → Tabs wc) :
    Calls Tryz.prog 3 #[v, .int .i64 n, .int .i64 f] W (Yes W) := by
  obtain ⟨h, hc, hi, ho, -, -⟩ := h
  cases c : lightB m with
  | false => exact less_small v m n f W h hi ho hE (.inl c)
  | true =>
    by_cases c1 : n < 0
    · exact less_small v m n f W h hi ho hE (.inr ⟨c, .inl c1⟩)
    by_cases c2 : 60 < n
    · exact less_small v m n f W h hi ho hE (.inr ⟨c, .inr ⟨c1, .inl c2⟩⟩)
    by_cases c3 : 300 < f
    · exact less_small v m n f W h hi ho hE (.inr ⟨c, .inr ⟨c1, .inr ⟨c2, c3⟩⟩⟩)
    obtain ⟨n, rfl⟩ := Int.eq_ofNat_of_zero_le (Int.not_lt.1 c1)
    exact small v m n f (by omega) (by omega) (Cell.in_of_wf hfw) W h hi ho hc c hE
end Go.Proofs.YtfpaajoggbibnaaGreatDoor.InnerSteps
