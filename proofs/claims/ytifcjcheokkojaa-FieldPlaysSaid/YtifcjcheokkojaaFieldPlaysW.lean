/- FieldPlays: the walk. -/
import Derived.Test.YtifcjcheokkojaaFieldAlive
import Derived.Test.YtifcjcheokkojaaFieldState
import Derived.Test.YtifcjcheokkojaaBookApartInts
import Derived.Test.YtifcjcheokkojaaFieldPlaysD
import Derived.Deep.LoopGhost
import Derived.Deep.DeepCutAuto
import Derived.Deep.CutBlock
namespace Go.Proofs.Ytifcjcheokkojaa.FieldPlays
open Go.RowKit Book Mem
set_option linter.unusedSimpArgs false
set_option linter.unusedVariables false
/-- behind the beginning: a memory, what it should hold, the list that was lent -/
def Start (W w : World) (gm mcap : Nat) (l : List Int) (f t : Value) : Prop :=
  ∃ (p : Nat) (vC : Value) (ds : List Int) (ta : Option Addr) (tc : Nat), f = .pointer (some ⟨p, 0, none⟩) ∧ t = .slice ta ds.length tc ∧ FieldAt w W.heap.size p vC (.slice none 0 0) ds [] ∧ Owns w W.heap.size 3 t (vals ds) ∧ Lent w W.heap.size gm mcap l ∧
    (∀ k, blk t = some k → k ∉ foot p vC (.slice none 0 0) ∧ k ≠ gm) ∧ gm ∉ foot p vC (.slice none 0 0) ∧ Below W.heap.size W w ∧ ds.length ≤ 500
/-- behind what is done in a round -/
def After (W : World) (pb gm mcap : Nat) (l : List Int) (vWt : Value) (M q : Nat) (vS vW : Value) (ls : List (Value × List Value)) (f m : Value) (w : World) : Prop :=
  ∃ (p bm : Nat) (vC vH : Value) (cs ch : List Int), f = .pointer (some ⟨p, 0, none⟩) ∧ m = .map (some bm) ∧ St w W.heap.size pb gm mcap bm l vWt p vC vH cs ch cs ch q vS vW ls [] ∧ cs.length = M ∧ Below W.heap.size W w
set_option maxHeartbeats 8000000 in
set_option maxRecDepth 100000 in
theorem main (v : Value) (l : List Int) (n : Int) (vo : Value) (ops : List (Int × Int × Int)) (ask : Int) (W : World) (hr : Reads W v l) (ho : OpsAt W vo ops) (hl : l.length ≤ 200) (hops : ops.length ≤ 80) (hn : n ≤ 500) (wa : (Lit.int .i64 ask).wf = true) :
    Calls Try.prog 3 #[v, .int .i64 n, vo, .int .i64 ask] W (Yes W) := by
  have HR := Lib.hid hr
  have HP := Lib.hid ho
  obtain ⟨lo, lc, rfl, -⟩ := hr
  obtain ⟨oo, oc, rfl, -⟩ := ho
  obtain ⟨L, hL⟩ : ∃ L, l.length = L := ⟨_, rfl⟩
  obtain ⟨N, hN⟩ : ∃ N, ops.length = N := ⟨_, rfl⟩
  rw [hL] at HR hl ⊢
  rw [hN] at HP hops ⊢
  have HL := Lib.hid hL
  have HN := Lib.hid hN
  have h1 : decide (200 < (L : Int)) = false := decide_eq_false (by omega)
  have h2 : decide (80 < (N : Int)) = false := decide_eq_false (by omega)
  have h3 : decide (500 < n) = false := decide_eq_false (by omega)
  have C := Lib.hid (alive_any W)
  obtain ⟨i0, q1, q2, q3, q4⟩ := info_parts Try.fdIntInfo
  have HI := Lib.hid (And.intro q1 (And.intro q2 (And.intro q3 q4)))
  clear hL hN q1 q2 q3 q4
  go_enter Try.func3, Try.ntmps3
  go_wp2_with fail
  refine C.out.mono ?_
  rintro e w1 ⟨rfl, hb⟩
  have HB1 := Lib.hid hb
  have C := Lib.hid (lent_any (.slice lo L lc) l w1 (HR.out.below hb) (by rw [HL.out]; omega))
  rw [HL.out] at C
  clear hb
  go_wp2_with fail
  refine C.out.mono ?_
  rintro e w2 ⟨gm, mcap, rfl, hlent, hb⟩
  have HM2 := Lib.hid hlent
  have hbg := hlent.blk
  have hgm := (Owns.block hlent gm hbg.1)
  have HG2 := Lib.hid (And.intro hgm.1 hgm.2.1)
  have HB2 := Lib.hid (HB1.out.trans (hb.mono HB1.out.size))
  have C := Lib.hid (of_any (.slice (some ⟨gm, 0, none⟩) L mcap) l w2 (by have := Reads.of_owns hlent.owns; rw [HL.out] at this; exact this) (by rw [HL.out]; omega))
  rw [List.take_of_length_le (by rw [HL.out]; omega)] at C
  clear hb hlent hbg hgm
  go_wp2_with fail
  refine C.out.mono ?_
  rintro e w3 ⟨p, vC, rfl, hF, hb⟩
  have HF3 := Lib.hid hF
  have HFT := Lib.hid hF.foot_lt
  have HB3 := Lib.hid (HB2.out.trans (hb.mono HB2.out.size))
  have HM3 := Lib.hid (HM2.out.touch (Stirred.of_below hb []) List.not_mem_nil)
  have HZ3 := Lib.hid hb.size
  have HR3 := Lib.hid (HR.out.below HB3.out)
  clear hF hb C
  go_wp2_with (at_builtin; refine wpList_append_reads _ rfl _ _ 22 rfl w3.heap.size 3 i0 (.int .i64 0) 8 Try.underlying22 HI.out.1 HI.out.2.1 HI.out.2.2.1 HI.out.2.2.2 rfl _ [] rfl (Owns.nil _ _ _) _ l rfl HR3.out ?c3 ?c4 (Nat.le_refl _) ?_)
  case c3 => have := HL.out; unfold maxLen; simp; omega
  case c4 => have := HL.out; simp; omega
  intro x w4 hX _ hs _
  have hb : Below w3.heap.size w3 w4 := hs.below (fun y hy => by cases hy) (Nat.le_refl _)
  have hX : Owns w4 w3.heap.size 3 x (vals l) := hX
  obtain ⟨xo, xc, e⟩ := hX.slice
  rw [vals_length, HL.out] at e
  subst e
  have HX4 := Lib.hid hX
  have HF4 := Lib.hid (HF3.out.below hb)
  have HM4 := Lib.hid (HM3.out.touch (Stirred.of_below hb []) List.not_mem_nil)
  have HB4 := Lib.hid (HB3.out.trans (hb.mono HB3.out.size))
  have HZ4 := Lib.hid hb.size
  clear hs hb HF3 HM2 HM3 HB2 HB3 HR3
  go_upto_if 53 with fail
  go_cut [10, 11] (fun f t wx => Hid (Start W wx gm mcap l f t))
  case first =>
    by_cases hz : L = 0
    · subst hz
      obtain ⟨m, hm⟩ : ∃ m : Nat, (m : Int) = min (max n 0) 3000 := ⟨(min (max n 0) 3000).toNat, by omega⟩
      have HMM := Lib.hid hm
      have hm5 : m ≤ 500 := by omega
      have C := Lib.hid (new_any n m hm w4)
      clear hm
      go_wp2_with fail
      refine C.out.mono ?_
      rintro e w5 ⟨p5, vC5, rfl, hF, hb⟩
      have HF5 := Lib.hid hF
      have HB5 := Lib.hid hb
      clear hF hb C
      go_wp2_with (at_make; refine wpList_make_full _ rfl _ _ 22 rfl w5.heap.size 3 i0 (.int .i64 0) 1 Try.underlying22 HI.out.1 HI.out.2.1 HI.out.2.2.1 .i64 .i64 _ _ m rfl rfl ?a1 ?a2 ?a3 ?a4 (Nat.le_refl _) ?_)
      case a1 => exact HMM.out.symm
      case a2 => exact HMM.out.symm
      case a3 => rw [HI.out.2.2.2]; omega
      case a4 => unfold maxLen; omega
      intro w6 hO hG
      rw [toList_madeCells_one] at hO
      have hv : vals (List.replicate m 0) = List.replicate m (.int .i64 0) := by simp [vals]
      have hO := Owns.of_row hO
      rw [← hv] at hO
      have hb6 := (Stirred.of_grown hG).below (B := w5.heap.size) (fun k h => by cases h) (Nat.le_refl _)
      have HS := Lib.hid (show Start W w6 gm mcap l (.pointer (some ⟨p5, 0, none⟩)) (.slice (some ⟨w5.heap.size, 0, none⟩) m m) from by
        have hlen : (List.replicate m (0 : Int)).length = m := List.length_replicate
        have hz1 := HB1.out.size
        have hz3 := HZ3.out
        have hz4 := HZ4.out
        have hz5 := HB5.out.size
        have hg2 := HG2.out
        have hb46 := HB5.out.trans (hb6.mono HB5.out.size)
        refine ⟨p5, vC5, List.replicate m 0, _, _, rfl, by rw [hlen], (HF5.out.below hb6).from (by omega), hO.from (by omega), (HM4.out.touch (Stirred.of_below hb46 []) List.not_mem_nil).from (by omega), fun k hk => ⟨fun hm => ?_, ?_⟩, fun hm => ?_, HB4.out.trans (hb46.mono HB4.out.size), by rw [hlen]; exact hm5⟩
        · have h1 := (hO.block k hk).1
          have h2 := (HF5.out.foot_lt k hm).2
          omega
        · have h1 := (hO.block k hk).1
          omega
        · have h1 := (HF5.out.foot_lt gm hm).1
          omega)
      clear hO hG hv hb6
      go_wp2
      go_meet
      exact HS.out
    · have h0 : ((L : Int) == 0) = false := by simp; omega
      have HS := Lib.hid (show Start W w4 gm mcap l (.pointer (some ⟨p, 0, none⟩)) (.slice xo L xc) from by
        have hz1 := HB1.out.size
        have hz3 := HZ3.out
        have hz4 := HZ4.out
        have hg2 := HG2.out
        refine ⟨p, vC, l, _, _, rfl, by rw [HL.out], HF4.out.from (by omega), HX4.out.from (by omega), HM4.out.from (by omega), fun k hk => ⟨fun hm => ?_, ?_⟩, fun hm => ?_, HB4.out, by rw [HL.out]; omega⟩
        · have h1 := (HX4.out.block k hk).1
          have h2 := (HFT.out k hm).2
          omega
        · have h1 := (HX4.out.block k hk).1
          omega
        · have h1 := (HF4.out.foot_lt gm hm).1
          omega)
      go_wp2
      go_meet
      exact HS.out
  case rest =>
    obtain ⟨ws, hws⟩ : ∃ ws, ws = wc := ⟨_, rfl⟩
    subst hws
    clear hX HFT HX4 HF4 HM4 HB4 HZ4 HZ3 HG2 HB1 C
    obtain ⟨p, vC, ds, ta, tc, rfl, rfl, hF, hO, hM, hd, hg, hB, h5⟩ := hcut.out
    obtain ⟨M, hMl⟩ : ∃ M, ds.length = M := ⟨_, rfl⟩
    have HDL := Lib.hid hMl
    rw [hMl] at hO
    have HF := Lib.hid hF
    have HO := Lib.hid hO
    have HM := Lib.hid hM
    have HD := Lib.hid (And.intro hd hg)
    have HB := Lib.hid hB
    have hM5 : M ≤ 500 := by omega
    rw [hMl] at HD
    clear hcut hF hO hM hd hg hB h5
    rw [hMl]
    clear hMl
    have hmm := @run_makeMap Try.prog
    go_wp2
    clear hmm
    obtain ⟨wl, hwl⟩ : ∃ wl, (ws.alloc (.map #[] 0)).alloc (.cells (bookArr (.slice none 0 0) (.slice none 0 0)) 38) = wl := ⟨_, rfl⟩
    have hb1 := (Below.refl ws.heap.size ws).alloc (Nat.le_refl _) (.map #[] 0)
    have hb2 : Below ws.heap.size ws wl := by rw [← hwl]; exact hb1.alloc hb1.size _
    have hst : St wl W.heap.size (ws.heap.size + 1) gm mcap ws.heap.size l (.slice ta M tc) p vC (.slice none 0 0) ds [] ds [] 0 (.slice none 0 0) (.slice none 0 0) [] [] := by
      have hbk : wl.heap[ws.heap.size + 1]? = some (.cells (bookArr (.slice none 0 0) (.slice none 0 0)) 38 (0, 0)) := by
        rw [← hwl]
        have := heap_alloc_new (ws.alloc (.map #[] 0)) (.cells (bookArr (.slice none 0 0) (.slice none 0 0)) 38)
        simpa using this
      exact ⟨HF.out.below hb2, HO.out.below hb2, (SetAt.made ws).touch (bs := []) (by rw [← hwl]; exact Stirred.of_below ((Below.refl _ (ws.alloc (.map #[] 0))).alloc (Nat.le_refl _) _) []) List.not_mem_nil, HM.out.touch (Stirred.of_below hb2 []) List.not_mem_nil, hbk, Kept.nil _ _ _ _ _ _,
        Nat.le_trans HB.out.size hb2.size, fun k hk => ⟨(HD.out.1 k hk).1, (HD.out.1 k hk).2, List.not_mem_nil⟩, ⟨HD.out.2, List.not_mem_nil⟩, fun _ _ h => (by cases h), fun _ h => (by cases h), fun _ h => (by cases h), HB.out.size⟩
    have HST := Lib.hid hst
    have HWS := Lib.hid (Nat.le_succ_of_le HB.out.size)
    have HBL := Lib.hid (HB.out.trans (hb2.mono HB.out.size))
    have hwl' : (ws.alloc (.map #[] 0)).alloc (.cells #[.slice none 0 0, .slice none 0 0, .slice none 0 0, .slice none 0 0, .slice none 0 0, .slice none 0 0, .slice none 0 0, .slice none 0 0, .slice none 0 0, .slice none 0 0, .slice none 0 0, .slice none 0 0] 38) = wl := hwl
    rw [hwl']
    clear hwl'
    clear hwl hb1 hb2 hst HF HO HM HD HB
    go_loopg [10, 12, 14] N (fun g f m i wr => ∃ (j p bm : Nat) (vC vH : Value) (cs ch : List Int) (vS vW : Value) (ls : List (Value × List Value)), g = N - j ∧ j ≤ N ∧ i = .int .i64 j ∧ f = .pointer (some ⟨p, 0, none⟩) ∧ m = .map (some bm) ∧
      Hid (St wr W.heap.size (ws.heap.size + 1) gm mcap bm l (.slice ta M tc) p vC vH cs ch cs ch j vS vW ls []) ∧ Hid (ls.length = 2 * j) ∧ Hid (cs.length = M) ∧ Hid (Below W.heap.size W wr))
    case atStart => exact ⟨0, p, ws.heap.size, vC, _, ds, [], _, _, [], rfl, Nat.zero_le _, rfl, rfl, rfl, HST.out, rfl, HDL.out, HBL.out⟩
    case round =>
      obtain ⟨j, p, bm, vC, vH, cs, ch, vS, vW, ls, rfl, hj, rfl, rfl, rfl, HS, HLS, HCS, HB⟩ := hrel
      clear HST HBL HDL
      by_cases hlt : j < N
      · obtain ⟨⟨kk, aa, xx⟩, hop⟩ : ∃ o, ops[j]? = some o := ⟨_, List.getElem?_eq_getElem (by rw [HN.out]; exact hlt)⟩
        obtain ⟨ao, ac, hao, hcell⟩ := HP.out.below HB.out
        rw [HN.out] at hao
        simp only [Value.slice.injEq, true_and] at hao
        obtain ⟨rfl, rfl⟩ := hao
        obtain ⟨ad, rfl, c0, c1, c2, hwa⟩ := hcell j kk aa xx hop
        have e1 : ad.add (j * 3 + 1) = ⟨(ad.add (j * 3)).block, (ad.add (j * 3)).off + 1, none⟩ := by rw [← Go.Deep.add_add]; rfl
        have e2 : ad.add (j * 3 + 2) = ⟨(ad.add (j * 3)).block, (ad.add (j * 3)).off + 2, none⟩ := by rw [← Go.Deep.add_add]; rfl
        rw [e1] at c1
        rw [e2] at c2
        clear e1 e2
        have hj0 : (0 : Int) ≤ (j : Int) := by omega
        have hj1 : (j : Int) < (N : Int) := by omega
        have HWA := Lib.hid hwa
        clear hcell hop hwa
        go_upto_block 2 with fail
        obtain ⟨wh, hwh⟩ : ∃ wh, wh = wr := ⟨_, rfl⟩
        subst hwh
        have hbo := (Below.refl wh.heap.size wh).alloc (Nat.le_refl _) (.cells #[.int .i64 kk, .int .i64 aa, .int .i64 xx] 40)
        have hnew := heap_alloc_new wh (.cells #[.int .i64 kk, .int .i64 aa, .int .i64 xx] 40)
        obtain ⟨wo, hwo⟩ : ∃ wo, wh.alloc (.cells #[.int .i64 kk, .int .i64 aa, .int .i64 xx] 40) = wo := ⟨_, rfl⟩
        rw [hwo] at hbo hnew
        rw [hwo]
        have HSO := Lib.hid (HS.out.below hbo)
        have HBO := Lib.hid (HB.out.trans (hbo.mono HB.out.size))
        have HNEW := Lib.hid hnew
        have k0 := whole_cell hnew (show (#[Value.int .i64 kk, .int .i64 aa, .int .i64 xx])[0]? = _ from rfl)
        have k1 := whole_cell hnew (show (#[Value.int .i64 kk, .int .i64 aa, .int .i64 xx])[1]? = _ from rfl)
        have k2 := whole_cell hnew (show (#[Value.int .i64 kk, .int .i64 aa, .int .i64 xx])[2]? = _ from rfl)
        have HGL := Lib.hid (HS.out.ground_lt)
        have HZO := Lib.hid hbo.size
        clear hwo hbo hnew c0 c1 c2
        go_cut [10, 12] (fun f m wx => Hid (After W (ws.heap.size + 1) gm mcap l (.slice ta M tc) M (j + 1) vS vW ls f m wx))
        case first =>
          by_cases hk1 : kk = 1
          · subst hk1
            by_cases hin : 0 ≤ aa ∧ aa < (M : Int)
            · obtain ⟨a, rfl⟩ : ∃ a : Nat, aa = (a : Int) := ⟨aa.toNat, by omega⟩
              have ha0 : (0 : Int) ≤ (a : Int) := hin.1
              have ha1 : (a : Int) < (M : Int) := hin.2
              have hta := HSO.out.want
              obtain ⟨gw, cw, e, bw⟩ := owns_slice hta (by rw [HCS.out]; omega)
              rw [HCS.out] at e
              simp only [Value.slice.injEq, true_and] at e
              obtain ⟨rfl, rfl⟩ := e
              have hgw : gw < wh.heap.size := HGL.out gw (mem_ground_want bw)
              have C := Lib.hid (store_yes HSO.out.fld HSO.out.base a xx (by rw [HCS.out]; omega))
              clear hin hta
              go_wp2_with fail
              refine C.out.mono ?_
              rintro e wa ⟨vH', rfl, hF, hs, hn⟩
              have hsa := HSO.out.field hF hs (fun k hk => by
                rcases hn with e | ⟨k', e, hk'⟩
                · exact .inl (by rw [← e]; exact hk)
                · rw [hk] at e; simp at e; exact .inr (by omega))
              have hno : wh.heap.size ∉ foot p vC vH := fun hm => Nat.lt_irrefl _ (HGL.out _ (mem_ground_foot hm))
              have hwna := hs.whole HNEW.out hno
              have k1 := whole_cell hwna (show (#[Value.int .i64 1, .int .i64 (a : Int), .int .i64 xx])[1]? = _ from rfl)
              have k2 := whole_cell hwna (show (#[Value.int .i64 1, .int .i64 (a : Int), .int .i64 xx])[2]? = _ from rfl)
              obtain ⟨kw, fw⟩ := owns_at hsa.want (j := a) (by rw [HCS.out]; omega)
              have hsb := hsa.wantSet (j := a) ⟨M, tc, rfl⟩ bw xx
              have hbb := hs.size
              have hba := HBO.out.trans ((hs.below (B := W.heap.size) (fun k hk => (HSO.out.fld.foot_lt k hk).1) HSO.out.base).mono (Nat.le_refl _))
              have hgB := (hsa.want.block gw bw).1
              have s2 := Stirred.setCell wa ⟨gw, a, none⟩ (.int .i64 xx)
              obtain ⟨wb, hwb⟩ : ∃ wb, wa.setCell ⟨gw, a, none⟩ (.int .i64 xx) = wb := ⟨_, rfl⟩
              rw [hwb] at hsb s2
              have kb1 := whole_cell (s2.whole hwna (by simp; omega)) (show (#[Value.int .i64 1, .int .i64 (a : Int), .int .i64 xx])[1]? = _ from rfl)
              have HSB := Lib.hid hsb
              have HBB := Lib.hid (hba.trans (s2.below (B := W.heap.size) (fun k hk => by simp at hk; omega) hba.size))
              clear hsa hsb hno hwna hF hs hn hba hbb s2 C
              go_wp2_with (at_mapUpdate; refine wpList_update_set _ rfl _ _ _ rfl bm j ch rfl HSB.out.map (by unfold maxLen; omega) (a : Int) rfl HWA.out rfl ?_)
              intro w7 hm7 hs7
              have HS7 := Lib.hid (HSB.out.setMore hm7 hs7)
              have HB7 := Lib.hid (HBB.out.trans (hs7.below (B := W.heap.size) (fun k hk => by simp at hk; subst hk; exact HSB.out.mb) HBB.out.size))
              clear hm7 hs7 hwb
              go_wp2
              go_meet
              exact ⟨p, bm, vC, vH', _, _, rfl, rfl, HS7.out, by rw [List.length_set]; exact HCS.out, HB7.out⟩
            · have hC := store_no HSO.out.fld aa xx (by rw [HCS.out]; exact hin)
              have C := Lib.hid hC
              have HSE := Lib.hid (HSO.out.count (Nat.le_succ j))
              clear hC
              by_cases ha : 0 ≤ aa
              · have ha1 : decide (aa < (M : Int)) = false := decide_eq_false (by omega)
                clear hin
                go_wp2_with fail
                refine C.out.mono ?_
                rintro e wz ⟨rfl, hwz⟩
                subst wz
                clear C
                go_wp2
                go_meet
                exact ⟨p, bm, vC, vH, _, _, rfl, rfl, HSE.out, HCS.out, HBO.out⟩
              · clear hin
                go_wp2_with fail
                refine C.out.mono ?_
                rintro e wz ⟨rfl, hwz⟩
                subst wz
                clear C
                go_wp2
                go_meet
                exact ⟨p, bm, vC, vH, _, _, rfl, rfl, HSE.out, HCS.out, HBO.out⟩
          · by_cases hk2 : kk = 2
            · subst hk2
              clear hk1
              have C := Lib.hid (settle_any HSO.out.fld)
              go_wp2_with fail
              refine C.out.mono ?_
              rintro e wa ⟨rfl, hF, hs⟩
              have hsa := HSO.out.field hF (hs.more (cs := foot p vC vH) (fun k hk => by simp at hk; subst hk; exact List.mem_cons_self)) (fun k hk => by cases hk)
              have HSE := Lib.hid (hsa.setNew.count (Nat.zero_le (j + 1)))
              have hba := HBO.out.trans ((hs.below (B := W.heap.size) (fun k hk => by simp at hk; subst hk; exact HSO.out.fld.le) HSO.out.base).mono (Nat.le_refl _))
              have HBE := Lib.hid (hba.trans (((Below.refl wa.heap.size wa).alloc (Nat.le_refl _) (.map #[] 0)).mono hba.size))
              clear hsa hF hs hba C
              have hmm := @run_makeMap Try.prog
              go_wp2
              go_meet
              exact ⟨p, wa.heap.size, vC, _, _, _, rfl, rfl, HSE.out, HCS.out, HBE.out⟩
            · have hk1' : ((kk : Int) == 1) = false := by simpa using hk1
              have hk2' : ((kk : Int) == 2) = false := by simpa using hk2
              clear hk1 hk2
              have C := Lib.hid (copy_any HSO.out.fld)
              go_wp2_with fail
              refine C.out.mono ?_
              rintro e wa ⟨p', vC', rfl, hF, hb⟩
              have HSA := Lib.hid (HSO.out.spare (ex := foot p' vC' (.slice none 0 0)) hb (fun k hk => hF.foot_lt k hk))
              have HFA := Lib.hid (hF.from HSO.out.base)
              have HBA := Lib.hid (HBO.out.trans (hb.mono HBO.out.size))
              clear hF hb C
              have C := Lib.hid (changed_any HFA.out)
              go_wp2_with fail
              refine C.out.mono ?_
              rintro e wb ⟨c, rfl, hc, hb⟩
              obtain ⟨co, cc, hcv⟩ := hc.slice
              rw [vals_length, List.length_nil] at hcv
              subst hcv
              have HSB := Lib.hid (HSA.out.below hb)
              have HFB := Lib.hid (HFA.out.below hb)
              have HBB := Lib.hid (HBA.out.trans (hb.mono HBA.out.size))
              clear hc hb C HSA HFA HBA
              by_cases hM0 : M = 0
              · subst hM0
                have C := Lib.hid (show Calls Try.prog 10 #[.pointer (some ⟨p, 0, none⟩), .int .i64 0, .int .i64 (-1)] wb _ from store_no HSB.out.fld 0 (-1) (by rw [HCS.out]; omega))
                have HSE := Lib.hid ((HSB.out.swap HFB.out).setNew.count (Nat.zero_le (j + 1)))
                have HBE := Lib.hid (HBB.out.trans (((Below.refl wb.heap.size wb).alloc (Nat.le_refl _) (.map #[] 0)).mono HBB.out.size))
                go_wp2_with fail
                refine C.out.mono ?_
                rintro e wz ⟨rfl, hwz⟩
                subst wz
                clear C
                have hmm := @run_makeMap Try.prog
                go_wp2
                go_meet
                exact ⟨p', _, vC', _, _, _, rfl, rfl, HSE.out, HCS.out, HBE.out⟩
              · have C := Lib.hid (show Calls Try.prog 10 #[.pointer (some ⟨p, 0, none⟩), .int .i64 0, .int .i64 (-1)] wb (Stored wb W.heap.size p vC vH cs ch 0 (-1)) from store_yes HSB.out.fld HSB.out.base 0 (-1) (by rw [HCS.out]; omega))
                go_wp2_with fail
                refine C.out.mono ?_
                rintro e wd ⟨vH', rfl, hF, hs, hn⟩
                have hsd := HSB.out.field hF hs (fun k hk => by
                  rcases hn with e | ⟨k', e, hk'⟩
                  · exact .inl (by rw [← e]; exact hk)
                  · rw [hk] at e; simp at e; exact .inr (by omega))
                have hfd := HFB.out.touch hs (fun k hk hm => HSB.out.fx k hm hk)
                have HSE := Lib.hid ((hsd.swap hfd).setNew.count (Nat.zero_le (j + 1)))
                have hbd := HBB.out.trans ((hs.below (B := W.heap.size) (fun k hk => (HSB.out.fld.foot_lt k hk).1) HSB.out.base).mono (Nat.le_refl _))
                have HBE := Lib.hid (hbd.trans (((Below.refl wd.heap.size wd).alloc (Nat.le_refl _) (.map #[] 0)).mono hbd.size))
                clear hsd hfd hF hs hn hbd C
                have hmm := @run_makeMap Try.prog
                go_wp2
                go_meet
                exact ⟨p', _, vC', _, _, _, rfl, rfl, HSE.out, HCS.out, HBE.out⟩
        case rest =>
          clear HSO HBO HNEW k0 k1 k2 HGL HZO HS HB HCS HWA
          obtain ⟨p, bm, vC, vH, cs, ch, rfl, rfl, hS, hC, hB⟩ := hcut.out
          have HCS := Lib.hid hC
          refine ‹∀ (a : Act) (w : World), Code.wp _ _ (Exit.inBlock 1 _) a w → _› _ _ ?_
          refine round_end hS (by omega) hB hC hM5 (by have := HLS.out; omega) HWS.out wa ?_
          clear hS hB hC hcut
          intro u18 u19 u20 u21 u22 u23 u24 u126 u127 u128 u129 u130 u131 u132 u133 u134 u135 u136 u137 u138 u139 u140 u141 u142 u143 u144 u145 u146 u147 u148 u149 u150 u151 u152 u153 u154 u155 u156 u157 u158 u159 u160 u161 u162 u163 u164 u165 u166 u167 u168 u169 u170 u171 u172 u173 u174 u175 u176 u177 u178 u179 u180 u181 u182 u183 u184 u185 u186 u187 u188 u189 u190 u191 u192 u193 u194 u195 u196 u197 u198 u199 u200 u201 u202 u203 w' vS' vW' ls' hl hS hB
          have HSF := Lib.hid hS
          have HBF := Lib.hid hB
          have HLF := Lib.hid hl
          clear hl hS hB
          go_wp2
          go_roundg (N - (j + 1))
          case measure => omega
          case rel => exact ⟨j + 1, p, bm, vC, vH, cs, ch, _, _, _, rfl, by omega, by go_num, rfl, rfl, HSF.out, Lib.hid (by have h1 := HLS.out; have h2 := HLF.out; omega), HCS, HBF⟩
      · obtain rfl : j = N := by omega
        have hS := HS.out
        have C1 := Lib.hid (settle_nil wr)
        have C2 := Lib.hid (show Calls Try.prog 16 #[.pointer none, .int .i64 0] wr _ from load_nil 0 wr)
        have C3 := Lib.hid (show Calls Try.prog 10 #[.pointer none, .int .i64 0, .int .i64 1] wr _ from store_nil 0 1 wr)
        have C4 := Lib.hid (len_nil wr)
        have C5 := Lib.hid (all_nil wr)
        have C6 := Lib.hid (changed_nil wr)
        have C7 := Lib.hid (copy_nil wr)
        have C8 := Lib.hid (stays_any W.heap.size gm mcap (.slice lo L lc) l wr hS.lent (HR.out.below HB.out) (by rw [HL.out]; omega))
        rw [HL.out] at C8
        clear hS
        go_wp2_with fail
        refine C1.out.mono ?_
        rintro e wz ⟨rfl, hwz⟩
        subst wz
        go_wp2_with fail
        refine C2.out.mono ?_
        rintro e wz ⟨rfl, hwz⟩
        subst wz
        go_wp2_with fail
        refine C3.out.mono ?_
        rintro e wz ⟨rfl, hwz⟩
        subst wz
        go_wp2_with fail
        refine C4.out.mono ?_
        rintro e wz ⟨rfl, hwz⟩
        subst wz
        go_wp2_with fail
        refine C5.out.mono ?_
        rintro e wz ⟨rfl, hwz⟩
        subst wz
        go_wp2_with fail
        refine C6.out.mono ?_
        rintro e wz ⟨rfl, hwz⟩
        subst wz
        go_wp2_with fail
        refine C7.out.mono ?_
        rintro e wz ⟨rfl, hwz⟩
        subst wz
        go_wp2_with fail
        refine C8.out.mono ?_
        rintro e w7 ⟨rfl, q7, hq⟩
        have hb7 : Below wr.heap.size wr w7 := by rw [hq]; exact bk_below_drewN _ _ _
        have hS := HS.out.below hb7
        have HB7 := Lib.hid (HB.out.trans (hb7.mono HB.out.size))
        have C := Lib.hid (apartInts_any (ws.heap.size + 1) (ws.heap.size + 1 + 1) vS vW ls w7 (Nat.lt_succ_self _) (whole_lt hS.book) ⟨whole_cell hS.book rfl, whole_cell hS.book rfl, whole_cell hS.book rfl, whole_cell hS.book rfl, whole_cell hS.book rfl, whole_cell hS.book rfl⟩ (whole_cell hS.book rfl) _ hS.kept)
        clear hq hb7 hS C1 C2 C3 C4 C5 C6 C7 C8
        go_wp2_with fail
        refine C.out.mono ?_
        rintro e w8 ⟨rfl, hb⟩
        have HB8 := Lib.hid (HB7.out.trans (hb.mono (Nat.le_succ_of_le HWS.out)))
        clear hb C
        go_wp2
        go_ret
        exact ⟨rfl, HB8.out⟩
end Go.Proofs.Ytifcjcheokkojaa.FieldPlays
