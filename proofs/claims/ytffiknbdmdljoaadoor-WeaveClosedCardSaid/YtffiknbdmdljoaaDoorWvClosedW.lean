
/- WeaveClosed: the walk. -/
import Derived.Test.YtffiknbdmdljoaaDoorWvTexts
import Derived.Test.YtffiknbdmdljoaaDoorReadsArg
import Derived.Deep.RegionWith
import Derived.Deep.QuietTactic
import Derived.BigQuiet
namespace Go.Proofs.YtffiknbdmdljoaaDoor.WeaveClosed
open Go.RowKit Book Book.Wide Mem Wv
set_option linter.unusedSimpArgs false
set_option linter.unusedVariables false
theorem nxt {P R : Nat} (h : P + 1 = R) (hP : P ≤ 500) : (P : Int) + 1 = (R : Int) ∧ IntKind.i64.wrap ((P : Int) + 1) = (P : Int) + 1 ∧ IntKind.i64.wrap (R : Int) = (R : Int) ∧ wrap64 (R : Int) = (R : Int) ∧ (0 : Int) ≤ (R : Int) ∧ (R : Int) < 1000 ∧ R ≤ 501 :=
  ⟨by omega, IntWalk.i64_in _ (by omega), IntWalk.i64_in _ (by omega), by unfold wrap64; omega, by omega, by omega, by omega⟩
set_option maxHeartbeats 40000000 in
set_option maxRecDepth 100000 in
theorem main (vl : Value) (xs : List Int) (here : Int) (W : World) (hr : Reads W vl xs) (hn : NamesIs W) : Calls Tryd.prog 4 #[vl, .int .i64 here] W (Yes W) := by
  have HX := Lib.hid hr
  have HNM := Lib.hid hn
  have C := Lib.hid (alive_any W hn)
  obtain ⟨i0, q1, q2, q3, q4⟩ := info_parts Tryd.bkIntInfo
  have HII := Lib.hid (And.intro q1 (And.intro q2 (And.intro q3 q4)))
  clear q1 q2 q3 q4
  obtain ⟨i1, q1, q2, q3, q4⟩ := info_parts Tryd.bkTextInfo
  have HI := Lib.hid (And.intro q1 (And.intro q2 (And.intro q3 q4)))
  clear q1 q2 q3 q4
  obtain ⟨lo, lc, rfl, _⟩ := hr
  obtain ⟨L, hL⟩ : ∃ L, xs.length = L := ⟨_, rfl⟩
  have HL := Lib.hid hL
  rw [hL] at HX ⊢
  clear hn hL
  by_cases h1 : 30 < L
  · have h1' : decide (30 < (L : Int)) = true := decide_eq_true (by omega)
    go_enter Tryd.func4, Tryd.ntmps4
    go_wp2_with fail
    refine C.out.mono ?_
    rintro e w1 ⟨rfl, hb⟩
    have HB := Lib.hid hb
    clear C hb
    go_wp2
    go_ret
    exact ⟨rfl, HB.out⟩
  have h1' : decide (30 < (L : Int)) = false := decide_eq_false (by omega)
  by_cases h2 : here < 0
  · go_enter Tryd.func4, Tryd.ntmps4
    go_wp2_with fail
    refine C.out.mono ?_
    rintro e w1 ⟨rfl, hb⟩
    have HB := Lib.hid hb
    clear C hb
    go_wp2
    go_ret
    exact ⟨rfl, HB.out⟩
  by_cases h3 : 100 < here
  · go_enter Tryd.func4, Tryd.ntmps4
    go_wp2_with fail
    refine C.out.mono ?_
    rintro e w1 ⟨rfl, hb⟩
    have HB := Lib.hid hb
    clear C hb
    go_wp2
    go_ret
    exact ⟨rfl, HB.out⟩
  obtain ⟨b, rfl⟩ : ∃ b : Nat, here = (b : Int) := ⟨here.toNat, by omega⟩
  have hb100 : b ≤ 100 := by omega
  go_enter Tryd.func4, Tryd.ntmps4
  go_wp2_with fail
  refine C.out.mono ?_
  rintro e w1 ⟨rfl, hb⟩
  have HB1 := Lib.hid hb
  clear C hb
  go_wp2_with (at_make; refine wpList_make_full _ rfl _ _ 22 rfl w1.heap.size 3 i0 (.int .i64 0) 1 Tryd.underlying22 HII.out.1 HII.out.2.1 HII.out.2.2.1 .i64 .i64 _ _ 1000 rfl rfl ?a1 ?a2 ?a3 ?a4 (Nat.le_refl _) ?_)
  case a1 => rfl
  case a2 => rfl
  case a3 => rw [HII.out.2.2.2]; decide
  case a4 => unfold maxLen; decide
  intro w2 hO hG
  rw [toList_madeCells_one] at hO
  obtain ⟨hR, hb2⟩ := zeros_made hO hG
  obtain ⟨Z, hZ⟩ : ∃ Z, List.replicate 1000 (0 : Int) = Z := ⟨_, rfl⟩
  have hzl : Z.length = 1000 := by rw [← hZ]; exact List.length_replicate
  have hLay : Lay b 0 [] ⟨Z, b, []⟩ := by rw [← hZ]; exact Lay.start hb100
  rw [hZ] at hR
  have C := Lib.hid (s_new _ Z (b : Int) W w2 (HB1.out.trans (hb2.mono HB1.out.size)) HNM.out hR (by omega))
  rw [show Wv.start Z (b : Int) = ⟨Z, b, []⟩ by unfold Wv.start; congr 1; omega] at C
  have HLY := Lib.hid hLay
  clear hO hG hR hb2 hZ hzl hLay
  go_wp2_with fail
  refine C.out.mono ?_
  rintro e w3 ⟨p, rfl, hS, _⟩
  have HR3 := Lib.hid (show ∃ os i, CS W w3 p b i os (.slice none 0 0) ∧ os.length = 0 ∧ i ≤ 2 * 0 ∧ os.length ≤ 0 from ⟨[], 0, ⟨⟨_, hS, HLY.out⟩, Owns.nil _ _ _⟩, rfl, Nat.le_refl _, Nat.le_refl _⟩)
  clear C hS HLY
  go_wp2
  go_loopg [6, 7] L (fun g o i wr => ∃ (k : Nat) (vs : Value) (on : Nat), g = L - k ∧ k ≤ L ∧ o = vs ∧ i = .int .i64 (k : Int) ∧ Hid (∃ os i, CS W wr p b i os vs ∧ os.length = on ∧ i ≤ 2 * k ∧ os.length ≤ k))
  case atStart => exact ⟨0, _, 0, rfl, Nat.zero_le _, rfl, rfl, HR3⟩
  case round =>
    obtain ⟨k, vs, on, rfl, hk, rfl, rfl, HR⟩ := hrel
    obtain ⟨os, i, hC, hon, hi, hok⟩ := HR.out
    have HC := Lib.hid hC
    obtain ⟨so, sc, hvs⟩ := hC.str.slice
    rw [strs_len, hon] at hvs
    subst hvs
    have HN := Lib.hid (And.intro hon (And.intro hi hok))
    by_cases hlt : k < L
    · obtain ⟨x, hx⟩ : ∃ x, xs[k]? = some x := ⟨_, List.getElem?_eq_getElem (by rw [HL.out]; exact hlt)⟩
      obtain ⟨m0, hS0, hL0⟩ := hC.way
      obtain ⟨lo', lc', e', hcell⟩ := HX.out.below hS0.below
      rw [HL.out] at e'
      simp only [Value.slice.injEq] at e'
      obtain ⟨rfl, _, rfl⟩ := e'
      obtain ⟨ad, rfl, c0⟩ := hcell k x hx
      have z0 : (0 : Int) ≤ (k : Int) := by omega
      have z1 : (k : Int) < (L : Int) := by omega
      obtain ⟨z, hz⟩ : ∃ z, bits BinOp.and IntKind.i64 x 7 = z := ⟨_, rfl⟩
      clear hx hcell hS0 hL0 hC HR
      by_cases y0 : z = 0
      · subst y0
        obtain ⟨m, hS, hL⟩ := HC.out.way
        have HST := Lib.hid HC.out.str
        have HWL := Lib.hid (And.intro hS hL)
        clear hS hL
        have hg := HWL.out.2.open1 (by omega) hb100
        have C := Lib.hid (c_form HWL.out.1 HST.out ⟨#[73, 70]⟩ (by decide) (by have h1 := HWL.out.2.l_le; have h2 := HWL.out.2.most; (try simp only [List.length_cons] at h1 h2); omega))
        rw [words_open.1, hg.1] at C
        have HG := Lib.hid hg.2
        clear hg HWL HST
        go_wp2_with fail
        refine C.out.mono ?_
        rintro e w4 ⟨rfl, hS, hO⟩
        have HWL := Lib.hid (And.intro hS HG.out)
        have HST := Lib.hid hO
        clear C hS hO HG
        obtain ⟨wb, gb, hwb, hgb, hrd, hbe⟩ := text_box w4 ⟨#[84, 72, 69, 78]⟩
        have HRD := Lib.hid hrd
        have HBE := Lib.hid hbe
        have HSB := Lib.hid (HWL.out.1.kept hbe)
        have HOB := Lib.hid (HST.out.below hbe)
        clear hrd hbe
        go_wp2_with (refine wpList_append_two _ rfl _ _ 52 rfl W.heap.size 9 i1 (.string ⟨#[]⟩) 16 Tryd.underlying52 HI.out.1 HI.out.2.1 HI.out.2.2.1 HI.out.2.2.2 rfl (.slice so on sc) (strs os) rfl HOB.out ⟨gb, 0, none⟩ 1 1 [.string ⟨#[84, 72, 69, 78]⟩] rfl rfl HRD.out (by intro u hu; obtain rfl := List.mem_singleton.1 hu; rfl) (by decide) ?c1 ?c2 HSB.out.below.size ?_)
        case c1 => rw [strs_len, List.length_singleton]; unfold maxLen; omega
        case c2 => rw [strs_len, List.length_singleton]; omega
        intro v' w9 hO _ hT _
        obtain ⟨ao', ac', hv'⟩ := hO.slice
        rw [List.length_append, strs_len, List.length_singleton, HN.out.1] at hv'
        subst hv'
        have HR' := Lib.hid (show ∃ os' i', CS W w9 p b i' os' (.slice ao' (on + 1) ac') ∧ os'.length = on + 1 ∧ i' ≤ 2 * (k + 1) ∧ os'.length ≤ k + 1 from ⟨1 :: os, _, ⟨⟨_, HSB.out.str HOB.out hT, HWL.out.2⟩, by rw [strs_cons]; exact hO⟩, by rw [List.length_cons, HN.out.1], by omega, by rw [List.length_cons]; omega⟩)
        clear hO hT
        go_wp2
        go_roundg (L - (k + 1))
        case measure => omega
        case rel => exact ⟨k + 1, _, on + 1, rfl, by omega, rfl, by go_num, HR'⟩
      have y0' : (z == 0) = false := by simpa using y0
      by_cases y1 : z = 1
      · subst y1
        obtain ⟨m, hS, hL⟩ := HC.out.way
        have HST := Lib.hid HC.out.str
        have HWL := Lib.hid (And.intro hS hL)
        clear hS hL
        have hg := HWL.out.2.open3 (by omega) hb100
        have C := Lib.hid (c_form HWL.out.1 HST.out ⟨#[66, 69, 71, 73, 78]⟩ (by decide) (by have h1 := HWL.out.2.l_le; have h2 := HWL.out.2.most; (try simp only [List.length_cons] at h1 h2); omega))
        rw [words_open.2.1, hg.1] at C
        have HG := Lib.hid hg.2
        clear hg HWL HST
        go_wp2_with fail
        refine C.out.mono ?_
        rintro e w4 ⟨rfl, hS, hO⟩
        have HWL := Lib.hid (And.intro hS HG.out)
        have HST := Lib.hid hO
        clear C hS hO HG
        obtain ⟨wb, gb, hwb, hgb, hrd, hbe⟩ := text_box w4 ⟨#[85, 78, 84, 73, 76]⟩
        have HRD := Lib.hid hrd
        have HBE := Lib.hid hbe
        have HSB := Lib.hid (HWL.out.1.kept hbe)
        have HOB := Lib.hid (HST.out.below hbe)
        clear hrd hbe
        go_wp2_with (refine wpList_append_two _ rfl _ _ 52 rfl W.heap.size 9 i1 (.string ⟨#[]⟩) 16 Tryd.underlying52 HI.out.1 HI.out.2.1 HI.out.2.2.1 HI.out.2.2.2 rfl (.slice so on sc) (strs os) rfl HOB.out ⟨gb, 0, none⟩ 1 1 [.string ⟨#[85, 78, 84, 73, 76]⟩] rfl rfl HRD.out (by intro u hu; obtain rfl := List.mem_singleton.1 hu; rfl) (by decide) ?c1 ?c2 HSB.out.below.size ?_)
        case c1 => rw [strs_len, List.length_singleton]; unfold maxLen; omega
        case c2 => rw [strs_len, List.length_singleton]; omega
        intro v' w9 hO _ hT _
        obtain ⟨ao', ac', hv'⟩ := hO.slice
        rw [List.length_append, strs_len, List.length_singleton, HN.out.1] at hv'
        subst hv'
        have HR' := Lib.hid (show ∃ os' i', CS W w9 p b i' os' (.slice ao' (on + 1) ac') ∧ os'.length = on + 1 ∧ i' ≤ 2 * (k + 1) ∧ os'.length ≤ k + 1 from ⟨3 :: os, _, ⟨⟨_, HSB.out.str HOB.out hT, HWL.out.2⟩, by rw [strs_cons]; exact hO⟩, by rw [List.length_cons, HN.out.1], by omega, by rw [List.length_cons]; omega⟩)
        clear hO hT
        go_wp2
        go_roundg (L - (k + 1))
        case measure => omega
        case rel => exact ⟨k + 1, _, on + 1, rfl, by omega, rfl, by go_num, HR'⟩
      have y1' : (z == 1) = false := by simpa using y1
      by_cases y2 : z = 2
      · subst y2
        obtain ⟨m, hS, hL⟩ := HC.out.way
        have HST := Lib.hid HC.out.str
        have HWL := Lib.hid (And.intro hS hL)
        clear hS hL
        have hg := HWL.out.2.open5 (by omega) hb100
        have C := Lib.hid (c_form HWL.out.1 HST.out ⟨#[68, 79]⟩ (by decide) (by have h1 := HWL.out.2.l_le; have h2 := HWL.out.2.most; (try simp only [List.length_cons] at h1 h2); omega))
        rw [words_open.2.2.1, hg.1] at C
        have HG := Lib.hid hg.2
        clear hg HWL HST
        go_wp2_with fail
        refine C.out.mono ?_
        rintro e w4 ⟨rfl, hS, hO⟩
        have HWL := Lib.hid (And.intro hS HG.out)
        have HST := Lib.hid hO
        clear C hS hO HG
        obtain ⟨wb, gb, hwb, hgb, hrd, hbe⟩ := text_box w4 ⟨#[76, 79, 79, 80]⟩
        have HRD := Lib.hid hrd
        have HBE := Lib.hid hbe
        have HSB := Lib.hid (HWL.out.1.kept hbe)
        have HOB := Lib.hid (HST.out.below hbe)
        clear hrd hbe
        go_wp2_with (refine wpList_append_two _ rfl _ _ 52 rfl W.heap.size 9 i1 (.string ⟨#[]⟩) 16 Tryd.underlying52 HI.out.1 HI.out.2.1 HI.out.2.2.1 HI.out.2.2.2 rfl (.slice so on sc) (strs os) rfl HOB.out ⟨gb, 0, none⟩ 1 1 [.string ⟨#[76, 79, 79, 80]⟩] rfl rfl HRD.out (by intro u hu; obtain rfl := List.mem_singleton.1 hu; rfl) (by decide) ?c1 ?c2 HSB.out.below.size ?_)
        case c1 => rw [strs_len, List.length_singleton]; unfold maxLen; omega
        case c2 => rw [strs_len, List.length_singleton]; omega
        intro v' w9 hO _ hT _
        obtain ⟨ao', ac', hv'⟩ := hO.slice
        rw [List.length_append, strs_len, List.length_singleton, HN.out.1] at hv'
        subst hv'
        have HR' := Lib.hid (show ∃ os' i', CS W w9 p b i' os' (.slice ao' (on + 1) ac') ∧ os'.length = on + 1 ∧ i' ≤ 2 * (k + 1) ∧ os'.length ≤ k + 1 from ⟨5 :: os, _, ⟨⟨_, HSB.out.str HOB.out hT, HWL.out.2⟩, by rw [strs_cons]; exact hO⟩, by rw [List.length_cons, HN.out.1], by omega, by rw [List.length_cons]; omega⟩)
        clear hO hT
        go_wp2
        go_roundg (L - (k + 1))
        case measure => omega
        case rel => exact ⟨k + 1, _, on + 1, rfl, by omega, rfl, by go_num, HR'⟩
      have y2' : (z == 2) = false := by simpa using y2
      by_cases y3 : z = 3
      · subst y3
        obtain ⟨m, hS, hL⟩ := HC.out.way
        have HST := Lib.hid HC.out.str
        have HWL := Lib.hid (And.intro hS hL)
        clear hS hL
        have hg := HWL.out.2.open3 (by omega) hb100
        have C := Lib.hid (c_form HWL.out.1 HST.out ⟨#[66, 69, 71, 73, 78]⟩ (by decide) (by have h1 := HWL.out.2.l_le; have h2 := HWL.out.2.most; (try simp only [List.length_cons] at h1 h2); omega))
        rw [words_open.2.1, hg.1] at C
        have HG := Lib.hid hg.2
        clear hg HWL HST
        go_wp2_with fail
        refine C.out.mono ?_
        rintro e w4 ⟨rfl, hS, hO⟩
        have HWL := Lib.hid (And.intro hS HG.out)
        have HST := Lib.hid hO
        clear C hS hO HG
        have hg := HWL.out.2.open4 (by omega) hb100
        have C := Lib.hid (c_form HWL.out.1 HST.out ⟨#[87, 72, 73, 76, 69]⟩ (by decide) (by have h1 := HWL.out.2.l_le; have h2 := HWL.out.2.most; (try simp only [List.length_cons] at h1 h2); omega))
        rw [words_open.2.2.2.1, hg.1] at C
        have HG := Lib.hid hg.2
        clear hg HWL HST
        go_wp2_with fail
        refine C.out.mono ?_
        rintro e w5 ⟨rfl, hS, hO⟩
        have HWL := Lib.hid (And.intro hS HG.out)
        have HST := Lib.hid hO
        clear C hS hO HG
        obtain ⟨wb, gb, hwb, hgb, hrd, hbe⟩ := text_box w5 ⟨#[82, 69, 80, 69, 65, 84]⟩
        have HRD := Lib.hid hrd
        have HBE := Lib.hid hbe
        have HSB := Lib.hid (HWL.out.1.kept hbe)
        have HOB := Lib.hid (HST.out.below hbe)
        clear hrd hbe
        go_wp2_with (refine wpList_append_two _ rfl _ _ 52 rfl W.heap.size 9 i1 (.string ⟨#[]⟩) 16 Tryd.underlying52 HI.out.1 HI.out.2.1 HI.out.2.2.1 HI.out.2.2.2 rfl (.slice so on sc) (strs os) rfl HOB.out ⟨gb, 0, none⟩ 1 1 [.string ⟨#[82, 69, 80, 69, 65, 84]⟩] rfl rfl HRD.out (by intro u hu; obtain rfl := List.mem_singleton.1 hu; rfl) (by decide) ?c1 ?c2 HSB.out.below.size ?_)
        case c1 => rw [strs_len, List.length_singleton]; unfold maxLen; omega
        case c2 => rw [strs_len, List.length_singleton]; omega
        intro v' w9 hO _ hT _
        obtain ⟨ao', ac', hv'⟩ := hO.slice
        rw [List.length_append, strs_len, List.length_singleton, HN.out.1] at hv'
        subst hv'
        have HR' := Lib.hid (show ∃ os' i', CS W w9 p b i' os' (.slice ao' (on + 1) ac') ∧ os'.length = on + 1 ∧ i' ≤ 2 * (k + 1) ∧ os'.length ≤ k + 1 from ⟨4 :: os, _, ⟨⟨_, HSB.out.str HOB.out hT, HWL.out.2⟩, by rw [strs_cons]; exact hO⟩, by rw [List.length_cons, HN.out.1], by omega, by rw [List.length_cons]; omega⟩)
        clear hO hT
        go_wp2
        go_roundg (L - (k + 1))
        case measure => omega
        case rel => exact ⟨k + 1, _, on + 1, rfl, by omega, rfl, by go_num, HR'⟩
      have y3' : (z == 3) = false := by simpa using y3
      by_cases y4 : z = 4
      · subst y4
        by_cases hz0 : on = 0
        · subst hz0
          have HR' := Lib.hid (show ∃ os i, CS W wr p b i os (.slice so 0 sc) ∧ os.length = 0 ∧ i ≤ 2 * (k + 1) ∧ os.length ≤ k + 1 from ⟨os, i, HC.out, HN.out.1, by omega, by omega⟩)
          go_wp2
          go_roundg (L - (k + 1))
          case measure => omega
          case rel => exact ⟨k + 1, _, 0, rfl, by omega, rfl, by go_num, HR'⟩
        · obtain ⟨kk, r, rfl⟩ : ∃ kk r, os = kk :: r := by
            cases os with
            | nil => exact absurd hon.symm hz0
            | cons kk r => exact ⟨kk, r, rfl⟩
          obtain ⟨J, hJ⟩ : ∃ J, r.length = J := ⟨_, rfl⟩
          obtain rfl : on = J + 1 := by rw [List.length_cons] at hon; omega
          have hat := strs_at (os := kk :: r) (j := J) (k := kk) (by rw [List.length_cons, hJ, show J + 1 - 1 - J = 0 by omega]; rfl) (by rw [List.length_cons, hJ]; omega)
          obtain ⟨g, cap, hgv, hcells, hfro, hgc⟩ := HC.out.str.row (by rw [strs_len, List.length_cons]; omega)
          simp only [Value.slice.injEq] at hgv
          obtain ⟨rfl, hgl, rfl⟩ := hgv
          clear hgl hgc
          have d0 := hcells J _ hat
          obtain ⟨tk, htk⟩ : ∃ tk, txt kk = tk := ⟨_, rfl⟩
          rw [htk] at d0
          have x0 : ((J + 1 : Nat) : Int) - 1 = (J : Int) := by omega
          have x1 : (0 : Int) ≤ (J : Int) := by omega
          have x2 : (J : Int) < ((J + 1 : Nat) : Int) := by omega
          have x3 : (0 : Int) < ((J + 1 : Nat) : Int) := by omega
          have x4 : IntKind.i64.wrap (((J + 1 : Nat) : Int) - 1) = ((J + 1 : Nat) : Int) - 1 := IntWalk.i64_in _ (by have := HN.out; omega)
          have x5 : IntKind.i64.wrap (J : Int) = (J : Int) := IntWalk.i64_in _ (by have := HN.out; omega)
          have x6 : wrap64 (J : Int) = (J : Int) := by unfold wrap64; have := HN.out; omega
          obtain ⟨M, hM⟩ : ∃ M, J + 1 = M := ⟨_, rfl⟩
          have HM := Lib.hid (And.intro hM hJ)
          simp only [hM] at x0 x2 x3 x4 HC HN ⊢
          by_cases hk1 : kk = 1
          · subst hk1
            obtain rfl : tk = ⟨#[84, 72, 69, 78]⟩ := by rw [← htk]; rfl
            obtain ⟨m, hS, hL⟩ := HC.out.way
            have hg := hL.open2 (by have := HN.out.2.1; omega) hb100
            have C := Lib.hid (c_form hS HC.out.str ⟨#[69, 76, 83, 69]⟩ (by decide) (by have h1 := hL.l_le; have h2 := hL.most; have h3 := HN.out.2.2; omega))
            rw [words_open.2.2.2.2, hg.1] at C
            have HG := Lib.hid hg.2
            clear hS hL hg hat hcells hfro htk hon hi hok
            go_wp2_with fail
            refine C.out.mono ?_
            rintro e w4 ⟨rfl, hS, hO⟩
            obtain ⟨g2, cap2, hgv2, hcells2, hfro2, hcap2⟩ := hO.row (by rw [strs_len, List.length_cons]; omega)
            simp only [Value.slice.injEq, Option.some.injEq, Addr.mk.injEq, and_true] at hgv2
            obtain ⟨rfl, hgl2, rfl⟩ := hgv2
            have d0 : w4.cell? ⟨g, J, none⟩ = some (.string ⟨#[84, 72, 69, 78]⟩) := hcells2 J _ (strs_at (os := 1 :: r) (j := J) (k := 1) (by rw [List.length_cons, HM.out.2, show J + 1 - 1 - J = 0 by omega]; rfl) (by rw [List.length_cons, HM.out.2]; omega))
            have d1 : w4.frozen? ⟨g, J, none⟩ = false := hfro2 J
            have HR' := Lib.hid (show ∃ os i, CS W (w4.setCell ⟨g, J, none⟩ (.string ⟨#[84, 104, 101, 110]⟩)) p b i os (.slice (some ⟨g, 0, none⟩) M sc) ∧ os.length = M ∧ i ≤ 2 * (k + 1) ∧ os.length ≤ k + 1 from by
              have hst := hO.stored J (.string ⟨#[84, 104, 101, 110]⟩)
              have e : (strs (1 :: r)).set J (.string ⟨#[84, 104, 101, 110]⟩) = strs (2 :: r) := by rw [← HM.out.2]; exact strs_top 1 2 r
              rw [e] at hst
              have hsc : 0 < sc := by rw [strs_len, List.length_cons] at hcap2; omega
              refine ⟨2 :: r, i + 1, ⟨⟨_, hS.str hO (by rw [blk_pos hsc]; exact Stirred.setCell w4 ⟨g, J, none⟩ _), HG.out⟩, hst⟩, by rw [List.length_cons, HM.out.2, HM.out.1], by have := HN.out.2.1; omega, by have := HN.out.1; have := HN.out.2.2; rw [List.length_cons] at *; omega⟩)
            clear C hS hO HG hcells2 hfro2 hM hJ hgl2 hcap2
            go_wp2
            go_roundg (L - (k + 1))
            case measure => omega
            case rel => exact ⟨k + 1, _, M, rfl, by omega, rfl, by go_num, HR'⟩
          · have hne : (tk.toList == [84, 72, 69, 78]) = false := by
              rw [← htk]
              have hh := HC.out.way
              obtain ⟨_, _, hL⟩ := hh
              rcases (hL.close (by omega) hb100).2 with e | e | e | e | e <;> first | exact absurd e hk1 | (subst e; decide +kernel)
            have HR' := Lib.hid (show ∃ os i, CS W wr p b i os (.slice (some ⟨g, 0, none⟩) M sc) ∧ os.length = M ∧ i ≤ 2 * (k + 1) ∧ os.length ≤ k + 1 from ⟨kk :: r, i, HC.out, HN.out.1, Nat.le_trans HN.out.2.1 (Nat.mul_le_mul_left 2 (Nat.le_succ k)), Nat.le_succ_of_le HN.out.2.2⟩)
            clear hat hcells hfro hM hJ htk hon hi hok
            go_wp2
            go_roundg (L - (k + 1))
            case measure => omega
            case rel => exact ⟨k + 1, _, M, rfl, by omega, rfl, by go_num, HR'⟩
      have y4' : (z == 4) = false := by simpa using y4
      obtain ⟨m, hS, hL⟩ := HC.out.way
      have hg := hL.dup (by omega) hb100
      have C := Lib.hid (c_op hS HC.out.str 6)
      rw [hg.1] at C
      have HG := Lib.hid hg.2
      clear hS hL hg
      go_wp2_with fail
      refine C.out.mono ?_
      rintro e w4 ⟨rfl, hS, hO⟩
      have HR' := Lib.hid (show ∃ os i, CS W w4 p b i os (.slice so on sc) ∧ os.length = on ∧ i ≤ 2 * (k + 1) ∧ os.length ≤ k + 1 from ⟨os, i + 1, ⟨⟨_, hS, HG.out⟩, hO⟩, HN.out.1, by omega, by omega⟩)
      clear C hS hO HG
      go_wp2
      go_roundg (L - (k + 1))
      case measure => omega
      case rel => exact ⟨k + 1, _, on, rfl, by omega, rfl, by go_num, HR'⟩
    · obtain rfl : k = L := by omega
      have HO3 := Lib.hid (show (∃ m i', WSt W wr p m ∧ Lay b i' (os.drop (on - on)) m ∧ i' ≤ 2 * k + (on - on)) ∧ Owns wr W.heap.size 9 (.slice so on sc) (strs os) from by
        obtain ⟨m, hS, hL⟩ := hC.way
        exact ⟨⟨m, i, hS, by rw [Nat.sub_self, List.drop_zero]; exact hL, by omega⟩, hC.str⟩)
      clear hlt HR hC HC hi hok
      have hon30 : on ≤ 30 := by have := HN.out.2.2; omega
      clear HN
      have HON := Lib.hid hon
      clear hon
      go_wp2
      all_goals (try go_quiet (fail))
      go_wp2
      go_loopg [8] on (fun g j wq => ∃ (r : Nat) (jv : Int), g = r ∧ j = .int .i64 jv ∧ jv + 1 = r ∧ r ≤ on ∧ Hid ((∃ m i', WSt W wq p m ∧ Lay b i' (os.drop (on - r)) m ∧ i' ≤ 2 * k + (on - r)) ∧ Owns wq W.heap.size 9 (.slice so on sc) (strs os)))
      case atStart => exact ⟨on, (on : Int) - 1, rfl, by go_num, by omega, Nat.le_refl _, HO3⟩
      case round =>
        obtain ⟨r, jv, hgr, rfl, hjr, hr, HQ⟩ := hrel
        cases r with
        | succ n =>
          subst hgr
          obtain rfl : jv = (n : Int) := by omega
          obtain ⟨⟨m, i', hS, hL, hi'⟩, hO⟩ := HQ.out
          have hlen := HON.out
          obtain ⟨kk, hkk⟩ : ∃ kk, os[on - (n + 1)]? = some kk := ⟨_, List.getElem?_eq_getElem (by omega)⟩
          have hdrop : os.drop (on - (n + 1)) = kk :: os.drop (on - n) := by
            have := List.drop_eq_getElem_cons (l := os) (i := on - (n + 1)) (by omega)
            rw [this, show on - (n + 1) + 1 = on - n by omega]
            rw [List.getElem?_eq_getElem (by omega)] at hkk
            rw [Option.some.inj hkk]
          rw [hdrop] at hL
          have hat := strs_at (os := os) (j := n) (k := kk) (by rw [hlen, show on - 1 - n = on - (n + 1) by omega]; exact hkk) (by omega)
          obtain ⟨g, cap, hgv, hcells, hfro, hgc⟩ := hO.row (by rw [strs_len]; omega)
          simp only [Value.slice.injEq] at hgv
          obtain ⟨rfl, hgl, rfl⟩ := hgv
          have d0 := hcells n _ hat
          obtain ⟨tk, htk⟩ : ∃ tk, txt kk = tk := ⟨_, rfl⟩
          have hg := (hL.close (by omega) hb100).1
          have C := Lib.hid (c_form hS hO (txt kk) (by have := txt_size kk; omega) (by have h1 := hL.l_le; have h2 := hL.most; omega))
          rw [hg.1] at C
          have HG := Lib.hid hg.2
          rw [htk] at d0 C HG
          have z0 : (0 : Int) ≤ (n : Int) := by omega
          have z1 : (n : Int) < (on : Int) := by omega
          clear hS hL hO hg hdrop hcells hfro hgc hgl hat hkk hlen HQ
          go_wp2_with fail
          refine C.out.mono ?_
          rintro e w4 ⟨rfl, hS, hO⟩
          have HQ' := Lib.hid (show (∃ m i', WSt W w4 p m ∧ Lay b i' (os.drop (on - n)) m ∧ i' ≤ 2 * k + (on - n)) ∧ Owns w4 W.heap.size 9 (.slice (some ⟨g, 0, none⟩) on sc) (strs os) from ⟨⟨_, i' + 1, hS, HG.out, by omega⟩, hO⟩)
          clear C hS hO HG
          go_wp2
          go_roundg n
          case measure => omega
          case rel => exact ⟨n, (n : Int) - 1, rfl, by go_num, by omega, by omega, HQ'⟩
        | zero =>
          subst hgr
          obtain rfl : jv = -1 := by omega
          obtain ⟨⟨m, i', hS, hL, hi'⟩, hO⟩ := HQ.out
          rw [Nat.sub_zero, List.drop_of_length_le (by rw [HON.out]; exact Nat.le_refl _)] at hL
          have C := Lib.hid (s_mem hS)
          have HL3 := Lib.hid hL
          have HS3 := Lib.hid hS
          have hlm := hL.len
          clear hS hL hO HQ
          go_wp2_with fail
          refine C.out.mono ?_
          rintro e w5 ⟨cv, rfl, hc, hb⟩
          obtain ⟨co, cc, hcv⟩ := hc.slice
          rw [vals_length, hlm] at hcv
          subst hcv
          obtain ⟨gc, cap, hgv, hcells, _, hgc⟩ := hc.row (by rw [vals_length, hlm]; omega)
          simp only [Value.slice.injEq] at hgv
          obtain ⟨rfl, hgl, rfl⟩ := hgv
          have HCL := Lib.hid (show ∀ (j : Nat) (x : Int), m.mem[j]? = some x → w5.cell? ⟨gc, j, none⟩ = some (.int .i64 x) from fun j x hj => hcells j _ (by rw [show (vals m.mem)[j]? = (m.mem[j]?).map (Value.int .i64) from List.getElem?_map, hj]; rfl))
          have HS5 := Lib.hid (HS3.out.kept hb)
          have D := Lib.hid (s_open HS5.out)
          rw [HL3.out.shut, List.length_nil] at D
          clear C hc hb hcells hgl hgc HS3
          go_wp2_with fail
          refine D.out.mono ?_
          rintro e wz ⟨rfl, hwz⟩
          subst wz
          clear D
          obtain ⟨its, hlaid⟩ := HL3.out.laid
          rw [HL3.out.shut] at hlaid
          have HLD := Lib.hid hlaid
          have hroom := HL3.out.room
          obtain ⟨H, hH⟩ : ∃ H, m.here = H := ⟨_, rfl⟩
          obtain ⟨T, hT⟩ : ∃ T, its.length = T := ⟨_, rfl⟩
          have HT := Lib.hid (And.intro hT hH)
          rw [hH] at hroom
          clear hlaid hH hT hlm
          go_wp2
          go_loopg [10] T (fun g j wq => ∃ (n : Nat), g = T - n ∧ n ≤ T ∧ j = .int .i64 ((b + pos its n : Nat) : Int) ∧ Hid (∃ q, wq = w5.drewN q))
          case atStart => exact ⟨0, rfl, Nat.zero_le _, by rw [pos_zero]; rfl, Lib.hid ⟨0, rfl⟩⟩
          case round =>
            obtain ⟨n, rfl, hn, rfl, HQ⟩ := hrel
            obtain ⟨q, hq⟩ := HQ.out
            have HS6 := Lib.hid (show WSt W wr p m by rw [hq]; exact HS5.out.drewN q)
            have hcell : ∀ (j : Nat) (x : Int), m.mem[j]? = some x → wr.cell? ⟨gc, j, none⟩ = some (.int .i64 x) := fun j x hj => by rw [hq]; exact HCL.out j x hj
            have C := Lib.hid (fun nq : Nat => s_here (HS6.out.drewN nq))
            have D := Lib.hid (s_here HS6.out)
            simp only [HT.out.2] at C D
            have hPl : b + pos its n ≤ 500 := by
              have h5 := HLD.out.now
              have h6 := HT.out.2
              have h7 := pos_end (its := its) (n := n) (by rw [HT.out.1]; exact hn)
              omega
            have hlast := fun h => HLD.out.last (n := n) (by rw [HT.out.1]; exact hn) h
            rw [HT.out.1, HT.out.2] at hlast
            have hitem := fun h => HLD.out.item (n := n) h
            rw [HT.out.1, HT.out.2] at hitem
            obtain ⟨P, hP⟩ : ∃ P, b + pos its n = P := ⟨_, rfl⟩
            simp only [hP] at hlast hitem hPl ⊢
            clear hq
            by_cases hlt : P < H
            · have hn' := hlast hlt
              have z0 : (P : Int) < (H : Int) := by omega
              have z1 : (0 : Int) ≤ (P : Int) := by omega
              have z2 : (P : Int) < 1000 := by omega
              rcases hitem hn' with ⟨a, _, hm, hbr, hp⟩ | ⟨a, v, _, hm, hbr, hm1, hv1, hv2, hp⟩
              · have d0 := hcell _ _ hm
                unfold br at hbr
                have y0 : ¬ a = 3 := fun h => hbr (.inl h)
                have y1 : ¬ a = 4 := fun h => hbr (.inr (.inl h))
                have y2 : ¬ a = 37 := fun h => hbr (.inr (.inr h))
                have y0' : (a == 3) = false := by simpa using y0
                have y1' : (a == 4) = false := by simpa using y1
                have y2' : (a == 37) = false := by simpa using y2
                have hP2 : b + pos its (n + 1) = P + 1 := by omega
                have HP2 := Lib.hid hP2
                clear hlast hitem hm hbr hp hP2 hP hcell C
                go_wp2_with fail
                refine D.out.mono ?_
                rintro e wz ⟨rfl, hwz⟩
                subst wz
                clear D
                go_wp2
                go_roundg (T - (n + 1))
                case measure => omega
                case rel => exact ⟨n + 1, rfl, by omega, by rw [HP2.out]; go_num, HQ⟩
              · have d0 := hcell _ _ hm
                have d1 := hcell _ _ hm1
                obtain ⟨R, hR⟩ : ∃ R, P + 1 = R := ⟨_, rfl⟩
                rw [hR] at d1
                have hP2 : b + pos its (n + 1) = R + 1 := by omega
                have HP2 := Lib.hid hP2
                have HR1 := Lib.hid (And.intro hR hPl)
                obtain ⟨x0, x4, x5, x6, z3, z4, hRl⟩ := nxt hR hPl
                have z5 : ¬ v < (b : Int) := Int.not_lt.2 hv1
                have z5' : decide (v < (b : Int)) = false := decide_eq_false z5
                have z6 : ¬ (H : Int) < v := Int.not_lt.2 hv2
                have z6' : decide ((H : Int) < v) = false := decide_eq_false z6
                clear hlast hitem hm hm1 hp hP2 hP hcell hR
                unfold br at hbr
                rcases hbr with rfl | rfl | rfl
                all_goals
                  go_wp2_with fail
                  refine D.out.mono ?_
                  rintro e wz ⟨rfl, hwz⟩
                  subst wz
                  clear D
                  go_wp2
                  go_quiet ((go_at_call 21; exact Calls.quiet_of_same (C.out _)))
                  clear x0 x4 x5 x6 z5 z6 d0 d1
                  go_wp2
                  go_roundg (T - (n + 1))
                  case measure => omega
                  case rel => exact ⟨n + 1, rfl, by omega, by rw [HP2.out]; have h1 := HR1.out.1; have h2 := HR1.out.2; clear HR1; subst h1; go_num, by obtain ⟨q, e⟩ := HQ.out; rw [e]; exact Lib.hid ⟨_, World.drewN_drewN _ _ _⟩⟩
            · have z0 : decide ((P : Int) < (H : Int)) = false := decide_eq_false (by omega)
              clear hlast hitem hP hcell C
              go_wp2_with fail
              refine D.out.mono ?_
              rintro e wz ⟨rfl, hwz⟩
              subst wz
              clear D
              go_wp2
              go_ret
              exact ⟨rfl, HS6.out.below⟩
end Go.Proofs.YtffiknbdmdljoaaDoor.WeaveClosed
