/- PileCuts: the walk. -/
import Derived.Test.YtpklbffphdfpdaaPileBackW
import Derived.Deep.LoopGhost
import Derived.Deep.DeepCutAuto
import Derived.Deep.CutBlock
namespace Go.Proofs.Ytpklbffphdfpdaa.PileCuts
open Go.RowKit Book Mem
set_option linter.unusedSimpArgs false
set_option linter.unusedVariables false
theorem cutTo_at {l : List Int} {n k : Nat} (hk : k < n) : (vals (cutTo l n))[k]? = some (.int .i64 (if h : k < l.length then l[k] else 0)) := by
  simp only [vals, List.getElem?_map]
  unfold cutTo
  by_cases h : k < l.length
  · rw [List.getElem?_append_left (by rw [List.length_take]; omega), List.getElem?_take, if_pos hk, List.getElem?_eq_getElem h, dif_pos h]; rfl
  · rw [List.getElem?_append_right (by rw [List.length_take]; omega), List.getElem?_replicate, if_pos (by rw [List.length_take]; omega), dif_neg h]; rfl
theorem cutTo_back {l : List Int} {n : Nat} (h : l.length ≤ n) : cutTo (cutTo l n) l.length = l := by
  rw [cutTo_less (by rw [cutTo_length]; exact h), cutTo_more h, List.take_left]
set_option maxHeartbeats 4000000 in
set_option maxRecDepth 100000 in
theorem main (v : Value) (l : List Int) (n : Nat) (W : World) (h1 : Reads W v l) (hcap : ∃ ao cap, v = .slice ao l.length cap ∧ l.length ≤ cap) (hl : l.length ≤ 60) (hn : n ≤ 100) :
    Calls Try.prog 6 #[v, .int .i64 n] W (Yes W) := by
  have HR := Lib.hid h1
  obtain ⟨o1, c1, rfl, hc1⟩ := hcap
  obtain ⟨L, hL⟩ : ∃ n, l.length = n := ⟨_, rfl⟩
  have HL := Lib.hid hL
  rw [hL] at HR hl hc1 ⊢
  clear h1 hL
  have C := Lib.hid (alive_any W)
  have e1 : decide (60 < (L : Int)) = false := decide_eq_false (by omega)
  have e2 : decide ((n : Int) < 0) = false := decide_eq_false (by omega)
  have e3 : decide (100 < (n : Int)) = false := decide_eq_false (by omega)
  go_enter Try.func6, Try.ntmps6
  go_wp2_with fail
  refine C.out.mono ?_
  rintro e w1 ⟨rfl, hb⟩
  have HB1 := Lib.hid hb
  clear C hb e1 e2 e3
  have C := Lib.hid (show Calls Try.prog 9 #[.int .i64 100, .slice o1 L c1] w1 (MadeP w1 100 (l.take 100)) from new_any 100 100 (by decide) (.slice o1 L c1) l w1 (HR.out.below HB1.out))
  rw [List.take_of_length_le (by rw [HL.out]; omega)] at C
  go_wp2_with fail
  refine C.out.mono ?_
  rintro e w2 ⟨p, g, rfl, hP, hb⟩
  have HP2 := Lib.hid (hP.from HB1.out.size)
  have HB2 := Lib.hid (HB1.out.trans (hb.mono HB1.out.size))
  clear C hP hb HB1
  have C := Lib.hid (cut_yes HP2.out n hn)
  go_wp2_with fail
  refine C.out.mono ?_
  rintro e w3 ⟨rfl, hP, hs⟩
  have HP3 := Lib.hid hP
  have HB3 := Lib.hid (HP2.out.past HB2.out (fun _ h => h) hs)
  clear C hP hs HP2 HB2
  have C1 := Lib.hid (len_any HP3.out)
  rw [cutTo_length] at C1
  have C2 := Lib.hid (show Calls Try.prog 16 #[.pointer (some ⟨p, 0, none⟩), .int .i64 101] w3 _ from cut_no HP3.out 101 (by omega))
  have C3 := Lib.hid (show Calls Try.prog 16 #[.pointer (some ⟨p, 0, none⟩), .int .i64 (-1)] w3 _ from cut_no HP3.out (-1) (by omega))
  go_wp2_with fail
  refine C1.out.mono ?_
  rintro e wz ⟨rfl, hwz⟩
  subst wz
  go_wp2_with fail
  refine C2.out.mono ?_
  rintro e wz ⟨rfl, hwz⟩
  subst wz
  go_wp2_with fail
  refine C3.out.mono ?_
  rintro e wz ⟨rfl, hwz⟩
  subst wz
  clear C1 C2 C3
  have C := Lib.hid (all_any HP3.out)
  go_wp2_with fail
  refine C.out.mono ?_
  rintro e w4 ⟨a, rfl, hO, hb⟩
  obtain ⟨ao, ac, e⟩ := hO.slice
  rw [vals_length, cutTo_length] at e
  subst e
  have HO4 := Lib.hid hO
  have HP4 := Lib.hid (HP3.out.below hb)
  have HB4 := Lib.hid (HB3.out.trans (hb.mono HB3.out.size))
  have HR4 := Lib.hid (HR.out.below HB4.out)
  clear C hO hb HP3 HB3
  go_wp2
  go_loopg [7] n (fun g' k wr => ∃ q : Nat, g' = n - q ∧ q ≤ n ∧ k = .int .i64 q ∧ wr = w4)
  case atStart => exact ⟨0, rfl, Nat.zero_le _, rfl, rfl⟩
  case round =>
    obtain ⟨q, rfl, hq, rfl, rfl⟩ := hrel
    by_cases hlt : q < n
    · have hq0 : (0 : Int) ≤ (q : Int) := Int.natCast_nonneg _
      have hq1 : (q : Int) < (n : Int) := by omega
      obtain ⟨ga, ca, e, hc, _, _⟩ := HO4.out.row (by rw [vals_length, cutTo_length]; omega)
      rw [vals_length, cutTo_length] at e
      simp only [Value.slice.injEq, true_and] at e
      obtain ⟨rfl, rfl⟩ := e
      have k1 := hc q _ (cutTo_at hlt)
      clear hc
      by_cases hql : q < L
      · rw [dif_pos (by rw [HL.out]; exact hql)] at k1
        obtain ⟨x, hx⟩ : ∃ x, l[q]? = some x := ⟨_, List.getElem?_eq_getElem (by rw [HL.out]; exact hql)⟩
        rw [show l[q]'(by rw [HL.out]; exact hql) = x by rw [List.getElem?_eq_getElem (by rw [HL.out]; exact hql)] at hx; simpa using hx] at k1
        obtain ⟨_, _, e, hcell⟩ := HR4.out
        obtain ⟨ad, ha, k2⟩ := hcell q x hx
        simp only [Value.slice.injEq] at e
        obtain ⟨rfl, -, rfl⟩ := e
        subst ha
        have hq2 : (q : Int) < (L : Int) := by omega
        clear hcell hx
        go_wp2
        go_roundg (n - (q + 1))
        case measure => omega
        case rel => exact ⟨q + 1, rfl, by omega, by go_num, rfl⟩
      · rw [dif_neg (by rw [HL.out]; exact hql)] at k1
        have hq2 : decide ((q : Int) < (L : Int)) = false := decide_eq_false (by omega)
        go_wp2
        go_roundg (n - (q + 1))
        case measure => omega
        case rel => exact ⟨q + 1, rfl, by omega, by go_num, rfl⟩
    · obtain rfl : q = n := by omega
      clear HO4
      by_cases hnl : L ≤ q
      · have e1 : decide ((L : Int) ≤ (q : Int)) = true := decide_eq_true (by omega)
        have C := Lib.hid (cut_yes HP4.out L (by omega))
        rw [show cutTo (cutTo l q) L = l by rw [← HL.out]; exact cutTo_back (by rw [HL.out]; exact hnl)] at C
        go_wp2_with fail
        refine C.out.mono ?_
        rintro e w5 ⟨rfl, hP, hs⟩
        have HP5 := Lib.hid hP
        have HB5 := Lib.hid (HP4.out.past HB4.out (fun _ h => h) hs)
        clear C hP hs HP4 HB4
        have C := Lib.hid (all_any HP5.out)
        go_wp2_with fail
        refine C.out.mono ?_
        rintro e w7 ⟨b, rfl, hO, hb⟩
        have HB7 := Lib.hid (HB5.out.trans (hb.mono HB5.out.size))
        have C := Lib.hid (sameReads_any b (.slice o1 L c1) l w7 (Reads.of_owns hO) (HR.out.below HB7.out) (by rw [HL.out]; omega))
        clear hO hb
        go_wp2_with fail
        refine C.out.mono ?_
        rintro e w8 ⟨rfl, qq, hqq⟩
        have hb : Below w7.heap.size w7 w8 := by rw [hqq]; exact bk_below_drewN _ _ _
        have HB8 := Lib.hid (HB7.out.trans (hb.mono HB7.out.size))
        clear C hqq hb
        go_wp2
        go_ret
        exact ⟨rfl, HB8.out⟩
      · have e1 : decide ((L : Int) ≤ (q : Int)) = false := decide_eq_false (by omega)
        obtain ⟨_, _, e, hcell⟩ := HR4.out
        obtain ⟨ad, ha, _⟩ := hcell 0 (l[0]'(by rw [HL.out]; omega)) (List.getElem?_eq_getElem _)
        simp only [Value.slice.injEq] at e
        obtain ⟨rfl, -, rfl⟩ := e
        subst ha
        have e2 : (q : Int) ≤ (L : Int) := by omega
        have e3 : (0 : Int) ≤ (q : Int) := by omega
        have e4 : (L : Int) ≤ (c1 : Int) := by omega
        clear hcell
        have hR5 : ∀ w', Below W.heap.size W w' → Reads w' (.slice (some (ad.add q)) (L - q) (c1 - q)) (l.drop q) := fun w' hb => by
          exact (HR.out.below hb).drop q (c1 - q)
        have C := Lib.hid (push_yes HP4.out (.slice (some (ad.add q)) (L - q) (c1 - q)) (l.drop q) (fun w' hs => hR5 w' (HP4.out.past HB4.out (fun _ h => h) hs)) (by rw [cutTo_length, List.length_drop, HL.out]; omega))
        rw [show cutTo l q ++ l.drop q = l by rw [cutTo_less (by rw [HL.out]; omega), List.take_append_drop]] at C
        clear hR5
        go_wp2_with fail
        refine C.out.mono ?_
        rintro e w5 ⟨rfl, hP, hs⟩
        have HP5 := Lib.hid hP
        have HB5 := Lib.hid (HP4.out.past HB4.out (fun _ h => h) hs)
        clear C hP hs HP4 HB4
        have C := Lib.hid (all_any HP5.out)
        go_wp2_with fail
        refine C.out.mono ?_
        rintro e w7 ⟨b, rfl, hO, hb⟩
        have HB7 := Lib.hid (HB5.out.trans (hb.mono HB5.out.size))
        have C := Lib.hid (sameReads_any b (.slice (some ad) L c1) l w7 (Reads.of_owns hO) (HR.out.below HB7.out) (by rw [HL.out]; omega))
        clear hO hb
        go_wp2_with fail
        refine C.out.mono ?_
        rintro e w8 ⟨rfl, qq, hqq⟩
        have hb : Below w7.heap.size w7 w8 := by rw [hqq]; exact bk_below_drewN _ _ _
        have HB8 := Lib.hid (HB7.out.trans (hb.mono HB7.out.size))
        clear C hqq hb
        go_wp2
        go_ret
        exact ⟨rfl, HB8.out⟩
theorem early (o1 : Option Addr) (L c1 : Nat) (n : Int) (W : World) (h : 60 < L ∨ n < 0 ∨ 100 < n) :
    Calls Try.prog 6 #[.slice o1 L c1, .int .i64 n] W (Yes W) := by
  have C := Lib.hid (alive_any W)
  by_cases h1 : 60 < L
  · have e1 : decide (60 < (L : Int)) = true := decide_eq_true (by omega)
    clear h h1
    go_enter Try.func6, Try.ntmps6
    go_wp2_with fail
    refine C.out.mono ?_
    rintro e w1 ⟨rfl, hb⟩
    have HB := Lib.hid hb
    clear hb C
    go_wp2
    go_ret
    exact ⟨rfl, HB.out⟩
  · have e1 : decide (60 < (L : Int)) = false := decide_eq_false (by omega)
    by_cases h2 : n < 0
    · have e2 : decide (n < 0) = true := decide_eq_true h2
      clear h h1
      go_enter Try.func6, Try.ntmps6
      go_wp2_with fail
      refine C.out.mono ?_
      rintro e w1 ⟨rfl, hb⟩
      have HB := Lib.hid hb
      clear hb C
      go_wp2
      go_ret
      exact ⟨rfl, HB.out⟩
    · have e2 : decide (n < 0) = false := decide_eq_false h2
      have e3 : decide (100 < n) = true := decide_eq_true (by omega)
      clear h h1 h2
      go_enter Try.func6, Try.ntmps6
      go_wp2_with fail
      refine C.out.mono ?_
      rintro e w1 ⟨rfl, hb⟩
      have HB := Lib.hid hb
      clear hb C
      go_wp2
      go_ret
      exact ⟨rfl, HB.out⟩
theorem walk (v : Value) (l : List Int) (n : Int) (W : World) (h1 : (Reads W v l ∧ ∃ ao cap, v = .slice ao l.length cap ∧ l.length ≤ cap) ∧ ∀ x ∈ l, (Lit.int .i64 x).wf = true) (w1 : (Lit.int .i64 n).wf = true) :
    Calls Try.prog 6 #[v, .int .i64 n] W (Yes W) := by
  by_cases h : 60 < l.length ∨ n < 0 ∨ 100 < n
  · obtain ⟨⟨_, o1, c1, rfl, _⟩, _⟩ := h1
    exact early _ _ _ n W h
  · obtain ⟨k, rfl⟩ : ∃ k : Nat, n = (k : Int) := ⟨n.toNat, by omega⟩
    exact main v l k W h1.1.1 h1.1.2 (by omega) (by omega)
end Go.Proofs.Ytpklbffphdfpdaa.PileCuts
