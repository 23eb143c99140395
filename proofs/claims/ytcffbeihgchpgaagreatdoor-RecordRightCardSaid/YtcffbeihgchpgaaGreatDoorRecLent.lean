
/- Lists of steps that are lent; are they as they were? -/
import Derived.Test.YtcffbeihgchpgaaGreatDoorRecChk
import Derived.Test.YtcffbeihgchpgaaGreatDoorWideAppend
namespace Go.Proofs.YtcffbeihgchpgaaGreatDoor.Rec
open Go.RowKit Book Book.Wide Mem Mach Inn
set_option linter.unusedSimpArgs false
set_option linter.unusedVariables false
theorem flat_back {l : List S} {j : Nat} {u : Value} (h : (l.flatMap seenCells)[j]? = some u) : ∃ x, l[j / 4]? = some x ∧ (seenCells x)[j % 4]? = some u := by
  have hj := (List.getElem?_eq_some_iff.1 h).1
  rw [seen_len] at hj
  obtain ⟨x, hx⟩ : ∃ x, l[j / 4]? = some x := ⟨_, List.getElem?_eq_getElem (by omega)⟩
  have h4 : j % 4 < 4 := Nat.mod_lt _ (by decide)
  obtain ⟨u', hu⟩ : ∃ u', (seenCells x)[j % 4]? = some u' := ⟨_, List.getElem?_eq_getElem (by show j % 4 < 4; exact h4)⟩
  have h1 := flat_at (enc := seenCells) (k := 4) (fun _ => rfl) hx hu
  rw [show j / 4 * 4 + j % 4 = j by omega, h] at h1
  exact ⟨x, hx, by rw [hu]; exact h1.symm⟩
theorem ReadsS.toK {w : World} {v : Value} {l : List S} (h : ReadsS w v l) : ReadsK w 4 v (l.flatMap seenCells) := by
  obtain ⟨ao, cap, e, hc⟩ := h
  refine ⟨ao, l.length, cap, e, seen_len l, fun j u hj => ?_⟩
  obtain ⟨x, hx, hu⟩ := flat_back hj
  obtain ⟨ad, ha, h0, h1, h2, h3⟩ := hc _ x hx
  refine ⟨ad, ha, ?_⟩
  have hm : j % 4 = 0 ∨ j % 4 = 1 ∨ j % 4 = 2 ∨ j % 4 = 3 := by omega
  have ed : ∀ i, ad.add (j / 4 * 4 + i) = ⟨(ad.add (j / 4 * 4)).block, (ad.add (j / 4 * 4)).off + i, none⟩ → i = j % 4 → ad.add j = ⟨(ad.add (j / 4 * 4)).block, (ad.add (j / 4 * 4)).off + i, none⟩ := fun i e hi => by rw [← e, hi, show j / 4 * 4 + j % 4 = j by omega]
  rcases hm with hm | hm | hm | hm
  · rw [hm] at hu
    obtain rfl := Option.some.inj hu
    rw [show ad.add j = ad.add (j / 4 * 4) by rw [show j / 4 * 4 = j by omega]]
    exact h0
  · rw [hm] at hu
    obtain rfl := Option.some.inj hu
    rw [ed 1 (by rw [← Go.Deep.add_add]; rfl) hm.symm]
    exact h1
  · rw [hm] at hu
    obtain rfl := Option.some.inj hu
    rw [ed 2 (by rw [← Go.Deep.add_add]; rfl) hm.symm]
    exact h2
  · rw [hm] at hu
    obtain rfl := Option.some.inj hu
    rw [ed 3 (by rw [← Go.Deep.add_add]; rfl) hm.symm]
    exact h3
set_option maxHeartbeats 4000000 in
theorem copySeens_any (v : Value) (l : List S) (w : World) (h : ReadsS w v l) (hl : l.length ≤ 1000000) :
    Calls Tryz.prog 41 #[v] w fun e w' => ∃ c, e = .returned c ∧ OwnsK w' w.heap.size 55 4 c (l.flatMap seenCells) ∧ Below w.heap.size w w' := by
  obtain ⟨i0, q1, q2, q3, q4⟩ := info_parts Tryz.seenInfo
  have HI := Lib.hid (And.intro q1 (And.intro q2 (And.intro q3 q4)))
  have HR := Lib.hid h.toK
  have HL := Lib.hid (seen_len l)
  obtain ⟨vo, vc, rfl, _⟩ := h
  obtain ⟨n, hn⟩ : ∃ n, l.length = n := ⟨_, rfl⟩
  rw [hn] at HR HL hl ⊢
  clear q1 q2 q3 q4 hn
  go_enter Tryz.func41, Tryz.ntmps41
  go_wp2_with (refine Wide.wpList_append_reads rfl _ _ 37 rfl w.heap.size 55 4 i0 (seenV (0, 0, 0, 0)) 32 Tryz.underlying37 HI.out.1 HI.out.2.1 HI.out.2.2.1 HI.out.2.2.2 rfl (by decide) (.slice none 0 0) 0 [] rfl (OwnsK.nil _ _ _ _) rfl (.slice vo n vc) n (l.flatMap seenCells) rfl HR.out HL.out ?c0 ?c1 ?c2 (Nat.le_refl _) ?_)
  case c0 => exact seen_one l
  case c1 => unfold maxLen; omega
  case c2 => omega
  intro v' w' hown _ hT hN
  have HF := Lib.hid (show OwnsK w' w.heap.size 55 4 v' (l.flatMap seenCells) from by simpa using hown)
  have HG := Lib.hid hT
  obtain ⟨fo, fc, hv'⟩ := HF.out.slice (n := n) HL.out (by decide)
  subst hv'
  clear hown hT hN
  go_wp2
  go_ret
  exact ⟨_, rfl, HF.out, HG.out.below (B := w.heap.size) (fun _ h => by cases h) (Nat.le_refl _)⟩
set_option maxHeartbeats 2000000 in
theorem sameSeensR_any (va vb : Value) (l : List S) (w : World) (ha : ReadsS w va l) (hb : ReadsS w vb l) (hl : l.length ≤ 10000000) :
    Calls Tryz.prog 29 #[va, vb] w fun e w' => e = .returned (.bool true) ∧ ∃ q, w' = w.drewN q := by
  have HA := Lib.hid ha
  have HB := Lib.hid hb
  obtain ⟨ao, ac, rfl, _⟩ := ha
  obtain ⟨bo, bc, rfl, _⟩ := hb
  obtain ⟨n, hn⟩ : ∃ n, l.length = n := ⟨_, rfl⟩
  have HN := Lib.hid hn
  rw [hn] at hl HA HB ⊢
  clear hn
  go_enter Tryz.func29, Tryz.ntmps29
  go_wp2
  go_loopg [5] n (fun g i wr => ∃ j q : Nat, g = n - j ∧ j ≤ n ∧ i = .int .i64 j ∧ wr = w.drewN q)
  case atStart => exact ⟨0, 0, rfl, Nat.zero_le _, rfl, rfl⟩
  case round =>
    obtain ⟨j, q, rfl, hj, rfl, rfl⟩ := hrel
    by_cases hlt : j < n
    · obtain ⟨⟨x0, x1, x2, x3⟩, hx⟩ : ∃ x, l[j]? = some x := ⟨_, List.getElem?_eq_getElem (by rw [HN.out]; exact hlt)⟩
      obtain ⟨ao', ac', e1, hca⟩ := HA.out
      obtain ⟨bo', bc', e2, hcb⟩ := HB.out
      rw [HN.out] at e1 e2
      simp only [Value.slice.injEq, true_and] at e1 e2
      obtain ⟨rfl, rfl⟩ := e1
      obtain ⟨rfl, rfl⟩ := e2
      obtain ⟨aa, rfl, a0, a1, a2, a3⟩ := hca j _ hx
      obtain ⟨ba, rfl, b0, b1, b2, b3⟩ := hcb j _ hx
      dsimp only at a0 a1 a2 a3 b0 b1 b2 b3
      have heq := seen_eq x0 x1 x2 x3
      clear hx hca hcb
      go_wp2
      go_quiet (fail)
      go_wp2
      go_roundg (n - (j + 1))
      case measure => omega
      case rel => exact ⟨j + 1, _, rfl, by omega, by go_num, rfl⟩
    · go_wp2
      go_ret
      exact ⟨rfl, q, rfl⟩
/-- a list with room behind it, in which a mark stands -/
def LentS (w : World) (B g cap : Nat) (l : List S) : Prop := OwnsK w B 55 4 (.slice (some ⟨g, 0, none⟩) (l.length + 1) cap) ((l ++ [(-77, 0, 0, 0)]).flatMap seenCells)
theorem LentS.owns {w : World} {B g cap : Nat} {l : List S} (h : LentS w B g cap l) : OwnsK w B 55 4 (.slice (some ⟨g, 0, none⟩) l.length cap) (l.flatMap seenCells) := by
  have h1 := OwnsK.shorter (m := l.length) h (by decide) (Nat.le_succ _)
  rw [List.flatMap_append, ← seen_len, List.take_left] at h1
  exact h1
theorem LentS.below {w w' : World} {B g cap : Nat} {l : List S} (h : LentS w B g cap l) (hb : Below w.heap.size w w') : LentS w' B g cap l := OwnsK.below h hb
set_option maxHeartbeats 4000000 in
theorem lentSeens_any (v : Value) (l : List S) (w : World) (h : ReadsS w v l) (hl : l.length ≤ 1000) :
    Calls Tryz.prog 26 #[v] w fun e w' => ∃ g cap, e = .returned (.slice (some ⟨g, 0, none⟩) l.length cap) ∧ LentS w' w.heap.size g cap l ∧ l.length + 1 ≤ cap ∧ Below w.heap.size w w' := by
  obtain ⟨i0, q1, q2, q3, q4⟩ := info_parts Tryz.seenInfo
  have HI := Lib.hid (And.intro q1 (And.intro q2 (And.intro q3 q4)))
  have C := Lib.hid (copySeens_any v l w h (by omega))
  have HL := Lib.hid (seen_len l)
  obtain ⟨vo, vc, rfl, _⟩ := h
  obtain ⟨n, hn⟩ : ∃ n, l.length = n := ⟨_, rfl⟩
  have HN := Lib.hid hn
  rw [hn] at C hl HL ⊢
  clear q1 q2 q3 q4 hn
  go_enter Tryz.func26, Tryz.ntmps26
  go_wp2_with fail
  refine C.out.mono ?_
  rintro e w1 ⟨c, rfl, hO, hB⟩
  obtain ⟨co, cc, hcv⟩ := hO.slice (n := n) HL.out (by decide)
  subst hcv
  have hal := (Below.refl w1.heap.size w1).alloc (Nat.le_refl _) (.cells (seenA (-77, 0, 0, 0)) 55)
  have hAN := heap_alloc_new w1 (.cells (seenA (-77, 0, 0, 0)) 55)
  have HO := Lib.hid (hO.below hal)
  have HRD := Lib.hid (show ReadsK (w1.alloc (.cells (seenA (-77, 0, 0, 0)) 55)) 4 (.slice (some ⟨w1.heap.size, 0, none⟩) 1 1) (seenCells (-77, 0, 0, 0)) from ReadsK.of_whole (T := 55) hAN rfl)
  have HB := Lib.hid hB
  have HBA := Lib.hid (hB.trans (hal.mono hB.size))
  clear hO hB C hal hAN
  go_wp2_with (refine Wide.wpList_append_reads rfl _ _ 37 rfl w.heap.size 55 4 i0 (seenV (0, 0, 0, 0)) 32 Tryz.underlying37 HI.out.1 HI.out.2.1 HI.out.2.2.1 HI.out.2.2.2 rfl (by decide) (.slice co n cc) n (l.flatMap seenCells) rfl HO.out HL.out (.slice (some ⟨w1.heap.size, 0, none⟩) 1 1) 1 (seenCells (-77, 0, 0, 0)) rfl HRD.out rfl ?c0 ?c1 ?c2 HBA.out.size ?_)
  case c0 => exact fun u hu => seen_one [(-77, 0, 0, 0)] u (by simpa using hu)
  case c1 => unfold maxLen; omega
  case c2 => omega
  intro v' w2 hO2 _ hS _
  obtain ⟨g, cap, hv', -, -, hcap⟩ := hO2.row (n := n + 1) (by rw [List.length_append, HL.out, Nat.add_mul]; rfl) (by decide) (Nat.succ_pos _)
  subst hv'
  have hLS : LentS w2 w.heap.size g cap l := by
    unfold LentS
    rw [HN.out, List.flatMap_append]
    simpa using hO2
  have HLS := Lib.hid hLS
  have HBF := Lib.hid (HBA.out.trans (hS.below (B := w.heap.size) (fun k hk => (HO.out.block k (by simpa using hk)).1) HBA.out.size))
  have hc1 : (n : Int) ≤ (cap : Int) := by omega
  have HC := Lib.hid hcap
  clear hO2 hS hLS hcap
  go_wp2
  go_ret
  exact ⟨g, cap, rfl, HLS.out, HC.out, HBF.out⟩
set_option maxHeartbeats 2000000 in
theorem staysSeens_any (B g cap : Nat) (vb : Value) (l : List S) (w : World) (h : LentS w B g cap l) (hb : ReadsS w vb l) (hl : l.length ≤ 1000) (hcap : l.length + 1 ≤ cap) :
    Calls Tryz.prog 28 #[.slice (some ⟨g, 0, none⟩) l.length cap, vb] w fun e w' => e = .returned (.bool true) ∧ ∃ q, w' = w.drewN q := by
  have C := Lib.hid (sameSeensR_any _ vb l w (ReadsS.of_owns h.owns) hb (by omega))
  obtain ⟨g', cap', e, hc, -, -⟩ := OwnsK.row h (n := l.length + 1) (by rw [seen_len, List.length_append]; rfl) (by decide) (Nat.succ_pos _)
  simp only [Value.slice.injEq, Option.some.injEq, Addr.mk.injEq, and_true, true_and] at e
  obtain ⟨rfl, rfl⟩ := e
  have k1 := hc (l.length * 4 + 0) (.int .i64 (-77)) (flat_at (enc := seenCells) (k := 4) (fun _ => rfl) (j := l.length) (a := (-77, 0, 0, 0)) (by simp) (i := 0) rfl)
  obtain ⟨vo, vc, rfl, _⟩ := hb
  obtain ⟨n, hn⟩ : ∃ n, l.length = n := ⟨_, rfl⟩
  rw [hn] at C hl hcap k1 ⊢
  have K1 := Lib.hid k1
  have hc1 : (n : Int) + 1 ≤ (cap : Int) := by omega
  have hn0 : (0 : Int) ≤ (n : Int) := by omega
  clear hn h k1 hc
  go_enter Tryz.func28, Tryz.ntmps28
  go_wp2_with fail
  refine C.out.mono ?_
  rintro e w1 ⟨rfl, q, rfl⟩
  clear C
  have k1 : (w.drewN q).cell? ⟨g, n * 4, none⟩ = some (.int .i64 (-77)) := K1.out
  go_wp2
  go_ret
  exact ⟨rfl, q, rfl⟩
end Go.Proofs.YtcffbeihgchpgaaGreatDoor.Rec
