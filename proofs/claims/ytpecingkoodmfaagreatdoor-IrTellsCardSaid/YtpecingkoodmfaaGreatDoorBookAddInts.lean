
/- One list of texts more. -/
import Derived.Test.YtpecingkoodmfaaGreatDoorBookInts
import Derived.Deep.RegionLaw
import Derived.Deep.AppendLies
import Derived.Deep.DrawnRows
namespace Go.Proofs.YtpecingkoodmfaaGreatDoor
open Go.RowKit Book
set_option linter.unusedSimpArgs false
set_option linter.unusedVariables false
set_option maxHeartbeats 1000000 in
theorem copyInts_any (v : Value) (B : Nat) (xs : List Value) (w : World) (h : Owns w B 3 v xs) (h1 : ∀ u ∈ xs, u.oneCell' = true) (hl : xs.length ≤ 1000000) :
    Calls Tryz.prog 55 #[v] w fun e w' => ∃ c, e = .returned c ∧ Owns w' w.heap.size 3 c xs ∧ Below w.heap.size w w' := by
  obtain ⟨i0, q1, q2, q3, q4⟩ := info_parts Tryz.bkIntInfo
  have HI := Lib.hid (And.intro q1 (And.intro q2 (And.intro q3 q4)))
  have HO := Lib.hid h
  have H1 := Lib.hid h1
  obtain ⟨vo, vc, rfl⟩ := h.slice
  clear h h1 q1 q2 q3 q4
  go_enter Tryz.func55, Tryz.ntmps55
  go_wp2_with (at_builtin; refine wpList_append_rows _ rfl _ _ 24 rfl w.heap.size 3 i0 (.int .i64 0) 8 Tryz.underlying24 HI.out.1 HI.out.2.1 HI.out.2.2.1 HI.out.2.2.2 rfl (.slice none 0 0) [] rfl (Owns.nil _ _ _) B _ xs rfl HO.out H1.out ?c3 ?c4 (Nat.le_refl _) ?_)
  case c3 => rw [List.length_nil]; unfold maxLen; omega
  case c4 => rw [List.length_nil]; omega
  intro v' w' hown _ hT _
  have HF := Lib.hid (show Owns w' w.heap.size 3 v' xs from hown)
  have HG := Lib.hid hT
  clear hown hT
  go_wp2
  go_ret
  exact ⟨_, rfl, HF.out, HG.out.below (B := w.heap.size) (fun _ h => by cases h) (Nat.le_refl _)⟩
set_option maxHeartbeats 4000000 in
set_option maxRecDepth 100000 in
theorem bookInts_any (p B : Nat) (cur : Array Value) (vS vW v : Value) (ls : List (Value × List Value)) (xs : List Value) (w : World) (hp : p < B) (hB : B ≤ w.heap.size) (hlt : ls.length < 250)
    (hbk : w.heap[p]? = some (.cells cur 40 (0, 0))) (e0 : cur[2]? = some vS) (e1 : cur[3]? = some vW)
    (bs : List Nat) (hbs : ∀ k ∈ bs, k < w.heap.size) (hk : Kept w B 24 3 goodInts vS vW ls bs) (ho : Owns w B 3 v xs) (hg : goodInts xs) (hn : ∀ k, blk v = some k → k ∉ blocks ls) (hvb : ∀ k, blk v = some k → k ∉ bs) :
    Calls Tryz.prog 15 #[.pointer (some ⟨p, 0, none⟩), v] w fun e w' => e = .returned (.tuple #[]) ∧ ∃ vS' vW', w'.heap[p]? = some (.cells ((cur.setIfInBounds 2 vS').setIfInBounds 3 vW') 40 (0, 0)) ∧
      Kept w' B 24 3 goodInts vS' vW' (ls ++ [(v, xs)]) bs ∧ Stirred w w' (p :: ((blk vS).toList ++ (blk vW).toList)) := by
  obtain ⟨i1, q1, q2, q3, q4⟩ := info_parts Tryz.bkIntSpineInfo
  have HJ := Lib.hid (And.intro q1 (And.intro q2 (And.intro q3 q4)))
  clear q1 q2 q3 q4
  obtain ⟨ao, cap, hv⟩ := hk.lists.spine.slice
  rw [List.length_map] at hv
  obtain ⟨L, hL⟩ : ∃ n, ls.length = n := ⟨_, rfl⟩
  rw [hL] at hv hlt
  subst hv
  obtain ⟨vo, vc, hvv⟩ := ho.slice
  obtain ⟨n, hxn⟩ : ∃ n, xs.length = n := ⟨_, rfl⟩
  rw [hxn] at hvv
  subst hvv
  have HN := Lib.hid (And.intro hL hxn)
  have HK := Lib.hid hk
  have HO := Lib.hid ho
  have HG := Lib.hid hg
  have HD := Lib.hid hn
  have HVB := Lib.hid hvb
  have HBS := Lib.hid hbs
  have HBK := Lib.hid hbk
  have HE := Lib.hid (And.intro e0 e1)
  have c0 := whole_cell hbk e0
  have f0 := whole_frozen hbk 2
  have hal := Lib.hid ((Below.refl w.heap.size w).alloc (Nat.le_refl _) (.cells #[.slice vo n vc] 24))
  have HSP := Lib.hid (hk.lists.spine.below hal.out)
  clear hL hxn hk ho hg hn hvb hbs hbk e0 e1
  have hli : (L : Int) < 250 := by omega
  go_enter Tryz.func15, Tryz.ntmps15
  go_wp2_with (at_builtin; refine wpList_append_two _ rfl _ _ 34 rfl B 24 i1 (.slice none 0 0) 24 Tryz.underlying34 HJ.out.1 HJ.out.2.1 HJ.out.2.2.1 HJ.out.2.2.2 rfl _ _ rfl HSP.out ⟨w.heap.size, 0, none⟩ 1 1 [.slice vo n vc] rfl rfl ?d1 ?d2 (Nat.zero_lt_succ 0) ?d3 ?d4 ?d5 ?_)
  case d1 => intro j u hj; rcases j with _ | j <;> simp at hj; subst hj; simp [Addr.add]
  case d2 => intro u hu; simp at hu; subst hu; rfl
  case d3 => rw [List.length_map, HN.out.1]; show L + 1 ≤ maxLen; unfold maxLen; omega
  case d4 => rw [List.length_map, HN.out.1]; show (L + 1) * 24 ≤ _; omega
  case d5 => simp; omega
  intro v' w1 hO1 _ hT1 hN1
  have hst : Stirred w w1 (blk (.slice ao L cap)).toList := ((Stirred.of_below hal.out []).more (fun _ h => (by cases h))).trans hT1 (fun k hk => .inl hk)
  have hbk1 := hst.whole HBK.out (fun hm => by have := (HK.out.lists.spine.block p (by simpa using hm)).1; omega)
  have k0 := whole_cell hbk1 HE.out.1
  have f1 := whole_frozen hbk1 2
  obtain ⟨so, sc, hsv⟩ := hO1.slice
  rw [List.length_append, List.length_map, HN.out.1] at hsv
  change v' = .slice so (L + 1) sc at hsv
  subst hsv
  have st2 : Stirred w (w1.setCell ⟨p, 2, none⟩ (.slice so (L + 1) sc)) (p :: (blk (.slice ao L cap)).toList) := (hst.more (fun k hk => List.mem_cons_of_mem _ hk)).trans (Stirred.setCell w1 ⟨p, 2, none⟩ _) (fun k hk => .inl (by simp at hk; simp [hk]))
  have hO2 : Owns (w1.setCell ⟨p, 2, none⟩ (.slice so (L + 1) sc)) B 24 (.slice so (L + 1) sc) (ls.map (·.1) ++ [.slice vo n vc]) := hO1.touch (Stirred.setCell w1 ⟨p, 2, none⟩ _) (fun k hk hm => by
    have := (hO1.block k hk).1
    simp at hm
    omega)
  have hbk2 := whole_set hbk1 2 (.slice so (L + 1) sc)
  obtain ⟨cs, hh⟩ := HK.out.half HBS.out (by decide) hp (by rw [HN.out.1]; omega) HO.out HG.out HD.out HVB.out hO2 st2 (by
    rcases hN1 with e | ⟨k, e, hk⟩
    · exact .inl e
    · exact .inr ⟨k, e, by have h9 := hal.out.size; simp at h9 hk; omega⟩)
  have c1 := whole_cell hbk2 (show (cur.setIfInBounds 2 (.slice so (L + 1) sc))[3]? = some vW by rw [Array.getElem?_setIfInBounds_ne (by decide)]; exact HE.out.2)
  have f1' := whole_frozen hbk2 3
  have hB2 := Nat.le_trans hB st2.size
  obtain ⟨w2, hw2⟩ : ∃ w2, w1.setCell ⟨p, 2, none⟩ (.slice so (L + 1) sc) = w2 := ⟨_, rfl⟩
  rw [hw2] at st2 hO2 hbk2 hh c1 f1' hB2
  have hcl : (cs.map (·.1)).length = L := by have := congrArg List.length hh.eq; simp at this; rw [List.length_map, this, HN.out.1]
  obtain ⟨wo, wc, hwv⟩ := hh.was.slice
  rw [hcl] at hwv
  subst hwv
  have HH := Lib.hid hh
  have HOB := Lib.hid (hh.was.ownBlock_eq hh.wasRow)
  have HB2 := Lib.hid hbk2
  have ST2 := Lib.hid st2
  have HCL := Lib.hid hcl
  have C := Lib.hid (copyInts_any (.slice vo n vc) B xs w2.drew ((hh.lists.list _ (List.mem_append_right _ (List.mem_singleton.2 rfl))).touch (Stirred.drew _ []) (fun _ _ => List.not_mem_nil)) (by obtain ⟨ss, h1, _⟩ := HG.out; rw [h1]; intro u hu; simp at hu; obtain ⟨a, _, rfl⟩ := hu; rfl) (by obtain ⟨ss, h1, h2⟩ := HG.out; rw [h1, List.length_map]; exact h2))
  clear hO1 hT1 hN1 hst hbk1 st2 hO2 hbk2 hh hcl c0 f0
  go_wp2_with fail
  clear hw2 k0 f1
  go_region_law (first
    | (refine step_append_lies _ (by rfl) _ _ 34 (by rfl) B 24 i1 (.slice none 0 0) 1 24 Tryz.underlying34 HJ.out.1 HJ.out.2.1 HJ.out.2.2.1 HJ.out.2.2.2 rfl (by omega) (.slice wo L wc) L (cs.map (·.1)) (by rfl) HW3.out ⟨w3.heap.size, 0, none⟩ 1 1 [.slice co n cc] (by rfl) (by rfl) (news_one _ _ _) (by simp [Value.oneCell']) (by omega) (by unfold maxLen; omega) (by omega) (by simp; omega) (w3.heap.size + 1) (by simp) ?_; intro g ncap w4 hown hgrow hat hlt4; rw [HOB.out] at hgrow hat; have H4 := HH.out.grown hp HB2.out HB3.out hgrow; have c4 := whole_cell H4.2 (show (cur.setIfInBounds 2 (.slice so (L + 1) sc))[3]? = some (.slice wo L wc) by rw [Array.getElem?_setIfInBounds_ne (by decide)]; exact HE.out.2); have f4 := whole_frozen H4.2 3; have HOW := Lib.hid hown; have HGR := Lib.hid hgrow; have HAT := Lib.hid hat; clear hown hgrow hat H4)
    | (go_simp; go_at_call 55; refine C.out.mono ?_; rintro e w3 ⟨c, rfl, hc, hb⟩; obtain ⟨co, cc, hcv⟩ := hc.slice; rw [HN.out.2] at hcv; subst hcv; have HC3 := Lib.hid hc; have HB3 := Lib.hid ((Below.refl w2.heap.size w2).drew.trans hb); clear hc hb; have c1 := (Stirred.of_below HB3.out []).cell List.not_mem_nil c1; have c1a := (Stirred.of_below ((Below.refl w3.heap.size w3).alloc (Nat.le_refl _) (.cells #[.slice co n cc] 24)) []).cell List.not_mem_nil c1; have HW3 := Lib.hid (show World.ownsRow (w3.alloc (.cells #[.slice co n cc] 24)) B 24 1 (.slice wo L wc) L (cs.map (·.1)) from (by have h9 := (HH.out.was.below HB3.out).below ((Below.refl w3.heap.size w3).alloc (Nat.le_refl _) (.cells #[.slice co n cc] 24)); replace h9 := h9.to_row HH.out.wasRow; rw [HCL.out] at h9; exact h9)); have hB3 := Nat.le_trans hB2 HB3.out.size))
  all_goals
    have HF : Owns w4 B 24 (.slice (some ⟨g, 0, none⟩) (L + 1) ncap) (cs.map (·.1) ++ [.slice co n cc]) := by
      exact Owns.of_row HOW.out
    have hcl := HH.out.close (j := 3) (by decide) hp hB2 HB2.out HB3.out HC3.out HF HGR.out (by
      rcases HAT.out with e | e
      · exact .inl (by rw [HF.capAt (by simp)]; first | exact e.symm | exact e)
      · exact .inr ⟨g, HF.capAt (by simp), by have := HB3.out.size; omega⟩) (fun k hk => Nat.lt_of_lt_of_le (HBS.out k hk) ST2.out.size)
    have HR := Lib.hid hcl
    clear HF hcl c4 f4
    go_wp2
    go_end0
    exact ⟨rfl, _, _, HR.out.2.1, HR.out.1, ((ST2.out.more (fun k hk => by rcases List.mem_cons.1 hk with rfl | hk; exact List.mem_cons_self; exact List.mem_cons_of_mem _ (List.mem_append_left _ hk))).trans HR.out.2.2 (fun k hk => .inl (by rcases List.mem_cons.1 hk with rfl | hk; exact List.mem_cons_self; exact List.mem_cons_of_mem _ (List.mem_append_right _ hk))))⟩
end Go.Proofs.YtpecingkoodmfaaGreatDoor
