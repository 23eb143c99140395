
/- SourceWords: the walk. -/
import Derived.Test.YtmbblnebkcekdaaSrcAlive
import Derived.OwnWalk
namespace Go.Proofs.Ytmbblnebkcekdaa.SourceWords
open Go.RowKit Book Src
set_option linter.unusedSimpArgs false
set_option linter.unusedVariables false
/-- a word: not empty, no blank in it -/
def good (s : ByteArray) : Prop := 0 < s.size ∧ ∀ k (h : k < s.size), isBlank s[k] = false
theorem good_wS {t : ByteArray} {a : Nat} (ha : a ≤ t.size) (hb : wB t a = true) : good (wS t a) :=
  ⟨by rw [wS_size ha]; have := wTo_yes ha hb; omega, fun k h => wS_byte ha h⟩
/-- words, a blank behind each -/
def glue (ws : List ByteArray) : List UInt8 := ws.flatMap fun s => s.data.toList ++ [32]
theorem glue_snoc (ws : List ByteArray) (s : ByteArray) : glue (ws ++ [s]) = glue ws ++ (s.data.toList ++ [32]) := by simp [glue]
def off (ws : List ByteArray) (j : Nat) : Nat := (glue (ws.take j)).length
theorem glue_at (ws : List ByteArray) (j : Nat) (s : ByteArray) (h : ws[j]? = some s) : ∃ post, glue ws = glue (ws.take j) ++ (s.data.toList ++ [32]) ++ post := by
  have hj := (List.getElem?_eq_some_iff.1 h).1
  have e : ws = ws.take j ++ s :: ws.drop (j + 1) := by
    have h1 := List.take_append_drop j ws
    rw [List.drop_eq_getElem_cons hj] at h1
    have h2 : ws[j] = s := by rw [List.getElem?_eq_getElem hj] at h; simpa using h
    rw [h2] at h1
    exact h1.symm
  refine ⟨glue (ws.drop (j + 1)), ?_⟩
  have e2 : glue ws = glue (ws.take j ++ s :: ws.drop (j + 1)) := congrArg glue e
  rw [e2]
  simp [glue]
theorem off_succ (ws : List ByteArray) (j : Nat) (s : ByteArray) (h : ws[j]? = some s) : off ws (j + 1) = off ws j + s.size + 1 := by
  unfold off
  rw [List.take_add_one, h, Option.toList_some, glue_snoc, List.length_append, List.length_append, len_is]
  rfl
/-- the j-th word is read there -/
theorem read_word (J : ByteArray) (ws : List ByteArray) (hJ : J.data.toList = glue ws) (hg : ∀ s ∈ ws, good s) (j : Nat) (s : ByteArray) (h : ws[j]? = some s) :
    wS J (off ws j) = s ∧ wB J (off ws j) = true ∧ wAt J (off ws j) = off ws (j + 1) ∧ off ws j + s.size + 1 ≤ J.size := by
  obtain ⟨post, hp⟩ := glue_at ws j s h
  obtain ⟨g0, g1⟩ := hg s (List.mem_of_getElem? h)
  have hsz : off ws j + s.size + 1 ≤ J.size := by
    rw [← len_is J, hJ, hp, List.length_append, List.length_append, List.length_append, len_is]
    show (glue (ws.take j)).length + s.size + 1 ≤ _
    simp only [List.length_cons, List.length_nil]
    omega
  have hbyte : ∀ i (hi : i < s.size), ∃ h' : off ws j + i < J.size, J[off ws j + i]'h' = s[i] := fun i hi => by
    have h' : off ws j + i < J.size := by omega
    refine ⟨h', ?_⟩
    have h1 : J.data.toList[off ws j + i]? = some (J[off ws j + i]'h') := by
      rw [List.getElem?_eq_getElem (by rw [len_is]; exact h')]; rfl
    have h2 : J.data.toList[off ws j + i]? = some s[i] := by
      rw [hJ, hp, List.append_assoc, List.getElem?_append_right (by show (glue (ws.take j)).length ≤ _; unfold off; omega), show off ws j + i - (glue (ws.take j)).length = i by unfold off; omega]
      rw [List.append_assoc, List.getElem?_append_left (by rw [len_is]; exact hi), List.getElem?_eq_getElem (by rw [len_is]; exact hi)]
      rfl
    rw [h1] at h2
    simpa using h2
  have hblank : ∃ h' : off ws j + s.size < J.size, J[off ws j + s.size]'h' = 32 := by
    have h' : off ws j + s.size < J.size := by omega
    refine ⟨h', ?_⟩
    have h1 : J.data.toList[off ws j + s.size]? = some (J[off ws j + s.size]'h') := by
      rw [List.getElem?_eq_getElem (by rw [len_is]; exact h')]; rfl
    have h2 : J.data.toList[off ws j + s.size]? = some 32 := by
      rw [hJ, hp, List.append_assoc, List.getElem?_append_right (by show (glue (ws.take j)).length ≤ _; unfold off; omega), show off ws j + s.size - (glue (ws.take j)).length = s.size by unfold off; omega]
      rw [List.append_assoc, List.getElem?_append_right (by rw [len_is]; exact Nat.le_refl _), len_is, Nat.sub_self]
      rfl
    rw [h1] at h2
    simpa using h2
  have hfrom : wFrom J (off ws j) = off ws j := by
    unfold wFrom
    obtain ⟨h', e⟩ := hbyte 0 g0
    refine ff_hit (by omega) ?_
    have e' : J[off ws j]'(by omega) = s[0] := by simpa using e
    rw [e']
    unfold noBlank
    rw [g1 0 g0]; rfl
  have hto : wTo J (off ws j) = off ws j + s.size := by
    unfold wTo
    rw [hfrom]
    refine ff_is (by omega) (by omega) (fun i hi h1 h2 => ?_) (fun hh => ?_)
    · obtain ⟨h', e⟩ := hbyte (i - off ws j) (by omega)
      have e' : J[i]'hi = s[i - off ws j]'(by omega) := by
        rw [← e]
        congr 1
        omega
      rw [e']
      exact g1 _ _
    · obtain ⟨h', e⟩ := hblank
      rw [e]; rfl
  refine ⟨?_, ?_, ?_, hsz⟩
  · unfold wS
    rw [hfrom, hto]
    apply ByteArray.ext
    apply Array.ext
    · show (J.extract (off ws j) (off ws j + s.size)).size = s.size
      rw [ByteArray.size_extract]; omega
    · intro i h1 h2
      have h3 : i < (J.extract (off ws j) (off ws j + s.size)).size := h1
      show (J.extract (off ws j) (off ws j + s.size))[i]'h3 = s[i]'h2
      rw [ByteArray.getElem_extract]
      exact (hbyte i h2).2
  · unfold wB; rw [hfrom]; exact decide_eq_true (by omega)
  · unfold wAt
    rw [hto, off_succ ws j s h]
    omega
theorem read_end (J : ByteArray) (ws : List ByteArray) (hJ : J.data.toList = glue ws) : off ws ws.length = J.size ∧ wB J (off ws ws.length) = false := by
  have e : off ws ws.length = J.size := by unfold off; rw [List.take_length, ← hJ, len_is]
  refine ⟨e, ?_⟩
  unfold wB wFrom
  rw [e, ff_end (Nat.le_refl _)]
  exact decide_eq_false (Nat.lt_irrefl _)
theorem strInfo : (Try.prog.info? 9).map (fun i => (i.zero, i.size, i.bytes)) = some (some (.string ⟨#[]⟩), 1, 16) := by kernel_rfl
theorem str_one (ws : List ByteArray) : ∀ u ∈ ws.map Value.string, u.oneCell' = true := fun u hu => by rw [List.mem_map] at hu; obtain ⟨_, _, rfl⟩ := hu; rfl
theorem own_off {w : World} {p a B : Nat} {t : ByteArray} {v : Value} {xs : List Value} (h : At w p t a) (ho : Owns w B 9 v xs) : ∀ k, blk v = some k → k ≠ p := by
  rintro k hk rfl
  obtain ⟨_, _, c, hc⟩ := ho.block k hk
  rw [h.own] at hc
  simp at hc
theorem not_empty {s : ByteArray} (h : good s) : (s.toList == (⟨#[]⟩ : ByteArray).toList) = false ∧ (s.toList == ([] : List UInt8)) = false := by
  have hne : s ≠ ⟨#[]⟩ := fun e => by
    have h1 := h.1
    rw [e] at h1
    exact Nat.lt_irrefl 0 h1
  constructor
  · rw [beq_eq_false_iff_ne]
    intro e
    rw [ByteArray.toList_eq, ByteArray.toList_eq] at e
    exact hne (ByteArray.ext (Array.toList_inj.1 e))
  · rw [beq_eq_false_iff_ne]
    intro e
    rw [ByteArray.toList_eq] at e
    exact hne (ByteArray.ext (Array.toList_inj.1 e))
/-- what is known of the words read so far -/
structure Read (ws : List ByteArray) (J : ByteArray) (j a : Nat) : Prop where
  len : ws.length = j
  eq : J.data.toList = glue ws
  fine : ∀ s ∈ ws, good s
  small : J.size ≤ a + j
  past : j ≤ a
theorem Read.more {ws : List ByteArray} {J : ByteArray} {j a : Nat} {t : ByteArray} (h : Read ws J j a) (ha : a ≤ t.size) (hb : wB t a = true) : Read (ws ++ [wS t a]) (J ++ (wS t a ++ ⟨#[32]⟩)) (j + 1) (wAt t a) := by
  have h1 := wTo_yes ha hb
  have h2 := wS_size ha
  have h3 := wTo_le ha
  have h4 : a ≤ wFrom t a := ff_ge t noBlank a
  have h5 := h.small
  have h6 := h.past
  have hg := good_wS ha hb
  refine ⟨by rw [List.length_append, h.len]; rfl, ?_, fun s hs => ?_, ?_, ?_⟩
  · rw [ByteArray.data_append, ByteArray.data_append, Array.toList_append, Array.toList_append, h.eq, glue_snoc]
  · rcases List.mem_append.1 hs with hs | hs
    · exact h.fine s hs
    · rw [List.mem_singleton.1 hs]; exact hg
  · rw [ByteArray.size_append, ByteArray.size_append, h2]
    show J.size + (wTo t a - wFrom t a + 1) ≤ _
    unfold wAt
    omega
  · unfold wAt
    omega
set_option maxHeartbeats 8000000 in
set_option maxRecDepth 100000 in
theorem main (t : ByteArray) (W : World) (ht : t.size ≤ 500) :
    Calls Try.prog 4 #[.string t] W (Yes W) := by
  have e1 : decide ((500 : Int) < (t.size : Int)) = false := decide_eq_false (by omega)
  have HT := Lib.hid ht
  obtain ⟨i0, q1, q2, q3, q4⟩ := info_parts strInfo
  have HI := Lib.hid (And.intro q1 (And.intro q2 (And.intro q3 q4)))
  have C := Lib.hid (alive8 W)
  clear ht q1 q2 q3 q4
  go_enter Try.func4, Try.ntmps4
  go_wp2_with fail
  refine C.out.mono ?_
  rintro e w1 ⟨rfl, hb⟩
  have HB1 := Lib.hid hb
  have C := Lib.hid (new_any t w1)
  clear hb e1
  go_wp2_with fail
  refine C.out.mono ?_
  rintro e w2 ⟨p, rfl, hA, hp, hb⟩
  have HP := Lib.hid (Nat.le_trans HB1.out.size hp)
  have HA2 := Lib.hid hA
  have HB2 := Lib.hid (HB1.out.trans (hb.mono HB1.out.size))
  clear hb hA hp C HB1
  go_wp2
  go_loopg [4, 5, 6] (t.size + 2) (fun g s l i wr => ∃ (j a : Nat) (J : ByteArray) (ws : List ByteArray), g = t.size + 2 - j ∧ i = .int .i64 j ∧ s = .string J ∧ Hid (Read ws J j a) ∧ Hid (Owns wr W.heap.size 9 l (ws.map Value.string)) ∧ Hid (At wr p t a) ∧ Hid (Below W.heap.size W wr))
  case atStart => exact ⟨0, 0, ⟨#[]⟩, [], rfl, rfl, rfl, Lib.hid ⟨rfl, rfl, fun _ h => (by cases h), Nat.le_refl _, Nat.le_refl _⟩, Lib.hid (Owns.nil _ _ _), HA2, HB2⟩
  case round =>
    clear HA2 HB2
    obtain ⟨j, a, J, ws, rfl, rfl, rfl, HR, HO, HA, HB⟩ := hrel
    have hle := HA.out.le
    have hja := HR.out.past
    have hsm := HR.out.small
    have ht5 := HT.out
    obtain ⟨vo, vc, hv⟩ := HO.out.slice
    rw [List.length_map, HR.out.len] at hv
    subst hv
    have e1 : decide ((j : Int) ≤ (t.size : Int)) = true := decide_eq_true (by omega)
    have e1' : (j : Int) ≤ (t.size : Int) := by omega
    have C := Lib.hid (word_any HA.out (by omega))
    cases hsb : wB t a with
    | true =>
      have hm := HR.out.more hle hsb
      have hszw : (wS t a).size ≤ 500 := by have h1 := wS_size hle; have h2 := wTo_le hle; omega
      obtain ⟨sa, hsa⟩ : ∃ x, wAt t a = x := ⟨_, rfl⟩
      obtain ⟨sw, hsw⟩ : ∃ x, wS t a = x := ⟨_, rfl⟩
      rw [hsa, hsw] at hm
      rw [hsb, hsa, hsw] at C
      rw [hsw] at hszw
      have HM := Lib.hid hm
      clear hm hsb hsa hsw
      go_wp2_with fail
      refine C.out.mono ?_
      rintro e w3 ⟨rfl, hA, hs⟩
      have HA3 := Lib.hid hA
      have HB3 := Lib.hid (past HP.out HB.out hs)
      have HO3 := Lib.hid (HO.out.touch hs (fun k hk hm => own_off HA.out HO.out k hk (List.mem_singleton.1 hm)))
      clear hA hs C
      have hal := (Below.refl w3.heap.size w3).alloc (Nat.le_refl _) (.cells #[.string sw] 9)
      have hnew := heap_alloc_new w3 (.cells #[.string sw] 9)
      have HAL := Lib.hid hal
      have HNW := Lib.hid hnew
      have HOA := Lib.hid (HO3.out.below hal)
      have HAA := Lib.hid (HA3.out.below hal)
      clear hal hnew
      go_wp2_with (at_builtin; refine Book.wpList_append_two _ rfl _ _ 35 rfl W.heap.size 9 i0 (.string ⟨#[]⟩) 16 Try.underlying35 HI.out.1 HI.out.2.1 HI.out.2.2.1 HI.out.2.2.2 rfl _ _ rfl HOA.out ⟨w3.heap.size, 0, none⟩ 1 1 [.string sw] rfl rfl ?c1 ?c2 (Nat.zero_lt_succ 0) ?c3 ?c4 ?c5 ?_)
      case c1 => intro i u hi; have := (List.getElem?_eq_some_iff.1 hi).1; rw [add_row]; exact whole_cell HNW.out (by simpa using hi)
      case c2 => intro u hu; simp at hu; subst hu; rfl
      case c3 => rw [List.length_map, HR.out.len]; show j + 1 ≤ maxLen; unfold maxLen; omega
      case c4 => rw [List.length_map, HR.out.len]; show (j + 1) * 16 ≤ _; omega
      case c5 => exact Nat.le_trans HB3.out.size HAL.out.size
      intro v' w4 hO _ hS _
      have HO4 := Lib.hid (show Owns w4 W.heap.size 9 v' ((ws ++ [sw]).map Value.string) by rw [List.map_append]; exact hO)
      have HA4 := Lib.hid (HAA.out.touch hS (fun hm => own_off HAA.out HOA.out p (by simpa using hm) rfl))
      have HB4 := Lib.hid ((HB3.out.trans (HAL.out.mono HB3.out.size)).trans (hS.below (B := W.heap.size) (fun k hk => (HOA.out.block k (by simpa using hk)).1) (Nat.le_trans HB3.out.size HAL.out.size)))
      clear hO hS HR HO HOA HAA HAL HNW HB3
      go_wp2
      go_roundg (t.size + 2 - (j + 1))
      case measure => omega
      case rel => exact ⟨j + 1, sa, _, ws ++ [sw], rfl, by go_num, rfl, HM, HO4, HA4, HB4⟩
    | false =>
      have hno := wS_no hle hsb
      rw [hsb, hno.1, hno.2] at C
      clear hsb hno
      go_wp2_with fail
      refine C.out.mono ?_
      rintro e w3 ⟨rfl, hA, hs⟩
      have HA3 := Lib.hid hA
      have HB3 := Lib.hid (past HP.out HB.out hs)
      have HO3 := Lib.hid (HO.out.touch hs (fun k hk hm => own_off HA.out HO.out k hk (List.mem_singleton.1 hm)))
      have C := Lib.hid (new_any J w3)
      clear hA hs HO HA HB
      go_wp2_with fail
      refine C.out.mono ?_
      rintro e w4 ⟨u, rfl, hU, hu, hb⟩
      have HU4 := Lib.hid (show At w4 u J (off ws 0) from hU)
      have HUP := Lib.hid (show p ≠ u from fun e => by have := HA3.out.lt; omega)
      have HUW := Lib.hid (Nat.le_trans HB3.out.size hu)
      have HA4 := Lib.hid (HA3.out.below hb)
      have HO4 := Lib.hid (HO3.out.below hb)
      have HB4 := Lib.hid (HB3.out.trans (hb.mono HB3.out.size))
      clear hU hu hb C HA3 HO3 HB3
      go_wp2
      go_loopg [10] j (fun g i wy => ∃ k : Nat, g = j - k ∧ k ≤ j ∧ i = .int .i64 k ∧ Hid (At wy u J (off ws k)) ∧ Hid (At wy p t t.size) ∧ Hid (Owns wy W.heap.size 9 (.slice vo j vc) (ws.map Value.string)) ∧ Hid (Below W.heap.size W wy))
      case atStart => exact ⟨0, rfl, Nat.zero_le _, rfl, HU4, HA4, HO4, HB4⟩
      case round =>
        clear HU4 HA4 HO4 HB4
        obtain ⟨k, rfl, hk, rfl, HU, HA, HO, HB⟩ := hrel
        by_cases hlt : k < j
        · have g0 : (0 : Int) ≤ (k : Int) := by omega
          have g1 : (k : Int) < (j : Int) := by omega
          obtain ⟨s, hs⟩ : ∃ s, ws[k]? = some s := ⟨_, List.getElem?_eq_getElem (by rw [HR.out.len]; exact hlt)⟩
          have hw := read_word J ws HR.out.eq HR.out.fine k s hs
          have hne := not_empty (HR.out.fine s (List.mem_of_getElem? hs))
          have C := Lib.hid (word_any HU.out (by omega))
          rw [hw.1, hw.2.1, hw.2.2.1] at C
          have HS := Lib.hid hs
          obtain ⟨n1, n2⟩ := hne
          clear hw hs
          go_wp2_with fail
          refine C.out.mono ?_
          rintro e w5 ⟨rfl, hU, hst⟩
          have HU5 := Lib.hid hU
          have HA5 := Lib.hid (HA.out.touch hst (fun hm => HUP.out (List.mem_singleton.1 hm)))
          have HO5 := Lib.hid (HO.out.touch hst (fun z hz hm => own_off HU.out HO.out z hz (List.mem_singleton.1 hm)))
          have HB5 := Lib.hid (past HUW.out HB.out hst)
          clear hU hst C HU HA HO HB
          obtain ⟨g, cap, e, hc, _, _⟩ := HO5.out.row (by rw [List.length_map, HR.out.len]; omega)
          rw [List.length_map, HR.out.len] at e
          simp only [Value.slice.injEq, true_and] at e
          obtain ⟨rfl, rfl⟩ := e
          have c0 : w5.cell? ⟨g, k, none⟩ = some (.string s) := hc k _ (by rw [List.getElem?_map, HS.out]; rfl)
          clear hc
          go_wp2
          go_roundg (j - (k + 1))
          case measure => omega
          case rel => exact ⟨k + 1, rfl, by omega, by go_num, HU5, HA5, HO5, HB5⟩
        · obtain rfl : k = j := by omega
          have g1 : ¬ (k : Int) < (k : Int) := by omega
          have hend := read_end J ws HR.out.eq
          rw [HR.out.len] at hend
          have C := Lib.hid (word_any HU.out (by omega))
          have hno := wS_no HU.out.le hend.2
          rw [hno.1, hend.2] at C
          clear hend hno hlt
          go_wp2_with fail
          refine C.out.mono ?_
          rintro e w5 ⟨rfl, hU, hst⟩
          have HB5 := Lib.hid (past HUW.out HB.out hst)
          have C1 := Lib.hid (left_any (HA.out.touch hst (fun hm => HUP.out (List.mem_singleton.1 hm))))
          rw [extract_same] at C1
          clear hU hst C HU HA HO HB
          go_wp2_with fail
          refine C1.out.mono ?_
          rintro e w6 ⟨rfl, q, hq⟩
          have HB6 := Lib.hid (show Below W.heap.size W w6 by rw [hq]; exact HB5.out.trans (sdrewN_below _ _ _))
          clear hq C1
          go_wp2
          go_ret
          exact ⟨rfl, HB6.out⟩
theorem early (t : ByteArray) (W : World) (h : 500 < t.size) : Calls Try.prog 4 #[.string t] W (Yes W) := by
  have C := Lib.hid (alive8 W)
  have e1 : decide ((500 : Int) < (t.size : Int)) = true := decide_eq_true (by omega)
  clear h
  go_enter Try.func4, Try.ntmps4
  go_wp2_with fail
  refine C.out.mono ?_
  rintro e w1 ⟨rfl, hb⟩
  have HB := Lib.hid hb
  clear hb C
  go_wp2
  go_ret
  exact ⟨rfl, HB.out⟩
theorem walk (t : ByteArray) (W : World) : Calls Try.prog 4 #[.string t] W (Yes W) := by
  by_cases h : 500 < t.size
  · exact early t W h
  · exact main t W (by omega)
end Go.Proofs.Ytmbblnebkcekdaa.SourceWords
