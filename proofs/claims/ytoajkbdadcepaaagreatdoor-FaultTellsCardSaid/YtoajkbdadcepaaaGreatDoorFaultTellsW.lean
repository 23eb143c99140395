/- The walk of hollowaylaw2.FaultTells. -/
import Derived.Test.YtoajkbdadcepaaaGreatDoorFaultAlive
import Derived.Test.YtoajkbdadcepaaaGreatDoorFaultNil
import Derived.Test.YtoajkbdadcepaaaGreatDoorFaultLaw
import Derived.Test.YtoajkbdadcepaaaGreatDoorBookAdd
import Derived.Test.YtoajkbdadcepaaaGreatDoorBookApart
import Derived.Test.YtoajkbdadcepaaaGreatDoorListArg
namespace Go.Proofs.YtoajkbdadcepaaaGreatDoor
open Go.RowKit Go.Extern.Stop Go.Stop Go.Extern Book
set_option linter.unusedSimpArgs false
set_option linter.unusedVariables false
/-- an error that is the fault (c, i) behind these words, or none where there is no code -/
def ErrIs (w : World) (c i : Int) (ws : List ByteArray) (e : Value) : Prop := if c = 0 then e = .nilIface else Chain w c i ws e
theorem ErrIs.mono {w w' : World} {c i : Int} {ws : List ByteArray} {e : Value} (h : ErrIs w c i ws e) (hb : Below w.heap.size w w') : ErrIs w' c i ws e := by
  unfold ErrIs at *
  split at h
  · rw [if_pos (by assumption)]; exact h
  · rw [if_neg (by assumption)]; exact h.mono hb
theorem new_any (c i : Int) (w : World) : Calls Tryz.prog 5 #[.int .i64 c, .int .i64 i] w fun e w' => ∃ v, e = .returned v ∧ ErrIs w c i [] v ∧ w = w' := by
  by_cases hc : c = 0
  · subst hc
    refine (new_zero i w).mono ?_
    rintro e w' ⟨rfl, rfl⟩
    exact ⟨_, rfl, by unfold ErrIs; rw [if_pos rfl], rfl⟩
  · refine (new_some c i (by simpa using hc) w).mono ?_
    rintro e w' ⟨rfl, rfl⟩
    exact ⟨_, rfl, by unfold ErrIs; rw [if_neg hc]; rfl, rfl⟩
theorem wrap_any (c i : Int) (ws : List ByteArray) (v : Value) (s : ByteArray) (w : World) (h : ErrIs w c i ws v) :
    Calls Tryz.prog 8 #[v, .string s] w fun e w' => ∃ v', e = .returned v' ∧ ErrIs w' c i (s :: ws) v' ∧ Below w.heap.size w w' := by
  unfold ErrIs at h
  split at h
  · rename_i hc
    subst h
    refine (wrap_nil s w).mono ?_
    rintro e w' ⟨rfl, rfl⟩
    exact ⟨_, rfl, by unfold ErrIs; rw [if_pos hc], Below.refl _ _⟩
  · rename_i hc
    obtain ⟨t, x, rfl⟩ := h.iface
    refine (wrap_some t x s w).mono ?_
    rintro e w' ⟨rfl, rfl⟩
    exact ⟨_, rfl, by unfold ErrIs; rw [if_neg hc]; exact ⟨w.heap.size, .iface t x, rfl, by simp, by simp, by simp, h.alloc⟩, (Below.refl _ _).alloc (Nat.le_refl _) _⟩
theorem chain_say (s : ByteArray) (l : List UInt8) : s ++ (⟨#[58, 32]⟩ : ByteArray) ++ ⟨l.toArray⟩ = ⟨(s.data.toList ++ [58, 32] ++ l).toArray⟩ := by
  apply ByteArray.ext
  simp [ByteArray.data_append]
/-- what the error tells, by whatever method it is -/
theorem err_any (c i : Int) (ws : List ByteArray) (t : TypeId) (x : Value) (wr : World) (h0 : (Lit.int .i64 c).wf = true) (h1 : (Lit.int .i64 i).wf = true) (hch : Chain wr c i ws (.iface t x)) (hlen : (chainText ws (faultText c i)).length ≤ 1000000) :
    ∃ fE aE, (fE = 99 ∨ fE = 101) ∧ (∀ w, (Go.method 281 t x "Error").run Tryz.prog w = .ok (fE, aE) w) ∧ ∀ w, Below wr.heap.size wr w → Pows w → Calls Tryz.prog fE #[aE] w fun e w' => e = .returned (strV (chainText ws (faultText c i))) ∧ Below w.heap.size w w' := by
  cases ws with
  | nil =>
    have e : Value.iface t x = faultV c i := hch
    injection e with e1 e2
    subst e1 e2
    exact ⟨_, _, .inl rfl, fun w => Tryz.methodErrorF _ w, fun w _ hp => faultError_any c i h0 h1 w hp⟩
  | cons s r =>
    obtain ⟨b, inner, e, _⟩ := id hch
    injection e with e1 e2
    subst e1 e2
    exact ⟨_, _, .inr rfl, fun w => Tryz.methodErrorS _ w, fun w hb hp => seenError Pows c i ⟨(faultText c i).toArray⟩ (faultError_any c i h0 h1) s r b w (fun w' hb' => hp.mono hb') (hch.mono hb) hlen⟩
/-- is the error of a code? -/
theorem is_any (c i other : Int) (ws : List ByteArray) (v : Value) (w : World) (hc : (c == 0) = false) (hch : Chain w c i ws v) (hg : ErrorType w) :
    Calls Tryz.prog 12 #[v, .int .i64 other] w fun e w' => e = .returned (.bool (c == other)) ∧ Below w.heap.size w w' := by
  by_cases hz : other = 0
  · subst hz
    rw [hc]
    exact is_zero ws v c i w hch hg
  · exact is_some ws v c i other (c == other) w hch hg (by simpa using hz) (by rw [Bool.eq_iff_iff, beq_iff_eq, beq_iff_eq]; exact eq_comm)
abbrev nilBook : Array Value := #[.slice none 0 0, .slice none 0 0, .slice none 0 0, .slice none 0 0, .slice none 0 0, .slice none 0 0, .slice none 0 0, .slice none 0 0, .slice none 0 0, .slice none 0 0, .slice none 0 0, .slice none 0 0]
set_option maxHeartbeats 4000000 in
set_option maxRecDepth 100000 in
theorem faultTells_walk (c ip : Int) (v : Value) (ss : List ByteArray) (other : Int) (h0 : (Lit.int .i64 c).wf = true) (h1 : (Lit.int .i64 ip).wf = true) (h3 : (Lit.int .i64 other).wf = true) (W : World) (hl : ListOf W v ss) (hg : ErrorType W) (hp : Pows W) :
    Calls Tryz.prog 3 #[.int .i64 c, .int .i64 ip, v, .int .i64 other] W fun e w' => e = .returned (.bool true) ∧ Below W.heap.size W w' := by
  obtain ⟨i0, q1, q2, q3, q4⟩ := info_parts Tryz.bkTextInfo
  have HI := Lib.hid (And.intro q1 (And.intro q2 (And.intro q3 q4)))
  clear q1 q2 q3 q4
  have C := Lib.hid (alive_any W hg)
  obtain ⟨ao, cap, rfl, hcell⟩ := hl
  have HC := Lib.hid hcell
  have HG := Lib.hid hg
  have HP := Lib.hid hp
  obtain ⟨n, hn⟩ : ∃ n, ss.length = n := ⟨_, rfl⟩
  have HN := Lib.hid hn
  rw [hn]
  clear hcell hg hp hn
  by_cases h40 : (40 : Int) < n
  · go_enter Tryz.func3, Tryz.ntmps3
    go_wp2_with fail
    refine C.out.mono ?_
    rintro e w1 ⟨rfl, hb⟩
    go_wp2
    go_ret
    exact ⟨rfl, hb⟩
  have hn40 : n ≤ 40 := by omega
  have hwf := Lib.hid (And.intro h0 (And.intro h1 h3))
  have hl1 := textOf_len (wf_in h0).1 (wf_in h0).2
  have hl2 := itoa_len (wf_in h1).1 (wf_in h1).2
  have g1 : ¬ 9223372036854775807 < (textOf c).length + 4 := by omega
  have g2 : ¬ 9223372036854775807 < (textOf c).length + 4 + (Lib.itoa ip).length := by omega
  have HT := Lib.hid (show (faultText c ip).length ≤ 50 by unfold faultText; simp; omega)
  clear h0 h1 h3 hl1 hl2
  go_enter Tryz.func3, Tryz.ntmps3
  go_wp2_with fail
  refine C.out.mono ?_
  rintro e w1 ⟨rfl, hb⟩
  have HB1 := Lib.hid hb
  clear hb C
  have C := Lib.hid (new_any c ip w1)
  go_wp2_with fail
  refine C.out.mono ?_
  rintro e wz ⟨e0, rfl, he, rfl⟩
  have HE := Lib.hid he
  clear he C
  have C := Lib.hid (lawText_any c hwf.out.1 w1)
  go_wp2_with fail
  refine C.out.mono ?_
  rintro e wz ⟨rfl, rfl⟩
  clear C
  have C := Lib.hid (refPut10 ip hwf.out.2.1 w1)
  go_wp2_with fail
  refine C.out.mono ?_
  rintro e wz ⟨rfl, rfl⟩
  clear C
  have hft : (⟨(textOf c).toArray⟩ : ByteArray) ++ ⟨#[32, 97, 116, 32]⟩ ++ ⟨(Lib.itoa ip).toArray⟩ = ⟨(faultText c ip).toArray⟩ := by
    rw [show (⟨#[32, 97, 116, 32]⟩ : ByteArray) = ⟨([32, 97, 116, 32] : List UInt8).toArray⟩ from rfl, cat, cat]; rfl
  go_wp2
  clear hft g1 g2
  go_loopg [9, 10, 11, 12] n (fun g e want words i wr => ∃ (j : Nat) (ws : List ByteArray), g = n - j ∧ j ≤ n ∧ i = .int .i64 j ∧ Hid (ErrIs wr c ip ws e) ∧ want = strV (chainText ws (faultText c ip)) ∧ Hid (Owns wr W.heap.size 9 words (ws.map .string)) ∧ Hid (ws = [] → words = .slice none 0 0) ∧ Hid (Below W.heap.size W wr) ∧ (chainText ws (faultText c ip)).length ≤ 50 + 102 * j ∧ ws.length = j)
  case atStart => exact ⟨0, [], rfl, Nat.zero_le _, rfl, HE.out, rfl, Owns.nil _ _ _, fun _ => rfl, HB1.out, HT.out, rfl⟩
  case round =>
    obtain ⟨j, ws, rfl, hj, rfl, HE, rfl, HO, HNE, HB, hlen, hwl⟩ := hrel
    by_cases hlt : j < n
    · obtain ⟨s, hs⟩ : ∃ s, ss[j]? = some s := ⟨_, List.getElem?_eq_getElem (by rw [HN.out]; exact hlt)⟩
      obtain ⟨a, rfl, hc⟩ := HC.out j s hs
      have ca := (HB.out.cell (p := a.add j) (World.block_lt_of_cell? W _ hc)).trans hc
      have hj0 : (0 : Int) ≤ (j : Int) := Int.natCast_nonneg _
      have hj1 : (j : Int) < (n : Int) := by omega
      have HCA := Lib.hid hc
      clear hs hc
      by_cases h100 : (100 : Int) < s.size
      · go_wp2
        go_ret
        exact ⟨rfl, HB.out⟩
      · have hs100 : s.size ≤ 100 := by omega
        have C := Lib.hid (wrap_any c ip ws _ s wr HE.out)
        have HL := Lib.hid hlen
        have HWL := Lib.hid hwl
        have g1 : ¬ 9223372036854775807 < s.size + 2 := by omega
        have g2 : ¬ 9223372036854775807 < s.size + 2 + (chainText ws (faultText c ip)).length := by omega
        have hft : s ++ (⟨#[58, 32]⟩ : ByteArray) ++ ⟨(chainText ws (faultText c ip)).toArray⟩ = ⟨(chainText (s :: ws) (faultText c ip)).toArray⟩ := chain_say s _
        clear hlen hwl
        go_wp2_with fail
        refine C.out.mono ?_
        rintro e w2 ⟨e2, rfl, he, hb⟩
        have HB2 := Lib.hid (HB.out.trans (hb.mono HB.out.size))
        have ca := (HB2.out.cell (p := a.add j) (World.block_lt_of_cell? W _ HCA.out)).trans HCA.out
        have HO2 := Lib.hid ((HO.out.below hb).below ((Below.refl w2.heap.size w2).alloc (Nat.le_refl _) (.cells #[.string s] 9)))
        have HE2 := Lib.hid he
        clear he hb C
        go_wp2_with (at_builtin; refine wpList_append_rows _ rfl _ _ 22 rfl w2.heap.size 9 i0 (.string ⟨#[]⟩) 16 Tryz.underlying22 HI.out.1 HI.out.2.1 HI.out.2.2.1 HI.out.2.2.2 rfl _ [.string s] rfl (Owns.built w2 (.string s) 9) W.heap.size _ (ws.map .string) rfl HO2.out ?c0 ?c1 ?c2 ?c3 ?c4 ?_)
        case c0 => intro h; exact HNE.out (List.map_eq_nil_iff.1 h)
        case c1 => intro u hu; simp at hu; obtain ⟨x, _, rfl⟩ := hu; rfl
        case c2 => rw [List.length_map, HWL.out]; show 1 + j ≤ maxLen; unfold maxLen; omega
        case c3 => rw [List.length_map, HWL.out]; show (1 + j) * 16 ≤ _; omega
        case c4 => simp
        intro v' w3 hO3 _ hT3 _
        have hb3 : Below w2.heap.size w2 w3 := ((Below.refl w2.heap.size w2).alloc (Nat.le_refl _) (.cells #[.string s] 9)).trans (hT3.below (fun k hk => by simp [Value.ownBlock] at hk; omega) (by simp))
        have HE3 := Lib.hid (HE2.out.mono hb3)
        have HB3 := Lib.hid (HB2.out.trans (hb3.mono HB2.out.size))
        have HO3 := Lib.hid (hO3.from HB2.out.size)
        clear hO3 hT3 hb3 ca
        go_wp2
        go_roundg (n - (j + 1))
        case measure => omega
        case rel => exact ⟨j + 1, s :: ws, rfl, by omega, by go_num, HE3, rfl, HO3, Lib.hid (fun h => by cases h), HB3, by
          have h1 := HL.out
          have h2 : s.data.toList.length = s.size := Array.length_toList
          show (s.data.toList ++ [58, 32] ++ chainText ws (faultText c ip)).length ≤ _
          simp only [List.length_append, h2, List.length_cons, List.length_nil]
          omega, by rw [List.length_cons, HWL.out]⟩
    · obtain rfl : j = n := by omega
      clear hlt hj
      by_cases hc : c = 0
      · subst hc
        have he := HE.out
        unfold ErrIs at he
        rw [if_pos rfl] at he
        subst he
        have C := Lib.hid (code_nil wr)
        go_wp2_with fail
        refine C.out.mono ?_
        rintro e w2 ⟨rfl, hb⟩
        have HB2 := Lib.hid (HB.out.trans (hb.mono HB.out.size))
        clear C hb
        have C := Lib.hid (where_nil w2)
        go_wp2_with fail
        refine C.out.mono ?_
        rintro e w3 ⟨rfl, hb⟩
        have HB3 := Lib.hid (HB2.out.trans (hb.mono HB2.out.size))
        clear C hb
        have C := Lib.hid (words_nil w3)
        go_wp2_with fail
        refine C.out.mono ?_
        rintro e w4 ⟨rfl, hb⟩
        have HB4 := Lib.hid (HB3.out.trans (hb.mono HB3.out.size))
        clear C hb
        have C := Lib.hid (is_nil other w4)
        go_wp2_with fail
        refine C.out.mono ?_
        rintro e w5 ⟨rfl, hb⟩
        have HB5 := Lib.hid (HB4.out.trans (hb.mono HB4.out.size))
        clear C hb
        go_wp2
        go_ret
        exact ⟨rfl, HB5.out⟩
      · have hcb : (c == 0) = false := by simpa using hc
        have he := HE.out
        unfold ErrIs at he
        rw [if_neg hc] at he
        obtain ⟨t, x, rfl⟩ := he.iface
        have HCH := Lib.hid he
        clear he hc
        obtain ⟨wk, hwk⟩ : ∃ wk, wr.alloc (.cells nilBook 41) = wk := ⟨_, rfl⟩
        have hbk : wk.heap[wr.heap.size]? = some (.cells nilBook 41 (0, 0)) := by rw [← hwk]; exact heap_alloc_new wr _
        have hks : wk.heap.size = wr.heap.size + 1 := by rw [← hwk]; simp
        have BRk : Below wr.heap.size wr wk := by rw [← hwk]; exact (Below.refl _ _).alloc (Nat.le_refl _) _
        have HRk := Lib.hid BRk
        have HBK := Lib.hid hbk
        have HKS := Lib.hid hks
        have HLen := Lib.hid (show ws.length ≤ 1000 by omega)
        have HG' := Lib.hid (fun w' (h : Below wr.heap.size wr w') => HG.out.mono (HB.out.trans (h.mono HB.out.size)))
        have HP' := Lib.hid (fun w' (h : Below wr.heap.size wr w') => HP.out.mono (HB.out.trans (h.mono HB.out.size)))
        obtain ⟨fE, aE, hfE, mE, hErr⟩ := err_any c ip ws t x wr hwf.out.1 hwf.out.2.1 HCH.out (by omega)
        have HErr := Lib.hid hErr
        have C := Lib.hid (words_any ws _ c ip wk (HCH.out.mono BRk) (HG'.out _ BRk) HLen.out)
        clear hbk hks BRk hlen hwl hErr
        go_wp2_with fail
        clear hwk
        refine C.out.mono ?_
        rintro e w2 ⟨a, rfl, ha, hb⟩
        have ha : Owns w2 (wr.heap.size + 1) 9 a (ws.map .string) := by unfold IsTexts at ha; rw [HKS.out] at ha; unfold Owns; rw [List.length_map]; exact ha
        have HR2 := Lib.hid (HRk.out.trans (hb.mono (by rw [HKS.out]; omega)))
        have hbk2 := (Stirred.of_below hb []).whole HBK.out List.not_mem_nil
        have C := Lib.hid (bookTexts_any wr.heap.size (wr.heap.size + 1) nilBook (.slice none 0 0) (.slice none 0 0) a [] (ws.map .string) w2 (Nat.lt_succ_self _) (by rw [← HKS.out]; exact hb.size) (by decide) hbk2 rfl rfl (Kept.nil _ _ _ _ _) ha ⟨ws, rfl, by have := HLen.out; omega⟩ (fun _ _ h => by cases h))
        clear ha hb hbk2
        go_wp2_with fail
        refine C.out.mono ?_
        rintro e w3 ⟨rfl, vS, vW, hbk, hk, hst⟩
        have HR3 := Lib.hid (HR2.out.trans (hst.below (fun k hk => by simp [Value.ownBlock] at hk; omega) HR2.out.size))
        have HBK3 := Lib.hid hbk
        have HK3 := Lib.hid hk
        clear C hbk hk hst
        have C := Lib.hid (words_any ws _ c ip w3 (HCH.out.mono HR3.out) (HG'.out _ HR3.out) HLen.out)
        go_wp2_with fail
        refine C.out.mono ?_
        rintro e w4 ⟨a2, rfl, ha, hb⟩
        have hs3 := whole_lt HBK3.out
        have ha0 : Owns w4 w3.heap.size 9 a2 (ws.map .string) := by unfold IsTexts at ha; unfold Owns; rw [List.length_map]; exact ha
        have HR4 := Lib.hid (HR3.out.trans (hb.mono HR3.out.size))
        have hbk4 := (Stirred.of_below hb []).whole HBK3.out List.not_mem_nil
        have hk4 := HK3.out.below hb
        have hlow := Lib.hid (fun k hk => (HK3.out.lists.lt k hk).2)
        have hlow2 := Lib.hid (fun k hk => (ha0.block k hk).1)
        have C := Lib.hid (bookTexts_any wr.heap.size (wr.heap.size + 1) _ vS vW a2 _ (ws.map .string) w4 (Nat.lt_succ_self _) (Nat.le_trans hs3 hb.size) (by simp) hbk4 rfl rfl hk4 (ha0.from hs3) ⟨ws, rfl, by have := HLen.out; omega⟩ (fun k hk hm => by have h1 := hlow.out k hm; have h2 := hlow2.out k hk; omega))
        clear ha ha0 hb hbk4 hk4 hlow hlow2
        go_wp2_with fail
        refine C.out.mono ?_
        rintro e w5 ⟨rfl, vS', vW', hbk, hk, hst⟩
        have hown := Lib.hid (And.intro (fun k hk => (HK3.out.lists.spine.block k hk).1) (by obtain ⟨cs, _, h2, _⟩ := HK3.out.was; exact fun k hk => (h2.block k hk).1))
        have HR5 := Lib.hid (HR4.out.trans (hst.below (B := wr.heap.size) (fun k hk => by
          rw [List.mem_cons, List.mem_append] at hk
          rcases hk with rfl | hk | hk
          · exact Nat.le_refl _
          · have := hown.out.1 k (by simpa using hk); omega
          · have := hown.out.2 k (by simpa using hk); omega) HR4.out.size))
        have HBK5 := Lib.hid hbk
        have HK5 := Lib.hid hk
        clear C hbk hk hst hown hs3
        have C := Lib.hid (code_any ws _ c ip w5 (HCH.out.mono HR5.out) (HG'.out _ HR5.out))
        go_wp2_with fail
        refine C.out.mono ?_
        rintro e w6 ⟨rfl, hb⟩
        have HR6 := Lib.hid (HR5.out.trans (hb.mono HR5.out.size))
        have HBK6 := Lib.hid ((Stirred.of_below hb []).whole HBK5.out List.not_mem_nil)
        have HK6 := Lib.hid (HK5.out.below hb)
        clear C hb
        have C := Lib.hid (where_any ws _ c ip w6 (HCH.out.mono HR6.out) (HG'.out _ HR6.out))
        go_wp2_with fail
        refine C.out.mono ?_
        rintro e w7 ⟨rfl, hb⟩
        have HR7 := Lib.hid (HR6.out.trans (hb.mono HR6.out.size))
        have HBK7 := Lib.hid ((Stirred.of_below hb []).whole HBK6.out List.not_mem_nil)
        have HK7 := Lib.hid (HK6.out.below hb)
        clear C hb
        rcases hfE with rfl | rfl
        all_goals
          have C := Lib.hid (HErr.out w7 HR7.out (HP'.out _ HR7.out))
          go_wp2_with fail
          refine C.out.mono ?_
          rintro e w8 ⟨rfl, hb⟩
          have HR8 := Lib.hid (HR7.out.trans (hb.mono HR7.out.size))
          have HBK8 := Lib.hid ((Stirred.of_below hb []).whole HBK7.out List.not_mem_nil)
          have HK8 := Lib.hid (HK7.out.below hb)
          clear C hb
          have C := Lib.hid (sameTexts_any a _ (wr.heap.size + 1) W.heap.size ws w8 (HK8.out.lists.list (a, ws.map .string) (by simp)) (HO.out.below HR8.out) (by have := HLen.out; omega))
          go_wp2_with fail
          refine C.out.mono ?_
          rintro e w9 ⟨rfl, q, hq⟩
          have hb : Below w8.heap.size w8 w9 := by rw [hq]; exact bk_below_drewN _ _ _
          have HR9 := Lib.hid (HR8.out.trans (hb.mono HR8.out.size))
          have HBK9 := Lib.hid ((Stirred.of_below hb []).whole HBK8.out List.not_mem_nil)
          have HK9 := Lib.hid (HK8.out.below hb)
          clear C hb hq
          have hcases : ((c == other) = true ∧ (other != 0) = true) ∨ (c == other) = false := by
            by_cases hco : c = other
            · subst hco; exact .inl ⟨by simp, by simpa using hcb⟩
            · exact .inr (by simpa using hco)
          have C := Lib.hid (is_any c ip other ws _ w9 hcb (HCH.out.mono HR9.out) (HG'.out _ HR9.out))
          rcases hcases with ⟨hco, hne⟩ | hco
          all_goals
            rw [hco] at C
            go_wp2_with fail
            refine C.out.mono ?_
            rintro e w10 ⟨rfl, hb⟩
            have HR10 := Lib.hid (HR9.out.trans (hb.mono HR9.out.size))
            have HBK10 := Lib.hid ((Stirred.of_below hb []).whole HBK9.out List.not_mem_nil)
            have HK10 := Lib.hid (HK9.out.below hb)
            clear C hb
            have C := is_any c ip c ws (.iface t x) w10 hcb (HCH.out.mono HR10.out) (HG'.out _ HR10.out)
            rw [show (c == c) = true from by simp] at C
            have C := Lib.hid C
            go_wp2_with fail
            refine C.out.mono ?_
            rintro e w11 ⟨rfl, hb⟩
            have HR11 := Lib.hid (HR10.out.trans (hb.mono HR10.out.size))
            have HBK11 := Lib.hid ((Stirred.of_below hb []).whole HBK10.out List.not_mem_nil)
            have HK11 := Lib.hid (HK10.out.below hb)
            clear C hb
            have C := Lib.hid (text_any c hwf.out.1 w11 (HP'.out _ HR11.out))
            go_wp2_with fail
            refine C.out.mono ?_
            rintro e w12 ⟨rfl, hb⟩
            have HR12 := Lib.hid (HR11.out.trans (hb.mono HR11.out.size))
            have HBK12 := Lib.hid ((Stirred.of_below hb []).whole HBK11.out List.not_mem_nil)
            have HK12 := Lib.hid (HK11.out.below hb)
            clear C hb
            have C := Lib.hid (lawText_any c hwf.out.1 w12)
            go_wp2_with fail
            refine C.out.mono ?_
            rintro e wz ⟨rfl, hwz⟩
            subst wz
            clear C
            have C := Lib.hid (apartTexts_any wr.heap.size (wr.heap.size + 1) vS' vW' _ w12 (Nat.lt_succ_self _) (whole_lt HBK12.out) ⟨whole_cell HBK12.out rfl, whole_cell HBK12.out rfl, whole_cell HBK12.out rfl, whole_cell HBK12.out rfl, whole_cell HBK12.out rfl, whole_cell HBK12.out rfl⟩ (whole_cell HBK12.out rfl) HK12.out)
            go_wp2_with fail
            refine C.out.mono ?_
            rintro e w13 ⟨rfl, hb⟩
            have HR13 := Lib.hid (HR12.out.trans (hb.mono (Nat.le_succ _)))
            clear C hb
            go_wp2
            go_ret
            exact ⟨rfl, HB.out.trans (HR13.out.mono HB.out.size)⟩
end Go.Proofs.YtoajkbdadcepaaaGreatDoor
