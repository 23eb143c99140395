/- PilePlays: the walk. -/
import Derived.Test.YtpklbffphdfpdaaPilePlaysB
import Derived.Test.YtpklbffphdfpdaaBookApartInts
import Derived.Deep.LoopGhost
import Derived.Deep.DeepCutAuto
import Derived.Deep.CutBlock
import Derived.Deep.RegionHeld3
namespace Go.Proofs.Ytpklbffphdfpdaa.PilePlays
open Go.RowKit Book Mem
set_option linter.unusedSimpArgs false
set_option linter.unusedVariables false
/-- behind what is done in a round -/
def After (W : World) (pb room most : Nat) (fp t : Value) (w : World) : Prop :=
  ∃ (p g : Nat) (cs : List Int) (ta : Option Addr) (M tc : Nat) (vS vW : Value) (ls : List (Value × List Value)), fp = .pointer (some ⟨p, 0, none⟩) ∧ t = .slice ta M tc ∧ cs.length = M ∧ St w W.heap.size pb (.slice ta M tc) p g room cs cs vS vW ls [] ∧ ls.length ≤ most ∧ Below W.heap.size W w
set_option maxHeartbeats 8000000 in
set_option maxRecDepth 100000 in
theorem main (most : Int) (v : Value) (f : List Int) (vo : Value) (ops : List OpIn) (ask : Int) (W : World) (hr : ReadsC W v f) (ho : OpsAt W vo ops) (hf : f.length ≤ 60) (hops : ops.length ≤ 80) :
    Calls Try.prog 3 #[.int .i64 most, v, vo, .int .i64 ask] W (Yes W) := by
  have HR := Lib.hid hr
  have HP := Lib.hid ho
  obtain ⟨-, lo, lc, rfl, hlc⟩ := hr
  obtain ⟨oo, oc, rfl, -⟩ := ho
  obtain ⟨L, hL⟩ : ∃ L, f.length = L := ⟨_, rfl⟩
  obtain ⟨N, hN⟩ : ∃ N, ops.length = N := ⟨_, rfl⟩
  obtain ⟨room, hroom⟩ : ∃ room : Nat, (room : Int) = min (max most 0) 1000 := ⟨(min (max most 0) 1000).toNat, by omega⟩
  have HM := Lib.hid hroom
  have hr1 : room ≤ 1000 := by omega
  rw [hL] at HR hf hlc ⊢
  rw [hN] at HP hops ⊢
  have HL := Lib.hid hL
  have HN := Lib.hid hN
  have h1 : decide (60 < (L : Int)) = false := decide_eq_false (by omega)
  have h2 : decide (80 < (N : Int)) = false := decide_eq_false (by omega)
  have C := Lib.hid (alive_any W)
  obtain ⟨i0, q1, q2, q3, q4⟩ := info_parts Try.bkIntInfo
  have HI := Lib.hid (And.intro q1 (And.intro q2 (And.intro q3 q4)))
  clear hL hN q1 q2 q3 q4 hroom
  go_enter Try.func3, Try.ntmps3
  go_wp2_with fail
  refine C.out.mono ?_
  rintro e w1 ⟨rfl, hb⟩
  have HB1 := Lib.hid hb
  have C := Lib.hid (lent_any (.slice lo L lc) f w1 (HR.out.1.below hb) (by rw [HL.out]; omega))
  rw [HL.out] at C
  clear hb
  go_wp2_with fail
  refine C.out.mono ?_
  rintro e w2 ⟨gm, mcap, rfl, hlent, hb⟩
  have HM2 := Lib.hid hlent
  have hgm := (Owns.block hlent gm hlent.blk.1)
  have HG2 := Lib.hid (And.intro hgm.1 hgm.2.1)
  have HB2 := Lib.hid (HB1.out.trans (hb.mono HB1.out.size))
  have C := Lib.hid (new_any most room HM.out (.slice (some ⟨gm, 0, none⟩) L mcap) f w2 (by have := Reads.of_owns hlent.owns; rw [HL.out] at this; exact this))
  clear hb hlent hgm HB1 h1 h2
  go_wp2_with fail
  refine C.out.mono ?_
  rintro e w3 ⟨p, g, rfl, hP, hb⟩
  have HP3 := Lib.hid (hP.from HB2.out.size)
  have HFT := Lib.hid (fun k hk => (hP.foot_lt k hk).2)
  have HB3 := Lib.hid (HB2.out.trans (hb.mono HB2.out.size))
  have HM3 := Lib.hid (HM2.out.touch (Stirred.of_below hb []) List.not_mem_nil)
  have HR3 := Lib.hid (HR.out.1.below HB3.out)
  have HRC := Lib.hid (show ReadsC w3 (.slice lo L lc) f from ⟨HR3.out, lo, lc, by rw [HL.out], by rw [HL.out]; exact hlc⟩)
  obtain ⟨h, hh⟩ : ∃ h, min L room = h := ⟨_, rfl⟩
  have em : min (L : Int) (room : Int) = (h : Int) := by omega
  have er : min (max most 0) 1000 = (room : Int) := HM.out.symm
  have HH := Lib.hid hh
  have hhL : h ≤ L := by omega
  clear hP hb C HM2 HB2 hh
  go_wp2_with (refine wpList_slice_part (o := ⟨_, Op.slice _ _ _ _ none, _, _, _, _⟩) (by rfl) _ _ _ _ rfl 3 Try.underlying22 Try.sizeOf3 _ f rfl HRC.out 0 h (.inr ⟨rfl, rfl⟩) (.inl rfl) (Nat.zero_le _) (by have := HL.out; omega) ?_)
  intro y hy
  try rw [List.drop_zero] at hy
  have HY := Lib.hid hy
  clear hy
  go_wp2_with (at_builtin; refine wpList_append_reads _ rfl _ _ 22 rfl w3.heap.size 3 i0 (.int .i64 0) 8 Try.underlying22 HI.out.1 HI.out.2.1 HI.out.2.2.1 HI.out.2.2.2 rfl _ [] rfl (Owns.nil _ _ _) _ (f.take h) rfl HY.out.1 ?c3 ?c4 (Nat.le_refl _) ?_)
  case c3 => have := HL.out; unfold maxLen; rw [List.length_nil, List.length_take]; omega
  case c4 => have := HL.out; rw [List.length_nil, List.length_take]; omega
  intro v4 w4 hO _ hs _
  have hft : f.take room = f.take h := by
    have h1 := HH.out
    have h2 := HL.out
    by_cases hc : L ≤ room
    · rw [List.take_of_length_le (by omega), List.take_of_length_le (by omega)]
    · rw [show h = room by omega]
  have hV4 : Owns w4 w3.heap.size 3 v4 (vals (f.take room)) := by rw [hft, vals, List.map_take]; simpa using hO
  obtain ⟨cs, hcs⟩ : ∃ cs, f.take room = cs := ⟨_, rfl⟩
  rw [hcs] at hV4 HP3
  have HCL := Lib.hid (show cs.length = h by rw [← hcs, hft, List.length_take, HL.out]; omega)
  obtain ⟨ta, tc, e⟩ := hV4.slice
  rw [vals_length, HCL.out] at e
  subst e
  have hb : Below w3.heap.size w3 w4 := hs.below (fun z hz => by cases hz) (Nat.le_refl _)
  have HV4 := Lib.hid hV4
  have HP4 := Lib.hid (HP3.out.below hb)
  have HM4 := Lib.hid (HM3.out.touch (Stirred.of_below hb []) List.not_mem_nil)
  have HB4 := Lib.hid (HB3.out.trans (hb.mono HB3.out.size))
  clear hO hs hV4 hft hcs hb HY HRC HR3 HP3 HM3
  have C := Lib.hid (stays_any w1.heap.size gm mcap (.slice lo L lc) f w4 HM4.out (HR.out.1.below HB4.out) (by rw [HL.out]; omega))
  rw [HL.out] at C
  go_wp2_with fail
  refine C.out.mono ?_
  rintro e w5 ⟨rfl, q5, hq5⟩
  have hb : Below w4.heap.size w4 w5 := by rw [hq5]; exact bk_below_drewN _ _ _
  have HV5 := Lib.hid (HV4.out.below hb)
  have HP5 := Lib.hid (HP4.out.below hb)
  have HB5 := Lib.hid (HB4.out.trans (hb.mono HB4.out.size))
  clear hq5 hb C HV4 HP4 HB4 HM4 em er
  have hbl := (Below.refl w5.heap.size w5).alloc (Nat.le_refl _) (.cells (bookArr (.slice none 0 0) (.slice none 0 0)) 37)
  have hnew := heap_alloc_new w5 (.cells (bookArr (.slice none 0 0) (.slice none 0 0)) 37)
  obtain ⟨wl, hwl⟩ : ∃ wl, w5.alloc (.cells (bookArr (.slice none 0 0) (.slice none 0 0)) 37) = wl := ⟨_, rfl⟩
  rw [hwl] at hbl hnew
  have hwl' : w5.alloc (.cells #[.slice none 0 0, .slice none 0 0, .slice none 0 0, .slice none 0 0, .slice none 0 0, .slice none 0 0, .slice none 0 0, .slice none 0 0, .slice none 0 0, .slice none 0 0, .slice none 0 0, .slice none 0 0] 37) = wl := hwl
  have HST := Lib.hid (show St wl W.heap.size w5.heap.size (.slice ta h tc) p g room cs cs (.slice none 0 0) (.slice none 0 0) [] [] from
    ⟨HP5.out.below hbl, (HV5.out.below hbl).from HB3.out.size, hnew, Kept.nil _ _ _ _ _ _, Nat.le_trans HB5.out.size hbl.size, fun k hk => ⟨fun hm => by
      have h1 := (HV5.out.block k hk).1
      have h2 := HFT.out k hm
      omega, List.not_mem_nil⟩, fun _ _ h => (by cases h), fun _ h => (by cases h), fun _ h => (by cases h)⟩)
  have HBL := Lib.hid (HB5.out.trans (hbl.mono HB5.out.size))
  have HWS := Lib.hid HB5.out.size
  have HWSS := Lib.hid (Nat.le_succ_of_le HB5.out.size)
  clear hbl hnew hwl HV5 HP5 HB5 HB3 HFT HG2
  go_wp2
  clear hwl'
  go_loopg [10, 12, 14] (N + 1) (fun g' fp t i wr => ∃ (j p g : Nat) (cs : List Int) (ta : Option Addr) (M tc : Nat) (vS vW : Value) (ls : List (Value × List Value)), g' = N + 1 - j ∧ j ≤ N + 1 ∧ i = .int .i64 j ∧ fp = .pointer (some ⟨p, 0, none⟩) ∧ t = .slice ta M tc ∧
    Hid (cs.length = M) ∧ Hid (St wr W.heap.size w5.heap.size (.slice ta M tc) p g room cs cs vS vW ls []) ∧ Hid (ls.length ≤ 2 * j) ∧ Hid (Below W.heap.size W wr))
  case atStart => exact ⟨0, p, g, cs, ta, h, tc, _, _, [], rfl, Nat.zero_le _, rfl, rfl, rfl, HCL.out, HST.out, Nat.zero_le _, HBL.out⟩
  case round =>
    clear HST HBL HCL
    obtain ⟨j, p, g, cs, ta, M, tc, vS, vW, ls, rfl, hj, rfl, rfl, rfl, HCS, HS, HLS, HB⟩ := hrel
    by_cases hlt : j ≤ N
    · have e1 : decide ((j : Int) ≤ (N : Int)) = true := decide_eq_true (by omega)
      go_upto_if 80 with fail
      go_cut [10, 12, 15] (fun fp t ok wx => ok = .bool true ∧ Hid (After W w5.heap.size room (2 * j + 1) fp t wx))
      case first =>
        by_cases hj0 : j = 0
        · subst hj0
          have HA := Lib.hid (show After W w5.heap.size room (2 * 0 + 1) (.pointer (some ⟨p, 0, none⟩)) (.slice ta M tc) wr from ⟨p, g, cs, ta, M, tc, vS, vW, ls, rfl, rfl, HCS.out, HS.out, by have := HLS.out; omega, HB.out⟩)
          clear HCS HS HLS HB
          go_wp2
          go_meet
          exact ⟨rfl, HA.out⟩
        · obtain ⟨k, hk⟩ : ∃ k, j = k + 1 := ⟨j - 1, by omega⟩
          have e5 : decide ((0 : Int) < (j : Int)) = true := decide_eq_true (by omega)
          have hls := HLS.out
          refine wp_cond_true (congrArg Value.bool (decide_eq_true (by omega))) ?_
          refine under HP.out HN.out (show k < N by omega) hops (show (j : Int) - 1 = (k : Int) by omega) HS.out HCS.out (by omega) HB.out HWS.out ?_ ?_
          · intro u16 u17 u18 u19 u20 u21 u22 u23 u24 u25 u81 u82 u83 u84 u85 u86 u87 u88 u89 u90 u91 u92 u93 u94 u95 u96 u97 u98 u99 u100 u101 u102 u103 u104 u105 u106 u107 u108 u109 u110 u111 u112 u113 u114 u115 u116 u117 u118 u119 u120 u121 u122 u123 u124 u125 u126 u127 u128 u129 u130 u131 u132 u133 u134 u135 u136 u137 u138 u139 u140 u141 u142 u143 u144 u145 u146 u147 u148 u149 u150 u151 u152 u153 u154 u155 u156 u157 u158 u159 u160 u161 u162 u163 u164 u165 u166 u167 u168 u169 u170 u171 u172 u173 u174 u175 u176 u177 u178 u179 u180 u181 u182 u183 u184 u185 u186 u187 u188 u189 u190 u191 u192 u193 u194 u195 u196 u197 u198 u199 u200 u201 u202 u203 u204 u205 u206 u207 u208 u209 u210 u211 u212 u213 u214 u215 u216 u217 u218 u219 u220 u221 u222 u223 u224 u225 u226 u227 u228 u229 u230 u231 u232 u233 u234 u235 u236 u237 u238 u239 u240 u241 u242 u243 u244 u245 u246 u247 u248 u249 u250 w' p' g' cs' ta' M' tc' vS' vW' ls' h1 h2 h3 h4
            have HA := Lib.hid (show After W w5.heap.size room (2 * j + 1) (.pointer (some ⟨p', 0, none⟩)) (.slice ta' M' tc') w' from ⟨p', g', cs', ta', M', tc', vS', vW', ls', rfl, rfl, h1, h3, by omega, h4⟩)
            clear h1 h2 h3 h4 hls e5 hk HCS HS HLS HB
            go_wp2
            go_meet
            exact ⟨rfl, HA.out⟩
          · intro u16 u81 u82 u83 u84 u85 u86 u87 u88 u89 w' hb
            have HBX := Lib.hid hb
            clear hb hls e5 hk HCS HS HLS HB
            go_wp2
            go_ret
            exact ⟨rfl, HBX.out⟩
      case rest =>
        clear HS HB HCS HLS e1
        obtain ⟨rfl, hA⟩ := hcut
        obtain ⟨p, g, cs, ta, M, tc, vS, vW, ls, rfl, rfl, hM, hS, hls, hB⟩ := hA.out
        have HMC := Lib.hid hM
        refine ‹∀ (a : Act) (w : World), Code.wp _ _ (Exit.inBlock 1 _) a w → _› _ _ ?_
        refine fin hS hM (by omega) hB HWS.out ?_
        clear hM hS hB hA
        intro u26 u27 u28 u29 u251 u252 u253 u254 u255 u256 u257 u258 u259 u260 u261 u262 u263 u264 u265 u266 u267 u268 u269 u270 u271 u272 u273 u274 u275 u276 u277 u278 u279 u280 u281 u282 u283 u284 u285 u286 u287 u288 u289 u290 u291 u292 u293 u294 u295 u296 u297 u298 u299 u300 u301 u302 u303 u304 u305 u306 u307 u308 u309 u310 u311 u312 w' vS' vW' ls' hl hS hB
        have HSF := Lib.hid hS
        have HBF := Lib.hid hB
        have HLF := Lib.hid (show ls'.length ≤ 2 * (j + 1) by omega)
        clear hl hS hB hls
        go_wp2
        go_roundg (N + 1 - (j + 1))
        case measure => omega
        case rel => exact ⟨j + 1, p, g, cs, ta, M, tc, _, _, _, rfl, by omega, by go_num, rfl, rfl, HMC, HSF, HLF, HBF⟩
    · have e1 : decide ((j : Int) ≤ (N : Int)) = false := decide_eq_false (by omega)
      have hb := (built wr [1]).1
      have hk : wr.alloc (.cells #[.int .i64 1] 3) = wr.alloc (.cells (vals [1]).toArray 3) := rfl
      obtain ⟨wp, hwp⟩ : ∃ wp, wr.alloc (.cells (vals [1]).toArray 3) = wp := ⟨_, rfl⟩
      rw [hwp] at hb hk
      have hS := HS.out.below hb
      have HBP := Lib.hid (HB.out.trans (hb.mono HB.out.size))
      have C1 := Lib.hid (show Calls Try.prog 12 #[.pointer none, .int .i64 0] wr _ from pop_nil 0 wr)
      have C2 := Lib.hid (show Calls Try.prog 19 #[.pointer none, .int .i64 0] wr _ from peek_nil 0 wr)
      have C3 := Lib.hid (push_nil (.slice (some ⟨wr.heap.size, 0, none⟩) 1 1) 1 ⟨_, _, rfl⟩ (by decide) wp)
      have C4 := Lib.hid (show Calls Try.prog 15 #[.pointer none, .int .i64 0, .int .i64 1] wp _ from set_nil 0 1 wp)
      have C5 := Lib.hid (show Calls Try.prog 16 #[.pointer none, .int .i64 0] wp _ from cut_nil 0 wp)
      have C6 := Lib.hid (len_nil wp)
      have C7 := Lib.hid (all_nil wp)
      have C8 := Lib.hid (copy_nil wp)
      have C9 := Lib.hid (apartInts_any w5.heap.size (w5.heap.size + 1) vS vW ls wp (Nat.lt_succ_self _) (whole_lt hS.book) ⟨whole_cell hS.book rfl, whole_cell hS.book rfl, whole_cell hS.book rfl, whole_cell hS.book rfl, whole_cell hS.book rfl, whole_cell hS.book rfl⟩ (whole_cell hS.book rfl) _ hS.kept)
      clear hb hwp hS HS HB HLS HCS
      go_wp2_with fail
      refine C1.out.mono ?_
      rintro e wz ⟨rfl, hwz⟩
      subst wz
      go_wp2_with fail
      refine C2.out.mono ?_
      rintro e wz ⟨rfl, hwz⟩
      subst wz
      go_wp2_with fail
      refine C3.out.mono ?_
      rintro e wz ⟨rfl, hwz⟩
      subst wz
      go_wp2_with fail
      refine C4.out.mono ?_
      rintro e wz ⟨rfl, hwz⟩
      subst wz
      go_wp2_with fail
      refine C5.out.mono ?_
      rintro e wz ⟨rfl, hwz⟩
      subst wz
      go_wp2_with fail
      refine C6.out.mono ?_
      rintro e wz ⟨rfl, hwz⟩
      subst wz
      go_wp2_with fail
      refine C7.out.mono ?_
      rintro e wz ⟨rfl, hwz⟩
      subst wz
      go_wp2_with fail
      refine C8.out.mono ?_
      rintro e wz ⟨rfl, hwz⟩
      subst wz
      go_wp2_with fail
      refine C9.out.mono ?_
      rintro e w8 ⟨rfl, hb⟩
      have HB8 := Lib.hid (HBP.out.trans (hb.mono HWSS.out))
      clear hb C1 C2 C3 C4 C5 C6 C7 C8 C9
      go_wp2
      go_ret
      exact ⟨rfl, HB8.out⟩
end Go.Proofs.Ytpklbffphdfpdaa.PilePlays
