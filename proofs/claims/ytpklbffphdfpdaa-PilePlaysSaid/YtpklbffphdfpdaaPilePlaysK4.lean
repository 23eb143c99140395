/- PilePlays: cut. -/
import Derived.Test.YtpklbffphdfpdaaPilePlaysC
import Derived.Deep.LoopGhost
import Derived.Deep.DeepCutAuto
import Derived.Deep.CutBlock
import Derived.Deep.RegionHeld3
namespace Go.Proofs.Ytpklbffphdfpdaa.PilePlays
open Go.RowKit Book Mem
set_option linter.unusedSimpArgs false
set_option linter.unusedVariables false
set_option maxHeartbeats 8000000 in
set_option maxRecDepth 1000000 in
theorem way4_yes {W w : World} {pb p g room ob : Nat} {cs : List Int} {ta : Option Addr} {M tc : Nat} {vS vW : Value} {ls : List (Value × List Value)} {nn vv : Int} {sl : Value} {xs : List Int} {Q : Exit → Act → World → Prop} {c0 c1 c2 c3 c4 c5 c6 c7 c8 c9 c14 c18 c19 c20 c21 c22 c23 c24 c25 c26 c27 c28 c29 c30 c31 c32 c33 c34 c35 c36 c37 c38 c39 c40 c41 c42 c43 c44 c45 c46 c47 c48 c49 c50 c51 c52 c53 c54 c55 c56 c57 c58 c59 c60 c61 c62 c63 c64 c65 c66 c67 c68 c69 c70 c71 c72 c73 c74 c75 c76 c77 c78 c79 c80 c81 c82 c83 c84 c85 c86 c87 c88 c89 c90 c91 c92 c94 c95 c96 c97 c98 c99 c100 c101 c102 c103 c104 c105 c106 c107 c108 c109 c110 c111 c112 c113 c114 c115 c116 c117 c118 c119 c120 c121 c122 c123 c124 c125 c126 c127 c128 c129 c130 c131 c132 c133 c134 c135 c136 c137 c138 c139 c140 c141 c142 c143 c144 c145 c146 c147 c148 c149 c150 c151 c152 c153 c154 c155 c156 c157 c158 c159 c160 c161 c162 c163 c164 c165 c166 c167 c168 c169 c170 c171 c172 c173 c174 c175 c176 c177 c178 c179 c180 c181 c182 c183 c184 c185 c186 c187 c188 c189 c190 c191 c192 c193 c194 c195 c196 c197 c198 c199 c200 c201 c202 c203 c204 c205 c206 c207 c208 c209 c210 c211 c212 c213 c214 c215 c216 c217 c218 c219 c220 c221 c222 c223 c224 c225 c226 c227 c228 c229 c230 c231 c232 c233 c234 c235 c236 c237 c238 c239 c240 c241 c242 c243 c244 c245 c246 c247 c248 c249 c250 c251 c252 c253 c254 c255 c256 c257 c258 c259 c260 c261 c262 c263 c264 c265 c266 c267 c268 c269 c270 c271 c272 c273 c274 c275 c276 c277 c278 c279 c280 c281 c282 c283 c284 c285 c286 c287 c288 c289 c290 c291 c292 c293 c294 c295 c296 c297 c298 c299 c300 c301 c302 c303 c304 c305 c306 c307 c308 c309 c310 c311 c312 c313 c314 c315 c316 c317 c318 c319 c320 c321 c322 c323 c324 c325 c326 c327 c328 c329 c330 c331 c332 c333 c334 c335 c336 c337 c338 c339 c340 c341 c342 c343 c344 c345 c346 c347 c348 c349 c350 c351 c352 c353 c354 c355 c356 c357 c358 c359 c360 c361 c362 : Value}
    (hS : St w W.heap.size pb (.slice ta M tc) p g room cs cs vS vW ls [ob]) (hO : w.heap[ob]? = some (.cells #[.int .i64 4, .int .i64 nn, .int .i64 vv, sl] 39 (0, 0))) (hR : Reads W sl xs) (hx : xs.length ≤ 60) (hM : cs.length = M) (hls : ls.length < 240) (hB : Below W.heap.size W w) (hpb : W.heap.size ≤ pb) (hin : 0 ≤ nn ∧ nn ≤ (room : Int))
    (hQ : ∀ (u18 u19 u20 u21 u22 u23 u24 u25 u94 u95 u96 u97 u98 u99 u100 u101 u102 u103 u104 u105 u106 u107 u108 u109 u110 u111 u112 u113 u114 u115 u116 u117 u118 u119 u120 u121 u122 u123 u124 u125 u126 u127 u128 u129 u130 u131 u132 u133 u134 u135 u136 u137 u138 u139 u140 u141 u142 u143 u144 u145 u146 u147 u148 u149 u150 u151 u152 u153 u154 u155 u156 u157 u158 u159 u160 u161 u162 u163 u164 u165 u166 u167 u168 u169 u170 u171 u172 u173 u174 u175 u176 u177 u178 u179 u180 u181 u182 u183 u184 u185 u186 u187 u188 u189 u190 u191 u192 u193 u194 u195 u196 u197 u198 u199 u200 u201 u202 u203 u204 u205 u206 u207 u208 u209 u210 u211 u212 u213 u214 u215 u216 u217 u218 u219 u220 u221 u222 u223 u224 u225 u226 u227 u228 u229 u230 u231 u232 u233 u234 u235 u236 u237 u238 u239 u240 u241 u242 u243 u244 u245 u246 u247 u248 u249 u250 : Value) (w' : World) (p' g' : Nat) (cs' : List Int) (ta' : Option Addr) (M' tc' : Nat) (vS' vW' : Value) (ls' : List (Value × List Value)), cs'.length = M' → ls'.length ≤ ls.length + 1 → St w' W.heap.size pb (.slice ta' M' tc') p' g' room cs' cs' vS' vW' ls' [] → Below W.heap.size W w' → Q .normal ⟨#[c0, c1, c2, c3, c4, c5, c6, c7, c8, c9, .pointer (some ⟨p', 0, none⟩), .int .i64 room, .slice ta' M' tc', .pointer (some ⟨pb, 0, none⟩), c14, .bool true, .pointer (some ⟨ob, 0, none⟩), .int .i64 M, u18, u19, u20, u21, u22, u23, u24, u25, c26, c27, c28, c29, c30, c31, c32, c33, c34, c35, c36, c37, c38, c39, c40, c41, c42, c43, c44, c45, c46, c47, c48, c49, c50, c51, c52, c53, c54, c55, c56, c57, c58, c59, c60, c61, c62, c63, c64, c65, c66, c67, c68, c69, c70, c71, c72, c73, c74, c75, c76, c77, c78, c79, c80, c81, c82, c83, c84, c85, c86, c87, c88, c89, c90, c91, c92, .int .i64 4, u94, u95, u96, u97, u98, u99, u100, u101, u102, u103, u104, u105, u106, u107, u108, u109, u110, u111, u112, u113, u114, u115, u116, u117, u118, u119, u120, u121, u122, u123, u124, u125, u126, u127, u128, u129, u130, u131, u132, u133, u134, u135, u136, u137, u138, u139, u140, u141, u142, u143, u144, u145, u146, u147, u148, u149, u150, u151, u152, u153, u154, u155, u156, u157, u158, u159, u160, u161, u162, u163, u164, u165, u166, u167, u168, u169, u170, u171, u172, u173, u174, u175, u176, u177, u178, u179, u180, u181, u182, u183, u184, u185, u186, u187, u188, u189, u190, u191, u192, u193, u194, u195, u196, u197, u198, u199, u200, u201, u202, u203, u204, u205, u206, u207, u208, u209, u210, u211, u212, u213, u214, u215, u216, u217, u218, u219, u220, u221, u222, u223, u224, u225, u226, u227, u228, u229, u230, u231, u232, u233, u234, u235, u236, u237, u238, u239, u240, u241, u242, u243, u244, u245, u246, u247, u248, u249, u250, c251, c252, c253, c254, c255, c256, c257, c258, c259, c260, c261, c262, c263, c264, c265, c266, c267, c268, c269, c270, c271, c272, c273, c274, c275, c276, c277, c278, c279, c280, c281, c282, c283, c284, c285, c286, c287, c288, c289, c290, c291, c292, c293, c294, c295, c296, c297, c298, c299, c300, c301, c302, c303, c304, c305, c306, c307, c308, c309, c310, c311, c312, c313, c314, c315, c316, c317, c318, c319, c320, c321, c322, c323, c324, c325, c326, c327, c328, c329, c330, c331, c332, c333, c334, c335, c336, c337, c338, c339, c340, c341, c342, c343, c344, c345, c346, c347, c348, c349, c350, c351, c352, c353, c354, c355, c356, c357, c358, c359, c360, c361, c362], []⟩ w') :
    Code.wp Try.prog codeSw Q ⟨#[c0, c1, c2, c3, c4, c5, c6, c7, c8, c9, .pointer (some ⟨p, 0, none⟩), .int .i64 room, .slice ta M tc, .pointer (some ⟨pb, 0, none⟩), c14, .bool true, .pointer (some ⟨ob, 0, none⟩), .int .i64 M, c18, c19, c20, c21, c22, c23, c24, c25, c26, c27, c28, c29, c30, c31, c32, c33, c34, c35, c36, c37, c38, c39, c40, c41, c42, c43, c44, c45, c46, c47, c48, c49, c50, c51, c52, c53, c54, c55, c56, c57, c58, c59, c60, c61, c62, c63, c64, c65, c66, c67, c68, c69, c70, c71, c72, c73, c74, c75, c76, c77, c78, c79, c80, c81, c82, c83, c84, c85, c86, c87, c88, c89, c90, c91, c92, .int .i64 4, c94, c95, c96, c97, c98, c99, c100, c101, c102, c103, c104, c105, c106, c107, c108, c109, c110, c111, c112, c113, c114, c115, c116, c117, c118, c119, c120, c121, c122, c123, c124, c125, c126, c127, c128, c129, c130, c131, c132, c133, c134, c135, c136, c137, c138, c139, c140, c141, c142, c143, c144, c145, c146, c147, c148, c149, c150, c151, c152, c153, c154, c155, c156, c157, c158, c159, c160, c161, c162, c163, c164, c165, c166, c167, c168, c169, c170, c171, c172, c173, c174, c175, c176, c177, c178, c179, c180, c181, c182, c183, c184, c185, c186, c187, c188, c189, c190, c191, c192, c193, c194, c195, c196, c197, c198, c199, c200, c201, c202, c203, c204, c205, c206, c207, c208, c209, c210, c211, c212, c213, c214, c215, c216, c217, c218, c219, c220, c221, c222, c223, c224, c225, c226, c227, c228, c229, c230, c231, c232, c233, c234, c235, c236, c237, c238, c239, c240, c241, c242, c243, c244, c245, c246, c247, c248, c249, c250, c251, c252, c253, c254, c255, c256, c257, c258, c259, c260, c261, c262, c263, c264, c265, c266, c267, c268, c269, c270, c271, c272, c273, c274, c275, c276, c277, c278, c279, c280, c281, c282, c283, c284, c285, c286, c287, c288, c289, c290, c291, c292, c293, c294, c295, c296, c297, c298, c299, c300, c301, c302, c303, c304, c305, c306, c307, c308, c309, c310, c311, c312, c313, c314, c315, c316, c317, c318, c319, c320, c321, c322, c323, c324, c325, c326, c327, c328, c329, c330, c331, c332, c333, c334, c335, c336, c337, c338, c339, c340, c341, c342, c343, c344, c345, c346, c347, c348, c349, c350, c351, c352, c353, c354, c355, c356, c357, c358, c359, c360, c361, c362], []⟩ w := by
  have HS := Lib.hid hS
  have HR := Lib.hid hR
  have HO := Lib.hid hO
  have HM := Lib.hid hM
  have HLS := Lib.hid hls
  have HB := Lib.hid hB
  have HPL := Lib.hid hpb
  have HQ := Lib.hid hQ
  obtain ⟨so, sc, rfl, -⟩ := id hR
  obtain ⟨K, hK⟩ : ∃ K, xs.length = K := ⟨_, rfl⟩
  have HK := Lib.hid hK
  rw [hK] at hx HR hO HO
  have k0 : w.cell? ⟨ob, 0, none⟩ = some (.int .i64 4) := whole_cell hO rfl
  have k1 : w.cell? ⟨ob, 1, none⟩ = some (.int .i64 nn) := whole_cell hO rfl
  have k2 : w.cell? ⟨ob, 2, none⟩ = some (.int .i64 vv) := whole_cell hO rfl
  have k3 : w.cell? ⟨ob, 3, none⟩ = some (.slice so K sc) := whole_cell hO rfl
  have hfit0 : M ≤ room := by have := hS.pile.fits; omega
  have hroom : room ≤ 1000 := hS.pile.most
  clear hS hR hO hM hls hB hpb hQ hK
  conv => arg 2; whnf
  obtain ⟨i0, q1, q2, q3, q4⟩ := info_parts Try.bkIntInfo
  have HI := Lib.hid (And.intro q1 (And.intro q2 (And.intro q3 q4)))
  clear q1 q2 q3 q4
  have HOF := Lib.hid (show ob ∉ foot p g from fun hm => HS.out.fx _ hm List.mem_cons_self)
  obtain ⟨a, rfl⟩ : ∃ a : Nat, nn = (a : Int) := ⟨nn.toNat, by omega⟩
  obtain ⟨h, hh⟩ : ∃ h, min M a = h := ⟨_, rfl⟩
  have HH := Lib.hid hh
  have e0 : (0 : Int) ≤ (a : Int) := by omega
  have e1 : (a : Int) ≤ (room : Int) := hin.2
  have em : min (M : Int) (a : Int) = (h : Int) := by omega
  have hhM : h ≤ M := by omega
  have hha : h ≤ a := by omega
  have har : a ≤ room := by omega
  clear hh hin
  have C := Lib.hid (cut_yes HS.out.pile a har)
  go_wp2_with fail
  refine C.out.mono ?_
  rintro e w1 ⟨rfl, hP, hs⟩
  have HS1 := Lib.hid (HS.out.did hP hs (fun _ h => h))
  have HO1 := Lib.hid (hs.whole HO.out HOF.out)
  have HB1 := Lib.hid (HS.out.pile.past HB.out (fun _ h => h) hs)
  clear hP hs C HS HO HB k0 k1 k2 k3
  have k1 : w1.cell? ⟨ob, 1, none⟩ = some (.int .i64 a) := whole_cell HO1.out rfl
  have HW1 := Lib.hid (ReadsC.of_owns HS1.out.want)
  go_wp2_with (refine wpList_slice_part (o := ⟨_, Op.slice _ _ _ _ none, _, _, _, _⟩) (by rfl) _ _ _ _ rfl 3 Try.underlying22 Try.sizeOf3 _ cs rfl HW1.out 0 h (.inr ⟨rfl, rfl⟩) (.inl rfl) (Nat.zero_le _) (by have := HM.out; omega) ?_)
  intro y hy
  try rw [List.drop_zero] at hy
  have HY := Lib.hid hy
  clear hy
  go_wp2_with (at_builtin; refine wpList_append_reads _ rfl _ _ 22 rfl w1.heap.size 3 i0 (.int .i64 0) 8 Try.underlying22 HI.out.1 HI.out.2.1 HI.out.2.2.1 HI.out.2.2.2 rfl _ [] rfl (Owns.nil _ _ _) _ (cs.take h) rfl HY.out.1 ?c3 ?c4 (Nat.le_refl _) ?_)
  case c3 => have := HM.out; unfold maxLen; rw [List.length_nil, List.length_take]; omega
  case c4 => have := HM.out; rw [List.length_nil, List.length_take]; omega
  intro v4 w4 hO _ hs _
  have hV4 : Owns w4 w1.heap.size 3 v4 (vals (cs.take h)) := by rw [vals, List.map_take]; simpa using hO
  obtain ⟨to', tc', e⟩ := hV4.slice
  rw [vals_length, List.length_take, HM.out, Nat.min_eq_left hhM] at e
  subst e
  have HV4 := Lib.hid (show Owns w4 w1.heap.size 3 (.slice to' h tc') (vals (cs.take h ++ List.replicate 0 0)) from by simpa using hV4)
  have HZ4 := Lib.hid (hs.below (B := w1.heap.size) (fun z hz => by cases hz) (Nat.le_refl _))
  clear hO hs hV4 HY HW1
  go_wp2
  go_loopg [12] (a - h) (fun g' t wr => ∃ (i L : Nat) (uo : Option Addr) (uc : Nat), g' = (a - h) - i ∧ i ≤ a - h ∧ Hid (L = h + i) ∧ t = .slice uo L uc ∧ Hid (Owns wr w1.heap.size 3 (.slice uo L uc) (vals (cs.take h ++ List.replicate i 0))) ∧ Hid (Below w1.heap.size w1 wr))
  case atStart => exact ⟨0, h, to', tc', rfl, Nat.zero_le _, rfl, rfl, HV4.out, HZ4.out⟩
  case round =>
    obtain ⟨i, L, uo, uc, rfl, hi, HL, rfl, HV, HZ⟩ := hrel
    have k1r : wr.cell? ⟨ob, 1, none⟩ = some (.int .i64 a) := (Stirred.of_below HZ.out []).cell List.not_mem_nil k1
    by_cases hlt : L < a
    · have e2 : decide ((L : Int) < (a : Int)) = true := decide_eq_true (by omega)
      obtain ⟨hbl, hrl⟩ := built wr [0]
      have hk : wr.alloc (.cells #[.int .i64 0] 3) = wr.alloc (.cells (vals [0]).toArray 3) := rfl
      obtain ⟨wa, hwa⟩ : ∃ wa, wr.alloc (.cells (vals [0]).toArray 3) = wa := ⟨_, rfl⟩
      rw [hwa] at hbl hrl hk
      have HRL := Lib.hid (hrl wa [] (Stirred.refl _ _) List.not_mem_nil 1)
      have HVA := Lib.hid (HV.out.below hbl)
      have HZA := Lib.hid (HZ.out.trans (hbl.mono HZ.out.size))
      have hLn := HL.out
      have HXL := Lib.hid (show (vals (cs.take h ++ List.replicate i 0)).length = L by rw [vals_length, List.length_append, List.length_take, List.length_replicate, HM.out]; omega)
      clear hbl hrl hwa hLn
      go_wp2_with (at_builtin; refine wpList_append_reads _ rfl _ _ 22 rfl w1.heap.size 3 i0 (.int .i64 0) 8 Try.underlying22 HI.out.1 HI.out.2.1 HI.out.2.2.1 HI.out.2.2.2 rfl _ (vals (cs.take h ++ List.replicate i 0)) rfl HVA.out (.slice (some ⟨wr.heap.size, 0, none⟩) 1 1) [0] rfl HRL.out ?d3 ?d4 HZA.out.size ?_)
      case d3 => rw [HXL.out]; unfold maxLen; simp; omega
      case d4 => rw [HXL.out]; simp; omega
      intro v5 w5 hO _ hs _
      have hV5 : Owns w5 w1.heap.size 3 v5 (vals (cs.take h ++ List.replicate (i + 1) 0)) := by
        rw [List.replicate_succ', ← List.append_assoc]
        simpa [vals] using hO
      obtain ⟨vo', vc', e⟩ := hV5.slice
      rw [vals_length, List.length_append, List.length_take, List.length_replicate, HM.out, show min h M + (i + 1) = L + 1 by have := HL.out; omega] at e
      subst e
      have HV5 := Lib.hid hV5
      have HZ5 := Lib.hid (HZA.out.trans (hs.below (B := w1.heap.size) (fun z hz => (HVA.out.block z (by simpa using hz)).1) HZA.out.size))
      have HL5 := Lib.hid (show L + 1 = h + (i + 1) by have := HL.out; omega)
      have hi5 : i + 1 ≤ a - h := by have := HL.out; omega
      clear hO hs hV5
      go_wp2
      go_roundg ((a - h) - (i + 1))
      case measure => omega
      case rel => exact ⟨i + 1, L + 1, vo', vc', rfl, hi5, HL5, rfl, HV5, HZ5⟩
    · have e2 : decide ((L : Int) < (a : Int)) = false := decide_eq_false (by omega)
      have hLa : L = a := by have := HL.out; omega
      subst hLa
      have hcut : cutTo cs L = cs.take h ++ List.replicate i 0 := by
        have h1 := HL.out
        have h2 := HH.out
        have h3 := HM.out
        unfold cutTo
        by_cases hc : L ≤ M
        · obtain rfl : h = L := by omega
          obtain rfl : i = 0 := by omega
          rw [show h - cs.length = 0 by omega]
        · obtain rfl : h = M := by omega
          rw [List.take_of_length_le (by omega), List.take_of_length_le (by omega), show L - cs.length = i by omega]
      have HVL := Lib.hid (show Owns wr w1.heap.size 3 (.slice uo L uc) (vals (cutTo cs L)) from by rw [hcut]; exact HV.out)
      have HSF := Lib.hid ((HS1.out.wantNew HZ.out HVL.out (Nat.le_refl _)).drop)
      have HBF := Lib.hid (HB1.out.trans (HZ.out.mono HB1.out.size))
      have HCL := Lib.hid (cutTo_length cs L)
      clear hcut hlt
      go_wp2
      exact HQ.out _ _ _ _ _ _ _ _ _ _ _ _ _ _ _ _ _ _ _ _ _ _ _ _ _ _ _ _ _ _ _ _ _ _ _ _ _ _ _ _ _ _ _ _ _ _ _ _ _ _ _ _ _ _ _ _ _ _ _ _ _ _ _ _ _ _ _ _ _ _ _ _ _ _ _ _ _ _ _ _ _ _ _ _ _ _ _ _ _ _ _ _ _ _ _ _ _ _ _ _ _ _ _ _ _ _ _ _ _ _ _ _ _ _ _ _ _ _ _ _ _ _ _ _ _ _ _ _ _ _ _ _ _ _ _ _ _ _ _ _ _ _ _ _ _ _ _ _ _ _ _ _ _ _ _ _ _ _ _ _ _ _ _ _ _ _ _ _ _ _ _ _ _ _ _ HCL.out (Nat.le_succ _) HSF.out HBF.out
end Go.Proofs.Ytpklbffphdfpdaa.PilePlays
