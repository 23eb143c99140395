/- PilePlays: a round's end, the cell that is asked for not being there. -/
import Derived.Test.YtpklbffphdfpdaaPilePlaysC
import Derived.Deep.LoopGhost
import Derived.Deep.DeepCutAuto
import Derived.Deep.CutBlock
import Derived.Deep.RegionHeld3
namespace Go.Proofs.Ytpklbffphdfpdaa.PilePlays
open Go.RowKit Book Mem
set_option linter.unusedSimpArgs false
set_option linter.unusedVariables false
set_option maxHeartbeats 8000000 in
set_option maxRecDepth 1000000 in
theorem end_over {W w : World} {pb p g room : Nat} {cs : List Int} {ta : Option Addr} {M tc : Nat} {vS vW : Value} {ls : List (Value × List Value)} {ask : Int} {Q : Exit → Act → World → Prop} {c0 c1 c2 c4 c5 c6 c7 c8 c9 c14 c16 c17 c18 c19 c20 c21 c22 c23 c24 c25 c26 c27 c28 c29 c30 c31 c32 c33 c34 c35 c36 c37 c38 c39 c40 c41 c42 c43 c44 c45 c46 c47 c48 c49 c50 c51 c52 c53 c54 c55 c56 c57 c58 c59 c60 c61 c62 c63 c64 c65 c66 c67 c68 c69 c70 c71 c72 c73 c74 c75 c76 c77 c78 c79 c80 c81 c82 c83 c84 c85 c86 c87 c88 c89 c90 c91 c92 c93 c94 c95 c96 c97 c98 c99 c100 c101 c102 c103 c104 c105 c106 c107 c108 c109 c110 c111 c112 c113 c114 c115 c116 c117 c118 c119 c120 c121 c122 c123 c124 c125 c126 c127 c128 c129 c130 c131 c132 c133 c134 c135 c136 c137 c138 c139 c140 c141 c142 c143 c144 c145 c146 c147 c148 c149 c150 c151 c152 c153 c154 c155 c156 c157 c158 c159 c160 c161 c162 c163 c164 c165 c166 c167 c168 c169 c170 c171 c172 c173 c174 c175 c176 c177 c178 c179 c180 c181 c182 c183 c184 c185 c186 c187 c188 c189 c190 c191 c192 c193 c194 c195 c196 c197 c198 c199 c200 c201 c202 c203 c204 c205 c206 c207 c208 c209 c210 c211 c212 c213 c214 c215 c216 c217 c218 c219 c220 c221 c222 c223 c224 c225 c226 c227 c228 c229 c230 c231 c232 c233 c234 c235 c236 c237 c238 c239 c240 c241 c242 c243 c244 c245 c246 c247 c248 c249 c250 c251 c252 c253 c254 c255 c256 c257 c258 c259 c260 c261 c262 c263 c264 c265 c266 c267 c268 c269 c270 c271 c272 c273 c274 c275 c276 c277 c278 c279 c280 c281 c282 c283 c284 c285 c286 c287 c288 c289 c290 c291 c292 c293 c294 c295 c296 c297 c298 c299 c300 c301 c302 c303 c304 c305 c306 c307 c308 c309 c310 c311 c312 c313 c314 c315 c316 c317 c318 c319 c320 c321 c322 c323 c324 c325 c326 c327 c328 c329 c330 c331 c332 c333 c334 c335 c336 c337 c338 c339 c340 c341 c342 c343 c344 c345 c346 c347 c348 c349 c350 c351 c352 c353 c354 c355 c356 c357 c358 c359 c360 c361 c362 : Value}
    (hS : St w W.heap.size pb (.slice ta M tc) p g room cs cs vS vW ls []) (hM : cs.length = M) (hls : ls.length < 240) (hB : Below W.heap.size W w) (hpb : W.heap.size ≤ pb) (hin : ¬ (0 ≤ ask ∧ ask < (M : Int))) (ha : 0 ≤ ask)
    (hQ : ∀ (u26 u27 u28 u29 u251 u252 u253 u254 u255 u256 u257 u258 u259 u260 u261 u262 u263 u264 u265 u266 u267 u268 u269 u270 u271 u272 u273 u274 u275 u276 u277 u278 u279 u280 u281 u282 u283 u284 u285 u286 u287 u288 u289 u290 u291 u292 u293 u294 u295 u296 u297 u298 u299 u300 u301 u302 u303 u304 u305 u306 u307 u308 u309 u310 u311 u312 : Value) (w' : World) (vS' vW' : Value) (ls' : List (Value × List Value)), ls'.length = ls.length + 1 → St w' W.heap.size pb (.slice ta M tc) p g room cs cs vS' vW' ls' [] → Below W.heap.size W w' → Q .normal ⟨#[c0, c1, c2, .int .i64 ask, c4, c5, c6, c7, c8, c9, .pointer (some ⟨p, 0, none⟩), .int .i64 room, .slice ta M tc, .pointer (some ⟨pb, 0, none⟩), c14, .bool true, c16, c17, c18, c19, c20, c21, c22, c23, c24, c25, u26, u27, u28, u29, c30, c31, c32, c33, c34, c35, c36, c37, c38, c39, c40, c41, c42, c43, c44, c45, c46, c47, c48, c49, c50, c51, c52, c53, c54, c55, c56, c57, c58, c59, c60, c61, c62, c63, c64, c65, c66, c67, c68, c69, c70, c71, c72, c73, c74, c75, c76, c77, c78, c79, c80, c81, c82, c83, c84, c85, c86, c87, c88, c89, c90, c91, c92, c93, c94, c95, c96, c97, c98, c99, c100, c101, c102, c103, c104, c105, c106, c107, c108, c109, c110, c111, c112, c113, c114, c115, c116, c117, c118, c119, c120, c121, c122, c123, c124, c125, c126, c127, c128, c129, c130, c131, c132, c133, c134, c135, c136, c137, c138, c139, c140, c141, c142, c143, c144, c145, c146, c147, c148, c149, c150, c151, c152, c153, c154, c155, c156, c157, c158, c159, c160, c161, c162, c163, c164, c165, c166, c167, c168, c169, c170, c171, c172, c173, c174, c175, c176, c177, c178, c179, c180, c181, c182, c183, c184, c185, c186, c187, c188, c189, c190, c191, c192, c193, c194, c195, c196, c197, c198, c199, c200, c201, c202, c203, c204, c205, c206, c207, c208, c209, c210, c211, c212, c213, c214, c215, c216, c217, c218, c219, c220, c221, c222, c223, c224, c225, c226, c227, c228, c229, c230, c231, c232, c233, c234, c235, c236, c237, c238, c239, c240, c241, c242, c243, c244, c245, c246, c247, c248, c249, c250, u251, u252, u253, u254, u255, u256, u257, u258, u259, u260, u261, u262, u263, u264, u265, u266, u267, u268, u269, u270, u271, u272, u273, u274, u275, u276, u277, u278, u279, u280, u281, u282, u283, u284, u285, u286, u287, u288, u289, u290, u291, u292, u293, u294, u295, u296, u297, u298, u299, u300, u301, u302, u303, u304, u305, u306, u307, u308, u309, u310, u311, u312, c313, c314, c315, c316, c317, c318, c319, c320, c321, c322, c323, c324, c325, c326, c327, c328, c329, c330, c331, c332, c333, c334, c335, c336, c337, c338, c339, c340, c341, c342, c343, c344, c345, c346, c347, c348, c349, c350, c351, c352, c353, c354, c355, c356, c357, c358, c359, c360, c361, c362], []⟩ w') :
    Code.wp Try.prog codeEnd Q ⟨#[c0, c1, c2, .int .i64 ask, c4, c5, c6, c7, c8, c9, .pointer (some ⟨p, 0, none⟩), .int .i64 room, .slice ta M tc, .pointer (some ⟨pb, 0, none⟩), c14, .bool true, c16, c17, c18, c19, c20, c21, c22, c23, c24, c25, c26, c27, c28, c29, c30, c31, c32, c33, c34, c35, c36, c37, c38, c39, c40, c41, c42, c43, c44, c45, c46, c47, c48, c49, c50, c51, c52, c53, c54, c55, c56, c57, c58, c59, c60, c61, c62, c63, c64, c65, c66, c67, c68, c69, c70, c71, c72, c73, c74, c75, c76, c77, c78, c79, c80, c81, c82, c83, c84, c85, c86, c87, c88, c89, c90, c91, c92, c93, c94, c95, c96, c97, c98, c99, c100, c101, c102, c103, c104, c105, c106, c107, c108, c109, c110, c111, c112, c113, c114, c115, c116, c117, c118, c119, c120, c121, c122, c123, c124, c125, c126, c127, c128, c129, c130, c131, c132, c133, c134, c135, c136, c137, c138, c139, c140, c141, c142, c143, c144, c145, c146, c147, c148, c149, c150, c151, c152, c153, c154, c155, c156, c157, c158, c159, c160, c161, c162, c163, c164, c165, c166, c167, c168, c169, c170, c171, c172, c173, c174, c175, c176, c177, c178, c179, c180, c181, c182, c183, c184, c185, c186, c187, c188, c189, c190, c191, c192, c193, c194, c195, c196, c197, c198, c199, c200, c201, c202, c203, c204, c205, c206, c207, c208, c209, c210, c211, c212, c213, c214, c215, c216, c217, c218, c219, c220, c221, c222, c223, c224, c225, c226, c227, c228, c229, c230, c231, c232, c233, c234, c235, c236, c237, c238, c239, c240, c241, c242, c243, c244, c245, c246, c247, c248, c249, c250, c251, c252, c253, c254, c255, c256, c257, c258, c259, c260, c261, c262, c263, c264, c265, c266, c267, c268, c269, c270, c271, c272, c273, c274, c275, c276, c277, c278, c279, c280, c281, c282, c283, c284, c285, c286, c287, c288, c289, c290, c291, c292, c293, c294, c295, c296, c297, c298, c299, c300, c301, c302, c303, c304, c305, c306, c307, c308, c309, c310, c311, c312, c313, c314, c315, c316, c317, c318, c319, c320, c321, c322, c323, c324, c325, c326, c327, c328, c329, c330, c331, c332, c333, c334, c335, c336, c337, c338, c339, c340, c341, c342, c343, c344, c345, c346, c347, c348, c349, c350, c351, c352, c353, c354, c355, c356, c357, c358, c359, c360, c361, c362], []⟩ w := by
  have HS := Lib.hid hS
  have HM := Lib.hid hM
  have HLS := Lib.hid hls
  have HB := Lib.hid hB
  have HPL := Lib.hid hpb
  have HQ := Lib.hid hQ
  have hfit0 : M ≤ room := by have := hS.pile.fits; omega
  have hroom : room ≤ 1000 := hS.pile.most
  clear hS hM hls hB hpb hQ
  conv => arg 2; whnf
  have C := Lib.hid (all_any HS.out.pile)
  go_wp2_with fail
  refine C.out.mono ?_
  rintro e w1 ⟨a, rfl, ha, hb⟩
  obtain ⟨ao, ac, hav⟩ := ha.slice
  rw [vals_length, HM.out] at hav
  subst hav
  have HA1 := Lib.hid ha
  have HS1 := Lib.hid (HS.out.below hb)
  have HB1 := Lib.hid (HB.out.trans (hb.mono HB.out.size))
  have C := Lib.hid (HS.out.addNew hb (by have := HLS.out; omega) (Nat.le_refl _) ha (by rw [HM.out]; omega))
  clear ha hb HS HB
  go_wp2_with fail
  refine C.out.mono ?_
  rintro e w2 ⟨rfl, vS', vW', hS, hs⟩
  have HS2 := Lib.hid hS
  have HA2 := Lib.hid (HS1.out.row_book hs HA1.out)
  have HB2 := Lib.hid (HB1.out.trans ((hs.below (B := W.heap.size) (HS1.out.book_low HPL.out) HB1.out.size).mono (Nat.le_refl _)))
  have HLF := Lib.hid (show (ls ++ [((.slice ao M ac : Value), vals cs)]).length = ls.length + 1 by simp)
  clear hS hs C HS1 HA1 HB1
  have C := Lib.hid (peek_no HS2.out.pile ask (by rw [HM.out]; exact hin))
  have ha1 : decide (ask < (M : Int)) = false := decide_eq_false (by omega)
  clear hin
  go_wp2_with fail
  refine C.out.mono ?_
  rintro e wz ⟨rfl, hwz⟩
  subst wz
  clear C
  have C := Lib.hid (sameInts_any _ _ _ _ cs w2 HA2.out HS2.out.want (by rw [HM.out]; omega))
  go_wp2_with fail
  refine C.out.mono ?_
  rintro e w4 ⟨rfl, q4, hq4⟩
  have hb : Below w2.heap.size w2 w4 := by rw [hq4]; exact bk_below_drewN _ _ _
  have HS4 := Lib.hid (HS2.out.below hb)
  have HB4 := Lib.hid (HB2.out.trans (hb.mono HB2.out.size))
  clear hq4 hb C HS2 HB2 HA2
  have C := Lib.hid (len_any HS4.out.pile)
  rw [HM.out] at C
  go_wp2_with fail
  refine C.out.mono ?_
  rintro e wz ⟨rfl, hwz⟩
  subst wz
  clear C
  go_wp2
  exact HQ.out _ _ _ _ _ _ _ _ _ _ _ _ _ _ _ _ _ _ _ _ _ _ _ _ _ _ _ _ _ _ _ _ _ _ _ _ _ _ _ _ _ _ _ _ _ _ _ _ _ _ _ _ _ _ _ _ _ _ _ _ _ _ _ _ _ _ _ _ _ _ HLF.out HS4.out HB4.out
set_option maxHeartbeats 8000000 in
set_option maxRecDepth 1000000 in
theorem end_under {W w : World} {pb p g room : Nat} {cs : List Int} {ta : Option Addr} {M tc : Nat} {vS vW : Value} {ls : List (Value × List Value)} {ask : Int} {Q : Exit → Act → World → Prop} {c0 c1 c2 c4 c5 c6 c7 c8 c9 c14 c16 c17 c18 c19 c20 c21 c22 c23 c24 c25 c26 c27 c28 c29 c30 c31 c32 c33 c34 c35 c36 c37 c38 c39 c40 c41 c42 c43 c44 c45 c46 c47 c48 c49 c50 c51 c52 c53 c54 c55 c56 c57 c58 c59 c60 c61 c62 c63 c64 c65 c66 c67 c68 c69 c70 c71 c72 c73 c74 c75 c76 c77 c78 c79 c80 c81 c82 c83 c84 c85 c86 c87 c88 c89 c90 c91 c92 c93 c94 c95 c96 c97 c98 c99 c100 c101 c102 c103 c104 c105 c106 c107 c108 c109 c110 c111 c112 c113 c114 c115 c116 c117 c118 c119 c120 c121 c122 c123 c124 c125 c126 c127 c128 c129 c130 c131 c132 c133 c134 c135 c136 c137 c138 c139 c140 c141 c142 c143 c144 c145 c146 c147 c148 c149 c150 c151 c152 c153 c154 c155 c156 c157 c158 c159 c160 c161 c162 c163 c164 c165 c166 c167 c168 c169 c170 c171 c172 c173 c174 c175 c176 c177 c178 c179 c180 c181 c182 c183 c184 c185 c186 c187 c188 c189 c190 c191 c192 c193 c194 c195 c196 c197 c198 c199 c200 c201 c202 c203 c204 c205 c206 c207 c208 c209 c210 c211 c212 c213 c214 c215 c216 c217 c218 c219 c220 c221 c222 c223 c224 c225 c226 c227 c228 c229 c230 c231 c232 c233 c234 c235 c236 c237 c238 c239 c240 c241 c242 c243 c244 c245 c246 c247 c248 c249 c250 c251 c252 c253 c254 c255 c256 c257 c258 c259 c260 c261 c262 c263 c264 c265 c266 c267 c268 c269 c270 c271 c272 c273 c274 c275 c276 c277 c278 c279 c280 c281 c282 c283 c284 c285 c286 c287 c288 c289 c290 c291 c292 c293 c294 c295 c296 c297 c298 c299 c300 c301 c302 c303 c304 c305 c306 c307 c308 c309 c310 c311 c312 c313 c314 c315 c316 c317 c318 c319 c320 c321 c322 c323 c324 c325 c326 c327 c328 c329 c330 c331 c332 c333 c334 c335 c336 c337 c338 c339 c340 c341 c342 c343 c344 c345 c346 c347 c348 c349 c350 c351 c352 c353 c354 c355 c356 c357 c358 c359 c360 c361 c362 : Value}
    (hS : St w W.heap.size pb (.slice ta M tc) p g room cs cs vS vW ls []) (hM : cs.length = M) (hls : ls.length < 240) (hB : Below W.heap.size W w) (hpb : W.heap.size ≤ pb) (hin : ¬ (0 ≤ ask ∧ ask < (M : Int))) (ha : ¬ 0 ≤ ask)
    (hQ : ∀ (u26 u27 u28 u29 u251 u252 u253 u254 u255 u256 u257 u258 u259 u260 u261 u262 u263 u264 u265 u266 u267 u268 u269 u270 u271 u272 u273 u274 u275 u276 u277 u278 u279 u280 u281 u282 u283 u284 u285 u286 u287 u288 u289 u290 u291 u292 u293 u294 u295 u296 u297 u298 u299 u300 u301 u302 u303 u304 u305 u306 u307 u308 u309 u310 u311 u312 : Value) (w' : World) (vS' vW' : Value) (ls' : List (Value × List Value)), ls'.length = ls.length + 1 → St w' W.heap.size pb (.slice ta M tc) p g room cs cs vS' vW' ls' [] → Below W.heap.size W w' → Q .normal ⟨#[c0, c1, c2, .int .i64 ask, c4, c5, c6, c7, c8, c9, .pointer (some ⟨p, 0, none⟩), .int .i64 room, .slice ta M tc, .pointer (some ⟨pb, 0, none⟩), c14, .bool true, c16, c17, c18, c19, c20, c21, c22, c23, c24, c25, u26, u27, u28, u29, c30, c31, c32, c33, c34, c35, c36, c37, c38, c39, c40, c41, c42, c43, c44, c45, c46, c47, c48, c49, c50, c51, c52, c53, c54, c55, c56, c57, c58, c59, c60, c61, c62, c63, c64, c65, c66, c67, c68, c69, c70, c71, c72, c73, c74, c75, c76, c77, c78, c79, c80, c81, c82, c83, c84, c85, c86, c87, c88, c89, c90, c91, c92, c93, c94, c95, c96, c97, c98, c99, c100, c101, c102, c103, c104, c105, c106, c107, c108, c109, c110, c111, c112, c113, c114, c115, c116, c117, c118, c119, c120, c121, c122, c123, c124, c125, c126, c127, c128, c129, c130, c131, c132, c133, c134, c135, c136, c137, c138, c139, c140, c141, c142, c143, c144, c145, c146, c147, c148, c149, c150, c151, c152, c153, c154, c155, c156, c157, c158, c159, c160, c161, c162, c163, c164, c165, c166, c167, c168, c169, c170, c171, c172, c173, c174, c175, c176, c177, c178, c179, c180, c181, c182, c183, c184, c185, c186, c187, c188, c189, c190, c191, c192, c193, c194, c195, c196, c197, c198, c199, c200, c201, c202, c203, c204, c205, c206, c207, c208, c209, c210, c211, c212, c213, c214, c215, c216, c217, c218, c219, c220, c221, c222, c223, c224, c225, c226, c227, c228, c229, c230, c231, c232, c233, c234, c235, c236, c237, c238, c239, c240, c241, c242, c243, c244, c245, c246, c247, c248, c249, c250, u251, u252, u253, u254, u255, u256, u257, u258, u259, u260, u261, u262, u263, u264, u265, u266, u267, u268, u269, u270, u271, u272, u273, u274, u275, u276, u277, u278, u279, u280, u281, u282, u283, u284, u285, u286, u287, u288, u289, u290, u291, u292, u293, u294, u295, u296, u297, u298, u299, u300, u301, u302, u303, u304, u305, u306, u307, u308, u309, u310, u311, u312, c313, c314, c315, c316, c317, c318, c319, c320, c321, c322, c323, c324, c325, c326, c327, c328, c329, c330, c331, c332, c333, c334, c335, c336, c337, c338, c339, c340, c341, c342, c343, c344, c345, c346, c347, c348, c349, c350, c351, c352, c353, c354, c355, c356, c357, c358, c359, c360, c361, c362], []⟩ w') :
    Code.wp Try.prog codeEnd Q ⟨#[c0, c1, c2, .int .i64 ask, c4, c5, c6, c7, c8, c9, .pointer (some ⟨p, 0, none⟩), .int .i64 room, .slice ta M tc, .pointer (some ⟨pb, 0, none⟩), c14, .bool true, c16, c17, c18, c19, c20, c21, c22, c23, c24, c25, c26, c27, c28, c29, c30, c31, c32, c33, c34, c35, c36, c37, c38, c39, c40, c41, c42, c43, c44, c45, c46, c47, c48, c49, c50, c51, c52, c53, c54, c55, c56, c57, c58, c59, c60, c61, c62, c63, c64, c65, c66, c67, c68, c69, c70, c71, c72, c73, c74, c75, c76, c77, c78, c79, c80, c81, c82, c83, c84, c85, c86, c87, c88, c89, c90, c91, c92, c93, c94, c95, c96, c97, c98, c99, c100, c101, c102, c103, c104, c105, c106, c107, c108, c109, c110, c111, c112, c113, c114, c115, c116, c117, c118, c119, c120, c121, c122, c123, c124, c125, c126, c127, c128, c129, c130, c131, c132, c133, c134, c135, c136, c137, c138, c139, c140, c141, c142, c143, c144, c145, c146, c147, c148, c149, c150, c151, c152, c153, c154, c155, c156, c157, c158, c159, c160, c161, c162, c163, c164, c165, c166, c167, c168, c169, c170, c171, c172, c173, c174, c175, c176, c177, c178, c179, c180, c181, c182, c183, c184, c185, c186, c187, c188, c189, c190, c191, c192, c193, c194, c195, c196, c197, c198, c199, c200, c201, c202, c203, c204, c205, c206, c207, c208, c209, c210, c211, c212, c213, c214, c215, c216, c217, c218, c219, c220, c221, c222, c223, c224, c225, c226, c227, c228, c229, c230, c231, c232, c233, c234, c235, c236, c237, c238, c239, c240, c241, c242, c243, c244, c245, c246, c247, c248, c249, c250, c251, c252, c253, c254, c255, c256, c257, c258, c259, c260, c261, c262, c263, c264, c265, c266, c267, c268, c269, c270, c271, c272, c273, c274, c275, c276, c277, c278, c279, c280, c281, c282, c283, c284, c285, c286, c287, c288, c289, c290, c291, c292, c293, c294, c295, c296, c297, c298, c299, c300, c301, c302, c303, c304, c305, c306, c307, c308, c309, c310, c311, c312, c313, c314, c315, c316, c317, c318, c319, c320, c321, c322, c323, c324, c325, c326, c327, c328, c329, c330, c331, c332, c333, c334, c335, c336, c337, c338, c339, c340, c341, c342, c343, c344, c345, c346, c347, c348, c349, c350, c351, c352, c353, c354, c355, c356, c357, c358, c359, c360, c361, c362], []⟩ w := by
  have HS := Lib.hid hS
  have HM := Lib.hid hM
  have HLS := Lib.hid hls
  have HB := Lib.hid hB
  have HPL := Lib.hid hpb
  have HQ := Lib.hid hQ
  have hfit0 : M ≤ room := by have := hS.pile.fits; omega
  have hroom : room ≤ 1000 := hS.pile.most
  clear hS hM hls hB hpb hQ
  conv => arg 2; whnf
  have C := Lib.hid (all_any HS.out.pile)
  go_wp2_with fail
  refine C.out.mono ?_
  rintro e w1 ⟨a, rfl, ha, hb⟩
  obtain ⟨ao, ac, hav⟩ := ha.slice
  rw [vals_length, HM.out] at hav
  subst hav
  have HA1 := Lib.hid ha
  have HS1 := Lib.hid (HS.out.below hb)
  have HB1 := Lib.hid (HB.out.trans (hb.mono HB.out.size))
  have C := Lib.hid (HS.out.addNew hb (by have := HLS.out; omega) (Nat.le_refl _) ha (by rw [HM.out]; omega))
  clear ha hb HS HB
  go_wp2_with fail
  refine C.out.mono ?_
  rintro e w2 ⟨rfl, vS', vW', hS, hs⟩
  have HS2 := Lib.hid hS
  have HA2 := Lib.hid (HS1.out.row_book hs HA1.out)
  have HB2 := Lib.hid (HB1.out.trans ((hs.below (B := W.heap.size) (HS1.out.book_low HPL.out) HB1.out.size).mono (Nat.le_refl _)))
  have HLF := Lib.hid (show (ls ++ [((.slice ao M ac : Value), vals cs)]).length = ls.length + 1 by simp)
  clear hS hs C HS1 HA1 HB1
  have C := Lib.hid (peek_no HS2.out.pile ask (by rw [HM.out]; exact hin))
  clear hin
  go_wp2_with fail
  refine C.out.mono ?_
  rintro e wz ⟨rfl, hwz⟩
  subst wz
  clear C
  have C := Lib.hid (sameInts_any _ _ _ _ cs w2 HA2.out HS2.out.want (by rw [HM.out]; omega))
  go_wp2_with fail
  refine C.out.mono ?_
  rintro e w4 ⟨rfl, q4, hq4⟩
  have hb : Below w2.heap.size w2 w4 := by rw [hq4]; exact bk_below_drewN _ _ _
  have HS4 := Lib.hid (HS2.out.below hb)
  have HB4 := Lib.hid (HB2.out.trans (hb.mono HB2.out.size))
  clear hq4 hb C HS2 HB2 HA2
  have C := Lib.hid (len_any HS4.out.pile)
  rw [HM.out] at C
  go_wp2_with fail
  refine C.out.mono ?_
  rintro e wz ⟨rfl, hwz⟩
  subst wz
  clear C
  go_wp2
  exact HQ.out _ _ _ _ _ _ _ _ _ _ _ _ _ _ _ _ _ _ _ _ _ _ _ _ _ _ _ _ _ _ _ _ _ _ _ _ _ _ _ _ _ _ _ _ _ _ _ _ _ _ _ _ _ _ _ _ _ _ _ _ _ _ _ _ _ _ _ _ _ _ HLF.out HS4.out HB4.out
end Go.Proofs.Ytpklbffphdfpdaa.PilePlays
