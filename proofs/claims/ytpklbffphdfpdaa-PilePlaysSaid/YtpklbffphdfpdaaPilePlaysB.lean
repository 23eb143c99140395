/- PilePlays: a round's beginning: the operation is looked at. -/
import Derived.Test.YtpklbffphdfpdaaPilePlaysS
import Derived.Deep.LoopGhost
import Derived.Deep.DeepCutAuto
import Derived.Deep.CutBlock
import Derived.Deep.RegionHeld3
namespace Go.Proofs.Ytpklbffphdfpdaa.PilePlays
open Go.RowKit Book Mem
set_option linter.unusedSimpArgs false
set_option linter.unusedVariables false
/-- the code from a region on, under a test, too -/
def fromUnder (k : Nat) : Code → Option Code
  | .seq a b => if begins k a then some (.seq a b) else match fromUnder k a with
    | some d => some d
    | none => if begins k b then some b else fromUnder k b
  | .block _ c => fromUnder k c
  | .loop c => fromUnder k c
  | .scope c => fromUnder k c
  | .cond _ a b => match fromUnder k a with
    | some d => some d
    | none => fromUnder k b
  | _ => none
noncomputable def codeIf : Code := ((Try.f3.body.bind (fromUnder 15)).getD .skip)
set_option maxHeartbeats 8000000 in
set_option maxRecDepth 1000000 in
theorem under {W w : World} {pb p g room k N oc : Nat} {oo : Option Addr} {iv : Int} {ops : List OpIn} {cs : List Int} {ta : Option Addr} {M tc : Nat} {vS vW : Value} {ls : List (Value × List Value)} {Q : Exit → Act → World → Prop} {c0 c1 c3 c4 c5 c6 c7 c8 c9 c16 c17 c18 c19 c20 c21 c22 c23 c24 c25 c26 c27 c28 c29 c30 c31 c32 c33 c34 c35 c36 c37 c38 c39 c40 c41 c42 c43 c44 c45 c46 c47 c48 c49 c50 c51 c52 c53 c54 c55 c56 c57 c58 c59 c60 c61 c62 c63 c64 c65 c66 c67 c68 c69 c70 c71 c72 c73 c74 c75 c76 c77 c78 c79 c80 c81 c82 c83 c84 c85 c86 c87 c88 c89 c90 c91 c92 c93 c94 c95 c96 c97 c98 c99 c100 c101 c102 c103 c104 c105 c106 c107 c108 c109 c110 c111 c112 c113 c114 c115 c116 c117 c118 c119 c120 c121 c122 c123 c124 c125 c126 c127 c128 c129 c130 c131 c132 c133 c134 c135 c136 c137 c138 c139 c140 c141 c142 c143 c144 c145 c146 c147 c148 c149 c150 c151 c152 c153 c154 c155 c156 c157 c158 c159 c160 c161 c162 c163 c164 c165 c166 c167 c168 c169 c170 c171 c172 c173 c174 c175 c176 c177 c178 c179 c180 c181 c182 c183 c184 c185 c186 c187 c188 c189 c190 c191 c192 c193 c194 c195 c196 c197 c198 c199 c200 c201 c202 c203 c204 c205 c206 c207 c208 c209 c210 c211 c212 c213 c214 c215 c216 c217 c218 c219 c220 c221 c222 c223 c224 c225 c226 c227 c228 c229 c230 c231 c232 c233 c234 c235 c236 c237 c238 c239 c240 c241 c242 c243 c244 c245 c246 c247 c248 c249 c250 c251 c252 c253 c254 c255 c256 c257 c258 c259 c260 c261 c262 c263 c264 c265 c266 c267 c268 c269 c270 c271 c272 c273 c274 c275 c276 c277 c278 c279 c280 c281 c282 c283 c284 c285 c286 c287 c288 c289 c290 c291 c292 c293 c294 c295 c296 c297 c298 c299 c300 c301 c302 c303 c304 c305 c306 c307 c308 c309 c310 c311 c312 c313 c314 c315 c316 c317 c318 c319 c320 c321 c322 c323 c324 c325 c326 c327 c328 c329 c330 c331 c332 c333 c334 c335 c336 c337 c338 c339 c340 c341 c342 c343 c344 c345 c346 c347 c348 c349 c350 c351 c352 c353 c354 c355 c356 c357 c358 c359 c360 c361 c362 : Value}
    (hP : OpsAt W (.slice oo N oc) ops) (hN : ops.length = N) (hk : k < N) (hN8 : N ≤ 80) (hiv : iv - 1 = (k : Int)) (hS : St w W.heap.size pb (.slice ta M tc) p g room cs cs vS vW ls []) (hM : cs.length = M) (hls : ls.length < 240) (hB : Below W.heap.size W w) (hpb : W.heap.size ≤ pb)
    (hQ : ∀ (u16 u17 u18 u19 u20 u21 u22 u23 u24 u25 u81 u82 u83 u84 u85 u86 u87 u88 u89 u90 u91 u92 u93 u94 u95 u96 u97 u98 u99 u100 u101 u102 u103 u104 u105 u106 u107 u108 u109 u110 u111 u112 u113 u114 u115 u116 u117 u118 u119 u120 u121 u122 u123 u124 u125 u126 u127 u128 u129 u130 u131 u132 u133 u134 u135 u136 u137 u138 u139 u140 u141 u142 u143 u144 u145 u146 u147 u148 u149 u150 u151 u152 u153 u154 u155 u156 u157 u158 u159 u160 u161 u162 u163 u164 u165 u166 u167 u168 u169 u170 u171 u172 u173 u174 u175 u176 u177 u178 u179 u180 u181 u182 u183 u184 u185 u186 u187 u188 u189 u190 u191 u192 u193 u194 u195 u196 u197 u198 u199 u200 u201 u202 u203 u204 u205 u206 u207 u208 u209 u210 u211 u212 u213 u214 u215 u216 u217 u218 u219 u220 u221 u222 u223 u224 u225 u226 u227 u228 u229 u230 u231 u232 u233 u234 u235 u236 u237 u238 u239 u240 u241 u242 u243 u244 u245 u246 u247 u248 u249 u250 : Value) (w' : World) (p' g' : Nat) (cs' : List Int) (ta' : Option Addr) (M' tc' : Nat) (vS' vW' : Value) (ls' : List (Value × List Value)), cs'.length = M' → ls'.length ≤ ls.length + 1 → St w' W.heap.size pb (.slice ta' M' tc') p' g' room cs' cs' vS' vW' ls' [] → Below W.heap.size W w' → Q .normal ⟨#[c0, c1, .slice oo N oc, c3, c4, c5, c6, c7, c8, c9, .pointer (some ⟨p', 0, none⟩), .int .i64 room, .slice ta' M' tc', .pointer (some ⟨pb, 0, none⟩), .int .i64 iv, .bool true, u16, u17, u18, u19, u20, u21, u22, u23, u24, u25, c26, c27, c28, c29, c30, c31, c32, c33, c34, c35, c36, c37, c38, c39, c40, c41, c42, c43, c44, c45, c46, c47, c48, c49, c50, c51, c52, c53, c54, c55, c56, c57, c58, c59, c60, c61, c62, c63, c64, c65, c66, c67, c68, c69, c70, c71, c72, c73, c74, c75, c76, c77, c78, c79, c80, u81, u82, u83, u84, u85, u86, u87, u88, u89, u90, u91, u92, u93, u94, u95, u96, u97, u98, u99, u100, u101, u102, u103, u104, u105, u106, u107, u108, u109, u110, u111, u112, u113, u114, u115, u116, u117, u118, u119, u120, u121, u122, u123, u124, u125, u126, u127, u128, u129, u130, u131, u132, u133, u134, u135, u136, u137, u138, u139, u140, u141, u142, u143, u144, u145, u146, u147, u148, u149, u150, u151, u152, u153, u154, u155, u156, u157, u158, u159, u160, u161, u162, u163, u164, u165, u166, u167, u168, u169, u170, u171, u172, u173, u174, u175, u176, u177, u178, u179, u180, u181, u182, u183, u184, u185, u186, u187, u188, u189, u190, u191, u192, u193, u194, u195, u196, u197, u198, u199, u200, u201, u202, u203, u204, u205, u206, u207, u208, u209, u210, u211, u212, u213, u214, u215, u216, u217, u218, u219, u220, u221, u222, u223, u224, u225, u226, u227, u228, u229, u230, u231, u232, u233, u234, u235, u236, u237, u238, u239, u240, u241, u242, u243, u244, u245, u246, u247, u248, u249, u250, c251, c252, c253, c254, c255, c256, c257, c258, c259, c260, c261, c262, c263, c264, c265, c266, c267, c268, c269, c270, c271, c272, c273, c274, c275, c276, c277, c278, c279, c280, c281, c282, c283, c284, c285, c286, c287, c288, c289, c290, c291, c292, c293, c294, c295, c296, c297, c298, c299, c300, c301, c302, c303, c304, c305, c306, c307, c308, c309, c310, c311, c312, c313, c314, c315, c316, c317, c318, c319, c320, c321, c322, c323, c324, c325, c326, c327, c328, c329, c330, c331, c332, c333, c334, c335, c336, c337, c338, c339, c340, c341, c342, c343, c344, c345, c346, c347, c348, c349, c350, c351, c352, c353, c354, c355, c356, c357, c358, c359, c360, c361, c362], []⟩ w')
    (hX : ∀ (u16 u81 u82 u83 u84 u85 u86 u87 u88 u89 : Value) (w' : World), Below W.heap.size W w' → Q .ret ⟨#[c0, c1, .slice oo N oc, c3, c4, c5, c6, c7, .bool true, c9, .pointer (some ⟨p, 0, none⟩), .int .i64 room, .slice ta M tc, .pointer (some ⟨pb, 0, none⟩), .int .i64 iv, .bool true, u16, c17, c18, c19, c20, c21, c22, c23, c24, c25, c26, c27, c28, c29, c30, c31, c32, c33, c34, c35, c36, c37, c38, c39, c40, c41, c42, c43, c44, c45, c46, c47, c48, c49, c50, c51, c52, c53, c54, c55, c56, c57, c58, c59, c60, c61, c62, c63, c64, c65, c66, c67, c68, c69, c70, c71, c72, c73, c74, c75, c76, c77, c78, c79, c80, u81, u82, u83, u84, u85, u86, u87, u88, u89, c90, c91, c92, c93, c94, c95, c96, c97, c98, c99, c100, c101, c102, c103, c104, c105, c106, c107, c108, c109, c110, c111, c112, c113, c114, c115, c116, c117, c118, c119, c120, c121, c122, c123, c124, c125, c126, c127, c128, c129, c130, c131, c132, c133, c134, c135, c136, c137, c138, c139, c140, c141, c142, c143, c144, c145, c146, c147, c148, c149, c150, c151, c152, c153, c154, c155, c156, c157, c158, c159, c160, c161, c162, c163, c164, c165, c166, c167, c168, c169, c170, c171, c172, c173, c174, c175, c176, c177, c178, c179, c180, c181, c182, c183, c184, c185, c186, c187, c188, c189, c190, c191, c192, c193, c194, c195, c196, c197, c198, c199, c200, c201, c202, c203, c204, c205, c206, c207, c208, c209, c210, c211, c212, c213, c214, c215, c216, c217, c218, c219, c220, c221, c222, c223, c224, c225, c226, c227, c228, c229, c230, c231, c232, c233, c234, c235, c236, c237, c238, c239, c240, c241, c242, c243, c244, c245, c246, c247, c248, c249, c250, c251, c252, c253, c254, c255, c256, c257, c258, c259, c260, c261, c262, c263, c264, c265, c266, c267, c268, c269, c270, c271, c272, c273, c274, c275, c276, c277, c278, c279, c280, c281, c282, c283, c284, c285, c286, c287, c288, c289, c290, c291, c292, c293, c294, c295, c296, c297, c298, c299, c300, c301, c302, c303, c304, c305, c306, c307, c308, c309, c310, c311, c312, c313, c314, c315, c316, c317, c318, c319, c320, c321, c322, c323, c324, c325, c326, c327, c328, c329, c330, c331, c332, c333, c334, c335, c336, c337, c338, c339, c340, c341, c342, c343, c344, c345, c346, c347, c348, c349, c350, c351, c352, c353, c354, c355, c356, c357, c358, c359, c360, c361, c362], []⟩ w') :
    Code.wp Try.prog codeIf Q ⟨#[c0, c1, .slice oo N oc, c3, c4, c5, c6, c7, c8, c9, .pointer (some ⟨p, 0, none⟩), .int .i64 room, .slice ta M tc, .pointer (some ⟨pb, 0, none⟩), .int .i64 iv, .bool true, c16, c17, c18, c19, c20, c21, c22, c23, c24, c25, c26, c27, c28, c29, c30, c31, c32, c33, c34, c35, c36, c37, c38, c39, c40, c41, c42, c43, c44, c45, c46, c47, c48, c49, c50, c51, c52, c53, c54, c55, c56, c57, c58, c59, c60, c61, c62, c63, c64, c65, c66, c67, c68, c69, c70, c71, c72, c73, c74, c75, c76, c77, c78, c79, c80, c81, c82, c83, c84, c85, c86, c87, c88, c89, c90, c91, c92, c93, c94, c95, c96, c97, c98, c99, c100, c101, c102, c103, c104, c105, c106, c107, c108, c109, c110, c111, c112, c113, c114, c115, c116, c117, c118, c119, c120, c121, c122, c123, c124, c125, c126, c127, c128, c129, c130, c131, c132, c133, c134, c135, c136, c137, c138, c139, c140, c141, c142, c143, c144, c145, c146, c147, c148, c149, c150, c151, c152, c153, c154, c155, c156, c157, c158, c159, c160, c161, c162, c163, c164, c165, c166, c167, c168, c169, c170, c171, c172, c173, c174, c175, c176, c177, c178, c179, c180, c181, c182, c183, c184, c185, c186, c187, c188, c189, c190, c191, c192, c193, c194, c195, c196, c197, c198, c199, c200, c201, c202, c203, c204, c205, c206, c207, c208, c209, c210, c211, c212, c213, c214, c215, c216, c217, c218, c219, c220, c221, c222, c223, c224, c225, c226, c227, c228, c229, c230, c231, c232, c233, c234, c235, c236, c237, c238, c239, c240, c241, c242, c243, c244, c245, c246, c247, c248, c249, c250, c251, c252, c253, c254, c255, c256, c257, c258, c259, c260, c261, c262, c263, c264, c265, c266, c267, c268, c269, c270, c271, c272, c273, c274, c275, c276, c277, c278, c279, c280, c281, c282, c283, c284, c285, c286, c287, c288, c289, c290, c291, c292, c293, c294, c295, c296, c297, c298, c299, c300, c301, c302, c303, c304, c305, c306, c307, c308, c309, c310, c311, c312, c313, c314, c315, c316, c317, c318, c319, c320, c321, c322, c323, c324, c325, c326, c327, c328, c329, c330, c331, c332, c333, c334, c335, c336, c337, c338, c339, c340, c341, c342, c343, c344, c345, c346, c347, c348, c349, c350, c351, c352, c353, c354, c355, c356, c357, c358, c359, c360, c361, c362], []⟩ w := by
  have HP := Lib.hid hP
  have HN := Lib.hid hN
  have HS := Lib.hid hS
  have HM := Lib.hid hM
  have HLS := Lib.hid hls
  have HB := Lib.hid hB
  have HPL := Lib.hid hpb
  have HQ := Lib.hid hQ
  have HX := Lib.hid hX
  clear hP hN hS hM hls hB hpb hQ hX
  obtain ⟨o, hop⟩ : ∃ o, ops[k]? = some o := ⟨_, List.getElem?_eq_getElem (by rw [HN.out]; omega)⟩
  obtain ⟨ao, ac, hao, hcell⟩ := HP.out.below HB.out
  rw [HN.out] at hao
  simp only [Value.slice.injEq, true_and] at hao
  obtain ⟨rfl, rfl⟩ := hao
  obtain ⟨ad, rfl, c0, c1, c2, c3, -⟩ := hcell k o hop
  obtain ⟨kk, nn, vv, xs, sl⟩ := o
  dsimp only at c0 c1 c2 c3
  have HRD := Lib.hid (show Reads W sl xs from by
    obtain ⟨_, _, e, hc⟩ := HP.out
    obtain ⟨_, _, _, _, _, _, h5⟩ := hc k _ hop
    exact h5)
  have f1 : ad.add (k * 4 + 1) = ⟨(ad.add (k * 4)).block, (ad.add (k * 4)).off + 1, none⟩ := by rw [← Go.Deep.add_add]; rfl
  have f2 : ad.add (k * 4 + 2) = ⟨(ad.add (k * 4)).block, (ad.add (k * 4)).off + 2, none⟩ := by rw [← Go.Deep.add_add]; rfl
  have f3 : ad.add (k * 4 + 3) = ⟨(ad.add (k * 4)).block, (ad.add (k * 4)).off + 3, none⟩ := by rw [← Go.Deep.add_add]; rfl
  rw [f1] at c1
  rw [f2] at c2
  rw [f3] at c3
  obtain ⟨so, sc, rfl, -⟩ := id HRD.out
  obtain ⟨K, hK⟩ : ∃ K, xs.length = K := ⟨_, rfl⟩
  have HK := Lib.hid hK
  rw [hK] at c3 HRD
  have e3 : (0 : Int) ≤ (k : Int) := by omega
  have e4 : (k : Int) < (N : Int) := by omega
  have hbo := (Below.refl w.heap.size w).alloc (Nat.le_refl _) (.cells #[.int .i64 kk, .int .i64 nn, .int .i64 vv, .slice so K sc] 39)
  have hnew := heap_alloc_new w (.cells #[.int .i64 kk, .int .i64 nn, .int .i64 vv, .slice so K sc] 39)
  have hlt := whole_lt hnew
  obtain ⟨wo, hwo⟩ : ∃ wo, w.alloc (.cells #[.int .i64 kk, .int .i64 nn, .int .i64 vv, .slice so K sc] 39) = wo := ⟨_, rfl⟩
  rw [hwo] at hbo hnew hlt
  have HSO := Lib.hid (HS.out.spare (ex := [w.heap.size]) hbo (fun z hz => by simp at hz; omega))
  have HBO := Lib.hid (HB.out.trans (hbo.mono HB.out.size))
  have HNEW := Lib.hid hnew
  have k0 : wo.cell? ⟨w.heap.size, 0, none⟩ = some (.int .i64 kk) := whole_cell hnew rfl
  have k3 : wo.cell? ⟨w.heap.size, 3, none⟩ = some (.slice so K sc) := whole_cell hnew rfl
  clear hcell hop f1 f2 f3 hK hbo hnew hlt HS HB
  conv => arg 2; whnf
  by_cases hbig : 60 < K
  · have e5 : decide (60 < (K : Int)) = true := decide_eq_true (by omega)
    go_wp2
    exact HX.out _ _ _ _ _ _ _ _ _ _ _ HBO.out
  · have e5 : decide (60 < (K : Int)) = false := decide_eq_false (by omega)
    go_upto_block 2 with fail
    clear e5 k0 k3 c0 c1 c2 c3 e3 e4 hwo
    refine sw kk HSO.out HNEW.out HRD.out (by rw [HK.out]; omega) HM.out HLS.out HBO.out HPL.out ?_
    intro u18 u19 u20 u21 u22 u23 u24 u25 u94 u95 u96 u97 u98 u99 u100 u101 u102 u103 u104 u105 u106 u107 u108 u109 u110 u111 u112 u113 u114 u115 u116 u117 u118 u119 u120 u121 u122 u123 u124 u125 u126 u127 u128 u129 u130 u131 u132 u133 u134 u135 u136 u137 u138 u139 u140 u141 u142 u143 u144 u145 u146 u147 u148 u149 u150 u151 u152 u153 u154 u155 u156 u157 u158 u159 u160 u161 u162 u163 u164 u165 u166 u167 u168 u169 u170 u171 u172 u173 u174 u175 u176 u177 u178 u179 u180 u181 u182 u183 u184 u185 u186 u187 u188 u189 u190 u191 u192 u193 u194 u195 u196 u197 u198 u199 u200 u201 u202 u203 u204 u205 u206 u207 u208 u209 u210 u211 u212 u213 u214 u215 u216 u217 u218 u219 u220 u221 u222 u223 u224 u225 u226 u227 u228 u229 u230 u231 u232 u233 u234 u235 u236 u237 u238 u239 u240 u241 u242 u243 u244 u245 u246 u247 u248 u249 u250 w' p' g' cs' ta' M' tc' vS' vW' ls' h1 h2 h3 h4
    exact HQ.out _ _ _ _ _ _ _ _ _ _ _ _ _ _ _ _ _ _ _ _ _ _ _ _ _ _ _ _ _ _ _ _ _ _ _ _ _ _ _ _ _ _ _ _ _ _ _ _ _ _ _ _ _ _ _ _ _ _ _ _ _ _ _ _ _ _ _ _ _ _ _ _ _ _ _ _ _ _ _ _ _ _ _ _ _ _ _ _ _ _ _ _ _ _ _ _ _ _ _ _ _ _ _ _ _ _ _ _ _ _ _ _ _ _ _ _ _ _ _ _ _ _ _ _ _ _ _ _ _ _ _ _ _ _ _ _ _ _ _ _ _ _ _ _ _ _ _ _ _ _ _ _ _ _ _ _ _ _ _ _ _ _ _ _ _ _ _ _ _ _ _ _ _ _ _ _ _ _ _ _ _ _ _ _ _ _ _ _ _ _ h1 h2 h3 h4
end Go.Proofs.Ytpklbffphdfpdaa.PilePlays
