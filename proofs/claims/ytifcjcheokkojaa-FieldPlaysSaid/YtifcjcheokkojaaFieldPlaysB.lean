/- FieldPlays: a round's end, the cell that is asked for not being there. -/
import Derived.Test.YtifcjcheokkojaaFieldPlaysC
import Derived.Deep.LoopGhost
import Derived.Deep.DeepCutAuto
import Derived.Deep.CutBlock
namespace Go.Proofs.Ytifcjcheokkojaa.FieldPlays
open Go.RowKit Book Mem
set_option linter.unusedSimpArgs false
set_option linter.unusedVariables false
set_option maxHeartbeats 8000000 in
set_option maxRecDepth 1000000 in
theorem last_over {W : World} {pb gm mcap bm p : Nat} {l : List Int} {ta : Option Addr} {tc M : Nat} {vC vH : Value} {cs ch : List Int} {q : Nat} {vS vW : Value} {ls : List (Value × List Value)} {ask : Int} {Q : Exit → Act → World → Prop} {ho5 : Option Addr} {hc5 K : Nat} {B5 : Nat} {w5 : World} {c0 c1 c2 c4 c5 c6 c7 c8 c9 c14 c15 c16 c17 c19 c20 c21 c22 c23 c24 c25 c26 c27 c28 c29 c30 c31 c32 c33 c34 c35 c36 c37 c38 c39 c40 c41 c42 c43 c44 c45 c46 c47 c48 c49 c50 c51 c52 c53 c54 c55 c56 c57 c58 c59 c60 c61 c62 c63 c64 c65 c66 c67 c68 c69 c70 c71 c72 c73 c74 c75 c76 c77 c78 c79 c80 c81 c82 c83 c84 c85 c86 c87 c88 c89 c90 c91 c92 c93 c94 c95 c96 c97 c98 c99 c100 c101 c102 c103 c104 c105 c106 c107 c108 c109 c110 c111 c112 c113 c114 c115 c116 c117 c118 c119 c120 c121 c122 c123 c124 c125 c126 c127 c128 c129 c130 c131 c132 c133 c134 c135 c136 c137 c138 c139 c140 c141 c142 c143 c144 c145 c146 c147 c148 c149 c150 c151 c152 c153 c154 c155 c156 c157 c158 c159 c160 c161 c162 c163 c164 c165 c166 c167 c168 c169 c170 c171 c172 c173 c174 c175 c176 c177 c178 c179 c180 c181 c182 c183 c184 c185 c186 c187 c188 c189 c190 c191 c192 c193 c194 c195 c196 c197 c198 c199 c200 c201 c202 c203 c204 c205 c206 c207 c208 c209 c210 c211 c212 c213 c214 c215 c216 c217 c218 c219 c220 c221 c222 c223 c224 c225 c226 c227 c228 c229 c230 c231 c232 c233 c234 c235 c236 c237 c238 c239 c240 c241 c242 c243 c244 : Value}
    (hS : St w5 W.heap.size pb gm mcap bm l (.slice ta M tc) p vC vH cs ch cs ch q vS vW ls []) (hO : Owns w5 B5 3 (.slice ho5 K hc5) (vals ch)) (hK : ch.length = K) (hB : Below W.heap.size W w5) (hC : cs.length = M) (hM5 : M ≤ 500) (hls : ls.length < 240) (hpb : W.heap.size ≤ pb) (wa : (Lit.int .i64 ask).wf = true) (hin : ¬ (0 ≤ ask ∧ ask < (M : Int))) (ha : 0 ≤ ask)
    (hQ : ∀ (u18 u19 u20 u21 u22 u23 u24 u126 u127 u128 u129 u130 u131 u132 u133 u134 u135 u136 u137 u138 u139 u140 u141 u142 u143 u144 u145 u146 u147 u148 u149 u150 u151 u152 u153 u154 u155 u156 u157 u158 u159 u160 u161 u162 u163 u164 u165 u166 u167 u168 u169 u170 u171 u172 u173 u174 u175 u176 u177 u178 u179 u180 u181 u182 u183 u184 u185 u186 u187 u188 u189 u190 u191 u192 u193 u194 u195 u196 u197 u198 u199 u200 u201 u202 u203 : Value) (w' : World) (vS' vW' : Value) (ls' : List (Value × List Value)), ls'.length = ls.length + 2 → St w' W.heap.size pb gm mcap bm l (.slice ta M tc) p vC vH cs ch cs ch q vS' vW' ls' [] → Below W.heap.size W w' → Q .normal ⟨#[c0, c1, c2, .int .i64 ask, c4, c5, c6, c7, c8, c9, .pointer (some ⟨p, 0, none⟩), .slice ta M tc, .map (some bm), .pointer (some ⟨pb, 0, none⟩), c14, c15, c16, c17, u18, u19, u20, u21, u22, u23, u24, c25, c26, c27, c28, c29, c30, c31, c32, c33, c34, c35, c36, c37, c38, c39, c40, c41, c42, c43, c44, c45, c46, c47, c48, c49, c50, c51, c52, c53, c54, c55, c56, c57, c58, c59, c60, c61, c62, c63, c64, c65, c66, c67, c68, c69, c70, c71, c72, c73, c74, c75, c76, c77, c78, c79, c80, c81, c82, c83, c84, c85, c86, c87, c88, c89, c90, c91, c92, c93, c94, c95, c96, c97, c98, c99, c100, c101, c102, c103, c104, c105, c106, c107, c108, c109, c110, c111, c112, c113, c114, c115, c116, c117, c118, c119, c120, c121, c122, c123, c124, c125, u126, u127, u128, u129, u130, u131, u132, u133, u134, u135, u136, u137, u138, u139, u140, u141, u142, u143, u144, u145, u146, u147, u148, u149, u150, u151, u152, u153, u154, u155, u156, u157, u158, u159, u160, u161, u162, u163, u164, u165, u166, u167, u168, u169, u170, u171, u172, u173, u174, u175, u176, u177, u178, u179, u180, u181, u182, u183, u184, u185, u186, u187, u188, u189, u190, u191, u192, u193, u194, u195, u196, u197, u198, u199, u200, u201, u202, u203, c204, c205, c206, c207, c208, c209, c210, c211, c212, c213, c214, c215, c216, c217, c218, c219, c220, c221, c222, c223, c224, c225, c226, c227, c228, c229, c230, c231, c232, c233, c234, c235, c236, c237, c238, c239, c240, c241, c242, c243, c244], []⟩ w') :
    Code.wp Try.prog codeLast (Exit.inBlock 1 Q) ⟨#[c0, c1, c2, .int .i64 ask, c4, c5, c6, c7, c8, c9, .pointer (some ⟨p, 0, none⟩), .slice ta M tc, .map (some bm), .pointer (some ⟨pb, 0, none⟩), c14, c15, c16, c17, .slice ho5 K hc5, c19, c20, c21, c22, c23, c24, c25, c26, c27, c28, c29, c30, c31, c32, c33, c34, c35, c36, c37, c38, c39, c40, c41, c42, c43, c44, c45, c46, c47, c48, c49, c50, c51, c52, c53, c54, c55, c56, c57, c58, c59, c60, c61, c62, c63, c64, c65, c66, c67, c68, c69, c70, c71, c72, c73, c74, c75, c76, c77, c78, c79, c80, c81, c82, c83, c84, c85, c86, c87, c88, c89, c90, c91, c92, c93, c94, c95, c96, c97, c98, c99, c100, c101, c102, c103, c104, c105, c106, c107, c108, c109, c110, c111, c112, c113, c114, c115, c116, c117, c118, c119, c120, c121, c122, c123, c124, c125, c126, c127, c128, c129, c130, c131, c132, c133, c134, c135, c136, c137, c138, c139, c140, c141, c142, c143, c144, c145, c146, c147, c148, c149, c150, c151, c152, c153, c154, c155, c156, c157, c158, c159, c160, c161, c162, c163, c164, c165, c166, c167, c168, c169, c170, c171, c172, c173, c174, c175, c176, c177, c178, c179, c180, c181, c182, c183, c184, c185, c186, c187, c188, c189, c190, c191, c192, c193, c194, c195, c196, c197, c198, c199, c200, c201, c202, c203, c204, c205, c206, c207, c208, c209, c210, c211, c212, c213, c214, c215, c216, c217, c218, c219, c220, c221, c222, c223, c224, c225, c226, c227, c228, c229, c230, c231, c232, c233, c234, c235, c236, c237, c238, c239, c240, c241, c242, c243, c244], []⟩ w5 := by
  have HS5 := Lib.hid hS
  have HO := Lib.hid hO
  have HB5 := Lib.hid hB
  have HCS := Lib.hid hC
  have HKL := Lib.hid hK
  have HLS := Lib.hid hls
  have HPL := Lib.hid hpb
  have HQ0 := Lib.hid hQ
  have hK5 : K ≤ 500 := by have h1 := hS.fld.chLen; omega
  clear hS hO hB hC hK hls hpb hQ
  conv => arg 2; whnf
  have C := Lib.hid (all_any HS5.out.fld)
  go_wp2_with fail
  refine C.out.mono ?_
  rintro e w6 ⟨a, rfl, ha, hb⟩
  obtain ⟨ao, ac, hav⟩ := ha.slice
  rw [vals_length, HCS.out] at hav
  subst hav
  have HA6 := Lib.hid ha
  have HS6 := Lib.hid (HS5.out.below hb)
  have HO6 := Lib.hid (HO.out.below hb)
  have HB6 := Lib.hid (HB5.out.trans (hb.mono HB5.out.size))
  have HZ6 := Lib.hid hb.size
  clear ha hb C HO HB5
  have C := Lib.hid (changed_any HS6.out.fld)
  go_wp2_with fail
  refine C.out.mono ?_
  rintro e w7 ⟨c, rfl, hc, hb⟩
  obtain ⟨co, cc, hcv⟩ := hc.slice
  rw [vals_length, HKL.out] at hcv
  subst hcv
  have HC7 := Lib.hid hc
  have HA7 := Lib.hid (HA6.out.below hb)
  have HS7 := Lib.hid (HS6.out.below hb)
  have HO7 := Lib.hid (HO6.out.below hb)
  have HB7 := Lib.hid (HB6.out.trans (hb.mono HB6.out.size))
  have hpb5 := whole_lt HS5.out.book
  have hz6 := HZ6.out
  have hz7 := hb.size
  have C := Lib.hid (HS7.out.add (by have := HLS.out; omega) (by omega) (HA7.out.from (by omega)) (by rw [HCS.out]; omega) (fun k hk => ⟨fun hm => by
    have h1 := (HA6.out.block k hk).1
    have h2 := (HS5.out.kept.lists.lt k hm).2
    omega, fun hm => by
    have h1 := (HA6.out.block k hk).1
    have h2 := HS5.out.ground_lt k hm
    omega⟩))
  have hcn : ∀ k, blk (.slice co K cc) = some k → k ∉ blocks (ls ++ [(.slice ao M ac, vals cs)]) ∧ k ∉ ground bm gm p vC vH (.slice ta M tc) [] := fun k hk => by
    have h1 := (HC7.out.block k hk).1
    refine ⟨fun hm => ?_, fun hm => ?_⟩
    · rw [blocks_append, List.mem_append] at hm
      rcases hm with hm | hm
      · have h2 := (HS5.out.kept.lists.lt k hm).2
        omega
      · have h2 := (HA6.out.block k (by simpa [blocks] using hm)).2.1
        omega
    · have h2 := HS5.out.ground_lt k hm
      omega
  have HCN := Lib.hid hcn
  have HPB := Lib.hid (show pb + 1 ≤ w6.heap.size by omega)
  clear hc hb hpb5 hz6 hz7 hcn HS5 HS6 HA6 HO6 HB6 HZ6
  go_wp2_with fail
  refine C.out.mono ?_
  rintro e w8 ⟨rfl, vS1, vW1, hS, hs⟩
  have HS8 := Lib.hid hS
  have HA8 := Lib.hid (HS7.out.row_book hs HA7.out)
  have HC8 := Lib.hid (HS7.out.row_book hs HC7.out)
  have HO8 := Lib.hid (HS7.out.row_book hs HO7.out)
  have HB8 := Lib.hid (HB7.out.trans ((hs.below (B := W.heap.size) (HS7.out.book_low HPL.out) HB7.out.size).mono (Nat.le_refl _)))
  clear hS hs C HA7 HC7 HO7 HB7 HS7
  have C := Lib.hid (HS8.out.add (by have := HLS.out; rw [List.length_append]; simp; omega) (whole_lt HS8.out.book) (HC8.out.from HPB.out) (by rw [HKL.out]; omega) HCN.out)
  go_wp2_with fail
  refine C.out.mono ?_
  rintro e w9 ⟨rfl, vS2, vW2, hS, hs⟩
  have HS9 := Lib.hid hS
  have HA9 := Lib.hid (HS8.out.row_book hs HA8.out)
  have HC9 := Lib.hid (HS8.out.row_book hs HC8.out)
  have HO9 := Lib.hid (HS8.out.row_book hs HO8.out)
  have HB9 := Lib.hid (HB8.out.trans ((hs.below (B := W.heap.size) (HS8.out.book_low HPL.out) HB8.out.size).mono (Nat.le_refl _)))
  clear hS hs C HA8 HC8 HO8 HB8 HS8 HCN HPB
  have C1 := Lib.hid (fun w' (hb : Below w9.heap.size w9 w') => sameInts_any _ _ _ _ cs w' (HA9.out.below hb) (HS9.out.want.below hb) (by rw [HCS.out]; omega))
  have C2 := Lib.hid (fun w' (hb : Below w9.heap.size w9 w') => sameInts_any _ _ _ _ ch w' (HC9.out.below hb) (HO9.out.below hb) (by rw [HKL.out]; omega))
  have C3 := Lib.hid (fun w' (hb : Below w9.heap.size w9 w') => by have := len_any (HS9.out.fld.below hb); rw [HCS.out] at this; exact this)
  have C := Lib.hid (load_no HS9.out.fld ask (by rw [HCS.out]; exact hin))
  have ha1 : decide (ask < (M : Int)) = false := decide_eq_false (by omega)
  clear hin
  go_wp2_with fail
  refine C.out.mono ?_
  rintro e wz ⟨rfl, hwz⟩
  subst wz
  clear C
  go_wp2_with fail
  refine (C1.out _ (Below.refl _ _)).mono ?_
  rintro e w10 ⟨rfl, q10, hq⟩
  have hb10 : Below w9.heap.size w9 w10 := by rw [hq]; exact bk_below_drewN _ _ _
  have HB10 := Lib.hid hb10
  clear hq hb10
  go_wp2_with fail
  refine (C2.out _ HB10.out).mono ?_
  rintro e w11 ⟨rfl, q11, hq⟩
  have hb11 : Below w9.heap.size w9 w11 := HB10.out.trans (by rw [hq]; exact (bk_below_drewN _ _ _).mono HB10.out.size)
  have HB11 := Lib.hid hb11
  clear hq hb11
  go_wp2_with fail
  refine (C3.out _ HB11.out).mono ?_
  rintro e wz ⟨rfl, hwz⟩
  subst wz
  have HSF := Lib.hid (HS9.out.below HB11.out)
  have HBF := Lib.hid (HB9.out.trans (HB11.out.mono HB9.out.size))
  have HQ := Lib.hid (show (ls ++ [((.slice ao M ac : Value), vals cs)] ++ [((.slice co K cc : Value), vals ch)]).length = ls.length + 2 by rw [List.length_append, List.length_append]; rfl)
  go_wp2
  exact HQ0.out _ _ _ _ _ _ _ _ _ _ _ _ _ _ _ _ _ _ _ _ _ _ _ _ _ _ _ _ _ _ _ _ _ _ _ _ _ _ _ _ _ _ _ _ _ _ _ _ _ _ _ _ _ _ _ _ _ _ _ _ _ _ _ _ _ _ _ _ _ _ _ _ _ _ _ _ _ _ _ _ _ _ _ _ _ _ _ _ _ HQ.out HSF.out HBF.out
set_option maxHeartbeats 8000000 in
set_option maxRecDepth 1000000 in
theorem last_under {W : World} {pb gm mcap bm p : Nat} {l : List Int} {ta : Option Addr} {tc M : Nat} {vC vH : Value} {cs ch : List Int} {q : Nat} {vS vW : Value} {ls : List (Value × List Value)} {ask : Int} {Q : Exit → Act → World → Prop} {ho5 : Option Addr} {hc5 K : Nat} {B5 : Nat} {w5 : World} {c0 c1 c2 c4 c5 c6 c7 c8 c9 c14 c15 c16 c17 c19 c20 c21 c22 c23 c24 c25 c26 c27 c28 c29 c30 c31 c32 c33 c34 c35 c36 c37 c38 c39 c40 c41 c42 c43 c44 c45 c46 c47 c48 c49 c50 c51 c52 c53 c54 c55 c56 c57 c58 c59 c60 c61 c62 c63 c64 c65 c66 c67 c68 c69 c70 c71 c72 c73 c74 c75 c76 c77 c78 c79 c80 c81 c82 c83 c84 c85 c86 c87 c88 c89 c90 c91 c92 c93 c94 c95 c96 c97 c98 c99 c100 c101 c102 c103 c104 c105 c106 c107 c108 c109 c110 c111 c112 c113 c114 c115 c116 c117 c118 c119 c120 c121 c122 c123 c124 c125 c126 c127 c128 c129 c130 c131 c132 c133 c134 c135 c136 c137 c138 c139 c140 c141 c142 c143 c144 c145 c146 c147 c148 c149 c150 c151 c152 c153 c154 c155 c156 c157 c158 c159 c160 c161 c162 c163 c164 c165 c166 c167 c168 c169 c170 c171 c172 c173 c174 c175 c176 c177 c178 c179 c180 c181 c182 c183 c184 c185 c186 c187 c188 c189 c190 c191 c192 c193 c194 c195 c196 c197 c198 c199 c200 c201 c202 c203 c204 c205 c206 c207 c208 c209 c210 c211 c212 c213 c214 c215 c216 c217 c218 c219 c220 c221 c222 c223 c224 c225 c226 c227 c228 c229 c230 c231 c232 c233 c234 c235 c236 c237 c238 c239 c240 c241 c242 c243 c244 : Value}
    (hS : St w5 W.heap.size pb gm mcap bm l (.slice ta M tc) p vC vH cs ch cs ch q vS vW ls []) (hO : Owns w5 B5 3 (.slice ho5 K hc5) (vals ch)) (hK : ch.length = K) (hB : Below W.heap.size W w5) (hC : cs.length = M) (hM5 : M ≤ 500) (hls : ls.length < 240) (hpb : W.heap.size ≤ pb) (wa : (Lit.int .i64 ask).wf = true) (hin : ¬ (0 ≤ ask ∧ ask < (M : Int))) (ha : ¬ 0 ≤ ask)
    (hQ : ∀ (u18 u19 u20 u21 u22 u23 u24 u126 u127 u128 u129 u130 u131 u132 u133 u134 u135 u136 u137 u138 u139 u140 u141 u142 u143 u144 u145 u146 u147 u148 u149 u150 u151 u152 u153 u154 u155 u156 u157 u158 u159 u160 u161 u162 u163 u164 u165 u166 u167 u168 u169 u170 u171 u172 u173 u174 u175 u176 u177 u178 u179 u180 u181 u182 u183 u184 u185 u186 u187 u188 u189 u190 u191 u192 u193 u194 u195 u196 u197 u198 u199 u200 u201 u202 u203 : Value) (w' : World) (vS' vW' : Value) (ls' : List (Value × List Value)), ls'.length = ls.length + 2 → St w' W.heap.size pb gm mcap bm l (.slice ta M tc) p vC vH cs ch cs ch q vS' vW' ls' [] → Below W.heap.size W w' → Q .normal ⟨#[c0, c1, c2, .int .i64 ask, c4, c5, c6, c7, c8, c9, .pointer (some ⟨p, 0, none⟩), .slice ta M tc, .map (some bm), .pointer (some ⟨pb, 0, none⟩), c14, c15, c16, c17, u18, u19, u20, u21, u22, u23, u24, c25, c26, c27, c28, c29, c30, c31, c32, c33, c34, c35, c36, c37, c38, c39, c40, c41, c42, c43, c44, c45, c46, c47, c48, c49, c50, c51, c52, c53, c54, c55, c56, c57, c58, c59, c60, c61, c62, c63, c64, c65, c66, c67, c68, c69, c70, c71, c72, c73, c74, c75, c76, c77, c78, c79, c80, c81, c82, c83, c84, c85, c86, c87, c88, c89, c90, c91, c92, c93, c94, c95, c96, c97, c98, c99, c100, c101, c102, c103, c104, c105, c106, c107, c108, c109, c110, c111, c112, c113, c114, c115, c116, c117, c118, c119, c120, c121, c122, c123, c124, c125, u126, u127, u128, u129, u130, u131, u132, u133, u134, u135, u136, u137, u138, u139, u140, u141, u142, u143, u144, u145, u146, u147, u148, u149, u150, u151, u152, u153, u154, u155, u156, u157, u158, u159, u160, u161, u162, u163, u164, u165, u166, u167, u168, u169, u170, u171, u172, u173, u174, u175, u176, u177, u178, u179, u180, u181, u182, u183, u184, u185, u186, u187, u188, u189, u190, u191, u192, u193, u194, u195, u196, u197, u198, u199, u200, u201, u202, u203, c204, c205, c206, c207, c208, c209, c210, c211, c212, c213, c214, c215, c216, c217, c218, c219, c220, c221, c222, c223, c224, c225, c226, c227, c228, c229, c230, c231, c232, c233, c234, c235, c236, c237, c238, c239, c240, c241, c242, c243, c244], []⟩ w') :
    Code.wp Try.prog codeLast (Exit.inBlock 1 Q) ⟨#[c0, c1, c2, .int .i64 ask, c4, c5, c6, c7, c8, c9, .pointer (some ⟨p, 0, none⟩), .slice ta M tc, .map (some bm), .pointer (some ⟨pb, 0, none⟩), c14, c15, c16, c17, .slice ho5 K hc5, c19, c20, c21, c22, c23, c24, c25, c26, c27, c28, c29, c30, c31, c32, c33, c34, c35, c36, c37, c38, c39, c40, c41, c42, c43, c44, c45, c46, c47, c48, c49, c50, c51, c52, c53, c54, c55, c56, c57, c58, c59, c60, c61, c62, c63, c64, c65, c66, c67, c68, c69, c70, c71, c72, c73, c74, c75, c76, c77, c78, c79, c80, c81, c82, c83, c84, c85, c86, c87, c88, c89, c90, c91, c92, c93, c94, c95, c96, c97, c98, c99, c100, c101, c102, c103, c104, c105, c106, c107, c108, c109, c110, c111, c112, c113, c114, c115, c116, c117, c118, c119, c120, c121, c122, c123, c124, c125, c126, c127, c128, c129, c130, c131, c132, c133, c134, c135, c136, c137, c138, c139, c140, c141, c142, c143, c144, c145, c146, c147, c148, c149, c150, c151, c152, c153, c154, c155, c156, c157, c158, c159, c160, c161, c162, c163, c164, c165, c166, c167, c168, c169, c170, c171, c172, c173, c174, c175, c176, c177, c178, c179, c180, c181, c182, c183, c184, c185, c186, c187, c188, c189, c190, c191, c192, c193, c194, c195, c196, c197, c198, c199, c200, c201, c202, c203, c204, c205, c206, c207, c208, c209, c210, c211, c212, c213, c214, c215, c216, c217, c218, c219, c220, c221, c222, c223, c224, c225, c226, c227, c228, c229, c230, c231, c232, c233, c234, c235, c236, c237, c238, c239, c240, c241, c242, c243, c244], []⟩ w5 := by
  have HS5 := Lib.hid hS
  have HO := Lib.hid hO
  have HB5 := Lib.hid hB
  have HCS := Lib.hid hC
  have HKL := Lib.hid hK
  have HLS := Lib.hid hls
  have HPL := Lib.hid hpb
  have HQ0 := Lib.hid hQ
  have hK5 : K ≤ 500 := by have h1 := hS.fld.chLen; omega
  clear hS hO hB hC hK hls hpb hQ
  conv => arg 2; whnf
  have C := Lib.hid (all_any HS5.out.fld)
  go_wp2_with fail
  refine C.out.mono ?_
  rintro e w6 ⟨a, rfl, ha, hb⟩
  obtain ⟨ao, ac, hav⟩ := ha.slice
  rw [vals_length, HCS.out] at hav
  subst hav
  have HA6 := Lib.hid ha
  have HS6 := Lib.hid (HS5.out.below hb)
  have HO6 := Lib.hid (HO.out.below hb)
  have HB6 := Lib.hid (HB5.out.trans (hb.mono HB5.out.size))
  have HZ6 := Lib.hid hb.size
  clear ha hb C HO HB5
  have C := Lib.hid (changed_any HS6.out.fld)
  go_wp2_with fail
  refine C.out.mono ?_
  rintro e w7 ⟨c, rfl, hc, hb⟩
  obtain ⟨co, cc, hcv⟩ := hc.slice
  rw [vals_length, HKL.out] at hcv
  subst hcv
  have HC7 := Lib.hid hc
  have HA7 := Lib.hid (HA6.out.below hb)
  have HS7 := Lib.hid (HS6.out.below hb)
  have HO7 := Lib.hid (HO6.out.below hb)
  have HB7 := Lib.hid (HB6.out.trans (hb.mono HB6.out.size))
  have hpb5 := whole_lt HS5.out.book
  have hz6 := HZ6.out
  have hz7 := hb.size
  have C := Lib.hid (HS7.out.add (by have := HLS.out; omega) (by omega) (HA7.out.from (by omega)) (by rw [HCS.out]; omega) (fun k hk => ⟨fun hm => by
    have h1 := (HA6.out.block k hk).1
    have h2 := (HS5.out.kept.lists.lt k hm).2
    omega, fun hm => by
    have h1 := (HA6.out.block k hk).1
    have h2 := HS5.out.ground_lt k hm
    omega⟩))
  have hcn : ∀ k, blk (.slice co K cc) = some k → k ∉ blocks (ls ++ [(.slice ao M ac, vals cs)]) ∧ k ∉ ground bm gm p vC vH (.slice ta M tc) [] := fun k hk => by
    have h1 := (HC7.out.block k hk).1
    refine ⟨fun hm => ?_, fun hm => ?_⟩
    · rw [blocks_append, List.mem_append] at hm
      rcases hm with hm | hm
      · have h2 := (HS5.out.kept.lists.lt k hm).2
        omega
      · have h2 := (HA6.out.block k (by simpa [blocks] using hm)).2.1
        omega
    · have h2 := HS5.out.ground_lt k hm
      omega
  have HCN := Lib.hid hcn
  have HPB := Lib.hid (show pb + 1 ≤ w6.heap.size by omega)
  clear hc hb hpb5 hz6 hz7 hcn HS5 HS6 HA6 HO6 HB6 HZ6
  go_wp2_with fail
  refine C.out.mono ?_
  rintro e w8 ⟨rfl, vS1, vW1, hS, hs⟩
  have HS8 := Lib.hid hS
  have HA8 := Lib.hid (HS7.out.row_book hs HA7.out)
  have HC8 := Lib.hid (HS7.out.row_book hs HC7.out)
  have HO8 := Lib.hid (HS7.out.row_book hs HO7.out)
  have HB8 := Lib.hid (HB7.out.trans ((hs.below (B := W.heap.size) (HS7.out.book_low HPL.out) HB7.out.size).mono (Nat.le_refl _)))
  clear hS hs C HA7 HC7 HO7 HB7 HS7
  have C := Lib.hid (HS8.out.add (by have := HLS.out; rw [List.length_append]; simp; omega) (whole_lt HS8.out.book) (HC8.out.from HPB.out) (by rw [HKL.out]; omega) HCN.out)
  go_wp2_with fail
  refine C.out.mono ?_
  rintro e w9 ⟨rfl, vS2, vW2, hS, hs⟩
  have HS9 := Lib.hid hS
  have HA9 := Lib.hid (HS8.out.row_book hs HA8.out)
  have HC9 := Lib.hid (HS8.out.row_book hs HC8.out)
  have HO9 := Lib.hid (HS8.out.row_book hs HO8.out)
  have HB9 := Lib.hid (HB8.out.trans ((hs.below (B := W.heap.size) (HS8.out.book_low HPL.out) HB8.out.size).mono (Nat.le_refl _)))
  clear hS hs C HA8 HC8 HO8 HB8 HS8 HCN HPB
  have C1 := Lib.hid (fun w' (hb : Below w9.heap.size w9 w') => sameInts_any _ _ _ _ cs w' (HA9.out.below hb) (HS9.out.want.below hb) (by rw [HCS.out]; omega))
  have C2 := Lib.hid (fun w' (hb : Below w9.heap.size w9 w') => sameInts_any _ _ _ _ ch w' (HC9.out.below hb) (HO9.out.below hb) (by rw [HKL.out]; omega))
  have C3 := Lib.hid (fun w' (hb : Below w9.heap.size w9 w') => by have := len_any (HS9.out.fld.below hb); rw [HCS.out] at this; exact this)
  have C := Lib.hid (load_no HS9.out.fld ask (by rw [HCS.out]; exact hin))
  clear hin
  go_wp2_with fail
  refine C.out.mono ?_
  rintro e wz ⟨rfl, hwz⟩
  subst wz
  clear C
  go_wp2_with fail
  refine (C1.out _ (Below.refl _ _)).mono ?_
  rintro e w10 ⟨rfl, q10, hq⟩
  have hb10 : Below w9.heap.size w9 w10 := by rw [hq]; exact bk_below_drewN _ _ _
  have HB10 := Lib.hid hb10
  clear hq hb10
  go_wp2_with fail
  refine (C2.out _ HB10.out).mono ?_
  rintro e w11 ⟨rfl, q11, hq⟩
  have hb11 : Below w9.heap.size w9 w11 := HB10.out.trans (by rw [hq]; exact (bk_below_drewN _ _ _).mono HB10.out.size)
  have HB11 := Lib.hid hb11
  clear hq hb11
  go_wp2_with fail
  refine (C3.out _ HB11.out).mono ?_
  rintro e wz ⟨rfl, hwz⟩
  subst wz
  have HSF := Lib.hid (HS9.out.below HB11.out)
  have HBF := Lib.hid (HB9.out.trans (HB11.out.mono HB9.out.size))
  have HQ := Lib.hid (show (ls ++ [((.slice ao M ac : Value), vals cs)] ++ [((.slice co K cc : Value), vals ch)]).length = ls.length + 2 by rw [List.length_append, List.length_append]; rfl)
  go_wp2
  exact HQ0.out _ _ _ _ _ _ _ _ _ _ _ _ _ _ _ _ _ _ _ _ _ _ _ _ _ _ _ _ _ _ _ _ _ _ _ _ _ _ _ _ _ _ _ _ _ _ _ _ _ _ _ _ _ _ _ _ _ _ _ _ _ _ _ _ _ _ _ _ _ _ _ _ _ _ _ _ _ _ _ _ _ _ _ _ _ _ _ _ _ HQ.out HSF.out HBF.out
end Go.Proofs.Ytifcjcheokkojaa.FieldPlays
