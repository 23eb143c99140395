/- FieldPlays: what stands behind the ways of a round. -/
import Derived.Test.YtifcjcheokkojaaFieldPlaysA
import Derived.Test.YtifcjcheokkojaaFieldPlaysB
import Derived.Deep.LoopGhost
import Derived.Deep.DeepCutAuto
import Derived.Deep.CutBlock
namespace Go.Proofs.Ytifcjcheokkojaa.FieldPlays
open Go.RowKit Book Mem
set_option linter.unusedSimpArgs false
set_option linter.unusedVariables false
set_option maxHeartbeats 8000000 in
set_option maxRecDepth 1000000 in
theorem round_end {W : World} {pb gm mcap bm p : Nat} {l : List Int} {ta : Option Addr} {tc M : Nat} {vC vH : Value} {cs ch : List Int} {q : Nat} {vS vW : Value} {ls : List (Value × List Value)} {ask : Int} {Q : Exit → Act → World → Prop} {wt : World} {c0 c1 c2 c4 c5 c6 c7 c8 c9 c14 c15 c16 c17 c18 c19 c20 c21 c22 c23 c24 c25 c26 c27 c28 c29 c30 c31 c32 c33 c34 c35 c36 c37 c38 c39 c40 c41 c42 c43 c44 c45 c46 c47 c48 c49 c50 c51 c52 c53 c54 c55 c56 c57 c58 c59 c60 c61 c62 c63 c64 c65 c66 c67 c68 c69 c70 c71 c72 c73 c74 c75 c76 c77 c78 c79 c80 c81 c82 c83 c84 c85 c86 c87 c88 c89 c90 c91 c92 c93 c94 c95 c96 c97 c98 c99 c100 c101 c102 c103 c104 c105 c106 c107 c108 c109 c110 c111 c112 c113 c114 c115 c116 c117 c118 c119 c120 c121 c122 c123 c124 c125 c126 c127 c128 c129 c130 c131 c132 c133 c134 c135 c136 c137 c138 c139 c140 c141 c142 c143 c144 c145 c146 c147 c148 c149 c150 c151 c152 c153 c154 c155 c156 c157 c158 c159 c160 c161 c162 c163 c164 c165 c166 c167 c168 c169 c170 c171 c172 c173 c174 c175 c176 c177 c178 c179 c180 c181 c182 c183 c184 c185 c186 c187 c188 c189 c190 c191 c192 c193 c194 c195 c196 c197 c198 c199 c200 c201 c202 c203 c204 c205 c206 c207 c208 c209 c210 c211 c212 c213 c214 c215 c216 c217 c218 c219 c220 c221 c222 c223 c224 c225 c226 c227 c228 c229 c230 c231 c232 c233 c234 c235 c236 c237 c238 c239 c240 c241 c242 c243 c244 : Value}
    (hS : St wt W.heap.size pb gm mcap bm l (.slice ta M tc) p vC vH cs ch cs ch q vS vW ls []) (hq : q ≤ 1000) (hB : Below W.heap.size W wt) (hC : cs.length = M) (hM5 : M ≤ 500) (hls : ls.length < 240) (hpb : W.heap.size ≤ pb) (wa : (Lit.int .i64 ask).wf = true)
    (hQ : ∀ (u18 u19 u20 u21 u22 u23 u24 u126 u127 u128 u129 u130 u131 u132 u133 u134 u135 u136 u137 u138 u139 u140 u141 u142 u143 u144 u145 u146 u147 u148 u149 u150 u151 u152 u153 u154 u155 u156 u157 u158 u159 u160 u161 u162 u163 u164 u165 u166 u167 u168 u169 u170 u171 u172 u173 u174 u175 u176 u177 u178 u179 u180 u181 u182 u183 u184 u185 u186 u187 u188 u189 u190 u191 u192 u193 u194 u195 u196 u197 u198 u199 u200 u201 u202 u203 : Value) (w' : World) (vS' vW' : Value) (ls' : List (Value × List Value)), ls'.length = ls.length + 2 → St w' W.heap.size pb gm mcap bm l (.slice ta M tc) p vC vH cs ch cs ch q vS' vW' ls' [] → Below W.heap.size W w' → Q .normal ⟨#[c0, c1, c2, .int .i64 ask, c4, c5, c6, c7, c8, c9, .pointer (some ⟨p, 0, none⟩), .slice ta M tc, .map (some bm), .pointer (some ⟨pb, 0, none⟩), c14, c15, c16, c17, u18, u19, u20, u21, u22, u23, u24, c25, c26, c27, c28, c29, c30, c31, c32, c33, c34, c35, c36, c37, c38, c39, c40, c41, c42, c43, c44, c45, c46, c47, c48, c49, c50, c51, c52, c53, c54, c55, c56, c57, c58, c59, c60, c61, c62, c63, c64, c65, c66, c67, c68, c69, c70, c71, c72, c73, c74, c75, c76, c77, c78, c79, c80, c81, c82, c83, c84, c85, c86, c87, c88, c89, c90, c91, c92, c93, c94, c95, c96, c97, c98, c99, c100, c101, c102, c103, c104, c105, c106, c107, c108, c109, c110, c111, c112, c113, c114, c115, c116, c117, c118, c119, c120, c121, c122, c123, c124, c125, u126, u127, u128, u129, u130, u131, u132, u133, u134, u135, u136, u137, u138, u139, u140, u141, u142, u143, u144, u145, u146, u147, u148, u149, u150, u151, u152, u153, u154, u155, u156, u157, u158, u159, u160, u161, u162, u163, u164, u165, u166, u167, u168, u169, u170, u171, u172, u173, u174, u175, u176, u177, u178, u179, u180, u181, u182, u183, u184, u185, u186, u187, u188, u189, u190, u191, u192, u193, u194, u195, u196, u197, u198, u199, u200, u201, u202, u203, c204, c205, c206, c207, c208, c209, c210, c211, c212, c213, c214, c215, c216, c217, c218, c219, c220, c221, c222, c223, c224, c225, c226, c227, c228, c229, c230, c231, c232, c233, c234, c235, c236, c237, c238, c239, c240, c241, c242, c243, c244], []⟩ w') :
    Code.wp Try.prog codeEnd (Exit.inBlock 1 Q) ⟨#[c0, c1, c2, .int .i64 ask, c4, c5, c6, c7, c8, c9, .pointer (some ⟨p, 0, none⟩), .slice ta M tc, .map (some bm), .pointer (some ⟨pb, 0, none⟩), c14, c15, c16, c17, c18, c19, c20, c21, c22, c23, c24, c25, c26, c27, c28, c29, c30, c31, c32, c33, c34, c35, c36, c37, c38, c39, c40, c41, c42, c43, c44, c45, c46, c47, c48, c49, c50, c51, c52, c53, c54, c55, c56, c57, c58, c59, c60, c61, c62, c63, c64, c65, c66, c67, c68, c69, c70, c71, c72, c73, c74, c75, c76, c77, c78, c79, c80, c81, c82, c83, c84, c85, c86, c87, c88, c89, c90, c91, c92, c93, c94, c95, c96, c97, c98, c99, c100, c101, c102, c103, c104, c105, c106, c107, c108, c109, c110, c111, c112, c113, c114, c115, c116, c117, c118, c119, c120, c121, c122, c123, c124, c125, c126, c127, c128, c129, c130, c131, c132, c133, c134, c135, c136, c137, c138, c139, c140, c141, c142, c143, c144, c145, c146, c147, c148, c149, c150, c151, c152, c153, c154, c155, c156, c157, c158, c159, c160, c161, c162, c163, c164, c165, c166, c167, c168, c169, c170, c171, c172, c173, c174, c175, c176, c177, c178, c179, c180, c181, c182, c183, c184, c185, c186, c187, c188, c189, c190, c191, c192, c193, c194, c195, c196, c197, c198, c199, c200, c201, c202, c203, c204, c205, c206, c207, c208, c209, c210, c211, c212, c213, c214, c215, c216, c217, c218, c219, c220, c221, c222, c223, c224, c225, c226, c227, c228, c229, c230, c231, c232, c233, c234, c235, c236, c237, c238, c239, c240, c241, c242, c243, c244], []⟩ wt := by
  have HS := Lib.hid hS
  have HB := Lib.hid hB
  have HCS := Lib.hid hC
  have HLS := Lib.hid hls
  have HPL := Lib.hid hpb
  have HQ0 := Lib.hid hQ
  clear hS hB hC hls hpb hQ
  obtain ⟨i0, q1, q2, q3, q4⟩ := info_parts Try.fdIntInfo
  have HI := Lib.hid (And.intro q1 (And.intro q2 (And.intro q3 q4)))
  clear q1 q2 q3 q4
  conv => arg 2; whnf
  go_upto_block 3 with fail
  go_cut [18, 19] from 126 to 138 (fun c k wx => Hid (Owns wx wt.heap.size 3 c (vals ch)) ∧ Hid (Below wt.heap.size wt wx))
  case first =>
    go_wp2
    go_loopg [18, 19] M (fun g c k wx => ∃ i : Nat, g = M - i ∧ i ≤ M ∧ k = .int .i64 i ∧ Hid (Owns wx wt.heap.size 3 c (vals (upTo ch i))) ∧ Hid (Below wt.heap.size wt wx))
    case atStart => exact ⟨0, rfl, Nat.zero_le _, rfl, Owns.nil _ _ _, Below.refl _ _⟩
    case round =>
      obtain ⟨i, rfl, hi, rfl, HO, HX⟩ := hrel
      by_cases hlt2 : i < M
      · have HSX := Lib.hid (HS.out.below HX.out)
        have hi0 : (0 : Int) ≤ (i : Int) := by omega
        have hi1 : (i : Int) < (M : Int) := by omega
        have HWI := Lib.hid (WalkArith.wf_i64 (n := (i : Int)) (by omega))
        by_cases hin : (i : Int) ∈ ch
        · have hd : decide ((i : Int) ∈ ch) = true := decide_eq_true hin
          have HIN := Lib.hid hin
          obtain ⟨co, cc, hcv⟩ := HO.out.slice
          obtain ⟨K, hK⟩ : ∃ K, (vals (upTo ch i)).length = K := ⟨_, rfl⟩
          have hK1 : K ≤ i := by rw [← hK, vals_length]; exact upTo_length ch i
          rw [hK] at hcv
          subst hcv
          have HKL := Lib.hid hK
          have HOA := Lib.hid (HO.out.below ((Below.refl wr.heap.size wr).alloc (Nat.le_refl _) (.cells #[.int .i64 i] 3)))
          have HZX := Lib.hid HX.out.size
          clear hin hK
          go_wp2_with (first | (at_lookup; refine wpList_lookup_set _ rfl _ _ rfl bm q ch rfl HSX.out.map (i : Int) rfl HWI.out ?_) | (at_builtin; refine wpList_append_two _ rfl _ _ 22 rfl wt.heap.size 3 i0 (.int .i64 0) 8 Try.underlying22 HI.out.1 HI.out.2.1 HI.out.2.2.1 HI.out.2.2.2 rfl _ _ rfl HOA.out ⟨wr.heap.size, 0, none⟩ 1 1 [.int .i64 i] rfl rfl ?c1 ?c2 (Nat.zero_lt_succ 0) ?c3 ?c4 ?c5 ?_))
          case c1 => intro j u hj; rcases j with _ | j <;> simp at hj; subst hj; simp [Addr.add]
          case c2 => intro u hu; simp at hu; subst hu; rfl
          case c3 => rw [HKL.out]; show K + 1 ≤ maxLen; unfold maxLen; omega
          case c4 => rw [HKL.out]; show (K + 1) * 8 ≤ _; omega
          case c5 => have := HZX.out; simp; omega
          intro v' w2 hO2 _ hT _
          have hv : vals (upTo ch i) ++ [.int .i64 (i : Int)] = vals (upTo ch (i + 1)) := by rw [upTo_yes HIN.out]; simp [vals]
          rw [hv] at hO2
          have HO2 := Lib.hid hO2
          have HX2 := Lib.hid ((HX.out.alloc HX.out.size (.cells #[.int .i64 i] 3)).trans (hT.below (B := wt.heap.size) (fun k hk => (HOA.out.block k (by simpa using hk)).1) (by have := HZX.out; simp; omega)))
          clear hO2 hT hv hd
          go_wp2
          go_roundg (M - (i + 1))
          case measure => omega
          case rel => exact ⟨i + 1, rfl, by omega, by go_num, HO2, HX2⟩
        · have hd : decide ((i : Int) ∈ ch) = false := decide_eq_false hin
          have HO2 := Lib.hid (show Owns wr wt.heap.size 3 _ (vals (upTo ch (i + 1))) by rw [upTo_no hin]; exact HO.out)
          go_wp2_with (at_lookup; refine wpList_lookup_set _ rfl _ _ rfl bm q ch rfl HSX.out.map (i : Int) rfl HWI.out ?_)
          go_roundg (M - (i + 1))
          case measure => omega
          case rel => exact ⟨i + 1, rfl, by omega, by go_num, HO2, HX⟩
      · obtain rfl : i = M := by omega
        have hall : upTo ch i = ch := upTo_all HS.out.fld.sort (by have := HS.out.fld.within; rw [HCS.out] at this; exact this)
        rw [hall] at HO
        clear hall
        go_wp2
        go_meet
        exact ⟨HO, HX⟩
  case rest =>
    obtain ⟨HO, HX⟩ := hcut
    obtain ⟨ho5, hc5, hcv⟩ := HO.out.slice
    obtain ⟨K, hK⟩ : ∃ K, ch.length = K := ⟨_, rfl⟩
    rw [vals_length, hK] at hcv
    subst hcv
    refine ‹∀ (a : Act) (w : World), Code.wp _ _ (Exit.inBlock 1 _) a w → _› _ _ ?_
    by_cases hin : 0 ≤ ask ∧ ask < (M : Int)
    · exact last_in (HS.out.below HX.out) HO.out hK (HB.out.trans (HX.out.mono HB.out.size)) HCS.out hM5 HLS.out HPL.out wa hin HQ0.out
    · by_cases ha : 0 ≤ ask
      · exact last_over (HS.out.below HX.out) HO.out hK (HB.out.trans (HX.out.mono HB.out.size)) HCS.out hM5 HLS.out HPL.out wa hin ha HQ0.out
      · exact last_under (HS.out.below HX.out) HO.out hK (HB.out.trans (HX.out.mono HB.out.size)) HCS.out hM5 HLS.out HPL.out wa hin ha HQ0.out
end Go.Proofs.Ytifcjcheokkojaa.FieldPlays
