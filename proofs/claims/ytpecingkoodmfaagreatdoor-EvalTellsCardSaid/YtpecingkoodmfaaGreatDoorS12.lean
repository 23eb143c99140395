/- The document's own run (chapter 15): ways of the switch (A). -/
import Derived.Test.YtpecingkoodmfaaGreatDoorS11
import Derived.Deep.LoopGhost
import Derived.Deep.DeepCutAuto
namespace Go.Proofs.YtpecingkoodmfaaGreatDoor.Ev
open Go.RowKit Book Mem
open Ir (T I O trA trV ReadsL ReadsI insA insV newBox boxOn CI CT rightT)
open Mach (step_st_state M less cells10 zero10 OwnsL OwnsM stV st_state ld_state state_size slice_one all_one)
set_option linter.unusedSimpArgs false
set_option linter.unusedVariables false
set_option maxHeartbeats 8000000 in
set_option maxRecDepth 1000000 in
theorem rway1 {W w : World} {t : T} {s s' : M} {wat V' : List Int} {k ni n1 n2 nm nw gt gs gr gv g7 ci co cc sc bc mc4 cw : Nat} {ad : Addr} {ao ac so bo mo4 aw : Option Addr} {a b c ex : Int} {res : X} {Q : Exit → Act → World → Prop} (h : AtI W w t s s' wat V' k ni n1 n2 nm nw gt gs gr gv g7 ci co cc sc bc mc4 cw ad ao ac so bo mo4 aw 1 a b c ex res) : WayI Q W w t s s' wat V' k ni n1 n2 nm nw gt gs gr gv g7 ci co cc sc bc mc4 cw ad ao ac so bo mo4 aw 1 a b c ex res := by
  have HR8 := Lib.hid h.hrun
  have HRR := Lib.hid h.hrr
  have HRS := Lib.hid h.hrs
  have HRB := Lib.hid h.hrb
  have HRW := Lib.hid h.hrw
  have HNI := Lib.hid h.hni
  have HN12 := Lib.hid h.hn12
  have HNW := Lib.hid h.hnw
  have z1 := h.z1
  have z2 := h.z2
  have z3 := h.z3
  have HZ4 := Lib.hid h.z4
  have z5 := h.z5
  have z6 := h.z6
  have z7 := h.z7
  have z8 := h.z8
  have HXK := Lib.hid h.hix
  have HCX := Lib.hid h.hcx
  have HQ := Lib.hid h.hq
  have HJ := Lib.hid h.hj
  have HRES := Lib.hid h.hres
  have HEX := Lib.hid h.hex
  have HMY := Lib.hid h.hmy
  have HRP := Lib.hid h.hrp
  have HMP := Lib.hid h.hmp
  have hlt := h.hlt
  have NG := Lib.hid h.ng
  have NG2 := Lib.hid h.ng2
  have NGR := Lib.hid h.ngr
  have HGRW := Lib.hid h.hgrw
  have HVK := Lib.hid h.hq.2.2.1
  have HOK := Lib.hid (ins_parts (h.hrp.ins k _ h.hix))
  have k0 : (0 : Int) ≤ (k : Int) := Int.natCast_nonneg k
  have k1 : (k : Int) < (ni : Int) := Int.ofNat_lt.2 hlt
  have hg7 := (h.hrun.fr g7 _ (if_pos rfl)).1
  have m0 : w.cell? ⟨g7, 0, none⟩ = some (.int .i64 1) := whole_cell hg7 rfl
  have m1 : w.cell? ⟨g7, 1, none⟩ = some (.int .i64 a) := whole_cell hg7 rfl
  have m2 : w.cell? ⟨g7, 2, none⟩ = some (.int .i64 b) := whole_cell hg7 rfl
  have m3 : w.cell? ⟨g7, 3, none⟩ = some (.int .i64 c) := whole_cell hg7 rfl
  have m4 : w.cell? ⟨g7, 4, none⟩ = some (.int .i64 ex) := whole_cell hg7 rfl
  have CU := Lib.hid (fun wc => Ir.ruses_any (1, a, b, c, ex) wc)
  have hop : True := trivial
  clear h hg7
  intro c0 c1 c5 c7 c8 c12 c13 c14 c15 c16 c17 c18 c19 c20 c21 c22 c23 c24 c25 c26 c27 c28 c29 c30 c31 c32 c33 c34 c35 c36 c37 c38 c39 c40 c41 c42 c43 c44 c45 c46 c47 c48 c49 c50 c51 c52 c53 c54 c55 c56 c57 c58 c59 c60 c61 c62 c63 c64 c65 c66 c67 c68 c69 c70 c71 c72 c73 c74 c75 c76 c77 c78 c79 c80 c81 c82 c83 c84 c85 c86 c87 c88 c89 c90 c91 c92 c93 c94 c95 c96 c97 c98 c99 c100 c101 c102 c103 c104 c105 c106 c107 c108 c109 c110 c111 c112 c113 c114 c115 c116 c117 c118 c119 c120 c121 c122 c123 c124 c125 c126 c127 c128 c129 c130 c131 c132 c133 c134 c135 c136 c137 c138 c139 c140 c141 c142 c143 c144 c145 c146 c147 c148 c149 c150 c151 c152 c153 c154 c155 c156 c157 c158 c159 c160 c161 c162 c163 c164 c165 c166 c167 c168 c169 c170 c171 c172 c173 c174 c175 c176 c177 c178 c179 c180 c181 c182 c183 c184 c185 c186 c187 c188 c189 c190 c191 c192 c193 c194 c195 c196 c197 c198 c199 c200 c201 c202 c203 c204 c205 c206 c207 c208 c209 c210 c211 c212 c213 c214 c215 c216 c217 c218 c219 c220 c221 c222 c223 c224 c225 c226 c227 c228 c229 c230 c231 c232 c233 c234 c235 c236 c237 c238 c239 c240 c241 c242 c243 c244 c245 c246 c247 c248 c249 c250 c251 c252 c253 c254 c255 c256 c257 c258 c259 c260 c261 c262 c263 c264 c265 c266 hQ hR hP
  have HQP := Lib.hid hP
  clear hP
  have HQX := Lib.hid hQ
  have HRX := Lib.hid hR
  clear hQ hR
  conv => arg 2; whnf
  go_wp2_with fail
  refine (CU.out _).mono ?_
  rintro e w9 ⟨vu, rfl, hu, hb9⟩
  have HU9 : Ir.usesL (1, a, b, c, ex) = [] := rfl
  rw [HU9] at hu
  have HUS := HOK.out.uses
  rw [HU9] at HUS
  have HR9 := Lib.hid (HR8.out.below hb9)
  obtain ⟨au, cu, eu⟩ := hu.slice
  rw [show (vals ([] : List Int)).length = 0 from rfl] at eu
  subst eu
  have HG9 := (HR9.out.fr g7 _ (if_pos rfl)).1
  have p0 : w9.cell? ⟨g7, 0, none⟩ = some (.int .i64 1) := whole_cell HG9 rfl
  have p1 : w9.cell? ⟨g7, 1, none⟩ = some (.int .i64 a) := whole_cell HG9 rfl
  have vcc := Mem.owns_at HR9.out.vl (j := k) (by rw [padV_length (by rw [HVK.out]; exact Nat.le_of_lt hlt)]; exact hlt)
  obtain ⟨old, hold⟩ : ∃ x, (padV V' ni)[k]'(by rw [padV_length (by rw [HVK.out]; exact Nat.le_of_lt hlt)]; exact hlt) = x := ⟨_, rfl⟩
  rw [hold] at vcc
  obtain ⟨v0, v1⟩ := vcc
  have b2 : w9.cell? ⟨gs, 2, none⟩ = some (.slice so n1 sc) := whole_cell HR9.out.box rfl
  have b3 : w9.cell? ⟨gs, 3, none⟩ = some (.slice bo n2 bc) := whole_cell HR9.out.box rfl
  have b4 : w9.cell? ⟨gs, 4, none⟩ = some (.slice mo4 nm mc4) := whole_cell HR9.out.box rfl
  clear hold HG9 hu hb9 HU9 HUS
  try dsimp only
  have HRV := Lib.hid (HR9.out.value rfl (by rw [HVK.out]; exact hlt) a)
  rw [HVK.out] at HRV
  have hd := Lib.hid (show doI wat s' V' (1, a, b, c, ex) = ⟨s', a, true, false⟩ from rfl)
  clear hop
  go_wp2_with fail
  exact HQX.out _ _ _ _ _ _ _ _ _ _ _ _ _ _ _ _ _ _ _ _ _ _ _ _ _ _ _ _ _ _ _ _ _ _ _ _ _ _ _ _ _ _ _ _ _ _ _ _ _ _ _ _ _ _ _ _ _ _ _ _ _ _ _ _ _ _ _ _ _ _ _ _ _ _ _ _ _ _ _ _ _ _ _ _ _ _ _ _ _ _ _ _ _ _ _ _ _ _ _ _ _ _ _ _ _ _ _ _ _ _ _ _ _ _ _ _ _ _ _ _ _ _ _ _ _ _ _ _ _ _ _ _ _ _ _ _ _ _ _ _ _ _ _ _ _ _ _ _ _ _ _ _ _ _ _ _ _ _ _ _ _ _ _ _ _ _ _ _ _ _ _ _ _ _ _ _ _ _ _ _ _ _ _ _ _ _ _ _ _ _ _ _ _ _ _ _ _ _ _ _ _ _ _ _ _ _ _ _ _ _ _ _ _ _ _ _ _ _ _ _ _ _ _ _ hd.out HRV.out

set_option maxHeartbeats 8000000 in
set_option maxRecDepth 1000000 in
theorem rway2 {W w : World} {t : T} {s s' : M} {wat V' : List Int} {k ni n1 n2 nm nw gt gs gr gv g7 ci co cc sc bc mc4 cw : Nat} {ad : Addr} {ao ac so bo mo4 aw : Option Addr} {a b c ex : Int} {res : X} {Q : Exit → Act → World → Prop} (h : AtI W w t s s' wat V' k ni n1 n2 nm nw gt gs gr gv g7 ci co cc sc bc mc4 cw ad ao ac so bo mo4 aw 2 a b c ex res) : WayI Q W w t s s' wat V' k ni n1 n2 nm nw gt gs gr gv g7 ci co cc sc bc mc4 cw ad ao ac so bo mo4 aw 2 a b c ex res := by
  have HR8 := Lib.hid h.hrun
  have HRR := Lib.hid h.hrr
  have HRS := Lib.hid h.hrs
  have HRB := Lib.hid h.hrb
  have HRW := Lib.hid h.hrw
  have HNI := Lib.hid h.hni
  have HN12 := Lib.hid h.hn12
  have HNW := Lib.hid h.hnw
  have z1 := h.z1
  have z2 := h.z2
  have z3 := h.z3
  have HZ4 := Lib.hid h.z4
  have z5 := h.z5
  have z6 := h.z6
  have z7 := h.z7
  have z8 := h.z8
  have HXK := Lib.hid h.hix
  have HCX := Lib.hid h.hcx
  have HQ := Lib.hid h.hq
  have HJ := Lib.hid h.hj
  have HRES := Lib.hid h.hres
  have HEX := Lib.hid h.hex
  have HMY := Lib.hid h.hmy
  have HRP := Lib.hid h.hrp
  have HMP := Lib.hid h.hmp
  have hlt := h.hlt
  have NG := Lib.hid h.ng
  have NG2 := Lib.hid h.ng2
  have NGR := Lib.hid h.ngr
  have HGRW := Lib.hid h.hgrw
  have HVK := Lib.hid h.hq.2.2.1
  have HOK := Lib.hid (ins_parts (h.hrp.ins k _ h.hix))
  have k0 : (0 : Int) ≤ (k : Int) := Int.natCast_nonneg k
  have k1 : (k : Int) < (ni : Int) := Int.ofNat_lt.2 hlt
  have hg7 := (h.hrun.fr g7 _ (if_pos rfl)).1
  have m0 : w.cell? ⟨g7, 0, none⟩ = some (.int .i64 2) := whole_cell hg7 rfl
  have m1 : w.cell? ⟨g7, 1, none⟩ = some (.int .i64 a) := whole_cell hg7 rfl
  have m2 : w.cell? ⟨g7, 2, none⟩ = some (.int .i64 b) := whole_cell hg7 rfl
  have m3 : w.cell? ⟨g7, 3, none⟩ = some (.int .i64 c) := whole_cell hg7 rfl
  have m4 : w.cell? ⟨g7, 4, none⟩ = some (.int .i64 ex) := whole_cell hg7 rfl
  have CU := Lib.hid (fun wc => Ir.ruses_any (2, a, b, c, ex) wc)
  have hop : True := trivial
  clear h hg7
  intro c0 c1 c5 c7 c8 c12 c13 c14 c15 c16 c17 c18 c19 c20 c21 c22 c23 c24 c25 c26 c27 c28 c29 c30 c31 c32 c33 c34 c35 c36 c37 c38 c39 c40 c41 c42 c43 c44 c45 c46 c47 c48 c49 c50 c51 c52 c53 c54 c55 c56 c57 c58 c59 c60 c61 c62 c63 c64 c65 c66 c67 c68 c69 c70 c71 c72 c73 c74 c75 c76 c77 c78 c79 c80 c81 c82 c83 c84 c85 c86 c87 c88 c89 c90 c91 c92 c93 c94 c95 c96 c97 c98 c99 c100 c101 c102 c103 c104 c105 c106 c107 c108 c109 c110 c111 c112 c113 c114 c115 c116 c117 c118 c119 c120 c121 c122 c123 c124 c125 c126 c127 c128 c129 c130 c131 c132 c133 c134 c135 c136 c137 c138 c139 c140 c141 c142 c143 c144 c145 c146 c147 c148 c149 c150 c151 c152 c153 c154 c155 c156 c157 c158 c159 c160 c161 c162 c163 c164 c165 c166 c167 c168 c169 c170 c171 c172 c173 c174 c175 c176 c177 c178 c179 c180 c181 c182 c183 c184 c185 c186 c187 c188 c189 c190 c191 c192 c193 c194 c195 c196 c197 c198 c199 c200 c201 c202 c203 c204 c205 c206 c207 c208 c209 c210 c211 c212 c213 c214 c215 c216 c217 c218 c219 c220 c221 c222 c223 c224 c225 c226 c227 c228 c229 c230 c231 c232 c233 c234 c235 c236 c237 c238 c239 c240 c241 c242 c243 c244 c245 c246 c247 c248 c249 c250 c251 c252 c253 c254 c255 c256 c257 c258 c259 c260 c261 c262 c263 c264 c265 c266 hQ hR hP
  have HQP := Lib.hid hP
  clear hP
  have HQX := Lib.hid hQ
  have HRX := Lib.hid hR
  clear hQ hR
  conv => arg 2; whnf
  go_wp2_with fail
  refine (CU.out _).mono ?_
  rintro e w9 ⟨vu, rfl, hu, hb9⟩
  have HU9 : Ir.usesL (2, a, b, c, ex) = [] := rfl
  rw [HU9] at hu
  have HUS := HOK.out.uses
  rw [HU9] at HUS
  have HR9 := Lib.hid (HR8.out.below hb9)
  obtain ⟨au, cu, eu⟩ := hu.slice
  rw [show (vals ([] : List Int)).length = 0 from rfl] at eu
  subst eu
  have HG9 := (HR9.out.fr g7 _ (if_pos rfl)).1
  have p0 : w9.cell? ⟨g7, 0, none⟩ = some (.int .i64 2) := whole_cell HG9 rfl
  have p1 : w9.cell? ⟨g7, 1, none⟩ = some (.int .i64 a) := whole_cell HG9 rfl
  have vcc := Mem.owns_at HR9.out.vl (j := k) (by rw [padV_length (by rw [HVK.out]; exact Nat.le_of_lt hlt)]; exact hlt)
  obtain ⟨old, hold⟩ : ∃ x, (padV V' ni)[k]'(by rw [padV_length (by rw [HVK.out]; exact Nat.le_of_lt hlt)]; exact hlt) = x := ⟨_, rfl⟩
  rw [hold] at vcc
  obtain ⟨v0, v1⟩ := vcc
  have b2 : w9.cell? ⟨gs, 2, none⟩ = some (.slice so n1 sc) := whole_cell HR9.out.box rfl
  have b3 : w9.cell? ⟨gs, 3, none⟩ = some (.slice bo n2 bc) := whole_cell HR9.out.box rfl
  have b4 : w9.cell? ⟨gs, 4, none⟩ = some (.slice mo4 nm mc4) := whole_cell HR9.out.box rfl
  clear hold HG9 hu hb9 HU9 HUS
  try dsimp only
  have hwk := within_iff.1 (show Ir.within a (t.slots - 1) = true from HOK.out.works)
  have hmp := HMP.out.1
  obtain ⟨ka, hka⟩ : ∃ ka : Nat, a = ka := ⟨a.toNat, by omega⟩
  obtain ⟨m, hm⟩ : ∃ m, n1 = m + 1 := ⟨n1 - 1, by omega⟩
  obtain ⟨j, hj⟩ : ∃ j, j + ka = m := ⟨m - ka, by omega⟩
  have hkj : j < s.stack.length := by rw [HN12.out.1]; omega
  obtain ⟨y, hy⟩ : ∃ y, s.stack[j]? = some y := ⟨_, List.getElem?_eq_getElem hkj⟩
  obtain ⟨ads, rfl, cj⟩ := Ir.Reads.at' HRS.out.1 hy
  have cj9 : w9.cell? (ads.add j) = some (.int .i64 y) := by rw [HR9.out.hb.cell (World.block_lt_of_cell? W _ cj)]; exact cj
  subst hka
  have hd := Lib.hid (show doI wat s' V' (2, (ka : Int), b, c, ex) = ⟨s', y, true, false⟩ from by
    show seeI s' s'.stack (wrap64 ((s'.stack.length : Int) - 1 - (ka : Int))) = _
    unfold seeI
    rw [HQ.out.1.stack, slot_is (j := j) (by rw [HN12.out.1]; omega) (by rw [HN12.out.1]; exact z1) hy])
  obtain ⟨e1, e2, e3, e4, e5, e6⟩ := slot_facts hm hj z1
  obtain ⟨q, hq⟩ : ∃ q : Int, (m : Int) = q := ⟨_, rfl⟩
  rw [hq] at e1 e2 e3
  clear hwk hmp hm hj hkj hy cj hop hq
  have HRV := Lib.hid (HR9.out.value rfl (by rw [HVK.out]; exact hlt) y)
  rw [HVK.out] at HRV
  go_wp2_with fail
  exact HQX.out _ _ _ _ _ _ _ _ _ _ _ _ _ _ _ _ _ _ _ _ _ _ _ _ _ _ _ _ _ _ _ _ _ _ _ _ _ _ _ _ _ _ _ _ _ _ _ _ _ _ _ _ _ _ _ _ _ _ _ _ _ _ _ _ _ _ _ _ _ _ _ _ _ _ _ _ _ _ _ _ _ _ _ _ _ _ _ _ _ _ _ _ _ _ _ _ _ _ _ _ _ _ _ _ _ _ _ _ _ _ _ _ _ _ _ _ _ _ _ _ _ _ _ _ _ _ _ _ _ _ _ _ _ _ _ _ _ _ _ _ _ _ _ _ _ _ _ _ _ _ _ _ _ _ _ _ _ _ _ _ _ _ _ _ _ _ _ _ _ _ _ _ _ _ _ _ _ _ _ _ _ _ _ _ _ _ _ _ _ _ _ _ _ _ _ _ _ _ _ _ _ _ _ _ _ _ _ _ _ _ _ _ _ _ _ _ _ _ _ _ _ _ _ _ hd.out HRV.out

set_option maxHeartbeats 8000000 in
set_option maxRecDepth 1000000 in
theorem rway3 {W w : World} {t : T} {s s' : M} {wat V' : List Int} {k ni n1 n2 nm nw gt gs gr gv g7 ci co cc sc bc mc4 cw : Nat} {ad : Addr} {ao ac so bo mo4 aw : Option Addr} {a b c ex : Int} {res : X} {Q : Exit → Act → World → Prop} (h : AtI W w t s s' wat V' k ni n1 n2 nm nw gt gs gr gv g7 ci co cc sc bc mc4 cw ad ao ac so bo mo4 aw 3 a b c ex res) : WayI Q W w t s s' wat V' k ni n1 n2 nm nw gt gs gr gv g7 ci co cc sc bc mc4 cw ad ao ac so bo mo4 aw 3 a b c ex res := by
  have HR8 := Lib.hid h.hrun
  have HRR := Lib.hid h.hrr
  have HRS := Lib.hid h.hrs
  have HRB := Lib.hid h.hrb
  have HRW := Lib.hid h.hrw
  have HNI := Lib.hid h.hni
  have HN12 := Lib.hid h.hn12
  have HNW := Lib.hid h.hnw
  have z1 := h.z1
  have z2 := h.z2
  have z3 := h.z3
  have HZ4 := Lib.hid h.z4
  have z5 := h.z5
  have z6 := h.z6
  have z7 := h.z7
  have z8 := h.z8
  have HXK := Lib.hid h.hix
  have HCX := Lib.hid h.hcx
  have HQ := Lib.hid h.hq
  have HJ := Lib.hid h.hj
  have HRES := Lib.hid h.hres
  have HEX := Lib.hid h.hex
  have HMY := Lib.hid h.hmy
  have HRP := Lib.hid h.hrp
  have HMP := Lib.hid h.hmp
  have hlt := h.hlt
  have NG := Lib.hid h.ng
  have NG2 := Lib.hid h.ng2
  have NGR := Lib.hid h.ngr
  have HGRW := Lib.hid h.hgrw
  have HVK := Lib.hid h.hq.2.2.1
  have HOK := Lib.hid (ins_parts (h.hrp.ins k _ h.hix))
  have k0 : (0 : Int) ≤ (k : Int) := Int.natCast_nonneg k
  have k1 : (k : Int) < (ni : Int) := Int.ofNat_lt.2 hlt
  have hg7 := (h.hrun.fr g7 _ (if_pos rfl)).1
  have m0 : w.cell? ⟨g7, 0, none⟩ = some (.int .i64 3) := whole_cell hg7 rfl
  have m1 : w.cell? ⟨g7, 1, none⟩ = some (.int .i64 a) := whole_cell hg7 rfl
  have m2 : w.cell? ⟨g7, 2, none⟩ = some (.int .i64 b) := whole_cell hg7 rfl
  have m3 : w.cell? ⟨g7, 3, none⟩ = some (.int .i64 c) := whole_cell hg7 rfl
  have m4 : w.cell? ⟨g7, 4, none⟩ = some (.int .i64 ex) := whole_cell hg7 rfl
  have CU := Lib.hid (fun wc => Ir.ruses_any (3, a, b, c, ex) wc)
  have hop : True := trivial
  clear h hg7
  intro c0 c1 c5 c7 c8 c12 c13 c14 c15 c16 c17 c18 c19 c20 c21 c22 c23 c24 c25 c26 c27 c28 c29 c30 c31 c32 c33 c34 c35 c36 c37 c38 c39 c40 c41 c42 c43 c44 c45 c46 c47 c48 c49 c50 c51 c52 c53 c54 c55 c56 c57 c58 c59 c60 c61 c62 c63 c64 c65 c66 c67 c68 c69 c70 c71 c72 c73 c74 c75 c76 c77 c78 c79 c80 c81 c82 c83 c84 c85 c86 c87 c88 c89 c90 c91 c92 c93 c94 c95 c96 c97 c98 c99 c100 c101 c102 c103 c104 c105 c106 c107 c108 c109 c110 c111 c112 c113 c114 c115 c116 c117 c118 c119 c120 c121 c122 c123 c124 c125 c126 c127 c128 c129 c130 c131 c132 c133 c134 c135 c136 c137 c138 c139 c140 c141 c142 c143 c144 c145 c146 c147 c148 c149 c150 c151 c152 c153 c154 c155 c156 c157 c158 c159 c160 c161 c162 c163 c164 c165 c166 c167 c168 c169 c170 c171 c172 c173 c174 c175 c176 c177 c178 c179 c180 c181 c182 c183 c184 c185 c186 c187 c188 c189 c190 c191 c192 c193 c194 c195 c196 c197 c198 c199 c200 c201 c202 c203 c204 c205 c206 c207 c208 c209 c210 c211 c212 c213 c214 c215 c216 c217 c218 c219 c220 c221 c222 c223 c224 c225 c226 c227 c228 c229 c230 c231 c232 c233 c234 c235 c236 c237 c238 c239 c240 c241 c242 c243 c244 c245 c246 c247 c248 c249 c250 c251 c252 c253 c254 c255 c256 c257 c258 c259 c260 c261 c262 c263 c264 c265 c266 hQ hR hP
  have HQP := Lib.hid hP
  clear hP
  have HQX := Lib.hid hQ
  have HRX := Lib.hid hR
  clear hQ hR
  conv => arg 2; whnf
  go_wp2_with fail
  refine (CU.out _).mono ?_
  rintro e w9 ⟨vu, rfl, hu, hb9⟩
  have HU9 : Ir.usesL (3, a, b, c, ex) = [] := rfl
  rw [HU9] at hu
  have HUS := HOK.out.uses
  rw [HU9] at HUS
  have HR9 := Lib.hid (HR8.out.below hb9)
  obtain ⟨au, cu, eu⟩ := hu.slice
  rw [show (vals ([] : List Int)).length = 0 from rfl] at eu
  subst eu
  have HG9 := (HR9.out.fr g7 _ (if_pos rfl)).1
  have p0 : w9.cell? ⟨g7, 0, none⟩ = some (.int .i64 3) := whole_cell HG9 rfl
  have p1 : w9.cell? ⟨g7, 1, none⟩ = some (.int .i64 a) := whole_cell HG9 rfl
  have vcc := Mem.owns_at HR9.out.vl (j := k) (by rw [padV_length (by rw [HVK.out]; exact Nat.le_of_lt hlt)]; exact hlt)
  obtain ⟨old, hold⟩ : ∃ x, (padV V' ni)[k]'(by rw [padV_length (by rw [HVK.out]; exact Nat.le_of_lt hlt)]; exact hlt) = x := ⟨_, rfl⟩
  rw [hold] at vcc
  obtain ⟨v0, v1⟩ := vcc
  have b2 : w9.cell? ⟨gs, 2, none⟩ = some (.slice so n1 sc) := whole_cell HR9.out.box rfl
  have b3 : w9.cell? ⟨gs, 3, none⟩ = some (.slice bo n2 bc) := whole_cell HR9.out.box rfl
  have b4 : w9.cell? ⟨gs, 4, none⟩ = some (.slice mo4 nm mc4) := whole_cell HR9.out.box rfl
  clear hold HG9 hu hb9 HU9 HUS
  try dsimp only
  have hwk := within_iff.1 (show Ir.within a (t.backs - 1) = true from HOK.out.works)
  have hmp := HMP.out.2
  obtain ⟨ka, hka⟩ : ∃ ka : Nat, a = ka := ⟨a.toNat, by omega⟩
  obtain ⟨m, hm⟩ : ∃ m, n2 = m + 1 := ⟨n2 - 1, by omega⟩
  obtain ⟨j, hj⟩ : ∃ j, j + ka = m := ⟨m - ka, by omega⟩
  have hkj : j < s.back.length := by rw [HN12.out.2]; omega
  obtain ⟨y, hy⟩ : ∃ y, s.back[j]? = some y := ⟨_, List.getElem?_eq_getElem hkj⟩
  obtain ⟨ads, rfl, cj⟩ := Ir.Reads.at' HRB.out.1 hy
  have cj9 : w9.cell? (ads.add j) = some (.int .i64 y) := by rw [HR9.out.hb.cell (World.block_lt_of_cell? W _ cj)]; exact cj
  subst hka
  have hd := Lib.hid (show doI wat s' V' (3, (ka : Int), b, c, ex) = ⟨s', y, true, false⟩ from by
    show seeI s' s'.back (wrap64 ((s'.back.length : Int) - 1 - (ka : Int))) = _
    unfold seeI
    rw [HQ.out.1.back, slot_is (j := j) (by rw [HN12.out.2]; omega) (by rw [HN12.out.2]; exact z2) hy])
  obtain ⟨e1, e2, e3, e4, e5, e6⟩ := slot_facts hm hj z2
  obtain ⟨q, hq⟩ : ∃ q : Int, (m : Int) = q := ⟨_, rfl⟩
  rw [hq] at e1 e2 e3
  clear hwk hmp hm hj hkj hy cj hop hq
  have HRV := Lib.hid (HR9.out.value rfl (by rw [HVK.out]; exact hlt) y)
  rw [HVK.out] at HRV
  go_wp2_with fail
  exact HQX.out _ _ _ _ _ _ _ _ _ _ _ _ _ _ _ _ _ _ _ _ _ _ _ _ _ _ _ _ _ _ _ _ _ _ _ _ _ _ _ _ _ _ _ _ _ _ _ _ _ _ _ _ _ _ _ _ _ _ _ _ _ _ _ _ _ _ _ _ _ _ _ _ _ _ _ _ _ _ _ _ _ _ _ _ _ _ _ _ _ _ _ _ _ _ _ _ _ _ _ _ _ _ _ _ _ _ _ _ _ _ _ _ _ _ _ _ _ _ _ _ _ _ _ _ _ _ _ _ _ _ _ _ _ _ _ _ _ _ _ _ _ _ _ _ _ _ _ _ _ _ _ _ _ _ _ _ _ _ _ _ _ _ _ _ _ _ _ _ _ _ _ _ _ _ _ _ _ _ _ _ _ _ _ _ _ _ _ _ _ _ _ _ _ _ _ _ _ _ _ _ _ _ _ _ _ _ _ _ _ _ _ _ _ _ _ _ _ _ _ _ _ _ _ _ hd.out HRV.out

set_option maxHeartbeats 8000000 in
set_option maxRecDepth 1000000 in
theorem rway4 {W w : World} {t : T} {s s' : M} {wat V' : List Int} {k ni n1 n2 nm nw gt gs gr gv g7 ci co cc sc bc mc4 cw : Nat} {ad : Addr} {ao ac so bo mo4 aw : Option Addr} {a b c ex : Int} {res : X} {Q : Exit → Act → World → Prop} (h : AtI W w t s s' wat V' k ni n1 n2 nm nw gt gs gr gv g7 ci co cc sc bc mc4 cw ad ao ac so bo mo4 aw 4 a b c ex res) : WayI Q W w t s s' wat V' k ni n1 n2 nm nw gt gs gr gv g7 ci co cc sc bc mc4 cw ad ao ac so bo mo4 aw 4 a b c ex res := by
  have HR8 := Lib.hid h.hrun
  have HRR := Lib.hid h.hrr
  have HRS := Lib.hid h.hrs
  have HRB := Lib.hid h.hrb
  have HRW := Lib.hid h.hrw
  have HNI := Lib.hid h.hni
  have HN12 := Lib.hid h.hn12
  have HNW := Lib.hid h.hnw
  have z1 := h.z1
  have z2 := h.z2
  have z3 := h.z3
  have HZ4 := Lib.hid h.z4
  have z5 := h.z5
  have z6 := h.z6
  have z7 := h.z7
  have z8 := h.z8
  have HXK := Lib.hid h.hix
  have HCX := Lib.hid h.hcx
  have HQ := Lib.hid h.hq
  have HJ := Lib.hid h.hj
  have HRES := Lib.hid h.hres
  have HEX := Lib.hid h.hex
  have HMY := Lib.hid h.hmy
  have HRP := Lib.hid h.hrp
  have HMP := Lib.hid h.hmp
  have hlt := h.hlt
  have NG := Lib.hid h.ng
  have NG2 := Lib.hid h.ng2
  have NGR := Lib.hid h.ngr
  have HGRW := Lib.hid h.hgrw
  have HVK := Lib.hid h.hq.2.2.1
  have HOK := Lib.hid (ins_parts (h.hrp.ins k _ h.hix))
  have k0 : (0 : Int) ≤ (k : Int) := Int.natCast_nonneg k
  have k1 : (k : Int) < (ni : Int) := Int.ofNat_lt.2 hlt
  have hg7 := (h.hrun.fr g7 _ (if_pos rfl)).1
  have m0 : w.cell? ⟨g7, 0, none⟩ = some (.int .i64 4) := whole_cell hg7 rfl
  have m1 : w.cell? ⟨g7, 1, none⟩ = some (.int .i64 a) := whole_cell hg7 rfl
  have m2 : w.cell? ⟨g7, 2, none⟩ = some (.int .i64 b) := whole_cell hg7 rfl
  have m3 : w.cell? ⟨g7, 3, none⟩ = some (.int .i64 c) := whole_cell hg7 rfl
  have m4 : w.cell? ⟨g7, 4, none⟩ = some (.int .i64 ex) := whole_cell hg7 rfl
  have CU := Lib.hid (fun wc => Ir.ruses_any (4, a, b, c, ex) wc)
  have hop : True := trivial
  clear h hg7
  intro c0 c1 c5 c7 c8 c12 c13 c14 c15 c16 c17 c18 c19 c20 c21 c22 c23 c24 c25 c26 c27 c28 c29 c30 c31 c32 c33 c34 c35 c36 c37 c38 c39 c40 c41 c42 c43 c44 c45 c46 c47 c48 c49 c50 c51 c52 c53 c54 c55 c56 c57 c58 c59 c60 c61 c62 c63 c64 c65 c66 c67 c68 c69 c70 c71 c72 c73 c74 c75 c76 c77 c78 c79 c80 c81 c82 c83 c84 c85 c86 c87 c88 c89 c90 c91 c92 c93 c94 c95 c96 c97 c98 c99 c100 c101 c102 c103 c104 c105 c106 c107 c108 c109 c110 c111 c112 c113 c114 c115 c116 c117 c118 c119 c120 c121 c122 c123 c124 c125 c126 c127 c128 c129 c130 c131 c132 c133 c134 c135 c136 c137 c138 c139 c140 c141 c142 c143 c144 c145 c146 c147 c148 c149 c150 c151 c152 c153 c154 c155 c156 c157 c158 c159 c160 c161 c162 c163 c164 c165 c166 c167 c168 c169 c170 c171 c172 c173 c174 c175 c176 c177 c178 c179 c180 c181 c182 c183 c184 c185 c186 c187 c188 c189 c190 c191 c192 c193 c194 c195 c196 c197 c198 c199 c200 c201 c202 c203 c204 c205 c206 c207 c208 c209 c210 c211 c212 c213 c214 c215 c216 c217 c218 c219 c220 c221 c222 c223 c224 c225 c226 c227 c228 c229 c230 c231 c232 c233 c234 c235 c236 c237 c238 c239 c240 c241 c242 c243 c244 c245 c246 c247 c248 c249 c250 c251 c252 c253 c254 c255 c256 c257 c258 c259 c260 c261 c262 c263 c264 c265 c266 hQ hR hP
  have HQP := Lib.hid hP
  clear hP
  have HQX := Lib.hid hQ
  have HRX := Lib.hid hR
  clear hQ hR
  conv => arg 2; whnf
  go_wp2_with fail
  have hwk : (Ir.twoI a || Ir.oneI a) = true := HOK.out.works
  have CI2 := Lib.hid (fun wc => Ir.risTwo_any a wc)
  cases htw : Ir.twoI a with
  | true =>
    rw [htw] at CI2
    refine (CU.out _).mono ?_
    rintro e w9 ⟨vu, rfl, hu, hb9⟩
    have HU9 : Ir.usesL (4, a, b, c, ex) = [b, c] := by unfold Ir.usesL; rw [if_pos rfl, htw, if_pos rfl]
    rw [HU9] at hu
    have HUS := HOK.out.uses
    rw [HU9] at HUS
    have HR9 := Lib.hid (HR8.out.below hb9)
    obtain ⟨gu, cu, eu, hcu, -, -⟩ := hu.row (by show 0 < 2; decide)
    rw [show (vals [b, c]).length = 2 from rfl] at eu
    subst eu
    obtain ⟨hb0, hb1⟩ := HUS b (by simp)
    obtain ⟨kb, hkb⟩ : ∃ kb : Nat, b = kb := ⟨b.toNat, by omega⟩
    obtain ⟨hc0, hc1⟩ := HUS c (by simp)
    obtain ⟨kc, hkc⟩ : ∃ kc : Nat, c = kc := ⟨c.toNat, by omega⟩
    have hkb1 : kb < k := by omega
    have hkc1 : kc < k := by omega
    clear hb0 hb1 hc0 hc1
    subst hkb
    subst hkc
    have u0 : w9.cell? ⟨gu, 0, none⟩ = some (.int .i64 (kb : Int)) := hcu 0 _ rfl
    have u1 : w9.cell? ⟨gu, 1, none⟩ = some (.int .i64 (kc : Int)) := hcu 1 _ rfl
    have q0 := HR9.out.told (p := kb) (by rw [HVK.out]; exact hkb1) (by rw [HVK.out]; exact Nat.le_of_lt hlt)
    have q1 := HR9.out.told (p := kc) (by rw [HVK.out]; exact hkc1) (by rw [HVK.out]; exact Nat.le_of_lt hlt)
    obtain ⟨xb, hxb⟩ : ∃ v, val V' (kb : Int) = v := ⟨_, rfl⟩
    rw [hxb] at q0
    have HXB := Lib.hid hxb
    have ixb : Cell.In xb := by rw [← hxb]; exact getL_in HQ.out.2.2.2 _
    have HIB := Lib.hid ixb
    obtain ⟨xc, hxc⟩ : ∃ v, val V' (kc : Int) = v := ⟨_, rfl⟩
    rw [hxc] at q1
    have HXC := Lib.hid hxc
    have ixc : Cell.In xc := by rw [← hxc]; exact getL_in HQ.out.2.2.2 _
    have HIC := Lib.hid ixc
    have kb0 : (0 : Int) ≤ (kb : Int) := Int.natCast_nonneg kb
    have kb1 : (kb : Int) < (ni : Int) := Int.ofNat_lt.2 (Nat.lt_trans hkb1 hlt)
    have kc0 : (0 : Int) ≤ (kc : Int) := Int.natCast_nonneg kc
    have kc1 : (kc : Int) < (ni : Int) := Int.ofNat_lt.2 (Nat.lt_trans hkc1 hlt)
    clear hcu hkb1 hxb ixb hkc1 hxc ixc
    have HG9 := (HR9.out.fr g7 _ (if_pos rfl)).1
    have p0 : w9.cell? ⟨g7, 0, none⟩ = some (.int .i64 4) := whole_cell HG9 rfl
    have p1 : w9.cell? ⟨g7, 1, none⟩ = some (.int .i64 a) := whole_cell HG9 rfl
    have vcc := Mem.owns_at HR9.out.vl (j := k) (by rw [padV_length (by rw [HVK.out]; exact Nat.le_of_lt hlt)]; exact hlt)
    obtain ⟨old, hold⟩ : ∃ x, (padV V' ni)[k]'(by rw [padV_length (by rw [HVK.out]; exact Nat.le_of_lt hlt)]; exact hlt) = x := ⟨_, rfl⟩
    rw [hold] at vcc
    obtain ⟨v0, v1⟩ := vcc
    have b2 : w9.cell? ⟨gs, 2, none⟩ = some (.slice so n1 sc) := whole_cell HR9.out.box rfl
    have b3 : w9.cell? ⟨gs, 3, none⟩ = some (.slice bo n2 bc) := whole_cell HR9.out.box rfl
    have b4 : w9.cell? ⟨gs, 4, none⟩ = some (.slice mo4 nm mc4) := whole_cell HR9.out.box rfl
    clear hold HG9 hu hb9 HU9 HUS
    try dsimp only
    have C2 := Lib.hid (fun wc => Cell.ref_two a xb xc HIC.out wc)
    have hd := Lib.hid (show doI wat s' V' (4, a, (kb : Int), (kc : Int), ex) = ⟨s', (Cell.two a xb xc).1, (Cell.two a xb xc).2, false⟩ from by
    show calcI s' a (val V' (kb : Int)) (val V' (kc : Int)) = _
    rw [HXB.out, HXC.out]
    unfold calcI
    rw [if_neg (by rw [two_not_one htw]; decide)])
    obtain ⟨⟨y, ok⟩, hr2⟩ : ∃ r, Cell.two a xb xc = r := ⟨_, rfl⟩
    rw [hr2] at C2 hd
    clear hr2 htw hwk hop
    dsimp only at hd
    cases ok with
    | true =>
      go_wp2_with (first | (go_at_call 19; refine (CI2.out _).mono ?_; rintro e wx ⟨rfl, rfl⟩; try dsimp only) | (go_at_call 86; refine (C2.out _).mono ?_; rintro e wx ⟨rfl, nq, hq⟩; have HRc := Lib.hid (HR9.out.below (rdrew hq)); have v0c : wx.cell? ⟨gv, k, none⟩ = some (.int .i64 old) := (by rw [hq]; exact v0); have v1c : wx.frozen? ⟨gv, k, none⟩ = false := (by rw [hq]; exact v1); have HRV := Lib.hid (HRc.out.value2 rfl HVK.out hlt y); clear hq; try dsimp only))
      exact HQX.out _ _ _ _ _ _ _ _ _ _ _ _ _ _ _ _ _ _ _ _ _ _ _ _ _ _ _ _ _ _ _ _ _ _ _ _ _ _ _ _ _ _ _ _ _ _ _ _ _ _ _ _ _ _ _ _ _ _ _ _ _ _ _ _ _ _ _ _ _ _ _ _ _ _ _ _ _ _ _ _ _ _ _ _ _ _ _ _ _ _ _ _ _ _ _ _ _ _ _ _ _ _ _ _ _ _ _ _ _ _ _ _ _ _ _ _ _ _ _ _ _ _ _ _ _ _ _ _ _ _ _ _ _ _ _ _ _ _ _ _ _ _ _ _ _ _ _ _ _ _ _ _ _ _ _ _ _ _ _ _ _ _ _ _ _ _ _ _ _ _ _ _ _ _ _ _ _ _ _ _ _ _ _ _ _ _ _ _ _ _ _ _ _ _ _ _ _ _ _ _ _ _ _ _ _ _ _ _ _ _ _ _ _ _ _ _ _ _ _ _ _ _ _ _ hd.out HRV.out
    | false =>
      go_upto_region 59 with (first | (go_at_call 19; refine (CI2.out _).mono ?_; rintro e wx ⟨rfl, rfl⟩; try dsimp only) | (go_at_call 86; refine (C2.out _).mono ?_; rintro e wx ⟨rfl, nq, hq⟩; have HRc := Lib.hid (HR9.out.below (rdrew hq)); have v0c : wx.cell? ⟨gv, k, none⟩ = some (.int .i64 old) := (by rw [hq]; exact v0); have v1c : wx.frozen? ⟨gv, k, none⟩ = false := (by rw [hq]; exact v1); have HRV0 := Lib.hid (HRc.out.value rfl (by rw [HVK.out]; exact hlt) y); have HRV := Lib.hid (show RR W (wx.setCell ⟨gv, k, none⟩ (.int .i64 y)) _ _ _ _ _ _ _ _ _ from by have h := HRV0.out; rw [HVK.out] at h; exact h); clear hq HRV0; try dsimp only))
      obtain ⟨wf, hwf⟩ : ∃ wf, wx.setCell ⟨gv, k, none⟩ (.int .i64 y) = wf := ⟨_, rfl⟩
      rw [hwf] at HRV
      try rw [hwf]
      clear hwf v0c v1c HRc v0 v1 u0 u1 q0 q1 p0 p1 b2 b3 b4
      have KIN := Lib.hid (HQ.out.1)
      have PRE := Lib.hid (show ∀ p : Int, 0 ≤ p → p < (V'.length : Int) → val (padV (V' ++ [y]) ni) p = val V' p from fun p h0 h1 => val_padV' (by rw [HVK.out]; exact hlt) h0 h1)
      have LNA := Lib.hid (show (padV (V' ++ [y]) ni).length = ni from padV_length (by rw [List.length_append, HVK.out]; exact hlt))
      have VLN := Lib.hid (show V'.length ≤ (padV (V' ++ [y]) ni).length from by rw [LNA.out, HVK.out]; exact Nat.le_of_lt hlt)
      have NI1 := Lib.hid (show (padV (V' ++ [y]) ni).length ≤ 10000 from by rw [LNA.out]; exact z7)
      have HXR := Lib.hid (goI_off HXK.out hd.out HJ.out)
      obtain ⟨xo, hx1, hx2, hx3, hx4⟩ := HEX.out
      rw [← HXR.out] at hx1 hx2
      dsimp only at hx1 hx2
      have HFIN := Lib.hid (runT_is (o := xo) HMY.out HRES.out (by rw [← HXR.out]; exact hx1))
      rw [← HXR.out] at HFIN
      dsimp only at HFIN
      have FGT := Lib.hid (HRV.out.fr gt _ ((if_neg NG.out.1).trans (if_pos rfl)))
      have FGR := Lib.hid (HRV.out.fr gr _ ((if_neg NG.out.2).trans ((if_neg NG2.out).trans (if_pos rfl))))
      have FG7 := Lib.hid (HRV.out.fr g7 _ (if_pos rfl))
      have KF := Lib.hid (fun (w' : World) (ha' : w'.heap[gt]? = some (.cells (trA t (.slice (some ad) ni ci) (.slice ao t.outs.length co) (.slice ac t.cells.length cc)) 26 (0, 0))) (hb' : w'.heap[gs]? = some (.cells (cells10 s'.ip s'.handler (.slice so n1 sc) (.slice bo n2 bc) (.slice mo4 nm mc4) s'.out s'.inp s'.read s'.status s'.code) 50 (0, 0))) (hc' : w'.heap[g7]? = some (.cells (insA (4, a, (kb : Int), (kc : Int), ex)) 42 (0, 0))) => show w'.cell? ⟨gt, 0, none⟩ = some (.int .i64 t.start) ∧ w'.cell? ⟨gt, 1, none⟩ = some (.int .i64 t.slots) ∧ w'.cell? ⟨gt, 2, none⟩ = some (.int .i64 t.backs) ∧ w'.cell? ⟨gt, 3, none⟩ = some (.int .i64 t.grow) ∧ w'.cell? ⟨gt, 4, none⟩ = some (.int .i64 t.growBack) ∧ w'.cell? ⟨gt, 5, none⟩ = some (.slice (some ad) ni ci) ∧ w'.cell? ⟨gt, 6, none⟩ = some (.slice ao t.outs.length co) ∧ w'.cell? ⟨gt, 7, none⟩ = some (.int .i64 t.last) ∧ w'.cell? ⟨gt, 8, none⟩ = some (.slice ac t.cells.length cc) ∧ w'.cell? ⟨gs, 0, none⟩ = some (.int .i64 s'.ip) ∧ w'.cell? ⟨gs, 1, none⟩ = some (.int .i64 s'.handler) ∧ w'.cell? ⟨gs, 2, none⟩ = some (.slice so n1 sc) ∧ w'.cell? ⟨gs, 3, none⟩ = some (.slice bo n2 bc) ∧ w'.cell? ⟨gs, 4, none⟩ = some (.slice mo4 nm mc4) ∧ w'.cell? ⟨gs, 5, none⟩ = some (.string s'.out) ∧ w'.cell? ⟨gs, 6, none⟩ = some (.string s'.inp) ∧ w'.cell? ⟨gs, 7, none⟩ = some (.int .i64 s'.read) ∧ w'.cell? ⟨gs, 8, none⟩ = some (.int .i64 s'.status) ∧ w'.cell? ⟨gs, 9, none⟩ = some (.int .i64 s'.code) ∧ w'.cell? ⟨g7, 4, none⟩ = some (.int .i64 ex) from ⟨whole_cell ha' rfl, whole_cell ha' rfl, whole_cell ha' rfl, whole_cell ha' rfl, whole_cell ha' rfl, whole_cell ha' rfl, whole_cell ha' rfl, whole_cell ha' rfl, whole_cell ha' rfl, whole_cell hb' rfl, whole_cell hb' rfl, whole_cell hb' rfl, whole_cell hb' rfl, whole_cell hb' rfl, whole_cell hb' rfl, whole_cell hb' rfl, whole_cell hb' rfl, whole_cell hb' rfl, whole_cell hb' rfl, whole_cell hc' rfl⟩)
      have CE := Lib.hid (fun wc (hb : Below wf.heap.size wf wc) => rexit HRR.out HRS.out HRB.out (HRV.out.below hb) KIN.out hx1 hx2 PRE.out VLN.out NI1.out HN12.out.1 HN12.out.2 z1 z2 (Nat.le_trans hx3 (by decide)) (Nat.le_trans hx4 (by decide)) HRP.out.slots.1 HMP.out.1 HRP.out.backs.1 HMP.out.2)
      have HXX := Lib.hid (And.intro hx1 hx2)
      clear hx1 hx2 hx3 hx4
      have HBC : Hid (Below wf.heap.size wf wf.drew) := Lib.hid (Below.refl _ _).drew
      have KX := Lib.hid (KF.out _ (boxOn FGT.out.1 HBC.out) (boxOn HRV.out.box HBC.out) (boxOn FG7.out.1 HBC.out))
      refine wp_region_held (S := fun w' => w'.cell? ⟨gt, 0, none⟩ = some (.int .i64 t.start) ∧ w'.cell? ⟨gt, 1, none⟩ = some (.int .i64 t.slots) ∧ w'.cell? ⟨gt, 2, none⟩ = some (.int .i64 t.backs) ∧ w'.cell? ⟨gt, 3, none⟩ = some (.int .i64 t.grow) ∧ w'.cell? ⟨gt, 4, none⟩ = some (.int .i64 t.growBack) ∧ w'.cell? ⟨gt, 5, none⟩ = some (.slice (some ad) ni ci) ∧ w'.cell? ⟨gt, 6, none⟩ = some (.slice ao t.outs.length co) ∧ w'.cell? ⟨gt, 7, none⟩ = some (.int .i64 t.last) ∧ w'.cell? ⟨gt, 8, none⟩ = some (.slice ac t.cells.length cc) ∧ w'.cell? ⟨gs, 0, none⟩ = some (.int .i64 s'.ip) ∧ w'.cell? ⟨gs, 1, none⟩ = some (.int .i64 s'.handler) ∧ w'.cell? ⟨gs, 2, none⟩ = some (.slice so n1 sc) ∧ w'.cell? ⟨gs, 3, none⟩ = some (.slice bo n2 bc) ∧ w'.cell? ⟨gs, 4, none⟩ = some (.slice mo4 nm mc4) ∧ w'.cell? ⟨gs, 5, none⟩ = some (.string s'.out) ∧ w'.cell? ⟨gs, 6, none⟩ = some (.string s'.inp) ∧ w'.cell? ⟨gs, 7, none⟩ = some (.int .i64 s'.read) ∧ w'.cell? ⟨gs, 8, none⟩ = some (.int .i64 s'.status) ∧ w'.cell? ⟨gs, 9, none⟩ = some (.int .i64 s'.code) ∧ w'.cell? ⟨g7, 4, none⟩ = some (.int .i64 ex)) (by kernel_rfl) ?_
      change wpAnyH _ _ _ _ _ _ _ _ (World.drew wf)
      refine wpAnyH_take (i := 0) (oi := ⟨some 251, _, _, _, _, _⟩) (v := ?_) rfl (by kernel_rfl) (by kernel_rfl) (by kernel_rfl) (fun _ _ _ h => HQP.out _ _ _ _ _ h) (Or.inl ⟨by rfl, ?_⟩) KX.out ?_; rotate_left; · intro w hSw; (try dsimp only at hSw); go_simp; try with_reducible rfl
      try simp only [Act.put, sx1, sx2, sx3]
      refine wpAnyH_take (i := 1) (oi := ⟨some 252, _, _, _, _, _⟩) (v := ?_) rfl (by kernel_rfl) (by kernel_rfl) (by kernel_rfl) (fun _ _ _ h => HQP.out _ _ _ _ _ h) (Or.inl ⟨by rfl, ?_⟩) KX.out ?_; rotate_left; · intro w hSw; (try dsimp only at hSw); go_simp; try with_reducible rfl
      try simp only [Act.put, sx1, sx2, sx3]
      refine wpAnyH_take (i := 2) (oi := ⟨some 253, _, _, _, _, _⟩) (v := ?_) rfl (by kernel_rfl) (by kernel_rfl) (by kernel_rfl) (fun _ _ _ h => HQP.out _ _ _ _ _ h) (Or.inl ⟨by rfl, ?_⟩) KX.out ?_; rotate_left; · intro w hSw; (try dsimp only at hSw); go_simp; try with_reducible rfl
      try simp only [Act.put, sx1, sx2, sx3]
      refine wpAnyH_take (i := 3) (oi := ⟨some 254, _, _, _, _, _⟩) (v := ?_) rfl (by kernel_rfl) (by kernel_rfl) (by kernel_rfl) (fun _ _ _ h => HQP.out _ _ _ _ _ h) (Or.inl ⟨by rfl, ?_⟩) KX.out ?_; rotate_left; · intro w hSw; (try dsimp only at hSw); go_simp; try with_reducible rfl
      try simp only [Act.put, sx1, sx2, sx3]
      refine wpAnyH_take (i := 4) (oi := ⟨some 255, _, _, _, _, _⟩) (v := ?_) rfl (by kernel_rfl) (by kernel_rfl) (by kernel_rfl) (fun _ _ _ h => HQP.out _ _ _ _ _ h) (Or.inl ⟨by rfl, ?_⟩) KX.out ?_; rotate_left; · intro w hSw; (try dsimp only at hSw); go_simp; try with_reducible rfl
      try simp only [Act.put, sx1, sx2, sx3]
      refine wpAnyH_take (i := 6) (oi := ⟨some 257, _, _, _, _, _⟩) (v := ?_) rfl (by kernel_rfl) (by kernel_rfl) (by kernel_rfl) (fun _ _ _ h => HQP.out _ _ _ _ _ h) (Or.inl ⟨by rfl, ?_⟩) KX.out ?_; rotate_left; · intro w hSw; (try dsimp only at hSw); go_simp; try with_reducible rfl
      try simp only [Act.put, sx1, sx2, sx3]
      refine wpAnyH_take (i := 7) (oi := ⟨some 258, _, _, _, _, _⟩) (v := ?_) rfl (by kernel_rfl) (by kernel_rfl) (by kernel_rfl) (fun _ _ _ h => HQP.out _ _ _ _ _ h) (Or.inl ⟨by rfl, ?_⟩) KX.out ?_; rotate_left; · intro w hSw; (try dsimp only at hSw); go_simp; try with_reducible rfl
      try simp only [Act.put, sx1, sx2, sx3]
      refine wpAnyH_ready (rs := [5]) (by kernel_rfl) (by simp) ?_
      refine AllReadyH.cons rfl (fun K hK => ?_) ?_
      rotate_left
      · exact AllReadyH.nil
      go_simp
      go_at_call 88
      refine (CE.out _ HBC.out).mono ?_
      rintro e wl ⟨v1, v2, rfl, ho1, ho2, hap, hbl⟩
      have HO1 := Lib.hid ho1
      have HO2 := Lib.hid ho2
      have HAP := Lib.hid hap
      have HMC := Lib.hid (show Value.oneCell' (.slice mo4 nm mc4) = true from rfl)
      have HBL := Lib.hid (HBC.out.trans (hbl.mono HBC.out.size))
      have HON := Lib.hid (And.intro (slice_one ho1.slice) (slice_one ho2.slice))
      have KX := Lib.hid (KF.out _ (boxOn FGT.out.1 HBL.out) (boxOn HRV.out.box HBL.out) (boxOn FG7.out.1 HBL.out))
      have FGL := Lib.hid (boxOn FGR.out.1 HBL.out)
      clear ho1 ho2 hap hbl
      try dsimp only
      go_wp2_with fail
      refine hK.out _ _ KX.out (fun hHeld => ?_)
      clear hK K hHeld
      try simp only [Act.put, sx1, sx2, sx3]
      refine wpAnyH_ready (rs := [8]) (by kernel_rfl) (by simp) ?_
      refine AllReadyH.cons rfl (fun K hK => ?_) ?_
      rotate_left
      · exact AllReadyH.nil
      refine step_st_state (by rfl) _ _ rfl gr _ rfl rfl _ FGL.out rfl rfl (all_one HON.out.1 HON.out.2 HMC.out) ?_
      intro we he te
      have HWE := Lib.hid he
      have HTE := Lib.hid te
      have KX := Lib.hid (KF.out _ (te.whole (boxOn FGT.out.1 HBL.out) (fun hm => NGR.out.1 (List.mem_singleton.1 hm))) (te.whole (boxOn HRV.out.box HBL.out) (fun hm => NGR.out.2 (List.mem_singleton.1 hm))) (te.whole (boxOn FG7.out.1 HBL.out) (fun hm => NG.out.2 (List.mem_singleton.1 hm).symm)))
      clear he te
      refine hK.out _ _ KX.out (fun hHeld => ?_)
      clear hK K hHeld
      try simp only [Act.put, sx1, sx2, sx3]
      refine wpAnyH_take (i := 9) (oi := ⟨some 7, _, _, _, _, _⟩) (v := ?_) rfl (by kernel_rfl) (by kernel_rfl) (by kernel_rfl) (fun _ _ _ h => HQP.out _ _ _ _ _ h) (Or.inl ⟨by rfl, ?_⟩) KX.out ?_; rotate_left; · intro w hSw; (try dsimp only at hSw); go_simp; try with_reducible rfl
      try simp only [Act.put, sx1, sx2, sx3]
      refine wpAnyH_take (i := 10) (oi := ⟨some 8, _, _, _, _, _⟩) (v := ?_) rfl (by kernel_rfl) (by kernel_rfl) (by kernel_rfl) (fun _ _ _ h => HQP.out _ _ _ _ _ h) (Or.inl ⟨by rfl, ?_⟩) KX.out ?_; rotate_left; · intro w hSw; (try dsimp only at hSw); go_simp; try with_reducible rfl
      try simp only [Act.put, sx1, sx2, sx3]
      refine wpAnyH_done (by kernel_rfl) ?_ _
      go_wp2_with fail
      refine HRX.out _ _ _ rfl (results_cell_tmps rfl _ _ gr _ _ _ _ rfl HWE.out Tryz.underlying50 rfl state_size) ?_
      rw [HFIN.out]
      exact rdone HRV.out FGR.out HGRW.out HO1.out HO2.out HAP.out HBL.out HTE.out
  | false =>
    rw [htw] at CI2 hwk
    rw [Bool.false_or] at hwk
    refine (CU.out _).mono ?_
    rintro e w9 ⟨vu, rfl, hu, hb9⟩
    have HU9 : Ir.usesL (4, a, b, c, ex) = [b] := by unfold Ir.usesL; rw [if_pos rfl, htw, if_neg (by decide)]
    rw [HU9] at hu
    have HUS := HOK.out.uses
    rw [HU9] at HUS
    have HR9 := Lib.hid (HR8.out.below hb9)
    obtain ⟨gu, cu, eu, hcu, -, -⟩ := hu.row (by show 0 < 1; decide)
    rw [show (vals [b]).length = 1 from rfl] at eu
    subst eu
    obtain ⟨hb0, hb1⟩ := HUS b (by simp)
    obtain ⟨kb, hkb⟩ : ∃ kb : Nat, b = kb := ⟨b.toNat, by omega⟩
    have hkb1 : kb < k := by omega
    clear hb0 hb1
    subst hkb
    have u0 : w9.cell? ⟨gu, 0, none⟩ = some (.int .i64 (kb : Int)) := hcu 0 _ rfl
    have q0 := HR9.out.told (p := kb) (by rw [HVK.out]; exact hkb1) (by rw [HVK.out]; exact Nat.le_of_lt hlt)
    obtain ⟨xb, hxb⟩ : ∃ v, val V' (kb : Int) = v := ⟨_, rfl⟩
    rw [hxb] at q0
    have HXB := Lib.hid hxb
    have ixb : Cell.In xb := by rw [← hxb]; exact getL_in HQ.out.2.2.2 _
    have HIB := Lib.hid ixb
    have kb0 : (0 : Int) ≤ (kb : Int) := Int.natCast_nonneg kb
    have kb1 : (kb : Int) < (ni : Int) := Int.ofNat_lt.2 (Nat.lt_trans hkb1 hlt)
    clear hcu hkb1 hxb ixb
    have HG9 := (HR9.out.fr g7 _ (if_pos rfl)).1
    have p0 : w9.cell? ⟨g7, 0, none⟩ = some (.int .i64 4) := whole_cell HG9 rfl
    have p1 : w9.cell? ⟨g7, 1, none⟩ = some (.int .i64 a) := whole_cell HG9 rfl
    have vcc := Mem.owns_at HR9.out.vl (j := k) (by rw [padV_length (by rw [HVK.out]; exact Nat.le_of_lt hlt)]; exact hlt)
    obtain ⟨old, hold⟩ : ∃ x, (padV V' ni)[k]'(by rw [padV_length (by rw [HVK.out]; exact Nat.le_of_lt hlt)]; exact hlt) = x := ⟨_, rfl⟩
    rw [hold] at vcc
    obtain ⟨v0, v1⟩ := vcc
    have b2 : w9.cell? ⟨gs, 2, none⟩ = some (.slice so n1 sc) := whole_cell HR9.out.box rfl
    have b3 : w9.cell? ⟨gs, 3, none⟩ = some (.slice bo n2 bc) := whole_cell HR9.out.box rfl
    have b4 : w9.cell? ⟨gs, 4, none⟩ = some (.slice mo4 nm mc4) := whole_cell HR9.out.box rfl
    clear hold HG9 hu hb9 HU9 HUS
    try dsimp only
    have C1 := Lib.hid (fun wc => Cell.ref_one a xb HIB.out wc)
    have hd := Lib.hid (show doI wat s' V' (4, a, (kb : Int), c, ex) = ⟨s', (Cell.one a xb).1, true, false⟩ from by
    show calcI s' a (val V' (kb : Int)) (val V' c) = _
    rw [HXB.out]
    unfold calcI
    rw [if_pos (one_on hwk)])
    obtain ⟨⟨y, ok⟩, hr2⟩ : ∃ r, Cell.one a xb = r := ⟨_, rfl⟩
    rw [hr2] at C1 hd
    clear hr2 htw hwk hop
    dsimp only at hd
    go_wp2_with (first | (go_at_call 19; refine (CI2.out _).mono ?_; rintro e wx ⟨rfl, rfl⟩; try dsimp only) | (go_at_call 87; refine (C1.out _).mono ?_; rintro e wx ⟨rfl, nq, hq⟩; have HRc := Lib.hid (HR9.out.below (rdrew hq)); have v0c : wx.cell? ⟨gv, k, none⟩ = some (.int .i64 old) := (by rw [hq]; exact v0); have v1c : wx.frozen? ⟨gv, k, none⟩ = false := (by rw [hq]; exact v1); have HRV0 := Lib.hid (HRc.out.value rfl (by rw [HVK.out]; exact hlt) y); have HRV := Lib.hid (show RR W (wx.setCell ⟨gv, k, none⟩ (.int .i64 y)) _ _ _ _ _ _ _ _ _ from by have h := HRV0.out; rw [HVK.out] at h; exact h); clear hq HRV0; try dsimp only))
    exact HQX.out _ _ _ _ _ _ _ _ _ _ _ _ _ _ _ _ _ _ _ _ _ _ _ _ _ _ _ _ _ _ _ _ _ _ _ _ _ _ _ _ _ _ _ _ _ _ _ _ _ _ _ _ _ _ _ _ _ _ _ _ _ _ _ _ _ _ _ _ _ _ _ _ _ _ _ _ _ _ _ _ _ _ _ _ _ _ _ _ _ _ _ _ _ _ _ _ _ _ _ _ _ _ _ _ _ _ _ _ _ _ _ _ _ _ _ _ _ _ _ _ _ _ _ _ _ _ _ _ _ _ _ _ _ _ _ _ _ _ _ _ _ _ _ _ _ _ _ _ _ _ _ _ _ _ _ _ _ _ _ _ _ _ _ _ _ _ _ _ _ _ _ _ _ _ _ _ _ _ _ _ _ _ _ _ _ _ _ _ _ _ _ _ _ _ _ _ _ _ _ _ _ _ _ _ _ _ _ _ _ _ _ _ _ _ _ _ _ _ _ _ _ _ _ _ hd.out HRV.out

set_option maxHeartbeats 8000000 in
set_option maxRecDepth 1000000 in
theorem rway5 {W w : World} {t : T} {s s' : M} {wat V' : List Int} {k ni n1 n2 nm nw gt gs gr gv g7 ci co cc sc bc mc4 cw : Nat} {ad : Addr} {ao ac so bo mo4 aw : Option Addr} {a b c ex : Int} {res : X} {Q : Exit → Act → World → Prop} (h : AtI W w t s s' wat V' k ni n1 n2 nm nw gt gs gr gv g7 ci co cc sc bc mc4 cw ad ao ac so bo mo4 aw 5 a b c ex res) : WayI Q W w t s s' wat V' k ni n1 n2 nm nw gt gs gr gv g7 ci co cc sc bc mc4 cw ad ao ac so bo mo4 aw 5 a b c ex res := by
  have HR8 := Lib.hid h.hrun
  have HRR := Lib.hid h.hrr
  have HRS := Lib.hid h.hrs
  have HRB := Lib.hid h.hrb
  have HRW := Lib.hid h.hrw
  have HNI := Lib.hid h.hni
  have HN12 := Lib.hid h.hn12
  have HNW := Lib.hid h.hnw
  have z1 := h.z1
  have z2 := h.z2
  have z3 := h.z3
  have HZ4 := Lib.hid h.z4
  have z5 := h.z5
  have z6 := h.z6
  have z7 := h.z7
  have z8 := h.z8
  have HXK := Lib.hid h.hix
  have HCX := Lib.hid h.hcx
  have HQ := Lib.hid h.hq
  have HJ := Lib.hid h.hj
  have HRES := Lib.hid h.hres
  have HEX := Lib.hid h.hex
  have HMY := Lib.hid h.hmy
  have HRP := Lib.hid h.hrp
  have HMP := Lib.hid h.hmp
  have hlt := h.hlt
  have NG := Lib.hid h.ng
  have NG2 := Lib.hid h.ng2
  have NGR := Lib.hid h.ngr
  have HGRW := Lib.hid h.hgrw
  have HVK := Lib.hid h.hq.2.2.1
  have HOK := Lib.hid (ins_parts (h.hrp.ins k _ h.hix))
  have k0 : (0 : Int) ≤ (k : Int) := Int.natCast_nonneg k
  have k1 : (k : Int) < (ni : Int) := Int.ofNat_lt.2 hlt
  have hg7 := (h.hrun.fr g7 _ (if_pos rfl)).1
  have m0 : w.cell? ⟨g7, 0, none⟩ = some (.int .i64 5) := whole_cell hg7 rfl
  have m1 : w.cell? ⟨g7, 1, none⟩ = some (.int .i64 a) := whole_cell hg7 rfl
  have m2 : w.cell? ⟨g7, 2, none⟩ = some (.int .i64 b) := whole_cell hg7 rfl
  have m3 : w.cell? ⟨g7, 3, none⟩ = some (.int .i64 c) := whole_cell hg7 rfl
  have m4 : w.cell? ⟨g7, 4, none⟩ = some (.int .i64 ex) := whole_cell hg7 rfl
  have CU := Lib.hid (fun wc => Ir.ruses_any (5, a, b, c, ex) wc)
  have hop : True := trivial
  clear h hg7
  intro c0 c1 c5 c7 c8 c12 c13 c14 c15 c16 c17 c18 c19 c20 c21 c22 c23 c24 c25 c26 c27 c28 c29 c30 c31 c32 c33 c34 c35 c36 c37 c38 c39 c40 c41 c42 c43 c44 c45 c46 c47 c48 c49 c50 c51 c52 c53 c54 c55 c56 c57 c58 c59 c60 c61 c62 c63 c64 c65 c66 c67 c68 c69 c70 c71 c72 c73 c74 c75 c76 c77 c78 c79 c80 c81 c82 c83 c84 c85 c86 c87 c88 c89 c90 c91 c92 c93 c94 c95 c96 c97 c98 c99 c100 c101 c102 c103 c104 c105 c106 c107 c108 c109 c110 c111 c112 c113 c114 c115 c116 c117 c118 c119 c120 c121 c122 c123 c124 c125 c126 c127 c128 c129 c130 c131 c132 c133 c134 c135 c136 c137 c138 c139 c140 c141 c142 c143 c144 c145 c146 c147 c148 c149 c150 c151 c152 c153 c154 c155 c156 c157 c158 c159 c160 c161 c162 c163 c164 c165 c166 c167 c168 c169 c170 c171 c172 c173 c174 c175 c176 c177 c178 c179 c180 c181 c182 c183 c184 c185 c186 c187 c188 c189 c190 c191 c192 c193 c194 c195 c196 c197 c198 c199 c200 c201 c202 c203 c204 c205 c206 c207 c208 c209 c210 c211 c212 c213 c214 c215 c216 c217 c218 c219 c220 c221 c222 c223 c224 c225 c226 c227 c228 c229 c230 c231 c232 c233 c234 c235 c236 c237 c238 c239 c240 c241 c242 c243 c244 c245 c246 c247 c248 c249 c250 c251 c252 c253 c254 c255 c256 c257 c258 c259 c260 c261 c262 c263 c264 c265 c266 hQ hR hP
  have HQP := Lib.hid hP
  clear hP
  have HQX := Lib.hid hQ
  have HRX := Lib.hid hR
  clear hQ hR
  conv => arg 2; whnf
  go_wp2_with fail
  refine (CU.out _).mono ?_
  rintro e w9 ⟨vu, rfl, hu, hb9⟩
  have HU9 : Ir.usesL (5, a, b, c, ex) = [b] := rfl
  rw [HU9] at hu
  have HUS := HOK.out.uses
  rw [HU9] at HUS
  have HR9 := Lib.hid (HR8.out.below hb9)
  obtain ⟨gu, cu, eu, hcu, -, -⟩ := hu.row (by show 0 < 1; decide)
  rw [show (vals [b]).length = 1 from rfl] at eu
  subst eu
  obtain ⟨hb0, hb1⟩ := HUS b (by simp)
  obtain ⟨kb, hkb⟩ : ∃ kb : Nat, b = kb := ⟨b.toNat, by omega⟩
  have hkb1 : kb < k := by omega
  clear hb0 hb1
  subst hkb
  have u0 : w9.cell? ⟨gu, 0, none⟩ = some (.int .i64 (kb : Int)) := hcu 0 _ rfl
  have q0 := HR9.out.told (p := kb) (by rw [HVK.out]; exact hkb1) (by rw [HVK.out]; exact Nat.le_of_lt hlt)
  obtain ⟨xb, hxb⟩ : ∃ v, val V' (kb : Int) = v := ⟨_, rfl⟩
  rw [hxb] at q0
  have HXB := Lib.hid hxb
  have ixb : Cell.In xb := by rw [← hxb]; exact getL_in HQ.out.2.2.2 _
  have HIB := Lib.hid ixb
  have kb0 : (0 : Int) ≤ (kb : Int) := Int.natCast_nonneg kb
  have kb1 : (kb : Int) < (ni : Int) := Int.ofNat_lt.2 (Nat.lt_trans hkb1 hlt)
  clear hcu hkb1 hxb ixb
  have HG9 := (HR9.out.fr g7 _ (if_pos rfl)).1
  have p0 : w9.cell? ⟨g7, 0, none⟩ = some (.int .i64 5) := whole_cell HG9 rfl
  have p1 : w9.cell? ⟨g7, 1, none⟩ = some (.int .i64 a) := whole_cell HG9 rfl
  have vcc := Mem.owns_at HR9.out.vl (j := k) (by rw [padV_length (by rw [HVK.out]; exact Nat.le_of_lt hlt)]; exact hlt)
  obtain ⟨old, hold⟩ : ∃ x, (padV V' ni)[k]'(by rw [padV_length (by rw [HVK.out]; exact Nat.le_of_lt hlt)]; exact hlt) = x := ⟨_, rfl⟩
  rw [hold] at vcc
  obtain ⟨v0, v1⟩ := vcc
  have b2 : w9.cell? ⟨gs, 2, none⟩ = some (.slice so n1 sc) := whole_cell HR9.out.box rfl
  have b3 : w9.cell? ⟨gs, 3, none⟩ = some (.slice bo n2 bc) := whole_cell HR9.out.box rfl
  have b4 : w9.cell? ⟨gs, 4, none⟩ = some (.slice mo4 nm mc4) := whole_cell HR9.out.box rfl
  clear hold HG9 hu hb9 HU9 HUS
  try dsimp only
  have hml2 : s'.mem.length = nm := by rw [HQ.out.1.mem]; exact HNI.out.2
  have hgo : doI wat s' V' (5, a, (kb : Int), c, ex) = seeI s' s'.mem xb := by
    show seeI s' s'.mem (val V' (kb : Int)) = _
    rw [HXB.out]
  unfold seeI at hgo
  clear hop
  by_cases hin : 0 ≤ xb ∧ xb < (nm : Int)
  · obtain ⟨j, hj⟩ : ∃ j : Nat, xb = j := ⟨xb.toNat, by omega⟩
    subst hj
    have hjn : j < nm := by omega
    obtain ⟨y, hy⟩ : ∃ y, s'.mem[j]? = some y := ⟨_, List.getElem?_eq_getElem (by rw [hml2]; exact hjn)⟩
    rw [rgetL_yes hy] at hgo
    have hd := Lib.hid hgo
    obtain ⟨gm, cm, em, -, -, -⟩ := HR9.out.me.row (by rw [vals_length, hml2]; omega)
    simp only [Value.slice.injEq] at em
    obtain ⟨rfl, -, rfl⟩ := em
    have hmj := (Mem.owns_at HR9.out.me (j := j) (by rw [hml2]; exact hjn)).1
    rw [show s'.mem[j]'(by rw [hml2]; exact hjn) = y from (List.getElem?_eq_some_iff.1 hy).2] at hmj
    have e1 : decide ((j : Int) < 0) = false := decide_eq_false (by omega)
    have e2 : decide ((nm : Int) ≤ (j : Int)) = false := decide_eq_false (by omega)
    have e3 : decide (nm ≤ j) = false := decide_eq_false (by omega)
    have e4 : (j : Int) < (nm : Int) := by omega
    have e5 : (0 : Int) ≤ (j : Int) := Int.natCast_nonneg j
    clear hgo hy hin hml2
    have HRV := Lib.hid (HR9.out.value rfl (by rw [HVK.out]; exact hlt) y)
    rw [HVK.out] at HRV
    go_wp2_with fail
    exact HQX.out _ _ _ _ _ _ _ _ _ _ _ _ _ _ _ _ _ _ _ _ _ _ _ _ _ _ _ _ _ _ _ _ _ _ _ _ _ _ _ _ _ _ _ _ _ _ _ _ _ _ _ _ _ _ _ _ _ _ _ _ _ _ _ _ _ _ _ _ _ _ _ _ _ _ _ _ _ _ _ _ _ _ _ _ _ _ _ _ _ _ _ _ _ _ _ _ _ _ _ _ _ _ _ _ _ _ _ _ _ _ _ _ _ _ _ _ _ _ _ _ _ _ _ _ _ _ _ _ _ _ _ _ _ _ _ _ _ _ _ _ _ _ _ _ _ _ _ _ _ _ _ _ _ _ _ _ _ _ _ _ _ _ _ _ _ _ _ _ _ _ _ _ _ _ _ _ _ _ _ _ _ _ _ _ _ _ _ _ _ _ _ _ _ _ _ _ _ _ _ _ _ _ _ _ _ _ _ _ _ _ _ _ _ _ _ _ _ _ _ _ _ _ _ _ hd.out HRV.out
  · rw [rgetL_no (by rw [hml2]; exact hin)] at hgo
    have hd := Lib.hid hgo
    clear hgo hml2
    by_cases hneg : xb < 0
    · have e1 : decide (xb < 0) = true := decide_eq_true hneg
      go_upto_region 59 with fail
      clear v0 v1 u0 q0 p0 p1 b2 b3 b4
      have KIN := Lib.hid (HQ.out.1)
      have PRE := Lib.hid (show ∀ p : Int, 0 ≤ p → p < (V'.length : Int) → val (padV (V') ni) p = val V' p from fun p h0 h1 => val_padV (by rw [HVK.out]; exact Nat.le_of_lt hlt) h0 h1)
      have LNA := Lib.hid (show (padV (V') ni).length = ni from padV_length (by rw [HVK.out]; exact Nat.le_of_lt hlt))
      have VLN := Lib.hid (show V'.length ≤ (padV (V') ni).length from by rw [LNA.out, HVK.out]; exact Nat.le_of_lt hlt)
      have NI1 := Lib.hid (show (padV (V') ni).length ≤ 10000 from by rw [LNA.out]; exact z7)
      have HXR := Lib.hid (goI_off HXK.out hd.out HJ.out)
      obtain ⟨xo, hx1, hx2, hx3, hx4⟩ := HEX.out
      rw [← HXR.out] at hx1 hx2
      dsimp only at hx1 hx2
      have HFIN := Lib.hid (runT_is (o := xo) HMY.out HRES.out (by rw [← HXR.out]; exact hx1))
      rw [← HXR.out] at HFIN
      dsimp only at HFIN
      have FGT := Lib.hid (HR9.out.fr gt _ ((if_neg NG.out.1).trans (if_pos rfl)))
      have FGR := Lib.hid (HR9.out.fr gr _ ((if_neg NG.out.2).trans ((if_neg NG2.out).trans (if_pos rfl))))
      have FG7 := Lib.hid (HR9.out.fr g7 _ (if_pos rfl))
      have KF := Lib.hid (fun (w' : World) (ha' : w'.heap[gt]? = some (.cells (trA t (.slice (some ad) ni ci) (.slice ao t.outs.length co) (.slice ac t.cells.length cc)) 26 (0, 0))) (hb' : w'.heap[gs]? = some (.cells (cells10 s'.ip s'.handler (.slice so n1 sc) (.slice bo n2 bc) (.slice mo4 nm mc4) s'.out s'.inp s'.read s'.status s'.code) 50 (0, 0))) (hc' : w'.heap[g7]? = some (.cells (insA (5, a, (kb : Int), c, ex)) 42 (0, 0))) => show w'.cell? ⟨gt, 0, none⟩ = some (.int .i64 t.start) ∧ w'.cell? ⟨gt, 1, none⟩ = some (.int .i64 t.slots) ∧ w'.cell? ⟨gt, 2, none⟩ = some (.int .i64 t.backs) ∧ w'.cell? ⟨gt, 3, none⟩ = some (.int .i64 t.grow) ∧ w'.cell? ⟨gt, 4, none⟩ = some (.int .i64 t.growBack) ∧ w'.cell? ⟨gt, 5, none⟩ = some (.slice (some ad) ni ci) ∧ w'.cell? ⟨gt, 6, none⟩ = some (.slice ao t.outs.length co) ∧ w'.cell? ⟨gt, 7, none⟩ = some (.int .i64 t.last) ∧ w'.cell? ⟨gt, 8, none⟩ = some (.slice ac t.cells.length cc) ∧ w'.cell? ⟨gs, 0, none⟩ = some (.int .i64 s'.ip) ∧ w'.cell? ⟨gs, 1, none⟩ = some (.int .i64 s'.handler) ∧ w'.cell? ⟨gs, 2, none⟩ = some (.slice so n1 sc) ∧ w'.cell? ⟨gs, 3, none⟩ = some (.slice bo n2 bc) ∧ w'.cell? ⟨gs, 4, none⟩ = some (.slice mo4 nm mc4) ∧ w'.cell? ⟨gs, 5, none⟩ = some (.string s'.out) ∧ w'.cell? ⟨gs, 6, none⟩ = some (.string s'.inp) ∧ w'.cell? ⟨gs, 7, none⟩ = some (.int .i64 s'.read) ∧ w'.cell? ⟨gs, 8, none⟩ = some (.int .i64 s'.status) ∧ w'.cell? ⟨gs, 9, none⟩ = some (.int .i64 s'.code) ∧ w'.cell? ⟨g7, 4, none⟩ = some (.int .i64 ex) from ⟨whole_cell ha' rfl, whole_cell ha' rfl, whole_cell ha' rfl, whole_cell ha' rfl, whole_cell ha' rfl, whole_cell ha' rfl, whole_cell ha' rfl, whole_cell ha' rfl, whole_cell ha' rfl, whole_cell hb' rfl, whole_cell hb' rfl, whole_cell hb' rfl, whole_cell hb' rfl, whole_cell hb' rfl, whole_cell hb' rfl, whole_cell hb' rfl, whole_cell hb' rfl, whole_cell hb' rfl, whole_cell hb' rfl, whole_cell hc' rfl⟩)
      have CE := Lib.hid (fun wc (hb : Below w9.heap.size w9 wc) => rexit HRR.out HRS.out HRB.out (HR9.out.below hb) KIN.out hx1 hx2 PRE.out VLN.out NI1.out HN12.out.1 HN12.out.2 z1 z2 (Nat.le_trans hx3 (by decide)) (Nat.le_trans hx4 (by decide)) HRP.out.slots.1 HMP.out.1 HRP.out.backs.1 HMP.out.2)
      have HXX := Lib.hid (And.intro hx1 hx2)
      clear hx1 hx2 hx3 hx4
      have HBC : Hid (Below w9.heap.size w9 w9.drew) := Lib.hid (Below.refl _ _).drew
      have KX := Lib.hid (KF.out _ (boxOn FGT.out.1 HBC.out) (boxOn HR9.out.box HBC.out) (boxOn FG7.out.1 HBC.out))
      refine wp_region_held (S := fun w' => w'.cell? ⟨gt, 0, none⟩ = some (.int .i64 t.start) ∧ w'.cell? ⟨gt, 1, none⟩ = some (.int .i64 t.slots) ∧ w'.cell? ⟨gt, 2, none⟩ = some (.int .i64 t.backs) ∧ w'.cell? ⟨gt, 3, none⟩ = some (.int .i64 t.grow) ∧ w'.cell? ⟨gt, 4, none⟩ = some (.int .i64 t.growBack) ∧ w'.cell? ⟨gt, 5, none⟩ = some (.slice (some ad) ni ci) ∧ w'.cell? ⟨gt, 6, none⟩ = some (.slice ao t.outs.length co) ∧ w'.cell? ⟨gt, 7, none⟩ = some (.int .i64 t.last) ∧ w'.cell? ⟨gt, 8, none⟩ = some (.slice ac t.cells.length cc) ∧ w'.cell? ⟨gs, 0, none⟩ = some (.int .i64 s'.ip) ∧ w'.cell? ⟨gs, 1, none⟩ = some (.int .i64 s'.handler) ∧ w'.cell? ⟨gs, 2, none⟩ = some (.slice so n1 sc) ∧ w'.cell? ⟨gs, 3, none⟩ = some (.slice bo n2 bc) ∧ w'.cell? ⟨gs, 4, none⟩ = some (.slice mo4 nm mc4) ∧ w'.cell? ⟨gs, 5, none⟩ = some (.string s'.out) ∧ w'.cell? ⟨gs, 6, none⟩ = some (.string s'.inp) ∧ w'.cell? ⟨gs, 7, none⟩ = some (.int .i64 s'.read) ∧ w'.cell? ⟨gs, 8, none⟩ = some (.int .i64 s'.status) ∧ w'.cell? ⟨gs, 9, none⟩ = some (.int .i64 s'.code) ∧ w'.cell? ⟨g7, 4, none⟩ = some (.int .i64 ex)) (by kernel_rfl) ?_
      change wpAnyH _ _ _ _ _ _ _ _ (World.drew w9)
      refine wpAnyH_take (i := 0) (oi := ⟨some 251, _, _, _, _, _⟩) (v := ?_) rfl (by kernel_rfl) (by kernel_rfl) (by kernel_rfl) (fun _ _ _ h => HQP.out _ _ _ _ _ h) (Or.inl ⟨by rfl, ?_⟩) KX.out ?_; rotate_left; · intro w hSw; (try dsimp only at hSw); go_simp; try with_reducible rfl
      try simp only [Act.put, sx1, sx2, sx3]
      refine wpAnyH_take (i := 1) (oi := ⟨some 252, _, _, _, _, _⟩) (v := ?_) rfl (by kernel_rfl) (by kernel_rfl) (by kernel_rfl) (fun _ _ _ h => HQP.out _ _ _ _ _ h) (Or.inl ⟨by rfl, ?_⟩) KX.out ?_; rotate_left; · intro w hSw; (try dsimp only at hSw); go_simp; try with_reducible rfl
      try simp only [Act.put, sx1, sx2, sx3]
      refine wpAnyH_take (i := 2) (oi := ⟨some 253, _, _, _, _, _⟩) (v := ?_) rfl (by kernel_rfl) (by kernel_rfl) (by kernel_rfl) (fun _ _ _ h => HQP.out _ _ _ _ _ h) (Or.inl ⟨by rfl, ?_⟩) KX.out ?_; rotate_left; · intro w hSw; (try dsimp only at hSw); go_simp; try with_reducible rfl
      try simp only [Act.put, sx1, sx2, sx3]
      refine wpAnyH_take (i := 3) (oi := ⟨some 254, _, _, _, _, _⟩) (v := ?_) rfl (by kernel_rfl) (by kernel_rfl) (by kernel_rfl) (fun _ _ _ h => HQP.out _ _ _ _ _ h) (Or.inl ⟨by rfl, ?_⟩) KX.out ?_; rotate_left; · intro w hSw; (try dsimp only at hSw); go_simp; try with_reducible rfl
      try simp only [Act.put, sx1, sx2, sx3]
      refine wpAnyH_take (i := 4) (oi := ⟨some 255, _, _, _, _, _⟩) (v := ?_) rfl (by kernel_rfl) (by kernel_rfl) (by kernel_rfl) (fun _ _ _ h => HQP.out _ _ _ _ _ h) (Or.inl ⟨by rfl, ?_⟩) KX.out ?_; rotate_left; · intro w hSw; (try dsimp only at hSw); go_simp; try with_reducible rfl
      try simp only [Act.put, sx1, sx2, sx3]
      refine wpAnyH_take (i := 6) (oi := ⟨some 257, _, _, _, _, _⟩) (v := ?_) rfl (by kernel_rfl) (by kernel_rfl) (by kernel_rfl) (fun _ _ _ h => HQP.out _ _ _ _ _ h) (Or.inl ⟨by rfl, ?_⟩) KX.out ?_; rotate_left; · intro w hSw; (try dsimp only at hSw); go_simp; try with_reducible rfl
      try simp only [Act.put, sx1, sx2, sx3]
      refine wpAnyH_take (i := 7) (oi := ⟨some 258, _, _, _, _, _⟩) (v := ?_) rfl (by kernel_rfl) (by kernel_rfl) (by kernel_rfl) (fun _ _ _ h => HQP.out _ _ _ _ _ h) (Or.inl ⟨by rfl, ?_⟩) KX.out ?_; rotate_left; · intro w hSw; (try dsimp only at hSw); go_simp; try with_reducible rfl
      try simp only [Act.put, sx1, sx2, sx3]
      refine wpAnyH_ready (rs := [5]) (by kernel_rfl) (by simp) ?_
      refine AllReadyH.cons rfl (fun K hK => ?_) ?_
      rotate_left
      · exact AllReadyH.nil
      go_simp
      go_at_call 88
      refine (CE.out _ HBC.out).mono ?_
      rintro e wl ⟨v1, v2, rfl, ho1, ho2, hap, hbl⟩
      have HO1 := Lib.hid ho1
      have HO2 := Lib.hid ho2
      have HAP := Lib.hid hap
      have HMC := Lib.hid (show Value.oneCell' (.slice mo4 nm mc4) = true from rfl)
      have HBL := Lib.hid (HBC.out.trans (hbl.mono HBC.out.size))
      have HON := Lib.hid (And.intro (slice_one ho1.slice) (slice_one ho2.slice))
      have KX := Lib.hid (KF.out _ (boxOn FGT.out.1 HBL.out) (boxOn HR9.out.box HBL.out) (boxOn FG7.out.1 HBL.out))
      have FGL := Lib.hid (boxOn FGR.out.1 HBL.out)
      clear ho1 ho2 hap hbl
      try dsimp only
      go_wp2_with fail
      refine hK.out _ _ KX.out (fun hHeld => ?_)
      clear hK K hHeld
      try simp only [Act.put, sx1, sx2, sx3]
      refine wpAnyH_ready (rs := [8]) (by kernel_rfl) (by simp) ?_
      refine AllReadyH.cons rfl (fun K hK => ?_) ?_
      rotate_left
      · exact AllReadyH.nil
      refine step_st_state (by rfl) _ _ rfl gr _ rfl rfl _ FGL.out rfl rfl (all_one HON.out.1 HON.out.2 HMC.out) ?_
      intro we he te
      have HWE := Lib.hid he
      have HTE := Lib.hid te
      have KX := Lib.hid (KF.out _ (te.whole (boxOn FGT.out.1 HBL.out) (fun hm => NGR.out.1 (List.mem_singleton.1 hm))) (te.whole (boxOn HR9.out.box HBL.out) (fun hm => NGR.out.2 (List.mem_singleton.1 hm))) (te.whole (boxOn FG7.out.1 HBL.out) (fun hm => NG.out.2 (List.mem_singleton.1 hm).symm)))
      clear he te
      refine hK.out _ _ KX.out (fun hHeld => ?_)
      clear hK K hHeld
      try simp only [Act.put, sx1, sx2, sx3]
      refine wpAnyH_take (i := 9) (oi := ⟨some 7, _, _, _, _, _⟩) (v := ?_) rfl (by kernel_rfl) (by kernel_rfl) (by kernel_rfl) (fun _ _ _ h => HQP.out _ _ _ _ _ h) (Or.inl ⟨by rfl, ?_⟩) KX.out ?_; rotate_left; · intro w hSw; (try dsimp only at hSw); go_simp; try with_reducible rfl
      try simp only [Act.put, sx1, sx2, sx3]
      refine wpAnyH_take (i := 10) (oi := ⟨some 8, _, _, _, _, _⟩) (v := ?_) rfl (by kernel_rfl) (by kernel_rfl) (by kernel_rfl) (fun _ _ _ h => HQP.out _ _ _ _ _ h) (Or.inl ⟨by rfl, ?_⟩) KX.out ?_; rotate_left; · intro w hSw; (try dsimp only at hSw); go_simp; try with_reducible rfl
      try simp only [Act.put, sx1, sx2, sx3]
      refine wpAnyH_done (by kernel_rfl) ?_ _
      go_wp2_with fail
      refine HRX.out _ _ _ rfl (results_cell_tmps rfl _ _ gr _ _ _ _ rfl HWE.out Tryz.underlying50 rfl state_size) ?_
      rw [HFIN.out]
      exact rdone HR9.out FGR.out HGRW.out HO1.out HO2.out HAP.out HBL.out HTE.out
    · have e1 : decide (xb < 0) = false := decide_eq_false hneg
      have e2 : decide ((nm : Int) ≤ xb) = true := decide_eq_true (by omega)
      go_upto_region 59 with fail
      clear v0 v1 u0 q0 p0 p1 b2 b3 b4
      have KIN := Lib.hid (HQ.out.1)
      have PRE := Lib.hid (show ∀ p : Int, 0 ≤ p → p < (V'.length : Int) → val (padV (V') ni) p = val V' p from fun p h0 h1 => val_padV (by rw [HVK.out]; exact Nat.le_of_lt hlt) h0 h1)
      have LNA := Lib.hid (show (padV (V') ni).length = ni from padV_length (by rw [HVK.out]; exact Nat.le_of_lt hlt))
      have VLN := Lib.hid (show V'.length ≤ (padV (V') ni).length from by rw [LNA.out, HVK.out]; exact Nat.le_of_lt hlt)
      have NI1 := Lib.hid (show (padV (V') ni).length ≤ 10000 from by rw [LNA.out]; exact z7)
      have HXR := Lib.hid (goI_off HXK.out hd.out HJ.out)
      obtain ⟨xo, hx1, hx2, hx3, hx4⟩ := HEX.out
      rw [← HXR.out] at hx1 hx2
      dsimp only at hx1 hx2
      have HFIN := Lib.hid (runT_is (o := xo) HMY.out HRES.out (by rw [← HXR.out]; exact hx1))
      rw [← HXR.out] at HFIN
      dsimp only at HFIN
      have FGT := Lib.hid (HR9.out.fr gt _ ((if_neg NG.out.1).trans (if_pos rfl)))
      have FGR := Lib.hid (HR9.out.fr gr _ ((if_neg NG.out.2).trans ((if_neg NG2.out).trans (if_pos rfl))))
      have FG7 := Lib.hid (HR9.out.fr g7 _ (if_pos rfl))
      have KF := Lib.hid (fun (w' : World) (ha' : w'.heap[gt]? = some (.cells (trA t (.slice (some ad) ni ci) (.slice ao t.outs.length co) (.slice ac t.cells.length cc)) 26 (0, 0))) (hb' : w'.heap[gs]? = some (.cells (cells10 s'.ip s'.handler (.slice so n1 sc) (.slice bo n2 bc) (.slice mo4 nm mc4) s'.out s'.inp s'.read s'.status s'.code) 50 (0, 0))) (hc' : w'.heap[g7]? = some (.cells (insA (5, a, (kb : Int), c, ex)) 42 (0, 0))) => show w'.cell? ⟨gt, 0, none⟩ = some (.int .i64 t.start) ∧ w'.cell? ⟨gt, 1, none⟩ = some (.int .i64 t.slots) ∧ w'.cell? ⟨gt, 2, none⟩ = some (.int .i64 t.backs) ∧ w'.cell? ⟨gt, 3, none⟩ = some (.int .i64 t.grow) ∧ w'.cell? ⟨gt, 4, none⟩ = some (.int .i64 t.growBack) ∧ w'.cell? ⟨gt, 5, none⟩ = some (.slice (some ad) ni ci) ∧ w'.cell? ⟨gt, 6, none⟩ = some (.slice ao t.outs.length co) ∧ w'.cell? ⟨gt, 7, none⟩ = some (.int .i64 t.last) ∧ w'.cell? ⟨gt, 8, none⟩ = some (.slice ac t.cells.length cc) ∧ w'.cell? ⟨gs, 0, none⟩ = some (.int .i64 s'.ip) ∧ w'.cell? ⟨gs, 1, none⟩ = some (.int .i64 s'.handler) ∧ w'.cell? ⟨gs, 2, none⟩ = some (.slice so n1 sc) ∧ w'.cell? ⟨gs, 3, none⟩ = some (.slice bo n2 bc) ∧ w'.cell? ⟨gs, 4, none⟩ = some (.slice mo4 nm mc4) ∧ w'.cell? ⟨gs, 5, none⟩ = some (.string s'.out) ∧ w'.cell? ⟨gs, 6, none⟩ = some (.string s'.inp) ∧ w'.cell? ⟨gs, 7, none⟩ = some (.int .i64 s'.read) ∧ w'.cell? ⟨gs, 8, none⟩ = some (.int .i64 s'.status) ∧ w'.cell? ⟨gs, 9, none⟩ = some (.int .i64 s'.code) ∧ w'.cell? ⟨g7, 4, none⟩ = some (.int .i64 ex) from ⟨whole_cell ha' rfl, whole_cell ha' rfl, whole_cell ha' rfl, whole_cell ha' rfl, whole_cell ha' rfl, whole_cell ha' rfl, whole_cell ha' rfl, whole_cell ha' rfl, whole_cell ha' rfl, whole_cell hb' rfl, whole_cell hb' rfl, whole_cell hb' rfl, whole_cell hb' rfl, whole_cell hb' rfl, whole_cell hb' rfl, whole_cell hb' rfl, whole_cell hb' rfl, whole_cell hb' rfl, whole_cell hb' rfl, whole_cell hc' rfl⟩)
      have CE := Lib.hid (fun wc (hb : Below w9.heap.size w9 wc) => rexit HRR.out HRS.out HRB.out (HR9.out.below hb) KIN.out hx1 hx2 PRE.out VLN.out NI1.out HN12.out.1 HN12.out.2 z1 z2 (Nat.le_trans hx3 (by decide)) (Nat.le_trans hx4 (by decide)) HRP.out.slots.1 HMP.out.1 HRP.out.backs.1 HMP.out.2)
      have HXX := Lib.hid (And.intro hx1 hx2)
      clear hx1 hx2 hx3 hx4
      have HBC : Hid (Below w9.heap.size w9 w9.drew) := Lib.hid (Below.refl _ _).drew
      have KX := Lib.hid (KF.out _ (boxOn FGT.out.1 HBC.out) (boxOn HR9.out.box HBC.out) (boxOn FG7.out.1 HBC.out))
      refine wp_region_held (S := fun w' => w'.cell? ⟨gt, 0, none⟩ = some (.int .i64 t.start) ∧ w'.cell? ⟨gt, 1, none⟩ = some (.int .i64 t.slots) ∧ w'.cell? ⟨gt, 2, none⟩ = some (.int .i64 t.backs) ∧ w'.cell? ⟨gt, 3, none⟩ = some (.int .i64 t.grow) ∧ w'.cell? ⟨gt, 4, none⟩ = some (.int .i64 t.growBack) ∧ w'.cell? ⟨gt, 5, none⟩ = some (.slice (some ad) ni ci) ∧ w'.cell? ⟨gt, 6, none⟩ = some (.slice ao t.outs.length co) ∧ w'.cell? ⟨gt, 7, none⟩ = some (.int .i64 t.last) ∧ w'.cell? ⟨gt, 8, none⟩ = some (.slice ac t.cells.length cc) ∧ w'.cell? ⟨gs, 0, none⟩ = some (.int .i64 s'.ip) ∧ w'.cell? ⟨gs, 1, none⟩ = some (.int .i64 s'.handler) ∧ w'.cell? ⟨gs, 2, none⟩ = some (.slice so n1 sc) ∧ w'.cell? ⟨gs, 3, none⟩ = some (.slice bo n2 bc) ∧ w'.cell? ⟨gs, 4, none⟩ = some (.slice mo4 nm mc4) ∧ w'.cell? ⟨gs, 5, none⟩ = some (.string s'.out) ∧ w'.cell? ⟨gs, 6, none⟩ = some (.string s'.inp) ∧ w'.cell? ⟨gs, 7, none⟩ = some (.int .i64 s'.read) ∧ w'.cell? ⟨gs, 8, none⟩ = some (.int .i64 s'.status) ∧ w'.cell? ⟨gs, 9, none⟩ = some (.int .i64 s'.code) ∧ w'.cell? ⟨g7, 4, none⟩ = some (.int .i64 ex)) (by kernel_rfl) ?_
      change wpAnyH _ _ _ _ _ _ _ _ (World.drew w9)
      refine wpAnyH_take (i := 0) (oi := ⟨some 251, _, _, _, _, _⟩) (v := ?_) rfl (by kernel_rfl) (by kernel_rfl) (by kernel_rfl) (fun _ _ _ h => HQP.out _ _ _ _ _ h) (Or.inl ⟨by rfl, ?_⟩) KX.out ?_; rotate_left; · intro w hSw; (try dsimp only at hSw); go_simp; try with_reducible rfl
      try simp only [Act.put, sx1, sx2, sx3]
      refine wpAnyH_take (i := 1) (oi := ⟨some 252, _, _, _, _, _⟩) (v := ?_) rfl (by kernel_rfl) (by kernel_rfl) (by kernel_rfl) (fun _ _ _ h => HQP.out _ _ _ _ _ h) (Or.inl ⟨by rfl, ?_⟩) KX.out ?_; rotate_left; · intro w hSw; (try dsimp only at hSw); go_simp; try with_reducible rfl
      try simp only [Act.put, sx1, sx2, sx3]
      refine wpAnyH_take (i := 2) (oi := ⟨some 253, _, _, _, _, _⟩) (v := ?_) rfl (by kernel_rfl) (by kernel_rfl) (by kernel_rfl) (fun _ _ _ h => HQP.out _ _ _ _ _ h) (Or.inl ⟨by rfl, ?_⟩) KX.out ?_; rotate_left; · intro w hSw; (try dsimp only at hSw); go_simp; try with_reducible rfl
      try simp only [Act.put, sx1, sx2, sx3]
      refine wpAnyH_take (i := 3) (oi := ⟨some 254, _, _, _, _, _⟩) (v := ?_) rfl (by kernel_rfl) (by kernel_rfl) (by kernel_rfl) (fun _ _ _ h => HQP.out _ _ _ _ _ h) (Or.inl ⟨by rfl, ?_⟩) KX.out ?_; rotate_left; · intro w hSw; (try dsimp only at hSw); go_simp; try with_reducible rfl
      try simp only [Act.put, sx1, sx2, sx3]
      refine wpAnyH_take (i := 4) (oi := ⟨some 255, _, _, _, _, _⟩) (v := ?_) rfl (by kernel_rfl) (by kernel_rfl) (by kernel_rfl) (fun _ _ _ h => HQP.out _ _ _ _ _ h) (Or.inl ⟨by rfl, ?_⟩) KX.out ?_; rotate_left; · intro w hSw; (try dsimp only at hSw); go_simp; try with_reducible rfl
      try simp only [Act.put, sx1, sx2, sx3]
      refine wpAnyH_take (i := 6) (oi := ⟨some 257, _, _, _, _, _⟩) (v := ?_) rfl (by kernel_rfl) (by kernel_rfl) (by kernel_rfl) (fun _ _ _ h => HQP.out _ _ _ _ _ h) (Or.inl ⟨by rfl, ?_⟩) KX.out ?_; rotate_left; · intro w hSw; (try dsimp only at hSw); go_simp; try with_reducible rfl
      try simp only [Act.put, sx1, sx2, sx3]
      refine wpAnyH_take (i := 7) (oi := ⟨some 258, _, _, _, _, _⟩) (v := ?_) rfl (by kernel_rfl) (by kernel_rfl) (by kernel_rfl) (fun _ _ _ h => HQP.out _ _ _ _ _ h) (Or.inl ⟨by rfl, ?_⟩) KX.out ?_; rotate_left; · intro w hSw; (try dsimp only at hSw); go_simp; try with_reducible rfl
      try simp only [Act.put, sx1, sx2, sx3]
      refine wpAnyH_ready (rs := [5]) (by kernel_rfl) (by simp) ?_
      refine AllReadyH.cons rfl (fun K hK => ?_) ?_
      rotate_left
      · exact AllReadyH.nil
      go_simp
      go_at_call 88
      refine (CE.out _ HBC.out).mono ?_
      rintro e wl ⟨v1, v2, rfl, ho1, ho2, hap, hbl⟩
      have HO1 := Lib.hid ho1
      have HO2 := Lib.hid ho2
      have HAP := Lib.hid hap
      have HMC := Lib.hid (show Value.oneCell' (.slice mo4 nm mc4) = true from rfl)
      have HBL := Lib.hid (HBC.out.trans (hbl.mono HBC.out.size))
      have HON := Lib.hid (And.intro (slice_one ho1.slice) (slice_one ho2.slice))
      have KX := Lib.hid (KF.out _ (boxOn FGT.out.1 HBL.out) (boxOn HR9.out.box HBL.out) (boxOn FG7.out.1 HBL.out))
      have FGL := Lib.hid (boxOn FGR.out.1 HBL.out)
      clear ho1 ho2 hap hbl
      try dsimp only
      go_wp2_with fail
      refine hK.out _ _ KX.out (fun hHeld => ?_)
      clear hK K hHeld
      try simp only [Act.put, sx1, sx2, sx3]
      refine wpAnyH_ready (rs := [8]) (by kernel_rfl) (by simp) ?_
      refine AllReadyH.cons rfl (fun K hK => ?_) ?_
      rotate_left
      · exact AllReadyH.nil
      refine step_st_state (by rfl) _ _ rfl gr _ rfl rfl _ FGL.out rfl rfl (all_one HON.out.1 HON.out.2 HMC.out) ?_
      intro we he te
      have HWE := Lib.hid he
      have HTE := Lib.hid te
      have KX := Lib.hid (KF.out _ (te.whole (boxOn FGT.out.1 HBL.out) (fun hm => NGR.out.1 (List.mem_singleton.1 hm))) (te.whole (boxOn HR9.out.box HBL.out) (fun hm => NGR.out.2 (List.mem_singleton.1 hm))) (te.whole (boxOn FG7.out.1 HBL.out) (fun hm => NG.out.2 (List.mem_singleton.1 hm).symm)))
      clear he te
      refine hK.out _ _ KX.out (fun hHeld => ?_)
      clear hK K hHeld
      try simp only [Act.put, sx1, sx2, sx3]
      refine wpAnyH_take (i := 9) (oi := ⟨some 7, _, _, _, _, _⟩) (v := ?_) rfl (by kernel_rfl) (by kernel_rfl) (by kernel_rfl) (fun _ _ _ h => HQP.out _ _ _ _ _ h) (Or.inl ⟨by rfl, ?_⟩) KX.out ?_; rotate_left; · intro w hSw; (try dsimp only at hSw); go_simp; try with_reducible rfl
      try simp only [Act.put, sx1, sx2, sx3]
      refine wpAnyH_take (i := 10) (oi := ⟨some 8, _, _, _, _, _⟩) (v := ?_) rfl (by kernel_rfl) (by kernel_rfl) (by kernel_rfl) (fun _ _ _ h => HQP.out _ _ _ _ _ h) (Or.inl ⟨by rfl, ?_⟩) KX.out ?_; rotate_left; · intro w hSw; (try dsimp only at hSw); go_simp; try with_reducible rfl
      try simp only [Act.put, sx1, sx2, sx3]
      refine wpAnyH_done (by kernel_rfl) ?_ _
      go_wp2_with fail
      refine HRX.out _ _ _ rfl (results_cell_tmps rfl _ _ gr _ _ _ _ rfl HWE.out Tryz.underlying50 rfl state_size) ?_
      rw [HFIN.out]
      exact rdone HR9.out FGR.out HGRW.out HO1.out HO2.out HAP.out HBL.out HTE.out
end Go.Proofs.YtpecingkoodmfaaGreatDoor.Ev
