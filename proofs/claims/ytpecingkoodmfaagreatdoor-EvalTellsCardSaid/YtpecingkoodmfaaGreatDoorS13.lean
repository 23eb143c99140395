/- The document's own run (chapter 15): ways of the switch (B). -/
import Derived.Test.YtpecingkoodmfaaGreatDoorS11
import Derived.Deep.LoopGhost
import Derived.Deep.DeepCutAuto
namespace Go.Proofs.YtpecingkoodmfaaGreatDoor.Ev
open Go.RowKit Book Mem
open Ir (T I O trA trV ReadsL ReadsI insA insV newBox boxOn CI CT rightT)
open Mach (step_st_state M less cells10 zero10 OwnsL OwnsM stV st_state ld_state state_size slice_one all_one)
set_option linter.unusedSimpArgs false
set_option linter.unusedVariables false
set_option maxHeartbeats 8000000 in
set_option maxRecDepth 1000000 in
theorem rway7 {W w : World} {t : T} {s s' : M} {wat V' : List Int} {k ni n1 n2 nm nw gt gs gr gv g7 ci co cc sc bc mc4 cw : Nat} {ad : Addr} {ao ac so bo mo4 aw : Option Addr} {a b c ex : Int} {res : X} {Q : Exit → Act → World → Prop} (h : AtI W w t s s' wat V' k ni n1 n2 nm nw gt gs gr gv g7 ci co cc sc bc mc4 cw ad ao ac so bo mo4 aw 7 a b c ex res) : WayI Q W w t s s' wat V' k ni n1 n2 nm nw gt gs gr gv g7 ci co cc sc bc mc4 cw ad ao ac so bo mo4 aw 7 a b c ex res := by
  have HR8 := Lib.hid h.hrun
  have HRR := Lib.hid h.hrr
  have HRS := Lib.hid h.hrs
  have HRB := Lib.hid h.hrb
  have HRW := Lib.hid h.hrw
  have HNI := Lib.hid h.hni
  have HN12 := Lib.hid h.hn12
  have HNW := Lib.hid h.hnw
  have z1 := h.z1
  have z2 := h.z2
  have z3 := h.z3
  have HZ4 := Lib.hid h.z4
  have z5 := h.z5
  have z6 := h.z6
  have z7 := h.z7
  have z8 := h.z8
  have HXK := Lib.hid h.hix
  have HCX := Lib.hid h.hcx
  have HQ := Lib.hid h.hq
  have HJ := Lib.hid h.hj
  have HRES := Lib.hid h.hres
  have HEX := Lib.hid h.hex
  have HMY := Lib.hid h.hmy
  have HRP := Lib.hid h.hrp
  have HMP := Lib.hid h.hmp
  have hlt := h.hlt
  have NG := Lib.hid h.ng
  have NG2 := Lib.hid h.ng2
  have NGR := Lib.hid h.ngr
  have HGRW := Lib.hid h.hgrw
  have HVK := Lib.hid h.hq.2.2.1
  have HOK := Lib.hid (ins_parts (h.hrp.ins k _ h.hix))
  have k0 : (0 : Int) ≤ (k : Int) := Int.natCast_nonneg k
  have k1 : (k : Int) < (ni : Int) := Int.ofNat_lt.2 hlt
  have hg7 := (h.hrun.fr g7 _ (if_pos rfl)).1
  have m0 : w.cell? ⟨g7, 0, none⟩ = some (.int .i64 7) := whole_cell hg7 rfl
  have m1 : w.cell? ⟨g7, 1, none⟩ = some (.int .i64 a) := whole_cell hg7 rfl
  have m2 : w.cell? ⟨g7, 2, none⟩ = some (.int .i64 b) := whole_cell hg7 rfl
  have m3 : w.cell? ⟨g7, 3, none⟩ = some (.int .i64 c) := whole_cell hg7 rfl
  have m4 : w.cell? ⟨g7, 4, none⟩ = some (.int .i64 ex) := whole_cell hg7 rfl
  have CU := Lib.hid (fun wc => Ir.ruses_any (7, a, b, c, ex) wc)
  have hop : True := trivial
  clear h hg7
  intro c0 c1 c5 c7 c8 c12 c13 c14 c15 c16 c17 c18 c19 c20 c21 c22 c23 c24 c25 c26 c27 c28 c29 c30 c31 c32 c33 c34 c35 c36 c37 c38 c39 c40 c41 c42 c43 c44 c45 c46 c47 c48 c49 c50 c51 c52 c53 c54 c55 c56 c57 c58 c59 c60 c61 c62 c63 c64 c65 c66 c67 c68 c69 c70 c71 c72 c73 c74 c75 c76 c77 c78 c79 c80 c81 c82 c83 c84 c85 c86 c87 c88 c89 c90 c91 c92 c93 c94 c95 c96 c97 c98 c99 c100 c101 c102 c103 c104 c105 c106 c107 c108 c109 c110 c111 c112 c113 c114 c115 c116 c117 c118 c119 c120 c121 c122 c123 c124 c125 c126 c127 c128 c129 c130 c131 c132 c133 c134 c135 c136 c137 c138 c139 c140 c141 c142 c143 c144 c145 c146 c147 c148 c149 c150 c151 c152 c153 c154 c155 c156 c157 c158 c159 c160 c161 c162 c163 c164 c165 c166 c167 c168 c169 c170 c171 c172 c173 c174 c175 c176 c177 c178 c179 c180 c181 c182 c183 c184 c185 c186 c187 c188 c189 c190 c191 c192 c193 c194 c195 c196 c197 c198 c199 c200 c201 c202 c203 c204 c205 c206 c207 c208 c209 c210 c211 c212 c213 c214 c215 c216 c217 c218 c219 c220 c221 c222 c223 c224 c225 c226 c227 c228 c229 c230 c231 c232 c233 c234 c235 c236 c237 c238 c239 c240 c241 c242 c243 c244 c245 c246 c247 c248 c249 c250 c251 c252 c253 c254 c255 c256 c257 c258 c259 c260 c261 c262 c263 c264 c265 c266 hQ hR hP
  have HQP := Lib.hid hP
  clear hP
  have HQX := Lib.hid hQ
  have HRX := Lib.hid hR
  clear hQ hR
  conv => arg 2; whnf
  go_wp2_with fail
  refine (CU.out _).mono ?_
  rintro e w9 ⟨vu, rfl, hu, hb9⟩
  have HU9 : Ir.usesL (7, a, b, c, ex) = [b] := rfl
  rw [HU9] at hu
  have HUS := HOK.out.uses
  rw [HU9] at HUS
  have HR9 := Lib.hid (HR8.out.below hb9)
  obtain ⟨gu, cu, eu, hcu, -, -⟩ := hu.row (by show 0 < 1; decide)
  rw [show (vals [b]).length = 1 from rfl] at eu
  subst eu
  obtain ⟨hb0, hb1⟩ := HUS b (by simp)
  obtain ⟨kb, hkb⟩ : ∃ kb : Nat, b = kb := ⟨b.toNat, by omega⟩
  have hkb1 : kb < k := by omega
  clear hb0 hb1
  subst hkb
  have u0 : w9.cell? ⟨gu, 0, none⟩ = some (.int .i64 (kb : Int)) := hcu 0 _ rfl
  have q0 := HR9.out.told (p := kb) (by rw [HVK.out]; exact hkb1) (by rw [HVK.out]; exact Nat.le_of_lt hlt)
  obtain ⟨xb, hxb⟩ : ∃ v, val V' (kb : Int) = v := ⟨_, rfl⟩
  rw [hxb] at q0
  have HXB := Lib.hid hxb
  have ixb : Cell.In xb := by rw [← hxb]; exact getL_in HQ.out.2.2.2 _
  have HIB := Lib.hid ixb
  have kb0 : (0 : Int) ≤ (kb : Int) := Int.natCast_nonneg kb
  have kb1 : (kb : Int) < (ni : Int) := Int.ofNat_lt.2 (Nat.lt_trans hkb1 hlt)
  clear hcu hkb1 hxb ixb
  have HG9 := (HR9.out.fr g7 _ (if_pos rfl)).1
  have p0 : w9.cell? ⟨g7, 0, none⟩ = some (.int .i64 7) := whole_cell HG9 rfl
  have p1 : w9.cell? ⟨g7, 1, none⟩ = some (.int .i64 a) := whole_cell HG9 rfl
  have vcc := Mem.owns_at HR9.out.vl (j := k) (by rw [padV_length (by rw [HVK.out]; exact Nat.le_of_lt hlt)]; exact hlt)
  obtain ⟨old, hold⟩ : ∃ x, (padV V' ni)[k]'(by rw [padV_length (by rw [HVK.out]; exact Nat.le_of_lt hlt)]; exact hlt) = x := ⟨_, rfl⟩
  rw [hold] at vcc
  obtain ⟨v0, v1⟩ := vcc
  have b2 : w9.cell? ⟨gs, 2, none⟩ = some (.slice so n1 sc) := whole_cell HR9.out.box rfl
  have b3 : w9.cell? ⟨gs, 3, none⟩ = some (.slice bo n2 bc) := whole_cell HR9.out.box rfl
  have b4 : w9.cell? ⟨gs, 4, none⟩ = some (.slice mo4 nm mc4) := whole_cell HR9.out.box rfl
  clear hold HG9 hu hb9 HU9 HUS
  try dsimp only
  have hgo : doI wat s' V' (7, a, (kb : Int), c, ex) = ⟨s', 0, decide (xb ≠ 0), false⟩ := by
    show (⟨s', 0, decide (val V' (kb : Int) ≠ 0), false⟩ : D) = _
    rw [HXB.out]
  clear hop
  have HRV := Lib.hid (HR9.out.next (by rw [HVK.out]; exact hlt))
  by_cases hcd : xb ≠ 0
  · rw [decide_eq_true hcd] at hgo
    have hd := Lib.hid hgo
    have e1 : decide (xb = 0) = false := decide_eq_false hcd
    clear hgo
    go_wp2_with fail
    exact HQX.out _ _ _ _ _ _ _ _ _ _ _ _ _ _ _ _ _ _ _ _ _ _ _ _ _ _ _ _ _ _ _ _ _ _ _ _ _ _ _ _ _ _ _ _ _ _ _ _ _ _ _ _ _ _ _ _ _ _ _ _ _ _ _ _ _ _ _ _ _ _ _ _ _ _ _ _ _ _ _ _ _ _ _ _ _ _ _ _ _ _ _ _ _ _ _ _ _ _ _ _ _ _ _ _ _ _ _ _ _ _ _ _ _ _ _ _ _ _ _ _ _ _ _ _ _ _ _ _ _ _ _ _ _ _ _ _ _ _ _ _ _ _ _ _ _ _ _ _ _ _ _ _ _ _ _ _ _ _ _ _ _ _ _ _ _ _ _ _ _ _ _ _ _ _ _ _ _ _ _ _ _ _ _ _ _ _ _ _ _ _ _ _ _ _ _ _ _ _ _ _ _ _ _ _ _ _ _ _ _ _ _ _ _ _ _ _ _ _ _ _ _ _ _ _ hd.out HRV.out
  · rw [decide_eq_false hcd] at hgo
    have hd := Lib.hid hgo
    have e1 : decide (xb = 0) = true := decide_eq_true (Decidable.not_not.1 hcd)
    clear hgo HRV
    go_upto_region 59 with fail
    clear v0 v1 u0 q0 p0 p1 b2 b3 b4
    have KIN := Lib.hid (HQ.out.1)
    have PRE := Lib.hid (show ∀ p : Int, 0 ≤ p → p < (V'.length : Int) → val (padV (V') ni) p = val V' p from fun p h0 h1 => val_padV (by rw [HVK.out]; exact Nat.le_of_lt hlt) h0 h1)
    have LNA := Lib.hid (show (padV (V') ni).length = ni from padV_length (by rw [HVK.out]; exact Nat.le_of_lt hlt))
    have VLN := Lib.hid (show V'.length ≤ (padV (V') ni).length from by rw [LNA.out, HVK.out]; exact Nat.le_of_lt hlt)
    have NI1 := Lib.hid (show (padV (V') ni).length ≤ 10000 from by rw [LNA.out]; exact z7)
    have HXR := Lib.hid (goI_off HXK.out hd.out HJ.out)
    obtain ⟨xo, hx1, hx2, hx3, hx4⟩ := HEX.out
    rw [← HXR.out] at hx1 hx2
    dsimp only at hx1 hx2
    have HFIN := Lib.hid (runT_is (o := xo) HMY.out HRES.out (by rw [← HXR.out]; exact hx1))
    rw [← HXR.out] at HFIN
    dsimp only at HFIN
    have FGT := Lib.hid (HR9.out.fr gt _ ((if_neg NG.out.1).trans (if_pos rfl)))
    have FGR := Lib.hid (HR9.out.fr gr _ ((if_neg NG.out.2).trans ((if_neg NG2.out).trans (if_pos rfl))))
    have FG7 := Lib.hid (HR9.out.fr g7 _ (if_pos rfl))
    have KF := Lib.hid (fun (w' : World) (ha' : w'.heap[gt]? = some (.cells (trA t (.slice (some ad) ni ci) (.slice ao t.outs.length co) (.slice ac t.cells.length cc)) 26 (0, 0))) (hb' : w'.heap[gs]? = some (.cells (cells10 s'.ip s'.handler (.slice so n1 sc) (.slice bo n2 bc) (.slice mo4 nm mc4) s'.out s'.inp s'.read s'.status s'.code) 50 (0, 0))) (hc' : w'.heap[g7]? = some (.cells (insA (7, a, (kb : Int), c, ex)) 42 (0, 0))) => show w'.cell? ⟨gt, 0, none⟩ = some (.int .i64 t.start) ∧ w'.cell? ⟨gt, 1, none⟩ = some (.int .i64 t.slots) ∧ w'.cell? ⟨gt, 2, none⟩ = some (.int .i64 t.backs) ∧ w'.cell? ⟨gt, 3, none⟩ = some (.int .i64 t.grow) ∧ w'.cell? ⟨gt, 4, none⟩ = some (.int .i64 t.growBack) ∧ w'.cell? ⟨gt, 5, none⟩ = some (.slice (some ad) ni ci) ∧ w'.cell? ⟨gt, 6, none⟩ = some (.slice ao t.outs.length co) ∧ w'.cell? ⟨gt, 7, none⟩ = some (.int .i64 t.last) ∧ w'.cell? ⟨gt, 8, none⟩ = some (.slice ac t.cells.length cc) ∧ w'.cell? ⟨gs, 0, none⟩ = some (.int .i64 s'.ip) ∧ w'.cell? ⟨gs, 1, none⟩ = some (.int .i64 s'.handler) ∧ w'.cell? ⟨gs, 2, none⟩ = some (.slice so n1 sc) ∧ w'.cell? ⟨gs, 3, none⟩ = some (.slice bo n2 bc) ∧ w'.cell? ⟨gs, 4, none⟩ = some (.slice mo4 nm mc4) ∧ w'.cell? ⟨gs, 5, none⟩ = some (.string s'.out) ∧ w'.cell? ⟨gs, 6, none⟩ = some (.string s'.inp) ∧ w'.cell? ⟨gs, 7, none⟩ = some (.int .i64 s'.read) ∧ w'.cell? ⟨gs, 8, none⟩ = some (.int .i64 s'.status) ∧ w'.cell? ⟨gs, 9, none⟩ = some (.int .i64 s'.code) ∧ w'.cell? ⟨g7, 4, none⟩ = some (.int .i64 ex) from ⟨whole_cell ha' rfl, whole_cell ha' rfl, whole_cell ha' rfl, whole_cell ha' rfl, whole_cell ha' rfl, whole_cell ha' rfl, whole_cell ha' rfl, whole_cell ha' rfl, whole_cell ha' rfl, whole_cell hb' rfl, whole_cell hb' rfl, whole_cell hb' rfl, whole_cell hb' rfl, whole_cell hb' rfl, whole_cell hb' rfl, whole_cell hb' rfl, whole_cell hb' rfl, whole_cell hb' rfl, whole_cell hb' rfl, whole_cell hc' rfl⟩)
    have CE := Lib.hid (fun wc (hb : Below w9.heap.size w9 wc) => rexit HRR.out HRS.out HRB.out (HR9.out.below hb) KIN.out hx1 hx2 PRE.out VLN.out NI1.out HN12.out.1 HN12.out.2 z1 z2 (Nat.le_trans hx3 (by decide)) (Nat.le_trans hx4 (by decide)) HRP.out.slots.1 HMP.out.1 HRP.out.backs.1 HMP.out.2)
    have HXX := Lib.hid (And.intro hx1 hx2)
    clear hx1 hx2 hx3 hx4
    have HBC : Hid (Below w9.heap.size w9 w9.drew) := Lib.hid (Below.refl _ _).drew
    have KX := Lib.hid (KF.out _ (boxOn FGT.out.1 HBC.out) (boxOn HR9.out.box HBC.out) (boxOn FG7.out.1 HBC.out))
    refine wp_region_held (S := fun w' => w'.cell? ⟨gt, 0, none⟩ = some (.int .i64 t.start) ∧ w'.cell? ⟨gt, 1, none⟩ = some (.int .i64 t.slots) ∧ w'.cell? ⟨gt, 2, none⟩ = some (.int .i64 t.backs) ∧ w'.cell? ⟨gt, 3, none⟩ = some (.int .i64 t.grow) ∧ w'.cell? ⟨gt, 4, none⟩ = some (.int .i64 t.growBack) ∧ w'.cell? ⟨gt, 5, none⟩ = some (.slice (some ad) ni ci) ∧ w'.cell? ⟨gt, 6, none⟩ = some (.slice ao t.outs.length co) ∧ w'.cell? ⟨gt, 7, none⟩ = some (.int .i64 t.last) ∧ w'.cell? ⟨gt, 8, none⟩ = some (.slice ac t.cells.length cc) ∧ w'.cell? ⟨gs, 0, none⟩ = some (.int .i64 s'.ip) ∧ w'.cell? ⟨gs, 1, none⟩ = some (.int .i64 s'.handler) ∧ w'.cell? ⟨gs, 2, none⟩ = some (.slice so n1 sc) ∧ w'.cell? ⟨gs, 3, none⟩ = some (.slice bo n2 bc) ∧ w'.cell? ⟨gs, 4, none⟩ = some (.slice mo4 nm mc4) ∧ w'.cell? ⟨gs, 5, none⟩ = some (.string s'.out) ∧ w'.cell? ⟨gs, 6, none⟩ = some (.string s'.inp) ∧ w'.cell? ⟨gs, 7, none⟩ = some (.int .i64 s'.read) ∧ w'.cell? ⟨gs, 8, none⟩ = some (.int .i64 s'.status) ∧ w'.cell? ⟨gs, 9, none⟩ = some (.int .i64 s'.code) ∧ w'.cell? ⟨g7, 4, none⟩ = some (.int .i64 ex)) (by kernel_rfl) ?_
    change wpAnyH _ _ _ _ _ _ _ _ (World.drew w9)
    refine wpAnyH_take (i := 0) (oi := ⟨some 251, _, _, _, _, _⟩) (v := ?_) rfl (by kernel_rfl) (by kernel_rfl) (by kernel_rfl) (fun _ _ _ h => HQP.out _ _ _ _ _ h) (Or.inl ⟨by rfl, ?_⟩) KX.out ?_; rotate_left; · intro w hSw; (try dsimp only at hSw); go_simp; try with_reducible rfl
    try simp only [Act.put, sx1, sx2, sx3]
    refine wpAnyH_take (i := 1) (oi := ⟨some 252, _, _, _, _, _⟩) (v := ?_) rfl (by kernel_rfl) (by kernel_rfl) (by kernel_rfl) (fun _ _ _ h => HQP.out _ _ _ _ _ h) (Or.inl ⟨by rfl, ?_⟩) KX.out ?_; rotate_left; · intro w hSw; (try dsimp only at hSw); go_simp; try with_reducible rfl
    try simp only [Act.put, sx1, sx2, sx3]
    refine wpAnyH_take (i := 2) (oi := ⟨some 253, _, _, _, _, _⟩) (v := ?_) rfl (by kernel_rfl) (by kernel_rfl) (by kernel_rfl) (fun _ _ _ h => HQP.out _ _ _ _ _ h) (Or.inl ⟨by rfl, ?_⟩) KX.out ?_; rotate_left; · intro w hSw; (try dsimp only at hSw); go_simp; try with_reducible rfl
    try simp only [Act.put, sx1, sx2, sx3]
    refine wpAnyH_take (i := 3) (oi := ⟨some 254, _, _, _, _, _⟩) (v := ?_) rfl (by kernel_rfl) (by kernel_rfl) (by kernel_rfl) (fun _ _ _ h => HQP.out _ _ _ _ _ h) (Or.inl ⟨by rfl, ?_⟩) KX.out ?_; rotate_left; · intro w hSw; (try dsimp only at hSw); go_simp; try with_reducible rfl
    try simp only [Act.put, sx1, sx2, sx3]
    refine wpAnyH_take (i := 4) (oi := ⟨some 255, _, _, _, _, _⟩) (v := ?_) rfl (by kernel_rfl) (by kernel_rfl) (by kernel_rfl) (fun _ _ _ h => HQP.out _ _ _ _ _ h) (Or.inl ⟨by rfl, ?_⟩) KX.out ?_; rotate_left; · intro w hSw; (try dsimp only at hSw); go_simp; try with_reducible rfl
    try simp only [Act.put, sx1, sx2, sx3]
    refine wpAnyH_take (i := 6) (oi := ⟨some 257, _, _, _, _, _⟩) (v := ?_) rfl (by kernel_rfl) (by kernel_rfl) (by kernel_rfl) (fun _ _ _ h => HQP.out _ _ _ _ _ h) (Or.inl ⟨by rfl, ?_⟩) KX.out ?_; rotate_left; · intro w hSw; (try dsimp only at hSw); go_simp; try with_reducible rfl
    try simp only [Act.put, sx1, sx2, sx3]
    refine wpAnyH_take (i := 7) (oi := ⟨some 258, _, _, _, _, _⟩) (v := ?_) rfl (by kernel_rfl) (by kernel_rfl) (by kernel_rfl) (fun _ _ _ h => HQP.out _ _ _ _ _ h) (Or.inl ⟨by rfl, ?_⟩) KX.out ?_; rotate_left; · intro w hSw; (try dsimp only at hSw); go_simp; try with_reducible rfl
    try simp only [Act.put, sx1, sx2, sx3]
    refine wpAnyH_ready (rs := [5]) (by kernel_rfl) (by simp) ?_
    refine AllReadyH.cons rfl (fun K hK => ?_) ?_
    rotate_left
    · exact AllReadyH.nil
    go_simp
    go_at_call 88
    refine (CE.out _ HBC.out).mono ?_
    rintro e wl ⟨v1, v2, rfl, ho1, ho2, hap, hbl⟩
    have HO1 := Lib.hid ho1
    have HO2 := Lib.hid ho2
    have HAP := Lib.hid hap
    have HMC := Lib.hid (show Value.oneCell' (.slice mo4 nm mc4) = true from rfl)
    have HBL := Lib.hid (HBC.out.trans (hbl.mono HBC.out.size))
    have HON := Lib.hid (And.intro (slice_one ho1.slice) (slice_one ho2.slice))
    have KX := Lib.hid (KF.out _ (boxOn FGT.out.1 HBL.out) (boxOn HR9.out.box HBL.out) (boxOn FG7.out.1 HBL.out))
    have FGL := Lib.hid (boxOn FGR.out.1 HBL.out)
    clear ho1 ho2 hap hbl
    try dsimp only
    go_wp2_with fail
    refine hK.out _ _ KX.out (fun hHeld => ?_)
    clear hK K hHeld
    try simp only [Act.put, sx1, sx2, sx3]
    refine wpAnyH_ready (rs := [8]) (by kernel_rfl) (by simp) ?_
    refine AllReadyH.cons rfl (fun K hK => ?_) ?_
    rotate_left
    · exact AllReadyH.nil
    refine step_st_state (by rfl) _ _ rfl gr _ rfl rfl _ FGL.out rfl rfl (all_one HON.out.1 HON.out.2 HMC.out) ?_
    intro we he te
    have HWE := Lib.hid he
    have HTE := Lib.hid te
    have KX := Lib.hid (KF.out _ (te.whole (boxOn FGT.out.1 HBL.out) (fun hm => NGR.out.1 (List.mem_singleton.1 hm))) (te.whole (boxOn HR9.out.box HBL.out) (fun hm => NGR.out.2 (List.mem_singleton.1 hm))) (te.whole (boxOn FG7.out.1 HBL.out) (fun hm => NG.out.2 (List.mem_singleton.1 hm).symm)))
    clear he te
    refine hK.out _ _ KX.out (fun hHeld => ?_)
    clear hK K hHeld
    try simp only [Act.put, sx1, sx2, sx3]
    refine wpAnyH_take (i := 9) (oi := ⟨some 7, _, _, _, _, _⟩) (v := ?_) rfl (by kernel_rfl) (by kernel_rfl) (by kernel_rfl) (fun _ _ _ h => HQP.out _ _ _ _ _ h) (Or.inl ⟨by rfl, ?_⟩) KX.out ?_; rotate_left; · intro w hSw; (try dsimp only at hSw); go_simp; try with_reducible rfl
    try simp only [Act.put, sx1, sx2, sx3]
    refine wpAnyH_take (i := 10) (oi := ⟨some 8, _, _, _, _, _⟩) (v := ?_) rfl (by kernel_rfl) (by kernel_rfl) (by kernel_rfl) (fun _ _ _ h => HQP.out _ _ _ _ _ h) (Or.inl ⟨by rfl, ?_⟩) KX.out ?_; rotate_left; · intro w hSw; (try dsimp only at hSw); go_simp; try with_reducible rfl
    try simp only [Act.put, sx1, sx2, sx3]
    refine wpAnyH_done (by kernel_rfl) ?_ _
    go_wp2_with fail
    refine HRX.out _ _ _ rfl (results_cell_tmps rfl _ _ gr _ _ _ _ rfl HWE.out Tryz.underlying50 rfl state_size) ?_
    rw [HFIN.out]
    exact rdone HR9.out FGR.out HGRW.out HO1.out HO2.out HAP.out HBL.out HTE.out

set_option maxHeartbeats 8000000 in
set_option maxRecDepth 1000000 in
theorem rway8 {W w : World} {t : T} {s s' : M} {wat V' : List Int} {k ni n1 n2 nm nw gt gs gr gv g7 ci co cc sc bc mc4 cw : Nat} {ad : Addr} {ao ac so bo mo4 aw : Option Addr} {a b c ex : Int} {res : X} {Q : Exit → Act → World → Prop} (h : AtI W w t s s' wat V' k ni n1 n2 nm nw gt gs gr gv g7 ci co cc sc bc mc4 cw ad ao ac so bo mo4 aw 8 a b c ex res) : WayI Q W w t s s' wat V' k ni n1 n2 nm nw gt gs gr gv g7 ci co cc sc bc mc4 cw ad ao ac so bo mo4 aw 8 a b c ex res := by
  have HR8 := Lib.hid h.hrun
  have HRR := Lib.hid h.hrr
  have HRS := Lib.hid h.hrs
  have HRB := Lib.hid h.hrb
  have HRW := Lib.hid h.hrw
  have HNI := Lib.hid h.hni
  have HN12 := Lib.hid h.hn12
  have HNW := Lib.hid h.hnw
  have z1 := h.z1
  have z2 := h.z2
  have z3 := h.z3
  have HZ4 := Lib.hid h.z4
  have z5 := h.z5
  have z6 := h.z6
  have z7 := h.z7
  have z8 := h.z8
  have HXK := Lib.hid h.hix
  have HCX := Lib.hid h.hcx
  have HQ := Lib.hid h.hq
  have HJ := Lib.hid h.hj
  have HRES := Lib.hid h.hres
  have HEX := Lib.hid h.hex
  have HMY := Lib.hid h.hmy
  have HRP := Lib.hid h.hrp
  have HMP := Lib.hid h.hmp
  have hlt := h.hlt
  have NG := Lib.hid h.ng
  have NG2 := Lib.hid h.ng2
  have NGR := Lib.hid h.ngr
  have HGRW := Lib.hid h.hgrw
  have HVK := Lib.hid h.hq.2.2.1
  have HOK := Lib.hid (ins_parts (h.hrp.ins k _ h.hix))
  have k0 : (0 : Int) ≤ (k : Int) := Int.natCast_nonneg k
  have k1 : (k : Int) < (ni : Int) := Int.ofNat_lt.2 hlt
  have hg7 := (h.hrun.fr g7 _ (if_pos rfl)).1
  have m0 : w.cell? ⟨g7, 0, none⟩ = some (.int .i64 8) := whole_cell hg7 rfl
  have m1 : w.cell? ⟨g7, 1, none⟩ = some (.int .i64 a) := whole_cell hg7 rfl
  have m2 : w.cell? ⟨g7, 2, none⟩ = some (.int .i64 b) := whole_cell hg7 rfl
  have m3 : w.cell? ⟨g7, 3, none⟩ = some (.int .i64 c) := whole_cell hg7 rfl
  have m4 : w.cell? ⟨g7, 4, none⟩ = some (.int .i64 ex) := whole_cell hg7 rfl
  have CU := Lib.hid (fun wc => Ir.ruses_any (8, a, b, c, ex) wc)
  have hop : True := trivial
  clear h hg7
  intro c0 c1 c5 c7 c8 c12 c13 c14 c15 c16 c17 c18 c19 c20 c21 c22 c23 c24 c25 c26 c27 c28 c29 c30 c31 c32 c33 c34 c35 c36 c37 c38 c39 c40 c41 c42 c43 c44 c45 c46 c47 c48 c49 c50 c51 c52 c53 c54 c55 c56 c57 c58 c59 c60 c61 c62 c63 c64 c65 c66 c67 c68 c69 c70 c71 c72 c73 c74 c75 c76 c77 c78 c79 c80 c81 c82 c83 c84 c85 c86 c87 c88 c89 c90 c91 c92 c93 c94 c95 c96 c97 c98 c99 c100 c101 c102 c103 c104 c105 c106 c107 c108 c109 c110 c111 c112 c113 c114 c115 c116 c117 c118 c119 c120 c121 c122 c123 c124 c125 c126 c127 c128 c129 c130 c131 c132 c133 c134 c135 c136 c137 c138 c139 c140 c141 c142 c143 c144 c145 c146 c147 c148 c149 c150 c151 c152 c153 c154 c155 c156 c157 c158 c159 c160 c161 c162 c163 c164 c165 c166 c167 c168 c169 c170 c171 c172 c173 c174 c175 c176 c177 c178 c179 c180 c181 c182 c183 c184 c185 c186 c187 c188 c189 c190 c191 c192 c193 c194 c195 c196 c197 c198 c199 c200 c201 c202 c203 c204 c205 c206 c207 c208 c209 c210 c211 c212 c213 c214 c215 c216 c217 c218 c219 c220 c221 c222 c223 c224 c225 c226 c227 c228 c229 c230 c231 c232 c233 c234 c235 c236 c237 c238 c239 c240 c241 c242 c243 c244 c245 c246 c247 c248 c249 c250 c251 c252 c253 c254 c255 c256 c257 c258 c259 c260 c261 c262 c263 c264 c265 c266 hQ hR hP
  have HQP := Lib.hid hP
  clear hP
  have HQX := Lib.hid hQ
  have HRX := Lib.hid hR
  clear hQ hR
  conv => arg 2; whnf
  go_wp2_with fail
  refine (CU.out _).mono ?_
  rintro e w9 ⟨vu, rfl, hu, hb9⟩
  have HU9 : Ir.usesL (8, a, b, c, ex) = [b] := rfl
  rw [HU9] at hu
  have HUS := HOK.out.uses
  rw [HU9] at HUS
  have HR9 := Lib.hid (HR8.out.below hb9)
  obtain ⟨gu, cu, eu, hcu, -, -⟩ := hu.row (by show 0 < 1; decide)
  rw [show (vals [b]).length = 1 from rfl] at eu
  subst eu
  obtain ⟨hb0, hb1⟩ := HUS b (by simp)
  obtain ⟨kb, hkb⟩ : ∃ kb : Nat, b = kb := ⟨b.toNat, by omega⟩
  have hkb1 : kb < k := by omega
  clear hb0 hb1
  subst hkb
  have u0 : w9.cell? ⟨gu, 0, none⟩ = some (.int .i64 (kb : Int)) := hcu 0 _ rfl
  have q0 := HR9.out.told (p := kb) (by rw [HVK.out]; exact hkb1) (by rw [HVK.out]; exact Nat.le_of_lt hlt)
  obtain ⟨xb, hxb⟩ : ∃ v, val V' (kb : Int) = v := ⟨_, rfl⟩
  rw [hxb] at q0
  have HXB := Lib.hid hxb
  have ixb : Cell.In xb := by rw [← hxb]; exact getL_in HQ.out.2.2.2 _
  have HIB := Lib.hid ixb
  have kb0 : (0 : Int) ≤ (kb : Int) := Int.natCast_nonneg kb
  have kb1 : (kb : Int) < (ni : Int) := Int.ofNat_lt.2 (Nat.lt_trans hkb1 hlt)
  clear hcu hkb1 hxb ixb
  have HG9 := (HR9.out.fr g7 _ (if_pos rfl)).1
  have p0 : w9.cell? ⟨g7, 0, none⟩ = some (.int .i64 8) := whole_cell HG9 rfl
  have p1 : w9.cell? ⟨g7, 1, none⟩ = some (.int .i64 a) := whole_cell HG9 rfl
  have vcc := Mem.owns_at HR9.out.vl (j := k) (by rw [padV_length (by rw [HVK.out]; exact Nat.le_of_lt hlt)]; exact hlt)
  obtain ⟨old, hold⟩ : ∃ x, (padV V' ni)[k]'(by rw [padV_length (by rw [HVK.out]; exact Nat.le_of_lt hlt)]; exact hlt) = x := ⟨_, rfl⟩
  rw [hold] at vcc
  obtain ⟨v0, v1⟩ := vcc
  have b2 : w9.cell? ⟨gs, 2, none⟩ = some (.slice so n1 sc) := whole_cell HR9.out.box rfl
  have b3 : w9.cell? ⟨gs, 3, none⟩ = some (.slice bo n2 bc) := whole_cell HR9.out.box rfl
  have b4 : w9.cell? ⟨gs, 4, none⟩ = some (.slice mo4 nm mc4) := whole_cell HR9.out.box rfl
  clear hold HG9 hu hb9 HU9 HUS
  try dsimp only
  have hgo : doI wat s' V' (8, a, (kb : Int), c, ex) = ⟨s', 0, decide (xb = 0), false⟩ := by
    show (⟨s', 0, decide (val V' (kb : Int) = 0), false⟩ : D) = _
    rw [HXB.out]
  clear hop
  have HRV := Lib.hid (HR9.out.next (by rw [HVK.out]; exact hlt))
  by_cases hcd : xb = 0
  · rw [decide_eq_true hcd] at hgo
    have hd := Lib.hid hgo
    have e1 : decide (xb = 0) = true := decide_eq_true hcd
    clear hgo
    go_wp2_with fail
    exact HQX.out _ _ _ _ _ _ _ _ _ _ _ _ _ _ _ _ _ _ _ _ _ _ _ _ _ _ _ _ _ _ _ _ _ _ _ _ _ _ _ _ _ _ _ _ _ _ _ _ _ _ _ _ _ _ _ _ _ _ _ _ _ _ _ _ _ _ _ _ _ _ _ _ _ _ _ _ _ _ _ _ _ _ _ _ _ _ _ _ _ _ _ _ _ _ _ _ _ _ _ _ _ _ _ _ _ _ _ _ _ _ _ _ _ _ _ _ _ _ _ _ _ _ _ _ _ _ _ _ _ _ _ _ _ _ _ _ _ _ _ _ _ _ _ _ _ _ _ _ _ _ _ _ _ _ _ _ _ _ _ _ _ _ _ _ _ _ _ _ _ _ _ _ _ _ _ _ _ _ _ _ _ _ _ _ _ _ _ _ _ _ _ _ _ _ _ _ _ _ _ _ _ _ _ _ _ _ _ _ _ _ _ _ _ _ _ _ _ _ _ _ _ _ _ _ hd.out HRV.out
  · rw [decide_eq_false hcd] at hgo
    have hd := Lib.hid hgo
    have e1 : decide (xb = 0) = false := decide_eq_false hcd
    clear hgo HRV
    go_upto_region 59 with fail
    clear v0 v1 u0 q0 p0 p1 b2 b3 b4
    have KIN := Lib.hid (HQ.out.1)
    have PRE := Lib.hid (show ∀ p : Int, 0 ≤ p → p < (V'.length : Int) → val (padV (V') ni) p = val V' p from fun p h0 h1 => val_padV (by rw [HVK.out]; exact Nat.le_of_lt hlt) h0 h1)
    have LNA := Lib.hid (show (padV (V') ni).length = ni from padV_length (by rw [HVK.out]; exact Nat.le_of_lt hlt))
    have VLN := Lib.hid (show V'.length ≤ (padV (V') ni).length from by rw [LNA.out, HVK.out]; exact Nat.le_of_lt hlt)
    have NI1 := Lib.hid (show (padV (V') ni).length ≤ 10000 from by rw [LNA.out]; exact z7)
    have HXR := Lib.hid (goI_off HXK.out hd.out HJ.out)
    obtain ⟨xo, hx1, hx2, hx3, hx4⟩ := HEX.out
    rw [← HXR.out] at hx1 hx2
    dsimp only at hx1 hx2
    have HFIN := Lib.hid (runT_is (o := xo) HMY.out HRES.out (by rw [← HXR.out]; exact hx1))
    rw [← HXR.out] at HFIN
    dsimp only at HFIN
    have FGT := Lib.hid (HR9.out.fr gt _ ((if_neg NG.out.1).trans (if_pos rfl)))
    have FGR := Lib.hid (HR9.out.fr gr _ ((if_neg NG.out.2).trans ((if_neg NG2.out).trans (if_pos rfl))))
    have FG7 := Lib.hid (HR9.out.fr g7 _ (if_pos rfl))
    have KF := Lib.hid (fun (w' : World) (ha' : w'.heap[gt]? = some (.cells (trA t (.slice (some ad) ni ci) (.slice ao t.outs.length co) (.slice ac t.cells.length cc)) 26 (0, 0))) (hb' : w'.heap[gs]? = some (.cells (cells10 s'.ip s'.handler (.slice so n1 sc) (.slice bo n2 bc) (.slice mo4 nm mc4) s'.out s'.inp s'.read s'.status s'.code) 50 (0, 0))) (hc' : w'.heap[g7]? = some (.cells (insA (8, a, (kb : Int), c, ex)) 42 (0, 0))) => show w'.cell? ⟨gt, 0, none⟩ = some (.int .i64 t.start) ∧ w'.cell? ⟨gt, 1, none⟩ = some (.int .i64 t.slots) ∧ w'.cell? ⟨gt, 2, none⟩ = some (.int .i64 t.backs) ∧ w'.cell? ⟨gt, 3, none⟩ = some (.int .i64 t.grow) ∧ w'.cell? ⟨gt, 4, none⟩ = some (.int .i64 t.growBack) ∧ w'.cell? ⟨gt, 5, none⟩ = some (.slice (some ad) ni ci) ∧ w'.cell? ⟨gt, 6, none⟩ = some (.slice ao t.outs.length co) ∧ w'.cell? ⟨gt, 7, none⟩ = some (.int .i64 t.last) ∧ w'.cell? ⟨gt, 8, none⟩ = some (.slice ac t.cells.length cc) ∧ w'.cell? ⟨gs, 0, none⟩ = some (.int .i64 s'.ip) ∧ w'.cell? ⟨gs, 1, none⟩ = some (.int .i64 s'.handler) ∧ w'.cell? ⟨gs, 2, none⟩ = some (.slice so n1 sc) ∧ w'.cell? ⟨gs, 3, none⟩ = some (.slice bo n2 bc) ∧ w'.cell? ⟨gs, 4, none⟩ = some (.slice mo4 nm mc4) ∧ w'.cell? ⟨gs, 5, none⟩ = some (.string s'.out) ∧ w'.cell? ⟨gs, 6, none⟩ = some (.string s'.inp) ∧ w'.cell? ⟨gs, 7, none⟩ = some (.int .i64 s'.read) ∧ w'.cell? ⟨gs, 8, none⟩ = some (.int .i64 s'.status) ∧ w'.cell? ⟨gs, 9, none⟩ = some (.int .i64 s'.code) ∧ w'.cell? ⟨g7, 4, none⟩ = some (.int .i64 ex) from ⟨whole_cell ha' rfl, whole_cell ha' rfl, whole_cell ha' rfl, whole_cell ha' rfl, whole_cell ha' rfl, whole_cell ha' rfl, whole_cell ha' rfl, whole_cell ha' rfl, whole_cell ha' rfl, whole_cell hb' rfl, whole_cell hb' rfl, whole_cell hb' rfl, whole_cell hb' rfl, whole_cell hb' rfl, whole_cell hb' rfl, whole_cell hb' rfl, whole_cell hb' rfl, whole_cell hb' rfl, whole_cell hb' rfl, whole_cell hc' rfl⟩)
    have CE := Lib.hid (fun wc (hb : Below w9.heap.size w9 wc) => rexit HRR.out HRS.out HRB.out (HR9.out.below hb) KIN.out hx1 hx2 PRE.out VLN.out NI1.out HN12.out.1 HN12.out.2 z1 z2 (Nat.le_trans hx3 (by decide)) (Nat.le_trans hx4 (by decide)) HRP.out.slots.1 HMP.out.1 HRP.out.backs.1 HMP.out.2)
    have HXX := Lib.hid (And.intro hx1 hx2)
    clear hx1 hx2 hx3 hx4
    have HBC : Hid (Below w9.heap.size w9 w9.drew) := Lib.hid (Below.refl _ _).drew
    have KX := Lib.hid (KF.out _ (boxOn FGT.out.1 HBC.out) (boxOn HR9.out.box HBC.out) (boxOn FG7.out.1 HBC.out))
    refine wp_region_held (S := fun w' => w'.cell? ⟨gt, 0, none⟩ = some (.int .i64 t.start) ∧ w'.cell? ⟨gt, 1, none⟩ = some (.int .i64 t.slots) ∧ w'.cell? ⟨gt, 2, none⟩ = some (.int .i64 t.backs) ∧ w'.cell? ⟨gt, 3, none⟩ = some (.int .i64 t.grow) ∧ w'.cell? ⟨gt, 4, none⟩ = some (.int .i64 t.growBack) ∧ w'.cell? ⟨gt, 5, none⟩ = some (.slice (some ad) ni ci) ∧ w'.cell? ⟨gt, 6, none⟩ = some (.slice ao t.outs.length co) ∧ w'.cell? ⟨gt, 7, none⟩ = some (.int .i64 t.last) ∧ w'.cell? ⟨gt, 8, none⟩ = some (.slice ac t.cells.length cc) ∧ w'.cell? ⟨gs, 0, none⟩ = some (.int .i64 s'.ip) ∧ w'.cell? ⟨gs, 1, none⟩ = some (.int .i64 s'.handler) ∧ w'.cell? ⟨gs, 2, none⟩ = some (.slice so n1 sc) ∧ w'.cell? ⟨gs, 3, none⟩ = some (.slice bo n2 bc) ∧ w'.cell? ⟨gs, 4, none⟩ = some (.slice mo4 nm mc4) ∧ w'.cell? ⟨gs, 5, none⟩ = some (.string s'.out) ∧ w'.cell? ⟨gs, 6, none⟩ = some (.string s'.inp) ∧ w'.cell? ⟨gs, 7, none⟩ = some (.int .i64 s'.read) ∧ w'.cell? ⟨gs, 8, none⟩ = some (.int .i64 s'.status) ∧ w'.cell? ⟨gs, 9, none⟩ = some (.int .i64 s'.code) ∧ w'.cell? ⟨g7, 4, none⟩ = some (.int .i64 ex)) (by kernel_rfl) ?_
    change wpAnyH _ _ _ _ _ _ _ _ (World.drew w9)
    refine wpAnyH_take (i := 0) (oi := ⟨some 251, _, _, _, _, _⟩) (v := ?_) rfl (by kernel_rfl) (by kernel_rfl) (by kernel_rfl) (fun _ _ _ h => HQP.out _ _ _ _ _ h) (Or.inl ⟨by rfl, ?_⟩) KX.out ?_; rotate_left; · intro w hSw; (try dsimp only at hSw); go_simp; try with_reducible rfl
    try simp only [Act.put, sx1, sx2, sx3]
    refine wpAnyH_take (i := 1) (oi := ⟨some 252, _, _, _, _, _⟩) (v := ?_) rfl (by kernel_rfl) (by kernel_rfl) (by kernel_rfl) (fun _ _ _ h => HQP.out _ _ _ _ _ h) (Or.inl ⟨by rfl, ?_⟩) KX.out ?_; rotate_left; · intro w hSw; (try dsimp only at hSw); go_simp; try with_reducible rfl
    try simp only [Act.put, sx1, sx2, sx3]
    refine wpAnyH_take (i := 2) (oi := ⟨some 253, _, _, _, _, _⟩) (v := ?_) rfl (by kernel_rfl) (by kernel_rfl) (by kernel_rfl) (fun _ _ _ h => HQP.out _ _ _ _ _ h) (Or.inl ⟨by rfl, ?_⟩) KX.out ?_; rotate_left; · intro w hSw; (try dsimp only at hSw); go_simp; try with_reducible rfl
    try simp only [Act.put, sx1, sx2, sx3]
    refine wpAnyH_take (i := 3) (oi := ⟨some 254, _, _, _, _, _⟩) (v := ?_) rfl (by kernel_rfl) (by kernel_rfl) (by kernel_rfl) (fun _ _ _ h => HQP.out _ _ _ _ _ h) (Or.inl ⟨by rfl, ?_⟩) KX.out ?_; rotate_left; · intro w hSw; (try dsimp only at hSw); go_simp; try with_reducible rfl
    try simp only [Act.put, sx1, sx2, sx3]
    refine wpAnyH_take (i := 4) (oi := ⟨some 255, _, _, _, _, _⟩) (v := ?_) rfl (by kernel_rfl) (by kernel_rfl) (by kernel_rfl) (fun _ _ _ h => HQP.out _ _ _ _ _ h) (Or.inl ⟨by rfl, ?_⟩) KX.out ?_; rotate_left; · intro w hSw; (try dsimp only at hSw); go_simp; try with_reducible rfl
    try simp only [Act.put, sx1, sx2, sx3]
    refine wpAnyH_take (i := 6) (oi := ⟨some 257, _, _, _, _, _⟩) (v := ?_) rfl (by kernel_rfl) (by kernel_rfl) (by kernel_rfl) (fun _ _ _ h => HQP.out _ _ _ _ _ h) (Or.inl ⟨by rfl, ?_⟩) KX.out ?_; rotate_left; · intro w hSw; (try dsimp only at hSw); go_simp; try with_reducible rfl
    try simp only [Act.put, sx1, sx2, sx3]
    refine wpAnyH_take (i := 7) (oi := ⟨some 258, _, _, _, _, _⟩) (v := ?_) rfl (by kernel_rfl) (by kernel_rfl) (by kernel_rfl) (fun _ _ _ h => HQP.out _ _ _ _ _ h) (Or.inl ⟨by rfl, ?_⟩) KX.out ?_; rotate_left; · intro w hSw; (try dsimp only at hSw); go_simp; try with_reducible rfl
    try simp only [Act.put, sx1, sx2, sx3]
    refine wpAnyH_ready (rs := [5]) (by kernel_rfl) (by simp) ?_
    refine AllReadyH.cons rfl (fun K hK => ?_) ?_
    rotate_left
    · exact AllReadyH.nil
    go_simp
    go_at_call 88
    refine (CE.out _ HBC.out).mono ?_
    rintro e wl ⟨v1, v2, rfl, ho1, ho2, hap, hbl⟩
    have HO1 := Lib.hid ho1
    have HO2 := Lib.hid ho2
    have HAP := Lib.hid hap
    have HMC := Lib.hid (show Value.oneCell' (.slice mo4 nm mc4) = true from rfl)
    have HBL := Lib.hid (HBC.out.trans (hbl.mono HBC.out.size))
    have HON := Lib.hid (And.intro (slice_one ho1.slice) (slice_one ho2.slice))
    have KX := Lib.hid (KF.out _ (boxOn FGT.out.1 HBL.out) (boxOn HR9.out.box HBL.out) (boxOn FG7.out.1 HBL.out))
    have FGL := Lib.hid (boxOn FGR.out.1 HBL.out)
    clear ho1 ho2 hap hbl
    try dsimp only
    go_wp2_with fail
    refine hK.out _ _ KX.out (fun hHeld => ?_)
    clear hK K hHeld
    try simp only [Act.put, sx1, sx2, sx3]
    refine wpAnyH_ready (rs := [8]) (by kernel_rfl) (by simp) ?_
    refine AllReadyH.cons rfl (fun K hK => ?_) ?_
    rotate_left
    · exact AllReadyH.nil
    refine step_st_state (by rfl) _ _ rfl gr _ rfl rfl _ FGL.out rfl rfl (all_one HON.out.1 HON.out.2 HMC.out) ?_
    intro we he te
    have HWE := Lib.hid he
    have HTE := Lib.hid te
    have KX := Lib.hid (KF.out _ (te.whole (boxOn FGT.out.1 HBL.out) (fun hm => NGR.out.1 (List.mem_singleton.1 hm))) (te.whole (boxOn HR9.out.box HBL.out) (fun hm => NGR.out.2 (List.mem_singleton.1 hm))) (te.whole (boxOn FG7.out.1 HBL.out) (fun hm => NG.out.2 (List.mem_singleton.1 hm).symm)))
    clear he te
    refine hK.out _ _ KX.out (fun hHeld => ?_)
    clear hK K hHeld
    try simp only [Act.put, sx1, sx2, sx3]
    refine wpAnyH_take (i := 9) (oi := ⟨some 7, _, _, _, _, _⟩) (v := ?_) rfl (by kernel_rfl) (by kernel_rfl) (by kernel_rfl) (fun _ _ _ h => HQP.out _ _ _ _ _ h) (Or.inl ⟨by rfl, ?_⟩) KX.out ?_; rotate_left; · intro w hSw; (try dsimp only at hSw); go_simp; try with_reducible rfl
    try simp only [Act.put, sx1, sx2, sx3]
    refine wpAnyH_take (i := 10) (oi := ⟨some 8, _, _, _, _, _⟩) (v := ?_) rfl (by kernel_rfl) (by kernel_rfl) (by kernel_rfl) (fun _ _ _ h => HQP.out _ _ _ _ _ h) (Or.inl ⟨by rfl, ?_⟩) KX.out ?_; rotate_left; · intro w hSw; (try dsimp only at hSw); go_simp; try with_reducible rfl
    try simp only [Act.put, sx1, sx2, sx3]
    refine wpAnyH_done (by kernel_rfl) ?_ _
    go_wp2_with fail
    refine HRX.out _ _ _ rfl (results_cell_tmps rfl _ _ gr _ _ _ _ rfl HWE.out Tryz.underlying50 rfl state_size) ?_
    rw [HFIN.out]
    exact rdone HR9.out FGR.out HGRW.out HO1.out HO2.out HAP.out HBL.out HTE.out

set_option maxHeartbeats 8000000 in
set_option maxRecDepth 1000000 in
theorem rway9 {W w : World} {t : T} {s s' : M} {wat V' : List Int} {k ni n1 n2 nm nw gt gs gr gv g7 ci co cc sc bc mc4 cw : Nat} {ad : Addr} {ao ac so bo mo4 aw : Option Addr} {a b c ex : Int} {res : X} {Q : Exit → Act → World → Prop} (h : AtI W w t s s' wat V' k ni n1 n2 nm nw gt gs gr gv g7 ci co cc sc bc mc4 cw ad ao ac so bo mo4 aw 9 a b c ex res) : WayI Q W w t s s' wat V' k ni n1 n2 nm nw gt gs gr gv g7 ci co cc sc bc mc4 cw ad ao ac so bo mo4 aw 9 a b c ex res := by
  have HR8 := Lib.hid h.hrun
  have HRR := Lib.hid h.hrr
  have HRS := Lib.hid h.hrs
  have HRB := Lib.hid h.hrb
  have HRW := Lib.hid h.hrw
  have HNI := Lib.hid h.hni
  have HN12 := Lib.hid h.hn12
  have HNW := Lib.hid h.hnw
  have z1 := h.z1
  have z2 := h.z2
  have z3 := h.z3
  have HZ4 := Lib.hid h.z4
  have z5 := h.z5
  have z6 := h.z6
  have z7 := h.z7
  have z8 := h.z8
  have HXK := Lib.hid h.hix
  have HCX := Lib.hid h.hcx
  have HQ := Lib.hid h.hq
  have HJ := Lib.hid h.hj
  have HRES := Lib.hid h.hres
  have HEX := Lib.hid h.hex
  have HMY := Lib.hid h.hmy
  have HRP := Lib.hid h.hrp
  have HMP := Lib.hid h.hmp
  have hlt := h.hlt
  have NG := Lib.hid h.ng
  have NG2 := Lib.hid h.ng2
  have NGR := Lib.hid h.ngr
  have HGRW := Lib.hid h.hgrw
  have HVK := Lib.hid h.hq.2.2.1
  have HOK := Lib.hid (ins_parts (h.hrp.ins k _ h.hix))
  have k0 : (0 : Int) ≤ (k : Int) := Int.natCast_nonneg k
  have k1 : (k : Int) < (ni : Int) := Int.ofNat_lt.2 hlt
  have hg7 := (h.hrun.fr g7 _ (if_pos rfl)).1
  have m0 : w.cell? ⟨g7, 0, none⟩ = some (.int .i64 9) := whole_cell hg7 rfl
  have m1 : w.cell? ⟨g7, 1, none⟩ = some (.int .i64 a) := whole_cell hg7 rfl
  have m2 : w.cell? ⟨g7, 2, none⟩ = some (.int .i64 b) := whole_cell hg7 rfl
  have m3 : w.cell? ⟨g7, 3, none⟩ = some (.int .i64 c) := whole_cell hg7 rfl
  have m4 : w.cell? ⟨g7, 4, none⟩ = some (.int .i64 ex) := whole_cell hg7 rfl
  have CU := Lib.hid (fun wc => Ir.ruses_any (9, a, b, c, ex) wc)
  have hop : True := trivial
  clear h hg7
  intro c0 c1 c5 c7 c8 c12 c13 c14 c15 c16 c17 c18 c19 c20 c21 c22 c23 c24 c25 c26 c27 c28 c29 c30 c31 c32 c33 c34 c35 c36 c37 c38 c39 c40 c41 c42 c43 c44 c45 c46 c47 c48 c49 c50 c51 c52 c53 c54 c55 c56 c57 c58 c59 c60 c61 c62 c63 c64 c65 c66 c67 c68 c69 c70 c71 c72 c73 c74 c75 c76 c77 c78 c79 c80 c81 c82 c83 c84 c85 c86 c87 c88 c89 c90 c91 c92 c93 c94 c95 c96 c97 c98 c99 c100 c101 c102 c103 c104 c105 c106 c107 c108 c109 c110 c111 c112 c113 c114 c115 c116 c117 c118 c119 c120 c121 c122 c123 c124 c125 c126 c127 c128 c129 c130 c131 c132 c133 c134 c135 c136 c137 c138 c139 c140 c141 c142 c143 c144 c145 c146 c147 c148 c149 c150 c151 c152 c153 c154 c155 c156 c157 c158 c159 c160 c161 c162 c163 c164 c165 c166 c167 c168 c169 c170 c171 c172 c173 c174 c175 c176 c177 c178 c179 c180 c181 c182 c183 c184 c185 c186 c187 c188 c189 c190 c191 c192 c193 c194 c195 c196 c197 c198 c199 c200 c201 c202 c203 c204 c205 c206 c207 c208 c209 c210 c211 c212 c213 c214 c215 c216 c217 c218 c219 c220 c221 c222 c223 c224 c225 c226 c227 c228 c229 c230 c231 c232 c233 c234 c235 c236 c237 c238 c239 c240 c241 c242 c243 c244 c245 c246 c247 c248 c249 c250 c251 c252 c253 c254 c255 c256 c257 c258 c259 c260 c261 c262 c263 c264 c265 c266 hQ hR hP
  have HQP := Lib.hid hP
  clear hP
  have HQX := Lib.hid hQ
  have HRX := Lib.hid hR
  clear hQ hR
  conv => arg 2; whnf
  go_wp2_with fail
  refine (CU.out _).mono ?_
  rintro e w9 ⟨vu, rfl, hu, hb9⟩
  have HU9 : Ir.usesL (9, a, b, c, ex) = [b, c] := rfl
  rw [HU9] at hu
  have HUS := HOK.out.uses
  rw [HU9] at HUS
  have HR9 := Lib.hid (HR8.out.below hb9)
  obtain ⟨gu, cu, eu, hcu, -, -⟩ := hu.row (by show 0 < 2; decide)
  rw [show (vals [b, c]).length = 2 from rfl] at eu
  subst eu
  obtain ⟨hb0, hb1⟩ := HUS b (by simp)
  obtain ⟨kb, hkb⟩ : ∃ kb : Nat, b = kb := ⟨b.toNat, by omega⟩
  obtain ⟨hc0, hc1⟩ := HUS c (by simp)
  obtain ⟨kc, hkc⟩ : ∃ kc : Nat, c = kc := ⟨c.toNat, by omega⟩
  have hkb1 : kb < k := by omega
  have hkc1 : kc < k := by omega
  clear hb0 hb1 hc0 hc1
  subst hkb
  subst hkc
  have u0 : w9.cell? ⟨gu, 0, none⟩ = some (.int .i64 (kb : Int)) := hcu 0 _ rfl
  have u1 : w9.cell? ⟨gu, 1, none⟩ = some (.int .i64 (kc : Int)) := hcu 1 _ rfl
  have q0 := HR9.out.told (p := kb) (by rw [HVK.out]; exact hkb1) (by rw [HVK.out]; exact Nat.le_of_lt hlt)
  have q1 := HR9.out.told (p := kc) (by rw [HVK.out]; exact hkc1) (by rw [HVK.out]; exact Nat.le_of_lt hlt)
  obtain ⟨xb, hxb⟩ : ∃ v, val V' (kb : Int) = v := ⟨_, rfl⟩
  rw [hxb] at q0
  have HXB := Lib.hid hxb
  have ixb : Cell.In xb := by rw [← hxb]; exact getL_in HQ.out.2.2.2 _
  have HIB := Lib.hid ixb
  obtain ⟨xc, hxc⟩ : ∃ v, val V' (kc : Int) = v := ⟨_, rfl⟩
  rw [hxc] at q1
  have HXC := Lib.hid hxc
  have ixc : Cell.In xc := by rw [← hxc]; exact getL_in HQ.out.2.2.2 _
  have HIC := Lib.hid ixc
  have kb0 : (0 : Int) ≤ (kb : Int) := Int.natCast_nonneg kb
  have kb1 : (kb : Int) < (ni : Int) := Int.ofNat_lt.2 (Nat.lt_trans hkb1 hlt)
  have kc0 : (0 : Int) ≤ (kc : Int) := Int.natCast_nonneg kc
  have kc1 : (kc : Int) < (ni : Int) := Int.ofNat_lt.2 (Nat.lt_trans hkc1 hlt)
  clear hcu hkb1 hxb ixb hkc1 hxc ixc
  have HG9 := (HR9.out.fr g7 _ (if_pos rfl)).1
  have p0 : w9.cell? ⟨g7, 0, none⟩ = some (.int .i64 9) := whole_cell HG9 rfl
  have p1 : w9.cell? ⟨g7, 1, none⟩ = some (.int .i64 a) := whole_cell HG9 rfl
  have vcc := Mem.owns_at HR9.out.vl (j := k) (by rw [padV_length (by rw [HVK.out]; exact Nat.le_of_lt hlt)]; exact hlt)
  obtain ⟨old, hold⟩ : ∃ x, (padV V' ni)[k]'(by rw [padV_length (by rw [HVK.out]; exact Nat.le_of_lt hlt)]; exact hlt) = x := ⟨_, rfl⟩
  rw [hold] at vcc
  obtain ⟨v0, v1⟩ := vcc
  have b2 : w9.cell? ⟨gs, 2, none⟩ = some (.slice so n1 sc) := whole_cell HR9.out.box rfl
  have b3 : w9.cell? ⟨gs, 3, none⟩ = some (.slice bo n2 bc) := whole_cell HR9.out.box rfl
  have b4 : w9.cell? ⟨gs, 4, none⟩ = some (.slice mo4 nm mc4) := whole_cell HR9.out.box rfl
  clear hold HG9 hu hb9 HU9 HUS
  try dsimp only
  have hgo : doI wat s' V' (9, a, (kb : Int), (kc : Int), ex) = ⟨s', 0, decide (xb = xc), false⟩ := by
    show (⟨s', 0, decide (val V' (kb : Int) = val V' (kc : Int)), false⟩ : D) = _
    rw [HXB.out, HXC.out]
  clear hop
  have HRV := Lib.hid (HR9.out.next (by rw [HVK.out]; exact hlt))
  by_cases hcd : xb = xc
  · rw [decide_eq_true hcd] at hgo
    have hd := Lib.hid hgo
    have e1 : decide (xb = xc) = true := decide_eq_true hcd
    clear hgo
    go_wp2_with fail
    exact HQX.out _ _ _ _ _ _ _ _ _ _ _ _ _ _ _ _ _ _ _ _ _ _ _ _ _ _ _ _ _ _ _ _ _ _ _ _ _ _ _ _ _ _ _ _ _ _ _ _ _ _ _ _ _ _ _ _ _ _ _ _ _ _ _ _ _ _ _ _ _ _ _ _ _ _ _ _ _ _ _ _ _ _ _ _ _ _ _ _ _ _ _ _ _ _ _ _ _ _ _ _ _ _ _ _ _ _ _ _ _ _ _ _ _ _ _ _ _ _ _ _ _ _ _ _ _ _ _ _ _ _ _ _ _ _ _ _ _ _ _ _ _ _ _ _ _ _ _ _ _ _ _ _ _ _ _ _ _ _ _ _ _ _ _ _ _ _ _ _ _ _ _ _ _ _ _ _ _ _ _ _ _ _ _ _ _ _ _ _ _ _ _ _ _ _ _ _ _ _ _ _ _ _ _ _ _ _ _ _ _ _ _ _ _ _ _ _ _ _ _ _ _ _ _ _ hd.out HRV.out
  · rw [decide_eq_false hcd] at hgo
    have hd := Lib.hid hgo
    have e1 : decide (xb = xc) = false := decide_eq_false hcd
    clear hgo HRV
    go_upto_region 59 with fail
    clear v0 v1 u0 q0 p0 p1 b2 b3 b4 u1 q1
    have KIN := Lib.hid (HQ.out.1)
    have PRE := Lib.hid (show ∀ p : Int, 0 ≤ p → p < (V'.length : Int) → val (padV (V') ni) p = val V' p from fun p h0 h1 => val_padV (by rw [HVK.out]; exact Nat.le_of_lt hlt) h0 h1)
    have LNA := Lib.hid (show (padV (V') ni).length = ni from padV_length (by rw [HVK.out]; exact Nat.le_of_lt hlt))
    have VLN := Lib.hid (show V'.length ≤ (padV (V') ni).length from by rw [LNA.out, HVK.out]; exact Nat.le_of_lt hlt)
    have NI1 := Lib.hid (show (padV (V') ni).length ≤ 10000 from by rw [LNA.out]; exact z7)
    have HXR := Lib.hid (goI_off HXK.out hd.out HJ.out)
    obtain ⟨xo, hx1, hx2, hx3, hx4⟩ := HEX.out
    rw [← HXR.out] at hx1 hx2
    dsimp only at hx1 hx2
    have HFIN := Lib.hid (runT_is (o := xo) HMY.out HRES.out (by rw [← HXR.out]; exact hx1))
    rw [← HXR.out] at HFIN
    dsimp only at HFIN
    have FGT := Lib.hid (HR9.out.fr gt _ ((if_neg NG.out.1).trans (if_pos rfl)))
    have FGR := Lib.hid (HR9.out.fr gr _ ((if_neg NG.out.2).trans ((if_neg NG2.out).trans (if_pos rfl))))
    have FG7 := Lib.hid (HR9.out.fr g7 _ (if_pos rfl))
    have KF := Lib.hid (fun (w' : World) (ha' : w'.heap[gt]? = some (.cells (trA t (.slice (some ad) ni ci) (.slice ao t.outs.length co) (.slice ac t.cells.length cc)) 26 (0, 0))) (hb' : w'.heap[gs]? = some (.cells (cells10 s'.ip s'.handler (.slice so n1 sc) (.slice bo n2 bc) (.slice mo4 nm mc4) s'.out s'.inp s'.read s'.status s'.code) 50 (0, 0))) (hc' : w'.heap[g7]? = some (.cells (insA (9, a, (kb : Int), (kc : Int), ex)) 42 (0, 0))) => show w'.cell? ⟨gt, 0, none⟩ = some (.int .i64 t.start) ∧ w'.cell? ⟨gt, 1, none⟩ = some (.int .i64 t.slots) ∧ w'.cell? ⟨gt, 2, none⟩ = some (.int .i64 t.backs) ∧ w'.cell? ⟨gt, 3, none⟩ = some (.int .i64 t.grow) ∧ w'.cell? ⟨gt, 4, none⟩ = some (.int .i64 t.growBack) ∧ w'.cell? ⟨gt, 5, none⟩ = some (.slice (some ad) ni ci) ∧ w'.cell? ⟨gt, 6, none⟩ = some (.slice ao t.outs.length co) ∧ w'.cell? ⟨gt, 7, none⟩ = some (.int .i64 t.last) ∧ w'.cell? ⟨gt, 8, none⟩ = some (.slice ac t.cells.length cc) ∧ w'.cell? ⟨gs, 0, none⟩ = some (.int .i64 s'.ip) ∧ w'.cell? ⟨gs, 1, none⟩ = some (.int .i64 s'.handler) ∧ w'.cell? ⟨gs, 2, none⟩ = some (.slice so n1 sc) ∧ w'.cell? ⟨gs, 3, none⟩ = some (.slice bo n2 bc) ∧ w'.cell? ⟨gs, 4, none⟩ = some (.slice mo4 nm mc4) ∧ w'.cell? ⟨gs, 5, none⟩ = some (.string s'.out) ∧ w'.cell? ⟨gs, 6, none⟩ = some (.string s'.inp) ∧ w'.cell? ⟨gs, 7, none⟩ = some (.int .i64 s'.read) ∧ w'.cell? ⟨gs, 8, none⟩ = some (.int .i64 s'.status) ∧ w'.cell? ⟨gs, 9, none⟩ = some (.int .i64 s'.code) ∧ w'.cell? ⟨g7, 4, none⟩ = some (.int .i64 ex) from ⟨whole_cell ha' rfl, whole_cell ha' rfl, whole_cell ha' rfl, whole_cell ha' rfl, whole_cell ha' rfl, whole_cell ha' rfl, whole_cell ha' rfl, whole_cell ha' rfl, whole_cell ha' rfl, whole_cell hb' rfl, whole_cell hb' rfl, whole_cell hb' rfl, whole_cell hb' rfl, whole_cell hb' rfl, whole_cell hb' rfl, whole_cell hb' rfl, whole_cell hb' rfl, whole_cell hb' rfl, whole_cell hb' rfl, whole_cell hc' rfl⟩)
    have CE := Lib.hid (fun wc (hb : Below w9.heap.size w9 wc) => rexit HRR.out HRS.out HRB.out (HR9.out.below hb) KIN.out hx1 hx2 PRE.out VLN.out NI1.out HN12.out.1 HN12.out.2 z1 z2 (Nat.le_trans hx3 (by decide)) (Nat.le_trans hx4 (by decide)) HRP.out.slots.1 HMP.out.1 HRP.out.backs.1 HMP.out.2)
    have HXX := Lib.hid (And.intro hx1 hx2)
    clear hx1 hx2 hx3 hx4
    have HBC : Hid (Below w9.heap.size w9 w9.drew) := Lib.hid (Below.refl _ _).drew
    have KX := Lib.hid (KF.out _ (boxOn FGT.out.1 HBC.out) (boxOn HR9.out.box HBC.out) (boxOn FG7.out.1 HBC.out))
    refine wp_region_held (S := fun w' => w'.cell? ⟨gt, 0, none⟩ = some (.int .i64 t.start) ∧ w'.cell? ⟨gt, 1, none⟩ = some (.int .i64 t.slots) ∧ w'.cell? ⟨gt, 2, none⟩ = some (.int .i64 t.backs) ∧ w'.cell? ⟨gt, 3, none⟩ = some (.int .i64 t.grow) ∧ w'.cell? ⟨gt, 4, none⟩ = some (.int .i64 t.growBack) ∧ w'.cell? ⟨gt, 5, none⟩ = some (.slice (some ad) ni ci) ∧ w'.cell? ⟨gt, 6, none⟩ = some (.slice ao t.outs.length co) ∧ w'.cell? ⟨gt, 7, none⟩ = some (.int .i64 t.last) ∧ w'.cell? ⟨gt, 8, none⟩ = some (.slice ac t.cells.length cc) ∧ w'.cell? ⟨gs, 0, none⟩ = some (.int .i64 s'.ip) ∧ w'.cell? ⟨gs, 1, none⟩ = some (.int .i64 s'.handler) ∧ w'.cell? ⟨gs, 2, none⟩ = some (.slice so n1 sc) ∧ w'.cell? ⟨gs, 3, none⟩ = some (.slice bo n2 bc) ∧ w'.cell? ⟨gs, 4, none⟩ = some (.slice mo4 nm mc4) ∧ w'.cell? ⟨gs, 5, none⟩ = some (.string s'.out) ∧ w'.cell? ⟨gs, 6, none⟩ = some (.string s'.inp) ∧ w'.cell? ⟨gs, 7, none⟩ = some (.int .i64 s'.read) ∧ w'.cell? ⟨gs, 8, none⟩ = some (.int .i64 s'.status) ∧ w'.cell? ⟨gs, 9, none⟩ = some (.int .i64 s'.code) ∧ w'.cell? ⟨g7, 4, none⟩ = some (.int .i64 ex)) (by kernel_rfl) ?_
    change wpAnyH _ _ _ _ _ _ _ _ (World.drew w9)
    refine wpAnyH_take (i := 0) (oi := ⟨some 251, _, _, _, _, _⟩) (v := ?_) rfl (by kernel_rfl) (by kernel_rfl) (by kernel_rfl) (fun _ _ _ h => HQP.out _ _ _ _ _ h) (Or.inl ⟨by rfl, ?_⟩) KX.out ?_; rotate_left; · intro w hSw; (try dsimp only at hSw); go_simp; try with_reducible rfl
    try simp only [Act.put, sx1, sx2, sx3]
    refine wpAnyH_take (i := 1) (oi := ⟨some 252, _, _, _, _, _⟩) (v := ?_) rfl (by kernel_rfl) (by kernel_rfl) (by kernel_rfl) (fun _ _ _ h => HQP.out _ _ _ _ _ h) (Or.inl ⟨by rfl, ?_⟩) KX.out ?_; rotate_left; · intro w hSw; (try dsimp only at hSw); go_simp; try with_reducible rfl
    try simp only [Act.put, sx1, sx2, sx3]
    refine wpAnyH_take (i := 2) (oi := ⟨some 253, _, _, _, _, _⟩) (v := ?_) rfl (by kernel_rfl) (by kernel_rfl) (by kernel_rfl) (fun _ _ _ h => HQP.out _ _ _ _ _ h) (Or.inl ⟨by rfl, ?_⟩) KX.out ?_; rotate_left; · intro w hSw; (try dsimp only at hSw); go_simp; try with_reducible rfl
    try simp only [Act.put, sx1, sx2, sx3]
    refine wpAnyH_take (i := 3) (oi := ⟨some 254, _, _, _, _, _⟩) (v := ?_) rfl (by kernel_rfl) (by kernel_rfl) (by kernel_rfl) (fun _ _ _ h => HQP.out _ _ _ _ _ h) (Or.inl ⟨by rfl, ?_⟩) KX.out ?_; rotate_left; · intro w hSw; (try dsimp only at hSw); go_simp; try with_reducible rfl
    try simp only [Act.put, sx1, sx2, sx3]
    refine wpAnyH_take (i := 4) (oi := ⟨some 255, _, _, _, _, _⟩) (v := ?_) rfl (by kernel_rfl) (by kernel_rfl) (by kernel_rfl) (fun _ _ _ h => HQP.out _ _ _ _ _ h) (Or.inl ⟨by rfl, ?_⟩) KX.out ?_; rotate_left; · intro w hSw; (try dsimp only at hSw); go_simp; try with_reducible rfl
    try simp only [Act.put, sx1, sx2, sx3]
    refine wpAnyH_take (i := 6) (oi := ⟨some 257, _, _, _, _, _⟩) (v := ?_) rfl (by kernel_rfl) (by kernel_rfl) (by kernel_rfl) (fun _ _ _ h => HQP.out _ _ _ _ _ h) (Or.inl ⟨by rfl, ?_⟩) KX.out ?_; rotate_left; · intro w hSw; (try dsimp only at hSw); go_simp; try with_reducible rfl
    try simp only [Act.put, sx1, sx2, sx3]
    refine wpAnyH_take (i := 7) (oi := ⟨some 258, _, _, _, _, _⟩) (v := ?_) rfl (by kernel_rfl) (by kernel_rfl) (by kernel_rfl) (fun _ _ _ h => HQP.out _ _ _ _ _ h) (Or.inl ⟨by rfl, ?_⟩) KX.out ?_; rotate_left; · intro w hSw; (try dsimp only at hSw); go_simp; try with_reducible rfl
    try simp only [Act.put, sx1, sx2, sx3]
    refine wpAnyH_ready (rs := [5]) (by kernel_rfl) (by simp) ?_
    refine AllReadyH.cons rfl (fun K hK => ?_) ?_
    rotate_left
    · exact AllReadyH.nil
    go_simp
    go_at_call 88
    refine (CE.out _ HBC.out).mono ?_
    rintro e wl ⟨v1, v2, rfl, ho1, ho2, hap, hbl⟩
    have HO1 := Lib.hid ho1
    have HO2 := Lib.hid ho2
    have HAP := Lib.hid hap
    have HMC := Lib.hid (show Value.oneCell' (.slice mo4 nm mc4) = true from rfl)
    have HBL := Lib.hid (HBC.out.trans (hbl.mono HBC.out.size))
    have HON := Lib.hid (And.intro (slice_one ho1.slice) (slice_one ho2.slice))
    have KX := Lib.hid (KF.out _ (boxOn FGT.out.1 HBL.out) (boxOn HR9.out.box HBL.out) (boxOn FG7.out.1 HBL.out))
    have FGL := Lib.hid (boxOn FGR.out.1 HBL.out)
    clear ho1 ho2 hap hbl
    try dsimp only
    go_wp2_with fail
    refine hK.out _ _ KX.out (fun hHeld => ?_)
    clear hK K hHeld
    try simp only [Act.put, sx1, sx2, sx3]
    refine wpAnyH_ready (rs := [8]) (by kernel_rfl) (by simp) ?_
    refine AllReadyH.cons rfl (fun K hK => ?_) ?_
    rotate_left
    · exact AllReadyH.nil
    refine step_st_state (by rfl) _ _ rfl gr _ rfl rfl _ FGL.out rfl rfl (all_one HON.out.1 HON.out.2 HMC.out) ?_
    intro we he te
    have HWE := Lib.hid he
    have HTE := Lib.hid te
    have KX := Lib.hid (KF.out _ (te.whole (boxOn FGT.out.1 HBL.out) (fun hm => NGR.out.1 (List.mem_singleton.1 hm))) (te.whole (boxOn HR9.out.box HBL.out) (fun hm => NGR.out.2 (List.mem_singleton.1 hm))) (te.whole (boxOn FG7.out.1 HBL.out) (fun hm => NG.out.2 (List.mem_singleton.1 hm).symm)))
    clear he te
    refine hK.out _ _ KX.out (fun hHeld => ?_)
    clear hK K hHeld
    try simp only [Act.put, sx1, sx2, sx3]
    refine wpAnyH_take (i := 9) (oi := ⟨some 7, _, _, _, _, _⟩) (v := ?_) rfl (by kernel_rfl) (by kernel_rfl) (by kernel_rfl) (fun _ _ _ h => HQP.out _ _ _ _ _ h) (Or.inl ⟨by rfl, ?_⟩) KX.out ?_; rotate_left; · intro w hSw; (try dsimp only at hSw); go_simp; try with_reducible rfl
    try simp only [Act.put, sx1, sx2, sx3]
    refine wpAnyH_take (i := 10) (oi := ⟨some 8, _, _, _, _, _⟩) (v := ?_) rfl (by kernel_rfl) (by kernel_rfl) (by kernel_rfl) (fun _ _ _ h => HQP.out _ _ _ _ _ h) (Or.inl ⟨by rfl, ?_⟩) KX.out ?_; rotate_left; · intro w hSw; (try dsimp only at hSw); go_simp; try with_reducible rfl
    try simp only [Act.put, sx1, sx2, sx3]
    refine wpAnyH_done (by kernel_rfl) ?_ _
    go_wp2_with fail
    refine HRX.out _ _ _ rfl (results_cell_tmps rfl _ _ gr _ _ _ _ rfl HWE.out Tryz.underlying50 rfl state_size) ?_
    rw [HFIN.out]
    exact rdone HR9.out FGR.out HGRW.out HO1.out HO2.out HAP.out HBL.out HTE.out

set_option maxHeartbeats 8000000 in
set_option maxRecDepth 1000000 in
theorem rwaya {W w : World} {t : T} {s s' : M} {wat V' : List Int} {k ni n1 n2 nm nw gt gs gr gv g7 ci co cc sc bc mc4 cw : Nat} {ad : Addr} {ao ac so bo mo4 aw : Option Addr} {a b c ex : Int} {res : X} {Q : Exit → Act → World → Prop} (h : AtI W w t s s' wat V' k ni n1 n2 nm nw gt gs gr gv g7 ci co cc sc bc mc4 cw ad ao ac so bo mo4 aw 10 a b c ex res) : WayI Q W w t s s' wat V' k ni n1 n2 nm nw gt gs gr gv g7 ci co cc sc bc mc4 cw ad ao ac so bo mo4 aw 10 a b c ex res := by
  have HR8 := Lib.hid h.hrun
  have HRR := Lib.hid h.hrr
  have HRS := Lib.hid h.hrs
  have HRB := Lib.hid h.hrb
  have HRW := Lib.hid h.hrw
  have HNI := Lib.hid h.hni
  have HN12 := Lib.hid h.hn12
  have HNW := Lib.hid h.hnw
  have z1 := h.z1
  have z2 := h.z2
  have z3 := h.z3
  have HZ4 := Lib.hid h.z4
  have z5 := h.z5
  have z6 := h.z6
  have z7 := h.z7
  have z8 := h.z8
  have HXK := Lib.hid h.hix
  have HCX := Lib.hid h.hcx
  have HQ := Lib.hid h.hq
  have HJ := Lib.hid h.hj
  have HRES := Lib.hid h.hres
  have HEX := Lib.hid h.hex
  have HMY := Lib.hid h.hmy
  have HRP := Lib.hid h.hrp
  have HMP := Lib.hid h.hmp
  have hlt := h.hlt
  have NG := Lib.hid h.ng
  have NG2 := Lib.hid h.ng2
  have NGR := Lib.hid h.ngr
  have HGRW := Lib.hid h.hgrw
  have HVK := Lib.hid h.hq.2.2.1
  have HOK := Lib.hid (ins_parts (h.hrp.ins k _ h.hix))
  have k0 : (0 : Int) ≤ (k : Int) := Int.natCast_nonneg k
  have k1 : (k : Int) < (ni : Int) := Int.ofNat_lt.2 hlt
  have hg7 := (h.hrun.fr g7 _ (if_pos rfl)).1
  have m0 : w.cell? ⟨g7, 0, none⟩ = some (.int .i64 10) := whole_cell hg7 rfl
  have m1 : w.cell? ⟨g7, 1, none⟩ = some (.int .i64 a) := whole_cell hg7 rfl
  have m2 : w.cell? ⟨g7, 2, none⟩ = some (.int .i64 b) := whole_cell hg7 rfl
  have m3 : w.cell? ⟨g7, 3, none⟩ = some (.int .i64 c) := whole_cell hg7 rfl
  have m4 : w.cell? ⟨g7, 4, none⟩ = some (.int .i64 ex) := whole_cell hg7 rfl
  have CU := Lib.hid (fun wc => Ir.ruses_any (10, a, b, c, ex) wc)
  have hop : True := trivial
  clear h hg7
  intro c0 c1 c5 c7 c8 c12 c13 c14 c15 c16 c17 c18 c19 c20 c21 c22 c23 c24 c25 c26 c27 c28 c29 c30 c31 c32 c33 c34 c35 c36 c37 c38 c39 c40 c41 c42 c43 c44 c45 c46 c47 c48 c49 c50 c51 c52 c53 c54 c55 c56 c57 c58 c59 c60 c61 c62 c63 c64 c65 c66 c67 c68 c69 c70 c71 c72 c73 c74 c75 c76 c77 c78 c79 c80 c81 c82 c83 c84 c85 c86 c87 c88 c89 c90 c91 c92 c93 c94 c95 c96 c97 c98 c99 c100 c101 c102 c103 c104 c105 c106 c107 c108 c109 c110 c111 c112 c113 c114 c115 c116 c117 c118 c119 c120 c121 c122 c123 c124 c125 c126 c127 c128 c129 c130 c131 c132 c133 c134 c135 c136 c137 c138 c139 c140 c141 c142 c143 c144 c145 c146 c147 c148 c149 c150 c151 c152 c153 c154 c155 c156 c157 c158 c159 c160 c161 c162 c163 c164 c165 c166 c167 c168 c169 c170 c171 c172 c173 c174 c175 c176 c177 c178 c179 c180 c181 c182 c183 c184 c185 c186 c187 c188 c189 c190 c191 c192 c193 c194 c195 c196 c197 c198 c199 c200 c201 c202 c203 c204 c205 c206 c207 c208 c209 c210 c211 c212 c213 c214 c215 c216 c217 c218 c219 c220 c221 c222 c223 c224 c225 c226 c227 c228 c229 c230 c231 c232 c233 c234 c235 c236 c237 c238 c239 c240 c241 c242 c243 c244 c245 c246 c247 c248 c249 c250 c251 c252 c253 c254 c255 c256 c257 c258 c259 c260 c261 c262 c263 c264 c265 c266 hQ hR hP
  have HQP := Lib.hid hP
  clear hP
  have HQX := Lib.hid hQ
  have HRX := Lib.hid hR
  clear hQ hR
  conv => arg 2; whnf
  go_wp2_with fail
  refine (CU.out _).mono ?_
  rintro e w9 ⟨vu, rfl, hu, hb9⟩
  have HU9 : Ir.usesL (10, a, b, c, ex) = [b] := rfl
  rw [HU9] at hu
  have HUS := HOK.out.uses
  rw [HU9] at HUS
  have HR9 := Lib.hid (HR8.out.below hb9)
  obtain ⟨gu, cu, eu, hcu, -, -⟩ := hu.row (by show 0 < 1; decide)
  rw [show (vals [b]).length = 1 from rfl] at eu
  subst eu
  obtain ⟨hb0, hb1⟩ := HUS b (by simp)
  obtain ⟨kb, hkb⟩ : ∃ kb : Nat, b = kb := ⟨b.toNat, by omega⟩
  have hkb1 : kb < k := by omega
  clear hb0 hb1
  subst hkb
  have u0 : w9.cell? ⟨gu, 0, none⟩ = some (.int .i64 (kb : Int)) := hcu 0 _ rfl
  have q0 := HR9.out.told (p := kb) (by rw [HVK.out]; exact hkb1) (by rw [HVK.out]; exact Nat.le_of_lt hlt)
  obtain ⟨xb, hxb⟩ : ∃ v, val V' (kb : Int) = v := ⟨_, rfl⟩
  rw [hxb] at q0
  have HXB := Lib.hid hxb
  have ixb : Cell.In xb := by rw [← hxb]; exact getL_in HQ.out.2.2.2 _
  have HIB := Lib.hid ixb
  have kb0 : (0 : Int) ≤ (kb : Int) := Int.natCast_nonneg kb
  have kb1 : (kb : Int) < (ni : Int) := Int.ofNat_lt.2 (Nat.lt_trans hkb1 hlt)
  clear hcu hkb1 hxb ixb
  have HG9 := (HR9.out.fr g7 _ (if_pos rfl)).1
  have p0 : w9.cell? ⟨g7, 0, none⟩ = some (.int .i64 10) := whole_cell HG9 rfl
  have p1 : w9.cell? ⟨g7, 1, none⟩ = some (.int .i64 a) := whole_cell HG9 rfl
  have vcc := Mem.owns_at HR9.out.vl (j := k) (by rw [padV_length (by rw [HVK.out]; exact Nat.le_of_lt hlt)]; exact hlt)
  obtain ⟨old, hold⟩ : ∃ x, (padV V' ni)[k]'(by rw [padV_length (by rw [HVK.out]; exact Nat.le_of_lt hlt)]; exact hlt) = x := ⟨_, rfl⟩
  rw [hold] at vcc
  obtain ⟨v0, v1⟩ := vcc
  have b2 : w9.cell? ⟨gs, 2, none⟩ = some (.slice so n1 sc) := whole_cell HR9.out.box rfl
  have b3 : w9.cell? ⟨gs, 3, none⟩ = some (.slice bo n2 bc) := whole_cell HR9.out.box rfl
  have b4 : w9.cell? ⟨gs, 4, none⟩ = some (.slice mo4 nm mc4) := whole_cell HR9.out.box rfl
  clear hold HG9 hu hb9 HU9 HUS
  try dsimp only
  have b5 : w9.cell? ⟨gs, 5, none⟩ = some (.string s'.out) := whole_cell HR9.out.box rfl
  have hou : s'.out.size ≤ 2000 := HQ.out.1.out HZ4.out
  clear hop
  have hgo : doI wat s' V' (10, a, (kb : Int), c, ex) = sayI s' ⟨#[UInt8.ofNat (xb % 256).toNat]⟩ := by
    show sayI s' (byteT (val V' (kb : Int))) = _
    rw [HXB.out]
    rfl
  have ha := rand255 xb
  have hmm : xb % 256 % 256 = xb % 256 := by omega
  obtain ⟨wa, gl, hwa, hgl, hcv, HBA⟩ := rbyteBox w9 (xb % 256)
  have HRA := Lib.hid (HR9.out.below HBA.out)
  obtain ⟨tx, htx⟩ : ∃ tx : ByteArray, (⟨#[UInt8.ofNat (xb % 256).toNat]⟩ : ByteArray) = tx := ⟨_, rfl⟩
  have htn : tx.size = 1 := by rw [← htx]; rfl
  rw [htx] at hcv hgo
  have p0a : wa.cell? ⟨g7, 0, none⟩ = some (.int .i64 10) := whole_cell ((HRA.out.fr g7 _ (if_pos rfl)).1) rfl
  have b5a : wa.cell? ⟨gs, 5, none⟩ = some (.string s'.out) := whole_cell HRA.out.box rfl
  have f5 : wa.frozen? ⟨gs, 5, none⟩ = false := whole_frozen HRA.out.box 5
  obtain ⟨no, hno⟩ : ∃ n, s'.out.size = n := ⟨_, rfl⟩
  rw [hno] at hou
  unfold sayI at hgo
  rw [htn] at hgo
  rw [hno] at hgo
  by_cases hro : no + 1 ≤ 2000
  · rw [if_pos hro] at hgo
    have hd := Lib.hid hgo
    have HRN2 := Lib.hid (HRA.out.next (by rw [HVK.out]; exact hlt))
    have HRX := Lib.hid (HRN2.out.field (s' := { s' with out := s'.out ++ tx }) 5 (.string (s'.out ++ tx)) rfl rfl)
    have e1 : decide (2000 < (no : Int) + 1) = false := decide_eq_false (by omega)
    clear hgo hro
    go_wp2_with fail
    exact HQX.out _ _ _ _ _ _ _ _ _ _ _ _ _ _ _ _ _ _ _ _ _ _ _ _ _ _ _ _ _ _ _ _ _ _ _ _ _ _ _ _ _ _ _ _ _ _ _ _ _ _ _ _ _ _ _ _ _ _ _ _ _ _ _ _ _ _ _ _ _ _ _ _ _ _ _ _ _ _ _ _ _ _ _ _ _ _ _ _ _ _ _ _ _ _ _ _ _ _ _ _ _ _ _ _ _ _ _ _ _ _ _ _ _ _ _ _ _ _ _ _ _ _ _ _ _ _ _ _ _ _ _ _ _ _ _ _ _ _ _ _ _ _ _ _ _ _ _ _ _ _ _ _ _ _ _ _ _ _ _ _ _ _ _ _ _ _ _ _ _ _ _ _ _ _ _ _ _ _ _ _ _ _ _ _ _ _ _ _ _ _ _ _ _ _ _ _ _ _ _ _ _ _ _ _ _ _ _ _ _ _ _ _ _ _ _ _ _ _ _ _ _ _ _ _ hd.out HRX.out
  · rw [if_neg hro] at hgo
    have hd := Lib.hid hgo
    have e1 : decide (2000 < (no : Int) + 1) = true := decide_eq_true (by omega)
    clear hgo hro
    go_upto_region 59 with fail
    clear v0 v1 u0 q0 p0 p1 b2 b3 b4 b5 b5a f5 p0a
    have KIN := Lib.hid (HQ.out.1)
    have PRE := Lib.hid (show ∀ p : Int, 0 ≤ p → p < (V'.length : Int) → val (padV (V') ni) p = val V' p from fun p h0 h1 => val_padV (by rw [HVK.out]; exact Nat.le_of_lt hlt) h0 h1)
    have LNA := Lib.hid (show (padV (V') ni).length = ni from padV_length (by rw [HVK.out]; exact Nat.le_of_lt hlt))
    have VLN := Lib.hid (show V'.length ≤ (padV (V') ni).length from by rw [LNA.out, HVK.out]; exact Nat.le_of_lt hlt)
    have NI1 := Lib.hid (show (padV (V') ni).length ≤ 10000 from by rw [LNA.out]; exact z7)
    have HXR := Lib.hid (goI_off HXK.out hd.out HJ.out)
    obtain ⟨xo, hx1, hx2, hx3, hx4⟩ := HEX.out
    rw [← HXR.out] at hx1 hx2
    dsimp only at hx1 hx2
    have HFIN := Lib.hid (runT_is (o := xo) HMY.out HRES.out (by rw [← HXR.out]; exact hx1))
    rw [← HXR.out] at HFIN
    dsimp only at HFIN
    have FGT := Lib.hid (HRA.out.fr gt _ ((if_neg NG.out.1).trans (if_pos rfl)))
    have FGR := Lib.hid (HRA.out.fr gr _ ((if_neg NG.out.2).trans ((if_neg NG2.out).trans (if_pos rfl))))
    have FG7 := Lib.hid (HRA.out.fr g7 _ (if_pos rfl))
    have KF := Lib.hid (fun (w' : World) (ha' : w'.heap[gt]? = some (.cells (trA t (.slice (some ad) ni ci) (.slice ao t.outs.length co) (.slice ac t.cells.length cc)) 26 (0, 0))) (hb' : w'.heap[gs]? = some (.cells (cells10 s'.ip s'.handler (.slice so n1 sc) (.slice bo n2 bc) (.slice mo4 nm mc4) s'.out s'.inp s'.read s'.status s'.code) 50 (0, 0))) (hc' : w'.heap[g7]? = some (.cells (insA (10, a, (kb : Int), c, ex)) 42 (0, 0))) => show w'.cell? ⟨gt, 0, none⟩ = some (.int .i64 t.start) ∧ w'.cell? ⟨gt, 1, none⟩ = some (.int .i64 t.slots) ∧ w'.cell? ⟨gt, 2, none⟩ = some (.int .i64 t.backs) ∧ w'.cell? ⟨gt, 3, none⟩ = some (.int .i64 t.grow) ∧ w'.cell? ⟨gt, 4, none⟩ = some (.int .i64 t.growBack) ∧ w'.cell? ⟨gt, 5, none⟩ = some (.slice (some ad) ni ci) ∧ w'.cell? ⟨gt, 6, none⟩ = some (.slice ao t.outs.length co) ∧ w'.cell? ⟨gt, 7, none⟩ = some (.int .i64 t.last) ∧ w'.cell? ⟨gt, 8, none⟩ = some (.slice ac t.cells.length cc) ∧ w'.cell? ⟨gs, 0, none⟩ = some (.int .i64 s'.ip) ∧ w'.cell? ⟨gs, 1, none⟩ = some (.int .i64 s'.handler) ∧ w'.cell? ⟨gs, 2, none⟩ = some (.slice so n1 sc) ∧ w'.cell? ⟨gs, 3, none⟩ = some (.slice bo n2 bc) ∧ w'.cell? ⟨gs, 4, none⟩ = some (.slice mo4 nm mc4) ∧ w'.cell? ⟨gs, 5, none⟩ = some (.string s'.out) ∧ w'.cell? ⟨gs, 6, none⟩ = some (.string s'.inp) ∧ w'.cell? ⟨gs, 7, none⟩ = some (.int .i64 s'.read) ∧ w'.cell? ⟨gs, 8, none⟩ = some (.int .i64 s'.status) ∧ w'.cell? ⟨gs, 9, none⟩ = some (.int .i64 s'.code) ∧ w'.cell? ⟨g7, 4, none⟩ = some (.int .i64 ex) from ⟨whole_cell ha' rfl, whole_cell ha' rfl, whole_cell ha' rfl, whole_cell ha' rfl, whole_cell ha' rfl, whole_cell ha' rfl, whole_cell ha' rfl, whole_cell ha' rfl, whole_cell ha' rfl, whole_cell hb' rfl, whole_cell hb' rfl, whole_cell hb' rfl, whole_cell hb' rfl, whole_cell hb' rfl, whole_cell hb' rfl, whole_cell hb' rfl, whole_cell hb' rfl, whole_cell hb' rfl, whole_cell hb' rfl, whole_cell hc' rfl⟩)
    have CE := Lib.hid (fun wc (hb : Below wa.heap.size wa wc) => rexit HRR.out HRS.out HRB.out (HRA.out.below hb) KIN.out hx1 hx2 PRE.out VLN.out NI1.out HN12.out.1 HN12.out.2 z1 z2 (Nat.le_trans hx3 (by decide)) (Nat.le_trans hx4 (by decide)) HRP.out.slots.1 HMP.out.1 HRP.out.backs.1 HMP.out.2)
    have HXX := Lib.hid (And.intro hx1 hx2)
    clear hx1 hx2 hx3 hx4
    have HBC : Hid (Below wa.heap.size wa wa.drew) := Lib.hid (Below.refl _ _).drew
    have KX := Lib.hid (KF.out _ (boxOn FGT.out.1 HBC.out) (boxOn HRA.out.box HBC.out) (boxOn FG7.out.1 HBC.out))
    refine wp_region_held (S := fun w' => w'.cell? ⟨gt, 0, none⟩ = some (.int .i64 t.start) ∧ w'.cell? ⟨gt, 1, none⟩ = some (.int .i64 t.slots) ∧ w'.cell? ⟨gt, 2, none⟩ = some (.int .i64 t.backs) ∧ w'.cell? ⟨gt, 3, none⟩ = some (.int .i64 t.grow) ∧ w'.cell? ⟨gt, 4, none⟩ = some (.int .i64 t.growBack) ∧ w'.cell? ⟨gt, 5, none⟩ = some (.slice (some ad) ni ci) ∧ w'.cell? ⟨gt, 6, none⟩ = some (.slice ao t.outs.length co) ∧ w'.cell? ⟨gt, 7, none⟩ = some (.int .i64 t.last) ∧ w'.cell? ⟨gt, 8, none⟩ = some (.slice ac t.cells.length cc) ∧ w'.cell? ⟨gs, 0, none⟩ = some (.int .i64 s'.ip) ∧ w'.cell? ⟨gs, 1, none⟩ = some (.int .i64 s'.handler) ∧ w'.cell? ⟨gs, 2, none⟩ = some (.slice so n1 sc) ∧ w'.cell? ⟨gs, 3, none⟩ = some (.slice bo n2 bc) ∧ w'.cell? ⟨gs, 4, none⟩ = some (.slice mo4 nm mc4) ∧ w'.cell? ⟨gs, 5, none⟩ = some (.string s'.out) ∧ w'.cell? ⟨gs, 6, none⟩ = some (.string s'.inp) ∧ w'.cell? ⟨gs, 7, none⟩ = some (.int .i64 s'.read) ∧ w'.cell? ⟨gs, 8, none⟩ = some (.int .i64 s'.status) ∧ w'.cell? ⟨gs, 9, none⟩ = some (.int .i64 s'.code) ∧ w'.cell? ⟨g7, 4, none⟩ = some (.int .i64 ex)) (by kernel_rfl) ?_
    change wpAnyH _ _ _ _ _ _ _ _ (World.drew wa)
    refine wpAnyH_take (i := 0) (oi := ⟨some 251, _, _, _, _, _⟩) (v := ?_) rfl (by kernel_rfl) (by kernel_rfl) (by kernel_rfl) (fun _ _ _ h => HQP.out _ _ _ _ _ h) (Or.inl ⟨by rfl, ?_⟩) KX.out ?_; rotate_left; · intro w hSw; (try dsimp only at hSw); go_simp; try with_reducible rfl
    try simp only [Act.put, sx1, sx2, sx3]
    refine wpAnyH_take (i := 1) (oi := ⟨some 252, _, _, _, _, _⟩) (v := ?_) rfl (by kernel_rfl) (by kernel_rfl) (by kernel_rfl) (fun _ _ _ h => HQP.out _ _ _ _ _ h) (Or.inl ⟨by rfl, ?_⟩) KX.out ?_; rotate_left; · intro w hSw; (try dsimp only at hSw); go_simp; try with_reducible rfl
    try simp only [Act.put, sx1, sx2, sx3]
    refine wpAnyH_take (i := 2) (oi := ⟨some 253, _, _, _, _, _⟩) (v := ?_) rfl (by kernel_rfl) (by kernel_rfl) (by kernel_rfl) (fun _ _ _ h => HQP.out _ _ _ _ _ h) (Or.inl ⟨by rfl, ?_⟩) KX.out ?_; rotate_left; · intro w hSw; (try dsimp only at hSw); go_simp; try with_reducible rfl
    try simp only [Act.put, sx1, sx2, sx3]
    refine wpAnyH_take (i := 3) (oi := ⟨some 254, _, _, _, _, _⟩) (v := ?_) rfl (by kernel_rfl) (by kernel_rfl) (by kernel_rfl) (fun _ _ _ h => HQP.out _ _ _ _ _ h) (Or.inl ⟨by rfl, ?_⟩) KX.out ?_; rotate_left; · intro w hSw; (try dsimp only at hSw); go_simp; try with_reducible rfl
    try simp only [Act.put, sx1, sx2, sx3]
    refine wpAnyH_take (i := 4) (oi := ⟨some 255, _, _, _, _, _⟩) (v := ?_) rfl (by kernel_rfl) (by kernel_rfl) (by kernel_rfl) (fun _ _ _ h => HQP.out _ _ _ _ _ h) (Or.inl ⟨by rfl, ?_⟩) KX.out ?_; rotate_left; · intro w hSw; (try dsimp only at hSw); go_simp; try with_reducible rfl
    try simp only [Act.put, sx1, sx2, sx3]
    refine wpAnyH_take (i := 6) (oi := ⟨some 257, _, _, _, _, _⟩) (v := ?_) rfl (by kernel_rfl) (by kernel_rfl) (by kernel_rfl) (fun _ _ _ h => HQP.out _ _ _ _ _ h) (Or.inl ⟨by rfl, ?_⟩) KX.out ?_; rotate_left; · intro w hSw; (try dsimp only at hSw); go_simp; try with_reducible rfl
    try simp only [Act.put, sx1, sx2, sx3]
    refine wpAnyH_take (i := 7) (oi := ⟨some 258, _, _, _, _, _⟩) (v := ?_) rfl (by kernel_rfl) (by kernel_rfl) (by kernel_rfl) (fun _ _ _ h => HQP.out _ _ _ _ _ h) (Or.inl ⟨by rfl, ?_⟩) KX.out ?_; rotate_left; · intro w hSw; (try dsimp only at hSw); go_simp; try with_reducible rfl
    try simp only [Act.put, sx1, sx2, sx3]
    refine wpAnyH_ready (rs := [5]) (by kernel_rfl) (by simp) ?_
    refine AllReadyH.cons rfl (fun K hK => ?_) ?_
    rotate_left
    · exact AllReadyH.nil
    go_simp
    go_at_call 88
    refine (CE.out _ HBC.out).mono ?_
    rintro e wl ⟨v1, v2, rfl, ho1, ho2, hap, hbl⟩
    have HO1 := Lib.hid ho1
    have HO2 := Lib.hid ho2
    have HAP := Lib.hid hap
    have HMC := Lib.hid (show Value.oneCell' (.slice mo4 nm mc4) = true from rfl)
    have HBL := Lib.hid (HBC.out.trans (hbl.mono HBC.out.size))
    have HON := Lib.hid (And.intro (slice_one ho1.slice) (slice_one ho2.slice))
    have KX := Lib.hid (KF.out _ (boxOn FGT.out.1 HBL.out) (boxOn HRA.out.box HBL.out) (boxOn FG7.out.1 HBL.out))
    have FGL := Lib.hid (boxOn FGR.out.1 HBL.out)
    clear ho1 ho2 hap hbl
    try dsimp only
    go_wp2_with fail
    refine hK.out _ _ KX.out (fun hHeld => ?_)
    clear hK K hHeld
    try simp only [Act.put, sx1, sx2, sx3]
    refine wpAnyH_ready (rs := [8]) (by kernel_rfl) (by simp) ?_
    refine AllReadyH.cons rfl (fun K hK => ?_) ?_
    rotate_left
    · exact AllReadyH.nil
    refine step_st_state (by rfl) _ _ rfl gr _ rfl rfl _ FGL.out rfl rfl (all_one HON.out.1 HON.out.2 HMC.out) ?_
    intro we he te
    have HWE := Lib.hid he
    have HTE := Lib.hid te
    have KX := Lib.hid (KF.out _ (te.whole (boxOn FGT.out.1 HBL.out) (fun hm => NGR.out.1 (List.mem_singleton.1 hm))) (te.whole (boxOn HRA.out.box HBL.out) (fun hm => NGR.out.2 (List.mem_singleton.1 hm))) (te.whole (boxOn FG7.out.1 HBL.out) (fun hm => NG.out.2 (List.mem_singleton.1 hm).symm)))
    clear he te
    refine hK.out _ _ KX.out (fun hHeld => ?_)
    clear hK K hHeld
    try simp only [Act.put, sx1, sx2, sx3]
    refine wpAnyH_take (i := 9) (oi := ⟨some 7, _, _, _, _, _⟩) (v := ?_) rfl (by kernel_rfl) (by kernel_rfl) (by kernel_rfl) (fun _ _ _ h => HQP.out _ _ _ _ _ h) (Or.inl ⟨by rfl, ?_⟩) KX.out ?_; rotate_left; · intro w hSw; (try dsimp only at hSw); go_simp; try with_reducible rfl
    try simp only [Act.put, sx1, sx2, sx3]
    refine wpAnyH_take (i := 10) (oi := ⟨some 8, _, _, _, _, _⟩) (v := ?_) rfl (by kernel_rfl) (by kernel_rfl) (by kernel_rfl) (fun _ _ _ h => HQP.out _ _ _ _ _ h) (Or.inl ⟨by rfl, ?_⟩) KX.out ?_; rotate_left; · intro w hSw; (try dsimp only at hSw); go_simp; try with_reducible rfl
    try simp only [Act.put, sx1, sx2, sx3]
    refine wpAnyH_done (by kernel_rfl) ?_ _
    go_wp2_with fail
    refine HRX.out _ _ _ rfl (results_cell_tmps rfl _ _ gr _ _ _ _ rfl HWE.out Tryz.underlying50 rfl state_size) ?_
    rw [HFIN.out]
    exact rdone HRA.out FGR.out HGRW.out HO1.out HO2.out HAP.out HBL.out HTE.out

set_option maxHeartbeats 8000000 in
set_option maxRecDepth 1000000 in
theorem rwayb {W w : World} {t : T} {s s' : M} {wat V' : List Int} {k ni n1 n2 nm nw gt gs gr gv g7 ci co cc sc bc mc4 cw : Nat} {ad : Addr} {ao ac so bo mo4 aw : Option Addr} {a b c ex : Int} {res : X} {Q : Exit → Act → World → Prop} (h : AtI W w t s s' wat V' k ni n1 n2 nm nw gt gs gr gv g7 ci co cc sc bc mc4 cw ad ao ac so bo mo4 aw 11 a b c ex res) : WayI Q W w t s s' wat V' k ni n1 n2 nm nw gt gs gr gv g7 ci co cc sc bc mc4 cw ad ao ac so bo mo4 aw 11 a b c ex res := by
  have HR8 := Lib.hid h.hrun
  have HRR := Lib.hid h.hrr
  have HRS := Lib.hid h.hrs
  have HRB := Lib.hid h.hrb
  have HRW := Lib.hid h.hrw
  have HNI := Lib.hid h.hni
  have HN12 := Lib.hid h.hn12
  have HNW := Lib.hid h.hnw
  have z1 := h.z1
  have z2 := h.z2
  have z3 := h.z3
  have HZ4 := Lib.hid h.z4
  have z5 := h.z5
  have z6 := h.z6
  have z7 := h.z7
  have z8 := h.z8
  have HXK := Lib.hid h.hix
  have HCX := Lib.hid h.hcx
  have HQ := Lib.hid h.hq
  have HJ := Lib.hid h.hj
  have HRES := Lib.hid h.hres
  have HEX := Lib.hid h.hex
  have HMY := Lib.hid h.hmy
  have HRP := Lib.hid h.hrp
  have HMP := Lib.hid h.hmp
  have hlt := h.hlt
  have NG := Lib.hid h.ng
  have NG2 := Lib.hid h.ng2
  have NGR := Lib.hid h.ngr
  have HGRW := Lib.hid h.hgrw
  have HVK := Lib.hid h.hq.2.2.1
  have HOK := Lib.hid (ins_parts (h.hrp.ins k _ h.hix))
  have k0 : (0 : Int) ≤ (k : Int) := Int.natCast_nonneg k
  have k1 : (k : Int) < (ni : Int) := Int.ofNat_lt.2 hlt
  have hg7 := (h.hrun.fr g7 _ (if_pos rfl)).1
  have m0 : w.cell? ⟨g7, 0, none⟩ = some (.int .i64 11) := whole_cell hg7 rfl
  have m1 : w.cell? ⟨g7, 1, none⟩ = some (.int .i64 a) := whole_cell hg7 rfl
  have m2 : w.cell? ⟨g7, 2, none⟩ = some (.int .i64 b) := whole_cell hg7 rfl
  have m3 : w.cell? ⟨g7, 3, none⟩ = some (.int .i64 c) := whole_cell hg7 rfl
  have m4 : w.cell? ⟨g7, 4, none⟩ = some (.int .i64 ex) := whole_cell hg7 rfl
  have CU := Lib.hid (fun wc => Ir.ruses_any (11, a, b, c, ex) wc)
  have hop : True := trivial
  clear h hg7
  intro c0 c1 c5 c7 c8 c12 c13 c14 c15 c16 c17 c18 c19 c20 c21 c22 c23 c24 c25 c26 c27 c28 c29 c30 c31 c32 c33 c34 c35 c36 c37 c38 c39 c40 c41 c42 c43 c44 c45 c46 c47 c48 c49 c50 c51 c52 c53 c54 c55 c56 c57 c58 c59 c60 c61 c62 c63 c64 c65 c66 c67 c68 c69 c70 c71 c72 c73 c74 c75 c76 c77 c78 c79 c80 c81 c82 c83 c84 c85 c86 c87 c88 c89 c90 c91 c92 c93 c94 c95 c96 c97 c98 c99 c100 c101 c102 c103 c104 c105 c106 c107 c108 c109 c110 c111 c112 c113 c114 c115 c116 c117 c118 c119 c120 c121 c122 c123 c124 c125 c126 c127 c128 c129 c130 c131 c132 c133 c134 c135 c136 c137 c138 c139 c140 c141 c142 c143 c144 c145 c146 c147 c148 c149 c150 c151 c152 c153 c154 c155 c156 c157 c158 c159 c160 c161 c162 c163 c164 c165 c166 c167 c168 c169 c170 c171 c172 c173 c174 c175 c176 c177 c178 c179 c180 c181 c182 c183 c184 c185 c186 c187 c188 c189 c190 c191 c192 c193 c194 c195 c196 c197 c198 c199 c200 c201 c202 c203 c204 c205 c206 c207 c208 c209 c210 c211 c212 c213 c214 c215 c216 c217 c218 c219 c220 c221 c222 c223 c224 c225 c226 c227 c228 c229 c230 c231 c232 c233 c234 c235 c236 c237 c238 c239 c240 c241 c242 c243 c244 c245 c246 c247 c248 c249 c250 c251 c252 c253 c254 c255 c256 c257 c258 c259 c260 c261 c262 c263 c264 c265 c266 hQ hR hP
  have HQP := Lib.hid hP
  clear hP
  have HQX := Lib.hid hQ
  have HRX := Lib.hid hR
  clear hQ hR
  conv => arg 2; whnf
  go_wp2_with fail
  refine (CU.out _).mono ?_
  rintro e w9 ⟨vu, rfl, hu, hb9⟩
  have HU9 : Ir.usesL (11, a, b, c, ex) = [b] := rfl
  rw [HU9] at hu
  have HUS := HOK.out.uses
  rw [HU9] at HUS
  have HR9 := Lib.hid (HR8.out.below hb9)
  obtain ⟨gu, cu, eu, hcu, -, -⟩ := hu.row (by show 0 < 1; decide)
  rw [show (vals [b]).length = 1 from rfl] at eu
  subst eu
  obtain ⟨hb0, hb1⟩ := HUS b (by simp)
  obtain ⟨kb, hkb⟩ : ∃ kb : Nat, b = kb := ⟨b.toNat, by omega⟩
  have hkb1 : kb < k := by omega
  clear hb0 hb1
  subst hkb
  have u0 : w9.cell? ⟨gu, 0, none⟩ = some (.int .i64 (kb : Int)) := hcu 0 _ rfl
  have q0 := HR9.out.told (p := kb) (by rw [HVK.out]; exact hkb1) (by rw [HVK.out]; exact Nat.le_of_lt hlt)
  obtain ⟨xb, hxb⟩ : ∃ v, val V' (kb : Int) = v := ⟨_, rfl⟩
  rw [hxb] at q0
  have HXB := Lib.hid hxb
  have ixb : Cell.In xb := by rw [← hxb]; exact getL_in HQ.out.2.2.2 _
  have HIB := Lib.hid ixb
  have kb0 : (0 : Int) ≤ (kb : Int) := Int.natCast_nonneg kb
  have kb1 : (kb : Int) < (ni : Int) := Int.ofNat_lt.2 (Nat.lt_trans hkb1 hlt)
  clear hcu hkb1 hxb ixb
  have HG9 := (HR9.out.fr g7 _ (if_pos rfl)).1
  have p0 : w9.cell? ⟨g7, 0, none⟩ = some (.int .i64 11) := whole_cell HG9 rfl
  have p1 : w9.cell? ⟨g7, 1, none⟩ = some (.int .i64 a) := whole_cell HG9 rfl
  have vcc := Mem.owns_at HR9.out.vl (j := k) (by rw [padV_length (by rw [HVK.out]; exact Nat.le_of_lt hlt)]; exact hlt)
  obtain ⟨old, hold⟩ : ∃ x, (padV V' ni)[k]'(by rw [padV_length (by rw [HVK.out]; exact Nat.le_of_lt hlt)]; exact hlt) = x := ⟨_, rfl⟩
  rw [hold] at vcc
  obtain ⟨v0, v1⟩ := vcc
  have b2 : w9.cell? ⟨gs, 2, none⟩ = some (.slice so n1 sc) := whole_cell HR9.out.box rfl
  have b3 : w9.cell? ⟨gs, 3, none⟩ = some (.slice bo n2 bc) := whole_cell HR9.out.box rfl
  have b4 : w9.cell? ⟨gs, 4, none⟩ = some (.slice mo4 nm mc4) := whole_cell HR9.out.box rfl
  clear hold HG9 hu hb9 HU9 HUS
  try dsimp only
  have b5 : w9.cell? ⟨gs, 5, none⟩ = some (.string s'.out) := whole_cell HR9.out.box rfl
  have hou : s'.out.size ≤ 2000 := HQ.out.1.out HZ4.out
  clear hop
  have P10 := Lib.hid (fun wc => refPut_any xb 10 HIB.out.1 HIB.out.2 wc)
  rw [rputDot HIB.out] at P10
  have hlen := itoa_len HIB.out.1 HIB.out.2
  have hsz : (⟨(Lib.itoa xb).toArray⟩ : ByteArray).size = (Lib.itoa xb).length := by simp [ByteArray.size]
  have hgo : doI wat s' V' (11, a, (kb : Int), c, ex) = sayI s' (⟨(Lib.itoa xb).toArray⟩ ++ ⟨#[32]⟩) := by
    show sayI s' (tellT (val V' (kb : Int))) = _
    rw [HXB.out]
    rfl
  have ha := rand255 xb
  have hmm : xb % 256 % 256 = xb % 256 := by omega
  obtain ⟨wa, gl, hwa, hgl, hcv, HBA⟩ := rbyteBox w9 (xb % 256)
  have HRA := Lib.hid (HR9.out.below HBA.out)
  generalize Lib.itoa xb = tl at *
  obtain ⟨tb, htb⟩ : ∃ tb : ByteArray, (⟨tl.toArray⟩ : ByteArray) = tb := ⟨_, rfl⟩
  simp only [txt] at P10
  rw [htb] at P10 hsz hgo
  rw [← hsz] at hlen
  obtain ⟨nt, hnt⟩ : ∃ n, tb.size = n := ⟨_, rfl⟩
  rw [hnt] at hlen hsz
  have htn : (tb ++ ⟨#[32]⟩ : ByteArray).size = nt + 1 := by rw [ByteArray.size_append, hnt]; rfl
  have p0a : wa.cell? ⟨g7, 0, none⟩ = some (.int .i64 11) := whole_cell ((HRA.out.fr g7 _ (if_pos rfl)).1) rfl
  have b5a : wa.cell? ⟨gs, 5, none⟩ = some (.string s'.out) := whole_cell HRA.out.box rfl
  have f5 : wa.frozen? ⟨gs, 5, none⟩ = false := whole_frozen HRA.out.box 5
  obtain ⟨no, hno⟩ : ∃ n, s'.out.size = n := ⟨_, rfl⟩
  rw [hno] at hou
  unfold sayI at hgo
  rw [htn] at hgo
  rw [hno] at hgo
  by_cases hro : no + (nt + 1) ≤ 2000
  · rw [if_pos hro] at hgo
    have hd := Lib.hid hgo
    have HRN2 := Lib.hid (HRA.out.next (by rw [HVK.out]; exact hlt))
    have HRX := Lib.hid (HRN2.out.field (s' := { s' with out := s'.out ++ (tb ++ ⟨#[32]⟩) }) 5 (.string (s'.out ++ (tb ++ ⟨#[32]⟩))) rfl rfl)
    have e1 : decide (2000 < (no : Int) + ((nt : Int) + 1)) = false := decide_eq_false (by omega)
    clear hgo htn hsz hro
    go_wp2_with (go_at_call 12; refine (P10.out _).mono ?_; rintro e wz ⟨rfl, hwz⟩; subst hwz; try dsimp only)
    exact HQX.out _ _ _ _ _ _ _ _ _ _ _ _ _ _ _ _ _ _ _ _ _ _ _ _ _ _ _ _ _ _ _ _ _ _ _ _ _ _ _ _ _ _ _ _ _ _ _ _ _ _ _ _ _ _ _ _ _ _ _ _ _ _ _ _ _ _ _ _ _ _ _ _ _ _ _ _ _ _ _ _ _ _ _ _ _ _ _ _ _ _ _ _ _ _ _ _ _ _ _ _ _ _ _ _ _ _ _ _ _ _ _ _ _ _ _ _ _ _ _ _ _ _ _ _ _ _ _ _ _ _ _ _ _ _ _ _ _ _ _ _ _ _ _ _ _ _ _ _ _ _ _ _ _ _ _ _ _ _ _ _ _ _ _ _ _ _ _ _ _ _ _ _ _ _ _ _ _ _ _ _ _ _ _ _ _ _ _ _ _ _ _ _ _ _ _ _ _ _ _ _ _ _ _ _ _ _ _ _ _ _ _ _ _ _ _ _ _ _ _ _ _ _ _ _ hd.out HRX.out
  · rw [if_neg hro] at hgo
    have hd := Lib.hid hgo
    have e1 : decide (2000 < (no : Int) + ((nt : Int) + 1)) = true := decide_eq_true (by omega)
    clear hgo htn hsz hro
    go_upto_region 59 with (go_at_call 12; refine (P10.out _).mono ?_; rintro e wz ⟨rfl, hwz⟩; subst hwz; try dsimp only)
    clear v0 v1 u0 q0 p0 p1 b2 b3 b4 b5 b5a f5 p0a
    have KIN := Lib.hid (HQ.out.1)
    have PRE := Lib.hid (show ∀ p : Int, 0 ≤ p → p < (V'.length : Int) → val (padV (V') ni) p = val V' p from fun p h0 h1 => val_padV (by rw [HVK.out]; exact Nat.le_of_lt hlt) h0 h1)
    have LNA := Lib.hid (show (padV (V') ni).length = ni from padV_length (by rw [HVK.out]; exact Nat.le_of_lt hlt))
    have VLN := Lib.hid (show V'.length ≤ (padV (V') ni).length from by rw [LNA.out, HVK.out]; exact Nat.le_of_lt hlt)
    have NI1 := Lib.hid (show (padV (V') ni).length ≤ 10000 from by rw [LNA.out]; exact z7)
    have HXR := Lib.hid (goI_off HXK.out hd.out HJ.out)
    obtain ⟨xo, hx1, hx2, hx3, hx4⟩ := HEX.out
    rw [← HXR.out] at hx1 hx2
    dsimp only at hx1 hx2
    have HFIN := Lib.hid (runT_is (o := xo) HMY.out HRES.out (by rw [← HXR.out]; exact hx1))
    rw [← HXR.out] at HFIN
    dsimp only at HFIN
    have FGT := Lib.hid (HRA.out.fr gt _ ((if_neg NG.out.1).trans (if_pos rfl)))
    have FGR := Lib.hid (HRA.out.fr gr _ ((if_neg NG.out.2).trans ((if_neg NG2.out).trans (if_pos rfl))))
    have FG7 := Lib.hid (HRA.out.fr g7 _ (if_pos rfl))
    have KF := Lib.hid (fun (w' : World) (ha' : w'.heap[gt]? = some (.cells (trA t (.slice (some ad) ni ci) (.slice ao t.outs.length co) (.slice ac t.cells.length cc)) 26 (0, 0))) (hb' : w'.heap[gs]? = some (.cells (cells10 s'.ip s'.handler (.slice so n1 sc) (.slice bo n2 bc) (.slice mo4 nm mc4) s'.out s'.inp s'.read s'.status s'.code) 50 (0, 0))) (hc' : w'.heap[g7]? = some (.cells (insA (11, a, (kb : Int), c, ex)) 42 (0, 0))) => show w'.cell? ⟨gt, 0, none⟩ = some (.int .i64 t.start) ∧ w'.cell? ⟨gt, 1, none⟩ = some (.int .i64 t.slots) ∧ w'.cell? ⟨gt, 2, none⟩ = some (.int .i64 t.backs) ∧ w'.cell? ⟨gt, 3, none⟩ = some (.int .i64 t.grow) ∧ w'.cell? ⟨gt, 4, none⟩ = some (.int .i64 t.growBack) ∧ w'.cell? ⟨gt, 5, none⟩ = some (.slice (some ad) ni ci) ∧ w'.cell? ⟨gt, 6, none⟩ = some (.slice ao t.outs.length co) ∧ w'.cell? ⟨gt, 7, none⟩ = some (.int .i64 t.last) ∧ w'.cell? ⟨gt, 8, none⟩ = some (.slice ac t.cells.length cc) ∧ w'.cell? ⟨gs, 0, none⟩ = some (.int .i64 s'.ip) ∧ w'.cell? ⟨gs, 1, none⟩ = some (.int .i64 s'.handler) ∧ w'.cell? ⟨gs, 2, none⟩ = some (.slice so n1 sc) ∧ w'.cell? ⟨gs, 3, none⟩ = some (.slice bo n2 bc) ∧ w'.cell? ⟨gs, 4, none⟩ = some (.slice mo4 nm mc4) ∧ w'.cell? ⟨gs, 5, none⟩ = some (.string s'.out) ∧ w'.cell? ⟨gs, 6, none⟩ = some (.string s'.inp) ∧ w'.cell? ⟨gs, 7, none⟩ = some (.int .i64 s'.read) ∧ w'.cell? ⟨gs, 8, none⟩ = some (.int .i64 s'.status) ∧ w'.cell? ⟨gs, 9, none⟩ = some (.int .i64 s'.code) ∧ w'.cell? ⟨g7, 4, none⟩ = some (.int .i64 ex) from ⟨whole_cell ha' rfl, whole_cell ha' rfl, whole_cell ha' rfl, whole_cell ha' rfl, whole_cell ha' rfl, whole_cell ha' rfl, whole_cell ha' rfl, whole_cell ha' rfl, whole_cell ha' rfl, whole_cell hb' rfl, whole_cell hb' rfl, whole_cell hb' rfl, whole_cell hb' rfl, whole_cell hb' rfl, whole_cell hb' rfl, whole_cell hb' rfl, whole_cell hb' rfl, whole_cell hb' rfl, whole_cell hb' rfl, whole_cell hc' rfl⟩)
    have CE := Lib.hid (fun wc (hb : Below wa.heap.size wa wc) => rexit HRR.out HRS.out HRB.out (HRA.out.below hb) KIN.out hx1 hx2 PRE.out VLN.out NI1.out HN12.out.1 HN12.out.2 z1 z2 (Nat.le_trans hx3 (by decide)) (Nat.le_trans hx4 (by decide)) HRP.out.slots.1 HMP.out.1 HRP.out.backs.1 HMP.out.2)
    have HXX := Lib.hid (And.intro hx1 hx2)
    clear hx1 hx2 hx3 hx4
    have HBC : Hid (Below wa.heap.size wa wa.drew) := Lib.hid (Below.refl _ _).drew
    have KX := Lib.hid (KF.out _ (boxOn FGT.out.1 HBC.out) (boxOn HRA.out.box HBC.out) (boxOn FG7.out.1 HBC.out))
    refine wp_region_held (S := fun w' => w'.cell? ⟨gt, 0, none⟩ = some (.int .i64 t.start) ∧ w'.cell? ⟨gt, 1, none⟩ = some (.int .i64 t.slots) ∧ w'.cell? ⟨gt, 2, none⟩ = some (.int .i64 t.backs) ∧ w'.cell? ⟨gt, 3, none⟩ = some (.int .i64 t.grow) ∧ w'.cell? ⟨gt, 4, none⟩ = some (.int .i64 t.growBack) ∧ w'.cell? ⟨gt, 5, none⟩ = some (.slice (some ad) ni ci) ∧ w'.cell? ⟨gt, 6, none⟩ = some (.slice ao t.outs.length co) ∧ w'.cell? ⟨gt, 7, none⟩ = some (.int .i64 t.last) ∧ w'.cell? ⟨gt, 8, none⟩ = some (.slice ac t.cells.length cc) ∧ w'.cell? ⟨gs, 0, none⟩ = some (.int .i64 s'.ip) ∧ w'.cell? ⟨gs, 1, none⟩ = some (.int .i64 s'.handler) ∧ w'.cell? ⟨gs, 2, none⟩ = some (.slice so n1 sc) ∧ w'.cell? ⟨gs, 3, none⟩ = some (.slice bo n2 bc) ∧ w'.cell? ⟨gs, 4, none⟩ = some (.slice mo4 nm mc4) ∧ w'.cell? ⟨gs, 5, none⟩ = some (.string s'.out) ∧ w'.cell? ⟨gs, 6, none⟩ = some (.string s'.inp) ∧ w'.cell? ⟨gs, 7, none⟩ = some (.int .i64 s'.read) ∧ w'.cell? ⟨gs, 8, none⟩ = some (.int .i64 s'.status) ∧ w'.cell? ⟨gs, 9, none⟩ = some (.int .i64 s'.code) ∧ w'.cell? ⟨g7, 4, none⟩ = some (.int .i64 ex)) (by kernel_rfl) ?_
    change wpAnyH _ _ _ _ _ _ _ _ (World.drew wa)
    refine wpAnyH_take (i := 0) (oi := ⟨some 251, _, _, _, _, _⟩) (v := ?_) rfl (by kernel_rfl) (by kernel_rfl) (by kernel_rfl) (fun _ _ _ h => HQP.out _ _ _ _ _ h) (Or.inl ⟨by rfl, ?_⟩) KX.out ?_; rotate_left; · intro w hSw; (try dsimp only at hSw); go_simp; try with_reducible rfl
    try simp only [Act.put, sx1, sx2, sx3]
    refine wpAnyH_take (i := 1) (oi := ⟨some 252, _, _, _, _, _⟩) (v := ?_) rfl (by kernel_rfl) (by kernel_rfl) (by kernel_rfl) (fun _ _ _ h => HQP.out _ _ _ _ _ h) (Or.inl ⟨by rfl, ?_⟩) KX.out ?_; rotate_left; · intro w hSw; (try dsimp only at hSw); go_simp; try with_reducible rfl
    try simp only [Act.put, sx1, sx2, sx3]
    refine wpAnyH_take (i := 2) (oi := ⟨some 253, _, _, _, _, _⟩) (v := ?_) rfl (by kernel_rfl) (by kernel_rfl) (by kernel_rfl) (fun _ _ _ h => HQP.out _ _ _ _ _ h) (Or.inl ⟨by rfl, ?_⟩) KX.out ?_; rotate_left; · intro w hSw; (try dsimp only at hSw); go_simp; try with_reducible rfl
    try simp only [Act.put, sx1, sx2, sx3]
    refine wpAnyH_take (i := 3) (oi := ⟨some 254, _, _, _, _, _⟩) (v := ?_) rfl (by kernel_rfl) (by kernel_rfl) (by kernel_rfl) (fun _ _ _ h => HQP.out _ _ _ _ _ h) (Or.inl ⟨by rfl, ?_⟩) KX.out ?_; rotate_left; · intro w hSw; (try dsimp only at hSw); go_simp; try with_reducible rfl
    try simp only [Act.put, sx1, sx2, sx3]
    refine wpAnyH_take (i := 4) (oi := ⟨some 255, _, _, _, _, _⟩) (v := ?_) rfl (by kernel_rfl) (by kernel_rfl) (by kernel_rfl) (fun _ _ _ h => HQP.out _ _ _ _ _ h) (Or.inl ⟨by rfl, ?_⟩) KX.out ?_; rotate_left; · intro w hSw; (try dsimp only at hSw); go_simp; try with_reducible rfl
    try simp only [Act.put, sx1, sx2, sx3]
    refine wpAnyH_take (i := 6) (oi := ⟨some 257, _, _, _, _, _⟩) (v := ?_) rfl (by kernel_rfl) (by kernel_rfl) (by kernel_rfl) (fun _ _ _ h => HQP.out _ _ _ _ _ h) (Or.inl ⟨by rfl, ?_⟩) KX.out ?_; rotate_left; · intro w hSw; (try dsimp only at hSw); go_simp; try with_reducible rfl
    try simp only [Act.put, sx1, sx2, sx3]
    refine wpAnyH_take (i := 7) (oi := ⟨some 258, _, _, _, _, _⟩) (v := ?_) rfl (by kernel_rfl) (by kernel_rfl) (by kernel_rfl) (fun _ _ _ h => HQP.out _ _ _ _ _ h) (Or.inl ⟨by rfl, ?_⟩) KX.out ?_; rotate_left; · intro w hSw; (try dsimp only at hSw); go_simp; try with_reducible rfl
    try simp only [Act.put, sx1, sx2, sx3]
    refine wpAnyH_ready (rs := [5]) (by kernel_rfl) (by simp) ?_
    refine AllReadyH.cons rfl (fun K hK => ?_) ?_
    rotate_left
    · exact AllReadyH.nil
    go_simp
    go_at_call 88
    refine (CE.out _ HBC.out).mono ?_
    rintro e wl ⟨v1, v2, rfl, ho1, ho2, hap, hbl⟩
    have HO1 := Lib.hid ho1
    have HO2 := Lib.hid ho2
    have HAP := Lib.hid hap
    have HMC := Lib.hid (show Value.oneCell' (.slice mo4 nm mc4) = true from rfl)
    have HBL := Lib.hid (HBC.out.trans (hbl.mono HBC.out.size))
    have HON := Lib.hid (And.intro (slice_one ho1.slice) (slice_one ho2.slice))
    have KX := Lib.hid (KF.out _ (boxOn FGT.out.1 HBL.out) (boxOn HRA.out.box HBL.out) (boxOn FG7.out.1 HBL.out))
    have FGL := Lib.hid (boxOn FGR.out.1 HBL.out)
    clear ho1 ho2 hap hbl
    try dsimp only
    go_wp2_with fail
    refine hK.out _ _ KX.out (fun hHeld => ?_)
    clear hK K hHeld
    try simp only [Act.put, sx1, sx2, sx3]
    refine wpAnyH_ready (rs := [8]) (by kernel_rfl) (by simp) ?_
    refine AllReadyH.cons rfl (fun K hK => ?_) ?_
    rotate_left
    · exact AllReadyH.nil
    refine step_st_state (by rfl) _ _ rfl gr _ rfl rfl _ FGL.out rfl rfl (all_one HON.out.1 HON.out.2 HMC.out) ?_
    intro we he te
    have HWE := Lib.hid he
    have HTE := Lib.hid te
    have KX := Lib.hid (KF.out _ (te.whole (boxOn FGT.out.1 HBL.out) (fun hm => NGR.out.1 (List.mem_singleton.1 hm))) (te.whole (boxOn HRA.out.box HBL.out) (fun hm => NGR.out.2 (List.mem_singleton.1 hm))) (te.whole (boxOn FG7.out.1 HBL.out) (fun hm => NG.out.2 (List.mem_singleton.1 hm).symm)))
    clear he te
    refine hK.out _ _ KX.out (fun hHeld => ?_)
    clear hK K hHeld
    try simp only [Act.put, sx1, sx2, sx3]
    refine wpAnyH_take (i := 9) (oi := ⟨some 7, _, _, _, _, _⟩) (v := ?_) rfl (by kernel_rfl) (by kernel_rfl) (by kernel_rfl) (fun _ _ _ h => HQP.out _ _ _ _ _ h) (Or.inl ⟨by rfl, ?_⟩) KX.out ?_; rotate_left; · intro w hSw; (try dsimp only at hSw); go_simp; try with_reducible rfl
    try simp only [Act.put, sx1, sx2, sx3]
    refine wpAnyH_take (i := 10) (oi := ⟨some 8, _, _, _, _, _⟩) (v := ?_) rfl (by kernel_rfl) (by kernel_rfl) (by kernel_rfl) (fun _ _ _ h => HQP.out _ _ _ _ _ h) (Or.inl ⟨by rfl, ?_⟩) KX.out ?_; rotate_left; · intro w hSw; (try dsimp only at hSw); go_simp; try with_reducible rfl
    try simp only [Act.put, sx1, sx2, sx3]
    refine wpAnyH_done (by kernel_rfl) ?_ _
    go_wp2_with fail
    refine HRX.out _ _ _ rfl (results_cell_tmps rfl _ _ gr _ _ _ _ rfl HWE.out Tryz.underlying50 rfl state_size) ?_
    rw [HFIN.out]
    exact rdone HRA.out FGR.out HGRW.out HO1.out HO2.out HAP.out HBL.out HTE.out

set_option maxHeartbeats 8000000 in
set_option maxRecDepth 1000000 in
theorem rwayc {W w : World} {t : T} {s s' : M} {wat V' : List Int} {k ni n1 n2 nm nw gt gs gr gv g7 ci co cc sc bc mc4 cw : Nat} {ad : Addr} {ao ac so bo mo4 aw : Option Addr} {a b c ex : Int} {res : X} {Q : Exit → Act → World → Prop} (h : AtI W w t s s' wat V' k ni n1 n2 nm nw gt gs gr gv g7 ci co cc sc bc mc4 cw ad ao ac so bo mo4 aw 12 a b c ex res) : WayI Q W w t s s' wat V' k ni n1 n2 nm nw gt gs gr gv g7 ci co cc sc bc mc4 cw ad ao ac so bo mo4 aw 12 a b c ex res := by
  have HR8 := Lib.hid h.hrun
  have HRR := Lib.hid h.hrr
  have HRS := Lib.hid h.hrs
  have HRB := Lib.hid h.hrb
  have HRW := Lib.hid h.hrw
  have HNI := Lib.hid h.hni
  have HN12 := Lib.hid h.hn12
  have HNW := Lib.hid h.hnw
  have z1 := h.z1
  have z2 := h.z2
  have z3 := h.z3
  have HZ4 := Lib.hid h.z4
  have z5 := h.z5
  have z6 := h.z6
  have z7 := h.z7
  have z8 := h.z8
  have HXK := Lib.hid h.hix
  have HCX := Lib.hid h.hcx
  have HQ := Lib.hid h.hq
  have HJ := Lib.hid h.hj
  have HRES := Lib.hid h.hres
  have HEX := Lib.hid h.hex
  have HMY := Lib.hid h.hmy
  have HRP := Lib.hid h.hrp
  have HMP := Lib.hid h.hmp
  have hlt := h.hlt
  have NG := Lib.hid h.ng
  have NG2 := Lib.hid h.ng2
  have NGR := Lib.hid h.ngr
  have HGRW := Lib.hid h.hgrw
  have HVK := Lib.hid h.hq.2.2.1
  have HOK := Lib.hid (ins_parts (h.hrp.ins k _ h.hix))
  have k0 : (0 : Int) ≤ (k : Int) := Int.natCast_nonneg k
  have k1 : (k : Int) < (ni : Int) := Int.ofNat_lt.2 hlt
  have hg7 := (h.hrun.fr g7 _ (if_pos rfl)).1
  have m0 : w.cell? ⟨g7, 0, none⟩ = some (.int .i64 12) := whole_cell hg7 rfl
  have m1 : w.cell? ⟨g7, 1, none⟩ = some (.int .i64 a) := whole_cell hg7 rfl
  have m2 : w.cell? ⟨g7, 2, none⟩ = some (.int .i64 b) := whole_cell hg7 rfl
  have m3 : w.cell? ⟨g7, 3, none⟩ = some (.int .i64 c) := whole_cell hg7 rfl
  have m4 : w.cell? ⟨g7, 4, none⟩ = some (.int .i64 ex) := whole_cell hg7 rfl
  have CU := Lib.hid (fun wc => Ir.ruses_any (12, a, b, c, ex) wc)
  have hop : True := trivial
  clear h hg7
  intro c0 c1 c5 c7 c8 c12 c13 c14 c15 c16 c17 c18 c19 c20 c21 c22 c23 c24 c25 c26 c27 c28 c29 c30 c31 c32 c33 c34 c35 c36 c37 c38 c39 c40 c41 c42 c43 c44 c45 c46 c47 c48 c49 c50 c51 c52 c53 c54 c55 c56 c57 c58 c59 c60 c61 c62 c63 c64 c65 c66 c67 c68 c69 c70 c71 c72 c73 c74 c75 c76 c77 c78 c79 c80 c81 c82 c83 c84 c85 c86 c87 c88 c89 c90 c91 c92 c93 c94 c95 c96 c97 c98 c99 c100 c101 c102 c103 c104 c105 c106 c107 c108 c109 c110 c111 c112 c113 c114 c115 c116 c117 c118 c119 c120 c121 c122 c123 c124 c125 c126 c127 c128 c129 c130 c131 c132 c133 c134 c135 c136 c137 c138 c139 c140 c141 c142 c143 c144 c145 c146 c147 c148 c149 c150 c151 c152 c153 c154 c155 c156 c157 c158 c159 c160 c161 c162 c163 c164 c165 c166 c167 c168 c169 c170 c171 c172 c173 c174 c175 c176 c177 c178 c179 c180 c181 c182 c183 c184 c185 c186 c187 c188 c189 c190 c191 c192 c193 c194 c195 c196 c197 c198 c199 c200 c201 c202 c203 c204 c205 c206 c207 c208 c209 c210 c211 c212 c213 c214 c215 c216 c217 c218 c219 c220 c221 c222 c223 c224 c225 c226 c227 c228 c229 c230 c231 c232 c233 c234 c235 c236 c237 c238 c239 c240 c241 c242 c243 c244 c245 c246 c247 c248 c249 c250 c251 c252 c253 c254 c255 c256 c257 c258 c259 c260 c261 c262 c263 c264 c265 c266 hQ hR hP
  have HQP := Lib.hid hP
  clear hP
  have HQX := Lib.hid hQ
  have HRX := Lib.hid hR
  clear hQ hR
  conv => arg 2; whnf
  go_wp2_with fail
  refine (CU.out _).mono ?_
  rintro e w9 ⟨vu, rfl, hu, hb9⟩
  have HU9 : Ir.usesL (12, a, b, c, ex) = [] := rfl
  rw [HU9] at hu
  have HUS := HOK.out.uses
  rw [HU9] at HUS
  have HR9 := Lib.hid (HR8.out.below hb9)
  obtain ⟨au, cu, eu⟩ := hu.slice
  rw [show (vals ([] : List Int)).length = 0 from rfl] at eu
  subst eu
  have HG9 := (HR9.out.fr g7 _ (if_pos rfl)).1
  have p0 : w9.cell? ⟨g7, 0, none⟩ = some (.int .i64 12) := whole_cell HG9 rfl
  have p1 : w9.cell? ⟨g7, 1, none⟩ = some (.int .i64 a) := whole_cell HG9 rfl
  have vcc := Mem.owns_at HR9.out.vl (j := k) (by rw [padV_length (by rw [HVK.out]; exact Nat.le_of_lt hlt)]; exact hlt)
  obtain ⟨old, hold⟩ : ∃ x, (padV V' ni)[k]'(by rw [padV_length (by rw [HVK.out]; exact Nat.le_of_lt hlt)]; exact hlt) = x := ⟨_, rfl⟩
  rw [hold] at vcc
  obtain ⟨v0, v1⟩ := vcc
  have b2 : w9.cell? ⟨gs, 2, none⟩ = some (.slice so n1 sc) := whole_cell HR9.out.box rfl
  have b3 : w9.cell? ⟨gs, 3, none⟩ = some (.slice bo n2 bc) := whole_cell HR9.out.box rfl
  have b4 : w9.cell? ⟨gs, 4, none⟩ = some (.slice mo4 nm mc4) := whole_cell HR9.out.box rfl
  clear hold HG9 hu hb9 HU9 HUS
  try dsimp only
  have hgo : doI wat s' V' (12, a, b, c, ex) = askI s' := rfl
  clear hop
  have HRV := Lib.hid (HR9.out.value rfl (by rw [HVK.out]; exact hlt) (-1))
  rw [HVK.out] at HRV
  have hrd : 0 ≤ s'.read := Int.le_trans z8 HQ.out.1.read.1
  have hin5 : s'.inp.size ≤ 1000000 := by rw [HQ.out.1.inp]; exact z5
  obtain ⟨wf, hwf⟩ : ∃ wf, w9.setCell ⟨gv, k, none⟩ (.int .i64 (-1)) = wf := ⟨_, rfl⟩
  rw [hwf] at HRV
  have b6 : wf.cell? ⟨gs, 6, none⟩ = some (.string s'.inp) := whole_cell HRV.out.box rfl
  have b7 : wf.cell? ⟨gs, 7, none⟩ = some (.int .i64 s'.read) := whole_cell HRV.out.box rfl
  obtain ⟨vl, vf⟩ := Mem.owns_at HRV.out.vl (j := k) (by rw [padV_length (by rw [List.length_append, HVK.out]; exact hlt)]; exact hlt)
  obtain ⟨nin, hnin⟩ : ∃ n, s'.inp.size = n := ⟨_, rfl⟩
  by_cases hin : s'.read < (nin : Int)
  · obtain ⟨rd, hr⟩ : ∃ rd : Nat, s'.read = (rd : Int) := ⟨s'.read.toNat, by omega⟩
    have h2 : rd < s'.inp.size := by rw [hnin]; omega
    obtain ⟨by', hby⟩ : ∃ b, s'.inp[rd] = b := ⟨_, rfl⟩
    have hD : s'.inp.data.toList.getD rd 0 = by' := by rw [← hby, List.getD_eq_getElem?_getD, List.getElem?_eq_getElem (by simpa using h2)]; rfl
    have hd := Lib.hid (show doI wat s' V' (12, a, b, c, ex) = ⟨{ s' with read := (rd : Int) + 1 }, ((by'.toNat : Nat) : Int), true, false⟩ from by rw [hgo]; unfold askI; rw [if_pos (by rw [hnin]; exact ⟨hrd, hin⟩), hr, Int.toNat_natCast, hD])
    have e8 : wrap64 ((by'.toNat : Nat) : Int) = ((by'.toNat : Nat) : Int) := by have := by'.toNat_lt; unfold wrap64; omega
    rw [hr] at b7 hin
    have h4 : rd < nin := by omega
    rw [hnin] at hin5
    have HRW := Lib.hid (HRV.out.again rfl (by rw [HVK.out]; exact hlt) ((by'.toNat : Nat) : Int))
    rw [HVK.out] at HRW
    have HRX := Lib.hid (HRW.out.field (s' := { s' with read := (rd : Int) + 1 }) 7 (.int .i64 ((rd : Int) + 1)) rfl rfl)
    have b7' : (wf.setCell ⟨gv, k, none⟩ (.int .i64 ((by'.toNat : Nat) : Int))).cell? ⟨gs, 7, none⟩ = some (.int .i64 (rd : Int)) := by rw [← hr]; exact whole_cell HRW.out.box rfl
    have b8' : (wf.setCell ⟨gv, k, none⟩ (.int .i64 ((by'.toNat : Nat) : Int))).frozen? ⟨gs, 7, none⟩ = false := whole_frozen HRW.out.box 7
    have h3 := hin
    clear hgo hrd hr hD hin z8 z1 z2 z3 z5 z6 z7
    go_wp2_with fail
    exact HQX.out _ _ _ _ _ _ _ _ _ _ _ _ _ _ _ _ _ _ _ _ _ _ _ _ _ _ _ _ _ _ _ _ _ _ _ _ _ _ _ _ _ _ _ _ _ _ _ _ _ _ _ _ _ _ _ _ _ _ _ _ _ _ _ _ _ _ _ _ _ _ _ _ _ _ _ _ _ _ _ _ _ _ _ _ _ _ _ _ _ _ _ _ _ _ _ _ _ _ _ _ _ _ _ _ _ _ _ _ _ _ _ _ _ _ _ _ _ _ _ _ _ _ _ _ _ _ _ _ _ _ _ _ _ _ _ _ _ _ _ _ _ _ _ _ _ _ _ _ _ _ _ _ _ _ _ _ _ _ _ _ _ _ _ _ _ _ _ _ _ _ _ _ _ _ _ _ _ _ _ _ _ _ _ _ _ _ _ _ _ _ _ _ _ _ _ _ _ _ _ _ _ _ _ _ _ _ _ _ _ _ _ _ _ _ _ _ _ _ _ _ _ _ _ _ hd.out HRX.out
  · have hd := Lib.hid (show doI wat s' V' (12, a, b, c, ex) = ⟨s', -1, true, false⟩ from by rw [hgo]; unfold askI; rw [if_neg (by rw [hnin]; exact fun h => hin h.2)])
    have e1 : decide (s'.read < (nin : Int)) = false := decide_eq_false hin
    clear hgo hin z8 hrd
    go_wp2_with fail
    exact HQX.out _ _ _ _ _ _ _ _ _ _ _ _ _ _ _ _ _ _ _ _ _ _ _ _ _ _ _ _ _ _ _ _ _ _ _ _ _ _ _ _ _ _ _ _ _ _ _ _ _ _ _ _ _ _ _ _ _ _ _ _ _ _ _ _ _ _ _ _ _ _ _ _ _ _ _ _ _ _ _ _ _ _ _ _ _ _ _ _ _ _ _ _ _ _ _ _ _ _ _ _ _ _ _ _ _ _ _ _ _ _ _ _ _ _ _ _ _ _ _ _ _ _ _ _ _ _ _ _ _ _ _ _ _ _ _ _ _ _ _ _ _ _ _ _ _ _ _ _ _ _ _ _ _ _ _ _ _ _ _ _ _ _ _ _ _ _ _ _ _ _ _ _ _ _ _ _ _ _ _ _ _ _ _ _ _ _ _ _ _ _ _ _ _ _ _ _ _ _ _ _ _ _ _ _ _ _ _ _ _ _ _ _ _ _ _ _ _ _ _ _ _ _ _ _ hd.out HRV.out
end Go.Proofs.YtpecingkoodmfaaGreatDoor.Ev
