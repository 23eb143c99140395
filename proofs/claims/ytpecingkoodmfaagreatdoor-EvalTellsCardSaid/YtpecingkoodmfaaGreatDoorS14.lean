/- The document's own run (chapter 15): ways of the switch (P). -/
import Derived.Test.YtpecingkoodmfaaGreatDoorS11
import Derived.Deep.LoopGhost
import Derived.Deep.DeepCutAuto
namespace Go.Proofs.YtpecingkoodmfaaGreatDoor.Ev
open Go.RowKit Book Mem
open Ir (T I O trA trV ReadsL ReadsI insA insV newBox boxOn CI CT rightT)
open Mach (step_st_state M less cells10 zero10 OwnsL OwnsM stV st_state ld_state state_size slice_one all_one)
set_option linter.unusedSimpArgs false
set_option linter.unusedVariables false
set_option maxHeartbeats 8000000 in
set_option maxRecDepth 1000000 in
theorem rway6 {W w : World} {t : T} {s s' : M} {wat V' : List Int} {k ni n1 n2 nm nw gt gs gr gv g7 ci co cc sc bc mc4 cw : Nat} {ad : Addr} {ao ac so bo mo4 aw : Option Addr} {a b c ex : Int} {res : X} {Q : Exit → Act → World → Prop} (h : AtI W w t s s' wat V' k ni n1 n2 nm nw gt gs gr gv g7 ci co cc sc bc mc4 cw ad ao ac so bo mo4 aw 6 a b c ex res) : WayI Q W w t s s' wat V' k ni n1 n2 nm nw gt gs gr gv g7 ci co cc sc bc mc4 cw ad ao ac so bo mo4 aw 6 a b c ex res := by
  have HR8 := Lib.hid h.hrun
  have HRR := Lib.hid h.hrr
  have HRS := Lib.hid h.hrs
  have HRB := Lib.hid h.hrb
  have HRW := Lib.hid h.hrw
  have HNI := Lib.hid h.hni
  have HN12 := Lib.hid h.hn12
  have HNW := Lib.hid h.hnw
  have z1 := h.z1
  have z2 := h.z2
  have z3 := h.z3
  have HZ4 := Lib.hid h.z4
  have z5 := h.z5
  have z6 := h.z6
  have z7 := h.z7
  have z8 := h.z8
  have HXK := Lib.hid h.hix
  have HCX := Lib.hid h.hcx
  have HQ := Lib.hid h.hq
  have HJ := Lib.hid h.hj
  have HRES := Lib.hid h.hres
  have HEX := Lib.hid h.hex
  have HMY := Lib.hid h.hmy
  have HRP := Lib.hid h.hrp
  have HMP := Lib.hid h.hmp
  have hlt := h.hlt
  have NG := Lib.hid h.ng
  have NG2 := Lib.hid h.ng2
  have NGR := Lib.hid h.ngr
  have HGRW := Lib.hid h.hgrw
  have HVK := Lib.hid h.hq.2.2.1
  have HOK := Lib.hid (ins_parts (h.hrp.ins k _ h.hix))
  have k0 : (0 : Int) ≤ (k : Int) := Int.natCast_nonneg k
  have k1 : (k : Int) < (ni : Int) := Int.ofNat_lt.2 hlt
  have hg7 := (h.hrun.fr g7 _ (if_pos rfl)).1
  have m0 : w.cell? ⟨g7, 0, none⟩ = some (.int .i64 6) := whole_cell hg7 rfl
  have m1 : w.cell? ⟨g7, 1, none⟩ = some (.int .i64 a) := whole_cell hg7 rfl
  have m2 : w.cell? ⟨g7, 2, none⟩ = some (.int .i64 b) := whole_cell hg7 rfl
  have m3 : w.cell? ⟨g7, 3, none⟩ = some (.int .i64 c) := whole_cell hg7 rfl
  have m4 : w.cell? ⟨g7, 4, none⟩ = some (.int .i64 ex) := whole_cell hg7 rfl
  have CU := Lib.hid (fun wc => Ir.ruses_any (6, a, b, c, ex) wc)
  have hop : True := trivial
  clear h hg7
  intro c0 c1 c5 c7 c8 c12 c13 c14 c15 c16 c17 c18 c19 c20 c21 c22 c23 c24 c25 c26 c27 c28 c29 c30 c31 c32 c33 c34 c35 c36 c37 c38 c39 c40 c41 c42 c43 c44 c45 c46 c47 c48 c49 c50 c51 c52 c53 c54 c55 c56 c57 c58 c59 c60 c61 c62 c63 c64 c65 c66 c67 c68 c69 c70 c71 c72 c73 c74 c75 c76 c77 c78 c79 c80 c81 c82 c83 c84 c85 c86 c87 c88 c89 c90 c91 c92 c93 c94 c95 c96 c97 c98 c99 c100 c101 c102 c103 c104 c105 c106 c107 c108 c109 c110 c111 c112 c113 c114 c115 c116 c117 c118 c119 c120 c121 c122 c123 c124 c125 c126 c127 c128 c129 c130 c131 c132 c133 c134 c135 c136 c137 c138 c139 c140 c141 c142 c143 c144 c145 c146 c147 c148 c149 c150 c151 c152 c153 c154 c155 c156 c157 c158 c159 c160 c161 c162 c163 c164 c165 c166 c167 c168 c169 c170 c171 c172 c173 c174 c175 c176 c177 c178 c179 c180 c181 c182 c183 c184 c185 c186 c187 c188 c189 c190 c191 c192 c193 c194 c195 c196 c197 c198 c199 c200 c201 c202 c203 c204 c205 c206 c207 c208 c209 c210 c211 c212 c213 c214 c215 c216 c217 c218 c219 c220 c221 c222 c223 c224 c225 c226 c227 c228 c229 c230 c231 c232 c233 c234 c235 c236 c237 c238 c239 c240 c241 c242 c243 c244 c245 c246 c247 c248 c249 c250 c251 c252 c253 c254 c255 c256 c257 c258 c259 c260 c261 c262 c263 c264 c265 c266 hQ hR hP
  have HQP := Lib.hid hP
  clear hP
  have HQX := Lib.hid hQ
  have HRX := Lib.hid hR
  clear hQ hR
  conv => arg 2; whnf
  go_wp2_with fail
  refine (CU.out _).mono ?_
  rintro e w9 ⟨vu, rfl, hu, hb9⟩
  have HU9 : Ir.usesL (6, a, b, c, ex) = [b, c] := rfl
  rw [HU9] at hu
  have HUS := HOK.out.uses
  rw [HU9] at HUS
  have HR9 := Lib.hid (HR8.out.below hb9)
  obtain ⟨gu, cu, eu, hcu, -, -⟩ := hu.row (by show 0 < 2; decide)
  rw [show (vals [b, c]).length = 2 from rfl] at eu
  subst eu
  obtain ⟨hb0, hb1⟩ := HUS b (by simp)
  obtain ⟨kb, hkb⟩ : ∃ kb : Nat, b = kb := ⟨b.toNat, by omega⟩
  obtain ⟨hc0, hc1⟩ := HUS c (by simp)
  obtain ⟨kc, hkc⟩ : ∃ kc : Nat, c = kc := ⟨c.toNat, by omega⟩
  have hkb1 : kb < k := by omega
  have hkc1 : kc < k := by omega
  clear hb0 hb1 hc0 hc1
  subst hkb
  subst hkc
  have u0 : w9.cell? ⟨gu, 0, none⟩ = some (.int .i64 (kb : Int)) := hcu 0 _ rfl
  have u1 : w9.cell? ⟨gu, 1, none⟩ = some (.int .i64 (kc : Int)) := hcu 1 _ rfl
  have q0 := HR9.out.told (p := kb) (by rw [HVK.out]; exact hkb1) (by rw [HVK.out]; exact Nat.le_of_lt hlt)
  have q1 := HR9.out.told (p := kc) (by rw [HVK.out]; exact hkc1) (by rw [HVK.out]; exact Nat.le_of_lt hlt)
  obtain ⟨xb, hxb⟩ : ∃ v, val V' (kb : Int) = v := ⟨_, rfl⟩
  rw [hxb] at q0
  have HXB := Lib.hid hxb
  have ixb : Cell.In xb := by rw [← hxb]; exact getL_in HQ.out.2.2.2 _
  have HIB := Lib.hid ixb
  obtain ⟨xc, hxc⟩ : ∃ v, val V' (kc : Int) = v := ⟨_, rfl⟩
  rw [hxc] at q1
  have HXC := Lib.hid hxc
  have ixc : Cell.In xc := by rw [← hxc]; exact getL_in HQ.out.2.2.2 _
  have HIC := Lib.hid ixc
  have kb0 : (0 : Int) ≤ (kb : Int) := Int.natCast_nonneg kb
  have kb1 : (kb : Int) < (ni : Int) := Int.ofNat_lt.2 (Nat.lt_trans hkb1 hlt)
  have kc0 : (0 : Int) ≤ (kc : Int) := Int.natCast_nonneg kc
  have kc1 : (kc : Int) < (ni : Int) := Int.ofNat_lt.2 (Nat.lt_trans hkc1 hlt)
  clear hcu hkb1 hxb ixb hkc1 hxc ixc
  have HG9 := (HR9.out.fr g7 _ (if_pos rfl)).1
  have p0 : w9.cell? ⟨g7, 0, none⟩ = some (.int .i64 6) := whole_cell HG9 rfl
  have p1 : w9.cell? ⟨g7, 1, none⟩ = some (.int .i64 a) := whole_cell HG9 rfl
  have vcc := Mem.owns_at HR9.out.vl (j := k) (by rw [padV_length (by rw [HVK.out]; exact Nat.le_of_lt hlt)]; exact hlt)
  obtain ⟨old, hold⟩ : ∃ x, (padV V' ni)[k]'(by rw [padV_length (by rw [HVK.out]; exact Nat.le_of_lt hlt)]; exact hlt) = x := ⟨_, rfl⟩
  rw [hold] at vcc
  obtain ⟨v0, v1⟩ := vcc
  have b2 : w9.cell? ⟨gs, 2, none⟩ = some (.slice so n1 sc) := whole_cell HR9.out.box rfl
  have b3 : w9.cell? ⟨gs, 3, none⟩ = some (.slice bo n2 bc) := whole_cell HR9.out.box rfl
  have b4 : w9.cell? ⟨gs, 4, none⟩ = some (.slice mo4 nm mc4) := whole_cell HR9.out.box rfl
  clear hold HG9 hu hb9 HU9 HUS
  try dsimp only
  have hml2 : s'.mem.length = nm := by rw [HQ.out.1.mem]; exact HNI.out.2
  have hgo : doI wat s' V' (6, a, (kb : Int), (kc : Int), ex) = putI wat s' xb xc := by
    show putI wat s' (val V' (kb : Int)) (val V' (kc : Int)) = _
    rw [HXB.out, HXC.out]
  unfold putI at hgo
  rw [hml2] at hgo
  clear hop
  by_cases hin : 0 ≤ xb ∧ xb < (nm : Int)
  · rw [if_pos hin] at hgo
    obtain ⟨j, hj⟩ : ∃ j : Nat, xb = j := ⟨xb.toNat, by omega⟩
    subst hj
    have hjn : j < nm := by omega
    rw [Int.toNat_natCast] at hgo
    obtain ⟨gm, cm, em, -, -, -⟩ := HR9.out.me.row (by rw [vals_length, hml2]; omega)
    simp only [Value.slice.injEq] at em
    obtain ⟨rfl, -, rfl⟩ := em
    obtain ⟨hmc, hmf⟩ := Mem.owns_at HR9.out.me (j := j) (by rw [hml2]; exact hjn)
    obtain ⟨om, hom⟩ : ∃ x, s'.mem[j]'(by rw [hml2]; exact hjn) = x := ⟨_, rfl⟩
    rw [hom] at hmc
    clear hom
    have HRP0 := Lib.hid (HR9.out.poke rfl (by rw [hml2]; exact hjn) xc)
    obtain ⟨wp, hwp⟩ : ∃ wp, w9.setCell ⟨gm, j, none⟩ (.int .i64 xc) = wp := ⟨_, rfl⟩
    rw [hwp] at HRP0
    have hkd := doI_kin wat s' V' (6, a, (kb : Int), (kc : Int), ex)
    rw [hgo] at hkd
    dsimp only at hkd
    obtain ⟨ds, hds⟩ : ∃ m, ({ s' with mem := s'.mem.set j xc } : M) = m := ⟨_, rfl⟩
    rw [hds] at HRP0 hgo hkd
    have HKD := Lib.hid (HQ.out.1.trans hkd)
    clear hkd hds
    have e1 : decide ((j : Int) < 0) = false := decide_eq_false (by omega)
    have e2 : decide ((nm : Int) ≤ (j : Int)) = false := decide_eq_false (by omega)
    have e3 : decide (nm ≤ j) = false := decide_eq_false (by omega)
    have e4 : (j : Int) < (nm : Int) := by omega
    have e5 : (0 : Int) ≤ (j : Int) := Int.natCast_nonneg j
    have HGO := Lib.hid hgo
    clear hgo hin hml2
    go_wp2_with fail
    clear v0 v1 u0 u1 q0 q1 p0 p1 b2 b3 b4 e1 e2 e3 hmc hmf
    go_loopg [17] nw (fun z2 i2 wq => ∃ l : Nat, z2 = nw - l ∧ l ≤ nw ∧ i2 = .int .i64 (l : Int) ∧ wq = wp ∧ Hid (∀ y ∈ wat.take l, y ≠ (j : Int)))
    case atStart => exact ⟨0, rfl, Nat.zero_le _, rfl, rfl, Lib.hid (fun y hy => by simp at hy)⟩
    case round =>
      obtain ⟨l, rfl, hl, rfl, rfl, HNO⟩ := hrel
      by_cases hlw : l < nw
      · obtain ⟨y, hy⟩ : ∃ y, wat[l]? = some y := ⟨_, List.getElem?_eq_getElem (by rw [HNW.out]; exact hlw)⟩
        obtain ⟨adw, rfl, cw0⟩ := Ir.Reads.at' HRW.out hy
        have cw1 : wr.cell? (adw.add l) = some (.int .i64 y) := by rw [HRP0.out.hb.cell (World.block_lt_of_cell? W _ cw0)]; exact cw0
        have l0 : (0 : Int) ≤ (l : Int) := Int.natCast_nonneg l
        have l1 : (l : Int) < (nw : Int) := Int.ofNat_lt.2 hlw
        by_cases hyj : y = (j : Int)
        · have t1 : decide (y = (j : Int)) = true := decide_eq_true hyj
          have hct : wat.contains (j : Int) = true := by rw [List.contains_iff_mem, ← hyj]; exact List.mem_of_getElem? hy
          rw [hct] at HGO
          go_upto_region 43 with fail
          clear cw0 cw1 l0 l1 t1
          have KIN := Lib.hid (HKD.out)
          have PRE := Lib.hid (show ∀ p : Int, 0 ≤ p → p < (V'.length : Int) → val (padV (V') ni) p = val V' p from fun p h0 h1 => val_padV (by rw [HVK.out]; exact Nat.le_of_lt hlt) h0 h1)
          have LNA := Lib.hid (show (padV (V') ni).length = ni from padV_length (by rw [HVK.out]; exact Nat.le_of_lt hlt))
          have VLN := Lib.hid (show V'.length ≤ (padV (V') ni).length from by rw [LNA.out, HVK.out]; exact Nat.le_of_lt hlt)
          have NI1 := Lib.hid (show (padV (V') ni).length ≤ 10000 from by rw [LNA.out]; exact z7)
          have HXR := Lib.hid (goI_hit HXK.out HGO.out HJ.out)
          obtain ⟨xo, hx1, hx2, hx3, hx4⟩ := HEX.out
          rw [← HXR.out] at hx1 hx2
          dsimp only at hx1 hx2
          have HFIN := Lib.hid (runT_is (o := xo) HMY.out HRES.out (by rw [← HXR.out]; exact hx1))
          rw [← HXR.out] at HFIN
          dsimp only at HFIN
          have FGT := Lib.hid (HRP0.out.fr gt _ ((if_neg NG.out.1).trans (if_pos rfl)))
          have FGR := Lib.hid (HRP0.out.fr gr _ ((if_neg NG.out.2).trans ((if_neg NG2.out).trans (if_pos rfl))))
          have FG7 := Lib.hid (HRP0.out.fr g7 _ (if_pos rfl))
          have KF := Lib.hid (fun (w' : World) (ha' : w'.heap[gt]? = some (.cells (trA t (.slice (some ad) ni ci) (.slice ao t.outs.length co) (.slice ac t.cells.length cc)) 26 (0, 0))) (hb' : w'.heap[gs]? = some (.cells (cells10 ds.ip ds.handler (.slice so n1 sc) (.slice bo n2 bc) (.slice (some ⟨gm, 0, none⟩) nm mc4) ds.out ds.inp ds.read ds.status ds.code) 50 (0, 0))) (hc' : w'.heap[g7]? = some (.cells (insA (6, a, (kb : Int), (kc : Int), ex)) 42 (0, 0))) => show w'.cell? ⟨gt, 0, none⟩ = some (.int .i64 t.start) ∧ w'.cell? ⟨gt, 1, none⟩ = some (.int .i64 t.slots) ∧ w'.cell? ⟨gt, 2, none⟩ = some (.int .i64 t.backs) ∧ w'.cell? ⟨gt, 3, none⟩ = some (.int .i64 t.grow) ∧ w'.cell? ⟨gt, 4, none⟩ = some (.int .i64 t.growBack) ∧ w'.cell? ⟨gt, 5, none⟩ = some (.slice (some ad) ni ci) ∧ w'.cell? ⟨gt, 6, none⟩ = some (.slice ao t.outs.length co) ∧ w'.cell? ⟨gt, 7, none⟩ = some (.int .i64 t.last) ∧ w'.cell? ⟨gt, 8, none⟩ = some (.slice ac t.cells.length cc) ∧ w'.cell? ⟨gs, 0, none⟩ = some (.int .i64 ds.ip) ∧ w'.cell? ⟨gs, 1, none⟩ = some (.int .i64 ds.handler) ∧ w'.cell? ⟨gs, 2, none⟩ = some (.slice so n1 sc) ∧ w'.cell? ⟨gs, 3, none⟩ = some (.slice bo n2 bc) ∧ w'.cell? ⟨gs, 4, none⟩ = some (.slice (some ⟨gm, 0, none⟩) nm mc4) ∧ w'.cell? ⟨gs, 5, none⟩ = some (.string ds.out) ∧ w'.cell? ⟨gs, 6, none⟩ = some (.string ds.inp) ∧ w'.cell? ⟨gs, 7, none⟩ = some (.int .i64 ds.read) ∧ w'.cell? ⟨gs, 8, none⟩ = some (.int .i64 ds.status) ∧ w'.cell? ⟨gs, 9, none⟩ = some (.int .i64 ds.code) ∧ w'.cell? ⟨g7, 1, none⟩ = some (.int .i64 a) from ⟨whole_cell ha' rfl, whole_cell ha' rfl, whole_cell ha' rfl, whole_cell ha' rfl, whole_cell ha' rfl, whole_cell ha' rfl, whole_cell ha' rfl, whole_cell ha' rfl, whole_cell ha' rfl, whole_cell hb' rfl, whole_cell hb' rfl, whole_cell hb' rfl, whole_cell hb' rfl, whole_cell hb' rfl, whole_cell hb' rfl, whole_cell hb' rfl, whole_cell hb' rfl, whole_cell hb' rfl, whole_cell hb' rfl, whole_cell hc' rfl⟩)
          have CE := Lib.hid (fun wc (hb : Below wr.heap.size wr wc) => rexit HRR.out HRS.out HRB.out (HRP0.out.below hb) KIN.out hx1 hx2 PRE.out VLN.out NI1.out HN12.out.1 HN12.out.2 z1 z2 (Nat.le_trans hx3 (by decide)) (Nat.le_trans hx4 (by decide)) HRP.out.slots.1 HMP.out.1 HRP.out.backs.1 HMP.out.2)
          have HXX := Lib.hid (And.intro hx1 hx2)
          clear hx1 hx2 hx3 hx4
          have HBC : Hid (Below wr.heap.size wr wr.drew) := Lib.hid (Below.refl _ _).drew
          have KX := Lib.hid (KF.out _ (boxOn FGT.out.1 HBC.out) (boxOn HRP0.out.box HBC.out) (boxOn FG7.out.1 HBC.out))
          refine wp_region_held (S := fun w' => w'.cell? ⟨gt, 0, none⟩ = some (.int .i64 t.start) ∧ w'.cell? ⟨gt, 1, none⟩ = some (.int .i64 t.slots) ∧ w'.cell? ⟨gt, 2, none⟩ = some (.int .i64 t.backs) ∧ w'.cell? ⟨gt, 3, none⟩ = some (.int .i64 t.grow) ∧ w'.cell? ⟨gt, 4, none⟩ = some (.int .i64 t.growBack) ∧ w'.cell? ⟨gt, 5, none⟩ = some (.slice (some ad) ni ci) ∧ w'.cell? ⟨gt, 6, none⟩ = some (.slice ao t.outs.length co) ∧ w'.cell? ⟨gt, 7, none⟩ = some (.int .i64 t.last) ∧ w'.cell? ⟨gt, 8, none⟩ = some (.slice ac t.cells.length cc) ∧ w'.cell? ⟨gs, 0, none⟩ = some (.int .i64 ds.ip) ∧ w'.cell? ⟨gs, 1, none⟩ = some (.int .i64 ds.handler) ∧ w'.cell? ⟨gs, 2, none⟩ = some (.slice so n1 sc) ∧ w'.cell? ⟨gs, 3, none⟩ = some (.slice bo n2 bc) ∧ w'.cell? ⟨gs, 4, none⟩ = some (.slice (some ⟨gm, 0, none⟩) nm mc4) ∧ w'.cell? ⟨gs, 5, none⟩ = some (.string ds.out) ∧ w'.cell? ⟨gs, 6, none⟩ = some (.string ds.inp) ∧ w'.cell? ⟨gs, 7, none⟩ = some (.int .i64 ds.read) ∧ w'.cell? ⟨gs, 8, none⟩ = some (.int .i64 ds.status) ∧ w'.cell? ⟨gs, 9, none⟩ = some (.int .i64 ds.code) ∧ w'.cell? ⟨g7, 1, none⟩ = some (.int .i64 a)) (by kernel_rfl) ?_
          change wpAnyH _ _ _ _ _ _ _ _ (World.drew wr)
          refine wpAnyH_take (i := 0) (oi := ⟨some 201, _, _, _, _, _⟩) (v := ?_) rfl (by kernel_rfl) (by kernel_rfl) (by kernel_rfl) (fun _ _ _ h => HQP.out _ _ _ _ _ h) (Or.inl ⟨by rfl, ?_⟩) KX.out ?_; rotate_left; · intro w hSw; (try dsimp only at hSw); go_simp; try with_reducible rfl
          try simp only [Act.put, sx1, sx2, sx3]
          refine wpAnyH_take (i := 1) (oi := ⟨some 202, _, _, _, _, _⟩) (v := ?_) rfl (by kernel_rfl) (by kernel_rfl) (by kernel_rfl) (fun _ _ _ h => HQP.out _ _ _ _ _ h) (Or.inl ⟨by rfl, ?_⟩) KX.out ?_; rotate_left; · intro w hSw; (try dsimp only at hSw); go_simp; try with_reducible rfl
          try simp only [Act.put, sx1, sx2, sx3]
          refine wpAnyH_take (i := 2) (oi := ⟨some 203, _, _, _, _, _⟩) (v := ?_) rfl (by kernel_rfl) (by kernel_rfl) (by kernel_rfl) (fun _ _ _ h => HQP.out _ _ _ _ _ h) (Or.inl ⟨by rfl, ?_⟩) KX.out ?_; rotate_left; · intro w hSw; (try dsimp only at hSw); go_simp; try with_reducible rfl
          try simp only [Act.put, sx1, sx2, sx3]
          refine wpAnyH_take (i := 3) (oi := ⟨some 204, _, _, _, _, _⟩) (v := ?_) rfl (by kernel_rfl) (by kernel_rfl) (by kernel_rfl) (fun _ _ _ h => HQP.out _ _ _ _ _ h) (Or.inl ⟨by rfl, ?_⟩) KX.out ?_; rotate_left; · intro w hSw; (try dsimp only at hSw); go_simp; try with_reducible rfl
          try simp only [Act.put, sx1, sx2, sx3]
          refine wpAnyH_take (i := 4) (oi := ⟨some 205, _, _, _, _, _⟩) (v := ?_) rfl (by kernel_rfl) (by kernel_rfl) (by kernel_rfl) (fun _ _ _ h => HQP.out _ _ _ _ _ h) (Or.inl ⟨by rfl, ?_⟩) KX.out ?_; rotate_left; · intro w hSw; (try dsimp only at hSw); go_simp; try with_reducible rfl
          try simp only [Act.put, sx1, sx2, sx3]
          refine wpAnyH_take (i := 6) (oi := ⟨some 207, _, _, _, _, _⟩) (v := ?_) rfl (by kernel_rfl) (by kernel_rfl) (by kernel_rfl) (fun _ _ _ h => HQP.out _ _ _ _ _ h) (Or.inl ⟨by rfl, ?_⟩) KX.out ?_; rotate_left; · intro w hSw; (try dsimp only at hSw); go_simp; try with_reducible rfl
          try simp only [Act.put, sx1, sx2, sx3]
          refine wpAnyH_take (i := 7) (oi := ⟨some 208, _, _, _, _, _⟩) (v := ?_) rfl (by kernel_rfl) (by kernel_rfl) (by kernel_rfl) (fun _ _ _ h => HQP.out _ _ _ _ _ h) (Or.inl ⟨by rfl, ?_⟩) KX.out ?_; rotate_left; · intro w hSw; (try dsimp only at hSw); go_simp; try with_reducible rfl
          try simp only [Act.put, sx1, sx2, sx3]
          refine wpAnyH_ready (rs := [5]) (by kernel_rfl) (by simp) ?_
          refine AllReadyH.cons rfl (fun K hK => ?_) ?_
          rotate_left
          · exact AllReadyH.nil
          go_simp
          go_at_call 88
          refine (CE.out _ HBC.out).mono ?_
          rintro e wl ⟨v1, v2, rfl, ho1, ho2, hap, hbl⟩
          have HO1 := Lib.hid ho1
          have HO2 := Lib.hid ho2
          have HAP := Lib.hid hap
          have HMC := Lib.hid (show Value.oneCell' (.slice (some ⟨gm, 0, none⟩) nm mc4) = true from rfl)
          have HBL := Lib.hid (HBC.out.trans (hbl.mono HBC.out.size))
          have HON := Lib.hid (And.intro (slice_one ho1.slice) (slice_one ho2.slice))
          have KX := Lib.hid (KF.out _ (boxOn FGT.out.1 HBL.out) (boxOn HRP0.out.box HBL.out) (boxOn FG7.out.1 HBL.out))
          have FGL := Lib.hid (boxOn FGR.out.1 HBL.out)
          clear ho1 ho2 hap hbl
          try dsimp only
          go_wp2_with fail
          refine hK.out _ _ KX.out (fun hHeld => ?_)
          clear hK K hHeld
          try simp only [Act.put, sx1, sx2, sx3]
          refine wpAnyH_ready (rs := [8]) (by kernel_rfl) (by simp) ?_
          refine AllReadyH.cons rfl (fun K hK => ?_) ?_
          rotate_left
          · exact AllReadyH.nil
          refine step_st_state (by rfl) _ _ rfl gr _ rfl rfl _ FGL.out rfl rfl (all_one HON.out.1 HON.out.2 HMC.out) ?_
          intro we he te
          have HWE := Lib.hid he
          have HTE := Lib.hid te
          have KX := Lib.hid (KF.out _ (te.whole (boxOn FGT.out.1 HBL.out) (fun hm => NGR.out.1 (List.mem_singleton.1 hm))) (te.whole (boxOn HRP0.out.box HBL.out) (fun hm => NGR.out.2 (List.mem_singleton.1 hm))) (te.whole (boxOn FG7.out.1 HBL.out) (fun hm => NG.out.2 (List.mem_singleton.1 hm).symm)))
          clear he te
          refine hK.out _ _ KX.out (fun hHeld => ?_)
          clear hK K hHeld
          try simp only [Act.put, sx1, sx2, sx3]
          refine wpAnyH_take (i := 9) (oi := ⟨some 7, _, _, _, _, _⟩) (v := ?_) rfl (by kernel_rfl) (by kernel_rfl) (by kernel_rfl) (fun _ _ _ h => HQP.out _ _ _ _ _ h) (Or.inl ⟨by rfl, ?_⟩) KX.out ?_; rotate_left; · intro w hSw; (try dsimp only at hSw); go_simp; try with_reducible rfl
          try simp only [Act.put, sx1, sx2, sx3]
          refine wpAnyH_take (i := 10) (oi := ⟨some 8, _, _, _, _, _⟩) (v := ?_) rfl (by kernel_rfl) (by kernel_rfl) (by kernel_rfl) (fun _ _ _ h => HQP.out _ _ _ _ _ h) (Or.inl ⟨by rfl, ?_⟩) KX.out ?_; rotate_left; · intro w hSw; (try dsimp only at hSw); go_simp; try with_reducible rfl
          try simp only [Act.put, sx1, sx2, sx3]
          refine wpAnyH_done (by kernel_rfl) ?_ _
          go_wp2_with fail
          refine HRX.out _ _ _ rfl (results_cell_tmps rfl _ _ gr _ _ _ _ rfl HWE.out Tryz.underlying50 rfl state_size) ?_
          rw [HFIN.out]
          exact rdone HRP0.out FGR.out HGRW.out HO1.out HO2.out HAP.out HBL.out HTE.out
        · have t1 : decide (y = (j : Int)) = false := decide_eq_false hyj
          go_wp2_with fail
          go_roundg (nw - (l + 1))
          case measure => omega
          case rel => exact ⟨l + 1, rfl, by omega, by go_num, rfl, Lib.hid (take_not hy HNO.out hyj)⟩
      · have t1 : decide ((l : Int) < (nw : Int)) = false := decide_eq_false (by omega)
        have hct : wat.contains (j : Int) = false := by
          rw [Bool.eq_false_iff]
          intro h
          rw [List.contains_iff_mem] at h
          exact HNO.out _ (by rw [List.take_of_length_le (by rw [HNW.out]; omega)]; exact h) rfl
        rw [hct] at HGO
        have HRV := Lib.hid (HRP0.out.next (by rw [HVK.out]; exact hlt))
        go_wp2_with fail
        exact HQX.out _ _ _ _ _ _ _ _ _ _ _ _ _ _ _ _ _ _ _ _ _ _ _ _ _ _ _ _ _ _ _ _ _ _ _ _ _ _ _ _ _ _ _ _ _ _ _ _ _ _ _ _ _ _ _ _ _ _ _ _ _ _ _ _ _ _ _ _ _ _ _ _ _ _ _ _ _ _ _ _ _ _ _ _ _ _ _ _ _ _ _ _ _ _ _ _ _ _ _ _ _ _ _ _ _ _ _ _ _ _ _ _ _ _ _ _ _ _ _ _ _ _ _ _ _ _ _ _ _ _ _ _ _ _ _ _ _ _ _ _ _ _ _ _ _ _ _ _ _ _ _ _ _ _ _ _ _ _ _ _ _ _ _ _ _ _ _ _ _ _ _ _ _ _ _ _ _ _ _ _ _ _ _ _ _ _ _ _ _ _ _ _ _ _ _ _ _ _ _ _ _ _ _ _ _ _ _ _ _ _ _ _ _ _ _ _ _ _ _ _ _ _ _ _ HGO.out HRV.out
  · rw [if_neg hin] at hgo
    have hd := Lib.hid hgo
    clear hgo hml2
    by_cases hneg : xb < 0
    · have e1 : decide (xb < 0) = true := decide_eq_true hneg
      go_upto_region 59 with fail
      clear v0 v1 u0 q0 u1 q1 p0 p1 b2 b3 b4
      have KIN := Lib.hid (HQ.out.1)
      have PRE := Lib.hid (show ∀ p : Int, 0 ≤ p → p < (V'.length : Int) → val (padV (V') ni) p = val V' p from fun p h0 h1 => val_padV (by rw [HVK.out]; exact Nat.le_of_lt hlt) h0 h1)
      have LNA := Lib.hid (show (padV (V') ni).length = ni from padV_length (by rw [HVK.out]; exact Nat.le_of_lt hlt))
      have VLN := Lib.hid (show V'.length ≤ (padV (V') ni).length from by rw [LNA.out, HVK.out]; exact Nat.le_of_lt hlt)
      have NI1 := Lib.hid (show (padV (V') ni).length ≤ 10000 from by rw [LNA.out]; exact z7)
      have HXR := Lib.hid (goI_off HXK.out hd.out HJ.out)
      obtain ⟨xo, hx1, hx2, hx3, hx4⟩ := HEX.out
      rw [← HXR.out] at hx1 hx2
      dsimp only at hx1 hx2
      have HFIN := Lib.hid (runT_is (o := xo) HMY.out HRES.out (by rw [← HXR.out]; exact hx1))
      rw [← HXR.out] at HFIN
      dsimp only at HFIN
      have FGT := Lib.hid (HR9.out.fr gt _ ((if_neg NG.out.1).trans (if_pos rfl)))
      have FGR := Lib.hid (HR9.out.fr gr _ ((if_neg NG.out.2).trans ((if_neg NG2.out).trans (if_pos rfl))))
      have FG7 := Lib.hid (HR9.out.fr g7 _ (if_pos rfl))
      have KF := Lib.hid (fun (w' : World) (ha' : w'.heap[gt]? = some (.cells (trA t (.slice (some ad) ni ci) (.slice ao t.outs.length co) (.slice ac t.cells.length cc)) 26 (0, 0))) (hb' : w'.heap[gs]? = some (.cells (cells10 s'.ip s'.handler (.slice so n1 sc) (.slice bo n2 bc) (.slice mo4 nm mc4) s'.out s'.inp s'.read s'.status s'.code) 50 (0, 0))) (hc' : w'.heap[g7]? = some (.cells (insA (6, a, (kb : Int), (kc : Int), ex)) 42 (0, 0))) => show w'.cell? ⟨gt, 0, none⟩ = some (.int .i64 t.start) ∧ w'.cell? ⟨gt, 1, none⟩ = some (.int .i64 t.slots) ∧ w'.cell? ⟨gt, 2, none⟩ = some (.int .i64 t.backs) ∧ w'.cell? ⟨gt, 3, none⟩ = some (.int .i64 t.grow) ∧ w'.cell? ⟨gt, 4, none⟩ = some (.int .i64 t.growBack) ∧ w'.cell? ⟨gt, 5, none⟩ = some (.slice (some ad) ni ci) ∧ w'.cell? ⟨gt, 6, none⟩ = some (.slice ao t.outs.length co) ∧ w'.cell? ⟨gt, 7, none⟩ = some (.int .i64 t.last) ∧ w'.cell? ⟨gt, 8, none⟩ = some (.slice ac t.cells.length cc) ∧ w'.cell? ⟨gs, 0, none⟩ = some (.int .i64 s'.ip) ∧ w'.cell? ⟨gs, 1, none⟩ = some (.int .i64 s'.handler) ∧ w'.cell? ⟨gs, 2, none⟩ = some (.slice so n1 sc) ∧ w'.cell? ⟨gs, 3, none⟩ = some (.slice bo n2 bc) ∧ w'.cell? ⟨gs, 4, none⟩ = some (.slice mo4 nm mc4) ∧ w'.cell? ⟨gs, 5, none⟩ = some (.string s'.out) ∧ w'.cell? ⟨gs, 6, none⟩ = some (.string s'.inp) ∧ w'.cell? ⟨gs, 7, none⟩ = some (.int .i64 s'.read) ∧ w'.cell? ⟨gs, 8, none⟩ = some (.int .i64 s'.status) ∧ w'.cell? ⟨gs, 9, none⟩ = some (.int .i64 s'.code) ∧ w'.cell? ⟨g7, 4, none⟩ = some (.int .i64 ex) from ⟨whole_cell ha' rfl, whole_cell ha' rfl, whole_cell ha' rfl, whole_cell ha' rfl, whole_cell ha' rfl, whole_cell ha' rfl, whole_cell ha' rfl, whole_cell ha' rfl, whole_cell ha' rfl, whole_cell hb' rfl, whole_cell hb' rfl, whole_cell hb' rfl, whole_cell hb' rfl, whole_cell hb' rfl, whole_cell hb' rfl, whole_cell hb' rfl, whole_cell hb' rfl, whole_cell hb' rfl, whole_cell hb' rfl, whole_cell hc' rfl⟩)
      have CE := Lib.hid (fun wc (hb : Below w9.heap.size w9 wc) => rexit HRR.out HRS.out HRB.out (HR9.out.below hb) KIN.out hx1 hx2 PRE.out VLN.out NI1.out HN12.out.1 HN12.out.2 z1 z2 (Nat.le_trans hx3 (by decide)) (Nat.le_trans hx4 (by decide)) HRP.out.slots.1 HMP.out.1 HRP.out.backs.1 HMP.out.2)
      have HXX := Lib.hid (And.intro hx1 hx2)
      clear hx1 hx2 hx3 hx4
      have HBC : Hid (Below w9.heap.size w9 w9.drew) := Lib.hid (Below.refl _ _).drew
      have KX := Lib.hid (KF.out _ (boxOn FGT.out.1 HBC.out) (boxOn HR9.out.box HBC.out) (boxOn FG7.out.1 HBC.out))
      refine wp_region_held (S := fun w' => w'.cell? ⟨gt, 0, none⟩ = some (.int .i64 t.start) ∧ w'.cell? ⟨gt, 1, none⟩ = some (.int .i64 t.slots) ∧ w'.cell? ⟨gt, 2, none⟩ = some (.int .i64 t.backs) ∧ w'.cell? ⟨gt, 3, none⟩ = some (.int .i64 t.grow) ∧ w'.cell? ⟨gt, 4, none⟩ = some (.int .i64 t.growBack) ∧ w'.cell? ⟨gt, 5, none⟩ = some (.slice (some ad) ni ci) ∧ w'.cell? ⟨gt, 6, none⟩ = some (.slice ao t.outs.length co) ∧ w'.cell? ⟨gt, 7, none⟩ = some (.int .i64 t.last) ∧ w'.cell? ⟨gt, 8, none⟩ = some (.slice ac t.cells.length cc) ∧ w'.cell? ⟨gs, 0, none⟩ = some (.int .i64 s'.ip) ∧ w'.cell? ⟨gs, 1, none⟩ = some (.int .i64 s'.handler) ∧ w'.cell? ⟨gs, 2, none⟩ = some (.slice so n1 sc) ∧ w'.cell? ⟨gs, 3, none⟩ = some (.slice bo n2 bc) ∧ w'.cell? ⟨gs, 4, none⟩ = some (.slice mo4 nm mc4) ∧ w'.cell? ⟨gs, 5, none⟩ = some (.string s'.out) ∧ w'.cell? ⟨gs, 6, none⟩ = some (.string s'.inp) ∧ w'.cell? ⟨gs, 7, none⟩ = some (.int .i64 s'.read) ∧ w'.cell? ⟨gs, 8, none⟩ = some (.int .i64 s'.status) ∧ w'.cell? ⟨gs, 9, none⟩ = some (.int .i64 s'.code) ∧ w'.cell? ⟨g7, 4, none⟩ = some (.int .i64 ex)) (by kernel_rfl) ?_
      change wpAnyH _ _ _ _ _ _ _ _ (World.drew w9)
      refine wpAnyH_take (i := 0) (oi := ⟨some 251, _, _, _, _, _⟩) (v := ?_) rfl (by kernel_rfl) (by kernel_rfl) (by kernel_rfl) (fun _ _ _ h => HQP.out _ _ _ _ _ h) (Or.inl ⟨by rfl, ?_⟩) KX.out ?_; rotate_left; · intro w hSw; (try dsimp only at hSw); go_simp; try with_reducible rfl
      try simp only [Act.put, sx1, sx2, sx3]
      refine wpAnyH_take (i := 1) (oi := ⟨some 252, _, _, _, _, _⟩) (v := ?_) rfl (by kernel_rfl) (by kernel_rfl) (by kernel_rfl) (fun _ _ _ h => HQP.out _ _ _ _ _ h) (Or.inl ⟨by rfl, ?_⟩) KX.out ?_; rotate_left; · intro w hSw; (try dsimp only at hSw); go_simp; try with_reducible rfl
      try simp only [Act.put, sx1, sx2, sx3]
      refine wpAnyH_take (i := 2) (oi := ⟨some 253, _, _, _, _, _⟩) (v := ?_) rfl (by kernel_rfl) (by kernel_rfl) (by kernel_rfl) (fun _ _ _ h => HQP.out _ _ _ _ _ h) (Or.inl ⟨by rfl, ?_⟩) KX.out ?_; rotate_left; · intro w hSw; (try dsimp only at hSw); go_simp; try with_reducible rfl
      try simp only [Act.put, sx1, sx2, sx3]
      refine wpAnyH_take (i := 3) (oi := ⟨some 254, _, _, _, _, _⟩) (v := ?_) rfl (by kernel_rfl) (by kernel_rfl) (by kernel_rfl) (fun _ _ _ h => HQP.out _ _ _ _ _ h) (Or.inl ⟨by rfl, ?_⟩) KX.out ?_; rotate_left; · intro w hSw; (try dsimp only at hSw); go_simp; try with_reducible rfl
      try simp only [Act.put, sx1, sx2, sx3]
      refine wpAnyH_take (i := 4) (oi := ⟨some 255, _, _, _, _, _⟩) (v := ?_) rfl (by kernel_rfl) (by kernel_rfl) (by kernel_rfl) (fun _ _ _ h => HQP.out _ _ _ _ _ h) (Or.inl ⟨by rfl, ?_⟩) KX.out ?_; rotate_left; · intro w hSw; (try dsimp only at hSw); go_simp; try with_reducible rfl
      try simp only [Act.put, sx1, sx2, sx3]
      refine wpAnyH_take (i := 6) (oi := ⟨some 257, _, _, _, _, _⟩) (v := ?_) rfl (by kernel_rfl) (by kernel_rfl) (by kernel_rfl) (fun _ _ _ h => HQP.out _ _ _ _ _ h) (Or.inl ⟨by rfl, ?_⟩) KX.out ?_; rotate_left; · intro w hSw; (try dsimp only at hSw); go_simp; try with_reducible rfl
      try simp only [Act.put, sx1, sx2, sx3]
      refine wpAnyH_take (i := 7) (oi := ⟨some 258, _, _, _, _, _⟩) (v := ?_) rfl (by kernel_rfl) (by kernel_rfl) (by kernel_rfl) (fun _ _ _ h => HQP.out _ _ _ _ _ h) (Or.inl ⟨by rfl, ?_⟩) KX.out ?_; rotate_left; · intro w hSw; (try dsimp only at hSw); go_simp; try with_reducible rfl
      try simp only [Act.put, sx1, sx2, sx3]
      refine wpAnyH_ready (rs := [5]) (by kernel_rfl) (by simp) ?_
      refine AllReadyH.cons rfl (fun K hK => ?_) ?_
      rotate_left
      · exact AllReadyH.nil
      go_simp
      go_at_call 88
      refine (CE.out _ HBC.out).mono ?_
      rintro e wl ⟨v1, v2, rfl, ho1, ho2, hap, hbl⟩
      have HO1 := Lib.hid ho1
      have HO2 := Lib.hid ho2
      have HAP := Lib.hid hap
      have HMC := Lib.hid (show Value.oneCell' (.slice mo4 nm mc4) = true from rfl)
      have HBL := Lib.hid (HBC.out.trans (hbl.mono HBC.out.size))
      have HON := Lib.hid (And.intro (slice_one ho1.slice) (slice_one ho2.slice))
      have KX := Lib.hid (KF.out _ (boxOn FGT.out.1 HBL.out) (boxOn HR9.out.box HBL.out) (boxOn FG7.out.1 HBL.out))
      have FGL := Lib.hid (boxOn FGR.out.1 HBL.out)
      clear ho1 ho2 hap hbl
      try dsimp only
      go_wp2_with fail
      refine hK.out _ _ KX.out (fun hHeld => ?_)
      clear hK K hHeld
      try simp only [Act.put, sx1, sx2, sx3]
      refine wpAnyH_ready (rs := [8]) (by kernel_rfl) (by simp) ?_
      refine AllReadyH.cons rfl (fun K hK => ?_) ?_
      rotate_left
      · exact AllReadyH.nil
      refine step_st_state (by rfl) _ _ rfl gr _ rfl rfl _ FGL.out rfl rfl (all_one HON.out.1 HON.out.2 HMC.out) ?_
      intro we he te
      have HWE := Lib.hid he
      have HTE := Lib.hid te
      have KX := Lib.hid (KF.out _ (te.whole (boxOn FGT.out.1 HBL.out) (fun hm => NGR.out.1 (List.mem_singleton.1 hm))) (te.whole (boxOn HR9.out.box HBL.out) (fun hm => NGR.out.2 (List.mem_singleton.1 hm))) (te.whole (boxOn FG7.out.1 HBL.out) (fun hm => NG.out.2 (List.mem_singleton.1 hm).symm)))
      clear he te
      refine hK.out _ _ KX.out (fun hHeld => ?_)
      clear hK K hHeld
      try simp only [Act.put, sx1, sx2, sx3]
      refine wpAnyH_take (i := 9) (oi := ⟨some 7, _, _, _, _, _⟩) (v := ?_) rfl (by kernel_rfl) (by kernel_rfl) (by kernel_rfl) (fun _ _ _ h => HQP.out _ _ _ _ _ h) (Or.inl ⟨by rfl, ?_⟩) KX.out ?_; rotate_left; · intro w hSw; (try dsimp only at hSw); go_simp; try with_reducible rfl
      try simp only [Act.put, sx1, sx2, sx3]
      refine wpAnyH_take (i := 10) (oi := ⟨some 8, _, _, _, _, _⟩) (v := ?_) rfl (by kernel_rfl) (by kernel_rfl) (by kernel_rfl) (fun _ _ _ h => HQP.out _ _ _ _ _ h) (Or.inl ⟨by rfl, ?_⟩) KX.out ?_; rotate_left; · intro w hSw; (try dsimp only at hSw); go_simp; try with_reducible rfl
      try simp only [Act.put, sx1, sx2, sx3]
      refine wpAnyH_done (by kernel_rfl) ?_ _
      go_wp2_with fail
      refine HRX.out _ _ _ rfl (results_cell_tmps rfl _ _ gr _ _ _ _ rfl HWE.out Tryz.underlying50 rfl state_size) ?_
      rw [HFIN.out]
      exact rdone HR9.out FGR.out HGRW.out HO1.out HO2.out HAP.out HBL.out HTE.out
    · have e1 : decide (xb < 0) = false := decide_eq_false hneg
      have e2 : decide ((nm : Int) ≤ xb) = true := decide_eq_true (by omega)
      go_upto_region 59 with fail
      clear v0 v1 u0 q0 u1 q1 p0 p1 b2 b3 b4
      have KIN := Lib.hid (HQ.out.1)
      have PRE := Lib.hid (show ∀ p : Int, 0 ≤ p → p < (V'.length : Int) → val (padV (V') ni) p = val V' p from fun p h0 h1 => val_padV (by rw [HVK.out]; exact Nat.le_of_lt hlt) h0 h1)
      have LNA := Lib.hid (show (padV (V') ni).length = ni from padV_length (by rw [HVK.out]; exact Nat.le_of_lt hlt))
      have VLN := Lib.hid (show V'.length ≤ (padV (V') ni).length from by rw [LNA.out, HVK.out]; exact Nat.le_of_lt hlt)
      have NI1 := Lib.hid (show (padV (V') ni).length ≤ 10000 from by rw [LNA.out]; exact z7)
      have HXR := Lib.hid (goI_off HXK.out hd.out HJ.out)
      obtain ⟨xo, hx1, hx2, hx3, hx4⟩ := HEX.out
      rw [← HXR.out] at hx1 hx2
      dsimp only at hx1 hx2
      have HFIN := Lib.hid (runT_is (o := xo) HMY.out HRES.out (by rw [← HXR.out]; exact hx1))
      rw [← HXR.out] at HFIN
      dsimp only at HFIN
      have FGT := Lib.hid (HR9.out.fr gt _ ((if_neg NG.out.1).trans (if_pos rfl)))
      have FGR := Lib.hid (HR9.out.fr gr _ ((if_neg NG.out.2).trans ((if_neg NG2.out).trans (if_pos rfl))))
      have FG7 := Lib.hid (HR9.out.fr g7 _ (if_pos rfl))
      have KF := Lib.hid (fun (w' : World) (ha' : w'.heap[gt]? = some (.cells (trA t (.slice (some ad) ni ci) (.slice ao t.outs.length co) (.slice ac t.cells.length cc)) 26 (0, 0))) (hb' : w'.heap[gs]? = some (.cells (cells10 s'.ip s'.handler (.slice so n1 sc) (.slice bo n2 bc) (.slice mo4 nm mc4) s'.out s'.inp s'.read s'.status s'.code) 50 (0, 0))) (hc' : w'.heap[g7]? = some (.cells (insA (6, a, (kb : Int), (kc : Int), ex)) 42 (0, 0))) => show w'.cell? ⟨gt, 0, none⟩ = some (.int .i64 t.start) ∧ w'.cell? ⟨gt, 1, none⟩ = some (.int .i64 t.slots) ∧ w'.cell? ⟨gt, 2, none⟩ = some (.int .i64 t.backs) ∧ w'.cell? ⟨gt, 3, none⟩ = some (.int .i64 t.grow) ∧ w'.cell? ⟨gt, 4, none⟩ = some (.int .i64 t.growBack) ∧ w'.cell? ⟨gt, 5, none⟩ = some (.slice (some ad) ni ci) ∧ w'.cell? ⟨gt, 6, none⟩ = some (.slice ao t.outs.length co) ∧ w'.cell? ⟨gt, 7, none⟩ = some (.int .i64 t.last) ∧ w'.cell? ⟨gt, 8, none⟩ = some (.slice ac t.cells.length cc) ∧ w'.cell? ⟨gs, 0, none⟩ = some (.int .i64 s'.ip) ∧ w'.cell? ⟨gs, 1, none⟩ = some (.int .i64 s'.handler) ∧ w'.cell? ⟨gs, 2, none⟩ = some (.slice so n1 sc) ∧ w'.cell? ⟨gs, 3, none⟩ = some (.slice bo n2 bc) ∧ w'.cell? ⟨gs, 4, none⟩ = some (.slice mo4 nm mc4) ∧ w'.cell? ⟨gs, 5, none⟩ = some (.string s'.out) ∧ w'.cell? ⟨gs, 6, none⟩ = some (.string s'.inp) ∧ w'.cell? ⟨gs, 7, none⟩ = some (.int .i64 s'.read) ∧ w'.cell? ⟨gs, 8, none⟩ = some (.int .i64 s'.status) ∧ w'.cell? ⟨gs, 9, none⟩ = some (.int .i64 s'.code) ∧ w'.cell? ⟨g7, 4, none⟩ = some (.int .i64 ex) from ⟨whole_cell ha' rfl, whole_cell ha' rfl, whole_cell ha' rfl, whole_cell ha' rfl, whole_cell ha' rfl, whole_cell ha' rfl, whole_cell ha' rfl, whole_cell ha' rfl, whole_cell ha' rfl, whole_cell hb' rfl, whole_cell hb' rfl, whole_cell hb' rfl, whole_cell hb' rfl, whole_cell hb' rfl, whole_cell hb' rfl, whole_cell hb' rfl, whole_cell hb' rfl, whole_cell hb' rfl, whole_cell hb' rfl, whole_cell hc' rfl⟩)
      have CE := Lib.hid (fun wc (hb : Below w9.heap.size w9 wc) => rexit HRR.out HRS.out HRB.out (HR9.out.below hb) KIN.out hx1 hx2 PRE.out VLN.out NI1.out HN12.out.1 HN12.out.2 z1 z2 (Nat.le_trans hx3 (by decide)) (Nat.le_trans hx4 (by decide)) HRP.out.slots.1 HMP.out.1 HRP.out.backs.1 HMP.out.2)
      have HXX := Lib.hid (And.intro hx1 hx2)
      clear hx1 hx2 hx3 hx4
      have HBC : Hid (Below w9.heap.size w9 w9.drew) := Lib.hid (Below.refl _ _).drew
      have KX := Lib.hid (KF.out _ (boxOn FGT.out.1 HBC.out) (boxOn HR9.out.box HBC.out) (boxOn FG7.out.1 HBC.out))
      refine wp_region_held (S := fun w' => w'.cell? ⟨gt, 0, none⟩ = some (.int .i64 t.start) ∧ w'.cell? ⟨gt, 1, none⟩ = some (.int .i64 t.slots) ∧ w'.cell? ⟨gt, 2, none⟩ = some (.int .i64 t.backs) ∧ w'.cell? ⟨gt, 3, none⟩ = some (.int .i64 t.grow) ∧ w'.cell? ⟨gt, 4, none⟩ = some (.int .i64 t.growBack) ∧ w'.cell? ⟨gt, 5, none⟩ = some (.slice (some ad) ni ci) ∧ w'.cell? ⟨gt, 6, none⟩ = some (.slice ao t.outs.length co) ∧ w'.cell? ⟨gt, 7, none⟩ = some (.int .i64 t.last) ∧ w'.cell? ⟨gt, 8, none⟩ = some (.slice ac t.cells.length cc) ∧ w'.cell? ⟨gs, 0, none⟩ = some (.int .i64 s'.ip) ∧ w'.cell? ⟨gs, 1, none⟩ = some (.int .i64 s'.handler) ∧ w'.cell? ⟨gs, 2, none⟩ = some (.slice so n1 sc) ∧ w'.cell? ⟨gs, 3, none⟩ = some (.slice bo n2 bc) ∧ w'.cell? ⟨gs, 4, none⟩ = some (.slice mo4 nm mc4) ∧ w'.cell? ⟨gs, 5, none⟩ = some (.string s'.out) ∧ w'.cell? ⟨gs, 6, none⟩ = some (.string s'.inp) ∧ w'.cell? ⟨gs, 7, none⟩ = some (.int .i64 s'.read) ∧ w'.cell? ⟨gs, 8, none⟩ = some (.int .i64 s'.status) ∧ w'.cell? ⟨gs, 9, none⟩ = some (.int .i64 s'.code) ∧ w'.cell? ⟨g7, 4, none⟩ = some (.int .i64 ex)) (by kernel_rfl) ?_
      change wpAnyH _ _ _ _ _ _ _ _ (World.drew w9)
      refine wpAnyH_take (i := 0) (oi := ⟨some 251, _, _, _, _, _⟩) (v := ?_) rfl (by kernel_rfl) (by kernel_rfl) (by kernel_rfl) (fun _ _ _ h => HQP.out _ _ _ _ _ h) (Or.inl ⟨by rfl, ?_⟩) KX.out ?_; rotate_left; · intro w hSw; (try dsimp only at hSw); go_simp; try with_reducible rfl
      try simp only [Act.put, sx1, sx2, sx3]
      refine wpAnyH_take (i := 1) (oi := ⟨some 252, _, _, _, _, _⟩) (v := ?_) rfl (by kernel_rfl) (by kernel_rfl) (by kernel_rfl) (fun _ _ _ h => HQP.out _ _ _ _ _ h) (Or.inl ⟨by rfl, ?_⟩) KX.out ?_; rotate_left; · intro w hSw; (try dsimp only at hSw); go_simp; try with_reducible rfl
      try simp only [Act.put, sx1, sx2, sx3]
      refine wpAnyH_take (i := 2) (oi := ⟨some 253, _, _, _, _, _⟩) (v := ?_) rfl (by kernel_rfl) (by kernel_rfl) (by kernel_rfl) (fun _ _ _ h => HQP.out _ _ _ _ _ h) (Or.inl ⟨by rfl, ?_⟩) KX.out ?_; rotate_left; · intro w hSw; (try dsimp only at hSw); go_simp; try with_reducible rfl
      try simp only [Act.put, sx1, sx2, sx3]
      refine wpAnyH_take (i := 3) (oi := ⟨some 254, _, _, _, _, _⟩) (v := ?_) rfl (by kernel_rfl) (by kernel_rfl) (by kernel_rfl) (fun _ _ _ h => HQP.out _ _ _ _ _ h) (Or.inl ⟨by rfl, ?_⟩) KX.out ?_; rotate_left; · intro w hSw; (try dsimp only at hSw); go_simp; try with_reducible rfl
      try simp only [Act.put, sx1, sx2, sx3]
      refine wpAnyH_take (i := 4) (oi := ⟨some 255, _, _, _, _, _⟩) (v := ?_) rfl (by kernel_rfl) (by kernel_rfl) (by kernel_rfl) (fun _ _ _ h => HQP.out _ _ _ _ _ h) (Or.inl ⟨by rfl, ?_⟩) KX.out ?_; rotate_left; · intro w hSw; (try dsimp only at hSw); go_simp; try with_reducible rfl
      try simp only [Act.put, sx1, sx2, sx3]
      refine wpAnyH_take (i := 6) (oi := ⟨some 257, _, _, _, _, _⟩) (v := ?_) rfl (by kernel_rfl) (by kernel_rfl) (by kernel_rfl) (fun _ _ _ h => HQP.out _ _ _ _ _ h) (Or.inl ⟨by rfl, ?_⟩) KX.out ?_; rotate_left; · intro w hSw; (try dsimp only at hSw); go_simp; try with_reducible rfl
      try simp only [Act.put, sx1, sx2, sx3]
      refine wpAnyH_take (i := 7) (oi := ⟨some 258, _, _, _, _, _⟩) (v := ?_) rfl (by kernel_rfl) (by kernel_rfl) (by kernel_rfl) (fun _ _ _ h => HQP.out _ _ _ _ _ h) (Or.inl ⟨by rfl, ?_⟩) KX.out ?_; rotate_left; · intro w hSw; (try dsimp only at hSw); go_simp; try with_reducible rfl
      try simp only [Act.put, sx1, sx2, sx3]
      refine wpAnyH_ready (rs := [5]) (by kernel_rfl) (by simp) ?_
      refine AllReadyH.cons rfl (fun K hK => ?_) ?_
      rotate_left
      · exact AllReadyH.nil
      go_simp
      go_at_call 88
      refine (CE.out _ HBC.out).mono ?_
      rintro e wl ⟨v1, v2, rfl, ho1, ho2, hap, hbl⟩
      have HO1 := Lib.hid ho1
      have HO2 := Lib.hid ho2
      have HAP := Lib.hid hap
      have HMC := Lib.hid (show Value.oneCell' (.slice mo4 nm mc4) = true from rfl)
      have HBL := Lib.hid (HBC.out.trans (hbl.mono HBC.out.size))
      have HON := Lib.hid (And.intro (slice_one ho1.slice) (slice_one ho2.slice))
      have KX := Lib.hid (KF.out _ (boxOn FGT.out.1 HBL.out) (boxOn HR9.out.box HBL.out) (boxOn FG7.out.1 HBL.out))
      have FGL := Lib.hid (boxOn FGR.out.1 HBL.out)
      clear ho1 ho2 hap hbl
      try dsimp only
      go_wp2_with fail
      refine hK.out _ _ KX.out (fun hHeld => ?_)
      clear hK K hHeld
      try simp only [Act.put, sx1, sx2, sx3]
      refine wpAnyH_ready (rs := [8]) (by kernel_rfl) (by simp) ?_
      refine AllReadyH.cons rfl (fun K hK => ?_) ?_
      rotate_left
      · exact AllReadyH.nil
      refine step_st_state (by rfl) _ _ rfl gr _ rfl rfl _ FGL.out rfl rfl (all_one HON.out.1 HON.out.2 HMC.out) ?_
      intro we he te
      have HWE := Lib.hid he
      have HTE := Lib.hid te
      have KX := Lib.hid (KF.out _ (te.whole (boxOn FGT.out.1 HBL.out) (fun hm => NGR.out.1 (List.mem_singleton.1 hm))) (te.whole (boxOn HR9.out.box HBL.out) (fun hm => NGR.out.2 (List.mem_singleton.1 hm))) (te.whole (boxOn FG7.out.1 HBL.out) (fun hm => NG.out.2 (List.mem_singleton.1 hm).symm)))
      clear he te
      refine hK.out _ _ KX.out (fun hHeld => ?_)
      clear hK K hHeld
      try simp only [Act.put, sx1, sx2, sx3]
      refine wpAnyH_take (i := 9) (oi := ⟨some 7, _, _, _, _, _⟩) (v := ?_) rfl (by kernel_rfl) (by kernel_rfl) (by kernel_rfl) (fun _ _ _ h => HQP.out _ _ _ _ _ h) (Or.inl ⟨by rfl, ?_⟩) KX.out ?_; rotate_left; · intro w hSw; (try dsimp only at hSw); go_simp; try with_reducible rfl
      try simp only [Act.put, sx1, sx2, sx3]
      refine wpAnyH_take (i := 10) (oi := ⟨some 8, _, _, _, _, _⟩) (v := ?_) rfl (by kernel_rfl) (by kernel_rfl) (by kernel_rfl) (fun _ _ _ h => HQP.out _ _ _ _ _ h) (Or.inl ⟨by rfl, ?_⟩) KX.out ?_; rotate_left; · intro w hSw; (try dsimp only at hSw); go_simp; try with_reducible rfl
      try simp only [Act.put, sx1, sx2, sx3]
      refine wpAnyH_done (by kernel_rfl) ?_ _
      go_wp2_with fail
      refine HRX.out _ _ _ rfl (results_cell_tmps rfl _ _ gr _ _ _ _ rfl HWE.out Tryz.underlying50 rfl state_size) ?_
      rw [HFIN.out]
      exact rdone HR9.out FGR.out HGRW.out HO1.out HO2.out HAP.out HBL.out HTE.out
end Go.Proofs.YtpecingkoodmfaaGreatDoor.Ev
