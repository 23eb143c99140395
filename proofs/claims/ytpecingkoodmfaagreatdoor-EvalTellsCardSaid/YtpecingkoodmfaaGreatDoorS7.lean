/- The document's answer to chapter 14: may a trace be? -/
import Derived.Test.YtpecingkoodmfaaGreatDoorS4
import Derived.Test.YtpecingkoodmfaaGreatDoorS5
import Derived.Test.YtpecingkoodmfaaGreatDoorS6
import Derived.BigQuiet
import Derived.Deep.QuietTactic
namespace Go.Proofs.YtpecingkoodmfaaGreatDoor.Ir
open Go.RowKit Book Mem
set_option linter.unusedSimpArgs false
set_option linter.unusedVariables false
theorem swap_and (a b c d : Bool) : (a && (b && (c && d))) = (c && (b && (a && d))) := by cases a <;> cases b <;> cases c <;> rfl
theorem works_lo {t : T} {op a b c d : Int} (h : op < 1 ∨ 12 < op) : works t (op, a, b, c, d) = false := by
 unfold works
 rw [if_neg (by show ¬ op = 2; omega), if_neg (by show ¬ op = 3; omega), if_neg (by show ¬ op = 4; omega)]
 exact within_no (by show ¬ (0 ≤ op - 1 ∧ op - 1 ≤ 11); omega)
theorem works_in {t : T} {op a b c d : Int} (h1 : 1 ≤ op) (h2 : op ≤ 12) (n2 : op ≠ 2) (n3 : op ≠ 3) (n4 : op ≠ 4) : works t (op, a, b, c, d) = true := by
 unfold works
 rw [if_neg n2, if_neg n3, if_neg n4]
 exact within_yes (by show 0 ≤ op - 1; omega) (by show op - 1 ≤ 11; omega)
/-- cells that rise, held against the one ahead -/
theorem rise_step {l : List Int} {k : Nat} {x : Int} (hx : l[k]? = some x) {least : Int} (hl : if k = 0 then least = 0 else ∃ y, l[k - 1]? = some y ∧ least = y + 1 ∧ 0 ≤ y) : (decide (least ≤ x ∧ x < 3000) = (within x 2999 && (decide (k = 0) || decide ((l.getD (k - 1) 0) < x)))) ∧ 0 ≤ least := by
 by_cases h0 : k = 0
 ·rw [if_pos h0] at hl
  subst hl
  refine ⟨?_, by omega⟩
  rw [decide_eq_true h0, Bool.true_or, Bool.and_true]
  unfold within
  exact decide_eq_decide.2 (by omega)
 ·rw [if_neg h0] at hl
  obtain ⟨y, hy, rfl, hy0⟩ := hl
  refine ⟨?_, by omega⟩
  rw [decide_eq_false h0, Bool.false_or, List.getD_eq_getElem?_getD, hy]
  unfold within
  rw [← Bool.decide_and]
  exact decide_eq_decide.2 (by simp only [Option.getD_some]; omega)
set_option maxHeartbeats 32000000 in
set_option maxRecDepth 100000 in
theorem rright_any {w : World} {t : T} {vi vo vc : Value} (h : ReadsL w vi vo vc t) (hs : Small t) : Calls Tryz.prog 9 #[trV t vi vo vc] w (Says (.bool (rightT t)) w) := by
 obtain ⟨ai, ci, ao, co, ac, cc, rfl, rfl, rfl⟩ := h.known
 obtain ⟨m, hm⟩ : ∃ m, t.ins.length = m := ⟨_, rfl⟩
 obtain ⟨no, hno⟩ : ∃ no, t.outs.length = no := ⟨_, rfl⟩
 obtain ⟨nc, hnc⟩ : ∃ nc, t.cells.length = nc := ⟨_, rfl⟩
 have HM := Lib.hid hm
 have HNO := Lib.hid hno
 have HNC := Lib.hid hnc
 rw [hm, hno, hnc] at h ⊢
 have HS := Lib.hid hs
 obtain ⟨w1, g, hw1, hg, HG, HB, HZ⟩ := newBox w (trA t (.slice ai m ci) (.slice ao no co) (.slice ac nc cc)) 26
 have HR := Lib.hid (h.below HB.out)
 obtain ⟨c0, c1, c2, c3, c4, c5, c6, c7, c8⟩ := cells9 HG.out
 obtain ⟨res, hres⟩ : ∃ res, rightT t = res := ⟨_, rfl⟩
 have HRB := Lib.hid (show (decide (m ≤ 1000) && (decide (no ≤ 300) && (takes t && (insFrom t 0 t.ins && (t.outs.all (outOk t) && (rise 0 t.cells && endOk t)))))) = res by rw [← hres, ← hm, ← hno, rightT_parts, swap_and (rise 0 t.cells) (t.outs.all (outOk t)) (insFrom t 0 t.ins) (endOk t)])
 rw [hres]
 have hmS : m ≤ 1000000 := by rw [← hm]; exact hs.ins
 have hoS : no ≤ 1000000 := by rw [← hno]; exact hs.outs
 have hcS : nc ≤ 1000000 := by rw [← hnc]; exact hs.cells
 have CN := Lib.hid (fun wd (hb : Below w1.heap.size w1 wd) (k : Nat) (hk : k ≤ t.ins.length) (x : I) (v : Value) (hv : Reads wd v (usesL x)) => named_any (HR.out.below hb) hv k hk (Nat.le_trans hk HS.out.ins) (Nat.le_trans (usesL_len x) (by decide)))
 have CL := Lib.hid (fun wd (hb : Below w1.heap.size w1 wd) (y : Int) (k : Nat) (hk : k ≤ t.ins.length) => rout_any (HR.out.below hb) HS.out y k hk)
 have HEN := Lib.hid (show ∀ (k : Nat) (x : O), t.outs[k]? = some x → t.last = k → endOk t = (leads t (k : Int) (m : Int) && decide (1 ≤ x.steps)) from fun k x hx hl => by rw [endOk_at hx hl, leads_at hx, hm])
 have HE0 := Lib.hid (show ¬ (0 ≤ t.last ∧ t.last < (t.outs.length : Int)) → endOk t = false ∧ leads t t.last (m : Int) = false from fun hl => And.intro (endOk_no hl) (leads_no (at' := (m : Int)) hl))
 have HIF := Lib.hid (show ∀ (k : Nat) (x : I), t.ins[k]? = some x → insFrom t k (t.ins.drop k) = (insOk t k x && insFrom t (k + 1) (t.ins.drop (k + 1))) from fun k x hx => insFrom_at hx)
 have HIO := Lib.hid (show ∀ (k : Nat) (x : I), insOk t k x = ((works t x && known t.ins (usesL x) (k : Int)) && (outsL x).all (fun y => leads t y (k : Int))) from fun k x => rfl)
 have HI0 := Lib.hid (show ∀ k, insFrom t k [] = true from fun k => by unfold insFrom; rfl)
 have HW0 := Lib.hid (show ∀ op a b c d : Int, op < 1 ∨ 12 < op → works t (op, a, b, c, d) = false from fun op a b c d h => works_lo h)
 have HW1 := Lib.hid (show ∀ op a b c d : Int, 1 ≤ op → op ≤ 12 → op ≠ 2 → op ≠ 3 → op ≠ 4 → works t (op, a, b, c, d) = true from fun op a b c d h1 h2 h3 h4 h5 => works_in h1 h2 h3 h4 h5)
 have HW2 := Lib.hid (show ∀ a b c d : Int, works t (2, a, b, c, d) = within a (t.slots - 1) ∧ works t (3, a, b, c, d) = within a (t.backs - 1) ∧ works t (4, a, b, c, d) = (twoI a || oneI a) from fun a b c d => ⟨rfl, rfl, rfl⟩)
 have HFO := Lib.hid (show ∀ x : O, outOk t x = (within x.steps 120 && within x.ip 2999 && decide ((x.stack.length : Int) ≤ t.slots + t.grow) && decide ((x.back.length : Int) ≤ t.backs + t.growBack)) from fun x => rfl)
 have HTA := Lib.hid (show takes t = true → (0 ≤ t.start ∧ t.start ≤ 2999) ∧ (0 ≤ t.slots ∧ t.slots ≤ 48) ∧ (0 ≤ t.grow ∧ t.grow ≤ 48) ∧ (0 ≤ t.backs ∧ t.backs ≤ 48) ∧ (0 ≤ t.growBack ∧ t.growBack ≤ 48) from takes_all)
 have HTK := Lib.hid (show takes t = (within t.start 2999 && within t.slots 48 && within t.grow 48 && within t.backs 48 && within t.growBack 48) from rfl)
 obtain ⟨fo, hfo⟩ : ∃ f, outOk t = f := ⟨_, rfl⟩
 obtain ⟨fi, hfi⟩ : ∃ f, insOk t = f := ⟨_, rfl⟩
 obtain ⟨fl, hfl⟩ : ∃ f, leads t = f := ⟨_, rfl⟩
 obtain ⟨ff, hff⟩ : ∃ f, insFrom t = f := ⟨_, rfl⟩
 obtain ⟨fw, hfw⟩ : ∃ f, works t = f := ⟨_, rfl⟩
 obtain ⟨en, hen⟩ : ∃ f, endOk t = f := ⟨_, rfl⟩
 obtain ⟨tk, htk⟩ : ∃ f, takes t = f := ⟨_, rfl⟩
 rw [hfo, hff, hen, htk] at HRB
 rw [hfl] at CL
 rw [hen, hfl] at HEN HE0
 rw [hff, hfi] at HIF
 rw [hfi, hfw, hfl] at HIO
 rw [hff] at HI0
 rw [hfw] at HW0 HW1 HW2
 rw [hfo] at HFO
 rw [htk] at HTA HTK
 obtain ⟨st, sl, bks, gr, gb, ins, outs, la, cells⟩ := t
 dsimp only at *
 clear h hs hm hno hnc hres hfo hfi hfl hff hfw hen htk
 by_cases h1 : 1000 < m
 ·have HF := Lib.hid (show res = false by rw [← HRB.out, decide_eq_false (by omega)]; rfl)
  have d1 : decide (1000 < (m : Int)) = true := decide_eq_true (by omega)
  clear h1
  go_enter Tryz.func9, Tryz.ntmps9
  go_wp2
  go_ret
  exact ⟨by rw [HF.out]; rfl, HB.out⟩
 have d1 : decide (1000 < (m : Int)) = false := decide_eq_false (by omega)
 by_cases h2 : 300 < no
 ·have HF := Lib.hid (show res = false by rw [← HRB.out, decide_eq_false (p := no ≤ 300) (by omega)]; simp)
  have d2 : decide (300 < (no : Int)) = true := decide_eq_true (by omega)
  clear h1 h2
  go_enter Tryz.func9, Tryz.ntmps9
  go_wp2
  go_ret
  exact ⟨by rw [HF.out]; rfl, HB.out⟩
 have d2 : decide (300 < (no : Int)) = false := decide_eq_false (by omega)
 have HR2 := Lib.hid (show (tk && (ff 0 ins && (outs.all fo && (rise 0 cells && en)))) = res by
  have h := HRB.out
  rw [decide_eq_true (show m ≤ 1000 by omega), decide_eq_true (show no ≤ 300 by omega), Bool.true_and, Bool.true_and] at h
  exact h)
 clear h1 h2 HRB
 have D0 := Lib.hid (rwithin_any st 2999 w1)
 cases q0 : within st 2999 with
 | false =>
  rw [q0] at D0 HTK
  have HF := Lib.hid (show res = false by rw [← HR2.out, HTK.out]; simp)
  clear q0
  go_enter Tryz.func9, Tryz.ntmps9
  go_wp2_with fail
  refine D0.out.mono ?_
  rintro e wz ⟨rfl, hwz⟩
  subst wz
  go_wp2
  go_ret
  exact ⟨by rw [HF.out]; rfl, HB.out⟩
 | true =>
 rw [q0] at D0 HTK
 clear q0
 have D1 := Lib.hid (rwithin_any sl 48 w1)
 cases q1 : within sl 48 with
 | false =>
  rw [q1] at D1 HTK
  have HF := Lib.hid (show res = false by rw [← HR2.out, HTK.out]; simp)
  clear q1
  go_enter Tryz.func9, Tryz.ntmps9
  go_wp2_with fail
  refine D0.out.mono ?_
  rintro e wz ⟨rfl, hwz⟩
  subst wz
  go_wp2_with fail
  refine D1.out.mono ?_
  rintro e wz ⟨rfl, hwz⟩
  subst wz
  go_wp2
  go_ret
  exact ⟨by rw [HF.out]; rfl, HB.out⟩
 | true =>
 rw [q1] at D1 HTK
 clear q1
 have D2 := Lib.hid (rwithin_any gr 48 w1)
 cases q2 : within gr 48 with
 | false =>
  rw [q2] at D2 HTK
  have HF := Lib.hid (show res = false by rw [← HR2.out, HTK.out]; simp)
  clear q2
  go_enter Tryz.func9, Tryz.ntmps9
  go_wp2_with fail
  refine D0.out.mono ?_
  rintro e wz ⟨rfl, hwz⟩
  subst wz
  go_wp2_with fail
  refine D1.out.mono ?_
  rintro e wz ⟨rfl, hwz⟩
  subst wz
  go_wp2_with fail
  refine D2.out.mono ?_
  rintro e wz ⟨rfl, hwz⟩
  subst wz
  go_wp2
  go_ret
  exact ⟨by rw [HF.out]; rfl, HB.out⟩
 | true =>
 rw [q2] at D2 HTK
 clear q2
 have D3 := Lib.hid (rwithin_any bks 48 w1)
 cases q3 : within bks 48 with
 | false =>
  rw [q3] at D3 HTK
  have HF := Lib.hid (show res = false by rw [← HR2.out, HTK.out]; simp)
  clear q3
  go_enter Tryz.func9, Tryz.ntmps9
  go_wp2_with fail
  refine D0.out.mono ?_
  rintro e wz ⟨rfl, hwz⟩
  subst wz
  go_wp2_with fail
  refine D1.out.mono ?_
  rintro e wz ⟨rfl, hwz⟩
  subst wz
  go_wp2_with fail
  refine D2.out.mono ?_
  rintro e wz ⟨rfl, hwz⟩
  subst wz
  go_wp2_with fail
  refine D3.out.mono ?_
  rintro e wz ⟨rfl, hwz⟩
  subst wz
  go_wp2
  go_ret
  exact ⟨by rw [HF.out]; rfl, HB.out⟩
 | true =>
 rw [q3] at D3 HTK
 clear q3
 have D4 := Lib.hid (rwithin_any gb 48 w1)
 cases q4 : within gb 48 with
 | false =>
  rw [q4] at D4 HTK
  have HF := Lib.hid (show res = false by rw [← HR2.out, HTK.out]; simp)
  clear q4
  go_enter Tryz.func9, Tryz.ntmps9
  go_wp2_with fail
  refine D0.out.mono ?_
  rintro e wz ⟨rfl, hwz⟩
  subst wz
  go_wp2_with fail
  refine D1.out.mono ?_
  rintro e wz ⟨rfl, hwz⟩
  subst wz
  go_wp2_with fail
  refine D2.out.mono ?_
  rintro e wz ⟨rfl, hwz⟩
  subst wz
  go_wp2_with fail
  refine D3.out.mono ?_
  rintro e wz ⟨rfl, hwz⟩
  subst wz
  go_wp2_with fail
  refine D4.out.mono ?_
  rintro e wz ⟨rfl, hwz⟩
  subst wz
  go_wp2
  go_ret
  exact ⟨by rw [HF.out]; rfl, HB.out⟩
 | true =>
 rw [q4] at D4 HTK
 clear q4
 have HTK := Lib.hid (show tk = true from HTK.out)
 have HR3 := Lib.hid (show (ff 0 (ins.drop 0) && (outs.all fo && (rise 0 cells && en))) = res by rw [← HR2.out, HTK.out]; rfl)
 obtain ⟨-, hsl, hgr, hbk, hgb⟩ := HTA.out HTK.out
 have r1 : IntKind.i64.wrap (sl - 1) = sl - 1 := IntWalk.i64_in _ (by omega)
 have r2 : IntKind.i64.wrap (bks - 1) = bks - 1 := IntWalk.i64_in _ (by omega)
 have r3 : IntKind.i64.wrap (sl + gr) = sl + gr := IntWalk.i64_in _ (by omega)
 have r4 : IntKind.i64.wrap (bks + gb) = bks + gb := IntWalk.i64_in _ (by omega)
 clear hsl hgr hbk hgb HR2 HTA
 go_enter Tryz.func9, Tryz.ntmps9
 go_wp2_with fail
 refine D0.out.mono ?_
 rintro e wz ⟨rfl, hwz⟩
 subst wz
 go_wp2_with fail
 refine D1.out.mono ?_
 rintro e wz ⟨rfl, hwz⟩
 subst wz
 go_wp2_with fail
 refine D2.out.mono ?_
 rintro e wz ⟨rfl, hwz⟩
 subst wz
 go_wp2_with fail
 refine D3.out.mono ?_
 rintro e wz ⟨rfl, hwz⟩
 subst wz
 go_wp2_with fail
 refine D4.out.mono ?_
 rintro e wz ⟨rfl, hwz⟩
 subst wz
 clear D0 D1 D2 D3 D4 d1 d2
 go_wp2_with fail
 go_loopg [3] m (fun z i wr => ∃ j : Nat, z = m - j ∧ j ≤ m ∧ i = .int .i64 (j : Int) ∧ Hid (Below w1.heap.size w1 wr) ∧ Hid ((ff j (ins.drop j) && (outs.all fo && (rise 0 cells && en))) = res))
 case atStart => exact ⟨0, rfl, Nat.zero_le _, rfl, Lib.hid (Below.refl _ _), HR3⟩
 case round =>
  obtain ⟨j, rfl, hj, rfl, HBR, HJ⟩ := hrel
  obtain ⟨wa, hwa⟩ : ∃ wa, wa = wr := ⟨_, rfl⟩
  subst hwa
  have HGx := Lib.hid (boxOn HG.out HBR.out)
  have HBQ := Lib.hid (HB.out.trans (HBR.out.mono HB.out.size))
  obtain ⟨k0, k1, k2, k3, k4, k5, k6, k7, k8⟩ := cells9 HGx.out
  clear HR3 c0 c1 c2 c3 c4 c5 c6 c7 c8
  by_cases hlt : j < m
  ·obtain ⟨x, hx⟩ : ∃ x, ins[j]? = some x := ⟨_, List.getElem?_eq_getElem (by rw [HM.out]; exact hlt)⟩
   have HSJ := Lib.hid (show (((fw x && known ins (usesL x) (j : Int)) && (outsL x).all (fun y => fl y (j : Int))) && (ff (j + 1) (ins.drop (j + 1)) && (outs.all fo && (rise 0 cells && en)))) = res by rw [← HJ.out, HIF.out j x hx, ← HIO.out]; exact (Bool.and_assoc _ _ _).symm)
   have HK := Lib.hid (show j ≤ ins.length by rw [HM.out]; exact hj)
   have HJM := Lib.hid hlt
   obtain ⟨ad, rfl, i0, i1, i2, i3, i4⟩ := ReadsI.at (HR.out.below HBR.out).ins hx
   obtain ⟨op, a, b, c, d⟩ := x
   dsimp only at i0 i1 i2 i3 i4
   obtain ⟨w4, g4, hw4, hg4, H4, HB4, HZ4⟩ := newBox wa (insA (op, a, b, c, d)) 42
   have HG4 := Lib.hid (boxOn HGx.out HB4.out)
   have HBX4 := Lib.hid (HBR.out.trans (HB4.out.mono HBR.out.size))
   have HBQ4 := Lib.hid (HBQ.out.trans (HB4.out.mono HBQ.out.size))
   have z0 : (0 : Int) ≤ (j : Int) := by omega
   have z1 : (j : Int) < (m : Int) := by omega
   have CU := Lib.hid (fun wd => ruses_any (op, a, b, c, d) wd)
   have CO := Lib.hid (fun wd => routs_any (op, a, b, c, d) wd)
   obtain ⟨b2, hb2⟩ : ∃ b2, known ins (usesL (op, a, b, c, d)) (j : Int) = b2 := ⟨_, rfl⟩
   have CK := Lib.hid (fun wd (hb : Below w4.heap.size w4 wd) (v : Value) (hv : Reads wd v (usesL (op, a, b, c, d))) => CN.out wd (HBX4.out.trans (hb.mono HBX4.out.size)) j HK.out (op, a, b, c, d) v hv)
   rw [hb2] at CK
   obtain ⟨b1, hb1⟩ : ∃ b1, fw (op, a, b, c, d) = b1 := ⟨_, rfl⟩
   rw [hb1, hb2] at HSJ
   have HB1 := Lib.hid hb1
   have HBX := Lib.hid (show Below w4.heap.size w4 w4.drew from (Below.refl _ _).drew)
   clear HJ hx hb1 hb2 hlt
   go_upto_region 7 with fail
   clear k0 k1 k2 k3 k4 k5 k6 k7 k8 i0 i1 i2 i3 i4 z0 z1 hw4 hg4
   go_cut [122] from 50 to 138 (fun y wx => y = .bool (!(b1 && b2)) ∧ Hid (Below w4.heap.size w4 wx))
   case first =>
    by_cases o1 : op < 1
    ·have e : b1 = false := by rw [← HB1.out]; exact HW0.out op a b c d (.inl o1)
     subst e
     have n1 : decide (op < 1) = true := decide_eq_true o1
     clear o1
     as_aux_lemma =>
      refine wp_region_held (S := fun w' => w'.cell? ⟨g, 0, none⟩ = some (.int .i64 st) ∧ w'.cell? ⟨g, 1, none⟩ = some (.int .i64 sl) ∧ w'.cell? ⟨g, 2, none⟩ = some (.int .i64 bks) ∧ w'.cell? ⟨g, 3, none⟩ = some (.int .i64 gr) ∧ w'.cell? ⟨g, 4, none⟩ = some (.int .i64 gb) ∧ w'.cell? ⟨g, 5, none⟩ = some (.slice (some ad) m ci) ∧ w'.cell? ⟨g, 6, none⟩ = some (.slice ao no co) ∧ w'.cell? ⟨g, 7, none⟩ = some (.int .i64 la) ∧ w'.cell? ⟨g, 8, none⟩ = some (.slice ac nc cc) ∧ w'.cell? ⟨g4, 0, none⟩ = some (.int .i64 op) ∧ w'.cell? ⟨g4, 1, none⟩ = some (.int .i64 a) ∧ w'.cell? ⟨g4, 2, none⟩ = some (.int .i64 b) ∧ w'.cell? ⟨g4, 3, none⟩ = some (.int .i64 c) ∧ w'.cell? ⟨g4, 4, none⟩ = some (.int .i64 d)) (by kernel_rfl) ?_
      change wpAnyH _ _ _ _ _ _ _ _ (World.drew w4)
      have KX := Lib.hid (both (boxOn HG4.out HBX.out) (boxOn H4.out HBX.out))
      refine wpAnyH_take (i := 0) (oi := ⟨some 62, _, _, _, _, _⟩) (v := ?_) rfl (by kernel_rfl) (by kernel_rfl) (by kernel_rfl) (fun _ _ _ h => h) (Or.inl ⟨by rfl, ?_⟩) KX.out ?_; rotate_left; · intro w hSw; (try dsimp only at hSw); go_simp; try with_reducible rfl
      try simp only [Act.put, sx1, sx2, sx3]
      refine wpAnyH_take (i := 1) (oi := ⟨some 63, _, _, _, _, _⟩) (v := ?_) rfl (by kernel_rfl) (by kernel_rfl) (by kernel_rfl) (fun _ _ _ h => h) (Or.inl ⟨by rfl, ?_⟩) KX.out ?_; rotate_left; · intro w hSw; (try dsimp only at hSw); go_simp; try with_reducible rfl
      try simp only [Act.put, sx1, sx2, sx3]
      refine wpAnyH_take (i := 2) (oi := ⟨some 64, _, _, _, _, _⟩) (v := ?_) rfl (by kernel_rfl) (by kernel_rfl) (by kernel_rfl) (fun _ _ _ h => h) (Or.inl ⟨by rfl, ?_⟩) KX.out ?_; rotate_left; · intro w hSw; (try dsimp only at hSw); go_simp; try with_reducible rfl
      try simp only [Act.put, sx1, sx2, sx3]
      refine wpAnyH_take (i := 3) (oi := ⟨some 65, _, _, _, _, _⟩) (v := ?_) rfl (by kernel_rfl) (by kernel_rfl) (by kernel_rfl) (fun _ _ _ h => h) (Or.inl ⟨by rfl, ?_⟩) KX.out ?_; rotate_left; · intro w hSw; (try dsimp only at hSw); go_simp; try with_reducible rfl
      try simp only [Act.put, sx1, sx2, sx3]
      refine wpAnyH_take (i := 4) (oi := ⟨some 66, _, _, _, _, _⟩) (v := undef) rfl (by kernel_rfl) (by kernel_rfl) (by kernel_rfl) (fun _ _ _ h => h) (Or.inr ⟨by rfl, rfl⟩) KX.out ?_; try simp only [Act.put, sx1, sx2, sx3]
      refine wpAnyH_take (i := 5) (oi := ⟨some 67, _, _, _, _, _⟩) (v := undef) rfl (by kernel_rfl) (by kernel_rfl) (by kernel_rfl) (fun _ _ _ h => h) (Or.inr ⟨by rfl, rfl⟩) KX.out ?_; try simp only [Act.put, sx1, sx2, sx3]
      refine wpAnyH_take (i := 6) (oi := ⟨some 68, _, _, _, _, _⟩) (v := undef) rfl (by kernel_rfl) (by kernel_rfl) (by kernel_rfl) (fun _ _ _ h => h) (Or.inr ⟨by rfl, rfl⟩) KX.out ?_; try simp only [Act.put, sx1, sx2, sx3]
      refine wpAnyH_take (i := 7) (oi := ⟨some 69, _, _, _, _, _⟩) (v := ?_) rfl (by kernel_rfl) (by kernel_rfl) (by kernel_rfl) (fun _ _ _ h => h) (Or.inl ⟨by rfl, ?_⟩) KX.out ?_; rotate_left; · intro w hSw; (try dsimp only at hSw); go_simp; try with_reducible rfl
      try simp only [Act.put, sx1, sx2, sx3]
      refine wpAnyH_take (i := 8) (oi := ⟨some 70, _, _, _, _, _⟩) (v := ?_) rfl (by kernel_rfl) (by kernel_rfl) (by kernel_rfl) (fun _ _ _ h => h) (Or.inl ⟨by rfl, ?_⟩) KX.out ?_; rotate_left; · intro w hSw; (try dsimp only at hSw); go_simp; try with_reducible rfl
      try simp only [Act.put, sx1, sx2, sx3]
      refine wpAnyH_take (i := 9) (oi := ⟨some 71, _, _, _, _, _⟩) (v := undef) rfl (by kernel_rfl) (by kernel_rfl) (by kernel_rfl) (fun _ _ _ h => h) (Or.inr ⟨by rfl, rfl⟩) KX.out ?_; try simp only [Act.put, sx1, sx2, sx3]
      refine wpAnyH_take (i := 10) (oi := ⟨some 72, _, _, _, _, _⟩) (v := undef) rfl (by kernel_rfl) (by kernel_rfl) (by kernel_rfl) (fun _ _ _ h => h) (Or.inr ⟨by rfl, rfl⟩) KX.out ?_; try simp only [Act.put, sx1, sx2, sx3]
      refine wpAnyH_take (i := 11) (oi := ⟨some 73, _, _, _, _, _⟩) (v := undef) rfl (by kernel_rfl) (by kernel_rfl) (by kernel_rfl) (fun _ _ _ h => h) (Or.inr ⟨by rfl, rfl⟩) KX.out ?_; try simp only [Act.put, sx1, sx2, sx3]
      refine wpAnyH_take (i := 12) (oi := ⟨some 74, _, _, _, _, _⟩) (v := undef) rfl (by kernel_rfl) (by kernel_rfl) (by kernel_rfl) (fun _ _ _ h => h) (Or.inr ⟨by rfl, rfl⟩) KX.out ?_; try simp only [Act.put, sx1, sx2, sx3]
      refine wpAnyH_take (i := 13) (oi := ⟨some 75, _, _, _, _, _⟩) (v := undef) rfl (by kernel_rfl) (by kernel_rfl) (by kernel_rfl) (fun _ _ _ h => h) (Or.inr ⟨by rfl, rfl⟩) KX.out ?_; try simp only [Act.put, sx1, sx2, sx3]
      refine wpAnyH_take (i := 14) (oi := ⟨some 76, _, _, _, _, _⟩) (v := undef) rfl (by kernel_rfl) (by kernel_rfl) (by kernel_rfl) (fun _ _ _ h => h) (Or.inr ⟨by rfl, rfl⟩) KX.out ?_; try simp only [Act.put, sx1, sx2, sx3]
      refine wpAnyH_take (i := 15) (oi := ⟨some 77, _, _, _, _, _⟩) (v := undef) rfl (by kernel_rfl) (by kernel_rfl) (by kernel_rfl) (fun _ _ _ h => h) (Or.inr ⟨by rfl, rfl⟩) KX.out ?_; try simp only [Act.put, sx1, sx2, sx3]
      refine wpAnyH_take (i := 16) (oi := ⟨some 78, _, _, _, _, _⟩) (v := undef) rfl (by kernel_rfl) (by kernel_rfl) (by kernel_rfl) (fun _ _ _ h => h) (Or.inr ⟨by rfl, rfl⟩) KX.out ?_; try simp only [Act.put, sx1, sx2, sx3]
      refine wpAnyH_take (i := 17) (oi := ⟨some 79, _, _, _, _, _⟩) (v := undef) rfl (by kernel_rfl) (by kernel_rfl) (by kernel_rfl) (fun _ _ _ h => h) (Or.inr ⟨by rfl, rfl⟩) KX.out ?_; try simp only [Act.put, sx1, sx2, sx3]
      refine wpAnyH_take (i := 18) (oi := ⟨some 80, _, _, _, _, _⟩) (v := undef) rfl (by kernel_rfl) (by kernel_rfl) (by kernel_rfl) (fun _ _ _ h => h) (Or.inr ⟨by rfl, rfl⟩) KX.out ?_; try simp only [Act.put, sx1, sx2, sx3]
      refine wpAnyH_take (i := 19) (oi := ⟨some 81, _, _, _, _, _⟩) (v := undef) rfl (by kernel_rfl) (by kernel_rfl) (by kernel_rfl) (fun _ _ _ h => h) (Or.inr ⟨by rfl, rfl⟩) KX.out ?_; try simp only [Act.put, sx1, sx2, sx3]
      refine wpAnyH_take (i := 20) (oi := ⟨some 82, _, _, _, _, _⟩) (v := undef) rfl (by kernel_rfl) (by kernel_rfl) (by kernel_rfl) (fun _ _ _ h => h) (Or.inr ⟨by rfl, rfl⟩) KX.out ?_; try simp only [Act.put, sx1, sx2, sx3]
      refine wpAnyH_take (i := 21) (oi := ⟨some 83, _, _, _, _, _⟩) (v := undef) rfl (by kernel_rfl) (by kernel_rfl) (by kernel_rfl) (fun _ _ _ h => h) (Or.inr ⟨by rfl, rfl⟩) KX.out ?_; try simp only [Act.put, sx1, sx2, sx3]
      refine wpAnyH_take (i := 22) (oi := ⟨some 84, _, _, _, _, _⟩) (v := undef) rfl (by kernel_rfl) (by kernel_rfl) (by kernel_rfl) (fun _ _ _ h => h) (Or.inr ⟨by rfl, rfl⟩) KX.out ?_; try simp only [Act.put, sx1, sx2, sx3]
      refine wpAnyH_take (i := 23) (oi := ⟨some 85, _, _, _, _, _⟩) (v := undef) rfl (by kernel_rfl) (by kernel_rfl) (by kernel_rfl) (fun _ _ _ h => h) (Or.inr ⟨by rfl, rfl⟩) KX.out ?_; try simp only [Act.put, sx1, sx2, sx3]
      refine wpAnyH_take (i := 24) (oi := ⟨some 86, _, _, _, _, _⟩) (v := ?_) rfl (by kernel_rfl) (by kernel_rfl) (by kernel_rfl) (fun _ _ _ h => h) (Or.inl ⟨by rfl, ?_⟩) KX.out ?_; rotate_left; · intro w hSw; (try dsimp only at hSw); go_simp; try with_reducible rfl
      try simp only [Act.put, sx1, sx2, sx3]
      refine wpAnyH_take (i := 25) (oi := ⟨some 87, _, _, _, _, _⟩) (v := ?_) rfl (by kernel_rfl) (by kernel_rfl) (by kernel_rfl) (fun _ _ _ h => h) (Or.inl ⟨by rfl, ?_⟩) KX.out ?_; rotate_left; · intro w hSw; (try dsimp only at hSw); go_simp; try with_reducible rfl
      try simp only [Act.put, sx1, sx2, sx3]
      refine wpAnyH_take (i := 26) (oi := ⟨some 88, _, _, _, _, _⟩) (v := undef) rfl (by kernel_rfl) (by kernel_rfl) (by kernel_rfl) (fun _ _ _ h => h) (Or.inr ⟨by rfl, rfl⟩) KX.out ?_; try simp only [Act.put, sx1, sx2, sx3]
      refine wpAnyH_take (i := 27) (oi := ⟨some 89, _, _, _, _, _⟩) (v := undef) rfl (by kernel_rfl) (by kernel_rfl) (by kernel_rfl) (fun _ _ _ h => h) (Or.inr ⟨by rfl, rfl⟩) KX.out ?_; try simp only [Act.put, sx1, sx2, sx3]
      refine wpAnyH_take (i := 28) (oi := ⟨some 90, _, _, _, _, _⟩) (v := undef) rfl (by kernel_rfl) (by kernel_rfl) (by kernel_rfl) (fun _ _ _ h => h) (Or.inr ⟨by rfl, rfl⟩) KX.out ?_; try simp only [Act.put, sx1, sx2, sx3]
      refine wpAnyH_take (i := 29) (oi := ⟨some 91, _, _, _, _, _⟩) (v := undef) rfl (by kernel_rfl) (by kernel_rfl) (by kernel_rfl) (fun _ _ _ h => h) (Or.inr ⟨by rfl, rfl⟩) KX.out ?_; try simp only [Act.put, sx1, sx2, sx3]
      refine wpAnyH_take (i := 30) (oi := ⟨some 92, _, _, _, _, _⟩) (v := undef) rfl (by kernel_rfl) (by kernel_rfl) (by kernel_rfl) (fun _ _ _ h => h) (Or.inr ⟨by rfl, rfl⟩) KX.out ?_; try simp only [Act.put, sx1, sx2, sx3]
      refine wpAnyH_take (i := 31) (oi := ⟨some 93, _, _, _, _, _⟩) (v := undef) rfl (by kernel_rfl) (by kernel_rfl) (by kernel_rfl) (fun _ _ _ h => h) (Or.inr ⟨by rfl, rfl⟩) KX.out ?_; try simp only [Act.put, sx1, sx2, sx3]
      refine wpAnyH_take (i := 32) (oi := ⟨some 94, _, _, _, _, _⟩) (v := undef) rfl (by kernel_rfl) (by kernel_rfl) (by kernel_rfl) (fun _ _ _ h => h) (Or.inr ⟨by rfl, rfl⟩) KX.out ?_; try simp only [Act.put, sx1, sx2, sx3]
      refine wpAnyH_take (i := 33) (oi := ⟨some 95, _, _, _, _, _⟩) (v := undef) rfl (by kernel_rfl) (by kernel_rfl) (by kernel_rfl) (fun _ _ _ h => h) (Or.inr ⟨by rfl, rfl⟩) KX.out ?_; try simp only [Act.put, sx1, sx2, sx3]
      refine wpAnyH_take (i := 34) (oi := ⟨some 96, _, _, _, _, _⟩) (v := undef) rfl (by kernel_rfl) (by kernel_rfl) (by kernel_rfl) (fun _ _ _ h => h) (Or.inr ⟨by rfl, rfl⟩) KX.out ?_; try simp only [Act.put, sx1, sx2, sx3]
      refine wpAnyH_take (i := 35) (oi := ⟨some 97, _, _, _, _, _⟩) (v := undef) rfl (by kernel_rfl) (by kernel_rfl) (by kernel_rfl) (fun _ _ _ h => h) (Or.inr ⟨by rfl, rfl⟩) KX.out ?_; try simp only [Act.put, sx1, sx2, sx3]
      refine wpAnyH_take (i := 36) (oi := ⟨some 98, _, _, _, _, _⟩) (v := undef) rfl (by kernel_rfl) (by kernel_rfl) (by kernel_rfl) (fun _ _ _ h => h) (Or.inr ⟨by rfl, rfl⟩) KX.out ?_; try simp only [Act.put, sx1, sx2, sx3]
      refine wpAnyH_take (i := 37) (oi := ⟨some 99, _, _, _, _, _⟩) (v := undef) rfl (by kernel_rfl) (by kernel_rfl) (by kernel_rfl) (fun _ _ _ h => h) (Or.inr ⟨by rfl, rfl⟩) KX.out ?_; try simp only [Act.put, sx1, sx2, sx3]
      refine wpAnyH_take (i := 38) (oi := ⟨some 100, _, _, _, _, _⟩) (v := ?_) rfl (by kernel_rfl) (by kernel_rfl) (by kernel_rfl) (fun _ _ _ h => h) (Or.inl ⟨by rfl, ?_⟩) KX.out ?_; rotate_left; · intro w hSw; (try dsimp only at hSw); go_simp; try with_reducible rfl
      try simp only [Act.put, sx1, sx2, sx3]
      refine wpAnyH_take (i := 39) (oi := ⟨some 101, _, _, _, _, _⟩) (v := ?_) rfl (by kernel_rfl) (by kernel_rfl) (by kernel_rfl) (fun _ _ _ h => h) (Or.inl ⟨by rfl, ?_⟩) KX.out ?_; rotate_left; · intro w hSw; (try dsimp only at hSw); go_simp; try with_reducible rfl
      try simp only [Act.put, sx1, sx2, sx3]
      refine wpAnyH_take (i := 40) (oi := ⟨some 102, _, _, _, _, _⟩) (v := undef) rfl (by kernel_rfl) (by kernel_rfl) (by kernel_rfl) (fun _ _ _ h => h) (Or.inr ⟨by rfl, rfl⟩) KX.out ?_; try simp only [Act.put, sx1, sx2, sx3]
      refine wpAnyH_take (i := 41) (oi := ⟨some 103, _, _, _, _, _⟩) (v := undef) rfl (by kernel_rfl) (by kernel_rfl) (by kernel_rfl) (fun _ _ _ h => h) (Or.inr ⟨by rfl, rfl⟩) KX.out ?_; try simp only [Act.put, sx1, sx2, sx3]
      refine wpAnyH_take (i := 42) (oi := ⟨some 104, _, _, _, _, _⟩) (v := undef) rfl (by kernel_rfl) (by kernel_rfl) (by kernel_rfl) (fun _ _ _ h => h) (Or.inr ⟨by rfl, rfl⟩) KX.out ?_; try simp only [Act.put, sx1, sx2, sx3]
      refine wpAnyH_take (i := 43) (oi := ⟨some 105, _, _, _, _, _⟩) (v := undef) rfl (by kernel_rfl) (by kernel_rfl) (by kernel_rfl) (fun _ _ _ h => h) (Or.inr ⟨by rfl, rfl⟩) KX.out ?_; try simp only [Act.put, sx1, sx2, sx3]
      refine wpAnyH_take (i := 44) (oi := ⟨some 106, _, _, _, _, _⟩) (v := undef) rfl (by kernel_rfl) (by kernel_rfl) (by kernel_rfl) (fun _ _ _ h => h) (Or.inr ⟨by rfl, rfl⟩) KX.out ?_; try simp only [Act.put, sx1, sx2, sx3]
      refine wpAnyH_take (i := 45) (oi := ⟨some 107, _, _, _, _, _⟩) (v := undef) rfl (by kernel_rfl) (by kernel_rfl) (by kernel_rfl) (fun _ _ _ h => h) (Or.inr ⟨by rfl, rfl⟩) KX.out ?_; try simp only [Act.put, sx1, sx2, sx3]
      refine wpAnyH_take (i := 46) (oi := ⟨some 108, _, _, _, _, _⟩) (v := undef) rfl (by kernel_rfl) (by kernel_rfl) (by kernel_rfl) (fun _ _ _ h => h) (Or.inr ⟨by rfl, rfl⟩) KX.out ?_; try simp only [Act.put, sx1, sx2, sx3]
      refine wpAnyH_take (i := 47) (oi := ⟨some 109, _, _, _, _, _⟩) (v := undef) rfl (by kernel_rfl) (by kernel_rfl) (by kernel_rfl) (fun _ _ _ h => h) (Or.inr ⟨by rfl, rfl⟩) KX.out ?_; try simp only [Act.put, sx1, sx2, sx3]
      refine wpAnyH_take (i := 48) (oi := ⟨some 110, _, _, _, _, _⟩) (v := undef) rfl (by kernel_rfl) (by kernel_rfl) (by kernel_rfl) (fun _ _ _ h => h) (Or.inr ⟨by rfl, rfl⟩) KX.out ?_; try simp only [Act.put, sx1, sx2, sx3]
      refine wpAnyH_take (i := 49) (oi := ⟨some 111, _, _, _, _, _⟩) (v := undef) rfl (by kernel_rfl) (by kernel_rfl) (by kernel_rfl) (fun _ _ _ h => h) (Or.inr ⟨by rfl, rfl⟩) KX.out ?_; try simp only [Act.put, sx1, sx2, sx3]
      refine wpAnyH_take (i := 50) (oi := ⟨some 112, _, _, _, _, _⟩) (v := undef) rfl (by kernel_rfl) (by kernel_rfl) (by kernel_rfl) (fun _ _ _ h => h) (Or.inr ⟨by rfl, rfl⟩) KX.out ?_; try simp only [Act.put, sx1, sx2, sx3]
      refine wpAnyH_take (i := 51) (oi := ⟨some 113, _, _, _, _, _⟩) (v := undef) rfl (by kernel_rfl) (by kernel_rfl) (by kernel_rfl) (fun _ _ _ h => h) (Or.inr ⟨by rfl, rfl⟩) KX.out ?_; try simp only [Act.put, sx1, sx2, sx3]
      refine wpAnyH_take (i := 52) (oi := ⟨some 114, _, _, _, _, _⟩) (v := ?_) rfl (by kernel_rfl) (by kernel_rfl) (by kernel_rfl) (fun _ _ _ h => h) (Or.inl ⟨by rfl, ?_⟩) KX.out ?_; rotate_left; · intro w hSw; (try dsimp only at hSw); go_simp; try with_reducible rfl
      try simp only [Act.put, sx1, sx2, sx3]
      refine wpAnyH_take (i := 53) (oi := ⟨some 115, _, _, _, _, _⟩) (v := ?_) rfl (by kernel_rfl) (by kernel_rfl) (by kernel_rfl) (fun _ _ _ h => h) (Or.inl ⟨by rfl, ?_⟩) KX.out ?_; rotate_left; · intro w hSw; (try dsimp only at hSw); go_simp; try with_reducible rfl
      try simp only [Act.put, sx1, sx2, sx3]
      refine wpAnyH_take (i := 54) (oi := ⟨some 116, _, _, _, _, _⟩) (v := undef) rfl (by kernel_rfl) (by kernel_rfl) (by kernel_rfl) (fun _ _ _ h => h) (Or.inr ⟨by rfl, rfl⟩) KX.out ?_; try simp only [Act.put, sx1, sx2, sx3]
      refine wpAnyH_take (i := 55) (oi := ⟨some 117, _, _, _, _, _⟩) (v := undef) rfl (by kernel_rfl) (by kernel_rfl) (by kernel_rfl) (fun _ _ _ h => h) (Or.inr ⟨by rfl, rfl⟩) KX.out ?_; try simp only [Act.put, sx1, sx2, sx3]
      refine wpAnyH_take (i := 56) (oi := ⟨some 118, _, _, _, _, _⟩) (v := undef) rfl (by kernel_rfl) (by kernel_rfl) (by kernel_rfl) (fun _ _ _ h => h) (Or.inr ⟨by rfl, rfl⟩) KX.out ?_; try simp only [Act.put, sx1, sx2, sx3]
      refine wpAnyH_take (i := 57) (oi := ⟨some 119, _, _, _, _, _⟩) (v := undef) rfl (by kernel_rfl) (by kernel_rfl) (by kernel_rfl) (fun _ _ _ h => h) (Or.inr ⟨by rfl, rfl⟩) KX.out ?_; try simp only [Act.put, sx1, sx2, sx3]
      refine wpAnyH_take (i := 58) (oi := ⟨some 120, _, _, _, _, _⟩) (v := undef) rfl (by kernel_rfl) (by kernel_rfl) (by kernel_rfl) (fun _ _ _ h => h) (Or.inr ⟨by rfl, rfl⟩) KX.out ?_; try simp only [Act.put, sx1, sx2, sx3]
      refine wpAnyH_take (i := 59) (oi := ⟨some 121, _, _, _, _, _⟩) (v := undef) rfl (by kernel_rfl) (by kernel_rfl) (by kernel_rfl) (fun _ _ _ h => h) (Or.inr ⟨by rfl, rfl⟩) KX.out ?_; try simp only [Act.put, sx1, sx2, sx3]
      refine wpAnyH_take (i := 60) (oi := ⟨some 122, _, _, _, _, _⟩) (v := ?_) rfl (by kernel_rfl) (by kernel_rfl) (by kernel_rfl) (fun _ _ _ h => h) (Or.inl ⟨by rfl, ?_⟩) KX.out ?_; rotate_left; · intro w hSw; (try dsimp only at hSw); go_simp; try with_reducible rfl
      try simp only [Act.put, sx1, sx2, sx3]
      refine wpAnyH_done (by kernel_rfl) ?_ _
      first | go_meet | (go_wp2_with fail; go_meet)
      exact ⟨rfl, HBX⟩
    by_cases o12 : 12 < op
    ·have e : b1 = false := by rw [← HB1.out]; exact HW0.out op a b c d (.inr o12)
     subst e
     have n1 : decide (op < 1) = false := decide_eq_false o1
     have n12 : decide (12 < op) = true := decide_eq_true o12
     clear o1 o12
     as_aux_lemma =>
      refine wp_region_held (S := fun w' => w'.cell? ⟨g, 0, none⟩ = some (.int .i64 st) ∧ w'.cell? ⟨g, 1, none⟩ = some (.int .i64 sl) ∧ w'.cell? ⟨g, 2, none⟩ = some (.int .i64 bks) ∧ w'.cell? ⟨g, 3, none⟩ = some (.int .i64 gr) ∧ w'.cell? ⟨g, 4, none⟩ = some (.int .i64 gb) ∧ w'.cell? ⟨g, 5, none⟩ = some (.slice (some ad) m ci) ∧ w'.cell? ⟨g, 6, none⟩ = some (.slice ao no co) ∧ w'.cell? ⟨g, 7, none⟩ = some (.int .i64 la) ∧ w'.cell? ⟨g, 8, none⟩ = some (.slice ac nc cc) ∧ w'.cell? ⟨g4, 0, none⟩ = some (.int .i64 op) ∧ w'.cell? ⟨g4, 1, none⟩ = some (.int .i64 a) ∧ w'.cell? ⟨g4, 2, none⟩ = some (.int .i64 b) ∧ w'.cell? ⟨g4, 3, none⟩ = some (.int .i64 c) ∧ w'.cell? ⟨g4, 4, none⟩ = some (.int .i64 d)) (by kernel_rfl) ?_
      change wpAnyH _ _ _ _ _ _ _ _ (World.drew w4)
      have KX := Lib.hid (both (boxOn HG4.out HBX.out) (boxOn H4.out HBX.out))
      refine wpAnyH_take (i := 0) (oi := ⟨some 62, _, _, _, _, _⟩) (v := ?_) rfl (by kernel_rfl) (by kernel_rfl) (by kernel_rfl) (fun _ _ _ h => h) (Or.inl ⟨by rfl, ?_⟩) KX.out ?_; rotate_left; · intro w hSw; (try dsimp only at hSw); go_simp; try with_reducible rfl
      try simp only [Act.put, sx1, sx2, sx3]
      refine wpAnyH_take (i := 1) (oi := ⟨some 63, _, _, _, _, _⟩) (v := ?_) rfl (by kernel_rfl) (by kernel_rfl) (by kernel_rfl) (fun _ _ _ h => h) (Or.inl ⟨by rfl, ?_⟩) KX.out ?_; rotate_left; · intro w hSw; (try dsimp only at hSw); go_simp; try with_reducible rfl
      try simp only [Act.put, sx1, sx2, sx3]
      refine wpAnyH_take (i := 2) (oi := ⟨some 64, _, _, _, _, _⟩) (v := ?_) rfl (by kernel_rfl) (by kernel_rfl) (by kernel_rfl) (fun _ _ _ h => h) (Or.inl ⟨by rfl, ?_⟩) KX.out ?_; rotate_left; · intro w hSw; (try dsimp only at hSw); go_simp; try with_reducible rfl
      try simp only [Act.put, sx1, sx2, sx3]
      refine wpAnyH_take (i := 3) (oi := ⟨some 65, _, _, _, _, _⟩) (v := ?_) rfl (by kernel_rfl) (by kernel_rfl) (by kernel_rfl) (fun _ _ _ h => h) (Or.inl ⟨by rfl, ?_⟩) KX.out ?_; rotate_left; · intro w hSw; (try dsimp only at hSw); go_simp; try with_reducible rfl
      try simp only [Act.put, sx1, sx2, sx3]
      refine wpAnyH_take (i := 4) (oi := ⟨some 66, _, _, _, _, _⟩) (v := ?_) rfl (by kernel_rfl) (by kernel_rfl) (by kernel_rfl) (fun _ _ _ h => h) (Or.inl ⟨by rfl, ?_⟩) KX.out ?_; rotate_left; · intro w hSw; (try dsimp only at hSw); go_simp; try with_reducible rfl
      try simp only [Act.put, sx1, sx2, sx3]
      refine wpAnyH_take (i := 5) (oi := ⟨some 67, _, _, _, _, _⟩) (v := ?_) rfl (by kernel_rfl) (by kernel_rfl) (by kernel_rfl) (fun _ _ _ h => h) (Or.inl ⟨by rfl, ?_⟩) KX.out ?_; rotate_left; · intro w hSw; (try dsimp only at hSw); go_simp; try with_reducible rfl
      try simp only [Act.put, sx1, sx2, sx3]
      refine wpAnyH_take (i := 6) (oi := ⟨some 68, _, _, _, _, _⟩) (v := ?_) rfl (by kernel_rfl) (by kernel_rfl) (by kernel_rfl) (fun _ _ _ h => h) (Or.inl ⟨by rfl, ?_⟩) KX.out ?_; rotate_left; · intro w hSw; (try dsimp only at hSw); go_simp; try with_reducible rfl
      try simp only [Act.put, sx1, sx2, sx3]
      refine wpAnyH_take (i := 7) (oi := ⟨some 69, _, _, _, _, _⟩) (v := ?_) rfl (by kernel_rfl) (by kernel_rfl) (by kernel_rfl) (fun _ _ _ h => h) (Or.inl ⟨by rfl, ?_⟩) KX.out ?_; rotate_left; · intro w hSw; (try dsimp only at hSw); go_simp; try with_reducible rfl
      try simp only [Act.put, sx1, sx2, sx3]
      refine wpAnyH_take (i := 8) (oi := ⟨some 70, _, _, _, _, _⟩) (v := ?_) rfl (by kernel_rfl) (by kernel_rfl) (by kernel_rfl) (fun _ _ _ h => h) (Or.inl ⟨by rfl, ?_⟩) KX.out ?_; rotate_left; · intro w hSw; (try dsimp only at hSw); go_simp; try with_reducible rfl
      try simp only [Act.put, sx1, sx2, sx3]
      refine wpAnyH_take (i := 9) (oi := ⟨some 71, _, _, _, _, _⟩) (v := undef) rfl (by kernel_rfl) (by kernel_rfl) (by kernel_rfl) (fun _ _ _ h => h) (Or.inr ⟨by rfl, rfl⟩) KX.out ?_; try simp only [Act.put, sx1, sx2, sx3]
      refine wpAnyH_take (i := 10) (oi := ⟨some 72, _, _, _, _, _⟩) (v := undef) rfl (by kernel_rfl) (by kernel_rfl) (by kernel_rfl) (fun _ _ _ h => h) (Or.inr ⟨by rfl, rfl⟩) KX.out ?_; try simp only [Act.put, sx1, sx2, sx3]
      refine wpAnyH_take (i := 11) (oi := ⟨some 73, _, _, _, _, _⟩) (v := undef) rfl (by kernel_rfl) (by kernel_rfl) (by kernel_rfl) (fun _ _ _ h => h) (Or.inr ⟨by rfl, rfl⟩) KX.out ?_; try simp only [Act.put, sx1, sx2, sx3]
      refine wpAnyH_take (i := 12) (oi := ⟨some 74, _, _, _, _, _⟩) (v := undef) rfl (by kernel_rfl) (by kernel_rfl) (by kernel_rfl) (fun _ _ _ h => h) (Or.inr ⟨by rfl, rfl⟩) KX.out ?_; try simp only [Act.put, sx1, sx2, sx3]
      refine wpAnyH_take (i := 13) (oi := ⟨some 75, _, _, _, _, _⟩) (v := undef) rfl (by kernel_rfl) (by kernel_rfl) (by kernel_rfl) (fun _ _ _ h => h) (Or.inr ⟨by rfl, rfl⟩) KX.out ?_; try simp only [Act.put, sx1, sx2, sx3]
      refine wpAnyH_take (i := 14) (oi := ⟨some 76, _, _, _, _, _⟩) (v := undef) rfl (by kernel_rfl) (by kernel_rfl) (by kernel_rfl) (fun _ _ _ h => h) (Or.inr ⟨by rfl, rfl⟩) KX.out ?_; try simp only [Act.put, sx1, sx2, sx3]
      refine wpAnyH_take (i := 15) (oi := ⟨some 77, _, _, _, _, _⟩) (v := undef) rfl (by kernel_rfl) (by kernel_rfl) (by kernel_rfl) (fun _ _ _ h => h) (Or.inr ⟨by rfl, rfl⟩) KX.out ?_; try simp only [Act.put, sx1, sx2, sx3]
      refine wpAnyH_take (i := 16) (oi := ⟨some 78, _, _, _, _, _⟩) (v := undef) rfl (by kernel_rfl) (by kernel_rfl) (by kernel_rfl) (fun _ _ _ h => h) (Or.inr ⟨by rfl, rfl⟩) KX.out ?_; try simp only [Act.put, sx1, sx2, sx3]
      refine wpAnyH_take (i := 17) (oi := ⟨some 79, _, _, _, _, _⟩) (v := undef) rfl (by kernel_rfl) (by kernel_rfl) (by kernel_rfl) (fun _ _ _ h => h) (Or.inr ⟨by rfl, rfl⟩) KX.out ?_; try simp only [Act.put, sx1, sx2, sx3]
      refine wpAnyH_take (i := 18) (oi := ⟨some 80, _, _, _, _, _⟩) (v := undef) rfl (by kernel_rfl) (by kernel_rfl) (by kernel_rfl) (fun _ _ _ h => h) (Or.inr ⟨by rfl, rfl⟩) KX.out ?_; try simp only [Act.put, sx1, sx2, sx3]
      refine wpAnyH_take (i := 19) (oi := ⟨some 81, _, _, _, _, _⟩) (v := undef) rfl (by kernel_rfl) (by kernel_rfl) (by kernel_rfl) (fun _ _ _ h => h) (Or.inr ⟨by rfl, rfl⟩) KX.out ?_; try simp only [Act.put, sx1, sx2, sx3]
      refine wpAnyH_take (i := 20) (oi := ⟨some 82, _, _, _, _, _⟩) (v := undef) rfl (by kernel_rfl) (by kernel_rfl) (by kernel_rfl) (fun _ _ _ h => h) (Or.inr ⟨by rfl, rfl⟩) KX.out ?_; try simp only [Act.put, sx1, sx2, sx3]
      refine wpAnyH_take (i := 21) (oi := ⟨some 83, _, _, _, _, _⟩) (v := undef) rfl (by kernel_rfl) (by kernel_rfl) (by kernel_rfl) (fun _ _ _ h => h) (Or.inr ⟨by rfl, rfl⟩) KX.out ?_; try simp only [Act.put, sx1, sx2, sx3]
      refine wpAnyH_take (i := 22) (oi := ⟨some 84, _, _, _, _, _⟩) (v := undef) rfl (by kernel_rfl) (by kernel_rfl) (by kernel_rfl) (fun _ _ _ h => h) (Or.inr ⟨by rfl, rfl⟩) KX.out ?_; try simp only [Act.put, sx1, sx2, sx3]
      refine wpAnyH_take (i := 23) (oi := ⟨some 85, _, _, _, _, _⟩) (v := undef) rfl (by kernel_rfl) (by kernel_rfl) (by kernel_rfl) (fun _ _ _ h => h) (Or.inr ⟨by rfl, rfl⟩) KX.out ?_; try simp only [Act.put, sx1, sx2, sx3]
      refine wpAnyH_take (i := 24) (oi := ⟨some 86, _, _, _, _, _⟩) (v := ?_) rfl (by kernel_rfl) (by kernel_rfl) (by kernel_rfl) (fun _ _ _ h => h) (Or.inl ⟨by rfl, ?_⟩) KX.out ?_; rotate_left; · intro w hSw; (try dsimp only at hSw); go_simp; try with_reducible rfl
      try simp only [Act.put, sx1, sx2, sx3]
      refine wpAnyH_take (i := 25) (oi := ⟨some 87, _, _, _, _, _⟩) (v := ?_) rfl (by kernel_rfl) (by kernel_rfl) (by kernel_rfl) (fun _ _ _ h => h) (Or.inl ⟨by rfl, ?_⟩) KX.out ?_; rotate_left; · intro w hSw; (try dsimp only at hSw); go_simp; try with_reducible rfl
      try simp only [Act.put, sx1, sx2, sx3]
      refine wpAnyH_take (i := 26) (oi := ⟨some 88, _, _, _, _, _⟩) (v := undef) rfl (by kernel_rfl) (by kernel_rfl) (by kernel_rfl) (fun _ _ _ h => h) (Or.inr ⟨by rfl, rfl⟩) KX.out ?_; try simp only [Act.put, sx1, sx2, sx3]
      refine wpAnyH_take (i := 27) (oi := ⟨some 89, _, _, _, _, _⟩) (v := undef) rfl (by kernel_rfl) (by kernel_rfl) (by kernel_rfl) (fun _ _ _ h => h) (Or.inr ⟨by rfl, rfl⟩) KX.out ?_; try simp only [Act.put, sx1, sx2, sx3]
      refine wpAnyH_take (i := 28) (oi := ⟨some 90, _, _, _, _, _⟩) (v := undef) rfl (by kernel_rfl) (by kernel_rfl) (by kernel_rfl) (fun _ _ _ h => h) (Or.inr ⟨by rfl, rfl⟩) KX.out ?_; try simp only [Act.put, sx1, sx2, sx3]
      refine wpAnyH_take (i := 29) (oi := ⟨some 91, _, _, _, _, _⟩) (v := undef) rfl (by kernel_rfl) (by kernel_rfl) (by kernel_rfl) (fun _ _ _ h => h) (Or.inr ⟨by rfl, rfl⟩) KX.out ?_; try simp only [Act.put, sx1, sx2, sx3]
      refine wpAnyH_take (i := 30) (oi := ⟨some 92, _, _, _, _, _⟩) (v := undef) rfl (by kernel_rfl) (by kernel_rfl) (by kernel_rfl) (fun _ _ _ h => h) (Or.inr ⟨by rfl, rfl⟩) KX.out ?_; try simp only [Act.put, sx1, sx2, sx3]
      refine wpAnyH_take (i := 31) (oi := ⟨some 93, _, _, _, _, _⟩) (v := undef) rfl (by kernel_rfl) (by kernel_rfl) (by kernel_rfl) (fun _ _ _ h => h) (Or.inr ⟨by rfl, rfl⟩) KX.out ?_; try simp only [Act.put, sx1, sx2, sx3]
      refine wpAnyH_take (i := 32) (oi := ⟨some 94, _, _, _, _, _⟩) (v := undef) rfl (by kernel_rfl) (by kernel_rfl) (by kernel_rfl) (fun _ _ _ h => h) (Or.inr ⟨by rfl, rfl⟩) KX.out ?_; try simp only [Act.put, sx1, sx2, sx3]
      refine wpAnyH_take (i := 33) (oi := ⟨some 95, _, _, _, _, _⟩) (v := undef) rfl (by kernel_rfl) (by kernel_rfl) (by kernel_rfl) (fun _ _ _ h => h) (Or.inr ⟨by rfl, rfl⟩) KX.out ?_; try simp only [Act.put, sx1, sx2, sx3]
      refine wpAnyH_take (i := 34) (oi := ⟨some 96, _, _, _, _, _⟩) (v := undef) rfl (by kernel_rfl) (by kernel_rfl) (by kernel_rfl) (fun _ _ _ h => h) (Or.inr ⟨by rfl, rfl⟩) KX.out ?_; try simp only [Act.put, sx1, sx2, sx3]
      refine wpAnyH_take (i := 35) (oi := ⟨some 97, _, _, _, _, _⟩) (v := undef) rfl (by kernel_rfl) (by kernel_rfl) (by kernel_rfl) (fun _ _ _ h => h) (Or.inr ⟨by rfl, rfl⟩) KX.out ?_; try simp only [Act.put, sx1, sx2, sx3]
      refine wpAnyH_take (i := 36) (oi := ⟨some 98, _, _, _, _, _⟩) (v := undef) rfl (by kernel_rfl) (by kernel_rfl) (by kernel_rfl) (fun _ _ _ h => h) (Or.inr ⟨by rfl, rfl⟩) KX.out ?_; try simp only [Act.put, sx1, sx2, sx3]
      refine wpAnyH_take (i := 37) (oi := ⟨some 99, _, _, _, _, _⟩) (v := undef) rfl (by kernel_rfl) (by kernel_rfl) (by kernel_rfl) (fun _ _ _ h => h) (Or.inr ⟨by rfl, rfl⟩) KX.out ?_; try simp only [Act.put, sx1, sx2, sx3]
      refine wpAnyH_take (i := 38) (oi := ⟨some 100, _, _, _, _, _⟩) (v := ?_) rfl (by kernel_rfl) (by kernel_rfl) (by kernel_rfl) (fun _ _ _ h => h) (Or.inl ⟨by rfl, ?_⟩) KX.out ?_; rotate_left; · intro w hSw; (try dsimp only at hSw); go_simp; try with_reducible rfl
      try simp only [Act.put, sx1, sx2, sx3]
      refine wpAnyH_take (i := 39) (oi := ⟨some 101, _, _, _, _, _⟩) (v := ?_) rfl (by kernel_rfl) (by kernel_rfl) (by kernel_rfl) (fun _ _ _ h => h) (Or.inl ⟨by rfl, ?_⟩) KX.out ?_; rotate_left; · intro w hSw; (try dsimp only at hSw); go_simp; try with_reducible rfl
      try simp only [Act.put, sx1, sx2, sx3]
      refine wpAnyH_take (i := 40) (oi := ⟨some 102, _, _, _, _, _⟩) (v := undef) rfl (by kernel_rfl) (by kernel_rfl) (by kernel_rfl) (fun _ _ _ h => h) (Or.inr ⟨by rfl, rfl⟩) KX.out ?_; try simp only [Act.put, sx1, sx2, sx3]
      refine wpAnyH_take (i := 41) (oi := ⟨some 103, _, _, _, _, _⟩) (v := undef) rfl (by kernel_rfl) (by kernel_rfl) (by kernel_rfl) (fun _ _ _ h => h) (Or.inr ⟨by rfl, rfl⟩) KX.out ?_; try simp only [Act.put, sx1, sx2, sx3]
      refine wpAnyH_take (i := 42) (oi := ⟨some 104, _, _, _, _, _⟩) (v := undef) rfl (by kernel_rfl) (by kernel_rfl) (by kernel_rfl) (fun _ _ _ h => h) (Or.inr ⟨by rfl, rfl⟩) KX.out ?_; try simp only [Act.put, sx1, sx2, sx3]
      refine wpAnyH_take (i := 43) (oi := ⟨some 105, _, _, _, _, _⟩) (v := undef) rfl (by kernel_rfl) (by kernel_rfl) (by kernel_rfl) (fun _ _ _ h => h) (Or.inr ⟨by rfl, rfl⟩) KX.out ?_; try simp only [Act.put, sx1, sx2, sx3]
      refine wpAnyH_take (i := 44) (oi := ⟨some 106, _, _, _, _, _⟩) (v := undef) rfl (by kernel_rfl) (by kernel_rfl) (by kernel_rfl) (fun _ _ _ h => h) (Or.inr ⟨by rfl, rfl⟩) KX.out ?_; try simp only [Act.put, sx1, sx2, sx3]
      refine wpAnyH_take (i := 45) (oi := ⟨some 107, _, _, _, _, _⟩) (v := undef) rfl (by kernel_rfl) (by kernel_rfl) (by kernel_rfl) (fun _ _ _ h => h) (Or.inr ⟨by rfl, rfl⟩) KX.out ?_; try simp only [Act.put, sx1, sx2, sx3]
      refine wpAnyH_take (i := 46) (oi := ⟨some 108, _, _, _, _, _⟩) (v := undef) rfl (by kernel_rfl) (by kernel_rfl) (by kernel_rfl) (fun _ _ _ h => h) (Or.inr ⟨by rfl, rfl⟩) KX.out ?_; try simp only [Act.put, sx1, sx2, sx3]
      refine wpAnyH_take (i := 47) (oi := ⟨some 109, _, _, _, _, _⟩) (v := undef) rfl (by kernel_rfl) (by kernel_rfl) (by kernel_rfl) (fun _ _ _ h => h) (Or.inr ⟨by rfl, rfl⟩) KX.out ?_; try simp only [Act.put, sx1, sx2, sx3]
      refine wpAnyH_take (i := 48) (oi := ⟨some 110, _, _, _, _, _⟩) (v := undef) rfl (by kernel_rfl) (by kernel_rfl) (by kernel_rfl) (fun _ _ _ h => h) (Or.inr ⟨by rfl, rfl⟩) KX.out ?_; try simp only [Act.put, sx1, sx2, sx3]
      refine wpAnyH_take (i := 49) (oi := ⟨some 111, _, _, _, _, _⟩) (v := undef) rfl (by kernel_rfl) (by kernel_rfl) (by kernel_rfl) (fun _ _ _ h => h) (Or.inr ⟨by rfl, rfl⟩) KX.out ?_; try simp only [Act.put, sx1, sx2, sx3]
      refine wpAnyH_take (i := 50) (oi := ⟨some 112, _, _, _, _, _⟩) (v := undef) rfl (by kernel_rfl) (by kernel_rfl) (by kernel_rfl) (fun _ _ _ h => h) (Or.inr ⟨by rfl, rfl⟩) KX.out ?_; try simp only [Act.put, sx1, sx2, sx3]
      refine wpAnyH_take (i := 51) (oi := ⟨some 113, _, _, _, _, _⟩) (v := undef) rfl (by kernel_rfl) (by kernel_rfl) (by kernel_rfl) (fun _ _ _ h => h) (Or.inr ⟨by rfl, rfl⟩) KX.out ?_; try simp only [Act.put, sx1, sx2, sx3]
      refine wpAnyH_take (i := 52) (oi := ⟨some 114, _, _, _, _, _⟩) (v := ?_) rfl (by kernel_rfl) (by kernel_rfl) (by kernel_rfl) (fun _ _ _ h => h) (Or.inl ⟨by rfl, ?_⟩) KX.out ?_; rotate_left; · intro w hSw; (try dsimp only at hSw); go_simp; try with_reducible rfl
      try simp only [Act.put, sx1, sx2, sx3]
      refine wpAnyH_take (i := 53) (oi := ⟨some 115, _, _, _, _, _⟩) (v := ?_) rfl (by kernel_rfl) (by kernel_rfl) (by kernel_rfl) (fun _ _ _ h => h) (Or.inl ⟨by rfl, ?_⟩) KX.out ?_; rotate_left; · intro w hSw; (try dsimp only at hSw); go_simp; try with_reducible rfl
      try simp only [Act.put, sx1, sx2, sx3]
      refine wpAnyH_take (i := 54) (oi := ⟨some 116, _, _, _, _, _⟩) (v := undef) rfl (by kernel_rfl) (by kernel_rfl) (by kernel_rfl) (fun _ _ _ h => h) (Or.inr ⟨by rfl, rfl⟩) KX.out ?_; try simp only [Act.put, sx1, sx2, sx3]
      refine wpAnyH_take (i := 55) (oi := ⟨some 117, _, _, _, _, _⟩) (v := undef) rfl (by kernel_rfl) (by kernel_rfl) (by kernel_rfl) (fun _ _ _ h => h) (Or.inr ⟨by rfl, rfl⟩) KX.out ?_; try simp only [Act.put, sx1, sx2, sx3]
      refine wpAnyH_take (i := 56) (oi := ⟨some 118, _, _, _, _, _⟩) (v := undef) rfl (by kernel_rfl) (by kernel_rfl) (by kernel_rfl) (fun _ _ _ h => h) (Or.inr ⟨by rfl, rfl⟩) KX.out ?_; try simp only [Act.put, sx1, sx2, sx3]
      refine wpAnyH_take (i := 57) (oi := ⟨some 119, _, _, _, _, _⟩) (v := undef) rfl (by kernel_rfl) (by kernel_rfl) (by kernel_rfl) (fun _ _ _ h => h) (Or.inr ⟨by rfl, rfl⟩) KX.out ?_; try simp only [Act.put, sx1, sx2, sx3]
      refine wpAnyH_take (i := 58) (oi := ⟨some 120, _, _, _, _, _⟩) (v := undef) rfl (by kernel_rfl) (by kernel_rfl) (by kernel_rfl) (fun _ _ _ h => h) (Or.inr ⟨by rfl, rfl⟩) KX.out ?_; try simp only [Act.put, sx1, sx2, sx3]
      refine wpAnyH_take (i := 59) (oi := ⟨some 121, _, _, _, _, _⟩) (v := undef) rfl (by kernel_rfl) (by kernel_rfl) (by kernel_rfl) (fun _ _ _ h => h) (Or.inr ⟨by rfl, rfl⟩) KX.out ?_; try simp only [Act.put, sx1, sx2, sx3]
      refine wpAnyH_take (i := 60) (oi := ⟨some 122, _, _, _, _, _⟩) (v := ?_) rfl (by kernel_rfl) (by kernel_rfl) (by kernel_rfl) (fun _ _ _ h => h) (Or.inl ⟨by rfl, ?_⟩) KX.out ?_; rotate_left; · intro w hSw; (try dsimp only at hSw); go_simp; try with_reducible rfl
      try simp only [Act.put, sx1, sx2, sx3]
      refine wpAnyH_done (by kernel_rfl) ?_ _
      first | go_meet | (go_wp2_with fail; go_meet)
      exact ⟨rfl, HBX⟩
    have n1 : decide (op < 1) = false := decide_eq_false o1
    have n12 : decide (12 < op) = false := decide_eq_false o12
    by_cases o4 : op = 4
    ·subst o4
     clear n1 n12 o1 o12
     have C2 := Lib.hid (fun w => risTwo_any a w)
     have C1 := Lib.hid (fun w => risOne_any a w)
     cases q2 : twoI a with
     | true =>
      have e : b1 = true := by rw [← HB1.out, (HW2.out a b c d).2.2, q2]; rfl
      subst e
      rw [q2] at C2
      clear q2
      as_aux_lemma =>
       refine wp_region_held (S := fun w' => w'.cell? ⟨g, 0, none⟩ = some (.int .i64 st) ∧ w'.cell? ⟨g, 1, none⟩ = some (.int .i64 sl) ∧ w'.cell? ⟨g, 2, none⟩ = some (.int .i64 bks) ∧ w'.cell? ⟨g, 3, none⟩ = some (.int .i64 gr) ∧ w'.cell? ⟨g, 4, none⟩ = some (.int .i64 gb) ∧ w'.cell? ⟨g, 5, none⟩ = some (.slice (some ad) m ci) ∧ w'.cell? ⟨g, 6, none⟩ = some (.slice ao no co) ∧ w'.cell? ⟨g, 7, none⟩ = some (.int .i64 la) ∧ w'.cell? ⟨g, 8, none⟩ = some (.slice ac nc cc) ∧ w'.cell? ⟨g4, 0, none⟩ = some (.int .i64 4) ∧ w'.cell? ⟨g4, 1, none⟩ = some (.int .i64 a) ∧ w'.cell? ⟨g4, 2, none⟩ = some (.int .i64 b) ∧ w'.cell? ⟨g4, 3, none⟩ = some (.int .i64 c) ∧ w'.cell? ⟨g4, 4, none⟩ = some (.int .i64 d)) (by kernel_rfl) ?_
       change wpAnyH _ _ _ _ _ _ _ _ (World.drew w4)
       have KX := Lib.hid (both (boxOn HG4.out HBX.out) (boxOn H4.out HBX.out))
       refine wpAnyH_take (i := 0) (oi := ⟨some 62, _, _, _, _, _⟩) (v := ?_) rfl (by kernel_rfl) (by kernel_rfl) (by kernel_rfl) (fun _ _ _ h => h) (Or.inl ⟨by rfl, ?_⟩) KX.out ?_; rotate_left; · intro w hSw; (try dsimp only at hSw); go_simp; try with_reducible rfl
       try simp only [Act.put, sx1, sx2, sx3]
       refine wpAnyH_take (i := 1) (oi := ⟨some 63, _, _, _, _, _⟩) (v := ?_) rfl (by kernel_rfl) (by kernel_rfl) (by kernel_rfl) (fun _ _ _ h => h) (Or.inl ⟨by rfl, ?_⟩) KX.out ?_; rotate_left; · intro w hSw; (try dsimp only at hSw); go_simp; try with_reducible rfl
       try simp only [Act.put, sx1, sx2, sx3]
       refine wpAnyH_take (i := 2) (oi := ⟨some 64, _, _, _, _, _⟩) (v := ?_) rfl (by kernel_rfl) (by kernel_rfl) (by kernel_rfl) (fun _ _ _ h => h) (Or.inl ⟨by rfl, ?_⟩) KX.out ?_; rotate_left; · intro w hSw; (try dsimp only at hSw); go_simp; try with_reducible rfl
       try simp only [Act.put, sx1, sx2, sx3]
       refine wpAnyH_take (i := 3) (oi := ⟨some 65, _, _, _, _, _⟩) (v := ?_) rfl (by kernel_rfl) (by kernel_rfl) (by kernel_rfl) (fun _ _ _ h => h) (Or.inl ⟨by rfl, ?_⟩) KX.out ?_; rotate_left; · intro w hSw; (try dsimp only at hSw); go_simp; try with_reducible rfl
       try simp only [Act.put, sx1, sx2, sx3]
       refine wpAnyH_take (i := 4) (oi := ⟨some 66, _, _, _, _, _⟩) (v := ?_) rfl (by kernel_rfl) (by kernel_rfl) (by kernel_rfl) (fun _ _ _ h => h) (Or.inl ⟨by rfl, ?_⟩) KX.out ?_; rotate_left; · intro w hSw; (try dsimp only at hSw); go_simp; try with_reducible rfl
       try simp only [Act.put, sx1, sx2, sx3]
       refine wpAnyH_take (i := 5) (oi := ⟨some 67, _, _, _, _, _⟩) (v := ?_) rfl (by kernel_rfl) (by kernel_rfl) (by kernel_rfl) (fun _ _ _ h => h) (Or.inl ⟨by rfl, ?_⟩) KX.out ?_; rotate_left; · intro w hSw; (try dsimp only at hSw); go_simp; try with_reducible rfl
       try simp only [Act.put, sx1, sx2, sx3]
       refine wpAnyH_take (i := 6) (oi := ⟨some 68, _, _, _, _, _⟩) (v := ?_) rfl (by kernel_rfl) (by kernel_rfl) (by kernel_rfl) (fun _ _ _ h => h) (Or.inl ⟨by rfl, ?_⟩) KX.out ?_; rotate_left; · intro w hSw; (try dsimp only at hSw); go_simp; try with_reducible rfl
       try simp only [Act.put, sx1, sx2, sx3]
       refine wpAnyH_take (i := 7) (oi := ⟨some 69, _, _, _, _, _⟩) (v := ?_) rfl (by kernel_rfl) (by kernel_rfl) (by kernel_rfl) (fun _ _ _ h => h) (Or.inl ⟨by rfl, ?_⟩) KX.out ?_; rotate_left; · intro w hSw; (try dsimp only at hSw); go_simp; try with_reducible rfl
       try simp only [Act.put, sx1, sx2, sx3]
       refine wpAnyH_take (i := 8) (oi := ⟨some 70, _, _, _, _, _⟩) (v := ?_) rfl (by kernel_rfl) (by kernel_rfl) (by kernel_rfl) (fun _ _ _ h => h) (Or.inl ⟨by rfl, ?_⟩) KX.out ?_; rotate_left; · intro w hSw; (try dsimp only at hSw); go_simp; try with_reducible rfl
       try simp only [Act.put, sx1, sx2, sx3]
       refine wpAnyH_take (i := 9) (oi := ⟨some 71, _, _, _, _, _⟩) (v := ?_) rfl (by kernel_rfl) (by kernel_rfl) (by kernel_rfl) (fun _ _ _ h => h) (Or.inl ⟨by rfl, ?_⟩) KX.out ?_; rotate_left; · intro w hSw; (try dsimp only at hSw); go_simp; try with_reducible rfl
       try simp only [Act.put, sx1, sx2, sx3]
       refine wpAnyH_take (i := 10) (oi := ⟨some 72, _, _, _, _, _⟩) (v := ?_) rfl (by kernel_rfl) (by kernel_rfl) (by kernel_rfl) (fun _ _ _ h => h) (Or.inl ⟨by rfl, ?_⟩) KX.out ?_; rotate_left; · intro w hSw; (try dsimp only at hSw); go_simp; try with_reducible rfl
       try simp only [Act.put, sx1, sx2, sx3]
       refine wpAnyH_take (i := 11) (oi := ⟨some 73, _, _, _, _, _⟩) (v := ?_) rfl (by kernel_rfl) (by kernel_rfl) (by kernel_rfl) (fun _ _ _ h => h) (Or.inl ⟨by rfl, ?_⟩) KX.out ?_; rotate_left; · intro w hSw; (try dsimp only at hSw); go_simp; try with_reducible rfl
       try simp only [Act.put, sx1, sx2, sx3]
       refine wpAnyH_take (i := 12) (oi := ⟨some 74, _, _, _, _, _⟩) (v := ?_) rfl (by kernel_rfl) (by kernel_rfl) (by kernel_rfl) (fun _ _ _ h => h) (Or.inl ⟨by rfl, ?_⟩) KX.out ?_; rotate_left; · intro w hSw; (try dsimp only at hSw); go_simp; try with_reducible rfl
       try simp only [Act.put, sx1, sx2, sx3]
       refine wpAnyH_take (i := 13) (oi := ⟨some 75, _, _, _, _, _⟩) (v := ?_) rfl (by kernel_rfl) (by kernel_rfl) (by kernel_rfl) (fun _ _ _ h => h) (Or.inl ⟨by rfl, ?_⟩) KX.out ?_; rotate_left; · intro w hSw; (try dsimp only at hSw); go_simp; try with_reducible rfl
       try simp only [Act.put, sx1, sx2, sx3]
       refine wpAnyH_take (i := 14) (oi := ⟨some 76, _, _, _, _, _⟩) (v := ?_) rfl (by kernel_rfl) (by kernel_rfl) (by kernel_rfl) (fun _ _ _ h => h) (Or.inl ⟨by rfl, ?_⟩) KX.out ?_; rotate_left; · intro w hSw; (try dsimp only at hSw); go_simp; try with_reducible rfl
       try simp only [Act.put, sx1, sx2, sx3]
       refine wpAnyH_ready (rs := [15]) (by kernel_rfl) (by simp) ?_
       refine AllReadyH.cons rfl (fun K hK => ?_) ?_
       rotate_left
       ·exact AllReadyH.nil
       go_simp
       go_at_call 19
       refine (C2.out _).mono ?_
       rintro e wz ⟨rfl, hwz⟩
       subst wz
       go_wp2_with fail
       refine hK.out _ _ KX.out (fun hHeld => ?_)
       clear hK K hHeld
       try simp only [Act.put, sx1, sx2, sx3]
       refine wpAnyH_take (i := 16) (oi := ⟨some 78, _, _, _, _, _⟩) (v := ?_) rfl (by kernel_rfl) (by kernel_rfl) (by kernel_rfl) (fun _ _ _ h => h) (Or.inl ⟨by rfl, ?_⟩) KX.out ?_; rotate_left; · intro w hSw; (try dsimp only at hSw); go_simp; try with_reducible rfl
       try simp only [Act.put, sx1, sx2, sx3]
       refine wpAnyH_take (i := 17) (oi := ⟨some 79, _, _, _, _, _⟩) (v := ?_) rfl (by kernel_rfl) (by kernel_rfl) (by kernel_rfl) (fun _ _ _ h => h) (Or.inl ⟨by rfl, ?_⟩) KX.out ?_; rotate_left; · intro w hSw; (try dsimp only at hSw); go_simp; try with_reducible rfl
       try simp only [Act.put, sx1, sx2, sx3]
       refine wpAnyH_take (i := 18) (oi := ⟨some 80, _, _, _, _, _⟩) (v := ?_) rfl (by kernel_rfl) (by kernel_rfl) (by kernel_rfl) (fun _ _ _ h => h) (Or.inl ⟨by rfl, ?_⟩) KX.out ?_; rotate_left; · intro w hSw; (try dsimp only at hSw); go_simp; try with_reducible rfl
       try simp only [Act.put, sx1, sx2, sx3]
       refine wpAnyH_take (i := 19) (oi := ⟨some 81, _, _, _, _, _⟩) (v := undef) rfl (by kernel_rfl) (by kernel_rfl) (by kernel_rfl) (fun _ _ _ h => h) (Or.inr ⟨by rfl, rfl⟩) KX.out ?_; try simp only [Act.put, sx1, sx2, sx3]
       refine wpAnyH_take (i := 20) (oi := ⟨some 82, _, _, _, _, _⟩) (v := undef) rfl (by kernel_rfl) (by kernel_rfl) (by kernel_rfl) (fun _ _ _ h => h) (Or.inr ⟨by rfl, rfl⟩) KX.out ?_; try simp only [Act.put, sx1, sx2, sx3]
       refine wpAnyH_take (i := 21) (oi := ⟨some 83, _, _, _, _, _⟩) (v := undef) rfl (by kernel_rfl) (by kernel_rfl) (by kernel_rfl) (fun _ _ _ h => h) (Or.inr ⟨by rfl, rfl⟩) KX.out ?_; try simp only [Act.put, sx1, sx2, sx3]
       refine wpAnyH_take (i := 22) (oi := ⟨some 84, _, _, _, _, _⟩) (v := undef) rfl (by kernel_rfl) (by kernel_rfl) (by kernel_rfl) (fun _ _ _ h => h) (Or.inr ⟨by rfl, rfl⟩) KX.out ?_; try simp only [Act.put, sx1, sx2, sx3]
       refine wpAnyH_take (i := 23) (oi := ⟨some 85, _, _, _, _, _⟩) (v := ?_) rfl (by kernel_rfl) (by kernel_rfl) (by kernel_rfl) (fun _ _ _ h => h) (Or.inl ⟨by rfl, ?_⟩) KX.out ?_; rotate_left; · intro w hSw; (try dsimp only at hSw); go_simp; try with_reducible rfl
       try simp only [Act.put, sx1, sx2, sx3]
       refine wpAnyH_take (i := 24) (oi := ⟨some 86, _, _, _, _, _⟩) (v := ?_) rfl (by kernel_rfl) (by kernel_rfl) (by kernel_rfl) (fun _ _ _ h => h) (Or.inl ⟨by rfl, ?_⟩) KX.out ?_; rotate_left; · intro w hSw; (try dsimp only at hSw); go_simp; try with_reducible rfl
       try simp only [Act.put, sx1, sx2, sx3]
       refine wpAnyH_take (i := 25) (oi := ⟨some 87, _, _, _, _, _⟩) (v := ?_) rfl (by kernel_rfl) (by kernel_rfl) (by kernel_rfl) (fun _ _ _ h => h) (Or.inl ⟨by rfl, ?_⟩) KX.out ?_; rotate_left; · intro w hSw; (try dsimp only at hSw); go_simp; try with_reducible rfl
       try simp only [Act.put, sx1, sx2, sx3]
       refine wpAnyH_take (i := 26) (oi := ⟨some 88, _, _, _, _, _⟩) (v := ?_) rfl (by kernel_rfl) (by kernel_rfl) (by kernel_rfl) (fun _ _ _ h => h) (Or.inl ⟨by rfl, ?_⟩) KX.out ?_; rotate_left; · intro w hSw; (try dsimp only at hSw); go_simp; try with_reducible rfl
       try simp only [Act.put, sx1, sx2, sx3]
       refine wpAnyH_take (i := 27) (oi := ⟨some 89, _, _, _, _, _⟩) (v := ?_) rfl (by kernel_rfl) (by kernel_rfl) (by kernel_rfl) (fun _ _ _ h => h) (Or.inl ⟨by rfl, ?_⟩) KX.out ?_; rotate_left; · intro w hSw; (try dsimp only at hSw); go_simp; try with_reducible rfl
       try simp only [Act.put, sx1, sx2, sx3]
       refine wpAnyH_take (i := 28) (oi := ⟨some 90, _, _, _, _, _⟩) (v := ?_) rfl (by kernel_rfl) (by kernel_rfl) (by kernel_rfl) (fun _ _ _ h => h) (Or.inl ⟨by rfl, ?_⟩) KX.out ?_; rotate_left; · intro w hSw; (try dsimp only at hSw); go_simp; try with_reducible rfl
       try simp only [Act.put, sx1, sx2, sx3]
       refine wpAnyH_take (i := 29) (oi := ⟨some 91, _, _, _, _, _⟩) (v := ?_) rfl (by kernel_rfl) (by kernel_rfl) (by kernel_rfl) (fun _ _ _ h => h) (Or.inl ⟨by rfl, ?_⟩) KX.out ?_; rotate_left; · intro w hSw; (try dsimp only at hSw); go_simp; try with_reducible rfl
       try simp only [Act.put, sx1, sx2, sx3]
       refine wpAnyH_take (i := 30) (oi := ⟨some 92, _, _, _, _, _⟩) (v := undef) rfl (by kernel_rfl) (by kernel_rfl) (by kernel_rfl) (fun _ _ _ h => h) (Or.inr ⟨by rfl, rfl⟩) KX.out ?_; try simp only [Act.put, sx1, sx2, sx3]
       refine wpAnyH_take (i := 31) (oi := ⟨some 93, _, _, _, _, _⟩) (v := undef) rfl (by kernel_rfl) (by kernel_rfl) (by kernel_rfl) (fun _ _ _ h => h) (Or.inr ⟨by rfl, rfl⟩) KX.out ?_; try simp only [Act.put, sx1, sx2, sx3]
       refine wpAnyH_take (i := 32) (oi := ⟨some 94, _, _, _, _, _⟩) (v := undef) rfl (by kernel_rfl) (by kernel_rfl) (by kernel_rfl) (fun _ _ _ h => h) (Or.inr ⟨by rfl, rfl⟩) KX.out ?_; try simp only [Act.put, sx1, sx2, sx3]
       refine wpAnyH_take (i := 33) (oi := ⟨some 95, _, _, _, _, _⟩) (v := undef) rfl (by kernel_rfl) (by kernel_rfl) (by kernel_rfl) (fun _ _ _ h => h) (Or.inr ⟨by rfl, rfl⟩) KX.out ?_; try simp only [Act.put, sx1, sx2, sx3]
       refine wpAnyH_take (i := 34) (oi := ⟨some 96, _, _, _, _, _⟩) (v := undef) rfl (by kernel_rfl) (by kernel_rfl) (by kernel_rfl) (fun _ _ _ h => h) (Or.inr ⟨by rfl, rfl⟩) KX.out ?_; try simp only [Act.put, sx1, sx2, sx3]
       refine wpAnyH_take (i := 35) (oi := ⟨some 97, _, _, _, _, _⟩) (v := undef) rfl (by kernel_rfl) (by kernel_rfl) (by kernel_rfl) (fun _ _ _ h => h) (Or.inr ⟨by rfl, rfl⟩) KX.out ?_; try simp only [Act.put, sx1, sx2, sx3]
       refine wpAnyH_take (i := 36) (oi := ⟨some 98, _, _, _, _, _⟩) (v := undef) rfl (by kernel_rfl) (by kernel_rfl) (by kernel_rfl) (fun _ _ _ h => h) (Or.inr ⟨by rfl, rfl⟩) KX.out ?_; try simp only [Act.put, sx1, sx2, sx3]
       refine wpAnyH_take (i := 37) (oi := ⟨some 99, _, _, _, _, _⟩) (v := ?_) rfl (by kernel_rfl) (by kernel_rfl) (by kernel_rfl) (fun _ _ _ h => h) (Or.inl ⟨by rfl, ?_⟩) KX.out ?_; rotate_left; · intro w hSw; (try dsimp only at hSw); go_simp; try with_reducible rfl
       try simp only [Act.put, sx1, sx2, sx3]
       refine wpAnyH_take (i := 38) (oi := ⟨some 100, _, _, _, _, _⟩) (v := ?_) rfl (by kernel_rfl) (by kernel_rfl) (by kernel_rfl) (fun _ _ _ h => h) (Or.inl ⟨by rfl, ?_⟩) KX.out ?_; rotate_left; · intro w hSw; (try dsimp only at hSw); go_simp; try with_reducible rfl
       try simp only [Act.put, sx1, sx2, sx3]
       refine wpAnyH_take (i := 39) (oi := ⟨some 101, _, _, _, _, _⟩) (v := ?_) rfl (by kernel_rfl) (by kernel_rfl) (by kernel_rfl) (fun _ _ _ h => h) (Or.inl ⟨by rfl, ?_⟩) KX.out ?_; rotate_left; · intro w hSw; (try dsimp only at hSw); go_simp; try with_reducible rfl
       try simp only [Act.put, sx1, sx2, sx3]
       refine wpAnyH_take (i := 40) (oi := ⟨some 102, _, _, _, _, _⟩) (v := ?_) rfl (by kernel_rfl) (by kernel_rfl) (by kernel_rfl) (fun _ _ _ h => h) (Or.inl ⟨by rfl, ?_⟩) KX.out ?_; rotate_left; · intro w hSw; (try dsimp only at hSw); go_simp; try with_reducible rfl
       try simp only [Act.put, sx1, sx2, sx3]
       refine wpAnyH_take (i := 41) (oi := ⟨some 103, _, _, _, _, _⟩) (v := ?_) rfl (by kernel_rfl) (by kernel_rfl) (by kernel_rfl) (fun _ _ _ h => h) (Or.inl ⟨by rfl, ?_⟩) KX.out ?_; rotate_left; · intro w hSw; (try dsimp only at hSw); go_simp; try with_reducible rfl
       try simp only [Act.put, sx1, sx2, sx3]
       refine wpAnyH_take (i := 42) (oi := ⟨some 104, _, _, _, _, _⟩) (v := ?_) rfl (by kernel_rfl) (by kernel_rfl) (by kernel_rfl) (fun _ _ _ h => h) (Or.inl ⟨by rfl, ?_⟩) KX.out ?_; rotate_left; · intro w hSw; (try dsimp only at hSw); go_simp; try with_reducible rfl
       try simp only [Act.put, sx1, sx2, sx3]
       refine wpAnyH_take (i := 43) (oi := ⟨some 105, _, _, _, _, _⟩) (v := ?_) rfl (by kernel_rfl) (by kernel_rfl) (by kernel_rfl) (fun _ _ _ h => h) (Or.inl ⟨by rfl, ?_⟩) KX.out ?_; rotate_left; · intro w hSw; (try dsimp only at hSw); go_simp; try with_reducible rfl
       try simp only [Act.put, sx1, sx2, sx3]
       refine wpAnyH_take (i := 44) (oi := ⟨some 106, _, _, _, _, _⟩) (v := undef) rfl (by kernel_rfl) (by kernel_rfl) (by kernel_rfl) (fun _ _ _ h => h) (Or.inr ⟨by rfl, rfl⟩) KX.out ?_; try simp only [Act.put, sx1, sx2, sx3]
       refine wpAnyH_take (i := 45) (oi := ⟨some 107, _, _, _, _, _⟩) (v := undef) rfl (by kernel_rfl) (by kernel_rfl) (by kernel_rfl) (fun _ _ _ h => h) (Or.inr ⟨by rfl, rfl⟩) KX.out ?_; try simp only [Act.put, sx1, sx2, sx3]
       refine wpAnyH_take (i := 46) (oi := ⟨some 108, _, _, _, _, _⟩) (v := undef) rfl (by kernel_rfl) (by kernel_rfl) (by kernel_rfl) (fun _ _ _ h => h) (Or.inr ⟨by rfl, rfl⟩) KX.out ?_; try simp only [Act.put, sx1, sx2, sx3]
       refine wpAnyH_take (i := 47) (oi := ⟨some 109, _, _, _, _, _⟩) (v := undef) rfl (by kernel_rfl) (by kernel_rfl) (by kernel_rfl) (fun _ _ _ h => h) (Or.inr ⟨by rfl, rfl⟩) KX.out ?_; try simp only [Act.put, sx1, sx2, sx3]
       refine wpAnyH_take (i := 48) (oi := ⟨some 110, _, _, _, _, _⟩) (v := undef) rfl (by kernel_rfl) (by kernel_rfl) (by kernel_rfl) (fun _ _ _ h => h) (Or.inr ⟨by rfl, rfl⟩) KX.out ?_; try simp only [Act.put, sx1, sx2, sx3]
       refine wpAnyH_take (i := 49) (oi := ⟨some 111, _, _, _, _, _⟩) (v := undef) rfl (by kernel_rfl) (by kernel_rfl) (by kernel_rfl) (fun _ _ _ h => h) (Or.inr ⟨by rfl, rfl⟩) KX.out ?_; try simp only [Act.put, sx1, sx2, sx3]
       refine wpAnyH_take (i := 50) (oi := ⟨some 112, _, _, _, _, _⟩) (v := undef) rfl (by kernel_rfl) (by kernel_rfl) (by kernel_rfl) (fun _ _ _ h => h) (Or.inr ⟨by rfl, rfl⟩) KX.out ?_; try simp only [Act.put, sx1, sx2, sx3]
       refine wpAnyH_take (i := 51) (oi := ⟨some 113, _, _, _, _, _⟩) (v := ?_) rfl (by kernel_rfl) (by kernel_rfl) (by kernel_rfl) (fun _ _ _ h => h) (Or.inl ⟨by rfl, ?_⟩) KX.out ?_; rotate_left; · intro w hSw; (try dsimp only at hSw); go_simp; try with_reducible rfl
       try simp only [Act.put, sx1, sx2, sx3]
       refine wpAnyH_take (i := 52) (oi := ⟨some 114, _, _, _, _, _⟩) (v := ?_) rfl (by kernel_rfl) (by kernel_rfl) (by kernel_rfl) (fun _ _ _ h => h) (Or.inl ⟨by rfl, ?_⟩) KX.out ?_; rotate_left; · intro w hSw; (try dsimp only at hSw); go_simp; try with_reducible rfl
       try simp only [Act.put, sx1, sx2, sx3]
       refine wpAnyH_take (i := 53) (oi := ⟨some 115, _, _, _, _, _⟩) (v := ?_) rfl (by kernel_rfl) (by kernel_rfl) (by kernel_rfl) (fun _ _ _ h => h) (Or.inl ⟨by rfl, ?_⟩) KX.out ?_; rotate_left; · intro w hSw; (try dsimp only at hSw); go_simp; try with_reducible rfl
       try simp only [Act.put, sx1, sx2, sx3]
       refine wpAnyH_take (i := 54) (oi := ⟨some 116, _, _, _, _, _⟩) (v := ?_) rfl (by kernel_rfl) (by kernel_rfl) (by kernel_rfl) (fun _ _ _ h => h) (Or.inl ⟨by rfl, ?_⟩) KX.out ?_; rotate_left; · intro w hSw; (try dsimp only at hSw); go_simp; try with_reducible rfl
       try simp only [Act.put, sx1, sx2, sx3]
       refine wpAnyH_take (i := 55) (oi := ⟨some 117, _, _, _, _, _⟩) (v := ?_) rfl (by kernel_rfl) (by kernel_rfl) (by kernel_rfl) (fun _ _ _ h => h) (Or.inl ⟨by rfl, ?_⟩) KX.out ?_; rotate_left; · intro w hSw; (try dsimp only at hSw); go_simp; try with_reducible rfl
       try simp only [Act.put, sx1, sx2, sx3]
       refine wpAnyH_take (i := 57) (oi := ⟨some 119, _, _, _, _, _⟩) (v := ?_) rfl (by kernel_rfl) (by kernel_rfl) (by kernel_rfl) (fun _ _ _ h => h) (Or.inl ⟨by rfl, ?_⟩) KX.out ?_; rotate_left; · intro w hSw; (try dsimp only at hSw); go_simp; try with_reducible rfl
       try simp only [Act.put, sx1, sx2, sx3]
       refine wpAnyH_ready (rs := [56]) (by kernel_rfl) (by simp) ?_
       refine AllReadyH.cons rfl (fun K hK => ?_) ?_
       rotate_left
       ·exact AllReadyH.nil
       go_simp
       go_at_call 22
       refine (CU.out _).mono ?_
       rintro e wn ⟨vu, rfl, hou, hb⟩
       have HVU := Lib.hid (Reads.of_owns hou)
       have HBX := Lib.hid (HBX.out.trans (hb.mono HBX.out.size))
       have KX := Lib.hid (both (boxOn HG4.out HBX.out) (boxOn H4.out HBX.out))
       clear hb hou
       go_wp2_with fail
       refine hK.out _ _ KX.out (fun hHeld => ?_)
       clear hK K hHeld
       try simp only [Act.put, sx1, sx2, sx3]
       refine wpAnyH_ready (rs := [58]) (by kernel_rfl) (by simp) ?_
       refine AllReadyH.cons rfl (fun K hK => ?_) ?_
       rotate_left
       ·exact AllReadyH.nil
       go_simp
       go_at_call 46
       refine (CK.out _ HBX.out vu HVU.out).mono ?_
       rintro e wn ⟨rfl, hb⟩
       have HBX := Lib.hid (HBX.out.trans (hb.mono HBX.out.size))
       have KX := Lib.hid (both (boxOn HG4.out HBX.out) (boxOn H4.out HBX.out))
       clear hb
       go_wp2_with fail
       refine hK.out _ _ KX.out (fun hHeld => ?_)
       clear hK K hHeld
       try simp only [Act.put, sx1, sx2, sx3]
       refine wpAnyH_take (i := 59) (oi := ⟨some 121, _, _, _, _, _⟩) (v := ?_) rfl (by kernel_rfl) (by kernel_rfl) (by kernel_rfl) (fun _ _ _ h => h) (Or.inl ⟨by rfl, ?_⟩) KX.out ?_; rotate_left; · intro w hSw; (try dsimp only at hSw); go_simp; try with_reducible rfl
       try simp only [Act.put, sx1, sx2, sx3]
       refine wpAnyH_take (i := 60) (oi := ⟨some 122, _, _, _, _, _⟩) (v := ?_) rfl (by kernel_rfl) (by kernel_rfl) (by kernel_rfl) (fun _ _ _ h => h) (Or.inl ⟨by rfl, ?_⟩) KX.out ?_; rotate_left; · intro w hSw; (try dsimp only at hSw); go_simp; try with_reducible rfl
       try simp only [Act.put, sx1, sx2, sx3]
       refine wpAnyH_done (by kernel_rfl) ?_ _
       cases b2
       all_goals
        first | go_meet | (go_wp2_with fail; go_meet)
        exact ⟨rfl, HBX⟩
     | false =>
      rw [q2] at C2
      cases q1 : oneI a with
      | true =>
       have e : b1 = true := by rw [← HB1.out, (HW2.out a b c d).2.2, q2, q1]; rfl
       subst e
       rw [q1] at C1
       clear q1 q2
       as_aux_lemma =>
        refine wp_region_held (S := fun w' => w'.cell? ⟨g, 0, none⟩ = some (.int .i64 st) ∧ w'.cell? ⟨g, 1, none⟩ = some (.int .i64 sl) ∧ w'.cell? ⟨g, 2, none⟩ = some (.int .i64 bks) ∧ w'.cell? ⟨g, 3, none⟩ = some (.int .i64 gr) ∧ w'.cell? ⟨g, 4, none⟩ = some (.int .i64 gb) ∧ w'.cell? ⟨g, 5, none⟩ = some (.slice (some ad) m ci) ∧ w'.cell? ⟨g, 6, none⟩ = some (.slice ao no co) ∧ w'.cell? ⟨g, 7, none⟩ = some (.int .i64 la) ∧ w'.cell? ⟨g, 8, none⟩ = some (.slice ac nc cc) ∧ w'.cell? ⟨g4, 0, none⟩ = some (.int .i64 4) ∧ w'.cell? ⟨g4, 1, none⟩ = some (.int .i64 a) ∧ w'.cell? ⟨g4, 2, none⟩ = some (.int .i64 b) ∧ w'.cell? ⟨g4, 3, none⟩ = some (.int .i64 c) ∧ w'.cell? ⟨g4, 4, none⟩ = some (.int .i64 d)) (by kernel_rfl) ?_
        change wpAnyH _ _ _ _ _ _ _ _ (World.drew w4)
        have KX := Lib.hid (both (boxOn HG4.out HBX.out) (boxOn H4.out HBX.out))
        refine wpAnyH_take (i := 0) (oi := ⟨some 62, _, _, _, _, _⟩) (v := ?_) rfl (by kernel_rfl) (by kernel_rfl) (by kernel_rfl) (fun _ _ _ h => h) (Or.inl ⟨by rfl, ?_⟩) KX.out ?_; rotate_left; · intro w hSw; (try dsimp only at hSw); go_simp; try with_reducible rfl
        try simp only [Act.put, sx1, sx2, sx3]
        refine wpAnyH_take (i := 1) (oi := ⟨some 63, _, _, _, _, _⟩) (v := ?_) rfl (by kernel_rfl) (by kernel_rfl) (by kernel_rfl) (fun _ _ _ h => h) (Or.inl ⟨by rfl, ?_⟩) KX.out ?_; rotate_left; · intro w hSw; (try dsimp only at hSw); go_simp; try with_reducible rfl
        try simp only [Act.put, sx1, sx2, sx3]
        refine wpAnyH_take (i := 2) (oi := ⟨some 64, _, _, _, _, _⟩) (v := ?_) rfl (by kernel_rfl) (by kernel_rfl) (by kernel_rfl) (fun _ _ _ h => h) (Or.inl ⟨by rfl, ?_⟩) KX.out ?_; rotate_left; · intro w hSw; (try dsimp only at hSw); go_simp; try with_reducible rfl
        try simp only [Act.put, sx1, sx2, sx3]
        refine wpAnyH_take (i := 3) (oi := ⟨some 65, _, _, _, _, _⟩) (v := ?_) rfl (by kernel_rfl) (by kernel_rfl) (by kernel_rfl) (fun _ _ _ h => h) (Or.inl ⟨by rfl, ?_⟩) KX.out ?_; rotate_left; · intro w hSw; (try dsimp only at hSw); go_simp; try with_reducible rfl
        try simp only [Act.put, sx1, sx2, sx3]
        refine wpAnyH_take (i := 4) (oi := ⟨some 66, _, _, _, _, _⟩) (v := ?_) rfl (by kernel_rfl) (by kernel_rfl) (by kernel_rfl) (fun _ _ _ h => h) (Or.inl ⟨by rfl, ?_⟩) KX.out ?_; rotate_left; · intro w hSw; (try dsimp only at hSw); go_simp; try with_reducible rfl
        try simp only [Act.put, sx1, sx2, sx3]
        refine wpAnyH_take (i := 5) (oi := ⟨some 67, _, _, _, _, _⟩) (v := ?_) rfl (by kernel_rfl) (by kernel_rfl) (by kernel_rfl) (fun _ _ _ h => h) (Or.inl ⟨by rfl, ?_⟩) KX.out ?_; rotate_left; · intro w hSw; (try dsimp only at hSw); go_simp; try with_reducible rfl
        try simp only [Act.put, sx1, sx2, sx3]
        refine wpAnyH_take (i := 6) (oi := ⟨some 68, _, _, _, _, _⟩) (v := ?_) rfl (by kernel_rfl) (by kernel_rfl) (by kernel_rfl) (fun _ _ _ h => h) (Or.inl ⟨by rfl, ?_⟩) KX.out ?_; rotate_left; · intro w hSw; (try dsimp only at hSw); go_simp; try with_reducible rfl
        try simp only [Act.put, sx1, sx2, sx3]
        refine wpAnyH_take (i := 7) (oi := ⟨some 69, _, _, _, _, _⟩) (v := ?_) rfl (by kernel_rfl) (by kernel_rfl) (by kernel_rfl) (fun _ _ _ h => h) (Or.inl ⟨by rfl, ?_⟩) KX.out ?_; rotate_left; · intro w hSw; (try dsimp only at hSw); go_simp; try with_reducible rfl
        try simp only [Act.put, sx1, sx2, sx3]
        refine wpAnyH_take (i := 8) (oi := ⟨some 70, _, _, _, _, _⟩) (v := ?_) rfl (by kernel_rfl) (by kernel_rfl) (by kernel_rfl) (fun _ _ _ h => h) (Or.inl ⟨by rfl, ?_⟩) KX.out ?_; rotate_left; · intro w hSw; (try dsimp only at hSw); go_simp; try with_reducible rfl
        try simp only [Act.put, sx1, sx2, sx3]
        refine wpAnyH_take (i := 9) (oi := ⟨some 71, _, _, _, _, _⟩) (v := ?_) rfl (by kernel_rfl) (by kernel_rfl) (by kernel_rfl) (fun _ _ _ h => h) (Or.inl ⟨by rfl, ?_⟩) KX.out ?_; rotate_left; · intro w hSw; (try dsimp only at hSw); go_simp; try with_reducible rfl
        try simp only [Act.put, sx1, sx2, sx3]
        refine wpAnyH_take (i := 10) (oi := ⟨some 72, _, _, _, _, _⟩) (v := ?_) rfl (by kernel_rfl) (by kernel_rfl) (by kernel_rfl) (fun _ _ _ h => h) (Or.inl ⟨by rfl, ?_⟩) KX.out ?_; rotate_left; · intro w hSw; (try dsimp only at hSw); go_simp; try with_reducible rfl
        try simp only [Act.put, sx1, sx2, sx3]
        refine wpAnyH_take (i := 11) (oi := ⟨some 73, _, _, _, _, _⟩) (v := ?_) rfl (by kernel_rfl) (by kernel_rfl) (by kernel_rfl) (fun _ _ _ h => h) (Or.inl ⟨by rfl, ?_⟩) KX.out ?_; rotate_left; · intro w hSw; (try dsimp only at hSw); go_simp; try with_reducible rfl
        try simp only [Act.put, sx1, sx2, sx3]
        refine wpAnyH_take (i := 12) (oi := ⟨some 74, _, _, _, _, _⟩) (v := ?_) rfl (by kernel_rfl) (by kernel_rfl) (by kernel_rfl) (fun _ _ _ h => h) (Or.inl ⟨by rfl, ?_⟩) KX.out ?_; rotate_left; · intro w hSw; (try dsimp only at hSw); go_simp; try with_reducible rfl
        try simp only [Act.put, sx1, sx2, sx3]
        refine wpAnyH_take (i := 13) (oi := ⟨some 75, _, _, _, _, _⟩) (v := ?_) rfl (by kernel_rfl) (by kernel_rfl) (by kernel_rfl) (fun _ _ _ h => h) (Or.inl ⟨by rfl, ?_⟩) KX.out ?_; rotate_left; · intro w hSw; (try dsimp only at hSw); go_simp; try with_reducible rfl
        try simp only [Act.put, sx1, sx2, sx3]
        refine wpAnyH_take (i := 14) (oi := ⟨some 76, _, _, _, _, _⟩) (v := ?_) rfl (by kernel_rfl) (by kernel_rfl) (by kernel_rfl) (fun _ _ _ h => h) (Or.inl ⟨by rfl, ?_⟩) KX.out ?_; rotate_left; · intro w hSw; (try dsimp only at hSw); go_simp; try with_reducible rfl
        try simp only [Act.put, sx1, sx2, sx3]
        refine wpAnyH_ready (rs := [15]) (by kernel_rfl) (by simp) ?_
        refine AllReadyH.cons rfl (fun K hK => ?_) ?_
        rotate_left
        ·exact AllReadyH.nil
        go_simp
        go_at_call 19
        refine (C2.out _).mono ?_
        rintro e wz ⟨rfl, hwz⟩
        subst wz
        go_wp2_with fail
        refine hK.out _ _ KX.out (fun hHeld => ?_)
        clear hK K hHeld
        try simp only [Act.put, sx1, sx2, sx3]
        refine wpAnyH_take (i := 16) (oi := ⟨some 78, _, _, _, _, _⟩) (v := ?_) rfl (by kernel_rfl) (by kernel_rfl) (by kernel_rfl) (fun _ _ _ h => h) (Or.inl ⟨by rfl, ?_⟩) KX.out ?_; rotate_left; · intro w hSw; (try dsimp only at hSw); go_simp; try with_reducible rfl
        try simp only [Act.put, sx1, sx2, sx3]
        refine wpAnyH_take (i := 17) (oi := ⟨some 79, _, _, _, _, _⟩) (v := ?_) rfl (by kernel_rfl) (by kernel_rfl) (by kernel_rfl) (fun _ _ _ h => h) (Or.inl ⟨by rfl, ?_⟩) KX.out ?_; rotate_left; · intro w hSw; (try dsimp only at hSw); go_simp; try with_reducible rfl
        try simp only [Act.put, sx1, sx2, sx3]
        refine wpAnyH_take (i := 18) (oi := ⟨some 80, _, _, _, _, _⟩) (v := ?_) rfl (by kernel_rfl) (by kernel_rfl) (by kernel_rfl) (fun _ _ _ h => h) (Or.inl ⟨by rfl, ?_⟩) KX.out ?_; rotate_left; · intro w hSw; (try dsimp only at hSw); go_simp; try with_reducible rfl
        try simp only [Act.put, sx1, sx2, sx3]
        refine wpAnyH_take (i := 19) (oi := ⟨some 81, _, _, _, _, _⟩) (v := ?_) rfl (by kernel_rfl) (by kernel_rfl) (by kernel_rfl) (fun _ _ _ h => h) (Or.inl ⟨by rfl, ?_⟩) KX.out ?_; rotate_left; · intro w hSw; (try dsimp only at hSw); go_simp; try with_reducible rfl
        try simp only [Act.put, sx1, sx2, sx3]
        refine wpAnyH_take (i := 20) (oi := ⟨some 82, _, _, _, _, _⟩) (v := ?_) rfl (by kernel_rfl) (by kernel_rfl) (by kernel_rfl) (fun _ _ _ h => h) (Or.inl ⟨by rfl, ?_⟩) KX.out ?_; rotate_left; · intro w hSw; (try dsimp only at hSw); go_simp; try with_reducible rfl
        try simp only [Act.put, sx1, sx2, sx3]
        refine wpAnyH_ready (rs := [21]) (by kernel_rfl) (by simp) ?_
        refine AllReadyH.cons rfl (fun K hK => ?_) ?_
        rotate_left
        ·exact AllReadyH.nil
        go_simp
        go_at_call 20
        refine (C1.out _).mono ?_
        rintro e wz ⟨rfl, hwz⟩
        subst wz
        go_wp2_with fail
        refine hK.out _ _ KX.out (fun hHeld => ?_)
        clear hK K hHeld
        try simp only [Act.put, sx1, sx2, sx3]
        refine wpAnyH_take (i := 22) (oi := ⟨some 84, _, _, _, _, _⟩) (v := ?_) rfl (by kernel_rfl) (by kernel_rfl) (by kernel_rfl) (fun _ _ _ h => h) (Or.inl ⟨by rfl, ?_⟩) KX.out ?_; rotate_left; · intro w hSw; (try dsimp only at hSw); go_simp; try with_reducible rfl
        try simp only [Act.put, sx1, sx2, sx3]
        refine wpAnyH_take (i := 23) (oi := ⟨some 85, _, _, _, _, _⟩) (v := ?_) rfl (by kernel_rfl) (by kernel_rfl) (by kernel_rfl) (fun _ _ _ h => h) (Or.inl ⟨by rfl, ?_⟩) KX.out ?_; rotate_left; · intro w hSw; (try dsimp only at hSw); go_simp; try with_reducible rfl
        try simp only [Act.put, sx1, sx2, sx3]
        refine wpAnyH_take (i := 24) (oi := ⟨some 86, _, _, _, _, _⟩) (v := ?_) rfl (by kernel_rfl) (by kernel_rfl) (by kernel_rfl) (fun _ _ _ h => h) (Or.inl ⟨by rfl, ?_⟩) KX.out ?_; rotate_left; · intro w hSw; (try dsimp only at hSw); go_simp; try with_reducible rfl
        try simp only [Act.put, sx1, sx2, sx3]
        refine wpAnyH_take (i := 25) (oi := ⟨some 87, _, _, _, _, _⟩) (v := ?_) rfl (by kernel_rfl) (by kernel_rfl) (by kernel_rfl) (fun _ _ _ h => h) (Or.inl ⟨by rfl, ?_⟩) KX.out ?_; rotate_left; · intro w hSw; (try dsimp only at hSw); go_simp; try with_reducible rfl
        try simp only [Act.put, sx1, sx2, sx3]
        refine wpAnyH_take (i := 26) (oi := ⟨some 88, _, _, _, _, _⟩) (v := ?_) rfl (by kernel_rfl) (by kernel_rfl) (by kernel_rfl) (fun _ _ _ h => h) (Or.inl ⟨by rfl, ?_⟩) KX.out ?_; rotate_left; · intro w hSw; (try dsimp only at hSw); go_simp; try with_reducible rfl
        try simp only [Act.put, sx1, sx2, sx3]
        refine wpAnyH_take (i := 27) (oi := ⟨some 89, _, _, _, _, _⟩) (v := ?_) rfl (by kernel_rfl) (by kernel_rfl) (by kernel_rfl) (fun _ _ _ h => h) (Or.inl ⟨by rfl, ?_⟩) KX.out ?_; rotate_left; · intro w hSw; (try dsimp only at hSw); go_simp; try with_reducible rfl
        try simp only [Act.put, sx1, sx2, sx3]
        refine wpAnyH_take (i := 28) (oi := ⟨some 90, _, _, _, _, _⟩) (v := ?_) rfl (by kernel_rfl) (by kernel_rfl) (by kernel_rfl) (fun _ _ _ h => h) (Or.inl ⟨by rfl, ?_⟩) KX.out ?_; rotate_left; · intro w hSw; (try dsimp only at hSw); go_simp; try with_reducible rfl
        try simp only [Act.put, sx1, sx2, sx3]
        refine wpAnyH_take (i := 29) (oi := ⟨some 91, _, _, _, _, _⟩) (v := ?_) rfl (by kernel_rfl) (by kernel_rfl) (by kernel_rfl) (fun _ _ _ h => h) (Or.inl ⟨by rfl, ?_⟩) KX.out ?_; rotate_left; · intro w hSw; (try dsimp only at hSw); go_simp; try with_reducible rfl
        try simp only [Act.put, sx1, sx2, sx3]
        refine wpAnyH_take (i := 30) (oi := ⟨some 92, _, _, _, _, _⟩) (v := undef) rfl (by kernel_rfl) (by kernel_rfl) (by kernel_rfl) (fun _ _ _ h => h) (Or.inr ⟨by rfl, rfl⟩) KX.out ?_; try simp only [Act.put, sx1, sx2, sx3]
        refine wpAnyH_take (i := 31) (oi := ⟨some 93, _, _, _, _, _⟩) (v := undef) rfl (by kernel_rfl) (by kernel_rfl) (by kernel_rfl) (fun _ _ _ h => h) (Or.inr ⟨by rfl, rfl⟩) KX.out ?_; try simp only [Act.put, sx1, sx2, sx3]
        refine wpAnyH_take (i := 32) (oi := ⟨some 94, _, _, _, _, _⟩) (v := undef) rfl (by kernel_rfl) (by kernel_rfl) (by kernel_rfl) (fun _ _ _ h => h) (Or.inr ⟨by rfl, rfl⟩) KX.out ?_; try simp only [Act.put, sx1, sx2, sx3]
        refine wpAnyH_take (i := 33) (oi := ⟨some 95, _, _, _, _, _⟩) (v := undef) rfl (by kernel_rfl) (by kernel_rfl) (by kernel_rfl) (fun _ _ _ h => h) (Or.inr ⟨by rfl, rfl⟩) KX.out ?_; try simp only [Act.put, sx1, sx2, sx3]
        refine wpAnyH_take (i := 34) (oi := ⟨some 96, _, _, _, _, _⟩) (v := undef) rfl (by kernel_rfl) (by kernel_rfl) (by kernel_rfl) (fun _ _ _ h => h) (Or.inr ⟨by rfl, rfl⟩) KX.out ?_; try simp only [Act.put, sx1, sx2, sx3]
        refine wpAnyH_take (i := 35) (oi := ⟨some 97, _, _, _, _, _⟩) (v := undef) rfl (by kernel_rfl) (by kernel_rfl) (by kernel_rfl) (fun _ _ _ h => h) (Or.inr ⟨by rfl, rfl⟩) KX.out ?_; try simp only [Act.put, sx1, sx2, sx3]
        refine wpAnyH_take (i := 36) (oi := ⟨some 98, _, _, _, _, _⟩) (v := undef) rfl (by kernel_rfl) (by kernel_rfl) (by kernel_rfl) (fun _ _ _ h => h) (Or.inr ⟨by rfl, rfl⟩) KX.out ?_; try simp only [Act.put, sx1, sx2, sx3]
        refine wpAnyH_take (i := 37) (oi := ⟨some 99, _, _, _, _, _⟩) (v := ?_) rfl (by kernel_rfl) (by kernel_rfl) (by kernel_rfl) (fun _ _ _ h => h) (Or.inl ⟨by rfl, ?_⟩) KX.out ?_; rotate_left; · intro w hSw; (try dsimp only at hSw); go_simp; try with_reducible rfl
        try simp only [Act.put, sx1, sx2, sx3]
        refine wpAnyH_take (i := 38) (oi := ⟨some 100, _, _, _, _, _⟩) (v := ?_) rfl (by kernel_rfl) (by kernel_rfl) (by kernel_rfl) (fun _ _ _ h => h) (Or.inl ⟨by rfl, ?_⟩) KX.out ?_; rotate_left; · intro w hSw; (try dsimp only at hSw); go_simp; try with_reducible rfl
        try simp only [Act.put, sx1, sx2, sx3]
        refine wpAnyH_take (i := 39) (oi := ⟨some 101, _, _, _, _, _⟩) (v := ?_) rfl (by kernel_rfl) (by kernel_rfl) (by kernel_rfl) (fun _ _ _ h => h) (Or.inl ⟨by rfl, ?_⟩) KX.out ?_; rotate_left; · intro w hSw; (try dsimp only at hSw); go_simp; try with_reducible rfl
        try simp only [Act.put, sx1, sx2, sx3]
        refine wpAnyH_take (i := 40) (oi := ⟨some 102, _, _, _, _, _⟩) (v := ?_) rfl (by kernel_rfl) (by kernel_rfl) (by kernel_rfl) (fun _ _ _ h => h) (Or.inl ⟨by rfl, ?_⟩) KX.out ?_; rotate_left; · intro w hSw; (try dsimp only at hSw); go_simp; try with_reducible rfl
        try simp only [Act.put, sx1, sx2, sx3]
        refine wpAnyH_take (i := 41) (oi := ⟨some 103, _, _, _, _, _⟩) (v := ?_) rfl (by kernel_rfl) (by kernel_rfl) (by kernel_rfl) (fun _ _ _ h => h) (Or.inl ⟨by rfl, ?_⟩) KX.out ?_; rotate_left; · intro w hSw; (try dsimp only at hSw); go_simp; try with_reducible rfl
        try simp only [Act.put, sx1, sx2, sx3]
        refine wpAnyH_take (i := 42) (oi := ⟨some 104, _, _, _, _, _⟩) (v := ?_) rfl (by kernel_rfl) (by kernel_rfl) (by kernel_rfl) (fun _ _ _ h => h) (Or.inl ⟨by rfl, ?_⟩) KX.out ?_; rotate_left; · intro w hSw; (try dsimp only at hSw); go_simp; try with_reducible rfl
        try simp only [Act.put, sx1, sx2, sx3]
        refine wpAnyH_take (i := 43) (oi := ⟨some 105, _, _, _, _, _⟩) (v := ?_) rfl (by kernel_rfl) (by kernel_rfl) (by kernel_rfl) (fun _ _ _ h => h) (Or.inl ⟨by rfl, ?_⟩) KX.out ?_; rotate_left; · intro w hSw; (try dsimp only at hSw); go_simp; try with_reducible rfl
        try simp only [Act.put, sx1, sx2, sx3]
        refine wpAnyH_take (i := 44) (oi := ⟨some 106, _, _, _, _, _⟩) (v := undef) rfl (by kernel_rfl) (by kernel_rfl) (by kernel_rfl) (fun _ _ _ h => h) (Or.inr ⟨by rfl, rfl⟩) KX.out ?_; try simp only [Act.put, sx1, sx2, sx3]
        refine wpAnyH_take (i := 45) (oi := ⟨some 107, _, _, _, _, _⟩) (v := undef) rfl (by kernel_rfl) (by kernel_rfl) (by kernel_rfl) (fun _ _ _ h => h) (Or.inr ⟨by rfl, rfl⟩) KX.out ?_; try simp only [Act.put, sx1, sx2, sx3]
        refine wpAnyH_take (i := 46) (oi := ⟨some 108, _, _, _, _, _⟩) (v := undef) rfl (by kernel_rfl) (by kernel_rfl) (by kernel_rfl) (fun _ _ _ h => h) (Or.inr ⟨by rfl, rfl⟩) KX.out ?_; try simp only [Act.put, sx1, sx2, sx3]
        refine wpAnyH_take (i := 47) (oi := ⟨some 109, _, _, _, _, _⟩) (v := undef) rfl (by kernel_rfl) (by kernel_rfl) (by kernel_rfl) (fun _ _ _ h => h) (Or.inr ⟨by rfl, rfl⟩) KX.out ?_; try simp only [Act.put, sx1, sx2, sx3]
        refine wpAnyH_take (i := 48) (oi := ⟨some 110, _, _, _, _, _⟩) (v := undef) rfl (by kernel_rfl) (by kernel_rfl) (by kernel_rfl) (fun _ _ _ h => h) (Or.inr ⟨by rfl, rfl⟩) KX.out ?_; try simp only [Act.put, sx1, sx2, sx3]
        refine wpAnyH_take (i := 49) (oi := ⟨some 111, _, _, _, _, _⟩) (v := undef) rfl (by kernel_rfl) (by kernel_rfl) (by kernel_rfl) (fun _ _ _ h => h) (Or.inr ⟨by rfl, rfl⟩) KX.out ?_; try simp only [Act.put, sx1, sx2, sx3]
        refine wpAnyH_take (i := 50) (oi := ⟨some 112, _, _, _, _, _⟩) (v := undef) rfl (by kernel_rfl) (by kernel_rfl) (by kernel_rfl) (fun _ _ _ h => h) (Or.inr ⟨by rfl, rfl⟩) KX.out ?_; try simp only [Act.put, sx1, sx2, sx3]
        refine wpAnyH_take (i := 51) (oi := ⟨some 113, _, _, _, _, _⟩) (v := ?_) rfl (by kernel_rfl) (by kernel_rfl) (by kernel_rfl) (fun _ _ _ h => h) (Or.inl ⟨by rfl, ?_⟩) KX.out ?_; rotate_left; · intro w hSw; (try dsimp only at hSw); go_simp; try with_reducible rfl
        try simp only [Act.put, sx1, sx2, sx3]
        refine wpAnyH_take (i := 52) (oi := ⟨some 114, _, _, _, _, _⟩) (v := ?_) rfl (by kernel_rfl) (by kernel_rfl) (by kernel_rfl) (fun _ _ _ h => h) (Or.inl ⟨by rfl, ?_⟩) KX.out ?_; rotate_left; · intro w hSw; (try dsimp only at hSw); go_simp; try with_reducible rfl
        try simp only [Act.put, sx1, sx2, sx3]
        refine wpAnyH_take (i := 53) (oi := ⟨some 115, _, _, _, _, _⟩) (v := ?_) rfl (by kernel_rfl) (by kernel_rfl) (by kernel_rfl) (fun _ _ _ h => h) (Or.inl ⟨by rfl, ?_⟩) KX.out ?_; rotate_left; · intro w hSw; (try dsimp only at hSw); go_simp; try with_reducible rfl
        try simp only [Act.put, sx1, sx2, sx3]
        refine wpAnyH_take (i := 54) (oi := ⟨some 116, _, _, _, _, _⟩) (v := ?_) rfl (by kernel_rfl) (by kernel_rfl) (by kernel_rfl) (fun _ _ _ h => h) (Or.inl ⟨by rfl, ?_⟩) KX.out ?_; rotate_left; · intro w hSw; (try dsimp only at hSw); go_simp; try with_reducible rfl
        try simp only [Act.put, sx1, sx2, sx3]
        refine wpAnyH_take (i := 55) (oi := ⟨some 117, _, _, _, _, _⟩) (v := ?_) rfl (by kernel_rfl) (by kernel_rfl) (by kernel_rfl) (fun _ _ _ h => h) (Or.inl ⟨by rfl, ?_⟩) KX.out ?_; rotate_left; · intro w hSw; (try dsimp only at hSw); go_simp; try with_reducible rfl
        try simp only [Act.put, sx1, sx2, sx3]
        refine wpAnyH_take (i := 57) (oi := ⟨some 119, _, _, _, _, _⟩) (v := ?_) rfl (by kernel_rfl) (by kernel_rfl) (by kernel_rfl) (fun _ _ _ h => h) (Or.inl ⟨by rfl, ?_⟩) KX.out ?_; rotate_left; · intro w hSw; (try dsimp only at hSw); go_simp; try with_reducible rfl
        try simp only [Act.put, sx1, sx2, sx3]
        refine wpAnyH_ready (rs := [56]) (by kernel_rfl) (by simp) ?_
        refine AllReadyH.cons rfl (fun K hK => ?_) ?_
        rotate_left
        ·exact AllReadyH.nil
        go_simp
        go_at_call 22
        refine (CU.out _).mono ?_
        rintro e wn ⟨vu, rfl, hou, hb⟩
        have HVU := Lib.hid (Reads.of_owns hou)
        have HBX := Lib.hid (HBX.out.trans (hb.mono HBX.out.size))
        have KX := Lib.hid (both (boxOn HG4.out HBX.out) (boxOn H4.out HBX.out))
        clear hb hou
        go_wp2_with fail
        refine hK.out _ _ KX.out (fun hHeld => ?_)
        clear hK K hHeld
        try simp only [Act.put, sx1, sx2, sx3]
        refine wpAnyH_ready (rs := [58]) (by kernel_rfl) (by simp) ?_
        refine AllReadyH.cons rfl (fun K hK => ?_) ?_
        rotate_left
        ·exact AllReadyH.nil
        go_simp
        go_at_call 46
        refine (CK.out _ HBX.out vu HVU.out).mono ?_
        rintro e wn ⟨rfl, hb⟩
        have HBX := Lib.hid (HBX.out.trans (hb.mono HBX.out.size))
        have KX := Lib.hid (both (boxOn HG4.out HBX.out) (boxOn H4.out HBX.out))
        clear hb
        go_wp2_with fail
        refine hK.out _ _ KX.out (fun hHeld => ?_)
        clear hK K hHeld
        try simp only [Act.put, sx1, sx2, sx3]
        refine wpAnyH_take (i := 59) (oi := ⟨some 121, _, _, _, _, _⟩) (v := ?_) rfl (by kernel_rfl) (by kernel_rfl) (by kernel_rfl) (fun _ _ _ h => h) (Or.inl ⟨by rfl, ?_⟩) KX.out ?_; rotate_left; · intro w hSw; (try dsimp only at hSw); go_simp; try with_reducible rfl
        try simp only [Act.put, sx1, sx2, sx3]
        refine wpAnyH_take (i := 60) (oi := ⟨some 122, _, _, _, _, _⟩) (v := ?_) rfl (by kernel_rfl) (by kernel_rfl) (by kernel_rfl) (fun _ _ _ h => h) (Or.inl ⟨by rfl, ?_⟩) KX.out ?_; rotate_left; · intro w hSw; (try dsimp only at hSw); go_simp; try with_reducible rfl
        try simp only [Act.put, sx1, sx2, sx3]
        refine wpAnyH_done (by kernel_rfl) ?_ _
        cases b2
        all_goals
         first | go_meet | (go_wp2_with fail; go_meet)
         exact ⟨rfl, HBX⟩
      | false =>
       have e : b1 = false := by rw [← HB1.out, (HW2.out a b c d).2.2, q2, q1]; rfl
       subst e
       rw [q1] at C1
       clear q1 q2
       as_aux_lemma =>
        refine wp_region_held (S := fun w' => w'.cell? ⟨g, 0, none⟩ = some (.int .i64 st) ∧ w'.cell? ⟨g, 1, none⟩ = some (.int .i64 sl) ∧ w'.cell? ⟨g, 2, none⟩ = some (.int .i64 bks) ∧ w'.cell? ⟨g, 3, none⟩ = some (.int .i64 gr) ∧ w'.cell? ⟨g, 4, none⟩ = some (.int .i64 gb) ∧ w'.cell? ⟨g, 5, none⟩ = some (.slice (some ad) m ci) ∧ w'.cell? ⟨g, 6, none⟩ = some (.slice ao no co) ∧ w'.cell? ⟨g, 7, none⟩ = some (.int .i64 la) ∧ w'.cell? ⟨g, 8, none⟩ = some (.slice ac nc cc) ∧ w'.cell? ⟨g4, 0, none⟩ = some (.int .i64 4) ∧ w'.cell? ⟨g4, 1, none⟩ = some (.int .i64 a) ∧ w'.cell? ⟨g4, 2, none⟩ = some (.int .i64 b) ∧ w'.cell? ⟨g4, 3, none⟩ = some (.int .i64 c) ∧ w'.cell? ⟨g4, 4, none⟩ = some (.int .i64 d)) (by kernel_rfl) ?_
        change wpAnyH _ _ _ _ _ _ _ _ (World.drew w4)
        have KX := Lib.hid (both (boxOn HG4.out HBX.out) (boxOn H4.out HBX.out))
        refine wpAnyH_take (i := 0) (oi := ⟨some 62, _, _, _, _, _⟩) (v := ?_) rfl (by kernel_rfl) (by kernel_rfl) (by kernel_rfl) (fun _ _ _ h => h) (Or.inl ⟨by rfl, ?_⟩) KX.out ?_; rotate_left; · intro w hSw; (try dsimp only at hSw); go_simp; try with_reducible rfl
        try simp only [Act.put, sx1, sx2, sx3]
        refine wpAnyH_take (i := 1) (oi := ⟨some 63, _, _, _, _, _⟩) (v := ?_) rfl (by kernel_rfl) (by kernel_rfl) (by kernel_rfl) (fun _ _ _ h => h) (Or.inl ⟨by rfl, ?_⟩) KX.out ?_; rotate_left; · intro w hSw; (try dsimp only at hSw); go_simp; try with_reducible rfl
        try simp only [Act.put, sx1, sx2, sx3]
        refine wpAnyH_take (i := 2) (oi := ⟨some 64, _, _, _, _, _⟩) (v := ?_) rfl (by kernel_rfl) (by kernel_rfl) (by kernel_rfl) (fun _ _ _ h => h) (Or.inl ⟨by rfl, ?_⟩) KX.out ?_; rotate_left; · intro w hSw; (try dsimp only at hSw); go_simp; try with_reducible rfl
        try simp only [Act.put, sx1, sx2, sx3]
        refine wpAnyH_take (i := 3) (oi := ⟨some 65, _, _, _, _, _⟩) (v := ?_) rfl (by kernel_rfl) (by kernel_rfl) (by kernel_rfl) (fun _ _ _ h => h) (Or.inl ⟨by rfl, ?_⟩) KX.out ?_; rotate_left; · intro w hSw; (try dsimp only at hSw); go_simp; try with_reducible rfl
        try simp only [Act.put, sx1, sx2, sx3]
        refine wpAnyH_take (i := 4) (oi := ⟨some 66, _, _, _, _, _⟩) (v := ?_) rfl (by kernel_rfl) (by kernel_rfl) (by kernel_rfl) (fun _ _ _ h => h) (Or.inl ⟨by rfl, ?_⟩) KX.out ?_; rotate_left; · intro w hSw; (try dsimp only at hSw); go_simp; try with_reducible rfl
        try simp only [Act.put, sx1, sx2, sx3]
        refine wpAnyH_take (i := 5) (oi := ⟨some 67, _, _, _, _, _⟩) (v := ?_) rfl (by kernel_rfl) (by kernel_rfl) (by kernel_rfl) (fun _ _ _ h => h) (Or.inl ⟨by rfl, ?_⟩) KX.out ?_; rotate_left; · intro w hSw; (try dsimp only at hSw); go_simp; try with_reducible rfl
        try simp only [Act.put, sx1, sx2, sx3]
        refine wpAnyH_take (i := 6) (oi := ⟨some 68, _, _, _, _, _⟩) (v := ?_) rfl (by kernel_rfl) (by kernel_rfl) (by kernel_rfl) (fun _ _ _ h => h) (Or.inl ⟨by rfl, ?_⟩) KX.out ?_; rotate_left; · intro w hSw; (try dsimp only at hSw); go_simp; try with_reducible rfl
        try simp only [Act.put, sx1, sx2, sx3]
        refine wpAnyH_take (i := 7) (oi := ⟨some 69, _, _, _, _, _⟩) (v := ?_) rfl (by kernel_rfl) (by kernel_rfl) (by kernel_rfl) (fun _ _ _ h => h) (Or.inl ⟨by rfl, ?_⟩) KX.out ?_; rotate_left; · intro w hSw; (try dsimp only at hSw); go_simp; try with_reducible rfl
        try simp only [Act.put, sx1, sx2, sx3]
        refine wpAnyH_take (i := 8) (oi := ⟨some 70, _, _, _, _, _⟩) (v := ?_) rfl (by kernel_rfl) (by kernel_rfl) (by kernel_rfl) (fun _ _ _ h => h) (Or.inl ⟨by rfl, ?_⟩) KX.out ?_; rotate_left; · intro w hSw; (try dsimp only at hSw); go_simp; try with_reducible rfl
        try simp only [Act.put, sx1, sx2, sx3]
        refine wpAnyH_take (i := 9) (oi := ⟨some 71, _, _, _, _, _⟩) (v := ?_) rfl (by kernel_rfl) (by kernel_rfl) (by kernel_rfl) (fun _ _ _ h => h) (Or.inl ⟨by rfl, ?_⟩) KX.out ?_; rotate_left; · intro w hSw; (try dsimp only at hSw); go_simp; try with_reducible rfl
        try simp only [Act.put, sx1, sx2, sx3]
        refine wpAnyH_take (i := 10) (oi := ⟨some 72, _, _, _, _, _⟩) (v := ?_) rfl (by kernel_rfl) (by kernel_rfl) (by kernel_rfl) (fun _ _ _ h => h) (Or.inl ⟨by rfl, ?_⟩) KX.out ?_; rotate_left; · intro w hSw; (try dsimp only at hSw); go_simp; try with_reducible rfl
        try simp only [Act.put, sx1, sx2, sx3]
        refine wpAnyH_take (i := 11) (oi := ⟨some 73, _, _, _, _, _⟩) (v := ?_) rfl (by kernel_rfl) (by kernel_rfl) (by kernel_rfl) (fun _ _ _ h => h) (Or.inl ⟨by rfl, ?_⟩) KX.out ?_; rotate_left; · intro w hSw; (try dsimp only at hSw); go_simp; try with_reducible rfl
        try simp only [Act.put, sx1, sx2, sx3]
        refine wpAnyH_take (i := 12) (oi := ⟨some 74, _, _, _, _, _⟩) (v := ?_) rfl (by kernel_rfl) (by kernel_rfl) (by kernel_rfl) (fun _ _ _ h => h) (Or.inl ⟨by rfl, ?_⟩) KX.out ?_; rotate_left; · intro w hSw; (try dsimp only at hSw); go_simp; try with_reducible rfl
        try simp only [Act.put, sx1, sx2, sx3]
        refine wpAnyH_take (i := 13) (oi := ⟨some 75, _, _, _, _, _⟩) (v := ?_) rfl (by kernel_rfl) (by kernel_rfl) (by kernel_rfl) (fun _ _ _ h => h) (Or.inl ⟨by rfl, ?_⟩) KX.out ?_; rotate_left; · intro w hSw; (try dsimp only at hSw); go_simp; try with_reducible rfl
        try simp only [Act.put, sx1, sx2, sx3]
        refine wpAnyH_take (i := 14) (oi := ⟨some 76, _, _, _, _, _⟩) (v := ?_) rfl (by kernel_rfl) (by kernel_rfl) (by kernel_rfl) (fun _ _ _ h => h) (Or.inl ⟨by rfl, ?_⟩) KX.out ?_; rotate_left; · intro w hSw; (try dsimp only at hSw); go_simp; try with_reducible rfl
        try simp only [Act.put, sx1, sx2, sx3]
        refine wpAnyH_ready (rs := [15]) (by kernel_rfl) (by simp) ?_
        refine AllReadyH.cons rfl (fun K hK => ?_) ?_
        rotate_left
        ·exact AllReadyH.nil
        go_simp
        go_at_call 19
        refine (C2.out _).mono ?_
        rintro e wz ⟨rfl, hwz⟩
        subst wz
        go_wp2_with fail
        refine hK.out _ _ KX.out (fun hHeld => ?_)
        clear hK K hHeld
        try simp only [Act.put, sx1, sx2, sx3]
        refine wpAnyH_take (i := 16) (oi := ⟨some 78, _, _, _, _, _⟩) (v := ?_) rfl (by kernel_rfl) (by kernel_rfl) (by kernel_rfl) (fun _ _ _ h => h) (Or.inl ⟨by rfl, ?_⟩) KX.out ?_; rotate_left; · intro w hSw; (try dsimp only at hSw); go_simp; try with_reducible rfl
        try simp only [Act.put, sx1, sx2, sx3]
        refine wpAnyH_take (i := 17) (oi := ⟨some 79, _, _, _, _, _⟩) (v := ?_) rfl (by kernel_rfl) (by kernel_rfl) (by kernel_rfl) (fun _ _ _ h => h) (Or.inl ⟨by rfl, ?_⟩) KX.out ?_; rotate_left; · intro w hSw; (try dsimp only at hSw); go_simp; try with_reducible rfl
        try simp only [Act.put, sx1, sx2, sx3]
        refine wpAnyH_take (i := 18) (oi := ⟨some 80, _, _, _, _, _⟩) (v := ?_) rfl (by kernel_rfl) (by kernel_rfl) (by kernel_rfl) (fun _ _ _ h => h) (Or.inl ⟨by rfl, ?_⟩) KX.out ?_; rotate_left; · intro w hSw; (try dsimp only at hSw); go_simp; try with_reducible rfl
        try simp only [Act.put, sx1, sx2, sx3]
        refine wpAnyH_take (i := 19) (oi := ⟨some 81, _, _, _, _, _⟩) (v := ?_) rfl (by kernel_rfl) (by kernel_rfl) (by kernel_rfl) (fun _ _ _ h => h) (Or.inl ⟨by rfl, ?_⟩) KX.out ?_; rotate_left; · intro w hSw; (try dsimp only at hSw); go_simp; try with_reducible rfl
        try simp only [Act.put, sx1, sx2, sx3]
        refine wpAnyH_take (i := 20) (oi := ⟨some 82, _, _, _, _, _⟩) (v := ?_) rfl (by kernel_rfl) (by kernel_rfl) (by kernel_rfl) (fun _ _ _ h => h) (Or.inl ⟨by rfl, ?_⟩) KX.out ?_; rotate_left; · intro w hSw; (try dsimp only at hSw); go_simp; try with_reducible rfl
        try simp only [Act.put, sx1, sx2, sx3]
        refine wpAnyH_ready (rs := [21]) (by kernel_rfl) (by simp) ?_
        refine AllReadyH.cons rfl (fun K hK => ?_) ?_
        rotate_left
        ·exact AllReadyH.nil
        go_simp
        go_at_call 20
        refine (C1.out _).mono ?_
        rintro e wz ⟨rfl, hwz⟩
        subst wz
        go_wp2_with fail
        refine hK.out _ _ KX.out (fun hHeld => ?_)
        clear hK K hHeld
        try simp only [Act.put, sx1, sx2, sx3]
        refine wpAnyH_take (i := 22) (oi := ⟨some 84, _, _, _, _, _⟩) (v := ?_) rfl (by kernel_rfl) (by kernel_rfl) (by kernel_rfl) (fun _ _ _ h => h) (Or.inl ⟨by rfl, ?_⟩) KX.out ?_; rotate_left; · intro w hSw; (try dsimp only at hSw); go_simp; try with_reducible rfl
        try simp only [Act.put, sx1, sx2, sx3]
        refine wpAnyH_take (i := 23) (oi := ⟨some 85, _, _, _, _, _⟩) (v := ?_) rfl (by kernel_rfl) (by kernel_rfl) (by kernel_rfl) (fun _ _ _ h => h) (Or.inl ⟨by rfl, ?_⟩) KX.out ?_; rotate_left; · intro w hSw; (try dsimp only at hSw); go_simp; try with_reducible rfl
        try simp only [Act.put, sx1, sx2, sx3]
        refine wpAnyH_take (i := 24) (oi := ⟨some 86, _, _, _, _, _⟩) (v := ?_) rfl (by kernel_rfl) (by kernel_rfl) (by kernel_rfl) (fun _ _ _ h => h) (Or.inl ⟨by rfl, ?_⟩) KX.out ?_; rotate_left; · intro w hSw; (try dsimp only at hSw); go_simp; try with_reducible rfl
        try simp only [Act.put, sx1, sx2, sx3]
        refine wpAnyH_take (i := 25) (oi := ⟨some 87, _, _, _, _, _⟩) (v := ?_) rfl (by kernel_rfl) (by kernel_rfl) (by kernel_rfl) (fun _ _ _ h => h) (Or.inl ⟨by rfl, ?_⟩) KX.out ?_; rotate_left; · intro w hSw; (try dsimp only at hSw); go_simp; try with_reducible rfl
        try simp only [Act.put, sx1, sx2, sx3]
        refine wpAnyH_take (i := 26) (oi := ⟨some 88, _, _, _, _, _⟩) (v := undef) rfl (by kernel_rfl) (by kernel_rfl) (by kernel_rfl) (fun _ _ _ h => h) (Or.inr ⟨by rfl, rfl⟩) KX.out ?_; try simp only [Act.put, sx1, sx2, sx3]
        refine wpAnyH_take (i := 27) (oi := ⟨some 89, _, _, _, _, _⟩) (v := undef) rfl (by kernel_rfl) (by kernel_rfl) (by kernel_rfl) (fun _ _ _ h => h) (Or.inr ⟨by rfl, rfl⟩) KX.out ?_; try simp only [Act.put, sx1, sx2, sx3]
        refine wpAnyH_take (i := 28) (oi := ⟨some 90, _, _, _, _, _⟩) (v := undef) rfl (by kernel_rfl) (by kernel_rfl) (by kernel_rfl) (fun _ _ _ h => h) (Or.inr ⟨by rfl, rfl⟩) KX.out ?_; try simp only [Act.put, sx1, sx2, sx3]
        refine wpAnyH_take (i := 29) (oi := ⟨some 91, _, _, _, _, _⟩) (v := undef) rfl (by kernel_rfl) (by kernel_rfl) (by kernel_rfl) (fun _ _ _ h => h) (Or.inr ⟨by rfl, rfl⟩) KX.out ?_; try simp only [Act.put, sx1, sx2, sx3]
        refine wpAnyH_take (i := 30) (oi := ⟨some 92, _, _, _, _, _⟩) (v := undef) rfl (by kernel_rfl) (by kernel_rfl) (by kernel_rfl) (fun _ _ _ h => h) (Or.inr ⟨by rfl, rfl⟩) KX.out ?_; try simp only [Act.put, sx1, sx2, sx3]
        refine wpAnyH_take (i := 31) (oi := ⟨some 93, _, _, _, _, _⟩) (v := undef) rfl (by kernel_rfl) (by kernel_rfl) (by kernel_rfl) (fun _ _ _ h => h) (Or.inr ⟨by rfl, rfl⟩) KX.out ?_; try simp only [Act.put, sx1, sx2, sx3]
        refine wpAnyH_take (i := 32) (oi := ⟨some 94, _, _, _, _, _⟩) (v := undef) rfl (by kernel_rfl) (by kernel_rfl) (by kernel_rfl) (fun _ _ _ h => h) (Or.inr ⟨by rfl, rfl⟩) KX.out ?_; try simp only [Act.put, sx1, sx2, sx3]
        refine wpAnyH_take (i := 33) (oi := ⟨some 95, _, _, _, _, _⟩) (v := undef) rfl (by kernel_rfl) (by kernel_rfl) (by kernel_rfl) (fun _ _ _ h => h) (Or.inr ⟨by rfl, rfl⟩) KX.out ?_; try simp only [Act.put, sx1, sx2, sx3]
        refine wpAnyH_take (i := 34) (oi := ⟨some 96, _, _, _, _, _⟩) (v := undef) rfl (by kernel_rfl) (by kernel_rfl) (by kernel_rfl) (fun _ _ _ h => h) (Or.inr ⟨by rfl, rfl⟩) KX.out ?_; try simp only [Act.put, sx1, sx2, sx3]
        refine wpAnyH_take (i := 35) (oi := ⟨some 97, _, _, _, _, _⟩) (v := undef) rfl (by kernel_rfl) (by kernel_rfl) (by kernel_rfl) (fun _ _ _ h => h) (Or.inr ⟨by rfl, rfl⟩) KX.out ?_; try simp only [Act.put, sx1, sx2, sx3]
        refine wpAnyH_take (i := 36) (oi := ⟨some 98, _, _, _, _, _⟩) (v := undef) rfl (by kernel_rfl) (by kernel_rfl) (by kernel_rfl) (fun _ _ _ h => h) (Or.inr ⟨by rfl, rfl⟩) KX.out ?_; try simp only [Act.put, sx1, sx2, sx3]
        refine wpAnyH_take (i := 37) (oi := ⟨some 99, _, _, _, _, _⟩) (v := undef) rfl (by kernel_rfl) (by kernel_rfl) (by kernel_rfl) (fun _ _ _ h => h) (Or.inr ⟨by rfl, rfl⟩) KX.out ?_; try simp only [Act.put, sx1, sx2, sx3]
        refine wpAnyH_take (i := 38) (oi := ⟨some 100, _, _, _, _, _⟩) (v := ?_) rfl (by kernel_rfl) (by kernel_rfl) (by kernel_rfl) (fun _ _ _ h => h) (Or.inl ⟨by rfl, ?_⟩) KX.out ?_; rotate_left; · intro w hSw; (try dsimp only at hSw); go_simp; try with_reducible rfl
        try simp only [Act.put, sx1, sx2, sx3]
        refine wpAnyH_take (i := 39) (oi := ⟨some 101, _, _, _, _, _⟩) (v := ?_) rfl (by kernel_rfl) (by kernel_rfl) (by kernel_rfl) (fun _ _ _ h => h) (Or.inl ⟨by rfl, ?_⟩) KX.out ?_; rotate_left; · intro w hSw; (try dsimp only at hSw); go_simp; try with_reducible rfl
        try simp only [Act.put, sx1, sx2, sx3]
        refine wpAnyH_take (i := 40) (oi := ⟨some 102, _, _, _, _, _⟩) (v := undef) rfl (by kernel_rfl) (by kernel_rfl) (by kernel_rfl) (fun _ _ _ h => h) (Or.inr ⟨by rfl, rfl⟩) KX.out ?_; try simp only [Act.put, sx1, sx2, sx3]
        refine wpAnyH_take (i := 41) (oi := ⟨some 103, _, _, _, _, _⟩) (v := undef) rfl (by kernel_rfl) (by kernel_rfl) (by kernel_rfl) (fun _ _ _ h => h) (Or.inr ⟨by rfl, rfl⟩) KX.out ?_; try simp only [Act.put, sx1, sx2, sx3]
        refine wpAnyH_take (i := 42) (oi := ⟨some 104, _, _, _, _, _⟩) (v := undef) rfl (by kernel_rfl) (by kernel_rfl) (by kernel_rfl) (fun _ _ _ h => h) (Or.inr ⟨by rfl, rfl⟩) KX.out ?_; try simp only [Act.put, sx1, sx2, sx3]
        refine wpAnyH_take (i := 43) (oi := ⟨some 105, _, _, _, _, _⟩) (v := undef) rfl (by kernel_rfl) (by kernel_rfl) (by kernel_rfl) (fun _ _ _ h => h) (Or.inr ⟨by rfl, rfl⟩) KX.out ?_; try simp only [Act.put, sx1, sx2, sx3]
        refine wpAnyH_take (i := 44) (oi := ⟨some 106, _, _, _, _, _⟩) (v := undef) rfl (by kernel_rfl) (by kernel_rfl) (by kernel_rfl) (fun _ _ _ h => h) (Or.inr ⟨by rfl, rfl⟩) KX.out ?_; try simp only [Act.put, sx1, sx2, sx3]
        refine wpAnyH_take (i := 45) (oi := ⟨some 107, _, _, _, _, _⟩) (v := undef) rfl (by kernel_rfl) (by kernel_rfl) (by kernel_rfl) (fun _ _ _ h => h) (Or.inr ⟨by rfl, rfl⟩) KX.out ?_; try simp only [Act.put, sx1, sx2, sx3]
        refine wpAnyH_take (i := 46) (oi := ⟨some 108, _, _, _, _, _⟩) (v := undef) rfl (by kernel_rfl) (by kernel_rfl) (by kernel_rfl) (fun _ _ _ h => h) (Or.inr ⟨by rfl, rfl⟩) KX.out ?_; try simp only [Act.put, sx1, sx2, sx3]
        refine wpAnyH_take (i := 47) (oi := ⟨some 109, _, _, _, _, _⟩) (v := undef) rfl (by kernel_rfl) (by kernel_rfl) (by kernel_rfl) (fun _ _ _ h => h) (Or.inr ⟨by rfl, rfl⟩) KX.out ?_; try simp only [Act.put, sx1, sx2, sx3]
        refine wpAnyH_take (i := 48) (oi := ⟨some 110, _, _, _, _, _⟩) (v := undef) rfl (by kernel_rfl) (by kernel_rfl) (by kernel_rfl) (fun _ _ _ h => h) (Or.inr ⟨by rfl, rfl⟩) KX.out ?_; try simp only [Act.put, sx1, sx2, sx3]
        refine wpAnyH_take (i := 49) (oi := ⟨some 111, _, _, _, _, _⟩) (v := undef) rfl (by kernel_rfl) (by kernel_rfl) (by kernel_rfl) (fun _ _ _ h => h) (Or.inr ⟨by rfl, rfl⟩) KX.out ?_; try simp only [Act.put, sx1, sx2, sx3]
        refine wpAnyH_take (i := 50) (oi := ⟨some 112, _, _, _, _, _⟩) (v := undef) rfl (by kernel_rfl) (by kernel_rfl) (by kernel_rfl) (fun _ _ _ h => h) (Or.inr ⟨by rfl, rfl⟩) KX.out ?_; try simp only [Act.put, sx1, sx2, sx3]
        refine wpAnyH_take (i := 51) (oi := ⟨some 113, _, _, _, _, _⟩) (v := undef) rfl (by kernel_rfl) (by kernel_rfl) (by kernel_rfl) (fun _ _ _ h => h) (Or.inr ⟨by rfl, rfl⟩) KX.out ?_; try simp only [Act.put, sx1, sx2, sx3]
        refine wpAnyH_take (i := 52) (oi := ⟨some 114, _, _, _, _, _⟩) (v := ?_) rfl (by kernel_rfl) (by kernel_rfl) (by kernel_rfl) (fun _ _ _ h => h) (Or.inl ⟨by rfl, ?_⟩) KX.out ?_; rotate_left; · intro w hSw; (try dsimp only at hSw); go_simp; try with_reducible rfl
        try simp only [Act.put, sx1, sx2, sx3]
        refine wpAnyH_take (i := 53) (oi := ⟨some 115, _, _, _, _, _⟩) (v := ?_) rfl (by kernel_rfl) (by kernel_rfl) (by kernel_rfl) (fun _ _ _ h => h) (Or.inl ⟨by rfl, ?_⟩) KX.out ?_; rotate_left; · intro w hSw; (try dsimp only at hSw); go_simp; try with_reducible rfl
        try simp only [Act.put, sx1, sx2, sx3]
        refine wpAnyH_take (i := 54) (oi := ⟨some 116, _, _, _, _, _⟩) (v := undef) rfl (by kernel_rfl) (by kernel_rfl) (by kernel_rfl) (fun _ _ _ h => h) (Or.inr ⟨by rfl, rfl⟩) KX.out ?_; try simp only [Act.put, sx1, sx2, sx3]
        refine wpAnyH_take (i := 55) (oi := ⟨some 117, _, _, _, _, _⟩) (v := undef) rfl (by kernel_rfl) (by kernel_rfl) (by kernel_rfl) (fun _ _ _ h => h) (Or.inr ⟨by rfl, rfl⟩) KX.out ?_; try simp only [Act.put, sx1, sx2, sx3]
        refine wpAnyH_take (i := 56) (oi := ⟨some 118, _, _, _, _, _⟩) (v := undef) rfl (by kernel_rfl) (by kernel_rfl) (by kernel_rfl) (fun _ _ _ h => h) (Or.inr ⟨by rfl, rfl⟩) KX.out ?_; try simp only [Act.put, sx1, sx2, sx3]
        refine wpAnyH_take (i := 57) (oi := ⟨some 119, _, _, _, _, _⟩) (v := undef) rfl (by kernel_rfl) (by kernel_rfl) (by kernel_rfl) (fun _ _ _ h => h) (Or.inr ⟨by rfl, rfl⟩) KX.out ?_; try simp only [Act.put, sx1, sx2, sx3]
        refine wpAnyH_take (i := 58) (oi := ⟨some 120, _, _, _, _, _⟩) (v := undef) rfl (by kernel_rfl) (by kernel_rfl) (by kernel_rfl) (fun _ _ _ h => h) (Or.inr ⟨by rfl, rfl⟩) KX.out ?_; try simp only [Act.put, sx1, sx2, sx3]
        refine wpAnyH_take (i := 59) (oi := ⟨some 121, _, _, _, _, _⟩) (v := undef) rfl (by kernel_rfl) (by kernel_rfl) (by kernel_rfl) (fun _ _ _ h => h) (Or.inr ⟨by rfl, rfl⟩) KX.out ?_; try simp only [Act.put, sx1, sx2, sx3]
        refine wpAnyH_take (i := 60) (oi := ⟨some 122, _, _, _, _, _⟩) (v := ?_) rfl (by kernel_rfl) (by kernel_rfl) (by kernel_rfl) (fun _ _ _ h => h) (Or.inl ⟨by rfl, ?_⟩) KX.out ?_; rotate_left; · intro w hSw; (try dsimp only at hSw); go_simp; try with_reducible rfl
        try simp only [Act.put, sx1, sx2, sx3]
        refine wpAnyH_done (by kernel_rfl) ?_ _
        first | go_meet | (go_wp2_with fail; go_meet)
        exact ⟨rfl, HBX⟩
    have n4 : (op == 4) = false := by rw [beq_eq_false_iff_ne]; exact o4
    by_cases o2 : op = 2
    ·subst o2
     clear n1 n12 n4 o1 o12 o4
     have CW := Lib.hid (fun w => rwithin_any a (sl - 1) w)
     cases q2 : within a (sl - 1) with
     | true =>
      have e : b1 = true := by rw [← HB1.out, (HW2.out a b c d).1, q2]
      subst e
      rw [q2] at CW
      clear q2
      as_aux_lemma =>
       refine wp_region_held (S := fun w' => w'.cell? ⟨g, 0, none⟩ = some (.int .i64 st) ∧ w'.cell? ⟨g, 1, none⟩ = some (.int .i64 sl) ∧ w'.cell? ⟨g, 2, none⟩ = some (.int .i64 bks) ∧ w'.cell? ⟨g, 3, none⟩ = some (.int .i64 gr) ∧ w'.cell? ⟨g, 4, none⟩ = some (.int .i64 gb) ∧ w'.cell? ⟨g, 5, none⟩ = some (.slice (some ad) m ci) ∧ w'.cell? ⟨g, 6, none⟩ = some (.slice ao no co) ∧ w'.cell? ⟨g, 7, none⟩ = some (.int .i64 la) ∧ w'.cell? ⟨g, 8, none⟩ = some (.slice ac nc cc) ∧ w'.cell? ⟨g4, 0, none⟩ = some (.int .i64 2) ∧ w'.cell? ⟨g4, 1, none⟩ = some (.int .i64 a) ∧ w'.cell? ⟨g4, 2, none⟩ = some (.int .i64 b) ∧ w'.cell? ⟨g4, 3, none⟩ = some (.int .i64 c) ∧ w'.cell? ⟨g4, 4, none⟩ = some (.int .i64 d)) (by kernel_rfl) ?_
       change wpAnyH _ _ _ _ _ _ _ _ (World.drew w4)
       have KX := Lib.hid (both (boxOn HG4.out HBX.out) (boxOn H4.out HBX.out))
       refine wpAnyH_take (i := 0) (oi := ⟨some 62, _, _, _, _, _⟩) (v := ?_) rfl (by kernel_rfl) (by kernel_rfl) (by kernel_rfl) (fun _ _ _ h => h) (Or.inl ⟨by rfl, ?_⟩) KX.out ?_; rotate_left; · intro w hSw; (try dsimp only at hSw); go_simp; try with_reducible rfl
       try simp only [Act.put, sx1, sx2, sx3]
       refine wpAnyH_take (i := 1) (oi := ⟨some 63, _, _, _, _, _⟩) (v := ?_) rfl (by kernel_rfl) (by kernel_rfl) (by kernel_rfl) (fun _ _ _ h => h) (Or.inl ⟨by rfl, ?_⟩) KX.out ?_; rotate_left; · intro w hSw; (try dsimp only at hSw); go_simp; try with_reducible rfl
       try simp only [Act.put, sx1, sx2, sx3]
       refine wpAnyH_take (i := 2) (oi := ⟨some 64, _, _, _, _, _⟩) (v := ?_) rfl (by kernel_rfl) (by kernel_rfl) (by kernel_rfl) (fun _ _ _ h => h) (Or.inl ⟨by rfl, ?_⟩) KX.out ?_; rotate_left; · intro w hSw; (try dsimp only at hSw); go_simp; try with_reducible rfl
       try simp only [Act.put, sx1, sx2, sx3]
       refine wpAnyH_take (i := 3) (oi := ⟨some 65, _, _, _, _, _⟩) (v := ?_) rfl (by kernel_rfl) (by kernel_rfl) (by kernel_rfl) (fun _ _ _ h => h) (Or.inl ⟨by rfl, ?_⟩) KX.out ?_; rotate_left; · intro w hSw; (try dsimp only at hSw); go_simp; try with_reducible rfl
       try simp only [Act.put, sx1, sx2, sx3]
       refine wpAnyH_take (i := 4) (oi := ⟨some 66, _, _, _, _, _⟩) (v := ?_) rfl (by kernel_rfl) (by kernel_rfl) (by kernel_rfl) (fun _ _ _ h => h) (Or.inl ⟨by rfl, ?_⟩) KX.out ?_; rotate_left; · intro w hSw; (try dsimp only at hSw); go_simp; try with_reducible rfl
       try simp only [Act.put, sx1, sx2, sx3]
       refine wpAnyH_take (i := 5) (oi := ⟨some 67, _, _, _, _, _⟩) (v := ?_) rfl (by kernel_rfl) (by kernel_rfl) (by kernel_rfl) (fun _ _ _ h => h) (Or.inl ⟨by rfl, ?_⟩) KX.out ?_; rotate_left; · intro w hSw; (try dsimp only at hSw); go_simp; try with_reducible rfl
       try simp only [Act.put, sx1, sx2, sx3]
       refine wpAnyH_take (i := 6) (oi := ⟨some 68, _, _, _, _, _⟩) (v := ?_) rfl (by kernel_rfl) (by kernel_rfl) (by kernel_rfl) (fun _ _ _ h => h) (Or.inl ⟨by rfl, ?_⟩) KX.out ?_; rotate_left; · intro w hSw; (try dsimp only at hSw); go_simp; try with_reducible rfl
       try simp only [Act.put, sx1, sx2, sx3]
       refine wpAnyH_take (i := 7) (oi := ⟨some 69, _, _, _, _, _⟩) (v := ?_) rfl (by kernel_rfl) (by kernel_rfl) (by kernel_rfl) (fun _ _ _ h => h) (Or.inl ⟨by rfl, ?_⟩) KX.out ?_; rotate_left; · intro w hSw; (try dsimp only at hSw); go_simp; try with_reducible rfl
       try simp only [Act.put, sx1, sx2, sx3]
       refine wpAnyH_take (i := 8) (oi := ⟨some 70, _, _, _, _, _⟩) (v := ?_) rfl (by kernel_rfl) (by kernel_rfl) (by kernel_rfl) (fun _ _ _ h => h) (Or.inl ⟨by rfl, ?_⟩) KX.out ?_; rotate_left; · intro w hSw; (try dsimp only at hSw); go_simp; try with_reducible rfl
       try simp only [Act.put, sx1, sx2, sx3]
       refine wpAnyH_take (i := 9) (oi := ⟨some 71, _, _, _, _, _⟩) (v := ?_) rfl (by kernel_rfl) (by kernel_rfl) (by kernel_rfl) (fun _ _ _ h => h) (Or.inl ⟨by rfl, ?_⟩) KX.out ?_; rotate_left; · intro w hSw; (try dsimp only at hSw); go_simp; try with_reducible rfl
       try simp only [Act.put, sx1, sx2, sx3]
       refine wpAnyH_take (i := 10) (oi := ⟨some 72, _, _, _, _, _⟩) (v := ?_) rfl (by kernel_rfl) (by kernel_rfl) (by kernel_rfl) (fun _ _ _ h => h) (Or.inl ⟨by rfl, ?_⟩) KX.out ?_; rotate_left; · intro w hSw; (try dsimp only at hSw); go_simp; try with_reducible rfl
       try simp only [Act.put, sx1, sx2, sx3]
       refine wpAnyH_take (i := 11) (oi := ⟨some 73, _, _, _, _, _⟩) (v := ?_) rfl (by kernel_rfl) (by kernel_rfl) (by kernel_rfl) (fun _ _ _ h => h) (Or.inl ⟨by rfl, ?_⟩) KX.out ?_; rotate_left; · intro w hSw; (try dsimp only at hSw); go_simp; try with_reducible rfl
       try simp only [Act.put, sx1, sx2, sx3]
       refine wpAnyH_take (i := 12) (oi := ⟨some 74, _, _, _, _, _⟩) (v := ?_) rfl (by kernel_rfl) (by kernel_rfl) (by kernel_rfl) (fun _ _ _ h => h) (Or.inl ⟨by rfl, ?_⟩) KX.out ?_; rotate_left; · intro w hSw; (try dsimp only at hSw); go_simp; try with_reducible rfl
       try simp only [Act.put, sx1, sx2, sx3]
       refine wpAnyH_take (i := 13) (oi := ⟨some 75, _, _, _, _, _⟩) (v := undef) rfl (by kernel_rfl) (by kernel_rfl) (by kernel_rfl) (fun _ _ _ h => h) (Or.inr ⟨by rfl, rfl⟩) KX.out ?_; try simp only [Act.put, sx1, sx2, sx3]
       refine wpAnyH_take (i := 14) (oi := ⟨some 76, _, _, _, _, _⟩) (v := undef) rfl (by kernel_rfl) (by kernel_rfl) (by kernel_rfl) (fun _ _ _ h => h) (Or.inr ⟨by rfl, rfl⟩) KX.out ?_; try simp only [Act.put, sx1, sx2, sx3]
       refine wpAnyH_take (i := 15) (oi := ⟨some 77, _, _, _, _, _⟩) (v := undef) rfl (by kernel_rfl) (by kernel_rfl) (by kernel_rfl) (fun _ _ _ h => h) (Or.inr ⟨by rfl, rfl⟩) KX.out ?_; try simp only [Act.put, sx1, sx2, sx3]
       refine wpAnyH_take (i := 16) (oi := ⟨some 78, _, _, _, _, _⟩) (v := undef) rfl (by kernel_rfl) (by kernel_rfl) (by kernel_rfl) (fun _ _ _ h => h) (Or.inr ⟨by rfl, rfl⟩) KX.out ?_; try simp only [Act.put, sx1, sx2, sx3]
       refine wpAnyH_take (i := 17) (oi := ⟨some 79, _, _, _, _, _⟩) (v := ?_) rfl (by kernel_rfl) (by kernel_rfl) (by kernel_rfl) (fun _ _ _ h => h) (Or.inl ⟨by rfl, ?_⟩) KX.out ?_; rotate_left; · intro w hSw; (try dsimp only at hSw); go_simp; try with_reducible rfl
       try simp only [Act.put, sx1, sx2, sx3]
       refine wpAnyH_take (i := 18) (oi := ⟨some 80, _, _, _, _, _⟩) (v := ?_) rfl (by kernel_rfl) (by kernel_rfl) (by kernel_rfl) (fun _ _ _ h => h) (Or.inl ⟨by rfl, ?_⟩) KX.out ?_; rotate_left; · intro w hSw; (try dsimp only at hSw); go_simp; try with_reducible rfl
       try simp only [Act.put, sx1, sx2, sx3]
       refine wpAnyH_take (i := 19) (oi := ⟨some 81, _, _, _, _, _⟩) (v := undef) rfl (by kernel_rfl) (by kernel_rfl) (by kernel_rfl) (fun _ _ _ h => h) (Or.inr ⟨by rfl, rfl⟩) KX.out ?_; try simp only [Act.put, sx1, sx2, sx3]
       refine wpAnyH_take (i := 20) (oi := ⟨some 82, _, _, _, _, _⟩) (v := undef) rfl (by kernel_rfl) (by kernel_rfl) (by kernel_rfl) (fun _ _ _ h => h) (Or.inr ⟨by rfl, rfl⟩) KX.out ?_; try simp only [Act.put, sx1, sx2, sx3]
       refine wpAnyH_take (i := 21) (oi := ⟨some 83, _, _, _, _, _⟩) (v := undef) rfl (by kernel_rfl) (by kernel_rfl) (by kernel_rfl) (fun _ _ _ h => h) (Or.inr ⟨by rfl, rfl⟩) KX.out ?_; try simp only [Act.put, sx1, sx2, sx3]
       refine wpAnyH_take (i := 22) (oi := ⟨some 84, _, _, _, _, _⟩) (v := undef) rfl (by kernel_rfl) (by kernel_rfl) (by kernel_rfl) (fun _ _ _ h => h) (Or.inr ⟨by rfl, rfl⟩) KX.out ?_; try simp only [Act.put, sx1, sx2, sx3]
       refine wpAnyH_take (i := 23) (oi := ⟨some 85, _, _, _, _, _⟩) (v := ?_) rfl (by kernel_rfl) (by kernel_rfl) (by kernel_rfl) (fun _ _ _ h => h) (Or.inl ⟨by rfl, ?_⟩) KX.out ?_; rotate_left; · intro w hSw; (try dsimp only at hSw); go_simp; try with_reducible rfl
       try simp only [Act.put, sx1, sx2, sx3]
       refine wpAnyH_take (i := 24) (oi := ⟨some 86, _, _, _, _, _⟩) (v := ?_) rfl (by kernel_rfl) (by kernel_rfl) (by kernel_rfl) (fun _ _ _ h => h) (Or.inl ⟨by rfl, ?_⟩) KX.out ?_; rotate_left; · intro w hSw; (try dsimp only at hSw); go_simp; try with_reducible rfl
       try simp only [Act.put, sx1, sx2, sx3]
       refine wpAnyH_take (i := 25) (oi := ⟨some 87, _, _, _, _, _⟩) (v := ?_) rfl (by kernel_rfl) (by kernel_rfl) (by kernel_rfl) (fun _ _ _ h => h) (Or.inl ⟨by rfl, ?_⟩) KX.out ?_; rotate_left; · intro w hSw; (try dsimp only at hSw); go_simp; try with_reducible rfl
       try simp only [Act.put, sx1, sx2, sx3]
       refine wpAnyH_take (i := 26) (oi := ⟨some 88, _, _, _, _, _⟩) (v := ?_) rfl (by kernel_rfl) (by kernel_rfl) (by kernel_rfl) (fun _ _ _ h => h) (Or.inl ⟨by rfl, ?_⟩) KX.out ?_; rotate_left; · intro w hSw; (try dsimp only at hSw); go_simp; try with_reducible rfl
       try simp only [Act.put, sx1, sx2, sx3]
       refine wpAnyH_take (i := 27) (oi := ⟨some 89, _, _, _, _, _⟩) (v := ?_) rfl (by kernel_rfl) (by kernel_rfl) (by kernel_rfl) (fun _ _ _ h => h) (Or.inl ⟨by rfl, ?_⟩) KX.out ?_; rotate_left; · intro w hSw; (try dsimp only at hSw); go_simp; try with_reducible rfl
       try simp only [Act.put, sx1, sx2, sx3]
       refine wpAnyH_take (i := 28) (oi := ⟨some 90, _, _, _, _, _⟩) (v := ?_) rfl (by kernel_rfl) (by kernel_rfl) (by kernel_rfl) (fun _ _ _ h => h) (Or.inl ⟨by rfl, ?_⟩) KX.out ?_; rotate_left; · intro w hSw; (try dsimp only at hSw); go_simp; try with_reducible rfl
       try simp only [Act.put, sx1, sx2, sx3]
       refine wpAnyH_take (i := 29) (oi := ⟨some 91, _, _, _, _, _⟩) (v := ?_) rfl (by kernel_rfl) (by kernel_rfl) (by kernel_rfl) (fun _ _ _ h => h) (Or.inl ⟨by rfl, ?_⟩) KX.out ?_; rotate_left; · intro w hSw; (try dsimp only at hSw); go_simp; try with_reducible rfl
       try simp only [Act.put, sx1, sx2, sx3]
       refine wpAnyH_take (i := 30) (oi := ⟨some 92, _, _, _, _, _⟩) (v := ?_) rfl (by kernel_rfl) (by kernel_rfl) (by kernel_rfl) (fun _ _ _ h => h) (Or.inl ⟨by rfl, ?_⟩) KX.out ?_; rotate_left; · intro w hSw; (try dsimp only at hSw); go_simp; try with_reducible rfl
       try simp only [Act.put, sx1, sx2, sx3]
       refine wpAnyH_take (i := 31) (oi := ⟨some 93, _, _, _, _, _⟩) (v := ?_) rfl (by kernel_rfl) (by kernel_rfl) (by kernel_rfl) (fun _ _ _ h => h) (Or.inl ⟨by rfl, ?_⟩) KX.out ?_; rotate_left; · intro w hSw; (try dsimp only at hSw); go_simp; try with_reducible rfl
       try simp only [Act.put, sx1, sx2, sx3]
       refine wpAnyH_take (i := 32) (oi := ⟨some 94, _, _, _, _, _⟩) (v := ?_) rfl (by kernel_rfl) (by kernel_rfl) (by kernel_rfl) (fun _ _ _ h => h) (Or.inl ⟨by rfl, ?_⟩) KX.out ?_; rotate_left; · intro w hSw; (try dsimp only at hSw); go_simp; try with_reducible rfl
       try simp only [Act.put, sx1, sx2, sx3]
       refine wpAnyH_take (i := 33) (oi := ⟨some 95, _, _, _, _, _⟩) (v := ?_) rfl (by kernel_rfl) (by kernel_rfl) (by kernel_rfl) (fun _ _ _ h => h) (Or.inl ⟨by rfl, ?_⟩) KX.out ?_; rotate_left; · intro w hSw; (try dsimp only at hSw); go_simp; try with_reducible rfl
       try simp only [Act.put, sx1, sx2, sx3]
       refine wpAnyH_take (i := 34) (oi := ⟨some 96, _, _, _, _, _⟩) (v := ?_) rfl (by kernel_rfl) (by kernel_rfl) (by kernel_rfl) (fun _ _ _ h => h) (Or.inl ⟨by rfl, ?_⟩) KX.out ?_; rotate_left; · intro w hSw; (try dsimp only at hSw); go_simp; try with_reducible rfl
       try simp only [Act.put, sx1, sx2, sx3]
       refine wpAnyH_ready (rs := [35]) (by kernel_rfl) (by simp) ?_
       refine AllReadyH.cons rfl (fun K hK => ?_) ?_
       rotate_left
       ·exact AllReadyH.nil
       go_simp
       go_at_call 45
       refine (CW.out _).mono ?_
       rintro e wz ⟨rfl, hwz⟩
       subst wz
       go_wp2_with fail
       refine hK.out _ _ KX.out (fun hHeld => ?_)
       clear hK K hHeld
       try simp only [Act.put, sx1, sx2, sx3]
       refine wpAnyH_take (i := 36) (oi := ⟨some 98, _, _, _, _, _⟩) (v := ?_) rfl (by kernel_rfl) (by kernel_rfl) (by kernel_rfl) (fun _ _ _ h => h) (Or.inl ⟨by rfl, ?_⟩) KX.out ?_; rotate_left; · intro w hSw; (try dsimp only at hSw); go_simp; try with_reducible rfl
       try simp only [Act.put, sx1, sx2, sx3]
       refine wpAnyH_take (i := 37) (oi := ⟨some 99, _, _, _, _, _⟩) (v := ?_) rfl (by kernel_rfl) (by kernel_rfl) (by kernel_rfl) (fun _ _ _ h => h) (Or.inl ⟨by rfl, ?_⟩) KX.out ?_; rotate_left; · intro w hSw; (try dsimp only at hSw); go_simp; try with_reducible rfl
       try simp only [Act.put, sx1, sx2, sx3]
       refine wpAnyH_take (i := 38) (oi := ⟨some 100, _, _, _, _, _⟩) (v := ?_) rfl (by kernel_rfl) (by kernel_rfl) (by kernel_rfl) (fun _ _ _ h => h) (Or.inl ⟨by rfl, ?_⟩) KX.out ?_; rotate_left; · intro w hSw; (try dsimp only at hSw); go_simp; try with_reducible rfl
       try simp only [Act.put, sx1, sx2, sx3]
       refine wpAnyH_take (i := 39) (oi := ⟨some 101, _, _, _, _, _⟩) (v := ?_) rfl (by kernel_rfl) (by kernel_rfl) (by kernel_rfl) (fun _ _ _ h => h) (Or.inl ⟨by rfl, ?_⟩) KX.out ?_; rotate_left; · intro w hSw; (try dsimp only at hSw); go_simp; try with_reducible rfl
       try simp only [Act.put, sx1, sx2, sx3]
       refine wpAnyH_take (i := 40) (oi := ⟨some 102, _, _, _, _, _⟩) (v := ?_) rfl (by kernel_rfl) (by kernel_rfl) (by kernel_rfl) (fun _ _ _ h => h) (Or.inl ⟨by rfl, ?_⟩) KX.out ?_; rotate_left; · intro w hSw; (try dsimp only at hSw); go_simp; try with_reducible rfl
       try simp only [Act.put, sx1, sx2, sx3]
       refine wpAnyH_take (i := 41) (oi := ⟨some 103, _, _, _, _, _⟩) (v := ?_) rfl (by kernel_rfl) (by kernel_rfl) (by kernel_rfl) (fun _ _ _ h => h) (Or.inl ⟨by rfl, ?_⟩) KX.out ?_; rotate_left; · intro w hSw; (try dsimp only at hSw); go_simp; try with_reducible rfl
       try simp only [Act.put, sx1, sx2, sx3]
       refine wpAnyH_take (i := 42) (oi := ⟨some 104, _, _, _, _, _⟩) (v := ?_) rfl (by kernel_rfl) (by kernel_rfl) (by kernel_rfl) (fun _ _ _ h => h) (Or.inl ⟨by rfl, ?_⟩) KX.out ?_; rotate_left; · intro w hSw; (try dsimp only at hSw); go_simp; try with_reducible rfl
       try simp only [Act.put, sx1, sx2, sx3]
       refine wpAnyH_take (i := 43) (oi := ⟨some 105, _, _, _, _, _⟩) (v := ?_) rfl (by kernel_rfl) (by kernel_rfl) (by kernel_rfl) (fun _ _ _ h => h) (Or.inl ⟨by rfl, ?_⟩) KX.out ?_; rotate_left; · intro w hSw; (try dsimp only at hSw); go_simp; try with_reducible rfl
       try simp only [Act.put, sx1, sx2, sx3]
       refine wpAnyH_take (i := 44) (oi := ⟨some 106, _, _, _, _, _⟩) (v := undef) rfl (by kernel_rfl) (by kernel_rfl) (by kernel_rfl) (fun _ _ _ h => h) (Or.inr ⟨by rfl, rfl⟩) KX.out ?_; try simp only [Act.put, sx1, sx2, sx3]
       refine wpAnyH_take (i := 45) (oi := ⟨some 107, _, _, _, _, _⟩) (v := undef) rfl (by kernel_rfl) (by kernel_rfl) (by kernel_rfl) (fun _ _ _ h => h) (Or.inr ⟨by rfl, rfl⟩) KX.out ?_; try simp only [Act.put, sx1, sx2, sx3]
       refine wpAnyH_take (i := 46) (oi := ⟨some 108, _, _, _, _, _⟩) (v := undef) rfl (by kernel_rfl) (by kernel_rfl) (by kernel_rfl) (fun _ _ _ h => h) (Or.inr ⟨by rfl, rfl⟩) KX.out ?_; try simp only [Act.put, sx1, sx2, sx3]
       refine wpAnyH_take (i := 47) (oi := ⟨some 109, _, _, _, _, _⟩) (v := undef) rfl (by kernel_rfl) (by kernel_rfl) (by kernel_rfl) (fun _ _ _ h => h) (Or.inr ⟨by rfl, rfl⟩) KX.out ?_; try simp only [Act.put, sx1, sx2, sx3]
       refine wpAnyH_take (i := 48) (oi := ⟨some 110, _, _, _, _, _⟩) (v := undef) rfl (by kernel_rfl) (by kernel_rfl) (by kernel_rfl) (fun _ _ _ h => h) (Or.inr ⟨by rfl, rfl⟩) KX.out ?_; try simp only [Act.put, sx1, sx2, sx3]
       refine wpAnyH_take (i := 49) (oi := ⟨some 111, _, _, _, _, _⟩) (v := undef) rfl (by kernel_rfl) (by kernel_rfl) (by kernel_rfl) (fun _ _ _ h => h) (Or.inr ⟨by rfl, rfl⟩) KX.out ?_; try simp only [Act.put, sx1, sx2, sx3]
       refine wpAnyH_take (i := 50) (oi := ⟨some 112, _, _, _, _, _⟩) (v := undef) rfl (by kernel_rfl) (by kernel_rfl) (by kernel_rfl) (fun _ _ _ h => h) (Or.inr ⟨by rfl, rfl⟩) KX.out ?_; try simp only [Act.put, sx1, sx2, sx3]
       refine wpAnyH_take (i := 51) (oi := ⟨some 113, _, _, _, _, _⟩) (v := ?_) rfl (by kernel_rfl) (by kernel_rfl) (by kernel_rfl) (fun _ _ _ h => h) (Or.inl ⟨by rfl, ?_⟩) KX.out ?_; rotate_left; · intro w hSw; (try dsimp only at hSw); go_simp; try with_reducible rfl
       try simp only [Act.put, sx1, sx2, sx3]
       refine wpAnyH_take (i := 52) (oi := ⟨some 114, _, _, _, _, _⟩) (v := ?_) rfl (by kernel_rfl) (by kernel_rfl) (by kernel_rfl) (fun _ _ _ h => h) (Or.inl ⟨by rfl, ?_⟩) KX.out ?_; rotate_left; · intro w hSw; (try dsimp only at hSw); go_simp; try with_reducible rfl
       try simp only [Act.put, sx1, sx2, sx3]
       refine wpAnyH_take (i := 53) (oi := ⟨some 115, _, _, _, _, _⟩) (v := ?_) rfl (by kernel_rfl) (by kernel_rfl) (by kernel_rfl) (fun _ _ _ h => h) (Or.inl ⟨by rfl, ?_⟩) KX.out ?_; rotate_left; · intro w hSw; (try dsimp only at hSw); go_simp; try with_reducible rfl
       try simp only [Act.put, sx1, sx2, sx3]
       refine wpAnyH_take (i := 54) (oi := ⟨some 116, _, _, _, _, _⟩) (v := ?_) rfl (by kernel_rfl) (by kernel_rfl) (by kernel_rfl) (fun _ _ _ h => h) (Or.inl ⟨by rfl, ?_⟩) KX.out ?_; rotate_left; · intro w hSw; (try dsimp only at hSw); go_simp; try with_reducible rfl
       try simp only [Act.put, sx1, sx2, sx3]
       refine wpAnyH_take (i := 55) (oi := ⟨some 117, _, _, _, _, _⟩) (v := ?_) rfl (by kernel_rfl) (by kernel_rfl) (by kernel_rfl) (fun _ _ _ h => h) (Or.inl ⟨by rfl, ?_⟩) KX.out ?_; rotate_left; · intro w hSw; (try dsimp only at hSw); go_simp; try with_reducible rfl
       try simp only [Act.put, sx1, sx2, sx3]
       refine wpAnyH_take (i := 57) (oi := ⟨some 119, _, _, _, _, _⟩) (v := ?_) rfl (by kernel_rfl) (by kernel_rfl) (by kernel_rfl) (fun _ _ _ h => h) (Or.inl ⟨by rfl, ?_⟩) KX.out ?_; rotate_left; · intro w hSw; (try dsimp only at hSw); go_simp; try with_reducible rfl
       try simp only [Act.put, sx1, sx2, sx3]
       refine wpAnyH_ready (rs := [56]) (by kernel_rfl) (by simp) ?_
       refine AllReadyH.cons rfl (fun K hK => ?_) ?_
       rotate_left
       ·exact AllReadyH.nil
       go_simp
       go_at_call 22
       refine (CU.out _).mono ?_
       rintro e wn ⟨vu, rfl, hou, hb⟩
       have HVU := Lib.hid (Reads.of_owns hou)
       have HBX := Lib.hid (HBX.out.trans (hb.mono HBX.out.size))
       have KX := Lib.hid (both (boxOn HG4.out HBX.out) (boxOn H4.out HBX.out))
       clear hb hou
       go_wp2_with fail
       refine hK.out _ _ KX.out (fun hHeld => ?_)
       clear hK K hHeld
       try simp only [Act.put, sx1, sx2, sx3]
       refine wpAnyH_ready (rs := [58]) (by kernel_rfl) (by simp) ?_
       refine AllReadyH.cons rfl (fun K hK => ?_) ?_
       rotate_left
       ·exact AllReadyH.nil
       go_simp
       go_at_call 46
       refine (CK.out _ HBX.out vu HVU.out).mono ?_
       rintro e wn ⟨rfl, hb⟩
       have HBX := Lib.hid (HBX.out.trans (hb.mono HBX.out.size))
       have KX := Lib.hid (both (boxOn HG4.out HBX.out) (boxOn H4.out HBX.out))
       clear hb
       go_wp2_with fail
       refine hK.out _ _ KX.out (fun hHeld => ?_)
       clear hK K hHeld
       try simp only [Act.put, sx1, sx2, sx3]
       refine wpAnyH_take (i := 59) (oi := ⟨some 121, _, _, _, _, _⟩) (v := ?_) rfl (by kernel_rfl) (by kernel_rfl) (by kernel_rfl) (fun _ _ _ h => h) (Or.inl ⟨by rfl, ?_⟩) KX.out ?_; rotate_left; · intro w hSw; (try dsimp only at hSw); go_simp; try with_reducible rfl
       try simp only [Act.put, sx1, sx2, sx3]
       refine wpAnyH_take (i := 60) (oi := ⟨some 122, _, _, _, _, _⟩) (v := ?_) rfl (by kernel_rfl) (by kernel_rfl) (by kernel_rfl) (fun _ _ _ h => h) (Or.inl ⟨by rfl, ?_⟩) KX.out ?_; rotate_left; · intro w hSw; (try dsimp only at hSw); go_simp; try with_reducible rfl
       try simp only [Act.put, sx1, sx2, sx3]
       refine wpAnyH_done (by kernel_rfl) ?_ _
       cases b2
       all_goals
        first | go_meet | (go_wp2_with fail; go_meet)
        exact ⟨rfl, HBX⟩
     | false =>
      have e : b1 = false := by rw [← HB1.out, (HW2.out a b c d).1, q2]
      subst e
      rw [q2] at CW
      clear q2
      as_aux_lemma =>
       refine wp_region_held (S := fun w' => w'.cell? ⟨g, 0, none⟩ = some (.int .i64 st) ∧ w'.cell? ⟨g, 1, none⟩ = some (.int .i64 sl) ∧ w'.cell? ⟨g, 2, none⟩ = some (.int .i64 bks) ∧ w'.cell? ⟨g, 3, none⟩ = some (.int .i64 gr) ∧ w'.cell? ⟨g, 4, none⟩ = some (.int .i64 gb) ∧ w'.cell? ⟨g, 5, none⟩ = some (.slice (some ad) m ci) ∧ w'.cell? ⟨g, 6, none⟩ = some (.slice ao no co) ∧ w'.cell? ⟨g, 7, none⟩ = some (.int .i64 la) ∧ w'.cell? ⟨g, 8, none⟩ = some (.slice ac nc cc) ∧ w'.cell? ⟨g4, 0, none⟩ = some (.int .i64 2) ∧ w'.cell? ⟨g4, 1, none⟩ = some (.int .i64 a) ∧ w'.cell? ⟨g4, 2, none⟩ = some (.int .i64 b) ∧ w'.cell? ⟨g4, 3, none⟩ = some (.int .i64 c) ∧ w'.cell? ⟨g4, 4, none⟩ = some (.int .i64 d)) (by kernel_rfl) ?_
       change wpAnyH _ _ _ _ _ _ _ _ (World.drew w4)
       have KX := Lib.hid (both (boxOn HG4.out HBX.out) (boxOn H4.out HBX.out))
       refine wpAnyH_take (i := 0) (oi := ⟨some 62, _, _, _, _, _⟩) (v := ?_) rfl (by kernel_rfl) (by kernel_rfl) (by kernel_rfl) (fun _ _ _ h => h) (Or.inl ⟨by rfl, ?_⟩) KX.out ?_; rotate_left; · intro w hSw; (try dsimp only at hSw); go_simp; try with_reducible rfl
       try simp only [Act.put, sx1, sx2, sx3]
       refine wpAnyH_take (i := 1) (oi := ⟨some 63, _, _, _, _, _⟩) (v := ?_) rfl (by kernel_rfl) (by kernel_rfl) (by kernel_rfl) (fun _ _ _ h => h) (Or.inl ⟨by rfl, ?_⟩) KX.out ?_; rotate_left; · intro w hSw; (try dsimp only at hSw); go_simp; try with_reducible rfl
       try simp only [Act.put, sx1, sx2, sx3]
       refine wpAnyH_take (i := 2) (oi := ⟨some 64, _, _, _, _, _⟩) (v := ?_) rfl (by kernel_rfl) (by kernel_rfl) (by kernel_rfl) (fun _ _ _ h => h) (Or.inl ⟨by rfl, ?_⟩) KX.out ?_; rotate_left; · intro w hSw; (try dsimp only at hSw); go_simp; try with_reducible rfl
       try simp only [Act.put, sx1, sx2, sx3]
       refine wpAnyH_take (i := 3) (oi := ⟨some 65, _, _, _, _, _⟩) (v := ?_) rfl (by kernel_rfl) (by kernel_rfl) (by kernel_rfl) (fun _ _ _ h => h) (Or.inl ⟨by rfl, ?_⟩) KX.out ?_; rotate_left; · intro w hSw; (try dsimp only at hSw); go_simp; try with_reducible rfl
       try simp only [Act.put, sx1, sx2, sx3]
       refine wpAnyH_take (i := 4) (oi := ⟨some 66, _, _, _, _, _⟩) (v := ?_) rfl (by kernel_rfl) (by kernel_rfl) (by kernel_rfl) (fun _ _ _ h => h) (Or.inl ⟨by rfl, ?_⟩) KX.out ?_; rotate_left; · intro w hSw; (try dsimp only at hSw); go_simp; try with_reducible rfl
       try simp only [Act.put, sx1, sx2, sx3]
       refine wpAnyH_take (i := 5) (oi := ⟨some 67, _, _, _, _, _⟩) (v := ?_) rfl (by kernel_rfl) (by kernel_rfl) (by kernel_rfl) (fun _ _ _ h => h) (Or.inl ⟨by rfl, ?_⟩) KX.out ?_; rotate_left; · intro w hSw; (try dsimp only at hSw); go_simp; try with_reducible rfl
       try simp only [Act.put, sx1, sx2, sx3]
       refine wpAnyH_take (i := 6) (oi := ⟨some 68, _, _, _, _, _⟩) (v := ?_) rfl (by kernel_rfl) (by kernel_rfl) (by kernel_rfl) (fun _ _ _ h => h) (Or.inl ⟨by rfl, ?_⟩) KX.out ?_; rotate_left; · intro w hSw; (try dsimp only at hSw); go_simp; try with_reducible rfl
       try simp only [Act.put, sx1, sx2, sx3]
       refine wpAnyH_take (i := 7) (oi := ⟨some 69, _, _, _, _, _⟩) (v := ?_) rfl (by kernel_rfl) (by kernel_rfl) (by kernel_rfl) (fun _ _ _ h => h) (Or.inl ⟨by rfl, ?_⟩) KX.out ?_; rotate_left; · intro w hSw; (try dsimp only at hSw); go_simp; try with_reducible rfl
       try simp only [Act.put, sx1, sx2, sx3]
       refine wpAnyH_take (i := 8) (oi := ⟨some 70, _, _, _, _, _⟩) (v := ?_) rfl (by kernel_rfl) (by kernel_rfl) (by kernel_rfl) (fun _ _ _ h => h) (Or.inl ⟨by rfl, ?_⟩) KX.out ?_; rotate_left; · intro w hSw; (try dsimp only at hSw); go_simp; try with_reducible rfl
       try simp only [Act.put, sx1, sx2, sx3]
       refine wpAnyH_take (i := 9) (oi := ⟨some 71, _, _, _, _, _⟩) (v := ?_) rfl (by kernel_rfl) (by kernel_rfl) (by kernel_rfl) (fun _ _ _ h => h) (Or.inl ⟨by rfl, ?_⟩) KX.out ?_; rotate_left; · intro w hSw; (try dsimp only at hSw); go_simp; try with_reducible rfl
       try simp only [Act.put, sx1, sx2, sx3]
       refine wpAnyH_take (i := 10) (oi := ⟨some 72, _, _, _, _, _⟩) (v := ?_) rfl (by kernel_rfl) (by kernel_rfl) (by kernel_rfl) (fun _ _ _ h => h) (Or.inl ⟨by rfl, ?_⟩) KX.out ?_; rotate_left; · intro w hSw; (try dsimp only at hSw); go_simp; try with_reducible rfl
       try simp only [Act.put, sx1, sx2, sx3]
       refine wpAnyH_take (i := 11) (oi := ⟨some 73, _, _, _, _, _⟩) (v := ?_) rfl (by kernel_rfl) (by kernel_rfl) (by kernel_rfl) (fun _ _ _ h => h) (Or.inl ⟨by rfl, ?_⟩) KX.out ?_; rotate_left; · intro w hSw; (try dsimp only at hSw); go_simp; try with_reducible rfl
       try simp only [Act.put, sx1, sx2, sx3]
       refine wpAnyH_take (i := 12) (oi := ⟨some 74, _, _, _, _, _⟩) (v := ?_) rfl (by kernel_rfl) (by kernel_rfl) (by kernel_rfl) (fun _ _ _ h => h) (Or.inl ⟨by rfl, ?_⟩) KX.out ?_; rotate_left; · intro w hSw; (try dsimp only at hSw); go_simp; try with_reducible rfl
       try simp only [Act.put, sx1, sx2, sx3]
       refine wpAnyH_take (i := 13) (oi := ⟨some 75, _, _, _, _, _⟩) (v := undef) rfl (by kernel_rfl) (by kernel_rfl) (by kernel_rfl) (fun _ _ _ h => h) (Or.inr ⟨by rfl, rfl⟩) KX.out ?_; try simp only [Act.put, sx1, sx2, sx3]
       refine wpAnyH_take (i := 14) (oi := ⟨some 76, _, _, _, _, _⟩) (v := undef) rfl (by kernel_rfl) (by kernel_rfl) (by kernel_rfl) (fun _ _ _ h => h) (Or.inr ⟨by rfl, rfl⟩) KX.out ?_; try simp only [Act.put, sx1, sx2, sx3]
       refine wpAnyH_take (i := 15) (oi := ⟨some 77, _, _, _, _, _⟩) (v := undef) rfl (by kernel_rfl) (by kernel_rfl) (by kernel_rfl) (fun _ _ _ h => h) (Or.inr ⟨by rfl, rfl⟩) KX.out ?_; try simp only [Act.put, sx1, sx2, sx3]
       refine wpAnyH_take (i := 16) (oi := ⟨some 78, _, _, _, _, _⟩) (v := undef) rfl (by kernel_rfl) (by kernel_rfl) (by kernel_rfl) (fun _ _ _ h => h) (Or.inr ⟨by rfl, rfl⟩) KX.out ?_; try simp only [Act.put, sx1, sx2, sx3]
       refine wpAnyH_take (i := 17) (oi := ⟨some 79, _, _, _, _, _⟩) (v := ?_) rfl (by kernel_rfl) (by kernel_rfl) (by kernel_rfl) (fun _ _ _ h => h) (Or.inl ⟨by rfl, ?_⟩) KX.out ?_; rotate_left; · intro w hSw; (try dsimp only at hSw); go_simp; try with_reducible rfl
       try simp only [Act.put, sx1, sx2, sx3]
       refine wpAnyH_take (i := 18) (oi := ⟨some 80, _, _, _, _, _⟩) (v := ?_) rfl (by kernel_rfl) (by kernel_rfl) (by kernel_rfl) (fun _ _ _ h => h) (Or.inl ⟨by rfl, ?_⟩) KX.out ?_; rotate_left; · intro w hSw; (try dsimp only at hSw); go_simp; try with_reducible rfl
       try simp only [Act.put, sx1, sx2, sx3]
       refine wpAnyH_take (i := 19) (oi := ⟨some 81, _, _, _, _, _⟩) (v := undef) rfl (by kernel_rfl) (by kernel_rfl) (by kernel_rfl) (fun _ _ _ h => h) (Or.inr ⟨by rfl, rfl⟩) KX.out ?_; try simp only [Act.put, sx1, sx2, sx3]
       refine wpAnyH_take (i := 20) (oi := ⟨some 82, _, _, _, _, _⟩) (v := undef) rfl (by kernel_rfl) (by kernel_rfl) (by kernel_rfl) (fun _ _ _ h => h) (Or.inr ⟨by rfl, rfl⟩) KX.out ?_; try simp only [Act.put, sx1, sx2, sx3]
       refine wpAnyH_take (i := 21) (oi := ⟨some 83, _, _, _, _, _⟩) (v := undef) rfl (by kernel_rfl) (by kernel_rfl) (by kernel_rfl) (fun _ _ _ h => h) (Or.inr ⟨by rfl, rfl⟩) KX.out ?_; try simp only [Act.put, sx1, sx2, sx3]
       refine wpAnyH_take (i := 22) (oi := ⟨some 84, _, _, _, _, _⟩) (v := undef) rfl (by kernel_rfl) (by kernel_rfl) (by kernel_rfl) (fun _ _ _ h => h) (Or.inr ⟨by rfl, rfl⟩) KX.out ?_; try simp only [Act.put, sx1, sx2, sx3]
       refine wpAnyH_take (i := 23) (oi := ⟨some 85, _, _, _, _, _⟩) (v := ?_) rfl (by kernel_rfl) (by kernel_rfl) (by kernel_rfl) (fun _ _ _ h => h) (Or.inl ⟨by rfl, ?_⟩) KX.out ?_; rotate_left; · intro w hSw; (try dsimp only at hSw); go_simp; try with_reducible rfl
       try simp only [Act.put, sx1, sx2, sx3]
       refine wpAnyH_take (i := 24) (oi := ⟨some 86, _, _, _, _, _⟩) (v := ?_) rfl (by kernel_rfl) (by kernel_rfl) (by kernel_rfl) (fun _ _ _ h => h) (Or.inl ⟨by rfl, ?_⟩) KX.out ?_; rotate_left; · intro w hSw; (try dsimp only at hSw); go_simp; try with_reducible rfl
       try simp only [Act.put, sx1, sx2, sx3]
       refine wpAnyH_take (i := 25) (oi := ⟨some 87, _, _, _, _, _⟩) (v := ?_) rfl (by kernel_rfl) (by kernel_rfl) (by kernel_rfl) (fun _ _ _ h => h) (Or.inl ⟨by rfl, ?_⟩) KX.out ?_; rotate_left; · intro w hSw; (try dsimp only at hSw); go_simp; try with_reducible rfl
       try simp only [Act.put, sx1, sx2, sx3]
       refine wpAnyH_take (i := 26) (oi := ⟨some 88, _, _, _, _, _⟩) (v := ?_) rfl (by kernel_rfl) (by kernel_rfl) (by kernel_rfl) (fun _ _ _ h => h) (Or.inl ⟨by rfl, ?_⟩) KX.out ?_; rotate_left; · intro w hSw; (try dsimp only at hSw); go_simp; try with_reducible rfl
       try simp only [Act.put, sx1, sx2, sx3]
       refine wpAnyH_take (i := 27) (oi := ⟨some 89, _, _, _, _, _⟩) (v := ?_) rfl (by kernel_rfl) (by kernel_rfl) (by kernel_rfl) (fun _ _ _ h => h) (Or.inl ⟨by rfl, ?_⟩) KX.out ?_; rotate_left; · intro w hSw; (try dsimp only at hSw); go_simp; try with_reducible rfl
       try simp only [Act.put, sx1, sx2, sx3]
       refine wpAnyH_take (i := 28) (oi := ⟨some 90, _, _, _, _, _⟩) (v := ?_) rfl (by kernel_rfl) (by kernel_rfl) (by kernel_rfl) (fun _ _ _ h => h) (Or.inl ⟨by rfl, ?_⟩) KX.out ?_; rotate_left; · intro w hSw; (try dsimp only at hSw); go_simp; try with_reducible rfl
       try simp only [Act.put, sx1, sx2, sx3]
       refine wpAnyH_take (i := 29) (oi := ⟨some 91, _, _, _, _, _⟩) (v := ?_) rfl (by kernel_rfl) (by kernel_rfl) (by kernel_rfl) (fun _ _ _ h => h) (Or.inl ⟨by rfl, ?_⟩) KX.out ?_; rotate_left; · intro w hSw; (try dsimp only at hSw); go_simp; try with_reducible rfl
       try simp only [Act.put, sx1, sx2, sx3]
       refine wpAnyH_take (i := 30) (oi := ⟨some 92, _, _, _, _, _⟩) (v := ?_) rfl (by kernel_rfl) (by kernel_rfl) (by kernel_rfl) (fun _ _ _ h => h) (Or.inl ⟨by rfl, ?_⟩) KX.out ?_; rotate_left; · intro w hSw; (try dsimp only at hSw); go_simp; try with_reducible rfl
       try simp only [Act.put, sx1, sx2, sx3]
       refine wpAnyH_take (i := 31) (oi := ⟨some 93, _, _, _, _, _⟩) (v := ?_) rfl (by kernel_rfl) (by kernel_rfl) (by kernel_rfl) (fun _ _ _ h => h) (Or.inl ⟨by rfl, ?_⟩) KX.out ?_; rotate_left; · intro w hSw; (try dsimp only at hSw); go_simp; try with_reducible rfl
       try simp only [Act.put, sx1, sx2, sx3]
       refine wpAnyH_take (i := 32) (oi := ⟨some 94, _, _, _, _, _⟩) (v := ?_) rfl (by kernel_rfl) (by kernel_rfl) (by kernel_rfl) (fun _ _ _ h => h) (Or.inl ⟨by rfl, ?_⟩) KX.out ?_; rotate_left; · intro w hSw; (try dsimp only at hSw); go_simp; try with_reducible rfl
       try simp only [Act.put, sx1, sx2, sx3]
       refine wpAnyH_take (i := 33) (oi := ⟨some 95, _, _, _, _, _⟩) (v := ?_) rfl (by kernel_rfl) (by kernel_rfl) (by kernel_rfl) (fun _ _ _ h => h) (Or.inl ⟨by rfl, ?_⟩) KX.out ?_; rotate_left; · intro w hSw; (try dsimp only at hSw); go_simp; try with_reducible rfl
       try simp only [Act.put, sx1, sx2, sx3]
       refine wpAnyH_take (i := 34) (oi := ⟨some 96, _, _, _, _, _⟩) (v := ?_) rfl (by kernel_rfl) (by kernel_rfl) (by kernel_rfl) (fun _ _ _ h => h) (Or.inl ⟨by rfl, ?_⟩) KX.out ?_; rotate_left; · intro w hSw; (try dsimp only at hSw); go_simp; try with_reducible rfl
       try simp only [Act.put, sx1, sx2, sx3]
       refine wpAnyH_ready (rs := [35]) (by kernel_rfl) (by simp) ?_
       refine AllReadyH.cons rfl (fun K hK => ?_) ?_
       rotate_left
       ·exact AllReadyH.nil
       go_simp
       go_at_call 45
       refine (CW.out _).mono ?_
       rintro e wz ⟨rfl, hwz⟩
       subst wz
       go_wp2_with fail
       refine hK.out _ _ KX.out (fun hHeld => ?_)
       clear hK K hHeld
       try simp only [Act.put, sx1, sx2, sx3]
       refine wpAnyH_take (i := 36) (oi := ⟨some 98, _, _, _, _, _⟩) (v := ?_) rfl (by kernel_rfl) (by kernel_rfl) (by kernel_rfl) (fun _ _ _ h => h) (Or.inl ⟨by rfl, ?_⟩) KX.out ?_; rotate_left; · intro w hSw; (try dsimp only at hSw); go_simp; try with_reducible rfl
       try simp only [Act.put, sx1, sx2, sx3]
       refine wpAnyH_take (i := 37) (oi := ⟨some 99, _, _, _, _, _⟩) (v := ?_) rfl (by kernel_rfl) (by kernel_rfl) (by kernel_rfl) (fun _ _ _ h => h) (Or.inl ⟨by rfl, ?_⟩) KX.out ?_; rotate_left; · intro w hSw; (try dsimp only at hSw); go_simp; try with_reducible rfl
       try simp only [Act.put, sx1, sx2, sx3]
       refine wpAnyH_take (i := 38) (oi := ⟨some 100, _, _, _, _, _⟩) (v := ?_) rfl (by kernel_rfl) (by kernel_rfl) (by kernel_rfl) (fun _ _ _ h => h) (Or.inl ⟨by rfl, ?_⟩) KX.out ?_; rotate_left; · intro w hSw; (try dsimp only at hSw); go_simp; try with_reducible rfl
       try simp only [Act.put, sx1, sx2, sx3]
       refine wpAnyH_take (i := 39) (oi := ⟨some 101, _, _, _, _, _⟩) (v := ?_) rfl (by kernel_rfl) (by kernel_rfl) (by kernel_rfl) (fun _ _ _ h => h) (Or.inl ⟨by rfl, ?_⟩) KX.out ?_; rotate_left; · intro w hSw; (try dsimp only at hSw); go_simp; try with_reducible rfl
       try simp only [Act.put, sx1, sx2, sx3]
       refine wpAnyH_take (i := 40) (oi := ⟨some 102, _, _, _, _, _⟩) (v := undef) rfl (by kernel_rfl) (by kernel_rfl) (by kernel_rfl) (fun _ _ _ h => h) (Or.inr ⟨by rfl, rfl⟩) KX.out ?_; try simp only [Act.put, sx1, sx2, sx3]
       refine wpAnyH_take (i := 41) (oi := ⟨some 103, _, _, _, _, _⟩) (v := undef) rfl (by kernel_rfl) (by kernel_rfl) (by kernel_rfl) (fun _ _ _ h => h) (Or.inr ⟨by rfl, rfl⟩) KX.out ?_; try simp only [Act.put, sx1, sx2, sx3]
       refine wpAnyH_take (i := 42) (oi := ⟨some 104, _, _, _, _, _⟩) (v := undef) rfl (by kernel_rfl) (by kernel_rfl) (by kernel_rfl) (fun _ _ _ h => h) (Or.inr ⟨by rfl, rfl⟩) KX.out ?_; try simp only [Act.put, sx1, sx2, sx3]
       refine wpAnyH_take (i := 43) (oi := ⟨some 105, _, _, _, _, _⟩) (v := undef) rfl (by kernel_rfl) (by kernel_rfl) (by kernel_rfl) (fun _ _ _ h => h) (Or.inr ⟨by rfl, rfl⟩) KX.out ?_; try simp only [Act.put, sx1, sx2, sx3]
       refine wpAnyH_take (i := 44) (oi := ⟨some 106, _, _, _, _, _⟩) (v := undef) rfl (by kernel_rfl) (by kernel_rfl) (by kernel_rfl) (fun _ _ _ h => h) (Or.inr ⟨by rfl, rfl⟩) KX.out ?_; try simp only [Act.put, sx1, sx2, sx3]
       refine wpAnyH_take (i := 45) (oi := ⟨some 107, _, _, _, _, _⟩) (v := undef) rfl (by kernel_rfl) (by kernel_rfl) (by kernel_rfl) (fun _ _ _ h => h) (Or.inr ⟨by rfl, rfl⟩) KX.out ?_; try simp only [Act.put, sx1, sx2, sx3]
       refine wpAnyH_take (i := 46) (oi := ⟨some 108, _, _, _, _, _⟩) (v := undef) rfl (by kernel_rfl) (by kernel_rfl) (by kernel_rfl) (fun _ _ _ h => h) (Or.inr ⟨by rfl, rfl⟩) KX.out ?_; try simp only [Act.put, sx1, sx2, sx3]
       refine wpAnyH_take (i := 47) (oi := ⟨some 109, _, _, _, _, _⟩) (v := undef) rfl (by kernel_rfl) (by kernel_rfl) (by kernel_rfl) (fun _ _ _ h => h) (Or.inr ⟨by rfl, rfl⟩) KX.out ?_; try simp only [Act.put, sx1, sx2, sx3]
       refine wpAnyH_take (i := 48) (oi := ⟨some 110, _, _, _, _, _⟩) (v := undef) rfl (by kernel_rfl) (by kernel_rfl) (by kernel_rfl) (fun _ _ _ h => h) (Or.inr ⟨by rfl, rfl⟩) KX.out ?_; try simp only [Act.put, sx1, sx2, sx3]
       refine wpAnyH_take (i := 49) (oi := ⟨some 111, _, _, _, _, _⟩) (v := undef) rfl (by kernel_rfl) (by kernel_rfl) (by kernel_rfl) (fun _ _ _ h => h) (Or.inr ⟨by rfl, rfl⟩) KX.out ?_; try simp only [Act.put, sx1, sx2, sx3]
       refine wpAnyH_take (i := 50) (oi := ⟨some 112, _, _, _, _, _⟩) (v := undef) rfl (by kernel_rfl) (by kernel_rfl) (by kernel_rfl) (fun _ _ _ h => h) (Or.inr ⟨by rfl, rfl⟩) KX.out ?_; try simp only [Act.put, sx1, sx2, sx3]
       refine wpAnyH_take (i := 51) (oi := ⟨some 113, _, _, _, _, _⟩) (v := undef) rfl (by kernel_rfl) (by kernel_rfl) (by kernel_rfl) (fun _ _ _ h => h) (Or.inr ⟨by rfl, rfl⟩) KX.out ?_; try simp only [Act.put, sx1, sx2, sx3]
       refine wpAnyH_take (i := 52) (oi := ⟨some 114, _, _, _, _, _⟩) (v := ?_) rfl (by kernel_rfl) (by kernel_rfl) (by kernel_rfl) (fun _ _ _ h => h) (Or.inl ⟨by rfl, ?_⟩) KX.out ?_; rotate_left; · intro w hSw; (try dsimp only at hSw); go_simp; try with_reducible rfl
       try simp only [Act.put, sx1, sx2, sx3]
       refine wpAnyH_take (i := 53) (oi := ⟨some 115, _, _, _, _, _⟩) (v := ?_) rfl (by kernel_rfl) (by kernel_rfl) (by kernel_rfl) (fun _ _ _ h => h) (Or.inl ⟨by rfl, ?_⟩) KX.out ?_; rotate_left; · intro w hSw; (try dsimp only at hSw); go_simp; try with_reducible rfl
       try simp only [Act.put, sx1, sx2, sx3]
       refine wpAnyH_take (i := 54) (oi := ⟨some 116, _, _, _, _, _⟩) (v := undef) rfl (by kernel_rfl) (by kernel_rfl) (by kernel_rfl) (fun _ _ _ h => h) (Or.inr ⟨by rfl, rfl⟩) KX.out ?_; try simp only [Act.put, sx1, sx2, sx3]
       refine wpAnyH_take (i := 55) (oi := ⟨some 117, _, _, _, _, _⟩) (v := undef) rfl (by kernel_rfl) (by kernel_rfl) (by kernel_rfl) (fun _ _ _ h => h) (Or.inr ⟨by rfl, rfl⟩) KX.out ?_; try simp only [Act.put, sx1, sx2, sx3]
       refine wpAnyH_take (i := 56) (oi := ⟨some 118, _, _, _, _, _⟩) (v := undef) rfl (by kernel_rfl) (by kernel_rfl) (by kernel_rfl) (fun _ _ _ h => h) (Or.inr ⟨by rfl, rfl⟩) KX.out ?_; try simp only [Act.put, sx1, sx2, sx3]
       refine wpAnyH_take (i := 57) (oi := ⟨some 119, _, _, _, _, _⟩) (v := undef) rfl (by kernel_rfl) (by kernel_rfl) (by kernel_rfl) (fun _ _ _ h => h) (Or.inr ⟨by rfl, rfl⟩) KX.out ?_; try simp only [Act.put, sx1, sx2, sx3]
       refine wpAnyH_take (i := 58) (oi := ⟨some 120, _, _, _, _, _⟩) (v := undef) rfl (by kernel_rfl) (by kernel_rfl) (by kernel_rfl) (fun _ _ _ h => h) (Or.inr ⟨by rfl, rfl⟩) KX.out ?_; try simp only [Act.put, sx1, sx2, sx3]
       refine wpAnyH_take (i := 59) (oi := ⟨some 121, _, _, _, _, _⟩) (v := undef) rfl (by kernel_rfl) (by kernel_rfl) (by kernel_rfl) (fun _ _ _ h => h) (Or.inr ⟨by rfl, rfl⟩) KX.out ?_; try simp only [Act.put, sx1, sx2, sx3]
       refine wpAnyH_take (i := 60) (oi := ⟨some 122, _, _, _, _, _⟩) (v := ?_) rfl (by kernel_rfl) (by kernel_rfl) (by kernel_rfl) (fun _ _ _ h => h) (Or.inl ⟨by rfl, ?_⟩) KX.out ?_; rotate_left; · intro w hSw; (try dsimp only at hSw); go_simp; try with_reducible rfl
       try simp only [Act.put, sx1, sx2, sx3]
       refine wpAnyH_done (by kernel_rfl) ?_ _
       first | go_meet | (go_wp2_with fail; go_meet)
       exact ⟨rfl, HBX⟩
    have n2 : (op == 2) = false := by rw [beq_eq_false_iff_ne]; exact o2
    by_cases o3 : op = 3
    ·subst o3
     clear n1 n12 n4 n2 o1 o12 o4 o2
     have CW := Lib.hid (fun w => rwithin_any a (bks - 1) w)
     cases q2 : within a (bks - 1) with
     | true =>
      have e : b1 = true := by rw [← HB1.out, (HW2.out a b c d).2.1, q2]
      subst e
      rw [q2] at CW
      clear q2
      as_aux_lemma =>
       refine wp_region_held (S := fun w' => w'.cell? ⟨g, 0, none⟩ = some (.int .i64 st) ∧ w'.cell? ⟨g, 1, none⟩ = some (.int .i64 sl) ∧ w'.cell? ⟨g, 2, none⟩ = some (.int .i64 bks) ∧ w'.cell? ⟨g, 3, none⟩ = some (.int .i64 gr) ∧ w'.cell? ⟨g, 4, none⟩ = some (.int .i64 gb) ∧ w'.cell? ⟨g, 5, none⟩ = some (.slice (some ad) m ci) ∧ w'.cell? ⟨g, 6, none⟩ = some (.slice ao no co) ∧ w'.cell? ⟨g, 7, none⟩ = some (.int .i64 la) ∧ w'.cell? ⟨g, 8, none⟩ = some (.slice ac nc cc) ∧ w'.cell? ⟨g4, 0, none⟩ = some (.int .i64 3) ∧ w'.cell? ⟨g4, 1, none⟩ = some (.int .i64 a) ∧ w'.cell? ⟨g4, 2, none⟩ = some (.int .i64 b) ∧ w'.cell? ⟨g4, 3, none⟩ = some (.int .i64 c) ∧ w'.cell? ⟨g4, 4, none⟩ = some (.int .i64 d)) (by kernel_rfl) ?_
       change wpAnyH _ _ _ _ _ _ _ _ (World.drew w4)
       have KX := Lib.hid (both (boxOn HG4.out HBX.out) (boxOn H4.out HBX.out))
       refine wpAnyH_take (i := 0) (oi := ⟨some 62, _, _, _, _, _⟩) (v := ?_) rfl (by kernel_rfl) (by kernel_rfl) (by kernel_rfl) (fun _ _ _ h => h) (Or.inl ⟨by rfl, ?_⟩) KX.out ?_; rotate_left; · intro w hSw; (try dsimp only at hSw); go_simp; try with_reducible rfl
       try simp only [Act.put, sx1, sx2, sx3]
       refine wpAnyH_take (i := 1) (oi := ⟨some 63, _, _, _, _, _⟩) (v := ?_) rfl (by kernel_rfl) (by kernel_rfl) (by kernel_rfl) (fun _ _ _ h => h) (Or.inl ⟨by rfl, ?_⟩) KX.out ?_; rotate_left; · intro w hSw; (try dsimp only at hSw); go_simp; try with_reducible rfl
       try simp only [Act.put, sx1, sx2, sx3]
       refine wpAnyH_take (i := 2) (oi := ⟨some 64, _, _, _, _, _⟩) (v := ?_) rfl (by kernel_rfl) (by kernel_rfl) (by kernel_rfl) (fun _ _ _ h => h) (Or.inl ⟨by rfl, ?_⟩) KX.out ?_; rotate_left; · intro w hSw; (try dsimp only at hSw); go_simp; try with_reducible rfl
       try simp only [Act.put, sx1, sx2, sx3]
       refine wpAnyH_take (i := 3) (oi := ⟨some 65, _, _, _, _, _⟩) (v := ?_) rfl (by kernel_rfl) (by kernel_rfl) (by kernel_rfl) (fun _ _ _ h => h) (Or.inl ⟨by rfl, ?_⟩) KX.out ?_; rotate_left; · intro w hSw; (try dsimp only at hSw); go_simp; try with_reducible rfl
       try simp only [Act.put, sx1, sx2, sx3]
       refine wpAnyH_take (i := 4) (oi := ⟨some 66, _, _, _, _, _⟩) (v := ?_) rfl (by kernel_rfl) (by kernel_rfl) (by kernel_rfl) (fun _ _ _ h => h) (Or.inl ⟨by rfl, ?_⟩) KX.out ?_; rotate_left; · intro w hSw; (try dsimp only at hSw); go_simp; try with_reducible rfl
       try simp only [Act.put, sx1, sx2, sx3]
       refine wpAnyH_take (i := 5) (oi := ⟨some 67, _, _, _, _, _⟩) (v := ?_) rfl (by kernel_rfl) (by kernel_rfl) (by kernel_rfl) (fun _ _ _ h => h) (Or.inl ⟨by rfl, ?_⟩) KX.out ?_; rotate_left; · intro w hSw; (try dsimp only at hSw); go_simp; try with_reducible rfl
       try simp only [Act.put, sx1, sx2, sx3]
       refine wpAnyH_take (i := 6) (oi := ⟨some 68, _, _, _, _, _⟩) (v := ?_) rfl (by kernel_rfl) (by kernel_rfl) (by kernel_rfl) (fun _ _ _ h => h) (Or.inl ⟨by rfl, ?_⟩) KX.out ?_; rotate_left; · intro w hSw; (try dsimp only at hSw); go_simp; try with_reducible rfl
       try simp only [Act.put, sx1, sx2, sx3]
       refine wpAnyH_take (i := 7) (oi := ⟨some 69, _, _, _, _, _⟩) (v := ?_) rfl (by kernel_rfl) (by kernel_rfl) (by kernel_rfl) (fun _ _ _ h => h) (Or.inl ⟨by rfl, ?_⟩) KX.out ?_; rotate_left; · intro w hSw; (try dsimp only at hSw); go_simp; try with_reducible rfl
       try simp only [Act.put, sx1, sx2, sx3]
       refine wpAnyH_take (i := 8) (oi := ⟨some 70, _, _, _, _, _⟩) (v := ?_) rfl (by kernel_rfl) (by kernel_rfl) (by kernel_rfl) (fun _ _ _ h => h) (Or.inl ⟨by rfl, ?_⟩) KX.out ?_; rotate_left; · intro w hSw; (try dsimp only at hSw); go_simp; try with_reducible rfl
       try simp only [Act.put, sx1, sx2, sx3]
       refine wpAnyH_take (i := 9) (oi := ⟨some 71, _, _, _, _, _⟩) (v := ?_) rfl (by kernel_rfl) (by kernel_rfl) (by kernel_rfl) (fun _ _ _ h => h) (Or.inl ⟨by rfl, ?_⟩) KX.out ?_; rotate_left; · intro w hSw; (try dsimp only at hSw); go_simp; try with_reducible rfl
       try simp only [Act.put, sx1, sx2, sx3]
       refine wpAnyH_take (i := 10) (oi := ⟨some 72, _, _, _, _, _⟩) (v := ?_) rfl (by kernel_rfl) (by kernel_rfl) (by kernel_rfl) (fun _ _ _ h => h) (Or.inl ⟨by rfl, ?_⟩) KX.out ?_; rotate_left; · intro w hSw; (try dsimp only at hSw); go_simp; try with_reducible rfl
       try simp only [Act.put, sx1, sx2, sx3]
       refine wpAnyH_take (i := 11) (oi := ⟨some 73, _, _, _, _, _⟩) (v := ?_) rfl (by kernel_rfl) (by kernel_rfl) (by kernel_rfl) (fun _ _ _ h => h) (Or.inl ⟨by rfl, ?_⟩) KX.out ?_; rotate_left; · intro w hSw; (try dsimp only at hSw); go_simp; try with_reducible rfl
       try simp only [Act.put, sx1, sx2, sx3]
       refine wpAnyH_take (i := 12) (oi := ⟨some 74, _, _, _, _, _⟩) (v := ?_) rfl (by kernel_rfl) (by kernel_rfl) (by kernel_rfl) (fun _ _ _ h => h) (Or.inl ⟨by rfl, ?_⟩) KX.out ?_; rotate_left; · intro w hSw; (try dsimp only at hSw); go_simp; try with_reducible rfl
       try simp only [Act.put, sx1, sx2, sx3]
       refine wpAnyH_take (i := 13) (oi := ⟨some 75, _, _, _, _, _⟩) (v := undef) rfl (by kernel_rfl) (by kernel_rfl) (by kernel_rfl) (fun _ _ _ h => h) (Or.inr ⟨by rfl, rfl⟩) KX.out ?_; try simp only [Act.put, sx1, sx2, sx3]
       refine wpAnyH_take (i := 14) (oi := ⟨some 76, _, _, _, _, _⟩) (v := undef) rfl (by kernel_rfl) (by kernel_rfl) (by kernel_rfl) (fun _ _ _ h => h) (Or.inr ⟨by rfl, rfl⟩) KX.out ?_; try simp only [Act.put, sx1, sx2, sx3]
       refine wpAnyH_take (i := 15) (oi := ⟨some 77, _, _, _, _, _⟩) (v := undef) rfl (by kernel_rfl) (by kernel_rfl) (by kernel_rfl) (fun _ _ _ h => h) (Or.inr ⟨by rfl, rfl⟩) KX.out ?_; try simp only [Act.put, sx1, sx2, sx3]
       refine wpAnyH_take (i := 16) (oi := ⟨some 78, _, _, _, _, _⟩) (v := undef) rfl (by kernel_rfl) (by kernel_rfl) (by kernel_rfl) (fun _ _ _ h => h) (Or.inr ⟨by rfl, rfl⟩) KX.out ?_; try simp only [Act.put, sx1, sx2, sx3]
       refine wpAnyH_take (i := 17) (oi := ⟨some 79, _, _, _, _, _⟩) (v := ?_) rfl (by kernel_rfl) (by kernel_rfl) (by kernel_rfl) (fun _ _ _ h => h) (Or.inl ⟨by rfl, ?_⟩) KX.out ?_; rotate_left; · intro w hSw; (try dsimp only at hSw); go_simp; try with_reducible rfl
       try simp only [Act.put, sx1, sx2, sx3]
       refine wpAnyH_take (i := 18) (oi := ⟨some 80, _, _, _, _, _⟩) (v := ?_) rfl (by kernel_rfl) (by kernel_rfl) (by kernel_rfl) (fun _ _ _ h => h) (Or.inl ⟨by rfl, ?_⟩) KX.out ?_; rotate_left; · intro w hSw; (try dsimp only at hSw); go_simp; try with_reducible rfl
       try simp only [Act.put, sx1, sx2, sx3]
       refine wpAnyH_take (i := 19) (oi := ⟨some 81, _, _, _, _, _⟩) (v := undef) rfl (by kernel_rfl) (by kernel_rfl) (by kernel_rfl) (fun _ _ _ h => h) (Or.inr ⟨by rfl, rfl⟩) KX.out ?_; try simp only [Act.put, sx1, sx2, sx3]
       refine wpAnyH_take (i := 20) (oi := ⟨some 82, _, _, _, _, _⟩) (v := undef) rfl (by kernel_rfl) (by kernel_rfl) (by kernel_rfl) (fun _ _ _ h => h) (Or.inr ⟨by rfl, rfl⟩) KX.out ?_; try simp only [Act.put, sx1, sx2, sx3]
       refine wpAnyH_take (i := 21) (oi := ⟨some 83, _, _, _, _, _⟩) (v := undef) rfl (by kernel_rfl) (by kernel_rfl) (by kernel_rfl) (fun _ _ _ h => h) (Or.inr ⟨by rfl, rfl⟩) KX.out ?_; try simp only [Act.put, sx1, sx2, sx3]
       refine wpAnyH_take (i := 22) (oi := ⟨some 84, _, _, _, _, _⟩) (v := undef) rfl (by kernel_rfl) (by kernel_rfl) (by kernel_rfl) (fun _ _ _ h => h) (Or.inr ⟨by rfl, rfl⟩) KX.out ?_; try simp only [Act.put, sx1, sx2, sx3]
       refine wpAnyH_take (i := 23) (oi := ⟨some 85, _, _, _, _, _⟩) (v := ?_) rfl (by kernel_rfl) (by kernel_rfl) (by kernel_rfl) (fun _ _ _ h => h) (Or.inl ⟨by rfl, ?_⟩) KX.out ?_; rotate_left; · intro w hSw; (try dsimp only at hSw); go_simp; try with_reducible rfl
       try simp only [Act.put, sx1, sx2, sx3]
       refine wpAnyH_take (i := 24) (oi := ⟨some 86, _, _, _, _, _⟩) (v := ?_) rfl (by kernel_rfl) (by kernel_rfl) (by kernel_rfl) (fun _ _ _ h => h) (Or.inl ⟨by rfl, ?_⟩) KX.out ?_; rotate_left; · intro w hSw; (try dsimp only at hSw); go_simp; try with_reducible rfl
       try simp only [Act.put, sx1, sx2, sx3]
       refine wpAnyH_take (i := 25) (oi := ⟨some 87, _, _, _, _, _⟩) (v := ?_) rfl (by kernel_rfl) (by kernel_rfl) (by kernel_rfl) (fun _ _ _ h => h) (Or.inl ⟨by rfl, ?_⟩) KX.out ?_; rotate_left; · intro w hSw; (try dsimp only at hSw); go_simp; try with_reducible rfl
       try simp only [Act.put, sx1, sx2, sx3]
       refine wpAnyH_take (i := 26) (oi := ⟨some 88, _, _, _, _, _⟩) (v := ?_) rfl (by kernel_rfl) (by kernel_rfl) (by kernel_rfl) (fun _ _ _ h => h) (Or.inl ⟨by rfl, ?_⟩) KX.out ?_; rotate_left; · intro w hSw; (try dsimp only at hSw); go_simp; try with_reducible rfl
       try simp only [Act.put, sx1, sx2, sx3]
       refine wpAnyH_take (i := 27) (oi := ⟨some 89, _, _, _, _, _⟩) (v := ?_) rfl (by kernel_rfl) (by kernel_rfl) (by kernel_rfl) (fun _ _ _ h => h) (Or.inl ⟨by rfl, ?_⟩) KX.out ?_; rotate_left; · intro w hSw; (try dsimp only at hSw); go_simp; try with_reducible rfl
       try simp only [Act.put, sx1, sx2, sx3]
       refine wpAnyH_take (i := 28) (oi := ⟨some 90, _, _, _, _, _⟩) (v := ?_) rfl (by kernel_rfl) (by kernel_rfl) (by kernel_rfl) (fun _ _ _ h => h) (Or.inl ⟨by rfl, ?_⟩) KX.out ?_; rotate_left; · intro w hSw; (try dsimp only at hSw); go_simp; try with_reducible rfl
       try simp only [Act.put, sx1, sx2, sx3]
       refine wpAnyH_take (i := 29) (oi := ⟨some 91, _, _, _, _, _⟩) (v := ?_) rfl (by kernel_rfl) (by kernel_rfl) (by kernel_rfl) (fun _ _ _ h => h) (Or.inl ⟨by rfl, ?_⟩) KX.out ?_; rotate_left; · intro w hSw; (try dsimp only at hSw); go_simp; try with_reducible rfl
       try simp only [Act.put, sx1, sx2, sx3]
       refine wpAnyH_take (i := 30) (oi := ⟨some 92, _, _, _, _, _⟩) (v := undef) rfl (by kernel_rfl) (by kernel_rfl) (by kernel_rfl) (fun _ _ _ h => h) (Or.inr ⟨by rfl, rfl⟩) KX.out ?_; try simp only [Act.put, sx1, sx2, sx3]
       refine wpAnyH_take (i := 31) (oi := ⟨some 93, _, _, _, _, _⟩) (v := undef) rfl (by kernel_rfl) (by kernel_rfl) (by kernel_rfl) (fun _ _ _ h => h) (Or.inr ⟨by rfl, rfl⟩) KX.out ?_; try simp only [Act.put, sx1, sx2, sx3]
       refine wpAnyH_take (i := 32) (oi := ⟨some 94, _, _, _, _, _⟩) (v := undef) rfl (by kernel_rfl) (by kernel_rfl) (by kernel_rfl) (fun _ _ _ h => h) (Or.inr ⟨by rfl, rfl⟩) KX.out ?_; try simp only [Act.put, sx1, sx2, sx3]
       refine wpAnyH_take (i := 33) (oi := ⟨some 95, _, _, _, _, _⟩) (v := undef) rfl (by kernel_rfl) (by kernel_rfl) (by kernel_rfl) (fun _ _ _ h => h) (Or.inr ⟨by rfl, rfl⟩) KX.out ?_; try simp only [Act.put, sx1, sx2, sx3]
       refine wpAnyH_take (i := 34) (oi := ⟨some 96, _, _, _, _, _⟩) (v := undef) rfl (by kernel_rfl) (by kernel_rfl) (by kernel_rfl) (fun _ _ _ h => h) (Or.inr ⟨by rfl, rfl⟩) KX.out ?_; try simp only [Act.put, sx1, sx2, sx3]
       refine wpAnyH_take (i := 35) (oi := ⟨some 97, _, _, _, _, _⟩) (v := undef) rfl (by kernel_rfl) (by kernel_rfl) (by kernel_rfl) (fun _ _ _ h => h) (Or.inr ⟨by rfl, rfl⟩) KX.out ?_; try simp only [Act.put, sx1, sx2, sx3]
       refine wpAnyH_take (i := 36) (oi := ⟨some 98, _, _, _, _, _⟩) (v := undef) rfl (by kernel_rfl) (by kernel_rfl) (by kernel_rfl) (fun _ _ _ h => h) (Or.inr ⟨by rfl, rfl⟩) KX.out ?_; try simp only [Act.put, sx1, sx2, sx3]
       refine wpAnyH_take (i := 37) (oi := ⟨some 99, _, _, _, _, _⟩) (v := ?_) rfl (by kernel_rfl) (by kernel_rfl) (by kernel_rfl) (fun _ _ _ h => h) (Or.inl ⟨by rfl, ?_⟩) KX.out ?_; rotate_left; · intro w hSw; (try dsimp only at hSw); go_simp; try with_reducible rfl
       try simp only [Act.put, sx1, sx2, sx3]
       refine wpAnyH_take (i := 38) (oi := ⟨some 100, _, _, _, _, _⟩) (v := ?_) rfl (by kernel_rfl) (by kernel_rfl) (by kernel_rfl) (fun _ _ _ h => h) (Or.inl ⟨by rfl, ?_⟩) KX.out ?_; rotate_left; · intro w hSw; (try dsimp only at hSw); go_simp; try with_reducible rfl
       try simp only [Act.put, sx1, sx2, sx3]
       refine wpAnyH_take (i := 39) (oi := ⟨some 101, _, _, _, _, _⟩) (v := ?_) rfl (by kernel_rfl) (by kernel_rfl) (by kernel_rfl) (fun _ _ _ h => h) (Or.inl ⟨by rfl, ?_⟩) KX.out ?_; rotate_left; · intro w hSw; (try dsimp only at hSw); go_simp; try with_reducible rfl
       try simp only [Act.put, sx1, sx2, sx3]
       refine wpAnyH_take (i := 40) (oi := ⟨some 102, _, _, _, _, _⟩) (v := ?_) rfl (by kernel_rfl) (by kernel_rfl) (by kernel_rfl) (fun _ _ _ h => h) (Or.inl ⟨by rfl, ?_⟩) KX.out ?_; rotate_left; · intro w hSw; (try dsimp only at hSw); go_simp; try with_reducible rfl
       try simp only [Act.put, sx1, sx2, sx3]
       refine wpAnyH_take (i := 41) (oi := ⟨some 103, _, _, _, _, _⟩) (v := ?_) rfl (by kernel_rfl) (by kernel_rfl) (by kernel_rfl) (fun _ _ _ h => h) (Or.inl ⟨by rfl, ?_⟩) KX.out ?_; rotate_left; · intro w hSw; (try dsimp only at hSw); go_simp; try with_reducible rfl
       try simp only [Act.put, sx1, sx2, sx3]
       refine wpAnyH_take (i := 42) (oi := ⟨some 104, _, _, _, _, _⟩) (v := ?_) rfl (by kernel_rfl) (by kernel_rfl) (by kernel_rfl) (fun _ _ _ h => h) (Or.inl ⟨by rfl, ?_⟩) KX.out ?_; rotate_left; · intro w hSw; (try dsimp only at hSw); go_simp; try with_reducible rfl
       try simp only [Act.put, sx1, sx2, sx3]
       refine wpAnyH_take (i := 43) (oi := ⟨some 105, _, _, _, _, _⟩) (v := ?_) rfl (by kernel_rfl) (by kernel_rfl) (by kernel_rfl) (fun _ _ _ h => h) (Or.inl ⟨by rfl, ?_⟩) KX.out ?_; rotate_left; · intro w hSw; (try dsimp only at hSw); go_simp; try with_reducible rfl
       try simp only [Act.put, sx1, sx2, sx3]
       refine wpAnyH_take (i := 44) (oi := ⟨some 106, _, _, _, _, _⟩) (v := ?_) rfl (by kernel_rfl) (by kernel_rfl) (by kernel_rfl) (fun _ _ _ h => h) (Or.inl ⟨by rfl, ?_⟩) KX.out ?_; rotate_left; · intro w hSw; (try dsimp only at hSw); go_simp; try with_reducible rfl
       try simp only [Act.put, sx1, sx2, sx3]
       refine wpAnyH_take (i := 45) (oi := ⟨some 107, _, _, _, _, _⟩) (v := ?_) rfl (by kernel_rfl) (by kernel_rfl) (by kernel_rfl) (fun _ _ _ h => h) (Or.inl ⟨by rfl, ?_⟩) KX.out ?_; rotate_left; · intro w hSw; (try dsimp only at hSw); go_simp; try with_reducible rfl
       try simp only [Act.put, sx1, sx2, sx3]
       refine wpAnyH_take (i := 46) (oi := ⟨some 108, _, _, _, _, _⟩) (v := ?_) rfl (by kernel_rfl) (by kernel_rfl) (by kernel_rfl) (fun _ _ _ h => h) (Or.inl ⟨by rfl, ?_⟩) KX.out ?_; rotate_left; · intro w hSw; (try dsimp only at hSw); go_simp; try with_reducible rfl
       try simp only [Act.put, sx1, sx2, sx3]
       refine wpAnyH_take (i := 47) (oi := ⟨some 109, _, _, _, _, _⟩) (v := ?_) rfl (by kernel_rfl) (by kernel_rfl) (by kernel_rfl) (fun _ _ _ h => h) (Or.inl ⟨by rfl, ?_⟩) KX.out ?_; rotate_left; · intro w hSw; (try dsimp only at hSw); go_simp; try with_reducible rfl
       try simp only [Act.put, sx1, sx2, sx3]
       refine wpAnyH_take (i := 48) (oi := ⟨some 110, _, _, _, _, _⟩) (v := ?_) rfl (by kernel_rfl) (by kernel_rfl) (by kernel_rfl) (fun _ _ _ h => h) (Or.inl ⟨by rfl, ?_⟩) KX.out ?_; rotate_left; · intro w hSw; (try dsimp only at hSw); go_simp; try with_reducible rfl
       try simp only [Act.put, sx1, sx2, sx3]
       refine wpAnyH_ready (rs := [49]) (by kernel_rfl) (by simp) ?_
       refine AllReadyH.cons rfl (fun K hK => ?_) ?_
       rotate_left
       ·exact AllReadyH.nil
       go_simp
       go_at_call 45
       refine (CW.out _).mono ?_
       rintro e wz ⟨rfl, hwz⟩
       subst wz
       go_wp2_with fail
       refine hK.out _ _ KX.out (fun hHeld => ?_)
       clear hK K hHeld
       try simp only [Act.put, sx1, sx2, sx3]
       refine wpAnyH_take (i := 50) (oi := ⟨some 112, _, _, _, _, _⟩) (v := ?_) rfl (by kernel_rfl) (by kernel_rfl) (by kernel_rfl) (fun _ _ _ h => h) (Or.inl ⟨by rfl, ?_⟩) KX.out ?_; rotate_left; · intro w hSw; (try dsimp only at hSw); go_simp; try with_reducible rfl
       try simp only [Act.put, sx1, sx2, sx3]
       refine wpAnyH_take (i := 51) (oi := ⟨some 113, _, _, _, _, _⟩) (v := ?_) rfl (by kernel_rfl) (by kernel_rfl) (by kernel_rfl) (fun _ _ _ h => h) (Or.inl ⟨by rfl, ?_⟩) KX.out ?_; rotate_left; · intro w hSw; (try dsimp only at hSw); go_simp; try with_reducible rfl
       try simp only [Act.put, sx1, sx2, sx3]
       refine wpAnyH_take (i := 52) (oi := ⟨some 114, _, _, _, _, _⟩) (v := ?_) rfl (by kernel_rfl) (by kernel_rfl) (by kernel_rfl) (fun _ _ _ h => h) (Or.inl ⟨by rfl, ?_⟩) KX.out ?_; rotate_left; · intro w hSw; (try dsimp only at hSw); go_simp; try with_reducible rfl
       try simp only [Act.put, sx1, sx2, sx3]
       refine wpAnyH_take (i := 53) (oi := ⟨some 115, _, _, _, _, _⟩) (v := ?_) rfl (by kernel_rfl) (by kernel_rfl) (by kernel_rfl) (fun _ _ _ h => h) (Or.inl ⟨by rfl, ?_⟩) KX.out ?_; rotate_left; · intro w hSw; (try dsimp only at hSw); go_simp; try with_reducible rfl
       try simp only [Act.put, sx1, sx2, sx3]
       refine wpAnyH_take (i := 54) (oi := ⟨some 116, _, _, _, _, _⟩) (v := ?_) rfl (by kernel_rfl) (by kernel_rfl) (by kernel_rfl) (fun _ _ _ h => h) (Or.inl ⟨by rfl, ?_⟩) KX.out ?_; rotate_left; · intro w hSw; (try dsimp only at hSw); go_simp; try with_reducible rfl
       try simp only [Act.put, sx1, sx2, sx3]
       refine wpAnyH_take (i := 55) (oi := ⟨some 117, _, _, _, _, _⟩) (v := ?_) rfl (by kernel_rfl) (by kernel_rfl) (by kernel_rfl) (fun _ _ _ h => h) (Or.inl ⟨by rfl, ?_⟩) KX.out ?_; rotate_left; · intro w hSw; (try dsimp only at hSw); go_simp; try with_reducible rfl
       try simp only [Act.put, sx1, sx2, sx3]
       refine wpAnyH_take (i := 57) (oi := ⟨some 119, _, _, _, _, _⟩) (v := ?_) rfl (by kernel_rfl) (by kernel_rfl) (by kernel_rfl) (fun _ _ _ h => h) (Or.inl ⟨by rfl, ?_⟩) KX.out ?_; rotate_left; · intro w hSw; (try dsimp only at hSw); go_simp; try with_reducible rfl
       try simp only [Act.put, sx1, sx2, sx3]
       refine wpAnyH_ready (rs := [56]) (by kernel_rfl) (by simp) ?_
       refine AllReadyH.cons rfl (fun K hK => ?_) ?_
       rotate_left
       ·exact AllReadyH.nil
       go_simp
       go_at_call 22
       refine (CU.out _).mono ?_
       rintro e wn ⟨vu, rfl, hou, hb⟩
       have HVU := Lib.hid (Reads.of_owns hou)
       have HBX := Lib.hid (HBX.out.trans (hb.mono HBX.out.size))
       have KX := Lib.hid (both (boxOn HG4.out HBX.out) (boxOn H4.out HBX.out))
       clear hb hou
       go_wp2_with fail
       refine hK.out _ _ KX.out (fun hHeld => ?_)
       clear hK K hHeld
       try simp only [Act.put, sx1, sx2, sx3]
       refine wpAnyH_ready (rs := [58]) (by kernel_rfl) (by simp) ?_
       refine AllReadyH.cons rfl (fun K hK => ?_) ?_
       rotate_left
       ·exact AllReadyH.nil
       go_simp
       go_at_call 46
       refine (CK.out _ HBX.out vu HVU.out).mono ?_
       rintro e wn ⟨rfl, hb⟩
       have HBX := Lib.hid (HBX.out.trans (hb.mono HBX.out.size))
       have KX := Lib.hid (both (boxOn HG4.out HBX.out) (boxOn H4.out HBX.out))
       clear hb
       go_wp2_with fail
       refine hK.out _ _ KX.out (fun hHeld => ?_)
       clear hK K hHeld
       try simp only [Act.put, sx1, sx2, sx3]
       refine wpAnyH_take (i := 59) (oi := ⟨some 121, _, _, _, _, _⟩) (v := ?_) rfl (by kernel_rfl) (by kernel_rfl) (by kernel_rfl) (fun _ _ _ h => h) (Or.inl ⟨by rfl, ?_⟩) KX.out ?_; rotate_left; · intro w hSw; (try dsimp only at hSw); go_simp; try with_reducible rfl
       try simp only [Act.put, sx1, sx2, sx3]
       refine wpAnyH_take (i := 60) (oi := ⟨some 122, _, _, _, _, _⟩) (v := ?_) rfl (by kernel_rfl) (by kernel_rfl) (by kernel_rfl) (fun _ _ _ h => h) (Or.inl ⟨by rfl, ?_⟩) KX.out ?_; rotate_left; · intro w hSw; (try dsimp only at hSw); go_simp; try with_reducible rfl
       try simp only [Act.put, sx1, sx2, sx3]
       refine wpAnyH_done (by kernel_rfl) ?_ _
       cases b2
       all_goals
        first | go_meet | (go_wp2_with fail; go_meet)
        exact ⟨rfl, HBX⟩
     | false =>
      have e : b1 = false := by rw [← HB1.out, (HW2.out a b c d).2.1, q2]
      subst e
      rw [q2] at CW
      clear q2
      as_aux_lemma =>
       refine wp_region_held (S := fun w' => w'.cell? ⟨g, 0, none⟩ = some (.int .i64 st) ∧ w'.cell? ⟨g, 1, none⟩ = some (.int .i64 sl) ∧ w'.cell? ⟨g, 2, none⟩ = some (.int .i64 bks) ∧ w'.cell? ⟨g, 3, none⟩ = some (.int .i64 gr) ∧ w'.cell? ⟨g, 4, none⟩ = some (.int .i64 gb) ∧ w'.cell? ⟨g, 5, none⟩ = some (.slice (some ad) m ci) ∧ w'.cell? ⟨g, 6, none⟩ = some (.slice ao no co) ∧ w'.cell? ⟨g, 7, none⟩ = some (.int .i64 la) ∧ w'.cell? ⟨g, 8, none⟩ = some (.slice ac nc cc) ∧ w'.cell? ⟨g4, 0, none⟩ = some (.int .i64 3) ∧ w'.cell? ⟨g4, 1, none⟩ = some (.int .i64 a) ∧ w'.cell? ⟨g4, 2, none⟩ = some (.int .i64 b) ∧ w'.cell? ⟨g4, 3, none⟩ = some (.int .i64 c) ∧ w'.cell? ⟨g4, 4, none⟩ = some (.int .i64 d)) (by kernel_rfl) ?_
       change wpAnyH _ _ _ _ _ _ _ _ (World.drew w4)
       have KX := Lib.hid (both (boxOn HG4.out HBX.out) (boxOn H4.out HBX.out))
       refine wpAnyH_take (i := 0) (oi := ⟨some 62, _, _, _, _, _⟩) (v := ?_) rfl (by kernel_rfl) (by kernel_rfl) (by kernel_rfl) (fun _ _ _ h => h) (Or.inl ⟨by rfl, ?_⟩) KX.out ?_; rotate_left; · intro w hSw; (try dsimp only at hSw); go_simp; try with_reducible rfl
       try simp only [Act.put, sx1, sx2, sx3]
       refine wpAnyH_take (i := 1) (oi := ⟨some 63, _, _, _, _, _⟩) (v := ?_) rfl (by kernel_rfl) (by kernel_rfl) (by kernel_rfl) (fun _ _ _ h => h) (Or.inl ⟨by rfl, ?_⟩) KX.out ?_; rotate_left; · intro w hSw; (try dsimp only at hSw); go_simp; try with_reducible rfl
       try simp only [Act.put, sx1, sx2, sx3]
       refine wpAnyH_take (i := 2) (oi := ⟨some 64, _, _, _, _, _⟩) (v := ?_) rfl (by kernel_rfl) (by kernel_rfl) (by kernel_rfl) (fun _ _ _ h => h) (Or.inl ⟨by rfl, ?_⟩) KX.out ?_; rotate_left; · intro w hSw; (try dsimp only at hSw); go_simp; try with_reducible rfl
       try simp only [Act.put, sx1, sx2, sx3]
       refine wpAnyH_take (i := 3) (oi := ⟨some 65, _, _, _, _, _⟩) (v := ?_) rfl (by kernel_rfl) (by kernel_rfl) (by kernel_rfl) (fun _ _ _ h => h) (Or.inl ⟨by rfl, ?_⟩) KX.out ?_; rotate_left; · intro w hSw; (try dsimp only at hSw); go_simp; try with_reducible rfl
       try simp only [Act.put, sx1, sx2, sx3]
       refine wpAnyH_take (i := 4) (oi := ⟨some 66, _, _, _, _, _⟩) (v := ?_) rfl (by kernel_rfl) (by kernel_rfl) (by kernel_rfl) (fun _ _ _ h => h) (Or.inl ⟨by rfl, ?_⟩) KX.out ?_; rotate_left; · intro w hSw; (try dsimp only at hSw); go_simp; try with_reducible rfl
       try simp only [Act.put, sx1, sx2, sx3]
       refine wpAnyH_take (i := 5) (oi := ⟨some 67, _, _, _, _, _⟩) (v := ?_) rfl (by kernel_rfl) (by kernel_rfl) (by kernel_rfl) (fun _ _ _ h => h) (Or.inl ⟨by rfl, ?_⟩) KX.out ?_; rotate_left; · intro w hSw; (try dsimp only at hSw); go_simp; try with_reducible rfl
       try simp only [Act.put, sx1, sx2, sx3]
       refine wpAnyH_take (i := 6) (oi := ⟨some 68, _, _, _, _, _⟩) (v := ?_) rfl (by kernel_rfl) (by kernel_rfl) (by kernel_rfl) (fun _ _ _ h => h) (Or.inl ⟨by rfl, ?_⟩) KX.out ?_; rotate_left; · intro w hSw; (try dsimp only at hSw); go_simp; try with_reducible rfl
       try simp only [Act.put, sx1, sx2, sx3]
       refine wpAnyH_take (i := 7) (oi := ⟨some 69, _, _, _, _, _⟩) (v := ?_) rfl (by kernel_rfl) (by kernel_rfl) (by kernel_rfl) (fun _ _ _ h => h) (Or.inl ⟨by rfl, ?_⟩) KX.out ?_; rotate_left; · intro w hSw; (try dsimp only at hSw); go_simp; try with_reducible rfl
       try simp only [Act.put, sx1, sx2, sx3]
       refine wpAnyH_take (i := 8) (oi := ⟨some 70, _, _, _, _, _⟩) (v := ?_) rfl (by kernel_rfl) (by kernel_rfl) (by kernel_rfl) (fun _ _ _ h => h) (Or.inl ⟨by rfl, ?_⟩) KX.out ?_; rotate_left; · intro w hSw; (try dsimp only at hSw); go_simp; try with_reducible rfl
       try simp only [Act.put, sx1, sx2, sx3]
       refine wpAnyH_take (i := 9) (oi := ⟨some 71, _, _, _, _, _⟩) (v := ?_) rfl (by kernel_rfl) (by kernel_rfl) (by kernel_rfl) (fun _ _ _ h => h) (Or.inl ⟨by rfl, ?_⟩) KX.out ?_; rotate_left; · intro w hSw; (try dsimp only at hSw); go_simp; try with_reducible rfl
       try simp only [Act.put, sx1, sx2, sx3]
       refine wpAnyH_take (i := 10) (oi := ⟨some 72, _, _, _, _, _⟩) (v := ?_) rfl (by kernel_rfl) (by kernel_rfl) (by kernel_rfl) (fun _ _ _ h => h) (Or.inl ⟨by rfl, ?_⟩) KX.out ?_; rotate_left; · intro w hSw; (try dsimp only at hSw); go_simp; try with_reducible rfl
       try simp only [Act.put, sx1, sx2, sx3]
       refine wpAnyH_take (i := 11) (oi := ⟨some 73, _, _, _, _, _⟩) (v := ?_) rfl (by kernel_rfl) (by kernel_rfl) (by kernel_rfl) (fun _ _ _ h => h) (Or.inl ⟨by rfl, ?_⟩) KX.out ?_; rotate_left; · intro w hSw; (try dsimp only at hSw); go_simp; try with_reducible rfl
       try simp only [Act.put, sx1, sx2, sx3]
       refine wpAnyH_take (i := 12) (oi := ⟨some 74, _, _, _, _, _⟩) (v := ?_) rfl (by kernel_rfl) (by kernel_rfl) (by kernel_rfl) (fun _ _ _ h => h) (Or.inl ⟨by rfl, ?_⟩) KX.out ?_; rotate_left; · intro w hSw; (try dsimp only at hSw); go_simp; try with_reducible rfl
       try simp only [Act.put, sx1, sx2, sx3]
       refine wpAnyH_take (i := 13) (oi := ⟨some 75, _, _, _, _, _⟩) (v := undef) rfl (by kernel_rfl) (by kernel_rfl) (by kernel_rfl) (fun _ _ _ h => h) (Or.inr ⟨by rfl, rfl⟩) KX.out ?_; try simp only [Act.put, sx1, sx2, sx3]
       refine wpAnyH_take (i := 14) (oi := ⟨some 76, _, _, _, _, _⟩) (v := undef) rfl (by kernel_rfl) (by kernel_rfl) (by kernel_rfl) (fun _ _ _ h => h) (Or.inr ⟨by rfl, rfl⟩) KX.out ?_; try simp only [Act.put, sx1, sx2, sx3]
       refine wpAnyH_take (i := 15) (oi := ⟨some 77, _, _, _, _, _⟩) (v := undef) rfl (by kernel_rfl) (by kernel_rfl) (by kernel_rfl) (fun _ _ _ h => h) (Or.inr ⟨by rfl, rfl⟩) KX.out ?_; try simp only [Act.put, sx1, sx2, sx3]
       refine wpAnyH_take (i := 16) (oi := ⟨some 78, _, _, _, _, _⟩) (v := undef) rfl (by kernel_rfl) (by kernel_rfl) (by kernel_rfl) (fun _ _ _ h => h) (Or.inr ⟨by rfl, rfl⟩) KX.out ?_; try simp only [Act.put, sx1, sx2, sx3]
       refine wpAnyH_take (i := 17) (oi := ⟨some 79, _, _, _, _, _⟩) (v := ?_) rfl (by kernel_rfl) (by kernel_rfl) (by kernel_rfl) (fun _ _ _ h => h) (Or.inl ⟨by rfl, ?_⟩) KX.out ?_; rotate_left; · intro w hSw; (try dsimp only at hSw); go_simp; try with_reducible rfl
       try simp only [Act.put, sx1, sx2, sx3]
       refine wpAnyH_take (i := 18) (oi := ⟨some 80, _, _, _, _, _⟩) (v := ?_) rfl (by kernel_rfl) (by kernel_rfl) (by kernel_rfl) (fun _ _ _ h => h) (Or.inl ⟨by rfl, ?_⟩) KX.out ?_; rotate_left; · intro w hSw; (try dsimp only at hSw); go_simp; try with_reducible rfl
       try simp only [Act.put, sx1, sx2, sx3]
       refine wpAnyH_take (i := 19) (oi := ⟨some 81, _, _, _, _, _⟩) (v := undef) rfl (by kernel_rfl) (by kernel_rfl) (by kernel_rfl) (fun _ _ _ h => h) (Or.inr ⟨by rfl, rfl⟩) KX.out ?_; try simp only [Act.put, sx1, sx2, sx3]
       refine wpAnyH_take (i := 20) (oi := ⟨some 82, _, _, _, _, _⟩) (v := undef) rfl (by kernel_rfl) (by kernel_rfl) (by kernel_rfl) (fun _ _ _ h => h) (Or.inr ⟨by rfl, rfl⟩) KX.out ?_; try simp only [Act.put, sx1, sx2, sx3]
       refine wpAnyH_take (i := 21) (oi := ⟨some 83, _, _, _, _, _⟩) (v := undef) rfl (by kernel_rfl) (by kernel_rfl) (by kernel_rfl) (fun _ _ _ h => h) (Or.inr ⟨by rfl, rfl⟩) KX.out ?_; try simp only [Act.put, sx1, sx2, sx3]
       refine wpAnyH_take (i := 22) (oi := ⟨some 84, _, _, _, _, _⟩) (v := undef) rfl (by kernel_rfl) (by kernel_rfl) (by kernel_rfl) (fun _ _ _ h => h) (Or.inr ⟨by rfl, rfl⟩) KX.out ?_; try simp only [Act.put, sx1, sx2, sx3]
       refine wpAnyH_take (i := 23) (oi := ⟨some 85, _, _, _, _, _⟩) (v := ?_) rfl (by kernel_rfl) (by kernel_rfl) (by kernel_rfl) (fun _ _ _ h => h) (Or.inl ⟨by rfl, ?_⟩) KX.out ?_; rotate_left; · intro w hSw; (try dsimp only at hSw); go_simp; try with_reducible rfl
       try simp only [Act.put, sx1, sx2, sx3]
       refine wpAnyH_take (i := 24) (oi := ⟨some 86, _, _, _, _, _⟩) (v := ?_) rfl (by kernel_rfl) (by kernel_rfl) (by kernel_rfl) (fun _ _ _ h => h) (Or.inl ⟨by rfl, ?_⟩) KX.out ?_; rotate_left; · intro w hSw; (try dsimp only at hSw); go_simp; try with_reducible rfl
       try simp only [Act.put, sx1, sx2, sx3]
       refine wpAnyH_take (i := 25) (oi := ⟨some 87, _, _, _, _, _⟩) (v := ?_) rfl (by kernel_rfl) (by kernel_rfl) (by kernel_rfl) (fun _ _ _ h => h) (Or.inl ⟨by rfl, ?_⟩) KX.out ?_; rotate_left; · intro w hSw; (try dsimp only at hSw); go_simp; try with_reducible rfl
       try simp only [Act.put, sx1, sx2, sx3]
       refine wpAnyH_take (i := 26) (oi := ⟨some 88, _, _, _, _, _⟩) (v := ?_) rfl (by kernel_rfl) (by kernel_rfl) (by kernel_rfl) (fun _ _ _ h => h) (Or.inl ⟨by rfl, ?_⟩) KX.out ?_; rotate_left; · intro w hSw; (try dsimp only at hSw); go_simp; try with_reducible rfl
       try simp only [Act.put, sx1, sx2, sx3]
       refine wpAnyH_take (i := 27) (oi := ⟨some 89, _, _, _, _, _⟩) (v := ?_) rfl (by kernel_rfl) (by kernel_rfl) (by kernel_rfl) (fun _ _ _ h => h) (Or.inl ⟨by rfl, ?_⟩) KX.out ?_; rotate_left; · intro w hSw; (try dsimp only at hSw); go_simp; try with_reducible rfl
       try simp only [Act.put, sx1, sx2, sx3]
       refine wpAnyH_take (i := 28) (oi := ⟨some 90, _, _, _, _, _⟩) (v := ?_) rfl (by kernel_rfl) (by kernel_rfl) (by kernel_rfl) (fun _ _ _ h => h) (Or.inl ⟨by rfl, ?_⟩) KX.out ?_; rotate_left; · intro w hSw; (try dsimp only at hSw); go_simp; try with_reducible rfl
       try simp only [Act.put, sx1, sx2, sx3]
       refine wpAnyH_take (i := 29) (oi := ⟨some 91, _, _, _, _, _⟩) (v := ?_) rfl (by kernel_rfl) (by kernel_rfl) (by kernel_rfl) (fun _ _ _ h => h) (Or.inl ⟨by rfl, ?_⟩) KX.out ?_; rotate_left; · intro w hSw; (try dsimp only at hSw); go_simp; try with_reducible rfl
       try simp only [Act.put, sx1, sx2, sx3]
       refine wpAnyH_take (i := 30) (oi := ⟨some 92, _, _, _, _, _⟩) (v := undef) rfl (by kernel_rfl) (by kernel_rfl) (by kernel_rfl) (fun _ _ _ h => h) (Or.inr ⟨by rfl, rfl⟩) KX.out ?_; try simp only [Act.put, sx1, sx2, sx3]
       refine wpAnyH_take (i := 31) (oi := ⟨some 93, _, _, _, _, _⟩) (v := undef) rfl (by kernel_rfl) (by kernel_rfl) (by kernel_rfl) (fun _ _ _ h => h) (Or.inr ⟨by rfl, rfl⟩) KX.out ?_; try simp only [Act.put, sx1, sx2, sx3]
       refine wpAnyH_take (i := 32) (oi := ⟨some 94, _, _, _, _, _⟩) (v := undef) rfl (by kernel_rfl) (by kernel_rfl) (by kernel_rfl) (fun _ _ _ h => h) (Or.inr ⟨by rfl, rfl⟩) KX.out ?_; try simp only [Act.put, sx1, sx2, sx3]
       refine wpAnyH_take (i := 33) (oi := ⟨some 95, _, _, _, _, _⟩) (v := undef) rfl (by kernel_rfl) (by kernel_rfl) (by kernel_rfl) (fun _ _ _ h => h) (Or.inr ⟨by rfl, rfl⟩) KX.out ?_; try simp only [Act.put, sx1, sx2, sx3]
       refine wpAnyH_take (i := 34) (oi := ⟨some 96, _, _, _, _, _⟩) (v := undef) rfl (by kernel_rfl) (by kernel_rfl) (by kernel_rfl) (fun _ _ _ h => h) (Or.inr ⟨by rfl, rfl⟩) KX.out ?_; try simp only [Act.put, sx1, sx2, sx3]
       refine wpAnyH_take (i := 35) (oi := ⟨some 97, _, _, _, _, _⟩) (v := undef) rfl (by kernel_rfl) (by kernel_rfl) (by kernel_rfl) (fun _ _ _ h => h) (Or.inr ⟨by rfl, rfl⟩) KX.out ?_; try simp only [Act.put, sx1, sx2, sx3]
       refine wpAnyH_take (i := 36) (oi := ⟨some 98, _, _, _, _, _⟩) (v := undef) rfl (by kernel_rfl) (by kernel_rfl) (by kernel_rfl) (fun _ _ _ h => h) (Or.inr ⟨by rfl, rfl⟩) KX.out ?_; try simp only [Act.put, sx1, sx2, sx3]
       refine wpAnyH_take (i := 37) (oi := ⟨some 99, _, _, _, _, _⟩) (v := ?_) rfl (by kernel_rfl) (by kernel_rfl) (by kernel_rfl) (fun _ _ _ h => h) (Or.inl ⟨by rfl, ?_⟩) KX.out ?_; rotate_left; · intro w hSw; (try dsimp only at hSw); go_simp; try with_reducible rfl
       try simp only [Act.put, sx1, sx2, sx3]
       refine wpAnyH_take (i := 38) (oi := ⟨some 100, _, _, _, _, _⟩) (v := ?_) rfl (by kernel_rfl) (by kernel_rfl) (by kernel_rfl) (fun _ _ _ h => h) (Or.inl ⟨by rfl, ?_⟩) KX.out ?_; rotate_left; · intro w hSw; (try dsimp only at hSw); go_simp; try with_reducible rfl
       try simp only [Act.put, sx1, sx2, sx3]
       refine wpAnyH_take (i := 39) (oi := ⟨some 101, _, _, _, _, _⟩) (v := ?_) rfl (by kernel_rfl) (by kernel_rfl) (by kernel_rfl) (fun _ _ _ h => h) (Or.inl ⟨by rfl, ?_⟩) KX.out ?_; rotate_left; · intro w hSw; (try dsimp only at hSw); go_simp; try with_reducible rfl
       try simp only [Act.put, sx1, sx2, sx3]
       refine wpAnyH_take (i := 40) (oi := ⟨some 102, _, _, _, _, _⟩) (v := ?_) rfl (by kernel_rfl) (by kernel_rfl) (by kernel_rfl) (fun _ _ _ h => h) (Or.inl ⟨by rfl, ?_⟩) KX.out ?_; rotate_left; · intro w hSw; (try dsimp only at hSw); go_simp; try with_reducible rfl
       try simp only [Act.put, sx1, sx2, sx3]
       refine wpAnyH_take (i := 41) (oi := ⟨some 103, _, _, _, _, _⟩) (v := ?_) rfl (by kernel_rfl) (by kernel_rfl) (by kernel_rfl) (fun _ _ _ h => h) (Or.inl ⟨by rfl, ?_⟩) KX.out ?_; rotate_left; · intro w hSw; (try dsimp only at hSw); go_simp; try with_reducible rfl
       try simp only [Act.put, sx1, sx2, sx3]
       refine wpAnyH_take (i := 42) (oi := ⟨some 104, _, _, _, _, _⟩) (v := ?_) rfl (by kernel_rfl) (by kernel_rfl) (by kernel_rfl) (fun _ _ _ h => h) (Or.inl ⟨by rfl, ?_⟩) KX.out ?_; rotate_left; · intro w hSw; (try dsimp only at hSw); go_simp; try with_reducible rfl
       try simp only [Act.put, sx1, sx2, sx3]
       refine wpAnyH_take (i := 43) (oi := ⟨some 105, _, _, _, _, _⟩) (v := ?_) rfl (by kernel_rfl) (by kernel_rfl) (by kernel_rfl) (fun _ _ _ h => h) (Or.inl ⟨by rfl, ?_⟩) KX.out ?_; rotate_left; · intro w hSw; (try dsimp only at hSw); go_simp; try with_reducible rfl
       try simp only [Act.put, sx1, sx2, sx3]
       refine wpAnyH_take (i := 44) (oi := ⟨some 106, _, _, _, _, _⟩) (v := ?_) rfl (by kernel_rfl) (by kernel_rfl) (by kernel_rfl) (fun _ _ _ h => h) (Or.inl ⟨by rfl, ?_⟩) KX.out ?_; rotate_left; · intro w hSw; (try dsimp only at hSw); go_simp; try with_reducible rfl
       try simp only [Act.put, sx1, sx2, sx3]
       refine wpAnyH_take (i := 45) (oi := ⟨some 107, _, _, _, _, _⟩) (v := ?_) rfl (by kernel_rfl) (by kernel_rfl) (by kernel_rfl) (fun _ _ _ h => h) (Or.inl ⟨by rfl, ?_⟩) KX.out ?_; rotate_left; · intro w hSw; (try dsimp only at hSw); go_simp; try with_reducible rfl
       try simp only [Act.put, sx1, sx2, sx3]
       refine wpAnyH_take (i := 46) (oi := ⟨some 108, _, _, _, _, _⟩) (v := ?_) rfl (by kernel_rfl) (by kernel_rfl) (by kernel_rfl) (fun _ _ _ h => h) (Or.inl ⟨by rfl, ?_⟩) KX.out ?_; rotate_left; · intro w hSw; (try dsimp only at hSw); go_simp; try with_reducible rfl
       try simp only [Act.put, sx1, sx2, sx3]
       refine wpAnyH_take (i := 47) (oi := ⟨some 109, _, _, _, _, _⟩) (v := ?_) rfl (by kernel_rfl) (by kernel_rfl) (by kernel_rfl) (fun _ _ _ h => h) (Or.inl ⟨by rfl, ?_⟩) KX.out ?_; rotate_left; · intro w hSw; (try dsimp only at hSw); go_simp; try with_reducible rfl
       try simp only [Act.put, sx1, sx2, sx3]
       refine wpAnyH_take (i := 48) (oi := ⟨some 110, _, _, _, _, _⟩) (v := ?_) rfl (by kernel_rfl) (by kernel_rfl) (by kernel_rfl) (fun _ _ _ h => h) (Or.inl ⟨by rfl, ?_⟩) KX.out ?_; rotate_left; · intro w hSw; (try dsimp only at hSw); go_simp; try with_reducible rfl
       try simp only [Act.put, sx1, sx2, sx3]
       refine wpAnyH_ready (rs := [49]) (by kernel_rfl) (by simp) ?_
       refine AllReadyH.cons rfl (fun K hK => ?_) ?_
       rotate_left
       ·exact AllReadyH.nil
       go_simp
       go_at_call 45
       refine (CW.out _).mono ?_
       rintro e wz ⟨rfl, hwz⟩
       subst wz
       go_wp2_with fail
       refine hK.out _ _ KX.out (fun hHeld => ?_)
       clear hK K hHeld
       try simp only [Act.put, sx1, sx2, sx3]
       refine wpAnyH_take (i := 50) (oi := ⟨some 112, _, _, _, _, _⟩) (v := ?_) rfl (by kernel_rfl) (by kernel_rfl) (by kernel_rfl) (fun _ _ _ h => h) (Or.inl ⟨by rfl, ?_⟩) KX.out ?_; rotate_left; · intro w hSw; (try dsimp only at hSw); go_simp; try with_reducible rfl
       try simp only [Act.put, sx1, sx2, sx3]
       refine wpAnyH_take (i := 51) (oi := ⟨some 113, _, _, _, _, _⟩) (v := ?_) rfl (by kernel_rfl) (by kernel_rfl) (by kernel_rfl) (fun _ _ _ h => h) (Or.inl ⟨by rfl, ?_⟩) KX.out ?_; rotate_left; · intro w hSw; (try dsimp only at hSw); go_simp; try with_reducible rfl
       try simp only [Act.put, sx1, sx2, sx3]
       refine wpAnyH_take (i := 52) (oi := ⟨some 114, _, _, _, _, _⟩) (v := ?_) rfl (by kernel_rfl) (by kernel_rfl) (by kernel_rfl) (fun _ _ _ h => h) (Or.inl ⟨by rfl, ?_⟩) KX.out ?_; rotate_left; · intro w hSw; (try dsimp only at hSw); go_simp; try with_reducible rfl
       try simp only [Act.put, sx1, sx2, sx3]
       refine wpAnyH_take (i := 53) (oi := ⟨some 115, _, _, _, _, _⟩) (v := ?_) rfl (by kernel_rfl) (by kernel_rfl) (by kernel_rfl) (fun _ _ _ h => h) (Or.inl ⟨by rfl, ?_⟩) KX.out ?_; rotate_left; · intro w hSw; (try dsimp only at hSw); go_simp; try with_reducible rfl
       try simp only [Act.put, sx1, sx2, sx3]
       refine wpAnyH_take (i := 54) (oi := ⟨some 116, _, _, _, _, _⟩) (v := undef) rfl (by kernel_rfl) (by kernel_rfl) (by kernel_rfl) (fun _ _ _ h => h) (Or.inr ⟨by rfl, rfl⟩) KX.out ?_; try simp only [Act.put, sx1, sx2, sx3]
       refine wpAnyH_take (i := 55) (oi := ⟨some 117, _, _, _, _, _⟩) (v := undef) rfl (by kernel_rfl) (by kernel_rfl) (by kernel_rfl) (fun _ _ _ h => h) (Or.inr ⟨by rfl, rfl⟩) KX.out ?_; try simp only [Act.put, sx1, sx2, sx3]
       refine wpAnyH_take (i := 56) (oi := ⟨some 118, _, _, _, _, _⟩) (v := undef) rfl (by kernel_rfl) (by kernel_rfl) (by kernel_rfl) (fun _ _ _ h => h) (Or.inr ⟨by rfl, rfl⟩) KX.out ?_; try simp only [Act.put, sx1, sx2, sx3]
       refine wpAnyH_take (i := 57) (oi := ⟨some 119, _, _, _, _, _⟩) (v := undef) rfl (by kernel_rfl) (by kernel_rfl) (by kernel_rfl) (fun _ _ _ h => h) (Or.inr ⟨by rfl, rfl⟩) KX.out ?_; try simp only [Act.put, sx1, sx2, sx3]
       refine wpAnyH_take (i := 58) (oi := ⟨some 120, _, _, _, _, _⟩) (v := undef) rfl (by kernel_rfl) (by kernel_rfl) (by kernel_rfl) (fun _ _ _ h => h) (Or.inr ⟨by rfl, rfl⟩) KX.out ?_; try simp only [Act.put, sx1, sx2, sx3]
       refine wpAnyH_take (i := 59) (oi := ⟨some 121, _, _, _, _, _⟩) (v := undef) rfl (by kernel_rfl) (by kernel_rfl) (by kernel_rfl) (fun _ _ _ h => h) (Or.inr ⟨by rfl, rfl⟩) KX.out ?_; try simp only [Act.put, sx1, sx2, sx3]
       refine wpAnyH_take (i := 60) (oi := ⟨some 122, _, _, _, _, _⟩) (v := ?_) rfl (by kernel_rfl) (by kernel_rfl) (by kernel_rfl) (fun _ _ _ h => h) (Or.inl ⟨by rfl, ?_⟩) KX.out ?_; rotate_left; · intro w hSw; (try dsimp only at hSw); go_simp; try with_reducible rfl
       try simp only [Act.put, sx1, sx2, sx3]
       refine wpAnyH_done (by kernel_rfl) ?_ _
       first | go_meet | (go_wp2_with fail; go_meet)
       exact ⟨rfl, HBX⟩
    have n3 : (op == 3) = false := by rw [beq_eq_false_iff_ne]; exact o3
    have e : b1 = true := by rw [← HB1.out]; exact HW1.out op a b c d (by omega) (by omega) o2 o3 o4
    subst e
    clear o1 o12 o2 o3 o4
    as_aux_lemma =>
     refine wp_region_held (S := fun w' => w'.cell? ⟨g, 0, none⟩ = some (.int .i64 st) ∧ w'.cell? ⟨g, 1, none⟩ = some (.int .i64 sl) ∧ w'.cell? ⟨g, 2, none⟩ = some (.int .i64 bks) ∧ w'.cell? ⟨g, 3, none⟩ = some (.int .i64 gr) ∧ w'.cell? ⟨g, 4, none⟩ = some (.int .i64 gb) ∧ w'.cell? ⟨g, 5, none⟩ = some (.slice (some ad) m ci) ∧ w'.cell? ⟨g, 6, none⟩ = some (.slice ao no co) ∧ w'.cell? ⟨g, 7, none⟩ = some (.int .i64 la) ∧ w'.cell? ⟨g, 8, none⟩ = some (.slice ac nc cc) ∧ w'.cell? ⟨g4, 0, none⟩ = some (.int .i64 op) ∧ w'.cell? ⟨g4, 1, none⟩ = some (.int .i64 a) ∧ w'.cell? ⟨g4, 2, none⟩ = some (.int .i64 b) ∧ w'.cell? ⟨g4, 3, none⟩ = some (.int .i64 c) ∧ w'.cell? ⟨g4, 4, none⟩ = some (.int .i64 d)) (by kernel_rfl) ?_
     change wpAnyH _ _ _ _ _ _ _ _ (World.drew w4)
     have KX := Lib.hid (both (boxOn HG4.out HBX.out) (boxOn H4.out HBX.out))
     refine wpAnyH_take (i := 0) (oi := ⟨some 62, _, _, _, _, _⟩) (v := ?_) rfl (by kernel_rfl) (by kernel_rfl) (by kernel_rfl) (fun _ _ _ h => h) (Or.inl ⟨by rfl, ?_⟩) KX.out ?_; rotate_left; · intro w hSw; (try dsimp only at hSw); go_simp; try with_reducible rfl
     try simp only [Act.put, sx1, sx2, sx3]
     refine wpAnyH_take (i := 1) (oi := ⟨some 63, _, _, _, _, _⟩) (v := ?_) rfl (by kernel_rfl) (by kernel_rfl) (by kernel_rfl) (fun _ _ _ h => h) (Or.inl ⟨by rfl, ?_⟩) KX.out ?_; rotate_left; · intro w hSw; (try dsimp only at hSw); go_simp; try with_reducible rfl
     try simp only [Act.put, sx1, sx2, sx3]
     refine wpAnyH_take (i := 2) (oi := ⟨some 64, _, _, _, _, _⟩) (v := ?_) rfl (by kernel_rfl) (by kernel_rfl) (by kernel_rfl) (fun _ _ _ h => h) (Or.inl ⟨by rfl, ?_⟩) KX.out ?_; rotate_left; · intro w hSw; (try dsimp only at hSw); go_simp; try with_reducible rfl
     try simp only [Act.put, sx1, sx2, sx3]
     refine wpAnyH_take (i := 3) (oi := ⟨some 65, _, _, _, _, _⟩) (v := ?_) rfl (by kernel_rfl) (by kernel_rfl) (by kernel_rfl) (fun _ _ _ h => h) (Or.inl ⟨by rfl, ?_⟩) KX.out ?_; rotate_left; · intro w hSw; (try dsimp only at hSw); go_simp; try with_reducible rfl
     try simp only [Act.put, sx1, sx2, sx3]
     refine wpAnyH_take (i := 4) (oi := ⟨some 66, _, _, _, _, _⟩) (v := ?_) rfl (by kernel_rfl) (by kernel_rfl) (by kernel_rfl) (fun _ _ _ h => h) (Or.inl ⟨by rfl, ?_⟩) KX.out ?_; rotate_left; · intro w hSw; (try dsimp only at hSw); go_simp; try with_reducible rfl
     try simp only [Act.put, sx1, sx2, sx3]
     refine wpAnyH_take (i := 5) (oi := ⟨some 67, _, _, _, _, _⟩) (v := ?_) rfl (by kernel_rfl) (by kernel_rfl) (by kernel_rfl) (fun _ _ _ h => h) (Or.inl ⟨by rfl, ?_⟩) KX.out ?_; rotate_left; · intro w hSw; (try dsimp only at hSw); go_simp; try with_reducible rfl
     try simp only [Act.put, sx1, sx2, sx3]
     refine wpAnyH_take (i := 6) (oi := ⟨some 68, _, _, _, _, _⟩) (v := ?_) rfl (by kernel_rfl) (by kernel_rfl) (by kernel_rfl) (fun _ _ _ h => h) (Or.inl ⟨by rfl, ?_⟩) KX.out ?_; rotate_left; · intro w hSw; (try dsimp only at hSw); go_simp; try with_reducible rfl
     try simp only [Act.put, sx1, sx2, sx3]
     refine wpAnyH_take (i := 7) (oi := ⟨some 69, _, _, _, _, _⟩) (v := ?_) rfl (by kernel_rfl) (by kernel_rfl) (by kernel_rfl) (fun _ _ _ h => h) (Or.inl ⟨by rfl, ?_⟩) KX.out ?_; rotate_left; · intro w hSw; (try dsimp only at hSw); go_simp; try with_reducible rfl
     try simp only [Act.put, sx1, sx2, sx3]
     refine wpAnyH_take (i := 8) (oi := ⟨some 70, _, _, _, _, _⟩) (v := ?_) rfl (by kernel_rfl) (by kernel_rfl) (by kernel_rfl) (fun _ _ _ h => h) (Or.inl ⟨by rfl, ?_⟩) KX.out ?_; rotate_left; · intro w hSw; (try dsimp only at hSw); go_simp; try with_reducible rfl
     try simp only [Act.put, sx1, sx2, sx3]
     refine wpAnyH_take (i := 9) (oi := ⟨some 71, _, _, _, _, _⟩) (v := ?_) rfl (by kernel_rfl) (by kernel_rfl) (by kernel_rfl) (fun _ _ _ h => h) (Or.inl ⟨by rfl, ?_⟩) KX.out ?_; rotate_left; · intro w hSw; (try dsimp only at hSw); go_simp; try with_reducible rfl
     try simp only [Act.put, sx1, sx2, sx3]
     refine wpAnyH_take (i := 10) (oi := ⟨some 72, _, _, _, _, _⟩) (v := ?_) rfl (by kernel_rfl) (by kernel_rfl) (by kernel_rfl) (fun _ _ _ h => h) (Or.inl ⟨by rfl, ?_⟩) KX.out ?_; rotate_left; · intro w hSw; (try dsimp only at hSw); go_simp; try with_reducible rfl
     try simp only [Act.put, sx1, sx2, sx3]
     refine wpAnyH_take (i := 11) (oi := ⟨some 73, _, _, _, _, _⟩) (v := ?_) rfl (by kernel_rfl) (by kernel_rfl) (by kernel_rfl) (fun _ _ _ h => h) (Or.inl ⟨by rfl, ?_⟩) KX.out ?_; rotate_left; · intro w hSw; (try dsimp only at hSw); go_simp; try with_reducible rfl
     try simp only [Act.put, sx1, sx2, sx3]
     refine wpAnyH_take (i := 12) (oi := ⟨some 74, _, _, _, _, _⟩) (v := ?_) rfl (by kernel_rfl) (by kernel_rfl) (by kernel_rfl) (fun _ _ _ h => h) (Or.inl ⟨by rfl, ?_⟩) KX.out ?_; rotate_left; · intro w hSw; (try dsimp only at hSw); go_simp; try with_reducible rfl
     try simp only [Act.put, sx1, sx2, sx3]
     refine wpAnyH_take (i := 13) (oi := ⟨some 75, _, _, _, _, _⟩) (v := undef) rfl (by kernel_rfl) (by kernel_rfl) (by kernel_rfl) (fun _ _ _ h => h) (Or.inr ⟨by rfl, rfl⟩) KX.out ?_; try simp only [Act.put, sx1, sx2, sx3]
     refine wpAnyH_take (i := 14) (oi := ⟨some 76, _, _, _, _, _⟩) (v := undef) rfl (by kernel_rfl) (by kernel_rfl) (by kernel_rfl) (fun _ _ _ h => h) (Or.inr ⟨by rfl, rfl⟩) KX.out ?_; try simp only [Act.put, sx1, sx2, sx3]
     refine wpAnyH_take (i := 15) (oi := ⟨some 77, _, _, _, _, _⟩) (v := undef) rfl (by kernel_rfl) (by kernel_rfl) (by kernel_rfl) (fun _ _ _ h => h) (Or.inr ⟨by rfl, rfl⟩) KX.out ?_; try simp only [Act.put, sx1, sx2, sx3]
     refine wpAnyH_take (i := 16) (oi := ⟨some 78, _, _, _, _, _⟩) (v := undef) rfl (by kernel_rfl) (by kernel_rfl) (by kernel_rfl) (fun _ _ _ h => h) (Or.inr ⟨by rfl, rfl⟩) KX.out ?_; try simp only [Act.put, sx1, sx2, sx3]
     refine wpAnyH_take (i := 17) (oi := ⟨some 79, _, _, _, _, _⟩) (v := ?_) rfl (by kernel_rfl) (by kernel_rfl) (by kernel_rfl) (fun _ _ _ h => h) (Or.inl ⟨by rfl, ?_⟩) KX.out ?_; rotate_left; · intro w hSw; (try dsimp only at hSw); go_simp; try with_reducible rfl
     try simp only [Act.put, sx1, sx2, sx3]
     refine wpAnyH_take (i := 18) (oi := ⟨some 80, _, _, _, _, _⟩) (v := ?_) rfl (by kernel_rfl) (by kernel_rfl) (by kernel_rfl) (fun _ _ _ h => h) (Or.inl ⟨by rfl, ?_⟩) KX.out ?_; rotate_left; · intro w hSw; (try dsimp only at hSw); go_simp; try with_reducible rfl
     try simp only [Act.put, sx1, sx2, sx3]
     refine wpAnyH_take (i := 19) (oi := ⟨some 81, _, _, _, _, _⟩) (v := undef) rfl (by kernel_rfl) (by kernel_rfl) (by kernel_rfl) (fun _ _ _ h => h) (Or.inr ⟨by rfl, rfl⟩) KX.out ?_; try simp only [Act.put, sx1, sx2, sx3]
     refine wpAnyH_take (i := 20) (oi := ⟨some 82, _, _, _, _, _⟩) (v := undef) rfl (by kernel_rfl) (by kernel_rfl) (by kernel_rfl) (fun _ _ _ h => h) (Or.inr ⟨by rfl, rfl⟩) KX.out ?_; try simp only [Act.put, sx1, sx2, sx3]
     refine wpAnyH_take (i := 21) (oi := ⟨some 83, _, _, _, _, _⟩) (v := undef) rfl (by kernel_rfl) (by kernel_rfl) (by kernel_rfl) (fun _ _ _ h => h) (Or.inr ⟨by rfl, rfl⟩) KX.out ?_; try simp only [Act.put, sx1, sx2, sx3]
     refine wpAnyH_take (i := 22) (oi := ⟨some 84, _, _, _, _, _⟩) (v := undef) rfl (by kernel_rfl) (by kernel_rfl) (by kernel_rfl) (fun _ _ _ h => h) (Or.inr ⟨by rfl, rfl⟩) KX.out ?_; try simp only [Act.put, sx1, sx2, sx3]
     refine wpAnyH_take (i := 23) (oi := ⟨some 85, _, _, _, _, _⟩) (v := ?_) rfl (by kernel_rfl) (by kernel_rfl) (by kernel_rfl) (fun _ _ _ h => h) (Or.inl ⟨by rfl, ?_⟩) KX.out ?_; rotate_left; · intro w hSw; (try dsimp only at hSw); go_simp; try with_reducible rfl
     try simp only [Act.put, sx1, sx2, sx3]
     refine wpAnyH_take (i := 24) (oi := ⟨some 86, _, _, _, _, _⟩) (v := ?_) rfl (by kernel_rfl) (by kernel_rfl) (by kernel_rfl) (fun _ _ _ h => h) (Or.inl ⟨by rfl, ?_⟩) KX.out ?_; rotate_left; · intro w hSw; (try dsimp only at hSw); go_simp; try with_reducible rfl
     try simp only [Act.put, sx1, sx2, sx3]
     refine wpAnyH_take (i := 25) (oi := ⟨some 87, _, _, _, _, _⟩) (v := ?_) rfl (by kernel_rfl) (by kernel_rfl) (by kernel_rfl) (fun _ _ _ h => h) (Or.inl ⟨by rfl, ?_⟩) KX.out ?_; rotate_left; · intro w hSw; (try dsimp only at hSw); go_simp; try with_reducible rfl
     try simp only [Act.put, sx1, sx2, sx3]
     refine wpAnyH_take (i := 26) (oi := ⟨some 88, _, _, _, _, _⟩) (v := ?_) rfl (by kernel_rfl) (by kernel_rfl) (by kernel_rfl) (fun _ _ _ h => h) (Or.inl ⟨by rfl, ?_⟩) KX.out ?_; rotate_left; · intro w hSw; (try dsimp only at hSw); go_simp; try with_reducible rfl
     try simp only [Act.put, sx1, sx2, sx3]
     refine wpAnyH_take (i := 27) (oi := ⟨some 89, _, _, _, _, _⟩) (v := ?_) rfl (by kernel_rfl) (by kernel_rfl) (by kernel_rfl) (fun _ _ _ h => h) (Or.inl ⟨by rfl, ?_⟩) KX.out ?_; rotate_left; · intro w hSw; (try dsimp only at hSw); go_simp; try with_reducible rfl
     try simp only [Act.put, sx1, sx2, sx3]
     refine wpAnyH_take (i := 28) (oi := ⟨some 90, _, _, _, _, _⟩) (v := ?_) rfl (by kernel_rfl) (by kernel_rfl) (by kernel_rfl) (fun _ _ _ h => h) (Or.inl ⟨by rfl, ?_⟩) KX.out ?_; rotate_left; · intro w hSw; (try dsimp only at hSw); go_simp; try with_reducible rfl
     try simp only [Act.put, sx1, sx2, sx3]
     refine wpAnyH_take (i := 29) (oi := ⟨some 91, _, _, _, _, _⟩) (v := ?_) rfl (by kernel_rfl) (by kernel_rfl) (by kernel_rfl) (fun _ _ _ h => h) (Or.inl ⟨by rfl, ?_⟩) KX.out ?_; rotate_left; · intro w hSw; (try dsimp only at hSw); go_simp; try with_reducible rfl
     try simp only [Act.put, sx1, sx2, sx3]
     refine wpAnyH_take (i := 30) (oi := ⟨some 92, _, _, _, _, _⟩) (v := undef) rfl (by kernel_rfl) (by kernel_rfl) (by kernel_rfl) (fun _ _ _ h => h) (Or.inr ⟨by rfl, rfl⟩) KX.out ?_; try simp only [Act.put, sx1, sx2, sx3]
     refine wpAnyH_take (i := 31) (oi := ⟨some 93, _, _, _, _, _⟩) (v := undef) rfl (by kernel_rfl) (by kernel_rfl) (by kernel_rfl) (fun _ _ _ h => h) (Or.inr ⟨by rfl, rfl⟩) KX.out ?_; try simp only [Act.put, sx1, sx2, sx3]
     refine wpAnyH_take (i := 32) (oi := ⟨some 94, _, _, _, _, _⟩) (v := undef) rfl (by kernel_rfl) (by kernel_rfl) (by kernel_rfl) (fun _ _ _ h => h) (Or.inr ⟨by rfl, rfl⟩) KX.out ?_; try simp only [Act.put, sx1, sx2, sx3]
     refine wpAnyH_take (i := 33) (oi := ⟨some 95, _, _, _, _, _⟩) (v := undef) rfl (by kernel_rfl) (by kernel_rfl) (by kernel_rfl) (fun _ _ _ h => h) (Or.inr ⟨by rfl, rfl⟩) KX.out ?_; try simp only [Act.put, sx1, sx2, sx3]
     refine wpAnyH_take (i := 34) (oi := ⟨some 96, _, _, _, _, _⟩) (v := undef) rfl (by kernel_rfl) (by kernel_rfl) (by kernel_rfl) (fun _ _ _ h => h) (Or.inr ⟨by rfl, rfl⟩) KX.out ?_; try simp only [Act.put, sx1, sx2, sx3]
     refine wpAnyH_take (i := 35) (oi := ⟨some 97, _, _, _, _, _⟩) (v := undef) rfl (by kernel_rfl) (by kernel_rfl) (by kernel_rfl) (fun _ _ _ h => h) (Or.inr ⟨by rfl, rfl⟩) KX.out ?_; try simp only [Act.put, sx1, sx2, sx3]
     refine wpAnyH_take (i := 36) (oi := ⟨some 98, _, _, _, _, _⟩) (v := undef) rfl (by kernel_rfl) (by kernel_rfl) (by kernel_rfl) (fun _ _ _ h => h) (Or.inr ⟨by rfl, rfl⟩) KX.out ?_; try simp only [Act.put, sx1, sx2, sx3]
     refine wpAnyH_take (i := 37) (oi := ⟨some 99, _, _, _, _, _⟩) (v := ?_) rfl (by kernel_rfl) (by kernel_rfl) (by kernel_rfl) (fun _ _ _ h => h) (Or.inl ⟨by rfl, ?_⟩) KX.out ?_; rotate_left; · intro w hSw; (try dsimp only at hSw); go_simp; try with_reducible rfl
     try simp only [Act.put, sx1, sx2, sx3]
     refine wpAnyH_take (i := 38) (oi := ⟨some 100, _, _, _, _, _⟩) (v := ?_) rfl (by kernel_rfl) (by kernel_rfl) (by kernel_rfl) (fun _ _ _ h => h) (Or.inl ⟨by rfl, ?_⟩) KX.out ?_; rotate_left; · intro w hSw; (try dsimp only at hSw); go_simp; try with_reducible rfl
     try simp only [Act.put, sx1, sx2, sx3]
     refine wpAnyH_take (i := 39) (oi := ⟨some 101, _, _, _, _, _⟩) (v := ?_) rfl (by kernel_rfl) (by kernel_rfl) (by kernel_rfl) (fun _ _ _ h => h) (Or.inl ⟨by rfl, ?_⟩) KX.out ?_; rotate_left; · intro w hSw; (try dsimp only at hSw); go_simp; try with_reducible rfl
     try simp only [Act.put, sx1, sx2, sx3]
     refine wpAnyH_take (i := 40) (oi := ⟨some 102, _, _, _, _, _⟩) (v := ?_) rfl (by kernel_rfl) (by kernel_rfl) (by kernel_rfl) (fun _ _ _ h => h) (Or.inl ⟨by rfl, ?_⟩) KX.out ?_; rotate_left; · intro w hSw; (try dsimp only at hSw); go_simp; try with_reducible rfl
     try simp only [Act.put, sx1, sx2, sx3]
     refine wpAnyH_take (i := 41) (oi := ⟨some 103, _, _, _, _, _⟩) (v := ?_) rfl (by kernel_rfl) (by kernel_rfl) (by kernel_rfl) (fun _ _ _ h => h) (Or.inl ⟨by rfl, ?_⟩) KX.out ?_; rotate_left; · intro w hSw; (try dsimp only at hSw); go_simp; try with_reducible rfl
     try simp only [Act.put, sx1, sx2, sx3]
     refine wpAnyH_take (i := 42) (oi := ⟨some 104, _, _, _, _, _⟩) (v := ?_) rfl (by kernel_rfl) (by kernel_rfl) (by kernel_rfl) (fun _ _ _ h => h) (Or.inl ⟨by rfl, ?_⟩) KX.out ?_; rotate_left; · intro w hSw; (try dsimp only at hSw); go_simp; try with_reducible rfl
     try simp only [Act.put, sx1, sx2, sx3]
     refine wpAnyH_take (i := 43) (oi := ⟨some 105, _, _, _, _, _⟩) (v := ?_) rfl (by kernel_rfl) (by kernel_rfl) (by kernel_rfl) (fun _ _ _ h => h) (Or.inl ⟨by rfl, ?_⟩) KX.out ?_; rotate_left; · intro w hSw; (try dsimp only at hSw); go_simp; try with_reducible rfl
     try simp only [Act.put, sx1, sx2, sx3]
     refine wpAnyH_take (i := 44) (oi := ⟨some 106, _, _, _, _, _⟩) (v := undef) rfl (by kernel_rfl) (by kernel_rfl) (by kernel_rfl) (fun _ _ _ h => h) (Or.inr ⟨by rfl, rfl⟩) KX.out ?_; try simp only [Act.put, sx1, sx2, sx3]
     refine wpAnyH_take (i := 45) (oi := ⟨some 107, _, _, _, _, _⟩) (v := undef) rfl (by kernel_rfl) (by kernel_rfl) (by kernel_rfl) (fun _ _ _ h => h) (Or.inr ⟨by rfl, rfl⟩) KX.out ?_; try simp only [Act.put, sx1, sx2, sx3]
     refine wpAnyH_take (i := 46) (oi := ⟨some 108, _, _, _, _, _⟩) (v := undef) rfl (by kernel_rfl) (by kernel_rfl) (by kernel_rfl) (fun _ _ _ h => h) (Or.inr ⟨by rfl, rfl⟩) KX.out ?_; try simp only [Act.put, sx1, sx2, sx3]
     refine wpAnyH_take (i := 47) (oi := ⟨some 109, _, _, _, _, _⟩) (v := undef) rfl (by kernel_rfl) (by kernel_rfl) (by kernel_rfl) (fun _ _ _ h => h) (Or.inr ⟨by rfl, rfl⟩) KX.out ?_; try simp only [Act.put, sx1, sx2, sx3]
     refine wpAnyH_take (i := 48) (oi := ⟨some 110, _, _, _, _, _⟩) (v := undef) rfl (by kernel_rfl) (by kernel_rfl) (by kernel_rfl) (fun _ _ _ h => h) (Or.inr ⟨by rfl, rfl⟩) KX.out ?_; try simp only [Act.put, sx1, sx2, sx3]
     refine wpAnyH_take (i := 49) (oi := ⟨some 111, _, _, _, _, _⟩) (v := undef) rfl (by kernel_rfl) (by kernel_rfl) (by kernel_rfl) (fun _ _ _ h => h) (Or.inr ⟨by rfl, rfl⟩) KX.out ?_; try simp only [Act.put, sx1, sx2, sx3]
     refine wpAnyH_take (i := 50) (oi := ⟨some 112, _, _, _, _, _⟩) (v := undef) rfl (by kernel_rfl) (by kernel_rfl) (by kernel_rfl) (fun _ _ _ h => h) (Or.inr ⟨by rfl, rfl⟩) KX.out ?_; try simp only [Act.put, sx1, sx2, sx3]
     refine wpAnyH_take (i := 51) (oi := ⟨some 113, _, _, _, _, _⟩) (v := ?_) rfl (by kernel_rfl) (by kernel_rfl) (by kernel_rfl) (fun _ _ _ h => h) (Or.inl ⟨by rfl, ?_⟩) KX.out ?_; rotate_left; · intro w hSw; (try dsimp only at hSw); go_simp; try with_reducible rfl
     try simp only [Act.put, sx1, sx2, sx3]
     refine wpAnyH_take (i := 52) (oi := ⟨some 114, _, _, _, _, _⟩) (v := ?_) rfl (by kernel_rfl) (by kernel_rfl) (by kernel_rfl) (fun _ _ _ h => h) (Or.inl ⟨by rfl, ?_⟩) KX.out ?_; rotate_left; · intro w hSw; (try dsimp only at hSw); go_simp; try with_reducible rfl
     try simp only [Act.put, sx1, sx2, sx3]
     refine wpAnyH_take (i := 53) (oi := ⟨some 115, _, _, _, _, _⟩) (v := ?_) rfl (by kernel_rfl) (by kernel_rfl) (by kernel_rfl) (fun _ _ _ h => h) (Or.inl ⟨by rfl, ?_⟩) KX.out ?_; rotate_left; · intro w hSw; (try dsimp only at hSw); go_simp; try with_reducible rfl
     try simp only [Act.put, sx1, sx2, sx3]
     refine wpAnyH_take (i := 54) (oi := ⟨some 116, _, _, _, _, _⟩) (v := ?_) rfl (by kernel_rfl) (by kernel_rfl) (by kernel_rfl) (fun _ _ _ h => h) (Or.inl ⟨by rfl, ?_⟩) KX.out ?_; rotate_left; · intro w hSw; (try dsimp only at hSw); go_simp; try with_reducible rfl
     try simp only [Act.put, sx1, sx2, sx3]
     refine wpAnyH_take (i := 55) (oi := ⟨some 117, _, _, _, _, _⟩) (v := ?_) rfl (by kernel_rfl) (by kernel_rfl) (by kernel_rfl) (fun _ _ _ h => h) (Or.inl ⟨by rfl, ?_⟩) KX.out ?_; rotate_left; · intro w hSw; (try dsimp only at hSw); go_simp; try with_reducible rfl
     try simp only [Act.put, sx1, sx2, sx3]
     refine wpAnyH_take (i := 57) (oi := ⟨some 119, _, _, _, _, _⟩) (v := ?_) rfl (by kernel_rfl) (by kernel_rfl) (by kernel_rfl) (fun _ _ _ h => h) (Or.inl ⟨by rfl, ?_⟩) KX.out ?_; rotate_left; · intro w hSw; (try dsimp only at hSw); go_simp; try with_reducible rfl
     try simp only [Act.put, sx1, sx2, sx3]
     refine wpAnyH_ready (rs := [56]) (by kernel_rfl) (by simp) ?_
     refine AllReadyH.cons rfl (fun K hK => ?_) ?_
     rotate_left
     ·exact AllReadyH.nil
     go_simp
     go_at_call 22
     refine (CU.out _).mono ?_
     rintro e wn ⟨vu, rfl, hou, hb⟩
     have HVU := Lib.hid (Reads.of_owns hou)
     have HBX := Lib.hid (HBX.out.trans (hb.mono HBX.out.size))
     have KX := Lib.hid (both (boxOn HG4.out HBX.out) (boxOn H4.out HBX.out))
     clear hb hou
     go_wp2_with fail
     refine hK.out _ _ KX.out (fun hHeld => ?_)
     clear hK K hHeld
     try simp only [Act.put, sx1, sx2, sx3]
     refine wpAnyH_ready (rs := [58]) (by kernel_rfl) (by simp) ?_
     refine AllReadyH.cons rfl (fun K hK => ?_) ?_
     rotate_left
     ·exact AllReadyH.nil
     go_simp
     go_at_call 46
     refine (CK.out _ HBX.out vu HVU.out).mono ?_
     rintro e wn ⟨rfl, hb⟩
     have HBX := Lib.hid (HBX.out.trans (hb.mono HBX.out.size))
     have KX := Lib.hid (both (boxOn HG4.out HBX.out) (boxOn H4.out HBX.out))
     clear hb
     go_wp2_with fail
     refine hK.out _ _ KX.out (fun hHeld => ?_)
     clear hK K hHeld
     try simp only [Act.put, sx1, sx2, sx3]
     refine wpAnyH_take (i := 59) (oi := ⟨some 121, _, _, _, _, _⟩) (v := ?_) rfl (by kernel_rfl) (by kernel_rfl) (by kernel_rfl) (fun _ _ _ h => h) (Or.inl ⟨by rfl, ?_⟩) KX.out ?_; rotate_left; · intro w hSw; (try dsimp only at hSw); go_simp; try with_reducible rfl
     try simp only [Act.put, sx1, sx2, sx3]
     refine wpAnyH_take (i := 60) (oi := ⟨some 122, _, _, _, _, _⟩) (v := ?_) rfl (by kernel_rfl) (by kernel_rfl) (by kernel_rfl) (fun _ _ _ h => h) (Or.inl ⟨by rfl, ?_⟩) KX.out ?_; rotate_left; · intro w hSw; (try dsimp only at hSw); go_simp; try with_reducible rfl
     try simp only [Act.put, sx1, sx2, sx3]
     refine wpAnyH_done (by kernel_rfl) ?_ _
     cases b2
     all_goals
      first | go_meet | (go_wp2_with fail; go_meet)
      exact ⟨rfl, HBX⟩
   case rest =>
    obtain ⟨rfl, HBc⟩ := hcut
    have HBXc := Lib.hid (HBX4.out.trans (HBc.out.mono HBX4.out.size))
    have HBQc := Lib.hid (HBQ4.out.trans (HBc.out.mono HBQ4.out.size))
    have HGc := Lib.hid (boxOn HG4.out HBc.out)
    have HIc := Lib.hid (boxOn H4.out HBc.out)
    clear CU CK HBX
    cases hbb : (b1 && b2) with
    | false =>
     have HF := Lib.hid (show res = false by rw [← HSJ.out, hbb]; rfl)
     clear hbb
     go_wp2
     go_ret
     exact ⟨by rw [HF.out]; rfl, HBQc.out⟩
    | true =>
    have HP := Lib.hid (show ((outsL (op, a, b, c, d)).all (fun y => fl y (j : Int)) && (ff (j + 1) (ins.drop (j + 1)) && (outs.all fo && (rise 0 cells && en)))) = res by rw [← HSJ.out, hbb, Bool.true_and])
    have HLL := Lib.hid (outsL_len (op, a, b, c, d))
    generalize outsL (op, a, b, c, d) = lo at HP HLL CO
    have e0 : wc.cell? ⟨g4, 0, none⟩ = some (.int .i64 op) := whole_cell HIc.out rfl
    have e1 : wc.cell? ⟨g4, 1, none⟩ = some (.int .i64 a) := whole_cell HIc.out rfl
    have e2 : wc.cell? ⟨g4, 2, none⟩ = some (.int .i64 b) := whole_cell HIc.out rfl
    have e3 : wc.cell? ⟨g4, 3, none⟩ = some (.int .i64 c) := whole_cell HIc.out rfl
    have e4 : wc.cell? ⟨g4, 4, none⟩ = some (.int .i64 d) := whole_cell HIc.out rfl
    clear hbb HSJ
    go_wp2_with fail
    refine (CO.out _).mono ?_
    rintro e w5 ⟨vo, rfl, hoo, hb⟩
    have HBX5 := Lib.hid (HBXc.out.trans (hb.mono HBXc.out.size))
    have HVO := Lib.hid (Reads.of_owns hoo)
    obtain ⟨av, cv, rfl⟩ := reads_form HVO.out
    obtain ⟨n, hn⟩ : ∃ n, lo.length = n := ⟨_, rfl⟩
    have HN2 := Lib.hid hn
    have hn2 : n ≤ 2 := by rw [← hn]; exact HLL.out
    rw [hn] at HVO ⊢
    have HB45 := Lib.hid (HBc.out.trans (hb.mono HBc.out.size))
    clear hoo hb CO hn e0 e1 e2 e3 e4 HGc HIc HBXc HBQc
    go_wp2_with fail
    go_loopg [6] n (fun z i wr => ∃ q : Nat, z = n - q ∧ q ≤ n ∧ i = .int .i64 (q : Int) ∧ Hid (Below w5.heap.size w5 wr) ∧ Hid (((lo.drop q).all (fun y => fl y (j : Int)) && (ff (j + 1) (ins.drop (j + 1)) && (outs.all fo && (rise 0 cells && en)))) = res))
    case atStart => exact ⟨0, rfl, Nat.zero_le _, rfl, Lib.hid (Below.refl _ _), Lib.hid HP.out⟩
    case round =>
     obtain ⟨q, rfl, hq, rfl, HBS, HJ⟩ := hrel
     have HBX6 := Lib.hid (HBX5.out.trans (HBS.out.mono HBX5.out.size))
     have HBQ6 := Lib.hid (HB.out.trans (HBX6.out.mono HB.out.size))
     have HG6 := Lib.hid (boxOn HG.out HBX6.out)
     by_cases hlt : q < n
     ·obtain ⟨p, hp⟩ : ∃ p, lo[q]? = some p := ⟨_, List.getElem?_eq_getElem (by rw [HN2.out]; exact hlt)⟩
      have HSQ := Lib.hid (show (fl p (j : Int) && ((lo.drop (q + 1)).all (fun y => fl y (j : Int)) && (ff (j + 1) (ins.drop (j + 1)) && (outs.all fo && (rise 0 cells && en))))) = res by rw [← HJ.out, all_at (f := fun y => fl y (j : Int)) hp, Bool.and_assoc])
      obtain ⟨ad2, rfl, q0⟩ := Reads.at' (HVO.out.below HBS.out) hp
      have y0 : (0 : Int) ≤ (q : Int) := by omega
      have y1 : (q : Int) < (n : Int) := by omega
      have C := Lib.hid (fun wd (hb : Below wr.heap.size wr wd) => CL.out wd (HBX6.out.trans (hb.mono HBX6.out.size)) p j HK.out)
      obtain ⟨bb, hbb⟩ : ∃ bb, fl p (j : Int) = bb := ⟨_, rfl⟩
      rw [hbb] at C HSQ
      have HBX := Lib.hid (show Below wr.heap.size wr wr.drew from (Below.refl _ _).drew)
      have KX := Lib.hid (And.intro q0 (cells9 HG6.out))
      clear HJ hp hbb q0
      go_upto_region 13 with fail
      refine wp_region_held (S := fun w' => w'.cell? (ad2.add q) = some (.int .i64 p) ∧ w'.cell? ⟨g, 0, none⟩ = some (.int .i64 st) ∧ w'.cell? ⟨g, 1, none⟩ = some (.int .i64 sl) ∧ w'.cell? ⟨g, 2, none⟩ = some (.int .i64 bks) ∧ w'.cell? ⟨g, 3, none⟩ = some (.int .i64 gr) ∧ w'.cell? ⟨g, 4, none⟩ = some (.int .i64 gb) ∧ w'.cell? ⟨g, 5, none⟩ = some (.slice (some ad) m ci) ∧ w'.cell? ⟨g, 6, none⟩ = some (.slice ao no co) ∧ w'.cell? ⟨g, 7, none⟩ = some (.int .i64 la) ∧ w'.cell? ⟨g, 8, none⟩ = some (.slice ac nc cc)) (by kernel_rfl) ?_
      change wpAnyH _ _ _ _ _ _ _ _ (World.drew wr)
      refine wpAnyH_take (i := 0) (oi := ⟨some 131, _, _, _, _, _⟩) (v := ?_) rfl (by kernel_rfl) (by kernel_rfl) (by kernel_rfl) (fun _ _ _ h => h) (Or.inl ⟨by rfl, ?_⟩) KX.out ?_; rotate_left; · intro w hSw; (try dsimp only at hSw); go_simp; try with_reducible rfl
      try simp only [Act.put, sx1, sx2, sx3]
      refine wpAnyH_take (i := 1) (oi := ⟨some 132, _, _, _, _, _⟩) (v := ?_) rfl (by kernel_rfl) (by kernel_rfl) (by kernel_rfl) (fun _ _ _ h => h) (Or.inl ⟨by rfl, ?_⟩) KX.out ?_; rotate_left; · intro w hSw; (try dsimp only at hSw); go_simp; try with_reducible rfl
      try simp only [Act.put, sx1, sx2, sx3]
      refine wpAnyH_take (i := 2) (oi := ⟨some 133, _, _, _, _, _⟩) (v := ?_) rfl (by kernel_rfl) (by kernel_rfl) (by kernel_rfl) (fun _ _ _ h => h) (Or.inl ⟨by rfl, ?_⟩) KX.out ?_; rotate_left; · intro w hSw; (try dsimp only at hSw); go_simp; try with_reducible rfl
      try simp only [Act.put, sx1, sx2, sx3]
      refine wpAnyH_take (i := 3) (oi := ⟨some 134, _, _, _, _, _⟩) (v := ?_) rfl (by kernel_rfl) (by kernel_rfl) (by kernel_rfl) (fun _ _ _ h => h) (Or.inl ⟨by rfl, ?_⟩) KX.out ?_; rotate_left; · intro w hSw; (try dsimp only at hSw); go_simp; try with_reducible rfl
      try simp only [Act.put, sx1, sx2, sx3]
      refine wpAnyH_take (i := 4) (oi := ⟨some 135, _, _, _, _, _⟩) (v := ?_) rfl (by kernel_rfl) (by kernel_rfl) (by kernel_rfl) (fun _ _ _ h => h) (Or.inl ⟨by rfl, ?_⟩) KX.out ?_; rotate_left; · intro w hSw; (try dsimp only at hSw); go_simp; try with_reducible rfl
      try simp only [Act.put, sx1, sx2, sx3]
      refine wpAnyH_take (i := 5) (oi := ⟨some 136, _, _, _, _, _⟩) (v := ?_) rfl (by kernel_rfl) (by kernel_rfl) (by kernel_rfl) (fun _ _ _ h => h) (Or.inl ⟨by rfl, ?_⟩) KX.out ?_; rotate_left; · intro w hSw; (try dsimp only at hSw); go_simp; try with_reducible rfl
      try simp only [Act.put, sx1, sx2, sx3]
      refine wpAnyH_ready (rs := [6]) (by kernel_rfl) (by simp) ?_
      refine AllReadyH.cons rfl (fun K hK => ?_) ?_
      rotate_left
      ·exact AllReadyH.nil
      go_simp
      go_at_call 47
      refine (C.out _ HBX.out).mono ?_
      rintro e wn ⟨rfl, hb⟩
      have HBX := Lib.hid (HBX.out.trans (hb.mono HBX.out.size))
      have KX := Lib.hid (And.intro (cellOn hb KX.out.1) (cells9 (boxOn HG6.out HBX.out)))
      clear hb
      go_wp2_with fail
      refine hK.out _ _ KX.out (fun hHeld => ?_)
      clear hK K hHeld
      try simp only [Act.put, sx1, sx2, sx3]
      refine wpAnyH_take (i := 7) (oi := ⟨some 138, _, _, _, _, _⟩) (v := ?_) rfl (by kernel_rfl) (by kernel_rfl) (by kernel_rfl) (fun _ _ _ h => h) (Or.inl ⟨by rfl, ?_⟩) KX.out ?_; rotate_left; · intro w hSw; (try dsimp only at hSw); go_simp; try with_reducible rfl
      try simp only [Act.put, sx1, sx2, sx3]
      refine wpAnyH_done (by kernel_rfl) ?_ _
      cases bb with
      | false =>
       have HF := Lib.hid (show res = false by rw [← HSQ.out]; rfl)
       go_wp2
       go_ret
       exact ⟨by rw [HF.out]; rfl, HBQ6.out.trans (HBX.out.mono HBQ6.out.size)⟩
      | true =>
       have HPq := Lib.hid (show ((lo.drop (q + 1)).all (fun y => fl y (j : Int)) && (ff (j + 1) (ins.drop (j + 1)) && (outs.all fo && (rise 0 cells && en)))) = res by rw [← HSQ.out, Bool.true_and])
       have HBS2 := Lib.hid (HBS.out.trans (HBX.out.mono HBS.out.size))
       clear C HSQ
       go_wp2
       go_roundg (n - (q + 1))
       case measure => omega
       case rel => exact ⟨q + 1, rfl, by omega, by go_num, HBS2, HPq⟩
     ·obtain rfl : q = n := by omega
      have HPn := Lib.hid (show (ff (j + 1) (ins.drop (j + 1)) && (outs.all fo && (rise 0 cells && en))) = res by have h := HJ.out; rw [drop_end HN2.out] at h; simpa using h)
      have HBS2 := Lib.hid (HBX6.out)
      go_wp2
      go_roundg (m - (j + 1))
      case measure => have := HJM.out; omega
      case rel => exact ⟨j + 1, rfl, HJM.out, by go_num, HBS2, HPn⟩
  ·obtain rfl : j = m := by omega
   have HR4 := Lib.hid (show ((outs.drop 0).all fo && (rise 0 cells && en)) = res by have h := HJ.out; rw [drop_end HM.out, HI0.out] at h; simpa using h)
   clear HJ CN HIF HIO HI0 HW0 HW1 HW2
   go_wp2_with fail
   go_loopg [7] no (fun z i wr => ∃ q : Nat, z = no - q ∧ q ≤ no ∧ i = .int .i64 (q : Int) ∧ Hid (Below wa.heap.size wa wr) ∧ Hid (((outs.drop q).all fo && (rise 0 cells && en)) = res))
   case atStart => exact ⟨0, rfl, Nat.zero_le _, rfl, Lib.hid (Below.refl _ _), Lib.hid HR4.out⟩
   case round =>
    obtain ⟨q, rfl, hq, rfl, HBS, HJ⟩ := hrel
    obtain ⟨wb, hwb⟩ : ∃ wb, wb = wr := ⟨_, rfl⟩
    subst hwb
    have HBXb := Lib.hid (HBR.out.trans (HBS.out.mono HBR.out.size))
    have HBQb := Lib.hid (HB.out.trans (HBXb.out.mono HB.out.size))
    have HGb := Lib.hid (boxOn HG.out HBXb.out)
    obtain ⟨k0, k1, k2, k3, k4, k5, k6, k7, k8⟩ := cells9 HGb.out
    by_cases hlt : q < no
    ·obtain ⟨x, hx⟩ : ∃ x, outs[q]? = some x := ⟨_, List.getElem?_eq_getElem (by rw [HNO.out]; exact hlt)⟩
     have HSJ := Lib.hid (show (fo x && ((outs.drop (q + 1)).all fo && (rise 0 cells && en))) = res by rw [← HJ.out, all_at (f := fo) hx, Bool.and_assoc])
     rw [HFO.out x] at HSJ
     obtain ⟨ad, vs, vb, rfl, i0, i1, i2, i3, hvs, hvb⟩ := ReadsO.at (HR.out.below HBXb.out).outs hx
     obtain ⟨ax, cx, rfl⟩ := reads_form hvs
     obtain ⟨ay, cy, rfl⟩ := reads_form hvb
     obtain ⟨xi, xs, xst, xbk⟩ := x
     dsimp only at i0 i1 i2 i3 HSJ
     obtain ⟨ns, hns⟩ : ∃ ns, xst.length = ns := ⟨_, rfl⟩
     obtain ⟨nb, hnb⟩ : ∃ nb, xbk.length = nb := ⟨_, rfl⟩
     rw [hns] at i2 HSJ
     rw [hnb] at i3 HSJ
     obtain ⟨w4, g4, hw4, hg4, H4, HB4, HZ4⟩ := newBox wb #[.int .i64 xi, .int .i64 xs, .slice ax ns cx, .slice ay nb cy] 58
     have e0 : w4.cell? ⟨g4, 0, none⟩ = some (.int .i64 xi) := whole_cell H4.out rfl
     have e1 : w4.cell? ⟨g4, 1, none⟩ = some (.int .i64 xs) := whole_cell H4.out rfl
     have e2 : w4.cell? ⟨g4, 2, none⟩ = some (.slice ax ns cx) := whole_cell H4.out rfl
     have e3 : w4.cell? ⟨g4, 3, none⟩ = some (.slice ay nb cy) := whole_cell H4.out rfl
     obtain ⟨f0, f1, f2, f3, f4, f5, f6, f7, f8⟩ := cells9 (boxOn HGb.out HB4.out)
     have HBQ4 := Lib.hid (HBQb.out.trans (HB4.out.mono HBQb.out.size))
     have HBS4 := Lib.hid (HBS.out.trans (HB4.out.mono HBS.out.size))
     have D0 := Lib.hid (rwithin_any xs 120 w4)
     have D1 := Lib.hid (rwithin_any xi 2999 w4)
     have z0 : (0 : Int) ≤ (q : Int) := by omega
     have z1 : (q : Int) < (no : Int) := by omega
     clear HJ hx hvs hvb hns hnb hlt
     cases q0 : within xs 120 with
     | false =>
      have HF := Lib.hid (show res = false by rw [← HSJ.out, q0]; simp)
      rw [q0] at D0
      clear q0 HSJ
      go_wp2_with fail
      refine D0.out.mono ?_
      rintro e wz ⟨rfl, hwz⟩
      subst wz
      go_wp2
      go_ret
      exact ⟨by rw [HF.out]; rfl, HBQ4.out⟩
     | true =>
     rw [q0] at D0
     cases q1 : within xi 2999 with
     | false =>
      have HF := Lib.hid (show res = false by rw [← HSJ.out, q1]; simp)
      rw [q1] at D1
      clear q0 q1 HSJ
      go_wp2_with fail
      refine D0.out.mono ?_
      rintro e wz ⟨rfl, hwz⟩
      subst wz
      go_wp2_with fail
      refine D1.out.mono ?_
      rintro e wz ⟨rfl, hwz⟩
      subst wz
      go_wp2
      go_ret
      exact ⟨by rw [HF.out]; rfl, HBQ4.out⟩
     | true =>
     rw [q1] at D1
     by_cases q2 : sl + gr < (ns : Int)
     ·have HF := Lib.hid (show res = false by rw [← HSJ.out, decide_eq_false (show ¬ (ns : Int) ≤ sl + gr by omega)]; simp)
      have d2 : decide (sl + gr < (ns : Int)) = true := decide_eq_true q2
      clear q0 q1 HSJ
      go_wp2_with fail
      refine D0.out.mono ?_
      rintro e wz ⟨rfl, hwz⟩
      subst wz
      go_wp2_with fail
      refine D1.out.mono ?_
      rintro e wz ⟨rfl, hwz⟩
      subst wz
      go_wp2
      go_ret
      exact ⟨by rw [HF.out]; rfl, HBQ4.out⟩
     have d2 : decide (sl + gr < (ns : Int)) = false := decide_eq_false q2
     by_cases q3 : bks + gb < (nb : Int)
     ·have HF := Lib.hid (show res = false by rw [← HSJ.out, decide_eq_false (show ¬ (nb : Int) ≤ bks + gb by omega)]; simp)
      have d3 : decide (bks + gb < (nb : Int)) = true := decide_eq_true q3
      clear q0 q1 HSJ
      go_wp2_with fail
      refine D0.out.mono ?_
      rintro e wz ⟨rfl, hwz⟩
      subst wz
      go_wp2_with fail
      refine D1.out.mono ?_
      rintro e wz ⟨rfl, hwz⟩
      subst wz
      go_wp2
      go_ret
      exact ⟨by rw [HF.out]; rfl, HBQ4.out⟩
     have d3 : decide (bks + gb < (nb : Int)) = false := decide_eq_false q3
     have HP := Lib.hid (show ((outs.drop (q + 1)).all fo && (rise 0 cells && en)) = res by rw [← HSJ.out, q0, q1, decide_eq_true (show (ns : Int) ≤ sl + gr by omega), decide_eq_true (show (nb : Int) ≤ bks + gb by omega)]; rfl)
     clear q0 q1 q2 q3 HSJ
     go_wp2_with fail
     refine D0.out.mono ?_
     rintro e wz ⟨rfl, hwz⟩
     subst wz
     go_wp2_with fail
     refine D1.out.mono ?_
     rintro e wz ⟨rfl, hwz⟩
     subst wz
     go_wp2
     go_roundg (no - (q + 1))
     case measure => omega
     case rel => exact ⟨q + 1, rfl, by omega, by go_num, HBS4, HP⟩
    ·obtain rfl : q = no := by omega
     have HR5 := Lib.hid (show (rise 0 (cells.drop 0) && en) = res by have h := HJ.out; rw [drop_end HNO.out] at h; simpa using h)
     clear HJ HFO HR4
     go_wp2_with fail
     go_loopg [9] nc (fun z i wr => ∃ (k : Nat) (least : Int), z = nc - k ∧ k ≤ nc ∧ i = .int .i64 (k : Int) ∧ Hid (Below wb.heap.size wb wr) ∧ Hid (if k = 0 then least = 0 else ∃ y, cells[k - 1]? = some y ∧ least = y + 1 ∧ 0 ≤ y) ∧ Hid ((rise least (cells.drop k) && en) = res))
     case atStart => exact ⟨0, 0, rfl, Nat.zero_le _, rfl, Lib.hid (Below.refl _ _), Lib.hid (by rw [if_pos rfl]), Lib.hid HR5.out⟩
     case round =>
      obtain ⟨k, least, rfl, hk, rfl, HBT, HLE, HJ⟩ := hrel
      have HBXt := Lib.hid (HBXb.out.trans (HBT.out.mono HBXb.out.size))
      have HBQt := Lib.hid (HB.out.trans (HBXt.out.mono HB.out.size))
      have HGt := Lib.hid (boxOn HG.out HBXt.out)
      obtain ⟨k0, k1, k2, k3, k4, k5, k6, k7, k8⟩ := cells9 HGt.out
      by_cases hlt : k < nc
      ·obtain ⟨p, hp⟩ : ∃ p, cells[k]? = some p := ⟨_, List.getElem?_eq_getElem (by rw [HNC.out]; exact hlt)⟩
       obtain ⟨hst, hl0⟩ := rise_step hp HLE.out
       have HSJ := Lib.hid (show ((within p 2999 && (decide (k = 0) || decide ((cells.getD (k - 1) 0) < p))) && (rise (p + 1) (cells.drop (k + 1)) && en)) = res by rw [← HJ.out, rise_at hp, hst]; exact (Bool.and_assoc _ _ _).symm)
       have HRC := Lib.hid (HR.out.below HBXt.out).cells
       obtain ⟨ad, rfl, p0⟩ := Reads.at' HRC.out hp
       have z0 : (0 : Int) ≤ (k : Int) := by omega
       have z1 : (k : Int) < (nc : Int) := by omega
       have HLt := Lib.hid hlt
       have D := Lib.hid (fun w => rwithin_any p 2999 w)
       have HNX := Lib.hid (show 0 ≤ p → (if k + 1 = 0 then p + 1 = 0 else ∃ y, cells[k + 1 - 1]? = some y ∧ p + 1 = y + 1 ∧ 0 ≤ y) from fun h => by rw [if_neg (by omega)]; exact ⟨p, by simpa using hp, rfl, h⟩)
       have HGD := Lib.hid (show 0 < k → ∃ y, cells[k - 1]? = some y ∧ cells.getD (k - 1) 0 = y from fun h => by
        obtain ⟨y, hy⟩ : ∃ y, cells[k - 1]? = some y := ⟨_, List.getElem?_eq_getElem (by rw [HNC.out]; omega)⟩
        exact ⟨y, hy, by rw [List.getD_eq_getElem?_getD, hy]; rfl⟩)
       clear HJ HLE hst hl0 hlt hp
       cases q0 : within p 2999 with
       | false =>
        have HF := Lib.hid (show res = false by rw [← HSJ.out, q0]; rfl)
        rw [q0] at D
        clear q0 HSJ
        go_wp2_with fail
        go_quiet (first | (go_at_call 45; exact Calls.quiet_of_same (D.out _)))
        go_wp2
        go_ret
        exact ⟨by rw [HF.out]; rfl, HBQt.out.trans ((drewN1_below wr _).mono HBQt.out.size)⟩
       | true =>
       have HP0 := Lib.hid (show 0 ≤ p by unfold within at q0; exact (of_decide_eq_true q0).1)
       rw [q0] at D HSJ
       clear q0
       by_cases k00 : k = 0
       ·have HP := Lib.hid (show (rise (p + 1) (cells.drop (k + 1)) && en) = res by rw [← HSJ.out, decide_eq_true k00]; simp)
        have z6 : decide (0 < k) = false := decide_eq_false (by omega)
        have z5 : decide ((0 : Int) < (k : Int)) = false := decide_eq_false (by omega)
        clear HSJ k00
        go_wp2_with fail
        go_quiet (first | (go_at_call 45; exact Calls.quiet_of_same (D.out _)))
        go_wp2
        go_roundg (nc - (k + 1))
        case measure => omega
        case rel => exact ⟨k + 1, p + 1, rfl, HLt.out, by go_num, Lib.hid (HBT.out.trans ((drewN1_below wr _).mono HBT.out.size)), Lib.hid (HNX.out HP0.out), HP⟩
       obtain ⟨y, hy, hgd⟩ := HGD.out (Nat.pos_of_ne_zero k00)
       rw [hgd, decide_eq_false k00, Bool.false_or] at HSJ
       obtain ⟨ad', e, p1⟩ := Reads.at' HRC.out hy
       obtain rfl := Option.some.inj e
       have c1 : ((k - 1 : Nat) : Int) = (k : Int) - 1 := by omega
       have r5 : IntKind.i64.wrap ((k : Int) - 1) = ((k - 1 : Nat) : Int) := by rw [IntWalk.i64_in _ (by omega)]; omega
       have z2 : (0 : Int) ≤ ((k - 1 : Nat) : Int) := by omega
       have z3 : ((k - 1 : Nat) : Int) < (nc : Int) := by omega
       have z4 : (0 : Int) < (k : Int) := by omega
       have z5 : decide ((0 : Int) < (k : Int)) = true := decide_eq_true z4
       have z6 : decide (0 < k) = true := decide_eq_true (by omega)
       generalize k - 1 = kp at *
       clear c1 hgd hy k00 HGD
       by_cases yp : y < p
       ·have HP := Lib.hid (show (rise (p + 1) (cells.drop (k + 1)) && en) = res by rw [← HSJ.out, decide_eq_true yp]; rfl)
        have d1 : decide (p ≤ y) = false := decide_eq_false (by omega)
        clear HSJ yp
        go_wp2_with fail
        go_quiet (first | (go_at_call 45; exact Calls.quiet_of_same (D.out _)))
        go_wp2
        go_roundg (nc - (k + 1))
        case measure => omega
        case rel => exact ⟨k + 1, p + 1, rfl, HLt.out, by go_num, Lib.hid (HBT.out.trans ((drewN1_below wr _).mono HBT.out.size)), Lib.hid (HNX.out HP0.out), HP⟩
       ·have HF := Lib.hid (show res = false by rw [← HSJ.out, decide_eq_false yp]; simp)
        have d1 : decide (p ≤ y) = true := decide_eq_true (by omega)
        clear HSJ yp
        go_wp2_with fail
        go_quiet (first | (go_at_call 45; exact Calls.quiet_of_same (D.out _)))
        go_wp2
        go_ret
        exact ⟨by rw [HF.out]; rfl, HBQt.out.trans ((drewN1_below wr _).mono HBQt.out.size)⟩
      ·obtain rfl : k = nc := by omega
       have HR6 := Lib.hid (show en = res by have h := HJ.out; rw [drop_end HNC.out] at h; simpa [rise] using h)
       have C := Lib.hid (CL.out wr HBXt.out la j (by rw [HM.out]; exact Nat.le_refl _))
       clear HJ HLE HR5
       by_cases hl : 0 ≤ la ∧ la < (q : Int)
       ·obtain ⟨ln, rfl⟩ : ∃ ln : Nat, la = (ln : Int) := ⟨la.toNat, by omega⟩
        obtain ⟨x, hx⟩ : ∃ x, outs[ln]? = some x := ⟨_, List.getElem?_eq_getElem (by rw [HNO.out]; omega)⟩
        have HE := Lib.hid (show (fl (ln : Int) (j : Int) && decide (1 ≤ x.steps)) = res by rw [← HR6.out, HEN.out ln x hx rfl])
        obtain ⟨ad, vs, vb, rfl, -, i1, -, -, -, -⟩ := ReadsO.at (HR.out.below HBXt.out).outs hx
        obtain ⟨xi, xs, xst, xbk⟩ := x
        dsimp only at i1 HE
        have z0 : (0 : Int) ≤ (ln : Int) := by omega
        have z1 : (ln : Int) < (q : Int) := hl.2
        have HOn := Lib.hid (fun w5 (hb : Below wr.heap.size wr w5) => And.intro (cellOn hb i1) (cells9 (boxOn HGt.out hb)))
        clear hl hx HEN HE0 HR6
        cases hc : fl (ln : Int) (j : Int) with
        | false =>
         have HF := Lib.hid (show res = false by rw [← HE.out, hc]; rfl)
         rw [hc] at C
         clear hc HE
         go_wp2_with fail
         refine C.out.mono ?_
         rintro e w5 ⟨rfl, hb⟩
         have HBQ5 := Lib.hid (HBQt.out.trans (hb.mono HBQt.out.size))
         clear hb C
         go_wp2
         go_ret
         exact ⟨by rw [HF.out]; rfl, HBQ5.out⟩
        | true =>
         rw [hc] at C
         have HE2 := Lib.hid (show decide (1 ≤ xs) = res by rw [← HE.out, hc]; rfl)
         clear hc HE
         go_wp2_with fail
         refine C.out.mono ?_
         rintro e w5 ⟨rfl, hb⟩
         have HBQ5 := Lib.hid (HBQt.out.trans (hb.mono HBQt.out.size))
         obtain ⟨i1, k0, k1, k2, k3, k4, k5, k6, k7, k8⟩ := HOn.out w5 hb
         clear hb C HOn
         go_wp2
         go_ret
         exact ⟨by rw [← HE2.out]; rfl, HBQ5.out⟩
       ·have HE := Lib.hid (HE0.out (show ¬ (0 ≤ la ∧ la < (outs.length : Int)) by rw [HNO.out]; exact hl))
        have HF := Lib.hid (show res = false by rw [← HR6.out]; exact HE.out.1)
        rw [HE.out.2] at C
        clear hl
        go_wp2_with fail
        refine C.out.mono ?_
        rintro e w5 ⟨rfl, hb⟩
        have HBQ5 := Lib.hid (HBQt.out.trans (hb.mono HBQt.out.size))
        clear hb C
        go_wp2
        go_ret
        exact ⟨by rw [HF.out]; rfl, HBQ5.out⟩
end Go.Proofs.YtpecingkoodmfaaGreatDoor.Ir
