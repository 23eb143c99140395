
/- Package ir: may a trace be? -/
import Derived.Test.YtpecingkoodmfaaGreatDoorIrIns
namespace Go.Proofs.YtpecingkoodmfaaGreatDoor.Ir
open Go.RowKit Book Mem
set_option linter.unusedSimpArgs false
set_option linter.unusedVariables false
set_option maxHeartbeats 8000000 in
set_option maxRecDepth 100000 in
theorem right_any {w : World} {t : T} {vi vo vc : Value} (h : ReadsL w vi vo vc t) (hs : Small t) (hN : NamesI w) : Calls Tryz.prog 8 #[trV t vi vo vc] w (Says (.bool (rightT t)) w) := by
  obtain ⟨ai, ci, ao, co, ac, cc, rfl, rfl, rfl⟩ := h.known
  obtain ⟨m, hm⟩ : ∃ m, t.ins.length = m := ⟨_, rfl⟩
  obtain ⟨no, hno⟩ : ∃ no, t.outs.length = no := ⟨_, rfl⟩
  obtain ⟨nc, hnc⟩ : ∃ nc, t.cells.length = nc := ⟨_, rfl⟩
  have HM := Lib.hid hm
  have HNO := Lib.hid hno
  rw [hm, hno, hnc] at h ⊢
  have HS := Lib.hid hs
  obtain ⟨w1, g, hw1, hg, HG, HB, HZ⟩ := newBox w (trA t (.slice ai m ci) (.slice ao no co) (.slice ac nc cc)) 26
  have HR := Lib.hid (h.below HB.out)
  have HN := Lib.hid (hN.mono HB.out)
  have HGc := Lib.hid (cells9 HG.out)
  obtain ⟨c0, c1, c2, c3, c4, c5, c6, c7, c8⟩ := cells9 HG.out
  obtain ⟨res, hres⟩ : ∃ res, rightT t = res := ⟨_, rfl⟩
  have HRB := Lib.hid (show (decide (m ≤ 1000) && (decide (no ≤ 300) && (takes t && (rise 0 t.cells && (t.outs.all (outOk t) && (insFrom t 0 t.ins && endOk t)))))) = res by rw [← hres, ← hm, ← hno]; rfl)
  rw [hres]
  have hmS : m ≤ 1000000 := by rw [← hm]; exact hs.ins
  have hoS : no ≤ 1000000 := by rw [← hno]; exact hs.outs
  have CT := Lib.hid (fun wd (hb : Below w1.heap.size w1 wd) => takes_any (HR.out.below hb))
  have CR := Lib.hid (fun wd (hb : Below w1.heap.size w1 wd) => rise_any (HR.out.cells.below hb) HS.out.cells)
  have CO := Lib.hid (fun (ht : takes t = true) wd (hb : Below w1.heap.size w1 wd) (x : O) (vs vb : Value) (h1 : ∃ a c, vs = .slice a x.stack.length c) (h2 : ∃ a c, vb = .slice a x.back.length c) => rightOut_any (HR.out.below hb) ht x h1 h2)
  have CI := Lib.hid (fun (ht : takes t = true) wd (hb : Below w1.heap.size w1 wd) (k : Nat) (x : I) (hx : t.ins[k]? = some x) => rightIns_any (HR.out.below hb) HS.out ht (HN.out.mono hb) k hx)
  have CL := Lib.hid (fun wd (hb : Below w1.heap.size w1 wd) (y : Int) => leads_any (HR.out.below hb) HS.out y m (by rw [HM.out]; exact Nat.le_refl _))
  have HEN := Lib.hid (show ∀ (k : Nat) (x : O), t.outs[k]? = some x → t.last = k → endOk t = (leads t (k : Int) (m : Int) && decide (1 ≤ x.steps)) from fun k x hx hl => by rw [endOk_at hx hl, leads_at hx, hm])
  have HE0 := Lib.hid (show ¬ (0 ≤ t.last ∧ t.last < (t.outs.length : Int)) → endOk t = false ∧ leads t t.last (m : Int) = false from fun hl => And.intro (endOk_no hl) (leads_no (at' := (m : Int)) hl))
  have HIF := Lib.hid (show ∀ (k : Nat) (x : I), t.ins[k]? = some x → insFrom t k (t.ins.drop k) = (insOk t k x && insFrom t (k + 1) (t.ins.drop (k + 1))) from fun k x hx => insFrom_at hx)
  have HI0 := Lib.hid (show ∀ k, insFrom t k [] = true from fun k => by unfold insFrom; rfl)
  obtain ⟨fo, hfo⟩ : ∃ f, outOk t = f := ⟨_, rfl⟩
  obtain ⟨fi, hfi⟩ : ∃ f, insOk t = f := ⟨_, rfl⟩
  obtain ⟨fl, hfl⟩ : ∃ f, leads t = f := ⟨_, rfl⟩
  obtain ⟨ff, hff⟩ : ∃ f, insFrom t = f := ⟨_, rfl⟩
  obtain ⟨en, hen⟩ : ∃ f, endOk t = f := ⟨_, rfl⟩
  obtain ⟨tk, htk⟩ : ∃ f, takes t = f := ⟨_, rfl⟩
  rw [hfo, hff, hen, htk] at HRB
  rw [htk] at CT CO CI
  rw [hfo] at CO
  rw [hfi] at CI
  rw [hfl] at CL
  rw [hen, hfl] at HEN HE0
  rw [hff, hfi] at HIF
  rw [hff] at HI0
  obtain ⟨st, sl, bks, gr, gb, ins, outs, la, cells⟩ := t
  dsimp only at *
  clear h hs hN hm hno hnc hres hfo hfi hfl hff hen htk
  by_cases h1 : 1000 < m
  · have HF := Lib.hid (show res = false by rw [← HRB.out, decide_eq_false (by omega)]; rfl)
    have d1 : decide (1000 < (m : Int)) = true := decide_eq_true (by omega)
    clear h1
    go_enter Tryz.func8, Tryz.ntmps8
    go_wp2
    go_ret
    exact ⟨by rw [HF.out]; rfl, HB.out⟩
  have d1 : decide (1000 < (m : Int)) = false := decide_eq_false (by omega)
  by_cases h2 : 300 < no
  · have HF := Lib.hid (show res = false by rw [← HRB.out, decide_eq_false (p := no ≤ 300) (by omega)]; simp)
    have d2 : decide (300 < (no : Int)) = true := decide_eq_true (by omega)
    clear h1 h2
    go_enter Tryz.func8, Tryz.ntmps8
    go_wp2
    go_ret
    exact ⟨by rw [HF.out]; rfl, HB.out⟩
  have d2 : decide (300 < (no : Int)) = false := decide_eq_false (by omega)
  have HR2 := Lib.hid (show (tk && (rise 0 cells && (outs.all (fo) && (ff 0 ins && en)))) = res by
    have h := HRB.out
    rw [decide_eq_true (show m ≤ 1000 by omega), decide_eq_true (show no ≤ 300 by omega), Bool.true_and, Bool.true_and] at h
    exact h)
  clear h1 h2 HRB
  have C := Lib.hid (CT.out w1 (Below.refl _ _))
  clear CT
  by_cases ht : tk = true
  case neg =>
    have ht : tk = false := by simpa using ht
    have HF := Lib.hid (show res = false by rw [← HR2.out, ht]; rfl)
    rw [ht] at C
    clear ht HR2
    go_enter Tryz.func8, Tryz.ntmps8
    go_wp2_with fail
    refine C.out.mono ?_
    rintro e w2 ⟨rfl, hb⟩
    have HB2 := Lib.hid (HB.out.trans (hb.mono HB.out.size))
    clear hb C
    go_wp2
    go_ret
    exact ⟨by rw [HF.out]; rfl, HB2.out⟩
  have HTK := Lib.hid ht
  rw [ht] at C
  cases hr : rise 0 cells with
  | false =>
    have HF := Lib.hid (show res = false by rw [← HR2.out, hr]; simp)
    rw [hr] at CR
    clear ht hr HR2
    go_enter Tryz.func8, Tryz.ntmps8
    go_wp2_with fail
    refine C.out.mono ?_
    rintro e w2 ⟨rfl, hb⟩
    have D := Lib.hid (CR.out w2 hb)
    have HB2 := Lib.hid (HB.out.trans (hb.mono HB.out.size))
    obtain ⟨-, -, -, -, -, -, -, -, k8⟩ := cells9 (boxOn HG.out hb)
    clear hb C
    go_wp2_with fail
    refine D.out.mono ?_
    rintro e wz ⟨rfl, hwz⟩
    subst wz
    go_wp2
    go_ret
    exact ⟨by rw [HF.out]; rfl, HB2.out⟩
  | true =>
    have HR3 := Lib.hid (show (outs.all (fo) && (ff 0 ins && en)) = res by rw [← HR2.out, ht, hr]; rfl)
    rw [hr] at CR
    clear ht hr HR2
    go_enter Tryz.func8, Tryz.ntmps8
    go_wp2_with fail
    refine C.out.mono ?_
    rintro e w2 ⟨rfl, hb⟩
    have D := Lib.hid (CR.out w2 hb)
    have HBX := Lib.hid hb
    have HB2 := Lib.hid (HB.out.trans (hb.mono HB.out.size))
    obtain ⟨k0, k1, k2, k3, k4, k5, k6, k7, k8⟩ := cells9 (boxOn HG.out hb)
    clear hb C c0 c1 c2 c3 c4 c5 c6 c7 c8 d1 d2 CR
    go_wp2_with fail
    refine D.out.mono ?_
    rintro e wz ⟨rfl, hwz⟩
    subst wz
    clear D
    go_wp2_with fail
    go_loopg [30] no (fun z i wr => ∃ j : Nat, z = no - j ∧ j ≤ no ∧ i = .int .i64 (j : Int) ∧ Hid (Below w2.heap.size w2 wr) ∧ Hid (((outs.drop j).all (fo) && (ff 0 ins && en)) = res))
    case atStart => exact ⟨0, rfl, Nat.zero_le _, rfl, Lib.hid (Below.refl _ _), Lib.hid HR3.out⟩
    case round =>
      obtain ⟨j, rfl, hj, rfl, HBR, HJ⟩ := hrel
      have HBX2 := Lib.hid (HBX.out.trans (HBR.out.mono HBX.out.size))
      have HBQ := Lib.hid (HB.out.trans (HBX2.out.mono HB.out.size))
      have HGx := Lib.hid (boxOn HG.out HBX2.out)
      by_cases hlt : j < no
      · obtain ⟨x, hx⟩ : ∃ x, outs[j]? = some x := ⟨_, List.getElem?_eq_getElem (by rw [HNO.out]; exact hlt)⟩
        have HSJ := Lib.hid (show (fo x && ((outs.drop (j + 1)).all (fo) && (ff 0 ins && en))) = res by rw [← HJ.out, all_at (f := fo) hx, Bool.and_assoc])
        obtain ⟨ad, vs, vb, rfl, i0, i1, i2, i3, hvs, hvb⟩ := ReadsO.at (show ReadsO wr (.slice ao no co) outs from by have h := (HR.out.below HBX2.out).outs; exact h) hx
        obtain ⟨ax, cx, rfl⟩ := reads_form hvs
        obtain ⟨ay, cy, rfl⟩ := reads_form hvb
        obtain ⟨xi, xs, xst, xbk⟩ := x
        dsimp only at i0 i1 i2 i3 hvs hvb
        obtain ⟨w4, g4, hw4, hg4, H4, HB4, HZ4⟩ := newBox wr (outA ⟨xi, xs, xst, xbk⟩ (.slice ax xst.length cx) (.slice ay xbk.length cy)) 58
        have HG4 := Lib.hid (boxOn HGx.out HB4.out)
        have HBX4 := Lib.hid (HBX2.out.trans (HB4.out.mono HBX2.out.size))
        obtain ⟨c0, c1, c2, c3, c4, c5, c6, c7, c8⟩ := cells9 HG4.out
        have e0 : w4.cell? ⟨g4, 0, none⟩ = some (.int .i64 xi) := whole_cell H4.out rfl
        have e1 : w4.cell? ⟨g4, 1, none⟩ = some (.int .i64 xs) := whole_cell H4.out rfl
        have e2 : w4.cell? ⟨g4, 2, none⟩ = some (.slice ax xst.length cx) := whole_cell H4.out rfl
        have e3 : w4.cell? ⟨g4, 3, none⟩ = some (.slice ay xbk.length cy) := whole_cell H4.out rfl
        have C := Lib.hid (CO.out HTK.out w4 HBX4.out ⟨xi, xs, xst, xbk⟩ _ _ ⟨ax, cx, rfl⟩ ⟨ay, cy, rfl⟩)
        have z0 : (0 : Int) ≤ (j : Int) := by omega
        have z1 : (j : Int) < (no : Int) := by omega
        clear HJ hx hvs hvb
        cases hc : fo ⟨xi, xs, xst, xbk⟩ with
        | false =>
          have HF := Lib.hid (show res = false by rw [← HSJ.out, hc]; rfl)
          rw [hc] at C
          clear hc HSJ
          go_wp2_with fail
          refine C.out.mono ?_
          rintro e w5 ⟨rfl, hb⟩
          have HBQ := Lib.hid (HBQ.out.trans ((HB4.out.trans (hb.mono HB4.out.size)).mono HBQ.out.size))
          clear hb C
          go_wp2
          go_ret
          exact ⟨by rw [HF.out]; rfl, HBQ.out⟩
        | true =>
          have HP := Lib.hid (show ((outs.drop (j + 1)).all (fo) && (ff 0 ins && en)) = res by rw [← HSJ.out, hc]; rfl)
          rw [hc] at C
          clear hc HSJ
          go_wp2_with fail
          refine C.out.mono ?_
          rintro e w5 ⟨rfl, hb⟩
          have HBR2 := Lib.hid (HBR.out.trans ((HB4.out.trans (hb.mono HB4.out.size)).mono HBR.out.size))
          clear hb C
          go_wp2
          go_roundg (no - (j + 1))
          case measure => omega
          case rel => exact ⟨j + 1, rfl, by omega, by go_num, HBR2, HP⟩
      · obtain rfl : j = no := by omega
        have HR4 := Lib.hid (show (ff 0 ins && en) = res by have h := HJ.out; rw [drop_end HNO.out] at h; simpa using h)
        have HBX := HBX2
        obtain ⟨k0, k1, k2, k3, k4, k5, k6, k7, k8⟩ := cells9 HGx.out
        clear HJ HR3 HBR HGx CO
        obtain ⟨wa, hwa⟩ : ∃ wa, wa = wr := ⟨_, rfl⟩
        subst hwa
        go_wp2_with fail
        go_loopg [42] m (fun z i wr => ∃ q : Nat, z = m - q ∧ q ≤ m ∧ i = .int .i64 (q : Int) ∧ Hid (Below wa.heap.size wa wr) ∧ Hid ((ff q (ins.drop q) && en) = res))
        case atStart => exact ⟨0, rfl, Nat.zero_le _, rfl, Lib.hid (Below.refl _ _), Lib.hid HR4.out⟩
        case round =>
          obtain ⟨q, rfl, hq, rfl, HBS, HJ⟩ := hrel
          have HBX2 := Lib.hid (HBX.out.trans (HBS.out.mono HBX.out.size))
          have HBQ := Lib.hid (HB.out.trans (HBX2.out.mono HB.out.size))
          have HGx := Lib.hid (boxOn HG.out HBX2.out)
          by_cases hlt : q < m
          · obtain ⟨x, hx⟩ : ∃ x, ins[q]? = some x := ⟨_, List.getElem?_eq_getElem (by rw [HM.out]; exact hlt)⟩
            have HSJ := Lib.hid (show (fi (q : Int) x && (ff (q + 1) (ins.drop (q + 1)) && en)) = res by rw [← HJ.out, HIF.out q x hx, Bool.and_assoc])
            have C := Lib.hid (CI.out HTK.out wr HBX2.out q x hx)
            obtain ⟨k0, k1, k2, k3, k4, k5, k6, k7, k8⟩ := cells9 HGx.out
            have z0 : (0 : Int) ≤ (q : Int) := by omega
            have z1 : (q : Int) < (m : Int) := by omega
            clear HJ hx
            cases hc : fi (q : Int) x with
            | false =>
              have HF := Lib.hid (show res = false by rw [← HSJ.out, hc]; rfl)
              rw [hc] at C
              clear hc HSJ
              go_wp2_with fail
              refine C.out.mono ?_
              rintro e w5 ⟨rfl, hb⟩
              have HBQ := Lib.hid (HBQ.out.trans (hb.mono HBQ.out.size))
              clear hb C
              go_wp2
              go_ret
              exact ⟨by rw [HF.out]; rfl, HBQ.out⟩
            | true =>
              have HP := Lib.hid (show (ff (q + 1) (ins.drop (q + 1)) && en) = res by rw [← HSJ.out, hc]; rfl)
              rw [hc] at C
              clear hc HSJ
              go_wp2_with fail
              refine C.out.mono ?_
              rintro e w5 ⟨rfl, hb⟩
              have HBS2 := Lib.hid (HBS.out.trans (hb.mono HBS.out.size))
              clear hb C
              go_wp2
              go_roundg (m - (q + 1))
              case measure => omega
              case rel => exact ⟨q + 1, rfl, by omega, by go_num, HBS2, HP⟩
          · obtain rfl : q = m := by omega
            have HR5 := Lib.hid (show en = res by have h := HJ.out; rw [drop_end HM.out, HI0.out] at h; simpa using h)
            have C := Lib.hid (CL.out wr HBX2.out la)
            obtain ⟨k0, k1, k2, k3, k4, k5, k6, k7, k8⟩ := cells9 HGx.out
            clear HJ CI CL
            by_cases hl : 0 ≤ la ∧ la < (j : Int)
            · obtain ⟨ln, rfl⟩ : ∃ ln : Nat, la = (ln : Int) := ⟨la.toNat, by omega⟩
              obtain ⟨x, hx⟩ : ∃ x, outs[ln]? = some x := ⟨_, List.getElem?_eq_getElem (by rw [HNO.out]; omega)⟩
              have HE := Lib.hid (show (fl (ln : Int) (q : Int) && decide (1 ≤ x.steps)) = res by rw [← HR5.out, HEN.out ln x hx rfl])
              obtain ⟨ad, vs, vb, rfl, -, i1, -, -, -, -⟩ := ReadsO.at (show ReadsO wr (.slice ao j co) outs from by have h := (HR.out.below HBX2.out).outs; exact h) hx
              obtain ⟨xi, xs, xst, xbk⟩ := x
              dsimp only at i1 HE
              have z0 : (0 : Int) ≤ (ln : Int) := by omega
              have z1 : (ln : Int) < (j : Int) := hl.2
              have HOn := Lib.hid (fun w5 (hb : Below wr.heap.size wr w5) => And.intro (cellOn hb i1) (cells9 (boxOn HGx.out hb)))
              clear hl hx HEN HE0 HR5
              cases hc : fl (ln : Int) (q : Int) with
              | false =>
                have HF := Lib.hid (show res = false by rw [← HE.out, hc]; rfl)
                rw [hc] at C
                clear hc HE
                go_wp2_with fail
                refine C.out.mono ?_
                rintro e w5 ⟨rfl, hb⟩
                have HBQ := Lib.hid (HBQ.out.trans (hb.mono HBQ.out.size))
                clear hb C
                go_wp2
                go_ret
                exact ⟨by rw [HF.out]; rfl, HBQ.out⟩
              | true =>
                rw [hc] at C
                have HE2 := Lib.hid (show decide (1 ≤ xs) = res by rw [← HE.out, hc]; rfl)
                clear hc HE
                go_wp2_with fail
                refine C.out.mono ?_
                rintro e w5 ⟨rfl, hb⟩
                have HBQ := Lib.hid (HBQ.out.trans (hb.mono HBQ.out.size))
                obtain ⟨i1, k0, k1, k2, k3, k4, k5, k6, k7, k8⟩ := HOn.out w5 hb
                clear hb C HOn
                go_wp2
                go_ret
                exact ⟨by rw [← HE2.out]; rfl, HBQ.out⟩
            · have HE := Lib.hid (HE0.out (show ¬ (0 ≤ la ∧ la < (outs.length : Int)) by rw [HNO.out]; exact hl))
              have HF := Lib.hid (show res = false by rw [← HR5.out]; exact HE.out.1)
              rw [HE.out.2] at C
              clear hl
              go_wp2_with fail
              refine C.out.mono ?_
              rintro e w5 ⟨rfl, hb⟩
              have HBQ := Lib.hid (HBQ.out.trans (hb.mono HBQ.out.size))
              clear hb C
              go_wp2
              go_ret
              exact ⟨by rw [HF.out]; rfl, HBQ.out⟩
end Go.Proofs.YtpecingkoodmfaaGreatDoor.Ir
