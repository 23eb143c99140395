
/- The statements' first call (chapter 14). -/
import Derived.Test.YtpecingkoodmfaaGreatDoorIrLight
import Derived.Test.YtpecingkoodmfaaGreatDoorIrText
import Derived.Test.YtpecingkoodmfaaGreatDoorIrRight
import Derived.Test.YtpecingkoodmfaaGreatDoorIrStore
namespace Go.Proofs.YtpecingkoodmfaaGreatDoor.Ir
open Go.RowKit Book Mem
set_option linter.unusedSimpArgs false
set_option linter.unusedVariables false
/-- the trace of the first call -/
def aT : T := ⟨5, 0, 0, 1, 0, [(1, 5, 0, 0, 0)], [⟨5, 1, [0], []⟩], 0, []⟩
theorem aT_right : rightT aT = true := by decide
theorem aT_text : textI (1, 5, 0, 0, 0) = [99, 111, 110, 115, 116, 32, 53, 32, 48, 32, 48, 32, 48] := by
  have e5 : Lib.decDigits 5 = [53] := by rw [Lib.decDigits, dif_pos (by decide)]; rfl
  have e0 : Lib.decDigits 0 = [48] := by rw [Lib.decDigits, dif_pos (by decide)]; rfl
  have i5 : Lib.itoa 5 = [53] := by unfold Lib.itoa; rw [if_neg (by decide)]; exact e5
  have i0 : Lib.itoa 0 = [48] := by unfold Lib.itoa; rw [if_neg (by decide)]; exact e0
  unfold textI tailL
  simp only [List.flatMap_cons, List.flatMap_nil, i5, i0]
  rfl
theorem aT_small : Small aT := ⟨by decide, by decide, by decide, by decide⟩
theorem one_ins {w : World} {g c : Nat} {x : I} (h : w.heap[g]? = some (.cells (insA x) 42 (0, 0))) : ReadsI w (.slice (some ⟨g, 0, none⟩) 1 c) [x] :=
  ⟨_, c, rfl, fun j y hj => by
    rcases j with - | j
    · obtain rfl : x = y := by simpa using hj
      exact ⟨_, rfl, whole_cell h rfl, whole_cell h rfl, whole_cell h rfl, whole_cell h rfl, whole_cell h rfl⟩
    · simp at hj⟩
theorem one_int {w : World} {g c : Nat} {x : Int} (h : w.heap[g]? = some (.cells #[.int .i64 x] 3 (0, 0))) : Reads w (.slice (some ⟨g, 0, none⟩) 1 c) [x] :=
  ⟨_, c, rfl, fun j y hj => by
    rcases j with - | j
    · obtain rfl : x = y := by simpa using hj
      exact ⟨_, rfl, whole_cell h rfl⟩
    · simp at hj⟩
theorem no_int (w : World) (ao : Option Addr) (c : Nat) : Reads w (.slice ao 0 c) [] := ⟨ao, c, rfl, fun j y hj => by simp at hj⟩
theorem one_out {w : World} {g c : Nat} {x : O} {vs vb : Value} (h : w.heap[g]? = some (.cells (outA x vs vb) 58 (0, 0))) (h1 : Reads w vs x.stack) (h2 : Reads w vb x.back) : ReadsO w (.slice (some ⟨g, 0, none⟩) 1 c) [x] :=
  ⟨_, c, rfl, fun j y hj => by
    rcases j with - | j
    · obtain rfl : x = y := by simpa using hj
      exact ⟨_, vs, vb, rfl, whole_cell h rfl, whole_cell h rfl, whole_cell h rfl, whole_cell h rfl, h1, h2⟩
    · simp at hj⟩
set_option maxHeartbeats 8000000 in
theorem alive_any (w : World) (hT : Tabs w) : Calls Tryz.prog 6 #[] w fun e w' => e = .returned (.bool true) ∧ Below w.heap.size w w' := by
  obtain ⟨w1, g1, hw1, hg1, H1, B1, Z1⟩ := newBox w #[.int .i64 1, .int .i64 5, .int .i64 0, .int .i64 0, .int .i64 0] 42
  obtain ⟨w2, g2, hw2, hg2, H2, B2, Z2⟩ := newBox w1 #[.int .i64 0] 3
  obtain ⟨w3, g3, hw3, hg3, H3, B3, Z3⟩ := newBox w2 #[.int .i64 5, .int .i64 1, .slice (some ⟨g2, 0, none⟩) 1 1, .slice none 0 0] 58
  obtain ⟨wz, g4, hwz, hg4, HZB, BZ, Z4⟩ := newBox w3 zero9 26
  have B3z := Lib.hid (B3.out.trans (BZ.out.mono B3.out.size))
  have B2z := Lib.hid (B2.out.trans (B3z.out.mono B2.out.size))
  have BFz := Lib.hid (B1.out.trans (B2z.out.mono B1.out.size))
  have J1 := Lib.hid (boxOn H1.out B2z.out)
  have J2 := Lib.hid (boxOn H2.out B3z.out)
  have J3 := Lib.hid (boxOn H3.out BZ.out)
  have NE := Lib.hid (show g1 ≠ g4 ∧ g2 ≠ g4 ∧ g3 ≠ g4 ∧ w.heap.size ≤ g4 by
    have h1 := whole_lt H1.out
    have h2 := whole_lt H2.out
    have h3 := whole_lt H3.out
    have z4 := Z4.out
    have s2 := B2.out.size
    have s3 := B3.out.size
    have s1 := B1.out.size
    omega)
  have HT0 := Lib.hid hT
  have FACT := Lib.hid (fun w4 (h4 : w4.heap[g4]? = some (.cells #[.int .i64 5, .int .i64 0, .int .i64 0, .int .i64 1, .int .i64 0, .slice (some ⟨g1, 0, none⟩) 1 1, .slice (some ⟨g3, 0, none⟩) 1 1, .int .i64 0, .slice none 0 0] 26 (0, 0))) (t4 : Stirred wz w4 [g4]) => show w4.cell? ⟨g4, 5, none⟩ = some (.slice (some ⟨g1, 0, none⟩) 1 1) ∧ w4.cell? ⟨g1, 0, none⟩ = some (.int .i64 1) ∧ w4.cell? ⟨g1, 1, none⟩ = some (.int .i64 5) ∧ w4.cell? ⟨g1, 2, none⟩ = some (.int .i64 0) ∧ w4.cell? ⟨g1, 3, none⟩ = some (.int .i64 0) ∧ w4.cell? ⟨g1, 4, none⟩ = some (.int .i64 0) from by
    have k1 := t4.whole J1.out (fun hm => NE.out.1 (List.mem_singleton.1 hm))
    exact ⟨whole_cell h4 rfl, whole_cell k1 rfl, whole_cell k1 rfl, whole_cell k1 rfl, whole_cell k1 rfl, whole_cell k1 rfl⟩)
  clear hT
  go_enter Tryz.func6, Tryz.ntmps6
  go_wp2_with (refine st_tr (by rfl) _ _ rfl g4 #[.int .i64 5, .int .i64 0, .int .i64 0, .int .i64 1, .int .i64 0, .slice (some ⟨g1, 0, none⟩) 1 1, .slice (some ⟨g3, 0, none⟩) 1 1, .int .i64 0, .slice none 0 0] rfl rfl rfl _ rfl HZB.out (by simp [Value.oneCell']) ?_; intro w4 h4 t4; obtain ⟨c5, i0, i1, i2, i3, i4⟩ := FACT.out w4 h4 t4)
  have H4 := Lib.hid h4
  have K1 := Lib.hid (t4.whole J1.out (fun hm => NE.out.1 (List.mem_singleton.1 hm)))
  have K2 := Lib.hid (t4.whole J2.out (fun hm => NE.out.2.1 (List.mem_singleton.1 hm)))
  have K3 := Lib.hid (t4.whole J3.out (fun hm => NE.out.2.2.1 (List.mem_singleton.1 hm)))
  have BF := Lib.hid (BFz.out.trans (t4.below (fun k hk => by rw [List.mem_singleton.1 hk]; exact NE.out.2.2.2) BFz.out.size))
  have HT := Lib.hid (HT0.out.mono BF.out)
  have HR := Lib.hid (show ReadsL w4 (.slice (some ⟨g1, 0, none⟩) 1 1) (.slice (some ⟨g3, 0, none⟩) 1 1) (.slice none 0 0) aT from ⟨one_ins (x := (1, 5, 0, 0, 0)) K1.out, one_out (x := ⟨5, 1, [0], []⟩) K3.out (one_int K2.out) (no_int _ _ _), no_int _ _ _⟩)
  have C := Lib.hid (show Calls Tryz.prog 16 #[.agg #[.int .i64 1, .int .i64 5, .int .i64 0, .int .i64 0, .int .i64 0]] w4 (Says (.string ⟨#[99, 111, 110, 115, 116, 32, 53, 32, 48, 32, 48, 32, 48]⟩) w4) from by
    have h := text_any HT.out 1 5 0 0 0 ⟨by unfold Cell.In; omega, by unfold Cell.In; omega, by unfold Cell.In; omega, by unfold Cell.In; omega⟩
    rw [aT_text] at h
    exact h)
  have CR := Lib.hid (fun w5 (hb : Below w4.heap.size w4 w5) => show Calls Tryz.prog 8 #[.agg #[.int .i64 5, .int .i64 0, .int .i64 0, .int .i64 1, .int .i64 0, .slice (some ⟨g1, 0, none⟩) 1 1, .slice (some ⟨g3, 0, none⟩) 1 1, .int .i64 0, .slice none 0 0]] w5 (Says (.bool true) w5) from by
    have h := right_any (HR.out.below hb) aT_small (HT.out.names.mono hb)
    rw [aT_right] at h
    exact h)
  have G1 := Lib.hid (fun w => show Calls Tryz.prog 17 #[.int .i64 5] w fun e w' => e = .returned (.bool true) ∧ w' = w from gives_any 5 w)
  have G2 := Lib.hid (fun w => show Calls Tryz.prog 17 #[.int .i64 6] w fun e w' => e = .returned (.bool false) ∧ w' = w from gives_any 6 w)
  clear h4 t4
  go_wp2_with fail
  refine C.out.mono ?_
  rintro e w5 ⟨rfl, hb⟩
  have HB5 := Lib.hid (BF.out.trans (hb.mono BF.out.size))
  have D := Lib.hid (CR.out w5 hb)
  have k0 : w5.cell? ⟨g4, 0, none⟩ = some (.int .i64 5) := whole_cell (boxOn H4.out hb) rfl
  have k1 : w5.cell? ⟨g4, 1, none⟩ = some (.int .i64 0) := whole_cell (boxOn H4.out hb) rfl
  have k2 : w5.cell? ⟨g4, 2, none⟩ = some (.int .i64 0) := whole_cell (boxOn H4.out hb) rfl
  have k3 : w5.cell? ⟨g4, 3, none⟩ = some (.int .i64 1) := whole_cell (boxOn H4.out hb) rfl
  have k4 : w5.cell? ⟨g4, 4, none⟩ = some (.int .i64 0) := whole_cell (boxOn H4.out hb) rfl
  have k5 : w5.cell? ⟨g4, 5, none⟩ = some (.slice (some ⟨g1, 0, none⟩) 1 1) := whole_cell (boxOn H4.out hb) rfl
  have k6 : w5.cell? ⟨g4, 6, none⟩ = some (.slice (some ⟨g3, 0, none⟩) 1 1) := whole_cell (boxOn H4.out hb) rfl
  have k7 : w5.cell? ⟨g4, 7, none⟩ = some (.int .i64 0) := whole_cell (boxOn H4.out hb) rfl
  have k8 : w5.cell? ⟨g4, 8, none⟩ = some (.slice none 0 0) := whole_cell (boxOn H4.out hb) rfl
  clear hb C CR
  go_wp2_with fail
  refine D.out.mono ?_
  rintro e w6 ⟨rfl, hb⟩
  have HB6 := Lib.hid (HB5.out.trans (hb.mono HB5.out.size))
  clear hb D
  go_wp2_with fail
  refine (G1.out _).mono ?_
  rintro e wz ⟨rfl, hwz⟩
  subst wz
  go_wp2_with fail
  refine (G2.out _).mono ?_
  rintro e wz ⟨rfl, hwz⟩
  subst wz
  go_wp2
  go_ret
  exact ⟨rfl, HB6.out⟩
end Go.Proofs.YtpecingkoodmfaaGreatDoor.Ir
