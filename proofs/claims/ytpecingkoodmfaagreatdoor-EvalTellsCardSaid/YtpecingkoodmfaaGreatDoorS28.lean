/- The statements' first call (chapter 15). -/
import Derived.Test.YtpecingkoodmfaaGreatDoorS27
import Derived.Test.YtpecingkoodmfaaGreatDoorS8
import Derived.Test.YtpecingkoodmfaaGreatDoorS3
import Derived.Test.YtpecingkoodmfaaGreatDoorS10
import Derived.Test.YtpecingkoodmfaaGreatDoorS19
import Derived.Test.YtpecingkoodmfaaGreatDoorS21
namespace Go.Proofs.YtpecingkoodmfaaGreatDoor.Ev
open Go.RowKit Book Mem
open Ir (T I O trA trV trV ReadsL ReadsI ReadsO outA outV insA insV newBox boxOn ld_tr st_tr zero9 CI CT)
open Mach (M less cells10 zero10 OwnsL OwnsM ReadsM stV st_state ld_state state_size slice_one all_one)
set_option linter.unusedSimpArgs false
set_option linter.unusedVariables false
def aT : T := ⟨5, 1, 0, 0, 0, [(2, 0, 0, 0, 0), (4, 11, 0, 0, 0)], [⟨7, 2, [1], []⟩], 0, []⟩
def aM : M := { bootM 20 ⟨#[]⟩ with ip := 5, status := 0, stack := [3, 4] }
theorem aRun : runT [] aT aM = ⟨{ aM with ip := 7, stack := [3, 8] }, 0, 2, false⟩ := by kernel_rfl
theorem aMay : mayT aT aM = true := by kernel_rfl
theorem two_ins {w : World} {g c : Nat} {x y : I} (h : w.heap[g]? = some (.cells (insA x ++ insA y) 42 (0, 0))) : ReadsI w (.slice (some ⟨g, 0, none⟩) 2 c) [x, y] :=
  ⟨_, c, rfl, fun j u hj => by
    rcases j with - | - | j
    · obtain rfl : x = u := by simpa using hj
      exact ⟨_, rfl, whole_cell h rfl, whole_cell h rfl, whole_cell h rfl, whole_cell h rfl, whole_cell h rfl⟩
    · obtain rfl : y = u := by simpa using hj
      exact ⟨_, rfl, whole_cell h rfl, whole_cell h rfl, whole_cell h rfl, whole_cell h rfl, whole_cell h rfl⟩
    · simp at hj⟩
theorem one_int {w : World} {g c : Nat} {x : Int} (h : w.heap[g]? = some (.cells #[.int .i64 x] 3 (0, 0))) : Reads w (.slice (some ⟨g, 0, none⟩) 1 c) [x] :=
  ⟨_, c, rfl, fun j y hj => by
    rcases j with - | j
    · obtain rfl : x = y := by simpa using hj
      exact ⟨_, rfl, whole_cell h rfl⟩
    · simp at hj⟩
theorem no_int (w : World) (ao : Option Addr) (c : Nat) : Reads w (.slice ao 0 c) [] := ⟨ao, c, rfl, fun j y hj => by simp at hj⟩
theorem one_out {w : World} {g c : Nat} {x : O} {vs vb : Value} (h : w.heap[g]? = some (.cells (outA x vs vb) 58 (0, 0))) (h1 : Reads w vs x.stack) (h2 : Reads w vb x.back) : ReadsO w (.slice (some ⟨g, 0, none⟩) 1 c) [x] :=
  ⟨_, c, rfl, fun j y hj => by
    rcases j with - | j
    · obtain rfl : x = y := by simpa using hj
      exact ⟨_, vs, vb, rfl, whole_cell h rfl, whole_cell h rfl, whole_cell h rfl, whole_cell h rfl, h1, h2⟩
    · simp at hj⟩
theorem two_int {w : World} {g c : Nat} {x y : Int} (h : w.heap[g]? = some (.cells #[.int .i64 x, .int .i64 y] 3 (0, 0))) : Reads w (.slice (some ⟨g, 0, none⟩) 2 c) [x, y] :=
  ⟨_, c, rfl, fun j u hj => by
    rcases j with - | - | j
    · obtain rfl : x = u := by simpa using hj
      exact ⟨_, rfl, whole_cell h rfl⟩
    · obtain rfl : y = u := by simpa using hj
      exact ⟨_, rfl, whole_cell h rfl⟩
    · simp at hj⟩
theorem aSz : Sz aM [] [] := ⟨by decide, by decide, by decide, by decide, by decide, by decide, by decide, fun x h => by cases h⟩
theorem aMem : ∀ x ∈ bootMem 48 20, -9223372036854775808 ≤ x ∧ x ≤ 9223372036854775807 := by decide +kernel
theorem aCM : CM aM := ⟨(by intro x hx; simp [aM] at hx; rcases hx with rfl | rfl <;> (unfold Go.Proofs.YtpecingkoodmfaaGreatDoor.Cell.In; omega)), (fun x h => by cases h), aMem⟩
theorem aCI : ∀ x ∈ aT.ins, CI x := by
  intro x hx
  simp [aT] at hx
  rcases hx with rfl | rfl <;> exact ⟨by unfold Go.Proofs.YtpecingkoodmfaaGreatDoor.Cell.In; dsimp only; omega, by unfold Go.Proofs.YtpecingkoodmfaaGreatDoor.Cell.In; dsimp only; omega, by unfold Go.Proofs.YtpecingkoodmfaaGreatDoor.Cell.In; dsimp only; omega, by unfold Go.Proofs.YtpecingkoodmfaaGreatDoor.Cell.In; dsimp only; omega, by unfold Go.Proofs.YtpecingkoodmfaaGreatDoor.Cell.In; dsimp only; omega⟩
set_option maxHeartbeats 8000000 in
set_option maxRecDepth 100000 in
theorem alive_any (w : World) (hT : Tabs w) : Calls Tryz.prog 27 #[] w (SaysF true w) := by
  obtain ⟨w1, g1, hw1, hg1, H1, B1, Z1⟩ := newBox w #[.int .i64 2, .int .i64 0, .int .i64 0, .int .i64 0, .int .i64 0, .int .i64 4, .int .i64 11, .int .i64 0, .int .i64 0, .int .i64 0] 42
  obtain ⟨w2, g2, hw2, hg2, H2, B2, Z2⟩ := newBox w1 #[.int .i64 1] 3
  obtain ⟨w3, g3, hw3, hg3, H3, B3, Z3⟩ := newBox w2 #[.int .i64 7, .int .i64 2, .slice (some ⟨g2, 0, none⟩) 1 1, .slice none 0 0] 58
  obtain ⟨wz, g4, hwz, hg4, HZB, BZ, Z4⟩ := newBox w3 zero9 26
  have B3z := Lib.hid (B3.out.trans (BZ.out.mono B3.out.size))
  have B2z := Lib.hid (B2.out.trans (B3z.out.mono B2.out.size))
  have BFz := Lib.hid (B1.out.trans (B2z.out.mono B1.out.size))
  have J1 := Lib.hid (boxOn H1.out B2z.out)
  have J2 := Lib.hid (boxOn H2.out B3z.out)
  have J3 := Lib.hid (boxOn H3.out BZ.out)
  have NE := Lib.hid (show g1 ≠ g4 ∧ g2 ≠ g4 ∧ g3 ≠ g4 ∧ w.heap.size ≤ g4 by
    have h1 := whole_lt H1.out
    have h2 := whole_lt H2.out
    have h3 := whole_lt H3.out
    have z4 := Z4.out
    have s2 := B2.out.size
    have s3 := B3.out.size
    have s1 := B1.out.size
    omega)
  have HT0 := Lib.hid hT
  clear hT
  go_enter Tryz.func27, Tryz.ntmps27
  go_upto_region 2 with (refine st_tr (by rfl) _ _ rfl g4 #[.int .i64 5, .int .i64 1, .int .i64 0, .int .i64 0, .int .i64 0, .slice (some ⟨g1, 0, none⟩) 2 2, .slice (some ⟨g3, 0, none⟩) 1 1, .int .i64 0, .slice none 0 0] rfl rfl rfl _ rfl HZB.out (by simp [Value.oneCell']) ?_; intro w4 h4 t4)
  have H4 := Lib.hid h4
  have K1 := Lib.hid (t4.whole J1.out (fun hm => NE.out.1 (List.mem_singleton.1 hm)))
  have K2 := Lib.hid (t4.whole J2.out (fun hm => NE.out.2.1 (List.mem_singleton.1 hm)))
  have K3 := Lib.hid (t4.whole J3.out (fun hm => NE.out.2.2.1 (List.mem_singleton.1 hm)))
  have BF := Lib.hid (BFz.out.trans (t4.below (fun k hk => by rw [List.mem_singleton.1 hk]; exact NE.out.2.2.2) BFz.out.size))
  have HR := Lib.hid (show ReadsL w4 (.slice (some ⟨g1, 0, none⟩) 2 2) (.slice (some ⟨g3, 0, none⟩) 1 1) (.slice none 0 0) aT from ⟨two_ins (x := (2, 0, 0, 0, 0)) (y := (4, 11, 0, 0, 0)) K1.out, one_out (x := ⟨7, 2, [1], []⟩) K3.out (one_int K2.out) (no_int _ _ _), no_int _ _ _⟩)
  clear h4 t4 hw1 hw2 hw3 hwz hg1 hg2 hg3 hg4 H1 H2 H3 HZB B1 B2 B3 BZ Z1 Z2 Z3 Z4 J1 J2 J3 B3z B2z BFz K1 K2 K3
  have CB := Lib.hid (refBoot20 w4 20 rfl ⟨#[]⟩)
  dsimp only [Act.put]
  go_wp2_with fail
  refine CB.out.mono ?_
  rintro e w5 ⟨v5, rfl, ⟨vs5, vb5, vm5, rfl, ho5⟩, hb5⟩
  obtain ⟨bo, bc, eb⟩ := ho5.bk.slice
  rw [show (vals (bootM 20 ⟨#[]⟩).back).length = 0 from rfl] at eb
  subst eb
  have HO5 := Lib.hid ho5
  have HB5 := Lib.hid hb5
  have HON := Lib.hid (And.intro (slice_one ho5.st.slice) (And.intro (slice_one ho5.bk.slice) (slice_one ho5.me.slice)))
  obtain ⟨w6, g6, hw6, hg6, H6, B6, Z6⟩ := newBox w5 zero10 50
  clear ho5 hb5 CB
  go_upto_region 4 with (refine st_state (by rfl) _ _ rfl g6 (cells10 0 0 vs5 (.slice bo 0 bc) vm5 ⟨#[]⟩ ⟨#[]⟩ 0 1 0) rfl rfl _ _ H6.out rfl rfl (all_one HON.out.1 HON.out.2.1 HON.out.2.2) ?_; intro w7 h7 t7; obtain ⟨w8, g8, hw8, hg8, H8, B8, Z8⟩ := newBox w7 #[.int .i64 3, .int .i64 4] 3; have HGL := Lib.hid (whole_lt h7); have h8 := boxOn h7 B8.out; have c0 : w8.cell? ⟨g6, 0, none⟩ = some (.int .i64 0) := whole_cell h8 rfl; have f0 : w8.frozen? ⟨g6, 0, none⟩ = false := whole_frozen h8 0; have h9 := whole_set h8 0 (.int .i64 5); have t9 := Stirred.setCell w8 ⟨g6, 0, none⟩ (.int .i64 5); obtain ⟨w9, hw9⟩ : ∃ w9, w8.setCell ⟨g6, 0, none⟩ (.int .i64 5) = w9 := ⟨_, rfl⟩; rw [hw9] at h9 t9; have c8 : w9.cell? ⟨g6, 8, none⟩ = some (.int .i64 1) := whole_cell h9 rfl; have f8 : w9.frozen? ⟨g6, 8, none⟩ = false := whole_frozen h9 8; have h10 := whole_set h9 8 (.int .i64 0); have t10 := Stirred.setCell w9 ⟨g6, 8, none⟩ (.int .i64 0); obtain ⟨w10, hw10⟩ : ∃ w10, w9.setCell ⟨g6, 8, none⟩ (.int .i64 0) = w10 := ⟨_, rfl⟩; rw [hw10] at h10 t10; have c2 : w10.cell? ⟨g6, 2, none⟩ = some vs5 := whole_cell h10 rfl; have f2 : w10.frozen? ⟨g6, 2, none⟩ = false := whole_frozen h10 2; have h11 := whole_set h10 2 (.slice (some ⟨g8, 0, none⟩) 2 2); have t11 := Stirred.setCell w10 ⟨g6, 2, none⟩ (.slice (some ⟨g8, 0, none⟩) 2 2); obtain ⟨w11, hw11⟩ : ∃ w11, w10.setCell ⟨g6, 2, none⟩ (.slice (some ⟨g8, 0, none⟩) 2 2) = w11 := ⟨_, rfl⟩; rw [hw11] at h11 t11; have H11 := Lib.hid h11; have T811 := Lib.hid ((t9.trans t10 (fun k hk => .inl hk)).trans t11 (fun k hk => .inl hk)); have T57 := Lib.hid ((Stirred.of_below B6.out [g6]).trans t7 (fun k hk => .inl hk)); clear h7 t7 h8 h9 t9 h10 t10 h11 t11)
  have H11b := Lib.hid (show w11.heap[g6]? = some (.cells (cells10 5 0 (.slice (some ⟨g8, 0, none⟩) 2 2) (.slice bo 0 bc) vm5 ⟨#[]⟩ ⟨#[]⟩ 0 0 0) 50 (0, 0)) from H11.out)
  have BT := Lib.hid (show Below w4.heap.size w4 w11 from by
    have b1 := HB5.out
    have b2 := b1.trans (T57.out.below (B := w4.heap.size) (fun k hk => by rw [List.mem_singleton.1 hk, ← Z6.out]; exact b1.size) b1.size)
    have b3 := b2.trans (B8.out.mono b2.size)
    exact b3.trans (T811.out.below (B := w4.heap.size) (fun k hk => by rw [List.mem_singleton.1 hk, ← Z6.out]; exact b1.size) b3.size))
  have T511 := Lib.hid ((T57.out.trans (Stirred.of_below B8.out []) (fun k hk => by cases hk)).trans T811.out (fun k hk => .inl hk))
  have hfar : ∀ {v : Value} {xs : List Int}, Owns w5 w4.heap.size 3 v (vals xs) → Owns w11 w4.heap.size 3 v (vals xs) := fun h => h.touch T511.out (fun k e hm => by have h1 := (h.block k e).2.1; have h2 := List.mem_singleton.1 hm; have h3 := Z6.out; omega)
  have H8c := T811.out.whole H8.out (fun hm => by have h1 := List.mem_singleton.1 hm; have h2 := Z8.out; have h3 := HGL.out; simp only at h1; omega)
  have HM11 := Lib.hid (show ReadsM w11 (stV aM (.slice (some ⟨g8, 0, none⟩) 2 2) (.slice bo 0 bc) vm5) aM from ⟨_, _, _, rfl, ⟨two_int H8c, _, 2, rfl, Nat.le_refl _⟩, ReadsC.of_owns (hfar HO5.out.bk), ReadsC.of_owns (hfar HO5.out.me)⟩)
  have HR11 := Lib.hid (HR.out.below BT.out)
  have HT11 := Lib.hid ((HT0.out.mono BF.out).mono BT.out)
  have HQ11 := Lib.hid (boxOn H4.out BT.out)
  have CR := Lib.hid (show Calls Tryz.prog 32 #[trV aT (.slice (some ⟨g1, 0, none⟩) 2 2) (.slice (some ⟨g3, 0, none⟩) 1 1) (.slice none 0 0), stV aM (.slice (some ⟨g8, 0, none⟩) 2 2) (.slice bo 0 bc) vm5, .slice none 0 0] w11 (Runs ⟨{ aM with ip := 7, stack := [3, 8] }, 0, 2, false⟩ w11) from by
    have h := run_any HM11.out HR11.out (no_int w11 none 0) aSz aCM aCI HT11.out (by decide) (by decide) (fun o ho => by rw [List.mem_singleton.1 ho]; exact ⟨by decide, by decide⟩)
    rw [aRun] at h
    exact h)
  have CY := Lib.hid (fun wc => show Calls Tryz.prog 35 #[trV aT (.slice (some ⟨g1, 0, none⟩) 2 2) (.slice (some ⟨g3, 0, none⟩) 1 1) (.slice none 0 0), stV aM (.slice (some ⟨g8, 0, none⟩) 2 2) (.slice bo 0 bc) vm5] wc (SaysF true wc) from by
    have h := may_any (w := wc) (t := aT) (s := aM) (vi := .slice (some ⟨g1, 0, none⟩) 2 2) (vo := .slice (some ⟨g3, 0, none⟩) 1 1) (vc := .slice none 0 0) (vm := vm5) (so := some ⟨g8, 0, none⟩) (bo := bo) (sc := 2) (bc := bc) (by decide) (by decide)
    rw [aMay] at h
    exact h)
  clear hw6 hw8 hg6 hg8 hw9 hw10 hw11 c0 f0 c8 f8 c2 f2 H11 H6 B6 H8 B8 H8c hfar
  try dsimp only [Act.put]
  go_wp2_with (first
    | (refine ld_tr (by rfl) _ rfl g4 rfl _ rfl HQ11.out ?_)
    | (refine ld_state (by rfl) _ rfl g6 rfl _ _ H11b.out rfl ?_))
  refine CR.out.mono ?_
  rintro e w12 ⟨v, rfl, ⟨vs9, vb9, vm9, rfl, ho9⟩, hb9⟩
  obtain ⟨gs9, cs9, es9, hc9, -, -⟩ := ho9.st.row (by show 0 < 2; decide)
  rw [show (vals [3, 8]).length = 2 from rfl] at es9
  have HON9 := Lib.hid (And.intro (slice_one ho9.st.slice) (And.intro (slice_one ho9.bk.slice) (slice_one ho9.me.slice)))
  have k8 := Lib.hid (hc9 1 (.int .i64 8) rfl)
  have HGN := Lib.hid (show gs9 < w12.heap.size from World.block_lt_of_cell? w12 _ k8.out)
  have BW12 := Lib.hid hb9
  subst es9
  obtain ⟨w13, g13, hw13, hg13, H13, B13, Z13⟩ := newBox w12 zero10 50
  obtain ⟨w14, g14, hw14, hg14, H14, B14, Z14⟩ := newBox w13 zero3 60
  have H13b := Lib.hid (boxOn H13.out B14.out)
  have NG := Lib.hid (show gs9 < g13 ∧ g13 < g14 ∧ w11.heap.size ≤ g13 from ⟨by rw [← Z13.out]; exact HGN.out, by rw [← Z14.out]; exact whole_lt H13.out, by rw [← Z13.out]; exact BW12.out.size⟩)
  have B1214 := Lib.hid (B13.out.trans (B14.out.mono B13.out.size))
  have K8 := Lib.hid (show w14.cell? ⟨gs9, 1, none⟩ = some (.int .i64 8) from (Stirred.of_below B1214.out []).cell List.not_mem_nil k8.out)
  clear ho9 hb9 hc9 CR k8
  go_upto_region 5 with (first
    | (refine st_state (by rfl) _ _ rfl g13 _ rfl rfl _ _ H13b.out rfl rfl (all_one HON9.out.1 HON9.out.2.1 HON9.out.2.2) ?_; intro w15 h15 t15; have H15 := Lib.hid h15; have T15 := Lib.hid t15; have H14b := Lib.hid (t15.whole H14.out (fun hm => by have h1 := List.mem_singleton.1 hm; have h2 := NG.out.2.1; omega)); clear h15 t15)
    | (refine st_done (by rfl) _ _ rfl g14 #[.int .i64 0, .int .i64 2, .bool false] rfl rfl rfl _ rfl H14b.out (by simp [Value.oneCell']) ?_; intro w16 h16 t16; have H16 := Lib.hid h16; have T16 := Lib.hid t16; have H15b := Lib.hid (t16.whole H15.out (fun hm => by have h1 := List.mem_singleton.1 hm; have h2 := NG.out.2.1; omega)); clear h16 t16))
  have TT := Lib.hid (two_more T15.out T16.out)
  have HN : ∀ {k : Nat}, k < g13 → k ∉ [g13, g14] := fun {k} h hm => by
    rcases List.mem_cons.1 hm with e | e
    · omega
    · have h1 := List.mem_singleton.1 e; have h2 := NG.out.2.1; omega
  have d0 : w16.cell? ⟨g14, 0, none⟩ = some (.int .i64 0) := whole_cell H16.out rfl
  have d1 : w16.cell? ⟨g14, 1, none⟩ = some (.int .i64 2) := whole_cell H16.out rfl
  have d2 : w16.cell? ⟨g14, 2, none⟩ = some (.bool false) := whole_cell H16.out rfl
  have s0 : w16.cell? ⟨g13, 0, none⟩ = some (.int .i64 7) := whole_cell H15b.out rfl
  have s2 : w16.cell? ⟨g13, 2, none⟩ = some (.slice (some ⟨gs9, 0, none⟩) 2 cs9) := whole_cell H15b.out rfl
  have s8 : w16.cell? ⟨gs9, 1, none⟩ = some (.int .i64 8) := TT.out.cell (HN NG.out.1) K8.out
  have BL := Lib.hid (show Below w11.heap.size w11 w16 from by
    have b1 := BW12.out.trans (B1214.out.mono BW12.out.size)
    exact b1.trans (TT.out.below (fun k hk => by
      rcases List.mem_cons.1 hk with e | e
      · rw [e]; exact NG.out.2.2
      · rw [List.mem_singleton.1 e]; exact Nat.le_of_lt (Nat.lt_of_le_of_lt NG.out.2.2 NG.out.2.1)) b1.size))
  have HQ16 := Lib.hid (boxOn HQ11.out BL.out)
  have H616 := Lib.hid (boxOn H11b.out BL.out)
  have C := Lib.hid (CY.out w16)
  clear HN hw13 hw14 hg13 hg14 CY K8
  try dsimp only [Act.put]
  go_wp2_with (first
    | (refine ld_tr (by rfl) _ rfl g4 rfl _ rfl HQ16.out ?_)
    | (refine ld_state (by rfl) _ rfl g6 rfl _ _ H616.out rfl ?_)
    | (go_at_call 35; refine C.out.mono ?_; rintro e w17 ⟨rfl, hb⟩; have HB17 := Lib.hid hb; clear hb))
  go_ret
  exact ⟨rfl, BF.out.trans ((BT.out.trans ((BL.out.trans (HB17.out.mono BL.out.size)).mono BT.out.size)).mono BF.out.size)⟩
end Go.Proofs.YtpecingkoodmfaaGreatDoor.Ev
/- The document's own May (chapter 15). -/
namespace Go.Proofs.YtpecingkoodmfaaGreatDoor.Ev
open Go.RowKit Book Mem
open Ir (T I O trA trV ReadsL newBox boxOn)
open Mach (M cells10 stV)
set_option linter.unusedSimpArgs false
set_option linter.unusedVariables false
/-- of a trace whose numbers may be -/
theorem may_ref {t : T} {s : M} (h1 : 0 ≤ t.slots) (h2 : 0 ≤ t.grow) (h3 : 0 ≤ t.backs) (h4 : 0 ≤ t.growBack) :
    mayT t s = (decide (s.status = 0) && (decide (s.ip = t.start) && (decide (t.slots ≤ (s.stack.length : Int)) && (decide ((s.stack.length : Int) + t.grow ≤ 48) && (decide (t.backs ≤ (s.back.length : Int)) && decide ((s.back.length : Int) + t.growBack ≤ 48)))))) := by
  unfold mayT Ir.within
  congr 1
  congr 1
  rw [decide_eq_decide.2 (show (0 ≤ t.slots ∧ t.slots ≤ (s.stack.length : Int)) ↔ t.slots ≤ (s.stack.length : Int) from ⟨fun h => h.2, fun h => ⟨h1, h⟩⟩),
    decide_eq_decide.2 (show (0 ≤ t.grow ∧ t.grow ≤ 48 - (s.stack.length : Int)) ↔ (s.stack.length : Int) + t.grow ≤ 48 from ⟨fun h => by omega, fun h => ⟨h2, by omega⟩⟩),
    decide_eq_decide.2 (show (0 ≤ t.backs ∧ t.backs ≤ (s.back.length : Int)) ↔ t.backs ≤ (s.back.length : Int) from ⟨fun h => h.2, fun h => ⟨h3, h⟩⟩),
    decide_eq_decide.2 (show (0 ≤ t.growBack ∧ t.growBack ≤ 48 - (s.back.length : Int)) ↔ (s.back.length : Int) + t.growBack ≤ 48 from ⟨fun h => by omega, fun h => ⟨h4, by omega⟩⟩)]
set_option maxHeartbeats 8000000 in
set_option maxRecDepth 100000 in
theorem rmay_any {w : World} {t : T} {s : M} {vi vo vc vm : Value} {so bo : Option Addr} {sc bc : Nat} (h1 : s.stack.length ≤ 10000) (h2 : s.back.length ≤ 10000) (g1 : 0 ≤ t.slots ∧ t.slots ≤ 48) (g2 : 0 ≤ t.grow ∧ t.grow ≤ 48) (g3 : 0 ≤ t.backs ∧ t.backs ≤ 48) (g4 : 0 ≤ t.growBack ∧ t.growBack ≤ 48) :
    Calls Tryz.prog 30 #[trV t vi vo vc, stV s (.slice so s.stack.length sc) (.slice bo s.back.length bc) vm] w fun e w' => e = .returned (.bool (mayT t s)) ∧ Below w.heap.size w w' := by
  rw [may_ref g1.1 g2.1 g3.1 g4.1]
  obtain ⟨n, hn⟩ : ∃ n, s.stack.length = n := ⟨_, rfl⟩
  obtain ⟨m, hm⟩ : ∃ n, s.back.length = n := ⟨_, rfl⟩
  rw [hn] at h1 ⊢
  rw [hm] at h2 ⊢
  obtain ⟨w1, g, hw1, hg, HG, HB1, HZ1⟩ := newBox w (trA t vi vo vc) 26
  obtain ⟨w2, k, hw2, hk, HK, HB2, HZ2⟩ := newBox w1 (cells10 s.ip s.handler (.slice so n sc) (.slice bo m bc) vm s.out s.inp s.read s.status s.code) 50
  have HBF := Lib.hid (HB1.out.trans (HB2.out.mono HB1.out.size))
  have hg2 := boxOn HG.out HB2.out
  obtain ⟨stt, hstt⟩ : ∃ x, s.status = x := ⟨_, rfl⟩
  obtain ⟨sip, hsip⟩ : ∃ x, s.ip = x := ⟨_, rfl⟩
  obtain ⟨ts, hts⟩ : ∃ x, t.start = x := ⟨_, rfl⟩
  obtain ⟨ks, hks⟩ : ∃ x, t.slots = x := ⟨_, rfl⟩
  obtain ⟨kg, hkg⟩ : ∃ x, t.grow = x := ⟨_, rfl⟩
  obtain ⟨kb, hkb⟩ : ∃ x, t.backs = x := ⟨_, rfl⟩
  obtain ⟨kh, hkh⟩ : ∃ x, t.growBack = x := ⟨_, rfl⟩
  have t0 : w2.cell? ⟨g, 0, none⟩ = some (.int .i64 ts) := by rw [← hts]; exact whole_cell hg2 rfl
  have t1 : w2.cell? ⟨g, 1, none⟩ = some (.int .i64 ks) := by rw [← hks]; exact whole_cell hg2 rfl
  have t2 : w2.cell? ⟨g, 2, none⟩ = some (.int .i64 kb) := by rw [← hkb]; exact whole_cell hg2 rfl
  have t3 : w2.cell? ⟨g, 3, none⟩ = some (.int .i64 kg) := by rw [← hkg]; exact whole_cell hg2 rfl
  have t4 : w2.cell? ⟨g, 4, none⟩ = some (.int .i64 kh) := by rw [← hkh]; exact whole_cell hg2 rfl
  have s0 : w2.cell? ⟨k, 0, none⟩ = some (.int .i64 sip) := by rw [← hsip]; exact whole_cell HK.out rfl
  have s2 : w2.cell? ⟨k, 2, none⟩ = some (.slice so n sc) := whole_cell HK.out rfl
  have s3 : w2.cell? ⟨k, 3, none⟩ = some (.slice bo m bc) := whole_cell HK.out rfl
  have s8 : w2.cell? ⟨k, 8, none⟩ = some (.int .i64 stt) := by rw [← hstt]; exact whole_cell HK.out rfl
  rw [hstt, hsip, hts, hks, hkg, hkb, hkh]
  rw [hks] at g1
  rw [hkg] at g2
  rw [hkb] at g3
  rw [hkh] at g4
  obtain ⟨g10, g11⟩ := g1
  obtain ⟨g20, g21⟩ := g2
  obtain ⟨g30, g31⟩ := g3
  obtain ⟨g40, g41⟩ := g4
  clear hg2 hn hm hstt hsip hts hks hkg hkb hkh
  by_cases c1 : stt = 0
  rotate_left
  · have e1 : (stt == 0) = false := by simpa using c1
    rw [decide_eq_false c1, Bool.false_and]
    clear c1
    go_enter Tryz.func30, Tryz.ntmps30
    go_wp2
    go_ret
    exact ⟨rfl, HBF.out⟩
  have e1 : (stt == 0) = true := by simpa using c1
  rw [decide_eq_true c1, Bool.true_and]
  clear c1
  by_cases c2 : sip = ts
  rotate_left
  · have e2 : (sip == ts) = false := by simpa using c2
    rw [decide_eq_false c2, Bool.false_and]
    clear c2
    go_enter Tryz.func30, Tryz.ntmps30
    go_wp2
    go_ret
    exact ⟨rfl, HBF.out⟩
  have e2 : (sip == ts) = true := by simpa using c2
  rw [decide_eq_true c2, Bool.true_and]
  clear c2
  cases d0 : decide (ks ≤ (n : Int))
  · rw [Bool.false_and]
    go_enter Tryz.func30, Tryz.ntmps30
    go_wp2
    go_ret
    exact ⟨rfl, HBF.out⟩
  rw [Bool.true_and]
  cases d1 : decide ((n : Int) + kg ≤ 48)
  · rw [Bool.false_and]
    go_enter Tryz.func30, Tryz.ntmps30
    go_wp2
    go_ret
    exact ⟨rfl, HBF.out⟩
  rw [Bool.true_and]
  cases d2 : decide (kb ≤ (m : Int))
  · rw [Bool.false_and]
    go_enter Tryz.func30, Tryz.ntmps30
    go_wp2
    go_ret
    exact ⟨rfl, HBF.out⟩
  rw [Bool.true_and]
  cases d3 : decide ((m : Int) + kh ≤ 48)
  · skip
    go_enter Tryz.func30, Tryz.ntmps30
    go_wp2
    go_ret
    exact ⟨rfl, HBF.out⟩
  go_enter Tryz.func30, Tryz.ntmps30
  go_wp2
  go_ret
  exact ⟨rfl, HBF.out⟩
end Go.Proofs.YtpecingkoodmfaaGreatDoor.Ev
/- Watched cells (chapter 15): with none nothing is hit; with all of them the first thing that is stored is. -/
namespace Go.Proofs.YtpecingkoodmfaaGreatDoor.Ev
open Ir (T I O rightT insOk insFrom)
open Mach (M less)
set_option linter.unusedVariables false
/-- stacks behind a run are small -/
theorem runT_lens {wat : List Int} {t : T} {s : M} (h : ∀ o ∈ t.outs, o.stack.length ≤ 60 ∧ o.back.length ≤ 60) (z1 : s.stack.length ≤ 1000) (z2 : s.back.length ≤ 1000) : (Ev.runT wat t s).s.stack.length ≤ 10000 ∧ (Ev.runT wat t s).s.back.length ≤ 10000 := by
  unfold Ev.runT
  split
  · have hk := goI_kin wat t.last t.ins s []
    dsimp only
    cases ho : outAt t (goI wat t.last t.ins s []).exit with
    | none => exact ⟨by show s.stack.length ≤ 10000; omega, by show s.back.length ≤ 10000; omega⟩
    | some o =>
      have hm : o ∈ t.outs := by
        unfold outAt at ho
        split at ho
        · exact List.mem_of_getElem? ho
        · cases ho
      have h1 := h o hm
      show (leaveM t (goI wat t.last t.ins s []).s (goI wat t.last t.ins s []).V o).stack.length ≤ 10000 ∧ (leaveM t (goI wat t.last t.ins s []).s (goI wat t.last t.ins s []).V o).back.length ≤ 10000
      unfold leaveM less
      dsimp only
      rw [hk.stack, hk.back]
      simp only [List.length_append, List.length_map, List.length_take]
      exact ⟨by omega, by omega⟩
  · exact ⟨by show s.stack.length ≤ 10000; omega, by show s.back.length ≤ 10000; omega⟩
end Go.Proofs.YtpecingkoodmfaaGreatDoor.Ev
/- Is a machine small enough? -/
namespace Go.Proofs.YtpecingkoodmfaaGreatDoor.Mach
open Go.RowKit Book Mem
set_option linter.unusedVariables false
set_option linter.unusedSimpArgs false
def lightB (m : M) : Bool := decide (m.mem.length ≤ 700) && decide (m.inp.size ≤ 300) && rightM m
theorem lightB_iff (m : M) : lightB m = true ↔ m.mem.length ≤ 700 ∧ m.inp.size ≤ 300 ∧ Right m := by
  unfold lightB
  rw [Bool.and_eq_true, Bool.and_eq_true, decide_eq_true_eq, decide_eq_true_eq, rightM_iff, and_assoc]
set_option maxHeartbeats 4000000 in
set_option maxRecDepth 100000 in
theorem light_any {w : World} {v : Value} {m : M} (h : ReadsM w v m) (hi : m.inp.size ≤ maxLen) (ho : m.out.size ≤ maxLen) :
    Calls Tryz.prog 26 #[v] w (Says (.bool (lightB m)) w) := by
  have HV := Lib.hid h
  obtain ⟨vs, vb, vm, rfl, -, -, ⟨⟨mo, mc, hm, _⟩, _⟩⟩ := h
  obtain ⟨ip, hn, st, bk, me, ou, inn, rd, stt, cd⟩ := m
  simp only at hm hi ho ⊢
  subst hm
  have hi' : inn.size ≤ 9223372036854775807 := hi
  have HX := Lib.hid (heap_alloc_new w (.cells (cells10 ip hn vs vb (.slice mo me.length mc) ou inn rd stt cd) 50))
  have HB1 := Lib.hid ((Below.refl w.heap.size w).alloc (Nat.le_refl _) (.cells (cells10 ip hn vs vb (.slice mo me.length mc) ou inn rd stt cd) 50))
  have C := Lib.hid (refRight_any (HV.out.below HB1.out) hi ho)
  obtain ⟨rb, hrb⟩ : ∃ b, rightM ⟨ip, hn, st, bk, me, ou, inn, rd, stt, cd⟩ = b := ⟨_, rfl⟩
  have HL := Lib.hid (show lightB ⟨ip, hn, st, bk, me, ou, inn, rd, stt, cd⟩ = (decide (me.length ≤ 700) && decide (inn.size ≤ 300) && rb) by unfold lightB; rw [hrb])
  obtain ⟨lb, hlb⟩ : ∃ b, lightB ⟨ip, hn, st, bk, me, ou, inn, rd, stt, cd⟩ = b := ⟨_, rfl⟩
  rw [hlb]
  rw [hrb] at C
  have HLB := Lib.hid (hlb.symm.trans HL.out)
  clear hi ho hlb HL HV hrb
  by_cases c1 : me.length ≤ 700
  · by_cases c2 : inn.size ≤ 300
    · have HF := Lib.hid (show lb = rb by rw [HLB.out]; simp [c1, c2])
      clear HLB
      go_enter Tryz.func26, Tryz.ntmps26
      go_wp2_with (first
        | (refine ld_state (by rfl) _ rfl _ rfl _ _ HX.out rfl ?_)
        | (go_at_call 84; refine C.out.mono ?_; rintro e w2 ⟨rfl, hb⟩; have HB2 := Lib.hid (HB1.out.trans (hb.mono HB1.out.size)); clear hb))
      go_ret
      exact ⟨by rw [HF.out]; rfl, HB2.out⟩
    · have HF := Lib.hid (show lb = false by rw [HLB.out]; simp [c2])
      clear HLB C HX
      go_enter Tryz.func26, Tryz.ntmps26
      go_wp2
      go_ret
      exact ⟨by rw [HF.out]; rfl, HB1.out⟩
  · have HF := Lib.hid (show lb = false by rw [HLB.out]; simp [c1])
    clear HLB C HX
    go_enter Tryz.func26, Tryz.ntmps26
    go_wp2
    go_ret
    exact ⟨by rw [HF.out]; rfl, HB1.out⟩
end Go.Proofs.YtpecingkoodmfaaGreatDoor.Mach
/- A trace that was lent is as it was. -/
namespace Go.Proofs.YtpecingkoodmfaaGreatDoor.Ir
open Go.RowKit Book Book.Wide Mem Go.Deep
set_option linter.unusedVariables false
set_option linter.unusedSimpArgs false
theorem drew_below {w : World} {r : Value} {e : Ending} {w' : World} (h : e = .returned r ∧ ∃ q, w' = w.drewN q) : e = .returned r ∧ Below w.heap.size w w' := by
  obtain ⟨h1, q, h2⟩ := h
  exact ⟨h1, by rw [h2]; exact bk_below_drewN _ _ _⟩
set_option maxHeartbeats 8000000 in
set_option maxRecDepth 100000 in
theorem staysTrace_any {w : World} {B : Nat} {v v' : Value} {t : T} (h : LentT w B v t) (h' : ReadsT w v' t) (h1 : t.ins.length ≤ 1000) (h2 : t.outs.length ≤ 1000) (h3 : t.cells.length ≤ 1000) (hs : Small t) :
    Calls Tryz.prog 24 #[v, v'] w (Says (.bool true) w) := by
  obtain ⟨g1, c1, g2, c2, g3, c3, L, rfl, hl1, ⟨hm, hl2, hr⟩, hl3, hc1, hc2⟩ := h
  obtain ⟨vi, vo, vc, rfl, hR⟩ := h'
  have hLl : L.length = t.outs.length := by rw [← hm, List.length_map]
  have C1 := Lib.hid (fun wc (hbw : Below w.heap.size w wc) => (staysCodes_any B g1 c1 vi t.ins wc (hl1.below hbw) (hR.ins.below hbw) h1 hc1).mono fun e w' hh => drew_below hh)
  have C2 := Lib.hid (fun wc (hbw : Below w.heap.size w wc) => staysExits_any B g2 c2 vo L wc (hl2.below hbw) (hr.below hbw) (by rw [hm]; exact hR.outs.below hbw) (by omega) (fun e he => hs.stack e.1 (by rw [← hm]; exact List.mem_map.2 ⟨e, he, rfl⟩)) (by omega))
  have C3 := Lib.hid (fun wc (hbw : Below w.heap.size w wc) => (stays_any B g3 c3 vc t.cells wc (Lent.below hl3 hbw) (hR.cells.below hbw) h3).mono fun e w' hh => drew_below hh)
  rw [hLl] at C2
  obtain ⟨ai, ci, ao, co, ac, cc, rfl, rfl, rfl⟩ := hR.known
  obtain ⟨n1, hn1⟩ : ∃ n, t.ins.length = n := ⟨_, rfl⟩
  obtain ⟨n2, hn2⟩ : ∃ n, t.outs.length = n := ⟨_, rfl⟩
  obtain ⟨n3, hn3⟩ : ∃ n, t.cells.length = n := ⟨_, rfl⟩
  rw [hn1] at C1 ⊢
  rw [hn2] at C2 ⊢
  rw [hn3] at C3 ⊢
  obtain ⟨w1, g, hw1, hg, HG, HB, HZ⟩ := newBox w (trA t (.slice (some ⟨g1, 0, none⟩) n1 c1) (.slice (some ⟨g2, 0, none⟩) n2 c2) (.slice (some ⟨g3, 0, none⟩) n3 c3)) 26
  obtain ⟨w2, r, hw2, hr2, HR, HB2, HZ2⟩ := newBox w1 (trA t (.slice ai n1 ci) (.slice ao n2 co) (.slice ac n3 cc)) 26
  have HBF := Lib.hid (HB.out.trans (HB2.out.mono HB.out.size))
  have HG2 := Lib.hid (boxOn HG.out HB2.out)
  have HCe := Lib.hid (fun w3 (hbb : Below w2.heap.size w2 w3) => And.intro (cells9 (boxOn HG2.out hbb)) (cells9 (boxOn HR.out hbb)))
  obtain ⟨⟨a0, a1, a2, a3, a4, a5, a6, a7, a8⟩, b0, b1, b2, b3, b4, b5, b6, b7, b8⟩ := HCe.out w2 (Below.refl _ _)
  clear hl1 hl2 hl3 hm hr hR h1 h2 h3 hs hc1 hc2 hLl hn1 hn2 hn3
  go_enter Tryz.func24, Tryz.ntmps24
  go_wp2_with fail
  refine (C1.out _ HBF.out).mono ?_
  rintro e w3 ⟨rfl, hb⟩
  have HB3 := Lib.hid hb
  obtain ⟨⟨a0, a1, a2, a3, a4, a5, a6, a7, a8⟩, b0, b1, b2, b3, b4, b5, b6, b7, b8⟩ := HCe.out w3 hb
  clear hb C1
  go_wp2_with fail
  refine (C2.out _ (HBF.out.trans (HB3.out.mono HBF.out.size))).mono ?_
  rintro e w4 ⟨rfl, hb⟩
  have HB4 := Lib.hid (HB3.out.trans (hb.mono HB3.out.size))
  obtain ⟨⟨a0, a1, a2, a3, a4, a5, a6, a7, a8⟩, b0, b1, b2, b3, b4, b5, b6, b7, b8⟩ := HCe.out w4 HB4.out
  clear hb C2
  go_wp2_with fail
  refine (C3.out _ (HBF.out.trans (HB4.out.mono HBF.out.size))).mono ?_
  rintro e w5 ⟨rfl, hb⟩
  have HB5 := Lib.hid (HBF.out.trans ((HB4.out.trans (hb.mono HB4.out.size)).mono HBF.out.size))
  clear hb C3 HCe
  go_wp2
  go_ret
  exact ⟨rfl, HB5.out⟩
end Go.Proofs.YtpecingkoodmfaaGreatDoor.Ir
/- A machine that was lent is as it was; a machine's lists are laid into a book. -/
namespace Go.Proofs.YtpecingkoodmfaaGreatDoor.Mach
open Go.RowKit Book Mem
set_option linter.unusedVariables false
set_option linter.unusedSimpArgs false
theorem below_of_drewN {w wn : World} {q : Nat} (h : wn = w.drewN q) : Below w.heap.size w wn := by rw [h]; exact bk_below_drewN _ _ _
set_option maxHeartbeats 8000000 in
set_option maxRecDepth 100000 in
theorem staysState_any {w : World} {B : Nat} {v v' : Value} {m : M} (h : LentM w B v m) (h' : ReadsM w v' m) (h1 : m.stack.length ≤ 10000) (h2 : m.back.length ≤ 10000) (h3 : m.mem.length ≤ 10000) :
    Calls Tryz.prog 36 #[v, v'] w (Says (.bool true) w) := by
  have CS := Lib.hid (fun wc (hbw : Below w.heap.size w wc) => sameState_any (h.reads.below hbw) (h'.below hbw) (by omega) (by omega) (by omega))
  obtain ⟨g1, k1, g2, k2, g3, k3, rfl, hl1, hl2, hl3⟩ := h
  obtain ⟨vs', vb', vm', rfl, hs', hb', hm'⟩ := h'
  obtain ⟨ip, hh, st, bk, me, ou, inn, rd, stt, cd⟩ := m
  simp only at hl1 hl2 hl3 hs' hb' hm' h1 h2 h3 CS ⊢
  have C1 := Lib.hid (fun wc (hbw : Below w.heap.size w wc) => stays10_any B g1 k1 vs' st wc (Lent.below hl1 hbw) (hs'.1.below hbw) h1)
  have C2 := Lib.hid (fun wc (hbw : Below w.heap.size w wc) => stays10_any B g2 k2 vb' bk wc (Lent.below hl2 hbw) (hb'.1.below hbw) h2)
  have C3 := Lib.hid (fun wc (hbw : Below w.heap.size w wc) => stays10_any B g3 k3 vm' me wc (Lent.below hl3 hbw) (hm'.1.below hbw) h3)
  obtain ⟨ns, hns⟩ : ∃ n, st.length = n := ⟨_, rfl⟩
  obtain ⟨nb, hnb⟩ : ∃ n, bk.length = n := ⟨_, rfl⟩
  obtain ⟨nm, hnm⟩ : ∃ n, me.length = n := ⟨_, rfl⟩
  rw [hns] at C1 CS ⊢
  rw [hnb] at C2 CS ⊢
  rw [hnm] at C3 CS ⊢
  obtain ⟨w1, w2, g, r, hw1, hw2, hg, hr, HG, HR, HB, HZ, HW⟩ := two_boxes2 w (cells10 ip hh (.slice (some ⟨g1, 0, none⟩) ns k1) (.slice (some ⟨g2, 0, none⟩) nb k2) (.slice (some ⟨g3, 0, none⟩) nm k3) ou inn rd stt cd) (cells10 ip hh vs' vb' vm' ou inn rd stt cd)
  clear hl1 hl2 hl3 hs' hb' hm' h1 h2 h3 hns hnb hnm
  go_enter Tryz.func36, Tryz.ntmps36
  go_wp2_with (first
    | (refine ld_state (by rfl) _ rfl _ rfl _ _ HG.out rfl ?_)
    | (refine ld_state (by rfl) _ rfl _ rfl _ _ HR.out rfl ?_)
    | (refine ld_ints (by rfl) _ rfl _ rfl _ (whole_cell HG.out rfl) ?_)
    | (refine ld_ints (by rfl) _ rfl _ rfl _ (whole_cell HR.out rfl) ?_)
    | (go_at_call 34; (refine (CS.out _ HB.out).mono ?_); rintro e wn ⟨rfl, hbs⟩; have HB := Lib.hid (show Below w.heap.size w wn from HB.out.trans (hbs.mono HB.out.size)); have HG := Lib.hid ((Stirred.of_below (hbs) []).whole HG.out List.not_mem_nil); have HR := Lib.hid ((Stirred.of_below (hbs) []).whole HR.out List.not_mem_nil); clear hbs)
    | (go_at_call 37; (with_reducible refine (C1.out _ HB.out).mono ?_); rintro e wn ⟨rfl, q, hq⟩; have hbs := below_of_drewN hq; have HB := Lib.hid (show Below w.heap.size w wn from HB.out.trans (hbs.mono HB.out.size)); have HG := Lib.hid ((Stirred.of_below (hbs) []).whole HG.out List.not_mem_nil); have HR := Lib.hid ((Stirred.of_below (hbs) []).whole HR.out List.not_mem_nil); clear hbs hq)
    | (go_at_call 37; (with_reducible refine (C2.out _ HB.out).mono ?_); rintro e wn ⟨rfl, q, hq⟩; have hbs := below_of_drewN hq; have HB := Lib.hid (show Below w.heap.size w wn from HB.out.trans (hbs.mono HB.out.size)); have HG := Lib.hid ((Stirred.of_below (hbs) []).whole HG.out List.not_mem_nil); have HR := Lib.hid ((Stirred.of_below (hbs) []).whole HR.out List.not_mem_nil); clear hbs hq)
    | (go_at_call 37; (with_reducible refine (C3.out _ HB.out).mono ?_); rintro e wn ⟨rfl, q, hq⟩; have hbs := below_of_drewN hq; have HB := Lib.hid (show Below w.heap.size w wn from HB.out.trans (hbs.mono HB.out.size)); have HG := Lib.hid ((Stirred.of_below (hbs) []).whole HG.out List.not_mem_nil); have HR := Lib.hid ((Stirred.of_below (hbs) []).whole HR.out List.not_mem_nil); clear hbs hq))
  go_ret
  exact ⟨rfl, HB.out⟩
/-- what laying a machine's lists into a book does -/
def Laid (pb : Nat) (ls : List (Value × List Value)) (w : World) (w' : World) : Prop := ∃ vS vW, Bk w' pb vS vW ls ∧ Below pb w w' ∧ Spares w w'
set_option maxHeartbeats 8000000 in
set_option maxRecDepth 100000 in
theorem bookState_any {w : World} {pb B : Nat} {vS vW : Value} {ls : List (Value × List Value)} {vs vb vm : Value} {m : M} (h : Bk w pb vS vW ls) (ho : OwnsL w B vs vb vm m) (hpb : pb + 1 ≤ B) (hd : ∀ k ∈ blocks ls, k < B) (hls : ls.length + 3 ≤ 250)
    (h1 : m.stack.length ≤ 10000) (h2 : m.back.length ≤ 10000) (h3 : m.mem.length ≤ 10000) :
    Calls Tryz.prog 33 #[.pointer (some ⟨pb, 0, none⟩), stV m vs vb vm] w fun e w' => e = .returned (.tuple #[]) ∧ Laid pb (ls ++ [(vs, vals m.stack), (vb, vals m.back), (vm, vals m.mem)]) w w' := by
  obtain ⟨ip, hh, st, bk, me, ou, inn, rd, stt, cd⟩ := m
  simp only at ho h1 h2 h3 ⊢
  have hb1 := (Below.refl w.heap.size w).alloc (Nat.le_refl _) (.cells (cells10 ip hh vs vb vm ou inn rd stt cd) 50)
  have hn1 := heap_alloc_new w (.cells (cells10 ip hh vs vb vm ou inn rd stt cd) 50)
  obtain ⟨w1, hw1⟩ : ∃ w1, w.alloc (.cells (cells10 ip hh vs vb vm ou inn rd stt cd) 50) = w1 := ⟨_, rfl⟩
  rw [hw1] at hb1 hn1
  obtain ⟨g, hg⟩ : ∃ g, w.heap.size = g := ⟨_, rfl⟩
  rw [hg] at hn1
  have HG := Lib.hid hn1
  have HB1 := Lib.hid hb1
  have HK := Lib.hid (h.below hb1)
  have HO1 := Lib.hid (ho.st.below hb1)
  have HO2 := Lib.hid (ho.bk.below hb1)
  have HO3 := Lib.hid (ho.me.below hb1)
  have HSB := Lib.hid (And.intro ho.sb ho.bm)
  have HPB := Lib.hid hpb
  have HD := Lib.hid hd
  have HLS := Lib.hid hls
  have H1 := Lib.hid h1
  have H2 := Lib.hid h2
  have H3 := Lib.hid h3
  have HPG := Lib.hid (show pb < w.heap.size from whole_lt h.book)
  have HLW := Lib.hid (show ∀ k ∈ blocks ls, k < w.heap.size from fun k hk => (h.kept.lists.lt k hk).2)
  clear ho h hb1 hn1 hpb hd hls h1 h2 h3
  have hgb : ∀ {B v xs}, Owns w1 B 3 v xs → True := fun _ => trivial
  have C := Lib.hid (HK.out.add (by have := HLS.out; omega) HO1.out HPB.out H1.out (fun k hk hm => by have h9 := (HO1.out.block k hk).1; have h8 := HD.out k hm; omega))
  go_enter Tryz.func33, Tryz.ntmps33
  go_upto_region 1 with fail
  clear hw1 hg hgb
  go_wp2_with (first
    | (refine ld_ints (by rfl) _ rfl _ rfl _ (whole_cell HG.out rfl) ?_)
    | fail)
  refine C.out.mono ?_
  rintro e w2 ⟨rfl, vS1, vW1, hk, hb, hs⟩
  have HK2 := Lib.hid hk
  have HB2 := Lib.hid hb
  have HS2 := Lib.hid hs
  have HO1b := Lib.hid (hs.owns HO1.out)
  have HO2b := Lib.hid (hs.owns HO2.out)
  have HO3b := Lib.hid (hs.owns HO3.out)
  have HG := Lib.hid (hs _ _ _ (by decide) (by decide) HG.out)
  clear hk hb hs C
  have C := Lib.hid (HK2.out.add (by have := HLS.out; rw [List.length_append]; simp; omega) HO2b.out HPB.out H2.out (fun k hk hm => by
    rw [blocks_append, List.mem_append] at hm
    rcases hm with hm | hm
    · have h9 := (HO2.out.block k hk).1
      have h8 := HD.out k hm
      omega
    · exact (HSB.out.1 k (by simpa [blocks] using hm)).1 hk))
  go_wp2_with (first
    | (refine ld_ints (by rfl) _ rfl _ rfl _ (whole_cell HG.out rfl) ?_)
    | fail)
  refine C.out.mono ?_
  rintro e w3 ⟨rfl, vS2, vW2, hk, hb, hs⟩
  have HK3 := Lib.hid hk
  have HB3 := Lib.hid (HB2.out.trans hb)
  have HS3 := Lib.hid (HS2.out.trans hs)
  have HO3c := Lib.hid (hs.owns HO3b.out)
  have HG := Lib.hid (hs _ _ _ (by decide) (by decide) HG.out)
  clear hk hb hs C
  have C := Lib.hid (HK3.out.add (by have := HLS.out; rw [List.length_append, List.length_append]; simp; omega) HO3c.out HPB.out H3.out (fun k hk hm => by
    rw [blocks_append, blocks_append, List.mem_append, List.mem_append] at hm
    rcases hm with (hm | hm) | hm
    · have h9 := (HO3.out.block k hk).1
      have h8 := HD.out k hm
      omega
    · exact (HSB.out.1 k (by simpa [blocks] using hm)).2 hk
    · exact HSB.out.2 k (by simpa [blocks] using hm) hk))
  go_wp2_with (first
    | (refine ld_ints (by rfl) _ rfl _ rfl _ (whole_cell HG.out rfl) ?_)
    | fail)
  refine C.out.mono ?_
  rintro e w4 ⟨rfl, vS3, vW3, hk, hb, hs⟩
  have HF := Lib.hid (show Laid pb (ls ++ [(vs, vals st), (vb, vals bk), (vm, vals me)]) w w4 from ⟨vS3, vW3, by simpa using hk, ((HB1.out.mono (Nat.le_of_lt HPG.out)).trans (HB3.out.trans hb)), (Spares.of_below HB1.out).trans (HS3.out.trans hs)⟩)
  clear hk hb hs C
  go_wp2
  go_end0
  exact ⟨rfl, HF.out⟩
end Go.Proofs.YtpecingkoodmfaaGreatDoor.Mach
