
/- The statements' first call (chapter 13). -/
import Derived.Test.YtcffbeihgchpgaaGreatDoorRecChk
import Derived.Test.YtcffbeihgchpgaaGreatDoorG21
import Derived.Test.YtcffbeihgchpgaaGreatDoorG22
namespace Go.Proofs.YtcffbeihgchpgaaGreatDoor.Rec
open Go.RowKit Book Book.Wide Mem Mach Inn
set_option linter.unusedSimpArgs false
set_option linter.unusedVariables false
def aMem : List Int := ((((bootMem 48 300).set 200 6).set 201 7).set 202 3).set 203 200
def aM : M := ⟨200, 0, [1], [0], aMem, ⟨#[]⟩, ⟨#[]⟩, 0, 0, 0⟩
theorem a_rec : (recOf aM 9).start = 200 ∧ (recOf aM 9).last = 200 ∧ (recOf aM 9).loop = true ∧ (recOf aM 9).steps = [(200, 6, 0, 201), (201, 7, 0, 202), (202, 3, 200, 200)] := by decide +kernel
theorem a_right : Right aM := (rightM_iff aM).1 (by decide +kernel)
theorem a_mem : ∀ x ∈ aMem, -9223372036854775808 ≤ x ∧ x ≤ 9223372036854775807 := by decide +kernel
theorem a_cells : Cells aM := ⟨by show Cell.In 200; unfold Cell.In; omega, in0, in_one (by unfold Cell.In; omega), in_one in0, a_mem, in0⟩
theorem a_yes : rightR ⟨200, 200, true, [(200, 6, 0, 201), (201, 7, 0, 202), (202, 3, 200, 200)]⟩ = true := by decide +kernel
/-- a world in which nothing lies -/
def bareW (w : World) : World := { w with heap := #[] }
theorem no_reads {w : World} {v : Value} {x : Int} {xs : List Int} : ¬ ReadsC (bareW w) v (x :: xs) := fun ⟨⟨ao, c, e, h⟩, _⟩ => by
  obtain ⟨a, _, hc⟩ := h 0 x rfl
  have := World.block_lt_of_cell? (bareW w) _ hc
  exact absurd this (by simp [bareW])
theorem L_own {w w' : World} {B : Nat} {v : Value} {xs : List Int} (h : L (bareW w) w' B v xs) (h0 : 0 < xs.length) : Owns w' B 3 v (vals xs) := by
  rcases h with h | h
  · rcases xs with - | ⟨x, xs⟩
    · simp at h0
    · exact absurd h no_reads
  · exact h
theorem L_slice {W w' : World} {B : Nat} {v : Value} {xs : List Int} (h : L W w' B v xs) : ∃ ao c, v = .slice ao xs.length c := by
  rcases h with ⟨_, ao, c, e, _⟩ | h
  · exact ⟨ao, c, e⟩
  · have := h.slice; rw [vals_length] at this; exact this
theorem readsC_touch {w w' : World} {g n c : Nat} {xs : List Int} {ds : List Nat} (h : ReadsC w (.slice (some ⟨g, 0, none⟩) n c) xs) (hs : Stirred w w' ds) (hn : g ∉ ds) : ReadsC w' (.slice (some ⟨g, 0, none⟩) n c) xs := by
  obtain ⟨⟨ao, c1, e1, h1⟩, h2⟩ := h
  refine ⟨⟨ao, c1, e1, fun j x hx => ?_⟩, h2⟩
  obtain ⟨ad, ha, hc⟩ := h1 j x hx
  refine ⟨ad, ha, ?_⟩
  have e : ad = ⟨g, 0, none⟩ := by simp only [Value.slice.injEq] at e1; rw [ha] at e1; exact (Option.some.inj e1.1).symm
  rw [e, add_row] at hc ⊢
  exact hs.cell hn hc
set_option maxHeartbeats 16000000 in
set_option maxRecDepth 100000 in
theorem alive_any (w : World) (hE : ∀ wc, Below w.heap.size w wc → Tabs wc) :
    Calls Tryz.prog 9 #[] w fun e w' => e = .returned (.bool true) ∧ Below w.heap.size w w' := by
  have HE := Lib.hid hE
  have C := Lib.hid (refBoot_any w 300 300 (by decide) ⟨#[]⟩)
  obtain ⟨i0, HI1, HI2, HI3, HI4⟩ := int_facts
  have HI := Lib.hid (And.intro HI1 (And.intro HI2 (And.intro HI3 HI4)))
  clear hE HI1 HI2 HI3 HI4
  go_enter Tryz.func9, Tryz.ntmps9
  go_wp2_with fail
  refine C.out.mono ?_
  rintro e w1 ⟨v, rfl, ho, hb⟩
  have HB1 := Lib.hid hb
  have D := Lib.hid (refEnter_any (W := bareW w) (LM.of_owns ho (Nat.le_refl _)) hb.size 200)
  clear C ho hb
  go_wp2_with fail
  refine D.out.mono ?_
  rintro e w2 ⟨v2, rfl, ⟨vs, vb, vm, rfl, hl1, hl2, hl3⟩, hb⟩
  obtain ⟨a1, k1, rfl⟩ := L_slice hl1
  have ho2 := L_own hl2 (by decide)
  have ho3 := L_own hl3 (by show 0 < (bootMem 48 300).length; rw [bootMem_length]; decide)
  clear hl1 hl2 hl3 D
  have hlm : (bootM 300 ⟨#[]⟩).mem.length = 300 := bootMem_length 48 300
  have HMM := Lib.hid (show bootMem 48 300 = (bootM 300 ⟨#[]⟩).mem from rfl)
  have HMB := Lib.hid (show aM = { bootM 300 ⟨#[]⟩ with ip := 200, handler := 0, stack := [1], back := [0], mem := aMem, status := 0, code := 0 } from rfl)
  have hst0 : (bootM 300 ⟨#[]⟩).stack.length = 0 := rfl
  generalize bootM 300 ⟨#[]⟩ = mb at *
  simp only at ho2 ho3
  rw [hst0]
  have ho2 : Owns w2 w.heap.size 3 vb (vals [0]) := ho2
  have ho3 : Owns w2 w.heap.size 3 vm (vals mb.mem) := ho3
  obtain ⟨g2, cap2, rfl, hblk2⟩ := owns_slice ho2 (by decide)
  obtain ⟨g, cap, rfl, hblk⟩ := owns_slice ho3 (by omega)
  have HB2 := Lib.hid (HB1.out.trans (hb.mono HB1.out.size))
  have hl3 : ([0] : List Int).length = 1 := rfl
  obtain ⟨wz, b, hwz, hbb, HXz, HBz, HBG⟩ := newBox w2 zero10 24
  rw [hlm] at ho3 hblk ⊢
  have HGB := Lib.hid (show b ≠ g from fun e => by have h1 := (ho3.block g hblk).2.1; have h2 := HBG.out; omega)
  have HGB2 := Lib.hid (show b ≠ g2 ∧ w.heap.size ≤ b from ⟨fun e => by have h1 := (ho2.block g2 hblk2).2.1; have h2 := HBG.out; omega, by have h1 := HBG.out; have h2 := HB2.out.size; omega⟩)
  have HO2z := Lib.hid (ho2.below HBz.out)
  have HO3z := Lib.hid (ho3.below HBz.out)
  have HBLK := Lib.hid (And.intro hblk hblk2)
  have HLM := Lib.hid hlm
  have HB2z := Lib.hid (HB2.out.trans (HBz.out.mono HB2.out.size))
  clear hb ho2 ho3 hblk hblk2 hlm
  go_wp2_with (refine st_state (by rfl) _ _ rfl b _ rfl rfl _ _ HXz.out rfl rfl (all_one rfl rfl rfl) ?_; intro w3 hx3 ht3)
  clear hwz hbb
  have HX := Lib.hid hx3
  have HO2 := Lib.hid (HO2z.out.touch ht3 (fun k hk hm => by rw [List.mem_singleton] at hm; rw [HBLK.out.2] at hk; exact HGB2.out.1 (hm.symm.trans (Option.some.inj hk).symm)))
  have HO3 := Lib.hid (HO3z.out.touch ht3 (fun k hk hm => by rw [List.mem_singleton] at hm; rw [HBLK.out.1] at hk; exact HGB.out (hm.symm.trans (Option.some.inj hk).symm)))
  have HB3 := Lib.hid (HB2z.out.trans (ht3.below (fun k hk => by rw [List.mem_singleton.1 hk]; exact HGB2.out.2) HB2z.out.size))
  have hq : ∀ j, j < 300 → ∃ z, w3.cell? ⟨g, j, none⟩ = some (.int .i64 z) ∧ w3.frozen? ⟨g, j, none⟩ = false := fun j hj => by
    have h1 := owns_at HO3.out (j := j) (by have := HLM.out; omega)
    exact ⟨_, h1.1, h1.2⟩
  obtain ⟨z0, q200, f200⟩ := hq 200 (by decide)
  obtain ⟨z1, q201, f201⟩ := hq 201 (by decide)
  obtain ⟨z2, q202, f202⟩ := hq 202 (by decide)
  obtain ⟨z3, q203, f203⟩ := hq 203 (by decide)
  have d4 : w3.cell? ⟨b, 4, none⟩ = some (.slice (some ⟨g, 0, none⟩) 300 cap) := whole_cell HX.out rfl
  have d0 : w3.drew.cell? ⟨b, 4, none⟩ = some (.slice (some ⟨g, 0, none⟩) 300 cap) := d4
  clear hx3 ht3 hq
  go_region_held3 (fun w' => w'.cell? ⟨b, 4, none⟩ = some (.slice (some ⟨g, 0, none⟩) 300 cap))
    (first
      | with_reducible exact d0
      | with_reducible exact drewc (keep5 HGB.out d4)
      | with_reducible exact drewc (keep5 HGB.out (keep5 HGB.out d4))
      | with_reducible exact drewc (keep5 HGB.out (keep5 HGB.out (keep5 HGB.out d4)))
      | with_reducible exact drewc (keep5 HGB.out (keep5 HGB.out (keep5 HGB.out (keep5 HGB.out d4)))))
    (fail)
  have hst : Stirred w3 ((((w3.setCell ⟨g, 200, none⟩ (.int .i64 6)).setCell ⟨g, 201, none⟩ (.int .i64 7)).setCell ⟨g, 202, none⟩ (.int .i64 3)).setCell ⟨g, 203, none⟩ (.int .i64 200)).drew [g] := (((((Stirred.setCell w3 ⟨g, 200, none⟩ (.int .i64 6)).trans (Stirred.setCell _ ⟨g, 201, none⟩ (.int .i64 7)) (fun k hk => .inl hk)).trans (Stirred.setCell _ ⟨g, 202, none⟩ (.int .i64 3)) (fun k hk => .inl hk)).trans (Stirred.setCell _ ⟨g, 203, none⟩ (.int .i64 200)) (fun k hk => .inl hk))).trans (Stirred.drew _ [g]) (fun k hk => .inl hk)
  have hme : Owns ((((w3.setCell ⟨g, 200, none⟩ (.int .i64 6)).setCell ⟨g, 201, none⟩ (.int .i64 7)).setCell ⟨g, 202, none⟩ (.int .i64 3)).setCell ⟨g, 203, none⟩ (.int .i64 200)).drew w.heap.size 3 (.slice (some ⟨g, 0, none⟩) 300 cap) (vals aMem) := by
    have h1 := (((HO3.out.stored 200 (.int .i64 6)).stored 201 (.int .i64 7)).stored 202 (.int .i64 3)).stored 203 (.int .i64 200)
    rw [vals_set, vals_set, vals_set, vals_set, ← HMM.out] at h1
    exact h1
  have hbk : ReadsC ((((w3.setCell ⟨g, 200, none⟩ (.int .i64 6)).setCell ⟨g, 201, none⟩ (.int .i64 7)).setCell ⟨g, 202, none⟩ (.int .i64 3)).setCell ⟨g, 203, none⟩ (.int .i64 200)).drew (.slice (some ⟨g2, 0, none⟩) 1 cap2) [0] := by
    have h0 := ReadsC.of_owns HO2.out
    by_cases e : g2 = g
    · subst e
      obtain ⟨_, ao', c', e2, h2⟩ := h0
      simp only [Value.slice.injEq, true_and] at e2
      have hz := (owns_at hme (j := 0) (by show 0 < aMem.length; decide +kernel)).1
      have ha : aMem[0]'(by decide +kernel) = 0 := by decide +kernel
      refine ⟨⟨some ⟨g2, 0, none⟩, cap2, rfl, fun j x hx => ⟨_, rfl, ?_⟩⟩, _, _, rfl, by rw [e2.2]; exact h2⟩
      obtain rfl : j = 0 := by have := (List.getElem?_eq_some_iff.1 hx).1; simp at this; omega
      obtain rfl : (0 : Int) = x := Option.some.inj hx
      rw [add_row, hz]
      congr 2
    · exact ReadsC.of_owns (HO2.out.touch hst (fun k hk hm => by rw [List.mem_singleton] at hm; rw [HBLK.out.2] at hk; exact e ((Option.some.inj hk).trans hm)))
  have HX7 := Lib.hid (hst.whole HX.out (by rw [List.mem_singleton]; exact HGB.out))
  have hgw : w.heap.size ≤ g := (HO3.out.block g HBLK.out.1).1
  have HB7 := Lib.hid (HB3.out.trans (hst.below (B := w.heap.size) (fun k hk => by rw [List.mem_singleton.1 hk]; exact hgw) HB3.out.size))
  have HME := Lib.hid hme
  have HBK := Lib.hid hbk
  clear hst hme hgw q200 q201 q202 q203 f200 f201 f202 f203 d4 d0 hbk
  generalize ((((w3.setCell ⟨g, 200, none⟩ (.int .i64 6)).setCell ⟨g, 201, none⟩ (.int .i64 7)).setCell ⟨g, 202, none⟩ (.int .i64 3)).setCell ⟨g, 203, none⟩ (.int .i64 200)).drew = w7 at *
  go_wp2_with (first
    | (refine wpList_lit (by rfl) _ _ 1 _ rfl [1] i0 Tryz.underlying22 HI.out.1 HI.out.2.1 HI.out.2.2.1 (by decide) (by decide) rfl rfl ?_; intro gl wn hgl hol hbl; have HOL := Lib.hid hol; have HX8 := Lib.hid (boxOn HX7.out hbl); have HM8 := Lib.hid (HME.out.below hbl); have HK8 := Lib.hid (HBK.out.below hbl); have HB8 := Lib.hid (HB7.out.trans (hbl.mono HB7.out.size)); clear hgl hol hbl)
    | (refine st_ints (by rfl) _ _ rfl b 2 rfl (.slice (some ⟨gl, 0, none⟩) 1 1) rfl rfl _ _ HX8.out (by show 2 < 10; decide) ?_; intro w9 hg9 ht9; have HX9 := Lib.hid (show w9.heap[b]? = some (.cells (cells10 200 0 (.slice (some ⟨gl, 0, none⟩) 1 1) (.slice (some ⟨g2, 0, none⟩) 1 cap2) (.slice (some ⟨g, 0, none⟩) 300 cap) mb.out mb.inp mb.read 0 0) 24 (0, 0)) from hg9); have HM9 := Lib.hid (own_box HM8.out ht9 HX8.out); have HK9 := Lib.hid (readsC_touch HK8.out ht9 (fun hm => HGB2.out.1 (List.mem_singleton.1 hm).symm)); have HL9 := Lib.hid (own_box HOL.out ht9 HX8.out); have HB9 := Lib.hid (HB8.out.trans (ht9.below (fun k hk => by rw [List.mem_singleton.1 hk]; exact HGB2.out.2) HB8.out.size)); clear hg9 ht9)
    | (refine ld_state (by rfl) _ rfl _ rfl _ _ HX9.out rfl ?_))
  have HR9 := Lib.hid (show ReadsM w9 (stV { mb with ip := 200, handler := 0, stack := [1], back := [0], mem := aMem, status := 0, code := 0 } (.slice (some ⟨gl, 0, none⟩) 1 1) (.slice (some ⟨g2, 0, none⟩) 1 cap2) (.slice (some ⟨g, 0, none⟩) 300 cap)) { mb with ip := 200, handler := 0, stack := [1], back := [0], mem := aMem, status := 0, code := 0 } from ⟨_, _, _, rfl, ReadsC.of_owns HL9.out, HK9.out, ReadsC.of_owns HM9.out⟩)
  have D := Lib.hid (loop_any HR9.out (by rw [← HMB.out]; exact a_right) (by rw [← HMB.out]; exact a_cells) (by have h := congrArg M.inp HMB.out; simp only at h; show mb.inp.size ≤ maxLen; rw [← h]; exact Nat.zero_le _) (fun wc hb => HE.out wc (HB9.out.trans (hb.mono HB9.out.size))) 9)
  have hrec : recOf { mb with ip := 200, handler := 0, stack := [1], back := [0], mem := aMem, status := 0, code := 0 } (mostOf 9) = ⟨200, 200, true, [(200, 6, 0, 201), (201, 7, 0, 202), (202, 3, 200, 200)]⟩ := by
    rw [← HMB.out, show mostOf 9 = 9 by decide]
    obtain ⟨h1, h2, h3, h4⟩ := a_rec
    cases h : recOf aM 9
    rw [h] at h1 h2 h3 h4
    simp only at h1 h2 h3 h4
    rw [h1, h2, h3, h4]
  rw [hrec] at D
  clear hrec HR9 HMB HMM HL9 HK9 HM9 HX9 HX8 HM8 HK8 HOL HX7 HME HBK
  refine D.out.mono ?_
  rintro e w10 ⟨vR, rfl, hO, hb⟩
  obtain ⟨gs, cs, rfl, hc, -, hcap⟩ := hO.row (n := 3) (by decide) (by decide) (by decide)
  have HB10 := Lib.hid (HB9.out.trans (hb.mono HB9.out.size))
  obtain ⟨wx, rb, hwx, hrb, HZx, HBx, HZr⟩ := newBox w10 recZ 39
  have HO10 := Lib.hid (hO.below HBx.out)
  have HBx' := Lib.hid (HB10.out.trans (HBx.out.mono HB10.out.size))
  have HRL := Lib.hid (show w.heap.size ≤ rb by have h1 := HZr.out; have h2 := HB10.out.size; omega)
  clear hO hb hc D
  go_wp2_with (refine st_rec (by rfl) _ _ rfl rb ⟨200, 200, true, [(200, 6, 0, 201), (201, 7, 0, 202), (202, 3, 200, 200)]⟩ (.slice (some ⟨gs, 0, none⟩) 3 cs) rfl rfl rfl _ HZx.out rfl ?_; intro wh hrh hth; have HO11 := Lib.hid (HO10.out.touch hth (fun z hz hm => by rw [List.mem_singleton] at hm; subst hm; obtain ⟨_, _, c, hc⟩ := HO10.out.block z hz; have := HZx.out; rw [hc] at this; simp at this)); obtain ⟨gs', cs', e1, hc, -, -⟩ := HO11.out.row (n := 3) (by decide) (by decide) (by decide); (have e1 := e1; simp only [Value.slice.injEq, Option.some.injEq, Addr.mk.injEq, and_true, true_and] at e1; obtain ⟨rfl, rfl⟩ := e1); have k8 := hc 8 _ rfl; have k9 := hc 9 _ rfl; have k10 := hc 10 _ rfl; have k11 := hc 11 _ rfl; have r0 := whole_cell (j := 0) hrh rfl; have r1 := whole_cell (j := 1) hrh rfl; have r2 := whole_cell (j := 2) hrh rfl; have r3 := whole_cell (j := 3) hrh rfl; have heq := seen_eq 202 3 200 200; have HBh := Lib.hid (HBx'.out.trans (hth.below (fun k hk => by rw [List.mem_singleton.1 hk]; exact HRL.out) HBx'.out.size)); have G := Lib.hid (recRight_any (r := ⟨200, 200, true, [(200, 6, 0, 201), (201, 7, 0, 202), (202, 3, 200, 200)]⟩) (ReadsS.of_owns HO11.out) (by decide)); rw [a_yes] at G; clear hrh hth hc)
  refine G.out.mono ?_
  rintro e wf ⟨rfl, hb⟩
  have HBF := Lib.hid (HBh.out.trans (hb.mono HBh.out.size))
  clear hb
  go_wp2
  go_ret
  exact ⟨rfl, HBF.out⟩
end Go.Proofs.YtcffbeihgchpgaaGreatDoor.Rec
