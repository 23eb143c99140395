/- The statements' first call (chapter 13). -/
import Derived.Test.YtcffbeihgchpgaaGreatDoorS37
import Derived.Test.YtcffbeihgchpgaaGreatDoorS18
import Derived.Test.YtcffbeihgchpgaaGreatDoorS17
import Derived.Test.YtcffbeihgchpgaaGreatDoorS34
namespace Go.Proofs.YtcffbeihgchpgaaGreatDoor.Rec
open Go.RowKit Book Book.Wide Mem Mach Inn
set_option linter.unusedSimpArgs false
set_option linter.unusedVariables false
def aMem : List Int := ((((bootMem 48 300).set 200 6).set 201 7).set 202 3).set 203 200
def aM : M := ⟨200, 0, [1], [0], aMem, ⟨#[]⟩, ⟨#[]⟩, 0, 0, 0⟩
theorem a_rec : (recOf aM 9).start = 200 ∧ (recOf aM 9).last = 200 ∧ (recOf aM 9).loop = true ∧ (recOf aM 9).steps = [(200, 6, 0, 201), (201, 7, 0, 202), (202, 3, 200, 200)] := by decide +kernel
theorem a_right : Right aM := (rightM_iff aM).1 (by decide +kernel)
theorem a_mem : ∀ x ∈ aMem, -9223372036854775808 ≤ x ∧ x ≤ 9223372036854775807 := by decide +kernel
theorem a_cells : Cells aM := ⟨by show Cell.In 200; unfold Cell.In; omega, in0, in_one (by unfold Cell.In; omega), in_one in0, a_mem, in0⟩
theorem a_yes : rightR ⟨200, 200, true, [(200, 6, 0, 201), (201, 7, 0, 202), (202, 3, 200, 200)]⟩ = true := by decide +kernel
/-- a world in which nothing lies -/
def bareW (w : World) : World := { w with heap := #[] }
theorem no_reads {w : World} {v : Value} {x : Int} {xs : List Int} : ¬ ReadsC (bareW w) v (x :: xs) := fun ⟨⟨ao, c, e, h⟩, _⟩ => by
  obtain ⟨a, _, hc⟩ := h 0 x rfl
  have := World.block_lt_of_cell? (bareW w) _ hc
  exact absurd this (by simp [bareW])
theorem L_own {w w' : World} {B : Nat} {v : Value} {xs : List Int} (h : L (bareW w) w' B v xs) (h0 : 0 < xs.length) : Owns w' B 3 v (vals xs) := by
  rcases h with h | h
  · rcases xs with - | ⟨x, xs⟩
    · simp at h0
    · exact absurd h no_reads
  · exact h
theorem L_slice {W w' : World} {B : Nat} {v : Value} {xs : List Int} (h : L W w' B v xs) : ∃ ao c, v = .slice ao xs.length c := by
  rcases h with ⟨_, ao, c, e, _⟩ | h
  · exact ⟨ao, c, e⟩
  · have := h.slice; rw [vals_length] at this; exact this
theorem readsC_touch {w w' : World} {g n c : Nat} {xs : List Int} {ds : List Nat} (h : ReadsC w (.slice (some ⟨g, 0, none⟩) n c) xs) (hs : Stirred w w' ds) (hn : g ∉ ds) : ReadsC w' (.slice (some ⟨g, 0, none⟩) n c) xs := by
  obtain ⟨⟨ao, c1, e1, h1⟩, h2⟩ := h
  refine ⟨⟨ao, c1, e1, fun j x hx => ?_⟩, h2⟩
  obtain ⟨ad, ha, hc⟩ := h1 j x hx
  refine ⟨ad, ha, ?_⟩
  have e : ad = ⟨g, 0, none⟩ := by simp only [Value.slice.injEq] at e1; rw [ha] at e1; exact (Option.some.inj e1.1).symm
  rw [e, add_row] at hc ⊢
  exact hs.cell hn hc
set_option maxHeartbeats 16000000 in
set_option maxRecDepth 100000 in
theorem alive_any (w : World) (hE : ∀ wc, Below w.heap.size w wc → Tabs wc) :
    Calls Tryz.prog 9 #[] w fun e w' => e = .returned (.bool true) ∧ Below w.heap.size w w' := by
  have HE := Lib.hid hE
  have C := Lib.hid (refBoot_any w 300 300 (by decide) ⟨#[]⟩)
  obtain ⟨i0, HI1, HI2, HI3, HI4⟩ := int_facts
  have HI := Lib.hid (And.intro HI1 (And.intro HI2 (And.intro HI3 HI4)))
  clear hE HI1 HI2 HI3 HI4
  go_enter Tryz.func9, Tryz.ntmps9
  go_wp2_with fail
  refine C.out.mono ?_
  rintro e w1 ⟨v, rfl, ho, hb⟩
  have HB1 := Lib.hid hb
  have D := Lib.hid (refEnter_any (W := bareW w) (LM.of_owns ho (Nat.le_refl _)) hb.size 200)
  clear C ho hb
  go_wp2_with fail
  refine D.out.mono ?_
  rintro e w2 ⟨v2, rfl, ⟨vs, vb, vm, rfl, hl1, hl2, hl3⟩, hb⟩
  obtain ⟨a1, k1, rfl⟩ := L_slice hl1
  have ho2 := L_own hl2 (by decide)
  have ho3 := L_own hl3 (by show 0 < (bootMem 48 300).length; rw [bootMem_length]; decide)
  clear hl1 hl2 hl3 D
  have hlm : (bootM 300 ⟨#[]⟩).mem.length = 300 := bootMem_length 48 300
  have HMM := Lib.hid (show bootMem 48 300 = (bootM 300 ⟨#[]⟩).mem from rfl)
  have HMB := Lib.hid (show aM = { bootM 300 ⟨#[]⟩ with ip := 200, handler := 0, stack := [1], back := [0], mem := aMem, status := 0, code := 0 } from rfl)
  have hst0 : (bootM 300 ⟨#[]⟩).stack.length = 0 := rfl
  generalize bootM 300 ⟨#[]⟩ = mb at *
  simp only at ho2 ho3
  rw [hst0]
  have ho2 : Owns w2 w.heap.size 3 vb (vals [0]) := ho2
  have ho3 : Owns w2 w.heap.size 3 vm (vals mb.mem) := ho3
  obtain ⟨g2, cap2, rfl, hblk2⟩ := owns_slice ho2 (by decide)
  obtain ⟨g, cap, rfl, hblk⟩ := owns_slice ho3 (by omega)
  have HB2 := Lib.hid (HB1.out.trans (hb.mono HB1.out.size))
  have hl3 : ([0] : List Int).length = 1 := rfl
  obtain ⟨wz, b, hwz, hbb, HXz, HBz, HBG⟩ := newBox w2 zero10 24
  rw [hlm] at ho3 hblk ⊢
  have HGB := Lib.hid (show b ≠ g from fun e => by have h1 := (ho3.block g hblk).2.1; have h2 := HBG.out; omega)
  have HGB2 := Lib.hid (show b ≠ g2 ∧ w.heap.size ≤ b from ⟨fun e => by have h1 := (ho2.block g2 hblk2).2.1; have h2 := HBG.out; omega, by have h1 := HBG.out; have h2 := HB2.out.size; omega⟩)
  have HO2z := Lib.hid (ho2.below HBz.out)
  have HO3z := Lib.hid (ho3.below HBz.out)
  have HBLK := Lib.hid (And.intro hblk hblk2)
  have HLM := Lib.hid hlm
  have HB2z := Lib.hid (HB2.out.trans (HBz.out.mono HB2.out.size))
  clear hb ho2 ho3 hblk hblk2 hlm
  go_wp2_with (refine st_state (by rfl) _ _ rfl b _ rfl rfl _ _ HXz.out rfl rfl (all_one rfl rfl rfl) ?_; intro w3 hx3 ht3)
  clear hwz hbb
  have HX := Lib.hid hx3
  have HO2 := Lib.hid (HO2z.out.touch ht3 (fun k hk hm => by rw [List.mem_singleton] at hm; rw [HBLK.out.2] at hk; exact HGB2.out.1 (hm.symm.trans (Option.some.inj hk).symm)))
  have HO3 := Lib.hid (HO3z.out.touch ht3 (fun k hk hm => by rw [List.mem_singleton] at hm; rw [HBLK.out.1] at hk; exact HGB.out (hm.symm.trans (Option.some.inj hk).symm)))
  have HB3 := Lib.hid (HB2z.out.trans (ht3.below (fun k hk => by rw [List.mem_singleton.1 hk]; exact HGB2.out.2) HB2z.out.size))
  have hq : ∀ j, j < 300 → ∃ z, w3.cell? ⟨g, j, none⟩ = some (.int .i64 z) ∧ w3.frozen? ⟨g, j, none⟩ = false := fun j hj => by
    have h1 := owns_at HO3.out (j := j) (by have := HLM.out; omega)
    exact ⟨_, h1.1, h1.2⟩
  obtain ⟨z0, q200, f200⟩ := hq 200 (by decide)
  obtain ⟨z1, q201, f201⟩ := hq 201 (by decide)
  obtain ⟨z2, q202, f202⟩ := hq 202 (by decide)
  obtain ⟨z3, q203, f203⟩ := hq 203 (by decide)
  have d4 : w3.cell? ⟨b, 4, none⟩ = some (.slice (some ⟨g, 0, none⟩) 300 cap) := whole_cell HX.out rfl
  have d0 : w3.drew.cell? ⟨b, 4, none⟩ = some (.slice (some ⟨g, 0, none⟩) 300 cap) := d4
  clear hx3 ht3 hq
  go_region_held3 (fun w' => w'.cell? ⟨b, 4, none⟩ = some (.slice (some ⟨g, 0, none⟩) 300 cap))
    (first
      | with_reducible exact d0
      | with_reducible exact drewc (keep5 HGB.out d4)
      | with_reducible exact drewc (keep5 HGB.out (keep5 HGB.out d4))
      | with_reducible exact drewc (keep5 HGB.out (keep5 HGB.out (keep5 HGB.out d4)))
      | with_reducible exact drewc (keep5 HGB.out (keep5 HGB.out (keep5 HGB.out (keep5 HGB.out d4)))))
    (fail)
  have hst : Stirred w3 ((((w3.setCell ⟨g, 200, none⟩ (.int .i64 6)).setCell ⟨g, 201, none⟩ (.int .i64 7)).setCell ⟨g, 202, none⟩ (.int .i64 3)).setCell ⟨g, 203, none⟩ (.int .i64 200)).drew [g] := (((((Stirred.setCell w3 ⟨g, 200, none⟩ (.int .i64 6)).trans (Stirred.setCell _ ⟨g, 201, none⟩ (.int .i64 7)) (fun k hk => .inl hk)).trans (Stirred.setCell _ ⟨g, 202, none⟩ (.int .i64 3)) (fun k hk => .inl hk)).trans (Stirred.setCell _ ⟨g, 203, none⟩ (.int .i64 200)) (fun k hk => .inl hk))).trans (Stirred.drew _ [g]) (fun k hk => .inl hk)
  have hme : Owns ((((w3.setCell ⟨g, 200, none⟩ (.int .i64 6)).setCell ⟨g, 201, none⟩ (.int .i64 7)).setCell ⟨g, 202, none⟩ (.int .i64 3)).setCell ⟨g, 203, none⟩ (.int .i64 200)).drew w.heap.size 3 (.slice (some ⟨g, 0, none⟩) 300 cap) (vals aMem) := by
    have h1 := (((HO3.out.stored 200 (.int .i64 6)).stored 201 (.int .i64 7)).stored 202 (.int .i64 3)).stored 203 (.int .i64 200)
    rw [vals_set, vals_set, vals_set, vals_set, ← HMM.out] at h1
    exact h1
  have hbk : ReadsC ((((w3.setCell ⟨g, 200, none⟩ (.int .i64 6)).setCell ⟨g, 201, none⟩ (.int .i64 7)).setCell ⟨g, 202, none⟩ (.int .i64 3)).setCell ⟨g, 203, none⟩ (.int .i64 200)).drew (.slice (some ⟨g2, 0, none⟩) 1 cap2) [0] := by
    have h0 := ReadsC.of_owns HO2.out
    by_cases e : g2 = g
    · subst e
      obtain ⟨_, ao', c', e2, h2⟩ := h0
      simp only [Value.slice.injEq, true_and] at e2
      have hz := (owns_at hme (j := 0) (by show 0 < aMem.length; decide +kernel)).1
      have ha : aMem[0]'(by decide +kernel) = 0 := by decide +kernel
      refine ⟨⟨some ⟨g2, 0, none⟩, cap2, rfl, fun j x hx => ⟨_, rfl, ?_⟩⟩, _, _, rfl, by rw [e2.2]; exact h2⟩
      obtain rfl : j = 0 := by have := (List.getElem?_eq_some_iff.1 hx).1; simp at this; omega
      obtain rfl : (0 : Int) = x := Option.some.inj hx
      rw [add_row, hz]
      congr 2
    · exact ReadsC.of_owns (HO2.out.touch hst (fun k hk hm => by rw [List.mem_singleton] at hm; rw [HBLK.out.2] at hk; exact e ((Option.some.inj hk).trans hm)))
  have HX7 := Lib.hid (hst.whole HX.out (by rw [List.mem_singleton]; exact HGB.out))
  have hgw : w.heap.size ≤ g := (HO3.out.block g HBLK.out.1).1
  have HB7 := Lib.hid (HB3.out.trans (hst.below (B := w.heap.size) (fun k hk => by rw [List.mem_singleton.1 hk]; exact hgw) HB3.out.size))
  have HME := Lib.hid hme
  have HBK := Lib.hid hbk
  clear hst hme hgw q200 q201 q202 q203 f200 f201 f202 f203 d4 d0 hbk
  generalize ((((w3.setCell ⟨g, 200, none⟩ (.int .i64 6)).setCell ⟨g, 201, none⟩ (.int .i64 7)).setCell ⟨g, 202, none⟩ (.int .i64 3)).setCell ⟨g, 203, none⟩ (.int .i64 200)).drew = w7 at *
  go_wp2_with (first
    | (refine wpList_lit (by rfl) _ _ 1 _ rfl [1] i0 Tryz.underlying22 HI.out.1 HI.out.2.1 HI.out.2.2.1 (by decide) (by decide) rfl rfl ?_; intro gl wn hgl hol hbl; have HOL := Lib.hid hol; have HX8 := Lib.hid (boxOn HX7.out hbl); have HM8 := Lib.hid (HME.out.below hbl); have HK8 := Lib.hid (HBK.out.below hbl); have HB8 := Lib.hid (HB7.out.trans (hbl.mono HB7.out.size)); clear hgl hol hbl)
    | (refine st_ints (by rfl) _ _ rfl b 2 rfl (.slice (some ⟨gl, 0, none⟩) 1 1) rfl rfl _ _ HX8.out (by show 2 < 10; decide) ?_; intro w9 hg9 ht9; have HX9 := Lib.hid (show w9.heap[b]? = some (.cells (cells10 200 0 (.slice (some ⟨gl, 0, none⟩) 1 1) (.slice (some ⟨g2, 0, none⟩) 1 cap2) (.slice (some ⟨g, 0, none⟩) 300 cap) mb.out mb.inp mb.read 0 0) 24 (0, 0)) from hg9); have HM9 := Lib.hid (own_box HM8.out ht9 HX8.out); have HK9 := Lib.hid (readsC_touch HK8.out ht9 (fun hm => HGB2.out.1 (List.mem_singleton.1 hm).symm)); have HL9 := Lib.hid (own_box HOL.out ht9 HX8.out); have HB9 := Lib.hid (HB8.out.trans (ht9.below (fun k hk => by rw [List.mem_singleton.1 hk]; exact HGB2.out.2) HB8.out.size)); clear hg9 ht9)
    | (refine ld_state (by rfl) _ rfl _ rfl _ _ HX9.out rfl ?_))
  have HR9 := Lib.hid (show ReadsM w9 (stV { mb with ip := 200, handler := 0, stack := [1], back := [0], mem := aMem, status := 0, code := 0 } (.slice (some ⟨gl, 0, none⟩) 1 1) (.slice (some ⟨g2, 0, none⟩) 1 cap2) (.slice (some ⟨g, 0, none⟩) 300 cap)) { mb with ip := 200, handler := 0, stack := [1], back := [0], mem := aMem, status := 0, code := 0 } from ⟨_, _, _, rfl, ReadsC.of_owns HL9.out, HK9.out, ReadsC.of_owns HM9.out⟩)
  have D := Lib.hid (loop_any HR9.out (by rw [← HMB.out]; exact a_right) (by rw [← HMB.out]; exact a_cells) (by have h := congrArg M.inp HMB.out; simp only at h; show mb.inp.size ≤ maxLen; rw [← h]; exact Nat.zero_le _) (fun wc hb => HE.out wc (HB9.out.trans (hb.mono HB9.out.size))) 9)
  have hrec : recOf { mb with ip := 200, handler := 0, stack := [1], back := [0], mem := aMem, status := 0, code := 0 } (mostOf 9) = ⟨200, 200, true, [(200, 6, 0, 201), (201, 7, 0, 202), (202, 3, 200, 200)]⟩ := by
    rw [← HMB.out, show mostOf 9 = 9 by decide]
    obtain ⟨h1, h2, h3, h4⟩ := a_rec
    cases h : recOf aM 9
    rw [h] at h1 h2 h3 h4
    simp only at h1 h2 h3 h4
    rw [h1, h2, h3, h4]
  rw [hrec] at D
  clear hrec HR9 HMB HMM HL9 HK9 HM9 HX9 HX8 HM8 HK8 HOL HX7 HME HBK
  refine D.out.mono ?_
  rintro e w10 ⟨vR, rfl, hO, hb⟩
  obtain ⟨gs, cs, rfl, hc, -, hcap⟩ := hO.row (n := 3) (by decide) (by decide) (by decide)
  have HB10 := Lib.hid (HB9.out.trans (hb.mono HB9.out.size))
  obtain ⟨wx, rb, hwx, hrb, HZx, HBx, HZr⟩ := newBox w10 recZ 39
  have HO10 := Lib.hid (hO.below HBx.out)
  have HBx' := Lib.hid (HB10.out.trans (HBx.out.mono HB10.out.size))
  have HRL := Lib.hid (show w.heap.size ≤ rb by have h1 := HZr.out; have h2 := HB10.out.size; omega)
  clear hO hb hc D
  go_wp2_with (refine st_rec (by rfl) _ _ rfl rb ⟨200, 200, true, [(200, 6, 0, 201), (201, 7, 0, 202), (202, 3, 200, 200)]⟩ (.slice (some ⟨gs, 0, none⟩) 3 cs) rfl rfl rfl _ HZx.out rfl ?_; intro wh hrh hth; have HO11 := Lib.hid (HO10.out.touch hth (fun z hz hm => by rw [List.mem_singleton] at hm; subst hm; obtain ⟨_, _, c, hc⟩ := HO10.out.block z hz; have := HZx.out; rw [hc] at this; simp at this)); obtain ⟨gs', cs', e1, hc, -, -⟩ := HO11.out.row (n := 3) (by decide) (by decide) (by decide); (have e1 := e1; simp only [Value.slice.injEq, Option.some.injEq, Addr.mk.injEq, and_true, true_and] at e1; obtain ⟨rfl, rfl⟩ := e1); have k8 := hc 8 _ rfl; have k9 := hc 9 _ rfl; have k10 := hc 10 _ rfl; have k11 := hc 11 _ rfl; have r0 := whole_cell (j := 0) hrh rfl; have r1 := whole_cell (j := 1) hrh rfl; have r2 := whole_cell (j := 2) hrh rfl; have r3 := whole_cell (j := 3) hrh rfl; have heq := seen_eq 202 3 200 200; have HBh := Lib.hid (HBx'.out.trans (hth.below (fun k hk => by rw [List.mem_singleton.1 hk]; exact HRL.out) HBx'.out.size)); have G := Lib.hid (recRight_any (r := ⟨200, 200, true, [(200, 6, 0, 201), (201, 7, 0, 202), (202, 3, 200, 200)]⟩) (ReadsS.of_owns HO11.out) (by decide)); rw [a_yes] at G; clear hrh hth hc)
  refine G.out.mono ?_
  rintro e wf ⟨rfl, hb⟩
  have HBF := Lib.hid (HBh.out.trans (hb.mono HBh.out.size))
  clear hb
  go_wp2
  go_ret
  exact ⟨rfl, HBF.out⟩
end Go.Proofs.YtcffbeihgchpgaaGreatDoor.Rec
/- What is recorded does not hang on the handler; a recording of fewer steps is a longer one's beginning. -/
namespace Go.Proofs.YtcffbeihgchpgaaGreatDoor.Rec
open Mach
open Go.RowKit (wrap64)
set_option linter.unusedVariables false
set_option linter.unusedSimpArgs false
theorem fault_bare (s : M) (c : Int) : (fault { s with handler := 0 } c).status = 2 := by
  unfold fault caught
  simp
theorem fault_no {s : M} {c : Int} (h : (fault { s with handler := 0 } c).status = 0) : False := by
  rw [fault_bare] at h; exact absurd h (by decide)
theorem may_fault {s e e' A A' : M} {C : Prop} [Decidable C] {c : Int} (h : e'.status = 0) (he : e = if C then fault s c else A) (hb : e' = if C then fault { s with handler := 0 } c else A') (hA : A = { A' with handler := s.handler }) : e = { e' with handler := s.handler } := by
  by_cases hc : C
  · rw [hb, if_pos hc] at h; exact (fault_no h).elim
  · rw [he, hb, if_neg hc, if_neg hc, hA]
theorem two_ways {s e e' A A' D D' : M} {C : Prop} [Decidable C] (he : e = if C then A else D) (hb : e' = if C then A' else D') (hA : A = { A' with handler := s.handler }) (hD : D = { D' with handler := s.handler }) : e = { e' with handler := s.handler } := by
  by_cases hc : C
  · rw [he, hb, if_pos hc, if_pos hc, hA]
  · rw [he, hb, if_neg hc, if_neg hc, hD]
theorem exec_bare (s : M) (i g : Int) {k : Nat} (hk : plainOf k = true) (h : (exec k (bare s) i g).status = 0) : exec k s i g = { exec k (bare s) i g with handler := s.handler } := by
  unfold plainOf at hk
  have hk := of_decide_eq_true hk
  by_cases h1 : k ∈ [16, 20, 26, 27]
  · rw [exec_one s i g h1, exec_one (bare s) i g h1]; rfl
  by_cases h2 : k ∈ [11, 12, 13, 14, 15, 17, 18, 19, 21, 22, 23, 24, 25, 28, 29]
  · rw [exec_two (bare s) i g h2] at h
    rw [exec_two s i g h2, exec_two (bare s) i g h2]
    by_cases hc : (Cell.two k (nth s.stack 1) (nth s.stack 0)).2 = true
    · rw [if_pos hc, if_pos (show (Cell.two k (nth (bare s).stack 1) (nth (bare s).stack 0)).2 = true from hc)]; rfl
    · rw [if_neg (show ¬ (Cell.two k (nth (bare s).stack 1) (nth (bare s).stack 0)).2 = true from hc)] at h
      exact (fault_no h).elim
  have h3 : k = 2 ∨ k = 3 ∨ k = 4 ∨ k = 5 ∨ k = 6 ∨ k = 7 ∨ k = 8 ∨ k = 9 ∨ k = 10 ∨ k = 30 ∨ k = 31 ∨ k = 32 ∨ k = 33 ∨ k = 34 ∨ k = 35 ∨ k = 36 ∨ k = 37 ∨ k = 38 ∨ k = 39 ∨ k = 40 ∨ k = 41 ∨ k = 42 ∨ k = 43 ∨ k = 44 ∨ k = 47 := by
    simp only [List.mem_cons, List.not_mem_nil, or_false] at h1 h2
    omega
  clear h1 h2 hk
  rcases h3 with rfl | rfl | rfl | rfl | rfl | rfl | rfl | rfl | rfl | rfl | rfl | rfl | rfl | rfl | rfl | rfl | rfl | rfl | rfl | rfl | rfl | rfl | rfl | rfl | rfl
  all_goals first
    | rfl
    | exact may_fault h rfl rfl rfl
    | exact two_ways rfl rfl rfl rfl
theorem step_none (s : M) (h0 : s.status = 0) (hf : plainI (ld s s.ip) = true ∨ 64 ≤ ld s s.ip) (h : (Mach.step { s with handler := 0 }).status = 0) : Mach.step s = { Mach.step { s with handler := 0 } with handler := s.handler } := by
  unfold Mach.step at h ⊢
  dsimp only at h ⊢
  have hs : ¬ s.status ≠ 0 := fun e => e h0
  rw [if_neg hs] at h
  rw [if_neg hs, if_neg hs]
  by_cases h1 : s.ip < 0 ∨ (s.mem.length : Int) ≤ s.ip
  · rw [if_pos h1] at h; exact (fault_no h).elim
  rw [if_neg h1] at h
  rw [if_neg h1, if_neg h1]
  have hl : ld s s.ip = s.mem.getD s.ip.toNat 0 := by unfold ld; rw [if_neg h1]
  rw [hl] at hf
  by_cases h2 : 64 ≤ s.mem.getD s.ip.toNat 0
  · rw [if_pos h2] at h
    rw [if_pos h2, if_pos h2]
    by_cases h3 : 48 ≤ s.back.length
    · rw [if_pos h3] at h; exact (fault_no h).elim
    · rw [if_neg h3, if_neg h3]
  rw [if_neg h2] at h
  rw [if_neg h2, if_neg h2]
  by_cases h3 : s.mem.getD s.ip.toNat 0 < 0 ∨ 48 ≤ s.mem.getD s.ip.toNat 0
  · rw [if_pos h3] at h; exact (fault_no h).elim
  rw [if_neg h3] at h
  rw [if_neg h3, if_neg h3]
  have hp : plainOf (s.mem.getD s.ip.toNat 0).toNat = true := by
    rcases hf with hf | hf
    · unfold plainI at hf
      split at hf
      · exact hf
      · cases hf
    · exact absurd hf h2
  by_cases h4 : argOf (s.mem.getD s.ip.toNat 0).toNat = true ∧ s.mem.length ≤ s.ip.toNat + 1
  · rw [if_pos h4] at h; exact (fault_no h).elim
  rw [if_neg h4] at h
  rw [if_neg h4, if_neg h4]
  generalize hm : movesOf (s.mem.getD s.ip.toNat 0).toNat = mv at h ⊢
  by_cases h5 : (s.stack.length : Int) < mv.1
  · rw [if_pos h5] at h; exact (fault_no h).elim
  rw [if_neg h5] at h
  rw [if_neg h5, if_neg h5]
  by_cases h6 : (s.back.length : Int) < mv.2.1
  · rw [if_pos h6] at h; exact (fault_no h).elim
  rw [if_neg h6] at h
  rw [if_neg h6, if_neg h6]
  by_cases h7 : 48 < (s.stack.length : Int) - mv.1 + mv.2.2.1
  · rw [if_pos h7] at h; exact (fault_no h).elim
  rw [if_neg h7] at h
  rw [if_neg h7, if_neg h7]
  by_cases h8 : 48 < (s.back.length : Int) - mv.2.1 + mv.2.2.2
  · rw [if_pos h8] at h; exact (fault_no h).elim
  rw [if_neg h8] at h
  rw [if_neg h8, if_neg h8]
  exact exec_bare s _ _ hp h
theorem step_bare (s : M) (h0 : s.status = 0) (hf : plainI (ld s s.ip) = true ∨ 64 ≤ ld s s.ip) (h : (Mach.step (bare s)).status = 0) : Mach.step s = { Mach.step (bare s) with handler := s.handler } := step_none s h0 hf h
theorem bare_handler (s : M) (h0 : s.status = 0) (hf : plainI (ld s s.ip) = true ∨ 64 ≤ ld s s.ip) (h : (Mach.step (bare s)).status = 0) : (Mach.step (bare s)).handler = 0 := by
  have e := step_bare (bare s) h0 hf h
  have e2 : bare (bare s) = bare s := rfl
  rw [e2] at e
  exact congrArg M.handler e
theorem bare_back {a b : M} {h : Int} (e : a = { b with handler := h }) (hb : b.handler = 0) : b = bare a := by
  subst e
  cases b
  simp only at hb
  subst hb
  rfl
/-- what is recorded can be done again: behind as many steps the machine is where the recording ends -/
theorem tape_runs (start : Int) : ∀ (left : Nat) (l : List S) (m : M) (R0 : R), tape start left l (bare m) = R0 → m.status = 0 → ∃ (k : Nat) (t : M), R0.steps.length = l.length + k ∧ R0.steps.take l.length = l ∧ Mach.run k m = (t, 0) ∧ t.status = 0 ∧ t.ip = R0.last ∧ R0.start = start ∧ k ≤ left := by
  intro left
  induction left with
  | zero =>
    intro l m R0 hR h0
    refine ⟨0, m, ?_⟩
    unfold tape at hR
    split at hR <;> subst hR <;> exact ⟨rfl, List.take_length, rfl, h0, rfl, rfl, Nat.le_refl _⟩
  | succ n ih =>
    intro l m R0 hR h0
    unfold tape at hR
    by_cases hb : l ≠ [] ∧ (bare m).ip = start
    · rw [if_pos hb] at hR
      subst hR
      exact ⟨0, m, rfl, List.take_length, rfl, h0, rfl, rfl, Nat.zero_le _⟩
    · rw [if_neg hb] at hR
      change (if _ then _ else _) = R0 at hR
      by_cases hs : (Mach.step (bare m)).status ≠ 0 ∨ fit (see (bare m) (Mach.step (bare m)).ip) = false
      · rw [if_pos hs] at hR
        subst hR
        exact ⟨0, m, rfl, List.take_length, rfl, h0, rfl, rfl, Nat.zero_le _⟩
      · rw [if_neg hs] at hR
        have hst : (Mach.step (bare m)).status = 0 := Decidable.byContradiction fun e => hs (.inl e)
        have hf : fit (see (bare m) (Mach.step (bare m)).ip) = true := by
          cases hq : fit (see (bare m) (Mach.step (bare m)).ip) with
          | true => rfl
          | false => exact absurd (.inr hq) hs
        unfold fit at hf
        have hf := (of_decide_eq_true hf).1
        have hm := step_bare m h0 hf hst
        have hbs : Mach.step (bare m) = bare (Mach.step m) := bare_back hm (bare_handler m h0 hf hst)
        rw [hbs] at hR
        obtain ⟨k, t, h1, h2, h3, h4, h5, h6, h7⟩ := ih _ _ _ hR (by rw [hm]; exact hst)
        refine ⟨k + 1, t, by rw [h1, List.length_append]; simp; omega, ?_, ?_, h4, h5, h6, by omega⟩
        · have h8 := congrArg (List.take l.length) h2
          rw [List.take_take, List.length_append, Nat.min_eq_left (by simp), List.take_left] at h8
          exact h8
        · show (if m.status = 0 then _ else _) = _
          rw [if_pos h0]; exact h3
end Go.Proofs.YtcffbeihgchpgaaGreatDoor.Rec
