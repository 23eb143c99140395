/- What is proved: hollowaylaw13.RecordCells answers true for every input, and its arguments read afterwards as before; the listed package variables start as the program's text lays them (the card ties them). -/
import Derived.Test.YtlomfmilohbgpaaGreatDoorK8
import Derived.Test.YtlomfmilohbgpaaGreatDoorK5
import Derived.Test.YtlomfmilohbgpaaGreatDoorK7
import Derived.Test.YtlomfmilohbgpaaGreatDoorRefCopy
import Derived.Test.YtlomfmilohbgpaaGreatDoorK6
import Derived.BigQuiet
import Derived.Deep.QuietTactic
import Derived.Deep.LoopGhost
import Derived.Deep.DeepCutAuto
import Derived.Test.YtlomfmilohbgpaaGreatDoorRows
import Derived.Test.YtlomfmilohbgpaaGreatDoorCards
import Derived.Test.YtlomfmilohbgpaaGreatDoorTie
import Derived.WalkKit
import Derived.ProofKit
import Derived.OpenShut
import Derived.ChangeSame
import Derived.ChangeVars
import Derived.JoinedOf
import Derived.RowKitTokens
import Derived.LaidLaws
import Derived.LaidHandle
import Derived.Stop.Joined
import Derived.SevenTiedAt
import Derived.Carry
/- The statements' first call (chapter 13). -/
namespace Go.Proofs.YtlomfmilohbgpaaGreatDoor.Rec
open Go.RowKit Book Book.Wide Mem Mach Inn
set_option linter.unusedSimpArgs false
set_option linter.unusedVariables false
def aMem : List Int := ((((bootMem 48 300).set 200 6).set 201 7).set 202 3).set 203 200
def aM : M := ⟨200, 0, [1], [0], aMem, ⟨#[]⟩, ⟨#[]⟩, 0, 0, 0⟩
theorem a_rec : (recOf aM 9).start = 200 ∧ (recOf aM 9).last = 200 ∧ (recOf aM 9).loop = true ∧ (recOf aM 9).steps = [(200, 6, 0, 201), (201, 7, 0, 202), (202, 3, 200, 200)] := by decide +kernel
theorem a_right : Right aM := (rightM_iff aM).1 (by decide +kernel)
theorem a_mem : ∀ x ∈ aMem, -9223372036854775808 ≤ x ∧ x ≤ 9223372036854775807 := by decide +kernel
theorem a_cells : Cells aM := ⟨by show Cell.In 200; unfold Cell.In; omega, in0, in_one (by unfold Cell.In; omega), in_one in0, a_mem, in0⟩
theorem a_yes : rightR ⟨200, 200, true, [(200, 6, 0, 201), (201, 7, 0, 202), (202, 3, 200, 200)]⟩ = true := by decide +kernel
/-- a world in which nothing lies -/
def bareW (w : World) : World := { w with heap := #[] }
theorem no_reads {w : World} {v : Value} {x : Int} {xs : List Int} : ¬ ReadsC (bareW w) v (x :: xs) := fun ⟨⟨ao, c, e, h⟩, _⟩ => by
  obtain ⟨a, _, hc⟩ := h 0 x rfl
  have := World.block_lt_of_cell? (bareW w) _ hc
  exact absurd this (by simp [bareW])
theorem L_own {w w' : World} {B : Nat} {v : Value} {xs : List Int} (h : L (bareW w) w' B v xs) (h0 : 0 < xs.length) : Owns w' B 3 v (vals xs) := by
  rcases h with h | h
  · rcases xs with - | ⟨x, xs⟩
    · simp at h0
    · exact absurd h no_reads
  · exact h
theorem L_slice {W w' : World} {B : Nat} {v : Value} {xs : List Int} (h : L W w' B v xs) : ∃ ao c, v = .slice ao xs.length c := by
  rcases h with ⟨_, ao, c, e, _⟩ | h
  · exact ⟨ao, c, e⟩
  · have := h.slice; rw [vals_length] at this; exact this
theorem readsC_touch {w w' : World} {g n c : Nat} {xs : List Int} {ds : List Nat} (h : ReadsC w (.slice (some ⟨g, 0, none⟩) n c) xs) (hs : Stirred w w' ds) (hn : g ∉ ds) : ReadsC w' (.slice (some ⟨g, 0, none⟩) n c) xs := by
  obtain ⟨⟨ao, c1, e1, h1⟩, h2⟩ := h
  refine ⟨⟨ao, c1, e1, fun j x hx => ?_⟩, h2⟩
  obtain ⟨ad, ha, hc⟩ := h1 j x hx
  refine ⟨ad, ha, ?_⟩
  have e : ad = ⟨g, 0, none⟩ := by simp only [Value.slice.injEq] at e1; rw [ha] at e1; exact (Option.some.inj e1.1).symm
  rw [e, add_row] at hc ⊢
  exact hs.cell hn hc
set_option maxHeartbeats 16000000 in
set_option maxRecDepth 100000 in
theorem alive_any (w : World) (hE : ∀ wc, Below w.heap.size w wc → Tabs wc) :
    Calls Tryz.prog 5 #[] w fun e w' => e = .returned (.bool true) ∧ Below w.heap.size w w' := by
  have HE := Lib.hid hE
  have C := Lib.hid (refBoot_any w 300 300 (by decide) ⟨#[]⟩)
  obtain ⟨i0, HI1, HI2, HI3, HI4⟩ := int_facts
  have HI := Lib.hid (And.intro HI1 (And.intro HI2 (And.intro HI3 HI4)))
  clear hE HI1 HI2 HI3 HI4
  go_enter Tryz.func5, Tryz.ntmps5
  go_wp2_with fail
  refine C.out.mono ?_
  rintro e w1 ⟨v, rfl, ho, hb⟩
  have HB1 := Lib.hid hb
  have D := Lib.hid (refEnter_any (W := bareW w) (LM.of_owns ho (Nat.le_refl _)) hb.size 200)
  clear C ho hb
  go_wp2_with fail
  refine D.out.mono ?_
  rintro e w2 ⟨v2, rfl, ⟨vs, vb, vm, rfl, hl1, hl2, hl3⟩, hb⟩
  obtain ⟨a1, k1, rfl⟩ := L_slice hl1
  have ho2 := L_own hl2 (by decide)
  have ho3 := L_own hl3 (by show 0 < (bootMem 48 300).length; rw [bootMem_length]; decide)
  clear hl1 hl2 hl3 D
  have hlm : (bootM 300 ⟨#[]⟩).mem.length = 300 := bootMem_length 48 300
  have HMM := Lib.hid (show bootMem 48 300 = (bootM 300 ⟨#[]⟩).mem from rfl)
  have HMB := Lib.hid (show aM = { bootM 300 ⟨#[]⟩ with ip := 200, handler := 0, stack := [1], back := [0], mem := aMem, status := 0, code := 0 } from rfl)
  have hst0 : (bootM 300 ⟨#[]⟩).stack.length = 0 := rfl
  generalize bootM 300 ⟨#[]⟩ = mb at *
  simp only at ho2 ho3
  rw [hst0]
  have ho2 : Owns w2 w.heap.size 3 vb (vals [0]) := ho2
  have ho3 : Owns w2 w.heap.size 3 vm (vals mb.mem) := ho3
  obtain ⟨g2, cap2, rfl, hblk2⟩ := owns_slice ho2 (by decide)
  obtain ⟨g, cap, rfl, hblk⟩ := owns_slice ho3 (by omega)
  have HB2 := Lib.hid (HB1.out.trans (hb.mono HB1.out.size))
  have hl3 : ([0] : List Int).length = 1 := rfl
  obtain ⟨wz, b, hwz, hbb, HXz, HBz, HBG⟩ := newBox w2 zero10 24
  rw [hlm] at ho3 hblk ⊢
  have HGB := Lib.hid (show b ≠ g from fun e => by have h1 := (ho3.block g hblk).2.1; have h2 := HBG.out; omega)
  have HGB2 := Lib.hid (show b ≠ g2 ∧ w.heap.size ≤ b from ⟨fun e => by have h1 := (ho2.block g2 hblk2).2.1; have h2 := HBG.out; omega, by have h1 := HBG.out; have h2 := HB2.out.size; omega⟩)
  have HO2z := Lib.hid (ho2.below HBz.out)
  have HO3z := Lib.hid (ho3.below HBz.out)
  have HBLK := Lib.hid (And.intro hblk hblk2)
  have HLM := Lib.hid hlm
  have HB2z := Lib.hid (HB2.out.trans (HBz.out.mono HB2.out.size))
  clear hb ho2 ho3 hblk hblk2 hlm
  go_wp2_with (refine st_state (by rfl) _ _ rfl b _ rfl rfl _ _ HXz.out rfl rfl (all_one rfl rfl rfl) ?_; intro w3 hx3 ht3)
  clear hwz hbb
  have HX := Lib.hid hx3
  have HO2 := Lib.hid (HO2z.out.touch ht3 (fun k hk hm => by rw [List.mem_singleton] at hm; rw [HBLK.out.2] at hk; exact HGB2.out.1 (hm.symm.trans (Option.some.inj hk).symm)))
  have HO3 := Lib.hid (HO3z.out.touch ht3 (fun k hk hm => by rw [List.mem_singleton] at hm; rw [HBLK.out.1] at hk; exact HGB.out (hm.symm.trans (Option.some.inj hk).symm)))
  have HB3 := Lib.hid (HB2z.out.trans (ht3.below (fun k hk => by rw [List.mem_singleton.1 hk]; exact HGB2.out.2) HB2z.out.size))
  have hq : ∀ j, j < 300 → ∃ z, w3.cell? ⟨g, j, none⟩ = some (.int .i64 z) ∧ w3.frozen? ⟨g, j, none⟩ = false := fun j hj => by
    have h1 := owns_at HO3.out (j := j) (by have := HLM.out; omega)
    exact ⟨_, h1.1, h1.2⟩
  obtain ⟨z0, q200, f200⟩ := hq 200 (by decide)
  obtain ⟨z1, q201, f201⟩ := hq 201 (by decide)
  obtain ⟨z2, q202, f202⟩ := hq 202 (by decide)
  obtain ⟨z3, q203, f203⟩ := hq 203 (by decide)
  have d4 : w3.cell? ⟨b, 4, none⟩ = some (.slice (some ⟨g, 0, none⟩) 300 cap) := whole_cell HX.out rfl
  have d0 : w3.drew.cell? ⟨b, 4, none⟩ = some (.slice (some ⟨g, 0, none⟩) 300 cap) := d4
  clear hx3 ht3 hq
  go_region_held3 (fun w' => w'.cell? ⟨b, 4, none⟩ = some (.slice (some ⟨g, 0, none⟩) 300 cap))
    (first
      | with_reducible exact d0
      | with_reducible exact drewc (keep5 HGB.out d4)
      | with_reducible exact drewc (keep5 HGB.out (keep5 HGB.out d4))
      | with_reducible exact drewc (keep5 HGB.out (keep5 HGB.out (keep5 HGB.out d4)))
      | with_reducible exact drewc (keep5 HGB.out (keep5 HGB.out (keep5 HGB.out (keep5 HGB.out d4)))))
    (fail)
  have hst : Stirred w3 ((((w3.setCell ⟨g, 200, none⟩ (.int .i64 6)).setCell ⟨g, 201, none⟩ (.int .i64 7)).setCell ⟨g, 202, none⟩ (.int .i64 3)).setCell ⟨g, 203, none⟩ (.int .i64 200)).drew [g] := (((((Stirred.setCell w3 ⟨g, 200, none⟩ (.int .i64 6)).trans (Stirred.setCell _ ⟨g, 201, none⟩ (.int .i64 7)) (fun k hk => .inl hk)).trans (Stirred.setCell _ ⟨g, 202, none⟩ (.int .i64 3)) (fun k hk => .inl hk)).trans (Stirred.setCell _ ⟨g, 203, none⟩ (.int .i64 200)) (fun k hk => .inl hk))).trans (Stirred.drew _ [g]) (fun k hk => .inl hk)
  have hme : Owns ((((w3.setCell ⟨g, 200, none⟩ (.int .i64 6)).setCell ⟨g, 201, none⟩ (.int .i64 7)).setCell ⟨g, 202, none⟩ (.int .i64 3)).setCell ⟨g, 203, none⟩ (.int .i64 200)).drew w.heap.size 3 (.slice (some ⟨g, 0, none⟩) 300 cap) (vals aMem) := by
    have h1 := (((HO3.out.stored 200 (.int .i64 6)).stored 201 (.int .i64 7)).stored 202 (.int .i64 3)).stored 203 (.int .i64 200)
    rw [vals_set, vals_set, vals_set, vals_set, ← HMM.out] at h1
    exact h1
  have hbk : ReadsC ((((w3.setCell ⟨g, 200, none⟩ (.int .i64 6)).setCell ⟨g, 201, none⟩ (.int .i64 7)).setCell ⟨g, 202, none⟩ (.int .i64 3)).setCell ⟨g, 203, none⟩ (.int .i64 200)).drew (.slice (some ⟨g2, 0, none⟩) 1 cap2) [0] := by
    have h0 := ReadsC.of_owns HO2.out
    by_cases e : g2 = g
    · subst e
      obtain ⟨_, ao', c', e2, h2⟩ := h0
      simp only [Value.slice.injEq, true_and] at e2
      have hz := (owns_at hme (j := 0) (by show 0 < aMem.length; decide +kernel)).1
      have ha : aMem[0]'(by decide +kernel) = 0 := by decide +kernel
      refine ⟨⟨some ⟨g2, 0, none⟩, cap2, rfl, fun j x hx => ⟨_, rfl, ?_⟩⟩, _, _, rfl, by rw [e2.2]; exact h2⟩
      obtain rfl : j = 0 := by have := (List.getElem?_eq_some_iff.1 hx).1; simp at this; omega
      obtain rfl : (0 : Int) = x := Option.some.inj hx
      rw [add_row, hz]
      congr 2
    · exact ReadsC.of_owns (HO2.out.touch hst (fun k hk hm => by rw [List.mem_singleton] at hm; rw [HBLK.out.2] at hk; exact e ((Option.some.inj hk).trans hm)))
  have HX7 := Lib.hid (hst.whole HX.out (by rw [List.mem_singleton]; exact HGB.out))
  have hgw : w.heap.size ≤ g := (HO3.out.block g HBLK.out.1).1
  have HB7 := Lib.hid (HB3.out.trans (hst.below (B := w.heap.size) (fun k hk => by rw [List.mem_singleton.1 hk]; exact hgw) HB3.out.size))
  have HME := Lib.hid hme
  have HBK := Lib.hid hbk
  clear hst hme hgw q200 q201 q202 q203 f200 f201 f202 f203 d4 d0 hbk
  generalize ((((w3.setCell ⟨g, 200, none⟩ (.int .i64 6)).setCell ⟨g, 201, none⟩ (.int .i64 7)).setCell ⟨g, 202, none⟩ (.int .i64 3)).setCell ⟨g, 203, none⟩ (.int .i64 200)).drew = w7 at *
  go_wp2_with (first
    | (refine wpList_lit (by rfl) _ _ 1 _ rfl [1] i0 Tryz.underlying22 HI.out.1 HI.out.2.1 HI.out.2.2.1 (by decide) (by decide) rfl rfl ?_; intro gl wn hgl hol hbl; have HOL := Lib.hid hol; have HX8 := Lib.hid (boxOn HX7.out hbl); have HM8 := Lib.hid (HME.out.below hbl); have HK8 := Lib.hid (HBK.out.below hbl); have HB8 := Lib.hid (HB7.out.trans (hbl.mono HB7.out.size)); clear hgl hol hbl)
    | (refine st_ints (by rfl) _ _ rfl b 2 rfl (.slice (some ⟨gl, 0, none⟩) 1 1) rfl rfl _ _ HX8.out (by show 2 < 10; decide) ?_; intro w9 hg9 ht9; have HX9 := Lib.hid (show w9.heap[b]? = some (.cells (cells10 200 0 (.slice (some ⟨gl, 0, none⟩) 1 1) (.slice (some ⟨g2, 0, none⟩) 1 cap2) (.slice (some ⟨g, 0, none⟩) 300 cap) mb.out mb.inp mb.read 0 0) 24 (0, 0)) from hg9); have HM9 := Lib.hid (own_box HM8.out ht9 HX8.out); have HK9 := Lib.hid (readsC_touch HK8.out ht9 (fun hm => HGB2.out.1 (List.mem_singleton.1 hm).symm)); have HL9 := Lib.hid (own_box HOL.out ht9 HX8.out); have HB9 := Lib.hid (HB8.out.trans (ht9.below (fun k hk => by rw [List.mem_singleton.1 hk]; exact HGB2.out.2) HB8.out.size)); clear hg9 ht9)
    | (refine ld_state (by rfl) _ rfl _ rfl _ _ HX9.out rfl ?_))
  have HR9 := Lib.hid (show ReadsM w9 (stV { mb with ip := 200, handler := 0, stack := [1], back := [0], mem := aMem, status := 0, code := 0 } (.slice (some ⟨gl, 0, none⟩) 1 1) (.slice (some ⟨g2, 0, none⟩) 1 cap2) (.slice (some ⟨g, 0, none⟩) 300 cap)) { mb with ip := 200, handler := 0, stack := [1], back := [0], mem := aMem, status := 0, code := 0 } from ⟨_, _, _, rfl, ReadsC.of_owns HL9.out, HK9.out, ReadsC.of_owns HM9.out⟩)
  have D := Lib.hid (loop_any HR9.out (by rw [← HMB.out]; exact a_right) (by rw [← HMB.out]; exact a_cells) (by have h := congrArg M.inp HMB.out; simp only at h; show mb.inp.size ≤ maxLen; rw [← h]; exact Nat.zero_le _) (fun wc hb => HE.out wc (HB9.out.trans (hb.mono HB9.out.size))) 9)
  have hrec : recOf { mb with ip := 200, handler := 0, stack := [1], back := [0], mem := aMem, status := 0, code := 0 } (mostOf 9) = ⟨200, 200, true, [(200, 6, 0, 201), (201, 7, 0, 202), (202, 3, 200, 200)]⟩ := by
    rw [← HMB.out, show mostOf 9 = 9 by decide]
    obtain ⟨h1, h2, h3, h4⟩ := a_rec
    cases h : recOf aM 9
    rw [h] at h1 h2 h3 h4
    simp only at h1 h2 h3 h4
    rw [h1, h2, h3, h4]
  rw [hrec] at D
  clear hrec HR9 HMB HMM HL9 HK9 HM9 HX9 HX8 HM8 HK8 HOL HX7 HME HBK
  refine D.out.mono ?_
  rintro e w10 ⟨vR, rfl, hO, hb⟩
  obtain ⟨gs, cs, rfl, hc, -, hcap⟩ := hO.row (n := 3) (by decide) (by decide) (by decide)
  have HB10 := Lib.hid (HB9.out.trans (hb.mono HB9.out.size))
  obtain ⟨wx, rb, hwx, hrb, HZx, HBx, HZr⟩ := newBox w10 recZ 29
  have HO10 := Lib.hid (hO.below HBx.out)
  have HBx' := Lib.hid (HB10.out.trans (HBx.out.mono HB10.out.size))
  have HRL := Lib.hid (show w.heap.size ≤ rb by have h1 := HZr.out; have h2 := HB10.out.size; omega)
  clear hO hb hc D
  go_wp2_with (refine st_rec (by rfl) _ _ rfl rb ⟨200, 200, true, [(200, 6, 0, 201), (201, 7, 0, 202), (202, 3, 200, 200)]⟩ (.slice (some ⟨gs, 0, none⟩) 3 cs) rfl rfl rfl _ HZx.out rfl ?_; intro wh hrh hth; have HO11 := Lib.hid (HO10.out.touch hth (fun z hz hm => by rw [List.mem_singleton] at hm; subst hm; obtain ⟨_, _, c, hc⟩ := HO10.out.block z hz; have := HZx.out; rw [hc] at this; simp at this)); obtain ⟨gs', cs', e1, hc, -, -⟩ := HO11.out.row (n := 3) (by decide) (by decide) (by decide); (have e1 := e1; simp only [Value.slice.injEq, Option.some.injEq, Addr.mk.injEq, and_true, true_and] at e1; obtain ⟨rfl, rfl⟩ := e1); have k8 := hc 8 _ rfl; have k9 := hc 9 _ rfl; have k10 := hc 10 _ rfl; have k11 := hc 11 _ rfl; have r0 := whole_cell (j := 0) hrh rfl; have r1 := whole_cell (j := 1) hrh rfl; have r2 := whole_cell (j := 2) hrh rfl; have r3 := whole_cell (j := 3) hrh rfl; have heq := seen_eq 202 3 200 200; have HBh := Lib.hid (HBx'.out.trans (hth.below (fun k hk => by rw [List.mem_singleton.1 hk]; exact HRL.out) HBx'.out.size)); have G := Lib.hid (recRight_any (r := ⟨200, 200, true, [(200, 6, 0, 201), (201, 7, 0, 202), (202, 3, 200, 200)]⟩) (ReadsS.of_owns HO11.out) (by decide)); rw [a_yes] at G; clear hrh hth hc)
  refine G.out.mono ?_
  rintro e wf ⟨rfl, hb⟩
  have HBF := Lib.hid (HBh.out.trans (hb.mono HBh.out.size))
  clear hb
  go_wp2
  go_ret
  exact ⟨rfl, HBF.out⟩
end Go.Proofs.YtlomfmilohbgpaaGreatDoor.Rec
/- A recording of fewer steps is a longer one's beginning; two recordings held against each other. -/
namespace Go.Proofs.YtlomfmilohbgpaaGreatDoor.Rec
open Go.RowKit Book Book.Wide Mem Mach Inn
set_option linter.unusedSimpArgs false
set_option linter.unusedVariables false
theorem tape_begins (start : Int) : ∀ (left : Nat) (l : List S) (m : M), l.length ≤ (tape start left l m).steps.length ∧ (tape start left l m).steps.take l.length = l := by
  intro left
  induction left with
  | zero =>
    intro l m
    unfold tape
    split <;> exact ⟨Nat.le_refl _, List.take_length⟩
  | succ n ih =>
    intro l m
    unfold tape
    split
    · exact ⟨Nat.le_refl _, List.take_length⟩
    · show l.length ≤ (if _ then _ else _ : R).steps.length ∧ (if _ then _ else _ : R).steps.take l.length = l
      split
      · exact ⟨Nat.le_refl _, List.take_length⟩
      · obtain ⟨h1, h2⟩ := ih (l ++ [see m (Mach.step m).ip]) (Mach.step m)
        rw [List.length_append] at h1 h2
        refine ⟨by simp at h1; omega, ?_⟩
        have h8 := congrArg (List.take l.length) h2
        rw [List.take_take, Nat.min_eq_left (by simp), List.take_left] at h8
        exact h8
theorem tape_less (start : Int) (more : Nat) : ∀ (left : Nat) (l : List S) (m : M) (x y : R), tape start left l m = x → tape start (left + more) l m = y → x.steps.length ≤ l.length + left ∧ x.steps.length ≤ y.steps.length ∧ y.steps.take x.steps.length = x.steps ∧ (x.steps.length = l.length + left ∨ x = y) := by
  intro left
  induction left with
  | zero =>
    intro l m x y hx hy
    have hb := tape_begins start (0 + more) l m
    rw [hy] at hb
    by_cases hc : l ≠ [] ∧ m.ip = start
    · have e1 : x = ⟨start, m.ip, true, l⟩ := by rw [← hx]; unfold tape; rw [if_pos hc]
      have e2 : y = ⟨start, m.ip, true, l⟩ := by rw [← hy]; unfold tape; rw [if_pos hc]
      rw [e1, e2]
      exact ⟨Nat.le_refl _, Nat.le_refl _, List.take_length, .inr rfl⟩
    · have e1 : x = ⟨start, m.ip, false, l⟩ := by rw [← hx]; unfold tape; rw [if_neg hc]
      rw [e1]
      exact ⟨Nat.le_refl _, hb.1, hb.2, .inl rfl⟩
  | succ n ih =>
    intro l m x y hx hy
    rw [show n + 1 + more = (n + more) + 1 by omega] at hy
    unfold tape at hx hy
    by_cases hc : l ≠ [] ∧ m.ip = start
    · rw [if_pos hc] at hx hy
      subst hx
      subst hy
      exact ⟨Nat.le_add_right _ _, Nat.le_refl _, List.take_length, .inr rfl⟩
    · rw [if_neg hc] at hx hy
      change (if _ then _ else _) = x at hx
      change (if _ then _ else _) = y at hy
      by_cases hs : (Mach.step m).status ≠ 0 ∨ fit (see m (Mach.step m).ip) = false
      · rw [if_pos hs] at hx hy
        subst hx
        subst hy
        exact ⟨Nat.le_add_right _ _, Nat.le_refl _, List.take_length, .inr rfl⟩
      · rw [if_neg hs] at hx hy
        obtain ⟨h1, h2, h3, h4⟩ := ih _ _ x y hx hy
        rw [List.length_append] at h1 h4
        simp only [List.length_cons, List.length_nil] at h1 h4
        exact ⟨by omega, h2, h3, h4.imp (fun e => by omega) id⟩
end Go.Proofs.YtlomfmilohbgpaaGreatDoor.Rec
/- RecordCells: the walk. -/
namespace Go.Proofs.YtlomfmilohbgpaaGreatDoor.RecordCells
open Go.RowKit Book Book.Wide Mem Mach Inn Rec
set_option linter.unusedVariables false
set_option linter.unusedSimpArgs false
def Yes (w : World) (e : Ending) (w' : World) : Prop := e = .returned (.bool true) ∧ Below w.heap.size w w'
theorem owns_rec {w w' : World} {B g : Nat} {v : Value} {l : List S} {c : Array Value} (h : OwnsK w B 33 4 v (l.flatMap seenCells)) (hs : Stirred w w' [g]) (hg : w.heap[g]? = some (.cells c 29 (0, 0))) : OwnsK w' B 33 4 v (l.flatMap seenCells) :=
  h.touch hs (fun k hk hm => by
    rw [List.mem_singleton] at hm
    subst hm
    obtain ⟨_, _, c', hc⟩ := h.block k hk
    rw [hg] at hc
    simp only [Option.some.injEq, Obj.cells.injEq] at hc
    exact absurd hc.2.1 (by decide))
theorem reads_at {w : World} {ao : Option Addr} {n c : Nat} {l : List Int} (h : Reads w (.slice ao n c) l) {j : Nat} {x : Int} (hj : l[j]? = some x) : ∃ ad : Addr, ao = some ad ∧ w.cell? (ad.add j) = some (.int .i64 x) := by
  obtain ⟨ao', c', e, hc⟩ := h
  simp only [Value.slice.injEq] at e
  obtain ⟨rfl, -, rfl⟩ := e
  exact hc j x hj
theorem drewN1 (w : World) (n : Nat) : Below w.heap.size w (w.drewN n) := bk_below_drewN _ _ _
theorem right0 {m : M} (h : Mach.Right m) : Mach.Right { m with status := 0 } := ⟨h.stack, h.back, h.mem, h.out, h.read0, h.read1, Int.le_refl _, by show (0 : Int) ≤ 2; decide⟩
theorem cells0 {m : M} (h : Cells m) : Cells { m with status := 0 } := ⟨h.ip, h.handler, h.stack, h.back, h.mem, h.code⟩
theorem right_set {m : M} (h : Mach.Right m) (p : Nat) (v : Int) : Mach.Right { m with mem := m.mem.set p v } := ⟨h.stack, h.back, by show (m.mem.set p v).length ≤ 3000; rw [List.length_set]; exact h.mem, h.out, h.read0, h.read1, h.status0, h.status1⟩
theorem cells_set {m : M} (h : Cells m) (p : Nat) {v : Int} (hv : Cell.In v) : Cells { m with mem := m.mem.set p v } := ⟨h.ip, h.handler, h.stack, h.back, set_in h.mem p hv, h.code⟩
/-- no more steps than there may be -/
theorem rec_few (m : M) (n : Nat) : (recOf m n).steps.length ≤ n := by
  have h := (tape_less m.ip 0 n [] (bare m) _ _ rfl rfl).1
  simp only [List.length_nil, Nat.zero_add] at h
  exact h
theorem mostOf_nat {n : Nat} (h : n ≤ 120) : mostOf (n : Int) = n := by unfold mostOf; omega
set_option maxHeartbeats 8000000 in
set_option maxRecDepth 100000 in
/-- what is not small enough -/
theorem less_small (v : Value) (m : M) (a p z : Int) (W : World) (h : ReadsM W v m) (hi : m.inp.size ≤ maxLen) (ho : m.out.size ≤ maxLen) (hE : ∀ wc, Below W.heap.size W wc → Tabs wc) (hg : lightB m = false) :
    Calls Tryz.prog 3 #[v, .int .i64 a, .int .i64 p, .int .i64 z] W (Yes W) := by
  have HV := Lib.hid h
  have HE := Lib.hid hE
  obtain ⟨vs, vb, vm, rfl, -, -, -⟩ := h
  obtain ⟨w1, g, hw1, hg', HX, HB1, HG⟩ := newBox W (cells10 m.ip m.handler vs vb vm m.out m.inp m.read m.status m.code) 24
  have C := Lib.hid (light_any (HV.out.below HB1.out) hi ho)
  rw [hg] at C
  clear hE hi ho hg
  go_enter Tryz.func3, Tryz.ntmps3
  go_wp2_with (refine ld_state (by rfl) _ rfl _ rfl _ _ HX.out rfl ?_)
  refine C.out.mono ?_
  rintro e w2 ⟨rfl, hb⟩
  have HB2 := Lib.hid (HB1.out.trans (hb.mono HB1.out.size))
  have A := Lib.hid (Rec.alive_any w2 (fun wc hbc => HE.out wc (HB2.out.trans (hbc.mono HB2.out.size))))
  clear C hb HX HV HG
  go_wp2_with fail
  refine A.out.mono ?_
  rintro e w3 ⟨rfl, hb⟩
  have HB3 := Lib.hid (HB2.out.trans (hb.mono HB2.out.size))
  clear hb A HB2
  go_wp2
  go_ret
  exact ⟨rfl, HB3.out⟩
set_option maxHeartbeats 16000000 in
set_option maxRecDepth 100000 in
theorem small (v : Value) (m : M) (a p z : Int) (hz : Cell.In z) (W : World) (h : ReadsM W v m) (hi : m.inp.size ≤ maxLen) (ho : m.out.size ≤ maxLen) (hc : Cells m) (hl : lightB m = true) (hE : ∀ wc, Below W.heap.size W wc → Tabs wc) :
    Calls Tryz.prog 3 #[v, .int .i64 a, .int .i64 p, .int .i64 z] W (Yes W) := by
  obtain ⟨l1, l2, hr⟩ := (lightB_iff m).1 hl
  have HV := Lib.hid h
  have HE := Lib.hid hE
  obtain ⟨vs, vb, vm, rfl, hs, hb, hm⟩ := h
  obtain ⟨s1, n1, d1, rfl⟩ := reads_known hs
  obtain ⟨s2, n2, d2, rfl⟩ := reads_known hb
  obtain ⟨s3, n3, d3, rfl⟩ := reads_known hm
  have HLS := Lib.hid (And.intro hs (And.intro hb hm))
  obtain ⟨w1, g, hw1, hg', HX, HB1, HG⟩ := newBox W (cells10 m.ip m.handler (.slice s1 n1 d1) (.slice s2 n2 d2) (.slice s3 n3 d3) m.out m.inp m.read m.status m.code) 24
  have C := Lib.hid (light_any (HV.out.below HB1.out) hi ho)
  rw [hl] at C
  have HRC := Lib.hid (And.intro (right0 hr) (And.intro (cells0 hc) hi))
  have HZ := Lib.hid hz
  have HGW := Lib.hid (show W.heap.size ≤ g from by rw [← HG.out]; exact Nat.le_refl _)
  have HML := Lib.hid (show m.stack.length ≤ 10000 ∧ m.back.length ≤ 10000 ∧ m.mem.length ≤ 10000 ∧ m.mem.length ≤ 700 from by
    have h1 := hr.stack
    have h2 := hr.back
    exact ⟨by omega, by omega, by omega, l1⟩)
  clear hs hb hm hi ho hc hr hl l1 l2 hE hz
  go_enter Tryz.func3, Tryz.ntmps3
  go_wp2_with (refine ld_state (by rfl) _ rfl _ rfl _ _ HX.out rfl ?_)
  refine C.out.mono ?_
  rintro e w2 ⟨rfl, hb2⟩
  have HB2 := Lib.hid (HB1.out.trans (hb2.mono HB1.out.size))
  have HX2 := Lib.hid (boxOn HX.out hb2)
  have A := Lib.hid (Rec.alive_any w2 (fun wc hbc => HE.out wc (HB2.out.trans (hbc.mono HB2.out.size))))
  clear C hb2 hw1 hg'
  go_wp2_with fail
  refine A.out.mono ?_
  rintro e w3 ⟨rfl, hb3⟩
  have HB3 := Lib.hid (HB2.out.trans (hb3.mono HB2.out.size))
  have HX3 := Lib.hid (boxOn HX2.out hb3)
  clear A hb3
  have d8 : w3.cell? ⟨g, 8, none⟩ = some (.int .i64 m.status) := whole_cell HX3.out rfl
  have f8 : w3.frozen? ⟨g, 8, none⟩ = false := whole_frozen HX3.out 8
  have h4 := whole_set HX3.out 8 (.int .i64 0)
  have t4 := Stirred.setCell w3 ⟨g, 8, none⟩ (.int .i64 0)
  obtain ⟨w4, hw4⟩ : ∃ z, w3.setCell ⟨g, 8, none⟩ (.int .i64 0) = z := ⟨_, rfl⟩
  rw [hw4] at h4 t4
  have HX4 := Lib.hid (show w4.heap[g]? = some (.cells (cells10 m.ip m.handler (.slice s1 n1 d1) (.slice s2 n2 d2) (.slice s3 n3 d3) m.out m.inp m.read 0 m.code) 24 (0, 0)) from h4)
  have HB4 := Lib.hid (HB3.out.trans (t4.below (fun k hk => by rw [List.mem_singleton.1 hk]; exact HGW.out) HB3.out.size))
  obtain ⟨R0, hR0⟩ : ∃ R0, recOf { m with status := 0 } (mostOf a) = R0 := ⟨_, rfl⟩
  have L := Lib.hid (fun wc (hb : Below W.heap.size W wc) => show Calls Tryz.prog 6 #[.agg (cells10 m.ip m.handler (.slice s1 n1 d1) (.slice s2 n2 d2) (.slice s3 n3 d3) m.out m.inp m.read 0 m.code), .int .i64 a] wc (GivesR R0 wc) from by
    rw [← hR0]
    exact loop_any (m := { m with status := 0 }) ⟨_, _, _, rfl, HLS.out.1.below hb, HLS.out.2.1.below hb, HLS.out.2.2.below hb⟩ HRC.out.1 HRC.out.2.1 HRC.out.2.2 (fun wd hbd => HE.out wd (hb.trans (hbd.mono hb.size))) a)
  have HFEW := Lib.hid (show R0.steps.length ≤ 120 from by rw [← hR0]; exact Nat.le_trans (rec_few _ _) (mostOf_le a))
  have HOTH := Lib.hid (fun (q : Nat) (u : Int) (hx : ∀ x ∈ R0.steps, Far q x) => show (recOf { m with status := 0, mem := m.mem.set q u } R0.steps.length).steps = R0.steps from by
    rw [← hR0] at hx ⊢
    exact rec_other { m with status := 0 } (mostOf a) q u rfl hx)
  clear hR0 h4 t4
  go_upto_region 4 with fail
  clear d8 f8 hw4
  go_wp2_with (refine ld_state (by rfl) _ rfl _ rfl _ _ HX4.out rfl ?_)
  refine (L.out _ HB4.out).mono ?_
  rintro e w5 ⟨vR, rfl, hO, hb5⟩
  obtain ⟨so, sc, rfl⟩ := hO.slice (seen_len _) (by decide)
  obtain ⟨nl, hnl⟩ : ∃ k, R0.steps.length = k := ⟨_, rfl⟩
  have HNL := Lib.hid hnl
  rw [hnl] at hO HFEW HOTH ⊢
  have HB5 := Lib.hid (HB4.out.trans (hb5.mono HB4.out.size))
  have HX5 := Lib.hid (boxOn HX4.out hb5)
  obtain ⟨w6, rb, hw6, hrb, HR6, HB6, HZ6⟩ := newBox w5 recZ 29
  have HX6 := Lib.hid (boxOn HX5.out HB6.out)
  have HB6' := Lib.hid (HB5.out.trans (HB6.out.mono HB5.out.size))
  have HO6 := Lib.hid (hO.below HB6.out)
  have HRL := Lib.hid (show W.heap.size ≤ rb ∧ g ≠ rb by have h1 := HZ6.out; have h2 := HB5.out.size; have h3 := whole_lt HX5.out; omega)
  obtain ⟨st, la, lo, ls⟩ := R0
  simp only at hnl HO6 HFEW HOTH HNL ⊢
  clear L hb5 hO hnl
  go_upto_region 5 with (refine st_rec (by rfl) _ _ rfl rb ⟨st, la, lo, ls⟩ (.slice so nl sc) rfl rfl rfl _ HR6.out rfl ?_; intro w7 h7 t7; have HR7 := Lib.hid h7; have T7 := Lib.hid t7; clear h7 t7)
  have HO7 := Lib.hid (owns_rec HO6.out T7.out HR6.out)
  have HX7 := Lib.hid (T7.out.whole HX6.out (fun hm => HRL.out.2 (List.mem_singleton.1 hm)))
  have HB7 := Lib.hid (HB6'.out.trans (T7.out.below (fun q hq => by rw [List.mem_singleton.1 hq]; exact HRL.out.1) HB6'.out.size))
  clear hw6 hrb HR6 HB6 HZ6 HX6 HB6' HO6 T7 HB1 HX HB2 HX2 HB3 HX3 HB4 HX4 HX5 HB5
  have r0 : w7.cell? ⟨rb, 0, none⟩ = some (.int .i64 st) := whole_cell HR7.out rfl
  have r1 : w7.cell? ⟨rb, 1, none⟩ = some (.int .i64 la) := whole_cell HR7.out rfl
  have r2 : w7.cell? ⟨rb, 2, none⟩ = some (.bool lo) := whole_cell HR7.out rfl
  have r3 : w7.cell? ⟨rb, 3, none⟩ = some (.slice so nl sc) := whole_cell HR7.out rfl
  have CC := Lib.hid (cells_any (r := ⟨st, la, lo, ls⟩) (ReadsS.of_owns HO7.out) (by show ls.length ≤ 1000; have := HNL.out; have := HFEW.out; omega))
  obtain ⟨cs, hcs⟩ : ∃ cs, cellsOf ls = cs := ⟨_, rfl⟩
  have HRISE := Lib.hid (show cs.Pairwise (· < ·) from by rw [← hcs]; exact cellsOf_rises ls)
  have HIP := Lib.hid (show ∀ x ∈ ls, x.1 ∈ cs ∧ lastOf x ∈ cs from fun x hx => by rw [← hcs]; exact cellsOf_ip hx)
  have hcl : cs.length ≤ 2 * ls.length := by rw [← hcs]; exact cellsOf_length ls
  simp only [hcs] at CC
  obtain ⟨nc, hnc⟩ : ∃ n, cs.length = n := ⟨_, rfl⟩
  have HNC := Lib.hid hnc
  have HNC2 := Lib.hid (show nc ≤ 240 from by have h1 := HNL.out; have h2 := HFEW.out; omega)
  clear hcs hcl
  go_wp2_with fail
  refine CC.out.mono ?_
  rintro e w8 ⟨cv, rfl, hC, hb8⟩
  obtain ⟨co, cc, rfl⟩ := hC.slice
  rw [vals_length, hnc] at hC ⊢
  have HC := Lib.hid (show Reads w8 (.slice co nc cc) cs from by have h := Reads.of_owns hC; exact h)
  have HR8 := Lib.hid (boxOn HR7.out hb8)
  have HX8 := Lib.hid (boxOn HX7.out hb8)
  have HO8 := Lib.hid (HO7.out.below hb8)
  have HB8 := Lib.hid (HB7.out.trans (hb8.mono HB7.out.size))
  clear CC hb8 hC hnc r0 r1 r2 r3 HR7 HX7 HO7 HB7
  try dsimp only
  go_wp2_with fail
  go_loopg [11] nc (fun zz kv wq => ∃ k : Nat, zz = nc - k ∧ k ≤ nc ∧ kv = .int .i64 (k : Int) ∧ Hid (∀ j y, j < k → cs[j]? = some y → y ≠ p) ∧ Hid (Below w8.heap.size w8 wq))
  case atStart => exact ⟨0, rfl, Nat.zero_le _, rfl, Lib.hid (fun j y h => absurd h (Nat.not_lt_zero _)), Lib.hid (Below.refl _ _)⟩
  case round =>
    obtain ⟨k, rfl, hk, rfl, HNO, HBR⟩ := hrel
    have HBW := Lib.hid (HB8.out.trans (HBR.out.mono HB8.out.size))
    by_cases hlt : k < nc
    · have k0 : (0 : Int) ≤ (k : Int) := Int.natCast_nonneg k
      have k1 : (k : Int) < (nc : Int) := Int.ofNat_lt.2 hlt
      obtain ⟨y, hy⟩ : ∃ y, cs[k]? = some y := ⟨_, List.getElem?_eq_getElem (by rw [HNC.out]; exact hlt)⟩
      obtain ⟨ad, ea, ck⟩ := reads_at (HC.out.below HBR.out) hy
      by_cases h0 : k = 0
      · subst h0
        have ck0 : wr.cell? ad = some (.int .i64 y) := by rw [← show ad.add 0 = ad from by cases ad; simp [Addr.add]]; exact ck
        by_cases hyp : y = p
        · as_aux_lemma =>
          subst hyp
          clear hy
          subst ea
          go_upto_region 9 with fail
          go_quiet (fail)
          go_wp2_with fail
          go_quiet (fail)
          go_wp2_with fail
          go_ret
          exact ⟨rfl, by first | exact HBW.out.trans (bk_below_drewN _ _ _) | exact (HBW.out.trans (bk_below_drewN _ _ _)).trans (bk_below_drewN _ _ _)⟩
        · as_aux_lemma =>
          have e1 : decide (y = p) = false := decide_eq_false hyp
          have e1' : (y = p) = False := eq_false hyp
          have e1b : (y == p) = false := by simpa using hyp
          have HNO2 := Lib.hid (show ∀ j y, j < 0 + 1 → cs[j]? = some y → y ≠ p from fun j z hj hz e => by
            obtain rfl : j = 0 := by omega
            rw [hy] at hz
            exact hyp ((Option.some.inj hz).trans e))
          clear hy hyp
          subst ea
          go_upto_region 9 with fail
          go_quiet (fail)
          go_wp2_with fail
          go_roundg (nc - (0 + 1))
          case measure => omega
          case rel => exact ⟨0 + 1, rfl, by omega, by go_num, HNO2, Lib.hid (HBR.out.trans ((drewN1 _ _).mono HBR.out.size))⟩
      · obtain ⟨yp, hyp⟩ : ∃ y, cs[k - 1]? = some y := ⟨_, List.getElem?_eq_getElem (by rw [HNC.out]; omega)⟩
        obtain ⟨ad', ea', cq⟩ := reads_at (HC.out.below HBR.out) hyp
        subst ea
        obtain rfl := Option.some.inj ea'
        have hrise : yp < y := by
          obtain ⟨a1, b1⟩ := List.getElem?_eq_some_iff.1 hyp
          obtain ⟨a2, b2⟩ := List.getElem?_eq_some_iff.1 hy
          rw [← b1, ← b2]
          exact List.pairwise_iff_getElem.1 HRISE.out (k - 1) k a1 a2 (by omega)
        have hnb : nc ≤ 240 := HNC2.out
        obtain ⟨q, hq⟩ : ∃ q : Nat, k - 1 = q := ⟨_, rfl⟩
        rw [hq] at cq
        have q0 : (0 : Int) ≤ (q : Int) := Int.natCast_nonneg q
        have q1 : (q : Int) < (nc : Int) := by omega
        have q2 : wrap64 ((k : Int) - 1) = (q : Int) := by unfold wrap64; omega
        have q3 : IntKind.i64.wrap ((k : Int) - 1) = (q : Int) := by rw [IntKind.wrap_i64]; omega
        have e2 : decide (0 < (k : Int)) = true := decide_eq_true (by omega)
        have e2n : decide (0 < k) = true := decide_eq_true (by omega)
        have e3n : (k = 0) = False := eq_false h0
        have e3m : decide (k = 0) = false := decide_eq_false h0
        have e3nb : (k == 0) = false := by simpa using h0
        have e3 : ((k : Int) = 0) = False := eq_false (by omega)
        have e3b : ((k : Int) == 0) = false := by simpa using h0
        have e4 : decide (y ≤ yp) = false := decide_eq_false (by omega)
        have e5 : decide (yp < y) = true := decide_eq_true hrise
        by_cases hyp2 : y = p
        · as_aux_lemma =>
          subst hyp2
          clear hy hyp hq h0
          go_upto_region 9 with fail
          go_quiet (fail)
          go_wp2_with fail
          go_quiet (fail)
          go_wp2_with fail
          go_ret
          exact ⟨rfl, by first | exact HBW.out.trans (bk_below_drewN _ _ _) | exact (HBW.out.trans (bk_below_drewN _ _ _)).trans (bk_below_drewN _ _ _)⟩
        · as_aux_lemma =>
          have e1 : decide (y = p) = false := decide_eq_false hyp2
          have e1' : (y = p) = False := eq_false hyp2
          have e1b : (y == p) = false := by simpa using hyp2
          have HNO2 := Lib.hid (show ∀ j y, j < k + 1 → cs[j]? = some y → y ≠ p from fun j z hj hz e => by
            rcases Nat.lt_succ_iff_lt_or_eq.1 hj with h | rfl
            · exact HNO.out j z h hz e
            · rw [hy] at hz
              exact hyp2 ((Option.some.inj hz).trans e))
          clear hy hyp hq h0 hyp2
          go_upto_region 9 with fail
          go_quiet (fail)
          go_wp2_with fail
          go_roundg (nc - (k + 1))
          case measure => omega
          case rel => exact ⟨k + 1, rfl, by omega, by go_num, HNO2, Lib.hid (HBR.out.trans ((drewN1 _ _).mono HBR.out.size))⟩
    · have k1 : decide ((k : Int) < (nc : Int)) = false := decide_eq_false (by omega)
      have HAT := Lib.hid (show ∀ y ∈ cs, y ≠ p from fun y hy => by
        obtain ⟨j, hj⟩ := List.mem_iff_getElem?.1 hy
        have := (List.getElem?_eq_some_iff.1 hj).1
        rw [HNC.out] at this
        exact HNO.out j y (by omega) hj)
      obtain ⟨w9, hw9⟩ : ∃ z, z = wr := ⟨_, rfl⟩
      subst hw9
      have HR9 := Lib.hid (boxOn HR8.out HBR.out)
      have HX9 := Lib.hid (boxOn HX8.out HBR.out)
      have HO9 := Lib.hid (HO8.out.below HBR.out)
      clear HNO HBR HC HR8 HX8 HO8 HB8 HRISE
      go_wp2_with fail
      clear k1
      go_loopg [12] nl (fun zz kv wq => ∃ i : Nat, zz = nl - i ∧ i ≤ nl ∧ kv = .int .i64 (i : Int) ∧ Hid (∀ j x, j < i → ls[j]? = some x → x.2.1 ≠ 30 ∧ x.2.1 ≠ 32 ∧ x.2.1 ≠ 44) ∧ Hid (Below w9.heap.size w9 wq))
      case atStart => exact ⟨0, rfl, Nat.zero_le _, rfl, Lib.hid (fun j x h => absurd h (Nat.not_lt_zero _)), Lib.hid (Below.refl _ _)⟩
      case round =>
        obtain ⟨i, rfl, hi, rfl, HNI, HBQ⟩ := hrel
        have HRQ := Lib.hid (boxOn HR9.out HBQ.out)
        have r3 : wr.cell? ⟨rb, 3, none⟩ = some (.slice so nl sc) := whole_cell HRQ.out rfl
        have HWQ := Lib.hid (HBW.out.trans (HBQ.out.mono HBW.out.size))
        by_cases hit : i < nl
        · have k0 : (0 : Int) ≤ (i : Int) := Int.natCast_nonneg i
          have k1 : (i : Int) < (nl : Int) := Int.ofNat_lt.2 hit
          have hnb : nl ≤ 120 := HFEW.out
          obtain ⟨x, hx⟩ : ∃ x, ls[i]? = some x := ⟨_, List.getElem?_eq_getElem (by rw [HNL.out]; exact hit)⟩
          obtain ⟨ao', cap', e, hc⟩ := ReadsS.of_owns (HO9.out.below HBQ.out)
          rw [HNL.out] at e
          simp only [Value.slice.injEq, true_and] at e
          obtain ⟨rfl, rfl⟩ := e
          obtain ⟨ad, rfl, c0, c1, c2, c3⟩ := hc i x hx
          obtain ⟨x1, o, x3, x4⟩ := x
          dsimp only at c0 c1 c2 c3
          have HNI2 := Lib.hid (fun (n1 : o ≠ 30) (n2 : o ≠ 32) (n3 : o ≠ 44) => show ∀ j x, j < i + 1 → ls[j]? = some x → x.2.1 ≠ 30 ∧ x.2.1 ≠ 32 ∧ x.2.1 ≠ 44 from fun j z hj hz => by
            rcases Nat.lt_succ_iff_lt_or_eq.1 hj with h | rfl
            · exact HNI.out j z h hz
            · rw [hx] at hz
              obtain rfl := Option.some.inj hz
              exact ⟨n1, n2, n3⟩)
          clear hc hx c0 c2 c3
          by_cases o1 : o = 30
          · as_aux_lemma =>
            subst o1
            go_wp2_with fail
            go_ret
            exact ⟨rfl, HWQ.out⟩
          have p1 : decide (o = 30) = false := decide_eq_false o1
          have p1' : (o = 30) = False := eq_false o1
          have p1b : (o == 30) = false := by simpa using o1
          by_cases o2 : o = 32
          · as_aux_lemma =>
            subst o2
            go_wp2_with fail
            go_ret
            exact ⟨rfl, HWQ.out⟩
          have p2 : decide (o = 32) = false := decide_eq_false o2
          have p2' : (o = 32) = False := eq_false o2
          have p2b : (o == 32) = false := by simpa using o2
          by_cases o3 : o = 44
          · as_aux_lemma =>
            subst o3
            go_wp2_with fail
            go_ret
            exact ⟨rfl, HWQ.out⟩
          as_aux_lemma =>
          have p3 : decide (o = 44) = false := decide_eq_false o3
          have p3' : (o = 44) = False := eq_false o3
          have p3b : (o == 44) = false := by simpa using o3
          have HNI3 := Lib.hid (HNI2.out o1 o2 o3)
          clear o1 o2 o3
          go_wp2_with fail
          go_roundg (nl - (i + 1))
          case measure => omega
          case rel => exact ⟨i + 1, rfl, by omega, by go_num, HNI3, HBQ⟩
        · have k1 : decide ((i : Int) < (nl : Int)) = false := decide_eq_false (by omega)
          have HFAR := Lib.hid (show ∀ q : Nat, (q : Int) = p → ∀ x ∈ ls, Far q x from fun q hq x hx => by
            obtain ⟨j, hj⟩ := List.mem_iff_getElem?.1 hx
            have hjl := (List.getElem?_eq_some_iff.1 hj).1
            rw [HNL.out] at hjl
            have h3 := HNI.out j x (by omega) hj
            have h4 := HIP.out x hx
            exact ⟨fun e => HAT.out _ h4.1 (e.trans hq), fun e => HAT.out _ h4.2 (e.trans hq), h3.1, h3.2.1, h3.2.2⟩)
          have HXQ := Lib.hid (boxOn HX9.out HBQ.out)
          have HOQ := Lib.hid (HO9.out.below HBQ.out)
          have CP := Lib.hid (refCopy_any (w := wr) (v := .agg (cells10 m.ip m.handler (.slice s1 n1 d1) (.slice s2 n2 d2) (.slice s3 n3 d3) m.out m.inp m.read 0 m.code)) (m := { m with status := 0 }) ⟨_, _, _, rfl, HLS.out.1.below HWQ.out, HLS.out.2.1.below HWQ.out, HLS.out.2.2.below HWQ.out⟩ HML.out.1 HML.out.2.1 HML.out.2.2.1)
          obtain ⟨w10, hw10⟩ : ∃ z, z = wr := ⟨_, rfl⟩
          subst hw10
          clear HNI HAT HIP HBQ HR9 HX9 HO9 HBW
          go_wp2_with (refine ld_state (by rfl) _ rfl _ rfl _ _ HXQ.out rfl ?_)
          refine CP.out.mono ?_
          rintro e w11 ⟨v, rfl, ⟨ps, pk, pm, rfl, ho9⟩, hb9⟩
          have HO := Lib.hid ho9
          have HON := Lib.hid (And.intro (slice_one ho9.st.slice) (And.intro (slice_one ho9.bk.slice) (slice_one ho9.me.slice)))
          have HB11 := Lib.hid (HWQ.out.trans (hb9.mono HWQ.out.size))
          have HR11 := Lib.hid (boxOn HRQ.out hb9)
          have HOQ := Lib.hid (HOQ.out.below hb9)
          obtain ⟨w12, g14, hw12, hg14, H12, B12, Z12⟩ := newBox w11 zero10 24
          have N14 := Lib.hid (show W.heap.size ≤ g14 ∧ rb < g14 ∧ w11.heap.size ≤ g14 from by have h1 := Z12.out; have h2 := HB11.out.size; have h3 := whole_lt HR11.out; omega)
          clear CP ho9 hb9 k1 HXQ HRQ
          try dsimp only
          go_upto_region 18 with (refine st_state (by rfl) _ _ rfl g14 _ rfl rfl _ _ H12.out rfl rfl (all_one HON.out.1 HON.out.2.1 HON.out.2.2) ?_; intro w13 h13 t13; have H13 := Lib.hid h13; have T13 := Lib.hid t13; clear h13 t13)
          have HR13 := Lib.hid (T13.out.whole (boxOn HR11.out B12.out) (fun hm => by have h1 := List.mem_singleton.1 hm; have h2 := N14.out.2.1; omega))
          have HB13 := Lib.hid (show Below W.heap.size W w13 from by
            have b := HB11.out.trans (B12.out.mono HB11.out.size)
            exact b.trans (T13.out.below (fun q hq => by rw [List.mem_singleton.1 hq]; exact N14.out.1) b.size))
          have far : ∀ {v : Value} {xs : List Int}, Owns w11 w10.heap.size 3 v (vals xs) → Owns w13 w10.heap.size 3 v (vals xs) := fun h => (h.below B12.out).touch T13.out (fun q e hm => by have h1 := List.mem_singleton.1 hm; have h2 := (h.block q e).2.1; have h3 := N14.out.2.2; omega)
          have HO13 := Lib.hid (show OwnsL w13 w10.heap.size ps pk pm { m with status := 0 } from ⟨far HO.out.st, far HO.out.bk, far HO.out.me, HO.out.sb, HO.out.bm⟩)
          have HOQ := Lib.hid (show OwnsK w13 _ 33 4 (.slice so nl sc) (ls.flatMap seenCells) from (HOQ.out.below B12.out).touch T13.out (fun q e hm => by have h1 := List.mem_singleton.1 hm; have h2 := (HOQ.out.block q e).2.1; have h3 := N14.out.2.2; omega))
          have HSW := Lib.hid (show W.heap.size ≤ w10.heap.size from HWQ.out.size)
          clear far hw12 hg14 H12 B12 Z12 T13 HO HR11 HB11 HWQ
          obtain ⟨mo, mc, emo⟩ := HO13.out.me.slice
          rw [vals_length] at emo
          obtain ⟨nm, hnm⟩ : ∃ n, m.mem.length = n := ⟨_, rfl⟩
          have emo : pm = .slice mo nm mc := by rw [← hnm]; exact emo
          have HNM := Lib.hid hnm
          have hnb : nm ≤ 700 := by rw [← hnm]; exact HML.out.2.2.2
          subst emo
          clear hnm
          have m4 : w13.cell? ⟨g14, 4, none⟩ = some (.slice mo nm mc) := whole_cell H13.out rfl
          by_cases hp0 : p < 0
          · as_aux_lemma =>
            have q1 : decide (p < 0) = true := decide_eq_true hp0
            clear hp0
            go_wp2_with fail
            go_ret
            exact ⟨rfl, HB13.out⟩
          have q1 : decide (p < 0) = false := decide_eq_false hp0
          by_cases hpm : (nm : Int) ≤ p
          · as_aux_lemma =>
            have q2 : decide ((nm : Int) ≤ p) = true := decide_eq_true hpm
            clear hp0 hpm
            go_wp2_with fail
            go_ret
            exact ⟨rfl, HB13.out⟩
          as_aux_lemma =>
          have q2 : decide ((nm : Int) ≤ p) = false := decide_eq_false hpm
          obtain ⟨pn, hpn⟩ := Int.eq_ofNat_of_zero_le (Int.not_lt.1 hp0)
          have HF := Lib.hid (HFAR.out pn hpn.symm)
          subst hpn
          have hpl : pn < nm := by omega
          have q2n : decide (nm ≤ pn) = false := decide_eq_false (by omega)
          have q2f : (nm ≤ pn) = False := eq_false (by omega)
          have p0 : (0 : Int) ≤ (pn : Int) := Int.natCast_nonneg pn
          have p1 : (pn : Int) < (nm : Int) := Int.ofNat_lt.2 hpl
          obtain ⟨gm, mc', emo, hmc, hgm⟩ := own_row HO13.out.me (by rw [vals_length]; show 0 < m.mem.length; rw [HNM.out]; omega)
          rw [vals_length] at emo
          have emo : Value.slice mo nm mc = .slice (some ⟨gm, 0, none⟩) nm mc' := by rw [emo]; show Value.slice _ m.mem.length _ = _; rw [HNM.out]
          simp only [Value.slice.injEq, true_and] at emo
          obtain ⟨rfl, rfl⟩ := emo
          have hat := owns_at HO13.out.me (j := pn) (by show pn < m.mem.length; rw [HNM.out]; exact hpl)
          have a1 := hat.1
          have a2 := hat.2
          have hst := HO13.out.me.stored pn (.int .i64 z)
          have t14 := Stirred.setCell w13 ⟨gm, pn, none⟩ (.int .i64 z)
          have HGM := Lib.hid (show gm < w13.heap.size ∧ w10.heap.size ≤ gm from ⟨(HO13.out.me.block gm (blk_pos hmc)).2.1, hgm⟩)
          have HGG := Lib.hid (show g14 ≠ gm from fun e => by
            obtain ⟨_, _, c, hc⟩ := HO13.out.me.block gm (blk_pos hmc)
            rw [← e, H13.out] at hc
            simp only [Option.some.injEq, Obj.cells.injEq] at hc
            exact absurd hc.2.1 (by decide))
          have HGR := Lib.hid (show rb ≠ gm from fun e => by
            obtain ⟨_, _, c, hc⟩ := HO13.out.me.block gm (blk_pos hmc)
            rw [← e, HR13.out] at hc
            simp only [Option.some.injEq, Obj.cells.injEq] at hc
            exact absurd hc.2.1 (by decide))
          obtain ⟨w14, hw14⟩ : ∃ y, w13.setCell ⟨gm, pn, none⟩ (.int .i64 z) = y := ⟨_, rfl⟩
          rw [hw14] at hst t14
          have H14 := Lib.hid (t14.whole H13.out (fun hm => HGG.out (List.mem_singleton.1 hm)))
          have HR14 := Lib.hid (t14.whole HR13.out (fun hm => HGR.out (List.mem_singleton.1 hm)))
          have HOQ := Lib.hid (HOQ.out.touch t14 (fun q e hm => by
            rw [List.mem_singleton] at hm
            rw [hm] at e
            obtain ⟨_, _, c, hc⟩ := HO13.out.me.block gm (blk_pos hmc)
            obtain ⟨_, _, c', hc'⟩ := HOQ.out.block gm e
            rw [hc] at hc'
            simp only [Option.some.injEq, Obj.cells.injEq] at hc'
            exact absurd hc'.2.1 (by decide)))
          have HB14 := Lib.hid (HB13.out.trans (t14.below (fun q hq => by rw [List.mem_singleton.1 hq]; exact Nat.le_trans HSW.out HGM.out.2) HB13.out.size))
          have HM14 := Lib.hid (show ReadsM w14 (.agg (cells10 m.ip m.handler ps pk (.slice (some ⟨gm, 0, none⟩) nm mc) m.out m.inp m.read 0 m.code)) { m with status := 0, mem := m.mem.set pn z } from
            ⟨_, _, _, rfl, ReadsC.of_owns (HO13.out.st.touch t14 (fun q e hm => by rw [List.mem_singleton] at hm; rw [hm] at e; exact (HO13.out.sb gm e).2 (blk_pos hmc))), ReadsC.of_owns (HO13.out.bk.touch t14 (fun q e hm => by rw [List.mem_singleton] at hm; rw [hm] at e; exact HO13.out.bm gm e (blk_pos hmc))), ReadsC.of_owns (by
              have h := hst
              rw [← List.map_set] at h
              exact h)⟩)
          have HRC2 := Lib.hid (And.intro (right_set HRC.out.1 pn z) (cells_set HRC.out.2.1 pn HZ.out))
          have HST := Lib.hid (HOTH.out pn z HF.out)
          obtain ⟨R1, hR1⟩ : ∃ R1, recOf { m with status := 0, mem := m.mem.set pn z } nl = R1 := ⟨_, rfl⟩
          rw [hR1] at HST
          have L := Lib.hid (show Calls Tryz.prog 6 #[.agg (cells10 m.ip m.handler ps pk (.slice (some ⟨gm, 0, none⟩) nm mc) m.out m.inp m.read 0 m.code), .int .i64 (nl : Int)] w14 (GivesR R1 w14) from by
            have h := loop_any (m := { m with status := 0, mem := m.mem.set pn z }) HM14.out HRC2.out.1 HRC2.out.2 HRC.out.2.2 (fun wd hbd => HE.out wd (HB14.out.trans (hbd.mono HB14.out.size))) (nl : Int)
            rw [mostOf_nat HFEW.out, hR1] at h
            exact h)
          clear hR1 hst t14 hat hp0 hpm hmc hgm HF HM14 HRC2 HFAR
          go_upto_region 21 with fail
          clear hw14 a1 a2 m4 q1 q2 q2n q2f
          have r3 : w14.cell? ⟨rb, 3, none⟩ = some (.slice so nl sc) := whole_cell HR14.out rfl
          go_wp2_with (refine ld_state (by rfl) _ rfl _ rfl _ _ H14.out rfl ?_)
          refine L.out.mono ?_
          rintro e w15 ⟨vR, rfl, hO, hb15⟩
          obtain ⟨xo, xc, rfl⟩ := hO.slice (seen_len _) (by decide)
          have HB15 := Lib.hid (HB14.out.trans (hb15.mono HB14.out.size))
          have HR15 := Lib.hid (boxOn HR14.out hb15)
          have HOQ := Lib.hid (HOQ.out.below hb15)
          obtain ⟨s1', l1', lo', ls'⟩ := R1
          obtain rfl : ls' = ls := HST.out
          simp only at hO ⊢
          rw [HNL.out] at hO ⊢
          obtain ⟨w16, g15, hw16, hg15, H16, B16, Z16⟩ := newBox w15 recZ 29
          have HO16 := Lib.hid (hO.below B16.out)
          have HR16 := Lib.hid (boxOn HR15.out B16.out)
          have HOQ := Lib.hid (HOQ.out.below B16.out)
          have HB16 := Lib.hid (HB15.out.trans (B16.out.mono HB15.out.size))
          have N16 := Lib.hid (show W.heap.size ≤ g15 ∧ rb ≠ g15 from by have h1 := Z16.out; have h2 := HB15.out.size; have h3 := whole_lt HR15.out; omega)
          clear L hO hb15 r3 HR15 HB15
          try dsimp only
          go_upto_region 22 with (refine st_rec (by rfl) _ _ rfl g15 ⟨s1', l1', lo', ls'⟩ (.slice xo nl xc) rfl rfl rfl _ H16.out rfl ?_; intro w17 h17 t17; have H17 := Lib.hid h17; have T17 := Lib.hid t17; clear h17 t17)
          have HO17 := Lib.hid (owns_rec HO16.out T17.out H16.out)
          have HOQ := Lib.hid (owns_rec HOQ.out T17.out H16.out)
          have HR17 := Lib.hid (T17.out.whole HR16.out (fun hm => N16.out.2 (List.mem_singleton.1 hm)))
          have HB17 := Lib.hid (HB16.out.trans (T17.out.below (fun q hq => by rw [List.mem_singleton.1 hq]; exact N16.out.1) HB16.out.size))
          have r3 : w17.cell? ⟨rb, 3, none⟩ = some (.slice so nl sc) := whole_cell HR17.out rfl
          have x3 : w17.cell? ⟨g15, 3, none⟩ = some (.slice xo nl xc) := whole_cell H17.out rfl
          have SS := Lib.hid (sameSeens_any (.slice xo nl xc) (.slice so nl sc) _ _ ls' w17 HO17.out HOQ.out (by have h1 := HNL.out; have h2 := HFEW.out; omega))
          go_wp2_with fail
          refine SS.out.mono ?_
          rintro e w18 ⟨rfl, q, hq⟩
          have HB18 := Lib.hid (show Below W.heap.size W w18 from by rw [hq]; exact HB17.out.trans (bk_below_drewN _ _ _))
          clear hq
          try dsimp only
          go_wp2_with fail
          go_ret
          exact ⟨rfl, HB18.out⟩
theorem main (v : Value) (m : M) (a p z : Int) (W : World) (hl : ReadsM W v m ∧ Cells m ∧ m.inp.size ≤ maxLen ∧ m.out.size ≤ maxLen ∧ Cell.In m.read ∧ Cell.In m.status) (w1 : (Lit.int .i64 a).wf = true) (w2 : (Lit.int .i64 p).wf = true) (w3 : (Lit.int .i64 z).wf = true) (hE : ∀ wc, Below W.heap.size W wc → Tabs wc) :
    Calls Tryz.prog 3 #[v, .int .i64 a, .int .i64 p, .int .i64 z] W (Yes W) := by
  obtain ⟨h, hc, hi, ho, -, -⟩ := hl
  cases hq : lightB m with
  | true => exact small v m a p z (Cell.in_of_wf w3) W h hi ho hc hq hE
  | false => exact less_small v m a p z W h hi ho hE hq
end Go.Proofs.YtlomfmilohbgpaaGreatDoor.RecordCells

namespace Go.Proofs.YtlomfmilohbgpaaGreatDoor.recordCells
open Inn Mach Mem
open Go.ChangeShapes Go.WideShapes Go.ChangeAt Go.RowKit
set_option linter.unusedVariables false
set_option linter.unusedSimpArgs false

theorem own : ownKnob Tryz.prog.godebug = none := by kernel_rfl
theorem laidOut : laidOutB Tryz.prog = true := by kernel_rfl
abbrev laid : List (String × DataW Unit) := laidL9
theorem laid_is : Rows.recordCellsRow.laid = laid := rfl
set_option maxRecDepth 100000 in
theorem lifted (os : Os) (started : os.Started) (H : Type) (enc : TypeId × Value → H) :
    ReturnsInHanded {} Tryz.checked os 3 .any (fun w args => (Rows.recordCellsSpec.pre enc Tryz.prog Tryz.f3 Rows.recordCellsRow.domain false w args ∧ laidMetH Tryz.prog laid w) ∧ sizedMet enc Tryz.prog Tryz.f3 (OpenSpec.ofChange Rows.recordCellsSpec) false w args)
      (Rows.recordCellsSpec.post enc Tryz.prog Tryz.f3 false true false false) := by
  refine returnsInHanded_of_change_and (C := Tryz.checked) (X := fun w _ => laidMetH Tryz.prog laid w) (fun _ _ _ hh h => h.of_heap hh) own started (by kernel_rfl) Tryz.func3
    (Inn.witness_ref (enc := enc) (C := Tryz.checked) (os := os) (X := fun w _ => laidMetH Tryz.prog laid w) false (Inn.laidWorld os) #[.agg #[.int .i64 0, .int .i64 0, .slice none 0 0, .slice none 0 0, .slice none 0 0, .string ⟨#[]⟩, .string ⟨#[]⟩, .int .i64 0, .int .i64 0, .int .i64 0], .int .i64 0, .int .i64 0, .int .i64 0] 8 rfl (by kernel_rfl) (by kernel_rfl) (by kernel_rfl) (by kernel_rfl) (by kernel_rfl) (Inn.laidWorld_met os _)) ?_
  intro W base args ds gs before hval0 hW _ _ hL _
  have hval : ∀ (j : Nat) t v, Tryz.f3.params[j]? = some t → args[j]? = some v → Value.okWide Tryz.prog W .any base t v := hval0
  have hW' := hW
  obtain ⟨p, q, hA0, hV, rfl, hfz, hnd⟩ := hW
  have hA : DataW.TrodAll enc Tryz.prog W 0 (fun _ => true) true Tryz.f3.params.toList args.toList ds p := hA0
  rw [Tryz.params3] at hA hval
  obtain ⟨v0, vs0, d0, ds0, p0, q0, hargs, rfl, rfl, h0, r0⟩ := trodAll_cons hA
  obtain ⟨v1, vs1, d1, ds1, p1, q1, rfl, rfl, rfl, h1, r1⟩ := trodAll_cons r0
  obtain ⟨v2, vs2, d2, ds2, p2, q2, rfl, rfl, rfl, h2, r2⟩ := trodAll_cons r1
  obtain ⟨v3, vs3, d3, ds3, p3, q3, rfl, rfl, rfl, h3, r3⟩ := trodAll_cons r2
  obtain ⟨rfl, rfl, rfl⟩ := trodAll_nil r3
  obtain rfl : args = #[v0, v1, v2, v3] := by cases args; simp_all
  obtain ⟨rfl, rfl⟩ := trodVars_none hV
  obtain ⟨xs0, l0⟩ := stateOf (hval 0 24 v0 rfl rfl) h0
  obtain ⟨a1, rfl, rfl, rfl, w1⟩ := open_int Tryz.underlying3 (hval 1 3 v1 rfl rfl) h1
  obtain ⟨a2, rfl, rfl, rfl, w2⟩ := open_int Tryz.underlying3 (hval 2 3 v2 rfl rfl) h2
  obtain ⟨a3, rfl, rfl, rfl, w3⟩ := open_int Tryz.underlying3 (hval 3 3 v3 rfl rfl) h3
  clear hA0 hval0
  simp only [List.append_nil] at hW'
  have hlt0 : ∀ x ∈ p0, x.block < W.heap.size := fun x hx => by simpa using hW'.lt x (by simp [hx])
  refine (RecordCells.main v0 xs0 a1 a2 a3 W l0 w1 w2 w3 (tabs_on hL)).mono fun e W' ⟨he, hg⟩ => ?_
  subst he
  exact ⟨_, rfl, _, _, _, [], _, [], hW', (trodAll_cons_mk (shut_bool Tryz.underlying4 _) trodAll_mk0), (trodAll_cons_mk (Below.trod laidOut (by kernel_rfl) (of_decide_eq_true (by kernel_rfl)) h0 hg hlt0) (trodAll_cons_mk (shut_int Tryz.underlying3 w1) (trodAll_cons_mk (shut_int Tryz.underlying3 w2) (trodAll_cons_mk (shut_int Tryz.underlying3 w3) trodAll_mk0)))), rfl, hg.frame _, fun h => by cases h⟩

theorem over : Rows.recordCellsRow.holds Tryz.pinned (OpenSpec.ofChange Rows.recordCellsSpec) :=
  OpenClaim.holds_of_wide 3 Tryz.f3 rfl rfl rfl rfl rfl rfl rfl ⟨rfl, rfl, rfl, rfl, rfl⟩ rfl rfl rfl rfl rfl (by kernel_rfl) Tryz.func3 (by kernel_rfl)
    (of_decide_eq_true (by kernel_rfl)) (by unfold Func.isWrapper; first | (rw [if_pos (by decide +kernel)]; kernel_rfl) | (rw [if_neg (by decide +kernel)]; exact ⟨rfl, rfl⟩))
    (fun os started H enc _ => lifted os started H enc)

theorem proved : Rows.RecordCellsCardSaid :=
  Claim7.holds_tied_plain_at .later [] Rows.recordCellsCard.laidKinds true Rows.recordCellsCard.stood.harness Rows.recordCellsCard.stood.looks
    over (fun _ h => by cases h) (by kernel_rfl) (fun _ h => by cases h) recordCells_row_tie rfl ⟨rfl, rfl⟩ (by kernel_rfl) rfl
    (fun f fn hf hfn => by
      obtain rfl : f = 3 := Option.some.inj ((show Tryz.prog.funcNamed "holloway/hollowaylaw13.RecordCells" = some 3 by kernel_rfl).symm.trans hf) |>.symm
      obtain rfl : fn = Tryz.f3 := (Option.some.inj (Tryz.func3.symm.trans hfn)).symm
      exact ⟨by kernel_rfl, fun j t ht => by
        rw [Tryz.params3] at ht
        have hm : t ∈ [24, 3, 3, 3] := by
          rcases Array.mem_of_getElem? ht with h
          simpa using h
        simp only [List.mem_cons, List.not_mem_nil, or_false] at hm
        rcases hm with rfl | rfl | rfl | rfl
        · exact (show Tryz.prog.wantsStandIn 24 = false by kernel_rfl)
        · exact (show Tryz.prog.wantsStandIn 3 = false by kernel_rfl)
        · exact (show Tryz.prog.wantsStandIn 3 = false by kernel_rfl)
        · exact (show Tryz.prog.wantsStandIn 3 = false by kernel_rfl)⟩)
    (by kernel_rfl)
#print axioms proved
end Go.Proofs.YtlomfmilohbgpaaGreatDoor.recordCells
