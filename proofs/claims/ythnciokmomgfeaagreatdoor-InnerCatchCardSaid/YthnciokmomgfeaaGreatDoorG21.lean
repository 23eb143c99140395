/- The first call of hollowaylaw9's statements. -/
import Derived.Test.YthnciokmomgfeaaGreatDoorG20
import Derived.Deep.RegionHeld3
import Derived.Test.YthnciokmomgfeaaGreatDoorG7
import Derived.Test.YthnciokmomgfeaaGreatDoorG5
import Derived.Deep.DrawnRows
import Derived.Test.YthnciokmomgfeaaGreatDoorG1
namespace Go.Proofs.YthnciokmomgfeaaGreatDoor.Inn
open Go.RowKit Book Mem Mach
set_option linter.unusedVariables false
set_option linter.unusedSimpArgs false
def aliveMem : List Int := (((((bootMem 48 300).set 192 2).set 193 3).set 194 6).set 195 13).set 196 5
def aliveM : M := { bootM 300 ⟨#[]⟩ with mem := aliveMem }
def aliveE : M := { aliveM with ip := 192, handler := 0, back := [0], status := 0, code := 0 }
theorem alive_runs : (Mach.run 99 aliveE).2 = 94 ∧ (Mach.run 99 aliveE).1.status = 1 ∧ (Mach.run 99 aliveE).1.stack = [9] := by decide +kernel
theorem alive_right : Right aliveE := (rightM_iff aliveE).1 (by decide +kernel)
theorem alive_mem : ∀ x ∈ aliveMem, -9223372036854775808 ≤ x ∧ x ≤ 9223372036854775807 := by decide +kernel
theorem alive_cells : Cells aliveE :=
  ⟨by show Cell.In 192; unfold Cell.In; decide, by show Cell.In 0; unfold Cell.In; decide, (fun x h => by cases h), (fun x h => by rcases List.mem_singleton.1 h with rfl; unfold Cell.In; decide), (fun x h => alive_mem x h), by show Cell.In 0; unfold Cell.In; decide⟩
theorem alive_boot : (bootMem 48 300)[76]? = some 6 := by decide +kernel
theorem keep5 {w : World} {b g j : Nat} {u v : Value} (hn : b ≠ g) (h : w.cell? ⟨b, 4, none⟩ = some v) : (w.setCell ⟨g, j, none⟩ u).cell? ⟨b, 4, none⟩ = some v :=
  (Stirred.setCell w ⟨g, j, none⟩ u).cell (by rw [List.mem_singleton]; exact hn) h
theorem drewc {w : World} {a : Addr} {v : Value} (h : w.cell? a = some v) : w.drew.cell? a = some v := h
set_option maxHeartbeats 16000000 in
set_option maxRecDepth 100000 in
theorem alive_any (w : World) (hE : ∀ wc, Below w.heap.size w wc → Tabs wc) :
    Calls Tryz.prog 14 #[] w fun e w' => e = .returned (.bool true) ∧ Below w.heap.size w w' := by
  have HE := Lib.hid hE
  have C := Lib.hid (innBoot_any w 300 300 (by decide) ⟨#[]⟩)
  clear hE
  go_enter Tryz.func14, Tryz.ntmps14
  go_wp2_with fail
  refine C.out.mono ?_
  rintro e w1 ⟨v, rfl, ⟨v1, v2, v3, rfl, ho⟩, hb⟩
  have hl3 : (bootM 300 ⟨#[]⟩).mem.length = 300 := bootMem_length 48 300
  have h76 : (bootM 300 ⟨#[]⟩).mem[76]? = some 6 := alive_boot
  have HMB := Lib.hid (show aliveE = { bootM 300 ⟨#[]⟩ with mem := ((((((bootM 300 ⟨#[]⟩).mem.set 192 2).set 193 3).set 194 6).set 195 13).set 196 5), ip := 192, handler := 0, back := [0], status := 0, code := 0 } from rfl)
  have HSL := Lib.hid (show (bootM 300 ⟨#[]⟩).stack.length = 0 ∧ (bootM 300 ⟨#[]⟩).back.length = 0 from ⟨rfl, rfl⟩)
  generalize bootM 300 ⟨#[]⟩ = mb at *
  obtain ⟨g, cap, e3, hblk⟩ := owns_slice ho.me (by omega)
  rw [hl3] at e3
  subst e3
  have HO := Lib.hid ho
  have HB1 := Lib.hid hb
  obtain ⟨a1, k1, e1⟩ := ho.st.slice
  obtain ⟨a2, k2, e2⟩ := ho.bk.slice
  rw [vals_length, HSL.out.1] at e1
  rw [vals_length, HSL.out.2] at e2
  subst e1
  subst e2
  obtain ⟨w2, b, hw2, hbb, HX, HB2, HBG⟩ := new_box w1 (cells10 mb.ip mb.handler (.slice a1 0 k1) (.slice a2 0 k2) (.slice (some ⟨g, 0, none⟩) 300 cap) mb.out mb.inp mb.read mb.status mb.code) 24
  have HO2 := Lib.hid (HO.out.below HB2.out)
  have hcell : ∀ {j : Nat} {x : Int}, mb.mem[j]? = some x → w2.cell? ⟨g, j, none⟩ = some (.int .i64 x) := fun {j x} hx => by
    have hj := (List.getElem?_eq_some_iff.1 hx).1
    rw [(owns_at HO2.out.me hj).1]
    congr 2
    rw [List.getElem?_eq_getElem hj] at hx
    exact Option.some.inj hx
  have q76 := hcell h76
  have q192 : w2.cell? ⟨g, 192, none⟩ = some (.int .i64 (mb.mem[192]'(by omega))) := hcell (List.getElem?_eq_getElem _)
  have f192 : w2.frozen? ⟨g, 192, none⟩ = false := (owns_at HO2.out.me (j := 192) (by omega)).2
  generalize mb.mem[192]'(by omega) = z192 at q192
  have q193 : w2.cell? ⟨g, 193, none⟩ = some (.int .i64 (mb.mem[193]'(by omega))) := hcell (List.getElem?_eq_getElem _)
  have f193 : w2.frozen? ⟨g, 193, none⟩ = false := (owns_at HO2.out.me (j := 193) (by omega)).2
  generalize mb.mem[193]'(by omega) = z193 at q193
  have q194 : w2.cell? ⟨g, 194, none⟩ = some (.int .i64 (mb.mem[194]'(by omega))) := hcell (List.getElem?_eq_getElem _)
  have f194 : w2.frozen? ⟨g, 194, none⟩ = false := (owns_at HO2.out.me (j := 194) (by omega)).2
  generalize mb.mem[194]'(by omega) = z194 at q194
  have q195 : w2.cell? ⟨g, 195, none⟩ = some (.int .i64 (mb.mem[195]'(by omega))) := hcell (List.getElem?_eq_getElem _)
  have f195 : w2.frozen? ⟨g, 195, none⟩ = false := (owns_at HO2.out.me (j := 195) (by omega)).2
  generalize mb.mem[195]'(by omega) = z195 at q195
  have q196 : w2.cell? ⟨g, 196, none⟩ = some (.int .i64 (mb.mem[196]'(by omega))) := hcell (List.getElem?_eq_getElem _)
  have f196 : w2.frozen? ⟨g, 196, none⟩ = false := (owns_at HO2.out.me (j := 196) (by omega)).2
  generalize mb.mem[196]'(by omega) = z196 at q196
  have d4 : w2.cell? ⟨b, 4, none⟩ = some (.slice (some ⟨g, 0, none⟩) 300 cap) := whole_cell HX.out rfl
  have d0 : w2.drew.cell? ⟨b, 4, none⟩ = some (.slice (some ⟨g, 0, none⟩) 300 cap) := d4
  have HGB := Lib.hid (show b ≠ g from fun e => by have h1 := (HO.out.me.block g hblk).2.1; have h2 := HBG.out; omega)
  have HL3 := Lib.hid hl3
  clear ho hb C hl3 h76 hcell
  go_wp2_with fail
  go_region_held3 (fun w' => w'.cell? ⟨b, 4, none⟩ = some (.slice (some ⟨g, 0, none⟩) 300 cap))
    (first
      | with_reducible exact d0
      | with_reducible exact drewc (keep5 HGB.out d4)
      | with_reducible exact drewc (keep5 HGB.out (keep5 HGB.out d4))
      | with_reducible exact drewc (keep5 HGB.out (keep5 HGB.out (keep5 HGB.out d4)))
      | with_reducible exact drewc (keep5 HGB.out (keep5 HGB.out (keep5 HGB.out (keep5 HGB.out d4))))
      | with_reducible exact drewc (keep5 HGB.out (keep5 HGB.out (keep5 HGB.out (keep5 HGB.out (keep5 HGB.out d4))))))
    (fail)
  have hst : Stirred w2 (((((w2.setCell ⟨g, 192, none⟩ (.int .i64 2)).setCell ⟨g, 193, none⟩ (.int .i64 3)).setCell ⟨g, 194, none⟩ (.int .i64 6)).setCell ⟨g, 195, none⟩ (.int .i64 13)).setCell ⟨g, 196, none⟩ (.int .i64 5)).drew [g] := (((((Stirred.setCell w2 ⟨g, 192, none⟩ (.int .i64 2)).trans (Stirred.setCell _ ⟨g, 193, none⟩ (.int .i64 3)) (fun k hk => .inl hk)).trans (Stirred.setCell _ ⟨g, 194, none⟩ (.int .i64 6)) (fun k hk => .inl hk)).trans (Stirred.setCell _ ⟨g, 195, none⟩ (.int .i64 13)) (fun k hk => .inl hk)).trans (Stirred.setCell _ ⟨g, 196, none⟩ (.int .i64 5)) (fun k hk => .inl hk)).trans (Stirred.drew _ [g]) (fun k hk => .inl hk)
  have hme : Owns (((((w2.setCell ⟨g, 192, none⟩ (.int .i64 2)).setCell ⟨g, 193, none⟩ (.int .i64 3)).setCell ⟨g, 194, none⟩ (.int .i64 6)).setCell ⟨g, 195, none⟩ (.int .i64 13)).setCell ⟨g, 196, none⟩ (.int .i64 5)).drew w.heap.size 3 (.slice (some ⟨g, 0, none⟩) 300 cap) (vals (((((mb.mem.set 192 2).set 193 3).set 194 6).set 195 13).set 196 5)) := by
    have h1 := ((((HO2.out.me.stored 192 (.int .i64 2)).stored 193 (.int .i64 3)).stored 194 (.int .i64 6)).stored 195 (.int .i64 13)).stored 196 (.int .i64 5)
    rw [vals_set, vals_set, vals_set, vals_set, vals_set] at h1
    exact h1
  have HO7 := Lib.hid (show OwnsL (((((w2.setCell ⟨g, 192, none⟩ (.int .i64 2)).setCell ⟨g, 193, none⟩ (.int .i64 3)).setCell ⟨g, 194, none⟩ (.int .i64 6)).setCell ⟨g, 195, none⟩ (.int .i64 13)).setCell ⟨g, 196, none⟩ (.int .i64 5)).drew w.heap.size (.slice a1 0 k1) (.slice a2 0 k2) (.slice (some ⟨g, 0, none⟩) 300 cap) { mb with mem := (((((mb.mem.set 192 2).set 193 3).set 194 6).set 195 13).set 196 5) } from
    ⟨HO2.out.st.touch hst (fun k hk hm => by rw [List.mem_singleton] at hm; subst hm; exact (HO2.out.sb k hk).2 hblk), HO2.out.bk.touch hst (fun k hk hm => by rw [List.mem_singleton] at hm; subst hm; exact HO2.out.bm k hk hblk), hme, HO2.out.sb, HO2.out.bm⟩)
  have HX7 := Lib.hid (hst.whole HX.out (by rw [List.mem_singleton]; exact HGB.out))
  have hgw : w.heap.size ≤ g := (HO.out.me.block g hblk).1
  have HB7 := Lib.hid ((HB1.out.trans (HB2.out.mono HB1.out.size)).trans (hst.below (B := w.heap.size) (fun k hk => by rw [List.mem_singleton.1 hk]; exact hgw) (Nat.le_trans HB1.out.size HB2.out.size)))
  clear hst hme hgw hw2 hbb q76 q192 q193 q194 q195 q196 f192 f193 f194 f195 f196 d4 d0
  generalize (((((w2.setCell ⟨g, 192, none⟩ (.int .i64 2)).setCell ⟨g, 193, none⟩ (.int .i64 3)).setCell ⟨g, 194, none⟩ (.int .i64 6)).setCell ⟨g, 195, none⟩ (.int .i64 13)).setCell ⟨g, 196, none⟩ (.int .i64 5)).drew = w7 at *
  have HRD := Lib.hid (OwnsM.reads ⟨_, _, _, rfl, HO7.out⟩ : ReadsM w7 (stV { mb with mem := (((((mb.mem.set 192 2).set 193 3).set 194 6).set 195 13).set 196 5) } (.slice a1 0 k1) (.slice a2 0 k2) (.slice (some ⟨g, 0, none⟩) 300 cap)) { mb with mem := (((((mb.mem.set 192 2).set 193 3).set 194 6).set 195 13).set 196 5) })
  have C := Lib.hid (innEnter_any HRD.out (by have := HSL.out.1; show mb.stack.length ≤ 10000; omega) (by have := HSL.out.2; show mb.back.length ≤ 10000; omega) (by have := HL3.out; simp only [List.length_set]; omega) 192)
  simp only at C
  rw [← HMB.out] at C
  clear HMB HSL HL3 HO HO2 HX HRD
  go_wp2_with (refine ld_state (by rfl) _ rfl _ rfl _ _ HX7.out rfl ?_)
  refine C.out.mono ?_
  rintro e w8 ⟨v, rfl, ho, hb⟩
  have HB8 := Lib.hid (HB7.out.trans (hb.mono HB7.out.size))
  have D := Lib.hid (innRun_nat (OwnsM.reads ho) alive_right alive_cells (by show (0 : Nat) ≤ maxLen; exact Nat.zero_le _) (fun wc hbc => HE.out wc (HB8.out.trans (hbc.mono HB8.out.size))) 99 (by decide))
  rw [runI_nat] at D
  obtain ⟨r1, r2, r3⟩ := alive_runs
  rw [r1] at D
  generalize (Mach.run 99 aliveE).1 = mf at *
  obtain ⟨u1, u2, u3, rfl, -⟩ := ho
  clear hb C HX7 HO7 r1
  go_wp2_with fail
  refine D.out.mono ?_
  rintro e w9 ⟨v, rfl, ⟨v1, v2, v3, rfl, ho⟩, hb⟩
  have HB9 := Lib.hid (HB8.out.trans (hb.mono HB8.out.size))
  obtain ⟨h, ch, e1, -⟩ := owns_slice ho.st (by rw [r3]; decide)
  rw [show mf.stack.length = 1 by rw [r3]; rfl] at e1
  subst e1
  have k9 : w9.cell? ⟨h, 0, none⟩ = some (.int .i64 9) := by
    rw [(owns_at ho.st (j := 0) (by rw [r3]; decide)).1]
    congr 2
    simp [r3]
  obtain ⟨a4, k4, e4⟩ := ho.bk.slice
  obtain ⟨a5, k5, e5⟩ := ho.me.slice
  rw [vals_length] at e4 e5
  subst e4
  subst e5
  obtain ⟨w10, b2, hw10, hb2, HX10, HB10, HBG10⟩ := new_box w9 (cells10 mf.ip mf.handler (.slice (some ⟨h, 0, none⟩) 1 ch) (.slice a4 mf.back.length k4) (.slice a5 mf.mem.length k5) mf.out mf.inp mf.read mf.status mf.code) 24
  have hk9 := (Stirred.of_below HB10.out []).cell List.not_mem_nil k9
  have m8 : w10.cell? ⟨b2, 8, none⟩ = some (.int .i64 mf.status) := whole_cell HX10.out rfl
  have m2 : w10.cell? ⟨b2, 2, none⟩ = some (.slice (some ⟨h, 0, none⟩) 1 ch) := whole_cell HX10.out rfl
  rw [r2] at m8
  have HBX := Lib.hid (HB9.out.trans (HB10.out.mono HB9.out.size))
  clear ho hb D r2 r3 k9
  go_wp2
  go_ret
  exact ⟨rfl, HBX.out⟩
end Go.Proofs.YthnciokmomgfeaaGreatDoor.Inn
/- Is a machine small enough? -/
namespace Go.Proofs.YthnciokmomgfeaaGreatDoor.Mach
open Go.RowKit Book Mem
set_option linter.unusedVariables false
set_option linter.unusedSimpArgs false
def lightB (m : M) : Bool := decide (m.mem.length ≤ 700) && decide (m.inp.size ≤ 300) && rightM m
theorem lightB_iff (m : M) : lightB m = true ↔ m.mem.length ≤ 700 ∧ m.inp.size ≤ 300 ∧ Right m := by
  unfold lightB
  rw [Bool.and_eq_true, Bool.and_eq_true, decide_eq_true_eq, decide_eq_true_eq, rightM_iff, and_assoc]
set_option maxHeartbeats 4000000 in
set_option maxRecDepth 100000 in
theorem light_any {w : World} {v : Value} {m : M} (h : ReadsM w v m) (hi : m.inp.size ≤ maxLen) (ho : m.out.size ≤ maxLen) :
    Calls Tryz.prog 13 #[v] w (Says (.bool (lightB m)) w) := by
  have HV := Lib.hid h
  obtain ⟨vs, vb, vm, rfl, -, -, ⟨⟨mo, mc, hm, _⟩, _⟩⟩ := h
  obtain ⟨ip, hn, st, bk, me, ou, inn, rd, stt, cd⟩ := m
  simp only at hm hi ho ⊢
  subst hm
  have hi' : inn.size ≤ 9223372036854775807 := hi
  have HX := Lib.hid (heap_alloc_new w (.cells (cells10 ip hn vs vb (.slice mo me.length mc) ou inn rd stt cd) 24))
  have HB1 := Lib.hid ((Below.refl w.heap.size w).alloc (Nat.le_refl _) (.cells (cells10 ip hn vs vb (.slice mo me.length mc) ou inn rd stt cd) 24))
  have C := Lib.hid (refRight_any (HV.out.below HB1.out) hi ho)
  obtain ⟨rb, hrb⟩ : ∃ b, rightM ⟨ip, hn, st, bk, me, ou, inn, rd, stt, cd⟩ = b := ⟨_, rfl⟩
  have HL := Lib.hid (show lightB ⟨ip, hn, st, bk, me, ou, inn, rd, stt, cd⟩ = (decide (me.length ≤ 700) && decide (inn.size ≤ 300) && rb) by unfold lightB; rw [hrb])
  obtain ⟨lb, hlb⟩ : ∃ b, lightB ⟨ip, hn, st, bk, me, ou, inn, rd, stt, cd⟩ = b := ⟨_, rfl⟩
  rw [hlb]
  rw [hrb] at C
  have HLB := Lib.hid (hlb.symm.trans HL.out)
  clear hi ho hlb HL HV hrb
  by_cases c1 : me.length ≤ 700
  · by_cases c2 : inn.size ≤ 300
    · have HF := Lib.hid (show lb = rb by rw [HLB.out]; simp [c1, c2])
      clear HLB
      go_enter Tryz.func13, Tryz.ntmps13
      go_wp2_with (first
        | (refine ld_state (by rfl) _ rfl _ rfl _ _ HX.out rfl ?_)
        | (go_at_call 27; refine C.out.mono ?_; rintro e w2 ⟨rfl, hb⟩; have HB2 := Lib.hid (HB1.out.trans (hb.mono HB1.out.size)); clear hb))
      go_ret
      exact ⟨by rw [HF.out]; rfl, HB2.out⟩
    · have HF := Lib.hid (show lb = false by rw [HLB.out]; simp [c2])
      clear HLB C HX
      go_enter Tryz.func13, Tryz.ntmps13
      go_wp2
      go_ret
      exact ⟨by rw [HF.out]; rfl, HB1.out⟩
  · have HF := Lib.hid (show lb = false by rw [HLB.out]; simp [c1])
    clear HLB C HX
    go_enter Tryz.func13, Tryz.ntmps13
    go_wp2
    go_ret
    exact ⟨by rw [HF.out]; rfl, HB1.out⟩
end Go.Proofs.YthnciokmomgfeaaGreatDoor.Mach
/- Marks put into kept lists. -/
namespace Go.Proofs.YthnciokmomgfeaaGreatDoor
open Go.RowKit Book
set_option linter.unusedSimpArgs false
set_option linter.unusedVariables false
set_option maxHeartbeats 2000000 in
theorem putInts_any (p B : Nat) (vS : Value) (ls : List (Value × List Value)) (w : World) (hp : p < B) (c0 : w.cell? ⟨p, 2, none⟩ = some vS) (hL : Lists w B 22 3 vS ls) (hf : ls.length ≤ 250) (hl : ∀ k ∈ ls, k.2.length ≤ 1000000) :
    Calls Tryz.prog 59 #[.pointer (some ⟨p, 0, none⟩)] w fun e w' => e = .returned (.tuple #[]) ∧ ∃ cur, Done (fun j n => intMarks j 0 n) ls ls.length cur ∧ Lists w' B 22 3 vS cur ∧ Stirred w w' (blocks ls) := by
  obtain ⟨ao, cap, hv⟩ := hL.spine.slice
  rw [List.length_map] at hv
  obtain ⟨L, hn⟩ : ∃ n, ls.length = n := ⟨_, rfl⟩
  rw [hn] at hv hf
  rw [hn]
  subst hv
  have HL := Lib.hid hL
  have HN := Lib.hid hn
  have HM := Lib.hid hl
  have HC0 := Lib.hid c0
  have hpb := Lib.hid (fun h => Nat.lt_irrefl p (Nat.lt_of_lt_of_le hp (hL.lt p h).1) : p ∉ blocks ls)
  clear hL hn hl c0
  go_enter Tryz.func59, Tryz.ntmps59
  go_wp2
  go_loopg [2] L (fun g i wr => ∃ (j : Nat) (cur : List (Value × List Value)), g = L - j ∧ j ≤ L ∧ i = .int .i64 j ∧ Hid (Done (fun j n => intMarks j 0 n) ls j cur) ∧ Hid (Lists wr B 22 3 (.slice ao L cap) cur) ∧ Hid (Stirred w wr (blocks ls)))
  case atStart => exact ⟨0, ls, rfl, Nat.zero_le _, rfl, Done.zero _ _, HL.out, Stirred.refl _ _⟩
  case round =>
    obtain ⟨j, cur, rfl, hj, rfl, HD, HK, HT⟩ := hrel
    have c0 := HT.out.cell hpb.out HC0.out
    by_cases hlt : j < L
    · obtain ⟨⟨v, xs⟩, hk⟩ : ∃ k, ls[j]? = some k := ⟨_, List.getElem?_eq_getElem (by rw [HN.out]; exact hlt)⟩
      have hk' := HD.out.rest j _ (Nat.le_refl _) hk
      have ho := HK.out.list _ (List.mem_of_getElem? hk')
      obtain ⟨gS, cS, e1, hcS, _, _⟩ := HK.out.spine.row (by rw [List.length_map, HD.out.len, HN.out]; omega)
      rw [List.length_map, HD.out.len, HN.out] at e1
      simp only [Value.slice.injEq, true_and] at e1
      obtain ⟨rfl, rfl⟩ := e1
      have k1 := hcS j v (by rw [List.getElem?_map, hk']; rfl)
      obtain ⟨n, hn⟩ : ∃ n, xs.length = n := ⟨_, rfl⟩
      have hn6 : n ≤ 1000000 := by rw [← hn]; exact HM.out _ (List.mem_of_getElem? hk)
      obtain ⟨bo, bc, hv⟩ := ho.slice
      dsimp only at ho hv
      rw [hn] at hv
      subst hv
      have HO := Lib.hid ho
      have HK1 := Lib.hid hk
      have HK2 := Lib.hid hk'
      have HXN := Lib.hid hn
      have hj0 : (0 : Int) ≤ (j : Int) := Int.natCast_nonneg _
      have hj1 : (j : Int) < (L : Int) := by omega
      have C := Lib.hid (markInts_any j 0 n (by omega) (by omega) (by omega) wr)
      clear ho hk hk' hn hcS
      go_wp2_with fail
      refine C.out.mono ?_
      rintro e w1 ⟨m, rfl, hm, hb⟩
      obtain ⟨mo, mc, hmv⟩ := hm.slice
      rw [intMarks_length] at hmv
      subst hmv
      have HMK := Lib.hid hm
      have HB := Lib.hid hb
      have HO1 := Lib.hid (HO.out.below hb)
      have HK3 := Lib.hid (HK.out.below hb)
      have HT1 := Lib.hid (HT.out.trans (Stirred.of_below hb []) (fun _ h => by cases h))
      have c01 := HT1.out.cell hpb.out HC0.out
      have hbw := Lib.hid (fun k hk => (HO.out.block k hk).2.1)
      have HS1 := Lib.hid ((Stirred.of_below HB.out []).cell (List.not_mem_nil) k1)
      clear hm hb k1 c0
      go_wp2
      go_loopg [4] n (fun g k wx => ∃ q : Nat, g = n - q ∧ q ≤ n ∧ k = .int .i64 q ∧ Hid (Owns wx B 3 (.slice bo n bc) ((intMarks j 0 n).take q ++ xs.drop q)) ∧ Hid (Stirred w1 wx (blk (.slice bo n bc)).toList))
      case atStart => exact ⟨0, rfl, Nat.zero_le _, rfl, HO1.out, Stirred.refl _ _⟩
      case round =>
        obtain ⟨q, rfl, hq, rfl, HX, HY⟩ := hrel
        by_cases hlq : q < n
        · have hmk : (intMarks j 0 n)[q]? = some (.int .i64 (markI j (0 + q))) := by simp [intMarks, hlq]
          obtain ⟨s, hs⟩ : ∃ s, markI j (0 + q) = s := ⟨_, rfl⟩
          rw [hs] at hmk
          have hxl : ((intMarks j 0 n).take q ++ xs.drop q).length = n := by rw [List.length_append, List.length_take, List.length_drop, intMarks_length, HXN.out]; omega
          obtain ⟨gv, cv, e1, hcv, hfv, _⟩ := HX.out.row (by omega)
          rw [hxl] at e1
          simp only [Value.slice.injEq, true_and] at e1
          obtain ⟨rfl, rfl⟩ := e1
          have hbv := HX.out.capAt (by omega)
          have hy := HY.out
          rw [hbv] at hy
          obtain ⟨gm, cm, e2, hcm, _, _⟩ := HMK.out.row (by rw [intMarks_length]; omega)
          rw [intMarks_length] at e2
          simp only [Value.slice.injEq, true_and] at e2
          obtain ⟨rfl, rfl⟩ := e2
          have n1 : gm ≠ gv := by have h1 := (HMK.out.block gm (HMK.out.capAt (by rw [intMarks_length]; omega))).1; have h2 := hbw.out gv hbv; omega
          have n2 : gS ≠ gv := fun e => HK.out.spine_apart (by decide) gS (HK.out.spine.capAt (by rw [List.length_map, HD.out.len, HN.out]; omega)) (by rw [e]; exact mem_blocks (List.mem_of_getElem? HK2.out) hbv)
          have n3 : p ≠ gv := by have h1 := (HO.out.block gv hbv).1; omega
          have km := hy.cell (show gm ∉ [gv] by simpa using n1) (hcm q _ hmk)
          have k1 := hy.cell (show gS ∉ [gv] by simpa using n2) (HS1.out)
          have c0 := hy.cell (show p ∉ [gv] by simpa using n3) c01
          obtain ⟨old, hold⟩ : ∃ old, ((intMarks j 0 n).take q ++ xs.drop q)[q]? = some old := ⟨_, List.getElem?_eq_getElem (by omega)⟩
          have ko := hcv q old hold
          have kf := hfv q
          have HMX := Lib.hid hmk
          have hq0 : (0 : Int) ≤ (q : Int) := Int.natCast_nonneg _
          have hq1 : (q : Int) < (n : Int) := by omega
          have F1 := Lib.hid ((Stirred.setCell _ ⟨gv, q, none⟩ (.int .i64 s)).cell (show p ∉ [gv] by simpa using n3) c0)
          have F2 := Lib.hid ((Stirred.setCell _ ⟨gv, q, none⟩ (.int .i64 s)).cell (show gS ∉ [gv] by simpa using n2) k1)
          have F3 := Lib.hid ((Stirred.setCell _ ⟨gv, q, none⟩ (.int .i64 s)).cell (show gm ∉ [gv] by simpa using n1) km)
          have hx2 := (HX.out.stored q (.int .i64 s)).touch (Stirred.drew _ []) (fun _ _ => List.not_mem_nil)
          rw [mix_set hmk (by rw [HXN.out, intMarks_length])] at hx2
          have HX2 := Lib.hid hx2
          have HY2 := Lib.hid ((HY.out.trans (Stirred.setCell _ ⟨gv, q, none⟩ (.int .i64 s)) (fun _ h => .inl (by rw [hbv]; exact h))).trans (Stirred.drew _ []) (fun _ h => by cases h))
          clear hmk hs hxl hx2 hcv hfv hcm hold hy hbv
          go_wp2_with fail
          go_region_held3 (fun w' => w'.cell? ⟨p, 2, none⟩ = some (.slice (some ⟨gS, 0, none⟩) L cap) ∧ w'.cell? ⟨gS, j, none⟩ = some (.slice (some ⟨gv, 0, none⟩) n bc) ∧ w'.cell? ⟨gm, q, none⟩ = some (.int .i64 s)) (first | (go_keep; done) | exact ⟨F1.out, F2.out, F3.out⟩) (fail)
          all_goals go_wp2
          go_roundg (n - (q + 1))
          case measure => omega
          case rel => exact ⟨q + 1, rfl, by omega, by go_num, HX2, HY2⟩
        · obtain rfl : q = n := by omega
          go_wp2
          go_roundg (L - (j + 1))
          case measure => omega
          case rel =>
            have hx : (intMarks j 0 q).take q ++ xs.drop q = intMarks j 0 q := by
              rw [List.take_of_length_le (by rw [intMarks_length]; omega), List.drop_eq_nil_of_le (by rw [HXN.out]; omega), List.append_nil]
            have hset := HK3.out.set (by decide) HK2.out HY.out (by have h1 := HX.out; rw [hx] at h1; exact h1)
            have hdone := HD.out.succ HK1.out
            rw [HXN.out] at hdone
            exact ⟨j + 1, _, rfl, by omega, by go_num, hdone, hset, HT1.out.trans HY.out (fun k hk => .inl (mem_blocks (List.mem_of_getElem? HK1.out) (by simpa using hk)))⟩
    · obtain rfl : j = L := by omega
      go_wp2
      go_end0
      exact ⟨rfl, cur, HD.out, HK.out, HT.out⟩
end Go.Proofs.YthnciokmomgfeaaGreatDoor
/- Kept lists, grown. -/
namespace Go.Proofs.YthnciokmomgfeaaGreatDoor
open Go.RowKit Book
set_option linter.unusedSimpArgs false
set_option linter.unusedVariables false
theorem intMarks_add (i a m n : Nat) : intMarks i a (m + n) = intMarks i a m ++ intMarks i (a + m) n := by
  induction n with
  | zero => simp [intMarks]
  | succ n ih => rw [← Nat.add_assoc, intMarks_succ, ih, intMarks_succ, List.append_assoc, Nat.add_assoc]
theorem intMarks_one (i a n : Nat) : ∀ u ∈ intMarks i a n, u.oneCell' = true := by
  intro u hu
  simp only [intMarks, List.mem_map] at hu
  obtain ⟨j, _, rfl⟩ := hu
  rfl
set_option maxHeartbeats 2000000 in
theorem growInts_any (p B : Nat) (vS : Value) (ls : List (Value × List Value)) (w : World) (hp : p < B) (hB : B ≤ w.heap.size) (c0 : w.cell? ⟨p, 2, none⟩ = some vS) (hL : Lists w B 22 3 vS ls) (hf : ls.length ≤ 250) (hl : ∀ k ∈ ls, k.2.length ≤ 1000000) (hm : ∀ i k, ls[i]? = some k → k.2 = intMarks i 0 k.2.length) :
    Calls Tryz.prog 64 #[.pointer (some ⟨p, 0, none⟩)] w fun e w' => ∃ vO gs, e = .returned vO ∧ Gs w B 22 3 (fun j n => intMarks j 0 n) 2000000 vS ls ls.length vO gs w' := by
  obtain ⟨i0, q1, q2, q3, q4⟩ := info_parts Tryz.bkIntInfo
  have HI := Lib.hid (And.intro q1 (And.intro q2 (And.intro q3 q4)))
  clear q1 q2 q3 q4
  obtain ⟨i1, q1, q2, q3, q4⟩ := info_parts Tryz.bkIntSpineInfo
  have HJ := Lib.hid (And.intro q1 (And.intro q2 (And.intro q3 q4)))
  clear q1 q2 q3 q4
  obtain ⟨ao, cap, hv⟩ := hL.spine.slice
  rw [List.length_map] at hv
  obtain ⟨L, hn⟩ : ∃ n, ls.length = n := ⟨_, rfl⟩
  rw [hn] at hv hf
  rw [hn]
  subst hv
  have HL := Lib.hid hL
  have HN := Lib.hid hn
  have HM := Lib.hid (And.intro hl hm)
  have HC0 := Lib.hid c0
  have hpb := Lib.hid (fun h => Nat.lt_irrefl p (Nat.lt_of_lt_of_le hp (hL.lt p h).1) : p ∉ blocks ls)
  clear hL hn hl hm c0
  go_enter Tryz.func64, Tryz.ntmps64
  go_wp2
  go_loopg [3, 4] L (fun g o i wr => ∃ (j : Nat) (gs : List (Value × List Value)), g = L - j ∧ j ≤ L ∧ i = .int .i64 j ∧ Hid (Gs w B 22 3 (fun j n => intMarks j 0 n) 2000000 (.slice ao L cap) ls j o gs wr))
  case atStart => exact ⟨0, [], rfl, Nat.zero_le _, rfl, Gs.zero HL.out⟩
  case round =>
    obtain ⟨j, gs, rfl, hj, rfl, HG⟩ := hrel
    obtain ⟨wa, hwa⟩ : ∃ wa, wa = wr := ⟨_, rfl⟩
    subst hwa
    have c0 := HG.out.stir.cell hpb.out HC0.out
    have HW := Lib.hid (Nat.le_trans hB HG.out.stir.size)
    by_cases hlt : j < L
    · obtain ⟨⟨v, xs⟩, hk⟩ : ∃ k, ls[j]? = some k := ⟨_, List.getElem?_eq_getElem (by rw [HN.out]; exact hlt)⟩
      have ho := HG.out.old.list _ (List.mem_of_getElem? hk)
      obtain ⟨gS, cS, e1, hcS, _, _⟩ := HG.out.old.spine.row (by rw [List.length_map, HN.out]; omega)
      rw [List.length_map, HN.out] at e1
      simp only [Value.slice.injEq, true_and] at e1
      obtain ⟨rfl, rfl⟩ := e1
      have k1 := hcS j v (by rw [List.getElem?_map, hk]; rfl)
      obtain ⟨n, hn⟩ : ∃ n, xs.length = n := ⟨_, rfl⟩
      have hn6 : n ≤ 1000000 := by rw [← hn]; exact HM.out.1 _ (List.mem_of_getElem? hk)
      have hxs : xs = intMarks j 0 n := by rw [← hn]; exact HM.out.2 _ _ hk
      have hg0 := Grows.start ho
      dsimp only at hg0
      rw [show xs = intMarks j 0 (n + 0) from hxs] at hg0 hk
      have HK := Lib.hid hk
      have HX := Lib.hid hg0
      have hj0 : (0 : Int) ≤ (j : Int) := Int.natCast_nonneg _
      have hj1 : (j : Int) < (L : Int) := by omega
      clear ho hk hn hcS hg0 hxs
      go_wp2
      go_loopg [5, 6] 12 (fun g l k wx => ∃ q : Nat, g = 12 - q ∧ q ≤ 12 ∧ k = .int .i64 q ∧ Hid (Grows wa B 3 v (intMarks j 0 n) wx l (intMarks j 0 (n + q))))
      case atStart => exact ⟨0, rfl, Nat.zero_le _, rfl, HX.out⟩
      case round =>
        obtain ⟨q, rfl, hq, rfl, HZ⟩ := hrel
        obtain ⟨lo, lc, hlv⟩ := HZ.out.long.slice
        rw [intMarks_length] at hlv
        subst hlv
        obtain ⟨m, hm⟩ : ∃ m, n + q = m := ⟨_, rfl⟩
        rw [hm] at HZ
        rw [hm]
        have HMQ := Lib.hid hm
        have hm6 : m ≤ 1000012 := by omega
        clear hm
        by_cases hlq : q < 12
        · have C := Lib.hid (markInts_any j m 1 (by omega) (by omega) (by omega) wr)
          go_wp2_with fail
          refine C.out.mono ?_
          rintro e w1 ⟨f, rfl, hf, hb⟩
          obtain ⟨fg, fc, hfv, hfc, _, _⟩ := hf.row (by rw [intMarks_length]; omega)
          rw [intMarks_length] at hfv
          subst hfv
          have HF := Lib.hid hfc
          have HZ1 := Lib.hid (HZ.out.below hb)
          have HB := Lib.hid hb
          clear hf hfc hb
          go_wp2_with (at_builtin; refine wpList_append_two _ rfl _ _ 22 rfl B 3 i0 (.int .i64 0) 8 Tryz.underlying22 HI.out.1 HI.out.2.1 HI.out.2.2.1 HI.out.2.2.2 rfl _ _ rfl HZ1.out.long ⟨fg, 0, none⟩ 1 fc (intMarks j m 1) (intMarks_length _ _ _) rfl ?c1 (intMarks_one _ _ _) ?c2 ?c3 ?c4 ?c5 ?_)
          case c1 => intro k u hu; rw [add_row]; exact HF.out k u hu
          case c2 => rw [intMarks_length]; omega
          case c3 => rw [intMarks_length, intMarks_length]; unfold maxLen; omega
          case c4 => rw [intMarks_length, intMarks_length]; omega
          case c5 => exact Nat.le_trans HW.out HZ1.out.stir.size
          intro v' w2 hO2 hS2 hT hN
          have hG := HZ1.out.append hO2 hS2 hT hN
          have hadd : intMarks j 0 m ++ intMarks j m 1 = intMarks j 0 (n + (q + 1)) := by rw [← Nat.add_assoc, HMQ.out, intMarks_add, Nat.zero_add]
          rw [hadd] at hG
          have HG2 := Lib.hid hG
          clear hO2 hS2 hT hN hG hadd
          go_wp2
          go_roundg (12 - (q + 1))
          case measure => omega
          case rel => exact ⟨q + 1, rfl, by omega, by go_num, HG2⟩
        · obtain rfl : q = 12 := by omega
          have C := Lib.hid (markInts_any j m 60 (by omega) (by omega) (by omega) wr)
          go_wp2_with fail
          refine C.out.mono ?_
          rintro e w1 ⟨f, rfl, hf, hb⟩
          obtain ⟨fg, fc, hfv, hfc, _, _⟩ := hf.row (by rw [intMarks_length]; omega)
          rw [intMarks_length] at hfv
          subst hfv
          have HF := Lib.hid hfc
          have HZ1 := Lib.hid (HZ.out.below hb)
          clear hf hfc hb
          go_wp2_with (at_builtin; refine wpList_append_two _ rfl _ _ 22 rfl B 3 i0 (.int .i64 0) 8 Tryz.underlying22 HI.out.1 HI.out.2.1 HI.out.2.2.1 HI.out.2.2.2 rfl _ _ rfl HZ1.out.long ⟨fg, 0, none⟩ 60 fc (intMarks j m 60) (intMarks_length _ _ _) rfl ?c1 (intMarks_one _ _ _) ?c2 ?c3 ?c4 ?c5 ?_)
          case c1 => intro k u hu; rw [add_row]; exact HF.out k u hu
          case c2 => rw [intMarks_length]; omega
          case c3 => rw [intMarks_length, intMarks_length]; unfold maxLen; omega
          case c4 => rw [intMarks_length, intMarks_length]; omega
          case c5 => exact Nat.le_trans HW.out HZ1.out.stir.size
          intro v' w2 hO2 hS2 hT hN
          have hG := HZ1.out.append hO2 hS2 hT hN
          have hadd : intMarks j 0 m ++ intMarks j m 60 = intMarks j 0 (m + 60) := by rw [intMarks_add, Nat.zero_add]
          rw [hadd] at hG
          have hG := hG.below ((Below.refl w2.heap.size w2).alloc (Nat.le_refl _) (.cells #[v'] 22))
          obtain ⟨no, nc, hnv⟩ := hG.long.slice
          rw [intMarks_length] at hnv
          subst hnv
          have HG2 := Lib.hid hG
          have HO3 := Lib.hid (HG.out.out_at HK.out hG)
          have HLN := Lib.hid (HG.out.len)
          have HW2 := Lib.hid (HG.out.stir.size)
          clear hO2 hS2 hT hN hG hadd
          go_wp2_with (at_builtin; refine wpList_append_two _ rfl _ _ 29 rfl w.heap.size 22 i1 (.slice none 0 0) 24 Tryz.underlying29 HJ.out.1 HJ.out.2.1 HJ.out.2.2.1 HJ.out.2.2.2 rfl _ _ rfl HO3.out ⟨w2.heap.size, 0, none⟩ 1 1 [.slice no (m + 60) nc] rfl rfl ?d1 ?d2 (Nat.zero_lt_succ 0) ?d3 ?d4 ?d5 ?_)
          case d1 => intro j u hj; rcases j with _ | j <;> simp at hj; subst hj; simp [Addr.add]
          case d2 => intro u hu; simp at hu; subst hu; rfl
          case d3 => rw [List.length_map, HLN.out]; show j + 1 ≤ maxLen; unfold maxLen; omega
          case d4 => rw [List.length_map, HLN.out]; show (j + 1) * 24 ≤ _; omega
          case d5 => exact Nat.le_trans HW2.out HG2.out.stir.size
          intro v' w3 hO3 _ hT3 _
          have HG3 := Lib.hid (HG.out.step (by decide) HK.out HG2.out (by rw [intMarks_length]) (by rw [intMarks_length]; omega) hO3 hT3)
          clear hO3 hT3
          go_wp2
          go_roundg (L - (j + 1))
          case measure => omega
          case rel => exact ⟨j + 1, _, rfl, by omega, by go_num, HG3⟩
    · obtain rfl : j = L := by omega
      go_wp2
      go_ret
      exact ⟨_, gs, rfl, HG.out⟩
end Go.Proofs.YthnciokmomgfeaaGreatDoor
/- Do lists bear their marks? -/
namespace Go.Proofs.YthnciokmomgfeaaGreatDoor
open Go.RowKit Book
set_option linter.unusedSimpArgs false
set_option linter.unusedVariables false
theorem intMarks_eq (i a n : Nat) : intMarks i a n = ((List.range n).map fun j => markI i (a + j)).map (.int .i64) := by simp [intMarks]
set_option maxHeartbeats 2000000 in
theorem markedInts_any (B : Nat) (v : Value) (ls : List (Value × List Value)) (w : World) (hs : Owns w B 22 v (ls.map (·.1))) (hl : ∀ k ∈ ls, Owns w B 3 k.1 k.2) (hf : ls.length ≤ 250) (hm : ∀ i k, ls[i]? = some k → k.2 = intMarks i 0 k.2.length ∧ k.2.length ≤ 2000000) :
    Calls Tryz.prog 70 #[v] w fun e w' => e = .returned (.bool true) ∧ Below w.heap.size w w' := by
  obtain ⟨ao, cap, hv⟩ := hs.slice
  rw [List.length_map] at hv
  obtain ⟨L, hn⟩ : ∃ n, ls.length = n := ⟨_, rfl⟩
  rw [hn] at hv hf
  subst hv
  have HS := Lib.hid hs
  have HL := Lib.hid hl
  have HN := Lib.hid hn
  have HM := Lib.hid hm
  clear hs hl hn hm
  go_enter Tryz.func70, Tryz.ntmps70
  go_wp2
  go_loopg [3] L (fun g i wr => ∃ j : Nat, g = L - j ∧ j ≤ L ∧ i = .int .i64 j ∧ Hid (Below w.heap.size w wr))
  case atStart => exact ⟨0, rfl, Nat.zero_le _, rfl, Below.refl _ _⟩
  case round =>
    obtain ⟨j, rfl, hj, rfl, HB⟩ := hrel
    by_cases hlt : j < L
    · obtain ⟨⟨v, xs⟩, hk⟩ : ∃ k, ls[j]? = some k := ⟨_, List.getElem?_eq_getElem (by rw [HN.out]; exact hlt)⟩
      have ho := (HL.out _ (List.mem_of_getElem? hk)).below HB.out
      obtain ⟨gS, cS, e1, hcS, _, _⟩ := HS.out.row (by rw [List.length_map, HN.out]; omega)
      rw [List.length_map, HN.out] at e1
      simp only [Value.slice.injEq, true_and] at e1
      obtain ⟨rfl, rfl⟩ := e1
      have k0 := hcS j v (by rw [List.getElem?_map, hk]; rfl)
      have k1 := (Stirred.of_below HB.out []).cell (List.not_mem_nil) k0
      obtain ⟨n, hn⟩ : ∃ n, xs.length = n := ⟨_, rfl⟩
      have hxs := (HM.out _ _ hk).1
      have hn6 := (HM.out _ _ hk).2
      dsimp only at hxs hn6 ho
      rw [hn] at hxs hn6
      subst hxs
      obtain ⟨bo, bc, hbv⟩ := ho.slice
      rw [hn] at hbv
      subst hbv
      have HO := Lib.hid ho
      have hj0 : (0 : Int) ≤ (j : Int) := Int.natCast_nonneg _
      have hj1 : (j : Int) < (L : Int) := by omega
      have C := fun w => Lib.hid (markInts_any j 0 n (by omega) (by omega) (by omega) w)
      clear ho hk hn hcS k0
      go_wp2_with fail
      go_region_held3 (fun w' => w'.cell? ⟨gS, j, none⟩ = some (.slice bo n bc) ∧ Hid (Below wr.heap.size wr w'))
        (first
          | exact ⟨(Stirred.of_below HB2.out []).cell (List.not_mem_nil) k1, HB2⟩
          | exact ⟨(Stirred.of_below HB1.out []).cell (List.not_mem_nil) k1, HB1⟩
          | exact ⟨k1, (Below.refl wr.heap.size wr).drew⟩)
        (first
          | (go_at_call 96; refine (C _).out.mono ?_; rintro e w1 ⟨f, rfl, hf, hb⟩; have HB1 := Lib.hid ((Below.refl wr.heap.size wr).drew.trans hb); have HF := Lib.hid hf; clear hf hb)
          | (go_at_call 33; have hf := HF.out; have ho := HO.out.below HB1.out; rw [intMarks_eq] at hf ho; refine (sameInts_any _ _ _ _ _ _ ho hf (by simp; omega)).mono ?_; clear hf ho; rintro e w2 ⟨rfl, q, hq⟩; have HB2 := Lib.hid (show Below wr.heap.size wr w2 by rw [hq]; exact HB1.out.trans (bk_below_drewN _ _ _)); clear hq))
      all_goals go_wp2
      go_roundg (L - (j + 1))
      case measure => omega
      case rel => exact ⟨j + 1, rfl, by omega, by go_num, HB.out.trans (HB2.out.mono HB.out.size)⟩
    · obtain rfl : j = L := by omega
      go_wp2
      go_ret
      exact ⟨rfl, HB.out⟩
end Go.Proofs.YthnciokmomgfeaaGreatDoor
/- Kinds of which a book keeps no list: nothing is done. -/
namespace Go.Proofs.YthnciokmomgfeaaGreatDoor
open Go.RowKit Book
set_option linter.unusedSimpArgs false
set_option linter.unusedVariables false
theorem stillTexts_none (p : Nat) (w : World) (c0 : w.cell? ⟨p, 0, none⟩ = some (.slice none 0 0)) :
    Calls Tryz.prog 51 #[.pointer (some ⟨p, 0, none⟩)] w fun e w' => e = .returned (.bool true) ∧ w' = w := by
  go_enter Tryz.func51, Tryz.ntmps51
  go_wp2
  go_loopg [3] 0 (fun g i wr => i = .int .i64 0 ∧ wr = w)
  case atStart => exact ⟨rfl, rfl⟩
  case round =>
    obtain ⟨rfl, rfl⟩ := hrel
    go_wp2
    go_ret
    exact ⟨rfl, rfl⟩
theorem putTexts_none (p : Nat) (w : World) (c0 : w.cell? ⟨p, 0, none⟩ = some (.slice none 0 0)) :
    Calls Tryz.prog 58 #[.pointer (some ⟨p, 0, none⟩)] w fun e w' => e = .returned (.tuple #[]) ∧ w' = w := by
  go_enter Tryz.func58, Tryz.ntmps58
  go_wp2
  go_loopg [2] 0 (fun g i wr => i = .int .i64 0 ∧ wr = w)
  case atStart => exact ⟨rfl, rfl⟩
  case round =>
    obtain ⟨rfl, rfl⟩ := hrel
    go_wp2
    go_end0
    exact ⟨rfl, rfl⟩
theorem growTexts_none (p : Nat) (w : World) (c0 : w.cell? ⟨p, 0, none⟩ = some (.slice none 0 0)) :
    Calls Tryz.prog 63 #[.pointer (some ⟨p, 0, none⟩)] w fun e w' => e = .returned (.slice none 0 0) ∧ w' = w := by
  go_enter Tryz.func63, Tryz.ntmps63
  go_wp2
  go_loopg [3, 4] 0 (fun g v i wr => v = .slice none 0 0 ∧ i = .int .i64 0 ∧ wr = w)
  case atStart => exact ⟨rfl, rfl, rfl⟩
  case round =>
    obtain ⟨rfl, rfl, rfl⟩ := hrel
    go_wp2
    go_ret
    exact ⟨rfl, rfl⟩
theorem markedTexts_none (w : World) :
    Calls Tryz.prog 69 #[.slice none 0 0] w fun e w' => e = .returned (.bool true) ∧ w' = w := by
  go_enter Tryz.func69, Tryz.ntmps69
  go_wp2
  go_loopg [3] 0 (fun g i wr => i = .int .i64 0 ∧ wr = w)
  case atStart => exact ⟨rfl, rfl⟩
  case round =>
    obtain ⟨rfl, rfl⟩ := hrel
    go_wp2
    go_ret
    exact ⟨rfl, rfl⟩
theorem stillInts_none (p : Nat) (w : World) (c0 : w.cell? ⟨p, 2, none⟩ = some (.slice none 0 0)) :
    Calls Tryz.prog 52 #[.pointer (some ⟨p, 0, none⟩)] w fun e w' => e = .returned (.bool true) ∧ w' = w := by
  go_enter Tryz.func52, Tryz.ntmps52
  go_wp2
  go_loopg [3] 0 (fun g i wr => i = .int .i64 0 ∧ wr = w)
  case atStart => exact ⟨rfl, rfl⟩
  case round =>
    obtain ⟨rfl, rfl⟩ := hrel
    go_wp2
    go_ret
    exact ⟨rfl, rfl⟩
theorem putInts_none (p : Nat) (w : World) (c0 : w.cell? ⟨p, 2, none⟩ = some (.slice none 0 0)) :
    Calls Tryz.prog 59 #[.pointer (some ⟨p, 0, none⟩)] w fun e w' => e = .returned (.tuple #[]) ∧ w' = w := by
  go_enter Tryz.func59, Tryz.ntmps59
  go_wp2
  go_loopg [2] 0 (fun g i wr => i = .int .i64 0 ∧ wr = w)
  case atStart => exact ⟨rfl, rfl⟩
  case round =>
    obtain ⟨rfl, rfl⟩ := hrel
    go_wp2
    go_end0
    exact ⟨rfl, rfl⟩
theorem growInts_none (p : Nat) (w : World) (c0 : w.cell? ⟨p, 2, none⟩ = some (.slice none 0 0)) :
    Calls Tryz.prog 64 #[.pointer (some ⟨p, 0, none⟩)] w fun e w' => e = .returned (.slice none 0 0) ∧ w' = w := by
  go_enter Tryz.func64, Tryz.ntmps64
  go_wp2
  go_loopg [3, 4] 0 (fun g v i wr => v = .slice none 0 0 ∧ i = .int .i64 0 ∧ wr = w)
  case atStart => exact ⟨rfl, rfl, rfl⟩
  case round =>
    obtain ⟨rfl, rfl, rfl⟩ := hrel
    go_wp2
    go_ret
    exact ⟨rfl, rfl⟩
theorem markedInts_none (w : World) :
    Calls Tryz.prog 70 #[.slice none 0 0] w fun e w' => e = .returned (.bool true) ∧ w' = w := by
  go_enter Tryz.func70, Tryz.ntmps70
  go_wp2
  go_loopg [3] 0 (fun g i wr => i = .int .i64 0 ∧ wr = w)
  case atStart => exact ⟨rfl, rfl⟩
  case round =>
    obtain ⟨rfl, rfl⟩ := hrel
    go_wp2
    go_ret
    exact ⟨rfl, rfl⟩
theorem stillWords_none (p : Nat) (w : World) (c0 : w.cell? ⟨p, 4, none⟩ = some (.slice none 0 0)) :
    Calls Tryz.prog 53 #[.pointer (some ⟨p, 0, none⟩)] w fun e w' => e = .returned (.bool true) ∧ w' = w := by
  go_enter Tryz.func53, Tryz.ntmps53
  go_wp2
  go_loopg [3] 0 (fun g i wr => i = .int .i64 0 ∧ wr = w)
  case atStart => exact ⟨rfl, rfl⟩
  case round =>
    obtain ⟨rfl, rfl⟩ := hrel
    go_wp2
    go_ret
    exact ⟨rfl, rfl⟩
theorem putWords_none (p : Nat) (w : World) (c0 : w.cell? ⟨p, 4, none⟩ = some (.slice none 0 0)) :
    Calls Tryz.prog 60 #[.pointer (some ⟨p, 0, none⟩)] w fun e w' => e = .returned (.tuple #[]) ∧ w' = w := by
  go_enter Tryz.func60, Tryz.ntmps60
  go_wp2
  go_loopg [2] 0 (fun g i wr => i = .int .i64 0 ∧ wr = w)
  case atStart => exact ⟨rfl, rfl⟩
  case round =>
    obtain ⟨rfl, rfl⟩ := hrel
    go_wp2
    go_end0
    exact ⟨rfl, rfl⟩
theorem growWords_none (p : Nat) (w : World) (c0 : w.cell? ⟨p, 4, none⟩ = some (.slice none 0 0)) :
    Calls Tryz.prog 65 #[.pointer (some ⟨p, 0, none⟩)] w fun e w' => e = .returned (.slice none 0 0) ∧ w' = w := by
  go_enter Tryz.func65, Tryz.ntmps65
  go_wp2
  go_loopg [3, 4] 0 (fun g v i wr => v = .slice none 0 0 ∧ i = .int .i64 0 ∧ wr = w)
  case atStart => exact ⟨rfl, rfl, rfl⟩
  case round =>
    obtain ⟨rfl, rfl, rfl⟩ := hrel
    go_wp2
    go_ret
    exact ⟨rfl, rfl⟩
theorem markedWords_none (w : World) :
    Calls Tryz.prog 71 #[.slice none 0 0] w fun e w' => e = .returned (.bool true) ∧ w' = w := by
  go_enter Tryz.func71, Tryz.ntmps71
  go_wp2
  go_loopg [3] 0 (fun g i wr => i = .int .i64 0 ∧ wr = w)
  case atStart => exact ⟨rfl, rfl⟩
  case round =>
    obtain ⟨rfl, rfl⟩ := hrel
    go_wp2
    go_ret
    exact ⟨rfl, rfl⟩
theorem stillSeens_none (p : Nat) (w : World) (c0 : w.cell? ⟨p, 6, none⟩ = some (.slice none 0 0)) :
    Calls Tryz.prog 54 #[.pointer (some ⟨p, 0, none⟩)] w fun e w' => e = .returned (.bool true) ∧ w' = w := by
  go_enter Tryz.func54, Tryz.ntmps54
  go_wp2
  go_loopg [3] 0 (fun g i wr => i = .int .i64 0 ∧ wr = w)
  case atStart => exact ⟨rfl, rfl⟩
  case round =>
    obtain ⟨rfl, rfl⟩ := hrel
    go_wp2
    go_ret
    exact ⟨rfl, rfl⟩
theorem putSeens_none (p : Nat) (w : World) (c0 : w.cell? ⟨p, 6, none⟩ = some (.slice none 0 0)) :
    Calls Tryz.prog 61 #[.pointer (some ⟨p, 0, none⟩)] w fun e w' => e = .returned (.tuple #[]) ∧ w' = w := by
  go_enter Tryz.func61, Tryz.ntmps61
  go_wp2
  go_loopg [2] 0 (fun g i wr => i = .int .i64 0 ∧ wr = w)
  case atStart => exact ⟨rfl, rfl⟩
  case round =>
    obtain ⟨rfl, rfl⟩ := hrel
    go_wp2
    go_end0
    exact ⟨rfl, rfl⟩
theorem growSeens_none (p : Nat) (w : World) (c0 : w.cell? ⟨p, 6, none⟩ = some (.slice none 0 0)) :
    Calls Tryz.prog 66 #[.pointer (some ⟨p, 0, none⟩)] w fun e w' => e = .returned (.slice none 0 0) ∧ w' = w := by
  go_enter Tryz.func66, Tryz.ntmps66
  go_wp2
  go_loopg [3, 4] 0 (fun g v i wr => v = .slice none 0 0 ∧ i = .int .i64 0 ∧ wr = w)
  case atStart => exact ⟨rfl, rfl, rfl⟩
  case round =>
    obtain ⟨rfl, rfl, rfl⟩ := hrel
    go_wp2
    go_ret
    exact ⟨rfl, rfl⟩
theorem markedSeens_none (w : World) :
    Calls Tryz.prog 72 #[.slice none 0 0] w fun e w' => e = .returned (.bool true) ∧ w' = w := by
  go_enter Tryz.func72, Tryz.ntmps72
  go_wp2
  go_loopg [3] 0 (fun g i wr => i = .int .i64 0 ∧ wr = w)
  case atStart => exact ⟨rfl, rfl⟩
  case round =>
    obtain ⟨rfl, rfl⟩ := hrel
    go_wp2
    go_ret
    exact ⟨rfl, rfl⟩
theorem stillCodes_none (p : Nat) (w : World) (c0 : w.cell? ⟨p, 8, none⟩ = some (.slice none 0 0)) :
    Calls Tryz.prog 55 #[.pointer (some ⟨p, 0, none⟩)] w fun e w' => e = .returned (.bool true) ∧ w' = w := by
  go_enter Tryz.func55, Tryz.ntmps55
  go_wp2
  go_loopg [3] 0 (fun g i wr => i = .int .i64 0 ∧ wr = w)
  case atStart => exact ⟨rfl, rfl⟩
  case round =>
    obtain ⟨rfl, rfl⟩ := hrel
    go_wp2
    go_ret
    exact ⟨rfl, rfl⟩
theorem putCodes_none (p : Nat) (w : World) (c0 : w.cell? ⟨p, 8, none⟩ = some (.slice none 0 0)) :
    Calls Tryz.prog 62 #[.pointer (some ⟨p, 0, none⟩)] w fun e w' => e = .returned (.tuple #[]) ∧ w' = w := by
  go_enter Tryz.func62, Tryz.ntmps62
  go_wp2
  go_loopg [2] 0 (fun g i wr => i = .int .i64 0 ∧ wr = w)
  case atStart => exact ⟨rfl, rfl⟩
  case round =>
    obtain ⟨rfl, rfl⟩ := hrel
    go_wp2
    go_end0
    exact ⟨rfl, rfl⟩
theorem growCodes_none (p : Nat) (w : World) (c0 : w.cell? ⟨p, 8, none⟩ = some (.slice none 0 0)) :
    Calls Tryz.prog 67 #[.pointer (some ⟨p, 0, none⟩)] w fun e w' => e = .returned (.slice none 0 0) ∧ w' = w := by
  go_enter Tryz.func67, Tryz.ntmps67
  go_wp2
  go_loopg [3, 4] 0 (fun g v i wr => v = .slice none 0 0 ∧ i = .int .i64 0 ∧ wr = w)
  case atStart => exact ⟨rfl, rfl, rfl⟩
  case round =>
    obtain ⟨rfl, rfl, rfl⟩ := hrel
    go_wp2
    go_ret
    exact ⟨rfl, rfl⟩
theorem markedCodes_none (w : World) :
    Calls Tryz.prog 73 #[.slice none 0 0] w fun e w' => e = .returned (.bool true) ∧ w' = w := by
  go_enter Tryz.func73, Tryz.ntmps73
  go_wp2
  go_loopg [3] 0 (fun g i wr => i = .int .i64 0 ∧ wr = w)
  case atStart => exact ⟨rfl, rfl⟩
  case round =>
    obtain ⟨rfl, rfl⟩ := hrel
    go_wp2
    go_ret
    exact ⟨rfl, rfl⟩
theorem stillExits_none (p : Nat) (w : World) (c0 : w.cell? ⟨p, 10, none⟩ = some (.slice none 0 0)) :
    Calls Tryz.prog 56 #[.pointer (some ⟨p, 0, none⟩)] w fun e w' => e = .returned (.bool true) ∧ w' = w := by
  go_enter Tryz.func56, Tryz.ntmps56
  go_wp2
  go_loopg [3] 0 (fun g i wr => i = .int .i64 0 ∧ wr = w)
  case atStart => exact ⟨rfl, rfl⟩
  case round =>
    obtain ⟨rfl, rfl⟩ := hrel
    go_wp2
    go_ret
    exact ⟨rfl, rfl⟩
theorem putExits_none (p : Nat) (w : World) (c0 : w.cell? ⟨p, 10, none⟩ = some (.slice none 0 0)) :
    Calls Tryz.prog 57 #[.pointer (some ⟨p, 0, none⟩)] w fun e w' => e = .returned (.tuple #[]) ∧ w' = w := by
  go_enter Tryz.func57, Tryz.ntmps57
  go_wp2
  go_loopg [2] 0 (fun g i wr => i = .int .i64 0 ∧ wr = w)
  case atStart => exact ⟨rfl, rfl⟩
  case round =>
    obtain ⟨rfl, rfl⟩ := hrel
    go_wp2
    go_end0
    exact ⟨rfl, rfl⟩
theorem growExits_none (p : Nat) (w : World) (c0 : w.cell? ⟨p, 10, none⟩ = some (.slice none 0 0)) :
    Calls Tryz.prog 68 #[.pointer (some ⟨p, 0, none⟩)] w fun e w' => e = .returned (.slice none 0 0) ∧ w' = w := by
  go_enter Tryz.func68, Tryz.ntmps68
  go_wp2
  go_loopg [3, 4] 0 (fun g v i wr => v = .slice none 0 0 ∧ i = .int .i64 0 ∧ wr = w)
  case atStart => exact ⟨rfl, rfl, rfl⟩
  case round =>
    obtain ⟨rfl, rfl, rfl⟩ := hrel
    go_wp2
    go_ret
    exact ⟨rfl, rfl⟩
theorem markedExits_none (w : World) :
    Calls Tryz.prog 74 #[.slice none 0 0] w fun e w' => e = .returned (.bool true) ∧ w' = w := by
  go_enter Tryz.func74, Tryz.ntmps74
  go_wp2
  go_loopg [3] 0 (fun g i wr => i = .int .i64 0 ∧ wr = w)
  case atStart => exact ⟨rfl, rfl⟩
  case round =>
    obtain ⟨rfl, rfl⟩ := hrel
    go_wp2
    go_ret
    exact ⟨rfl, rfl⟩
end Go.Proofs.YthnciokmomgfeaaGreatDoor
/- Lists that were marked bear marks. -/
namespace Go.Proofs.YthnciokmomgfeaaGreatDoor
open Book
theorem done_marks {ls cur : List (Value × List Value)} {mk : Nat → Nat → List Value} (h : Done mk ls ls.length cur) (hm : ∀ i n, (mk i n).length = n) (most : Nat) (hl : ∀ k ∈ ls, k.2.length ≤ most) : ∀ i k, cur[i]? = some k → k.2 = mk i k.2.length ∧ k.2.length ≤ most := by
  intro i k hk
  have hi : i < ls.length := by rw [← h.len]; exact (List.getElem?_eq_some_iff.1 hk).1
  have h1 : ls[i]? = some ls[i] := List.getElem?_eq_getElem hi
  have h2 := h.done i _ hi h1
  rw [hk] at h2
  simp only [Option.some.injEq] at h2
  subst h2
  dsimp only
  rw [hm]
  exact ⟨rfl, hl _ (List.mem_of_getElem? h1)⟩
end Go.Proofs.YthnciokmomgfeaaGreatDoor
