/- Package inner: the memory is asked, or changed. -/
import Derived.Test.YtcffbeihgchpgaaGreatDoorG13
import Derived.Deep.RegionHeld3
namespace Go.Proofs.YtcffbeihgchpgaaGreatDoor.Inn
open Go.RowKit Book Mem Mach
set_option linter.unusedVariables false
set_option linter.unusedSimpArgs false
section
variable {w : World} {B q ps gs pb gb pf : Nat} {vC vH : Value} {ch : List Int} {vs vb vm : Value} {m : M} {xb : Nat} {g at' nx : Int} {gt gk : Nat} {x y z p : Int}
set_option maxHeartbeats 8000000 in
set_option maxRecDepth 100000 in
theorem rem_fetch_no (h : Pre w B q ps gs pb gb pf vC vH ch vs vb vm m xb 30 g at' nx gt gk [p] []) (hB : B ≤ w.heap.size) (H : ¬ (0 ≤ p ∧ p < (m.mem.length : Int))) : Calls Tryz.prog 163 #[.pointer (some ⟨q, 0, none⟩), .pointer (some ⟨xb, 0, none⟩)] w (DoErr w B q (feet q ps gs pb gb pf vC vH) xb m (-9) at') := by
  have HP := Lib.hid h
  have HB := Lib.hid hB
  obtain ⟨c0, c1, c2, c3, c4, c5, c6, c7⟩ := h.x.cells
  obtain ⟨f4, f5, f7⟩ := h.x.free
  obtain ⟨m0, m1, m5, m6, m7, m8, m9⟩ := h.mc.cells
  obtain ⟨n1, n2, n3⟩ := h.mc.ptrs
  have k0 := h.x.st (j := 0) (x := p) rfl
  have c2z : w.cell? ⟨xb, 2, none⟩ = some (rowV gt 1) := c2
  have LD := Lib.hid (fun n => Fld.load_no (h.drewN n).mc.me p H)
  have C := Lib.hid (fun n => xfault_some (h.drewN n).x.box (-9) (by decide))
  clear h hB H
  go_enter Tryz.func163, Tryz.ntmps163
  go_wp2_with fail
  go_quiet (fail)
  have HS := Lib.hid (stir_drewN w nq (feet q ps gs pb gb pf vC vH))
  have HP := Lib.hid (HP.out.drewN nq)
  go_wp2_with (first
    | (go_at_call 133; refine (LD.out _).mono ?_; rintro e wz ⟨rfl, hwz⟩; subst wz)
    | (go_at_call 150; refine (C.out _).mono ?_; rintro e wz ⟨rfl, hwz⟩; subst wz))
  go_ret
  exact ⟨_, rfl, HP.out.mc.mach, stir_more HS.out, fun f hf => .inl hf⟩
set_option maxHeartbeats 8000000 in
set_option maxRecDepth 100000 in
theorem rem_store_no (h : Pre w B q ps gs pb gb pf vC vH ch vs vb vm m xb 31 g at' nx gt gk [y, p] []) (hB : B ≤ w.heap.size) (H : ¬ (0 ≤ p ∧ p < (m.mem.length : Int))) : Calls Tryz.prog 163 #[.pointer (some ⟨q, 0, none⟩), .pointer (some ⟨xb, 0, none⟩)] w (DoErr w B q (feet q ps gs pb gb pf vC vH) xb m (-9) at') := by
  have HP := Lib.hid h
  have HB := Lib.hid hB
  obtain ⟨c0, c1, c2, c3, c4, c5, c6, c7⟩ := h.x.cells
  obtain ⟨f4, f5, f7⟩ := h.x.free
  obtain ⟨m0, m1, m5, m6, m7, m8, m9⟩ := h.mc.cells
  obtain ⟨n1, n2, n3⟩ := h.mc.ptrs
  have k0 := h.x.st (j := 0) (x := y) rfl
  have k1 := h.x.st (j := 1) (x := p) rfl
  have c2z : w.cell? ⟨xb, 2, none⟩ = some (rowV gt 2) := c2
  have LD := Lib.hid (fun n => Fld.load_no (h.drewN n).mc.me p H)
  have C := Lib.hid (fun n => xfault_some (h.drewN n).x.box (-9) (by decide))
  clear h hB H
  go_enter Tryz.func163, Tryz.ntmps163
  go_wp2_with fail
  go_quiet (fail)
  have HS := Lib.hid (stir_drewN w nq (feet q ps gs pb gb pf vC vH))
  have HP := Lib.hid (HP.out.drewN nq)
  go_wp2_with (first
    | (go_at_call 133; refine (LD.out _).mono ?_; rintro e wz ⟨rfl, hwz⟩; subst wz)
    | (go_at_call 150; refine (C.out _).mono ?_; rintro e wz ⟨rfl, hwz⟩; subst wz))
  go_ret
  exact ⟨_, rfl, HP.out.mc.mach, stir_more HS.out, fun f hf => .inl hf⟩
set_option maxHeartbeats 8000000 in
set_option maxRecDepth 100000 in
theorem rem_addTo_no (h : Pre w B q ps gs pb gb pf vC vH ch vs vb vm m xb 32 g at' nx gt gk [y, p] []) (hB : B ≤ w.heap.size) (H : ¬ (0 ≤ p ∧ p < (m.mem.length : Int))) : Calls Tryz.prog 163 #[.pointer (some ⟨q, 0, none⟩), .pointer (some ⟨xb, 0, none⟩)] w (DoErr w B q (feet q ps gs pb gb pf vC vH) xb m (-9) at') := by
  have HP := Lib.hid h
  have HB := Lib.hid hB
  obtain ⟨c0, c1, c2, c3, c4, c5, c6, c7⟩ := h.x.cells
  obtain ⟨f4, f5, f7⟩ := h.x.free
  obtain ⟨m0, m1, m5, m6, m7, m8, m9⟩ := h.mc.cells
  obtain ⟨n1, n2, n3⟩ := h.mc.ptrs
  have k0 := h.x.st (j := 0) (x := y) rfl
  have k1 := h.x.st (j := 1) (x := p) rfl
  have c2z : w.cell? ⟨xb, 2, none⟩ = some (rowV gt 2) := c2
  have LD := Lib.hid (fun n => Fld.load_no (h.drewN n).mc.me p H)
  have C := Lib.hid (fun n => xfault_some (h.drewN n).x.box (-9) (by decide))
  clear h hB H
  go_enter Tryz.func163, Tryz.ntmps163
  go_wp2_with fail
  go_quiet (fail)
  have HS := Lib.hid (stir_drewN w nq (feet q ps gs pb gb pf vC vH))
  have HP := Lib.hid (HP.out.drewN nq)
  go_wp2_with (first
    | (go_at_call 133; refine (LD.out _).mono ?_; rintro e wz ⟨rfl, hwz⟩; subst wz)
    | (go_at_call 150; refine (C.out _).mono ?_; rintro e wz ⟨rfl, hwz⟩; subst wz))
  go_ret
  exact ⟨_, rfl, HP.out.mc.mach, stir_more HS.out, fun f hf => .inl hf⟩
set_option maxHeartbeats 8000000 in
set_option maxRecDepth 100000 in
theorem rem_fetch (h : Pre w B q ps gs pb gb pf vC vH ch vs vb vm m xb 30 g at' nx gt gk [p] []) (hB : B ≤ w.heap.size) (j : Nat) (hp : p = (j : Int)) (hx : m.mem[j]? = some x) : Calls Tryz.prog 163 #[.pointer (some ⟨q, 0, none⟩), .pointer (some ⟨xb, 0, none⟩)] w (DoOk w B q (feet q ps gs pb gb pf vC vH) xb 30 g at' (rowV gt 1) (rowV gk 0) m [x] [] nx .nilIface) := by
  subst hp
  have HP := Lib.hid h
  have HB := Lib.hid hB
  obtain ⟨c0, c1, c2, c3, c4, c5, c6, c7⟩ := h.x.cells
  obtain ⟨f4, f5, f7⟩ := h.x.free
  obtain ⟨m0, m1, m5, m6, m7, m8, m9⟩ := h.mc.cells
  obtain ⟨n1, n2, n3⟩ := h.mc.ptrs
  have k0 := h.x.st (j := 0) (x := (j : Int)) rfl
  have c2z : w.cell? ⟨xb, 2, none⟩ = some (rowV gt 1) := c2
  have LD := Lib.hid (fun n => Fld.load_yes (h.drewN n).mc.me j x hx)
  clear h hB hx
  go_enter Tryz.func163, Tryz.ntmps163
  go_wp2_with fail
  go_quiet (fail)
  have HS := Lib.hid (stir_drewN w nq (feet q ps gs pb gb pf vC vH))
  have HP := Lib.hid (HP.out.drewN nq)
  obtain ⟨w1, gl, hw1, hgl, HRW, HB1, HG⟩ := row_box (w.drewN nq) [x]
  change (w.drewN nq).alloc (.cells #[.int .i64 x] 3) = w1 at hw1
  change w.heap.size = gl at hgl
  have HX1 := Lib.hid (HP.out.x.below HB1.out)
  have c4' := HX1.out.cells.2.2.2.2.1
  have f4' := HX1.out.free.1
  go_wp2_with (go_at_call 133; refine (LD.out _).mono ?_; rintro e wz ⟨rfl, hwz⟩; subst wz)
  go_ret
  exact ok_row4 HP.out.mc.mach HP.out.x.box HP.out.nx (stir_more HS.out) (fun f hf => .inl hf) HRW.out HB1.out HG.out
set_option maxHeartbeats 8000000 in
set_option maxRecDepth 100000 in
theorem rem_store (h : Pre w B q ps gs pb gb pf vC vH ch vs vb vm m xb 31 g at' nx gt gk [y, p] []) (hB : B ≤ w.heap.size) (j : Nat) (hp : p = (j : Int)) (hx : m.mem[j]? = some x) : Calls Tryz.prog 163 #[.pointer (some ⟨q, 0, none⟩), .pointer (some ⟨xb, 0, none⟩)] w (DoOk w B q (feet q ps gs pb gb pf vC vH) xb 31 g at' (rowV gt 2) (rowV gk 0) { m with mem := m.mem.set j y } [] [] nx .nilIface) := by
  subst hp
  have HP := Lib.hid h
  have HB := Lib.hid hB
  obtain ⟨c0, c1, c2, c3, c4, c5, c6, c7⟩ := h.x.cells
  obtain ⟨f4, f5, f7⟩ := h.x.free
  obtain ⟨m0, m1, m5, m6, m7, m8, m9⟩ := h.mc.cells
  obtain ⟨n1, n2, n3⟩ := h.mc.ptrs
  have k0 := h.x.st (j := 0) (x := y) rfl
  have k1 := h.x.st (j := 1) (x := (j : Int)) rfl
  have c2z : w.cell? ⟨xb, 2, none⟩ = some (rowV gt 2) := c2
  have LD := Lib.hid (fun n => Fld.load_yes (h.drewN n).mc.me j x hx)
  have SD := Lib.hid (fun n => Fld.store_yes (h.drewN n).mc.me (show B ≤ (w.drewN n).heap.size from hB) j y (List.getElem?_eq_some_iff.1 hx).1)
  clear h hB hx
  go_enter Tryz.func163, Tryz.ntmps163
  go_wp2_with fail
  go_quiet (fail)
  have HS := Lib.hid (stir_drewN w nq (feet q ps gs pb gb pf vC vH))
  have HP := Lib.hid (HP.out.drewN nq)
  go_wp2_with (first
    | (go_at_call 133; refine (LD.out _).mono ?_; rintro e wz ⟨rfl, hwz⟩; subst wz)
    | (go_at_call 177; refine (SD.out _).mono ?_; rintro e w2 ⟨vH', rfl, hF, hT, hN⟩; have HFD := Lib.hid (HP.out.mc.meDid hF hT hN); have HTT := Lib.hid (hT.more (feet_me (q := q) (ps := ps) (gs := gs) (pb := pb) (gb := gb))); clear hF hT hN))
  go_ret
  exact ok_none HFD.out.1.mach (HTT.out.whole HP.out.x.box HP.out.nx) (stir_more (HS.out.trans HTT.out (fun f hf => .inl hf))) HFD.out.2
set_option maxHeartbeats 8000000 in
set_option maxRecDepth 100000 in
theorem rem_addTo (h : Pre w B q ps gs pb gb pf vC vH ch vs vb vm m xb 32 g at' nx gt gk [y, p] []) (hB : B ≤ w.heap.size) (j : Nat) (hp : p = (j : Int)) (hx : m.mem[j]? = some x) : Calls Tryz.prog 163 #[.pointer (some ⟨q, 0, none⟩), .pointer (some ⟨xb, 0, none⟩)] w (DoOk w B q (feet q ps gs pb gb pf vC vH) xb 32 g at' (rowV gt 2) (rowV gk 0) { m with mem := m.mem.set j (wrap64 (y + x)) } [] [] nx .nilIface) := by
  subst hp
  have HP := Lib.hid h
  have HB := Lib.hid hB
  obtain ⟨c0, c1, c2, c3, c4, c5, c6, c7⟩ := h.x.cells
  obtain ⟨f4, f5, f7⟩ := h.x.free
  obtain ⟨m0, m1, m5, m6, m7, m8, m9⟩ := h.mc.cells
  obtain ⟨n1, n2, n3⟩ := h.mc.ptrs
  have k0 := h.x.st (j := 0) (x := y) rfl
  have k1 := h.x.st (j := 1) (x := (j : Int)) rfl
  have c2z : w.cell? ⟨xb, 2, none⟩ = some (rowV gt 2) := c2
  have LD := Lib.hid (fun n => Fld.load_yes (h.drewN n).mc.me j x hx)
  have SD := Lib.hid (fun n => Fld.store_yes (h.drewN n).mc.me (show B ≤ (w.drewN n).heap.size from hB) j (wrap64 (y + x)) (List.getElem?_eq_some_iff.1 hx).1)
  clear h hB hx
  go_enter Tryz.func163, Tryz.ntmps163
  go_wp2_with fail
  go_quiet (fail)
  have HS := Lib.hid (stir_drewN w nq (feet q ps gs pb gb pf vC vH))
  have HP := Lib.hid (HP.out.drewN nq)
  go_wp2_with (first
    | (go_at_call 133; refine (LD.out _).mono ?_; rintro e wz ⟨rfl, hwz⟩; subst wz)
    | (go_at_call 177; refine (SD.out _).mono ?_; rintro e w2 ⟨vH', rfl, hF, hT, hN⟩; have HFD := Lib.hid (HP.out.mc.meDid hF hT hN); have HTT := Lib.hid (hT.more (feet_me (q := q) (ps := ps) (gs := gs) (pb := pb) (gb := gb))); clear hF hT hN))
  go_ret
  exact ok_none HFD.out.1.mach (HTT.out.whole HP.out.x.box HP.out.nx) (stir_more (HS.out.trans HTT.out (fun f hf => .inl hf))) HFD.out.2
end
end Go.Proofs.YtcffbeihgchpgaaGreatDoor.Inn
/- Package inner: what begins and ends words. -/
namespace Go.Proofs.YtcffbeihgchpgaaGreatDoor.Inn
open Go.RowKit Book Mem Mach
set_option linter.unusedVariables false
set_option linter.unusedSimpArgs false
section
variable {w : World} {B q ps gs pb gb pf : Nat} {vC vH : Value} {ch : List Int} {vs vb vm : Value} {m : M} {xb : Nat} {g at' nx : Int} {gt gk : Nat} {x y z p : Int}
set_option maxHeartbeats 8000000 in
set_option maxRecDepth 100000 in
theorem ctl_halt (h : Pre w B q ps gs pb gb pf vC vH ch vs vb vm m xb 0 g at' nx gt gk [] []) (hB : B ≤ w.heap.size)  : Calls Tryz.prog 162 #[.pointer (some ⟨q, 0, none⟩), .pointer (some ⟨xb, 0, none⟩)] w (DoOk w B q (feet q ps gs pb gb pf vC vH) xb 0 g at' (rowV gt 0) (rowV gk 0) { m with status := 1 } [] [] at' .nilIface) := by
  have HP := Lib.hid h
  have HB := Lib.hid hB
  obtain ⟨c0, c1, c2, c3, c4, c5, c6, c7⟩ := h.x.cells
  obtain ⟨f4, f5, f7⟩ := h.x.free
  obtain ⟨m0, m1, m5, m6, m7, m8, m9⟩ := h.mc.cells
  obtain ⟨n1, n2, n3⟩ := h.mc.ptrs
  have f8 : w.frozen? ⟨q, 8, none⟩ = false := whole_frozen h.mc.box 8
  have HP1 := Lib.hid (h.set 8 (.int .i64 1) { m with status := 1 } rfl rfl rfl rfl)
  have hqx := h.qx
  have HR := Lib.hid ((set8 HP1.out.x.box).1 at')
  clear h hB
  go_enter Tryz.func162, Tryz.ntmps162
  go_wp2
  go_ret
  have h7 := Stirred.setCell (w.setCell ⟨q, 8, none⟩ (.int .i64 1)) ⟨xb, 7, none⟩ (.int .i64 at')
  exact ok_none (HP1.out.mc.touch h7 (fun f hf hm => HP1.out.nx (by rw [List.mem_singleton] at hm; exact (show f = xb from hm) ▸ hf))).mach HR.out ((stir_more (stir_q w 8 (.int .i64 1))).trans h7 (fun f hf => .inl (by rw [List.mem_singleton.1 hf]; exact List.mem_cons_self))) (fun f hf => .inl hf)
set_option maxHeartbeats 8000000 in
set_option maxRecDepth 100000 in
theorem ctl_exec_low (h : Pre w B q ps gs pb gb pf vC vH ch vs vb vm m xb 44 g at' nx gt gk [p] []) (hB : B ≤ w.heap.size) (H : p < 64) : Calls Tryz.prog 162 #[.pointer (some ⟨q, 0, none⟩), .pointer (some ⟨xb, 0, none⟩)] w (DoErr w B q (feet q ps gs pb gb pf vC vH) xb m (-13) at') := by
  have HP := Lib.hid h
  have HB := Lib.hid hB
  obtain ⟨c0, c1, c2, c3, c4, c5, c6, c7⟩ := h.x.cells
  obtain ⟨f4, f5, f7⟩ := h.x.free
  obtain ⟨m0, m1, m5, m6, m7, m8, m9⟩ := h.mc.cells
  obtain ⟨n1, n2, n3⟩ := h.mc.ptrs
  have k0 := h.x.st (j := 0) (x := p) rfl
  have C := Lib.hid (fun n => xfault_some (h.drewN n).x.box (-13) (by decide))
  have C0 := Lib.hid (xfault_some h.x.box (-13) (by decide))
  clear h hB
  go_enter Tryz.func162, Tryz.ntmps162
  go_wp2_with (go_at_call 150; refine C0.out.mono ?_; rintro e wz ⟨rfl, hwz⟩; subst wz)
  go_ret
  exact DoErr.of_x HP.out.mc.mach HP.out.nx ⟨rfl, Stirred.refl _ _⟩
set_option maxHeartbeats 8000000 in
set_option maxRecDepth 100000 in
theorem ctl_exec_high (h : Pre w B q ps gs pb gb pf vC vH ch vs vb vm m xb 44 g at' nx gt gk [p] []) (hB : B ≤ w.heap.size) (H0 : 64 ≤ p) (H : (m.mem.length : Int) ≤ p) : Calls Tryz.prog 162 #[.pointer (some ⟨q, 0, none⟩), .pointer (some ⟨xb, 0, none⟩)] w (DoErr w B q (feet q ps gs pb gb pf vC vH) xb m (-13) at') := by
  have HP := Lib.hid h
  have HB := Lib.hid hB
  obtain ⟨c0, c1, c2, c3, c4, c5, c6, c7⟩ := h.x.cells
  obtain ⟨f4, f5, f7⟩ := h.x.free
  obtain ⟨m0, m1, m5, m6, m7, m8, m9⟩ := h.mc.cells
  obtain ⟨n1, n2, n3⟩ := h.mc.ptrs
  have k0 := h.x.st (j := 0) (x := p) rfl
  have C0 := Lib.hid (xfault_some h.x.box (-13) (by decide))
  have L := Lib.hid (Fld.len_any h.mc.me)
  have hlen := h.mc.me.len
  obtain ⟨nm, hnm⟩ : ∃ n, m.mem.length = n := ⟨_, rfl⟩
  rw [hnm] at L hlen H
  clear hnm h hB
  go_enter Tryz.func162, Tryz.ntmps162
  go_wp2_with (first
    | (go_at_call 158; refine L.out.mono ?_; rintro e wz ⟨rfl, hwz⟩; subst wz)
    | (go_at_call 150; refine C0.out.mono ?_; rintro e wz ⟨rfl, hwz⟩; subst wz))
  go_ret
  exact DoErr.of_x HP.out.mc.mach HP.out.nx ⟨rfl, Stirred.refl _ _⟩
set_option maxHeartbeats 8000000 in
set_option maxRecDepth 100000 in
theorem ctl_exec (h : Pre w B q ps gs pb gb pf vC vH ch vs vb vm m xb 44 g at' nx gt gk [p] []) (hB : B ≤ w.heap.size) (H0 : 64 ≤ p) (H : p < (m.mem.length : Int)) : Calls Tryz.prog 162 #[.pointer (some ⟨q, 0, none⟩), .pointer (some ⟨xb, 0, none⟩)] w (DoOk w B q (feet q ps gs pb gb pf vC vH) xb 44 g at' (rowV gt 1) (rowV gk 0) m [] [nx] p .nilIface) := by
  have HP := Lib.hid h
  have HB := Lib.hid hB
  obtain ⟨c0, c1, c2, c3, c4, c5, c6, c7⟩ := h.x.cells
  obtain ⟨f4, f5, f7⟩ := h.x.free
  obtain ⟨m0, m1, m5, m6, m7, m8, m9⟩ := h.mc.cells
  obtain ⟨n1, n2, n3⟩ := h.mc.ptrs
  have k0 := h.x.st (j := 0) (x := p) rfl
  have L := Lib.hid (Fld.len_any h.mc.me)
  have hlen := h.mc.me.len
  obtain ⟨nm, hnm⟩ : ∃ n, m.mem.length = n := ⟨_, rfl⟩
  rw [hnm] at L hlen H
  clear hnm h hB
  obtain ⟨w1, gl, hw1, hgl, HRW, HB1, HG⟩ := row_box w [nx]
  change w.alloc (.cells #[.int .i64 nx] 3) = w1 at hw1
  have HX1 := Lib.hid (HP.out.x.below HB1.out)
  have c5' := HX1.out.cells.2.2.2.2.2.1
  have c7' := HX1.out.cells.2.2.2.2.2.2.2
  have f5' := HX1.out.free.2.1
  have f7' := HX1.out.free.2.2
  go_enter Tryz.func162, Tryz.ntmps162
  go_wp2_with (go_at_call 158; refine L.out.mono ?_; rintro e wz ⟨rfl, hwz⟩; subst wz)
  go_ret
  exact ok_row57 HP.out.mc.mach HP.out.x.box HP.out.nx (Stirred.refl _ _) (fun f hf => .inl hf) HRW.out HB1.out HG.out
end
end Go.Proofs.YtcffbeihgchpgaaGreatDoor.Inn
/- Package inner: a catch; a throw; the end of a catch. -/
namespace Go.Proofs.YtcffbeihgchpgaaGreatDoor.Inn
open Go.RowKit Book Mem Mach
set_option linter.unusedVariables false
set_option linter.unusedSimpArgs false
section
variable {w : World} {B q ps gs pb gb pf : Nat} {vC vH : Value} {ch : List Int} {vs vb vm : Value} {m : M} {xb : Nat} {g at' nx : Int} {gt gk : Nat} {x y z p : Int}
set_option maxHeartbeats 8000000 in
set_option maxRecDepth 100000 in
theorem throw_zero (h : Pre w B q ps gs pb gb pf vC vH ch vs vb vm m xb 45 g at' nx gt gk [p] []) (hB : B ≤ w.heap.size) (hp : p = 0) : Calls Tryz.prog 175 #[.pointer (some ⟨q, 0, none⟩), .pointer (some ⟨xb, 0, none⟩)] w (DoOk w B q (feet q ps gs pb gb pf vC vH) xb 45 g at' (rowV gt 1) (rowV gk 0) m [] [] nx .nilIface) := by
  subst hp
  have HP := Lib.hid h
  have HB := Lib.hid hB
  obtain ⟨c0, c1, c2, c3, c4, c5, c6, c7⟩ := h.x.cells
  obtain ⟨f4, f5, f7⟩ := h.x.free
  obtain ⟨m0, m1, m5, m6, m7, m8, m9⟩ := h.mc.cells
  obtain ⟨n1, n2, n3⟩ := h.mc.ptrs
  have k0 := h.x.st (j := 0) (x := 0) rfl
  have C := Lib.hid (xfault_zero h.x.box)
  clear h hB
  go_enter Tryz.func175, Tryz.ntmps175
  go_wp2_with (go_at_call 150; refine C.out.mono ?_; rintro e wz ⟨rfl, hwz⟩; subst wz)
  go_ret
  exact ok_none HP.out.mc.mach HP.out.x.box (Stirred.refl _ _) (fun f hf => .inl hf)
set_option maxHeartbeats 8000000 in
set_option maxRecDepth 100000 in
theorem throw_some (h : Pre w B q ps gs pb gb pf vC vH ch vs vb vm m xb 45 g at' nx gt gk [p] []) (hB : B ≤ w.heap.size) (hp : p ≠ 0) (hl : 0 < m.stack.length) : Calls Tryz.prog 175 #[.pointer (some ⟨q, 0, none⟩), .pointer (some ⟨xb, 0, none⟩)] w (DoErr w B q (feet q ps gs pb gb pf vC vH) xb { m with stack := less m.stack 1 } (p) at') := by
  have HP := Lib.hid h
  have HB := Lib.hid hB
  obtain ⟨c0, c1, c2, c3, c4, c5, c6, c7⟩ := h.x.cells
  obtain ⟨f4, f5, f7⟩ := h.x.free
  obtain ⟨m0, m1, m5, m6, m7, m8, m9⟩ := h.mc.cells
  obtain ⟨n1, n2, n3⟩ := h.mc.ptrs
  have k0 := h.x.st (j := 0) (x := p) rfl
  have C := Lib.hid (xfault_some h.x.box p (by simpa using hp))
  have P := Lib.hid (pop_yes h.mc.st hB 1 (m.stack.length - 1) (by omega))
  clear h hB hp hl
  go_enter Tryz.func175, Tryz.ntmps175
  go_wp2_with fail
  refine C.out.mono ?_
  rintro e wz ⟨rfl, hwz⟩
  subst wz
  go_wp2_with fail
  refine P.out.mono ?_
  rintro e w1 ⟨v, rfl, ho, hp, hs⟩
  have hM := HP.out.mc.stDid hp hs
  have HM := Lib.hid hM
  have HS := Lib.hid (hs.more (feet_st (q := q) (pb := pb) (gb := gb) (pf := pf) (vC := vC) (vH := vH)))
  clear ho hp hs hM
  go_wp2
  go_ret
  exact ⟨_, rfl, HM.out.mach, stir_more HS.out, fun f hf => .inl hf⟩
set_option maxHeartbeats 8000000 in
set_option maxRecDepth 100000 in
theorem end_broken_low (h : Pre w B q ps gs pb gb pf vC vH ch vs vb vm m xb 1 g at' nx gt gk [] []) (hB : B ≤ w.heap.size) (H : m.handler < 3) : Calls Tryz.prog 176 #[.pointer (some ⟨q, 0, none⟩), .pointer (some ⟨xb, 0, none⟩)] w (DoErr w B q (feet q ps gs pb gb pf vC vH) xb m (-25) at') := by
  have HP := Lib.hid h
  have HB := Lib.hid hB
  obtain ⟨c0, c1, c2, c3, c4, c5, c6, c7⟩ := h.x.cells
  obtain ⟨f4, f5, f7⟩ := h.x.free
  obtain ⟨m0, m1, m5, m6, m7, m8, m9⟩ := h.mc.cells
  obtain ⟨n1, n2, n3⟩ := h.mc.ptrs
  have L := Lib.hid (fun n => len_any (h.drewN n).mc.bk)
  have LS := Lib.hid (fun n => len_any (h.drewN n).mc.st)
  have hb := h.mc.bk.fits
  have hs := h.mc.st.fits
  obtain ⟨nb, hnb⟩ : ∃ n, m.back.length = n := ⟨_, rfl⟩
  obtain ⟨ns, hns⟩ : ∃ n, m.stack.length = n := ⟨_, rfl⟩
  have C := Lib.hid (fun n => xfault_some (h.drewN n).x.box (-25) (by decide))
  have hd : decide (m.handler < 3) = true := decide_eq_true H
  rw [hnb] at L
  clear h hB hnb hns
  go_enter Tryz.func176, Tryz.ntmps176
  go_wp2_with fail
  go_quiet ((go_at_call 140; exact Calls.quiet_of_same (L.out _)))
  have HS := Lib.hid (stir_drewN w nq (feet q ps gs pb gb pf vC vH))
  have HP := Lib.hid (HP.out.drewN nq)
  go_wp2_with (go_at_call 150; refine (C.out _).mono ?_; rintro e wz ⟨rfl, hwz⟩; subst wz)
  go_ret
  exact ⟨_, rfl, HP.out.mc.mach, stir_more HS.out, fun f hf => .inl hf⟩
set_option maxHeartbeats 8000000 in
set_option maxRecDepth 100000 in
theorem end_broken_else (h : Pre w B q ps gs pb gb pf vC vH ch vs vb vm m xb 1 g at' nx gt gk [] []) (hB : B ≤ w.heap.size) (H0 : 3 ≤ m.handler) (H : m.handler ≠ (m.back.length : Int)) : Calls Tryz.prog 176 #[.pointer (some ⟨q, 0, none⟩), .pointer (some ⟨xb, 0, none⟩)] w (DoErr w B q (feet q ps gs pb gb pf vC vH) xb m (-25) at') := by
  have HP := Lib.hid h
  have HB := Lib.hid hB
  obtain ⟨c0, c1, c2, c3, c4, c5, c6, c7⟩ := h.x.cells
  obtain ⟨f4, f5, f7⟩ := h.x.free
  obtain ⟨m0, m1, m5, m6, m7, m8, m9⟩ := h.mc.cells
  obtain ⟨n1, n2, n3⟩ := h.mc.ptrs
  have L := Lib.hid (fun n => len_any (h.drewN n).mc.bk)
  have LS := Lib.hid (fun n => len_any (h.drewN n).mc.st)
  have hb := h.mc.bk.fits
  have hs := h.mc.st.fits
  obtain ⟨nb, hnb⟩ : ∃ n, m.back.length = n := ⟨_, rfl⟩
  obtain ⟨ns, hns⟩ : ∃ n, m.stack.length = n := ⟨_, rfl⟩
  have C := Lib.hid (fun n => xfault_some (h.drewN n).x.box (-25) (by decide))
  have hd : decide (m.handler < 3) = false := decide_eq_false (by omega)
  rw [hnb] at L H
  obtain ⟨hh, hhh⟩ : ∃ z, m.handler = z := ⟨_, rfl⟩
  rw [hhh] at m1 hd H H0
  have he : (hh != (nb : Int)) = true := by simpa using H
  clear h hB hnb hns hhh
  go_enter Tryz.func176, Tryz.ntmps176
  go_wp2_with fail
  go_quiet ((go_at_call 140; exact Calls.quiet_of_same (L.out _)))
  have HS := Lib.hid (stir_drewN w nq (feet q ps gs pb gb pf vC vH))
  have HP := Lib.hid (HP.out.drewN nq)
  go_wp2_with (go_at_call 150; refine (C.out _).mono ?_; rintro e wz ⟨rfl, hwz⟩; subst wz)
  go_ret
  exact ⟨_, rfl, HP.out.mc.mach, stir_more HS.out, fun f hf => .inl hf⟩
set_option maxHeartbeats 8000000 in
set_option maxRecDepth 100000 in
theorem end_full (h : Pre w B q ps gs pb gb pf vC vH ch vs vb vm m xb 1 g at' nx gt gk [] []) (hB : B ≤ w.heap.size) (H0 : 3 ≤ m.handler) (H : m.handler = (m.back.length : Int)) (H1 : 48 ≤ m.stack.length) : Calls Tryz.prog 176 #[.pointer (some ⟨q, 0, none⟩), .pointer (some ⟨xb, 0, none⟩)] w (DoErr w B q (feet q ps gs pb gb pf vC vH) xb m (-3) at') := by
  have HP := Lib.hid h
  have HB := Lib.hid hB
  obtain ⟨c0, c1, c2, c3, c4, c5, c6, c7⟩ := h.x.cells
  obtain ⟨f4, f5, f7⟩ := h.x.free
  obtain ⟨m0, m1, m5, m6, m7, m8, m9⟩ := h.mc.cells
  obtain ⟨n1, n2, n3⟩ := h.mc.ptrs
  have L := Lib.hid (fun n => len_any (h.drewN n).mc.bk)
  have LS := Lib.hid (fun n => len_any (h.drewN n).mc.st)
  have hb := h.mc.bk.fits
  have hs := h.mc.st.fits
  obtain ⟨nb, hnb⟩ : ∃ n, m.back.length = n := ⟨_, rfl⟩
  obtain ⟨ns, hns⟩ : ∃ n, m.stack.length = n := ⟨_, rfl⟩
  have C := Lib.hid (fun n => xfault_some (h.drewN n).x.box (-3) (by decide))
  rw [H] at m1 H0
  rw [hnb] at L m1 H0
  rw [hns] at LS H1
  have hd : decide ((nb : Int) < 3) = false := decide_eq_false (by omega)
  have he : ((nb : Int) != (nb : Int)) = false := by simp
  clear h hB hnb hns H
  go_enter Tryz.func176, Tryz.ntmps176
  go_wp2_with fail
  go_quiet ((go_at_call 140; exact Calls.quiet_of_same (L.out _)))
  have HS := Lib.hid (stir_drewN w nq (feet q ps gs pb gb pf vC vH))
  have HP := Lib.hid (HP.out.drewN nq)
  go_wp2_with (first
    | (go_at_call 140; refine (LS.out _).mono ?_; rintro e wz ⟨rfl, hwz⟩; subst wz)
    | (go_at_call 150; refine (C.out _).mono ?_; rintro e wz ⟨rfl, hwz⟩; subst wz))
  go_ret
  exact ⟨_, rfl, HP.out.mc.mach, stir_more HS.out, fun f hf => .inl hf⟩
set_option maxHeartbeats 8000000 in
set_option maxRecDepth 100000 in
theorem end_ok (h : Pre w B q ps gs pb gb pf vC vH ch vs vb vm m xb 1 g at' nx gt gk [] []) (hB : B ≤ w.heap.size) (H0 : 3 ≤ m.handler) (H : m.handler = (m.back.length : Int)) (H1 : m.stack.length < 48) : Calls Tryz.prog 176 #[.pointer (some ⟨q, 0, none⟩), .pointer (some ⟨xb, 0, none⟩)] w (DoOk w B q (feet q ps gs pb gb pf vC vH) xb 1 g at' (rowV gt 0) (rowV gk 0) { m with handler := nth m.back 1, back := less m.back 3 } [0] [] (nth m.back 2) .nilIface) := by
  have HP := Lib.hid h
  have HB := Lib.hid hB
  obtain ⟨c0, c1, c2, c3, c4, c5, c6, c7⟩ := h.x.cells
  obtain ⟨f4, f5, f7⟩ := h.x.free
  obtain ⟨m0, m1, m5, m6, m7, m8, m9⟩ := h.mc.cells
  obtain ⟨n1, n2, n3⟩ := h.mc.ptrs
  have L := Lib.hid (fun n => len_any (h.drewN n).mc.bk)
  have LS := Lib.hid (fun n => len_any (h.drewN n).mc.st)
  have hb := h.mc.bk.fits
  have hs := h.mc.st.fits
  obtain ⟨nb, hnb⟩ : ∃ n, m.back.length = n := ⟨_, rfl⟩
  obtain ⟨ns, hns⟩ : ∃ n, m.stack.length = n := ⟨_, rfl⟩
  have UC := Lib.hid (fun n => uncatch_any (h.drewN n).mc (show B ≤ (w.drewN n).heap.size from hB) (by omega))
  rw [H] at m1 H0
  rw [hnb] at L m1 H0
  rw [hns] at LS H1
  have hd : decide ((nb : Int) < 3) = false := decide_eq_false (by omega)
  have he : ((nb : Int) != (nb : Int)) = false := by simp
  have hd2 : decide ((48 : Int) ≤ (ns : Int)) = false := decide_eq_false (by omega)
  clear h hB hnb hns H
  go_enter Tryz.func176, Tryz.ntmps176
  go_wp2_with fail
  go_quiet ((go_at_call 140; exact Calls.quiet_of_same (L.out _)))
  have HS := Lib.hid (stir_drewN w nq (feet q ps gs pb gb pf vC vH))
  have HP := Lib.hid (HP.out.drewN nq)
  go_wp2_with (go_at_call 140; refine (LS.out _).mono ?_; rintro e wz ⟨rfl, hwz⟩; subst wz)
  refine (UC.out _).mono ?_
  rintro e w1 ⟨rfl, hM, hS⟩
  have HM := Lib.hid hM
  have HX := Lib.hid (HP.out.x.touch hS HP.out.nx HP.out.nt HP.out.nk)
  have HS := Lib.hid (HS.out.trans hS (fun f hf => .inl hf))
  clear hM hS c0 c1 c2 c3 c4 c5 c6 c7 f4 f5 f7 m0 m1 m5 m6 m7 m8 m9 n1 n2 n3 UC
  have c7 := HX.out.cells.2.2.2.2.2.2.2
  have f7 := HX.out.free.2.2
  generalize nth m.back 2 = y2 at *
  have hM2 := HM.out.touch (Stirred.setCell w1 ⟨xb, 7, none⟩ (.int .i64 y2)) (fun f hf hm => HP.out.nx (by rw [List.mem_singleton] at hm; exact (show f = xb from hm) ▸ hf))
  have HM2 := Lib.hid hM2
  have HX2 := Lib.hid ((set8 HX.out.box).1 y2)
  have HS2 := Lib.hid (HS.out.more (cs := xb :: (feet q ps gs pb gb pf vC vH)) (fun f hf => List.mem_cons_of_mem _ hf) |>.trans (Stirred.setCell w1 ⟨xb, 7, none⟩ (.int .i64 y2)) (fun f hf => .inl (by rw [List.mem_singleton.1 hf]; exact List.mem_cons_self)))
  obtain ⟨w2, gl, hw2, hgl, HRW, HB1, HG⟩ := row_box (w1.setCell ⟨xb, 7, none⟩ (.int .i64 y2)) [(0 : Int)]
  change (w1.setCell ⟨xb, 7, none⟩ (.int .i64 y2)).alloc (.cells #[.int .i64 0] 3) = w2 at hw2
  have hz : (w1.setCell ⟨xb, 7, none⟩ (.int .i64 y2)).heap.size = w1.heap.size := by simp
  rw [hz] at hgl
  clear hz hM2
  have hX4 := (Stirred.of_below HB1.out []).whole HX2.out List.not_mem_nil
  have c4' : w2.cell? ⟨xb, 4, none⟩ = some (.slice none 0 0) := whole_cell hX4 rfl
  have f4' : w2.frozen? ⟨xb, 4, none⟩ = false := whole_frozen hX4 4
  clear hX4
  go_wp2
  go_ret
  exact ok_row4 HM2.out.mach HX2.out HP.out.nx HS2.out (fun f hf => .inl hf) HRW.out HB1.out HG.out
set_option maxHeartbeats 8000000 in
set_option maxRecDepth 100000 in
theorem ctl_throw_zero (h : Pre w B q ps gs pb gb pf vC vH ch vs vb vm m xb 45 g at' nx gt gk [p] []) (hB : B ≤ w.heap.size) (hp : p = 0) : Calls Tryz.prog 162 #[.pointer (some ⟨q, 0, none⟩), .pointer (some ⟨xb, 0, none⟩)] w (DoOk w B q (feet q ps gs pb gb pf vC vH) xb 45 g at' (rowV gt 1) (rowV gk 0) m [] [] nx .nilIface) := by
  have C := Lib.hid (throw_zero h hB hp)
  have HX := Lib.hid h.x
  have c0 := h.x.cells.1
  clear h hB hp
  go_enter Tryz.func162, Tryz.ntmps162
  go_wp2_with fail
  refine C.out.mono ?_
  rintro e w1 ⟨F', vgs, vgb, L, rfl, h1⟩
  have HR := Lib.hid h1
  clear h1
  go_wp2
  go_ret
  exact ⟨F', vgs, vgb, L, rfl, HR.out⟩
set_option maxHeartbeats 8000000 in
set_option maxRecDepth 100000 in
theorem ctl_throw_some (h : Pre w B q ps gs pb gb pf vC vH ch vs vb vm m xb 45 g at' nx gt gk [p] []) (hB : B ≤ w.heap.size) (hp : p ≠ 0) (hl : 0 < m.stack.length) : Calls Tryz.prog 162 #[.pointer (some ⟨q, 0, none⟩), .pointer (some ⟨xb, 0, none⟩)] w (DoErr w B q (feet q ps gs pb gb pf vC vH) xb { m with stack := less m.stack 1 } (p) at') := by
  have C := Lib.hid (throw_some h hB hp hl)
  have HX := Lib.hid h.x
  have c0 := h.x.cells.1
  clear h hB hp hl
  go_enter Tryz.func162, Tryz.ntmps162
  go_wp2_with fail
  refine C.out.mono ?_
  rintro e w1 ⟨F', rfl, h1⟩
  have HR := Lib.hid h1
  clear h1
  go_wp2
  go_ret
  exact ⟨F', rfl, HR.out⟩
set_option maxHeartbeats 8000000 in
set_option maxRecDepth 100000 in
theorem ctl_end_broken_low (h : Pre w B q ps gs pb gb pf vC vH ch vs vb vm m xb 1 g at' nx gt gk [] []) (hB : B ≤ w.heap.size) (H : m.handler < 3) : Calls Tryz.prog 162 #[.pointer (some ⟨q, 0, none⟩), .pointer (some ⟨xb, 0, none⟩)] w (DoErr w B q (feet q ps gs pb gb pf vC vH) xb m (-25) at') := by
  have C := Lib.hid (end_broken_low h hB H)
  have HX := Lib.hid h.x
  have c0 := h.x.cells.1
  clear h hB H
  go_enter Tryz.func162, Tryz.ntmps162
  go_wp2_with fail
  refine C.out.mono ?_
  rintro e w1 ⟨F', rfl, h1⟩
  have HR := Lib.hid h1
  clear h1
  go_wp2
  go_ret
  exact ⟨F', rfl, HR.out⟩
set_option maxHeartbeats 8000000 in
set_option maxRecDepth 100000 in
theorem ctl_end_broken_else (h : Pre w B q ps gs pb gb pf vC vH ch vs vb vm m xb 1 g at' nx gt gk [] []) (hB : B ≤ w.heap.size) (H0 : 3 ≤ m.handler) (H : m.handler ≠ (m.back.length : Int)) : Calls Tryz.prog 162 #[.pointer (some ⟨q, 0, none⟩), .pointer (some ⟨xb, 0, none⟩)] w (DoErr w B q (feet q ps gs pb gb pf vC vH) xb m (-25) at') := by
  have C := Lib.hid (end_broken_else h hB H0 H)
  have HX := Lib.hid h.x
  have c0 := h.x.cells.1
  clear h hB H0 H
  go_enter Tryz.func162, Tryz.ntmps162
  go_wp2_with fail
  refine C.out.mono ?_
  rintro e w1 ⟨F', rfl, h1⟩
  have HR := Lib.hid h1
  clear h1
  go_wp2
  go_ret
  exact ⟨F', rfl, HR.out⟩
set_option maxHeartbeats 8000000 in
set_option maxRecDepth 100000 in
theorem ctl_end_full (h : Pre w B q ps gs pb gb pf vC vH ch vs vb vm m xb 1 g at' nx gt gk [] []) (hB : B ≤ w.heap.size) (H0 : 3 ≤ m.handler) (H : m.handler = (m.back.length : Int)) (H1 : 48 ≤ m.stack.length) : Calls Tryz.prog 162 #[.pointer (some ⟨q, 0, none⟩), .pointer (some ⟨xb, 0, none⟩)] w (DoErr w B q (feet q ps gs pb gb pf vC vH) xb m (-3) at') := by
  have C := Lib.hid (end_full h hB H0 H H1)
  have HX := Lib.hid h.x
  have c0 := h.x.cells.1
  clear h hB H0 H H1
  go_enter Tryz.func162, Tryz.ntmps162
  go_wp2_with fail
  refine C.out.mono ?_
  rintro e w1 ⟨F', rfl, h1⟩
  have HR := Lib.hid h1
  clear h1
  go_wp2
  go_ret
  exact ⟨F', rfl, HR.out⟩
set_option maxHeartbeats 8000000 in
set_option maxRecDepth 100000 in
theorem ctl_end_ok (h : Pre w B q ps gs pb gb pf vC vH ch vs vb vm m xb 1 g at' nx gt gk [] []) (hB : B ≤ w.heap.size) (H0 : 3 ≤ m.handler) (H : m.handler = (m.back.length : Int)) (H1 : m.stack.length < 48) : Calls Tryz.prog 162 #[.pointer (some ⟨q, 0, none⟩), .pointer (some ⟨xb, 0, none⟩)] w (DoOk w B q (feet q ps gs pb gb pf vC vH) xb 1 g at' (rowV gt 0) (rowV gk 0) { m with handler := nth m.back 1, back := less m.back 3 } [0] [] (nth m.back 2) .nilIface) := by
  have C := Lib.hid (end_ok h hB H0 H H1)
  have HX := Lib.hid h.x
  have c0 := h.x.cells.1
  clear h hB H0 H H1
  go_enter Tryz.func162, Tryz.ntmps162
  go_wp2_with fail
  refine C.out.mono ?_
  rintro e w1 ⟨F', vgs, vgb, L, rfl, h1⟩
  have HR := Lib.hid h1
  clear h1
  go_wp2
  go_ret
  exact ⟨F', vgs, vgb, L, rfl, HR.out⟩
end
end Go.Proofs.YtcffbeihgchpgaaGreatDoor.Inn
/- Package inner: a catch. -/
namespace Go.Proofs.YtcffbeihgchpgaaGreatDoor.Inn
open Go.RowKit Book Mem Mach
set_option linter.unusedVariables false
set_option linter.unusedSimpArgs false
section
variable {w : World} {B q ps gs pb gb pf : Nat} {vC vH : Value} {ch : List Int} {vs vb vm : Value} {m : M} {xb : Nat} {g at' nx : Int} {gt gk : Nat} {x y z p : Int}
theorem S4 {w' : World} {vt vb vgs vgb : Value} {k : Int} (h8 : w'.heap[xb]? = some (.cells (cells8 k g at' nx vt vb vgs vgb) 163 (0, 0))) (hq : w'.heap[q]? = some (.cells (cells13 m vs vb vm ps pb pf) 105 (0, 0))) : True := trivial
theorem keep4 {w' : World} {vt vk vgs vgb : Value} {k : Int} (h8 : w'.heap[xb]? = some (.cells (cells8 k g at' nx vt vk vgs vgb) 163 (0, 0))) (hq : w'.heap[q]? = some (.cells (cells13 m vs vb vm ps pb pf) 105 (0, 0))) :
    w'.cell? ⟨xb, 7, none⟩ = some (.int .i64 nx) ∧ w'.cell? ⟨q, 1, none⟩ = some (.int .i64 m.handler) ∧ w'.cell? ⟨q, 10, none⟩ = some (.pointer (some ⟨ps, 0, none⟩)) ∧ w'.cell? ⟨xb, 2, none⟩ = some vt :=
  ⟨whole_cell h8 rfl, whole_cell hq rfl, whole_cell hq rfl, whole_cell h8 rfl⟩
set_option maxHeartbeats 8000000 in
set_option maxRecDepth 100000 in
theorem ctl_catch (h : Pre w B q ps gs pb gb pf vC vH ch vs vb vm m xb 46 g at' nx gt gk [p] []) (hB : B ≤ w.heap.size) (hl : 0 < m.stack.length) : Calls Tryz.prog 162 #[.pointer (some ⟨q, 0, none⟩), .pointer (some ⟨xb, 0, none⟩)] w (DoOk w B q (feet q ps gs pb gb pf vC vH) xb 46 g at' (rowV gt 1) (rowV gk 0) { m with handler := (m.back.length : Int) + 3 } [] [nx, m.handler, (m.stack.length : Int) - 1, 1] p .nilIface) := by
  have HP := Lib.hid h
  have HB := Lib.hid hB
  obtain ⟨c0, c1, c2, c3, c4, c5, c6, c7⟩ := h.x.cells
  obtain ⟨f4, f5, f7⟩ := h.x.free
  obtain ⟨m0, m1, m5, m6, m7, m8, m9⟩ := h.mc.cells
  obtain ⟨n1, n2, n3⟩ := h.mc.ptrs
  have k0 := h.x.st (j := 0) (x := p) rfl
  have hs := h.mc.st.fits
  have hb := h.mc.bk.fits
  have LS := Lib.hid (fun n => len_any (h.drewN n).mc.st)
  have hqx := h.qx
  obtain ⟨ns, hns⟩ : ∃ n, m.stack.length = n := ⟨_, rfl⟩
  obtain ⟨nb, hnb⟩ : ∃ n, m.back.length = n := ⟨_, rfl⟩
  have HNN := Lib.hid (And.intro hns hnb)
  rw [hns] at LS hs hl
  rw [hnb] at hb
  rw [hns, hnb]
  obtain ⟨w1, gl, hw1, hgl, HRW, HB1, HG⟩ := row_box (w.drewN 1) [nx, m.handler, (ns : Int) - 1, 1]
  change w.drew.alloc (.cells #[.int .i64 nx, .int .i64 m.handler, .int .i64 ((ns : Int) - 1), .int .i64 1] 3) = w1 at hw1
  change w.heap.size = gl at hgl
  have hw1' : (w.drewN 1).alloc (.cells #[.int .i64 nx, .int .i64 m.handler, .int .i64 ((ns : Int) - 1), .int .i64 1] 3) = w1 := hw1
  have hwr : IntKind.i64.wrap ((ns : Int) - 1) = (ns : Int) - 1 := IntWalk.i64_in _ (by omega)
  have HP0 := Lib.hid (h.drewN 1)
  have HP1 := Lib.hid (HP0.out.below HB1.out)
  have HX3 := Lib.hid ((set8 HP1.out.x.box).2.2 (rowV gl 4))
  have HQ3 := Lib.hid ((Stirred.setCell w1 ⟨xb, 5, none⟩ (rowV gl 4)).whole HP1.out.mc.box (by rw [List.mem_singleton]; exact hqx))
  obtain ⟨w2, hw2⟩ : ∃ w2, w1.setCell ⟨xb, 5, none⟩ (.slice (some ⟨gl, 0, none⟩) 4 4) = w2 := ⟨_, rfl⟩
  have HW2 := Lib.hid hw2
  have h3x := HX3.out
  have h3q := HQ3.out
  rw [show w1.setCell ⟨xb, 5, none⟩ (rowV gl 4) = w2 from hw2] at h3x h3q
  have HX3 := Lib.hid h3x
  have HQ3 := Lib.hid h3q
  clear h3x h3q
  have c5' := HP1.out.x.cells.2.2.2.2.2.1
  have f5' := HP1.out.x.free.2.1
  clear h hB hns hnb
  go_enter Tryz.func162, Tryz.ntmps162
  go_wp2_with fail
  go_region_held3 (fun w' => w'.cell? ⟨xb, 7, none⟩ = some (.int .i64 nx) ∧ w'.cell? ⟨q, 1, none⟩ = some (.int .i64 m.handler) ∧ w'.cell? ⟨q, 10, none⟩ = some (.pointer (some ⟨ps, 0, none⟩)) ∧ w'.cell? ⟨xb, 2, none⟩ = some (rowV gt 1))
    (first
      | exact ⟨c7, m1, n1, c2⟩
      | exact keep4 HP1.out.x.box HP1.out.mc.box
      | exact keep4 HX3.out HQ3.out)
    (first
      | (go_at_call 140; refine (LS.out 1).mono ?_; rintro e wz ⟨rfl, hwz⟩; subst wz))
  have hsx : Stirred w1 w2 [xb] := by rw [← HW2.out]; exact Stirred.setCell w1 ⟨xb, 5, none⟩ (rowV gl 4)
  have hX3 : w2.heap[xb]? = some (.cells (cells8 46 g at' nx (rowV gt 1) (rowV gk 0) (.slice none 0 0) (rowV gl 4)) 163 (0, 0)) := HX3.out
  have hM2 := HP1.out.mc.touch hsx (fun f hf hm => HP1.out.nx (by rw [List.mem_singleton] at hm; exact (show f = xb from hm) ▸ hf))
  have hrs := hsx.whole HP1.out.x.rs (by rw [List.mem_singleton]; exact Ne.symm (apart_T HP1.out.x.box HP1.out.x.rs (by decide)))
  have hne : gl ≠ xb := fun e => by have h1 := whole_lt HP0.out.x.box; have h2 := HG.out; omega
  have hrw := hsx.whole HRW.out.1 (by rw [List.mem_singleton]; exact hne)
  clear hw1 hw1' hw2 hgl c0 c1 c2 c3 c4 c5 c6 c7 f4 f5 f7 m0 m1 m5 m6 m7 m8 m9 n1 n2 n3 k0 c5' f5' LS
  obtain ⟨n1, n2, n3⟩ := hM2.ptrs
  have m1 : w2.cell? ⟨q, 1, none⟩ = some (.int .i64 m.handler) := whole_cell hM2.box rfl
  have fm1 : w2.frozen? ⟨q, 1, none⟩ = false := whole_frozen hM2.box 1
  have c2 : w2.cell? ⟨xb, 2, none⟩ = some (rowV gt 1) := whole_cell hX3 rfl
  have c7 : w2.cell? ⟨xb, 7, none⟩ = some (.int .i64 nx) := whole_cell hX3 rfl
  have f7 : w2.frozen? ⟨xb, 7, none⟩ = false := whole_frozen hX3 7
  have k0 : w2.cell? ⟨gt, 0, none⟩ = some (.int .i64 p) := whole_cell hrs rfl
  have LB := Lib.hid (len_any hM2.bk)
  rw [HNN.out.2] at LB
  have HM3 := Lib.hid (hM2.set' 1 (.int .i64 ((nb : Int) + 3)) { m with handler := (nb : Int) + 3 } rfl rfl rfl rfl)
  have hqm : xb ∉ [q] := by rw [List.mem_singleton]; exact Ne.symm hqx
  have hX4 := (Stirred.setCell w2 ⟨q, 1, none⟩ (.int .i64 ((nb : Int) + 3))).whole hX3 hqm
  have HX5 := Lib.hid ((set8 hX4).1 p)
  have hglF : gl ∉ feet q ps gs pb gb pf vC vH := fun hm => by have h1 := (HP0.out.mc.feet_lt gl hm).2; have h2 := HG.out; omega
  have hst := ((stir_q (ps := ps) (gs := gs) (pb := pb) (gb := gb) (pf := pf) (vC := vC) (vH := vH) w2 1 (.int .i64 ((nb : Int) + 3))).more (cs := xb :: feet q ps gs pb gb pf vC vH) (fun f hf => List.mem_cons_of_mem _ hf)).trans (Stirred.setCell (w2.setCell ⟨q, 1, none⟩ (.int .i64 ((nb : Int) + 3))) ⟨xb, 7, none⟩ (.int .i64 p)) (fun f hf => .inl (by rw [List.mem_singleton.1 hf]; exact List.mem_cons_self))
  have HST := Lib.hid hst
  have HRW5 := Lib.hid (hst.whole hrw (by rw [List.mem_cons]; rintro (e | e); exact hne e; exact hglF e))
  have HS2 := Lib.hid ((((stir_drewN w 1 (xb :: feet q ps gs pb gb pf vC vH)).trans (Stirred.of_below HB1.out []) (fun f hf => by cases hf)).trans hsx (fun f hf => .inl (by rw [List.mem_singleton.1 hf]; exact List.mem_cons_self))))
  clear hsx hX3 hM2 hrs hrw hst hqm hX4
  go_wp2_with (go_at_call 140; refine LB.out.mono ?_; rintro e wz ⟨rfl, hwz⟩; subst wz)
  go_ret
  refine ⟨_, _, _, [gl], rfl, (HM3.out.1.touch (Stirred.setCell _ ⟨xb, 7, none⟩ (.int .i64 p)) (fun f hf hm => HP1.out.nx (by rw [List.mem_singleton] at hm; exact (show f = xb from hm) ▸ hf))).mach, HX5.out, HS2.out.trans HST.out (fun f hf => .inl hf), fun f hf => .inl hf, Dep.nil _ _, Dep.row HRW5.out rfl, fun b hb' => ?_⟩
  rw [List.mem_singleton] at hb'
  subst hb'
  exact ⟨whole_lt HRW5.out, hne, hglF⟩
end
end Go.Proofs.YtcffbeihgchpgaaGreatDoor.Inn
