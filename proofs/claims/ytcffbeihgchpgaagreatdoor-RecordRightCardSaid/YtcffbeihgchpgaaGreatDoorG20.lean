/- Package inner: what the cell at Ip says is done, or it can't be. -/
import Derived.Test.YtcffbeihgchpgaaGreatDoorG19
import Derived.Laws.ResultCell
import Derived.Deep.LoopGhost
import Derived.Deep.DeepCutAuto
namespace Go.Proofs.YtcffbeihgchpgaaGreatDoor.Inn
open Go.RowKit Book Mem Mach
set_option linter.unusedVariables false
set_option linter.unusedSimpArgs false
/-- what the tables hold -/
structure Tabs (w : World) : Prop where
  names : NamesIs w
  err : ErrorType w
  zeros : Zeros w
  tens : Tens w
theorem Tabs.mono {w w' : World} (h : Tabs w) (hb : Below w.heap.size w w') : Tabs w' := ⟨h.names.mono hb, h.err.mono hb, h.zeros.mono hb, h.tens.mono hb⟩
/-- an error, and what is in it -/
def Errs (w : World) (c ip : Int) (v : Value) : Prop := (∃ t x, v = .iface t x) ∧ ∃ ws, Chain w c ip ws v
theorem Errs.fault (w : World) (c ip : Int) : Errs w c ip (faultV c ip) := ⟨⟨_, _, rfl⟩, [], rfl⟩
/-- what a try has become -/
def Tried (w : World) (B q : Nat) (F : List Nat) (ip : Int) (mE : M) (e : Ending) (w' : World) : Prop :=
  (∃ F', e = .returned .nilIface ∧ Mk w' B q F' mE ∧ Below B w w') ∨
  ∃ F' m1 c v, e = .returned v ∧ Errs w' c ip v ∧ (c == 0) = false ∧ Cell.In m1.handler ∧ mE = Mach.fault m1 c ∧ Mk w' B q F' m1 ∧ Below B w w'
section
variable {w : World} {B q ps gs pb gb pf : Nat} {vC vH : Value} {ch : List Int} {vs vb vm : Value} {m : M}
/-- a cell is asked for, whichever -/
theorem load_what {p : Nat} {cs : List Int} (h : Fld.Mem.FieldAt w B p vC vH cs ch) (a : Int) : ∃ x b, Calls Tryz.prog 133 #[.pointer (some ⟨p, 0, none⟩), .int .i64 a] w fun e w' => e = .returned (.tuple #[.int .i64 x, .bool b]) ∧ w' = w := by
  by_cases ha : 0 ≤ a ∧ a < (cs.length : Int)
  · have hl : a.toNat < cs.length := by omega
    have := Fld.load_yes h a.toNat cs[a.toNat] (List.getElem?_eq_getElem hl)
    rw [show ((a.toNat : Nat) : Int) = a by omega] at this
    exact ⟨_, _, this⟩
  · exact ⟨_, _, Fld.load_no h a ha⟩
set_option maxHeartbeats 8000000 in
set_option maxRecDepth 100000 in
theorem try_away (h : Mc w B q ps gs pb gb pf vC vH ch vs vb vm m) (hB : B ≤ w.heap.size) (hc : Cells m) (h0 : m.status = 0) (hi : ¬ (0 ≤ m.ip ∧ m.ip < (m.mem.length : Int))) :
    Calls Tryz.prog 120 #[.pointer (some ⟨q, 0, none⟩)] w (Tried w B q (feet q ps gs pb gb pf vC vH) m.ip (Mach.step m)) := by
  have HH := Lib.hid h
  have HE := Lib.hid (show Mach.step m = Mach.fault m (-9) by unfold Mach.step; rw [if_neg (by omega), if_pos (by omega)])
  have HC := Lib.hid hc.handler
  have HB := Lib.hid hB
  have L1 := Lib.hid (Fld.load_no h.me m.ip hi)
  obtain ⟨x, b, L2⟩ := load_what h.me (wrap64 (m.ip + 1))
  have L2 := Lib.hid L2
  obtain ⟨n1, n2, n3⟩ := h.ptrs
  have c0 : w.cell? ⟨q, 0, none⟩ = some (.int .i64 m.ip) := whole_cell h.box rfl
  clear h hc hi hB h0
  go_enter Tryz.func120, Tryz.ntmps120
  go_wp2_with fail
  refine L1.out.mono ?_
  rintro e wz ⟨rfl, hwz⟩
  subst wz
  go_wp2_with fail
  refine L2.out.mono ?_
  rintro e wz ⟨rfl, hwz⟩
  subst wz
  go_wp2_with (go_at_call 134; refine (new_some (-9) m.ip (by decide) _).mono ?_; rintro e w2 ⟨rfl, rfl⟩)
  go_ret
  exact .inr ⟨_, m, -9, _, rfl, Errs.fault _ _ _, by decide, HC.out, HE.out, HH.out.mach, Below.refl _ _⟩
/-- a cell that is no operation -/
theorem step_call (h0 : m.status = 0) {j : Nat} {c : Int} (hj : m.ip = (j : Int)) (hx : m.mem[j]? = some c) (hc : 64 ≤ c) : Mach.step m = if 48 ≤ m.back.length then Mach.fault m (-5) else { m with ip := c, back := m.back ++ [wrap64 (m.ip + 1)] } := by
  have hl := (List.getElem?_eq_some_iff.1 hx).1
  have hg : m.mem.getD m.ip.toNat 0 = c := by rw [List.getD_eq_getElem?_getD, hj, Int.toNat_natCast, hx]; rfl
  unfold Mach.step
  rw [if_neg (by omega), if_neg (by omega)]
  simp only [hg]
  rw [if_pos hc]
theorem step_none (h0 : m.status = 0) {j : Nat} {c : Int} (hj : m.ip = (j : Int)) (hx : m.mem[j]? = some c) (h1 : ¬ 64 ≤ c) (h2 : ¬ isOp c) : Mach.step m = Mach.fault m (-13) := by
  have hl := (List.getElem?_eq_some_iff.1 hx).1
  have hg : m.mem.getD m.ip.toNat 0 = c := by rw [List.getD_eq_getElem?_getD, hj, Int.toNat_natCast, hx]; rfl
  unfold Mach.step
  rw [if_neg (by omega), if_neg (by omega)]
  simp only [hg]
  rw [if_neg h1, if_pos (by unfold isOp at h2; omega)]
theorem step_op (h0 : m.status = 0) {j k : Nat} (hj : m.ip = (j : Int)) (hx : m.mem[j]? = some (k : Int)) (hk : k < 48) :
    Mach.step m = if argOf k = true ∧ m.mem.length ≤ j + 1 then Mach.fault m (-9) else if lackM m k = 0 then exec k m (m.ip + (if argOf k = true then 2 else 1)) (m.mem.getD (j + 1) 0) else Mach.fault m (lackM m k) := by
  have hl := (List.getElem?_eq_some_iff.1 hx).1
  have hg : m.mem.getD m.ip.toNat 0 = (k : Int) := by rw [List.getD_eq_getElem?_getD, hj, Int.toNat_natCast, hx]; rfl
  unfold Mach.step
  rw [if_neg (by omega), if_neg (by omega)]
  simp only [hg]
  rw [if_neg (by omega), if_neg (by omega), hj, Int.toNat_natCast, Int.toNat_natCast]
  by_cases c0 : argOf k = true ∧ m.mem.length ≤ j + 1
  · rw [if_pos c0, if_pos c0]
  · rw [if_neg c0, if_neg c0]
    unfold lackM
    by_cases c1 : (m.stack.length : Int) < (movesOf k).1
    · rw [if_pos c1, if_pos (by omega : (m.stack.length : Int) - (movesOf k).1 < 0), if_neg (by decide)]
    rw [if_neg c1, if_neg (by omega : ¬ (m.stack.length : Int) - (movesOf k).1 < 0)]
    by_cases c2 : (m.back.length : Int) < (movesOf k).2.1
    · rw [if_pos c2, if_pos (by omega : (m.back.length : Int) - (movesOf k).2.1 < 0), if_neg (by decide)]
    rw [if_neg c2, if_neg (by omega : ¬ (m.back.length : Int) - (movesOf k).2.1 < 0)]
    by_cases c3 : 48 < (m.stack.length : Int) - (movesOf k).1 + (movesOf k).2.2.1
    · rw [if_pos c3, if_pos c3, if_neg (by decide)]
    rw [if_neg c3, if_neg c3]
    by_cases c4 : 48 < (m.back.length : Int) - (movesOf k).2.1 + (movesOf k).2.2.2
    · rw [if_pos c4, if_pos c4, if_neg (by decide)]
    rw [if_neg c4, if_neg c4, if_pos rfl]
set_option maxHeartbeats 16000000 in
set_option maxRecDepth 100000 in
theorem try_call_yes (h : Mc w B q ps gs pb gb pf vC vH ch vs vb vm m) (hB : B ≤ w.heap.size) (hc : Cells m) (h0 : m.status = 0) {j : Nat} {c : Int} (hj : m.ip = (j : Int)) (hx : m.mem[j]? = some c) (h64 : 64 ≤ c) (hb : m.back.length < 48) :
    Calls Tryz.prog 120 #[.pointer (some ⟨q, 0, none⟩)] w (Tried w B q (feet q ps gs pb gb pf vC vH) m.ip (Mach.step m)) := by
  have HH := Lib.hid h
  have HC := Lib.hid hc.handler
  have HB := Lib.hid hB
  have hl := (List.getElem?_eq_some_iff.1 hx).1
  have h30 := h.me.len
  obtain ⟨n1, n2, n3⟩ := h.ptrs
  have c0 : w.cell? ⟨q, 0, none⟩ = some (.int .i64 m.ip) := whole_cell h.box rfl
  obtain ⟨x2, b2, L2⟩ := load_what h.me ((j : Int) + 1)
  have L2 := Lib.hid L2
  have L1 := Lib.hid (Fld.load_yes h.me j c hx)
  have A := Lib.hid (opArg_same c w)
  rw [hj] at c0
  have hA : argI c = false := by unfold argI; rw [if_neg (by unfold isOp; omega)]
  rw [hA] at A
  have HE := Lib.hid (step_call h0 hj hx h64)
  have C := Lib.hid (call_yes h c hb)
  have HBK := Lib.hid hb
  have HFL := Lib.hid (fun f hf => (h.feet_lt f hf).1 : ∀ f ∈ feet q ps gs pb gb pf vC vH, B ≤ f)
  have hcb : decide ((64 : Int) ≤ c) = true := decide_eq_true h64
  clear h hB hc hx h0 hA hb hj
  go_enter Tryz.func120, Tryz.ntmps120
  go_wp2_with fail
  refine L1.out.mono ?_
  rintro e wz ⟨rfl, hwz⟩
  subst wz
  go_wp2_with fail
  refine L2.out.mono ?_
  rintro e wz ⟨rfl, hwz⟩
  subst wz
  go_wp2_with fail
  refine A.out.mono ?_
  rintro e wz ⟨rfl, hwz⟩
  subst wz
  go_wp2_with fail
  refine C.out.mono ?_
  rintro e w1 ⟨rfl, hM, hS⟩
  have HM := Lib.hid hM
  have HS := Lib.hid hS
  clear hM hS
  go_wp2
  go_ret
  refine .inl ⟨feet q ps gs pb gb pf vC vH, rfl, ?_, HS.out.below HFL.out HB.out⟩
  rw [HE.out, if_neg (by have := HBK.out; omega)]
  exact HM.out.mach
set_option maxHeartbeats 16000000 in
set_option maxRecDepth 100000 in
theorem try_call_no (h : Mc w B q ps gs pb gb pf vC vH ch vs vb vm m) (hB : B ≤ w.heap.size) (hc : Cells m) (h0 : m.status = 0) {j : Nat} {c : Int} (hj : m.ip = (j : Int)) (hx : m.mem[j]? = some c) (h64 : 64 ≤ c) (hb : 48 ≤ m.back.length) :
    Calls Tryz.prog 120 #[.pointer (some ⟨q, 0, none⟩)] w (Tried w B q (feet q ps gs pb gb pf vC vH) m.ip (Mach.step m)) := by
  have HH := Lib.hid h
  have HC := Lib.hid hc.handler
  have HB := Lib.hid hB
  have hl := (List.getElem?_eq_some_iff.1 hx).1
  have h30 := h.me.len
  obtain ⟨n1, n2, n3⟩ := h.ptrs
  have c0 : w.cell? ⟨q, 0, none⟩ = some (.int .i64 m.ip) := whole_cell h.box rfl
  obtain ⟨x2, b2, L2⟩ := load_what h.me ((j : Int) + 1)
  have L2 := Lib.hid L2
  have L1 := Lib.hid (Fld.load_yes h.me j c hx)
  have A := Lib.hid (opArg_same c w)
  rw [hj] at c0
  have hA : argI c = false := by unfold argI; rw [if_neg (by unfold isOp; omega)]
  rw [hA] at A
  have HE := Lib.hid (show Mach.step m = Mach.fault m (-5) by rw [step_call h0 hj hx h64, if_pos hb])
  have C := Lib.hid (call_no h c hb)
  have hcb : decide ((64 : Int) ≤ c) = true := decide_eq_true h64
  have HJ := Lib.hid hj
  clear h hB hc hx h0 hA hb hj
  go_enter Tryz.func120, Tryz.ntmps120
  go_wp2_with fail
  refine L1.out.mono ?_
  rintro e wz ⟨rfl, hwz⟩
  subst wz
  go_wp2_with fail
  refine L2.out.mono ?_
  rintro e wz ⟨rfl, hwz⟩
  subst wz
  go_wp2_with fail
  refine A.out.mono ?_
  rintro e wz ⟨rfl, hwz⟩
  subst wz
  go_wp2_with fail
  refine C.out.mono ?_
  rintro e w1 ⟨rfl, hb⟩
  have HB1 := Lib.hid hb
  clear hb
  go_wp2
  go_ret
  exact .inr ⟨_, m, -5, _, rfl, Errs.fault _ _ _, by decide, HC.out, HE.out, (HH.out.below HB1.out).mach, HB1.out.mono HB.out⟩
set_option maxHeartbeats 16000000 in
set_option maxRecDepth 100000 in
theorem try_none (h : Mc w B q ps gs pb gb pf vC vH ch vs vb vm m) (hB : B ≤ w.heap.size) (hc : Cells m) (h0 : m.status = 0) {j : Nat} {c : Int} (hj : m.ip = (j : Int)) (hx : m.mem[j]? = some c) (h64 : ¬ 64 ≤ c) (hno : ¬ isOp c) :
    Calls Tryz.prog 120 #[.pointer (some ⟨q, 0, none⟩)] w (Tried w B q (feet q ps gs pb gb pf vC vH) m.ip (Mach.step m)) := by
  have HH := Lib.hid h
  have HC := Lib.hid hc.handler
  have HB := Lib.hid hB
  have hl := (List.getElem?_eq_some_iff.1 hx).1
  have h30 := h.me.len
  obtain ⟨n1, n2, n3⟩ := h.ptrs
  have c0 : w.cell? ⟨q, 0, none⟩ = some (.int .i64 m.ip) := whole_cell h.box rfl
  obtain ⟨x2, b2, L2⟩ := load_what h.me ((j : Int) + 1)
  have L2 := Lib.hid L2
  have L1 := Lib.hid (Fld.load_yes h.me j c hx)
  have A := Lib.hid (opArg_same c w)
  rw [hj] at c0
  have hA : argI c = false := by unfold argI; rw [if_neg hno]
  rw [hA] at A
  have hR : opB c = false := decide_eq_false hno
  have R := Lib.hid (opRight_same c w)
  rw [hR] at R
  have HE := Lib.hid (step_none h0 hj hx h64 hno)
  have hcb : decide ((64 : Int) ≤ c) = false := decide_eq_false h64
  have HJ := Lib.hid hj
  clear h hB hc hx h0 hA hR hno hj
  go_enter Tryz.func120, Tryz.ntmps120
  go_wp2_with fail
  refine L1.out.mono ?_
  rintro e wz ⟨rfl, hwz⟩
  subst wz
  go_wp2_with fail
  refine L2.out.mono ?_
  rintro e wz ⟨rfl, hwz⟩
  subst wz
  go_wp2_with fail
  refine A.out.mono ?_
  rintro e wz ⟨rfl, hwz⟩
  subst wz
  go_wp2_with (first
    | (go_at_call 106; refine R.out.mono ?_; rintro e wz ⟨rfl, hwz⟩; subst wz)
    | (go_at_call 134; refine (new_some (-13) (j : Int) (by decide) _).mono ?_; rintro e w2 ⟨rfl, rfl⟩))
  go_ret
  rw [HJ.out]
  exact .inr ⟨_, m, -13, _, rfl, Errs.fault _ _ _, by decide, HC.out, HE.out, HH.out.mach, Below.refl _ _⟩
set_option maxHeartbeats 16000000 in
set_option maxRecDepth 100000 in
theorem try_arg (h : Mc w B q ps gs pb gb pf vC vH ch vs vb vm m) (hB : B ≤ w.heap.size) (hc : Cells m) (h0 : m.status = 0) {j : Nat} {k : Nat} (hj : m.ip = (j : Int)) (hx : m.mem[j]? = some (k : Int)) (hk : k < 48) (ha : argOf k = true) (hno : m.mem.length ≤ j + 1) :
    Calls Tryz.prog 120 #[.pointer (some ⟨q, 0, none⟩)] w (Tried w B q (feet q ps gs pb gb pf vC vH) m.ip (Mach.step m)) := by
  have HH := Lib.hid h
  have HC := Lib.hid hc.handler
  have HB := Lib.hid hB
  have hl := (List.getElem?_eq_some_iff.1 hx).1
  have h30 := h.me.len
  obtain ⟨n1, n2, n3⟩ := h.ptrs
  have c0 : w.cell? ⟨q, 0, none⟩ = some (.int .i64 m.ip) := whole_cell h.box rfl
  have L2 := Lib.hid (Fld.load_no h.me ((j : Int) + 1) (by omega))
  have L1 := Lib.hid (Fld.load_yes h.me j (k : Int) hx)
  have A := Lib.hid (opArg_same (k : Int) w)
  rw [hj] at c0
  have hA : argI (k : Int) = true := by unfold argI; rw [if_pos (isOp_nat hk)]; exact ha
  rw [hA] at A
  have HE := Lib.hid (show Mach.step m = Mach.fault m (-9) by rw [step_op h0 hj hx hk, if_pos ⟨ha, hno⟩])
  have HJ := Lib.hid hj
  clear h hB hc hx h0 hA hno hj ha
  go_enter Tryz.func120, Tryz.ntmps120
  go_wp2_with fail
  refine L1.out.mono ?_
  rintro e wz ⟨rfl, hwz⟩
  subst wz
  go_wp2_with fail
  refine L2.out.mono ?_
  rintro e wz ⟨rfl, hwz⟩
  subst wz
  go_wp2_with fail
  refine A.out.mono ?_
  rintro e wz ⟨rfl, hwz⟩
  subst wz
  go_wp2_with (go_at_call 134; refine (new_some (-9) (j : Int) (by decide) _).mono ?_; rintro e w2 ⟨rfl, rfl⟩)
  go_ret
  rw [HJ.out]
  exact .inr ⟨_, m, -9, _, rfl, Errs.fault _ _ _, by decide, HC.out, HE.out, HH.out.mach, Below.refl _ _⟩
end
end Go.Proofs.YtcffbeihgchpgaaGreatDoor.Inn
/- Package inner: an operation is tried; a step. -/
namespace Go.Proofs.YtcffbeihgchpgaaGreatDoor.Inn
open Go.RowKit Book Mem Mach
set_option linter.unusedVariables false
set_option linter.unusedSimpArgs false
/-- a new box -/
theorem new_box (w : World) (cs : Array Value) (T : TypeId) : ∃ w1 g, w.alloc (.cells cs T) = w1 ∧ w.heap.size = g ∧ Hid (w1.heap[g]? = some (.cells cs T (0, 0))) ∧ Hid (Below w.heap.size w w1) ∧ Hid (w.heap.size = g) :=
  ⟨_, _, rfl, rfl, heap_alloc_new w _, (Below.refl w.heap.size w).alloc (Nat.le_refl _) _, rfl⟩
section
variable {w : World} {B q ps gs pb gb pf : Nat} {vC vH : Value} {ch : List Int} {vs vb vm : Value} {m : M}
theorem operate_any {xb : Nat} {g nx : Int} (h : Mc w B q ps gs pb gb pf vC vH ch vs vb vm m) (k : Nat) (hk : k < 48) (hx : w.heap[xb]? = some (.cells (new8 k g m.ip nx) 163 (0, 0))) (hxf : xb ∉ feet q ps gs pb gb pf vC vH) (hB : B ≤ w.heap.size) (hBx : B ≤ xb) (hr : Right m) (hc : Cells m) (hin : m.inp.size ≤ maxLen)
    (hE : ∀ wc, Below B w wc → Tabs wc) :
    Calls Tryz.prog 137 #[.pointer (some ⟨q, 0, none⟩), .pointer (some ⟨xb, 0, none⟩)] w (Gone w B q (feet q ps gs pb gb pf vC vH) (xb :: feet q ps gs pb gb pf vC vH) m.ip (if lackM m k = 0 then exec k m nx g else Mach.fault m (lackM m k))) := by
  by_cases hl : lackM m k = 0
  · rw [if_pos hl]
    have h0 := hE w (Below.refl _ _)
    exact operate_do h k hk hx hxf hB hBx hr hc hin h0.zeros h0.tens (fun wc hb => ⟨(hE wc hb).zeros, (hE wc hb).tens⟩) hl
  · rw [if_neg hl]
    exact operate_lack h k hk hx hc hl
set_option maxHeartbeats 16000000 in
set_option maxRecDepth 100000 in
theorem try_op_arg (h : Mc w B q ps gs pb gb pf vC vH ch vs vb vm m) (hB : B ≤ w.heap.size) (hr : Right m) (hc : Cells m) (hin : m.inp.size ≤ maxLen) (hE : ∀ wc, Below B w wc → Tabs wc) (h0 : m.status = 0) {j k : Nat} (hj : m.ip = (j : Int)) (hx : m.mem[j]? = some (k : Int)) (hk : k < 48) (ha : argOf k = true) (hno : j + 1 < m.mem.length) :
    Calls Tryz.prog 120 #[.pointer (some ⟨q, 0, none⟩)] w (Tried w B q (feet q ps gs pb gb pf vC vH) m.ip (Mach.step m)) := by
  have HH := Lib.hid h
  have HB := Lib.hid hB
  have HE := Lib.hid hE
  have hl := (List.getElem?_eq_some_iff.1 hx).1
  have h30 := h.me.len
  obtain ⟨n1, n2, n3⟩ := h.ptrs
  have c0 : w.cell? ⟨q, 0, none⟩ = some (.int .i64 m.ip) := whole_cell h.box rfl
  have L1 := Lib.hid (Fld.load_yes h.me j (k : Int) hx)
  obtain ⟨g, hg⟩ : ∃ g, m.mem[j + 1]? = some g := ⟨_, List.getElem?_eq_getElem (by omega)⟩
  have L2 := Lib.hid (Fld.load_yes h.me (j + 1) g hg)
  rw [show (((j + 1 : Nat) : Nat) : Int) = (j : Int) + 1 from rfl] at L2
  have hgd : m.mem.getD (j + 1) 0 = g := by rw [List.getD_eq_getElem?_getD, hg]; rfl
  have hA : argI (k : Int) = true := by unfold argI; rw [if_pos (isOp_nat hk)]; exact ha
  have A := Lib.hid (fun w => opArg_same (k : Int) w)
  rw [hA] at A
  have R := Lib.hid (opRight_same (k : Int) w)
  rw [show opB (k : Int) = true from decide_eq_true (isOp_nat hk)] at R
  have hst : Mach.step m = if lackM m k = 0 then exec k m (m.ip + 2) g else Mach.fault m (lackM m k) := by
    rw [step_op h0 hj hx hk, if_neg (by omega), hgd, show (if argOf k = true then (2 : Int) else 1) = 2 by rw [ha]; rfl]
  have HST := Lib.hid hst
  have HJ := Lib.hid hj
  have hcb : decide ((64 : Int) ≤ (k : Int)) = false := decide_eq_false (by omega)
  obtain ⟨w1, xb, hw1, hxb, HX1, HB1, HXG⟩ := new_box w (new8 k g (j : Int) ((j : Int) + 1)) 163
  have HM1 := Lib.hid (h.below HB1.out)
  have HXF := Lib.hid (show xb ∉ feet q ps gs pb gb pf vC vH from fun hm => by have h1 := (h.feet_lt xb hm).2; have h2 := HXG.out; omega)
  have HBX := Lib.hid (show B ≤ xb by have h2 := HXG.out; omega)
  have HFL := Lib.hid (fun f hf => (h.feet_lt f hf).1 : ∀ f ∈ feet q ps gs pb gb pf vC vH, B ≤ f)
  obtain ⟨w2, hw2⟩ : ∃ w2, w1.setCell ⟨xb, 7, none⟩ (.int .i64 ((j : Int) + 1 + 1)) = w2 := ⟨_, rfl⟩
  have HX2 := Lib.hid (show w2.heap[xb]? = some (.cells (new8 k g m.ip (m.ip + 2)) 163 (0, 0)) by rw [← hw2, (set8 HX1.out).1, hj, show (j : Int) + 1 + 1 = (j : Int) + 2 by omega])
  have hs2 : Stirred w1 w2 [xb] := by rw [← hw2]; exact Stirred.setCell _ _ _
  have HM2 := Lib.hid (HM1.out.touch hs2 (fun f hf hm => HXF.out (by rw [List.mem_singleton] at hm; exact (show f = xb from hm) ▸ hf)))
  have c7 : w1.cell? ⟨xb, 7, none⟩ = some (.int .i64 ((j : Int) + 1)) := whole_cell HX1.out rfl
  have f7 : w1.frozen? ⟨xb, 7, none⟩ = false := whole_frozen HX1.out 7
  have HBW2 := Lib.hid (show Below B w w2 from (HB1.out.mono HB.out).trans (hs2.below (fun f hf => by rw [List.mem_singleton.1 hf]; exact HBX.out) (Nat.le_trans HB.out HB1.out.size)))
  have O := Lib.hid (operate_any HM2.out k hk HX2.out HXF.out (Nat.le_trans HB.out HBW2.out.size) HBX.out hr hc hin (fun wc hb => HE.out wc (HBW2.out.trans hb)))
  rw [← HST.out] at O
  rw [hj] at c0
  change w.alloc (.cells #[.int .i64 k, .int .i64 g, .slice none 0 0, .slice none 0 0, .slice none 0 0, .slice none 0 0, .int .i64 j, .int .i64 ((j : Int) + 1)] 163) = w1 at hw1
  clear h hB hr hc hin hE h0 hj hx hA hst ha hno hg
  go_enter Tryz.func120, Tryz.ntmps120
  go_wp2_with fail
  refine L1.out.mono ?_
  rintro e wz ⟨rfl, hwz⟩
  subst wz
  go_wp2_with fail
  refine L2.out.mono ?_
  rintro e wz ⟨rfl, hwz⟩
  subst wz
  go_wp2_with fail
  refine (A.out _).mono ?_
  rintro e wz ⟨rfl, hwz⟩
  subst wz
  go_wp2_with fail
  refine R.out.mono ?_
  rintro e wz ⟨rfl, hwz⟩
  subst wz
  go_wp2_with fail
  refine (A.out _).mono ?_
  rintro e wz ⟨rfl, hwz⟩
  subst wz
  go_wp2_with fail
  refine O.out.mono ?_
  rintro e w3 hD
  clear O L1 L2 A R n1 n2 n3 c0 c7 f7 hw1 hw2 hxb
  rcases hD with ⟨F', rfl, hMk, hS, hF⟩ | ⟨F', m1, c, rfl, h1, h2, h3, hMk, hS, hF⟩
  · have HB3 := Lib.hid (HBW2.out.trans (hS.below (fun f hf => by rcases List.mem_cons.1 hf with rfl | hf; exact HBX.out; exact HFL.out f hf) (Nat.le_trans HB.out HBW2.out.size)))
    have HMK := Lib.hid hMk
    have N := Lib.hid (opName_same (k : Int) w3 (HE.out w3 HB3.out).names)
    clear hMk hS hF
    go_wp2_with (first
      | (go_at_call 138; refine N.out.mono ?_; rintro e wz ⟨rfl, hwz⟩; subst wz)
      | (go_at_call 136; refine (wrap_nil _ _).mono ?_; rintro e wz ⟨rfl, rfl⟩))
    go_ret
    exact .inl ⟨F', rfl, HMK.out, HB3.out⟩
  · have HB3 := Lib.hid (HBW2.out.trans (hS.below (fun f hf => by rcases List.mem_cons.1 hf with rfl | hf; exact HBX.out; exact HFL.out f hf) (Nat.le_trans HB.out HBW2.out.size)))
    have HMK := Lib.hid hMk
    have N := Lib.hid (opName_same (k : Int) w3 (HE.out w3 HB3.out).names)
    have HF3 := Lib.hid (And.intro h1 (And.intro h2 h3))
    clear hMk hS hF h1 h2 h3
    go_wp2_with (first
      | (go_at_call 138; refine N.out.mono ?_; rintro e wz ⟨rfl, hwz⟩; subst wz)
      | (go_at_call 136; refine (wrap_some _ _ _ _).mono ?_; rintro e w4 ⟨rfl, hw4⟩; have HB4 := Lib.hid (show Below w3.heap.size w3 w4 by rw [hw4]; exact (Below.refl _ _).alloc (Nat.le_refl _) _); have HN4 := Lib.hid (show w4.heap[w3.heap.size]? = some (.cells #[.string (nameI k), faultV c m.ip] 177 (0, 0)) by rw [hw4]; exact heap_alloc_new w3 _); clear hw4))
    go_ret
    have hb4 := HB4.out
    have hn4 := HN4.out
    refine .inr ⟨F', m1, c, _, rfl, ⟨⟨_, _, rfl⟩, [nameI k], w3.heap.size, faultV c m.ip, rfl, whole_lt hn4, whole_cell hn4 rfl, whole_cell hn4 rfl, rfl⟩, HF3.out.1, HF3.out.2.1, HF3.out.2.2, HMK.out.below hb4, HB3.out.trans (hb4.mono (Nat.le_trans HB.out HB3.out.size))⟩
set_option maxHeartbeats 16000000 in
set_option maxRecDepth 100000 in
theorem try_op (h : Mc w B q ps gs pb gb pf vC vH ch vs vb vm m) (hB : B ≤ w.heap.size) (hr : Right m) (hc : Cells m) (hin : m.inp.size ≤ maxLen) (hE : ∀ wc, Below B w wc → Tabs wc) (h0 : m.status = 0) {j k : Nat} (hj : m.ip = (j : Int)) (hx : m.mem[j]? = some (k : Int)) (hk : k < 48) (ha : argOf k = false) :
    Calls Tryz.prog 120 #[.pointer (some ⟨q, 0, none⟩)] w (Tried w B q (feet q ps gs pb gb pf vC vH) m.ip (Mach.step m)) := by
  have HH := Lib.hid h
  have HB := Lib.hid hB
  have HE := Lib.hid hE
  have hl := (List.getElem?_eq_some_iff.1 hx).1
  have h30 := h.me.len
  obtain ⟨n1, n2, n3⟩ := h.ptrs
  have c0 : w.cell? ⟨q, 0, none⟩ = some (.int .i64 m.ip) := whole_cell h.box rfl
  have L1 := Lib.hid (Fld.load_yes h.me j (k : Int) hx)
  obtain ⟨b2, L2⟩ : ∃ b, Calls Tryz.prog 133 #[.pointer (some ⟨pf, 0, none⟩), .int .i64 ((j : Int) + 1)] w fun e w' => e = .returned (.tuple #[.int .i64 (m.mem.getD (j + 1) 0), .bool b]) ∧ w' = w := by
    by_cases c1 : j + 1 < m.mem.length
    · have := Fld.load_yes h.me (j + 1) (m.mem.getD (j + 1) 0) (by rw [List.getD_eq_getElem?_getD, List.getElem?_eq_getElem c1]; rfl)
      exact ⟨_, this⟩
    · have := Fld.load_no h.me ((j : Int) + 1) (by omega)
      rw [show m.mem.getD (j + 1) 0 = 0 by rw [List.getD_eq_getElem?_getD, List.getElem?_eq_none (by omega)]; rfl]
      exact ⟨_, this⟩
  have L2 := Lib.hid L2
  obtain ⟨g, hgd⟩ : ∃ g, m.mem.getD (j + 1) 0 = g := ⟨_, rfl⟩
  rw [hgd] at L2
  have hA : argI (k : Int) = false := by unfold argI; rw [if_pos (isOp_nat hk)]; exact ha
  have A := Lib.hid (fun w => opArg_same (k : Int) w)
  rw [hA] at A
  have R := Lib.hid (opRight_same (k : Int) w)
  rw [show opB (k : Int) = true from decide_eq_true (isOp_nat hk)] at R
  have hst : Mach.step m = if lackM m k = 0 then exec k m (m.ip + 1) g else Mach.fault m (lackM m k) := by
    rw [step_op h0 hj hx hk, if_neg (by rw [ha]; rintro ⟨c, -⟩; cases c), hgd, show (if argOf k = true then (2 : Int) else 1) = 1 by rw [ha]; rfl]
  have HST := Lib.hid hst
  have HJ := Lib.hid hj
  have hcb : decide ((64 : Int) ≤ (k : Int)) = false := decide_eq_false (by omega)
  obtain ⟨w1, xb, hw1, hxb, HX1, HB1, HXG⟩ := new_box w (new8 k g (j : Int) ((j : Int) + 1)) 163
  have HM1 := Lib.hid (h.below HB1.out)
  have HXF := Lib.hid (show xb ∉ feet q ps gs pb gb pf vC vH from fun hm => by have h1 := (h.feet_lt xb hm).2; have h2 := HXG.out; omega)
  have HBX := Lib.hid (show B ≤ xb by have h2 := HXG.out; omega)
  have HFL := Lib.hid (fun f hf => (h.feet_lt f hf).1 : ∀ f ∈ feet q ps gs pb gb pf vC vH, B ≤ f)
  obtain ⟨w2, hw2⟩ : ∃ w2, w1 = w2 := ⟨_, rfl⟩
  have HX2 := Lib.hid (show w2.heap[xb]? = some (.cells (new8 k g m.ip (m.ip + 1)) 163 (0, 0)) by rw [← hw2, hj]; exact HX1.out)
  have HM2 := Lib.hid (show Mc w2 B q ps gs pb gb pf vC vH ch vs vb vm m by rw [← hw2]; exact HM1.out)
  have HBW2 := Lib.hid (show Below B w w2 by rw [← hw2]; exact HB1.out.mono HB.out)
  have O := Lib.hid (operate_any HM2.out k hk HX2.out HXF.out (Nat.le_trans HB.out HBW2.out.size) HBX.out hr hc hin (fun wc hb => HE.out wc (HBW2.out.trans hb)))
  rw [← HST.out] at O
  rw [hj] at c0
  change w.alloc (.cells #[.int .i64 k, .int .i64 g, .slice none 0 0, .slice none 0 0, .slice none 0 0, .slice none 0 0, .int .i64 j, .int .i64 ((j : Int) + 1)] 163) = w1 at hw1
  clear h hB hr hc hin hE h0 hj hx hA hst ha
  go_enter Tryz.func120, Tryz.ntmps120
  go_wp2_with fail
  refine L1.out.mono ?_
  rintro e wz ⟨rfl, hwz⟩
  subst wz
  go_wp2_with fail
  refine L2.out.mono ?_
  rintro e wz ⟨rfl, hwz⟩
  subst wz
  go_wp2_with fail
  refine (A.out _).mono ?_
  rintro e wz ⟨rfl, hwz⟩
  subst wz
  go_wp2_with fail
  refine R.out.mono ?_
  rintro e wz ⟨rfl, hwz⟩
  subst wz
  go_wp2_with fail
  refine (A.out _).mono ?_
  rintro e wz ⟨rfl, hwz⟩
  subst wz
  go_wp2_with fail
  refine O.out.mono ?_
  rintro e w3 hD
  clear O L1 L2 A R n1 n2 n3 c0 hw1 hw2 hxb
  rcases hD with ⟨F', rfl, hMk, hS, hF⟩ | ⟨F', m1, c, rfl, h1, h2, h3, hMk, hS, hF⟩
  · have HB3 := Lib.hid (HBW2.out.trans (hS.below (fun f hf => by rcases List.mem_cons.1 hf with rfl | hf; exact HBX.out; exact HFL.out f hf) (Nat.le_trans HB.out HBW2.out.size)))
    have HMK := Lib.hid hMk
    have N := Lib.hid (opName_same (k : Int) w3 (HE.out w3 HB3.out).names)
    clear hMk hS hF
    go_wp2_with (first
      | (go_at_call 138; refine N.out.mono ?_; rintro e wz ⟨rfl, hwz⟩; subst wz)
      | (go_at_call 136; refine (wrap_nil _ _).mono ?_; rintro e wz ⟨rfl, rfl⟩))
    go_ret
    exact .inl ⟨F', rfl, HMK.out, HB3.out⟩
  · have HB3 := Lib.hid (HBW2.out.trans (hS.below (fun f hf => by rcases List.mem_cons.1 hf with rfl | hf; exact HBX.out; exact HFL.out f hf) (Nat.le_trans HB.out HBW2.out.size)))
    have HMK := Lib.hid hMk
    have N := Lib.hid (opName_same (k : Int) w3 (HE.out w3 HB3.out).names)
    have HF3 := Lib.hid (And.intro h1 (And.intro h2 h3))
    clear hMk hS hF h1 h2 h3
    go_wp2_with (first
      | (go_at_call 138; refine N.out.mono ?_; rintro e wz ⟨rfl, hwz⟩; subst wz)
      | (go_at_call 136; refine (wrap_some _ _ _ _).mono ?_; rintro e w4 ⟨rfl, hw4⟩; have HB4 := Lib.hid (show Below w3.heap.size w3 w4 by rw [hw4]; exact (Below.refl _ _).alloc (Nat.le_refl _) _); have HN4 := Lib.hid (show w4.heap[w3.heap.size]? = some (.cells #[.string (nameI k), faultV c m.ip] 177 (0, 0)) by rw [hw4]; exact heap_alloc_new w3 _); clear hw4))
    go_ret
    have hb4 := HB4.out
    have hn4 := HN4.out
    refine .inr ⟨F', m1, c, _, rfl, ⟨⟨_, _, rfl⟩, [nameI k], w3.heap.size, faultV c m.ip, rfl, whole_lt hn4, whole_cell hn4 rfl, whole_cell hn4 rfl, rfl⟩, HF3.out.1, HF3.out.2.1, HF3.out.2.2, HMK.out.below hb4, HB3.out.trans (hb4.mono (Nat.le_trans HB.out HB3.out.size))⟩
end
end Go.Proofs.YtcffbeihgchpgaaGreatDoor.Inn
/- Package inner: a step of a machine. -/
namespace Go.Proofs.YtcffbeihgchpgaaGreatDoor.Inn
open Go.RowKit Book Mem Mach
set_option linter.unusedVariables false
set_option linter.unusedSimpArgs false
theorem fault_inp (s : M) (c : Int) : (Mach.fault s c).inp = s.inp := by unfold Mach.fault; split <;> rfl
theorem exec_inp (k : Nat) (s : M) (i g : Int) : (exec k s i g).inp = s.inp := by
  unfold exec
  split <;> simp only [apply_ite M.inp, fault_inp, ite_self]
theorem step_inp (s : M) : (Mach.step s).inp = s.inp := by
  unfold Mach.step
  simp only [apply_ite M.inp, fault_inp, exec_inp, ite_self]
section
variable {w : World} {B q ps gs pb gb pf : Nat} {vC vH : Value} {ch : List Int} {vs vb vm : Value} {m : M}
theorem try_any (h : Mc w B q ps gs pb gb pf vC vH ch vs vb vm m) (hB : B ≤ w.heap.size) (hr : Right m) (hc : Cells m) (hin : m.inp.size ≤ maxLen) (hE : ∀ wc, Below B w wc → Tabs wc) (h0 : m.status = 0) :
    Calls Tryz.prog 120 #[.pointer (some ⟨q, 0, none⟩)] w (Tried w B q (feet q ps gs pb gb pf vC vH) m.ip (Mach.step m)) := by
  by_cases hi : 0 ≤ m.ip ∧ m.ip < (m.mem.length : Int)
  · have hl : m.ip.toNat < m.mem.length := by omega
    obtain ⟨c, hx⟩ : ∃ c, m.mem[m.ip.toNat]? = some c := ⟨_, List.getElem?_eq_getElem hl⟩
    have hj : m.ip = ((m.ip.toNat : Nat) : Int) := by omega
    by_cases h64 : 64 ≤ c
    · by_cases hb : m.back.length < 48
      · exact try_call_yes h hB hc h0 hj hx h64 hb
      · exact try_call_no h hB hc h0 hj hx h64 (by omega)
    · by_cases hop : isOp c
      · obtain ⟨k, hk, rfl⟩ := nat_of_op hop
        cases ha : argOf k with
        | true =>
          by_cases hno : m.ip.toNat + 1 < m.mem.length
          · exact try_op_arg h hB hr hc hin hE h0 hj hx hk ha hno
          · exact try_arg h hB hc h0 hj hx hk ha (by omega)
        | false => exact try_op h hB hr hc hin hE h0 hj hx hk ha
      · exact try_none h hB hc h0 hj hx h64 hop
  · exact try_away h hB hc h0 hi
/-- a machine has gone a step -/
def Stepped (w : World) (B q : Nat) (mE : M) (e : Ending) (w' : World) : Prop := ∃ F', e = .returned (.tuple #[]) ∧ Mk w' B q F' mE ∧ Below B w w'
set_option maxHeartbeats 8000000 in
set_option maxRecDepth 100000 in
theorem step_any {F : List Nat} (h : Mk w B q F m) (hB : B ≤ w.heap.size) (hr : Right m) (hc : Cells m) (hin : m.inp.size ≤ maxLen) (hE : ∀ wc, Below B w wc → Tabs wc) (h0 : m.status = 0) :
    Calls Tryz.prog 94 #[.pointer (some ⟨q, 0, none⟩)] w (Stepped w B q (Mach.step m)) := by
  obtain ⟨ps, gs, pb, gb, pf, vC, vH, ch, vs, vb, vm, -, h⟩ := h
  have C := Lib.hid (try_any h hB hr hc hin hE h0)
  have HE := Lib.hid hE
  have HB := Lib.hid hB
  clear h hB hr hc hin hE h0
  go_enter Tryz.func94, Tryz.ntmps94
  go_wp2_with fail
  refine C.out.mono ?_
  rintro e w1 hD
  rcases hD with ⟨F', rfl, hMk, hb⟩ | ⟨F', m1, c, v, rfl, ⟨⟨t, x, rfl⟩, ws, hch⟩, h1, h2, h3, hMk, hb⟩
  · have HMK := Lib.hid hMk
    have HB1 := Lib.hid hb
    clear hMk hb C
    go_wp2
    go_end0
    exact ⟨F', rfl, HMK.out, HB1.out⟩
  · obtain ⟨ps, gs, pb, gb, pf, vC, vH, ch, vs, vb, vm, -, hM⟩ := hMk
    have HM := Lib.hid hM
    have HB1 := Lib.hid hb
    have CD := Lib.hid (code_any ws _ c m.ip w1 hch (HE.out w1 hb).err)
    have HF := Lib.hid (And.intro h2 h3)
    clear hM hb hch h1 h2 h3 C
    go_wp2_with fail
    refine CD.out.mono ?_
    rintro e w2 ⟨rfl, hb2⟩
    have HB2 := Lib.hid (HB1.out.trans (hb2.mono (Nat.le_trans HB.out HB1.out.size)))
    have FT := Lib.hid (fault_any (HM.out.below hb2) (Nat.le_trans HB.out HB2.out.size) HF.out.1 c)
    have HFL := Lib.hid (fun f hf => (HM.out.feet_lt f hf).1 : ∀ f ∈ feet q ps gs pb gb pf vC vH, B ≤ f)
    clear hb2 CD
    go_wp2_with fail
    refine FT.out.mono ?_
    rintro e w3 ⟨rfl, hM, hS⟩
    have HM3 := Lib.hid hM
    have HB3 := Lib.hid (HB2.out.trans (hS.below HFL.out (Nat.le_trans HB.out HB2.out.size)))
    clear hM hS
    go_wp2
    go_end0
    refine ⟨feet q ps gs pb gb pf vC vH, rfl, ?_, HB3.out⟩
    rw [HF.out.2]
    exact HM3.out.mach
end
end Go.Proofs.YtcffbeihgchpgaaGreatDoor.Inn
/- Package inner: steps, as long as there is fuel. -/
namespace Go.Proofs.YtcffbeihgchpgaaGreatDoor.Inn
open Go.RowKit Book Mem Mach
set_option linter.unusedVariables false
set_option linter.unusedSimpArgs false
theorem results_state_tmp {fn : Func} {p u : Tmp} {ty : TypeId} {P : Program} (h : fn.results = #[.cell p ty, .tmp u]) (tmps : Array Value) (w : World) (g : Nat) (cs : Array Value)
    (hp : tmps.getD p undef = .pointer (some ⟨g, 0, none⟩)) (hl : (loadVar ty ⟨g, 0, none⟩).run P w = .ok (.agg cs) w) :
    (results fn tmps).run P w = .ok (.tuple #[.agg cs, tmps.getD u undef]) w := by
  rw [results_cell_tmp h, hp]
  simp [asAddr, Result.andThen, hl]
/-- run with whatever fuel -/
def runI (m : M) (f : Int) : M × Int := if f < 0 then (m, f) else ((Mach.run f.toNat m).1, ((Mach.run f.toNat m).2 : Int))
theorem runI_nat (m : M) (n : Nat) : runI m (n : Int) = ((Mach.run n m).1, ((Mach.run n m).2 : Int)) := by
  unfold runI
  rw [if_neg (by omega), Int.toNat_natCast]
theorem runI_neg {m : M} {f : Int} (h : f < 0) : runI m f = (m, f) := if_pos h
/-- what a run answers -/
def Ran (w : World) (r : M × Int) (e : Ending) (w' : World) : Prop := ∃ v, e = .returned (.tuple #[v, .int .i64 r.2]) ∧ OwnsM w' w.heap.size v r.1 ∧ Below w.heap.size w w'
theorem run_go {n : Nat} {s : M} (h : s.status = 0) : Mach.run (n + 1) s = Mach.run n (Mach.step s) := by
  conv => lhs; unfold Mach.run
  rw [if_pos h]
/-- what is told at the end -/
theorem OwnsL.far {w wr wn wf : World} {r : Nat} {v1 v2 v3 : Value} {m : M} (hbw : Below w.heap.size w wr) (hr : w.heap.size ≤ r) (hrl : r < wr.heap.size) (hb : Below wr.heap.size wr wn) (ho : OwnsL wn wr.heap.size v1 v2 v3 m) (ht : Stirred wn wf [r]) :
    OwnsL wf w.heap.size v1 v2 v3 m ∧ Below w.heap.size w wf := by
  have hl := fun {v : Value} {xs : List Int} (h : Owns wn wr.heap.size 3 v (vals xs)) => (h.touch ht (fun k hk hm => by rw [List.mem_singleton] at hm; have := (h.block k hk).1; omega)).from hbw.size
  exact ⟨⟨hl ho.st, hl ho.bk, hl ho.me, ho.sb, ho.bm⟩, (hbw.trans (hb.mono hbw.size)).trans (ht.below (fun k hk => by rw [List.mem_singleton.1 hk]; exact hr) (Nat.le_trans hbw.size hb.size))⟩
theorem ran_end {w wr wn wf : World} {r n k : Nat} {v1 v2 v3 : Value} {m m1 : M} (hst : Mach.run n m = (m1, k)) (hbw : Below w.heap.size w wr) (hr : w.heap.size ≤ r) (hrl : r < wr.heap.size) (hb : Below wr.heap.size wr wn) (ho : OwnsL wn wr.heap.size v1 v2 v3 m1) (ht : Stirred wn wf [r]) :
    Ran w ((Mach.run n m).1, ((Mach.run n m).2 : Int)) (.returned (.tuple #[stV m1 v1 v2 v3, .int .i64 (k : Int)])) wf := by
  have h := OwnsL.far hbw hr hrl hb ho ht
  rw [hst]
  exact ⟨_, rfl, ⟨v1, v2, v3, rfl, h.1⟩, h.2⟩
set_option maxHeartbeats 16000000 in
set_option maxRecDepth 100000 in
theorem innRun_nat {w : World} {v : Value} {m : M} (h : ReadsM w v m) (hr : Right m) (hc : Cells m) (hin : m.inp.size ≤ maxLen) (hE : ∀ wc, Below w.heap.size w wc → Tabs wc) (n : Nat) (hn : n ≤ 9223372036854775807) :
    Calls Tryz.prog 59 #[v, .int .i64 n] w (Ran w (runI m n)) := by
  rw [runI_nat]
  have HV := Lib.hid h
  obtain ⟨vs, vb, vm, rfl, hs, hb, hm⟩ := h
  obtain ⟨w1, w2, g, r, hw1, hw2, hg, hr', HG, HR, HB0, HZ, HW⟩ := two_boxes w (cells10 m.ip m.handler vs vb vm m.out m.inp m.read m.status m.code)
  have HBW := Lib.hid (show Below w.heap.size w w2 by have := HB0.out; rw [← HW.out] at this; exact this)
  have HRC := Lib.hid (And.intro hr (And.intro hc hin))
  have HE := Lib.hid hE
  have O := Lib.hid (open_any (HV.out.below HBW.out) hr)
  clear hs hb hm hr hc hin hE
  go_enter Tryz.func59, Tryz.ntmps59
  go_upto_region 1 with fail
  clear hw1 hw2 hg hr'
  go_wp2_with (refine ld_state (by rfl) _ rfl _ rfl _ _ HG.out rfl ?_)
  refine O.out.mono ?_
  rintro e w3 ⟨q, F, rfl, hMk, hb⟩
  have HMK := Lib.hid hMk
  have HB3 := Lib.hid hb
  obtain ⟨B, hB⟩ : ∃ B, w2.heap.size = B := ⟨_, rfl⟩
  have HBB := Lib.hid hB
  rw [hB] at HMK HB3
  have HEB := Lib.hid (fun wr (hbr : Below B w3 wr) wc (hbc : Below B wr wc) => HE.out wc (HBW.out.trans (((HB3.out.trans hbr).trans hbc).mono (by have := HBW.out.size; have := HBB.out; omega))) : ∀ wr, Below B w3 wr → ∀ wc, Below B wr wc → Tabs wc)
  clear hMk hb O HG hB
  go_wp2_with fail
  go_loopg [1] n (fun z f wr => ∃ (k : Nat) (F : List Nat) (m1 : M), k = z ∧ k ≤ n ∧ f = .int .i64 k ∧ Hid (Mk wr B q F m1) ∧ Hid (Below B w3 wr) ∧ Hid (Mach.run k m1 = Mach.run n m) ∧ Hid (Right m1) ∧ Hid (Cells m1) ∧ Hid (m1.inp = m.inp))
  case atStart => exact ⟨n, F, m, rfl, Nat.le_refl _, rfl, HMK, Below.refl _ _, rfl, HRC.out.1, HRC.out.2.1, rfl⟩
  case round =>
    obtain ⟨k, F1, m1, rfl, hk, rfl, HMK, HBR, HRN, HR1, HC1, HI1⟩ := hrel
    obtain ⟨ps, gs, pb, gb, pf, vC, vH, ch, vs1, vb1, vm1, -, hM⟩ := HMK.out
    have c8 : wr.cell? ⟨q, 8, none⟩ = some (.int .i64 m1.status) := whole_cell hM.box rfl
    have HBsz := Lib.hid (show B ≤ wr.heap.size from Nat.le_trans (by have := HB3.out.size; have := HBB.out; omega) HBR.out.size)
    clear hM
    by_cases hgo : m1.status = 0 ∧ 0 < k
    · obtain ⟨h0, hk0⟩ := hgo
      obtain ⟨k', rfl⟩ : ∃ k', k = k' + 1 := ⟨k - 1, by omega⟩
      have S := Lib.hid (step_any HMK.out HBsz.out HR1.out HC1.out (by rw [HI1.out]; exact HRC.out.2.2) (HEB.out wr HBR.out) h0)
      have HRN2 := Lib.hid (show Mach.run k' (Mach.step m1) = Mach.run n m by rw [← HRN.out, run_go h0])
      have HR2 := Lib.hid (step_right HR1.out)
      have HC2 := Lib.hid (step_cells HR1.out HC1.out)
      have HI2 := Lib.hid (show (Mach.step m1).inp = m.inp by rw [step_inp, HI1.out])
      rw [h0] at c8
      clear h0 HRN HR1 HC1 HI1
      go_wp2_with fail
      refine S.out.mono ?_
      rintro e wn ⟨F2, rfl, hMk, hb⟩
      have HMK := Lib.hid hMk
      have HBR := Lib.hid (HBR.out.trans hb)
      clear hMk hb S c8
      go_wp2
      go_roundg k'
      case measure => omega
      case rel => exact ⟨k', F2, _, rfl, by omega, by go_num, HMK, HBR, HRN2, HR2, HC2, HI2⟩
    · have HST := Lib.hid (show Mach.run n m = (m1, k) by
        rw [← HRN.out]
        by_cases h0 : m1.status = 0
        · obtain rfl : k = 0 := by
            rcases Nat.eq_zero_or_pos k with e | e
            · exact e
            · exact absurd ⟨h0, e⟩ hgo
          rfl
        · exact run_still h0 k)
      have C := Lib.hid (state_any HMK.out)
      have HRR := Lib.hid ((Stirred.of_below (HB3.out.trans HBR.out |>.mono (Nat.le_of_eq HBB.out) : Below w2.heap.size w2 wr) []).whole HR.out List.not_mem_nil)
      have HBWR := Lib.hid (show Below w.heap.size w wr from HBW.out.trans (((HB3.out.trans HBR.out)).mono (by have := HBW.out.size; have := HBB.out; omega)))
      have HGE := Lib.hid (show w.heap.size ≤ r by have := HW.out; have := HZ.out; omega)
      obtain ⟨st1, hst1⟩ : ∃ z, m1.status = z := ⟨_, rfl⟩
      rw [hst1] at c8 hgo
      clear HRN HR1 HC1 HI1 HMK hst1
      by_cases h0 : st1 = 0
      · have hk1 : ¬ (0 : Int) < (k : Int) := by omega
        subst h0
        clear hgo
        go_wp2_with fail
        refine C.out.mono ?_
        rintro e wn ⟨v, rfl, ho, hb⟩
        obtain ⟨v1, v2, v3, rfl, hol⟩ := ho
        have HRX := Lib.hid ((Stirred.of_below hb []).whole HRR.out List.not_mem_nil)
        have HOL := Lib.hid hol
        have HBN := Lib.hid hb
        clear hol hb C c8
        go_wp2_with (refine st_state (by rfl) _ _ rfl r _ rfl rfl _ _ HRX.out rfl rfl (all_one (slice_one HOL.out.st.slice) (slice_one HOL.out.bk.slice) (slice_one HOL.out.me.slice)) ?_; intro wf hrf htf; have HRF := Lib.hid hrf; have HTF := Lib.hid htf; clear hrf htf)
        refine bodyPost_ret (results_state_tmp rfl _ _ r _ rfl (load_state HRF.out rfl)) rfl ?_
        exact ran_end HST.out HBWR.out HGE.out (whole_lt HRR.out) HBN.out HOL.out HTF.out
      · have h1 : (st1 == 0) = false := by simpa using h0
        clear hgo h0
        go_wp2_with fail
        refine C.out.mono ?_
        rintro e wn ⟨v, rfl, ho, hb⟩
        obtain ⟨v1, v2, v3, rfl, hol⟩ := ho
        have HRX := Lib.hid ((Stirred.of_below hb []).whole HRR.out List.not_mem_nil)
        have HOL := Lib.hid hol
        have HBN := Lib.hid hb
        clear hol hb C c8
        go_wp2_with (refine st_state (by rfl) _ _ rfl r _ rfl rfl _ _ HRX.out rfl rfl (all_one (slice_one HOL.out.st.slice) (slice_one HOL.out.bk.slice) (slice_one HOL.out.me.slice)) ?_; intro wf hrf htf; have HRF := Lib.hid hrf; have HTF := Lib.hid htf; clear hrf htf)
        refine bodyPost_ret (results_state_tmp rfl _ _ r _ rfl (load_state HRF.out rfl)) rfl ?_
        exact ran_end HST.out HBWR.out HGE.out (whole_lt HRR.out) HBN.out HOL.out HTF.out
end Go.Proofs.YtcffbeihgchpgaaGreatDoor.Inn
/- Package inner: a machine that has done nothing; a step; beginning a word; a fault; which may be; copying. -/
namespace Go.Proofs.YtcffbeihgchpgaaGreatDoor.Inn
open Go.RowKit Book Mem Mach
set_option linter.unusedVariables false
set_option linter.unusedSimpArgs false
/-- a cell of the beginning, the first o operations being there -/
def bootCell (o k : Nat) : Int := if 64 ≤ k ∧ k < 64 + 2 * o then (if k % 2 = 0 then ((k - 64) / 2 : Nat) else 5) else if k = 1 then 1 else 0
def bootMem (o n : Nat) : List Int := (List.range n).map (bootCell o)
theorem bootMem_length (o n : Nat) : (bootMem o n).length = n := by simp [bootMem]
theorem bootMem_at (o n k : Nat) : (bootMem o n)[k]? = if k < n then some (bootCell o k) else none := by
  unfold bootMem
  rw [List.getElem?_map]
  by_cases h : k < n
  · rw [if_pos h, List.getElem?_range h]; rfl
  · rw [if_neg h, List.getElem?_eq_none (by simpa using h)]; rfl
theorem boot_start (n : Nat) : ((List.replicate n (0 : Int)).set 0 0).set 1 1 = bootMem 0 n := by
  apply List.ext_getElem?
  intro k
  rw [bootMem_at, List.getElem?_set, List.getElem?_set, List.getElem?_replicate, List.length_set, List.length_replicate]
  unfold bootCell
  repeat' split
  all_goals first | rfl | (exfalso; omega) | (congr 1; omega)
theorem boot_next (o n : Nat) : ((bootMem o n).set (64 + 2 * o) (o : Int)).set (64 + 2 * o + 1) 5 = bootMem (o + 1) n := by
  apply List.ext_getElem?
  intro k
  rw [bootMem_at, List.getElem?_set, List.getElem?_set, bootMem_at, List.length_set, bootMem_length]
  unfold bootCell
  repeat' split
  all_goals first | rfl | (exfalso; omega) | (congr 1; omega)
/-- a machine that has done nothing -/
def bootM (n : Nat) (inp : ByteArray) : M := ⟨0, 0, [], [], bootMem 48 n, ⟨#[]⟩, inp, 0, 1, 0⟩
section
variable {w : World} {B p : Nat} {vC vH : Value} {cs ch : List Int}
/-- a store, whether or not there is such a cell -/
def Sto (w : World) (B p : Nat) (vC : Value) (cs : List Int) (e : Ending) (w' : World) : Prop := ∃ b vH' ch', e = .returned (.bool b) ∧ Fld.Mem.FieldAt w' B p vC vH' cs ch' ∧ Below B w w'
theorem store_what (h : Fld.Mem.FieldAt w B p vC vH cs ch) (hB : B ≤ w.heap.size) (j : Nat) (v : Int) : Calls Tryz.prog 177 #[.pointer (some ⟨p, 0, none⟩), .int .i64 j, .int .i64 v] w (Sto w B p vC (cs.set j v)) := by
  by_cases hj : j < cs.length
  · refine (Fld.store_yes h hB j v hj).mono ?_
    rintro e w' ⟨vH', he, hF, hS, -⟩
    exact ⟨true, vH', _, he, hF, hS.below (fun k hk => (h.foot_lt k hk).1) hB⟩
  · refine (Fld.store_no h j v (by omega)).mono ?_
    rintro e w' ⟨he, rfl⟩
    rw [List.set_eq_of_length_le (by omega)]
    exact ⟨false, vH, ch, he, h, Below.refl _ _⟩
end
end Go.Proofs.YtcffbeihgchpgaaGreatDoor.Inn
