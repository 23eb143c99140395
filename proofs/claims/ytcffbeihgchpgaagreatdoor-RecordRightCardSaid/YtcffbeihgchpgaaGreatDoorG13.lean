/- The walks of package fault, third part: errors.As at **seen; find at both types. -/
import Derived.Test.YtcffbeihgchpgaaGreatDoorG12
import Derived.OwnWalk
import Derived.Test.YtcffbeihgchpgaaGreatDoorG4
import Derived.Test.YtcffbeihgchpgaaGreatDoorG11
namespace Go.Proofs.YtcffbeihgchpgaaGreatDoor
open Go.RowKit Go.Extern.Stop Go.Stop Go.Extern
set_option linter.unusedSimpArgs false
set_option linter.unusedVariables false

theorem hmf (fn : Fn) (first cap : Array Value) (w : World) : (Instr.makeFunc fn first cap).run Tryz.prog w = .ok (.func fn first cap) w := rfl
theorem idle_f (p q : Addr) (w : World) :
    CallsD Tryz.prog 156 #[.pointer (some p), .pointer (some q)] .returning w fun e u' w' => e = .returned (.tuple #[]) ∧ u' = .returning ∧ w' = w := by
  refine callsD_of_wpS Tryz.func156 rfl fun c₀ cs hu => ?_
  apply wpS_seq
  apply wpS_region
  simp [wpOpsS, go_sem, recoverD, hu, Tryz.ntmps156, Exit.thenS]
  refine wpS_cond (t := false) (by simp [Act.eval, Array.replicate]) ?_
  simp only [Bool.false_eq_true, if_false]
  refine wpS_of_wp (wp_skip ?_)
  cases c₀
  simp_all [bodyPostS, results, Tryz.results156]
set_option maxHeartbeats 2000000 in
theorem find_f (ws : List ByteArray) (v : Value) (c i : Int) (w : World) (hch : Chain w c i ws v) (hg : ErrorType w) :
    Calls Tryz.prog 144 #[v] w fun e w' => e = .returned (.tuple #[.agg #[.int .i64 c, .int .i64 i], .bool true]) ∧ Below w.heap.size w w' := by
  have mf := hmf
  have C := As_f ws v c i w.heap.size (.int .i64 0) (.int .i64 0) ((w.alloc (.cells #[.int .i64 0, .int .i64 0] 170)).alloc (.cells #[.bool false] 4)) hch.alloc.alloc
    ((hg.mono ((Below.refl _ _).alloc (Nat.le_refl _) _)).mono ((Below.refl _ _).alloc (Nat.le_refl _) _)) (by simp; omega) (by simp) (by simp) (by simp) (by simp)
  have C' := Lib.hid C
  clear C hg hch
  go_enter_defers Tryz.func144, Tryz.ntmps144
  go_wp2_with (go_at_call 157; refine C'.out.mono ?_; rintro e w' ⟨rfl, rfl⟩)
  go_region
  go_wp2
  refine leaves_cons (f := 156) (args := #[.pointer (some ⟨w.heap.size, 0, none⟩), .pointer (some ⟨w.heap.size + 1, 0, none⟩)]) (by simp) (by simp [go_sem]) ?_
  refine (idle_f _ _ _).mono ?_
  rintro e u' w'' ⟨rfl, rfl, rfl⟩
  simp [Leaves, settle, results, Tryz.results144, go_sem]
  exact ((((((((Below.refl _ _).alloc (Nat.le_refl _) _).alloc (by simp) _).alloc (by simp; omega) _).alloc (by simp; omega) _).alloc (by simp; omega) _).alloc (by simp; omega) _)).drew
end Go.Proofs.YtcffbeihgchpgaaGreatDoor
/- The walks of package fault: errors.Is of a fault and a kind. -/
namespace Go.Proofs.YtcffbeihgchpgaaGreatDoor
open Go.RowKit Go.Extern.Stop Go.Stop Go.Extern
set_option linter.unusedSimpArgs false
set_option linter.unusedVariables false
/-- '==' of two interface values that hold numbers of one integer type -/
theorem eql_ints {P : Program} {ti tn : TypeId} {ms : Array (String × TypeId)} {i : TypeInfo} {k : IntKind} (a b : Int)
    (hi : P.underlying ti = some (.interface ms)) (hn : P.underlying tn = some (.int k)) (hinfo : P.info? tn = some i) (hcomp : i.comparable = true) (w : World) :
    (binOp .eql ti (.iface tn (.int k a)) (.iface tn (.int k b))).run P w = .ok (.bool (a == b)) w := by
  have h : ∀ d, (Op.equalIn (d + 2) ti (.iface tn (.int k a)) (.iface tn (.int k b))).run P w = .ok (a == b) w := fun d => by
    simp [Op.equalIn, run_underlying hi, run_underlying hn, typeInfo, hinfo, hcomp]
  simp only [binOp]
  simp [Op.equal, Op.maxDepth, h 9998]
end Go.Proofs.YtcffbeihgchpgaaGreatDoor
/- The walks of package fault: Code, Where, Is, Words. -/
namespace Go.Proofs.YtcffbeihgchpgaaGreatDoor
open Go.RowKit Go.Extern.Stop Go.Stop Go.Extern
set_option linter.unusedSimpArgs false
set_option linter.unusedVariables false

theorem bcell {W w1 : World} (hb : Below W.heap.size W w1) : (∀ b o, b < W.heap.size → w1.cell? ⟨b, o, none⟩ = W.cell? ⟨b, o, none⟩) ∧ (∀ b o, b < W.heap.size → w1.frozen? ⟨b, o, none⟩ = W.frozen? ⟨b, o, none⟩) :=
  ⟨fun b o h => hb.cell (p := ⟨b, o, none⟩) h, fun b o h => hb.frozen (p := ⟨b, o, none⟩) h⟩
set_option maxHeartbeats 1000000 in
theorem code_any (ws : List ByteArray) (v : Value) (c i : Int) (w : World) (hch : Chain w c i ws v) (hg : ErrorType w) :
    Calls Tryz.prog 122 #[v] w fun e w' => e = .returned (.int .i64 c) ∧ Below w.heap.size w w' := by
  have C := Lib.hid (find_f ws v c i w hch hg)
  clear hch hg
  go_enter Tryz.func122, Tryz.ntmps122
  go_wp2_with (go_at_call 144; refine C.out.mono ?_; rintro e w1 ⟨rfl, hb⟩)
  go_ret
  exact ⟨rfl, hb.alloc hb.size _⟩
theorem ownsRow_below {w w' : World} {base B : Nat} {e : TypeId} {size : Nat} {v : Value} {n : Nat} {xs : List Value} (h : w.ownsRow base e size v n xs) (hb : Below w.heap.size w w') : w'.ownsRow base e size v n xs := by
  refine ⟨h.1, ?_⟩
  rcases h.2 with h2 | ⟨g, cap, cur, h1, h2, h3, h4⟩
  · exact .inl h2
  · have hg : g < w.heap.size := by
      rcases Nat.lt_or_ge g w.heap.size with h0 | h0
      · exact h0
      · rw [Array.getElem?_eq_none h0] at h3; cases h3
    exact .inr ⟨g, cap, cur, h1, h2, by rw [hb.block g hg]; exact h3, h4⟩
theorem Tryz.infoString : (Tryz.prog.info? 9).map (fun i => (i.zero, i.size, i.bytes)) = some (some (.string ⟨#[]⟩), 1, 16) := by kernel_rfl
/-- what 'Words' hands back: a slice of its own of just these words -/
def IsTexts (B : Nat) (w : World) (ws : List ByteArray) (s : Value) : Prop := w.ownsRow B 9 1 s ws.length (ws.map Value.string)
def WordsPost (ws : List ByteArray) (w : World) (e : Ending) (w' : World) : Prop := ∃ s, e = .returned s ∧ IsTexts w.heap.size w' ws s ∧ Below w.heap.size w w'
end Go.Proofs.YtcffbeihgchpgaaGreatDoor
/- Package inner: numbers are reckoned; the fault of an operation. -/
namespace Go.Proofs.YtcffbeihgchpgaaGreatDoor.Inn
open Go.RowKit Book Mem Mach
set_option linter.unusedVariables false
set_option linter.unusedSimpArgs false
section
variable {w : World} {xb : Nat} {g at' nx : Int} {gt gb : Nat} {p q r x y z : Int}
theorem xfault_some {vt vb vgs vgb : Value} {k : Int} (h : w.heap[xb]? = some (.cells (cells8 k g at' nx vt vb vgs vgb) 163 (0, 0))) (c : Int) (hc : (c == 0) = false) :
    Calls Tryz.prog 150 #[.pointer (some ⟨xb, 0, none⟩), .int .i64 c] w fun e w' => e = .returned (faultV c at') ∧ w' = w := by
  have c6 : w.cell? ⟨xb, 6, none⟩ = some (.int .i64 at') := whole_cell h rfl
  clear h
  go_enter Tryz.func150, Tryz.ntmps150
  go_wp2_with (go_at_call 134; refine (new_some c at' hc _).mono ?_; rintro e w2 ⟨rfl, rfl⟩)
  go_ret
  exact ⟨rfl, rfl⟩
theorem xfault_zero {vt vb vgs vgb : Value} {k : Int} (h : w.heap[xb]? = some (.cells (cells8 k g at' nx vt vb vgs vgb) 163 (0, 0))) :
    Calls Tryz.prog 150 #[.pointer (some ⟨xb, 0, none⟩), .int .i64 0] w fun e w' => e = .returned .nilIface ∧ w' = w := by
  have c6 : w.cell? ⟨xb, 6, none⟩ = some (.int .i64 at') := whole_cell h rfl
  clear h
  go_enter Tryz.func150, Tryz.ntmps150
  go_wp2_with (go_at_call 134; refine (new_zero at' _).mono ?_; rintro e w2 ⟨rfl, rfl⟩)
  go_ret
  exact ⟨rfl, rfl⟩
/-- nothing but a fault -/
def XFault (w : World) (c at' : Int) (e : Ending) (w' : World) : Prop := e = .returned (faultV c at') ∧ Stirred w w' []
set_option maxHeartbeats 8000000 in
set_option maxRecDepth 100000 in
theorem reckon_one {k : Int} (h : X8 w xb k g at' nx gt gb [p] []) (h1 : (Cell.one k p).2 = true) (ip : Cell.In p) : Calls Tryz.prog 168 #[.pointer (some ⟨xb, 0, none⟩)] w (XDid w xb k g at' (rowV gt 1) (rowV gb 0) gt gb (.nilIface) [(Cell.one k p).1] [] nx) := by
  have HX := Lib.hid h
  obtain ⟨c0, c1, c2, c3, c4, c5, c6, c7⟩ := h.cells
  obtain ⟨f4, f5, f7⟩ := h.free
  have k0 := h.st (j := 0) (x := p) rfl
  have c2' : w.cell? ⟨xb, 2, none⟩ = some (rowV gt 1) := c2
  have C := Lib.hid (fun w => Cell.one_any k p ip w)
  generalize hv : Cell.one k p = tv at C h1 ⊢
  obtain ⟨v, bo⟩ := tv
  simp only at h1 ⊢
  subst h1
  clear h hv
  go_enter Tryz.func168, Tryz.ntmps168
  go_wp2_with fail
  go_quiet (fail)
  have HX := Lib.hid (HX.out.drewN nq)
  have HSQ := Lib.hid (Stirred.drewN w nq [])
  go_wp2_with fail
  refine (C.out _).mono ?_
  rintro e wz ⟨rfl, n1, hq⟩
  have HX := Lib.hid (show X8 wz xb k g at' nx gt gb [p] [] by rw [hq]; exact HX.out.drewN n1)
  have HSQ := Lib.hid (show Stirred w wz [] by rw [hq]; exact HSQ.out.trans (Stirred.drewN _ n1 []) (fun k hk => .inl hk))
  clear hq
  obtain ⟨c0, c1, c2, c3, c4, c5, c6, c7⟩ := HX.out.cells
  obtain ⟨f4, f5, f7⟩ := HX.out.free
  obtain ⟨w1, gl, hw1, hgl, HRW, HB1, HG⟩ := row_box wz [v]
  change wz.alloc (.cells #[.int .i64 v] 3) = w1 at hw1
  have HX1 := Lib.hid (HX.out.below HB1.out)
  have c4' := HX1.out.cells.2.2.2.2.1
  have f4' := HX1.out.free.1
  have HR := Lib.hid ((set8 HX1.out.box).2.1 (rowV gl 1))
  go_wp2
  go_ret
  exact given_new HX.out.box HRW.out.1 HG.out (HSQ.out.more (fun k hk => by cases hk)) HB1.out HR.out
set_option maxHeartbeats 8000000 in
set_option maxRecDepth 100000 in
theorem reckon_two {k : Int} (h : X8 w xb k g at' nx gt gb [q, p] []) (h1 : (Cell.one k q).2 = false) (h2 : (Cell.two k q p).2 = true) (iq : Cell.In q) (ip : Cell.In p) : Calls Tryz.prog 168 #[.pointer (some ⟨xb, 0, none⟩)] w (XDid w xb k g at' (rowV gt 2) (rowV gb 0) gt gb (.nilIface) [(Cell.two k q p).1] [] nx) := by
  have HX := Lib.hid h
  obtain ⟨c0, c1, c2, c3, c4, c5, c6, c7⟩ := h.cells
  obtain ⟨f4, f5, f7⟩ := h.free
  have k0 := h.st (j := 0) (x := q) rfl
  have k1 := h.st (j := 1) (x := p) rfl
  have c2' : w.cell? ⟨xb, 2, none⟩ = some (rowV gt 2) := c2
  have C := Lib.hid (fun w => Cell.one_any k q iq w)
  have D := Lib.hid (fun w => Cell.two_any k q p ip w)
  generalize hv : Cell.one k q = tv at C h1
  obtain ⟨v0, b0⟩ := tv
  generalize hv2 : Cell.two k q p = tv2 at D h2 ⊢
  obtain ⟨v, bo⟩ := tv2
  simp only at h1 h2 ⊢
  subst h1
  subst h2
  clear h hv hv2
  go_enter Tryz.func168, Tryz.ntmps168
  go_wp2_with fail
  go_quiet (fail)
  have HX := Lib.hid (HX.out.drewN nq)
  have HSQ := Lib.hid (Stirred.drewN w nq [])
  go_wp2_with fail
  refine (C.out _).mono ?_
  rintro e wz ⟨rfl, n1, hq⟩
  have HX := Lib.hid (show X8 wz xb k g at' nx gt gb [q, p] [] by rw [hq]; exact HX.out.drewN n1)
  have HSQ := Lib.hid (show Stirred w wz [] by rw [hq]; exact HSQ.out.trans (Stirred.drewN _ n1 []) (fun k hk => .inl hk))
  clear hq
  obtain ⟨c0, c1, c2, c3, c4, c5, c6, c7⟩ := HX.out.cells
  obtain ⟨f4, f5, f7⟩ := HX.out.free
  go_wp2_with fail
  refine (D.out _).mono ?_
  rintro e wy ⟨rfl, n2, hq⟩
  have HX := Lib.hid (show X8 wy xb k g at' nx gt gb [q, p] [] by rw [hq]; exact HX.out.drewN n2)
  have HSQ := Lib.hid (show Stirred w wy [] by rw [hq]; exact HSQ.out.trans (Stirred.drewN _ n2 []) (fun k hk => .inl hk))
  clear hq
  obtain ⟨c0, c1, c2, c3, c4, c5, c6, c7⟩ := HX.out.cells
  obtain ⟨f4, f5, f7⟩ := HX.out.free
  obtain ⟨w1, gl, hw1, hgl, HRW, HB1, HG⟩ := row_box wy [v]
  change wy.alloc (.cells #[.int .i64 v] 3) = w1 at hw1
  have HX1 := Lib.hid (HX.out.below HB1.out)
  have c4' := HX1.out.cells.2.2.2.2.1
  have f4' := HX1.out.free.1
  have HR := Lib.hid ((set8 HX1.out.box).2.1 (rowV gl 1))
  go_wp2
  go_ret
  exact given_new HX.out.box HRW.out.1 HG.out (HSQ.out.more (fun k hk => by cases hk)) HB1.out HR.out
set_option maxHeartbeats 8000000 in
set_option maxRecDepth 100000 in
theorem reckon_zero {k : Int} (h : X8 w xb k g at' nx gt gb [q, p] []) (h1 : (Cell.one k q).2 = false) (h2 : (Cell.two k q p).2 = false) (iq : Cell.In q) (ip : Cell.In p) : Calls Tryz.prog 168 #[.pointer (some ⟨xb, 0, none⟩)] w (XFault w (-10) at') := by
  have HX := Lib.hid h
  obtain ⟨c0, c1, c2, c3, c4, c5, c6, c7⟩ := h.cells
  obtain ⟨f4, f5, f7⟩ := h.free
  have k0 := h.st (j := 0) (x := q) rfl
  have k1 := h.st (j := 1) (x := p) rfl
  have c2' : w.cell? ⟨xb, 2, none⟩ = some (rowV gt 2) := c2
  have C := Lib.hid (fun w => Cell.one_any k q iq w)
  have D := Lib.hid (fun w => Cell.two_any k q p ip w)
  generalize hv : Cell.one k q = tv at C h1
  obtain ⟨v0, b0⟩ := tv
  generalize hv2 : Cell.two k q p = tv2 at D h2 ⊢
  obtain ⟨v, bo⟩ := tv2
  simp only at h1 h2 ⊢
  subst h1
  subst h2
  clear h hv hv2
  go_enter Tryz.func168, Tryz.ntmps168
  go_wp2_with fail
  go_quiet (fail)
  have HX := Lib.hid (HX.out.drewN nq)
  have HSQ := Lib.hid (Stirred.drewN w nq [])
  go_wp2_with fail
  refine (C.out _).mono ?_
  rintro e wz ⟨rfl, n1, hq⟩
  have HX := Lib.hid (show X8 wz xb k g at' nx gt gb [q, p] [] by rw [hq]; exact HX.out.drewN n1)
  have HSQ := Lib.hid (show Stirred w wz [] by rw [hq]; exact HSQ.out.trans (Stirred.drewN _ n1 []) (fun k hk => .inl hk))
  clear hq
  obtain ⟨c0, c1, c2, c3, c4, c5, c6, c7⟩ := HX.out.cells
  obtain ⟨f4, f5, f7⟩ := HX.out.free
  go_wp2_with fail
  refine (D.out _).mono ?_
  rintro e wy ⟨rfl, n2, hq⟩
  have HX := Lib.hid (show X8 wy xb k g at' nx gt gb [q, p] [] by rw [hq]; exact HX.out.drewN n2)
  have HSQ := Lib.hid (show Stirred w wy [] by rw [hq]; exact HSQ.out.trans (Stirred.drewN _ n2 []) (fun k hk => .inl hk))
  clear hq
  obtain ⟨c0, c1, c2, c3, c4, c5, c6, c7⟩ := HX.out.cells
  obtain ⟨f4, f5, f7⟩ := HX.out.free
  have F := Lib.hid (xfault_some HX.out.box (-10) (by decide))
  go_wp2_with fail
  refine F.out.mono ?_
  rintro e wz ⟨rfl, hwz⟩
  subst wz
  go_wp2
  go_ret
  exact ⟨rfl, HSQ.out⟩
end
end Go.Proofs.YtcffbeihgchpgaaGreatDoor.Inn
/- Package inner: a fault goes on behind the nearest Catch, or the machine is thrown; a word is called. -/
namespace Go.Proofs.YtcffbeihgchpgaaGreatDoor.Inn
open Go.RowKit Book Mem Mach
set_option linter.unusedVariables false
set_option linter.unusedSimpArgs false
section
variable {w : World} {B q ps gs pb gb pf : Nat} {vC vH : Value} {ch : List Int} {vs vb vm : Value} {m : M}
set_option maxHeartbeats 8000000 in
set_option maxRecDepth 100000 in
theorem fault_thrown (h : Mc w B q ps gs pb gb pf vC vH ch vs vb vm m) (code : Int) (hi : Cell.In m.handler) (hc : caught m = false) :
    Calls Tryz.prog 121 #[.pointer (some ⟨q, 0, none⟩), .int .i64 code] w (DidM w B q ps gs pb gb pf vC vH ch vs vb vm { m with status := 2, code := code } (.tuple #[])) := by
  have hb := h.bk.fits
  have HH := Lib.hid h
  have L := Lib.hid (fun wc (n : Nat) (e : wc = w.drewN n) => by rw [e]; exact len_any (h.bk.touch (Stirred.drewN w n []) (fun _ _ => List.not_mem_nil)) : ∀ wc (n : Nat), wc = w.drewN n → Calls Tryz.prog 140 #[.pointer (some ⟨pb, 0, none⟩)] wc fun e w' => e = .returned (.int .i64 m.back.length) ∧ w' = wc)
  obtain ⟨n1, n2, n3⟩ := h.ptrs
  have c1 : w.cell? ⟨q, 1, none⟩ = some (.int .i64 m.handler) := whole_cell h.box rfl
  have PN := Lib.hid (fun (n : Nat) (a : Int) (ha : ¬ (0 ≤ a ∧ a < (m.back.length : Int))) => peek_no (h.bk.touch (Stirred.drewN w n []) (fun _ _ => List.not_mem_nil)) a ha)
  have PY := Lib.hid (fun (n : Nat) (j : Nat) (x : Int) (hj : j < m.back.length) (hx : m.back[m.back.length - 1 - j]? = some x) => peek_yes (h.bk.touch (Stirred.drewN w n []) (fun _ _ => List.not_mem_nil)) j x hj hx)
  have HC := Lib.hid hc
  clear h hc
  unfold Cell.In at hi
  have c8 : w.cell? ⟨q, 8, none⟩ = some (.int .i64 m.status) := whole_cell HH.out.box rfl
  have c9 : w.cell? ⟨q, 9, none⟩ = some (.int .i64 m.code) := whole_cell HH.out.box rfl
  have f8 : w.frozen? ⟨q, 8, none⟩ = false := whole_frozen HH.out.box 8
  have f9 : w.frozen? ⟨q, 9, none⟩ = false := whole_frozen HH.out.box 9
  have HR := Lib.hid (fun (n : Nat) => by
    have h0 := HH.out.touch (Stirred.drewN w n []) (fun _ _ => List.not_mem_nil)
    have h1 := h0.set' 8 (.int .i64 2) { m with status := 2 } rfl rfl rfl rfl
    have h2 := h1.1.set' 9 (.int .i64 code) { m with status := 2, code := code } rfl rfl rfl rfl
    exact (⟨h2.1, ((Stirred.drewN w n _).trans h1.2 (fun k hk => .inl hk)).trans h2.2 (fun k hk => .inl hk)⟩ : Mc (((w.drewN n).setCell ⟨q, 8, none⟩ (.int .i64 2)).setCell ⟨q, 9, none⟩ (.int .i64 code)) B q ps gs pb gb pf vC vH ch vs vb vm { m with status := 2, code := code } ∧ Stirred w (((w.drewN n).setCell ⟨q, 8, none⟩ (.int .i64 2)).setCell ⟨q, 9, none⟩ (.int .i64 code)) (feet q ps gs pb gb pf vC vH)))
  have ways : m.handler < 1 ∨ (m.back.length : Int) < m.handler ∨ ∃ j : Nat, ∃ x : Int, m.handler = (m.back.length : Int) - j ∧ j < m.back.length ∧ m.back[m.back.length - 1 - j]? = some x ∧ (m.handler < 3 ∨ x < 0 ∨ 48 ≤ x) := by
    by_cases a1 : m.handler < 1
    · exact .inl a1
    by_cases a2 : (m.back.length : Int) < m.handler
    · exact .inr (.inl a2)
    have hj : m.back.length - 1 - (m.back.length - m.handler.toNat) < m.back.length := by omega
    refine .inr (.inr ⟨m.back.length - m.handler.toNat, m.back[m.back.length - 1 - (m.back.length - m.handler.toNat)], by omega, by omega, List.getElem?_eq_getElem hj, ?_⟩)
    have := HC.out
    unfold caught at this
    simp only [Bool.and_eq_false_iff, decide_eq_false_iff_not] at this
    rw [show m.handler.toNat - 1 = m.back.length - 1 - (m.back.length - m.handler.toNat) by omega, List.getD_eq_getElem?_getD, List.getElem?_eq_getElem hj, Option.getD_some] at this
    rcases this with ((hc | hc) | hc) | hc
    all_goals omega
  obtain ⟨nb, hnb⟩ : ∃ n, m.back.length = n := ⟨_, rfl⟩
  obtain ⟨hd, hhd⟩ : ∃ n, m.handler = n := ⟨_, rfl⟩
  rw [hnb] at hb L PN PY ways
  rw [hhd] at hi c1 ways
  clear hnb hhd HC
  rcases ways with a1 | a1 | ⟨j, x, rfl, hj, hx, a1⟩
  · by_cases a2 : -9223372036854775000 ≤ hd
    · have P := Lib.hid (fun n => PN.out n ((nb : Int) - hd) (by omega))
      clear PN PY HH
      go_enter Tryz.func121, Tryz.ntmps121
      go_wp2_with fail
      go_quiet ((first | (go_at_call 140; exact Calls.quiet_of_same (L.out _ _ rfl)) | (go_at_call 139; exact Calls.quiet_of_same (P.out _))))
      go_wp2
      go_end0
      exact ⟨rfl, HR.out _⟩
    · obtain ⟨a, ha⟩ : ∃ a, wrap64 ((nb : Int) - hd) = a := ⟨_, rfl⟩
      have hna : ¬ (0 ≤ a ∧ a < (nb : Int)) := by rw [← ha]; unfold wrap64; omega
      have e2 : IntKind.i64.wrap ((nb : Int) - hd) = a := (IntWalk.i64_left _).trans ha
      have P := Lib.hid (fun n => PN.out n a hna)
      clear PN PY HH hna
      go_enter Tryz.func121, Tryz.ntmps121
      go_wp2_with fail
      go_quiet ((first | (go_at_call 140; exact Calls.quiet_of_same (L.out _ _ rfl)) | (go_at_call 139; exact Calls.quiet_of_same (P.out _))))
      go_wp2
      go_end0
      exact ⟨rfl, HR.out _⟩
  · have P := Lib.hid (fun n => PN.out n ((nb : Int) - hd) (by omega))
    clear PN PY HH
    go_enter Tryz.func121, Tryz.ntmps121
    go_wp2_with fail
    go_quiet ((first | (go_at_call 140; exact Calls.quiet_of_same (L.out _ _ rfl)) | (go_at_call 139; exact Calls.quiet_of_same (P.out _))))
    go_wp2
    go_end0
    exact ⟨rfl, HR.out _⟩
  · have P := Lib.hid (fun n => PY.out n j x hj hx)
    have e1 : (nb : Int) - ((nb : Int) - (j : Int)) = (j : Int) := by omega
    have e2 : (nb : Int) - (j : Int) < 1000 := by omega
    clear PN PY HH hx
    by_cases b1 : (nb : Int) - (j : Int) < 3
    · clear a1
      go_enter Tryz.func121, Tryz.ntmps121
      go_wp2_with fail
      go_quiet ((first | (go_at_call 140; exact Calls.quiet_of_same (L.out _ _ rfl)) | (go_at_call 139; exact Calls.quiet_of (P.out _))))
      go_wp2
      go_end0
      exact ⟨rfl, HR.out _⟩
    · by_cases b2 : x < 0
      · clear a1
        go_enter Tryz.func121, Tryz.ntmps121
        go_wp2_with fail
        go_quiet ((first | (go_at_call 140; exact Calls.quiet_of_same (L.out _ _ rfl)) | (go_at_call 139; exact Calls.quiet_of (P.out _))))
        go_wp2
        go_end0
        exact ⟨rfl, HR.out _⟩
      · have b3 : 48 ≤ x := by omega
        clear a1
        go_enter Tryz.func121, Tryz.ntmps121
        go_wp2_with fail
        go_quiet ((first | (go_at_call 140; exact Calls.quiet_of_same (L.out _ _ rfl)) | (go_at_call 139; exact Calls.quiet_of (P.out _))))
        go_wp2
        go_end0
        exact ⟨rfl, HR.out _⟩
/-- the plain steps of a fault that is caught -/
theorem fault_steps (hc : caught m = true) (code : Int) : ∃ (h d : Nat), m.handler = h ∧ 3 ≤ h ∧ h ≤ m.back.length ∧ m.back[h - 1]? = some (d : Int) ∧ d < 48 ∧
    Mach.fault m code = { m with handler := nth (m.back.take h) 1, ip := nth (m.back.take h) 2, back := less (m.back.take h) 3, stack := cutTo m.stack d ++ [code] } := by
  have hc0 := hc
  unfold caught at hc
  simp only [Bool.and_eq_true, decide_eq_true_eq] at hc
  obtain ⟨⟨⟨h1, h2⟩, h3⟩, h4⟩ := hc
  have hl : m.handler.toNat - 1 < m.back.length := by omega
  have hx : m.back[m.handler.toNat - 1]? = some (m.back.getD (m.handler.toNat - 1) 0) := by rw [List.getD_eq_getElem?_getD, List.getElem?_eq_getElem hl]; rfl
  have ht : (m.back.take m.handler.toNat).length = m.handler.toNat := by rw [List.length_take]; omega
  refine ⟨m.handler.toNat, (m.back.getD (m.handler.toNat - 1) 0).toNat, by omega, by omega, by omega, by rw [hx]; congr 1; omega, by omega, ?_⟩
  have g : ∀ k, k < 3 → nth (m.back.take m.handler.toNat) k = m.back.getD (m.handler.toNat - 1 - k) 0 := fun k hk => by
    unfold nth
    rw [if_pos (by rw [ht]; omega), ht, List.getD_eq_getElem?_getD, List.getElem?_take, if_pos (by omega), List.getD_eq_getElem?_getD]
  unfold Mach.fault
  rw [if_pos hc0, g 1 (by decide), g 2 (by decide)]
  unfold less
  rw [ht, List.take_take, Nat.min_eq_left (by omega)]
  rfl
set_option maxHeartbeats 8000000 in
set_option maxRecDepth 100000 in
theorem fault_caught (h : Mc w B q ps gs pb gb pf vC vH ch vs vb vm m) (hB : B ≤ w.heap.size) (code : Int) (hc : caught m = true) :
    Calls Tryz.prog 121 #[.pointer (some ⟨q, 0, none⟩), .int .i64 code] w (DidM w B q ps gs pb gb pf vC vH ch vs vb vm (Mach.fault m code) (.tuple #[])) := by
  obtain ⟨hd, d, e1, e2, e3, e4, e5, e6⟩ := fault_steps hc code
  rw [e6]
  have hb := h.bk.fits
  have HH := Lib.hid h
  have HB := Lib.hid hB
  have L := Lib.hid (fun wc (n : Nat) (e : wc = w.drewN n) => by rw [e]; exact len_any (h.bk.touch (Stirred.drewN w n []) (fun _ _ => List.not_mem_nil)) : ∀ wc (n : Nat), wc = w.drewN n → Calls Tryz.prog 140 #[.pointer (some ⟨pb, 0, none⟩)] wc fun e w' => e = .returned (.int .i64 m.back.length) ∧ w' = wc)
  obtain ⟨n1, n2, n3⟩ := h.ptrs
  have c1 : w.cell? ⟨q, 1, none⟩ = some (.int .i64 m.handler) := whole_cell h.box rfl
  rw [e1] at c1
  have P := Lib.hid (fun (n : Nat) => peek_yes (h.bk.touch (Stirred.drewN w n []) (fun _ _ => List.not_mem_nil)) (m.back.length - hd) (d : Int) (by omega) (by rw [show m.back.length - 1 - (m.back.length - hd) = hd - 1 by omega]; exact e4))
  have HL := Lib.hid (show (m.back.take hd).length = hd by rw [List.length_take]; omega)
  obtain ⟨nb, hnb⟩ : ∃ n, m.back.length = n := ⟨_, rfl⟩
  rw [hnb] at hb L P e3
  obtain ⟨j, hj⟩ : ∃ j, nb - hd = j := ⟨_, rfl⟩
  rw [hj] at P
  have a1 : (nb : Int) - (hd : Int) = (j : Int) := by omega
  have a2 : (3 : Int) ≤ (hd : Int) := by omega
  have a3 : (0 : Int) ≤ (d : Int) := by omega
  have a4 : (d : Int) < 48 := by omega
  have HE := Lib.hid (And.intro hnb (And.intro e2 (And.intro e3 (And.intro e5 hb))))
  clear h hB hc e1 e4 e6 hnb hj e2 e3 e5
  go_enter Tryz.func121, Tryz.ntmps121
  go_wp2_with fail
  go_quiet ((first | (go_at_call 140; exact Calls.quiet_of_same (L.out _ _ rfl)) | (go_at_call 139; exact Calls.quiet_of (P.out _))))
  go_wp2_with fail
  have h0 := HH.out.touch (Stirred.drewN w nq []) (fun _ _ => List.not_mem_nil)
  refine (h0.cutB hd (by have := HE.out; omega)).mono ?_
  rintro e w1 ⟨rfl, hM, hS⟩
  rw [cutTo_less (by have := HE.out; omega)] at hM
  have HM := Lib.hid hM
  have HS := Lib.hid ((Stirred.drewN w nq _).trans hS (fun k hk => .inl hk))
  clear h0 hM hS n1 n2 n3 c1 L P HH
  obtain ⟨n1, n2, n3⟩ := HM.out.ptrs
  go_wp2_with fail
  refine (uncatch_any HM.out (Nat.le_trans HB.out HS.out.size) (by have := HE.out; have := HL.out; show 3 ≤ (m.back.take hd).length; omega)).mono ?_
  rintro e w2 ⟨rfl, hM, hS⟩
  have HM := Lib.hid hM
  have HS := Lib.hid (HS.out.trans hS (fun k hk => .inl hk))
  clear hM hS n1 n2 n3
  obtain ⟨n1, n2, n3⟩ := HM.out.ptrs
  have c0 : w2.cell? ⟨q, 0, none⟩ = some (.int .i64 m.ip) := whole_cell HM.out.box rfl
  have f0 : w2.frozen? ⟨q, 0, none⟩ = false := whole_frozen HM.out.box 0
  have HR := Lib.hid (HM.out.set' 0 (.int .i64 (nth (m.back.take hd) 2)) { m with handler := nth (m.back.take hd) 1, ip := nth (m.back.take hd) 2, back := less (m.back.take hd) 3 } rfl rfl rfl rfl)
  have HS := Lib.hid (HS.out.trans HR.out.2 (fun k hk => .inl hk))
  have C := Lib.hid (HR.out.1.cut d (by have := HE.out; omega))
  clear HM
  go_wp2_with fail
  refine C.out.mono ?_
  rintro e w3 ⟨rfl, hM, hS⟩
  have HM := Lib.hid hM
  have HS := Lib.hid (HS.out.trans hS (fun k hk => .inl hk))
  clear hM hS n1 n2 n3 c0 f0 HR C
  obtain ⟨n1, n2, n3⟩ := HM.out.ptrs
  obtain ⟨w4, g, hw4, hg, HRW, HB1, HG⟩ := row_box w3 [code]
  change w3.alloc (.cells #[.int .i64 code] 3) = w4 at hw4
  go_wp2_with fail
  clear hw4 hg
  refine ((HM.out.below HB1.out).push (rowV g 1) [code] (HRW.out.stays rfl (fun k hk => by rw [← HG.out]; exact (HM.out.feet_lt k hk).2)) (by show (cutTo m.stack d).length + 1 ≤ 48; rw [cutTo_length]; have := HE.out; omega)).mono ?_
  rintro e w5 ⟨rfl, hM, hS⟩
  have HM := Lib.hid hM
  have HS := Lib.hid ((HS.out.trans (Stirred.of_below HB1.out _) (fun k hk => .inl hk)).trans hS (fun k hk => .inl hk))
  clear hM hS n1 n2 n3
  go_wp2
  go_end0
  exact ⟨rfl, HM.out, HS.out⟩
theorem fault_any (h : Mc w B q ps gs pb gb pf vC vH ch vs vb vm m) (hB : B ≤ w.heap.size) (hi : Cell.In m.handler) (code : Int) :
    Calls Tryz.prog 121 #[.pointer (some ⟨q, 0, none⟩), .int .i64 code] w (DidM w B q ps gs pb gb pf vC vH ch vs vb vm (Mach.fault m code) (.tuple #[])) := by
  cases hc : caught m with
  | true => exact fault_caught h hB code hc
  | false =>
    have := fault_thrown h code hi hc
    unfold Mach.fault
    rw [if_neg (by rw [hc]; decide)]
    exact this
end
end Go.Proofs.YtcffbeihgchpgaaGreatDoor.Inn
/- Package inner: what became of a machine by an operation. -/
namespace Go.Proofs.YtcffbeihgchpgaaGreatDoor.Inn
open Go.RowKit Book Mem Mach
set_option linter.unusedVariables false
set_option linter.unusedSimpArgs false
/-- an operation that is done -/
def DoOk (w : World) (B q : Nat) (F : List Nat) (xb : Nat) (k g at' : Int) (vt vb : Value) (m1 : M) (gs gbl : List Int) (nx' : Int) (err : Value) (e : Ending) (w' : World) : Prop :=
  ∃ F' vgs vgb L, e = .returned err ∧ Mk w' B q F' m1 ∧ w'.heap[xb]? = some (.cells (cells8 k g at' nx' vt vb vgs vgb) 163 (0, 0)) ∧ Stirred w w' (xb :: F) ∧ (∀ f ∈ F', f ∈ F ∨ w.heap.size ≤ f) ∧
    Dep w' vgs gs L ∧ Dep w' vgb gbl L ∧ ∀ b ∈ L, b < w'.heap.size ∧ b ≠ xb ∧ b ∉ F'
/-- .. that can't be done -/
def DoErr (w : World) (B q : Nat) (F : List Nat) (xb : Nat) (m1 : M) (c at' : Int) (e : Ending) (w' : World) : Prop :=
  ∃ F', e = .returned (faultV c at') ∧ Mk w' B q F' m1 ∧ Stirred w w' (xb :: F) ∧ ∀ f ∈ F', f ∈ F ∨ w.heap.size ≤ f
section
variable {w w0 w1 w2 : World} {B q : Nat} {F F' : List Nat} {xb gt gb gl : Nat} {k g at' nx nx' c : Int} {vt vb : Value} {m m1 : M} {gs gbl xs : List Int} {err : Value}
theorem DoOk.of_x (hM : Mk w B q F m) (hx : xb ∉ F) (ht : gt ∉ F) (hb : gb ∉ F) {e : Ending} {w' : World} (h : XDid w xb k g at' vt vb gt gb err gs gbl nx' e w') : DoOk w B q F xb k g at' vt vb m gs gbl nx' err e w' := by
  obtain ⟨vgs, vgb, L, he, h1, h2, h3, h4, h5⟩ := h
  refine ⟨F, vgs, vgb, L, he, hM.touch h2 (fun f hf hm => hx (by rw [List.mem_singleton] at hm; exact hm ▸ hf)), h1, h2.more (fun f hf => by rw [List.mem_singleton.1 hf]; exact List.mem_cons_self), fun f hf => .inl hf, h3, h4, fun b hb' => ⟨(h5 b hb').1, (h5 b hb').2.1, fun hm => ?_⟩⟩
  rcases (h5 b hb').2.2 with rfl | rfl | e
  · exact ht hm
  · exact hb hm
  · have := (hM.lt b hm).2
    omega
theorem DoErr.of_x (hM : Mk w B q F m) (hx : xb ∉ F) {e : Ending} {w' : World} (h : XFault w c at' e w') : DoErr w B q F xb m c at' e w' := by
  obtain ⟨he, hs⟩ := h
  exact ⟨F, he, hM.touch hs (fun f hf hm => by cases hm), hs.more (fun f hf => by cases hf), fun f hf => .inl hf⟩
/-- a new row is given, to the stack -/
theorem ok_row4 (hM : Mk w0 B q F' m1) (h8 : w0.heap[xb]? = some (.cells (cells8 k g at' nx vt vb (.slice none 0 0) (.slice none 0 0)) 163 (0, 0))) (hx : xb ∉ F') (hs : Stirred w w0 (xb :: F)) (hF : ∀ f ∈ F', f ∈ F ∨ w.heap.size ≤ f)
    (hr : Row w1 gl gl xs) (hb : Below w0.heap.size w0 w1) (hg : w0.heap.size = gl) :
    DoOk w B q F xb k g at' vt vb m1 xs [] nx err (.returned err) (w1.setCell ⟨xb, 4, none⟩ (rowV gl xs.length)) := by
  have hne : gl ≠ xb := fun e => by have h1 := whole_lt h8; omega
  have ht := Stirred.setCell w1 ⟨xb, 4, none⟩ (rowV gl xs.length)
  have hr' := ht.whole hr.1 (by simpa using hne)
  have hgF : gl ∉ F' := fun hm => by have := (hM.lt gl hm).2; omega
  refine ⟨F', _, _, [gl], rfl, (hM.below hb).touch ht (fun f hf hm => hx (by rw [List.mem_singleton] at hm; exact (show f = xb from hm) ▸ hf)), (set8 ((Stirred.of_below hb []).whole h8 List.not_mem_nil)).2.1 _, (hs.trans (Stirred.of_below hb []) (fun _ h => by cases h)).trans ht (fun f hf => .inl (by rw [List.mem_singleton.1 hf]; exact List.mem_cons_self)), hF, Dep.row hr' rfl, Dep.nil _ _, fun b hb' => ?_⟩
  rw [List.mem_singleton] at hb'
  subst hb'
  exact ⟨whole_lt hr', hne, hgF⟩
/-- .. to the return stack; and the machine goes on elsewhere -/
theorem ok_row57 (hM : Mk w0 B q F' m1) (h8 : w0.heap[xb]? = some (.cells (cells8 k g at' nx vt vb (.slice none 0 0) (.slice none 0 0)) 163 (0, 0))) (hx : xb ∉ F') (hs : Stirred w w0 (xb :: F)) (hF : ∀ f ∈ F', f ∈ F ∨ w.heap.size ≤ f)
    (hr : Row w1 gl gl xs) (hb : Below w0.heap.size w0 w1) (hg : w0.heap.size = gl) :
    DoOk w B q F xb k g at' vt vb m1 [] xs nx' err (.returned err) ((w1.setCell ⟨xb, 5, none⟩ (rowV gl xs.length)).setCell ⟨xb, 7, none⟩ (.int .i64 nx')) := by
  have hne : gl ≠ xb := fun e => by have h1 := whole_lt h8; omega
  have ht := (Stirred.setCell w1 ⟨xb, 5, none⟩ (rowV gl xs.length)).trans (Stirred.setCell _ ⟨xb, 7, none⟩ (.int .i64 nx')) (fun f hf => .inl hf)
  have hr' := ht.whole hr.1 (by simpa using hne)
  have hgF : gl ∉ F' := fun hm => by have := (hM.lt gl hm).2; omega
  refine ⟨F', _, _, [gl], rfl, (hM.below hb).touch ht (fun f hf hm => hx (by rw [List.mem_singleton] at hm; exact (show f = xb from hm) ▸ hf)), (set8 ((set8 ((Stirred.of_below hb []).whole h8 List.not_mem_nil)).2.2 _)).1 _, (hs.trans (Stirred.of_below hb []) (fun _ h => by cases h)).trans ht (fun f hf => .inl (by rw [List.mem_singleton.1 hf]; exact List.mem_cons_self)), hF, Dep.nil _ _, Dep.row hr' rfl, fun b hb' => ?_⟩
  rw [List.mem_singleton] at hb'
  subst hb'
  exact ⟨whole_lt hr', hne, hgF⟩
/-- nothing is given -/
theorem ok_none {w' : World} (hM : Mk w' B q F' m1) (h8 : w'.heap[xb]? = some (.cells (cells8 k g at' nx' vt vb (.slice none 0 0) (.slice none 0 0)) 163 (0, 0))) (hs : Stirred w w' (xb :: F)) (hF : ∀ f ∈ F', f ∈ F ∨ w.heap.size ≤ f) :
    DoOk w B q F xb k g at' vt vb m1 [] [] nx' err (.returned err) w' :=
  ⟨F', _, _, [], rfl, hM, h8, hs, hF, Dep.nil _ _, Dep.nil _ _, fun b hb => by cases hb⟩
end
/-- a machine, and an operation that is to be done -/
structure Pre (w : World) (B q ps gs pb gb pf : Nat) (vC vH : Value) (ch : List Int) (vs vb vm : Value) (m : M) (xb : Nat) (k g at' nx : Int) (gt gk : Nat) (ts tb : List Int) : Prop where
  mc : Mc w B q ps gs pb gb pf vC vH ch vs vb vm m
  x : X8 w xb k g at' nx gt gk ts tb
  nx : xb ∉ feet q ps gs pb gb pf vC vH
  nt : gt ∉ feet q ps gs pb gb pf vC vH
  nk : gk ∉ feet q ps gs pb gb pf vC vH
section
variable {w w' : World} {B q ps gs pb gb pf : Nat} {vC vH : Value} {ch : List Int} {vs vb vm : Value} {m : M} {xb : Nat} {k g at' nx : Int} {gt gk : Nat} {ts tb : List Int}
theorem Pre.below (h : Pre w B q ps gs pb gb pf vC vH ch vs vb vm m xb k g at' nx gt gk ts tb) (hb : Below w.heap.size w w') : Pre w' B q ps gs pb gb pf vC vH ch vs vb vm m xb k g at' nx gt gk ts tb := ⟨h.mc.below hb, h.x.below hb, h.nx, h.nt, h.nk⟩
theorem Pre.drewN (h : Pre w B q ps gs pb gb pf vC vH ch vs vb vm m xb k g at' nx gt gk ts tb) (n : Nat) : Pre (w.drewN n) B q ps gs pb gb pf vC vH ch vs vb vm m xb k g at' nx gt gk ts tb :=
  ⟨h.mc.touch (Stirred.drewN w n []) (fun _ _ => List.not_mem_nil), h.x.drewN n, h.nx, h.nt, h.nk⟩
theorem Pre.qx (h : Pre w B q ps gs pb gb pf vC vH ch vs vb vm m xb k g at' nx gt gk ts tb) : q ≠ xb := fun e => h.nx (e ▸ feet_q)
/-- a cell of the machine's box is written -/
theorem Pre.set (h : Pre w B q ps gs pb gb pf vC vH ch vs vb vm m xb k g at' nx gt gk ts tb) (j : Nat) (v : Value) (m' : M) (e : cells13 m' vs vb vm ps pb pf = (cells13 m vs vb vm ps pb pf).setIfInBounds j v) (e1 : m'.stack = m.stack) (e2 : m'.back = m.back) (e3 : m'.mem = m.mem) :
    Pre (w.setCell ⟨q, j, none⟩ v) B q ps gs pb gb pf vC vH ch vs vb vm m' xb k g at' nx gt gk ts tb :=
  have hq : ∀ {z : Nat}, z ∉ feet q ps gs pb gb pf vC vH → z ∉ [q] := fun hz hm => hz (by rw [List.mem_singleton.1 hm]; exact feet_q)
  ⟨h.mc.set j v m' e e1 e2 e3, h.x.touch (Stirred.setCell w ⟨q, j, none⟩ v) (hq h.nx) (hq h.nt) (hq h.nk), h.nx, h.nt, h.nk⟩
/-- the machine's box, cell by cell -/
theorem Mc.cells (h : Mc w B q ps gs pb gb pf vC vH ch vs vb vm m) : w.cell? ⟨q, 0, none⟩ = some (.int .i64 m.ip) ∧ w.cell? ⟨q, 1, none⟩ = some (.int .i64 m.handler) ∧ w.cell? ⟨q, 5, none⟩ = some (.string m.out) ∧ w.cell? ⟨q, 6, none⟩ = some (.string m.inp) ∧
    w.cell? ⟨q, 7, none⟩ = some (.int .i64 m.read) ∧ w.cell? ⟨q, 8, none⟩ = some (.int .i64 m.status) ∧ w.cell? ⟨q, 9, none⟩ = some (.int .i64 m.code) :=
  ⟨whole_cell h.box rfl, whole_cell h.box rfl, whole_cell h.box rfl, whole_cell h.box rfl, whole_cell h.box rfl, whole_cell h.box rfl, whole_cell h.box rfl⟩
theorem stir_drewN (w : World) (n : Nat) (D : List Nat) : Stirred w (w.drewN n) D := Stirred.drewN w n D
theorem stir_more {D : List Nat} (hs : Stirred w w' D) {x : Nat} : Stirred w w' (x :: D) := hs.more (fun k hk => List.mem_cons_of_mem _ hk)
end
end Go.Proofs.YtcffbeihgchpgaaGreatDoor.Inn
/- Package inner: which function does an operation. -/
namespace Go.Proofs.YtcffbeihgchpgaaGreatDoor.Inn
open Go.RowKit Book Mem Mach
set_option linter.unusedVariables false
set_option linter.unusedSimpArgs false
section
variable {w : World} {q xb : Nat} {P : Ending → World → Prop}
set_option maxHeartbeats 8000000 in
set_option maxRecDepth 100000 in
theorem do_ctl {k : Int} (hk : k = 0 ∨ k = 44 ∨ k = 45 ∨ k = 46 ∨ k = 1) (c0 : w.cell? ⟨xb, 0, none⟩ = some (.int .i64 k)) (C : Hid (Calls Tryz.prog 162 #[.pointer (some ⟨q, 0, none⟩), .pointer (some ⟨xb, 0, none⟩)] w fun e w' => ∃ v, e = .returned v ∧ (v = .nilIface ∨ ∃ c a, v = faultV c a) ∧ P (.returned v) w')) :
    Calls Tryz.prog 152 #[.pointer (some ⟨q, 0, none⟩), .pointer (some ⟨xb, 0, none⟩)] w P := by
  rcases hk with rfl | rfl | rfl | rfl | rfl
  all_goals
    go_enter Tryz.func152, Tryz.ntmps152
    go_wp2_with fail
    refine C.out.mono ?_
    rintro e w1 ⟨v, rfl, hv, hp⟩
    have HP := Lib.hid hp
    clear hp
    rcases hv with rfl | ⟨c, a, rfl⟩
    · go_wp2
      first | exact HP.out | (go_ret; exact HP.out)
    · go_wp2
      first | exact HP.out | (go_ret; exact HP.out)
set_option maxHeartbeats 8000000 in
set_option maxRecDepth 100000 in
theorem do_rem {k : Int} (hk : k = 30 ∨ k = 31 ∨ k = 32) (c0 : w.cell? ⟨xb, 0, none⟩ = some (.int .i64 k)) (C : Hid (Calls Tryz.prog 163 #[.pointer (some ⟨q, 0, none⟩), .pointer (some ⟨xb, 0, none⟩)] w fun e w' => ∃ v, e = .returned v ∧ (v = .nilIface ∨ ∃ c a, v = faultV c a) ∧ P (.returned v) w')) :
    Calls Tryz.prog 152 #[.pointer (some ⟨q, 0, none⟩), .pointer (some ⟨xb, 0, none⟩)] w P := by
  rcases hk with rfl | rfl | rfl
  all_goals
    go_enter Tryz.func152, Tryz.ntmps152
    go_wp2_with fail
    refine C.out.mono ?_
    rintro e w1 ⟨v, rfl, hv, hp⟩
    have HP := Lib.hid hp
    clear hp
    rcases hv with rfl | ⟨c, a, rfl⟩
    · go_wp2
      first | exact HP.out | (go_ret; exact HP.out)
    · go_wp2
      first | exact HP.out | (go_ret; exact HP.out)
set_option maxHeartbeats 8000000 in
set_option maxRecDepth 100000 in
theorem do_say {k : Int} (hk : k = 41 ∨ k = 42) (c0 : w.cell? ⟨xb, 0, none⟩ = some (.int .i64 k)) (C : Hid (Calls Tryz.prog 164 #[.pointer (some ⟨q, 0, none⟩), .pointer (some ⟨xb, 0, none⟩)] w fun e w' => ∃ v, e = .returned v ∧ (v = .nilIface ∨ ∃ c a, v = faultV c a) ∧ P (.returned v) w')) :
    Calls Tryz.prog 152 #[.pointer (some ⟨q, 0, none⟩), .pointer (some ⟨xb, 0, none⟩)] w P := by
  rcases hk with rfl | rfl
  all_goals
    go_enter Tryz.func152, Tryz.ntmps152
    go_wp2_with fail
    refine C.out.mono ?_
    rintro e w1 ⟨v, rfl, hv, hp⟩
    have HP := Lib.hid hp
    clear hp
    rcases hv with rfl | ⟨c, a, rfl⟩
    · go_wp2
      first | exact HP.out | (go_ret; exact HP.out)
    · go_wp2
      first | exact HP.out | (go_ret; exact HP.out)
set_option maxHeartbeats 8000000 in
set_option maxRecDepth 100000 in
theorem do_ask {k : Int} (hk : k = 43) (c0 : w.cell? ⟨xb, 0, none⟩ = some (.int .i64 k)) (C : Hid (Calls Tryz.prog 165 #[.pointer (some ⟨q, 0, none⟩), .pointer (some ⟨xb, 0, none⟩)] w fun e w' => e = .returned (.tuple #[]) ∧ P (.returned .nilIface) w')) :
    Calls Tryz.prog 152 #[.pointer (some ⟨q, 0, none⟩), .pointer (some ⟨xb, 0, none⟩)] w P := by
  rcases hk with rfl
  all_goals
    go_enter Tryz.func152, Tryz.ntmps152
    go_wp2_with fail
    refine C.out.mono ?_
    rintro e w1 ⟨rfl, hp⟩
    have HP := Lib.hid hp
    clear hp
    go_wp2
    first | exact HP.out | (go_ret; exact HP.out)
set_option maxHeartbeats 8000000 in
set_option maxRecDepth 100000 in
theorem do_turn {k : Int} (hk : k = 5 ∨ k = 3 ∨ k = 4 ∨ k = 37 ∨ k = 38) (c0 : w.cell? ⟨xb, 0, none⟩ = some (.int .i64 k)) (C : Hid (Calls Tryz.prog 166 #[.pointer (some ⟨xb, 0, none⟩)] w fun e w' => e = .returned (.tuple #[]) ∧ P (.returned .nilIface) w')) :
    Calls Tryz.prog 152 #[.pointer (some ⟨q, 0, none⟩), .pointer (some ⟨xb, 0, none⟩)] w P := by
  rcases hk with rfl | rfl | rfl | rfl | rfl
  all_goals
    go_enter Tryz.func152, Tryz.ntmps152
    go_wp2_with fail
    refine C.out.mono ?_
    rintro e w1 ⟨rfl, hp⟩
    have HP := Lib.hid hp
    clear hp
    go_wp2
    first | exact HP.out | (go_ret; exact HP.out)
set_option maxHeartbeats 8000000 in
set_option maxRecDepth 100000 in
theorem do_move {k : Int} (hk : k = 47 ∨ k = 2 ∨ k = 6 ∨ k = 7 ∨ k = 8 ∨ k = 9 ∨ k = 10 ∨ k = 33 ∨ k = 34 ∨ k = 35 ∨ k = 36 ∨ k = 39 ∨ k = 40) (c0 : w.cell? ⟨xb, 0, none⟩ = some (.int .i64 k)) (C : Hid (Calls Tryz.prog 167 #[.pointer (some ⟨xb, 0, none⟩)] w fun e w' => e = .returned (.tuple #[]) ∧ P (.returned .nilIface) w')) :
    Calls Tryz.prog 152 #[.pointer (some ⟨q, 0, none⟩), .pointer (some ⟨xb, 0, none⟩)] w P := by
  rcases hk with rfl | rfl | rfl | rfl | rfl | rfl | rfl | rfl | rfl | rfl | rfl | rfl | rfl
  all_goals
    go_enter Tryz.func152, Tryz.ntmps152
    go_wp2_with fail
    refine C.out.mono ?_
    rintro e w1 ⟨rfl, hp⟩
    have HP := Lib.hid hp
    clear hp
    go_wp2
    first | exact HP.out | (go_ret; exact HP.out)
set_option maxHeartbeats 8000000 in
set_option maxRecDepth 100000 in
theorem do_reckon1 {k : Int} (hk : k = 11 ∨ k = 12 ∨ k = 13 ∨ k = 14 ∨ k = 15 ∨ k = 16 ∨ k = 17 ∨ k = 18 ∨ k = 19 ∨ k = 20) (c0 : w.cell? ⟨xb, 0, none⟩ = some (.int .i64 k)) (C : Hid (Calls Tryz.prog 168 #[.pointer (some ⟨xb, 0, none⟩)] w fun e w' => ∃ v, e = .returned v ∧ (v = .nilIface ∨ ∃ c a, v = faultV c a) ∧ P (.returned v) w')) :
    Calls Tryz.prog 152 #[.pointer (some ⟨q, 0, none⟩), .pointer (some ⟨xb, 0, none⟩)] w P := by
  rcases hk with rfl | rfl | rfl | rfl | rfl | rfl | rfl | rfl | rfl | rfl
  all_goals
    go_enter Tryz.func152, Tryz.ntmps152
    go_wp2_with fail
    refine C.out.mono ?_
    rintro e w1 ⟨v, rfl, hv, hp⟩
    have HP := Lib.hid hp
    clear hp
    rcases hv with rfl | ⟨c, a, rfl⟩
    · go_wp2
      first | exact HP.out | (go_ret; exact HP.out)
    · go_wp2
      first | exact HP.out | (go_ret; exact HP.out)
set_option maxHeartbeats 8000000 in
set_option maxRecDepth 100000 in
theorem do_reckon2 {k : Int} (hk : k = 21 ∨ k = 22 ∨ k = 23 ∨ k = 24 ∨ k = 25 ∨ k = 26 ∨ k = 27 ∨ k = 28 ∨ k = 29) (c0 : w.cell? ⟨xb, 0, none⟩ = some (.int .i64 k)) (C : Hid (Calls Tryz.prog 168 #[.pointer (some ⟨xb, 0, none⟩)] w fun e w' => ∃ v, e = .returned v ∧ (v = .nilIface ∨ ∃ c a, v = faultV c a) ∧ P (.returned v) w')) :
    Calls Tryz.prog 152 #[.pointer (some ⟨q, 0, none⟩), .pointer (some ⟨xb, 0, none⟩)] w P := by
  rcases hk with rfl | rfl | rfl | rfl | rfl | rfl | rfl | rfl | rfl
  all_goals
    go_enter Tryz.func152, Tryz.ntmps152
    go_wp2_with fail
    refine C.out.mono ?_
    rintro e w1 ⟨v, rfl, hv, hp⟩
    have HP := Lib.hid hp
    clear hp
    rcases hv with rfl | ⟨c, a, rfl⟩
    · go_wp2
      first | exact HP.out | (go_ret; exact HP.out)
    · go_wp2
      first | exact HP.out | (go_ret; exact HP.out)
end
end Go.Proofs.YtcffbeihgchpgaaGreatDoor.Inn
