/- The walks of package fault, third part: errors.As at **seen; find at both types. -/
import Derived.Test.YtlomfmilohbgpaaGreatDoorFaultWalks2
import Derived.Test.YtlomfmilohbgpaaGreatDoorFaultWalks
import Derived.OwnWalk
import Derived.Test.YtlomfmilohbgpaaGreatDoorInnStep
import Derived.Test.YtlomfmilohbgpaaGreatDoorInnMove
import Derived.Test.YtlomfmilohbgpaaGreatDoorCellWalks
import Derived.Test.YtlomfmilohbgpaaGreatDoorInnDid
import Derived.RowKit
import Derived.Lib.ItoaNum
import Derived.Lib.Case
import Derived.WalkKit
import Derived.Test.YtlomfmilohbgpaaGreatDoorRows
import Derived.WalkSpells
import Derived.WalkLawsBesides
import Derived.Lib.Hide
import Derived.Lib.Strings
import Derived.Test.YtlomfmilohbgpaaGreatDoorShelf
import Derived.Laws.BitsAllLaws
import Derived.Lib.LaidTab
import Derived.Lib.TrailingZeros
import Derived.Laws.BytesArg
import Derived.Lib.ItoaMem
import Derived.Deep.LoopGhost
import Derived.Deep.DeepCutAuto
namespace Go.Proofs.YtlomfmilohbgpaaGreatDoor
open Go.RowKit Go.Extern.Stop Go.Stop Go.Extern
set_option linter.unusedSimpArgs false
set_option linter.unusedVariables false

theorem hmf (fn : Fn) (first cap : Array Value) (w : World) : (Instr.makeFunc fn first cap).run Tryz.prog w = .ok (.func fn first cap) w := rfl
theorem idle_f (p q : Addr) (w : World) :
    CallsD Tryz.prog 82 #[.pointer (some p), .pointer (some q)] .returning w fun e u' w' => e = .returned (.tuple #[]) ∧ u' = .returning ∧ w' = w := by
  refine callsD_of_wpS Tryz.func82 rfl fun c₀ cs hu => ?_
  apply wpS_seq
  apply wpS_region
  simp [wpOpsS, go_sem, recoverD, hu, Tryz.ntmps82, Exit.thenS]
  refine wpS_cond (t := false) (by simp [Act.eval, Array.replicate]) ?_
  simp only [Bool.false_eq_true, if_false]
  refine wpS_of_wp (wp_skip ?_)
  cases c₀
  simp_all [bodyPostS, results, Tryz.results82]
set_option maxHeartbeats 2000000 in
theorem find_f (ws : List ByteArray) (v : Value) (c i : Int) (w : World) (hch : Chain w c i ws v) (hg : ErrorType w) :
    Calls Tryz.prog 70 #[v] w fun e w' => e = .returned (.tuple #[.agg #[.int .i64 c, .int .i64 i], .bool true]) ∧ Below w.heap.size w w' := by
  have mf := hmf
  have C := As_f ws v c i w.heap.size (.int .i64 0) (.int .i64 0) ((w.alloc (.cells #[.int .i64 0, .int .i64 0] 110)).alloc (.cells #[.bool false] 4)) hch.alloc.alloc
    ((hg.mono ((Below.refl _ _).alloc (Nat.le_refl _) _)).mono ((Below.refl _ _).alloc (Nat.le_refl _) _)) (by simp; omega) (by simp) (by simp) (by simp) (by simp)
  have C' := Lib.hid C
  clear C hg hch
  go_enter_defers Tryz.func70, Tryz.ntmps70
  go_wp2_with (go_at_call 83; refine C'.out.mono ?_; rintro e w' ⟨rfl, rfl⟩)
  go_region
  go_wp2
  refine leaves_cons (f := 82) (args := #[.pointer (some ⟨w.heap.size, 0, none⟩), .pointer (some ⟨w.heap.size + 1, 0, none⟩)]) (by simp) (by simp [go_sem]) ?_
  refine (idle_f _ _ _).mono ?_
  rintro e u' w'' ⟨rfl, rfl, rfl⟩
  simp [Leaves, settle, results, Tryz.results70, go_sem]
  exact ((((((((Below.refl _ _).alloc (Nat.le_refl _) _).alloc (by simp) _).alloc (by simp; omega) _).alloc (by simp; omega) _).alloc (by simp; omega) _).alloc (by simp; omega) _)).drew
end Go.Proofs.YtlomfmilohbgpaaGreatDoor
/- The walks of package fault: errors.Is of a fault and a kind. -/
namespace Go.Proofs.YtlomfmilohbgpaaGreatDoor
open Go.RowKit Go.Extern.Stop Go.Stop Go.Extern
set_option linter.unusedSimpArgs false
set_option linter.unusedVariables false
/-- '==' of two interface values that hold numbers of one integer type -/
theorem eql_ints {P : Program} {ti tn : TypeId} {ms : Array (String × TypeId)} {i : TypeInfo} {k : IntKind} (a b : Int)
    (hi : P.underlying ti = some (.interface ms)) (hn : P.underlying tn = some (.int k)) (hinfo : P.info? tn = some i) (hcomp : i.comparable = true) (w : World) :
    (binOp .eql ti (.iface tn (.int k a)) (.iface tn (.int k b))).run P w = .ok (.bool (a == b)) w := by
  have h : ∀ d, (Op.equalIn (d + 2) ti (.iface tn (.int k a)) (.iface tn (.int k b))).run P w = .ok (a == b) w := fun d => by
    simp [Op.equalIn, run_underlying hi, run_underlying hn, typeInfo, hinfo, hcomp]
  simp only [binOp]
  simp [Op.equal, Op.maxDepth, h 9998]
end Go.Proofs.YtlomfmilohbgpaaGreatDoor
/- The walks of package fault: Code, Where, Is, Words. -/
namespace Go.Proofs.YtlomfmilohbgpaaGreatDoor
open Go.RowKit Go.Extern.Stop Go.Stop Go.Extern
set_option linter.unusedSimpArgs false
set_option linter.unusedVariables false

theorem bcell {W w1 : World} (hb : Below W.heap.size W w1) : (∀ b o, b < W.heap.size → w1.cell? ⟨b, o, none⟩ = W.cell? ⟨b, o, none⟩) ∧ (∀ b o, b < W.heap.size → w1.frozen? ⟨b, o, none⟩ = W.frozen? ⟨b, o, none⟩) :=
  ⟨fun b o h => hb.cell (p := ⟨b, o, none⟩) h, fun b o h => hb.frozen (p := ⟨b, o, none⟩) h⟩
set_option maxHeartbeats 1000000 in
theorem code_any (ws : List ByteArray) (v : Value) (c i : Int) (w : World) (hch : Chain w c i ws v) (hg : ErrorType w) :
    Calls Tryz.prog 49 #[v] w fun e w' => e = .returned (.int .i64 c) ∧ Below w.heap.size w w' := by
  have C := Lib.hid (find_f ws v c i w hch hg)
  clear hch hg
  go_enter Tryz.func49, Tryz.ntmps49
  go_wp2_with (go_at_call 70; refine C.out.mono ?_; rintro e w1 ⟨rfl, hb⟩)
  go_ret
  exact ⟨rfl, hb.alloc hb.size _⟩
theorem ownsRow_below {w w' : World} {base B : Nat} {e : TypeId} {size : Nat} {v : Value} {n : Nat} {xs : List Value} (h : w.ownsRow base e size v n xs) (hb : Below w.heap.size w w') : w'.ownsRow base e size v n xs := by
  refine ⟨h.1, ?_⟩
  rcases h.2 with h2 | ⟨g, cap, cur, h1, h2, h3, h4⟩
  · exact .inl h2
  · have hg : g < w.heap.size := by
      rcases Nat.lt_or_ge g w.heap.size with h0 | h0
      · exact h0
      · rw [Array.getElem?_eq_none h0] at h3; cases h3
    exact .inr ⟨g, cap, cur, h1, h2, by rw [hb.block g hg]; exact h3, h4⟩
theorem Tryz.infoString : (Tryz.prog.info? 9).map (fun i => (i.zero, i.size, i.bytes)) = some (some (.string ⟨#[]⟩), 1, 16) := by kernel_rfl
/-- what 'Words' hands back: a slice of its own of just these words -/
def IsTexts (B : Nat) (w : World) (ws : List ByteArray) (s : Value) : Prop := w.ownsRow B 9 1 s ws.length (ws.map Value.string)
def WordsPost (ws : List ByteArray) (w : World) (e : Ending) (w' : World) : Prop := ∃ s, e = .returned s ∧ IsTexts w.heap.size w' ws s ∧ Below w.heap.size w w'
end Go.Proofs.YtlomfmilohbgpaaGreatDoor
/- Package inner: numbers are reckoned; the fault of an operation. -/
namespace Go.Proofs.YtlomfmilohbgpaaGreatDoor.Inn
open Go.RowKit Book Mem Mach
set_option linter.unusedVariables false
set_option linter.unusedSimpArgs false
section
variable {w : World} {xb : Nat} {g at' nx : Int} {gt gb : Nat} {p q r x y z : Int}
theorem xfault_some {vt vb vgs vgb : Value} {k : Int} (h : w.heap[xb]? = some (.cells (cells8 k g at' nx vt vb vgs vgb) 103 (0, 0))) (c : Int) (hc : (c == 0) = false) :
    Calls Tryz.prog 76 #[.pointer (some ⟨xb, 0, none⟩), .int .i64 c] w fun e w' => e = .returned (faultV c at') ∧ w' = w := by
  have c6 : w.cell? ⟨xb, 6, none⟩ = some (.int .i64 at') := whole_cell h rfl
  clear h
  go_enter Tryz.func76, Tryz.ntmps76
  go_wp2_with (go_at_call 60; refine (new_some c at' hc _).mono ?_; rintro e w2 ⟨rfl, rfl⟩)
  go_ret
  exact ⟨rfl, rfl⟩
theorem xfault_zero {vt vb vgs vgb : Value} {k : Int} (h : w.heap[xb]? = some (.cells (cells8 k g at' nx vt vb vgs vgb) 103 (0, 0))) :
    Calls Tryz.prog 76 #[.pointer (some ⟨xb, 0, none⟩), .int .i64 0] w fun e w' => e = .returned .nilIface ∧ w' = w := by
  have c6 : w.cell? ⟨xb, 6, none⟩ = some (.int .i64 at') := whole_cell h rfl
  clear h
  go_enter Tryz.func76, Tryz.ntmps76
  go_wp2_with (go_at_call 60; refine (new_zero at' _).mono ?_; rintro e w2 ⟨rfl, rfl⟩)
  go_ret
  exact ⟨rfl, rfl⟩
/-- nothing but a fault -/
def XFault (w : World) (c at' : Int) (e : Ending) (w' : World) : Prop := e = .returned (faultV c at') ∧ Stirred w w' []
set_option maxHeartbeats 8000000 in
set_option maxRecDepth 100000 in
theorem reckon_one {k : Int} (h : X8 w xb k g at' nx gt gb [p] []) (h1 : (Cell.one k p).2 = true) (ip : Cell.In p) : Calls Tryz.prog 94 #[.pointer (some ⟨xb, 0, none⟩)] w (XDid w xb k g at' (rowV gt 1) (rowV gb 0) gt gb (.nilIface) [(Cell.one k p).1] [] nx) := by
  have HX := Lib.hid h
  obtain ⟨c0, c1, c2, c3, c4, c5, c6, c7⟩ := h.cells
  obtain ⟨f4, f5, f7⟩ := h.free
  have k0 := h.st (j := 0) (x := p) rfl
  have c2' : w.cell? ⟨xb, 2, none⟩ = some (rowV gt 1) := c2
  have C := Lib.hid (fun w => Cell.one_any k p ip w)
  generalize hv : Cell.one k p = tv at C h1 ⊢
  obtain ⟨v, bo⟩ := tv
  simp only at h1 ⊢
  subst h1
  clear h hv
  go_enter Tryz.func94, Tryz.ntmps94
  go_wp2_with fail
  go_quiet (fail)
  have HX := Lib.hid (HX.out.drewN nq)
  have HSQ := Lib.hid (Stirred.drewN w nq [])
  go_wp2_with fail
  refine (C.out _).mono ?_
  rintro e wz ⟨rfl, n1, hq⟩
  have HX := Lib.hid (show X8 wz xb k g at' nx gt gb [p] [] by rw [hq]; exact HX.out.drewN n1)
  have HSQ := Lib.hid (show Stirred w wz [] by rw [hq]; exact HSQ.out.trans (Stirred.drewN _ n1 []) (fun k hk => .inl hk))
  clear hq
  obtain ⟨c0, c1, c2, c3, c4, c5, c6, c7⟩ := HX.out.cells
  obtain ⟨f4, f5, f7⟩ := HX.out.free
  obtain ⟨w1, gl, hw1, hgl, HRW, HB1, HG⟩ := row_box wz [v]
  change wz.alloc (.cells #[.int .i64 v] 3) = w1 at hw1
  have HX1 := Lib.hid (HX.out.below HB1.out)
  have c4' := HX1.out.cells.2.2.2.2.1
  have f4' := HX1.out.free.1
  have HR := Lib.hid ((set8 HX1.out.box).2.1 (rowV gl 1))
  go_wp2
  go_ret
  exact given_new HX.out.box HRW.out.1 HG.out (HSQ.out.more (fun k hk => by cases hk)) HB1.out HR.out
set_option maxHeartbeats 8000000 in
set_option maxRecDepth 100000 in
theorem reckon_two {k : Int} (h : X8 w xb k g at' nx gt gb [q, p] []) (h1 : (Cell.one k q).2 = false) (h2 : (Cell.two k q p).2 = true) (iq : Cell.In q) (ip : Cell.In p) : Calls Tryz.prog 94 #[.pointer (some ⟨xb, 0, none⟩)] w (XDid w xb k g at' (rowV gt 2) (rowV gb 0) gt gb (.nilIface) [(Cell.two k q p).1] [] nx) := by
  have HX := Lib.hid h
  obtain ⟨c0, c1, c2, c3, c4, c5, c6, c7⟩ := h.cells
  obtain ⟨f4, f5, f7⟩ := h.free
  have k0 := h.st (j := 0) (x := q) rfl
  have k1 := h.st (j := 1) (x := p) rfl
  have c2' : w.cell? ⟨xb, 2, none⟩ = some (rowV gt 2) := c2
  have C := Lib.hid (fun w => Cell.one_any k q iq w)
  have D := Lib.hid (fun w => Cell.two_any k q p ip w)
  generalize hv : Cell.one k q = tv at C h1
  obtain ⟨v0, b0⟩ := tv
  generalize hv2 : Cell.two k q p = tv2 at D h2 ⊢
  obtain ⟨v, bo⟩ := tv2
  simp only at h1 h2 ⊢
  subst h1
  subst h2
  clear h hv hv2
  go_enter Tryz.func94, Tryz.ntmps94
  go_wp2_with fail
  go_quiet (fail)
  have HX := Lib.hid (HX.out.drewN nq)
  have HSQ := Lib.hid (Stirred.drewN w nq [])
  go_wp2_with fail
  refine (C.out _).mono ?_
  rintro e wz ⟨rfl, n1, hq⟩
  have HX := Lib.hid (show X8 wz xb k g at' nx gt gb [q, p] [] by rw [hq]; exact HX.out.drewN n1)
  have HSQ := Lib.hid (show Stirred w wz [] by rw [hq]; exact HSQ.out.trans (Stirred.drewN _ n1 []) (fun k hk => .inl hk))
  clear hq
  obtain ⟨c0, c1, c2, c3, c4, c5, c6, c7⟩ := HX.out.cells
  obtain ⟨f4, f5, f7⟩ := HX.out.free
  go_wp2_with fail
  refine (D.out _).mono ?_
  rintro e wy ⟨rfl, n2, hq⟩
  have HX := Lib.hid (show X8 wy xb k g at' nx gt gb [q, p] [] by rw [hq]; exact HX.out.drewN n2)
  have HSQ := Lib.hid (show Stirred w wy [] by rw [hq]; exact HSQ.out.trans (Stirred.drewN _ n2 []) (fun k hk => .inl hk))
  clear hq
  obtain ⟨c0, c1, c2, c3, c4, c5, c6, c7⟩ := HX.out.cells
  obtain ⟨f4, f5, f7⟩ := HX.out.free
  obtain ⟨w1, gl, hw1, hgl, HRW, HB1, HG⟩ := row_box wy [v]
  change wy.alloc (.cells #[.int .i64 v] 3) = w1 at hw1
  have HX1 := Lib.hid (HX.out.below HB1.out)
  have c4' := HX1.out.cells.2.2.2.2.1
  have f4' := HX1.out.free.1
  have HR := Lib.hid ((set8 HX1.out.box).2.1 (rowV gl 1))
  go_wp2
  go_ret
  exact given_new HX.out.box HRW.out.1 HG.out (HSQ.out.more (fun k hk => by cases hk)) HB1.out HR.out
set_option maxHeartbeats 8000000 in
set_option maxRecDepth 100000 in
theorem reckon_zero {k : Int} (h : X8 w xb k g at' nx gt gb [q, p] []) (h1 : (Cell.one k q).2 = false) (h2 : (Cell.two k q p).2 = false) (iq : Cell.In q) (ip : Cell.In p) : Calls Tryz.prog 94 #[.pointer (some ⟨xb, 0, none⟩)] w (XFault w (-10) at') := by
  have HX := Lib.hid h
  obtain ⟨c0, c1, c2, c3, c4, c5, c6, c7⟩ := h.cells
  obtain ⟨f4, f5, f7⟩ := h.free
  have k0 := h.st (j := 0) (x := q) rfl
  have k1 := h.st (j := 1) (x := p) rfl
  have c2' : w.cell? ⟨xb, 2, none⟩ = some (rowV gt 2) := c2
  have C := Lib.hid (fun w => Cell.one_any k q iq w)
  have D := Lib.hid (fun w => Cell.two_any k q p ip w)
  generalize hv : Cell.one k q = tv at C h1
  obtain ⟨v0, b0⟩ := tv
  generalize hv2 : Cell.two k q p = tv2 at D h2 ⊢
  obtain ⟨v, bo⟩ := tv2
  simp only at h1 h2 ⊢
  subst h1
  subst h2
  clear h hv hv2
  go_enter Tryz.func94, Tryz.ntmps94
  go_wp2_with fail
  go_quiet (fail)
  have HX := Lib.hid (HX.out.drewN nq)
  have HSQ := Lib.hid (Stirred.drewN w nq [])
  go_wp2_with fail
  refine (C.out _).mono ?_
  rintro e wz ⟨rfl, n1, hq⟩
  have HX := Lib.hid (show X8 wz xb k g at' nx gt gb [q, p] [] by rw [hq]; exact HX.out.drewN n1)
  have HSQ := Lib.hid (show Stirred w wz [] by rw [hq]; exact HSQ.out.trans (Stirred.drewN _ n1 []) (fun k hk => .inl hk))
  clear hq
  obtain ⟨c0, c1, c2, c3, c4, c5, c6, c7⟩ := HX.out.cells
  obtain ⟨f4, f5, f7⟩ := HX.out.free
  go_wp2_with fail
  refine (D.out _).mono ?_
  rintro e wy ⟨rfl, n2, hq⟩
  have HX := Lib.hid (show X8 wy xb k g at' nx gt gb [q, p] [] by rw [hq]; exact HX.out.drewN n2)
  have HSQ := Lib.hid (show Stirred w wy [] by rw [hq]; exact HSQ.out.trans (Stirred.drewN _ n2 []) (fun k hk => .inl hk))
  clear hq
  obtain ⟨c0, c1, c2, c3, c4, c5, c6, c7⟩ := HX.out.cells
  obtain ⟨f4, f5, f7⟩ := HX.out.free
  have F := Lib.hid (xfault_some HX.out.box (-10) (by decide))
  go_wp2_with fail
  refine F.out.mono ?_
  rintro e wz ⟨rfl, hwz⟩
  subst wz
  go_wp2
  go_ret
  exact ⟨rfl, HSQ.out⟩
end
end Go.Proofs.YtlomfmilohbgpaaGreatDoor.Inn
/- Package inner: a fault goes on behind the nearest Catch, or the machine is thrown; a word is called. -/
namespace Go.Proofs.YtlomfmilohbgpaaGreatDoor.Inn
open Go.RowKit Book Mem Mach
set_option linter.unusedVariables false
set_option linter.unusedSimpArgs false
section
variable {w : World} {B q ps gs pb gb pf : Nat} {vC vH : Value} {ch : List Int} {vs vb vm : Value} {m : M}
set_option maxHeartbeats 8000000 in
set_option maxRecDepth 100000 in
theorem fault_thrown (h : Mc w B q ps gs pb gb pf vC vH ch vs vb vm m) (code : Int) (hi : Cell.In m.handler) (hc : caught m = false) :
    Calls Tryz.prog 48 #[.pointer (some ⟨q, 0, none⟩), .int .i64 code] w (DidM w B q ps gs pb gb pf vC vH ch vs vb vm { m with status := 2, code := code } (.tuple #[])) := by
  have hb := h.bk.fits
  have HH := Lib.hid h
  have L := Lib.hid (fun wc (n : Nat) (e : wc = w.drewN n) => by rw [e]; exact len_any (h.bk.touch (Stirred.drewN w n []) (fun _ _ => List.not_mem_nil)) : ∀ wc (n : Nat), wc = w.drewN n → Calls Tryz.prog 66 #[.pointer (some ⟨pb, 0, none⟩)] wc fun e w' => e = .returned (.int .i64 m.back.length) ∧ w' = wc)
  obtain ⟨n1, n2, n3⟩ := h.ptrs
  have c1 : w.cell? ⟨q, 1, none⟩ = some (.int .i64 m.handler) := whole_cell h.box rfl
  have PN := Lib.hid (fun (n : Nat) (a : Int) (ha : ¬ (0 ≤ a ∧ a < (m.back.length : Int))) => peek_no (h.bk.touch (Stirred.drewN w n []) (fun _ _ => List.not_mem_nil)) a ha)
  have PY := Lib.hid (fun (n : Nat) (j : Nat) (x : Int) (hj : j < m.back.length) (hx : m.back[m.back.length - 1 - j]? = some x) => peek_yes (h.bk.touch (Stirred.drewN w n []) (fun _ _ => List.not_mem_nil)) j x hj hx)
  have HC := Lib.hid hc
  clear h hc
  unfold Cell.In at hi
  have c8 : w.cell? ⟨q, 8, none⟩ = some (.int .i64 m.status) := whole_cell HH.out.box rfl
  have c9 : w.cell? ⟨q, 9, none⟩ = some (.int .i64 m.code) := whole_cell HH.out.box rfl
  have f8 : w.frozen? ⟨q, 8, none⟩ = false := whole_frozen HH.out.box 8
  have f9 : w.frozen? ⟨q, 9, none⟩ = false := whole_frozen HH.out.box 9
  have HR := Lib.hid (fun (n : Nat) => by
    have h0 := HH.out.touch (Stirred.drewN w n []) (fun _ _ => List.not_mem_nil)
    have h1 := h0.set' 8 (.int .i64 2) { m with status := 2 } rfl rfl rfl rfl
    have h2 := h1.1.set' 9 (.int .i64 code) { m with status := 2, code := code } rfl rfl rfl rfl
    exact (⟨h2.1, ((Stirred.drewN w n _).trans h1.2 (fun k hk => .inl hk)).trans h2.2 (fun k hk => .inl hk)⟩ : Mc (((w.drewN n).setCell ⟨q, 8, none⟩ (.int .i64 2)).setCell ⟨q, 9, none⟩ (.int .i64 code)) B q ps gs pb gb pf vC vH ch vs vb vm { m with status := 2, code := code } ∧ Stirred w (((w.drewN n).setCell ⟨q, 8, none⟩ (.int .i64 2)).setCell ⟨q, 9, none⟩ (.int .i64 code)) (feet q ps gs pb gb pf vC vH)))
  have ways : m.handler < 1 ∨ (m.back.length : Int) < m.handler ∨ ∃ j : Nat, ∃ x : Int, m.handler = (m.back.length : Int) - j ∧ j < m.back.length ∧ m.back[m.back.length - 1 - j]? = some x ∧ (m.handler < 3 ∨ x < 0 ∨ 48 ≤ x) := by
    by_cases a1 : m.handler < 1
    · exact .inl a1
    by_cases a2 : (m.back.length : Int) < m.handler
    · exact .inr (.inl a2)
    have hj : m.back.length - 1 - (m.back.length - m.handler.toNat) < m.back.length := by omega
    refine .inr (.inr ⟨m.back.length - m.handler.toNat, m.back[m.back.length - 1 - (m.back.length - m.handler.toNat)], by omega, by omega, List.getElem?_eq_getElem hj, ?_⟩)
    have := HC.out
    unfold caught at this
    simp only [Bool.and_eq_false_iff, decide_eq_false_iff_not] at this
    rw [show m.handler.toNat - 1 = m.back.length - 1 - (m.back.length - m.handler.toNat) by omega, List.getD_eq_getElem?_getD, List.getElem?_eq_getElem hj, Option.getD_some] at this
    rcases this with ((hc | hc) | hc) | hc
    all_goals omega
  obtain ⟨nb, hnb⟩ : ∃ n, m.back.length = n := ⟨_, rfl⟩
  obtain ⟨hd, hhd⟩ : ∃ n, m.handler = n := ⟨_, rfl⟩
  rw [hnb] at hb L PN PY ways
  rw [hhd] at hi c1 ways
  clear hnb hhd HC
  rcases ways with a1 | a1 | ⟨j, x, rfl, hj, hx, a1⟩
  · by_cases a2 : -9223372036854775000 ≤ hd
    · have P := Lib.hid (fun n => PN.out n ((nb : Int) - hd) (by omega))
      clear PN PY HH
      go_enter Tryz.func48, Tryz.ntmps48
      go_wp2_with fail
      go_quiet ((first | (go_at_call 66; exact Calls.quiet_of_same (L.out _ _ rfl)) | (go_at_call 65; exact Calls.quiet_of_same (P.out _))))
      go_wp2
      go_end0
      exact ⟨rfl, HR.out _⟩
    · obtain ⟨a, ha⟩ : ∃ a, wrap64 ((nb : Int) - hd) = a := ⟨_, rfl⟩
      have hna : ¬ (0 ≤ a ∧ a < (nb : Int)) := by rw [← ha]; unfold wrap64; omega
      have e2 : IntKind.i64.wrap ((nb : Int) - hd) = a := (IntWalk.i64_left _).trans ha
      have P := Lib.hid (fun n => PN.out n a hna)
      clear PN PY HH hna
      go_enter Tryz.func48, Tryz.ntmps48
      go_wp2_with fail
      go_quiet ((first | (go_at_call 66; exact Calls.quiet_of_same (L.out _ _ rfl)) | (go_at_call 65; exact Calls.quiet_of_same (P.out _))))
      go_wp2
      go_end0
      exact ⟨rfl, HR.out _⟩
  · have P := Lib.hid (fun n => PN.out n ((nb : Int) - hd) (by omega))
    clear PN PY HH
    go_enter Tryz.func48, Tryz.ntmps48
    go_wp2_with fail
    go_quiet ((first | (go_at_call 66; exact Calls.quiet_of_same (L.out _ _ rfl)) | (go_at_call 65; exact Calls.quiet_of_same (P.out _))))
    go_wp2
    go_end0
    exact ⟨rfl, HR.out _⟩
  · have P := Lib.hid (fun n => PY.out n j x hj hx)
    have e1 : (nb : Int) - ((nb : Int) - (j : Int)) = (j : Int) := by omega
    have e2 : (nb : Int) - (j : Int) < 1000 := by omega
    clear PN PY HH hx
    by_cases b1 : (nb : Int) - (j : Int) < 3
    · clear a1
      go_enter Tryz.func48, Tryz.ntmps48
      go_wp2_with fail
      go_quiet ((first | (go_at_call 66; exact Calls.quiet_of_same (L.out _ _ rfl)) | (go_at_call 65; exact Calls.quiet_of (P.out _))))
      go_wp2
      go_end0
      exact ⟨rfl, HR.out _⟩
    · by_cases b2 : x < 0
      · clear a1
        go_enter Tryz.func48, Tryz.ntmps48
        go_wp2_with fail
        go_quiet ((first | (go_at_call 66; exact Calls.quiet_of_same (L.out _ _ rfl)) | (go_at_call 65; exact Calls.quiet_of (P.out _))))
        go_wp2
        go_end0
        exact ⟨rfl, HR.out _⟩
      · have b3 : 48 ≤ x := by omega
        clear a1
        go_enter Tryz.func48, Tryz.ntmps48
        go_wp2_with fail
        go_quiet ((first | (go_at_call 66; exact Calls.quiet_of_same (L.out _ _ rfl)) | (go_at_call 65; exact Calls.quiet_of (P.out _))))
        go_wp2
        go_end0
        exact ⟨rfl, HR.out _⟩
/-- the plain steps of a fault that is caught -/
theorem fault_steps (hc : caught m = true) (code : Int) : ∃ (h d : Nat), m.handler = h ∧ 3 ≤ h ∧ h ≤ m.back.length ∧ m.back[h - 1]? = some (d : Int) ∧ d < 48 ∧
    Mach.fault m code = { m with handler := nth (m.back.take h) 1, ip := nth (m.back.take h) 2, back := less (m.back.take h) 3, stack := cutTo m.stack d ++ [code] } := by
  have hc0 := hc
  unfold caught at hc
  simp only [Bool.and_eq_true, decide_eq_true_eq] at hc
  obtain ⟨⟨⟨h1, h2⟩, h3⟩, h4⟩ := hc
  have hl : m.handler.toNat - 1 < m.back.length := by omega
  have hx : m.back[m.handler.toNat - 1]? = some (m.back.getD (m.handler.toNat - 1) 0) := by rw [List.getD_eq_getElem?_getD, List.getElem?_eq_getElem hl]; rfl
  have ht : (m.back.take m.handler.toNat).length = m.handler.toNat := by rw [List.length_take]; omega
  refine ⟨m.handler.toNat, (m.back.getD (m.handler.toNat - 1) 0).toNat, by omega, by omega, by omega, by rw [hx]; congr 1; omega, by omega, ?_⟩
  have g : ∀ k, k < 3 → nth (m.back.take m.handler.toNat) k = m.back.getD (m.handler.toNat - 1 - k) 0 := fun k hk => by
    unfold nth
    rw [if_pos (by rw [ht]; omega), ht, List.getD_eq_getElem?_getD, List.getElem?_take, if_pos (by omega), List.getD_eq_getElem?_getD]
  unfold Mach.fault
  rw [if_pos hc0, g 1 (by decide), g 2 (by decide)]
  unfold less
  rw [ht, List.take_take, Nat.min_eq_left (by omega)]
  rfl
set_option maxHeartbeats 8000000 in
set_option maxRecDepth 100000 in
theorem fault_caught (h : Mc w B q ps gs pb gb pf vC vH ch vs vb vm m) (hB : B ≤ w.heap.size) (code : Int) (hc : caught m = true) :
    Calls Tryz.prog 48 #[.pointer (some ⟨q, 0, none⟩), .int .i64 code] w (DidM w B q ps gs pb gb pf vC vH ch vs vb vm (Mach.fault m code) (.tuple #[])) := by
  obtain ⟨hd, d, e1, e2, e3, e4, e5, e6⟩ := fault_steps hc code
  rw [e6]
  have hb := h.bk.fits
  have HH := Lib.hid h
  have HB := Lib.hid hB
  have L := Lib.hid (fun wc (n : Nat) (e : wc = w.drewN n) => by rw [e]; exact len_any (h.bk.touch (Stirred.drewN w n []) (fun _ _ => List.not_mem_nil)) : ∀ wc (n : Nat), wc = w.drewN n → Calls Tryz.prog 66 #[.pointer (some ⟨pb, 0, none⟩)] wc fun e w' => e = .returned (.int .i64 m.back.length) ∧ w' = wc)
  obtain ⟨n1, n2, n3⟩ := h.ptrs
  have c1 : w.cell? ⟨q, 1, none⟩ = some (.int .i64 m.handler) := whole_cell h.box rfl
  rw [e1] at c1
  have P := Lib.hid (fun (n : Nat) => peek_yes (h.bk.touch (Stirred.drewN w n []) (fun _ _ => List.not_mem_nil)) (m.back.length - hd) (d : Int) (by omega) (by rw [show m.back.length - 1 - (m.back.length - hd) = hd - 1 by omega]; exact e4))
  have HL := Lib.hid (show (m.back.take hd).length = hd by rw [List.length_take]; omega)
  obtain ⟨nb, hnb⟩ : ∃ n, m.back.length = n := ⟨_, rfl⟩
  rw [hnb] at hb L P e3
  obtain ⟨j, hj⟩ : ∃ j, nb - hd = j := ⟨_, rfl⟩
  rw [hj] at P
  have a1 : (nb : Int) - (hd : Int) = (j : Int) := by omega
  have a2 : (3 : Int) ≤ (hd : Int) := by omega
  have a3 : (0 : Int) ≤ (d : Int) := by omega
  have a4 : (d : Int) < 48 := by omega
  have HE := Lib.hid (And.intro hnb (And.intro e2 (And.intro e3 (And.intro e5 hb))))
  clear h hB hc e1 e4 e6 hnb hj e2 e3 e5
  go_enter Tryz.func48, Tryz.ntmps48
  go_wp2_with fail
  go_quiet ((first | (go_at_call 66; exact Calls.quiet_of_same (L.out _ _ rfl)) | (go_at_call 65; exact Calls.quiet_of (P.out _))))
  go_wp2_with fail
  have h0 := HH.out.touch (Stirred.drewN w nq []) (fun _ _ => List.not_mem_nil)
  refine (h0.cutB hd (by have := HE.out; omega)).mono ?_
  rintro e w1 ⟨rfl, hM, hS⟩
  rw [cutTo_less (by have := HE.out; omega)] at hM
  have HM := Lib.hid hM
  have HS := Lib.hid ((Stirred.drewN w nq _).trans hS (fun k hk => .inl hk))
  clear h0 hM hS n1 n2 n3 c1 L P HH
  obtain ⟨n1, n2, n3⟩ := HM.out.ptrs
  go_wp2_with fail
  refine (uncatch_any HM.out (Nat.le_trans HB.out HS.out.size) (by have := HE.out; have := HL.out; show 3 ≤ (m.back.take hd).length; omega)).mono ?_
  rintro e w2 ⟨rfl, hM, hS⟩
  have HM := Lib.hid hM
  have HS := Lib.hid (HS.out.trans hS (fun k hk => .inl hk))
  clear hM hS n1 n2 n3
  obtain ⟨n1, n2, n3⟩ := HM.out.ptrs
  have c0 : w2.cell? ⟨q, 0, none⟩ = some (.int .i64 m.ip) := whole_cell HM.out.box rfl
  have f0 : w2.frozen? ⟨q, 0, none⟩ = false := whole_frozen HM.out.box 0
  have HR := Lib.hid (HM.out.set' 0 (.int .i64 (nth (m.back.take hd) 2)) { m with handler := nth (m.back.take hd) 1, ip := nth (m.back.take hd) 2, back := less (m.back.take hd) 3 } rfl rfl rfl rfl)
  have HS := Lib.hid (HS.out.trans HR.out.2 (fun k hk => .inl hk))
  have C := Lib.hid (HR.out.1.cut d (by have := HE.out; omega))
  clear HM
  go_wp2_with fail
  refine C.out.mono ?_
  rintro e w3 ⟨rfl, hM, hS⟩
  have HM := Lib.hid hM
  have HS := Lib.hid (HS.out.trans hS (fun k hk => .inl hk))
  clear hM hS n1 n2 n3 c0 f0 HR C
  obtain ⟨n1, n2, n3⟩ := HM.out.ptrs
  obtain ⟨w4, g, hw4, hg, HRW, HB1, HG⟩ := row_box w3 [code]
  change w3.alloc (.cells #[.int .i64 code] 3) = w4 at hw4
  go_wp2_with fail
  clear hw4 hg
  refine ((HM.out.below HB1.out).push (rowV g 1) [code] (HRW.out.stays rfl (fun k hk => by rw [← HG.out]; exact (HM.out.feet_lt k hk).2)) (by show (cutTo m.stack d).length + 1 ≤ 48; rw [cutTo_length]; have := HE.out; omega)).mono ?_
  rintro e w5 ⟨rfl, hM, hS⟩
  have HM := Lib.hid hM
  have HS := Lib.hid ((HS.out.trans (Stirred.of_below HB1.out _) (fun k hk => .inl hk)).trans hS (fun k hk => .inl hk))
  clear hM hS n1 n2 n3
  go_wp2
  go_end0
  exact ⟨rfl, HM.out, HS.out⟩
theorem fault_any (h : Mc w B q ps gs pb gb pf vC vH ch vs vb vm m) (hB : B ≤ w.heap.size) (hi : Cell.In m.handler) (code : Int) :
    Calls Tryz.prog 48 #[.pointer (some ⟨q, 0, none⟩), .int .i64 code] w (DidM w B q ps gs pb gb pf vC vH ch vs vb vm (Mach.fault m code) (.tuple #[])) := by
  cases hc : caught m with
  | true => exact fault_caught h hB code hc
  | false =>
    have := fault_thrown h code hi hc
    unfold Mach.fault
    rw [if_neg (by rw [hc]; decide)]
    exact this
end
end Go.Proofs.YtlomfmilohbgpaaGreatDoor.Inn
/- Package inner: what became of a machine by an operation. -/
namespace Go.Proofs.YtlomfmilohbgpaaGreatDoor.Inn
open Go.RowKit Book Mem Mach
set_option linter.unusedVariables false
set_option linter.unusedSimpArgs false
/-- an operation that is done -/
def DoOk (w : World) (B q : Nat) (F : List Nat) (xb : Nat) (k g at' : Int) (vt vb : Value) (m1 : M) (gs gbl : List Int) (nx' : Int) (err : Value) (e : Ending) (w' : World) : Prop :=
  ∃ F' vgs vgb L, e = .returned err ∧ Mk w' B q F' m1 ∧ w'.heap[xb]? = some (.cells (cells8 k g at' nx' vt vb vgs vgb) 103 (0, 0)) ∧ Stirred w w' (xb :: F) ∧ (∀ f ∈ F', f ∈ F ∨ w.heap.size ≤ f) ∧
    Dep w' vgs gs L ∧ Dep w' vgb gbl L ∧ ∀ b ∈ L, b < w'.heap.size ∧ b ≠ xb ∧ b ∉ F'
/-- .. that can't be done -/
def DoErr (w : World) (B q : Nat) (F : List Nat) (xb : Nat) (m1 : M) (c at' : Int) (e : Ending) (w' : World) : Prop :=
  ∃ F', e = .returned (faultV c at') ∧ Mk w' B q F' m1 ∧ Stirred w w' (xb :: F) ∧ ∀ f ∈ F', f ∈ F ∨ w.heap.size ≤ f
section
variable {w w0 w1 w2 : World} {B q : Nat} {F F' : List Nat} {xb gt gb gl : Nat} {k g at' nx nx' c : Int} {vt vb : Value} {m m1 : M} {gs gbl xs : List Int} {err : Value}
theorem DoOk.of_x (hM : Mk w B q F m) (hx : xb ∉ F) (ht : gt ∉ F) (hb : gb ∉ F) {e : Ending} {w' : World} (h : XDid w xb k g at' vt vb gt gb err gs gbl nx' e w') : DoOk w B q F xb k g at' vt vb m gs gbl nx' err e w' := by
  obtain ⟨vgs, vgb, L, he, h1, h2, h3, h4, h5⟩ := h
  refine ⟨F, vgs, vgb, L, he, hM.touch h2 (fun f hf hm => hx (by rw [List.mem_singleton] at hm; exact hm ▸ hf)), h1, h2.more (fun f hf => by rw [List.mem_singleton.1 hf]; exact List.mem_cons_self), fun f hf => .inl hf, h3, h4, fun b hb' => ⟨(h5 b hb').1, (h5 b hb').2.1, fun hm => ?_⟩⟩
  rcases (h5 b hb').2.2 with rfl | rfl | e
  · exact ht hm
  · exact hb hm
  · have := (hM.lt b hm).2
    omega
theorem DoErr.of_x (hM : Mk w B q F m) (hx : xb ∉ F) {e : Ending} {w' : World} (h : XFault w c at' e w') : DoErr w B q F xb m c at' e w' := by
  obtain ⟨he, hs⟩ := h
  exact ⟨F, he, hM.touch hs (fun f hf hm => by cases hm), hs.more (fun f hf => by cases hf), fun f hf => .inl hf⟩
/-- a new row is given, to the stack -/
theorem ok_row4 (hM : Mk w0 B q F' m1) (h8 : w0.heap[xb]? = some (.cells (cells8 k g at' nx vt vb (.slice none 0 0) (.slice none 0 0)) 103 (0, 0))) (hx : xb ∉ F') (hs : Stirred w w0 (xb :: F)) (hF : ∀ f ∈ F', f ∈ F ∨ w.heap.size ≤ f)
    (hr : Row w1 gl gl xs) (hb : Below w0.heap.size w0 w1) (hg : w0.heap.size = gl) :
    DoOk w B q F xb k g at' vt vb m1 xs [] nx err (.returned err) (w1.setCell ⟨xb, 4, none⟩ (rowV gl xs.length)) := by
  have hne : gl ≠ xb := fun e => by have h1 := whole_lt h8; omega
  have ht := Stirred.setCell w1 ⟨xb, 4, none⟩ (rowV gl xs.length)
  have hr' := ht.whole hr.1 (by simpa using hne)
  have hgF : gl ∉ F' := fun hm => by have := (hM.lt gl hm).2; omega
  refine ⟨F', _, _, [gl], rfl, (hM.below hb).touch ht (fun f hf hm => hx (by rw [List.mem_singleton] at hm; exact (show f = xb from hm) ▸ hf)), (set8 ((Stirred.of_below hb []).whole h8 List.not_mem_nil)).2.1 _, (hs.trans (Stirred.of_below hb []) (fun _ h => by cases h)).trans ht (fun f hf => .inl (by rw [List.mem_singleton.1 hf]; exact List.mem_cons_self)), hF, Dep.row hr' rfl, Dep.nil _ _, fun b hb' => ?_⟩
  rw [List.mem_singleton] at hb'
  subst hb'
  exact ⟨whole_lt hr', hne, hgF⟩
/-- .. to the return stack; and the machine goes on elsewhere -/
theorem ok_row57 (hM : Mk w0 B q F' m1) (h8 : w0.heap[xb]? = some (.cells (cells8 k g at' nx vt vb (.slice none 0 0) (.slice none 0 0)) 103 (0, 0))) (hx : xb ∉ F') (hs : Stirred w w0 (xb :: F)) (hF : ∀ f ∈ F', f ∈ F ∨ w.heap.size ≤ f)
    (hr : Row w1 gl gl xs) (hb : Below w0.heap.size w0 w1) (hg : w0.heap.size = gl) :
    DoOk w B q F xb k g at' vt vb m1 [] xs nx' err (.returned err) ((w1.setCell ⟨xb, 5, none⟩ (rowV gl xs.length)).setCell ⟨xb, 7, none⟩ (.int .i64 nx')) := by
  have hne : gl ≠ xb := fun e => by have h1 := whole_lt h8; omega
  have ht := (Stirred.setCell w1 ⟨xb, 5, none⟩ (rowV gl xs.length)).trans (Stirred.setCell _ ⟨xb, 7, none⟩ (.int .i64 nx')) (fun f hf => .inl hf)
  have hr' := ht.whole hr.1 (by simpa using hne)
  have hgF : gl ∉ F' := fun hm => by have := (hM.lt gl hm).2; omega
  refine ⟨F', _, _, [gl], rfl, (hM.below hb).touch ht (fun f hf hm => hx (by rw [List.mem_singleton] at hm; exact (show f = xb from hm) ▸ hf)), (set8 ((set8 ((Stirred.of_below hb []).whole h8 List.not_mem_nil)).2.2 _)).1 _, (hs.trans (Stirred.of_below hb []) (fun _ h => by cases h)).trans ht (fun f hf => .inl (by rw [List.mem_singleton.1 hf]; exact List.mem_cons_self)), hF, Dep.nil _ _, Dep.row hr' rfl, fun b hb' => ?_⟩
  rw [List.mem_singleton] at hb'
  subst hb'
  exact ⟨whole_lt hr', hne, hgF⟩
/-- nothing is given -/
theorem ok_none {w' : World} (hM : Mk w' B q F' m1) (h8 : w'.heap[xb]? = some (.cells (cells8 k g at' nx' vt vb (.slice none 0 0) (.slice none 0 0)) 103 (0, 0))) (hs : Stirred w w' (xb :: F)) (hF : ∀ f ∈ F', f ∈ F ∨ w.heap.size ≤ f) :
    DoOk w B q F xb k g at' vt vb m1 [] [] nx' err (.returned err) w' :=
  ⟨F', _, _, [], rfl, hM, h8, hs, hF, Dep.nil _ _, Dep.nil _ _, fun b hb => by cases hb⟩
end
/-- a machine, and an operation that is to be done -/
structure Pre (w : World) (B q ps gs pb gb pf : Nat) (vC vH : Value) (ch : List Int) (vs vb vm : Value) (m : M) (xb : Nat) (k g at' nx : Int) (gt gk : Nat) (ts tb : List Int) : Prop where
  mc : Mc w B q ps gs pb gb pf vC vH ch vs vb vm m
  x : X8 w xb k g at' nx gt gk ts tb
  nx : xb ∉ feet q ps gs pb gb pf vC vH
  nt : gt ∉ feet q ps gs pb gb pf vC vH
  nk : gk ∉ feet q ps gs pb gb pf vC vH
section
variable {w w' : World} {B q ps gs pb gb pf : Nat} {vC vH : Value} {ch : List Int} {vs vb vm : Value} {m : M} {xb : Nat} {k g at' nx : Int} {gt gk : Nat} {ts tb : List Int}
theorem Pre.below (h : Pre w B q ps gs pb gb pf vC vH ch vs vb vm m xb k g at' nx gt gk ts tb) (hb : Below w.heap.size w w') : Pre w' B q ps gs pb gb pf vC vH ch vs vb vm m xb k g at' nx gt gk ts tb := ⟨h.mc.below hb, h.x.below hb, h.nx, h.nt, h.nk⟩
theorem Pre.drewN (h : Pre w B q ps gs pb gb pf vC vH ch vs vb vm m xb k g at' nx gt gk ts tb) (n : Nat) : Pre (w.drewN n) B q ps gs pb gb pf vC vH ch vs vb vm m xb k g at' nx gt gk ts tb :=
  ⟨h.mc.touch (Stirred.drewN w n []) (fun _ _ => List.not_mem_nil), h.x.drewN n, h.nx, h.nt, h.nk⟩
theorem Pre.qx (h : Pre w B q ps gs pb gb pf vC vH ch vs vb vm m xb k g at' nx gt gk ts tb) : q ≠ xb := fun e => h.nx (e ▸ feet_q)
/-- a cell of the machine's box is written -/
theorem Pre.set (h : Pre w B q ps gs pb gb pf vC vH ch vs vb vm m xb k g at' nx gt gk ts tb) (j : Nat) (v : Value) (m' : M) (e : cells13 m' vs vb vm ps pb pf = (cells13 m vs vb vm ps pb pf).setIfInBounds j v) (e1 : m'.stack = m.stack) (e2 : m'.back = m.back) (e3 : m'.mem = m.mem) :
    Pre (w.setCell ⟨q, j, none⟩ v) B q ps gs pb gb pf vC vH ch vs vb vm m' xb k g at' nx gt gk ts tb :=
  have hq : ∀ {z : Nat}, z ∉ feet q ps gs pb gb pf vC vH → z ∉ [q] := fun hz hm => hz (by rw [List.mem_singleton.1 hm]; exact feet_q)
  ⟨h.mc.set j v m' e e1 e2 e3, h.x.touch (Stirred.setCell w ⟨q, j, none⟩ v) (hq h.nx) (hq h.nt) (hq h.nk), h.nx, h.nt, h.nk⟩
/-- the machine's box, cell by cell -/
theorem Mc.cells (h : Mc w B q ps gs pb gb pf vC vH ch vs vb vm m) : w.cell? ⟨q, 0, none⟩ = some (.int .i64 m.ip) ∧ w.cell? ⟨q, 1, none⟩ = some (.int .i64 m.handler) ∧ w.cell? ⟨q, 5, none⟩ = some (.string m.out) ∧ w.cell? ⟨q, 6, none⟩ = some (.string m.inp) ∧
    w.cell? ⟨q, 7, none⟩ = some (.int .i64 m.read) ∧ w.cell? ⟨q, 8, none⟩ = some (.int .i64 m.status) ∧ w.cell? ⟨q, 9, none⟩ = some (.int .i64 m.code) :=
  ⟨whole_cell h.box rfl, whole_cell h.box rfl, whole_cell h.box rfl, whole_cell h.box rfl, whole_cell h.box rfl, whole_cell h.box rfl, whole_cell h.box rfl⟩
theorem stir_drewN (w : World) (n : Nat) (D : List Nat) : Stirred w (w.drewN n) D := Stirred.drewN w n D
theorem stir_more {D : List Nat} (hs : Stirred w w' D) {x : Nat} : Stirred w w' (x :: D) := hs.more (fun k hk => List.mem_cons_of_mem _ hk)
end
end Go.Proofs.YtlomfmilohbgpaaGreatDoor.Inn
/- Package inner: which function does an operation. -/
namespace Go.Proofs.YtlomfmilohbgpaaGreatDoor.Inn
open Go.RowKit Book Mem Mach
set_option linter.unusedVariables false
set_option linter.unusedSimpArgs false
section
variable {w : World} {q xb : Nat} {P : Ending → World → Prop}
set_option maxHeartbeats 8000000 in
set_option maxRecDepth 100000 in
theorem do_ctl {k : Int} (hk : k = 0 ∨ k = 44 ∨ k = 45 ∨ k = 46 ∨ k = 1) (c0 : w.cell? ⟨xb, 0, none⟩ = some (.int .i64 k)) (C : Hid (Calls Tryz.prog 88 #[.pointer (some ⟨q, 0, none⟩), .pointer (some ⟨xb, 0, none⟩)] w fun e w' => ∃ v, e = .returned v ∧ (v = .nilIface ∨ ∃ c a, v = faultV c a) ∧ P (.returned v) w')) :
    Calls Tryz.prog 78 #[.pointer (some ⟨q, 0, none⟩), .pointer (some ⟨xb, 0, none⟩)] w P := by
  rcases hk with rfl | rfl | rfl | rfl | rfl
  all_goals
    go_enter Tryz.func78, Tryz.ntmps78
    go_wp2_with fail
    refine C.out.mono ?_
    rintro e w1 ⟨v, rfl, hv, hp⟩
    have HP := Lib.hid hp
    clear hp
    rcases hv with rfl | ⟨c, a, rfl⟩
    · go_wp2
      first | exact HP.out | (go_ret; exact HP.out)
    · go_wp2
      first | exact HP.out | (go_ret; exact HP.out)
set_option maxHeartbeats 8000000 in
set_option maxRecDepth 100000 in
theorem do_rem {k : Int} (hk : k = 30 ∨ k = 31 ∨ k = 32) (c0 : w.cell? ⟨xb, 0, none⟩ = some (.int .i64 k)) (C : Hid (Calls Tryz.prog 89 #[.pointer (some ⟨q, 0, none⟩), .pointer (some ⟨xb, 0, none⟩)] w fun e w' => ∃ v, e = .returned v ∧ (v = .nilIface ∨ ∃ c a, v = faultV c a) ∧ P (.returned v) w')) :
    Calls Tryz.prog 78 #[.pointer (some ⟨q, 0, none⟩), .pointer (some ⟨xb, 0, none⟩)] w P := by
  rcases hk with rfl | rfl | rfl
  all_goals
    go_enter Tryz.func78, Tryz.ntmps78
    go_wp2_with fail
    refine C.out.mono ?_
    rintro e w1 ⟨v, rfl, hv, hp⟩
    have HP := Lib.hid hp
    clear hp
    rcases hv with rfl | ⟨c, a, rfl⟩
    · go_wp2
      first | exact HP.out | (go_ret; exact HP.out)
    · go_wp2
      first | exact HP.out | (go_ret; exact HP.out)
set_option maxHeartbeats 8000000 in
set_option maxRecDepth 100000 in
theorem do_say {k : Int} (hk : k = 41 ∨ k = 42) (c0 : w.cell? ⟨xb, 0, none⟩ = some (.int .i64 k)) (C : Hid (Calls Tryz.prog 90 #[.pointer (some ⟨q, 0, none⟩), .pointer (some ⟨xb, 0, none⟩)] w fun e w' => ∃ v, e = .returned v ∧ (v = .nilIface ∨ ∃ c a, v = faultV c a) ∧ P (.returned v) w')) :
    Calls Tryz.prog 78 #[.pointer (some ⟨q, 0, none⟩), .pointer (some ⟨xb, 0, none⟩)] w P := by
  rcases hk with rfl | rfl
  all_goals
    go_enter Tryz.func78, Tryz.ntmps78
    go_wp2_with fail
    refine C.out.mono ?_
    rintro e w1 ⟨v, rfl, hv, hp⟩
    have HP := Lib.hid hp
    clear hp
    rcases hv with rfl | ⟨c, a, rfl⟩
    · go_wp2
      first | exact HP.out | (go_ret; exact HP.out)
    · go_wp2
      first | exact HP.out | (go_ret; exact HP.out)
set_option maxHeartbeats 8000000 in
set_option maxRecDepth 100000 in
theorem do_ask {k : Int} (hk : k = 43) (c0 : w.cell? ⟨xb, 0, none⟩ = some (.int .i64 k)) (C : Hid (Calls Tryz.prog 91 #[.pointer (some ⟨q, 0, none⟩), .pointer (some ⟨xb, 0, none⟩)] w fun e w' => e = .returned (.tuple #[]) ∧ P (.returned .nilIface) w')) :
    Calls Tryz.prog 78 #[.pointer (some ⟨q, 0, none⟩), .pointer (some ⟨xb, 0, none⟩)] w P := by
  rcases hk with rfl
  all_goals
    go_enter Tryz.func78, Tryz.ntmps78
    go_wp2_with fail
    refine C.out.mono ?_
    rintro e w1 ⟨rfl, hp⟩
    have HP := Lib.hid hp
    clear hp
    go_wp2
    first | exact HP.out | (go_ret; exact HP.out)
set_option maxHeartbeats 8000000 in
set_option maxRecDepth 100000 in
theorem do_turn {k : Int} (hk : k = 5 ∨ k = 3 ∨ k = 4 ∨ k = 37 ∨ k = 38) (c0 : w.cell? ⟨xb, 0, none⟩ = some (.int .i64 k)) (C : Hid (Calls Tryz.prog 92 #[.pointer (some ⟨xb, 0, none⟩)] w fun e w' => e = .returned (.tuple #[]) ∧ P (.returned .nilIface) w')) :
    Calls Tryz.prog 78 #[.pointer (some ⟨q, 0, none⟩), .pointer (some ⟨xb, 0, none⟩)] w P := by
  rcases hk with rfl | rfl | rfl | rfl | rfl
  all_goals
    go_enter Tryz.func78, Tryz.ntmps78
    go_wp2_with fail
    refine C.out.mono ?_
    rintro e w1 ⟨rfl, hp⟩
    have HP := Lib.hid hp
    clear hp
    go_wp2
    first | exact HP.out | (go_ret; exact HP.out)
set_option maxHeartbeats 8000000 in
set_option maxRecDepth 100000 in
theorem do_move {k : Int} (hk : k = 47 ∨ k = 2 ∨ k = 6 ∨ k = 7 ∨ k = 8 ∨ k = 9 ∨ k = 10 ∨ k = 33 ∨ k = 34 ∨ k = 35 ∨ k = 36 ∨ k = 39 ∨ k = 40) (c0 : w.cell? ⟨xb, 0, none⟩ = some (.int .i64 k)) (C : Hid (Calls Tryz.prog 93 #[.pointer (some ⟨xb, 0, none⟩)] w fun e w' => e = .returned (.tuple #[]) ∧ P (.returned .nilIface) w')) :
    Calls Tryz.prog 78 #[.pointer (some ⟨q, 0, none⟩), .pointer (some ⟨xb, 0, none⟩)] w P := by
  rcases hk with rfl | rfl | rfl | rfl | rfl | rfl | rfl | rfl | rfl | rfl | rfl | rfl | rfl
  all_goals
    go_enter Tryz.func78, Tryz.ntmps78
    go_wp2_with fail
    refine C.out.mono ?_
    rintro e w1 ⟨rfl, hp⟩
    have HP := Lib.hid hp
    clear hp
    go_wp2
    first | exact HP.out | (go_ret; exact HP.out)
set_option maxHeartbeats 8000000 in
set_option maxRecDepth 100000 in
theorem do_reckon1 {k : Int} (hk : k = 11 ∨ k = 12 ∨ k = 13 ∨ k = 14 ∨ k = 15 ∨ k = 16 ∨ k = 17 ∨ k = 18 ∨ k = 19 ∨ k = 20) (c0 : w.cell? ⟨xb, 0, none⟩ = some (.int .i64 k)) (C : Hid (Calls Tryz.prog 94 #[.pointer (some ⟨xb, 0, none⟩)] w fun e w' => ∃ v, e = .returned v ∧ (v = .nilIface ∨ ∃ c a, v = faultV c a) ∧ P (.returned v) w')) :
    Calls Tryz.prog 78 #[.pointer (some ⟨q, 0, none⟩), .pointer (some ⟨xb, 0, none⟩)] w P := by
  rcases hk with rfl | rfl | rfl | rfl | rfl | rfl | rfl | rfl | rfl | rfl
  all_goals
    go_enter Tryz.func78, Tryz.ntmps78
    go_wp2_with fail
    refine C.out.mono ?_
    rintro e w1 ⟨v, rfl, hv, hp⟩
    have HP := Lib.hid hp
    clear hp
    rcases hv with rfl | ⟨c, a, rfl⟩
    · go_wp2
      first | exact HP.out | (go_ret; exact HP.out)
    · go_wp2
      first | exact HP.out | (go_ret; exact HP.out)
set_option maxHeartbeats 8000000 in
set_option maxRecDepth 100000 in
theorem do_reckon2 {k : Int} (hk : k = 21 ∨ k = 22 ∨ k = 23 ∨ k = 24 ∨ k = 25 ∨ k = 26 ∨ k = 27 ∨ k = 28 ∨ k = 29) (c0 : w.cell? ⟨xb, 0, none⟩ = some (.int .i64 k)) (C : Hid (Calls Tryz.prog 94 #[.pointer (some ⟨xb, 0, none⟩)] w fun e w' => ∃ v, e = .returned v ∧ (v = .nilIface ∨ ∃ c a, v = faultV c a) ∧ P (.returned v) w')) :
    Calls Tryz.prog 78 #[.pointer (some ⟨q, 0, none⟩), .pointer (some ⟨xb, 0, none⟩)] w P := by
  rcases hk with rfl | rfl | rfl | rfl | rfl | rfl | rfl | rfl | rfl
  all_goals
    go_enter Tryz.func78, Tryz.ntmps78
    go_wp2_with fail
    refine C.out.mono ?_
    rintro e w1 ⟨v, rfl, hv, hp⟩
    have HP := Lib.hid hp
    clear hp
    rcases hv with rfl | ⟨c, a, rfl⟩
    · go_wp2
      first | exact HP.out | (go_ret; exact HP.out)
    · go_wp2
      first | exact HP.out | (go_ret; exact HP.out)
end
end Go.Proofs.YtlomfmilohbgpaaGreatDoor.Inn
/- Package inner: a byte is asked for. -/
namespace Go.Proofs.YtlomfmilohbgpaaGreatDoor.Inn
open Go.RowKit Book Mem Mach
set_option linter.unusedVariables false
set_option linter.unusedSimpArgs false
section
variable {w : World} {B q ps gs pb gb pf : Nat} {vC vH : Value} {ch : List Int} {vs vb vm : Value} {m : M} {xb : Nat} {g at' nx : Int} {gt gk : Nat} {x y z p : Int}
set_option maxHeartbeats 8000000 in
set_option maxRecDepth 100000 in
theorem ask_yes (h : Pre w B q ps gs pb gb pf vC vH ch vs vb vm m xb 43 g at' nx gt gk [] []) (hB : B ≤ w.heap.size) (h0 : 0 ≤ m.read) (h1 : m.read < (m.inp.size : Int)) (hin : m.inp.size ≤ maxLen) : Calls Tryz.prog 91 #[.pointer (some ⟨q, 0, none⟩), .pointer (some ⟨xb, 0, none⟩)] w (DoOk w B q (feet q ps gs pb gb pf vC vH) xb 43 g at' (rowV gt 0) (rowV gk 0) { m with read := m.read + 1 } [((m.inp.data.toList.getD m.read.toNat 0).toNat : Int)] [] nx (.tuple #[])) := by
  have HP := Lib.hid h
  have HB := Lib.hid hB
  obtain ⟨c0, c1, c2, c3, c4, c5, c6, c7⟩ := h.x.cells
  obtain ⟨f4, f5, f7⟩ := h.x.free
  obtain ⟨m0, m1, m5, m6, m7, m8, m9⟩ := h.mc.cells
  obtain ⟨n1, n2, n3⟩ := h.mc.ptrs
  have hr : m.read = (m.read.toNat : Int) := by omega
  obtain ⟨rd, hrd⟩ : ∃ rd : Nat, m.read.toNat = rd := ⟨_, rfl⟩
  rw [hrd] at hr
  have h2 : rd < m.inp.size := by omega
  have h3 : (rd : Int) < (m.inp.size : Int) := by omega
  have h4 : m.inp.size ≤ 9223372036854775807 := hin
  obtain ⟨by', hby⟩ : ∃ b, m.inp[rd] = b := ⟨_, rfl⟩
  have hD : m.inp.data.toList.getD rd 0 = by' := by rw [← hby, List.getD_eq_getElem?_getD, List.getElem?_eq_getElem (by simpa using h2)]; rfl
  rw [hr] at m7
  have f7q : w.frozen? ⟨q, 7, none⟩ = false := whole_frozen h.mc.box 7
  have e8 : wrap64 ((by'.toNat : Nat) : Int) = ((by'.toNat : Nat) : Int) := by have := by'.toNat_lt; unfold wrap64; omega
  have HD := Lib.hid hD
  have HRD := Lib.hid (And.intro hr hrd)
  clear h hB hin h0 h1 hD hr hrd
  go_enter Tryz.func91, Tryz.ntmps91
  go_wp2_with fail
  go_quiet (fail)
  have HS := Lib.hid (stir_drewN w nq (feet q ps gs pb gb pf vC vH))
  have HP := Lib.hid ((HP.out.drewN nq).set 7 (.int .i64 ((rd : Int) + 1)) { m with read := (rd : Int) + 1 } rfl rfl rfl rfl)
  have HS := Lib.hid (HS.out.trans (stir_q (w.drewN nq) 7 (.int .i64 ((rd : Int) + 1))) (fun k hk => .inl hk))
  obtain ⟨w1, gl, hw1, hgl, HRW, HB1, HG⟩ := row_box ((w.drewN nq).setCell ⟨q, 7, none⟩ (.int .i64 ((rd : Int) + 1))) [((by'.toNat : Nat) : Int)]
  change ((w.drewN nq).setCell ⟨q, 7, none⟩ (.int .i64 ((rd : Int) + 1))).alloc (.cells #[.int .i64 ((by'.toNat : Nat) : Int)] 3) = w1 at hw1
  have hz : ((w.drewN nq).setCell ⟨q, 7, none⟩ (.int .i64 ((rd : Int) + 1))).heap.size = w.heap.size := by simp
  rw [hz] at hgl
  clear hz
  have HX1 := Lib.hid (HP.out.x.below HB1.out)
  have c4' := HX1.out.cells.2.2.2.2.1
  have f4' := HX1.out.free.1
  go_wp2
  go_end0
  have hval := ok_row4 (err := .tuple #[]) HP.out.mc.mach HP.out.x.box HP.out.nx (stir_more HS.out) (fun f hf => .inl hf) HRW.out HB1.out HG.out
  have e1 := HRD.out.1
  have e2 := HRD.out.2
  have e3 := HD.out
  rw [e2, e3, e1]
  exact hval
set_option maxHeartbeats 8000000 in
set_option maxRecDepth 100000 in
theorem ask_no (h : Pre w B q ps gs pb gb pf vC vH ch vs vb vm m xb 43 g at' nx gt gk [] []) (hB : B ≤ w.heap.size) (h0 : 0 ≤ m.read) (h1 : ¬ m.read < (m.inp.size : Int)) : Calls Tryz.prog 91 #[.pointer (some ⟨q, 0, none⟩), .pointer (some ⟨xb, 0, none⟩)] w (DoOk w B q (feet q ps gs pb gb pf vC vH) xb 43 g at' (rowV gt 0) (rowV gk 0) m [-1] [] nx (.tuple #[])) := by
  have HP := Lib.hid h
  have HB := Lib.hid hB
  obtain ⟨c0, c1, c2, c3, c4, c5, c6, c7⟩ := h.x.cells
  obtain ⟨f4, f5, f7⟩ := h.x.free
  obtain ⟨m0, m1, m5, m6, m7, m8, m9⟩ := h.mc.cells
  obtain ⟨n1, n2, n3⟩ := h.mc.ptrs
  have hr : m.read = (m.read.toNat : Int) := by omega
  obtain ⟨rd, hrd⟩ : ∃ rd : Nat, m.read.toNat = rd := ⟨_, rfl⟩
  rw [hrd] at hr
  have h3 : decide ((rd : Int) < (m.inp.size : Int)) = false := decide_eq_false (by omega)
  have h5 : decide (rd < m.inp.size) = false := decide_eq_false (by omega)
  rw [hr] at m7
  clear h hB h0 h1 hr hrd
  go_enter Tryz.func91, Tryz.ntmps91
  go_wp2_with fail
  go_quiet (fail)
  have HS := Lib.hid (stir_drewN w nq (feet q ps gs pb gb pf vC vH))
  have HP := Lib.hid (HP.out.drewN nq)
  obtain ⟨w1, gl, hw1, hgl, HRW, HB1, HG⟩ := row_box (w.drewN nq) [(-1 : Int)]
  change (w.drewN nq).alloc (.cells #[.int .i64 (-1)] 3) = w1 at hw1
  change w.heap.size = gl at hgl
  have HX1 := Lib.hid (HP.out.x.below HB1.out)
  have c4' := HX1.out.cells.2.2.2.2.1
  have f4' := HX1.out.free.1
  go_wp2
  go_end0
  exact ok_row4 (err := .tuple #[]) HP.out.mc.mach HP.out.x.box HP.out.nx (stir_more HS.out) (fun f hf => .inl hf) HRW.out HB1.out HG.out
end
end Go.Proofs.YtlomfmilohbgpaaGreatDoor.Inn
/- Numbers as digits, and digits as numbers, in plain functions: no program in sight. -/
namespace Go.Proofs.YtlomfmilohbgpaaGreatDoor.Dig
open Go.RowKit (wrap64)

def upD (d : Nat) : UInt8 := UInt8.ofNat (if d < 10 then 48 + d else 55 + d)
def loD (d : Nat) : UInt8 := UInt8.ofNat (if d < 10 then 48 + d else 87 + d)
/-- the j lowest digits of u -/
def suf (f : Nat → UInt8) (b u : Nat) : Nat → List UInt8
  | 0 => []
  | j + 1 => f (u / b ^ j % b) :: suf f b u j
def ndF (b : Nat) : Nat → Nat → Nat
  | 0, _ => 1
  | k + 1, u => if u < b then 1 else ndF b k (u / b) + 1
/-- how many digits a number has -/
def nd (b u : Nat) : Nat := ndF b 64 u
def digs (f : Nat → UInt8) (b u : Nat) : List UInt8 := suf f b u (nd b u)
def Fits (b u n : Nat) : Prop := 1 ≤ n ∧ u < b ^ n ∧ (n = 1 ∨ b ^ (n - 1) ≤ u)

theorem ndF_fits {b : Nat} (hb : 2 ≤ b) : ∀ (k u : Nat), u < 2 ^ (k + 1) → Fits b u (ndF b k u)
  | 0, u, h => ⟨Nat.le_refl _, by simp only [ndF, Nat.pow_one]; simp at h; omega, .inl rfl⟩
  | k + 1, u, h => by
    unfold ndF
    by_cases hu : u < b
    · rw [if_pos hu]; exact ⟨Nat.le_refl _, by simpa using hu, .inl rfl⟩
    · rw [if_neg hu]
      have hd : u / b < 2 ^ (k + 1) := by
        rw [Nat.div_lt_iff_lt_mul (by omega)]
        rw [Nat.pow_succ] at h
        exact Nat.lt_of_lt_of_le h (Nat.mul_le_mul_left _ hb)
      obtain ⟨h1, h2, h3⟩ := ndF_fits hb k (u / b) hd
      refine ⟨by omega, ?_, .inr ?_⟩
      · rw [Nat.pow_succ]; exact (Nat.div_lt_iff_lt_mul (by omega)).1 h2
      · rw [Nat.add_sub_cancel]
        rcases h3 with h3 | h3
        · rw [h3, Nat.pow_one]; omega
        · have h4 := (Nat.le_div_iff_mul_le (by omega)).1 h3
          rw [← Nat.pow_succ] at h4
          rwa [show (ndF b k (u / b) - 1).succ = ndF b k (u / b) from by omega] at h4
theorem nd_fits {b u : Nat} (hb : 2 ≤ b) (hu : u < 18446744073709551616) : Fits b u (nd b u) :=
  ndF_fits hb 64 u (Nat.lt_of_lt_of_le hu (by decide))
theorem fits_one {b u m n : Nat} (hb : 2 ≤ b) (hm : Fits b u m) (hn : Fits b u n) : m = n := by
  have key : ∀ {m n : Nat}, Fits b u m → Fits b u n → ¬ m < n := fun {m n} hm hn hlt => by
    have h1 := hm.2.1
    rcases hn.2.2 with h2 | h2
    · have := hm.1; omega
    · have h3 : b ^ m ≤ b ^ (n - 1) := Nat.pow_le_pow_right (by omega) (by omega)
      omega
  have h1 := key hm hn
  have h2 := key hn hm
  omega
theorem nd_eq {b u n : Nat} (hb : 2 ≤ b) (hu : u < 18446744073709551616) (hn : Fits b u n) : nd b u = n := fits_one hb (nd_fits hb hu) hn
theorem nd_le {b u : Nat} (hb : 2 ≤ b) (hu : u < 18446744073709551616) : nd b u ≤ 64 := by
  obtain ⟨h1, h2, h3⟩ := nd_fits hb hu
  rcases h3 with h3 | h3
  · omega
  · rcases Nat.lt_or_ge 64 (nd b u) with h | h
    · have h4 : 2 ^ 64 ≤ b ^ (nd b u - 1) := Nat.le_trans (Nat.pow_le_pow_left hb 64) (Nat.pow_le_pow_right (by omega) (by omega))
      have : (2 : Nat) ^ 64 = 18446744073709551616 := by decide
      omega
    · exact h
theorem suf_length (f : Nat → UInt8) (b u : Nat) : ∀ j, (suf f b u j).length = j
  | 0 => rfl
  | j + 1 => by simp [suf, suf_length f b u j]
theorem digs_length (f : Nat → UInt8) (b u : Nat) : (digs f b u).length = nd b u := suf_length f b u _
theorem suf_snoc (f : Nat → UInt8) (b u : Nat) : ∀ j, suf f b u (j + 1) = suf f b (u / b) j ++ [f (u % b)]
  | 0 => by simp [suf]
  | j + 1 => by
    rw [suf, suf_snoc f b u j]
    show _ = f (u / b / b ^ j % b) :: suf f b (u / b) j ++ _
    rw [Nat.div_div_eq_div_mul, Nat.mul_comm b, ← Nat.pow_succ]
    rfl
theorem suf_map (f g h : Nat → UInt8) (k : UInt8 → UInt8) (b u : Nat) (hb : 0 < b) (he : ∀ d, d < b → k (f d) = h d) : ∀ j, (suf f b u j).map k = suf h b u j
  | 0 => rfl
  | j + 1 => by simp only [suf, List.map_cons, suf_map f g h k b u hb he j, he _ (Nat.mod_lt _ hb)]
theorem suf_all (f : Nat → UInt8) (p : UInt8 → Prop) (b u : Nat) (hb : 0 < b) (he : ∀ d, d < b → p (f d)) : ∀ j, ∀ c ∈ suf f b u j, p c
  | 0, _, h => by cases h
  | j + 1, c, h => by
    rcases List.mem_cons.1 h with rfl | h
    · exact he _ (Nat.mod_lt _ hb)
    · exact suf_all f p b u hb he j c h
theorem upper_lo_fin : ∀ d : Fin 36, Lib.upperB (loD d.val) = upD d.val := by decide
theorem upper_lo {d : Nat} (h : d < 36) : Lib.upperB (loD d) = upD d := upper_lo_fin ⟨d, h⟩
theorem lo_ascii_fin : ∀ d : Fin 36, (loD d.val).toNat < 128 := by decide
theorem lo_ascii {d : Nat} (h : d < 36) : (loD d).toNat < 128 := lo_ascii_fin ⟨d, h⟩
theorem nDigits_fits (u : Nat) : Fits 10 u (Lib.nDigits u) := by
  refine ⟨Lib.nDigits_pos u, Lib.lt_pow_nDigits u, ?_⟩
  induction u using Nat.strongRecOn with
  | _ u ih =>
    by_cases h : u < 10
    · exact .inl (Lib.nDigits_small h)
    · rw [Lib.nDigits_big h, Nat.add_sub_cancel]
      have hp := Lib.nDigits_pos (u / 10)
      rcases ih (u / 10) (by omega) with h3 | h3
      · rw [h3]; right; omega
      · right
        have h4 := (Nat.le_div_iff_mul_le (by decide)).1 h3
        rw [← Nat.pow_succ, show (Lib.nDigits (u / 10) - 1).succ = Lib.nDigits (u / 10) from by omega] at h4
        exact h4
theorem dec_suf (f : Nat → UInt8) (hf : ∀ d, d < 10 → f d = UInt8.ofNat (48 + d)) (u : Nat) : Lib.decDigits u = suf f 10 u (Lib.nDigits u) := by
  induction u using Nat.strongRecOn with
  | _ u ih =>
    by_cases h : u < 10
    · rw [Lib.decDigits, dif_pos h, Lib.nDigits_small h]
      simp [suf, Nat.mod_eq_of_lt h, hf u h]
    · rw [Lib.decDigits, dif_neg h, Lib.nDigits_big h, suf_snoc, ih (u / 10) (by omega), hf _ (Nat.mod_lt _ (by decide))]
theorem dec_digs (f : Nat → UInt8) (hf : ∀ d, d < 10 → f d = UInt8.ofNat (48 + d)) (u : Nat) (hu : u < 18446744073709551616) : Lib.decDigits u = digs f 10 u := by
  rw [dec_suf f hf, digs, nd_eq (by decide) hu (nDigits_fits u)]

def rightB (base : Int) : Bool := decide (2 ≤ base) && decide (base ≤ 36)
def sgn (v : Int) : List UInt8 := if v < 0 then [45] else []
/-- what a number's digits are -/
def putV (f : Nat → UInt8) (v base : Int) : List UInt8 := sgn v ++ digs f base.toNat v.natAbs
theorem itoa_put {v : Int} (hv : v.natAbs < 18446744073709551616) : Lib.itoa v = putV loD v 10 := by
  unfold Lib.itoa putV sgn
  rw [show (10 : Int).toNat = 10 from rfl, ← dec_digs loD (fun d h => by unfold loD; rw [if_pos h]) _ hv]
  split
  · rfl
  · rw [show v.toNat = v.natAbs from by omega]; rfl
theorem put_upper (v base : Int) (h0 : 2 ≤ base) (h1 : base ≤ 36) : (putV loD v base).map Lib.upperB = putV upD v base := by
  unfold putV digs sgn
  rw [List.map_append, suf_map loD loD upD Lib.upperB _ _ (by omega) (fun d hd => upper_lo (by omega))]
  congr 1
  split <;> decide
theorem put_ascii (v base : Int) (h0 : 2 ≤ base) (h1 : base ≤ 36) : ∀ c ∈ putV loD v base, c.toNat < 128 := by
  intro c hc
  unfold putV digs sgn at hc
  rcases List.mem_append.1 hc with h | h
  · split at h
    · simp at h; subst h; decide
    · cases h
  · exact suf_all loD (fun c => c.toNat < 128) _ _ (by omega) (fun d hd => lo_ascii (by omega)) _ c h
theorem put_length (f : Nat → UInt8) (v base : Int) (h0 : 2 ≤ base) (hv : v.natAbs < 18446744073709551616) : 1 ≤ (putV f v base).length ∧ (putV f v base).length ≤ 65 := by
  unfold putV sgn
  rw [List.length_append, digs_length]
  have h1 := nd_le (b := base.toNat) (u := v.natAbs) (by omega) hv
  have h2 := (nd_fits (b := base.toNat) (u := v.natAbs) (by omega) hv).1
  split <;> simp <;> omega

/-- what a byte stands for; 36: none -/
def dig (c : UInt8) : Int :=
  if 48 ≤ c.toNat ∧ c.toNat ≤ 57 then c.toNat - 48
  else if 97 ≤ c.toNat ∧ c.toNat ≤ 122 then c.toNat - 87
  else if 65 ≤ c.toNat ∧ c.toNat ≤ 90 then c.toNat - 55
  else 36
def numL (b : Int) : Int → List UInt8 → Option Int
  | v, [] => some v
  | v, c :: r => if b ≤ dig c then none else numL b (wrap64 (wrap64 (v * b) + dig c)) r
def numV (l : List UInt8) (b : Int) : Option Int := if l = [] ∨ 70 < l.length then none else numL b 0 l
def signV (c : UInt8) : Int := if c = 36 then 16 else if c = 35 then 10 else if c = 37 then 2 else 0
def signed (l : List UInt8) (b : Int) : List UInt8 × Int := match l with
  | [] => ([], b)
  | c :: r => if signV c = 0 then (c :: r, b) else (r, signV c)
def minus (l : List UInt8) : List UInt8 × Bool := match l with
  | [] => ([], false)
  | c :: r => if c = 45 then (r, true) else (c :: r, false)
def quoted (l : List UInt8) : Option UInt8 := match l with
  | [a, c, b] => if a = 39 ∧ b = 39 then some c else none
  | _ => none
def withSign (neg : Bool) : Option Int → Int × Bool
  | none => (0, false)
  | some v => (if neg then wrap64 (-v) else v, true)
/-- what a text is as a number -/
def getV (l : List UInt8) (base : Int) : Int × Bool :=
  if rightB base then
    match quoted l with
    | some c => (c.toNat, true)
    | none => withSign (minus (signed l base).1).2 (numV (minus (signed l base).1).1 (signed l base).2)
  else (0, false)

theorem wrap_step (x y k : Int) : wrap64 (wrap64 (wrap64 x * k) + y) = wrap64 (x * k + y) := by
  have h : wrap64 (wrap64 x * k) = wrap64 (x * k) := by
    unfold wrap64
    have e : ((x + 9223372036854775808) % 18446744073709551616 - 9223372036854775808) = x - 18446744073709551616 * ((x + 9223372036854775808) / 18446744073709551616) := by omega
    rw [e, Int.sub_mul, Int.mul_assoc, Int.mul_comm 18446744073709551616 (_ * k)]
    omega
  rw [h]; unfold wrap64; omega
theorem dig_up_fin : ∀ d : Fin 36, dig (upD d.val) = (d.val : Int) := by decide
theorem dig_up {d : Nat} (h : d < 36) : dig (upD d) = (d : Int) := dig_up_fin ⟨d, h⟩
theorem numL_suf (b u : Nat) (hb : 2 ≤ b) (h36 : b ≤ 36) : ∀ (j : Nat) (a : Int), numL b (wrap64 a) (suf upD b u j) = some (wrap64 (a * (b ^ j : Nat) + (u % b ^ j : Nat)))
  | 0, a => by simp [numL, suf, Nat.mod_one]
  | j + 1, a => by
    have hm : u / b ^ j % b < b := Nat.mod_lt _ (by omega)
    rw [suf, numL, dig_up (by omega), if_neg (by omega), wrap_step, numL_suf b u hb h36 j]
    congr 2
    have e : u % b ^ (j + 1) = (u / b ^ j % b) * b ^ j + u % b ^ j := by
      rw [Nat.pow_succ, Nat.mod_mul]
      rw [Nat.mul_comm (b ^ j)]; omega
    rw [e, Int.add_mul]
    have e2 : (b ^ (j + 1) : Nat) = b * b ^ j := by rw [Nat.pow_succ, Nat.mul_comm]
    rw [e2]
    push_cast
    rw [Int.mul_assoc]
    omega
theorem numV_digs {b u : Nat} (hb : 2 ≤ b) (h36 : b ≤ 36) (hu : u < 18446744073709551616) : numV (digs upD b u) b = some (wrap64 u) := by
  obtain ⟨h1, h2, h3⟩ := nd_fits hb hu
  have h4 := nd_le hb hu
  have hl := digs_length upD b u
  unfold numV
  rw [if_neg (by
    rintro (h | h)
    · rw [h] at hl; simp at hl; omega
    · omega)]
  have h := numL_suf b u hb h36 (nd b u) 0
  rw [show wrap64 0 = 0 from by unfold wrap64; omega] at h
  unfold digs
  rw [h, Int.zero_mul, Int.zero_add, Nat.mod_eq_of_lt h2]

theorem up_plain_fin : ∀ d : Fin 36, signV (upD d.val) = 0 ∧ upD d.val ≠ 45 ∧ upD d.val ≠ 39 := by decide
theorem up_plain {d : Nat} (h : d < 36) : signV (upD d) = 0 ∧ upD d ≠ 45 ∧ upD d ≠ 39 := up_plain_fin ⟨d, h⟩
/-- digits have neither a sign nor a minus nor an apostrophe -/
def Plain (c : UInt8) : Prop := signV c = 0 ∧ c ≠ 45 ∧ c ≠ 39
theorem digs_plain {b u : Nat} (hb : 2 ≤ b) (h36 : b ≤ 36) : ∀ c ∈ digs upD b u, Plain c :=
  suf_all upD Plain b u (by omega) (fun d hd => up_plain (by omega)) _
theorem quoted_head {c : UInt8} {r : List UInt8} (h : c ≠ 39) : quoted (c :: r) = none := by
  unfold quoted
  split
  · rename_i a x b e; rw [if_neg]; rintro ⟨rfl, _⟩; simp at e; exact h e.1
  · rfl
theorem neg_wrap {v : Int} (h0 : -9223372036854775808 ≤ v) (h : v < 0) : wrap64 (-wrap64 (v.natAbs : Int)) = v := by unfold wrap64; omega
theorem pos_wrap {v : Int} (h1 : v ≤ 9223372036854775807) (h : ¬ v < 0) : wrap64 (v.natAbs : Int) = v := by unfold wrap64; omega
theorem abs_lt {v : Int} (h0 : -9223372036854775808 ≤ v) (h1 : v ≤ 9223372036854775807) : v.natAbs < 18446744073709551616 := by omega
/-- a number's digits, behind the base's own sign: read they are the number -/
theorem tail_back {v : Int} {b : Nat} (hb : 2 ≤ b) (h36 : b ≤ 36) (h0 : -9223372036854775808 ≤ v) (h1 : v ≤ 9223372036854775807) :
    withSign (minus (putV upD v b)).2 (numV (minus (putV upD v b)).1 b) = (v, true) := by
  have hn := numV_digs hb h36 (abs_lt h0 h1)
  have hp := digs_plain (u := v.natAbs) hb h36
  have hl := digs_length upD b v.natAbs
  have hk := (nd_fits hb (abs_lt h0 h1)).1
  unfold putV sgn
  rw [Int.toNat_natCast]
  cases hd : digs upD b v.natAbs with
  | nil => rw [hd] at hl; simp at hl; omega
  | cons c r =>
    rw [hd] at hn hp
    by_cases h : v < 0
    · rw [if_pos h]
      show withSign (minus (45 :: c :: r)).2 (numV (minus (45 :: c :: r)).1 b) = _
      simp only [minus, if_true]
      rw [hn]
      simp only [withSign, if_true]
      rw [neg_wrap h0 h]
    · rw [if_neg h]
      have hc := (hp c List.mem_cons_self).2.1
      simp only [List.nil_append, minus]
      rw [if_neg hc, hn]
      simp only [withSign, Bool.false_eq_true, if_false]
      rw [pos_wrap h1 h]
theorem put_cons {v : Int} {b : Nat} (hb : 2 ≤ b) (h36 : b ≤ 36) (h0 : -9223372036854775808 ≤ v) (h1 : v ≤ 9223372036854775807) :
    ∃ c r, putV upD v b = c :: r ∧ signV c = 0 ∧ c ≠ 39 := by
  have hp := digs_plain (u := v.natAbs) hb h36
  have hl := digs_length upD b v.natAbs
  have hk := (nd_fits hb (abs_lt h0 h1)).1
  unfold putV sgn
  rw [Int.toNat_natCast]
  cases hd : digs upD b v.natAbs with
  | nil => rw [hd] at hl; simp at hl; omega
  | cons c r =>
    rw [hd] at hp
    by_cases h : v < 0
    · rw [if_pos h]; exact ⟨45, c :: r, rfl, by decide, by decide⟩
    · rw [if_neg h]; exact ⟨c, r, rfl, (hp c List.mem_cons_self).1, (hp c List.mem_cons_self).2.2⟩
theorem back {v base : Int} (hb : rightB base = true) (h0 : -9223372036854775808 ≤ v) (h1 : v ≤ 9223372036854775807) : getV (putV upD v base) base = (v, true) := by
  have hb' := hb
  simp only [rightB, Bool.and_eq_true, decide_eq_true_eq] at hb'
  obtain ⟨b, rfl⟩ := Int.eq_ofNat_of_zero_le (show 0 ≤ base by omega)
  obtain ⟨c, r, e, e1, e2⟩ := put_cons (v := v) (b := b) (by omega) (by omega) h0 h1
  have h := tail_back (v := v) (b := b) (by omega) (by omega) h0 h1
  unfold getV
  rw [if_pos hb]
  rw [e] at h ⊢
  rw [quoted_head e2]
  simp only [signed, if_pos e1]
  exact h
theorem back_signed {v base : Int} {b : Nat} {c : UInt8} (hb : rightB base = true) (hs : signV c = b) (hc : c ≠ 39) (hb2 : 2 ≤ b) (h36 : b ≤ 36) (h0 : -9223372036854775808 ≤ v) (h1 : v ≤ 9223372036854775807) :
    getV (c :: putV upD v b) base = (v, true) := by
  have h := tail_back (v := v) (b := b) hb2 h36 h0 h1
  unfold getV
  rw [if_pos hb, quoted_head hc]
  simp only [signed]
  rw [if_neg (by omega), hs]
  exact h
end Go.Proofs.YtlomfmilohbgpaaGreatDoor.Dig
/- The walks of package digits: Right, digit, sign, number. -/
namespace Go.Proofs.YtlomfmilohbgpaaGreatDoor
open Go.RowKit
set_option linter.unusedSimpArgs false
set_option linter.unusedVariables false

theorem right_yes (b : Int) (h : Dig.rightB b = true) (w : World) :
    Calls Tryz.prog 113 #[.int .i64 b] w fun e w' => e = .returned (.bool true) ∧ w = w' := by
  simp only [Dig.rightB, Bool.and_eq_true, decide_eq_true_eq] at h
  obtain ⟨h0, h1⟩ := h
  go_enter Tryz.func113, Tryz.ntmps113
  go_wp2
  go_ret
  exact ⟨rfl, rfl⟩
theorem right_no (b : Int) (h : Dig.rightB b = false) (w : World) :
    Calls Tryz.prog 113 #[.int .i64 b] w fun e w' => e = .returned (.bool false) ∧ w = w' := by
  simp only [Dig.rightB, Bool.and_eq_false_iff, decide_eq_false_iff_not] at h
  by_cases h0 : 2 ≤ b
  · have h1 : decide (b ≤ 36) = false := by rw [decide_eq_false_iff_not]; rcases h with h | h <;> omega
    clear h
    go_enter Tryz.func113, Tryz.ntmps113
    go_wp2
    go_ret
    exact ⟨rfl, rfl⟩
  · have h1 : b < 2 := by omega
    clear h h0
    go_enter Tryz.func113, Tryz.ntmps113
    go_wp2
    go_ret
    exact ⟨rfl, rfl⟩
theorem dig_cases (c : UInt8) : (c.toNat : Int) < 48 ∧ Dig.dig c = 36 ∨ (48 ≤ (c.toNat : Int) ∧ (c.toNat : Int) ≤ 57 ∧ Dig.dig c = (c.toNat : Int) - 48) ∨ (57 < (c.toNat : Int) ∧ (c.toNat : Int) < 65 ∧ Dig.dig c = 36)
    ∨ (65 ≤ (c.toNat : Int) ∧ (c.toNat : Int) ≤ 90 ∧ Dig.dig c = (c.toNat : Int) - 55) ∨ (90 < (c.toNat : Int) ∧ (c.toNat : Int) < 97 ∧ Dig.dig c = 36) ∨ (97 ≤ (c.toNat : Int) ∧ (c.toNat : Int) ≤ 122 ∧ Dig.dig c = (c.toNat : Int) - 87) ∨ (122 < (c.toNat : Int) ∧ Dig.dig c = 36) := by
  unfold Dig.dig
  split
  · omega
  · split
    · omega
    · split <;> omega
theorem ret_int {k : IntKind} {a b : Int} (h : a = b) : Ending.returned (.int k a) = .returned (.int k b) := by rw [h]
theorem sign_cases (c : UInt8) : (c.toNat : Int) = 36 ∧ Dig.signV c = 16 ∨ (c.toNat : Int) = 35 ∧ Dig.signV c = 10 ∨ (c.toNat : Int) = 37 ∧ Dig.signV c = 2 ∨ (¬ (c.toNat : Int) = 36 ∧ ¬ (c.toNat : Int) = 35 ∧ ¬ (c.toNat : Int) = 37 ∧ Dig.signV c = 0) := by
  have e : ∀ k : UInt8, c = k ↔ (c.toNat : Int) = (k.toNat : Int) := fun k => ⟨fun h => by rw [h], fun h => UInt8.toNat_inj.1 (by omega)⟩
  unfold Dig.signV
  simp only [e]
  show _ ∧ (if (c.toNat : Int) = 36 then (16 : Int) else if (c.toNat : Int) = 35 then 10 else if (c.toNat : Int) = 37 then 2 else 0) = 16 ∨ _ ∧ (if (c.toNat : Int) = 36 then (16 : Int) else if (c.toNat : Int) = 35 then 10 else if (c.toNat : Int) = 37 then 2 else 0) = 10 ∨ _ ∧ (if (c.toNat : Int) = 36 then (16 : Int) else if (c.toNat : Int) = 35 then 10 else if (c.toNat : Int) = 37 then 2 else 0) = 2 ∨ (_ ∧ _ ∧ _ ∧ (if (c.toNat : Int) = 36 then (16 : Int) else if (c.toNat : Int) = 35 then 10 else if (c.toNat : Int) = 37 then 2 else 0) = 0)
  split
  · omega
  · split
    · omega
    · split <;> omega
/-- what a number, or none, is told as -/
abbrev Num (o : Int × Bool) : Ending := .returned (.tuple #[.int .i64 o.1, .bool o.2])
theorem drop_get (l : List UInt8) (k : Nat) (h : k < l.length) : l.drop k = l[k] :: l.drop (k + 1) := List.drop_eq_getElem_cons h
theorem minus_eq (l : List UInt8) : Dig.minus l = (Lib.trimPrefix l [45], Lib.hasPrefix l [45]) := by
  unfold Dig.minus Lib.trimPrefix Lib.hasPrefix
  cases l with
  | nil => rfl
  | cons c r =>
    by_cases h : c = 45
    · subst h; simp [List.isPrefixOf]
    · have h' : ((45 : UInt8) == c) = false := by simpa using fun e => h e.symm
      simp [List.isPrefixOf, h, h']
theorem minus_len (l : List UInt8) : (Dig.minus l).1.length ≤ l.length := by
  rw [minus_eq]; exact Lib.trimPrefix_le _ _
/-- what stands behind the apostrophes' test -/
def restV (l : List UInt8) (base : Int) : Int × Bool := Dig.withSign (Dig.minus (Dig.signed l base).1).2 (Dig.numV (Dig.minus (Dig.signed l base).1).1 (Dig.signed l base).2)
theorem signV_range (c : UInt8) (h : ¬ Dig.signV c = 0) : 2 ≤ Dig.signV c ∧ Dig.signV c ≤ 36 := by
  rcases sign_cases c with ⟨_, e⟩ | ⟨_, e⟩ | ⟨_, e⟩ | ⟨_, _, _, e⟩ <;> omega
end Go.Proofs.YtlomfmilohbgpaaGreatDoor
/- The walks of the library's small callees: internal/strconv.isPowerOfTwo, math/bits.TrailingZeros at a base's powers. -/
namespace Go.Proofs.YtlomfmilohbgpaaGreatDoor
open Go.RowKit
set_option linter.unusedSimpArgs false
set_option linter.unusedVariables false

def powB (b : Int) : Bool := bits .and .i64 b (b - 1) == 0
theorem pow_walk (b : Int) (h0 : 2 ≤ b) (h1 : b ≤ 36) (w : World) :
    Calls Tryz.prog 153 #[.int .i64 b] w fun e w' => e = .returned (.bool (powB b)) ∧ w = w' := by
  go_enter Tryz.func153, Tryz.ntmps153
  go_wp2
  go_ret
  exact ⟨rfl, rfl⟩
theorem pow_fin : ∀ b : Fin 37, 2 ≤ b.val → powB (b.val : Int) = true → b.val = 2 ∨ b.val = 4 ∨ b.val = 8 ∨ b.val = 16 ∨ b.val = 32 := by decide +kernel
theorem pow_cases {b : Nat} (h0 : 2 ≤ b) (h1 : b ≤ 36) (h : powB b = true) : b = 2 ∨ b = 4 ∨ b = 8 ∨ b = 16 ∨ b = 32 := pow_fin ⟨b, by omega⟩ h0 h
/-- the table of the trailing zeros, as the row lists it -/
def tz64 : List Int := Lib.deBruijn64tab.map fun (n : Nat) => (n : Int)
def Zeros (w : World) : Prop := Lib.TabIs Tryz.prog w "math/bits.deBruijn64tab" .u8 tz64
theorem Tryz.gz : Tryz.prog.globalNamed "math/bits.deBruijn64tab" = some 8 := by kernel_rfl
theorem Zeros.at {w : World} (h : Zeros w) (i : Nat) (hi : i < 64) : w.cell? ⟨8, i, none⟩ = some (.int .u8 (tz64.getD i 0)) := by
  have := h.cell Tryz.gz i (by show i < tz64.length; rw [show tz64.length = 64 from by decide]; exact hi)
  simpa using this
set_option maxHeartbeats 1000000 in
theorem tz_core (a k : Int) (ha : (a == 0) = false) (k0 : 0 ≤ k) (k1 : k ≤ 64) (w : World)
    (h0 : 0 ≤ IntKind.u64.wrap (bits .and .u64 a (IntKind.u64.wrap (-a)) * 285870213051353865) / 288230376151711744)
    (h1 : IntKind.u64.wrap (bits .and .u64 a (IntKind.u64.wrap (-a)) * 285870213051353865) / 288230376151711744 < 64)
    (hc : w.cell? ⟨8, (IntKind.u64.wrap (bits .and .u64 a (IntKind.u64.wrap (-a)) * 285870213051353865) / 288230376151711744).toNat, none⟩ = some (.int .u8 k)) :
    Calls Tryz.prog 159 #[.int .u64 a] w fun e w' => e = .returned (.int .i64 k) ∧ w = w' := by
  go_enter Tryz.func159, Tryz.ntmps159
  go_wp2
  go_ret
  exact ⟨rfl, rfl⟩
theorem tz_at (a k : Int) (i : Nat) (hi : i < 64) (ha : (a == 0) = false) (k0 : 0 ≤ k) (k1 : k ≤ 64) (e : IntKind.u64.wrap (bits .and .u64 a (IntKind.u64.wrap (-a)) * 285870213051353865) / 288230376151711744 = (i : Int)) (ek : tz64.getD i 0 = k) (w : World) (h : Zeros w) :
    Calls Tryz.prog 159 #[.int .u64 a] w fun e w' => e = .returned (.int .i64 k) ∧ w = w' :=
  tz_core a k ha k0 k1 w (by rw [e]; omega) (by rw [e]; omega) (by rw [e, ← ek, Int.toNat_natCast]; exact h.at i hi)
theorem tz64_at (b : Nat) (k : Int) (hk : b = 2 ∧ k = 1 ∨ b = 4 ∧ k = 2 ∨ b = 8 ∧ k = 3 ∨ b = 16 ∧ k = 4 ∨ b = 32 ∧ k = 5) (w : World) (h : Zeros w) :
    Calls Tryz.prog 159 #[.int .u64 b] w fun e w' => e = .returned (.int .i64 k) ∧ w = w' := by
  rcases hk with ⟨rfl, rfl⟩ | ⟨rfl, rfl⟩ | ⟨rfl, rfl⟩ | ⟨rfl, rfl⟩ | ⟨rfl, rfl⟩
  · exact tz_at _ _ (2 ^ 1 * 285870213051353865 % 18446744073709551616 / 288230376151711744) (by decide) rfl (by decide) (by decide) (by decide +kernel) (by decide +kernel) w h
  · exact tz_at _ _ (2 ^ 2 * 285870213051353865 % 18446744073709551616 / 288230376151711744) (by decide) rfl (by decide) (by decide) (by decide +kernel) (by decide +kernel) w h
  · exact tz_at _ _ (2 ^ 3 * 285870213051353865 % 18446744073709551616 / 288230376151711744) (by decide) rfl (by decide) (by decide) (by decide +kernel) (by decide +kernel) w h
  · exact tz_at _ _ (2 ^ 4 * 285870213051353865 % 18446744073709551616 / 288230376151711744) (by decide) rfl (by decide) (by decide) (by decide +kernel) (by decide +kernel) w h
  · exact tz_at _ _ (2 ^ 5 * 285870213051353865 % 18446744073709551616 / 288230376151711744) (by decide) rfl (by decide) (by decide) (by decide +kernel) (by decide +kernel) w h
theorem tz_walk (b : Nat) (k : Int) (hk : b = 2 ∧ k = 1 ∨ b = 4 ∧ k = 2 ∨ b = 8 ∧ k = 3 ∨ b = 16 ∧ k = 4 ∨ b = 32 ∧ k = 5) (w : World) (h : Zeros w) :
    Calls Tryz.prog 154 #[.int .u64 b] w fun e w' => e = .returned (.int .i64 k) ∧ w = w' := by
  have C := Lib.hid (tz64_at b k hk w h)
  have hb : (b : Int) ≤ 32 := by omega
  clear hk h
  go_enter Tryz.func154, Tryz.ntmps154
  go_wp2_with (go_at_call 159; refine C.out.mono ?_; rintro e w' ⟨rfl, rfl⟩)
  go_ret
  exact ⟨rfl, rfl⟩
end Go.Proofs.YtlomfmilohbgpaaGreatDoor
/- The walk of internal/strconv.formatBits. -/
namespace Go.Proofs.YtlomfmilohbgpaaGreatDoor
open Go.RowKit
set_option linter.unusedSimpArgs false
set_option linter.unusedVariables false
abbrev byteV (c : UInt8) : Value := .int .u8 (c.toNat : Int)
abbrev lowText : ByteArray := ⟨#[48, 49, 50, 51, 52, 53, 54, 55, 56, 57, 97, 98, 99, 100, 101, 102, 103, 104, 105, 106, 107, 108, 109, 110, 111, 112, 113, 114, 115, 116, 117, 118, 119, 120, 121, 122]⟩
/-- the last cells of 65 are these bytes -/
def Filled (c : Array Value) (l : List UInt8) : Prop := c.size = 65 ∧ ∃ pre, c.toList = pre ++ l.map byteV
def FmtRel (b U j n : Nat) (c : Array Value) (u i : Value) : Prop := j < Dig.nd b U ∧ n + j = 65 ∧ u = .int .u64 (U / b ^ j : Nat) ∧ i = .int .i64 n ∧ Filled c (Dig.suf Dig.loD b U j)
theorem Tryz.zeroSize : Tryz.zeroCells194.size = 65 := by kernel_rfl
theorem fill_step {c : Array Value} {l : List UInt8} {n : Nat} {x : UInt8} {v : Value} (h : Filled c l) (hl : n + l.length = 65) (hn : 0 < n) (hv : v = byteV x) : Filled (c.setIfInBounds (n - 1) v) (x :: l) := by
  obtain ⟨hc, pre, hp⟩ := h
  subst hv
  have hlen : pre.length = n := by
    have := congrArg List.length hp
    rw [Array.length_toList, hc] at this
    simp at this
    omega
  obtain ⟨p, y, rfl⟩ : ∃ p y, pre = p ++ [y] := ⟨_, _, (List.dropLast_concat_getLast (l := pre) (by intro h; rw [h] at hlen; simp at hlen; omega)).symm⟩
  have hpl : p.length = n - 1 := by simp at hlen; omega
  refine ⟨by simpa using hc, p, ?_⟩
  rw [Array.toList_setIfInBounds, hp, List.append_assoc, List.set_append_right _ _ (by omega), hpl, Nat.sub_self]
  rfl
theorem div_nat (q b : Nat) : ((q : Int) / (b : Int)) = ((q / b : Nat) : Int) := by omega
theorem cell_in {c : Array Value} {k : Nat} (hc : c.size = 65) (hk : k < 65) : ∃ v, c[k]? = some v := ⟨c[k], Array.getElem?_eq_getElem (by omega)⟩
theorem low_fin : ∀ k : Fin 36, lowText[k.val]? = some (Dig.loD k.val) := by decide +kernel
theorem low_at {m k : Nat} (h : m < lowText.size) (hm : m = k) (hk : k < 36) : lowText[m] = Dig.loD k := by
  subst hm
  have h1 := low_fin ⟨m, hk⟩
  have h2 : lowText[m]? = some lowText[m] := getElem?_pos lowText m h
  exact Option.some.inj (h2.symm.trans h1)
/-- what stands in the array and the index when the digits are laid -/
def Laid (b U : Nat) (w : World) (i : Value) (wx : World) : Prop := ∃ n c, n + Dig.nd b U = 65 ∧ i = .int .i64 n ∧ Filled c (Dig.digs Dig.loD b U) ∧ wx = w.alloc (.cells c 194)
theorem laid_end {b U j n q : Nat} {c : Array Value} {v : Value} {w : World} {i : Value} (h2 : 2 ≤ b) (h36 : b ≤ 36) (hu : U < 18446744073709551616) (hq : U / b ^ j = q) (hqb : q < b) (hn : n + j = 65) (hj : j < Dig.nd b U) (hc : Filled c (Dig.suf Dig.loD b U j)) (hv : v = byteV (Dig.loD q)) (hi : i = .int .i64 ((n : Int) - 1)) (hpre : j = 0 ∨ b ^ j ≤ U) :
    Laid b U w i (w.alloc (.cells (c.setIfInBounds (n - 1) v) 194)) := by
  have hjl := Nat.lt_of_lt_of_le hj (Dig.nd_le h2 hu)
  have hd : Dig.digs Dig.loD b U = Dig.loD q :: Dig.suf Dig.loD b U j := by
    unfold Dig.digs
    have hlt : U < b ^ (j + 1) := by
      rw [Nat.pow_succ', ← Nat.div_lt_iff_lt_mul (Nat.pow_pos (by omega)), hq]; exact hqb
    rw [Dig.nd_eq h2 hu (n := j + 1) ⟨by omega, hlt, ?_⟩, Dig.suf, hq, Nat.mod_eq_of_lt hqb]
    rcases hpre with h | h
    · left; omega
    · right; simpa using h
  have hnd : Dig.nd b U = j + 1 := by
    have := congrArg List.length hd
    rw [Dig.digs_length, List.length_cons, Dig.suf_length] at this
    exact this
  refine ⟨n - 1, _, by omega, by rw [hi]; exact congrArg (Value.int .i64) (by omega), ?_, rfl⟩
  rw [hd]
  exact fill_step hc (by rw [Dig.suf_length]; exact hn) (by omega) hv
theorem go_on {b U j q : Nat} (h2 : 2 ≤ b) (hf : Dig.Fits b U (Dig.nd b U)) (hq : U / b ^ j = q) (hbq : b ≤ q) : j + 1 < Dig.nd b U ∧ b ^ (j + 1) ≤ U := by
  have hp : 0 < b ^ j := Nat.pow_pos (by omega)
  have h4 : b ^ (j + 1) ≤ U := by
    rw [Nat.pow_succ']
    exact (Nat.le_div_iff_mul_le hp).1 (by rw [hq]; exact hbq)
  refine ⟨?_, h4⟩
  rcases Nat.lt_or_ge (j + 1) (Dig.nd b U) with h | h
  · exact h
  · have h1 : b ^ Dig.nd b U ≤ b ^ (j + 1) := Nat.pow_le_pow_right (by omega) h
    have h3 := hf.2.1
    omega
def FmtRel' (b U j n : Nat) (c : Array Value) (u i : Value) : Prop := FmtRel b U j n c u i ∧ (j = 0 ∨ b ^ j ≤ U)
theorem fmt_start (b U : Nat) (hf : Dig.Fits b U (Dig.nd b U)) : FmtRel' b U 0 65 Tryz.zeroCells194 (.int .u64 U) (.int .i64 65) :=
  ⟨⟨hf.1, rfl, by rw [Nat.pow_zero, Nat.div_one], rfl, Tryz.zeroSize, _, (List.append_nil _).symm⟩, .inl rfl⟩
theorem fmt_next {b U j n q : Nat} {c : Array Value} {v : Value} {u i : Value} (h2 : 2 ≤ b) (hf : Dig.Fits b U (Dig.nd b U)) (hq : U / b ^ j = q) (hbq : b ≤ q) (hn : n + j = 65) (hn0 : 0 < n) (hc : Filled c (Dig.suf Dig.loD b U j)) (hv : v = byteV (Dig.loD (q % b)))
    (hu : u = .int .u64 ((q / b : Nat) : Int)) (hi : i = .int .i64 ((n : Int) - 1)) : FmtRel' b U (j + 1) (n - 1) (c.setIfInBounds (n - 1) v) u i := by
  obtain ⟨hlt, hge⟩ := go_on h2 hf hq hbq
  refine ⟨⟨hlt, by omega, ?_, ?_, ?_⟩, .inr hge⟩
  · rw [hu, ← hq, Nat.div_div_eq_div_mul, ← Nat.pow_succ]
  · rw [hi]; exact congrArg (Value.int .i64) (by omega)
  · rw [Dig.suf, hq]
    exact fill_step hc (by rw [Dig.suf_length]; exact hn) hn0 hv
theorem mod_nat {q b : Nat} : ((q : Int) - (q : Int) / (b : Int) * (b : Int)).toNat = q % b := by
  have := Int.emod_def (q : Int) (b : Int)
  rw [Int.mul_comm] at this
  omega
theorem and_low {q b : Nat} {k : Int} (hk : b = 2 ∧ k = 1 ∨ b = 4 ∧ k = 2 ∨ b = 8 ∧ k = 3 ∨ b = 16 ∧ k = 4 ∨ b = 32 ∧ k = 5) (hq : q < 18446744073709551616) : bits .and .u64 (q : Int) ((b : Int) - 1) = ((q % b : Nat) : Int) := by
  have key : ∀ n, bits .and .u64 (q : Int) ((2 ^ n - 1 : Nat) : Int) = ((q % 2 ^ n : Nat) : Int) ∨ 18446744073709551616 ≤ 2 ^ n - 1 := fun n => by
    rcases Nat.lt_or_ge (2 ^ n - 1) 18446744073709551616 with h | h
    · left; rw [u64_and_nat _ _ hq h, Nat.and_two_pow_sub_one_eq_mod]
    · right; exact h
  rcases hk with ⟨rfl, _⟩ | ⟨rfl, _⟩ | ⟨rfl, _⟩ | ⟨rfl, _⟩ | ⟨rfl, _⟩
  · exact (key 1).resolve_right (by decide)
  · exact (key 2).resolve_right (by decide)
  · exact (key 3).resolve_right (by decide)
  · exact (key 4).resolve_right (by decide)
  · exact (key 5).resolve_right (by decide)
theorem shr_low {q b : Nat} {k : Int} (hk : b = 2 ∧ k = 1 ∨ b = 4 ∧ k = 2 ∨ b = 8 ∧ k = 3 ∨ b = 16 ∧ k = 4 ∨ b = 32 ∧ k = 5) : (q : Int) / 2 ^ k.toNat = ((q / b : Nat) : Int) := by
  rcases hk with ⟨rfl, rfl⟩ | ⟨rfl, rfl⟩ | ⟨rfl, rfl⟩ | ⟨rfl, rfl⟩ | ⟨rfl, rfl⟩ <;> rfl
theorem Zeros.alloc {w : World} (h : Zeros w) (o : Obj) : Zeros (w.alloc o) := Lib.tabIs_alloc h o
theorem slice_at (N : Nat) (W : World) (x : Int) (h0 : 0 ≤ x) (h1 : x < 65) : (Instr.sliceAt 194 (.pointer (some ⟨N, 0, none⟩)) (some (.int .i64 x)) none none).run Tryz.prog W = .ok (.slice (some ⟨N, x.toNat, none⟩) (65 - x.toNat) (65 - x.toNat)) W := by
  have hal : Tryz.prog.arrayLen 194 = 65 := by simp [Program.arrayLen, Tryz.underlying194]
  rw [run_sliceAt_array_l W 194 ⟨N, 0, none⟩ (by simp [Program.arrayLen, Program.elem, Tryz.underlying194]) .i64 x h0 (by rw [hal]; omega)]
  go_simp
  omega
def sg (neg : Bool) : List UInt8 := if neg then [45] else []
set_option maxRecDepth 100000 in
theorem text_of_cells (w : World) (c : Array Value) (l : List UInt8) (m : Nat) (hm : m + l.length = 65) (h : Filled c l) :
    (convert 140 9 (.slice (some ⟨w.heap.size, m, none⟩) (65 - m) (65 - m))).run Tryz.prog (w.alloc (.cells c 194)) = .ok (.string ⟨l.toArray⟩) (w.alloc (.cells c 194)) := by
  obtain ⟨hc, pre, hp⟩ := h
  have hpl : pre.length = m := by
    have := congrArg List.length hp
    rw [Array.length_toList, hc] at this
    simp at this
    omega
  have e := run_convert_bytes_arg (P := Tryz.prog) (w.alloc (.cells c 194)) 140 5 Tryz.underlying140 Tryz.underlying5 w.heap.size m (65 - m) (65 - m) (l.map fun x => (x.toNat : Int)) (by simp; omega)
    (fun i hi => by
      rw [World.cell?_alloc_new, ← Array.getElem?_toList, hp, List.getElem?_append_right (by omega), hpl, Nat.add_sub_cancel_left]
      have hi' : i < l.length := by omega
      simp [hi', List.getD, List.getElem?_eq_getElem hi']) 9 Tryz.underlying9
  rw [e]
  congr 2
  simp only [strOfNums, List.map_map]
  exact congrArg (fun x : List UInt8 => (⟨x.toArray⟩ : ByteArray)) ((List.map_congr_left (g := id) fun x _ => by simp).trans (List.map_id l))
set_option maxHeartbeats 4000000 in
set_option maxRecDepth 100000 in
theorem format_any (U b : Nat) (neg : Bool) (x : Int) (hx : (neg = false ∧ x = U) ∨ (neg = true ∧ IntKind.u64.wrap (-x) = (U : Int))) (h2 : 2 ≤ b) (h36 : b ≤ 36) (h10 : ((b : Int) == 10) = false) (hU : U ≤ 9223372036854775808) (w : World) (hw : Zeros w) :
    Calls Tryz.prog 144 #[.slice none 0 0, .int .u64 x, .int .i64 b, .bool neg, .bool false] w fun e w' => e = .returned (.tuple #[.slice none 0 0, .string ⟨(sg neg ++ Dig.digs Dig.loD b U).toArray⟩]) ∧ Below w.heap.size w w' := by
  have P := Lib.hid (pow_walk b (by omega) (by omega))
  have HF := Lib.hid (Dig.nd_fits (b := b) (u := U) h2 (by omega))
  have HX := Lib.hid hx
  have HZ := Lib.hid hw
  clear hx hw
  go_enter Tryz.func144, Tryz.ntmps144
  go_upto_if 30 with fail
  go_cut [1] (fun u wx => u = .int .u64 U ∧ wx = w.alloc (.cells Tryz.zeroCells194 194))
  case first =>
    rcases HX.out with ⟨rfl, rfl⟩ | ⟨rfl, h⟩
    · go_wp2_with fail; go_meet; exact ⟨rfl, rfl⟩
    · go_wp2_with fail; go_meet; exact ⟨rfl, rfl⟩
  case rest =>
    obtain ⟨rfl, rfl⟩ := hcut
    go_upto_if 34 with (go_at_call 153; refine (P.out _).mono ?_; rintro e w' ⟨rfl, rfl⟩)
    go_cut [13] (fun i wx => Hid (Laid b U w i wx))
    case first =>
      cases hp : powB b
      · go_wp2
        go_loopg [1, 13] (Dig.nd b U) (fun k u i wr => ∃ j n c, k = Dig.nd b U - j ∧ Hid (FmtRel' b U j n c u i) ∧ wr = w.alloc (.cells c 194))
        case atStart => exact ⟨0, 65, _, by omega, fmt_start b U HF.out, rfl⟩
        case round =>
          obtain ⟨j, n, c, rfl, HR, rfl⟩ := hrel
          obtain ⟨⟨hj, hn, rfl, rfl, hf⟩, hge⟩ := HR.out
          have hc := hf.1
          obtain ⟨q, hq⟩ : ∃ q, U / b ^ j = q := ⟨_, rfl⟩
          rw [hq]
          have hqU : q ≤ U := by rw [← hq]; exact Nat.div_le_self _ _
          have hj64 := Nat.lt_of_lt_of_le hj (Dig.nd_le h2 (by omega))
          have hn0 : 0 < n := by omega
          have hn65 : n ≤ 65 := by omega
          have HN := Lib.hid hn
          have HQ := Lib.hid hq
          have HC := Lib.hid hf
          have HG := Lib.hid hge
          obtain ⟨v0, hv0⟩ := cell_in (k := n - 1) hc (by omega)
          clear HR hq hf hn hge
          by_cases hq0 : b ≤ q
          · have r0 : 0 ≤ (q : Int) / (b : Int) := Int.ediv_nonneg (by omega) (by omega)
            have r1 : (q : Int) / (b : Int) * (b : Int) ≤ (q : Int) := Int.ediv_mul_le _ (by omega)
            have r2 : (q : Int) - (q : Int) / (b : Int) * (b : Int) < (b : Int) := by have := Int.emod_lt_of_pos (q : Int) (show (0 : Int) < b by omega); have := Int.emod_def (q : Int) (b : Int); rw [Int.mul_comm] at this; omega
            have r3 : 0 ≤ (q : Int) / (b : Int) * (b : Int) := Int.mul_nonneg r0 (by omega)
            have r4 : (q : Int) / (b : Int) ≤ (q : Int) := Int.ediv_le_self _ (by omega)
            go_wp2
            go_roundg (Dig.nd b U - (j + 1))
            case measure => omega
            case rel => exact ⟨j + 1, n - 1, _, rfl, fmt_next h2 HF.out HQ.out hq0 HN.out hn0 HC.out (congrArg byteV (low_at _ mod_nat (by have := Nat.mod_lt q (show b > 0 by omega); omega))) (congrArg (Value.int .u64) (div_nat q b)) rfl, rfl⟩
          · have hq' : (q : Int) < (b : Int) := by omega
            have hz : q < 36 := by omega
            go_wp2
            go_meet
            exact laid_end h2 h36 (by omega) HQ.out (by omega) HN.out hj HC.out (congrArg byteV (low_at _ rfl hz)) rfl HG.out
      · have hbc := pow_cases h2 h36 hp
        obtain ⟨k, hk⟩ : ∃ k : Int, b = 2 ∧ k = 1 ∨ b = 4 ∧ k = 2 ∨ b = 8 ∧ k = 3 ∨ b = 16 ∧ k = 4 ∨ b = 32 ∧ k = 5 := by
          rcases hbc with h | h | h | h | h
          · exact ⟨1, .inl ⟨h, rfl⟩⟩
          · exact ⟨2, .inr (.inl ⟨h, rfl⟩)⟩
          · exact ⟨3, .inr (.inr (.inl ⟨h, rfl⟩))⟩
          · exact ⟨4, .inr (.inr (.inr (.inl ⟨h, rfl⟩)))⟩
          · exact ⟨5, .inr (.inr (.inr (.inr ⟨h, rfl⟩)))⟩
        have T := Lib.hid (tz_walk b k hk _ (HZ.out.alloc (.cells Tryz.zeroCells194 194)))
        have k1 : 1 ≤ k := by omega
        have k5 : k ≤ 5 := by omega
        have HK := Lib.hid hk
        clear hbc hk
        go_wp2_with (go_at_call 154; refine T.out.mono ?_; rintro e w' ⟨rfl, rfl⟩)
        go_loopg [1, 13] (Dig.nd b U) (fun k u i wr => ∃ j n c, k = Dig.nd b U - j ∧ Hid (FmtRel' b U j n c u i) ∧ wr = w.alloc (.cells c 194))
        case atStart => exact ⟨0, 65, _, by omega, fmt_start b U HF.out, rfl⟩
        case round =>
          obtain ⟨j, n, c, rfl, HR, rfl⟩ := hrel
          obtain ⟨⟨hj, hn, rfl, rfl, hf⟩, hge⟩ := HR.out
          have hc := hf.1
          obtain ⟨q, hq⟩ : ∃ q, U / b ^ j = q := ⟨_, rfl⟩
          rw [hq]
          have hqU : q ≤ U := by rw [← hq]; exact Nat.div_le_self _ _
          have hj64 := Nat.lt_of_lt_of_le hj (Dig.nd_le h2 (by omega))
          have hn0 : 0 < n := by omega
          have hn65 : n ≤ 65 := by omega
          have HN := Lib.hid hn
          have HQ := Lib.hid hq
          have HC := Lib.hid hf
          have HG := Lib.hid hge
          obtain ⟨v0, hv0⟩ := cell_in (k := n - 1) hc (by omega)
          have hqm : q % b < 36 := by have := Nat.mod_lt q (show b > 0 by omega); omega
          clear HR hq hf hn hge
          by_cases hq0 : b ≤ q
          · have hand := and_low (q := q) HK.out (by omega)
            have hshr := shr_low (q := q) HK.out
            go_wp2
            go_roundg (Dig.nd b U - (j + 1))
            case measure => omega
            case rel => exact ⟨j + 1, n - 1, _, rfl, fmt_next h2 HF.out HQ.out hq0 HN.out hn0 HC.out (congrArg byteV (low_at _ (by first | rfl | simp) hqm)) rfl rfl, rfl⟩
          · have hq' : (q : Int) < (b : Int) := by omega
            have hz : q < 36 := by omega
            go_wp2
            go_meet
            exact laid_end h2 h36 (by omega) HQ.out (by omega) HN.out hj HC.out (congrArg byteV (low_at _ rfl hz)) rfl HG.out
    case rest =>
      obtain ⟨n, c, hn, rfl, hf, rfl⟩ := hcut.out
      have hl := Dig.digs_length Dig.loD b U
      have hn0 : 0 < n := by have := Dig.nd_le (b := b) (u := U) h2 (by omega); omega
      have hn65 : n < 65 := by have := HF.out.1; omega
      have HN := Lib.hid hn
      have HL := Lib.hid hf
      obtain ⟨v0, hv0⟩ := cell_in (k := n - 1) hf.1 (by omega)
      clear hcut hn hf hl
      go_upto_if 89 with fail
      go_cut [13] (fun i wx => Hid (∃ (m : Nat) (c : Array Value), m + (sg neg ++ Dig.digs Dig.loD b U).length = 65 ∧ i = .int .i64 m ∧ Filled c (sg neg ++ Dig.digs Dig.loD b U) ∧ wx = w.alloc (.cells c 194)))
      case first =>
        cases neg
        · go_wp2_with fail
          go_meet
          exact ⟨n, c, by have h1 := HN.out; rw [← Dig.digs_length Dig.loD] at h1; exact h1, rfl, HL.out, rfl⟩
        · go_wp2_with fail
          go_meet
          exact ⟨n - 1, _, by have h1 := HN.out; have h3 := Dig.digs_length Dig.loD b U; rw [show sg true ++ Dig.digs Dig.loD b U = 45 :: Dig.digs Dig.loD b U from rfl, List.length_cons]; omega, congrArg (Value.int .i64) (by omega), fill_step (x := 45) (l := Dig.digs Dig.loD b U) HL.out (by rw [Dig.digs_length]; exact HN.out) hn0 rfl, rfl⟩
      case rest =>
        obtain ⟨m, c2, hm, rfl, hf2, rfl⟩ := hcut.out
        have hl1 : 1 ≤ (sg neg ++ Dig.digs Dig.loD b U).length := by
          rw [List.length_append, Dig.digs_length]; have := HF.out.1; omega
        obtain ⟨l, hl⟩ : ∃ l, (sg neg ++ Dig.digs Dig.loD b U) = l := ⟨_, rfl⟩
        rw [hl] at hm hf2 hl1
        have hsl := slice_at w.heap.size (w.alloc (.cells c2 194)) m (by omega) (by omega)
        have hcv := text_of_cells w c2 l m hm hf2
        rw [Int.toNat_natCast] at hsl
        have HL2 := Lib.hid hl
        clear hl hcut hm hf2 hl1 hv0 hn0 hn65 hU
        go_wp2
        go_ret2
        exact ⟨by rw [HL2.out]; rfl, (Below.refl _ _).alloc (Nat.le_refl _) _⟩
end Go.Proofs.YtlomfmilohbgpaaGreatDoor
/- The walk of the document's own Put (hollowayref1: digits). -/
namespace Go.Proofs.YtlomfmilohbgpaaGreatDoor
open Go.RowKit
set_option linter.unusedSimpArgs false
set_option linter.unusedVariables false

abbrev txt (l : List UInt8) : Value := .string ⟨l.toArray⟩
abbrev upText : ByteArray := ⟨#[48, 49, 50, 51, 52, 53, 54, 55, 56, 57, 65, 66, 67, 68, 69, 70, 71, 72, 73, 74, 75, 76, 77, 78, 79, 80, 81, 82, 83, 84, 85, 86, 87, 88, 89, 90]⟩
theorem up_piece_fin : ∀ k : Fin 36, (upText.data.toList.drop k.val).take 1 = [Dig.upD k.val] := by decide +kernel
theorem up_piece {k : Nat} (h : k < 36) : upText.extract k (k + 1) = ⟨[Dig.upD k].toArray⟩ := by
  rw [Lib.extract_eq, Nat.add_sub_cancel_left, up_piece_fin ⟨k, h⟩]
theorem txt_cons (c : UInt8) (l : List UInt8) : (⟨[c].toArray⟩ : ByteArray) ++ ⟨l.toArray⟩ = ⟨(c :: l).toArray⟩ := by
  apply ByteArray.ext; simp [ByteArray.data_append]
def PutRel (b U j : Nat) (u s : Value) : Prop := j ≤ Dig.nd b U ∧ (j ≤ 1 ∨ b ^ (j - 1) ≤ U) ∧ u = .int .u64 (U / b ^ j : Nat) ∧ s = txt (Dig.suf Dig.upD b U j)
theorem neg_u64 {U : Nat} (h : (U : Int) ≤ 9223372036854775808) : IntKind.u64.wrap (-IntKind.u64.wrap (-(U : Int))) = (U : Int) := by
  have e : ∀ x, IntKind.u64.wrap x = x % 18446744073709551616 := fun x => by simp [IntKind.wrap, IntKind.bits, IntKind.signed]
  rw [e, e]; omega
theorem pos_u64 {U : Nat} (h : (U : Int) ≤ 9223372036854775807) : IntKind.u64.wrap (U : Int) = (U : Int) := by
  have e : ∀ x, IntKind.u64.wrap x = x % 18446744073709551616 := fun x => by simp [IntKind.wrap, IntKind.bits, IntKind.signed]
  rw [e]; omega
theorem put_start (b U : Nat) (x : Int) (h : x = U) : PutRel b U 0 (.int .u64 x) (.string ⟨#[]⟩) :=
  ⟨Nat.zero_le _, .inl (Nat.zero_le _), by rw [h, Nat.pow_zero, Nat.div_one], rfl⟩
theorem put_next {b U j q : Nat} {l : List UInt8} (hf : Dig.Fits b U (Dig.nd b U)) (h2 : 2 ≤ b) (hq : U / b ^ j = q) (hl : Dig.suf Dig.upD b U j = l) (hgo : 0 < q ∨ j = 0) :
    j < Dig.nd b U ∧ PutRel b U (j + 1) (.int .u64 (q / b : Nat)) (txt (Dig.upD (q % b) :: l)) := by
  have hb : 0 < b ^ j := Nat.pow_pos (by omega)
  have hlt : j < Dig.nd b U := by
    rcases hgo with h | h
    · rcases Nat.lt_or_ge j (Dig.nd b U) with h3 | h3
      · exact h3
      · have h4 : b ^ Dig.nd b U ≤ b ^ j := Nat.pow_le_pow_right (by omega) h3
        have : U / b ^ j = 0 := Nat.div_eq_of_lt (Nat.lt_of_lt_of_le hf.2.1 h4)
        omega
    · have := hf.1; omega
  refine ⟨hlt, hlt, ?_, ?_, ?_⟩
  · rcases hgo with h | h
    · right
      rw [Nat.add_sub_cancel]
      rw [← hq] at h
      exact (Nat.div_pos_iff.1 h).2
    · left; omega
  · rw [← hq, Nat.div_div_eq_div_mul, ← Nat.pow_succ]
  · rw [Dig.suf, hq, hl]
theorem put_end {b U j : Nat} (hu : U < 18446744073709551616) (h2 : 2 ≤ b) (hj : 1 ≤ j) (hq : U / b ^ j = 0) (hlow : j ≤ 1 ∨ b ^ (j - 1) ≤ U) : Dig.suf Dig.upD b U j = Dig.digs Dig.upD b U := by
  unfold Dig.digs
  rw [Dig.nd_eq h2 hu ⟨hj, ?_, ?_⟩]
  · rcases Nat.lt_or_ge U (b ^ j) with h | h
    · exact h
    · have := Nat.div_pos h (Nat.pow_pos (by omega)); omega
  · rcases hlow with h | h
    · left; omega
    · right; exact h
theorem mod_int (q b : Nat) : ((q : Int) % (b : Int)) = ((q % b : Nat) : Int) := by omega
theorem div_int (q b : Nat) : ((q : Int) / (b : Int)) = ((q / b : Nat) : Int) := by omega
/-- what Put tells, whatever the base is -/
def putT (v b : Int) : List UInt8 := if Dig.rightB b then Dig.putV Dig.upD v b else []
end Go.Proofs.YtlomfmilohbgpaaGreatDoor
