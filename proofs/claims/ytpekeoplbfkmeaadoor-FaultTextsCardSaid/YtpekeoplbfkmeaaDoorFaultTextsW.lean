/- The walk of hollowaylaw2.FaultTexts. -/
import Derived.Test.YtpekeoplbfkmeaaDoorFaultAlive
namespace Go.Proofs.YtpekeoplbfkmeaaDoor
open Go.RowKit Go.Extern.Stop Go.Stop Go.Extern
set_option linter.unusedSimpArgs false
set_option linter.unusedVariables false
theorem Pows.mono {w w' : World} (h : Pows w) (hb : Below w.heap.size w w') : Pows w' := by
  have hg : Tryd.prog.globalNamed "internal/strconv.uint64pow10" = some 1 := by kernel_rfl
  unfold Pows Lib.TabIs World.var? at *
  rw [hg, Option.bind_some] at h ⊢
  have hl : 1 < w.heap.size := by
    rcases Nat.lt_or_ge 1 w.heap.size with h0 | h0
    · exact h0
    · rw [Array.getElem?_eq_none h0] at h; cases h
  rw [hb.block _ hl]; exact h
set_option maxHeartbeats 4000000 in
set_option maxRecDepth 100000 in
theorem faultTexts_walk (a b : Int) (wa : (Lit.int .i64 a).wf = true) (wb : (Lit.int .i64 b).wf = true) (w : World) (hg : ErrorType w) (hp : Pows w) :
    Calls Tryd.prog 4 #[.int .i64 a, .int .i64 b] w fun e w' => e = .returned (.bool true) ∧ Below w.heap.size w w' := by
  have C := Lib.hid (alive_any w hg)
  have HP := Lib.hid hp
  by_cases hab : a = b
  · subst hab
    have A := Lib.hid (text_any a wa)
    have e2 : (textOf a).isEmpty = false := by simpa using textOf_ne a
    generalize textOf a = ta at *
    clear hg hp wa wb
    go_enter Tryd.func4, Tryd.ntmps4
    go_wp2_with (go_at_call 5; refine C.out.mono ?_)
    rintro e w1 ⟨rfl, hb1⟩
    go_wp2_with (go_at_call 12; refine (A.out w1 (HP.out.mono hb1)).mono ?_)
    rintro e w2 ⟨rfl, hb2⟩
    have hb2' := hb1.trans (hb2.mono hb1.size)
    go_wp2_with (go_at_call 12; refine (A.out w2 (HP.out.mono hb2')).mono ?_)
    rintro e w3 ⟨rfl, hb3⟩
    have hb3' := hb2'.trans (hb3.mono hb2'.size)
    go_wp2_with (go_at_call 12; refine (A.out w3 (HP.out.mono hb3')).mono ?_)
    rintro e w4 ⟨rfl, hb4⟩
    have hb4' := hb3'.trans (hb4.mono hb3'.size)
    go_wp2
    go_ret
    exact ⟨rfl, hb4'⟩
  · have A := Lib.hid (text_any a wa)
    have B := Lib.hid (text_any b wb)
    have e1 : ¬ textOf a = textOf b := fun h => hab (textOf_inj h)
    have e2 : (textOf a).isEmpty = false := by simpa using textOf_ne a
    have e3 : (a == b) = false := by simpa using hab
    generalize textOf a = ta at *
    generalize textOf b = tb at *
    have e4 : (ta == tb) = false := by simpa using e1
    clear hab hg hp wa wb
    go_enter Tryd.func4, Tryd.ntmps4
    go_wp2_with (go_at_call 5; refine C.out.mono ?_)
    rintro e w1 ⟨rfl, hb1⟩
    go_wp2_with (go_at_call 12; refine (A.out w1 (HP.out.mono hb1)).mono ?_)
    rintro e w2 ⟨rfl, hb2⟩
    have hb2' := hb1.trans (hb2.mono hb1.size)
    go_wp2_with (go_at_call 12; refine (B.out w2 (HP.out.mono hb2')).mono ?_)
    rintro e w3 ⟨rfl, hb3⟩
    have hb3' := hb2'.trans (hb3.mono hb2'.size)
    go_wp2_with (go_at_call 12; refine (A.out w3 (HP.out.mono hb3')).mono ?_)
    rintro e w4 ⟨rfl, hb4⟩
    have hb4' := hb3'.trans (hb4.mono hb3'.size)
    go_wp2
    go_ret
    exact ⟨rfl, hb4'⟩
end Go.Proofs.YtpekeoplbfkmeaaDoor
