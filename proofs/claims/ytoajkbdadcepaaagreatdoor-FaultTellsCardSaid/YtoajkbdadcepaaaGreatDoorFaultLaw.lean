/- The law's own text of a code; the text of a fault. -/
import Derived.Test.YtoajkbdadcepaaaGreatDoorFaultTell
import Derived.Test.YtoajkbdadcepaaaGreatDoorPows
import Derived.Test.YtoajkbdadcepaaaGreatDoorDigRefPut
import Derived.Test.YtoajkbdadcepaaaGreatDoorBookPlain
import Derived.Deep.RegionHeld3
import Derived.Deep.DrawnRows
namespace Go.Proofs.YtoajkbdadcepaaaGreatDoor
open Go.RowKit Go.Extern.Stop Go.Stop Go.Extern
set_option linter.unusedSimpArgs false
set_option linter.unusedVariables false
theorem put_up {v : Int} (hv : v.natAbs < 18446744073709551616) : Lib.itoa v = Dig.putV Dig.upD v 10 := by
  unfold Lib.itoa Dig.putV Dig.sgn
  rw [show (10 : Int).toNat = 10 from rfl, ← Dig.dec_digs Dig.upD (fun d h => by unfold Dig.upD; rw [if_pos h]) _ hv]
  split
  · rfl
  · rw [List.nil_append, show v.toNat = v.natAbs from by omega]
theorem refPut10 (c : Int) (hn : (Lit.int .i64 c).wf = true) (w : World) :
    Calls Tryz.prog 7 #[.int .i64 c, .int .i64 10] w fun e w' => e = .returned (strV (Lib.itoa c)) ∧ w = w' := by
  have h := refPut_any c 10 (wf_in hn).1 (wf_in hn).2 w
  have e : putT c 10 = Lib.itoa c := by
    rw [put_up (by have := (wf_in hn).1; have := (wf_in hn).2; omega)]
    rfl
  rw [e] at h
  exact h
set_option maxHeartbeats 1000000 in
theorem lawText_any (c : Int) (hn : (Lit.int .i64 c).wf = true) (w : World) :
    Calls Tryz.prog 6 #[.int .i64 c] w fun e w' => e = .returned (strV (textOf c)) ∧ w = w' := by
  have C := Lib.hid (refPut10 c hn w)
  have hil := itoa_len (wf_in hn).1 (wf_in hn).2
  clear hn
  rcases code_cases c with rfl | rfl | rfl | rfl | rfl | rfl | rfl | rfl | rfl | rfl | rfl | rfl | rfl | h
  iterate 13
    · go_enter Tryz.func6, Tryz.ntmps6
      go_wp2
      go_ret
      exact ⟨rfl, rfl⟩
  have HT := Lib.hid (textOf_other h)
  obtain ⟨h1, h2, h3, h4, h5, h6, h7, h8, h9, h10, h11, h12, h13⟩ := h
  have e : ∀ {k : Int}, c ≠ k → (c == k) = false := fun h => by simpa using h
  have g1 := e h1
  have g2 := e h2
  have g3 := e h3
  have g4 := e h4
  have g5 := e h5
  have g6 := e h6
  have g7 := e h7
  have g8 := e h8
  have g9 := e h9
  have g10 := e h10
  have g11 := e h11
  have g12 := e h12
  have g13 := e h13
  clear e h1 h2 h3 h4 h5 h6 h7 h8 h9 h10 h11 h12 h13
  go_enter Tryz.func6, Tryz.ntmps6
  go_wp2_with (go_at_call 7; refine C.out.mono ?_; rintro e w1 ⟨rfl, rfl⟩)
  go_ret
  exact ⟨by rw [HT.out]; exact congrArg (fun x => Ending.returned (.string x)) (cat throwText _), rfl⟩
/-- what a fault tells -/
def faultText (c i : Int) : List UInt8 := textOf c ++ [32, 97, 116, 32] ++ Lib.itoa i
set_option maxHeartbeats 2000000 in
theorem faultError_any (c i : Int) (hc : (Lit.int .i64 c).wf = true) (hi : (Lit.int .i64 i).wf = true) : Tells Pows c i ⟨(faultText c i).toArray⟩ := by
  intro w hp
  have hP := Lib.hid hp
  have T := fun w hp => Lib.hid (text_any c hc w hp)
  have I := fun w hp => Lib.hid (itoa_any i hi w hp)
  have hl1 := textOf_len (wf_in hc).1 (wf_in hc).2
  have hl2 := itoa_len (wf_in hi).1 (wf_in hi).2
  have g1 : ¬ 9223372036854775807 < (textOf c).length + 4 := by omega
  have g2 : ¬ 9223372036854775807 < (textOf c).length + 4 + (Lib.itoa i).length := by omega
  clear hp hl1 hl2
  obtain ⟨wb, hwb⟩ : ∃ wb, w.alloc (.cells #[.int .i64 c, .int .i64 i] 47) = wb := ⟨_, rfl⟩
  have hb0 : Below w.heap.size w wb := by rw [← hwb]; exact (Below.refl _ _).alloc (Nat.le_refl _) _
  have k0 : wb.cell? ⟨w.heap.size, 0, none⟩ = some (.int .i64 c) := by rw [← hwb]; simp
  have k1 : wb.cell? ⟨w.heap.size, 1, none⟩ = some (.int .i64 i) := by rw [← hwb]; simp
  have HB0 := Lib.hid hb0
  have P0 := Lib.hid (show Pows wb.drew from (hP.out.mono hb0).mono (Below.refl _ _).drew)
  clear hb0
  go_enter Tryz.func99, Tryz.ntmps99
  go_wp2_with fail
  clear hwb
  go_region_held3 (fun w' => w'.cell? ⟨w.heap.size, 0, none⟩ = some (.int .i64 c) ∧ w'.cell? ⟨w.heap.size, 1, none⟩ = some (.int .i64 i) ∧ Hid (Below wb.heap.size wb w'))
    (first
      | exact ⟨(Book.Stirred.of_below HB1.out []).cell List.not_mem_nil k0, (Book.Stirred.of_below HB1.out []).cell List.not_mem_nil k1, HB1⟩
      | exact ⟨(Book.Stirred.of_below HB2.out []).cell List.not_mem_nil k0, (Book.Stirred.of_below HB2.out []).cell List.not_mem_nil k1, HB2⟩
      | exact ⟨k0, k1, (Below.refl _ _).drew⟩)
    (first
      | (go_at_call 15; refine (T _ (by first | exact P2.out | exact P0.out)).out.mono ?_; rintro e w1 ⟨rfl, hb⟩; have P1 := Lib.hid (show Pows w1 from by first | exact P2.out.mono hb | exact P0.out.mono hb); have HB1 := Lib.hid (show Below wb.heap.size wb w1 from by first | exact HB2.out.trans (hb.mono HB2.out.size) | exact (Below.refl wb.heap.size wb).drew.trans hb); clear hb)
      | (go_at_call 21; refine (I _ (by first | exact P1.out | exact P0.out)).out.mono ?_; rintro e w2 ⟨rfl, hb⟩; have P2 := Lib.hid (show Pows w2 from by first | exact P1.out.mono hb | exact P0.out.mono hb); have HB2 := Lib.hid (show Below wb.heap.size wb w2 from by first | exact HB1.out.trans (hb.mono HB1.out.size) | exact (Below.refl wb.heap.size wb).drew.trans hb); clear hb))
  all_goals go_wp2
  all_goals go_ret
  · exact ⟨congrArg (fun x => Ending.returned (.string x)) (by rw [show (⟨#[32, 97, 116, 32]⟩ : ByteArray) = ⟨([32, 97, 116, 32] : List UInt8).toArray⟩ from rfl, cat, cat]; rfl), HB0.out.trans (HB2.out.mono HB0.out.size)⟩
end Go.Proofs.YtoajkbdadcepaaaGreatDoor
