/- The walks of package fault: Text; a Builder of a call's own. -/
import Derived.Test.YtoajkbdadcepaaaGreatDoorFaultText
import Derived.Test.YtoajkbdadcepaaaGreatDoorFaultFind
import Derived.Test.YtoajkbdadcepaaaGreatDoorShelf
namespace Go.Proofs.YtoajkbdadcepaaaGreatDoor
open Go.RowKit Go.Extern.Stop Go.Stop Go.Extern
set_option linter.unusedSimpArgs false
set_option linter.unusedVariables false

abbrev strV (l : List UInt8) : Value := .string ⟨l.toArray⟩
theorem cat (a b : List UInt8) : ((⟨a.toArray⟩ : ByteArray) ++ ⟨b.toArray⟩) = ⟨(a ++ b).toArray⟩ := by
  apply ByteArray.ext; simp [ByteArray.data_append]
/-- the table of powers of ten, as the row lists it -/
def Pows (w : World) : Prop := Lib.TabIs Tryz.prog w "internal/strconv.uint64pow10" .u64 Lib.pow10Tab
theorem grow_below {B : Nat} (w : World) (h : B ≤ w.heap.size) (k : Nat) (os : Array Obj) : Below B w (Go.Sort.grow (w.drewN k) os) := by
  refine ⟨rfl, rfl, rfl, ?_, ?_⟩
  · show w.heap.size ≤ (w.heap ++ os).size
    simp
  · intro j hj
    show (w.heap ++ os)[j]? = w.heap[j]?
    rw [Array.getElem?_append_left (by omega)]
theorem wf_in {c : Int} (hn : (Lit.int .i64 c).wf = true) : -9223372036854775808 ≤ c ∧ c ≤ 9223372036854775807 := by
  simp only [Lit.wf, IntKind.min, IntKind.max, IntKind.signed, IntKind.bits, Bool.and_eq_true, decide_eq_true_eq, if_true] at hn
  omega
theorem itoa_any (n : Int) (hn : (Lit.int .i64 n).wf = true) (w : World) (hp : Pows w) :
    Calls Tryz.prog 21 #[.int .i64 n] w fun e w' => e = .returned (strV (Lib.itoa n)) ∧ Below w.heap.size w w' :=
  (Tryz.strconv_Itoa n (wf_in hn).1 (wf_in hn).2 w hp).mono fun e w' ⟨h1, k, os, h2⟩ => ⟨h1, h2 ▸ grow_below w (Nat.le_refl _) k os⟩
set_option maxHeartbeats 1000000 in
theorem text_any (c : Int) (hn : (Lit.int .i64 c).wf = true) (w : World) (hp : Pows w) :
    Calls Tryz.prog 15 #[.int .i64 c] w fun e w' => e = .returned (strV (textOf c)) ∧ Below w.heap.size w w' := by
  have C := Lib.hid (itoa_any c hn w hp)
  have hil := itoa_len (wf_in hn).1 (wf_in hn).2
  clear hn hp
  rcases code_cases c with rfl | rfl | rfl | rfl | rfl | rfl | rfl | rfl | rfl | rfl | rfl | rfl | rfl | h
  iterate 13
    · go_enter Tryz.func15, Tryz.ntmps15
      go_wp2
      go_ret
      exact ⟨rfl, Below.refl _ _⟩
  have HT := Lib.hid (textOf_other h)
  obtain ⟨h1, h2, h3, h4, h5, h6, h7, h8, h9, h10, h11, h12, h13⟩ := h
  have e : ∀ {k : Int}, c ≠ k → (c == k) = false := fun h => by simpa using h
  have g1 := e h1
  have g2 := e h2
  have g3 := e h3
  have g4 := e h4
  have g5 := e h5
  have g6 := e h6
  have g7 := e h7
  have g8 := e h8
  have g9 := e h9
  have g10 := e h10
  have g11 := e h11
  have g12 := e h12
  have g13 := e h13
  clear e h1 h2 h3 h4 h5 h6 h7 h8 h9 h10 h11 h12 h13
  go_enter Tryz.func15, Tryz.ntmps15
  go_wp2_with (go_at_call 21; refine C.out.mono ?_; rintro e w1 ⟨rfl, hb⟩)
  go_ret
  exact ⟨by rw [HT.out]; exact congrArg (fun x => Ending.returned (.string x)) (cat throwText _), hb⟩
end Go.Proofs.YtoajkbdadcepaaaGreatDoor
