
/- The walks of package fault, second part: errors.As at **seen; errors.As itself; find. -/
import Derived.Test.YtlomfmilohbgpaaGreatDoorFaultWalks
import Derived.Defers
import Derived.Recover
import Derived.RegionTactic
import Derived.ChangeAlike
namespace Go.Proofs.YtlomfmilohbgpaaGreatDoor
open Go.RowKit Go.Extern.Stop Go.Stop Go.Extern
set_option linter.unusedSimpArgs false
set_option linter.unusedVariables false

abbrev tgF (T : Nat) : Value := .iface 126 (.pointer (some ⟨T, 0, none⟩))
/-- the variable errors.errorType, as the row lists it -/
def ErrorType (w : World) : Prop := w.cell? ⟨1, 0, none⟩ = some (rty 80)
theorem ErrorType.lt {w : World} (h : ErrorType w) : 1 < w.heap.size := by
  rcases Nat.lt_or_ge 1 w.heap.size with h0 | h0
  · exact h0
  · simp [ErrorType, World.cell?, Array.getElem?_eq_none h0] at h
theorem ErrorType.mono {w w' : World} (h : ErrorType w) (hb : Below w.heap.size w w') : ErrorType w' := by
  unfold ErrorType; rw [hb.cell h.lt]; exact h
set_option maxHeartbeats 4000000 in
theorem As_f (ws : List ByteArray) (v : Value) (c i : Int) (T : Nat) (o0 o1 : Value) (w : World) (hch : Chain w c i ws v) (hg : ErrorType w) (hTl : T < w.heap.size)
    (ht : w.cell? ⟨T, 0, none⟩ = some o0) (ht1 : w.cell? ⟨T, 1, none⟩ = some o1) (hf : w.frozen? ⟨T, 0, none⟩ = false) (hf1 : w.frozen? ⟨T, 1, none⟩ = false) :
    Calls Tryz.prog 83 #[v, tgF T] w fun e w' =>
      e = .returned (.bool true) ∧ w' = (((((w.setCell ⟨T, 0, none⟩ (.int .i64 c)).setCell ⟨T, 1, none⟩ (.int .i64 i)).alloc (.cells #[.pointer (some ⟨T, 0, none⟩)] 126)).alloc (rvCells 126 w.heap.size)).alloc (rvCells 126 w.heap.size)).alloc (.cells #[.int .i64 c, .int .i64 i] 110) := by
  obtain ⟨t, x, rfl⟩ := hch.iface
  have h5 := @run_callFunc_extern Tryz.prog 95 _ (fun args => ReflectliteValue.unpack (args.getD 0 (.tuple #[]))) Tryz.func95 (by kernel_rfl) (by kernel_rfl) (by kernel_rfl) (by kernel_rfl)
  have h7 := @run_callFunc_extern Tryz.prog 96 _ (ReflectliteValue.methodAny (ReflectliteValue.valueError "reflectlite.Value.Type" 0) (fun t _ _ _ => ReflectliteType.toType t)) Tryz.func96 (by kernel_rfl) (by kernel_rfl) (by kernel_rfl) (by kernel_rfl)
  have h8 := @run_callFunc_extern Tryz.prog 97 _ (ReflectliteValue.method (ReflectliteValue.valueError "reflectlite.Value.IsNil" 0) ReflectliteValue.isNil) Tryz.func97 (by kernel_rfl) (by kernel_rfl) (by kernel_rfl) (by kernel_rfl)
  have h27 := @run_callFunc_extern Tryz.prog 174 _ (ReflectliteType.abiMethod fun t => do pure (.int .u8 (← Rtype.kind t))) Tryz.func174 (by kernel_rfl) (by kernel_rfl) (by kernel_rfl) (by kernel_rfl)
  have h37 := @run_callFunc_extern Tryz.prog 187 _ (ReflectliteType.method ReflectliteType.elem) Tryz.func187 (by kernel_rfl) (by kernel_rfl) (by kernel_rfl) (by kernel_rfl)
  have h38 := @run_callFunc_extern Tryz.prog 188 _ (ReflectliteType.relation "Implements" ReflectliteType.implements_) Tryz.func188 (by kernel_rfl) (by kernel_rfl) (by kernel_rfl) (by kernel_rfl)
  have f6 := Tryz.valueOf_pf
  have f7 := Tryz.type_pf
  have mK := Tryz.methodKind
  have mE := Tryz.methodElem
  have mI := Tryz.methodImplements
  have k1 := Tryz.kind_pf
  have k2 := Tryz.kind_f
  have e1 := Tryz.elem_pf
  have i1 := Tryz.impl_f
  have n8 := Tryz.isNil_pf ⟨w.heap.size, 0, none⟩ ⟨T, 0, none⟩ ((w.alloc (.cells #[.pointer (some ⟨T, 0, none⟩)] 126)).alloc (rvCells 126 w.heap.size)) (by simp)
  have hl := hg.lt
  have hg2 : ((w.alloc (.cells #[.pointer (some ⟨T, 0, none⟩)] 126)).alloc (rvCells 126 w.heap.size)).cell? ⟨1, 0, none⟩ = some (rty 80) := by
    rw [World.cell?_alloc_lt _ _ ⟨1, 0, none⟩ (by simp <;> omega), World.cell?_alloc_lt _ _ ⟨1, 0, none⟩ hl]; exact hg
  have C := as_f ws (.iface t x) c i T w.heap.size o0 o1 ((w.alloc (.cells #[.pointer (some ⟨T, 0, none⟩)] 126)).alloc (rvCells 126 w.heap.size)) (hch.alloc.alloc)
    (by simp; omega) (by simp; omega) (by simp)
    (by rw [World.cell?_alloc_lt _ _ ⟨T, 0, none⟩ (by simp; omega), World.cell?_alloc_lt _ _ ⟨T, 0, none⟩ hTl]; exact ht)
    (by rw [World.cell?_alloc_lt _ _ ⟨T, 1, none⟩ (by simp; omega), World.cell?_alloc_lt _ _ ⟨T, 1, none⟩ hTl]; exact ht1)
    (by rw [World.frozen?_alloc_old _ _ ⟨T, 0, none⟩ (by simp; omega), World.frozen?_alloc_old _ _ ⟨T, 0, none⟩ (Nat.ne_of_lt hTl)]; exact hf)
    (by rw [World.frozen?_alloc_old _ _ ⟨T, 1, none⟩ (by simp; omega), World.frozen?_alloc_old _ _ ⟨T, 1, none⟩ (Nat.ne_of_lt hTl)]; exact hf1)
  have C' := Lib.hid C
  clear C hch hg ht ht1 hf hf1
  go_enter Tryz.func83, Tryz.ntmps83
  go_wp2_with (go_at_call 98; refine C'.out.mono ?_; rintro e w' ⟨rfl, rfl⟩)
  go_ret
  exact ⟨rfl, by go_simp⟩
end Go.Proofs.YtlomfmilohbgpaaGreatDoor
