/- The walks of package fault, second part: errors.As at **seen; errors.As itself; find. -/
import Derived.Test.YtoajkbdadcepaaaGreatDoorFaultWalks
import Derived.Defers
import Derived.Recover
import Derived.RegionTactic
import Derived.ChangeAlike
namespace Go.Proofs.YtoajkbdadcepaaaGreatDoor
open Go.RowKit Go.Extern.Stop Go.Stop Go.Extern
set_option linter.unusedSimpArgs false
set_option linter.unusedVariables false

abbrev tgF (T : Nat) : Value := .iface 72 (.pointer (some ⟨T, 0, none⟩))
abbrev tgS (T : Nat) : Value := .iface 73 (.pointer (some ⟨T, 0, none⟩))
set_option maxHeartbeats 4000000 in
theorem as_s_hit (b e0 : Nat) (T n : Nat) (o0 : Value) (w : World)
    (hnl : n < w.heap.size) (hTl : T < w.heap.size) (hn : w.cell? ⟨n, 0, none⟩ = some (.pointer (some ⟨T, 0, none⟩)))
    (ht : w.cell? ⟨T, 0, none⟩ = some o0) (hf : w.frozen? ⟨T, 0, none⟩ = false) :
    Calls Tryz.prog 66 #[seenV b, tgS T, pV 73 ⟨n, 0, none⟩ 150, rty 49] w fun e w' =>
      e = .returned (.bool true) ∧ w' = ((w.setCell ⟨T, 0, none⟩ (.pointer (some ⟨b, 0, none⟩))).alloc (rvCells 73 n)).alloc (.cells #[.pointer (some ⟨b, 0, none⟩)] 49) := by
  have h1 := @run_callFunc_extern Tryz.prog 49 _ ReflectliteType.typeOf Tryz.func49 (by kernel_rfl) (by kernel_rfl) (by kernel_rfl) (by kernel_rfl)
  have h2 := @run_callFunc_extern Tryz.prog 114 _ (ReflectliteType.relation "AssignableTo" ReflectliteType.assignableTo) Tryz.func114 (by kernel_rfl) (by kernel_rfl) (by kernel_rfl) (by kernel_rfl)
  have h3 := @run_callFunc_extern Tryz.prog 69 _ (ReflectliteValue.method (ReflectliteValue.valueError "reflectlite.Value.Elem" 0) ReflectliteValue.elem) Tryz.func69 (by kernel_rfl) (by kernel_rfl) (by kernel_rfl) (by kernel_rfl)
  have h4 := @run_callFunc_extern Tryz.prog 70 _ ReflectliteValue.set Tryz.func70 (by kernel_rfl) (by kernel_rfl) (by kernel_rfl) (by kernel_rfl)
  have h5 := @run_callFunc_extern Tryz.prog 63 _ (fun args => ReflectliteValue.unpack (args.getD 0 (.tuple #[]))) Tryz.func63 (by kernel_rfl) (by kernel_rfl) (by kernel_rfl) (by kernel_rfl)
  have q2 := Tryz.typeOf_s
  have q3 := Tryz.methodAssignableTo
  have q5 := Tryz.assign_ss
  have q9 := Tryz.valueOf_s ⟨b, 0, none⟩
  have el := Tryz.elemV_ps ⟨n, 0, none⟩ ⟨T, 0, none⟩ (w.alloc (rvCells 73 n)) (by rw [World.cell?_alloc_lt _ _ ⟨n, 0, none⟩ hnl]; exact hn)
  have st := Tryz.set_s ⟨T, 0, none⟩ ⟨w.heap.size + 1, 0, none⟩ ⟨b, 0, none⟩ o0 ((w.alloc (rvCells 73 n)).alloc (.cells #[.pointer (some ⟨b, 0, none⟩)] 49))
    (by rw [World.cell?_alloc_at _ _ _ _ (by simp)]; rfl)
    (by rw [World.cell?_alloc_lt _ _ ⟨T, 0, none⟩ (by simp; omega), World.cell?_alloc_lt _ _ ⟨T, 0, none⟩ hTl]; exact ht)
    (by rw [World.frozen?_alloc_old _ _ ⟨T, 0, none⟩ (by simp; omega), World.frozen?_alloc_old _ _ ⟨T, 0, none⟩ (Nat.ne_of_lt hTl)]; exact hf)
  clear hn ht hf
  go_enter Tryz.func66, Tryz.ntmps66
  go_wp2
  refine wp_loop_rounds 1 ?_
  rw [rounds_succ]
  go_wp2
  go_ret
  exact ⟨rfl, rfl⟩
set_option maxHeartbeats 4000000 in
theorem as_s_miss (c i : Int) (T n : Nat) (w : World) :
    Calls Tryz.prog 66 #[faultV c i, tgS T, pV 73 ⟨n, 0, none⟩ 150, rty 49] w fun e w' =>
      e = .returned (.bool false) ∧ w' = w.alloc (rvCells 73 n) := by
  have h1 := @run_callFunc_extern Tryz.prog 49 _ ReflectliteType.typeOf Tryz.func49 (by kernel_rfl) (by kernel_rfl) (by kernel_rfl) (by kernel_rfl)
  have h2 := @run_callFunc_extern Tryz.prog 114 _ (ReflectliteType.relation "AssignableTo" ReflectliteType.assignableTo) Tryz.func114 (by kernel_rfl) (by kernel_rfl) (by kernel_rfl) (by kernel_rfl)
  have q2 := Tryz.typeOf_f
  have q3 := Tryz.methodAssignableTo
  have q5 := Tryz.assign_fs
  have q6 := Tryz.noAs_f
  have q7 := Tryz.noUn_f
  have q8 := Tryz.noUns_f
  go_enter Tryz.func66, Tryz.ntmps66
  go_wp2
  refine wp_loop_rounds 1 ?_
  rw [rounds_succ]
  go_wp2
  go_ret
  exact ⟨rfl, rfl⟩
/-- the variable errors.errorType, as the row lists it -/
def ErrorType (w : World) : Prop := w.cell? ⟨0, 0, none⟩ = some (rty 25)
theorem ErrorType.lt {w : World} (h : ErrorType w) : 0 < w.heap.size := by
  rcases Nat.lt_or_ge 0 w.heap.size with h0 | h0
  · exact h0
  · simp [ErrorType, World.cell?, Array.getElem?_eq_none h0] at h
theorem ErrorType.mono {w w' : World} (h : ErrorType w) (hb : Below w.heap.size w w') : ErrorType w' := by
  unfold ErrorType; rw [hb.cell h.lt]; exact h
set_option maxHeartbeats 4000000 in
theorem As_f (ws : List ByteArray) (v : Value) (c i : Int) (T : Nat) (o0 o1 : Value) (w : World) (hch : Chain w c i ws v) (hg : ErrorType w) (hTl : T < w.heap.size)
    (ht : w.cell? ⟨T, 0, none⟩ = some o0) (ht1 : w.cell? ⟨T, 1, none⟩ = some o1) (hf : w.frozen? ⟨T, 0, none⟩ = false) (hf1 : w.frozen? ⟨T, 1, none⟩ = false) :
    Calls Tryz.prog 47 #[v, tgF T] w fun e w' =>
      e = .returned (.bool true) ∧ w' = (((((w.setCell ⟨T, 0, none⟩ (.int .i64 c)).setCell ⟨T, 1, none⟩ (.int .i64 i)).alloc (.cells #[.pointer (some ⟨T, 0, none⟩)] 72)).alloc (rvCells 72 w.heap.size)).alloc (rvCells 72 w.heap.size)).alloc (.cells #[.int .i64 c, .int .i64 i] 47) := by
  obtain ⟨t, x, rfl⟩ := hch.iface
  have h5 := @run_callFunc_extern Tryz.prog 63 _ (fun args => ReflectliteValue.unpack (args.getD 0 (.tuple #[]))) Tryz.func63 (by kernel_rfl) (by kernel_rfl) (by kernel_rfl) (by kernel_rfl)
  have h7 := @run_callFunc_extern Tryz.prog 64 _ (ReflectliteValue.methodAny (ReflectliteValue.valueError "reflectlite.Value.Type" 0) (fun t _ _ _ => ReflectliteType.toType t)) Tryz.func64 (by kernel_rfl) (by kernel_rfl) (by kernel_rfl) (by kernel_rfl)
  have h8 := @run_callFunc_extern Tryz.prog 65 _ (ReflectliteValue.method (ReflectliteValue.valueError "reflectlite.Value.IsNil" 0) ReflectliteValue.isNil) Tryz.func65 (by kernel_rfl) (by kernel_rfl) (by kernel_rfl) (by kernel_rfl)
  have h27 := @run_callFunc_extern Tryz.prog 96 _ (ReflectliteType.abiMethod fun t => do pure (.int .u8 (← Rtype.kind t))) Tryz.func96 (by kernel_rfl) (by kernel_rfl) (by kernel_rfl) (by kernel_rfl)
  have h37 := @run_callFunc_extern Tryz.prog 116 _ (ReflectliteType.method ReflectliteType.elem) Tryz.func116 (by kernel_rfl) (by kernel_rfl) (by kernel_rfl) (by kernel_rfl)
  have h38 := @run_callFunc_extern Tryz.prog 117 _ (ReflectliteType.relation "Implements" ReflectliteType.implements_) Tryz.func117 (by kernel_rfl) (by kernel_rfl) (by kernel_rfl) (by kernel_rfl)
  have f6 := Tryz.valueOf_pf
  have f7 := Tryz.type_pf
  have mK := Tryz.methodKind
  have mE := Tryz.methodElem
  have mI := Tryz.methodImplements
  have k1 := Tryz.kind_pf
  have k2 := Tryz.kind_f
  have e1 := Tryz.elem_pf
  have i1 := Tryz.impl_f
  have n8 := Tryz.isNil_pf ⟨w.heap.size, 0, none⟩ ⟨T, 0, none⟩ ((w.alloc (.cells #[.pointer (some ⟨T, 0, none⟩)] 72)).alloc (rvCells 72 w.heap.size)) (by simp)
  have hl := hg.lt
  have hg2 : ((w.alloc (.cells #[.pointer (some ⟨T, 0, none⟩)] 72)).alloc (rvCells 72 w.heap.size)).cell? ⟨0, 0, none⟩ = some (rty 25) := by
    rw [World.cell?_alloc_lt _ _ ⟨0, 0, none⟩ (by simp <;> omega), World.cell?_alloc_lt _ _ ⟨0, 0, none⟩ hl]; exact hg
  have C := as_f ws (.iface t x) c i T w.heap.size o0 o1 ((w.alloc (.cells #[.pointer (some ⟨T, 0, none⟩)] 72)).alloc (rvCells 72 w.heap.size)) (hch.alloc.alloc)
    (by simp; omega) (by simp; omega) (by simp)
    (by rw [World.cell?_alloc_lt _ _ ⟨T, 0, none⟩ (by simp; omega), World.cell?_alloc_lt _ _ ⟨T, 0, none⟩ hTl]; exact ht)
    (by rw [World.cell?_alloc_lt _ _ ⟨T, 1, none⟩ (by simp; omega), World.cell?_alloc_lt _ _ ⟨T, 1, none⟩ hTl]; exact ht1)
    (by rw [World.frozen?_alloc_old _ _ ⟨T, 0, none⟩ (by simp; omega), World.frozen?_alloc_old _ _ ⟨T, 0, none⟩ (Nat.ne_of_lt hTl)]; exact hf)
    (by rw [World.frozen?_alloc_old _ _ ⟨T, 1, none⟩ (by simp; omega), World.frozen?_alloc_old _ _ ⟨T, 1, none⟩ (Nat.ne_of_lt hTl)]; exact hf1)
  have C' := Lib.hid C
  clear C hch hg ht ht1 hf hf1
  go_enter Tryz.func47, Tryz.ntmps47
  go_wp2_with (go_at_call 66; refine C'.out.mono ?_; rintro e w' ⟨rfl, rfl⟩)
  go_ret
  exact ⟨rfl, by go_simp⟩
end Go.Proofs.YtoajkbdadcepaaaGreatDoor
