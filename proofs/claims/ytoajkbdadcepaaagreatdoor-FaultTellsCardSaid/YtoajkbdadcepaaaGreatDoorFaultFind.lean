/- The walks of package fault, third part: errors.As at **seen; find at both types. -/
import Derived.Test.YtoajkbdadcepaaaGreatDoorFaultWalks2
namespace Go.Proofs.YtoajkbdadcepaaaGreatDoor
open Go.RowKit Go.Extern.Stop Go.Stop Go.Extern
set_option linter.unusedSimpArgs false
set_option linter.unusedVariables false

set_option maxHeartbeats 4000000 in
theorem As_s (t : TypeId) (x : Value) (v : Value) (vi : v = .iface t x) (T : Nat) (w : World) (hg : ErrorType w) (hTl : T < w.heap.size) (bv : Bool) (W : World)
    (C : Calls Tryz.prog 66 #[v, tgS T, pV 73 ⟨w.heap.size, 0, none⟩ 150, rty 49] ((w.alloc (.cells #[.pointer (some ⟨T, 0, none⟩)] 73)).alloc (rvCells 73 w.heap.size)) fun e w' => e = .returned (.bool bv) ∧ w' = W) :
    Calls Tryz.prog 47 #[v, tgS T] w fun e w' => e = .returned (.bool bv) ∧ w' = W := by
  subst vi
  have h5 := @run_callFunc_extern Tryz.prog 63 _ (fun args => ReflectliteValue.unpack (args.getD 0 (.tuple #[]))) Tryz.func63 (by kernel_rfl) (by kernel_rfl) (by kernel_rfl) (by kernel_rfl)
  have h7 := @run_callFunc_extern Tryz.prog 64 _ (ReflectliteValue.methodAny (ReflectliteValue.valueError "reflectlite.Value.Type" 0) (fun t _ _ _ => ReflectliteType.toType t)) Tryz.func64 (by kernel_rfl) (by kernel_rfl) (by kernel_rfl) (by kernel_rfl)
  have h8 := @run_callFunc_extern Tryz.prog 65 _ (ReflectliteValue.method (ReflectliteValue.valueError "reflectlite.Value.IsNil" 0) ReflectliteValue.isNil) Tryz.func65 (by kernel_rfl) (by kernel_rfl) (by kernel_rfl) (by kernel_rfl)
  have h27 := @run_callFunc_extern Tryz.prog 96 _ (ReflectliteType.abiMethod fun t => do pure (.int .u8 (← Rtype.kind t))) Tryz.func96 (by kernel_rfl) (by kernel_rfl) (by kernel_rfl) (by kernel_rfl)
  have h37 := @run_callFunc_extern Tryz.prog 116 _ (ReflectliteType.method ReflectliteType.elem) Tryz.func116 (by kernel_rfl) (by kernel_rfl) (by kernel_rfl) (by kernel_rfl)
  have h38 := @run_callFunc_extern Tryz.prog 117 _ (ReflectliteType.relation "Implements" ReflectliteType.implements_) Tryz.func117 (by kernel_rfl) (by kernel_rfl) (by kernel_rfl) (by kernel_rfl)
  have f6 := Tryz.valueOf_ps
  have f7 := Tryz.type_ps
  have mK := Tryz.methodKind
  have mE := Tryz.methodElem
  have mI := Tryz.methodImplements
  have k1 := Tryz.kind_ps
  have k2 := Tryz.kind_s
  have e1 := Tryz.elem_ps
  have i1 := Tryz.impl_s
  have n8 := Tryz.isNil_ps ⟨w.heap.size, 0, none⟩ ⟨T, 0, none⟩ ((w.alloc (.cells #[.pointer (some ⟨T, 0, none⟩)] 73)).alloc (rvCells 73 w.heap.size)) (by simp)
  have hl := hg.lt
  have hg2 : ((w.alloc (.cells #[.pointer (some ⟨T, 0, none⟩)] 73)).alloc (rvCells 73 w.heap.size)).cell? ⟨0, 0, none⟩ = some (rty 25) := by
    rw [World.cell?_alloc_lt _ _ ⟨0, 0, none⟩ (by simp <;> omega), World.cell?_alloc_lt _ _ ⟨0, 0, none⟩ hl]; exact hg
  have C' := Lib.hid C
  clear C hg
  go_enter Tryz.func47, Tryz.ntmps47
  go_wp2_with (go_at_call 66; refine C'.out.mono ?_; rintro e w' ⟨rfl, rfl⟩)
  go_ret
  exact ⟨rfl, rfl⟩
theorem hmf (fn : Fn) (first cap : Array Value) (w : World) : (Instr.makeFunc fn first cap).run Tryz.prog w = .ok (.func fn first cap) w := rfl
theorem idle_f (p q : Addr) (w : World) :
    CallsD Tryz.prog 46 #[.pointer (some p), .pointer (some q)] .returning w fun e u' w' => e = .returned (.tuple #[]) ∧ u' = .returning ∧ w' = w := by
  refine callsD_of_wpS Tryz.func46 rfl fun c₀ cs hu => ?_
  apply wpS_seq
  apply wpS_region
  simp [wpOpsS, go_sem, recoverD, hu, Tryz.ntmps46, Exit.thenS]
  refine wpS_cond (t := false) (by simp [Act.eval, Array.replicate]) ?_
  simp only [Bool.false_eq_true, if_false]
  refine wpS_of_wp (wp_skip ?_)
  cases c₀
  simp_all [bodyPostS, results, Tryz.results46]
theorem idle_s (p q : Addr) (w : World) :
    CallsD Tryz.prog 48 #[.pointer (some p), .pointer (some q)] .returning w fun e u' w' => e = .returned (.tuple #[]) ∧ u' = .returning ∧ w' = w := by
  refine callsD_of_wpS Tryz.func48 rfl fun c₀ cs hu => ?_
  apply wpS_seq
  apply wpS_region
  simp [wpOpsS, go_sem, recoverD, hu, Tryz.ntmps48, Exit.thenS]
  refine wpS_cond (t := false) (by simp [Act.eval, Array.replicate]) ?_
  simp only [Bool.false_eq_true, if_false]
  refine wpS_of_wp (wp_skip ?_)
  cases c₀
  simp_all [bodyPostS, results, Tryz.results48]
set_option maxHeartbeats 2000000 in
theorem find_f (ws : List ByteArray) (v : Value) (c i : Int) (w : World) (hch : Chain w c i ws v) (hg : ErrorType w) :
    Calls Tryz.prog 17 #[v] w fun e w' => e = .returned (.tuple #[.agg #[.int .i64 c, .int .i64 i], .bool true]) ∧ Below w.heap.size w w' := by
  have mf := hmf
  have C := As_f ws v c i w.heap.size (.int .i64 0) (.int .i64 0) ((w.alloc (.cells #[.int .i64 0, .int .i64 0] 47)).alloc (.cells #[.bool false] 4)) hch.alloc.alloc
    ((hg.mono ((Below.refl _ _).alloc (Nat.le_refl _) _)).mono ((Below.refl _ _).alloc (Nat.le_refl _) _)) (by simp; omega) (by simp) (by simp) (by simp) (by simp)
  have C' := Lib.hid C
  clear C hg hch
  go_enter_defers Tryz.func17, Tryz.ntmps17
  go_wp2_with (go_at_call 47; refine C'.out.mono ?_; rintro e w' ⟨rfl, rfl⟩)
  go_region
  go_wp2
  refine leaves_cons (f := 46) (args := #[.pointer (some ⟨w.heap.size, 0, none⟩), .pointer (some ⟨w.heap.size + 1, 0, none⟩)]) (by simp) (by simp [go_sem]) ?_
  refine (idle_f _ _ _).mono ?_
  rintro e u' w'' ⟨rfl, rfl, rfl⟩
  simp [Leaves, settle, results, Tryz.results17, go_sem]
  exact ((((((((Below.refl _ _).alloc (Nat.le_refl _) _).alloc (by simp) _).alloc (by simp; omega) _).alloc (by simp; omega) _).alloc (by simp; omega) _).alloc (by simp; omega) _)).drew
set_option maxHeartbeats 2000000 in
theorem find_s_hit (b : Nat) (w : World) (hg : ErrorType w) :
    Calls Tryz.prog 18 #[seenV b] w fun e w' => e = .returned (.tuple #[.pointer (some ⟨b, 0, none⟩), .bool true]) ∧ Below w.heap.size w w' := by
  have mf := hmf
  have C := As_s _ _ (seenV b) rfl w.heap.size ((w.alloc (.cells #[.pointer none] 49)).alloc (.cells #[.bool false] 4))
    ((hg.mono ((Below.refl _ _).alloc (Nat.le_refl _) _)).mono ((Below.refl _ _).alloc (Nat.le_refl _) _)) (by simp; omega) true _
    (as_s_hit b 0 w.heap.size _ (.pointer none) _ (by simp) (by simp; omega) (by go_simp) (by go_simp) (by go_simp))
  have C' := Lib.hid C
  clear C hg
  go_enter_defers Tryz.func18, Tryz.ntmps18
  go_wp2_with (go_at_call 47; refine C'.out.mono ?_; rintro e w' ⟨rfl, rfl⟩)
  go_region
  go_wp2
  refine leaves_cons (f := 48) (args := #[.pointer (some ⟨w.heap.size, 0, none⟩), .pointer (some ⟨w.heap.size + 1, 0, none⟩)]) (by simp) (by simp [go_sem]) ?_
  refine (idle_s _ _ _).mono ?_
  rintro e u' w'' ⟨rfl, rfl, rfl⟩
  simp [Leaves, settle, results, Tryz.results18, go_sem]
  exact ((((((((Below.refl _ _).alloc (Nat.le_refl _) _).alloc (by simp) _).alloc (by simp; omega) _).alloc (by simp; omega) _).alloc (by simp; omega) _).alloc (by simp; omega) _)).drew
set_option maxHeartbeats 2000000 in
theorem find_s_miss (c i : Int) (w : World) (hg : ErrorType w) :
    Calls Tryz.prog 18 #[faultV c i] w fun e w' => e = .returned (.tuple #[.pointer none, .bool false]) ∧ Below w.heap.size w w' := by
  have mf := hmf
  have C := As_s _ _ (faultV c i) rfl w.heap.size ((w.alloc (.cells #[.pointer none] 49)).alloc (.cells #[.bool false] 4))
    ((hg.mono ((Below.refl _ _).alloc (Nat.le_refl _) _)).mono ((Below.refl _ _).alloc (Nat.le_refl _) _)) (by simp; omega) false _
    (as_s_miss c i w.heap.size _ _)
  have C' := Lib.hid C
  clear C hg
  go_enter_defers Tryz.func18, Tryz.ntmps18
  go_wp2_with (go_at_call 47; refine C'.out.mono ?_; rintro e w' ⟨rfl, rfl⟩)
  go_region
  go_wp2
  refine leaves_cons (f := 48) (args := #[.pointer (some ⟨w.heap.size, 0, none⟩), .pointer (some ⟨w.heap.size + 1, 0, none⟩)]) (by simp) (by simp [go_sem]) ?_
  refine (idle_s _ _ _).mono ?_
  rintro e u' w'' ⟨rfl, rfl, rfl⟩
  simp [Leaves, settle, results, Tryz.results18, go_sem]
  exact (((((((Below.refl _ _).alloc (Nat.le_refl _) _).alloc (by simp) _).alloc (by simp; omega) _).alloc (by simp; omega) _).alloc (by simp; omega) _)).drew
end Go.Proofs.YtoajkbdadcepaaaGreatDoor
