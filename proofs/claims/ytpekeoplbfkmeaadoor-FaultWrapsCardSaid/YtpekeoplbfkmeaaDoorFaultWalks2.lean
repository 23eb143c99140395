/- The walks of package fault, second part: errors.As at **seen; errors.As itself; find. -/
import Derived.Test.YtpekeoplbfkmeaaDoorFaultWalks
import Derived.Defers
import Derived.Recover
import Derived.RegionTactic
import Derived.ChangeAlike
namespace Go.Proofs.YtpekeoplbfkmeaaDoor
open Go.RowKit Go.Extern.Stop Go.Stop Go.Extern
set_option linter.unusedSimpArgs false
set_option linter.unusedVariables false

abbrev tgF (T : Nat) : Value := .iface 48 (.pointer (some ⟨T, 0, none⟩))
abbrev tgS (T : Nat) : Value := .iface 47 (.pointer (some ⟨T, 0, none⟩))
set_option maxHeartbeats 4000000 in
theorem as_s_hit (b e0 : Nat) (T n : Nat) (o0 : Value) (w : World)
    (hnl : n < w.heap.size) (hTl : T < w.heap.size) (hn : w.cell? ⟨n, 0, none⟩ = some (.pointer (some ⟨T, 0, none⟩)))
    (ht : w.cell? ⟨T, 0, none⟩ = some o0) (hf : w.frozen? ⟨T, 0, none⟩ = false) :
    Calls Tryd.prog 26 #[seenV b, tgS T, pV 47 ⟨n, 0, none⟩ 150, rty 37] w fun e w' =>
      e = .returned (.bool true) ∧ w' = ((w.setCell ⟨T, 0, none⟩ (.pointer (some ⟨b, 0, none⟩))).alloc (rvCells 47 n)).alloc (.cells #[.pointer (some ⟨b, 0, none⟩)] 37) := by
  have h1 := @run_callFunc_extern Tryd.prog 20 _ ReflectliteType.typeOf Tryd.func20 (by kernel_rfl) (by kernel_rfl) (by kernel_rfl) (by kernel_rfl)
  have h2 := @run_callFunc_extern Tryd.prog 73 _ (ReflectliteType.relation "AssignableTo" ReflectliteType.assignableTo) Tryd.func73 (by kernel_rfl) (by kernel_rfl) (by kernel_rfl) (by kernel_rfl)
  have h3 := @run_callFunc_extern Tryd.prog 28 _ (ReflectliteValue.method (ReflectliteValue.valueError "reflectlite.Value.Elem" 0) ReflectliteValue.elem) Tryd.func28 (by kernel_rfl) (by kernel_rfl) (by kernel_rfl) (by kernel_rfl)
  have h4 := @run_callFunc_extern Tryd.prog 29 _ ReflectliteValue.set Tryd.func29 (by kernel_rfl) (by kernel_rfl) (by kernel_rfl) (by kernel_rfl)
  have h5 := @run_callFunc_extern Tryd.prog 23 _ (fun args => ReflectliteValue.unpack (args.getD 0 (.tuple #[]))) Tryd.func23 (by kernel_rfl) (by kernel_rfl) (by kernel_rfl) (by kernel_rfl)
  have q2 := Tryd.typeOf_s
  have q3 := Tryd.methodAssignableTo
  have q5 := Tryd.assign_ss
  have q9 := Tryd.valueOf_s ⟨b, 0, none⟩
  have el := Tryd.elemV_ps ⟨n, 0, none⟩ ⟨T, 0, none⟩ (w.alloc (rvCells 47 n)) (by rw [World.cell?_alloc_lt _ _ ⟨n, 0, none⟩ hnl]; exact hn)
  have st := Tryd.set_s ⟨T, 0, none⟩ ⟨w.heap.size + 1, 0, none⟩ ⟨b, 0, none⟩ o0 ((w.alloc (rvCells 47 n)).alloc (.cells #[.pointer (some ⟨b, 0, none⟩)] 37))
    (by rw [World.cell?_alloc_at _ _ _ _ (by simp)]; rfl)
    (by rw [World.cell?_alloc_lt _ _ ⟨T, 0, none⟩ (by simp; omega), World.cell?_alloc_lt _ _ ⟨T, 0, none⟩ hTl]; exact ht)
    (by rw [World.frozen?_alloc_old _ _ ⟨T, 0, none⟩ (by simp; omega), World.frozen?_alloc_old _ _ ⟨T, 0, none⟩ (Nat.ne_of_lt hTl)]; exact hf)
  clear hn ht hf
  go_enter Tryd.func26, Tryd.ntmps26
  go_wp2
  refine wp_loop_rounds 1 ?_
  rw [rounds_succ]
  go_wp2
  go_ret
  exact ⟨rfl, rfl⟩
set_option maxHeartbeats 4000000 in
theorem as_s_miss (c i : Int) (T n : Nat) (w : World) :
    Calls Tryd.prog 26 #[faultV c i, tgS T, pV 47 ⟨n, 0, none⟩ 150, rty 37] w fun e w' =>
      e = .returned (.bool false) ∧ w' = w.alloc (rvCells 47 n) := by
  have h1 := @run_callFunc_extern Tryd.prog 20 _ ReflectliteType.typeOf Tryd.func20 (by kernel_rfl) (by kernel_rfl) (by kernel_rfl) (by kernel_rfl)
  have h2 := @run_callFunc_extern Tryd.prog 73 _ (ReflectliteType.relation "AssignableTo" ReflectliteType.assignableTo) Tryd.func73 (by kernel_rfl) (by kernel_rfl) (by kernel_rfl) (by kernel_rfl)
  have q2 := Tryd.typeOf_f
  have q3 := Tryd.methodAssignableTo
  have q5 := Tryd.assign_fs
  have q6 := Tryd.noAs_f
  have q7 := Tryd.noUn_f
  have q8 := Tryd.noUns_f
  go_enter Tryd.func26, Tryd.ntmps26
  go_wp2
  refine wp_loop_rounds 1 ?_
  rw [rounds_succ]
  go_wp2
  go_ret
  exact ⟨rfl, rfl⟩
/-- the variable errors.errorType, as the row lists it -/
def ErrorType (w : World) : Prop := w.cell? ⟨0, 0, none⟩ = some (rty 24)
theorem ErrorType.lt {w : World} (h : ErrorType w) : 0 < w.heap.size := by
  rcases Nat.lt_or_ge 0 w.heap.size with h0 | h0
  · exact h0
  · simp [ErrorType, World.cell?, Array.getElem?_eq_none h0] at h
theorem ErrorType.mono {w w' : World} (h : ErrorType w) (hb : Below w.heap.size w w') : ErrorType w' := by
  unfold ErrorType; rw [hb.cell h.lt]; exact h
set_option maxHeartbeats 4000000 in
theorem As_f (ws : List ByteArray) (v : Value) (c i : Int) (T : Nat) (o0 o1 : Value) (w : World) (hch : Chain w c i ws v) (hg : ErrorType w) (hTl : T < w.heap.size)
    (ht : w.cell? ⟨T, 0, none⟩ = some o0) (ht1 : w.cell? ⟨T, 1, none⟩ = some o1) (hf : w.frozen? ⟨T, 0, none⟩ = false) (hf1 : w.frozen? ⟨T, 1, none⟩ = false) :
    Calls Tryd.prog 18 #[v, tgF T] w fun e w' =>
      e = .returned (.bool true) ∧ w' = (((((w.setCell ⟨T, 0, none⟩ (.int .i64 c)).setCell ⟨T, 1, none⟩ (.int .i64 i)).alloc (.cells #[.pointer (some ⟨T, 0, none⟩)] 48)).alloc (rvCells 48 w.heap.size)).alloc (rvCells 48 w.heap.size)).alloc (.cells #[.int .i64 c, .int .i64 i] 36) := by
  obtain ⟨t, x, rfl⟩ := hch.iface
  have h5 := @run_callFunc_extern Tryd.prog 23 _ (fun args => ReflectliteValue.unpack (args.getD 0 (.tuple #[]))) Tryd.func23 (by kernel_rfl) (by kernel_rfl) (by kernel_rfl) (by kernel_rfl)
  have h7 := @run_callFunc_extern Tryd.prog 24 _ (ReflectliteValue.methodAny (ReflectliteValue.valueError "reflectlite.Value.Type" 0) (fun t _ _ _ => ReflectliteType.toType t)) Tryd.func24 (by kernel_rfl) (by kernel_rfl) (by kernel_rfl) (by kernel_rfl)
  have h8 := @run_callFunc_extern Tryd.prog 25 _ (ReflectliteValue.method (ReflectliteValue.valueError "reflectlite.Value.IsNil" 0) ReflectliteValue.isNil) Tryd.func25 (by kernel_rfl) (by kernel_rfl) (by kernel_rfl) (by kernel_rfl)
  have h27 := @run_callFunc_extern Tryd.prog 55 _ (ReflectliteType.abiMethod fun t => do pure (.int .u8 (← Rtype.kind t))) Tryd.func55 (by kernel_rfl) (by kernel_rfl) (by kernel_rfl) (by kernel_rfl)
  have h37 := @run_callFunc_extern Tryd.prog 75 _ (ReflectliteType.method ReflectliteType.elem) Tryd.func75 (by kernel_rfl) (by kernel_rfl) (by kernel_rfl) (by kernel_rfl)
  have h38 := @run_callFunc_extern Tryd.prog 76 _ (ReflectliteType.relation "Implements" ReflectliteType.implements_) Tryd.func76 (by kernel_rfl) (by kernel_rfl) (by kernel_rfl) (by kernel_rfl)
  have f6 := Tryd.valueOf_pf
  have f7 := Tryd.type_pf
  have mK := Tryd.methodKind
  have mE := Tryd.methodElem
  have mI := Tryd.methodImplements
  have k1 := Tryd.kind_pf
  have k2 := Tryd.kind_f
  have e1 := Tryd.elem_pf
  have i1 := Tryd.impl_f
  have n8 := Tryd.isNil_pf ⟨w.heap.size, 0, none⟩ ⟨T, 0, none⟩ ((w.alloc (.cells #[.pointer (some ⟨T, 0, none⟩)] 48)).alloc (rvCells 48 w.heap.size)) (by simp)
  have hl := hg.lt
  have hg2 : ((w.alloc (.cells #[.pointer (some ⟨T, 0, none⟩)] 48)).alloc (rvCells 48 w.heap.size)).cell? ⟨0, 0, none⟩ = some (rty 24) := by
    rw [World.cell?_alloc_lt _ _ ⟨0, 0, none⟩ (by simp <;> omega), World.cell?_alloc_lt _ _ ⟨0, 0, none⟩ hl]; exact hg
  have C := as_f ws (.iface t x) c i T w.heap.size o0 o1 ((w.alloc (.cells #[.pointer (some ⟨T, 0, none⟩)] 48)).alloc (rvCells 48 w.heap.size)) (hch.alloc.alloc)
    (by simp; omega) (by simp; omega) (by simp)
    (by rw [World.cell?_alloc_lt _ _ ⟨T, 0, none⟩ (by simp; omega), World.cell?_alloc_lt _ _ ⟨T, 0, none⟩ hTl]; exact ht)
    (by rw [World.cell?_alloc_lt _ _ ⟨T, 1, none⟩ (by simp; omega), World.cell?_alloc_lt _ _ ⟨T, 1, none⟩ hTl]; exact ht1)
    (by rw [World.frozen?_alloc_old _ _ ⟨T, 0, none⟩ (by simp; omega), World.frozen?_alloc_old _ _ ⟨T, 0, none⟩ (Nat.ne_of_lt hTl)]; exact hf)
    (by rw [World.frozen?_alloc_old _ _ ⟨T, 1, none⟩ (by simp; omega), World.frozen?_alloc_old _ _ ⟨T, 1, none⟩ (Nat.ne_of_lt hTl)]; exact hf1)
  have C' := Lib.hid C
  clear C hch hg ht ht1 hf hf1
  go_enter Tryd.func18, Tryd.ntmps18
  go_wp2_with (go_at_call 26; refine C'.out.mono ?_; rintro e w' ⟨rfl, rfl⟩)
  go_ret
  exact ⟨rfl, by go_simp⟩
end Go.Proofs.YtpekeoplbfkmeaaDoor
