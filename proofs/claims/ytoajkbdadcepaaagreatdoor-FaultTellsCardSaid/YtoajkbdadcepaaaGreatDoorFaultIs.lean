/- The walks of package fault: errors.Is of a fault and a kind. -/
import Derived.Test.YtoajkbdadcepaaaGreatDoorFaultWalks
namespace Go.Proofs.YtoajkbdadcepaaaGreatDoor
open Go.RowKit Go.Extern.Stop Go.Stop Go.Extern
set_option linter.unusedSimpArgs false
set_option linter.unusedVariables false
abbrev kindV (k : Int) : Value := .iface 57 (.int .i64 k)
/-- '==' of two interface values that hold numbers of one integer type -/
theorem eql_ints {P : Program} {ti tn : TypeId} {ms : Array (String × TypeId)} {i : TypeInfo} {k : IntKind} (a b : Int)
    (hi : P.underlying ti = some (.interface ms)) (hn : P.underlying tn = some (.int k)) (hinfo : P.info? tn = some i) (hcomp : i.comparable = true) (w : World) :
    (binOp .eql ti (.iface tn (.int k a)) (.iface tn (.int k b))).run P w = .ok (.bool (a == b)) w := by
  have h : ∀ d, (Op.equalIn (d + 2) ti (.iface tn (.int k a)) (.iface tn (.int k b))).run P w = .ok (a == b) w := fun d => by
    simp [Op.equalIn, run_underlying hi, run_underlying hn, typeInfo, hinfo, hcomp]
  simp only [binOp]
  simp [Op.equal, Op.maxDepth, h 9998]
theorem Tryz.kindComp : (Tryz.prog.info? 57).map (·.comparable) = some true := by kernel_rfl
theorem Tryz.callComparable (w : World) : (callFunc 115 #[.agg #[hd 57]]).run Tryz.prog w = .ok (.value (.bool true)) w := by kernel_rfl
set_option maxHeartbeats 2000000 in
theorem faultIs (c i k : Int) (bv : Bool) (hb : (k == c) = bv) (w : World) :
    Calls Tryz.prog 100 #[.agg #[.int .i64 c, .int .i64 i], kindV k] w fun e w' => e = .returned (.bool bv) ∧ w' = w.alloc (.cells #[.int .i64 c, .int .i64 i] 47) := by
  obtain ⟨j, hj, hcmp⟩ := Option.map_eq_some_iff.1 Tryz.kindComp
  have he := fun w => eql_ints (P := Tryz.prog) k c Tryz.underlying25 Tryz.underlying57 hj hcmp w
  rw [hb] at he
  clear hb hj hcmp
  go_enter Tryz.func100, Tryz.ntmps100
  go_wp2
  go_ret
  exact ⟨rfl, rfl⟩
set_option maxHeartbeats 2000000 in
theorem errIs (c i k : Int) (bv : Bool) (hb : (k == c) = bv) (w : World) :
    Calls Tryz.prog 19 #[faultV c i, kindV k] w fun e w' => e = .returned (.bool bv) ∧ w' = w.alloc (.cells #[.int .i64 c, .int .i64 i] 47) := by
  have h1 := @run_callFunc_extern Tryz.prog 49 _ ReflectliteType.typeOf Tryz.func49 (by kernel_rfl) (by kernel_rfl) (by kernel_rfl) (by kernel_rfl)
  have h32 := Tryz.callComparable
  have q1 := Tryz.typeOf_k
  have q3 := Tryz.methodComparable
  have q4 := Tryz.is_f
  have q5 := Tryz.methodIs
  have q7 := Tryz.noUn_f
  have q8 := Tryz.noUns_f
  have heq := run_eql_iface_types (P := Tryz.prog) 47 57 (.agg #[.int .i64 c, .int .i64 i]) (.int .i64 k) Tryz.underlying25 (by decide)
  have C := Lib.hid (faultIs c i k bv hb)
  clear hb
  cases bv
  all_goals
    go_enter Tryz.func19, Tryz.ntmps19
    go_wp2
    refine wp_loop_rounds 1 ?_
    rw [rounds_succ]
    go_wp2_with (go_at_call 100; refine (C.out _).mono ?_; rintro e w' ⟨rfl, rfl⟩)
    go_ret
    exact ⟨rfl, rfl⟩
end Go.Proofs.YtoajkbdadcepaaaGreatDoor
