/- The walks of package fault: errors.Is of a fault and a kind. -/
import Derived.Test.YtpekeoplbfkmeaaDoorFaultWalks
namespace Go.Proofs.YtpekeoplbfkmeaaDoor
open Go.RowKit Go.Extern.Stop Go.Stop Go.Extern
set_option linter.unusedSimpArgs false
set_option linter.unusedVariables false
abbrev kindV (k : Int) : Value := .iface 45 (.int .i64 k)
/-- '==' of two interface values that hold numbers of one integer type -/
theorem eql_ints {P : Program} {ti tn : TypeId} {ms : Array (String × TypeId)} {i : TypeInfo} {k : IntKind} (a b : Int)
    (hi : P.underlying ti = some (.interface ms)) (hn : P.underlying tn = some (.int k)) (hinfo : P.info? tn = some i) (hcomp : i.comparable = true) (w : World) :
    (binOp .eql ti (.iface tn (.int k a)) (.iface tn (.int k b))).run P w = .ok (.bool (a == b)) w := by
  have h : ∀ d, (Op.equalIn (d + 2) ti (.iface tn (.int k a)) (.iface tn (.int k b))).run P w = .ok (a == b) w := fun d => by
    simp [Op.equalIn, run_underlying hi, run_underlying hn, typeInfo, hinfo, hcomp]
  simp only [binOp]
  simp [Op.equal, Op.maxDepth, h 9998]
theorem Tryd.kindComp : (Tryd.prog.info? 45).map (·.comparable) = some true := by kernel_rfl
theorem Tryd.callComparable (w : World) : (callFunc 74 #[.agg #[hd 45]]).run Tryd.prog w = .ok (.value (.bool true)) w := by kernel_rfl
set_option maxHeartbeats 2000000 in
theorem faultIs (c i k : Int) (bv : Bool) (hb : (k == c) = bv) (w : World) :
    Calls Tryd.prog 59 #[.agg #[.int .i64 c, .int .i64 i], kindV k] w fun e w' => e = .returned (.bool bv) ∧ w' = w.alloc (.cells #[.int .i64 c, .int .i64 i] 36) := by
  obtain ⟨j, hj, hcmp⟩ := Option.map_eq_some_iff.1 Tryd.kindComp
  have he := fun w => eql_ints (P := Tryd.prog) k c Tryd.underlying24 Tryd.underlying45 hj hcmp w
  rw [hb] at he
  clear hb hj hcmp
  go_enter Tryd.func59, Tryd.ntmps59
  go_wp2
  go_ret
  exact ⟨rfl, rfl⟩
set_option maxHeartbeats 2000000 in
theorem errIs (c i k : Int) (bv : Bool) (hb : (k == c) = bv) (w : World) :
    Calls Tryd.prog 15 #[faultV c i, kindV k] w fun e w' => e = .returned (.bool bv) ∧ w' = w.alloc (.cells #[.int .i64 c, .int .i64 i] 36) := by
  have h1 := @run_callFunc_extern Tryd.prog 20 _ ReflectliteType.typeOf Tryd.func20 (by kernel_rfl) (by kernel_rfl) (by kernel_rfl) (by kernel_rfl)
  have h32 := Tryd.callComparable
  have q1 := Tryd.typeOf_k
  have q3 := Tryd.methodComparable
  have q4 := Tryd.is_f
  have q5 := Tryd.methodIs
  have q7 := Tryd.noUn_f
  have q8 := Tryd.noUns_f
  have heq := run_eql_iface_types (P := Tryd.prog) 36 45 (.agg #[.int .i64 c, .int .i64 i]) (.int .i64 k) Tryd.underlying24 (by decide)
  have C := Lib.hid (faultIs c i k bv hb)
  clear hb
  cases bv
  all_goals
    go_enter Tryd.func15, Tryd.ntmps15
    go_wp2
    refine wp_loop_rounds 1 ?_
    rw [rounds_succ]
    go_wp2_with (go_at_call 59; refine (C.out _).mono ?_; rintro e w' ⟨rfl, rfl⟩)
    go_ret
    exact ⟨rfl, rfl⟩
end Go.Proofs.YtpekeoplbfkmeaaDoor
