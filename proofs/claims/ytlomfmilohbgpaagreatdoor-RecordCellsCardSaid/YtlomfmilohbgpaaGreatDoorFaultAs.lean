
/- errors.As over this program's faults: closed facts on the model's reflectlite, at targets *fault.fault and **fault.seen. -/
import Derived.Test.YtlomfmilohbgpaaGreatDoorProg
import Derived.WalkKit
import Derived.LaidEql
import Derived.Stop.Asserts
import Derived.RowKitTokens
namespace Go.Proofs.YtlomfmilohbgpaaGreatDoor
open Go.RowKit Go.Extern.Stop Go.Stop Go.Extern
set_option linter.unusedSimpArgs false

theorem getLit1 (x y : Value) (h1 h2) : (#[x, y] : Array Value).getLit (n := 2) 1 h1 h2 = y := rfl
/-- the handle of a type -/
abbrev hd (t : TypeId) : Value := .pointer (some ⟨9, t, none⟩)
abbrev rty (t : TypeId) : Value := .iface 145 (.agg #[hd t])
abbrev pV (t : TypeId) (a : Addr) (f : Int) : Value := .agg #[hd t, .pointer (some a), .int .u64 f]

/- the targets: pointers to a fault (pf) and to a *seen (ps) -/
theorem Tryz.valueOf_pf (t : Addr) (w : World) : (ReflectliteValue.unpack (.iface 126 (.pointer (some t)))).run Tryz.prog w
    = .ok (pV 126 ⟨w.heap.size, 0, none⟩ 150) (w.alloc (.cells #[.pointer (some t)] 126)) := by kernel_rfl
theorem Tryz.type_pf (a : Addr) (w : World) : (ReflectliteValue.methodAny (ReflectliteValue.valueError "reflectlite.Value.Type" 0) (fun t _ _ _ => ReflectliteType.toType t) #[pV 126 a 150]).run Tryz.prog w
    = .ok (rty 126) w := by kernel_rfl
theorem Tryz.methodKind (h : Value) (w : World) : (Go.method 334 145 (.agg #[h]) "Kind").run Tryz.prog w = .ok (174, h) w := by kernel_rfl
theorem Tryz.methodElem (h : Value) (w : World) : (Go.method 334 145 (.agg #[h]) "Elem").run Tryz.prog w = .ok (187, .agg #[h]) w := by kernel_rfl
theorem Tryz.methodImplements (h : Value) (w : World) : (Go.method 334 145 (.agg #[h]) "Implements").run Tryz.prog w = .ok (188, .agg #[h]) w := by kernel_rfl
theorem Tryz.methodAssignableTo (h : Value) (w : World) : (Go.method 334 145 (.agg #[h]) "AssignableTo").run Tryz.prog w = .ok (185, .agg #[h]) w := by kernel_rfl
theorem Tryz.methodComparable (h : Value) (w : World) : (Go.method 334 145 (.agg #[h]) "Comparable").run Tryz.prog w = .ok (186, .agg #[h]) w := by kernel_rfl
theorem Tryz.methodUnwrap (v : Value) (w : World) : (Go.method 334 116 v "Unwrap").run Tryz.prog w = .ok (180, v) w := by kernel_rfl
theorem Tryz.kind_pf (w : World) : ((ReflectliteType.abiMethod fun t => (fun a : Nat => Value.int IntKind.u8 (a : Int)) <$> Rtype.kind t) #[hd 126]).run Tryz.prog w = .ok (.int .u8 22) w := by kernel_rfl
theorem Tryz.kind_f (w : World) : ((ReflectliteType.abiMethod fun t => (fun a : Nat => Value.int IntKind.u8 (a : Int)) <$> Rtype.kind t) #[hd 110]).run Tryz.prog w = .ok (.int .u8 25) w := by kernel_rfl
theorem Tryz.kind_s (w : World) : ((ReflectliteType.abiMethod fun t => (fun a : Nat => Value.int IntKind.u8 (a : Int)) <$> Rtype.kind t) #[hd 116]).run Tryz.prog w = .ok (.int .u8 22) w := by kernel_rfl
theorem Tryz.elem_pf (w : World) : (ReflectliteType.method ReflectliteType.elem #[.agg #[hd 126]]).run Tryz.prog w = .ok (rty 110) w := by kernel_rfl
theorem Tryz.impl_f (w : World) : (ReflectliteType.relation "Implements" ReflectliteType.implements_ #[.agg #[hd 110], rty 80]).run Tryz.prog w = .ok (.bool true) w := by kernel_rfl
theorem Tryz.impl_s (w : World) : (ReflectliteType.relation "Implements" ReflectliteType.implements_ #[.agg #[hd 116], rty 80]).run Tryz.prog w = .ok (.bool true) w := by kernel_rfl
theorem Tryz.typeOf_f (v : Value) (w : World) : (ReflectliteType.typeOf #[.iface 110 v]).run Tryz.prog w = .ok (rty 110) w := by kernel_rfl
theorem Tryz.typeOf_s (v : Value) (w : World) : (ReflectliteType.typeOf #[.iface 116 v]).run Tryz.prog w = .ok (rty 116) w := by kernel_rfl
theorem Tryz.assign_ff (w : World) : (ReflectliteType.relation "AssignableTo" ReflectliteType.assignableTo #[.agg #[hd 110], rty 110]).run Tryz.prog w = .ok (.bool true) w := by kernel_rfl
theorem Tryz.assign_sf (w : World) : (ReflectliteType.relation "AssignableTo" ReflectliteType.assignableTo #[.agg #[hd 116], rty 110]).run Tryz.prog w = .ok (.bool false) w := by kernel_rfl
theorem Tryz.assign_ss (w : World) : (ReflectliteType.relation "AssignableTo" ReflectliteType.assignableTo #[.agg #[hd 116], rty 116]).run Tryz.prog w = .ok (.bool true) w := by kernel_rfl
theorem Tryz.assign_fs (w : World) : (ReflectliteType.relation "AssignableTo" ReflectliteType.assignableTo #[.agg #[hd 110], rty 116]).run Tryz.prog w = .ok (.bool false) w := by kernel_rfl
theorem Tryz.valueOf_f (c i : Int) (w : World) : (ReflectliteValue.unpack (.iface 110 (.agg #[.int .i64 c, .int .i64 i]))).run Tryz.prog w
    = .ok (pV 110 ⟨w.heap.size, 0, none⟩ 153) (w.alloc (.cells #[.int .i64 c, .int .i64 i] 110)) := by kernel_rfl
theorem Tryz.valueOf_s (e : Addr) (w : World) : (ReflectliteValue.unpack (.iface 116 (.pointer (some e)))).run Tryz.prog w
    = .ok (pV 116 ⟨w.heap.size, 0, none⟩ 150) (w.alloc (.cells #[.pointer (some e)] 116)) := by kernel_rfl
/- method sets -/
theorem Tryz.noAs_f (v : Value) (xT : TypeId) (w : World) : (Instr.typeAssert (.iface 110 v) xT 150 true).run Tryz.prog w = .ok (.tuple #[.nilIface, .bool false]) w := run_typeAssert_lacksB Tryz.underlying150 (by kernel_rfl) (by kernel_rfl) v xT w
theorem Tryz.noAs_s (v : Value) (xT : TypeId) (w : World) : (Instr.typeAssert (.iface 116 v) xT 150 true).run Tryz.prog w = .ok (.tuple #[.nilIface, .bool false]) w := run_typeAssert_lacksB Tryz.underlying150 (by kernel_rfl) (by kernel_rfl) v xT w
theorem Tryz.noUn_f (v : Value) (xT : TypeId) (w : World) : (Instr.typeAssert (.iface 110 v) xT 153 true).run Tryz.prog w = .ok (.tuple #[.nilIface, .bool false]) w := run_typeAssert_lacksB Tryz.underlying153 (by kernel_rfl) (by kernel_rfl) v xT w
theorem Tryz.un_s (v : Value) (xT : TypeId) (w : World) : (Instr.typeAssert (.iface 116 v) xT 153 true).run Tryz.prog w = .ok (.tuple #[.iface 116 v, .bool true]) w := run_typeAssert_hasB Tryz.underlying153 (by kernel_rfl) v xT w
theorem Tryz.noUns_f (v : Value) (xT : TypeId) (w : World) : (Instr.typeAssert (.iface 110 v) xT 154 true).run Tryz.prog w = .ok (.tuple #[.nilIface, .bool false]) w := run_typeAssert_lacksB Tryz.underlying154 (by kernel_rfl) (by kernel_rfl) v xT w
/- the entries that read or write memory -/
theorem Tryz.parts_pf (a : Addr) (w : World) : (ReflectliteValue.parts (pV 126 a 150)).run Tryz.prog w = .ok (some (126, a, 150)) w := by kernel_rfl
theorem Tryz.parts_fa (a : Addr) (w : World) : (ReflectliteValue.parts (pV 110 a 409)).run Tryz.prog w = .ok (some (110, a, 409)) w := by kernel_rfl
theorem Tryz.parts_sa (a : Addr) (w : World) : (ReflectliteValue.parts (pV 116 a 406)).run Tryz.prog w = .ok (some (116, a, 406)) w := by kernel_rfl
theorem Tryz.parts_f (a : Addr) (w : World) : (ReflectliteValue.parts (pV 110 a 153)).run Tryz.prog w = .ok (some (110, a, 153)) w := by kernel_rfl
theorem Tryz.parts_s (a : Addr) (w : World) : (ReflectliteValue.parts (pV 116 a 150)).run Tryz.prog w = .ok (some (116, a, 150)) w := by kernel_rfl
theorem Tryz.elemOf_pf (w : World) : (Rtype.elem? 126).run Tryz.prog w = .ok (some 110) w := by kernel_rfl
theorem Tryz.mk_f (p : Addr) (w : World) : (ReflectliteValue.mk 110 p ReflectliteValue.flagAddr).run Tryz.prog w = .ok (pV 110 p 409) w := by kernel_rfl
theorem Tryz.mk_s (p : Addr) (w : World) : (ReflectliteValue.mk 116 p ReflectliteValue.flagAddr).run Tryz.prog w = .ok (pV 116 p 406) w := by kernel_rfl
theorem Tryz.direct_f (w : World) : (Rtype.directlyAssignable 110 110).run Tryz.prog w = .ok true w := by kernel_rfl
theorem Tryz.direct_s (w : World) : (Rtype.directlyAssignable 116 116).run Tryz.prog w = .ok true w := by kernel_rfl
theorem Tryz.size_f (w : World) : (sizeOf 110).run Tryz.prog w = .ok 2 w := by kernel_rfl
theorem Tryz.size_s (w : World) : (sizeOf 116).run Tryz.prog w = .ok 1 w := by kernel_rfl
theorem Tryz.isNil_pf (a p : Addr) (W : World) (ha : W.cell? a = some (.pointer (some p))) :
    (ReflectliteValue.method (ReflectliteValue.valueError "reflectlite.Value.IsNil" 0) ReflectliteValue.isNil #[pV 126 a 150]).run Tryz.prog W = .ok (.bool false) W := by
  change (Sem.run Tryz.prog (ReflectliteValue.parts (pV 126 a 150) >>= _) W) = _
  simp only [Sem.run_bind, Tryz.parts_pf, Result.andThen]
  simp [ReflectliteValue.isNil, loadVar, isAgg, underlying, Tryz.underlying126, ha, Result.andThen]
theorem Tryz.elemV_pf (a p : Addr) (W : World) (ha : W.cell? a = some (.pointer (some p))) :
    (ReflectliteValue.method (ReflectliteValue.valueError "reflectlite.Value.Elem" 0) ReflectliteValue.elem #[pV 126 a 150]).run Tryz.prog W
      = .ok (pV 110 p 409) W := by
  change (Sem.run Tryz.prog (ReflectliteValue.parts (pV 126 a 150) >>= _) W) = _
  simp only [Sem.run_bind, Tryz.parts_pf, Result.andThen]
  simp [ReflectliteValue.elem, loadVar, isAgg, underlying, Tryz.underlying126, ha, Result.andThen, Tryz.elemOf_pf, Tryz.mk_f]
theorem Tryz.set_s (ta b e : Addr) (old : Value) (W : World) (hb : W.cell? b = some (.pointer (some e))) (ht : W.cell? ta = some old) (hf : W.frozen? ta = false) :
    (ReflectliteValue.set #[pV 116 ta 406, pV 116 b 150]).run Tryz.prog W
      = .ok (.tuple #[]) (W.setCell ta (.pointer (some e))) := by
  change (Sem.run Tryz.prog (ReflectliteValue.parts (pV 116 ta 406) >>= _) W) = _
  simp only [Sem.run_bind, Tryz.parts_sa, getLit1, Tryz.parts_s, Result.andThen]
  simp [ReflectliteValue.flagAddr, loadVar, isAgg, underlying, Tryz.underlying116, hb, Result.andThen, Tryz.direct_s, storeVar, Value.cells, storeCells, Addr.add]
  rw [run_store Tryz.prog W ta _ _ (by rfl)]
  simp [ht, hf]
end Go.Proofs.YtlomfmilohbgpaaGreatDoor
