/- errors.As over this program's faults: closed facts on the model's reflectlite, at targets *fault.fault and **fault.seen. -/
import Derived.Test.YtpekeoplbfkmeaaDoorProg
import Derived.WalkKit
import Derived.LaidEql
import Derived.Stop.Asserts
import Derived.RowKitTokens
namespace Go.Proofs.YtpekeoplbfkmeaaDoor
open Go.RowKit Go.Extern.Stop Go.Stop Go.Extern
set_option linter.unusedSimpArgs false

theorem getLit1 (x y : Value) (h1 h2) : (#[x, y] : Array Value).getLit (n := 2) 1 h1 h2 = y := rfl
/-- the handle of a type -/
abbrev hd (t : TypeId) : Value := .pointer (some ⟨4, t, none⟩)
abbrev rty (t : TypeId) : Value := .iface 64 (.agg #[hd t])
abbrev pV (t : TypeId) (a : Addr) (f : Int) : Value := .agg #[hd t, .pointer (some a), .int .u64 f]

/- the targets: pointers to a fault (pf) and to a *seen (ps) -/
theorem Tryd.valueOf_pf (t : Addr) (w : World) : (ReflectliteValue.unpack (.iface 48 (.pointer (some t)))).run Tryd.prog w
    = .ok (pV 48 ⟨w.heap.size, 0, none⟩ 150) (w.alloc (.cells #[.pointer (some t)] 48)) := by kernel_rfl
theorem Tryd.valueOf_ps (t : Addr) (w : World) : (ReflectliteValue.unpack (.iface 47 (.pointer (some t)))).run Tryd.prog w
    = .ok (pV 47 ⟨w.heap.size, 0, none⟩ 150) (w.alloc (.cells #[.pointer (some t)] 47)) := by kernel_rfl
theorem Tryd.type_pf (a : Addr) (w : World) : (ReflectliteValue.methodAny (ReflectliteValue.valueError "reflectlite.Value.Type" 0) (fun t _ _ _ => ReflectliteType.toType t) #[pV 48 a 150]).run Tryd.prog w
    = .ok (rty 48) w := by kernel_rfl
theorem Tryd.type_ps (a : Addr) (w : World) : (ReflectliteValue.methodAny (ReflectliteValue.valueError "reflectlite.Value.Type" 0) (fun t _ _ _ => ReflectliteType.toType t) #[pV 47 a 150]).run Tryd.prog w
    = .ok (rty 47) w := by kernel_rfl
theorem Tryd.methodKind (h : Value) (w : World) : (Go.method 233 64 (.agg #[h]) "Kind").run Tryd.prog w = .ok (55, h) w := by kernel_rfl
theorem Tryd.methodElem (h : Value) (w : World) : (Go.method 233 64 (.agg #[h]) "Elem").run Tryd.prog w = .ok (75, .agg #[h]) w := by kernel_rfl
theorem Tryd.methodImplements (h : Value) (w : World) : (Go.method 233 64 (.agg #[h]) "Implements").run Tryd.prog w = .ok (76, .agg #[h]) w := by kernel_rfl
theorem Tryd.methodAssignableTo (h : Value) (w : World) : (Go.method 233 64 (.agg #[h]) "AssignableTo").run Tryd.prog w = .ok (73, .agg #[h]) w := by kernel_rfl
theorem Tryd.methodComparable (h : Value) (w : World) : (Go.method 233 64 (.agg #[h]) "Comparable").run Tryd.prog w = .ok (74, .agg #[h]) w := by kernel_rfl
theorem Tryd.methodUnwrap (v : Value) (w : World) : (Go.method 233 37 v "Unwrap").run Tryd.prog w = .ok (61, v) w := by kernel_rfl
theorem Tryd.kind_pf (w : World) : ((ReflectliteType.abiMethod fun t => (fun a : Nat => Value.int IntKind.u8 (a : Int)) <$> Rtype.kind t) #[hd 48]).run Tryd.prog w = .ok (.int .u8 22) w := by kernel_rfl
theorem Tryd.kind_ps (w : World) : ((ReflectliteType.abiMethod fun t => (fun a : Nat => Value.int IntKind.u8 (a : Int)) <$> Rtype.kind t) #[hd 47]).run Tryd.prog w = .ok (.int .u8 22) w := by kernel_rfl
theorem Tryd.kind_f (w : World) : ((ReflectliteType.abiMethod fun t => (fun a : Nat => Value.int IntKind.u8 (a : Int)) <$> Rtype.kind t) #[hd 36]).run Tryd.prog w = .ok (.int .u8 25) w := by kernel_rfl
theorem Tryd.kind_s (w : World) : ((ReflectliteType.abiMethod fun t => (fun a : Nat => Value.int IntKind.u8 (a : Int)) <$> Rtype.kind t) #[hd 37]).run Tryd.prog w = .ok (.int .u8 22) w := by kernel_rfl
theorem Tryd.elem_pf (w : World) : (ReflectliteType.method ReflectliteType.elem #[.agg #[hd 48]]).run Tryd.prog w = .ok (rty 36) w := by kernel_rfl
theorem Tryd.elem_ps (w : World) : (ReflectliteType.method ReflectliteType.elem #[.agg #[hd 47]]).run Tryd.prog w = .ok (rty 37) w := by kernel_rfl
theorem Tryd.impl_f (w : World) : (ReflectliteType.relation "Implements" ReflectliteType.implements_ #[.agg #[hd 36], rty 24]).run Tryd.prog w = .ok (.bool true) w := by kernel_rfl
theorem Tryd.impl_s (w : World) : (ReflectliteType.relation "Implements" ReflectliteType.implements_ #[.agg #[hd 37], rty 24]).run Tryd.prog w = .ok (.bool true) w := by kernel_rfl
theorem Tryd.typeOf_f (v : Value) (w : World) : (ReflectliteType.typeOf #[.iface 36 v]).run Tryd.prog w = .ok (rty 36) w := by kernel_rfl
theorem Tryd.typeOf_s (v : Value) (w : World) : (ReflectliteType.typeOf #[.iface 37 v]).run Tryd.prog w = .ok (rty 37) w := by kernel_rfl
theorem Tryd.typeOf_k (v : Value) (w : World) : (ReflectliteType.typeOf #[.iface 45 v]).run Tryd.prog w = .ok (rty 45) w := by kernel_rfl
theorem Tryd.comp_k (w : World) : ((ReflectliteType.method fun t => (fun a => Value.bool a.comparable) <$> typeInfo t) #[.agg #[hd 45]]).run Tryd.prog w = .ok (.bool true) w := by kernel_rfl
theorem Tryd.assign_ff (w : World) : (ReflectliteType.relation "AssignableTo" ReflectliteType.assignableTo #[.agg #[hd 36], rty 36]).run Tryd.prog w = .ok (.bool true) w := by kernel_rfl
theorem Tryd.assign_sf (w : World) : (ReflectliteType.relation "AssignableTo" ReflectliteType.assignableTo #[.agg #[hd 37], rty 36]).run Tryd.prog w = .ok (.bool false) w := by kernel_rfl
theorem Tryd.assign_ss (w : World) : (ReflectliteType.relation "AssignableTo" ReflectliteType.assignableTo #[.agg #[hd 37], rty 37]).run Tryd.prog w = .ok (.bool true) w := by kernel_rfl
theorem Tryd.assign_fs (w : World) : (ReflectliteType.relation "AssignableTo" ReflectliteType.assignableTo #[.agg #[hd 36], rty 37]).run Tryd.prog w = .ok (.bool false) w := by kernel_rfl
theorem Tryd.valueOf_f (c i : Int) (w : World) : (ReflectliteValue.unpack (.iface 36 (.agg #[.int .i64 c, .int .i64 i]))).run Tryd.prog w
    = .ok (pV 36 ⟨w.heap.size, 0, none⟩ 153) (w.alloc (.cells #[.int .i64 c, .int .i64 i] 36)) := by kernel_rfl
theorem Tryd.valueOf_s (e : Addr) (w : World) : (ReflectliteValue.unpack (.iface 37 (.pointer (some e)))).run Tryd.prog w
    = .ok (pV 37 ⟨w.heap.size, 0, none⟩ 150) (w.alloc (.cells #[.pointer (some e)] 37)) := by kernel_rfl
/- method sets -/
theorem Tryd.noAs_f (v : Value) (xT : TypeId) (w : World) : (Instr.typeAssert (.iface 36 v) xT 77 true).run Tryd.prog w = .ok (.tuple #[.nilIface, .bool false]) w := run_typeAssert_lacksB Tryd.underlying77 (by kernel_rfl) (by kernel_rfl) v xT w
theorem Tryd.noAs_s (v : Value) (xT : TypeId) (w : World) : (Instr.typeAssert (.iface 37 v) xT 77 true).run Tryd.prog w = .ok (.tuple #[.nilIface, .bool false]) w := run_typeAssert_lacksB Tryd.underlying77 (by kernel_rfl) (by kernel_rfl) v xT w
theorem Tryd.noUn_f (v : Value) (xT : TypeId) (w : World) : (Instr.typeAssert (.iface 36 v) xT 69 true).run Tryd.prog w = .ok (.tuple #[.nilIface, .bool false]) w := run_typeAssert_lacksB Tryd.underlying69 (by kernel_rfl) (by kernel_rfl) v xT w
theorem Tryd.un_s (v : Value) (xT : TypeId) (w : World) : (Instr.typeAssert (.iface 37 v) xT 69 true).run Tryd.prog w = .ok (.tuple #[.iface 37 v, .bool true]) w := run_typeAssert_hasB Tryd.underlying69 (by kernel_rfl) v xT w
theorem Tryd.noUns_f (v : Value) (xT : TypeId) (w : World) : (Instr.typeAssert (.iface 36 v) xT 71 true).run Tryd.prog w = .ok (.tuple #[.nilIface, .bool false]) w := run_typeAssert_lacksB Tryd.underlying71 (by kernel_rfl) (by kernel_rfl) v xT w
theorem Tryd.is_f (v : Value) (xT : TypeId) (w : World) : (Instr.typeAssert (.iface 36 v) xT 66 true).run Tryd.prog w = .ok (.tuple #[.iface 36 v, .bool true]) w := run_typeAssert_hasB Tryd.underlying66 (by kernel_rfl) v xT w
theorem Tryd.methodIs (v : Value) (w : World) : (Go.method 233 36 v "Is").run Tryd.prog w = .ok (59, v) w := by kernel_rfl

/- the entries that read or write memory -/
theorem Tryd.parts_pf (a : Addr) (w : World) : (ReflectliteValue.parts (pV 48 a 150)).run Tryd.prog w = .ok (some (48, a, 150)) w := by kernel_rfl
theorem Tryd.parts_ps (a : Addr) (w : World) : (ReflectliteValue.parts (pV 47 a 150)).run Tryd.prog w = .ok (some (47, a, 150)) w := by kernel_rfl
theorem Tryd.parts_fa (a : Addr) (w : World) : (ReflectliteValue.parts (pV 36 a 409)).run Tryd.prog w = .ok (some (36, a, 409)) w := by kernel_rfl
theorem Tryd.parts_sa (a : Addr) (w : World) : (ReflectliteValue.parts (pV 37 a 406)).run Tryd.prog w = .ok (some (37, a, 406)) w := by kernel_rfl
theorem Tryd.parts_f (a : Addr) (w : World) : (ReflectliteValue.parts (pV 36 a 153)).run Tryd.prog w = .ok (some (36, a, 153)) w := by kernel_rfl
theorem Tryd.parts_s (a : Addr) (w : World) : (ReflectliteValue.parts (pV 37 a 150)).run Tryd.prog w = .ok (some (37, a, 150)) w := by kernel_rfl
theorem Tryd.elemOf_pf (w : World) : (Rtype.elem? 48).run Tryd.prog w = .ok (some 36) w := by kernel_rfl
theorem Tryd.elemOf_ps (w : World) : (Rtype.elem? 47).run Tryd.prog w = .ok (some 37) w := by kernel_rfl
theorem Tryd.mk_f (p : Addr) (w : World) : (ReflectliteValue.mk 36 p ReflectliteValue.flagAddr).run Tryd.prog w = .ok (pV 36 p 409) w := by kernel_rfl
theorem Tryd.mk_s (p : Addr) (w : World) : (ReflectliteValue.mk 37 p ReflectliteValue.flagAddr).run Tryd.prog w = .ok (pV 37 p 406) w := by kernel_rfl
theorem Tryd.direct_f (w : World) : (Rtype.directlyAssignable 36 36).run Tryd.prog w = .ok true w := by kernel_rfl
theorem Tryd.direct_s (w : World) : (Rtype.directlyAssignable 37 37).run Tryd.prog w = .ok true w := by kernel_rfl
theorem Tryd.size_f (w : World) : (sizeOf 36).run Tryd.prog w = .ok 2 w := by kernel_rfl
theorem Tryd.size_s (w : World) : (sizeOf 37).run Tryd.prog w = .ok 1 w := by kernel_rfl
theorem Tryd.isNil_pf (a p : Addr) (W : World) (ha : W.cell? a = some (.pointer (some p))) :
    (ReflectliteValue.method (ReflectliteValue.valueError "reflectlite.Value.IsNil" 0) ReflectliteValue.isNil #[pV 48 a 150]).run Tryd.prog W = .ok (.bool false) W := by
  change (Sem.run Tryd.prog (ReflectliteValue.parts (pV 48 a 150) >>= _) W) = _
  simp only [Sem.run_bind, Tryd.parts_pf, Result.andThen]
  simp [ReflectliteValue.isNil, loadVar, isAgg, underlying, Tryd.underlying48, ha, Result.andThen]
theorem Tryd.isNil_ps (a p : Addr) (W : World) (ha : W.cell? a = some (.pointer (some p))) :
    (ReflectliteValue.method (ReflectliteValue.valueError "reflectlite.Value.IsNil" 0) ReflectliteValue.isNil #[pV 47 a 150]).run Tryd.prog W = .ok (.bool false) W := by
  change (Sem.run Tryd.prog (ReflectliteValue.parts (pV 47 a 150) >>= _) W) = _
  simp only [Sem.run_bind, Tryd.parts_ps, Result.andThen]
  simp [ReflectliteValue.isNil, loadVar, isAgg, underlying, Tryd.underlying47, ha, Result.andThen]
theorem Tryd.elemV_pf (a p : Addr) (W : World) (ha : W.cell? a = some (.pointer (some p))) :
    (ReflectliteValue.method (ReflectliteValue.valueError "reflectlite.Value.Elem" 0) ReflectliteValue.elem #[pV 48 a 150]).run Tryd.prog W
      = .ok (pV 36 p 409) W := by
  change (Sem.run Tryd.prog (ReflectliteValue.parts (pV 48 a 150) >>= _) W) = _
  simp only [Sem.run_bind, Tryd.parts_pf, Result.andThen]
  simp [ReflectliteValue.elem, loadVar, isAgg, underlying, Tryd.underlying48, ha, Result.andThen, Tryd.elemOf_pf, Tryd.mk_f]
theorem Tryd.elemV_ps (a p : Addr) (W : World) (ha : W.cell? a = some (.pointer (some p))) :
    (ReflectliteValue.method (ReflectliteValue.valueError "reflectlite.Value.Elem" 0) ReflectliteValue.elem #[pV 47 a 150]).run Tryd.prog W
      = .ok (pV 37 p 406) W := by
  change (Sem.run Tryd.prog (ReflectliteValue.parts (pV 47 a 150) >>= _) W) = _
  simp only [Sem.run_bind, Tryd.parts_ps, Result.andThen]
  simp [ReflectliteValue.elem, loadVar, isAgg, underlying, Tryd.underlying47, ha, Result.andThen, Tryd.elemOf_ps, Tryd.mk_s]
theorem Tryd.set_s (ta b e : Addr) (old : Value) (W : World) (hb : W.cell? b = some (.pointer (some e))) (ht : W.cell? ta = some old) (hf : W.frozen? ta = false) :
    (ReflectliteValue.set #[pV 37 ta 406, pV 37 b 150]).run Tryd.prog W
      = .ok (.tuple #[]) (W.setCell ta (.pointer (some e))) := by
  change (Sem.run Tryd.prog (ReflectliteValue.parts (pV 37 ta 406) >>= _) W) = _
  simp only [Sem.run_bind, Tryd.parts_sa, getLit1, Tryd.parts_s, Result.andThen]
  simp [ReflectliteValue.flagAddr, loadVar, isAgg, underlying, Tryd.underlying37, hb, Result.andThen, Tryd.direct_s, storeVar, Value.cells, storeCells, Addr.add]
  rw [run_store Tryd.prog W ta _ _ (by rfl)]
  simp [ht, hf]
end Go.Proofs.YtpekeoplbfkmeaaDoor
