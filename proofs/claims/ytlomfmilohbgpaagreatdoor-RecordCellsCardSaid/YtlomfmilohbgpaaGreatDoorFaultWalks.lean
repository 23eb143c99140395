
/- The walks of package fault: New, Wrap, Unwrap; errors.As over a chain of wrapped faults. -/
import Derived.Test.YtlomfmilohbgpaaGreatDoorFaultAs
import Derived.Below
import Derived.Deep.LoopGhost
import Derived.Lib.Hide
namespace Go.Proofs.YtlomfmilohbgpaaGreatDoor
open Go.RowKit Go.Extern.Stop Go.Stop Go.Extern
set_option linter.unusedSimpArgs false
set_option linter.unusedVariables false

theorem setCell_far1 (W : World) (T : Nat) (v : Value) : (W.setCell ⟨T, 0, none⟩ v).cell? ⟨T, 1, none⟩ = W.cell? ⟨T, 1, none⟩ := World.cell?_setCell_other _ _ _ _ (by simp)
set_option maxHeartbeats 1000000 in
theorem Tryz.set_f (T b : Nat) (c i : Int) (o0 o1 : Value) (W : World) (hb : W.cell? ⟨b, 0, none⟩ = some (.int .i64 c)) (hb1 : W.cell? ⟨b, 1, none⟩ = some (.int .i64 i))
    (ht : W.cell? ⟨T, 0, none⟩ = some o0) (ht1 : W.cell? ⟨T, 1, none⟩ = some o1) (hf : W.frozen? ⟨T, 0, none⟩ = false) (hf1 : W.frozen? ⟨T, 1, none⟩ = false) :
    (ReflectliteValue.set #[pV 110 ⟨T, 0, none⟩ 409, pV 110 ⟨b, 0, none⟩ 153]).run Tryz.prog W
      = .ok (.tuple #[]) ((W.setCell ⟨T, 0, none⟩ (.int .i64 c)).setCell ⟨T, 1, none⟩ (.int .i64 i)) := by
  change (Sem.run Tryz.prog (ReflectliteValue.parts (pV 110 ⟨T, 0, none⟩ 409) >>= _) W) = _
  simp only [Sem.run_bind, Tryz.parts_fa, getLit1, Tryz.parts_f, Result.andThen]
  simp [ReflectliteValue.flagAddr, loadVar, isAgg, underlying, Tryz.underlying110, hb, hb1, Result.andThen, Tryz.direct_f, Tryz.size_f, storeVar, loadCells, loadCellsFrom, Value.cells, storeCells, Addr.add]
  rw [run_store Tryz.prog W ⟨T, 0, none⟩ _ _ (by rfl)]
  simp [ht, hf, Result.andThen]
  rw [run_store Tryz.prog _ ⟨T, 1, none⟩ _ _ (by rfl)]
  simp [setCell_far1, ht1, hf1, Result.andThen]
abbrev faultV (c i : Int) : Value := .iface 110 (.agg #[.int .i64 c, .int .i64 i])
abbrev seenV (b : Nat) : Value := .iface 116 (.pointer (some ⟨b, 0, none⟩))
/-- an error that is the fault (c, i), seen from the words of the list, the outermost first -/
def Chain (w : World) (c i : Int) : List ByteArray → Value → Prop
  | [], v => v = faultV c i
  | s :: r, v => ∃ b inner, v = seenV b ∧ b < w.heap.size ∧ w.cell? ⟨b, 0, none⟩ = some (.string s) ∧ w.cell? ⟨b, 1, none⟩ = some inner ∧ Chain w c i r inner
theorem Chain.mono {w w' : World} (hb : Below w.heap.size w w') {c i : Int} : ∀ {ws v}, Chain w c i ws v → Chain w' c i ws v
  | [], _, h => h
  | s :: r, v, ⟨b, inner, h1, h2, h3, h4, h5⟩ => ⟨b, inner, h1, Nat.lt_of_lt_of_le h2 hb.size, by rw [hb.cell h2]; exact h3, by rw [hb.cell h2]; exact h4, Chain.mono hb h5⟩
theorem Chain.heap {w w' : World} (hb : ∀ k, k < w.heap.size → w'.heap[k]? = w.heap[k]?) (hs : w.heap.size ≤ w'.heap.size) {c i : Int} : ∀ {ws v}, Chain w c i ws v → Chain w' c i ws v
  | [], _, h => h
  | s :: r, v, ⟨b, inner, h1, h2, h3, h4, h5⟩ => ⟨b, inner, h1, Nat.lt_of_lt_of_le h2 hs, by rw [World.cell?_of_block (w := w) (hb b h2)]; exact h3, by rw [World.cell?_of_block (w := w) (hb b h2)]; exact h4, Chain.heap hb hs h5⟩
theorem Chain.alloc {w : World} {o : Obj} {c i : Int} {ws v} (h : Chain w c i ws v) : Chain (w.alloc o) c i ws v :=
  h.mono ((Below.refl _ _).alloc (Nat.le_refl _) o)

theorem new_zero (ip : Int) (w : World) : Calls Tryz.prog 60 #[.int .i64 0, .int .i64 ip] w fun e w' => e = .returned .nilIface ∧ w = w' := by
  go_enter Tryz.func60, Tryz.ntmps60
  go_wp2
  go_ret
  exact ⟨rfl, rfl⟩
theorem new_some (c ip : Int) (hc : (c == 0) = false) (w : World) : Calls Tryz.prog 60 #[.int .i64 c, .int .i64 ip] w fun e w' => e = .returned (faultV c ip) ∧ w = w' := by
  go_enter Tryz.func60, Tryz.ntmps60
  go_wp2
  go_ret
  exact ⟨rfl, rfl⟩
theorem wrap_nil (s : ByteArray) (w : World) : Calls Tryz.prog 62 #[.nilIface, .string s] w fun e w' => e = .returned .nilIface ∧ w = w' := by
  go_enter Tryz.func62, Tryz.ntmps62
  go_wp2
  go_ret
  exact ⟨rfl, rfl⟩
theorem wrap_some (t : TypeId) (x : Value) (s : ByteArray) (w : World) : Calls Tryz.prog 62 #[.iface t x, .string s] w fun e w' => e = .returned (seenV w.heap.size) ∧ w' = w.alloc (.cells #[.string s, .iface t x] 118) := by
  go_enter Tryz.func62, Tryz.ntmps62
  go_wp2
  go_ret
  exact ⟨rfl, rfl⟩
theorem unwrap_any (b : Nat) (inner : Value) (w : World) (h : w.cell? ⟨b, 1, none⟩ = some inner) : Calls Tryz.prog 180 #[.pointer (some ⟨b, 0, none⟩)] w fun e w' => e = .returned inner ∧ w = w' := by
  go_enter Tryz.func180, Tryz.ntmps180
  go_wp2
  go_ret
  exact ⟨rfl, rfl⟩

theorem Chain.iface {w : World} {c i : Int} {ws v} (h : Chain w c i ws v) : ∃ t x, v = .iface t x := by
  cases ws with
  | nil => exact ⟨_, _, h⟩
  | cons s r => obtain ⟨b, inner, rfl, _⟩ := h; exact ⟨_, _, rfl⟩
abbrev rvCells (t : TypeId) (n : Nat) : Obj := .cells #[hd t, .pointer (some ⟨n, 0, none⟩), .int .u64 150] 131
set_option maxHeartbeats 4000000 in
theorem as_f (ws : List ByteArray) (v : Value) (c i : Int) (T n : Nat) (o0 o1 : Value) (w : World) (hch : Chain w c i ws v)
    (hnl : n < w.heap.size) (hTl : T < w.heap.size) (hn : w.cell? ⟨n, 0, none⟩ = some (.pointer (some ⟨T, 0, none⟩)))
    (ht : w.cell? ⟨T, 0, none⟩ = some o0) (ht1 : w.cell? ⟨T, 1, none⟩ = some o1) (hf : w.frozen? ⟨T, 0, none⟩ = false) (hf1 : w.frozen? ⟨T, 1, none⟩ = false) :
    Calls Tryz.prog 98 #[v, .iface 126 (.pointer (some ⟨T, 0, none⟩)), pV 126 ⟨n, 0, none⟩ 150, rty 110] w fun e w' =>
      e = .returned (.bool true) ∧ w' = (((w.setCell ⟨T, 0, none⟩ (.int .i64 c)).setCell ⟨T, 1, none⟩ (.int .i64 i)).alloc (rvCells 126 n)).alloc (.cells #[.int .i64 c, .int .i64 i] 110) := by
  have h1 := @run_callFunc_extern Tryz.prog 108 _ ReflectliteType.typeOf Tryz.func108 (by kernel_rfl) (by kernel_rfl) (by kernel_rfl) (by kernel_rfl)
  have h2 := @run_callFunc_extern Tryz.prog 185 _ (ReflectliteType.relation "AssignableTo" ReflectliteType.assignableTo) Tryz.func185 (by kernel_rfl) (by kernel_rfl) (by kernel_rfl) (by kernel_rfl)
  have h3 := @run_callFunc_extern Tryz.prog 109 _ (ReflectliteValue.method (ReflectliteValue.valueError "reflectlite.Value.Elem" 0) ReflectliteValue.elem) Tryz.func109 (by kernel_rfl) (by kernel_rfl) (by kernel_rfl) (by kernel_rfl)
  have h4 := @run_callFunc_extern Tryz.prog 110 _ ReflectliteValue.set Tryz.func110 (by kernel_rfl) (by kernel_rfl) (by kernel_rfl) (by kernel_rfl)
  have h5 := @run_callFunc_extern Tryz.prog 95 _ (fun args => ReflectliteValue.unpack (args.getD 0 (.tuple #[]))) Tryz.func95 (by kernel_rfl) (by kernel_rfl) (by kernel_rfl) (by kernel_rfl)
  have q1 := Tryz.typeOf_f
  have q2 := Tryz.typeOf_s
  have q3 := Tryz.methodAssignableTo
  have q4 := Tryz.assign_ff
  have q5 := Tryz.assign_sf
  have q6 := Tryz.noAs_s
  have q7 := Tryz.un_s
  have q8 := Tryz.methodUnwrap
  have q9 := Tryz.valueOf_f c i
  have el := Tryz.elemV_pf ⟨n, 0, none⟩ ⟨T, 0, none⟩ (w.alloc (rvCells 126 n)) (by rw [World.cell?_alloc_lt _ _ ⟨n, 0, none⟩ hnl]; exact hn)
  have st := Tryz.set_f T (w.heap.size + 1) c i o0 o1 ((w.alloc (rvCells 126 n)).alloc (.cells #[.int .i64 c, .int .i64 i] 110))
    (by rw [World.cell?_alloc_at _ _ _ _ (by simp)]; rfl) (by rw [World.cell?_alloc_at _ _ _ _ (by simp)]; rfl)
    (by rw [World.cell?_alloc_lt _ _ ⟨T, 0, none⟩ (by simp; omega), World.cell?_alloc_lt _ _ ⟨T, 0, none⟩ hTl]; exact ht)
    (by rw [World.cell?_alloc_lt _ _ ⟨T, 1, none⟩ (by simp; omega), World.cell?_alloc_lt _ _ ⟨T, 1, none⟩ hTl]; exact ht1)
    (by rw [World.frozen?_alloc_old _ _ ⟨T, 0, none⟩ (by simp; omega), World.frozen?_alloc_old _ _ ⟨T, 0, none⟩ (Nat.ne_of_lt hTl)]; exact hf)
    (by rw [World.frozen?_alloc_old _ _ ⟨T, 1, none⟩ (by simp; omega), World.frozen?_alloc_old _ _ ⟨T, 1, none⟩ (Nat.ne_of_lt hTl)]; exact hf1)
  have EL := Lib.hid el
  have ST := Lib.hid st
  have HC := Lib.hid hch
  clear el st hn ht ht1 hf hf1 hch
  go_enter Tryz.func98, Tryz.ntmps98
  go_wp2
  go_loopg [0] ws.length (fun k p wr => ∃ ws' v', k = ws'.length ∧ p = v' ∧ Hid (Chain w c i ws' v') ∧ wr = w.alloc (rvCells 126 n))
  case atStart => exact ⟨ws, v, rfl, rfl, HC, rfl⟩
  case round =>
    obtain ⟨ws', v', rfl, rfl, hc', rfl⟩ := hrel
    cases ws' with
    | nil =>
      obtain rfl := hc'.out
      have el := EL.out
      have st := ST.out
      go_wp2
      go_ret
      exact ⟨rfl, rfl⟩
    | cons s r =>
      obtain ⟨b, inner, rfl, hb, k0, k1, k2⟩ := hc'.out
      obtain ⟨t, x, rfl⟩ := k2.iface
      have K2 := Lib.hid k2
      clear k2 hc' k0
      have hu := fun w' h => unwrap_any b (.iface t x) w' h
      have k1' : (w.alloc (rvCells 126 n)).cell? ⟨b, 1, none⟩ = some (.iface t x) := by rw [World.cell?_alloc_lt _ _ ⟨b, 1, none⟩ hb]; exact k1
      clear k1 EL ST
      go_wp2_with (go_at_call 180; refine (unwrap_any b _ _ k1').mono ?_; rintro e w' ⟨rfl, rfl⟩)
      go_roundg r.length
      case measure => simp
      case rel => exact ⟨r, _, rfl, rfl, K2, rfl⟩
end Go.Proofs.YtlomfmilohbgpaaGreatDoor
