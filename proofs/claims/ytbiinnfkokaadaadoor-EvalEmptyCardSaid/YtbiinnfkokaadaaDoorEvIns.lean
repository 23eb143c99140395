
/- Package eval: an instruction is done: every kind. -/
import Derived.Test.YtbiinnfkokaadaaDoorEvPut
import Derived.Test.YtbiinnfkokaadaaDoorDigPut
import Derived.Test.YtbiinnfkokaadaaDoorFaultText
import Derived.Laws.BytesArg
namespace Go.Proofs.YtbiinnfkokaadaaDoor.Ev
open Go.RowKit Book Mem
open Ir (T I O trA ReadsL insA insV)
open Mach (M)
open Go.Proofs.YtbiinnfkokaadaaDoor.Cell (In)
set_option linter.unusedSimpArgs false
set_option linter.unusedVariables false
/-- a new row of one byte; it as a text -/
theorem byte_box (w : World) (x : Int) : ∃ w1 g, w.alloc (.cells #[.int .u8 x] 5) = w1 ∧ w.heap.size = g ∧ (convert 45 9 (.slice (some ⟨g, 0, none⟩) 1 1)).run Tryd.prog w1 = .ok (.string ⟨#[UInt8.ofNat x.toNat]⟩) w1 ∧ Hid (Below w.heap.size w w1) := by
  refine ⟨_, _, rfl, rfl, ?_, (Below.refl w.heap.size w).alloc (Nat.le_refl _) _⟩
  have e := run_convert_bytes_arg (P := Tryd.prog) (w.alloc (.cells #[.int .u8 x] 5)) 45 5 Tryd.underlying45 Tryd.underlying5 w.heap.size 0 1 1 [x] rfl
    (fun i hi => by obtain rfl : i = 0 := by omega
                    exact whole_cell (heap_alloc_new w _) rfl) 9 Tryd.underlying9
  exact e
theorem put_up' {v : Int} (hv : v.natAbs < 18446744073709551616) : Lib.itoa v = Dig.putV Dig.upD v 10 := by
  unfold Lib.itoa Dig.putV Dig.sgn
  rw [show (10 : Int).toNat = 10 from rfl, ← Dig.dec_digs Dig.upD (fun d h => by unfold Dig.upD; rw [if_pos h]) _ hv]
  split
  · rfl
  · rw [List.nil_append, show v.toNat = v.natAbs from by omega]
theorem put_dot {p : Int} (ip : Cell.In p) : putT p 10 = Lib.itoa p := by
  unfold Cell.In at ip
  rw [put_up' (by omega)]
  rfl
/-- what is asked of a run's sizes -/
structure Sz (s : M) (V wat : List Int) : Prop where
  st : s.stack.length ≤ 10000
  bk : s.back.length ≤ 10000
  me : s.mem.length ≤ 10000
  ou : s.out.size ≤ 2000
  inp : s.inp.size ≤ 1000000
  vl : V.length ≤ 100000
  wa : wat.length ≤ 100000
  vi : ∀ x ∈ V, In x
theorem Sz.kin {s u : M} {V wat : List Int} (h : Sz s V wat) (k : Kin s u) : Sz u V wat :=
  ⟨by rw [k.stack]; exact h.st, by rw [k.back]; exact h.bk, by rw [k.mem]; exact h.me, k.out h.ou, by rw [k.inp]; exact h.inp, h.vl, h.wa, h.vi⟩
structure Tabs (w : World) : Prop where
  z : Zeros w
  t : Tens w
theorem Tabs.mono {w w' : World} (h : Tabs w) (hb : Below w.heap.size w w') : Tabs w' := ⟨h.z.mono hb, h.t.mono hb⟩
/-- what an instruction leaves -/
def DidI (W : World) (q : Nat) (t : T) (wat V : List Int) (z : Sl) (d : D) (e : Ending) (w' : World) : Prop := e = .returned (.tuple #[.int .i64 d.v, .bool d.on]) ∧ RunAt W w' q t wat d.s V d.hit z
section
variable {W w : World} {q : Nat} {t : T} {wat : List Int} {s : M} {V : List Int} {hit : Bool} {z : Sl}
set_option maxHeartbeats 4000000 in
set_option maxRecDepth 100000 in
theorem do1 (h : RunAt W w q t wat s V false z) (hz : Sz s V wat) (hT : Tabs W) (a b c ex : Int) : Calls Tryd.prog 30 #[.pointer (some ⟨q, 0, none⟩), insV (1, a, b, c, ex)] w (DidI W q t wat V z (doI wat s V (1, a, b, c, ex))) := by
  obtain ⟨w1, g, hw1, hg, HG, HB, HZ⟩ := Ir.newBox w (insA (1, a, b, c, ex)) 43
  have k0 : w1.cell? ⟨g, 0, none⟩ = some (.int .i64 1) := whole_cell HG.out rfl
  have k1 : w1.cell? ⟨g, 1, none⟩ = some (.int .i64 a) := whole_cell HG.out rfl
  have HR := Lib.hid (h.below HB.out)
  clear h hz
  go_enter Tryd.func30, Tryd.ntmps30
  go_wp2
  go_ret2
  exact ⟨rfl, HR.out⟩

set_option maxHeartbeats 4000000 in
set_option maxRecDepth 100000 in
theorem do2 (h : RunAt W w q t wat s V false z) (hz : Sz s V wat) (hT : Tabs W) (a b c ex : Int) : Calls Tryd.prog 30 #[.pointer (some ⟨q, 0, none⟩), insV (2, a, b, c, ex)] w (DidI W q t wat V z (doI wat s V (2, a, b, c, ex))) := by
  obtain ⟨w1, g, hw1, hg, HG, HB, HZ⟩ := Ir.newBox w (insA (2, a, b, c, ex)) 43
  have k0 : w1.cell? ⟨g, 0, none⟩ = some (.int .i64 2) := whole_cell HG.out rfl
  have k1 : w1.cell? ⟨g, 1, none⟩ = some (.int .i64 a) := whole_cell HG.out rfl
  have HR := Lib.hid (h.below HB.out)
  obtain ⟨n, hn⟩ : ∃ n, s.stack.length = n := ⟨_, rfl⟩
  have hsz := hz.st
  have C := Lib.hid (fun k => get_any (Reads.of_owns (HR.out.drewN k).st) (Nat.le_trans hsz (by decide)) (wrap64 ((n : Int) - 1 - a)))
  obtain ⟨ao, cap, e⟩ := HR.out.st.slice
  obtain ⟨c0, c1, c2, c5, c6, c7, c11, c12, c13, c14, c15, c16, c19, c20, c21⟩ := HR.out.cells
  obtain ⟨vs, vb, vm, vv, vw, vi, vo, vc, ex'⟩ := z
  rw [vals_length, hn] at e
  rw [hn] at hsz
  dsimp only at e c11 c12 C
  subst e
  obtain ⟨r, hr⟩ : ∃ r, getL s.stack (wrap64 ((n : Int) - 1 - a)) = r := ⟨_, rfl⟩
  have HP := Lib.hid (show doI wat s V (2, a, b, c, ex) = ⟨s, r.1, r.2, false⟩ by rw [← hr, ← hn]; rfl)
  rw [hr] at C
  rw [HP.out]
  have hlen := hz.st
  clear h hz hr HP hlen c0 c1 c2 c5 c6 c7 c13 c14 c15 c16 c19 c20 c21
  go_enter Tryd.func30, Tryd.ntmps30
  go_wp2_with fail
  go_quiet ((go_at_call 32; exact Calls.quiet_of_same (C.out _)))
  go_wp2
  go_ret2
  exact ⟨rfl, HR.out.drewN _⟩

set_option maxHeartbeats 4000000 in
set_option maxRecDepth 100000 in
theorem do3 (h : RunAt W w q t wat s V false z) (hz : Sz s V wat) (hT : Tabs W) (a b c ex : Int) : Calls Tryd.prog 30 #[.pointer (some ⟨q, 0, none⟩), insV (3, a, b, c, ex)] w (DidI W q t wat V z (doI wat s V (3, a, b, c, ex))) := by
  obtain ⟨w1, g, hw1, hg, HG, HB, HZ⟩ := Ir.newBox w (insA (3, a, b, c, ex)) 43
  have k0 : w1.cell? ⟨g, 0, none⟩ = some (.int .i64 3) := whole_cell HG.out rfl
  have k1 : w1.cell? ⟨g, 1, none⟩ = some (.int .i64 a) := whole_cell HG.out rfl
  have HR := Lib.hid (h.below HB.out)
  obtain ⟨n, hn⟩ : ∃ n, s.back.length = n := ⟨_, rfl⟩
  have hsz := hz.bk
  have C := Lib.hid (fun k => get_any (Reads.of_owns (HR.out.drewN k).bk) (Nat.le_trans hsz (by decide)) (wrap64 ((n : Int) - 1 - a)))
  obtain ⟨ao, cap, e⟩ := HR.out.bk.slice
  obtain ⟨c0, c1, c2, c5, c6, c7, c11, c12, c13, c14, c15, c16, c19, c20, c21⟩ := HR.out.cells
  obtain ⟨vs, vb, vm, vv, vw, vi, vo, vc, ex'⟩ := z
  rw [vals_length, hn] at e
  rw [hn] at hsz
  dsimp only at e c11 c12 C
  subst e
  obtain ⟨r, hr⟩ : ∃ r, getL s.back (wrap64 ((n : Int) - 1 - a)) = r := ⟨_, rfl⟩
  have HP := Lib.hid (show doI wat s V (3, a, b, c, ex) = ⟨s, r.1, r.2, false⟩ by rw [← hr, ← hn]; rfl)
  rw [hr] at C
  rw [HP.out]
  have hlen := hz.bk
  clear h hz hr HP hlen c0 c1 c2 c5 c6 c7 c13 c14 c15 c16 c19 c20 c21
  go_enter Tryd.func30, Tryd.ntmps30
  go_wp2_with fail
  go_quiet ((go_at_call 32; exact Calls.quiet_of_same (C.out _)))
  go_wp2
  go_ret2
  exact ⟨rfl, HR.out.drewN _⟩
end
end Go.Proofs.YtbiinnfkokaadaaDoor.Ev
