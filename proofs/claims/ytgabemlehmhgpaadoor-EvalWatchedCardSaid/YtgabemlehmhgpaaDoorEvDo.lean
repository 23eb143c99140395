
/- Package eval: an instruction is done. -/
import Derived.Test.YtgabemlehmhgpaaDoorEvWalks
import Derived.Deep.LoopGhost
namespace Go.Proofs.YtgabemlehmhgpaaDoor.Ev
open Go.RowKit Book Mem
open Ir (T I O trA ReadsL insA insV)
open Mach (M)
open Go.Proofs.YtgabemlehmhgpaaDoor.Cell (In)
set_option linter.unusedSimpArgs false
set_option linter.unusedVariables false
theorem val_in {V : List Int} (h : ∀ x ∈ V, In x) (p : Int) : In (val V p) := getL_in h p
theorem drewN1 (w : World) (q : Nat) : Below w.heap.size w (w.drewN q) := ⟨rfl, rfl, rfl, Nat.le_refl _, fun _ _ => rfl⟩
/-- a call's answer of a value and a flag; the world but for new blocks -/
def Tells3 (d : D) (w : World) (e : Ending) (w' : World) : Prop := e = .returned (.tuple #[.int .i64 d.v, .bool d.on]) ∧ Below w.heap.size w w'
section
variable {W w : World} {q : Nat} {t : T} {wat : List Int} {s : M} {V : List Int} {hit : Bool} {z : Sl}
set_option maxHeartbeats 4000000 in
set_option maxRecDepth 100000 in
theorem calc_any (h : RunAt W w q t wat s V hit z) (hl : V.length ≤ 100000) (hV : ∀ x ∈ V, In x) (x : I) : Calls Tryd.prog 31 #[.pointer (some ⟨q, 0, none⟩), insV x] w (Tells3 (calcI s x.2.1 (val V x.2.2.1) (val V x.2.2.2.1)) w) := by
  obtain ⟨op, a, b, c, ex⟩ := x
  obtain ⟨w1, g, hw1, hg, HG, HB, HZ⟩ := Ir.newBox w (insA (op, a, b, c, ex)) 42
  have k1 : w1.cell? ⟨g, 1, none⟩ = some (.int .i64 a) := whole_cell HG.out rfl
  have k2 : w1.cell? ⟨g, 2, none⟩ = some (.int .i64 b) := whole_cell HG.out rfl
  have k3 : w1.cell? ⟨g, 3, none⟩ = some (.int .i64 c) := whole_cell HG.out rfl
  have CB := Lib.hid (fun k => value_any ((h.below HB.out).drewN k) hl b)
  have CC := Lib.hid (fun k => value_any ((h.below HB.out).drewN k) hl c)
  have ib := val_in hV b
  have ic := val_in hV c
  dsimp only at *
  obtain ⟨vb, hvb⟩ : ∃ v, val V b = v := ⟨_, rfl⟩
  obtain ⟨vc, hvc⟩ : ∃ v, val V c = v := ⟨_, rfl⟩
  rw [hvb] at CB ib ⊢
  rw [hvc] at CC ic ⊢
  have O := Lib.hid (fun k => Cell.one_any a vb ib (w1.drewN k))
  have HP := Lib.hid (fun wd => Cell.two_any a vb vc ic wd)
  have HR := Lib.hid (h.below HB.out)
  have HLV := Lib.hid hl
  have hvb' := Lib.hid hvb
  have hvc' := Lib.hid hvc
  obtain ⟨r1, hr1⟩ : ∃ r, Cell.one a vb = r := ⟨_, rfl⟩
  obtain ⟨r2, hr2⟩ : ∃ r, Cell.two a vb vc = r := ⟨_, rfl⟩
  rw [hr1] at O
  rw [hr2] at HP
  unfold calcI
  rw [hr1, hr2]
  clear h hl hV hvb hvc ib ic hr1 hr2
  obtain ⟨y, is⟩ := r1
  obtain ⟨y2, is2⟩ := r2
  cases is with
  | true =>
    clear HP
    go_enter Tryd.func31, Tryd.ntmps31
    go_wp2_with fail
    go_quiet (first | (go_at_call 32; exact Calls.quiet_of_same (by first | with_reducible exact CB.out _ | with_reducible exact CC.out _)) | (go_at_call 38; exact Calls.quiet_of (O.out _)))
    go_wp2
    go_ret2
    exact ⟨rfl, HB.out.trans ((drewN1 _ _).mono HB.out.size)⟩
  | false =>
    go_enter Tryd.func31, Tryd.ntmps31
    go_wp2_with fail
    go_quiet (first | (go_at_call 32; exact Calls.quiet_of_same (by first | with_reducible exact CB.out _ | with_reducible exact CC.out _)) | (go_at_call 38; exact Calls.quiet_of (O.out _)))
    go_wp2_with fail
    obtain ⟨wr, hwr⟩ : ∃ wr, w1.drewN nq = wr := ⟨_, rfl⟩
    rw [hwr]
    have HB2 := Lib.hid (show Below w.heap.size w wr by rw [← hwr]; exact HB.out.trans ((drewN1 _ _).mono HB.out.size))
    have e1 : wr.cell? ⟨g, 1, none⟩ = some (.int .i64 a) := by rw [← hwr]; exact k1
    have e2 : wr.cell? ⟨g, 2, none⟩ = some (.int .i64 b) := by rw [← hwr]; exact k2
    have e3 : wr.cell? ⟨g, 3, none⟩ = some (.int .i64 c) := by rw [← hwr]; exact k3
    have CB2 := Lib.hid (fun k => by have h := value_any ((HR.out.drewN nq).drewN k) HLV.out b; rw [hwr, hvb'.out] at h; exact h)
    have CC2 := Lib.hid (fun k => by have h := value_any ((HR.out.drewN nq).drewN k) HLV.out c; rw [hwr, hvc'.out] at h; exact h)
    have P2 := Lib.hid (fun k => by have h := HP.out (wr.drewN k); exact h)
    clear CB CC O k1 k2 k3 hwr
    go_quiet (first | (go_at_call 32; exact Calls.quiet_of_same (by first | with_reducible exact CB2.out _ | with_reducible exact CC2.out _)) | (go_at_call 39; exact Calls.quiet_of (P2.out _)))
    go_wp2_with fail
    go_wp2
    go_ret2
    exact ⟨rfl, HB2.out.trans ((drewN1 _ _).mono HB2.out.size)⟩
end
end Go.Proofs.YtgabemlehmhgpaaDoor.Ev
