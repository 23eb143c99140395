
/- Package eval: a cell is stored into; a text is told; a byte is asked for. -/
import Derived.Test.YtgabemlehmhgpaaDoorEvParts
namespace Go.Proofs.YtgabemlehmhgpaaDoor.Ev
open Go.RowKit Book Mem
open Ir (T I O trA ReadsL insA insV)
open Mach (M)
open Go.Proofs.YtgabemlehmhgpaaDoor.Cell (In)
set_option linter.unusedSimpArgs false
set_option linter.unusedVariables false
section
variable {W w : World} {q : Nat} {t : T} {wat : List Int} {s : M} {V : List Int} {hit : Bool} {z : Sl}
/-- what a call leaves, its answer a flag -/
def OnB (W : World) (q : Nat) (t : T) (wat V : List Int) (z : Sl) (d : D) (e : Ending) (w' : World) : Prop := e = .returned (.bool d.on) ∧ RunAt W w' q t wat d.s V d.hit z
set_option maxHeartbeats 4000000 in
set_option maxRecDepth 100000 in
theorem put_any (h : RunAt W w q t wat s V false z) (hm : s.mem.length ≤ 100000) (hwt : wat.length ≤ 100000) (b c : Int) : Calls Tryd.prog 33 #[.pointer (some ⟨q, 0, none⟩), .int .i64 b, .int .i64 c] w (OnB W q t wat V z (putI wat s b c)) := by
  obtain ⟨vs, vb, vm, vv, vw, vi, vo, vc, ex'⟩ := z
  have C1 := Lib.hid (get_any (Reads.of_owns h.me) hm b)
  have HR := Lib.hid h
  obtain ⟨-, -, -, -, -, -, -, -, c13, -, -, -, -, c20, -⟩ := h.cells
  by_cases hp : 0 ≤ b ∧ b < (s.mem.length : Int)
  · obtain ⟨k, rfl⟩ : ∃ k : Nat, b = k := ⟨b.toNat, by omega⟩
    have hk : k < s.mem.length := by omega
    rw [getL_yes (List.getElem?_eq_getElem hk)] at C1
    obtain ⟨y, hy⟩ : ∃ y, s.mem[k] = y := ⟨_, rfl⟩
    rw [hy] at C1
    have hme := h.me
    obtain ⟨g, cap, e, -⟩ := hme.row (by rw [vals_length]; omega)
    rw [vals_length] at e
    dsimp only at e hme c13 c20 C1
    subst e
    obtain ⟨x0, x1⟩ := Mem.owns_at hme hk
    rw [hy] at x0
    have H2 := Lib.hid (h.poke rfl hk c)
    have C2 := Lib.hid (contains_any (H2.out.wa.below H2.out.hb) hwt (k : Int))
    have HP := Lib.hid (show putI wat s (k : Int) c = ⟨{ s with mem := s.mem.set k c }, 0, true, wat.contains (k : Int)⟩ by unfold putI; rw [if_pos hp, Int.toNat_natCast])
    obtain ⟨w2, hw2⟩ : ∃ w2, w.setCell ⟨g, k, none⟩ (.int .i64 c) = w2 := ⟨_, rfl⟩
    rw [hw2] at H2 C2
    obtain ⟨-, -, -, -, -, -, -, -, -, -, -, -, -, d20, d21⟩ := H2.out.cells
    have f21 := H2.out.free 21
    obtain ⟨n, hn⟩ : ∃ n, s.mem.length = n := ⟨_, rfl⟩
    have k0 : (0 : Int) ≤ (k : Int) := by omega
    have k1 : (k : Int) < (n : Int) := by omega
    obtain ⟨r, hr⟩ : ∃ r, wat.contains (k : Int) = r := ⟨_, rfl⟩
    dsimp only at C2 d20
    rw [hr] at C2 HP
    rw [hn] at c13 C1 hm
    rw [HP.out]
    clear h hp hk hme hy hr
    go_enter Tryd.func33, Tryd.ntmps33
    go_wp2_with (first | (go_at_call 30; refine C1.out.mono ?_; rintro e w' ⟨rfl, rfl⟩) | (go_at_call 40; refine C2.out.mono ?_; rintro e w' ⟨rfl, rfl⟩))
    go_ret
    exact ⟨rfl, H2.out.field 21 (.bool r) rfl rfl rfl rfl⟩
  · rw [getL_no hp] at C1
    have HP := Lib.hid (show putI wat s b c = ⟨s, 0, false, false⟩ by unfold putI; rw [if_neg hp])
    rw [HP.out]
    dsimp only at c13 C1
    clear h hp
    go_enter Tryd.func33, Tryd.ntmps33
    go_wp2_with (go_at_call 30; refine C1.out.mono ?_; rintro e w' ⟨rfl, rfl⟩)
    go_ret
    exact ⟨rfl, HR.out⟩
set_option maxHeartbeats 4000000 in
set_option maxRecDepth 100000 in
theorem say_any (h : RunAt W w q t wat s V false z) (ho : s.out.size ≤ 2000) (b : ByteArray) (hb : b.size ≤ 100) : Calls Tryd.prog 34 #[.pointer (some ⟨q, 0, none⟩), .string b] w (OnB W q t wat V z (sayI s b)) := by
  have HR := Lib.hid h
  obtain ⟨-, -, -, -, -, -, -, -, -, c14, -, -, -, -, -⟩ := h.cells
  have f14 := h.free 14
  obtain ⟨no, hno⟩ : ∃ n, s.out.size = n := ⟨_, rfl⟩
  obtain ⟨nb, hnb⟩ : ∃ n, b.size = n := ⟨_, rfl⟩
  by_cases hp : s.out.size + b.size ≤ 2000
  · have HP := Lib.hid (show sayI s b = ⟨{ s with out := s.out ++ b }, 0, true, false⟩ by unfold sayI; rw [if_pos hp])
    rw [hno, hnb] at hp
    have H1 : decide (2000 < (no : Int) + (nb : Int)) = false := decide_eq_false (by omega)
    rw [HP.out]
    rw [hno] at ho
    rw [hnb] at hb
    clear h
    go_enter Tryd.func34, Tryd.ntmps34
    go_wp2
    go_ret
    exact ⟨rfl, HR.out.field 14 (.string (s.out ++ b)) rfl rfl rfl rfl⟩
  · have HP := Lib.hid (show sayI s b = ⟨s, 0, false, false⟩ by unfold sayI; rw [if_neg hp])
    rw [hno, hnb] at hp
    have H1 : decide (2000 < (no : Int) + (nb : Int)) = true := decide_eq_true (by omega)
    rw [HP.out]
    rw [hno] at ho
    rw [hnb] at hb
    clear h
    go_enter Tryd.func34, Tryd.ntmps34
    go_wp2
    go_ret
    exact ⟨rfl, HR.out⟩
/-- what a call leaves, its answer a number -/
def OnV (W : World) (q : Nat) (t : T) (wat V : List Int) (z : Sl) (d : D) (e : Ending) (w' : World) : Prop := e = .returned (.int .i64 d.v) ∧ RunAt W w' q t wat d.s V d.hit z
set_option maxHeartbeats 4000000 in
set_option maxRecDepth 100000 in
theorem ask_any (h : RunAt W w q t wat s V false z) (hi : s.inp.size ≤ 1000000) : Calls Tryd.prog 36 #[.pointer (some ⟨q, 0, none⟩)] w (OnV W q t wat V z (askI s)) := by
  have HR := Lib.hid h
  obtain ⟨-, -, -, -, -, -, -, -, -, -, c15, c16, -, -, -⟩ := h.cells
  have f16 := h.free 16
  obtain ⟨ni, hni⟩ : ∃ n, s.inp.size = n := ⟨_, rfl⟩
  by_cases hp : 0 ≤ s.read ∧ s.read < (s.inp.size : Int)
  · obtain ⟨rd, hrd⟩ : ∃ rd : Nat, s.read.toNat = rd := ⟨_, rfl⟩
    have hr : s.read = (rd : Int) := by omega
    have h2 : rd < s.inp.size := by omega
    obtain ⟨by', hby⟩ : ∃ b, s.inp[rd] = b := ⟨_, rfl⟩
    have hD : s.inp.data.toList.getD rd 0 = by' := by rw [← hby, List.getD_eq_getElem?_getD, List.getElem?_eq_getElem (by simpa using h2)]; rfl
    have HP := Lib.hid (show askI s = ⟨{ s with read := (rd : Int) + 1 }, ((by'.toNat : Nat) : Int), true, false⟩ by unfold askI; rw [if_pos hp, hrd, hD, hr])
    have e8 : wrap64 ((by'.toNat : Nat) : Int) = ((by'.toNat : Nat) : Int) := by have := by'.toNat_lt; unfold wrap64; omega
    have C := Lib.hid (within_any (rd : Int) ((ni : Int) - 1) w)
    rw [Ir.within_yes (by omega) (by omega)] at C
    have h3 : (rd : Int) < (ni : Int) := by omega
    have h4 : rd < ni := by omega
    rw [hr] at c16
    rw [HP.out]
    rw [hni] at hi
    clear h hp hr hrd hD
    go_enter Tryd.func36, Tryd.ntmps36
    go_wp2_with (go_at_call 23; refine C.out.mono ?_; rintro e w' ⟨rfl, rfl⟩)
    go_ret
    exact ⟨Cell.ret1 e8, HR.out.field 16 (.int .i64 ((rd : Int) + 1)) rfl rfl rfl rfl⟩
  · have HP := Lib.hid (show askI s = ⟨s, -1, true, false⟩ by unfold askI; rw [if_neg hp])
    have C := Lib.hid (within_any s.read ((ni : Int) - 1) w)
    rw [Ir.within_no (by omega)] at C
    rw [HP.out]
    rw [hni] at hi
    clear h hp
    go_enter Tryd.func36, Tryd.ntmps36
    go_wp2_with (go_at_call 23; refine C.out.mono ?_; rintro e w' ⟨rfl, rfl⟩)
    go_ret
    exact ⟨rfl, HR.out⟩
end
end Go.Proofs.YtgabemlehmhgpaaDoor.Ev
