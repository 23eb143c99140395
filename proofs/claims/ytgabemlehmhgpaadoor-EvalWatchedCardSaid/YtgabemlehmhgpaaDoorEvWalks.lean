
/- Package eval: the small calls. -/
import Derived.Test.YtgabemlehmhgpaaDoorEvMem
import Derived.Test.YtgabemlehmhgpaaDoorCellWalks
import Derived.Lib.Hide
import Derived.BigQuiet
import Derived.Deep.QuietTactic
namespace Go.Proofs.YtgabemlehmhgpaaDoor.Ev
open Go.RowKit Book Mem
open Ir (T I O trA ReadsL insA insV)
open Mach (M)
set_option linter.unusedSimpArgs false
set_option linter.unusedVariables false
theorem within_any (n m : Int) (w : World) : Calls Tryd.prog 23 #[.int .i64 n, .int .i64 m] w fun e w' => e = .returned (.bool (Ir.within n m)) ∧ w' = w := by
  by_cases h0 : 0 ≤ n
  · by_cases h1 : n ≤ m
    · have HP := Lib.hid (Ir.within_yes h0 h1)
      go_enter Tryd.func23, Tryd.ntmps23
      go_wp2
      go_ret
      exact ⟨by rw [HP.out]; rfl, rfl⟩
    · have HP := Lib.hid (Ir.within_no (fun h => h1 h.2) : Ir.within n m = false)
      go_enter Tryd.func23, Tryd.ntmps23
      go_wp2
      go_ret
      exact ⟨by rw [HP.out]; rfl, rfl⟩
  · have HP := Lib.hid (Ir.within_no (fun h => h0 h.1) : Ir.within n m = false)
    go_enter Tryd.func23, Tryd.ntmps23
    go_wp2
    go_ret
    exact ⟨by rw [HP.out]; rfl, rfl⟩
/-- what a call of a cell and a flag comes to -/
def Tells2 (x : Int × Bool) (w : World) (e : Ending) (w' : World) : Prop := e = .returned (.tuple #[.int .i64 x.1, .bool x.2]) ∧ w' = w
theorem getL_no {l : List Int} {p : Int} (h : ¬ (0 ≤ p ∧ p < (l.length : Int))) : getL l p = (0, false) := by unfold getL; rw [if_neg h]
theorem getL_yes {l : List Int} {k : Nat} {x : Int} (h : l[k]? = some x) : getL l (k : Int) = (x, true) := by
  have hk := (List.getElem?_eq_some_iff.1 h).1
  unfold getL
  rw [if_pos ⟨by omega, by omega⟩, Int.toNat_natCast, List.getD_eq_getElem?_getD, h]
  rfl
theorem get_any {w : World} {v : Value} {l : List Int} (h : Reads w v l) (hl : l.length ≤ 100000) (p : Int) : Calls Tryd.prog 30 #[v, .int .i64 p] w (Tells2 (getL l p) w) := by
  obtain ⟨n, hn⟩ : ∃ n, l.length = n := ⟨_, rfl⟩
  have C := Lib.hid (within_any p ((n : Int) - 1) w)
  by_cases hp : 0 ≤ p ∧ p < (l.length : Int)
  · obtain ⟨k, rfl⟩ : ∃ k : Nat, p = k := ⟨p.toNat, by omega⟩
    have hk : k < l.length := by omega
    have hx := List.getElem?_eq_getElem hk
    have HG := Lib.hid (getL_yes hx)
    obtain ⟨ao, c, e, hc⟩ := h
    obtain ⟨ad, rfl, hcell⟩ := hc k _ hx
    subst e
    have HT := Lib.hid (Ir.within_yes (n := (k : Int)) (most := (n : Int) - 1) (by omega) (by omega))
    rw [HT.out] at C
    obtain ⟨x, hx'⟩ : ∃ x, l[k] = x := ⟨_, rfl⟩
    rw [hx'] at hcell HG
    rw [hn] at hk hl ⊢
    clear hp hx hc HT hx'
    go_enter Tryd.func30, Tryd.ntmps30
    go_wp2_with (go_at_call 23; refine C.out.mono ?_; rintro e w' ⟨rfl, rfl⟩)
    go_ret2
    exact ⟨Cell.ret2 (by rw [HG.out]; try rfl) (by rw [HG.out]; try rfl), rfl⟩
  · have HG := Lib.hid (getL_no hp)
    have HT := Lib.hid (Ir.within_no (n := p) (most := (n : Int) - 1) (by omega))
    rw [HT.out] at C
    obtain ⟨ao, c, rfl, hc⟩ := h
    rw [hn] at hl ⊢
    clear hp hc HT
    go_enter Tryd.func30, Tryd.ntmps30
    go_wp2_with (go_at_call 23; refine C.out.mono ?_; rintro e w' ⟨rfl, rfl⟩)
    go_ret2
    exact ⟨Cell.ret2 (by rw [HG.out]; try rfl) (by rw [HG.out]; try rfl), rfl⟩
section
variable {W w : World} {q : Nat} {t : T} {wat : List Int} {s : M} {V : List Int} {hit : Bool} {z : Sl}
theorem value_any (h : RunAt W w q t wat s V hit z) (hl : V.length ≤ 100000) (p : Int) : Calls Tryd.prog 32 #[.pointer (some ⟨q, 0, none⟩), .int .i64 p] w fun e w' => e = .returned (.int .i64 (val V p)) ∧ w' = w := by
  have C := Lib.hid (get_any (Reads.of_owns h.vl) hl p)
  obtain ⟨-, -, -, -, -, -, -, -, -, -, -, -, c19, -, -⟩ := h.cells
  obtain ⟨g, hg⟩ : ∃ g, getL V p = g := ⟨_, rfl⟩
  have HV := Lib.hid (show val V p = g.1 by unfold val; rw [hg])
  rw [hg] at C
  obtain ⟨zv, hzv⟩ : ∃ zv, z.vv = zv := ⟨_, rfl⟩
  rw [hzv] at c19 C
  clear h hl hg hzv
  go_enter Tryd.func32, Tryd.ntmps32
  go_wp2_with (go_at_call 30; refine C.out.mono ?_; rintro e w' ⟨rfl, rfl⟩)
  go_ret
  exact ⟨Cell.ret1 HV.out.symm, rfl⟩
end
end Go.Proofs.YtgabemlehmhgpaaDoor.Ev
