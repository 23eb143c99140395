
/- The document's own weave: a new one; an operation, one with its operand, a call that are laid. -/
import Derived.Test.YtcpdhfigaoaohaaDoorWvRefWalks
import Derived.Test.YtcpdhfigaoaohaaDoorOpPlain
namespace Go.Proofs.YtcpdhfigaoaohaaDoor.WvR
open Go.RowKit Book Book.Wide Mem Wv
set_option linter.unusedSimpArgs false
set_option linter.unusedVariables false
set_option maxRecDepth 100000
theorem code_any (b : Bool) (w : World) : Calls Tryd.prog 30 #[.bool b] w fun e w' => e = .returned (.int .i64 (if b then 0 else -8)) ∧ w' = w := by
  cases b
  all_goals
    go_enter Tryd.func30, Tryd.ntmps30
    go_wp2
    go_ret
    exact ⟨rfl, rfl⟩
theorem lit_box (w : World) (xs : List Int) : ∃ w1 g, w.alloc (.cells (vals xs).toArray 3) = w1 ∧ w.heap.size = g ∧ w1.heap[g]? = some (.cells (vals xs).toArray 3 (0, 0)) ∧ Below w.heap.size w w1 :=
  ⟨_, _, rfl, rfl, heap_alloc_new w _, (Below.refl w.heap.size w).alloc (Nat.le_refl _) _⟩
section
variable {w : World} {B p : Nat} {bs : List Nat} {m : M}
theorem RAt.old (h : RAt w B p bs m) : w.heap.size ∉ bs := fun hk => Nat.lt_irrefl _ (h.lt _ hk).2
theorem rdid_lay {w w1 w2 : World} {n : Nat} {xs : List Int} {r : Int × M} {fb : Bool} {v : Value} (hf : m.fits n = fb) (hb : Below w.heap.size w w1) (hA : RAt w2 B p bs (if fb then layN xs m else m)) (hS : Stirred w1 w2 bs) (hr : r = if m.fits n then (0, layN xs m) else (-8, m)) (hv : v = .int .i64 (if fb then 0 else -8)) : RDid w B p bs (.int .i64 r.1) r.2 (.returned v) w2 := by
  subst hr hv hf
  refine ⟨?_, bs, ?_, (Stirred.of_below hb bs).trans hS (fun k hk => .inl hk), fun k hk => .inl hk⟩
  · cases m.fits n <;> rfl
  · cases hf : m.fits n <;> rw [hf] at hA <;> exact hA
set_option maxHeartbeats 2000000 in
theorem rop_any (h : RAt w B p bs m) (a : Int) : Calls Tryd.prog 9 #[.pointer (some ⟨p, 0, none⟩), .int .i64 a] w (RDid w B p bs (.int .i64 (op a m).1) (op a m).2) := by
  have HA := Lib.hid h
  have C := Lib.hid (refOp_any a w)
  have D := Lib.hid (refArg_any a w)
  rw [show decide (isOp a) = opB a from rfl] at C
  clear h
  cases h1 : opB a with
  | false =>
    rw [h1] at C
    have HO := Lib.hid (show op a m = (-13, m) by unfold op; rw [h1]; rfl)
    clear h1 D
    go_enter Tryd.func9, Tryd.ntmps9
    go_wp2_with fail
    refine C.out.mono ?_
    rintro e wz ⟨rfl, hwz⟩
    subst wz
    clear C
    go_wp2
    go_ret
    rw [HO.out]
    exact RDid.same HA.out rfl (Below.refl _ _)
  | true =>
    rw [h1] at C
    cases h2 : argI a with
    | true =>
      rw [h2] at D
      have HO := Lib.hid (show op a m = (-13, m) by unfold op; rw [h1, h2]; rfl)
      clear h1 h2
      go_enter Tryd.func9, Tryd.ntmps9
      go_wp2_with fail
      refine C.out.mono ?_
      rintro e wz ⟨rfl, hwz⟩
      subst wz
      clear C
      go_wp2_with fail
      refine D.out.mono ?_
      rintro e wz ⟨rfl, hwz⟩
      subst wz
      clear D
      go_wp2
      go_ret
      rw [HO.out]
      exact RDid.same HA.out rfl (Below.refl _ _)
    | false =>
      rw [h2] at D
      have HO := Lib.hid (show op a m = put1 a m by unfold op; rw [h1, h2]; rfl)
      clear h1 h2
      obtain ⟨w1, g, hw1, hgz, hg, hb⟩ := lit_box w [a]
      have HB := Lib.hid hb
      have E0 := Lib.hid (rlay_any (HA.out.below hb) [a] g 1 rfl hg (by rw [← hgz]; exact HA.out.old) (by decide))
      have hw1 : w.alloc (.cells #[.int .i64 a] 3) = w1 := hw1
      clear hb hg
      cases hf : m.fits 1
      all_goals
        have HF := Lib.hid hf
        have E := Lib.hid E0.out
        rw [hf] at E
        have F := Lib.hid (fun w => code_any (m.fits 1) w)
        rw [hf] at F
        clear hf E0
        go_enter Tryd.func9, Tryd.ntmps9
        go_wp2_with fail
        refine C.out.mono ?_
        rintro e wz ⟨rfl, hwz⟩
        subst wz
        clear C
        go_wp2_with fail
        refine D.out.mono ?_
        rintro e wz ⟨rfl, hwz⟩
        subst wz
        clear D
        go_wp2_with fail
        refine E.out.mono ?_
        rintro e w2 ⟨rfl, hA, hS⟩
        have HL := Lib.hid (And.intro hA hS)
        clear E hA hS
        go_wp2_with fail
        refine (F.out _).mono ?_
        rintro e wz ⟨rfl, hwz⟩
        subst wz
        clear F
        go_wp2
        go_ret
        exact rdid_lay (r := op a m) HF.out HB.out HL.out.1 HL.out.2 (by rw [HO.out]; rfl) rfl
set_option maxHeartbeats 2000000 in
theorem rarg_any (h : RAt w B p bs m) (a v : Int) : Calls Tryd.prog 11 #[.pointer (some ⟨p, 0, none⟩), .int .i64 a, .int .i64 v] w (RDid w B p bs (.int .i64 (arg a v m).1) (arg a v m).2) := by
  have HA := Lib.hid h
  have D := Lib.hid (refArg_any a w)
  clear h
  cases h2 : argI a with
  | false =>
    rw [h2] at D
    have HO := Lib.hid (show arg a v m = (-13, m) by unfold arg; rw [h2]; rfl)
    clear h2
    go_enter Tryd.func11, Tryd.ntmps11
    go_wp2_with fail
    refine D.out.mono ?_
    rintro e wz ⟨rfl, hwz⟩
    subst wz
    clear D
    go_wp2
    go_ret
    rw [HO.out]
    exact RDid.same HA.out rfl (Below.refl _ _)
  | true =>
    rw [h2] at D
    have HO := Lib.hid (show arg a v m = put2 a v m by unfold arg; rw [h2]; rfl)
    clear h2
    obtain ⟨w1, g, hw1, hgz, hg, hb⟩ := lit_box w [a, v]
    have HB := Lib.hid hb
    have E0 := Lib.hid (rlay_any (HA.out.below hb) [a, v] g 2 rfl hg (by rw [← hgz]; exact HA.out.old) (by decide))
    have hw1 : w.alloc (.cells #[.int .i64 a, .int .i64 v] 3) = w1 := hw1
    clear hb hg
    cases hf : m.fits 2
    all_goals
      have HF := Lib.hid hf
      have E := Lib.hid E0.out
      rw [hf] at E
      have F := Lib.hid (fun w => code_any (m.fits 2) w)
      rw [hf] at F
      clear hf E0
      go_enter Tryd.func11, Tryd.ntmps11
      go_wp2_with fail
      refine D.out.mono ?_
      rintro e wz ⟨rfl, hwz⟩
      subst wz
      clear D
      go_wp2_with fail
      refine E.out.mono ?_
      rintro e w2 ⟨rfl, hA, hS⟩
      have HL := Lib.hid (And.intro hA hS)
      clear E hA hS
      go_wp2_with fail
      refine (F.out _).mono ?_
      rintro e wz ⟨rfl, hwz⟩
      subst wz
      clear F
      go_wp2
      go_ret
      exact rdid_lay (r := arg a v m) HF.out HB.out HL.out.1 HL.out.2 (by rw [HO.out]; rfl) rfl
set_option maxHeartbeats 2000000 in
theorem rcall_any (h : RAt w B p bs m) (a : Int) : Calls Tryd.prog 13 #[.pointer (some ⟨p, 0, none⟩), .int .i64 a] w (RDid w B p bs (.int .i64 (call a m).1) (call a m).2) := by
  have HA := Lib.hid h
  clear h
  by_cases h2 : a < 64
  · have HO := Lib.hid (show call a m = (-9, m) by unfold call; rw [if_pos h2])
    go_enter Tryd.func13, Tryd.ntmps13
    go_wp2
    go_ret
    rw [HO.out]
    exact RDid.same HA.out rfl (Below.refl _ _)
  · have HO := Lib.hid (show call a m = put1 a m by unfold call; rw [if_neg h2])
    obtain ⟨w1, g, hw1, hgz, hg, hb⟩ := lit_box w [a]
    have HB := Lib.hid hb
    have E0 := Lib.hid (rlay_any (HA.out.below hb) [a] g 1 rfl hg (by rw [← hgz]; exact HA.out.old) (by decide))
    have hw1 : w.alloc (.cells #[.int .i64 a] 3) = w1 := hw1
    clear hb hg
    cases hf : m.fits 1
    all_goals
      have HF := Lib.hid hf
      have E := Lib.hid E0.out
      rw [hf] at E
      have F := Lib.hid (fun w => code_any (m.fits 1) w)
      rw [hf] at F
      clear hf E0
      go_enter Tryd.func13, Tryd.ntmps13
      go_wp2_with fail
      refine E.out.mono ?_
      rintro e w2 ⟨rfl, hA, hS⟩
      have HL := Lib.hid (And.intro hA hS)
      clear E hA hS
      go_wp2_with fail
      refine (F.out _).mono ?_
      rintro e wz ⟨rfl, hwz⟩
      subst wz
      clear F
      go_wp2
      go_ret
      exact rdid_lay (r := call a m) HF.out HB.out HL.out.1 HL.out.2 (by rw [HO.out]; rfl) rfl
end
end Go.Proofs.YtcpdhfigaoaohaaDoor.WvR
