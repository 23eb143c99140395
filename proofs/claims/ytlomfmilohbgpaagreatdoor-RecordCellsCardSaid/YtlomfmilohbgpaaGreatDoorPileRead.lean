
/- Package pile: what lies there, as a list, one by one; copies. -/
import Derived.Test.YtlomfmilohbgpaaGreatDoorPileWalks
namespace Go.Proofs.YtlomfmilohbgpaaGreatDoor
open Go.RowKit Book Mem
set_option linter.unusedSimpArgs false
set_option linter.unusedVariables false
section
variable {w : World} {B p g room : Nat} {cs : List Int}
theorem peek_yes (h : PileAt w B p g room cs) (j : Nat) (x : Int) (hj : j < cs.length) (hx : cs[cs.length - 1 - j]? = some x) : Calls Tryz.prog 65 #[.pointer (some ⟨p, 0, none⟩), .int .i64 j] w fun e w' => e = .returned (.tuple #[.int .i64 x, .bool true]) ∧ ∃ q, w' = w.drewN q := by
  have C := Lib.hid (has_yes h j hj)
  have hl := h.fits
  have hm := h.most
  have k := h.cell (j := cs.length - 1 - j) (by omega)
  rw [show cs[cs.length - 1 - j] = x by rw [List.getElem?_eq_getElem (by omega)] at hx; simpa using hx] at k
  have c0 := h.c0
  have c1 := h.c1
  obtain ⟨n, hn⟩ : ∃ n, cs.length = n := ⟨_, rfl⟩
  rw [hn] at c1 hl hj k
  clear hn hx h
  obtain ⟨i, hi⟩ : ∃ i, n - 1 - j = i := ⟨_, rfl⟩
  rw [hi] at k
  have e1 : (n : Int) - 1 - (j : Int) = (i : Int) := by omega
  have e2 : (0 : Int) ≤ (i : Int) := by omega
  have e3 : (i : Int) < (room : Int) := by omega
  have e4 : (n : Int) - 1 = (i : Int) + (j : Int) := by omega
  go_enter Tryz.func65, Tryz.ntmps65
  go_wp2_with fail
  refine C.out.mono ?_
  rintro e wz ⟨rfl, hwz⟩
  subst wz
  go_wp2_with fail
  go_region
  go_wp2
  go_ret2
  exact ⟨rfl, 1, rfl⟩
theorem peek_no (h : PileAt w B p g room cs) (a : Int) (ha : ¬ (0 ≤ a ∧ a < (cs.length : Int))) : Calls Tryz.prog 65 #[.pointer (some ⟨p, 0, none⟩), .int .i64 a] w fun e w' => e = .returned (.tuple #[.int .i64 0, .bool false]) ∧ w' = w := by
  have C := Lib.hid (has_no h a ha)
  clear h ha
  go_enter Tryz.func65, Tryz.ntmps65
  go_wp2_with (go_at_call 79; refine C.out.mono ?_; rintro e wz ⟨rfl, hwz⟩; subst wz)
  go_ret2
  exact ⟨rfl, rfl⟩
theorem peek_nil (a : Int) (w : World) : Calls Tryz.prog 65 #[.pointer none, .int .i64 a] w fun e w' => e = .returned (.tuple #[.int .i64 0, .bool false]) ∧ w' = w := by
  have C := Lib.hid (has_nil a w)
  go_enter Tryz.func65, Tryz.ntmps65
  go_wp2_with (go_at_call 79; refine C.out.mono ?_; rintro e wz ⟨rfl, hwz⟩; subst wz)
  go_ret2
  exact ⟨rfl, rfl⟩
/-- a stack to which something was done, in these blocks -/
def Did (w : World) (B p g room : Nat) (cs : List Int) (bs : List Nat) (e : Ending) (w' : World) : Prop := e = .returned (.bool true) ∧ PileAt w' B p g room cs ∧ Stirred w w' bs
theorem cut_nil (a : Int) (w : World) : Calls Tryz.prog 67 #[.pointer none, .int .i64 a] w fun e w' => e = .returned (.bool false) ∧ w' = w := by
  have C := Lib.hid (made_nil w)
  go_enter Tryz.func67, Tryz.ntmps67
  go_wp2_with (go_at_call 80; refine C.out.mono ?_; rintro e wz ⟨rfl, hwz⟩; subst wz)
  go_ret
  exact ⟨rfl, rfl⟩
theorem cut_no (h : PileAt w B p g room cs) (a : Int) (ha : ¬ (0 ≤ a ∧ a ≤ (room : Int))) : Calls Tryz.prog 67 #[.pointer (some ⟨p, 0, none⟩), .int .i64 a] w fun e w' => e = .returned (.bool false) ∧ w' = w := by
  have C := Lib.hid (made_any h)
  have hl := h.fits
  have hm := h.most
  have c0 := h.c0
  have c1 := h.c1
  clear h
  obtain ⟨n, hn⟩ : ∃ n, cs.length = n := ⟨_, rfl⟩
  rw [hn] at c1 hl
  clear hn
  by_cases h0 : a < 0
  · clear ha
    go_enter Tryz.func67, Tryz.ntmps67
    go_wp2_with (go_at_call 80; refine C.out.mono ?_; rintro e wz ⟨rfl, hwz⟩; subst wz)
    go_ret
    exact ⟨rfl, rfl⟩
  · have h1 : decide (a < 0) = false := by simp; omega
    have h2 : decide (a < (n : Int)) = false := by simp; omega
    have h3 : decide (a ≤ (room : Int)) = false := by simp; omega
    clear ha h0
    go_enter Tryz.func67, Tryz.ntmps67
    go_wp2_with (go_at_call 80; refine C.out.mono ?_; rintro e wz ⟨rfl, hwz⟩; subst wz)
    go_ret
    exact ⟨rfl, rfl⟩
theorem cut_more (h : PileAt w B p g room cs) (m : Nat) (h1 : cs.length ≤ m) (h2 : m ≤ room) : Calls Tryz.prog 67 #[.pointer (some ⟨p, 0, none⟩), .int .i64 m] w (Did w B p g room (cs ++ List.replicate (m - cs.length) 0) [p]) := by
  have C := Lib.hid (made_any h)
  have hl := h.fits
  have hm := h.most
  have c0 := h.c0
  have c1 := h.c1
  have f1 := whole_frozen h.whole 1
  have hlen : (cs ++ List.replicate (m - cs.length) (0 : Int)).length = m := by simp; omega
  have hC := h.counted (w' := w) (cs' := cs ++ List.replicate (m - cs.length) 0) (Stirred.refl _ _) (by rw [full_more (by omega)]; exact h.row) (by omega)
  rw [hlen] at hC
  have HR := Lib.hid (And.intro hC.1 (Stirred.setCell w ⟨p, 1, none⟩ (.int .i64 m)))
  clear hC hlen h
  obtain ⟨n, hn⟩ : ∃ n, cs.length = n := ⟨_, rfl⟩
  rw [hn] at c1 hl h1 HR ⊢
  clear hn
  have e1 : decide ((m : Int) < 0) = false := by simp
  have e2 : decide ((m : Int) < (n : Int)) = false := by simp; omega
  have e3 : decide ((m : Int) ≤ (room : Int)) = true := by simp; omega
  go_enter Tryz.func67, Tryz.ntmps67
  go_wp2_with (go_at_call 80; refine C.out.mono ?_; rintro e wz ⟨rfl, hwz⟩; subst wz)
  go_ret
  exact ⟨rfl, HR.out⟩
theorem cut_less (h : PileAt w B p g room cs) (m : Nat) (h1 : m < cs.length) : Calls Tryz.prog 67 #[.pointer (some ⟨p, 0, none⟩), .int .i64 m] w (Did w B p g room (cs.take m) (foot p g)) := by
  have C := Lib.hid (made_any h)
  have HP := Lib.hid h
  have hl := h.fits
  have hm := h.most
  have c0 := h.c0
  have c1 := h.c1
  have f1 := whole_frozen h.whole 1
  have hcl : ∀ ty, (Builtin.clear_ #[22] ty #[.slice (some ⟨g, m, none⟩) (cs.length - m) (room - m)]).run Tryz.prog w.drew = .ok (.tuple #[]) (w.drew.setCells g m (List.replicate (cs.length - m) (.int .i64 0))) := fun ty =>
    Lib.run_clear_slice w.drew 22 3 ty (.int .i64 0) Tryz.underlying22 Tryz.zeroValue3 rfl rfl g m _ _ (by omega) (fun j hj => (h.there (by omega)).1) (fun j hj => (h.there (j := m + j) (by omega)).2)
  have hs : Stirred w (w.drew.setCells g m (List.replicate (cs.length - m) (.int .i64 0))) [g] := (Stirred.drew w [g]).trans (stirred_setCells g _ m _) (fun k hk => .inl hk)
  have hr := heap_setCells g 3 (List.replicate (cs.length - m) (.int .i64 0)) m w.drew (vals (full room cs)) h.row (by rw [vals_length, full_length hl, List.length_replicate]; omega)
  rw [show List.replicate (cs.length - m) (Value.int .i64 0) = vals (List.replicate (cs.length - m) 0) by simp [vals], splice_vals, full_cut (by omega) hl] at hr
  have hv : List.replicate (cs.length - m) (Value.int .i64 0) = vals (List.replicate (cs.length - m) 0) := by simp [vals]
  rw [hv] at hcl hs
  have hlen : (cs.take m).length = m := by rw [List.length_take]; omega
  obtain ⟨w2, hw2⟩ : ∃ w2, w.drew.setCells g m (vals (List.replicate (cs.length - m) 0)) = w2 := ⟨_, rfl⟩
  rw [hw2] at hr hs hcl
  have hC := h.counted hs hr (by omega)
  rw [hlen] at hC
  have HR := Lib.hid hC
  have hw := hs.whole h.whole (by simpa using h.pg)
  have k1 : w2.cell? ⟨p, 1, none⟩ = some (.int .i64 cs.length) := whole_cell hw rfl
  have f2 := whole_frozen hw 1
  have hw2' := Lib.hid hw2
  clear hs hr hv hlen hw2 hC hw h
  obtain ⟨n, hn⟩ : ∃ n, cs.length = n := ⟨_, rfl⟩
  rw [hn] at c1 hl h1 hcl k1
  clear hn
  have e1 : decide ((m : Int) < 0) = false := by simp
  have e2 : decide ((m : Int) < (n : Int)) = true := by simp; omega
  have e3 : (m : Int) < (n : Int) := by omega
  have e4 : (n : Int) ≤ (room : Int) := by omega
  have e5 : (0 : Int) ≤ (m : Int) := by omega
  go_enter Tryz.func67, Tryz.ntmps67
  go_wp2_with fail
  refine C.out.mono ?_
  rintro e wz ⟨rfl, hwz⟩
  subst wz
  go_wp2_with fail
  go_region
  go_wp2
  go_ret
  exact ⟨rfl, HR.out⟩
end
end Go.Proofs.YtlomfmilohbgpaaGreatDoor
