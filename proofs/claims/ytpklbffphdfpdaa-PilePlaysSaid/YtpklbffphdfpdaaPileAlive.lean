/- The statements' first call. -/
import Derived.Test.YtpklbffphdfpdaaPileMore
namespace Go.Proofs.Ytpklbffphdfpdaa
open Go.RowKit Book Mem
set_option linter.unusedSimpArgs false
set_option linter.unusedVariables false
/-- a call that says yes, and leaves what was there -/
def Yes (w : World) (e : Ending) (w' : World) : Prop := e = .returned (.bool true) ∧ Below w.heap.size w w'
/-- a block that is known whole, read -/
theorem reads_whole {w : World} {b : Nat} {xs : List Int} (h : w.heap[b]? = some (.cells (vals xs).toArray 3 (0, 0))) (cap : Nat) : Reads w (.slice (some ⟨b, 0, none⟩) xs.length cap) xs :=
  ⟨_, _, rfl, fun j x hj => ⟨_, rfl, by rw [add_row]; exact whole_cell h (by simp [vals, hj])⟩⟩
/-- a slice literal -/
theorem built (w : World) (xs : List Int) : Below w.heap.size w (w.alloc (.cells (vals xs).toArray 3)) ∧ ∀ (w' : World) (bs : List Nat), Stirred (w.alloc (.cells (vals xs).toArray 3)) w' bs → w.heap.size ∉ bs → ∀ cap, Reads w' (.slice (some ⟨w.heap.size, 0, none⟩) xs.length cap) xs :=
  ⟨(Below.refl w.heap.size w).alloc (Nat.le_refl _) _, fun w' bs hs hn cap => reads_whole (hs.whole (heap_alloc_new w _) hn) cap⟩
set_option maxHeartbeats 2000000 in
theorem alive_any (w : World) : Calls Try.prog 7 #[] w (Yes w) := by
  obtain ⟨hb0, hr0⟩ := built w [1, 2]
  have hk0 : w.alloc (.cells #[.int .i64 1, .int .i64 2] 3) = w.alloc (.cells (vals [1, 2]).toArray 3) := rfl
  obtain ⟨w0, hw0⟩ : ∃ w0, w.alloc (.cells (vals [1, 2]).toArray 3) = w0 := ⟨_, rfl⟩
  rw [hw0] at hb0 hr0 hk0
  have C := Lib.hid (show Calls Try.prog 9 #[.int .i64 3, .slice (some ⟨w.heap.size, 0, none⟩) 2 2] w0 (MadeP w0 3 [1, 2]) from new_any 3 3 (by decide) _ [1, 2] w0 (hr0 w0 [] (Stirred.refl _ _) List.not_mem_nil 2))
  have HB0 := Lib.hid hb0
  clear hb0 hr0 hw0
  go_enter Try.func7, Try.ntmps7
  go_wp2_with fail
  refine C.out.mono ?_
  rintro e w1 ⟨p, g, rfl, hP, hB⟩
  have HP1 := Lib.hid hP
  have HB1 := Lib.hid (HB0.out.trans (hB.mono HB0.out.size))
  clear C hP hB hk0
  obtain ⟨hb2, hr2⟩ := built w1 [3, 4]
  have hk2 : w1.alloc (.cells #[.int .i64 3, .int .i64 4] 3) = w1.alloc (.cells (vals [3, 4]).toArray 3) := rfl
  obtain ⟨w2, hw2⟩ : ∃ w2, w1.alloc (.cells (vals [3, 4]).toArray 3) = w2 := ⟨_, rfl⟩
  rw [hw2] at hb2 hk2
  have HP2 := Lib.hid (HP1.out.below hb2)
  have HB2 := Lib.hid (HB1.out.trans (hb2.mono HB1.out.size))
  have C := Lib.hid (push_no HP2.out (.slice (some ⟨w1.heap.size, 0, none⟩) 2 2) 2 ⟨_, _, rfl⟩ (by decide) (by decide))
  clear hb2 hr2 hw2
  go_wp2_with fail
  refine C.out.mono ?_
  rintro e wz ⟨rfl, hwz⟩
  subst wz
  clear C hk2
  obtain ⟨hb3, hr3⟩ := built w2 [3]
  have hk3 : w2.alloc (.cells #[.int .i64 3] 3) = w2.alloc (.cells (vals [3]).toArray 3) := rfl
  obtain ⟨w3, hw3⟩ : ∃ w3, w2.alloc (.cells (vals [3]).toArray 3) = w3 := ⟨_, rfl⟩
  rw [hw3] at hb3 hk3 hr3
  have HP3 := Lib.hid (HP2.out.below hb3)
  have HB3 := Lib.hid (HB2.out.trans (hb3.mono HB2.out.size))
  have C := Lib.hid (show Calls Try.prog 11 #[.pointer (some ⟨p, 0, none⟩), .slice (some ⟨w2.heap.size, 0, none⟩) 1 1] w3 (Did w3 w0.heap.size p g 3 [1, 2, 3] (foot p g)) from push_yes HP3.out _ [3] (fun w' hs => hr3 w' _ hs (fun hm => Nat.lt_irrefl _ (HP2.out.foot_lt _ hm).2) 1) (by decide))
  clear hb3 hr3 hw3
  go_wp2_with fail
  refine C.out.mono ?_
  rintro e w4 ⟨rfl, hP, hs⟩
  have HP4 := Lib.hid hP
  have HB4 := Lib.hid (HB3.out.trans (hs.below (B := w.heap.size) (fun k hk => by have := (HP3.out.foot_lt k hk).1; have := HB0.out.size; omega) HB3.out.size))
  clear hP hs C hk3
  have C := Lib.hid (show Calls Try.prog 12 #[.pointer (some ⟨p, 0, none⟩), .int .i64 2] w4 (Took w4 w0.heap.size p g 3 [1, 2, 3] 1) from pop_yes HP4.out (by have := (HP4.out.foot_lt p List.mem_cons_self); omega) 2 1 (by decide))
  go_wp2_with fail
  refine C.out.mono ?_
  rintro e w5 ⟨v, rfl, hO, hP, hs⟩
  have HB5 := Lib.hid (HB4.out.trans (hs.below (B := w.heap.size) (fun k hk => by have := (HP4.out.foot_lt k hk).1; have := HB0.out.size; omega) HB4.out.size))
  obtain ⟨gv, cv, e, hc, _, _⟩ := hO.row (by decide)
  have k0 : w5.cell? ⟨gv, 0, none⟩ = some (.int .i64 2) := hc 0 _ rfl
  have k1 : w5.cell? ⟨gv, 1, none⟩ = some (.int .i64 3) := hc 1 _ rfl
  have e' : v = .slice (some ⟨gv, 0, none⟩) 2 cv := e
  subst e'
  have C := Lib.hid (show Calls Try.prog 20 #[.pointer (some ⟨p, 0, none⟩)] w5 fun e w' => e = .returned (.int .i64 1) ∧ w' = w5 from len_any hP)
  clear hO hP hs hc e
  go_wp2_with fail
  refine C.out.mono ?_
  rintro e wz ⟨rfl, hwz⟩
  subst wz
  clear C
  go_wp2
  go_ret
  exact ⟨rfl, HB5.out⟩
end Go.Proofs.Ytpklbffphdfpdaa
