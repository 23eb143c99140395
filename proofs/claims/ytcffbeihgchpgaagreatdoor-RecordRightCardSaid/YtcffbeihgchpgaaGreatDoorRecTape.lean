
/- Package record: a recording that is made. -/
import Derived.Test.YtcffbeihgchpgaaGreatDoorRecSee
import Derived.Test.YtcffbeihgchpgaaGreatDoorWideAppend
import Derived.Deep.RegionLaw
import Derived.Deep.AppendLies
import Derived.Deep.DrawnRows
import Derived.Deep.RegionWith
import Derived.BigQuiet
import Derived.Deep.QuietTactic
namespace Go.Proofs.YtcffbeihgchpgaaGreatDoor.Rec
open Go.RowKit Book Book.Wide Mem Mach Inn
set_option linter.unusedSimpArgs false
set_option linter.unusedVariables false
abbrev tapeA (most : Nat) (r : R) (v : Value) : Array Value := #[.int .i64 (most : Int), .int .i64 r.start, .int .i64 r.last, .bool r.loop, v]
theorem Tryz.seenInfo : (Tryz.prog.info? 55).map (fun i => (i.zero, i.size, i.bytes)) = some (some (seenV (0, 0, 0, 0)), 4, 32) := by kernel_rfl
theorem seen_len (l : List S) : (l.flatMap seenCells).length = l.length * 4 := flat_length (enc := seenCells) (k := 4) (fun _ => rfl) l
theorem seen_one (l : List S) : ∀ u ∈ l.flatMap seenCells, u.oneCell' = true := by
  intro u hu
  obtain ⟨x, _, hx⟩ := List.mem_flatMap.1 hu
  simp only [seenCells, List.mem_cons, List.not_mem_nil, or_false] at hx
  rcases hx with rfl | rfl | rfl | rfl <;> rfl
/-- a tape: its pointer leads to block p; all of it lies in the blocks bs -/
structure TAt (w : World) (B p : Nat) (bs : List Nat) (most : Nat) (r : R) : Prop where
  box : ∃ v, w.heap[p]? = some (.cells (tapeA most r v) 64 (0, 0)) ∧ OwnsK w B 55 4 v (r.steps.flatMap seenCells) ∧ bs = p :: (blk v).toList
  low : B ≤ p
  few : r.steps.length ≤ 1000
section
variable {w w' : World} {B p most : Nat} {bs ds : List Nat} {r : R}
theorem TAt.lt (h : TAt w B p bs most r) : ∀ k ∈ bs, B ≤ k ∧ k < w.heap.size := by
  obtain ⟨v, h1, h2, rfl⟩ := h.box
  intro k hk
  rcases List.mem_cons.1 hk with rfl | hk
  · exact ⟨h.low, whole_lt h1⟩
  · have := h2.block k (by simpa using hk); exact ⟨this.1, this.2.1⟩
theorem TAt.touch (h : TAt w B p bs most r) (hs : Stirred w w' ds) (hd : ∀ k ∈ bs, k ∉ ds) : TAt w' B p bs most r := by
  obtain ⟨v, h1, h2, rfl⟩ := h.box
  exact ⟨⟨v, hs.whole h1 (hd p (by simp)), h2.touch hs (fun k hk => hd k (by simp [hk])), rfl⟩, h.low, h.few⟩
theorem TAt.below (h : TAt w B p bs most r) (hb : Below w.heap.size w w') : TAt w' B p bs most r := h.touch (Stirred.of_below hb []) (fun _ _ => List.not_mem_nil)
theorem tape_off {v : Value} {xs : List Value} {T : Array Value} (h1 : w.heap[p]? = some (.cells T 64 (0, 0))) (h2 : OwnsK w B 55 4 v xs) : ∀ k, blk v = some k → k ≠ p := by
  intro k hk
  obtain ⟨_, _, c, hc⟩ := h2.block k hk
  rintro rfl
  rw [hc] at h1
  simp only [Option.some.injEq, Obj.cells.injEq] at h1
  exact absurd h1.2.1 (by decide)
theorem TAt.pIn (h : TAt w B p bs most r) : p ∈ bs := by obtain ⟨v, _, _, rfl⟩ := h.box; exact List.mem_cons_self
/-- it is known to be a loop -/
theorem TAt.looped (h : TAt w B p bs most r) (b : Bool) : TAt (w.setCell ⟨p, 3, none⟩ (.bool b)) B p bs most { r with loop := b } ∧ Stirred w (w.setCell ⟨p, 3, none⟩ (.bool b)) bs := by
  obtain ⟨v, h1, h2, rfl⟩ := h.box
  have hs := Stirred.setCell w ⟨p, 3, none⟩ (.bool b)
  exact ⟨⟨⟨v, whole_set h1 3 (.bool b), h2.touch hs (fun k hk hm => tape_off h1 h2 k hk (by simpa using hm)), rfl⟩, h.low, h.few⟩, hs.more (fun k hk => by rw [List.mem_singleton.1 hk]; exact List.mem_cons_self)⟩
/-- where it ends -/
theorem TAt.ended (h : TAt w B p bs most r) (z : Int) : TAt (w.setCell ⟨p, 2, none⟩ (.int .i64 z)) B p bs most { r with last := z } ∧ Stirred w (w.setCell ⟨p, 2, none⟩ (.int .i64 z)) bs := by
  obtain ⟨v, h1, h2, rfl⟩ := h.box
  have hs := Stirred.setCell w ⟨p, 2, none⟩ (.int .i64 z)
  exact ⟨⟨⟨v, whole_set h1 2 (.int .i64 z), h2.touch hs (fun k hk hm => tape_off h1 h2 k hk (by simpa using hm)), rfl⟩, h.low, h.few⟩, hs.more (fun k hk => by rw [List.mem_singleton.1 hk]; exact List.mem_cons_self)⟩
/-- one step more, behind what an append made of its row -/
theorem tape_longer {w4 : World} {v v' : Value} {x : S} (h1 : w.heap[p]? = some (.cells (tapeA most r v) 64 (0, 0))) (h2 : OwnsK w B 55 4 v (r.steps.flatMap seenCells)) (low : B ≤ p) (hS : Stirred w w4 (blk v).toList) (hO : OwnsK w4 B 55 4 v' (r.steps.flatMap seenCells ++ seenCells x)) (few : r.steps.length + 1 ≤ 1000) :
    TAt (w4.setCell ⟨p, 4, none⟩ v') B p (p :: (blk v').toList) most { r with steps := r.steps ++ [x] } ∧ Stirred w (w4.setCell ⟨p, 4, none⟩ v') (p :: (blk v).toList) := by
  have hp4 := hS.whole h1 (fun hm => tape_off h1 h2 p (by simpa using hm) rfl)
  have hs := Stirred.setCell w4 ⟨p, 4, none⟩ v'
  refine ⟨⟨⟨v', whole_set hp4 4 v', ?_, rfl⟩, low, by rw [List.length_append]; exact few⟩, (hS.more (fun k hk => List.mem_cons_of_mem _ hk)).trans hs (fun k hk => .inl (by rw [List.mem_singleton.1 hk]; exact List.mem_cons_self))⟩
  show OwnsK _ B 55 4 v' ((r.steps ++ [x]).flatMap seenCells)
  rw [List.flatMap_append, show [x].flatMap seenCells = seenCells x by simp]
  exact hO.touch hs (fun k hk hm => tape_off hp4 hO k hk (by simpa using hm))
end
/-- is the machine back where the recording began? -/
def backB (r : R) (x : S) : Bool := decide (r.steps ≠ [] ∧ x.1 = r.start)
def endsB (most : Nat) (r : R) (x : S) (st : Int) : Bool := backB r x || (decide (most ≤ r.steps.length) || (decide (st ≠ 0) || !fit x))
section
variable {w : World} {B p most : Nat} {bs : List Nat} {r : R}
set_option maxHeartbeats 4000000 in
theorem ends_any (h : TAt w B p bs most r) (x : S) (st : Int) : Calls Tryz.prog 39 #[.pointer (some ⟨p, 0, none⟩), seenV x, .int .i64 st] w fun e w' => e = .returned (.bool (endsB most r x st)) ∧ TAt w' B p bs most { r with loop := r.loop || backB r x } ∧ Stirred w w' bs := by
  obtain ⟨x1, x2, x3, x4⟩ := x
  obtain ⟨w1, g, hw1, hg, HG, HB, HZ⟩ := newBox w (seenA (x1, x2, x3, x4)) 55
  have HA := Lib.hid h
  have HA1 := Lib.hid (h.below HB.out)
  have HPN := Lib.hid h.pIn
  obtain ⟨v, hb1, hb2, hb3⟩ := HA1.out.box
  obtain ⟨n, hn⟩ : ∃ n, r.steps.length = n := ⟨_, rfl⟩
  obtain ⟨so, sc, rfl⟩ := hb2.slice (seen_len r.steps) (by decide)
  have HN := Lib.hid hn
  rw [hn] at hb1
  obtain ⟨s0, e0, l0, ls⟩ := r
  simp only at hn hb1
  have m0 : w1.cell? ⟨p, 0, none⟩ = some (.int .i64 (most : Int)) := whole_cell hb1 rfl
  have m1 : w1.cell? ⟨p, 1, none⟩ = some (.int .i64 s0) := whole_cell hb1 rfl
  have m3 : w1.cell? ⟨p, 3, none⟩ = some (.bool l0) := whole_cell hb1 rfl
  have m4 : w1.cell? ⟨p, 4, none⟩ = some (.slice so n sc) := whole_cell hb1 rfl
  have f3 : w1.frozen? ⟨p, 3, none⟩ = false := whole_frozen hb1 3
  have c0 : w1.cell? ⟨g, 0, none⟩ = some (.int .i64 x1) := whole_cell HG.out rfl
  have HXG := HG
  clear h hb1 hb2 hb3
  by_cases hk : 0 < n ∧ x1 = s0
  · obtain ⟨hk1, rfl⟩ := hk
    have HBK := Lib.hid (show backB ⟨x1, e0, l0, ls⟩ (x1, x2, x3, x4) = true by unfold backB; exact decide_eq_true ⟨fun e => by have e : ls = [] := e; rw [e] at hn; simp at hn; omega, rfl⟩)
    have HL := Lib.hid (fun q => (HA1.out.below (bk_below_drewN w1.heap.size w1 q)).looped true)
    have d1 : decide (0 < n) = true := decide_eq_true hk1
    clear hn
    go_enter Tryz.func39, Tryz.ntmps39
    go_wp2_with fail
    go_quiet (fail)
    go_wp2
    go_ret
    refine ⟨by unfold endsB; rw [HBK.out]; rfl, ?_, ?_⟩
    · rw [HBK.out, Bool.or_true]
      exact (HL.out _).1
    · exact ((Stirred.of_below HB.out bs).trans (Stirred.drewN w1 _ bs) (fun k hk => .inl hk)).trans (HL.out _).2 (fun k hk => .inl hk)
  · have HBK := Lib.hid (show backB ⟨s0, e0, l0, ls⟩ (x1, x2, x3, x4) = false by unfold backB; exact decide_eq_false (fun hh => hk ⟨by have hq : ls ≠ [] := hh.1; rcases ls with - | ⟨y, l⟩; exact absurd rfl hq; simp at hn; omega, hh.2⟩))
    have HPOST := Lib.hid (fun (w' : World) (hb : Below w1.heap.size w1 w') => (show TAt w' B p bs most { start := s0, last := e0, loop := l0 || backB ⟨s0, e0, l0, ls⟩ (x1, x2, x3, x4), steps := ls } ∧ Stirred w w' bs from by
      rw [HBK.out, Bool.or_false]
      exact ⟨HA1.out.below hb, (Stirred.of_below (HB.out.trans (hb.mono HB.out.size)) bs)⟩))
    have HE := Lib.hid (show endsB most ⟨s0, e0, l0, ls⟩ (x1, x2, x3, x4) st = (decide (most ≤ n) || (decide (st ≠ 0) || !fit (x1, x2, x3, x4))) by unfold endsB; rw [HBK.out, HN.out]; rfl)
    have C := Lib.hid (fun q => right_any (x1, x2, x3, x4) (w1.drewN q))
    have HXD := Lib.hid (fun q => show (w1.drewN q).heap[g]? = some (.cells (seenA (x1, x2, x3, x4)) 55 (0, 0)) from HG.out)
    have c1 : w1.cell? ⟨g, 1, none⟩ = some (.int .i64 x2) := whole_cell HG.out rfl
    have c2 : w1.cell? ⟨g, 2, none⟩ = some (.int .i64 x3) := whole_cell HG.out rfl
    have c3 : w1.cell? ⟨g, 3, none⟩ = some (.int .i64 x4) := whole_cell HG.out rfl
    clear hn
    obtain ⟨fb, hfb⟩ : ∃ fb, fit (x1, x2, x3, x4) = fb := ⟨_, rfl⟩
    rw [hfb] at HE
    have HFB := Lib.hid hfb
    clear hfb
    by_cases h0 : 0 < n
    · have d1 : decide (0 < n) = true := decide_eq_true h0
      have d2 : (x1 == s0) = false := by simpa using fun e => hk ⟨h0, e⟩
      by_cases h1 : most ≤ n
      · have h1i : (most : Int) ≤ (n : Int) := by omega
        have HEV := Lib.hid (show endsB most ⟨s0, e0, l0, ls⟩ (x1, x2, x3, x4) st = true by rw [HE.out, decide_eq_true h1]; rfl)
        go_enter Tryz.func39, Tryz.ntmps39
        go_wp2_with fail
        go_quiet (fail)
        go_wp2
        go_ret
        exact ⟨by rw [HEV.out]; rfl, HPOST.out _ (bk_below_drewN _ _ _)⟩
      · have h1i : ¬ (most : Int) ≤ (n : Int) := by omega
        by_cases h2 : st = 0
        · subst h2
          cases fb with
          | true =>
            have HEV := Lib.hid (show endsB most ⟨s0, e0, l0, ls⟩ (x1, x2, x3, x4) 0 = false by rw [HE.out, decide_eq_false h1]; rfl)
            go_enter Tryz.func39, Tryz.ntmps39
            go_wp2_with fail
            go_quiet (fail)
            go_wp2_with fail
            refine (C.out _).mono ?_
            rintro e w4 ⟨rfl, hb⟩
            rw [HFB.out]
            have HW4 := Lib.hid (HPOST.out w4 ((bk_below_drewN _ _ _).trans (hb.mono (bk_below_drewN w1.heap.size w1 _).size)))
            clear hb
            go_wp2
            go_ret
            exact ⟨by rw [HEV.out]; rfl, HW4.out⟩
          | false =>
            have HEV := Lib.hid (show endsB most ⟨s0, e0, l0, ls⟩ (x1, x2, x3, x4) 0 = true by rw [HE.out, decide_eq_false h1]; rfl)
            go_enter Tryz.func39, Tryz.ntmps39
            go_wp2_with fail
            go_quiet (fail)
            go_wp2_with fail
            refine (C.out _).mono ?_
            rintro e w4 ⟨rfl, hb⟩
            rw [HFB.out]
            have HW4 := Lib.hid (HPOST.out w4 ((bk_below_drewN _ _ _).trans (hb.mono (bk_below_drewN w1.heap.size w1 _).size)))
            clear hb
            go_wp2
            go_ret
            exact ⟨by rw [HEV.out]; rfl, HW4.out⟩
        · have h2' : (st != 0) = true := by simpa using h2
          have HEV := Lib.hid (show endsB most ⟨s0, e0, l0, ls⟩ (x1, x2, x3, x4) st = true by rw [HE.out, decide_eq_true h2, Bool.true_or, Bool.or_true])
          go_enter Tryz.func39, Tryz.ntmps39
          go_wp2_with fail
          go_quiet (fail)
          go_wp2
          go_ret
          exact ⟨by rw [HEV.out]; rfl, HPOST.out _ (bk_below_drewN _ _ _)⟩
    · have d1 : decide (0 < n) = false := decide_eq_false h0
      by_cases h1 : most ≤ n
      · have h1i : (most : Int) ≤ (n : Int) := by omega
        have HEV := Lib.hid (show endsB most ⟨s0, e0, l0, ls⟩ (x1, x2, x3, x4) st = true by rw [HE.out, decide_eq_true h1]; rfl)
        go_enter Tryz.func39, Tryz.ntmps39
        go_wp2_with fail
        go_quiet (fail)
        go_wp2
        go_ret
        exact ⟨by rw [HEV.out]; rfl, HPOST.out _ (bk_below_drewN _ _ _)⟩
      · have h1i : ¬ (most : Int) ≤ (n : Int) := by omega
        by_cases h2 : st = 0
        · subst h2
          cases fb with
          | true =>
            have HEV := Lib.hid (show endsB most ⟨s0, e0, l0, ls⟩ (x1, x2, x3, x4) 0 = false by rw [HE.out, decide_eq_false h1]; rfl)
            go_enter Tryz.func39, Tryz.ntmps39
            go_wp2_with fail
            go_quiet (fail)
            go_wp2_with fail
            refine (C.out _).mono ?_
            rintro e w4 ⟨rfl, hb⟩
            rw [HFB.out]
            have HW4 := Lib.hid (HPOST.out w4 ((bk_below_drewN _ _ _).trans (hb.mono (bk_below_drewN w1.heap.size w1 _).size)))
            clear hb
            go_wp2
            go_ret
            exact ⟨by rw [HEV.out]; rfl, HW4.out⟩
          | false =>
            have HEV := Lib.hid (show endsB most ⟨s0, e0, l0, ls⟩ (x1, x2, x3, x4) 0 = true by rw [HE.out, decide_eq_false h1]; rfl)
            go_enter Tryz.func39, Tryz.ntmps39
            go_wp2_with fail
            go_quiet (fail)
            go_wp2_with fail
            refine (C.out _).mono ?_
            rintro e w4 ⟨rfl, hb⟩
            rw [HFB.out]
            have HW4 := Lib.hid (HPOST.out w4 ((bk_below_drewN _ _ _).trans (hb.mono (bk_below_drewN w1.heap.size w1 _).size)))
            clear hb
            go_wp2
            go_ret
            exact ⟨by rw [HEV.out]; rfl, HW4.out⟩
        · have h2' : (st != 0) = true := by simpa using h2
          have HEV := Lib.hid (show endsB most ⟨s0, e0, l0, ls⟩ (x1, x2, x3, x4) st = true by rw [HE.out, decide_eq_true h2, Bool.true_or, Bool.or_true])
          go_enter Tryz.func39, Tryz.ntmps39
          go_wp2_with fail
          go_quiet (fail)
          go_wp2
          go_ret
          exact ⟨by rw [HEV.out]; rfl, HPOST.out _ (bk_below_drewN _ _ _)⟩
set_option maxHeartbeats 8000000 in
theorem add_any (h : TAt w B p bs most r) (hB : B ≤ w.heap.size) (x : S) (hf : r.steps.length < 1000) : Calls Tryz.prog 40 #[.pointer (some ⟨p, 0, none⟩), seenV x] w fun e w' => e = .returned (.tuple #[]) ∧ ∃ bs', TAt w' B p bs' most { r with last := x.2.2.2, steps := r.steps ++ [x] } ∧ Stirred w w' bs ∧ ∀ k ∈ bs', k ∈ bs ∨ w.heap.size ≤ k := by
  obtain ⟨i0, q1, q2, q3, q4⟩ := info_parts Tryz.seenInfo
  have HI := Lib.hid (And.intro q1 (And.intro q2 (And.intro q3 q4)))
  clear q1 q2 q3 q4
  obtain ⟨x1, x2, x3, x4⟩ := x
  obtain ⟨w1, g, hw1, hg, HG, HB, HZ⟩ := newBox w (seenA (x1, x2, x3, x4)) 55
  have HA := Lib.hid h
  have HA1 := Lib.hid (h.below HB.out)
  obtain ⟨n, hn⟩ : ∃ n, r.steps.length = n := ⟨_, rfl⟩
  obtain ⟨v, hb1, hb2, hb3⟩ := HA1.out.box
  obtain ⟨so, sc, rfl⟩ := hb2.slice (seen_len r.steps) (by decide)
  rw [hn] at hb1 hb2 hb3 hf
  have HBS := Lib.hid hb3
  have HN := Lib.hid hn
  have HL := Lib.hid (show (r.steps.flatMap seenCells).length = n * 4 by rw [seen_len, hn])
  have HBW := Lib.hid (Nat.le_trans hB HB.out.size)
  have c0 : w1.cell? ⟨g, 0, none⟩ = some (.int .i64 x1) := whole_cell HG.out rfl
  have c1 : w1.cell? ⟨g, 1, none⟩ = some (.int .i64 x2) := whole_cell HG.out rfl
  have c2 : w1.cell? ⟨g, 2, none⟩ = some (.int .i64 x3) := whole_cell HG.out rfl
  have c3 : w1.cell? ⟨g, 3, none⟩ = some (.int .i64 x4) := whole_cell HG.out rfl
  have m4 : w1.cell? ⟨p, 4, none⟩ = some (.slice so n sc) := whole_cell hb1 rfl
  have hal := (Below.refl w1.heap.size w1).alloc (Nat.le_refl _) (.cells (seenA (x1, x2, x3, x4)) 55)
  have hAN := heap_alloc_new w1 (.cells (seenA (x1, x2, x3, x4)) 55)
  have hA1 := (Stirred.of_below hal []).whole hb1 List.not_mem_nil
  have m4a : (w1.alloc (.cells (seenA (x1, x2, x3, x4)) 55)).cell? ⟨p, 4, none⟩ = some (.slice so n sc) := whole_cell hA1 rfl
  have HAL := Lib.hid hal
  have HAD := Lib.hid ((hb2.below hal).touch (Stirred.drew _ []) (fun _ _ => List.not_mem_nil))
  have HRD := Lib.hid (show ReadsK (w1.alloc (.cells (seenA (x1, x2, x3, x4)) 55)).drew 4 (.slice (some ⟨w1.heap.size, 0, none⟩) 1 1) (seenCells (x1, x2, x3, x4)) from ReadsK.of_whole (T := 55) hAN rfl)
  have HDW := Lib.hid (show Below w.heap.size w (w1.alloc (.cells (seenA (x1, x2, x3, x4)) 55)).drew from (HB.out.trans (HAL.out.mono HB.out.size)).trans (Below.drew (Below.refl _ _)))
  have HDP := Lib.hid (show (w1.alloc (.cells (seenA (x1, x2, x3, x4)) 55)).drew.heap[p]? = some (.cells (tapeA most r (.slice so n sc)) 64 (0, 0)) from hA1)
  have HXG := Lib.hid (show (w1.alloc (.cells (seenA (x1, x2, x3, x4)) 55)).drew.heap[g]? = some (.cells (seenA (x1, x2, x3, x4)) 55 (0, 0)) from (Stirred.of_below hal []).whole HG.out List.not_mem_nil)
  have HGF := Lib.hid (show g ∉ p :: (blk (.slice so n sc)).toList from fun hm => by
    have hgz := HZ.out
    rcases List.mem_cons.1 hm with e | hm
    · have := (h.lt p h.pIn).2; omega
    · obtain ⟨v', k1, k2, k3⟩ := h.box
      have e1 := (Stirred.of_below HB.out []).whole k1 List.not_mem_nil
      rw [hb1] at e1
      simp only [Option.some.injEq, Obj.cells.injEq, and_true, Array.mk.injEq, List.cons.injEq, true_and] at e1
      rw [e1] at hm
      have := (k2.block g (by simpa using hm)).2.1
      omega)
  clear hal hAN hA1 hb1 hb2 hb3 h hB hn
  go_enter Tryz.func40, Tryz.ntmps40
  go_wp2_with fail
  go_region_law (refine Wide.step_append_reads (by rfl) _ _ 37 (by rfl) B 55 4 i0 (seenV (0, 0, 0, 0)) 32 Tryz.underlying37 HI.out.1 HI.out.2.1 HI.out.2.2.1 HI.out.2.2.2 rfl (by decide) (.slice so n sc) n (r.steps.flatMap seenCells) (by rfl) HAD.out HL.out (.slice (some ⟨w1.heap.size, 0, none⟩) 1 1) 1 (seenCells (x1, x2, x3, x4)) (by rfl) HRD.out rfl (fun u hu => seen_one [(x1, x2, x3, x4)] u (by simpa using hu)) (by unfold maxLen; omega) (by omega) (Nat.le_trans HBW.out HAL.out.size) ?_; intro v' w4 hO _ hS hN; obtain ⟨so', sc', hv', -⟩ := hO.row (n := n + 1) (by rw [List.length_append, HL.out, Nat.add_mul]; rfl) (by decide) (Nat.succ_pos _); subst hv'; have HS3 := Lib.hid (tape_longer HDP.out HAD.out HA.out.low hS hO (by rw [HN.out]; omega)); have HN4 := Lib.hid hN; have hp3 := hS.whole HDP.out (fun hm => tape_off HDP.out HAD.out p (by simpa using hm) rfl); have k3p := whole_cell (j := 4) hp3 rfl; have f3p := whole_frozen hp3 4; clear hO hS hN hp3)
  all_goals
    obtain ⟨w5, hw5⟩ : ∃ w5, w4.setCell ⟨p, 4, none⟩ (.slice (some ⟨so', 0, none⟩) (n + 1) sc') = w5 := ⟨_, rfl⟩
    have hS := HS3.out
    rw [hw5] at hS
    have hg5 := hS.2.whole HXG.out HGF.out
    have g3 : w5.cell? ⟨g, 3, none⟩ = some (.int .i64 x4) := whole_cell hg5 rfl
    obtain ⟨v5, k1, -, -⟩ := hS.1.box
    have e2 : w5.cell? ⟨p, 2, none⟩ = some (.int .i64 r.last) := whole_cell k1 rfl
    have f2 : w5.frozen? ⟨p, 2, none⟩ = false := whole_frozen k1 2
    have HF := Lib.hid (hS.1.ended x4)
    have HS5 := Lib.hid hS.2
    clear k3p f3p hS hg5 k1 HS3 m4 m4a c0 c1 c2 c3
    go_wp2
    go_end0
    refine ⟨rfl, _, HF.out.1, (((Stirred.of_below HDW.out bs).trans HS5.out (fun k hk => .inl (by rw [HBS.out]; exact hk))).trans HF.out.2 (fun k hk => ?_)), fun k hk => ?_⟩
    all_goals
      rcases List.mem_cons.1 hk with rfl | hk
      · exact .inl (by rw [HBS.out]; exact List.mem_cons_self)
      · rcases HN4.out with e | ⟨k', e, hk'⟩
        · exact .inl (by rw [HBS.out, ← e]; exact List.mem_cons_of_mem _ hk)
        · rw [e] at hk
          obtain rfl : k = k' := by simpa using hk
          first
            | exact .inr (Nat.le_trans (show g ≤ _ from by rw [← HZ.out]; exact HDW.out.size) hk')
            | exact .inr (Nat.le_trans HDW.out.size hk')
end
end Go.Proofs.YtcffbeihgchpgaaGreatDoor.Rec
