
/- Package weave: whether a word of control fits, its cells, what it closes, what it opens. -/
import Derived.Test.YtcpdhfigaoaohaaDoorWvOpen
namespace Go.Proofs.YtcpdhfigaoaohaaDoor.Wv
open Go.RowKit Book Book.Wide Mem
set_option linter.unusedSimpArgs false
set_option linter.unusedVariables false
section
variable {w : World} {B p gm : Nat} {bs : List Nat} {m : M}
set_option maxHeartbeats 2000000 in
theorem fits_0 (h : WAt w B p gm bs m) : Calls Tryd.prog 33 #[.pointer (some ⟨p, 0, none⟩), .int .i64 0] w fun e w' => e = .returned (.bool (fitsF 0 m)) ∧ Below w.heap.size w w' := by
  have HA := Lib.hid h
  have C := Lib.hid (top_any h)
  obtain ⟨x1, hx1⟩ : ∃ x : Int, (m.top.1 : Int) = x := ⟨_, rfl⟩
  obtain ⟨x2, hx2⟩ : ∃ x : Int, (m.top.2 : Int) = x := ⟨_, rfl⟩
  have HX := Lib.hid hx1
  rw [show partV m.top = .agg #[.int .i64 x1, .int .i64 x2] by unfold partV; rw [hx1, hx2]] at C
  have hfd := field0 x1 x2
  clear h hx1 hx2
  have HF := Lib.hid (show fitsF 0 m = true from rfl)
  go_enter Tryd.func33, Tryd.ntmps33
  go_wp2_with fail
  refine C.out.mono ?_
  rintro e w1 ⟨rfl, hb⟩
  have HB := Lib.hid hb
  clear C hb
  go_wp2
  go_ret
  exact ⟨by rw [HF.out]; rfl, HB.out⟩
set_option maxHeartbeats 2000000 in
theorem fits_1 (h : WAt w B p gm bs m) : Calls Tryd.prog 33 #[.pointer (some ⟨p, 0, none⟩), .int .i64 1] w fun e w' => e = .returned (.bool (fitsF 1 m)) ∧ Below w.heap.size w w' := by
  have HA := Lib.hid h
  have C := Lib.hid (top_any h)
  obtain ⟨x1, hx1⟩ : ∃ x : Int, (m.top.1 : Int) = x := ⟨_, rfl⟩
  obtain ⟨x2, hx2⟩ : ∃ x : Int, (m.top.2 : Int) = x := ⟨_, rfl⟩
  have HX := Lib.hid hx1
  rw [show partV m.top = .agg #[.int .i64 x1, .int .i64 x2] by unfold partV; rw [hx1, hx2]] at C
  have hfd := field0 x1 x2
  clear h hx1 hx2
  by_cases hk : x1 = 1
  · subst hk
    have HF := Lib.hid (show fitsF 1 m = true by have h0 : m.top.1 = 1 := (by have := HX.out; omega); unfold fitsF; simp [h0])
    go_enter Tryd.func33, Tryd.ntmps33
    go_wp2_with fail
    refine C.out.mono ?_
    rintro e w1 ⟨rfl, hb⟩
    have HB := Lib.hid hb
    clear C hb
    go_wp2
    go_ret
    exact ⟨by rw [HF.out]; rfl, HB.out⟩
  · have hk' : (x1 == 1) = false := by simpa using hk
    have HF := Lib.hid (show fitsF 1 m = false by have h0 : m.top.1 ≠ 1 := (by have := HX.out; omega); unfold fitsF; simp [h0])
    go_enter Tryd.func33, Tryd.ntmps33
    go_wp2_with fail
    refine C.out.mono ?_
    rintro e w1 ⟨rfl, hb⟩
    have HB := Lib.hid hb
    clear C hb
    go_wp2
    go_ret
    exact ⟨by rw [HF.out]; rfl, HB.out⟩
set_option maxHeartbeats 2000000 in
theorem fits_2 (h : WAt w B p gm bs m) : Calls Tryd.prog 33 #[.pointer (some ⟨p, 0, none⟩), .int .i64 2] w fun e w' => e = .returned (.bool (fitsF 2 m)) ∧ Below w.heap.size w w' := by
  have HA := Lib.hid h
  have C := Lib.hid (top_any h)
  obtain ⟨x1, hx1⟩ : ∃ x : Int, (m.top.1 : Int) = x := ⟨_, rfl⟩
  obtain ⟨x2, hx2⟩ : ∃ x : Int, (m.top.2 : Int) = x := ⟨_, rfl⟩
  have HX := Lib.hid hx1
  rw [show partV m.top = .agg #[.int .i64 x1, .int .i64 x2] by unfold partV; rw [hx1, hx2]] at C
  have hfd := field0 x1 x2
  clear h hx1 hx2
  by_cases hk : x1 = 2
  · subst hk
    have HF := Lib.hid (show fitsF 2 m = true by have h0 : m.top.1 = 2 := (by have := HX.out; omega); unfold fitsF; simp [h0])
    go_enter Tryd.func33, Tryd.ntmps33
    go_wp2_with fail
    refine C.out.mono ?_
    rintro e w1 ⟨rfl, hb⟩
    have HB := Lib.hid hb
    clear C hb
    go_wp2
    go_ret
    exact ⟨by rw [HF.out]; rfl, HB.out⟩
  · have hk' : (x1 == 2) = false := by simpa using hk
    by_cases hj : x1 = 1
    · subst hj
      have HF := Lib.hid (show fitsF 2 m = true by have h0 : m.top.1 = 1 := (by have := HX.out; omega); unfold fitsF; simp [h0])
      go_enter Tryd.func33, Tryd.ntmps33
      go_wp2_with fail
      refine C.out.mono ?_
      rintro e w1 ⟨rfl, hb⟩
      have HB := Lib.hid hb
      clear C hb
      go_wp2
      go_ret
      exact ⟨by rw [HF.out]; rfl, HB.out⟩
    · have hj' : (x1 == 1) = false := by simpa using hj
      have HF := Lib.hid (show fitsF 2 m = false by have h0 : m.top.1 ≠ 2 := (by have := HX.out; omega); have h1 : m.top.1 ≠ 1 := (by have := HX.out; omega); unfold fitsF; simp [h0, h1])
      go_enter Tryd.func33, Tryd.ntmps33
      go_wp2_with fail
      refine C.out.mono ?_
      rintro e w1 ⟨rfl, hb⟩
      have HB := Lib.hid hb
      clear C hb
      go_wp2
      go_ret
      exact ⟨by rw [HF.out]; rfl, HB.out⟩
set_option maxHeartbeats 2000000 in
theorem fits_3 (h : WAt w B p gm bs m) : Calls Tryd.prog 33 #[.pointer (some ⟨p, 0, none⟩), .int .i64 3] w fun e w' => e = .returned (.bool (fitsF 3 m)) ∧ Below w.heap.size w w' := by
  have HA := Lib.hid h
  have C := Lib.hid (top_any h)
  obtain ⟨x1, hx1⟩ : ∃ x : Int, (m.top.1 : Int) = x := ⟨_, rfl⟩
  obtain ⟨x2, hx2⟩ : ∃ x : Int, (m.top.2 : Int) = x := ⟨_, rfl⟩
  have HX := Lib.hid hx1
  rw [show partV m.top = .agg #[.int .i64 x1, .int .i64 x2] by unfold partV; rw [hx1, hx2]] at C
  have hfd := field0 x1 x2
  clear h hx1 hx2
  have HF := Lib.hid (show fitsF 3 m = true from rfl)
  go_enter Tryd.func33, Tryd.ntmps33
  go_wp2_with fail
  refine C.out.mono ?_
  rintro e w1 ⟨rfl, hb⟩
  have HB := Lib.hid hb
  clear C hb
  go_wp2
  go_ret
  exact ⟨by rw [HF.out]; rfl, HB.out⟩
set_option maxHeartbeats 2000000 in
theorem fits_4 (h : WAt w B p gm bs m) : Calls Tryd.prog 33 #[.pointer (some ⟨p, 0, none⟩), .int .i64 4] w fun e w' => e = .returned (.bool (fitsF 4 m)) ∧ Below w.heap.size w w' := by
  have HA := Lib.hid h
  have C := Lib.hid (top_any h)
  obtain ⟨x1, hx1⟩ : ∃ x : Int, (m.top.1 : Int) = x := ⟨_, rfl⟩
  obtain ⟨x2, hx2⟩ : ∃ x : Int, (m.top.2 : Int) = x := ⟨_, rfl⟩
  have HX := Lib.hid hx1
  rw [show partV m.top = .agg #[.int .i64 x1, .int .i64 x2] by unfold partV; rw [hx1, hx2]] at C
  have hfd := field0 x1 x2
  clear h hx1 hx2
  by_cases hk : x1 = 3
  · subst hk
    have HF := Lib.hid (show fitsF 4 m = true by have h0 : m.top.1 = 3 := (by have := HX.out; omega); unfold fitsF; simp [h0])
    go_enter Tryd.func33, Tryd.ntmps33
    go_wp2_with fail
    refine C.out.mono ?_
    rintro e w1 ⟨rfl, hb⟩
    have HB := Lib.hid hb
    clear C hb
    go_wp2
    go_ret
    exact ⟨by rw [HF.out]; rfl, HB.out⟩
  · have hk' : (x1 == 3) = false := by simpa using hk
    have HF := Lib.hid (show fitsF 4 m = false by have h0 : m.top.1 ≠ 3 := (by have := HX.out; omega); unfold fitsF; simp [h0])
    go_enter Tryd.func33, Tryd.ntmps33
    go_wp2_with fail
    refine C.out.mono ?_
    rintro e w1 ⟨rfl, hb⟩
    have HB := Lib.hid hb
    clear C hb
    go_wp2
    go_ret
    exact ⟨by rw [HF.out]; rfl, HB.out⟩
set_option maxHeartbeats 2000000 in
theorem fits_5 (h : WAt w B p gm bs m) : Calls Tryd.prog 33 #[.pointer (some ⟨p, 0, none⟩), .int .i64 5] w fun e w' => e = .returned (.bool (fitsF 5 m)) ∧ Below w.heap.size w w' := by
  have HA := Lib.hid h
  have C := Lib.hid (top_any h)
  obtain ⟨x1, hx1⟩ : ∃ x : Int, (m.top.1 : Int) = x := ⟨_, rfl⟩
  obtain ⟨x2, hx2⟩ : ∃ x : Int, (m.top.2 : Int) = x := ⟨_, rfl⟩
  have HX := Lib.hid hx1
  rw [show partV m.top = .agg #[.int .i64 x1, .int .i64 x2] by unfold partV; rw [hx1, hx2]] at C
  have hfd := field0 x1 x2
  clear h hx1 hx2
  by_cases hk : x1 = 3
  · subst hk
    have HF := Lib.hid (show fitsF 5 m = true by have h0 : m.top.1 = 3 := (by have := HX.out; omega); unfold fitsF; simp [h0])
    go_enter Tryd.func33, Tryd.ntmps33
    go_wp2_with fail
    refine C.out.mono ?_
    rintro e w1 ⟨rfl, hb⟩
    have HB := Lib.hid hb
    clear C hb
    go_wp2
    go_ret
    exact ⟨by rw [HF.out]; rfl, HB.out⟩
  · have hk' : (x1 == 3) = false := by simpa using hk
    have HF := Lib.hid (show fitsF 5 m = false by have h0 : m.top.1 ≠ 3 := (by have := HX.out; omega); unfold fitsF; simp [h0])
    go_enter Tryd.func33, Tryd.ntmps33
    go_wp2_with fail
    refine C.out.mono ?_
    rintro e w1 ⟨rfl, hb⟩
    have HB := Lib.hid hb
    clear C hb
    go_wp2
    go_ret
    exact ⟨by rw [HF.out]; rfl, HB.out⟩
set_option maxHeartbeats 2000000 in
theorem fits_6 (h : WAt w B p gm bs m) : Calls Tryd.prog 33 #[.pointer (some ⟨p, 0, none⟩), .int .i64 6] w fun e w' => e = .returned (.bool (fitsF 6 m)) ∧ Below w.heap.size w w' := by
  have HA := Lib.hid h
  have C := Lib.hid (top_any h)
  obtain ⟨x1, hx1⟩ : ∃ x : Int, (m.top.1 : Int) = x := ⟨_, rfl⟩
  obtain ⟨x2, hx2⟩ : ∃ x : Int, (m.top.2 : Int) = x := ⟨_, rfl⟩
  have HX := Lib.hid hx1
  rw [show partV m.top = .agg #[.int .i64 x1, .int .i64 x2] by unfold partV; rw [hx1, hx2]] at C
  have hfd := field0 x1 x2
  clear h hx1 hx2
  by_cases hk : x1 = 3
  · subst hk
    have HF := Lib.hid (show fitsF 6 m = true by have h0 : m.top.1 = 3 := (by have := HX.out; omega); unfold fitsF; simp [h0])
    go_enter Tryd.func33, Tryd.ntmps33
    go_wp2_with fail
    refine C.out.mono ?_
    rintro e w1 ⟨rfl, hb⟩
    have HB := Lib.hid hb
    clear C hb
    go_wp2
    go_ret
    exact ⟨by rw [HF.out]; rfl, HB.out⟩
  · have hk' : (x1 == 3) = false := by simpa using hk
    have HF := Lib.hid (show fitsF 6 m = false by have h0 : m.top.1 ≠ 3 := (by have := HX.out; omega); unfold fitsF; simp [h0])
    go_enter Tryd.func33, Tryd.ntmps33
    go_wp2_with fail
    refine C.out.mono ?_
    rintro e w1 ⟨rfl, hb⟩
    have HB := Lib.hid hb
    clear C hb
    go_wp2
    go_ret
    exact ⟨by rw [HF.out]; rfl, HB.out⟩
set_option maxHeartbeats 2000000 in
theorem fits_7 (h : WAt w B p gm bs m) : Calls Tryd.prog 33 #[.pointer (some ⟨p, 0, none⟩), .int .i64 7] w fun e w' => e = .returned (.bool (fitsF 7 m)) ∧ Below w.heap.size w w' := by
  have HA := Lib.hid h
  have C := Lib.hid (top_any h)
  obtain ⟨x1, hx1⟩ : ∃ x : Int, (m.top.1 : Int) = x := ⟨_, rfl⟩
  obtain ⟨x2, hx2⟩ : ∃ x : Int, (m.top.2 : Int) = x := ⟨_, rfl⟩
  have HX := Lib.hid hx1
  rw [show partV m.top = .agg #[.int .i64 x1, .int .i64 x2] by unfold partV; rw [hx1, hx2]] at C
  have hfd := field0 x1 x2
  clear h hx1 hx2
  by_cases hk : x1 = 4
  · subst hk
    obtain ⟨y1, hy1⟩ : ∃ y : Int, (m.under.1 : Int) = y := ⟨_, rfl⟩
    obtain ⟨y2, hy2⟩ : ∃ y : Int, (m.under.2 : Int) = y := ⟨_, rfl⟩
    have HY := Lib.hid (And.intro hy1 hy2)
    have hfe := field0 y1 y2
    clear hy1 hy2
    by_cases hj : y1 = 3
    · subst hj
      have HF := Lib.hid (show fitsF 7 m = true by have h0 : m.top.1 = 4 := (by have := HX.out; omega); have h1 : m.under.1 = 3 := (by have := HY.out.1; omega); unfold fitsF; simp [h0, h1])
      go_enter Tryd.func33, Tryd.ntmps33
      go_wp2_with fail
      refine C.out.mono ?_
      rintro e w1 ⟨rfl, hb⟩
      have HB := Lib.hid hb
      clear C hb
      have D := Lib.hid (under_any (HA.out.below HB.out))
      rw [show partV m.under = .agg #[.int .i64 3, .int .i64 y2] by unfold partV; rw [HY.out.1, HY.out.2]] at D
      go_wp2_with fail
      refine D.out.mono ?_
      rintro e w2 ⟨rfl, hb⟩
      have HB := Lib.hid (HB.out.trans (hb.mono HB.out.size))
      clear D hb
      go_wp2
      go_ret
      exact ⟨by rw [HF.out]; rfl, HB.out⟩
    · have hj' : (y1 == 3) = false := by simpa using hj
      have HF := Lib.hid (show fitsF 7 m = false by have h0 : m.top.1 = 4 := (by have := HX.out; omega); have h1 : m.under.1 ≠ 3 := (by have := HY.out.1; omega); unfold fitsF; simp [h0, h1])
      go_enter Tryd.func33, Tryd.ntmps33
      go_wp2_with fail
      refine C.out.mono ?_
      rintro e w1 ⟨rfl, hb⟩
      have HB := Lib.hid hb
      clear C hb
      have D := Lib.hid (under_any (HA.out.below HB.out))
      rw [show partV m.under = .agg #[.int .i64 y1, .int .i64 y2] by unfold partV; rw [HY.out.1, HY.out.2]] at D
      go_wp2_with fail
      refine D.out.mono ?_
      rintro e w2 ⟨rfl, hb⟩
      have HB := Lib.hid (HB.out.trans (hb.mono HB.out.size))
      clear D hb
      go_wp2
      go_ret
      exact ⟨by rw [HF.out]; rfl, HB.out⟩
  · have hk' : (x1 != 4) = true := by simpa using hk
    have HF := Lib.hid (show fitsF 7 m = false by have h0 : m.top.1 ≠ 4 := (by have := HX.out; omega); unfold fitsF; simp [h0])
    go_enter Tryd.func33, Tryd.ntmps33
    go_wp2_with fail
    refine C.out.mono ?_
    rintro e w1 ⟨rfl, hb⟩
    have HB := Lib.hid hb
    clear C hb
    go_wp2
    go_ret
    exact ⟨by rw [HF.out]; rfl, HB.out⟩
set_option maxHeartbeats 2000000 in
theorem fits_8 (h : WAt w B p gm bs m) : Calls Tryd.prog 33 #[.pointer (some ⟨p, 0, none⟩), .int .i64 8] w fun e w' => e = .returned (.bool (fitsF 8 m)) ∧ Below w.heap.size w w' := by
  have HA := Lib.hid h
  have C := Lib.hid (top_any h)
  obtain ⟨x1, hx1⟩ : ∃ x : Int, (m.top.1 : Int) = x := ⟨_, rfl⟩
  obtain ⟨x2, hx2⟩ : ∃ x : Int, (m.top.2 : Int) = x := ⟨_, rfl⟩
  have HX := Lib.hid hx1
  rw [show partV m.top = .agg #[.int .i64 x1, .int .i64 x2] by unfold partV; rw [hx1, hx2]] at C
  have hfd := field0 x1 x2
  clear h hx1 hx2
  have HF := Lib.hid (show fitsF 8 m = true from rfl)
  go_enter Tryd.func33, Tryd.ntmps33
  go_wp2_with fail
  refine C.out.mono ?_
  rintro e w1 ⟨rfl, hb⟩
  have HB := Lib.hid hb
  clear C hb
  go_wp2
  go_ret
  exact ⟨by rw [HF.out]; rfl, HB.out⟩
set_option maxHeartbeats 2000000 in
theorem fits_9 (h : WAt w B p gm bs m) : Calls Tryd.prog 33 #[.pointer (some ⟨p, 0, none⟩), .int .i64 9] w fun e w' => e = .returned (.bool (fitsF 9 m)) ∧ Below w.heap.size w w' := by
  have HA := Lib.hid h
  have C := Lib.hid (top_any h)
  obtain ⟨x1, hx1⟩ : ∃ x : Int, (m.top.1 : Int) = x := ⟨_, rfl⟩
  obtain ⟨x2, hx2⟩ : ∃ x : Int, (m.top.2 : Int) = x := ⟨_, rfl⟩
  have HX := Lib.hid hx1
  rw [show partV m.top = .agg #[.int .i64 x1, .int .i64 x2] by unfold partV; rw [hx1, hx2]] at C
  have hfd := field0 x1 x2
  clear h hx1 hx2
  by_cases hk : x1 = 5
  · subst hk
    have HF := Lib.hid (show fitsF 9 m = true by have h0 : m.top.1 = 5 := (by have := HX.out; omega); unfold fitsF; simp [h0])
    go_enter Tryd.func33, Tryd.ntmps33
    go_wp2_with fail
    refine C.out.mono ?_
    rintro e w1 ⟨rfl, hb⟩
    have HB := Lib.hid hb
    clear C hb
    go_wp2
    go_ret
    exact ⟨by rw [HF.out]; rfl, HB.out⟩
  · have hk' : (x1 == 5) = false := by simpa using hk
    have HF := Lib.hid (show fitsF 9 m = false by have h0 : m.top.1 ≠ 5 := (by have := HX.out; omega); unfold fitsF; simp [h0])
    go_enter Tryd.func33, Tryd.ntmps33
    go_wp2_with fail
    refine C.out.mono ?_
    rintro e w1 ⟨rfl, hb⟩
    have HB := Lib.hid hb
    clear C hb
    go_wp2
    go_ret
    exact ⟨by rw [HF.out]; rfl, HB.out⟩
set_option maxHeartbeats 2000000 in
theorem fits_10 (h : WAt w B p gm bs m) : Calls Tryd.prog 33 #[.pointer (some ⟨p, 0, none⟩), .int .i64 10] w fun e w' => e = .returned (.bool (fitsF 10 m)) ∧ Below w.heap.size w w' := by
  have HA := Lib.hid h
  have C := Lib.hid (top_any h)
  obtain ⟨x1, hx1⟩ : ∃ x : Int, (m.top.1 : Int) = x := ⟨_, rfl⟩
  obtain ⟨x2, hx2⟩ : ∃ x : Int, (m.top.2 : Int) = x := ⟨_, rfl⟩
  have HX := Lib.hid hx1
  rw [show partV m.top = .agg #[.int .i64 x1, .int .i64 x2] by unfold partV; rw [hx1, hx2]] at C
  have hfd := field0 x1 x2
  clear h hx1 hx2
  by_cases hk : x1 = 5
  · subst hk
    have HF := Lib.hid (show fitsF 10 m = true by have h0 : m.top.1 = 5 := (by have := HX.out; omega); unfold fitsF; simp [h0])
    go_enter Tryd.func33, Tryd.ntmps33
    go_wp2_with fail
    refine C.out.mono ?_
    rintro e w1 ⟨rfl, hb⟩
    have HB := Lib.hid hb
    clear C hb
    go_wp2
    go_ret
    exact ⟨by rw [HF.out]; rfl, HB.out⟩
  · have hk' : (x1 == 5) = false := by simpa using hk
    have HF := Lib.hid (show fitsF 10 m = false by have h0 : m.top.1 ≠ 5 := (by have := HX.out; omega); unfold fitsF; simp [h0])
    go_enter Tryd.func33, Tryd.ntmps33
    go_wp2_with fail
    refine C.out.mono ?_
    rintro e w1 ⟨rfl, hb⟩
    have HB := Lib.hid hb
    clear C hb
    go_wp2
    go_ret
    exact ⟨by rw [HF.out]; rfl, HB.out⟩
theorem fits_any (h : WAt w B p gm bs m) (c : Nat) (hc : c < 11) : Calls Tryd.prog 33 #[.pointer (some ⟨p, 0, none⟩), .int .i64 (c : Int)] w fun e w' => e = .returned (.bool (fitsF c m)) ∧ Below w.heap.size w w' := by
  match c, hc with
  | 0, _ => exact fits_0 h
  | 1, _ => exact fits_1 h
  | 2, _ => exact fits_2 h
  | 3, _ => exact fits_3 h
  | 4, _ => exact fits_4 h
  | 5, _ => exact fits_5 h
  | 6, _ => exact fits_6 h
  | 7, _ => exact fits_7 h
  | 8, _ => exact fits_8 h
  | 9, _ => exact fits_9 h
  | 10, _ => exact fits_10 h
/-- a slice literal of numbers -/
theorem cell_box (w : World) (xs : List Int) : ∃ w2 b, w.alloc (.cells (vals xs).toArray 3) = w2 ∧ w.heap.size = b ∧ (∀ n, xs.length = n → Reads w2 (.slice (some ⟨b, 0, none⟩) n n) xs) ∧ Below w.heap.size w w2 :=
  ⟨_, _, rfl, rfl, fun n hn => by subst hn; exact ⟨_, _, rfl, fun j x hj => ⟨_, rfl, by rw [add_row]; exact whole_cell (heap_alloc_new w _) (by simp [vals, hj])⟩⟩, (Below.refl w.heap.size w).alloc (Nat.le_refl _) _⟩
set_option maxHeartbeats 2000000 in
theorem cells_0 (h : WAt w B p gm bs m) : Calls Tryd.prog 64 #[.pointer (some ⟨p, 0, none⟩), .int .i64 0] w fun e w' => ∃ v, e = .returned v ∧ Reads w' v (cellsF 0 m) ∧ Below w.heap.size w w' := by
  obtain ⟨w2, b, hw2, hb2, hrd, hbe⟩ := cell_box w [4, 0]
  change w.alloc (.cells #[.int .i64 4, .int .i64 0] 3) = w2 at hw2
  have HR := Lib.hid hrd
  have HBE := Lib.hid hbe
  clear hrd hbe
  clear h
  go_enter Tryd.func64, Tryd.ntmps64
  go_wp2
  go_ret
  exact ⟨_, rfl, by have := HR.out 2 rfl; exact this, HBE.out⟩
set_option maxHeartbeats 2000000 in
theorem cells_1 (h : WAt w B p gm bs m) : Calls Tryd.prog 64 #[.pointer (some ⟨p, 0, none⟩), .int .i64 1] w fun e w' => ∃ v, e = .returned v ∧ Reads w' v (cellsF 1 m) ∧ Below w.heap.size w w' := by
  obtain ⟨w2, b, hw2, hb2, hrd, hbe⟩ := cell_box w [3, 0]
  change w.alloc (.cells #[.int .i64 3, .int .i64 0] 3) = w2 at hw2
  have HR := Lib.hid hrd
  have HBE := Lib.hid hbe
  clear hrd hbe
  clear h
  go_enter Tryd.func64, Tryd.ntmps64
  go_wp2
  go_ret
  exact ⟨_, rfl, by have := HR.out 2 rfl; exact this, HBE.out⟩
set_option maxHeartbeats 2000000 in
theorem cells_2 (h : WAt w B p gm bs m) : Calls Tryd.prog 64 #[.pointer (some ⟨p, 0, none⟩), .int .i64 2] w fun e w' => ∃ v, e = .returned v ∧ Reads w' v (cellsF 2 m) ∧ Below w.heap.size w w' := by
  clear h
  go_enter Tryd.func64, Tryd.ntmps64
  go_wp2
  go_ret
  exact ⟨.slice none 0 0, rfl, ⟨none, 0, rfl, fun j x hj => by cases hj⟩, Below.refl _ _⟩
set_option maxHeartbeats 2000000 in
theorem cells_3 (h : WAt w B p gm bs m) : Calls Tryd.prog 64 #[.pointer (some ⟨p, 0, none⟩), .int .i64 3] w fun e w' => ∃ v, e = .returned v ∧ Reads w' v (cellsF 3 m) ∧ Below w.heap.size w w' := by
  clear h
  go_enter Tryd.func64, Tryd.ntmps64
  go_wp2
  go_ret
  exact ⟨.slice none 0 0, rfl, ⟨none, 0, rfl, fun j x hj => by cases hj⟩, Below.refl _ _⟩
set_option maxHeartbeats 2000000 in
theorem cells_4 (h : WAt w B p gm bs m) : Calls Tryd.prog 64 #[.pointer (some ⟨p, 0, none⟩), .int .i64 4] w fun e w' => ∃ v, e = .returned v ∧ Reads w' v (cellsF 4 m) ∧ Below w.heap.size w w' := by
  have HA := Lib.hid h
  have C := Lib.hid (top_any h)
  obtain ⟨x1, hx1⟩ : ∃ x, m.top.1 = x := ⟨_, rfl⟩
  obtain ⟨x2, hx2⟩ : ∃ x, m.top.2 = x := ⟨_, rfl⟩
  have HX := Lib.hid hx2
  rw [show partV m.top = .agg #[.int .i64 (x1 : Int), .int .i64 (x2 : Int)] by unfold partV; rw [hx1, hx2]] at C
  have hfd := field1 (x1 : Int) (x2 : Int)
  clear h hx1 hx2
  go_enter Tryd.func64, Tryd.ntmps64
  go_wp2_with fail
  refine C.out.mono ?_
  rintro e w1 ⟨rfl, hb⟩
  have HB := Lib.hid hb
  clear C hb
  obtain ⟨w2, b, hw2, hb2, hrd, hbe⟩ := cell_box w1 [4, (x2 : Int)]
  change w1.alloc (.cells #[.int .i64 4, .int .i64 (x2 : Int)] 3) = w2 at hw2
  have HR := Lib.hid hrd
  have HBE := Lib.hid hbe
  clear hrd hbe
  go_wp2
  go_ret
  exact ⟨_, rfl, by have := HR.out 2 rfl; unfold cellsF; rw [HX.out]; exact this, HB.out.trans (HBE.out.mono HB.out.size)⟩
set_option maxHeartbeats 2000000 in
theorem cells_5 (h : WAt w B p gm bs m) : Calls Tryd.prog 64 #[.pointer (some ⟨p, 0, none⟩), .int .i64 5] w fun e w' => ∃ v, e = .returned v ∧ Reads w' v (cellsF 5 m) ∧ Below w.heap.size w w' := by
  have HA := Lib.hid h
  have C := Lib.hid (top_any h)
  obtain ⟨x1, hx1⟩ : ∃ x, m.top.1 = x := ⟨_, rfl⟩
  obtain ⟨x2, hx2⟩ : ∃ x, m.top.2 = x := ⟨_, rfl⟩
  have HX := Lib.hid hx2
  rw [show partV m.top = .agg #[.int .i64 (x1 : Int), .int .i64 (x2 : Int)] by unfold partV; rw [hx1, hx2]] at C
  have hfd := field1 (x1 : Int) (x2 : Int)
  clear h hx1 hx2
  go_enter Tryd.func64, Tryd.ntmps64
  go_wp2_with fail
  refine C.out.mono ?_
  rintro e w1 ⟨rfl, hb⟩
  have HB := Lib.hid hb
  clear C hb
  obtain ⟨w2, b, hw2, hb2, hrd, hbe⟩ := cell_box w1 [3, (x2 : Int)]
  change w1.alloc (.cells #[.int .i64 3, .int .i64 (x2 : Int)] 3) = w2 at hw2
  have HR := Lib.hid hrd
  have HBE := Lib.hid hbe
  clear hrd hbe
  go_wp2
  go_ret
  exact ⟨_, rfl, by have := HR.out 2 rfl; unfold cellsF; rw [HX.out]; exact this, HB.out.trans (HBE.out.mono HB.out.size)⟩
set_option maxHeartbeats 2000000 in
theorem cells_6 (h : WAt w B p gm bs m) : Calls Tryd.prog 64 #[.pointer (some ⟨p, 0, none⟩), .int .i64 6] w fun e w' => ∃ v, e = .returned v ∧ Reads w' v (cellsF 6 m) ∧ Below w.heap.size w w' := by
  obtain ⟨w2, b, hw2, hb2, hrd, hbe⟩ := cell_box w [4, 0]
  change w.alloc (.cells #[.int .i64 4, .int .i64 0] 3) = w2 at hw2
  have HR := Lib.hid hrd
  have HBE := Lib.hid hbe
  clear hrd hbe
  clear h
  go_enter Tryd.func64, Tryd.ntmps64
  go_wp2
  go_ret
  exact ⟨_, rfl, by have := HR.out 2 rfl; exact this, HBE.out⟩
set_option maxHeartbeats 2000000 in
theorem cells_7 (h : WAt w B p gm bs m) : Calls Tryd.prog 64 #[.pointer (some ⟨p, 0, none⟩), .int .i64 7] w fun e w' => ∃ v, e = .returned v ∧ Reads w' v (cellsF 7 m) ∧ Below w.heap.size w w' := by
  have HA := Lib.hid h
  have C := Lib.hid (under_any h)
  obtain ⟨x1, hx1⟩ : ∃ x, m.under.1 = x := ⟨_, rfl⟩
  obtain ⟨x2, hx2⟩ : ∃ x, m.under.2 = x := ⟨_, rfl⟩
  have HX := Lib.hid hx2
  rw [show partV m.under = .agg #[.int .i64 (x1 : Int), .int .i64 (x2 : Int)] by unfold partV; rw [hx1, hx2]] at C
  have hfd := field1 (x1 : Int) (x2 : Int)
  clear h hx1 hx2
  go_enter Tryd.func64, Tryd.ntmps64
  go_wp2_with fail
  refine C.out.mono ?_
  rintro e w1 ⟨rfl, hb⟩
  have HB := Lib.hid hb
  clear C hb
  obtain ⟨w2, b, hw2, hb2, hrd, hbe⟩ := cell_box w1 [3, (x2 : Int)]
  change w1.alloc (.cells #[.int .i64 3, .int .i64 (x2 : Int)] 3) = w2 at hw2
  have HR := Lib.hid hrd
  have HBE := Lib.hid hbe
  clear hrd hbe
  go_wp2
  go_ret
  exact ⟨_, rfl, by have := HR.out 2 rfl; unfold cellsF; rw [HX.out]; exact this, HB.out.trans (HBE.out.mono HB.out.size)⟩
set_option maxHeartbeats 2000000 in
theorem cells_8 (h : WAt w B p gm bs m) : Calls Tryd.prog 64 #[.pointer (some ⟨p, 0, none⟩), .int .i64 8] w fun e w' => ∃ v, e = .returned v ∧ Reads w' v (cellsF 8 m) ∧ Below w.heap.size w w' := by
  obtain ⟨w2, b, hw2, hb2, hrd, hbe⟩ := cell_box w [36]
  change w.alloc (.cells #[.int .i64 36] 3) = w2 at hw2
  have HR := Lib.hid hrd
  have HBE := Lib.hid hbe
  clear hrd hbe
  clear h
  go_enter Tryd.func64, Tryd.ntmps64
  go_wp2
  go_ret
  exact ⟨_, rfl, by have := HR.out 1 rfl; exact this, HBE.out⟩
set_option maxHeartbeats 2000000 in
theorem cells_9 (h : WAt w B p gm bs m) : Calls Tryd.prog 64 #[.pointer (some ⟨p, 0, none⟩), .int .i64 9] w fun e w' => ∃ v, e = .returned v ∧ Reads w' v (cellsF 9 m) ∧ Below w.heap.size w w' := by
  have HA := Lib.hid h
  have C := Lib.hid (top_any h)
  obtain ⟨x1, hx1⟩ : ∃ x, m.top.1 = x := ⟨_, rfl⟩
  obtain ⟨x2, hx2⟩ : ∃ x, m.top.2 = x := ⟨_, rfl⟩
  have HX := Lib.hid hx2
  rw [show partV m.top = .agg #[.int .i64 (x1 : Int), .int .i64 (x2 : Int)] by unfold partV; rw [hx1, hx2]] at C
  have hfd := field1 (x1 : Int) (x2 : Int)
  clear h hx1 hx2
  go_enter Tryd.func64, Tryd.ntmps64
  go_wp2_with fail
  refine C.out.mono ?_
  rintro e w1 ⟨rfl, hb⟩
  have HB := Lib.hid hb
  clear C hb
  obtain ⟨w2, b, hw2, hb2, hrd, hbe⟩ := cell_box w1 [37, (x2 : Int)]
  change w1.alloc (.cells #[.int .i64 37, .int .i64 (x2 : Int)] 3) = w2 at hw2
  have HR := Lib.hid hrd
  have HBE := Lib.hid hbe
  clear hrd hbe
  go_wp2
  go_ret
  exact ⟨_, rfl, by have := HR.out 2 rfl; unfold cellsF; rw [HX.out]; exact this, HB.out.trans (HBE.out.mono HB.out.size)⟩
set_option maxHeartbeats 2000000 in
theorem cells_10 (h : WAt w B p gm bs m) : Calls Tryd.prog 64 #[.pointer (some ⟨p, 0, none⟩), .int .i64 10] w fun e w' => ∃ v, e = .returned v ∧ Reads w' v (cellsF 10 m) ∧ Below w.heap.size w w' := by
  have HA := Lib.hid h
  have C := Lib.hid (top_any h)
  obtain ⟨x1, hx1⟩ : ∃ x, m.top.1 = x := ⟨_, rfl⟩
  obtain ⟨x2, hx2⟩ : ∃ x, m.top.2 = x := ⟨_, rfl⟩
  have HX := Lib.hid hx2
  rw [show partV m.top = .agg #[.int .i64 (x1 : Int), .int .i64 (x2 : Int)] by unfold partV; rw [hx1, hx2]] at C
  have hfd := field1 (x1 : Int) (x2 : Int)
  clear h hx1 hx2
  go_enter Tryd.func64, Tryd.ntmps64
  go_wp2_with fail
  refine C.out.mono ?_
  rintro e w1 ⟨rfl, hb⟩
  have HB := Lib.hid hb
  clear C hb
  obtain ⟨w2, b, hw2, hb2, hrd, hbe⟩ := cell_box w1 [38, (x2 : Int)]
  change w1.alloc (.cells #[.int .i64 38, .int .i64 (x2 : Int)] 3) = w2 at hw2
  have HR := Lib.hid hrd
  have HBE := Lib.hid hbe
  clear hrd hbe
  go_wp2
  go_ret
  exact ⟨_, rfl, by have := HR.out 2 rfl; unfold cellsF; rw [HX.out]; exact this, HB.out.trans (HBE.out.mono HB.out.size)⟩
theorem cells_any (h : WAt w B p gm bs m) (c : Nat) (hc : c < 11) : Calls Tryd.prog 64 #[.pointer (some ⟨p, 0, none⟩), .int .i64 (c : Int)] w fun e w' => ∃ v, e = .returned v ∧ Reads w' v (cellsF c m) ∧ Below w.heap.size w w' := by
  match c, hc with
  | 0, _ => exact cells_0 h
  | 1, _ => exact cells_1 h
  | 2, _ => exact cells_2 h
  | 3, _ => exact cells_3 h
  | 4, _ => exact cells_4 h
  | 5, _ => exact cells_5 h
  | 6, _ => exact cells_6 h
  | 7, _ => exact cells_7 h
  | 8, _ => exact cells_8 h
  | 9, _ => exact cells_9 h
  | 10, _ => exact cells_10 h
theorem cellsF_len (c : Nat) (m : M) : (cellsF c m).length ≤ 2 := by
  unfold cellsF
  repeat' split
  all_goals simp
set_option maxHeartbeats 2000000 in
theorem shut_0 (h : WAt w B p gm bs m) (hf : fitsF 0 m = true) : Calls Tryd.prog 65 #[.pointer (some ⟨p, 0, none⟩), .int .i64 0] w fun e w' => e = .returned (.tuple #[]) ∧ WAt w' B p gm bs (shutF 0 m) ∧ Stirred w w' bs := by
  have HA1 := Lib.hid h
  have HS1 := Lib.hid (Stirred.refl w bs)
  clear h hf
  go_enter Tryd.func65, Tryd.ntmps65
  go_wp2
  go_end0
  exact ⟨rfl, HA1.out, HS1.out⟩
set_option maxHeartbeats 2000000 in
theorem shut_1 (h : WAt w B p gm bs m) (hf : fitsF 1 m = true) : Calls Tryd.prog 65 #[.pointer (some ⟨p, 0, none⟩), .int .i64 1] w fun e w' => e = .returned (.tuple #[]) ∧ WAt w' B p gm bs (shutF 1 m) ∧ Stirred w w' bs := by
  have C := Lib.hid (lead_any h (by unfold fitsF at hf; simp at hf; omega))
  clear h hf
  go_enter Tryd.func65, Tryd.ntmps65
  go_wp2_with fail
  refine C.out.mono ?_
  rintro e w1 ⟨rfl, hA, hS⟩
  have HA1 := Lib.hid hA
  have HS1 := Lib.hid hS
  clear C hA hS
  go_wp2
  go_end0
  exact ⟨rfl, HA1.out, HS1.out⟩
set_option maxHeartbeats 2000000 in
theorem shut_2 (h : WAt w B p gm bs m) (hf : fitsF 2 m = true) : Calls Tryd.prog 65 #[.pointer (some ⟨p, 0, none⟩), .int .i64 2] w fun e w' => e = .returned (.tuple #[]) ∧ WAt w' B p gm bs (shutF 2 m) ∧ Stirred w w' bs := by
  have C := Lib.hid (lead_any h (by unfold fitsF at hf; simp at hf; omega))
  clear h hf
  go_enter Tryd.func65, Tryd.ntmps65
  go_wp2_with fail
  refine C.out.mono ?_
  rintro e w1 ⟨rfl, hA, hS⟩
  have HA1 := Lib.hid hA
  have HS1 := Lib.hid hS
  clear C hA hS
  go_wp2
  go_end0
  exact ⟨rfl, HA1.out, HS1.out⟩
set_option maxHeartbeats 2000000 in
theorem shut_3 (h : WAt w B p gm bs m) (hf : fitsF 3 m = true) : Calls Tryd.prog 65 #[.pointer (some ⟨p, 0, none⟩), .int .i64 3] w fun e w' => e = .returned (.tuple #[]) ∧ WAt w' B p gm bs (shutF 3 m) ∧ Stirred w w' bs := by
  have HA1 := Lib.hid h
  have HS1 := Lib.hid (Stirred.refl w bs)
  clear h hf
  go_enter Tryd.func65, Tryd.ntmps65
  go_wp2
  go_end0
  exact ⟨rfl, HA1.out, HS1.out⟩
set_option maxHeartbeats 2000000 in
theorem shut_4 (h : WAt w B p gm bs m) (hf : fitsF 4 m = true) : Calls Tryd.prog 65 #[.pointer (some ⟨p, 0, none⟩), .int .i64 4] w fun e w' => e = .returned (.tuple #[]) ∧ WAt w' B p gm bs (shutF 4 m) ∧ Stirred w w' bs := by
  have C := Lib.hid (drop_any h (top_some (by unfold fitsF at hf; simp at hf; omega)))
  clear h hf
  go_enter Tryd.func65, Tryd.ntmps65
  go_wp2_with fail
  refine C.out.mono ?_
  rintro e w1 ⟨rfl, hA, hS⟩
  have HA1 := Lib.hid hA
  have HS1 := Lib.hid hS
  clear C hA hS
  go_wp2
  go_end0
  exact ⟨rfl, HA1.out, HS1.out⟩
set_option maxHeartbeats 2000000 in
theorem shut_5 (h : WAt w B p gm bs m) (hf : fitsF 5 m = true) : Calls Tryd.prog 65 #[.pointer (some ⟨p, 0, none⟩), .int .i64 5] w fun e w' => e = .returned (.tuple #[]) ∧ WAt w' B p gm bs (shutF 5 m) ∧ Stirred w w' bs := by
  have C := Lib.hid (drop_any h (top_some (by unfold fitsF at hf; simp at hf; omega)))
  clear h hf
  go_enter Tryd.func65, Tryd.ntmps65
  go_wp2_with fail
  refine C.out.mono ?_
  rintro e w1 ⟨rfl, hA, hS⟩
  have HA1 := Lib.hid hA
  have HS1 := Lib.hid hS
  clear C hA hS
  go_wp2
  go_end0
  exact ⟨rfl, HA1.out, HS1.out⟩
set_option maxHeartbeats 2000000 in
theorem shut_6 (h : WAt w B p gm bs m) (hf : fitsF 6 m = true) : Calls Tryd.prog 65 #[.pointer (some ⟨p, 0, none⟩), .int .i64 6] w fun e w' => e = .returned (.tuple #[]) ∧ WAt w' B p gm bs (shutF 6 m) ∧ Stirred w w' bs := by
  have HA1 := Lib.hid h
  have HS1 := Lib.hid (Stirred.refl w bs)
  clear h hf
  go_enter Tryd.func65, Tryd.ntmps65
  go_wp2
  go_end0
  exact ⟨rfl, HA1.out, HS1.out⟩
set_option maxHeartbeats 2000000 in
theorem shut_7 (h : WAt w B p gm bs m) (hf : fitsF 7 m = true) : Calls Tryd.prog 65 #[.pointer (some ⟨p, 0, none⟩), .int .i64 7] w fun e w' => e = .returned (.tuple #[]) ∧ WAt w' B p gm bs (shutF 7 m) ∧ Stirred w w' bs := by
  have C := Lib.hid (lead_any h (by unfold fitsF at hf; simp at hf; omega))
  have HU := Lib.hid (show 0 < m.lead.l.length by
    have h1 := under_some (m := m) (by unfold fitsF at hf; simp at hf; omega)
    show 0 < m.l.tail.length
    rw [List.length_tail]; omega)
  clear h hf
  go_enter Tryd.func65, Tryd.ntmps65
  go_wp2_with fail
  refine C.out.mono ?_
  rintro e w1 ⟨rfl, hA, hS⟩
  have HA1 := Lib.hid hA
  have HS1 := Lib.hid hS
  clear C hA hS
  have D := Lib.hid (drop_any HA1.out HU.out)
  go_wp2_with fail
  refine D.out.mono ?_
  rintro e w2 ⟨rfl, hA, hS⟩
  have HA2 := Lib.hid hA
  have HS2 := Lib.hid (HS1.out.trans hS (fun k hk => .inl hk))
  clear D hA hS
  go_wp2
  go_end0
  exact ⟨rfl, HA2.out, HS2.out⟩
set_option maxHeartbeats 2000000 in
theorem shut_8 (h : WAt w B p gm bs m) (hf : fitsF 8 m = true) : Calls Tryd.prog 65 #[.pointer (some ⟨p, 0, none⟩), .int .i64 8] w fun e w' => e = .returned (.tuple #[]) ∧ WAt w' B p gm bs (shutF 8 m) ∧ Stirred w w' bs := by
  have HA1 := Lib.hid h
  have HS1 := Lib.hid (Stirred.refl w bs)
  clear h hf
  go_enter Tryd.func65, Tryd.ntmps65
  go_wp2
  go_end0
  exact ⟨rfl, HA1.out, HS1.out⟩
set_option maxHeartbeats 2000000 in
theorem shut_9 (h : WAt w B p gm bs m) (hf : fitsF 9 m = true) : Calls Tryd.prog 65 #[.pointer (some ⟨p, 0, none⟩), .int .i64 9] w fun e w' => e = .returned (.tuple #[]) ∧ WAt w' B p gm bs (shutF 9 m) ∧ Stirred w w' bs := by
  have C := Lib.hid (drop_any h (top_some (by unfold fitsF at hf; simp at hf; omega)))
  clear h hf
  go_enter Tryd.func65, Tryd.ntmps65
  go_wp2_with fail
  refine C.out.mono ?_
  rintro e w1 ⟨rfl, hA, hS⟩
  have HA1 := Lib.hid hA
  have HS1 := Lib.hid hS
  clear C hA hS
  go_wp2
  go_end0
  exact ⟨rfl, HA1.out, HS1.out⟩
set_option maxHeartbeats 2000000 in
theorem shut_10 (h : WAt w B p gm bs m) (hf : fitsF 10 m = true) : Calls Tryd.prog 65 #[.pointer (some ⟨p, 0, none⟩), .int .i64 10] w fun e w' => e = .returned (.tuple #[]) ∧ WAt w' B p gm bs (shutF 10 m) ∧ Stirred w w' bs := by
  have C := Lib.hid (drop_any h (top_some (by unfold fitsF at hf; simp at hf; omega)))
  clear h hf
  go_enter Tryd.func65, Tryd.ntmps65
  go_wp2_with fail
  refine C.out.mono ?_
  rintro e w1 ⟨rfl, hA, hS⟩
  have HA1 := Lib.hid hA
  have HS1 := Lib.hid hS
  clear C hA hS
  go_wp2
  go_end0
  exact ⟨rfl, HA1.out, HS1.out⟩
theorem shut_any (h : WAt w B p gm bs m) (c : Nat) (hc : c < 11) (hf : fitsF c m = true) : Calls Tryd.prog 65 #[.pointer (some ⟨p, 0, none⟩), .int .i64 (c : Int)] w fun e w' => e = .returned (.tuple #[]) ∧ WAt w' B p gm bs (shutF c m) ∧ Stirred w w' bs := by
  match c, hc with
  | 0, _ => exact shut_0 h hf
  | 1, _ => exact shut_1 h hf
  | 2, _ => exact shut_2 h hf
  | 3, _ => exact shut_3 h hf
  | 4, _ => exact shut_4 h hf
  | 5, _ => exact shut_5 h hf
  | 6, _ => exact shut_6 h hf
  | 7, _ => exact shut_7 h hf
  | 8, _ => exact shut_8 h hf
  | 9, _ => exact shut_9 h hf
  | 10, _ => exact shut_10 h hf
set_option maxHeartbeats 2000000 in
theorem begin_0 (h : WAt w B p gm bs m) (hB : B ≤ w.heap.size) (hf : Fine (beginF 0 m)) (hl : m.l.length < 1000) (h1 : 1 ≤ m.here) : Calls Tryd.prog 66 #[.pointer (some ⟨p, 0, none⟩), .int .i64 0] w (Did w B p gm bs (.tuple #[]) (beginF 0 m)) := by
  have hh := h.fine.here
  have hm := h.most
  obtain ⟨_, k1, _, _⟩ := h.box
  have C := Lib.hid (push_any h hB 1 (m.here - 1) hf hl)
  obtain ⟨H, hH⟩ : ∃ H, m.here = H := ⟨_, rfl⟩
  rw [hH] at k1 hh
  obtain ⟨J, hJ⟩ : ∃ J, H - 1 = J := ⟨_, rfl⟩
  rw [hH, hJ] at C
  have HJ := Lib.hid (show m.here - 1 = J by rw [hH, hJ])
  rw [hH] at h1
  have z1 : (H : Int) - 1 = (J : Int) := by omega
  have z3 : IntKind.i64.wrap (J : Int) = (J : Int) := IntWalk.i64_in _ (by omega)
  have c1 : w.cell? ⟨p, 1, none⟩ = some (.int .i64 (H : Int)) := whole_cell k1 rfl
  have z0 : IntKind.i64.wrap ((H : Int) - 1) = (H : Int) - 1 := IntWalk.i64_in _ (by omega)
  clear h k1 hB hf hl hH hJ
  go_enter Tryd.func66, Tryd.ntmps66
  go_wp2_with fail
  refine C.out.mono ?_
  rintro e w1 ⟨rfl, bs1, hA, hS, hT⟩
  have HD := Lib.hid (show ∃ bs', WAt w1 B p gm bs' (beginF 0 m) ∧ Stirred w w1 bs ∧ ∀ k ∈ bs', k ∈ bs ∨ w.heap.size ≤ k from ⟨bs1, by unfold beginF; rw [HJ.out]; exact hA, hS, hT⟩)
  clear C hA hS hT
  go_wp2
  go_end0
  exact ⟨rfl, HD.out⟩
set_option maxHeartbeats 2000000 in
theorem begin_1 (h : WAt w B p gm bs m) (hB : B ≤ w.heap.size) (hf : Fine (beginF 1 m)) (hl : m.l.length < 1000) (h1 : 1 ≤ m.here) : Calls Tryd.prog 66 #[.pointer (some ⟨p, 0, none⟩), .int .i64 1] w (Did w B p gm bs (.tuple #[]) (beginF 1 m)) := by
  have hh := h.fine.here
  have hm := h.most
  obtain ⟨_, k1, _, _⟩ := h.box
  have C := Lib.hid (push_any h hB 2 (m.here - 1) hf hl)
  obtain ⟨H, hH⟩ : ∃ H, m.here = H := ⟨_, rfl⟩
  rw [hH] at k1 hh
  obtain ⟨J, hJ⟩ : ∃ J, H - 1 = J := ⟨_, rfl⟩
  rw [hH, hJ] at C
  have HJ := Lib.hid (show m.here - 1 = J by rw [hH, hJ])
  rw [hH] at h1
  have z1 : (H : Int) - 1 = (J : Int) := by omega
  have z3 : IntKind.i64.wrap (J : Int) = (J : Int) := IntWalk.i64_in _ (by omega)
  have c1 : w.cell? ⟨p, 1, none⟩ = some (.int .i64 (H : Int)) := whole_cell k1 rfl
  have z0 : IntKind.i64.wrap ((H : Int) - 1) = (H : Int) - 1 := IntWalk.i64_in _ (by omega)
  clear h k1 hB hf hl hH hJ
  go_enter Tryd.func66, Tryd.ntmps66
  go_wp2_with fail
  refine C.out.mono ?_
  rintro e w1 ⟨rfl, bs1, hA, hS, hT⟩
  have HD := Lib.hid (show ∃ bs', WAt w1 B p gm bs' (beginF 1 m) ∧ Stirred w w1 bs ∧ ∀ k ∈ bs', k ∈ bs ∨ w.heap.size ≤ k from ⟨bs1, by unfold beginF; rw [HJ.out]; exact hA, hS, hT⟩)
  clear C hA hS hT
  go_wp2
  go_end0
  exact ⟨rfl, HD.out⟩
set_option maxHeartbeats 2000000 in
theorem begin_2 (h : WAt w B p gm bs m) (hB : B ≤ w.heap.size) (hf : Fine (beginF 2 m)) (hl : m.l.length < 1000) : Calls Tryd.prog 66 #[.pointer (some ⟨p, 0, none⟩), .int .i64 2] w (Did w B p gm bs (.tuple #[]) (beginF 2 m)) := by
  have hh := h.fine.here
  have hm := h.most
  obtain ⟨_, k1, _, _⟩ := h.box
  have HA := Lib.hid h
  obtain ⟨H, hH⟩ : ∃ H, m.here = H := ⟨_, rfl⟩
  rw [hH] at k1 hh
  have c1 : w.cell? ⟨p, 1, none⟩ = some (.int .i64 (H : Int)) := whole_cell k1 rfl
  have z0 : IntKind.i64.wrap ((H : Int) - 1) = (H : Int) - 1 := IntWalk.i64_in _ (by omega)
  clear h k1 hB hf hl hH
  go_enter Tryd.func66, Tryd.ntmps66
  go_wp2
  go_end0
  exact Did.same HA.out rfl (Below.refl _ _)
set_option maxHeartbeats 2000000 in
theorem begin_3 (h : WAt w B p gm bs m) (hB : B ≤ w.heap.size) (hf : Fine (beginF 3 m)) (hl : m.l.length < 1000) : Calls Tryd.prog 66 #[.pointer (some ⟨p, 0, none⟩), .int .i64 3] w (Did w B p gm bs (.tuple #[]) (beginF 3 m)) := by
  have hh := h.fine.here
  have hm := h.most
  obtain ⟨_, k1, _, _⟩ := h.box
  have C := Lib.hid (push_any h hB 3 m.here hf hl)
  obtain ⟨H, hH⟩ : ∃ H, m.here = H := ⟨_, rfl⟩
  rw [hH] at k1 hh
  rw [hH] at C
  have HH := Lib.hid hH
  have c1 : w.cell? ⟨p, 1, none⟩ = some (.int .i64 (H : Int)) := whole_cell k1 rfl
  have z0 : IntKind.i64.wrap ((H : Int) - 1) = (H : Int) - 1 := IntWalk.i64_in _ (by omega)
  clear h k1 hB hf hl hH
  go_enter Tryd.func66, Tryd.ntmps66
  go_wp2_with fail
  refine C.out.mono ?_
  rintro e w1 ⟨rfl, bs1, hA, hS, hT⟩
  have HD := Lib.hid (show ∃ bs', WAt w1 B p gm bs' (beginF 3 m) ∧ Stirred w w1 bs ∧ ∀ k ∈ bs', k ∈ bs ∨ w.heap.size ≤ k from ⟨bs1, by unfold beginF; rw [HH.out]; exact hA, hS, hT⟩)
  clear C hA hS hT
  go_wp2
  go_end0
  exact ⟨rfl, HD.out⟩
set_option maxHeartbeats 2000000 in
theorem begin_4 (h : WAt w B p gm bs m) (hB : B ≤ w.heap.size) (hf : Fine (beginF 4 m)) (hl : m.l.length < 1000) : Calls Tryd.prog 66 #[.pointer (some ⟨p, 0, none⟩), .int .i64 4] w (Did w B p gm bs (.tuple #[]) (beginF 4 m)) := by
  have hh := h.fine.here
  have hm := h.most
  obtain ⟨_, k1, _, _⟩ := h.box
  have HA := Lib.hid h
  obtain ⟨H, hH⟩ : ∃ H, m.here = H := ⟨_, rfl⟩
  rw [hH] at k1 hh
  have c1 : w.cell? ⟨p, 1, none⟩ = some (.int .i64 (H : Int)) := whole_cell k1 rfl
  have z0 : IntKind.i64.wrap ((H : Int) - 1) = (H : Int) - 1 := IntWalk.i64_in _ (by omega)
  clear h k1 hB hf hl hH
  go_enter Tryd.func66, Tryd.ntmps66
  go_wp2
  go_end0
  exact Did.same HA.out rfl (Below.refl _ _)
set_option maxHeartbeats 2000000 in
theorem begin_5 (h : WAt w B p gm bs m) (hB : B ≤ w.heap.size) (hf : Fine (beginF 5 m)) (hl : m.l.length < 1000) : Calls Tryd.prog 66 #[.pointer (some ⟨p, 0, none⟩), .int .i64 5] w (Did w B p gm bs (.tuple #[]) (beginF 5 m)) := by
  have hh := h.fine.here
  have hm := h.most
  obtain ⟨_, k1, _, _⟩ := h.box
  have HA := Lib.hid h
  obtain ⟨H, hH⟩ : ∃ H, m.here = H := ⟨_, rfl⟩
  rw [hH] at k1 hh
  have c1 : w.cell? ⟨p, 1, none⟩ = some (.int .i64 (H : Int)) := whole_cell k1 rfl
  have z0 : IntKind.i64.wrap ((H : Int) - 1) = (H : Int) - 1 := IntWalk.i64_in _ (by omega)
  clear h k1 hB hf hl hH
  go_enter Tryd.func66, Tryd.ntmps66
  go_wp2
  go_end0
  exact Did.same HA.out rfl (Below.refl _ _)
set_option maxHeartbeats 2000000 in
theorem begin_6 (h : WAt w B p gm bs m) (hB : B ≤ w.heap.size) (hf : Fine (beginF 6 m)) (hl : m.l.length < 1000) (h1 : 1 ≤ m.here) : Calls Tryd.prog 66 #[.pointer (some ⟨p, 0, none⟩), .int .i64 6] w (Did w B p gm bs (.tuple #[]) (beginF 6 m)) := by
  have hh := h.fine.here
  have hm := h.most
  obtain ⟨_, k1, _, _⟩ := h.box
  have C := Lib.hid (push_any h hB 4 (m.here - 1) hf hl)
  obtain ⟨H, hH⟩ : ∃ H, m.here = H := ⟨_, rfl⟩
  rw [hH] at k1 hh
  obtain ⟨J, hJ⟩ : ∃ J, H - 1 = J := ⟨_, rfl⟩
  rw [hH, hJ] at C
  have HJ := Lib.hid (show m.here - 1 = J by rw [hH, hJ])
  rw [hH] at h1
  have z1 : (H : Int) - 1 = (J : Int) := by omega
  have z3 : IntKind.i64.wrap (J : Int) = (J : Int) := IntWalk.i64_in _ (by omega)
  have c1 : w.cell? ⟨p, 1, none⟩ = some (.int .i64 (H : Int)) := whole_cell k1 rfl
  have z0 : IntKind.i64.wrap ((H : Int) - 1) = (H : Int) - 1 := IntWalk.i64_in _ (by omega)
  clear h k1 hB hf hl hH hJ
  go_enter Tryd.func66, Tryd.ntmps66
  go_wp2_with fail
  refine C.out.mono ?_
  rintro e w1 ⟨rfl, bs1, hA, hS, hT⟩
  have HD := Lib.hid (show ∃ bs', WAt w1 B p gm bs' (beginF 6 m) ∧ Stirred w w1 bs ∧ ∀ k ∈ bs', k ∈ bs ∨ w.heap.size ≤ k from ⟨bs1, by unfold beginF; rw [HJ.out]; exact hA, hS, hT⟩)
  clear C hA hS hT
  go_wp2
  go_end0
  exact ⟨rfl, HD.out⟩
set_option maxHeartbeats 2000000 in
theorem begin_7 (h : WAt w B p gm bs m) (hB : B ≤ w.heap.size) (hf : Fine (beginF 7 m)) (hl : m.l.length < 1000) : Calls Tryd.prog 66 #[.pointer (some ⟨p, 0, none⟩), .int .i64 7] w (Did w B p gm bs (.tuple #[]) (beginF 7 m)) := by
  have hh := h.fine.here
  have hm := h.most
  obtain ⟨_, k1, _, _⟩ := h.box
  have HA := Lib.hid h
  obtain ⟨H, hH⟩ : ∃ H, m.here = H := ⟨_, rfl⟩
  rw [hH] at k1 hh
  have c1 : w.cell? ⟨p, 1, none⟩ = some (.int .i64 (H : Int)) := whole_cell k1 rfl
  have z0 : IntKind.i64.wrap ((H : Int) - 1) = (H : Int) - 1 := IntWalk.i64_in _ (by omega)
  clear h k1 hB hf hl hH
  go_enter Tryd.func66, Tryd.ntmps66
  go_wp2
  go_end0
  exact Did.same HA.out rfl (Below.refl _ _)
set_option maxHeartbeats 2000000 in
theorem begin_8 (h : WAt w B p gm bs m) (hB : B ≤ w.heap.size) (hf : Fine (beginF 8 m)) (hl : m.l.length < 1000) : Calls Tryd.prog 66 #[.pointer (some ⟨p, 0, none⟩), .int .i64 8] w (Did w B p gm bs (.tuple #[]) (beginF 8 m)) := by
  have hh := h.fine.here
  have hm := h.most
  obtain ⟨_, k1, _, _⟩ := h.box
  have C := Lib.hid (push_any h hB 5 m.here hf hl)
  obtain ⟨H, hH⟩ : ∃ H, m.here = H := ⟨_, rfl⟩
  rw [hH] at k1 hh
  rw [hH] at C
  have HH := Lib.hid hH
  have c1 : w.cell? ⟨p, 1, none⟩ = some (.int .i64 (H : Int)) := whole_cell k1 rfl
  have z0 : IntKind.i64.wrap ((H : Int) - 1) = (H : Int) - 1 := IntWalk.i64_in _ (by omega)
  clear h k1 hB hf hl hH
  go_enter Tryd.func66, Tryd.ntmps66
  go_wp2_with fail
  refine C.out.mono ?_
  rintro e w1 ⟨rfl, bs1, hA, hS, hT⟩
  have HD := Lib.hid (show ∃ bs', WAt w1 B p gm bs' (beginF 8 m) ∧ Stirred w w1 bs ∧ ∀ k ∈ bs', k ∈ bs ∨ w.heap.size ≤ k from ⟨bs1, by unfold beginF; rw [HH.out]; exact hA, hS, hT⟩)
  clear C hA hS hT
  go_wp2
  go_end0
  exact ⟨rfl, HD.out⟩
set_option maxHeartbeats 2000000 in
theorem begin_9 (h : WAt w B p gm bs m) (hB : B ≤ w.heap.size) (hf : Fine (beginF 9 m)) (hl : m.l.length < 1000) : Calls Tryd.prog 66 #[.pointer (some ⟨p, 0, none⟩), .int .i64 9] w (Did w B p gm bs (.tuple #[]) (beginF 9 m)) := by
  have hh := h.fine.here
  have hm := h.most
  obtain ⟨_, k1, _, _⟩ := h.box
  have HA := Lib.hid h
  obtain ⟨H, hH⟩ : ∃ H, m.here = H := ⟨_, rfl⟩
  rw [hH] at k1 hh
  have c1 : w.cell? ⟨p, 1, none⟩ = some (.int .i64 (H : Int)) := whole_cell k1 rfl
  have z0 : IntKind.i64.wrap ((H : Int) - 1) = (H : Int) - 1 := IntWalk.i64_in _ (by omega)
  clear h k1 hB hf hl hH
  go_enter Tryd.func66, Tryd.ntmps66
  go_wp2
  go_end0
  exact Did.same HA.out rfl (Below.refl _ _)
set_option maxHeartbeats 2000000 in
theorem begin_10 (h : WAt w B p gm bs m) (hB : B ≤ w.heap.size) (hf : Fine (beginF 10 m)) (hl : m.l.length < 1000) : Calls Tryd.prog 66 #[.pointer (some ⟨p, 0, none⟩), .int .i64 10] w (Did w B p gm bs (.tuple #[]) (beginF 10 m)) := by
  have hh := h.fine.here
  have hm := h.most
  obtain ⟨_, k1, _, _⟩ := h.box
  have HA := Lib.hid h
  obtain ⟨H, hH⟩ : ∃ H, m.here = H := ⟨_, rfl⟩
  rw [hH] at k1 hh
  have c1 : w.cell? ⟨p, 1, none⟩ = some (.int .i64 (H : Int)) := whole_cell k1 rfl
  have z0 : IntKind.i64.wrap ((H : Int) - 1) = (H : Int) - 1 := IntWalk.i64_in _ (by omega)
  clear h k1 hB hf hl hH
  go_enter Tryd.func66, Tryd.ntmps66
  go_wp2
  go_end0
  exact Did.same HA.out rfl (Below.refl _ _)
theorem begin_any (h : WAt w B p gm bs m) (hB : B ≤ w.heap.size) (c : Nat) (hc : c < 11) (hf : Fine (beginF c m)) (hl : m.l.length < 1000) (h1 : c = 0 ∨ c = 1 ∨ c = 6 → 1 ≤ m.here) : Calls Tryd.prog 66 #[.pointer (some ⟨p, 0, none⟩), .int .i64 (c : Int)] w (Did w B p gm bs (.tuple #[]) (beginF c m)) := by
  match c, hc with
  | 0, _ => exact begin_0 h hB hf hl (h1 (by decide))
  | 1, _ => exact begin_1 h hB hf hl (h1 (by decide))
  | 2, _ => exact begin_2 h hB hf hl
  | 3, _ => exact begin_3 h hB hf hl
  | 4, _ => exact begin_4 h hB hf hl
  | 5, _ => exact begin_5 h hB hf hl
  | 6, _ => exact begin_6 h hB hf hl (h1 (by decide))
  | 7, _ => exact begin_7 h hB hf hl
  | 8, _ => exact begin_8 h hB hf hl
  | 9, _ => exact begin_9 h hB hf hl
  | 10, _ => exact begin_10 h hB hf hl
end
end Go.Proofs.YtcpdhfigaoaohaaDoor.Wv
