
/- Lists of instructions that are lent; are they as they were? -/
import Derived.Test.YtpecingkoodmfaaGreatDoorIrSameB
import Derived.Test.YtpecingkoodmfaaGreatDoorIrRow
namespace Go.Proofs.YtpecingkoodmfaaGreatDoor.Ir
open Go.RowKit Book Book.Wide Mem
set_option linter.unusedSimpArgs false
set_option linter.unusedVariables false
theorem same_true {α : Type} [DecidableEq α] {l : List α} {f : FuncId} {args : Array Value} {w : World} (h : Calls Tryz.prog f args w fun e w' => e = .returned (.bool (decide (l = l))) ∧ ∃ q, w' = w.drewN q) : Calls Tryz.prog f args w fun e w' => e = .returned (.bool true) ∧ ∃ q, w' = w.drewN q :=
  h.mono fun e w' hh => ⟨by rw [hh.1, decide_eq_true (rfl : l = l)], hh.2⟩
set_option maxHeartbeats 4000000 in
theorem copyCodes_any (v : Value) (l : List I) (w : World) (h : ReadsI w v l) (hl : l.length ≤ 1000000) :
    Calls Tryz.prog 93 #[v] w fun e w' => ∃ c, e = .returned c ∧ OwnsK w' w.heap.size 42 5 c (l.flatMap insCells) ∧ Below w.heap.size w w' := by
  obtain ⟨i0, q1, q2, q3, q4⟩ := info_parts Tryz.irInsInfo
  have HI := Lib.hid (And.intro q1 (And.intro q2 (And.intro q3 q4)))
  have HR := Lib.hid h.toK
  have HL := Lib.hid (ins_len l)
  obtain ⟨vo, vc, rfl, _⟩ := h
  obtain ⟨n, hn⟩ : ∃ n, l.length = n := ⟨_, rfl⟩
  rw [hn] at HR HL hl ⊢
  clear q1 q2 q3 q4 hn
  go_enter Tryz.func93, Tryz.ntmps93
  go_wp2_with (refine Wide.wpList_append_reads rfl _ _ 22 rfl w.heap.size 42 5 i0 (insV (0, 0, 0, 0, 0)) 40 Tryz.underlying22 HI.out.1 HI.out.2.1 HI.out.2.2.1 HI.out.2.2.2 rfl (by decide) (.slice none 0 0) 0 [] rfl (OwnsK.nil _ _ _ _) rfl (.slice vo n vc) n (l.flatMap insCells) rfl HR.out HL.out ?c0 ?c1 ?c2 (Nat.le_refl _) ?_)
  case c0 => exact ins_one l
  case c1 => unfold maxLen; omega
  case c2 => omega
  intro v' w' hown _ hT hN
  have HF := Lib.hid (show OwnsK w' w.heap.size 42 5 v' (l.flatMap insCells) from by simpa using hown)
  have HG := Lib.hid hT
  obtain ⟨fo, fc, hv'⟩ := HF.out.slice (n := n) HL.out (by decide)
  subst hv'
  clear hown hT hN
  go_wp2
  go_ret
  exact ⟨_, rfl, HF.out, HG.out.below (B := w.heap.size) (fun _ h => by cases h) (Nat.le_refl _)⟩
/-- a list with room behind it, in which a mark stands -/
def LentC (w : World) (B g cap : Nat) (l : List I) : Prop := OwnsK w B 42 5 (.slice (some ⟨g, 0, none⟩) (l.length + 1) cap) ((l ++ [(-77, 0, 0, 0, 0)]).flatMap insCells)
theorem LentC.owns {w : World} {B g cap : Nat} {l : List I} (h : LentC w B g cap l) : OwnsK w B 42 5 (.slice (some ⟨g, 0, none⟩) l.length cap) (l.flatMap insCells) := by
  have h1 := OwnsK.shorter (m := l.length) h (by decide) (Nat.le_succ _)
  rw [List.flatMap_append, ← ins_len, List.take_left] at h1
  exact h1
theorem LentC.below {w w' : World} {B g cap : Nat} {l : List I} (h : LentC w B g cap l) (hb : Below w.heap.size w w') : LentC w' B g cap l := OwnsK.below h hb
set_option maxHeartbeats 4000000 in
theorem lentCodes_any (v : Value) (l : List I) (w : World) (h : ReadsI w v l) (hl : l.length ≤ 1000) :
    Calls Tryz.prog 38 #[v] w fun e w' => ∃ g cap, e = .returned (.slice (some ⟨g, 0, none⟩) l.length cap) ∧ LentC w' w.heap.size g cap l ∧ l.length + 1 ≤ cap ∧ Below w.heap.size w w' := by
  obtain ⟨i0, q1, q2, q3, q4⟩ := info_parts Tryz.irInsInfo
  have HI := Lib.hid (And.intro q1 (And.intro q2 (And.intro q3 q4)))
  have C := Lib.hid (copyCodes_any v l w h (by omega))
  have HL := Lib.hid (ins_len l)
  obtain ⟨vo, vc, rfl, _⟩ := h
  obtain ⟨n, hn⟩ : ∃ n, l.length = n := ⟨_, rfl⟩
  have HN := Lib.hid hn
  rw [hn] at C hl HL ⊢
  clear q1 q2 q3 q4 hn
  go_enter Tryz.func38, Tryz.ntmps38
  go_wp2_with fail
  refine C.out.mono ?_
  rintro e w1 ⟨c, rfl, hO, hB⟩
  obtain ⟨co, cc, hcv⟩ := hO.slice (n := n) HL.out (by decide)
  subst hcv
  have hal := (Below.refl w1.heap.size w1).alloc (Nat.le_refl _) (.cells (insA (-77, 0, 0, 0, 0)) 42)
  have hAN := heap_alloc_new w1 (.cells (insA (-77, 0, 0, 0, 0)) 42)
  have HO := Lib.hid (hO.below hal)
  have HRD := Lib.hid (show ReadsK (w1.alloc (.cells (insA (-77, 0, 0, 0, 0)) 42)) 5 (.slice (some ⟨w1.heap.size, 0, none⟩) 1 1) (insCells (-77, 0, 0, 0, 0)) from ReadsK.of_whole (T := 42) hAN rfl)
  have HB := Lib.hid hB
  have HBA := Lib.hid (hB.trans (hal.mono hB.size))
  clear hO hB C hal hAN
  go_wp2_with (refine Wide.wpList_append_reads rfl _ _ 22 rfl w.heap.size 42 5 i0 (insV (0, 0, 0, 0, 0)) 40 Tryz.underlying22 HI.out.1 HI.out.2.1 HI.out.2.2.1 HI.out.2.2.2 rfl (by decide) (.slice co n cc) n (l.flatMap insCells) rfl HO.out HL.out (.slice (some ⟨w1.heap.size, 0, none⟩) 1 1) 1 (insCells (-77, 0, 0, 0, 0)) rfl HRD.out rfl ?c0 ?c1 ?c2 HBA.out.size ?_)
  case c0 => exact fun u hu => ins_one [(-77, 0, 0, 0, 0)] u (by simpa using hu)
  case c1 => unfold maxLen; omega
  case c2 => omega
  intro v' w2 hO2 _ hS _
  obtain ⟨g, cap, hv', -, -, hcap⟩ := hO2.row (n := n + 1) (by rw [List.length_append, HL.out, Nat.add_mul]; rfl) (by decide) (Nat.succ_pos _)
  subst hv'
  have hLS : LentC w2 w.heap.size g cap l := by
    unfold LentC
    rw [HN.out, List.flatMap_append]
    simpa using hO2
  have HLS := Lib.hid hLS
  have HBF := Lib.hid (HBA.out.trans (hS.below (B := w.heap.size) (fun k hk => (HO.out.block k (by simpa using hk)).1) HBA.out.size))
  have hc1 : (n : Int) ≤ (cap : Int) := by omega
  have HC := Lib.hid hcap
  clear hO2 hS hLS hcap
  go_wp2
  go_ret
  exact ⟨g, cap, rfl, HLS.out, HC.out, HBF.out⟩
set_option maxHeartbeats 2000000 in
theorem staysCodes_any (B g cap : Nat) (vb : Value) (l : List I) (w : World) (h : LentC w B g cap l) (hb : ReadsI w vb l) (hl : l.length ≤ 1000) (hcap : l.length + 1 ≤ cap) :
    Calls Tryz.prog 58 #[.slice (some ⟨g, 0, none⟩) l.length cap, vb] w fun e w' => e = .returned (.bool true) ∧ ∃ q, w' = w.drewN q := by
  have C := Lib.hid (same_true (sameCodes_any (ReadsI.of_owns h.owns) hb (by omega)))
  obtain ⟨g', cap', e, hc, -, -⟩ := OwnsK.row h (n := l.length + 1) (by rw [ins_len, List.length_append]; rfl) (by decide) (Nat.succ_pos _)
  simp only [Value.slice.injEq, Option.some.injEq, Addr.mk.injEq, and_true, true_and] at e
  obtain ⟨rfl, rfl⟩ := e
  have k1 := hc (l.length * 5 + 0) (.int .i64 (-77)) (flat_at (enc := insCells) (k := 5) (fun _ => rfl) (j := l.length) (a := (-77, 0, 0, 0, 0)) (by simp) (i := 0) rfl)
  obtain ⟨vo, vc, rfl, _⟩ := hb
  obtain ⟨n, hn⟩ : ∃ n, l.length = n := ⟨_, rfl⟩
  rw [hn] at C hl hcap k1 ⊢
  have K1 := Lib.hid k1
  have hc1 : (n : Int) + 1 ≤ (cap : Int) := by omega
  have hn0 : (0 : Int) ≤ (n : Int) := by omega
  clear hn h k1 hc
  go_enter Tryz.func58, Tryz.ntmps58
  go_wp2_with fail
  refine C.out.mono ?_
  rintro e w1 ⟨rfl, q, rfl⟩
  clear C
  have k1 : (w.drewN q).cell? ⟨g, n * 5, none⟩ = some (.int .i64 (-77)) := K1.out
  go_wp2
  go_ret
  exact ⟨rfl, q, rfl⟩
end Go.Proofs.YtpecingkoodmfaaGreatDoor.Ir
