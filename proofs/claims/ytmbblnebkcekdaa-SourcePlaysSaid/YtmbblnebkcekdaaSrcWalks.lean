
/- Package source (a text that is read byte by byte; up to a byte that a function tells): what its calls answer and do. -/
import Derived.Test.YtmbblnebkcekdaaSrcRef
import Derived.Test.YtmbblnebkcekdaaBookPlain
import Derived.Deep.QuietTactic
import Derived.BigQuiet
import Derived.Deep.Draws
namespace Go.Proofs.Ytmbblnebkcekdaa.Src
open Go.RowKit Book
set_option linter.unusedSimpArgs false
set_option linter.unusedVariables false
/-- a source: its text, and how far it is read -/
structure At (w : World) (p : Nat) (t : ByteArray) (a : Nat) : Prop where
  own : w.heap[p]? = some (.cells #[.string t, .int .i64 (a : Int)] 41 (0, 0))
  le : a ≤ t.size
theorem At.touch {w w' : World} {p : Nat} {t : ByteArray} {a : Nat} {bs : List Nat} (h : At w p t a) (hs : Stirred w w' bs) (hn : p ∉ bs) : At w' p t a := ⟨hs.whole h.own hn, h.le⟩
theorem At.below {w w' : World} {p : Nat} {t : ByteArray} {a : Nat} (h : At w p t a) (hb : Below w.heap.size w w') : At w' p t a := h.touch (Stirred.of_below hb []) List.not_mem_nil
theorem At.lt {w : World} {p : Nat} {t : ByteArray} {a : Nat} (h : At w p t a) : p < w.heap.size := whole_lt h.own
theorem At.put {w : World} {p : Nat} {t : ByteArray} {a b : Nat} (h : At w p t a) (hb : b ≤ t.size) : At (w.setCell ⟨p, 1, none⟩ (.int .i64 (b : Int))) p t b :=
  ⟨by rw [whole_set h.own 1 (.int .i64 (b : Int))]; rfl, hb⟩
/-- what a call does to it: it answers v, and it is read so far -/
def Did (w : World) (p : Nat) (t : ByteArray) (v : Value) (b : Nat) (e : Ending) (w' : World) : Prop := e = .returned v ∧ At w' p t b ∧ Stirred w w' [p]
theorem new_any (t : ByteArray) (w : World) : Calls Try.prog 8 #[.string t] w fun e w' => ∃ p, e = .returned (.pointer (some ⟨p, 0, none⟩)) ∧ At w' p t 0 ∧ w.heap.size ≤ p ∧ Below w.heap.size w w' := by
  have hb := (Below.refl w.heap.size w).alloc (Nat.le_refl _) (.cells #[.string t, .int .i64 0] 41)
  have hnew := heap_alloc_new w (.cells #[.string t, .int .i64 0] 41)
  have HR := Lib.hid (And.intro hb hnew)
  clear hb hnew
  go_enter Try.func8, Try.ntmps8
  go_wp2
  go_ret
  exact ⟨_, rfl, ⟨HR.out.2, Nat.zero_le _⟩, Nat.le_refl _, HR.out.1⟩
theorem at_any {w : World} {p : Nat} {t : ByteArray} {a : Nat} (h : At w p t a) : Calls Try.prog 13 #[.pointer (some ⟨p, 0, none⟩)] w fun e w' => e = .returned (.int .i64 (a : Int)) ∧ w' = w := by
  have c1 : w.cell? ⟨p, 1, none⟩ = some (.int .i64 (a : Int)) := whole_cell h.own rfl
  clear h
  go_enter Try.func13, Try.ntmps13
  go_wp2
  go_ret
  exact ⟨rfl, rfl⟩
theorem at_nil (w : World) : Calls Try.prog 13 #[.pointer none] w fun e w' => e = .returned (.int .i64 0) ∧ w' = w := by
  go_enter Try.func13, Try.ntmps13
  go_wp2
  go_ret
  exact ⟨rfl, rfl⟩
theorem left_any {w : World} {p : Nat} {t : ByteArray} {a : Nat} (h : At w p t a) : Calls Try.prog 14 #[.pointer (some ⟨p, 0, none⟩)] w fun e w' => e = .returned (.string (t.extract a t.size)) ∧ ∃ q, w' = w.drewN q := by
  have c0 : w.cell? ⟨p, 0, none⟩ = some (.string t) := whole_cell h.own rfl
  have c1 : w.cell? ⟨p, 1, none⟩ = some (.int .i64 (a : Int)) := whole_cell h.own rfl
  have hle := h.le
  have e0 : (0 : Int) ≤ (a : Int) := by omega
  have e1 : (a : Int) ≤ (t.size : Int) := by omega
  clear h
  go_enter Try.func14, Try.ntmps14
  go_wp2
  go_quiet (fail)
  go_wp2
  go_ret
  exact ⟨rfl, _, rfl⟩
theorem left_nil (w : World) : Calls Try.prog 14 #[.pointer none] w fun e w' => e = .returned (.string ⟨#[]⟩) ∧ w' = w := by
  go_enter Try.func14, Try.ntmps14
  go_wp2
  go_ret
  exact ⟨rfl, rfl⟩
theorem drewN_at {w : World} {p : Nat} {t : ByteArray} {a : Nat} (h : At w p t a) : ∀ q, At (w.drewN q) p t a := fun q => h.below (by
  induction q with
  | zero => exact Below.refl _ _
  | succ n ih => rw [← World.drew_drewN]; exact ih.drew)
theorem drewN_stirred (w : World) (bs : List Nat) : ∀ q, Stirred w (w.drewN q) bs := fun q => Stirred.of_below (by
  induction q with
  | zero => exact Below.refl _ _
  | succ n ih => rw [← World.drew_drewN]; exact ih.drew) bs
theorem blank_any (c : UInt8) (w : World) : Calls Try.prog 16 #[.int .u8 (c.toNat : Int)] w fun e w' => e = .returned (.bool (isBlank c)) ∧ w' = w := by
  by_cases h1 : (c.toNat : Int) = 32
  · rw [blank_int, h1]
    go_enter Try.func16, Try.ntmps16
    go_wp2
    go_ret
    exact ⟨rfl, rfl⟩
  have g1 : ((c.toNat : Int) == 32) = false := by simpa using h1
  by_cases h3 : (c.toNat : Int) < 32
  · rw [blank_int, decide_eq_true (by omega)]
    clear h1
    go_enter Try.func16, Try.ntmps16
    go_wp2
    go_ret
    exact ⟨rfl, rfl⟩
  · rw [blank_int, decide_eq_false (by omega)]
    clear h1
    go_enter Try.func16, Try.ntmps16
    go_wp2
    go_ret
    exact ⟨rfl, rfl⟩
/-- the closure of Until: is it the byte that was captured? -/
theorem same_any (c x : UInt8) (w : World) (B : Nat) (hB : w.heap[B]? = some (.cells #[.int .u8 (c.toNat : Int)] 5 (0, 0))) : Calls Try.prog 18 #[.int .u8 (x.toNat : Int), .pointer (some ⟨B, 0, none⟩)] w fun e w' => e = .returned (.bool (x == c)) ∧ w' = w := by
  have c0 : w.cell? ⟨B, 0, none⟩ = some (.int .u8 (c.toNat : Int)) := whole_cell hB rfl
  clear hB
  by_cases hb : x = c
  · subst hb
    rw [show (x == x) = true from beq_self_eq_true x]
    go_enter Try.func18, Try.ntmps18
    go_wp2
    go_ret
    exact ⟨rfl, rfl⟩
  · have hbi : ((x.toNat : Int) == (c.toNat : Int)) = false := by
      rw [beq_eq_false_iff_ne]; intro e; exact hb (UInt8.toNat_inj.1 (by omega))
    rw [show (x == c) = false from beq_eq_false_iff_ne.2 hb]
    clear hb
    go_enter Try.func18, Try.ntmps18
    go_wp2
    go_ret
    exact ⟨rfl, rfl⟩
theorem has_any {w : World} {p : Nat} {t : ByteArray} {a : Nat} (h : At w p t a) : Calls Try.prog 15 #[.pointer (some ⟨p, 0, none⟩)] w fun e w' => e = .returned (.bool (decide (a < t.size))) ∧ ∃ q, w' = w.drewN q := by
  have c0 : w.cell? ⟨p, 0, none⟩ = some (.string t) := whole_cell h.own rfl
  have c1 : w.cell? ⟨p, 1, none⟩ = some (.int .i64 (a : Int)) := whole_cell h.own rfl
  clear h
  by_cases hlt : a < t.size
  · rw [decide_eq_true hlt]
    have e1 : (a : Int) < (t.size : Int) := by omega
    clear hlt
    go_enter Try.func15, Try.ntmps15
    go_wp2
    go_quiet (fail)
    go_wp2
    go_ret
    exact ⟨rfl, _, rfl⟩
  · rw [decide_eq_false hlt]
    have e1 : ¬ (a : Int) < (t.size : Int) := by omega
    have e2 : decide (a < t.size) = false := decide_eq_false hlt
    clear hlt
    go_enter Try.func15, Try.ntmps15
    go_wp2
    go_quiet (fail)
    go_wp2
    go_ret
    exact ⟨rfl, _, rfl⟩
theorem has_nil (w : World) : Calls Try.prog 15 #[.pointer none] w fun e w' => e = .returned (.bool false) ∧ ∃ q, w' = w.drewN q := by
  go_enter Try.func15, Try.ntmps15
  go_wp2
  go_quiet (fail)
  go_wp2
  go_ret
  exact ⟨rfl, _, rfl⟩
set_option maxHeartbeats 4000000 in
set_option maxRecDepth 100000 in
theorem upTo_blank {w : World} {p : Nat} {t : ByteArray} {a : Nat} (h : At w p t a) (ht : t.size ≤ 1000000) : Calls Try.prog 17 #[.pointer (some ⟨p, 0, none⟩), .func (.func 16) #[] #[]] w (Did w p t (.tuple #[.string (t.extract a (firstFrom t isBlank a)), .bool (decide (firstFrom t isBlank a < t.size))]) (min (firstFrom t isBlank a + 1) t.size)) := by
  have HA := Lib.hid h
  have hle := h.le
  have CL := Lib.hid (left_any h)
  have HS := Lib.hid (show (t.extract a t.size).size = t.size - a ∧ (∀ n (hn : n < (t.extract a t.size).size) (hk : a + n < t.size), (t.extract a t.size)[n] = t[a + n]) ∧ (∀ n, n ≤ t.size - a → (t.extract a t.size).extract 0 n = t.extract a (a + n)) from by
    have hsz : (t.extract a t.size).size = t.size - a := by rw [ByteArray.size_extract]; omega
    refine ⟨hsz, fun n hn hk => by rw [ByteArray.getElem_extract], fun n hn => ?_⟩
    rw [ByteArray.extract_extract]
    congr 1
    omega)
  obtain ⟨s, hs⟩ : ∃ s, t.extract a t.size = s := ⟨_, rfl⟩
  have HE := Lib.hid hs
  rw [hs] at HS CL
  have hsz : s.size + a = t.size := by have := HS.out.1; omega
  clear h hs
  go_enter Try.func17, Try.ntmps17
  go_wp2_with fail
  refine CL.out.mono ?_
  rintro e w1 ⟨rfl, q1, hq1⟩
  have HA1 := Lib.hid (show At w1 p t a by rw [hq1]; exact drewN_at HA.out q1)
  have HS1 := Lib.hid (show Stirred w w1 [p] by rw [hq1]; exact drewN_stirred w [p] q1)
  clear hq1 q1 CL
  go_wp2
  go_loopg [7] (t.size - a) (fun g i wr => ∃ n k : Nat, g = t.size - k ∧ k = a + n ∧ k ≤ t.size ∧ i = .int .i64 n ∧ Hid (At wr p t k ∧ Stirred w wr [p] ∧ firstFrom t isBlank a = firstFrom t isBlank k))
  case atStart => exact ⟨0, a, rfl, rfl, hle, rfl, HA1.out, HS1.out, rfl⟩
  case round =>
    obtain ⟨n, k, rfl, hkn, hk, rfl, HR⟩ := hrel
    have CH := Lib.hid (has_any HR.out.1)
    by_cases hlt : k < t.size
    · rw [decide_eq_true hlt] at CH
      have e0 : (n : Int) < (s.size : Int) := by omega
      have e00 : (0 : Int) ≤ (n : Int) := by omega
      have hns : n < s.size := by omega
      have HBY := Lib.hid (show s[n] = t[k] from by
        have h1 := HS.out.2.1 n hns (by omega)
        rw [h1]
        congr 1
        exact hkn.symm)
      have e1 : (k : Int) + 1 ≤ 1000000 := by omega
      have e2 : (0 : Int) ≤ (k : Int) := by omega
      have e3 : (n : Int) + 1 ≤ 1000000 := by omega
      have HKN0 := Lib.hid hkn
      clear hkn hsz
      go_wp2_with fail
      refine CH.out.mono ?_
      rintro e w2 ⟨rfl, q2, hq2⟩
      have hkn := HKN0.out
      have HA2 := Lib.hid (show At w2 p t k by rw [hq2]; exact drewN_at HR.out.1 q2)
      have HS2 := Lib.hid (show Stirred w w2 [p] by rw [hq2]; exact HR.out.2.1.trans (drewN_stirred wr [p] q2) (fun k hk => .inl hk))
      clear hq2 q2 CH
      have c1 : w2.cell? ⟨p, 1, none⟩ = some (.int .i64 (k : Int)) := whole_cell HA2.out.own rfl
      have f1 := whole_frozen HA2.out.own 1
      have HA3 := Lib.hid (HA2.out.put (b := k + 1) (by omega))
      have HS3 := Lib.hid (HS2.out.trans (Stirred.setCell w2 ⟨p, 1, none⟩ (.int .i64 ((k + 1 : Nat) : Int))) (fun k hk => .inl hk))
      obtain ⟨w3, hw3⟩ : ∃ w3, w2.setCell ⟨p, 1, none⟩ (.int .i64 ((k : Int) + 1)) = w3 := ⟨_, rfl⟩
      rw [show ((k + 1 : Nat) : Int) = (k : Int) + 1 by omega, hw3] at HA3 HS3
      obtain ⟨c, hc⟩ : ∃ c, s[n] = c := ⟨_, rfl⟩
      have C := Lib.hid (blank_any c w3)
      cases hb : isBlank c with
      | true =>
        rw [hb] at C
        have HFR := Lib.hid (show firstFrom t isBlank a = k by
          rw [HR.out.2.2]
          exact ff_hit hlt (by rw [← HBY.out, hc]; exact hb))
        have HEX := Lib.hid (HS.out.2.2 n (by have := HKN0.out; omega))
        have e4 : (n : Int) ≤ (s.size : Int) := by omega
        have HLT := Lib.hid hlt
        have HKN := Lib.hid hkn
        clear hb hlt hkn HBY
        go_wp2_with (go_at_call 16; refine C.out.mono ?_; rintro e wz ⟨rfl, hwz⟩; subst wz)
        go_ret2
        refine ⟨?_, ?_, HS3.out⟩
        · rw [HFR.out, decide_eq_true HLT.out, HKN.out, ← HEX.out]
          try rfl
        · rw [HFR.out, show min (k + 1) t.size = k + 1 by have := HLT.out; omega]
          exact HA3.out
      | false =>
        rw [hb] at C
        have HF1 := Lib.hid (show firstFrom t isBlank a = firstFrom t isBlank (k + 1) by
          rw [HR.out.2.2]
          exact ff_step hlt (by rw [← HBY.out, hc]; exact hb))
        have HKN := Lib.hid hkn
        have HLT := Lib.hid hlt
        clear hb hkn HBY hlt
        go_wp2_with (go_at_call 16; refine C.out.mono ?_; rintro e wz ⟨rfl, hwz⟩; subst wz)
        go_roundg (t.size - (k + 1))
        case measure => have := HLT.out; omega
        case rel => exact ⟨n + 1, k + 1, rfl, by have := HKN.out; omega, by have := HLT.out; omega, by go_num, HA3.out, HS3.out, HF1.out⟩
    · rw [decide_eq_false hlt] at CH
      obtain rfl : k = t.size := by omega
      have HFR := Lib.hid (show firstFrom t isBlank a = t.size by
        rw [HR.out.2.2]
        exact ff_end (Nat.le_refl _))
      have HLT := Lib.hid hlt
      clear hlt
      go_wp2_with fail
      refine CH.out.mono ?_
      rintro e w2 ⟨rfl, q2, hq2⟩
      have HA2 := Lib.hid (show At w2 p t t.size by rw [hq2]; exact drewN_at HR.out.1 q2)
      have HS2 := Lib.hid (show Stirred w w2 [p] by rw [hq2]; exact HR.out.2.1.trans (drewN_stirred wr [p] q2) (fun k hk => .inl hk))
      clear hq2 q2 CH
      go_wp2
      go_ret2
      refine ⟨?_, ?_, HS2.out⟩
      · rw [HFR.out, decide_eq_false HLT.out, HE.out]
        try rfl
      · rw [HFR.out, show min (t.size + 1) t.size = t.size by omega]
        exact HA2.out
set_option maxHeartbeats 4000000 in
set_option maxRecDepth 100000 in
theorem upTo_same {w : World} {p : Nat} {t : ByteArray} {a : Nat} (c0 : UInt8) {B : Nat} (hB : w.heap[B]? = some (.cells #[.int .u8 (c0.toNat : Int)] 5 (0, 0))) (hBp : B ≠ p) (h : At w p t a) (ht : t.size ≤ 1000000) : Calls Try.prog 17 #[.pointer (some ⟨p, 0, none⟩), .func (.func 18) #[] #[.pointer (some ⟨B, 0, none⟩)]] w (Did w p t (.tuple #[.string (t.extract a (firstFrom t (fun x => x == c0) a)), .bool (decide (firstFrom t (fun x => x == c0) a < t.size))]) (min (firstFrom t (fun x => x == c0) a + 1) t.size)) := by
  have HA := Lib.hid h
  have hle := h.le
  have CL := Lib.hid (left_any h)
  have HS := Lib.hid (show (t.extract a t.size).size = t.size - a ∧ (∀ n (hn : n < (t.extract a t.size).size) (hk : a + n < t.size), (t.extract a t.size)[n] = t[a + n]) ∧ (∀ n, n ≤ t.size - a → (t.extract a t.size).extract 0 n = t.extract a (a + n)) from by
    have hsz : (t.extract a t.size).size = t.size - a := by rw [ByteArray.size_extract]; omega
    refine ⟨hsz, fun n hn hk => by rw [ByteArray.getElem_extract], fun n hn => ?_⟩
    rw [ByteArray.extract_extract]
    congr 1
    omega)
  obtain ⟨s, hs⟩ : ∃ s, t.extract a t.size = s := ⟨_, rfl⟩
  have HE := Lib.hid hs
  rw [hs] at HS CL
  have hsz : s.size + a = t.size := by have := HS.out.1; omega
  clear h hs
  go_enter Try.func17, Try.ntmps17
  go_wp2_with fail
  refine CL.out.mono ?_
  rintro e w1 ⟨rfl, q1, hq1⟩
  have HA1 := Lib.hid (show At w1 p t a by rw [hq1]; exact drewN_at HA.out q1)
  have HS1 := Lib.hid (show Stirred w w1 [p] by rw [hq1]; exact drewN_stirred w [p] q1)
  clear hq1 q1 CL
  go_wp2
  go_loopg [7] (t.size - a) (fun g i wr => ∃ n k : Nat, g = t.size - k ∧ k = a + n ∧ k ≤ t.size ∧ i = .int .i64 n ∧ Hid (At wr p t k ∧ Stirred w wr [p] ∧ firstFrom t (fun x => x == c0) a = firstFrom t (fun x => x == c0) k))
  case atStart => exact ⟨0, a, rfl, rfl, hle, rfl, HA1.out, HS1.out, rfl⟩
  case round =>
    obtain ⟨n, k, rfl, hkn, hk, rfl, HR⟩ := hrel
    have CH := Lib.hid (has_any HR.out.1)
    by_cases hlt : k < t.size
    · rw [decide_eq_true hlt] at CH
      have e0 : (n : Int) < (s.size : Int) := by omega
      have e00 : (0 : Int) ≤ (n : Int) := by omega
      have hns : n < s.size := by omega
      have HBY := Lib.hid (show s[n] = t[k] from by
        have h1 := HS.out.2.1 n hns (by omega)
        rw [h1]
        congr 1
        exact hkn.symm)
      have e1 : (k : Int) + 1 ≤ 1000000 := by omega
      have e2 : (0 : Int) ≤ (k : Int) := by omega
      have e3 : (n : Int) + 1 ≤ 1000000 := by omega
      have HKN0 := Lib.hid hkn
      clear hkn hsz
      go_wp2_with fail
      refine CH.out.mono ?_
      rintro e w2 ⟨rfl, q2, hq2⟩
      have hkn := HKN0.out
      have HA2 := Lib.hid (show At w2 p t k by rw [hq2]; exact drewN_at HR.out.1 q2)
      have HS2 := Lib.hid (show Stirred w w2 [p] by rw [hq2]; exact HR.out.2.1.trans (drewN_stirred wr [p] q2) (fun k hk => .inl hk))
      clear hq2 q2 CH
      have c1 : w2.cell? ⟨p, 1, none⟩ = some (.int .i64 (k : Int)) := whole_cell HA2.out.own rfl
      have f1 := whole_frozen HA2.out.own 1
      have HA3 := Lib.hid (HA2.out.put (b := k + 1) (by omega))
      have HS3 := Lib.hid (HS2.out.trans (Stirred.setCell w2 ⟨p, 1, none⟩ (.int .i64 ((k + 1 : Nat) : Int))) (fun k hk => .inl hk))
      obtain ⟨w3, hw3⟩ : ∃ w3, w2.setCell ⟨p, 1, none⟩ (.int .i64 ((k : Int) + 1)) = w3 := ⟨_, rfl⟩
      rw [show ((k + 1 : Nat) : Int) = (k : Int) + 1 by omega, hw3] at HA3 HS3
      obtain ⟨c, hc⟩ : ∃ c, s[n] = c := ⟨_, rfl⟩
      have C := Lib.hid (same_any c0 c w3 B (HS3.out.whole hB (by simpa using hBp)))
      cases hb : c == c0 with
      | true =>
        rw [hb] at C
        have HFR := Lib.hid (show firstFrom t (fun x => x == c0) a = k by
          rw [HR.out.2.2]
          exact ff_hit hlt (by rw [← HBY.out, hc]; exact hb))
        have HEX := Lib.hid (HS.out.2.2 n (by have := HKN0.out; omega))
        have e4 : (n : Int) ≤ (s.size : Int) := by omega
        have HLT := Lib.hid hlt
        have HKN := Lib.hid hkn
        clear hb hlt hkn HBY
        go_wp2_with (go_at_call 18; refine C.out.mono ?_; rintro e wz ⟨rfl, hwz⟩; subst wz)
        go_ret2
        refine ⟨?_, ?_, HS3.out⟩
        · rw [HFR.out, decide_eq_true HLT.out, HKN.out, ← HEX.out]
          try rfl
        · rw [HFR.out, show min (k + 1) t.size = k + 1 by have := HLT.out; omega]
          exact HA3.out
      | false =>
        rw [hb] at C
        have HF1 := Lib.hid (show firstFrom t (fun x => x == c0) a = firstFrom t (fun x => x == c0) (k + 1) by
          rw [HR.out.2.2]
          exact ff_step hlt (by rw [← HBY.out, hc]; exact hb))
        have HKN := Lib.hid hkn
        have HLT := Lib.hid hlt
        clear hb hkn HBY hlt
        go_wp2_with (go_at_call 18; refine C.out.mono ?_; rintro e wz ⟨rfl, hwz⟩; subst wz)
        go_roundg (t.size - (k + 1))
        case measure => have := HLT.out; omega
        case rel => exact ⟨n + 1, k + 1, rfl, by have := HKN.out; omega, by have := HLT.out; omega, by go_num, HA3.out, HS3.out, HF1.out⟩
    · rw [decide_eq_false hlt] at CH
      obtain rfl : k = t.size := by omega
      have HFR := Lib.hid (show firstFrom t (fun x => x == c0) a = t.size by
        rw [HR.out.2.2]
        exact ff_end (Nat.le_refl _))
      have HLT := Lib.hid hlt
      clear hlt
      go_wp2_with fail
      refine CH.out.mono ?_
      rintro e w2 ⟨rfl, q2, hq2⟩
      have HA2 := Lib.hid (show At w2 p t t.size by rw [hq2]; exact drewN_at HR.out.1 q2)
      have HS2 := Lib.hid (show Stirred w w2 [p] by rw [hq2]; exact HR.out.2.1.trans (drewN_stirred wr [p] q2) (fun k hk => .inl hk))
      clear hq2 q2 CH
      go_wp2
      go_ret2
      refine ⟨?_, ?_, HS2.out⟩
      · rw [HFR.out, decide_eq_false HLT.out, HE.out]
        try rfl
      · rw [HFR.out, show min (t.size + 1) t.size = t.size by omega]
        exact HA2.out
theorem upTo_nil (f : Value) (w : World) : Calls Try.prog 17 #[.pointer none, f] w fun e w' => e = .returned (.tuple #[.string ⟨#[]⟩, .bool false]) ∧ ∃ q, w' = w.drewN q := by
  have CL := Lib.hid (left_nil w)
  have CH := Lib.hid (has_nil w)
  go_enter Try.func17, Try.ntmps17
  go_wp2_with fail
  refine CL.out.mono ?_
  rintro e w1 ⟨rfl, hw1⟩
  subst w1
  go_wp2
  refine wp_loop_rounds 1 ?_
  rw [rounds_succ]
  go_wp2_with fail
  refine CH.out.mono ?_
  rintro e w2 ⟨rfl, q, hq⟩
  go_wp2
  go_ret2
  exact ⟨rfl, _, rfl⟩
theorem below_drewN (b : Nat) (w : World) : ∀ q, Below b w (w.drewN q)
  | 0 => Below.refl _ _
  | n + 1 => by rw [← World.drew_drewN]; exact (below_drewN b w n).drew
theorem has_quiet {w : World} {p : Nat} {t : ByteArray} {a : Nat} (h : At w p t a) (n : Nat) : Calls Try.prog 15 #[.pointer (some ⟨p, 0, none⟩)] (w.drewN n) fun e w' => e = .returned (.bool (decide (a < t.size))) ∧ ∃ q, w' = w.drewN q :=
  (has_any (drewN_at h n)).mono fun e w' ⟨he, q, hq⟩ => ⟨he, n + q, by rw [hq, World.drewN_drewN]⟩
theorem has_nil_quiet (w : World) (n : Nat) : Calls Try.prog 15 #[.pointer none] (w.drewN n) fun e w' => e = .returned (.bool false) ∧ ∃ q, w' = w.drewN q :=
  (has_nil (w.drewN n)).mono fun e w' ⟨he, q, hq⟩ => ⟨he, n + q, by rw [hq, World.drewN_drewN]⟩
theorem word_nil (w : World) : Calls Try.prog 9 #[.pointer none] w fun e w' => e = .returned (.tuple #[.string ⟨#[]⟩, .bool false]) ∧ ∃ q, w' = w.drewN q := by
  have CH := Lib.hid (has_nil_quiet w)
  have CU := Lib.hid (fun w => upTo_nil (.func (.func 16) #[] #[]) w)
  go_enter Try.func9, Try.ntmps9
  go_wp2
  refine wp_loop_rounds 1 ?_
  rw [rounds_succ]
  go_wp2
  go_quiet ((go_at_call 15; exact CH.out _))
  rename_i nq
  have CU2 := Lib.hid (CU.out (w.drewN nq))
  go_wp2_with fail
  refine CU2.out.mono ?_
  rintro e w3 ⟨rfl, q3, hq3⟩
  rw [World.drewN_drewN] at hq3
  clear CU CU2
  go_wp2
  go_ret2
  exact ⟨rfl, _, rfl⟩
theorem until_nil (c : Int) (w : World) : Calls Try.prog 11 #[.pointer none, .int .u8 c] w fun e w' => e = .returned (.tuple #[.string ⟨#[]⟩, .bool false]) ∧ Below w.heap.size w w' := by
  have CU := Lib.hid (fun f w => upTo_nil f w)
  have hmf : ∀ (fn : Fn) (first cap : Array Value) (w : World), (Instr.makeFunc fn first cap).run Try.prog w = .ok (.func fn first cap) w := fun _ _ _ _ => rfl
  go_enter Try.func11, Try.ntmps11
  go_wp2_with fail
  refine (CU.out _ _).mono ?_
  rintro e w3 ⟨rfl, q3, hq3⟩
  have HB := Lib.hid (show Below w.heap.size w w3 by rw [hq3]; exact ((Below.refl _ _).alloc (Nat.le_refl _) _).trans (below_drewN _ _ _))
  clear hq3 CU
  go_wp2
  go_ret2
  exact ⟨rfl, HB.out⟩
set_option maxHeartbeats 4000000 in
set_option maxRecDepth 100000 in
theorem word_any {w : World} {p : Nat} {t : ByteArray} {a : Nat} (h : At w p t a) (ht : t.size ≤ 1000000) : Calls Try.prog 9 #[.pointer (some ⟨p, 0, none⟩)] w (Did w p t (.tuple #[.string (wS t a), .bool (wB t a)]) (wAt t a)) := by
  have HA := Lib.hid h
  have hle := h.le
  clear h
  go_enter Try.func9, Try.ntmps9
  go_wp2
  go_loopg [] (t.size - a) (fun g wr => ∃ k : Nat, g = t.size - k ∧ k ≤ t.size ∧ Hid (At wr p t k ∧ Stirred w wr [p] ∧ firstFrom t noBlank a = firstFrom t noBlank k))
  case atStart => exact ⟨a, rfl, hle, HA.out, Stirred.refl _ _, rfl⟩
  case round =>
    obtain ⟨k, rfl, hk, HR⟩ := hrel
    have CH := Lib.hid (has_quiet HR.out.1)
    have e0 : (0 : Int) ≤ (k : Int) := by omega
    have hround : (∃ hlt : k < t.size, isBlank t[k] = true) ∨ wFrom t a = k := by
      by_cases hlt : k < t.size
      · cases hb : isBlank t[k] with
        | true => exact .inl ⟨hlt, hb⟩
        | false => exact .inr (by unfold wFrom; rw [HR.out.2.2]; exact ff_hit hlt (by unfold noBlank; rw [hb]; rfl))
      · exact .inr (by unfold wFrom; rw [HR.out.2.2]; exact ff_end (by omega))
    have c0 : wr.cell? ⟨p, 0, none⟩ = some (.string t) := whole_cell HR.out.1.own rfl
    have c1 : wr.cell? ⟨p, 1, none⟩ = some (.int .i64 (k : Int)) := whole_cell HR.out.1.own rfl
    have f1 := whole_frozen HR.out.1.own 1
    rcases hround with ⟨hlt, hb⟩ | hfr
    · rw [decide_eq_true hlt] at CH
      have e1 : (k : Int) < (t.size : Int) := by omega
      have e2 : (k : Int) + 1 ≤ 1000000 := by omega
      have HF1 := Lib.hid (show firstFrom t noBlank a = firstFrom t noBlank (k + 1) from by rw [HR.out.2.2]; exact ff_step hlt (by unfold noBlank; rw [hb]; rfl))
      obtain ⟨c, hc⟩ : ∃ c, t[k] = c := ⟨_, rfl⟩
      have C := Lib.hid (fun n => blank_any c (wr.drewN n))
      rw [← hc, hb, hc] at C
      have HLT := Lib.hid hlt
      clear hb
      go_wp2
      go_quiet (first | (go_at_call 15; exact CH.out _) | (go_at_call 16; exact Calls.quiet_of_same (C.out _)))
      rename_i nq
      have HA2 := Lib.hid (drewN_at HR.out.1 nq)
      have HS2 := Lib.hid (HR.out.2.1.trans (drewN_stirred wr [p] nq) (fun k hk => .inl hk))
      obtain ⟨w2, hw2⟩ : ∃ w2, wr.drewN nq = w2 := ⟨_, rfl⟩
      rw [hw2] at HA2 HS2 ⊢
      have d1 : w2.cell? ⟨p, 1, none⟩ = some (.int .i64 (k : Int)) := whole_cell HA2.out.own rfl
      have g1 := whole_frozen HA2.out.own 1
      have HA3 := Lib.hid (HA2.out.put (b := k + 1) (by have := HLT.out; omega))
      have HS3 := Lib.hid (HS2.out.trans (Stirred.setCell w2 ⟨p, 1, none⟩ (.int .i64 ((k + 1 : Nat) : Int))) (fun k hk => .inl hk))
      clear hw2 c0 c1 f1
      go_wp2
      go_roundg (t.size - (k + 1))
      case measure => have := HLT.out; omega
      case rel => exact ⟨k + 1, rfl, by have := HLT.out; omega, HA3.out, HS3.out, HF1.out⟩
    · have HFR := Lib.hid hfr
      have HE := Lib.hid (show wS t a = t.extract k (firstFrom t isBlank k) ∧ wAt t a = min (firstFrom t isBlank k + 1) t.size by
        unfold wS wAt wTo
        rw [HFR.out]
        exact ⟨rfl, rfl⟩)
      have HNE := Lib.hid (show ((wS t a).toList == (⟨#[]⟩ : ByteArray).toList) = !wB t a by
        cases hwb : wB t a with
        | true =>
          have := wS_yes hle hwb
          refine beq_eq_false_iff_ne.2 fun e => this ?_
          rw [ByteArray.toList_eq, ByteArray.toList_eq] at e
          exact ByteArray.ext (Array.toList_inj.1 e)
        | false => rw [(wS_no hle hwb).1]; exact beq_self_eq_true _)
      obtain ⟨ws, hws⟩ : ∃ x, wS t a = x := ⟨_, rfl⟩
      obtain ⟨wb, hwb⟩ : ∃ x, wB t a = x := ⟨_, rfl⟩
      have hend : (∃ hlt : k < t.size, isBlank t[k] = false) ∨ k = t.size := by
        by_cases hlt : k < t.size
        · refine .inl ⟨hlt, ?_⟩
          cases hb : isBlank t[k] with
          | false => rfl
          | true =>
            have h1 := ff_step (p := noBlank) hlt (by unfold noBlank; rw [hb]; rfl)
            have h2 : firstFrom t noBlank k = k := by rw [← HR.out.2.2]; exact hfr
            have h3 := ff_ge t noBlank (k + 1)
            omega
        · exact .inr (by omega)
      clear hfr
      have CU : Hid (∀ n, Calls Try.prog 17 #[.pointer (some ⟨p, 0, none⟩), .func (.func 16) #[] #[]] (wr.drewN n) fun e w' => ∃ b, e = .returned (.tuple #[.string (wS t a), .bool b]) ∧ At w' p t (wAt t a) ∧ Stirred w w' [p]) := Lib.hid fun n =>
        (upTo_blank (drewN_at HR.out.1 n) ht).mono fun e w' ⟨he, hA, hS⟩ => by
          rw [HE.out.1, HE.out.2]
          exact ⟨_, he, hA, (HR.out.2.1.trans (drewN_stirred wr [p] n) (fun k hk => .inl hk)).trans hS (fun k hk => .inl hk)⟩
      rw [hws, hwb] at HNE
      rw [hws] at CU
      have HWS := Lib.hid hws
      have HWB := Lib.hid hwb
      clear hws hwb HE
      rcases hend with ⟨hlt, hnb⟩ | hk2
      · rw [decide_eq_true hlt] at CH
        have e1 : (k : Int) < (t.size : Int) := by omega
        obtain ⟨c, hc⟩ : ∃ c, t[k] = c := ⟨_, rfl⟩
        have C := Lib.hid (fun n => blank_any c (wr.drewN n))
        rw [← hc, hnb, hc] at C
        clear hnb
        go_wp2
        go_quiet (first | (go_at_call 15; exact CH.out _) | (go_at_call 16; exact Calls.quiet_of_same (C.out _)))
        rename_i nq
        go_wp2_with fail
        refine (CU.out nq).mono ?_
        rintro e w3 ⟨b, rfl, hA3, hS3⟩
        have HA3 := Lib.hid hA3
        have HS3 := Lib.hid hS3
        have q1 : (ws.toList == (⟨#[]⟩ : ByteArray).toList) = !wb := HNE.out
        clear hA3 hS3 CU C CH hc c0 c1 f1
        go_wp2
        go_ret2
        refine ⟨?_, HA3.out, HS3.out⟩
        rw [HWS.out, HWB.out]
        simpa using HNE.out
      · obtain rfl : k = t.size := hk2
        rw [decide_eq_false (Nat.lt_irrefl _)] at CH
        go_wp2
        go_quiet (first | (go_at_call 15; exact CH.out _) | fail)
        rename_i nq
        go_wp2_with fail
        refine (CU.out nq).mono ?_
        rintro e w3 ⟨b, rfl, hA3, hS3⟩
        have HA3 := Lib.hid hA3
        have HS3 := Lib.hid hS3
        have q1 : (ws.toList == (⟨#[]⟩ : ByteArray).toList) = !wb := HNE.out
        clear hA3 hS3 CU CH c0 c1 f1
        go_wp2
        go_ret2
        refine ⟨?_, HA3.out, HS3.out⟩
        rw [HWS.out, HWB.out]
        simpa using HNE.out
set_option maxHeartbeats 4000000 in
set_option maxRecDepth 100000 in
theorem until_any {w : World} {p : Nat} {t : ByteArray} {a : Nat} (h : At w p t a) (c : UInt8) (ht : t.size ≤ 1000000) : Calls Try.prog 11 #[.pointer (some ⟨p, 0, none⟩), .int .u8 (c.toNat : Int)] w (Did w p t (.tuple #[.string (uS t a c), .bool (uB t a c)]) (uAt t a c)) := by
  have hmf : ∀ (fn : Fn) (first cap : Array Value) (w : World), (Instr.makeFunc fn first cap).run Try.prog w = .ok (.func fn first cap) w := fun _ _ _ _ => rfl
  have hb : Below w.heap.size w (w.alloc (.cells #[.int .u8 (c.toNat : Int)] 5)) := (Below.refl w.heap.size w).alloc (Nat.le_refl _) _
  have hnew := heap_alloc_new w (.cells #[.int .u8 (c.toNat : Int)] 5)
  have CU := Lib.hid (upTo_same c hnew (by have := h.lt; omega) (h.below hb) ht)
  have HS := Lib.hid (Stirred.of_below hb [p])
  clear h hb hnew
  go_enter Try.func11, Try.ntmps11
  go_wp2_with fail
  refine CU.out.mono ?_
  rintro e w3 ⟨rfl, hA3, hS3⟩
  have HA3 := Lib.hid hA3
  have HS3 := Lib.hid (HS.out.trans hS3 (fun k hk => .inl hk))
  clear hA3 hS3 CU
  go_wp2
  go_ret2
  exact ⟨rfl, HA3.out, HS3.out⟩
end Go.Proofs.Ytmbblnebkcekdaa.Src
