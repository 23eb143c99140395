/- The walks of package fault: tell; the text of an error that was seen. -/
import Derived.Test.YtoajkbdadcepaaaGreatDoorFaultErr
namespace Go.Proofs.YtoajkbdadcepaaaGreatDoor
open Go.RowKit Go.Extern.Stop Go.Stop Go.Extern
set_option linter.unusedSimpArgs false
set_option linter.unusedVariables false
theorem Tryz.methodErrorF (v : Value) (w : World) : (Go.method 281 47 v "Error").run Tryz.prog w = .ok (99, v) w := by kernel_rfl
theorem Tryz.methodErrorS (v : Value) (w : World) : (Go.method 281 49 v "Error").run Tryz.prog w = .ok (101, v) w := by kernel_rfl
theorem Tryz.assertS_f (v : Value) (w : World) : (Instr.typeAssert (.iface 47 v) 25 49 true).run Tryz.prog w = .ok (.tuple #[.pointer none, .bool false]) w := by kernel_rfl
theorem Tryz.assertS_s (v : Value) (w : World) : (Instr.typeAssert (.iface 49 v) 25 49 true).run Tryz.prog w = .ok (.tuple #[v, .bool true]) w := by kernel_rfl
/-- the fault (c, i) tells the text T, in every world that P holds of -/
def Tells (P : World → Prop) (c i : Int) (T : ByteArray) : Prop := ∀ w, P w → Calls Tryz.prog 99 #[.agg #[.int .i64 c, .int .i64 i]] w fun e w' => e = .returned (.string T) ∧ Below w.heap.size w w'
theorem idle_t (p : Addr) (w : World) :
    CallsD Tryz.prog 107 #[.pointer (some p)] .returning w fun e u' w' => e = .returned (.tuple #[]) ∧ u' = .returning ∧ w' = w := by
  refine callsD_of_wpS Tryz.func107 rfl fun c₀ cs hu => ?_
  apply wpS_seq
  apply wpS_region
  simp [wpOpsS, go_sem, recoverD, hu, Tryz.ntmps107, Exit.thenS]
  refine wpS_cond (t := false) (by simp [Act.eval, Array.replicate]) ?_
  simp only [Bool.false_eq_true, if_false]
  refine wpS_of_wp (wp_skip ?_)
  cases c₀
  simp_all [bodyPostS, results, Tryz.results107]
set_option maxHeartbeats 2000000 in
theorem tell_any (P : World → Prop) (c i : Int) (T : ByteArray) (ht : Tells P c i T) (w : World) (hp : ∀ w', Below w.heap.size w w' → P w') :
    Calls Tryz.prog 104 #[faultV c i] w fun e w' => e = .returned (.string T) ∧ Below w.heap.size w w' := by
  have mf := hmf
  have mE := Tryz.methodErrorF
  have C := Lib.hid (ht (w.alloc (.cells #[.string ⟨#[]⟩] 9)) (hp _ ((Below.refl _ _).alloc (Nat.le_refl _) _)))
  clear ht hp
  go_enter_defers Tryz.func104, Tryz.ntmps104
  go_wp2_with (go_at_call 99; refine C.out.mono ?_; rintro e w1 ⟨rfl, hb⟩
               obtain ⟨hc, hf⟩ := bcell hb
               have c0 : w1.cell? ⟨w.heap.size, 0, none⟩ = some (.string ⟨#[]⟩) := by rw [hc _ _ (by simp)]; simp
               have f0 : w1.frozen? ⟨w.heap.size, 0, none⟩ = false := by rw [hf _ _ (by simp)]; simp
               have s0 : (w1.setCell ⟨w.heap.size, 0, none⟩ (.string T)).cell? ⟨w.heap.size, 0, none⟩ = some (.string T) := World.cell?_setCell_same _ _ _ c0
               clear hc hf)
  refine leaves_cons (f := 107) (args := #[.pointer (some ⟨w.heap.size, 0, none⟩)]) (by simp) (by simp [go_sem]) ?_
  refine (idle_t _ _).mono ?_
  rintro e u' w'' ⟨rfl, rfl, rfl⟩
  simp [Leaves, settle, results, Tryz.results104, go_sem, s0]
  exact (((Below.refl _ _).alloc (Nat.le_refl _) _).trans (hb.mono (by simp))).setCell (p := ⟨w.heap.size, 0, none⟩) (Nat.le_refl _) _
def chainText : List ByteArray → List UInt8 → List UInt8
  | [], T => T
  | s :: r, T => s.data.toList ++ [58, 32] ++ chainText r T
def ErrRel (w : World) (c i : Int) (T : ByteArray) (all : List UInt8) (k : Nat) (p isv : Value) (wr : World) : Prop :=
  (∃ pre s r b, isv = .bool true ∧ p = .pointer (some ⟨b, 0, none⟩) ∧ Chain w c i (s :: r) (seenV b) ∧ k = r.length + 1 ∧ Lib.IsBuilder BT U8 w.heap.size w.heap.size (Lib.byteCells pre) wr ∧ all = pre ++ chainText (s :: r) T.data.toList)
  ∨ (isv = .bool false ∧ k = 0 ∧ Lib.IsBuilder BT U8 w.heap.size w.heap.size (Lib.byteCells all) wr)
theorem strCells_eq (s : ByteArray) : Lib.strCells s = Lib.byteCells s.data.toList := rfl
theorem byteCells_app (a b : List UInt8) : Lib.byteCells (a ++ b) = Lib.byteCells a ++ Lib.byteCells b := by simp [Lib.byteCells]
theorem len4 {pre : List UInt8} {s1 T : ByteArray} {all : List UInt8} (hal : all.length = pre.length + (s1.data.toList.length + 2 + (chainText [] T.data.toList).length)) (hlen : all.length ≤ 1000000) :
    (Lib.byteCells pre ++ Lib.strCells s1 ++ Lib.strCells ⟨#[58, 32]⟩).length + T.size ≤ 140737488355328 := by
  have h2 : (⟨#[58, 32]⟩ : ByteArray).size = 2 := rfl
  have h3 : T.data.toList.length = T.size := Array.length_toList
  have h4 : s1.data.toList.length = s1.size := Array.length_toList
  simp only [List.length_append, Lib.byteCells_length, Lib.strCells_length]
  simp only [chainText] at hal
  omega
theorem isBuilder_below {B b : Nat} {bs : List Value} {w w' : World} (h : Lib.IsBuilder BT U8 B b bs w) (hb : Below w.heap.size w w') : Lib.IsBuilder BT U8 B b bs w' := by
  have g : ∀ p, Lib.BuilderAt BT U8 B b p bs w → Lib.BuilderAt BT U8 B b p bs w' := fun p h => by
    have hl := h.lt
    obtain ⟨h1, v, h2, h3, h4⟩ := h
    exact ⟨h1, v, by rw [hb.block b hl]; exact h2, ownsRow_below (B := 0) h3 hb, h4⟩
  rcases h with h | h
  · exact .inl (g _ h)
  · exact .inr (g _ h)
set_option maxHeartbeats 4000000 in
set_option maxRecDepth 100000 in
theorem seenError (P : World → Prop) (c i : Int) (T : ByteArray) (ht : Tells P c i T) (s : ByteArray) (r : List ByteArray) (b : Nat) (w : World) (hp : ∀ w', Below w.heap.size w w' → P w') (hch : Chain w c i (s :: r) (seenV b))
    (hlen : (chainText (s :: r) T.data.toList).length ≤ 1000000) :
    Calls Tryz.prog 101 #[.pointer (some ⟨b, 0, none⟩)] w fun e w' => e = .returned (strV (chainText (s :: r) T.data.toList)) ∧ Below w.heap.size w w' := by
  have HC := Lib.hid hch
  have HT := Lib.hid ht
  have HP := Lib.hid hp
  generalize ha : chainText (s :: r) T.data.toList = all at *
  have HA := Lib.hid ha
  have aF := Tryz.assertS_f
  have aS := Tryz.assertS_s
  clear hch ht hp ha
  go_enter Tryz.func101, Tryz.ntmps101
  go_wp2
  go_loopg [0, 4] (r.length + 1) (fun k p isv wr => Hid (ErrRel w c i T all k p isv wr) ∧ Below w.heap.size w wr)
  case atStart => exact ⟨.inl ⟨[], s, r, b, rfl, rfl, HC.out, rfl, Lib.fresh_isBuilder _ _ _, by rw [HA.out]; rfl⟩, (Below.refl _ _).alloc (Nat.le_refl _) _⟩
  case round =>
    obtain ⟨hR, hB⟩ := hrel
    rcases hR.out with ⟨pre, s1, r1, b1, rfl, rfl, hc1, rfl, hb1, hall⟩ | ⟨rfl, rfl, hb1⟩
    · obtain ⟨b2, inner, e2, hbl, k0, k1, k2⟩ := hc1
      obtain rfl : b1 = b2 := by injection e2 with _ e3; injection e3 with e4; injection e4 with e5; injection e5
      have hsz := hB.size
      have hal : all.length = pre.length + (s1.data.toList.length + 2 + (chainText r1 T.data.toList).length) := by rw [hall]; simp [chainText]; omega
      have hsl : s1.data.toList.length = s1.size := Array.length_toList
      have C1 := Lib.hid (writeString w.heap.size w.heap.size (Lib.byteCells pre) s1 wr hb1 (by rw [Lib.byteCells_length]; omega) hsz)
      have q0 : wr.cell? ⟨b1, 0, none⟩ = some (.string s1) := (hB.cell (p := ⟨b1, 0, none⟩) hbl).trans k0
      have KA := Lib.hid hall
      have K1 := Lib.hid k1
      have K2 := Lib.hid k2
      clear hb1 k1 k2 e2 hR k0 hall
      go_wp2_with (go_at_call 103; refine C1.out.mono ?_)
      rintro e w1 ⟨rfl, h1, hB1⟩
      have hs1 := hB1.size
      have C2 := Lib.hid (writeString w.heap.size w.heap.size _ ⟨#[58, 32]⟩ w1 h1 (by rw [List.length_append, Lib.byteCells_length, Lib.strCells_length]; have : (⟨#[58, 32]⟩ : ByteArray).size = 2 := rfl; omega) (by omega))
      clear h1 q0 C1
      go_wp2_with (go_at_call 103; refine C2.out.mono ?_)
      rintro e w2 ⟨rfl, h2, hB2⟩
      have hs2 := hB2.size
      have hW2 := (hB.trans hB1).trans hB2
      have q1 : w2.cell? ⟨b1, 1, none⟩ = some inner := (hW2.cell (p := ⟨b1, 1, none⟩) hbl).trans K1.out
      have H2 := Lib.hid h2
      clear h2 C2
      cases r1 with
      | nil =>
        obtain rfl : inner = faultV c i := K2.out
        have C3 := Lib.hid (tell_any P c i T HT.out w2 (fun w' h => HP.out w' (hW2.trans (h.mono (by omega)))))
        go_wp2_with (go_at_call 104; refine C3.out.mono ?_)
        rintro e w3 ⟨rfl, hB3⟩
        have hs3 := hB3.size
        have C4 := Lib.hid (writeString w.heap.size w.heap.size _ T w3 (isBuilder_below H2.out hB3) (len4 hal hlen) (by omega))
        clear q1
        go_wp2_with (go_at_call 103; refine C4.out.mono ?_)
        rintro e w4 ⟨rfl, h4, hB4⟩
        have H4 := Lib.hid h4
        clear h4
        have hW4 := (hW2.trans (hB3.mono (by omega))).trans hB4
        go_wp2
        go_roundg 0
        case measure => simp
        case rel => exact ⟨.inr ⟨rfl, rfl, by have h := H4.out; rw [KA.out]; simpa [chainText, byteCells_app, strCells_eq, Lib.byteCells] using h⟩, hW4⟩
      | cons s2 r2 =>
        obtain ⟨b3, inner2, rfl, hr⟩ := K2.out
        have KR := Lib.hid hr
        clear hr
        go_wp2
        go_roundg (r2.length + 1)
        case measure => simp
        case rel => exact ⟨.inl ⟨pre ++ s1.data.toList ++ [58, 32], s2, r2, b3, rfl, rfl, K2.out, rfl, by have h := H2.out; simpa [byteCells_app, strCells_eq, Lib.byteCells] using h, by rw [KA.out]; simp [chainText]⟩, hW2⟩
    · have HB := Lib.hid hb1
      have hsz := hB.size
      have C := Lib.hid (Tryz.Builder_String_any w.heap.size w.heap.size all wr hb1 hsz)
      clear hb1 hR
      go_wp2_with (go_at_call 105; refine C.out.mono ?_; rintro e w1 ⟨rfl, hb⟩)
      go_ret
      exact ⟨rfl, hB.trans hb⟩
end Go.Proofs.YtoajkbdadcepaaaGreatDoor
