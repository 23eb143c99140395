/- The walks of package fault: Code, Where, Is, Words. -/
import Derived.Test.YtoajkbdadcepaaaGreatDoorFaultFind
import Derived.Test.YtoajkbdadcepaaaGreatDoorFaultIs
import Derived.OwnWalk
namespace Go.Proofs.YtoajkbdadcepaaaGreatDoor
open Go.RowKit Go.Extern.Stop Go.Stop Go.Extern
set_option linter.unusedSimpArgs false
set_option linter.unusedVariables false

theorem bcell {W w1 : World} (hb : Below W.heap.size W w1) : (∀ b o, b < W.heap.size → w1.cell? ⟨b, o, none⟩ = W.cell? ⟨b, o, none⟩) ∧ (∀ b o, b < W.heap.size → w1.frozen? ⟨b, o, none⟩ = W.frozen? ⟨b, o, none⟩) :=
  ⟨fun b o h => hb.cell (p := ⟨b, o, none⟩) h, fun b o h => hb.frozen (p := ⟨b, o, none⟩) h⟩
set_option maxHeartbeats 1000000 in
theorem code_any (ws : List ByteArray) (v : Value) (c i : Int) (w : World) (hch : Chain w c i ws v) (hg : ErrorType w) :
    Calls Tryz.prog 9 #[v] w fun e w' => e = .returned (.int .i64 c) ∧ Below w.heap.size w w' := by
  have C := Lib.hid (find_f ws v c i w hch hg)
  clear hch hg
  go_enter Tryz.func9, Tryz.ntmps9
  go_wp2_with (go_at_call 17; refine C.out.mono ?_; rintro e w1 ⟨rfl, hb⟩)
  go_ret
  exact ⟨rfl, hb.alloc hb.size _⟩
set_option maxHeartbeats 1000000 in
theorem where_any (ws : List ByteArray) (v : Value) (c i : Int) (w : World) (hch : Chain w c i ws v) (hg : ErrorType w) :
    Calls Tryz.prog 10 #[v] w fun e w' => e = .returned (.int .i64 i) ∧ Below w.heap.size w w' := by
  have C := Lib.hid (find_f ws v c i w hch hg)
  clear hch hg
  go_enter Tryz.func10, Tryz.ntmps10
  go_wp2_with (go_at_call 17; refine C.out.mono ?_; rintro e w1 ⟨rfl, hb⟩)
  go_ret
  exact ⟨rfl, hb.alloc hb.size _⟩
set_option maxHeartbeats 1000000 in
theorem is_zero (ws : List ByteArray) (v : Value) (c i : Int) (w : World) (hch : Chain w c i ws v) (hg : ErrorType w) :
    Calls Tryz.prog 12 #[v, .int .i64 0] w fun e w' => e = .returned (.bool false) ∧ Below w.heap.size w w' := by
  have C := Lib.hid (find_f ws v c i w hch hg)
  clear hch hg
  go_enter Tryz.func12, Tryz.ntmps12
  go_wp2_with (go_at_call 17; refine C.out.mono ?_; rintro e w1 ⟨rfl, hb⟩)
  go_ret
  exact ⟨rfl, hb.alloc hb.size _⟩
set_option maxHeartbeats 1000000 in
theorem is_some (ws : List ByteArray) (v : Value) (c i k : Int) (bv : Bool) (w : World) (hch : Chain w c i ws v) (hg : ErrorType w) (hk : (k != 0) = true) (hb : (k == c) = bv) :
    Calls Tryz.prog 12 #[v, .int .i64 k] w fun e w' => e = .returned (.bool bv) ∧ Below w.heap.size w w' := by
  have C := Lib.hid (find_f ws v c i w hch hg)
  have D := Lib.hid (errIs c i k bv hb)
  clear hch hg hb
  go_enter Tryz.func12, Tryz.ntmps12
  go_wp2_with (first | (go_at_call 17; refine C.out.mono ?_; rintro e w1 ⟨rfl, hb⟩) | (go_at_call 19; refine (D.out _).mono ?_; rintro e w2 ⟨rfl, rfl⟩))
  go_ret
  exact ⟨rfl, (hb.alloc hb.size _).alloc (by have := hb.size; simp; omega) _⟩
theorem ownsRow_below {w w' : World} {base B : Nat} {e : TypeId} {size : Nat} {v : Value} {n : Nat} {xs : List Value} (h : w.ownsRow base e size v n xs) (hb : Below w.heap.size w w') : w'.ownsRow base e size v n xs := by
  refine ⟨h.1, ?_⟩
  rcases h.2 with h2 | ⟨g, cap, cur, h1, h2, h3, h4⟩
  · exact .inl h2
  · have hg : g < w.heap.size := by
      rcases Nat.lt_or_ge g w.heap.size with h0 | h0
      · exact h0
      · rw [Array.getElem?_eq_none h0] at h3; cases h3
    exact .inr ⟨g, cap, cur, h1, h2, by rw [hb.block g hg]; exact h3, h4⟩
theorem Tryz.infoString : (Tryz.prog.info? 9).map (fun i => (i.zero, i.size, i.bytes)) = some (some (.string ⟨#[]⟩), 1, 16) := by kernel_rfl
/-- what 'Words' hands back: a slice of its own of just these words -/
def IsTexts (B : Nat) (w : World) (ws : List ByteArray) (s : Value) : Prop := w.ownsRow B 9 1 s ws.length (ws.map Value.string)
def WordsPost (ws : List ByteArray) (w : World) (e : Ending) (w' : World) : Prop := ∃ s, e = .returned s ∧ IsTexts w.heap.size w' ws s ∧ Below w.heap.size w w'
set_option maxHeartbeats 4000000 in
set_option maxRecDepth 100000 in
theorem words_any (ws : List ByteArray) (v : Value) (c i : Int) (w : World) (hch : Chain w c i ws v) (hg : ErrorType w) (hl : ws.length ≤ 1000) :
    Calls Tryz.prog 11 #[v] w (WordsPost ws w) := by
  obtain ⟨i0, hi, hz0, hz1, hz2⟩ := info_parts Tryz.infoString
  have HC := Lib.hid hch
  have HG := Lib.hid hg
  have HI := Lib.hid (And.intro hi (And.intro hz0 (And.intro hz1 hz2)))
  clear hch hg hi hz0 hz1 hz2
  go_enter Tryz.func11, Tryz.ntmps11
  go_wp2
  go_loopg [0, 3] ws.length (fun k p s wr => ∃ done rest, Hid (ws = done ++ rest) ∧ k = rest.length ∧ Hid (Chain w c i rest p) ∧ Hid (wr.ownsRow w.heap.size 9 1 s done.length (done.map Value.string)) ∧ Below w.heap.size w wr)
  case atStart => exact ⟨[], ws, rfl, rfl, HC, World.ownsRow_nil _ _ _ _, Below.refl _ _⟩
  case round =>
    obtain ⟨done, rest, he, rfl, hc', how, hB⟩ := hrel
    have hgr : ErrorType wr := HG.out.mono hB
    have hsz := hB.size
    cases rest with
    | nil =>
      obtain rfl := hc'.out
      have C := Lib.hid (find_s_miss c i wr hgr)
      clear hgr HC HG
      go_wp2_with (go_at_call 18; refine C.out.mono ?_; rintro e w1 ⟨rfl, hb⟩)
      go_ret
      have h2 := how.out
      have h1 : ws = done := by rw [he.out, List.append_nil]
      exact ⟨_, rfl, by unfold IsTexts; rw [h1]; exact ownsRow_below (B := 0) h2 hb, hB.trans (hb.mono hsz)⟩
    | cons s0 r =>
      obtain ⟨b, inner, rfl, hbl, k0, k1, k2⟩ := hc'.out
      have C := Lib.hid (find_s_hit b wr hgr)
      have K2 := Lib.hid k2
      have K := Lib.hid (And.intro k0 k1)
      have hdl : done.length ≤ 1000 := by have := congrArg List.length he.out; simp at this; omega
      clear hgr k2 k0 k1 hc'
      go_wp2_with (first
        | (go_at_call 18; refine C.out.mono ?_; rintro e w1 ⟨rfl, hb⟩
           have hBb : Below w.heap.size w w1 := hB.trans (hb.mono hsz)
           have k0 : w1.cell? ⟨b, 0, none⟩ = some (.string s0) := (hBb.cell (p := ⟨b, 0, none⟩) hbl).trans K.out.1
           have k1 : ∀ w2 : World, Below w.heap.size w w2 → w2.cell? ⟨b, 1, none⟩ = some inner := fun w2 h2 => (h2.cell (p := ⟨b, 1, none⟩) hbl).trans K.out.2
           have K1 := Lib.hid k1
           have own := Lib.hid (ownsRow_below (B := 0) how.out hb)
           clear k1)
        | (at_builtin; refine wpList_append_own _ rfl _ _ 22 rfl w.heap.size 9 i0 (.string ⟨#[]⟩) 1 16 Tryz.underlying22 HI.out.1 HI.out.2.1 HI.out.2.2.1 HI.out.2.2.2 rfl (by decide) _ _ _ rfl (own.out.alloc _) ⟨w1.heap.size, 0, none⟩ 1 1 [.string s0] rfl rfl ?c1 ?c2 ?c3 ?c4 ?c5 ?_; rotate_left 5))
      case c1 => intro j u hj; rcases j with _ | j <;> simp at hj; subst hj; simp [Addr.add]
      case c2 => intro u hu; simp at hu; subst hu; rfl
      case c3 => unfold maxLen; omega
      case c4 => omega
      case c5 => have := hBb.size; simp; omega
      intro v' w' hown hgrow _
      have hBw : Below w.heap.size w w' := (hBb.alloc hBb.size _).grown hgrow (by have := hBb.size; simp; omega) (fun k hk => (own.out.lt k hk).1)
      have k1 := K1.out w' hBw
      have HO := Lib.hid hown
      clear hown hgrow k0
      go_wp2
      go_roundg r.length
      case measure => simp
      case rel => exact ⟨done ++ [s0], r, by show ws = _; rw [he.out]; simp, rfl, K2, by have := HO.out; simpa [Hid] using this, hBw⟩
end Go.Proofs.YtoajkbdadcepaaaGreatDoor
