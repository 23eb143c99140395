
/- Package weave: a weave in one call's world; the statements' first call. -/
import Derived.Test.YtcpdhfigaoaohaaDoorWvMore
namespace Go.Proofs.YtcpdhfigaoaohaaDoor.Wv
open Go.RowKit Book Book.Wide Mem
set_option linter.unusedSimpArgs false
set_option linter.unusedVariables false
/-- a call that says yes, and leaves what was there -/
def Yes (w : World) (e : Ending) (w' : World) : Prop := e = .returned (.bool true) ∧ Below w.heap.size w w'
structure WSt (W w : World) (p : Nat) (m : M) : Prop where
  way : ∃ gm bs, WAt w W.heap.size p gm bs m
  below : Below W.heap.size W w
  names : NamesIs W
section
variable {W w : World} {p : Nat} {m : M}
theorem WSt.now (h : WSt W w p m) : NamesIs w := h.names.mono h.below
theorem WSt.fine (h : WSt W w p m) : Fine m := by obtain ⟨_, _, hA⟩ := h.way; exact hA.fine
theorem WSt.kept {w' : World} (h : WSt W w p m) (hb : Below w.heap.size w w') : WSt W w' p m := by
  obtain ⟨gm, bs, hA⟩ := h.way
  exact ⟨⟨gm, bs, hA.below hb⟩, h.below.trans (hb.mono h.below.size), h.names⟩
theorem WSt.drewN (h : WSt W w p m) (q : Nat) : WSt W (w.drewN q) p m := h.kept (below_drewN w q)
end
/-- what is done to a weave leaves alone what lies in none of its blocks -/
structure Done (W w : World) (p : Nat) (bs : List Nat) (m' : M) (w' : World) : Prop where
  st : WSt W w' p m'
  stir : Stirred w w' bs
  size : w.heap.size ≤ w'.heap.size
section
variable {W w : World} {p gm : Nat} {bs : List Nat} {m : M}
theorem done_of {v : Value} {m' : M} {e : Ending} {w' : World} (hb : Below W.heap.size W w) (hn : NamesIs W) (h : WAt w W.heap.size p gm bs m) (hd : Did w W.heap.size p gm bs v m' e w') : e = .returned v ∧ Done W w p bs m' w' := by
  obtain ⟨he, bs', hA, hS, _⟩ := hd
  exact ⟨he, ⟨⟨gm, bs', hA⟩, hb.trans (hS.below (fun k hk => (h.lt k hk).1) hb.size), hn⟩, hS, hS.size⟩
theorem d_op (h : WAt w W.heap.size p gm bs m) (hb : Below W.heap.size W w) (hn : NamesIs W) (a : Int) : Calls Tryd.prog 8 #[.pointer (some ⟨p, 0, none⟩), .int .i64 a] w fun e w' => e = .returned (.int .i64 (op a m).1) ∧ Done W w p bs (op a m).2 w' :=
  (op_any h a).mono fun e w' hd => done_of hb hn h hd
theorem d_arg (h : WAt w W.heap.size p gm bs m) (hb : Below W.heap.size W w) (hn : NamesIs W) (a v : Int) : Calls Tryd.prog 10 #[.pointer (some ⟨p, 0, none⟩), .int .i64 a, .int .i64 v] w fun e w' => e = .returned (.int .i64 (arg a v m).1) ∧ Done W w p bs (arg a v m).2 w' :=
  (arg_any h a v).mono fun e w' hd => done_of hb hn h hd
theorem d_call (h : WAt w W.heap.size p gm bs m) (hb : Below W.heap.size W w) (hn : NamesIs W) (a : Int) : Calls Tryd.prog 12 #[.pointer (some ⟨p, 0, none⟩), .int .i64 a] w fun e w' => e = .returned (.int .i64 (call a m).1) ∧ Done W w p bs (call a m).2 w' :=
  (call_any h a).mono fun e w' hd => done_of hb hn h hd
theorem d_form (h : WAt w W.heap.size p gm bs m) (hb : Below W.heap.size W w) (hn : NamesIs W) (s : ByteArray) (hs : s.size ≤ 1000) (hl : m.l.length < 1000) : Calls Tryd.prog 14 #[.pointer (some ⟨p, 0, none⟩), .string s] w fun e w' => e = .returned (.int .i64 (form (word s) m).1) ∧ Done W w p bs (form (word s) m).2 w' :=
  (form_any h hb.size (hn.mono hb) s hs hl).mono fun e w' hd => done_of hb hn h hd
theorem s_op (h : WSt W w p m) (a : Int) : Calls Tryd.prog 8 #[.pointer (some ⟨p, 0, none⟩), .int .i64 a] w fun e w' => e = .returned (.int .i64 (op a m).1) ∧ WSt W w' p (op a m).2 := by
  obtain ⟨gm, bs, hA⟩ := h.way
  exact (d_op hA h.below h.names a).mono fun e w' hd => ⟨hd.1, hd.2.st⟩
theorem s_form (h : WSt W w p m) (s : ByteArray) (hs : s.size ≤ 1000) (hl : m.l.length < 1000) : Calls Tryd.prog 14 #[.pointer (some ⟨p, 0, none⟩), .string s] w fun e w' => e = .returned (.int .i64 (form (word s) m).1) ∧ WSt W w' p (form (word s) m).2 := by
  obtain ⟨gm, bs, hA⟩ := h.way
  exact (d_form hA h.below h.names s hs hl).mono fun e w' hd => ⟨hd.1, hd.2.st⟩
theorem s_open (h : WSt W w p m) : Calls Tryd.prog 20 #[.pointer (some ⟨p, 0, none⟩)] w fun e w' => e = .returned (.int .i64 (m.l.length : Int)) ∧ w' = w := by
  obtain ⟨gm, bs, hA⟩ := h.way; exact open_any hA
theorem s_here (h : WSt W w p m) : Calls Tryd.prog 19 #[.pointer (some ⟨p, 0, none⟩)] w fun e w' => e = .returned (.int .i64 (m.here : Int)) ∧ w' = w := by
  obtain ⟨gm, bs, hA⟩ := h.way; exact here_any hA
theorem s_mem (h : WSt W w p m) : Calls Tryd.prog 16 #[.pointer (some ⟨p, 0, none⟩)] w fun e w' => ∃ c, e = .returned c ∧ Owns w' w.heap.size 3 c (vals m.mem) ∧ Below w.heap.size w w' := by
  obtain ⟨gm, bs, hA⟩ := h.way; exact mem_any hA
theorem s_new (v : Value) (xs : List Int) (here : Int) (W w : World) (hb : Below W.heap.size W w) (hn : NamesIs W) (h : Reads w v xs) (hx : xs.length ≤ 1000) : Calls Tryd.prog 6 #[v, .int .i64 here] w fun e w' => ∃ p, e = .returned (.pointer (some ⟨p, 0, none⟩)) ∧ WSt W w' p (start xs here) ∧ Below w.heap.size w w' :=
  (new_any v xs here w h hx).mono fun e w' ⟨p, gm, bs, h1, h2, h3⟩ => ⟨p, h1, ⟨⟨gm, bs, h2.from hb.size⟩, hb.trans (h3.mono hb.size), hn⟩, h3⟩
end
/-- zeros that a make has laid -/
theorem zeros_made {w w1 : World} {n : Nat} (hO : w1.ownsRow w.heap.size 3 1 (.slice (some ⟨w.heap.size, 0, none⟩) n n) n (List.replicate n (.int .i64 0))) (hG : w.grownBy w1 none) : Reads w1 (.slice (some ⟨w.heap.size, 0, none⟩) n n) (List.replicate n 0) ∧ Below w.heap.size w w1 := by
  have hO := Owns.of_row hO
  rw [show List.replicate n (Value.int .i64 0) = vals (List.replicate n 0) by simp [vals]] at hO
  exact ⟨Reads.of_owns hO, (Stirred.of_grown hG).below (B := w.heap.size) (fun k h => by cases h) (Nat.le_refl _)⟩
theorem word_if : word ⟨#[105, 102]⟩ = 1 := by decide +kernel
theorem word_then : word ⟨#[84, 72, 69, 78]⟩ = 3 := by decide +kernel
set_option maxHeartbeats 4000000 in
theorem alive_any (W : World) (hn : NamesIs W) : Calls Tryd.prog 4 #[] W (Yes W) := by
  obtain ⟨i0, q1, q2, q3, q4⟩ := info_parts Tryd.bkIntInfo
  have HI := Lib.hid (And.intro q1 (And.intro q2 (And.intro q3 q4)))
  have HN := Lib.hid hn
  clear q1 q2 q3 q4 hn
  go_enter Tryd.func4, Tryd.ntmps4
  go_wp2_with (at_make; refine wpList_make_full _ rfl _ _ 22 rfl W.heap.size 3 i0 (.int .i64 0) 1 Tryd.underlying22 HI.out.1 HI.out.2.1 HI.out.2.2.1 .i64 .i64 _ _ 300 rfl rfl ?a1 ?a2 ?a3 ?a4 (Nat.le_refl _) ?_)
  case a1 => rfl
  case a2 => rfl
  case a3 => rw [HI.out.2.2.2]; decide
  case a4 => unfold maxLen; decide
  intro w1 hO hG
  rw [toList_madeCells_one] at hO
  obtain ⟨hR, hb1⟩ := zeros_made hO hG
  obtain ⟨L, hL⟩ : ∃ L, List.replicate 300 (0 : Int) = L := ⟨_, rfl⟩
  have hll : L.length = 300 := by rw [← hL]; exact List.length_replicate
  rw [hL] at hR
  have HLL := Lib.hid hll
  have C := Lib.hid (s_new _ L 200 W w1 hb1 HN.out hR (by omega))
  rw [show start L 200 = ⟨L, 200, []⟩ by unfold start; rw [hll]; rfl] at C
  clear hO hG hR hb1 hL hll
  go_wp2_with fail
  refine C.out.mono ?_
  rintro e w2 ⟨p, rfl, hS, _⟩
  have D := Lib.hid (s_form hS ⟨#[105, 102]⟩ (by decide) (by show 0 < 1000; decide))
  rw [word_if, show form 1 ⟨L, 200, []⟩ = (0, (⟨(L.set 200 4).set 201 0, 202, [(1, 201)]⟩ : M)) by simp [form, M.fits, HLL.out, M.two, M.held]] at D
  clear C hS
  go_wp2_with fail
  refine D.out.mono ?_
  rintro e w3 ⟨rfl, hS⟩
  have C := Lib.hid (s_op hS 6)
  rw [show op 6 ⟨(L.set 200 4).set 201 0, 202, [(1, 201)]⟩ = (0, (⟨((L.set 200 4).set 201 0).set 202 6, 203, [(1, 201)]⟩ : M)) by
    unfold op
    rw [if_pos (by decide)]
    simp [put1, M.fits, HLL.out, M.one]] at C
  clear D hS
  go_wp2_with fail
  refine C.out.mono ?_
  rintro e w4 ⟨rfl, hS⟩
  have D := Lib.hid (s_open hS)
  have HS4 := Lib.hid hS
  clear C hS
  go_wp2_with fail
  refine D.out.mono ?_
  rintro e wz ⟨rfl, hwz⟩
  subst wz
  have D := Lib.hid (s_form HS4.out ⟨#[84, 72, 69, 78]⟩ (by decide) (by show 1 < 1000; decide))
  rw [word_then, show form 3 ⟨((L.set 200 4).set 201 0).set 202 6, 203, [(1, 201)]⟩ = (0, (⟨(((L.set 200 4).set 201 0).set 202 6).set 201 203, 203, []⟩ : M)) by simp [form, M.top, M.point, M.held]] at D
  clear HS4
  go_wp2_with fail
  refine D.out.mono ?_
  rintro e w5 ⟨rfl, hS⟩
  have C := Lib.hid (s_form hS ⟨#[84, 72, 69, 78]⟩ (by decide) (by show 0 < 1000; decide))
  obtain ⟨X, hX⟩ : ∃ X, (((L.set 200 4).set 201 0).set 202 6).set 201 203 = X := ⟨_, rfl⟩
  have hx0 : X.length = 300 := by rw [← hX]; simp [HLL.out]
  have hx1 : X[200]? = some 4 := by rw [← hX]; simp [List.getElem?_set, HLL.out]
  have hx2 : X[201]? = some 203 := by rw [← hX]; simp [List.getElem?_set, HLL.out]
  have hx3 : X[202]? = some 6 := by rw [← hX]; simp [List.getElem?_set, HLL.out]
  have HX := Lib.hid (And.intro hx0 (And.intro hx1 (And.intro hx2 hx3)))
  rw [hX] at C
  rw [word_then, show form 3 ⟨X, 203, []⟩ = (-22, (⟨X, 203, []⟩ : M)) by simp [form, M.top]] at C
  clear D hS hX hx0 hx1 hx2 hx3
  go_wp2_with fail
  refine C.out.mono ?_
  rintro e w6 ⟨rfl, hS⟩
  have D := Lib.hid (s_mem hS)
  have HS6 := Lib.hid hS
  clear C hS
  go_wp2_with fail
  refine D.out.mono ?_
  rintro e w7 ⟨c, rfl, hc, hb⟩
  have hS7 := HS6.out.kept hb
  obtain ⟨g, cap, hcv, hcell, _, _⟩ := hc.row (by rw [vals_length, HX.out.1]; decide)
  rw [vals_length, HX.out.1] at hcv
  subst hcv
  have k0 : w7.cell? ⟨g, 200, none⟩ = some (.int .i64 4) := hcell 200 _ (by rw [List.getElem?_map, HX.out.2.1]; rfl)
  have k1 : w7.cell? ⟨g, 201, none⟩ = some (.int .i64 203) := hcell 201 _ (by rw [List.getElem?_map, HX.out.2.2.1]; rfl)
  have k2 : w7.cell? ⟨g, 202, none⟩ = some (.int .i64 6) := hcell 202 _ (by rw [List.getElem?_map, HX.out.2.2.2]; rfl)
  have C := Lib.hid (s_here hS7)
  have E := Lib.hid (s_open hS7)
  have HB := Lib.hid hS7.below
  clear D hc hb hS7 hcell
  go_wp2_with fail
  refine C.out.mono ?_
  rintro e wz ⟨rfl, hwz⟩
  subst wz
  go_wp2_with fail
  refine E.out.mono ?_
  rintro e wz ⟨rfl, hwz⟩
  subst wz
  go_wp2
  go_ret
  exact ⟨rfl, HB.out⟩
end Go.Proofs.YtcpdhfigaoaohaaDoor.Wv
