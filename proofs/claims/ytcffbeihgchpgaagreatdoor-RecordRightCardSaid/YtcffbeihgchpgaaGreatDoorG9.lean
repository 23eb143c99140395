/- slices.Clone of a []int of one's own. -/
import Derived.Test.YtcffbeihgchpgaaGreatDoorG2
import Derived.Test.YtcffbeihgchpgaaGreatDoorG8
import Derived.Test.YtcffbeihgchpgaaGreatDoorG7
import Derived.Test.YtcffbeihgchpgaaGreatDoorG3
import Derived.Laws.Cover3
import Derived.Lib.MinMax
import Derived.Lib.SliceRun
import Derived.Laws.CopyOwn
import Derived.Laws.AppendOwnNone
import Derived.BigQuiet
import Derived.Deep.QuietTactic
import Derived.Deep.RegionHeld3
namespace Go.Proofs.YtcffbeihgchpgaaGreatDoor
open Go.RowKit Book Mem
set_option linter.unusedVariables false
theorem clone_any (v : Value) (B : Nat) (xs : List Int) (w : World) (h : Owns w B 3 v (vals xs)) (hl : xs.length ≤ 1000000) :
    Calls Tryz.prog 145 #[v] w fun e w' => ∃ c, e = .returned c ∧ Owns w' w.heap.size 3 c (vals xs) ∧ Below w.heap.size w w' := by
  rcases h.form with ⟨ao, rfl, hx⟩ | ⟨g, cap, rfl, hc0⟩
  · have hx : xs = [] := List.map_eq_nil_iff.1 hx
    subst hx
    cases ao with
    | none => exact (Tryz.slices_Clone_int_nil 0 0 w).mono fun e w' ⟨h1, h2⟩ => by subst h2; exact ⟨_, h1, Owns.nil _ _ _, Below.refl _ _⟩
    | some a => exact (Tryz.slices_Clone_int_zero a 0 w).mono fun e w' ⟨v', h1, h2, _, h3⟩ => ⟨v', h1, Owns.of_row h2, h3⟩
  · rw [vals_length]
    refine (Tryz.slices_Clone_int g 0 xs.length cap xs w (Nat.le_refl _) (by omega) (fun j hj => by
      obtain ⟨g', c', e, hc, _, _⟩ := h.row (by rw [vals_length]; omega)
      simp only [Value.slice.injEq, Option.some.injEq, Addr.mk.injEq, and_true, true_and] at e
      rw [Nat.zero_add, e.1]
      exact hc j _ (by simp [vals, List.getD_eq_getElem?_getD, List.getElem?_eq_getElem hj]))).mono fun e w' ⟨v', h1, h2, _, h3⟩ => ⟨v', h1, ?_, h3⟩
    rw [List.take_length] at h2
    exact Owns.of_row h2
end Go.Proofs.YtcffbeihgchpgaaGreatDoor
/- Package pile: making, reading, copying, of a stack and of none. -/
namespace Go.Proofs.YtcffbeihgchpgaaGreatDoor
open Go.RowKit Book Mem
set_option linter.unusedSimpArgs false
set_option linter.unusedVariables false
theorem Mem.stirred_setRow (w : World) (g : Nat) (cs : Array Value) : Stirred w (w.setRow g cs) [g] :=
  ⟨rfl, rfl, rfl, by simp, fun k hk hn => setRow_other w g k cs (by simpa using hn)⟩
/-- 'copy(x[off:], l)' into a block that is known whole -/
theorem wpList_copy_reads {P : Program} {w : World} {ops : Array Oper} {rest : List Oper} {o : Oper} {a : Act} {Q : Exit → Act → World → Prop} (hgd : o.guard = none) (d s : Operand) (dT sT : TypeId)
    (ho : o.op = .call { callee := .builtin .copy, args := #[d, s], argTypes := #[dT, sT] }) (elem : TypeId) (hu : P.underlying dT = some (.slice elem)) (hsz : (P.info? elem).map (·.size) = some 1)
    (dp : Option Addr) (dLen dCap : Nat) (hd : a.eval d = .slice dp dLen dCap) (v : Value) (xs : List Int) (hs : a.eval s = v) (hr : Reads w v xs)
    (g off : Nat) (cur : List Int) (t : TypeId) (hg : w.heap[g]? = some (.cells (vals cur).toArray t (0, 0))) (hp : 0 < min xs.length dLen → dp = some ⟨g, off, none⟩) (hfit : off + min xs.length dLen ≤ cur.length)
    (h : ∀ w', w'.heap[g]? = some (.cells (vals (splice cur off (xs.take dLen))).toArray t (0, 0)) → Stirred w w' [g] → wpList P ops Q rest (a.put o.dst (.int .i64 (min xs.length dLen : Nat))) w') :
    wpList P ops Q (o :: rest) a w := by
  obtain ⟨ao, cap, rfl, hc⟩ := hr
  have hl : (vals (xs.take dLen)).length = Nat.min xs.length dLen := by rw [vals_length, List.length_take, Nat.min_comm]
  by_cases h0 : min xs.length dLen = 0
  · have hx : xs.take dLen = [] := List.eq_nil_of_length_eq_zero (by rw [List.length_take, Nat.min_comm]; exact h0)
    refine wpList_copy_nothing hgd d s dT sT ho elem hu hsz dp ao dLen dCap xs.length cap hd hs h0 ?_
    have := h w (by rw [hx]; simpa [splice] using hg) (Stirred.refl _ _)
    rw [h0] at this
    exact this
  · have hxl : 0 < xs.length := by omega
    obtain ⟨ad, rfl, _⟩ := hc 0 xs[0] (List.getElem?_eq_getElem hxl)
    have hd' := hp (by omega)
    subst hd'
    refine wpList_copy_own hgd d s dT sT ho elem hu hsz g off dLen dCap ad xs.length cap hd hs (vals cur).toArray t hg (vals (xs.take dLen)) hl (fun j v hj => ?_) (by rw [hl]; simpa using hfit) (vals_one _) ?_
    · simp only [vals, List.getElem?_map, Option.map_eq_some_iff] at hj
      obtain ⟨x, hx, rfl⟩ := hj
      rw [List.getElem?_take] at hx
      split at hx
      · obtain ⟨a', e, hx'⟩ := hc j x hx
        simp only [Option.some.injEq] at e
        subst e
        exact hx'
      · cases hx
    · have hgo : goInt ((vals (xs.take dLen)).length : Nat) = .int .i64 (min xs.length dLen : Nat) := by rw [hl]; rfl
      rw [hgo]
      refine h _ ?_ (stirred_setRow _ _ _)
      rw [setRow_heap w g _ _ _ _ hg]
      have := splice_vals cur (xs.take dLen) off
      unfold splice at this
      simp only [this]
      rfl
theorem row_whole {w : World} {B E g n : Nat} {xs : List Value} (h : w.ownsRow B E 1 (.slice (some ⟨g, 0, none⟩) n n) n xs) : w.heap[g]? = some (.cells xs.toArray E (0, 0)) := by
  have hn := h.1
  rcases h.2 with ⟨e, _⟩ | ⟨g', cap, cur, e, h2, h3, h4, h5, h6, h7⟩
  · cases e
  · simp only [Value.slice.injEq, Option.some.injEq, Addr.mk.injEq, and_true, true_and] at e
    obtain ⟨rfl, rfl⟩ := e
    rw [h3]
    congr 2
    apply Array.toList_inj.1
    rw [← h7, List.take_of_length_le (by simp; omega)]
/-- a stack that was made in this call -/
def MadeP (w : World) (room : Nat) (cs : List Int) (e : Ending) (w' : World) : Prop := ∃ p g, e = .returned (.pointer (some ⟨p, 0, none⟩)) ∧ PileAt w' w.heap.size p g room cs ∧ Below w.heap.size w w'
theorem Tryz.piIntSize : (Tryz.prog.info? 3).map (·.size) = some 1 := by kernel_rfl
set_option maxHeartbeats 1000000 in
theorem new_any (most : Int) (room : Nat) (hm : (room : Int) = min (max most 0) 1000) (v : Value) (xs : List Int) (w : World) (h : Reads w v xs) : Calls Tryz.prog 118 #[.int .i64 most, v] w (MadeP w room (xs.take room)) := by
  obtain ⟨i0, q1, q2, q3, q4⟩ := info_parts Tryz.bkIntInfo
  have HM := Lib.hid hm
  have hm3 : room ≤ 1000 := by omega
  have HI := Lib.hid (And.intro q1 (And.intro q2 (And.intro q3 q4)))
  have HR := Lib.hid h
  obtain ⟨vo, vc, rfl, _⟩ := h
  clear q1 q2 q3 q4 hm
  go_enter Tryz.func118, Tryz.ntmps118
  go_wp2_with (at_make; refine wpList_make_full _ rfl _ _ 22 rfl w.heap.size 3 i0 (.int .i64 0) 1 Tryz.underlying22 HI.out.1 HI.out.2.1 HI.out.2.2.1 .i64 .i64 _ _ room rfl rfl ?a1 ?a2 ?a3 ?a4 (Nat.le_refl _) ?_)
  case a1 => exact HM.out.symm
  case a2 => exact HM.out.symm
  case a3 => rw [HI.out.2.2.2]; omega
  case a4 => unfold maxLen; omega
  intro w1 hO hG
  rw [toList_madeCells_one] at hO
  have hrow := row_whole hO
  have hz := hG.size
  have hb1 := (Stirred.of_grown hG).below (B := w.heap.size) (fun k h => by cases h) (Nat.le_refl _)
  have hb2 := (Below.refl w1.heap.size w1).alloc (Nat.le_refl _) (.cells #[.slice (some ⟨w.heap.size, 0, none⟩) room room, .int .i64 0] 152)
  have hnew := heap_alloc_new w1 (.cells #[.slice (some ⟨w.heap.size, 0, none⟩) room room, .int .i64 0] 152)
  have hrow2 := (Stirred.of_below hb2 []).whole hrow List.not_mem_nil
  obtain ⟨w2, hw2⟩ : ∃ w2, w1.alloc (.cells #[.slice (some ⟨w.heap.size, 0, none⟩) room room, .int .i64 0] 152) = w2 := ⟨_, rfl⟩
  rw [hw2] at hb2 hnew hrow2
  have hv : List.replicate room (Value.int .i64 0) = vals (full room []) := by simp [full, vals]
  rw [hv] at hrow2
  have hP : PileAt w2 w.heap.size w1.heap.size w.heap.size room [] := ⟨hnew, hz, Nat.le_refl _, hrow2, Nat.zero_le _, hm3⟩
  have c0 := hP.c0
  have k1 := hP.c1
  have f1 := whole_frozen hP.whole 1
  have HP := Lib.hid hP
  have HB := Lib.hid (hb1.trans (hb2.mono hz))
  have HR2 := Lib.hid (HR.out.below HB.out)
  have hw2' : w1.alloc (.cells #[.slice (some ⟨w.heap.size, 0, none⟩) room room, .int .i64 0] 152) = w2 := hw2
  clear hO hG hrow hz hb1 hb2 hnew hrow2 hP hv hw2
  go_wp2_with (with_reducible refine wpList_copy_reads rfl _ _ 22 22 rfl 3 Tryz.underlying22 Tryz.piIntSize (some ⟨w.heap.size, 0, none⟩) room room rfl (.slice vo xs.length vc) xs rfl HR2.out w.heap.size 0 (full room []) 3 HP.out.row (fun _ => rfl) ?c1 ?_)
  case c1 => rw [full_length (Nat.zero_le _)]; omega
  intro w3 hr hs
  have hmin : min xs.length room = (xs.take room).length := by rw [List.length_take, Nat.min_comm]
  have hput := full_put room [] (xs.take room)
  simp only [List.length_nil, List.nil_append] at hput
  rw [hput] at hr
  have hC := HP.out.counted hs hr (by rw [List.length_take]; omega)
  have hw3 := hs.whole HP.out.whole (by simpa using HP.out.pg)
  have f1 : w3.frozen? ⟨w1.heap.size, 1, none⟩ = false := whole_frozen hw3 1
  have k1 := whole_cell hw3 (show (#[Value.slice (some ⟨w.heap.size, 0, none⟩) room room, Value.int .i64 (([] : List Int).length : Nat)])[1]? = _ from rfl)
  obtain ⟨N, hN⟩ : ∃ N, (xs.take room).length = N := ⟨_, rfl⟩
  rw [hmin, hN]
  rw [hN] at hC
  have HR3 := Lib.hid (And.intro hC.1 (HB.out.trans (hC.2.below (B := w.heap.size) (fun k hk => (HP.out.foot_lt k hk).1) HB.out.size)))
  clear hr hs hC hput hmin c0 hN hw3
  go_wp2
  go_ret
  exact ⟨w1.heap.size, w.heap.size, rfl, HR3.out⟩
section
variable {w : World} {B p g room : Nat} {cs : List Int}
theorem made_any (h : PileAt w B p g room cs) : Calls Tryz.prog 154 #[.pointer (some ⟨p, 0, none⟩)] w fun e w' => e = .returned (.bool true) ∧ w' = w := by
  have c0 := h.c0
  clear h
  have hne := run_neq_slice_nil (P := Tryz.prog) w 22 3 (some ⟨g, 0, none⟩) room room Tryz.underlying22
  go_enter Tryz.func154, Tryz.ntmps154
  go_wp2
  go_ret
  exact ⟨rfl, rfl⟩
theorem made_nil (w : World) : Calls Tryz.prog 154 #[.pointer none] w fun e w' => e = .returned (.bool false) ∧ w' = w := by
  go_enter Tryz.func154, Tryz.ntmps154
  go_wp2
  go_ret
  exact ⟨rfl, rfl⟩
theorem len_any (h : PileAt w B p g room cs) : Calls Tryz.prog 140 #[.pointer (some ⟨p, 0, none⟩)] w fun e w' => e = .returned (.int .i64 cs.length) ∧ w' = w := by
  have c1 := h.c1
  clear h
  obtain ⟨n, hn⟩ : ∃ n, cs.length = n := ⟨_, rfl⟩
  rw [hn] at c1 ⊢
  clear hn
  go_enter Tryz.func140, Tryz.ntmps140
  go_wp2
  go_ret
  exact ⟨rfl, rfl⟩
theorem len_nil (w : World) : Calls Tryz.prog 140 #[.pointer none] w fun e w' => e = .returned (.int .i64 0) ∧ w' = w := by
  go_enter Tryz.func140, Tryz.ntmps140
  go_wp2
  go_ret
  exact ⟨rfl, rfl⟩
theorem has_yes (h : PileAt w B p g room cs) (j : Nat) (hj : j < cs.length) : Calls Tryz.prog 153 #[.pointer (some ⟨p, 0, none⟩), .int .i64 j] w fun e w' => e = .returned (.bool true) ∧ w' = w := by
  have C := Lib.hid (len_any h)
  have hl := h.fits
  have hm := h.most
  clear h
  obtain ⟨n, hn⟩ : ∃ n, cs.length = n := ⟨_, rfl⟩
  rw [hn] at C hl hj
  clear hn
  have h0 : (0 : Int) ≤ (j : Int) := by omega
  have h1 : (j : Int) < (n : Int) := by omega
  go_enter Tryz.func153, Tryz.ntmps153
  go_wp2_with (go_at_call 140; refine C.out.mono ?_; rintro e wz ⟨rfl, hwz⟩; subst wz)
  go_ret
  exact ⟨rfl, rfl⟩
theorem has_no (h : PileAt w B p g room cs) (a : Int) (ha : ¬ (0 ≤ a ∧ a < (cs.length : Int))) : Calls Tryz.prog 153 #[.pointer (some ⟨p, 0, none⟩), .int .i64 a] w fun e w' => e = .returned (.bool false) ∧ w' = w := by
  have C := Lib.hid (len_any h)
  have hl := h.fits
  have hm := h.most
  clear h
  obtain ⟨n, hn⟩ : ∃ n, cs.length = n := ⟨_, rfl⟩
  rw [hn] at C hl ha
  clear hn
  by_cases h0 : 0 ≤ a
  · have h1 : decide (a < (n : Int)) = false := by simp; omega
    clear ha
    go_enter Tryz.func153, Tryz.ntmps153
    go_wp2_with (go_at_call 140; refine C.out.mono ?_; rintro e wz ⟨rfl, hwz⟩; subst wz)
    go_ret
    exact ⟨rfl, rfl⟩
  · clear ha
    go_enter Tryz.func153, Tryz.ntmps153
    go_wp2
    go_ret
    exact ⟨rfl, rfl⟩
theorem has_nil (a : Int) (w : World) : Calls Tryz.prog 153 #[.pointer none, .int .i64 a] w fun e w' => e = .returned (.bool false) ∧ w' = w := by
  have C := Lib.hid (len_nil w)
  by_cases h0 : 0 ≤ a
  · have h1 : decide (a < (0 : Int)) = false := by simp; omega
    go_enter Tryz.func153, Tryz.ntmps153
    go_wp2_with (go_at_call 140; refine C.out.mono ?_; rintro e wz ⟨rfl, hwz⟩; subst wz)
    go_ret
    exact ⟨rfl, rfl⟩
  · go_enter Tryz.func153, Tryz.ntmps153
    go_wp2
    go_ret
    exact ⟨rfl, rfl⟩
end
end Go.Proofs.YtcffbeihgchpgaaGreatDoor
/- Package pile: what lies there, as a list, one by one; copies. -/
namespace Go.Proofs.YtcffbeihgchpgaaGreatDoor
open Go.RowKit Book Mem
set_option linter.unusedSimpArgs false
set_option linter.unusedVariables false
section
variable {w : World} {B p g room : Nat} {cs : List Int}
theorem peek_yes (h : PileAt w B p g room cs) (j : Nat) (x : Int) (hj : j < cs.length) (hx : cs[cs.length - 1 - j]? = some x) : Calls Tryz.prog 139 #[.pointer (some ⟨p, 0, none⟩), .int .i64 j] w fun e w' => e = .returned (.tuple #[.int .i64 x, .bool true]) ∧ ∃ q, w' = w.drewN q := by
  have C := Lib.hid (has_yes h j hj)
  have hl := h.fits
  have hm := h.most
  have k := h.cell (j := cs.length - 1 - j) (by omega)
  rw [show cs[cs.length - 1 - j] = x by rw [List.getElem?_eq_getElem (by omega)] at hx; simpa using hx] at k
  have c0 := h.c0
  have c1 := h.c1
  obtain ⟨n, hn⟩ : ∃ n, cs.length = n := ⟨_, rfl⟩
  rw [hn] at c1 hl hj k
  clear hn hx h
  obtain ⟨i, hi⟩ : ∃ i, n - 1 - j = i := ⟨_, rfl⟩
  rw [hi] at k
  have e1 : (n : Int) - 1 - (j : Int) = (i : Int) := by omega
  have e2 : (0 : Int) ≤ (i : Int) := by omega
  have e3 : (i : Int) < (room : Int) := by omega
  have e4 : (n : Int) - 1 = (i : Int) + (j : Int) := by omega
  go_enter Tryz.func139, Tryz.ntmps139
  go_wp2_with fail
  refine C.out.mono ?_
  rintro e wz ⟨rfl, hwz⟩
  subst wz
  go_wp2_with fail
  go_region
  go_wp2
  go_ret2
  exact ⟨rfl, 1, rfl⟩
theorem peek_no (h : PileAt w B p g room cs) (a : Int) (ha : ¬ (0 ≤ a ∧ a < (cs.length : Int))) : Calls Tryz.prog 139 #[.pointer (some ⟨p, 0, none⟩), .int .i64 a] w fun e w' => e = .returned (.tuple #[.int .i64 0, .bool false]) ∧ w' = w := by
  have C := Lib.hid (has_no h a ha)
  clear h ha
  go_enter Tryz.func139, Tryz.ntmps139
  go_wp2_with (go_at_call 153; refine C.out.mono ?_; rintro e wz ⟨rfl, hwz⟩; subst wz)
  go_ret2
  exact ⟨rfl, rfl⟩
theorem peek_nil (a : Int) (w : World) : Calls Tryz.prog 139 #[.pointer none, .int .i64 a] w fun e w' => e = .returned (.tuple #[.int .i64 0, .bool false]) ∧ w' = w := by
  have C := Lib.hid (has_nil a w)
  go_enter Tryz.func139, Tryz.ntmps139
  go_wp2_with (go_at_call 153; refine C.out.mono ?_; rintro e wz ⟨rfl, hwz⟩; subst wz)
  go_ret2
  exact ⟨rfl, rfl⟩
/-- a stack to which something was done, in these blocks -/
def Did (w : World) (B p g room : Nat) (cs : List Int) (bs : List Nat) (e : Ending) (w' : World) : Prop := e = .returned (.bool true) ∧ PileAt w' B p g room cs ∧ Stirred w w' bs
theorem cut_nil (a : Int) (w : World) : Calls Tryz.prog 141 #[.pointer none, .int .i64 a] w fun e w' => e = .returned (.bool false) ∧ w' = w := by
  have C := Lib.hid (made_nil w)
  go_enter Tryz.func141, Tryz.ntmps141
  go_wp2_with (go_at_call 154; refine C.out.mono ?_; rintro e wz ⟨rfl, hwz⟩; subst wz)
  go_ret
  exact ⟨rfl, rfl⟩
theorem cut_no (h : PileAt w B p g room cs) (a : Int) (ha : ¬ (0 ≤ a ∧ a ≤ (room : Int))) : Calls Tryz.prog 141 #[.pointer (some ⟨p, 0, none⟩), .int .i64 a] w fun e w' => e = .returned (.bool false) ∧ w' = w := by
  have C := Lib.hid (made_any h)
  have hl := h.fits
  have hm := h.most
  have c0 := h.c0
  have c1 := h.c1
  clear h
  obtain ⟨n, hn⟩ : ∃ n, cs.length = n := ⟨_, rfl⟩
  rw [hn] at c1 hl
  clear hn
  by_cases h0 : a < 0
  · clear ha
    go_enter Tryz.func141, Tryz.ntmps141
    go_wp2_with (go_at_call 154; refine C.out.mono ?_; rintro e wz ⟨rfl, hwz⟩; subst wz)
    go_ret
    exact ⟨rfl, rfl⟩
  · have h1 : decide (a < 0) = false := by simp; omega
    have h2 : decide (a < (n : Int)) = false := by simp; omega
    have h3 : decide (a ≤ (room : Int)) = false := by simp; omega
    clear ha h0
    go_enter Tryz.func141, Tryz.ntmps141
    go_wp2_with (go_at_call 154; refine C.out.mono ?_; rintro e wz ⟨rfl, hwz⟩; subst wz)
    go_ret
    exact ⟨rfl, rfl⟩
theorem cut_more (h : PileAt w B p g room cs) (m : Nat) (h1 : cs.length ≤ m) (h2 : m ≤ room) : Calls Tryz.prog 141 #[.pointer (some ⟨p, 0, none⟩), .int .i64 m] w (Did w B p g room (cs ++ List.replicate (m - cs.length) 0) [p]) := by
  have C := Lib.hid (made_any h)
  have hl := h.fits
  have hm := h.most
  have c0 := h.c0
  have c1 := h.c1
  have f1 := whole_frozen h.whole 1
  have hlen : (cs ++ List.replicate (m - cs.length) (0 : Int)).length = m := by simp; omega
  have hC := h.counted (w' := w) (cs' := cs ++ List.replicate (m - cs.length) 0) (Stirred.refl _ _) (by rw [full_more (by omega)]; exact h.row) (by omega)
  rw [hlen] at hC
  have HR := Lib.hid (And.intro hC.1 (Stirred.setCell w ⟨p, 1, none⟩ (.int .i64 m)))
  clear hC hlen h
  obtain ⟨n, hn⟩ : ∃ n, cs.length = n := ⟨_, rfl⟩
  rw [hn] at c1 hl h1 HR ⊢
  clear hn
  have e1 : decide ((m : Int) < 0) = false := by simp
  have e2 : decide ((m : Int) < (n : Int)) = false := by simp; omega
  have e3 : decide ((m : Int) ≤ (room : Int)) = true := by simp; omega
  go_enter Tryz.func141, Tryz.ntmps141
  go_wp2_with (go_at_call 154; refine C.out.mono ?_; rintro e wz ⟨rfl, hwz⟩; subst wz)
  go_ret
  exact ⟨rfl, HR.out⟩
theorem cut_less (h : PileAt w B p g room cs) (m : Nat) (h1 : m < cs.length) : Calls Tryz.prog 141 #[.pointer (some ⟨p, 0, none⟩), .int .i64 m] w (Did w B p g room (cs.take m) (foot p g)) := by
  have C := Lib.hid (made_any h)
  have HP := Lib.hid h
  have hl := h.fits
  have hm := h.most
  have c0 := h.c0
  have c1 := h.c1
  have f1 := whole_frozen h.whole 1
  have hcl : ∀ ty, (Builtin.clear_ #[22] ty #[.slice (some ⟨g, m, none⟩) (cs.length - m) (room - m)]).run Tryz.prog w.drew = .ok (.tuple #[]) (w.drew.setCells g m (List.replicate (cs.length - m) (.int .i64 0))) := fun ty =>
    Lib.run_clear_slice w.drew 22 3 ty (.int .i64 0) Tryz.underlying22 Tryz.zeroValue3 rfl rfl g m _ _ (by omega) (fun j hj => (h.there (by omega)).1) (fun j hj => (h.there (j := m + j) (by omega)).2)
  have hs : Stirred w (w.drew.setCells g m (List.replicate (cs.length - m) (.int .i64 0))) [g] := (Stirred.drew w [g]).trans (stirred_setCells g _ m _) (fun k hk => .inl hk)
  have hr := heap_setCells g 3 (List.replicate (cs.length - m) (.int .i64 0)) m w.drew (vals (full room cs)) h.row (by rw [vals_length, full_length hl, List.length_replicate]; omega)
  rw [show List.replicate (cs.length - m) (Value.int .i64 0) = vals (List.replicate (cs.length - m) 0) by simp [vals], splice_vals, full_cut (by omega) hl] at hr
  have hv : List.replicate (cs.length - m) (Value.int .i64 0) = vals (List.replicate (cs.length - m) 0) := by simp [vals]
  rw [hv] at hcl hs
  have hlen : (cs.take m).length = m := by rw [List.length_take]; omega
  obtain ⟨w2, hw2⟩ : ∃ w2, w.drew.setCells g m (vals (List.replicate (cs.length - m) 0)) = w2 := ⟨_, rfl⟩
  rw [hw2] at hr hs hcl
  have hC := h.counted hs hr (by omega)
  rw [hlen] at hC
  have HR := Lib.hid hC
  have hw := hs.whole h.whole (by simpa using h.pg)
  have k1 : w2.cell? ⟨p, 1, none⟩ = some (.int .i64 cs.length) := whole_cell hw rfl
  have f2 := whole_frozen hw 1
  have hw2' := Lib.hid hw2
  clear hs hr hv hlen hw2 hC hw h
  obtain ⟨n, hn⟩ : ∃ n, cs.length = n := ⟨_, rfl⟩
  rw [hn] at c1 hl h1 hcl k1
  clear hn
  have e1 : decide ((m : Int) < 0) = false := by simp
  have e2 : decide ((m : Int) < (n : Int)) = true := by simp; omega
  have e3 : (m : Int) < (n : Int) := by omega
  have e4 : (n : Int) ≤ (room : Int) := by omega
  have e5 : (0 : Int) ≤ (m : Int) := by omega
  go_enter Tryz.func141, Tryz.ntmps141
  go_wp2_with fail
  refine C.out.mono ?_
  rintro e wz ⟨rfl, hwz⟩
  subst wz
  go_wp2_with fail
  go_region
  go_wp2
  go_ret
  exact ⟨rfl, HR.out⟩
end
end Go.Proofs.YtcffbeihgchpgaaGreatDoor
/- Package pile: laying on, taking; all, copies. -/
namespace Go.Proofs.YtcffbeihgchpgaaGreatDoor
open Go.RowKit Book Mem
set_option linter.unusedSimpArgs false
set_option linter.unusedVariables false
section
variable {w : World} {B p g room : Nat} {cs : List Int}
theorem clone_part (h : PileAt w B p g room cs) (o n : Nat) (c : Nat) (ho : o + n = cs.length) : Calls Tryz.prog 145 #[.slice (some ⟨g, o, none⟩) n c] w fun e w' => ∃ v, e = .returned v ∧ Owns w' w.heap.size 3 v (vals (cs.drop o)) ∧ Below w.heap.size w w' := by
  have hl := h.fits
  have hm := h.most
  have hd : (cs.drop o).length = n := by rw [List.length_drop]; omega
  refine (Tryz.slices_Clone_int g o n c (cs.drop o) w (by omega) (by omega) (fun j hj => ?_)).mono fun e w' ⟨v', h1, h2, _, h3⟩ => ⟨v', h1, ?_, h3⟩
  · have := h.cell (j := o + j) (by omega)
    rw [this]
    simp [List.getD_eq_getElem?_getD, List.getElem?_drop, List.getElem?_eq_getElem (show o + j < cs.length by omega)]
  · rw [List.take_of_length_le (by omega)] at h2
    exact Owns.of_row h2
theorem all_nil (w : World) : Calls Tryz.prog 123 #[.pointer none] w fun e w' => e = .returned (.slice none 0 0) ∧ w' = w := by
  go_enter Tryz.func123, Tryz.ntmps123
  go_wp2
  go_ret
  exact ⟨rfl, rfl⟩
theorem all_any (h : PileAt w B p g room cs) : Calls Tryz.prog 123 #[.pointer (some ⟨p, 0, none⟩)] w fun e w' => ∃ c, e = .returned c ∧ Owns w' w.heap.size 3 c (vals cs) ∧ Below w.heap.size w w' := by
  have hl := h.fits
  have hm := h.most
  have c0 := h.c0
  have c1 := h.c1
  have C := Lib.hid (clone_part (h.touch (Stirred.drew w []) (fun _ _ => List.not_mem_nil)) 0 cs.length room (Nat.zero_add _))
  rw [List.drop_zero] at C
  clear h
  obtain ⟨n, hn⟩ : ∃ n, cs.length = n := ⟨_, rfl⟩
  rw [hn] at c1 hl C
  clear hn
  have e1 : (n : Int) ≤ (room : Int) := by omega
  go_enter Tryz.func123, Tryz.ntmps123
  go_wp2_with fail
  go_region_held3 (fun w' => w'.cell? ⟨p, 0, none⟩ = some (.slice (some ⟨g, 0, none⟩) room room) ∧ w'.cell? ⟨p, 1, none⟩ = some (.int .i64 n))
    (first
      | exact ⟨(Stirred.of_below HB1.out []).cell (List.not_mem_nil) c0, (Stirred.of_below HB1.out []).cell (List.not_mem_nil) c1⟩
      | exact ⟨c0, c1⟩)
    (first
      | (go_at_call 145; refine C.out.mono ?_; rintro e w1 ⟨c, rfl, hO, hB⟩; have HO := Lib.hid hO; have HB1 := Lib.hid ((Below.refl w.heap.size w).drew.trans hB); clear hO hB))
  all_goals go_wp2
  go_ret
  exact ⟨c, rfl, HO.out, HB1.out⟩
/-- the list that a stack holds behind Cut(m) -/
def cutTo (cs : List Int) (m : Nat) : List Int := cs.take m ++ List.replicate (m - cs.length) 0
theorem cutTo_length (cs : List Int) (m : Nat) : (cutTo cs m).length = m := by simp [cutTo]; omega
theorem cutTo_less {cs : List Int} {m : Nat} (h : m ≤ cs.length) : cutTo cs m = cs.take m := by simp [cutTo, Nat.sub_eq_zero_of_le h]
theorem cutTo_more {cs : List Int} {m : Nat} (h : cs.length ≤ m) : cutTo cs m = cs ++ List.replicate (m - cs.length) 0 := by simp [cutTo, List.take_of_length_le h]
theorem cut_yes (h : PileAt w B p g room cs) (m : Nat) (hm : m ≤ room) : Calls Tryz.prog 141 #[.pointer (some ⟨p, 0, none⟩), .int .i64 m] w (Did w B p g room (cutTo cs m) (foot p g)) := by
  by_cases hlt : m < cs.length
  · rw [cutTo_less (by omega)]
    exact cut_less h m hlt
  · rw [cutTo_more (by omega)]
    exact (cut_more h m (by omega) hm).mono fun e w' ⟨h1, h2, h3⟩ => ⟨h1, h2, h3.more (fun k hk => by simp at hk; simp [hk])⟩
/-- what was taken, and the stack without it -/
def Took (w : World) (B p g room : Nat) (cs : List Int) (m : Nat) (e : Ending) (w' : World) : Prop :=
  ∃ v, e = .returned (.tuple #[v, .bool true]) ∧ Owns w' w.heap.size 3 v (vals (cs.drop m)) ∧ PileAt w' B p g room (cs.take m) ∧ Stirred w w' (foot p g)
theorem pop_nil (a : Int) (w : World) : Calls Tryz.prog 155 #[.pointer none, .int .i64 a] w fun e w' => e = .returned (.tuple #[.slice none 0 0, .bool false]) ∧ w' = w := by
  have C := Lib.hid (made_nil w)
  go_enter Tryz.func155, Tryz.ntmps155
  go_wp2_with (go_at_call 154; refine C.out.mono ?_; rintro e wz ⟨rfl, hwz⟩; subst wz)
  go_ret2
  exact ⟨rfl, rfl⟩
theorem pop_no (h : PileAt w B p g room cs) (a : Int) (ha : ¬ (0 ≤ a ∧ a ≤ (cs.length : Int))) : Calls Tryz.prog 155 #[.pointer (some ⟨p, 0, none⟩), .int .i64 a] w fun e w' => e = .returned (.tuple #[.slice none 0 0, .bool false]) ∧ w' = w := by
  have C := Lib.hid (made_any h)
  have hl := h.fits
  have hm := h.most
  have c1 := h.c1
  clear h
  obtain ⟨n, hn⟩ : ∃ n, cs.length = n := ⟨_, rfl⟩
  rw [hn] at c1 hl ha
  clear hn
  by_cases h0 : a < 0
  · clear ha
    go_enter Tryz.func155, Tryz.ntmps155
    go_wp2_with (go_at_call 154; refine C.out.mono ?_; rintro e wz ⟨rfl, hwz⟩; subst wz)
    go_ret2
    exact ⟨rfl, rfl⟩
  · have h1 : decide (a < 0) = false := by simp; omega
    have h2 : decide ((n : Int) < a) = true := by simp; omega
    clear ha h0
    go_enter Tryz.func155, Tryz.ntmps155
    go_wp2_with (go_at_call 154; refine C.out.mono ?_; rintro e wz ⟨rfl, hwz⟩; subst wz)
    go_ret2
    exact ⟨rfl, rfl⟩
set_option maxHeartbeats 1000000 in
theorem pop_yes (h : PileAt w B p g room cs) (hB : B ≤ w.heap.size) (a m : Nat) (ha : m + a = cs.length) : Calls Tryz.prog 155 #[.pointer (some ⟨p, 0, none⟩), .int .i64 a] w (Took w B p g room cs m) := by
  have C := Lib.hid (made_any h)
  have HP := Lib.hid h
  have HB := Lib.hid hB
  have hl := h.fits
  have hm := h.most
  have c0 := h.c0
  have c1 := h.c1
  obtain ⟨n, hn⟩ : ∃ n, cs.length = n := ⟨_, rfl⟩
  have HN := Lib.hid hn
  rw [hn] at c1 hl ha
  clear hn hB
  have e1 : decide ((a : Int) < 0) = false := by simp
  have e2 : decide ((n : Int) < (a : Int)) = false := by simp; omega
  have e3 : (n : Int) - (a : Int) = (m : Int) := by omega
  have e4 : (n : Int) ≤ (room : Int) := by omega
  have e5 : (0 : Int) ≤ (m : Int) := by omega
  have e6 : (m : Int) ≤ (n : Int) := by omega
  have e7 : n - m = a := by omega
  by_cases hrm : room = m
  · obtain rfl : a = 0 := by omega
    obtain rfl : m = n := by omega
    subst hrm
    have D := Lib.hid (show Calls Tryz.prog 145 #[.slice (some ⟨g, 0, none⟩) 0 0] w.drew fun e w' => ∃ v, e = .returned v ∧ Owns w' w.drew.heap.size 3 v (vals (cs.drop room)) ∧ Below w.drew.heap.size w.drew w' from by
      rw [List.drop_eq_nil_of_le (by have := HN.out; omega)]
      exact (Tryz.slices_Clone_int_zero ⟨g, 0, none⟩ 0 w.drew).mono fun e w' ⟨v', h1, h2, _, h3⟩ => ⟨v', h1, Owns.of_row h2, h3⟩)
    clear h ha e1 e2 e3 e4 e6 e7
    go_enter Tryz.func155, Tryz.ntmps155
    go_wp2_with fail
    refine C.out.mono ?_
    rintro e wz ⟨rfl, hwz⟩
    subst wz
    clear C
    go_wp2_with fail
    go_region_held3 (fun w' => w'.cell? ⟨p, 0, none⟩ = some (.slice (some ⟨g, 0, none⟩) room room) ∧ w'.cell? ⟨p, 1, none⟩ = some (.int .i64 room))
      (first
        | exact ⟨(Stirred.of_below HB1.out []).cell (List.not_mem_nil) c0, (Stirred.of_below HB1.out []).cell (List.not_mem_nil) c1⟩
        | exact ⟨c0, c1⟩)
      (first
        | (go_at_call 145; refine D.out.mono ?_; rintro e w1 ⟨c, rfl, hO, hB⟩; have HO := Lib.hid hO; have HB1 := Lib.hid ((Below.refl w.heap.size w).drew.trans hB); clear hO hB))
    have E := Lib.hid (cut_yes (HP.out.below HB1.out) room (Nat.le_refl _))
    clear D
    go_wp2_with fail
    refine E.out.mono ?_
    rintro e w2 ⟨rfl, hP2, hs⟩
    rw [cutTo_less (by have := HN.out; omega)] at hP2
    have HR := Lib.hid (And.intro (HO.out.touch hs (fun k hk hm => by
      have h1 := (HO.out.block k hk).1
      have h2 := (HP.out.foot_lt k hm).2
      have h3 : w.drew.heap.size = w.heap.size := rfl
      omega)) (And.intro hP2 ((Stirred.of_below HB1.out _).trans hs (fun k hk => .inl hk))))
    clear hP2 hs E
    go_wp2
    go_ret2
    exact ⟨c, rfl, HR.out⟩
  · have D := Lib.hid (clone_part (h.touch (Stirred.drew w []) (fun _ _ => List.not_mem_nil)) m a (room - m) (by have := HN.out; omega))
    clear h
    go_enter Tryz.func155, Tryz.ntmps155
    go_wp2_with fail
    refine C.out.mono ?_
    rintro e wz ⟨rfl, hwz⟩
    subst wz
    clear C
    go_wp2_with fail
    go_region_held3 (fun w' => w'.cell? ⟨p, 0, none⟩ = some (.slice (some ⟨g, 0, none⟩) room room) ∧ w'.cell? ⟨p, 1, none⟩ = some (.int .i64 n))
      (first
        | exact ⟨(Stirred.of_below HB1.out []).cell (List.not_mem_nil) c0, (Stirred.of_below HB1.out []).cell (List.not_mem_nil) c1⟩
        | exact ⟨c0, c1⟩)
      (first
        | (go_at_call 145; refine D.out.mono ?_; rintro e w1 ⟨c, rfl, hO, hB⟩; have HO := Lib.hid hO; have HB1 := Lib.hid ((Below.refl w.heap.size w).drew.trans hB); clear hO hB))
    have E := Lib.hid (cut_yes (HP.out.below HB1.out) m (by omega))
    clear D
    go_wp2_with fail
    refine E.out.mono ?_
    rintro e w2 ⟨rfl, hP2, hs⟩
    rw [cutTo_less (by have := HN.out; omega)] at hP2
    have HR := Lib.hid (And.intro (HO.out.touch hs (fun k hk hm => by
      have h1 := (HO.out.block k hk).1
      have h2 := (HP.out.foot_lt k hm).2
      have h3 : w.drew.heap.size = w.heap.size := rfl
      omega)) (And.intro hP2 ((Stirred.of_below HB1.out _).trans hs (fun k hk => .inl hk))))
    clear hP2 hs E
    go_wp2
    go_ret2
    exact ⟨c, rfl, HR.out⟩
theorem push_nil (v : Value) (n : Nat) (hv : ∃ ao c, v = .slice ao n c) (hn : n ≤ 1000000) (w : World) : Calls Tryz.prog 143 #[.pointer none, v] w fun e w' => e = .returned (.bool false) ∧ w' = w := by
  obtain ⟨ao, c, rfl⟩ := hv
  have C := Lib.hid (len_nil w)
  have D := Lib.hid (cut_nil n w)
  have e1 : (0 : Int) + (n : Int) = (n : Int) := by omega
  go_enter Tryz.func143, Tryz.ntmps143
  go_wp2_with fail
  refine C.out.mono ?_
  rintro e wz ⟨rfl, hwz⟩
  subst wz
  go_wp2_with fail
  refine D.out.mono ?_
  rintro e wz ⟨rfl, hwz⟩
  subst wz
  go_wp2
  go_ret
  exact ⟨rfl, rfl⟩
theorem push_no (h : PileAt w B p g room cs) (v : Value) (n : Nat) (hv : ∃ ao c, v = .slice ao n c) (hn : n ≤ 1000000) (hno : ¬ cs.length + n ≤ room) : Calls Tryz.prog 143 #[.pointer (some ⟨p, 0, none⟩), v] w fun e w' => e = .returned (.bool false) ∧ w' = w := by
  obtain ⟨ao, c, rfl⟩ := hv
  have C := Lib.hid (len_any h)
  have D := Lib.hid (cut_no h ((cs.length : Int) + (n : Int)) (by omega))
  have hl := h.fits
  have hm := h.most
  clear h hno
  obtain ⟨k, hk⟩ : ∃ k, cs.length = k := ⟨_, rfl⟩
  rw [hk] at C D hl
  clear hk
  go_enter Tryz.func143, Tryz.ntmps143
  go_wp2_with fail
  refine C.out.mono ?_
  rintro e wz ⟨rfl, hwz⟩
  subst wz
  go_wp2_with fail
  refine D.out.mono ?_
  rintro e wz ⟨rfl, hwz⟩
  subst wz
  go_wp2
  go_ret
  exact ⟨rfl, rfl⟩
theorem Mem.PileAt.put {xs : List Int} {w' : World} (h : PileAt w B p g room (cs ++ List.replicate xs.length 0)) (hs : Stirred w w' [g]) (hr : w'.heap[g]? = some (.cells (vals (splice (full room (cs ++ List.replicate xs.length 0)) cs.length xs)).toArray 3 (0, 0))) : PileAt w' B p g room (cs ++ xs) := by
  have hl := h.fits
  have e : (cs ++ List.replicate xs.length (0 : Int)).length = (cs ++ xs).length := by simp
  rw [full_more (by simpa using hl), full_put] at hr
  refine ⟨by rw [← e]; exact hs.whole h.whole (by simpa using h.pg), h.le, h.leg, hr, by rw [← e]; exact hl, h.most⟩
set_option maxHeartbeats 1000000 in
theorem push_yes (h : PileAt w B p g room cs) (v : Value) (xs : List Int) (hv : ∀ w', Stirred w w' (foot p g) → Reads w' v xs) (hfit : cs.length + xs.length ≤ room) : Calls Tryz.prog 143 #[.pointer (some ⟨p, 0, none⟩), v] w (Did w B p g room (cs ++ xs) (foot p g)) := by
  have HV := Lib.hid hv
  obtain ⟨vo, vc, rfl, -⟩ := hv w (Stirred.refl _ _)
  have C := Lib.hid (len_any h)
  have D := Lib.hid (cut_yes h (cs.length + xs.length) hfit)
  have hc : cutTo cs (cs.length + xs.length) = cs ++ List.replicate xs.length 0 := by rw [cutTo_more (by omega)]; congr 2; omega
  rw [hc] at D
  have hl := h.fits
  have hm := h.most
  clear h hc hv
  obtain ⟨k, hk⟩ : ∃ k, cs.length = k := ⟨_, rfl⟩
  obtain ⟨n, hn⟩ : ∃ n, xs.length = n := ⟨_, rfl⟩
  rw [hk, hn] at hfit
  rw [hk] at C hl
  have HK := Lib.hid (And.intro hk hn)
  obtain ⟨K, hK⟩ : ∃ K, k + n = K := ⟨_, rfl⟩
  have e1 : (k : Int) + (n : Int) = (K : Int) := by omega
  have D' := Lib.hid D.out
  rw [hk, hn, hK] at D'
  rw [hn]
  clear hk hn D
  have e2 : (0 : Int) ≤ (k : Int) := by omega
  have e3 : (k : Int) ≤ (room : Int) := by omega
  by_cases hrk : room = k
  · obtain rfl : n = 0 := by omega
    obtain rfl : K = k := by omega
    subst hrk
    clear hK hl e1 e3
    go_enter Tryz.func143, Tryz.ntmps143
    go_wp2_with fail
    refine C.out.mono ?_
    rintro e wz ⟨rfl, hwz⟩
    subst wz
    clear C
    go_wp2_with fail
    refine D'.out.mono ?_
    rintro e w1 ⟨rfl, hP, hs⟩
    have HV1 := Lib.hid (HV.out w1 hs)
    rw [HK.out.2] at HV1
    have HP1 := Lib.hid hP
    have HS1 := Lib.hid hs
    have c0 := hP.c0
    clear hP hs D'
    go_wp2_with (with_reducible refine wpList_copy_reads rfl _ _ 22 22 rfl 3 Tryz.underlying22 Tryz.piIntSize (some ⟨g, 0, none⟩) 0 0 rfl (.slice vo 0 vc) xs rfl HV1.out g room (full room (cs ++ List.replicate 0 0)) 3 HP1.out.row ?c0 ?c1 ?_)
    case c0 => intro h0; omega
    case c1 => rw [full_length HP1.out.fits]; omega
    intro w2 hr hs2
    have hx : xs = [] := List.eq_nil_of_length_eq_zero HK.out.2
    have hP2 := Mem.PileAt.put (cs := cs) (xs := xs) (by rw [HK.out.2]; exact HP1.out) hs2 (by rw [HK.out.1, HK.out.2, hx]; simpa using hr)
    have HR := Lib.hid (And.intro hP2 (HS1.out.trans hs2 (fun k hk => .inl (by simp at hk; simp [hk]))))
    clear hr hs2 hP2
    go_wp2
    go_ret
    exact ⟨rfl, HR.out⟩
  · skip
    go_enter Tryz.func143, Tryz.ntmps143
    go_wp2_with fail
    refine C.out.mono ?_
    rintro e wz ⟨rfl, hwz⟩
    subst wz
    clear C
    go_wp2_with fail
    refine D'.out.mono ?_
    rintro e w1 ⟨rfl, hP, hs⟩
    have HV1 := Lib.hid (HV.out w1 hs)
    rw [HK.out.2] at HV1
    have HP1 := Lib.hid hP
    have HS1 := Lib.hid hs
    have c0 := hP.c0
    clear hP hs D'
    go_wp2_with (with_reducible refine wpList_copy_reads rfl _ _ 22 22 rfl 3 Tryz.underlying22 Tryz.piIntSize (some ⟨g, k, none⟩) (room - k) (room - k) rfl (.slice vo n vc) xs rfl HV1.out g k (full room (cs ++ List.replicate n 0)) 3 HP1.out.row ?c0 ?c1 ?_)
    case c1 => rw [full_length HP1.out.fits, HK.out.2]; omega
    intro w2 hr hs2
    rw [List.take_of_length_le (by rw [HK.out.2]; omega)] at hr
    have hP2 := Mem.PileAt.put (cs := cs) (xs := xs) (by rw [HK.out.2]; exact HP1.out) hs2 (by rw [HK.out.1, HK.out.2]; exact hr)
    have HR := Lib.hid (And.intro hP2 (HS1.out.trans hs2 (fun k hk => .inl (by simp at hk; simp [hk]))))
    clear hr hs2 hP2
    go_wp2
    go_ret
    exact ⟨rfl, HR.out⟩
end
end Go.Proofs.YtcffbeihgchpgaaGreatDoor
