
/- Package pile: making, reading, copying, of a stack and of none. -/
import Derived.Test.YtlomfmilohbgpaaGreatDoorPilePlain
import Derived.Test.YtlomfmilohbgpaaGreatDoorCloneInts
import Derived.Test.YtlomfmilohbgpaaGreatDoorBookInts
import Derived.Laws.Cover3
import Derived.Lib.MinMax
import Derived.Lib.SliceRun
import Derived.Laws.CopyOwn
import Derived.Laws.AppendOwnNone
import Derived.BigQuiet
import Derived.Deep.QuietTactic
namespace Go.Proofs.YtlomfmilohbgpaaGreatDoor
open Go.RowKit Book Mem
set_option linter.unusedSimpArgs false
set_option linter.unusedVariables false
theorem Mem.stirred_setRow (w : World) (g : Nat) (cs : Array Value) : Stirred w (w.setRow g cs) [g] :=
  ⟨rfl, rfl, rfl, by simp, fun k hk hn => setRow_other w g k cs (by simpa using hn)⟩
/-- 'copy(x[off:], l)' into a block that is known whole -/
theorem wpList_copy_reads {P : Program} {w : World} {ops : Array Oper} {rest : List Oper} {o : Oper} {a : Act} {Q : Exit → Act → World → Prop} (hgd : o.guard = none) (d s : Operand) (dT sT : TypeId)
    (ho : o.op = .call { callee := .builtin .copy, args := #[d, s], argTypes := #[dT, sT] }) (elem : TypeId) (hu : P.underlying dT = some (.slice elem)) (hsz : (P.info? elem).map (·.size) = some 1)
    (dp : Option Addr) (dLen dCap : Nat) (hd : a.eval d = .slice dp dLen dCap) (v : Value) (xs : List Int) (hs : a.eval s = v) (hr : Reads w v xs)
    (g off : Nat) (cur : List Int) (t : TypeId) (hg : w.heap[g]? = some (.cells (vals cur).toArray t (0, 0))) (hp : 0 < min xs.length dLen → dp = some ⟨g, off, none⟩) (hfit : off + min xs.length dLen ≤ cur.length)
    (h : ∀ w', w'.heap[g]? = some (.cells (vals (splice cur off (xs.take dLen))).toArray t (0, 0)) → Stirred w w' [g] → wpList P ops Q rest (a.put o.dst (.int .i64 (min xs.length dLen : Nat))) w') :
    wpList P ops Q (o :: rest) a w := by
  obtain ⟨ao, cap, rfl, hc⟩ := hr
  have hl : (vals (xs.take dLen)).length = Nat.min xs.length dLen := by rw [vals_length, List.length_take, Nat.min_comm]
  by_cases h0 : min xs.length dLen = 0
  · have hx : xs.take dLen = [] := List.eq_nil_of_length_eq_zero (by rw [List.length_take, Nat.min_comm]; exact h0)
    refine wpList_copy_nothing hgd d s dT sT ho elem hu hsz dp ao dLen dCap xs.length cap hd hs h0 ?_
    have := h w (by rw [hx]; simpa [splice] using hg) (Stirred.refl _ _)
    rw [h0] at this
    exact this
  · have hxl : 0 < xs.length := by omega
    obtain ⟨ad, rfl, _⟩ := hc 0 xs[0] (List.getElem?_eq_getElem hxl)
    have hd' := hp (by omega)
    subst hd'
    refine wpList_copy_own hgd d s dT sT ho elem hu hsz g off dLen dCap ad xs.length cap hd hs (vals cur).toArray t hg (vals (xs.take dLen)) hl (fun j v hj => ?_) (by rw [hl]; simpa using hfit) (vals_one _) ?_
    · simp only [vals, List.getElem?_map, Option.map_eq_some_iff] at hj
      obtain ⟨x, hx, rfl⟩ := hj
      rw [List.getElem?_take] at hx
      split at hx
      · obtain ⟨a', e, hx'⟩ := hc j x hx
        simp only [Option.some.injEq] at e
        subst e
        exact hx'
      · cases hx
    · have hgo : goInt ((vals (xs.take dLen)).length : Nat) = .int .i64 (min xs.length dLen : Nat) := by rw [hl]; rfl
      rw [hgo]
      refine h _ ?_ (stirred_setRow _ _ _)
      rw [setRow_heap w g _ _ _ _ hg]
      have := splice_vals cur (xs.take dLen) off
      unfold splice at this
      simp only [this]
      rfl
theorem row_whole {w : World} {B E g n : Nat} {xs : List Value} (h : w.ownsRow B E 1 (.slice (some ⟨g, 0, none⟩) n n) n xs) : w.heap[g]? = some (.cells xs.toArray E (0, 0)) := by
  have hn := h.1
  rcases h.2 with ⟨e, _⟩ | ⟨g', cap, cur, e, h2, h3, h4, h5, h6, h7⟩
  · cases e
  · simp only [Value.slice.injEq, Option.some.injEq, Addr.mk.injEq, and_true, true_and] at e
    obtain ⟨rfl, rfl⟩ := e
    rw [h3]
    congr 2
    apply Array.toList_inj.1
    rw [← h7, List.take_of_length_le (by simp; omega)]
/-- a stack that was made in this call -/
def MadeP (w : World) (room : Nat) (cs : List Int) (e : Ending) (w' : World) : Prop := ∃ p g, e = .returned (.pointer (some ⟨p, 0, none⟩)) ∧ PileAt w' w.heap.size p g room cs ∧ Below w.heap.size w w'
theorem Tryz.piIntSize : (Tryz.prog.info? 3).map (·.size) = some 1 := by kernel_rfl
set_option maxHeartbeats 1000000 in
theorem new_any (most : Int) (room : Nat) (hm : (room : Int) = min (max most 0) 1000) (v : Value) (xs : List Int) (w : World) (h : Reads w v xs) : Calls Tryz.prog 45 #[.int .i64 most, v] w (MadeP w room (xs.take room)) := by
  obtain ⟨i0, q1, q2, q3, q4⟩ := info_parts Tryz.bkIntInfo
  have HM := Lib.hid hm
  have hm3 : room ≤ 1000 := by omega
  have HI := Lib.hid (And.intro q1 (And.intro q2 (And.intro q3 q4)))
  have HR := Lib.hid h
  obtain ⟨vo, vc, rfl, _⟩ := h
  clear q1 q2 q3 q4 hm
  go_enter Tryz.func45, Tryz.ntmps45
  go_wp2_with (at_make; refine wpList_make_full _ rfl _ _ 22 rfl w.heap.size 3 i0 (.int .i64 0) 1 Tryz.underlying22 HI.out.1 HI.out.2.1 HI.out.2.2.1 .i64 .i64 _ _ room rfl rfl ?a1 ?a2 ?a3 ?a4 (Nat.le_refl _) ?_)
  case a1 => exact HM.out.symm
  case a2 => exact HM.out.symm
  case a3 => rw [HI.out.2.2.2]; omega
  case a4 => unfold maxLen; omega
  intro w1 hO hG
  rw [toList_madeCells_one] at hO
  have hrow := row_whole hO
  have hz := hG.size
  have hb1 := (Stirred.of_grown hG).below (B := w.heap.size) (fun k h => by cases h) (Nat.le_refl _)
  have hb2 := (Below.refl w1.heap.size w1).alloc (Nat.le_refl _) (.cells #[.slice (some ⟨w.heap.size, 0, none⟩) room room, .int .i64 0] 92)
  have hnew := heap_alloc_new w1 (.cells #[.slice (some ⟨w.heap.size, 0, none⟩) room room, .int .i64 0] 92)
  have hrow2 := (Stirred.of_below hb2 []).whole hrow List.not_mem_nil
  obtain ⟨w2, hw2⟩ : ∃ w2, w1.alloc (.cells #[.slice (some ⟨w.heap.size, 0, none⟩) room room, .int .i64 0] 92) = w2 := ⟨_, rfl⟩
  rw [hw2] at hb2 hnew hrow2
  have hv : List.replicate room (Value.int .i64 0) = vals (full room []) := by simp [full, vals]
  rw [hv] at hrow2
  have hP : PileAt w2 w.heap.size w1.heap.size w.heap.size room [] := ⟨hnew, hz, Nat.le_refl _, hrow2, Nat.zero_le _, hm3⟩
  have c0 := hP.c0
  have k1 := hP.c1
  have f1 := whole_frozen hP.whole 1
  have HP := Lib.hid hP
  have HB := Lib.hid (hb1.trans (hb2.mono hz))
  have HR2 := Lib.hid (HR.out.below HB.out)
  have hw2' : w1.alloc (.cells #[.slice (some ⟨w.heap.size, 0, none⟩) room room, .int .i64 0] 92) = w2 := hw2
  clear hO hG hrow hz hb1 hb2 hnew hrow2 hP hv hw2
  go_wp2_with (with_reducible refine wpList_copy_reads rfl _ _ 22 22 rfl 3 Tryz.underlying22 Tryz.piIntSize (some ⟨w.heap.size, 0, none⟩) room room rfl (.slice vo xs.length vc) xs rfl HR2.out w.heap.size 0 (full room []) 3 HP.out.row (fun _ => rfl) ?c1 ?_)
  case c1 => rw [full_length (Nat.zero_le _)]; omega
  intro w3 hr hs
  have hmin : min xs.length room = (xs.take room).length := by rw [List.length_take, Nat.min_comm]
  have hput := full_put room [] (xs.take room)
  simp only [List.length_nil, List.nil_append] at hput
  rw [hput] at hr
  have hC := HP.out.counted hs hr (by rw [List.length_take]; omega)
  have hw3 := hs.whole HP.out.whole (by simpa using HP.out.pg)
  have f1 : w3.frozen? ⟨w1.heap.size, 1, none⟩ = false := whole_frozen hw3 1
  have k1 := whole_cell hw3 (show (#[Value.slice (some ⟨w.heap.size, 0, none⟩) room room, Value.int .i64 (([] : List Int).length : Nat)])[1]? = _ from rfl)
  obtain ⟨N, hN⟩ : ∃ N, (xs.take room).length = N := ⟨_, rfl⟩
  rw [hmin, hN]
  rw [hN] at hC
  have HR3 := Lib.hid (And.intro hC.1 (HB.out.trans (hC.2.below (B := w.heap.size) (fun k hk => (HP.out.foot_lt k hk).1) HB.out.size)))
  clear hr hs hC hput hmin c0 hN hw3
  go_wp2
  go_ret
  exact ⟨w1.heap.size, w.heap.size, rfl, HR3.out⟩
section
variable {w : World} {B p g room : Nat} {cs : List Int}
theorem made_any (h : PileAt w B p g room cs) : Calls Tryz.prog 80 #[.pointer (some ⟨p, 0, none⟩)] w fun e w' => e = .returned (.bool true) ∧ w' = w := by
  have c0 := h.c0
  clear h
  have hne := run_neq_slice_nil (P := Tryz.prog) w 22 3 (some ⟨g, 0, none⟩) room room Tryz.underlying22
  go_enter Tryz.func80, Tryz.ntmps80
  go_wp2
  go_ret
  exact ⟨rfl, rfl⟩
theorem made_nil (w : World) : Calls Tryz.prog 80 #[.pointer none] w fun e w' => e = .returned (.bool false) ∧ w' = w := by
  go_enter Tryz.func80, Tryz.ntmps80
  go_wp2
  go_ret
  exact ⟨rfl, rfl⟩
theorem len_any (h : PileAt w B p g room cs) : Calls Tryz.prog 66 #[.pointer (some ⟨p, 0, none⟩)] w fun e w' => e = .returned (.int .i64 cs.length) ∧ w' = w := by
  have c1 := h.c1
  clear h
  obtain ⟨n, hn⟩ : ∃ n, cs.length = n := ⟨_, rfl⟩
  rw [hn] at c1 ⊢
  clear hn
  go_enter Tryz.func66, Tryz.ntmps66
  go_wp2
  go_ret
  exact ⟨rfl, rfl⟩
theorem len_nil (w : World) : Calls Tryz.prog 66 #[.pointer none] w fun e w' => e = .returned (.int .i64 0) ∧ w' = w := by
  go_enter Tryz.func66, Tryz.ntmps66
  go_wp2
  go_ret
  exact ⟨rfl, rfl⟩
theorem has_yes (h : PileAt w B p g room cs) (j : Nat) (hj : j < cs.length) : Calls Tryz.prog 79 #[.pointer (some ⟨p, 0, none⟩), .int .i64 j] w fun e w' => e = .returned (.bool true) ∧ w' = w := by
  have C := Lib.hid (len_any h)
  have hl := h.fits
  have hm := h.most
  clear h
  obtain ⟨n, hn⟩ : ∃ n, cs.length = n := ⟨_, rfl⟩
  rw [hn] at C hl hj
  clear hn
  have h0 : (0 : Int) ≤ (j : Int) := by omega
  have h1 : (j : Int) < (n : Int) := by omega
  go_enter Tryz.func79, Tryz.ntmps79
  go_wp2_with (go_at_call 66; refine C.out.mono ?_; rintro e wz ⟨rfl, hwz⟩; subst wz)
  go_ret
  exact ⟨rfl, rfl⟩
theorem has_no (h : PileAt w B p g room cs) (a : Int) (ha : ¬ (0 ≤ a ∧ a < (cs.length : Int))) : Calls Tryz.prog 79 #[.pointer (some ⟨p, 0, none⟩), .int .i64 a] w fun e w' => e = .returned (.bool false) ∧ w' = w := by
  have C := Lib.hid (len_any h)
  have hl := h.fits
  have hm := h.most
  clear h
  obtain ⟨n, hn⟩ : ∃ n, cs.length = n := ⟨_, rfl⟩
  rw [hn] at C hl ha
  clear hn
  by_cases h0 : 0 ≤ a
  · have h1 : decide (a < (n : Int)) = false := by simp; omega
    clear ha
    go_enter Tryz.func79, Tryz.ntmps79
    go_wp2_with (go_at_call 66; refine C.out.mono ?_; rintro e wz ⟨rfl, hwz⟩; subst wz)
    go_ret
    exact ⟨rfl, rfl⟩
  · clear ha
    go_enter Tryz.func79, Tryz.ntmps79
    go_wp2
    go_ret
    exact ⟨rfl, rfl⟩
theorem has_nil (a : Int) (w : World) : Calls Tryz.prog 79 #[.pointer none, .int .i64 a] w fun e w' => e = .returned (.bool false) ∧ w' = w := by
  have C := Lib.hid (len_nil w)
  by_cases h0 : 0 ≤ a
  · have h1 : decide (a < (0 : Int)) = false := by simp; omega
    go_enter Tryz.func79, Tryz.ntmps79
    go_wp2_with (go_at_call 66; refine C.out.mono ?_; rintro e wz ⟨rfl, hwz⟩; subst wz)
    go_ret
    exact ⟨rfl, rfl⟩
  · go_enter Tryz.func79, Tryz.ntmps79
    go_wp2
    go_ret
    exact ⟨rfl, rfl⟩
end
end Go.Proofs.YtlomfmilohbgpaaGreatDoor
