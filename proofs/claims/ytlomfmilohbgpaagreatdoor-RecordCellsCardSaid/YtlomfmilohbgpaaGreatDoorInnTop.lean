
/- Package inner: the topmost cells of a stack. -/
import Derived.Test.YtlomfmilohbgpaaGreatDoorInnAt
namespace Go.Proofs.YtlomfmilohbgpaaGreatDoor.Inn
open Go.RowKit Book Mem Mach
set_option linter.unusedVariables false
set_option linter.unusedSimpArgs false
theorem fill_step {cs : List Int} {n k : Nat} {x : Int} (hk : k < n) (hn : n ≤ cs.length) (hx : cs[cs.length - 1 - k]? = some x) :
    (List.replicate (n - k) (0 : Int) ++ cs.drop (cs.length - k)).set (n - 1 - k) x = List.replicate (n - (k + 1)) 0 ++ cs.drop (cs.length - (k + 1)) := by
  have h1 : n - k = (n - (k + 1)) + 1 := by omega
  have h2 : n - 1 - k = n - (k + 1) := by omega
  have h3 : cs.drop (cs.length - (k + 1)) = x :: cs.drop (cs.length - k) := by
    have hlt : cs.length - 1 - k < cs.length := by omega
    rw [show cs.length - (k + 1) = cs.length - 1 - k by omega, List.drop_eq_getElem_cons hlt, show cs.length - 1 - k + 1 = cs.length - k by omega]
    congr 1
    rw [List.getElem?_eq_getElem hlt] at hx
    simpa using hx
  rw [h1, h2, List.replicate_succ', List.append_assoc, List.set_append_right _ _ (by simp), h3]
  simp
/-- a row of the call's own that is known whole -/
def Row (w : World) (B g : Nat) (xs : List Int) : Prop := w.heap[g]? = some (.cells (vals xs).toArray 3 (0, 0)) ∧ B ≤ g
abbrev rowV (g n : Nat) : Value := .slice (some ⟨g, 0, none⟩) n n
theorem Row.below {w w' : World} {B g : Nat} {xs : List Int} (h : Row w B g xs) (hb : Below w.heap.size w w') : Row w' B g xs := ⟨(Stirred.of_below hb []).whole h.1 List.not_mem_nil, h.2⟩
theorem Row.from {w : World} {B B' g : Nat} {xs : List Int} (h : Row w B g xs) (hb : B' ≤ B) : Row w B' g xs := ⟨h.1, Nat.le_trans hb h.2⟩
theorem Row.touch {w w' : World} {B g : Nat} {xs : List Int} {bs : List Nat} (h : Row w B g xs) (hs : Stirred w w' bs) (hn : g ∉ bs) : Row w' B g xs := ⟨hs.whole h.1 hn, h.2⟩
theorem Row.cell {w : World} {B g : Nat} {xs : List Int} (h : Row w B g xs) {j : Nat} {x : Int} (hx : xs[j]? = some x) : w.cell? ⟨g, j, none⟩ = some (.int .i64 x) := whole_cell h.1 (by simp [vals, hx])
theorem Row.reads {w : World} {B g : Nat} {xs : List Int} (h : Row w B g xs) {n : Nat} (hn : xs.length = n) : Reads w (rowV g n) xs := by
  subst hn
  exact ⟨some ⟨g, 0, none⟩, xs.length, rfl, fun j x hj => ⟨_, rfl, by rw [add_row]; exact h.cell hj⟩⟩
/-- what 'top' answers -/
def Tops (xs : List Int) (n : Nat) (w : World) (e : Ending) (w' : World) : Prop := ∃ g, e = .returned (rowV g n) ∧ Row w' w.heap.size g xs ∧ Below w.heap.size w w'
set_option maxHeartbeats 4000000 in
theorem top_any {w : World} {B p gp room : Nat} {cs : List Int} (h : PileAt w B p gp room cs) (n : Nat) (hn : n ≤ cs.length) :
    Calls Tryz.prog 77 #[.pointer (some ⟨p, 0, none⟩), .int .i64 n] w (Tops (cs.drop (cs.length - n)) n w) := by
  obtain ⟨i0, q1, q2, q3, q4⟩ := info_parts Tryz.bkIntInfo
  have HI := Lib.hid (And.intro q1 (And.intro q2 (And.intro q3 q4)))
  clear q1 q2 q3 q4
  have HP := Lib.hid h
  have hfit := h.fits
  have hmost := h.most
  have hn9 : n ≤ 1000 := by omega
  have HN := Lib.hid hn
  clear h hn
  go_enter Tryz.func77, Tryz.ntmps77
  go_wp2_with (at_make; refine wpList_make_full _ rfl _ _ 22 rfl w.heap.size 3 i0 (.int .i64 0) 1 Tryz.underlying22 HI.out.1 HI.out.2.1 HI.out.2.2.1 .i64 .i64 _ _ n rfl rfl ?a1 ?a2 ?a3 ?a4 (Nat.le_refl _) ?_)
  case a1 => rfl
  case a2 => rfl
  case a3 => rw [HI.out.2.2.2]; omega
  case a4 => unfold maxLen; omega
  intro w1 hO hG
  rw [toList_madeCells_one] at hO
  have hrow := row_whole hO
  have hz := hG.size
  obtain ⟨g, hg⟩ : ∃ g, w.heap.size = g := ⟨_, rfl⟩
  rw [hg] at hrow
  have HGW := Lib.hid hg
  have hb1 := (Stirred.of_grown hG).below (B := w.heap.size) (fun k h => by cases h) (Nat.le_refl _)
  have HB := Lib.hid hb1
  have HR0 := Lib.hid (show w1.heap[g]? = some (.cells (vals (List.replicate (n - 0) 0 ++ cs.drop (cs.length - 0))).toArray 3 (0, 0)) from by rw [hrow]; simp [vals])
  rw [hg]
  clear hO hG hrow hz hb1 hg
  go_wp2
  go_loopg [11] n (fun m i wr => ∃ k : Nat, m = n - k ∧ k ≤ n ∧ i = .int .i64 k ∧ Hid (wr.heap[g]? = some (.cells (vals (List.replicate (n - k) 0 ++ cs.drop (cs.length - k))).toArray 3 (0, 0))) ∧ Hid (Below w.heap.size w wr))
  case atStart => exact ⟨0, rfl, Nat.zero_le _, rfl, HR0, HB⟩
  case round =>
    obtain ⟨k, rfl, hk, rfl, HR, HB⟩ := hrel
    by_cases hlt : k < n
    · have hj : cs.length - 1 - k < cs.length := by have := HN.out; omega
      obtain ⟨x, hx⟩ : ∃ x, cs[cs.length - 1 - k]? = some x := ⟨_, List.getElem?_eq_getElem hj⟩
      have C := Lib.hid (peek_yes (HP.out.below HB.out) k x (by have := HN.out; omega) hx)
      have HX := Lib.hid hx
      obtain ⟨i, hi⟩ : ∃ i, n - 1 - k = i := ⟨_, rfl⟩
      have HII := Lib.hid hi
      have e1 : (n : Int) - 1 - (k : Int) = (i : Int) := by omega
      have e2 : (0 : Int) ≤ (i : Int) := by omega
      have e3 : (i : Int) < (n : Int) := by omega
      have e4 : (n : Int) - 1 = (i : Int) + (k : Int) := by omega
      have HLT := Lib.hid hlt
      clear hj hx hi
      go_wp2_with fail
      refine C.out.mono ?_
      rintro e wz ⟨rfl, q, hq⟩
      have HR1 := Lib.hid (show wz.heap[g]? = some (.cells (vals (List.replicate (n - k) 0 ++ cs.drop (cs.length - k))).toArray 3 (0, 0)) by rw [hq]; exact HR.out)
      have HB1 := Lib.hid (show Below w.heap.size w wz by rw [hq]; exact HB.out.trans ((Stirred.drewN wr q []).below (fun _ h => by cases h) HB.out.size))
      clear hq C HR HB
      have f1 : wz.frozen? ⟨g, i, none⟩ = false := whole_frozen HR1.out i
      obtain ⟨y, c1⟩ : ∃ y, wz.cell? ⟨g, i, none⟩ = some y := by
        have hl : i < (vals (List.replicate (n - k) 0 ++ cs.drop (cs.length - k))).length := by rw [vals_length, List.length_append, List.length_replicate, List.length_drop]; have := HN.out; omega
        exact ⟨_, whole_cell HR1.out (by rw [List.getElem?_toArray, List.getElem?_eq_getElem hl])⟩
      have hs := Stirred.setCell wz ⟨g, i, none⟩ (.int .i64 x)
      have hw := whole_set HR1.out i (.int .i64 x)
      have HR2 := Lib.hid (show (wz.setCell ⟨g, i, none⟩ (.int .i64 x)).heap[g]? = some (.cells (vals (List.replicate (n - (k + 1)) 0 ++ cs.drop (cs.length - (k + 1)))).toArray 3 (0, 0)) by
        rw [hw, List.setIfInBounds_toArray, vals_set, ← HII.out, fill_step HLT.out HN.out HX.out])
      have HB2 := Lib.hid (HB1.out.trans (hs.below (B := w.heap.size) (fun z hz => by rw [List.mem_singleton.1 hz]; exact Nat.le_of_eq HGW.out) HB1.out.size))
      clear hs hw HR1 HB1
      go_wp2
      go_roundg (n - (k + 1))
      case measure => omega
      case rel => exact ⟨k + 1, rfl, by omega, by go_num, HR2, HB2⟩
    · obtain rfl : k = n := by omega
      go_wp2
      go_ret
      refine ⟨g, rfl, ⟨?_, Nat.le_of_eq HGW.out⟩, HB.out⟩
      have := HR.out
      rw [Nat.sub_self] at this
      exact this
end Go.Proofs.YtlomfmilohbgpaaGreatDoor.Inn
