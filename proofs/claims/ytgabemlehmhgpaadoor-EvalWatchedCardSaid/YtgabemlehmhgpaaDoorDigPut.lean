
/- The walks of strconv.FormatInt in every base, and of digits.Put. -/
import Derived.Test.YtgabemlehmhgpaaDoorDigFormat
import Derived.Test.YtgabemlehmhgpaaDoorDigRefPut
import Derived.Test.YtgabemlehmhgpaaDoorToUpper
namespace Go.Proofs.YtgabemlehmhgpaaDoor
open Go.RowKit
set_option linter.unusedSimpArgs false
set_option linter.unusedVariables false
/-- the table of powers of ten, as the row lists it -/
def Tens (w : World) : Prop := Lib.TabIs Tryd.prog w "internal/strconv.uint64pow10" .u64 Lib.pow10Tab
theorem grow_below' {B : Nat} (w : World) (h : B ≤ w.heap.size) (k : Nat) (os : Array Obj) : Below B w (Go.Sort.grow (w.drewN k) os) := by
  refine ⟨rfl, rfl, rfl, ?_, ?_⟩
  · show w.heap.size ≤ (w.heap ++ os).size
    simp
  · intro j hj
    show (w.heap ++ os)[j]? = w.heap[j]?
    rw [Array.getElem?_append_left (by omega)]
set_option maxHeartbeats 1000000 in
theorem inner_other (v : Int) (b : Nat) (h2 : 2 ≤ b) (h36 : b ≤ 36) (h10 : ((b : Int) == 10) = false) (v0 : -9223372036854775808 ≤ v) (v1 : v ≤ 9223372036854775807) (w : World) (hw : Zeros w) :
    Calls Tryd.prog 57 #[.int .i64 v, .int .i64 b] w fun e w' => e = .returned (txt (Dig.putV Dig.loD v b)) ∧ Below w.heap.size w w' := by
  by_cases hn : v < 0
  · obtain ⟨U, rfl⟩ : ∃ U : Nat, v = -(U : Int) := ⟨v.natAbs, by omega⟩
    have hU : (-(U : Int)).natAbs = U := by omega
    have HP := Lib.hid (show Dig.putV Dig.loD (-(U : Int)) b = sg true ++ Dig.digs Dig.loD b U from by unfold Dig.putV Dig.sgn; rw [if_pos hn, hU]; rfl)
    have F := Lib.hid (format_any U b true (IntKind.u64.wrap (-(U : Int))) (.inr ⟨rfl, neg_u64 (by omega)⟩) h2 h36 h10 (by omega) w hw)
    clear hU hw
    go_enter Tryd.func57, Tryd.ntmps57
    go_wp2_with fail
    rw [show decide (0 < U) = true from by rw [decide_eq_true_eq]; omega]
    refine F.out.mono ?_
    rintro e w1 ⟨rfl, hb⟩
    go_wp2
    go_ret
    exact ⟨by rw [HP.out]; rfl, hb⟩
  · obtain ⟨U, rfl⟩ : ∃ U : Nat, v = (U : Int) := ⟨v.natAbs, by omega⟩
    have hU : (U : Int).natAbs = U := by omega
    have HP := Lib.hid (show Dig.putV Dig.loD (U : Int) b = sg false ++ Dig.digs Dig.loD b U from by unfold Dig.putV Dig.sgn; rw [if_neg hn, hU]; rfl)
    have F := Lib.hid (format_any U b false U (.inl ⟨rfl, rfl⟩) h2 h36 h10 (by omega) w hw)
    clear hU hw
    go_enter Tryd.func57, Tryd.ntmps57
    go_wp2_with fail
    refine F.out.mono ?_
    rintro e w1 ⟨rfl, hb⟩
    go_wp2
    go_ret
    exact ⟨by rw [HP.out]; rfl, hb⟩
theorem inner_any (v : Int) (b : Nat) (h2 : 2 ≤ b) (h36 : b ≤ 36) (v0 : -9223372036854775808 ≤ v) (v1 : v ≤ 9223372036854775807) (w : World) (hw : Zeros w) (ht : Tens w) :
    Calls Tryd.prog 57 #[.int .i64 v, .int .i64 b] w fun e w' => e = .returned (txt (Dig.putV Dig.loD v b)) ∧ Below w.heap.size w w' := by
  by_cases h : b = 10
  · subst h
    have h := (Tryd.internal_strconv_FormatInt_10 v v0 v1 w ht).mono fun e w' ⟨h1, k, os, h2⟩ => (⟨h1, h2 ▸ grow_below' w (Nat.le_refl _) k os⟩ : e = Ending.returned (.string ⟨(Lib.itoa v).toArray⟩) ∧ Below w.heap.size w w')
    rw [Dig.itoa_put (Dig.abs_lt v0 v1)] at h
    exact h
  · exact inner_other v b h2 h36 (by rw [beq_eq_false_iff_ne]; omega) v0 v1 w hw
theorem format_int (v : Int) (b : Nat) (h2 : 2 ≤ b) (h36 : b ≤ 36) (v0 : -9223372036854775808 ≤ v) (v1 : v ≤ 9223372036854775807) (w : World) (hw : Zeros w) (ht : Tens w) :
    Calls Tryd.prog 43 #[.int .i64 v, .int .i64 b] w fun e w' => e = .returned (txt (Dig.putV Dig.loD v b)) ∧ Below w.heap.size w w' := by
  have F := Lib.hid (inner_any v b h2 h36 v0 v1 w hw ht)
  clear hw ht
  go_enter Tryd.func43, Tryd.ntmps43
  go_wp2_with fail
  refine F.out.mono ?_
  rintro e w1 ⟨rfl, hb⟩
  go_wp2
  go_ret
  exact ⟨rfl, hb⟩
theorem put_right (v : Int) (b : Nat) (h2 : 2 ≤ b) (h36 : b ≤ 36) (v0 : -9223372036854775808 ≤ v) (v1 : v ≤ 9223372036854775807) (w : World) (hw : Zeros w) (ht : Tens w) :
    Calls Tryd.prog 35 #[.int .i64 v, .int .i64 b] w fun e w' => e = .returned (txt (Dig.putV Dig.upD v b)) ∧ Below w.heap.size w w' := by
  have F := Lib.hid (format_int v b h2 h36 v0 v1 w hw ht)
  have R := Lib.hid (right_yes b (by simp [Dig.rightB]; omega))
  have hl := Dig.put_length Dig.loD v b (by omega) (Dig.abs_lt v0 v1)
  have T := fun w1 : World => Lib.hid (upper_any ⟨(Dig.putV Dig.loD v b).toArray⟩ w1 (by show (Dig.putV Dig.loD v b).toArray.size ≤ 1000000; simp; omega) (Dig.put_ascii v b (by omega) (by omega)))
  have HU := Lib.hid (Dig.put_upper v b (by omega) (by omega))
  clear hw ht hl
  go_enter Tryd.func35, Tryd.ntmps35
  go_wp2_with (go_at_call 41; refine (R.out _).mono ?_; rintro e w' ⟨rfl, rfl⟩)
  refine F.out.mono ?_
  rintro e w1 ⟨rfl, hb⟩
  go_wp2_with fail
  refine (T _).out.mono ?_
  rintro e w2 ⟨rfl, hb2⟩
  go_wp2
  go_ret
  exact ⟨congrArg (fun x => Ending.returned (txt x)) HU.out, hb.trans (hb2.mono hb.size)⟩
theorem put_wrong (v b : Int) (hb : Dig.rightB b = false) (w : World) :
    Calls Tryd.prog 35 #[.int .i64 v, .int .i64 b] w fun e w' => e = .returned (txt []) ∧ Below w.heap.size w w' := by
  have R := Lib.hid (right_no b hb)
  clear hb
  go_enter Tryd.func35, Tryd.ntmps35
  go_wp2_with (go_at_call 41; refine (R.out _).mono ?_; rintro e w' ⟨rfl, rfl⟩)
  go_ret
  exact ⟨rfl, Below.refl _ _⟩
theorem put_any (v b : Int) (v0 : -9223372036854775808 ≤ v) (v1 : v ≤ 9223372036854775807) (w : World) (hw : Zeros w) (ht : Tens w) :
    Calls Tryd.prog 35 #[.int .i64 v, .int .i64 b] w fun e w' => e = .returned (txt (putT v b)) ∧ Below w.heap.size w w' := by
  unfold putT
  cases hb : Dig.rightB b with
  | false => exact put_wrong v b hb w
  | true =>
    simp only [Dig.rightB, Bool.and_eq_true, decide_eq_true_eq] at hb
    obtain ⟨n, rfl⟩ := Int.eq_ofNat_of_zero_le (show 0 ≤ b by omega)
    exact put_right v n (by omega) (by omega) v0 v1 w hw ht
theorem wf_range {c : Int} (hn : (Lit.int .i64 c).wf = true) : -9223372036854775808 ≤ c ∧ c ≤ 9223372036854775807 := by
  simp only [Lit.wf, IntKind.min, IntKind.max, IntKind.signed, IntKind.bits, Bool.and_eq_true, decide_eq_true_eq, if_true] at hn
  omega
theorem byte_of {z : Int} (h : (Lit.int .u8 z).wf = true) : ∃ c : UInt8, z = (c.toNat : Int) := by
  simp only [Lit.wf, IntKind.min, IntKind.max, IntKind.signed, IntKind.bits, Bool.and_eq_true, decide_eq_true_eq, Bool.false_eq_true, if_false] at h
  refine ⟨UInt8.ofNat z.toNat, ?_⟩
  rw [UInt8.toNat_ofNat']
  omega
theorem tab_mono {w w' : World} {name : String} {k : IntKind} {zs : List Int} {g : Nat} (hg : Tryd.prog.globalNamed name = some g) (h : Lib.TabIs Tryd.prog w name k zs) (hb : Below w.heap.size w w') : Lib.TabIs Tryd.prog w' name k zs := by
  unfold Lib.TabIs World.var? at *
  rw [hg, Option.bind_some] at h ⊢
  have hl : g < w.heap.size := by
    rcases Nat.lt_or_ge g w.heap.size with h0 | h0
    · exact h0
    · rw [Array.getElem?_eq_none h0] at h; cases h
  rw [hb.block _ hl]; exact h
theorem Tryd.gt : Tryd.prog.globalNamed "internal/strconv.uint64pow10" = some 1 := by kernel_rfl
theorem Zeros.mono {w w' : World} (h : Zeros w) (hb : Below w.heap.size w w') : Zeros w' := tab_mono Tryd.gz h hb
theorem Tens.mono {w w' : World} (h : Tens w) (hb : Below w.heap.size w w') : Tens w' := tab_mono Tryd.gt h hb
end Go.Proofs.YtgabemlehmhgpaaDoor
