
/- Package ir: lists that are alike (slices.Equal at ints and at instructions, slices.EqualFunc at exits). -/
import Derived.Test.YtpecingkoodmfaaGreatDoorIrMem
import Derived.Laws.StructEq
import Derived.Deep.LoopGhost
import Derived.BigQuiet
import Derived.Deep.QuietTactic
import Derived.Lib.Hide
namespace Go.Proofs.YtpecingkoodmfaaGreatDoor.Ir
open Go.RowKit Book Mem
set_option linter.unusedSimpArgs false
set_option linter.unusedVariables false
theorem drewB2 (w : World) (q n : Nat) : Below w.heap.size w ((w.drewN q).drewN n) := ⟨rfl, rfl, rfl, Nat.le_refl _, fun _ _ => rfl⟩
theorem drewB (w : World) (q : Nat) : Below w.heap.size w (w.drewN q) := ⟨rfl, rfl, rfl, Nat.le_refl _, fun _ _ => rfl⟩
/-- two lists are alike as far as their rests are -/
theorem rest_eq {α : Type} {a b : List α} {j : Nat} {x y : α} (hx : a[j]? = some x) (hy : b[j]? = some y) : (a.drop j = b.drop j) ↔ (x = y ∧ a.drop (j + 1) = b.drop (j + 1)) := by
  have h1 := (List.getElem?_eq_some_iff.1 hx).1
  have h2 := (List.getElem?_eq_some_iff.1 hy).1
  rw [List.drop_eq_getElem_cons h1, List.drop_eq_getElem_cons h2, show a[j] = x from (List.getElem?_eq_some_iff.1 hx).2, show b[j] = y from (List.getElem?_eq_some_iff.1 hy).2, List.cons_eq_cons]
set_option maxHeartbeats 4000000 in
theorem equalI_any {w : World} {va vb : Value} {a b : List Int} (ha : Reads w va a) (hb : Reads w vb b) (hl : a.length ≤ 1000000) :
    Calls Tryz.prog 51 #[va, vb] w (Says (.bool (decide (a = b))) w) := by
  obtain ⟨ao, ac, rfl⟩ := reads_form ha
  obtain ⟨bo, bc, rfl⟩ := reads_form hb
  have HA := Lib.hid ha
  have HB := Lib.hid hb
  obtain ⟨n, hn⟩ : ∃ n, a.length = n := ⟨_, rfl⟩
  obtain ⟨m, hm⟩ : ∃ m, b.length = m := ⟨_, rfl⟩
  have HN := Lib.hid hn
  have HM := Lib.hid hm
  rw [hn] at hl HA ⊢
  rw [hm] at HB ⊢
  obtain ⟨res, hres⟩ : ∃ res, decide (a = b) = res := ⟨_, rfl⟩
  have HRS := Lib.hid hres
  rw [hres]
  by_cases hnm : n = m
  case neg =>
    have HF := Lib.hid (show res = false by rw [← hres]; exact decide_eq_false (fun e => hnm (by rw [← hn, ← hm, e])))
    have e1 : ((n : Int) == (m : Int)) = false := by rw [beq_eq_false_iff_ne]; omega
    have e2 : (n == m) = false := by simpa using hnm
    have e3 : ((n : Int) != (m : Int)) = true := by rw [bne_iff_ne]; omega
    clear ha hb hn hm hres hnm
    go_enter Tryz.func51, Tryz.ntmps51
    go_wp2
    go_ret
    exact ⟨by rw [HF.out]; rfl, Below.refl _ _⟩
  subst hnm
  clear ha hb hn hm hres
  go_enter Tryz.func51, Tryz.ntmps51
  go_wp2
  go_loopg [13] n (fun z i wr => ∃ j q : Nat, z = n - j ∧ j ≤ n ∧ i = .int .i64 (j : Int) ∧ wr = w.drewN q ∧ Hid (decide (a.drop j = b.drop j) = res))
  case atStart => exact ⟨0, 0, rfl, Nat.zero_le _, rfl, rfl, Lib.hid HRS.out⟩
  case round =>
    obtain ⟨j, q, rfl, hj, rfl, hwr, HJ⟩ := hrel
    subst wr
    by_cases hlt : j < n
    · obtain ⟨x, hx⟩ : ∃ x, a[j]? = some x := ⟨_, List.getElem?_eq_getElem (by rw [HN.out]; exact hlt)⟩
      obtain ⟨y, hy⟩ : ∃ y, b[j]? = some y := ⟨_, List.getElem?_eq_getElem (by rw [HM.out]; exact hlt)⟩
      have HS := Lib.hid (show decide (x = y ∧ a.drop (j + 1) = b.drop (j + 1)) = res by rw [← HJ.out]; exact decide_eq_decide.2 (rest_eq hx hy).symm)
      obtain ⟨aa, rfl, ca⟩ := Reads.at' HA.out hx
      obtain ⟨ba, rfl, cb⟩ := Reads.at' HB.out hy
      have z0 : (0 : Int) ≤ (j : Int) := by omega
      have z1 : (j : Int) < (n : Int) := by omega
      clear HJ hx hy
      by_cases hxy : x = y
      · subst hxy
        have HP := Lib.hid (show decide (a.drop (j + 1) = b.drop (j + 1)) = res by rw [← HS.out]; exact decide_eq_decide.2 ⟨fun h => ⟨rfl, h⟩, fun h => h.2⟩)
        clear HS
        go_wp2
        go_quiet (fail)
        go_wp2
        go_roundg (n - (j + 1))
        case measure => omega
        case rel => exact ⟨j + 1, _, rfl, by omega, by go_num, rfl, HP⟩
      · have HF := Lib.hid (show res = false by rw [← HS.out]; exact decide_eq_false (fun h => hxy h.1))
        have e1 : (x == y) = false := by simpa using hxy
        have e3 : (x != y) = true := by simpa using hxy
        clear HS hxy
        go_wp2
        go_quiet (fail)
        go_wp2
        go_ret
        exact ⟨by rw [HF.out]; rfl, drewB2 w _ _⟩
    · obtain rfl : j = n := by omega
      have HF := Lib.hid (show res = true by rw [← HJ.out, drop_end HN.out, drop_end HM.out]; rfl)
      go_wp2
      go_ret
      exact ⟨by rw [HF.out]; rfl, drewB w q⟩
/-- two instructions held against one another -/
theorem ins_equal (x y : I) (w : World) : (Op.equalIn 10000 42 (insV x) (insV y)).run Tryz.prog w = .ok (decide (x = y)) w := by
  obtain ⟨x0, x1, x2, x3, x4⟩ := x
  obtain ⟨y0, y1, y2, y3, y4⟩ := y
  rw [run_equalIn_struct w _ _ _ _ (by kernel_rfl) (by kernel_rfl)]
  rw [show (Tryz.prog.fieldsOf 42).toList = [⟨"Op", 3, 0, false, "", "", 0⟩, ⟨"A", 3, 1, false, "", "", 8⟩, ⟨"B", 3, 2, false, "", "", 16⟩, ⟨"C", 3, 3, false, "", "", 24⟩, ⟨"X", 3, 4, false, "", "", 32⟩] from by kernel_rfl]
  by_cases h0 : x0 = y0
  · subst h0
    by_cases h1 : x1 = y1
    · subst h1
      by_cases h2 : x2 = y2
      · subst h2
        by_cases h3 : x3 = y3
        · subst h3
          by_cases h4 : x4 = y4
          · subst h4
            simp [Op.eqFields, part, Tryz.isAgg3, run_equalIn_int (P := Tryz.prog) _ _ 3 _ .i64 _ _ Tryz.underlying3]
          · simp [Op.eqFields, part, Tryz.isAgg3, run_equalIn_int (P := Tryz.prog) _ _ 3 _ .i64 _ _ Tryz.underlying3, h4]
        · simp [Op.eqFields, part, Tryz.isAgg3, run_equalIn_int (P := Tryz.prog) _ _ 3 _ .i64 _ _ Tryz.underlying3, h3]
      · simp [Op.eqFields, part, Tryz.isAgg3, run_equalIn_int (P := Tryz.prog) _ _ 3 _ .i64 _ _ Tryz.underlying3, h2]
    · simp [Op.eqFields, part, Tryz.isAgg3, run_equalIn_int (P := Tryz.prog) _ _ 3 _ .i64 _ _ Tryz.underlying3, h1]
  · simp [Op.eqFields, part, Tryz.isAgg3, run_equalIn_int (P := Tryz.prog) _ _ 3 _ .i64 _ _ Tryz.underlying3, h0]
theorem ins_eql (x y : I) (w : World) : (binOp .eql 42 (insV x) (insV y)).run Tryz.prog w = .ok (.bool (decide (x = y))) w := by
  rw [run_eql_struct, ins_equal]; rfl
theorem ins_neq (x y : I) (w : World) : (binOp .neq 42 (insV x) (insV y)).run Tryz.prog w = .ok (.bool (!decide (x = y))) w := by
  rw [run_neq_struct, ins_equal]; rfl
set_option maxHeartbeats 4000000 in
theorem equalC_any {w : World} {va vb : Value} {a b : List I} (ha : ReadsI w va a) (hb : ReadsI w vb b) (hl : a.length ≤ 1000000) :
    Calls Tryz.prog 48 #[va, vb] w (Says (.bool (decide (a = b))) w) := by
  obtain ⟨ao, ac, rfl, -⟩ := id ha
  obtain ⟨bo, bc, rfl, -⟩ := id hb
  have HA := Lib.hid ha
  have HB := Lib.hid hb
  obtain ⟨n, hn⟩ : ∃ n, a.length = n := ⟨_, rfl⟩
  obtain ⟨m, hm⟩ : ∃ m, b.length = m := ⟨_, rfl⟩
  have HN := Lib.hid hn
  have HM := Lib.hid hm
  rw [hn] at hl HA ⊢
  rw [hm] at HB ⊢
  obtain ⟨res, hres⟩ : ∃ res, decide (a = b) = res := ⟨_, rfl⟩
  have HRS := Lib.hid hres
  rw [hres]
  by_cases hnm : n = m
  case neg =>
    have HF := Lib.hid (show res = false by rw [← hres]; exact decide_eq_false (fun e => hnm (by rw [← hn, ← hm, e])))
    have e1 : ((n : Int) == (m : Int)) = false := by rw [beq_eq_false_iff_ne]; omega
    have e2 : (n == m) = false := by simpa using hnm
    have e3 : ((n : Int) != (m : Int)) = true := by rw [bne_iff_ne]; omega
    clear ha hb hn hm hres hnm
    go_enter Tryz.func48, Tryz.ntmps48
    go_wp2
    go_ret
    exact ⟨by rw [HF.out]; rfl, Below.refl _ _⟩
  subst hnm
  clear ha hb hn hm hres
  go_enter Tryz.func48, Tryz.ntmps48
  go_wp2
  go_loopg [13] n (fun z i wr => ∃ j q : Nat, z = n - j ∧ j ≤ n ∧ i = .int .i64 (j : Int) ∧ wr = w.drewN q ∧ Hid (decide (a.drop j = b.drop j) = res))
  case atStart => exact ⟨0, 0, rfl, Nat.zero_le _, rfl, rfl, Lib.hid HRS.out⟩
  case round =>
    obtain ⟨j, q, rfl, hj, rfl, hwr, HJ⟩ := hrel
    subst wr
    by_cases hlt : j < n
    · obtain ⟨x, hx⟩ : ∃ x, a[j]? = some x := ⟨_, List.getElem?_eq_getElem (by rw [HN.out]; exact hlt)⟩
      obtain ⟨y, hy⟩ : ∃ y, b[j]? = some y := ⟨_, List.getElem?_eq_getElem (by rw [HM.out]; exact hlt)⟩
      have HS := Lib.hid (show decide (x = y ∧ a.drop (j + 1) = b.drop (j + 1)) = res by rw [← HJ.out]; exact decide_eq_decide.2 (rest_eq hx hy).symm)
      obtain ⟨aa, rfl, a0, a1, a2, a3, a4⟩ := ReadsI.at HA.out hx
      obtain ⟨ba, rfl, b0, b1, b2, b3, b4⟩ := ReadsI.at HB.out hy
      have z0 : (0 : Int) ≤ (j : Int) := by omega
      have z1 : (j : Int) < (n : Int) := by omega
      have heq := ins_neq x y
      obtain ⟨x0, x1, x2, x3, x4⟩ := x
      obtain ⟨y0, y1, y2, y3, y4⟩ := y
      dsimp only [insV, insA] at a0 a1 a2 a3 a4 b0 b1 b2 b3 b4 heq
      clear HJ hx hy
      by_cases hxy : ((x0, x1, x2, x3, x4) : I) = (y0, y1, y2, y3, y4)
      · have HP := Lib.hid (show decide (a.drop (j + 1) = b.drop (j + 1)) = res by rw [← HS.out]; exact decide_eq_decide.2 ⟨fun h => ⟨hxy, h⟩, fun h => h.2⟩)
        rw [decide_eq_true hxy, Bool.not_true] at heq
        clear HS hxy
        go_wp2
        go_quiet (fail)
        go_wp2
        go_roundg (n - (j + 1))
        case measure => omega
        case rel => exact ⟨j + 1, _, rfl, by omega, by go_num, rfl, HP⟩
      · have HF := Lib.hid (show res = false by rw [← HS.out]; exact decide_eq_false (fun h => hxy h.1))
        rw [decide_eq_false hxy, Bool.not_false] at heq
        clear HS hxy
        go_wp2
        go_quiet (fail)
        go_wp2
        go_ret
        exact ⟨by rw [HF.out]; rfl, drewB2 w _ _⟩
    · obtain rfl : j = n := by omega
      have HF := Lib.hid (show res = true by rw [← HJ.out, drop_end HN.out, drop_end HM.out]; rfl)
      go_wp2
      go_ret
      exact ⟨by rw [HF.out]; rfl, drewB w q⟩
end Go.Proofs.YtpecingkoodmfaaGreatDoor.Ir
