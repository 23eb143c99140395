/- The walks of hollowaybook over lists of Seens: marks, comparison. -/
import Derived.Test.YtcffbeihgchpgaaGreatDoorRows
import Derived.Test.YtcffbeihgchpgaaGreatDoorG24
import Derived.Test.YtcffbeihgchpgaaGreatDoorG3
import Derived.WalkKit
import Derived.WalkSpells
import Derived.WalkLawsBesides
import Derived.Lib.Hide
import Derived.Laws.StructEq
import Derived.Deep.LoopGhost
import Derived.BigQuiet
import Derived.Deep.QuietTactic
import Derived.Deep.RegionHeld3
import Derived.Deep.DrawnRows
namespace Go.Proofs.YtcffbeihgchpgaaGreatDoor
open Go.RowKit Book Book.Wide
set_option linter.unusedSimpArgs false
set_option linter.unusedVariables false
/-- the cells of an element -/
def seenCells (e : Int × Int × Int × Int) : List Value := [.int .i64 e.1, .int .i64 e.2.1, .int .i64 e.2.2.1, .int .i64 e.2.2.2]
/-- the k-th mark of list i -/
def seenMk (i k : Nat) : Int × Int × Int × Int := (-1000 * (i : Int) - (k : Int) - 1, 0, 0, 0)
/-- the marks of list i, from a place on -/
def seenMks (i a n : Nat) : List (Int × Int × Int × Int) := (List.range n).map fun j => seenMk i (a + j)
theorem seenMks_length (i a n : Nat) : (seenMks i a n).length = n := by simp [seenMks]
theorem seenMks_succ (i a n : Nat) : seenMks i a (n + 1) = seenMks i a n ++ [seenMk i (a + n)] := by unfold seenMks; rw [List.range_succ, List.map_append]; rfl
theorem seenMks_add (i a m n : Nat) : seenMks i a (m + n) = seenMks i a m ++ seenMks i (a + m) n := by
  induction n with
  | zero => simp [seenMks]
  | succ n ih => rw [← Nat.add_assoc, seenMks_succ, ih, seenMks_succ, List.append_assoc, Nat.add_assoc]
/-- their cells -/
abbrev seenMarks (i a n : Nat) : List Value := (seenMks i a n).flatMap seenCells
theorem seenMarks_length (i a n : Nat) : (seenMarks i a n).length = n * 4 := by rw [flat_length (k := 4) (fun _ => rfl), seenMks_length]
theorem seenMarks_add (i a m n : Nat) : seenMarks i a (m + n) = seenMarks i a m ++ seenMarks i (a + m) n := by unfold seenMarks; rw [seenMks_add, List.flatMap_append]
theorem seen_one (es : List (Int × Int × Int × Int)) : ∀ u ∈ es.flatMap seenCells, u.oneCell' = true := by
  intro u hu
  rw [List.mem_flatMap] at hu
  obtain ⟨e, _, hu⟩ := hu
  simp only [seenCells, List.mem_cons, List.not_mem_nil, or_false] at hu
  rcases hu with rfl | rfl | rfl | rfl <;> rfl
theorem Tryz.bkSeensInfo : (Tryz.prog.info? 55).map (fun i => (i.zero, i.size, i.bytes)) = some (some (.agg #[.int .i64 0, .int .i64 0, .int .i64 0, .int .i64 0]), 4, 32) := by kernel_rfl
theorem Tryz.bkSeensSpineInfo : (Tryz.prog.info? 37).map (fun i => (i.zero, i.size, i.bytes)) = some (some (.slice none 0 0), 1, 24) := by kernel_rfl
theorem seen_eq (x0 x1 x2 x3 : Int) (w : World) : (binOp .eql 55 (.agg #[.int .i64 x0, .int .i64 x1, .int .i64 x2, .int .i64 x3]) (.agg #[.int .i64 x0, .int .i64 x1, .int .i64 x2, .int .i64 x3])).run Tryz.prog w = .ok (.bool true) w := by
  rw [run_eql_struct, run_equalIn_struct w _ _ _ _ (by kernel_rfl) (by kernel_rfl)]
  rw [show (Tryz.prog.fieldsOf 55).toList = [⟨"Ip", 3, 0, false, "", "", 0⟩, ⟨"Cell", 3, 1, false, "", "", 8⟩, ⟨"Arg", 3, 2, false, "", "", 16⟩, ⟨"Next", 3, 3, false, "", "", 24⟩] from by kernel_rfl]
  simp [Op.eqFields, part, Tryz.isAgg3, Tryz.isAgg9, Tryz.isAgg4, run_equalIn_int (P := Tryz.prog) _ _ 3 _ .i64 _ _ Tryz.underlying3, run_equalIn_string (P := Tryz.prog) _ _ 9 _ _ Tryz.underlying9, run_equalIn_bool' (P := Tryz.prog) _ _ 4 _ _ Tryz.underlying4]
set_option maxHeartbeats 2000000 in
theorem markSeens_any (i a n : Nat) (hi : i ≤ 1000000) (ha : a ≤ 10000000) (hn : n ≤ 10000000) (w : World) :
    Calls Tryz.prog 104 #[.int .i64 i, .int .i64 a, .int .i64 n] w fun e w' => ∃ v, e = .returned v ∧ OwnsK w' w.heap.size 55 4 v (seenMarks i a n) ∧ Below w.heap.size w w' := by
  obtain ⟨i0, q1, q2, q3, q4⟩ := info_parts Tryz.bkSeensInfo
  have HI := Lib.hid (And.intro q1 (And.intro q2 (And.intro q3 q4)))
  clear q1 q2 q3 q4
  go_enter Tryz.func104, Tryz.ntmps104
  go_wp2
  go_loopg [7, 8] n (fun g v k wr => ∃ j : Nat, g = n - j ∧ j ≤ n ∧ k = .int .i64 ((a + j : Nat) : Int) ∧ Hid (OwnsK wr w.heap.size 55 4 v (seenMarks i a j)) ∧ Hid (Below w.heap.size w wr))
  case atStart => exact ⟨0, rfl, Nat.zero_le _, by simp, OwnsK.nil _ _ _ _, Below.refl _ _⟩
  case round =>
    obtain ⟨j, rfl, hj, rfl, HO, HB⟩ := hrel
    by_cases hlt : j < n
    · have hlen := seenMarks_length i a j
      have HL := Lib.hid hlen
      obtain ⟨K, hK⟩ : ∃ K : Nat, a + j = K := ⟨_, rfl⟩
      have hK6 : K ≤ 20000000 := by omega
      have HKq := Lib.hid hK
      have hadj : (a : Int) + (j : Int) = (K : Int) := by omega
      simp only [Int.natCast_add, hadj]
      have HO1 := Lib.hid (HO.out.touch (Stirred.of_grown (World.grownBy_alloc wr (.cells #[.int .i64 (-1000 * (i : Int) - (K : Int) - 1), .int .i64 0, .int .i64 0, .int .i64 0] 55) none)) (fun _ _ => List.not_mem_nil))
      clear hlen hK
      go_wp2_with (at_builtin; refine Wide.wpList_append_two _ rfl _ _ 37 rfl w.heap.size 55 4 i0 (.agg #[.int .i64 0, .int .i64 0, .int .i64 0, .int .i64 0]) 32 Tryz.underlying37 HI.out.1 HI.out.2.1 HI.out.2.2.1 HI.out.2.2.2 rfl (by decide) _ j _ rfl HO1.out HL.out ⟨wr.heap.size, 0, none⟩ 1 1 [.int .i64 (-1000 * (i : Int) - (K : Int) - 1), .int .i64 0, .int .i64 0, .int .i64 0] rfl rfl ?c1 ?c2 (Nat.zero_lt_succ 0) ?c3 ?c4 ?c5 ?_)
      case c1 => intro j u hj; have := (List.getElem?_eq_some_iff.1 hj).1; rw [add_row]; exact whole_cell (heap_alloc_new wr _) (by simpa using hj)
      case c2 => intro u hu; simp only [List.mem_cons, List.not_mem_nil, or_false] at hu; rcases hu with rfl | rfl | rfl | rfl <;> rfl
      case c3 => unfold maxLen; omega
      case c4 => omega
      case c5 => have := HB.out.size; simp; omega
      intro v' w2 hO2 _ hT _
      have hbl := Lib.hid (fun k hk => (HO.out.block k hk).1)
      have HO2 := Lib.hid (show OwnsK w2 w.heap.size 55 4 v' (seenMarks i a (j + 1)) by unfold seenMarks; rw [seenMks_succ, List.flatMap_append, HKq.out]; exact hO2)
      have HB2 := Lib.hid ((HB.out.alloc HB.out.size (.cells #[.int .i64 (-1000 * (i : Int) - (K : Int) - 1), .int .i64 0, .int .i64 0, .int .i64 0] 55)).trans (hT.below (B := w.heap.size) (fun k hk => hbl.out k (by simpa using hk)) (by have := HB.out.size; simp; omega)))
      clear hO2 hT
      go_wp2
      go_roundg (n - (j + 1))
      case measure => omega
      case rel => exact ⟨j + 1, rfl, by omega, by have := HKq.out; go_num, HO2, HB2⟩
    · obtain rfl : j = n := by omega
      go_wp2
      go_ret
      exact ⟨_, rfl, HO.out, HB.out⟩
set_option maxHeartbeats 2000000 in
theorem sameSeens_any (va vb : Value) (Ba Bb : Nat) (es : List (Int × Int × Int × Int)) (w : World) (ha : OwnsK w Ba 55 4 va (es.flatMap seenCells)) (hb : OwnsK w Bb 55 4 vb (es.flatMap seenCells)) (hl : es.length ≤ 10000000) :
    Calls Tryz.prog 29 #[va, vb] w fun e w' => e = .returned (.bool true) ∧ ∃ q, w' = w.drewN q := by
  have hlen := flat_length (enc := seenCells) (k := 4) (fun _ => rfl) es
  obtain ⟨ao, ac, rfl⟩ := ha.slice hlen (by decide)
  obtain ⟨bo, bc, rfl⟩ := hb.slice hlen (by decide)
  have HA := Lib.hid ha
  have HB := Lib.hid hb
  obtain ⟨n, hn⟩ : ∃ n, es.length = n := ⟨_, rfl⟩
  have HN := Lib.hid hn
  rw [hn] at hl HA HB hlen ⊢
  have HL := Lib.hid hlen
  clear ha hb hn hlen
  go_enter Tryz.func29, Tryz.ntmps29
  go_wp2
  go_loopg [5] n (fun g i wr => ∃ j q : Nat, g = n - j ∧ j ≤ n ∧ i = .int .i64 j ∧ wr = w.drewN q)
  case atStart => exact ⟨0, 0, rfl, Nat.zero_le _, rfl, rfl⟩
  case round =>
    obtain ⟨j, q, rfl, hj, rfl, rfl⟩ := hrel
    by_cases hlt : j < n
    · obtain ⟨⟨x0, x1, x2, x3⟩, hx⟩ : ∃ x, es[j]? = some x := ⟨es[j]'(by rw [HN.out]; exact hlt), List.getElem?_eq_getElem _⟩
      obtain ⟨ga, ca, e1, hca, -, -⟩ := HA.out.row HL.out (by decide) (by omega)
      obtain ⟨gb, cb, e2, hcb, -, -⟩ := HB.out.row HL.out (by decide) (by omega)
      simp only [Value.slice.injEq, true_and] at e1 e2
      obtain ⟨rfl, rfl⟩ := e1
      obtain ⟨rfl, rfl⟩ := e2
      have a0 := hca (j * 4 + 0) _ (flat_at (enc := seenCells) (fun _ => rfl) hx (i := 0) rfl)
      have a1 := hca (j * 4 + 1) _ (flat_at (enc := seenCells) (fun _ => rfl) hx (i := 1) rfl)
      have a2 := hca (j * 4 + 2) _ (flat_at (enc := seenCells) (fun _ => rfl) hx (i := 2) rfl)
      have a3 := hca (j * 4 + 3) _ (flat_at (enc := seenCells) (fun _ => rfl) hx (i := 3) rfl)
      have b0 := hcb (j * 4 + 0) _ (flat_at (enc := seenCells) (fun _ => rfl) hx (i := 0) rfl)
      have b1 := hcb (j * 4 + 1) _ (flat_at (enc := seenCells) (fun _ => rfl) hx (i := 1) rfl)
      have b2 := hcb (j * 4 + 2) _ (flat_at (enc := seenCells) (fun _ => rfl) hx (i := 2) rfl)
      have b3 := hcb (j * 4 + 3) _ (flat_at (enc := seenCells) (fun _ => rfl) hx (i := 3) rfl)
      rw [Nat.add_zero] at a0 b0
      have heq := seen_eq x0 x1 x2 x3
      clear hx hca hcb
      go_wp2
      go_quiet (fail)
      go_wp2
      go_roundg (n - (j + 1))
      case measure => omega
      case rel => exact ⟨j + 1, _, rfl, by omega, by go_num, rfl⟩
    · go_wp2
      go_ret
      exact ⟨rfl, q, rfl⟩
def goodSeens (xs : List Value) : Prop := ∃ es : List (Int × Int × Int × Int), xs = es.flatMap seenCells ∧ es.length ≤ 1000000
set_option maxHeartbeats 2000000 in
theorem stillSeens_any (p B : Nat) (vS vW : Value) (ls : List (Value × List Value)) (w : World) (c0 : w.cell? ⟨p, 6, none⟩ = some vS) (c1 : w.cell? ⟨p, 7, none⟩ = some vW) (bs : List Nat) (hk : Wide.Kept w B 37 55 4 goodSeens vS vW ls bs) :
    Calls Tryz.prog 64 #[.pointer (some ⟨p, 0, none⟩)] w fun e w' => e = .returned (.bool true) ∧ ∃ q, w' = w.drewN q := by
  have HK := Lib.hid hk
  obtain ⟨ao, cap, hv⟩ := hk.lists.spine.slice
  rw [List.length_map] at hv
  have hf := hk.few
  obtain ⟨n, hn⟩ : ∃ n, ls.length = n := ⟨_, rfl⟩
  rw [hn] at hv hf
  subst hv
  have HN := Lib.hid hn
  clear hk hn
  go_enter Tryz.func64, Tryz.ntmps64
  go_wp2
  go_loopg [3] n (fun g i wr => ∃ j : Nat, g = n - j ∧ j ≤ n ∧ i = .int .i64 j ∧ Hid (∃ q, wr = w.drewN q))
  case atStart => exact ⟨0, rfl, Nat.zero_le _, rfl, 0, rfl⟩
  case round =>
    obtain ⟨j, rfl, hj, rfl, HQ⟩ := hrel
    have hsame : ∀ {a : Addr} {v : Value}, w.cell? a = some v → wr.cell? a = some v := fun {a v} h => by obtain ⟨q, e⟩ := HQ.out; rw [e]; exact h
    have hB : Below w.heap.size w wr := by obtain ⟨q, e⟩ := HQ.out; rw [e]; exact bk_below_drewN _ _ _
    have c0 := hsame c0
    by_cases hlt : j < n
    · obtain ⟨gS, cS, gW, cW, a, b, xs, e1, rfl, k1, k2, o1, o2, es, rfl, hl⟩ := HK.out.at (j := j) (by rw [HN.out]; exact hlt)
      simp only [Value.slice.injEq] at e1
      obtain ⟨rfl, _, rfl⟩ := e1
      have hN := HN.out
      rw [hN] at c1
      have c1 := hsame c1
      have k1 := hsame k1
      have k2 := hsame k2
      clear hN
      have C := fun k : Nat => Lib.hid (sameSeens_any a b B B es (wr.drewN k) ((o1.below hB).below (bk_below_drewN _ _ k)) ((o2.below hB).below (bk_below_drewN _ _ k)) (by omega))
      have hlen := flat_length (enc := seenCells) (k := 4) (fun _ => rfl) es
      obtain ⟨ao, ac, ha⟩ := o1.slice hlen (by decide)
      obtain ⟨bo, bc, hb⟩ := o2.slice hlen (by decide)
      subst ha hb
      clear o1 o2 hsame hlen
      have HB := Lib.hid hB
      clear hB
      go_wp2
      go_quiet ((go_at_call 29; exact Calls.quiet_of (C _).out))
      go_wp2
      go_roundg (n - (j + 1))
      case measure => omega
      case rel => exact ⟨j + 1, rfl, by omega, by go_num, by obtain ⟨q, e⟩ := HQ.out; rw [e]; exact ⟨_, World.drewN_drewN _ _ _⟩⟩
    · clear hsame hB
      go_wp2
      go_ret
      exact ⟨rfl, HQ.out⟩
end Go.Proofs.YtcffbeihgchpgaaGreatDoor
/- Marks put into kept lists of Seens. -/
namespace Go.Proofs.YtcffbeihgchpgaaGreatDoor
open Go.RowKit Book Book.Wide
set_option linter.unusedSimpArgs false
set_option linter.unusedVariables false
set_option maxHeartbeats 8000000 in
theorem putSeens_any (p B : Nat) (vS : Value) (ls : List (Value × List Value)) (w : World) (hp : p < B) (c0 : w.cell? ⟨p, 6, none⟩ = some vS) (hL : Wide.Lists w B 37 55 4 vS ls) (hf : ls.length ≤ 250) (hl : ∀ k ∈ ls, ∃ n, k.2.length = n * 4 ∧ n ≤ 1000000) :
    Calls Tryz.prog 71 #[.pointer (some ⟨p, 0, none⟩)] w fun e w' => e = .returned (.tuple #[]) ∧ ∃ cur, Done (fun j c => seenMarks j 0 (c / 4)) ls ls.length cur ∧ Wide.Lists w' B 37 55 4 vS cur ∧ Stirred w w' (blocks ls) := by
  obtain ⟨ao, cap, hv⟩ := hL.spine.slice
  rw [List.length_map] at hv
  obtain ⟨L, hn⟩ : ∃ n, ls.length = n := ⟨_, rfl⟩
  rw [hn] at hv hf
  rw [hn]
  subst hv
  have HL := Lib.hid hL
  have HN := Lib.hid hn
  have HM := Lib.hid hl
  have HC0 := Lib.hid c0
  have hpb := Lib.hid (fun h => Nat.lt_irrefl p (Nat.lt_of_lt_of_le hp (hL.lt p h).1) : p ∉ blocks ls)
  clear hL hn hl c0
  go_enter Tryz.func71, Tryz.ntmps71
  go_wp2
  go_loopg [2] L (fun g i wr => ∃ (j : Nat) (cur : List (Value × List Value)), g = L - j ∧ j ≤ L ∧ i = .int .i64 j ∧ Hid (Done (fun j c => seenMarks j 0 (c / 4)) ls j cur) ∧ Hid (Wide.Lists wr B 37 55 4 (.slice ao L cap) cur) ∧ Hid (Stirred w wr (blocks ls)))
  case atStart => exact ⟨0, ls, rfl, Nat.zero_le _, rfl, Done.zero _ _, HL.out, Stirred.refl _ _⟩
  case round =>
    obtain ⟨j, cur, rfl, hj, rfl, HD, HK, HT⟩ := hrel
    have c0 := HT.out.cell hpb.out HC0.out
    by_cases hlt : j < L
    · obtain ⟨⟨v, xs⟩, hk⟩ : ∃ k, ls[j]? = some k := ⟨_, List.getElem?_eq_getElem (by rw [HN.out]; exact hlt)⟩
      have hk' := HD.out.rest j _ (Nat.le_refl _) hk
      have ho := HK.out.list _ (List.mem_of_getElem? hk')
      obtain ⟨gS, cS, e1, hcS, _, _⟩ := HK.out.spine.row (by rw [List.length_map, HD.out.len, HN.out]; omega)
      rw [List.length_map, HD.out.len, HN.out] at e1
      simp only [Value.slice.injEq, true_and] at e1
      obtain ⟨rfl, rfl⟩ := e1
      have k1 := hcS j v (by rw [List.getElem?_map, hk']; rfl)
      obtain ⟨n, hn, hn6⟩ := HM.out _ (List.mem_of_getElem? hk)
      dsimp only at ho hn
      obtain ⟨bo, bc, hv⟩ := ho.slice hn (by decide)
      subst hv
      have HO := Lib.hid ho
      have HK1 := Lib.hid hk
      have HK2 := Lib.hid hk'
      have HXN := Lib.hid hn
      have hj0 : (0 : Int) ≤ (j : Int) := Int.natCast_nonneg _
      have hj1 : (j : Int) < (L : Int) := by omega
      have C := Lib.hid (markSeens_any j 0 n (by omega) (by omega) (by omega) wr)
      clear ho hk hk' hn hcS
      go_wp2_with fail
      refine C.out.mono ?_
      rintro e w1 ⟨m, rfl, hm, hb⟩
      obtain ⟨mo, mc, hmv⟩ := hm.slice (seenMarks_length _ _ _) (by decide)
      subst hmv
      have HMK := Lib.hid hm
      have HB := Lib.hid hb
      have HO1 := Lib.hid (HO.out.below hb)
      have HK3 := Lib.hid (HK.out.below hb)
      have HT1 := Lib.hid (HT.out.trans (Stirred.of_below hb []) (fun _ h => by cases h))
      have c01 := HT1.out.cell hpb.out HC0.out
      have hbw := Lib.hid (fun k hk => (HO.out.block k hk).2.1)
      have HS1 := Lib.hid ((Stirred.of_below HB.out []).cell (List.not_mem_nil) k1)
      clear hm hb k1 c0
      go_wp2
      go_loopg [4] n (fun g k wx => ∃ q : Nat, g = n - q ∧ q ≤ n ∧ k = .int .i64 q ∧ Hid (OwnsK wx B 55 4 (.slice bo n bc) ((seenMarks j 0 n).take (q * 4) ++ xs.drop (q * 4))) ∧ Hid (Stirred w1 wx (blk (.slice bo n bc)).toList))
      case atStart => exact ⟨0, rfl, Nat.zero_le _, rfl, by rw [Nat.zero_mul]; exact HO1.out, Stirred.refl _ _⟩
      case round =>
        obtain ⟨q, rfl, hq, rfl, HX, HY⟩ := hrel
        by_cases hlq : q < n
        · have hmx : (seenMks j 0 n)[q]? = some (seenMk j q) := by simp [seenMks, hlq]
          have hxl : ((seenMarks j 0 n).take (q * 4) ++ xs.drop (q * 4)).length = n * 4 := by rw [List.length_append, List.length_take, List.length_drop, seenMarks_length, HXN.out]; omega
          obtain ⟨gv, cv, e1, hcv, hfv, hlc⟩ := HX.out.row hxl (by decide) (by omega)
          simp only [Value.slice.injEq, true_and] at e1
          obtain ⟨rfl, rfl⟩ := e1
          have hbv := HX.out.capAt (by omega)
          have hy := HY.out
          rw [hbv] at hy
          obtain ⟨gm, cm, e2, hcm, _, hlm⟩ := HMK.out.row (seenMarks_length _ _ _) (by decide) (by omega)
          simp only [Value.slice.injEq, true_and] at e2
          obtain ⟨rfl, rfl⟩ := e2
          have n1 : gm ≠ gv := by have h1 := (HMK.out.block gm (HMK.out.capAt (by rw [seenMarks_length]; omega))).1; have h2 := hbw.out gv hbv; omega
          have n2 : gS ≠ gv := fun e => HK.out.spine_apart (by decide) gS (HK.out.spine.capAt (by rw [List.length_map, HD.out.len, HN.out]; omega)) (by rw [e]; exact mem_blocks (List.mem_of_getElem? HK2.out) hbv)
          have n3 : p ≠ gv := by have h1 := (HO.out.block gv hbv).1; omega
          have k1 := hy.cell (show gS ∉ [gv] by simpa using n2) (HS1.out)
          have c0 := hy.cell (show p ∉ [gv] by simpa using n3) c01
          have g0 : (seenMarks j 0 n)[q * 4]? = some (.int .i64 (seenMk j q).1) := flat_at (k := 4) (enc := seenCells) (fun _ => rfl) hmx (i := 0) rfl
          have m0 := hy.cell (show gm ∉ [gv] by simpa using n1) (hcm (q * 4) _ g0)
          have g1 : (seenMarks j 0 n)[q * 4 + 1]? = some (.int .i64 (seenMk j q).2.1) := flat_at (k := 4) (enc := seenCells) (fun _ => rfl) hmx (i := 1) rfl
          have m1 := hy.cell (show gm ∉ [gv] by simpa using n1) (hcm (q * 4 + 1) _ g1)
          have g2 : (seenMarks j 0 n)[q * 4 + 2]? = some (.int .i64 (seenMk j q).2.2.1) := flat_at (k := 4) (enc := seenCells) (fun _ => rfl) hmx (i := 2) rfl
          have m2 := hy.cell (show gm ∉ [gv] by simpa using n1) (hcm (q * 4 + 2) _ g2)
          have g3 : (seenMarks j 0 n)[q * 4 + 3]? = some (.int .i64 (seenMk j q).2.2.2) := flat_at (k := 4) (enc := seenCells) (fun _ => rfl) hmx (i := 3) rfl
          have m3 := hy.cell (show gm ∉ [gv] by simpa using n1) (hcm (q * 4 + 3) _ g3)
          obtain ⟨o0, ho0⟩ : ∃ o, ((seenMarks j 0 n).take (q * 4) ++ xs.drop (q * 4))[q * 4]? = some o := ⟨_, List.getElem?_eq_getElem (by omega)⟩
          have v0 := hcv _ _ ho0
          have f0 := hfv (q * 4)
          obtain ⟨o1, ho1⟩ : ∃ o, ((seenMarks j 0 n).take (q * 4) ++ xs.drop (q * 4))[q * 4 + 1]? = some o := ⟨_, List.getElem?_eq_getElem (by omega)⟩
          have v1 := hcv _ _ ho1
          have f1 := hfv (q * 4 + 1)
          obtain ⟨o2, ho2⟩ : ∃ o, ((seenMarks j 0 n).take (q * 4) ++ xs.drop (q * 4))[q * 4 + 2]? = some o := ⟨_, List.getElem?_eq_getElem (by omega)⟩
          have v2 := hcv _ _ ho2
          have f2 := hfv (q * 4 + 2)
          obtain ⟨o3, ho3⟩ : ∃ o, ((seenMarks j 0 n).take (q * 4) ++ xs.drop (q * 4))[q * 4 + 3]? = some o := ⟨_, List.getElem?_eq_getElem (by omega)⟩
          have v3 := hcv _ _ ho3
          have f3 := hfv (q * 4 + 3)
          have hq0 : (0 : Int) ≤ (q : Int) := Int.natCast_nonneg _
          have hq1 : (q : Int) < (n : Int) := by omega
          have hst := (((Stirred.setCell wr ⟨gv, q * 4, none⟩ (.int .i64 (seenMk j q).1)).trans (Stirred.setCell _ ⟨gv, q * 4 + 1, none⟩ (.int .i64 (seenMk j q).2.1)) (fun _ h => .inl h)).trans (Stirred.setCell _ ⟨gv, q * 4 + 2, none⟩ (.int .i64 (seenMk j q).2.2.1)) (fun _ h => .inl h)).trans (Stirred.setCell _ ⟨gv, q * 4 + 3, none⟩ (.int .i64 (seenMk j q).2.2.2)) (fun _ h => .inl h)
          have hsd := hst.trans (Stirred.drew _ []) (fun _ h => by cases h)
          have hwd := Stirred.drew wr []
          have FP := Lib.hid (hsd.cell (show p ∉ [gv] by simpa using n3) c0)
          have FS := Lib.hid (hsd.cell (show gS ∉ [gv] by simpa using n2) k1)
          have DP := Lib.hid (hwd.cell List.not_mem_nil c0)
          have DS := Lib.hid (hwd.cell List.not_mem_nil k1)
          have F0 := Lib.hid (hsd.cell (show gm ∉ [gv] by simpa using n1) m0)
          have D0 := Lib.hid (hwd.cell List.not_mem_nil m0)
          have F1 := Lib.hid (hsd.cell (show gm ∉ [gv] by simpa using n1) m1)
          have D1 := Lib.hid (hwd.cell List.not_mem_nil m1)
          have F2 := Lib.hid (hsd.cell (show gm ∉ [gv] by simpa using n1) m2)
          have D2 := Lib.hid (hwd.cell List.not_mem_nil m2)
          have F3 := Lib.hid (hsd.cell (show gm ∉ [gv] by simpa using n1) m3)
          have D3 := Lib.hid (hwd.cell List.not_mem_nil m3)
          have hlen : xs.length = (seenMarks j 0 n).length := by rw [HXN.out, seenMarks_length]
          have hx2 := ((((HX.out.stored (q * 4) (.int .i64 (seenMk j q).1)).stored (q * 4 + 1) (.int .i64 (seenMk j q).2.1)).stored (q * 4 + 2) (.int .i64 (seenMk j q).2.2.1)).stored (q * 4 + 3) (.int .i64 (seenMk j q).2.2.2)).touch (Stirred.drew _ []) (fun _ _ => List.not_mem_nil)
          rw [mix_set g0 hlen, mix_set g1 hlen, mix_set g2 hlen, mix_set g3 hlen, show q * 4 + 3 + 1 = (q + 1) * 4 by omega] at hx2
          have HX2 := Lib.hid hx2
          have HY2 := Lib.hid ((HY.out.trans hst (fun _ h => .inl (by rw [hbv]; exact h))).trans (Stirred.drew _ []) (fun _ h => by cases h))
          clear hmx hcv hcm hbv hy hx2 hlen hst hsd hwd g0 ho0 g1 ho1 g2 ho2 g3 ho3
          go_wp2_with fail
          go_region_held3 (fun w' => w'.cell? ⟨p, 6, none⟩ = some (.slice (some ⟨gS, 0, none⟩) L cap) ∧ w'.cell? ⟨gS, j, none⟩ = some (.slice (some ⟨gv, 0, none⟩) n bc) ∧ w'.cell? ⟨gm, q * 4, none⟩ = some (.int .i64 (seenMk j q).1) ∧ w'.cell? ⟨gm, q * 4 + 1, none⟩ = some (.int .i64 (seenMk j q).2.1) ∧ w'.cell? ⟨gm, q * 4 + 2, none⟩ = some (.int .i64 (seenMk j q).2.2.1) ∧ w'.cell? ⟨gm, q * 4 + 3, none⟩ = some (.int .i64 (seenMk j q).2.2.2)) (first | (with_reducible exact ⟨FP.out, FS.out, F0.out, F1.out, F2.out, F3.out⟩) | (with_reducible exact ⟨DP.out, DS.out, D0.out, D1.out, D2.out, D3.out⟩) | (go_keep; done)) (fail)
          all_goals go_wp2
          go_roundg (n - (q + 1))
          case measure => omega
          case rel => exact ⟨q + 1, rfl, by omega, by go_num, HX2, HY2⟩
        · obtain rfl : q = n := by omega
          go_wp2
          go_roundg (L - (j + 1))
          case measure => omega
          case rel =>
            have hx : (seenMarks j 0 q).take (q * 4) ++ xs.drop (q * 4) = seenMarks j 0 q := by
              rw [List.take_of_length_le (by rw [seenMarks_length]; omega), List.drop_eq_nil_of_le (by rw [HXN.out]; omega), List.append_nil]
            have hset := HK3.out.set (by decide) HK2.out HY.out (by have h1 := HX.out; rw [hx] at h1; exact h1)
            have hdone := HD.out.succ HK1.out
            rw [HXN.out, Nat.mul_div_cancel _ (by decide)] at hdone
            exact ⟨j + 1, _, rfl, by omega, by go_num, hdone, hset, HT1.out.trans HY.out (fun k hk => .inl (mem_blocks (List.mem_of_getElem? HK1.out) (by simpa using hk)))⟩
    · obtain rfl : j = L := by omega
      go_wp2
      go_end0
      exact ⟨rfl, cur, HD.out, HK.out, HT.out⟩
end Go.Proofs.YtcffbeihgchpgaaGreatDoor
/- Kept lists of Seens, grown. -/
namespace Go.Proofs.YtcffbeihgchpgaaGreatDoor
open Go.RowKit Book Book.Wide
set_option linter.unusedSimpArgs false
set_option linter.unusedVariables false
set_option maxHeartbeats 2000000 in
theorem growSeens_any (p B : Nat) (vS : Value) (ls : List (Value × List Value)) (w : World) (hp : p < B) (hB : B ≤ w.heap.size) (c0 : w.cell? ⟨p, 6, none⟩ = some vS) (hL : Wide.Lists w B 37 55 4 vS ls) (hf : ls.length ≤ 250) (hl : ∀ k ∈ ls, k.2.length ≤ 1000000 * 4) (hm : ∀ i k, ls[i]? = some k → ∃ n, k.2 = seenMarks i 0 n) :
    Calls Tryz.prog 76 #[.pointer (some ⟨p, 0, none⟩)] w fun e w' => ∃ vO gs, e = .returned vO ∧ Wide.Gs w B 37 55 4 (fun j c => seenMarks j 0 (c / 4)) (2000000 * 4) vS ls ls.length vO gs w' := by
  obtain ⟨i0, q1, q2, q3, q4⟩ := info_parts Tryz.bkSeensInfo
  have HI := Lib.hid (And.intro q1 (And.intro q2 (And.intro q3 q4)))
  clear q1 q2 q3 q4
  obtain ⟨i1, q1, q2, q3, q4⟩ := info_parts Tryz.bkSeensSpineInfo
  have HJ := Lib.hid (And.intro q1 (And.intro q2 (And.intro q3 q4)))
  clear q1 q2 q3 q4
  obtain ⟨ao, cap, hv⟩ := hL.spine.slice
  rw [List.length_map] at hv
  obtain ⟨L, hn⟩ : ∃ n, ls.length = n := ⟨_, rfl⟩
  rw [hn] at hv hf
  rw [hn]
  subst hv
  have HL := Lib.hid hL
  have HN := Lib.hid hn
  have HM := Lib.hid (And.intro hl hm)
  have HC0 := Lib.hid c0
  have hpb := Lib.hid (fun h => Nat.lt_irrefl p (Nat.lt_of_lt_of_le hp (hL.lt p h).1) : p ∉ blocks ls)
  clear hL hn hl hm c0
  go_enter Tryz.func76, Tryz.ntmps76
  go_wp2
  go_loopg [3, 4] L (fun g o i wr => ∃ (j : Nat) (gs : List (Value × List Value)), g = L - j ∧ j ≤ L ∧ i = .int .i64 j ∧ Hid (Wide.Gs w B 37 55 4 (fun j c => seenMarks j 0 (c / 4)) (2000000 * 4) (.slice ao L cap) ls j o gs wr))
  case atStart => exact ⟨0, [], rfl, Nat.zero_le _, rfl, Wide.Gs.zero HL.out⟩
  case round =>
    obtain ⟨j, gs, rfl, hj, rfl, HG⟩ := hrel
    obtain ⟨wa, hwa⟩ : ∃ wa, wa = wr := ⟨_, rfl⟩
    subst hwa
    have c0 := HG.out.stir.cell hpb.out HC0.out
    have HW := Lib.hid (Nat.le_trans hB HG.out.stir.size)
    by_cases hlt : j < L
    · obtain ⟨⟨v, xs⟩, hk⟩ : ∃ k, ls[j]? = some k := ⟨_, List.getElem?_eq_getElem (by rw [HN.out]; exact hlt)⟩
      have ho := HG.out.old.list _ (List.mem_of_getElem? hk)
      obtain ⟨gS, cS, e1, hcS, _, _⟩ := HG.out.old.spine.row (by rw [List.length_map, HN.out]; omega)
      rw [List.length_map, HN.out] at e1
      simp only [Value.slice.injEq, true_and] at e1
      obtain ⟨rfl, rfl⟩ := e1
      have k1 := hcS j v (by rw [List.getElem?_map, hk]; rfl)
      obtain ⟨n, hxs⟩ := HM.out.2 _ _ hk
      dsimp only at hxs
      have hn6 : n ≤ 1000000 := by
        have h1 := HM.out.1 _ (List.mem_of_getElem? hk)
        dsimp only at h1
        rw [hxs, seenMarks_length] at h1
        exact Nat.le_of_mul_le_mul_right h1 (by decide)
      have hg0 := Wide.Grows.start ho
      dsimp only at hg0
      rw [show xs = seenMarks j 0 (n + 0) from hxs] at hg0 hk
      have HK := Lib.hid hk
      have HX := Lib.hid hg0
      have hj0 : (0 : Int) ≤ (j : Int) := Int.natCast_nonneg _
      have hj1 : (j : Int) < (L : Int) := by omega
      clear ho hk hcS hg0 hxs
      go_wp2
      go_loopg [5, 6] 12 (fun g l k wx => ∃ q : Nat, g = 12 - q ∧ q ≤ 12 ∧ k = .int .i64 q ∧ Hid (Wide.Grows wa B 55 4 v (seenMarks j 0 n) wx l (seenMarks j 0 (n + q))))
      case atStart => exact ⟨0, rfl, Nat.zero_le _, rfl, HX.out⟩
      case round =>
        obtain ⟨q, rfl, hq, rfl, HZ⟩ := hrel
        obtain ⟨lo, lc, hlv⟩ := HZ.out.long.slice (seenMarks_length _ _ _) (by decide)
        subst hlv
        obtain ⟨m, hm⟩ : ∃ m, n + q = m := ⟨_, rfl⟩
        rw [hm] at HZ
        rw [hm]
        have HMQ := Lib.hid hm
        have hm6 : m ≤ 1000012 := by omega
        clear hm
        by_cases hlq : q < 12
        · have C := Lib.hid (markSeens_any j m 1 (by omega) (by omega) (by omega) wr)
          go_wp2_with fail
          refine C.out.mono ?_
          rintro e w1 ⟨f, rfl, hf, hb⟩
          obtain ⟨fg, fc, hfv, hfc, _, _⟩ := hf.row (seenMarks_length _ _ _) (by decide) (by decide)
          subst hfv
          have HF := Lib.hid hfc
          have HZ1 := Lib.hid (HZ.out.below hb)
          have HB := Lib.hid hb
          clear hf hfc hb
          go_wp2_with (at_builtin; refine Wide.wpList_append_two _ rfl _ _ 37 rfl B 55 4 i0 (.agg #[.int .i64 0, .int .i64 0, .int .i64 0, .int .i64 0]) 32 Tryz.underlying37 HI.out.1 HI.out.2.1 HI.out.2.2.1 HI.out.2.2.2 rfl (by decide) _ m _ rfl HZ1.out.long (seenMarks_length _ _ _) ⟨fg, 0, none⟩ 1 fc (seenMarks j m 1) (seenMarks_length _ _ _) rfl ?c1 (seen_one _) (Nat.zero_lt_succ 0) ?c3 ?c4 ?c5 ?_)
          case c1 => intro k u hu; rw [add_row]; exact HF.out k u hu
          case c3 => unfold maxLen; omega
          case c4 => omega
          case c5 => exact Nat.le_trans HW.out HZ1.out.stir.size
          intro v' w2 hO2 hS2 hT hN
          have hG := HZ1.out.append hO2 hS2 hT hN
          have hadd : seenMarks j 0 m ++ seenMarks j m 1 = seenMarks j 0 (n + (q + 1)) := by rw [← Nat.add_assoc, HMQ.out, seenMarks_add, Nat.zero_add]
          rw [hadd] at hG
          have HG2 := Lib.hid hG
          clear hO2 hS2 hT hN hG hadd
          go_wp2
          go_roundg (12 - (q + 1))
          case measure => omega
          case rel => exact ⟨q + 1, rfl, by omega, by go_num, HG2⟩
        · obtain rfl : q = 12 := by omega
          have C := Lib.hid (markSeens_any j m 60 (by omega) (by omega) (by omega) wr)
          go_wp2_with fail
          refine C.out.mono ?_
          rintro e w1 ⟨f, rfl, hf, hb⟩
          obtain ⟨fg, fc, hfv, hfc, _, _⟩ := hf.row (seenMarks_length _ _ _) (by decide) (by decide)
          subst hfv
          have HF := Lib.hid hfc
          have HZ1 := Lib.hid (HZ.out.below hb)
          clear hf hfc hb
          go_wp2_with (at_builtin; refine Wide.wpList_append_two _ rfl _ _ 37 rfl B 55 4 i0 (.agg #[.int .i64 0, .int .i64 0, .int .i64 0, .int .i64 0]) 32 Tryz.underlying37 HI.out.1 HI.out.2.1 HI.out.2.2.1 HI.out.2.2.2 rfl (by decide) _ m _ rfl HZ1.out.long (seenMarks_length _ _ _) ⟨fg, 0, none⟩ 60 fc (seenMarks j m 60) (seenMarks_length _ _ _) rfl ?c1 (seen_one _) (by decide) ?c3 ?c4 ?c5 ?_)
          case c1 => intro k u hu; rw [add_row]; exact HF.out k u hu
          case c3 => unfold maxLen; omega
          case c4 => omega
          case c5 => exact Nat.le_trans HW.out HZ1.out.stir.size
          intro v' w2 hO2 hS2 hT hN
          have hG := HZ1.out.append hO2 hS2 hT hN
          have hadd : seenMarks j 0 m ++ seenMarks j m 60 = seenMarks j 0 (m + 60) := by rw [seenMarks_add, Nat.zero_add]
          rw [hadd] at hG
          have hG := hG.below ((Below.refl w2.heap.size w2).alloc (Nat.le_refl _) (.cells #[v'] 37))
          obtain ⟨no, nc, hnv⟩ := hG.long.slice (seenMarks_length _ _ _) (by decide)
          subst hnv
          have HG2 := Lib.hid hG
          have HO3 := Lib.hid (HG.out.out_at HK.out hG)
          have HLN := Lib.hid (HG.out.len)
          have HW2 := Lib.hid (HG.out.stir.size)
          clear hO2 hS2 hT hN hG hadd
          go_wp2_with (at_builtin; refine Book.wpList_append_two _ rfl _ _ 32 rfl w.heap.size 37 i1 (.slice none 0 0) 24 Tryz.underlying32 HJ.out.1 HJ.out.2.1 HJ.out.2.2.1 HJ.out.2.2.2 rfl _ _ rfl HO3.out ⟨w2.heap.size, 0, none⟩ 1 1 [.slice no (m + 60) nc] rfl rfl ?d1 ?d2 (Nat.zero_lt_succ 0) ?d3 ?d4 ?d5 ?_)
          case d1 => intro j u hj; rcases j with _ | j <;> simp at hj; subst hj; simp [Addr.add]
          case d2 => intro u hu; simp at hu; subst hu; rfl
          case d3 => rw [List.length_map, HLN.out]; show j + 1 ≤ maxLen; unfold maxLen; omega
          case d4 => rw [List.length_map, HLN.out]; show (j + 1) * 24 ≤ _; omega
          case d5 => exact Nat.le_trans HW2.out HG2.out.stir.size
          intro v' w3 hO3 _ hT3 _
          have HG3 := Lib.hid (HG.out.step (by decide) HK.out HG2.out (by rw [seenMarks_length, Nat.mul_div_cancel _ (by decide)]) (by rw [seenMarks_length]; exact Nat.mul_le_mul_right _ (by omega)) hO3 hT3)
          clear hO3 hT3
          go_wp2
          go_roundg (L - (j + 1))
          case measure => omega
          case rel => exact ⟨j + 1, _, rfl, by omega, by go_num, HG3⟩
    · obtain rfl : j = L := by omega
      go_wp2
      go_ret
      exact ⟨_, gs, rfl, HG.out⟩
end Go.Proofs.YtcffbeihgchpgaaGreatDoor
/- Do lists of Seens bear their marks? -/
namespace Go.Proofs.YtcffbeihgchpgaaGreatDoor
open Go.RowKit Book Book.Wide
set_option linter.unusedSimpArgs false
set_option linter.unusedVariables false
set_option maxHeartbeats 2000000 in
theorem markedSeens_any (B : Nat) (v : Value) (ls : List (Value × List Value)) (w : World) (hs : Owns w B 37 v (ls.map (·.1))) (hl : ∀ k ∈ ls, OwnsK w B 55 4 k.1 k.2) (hf : ls.length ≤ 250) (hm : ∀ i k, ls[i]? = some k → ∃ n, k.2 = seenMarks i 0 n ∧ n ≤ 2000000) :
    Calls Tryz.prog 82 #[v] w fun e w' => e = .returned (.bool true) ∧ Below w.heap.size w w' := by
  obtain ⟨ao, cap, hv⟩ := hs.slice
  rw [List.length_map] at hv
  obtain ⟨L, hn⟩ : ∃ n, ls.length = n := ⟨_, rfl⟩
  rw [hn] at hv hf
  subst hv
  have HS := Lib.hid hs
  have HL := Lib.hid hl
  have HN := Lib.hid hn
  have HM := Lib.hid hm
  clear hs hl hn hm
  go_enter Tryz.func82, Tryz.ntmps82
  go_wp2
  go_loopg [3] L (fun g i wr => ∃ j : Nat, g = L - j ∧ j ≤ L ∧ i = .int .i64 j ∧ Hid (Below w.heap.size w wr))
  case atStart => exact ⟨0, rfl, Nat.zero_le _, rfl, Below.refl _ _⟩
  case round =>
    obtain ⟨j, rfl, hj, rfl, HB⟩ := hrel
    by_cases hlt : j < L
    · obtain ⟨⟨v, xs⟩, hk⟩ : ∃ k, ls[j]? = some k := ⟨_, List.getElem?_eq_getElem (by rw [HN.out]; exact hlt)⟩
      have ho := (HL.out _ (List.mem_of_getElem? hk)).below HB.out
      obtain ⟨gS, cS, e1, hcS, _, _⟩ := HS.out.row (by rw [List.length_map, HN.out]; omega)
      rw [List.length_map, HN.out] at e1
      simp only [Value.slice.injEq, true_and] at e1
      obtain ⟨rfl, rfl⟩ := e1
      have k0 := hcS j v (by rw [List.getElem?_map, hk]; rfl)
      have k1 := (Stirred.of_below HB.out []).cell (List.not_mem_nil) k0
      obtain ⟨n, hxs, hn6⟩ := HM.out _ _ hk
      dsimp only at hxs ho
      subst hxs
      obtain ⟨bo, bc, hbv⟩ := ho.slice (seenMarks_length _ _ _) (by decide)
      subst hbv
      have HO := Lib.hid ho
      have hj0 : (0 : Int) ≤ (j : Int) := Int.natCast_nonneg _
      have hj1 : (j : Int) < (L : Int) := by omega
      have C := fun w => Lib.hid (markSeens_any j 0 n (by omega) (by omega) (by omega) w)
      clear ho hk hcS k0
      go_wp2_with fail
      go_region_held3 (fun w' => w'.cell? ⟨gS, j, none⟩ = some (.slice bo n bc) ∧ Hid (Below wr.heap.size wr w'))
        (first
          | exact ⟨(Stirred.of_below HB2.out []).cell (List.not_mem_nil) k1, HB2⟩
          | exact ⟨(Stirred.of_below HB1.out []).cell (List.not_mem_nil) k1, HB1⟩
          | exact ⟨k1, (Below.refl wr.heap.size wr).drew⟩)
        (first
          | (go_at_call 104; refine (C _).out.mono ?_; rintro e w1 ⟨f, rfl, hf, hb⟩; have HB1 := Lib.hid ((Below.refl wr.heap.size wr).drew.trans hb); have HF := Lib.hid hf; clear hf hb)
          | (go_at_call 29; have hf := HF.out; have ho := HO.out.below HB1.out; refine (sameSeens_any _ _ _ _ _ _ ho hf (by rw [seenMks_length]; omega)).mono ?_; clear hf ho; rintro e w2 ⟨rfl, q, hq⟩; have HB2 := Lib.hid (show Below wr.heap.size wr w2 by rw [hq]; exact HB1.out.trans (bk_below_drewN _ _ _)); clear hq))
      all_goals go_wp2
      go_roundg (L - (j + 1))
      case measure => omega
      case rel => exact ⟨j + 1, rfl, by omega, by go_num, HB.out.trans (HB2.out.mono HB.out.size)⟩
    · obtain rfl : j = L := by omega
      go_wp2
      go_ret
      exact ⟨rfl, HB.out⟩
end Go.Proofs.YtcffbeihgchpgaaGreatDoor
/- Lists of several kinds in one book: what is stored into lists of one type leaves those of other types as they were. No program in sight. -/
namespace Go.Proofs.YtcffbeihgchpgaaGreatDoor.Book
open Go.RowKit
set_option linter.unusedVariables false
/-- blocks of one type of cells -/
def Typed (w : World) (E : Nat) (bs : List Nat) : Prop := ∀ b ∈ bs, ∃ c, w.heap[b]? = some (.cells c E (0, 0))
theorem Owns.touchT {w w' : World} {B E E' : Nat} {v : Value} {xs : List Value} {bs : List Nat} (h : Owns w B E v xs) (ht : Stirred w w' bs) (hb : Typed w E' bs) (hE : E ≠ E') : Owns w' B E v xs :=
  h.touch ht (fun k hk hm => by
    obtain ⟨_, _, c, hc⟩ := h.block k hk
    obtain ⟨c', hc'⟩ := hb k hm
    rw [hc] at hc'
    simp only [Option.some.injEq, Obj.cells.injEq] at hc'
    exact hE hc'.2.1)
theorem Wide.OwnsK.touchT {w w' : World} {B E E' sz : Nat} {v : Value} {xs : List Value} {bs : List Nat} (h : Wide.OwnsK w B E sz v xs) (ht : Stirred w w' bs) (hb : Typed w E' bs) (hE : E ≠ E') : Wide.OwnsK w' B E sz v xs :=
  h.touch ht (fun k hk hm => by
    obtain ⟨_, _, c, hc⟩ := h.block k hk
    obtain ⟨c', hc'⟩ := hb k hm
    rw [hc] at hc'
    simp only [Option.some.injEq, Obj.cells.injEq] at hc'
    exact hE hc'.2.1)
theorem Lists.typed {w : World} {B SL E : Nat} {vS : Value} {ls : List (Value × List Value)} (h : Lists w B SL E vS ls) : Typed w E (blocks ls) := by
  intro b hb
  unfold blocks at hb
  rw [List.mem_flatMap] at hb
  obtain ⟨k, hk, hb⟩ := hb
  exact ((h.list k hk).block b (by simpa using hb)).2.2
theorem Wide.Lists.typed {w : World} {B SL E sz : Nat} {vS : Value} {ls : List (Value × List Value)} (h : Wide.Lists w B SL E sz vS ls) : Typed w E (blocks ls) := by
  intro b hb
  unfold blocks at hb
  rw [List.mem_flatMap] at hb
  obtain ⟨k, hk, hb⟩ := hb
  exact ((h.list k hk).block b (by simpa using hb)).2.2
theorem Lists.touchT {w w' : World} {B SL E E' : Nat} {vS : Value} {ls : List (Value × List Value)} {bs : List Nat} (h : Lists w B SL E vS ls) (ht : Stirred w w' bs) (hb : Typed w E' bs) (h1 : SL ≠ E') (h2 : E ≠ E') : Lists w' B SL E vS ls :=
  ⟨h.spine.touchT ht hb h1, fun k hk => (h.list k hk).touchT ht hb h2, h.apart⟩
theorem Wide.Lists.touchT {w w' : World} {B SL E E' sz : Nat} {vS : Value} {ls : List (Value × List Value)} {bs : List Nat} (h : Wide.Lists w B SL E sz vS ls) (ht : Stirred w w' bs) (hb : Typed w E' bs) (h1 : SL ≠ E') (h2 : E ≠ E') : Wide.Lists w' B SL E sz vS ls :=
  ⟨h.spine.touchT ht hb h1, fun k hk => (h.list k hk).touchT ht hb h2, h.apart⟩
/-- the grown lists are lists of their own -/
theorem Gs.lists {w : World} {B SL E : Nat} {mk : Nat → Nat → List Value} {most : Nat} {vS : Value} {cur : List (Value × List Value)} {j : Nat} {vO : Value} {gs : List (Value × List Value)} {wr : World} (h : Gs w B SL E mk most vS cur j vO gs wr) (hB : B ≤ w.heap.size) : Lists wr B SL E vO gs :=
  ⟨h.out.from hB, h.list, h.apart⟩
theorem Wide.Gs.lists {w : World} {B SL E sz : Nat} {mk : Nat → Nat → List Value} {most : Nat} {vS : Value} {cur : List (Value × List Value)} {j : Nat} {vO : Value} {gs : List (Value × List Value)} {wr : World} (h : Wide.Gs w B SL E sz mk most vS cur j vO gs wr) (hB : B ≤ w.heap.size) : Wide.Lists wr B SL E sz vO gs :=
  ⟨h.out.from hB, h.list, h.apart⟩
/-- the book's lists of lists, one of each kind -/
structure Six (w : World) (p : Nat) (v0 v2 v4 v6 v8 v10 : Value) : Prop where
  c0 : w.cell? ⟨p, 0, none⟩ = some v0
  c2 : w.cell? ⟨p, 2, none⟩ = some v2
  c4 : w.cell? ⟨p, 4, none⟩ = some v4
  c6 : w.cell? ⟨p, 6, none⟩ = some v6
  c8 : w.cell? ⟨p, 8, none⟩ = some v8
  c10 : w.cell? ⟨p, 10, none⟩ = some v10
theorem Six.stirred {w w' : World} {bs : List Nat} {p : Nat} {v0 v2 v4 v6 v8 v10 : Value} (h : Six w p v0 v2 v4 v6 v8 v10) (ht : Stirred w w' bs) (hn : p ∉ bs) : Six w' p v0 v2 v4 v6 v8 v10 :=
  ⟨ht.cell hn h.c0, ht.cell hn h.c2, ht.cell hn h.c4, ht.cell hn h.c6, ht.cell hn h.c8, ht.cell hn h.c10⟩
end Go.Proofs.YtcffbeihgchpgaaGreatDoor.Book
