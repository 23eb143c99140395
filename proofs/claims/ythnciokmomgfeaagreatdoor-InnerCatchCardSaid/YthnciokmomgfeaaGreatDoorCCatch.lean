/- What is proved: hollowaylaw9.InnerCatch answers true for every input, and its arguments read afterwards as before; the listed package variables start as the program's text lays them (the card ties them). -/
import Derived.Test.YthnciokmomgfeaaGreatDoorG26
import Derived.Deep.RegionHeld3
import Derived.Deep.LoopGhost
import Derived.Test.YthnciokmomgfeaaGreatDoorRows
import Derived.Test.YthnciokmomgfeaaGreatDoorCards
import Derived.Test.YthnciokmomgfeaaGreatDoorTie
import Derived.WalkKit
import Derived.ProofKit
import Derived.OpenShut
import Derived.ChangeSame
import Derived.ChangeVars
import Derived.JoinedOf
import Derived.RowKitTokens
import Derived.LaidLaws
import Derived.LaidHandle
import Derived.Stop.Joined
import Derived.SevenTiedAt
import Derived.Carry
import Derived.Test.YthnciokmomgfeaaGreatDoorG25
/- InnerCatch: the walk (written by gencatchw.py). -/
namespace Go.Proofs.YthnciokmomgfeaaGreatDoor.InnerCatch
open Go.RowKit Book Mem Mach Inn
set_option linter.unusedVariables false
set_option linter.unusedSimpArgs false
def prs (more : List Int) : List Int := more.flatMap fun m => [2, m]
def cM (l : List Int) (cs : List Int) : M := T (plainX ⟨#[]⟩ (lay (plainMem [2, 220, 46, 3, 205]) 220 cs)) 200 l []
theorem prs_snoc (l : List Int) (a : Int) : prs (l ++ [a]) = prs l ++ [2] ++ [a] := by unfold prs; rw [List.flatMap_append]; simp
theorem prs_next {l more : List Int} {i : Nat} {m : Int} (hx : more[i]? = some m) : cM l (prs (more.take (i + 1))) = { cM l (prs (more.take i)) with mem := ((cM l (prs (more.take i))).mem.set (220 + 2 * i) 2).set (220 + 2 * i + 1) m } := by
  have hi := (List.getElem?_eq_some_iff.1 hx).1
  have e : lay (plainMem [2, 220, 46, 3, 205]) 220 (prs (more.take (i + 1))) = ((lay (plainMem [2, 220, 46, 3, 205]) 220 (prs (more.take i))).set (220 + 2 * i) 2).set (220 + 2 * i + 1) m := by
    rw [List.take_add_one (l := more), hx, Option.toList_some, prs_snoc, lay_snoc, lay_snoc]
    simp only [List.length_append, show ∀ l, (prs l).length = 2 * l.length from pairs_length, List.length_take, List.length_singleton]
    rw [Nat.min_eq_left (by omega), show 220 + (2 * i + 1) = 220 + 2 * i + 1 by omega]
  unfold cM T plainX
  simp only
  rw [e]
theorem catch_next (l more : List Int) (v : Int) : T (plainX ⟨#[]⟩ (catchMem more v)) 200 l [] = { cM l (prs more) with mem := ((((cM l (prs more)).mem.set (220 + 2 * more.length) 2).set (220 + 2 * more.length + 1) v).set (220 + 2 * more.length + 2) 45).set (220 + 2 * more.length + 3) 5 } := by
  have e : catchMem more v = ((((lay (plainMem [2, 220, 46, 3, 205]) 220 (prs more)).set (220 + 2 * more.length) 2).set (220 + 2 * more.length + 1) v).set (220 + 2 * more.length + 2) 45).set (220 + 2 * more.length + 3) 5 := by
    have h : catchMem more v = lay (plainMem [2, 220, 46, 3, 205]) 220 (prs more ++ [2] ++ [v] ++ [45] ++ [5]) := by unfold catchMem prs; simp
    rw [h, lay_snoc, lay_snoc, lay_snoc, lay_snoc]
    simp only [List.length_append, show ∀ l, (prs l).length = 2 * l.length from pairs_length, List.length_singleton]
    rw [show 220 + (2 * more.length + 1 + 1 + 1) = 220 + 2 * more.length + 3 by omega, show 220 + (2 * more.length + 1 + 1) = 220 + 2 * more.length + 2 by omega, show 220 + (2 * more.length + 1) = 220 + 2 * more.length + 1 by omega]
  unfold cM T plainX
  simp only
  rw [e]
theorem throws {l more : List Int} {v : Int} (hl : l.length ≤ 10) (hm : more.length ≤ 20) (hv : v ≠ 0) : run (4 + more.length) (T (plainX ⟨#[]⟩ (catchMem more v)) 200 l []) = (T (plainX ⟨#[]⟩ (catchMem more v)) 203 (l ++ [v]) [], 0) := by
  have := caught_throw hl hm hv 0
  rw [Nat.add_zero] at this
  exact this
theorem passes {l more : List Int} (hl : l.length ≤ 10) (hm : more.length ≤ 20) : run (4 + more.length + 2) (T (plainX ⟨#[]⟩ (catchMem more 0)) 200 l []) = (T (plainX ⟨#[]⟩ (catchMem more 0)) 203 (l ++ more ++ [0]) [], 0) := by
  have := caught_pass hl hm 0
  rw [Nat.add_zero] at this
  exact this
theorem catch_in {more : List Int} {v : Int} (h : ∀ x ∈ more, Cell.In x) (hv : Cell.In v) : ∀ x ∈ catchMem more v, Cell.In x := by
  intro x hx
  unfold catchMem at hx
  have nm : ∀ {l : List Int}, (∀ z ∈ l, -1000 ≤ z ∧ z ≤ 1000) → ∀ z ∈ l, Cell.In z := fun h z hz => by have := h z hz; unfold Cell.In; omega
  rcases lay_mem hx with h1 | h1
  · exact plainMem_in (nm (by decide)) x h1
  · rw [List.mem_append, List.mem_flatMap] at h1
    rcases h1 with ⟨a, ha, h2⟩ | h2
    · simp only [List.mem_cons, List.not_mem_nil, or_false] at h2
      rcases h2 with rfl | rfl
      · unfold Cell.In; decide
      · exact h _ ha
    · simp only [List.mem_cons, List.not_mem_nil, or_false] at h2
      rcases h2 with rfl | rfl | rfl | rfl <;> first | exact hv | (unfold Cell.In; decide)
set_option maxHeartbeats 4000000 in
set_option maxRecDepth 100000 in
theorem not_small (vs : Value) (v : Int) (vm : Value) (more : List Int) (W : World) (hv : Reads W vm more) (hE : ∀ wc, Below W.heap.size W wc → Tabs wc) (hg : 20 < more.length) :
    Calls Tryz.prog 10 #[vs, .int .i64 v, vm] W (Yes W) := by
  have A := Lib.hid (alive_any W hE)
  obtain ⟨lo, lc, rfl, -⟩ := hv
  obtain ⟨n, hn⟩ : ∃ n, more.length = n := ⟨_, rfl⟩
  rw [hn] at hg ⊢
  clear hE hn
  go_enter Tryz.func10, Tryz.ntmps10
  go_wp2_with fail
  refine A.out.mono ?_
  rintro e w3 ⟨rfl, hb⟩
  have HB3 := Lib.hid hb
  clear hb A
  go_wp2
  go_ret
  exact ⟨rfl, HB3.out⟩
set_option maxHeartbeats 16000000 in
set_option maxRecDepth 100000 in
theorem small (vs : Value) (st : List Int) (v : Int) (vm : Value) (more : List Int) (W : World) (hs : ReadsC W vs st) (hm : Reads W vm more) (hml : more.length ≤ 20) (hsi : ∀ x ∈ st, Cell.In x) (hmi : ∀ x ∈ more, Cell.In x) (hvi : Cell.In v) (hE : ∀ wc, Below W.heap.size W wc → Tabs wc) :
    Calls Tryz.prog 10 #[vs, .int .i64 v, vm] W (Yes W) := by
  have HE := Lib.hid hE
  have A := Lib.hid (alive_any W hE)
  have HS := Lib.hid hs
  have HV := Lib.hid hm
  obtain ⟨so, sc, rfl, hsc⟩ := hs.2
  obtain ⟨lo, lc, rfl, -⟩ := hm
  obtain ⟨n, hn⟩ : ∃ n, st.length = n := ⟨_, rfl⟩
  obtain ⟨N, hN⟩ : ∃ N, min n 10 = N := ⟨_, rfl⟩
  obtain ⟨M, hM⟩ : ∃ M, more.length = M := ⟨_, rfl⟩
  obtain ⟨l, hl⟩ : ∃ l, (st.take N).drop 0 = l := ⟨_, rfl⟩
  have hll : l.length = N := by rw [← hl, List.length_drop, List.length_take]; omega
  have hl10 : l.length ≤ 10 := by omega
  have hli : ∀ x ∈ l, Cell.In x := fun x hx => hsi x (List.mem_of_mem_take (List.mem_of_mem_drop (by rw [hl]; exact hx)))
  obtain ⟨x, hx⟩ : ∃ x, T (plainX ⟨#[]⟩ (catchMem more v)) 200 l [] = x := ⟨_, rfl⟩
  have hxr : Right x := by
    rw [← hx]
    refine ⟨by show l.length ≤ 48; omega, by show (0 : Nat) ≤ 48; omega, ?_, by show (0 : Nat) ≤ 2000; omega, Int.le_refl 0, by show (0 : Int) ≤ ((0 : Nat) : Int); omega, Int.le_refl 0, by show (0 : Int) ≤ 2; omega⟩
    show (catchMem more v).length ≤ 3000
    rw [catchMem_length]
    omega
  have hxc : Cells x := by
    rw [← hx]
    exact ⟨by show Cell.In 200; unfold Cell.In; decide, by show Cell.In 0; unfold Cell.In; decide, hli, (fun z h => by cases h), catch_in hmi hvi, by show Cell.In 0; unfold Cell.In; decide⟩
  have hxi : x.inp.size ≤ maxLen := by rw [← hx]; exact Nat.zero_le _
  have hdone : (run 100 x).1.status = 1 := by rw [← hx]; exact caught_done hl10 hml
  have HX := Lib.hid (And.intro hx (And.intro hxr (And.intro hxc (And.intro hxi hdone))))
  have HN := Lib.hid (And.intro hll (And.intro hM (And.intro hml (And.intro hl (And.intro hl10 (show N ≤ st.length by omega))))))
  rw [hn] at HS hsc ⊢
  rw [hM] at HV hml ⊢
  have n1 : ¬ 20 < M := by omega
  have m1 : min (n : Int) 10 = (N : Int) := by omega
  clear hx hxr hxc hxi hdone hl hll hl10 hli hn hN hsc hsi hmi hvi hE hs
  go_enter Tryz.func10, Tryz.ntmps10
  go_wp2_with fail
  refine A.out.mono ?_
  rintro e w1 ⟨rfl, hb⟩
  have HB1 := Lib.hid hb
  have HS1 := Lib.hid (HS.out.below hb)
  clear hb A HS
  go_upto_region 4 with (refine wpList_slice_part (o := ⟨_, Op.slice _ _ _ _ none, _, _, _, _⟩) (by rfl) _ _ _ _ rfl 3 Tryz.underlying22 Tryz.sizeOf3 _ st rfl HS1.out 0 N (.inr ⟨rfl, rfl⟩) (.inl rfl) (Nat.zero_le _) HN.out.2.2.2.2.2 ?_; intro y hy; rw [HN.out.2.2.2.1] at hy; have HY := Lib.hid hy; clear hy)
  obtain ⟨yo, yc, hye, -⟩ := HY.out.2
  rw [HN.out.1] at hye
  subst hye
  obtain ⟨w2, gl, hw2, hgl, HLB, HBL, HGL⟩ := new_box w1 #[.int .i64 2, .int .i64 220, .int .i64 46, .int .i64 3, .int .i64 205] 3
  have HOL := Lib.hid (owns_lit (n := 5) HLB.out [2, 220, 46, 3, 205] rfl rfl (by decide) (Nat.le_refl _) (by decide))
  have HY2 := Lib.hid (HY.out.below HBL.out)
  have C := Lib.hid (plain_any (Reads.of_owns HOL.out) HY2.out (readsC_nil w2))
  obtain ⟨x0, hx0⟩ : ∃ x, plainM [2, 220, 46, 3, 205] l [] = x := ⟨_, rfl⟩
  rw [hx0] at C
  have HX0 := Lib.hid (show x0 = cM l (prs (more.take 0)) by
    rw [← hx0]
    unfold plainM
    rw [List.take_of_length_le (l := l) (by have := HN.out.2.2.2.2.1; omega)]
    rfl)
  have hmem : x0.mem.length = 400 := by rw [← hx0]; exact plainMem_length _
  have HB2 := Lib.hid HBL.out
  clear hx0 HLB HBL HOL HGL
  go_wp2_with fail
  refine C.out.mono ?_
  rintro e w3 hgm
  obtain ⟨a1, c1, a2, c2, gm, cap, rfl, ho, hrow, hb2⟩ := GivesM.block (n := 400) hmem (by decide) hgm
  obtain ⟨w4, b, hw4, hb4, HYB, HBn, HG⟩ := new_box w3 (cells10 x0.ip x0.handler (.slice a1 x0.stack.length c1) (.slice a2 x0.back.length c2) (.slice (some ⟨gm, 0, none⟩) 400 cap) x0.out x0.inp x0.read x0.status x0.code) 24
  have M3 := Lib.hid (MB.make (m := x0) hmem ho hrow hb2.size HYB.out HBn.out HG.out)
  have hb24 := hb2.trans (HBn.out.mono hb2.size)
  have HB4 := Lib.hid hb24
  have HW2 := Lib.hid (HB1.out.trans (HB2.out.mono HB1.out.size))
  clear ho hgm hrow hb2 hb24 C HYB hmem HBn HG HY2
  go_upto_region 6 with fail
  clear hw4 hb4 hw2 hgl
  obtain ⟨vA, hvA⟩ : ∃ u, Value.slice a1 x0.stack.length c1 = u := ⟨_, rfl⟩
  obtain ⟨vB, hvB⟩ : ∃ u, Value.slice a2 x0.back.length c2 = u := ⟨_, rfl⟩
  rw [hvA, hvB] at M3
  have M6 := Lib.hid (show MB w4 w2.heap.size b gm 400 cap vA vB (cM l (prs (more.take 0))) by rw [← HX0.out]; exact M3.out)
  clear M3 HX0 hvA hvB
  go_wp2_with fail
  go_loopg [10, 38] M (fun z f g wr => ∃ i J : Nat, z = M - i ∧ i ≤ M ∧ f = .int .i64 (J : Int) ∧ g = .int .i64 i ∧ Hid (J = 220 + 2 * i) ∧ Hid (MB wr w2.heap.size b gm 400 cap vA vB (cM l (prs (more.take i)))) ∧ Hid (Below w2.heap.size w2 wr))
  case atStart => exact ⟨0, 220, rfl, Nat.zero_le _, rfl, rfl, rfl, M6, HB4⟩
  case round =>
    obtain ⟨i, J, rfl, hi, rfl, rfl, HJ, HM, HB⟩ := hrel
    by_cases hlt : i < M
    · have e0' : (0 : Int) ≤ (i : Int) := Int.natCast_nonneg _
      have e1' : (i : Int) < (M : Int) := by omega
      have hJ4 : J < 300 := by have := HJ.out; have := HN.out.2.2.1; have := HN.out.2.1; omega
      have HBW := Lib.hid (show Below W.heap.size W wr from HW2.out.trans (HB.out.mono HW2.out.size))
      obtain ⟨z, hz⟩ : ∃ z, more[i]? = some z := ⟨_, List.getElem?_eq_getElem (by rw [HN.out.2.1]; exact hlt)⟩
      obtain ⟨_, _, eC, hcell⟩ := HV.out
      simp only [Value.slice.injEq] at eC
      obtain ⟨rfl, -, -⟩ := eC
      obtain ⟨ad, rfl, hca⟩ := hcell i z hz
      have hcw : wr.cell? (ad.add i) = some (.int .i64 z) := by rw [HBW.out.cell (World.block_lt_of_cell? W _ hca)]; exact hca
      have HZ := Lib.hid hz
      clear hcell hz hca HBW
      obtain ⟨j1, hj1⟩ : ∃ j, J + 1 = j := ⟨_, rfl⟩
      have r0 : (0 : Int) ≤ (J : Int) := Int.natCast_nonneg _
      have s0 : (J : Int) < 400 := by omega
      have r1 : (0 : Int) ≤ (j1 : Int) := Int.natCast_nonneg _
      have s1 : (j1 : Int) < 400 := by omega
      have t1 : IntKind.i64.wrap ((J : Int) + 1) = (j1 : Int) := (IntWalk.i64_in _ (by omega)).trans (by omega)
      have g4 := HM.out.c4
      have d1 : wr.drew.cell? ⟨b, 4, none⟩ = some (.slice (some ⟨gm, 0, none⟩) 400 cap) := HM.out.c4
      have HGB := Lib.hid HM.out.ne
      obtain ⟨z0, q0⟩ := HM.out.some (show J < 400 by omega)
      have f0 := HM.out.gz (show J < 400 by omega)
      have MS0 := Lib.hid (HM.out.store J 2)
      obtain ⟨z1, q1⟩ := MS0.out.some (show j1 < 400 by omega)
      have f1 := MS0.out.gz (show j1 < 400 by omega)
      obtain ⟨y1, p1⟩ := HM.out.some (show j1 < 400 by omega)
      have e1 := HM.out.gz (show j1 < 400 by omega)
      have MS1 := Lib.hid (MS0.out.store j1 z)
      have HEND := Lib.hid (And.intro MS1.out.drew (show Below w2.heap.size w2 ((wr.setCell ⟨gm, J, none⟩ (.int .i64 2)).setCell ⟨gm, j1, none⟩ (.int .i64 z)).drew from HB.out.trans (((HM.out.belowG J (.int .i64 2)).trans (MS0.out.belowG j1 (.int .i64 z))).trans MS1.out.belowD)))
      have HJS := Lib.hid (show J + 1 = j1 by omega)
      clear hj1
      go_wp2_with fail
      go_region_held3 (fun w' => w'.cell? ⟨b, 4, none⟩ = some (.slice (some ⟨gm, 0, none⟩) 400 cap))
        (first
          | with_reducible exact d1
          | with_reducible exact drewc (keep5 HGB.out g4)
          | with_reducible exact drewc (keep5 HGB.out (keep5 HGB.out g4)))
        (fail)
      clear q0 f0 MS0 q1 f1 MS1 p1 e1 d1 g4 HGB
      generalize ((wr.setCell ⟨gm, J, none⟩ (.int .i64 2)).setCell ⟨gm, j1, none⟩ (.int .i64 z)).drew = w6 at *
      have HM2 := Lib.hid (show MB w6 w2.heap.size b gm 400 cap vA vB (cM l (prs (more.take (i + 1)))) by
        have h := HEND.out.1
        rw [prs_next HZ.out, ← HJ.out, HJS.out]
        exact h)
      have HB2' := Lib.hid HEND.out.2
      clear hcw HEND
      go_wp2
      go_roundg (M - (i + 1))
      case measure => omega
      case rel => exact ⟨i + 1, J + 2, rfl, by omega, by go_num, by go_num, by have := HJ.out; show J + 2 = 220 + 2 * (i + 1); omega, HM2, HB2'⟩
    · obtain rfl : i = M := by omega
      have hmi : more.take i = more := List.take_of_length_le (by rw [HN.out.2.1]; exact Nat.le_refl _)
      rw [hmi] at HM
      have hJ4 : J < 300 := by have := HJ.out; have := HN.out.2.2.1; have := HN.out.2.1; omega
      clear hmi M6
      obtain ⟨j1, hj1⟩ : ∃ j, J + 1 = j := ⟨_, rfl⟩
      obtain ⟨j2, hj2⟩ : ∃ j, J + 2 = j := ⟨_, rfl⟩
      obtain ⟨j3, hj3⟩ : ∃ j, J + 3 = j := ⟨_, rfl⟩
      have r0 : (0 : Int) ≤ (J : Int) := Int.natCast_nonneg _
      have s0 : (J : Int) < 400 := by omega
      have r1 : (0 : Int) ≤ (j1 : Int) := Int.natCast_nonneg _
      have s1 : (j1 : Int) < 400 := by omega
      have t1 : IntKind.i64.wrap ((J : Int) + 1) = (j1 : Int) := (IntWalk.i64_in _ (by omega)).trans (by omega)
      have r2 : (0 : Int) ≤ (j2 : Int) := Int.natCast_nonneg _
      have s2 : (j2 : Int) < 400 := by omega
      have t2 : IntKind.i64.wrap ((J : Int) + 2) = (j2 : Int) := (IntWalk.i64_in _ (by omega)).trans (by omega)
      have r3 : (0 : Int) ≤ (j3 : Int) := Int.natCast_nonneg _
      have s3 : (j3 : Int) < 400 := by omega
      have t3 : IntKind.i64.wrap ((J : Int) + 3) = (j3 : Int) := (IntWalk.i64_in _ (by omega)).trans (by omega)
      have g4 := HM.out.c4
      have d1 : wr.drew.cell? ⟨b, 4, none⟩ = some (.slice (some ⟨gm, 0, none⟩) 400 cap) := HM.out.c4
      have HGB := Lib.hid HM.out.ne
      obtain ⟨z0, q0⟩ := HM.out.some (show J < 400 by omega)
      have f0 := HM.out.gz (show J < 400 by omega)
      have MS0 := Lib.hid (HM.out.store J 2)
      obtain ⟨z1, q1⟩ := MS0.out.some (show j1 < 400 by omega)
      have f1 := MS0.out.gz (show j1 < 400 by omega)
      obtain ⟨y1, p1⟩ := HM.out.some (show j1 < 400 by omega)
      have e1 := HM.out.gz (show j1 < 400 by omega)
      have MS1 := Lib.hid (MS0.out.store j1 v)
      obtain ⟨z2, q2⟩ := MS1.out.some (show j2 < 400 by omega)
      have f2 := MS1.out.gz (show j2 < 400 by omega)
      obtain ⟨y2, p2⟩ := HM.out.some (show j2 < 400 by omega)
      have e2 := HM.out.gz (show j2 < 400 by omega)
      have MS2 := Lib.hid (MS1.out.store j2 45)
      obtain ⟨z3, q3⟩ := MS2.out.some (show j3 < 400 by omega)
      have f3 := MS2.out.gz (show j3 < 400 by omega)
      obtain ⟨y3, p3⟩ := HM.out.some (show j3 < 400 by omega)
      have e3 := HM.out.gz (show j3 < 400 by omega)
      have MS3 := Lib.hid (MS2.out.store j3 5)
      have HEND := Lib.hid (And.intro MS3.out.drew (show Below w2.heap.size w2 ((((wr.setCell ⟨gm, J, none⟩ (.int .i64 2)).setCell ⟨gm, j1, none⟩ (.int .i64 v)).setCell ⟨gm, j2, none⟩ (.int .i64 45)).setCell ⟨gm, j3, none⟩ (.int .i64 5)).drew from HB.out.trans (((((HM.out.belowG J (.int .i64 2)).trans (MS0.out.belowG j1 (.int .i64 v))).trans (MS1.out.belowG j2 (.int .i64 45))).trans (MS2.out.belowG j3 (.int .i64 5))).trans MS3.out.belowD)))
      have HJS := Lib.hid (show J + 1 = j1 ∧ J + 2 = j2 ∧ J + 3 = j3 by omega)
      clear hj1 hj2 hj3
      go_wp2_with fail
      go_region_held3 (fun w' => w'.cell? ⟨b, 4, none⟩ = some (.slice (some ⟨gm, 0, none⟩) 400 cap))
        (first
          | with_reducible exact d1
          | with_reducible exact drewc (keep5 HGB.out g4)
          | with_reducible exact drewc (keep5 HGB.out (keep5 HGB.out g4))
          | with_reducible exact drewc (keep5 HGB.out (keep5 HGB.out (keep5 HGB.out g4)))
          | with_reducible exact drewc (keep5 HGB.out (keep5 HGB.out (keep5 HGB.out (keep5 HGB.out g4)))))
        (fail)
      clear q0 f0 MS0 q1 f1 MS1 q2 f2 MS2 q3 f3 MS3 p1 e1 p2 e2 p3 e3 d1 g4 HGB
      generalize ((((wr.setCell ⟨gm, J, none⟩ (.int .i64 2)).setCell ⟨gm, j1, none⟩ (.int .i64 v)).setCell ⟨gm, j2, none⟩ (.int .i64 45)).setCell ⟨gm, j3, none⟩ (.int .i64 5)).drew = w6 at *
      have HMX := Lib.hid (show MB w6 w2.heap.size b gm 400 cap vA vB x by
        have h := HEND.out.1
        rw [← HX.out.1, catch_next, HN.out.2.1, ← HJ.out, HJS.out.1, HJS.out.2.1, HJS.out.2.2]
        exact h)
      have HB6 := Lib.hid HEND.out.2
      have HBW := Lib.hid (show Below W.heap.size W w6 from HW2.out.trans (HB6.out.mono HW2.out.size))
      have HYL := Lib.hid (HY.out.below (HB2.out.trans (HB6.out.mono HB2.out.size)))
      clear HEND HM HB
      -- the first run
      obtain ⟨y1, u1, hr1⟩ : ∃ y u, Mach.run 100 x = (y, u) := ⟨_, _, rfl⟩
      have hy1 : y1.status = 1 := by have := HX.out.2.2.2.2; rw [hr1] at this; exact this
      have R := Lib.hid (runs_any HMX.out.readsM HX.out.2.1 HX.out.2.2.1 HX.out.2.2.2.1 (fun wc hbc => HE.out wc (HBW.out.trans (hbc.mono HBW.out.size))) 100 (by decide) hr1)
      have HBX := Lib.hid HMX.out.box
      have HY1 := Lib.hid hy1
      clear hr1 hy1
      go_upto_region 14 with fail
      go_wp2_with (refine ld_state (by rfl) _ rfl _ rfl _ _ HBX.out rfl ?_)
      refine R.out.mono ?_
      rintro e w7 ⟨t1, d1, t2, d2, t3, d3, rfl, ho, hb⟩
      obtain ⟨w8, b8, hw8, hb8, HZB, HBn, HGZ⟩ := new_box w7 (cells10 y1.ip y1.handler (.slice t1 y1.stack.length d1) (.slice t2 y1.back.length d2) (.slice t3 y1.mem.length d3) y1.out y1.inp y1.read y1.status y1.code) 24
      have hb68 := hb.trans (HBn.out.mono hb.size)
      have HBW8 := Lib.hid (HBW.out.trans (hb68.mono HBW.out.size))
      have HBX8 := Lib.hid (box_on HBX.out hb68)
      have HM8 := Lib.hid (HMX.out.on hb68)
      have HYL8 := Lib.hid (HYL.out.below hb68)
      go_upto_region 15 with fail
      clear hw8 hb8
      have f8 : w8.cell? ⟨b8, 8, none⟩ = some (.int .i64 1) := by rw [← HY1.out]; exact whole_cell HZB.out rfl
      clear R ho hb hb68 HBn HGZ HZB HBX HMX HYL HBW
      -- the second run
      obtain ⟨F, hF⟩ : ∃ F, 4 + i = F := ⟨_, rfl⟩
      have eF : (4 : Int) + (i : Int) = (F : Int) := by omega
      have HF := Lib.hid hF
      obtain ⟨y2, u2, hr2⟩ : ∃ y u, Mach.run F x = (y, u) := ⟨_, _, rfl⟩
      have HR2 := Lib.hid hr2
      have R := Lib.hid (runs_any HM8.out.readsM HX.out.2.1 HX.out.2.2.1 HX.out.2.2.2.1 (fun wc hbc => HE.out wc (HBW8.out.trans (hbc.mono HBW8.out.size))) F (by have := HN.out.2.2.1; have := HN.out.2.1; omega) hr2)
      have hFb : F ≤ 24 := by have := HN.out.2.2.1; have := HN.out.2.1; omega
      clear hF hr2
      go_upto_region 17 with fail
      go_wp2_with (refine ld_state (by rfl) _ rfl _ rfl _ _ HBX8.out rfl ?_)
      refine R.out.mono ?_
      rintro e w9 ⟨t1', d1', t2', d2', t3', d3', rfl, ho, hb⟩
      by_cases hv : v = 0
      · subst hv
        obtain ⟨w10, b10, hw10, hb10, HZB, HBn, HGZ⟩ := new_box w9 (cells10 y2.ip y2.handler (.slice t1' y2.stack.length d1') (.slice t2' y2.back.length d2') (.slice t3' y2.mem.length d3') y2.out y2.inp y2.read y2.status y2.code) 24
        have hb68 := hb.trans (HBn.out.mono hb.size)
        have HBW10 := Lib.hid (HBW8.out.trans (hb68.mono HBW8.out.size))
        have HBX10 := Lib.hid (box_on HBX8.out hb68)
        have HM10 := Lib.hid (HM8.out.on hb68)
        clear R ho hb hb68 HBn HGZ HZB HBX8 HM8 HYL8 HBW8 HR2
        go_upto_region 18 with fail
        clear hw10 hb10
        obtain ⟨F2, hF2⟩ : ∃ F2, F + 2 = F2 := ⟨_, rfl⟩
        have eF2 : (F : Int) + 2 = (F2 : Int) := by omega
        obtain ⟨y3, u3, hr3⟩ : ∃ y u, Mach.run F2 x = (y, u) := ⟨_, _, rfl⟩
        have hy3 : y3 = T (plainX ⟨#[]⟩ (catchMem more 0)) 203 (l ++ more ++ [0]) [] := by
          have h := passes (l := l) (more := more) HN.out.2.2.2.2.1 HN.out.2.2.1
          rw [HX.out.1, HN.out.2.1, HF.out, hF2, hr3] at h
          exact congrArg Prod.fst h
        have R := Lib.hid (runs_any HM10.out.readsM HX.out.2.1 HX.out.2.2.1 HX.out.2.2.2.1 (fun wc hbc => HE.out wc (HBW10.out.trans (hbc.mono HBW10.out.size))) F2 (by omega) hr3)
        obtain ⟨P, hP⟩ : ∃ P, N + i = P := ⟨_, rfl⟩
        obtain ⟨Q, hQ⟩ : ∃ Q, P + 1 = Q := ⟨_, rfl⟩
        have h3s : y3.stack.length = Q := by rw [hy3]; show (l ++ more ++ [0]).length = Q; rw [List.length_append, List.length_append, HN.out.1, HN.out.2.1, hP]; exact hQ
        have h3b : y3.back.length = 0 := by rw [hy3]; rfl
        have h3i : y3.ip = 203 := by rw [hy3]; rfl
        have h3h : y3.handler = 0 := by rw [hy3]; rfl
        have h3c : y3.stack[P]? = some 0 := by
          rw [hy3]
          show (l ++ more ++ [0])[P]? = some 0
          rw [List.getElem?_append_right (by rw [List.length_append, HN.out.1, HN.out.2.1]; omega), List.length_append, HN.out.1, HN.out.2.1, hP, Nat.sub_self]
          rfl
        have H3 := Lib.hid (And.intro h3s (And.intro h3b (And.intro h3i (And.intro h3h h3c))))
        have e3 : (N : Int) + (i : Int) = (P : Int) := by omega
        have e4 : (P : Int) + 1 = (Q : Int) := by omega
        have e5 : (Q : Int) - 1 = (P : Int) := by omega
        have b0 : (0 : Int) ≤ (P : Int) := Int.natCast_nonneg _
        have b1 : (P : Int) < (Q : Int) := by omega
        have b2 : Q ≤ 31 := by have := HN.out.2.2.2.2.1; have := HN.out.1; have := HN.out.2.2.1; have := HN.out.2.1; omega
        clear hF2 hr3 hy3 hP hQ h3s h3b h3i h3h h3c
        go_wp2_with (refine ld_state (by rfl) _ rfl _ rfl _ _ HBX10.out rfl ?_)
        refine R.out.mono ?_
        rintro e w11 ⟨s1, g1, s2, g2, s3, g3, rfl, ho, hb⟩
        rw [H3.out.1, H3.out.2.1] at ho ⊢
        obtain ⟨gs, rfl, hcs⟩ := owns_cells ho.st (by rw [H3.out.1]; omega)
        obtain ⟨w12, b12, hw12, hb12, HZB, HBn, HGZ⟩ := new_box w11 (cells10 y3.ip y3.handler (.slice (some ⟨gs, 0, none⟩) Q g1) (.slice s2 0 g2) (.slice s3 y3.mem.length g3) y3.out y3.inp y3.read y3.status y3.code) 24
        have HBF := Lib.hid ((HBW10.out.trans (hb.mono HBW10.out.size)).trans (HBn.out.mono (Nat.le_trans HBW10.out.size hb.size)))
        have KC := Lib.hid ((Stirred.of_below HBn.out []).cell List.not_mem_nil (hcs P 0 H3.out.2.2.2.2))
        clear ho hb hcs R HBn HGZ
        go_upto_region 20 with fail
        clear hw12 hb12
        have f0 : w12.cell? ⟨b12, 0, none⟩ = some (.int .i64 203) := by rw [← H3.out.2.2.1]; exact whole_cell HZB.out rfl
        have f1 : w12.cell? ⟨b12, 1, none⟩ = some (.int .i64 0) := by rw [← H3.out.2.2.2.1]; exact whole_cell HZB.out rfl
        have f2 : w12.cell? ⟨b12, 2, none⟩ = some (.slice (some ⟨gs, 0, none⟩) Q g1) := whole_cell HZB.out rfl
        have f3 : w12.cell? ⟨b12, 3, none⟩ = some (.slice s2 0 g2) := whole_cell HZB.out rfl
        have f4 := KC.out
        go_wp2
        go_ret
        exact ⟨rfl, HBF.out⟩
      · obtain ⟨Q, hQ⟩ : ∃ Q, N + 1 = Q := ⟨_, rfl⟩
        have hy2 : y2 = T (plainX ⟨#[]⟩ (catchMem more v)) 203 (l ++ [v]) [] := by
          have h := throws (l := l) (more := more) HN.out.2.2.2.2.1 HN.out.2.2.1 hv
          rw [HX.out.1, HN.out.2.1, HF.out, HR2.out] at h
          exact congrArg Prod.fst h
        have h3s : y2.stack.length = Q := by rw [hy2]; show (l ++ [v]).length = Q; rw [List.length_append, HN.out.1]; exact hQ
        have h3b : y2.back.length = 0 := by rw [hy2]; rfl
        have h3i : y2.ip = 203 := by rw [hy2]; rfl
        have h3h : y2.handler = 0 := by rw [hy2]; rfl
        have h3l : y2.stack = l ++ [v] := by rw [hy2]; rfl
        have h3c : y2.stack[N]? = some v := by
          rw [h3l, List.getElem?_append_right (by rw [HN.out.1]; exact Nat.le_refl _), HN.out.1, Nat.sub_self]
          rfl
        rw [h3s, h3b] at ho ⊢
        have H3 := Lib.hid (And.intro h3s (And.intro h3b (And.intro h3i (And.intro h3h (And.intro h3c h3l)))))
        obtain ⟨gs, rfl, hcs⟩ := owns_cells ho.st (by rw [h3s]; omega)
        obtain ⟨w10, b10, hw10, hb10, HZB, HBn, HGZ⟩ := new_box w9 (cells10 y2.ip y2.handler (.slice (some ⟨gs, 0, none⟩) Q d1') (.slice t2' 0 d2') (.slice t3' y2.mem.length d3') y2.out y2.inp y2.read y2.status y2.code) 24
        have hb68 := hb.trans (HBn.out.mono hb.size)
        have HBW10 := Lib.hid (HBW8.out.trans (hb68.mono HBW8.out.size))
        have HYL10 := Lib.hid (HYL8.out.below hb68)
        have HST := Lib.hid (ReadsC.of_owns (ho.below HBn.out).st)
        have KC := Lib.hid ((Stirred.of_below HBn.out []).cell List.not_mem_nil (hcs N v H3.out.2.2.2.2.1))
        have e4 : (N : Int) + 1 = (Q : Int) := by omega
        have b0 : (0 : Int) ≤ (N : Int) := Int.natCast_nonneg _
        have b1 : (N : Int) < (Q : Int) := by omega
        have HQ := Lib.hid hQ
        clear R ho hb hb68 HBn HGZ HBX8 HM8 HYL8 HBW8 HR2 hcs hy2 h3s h3b h3i h3h h3l h3c hQ
        go_upto_region 18 with fail
        clear hw10 hb10
        have f0 : w10.cell? ⟨b10, 0, none⟩ = some (.int .i64 203) := by rw [← H3.out.2.2.1]; exact whole_cell HZB.out rfl
        have f1 : w10.cell? ⟨b10, 1, none⟩ = some (.int .i64 0) := by rw [← H3.out.2.2.2.1]; exact whole_cell HZB.out rfl
        have f2 : w10.cell? ⟨b10, 2, none⟩ = some (.slice (some ⟨gs, 0, none⟩) Q d1') := whole_cell HZB.out rfl
        have f3 : w10.cell? ⟨b10, 3, none⟩ = some (.slice t2' 0 d2') := whole_cell HZB.out rfl
        have f4 := KC.out
        have hST := HST.out
        rw [H3.out.2.2.2.2.2] at hST
        have HST2 := Lib.hid hST
        clear hST HST
        go_wp2_with (refine wpList_slice_part (o := ⟨_, Op.slice _ _ _ _ none, _, _, _, _⟩) (by rfl) _ _ _ _ rfl 3 Tryz.underlying22 Tryz.sizeOf3 _ (l ++ [v]) rfl HST2.out 0 N (.inr ⟨rfl, rfl⟩) (.inl rfl) (Nat.zero_le _) (by rw [List.length_append, HN.out.1]; omega) ?_; intro yy hyy; have HYY := Lib.hid hyy; clear hyy)
        have hyl : ((l ++ [v]).take N).drop 0 = l := by rw [List.drop_zero, List.take_left' HN.out.1]
        have B := Lib.hid (sameReads_any yy (.slice yo N yc) l w10 (by have h := HYY.out.1; rw [hyl] at h; exact h) HYL10.out.1 (by have := HN.out.2.2.2.2.1; omega))
        clear hyl
        refine B.out.mono ?_
        rintro e w11 ⟨rfl, q, rfl⟩
        have HBF := Lib.hid (Inn.below_drewN HBW10.out q (Nat.le_refl _))
        go_wp2
        go_ret
        exact ⟨rfl, HBF.out⟩
theorem main (vs : Value) (st : List Int) (v : Int) (vm : Value) (more : List Int) (W : World) (h1 : ReadsC W vs st ∧ ∀ x ∈ st, (Lit.int .i64 x).wf = true) (hv : (Lit.int .i64 v).wf = true) (h2 : ReadsC W vm more ∧ ∀ x ∈ more, (Lit.int .i64 x).wf = true) (hE : ∀ wc, Below W.heap.size W wc → Tabs wc) :
    Calls Tryz.prog 10 #[vs, .int .i64 v, vm] W (Yes W) := by
  by_cases c : 20 < more.length
  · exact not_small vs v vm more W h2.1.1 hE c
  exact small vs st v vm more W h1.1 h2.1.1 (by omega) (fun x hx => Cell.in_of_wf (h1.2 x hx)) (fun x hx => Cell.in_of_wf (h2.2 x hx)) (Cell.in_of_wf hv) hE
end Go.Proofs.YthnciokmomgfeaaGreatDoor.InnerCatch

namespace Go.Proofs.YthnciokmomgfeaaGreatDoor.innerCatch
open Inn Mach Mem
open Go.ChangeShapes Go.WideShapes Go.ChangeAt Go.RowKit
set_option linter.unusedVariables false
set_option linter.unusedSimpArgs false

theorem own : ownKnob Tryz.prog.godebug = none := by kernel_rfl
theorem laidOut : laidOutB Tryz.prog = true := by kernel_rfl
abbrev laid : List (String × DataW Unit) := laidL9
theorem laid_is : Rows.innerCatchRow.laid = laid := rfl
set_option maxRecDepth 100000 in
theorem lifted (os : Os) (started : os.Started) (H : Type) (enc : TypeId × Value → H) :
    ReturnsInHanded {} Tryz.checked os 10 .any (fun w args => (Rows.innerCatchSpec.pre enc Tryz.prog Tryz.f10 Rows.innerCatchRow.domain false w args ∧ laidMetH Tryz.prog laid w) ∧ sizedMet enc Tryz.prog Tryz.f10 (OpenSpec.ofChange Rows.innerCatchSpec) false w args)
      (Rows.innerCatchSpec.post enc Tryz.prog Tryz.f10 false true false false) := by
  refine returnsInHanded_of_change_and (C := Tryz.checked) (X := fun w _ => laidMetH Tryz.prog laid w) (fun _ _ _ hh h => h.of_heap hh) own started (by kernel_rfl) Tryz.func10
    (Inn.witness_ref (enc := enc) (C := Tryz.checked) (os := os) (X := fun w _ => laidMetH Tryz.prog laid w) false (Inn.laidWorld os) #[.slice none 0 0, .int .i64 0, .slice none 0 0] 8 rfl (by kernel_rfl) (by kernel_rfl) (by kernel_rfl) (by kernel_rfl) (by kernel_rfl) (Inn.laidWorld_met os _)) ?_
  intro W base args ds gs before hval0 hW _ _ hL _
  have hval : ∀ (j : Nat) t v, Tryz.f10.params[j]? = some t → args[j]? = some v → Value.okWide Tryz.prog W .any base t v := hval0
  have hW' := hW
  obtain ⟨p, q, hA0, hV, rfl, hfz, hnd⟩ := hW
  have hA : DataW.TrodAll enc Tryz.prog W 0 (fun _ => true) true Tryz.f10.params.toList args.toList ds p := hA0
  rw [Tryz.params10] at hA hval
  obtain ⟨v0, vs0, d0, ds0, p0, q0, hargs, rfl, rfl, h0, r0⟩ := trodAll_cons hA
  obtain ⟨v1, vs1, d1, ds1, p1, q1, rfl, rfl, rfl, h1, r1⟩ := trodAll_cons r0
  obtain ⟨v2, vs2, d2, ds2, p2, q2, rfl, rfl, rfl, h2, r2⟩ := trodAll_cons r1
  obtain ⟨rfl, rfl, rfl⟩ := trodAll_nil r2
  obtain rfl : args = #[v0, v1, v2] := by cases args; simp_all
  obtain ⟨rfl, rfl⟩ := trodVars_none hV
  obtain ⟨xs0, l0⟩ := readsCapOf (hval 0 22 v0 rfl rfl) h0
  obtain ⟨a1, rfl, rfl, rfl, w1⟩ := open_int Tryz.underlying3 (hval 1 3 v1 rfl rfl) h1
  obtain ⟨xs2, l2⟩ := readsCapOf (hval 2 22 v2 rfl rfl) h2
  clear hA0 hval0
  simp only [List.append_nil] at hW'
  have hlt0 : ∀ x ∈ p0, x.block < W.heap.size := fun x hx => by simpa using hW'.lt x (by simp [hx])
  have hlt2 : ∀ x ∈ p2, x.block < W.heap.size := fun x hx => by simpa using hW'.lt x (by simp [hx])
  refine (InnerCatch.main v0 xs0 a1 v2 xs2 W l0 w1 l2 (tabs_on hL)).mono fun e W' ⟨he, hg⟩ => ?_
  subst he
  exact ⟨_, rfl, _, _, _, [], _, [], hW', (trodAll_cons_mk (shut_bool Tryz.underlying4 _) trodAll_mk0), (trodAll_cons_mk (Below.trod laidOut (by kernel_rfl) (of_decide_eq_true (by kernel_rfl)) h0 hg hlt0) (trodAll_cons_mk (shut_int Tryz.underlying3 w1) (trodAll_cons_mk (Below.trod laidOut (by kernel_rfl) (of_decide_eq_true (by kernel_rfl)) h2 hg hlt2) trodAll_mk0))), rfl, hg.frame _, fun h => by cases h⟩

theorem over : Rows.innerCatchRow.holds Tryz.pinned (OpenSpec.ofChange Rows.innerCatchSpec) :=
  OpenClaim.holds_of_wide 10 Tryz.f10 rfl rfl rfl rfl rfl rfl rfl ⟨rfl, rfl, rfl, rfl, rfl⟩ rfl rfl rfl rfl rfl (by kernel_rfl) Tryz.func10 (by kernel_rfl)
    (of_decide_eq_true (by kernel_rfl)) (by unfold Func.isWrapper; first | (rw [if_pos (by decide +kernel)]; kernel_rfl) | (rw [if_neg (by decide +kernel)]; exact ⟨rfl, rfl⟩))
    (fun os started H enc _ => lifted os started H enc)

theorem proved : Rows.InnerCatchCardSaid :=
  Claim7.holds_tied_plain_at .later [] Rows.innerCatchCard.laidKinds true Rows.innerCatchCard.stood.harness Rows.innerCatchCard.stood.looks
    over (fun _ h => by cases h) (by kernel_rfl) (fun _ h => by cases h) innerCatch_row_tie rfl ⟨rfl, rfl⟩ (by kernel_rfl) rfl
    (fun f fn hf hfn => by
      obtain rfl : f = 10 := Option.some.inj ((show Tryz.prog.funcNamed "holloway/hollowaylaw9.InnerCatch" = some 10 by kernel_rfl).symm.trans hf) |>.symm
      obtain rfl : fn = Tryz.f10 := (Option.some.inj (Tryz.func10.symm.trans hfn)).symm
      exact ⟨by kernel_rfl, fun j t ht => by
        rw [Tryz.params10] at ht
        have hm : t ∈ [22, 3, 22] := by
          rcases Array.mem_of_getElem? ht with h
          simpa using h
        simp only [List.mem_cons, List.not_mem_nil, or_false] at hm
        rcases hm with rfl | rfl | rfl
        · exact (show Tryz.prog.wantsStandIn 22 = false by kernel_rfl)
        · exact (show Tryz.prog.wantsStandIn 3 = false by kernel_rfl)
        · exact (show Tryz.prog.wantsStandIn 22 = false by kernel_rfl)⟩)
    (by kernel_rfl)
#print axioms proved
end Go.Proofs.YthnciokmomgfeaaGreatDoor.innerCatch
