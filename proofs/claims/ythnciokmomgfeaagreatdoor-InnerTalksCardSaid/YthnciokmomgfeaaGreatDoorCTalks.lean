/- What is proved: hollowaylaw9.InnerTalks answers true for every input, and its arguments read afterwards as before; the listed package variables start as the program's text lays them (the card ties them). -/
import Derived.Test.YthnciokmomgfeaaGreatDoorG26
import Derived.Test.YthnciokmomgfeaaGreatDoorG13
import Derived.Deep.RegionHeld3
import Derived.Deep.LoopGhost
import Derived.Test.YthnciokmomgfeaaGreatDoorRows
import Derived.Test.YthnciokmomgfeaaGreatDoorCards
import Derived.Test.YthnciokmomgfeaaGreatDoorTie
import Derived.WalkKit
import Derived.ProofKit
import Derived.OpenShut
import Derived.ChangeSame
import Derived.ChangeVars
import Derived.JoinedOf
import Derived.RowKitTokens
import Derived.LaidLaws
import Derived.LaidHandle
import Derived.Stop.Joined
import Derived.SevenTiedAt
import Derived.Carry
import Derived.Test.YthnciokmomgfeaaGreatDoorG25
/- InnerTalks: the walk. -/
namespace Go.Proofs.YthnciokmomgfeaaGreatDoor.InnerTalks
open Go.RowKit Book Mem Mach Inn
set_option linter.unusedVariables false
set_option linter.unusedSimpArgs false
def tM (inp : ByteArray) (code : List Int) : M := T (plainX inp (lay (bootMem 48 400) 200 code)) 200 [] []
theorem tM_mem (inp : ByteArray) (code : List Int) : (tM inp code).mem = lay (bootMem 48 400) 200 code := rfl
theorem tell_snoc (l : List Int) (a : Int) : tellCode (l ++ [a]) = tellCode l ++ [2] ++ [a] ++ [41] := by unfold tellCode; rw [List.flatMap_append]; simp
theorem tell_next {l : List Int} {i : Nat} {x : Int} (hx : l[i]? = some x) (inp : ByteArray) : tM inp (tellCode (l.take (i + 1))) = { tM inp (tellCode (l.take i)) with mem := (((tM inp (tellCode (l.take i))).mem.set (200 + 3 * i) 2).set (200 + 3 * i + 1) x).set (200 + 3 * i + 2) 41 } := by
  have hi := (List.getElem?_eq_some_iff.1 hx).1
  have e : lay (bootMem 48 400) 200 (tellCode (l.take (i + 1))) = (((lay (bootMem 48 400) 200 (tellCode (l.take i))).set (200 + 3 * i) 2).set (200 + 3 * i + 1) x).set (200 + 3 * i + 2) 41 := by
    rw [List.take_add_one (l := l), hx, Option.toList_some, tell_snoc, lay_snoc, lay_snoc, lay_snoc]
    simp only [List.length_append, tellCode_length, List.length_take, List.length_singleton]
    rw [Nat.min_eq_left (by omega), show 200 + (3 * i + 1 + 1) = 200 + 3 * i + 2 by omega, show 200 + (3 * i + 1) = 200 + 3 * i + 1 by omega]
  unfold tM T plainX
  simp only
  rw [e]
theorem ask_next (l : List Int) (j : Nat) (c : Int) (inp : ByteArray) : tM inp (tellCode l ++ List.replicate (j + 1) c) = { tM inp (tellCode l ++ List.replicate j c) with mem := (tM inp (tellCode l ++ List.replicate j c)).mem.set (200 + 3 * l.length + j) c } := by
  have e : lay (bootMem 48 400) 200 (tellCode l ++ List.replicate (j + 1) c) = (lay (bootMem 48 400) 200 (tellCode l ++ List.replicate j c)).set (200 + 3 * l.length + j) c := by
    rw [List.replicate_succ', ← List.append_assoc, lay_snoc, List.length_append, tellCode_length, List.length_replicate, Nat.add_assoc]
  unfold tM T plainX
  simp only
  rw [e]
theorem end_next (l : List Int) (inp : ByteArray) : T (plainX inp (talkMem l)) 200 [] [] = { tM inp (tellCode l ++ List.replicate 20 43) with mem := (tM inp (tellCode l ++ List.replicate 20 43)).mem.set (200 + 3 * l.length + 20) 0 } := by
  have e : talkMem l = (lay (bootMem 48 400) 200 (tellCode l ++ List.replicate 20 43)).set (200 + 3 * l.length + 20) 0 := by
    unfold talkMem talkCode
    rw [lay_snoc, List.length_append, tellCode_length, List.length_replicate, Nat.add_assoc]
  unfold tM T plainX
  simp only
  rw [e]
theorem talk_in {l : List Int} (h : ∀ x ∈ l, Cell.In x) : ∀ x ∈ talkMem l, Cell.In x := by
  intro x hx
  unfold talkMem at hx
  rcases lay_mem hx with h1 | h1
  · exact boot_in (by decide) h1
  · unfold talkCode tellCode at h1
    rw [List.mem_append, List.mem_append, List.mem_flatMap] at h1
    rcases h1 with (⟨a, ha, h2⟩ | h2) | h2
    · simp only [List.mem_cons, List.not_mem_nil, or_false] at h2
      rcases h2 with rfl | rfl | rfl
      · unfold Cell.In; decide
      · exact h _ ha
      · unfold Cell.In; decide
    · rw [(List.mem_replicate.1 h2).2]
      unfold Cell.In; decide
    · rw [List.mem_singleton.1 h2]
      unfold Cell.In; decide
theorem told_size (l : List Int) : (told l).size = l.length := by unfold told; simp [ByteArray.size]
set_option maxHeartbeats 4000000 in
set_option maxRecDepth 100000 in
theorem not_small (inp : ByteArray) (v : Value) (l : List Int) (W : World) (hv : Reads W v l) (hi : inp.size ≤ maxLen) (hE : ∀ wc, Below W.heap.size W wc → Tabs wc) (hg : 60 < inp.size ∨ ¬ 60 < inp.size ∧ 30 < l.length) :
    Calls Tryz.prog 12 #[.string inp, v] W (Yes W) := by
  have A := Lib.hid (alive_any W hE)
  obtain ⟨lo, lc, rfl, -⟩ := hv
  obtain ⟨n, hn⟩ : ∃ n, l.length = n := ⟨_, rfl⟩
  rw [hn] at hg ⊢
  have hi' : inp.size ≤ 9223372036854775807 := hi
  clear hE hi hn
  rcases hg with c | ⟨c, c1⟩
  all_goals
    go_enter Tryz.func12, Tryz.ntmps12
    go_wp2_with fail
    refine A.out.mono ?_
    rintro e w3 ⟨rfl, hb⟩
    have HB3 := Lib.hid hb
    clear hb A
    go_wp2
    go_ret
    exact ⟨rfl, HB3.out⟩
set_option maxHeartbeats 16000000 in
set_option maxRecDepth 100000 in
theorem small (inp : ByteArray) (v : Value) (l : List Int) (W : World) (hv : Reads W v l) (hs : inp.size ≤ 60) (hl : l.length ≤ 30) (hli : ∀ x ∈ l, Cell.In x) (hE : ∀ wc, Below W.heap.size W wc → Tabs wc) :
    Calls Tryz.prog 12 #[.string inp, v] W (Yes W) := by
  have HE := Lib.hid hE
  have A := Lib.hid (alive_any W hE)
  have HV := Lib.hid hv
  obtain ⟨lo, lc, rfl, -⟩ := hv
  obtain ⟨n, hn⟩ : ∃ n, l.length = n := ⟨_, rfl⟩
  obtain ⟨y, fuel, hrun, hy0, hyo, hys, hyr⟩ := talks (inp := inp) hl
  obtain ⟨x, hx⟩ : ∃ x, T (plainX inp (talkMem l)) 200 [] [] = x := ⟨_, rfl⟩
  rw [hx] at hrun
  have hxr : Right x := by
    rw [← hx]
    refine ⟨by show (0 : Nat) ≤ 48; omega, by show (0 : Nat) ≤ 48; omega, ?_, by show (0 : Nat) ≤ 2000; omega, Int.le_refl 0, ?_, Int.le_refl 0, by show (0 : Int) ≤ 2; omega⟩
    · show (talkMem l).length ≤ 3000
      unfold talkMem
      rw [lay_length, bootMem_length]
      omega
    · show (0 : Int) ≤ ((inp.size : Nat) : Int)
      omega
  have hxc : Cells x := by
    rw [← hx]
    exact ⟨by show Cell.In 200; unfold Cell.In; decide, by show Cell.In 0; unfold Cell.In; decide, (fun z h => by cases h), (fun z h => by cases h), talk_in hli, by show Cell.In 0; unfold Cell.In; decide⟩
  have hxi : x.inp.size ≤ maxLen := by rw [← hx]; exact Nat.le_trans hs (by decide)
  have HX := Lib.hid (And.intro hx (And.intro hxr (And.intro hxc (And.intro hxi hrun))))
  have HY := Lib.hid (And.intro hy0 (And.intro hyo (And.intro hys hyr)))
  have HN := Lib.hid (And.intro hn (And.intro hl hs))
  rw [hn] at HV hl ⊢
  have n1 : ¬ 60 < inp.size := by omega
  have n2 : ¬ 30 < n := by omega
  have hi' : inp.size ≤ 9223372036854775807 := by omega
  clear hrun hy0 hyo hys hyr hx hxr hxc hxi hli hE hn hs
  go_enter Tryz.func12, Tryz.ntmps12
  go_wp2_with fail
  refine A.out.mono ?_
  rintro e w1 ⟨rfl, hb⟩
  have HB1 := Lib.hid hb
  clear hb A
  have C := Lib.hid (refBoot_any w1 400 400 (by decide) inp)
  obtain ⟨x0, hx0⟩ : ∃ x, bootM 400 inp = x := ⟨_, rfl⟩
  rw [hx0] at C
  have HX0 := Lib.hid hx0
  have hmem : x0.mem.length = 400 := by rw [← hx0]; exact bootMem_length 48 400
  have hst0 : x0.stack.length = 0 := by rw [← hx0]; rfl
  have hbk0 : x0.back.length = 0 := by rw [← hx0]; rfl
  clear hx0
  go_wp2_with fail
  refine C.out.mono ?_
  rintro e w2 hgm
  obtain ⟨a1, c1, a2, c2, gm, cap, rfl, ho, hrow, hb2⟩ := GivesM.block (n := 400) hmem (by decide) hgm
  rw [hst0, hbk0] at ho ⊢
  obtain ⟨w3, b, hw3, hb3, HYB, HBn, HG⟩ := new_box w2 (cells10 x0.ip x0.handler (.slice a1 0 c1) (.slice a2 0 c2) (.slice (some ⟨gm, 0, none⟩) 400 cap) x0.out x0.inp x0.read x0.status x0.code) 24
  have M3 := Lib.hid (MB.make (m := x0) hmem ho hrow hb2.size HYB.out HBn.out HG.out)
  have HB3 := Lib.hid (hb2.trans (HBn.out.mono hb2.size))
  clear ho hgm hrow hb2 C HYB hmem hst0 hbk0 HBn HG
  go_upto_region 4 with fail
  clear hw3 hb3
  obtain ⟨w4, hw4⟩ : ∃ w', w3.setCell ⟨b, 0, none⟩ (.int .i64 200) = w' := ⟨_, rfl⟩
  have M4 := Lib.hid (M3.out.ip 200)
  have HB4 := Lib.hid (HB3.out.trans (M3.out.belowB 0 (.int .i64 200)))
  rw [hw4] at M4 HB4
  obtain ⟨w5, hw5⟩ : ∃ w', w4.setCell ⟨b, 8, none⟩ (.int .i64 0) = w' := ⟨_, rfl⟩
  have M5 := Lib.hid (M4.out.status 0)
  have HB5 := Lib.hid (HB4.out.trans (M4.out.belowB 8 (.int .i64 0)))
  rw [hw5] at M5 HB5
  have t2 : w3.cell? ⟨b, 0, none⟩ = some (.int .i64 x0.ip) := whole_cell M3.out.box rfl
  have t3 := M3.out.fz 0
  have t4 : w4.cell? ⟨b, 8, none⟩ = some (.int .i64 x0.status) := whole_cell M4.out.box rfl
  have t5 := M4.out.fz 8
  go_upto_region 5 with fail
  have M6 := Lib.hid (show MB w5 w1.heap.size b gm 400 cap (.slice a1 0 c1) (.slice a2 0 c2) (tM inp (tellCode (l.take 0))) by
    have h := M5.out
    rw [← HX0.out] at h
    exact h)
  clear hw4 hw5 t2 t3 t4 t5 M3 M4 M5 HB3 HB4 HX0
  go_wp2_with fail
  go_loopg [6, 7, 8] n (fun z f g h wr => ∃ i J : Nat, z = n - i ∧ i ≤ n ∧ f = .int .i64 (J : Int) ∧ g = .string (told (l.take i)) ∧ h = .int .i64 i ∧ Hid (J = 200 + 3 * i) ∧ Hid (MB wr w1.heap.size b gm 400 cap (.slice a1 0 c1) (.slice a2 0 c2) (tM inp (tellCode (l.take i)))) ∧ Hid (Below w1.heap.size w1 wr))
  case atStart => exact ⟨0, 200, rfl, Nat.zero_le _, rfl, rfl, rfl, rfl, M6, HB5⟩
  case round =>
    obtain ⟨i, J, rfl, hi, rfl, rfl, rfl, HJ, HM, HB⟩ := hrel
    by_cases hlt : i < n
    · have e0 : (0 : Int) ≤ (i : Int) := Int.natCast_nonneg _
      have e1 : (i : Int) < (n : Int) := by omega
      obtain ⟨j1, hj1⟩ : ∃ j, J + 1 = j := ⟨_, rfl⟩
      obtain ⟨j2, hj2⟩ : ∃ j, J + 2 = j := ⟨_, rfl⟩
      have hJ4 : J < 300 := by have := HJ.out; omega
      have r0 : (0 : Int) ≤ (J : Int) := Int.natCast_nonneg _
      have r1 : (0 : Int) ≤ (j1 : Int) := Int.natCast_nonneg _
      have r2 : (0 : Int) ≤ (j2 : Int) := Int.natCast_nonneg _
      have r3 : (J : Int) < 400 := by omega
      have r4 : (j1 : Int) < 400 := by omega
      have r5 : (j2 : Int) < 400 := by omega
      have r6 : IntKind.i64.wrap ((J : Int) + 1) = (j1 : Int) := (IntWalk.i64_in _ (by omega)).trans (by omega)
      have r7 : IntKind.i64.wrap ((J : Int) + 2) = (j2 : Int) := (IntWalk.i64_in _ (by omega)).trans (by omega)
      have HBW := Lib.hid (show Below W.heap.size W wr from HB1.out.trans (HB.out.mono HB1.out.size))
      obtain ⟨z, hz⟩ : ∃ z, l[i]? = some z := ⟨_, List.getElem?_eq_getElem (by rw [HN.out.1]; exact hlt)⟩
      obtain ⟨_, _, eC, hcell⟩ := HV.out
      simp only [Value.slice.injEq] at eC
      obtain ⟨rfl, -, -⟩ := eC
      obtain ⟨ad, rfl, hca⟩ := hcell i z hz
      have hadlt : (ad.add i).block < W.heap.size := World.block_lt_of_cell? W _ hca
      have hne : (ad.add i).block ≠ gm := by have h1 := (HM.out.own.me.block gm HM.out.row).1; have h2 := HB1.out.size; omega
      have hcw : wr.cell? (ad.add i) = some (.int .i64 z) := by rw [HBW.out.cell hadlt]; exact hca
      have keepA : ∀ (w : World) (j : Nat) (u : Value), w.cell? (ad.add i) = some (.int .i64 z) → (w.setCell ⟨gm, j, none⟩ u).cell? (ad.add i) = some (.int .i64 z) := fun w j u h => by
        rw [World.cell?_of_block (w := w) ((Stirred.setCell w ⟨gm, j, none⟩ u).block _ (World.block_lt_of_cell? w _ h) (by rw [List.mem_singleton]; exact hne))]
        exact h
      have KA := Lib.hid keepA
      have d1 : wr.drew.cell? ⟨b, 4, none⟩ = some (.slice (some ⟨gm, 0, none⟩) 400 cap) := HM.out.c4
      have d2 : wr.drew.cell? (ad.add i) = some (.int .i64 z) := hcw
      have g4 := HM.out.c4
      have HGB := Lib.hid HM.out.ne
      have HJJ := Lib.hid (show J ≠ j1 ∧ J ≠ j2 ∧ j1 ≠ j2 by omega)
      have M6a := Lib.hid (HM.out.store J 2)
      have M6b := Lib.hid (M6a.out.store j1 z)
      have M6c := Lib.hid (M6b.out.store j2 41)
      obtain ⟨z0, q0⟩ := HM.out.some (show J < 400 by omega)
      have f0 := HM.out.gz (show J < 400 by omega)
      obtain ⟨y1, q1'⟩ := M6a.out.some (show j1 < 400 by omega)
      obtain ⟨y2, q2'⟩ := M6b.out.some (show j2 < 400 by omega)
      have f1' := M6a.out.gz (show j1 < 400 by omega)
      have f2' := M6b.out.gz (show j2 < 400 by omega)
      have h1o := HM.out.gz (show j1 < 400 by omega)
      have h2o := HM.out.gz (show j2 < 400 by omega)
      obtain ⟨z1, q1⟩ := HM.out.some (show j1 < 400 by omega)
      obtain ⟨z2, q2⟩ := HM.out.some (show j2 < 400 by omega)
      have HEND := Lib.hid (And.intro M6c.out.drew (show Below w1.heap.size w1 (((wr.setCell ⟨gm, J, none⟩ (.int .i64 2)).setCell ⟨gm, j1, none⟩ (.int .i64 z)).setCell ⟨gm, j2, none⟩ (.int .i64 41)).drew from
        HB.out.trans ((((HM.out.belowG J (.int .i64 2)).trans (M6a.out.belowG j1 (.int .i64 z))).trans (M6b.out.belowG j2 (.int .i64 41))).trans M6c.out.belowD)))
      have HZ := Lib.hid hz
      have HJ3 := Lib.hid (And.intro hj1 hj2)
      have HCA := Lib.hid (And.intro hca hadlt)
      clear hcell hz hj1 hj2 hca hadlt hne keepA
      go_wp2_with fail
      go_region_held3 (fun w' => w'.cell? ⟨b, 4, none⟩ = some (.slice (some ⟨gm, 0, none⟩) 400 cap) ∧ w'.cell? (ad.add i) = some (.int .i64 z))
        (first
          | with_reducible exact ⟨d1, d2⟩
          | exact ⟨drewc (keep5 HGB.out g4), drewc (KA.out _ _ _ hcw)⟩
          | exact ⟨drewc (keep5 HGB.out (keep5 HGB.out g4)), drewc (KA.out _ _ _ (KA.out _ _ _ hcw))⟩
          | exact ⟨drewc (keep5 HGB.out (keep5 HGB.out (keep5 HGB.out g4))), drewc (KA.out _ _ _ (KA.out _ _ _ (KA.out _ _ _ hcw)))⟩)
        (fail)
      clear q0 q1 q2 f0 q1' q2' f1' f2' h1o h2o M6a M6b M6c d1 d2 g4 hcw KA
      generalize (((wr.setCell ⟨gm, J, none⟩ (.int .i64 2)).setCell ⟨gm, j1, none⟩ (.int .i64 z)).setCell ⟨gm, j2, none⟩ (.int .i64 41)).drew = w6 at *
      have HBW6 := Lib.hid (show Below W.heap.size W w6 from HB1.out.trans (HEND.out.2.mono HB1.out.size))
      have hcw6 : w6.cell? (ad.add i) = some (.int .i64 z) := by rw [HBW6.out.cell HCA.out.2]; exact HCA.out.1
      obtain ⟨w7, gl, hw7, hgl, hcv, HBX⟩ := byte_box w6 (z % 256)
      have HM7 := Lib.hid (show MB w7 w1.heap.size b gm 400 cap (.slice a1 0 c1) (.slice a2 0 c2) (tM inp (tellCode (l.take (i + 1)))) by
        have h := HEND.out.1.on HBX.out
        rw [tell_next HZ.out, ← HJ.out, HJ3.out.1, HJ3.out.2]
        exact h)
      have HB7 := Lib.hid (HEND.out.2.trans (HBX.out.mono HEND.out.2.size))
      obtain ⟨t, ht⟩ : ∃ t, told (l.take i) = t := ⟨_, rfl⟩
      have HT := Lib.hid (show t ++ ⟨#[UInt8.ofNat (z % 256).toNat]⟩ = told (l.take (i + 1)) by
        rw [← ht, List.take_add_one (l := l), HZ.out, Option.toList_some, told_snoc]
        rfl)
      have hts : t.size ≤ 30 := by rw [← ht, told_size, List.length_take]; omega
      simp only [ht]
      clear ht HCA HEND
      go_wp2
      go_roundg (n - (i + 1))
      case measure => omega
      case rel => exact ⟨i + 1, J + 3, rfl, by omega, by go_num, by rw [HT.out], by go_num, by have := HJ.out; show J + 3 = 200 + 3 * (i + 1); omega, HM7, HB7⟩
    · obtain rfl : i = n := by omega
      have hti : l.take i = l := List.take_of_length_le (by rw [HN.out.1]; exact Nat.le_refl _)
      rw [hti] at HM ⊢
      obtain ⟨t, ht⟩ : ∃ t, told l = t := ⟨_, rfl⟩
      have HT := Lib.hid ht
      simp only [ht]
      have HM' := Lib.hid (show MB wr w1.heap.size b gm 400 cap (.slice a1 0 c1) (.slice a2 0 c2) (tM inp (tellCode l ++ List.replicate 0 43)) by rw [List.replicate_zero, List.append_nil]; exact HM.out)
      have HBR := Lib.hid HB.out
      clear ht hti HM HB M6
      go_wp2_with fail
      go_loopg [6, 9] 20 (fun z f g wx => ∃ j J2 : Nat, z = 20 - j ∧ j ≤ 20 ∧ f = .int .i64 (J2 : Int) ∧ g = .int .i64 j ∧ Hid (J2 = J + j) ∧ Hid (MB wx w1.heap.size b gm 400 cap (.slice a1 0 c1) (.slice a2 0 c2) (tM inp (tellCode l ++ List.replicate j 43))) ∧ Hid (Below w1.heap.size w1 wx))
      case atStart => exact ⟨0, J, rfl, Nat.zero_le _, rfl, rfl, rfl, HM', HBR⟩
      case round =>
        obtain ⟨j, J2, rfl, hj, rfl, rfl, HJ2, HM, HB⟩ := hrel
        have hJb : J2 ≤ 310 := by have := HJ2.out; have := HJ.out; omega
        have r0 : (0 : Int) ≤ (J2 : Int) := Int.natCast_nonneg _
        have r1 : (J2 : Int) < 400 := by omega
        have g4 := HM.out.c4
        obtain ⟨z0, q0⟩ := HM.out.some (show J2 < 400 by omega)
        have f0 := HM.out.gz (show J2 < 400 by omega)
        by_cases hlj : j < 20
        · have HM2 := Lib.hid (show MB (wr.setCell ⟨gm, J2, none⟩ (.int .i64 43)) w1.heap.size b gm 400 cap (.slice a1 0 c1) (.slice a2 0 c2) (tM inp (tellCode l ++ List.replicate (j + 1) 43)) by
            rw [ask_next, HN.out.1, show 200 + 3 * i + j = J2 by have := HJ2.out; have := HJ.out; omega]
            exact HM.out.store J2 43)
          have HB2 := Lib.hid (HB.out.trans (HM.out.belowG J2 (.int .i64 43)))
          go_wp2
          go_roundg (20 - (j + 1))
          case measure => omega
          case rel => exact ⟨j + 1, J2 + 1, rfl, by omega, by go_num, by go_num, by have := HJ2.out; show J2 + 1 = J + (j + 1); omega, HM2, HB2⟩
        · obtain rfl : j = 20 := by omega
          obtain ⟨w6, hw6⟩ : ∃ w', wr.setCell ⟨gm, J2, none⟩ (.int .i64 0) = w' := ⟨_, rfl⟩
          have HM2 := Lib.hid (show MB (wr.setCell ⟨gm, J2, none⟩ (.int .i64 0)) w1.heap.size b gm 400 cap (.slice a1 0 c1) (.slice a2 0 c2) x by
            rw [← HX.out.1, end_next, HN.out.1, show 200 + 3 * i + 20 = J2 by have := HJ2.out; have := HJ.out; omega]
            exact HM.out.store J2 0)
          have HB2 := Lib.hid (HB.out.trans (HM.out.belowG J2 (.int .i64 0)))
          rw [hw6] at HM2 HB2
          have HBW := Lib.hid (show Below W.heap.size W w6 from HB1.out.trans (HB2.out.mono HB1.out.size))
          have R := Lib.hid (runs_any HM2.out.readsM HX.out.2.1 HX.out.2.2.1 HX.out.2.2.2.1 (fun wc hbc => HE.out wc (HBW.out.trans (hbc.mono HBW.out.size))) 500 (by decide) HX.out.2.2.2.2)
          have HBX := Lib.hid HM2.out.box
          clear HM HB HM' HBR
          go_wp2_with (refine ld_state (by rfl) _ rfl _ rfl _ _ HBX.out rfl ?_)
          refine R.out.mono ?_
          rintro e w7 ⟨t1, d1, t2, d2, t3, d3, rfl, ho, hb⟩
          have hsl : y.stack.length = 20 := by rw [HY.out.2.2.1]; simp
          rw [hsl] at ho ⊢
          obtain ⟨gs, rfl, hcs⟩ := owns_cells ho.st (by omega)
          obtain ⟨w8, b8, hw8, hb8, HZB, HBn, HGZ⟩ := new_box w7 (cells10 y.ip y.handler (.slice (some ⟨gs, 0, none⟩) 20 d1) (.slice t2 y.back.length d2) (.slice t3 y.mem.length d3) y.out y.inp y.read y.status y.code) 24
          have HB8 := Lib.hid ((HBW.out.trans (hb.mono HBW.out.size)).trans (HBn.out.mono (Nat.le_trans HBW.out.size hb.size)))
          have HCS := Lib.hid (fun k (hk : k < 20) => show w8.cell? ⟨gs, k, none⟩ = some (.int .i64 (keyI inp k)) from (Stirred.of_below HBn.out []).cell List.not_mem_nil (hcs k _ (by rw [HY.out.2.2.1, List.getElem?_map, List.getElem?_range hk]; rfl)))
          clear R ho hb hcs hsl HBn HGZ
          go_upto_region 19 with fail
          clear hw8 hb8 hw6
          obtain ⟨N, hN⟩ : ∃ N, inp.size = N := ⟨_, rfl⟩
          obtain ⟨R', hR⟩ : ∃ R, min 20 N = R := ⟨_, rfl⟩
          have HNN := Lib.hid (And.intro hN hR)
          have m1 : min (20 : Int) (N : Int) = (R' : Int) := by omega
          have f8 : w8.cell? ⟨b8, 8, none⟩ = some (.int .i64 1) := by rw [← HY.out.1]; exact whole_cell HZB.out rfl
          have f5 : w8.cell? ⟨b8, 5, none⟩ = some (.string t) := by rw [← HT.out, ← HY.out.2.1]; exact whole_cell HZB.out rfl
          have f2 : w8.cell? ⟨b8, 2, none⟩ = some (.slice (some ⟨gs, 0, none⟩) 20 d1) := whole_cell HZB.out rfl
          have f7 : w8.cell? ⟨b8, 7, none⟩ = some (.int .i64 (R' : Int)) := by
            rw [← hR, ← hN, ← HY.out.2.2.2]
            exact whole_cell HZB.out rfl
          rw [hN] at n1 hi'
          clear hR
          go_wp2_with fail
          go_loopg [12] 20 (fun z f wr => ∃ k : Nat, z = 20 - k ∧ k ≤ 20 ∧ f = .int .i64 k ∧ wr = w8)
          case atStart => exact ⟨0, rfl, by decide, rfl, rfl⟩
          case round =>
            obtain ⟨k, rfl, hk, rfl, rfl⟩ := hrel
            by_cases hlk : k < 20
            · have k0 : (0 : Int) ≤ (k : Int) := Int.natCast_nonneg _
              have k1 : (k : Int) < 20 := by omega
              have kc := HCS.out k hlk
              by_cases hin : k < inp.size
              · have h3 : (k : Int) < (inp.size : Int) := by omega
                have h4 : inp.size ≤ 9223372036854775807 := by rw [HNN.out.1]; exact hi'
                obtain ⟨by', hby⟩ : ∃ b, inp[k] = b := ⟨_, rfl⟩
                have hkey : keyI inp k = ((by'.toNat : Nat) : Int) := by
                  unfold keyI
                  rw [if_pos hin, ← hby, List.getD_eq_getElem?_getD, List.getElem?_eq_getElem (by simpa using hin)]
                  rfl
                have e8 : RowKit.wrap64 ((by'.toNat : Nat) : Int) = ((by'.toNat : Nat) : Int) := by have := by'.toNat_lt; unfold RowKit.wrap64; omega
                rw [hkey] at kc
                clear hkey
                go_wp2
                go_roundg (20 - (k + 1))
                case measure => omega
                case rel => exact ⟨k + 1, rfl, by omega, by go_num, rfl⟩
              · have h3 : decide ((k : Int) < (inp.size : Int)) = false := decide_eq_false (by omega)
                have h5 : decide (k < inp.size) = false := decide_eq_false (by omega)
                have hkey : keyI inp k = -1 := if_neg hin
                rw [hkey] at kc
                clear hkey
                go_wp2
                go_roundg (20 - (k + 1))
                case measure => omega
                case rel => exact ⟨k + 1, rfl, by omega, by go_num, rfl⟩
            · obtain rfl : k = 20 := by omega
              go_wp2
              go_ret
              exact ⟨rfl, HB8.out⟩
theorem main (inp : ByteArray) (v : Value) (l : List Int) (W : World) (hi : inp.size ≤ maxLen) (h : ReadsC W v l ∧ ∀ x ∈ l, (Lit.int .i64 x).wf = true) (hE : ∀ wc, Below W.heap.size W wc → Tabs wc) :
    Calls Tryz.prog 12 #[.string inp, v] W (Yes W) := by
  by_cases c : 60 < inp.size
  · exact not_small inp v l W h.1.1 hi hE (.inl c)
  by_cases c1 : 30 < l.length
  · exact not_small inp v l W h.1.1 hi hE (.inr ⟨c, c1⟩)
  exact small inp v l W h.1.1 (by omega) (by omega) (fun x hx => Cell.in_of_wf (h.2 x hx)) hE
end Go.Proofs.YthnciokmomgfeaaGreatDoor.InnerTalks

namespace Go.Proofs.YthnciokmomgfeaaGreatDoor.innerTalks
open Inn Mach Mem
open Go.ChangeShapes Go.WideShapes Go.ChangeAt Go.RowKit
set_option linter.unusedVariables false
set_option linter.unusedSimpArgs false

theorem own : ownKnob Tryz.prog.godebug = none := by kernel_rfl
theorem laidOut : laidOutB Tryz.prog = true := by kernel_rfl
abbrev laid : List (String × DataW Unit) := laidL9
theorem laid_is : Rows.innerTalksRow.laid = laid := rfl
set_option maxRecDepth 100000 in
theorem lifted (os : Os) (started : os.Started) (H : Type) (enc : TypeId × Value → H) :
    ReturnsInHanded {} Tryz.checked os 12 .any (fun w args => (Rows.innerTalksSpec.pre enc Tryz.prog Tryz.f12 Rows.innerTalksRow.domain false w args ∧ laidMetH Tryz.prog laid w) ∧ sizedMet enc Tryz.prog Tryz.f12 (OpenSpec.ofChange Rows.innerTalksSpec) false w args)
      (Rows.innerTalksSpec.post enc Tryz.prog Tryz.f12 false true false false) := by
  refine returnsInHanded_of_change_and (C := Tryz.checked) (X := fun w _ => laidMetH Tryz.prog laid w) (fun _ _ _ hh h => h.of_heap hh) own started (by kernel_rfl) Tryz.func12
    (Inn.witness_ref (enc := enc) (C := Tryz.checked) (os := os) (X := fun w _ => laidMetH Tryz.prog laid w) false (Inn.laidWorld os) #[.string ⟨#[]⟩, .slice none 0 0] 8 rfl (by kernel_rfl) (by kernel_rfl) (by kernel_rfl) (by kernel_rfl) (by kernel_rfl) (Inn.laidWorld_met os _)) ?_
  intro W base args ds gs before hval0 hW _ _ hL _
  have hval : ∀ (j : Nat) t v, Tryz.f12.params[j]? = some t → args[j]? = some v → Value.okWide Tryz.prog W .any base t v := hval0
  have hW' := hW
  obtain ⟨p, q, hA0, hV, rfl, hfz, hnd⟩ := hW
  have hA : DataW.TrodAll enc Tryz.prog W 0 (fun _ => true) true Tryz.f12.params.toList args.toList ds p := hA0
  rw [Tryz.params12] at hA hval
  obtain ⟨v0, vs0, d0, ds0, p0, q0, hargs, rfl, rfl, h0, r0⟩ := trodAll_cons hA
  obtain ⟨v1, vs1, d1, ds1, p1, q1, rfl, rfl, rfl, h1, r1⟩ := trodAll_cons r0
  obtain ⟨rfl, rfl, rfl⟩ := trodAll_nil r1
  obtain rfl : args = #[v0, v1] := by cases args; simp_all
  obtain ⟨rfl, rfl⟩ := trodVars_none hV
  obtain ⟨a0, rfl, rfl, rfl, w0⟩ := Go.ChangeMaps.open_string Tryz.underlying9 (hval 0 9 v0 rfl rfl) h0
  obtain ⟨xs1, l1⟩ := readsCapOf (hval 1 22 v1 rfl rfl) h1
  clear hA0 hval0
  simp only [List.append_nil] at hW'
  have hlt1 : ∀ x ∈ p1, x.block < W.heap.size := fun x hx => by simpa using hW'.lt x (by simp [hx])
  refine (InnerTalks.main a0 v1 xs1 W w0 l1 (tabs_on hL)).mono fun e W' ⟨he, hg⟩ => ?_
  subst he
  exact ⟨_, rfl, _, _, _, [], _, [], hW', (trodAll_cons_mk (shut_bool Tryz.underlying4 _) trodAll_mk0), (trodAll_cons_mk (Go.ChangeMaps.shut_string Tryz.underlying9 w0) (trodAll_cons_mk (Below.trod laidOut (by kernel_rfl) (of_decide_eq_true (by kernel_rfl)) h1 hg hlt1) trodAll_mk0)), rfl, hg.frame _, fun h => by cases h⟩

theorem over : Rows.innerTalksRow.holds Tryz.pinned (OpenSpec.ofChange Rows.innerTalksSpec) :=
  OpenClaim.holds_of_wide 12 Tryz.f12 rfl rfl rfl rfl rfl rfl rfl ⟨rfl, rfl, rfl, rfl, rfl⟩ rfl rfl rfl rfl rfl (by kernel_rfl) Tryz.func12 (by kernel_rfl)
    (of_decide_eq_true (by kernel_rfl)) (by unfold Func.isWrapper; first | (rw [if_pos (by decide +kernel)]; kernel_rfl) | (rw [if_neg (by decide +kernel)]; exact ⟨rfl, rfl⟩))
    (fun os started H enc _ => lifted os started H enc)

theorem proved : Rows.InnerTalksCardSaid :=
  Claim7.holds_tied_plain_at .later [] Rows.innerTalksCard.laidKinds true Rows.innerTalksCard.stood.harness Rows.innerTalksCard.stood.looks
    over (fun _ h => by cases h) (by kernel_rfl) (fun _ h => by cases h) innerTalks_row_tie rfl ⟨rfl, rfl⟩ (by kernel_rfl) rfl
    (fun f fn hf hfn => by
      obtain rfl : f = 12 := Option.some.inj ((show Tryz.prog.funcNamed "holloway/hollowaylaw9.InnerTalks" = some 12 by kernel_rfl).symm.trans hf) |>.symm
      obtain rfl : fn = Tryz.f12 := (Option.some.inj (Tryz.func12.symm.trans hfn)).symm
      exact ⟨by kernel_rfl, fun j t ht => by
        rw [Tryz.params12] at ht
        have hm : t ∈ [9, 22] := by
          rcases Array.mem_of_getElem? ht with h
          simpa using h
        simp only [List.mem_cons, List.not_mem_nil, or_false] at hm
        rcases hm with rfl | rfl
        · exact (show Tryz.prog.wantsStandIn 9 = false by kernel_rfl)
        · exact (show Tryz.prog.wantsStandIn 22 = false by kernel_rfl)⟩)
    (by kernel_rfl)
#print axioms proved
end Go.Proofs.YthnciokmomgfeaaGreatDoor.innerTalks
