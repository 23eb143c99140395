/- What is proved: hollowaylaw9.InnerFaults answers true for every input, and its arguments read afterwards as before; the listed package variables start as the program's text lays them (the card ties them). -/
import Derived.Test.YthnciokmomgfeaaGreatDoorG23
import Derived.Test.YthnciokmomgfeaaGreatDoorG14
import Derived.Test.YthnciokmomgfeaaGreatDoorG26
import Derived.Test.YthnciokmomgfeaaGreatDoorG20
import Derived.Test.YthnciokmomgfeaaGreatDoorG22
import Derived.Deep.RegionHeld3
import Derived.Test.YthnciokmomgfeaaGreatDoorRows
import Derived.Test.YthnciokmomgfeaaGreatDoorCards
import Derived.Test.YthnciokmomgfeaaGreatDoorTie
import Derived.WalkKit
import Derived.ProofKit
import Derived.OpenShut
import Derived.ChangeSame
import Derived.ChangeVars
import Derived.JoinedOf
import Derived.RowKitTokens
import Derived.LaidLaws
import Derived.LaidHandle
import Derived.Stop.Joined
import Derived.SevenTiedAt
import Derived.Carry
import Derived.Test.YthnciokmomgfeaaGreatDoorG25
/- What a step comes to where nothing is caught; no code of the program in sight (written by genfate.py). -/
namespace Go.Proofs.YthnciokmomgfeaaGreatDoor.Mach
open Go.RowKit (wrap64)
set_option linter.unusedVariables false
set_option linter.unusedSimpArgs false
theorem fault_bare {x : M} (h : x.handler = 0) (c : Int) : fault x c = { x with status := 2, code := c } := by
  unfold fault caught
  rw [h]
  simp
/-- how a step ends: it goes on, it halts, it is a fault that leaves all as it was, it throws what was on top -/
def Fate (x t : M) (k : Nat) : Prop :=
  t.status = 0 ∨ (k = 0 ∧ t.status = 1) ∨ (k ≠ 45 ∧ ∃ c : Int, -57 ≤ c ∧ c < 0 ∧ t = { x with status := 2, code := c }) ∨ (k = 45 ∧ nth x.stack 0 ≠ 0 ∧ t = { x with stack := less x.stack 1, status := 2, code := nth x.stack 0 })
theorem Fate.fault {x : M} (h : x.handler = 0) {k : Nat} (hk : k ≠ 45) {c : Int} (h1 : -57 ≤ c) (h2 : c < 0) : Fate x (fault x c) k := .inr (.inr (.inl ⟨hk, c, h1, h2, fault_bare h c⟩))
theorem exec_fate {x : M} (h0 : x.status = 0) (hh : x.handler = 0) (k : Nat) (hk : k < 48) (i g : Int) : Fate x (exec k x i g) k := by
  match k, hk with
  | 0, _ =>
    exact .inr (.inl ⟨rfl, rfl⟩)
  | 1, _ =>
    simp only [exec]
    repeat' split
    all_goals first | exact .inl h0 | exact Fate.fault hh (by decide) (by decide) (by decide)
  | 2, _ =>
    simp only [exec]
    repeat' split
    all_goals first | exact .inl h0 | exact Fate.fault hh (by decide) (by decide) (by decide)
  | 3, _ =>
    simp only [exec]
    repeat' split
    all_goals first | exact .inl h0 | exact Fate.fault hh (by decide) (by decide) (by decide)
  | 4, _ =>
    simp only [exec]
    repeat' split
    all_goals first | exact .inl h0 | exact Fate.fault hh (by decide) (by decide) (by decide)
  | 5, _ =>
    simp only [exec]
    repeat' split
    all_goals first | exact .inl h0 | exact Fate.fault hh (by decide) (by decide) (by decide)
  | 6, _ =>
    simp only [exec]
    repeat' split
    all_goals first | exact .inl h0 | exact Fate.fault hh (by decide) (by decide) (by decide)
  | 7, _ =>
    simp only [exec]
    repeat' split
    all_goals first | exact .inl h0 | exact Fate.fault hh (by decide) (by decide) (by decide)
  | 8, _ =>
    simp only [exec]
    repeat' split
    all_goals first | exact .inl h0 | exact Fate.fault hh (by decide) (by decide) (by decide)
  | 9, _ =>
    simp only [exec]
    repeat' split
    all_goals first | exact .inl h0 | exact Fate.fault hh (by decide) (by decide) (by decide)
  | 10, _ =>
    simp only [exec]
    repeat' split
    all_goals first | exact .inl h0 | exact Fate.fault hh (by decide) (by decide) (by decide)
  | 11, _ =>
    rw [exec_two x i g (by decide)]
    split
    · exact .inl h0
    · exact Fate.fault hh (by decide) (by decide) (by decide)
  | 12, _ =>
    rw [exec_two x i g (by decide)]
    split
    · exact .inl h0
    · exact Fate.fault hh (by decide) (by decide) (by decide)
  | 13, _ =>
    rw [exec_two x i g (by decide)]
    split
    · exact .inl h0
    · exact Fate.fault hh (by decide) (by decide) (by decide)
  | 14, _ =>
    rw [exec_two x i g (by decide)]
    split
    · exact .inl h0
    · exact Fate.fault hh (by decide) (by decide) (by decide)
  | 15, _ =>
    rw [exec_two x i g (by decide)]
    split
    · exact .inl h0
    · exact Fate.fault hh (by decide) (by decide) (by decide)
  | 16, _ =>
    rw [exec_one x i g (by decide)]
    exact .inl h0
  | 17, _ =>
    rw [exec_two x i g (by decide)]
    split
    · exact .inl h0
    · exact Fate.fault hh (by decide) (by decide) (by decide)
  | 18, _ =>
    rw [exec_two x i g (by decide)]
    split
    · exact .inl h0
    · exact Fate.fault hh (by decide) (by decide) (by decide)
  | 19, _ =>
    rw [exec_two x i g (by decide)]
    split
    · exact .inl h0
    · exact Fate.fault hh (by decide) (by decide) (by decide)
  | 20, _ =>
    rw [exec_one x i g (by decide)]
    exact .inl h0
  | 21, _ =>
    rw [exec_two x i g (by decide)]
    split
    · exact .inl h0
    · exact Fate.fault hh (by decide) (by decide) (by decide)
  | 22, _ =>
    rw [exec_two x i g (by decide)]
    split
    · exact .inl h0
    · exact Fate.fault hh (by decide) (by decide) (by decide)
  | 23, _ =>
    rw [exec_two x i g (by decide)]
    split
    · exact .inl h0
    · exact Fate.fault hh (by decide) (by decide) (by decide)
  | 24, _ =>
    rw [exec_two x i g (by decide)]
    split
    · exact .inl h0
    · exact Fate.fault hh (by decide) (by decide) (by decide)
  | 25, _ =>
    rw [exec_two x i g (by decide)]
    split
    · exact .inl h0
    · exact Fate.fault hh (by decide) (by decide) (by decide)
  | 26, _ =>
    rw [exec_one x i g (by decide)]
    exact .inl h0
  | 27, _ =>
    rw [exec_one x i g (by decide)]
    exact .inl h0
  | 28, _ =>
    rw [exec_two x i g (by decide)]
    split
    · exact .inl h0
    · exact Fate.fault hh (by decide) (by decide) (by decide)
  | 29, _ =>
    rw [exec_two x i g (by decide)]
    split
    · exact .inl h0
    · exact Fate.fault hh (by decide) (by decide) (by decide)
  | 30, _ =>
    simp only [exec]
    repeat' split
    all_goals first | exact .inl h0 | exact Fate.fault hh (by decide) (by decide) (by decide)
  | 31, _ =>
    simp only [exec]
    repeat' split
    all_goals first | exact .inl h0 | exact Fate.fault hh (by decide) (by decide) (by decide)
  | 32, _ =>
    simp only [exec]
    repeat' split
    all_goals first | exact .inl h0 | exact Fate.fault hh (by decide) (by decide) (by decide)
  | 33, _ =>
    simp only [exec]
    repeat' split
    all_goals first | exact .inl h0 | exact Fate.fault hh (by decide) (by decide) (by decide)
  | 34, _ =>
    simp only [exec]
    repeat' split
    all_goals first | exact .inl h0 | exact Fate.fault hh (by decide) (by decide) (by decide)
  | 35, _ =>
    simp only [exec]
    repeat' split
    all_goals first | exact .inl h0 | exact Fate.fault hh (by decide) (by decide) (by decide)
  | 36, _ =>
    simp only [exec]
    repeat' split
    all_goals first | exact .inl h0 | exact Fate.fault hh (by decide) (by decide) (by decide)
  | 37, _ =>
    simp only [exec]
    repeat' split
    all_goals first | exact .inl h0 | exact Fate.fault hh (by decide) (by decide) (by decide)
  | 38, _ =>
    simp only [exec]
    repeat' split
    all_goals first | exact .inl h0 | exact Fate.fault hh (by decide) (by decide) (by decide)
  | 39, _ =>
    simp only [exec]
    repeat' split
    all_goals first | exact .inl h0 | exact Fate.fault hh (by decide) (by decide) (by decide)
  | 40, _ =>
    simp only [exec]
    repeat' split
    all_goals first | exact .inl h0 | exact Fate.fault hh (by decide) (by decide) (by decide)
  | 41, _ =>
    simp only [exec]
    repeat' split
    all_goals first | exact .inl h0 | exact Fate.fault hh (by decide) (by decide) (by decide)
  | 42, _ =>
    simp only [exec]
    repeat' split
    all_goals first | exact .inl h0 | exact Fate.fault hh (by decide) (by decide) (by decide)
  | 43, _ =>
    simp only [exec]
    repeat' split
    all_goals first | exact .inl h0 | exact Fate.fault hh (by decide) (by decide) (by decide)
  | 44, _ =>
    simp only [exec]
    repeat' split
    all_goals first | exact .inl h0 | exact Fate.fault hh (by decide) (by decide) (by decide)
  | 45, _ =>
    simp only [exec]
    split
    · exact .inl h0
    · rename_i hp
      exact .inr (.inr (.inr ⟨rfl, hp, fault_bare (x := { x with stack := less x.stack 1 }) hh _⟩))
  | 46, _ =>
    simp only [exec]
    repeat' split
    all_goals first | exact .inl h0 | exact Fate.fault hh (by decide) (by decide) (by decide)
  | 47, _ =>
    simp only [exec]
    repeat' split
    all_goals first | exact .inl h0 | exact Fate.fault hh (by decide) (by decide) (by decide)
  | n + 48, hn => exact absurd hn (by omega)
theorem nth_last {l : List Int} {p : Int} (h : nth l 0 = p) (hp : 0 < l.length) : ∃ m, l = m ++ [p] ∧ less l 1 = m := by
  obtain ⟨m, a, rfl⟩ : ∃ m a, l = m ++ [a] := ⟨l.dropLast, l.getLast (by intro e; rw [e] at hp; simp at hp), (List.dropLast_concat_getLast _).symm⟩
  rw [nth_snoc] at h
  exact ⟨m, by rw [h], by rw [less_snoc, less_none]⟩
/-- .. of a step at such a place -/
theorem step_fate {x : M} {k j : Nat} (h0 : x.status = 0) (hh : x.handler = 0) (hj : x.ip = (j : Int)) (hx : x.mem[j]? = some (k : Int)) (hl : j + 1 < x.mem.length) (hk : k < 48) (hs : x.stack.length ≤ 40) (hb : x.back.length ≤ 40) :
    Fate x (step x) k ∨ (k = 45 ∧ x.stack = [] ∧ step x = { x with status := 2, code := -4 }) := by
  have hg : x.mem.getD x.ip.toNat 0 = (k : Int) := by rw [List.getD_eq_getElem?_getD, hj, Int.toNat_natCast, hx]; rfl
  unfold step
  rw [if_neg (by omega), if_neg (by omega)]
  simp only [hg]
  rw [if_neg (by omega), if_neg (by omega), if_neg (by rintro ⟨-, h⟩; omega)]
  simp only [Int.toNat_natCast]
  by_cases h45 : k = 45
  · subst h45
    have hm : movesOf 45 = (1, 0, 0, 0) := rfl
    rw [hm]
    dsimp only
    by_cases h1 : (x.stack.length : Int) < 1
    · rw [if_pos h1]
      exact .inr ⟨rfl, List.eq_nil_of_length_eq_zero (by omega), fault_bare hh _⟩
    · rw [if_neg h1, if_neg (by omega), if_neg (by omega), if_neg (by omega)]
      exact .inl (exec_fate h0 hh 45 hk _ _)
  · left
    split
    · exact Fate.fault hh h45 (by decide) (by decide)
    · split
      · exact Fate.fault hh h45 (by decide) (by decide)
      · split
        · exact Fate.fault hh h45 (by decide) (by decide)
        · split
          · exact Fate.fault hh h45 (by decide) (by decide)
          · exact exec_fate h0 hh k hk _ _
end Go.Proofs.YthnciokmomgfeaaGreatDoor.Mach
/- InnerFaults: the walk. -/
namespace Go.Proofs.YthnciokmomgfeaaGreatDoor.InnerFaults
open Go.RowKit Book Mem Mach Inn
set_option linter.unusedVariables false
set_option linter.unusedSimpArgs false
theorem ten {w : World} {g : Nat} {ip hn rd stt cd : Int} {vs vb vm : Value} {ou inn : ByteArray} (h : w.heap[g]? = some (.cells (cells10 ip hn vs vb vm ou inn rd stt cd) 24 (0, 0))) :
    w.cell? ⟨g, 0, none⟩ = some (.int .i64 ip) ∧ w.cell? ⟨g, 1, none⟩ = some (.int .i64 hn) ∧ w.cell? ⟨g, 2, none⟩ = some vs ∧ w.cell? ⟨g, 3, none⟩ = some vb ∧ w.cell? ⟨g, 4, none⟩ = some vm ∧ w.cell? ⟨g, 5, none⟩ = some (.string ou) ∧ w.cell? ⟨g, 6, none⟩ = some (.string inn) ∧
      w.cell? ⟨g, 7, none⟩ = some (.int .i64 rd) ∧ w.cell? ⟨g, 8, none⟩ = some (.int .i64 stt) ∧ w.cell? ⟨g, 9, none⟩ = some (.int .i64 cd) :=
  ⟨whole_cell h rfl, whole_cell h rfl, whole_cell h rfl, whole_cell h rfl, whole_cell h rfl, whole_cell h rfl, whole_cell h rfl, whole_cell h rfl, whole_cell h rfl, whole_cell h rfl⟩
theorem keepx {w : World} {b g i j : Nat} {u v : Value} (hn : b ≠ g) (h : w.cell? ⟨b, i, none⟩ = some v) : (w.setCell ⟨g, j, none⟩ u).cell? ⟨b, i, none⟩ = some v :=
  (Stirred.setCell w ⟨g, j, none⟩ u).cell (by rw [List.mem_singleton]; exact hn) h
set_option maxHeartbeats 4000000 in
set_option maxRecDepth 100000 in
theorem none_such (k : Int) (vs vb : Value) (W : World) (hE : ∀ wc, Below W.heap.size W wc → Tabs wc) (hg : k < 0 ∨ ¬ k < 0 ∧ 48 ≤ k) :
    Calls Tryz.prog 8 #[.int .i64 k, vs, vb] W (Yes W) := by
  have A := Lib.hid (alive_any W hE)
  clear hE
  rcases hg with c | ⟨c, c1⟩
  all_goals
    go_enter Tryz.func8, Tryz.ntmps8
    go_wp2_with fail
    refine A.out.mono ?_
    rintro e w3 ⟨rfl, hb⟩
    have HB3 := Lib.hid hb
    clear hb A
    go_wp2
    go_ret
    exact ⟨rfl, HB3.out⟩
set_option maxHeartbeats 16000000 in
set_option maxRecDepth 100000 in
theorem fine (k : Nat) (hk : k < 48) (vs vb : Value) (st bk : List Int) (W : World) (hs : ReadsC W vs st) (hb : ReadsC W vb bk) (h1 : ∀ z ∈ st, Cell.In z) (h2 : ∀ z ∈ bk, Cell.In z) (hE : ∀ wc, Below W.heap.size W wc → Tabs wc) :
    Calls Tryz.prog 8 #[.int .i64 k, vs, vb] W (Yes W) := by
  have HE := Lib.hid hE
  have A := Lib.hid (alive_any W hE)
  have HS := Lib.hid hs
  have HK := Lib.hid hb
  -- the machine, and what becomes of it
  have hin : ∀ z ∈ [(k : Int), 7], Cell.In z := by
    intro z hz
    simp only [List.mem_cons, List.not_mem_nil, or_false] at hz
    rcases hz with rfl | rfl <;> (unfold Cell.In; omega)
  obtain ⟨x, hx⟩ : ∃ x, plainM [(k : Int), 7] st bk = x := ⟨_, rfl⟩
  obtain ⟨y, hy⟩ : ∃ y, Mach.step x = y := ⟨_, rfl⟩
  have hxr : Right x := by rw [← hx]; exact plain_right _ _ _
  have hxc : Cells x := by rw [← hx]; exact plain_cells hin h1 h2
  have hxi : x.inp.size ≤ maxLen := by rw [← hx]; exact plain_inp _ _ _
  have hx0 : x.status = 0 := by rw [← hx]; rfl
  have hxd : x.code = 0 := by rw [← hx]; rfl
  have hF : Fate x y k ∨ (k = 45 ∧ x.stack = [] ∧ y = { x with status := 2, code := -4 }) := by
    rw [← hy]
    refine step_fate hx0 (by rw [← hx]; rfl) (j := 200) (by rw [← hx]; rfl) ?_ ?_ hk ?_ ?_
    · rw [← hx]
      exact plainMem_at (code := [(k : Int), 7]) (by simp) (j := 0) (by simp)
    · rw [← hx]
      show 201 < (plainMem [(k : Int), 7]).length
      rw [plainMem_length]
      decide
    · rw [← hx]
      show (st.take 40).length ≤ 40
      rw [List.length_take]; omega
    · rw [← hx]
      show (bk.take 40).length ≤ 40
      rw [List.length_take]; omega
  have hyr : Right y := by rw [← hy]; exact step_right hxr
  have hyc : Cells y := by rw [← hy]; exact step_cells hxr hxc
  have hyi : y.inp.size ≤ maxLen := by rw [← hy, step_inp]; exact hxi
  have HX := Lib.hid (And.intro hx (And.intro hxr (And.intro hxc (And.intro hxi (And.intro hx0 hxd)))))
  have HY := Lib.hid (And.intro hy (And.intro hyr (And.intro hyc hyi)))
  have HF := Lib.hid hF
  have c0 : (0 : Int) ≤ (k : Int) := Int.natCast_nonneg _
  have c1 : ¬ (k : Int) < 0 := by omega
  have c2 : ¬ (48 : Int) ≤ (k : Int) := by omega
  clear hs hb h1 h2 hE hin hx hy hxr hxc hxi hx0 hxd hF hyr hyc hyi
  go_enter Tryz.func8, Tryz.ntmps8
  go_wp2_with fail
  refine A.out.mono ?_
  rintro e w1 ⟨rfl, hb⟩
  have HB1 := Lib.hid hb
  clear hb A
  obtain ⟨w2, gl, hw2, hgl, HLB, HBL, HGL⟩ := new_box w1 #[.int .i64 k, .int .i64 7] 3
  have HB2 := Lib.hid (HB1.out.trans (HBL.out.mono HB1.out.size))
  have HOL := Lib.hid (owns_lit (n := 2) HLB.out [(k : Int), 7] rfl rfl (by decide) (Nat.le_refl _) (by decide))
  have C := Lib.hid (plain_any (Reads.of_owns HOL.out) (HS.out.below HB2.out) (HK.out.below HB2.out))
  rw [HX.out.1] at C
  clear HLB HBL HOL HS HK
  go_wp2_with fail
  refine C.out.mono ?_
  rintro e w3 hgm
  obtain ⟨s1, k1, s2, k2, s3, k3, rfl, ho, hb⟩ := GivesM.known hgm
  obtain ⟨w4, b7, hw4, hb7, HYB, HBn, HGB⟩ := new_box w3 (cells10 x.ip x.handler (.slice s1 x.stack.length k1) (.slice s2 x.back.length k2) (.slice s3 x.mem.length k3) x.out x.inp x.read x.status x.code) 24
  have HB4 := Lib.hid ((HB2.out.trans (hb.mono HB2.out.size)).trans (HBn.out.mono (Nat.le_trans HB2.out.size hb.size)))
  have HO4 := Lib.hid (ho.below HBn.out)
  have R := Lib.hid (innStep_any HO4.out.readsM HX.out.2.1 HX.out.2.2.1 HX.out.2.2.2.1 (fun wc hbc => HE.out wc (HB4.out.trans (hbc.mono HB4.out.size))))
  rw [HY.out.1] at R
  clear C ho hb hgm
  go_wp2_with (refine ld_state (by rfl) _ rfl _ rfl _ _ HYB.out rfl ?_)
  refine R.out.mono ?_
  rintro e w5 hgm
  obtain ⟨t1, d1, t2, d2, t3, d3, rfl, ho, hb⟩ := GivesM.known hgm
  obtain ⟨w6, b8, hw6, hb8, HZB, HBn2, HGZ⟩ := new_box w5 (cells10 y.ip y.handler (.slice t1 y.stack.length d1) (.slice t2 y.back.length d2) (.slice t3 y.mem.length d3) y.out y.inp y.read y.status y.code) 24
  have HB6 := Lib.hid ((HB4.out.trans (hb.mono HB4.out.size)).trans (HBn2.out.mono (Nat.le_trans HB4.out.size hb.size)))
  have HYB6 := Lib.hid (box_on (box_on HYB.out hb) HBn2.out)
  have HO6 := Lib.hid ((HO4.out.below hb).below HBn2.out)
  have HQ6 := Lib.hid (ho.below HBn2.out)
  clear R ho hb hgm HYB HO4
  go_upto_region 5 with fail
  clear hw6 hb8 hw4 hb7 hw2 hgl
  have f8 : w6.cell? ⟨b8, 8, none⟩ = some (.int .i64 y.status) := whole_cell HZB.out rfl
  by_cases cy : y.status = 2
  · go_upto_region 7 with fail
    obtain ⟨w7, b9, hw7, hb9, HUB, HBn3, HGU⟩ := new_box w6 (cells10 y.ip y.handler (.slice t1 y.stack.length d1) (.slice t2 y.back.length d2) (.slice t3 y.mem.length d3) y.out y.inp y.read y.status y.code) 24
    have HB7 := Lib.hid (HB6.out.trans (HBn3.out.mono HB6.out.size))
    have HYB7 := Lib.hid (box_on HYB6.out HBn3.out)
    have HZB7 := Lib.hid (box_on HZB.out HBn3.out)
    have HO7 := Lib.hid (HO6.out.below HBn3.out)
    have HQ7 := Lib.hid (HQ6.out.below HBn3.out)
    have HCY := Lib.hid cy
    clear cy
    go_upto_region 8 with (refine ld_state (by rfl) _ rfl _ rfl _ _ HZB.out rfl ?_)
    clear hw7 hb9 f8
    have k8 : w7.cell? ⟨b7, 8, none⟩ = some (.int .i64 x.status) := whole_cell HYB7.out rfl
    have k9 : w7.cell? ⟨b7, 9, none⟩ = some (.int .i64 x.code) := whole_cell HYB7.out rfl
    have d8 : w7.drew.cell? ⟨b7, 8, none⟩ = some (.int .i64 x.status) := k8
    have d9 : w7.drew.cell? ⟨b7, 9, none⟩ = some (.int .i64 x.code) := k9
    have u8 : w7.cell? ⟨b9, 8, none⟩ = some (.int .i64 y.status) := whole_cell HUB.out rfl
    have u9 : w7.cell? ⟨b9, 9, none⟩ = some (.int .i64 y.code) := whole_cell HUB.out rfl
    have z8 : w7.frozen? ⟨b9, 8, none⟩ = false := whole_frozen HUB.out 8
    have z9 : w7.frozen? ⟨b9, 9, none⟩ = false := whole_frozen HUB.out 9
    have HNE := Lib.hid (show b7 ≠ b9 by have h1 := whole_lt HYB6.out; have h2 := HGU.out; omega)
    have HNZ := Lib.hid (show b8 ≠ b9 by have h1 := whole_lt HZB.out; have h2 := HGU.out; omega)
    go_region_held3 (fun w' => w'.cell? ⟨b7, 8, none⟩ = some (.int .i64 x.status) ∧ w'.cell? ⟨b7, 9, none⟩ = some (.int .i64 x.code))
      (first
        | with_reducible exact ⟨d8, d9⟩
        | with_reducible exact ⟨drewc (keepx HNE.out k8), drewc (keepx HNE.out k9)⟩
        | with_reducible exact ⟨drewc (keepx HNE.out (keepx HNE.out k8)), drewc (keepx HNE.out (keepx HNE.out k9))⟩)
      (fail)
    have hst : Stirred w7 ((w7.setCell ⟨b9, 8, none⟩ (.int .i64 x.status)).setCell ⟨b9, 9, none⟩ (.int .i64 x.code)).drew [b9] :=
      ((Stirred.setCell w7 ⟨b9, 8, none⟩ (.int .i64 x.status)).trans (Stirred.setCell _ ⟨b9, 9, none⟩ (.int .i64 x.code)) (fun k hk => .inl hk)).trans (Stirred.drew _ []) (fun k hk => by cases hk)
    have hub : ((w7.setCell ⟨b9, 8, none⟩ (.int .i64 x.status)).setCell ⟨b9, 9, none⟩ (.int .i64 x.code)).drew.heap[b9]? = some (.cells (cells10 y.ip y.handler (.slice t1 y.stack.length d1) (.slice t2 y.back.length d2) (.slice t3 y.mem.length d3) y.out y.inp y.read x.status x.code) 24 (0, 0)) :=
      whole_set (whole_set HUB.out 8 (.int .i64 x.status)) 9 (.int .i64 x.code)
    have hne : ∀ {v : Value} {xs : List Int}, (∀ k, blk v = some k → k < w6.heap.size) → ∀ k, blk v = some k → k ∉ [b9] := fun h k hk hm => by
      have h1 := h k hk
      rw [List.mem_singleton] at hm
      have h2 := HGU.out
      omega
    have HB8 := Lib.hid (HB7.out.trans (hst.below (B := W.heap.size) (fun k hk => by rw [List.mem_singleton.1 hk]; have := HGU.out; have := HB6.out.size; omega) HB7.out.size))
    have HUB8 := Lib.hid hub
    have HYB8 := Lib.hid (hst.whole HYB7.out (by rw [List.mem_singleton]; exact HNE.out))
    have HZB8 := Lib.hid (hst.whole HZB7.out (by rw [List.mem_singleton]; exact HNZ.out))
    have HO8 : Hid (OwnsL ((w7.setCell ⟨b9, 8, none⟩ (.int .i64 x.status)).setCell ⟨b9, 9, none⟩ (.int .i64 x.code)).drew w2.heap.size (.slice s1 x.stack.length k1) (.slice s2 x.back.length k2) (.slice s3 x.mem.length k3) x) := Lib.hid
      ⟨HO7.out.st.touch hst (hne (xs := x.stack) fun k hk => (HO6.out.st.block k hk).2.1), HO7.out.bk.touch hst (hne (xs := x.stack) fun k hk => (HO6.out.bk.block k hk).2.1), HO7.out.me.touch hst (hne (xs := x.stack) fun k hk => (HO6.out.me.block k hk).2.1), HO7.out.sb, HO7.out.bm⟩
    have HQ8 : Hid (OwnsL ((w7.setCell ⟨b9, 8, none⟩ (.int .i64 x.status)).setCell ⟨b9, 9, none⟩ (.int .i64 x.code)).drew w4.heap.size (.slice t1 y.stack.length d1) (.slice t2 y.back.length d2) (.slice t3 y.mem.length d3) y) := Lib.hid
      ⟨HQ7.out.st.touch hst (hne (xs := x.stack) fun k hk => (HQ6.out.st.block k hk).2.1), HQ7.out.bk.touch hst (hne (xs := x.stack) fun k hk => (HQ6.out.bk.block k hk).2.1), HQ7.out.me.touch hst (hne (xs := x.stack) fun k hk => (HQ6.out.me.block k hk).2.1), HQ7.out.sb, HQ7.out.bm⟩
    clear hst hub hne k8 k9 d8 d9 u8 u9 z8 z9 HO7 HQ7 HO6 HQ6 HYB7 HZB7 HB7 HUB
    generalize ((w7.setCell ⟨b9, 8, none⟩ (.int .i64 x.status)).setCell ⟨b9, 9, none⟩ (.int .i64 x.code)).drew = w8 at *
    by_cases c3 : (k : Int) = 45
    · have hc : (x.stack = [] ∧ y.code = -4) ∨ ∃ l p, x.stack = l ++ [p] ∧ p ≠ 0 ∧ y.code = p := by
        rcases HF.out with (h | ⟨h, -⟩ | ⟨h, -⟩ | ⟨-, h1, h2⟩) | ⟨-, h1, h2⟩
        · exact absurd (HCY.out.symm.trans h) (by decide)
        · omega
        · omega
        · right
          have hp : 0 < x.stack.length := by
            rcases Nat.eq_zero_or_pos x.stack.length with h | h
            · rw [List.eq_nil_of_length_eq_zero h] at h1; exact absurd rfl h1
            · exact h
          obtain ⟨l, e1, e2⟩ := nth_last (p := nth x.stack 0) rfl hp
          exact ⟨l, _, e1, h1, by rw [h2]⟩
        · exact .inl ⟨h1, by rw [h2]⟩
      rcases hc with ⟨h1, h2⟩ | ⟨l, p, h1, h2, h3⟩
      · have hlen : x.stack.length = 0 := by rw [h1]; rfl
        have f9 : w8.cell? ⟨b8, 9, none⟩ = some (.int .i64 (-4)) := by rw [← h2]; exact whole_cell HZB8.out rfl
        have f2 : w8.cell? ⟨b7, 2, none⟩ = some (.slice s1 0 k1) := by rw [← hlen]; exact whole_cell HYB8.out rfl
        clear h1 h2 hlen
        go_wp2_with fail
        go_quiet (fail)
        go_wp2
        go_ret
        exact ⟨rfl, Inn.below_drewN HB8.out _ (Nat.le_refl _)⟩
      · obtain ⟨M, hM⟩ : ∃ M, l.length = M := ⟨_, rfl⟩
        have hlen : x.stack.length = M + 1 := by rw [h1, List.length_append, hM]; rfl
        obtain ⟨N, hN⟩ : ∃ N, M + 1 = N := ⟨_, rfl⟩
        rw [hN] at hlen
        obtain ⟨gs, e1, hcs⟩ := owns_cells HO8.out.st (by omega)
        have f5 : w8.cell? ⟨gs, M, none⟩ = some (.int .i64 p) := hcs M p (by rw [h1, ← hM]; simp)
        have f9 : w8.cell? ⟨b8, 9, none⟩ = some (.int .i64 p) := by rw [← h3]; exact whole_cell HZB8.out rfl
        have f2 : w8.cell? ⟨b7, 2, none⟩ = some (.slice (some ⟨gs, 0, none⟩) N k1) := by rw [← hlen, ← e1]; exact whole_cell HYB8.out rfl
        have m0 : (0 : Int) ≤ (M : Int) := Int.natCast_nonneg _
        have m1 : (M : Int) < (N : Int) := by omega
        have m3 : ¬ (N : Int) = 0 := by omega
        have m4 : (0 : Int) < (N : Int) := by omega
        have m5 : ¬ N = 0 := by omega
        have m6 : 0 < N := by omega
        have hN48 : N ≤ 48 := by rw [← hlen]; exact HX.out.2.1.stack
        have m2 : IntKind.i64.wrap ((N : Int) - 1) = (M : Int) := (IntWalk.i64_in _ (by omega)).trans (by omega)
        clear h1 h3 hlen hN e1 hcs hM
        go_wp2_with fail
        go_quiet (fail)
        go_wp2
        go_ret
        exact ⟨by simp [h2], Inn.below_drewN HB8.out _ (Nat.le_refl _)⟩
    · obtain ⟨c, hc1, hc2, hyx⟩ : ∃ c : Int, -57 ≤ c ∧ c < 0 ∧ y = { x with status := 2, code := c } := by
        rcases HF.out with (h | ⟨h, h'⟩ | ⟨-, h⟩ | ⟨h, -⟩) | ⟨h, -⟩
        · exact absurd (HCY.out.symm.trans h) (by decide)
        · exact absurd (HCY.out.symm.trans h') (by decide)
        · exact h
        · omega
        · omega
      have hyst : Mach.step y = y := by
        unfold Mach.step
        rw [if_pos (by rw [HCY.out]; decide)]
      have n1 : y.code < 0 := by rw [hyx]; exact hc2
      have n2 : ¬ y.code < -57 := by rw [hyx]; show ¬ c < -57; omega
      have n3 : -57 ≤ y.code := by omega
      have hdr : Below w8.heap.size w8 w8.drew := (Below.refl _ _).drew
      have HUR : ReadsM w8.drew (.agg (cells10 y.ip y.handler (.slice t1 y.stack.length d1) (.slice t2 y.back.length d2) (.slice t3 y.mem.length d3) y.out y.inp y.read x.status x.code)) x := by
        have h := HQ8.out.below hdr
        rw [hyx] at h ⊢
        exact (OwnsL.readsM (m := x) ⟨h.st, h.bk, h.me, h.sb, h.bm⟩)
      have S1 := Lib.hid (sameState_any HUR (HO8.out.below hdr).readsM (by have := HX.out.2.1.stack; omega) (by have := HX.out.2.1.back; omega) (by have := HX.out.2.1.mem; omega))
      have HDR := Lib.hid hdr
      have HYS := Lib.hid hyst
      have B8 : w8.drew.heap[b8]? = _ := HZB8.out
      have B7 : w8.drew.heap[b7]? = _ := HYB8.out
      have B9 : w8.drew.heap[b9]? = _ := HUB8.out
      obtain ⟨a0, a1, a2, a3, a4, a5, a6, a7, a8, a9⟩ := ten B7
      obtain ⟨e0, e1, e2, e3, e4, e5, e6, e7, e8, e9⟩ := ten B9
      have HB8' := Lib.hid B8
      clear hyx hc1 hc2 hdr HUR hyst B7 B8 B9
      go_upto_region 11 with fail
      go_region_with (first
        | (go_at_call 19; refine S2.out.mono ?_; rintro e wb ⟨rfl, hb⟩; have HBF := Lib.hid (HBBA.out.trans (hb.mono HBBA.out.size)); clear hb)
        | (go_at_call 19; refine S1.out.mono ?_; rintro e w9 ⟨rfl, hb⟩; have HB9 := Lib.hid hb; have HZ9 := Lib.hid (box_on HB8'.out hb); have HQ9 := Lib.hid ((HQ8.out.below HDR.out).below hb); have HBB9 := Lib.hid ((HB8.out.trans (HDR.out.mono HB8.out.size)).trans (hb.mono (Nat.le_trans HB8.out.size HDR.out.size))); have R2 := Lib.hid (innStep_any HQ9.out.readsM HY.out.2.1 HY.out.2.2.1 HY.out.2.2.2 (fun wc hbc => HE.out wc (HBB9.out.trans (hbc.mono HBB9.out.size)))); rw [HYS.out] at R2; obtain ⟨g0, g1, g2, g3, g4, g5, g6, g7, g8, g9⟩ := ten HZ9.out; clear hb)
        | (go_at_call 16; refine R2.out.mono ?_; rintro e wa hgm; obtain ⟨v1, r1, v2, r2, v3, r3, rfl, ho, hb⟩ := GivesM.known hgm; have HZA := Lib.hid (box_on HZ9.out hb); have HBBA := Lib.hid (HBB9.out.trans (hb.mono HBB9.out.size)); have S2 := Lib.hid (sameState_any ho.readsM (HQ9.out.below hb).readsM (by have := HY.out.2.1.stack; omega) (by have := HY.out.2.1.back; omega) (by have := HY.out.2.1.mem; omega)); obtain ⟨l0, l1, l2, l3, l4, l5, l6, l7, l8, l9⟩ := ten HZA.out; clear ho hb hgm))
      all_goals
        go_wp2
        go_ret
        exact ⟨rfl, HBF.out⟩
  · have hd : decide (y.status = 0) || decide ((k : Int) = 0) = true := by
      rcases HF.out with (h | ⟨h, -⟩ | ⟨-, c, -, -, h⟩ | ⟨-, -, h⟩) | ⟨-, -, h⟩
      · simp [h]
      · simp [h]
      all_goals exact absurd (by rw [h]) cy
    by_cases c3 : y.status = 0
    · go_wp2
      go_ret
      exact ⟨rfl, HB6.out⟩
    · have c4 : (k : Int) = 0 := by simpa [c3] using hd
      clear hd
      go_wp2
      go_ret
      exact ⟨rfl, HB6.out⟩
theorem main (a : Int) (vs : Value) (st : List Int) (vb : Value) (bk : List Int) (W : World) (_ : (Lit.int .i64 a).wf = true) (h1 : ReadsC W vs st ∧ ∀ x ∈ st, (Lit.int .i64 x).wf = true) (h2 : ReadsC W vb bk ∧ ∀ x ∈ bk, (Lit.int .i64 x).wf = true) (hE : ∀ wc, Below W.heap.size W wc → Tabs wc) :
    Calls Tryz.prog 8 #[.int .i64 a, vs, vb] W (Yes W) := by
  by_cases c : a < 0
  · exact none_such a vs vb W hE (.inl c)
  by_cases c1 : 48 ≤ a
  · exact none_such a vs vb W hE (.inr ⟨c, c1⟩)
  obtain ⟨a, rfl⟩ := Int.eq_ofNat_of_zero_le (Int.not_lt.1 c)
  exact fine a (by omega) vs vb st bk W h1.1 h2.1 (fun z hz => Cell.in_of_wf (h1.2 z hz)) (fun z hz => Cell.in_of_wf (h2.2 z hz)) hE
end Go.Proofs.YthnciokmomgfeaaGreatDoor.InnerFaults

namespace Go.Proofs.YthnciokmomgfeaaGreatDoor.innerFaults
open Inn Mach Mem
open Go.ChangeShapes Go.WideShapes Go.ChangeAt Go.RowKit
set_option linter.unusedVariables false
set_option linter.unusedSimpArgs false

theorem own : ownKnob Tryz.prog.godebug = none := by kernel_rfl
theorem laidOut : laidOutB Tryz.prog = true := by kernel_rfl
abbrev laid : List (String × DataW Unit) := laidL9
theorem laid_is : Rows.innerFaultsRow.laid = laid := rfl
set_option maxRecDepth 100000 in
theorem lifted (os : Os) (started : os.Started) (H : Type) (enc : TypeId × Value → H) :
    ReturnsInHanded {} Tryz.checked os 8 .any (fun w args => (Rows.innerFaultsSpec.pre enc Tryz.prog Tryz.f8 Rows.innerFaultsRow.domain false w args ∧ laidMetH Tryz.prog laid w) ∧ sizedMet enc Tryz.prog Tryz.f8 (OpenSpec.ofChange Rows.innerFaultsSpec) false w args)
      (Rows.innerFaultsSpec.post enc Tryz.prog Tryz.f8 false true false false) := by
  refine returnsInHanded_of_change_and (C := Tryz.checked) (X := fun w _ => laidMetH Tryz.prog laid w) (fun _ _ _ hh h => h.of_heap hh) own started (by kernel_rfl) Tryz.func8
    (Inn.witness_ref (enc := enc) (C := Tryz.checked) (os := os) (X := fun w _ => laidMetH Tryz.prog laid w) false (Inn.laidWorld os) #[.int .i64 0, .slice none 0 0, .slice none 0 0] 8 rfl (by kernel_rfl) (by kernel_rfl) (by kernel_rfl) (by kernel_rfl) (by kernel_rfl) (Inn.laidWorld_met os _)) ?_
  intro W base args ds gs before hval0 hW _ _ hL _
  have hval : ∀ (j : Nat) t v, Tryz.f8.params[j]? = some t → args[j]? = some v → Value.okWide Tryz.prog W .any base t v := hval0
  have hW' := hW
  obtain ⟨p, q, hA0, hV, rfl, hfz, hnd⟩ := hW
  have hA : DataW.TrodAll enc Tryz.prog W 0 (fun _ => true) true Tryz.f8.params.toList args.toList ds p := hA0
  rw [Tryz.params8] at hA hval
  obtain ⟨v0, vs0, d0, ds0, p0, q0, hargs, rfl, rfl, h0, r0⟩ := trodAll_cons hA
  obtain ⟨v1, vs1, d1, ds1, p1, q1, rfl, rfl, rfl, h1, r1⟩ := trodAll_cons r0
  obtain ⟨v2, vs2, d2, ds2, p2, q2, rfl, rfl, rfl, h2, r2⟩ := trodAll_cons r1
  obtain ⟨rfl, rfl, rfl⟩ := trodAll_nil r2
  obtain rfl : args = #[v0, v1, v2] := by cases args; simp_all
  obtain ⟨rfl, rfl⟩ := trodVars_none hV
  obtain ⟨a0, rfl, rfl, rfl, w0⟩ := open_int Tryz.underlying3 (hval 0 3 v0 rfl rfl) h0
  obtain ⟨xs1, l1⟩ := readsCapOf (hval 1 22 v1 rfl rfl) h1
  obtain ⟨xs2, l2⟩ := readsCapOf (hval 2 22 v2 rfl rfl) h2
  clear hA0 hval0
  simp only [List.append_nil] at hW'
  have hlt1 : ∀ x ∈ p1, x.block < W.heap.size := fun x hx => by simpa using hW'.lt x (by simp [hx])
  have hlt2 : ∀ x ∈ p2, x.block < W.heap.size := fun x hx => by simpa using hW'.lt x (by simp [hx])
  refine (InnerFaults.main a0 v1 xs1 v2 xs2 W w0 l1 l2 (tabs_on hL)).mono fun e W' ⟨he, hg⟩ => ?_
  subst he
  exact ⟨_, rfl, _, _, _, [], _, [], hW', (trodAll_cons_mk (shut_bool Tryz.underlying4 _) trodAll_mk0), (trodAll_cons_mk (shut_int Tryz.underlying3 w0) (trodAll_cons_mk (Below.trod laidOut (by kernel_rfl) (of_decide_eq_true (by kernel_rfl)) h1 hg hlt1) (trodAll_cons_mk (Below.trod laidOut (by kernel_rfl) (of_decide_eq_true (by kernel_rfl)) h2 hg hlt2) trodAll_mk0))), rfl, hg.frame _, fun h => by cases h⟩

theorem over : Rows.innerFaultsRow.holds Tryz.pinned (OpenSpec.ofChange Rows.innerFaultsSpec) :=
  OpenClaim.holds_of_wide 8 Tryz.f8 rfl rfl rfl rfl rfl rfl rfl ⟨rfl, rfl, rfl, rfl, rfl⟩ rfl rfl rfl rfl rfl (by kernel_rfl) Tryz.func8 (by kernel_rfl)
    (of_decide_eq_true (by kernel_rfl)) (by unfold Func.isWrapper; first | (rw [if_pos (by decide +kernel)]; kernel_rfl) | (rw [if_neg (by decide +kernel)]; exact ⟨rfl, rfl⟩))
    (fun os started H enc _ => lifted os started H enc)

theorem proved : Rows.InnerFaultsCardSaid :=
  Claim7.holds_tied_plain_at .later [] Rows.innerFaultsCard.laidKinds true Rows.innerFaultsCard.stood.harness Rows.innerFaultsCard.stood.looks
    over (fun _ h => by cases h) (by kernel_rfl) (fun _ h => by cases h) innerFaults_row_tie rfl ⟨rfl, rfl⟩ (by kernel_rfl) rfl
    (fun f fn hf hfn => by
      obtain rfl : f = 8 := Option.some.inj ((show Tryz.prog.funcNamed "holloway/hollowaylaw9.InnerFaults" = some 8 by kernel_rfl).symm.trans hf) |>.symm
      obtain rfl : fn = Tryz.f8 := (Option.some.inj (Tryz.func8.symm.trans hfn)).symm
      exact ⟨by kernel_rfl, fun j t ht => by
        rw [Tryz.params8] at ht
        have hm : t ∈ [3, 22, 22] := by
          rcases Array.mem_of_getElem? ht with h
          simpa using h
        simp only [List.mem_cons, List.not_mem_nil, or_false] at hm
        rcases hm with rfl | rfl | rfl
        · exact (show Tryz.prog.wantsStandIn 3 = false by kernel_rfl)
        · exact (show Tryz.prog.wantsStandIn 22 = false by kernel_rfl)
        · exact (show Tryz.prog.wantsStandIn 22 = false by kernel_rfl)⟩)
    (by kernel_rfl)
#print axioms proved
end Go.Proofs.YthnciokmomgfeaaGreatDoor.innerFaults
