/- PileBack: the walk. -/
import Derived.Test.YtpklbffphdfpdaaPileAlive
import Derived.Test.YtpklbffphdfpdaaLent
namespace Go.Proofs.Ytpklbffphdfpdaa
open Go.RowKit Book Mem
/-- what is done to a stack that was made in a call leaves alone what was there ahead of the call -/
theorem Mem.PileAt.past {W w w' : World} {p g room : Nat} {cs : List Int} (h : PileAt w W.heap.size p g room cs) (hb : Below W.heap.size W w) {bs : List Nat} (hbs : ∀ k ∈ bs, k ∈ foot p g) (hs : Stirred w w' bs) : Below W.heap.size W w' :=
  hb.trans (hs.below (fun k hk => (h.foot_lt k (hbs k hk)).1) hb.size)
end Go.Proofs.Ytpklbffphdfpdaa
namespace Go.Proofs.Ytpklbffphdfpdaa.PileBack
open Go.RowKit Book Mem
set_option linter.unusedSimpArgs false
set_option linter.unusedVariables false
set_option maxHeartbeats 4000000 in
set_option maxRecDepth 100000 in
theorem main (most : Int) (v1 : Value) (f : List Int) (v2 : Value) (l : List Int) (W : World) (h1 : Reads W v1 f) (h2 : Reads W v2 l) (hf : f.length ≤ 60) (hl : l.length ≤ 60) :
    Calls Try.prog 4 #[.int .i64 most, v1, v2] W (Yes W) := by
  have HR1 := Lib.hid h1
  have HR2 := Lib.hid h2
  obtain ⟨o1, c1, rfl, _⟩ := h1
  obtain ⟨o2, c2, rfl, _⟩ := h2
  obtain ⟨room, hroom⟩ : ∃ room : Nat, (room : Int) = min (max most 0) 1000 := ⟨(min (max most 0) 1000).toNat, by omega⟩
  have HM := Lib.hid hroom
  obtain ⟨n1, hn1⟩ : ∃ n, f.length = n := ⟨_, rfl⟩
  obtain ⟨n2, hn2⟩ : ∃ n, l.length = n := ⟨_, rfl⟩
  have HN := Lib.hid (And.intro hn1 hn2)
  rw [hn1] at HR1 hf ⊢
  rw [hn2] at HR2 hl ⊢
  clear hroom hn1 hn2
  have C := Lib.hid (alive_any W)
  have e1 : decide (60 < (n1 : Int)) = false := decide_eq_false (by omega)
  have e2 : decide (60 < (n2 : Int)) = false := decide_eq_false (by omega)
  go_enter Try.func4, Try.ntmps4
  go_wp2_with fail
  refine C.out.mono ?_
  rintro e w1 ⟨rfl, hb⟩
  have HB1 := Lib.hid hb
  clear C hb e1 e2
  have C := Lib.hid (new_any most room HM.out (.slice o1 n1 c1) f w1 (HR1.out.below HB1.out))
  go_wp2_with fail
  refine C.out.mono ?_
  rintro e w2 ⟨p, g, rfl, hP, hb⟩
  have HP2 := Lib.hid (hP.from HB1.out.size)
  have HB2 := Lib.hid (HB1.out.trans (hb.mono HB1.out.size))
  clear C hP hb
  obtain ⟨cs, hcs⟩ : ∃ cs, f.take room = cs := ⟨_, rfl⟩
  rw [hcs] at HP2
  obtain ⟨n, hn⟩ : ∃ n, cs.length = n := ⟨_, rfl⟩
  have hn60 : n ≤ 60 := by rw [← hn, ← hcs, List.length_take]; have := HN.out.1; omega
  have HNN := Lib.hid hn
  clear hcs hn
  have C := Lib.hid (all_any HP2.out)
  go_wp2_with fail
  refine C.out.mono ?_
  rintro e w3 ⟨a, rfl, hO, hb⟩
  obtain ⟨ao, ac, e⟩ := hO.slice
  rw [vals_length, HNN.out] at e
  subst e
  have HO3 := Lib.hid hO
  have HP3 := Lib.hid (HP2.out.below hb)
  have HB3 := Lib.hid (HB2.out.trans (hb.mono HB2.out.size))
  have HA3 := Lib.hid (fun k (hk : blk (.slice ao n ac) = some k) (hm : k ∈ foot p g) => (show False by have h1 := (hO.block k hk).1; have h2 := (HP2.out.foot_lt k hm).2; omega))
  clear C hO hb HP2 HB2 HB1
  by_cases hfit : n + n2 ≤ room
  · have C := Lib.hid (push_yes HP3.out (.slice o2 n2 c2) l (fun w' hs => HR2.out.below (HP3.out.past HB3.out (fun _ h => h) hs)) (by rw [HNN.out, HN.out.2]; exact hfit))
    go_wp2_with fail
    refine C.out.mono ?_
    rintro e w4 ⟨rfl, hP, hs⟩
    have HP4 := Lib.hid hP
    have HB4 := Lib.hid (HP3.out.past HB3.out (fun _ h => h) hs)
    have HO4 := Lib.hid (HO3.out.touch hs (fun k hk hm => HA3.out k hk hm))
    clear C hP hs HP3 HB3 HO3
    have C := Lib.hid (pop_yes HP4.out HB4.out.size n2 n (by rw [List.length_append, HNN.out, HN.out.2]))
    go_wp2_with fail
    refine C.out.mono ?_
    rintro e w5 ⟨v, rfl, hO, hP, hs⟩
    rw [List.drop_left' HNN.out] at hO
    rw [List.take_left' HNN.out] at hP
    have HV5 := Lib.hid hO
    have HP5 := Lib.hid hP
    have HB5 := Lib.hid (HP4.out.past HB4.out (fun _ h => h) hs)
    have HO5 := Lib.hid (HO4.out.touch hs (fun k hk hm => HA3.out k hk hm))
    obtain ⟨vo, vc, e⟩ := hO.slice
    rw [vals_length, HN.out.2] at e
    subst e
    clear C hP hs hO HP4 HB4 HO4
    have C := Lib.hid (sameReads_any (.slice vo n2 vc) (.slice o2 n2 c2) l w5 (Reads.of_owns HV5.out) (HR2.out.below HB5.out) (by rw [HN.out.2]; omega))
    go_wp2_with fail
    refine C.out.mono ?_
    rintro e w6 ⟨rfl, q, hq⟩
    have hb : Below w5.heap.size w5 w6 := by rw [hq]; exact bk_below_drewN _ _ _
    have HP6 := Lib.hid (HP5.out.below hb)
    have HB6 := Lib.hid (HB5.out.trans (hb.mono HB5.out.size))
    have HO6 := Lib.hid (HO5.out.below hb)
    clear C hq hb HP5 HB5 HO5 HV5
    have C := Lib.hid (all_any HP6.out)
    go_wp2_with fail
    refine C.out.mono ?_
    rintro e w7 ⟨b, rfl, hO, hb⟩
    have C := Lib.hid (sameReads_any b (.slice ao n ac) cs w7 (Reads.of_owns hO) (Reads.of_owns (HO6.out.below hb)) (by rw [HNN.out]; omega))
    have HB7 := Lib.hid (HB6.out.trans (hb.mono HB6.out.size))
    obtain ⟨bo, bc, e⟩ := hO.slice
    rw [vals_length, HNN.out] at e
    subst e
    clear hO hb
    go_wp2_with fail
    refine C.out.mono ?_
    rintro e w8 ⟨rfl, q, hq⟩
    have hb : Below w7.heap.size w7 w8 := by rw [hq]; exact bk_below_drewN _ _ _
    have HB8 := Lib.hid (HB7.out.trans (hb.mono HB7.out.size))
    clear C hq hb
    go_wp2
    go_ret
    exact ⟨rfl, HB8.out⟩
  · have C := Lib.hid (push_no HP3.out (.slice o2 n2 c2) n2 ⟨_, _, rfl⟩ (by omega) (by rw [HNN.out]; exact hfit))
    have hlast : most < (n : Int) + (n2 : Int) := by have := HM.out; omega
    go_wp2_with fail
    refine C.out.mono ?_
    rintro e wz ⟨rfl, hwz⟩
    subst wz
    clear C
    have C := Lib.hid (all_any HP3.out)
    go_wp2_with fail
    refine C.out.mono ?_
    rintro e w7 ⟨b, rfl, hO, hb⟩
    have C := Lib.hid (sameReads_any b (.slice ao n ac) cs w7 (Reads.of_owns hO) (Reads.of_owns (HO3.out.below hb)) (by rw [HNN.out]; omega))
    have HB7 := Lib.hid (HB3.out.trans (hb.mono HB3.out.size))
    obtain ⟨bo, bc, e⟩ := hO.slice
    rw [vals_length, HNN.out] at e
    subst e
    clear hO hb
    go_wp2_with fail
    refine C.out.mono ?_
    rintro e w8 ⟨rfl, q, hq⟩
    have hb : Below w7.heap.size w7 w8 := by rw [hq]; exact bk_below_drewN _ _ _
    have HB8 := Lib.hid (HB7.out.trans (hb.mono HB7.out.size))
    clear C hq hb
    go_wp2
    go_ret
    exact ⟨rfl, HB8.out⟩
theorem early (most : Int) (o1 : Option Addr) (n1 c1 : Nat) (o2 : Option Addr) (n2 c2 : Nat) (W : World) (h : 60 < n1 ∨ 60 < n2) :
    Calls Try.prog 4 #[.int .i64 most, .slice o1 n1 c1, .slice o2 n2 c2] W (Yes W) := by
  have C := Lib.hid (alive_any W)
  by_cases h1 : 60 < n1
  · have e1 : decide (60 < (n1 : Int)) = true := decide_eq_true (by omega)
    clear h h1
    go_enter Try.func4, Try.ntmps4
    go_wp2_with fail
    refine C.out.mono ?_
    rintro e w1 ⟨rfl, hb⟩
    have HB := Lib.hid hb
    clear hb C
    go_wp2
    go_ret
    exact ⟨rfl, HB.out⟩
  · have e1 : decide (60 < (n1 : Int)) = false := decide_eq_false (by omega)
    have e2 : decide (60 < (n2 : Int)) = true := decide_eq_true (by omega)
    clear h h1
    go_enter Try.func4, Try.ntmps4
    go_wp2_with fail
    refine C.out.mono ?_
    rintro e w1 ⟨rfl, hb⟩
    have HB := Lib.hid hb
    clear hb C
    go_wp2
    go_ret
    exact ⟨rfl, HB.out⟩
theorem walk (most : Int) (v1 : Value) (f : List Int) (v2 : Value) (l : List Int) (W : World) (w0 : (Lit.int .i64 most).wf = true) (h1 : Reads W v1 f ∧ ∀ x ∈ f, (Lit.int .i64 x).wf = true) (h2 : Reads W v2 l ∧ ∀ x ∈ l, (Lit.int .i64 x).wf = true) :
    Calls Try.prog 4 #[.int .i64 most, v1, v2] W (Yes W) := by
  by_cases h : 60 < f.length ∨ 60 < l.length
  · obtain ⟨⟨o1, c1, rfl, _⟩, _⟩ := h1
    obtain ⟨⟨o2, c2, rfl, _⟩, _⟩ := h2
    exact early most _ _ _ _ _ _ W h
  · exact main most v1 f v2 l W h1.1 h2.1 (by omega) (by omega)
end Go.Proofs.Ytpklbffphdfpdaa.PileBack
