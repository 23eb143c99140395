/- 'plain' of hollowaylaw9: a machine at a place of no code but what is laid there. -/
import Derived.Test.YthnciokmomgfeaaGreatDoorG25
import Derived.Test.YthnciokmomgfeaaGreatDoorG24
import Derived.Deep.RegionHeld3
import Derived.Deep.DeepCutAuto
import Derived.Test.YthnciokmomgfeaaGreatDoorG20
import Derived.BigQuiet
import Derived.Deep.QuietTactic
import Derived.IntWalk
import Derived.Test.YthnciokmomgfeaaGreatDoorG22
import Derived.Deep.RegionWith
namespace Go.Proofs.YthnciokmomgfeaaGreatDoor.Inn
open Go.RowKit Book Mem Mach
set_option linter.unusedVariables false
set_option linter.unusedSimpArgs false
/-- what 'plain' answers -/
def plainM (code st bk : List Int) : M := T (plainX ⟨#[]⟩ (plainMem code)) 200 (st.take 40) (bk.take 40)
/-- .. the first k cells of its code being laid -/
def plainP (code st bk : List Int) (k : Nat) : M := T (plainX ⟨#[]⟩ (lay (bootMem 48 400) 200 (code.take k))) 200 (st.take 40) (bk.take 40)
/-- its box, while its stacks are copied -/
structure PS (w0 : World) (B b gm cap : Nat) (vs vb : Value) (x : M) (st bk : List Int) (o1 o2 : Option Value) (w : World) : Prop where
  mb : MB w B b gm 400 cap vs vb x
  hb : Below B w0 w
  s1 : ∀ p, o1 = some p → Owns w B 3 p (vals st) ∧ blk p ≠ some b ∧ blk p ≠ some gm ∧ ∀ k, blk p = some k → blk vb ≠ some k
  s2 : ∀ p, o2 = some p → Owns w B 3 p (vals bk) ∧ blk p ≠ some b ∧ blk p ≠ some gm
  ap : ∀ p p', o1 = some p → o2 = some p' → ∀ k, blk p = some k → blk p' ≠ some k
section
variable {w0 w w' : World} {B b gm cap : Nat} {vs vb v : Value} {x : M} {st bk : List Int} {o1 o2 : Option Value}
theorem PS.off (h : PS w0 B b gm cap vs vb x st bk o1 o2 w) (hn : ∀ k, blk v = some k → w.heap.size ≤ k) : blk v ≠ some b ∧ blk v ≠ some gm :=
  ⟨fun e => by have h1 := hn _ e; have h2 := whole_lt h.mb.box; omega, fun e => by have h1 := hn _ e; have h2 := (h.mb.own.me.block _ h.mb.row).2.1; omega⟩
theorem PS.set1 (h : PS w0 B b gm cap vs vb x st bk none o2 w) (ho : Owns w' B 3 v (vals st)) (ht : Stirred w w' []) (hn : ∀ k, blk v = some k → w.heap.size ≤ k) : PS w0 B b gm cap vs vb x st bk (some v) o2 w' := by
  have hbw := ht.below (B := w.heap.size) (fun k hk => by cases hk) (Nat.le_refl _)
  refine ⟨h.mb.on hbw, h.hb.trans (hbw.mono h.mb.under), fun p e => ?_, fun p e => ?_, fun p p' e e' k hk hk' => ?_⟩
  · obtain rfl := Option.some.inj e
    exact ⟨ho, (h.off hn).1, (h.off hn).2, fun k hk hk' => by have h1 := hn k hk; have h2 := (h.mb.own.bk.block k hk').2.1; omega⟩
  · exact ⟨(h.s2 p e).1.below hbw, (h.s2 p e).2⟩
  · obtain rfl := Option.some.inj e
    have h1 := hn k hk
    have h2 := ((h.s2 p' e').1.block k hk').2.1
    omega
theorem PS.set2 (h : PS w0 B b gm cap vs vb x st bk o1 none w) (ho : Owns w' B 3 v (vals bk)) (ht : Stirred w w' []) (hn : ∀ k, blk v = some k → w.heap.size ≤ k) : PS w0 B b gm cap vs vb x st bk o1 (some v) w' := by
  have hbw := ht.below (B := w.heap.size) (fun k hk => by cases hk) (Nat.le_refl _)
  refine ⟨h.mb.on hbw, h.hb.trans (hbw.mono h.mb.under), fun p e => ?_, fun p e => ?_, fun p p' e e' k hk hk' => ?_⟩
  · exact ⟨(h.s1 p e).1.below hbw, (h.s1 p e).2⟩
  · obtain rfl := Option.some.inj e
    exact ⟨ho, h.off hn⟩
  · obtain rfl := Option.some.inj e'
    have h1 := hn k hk'
    have h2 := ((h.s1 p e).1.block k hk).2.1
    omega
theorem PS.four (h : PS w0 B b gm cap vs vb x st bk o1 o2 w) : w.cell? ⟨b, 2, none⟩ = some vs ∧ w.cell? ⟨b, 3, none⟩ = some vb ∧ w.frozen? ⟨b, 2, none⟩ = false ∧ w.frozen? ⟨b, 3, none⟩ = false :=
  ⟨whole_cell h.mb.box rfl, whole_cell h.mb.box rfl, whole_frozen h.mb.box 2, whole_frozen h.mb.box 3⟩
/-- both are put into the box -/
theorem PS.done {v1 v2 : Value} (h : PS w0 B b gm cap vs vb x st bk (some v1) (some v2) w) : MB ((w.setCell ⟨b, 2, none⟩ v1).setCell ⟨b, 3, none⟩ v2) B b gm 400 cap v1 v2 { x with stack := st, back := bk } ∧ Below B w0 ((w.setCell ⟨b, 2, none⟩ v1).setCell ⟨b, 3, none⟩ v2) := by
  obtain ⟨h1, h2, h3, h3'⟩ := h.s1 v1 rfl
  obtain ⟨h4, h5, h6⟩ := h.s2 v2 rfl
  have m1 := h.mb.stack h1 h2 h3 h3'
  have m2 := m1.back (h4.touch (Stirred.setCell w ⟨b, 2, none⟩ v1) (fun k hk hm => by rw [List.mem_singleton] at hm; subst hm; exact h5 hk)) h5 h6 (h.ap v1 v2 rfl rfl)
  exact ⟨m2, (h.hb.trans (h.mb.belowB 2 v1)).trans (m1.belowB 3 v2)⟩
end
/-- what is answered, behind a store into the result's box -/
theorem plain_end {w wr wf : World} {B r gm cap : Nat} {v1 v2 : Value} {m : M} (ho : OwnsL wr B v1 v2 (.slice (some ⟨gm, 0, none⟩) 400 cap) m) (ht : Stirred wr wf [r]) (hw : Below w.heap.size w wr) (hr : r < B) (hB : w.heap.size ≤ B) (hwr : w.heap.size = r) :
    GivesM m w (.returned (.agg (cells10 m.ip m.handler v1 v2 (.slice (some ⟨gm, 0, none⟩) 400 cap) m.out m.inp m.read m.status m.code))) wf := by
  have far : ∀ {v : Value} {xs : List Value}, Owns wr B 3 v xs → Owns wf w.heap.size 3 v xs := fun h => (h.touch ht (fun k hk hm => by have := (h.block k hk).1; rw [List.mem_singleton] at hm; omega)).from hB
  exact ⟨_, rfl, ⟨_, _, _, rfl, ⟨far ho.st, far ho.bk, far ho.me, ho.sb, ho.bm⟩⟩, hw.trans (ht.below (fun k hk => by rw [List.mem_singleton.1 hk]; omega) hw.size)⟩
set_option maxHeartbeats 8000000 in
set_option maxRecDepth 100000 in
theorem plain_any {w : World} {vc vs vb : Value} {code st bk : List Int} (hc : Reads w vc code) (hs : ReadsC w vs st) (hb : ReadsC w vb bk) :
    Calls Tryz.prog 34 #[vc, vs, vb] w (GivesM (plainM code st bk) w) := by
  obtain ⟨i0, HI1, HI2, HI3, HI4⟩ := int_facts
  have HI := Lib.hid (And.intro HI1 (And.intro HI2 (And.intro HI3 HI4)))
  clear HI1 HI2 HI3 HI4
  have HC := Lib.hid hc
  have HS := Lib.hid hs
  have HK := Lib.hid hb
  obtain ⟨co, cc, rfl, -⟩ := hc
  obtain ⟨-, so, sc, rfl, hsc⟩ := hs
  obtain ⟨-, bo, bc, rfl, hbc⟩ := hb
  obtain ⟨w1, r, hw1, hr, HR, HB1, HRG⟩ := new_box w zero10 24
  have C := Lib.hid (refBoot_any w1 400 400 (by decide) ⟨#[]⟩)
  obtain ⟨x0, hx0⟩ : ∃ x, bootM 400 ⟨#[]⟩ = x := ⟨_, rfl⟩
  rw [hx0] at C
  have HX0 := Lib.hid hx0
  have hmem : x0.mem.length = 400 := by rw [← hx0]; exact bootMem_length 48 400
  have hst0 : x0.stack.length = 0 := by rw [← hx0]; rfl
  have hbk0 : x0.back.length = 0 := by rw [← hx0]; rfl
  clear hx0
  go_enter Tryz.func34, Tryz.ntmps34
  go_upto_region 1 with fail
  clear hw1 hr
  go_wp2_with fail
  refine C.out.mono ?_
  rintro e w2 hgm
  obtain ⟨a1, c1, a2, c2, gm, cap, rfl, ho, hrow, hb2⟩ := GivesM.block (n := 400) hmem (by decide) hgm
  rw [hst0, hbk0] at ho ⊢
  obtain ⟨w3, b, hw3, hb3, HY, HBn, HG⟩ := new_box w2 (cells10 x0.ip x0.handler (.slice a1 0 c1) (.slice a2 0 c2) (.slice (some ⟨gm, 0, none⟩) 400 cap) x0.out x0.inp x0.read x0.status x0.code) 24
  have M3 := Lib.hid (MB.make (m := x0) hmem ho hrow hb2.size HY.out HBn.out HG.out)
  have HB3 := Lib.hid (hb2.trans (HBn.out.mono hb2.size))
  clear ho hgm hrow hb2 C HY hmem hst0 hbk0
  go_upto_region 2 with fail
  clear hw3 hb3
  obtain ⟨w4, hw4⟩ : ∃ w', w3.setCell ⟨b, 0, none⟩ (.int .i64 200) = w' := ⟨_, rfl⟩
  have M4 := Lib.hid (M3.out.ip 200)
  have HB4 := Lib.hid (HB3.out.trans (M3.out.belowB 0 (.int .i64 200)))
  rw [hw4] at M4 HB4
  obtain ⟨w5, hw5⟩ : ∃ w', w4.setCell ⟨b, 8, none⟩ (.int .i64 0) = w' := ⟨_, rfl⟩
  have M5 := Lib.hid (M4.out.status 0)
  have HB5 := Lib.hid (HB4.out.trans (M4.out.belowB 8 (.int .i64 0)))
  rw [hw5] at M5 HB5
  have t2 : w3.cell? ⟨b, 0, none⟩ = some (.int .i64 x0.ip) := whole_cell M3.out.box rfl
  have t3 := M3.out.fz 0
  have t4 : w4.cell? ⟨b, 8, none⟩ = some (.int .i64 x0.status) := whole_cell M4.out.box rfl
  have t5 := M4.out.fz 8
  obtain ⟨n1, hn1⟩ : ∃ n, st.length = n := ⟨_, rfl⟩
  obtain ⟨n2, hn2⟩ : ∃ n, bk.length = n := ⟨_, rfl⟩
  obtain ⟨n, hn⟩ : ∃ n, code.length = n := ⟨_, rfl⟩
  obtain ⟨N1, hN1⟩ : ∃ n, min n1 40 = n := ⟨_, rfl⟩
  obtain ⟨N2, hN2⟩ : ∃ n, min n2 40 = n := ⟨_, rfl⟩
  rw [hn1] at HS hsc ⊢
  rw [hn2] at HK hbc ⊢
  rw [hn] at HC ⊢
  have HN := Lib.hid (And.intro hn (And.intro hN1 hN2))
  have m1 : min (n1 : Int) 40 = (N1 : Int) := by omega
  have m2 : min (n2 : Int) 40 = (N2 : Int) := by omega
  have p1 : N1 ≤ sc := by omega
  have p2 : N2 ≤ bc := by omega
  have q1 : N1 ≤ 40 := by omega
  have q2 : N2 ≤ 40 := by omega
  have HBW := Lib.hid (show Below w.heap.size w w5 from HB1.out.trans (HB5.out.mono HB1.out.size))
  have HU1 := Lib.hid (show Reads w5 (.slice so N1 sc) (st.take 40) by
    have := (HS.out.1.below HBW.out).take N1 sc (by omega)
    rwa [show st.take N1 = st.take 40 by rw [← hN1, ← hn1, Nat.min_comm, ← List.take_eq_take_min]] at this)
  have HU2 := Lib.hid (show Reads w5 (.slice bo N2 bc) (bk.take 40) by
    have := (HK.out.1.below HBW.out).take N2 bc (by omega)
    rwa [show bk.take N2 = bk.take 40 by rw [← hN2, ← hn2, Nat.min_comm, ← List.take_eq_take_min]] at this)
  clear hsc hbc
  go_upto_region 3 with fail
  clear hw4 hw5 t2 t3 t4 t5
  have HPS : Hid (PS w5 w1.heap.size b gm cap (.slice a1 0 c1) (.slice a2 0 c2) { x0 with ip := 200, status := 0 } (st.take 40) (bk.take 40) none none w5.drew) := Lib.hid ⟨M5.out.drew, (Below.refl _ _).drew.mono M5.out.under, fun p e => (by cases e), fun p e => (by cases e), fun p p' e => (by cases e)⟩
  have HLE := Lib.hid (show (st.take 40).length = N1 ∧ (bk.take 40).length = N2 by rw [List.length_take, List.length_take]; omega)
  have HL := Lib.hid (show (st.take 40).length ≤ 40 ∧ (bk.take 40).length ≤ 40 by rw [List.length_take, List.length_take]; omega)
  have HB50 := Lib.hid (show Below w5.heap.size w5 w5.drew from (Below.refl _ _).drew)
  have HSZ := Lib.hid M5.out.under
  clear M3 M4 M5 HB3 HB4 hn1 hn2 hn hN1 hN2
  go_cut [] (fun wx => ∃ v1 v2, Hid (MB wx w1.heap.size b gm 400 cap v1 v2 { x0 with ip := 200, status := 0, stack := st.take 40, back := bk.take 40 } ∧ Below w1.heap.size w5 wx))
  case first =>
    obtain ⟨f1, f2, f3, f4⟩ := HPS.out.four
    go_region_law (first
      | (refine step_append_reads (by rfl) _ _ 22 (by rfl) w1.heap.size 3 i0 (.int .i64 0) 8 Tryz.underlying22 HI.out.1 HI.out.2.1 HI.out.2.2.1 HI.out.2.2.2 (by rfl) (.slice none 0 0) [] (by rfl) (Owns.nil _ _ _) (.slice so N1 sc) (st.take 40) (by rfl) (HU1.out.below (HB50.out)) (by have := HL.out; unfold maxLen; simp; omega) (by have := HL.out; simp; omega) HSZ.out ?_; intro v1 wn ho _ ht hn; have HB51 := Lib.hid (HB50.out.trans (ht.below (B := w5.heap.size) (fun _ h => by cases h) HB50.out.size)); have HPS := Lib.hid (HPS.out.set1 ho ht (blk_new hn)); clear ho ht hn)
      | (refine step_append_reads (by rfl) _ _ 22 (by rfl) w1.heap.size 3 i0 (.int .i64 0) 8 Tryz.underlying22 HI.out.1 HI.out.2.1 HI.out.2.2.1 HI.out.2.2.2 (by rfl) (.slice none 0 0) [] (by rfl) (Owns.nil _ _ _) (.slice bo N2 bc) (bk.take 40) (by rfl) (HU2.out.below HB51.out) (by have := HL.out; unfold maxLen; simp; omega) (by have := HL.out; simp; omega) (Nat.le_trans HSZ.out HB51.out.size) ?_; intro v2 wn ho _ ht hn; have HPS := Lib.hid (HPS.out.set2 ho ht (blk_new hn)); obtain ⟨f1, f2, f3, f4⟩ := HPS.out.four; obtain ⟨s1, k1, e1⟩ := (HPS.out.s1 _ rfl).1.slice; rw [vals_length, HLE.out.1] at e1; subst e1; obtain ⟨s2, k2, e2⟩ := (HPS.out.s2 _ rfl).1.slice; rw [vals_length, HLE.out.2] at e2; subst e2; clear ho ht hn))
    all_goals
      go_wp2_with fail
      go_meet
      exact ⟨_, _, HPS.out.done⟩
  case rest =>
    obtain ⟨v1, v2, HF⟩ := hcut
    have HM0 := Lib.hid (show MB wc w1.heap.size b gm 400 cap v1 v2 (plainP code st bk 0) by
      have := HF.out.1
      rw [← HX0.out] at this
      exact this)
    have HB6 := Lib.hid HF.out.2
    clear HF HPS HU1 HU2 HI HX0 HB50 m1 m2 p1 p2 q1 q2 HLE HL
    obtain ⟨K, hK⟩ : ∃ K, min n 150 = K := ⟨_, rfl⟩
    have HKK := Lib.hid hK
    clear hK
    go_wp2_with fail
    go_loopg [8] K (fun z f wr => ∃ k : Nat, z = K - k ∧ k ≤ K ∧ f = .int .i64 k ∧ Hid (MB wr w1.heap.size b gm 400 cap v1 v2 (plainP code st bk k)) ∧ Hid (Below w1.heap.size w5 wr))
    case atStart => exact ⟨0, rfl, Nat.zero_le _, rfl, HM0, HB6⟩
    case round =>
      obtain ⟨k, rfl, hk, rfl, HX, HY⟩ := hrel
      by_cases hlt : k < K
      · have c1 : k < n := by have := HKK.out; omega
        have c2 : k < 150 := by have := HKK.out; omega
        have e0 : (0 : Int) ≤ (k : Int) := Int.natCast_nonneg _
        have e1 : (k : Int) < (n : Int) := by omega
        obtain ⟨j, hj⟩ : ∃ j, 200 + k = j := ⟨_, rfl⟩
        have e2 : IntKind.i64.wrap (200 + (k : Int)) = (j : Int) := (IntWalk.i64_in _ (by omega)).trans (by omega)
        have e3 : (0 : Int) ≤ (j : Int) := Int.natCast_nonneg _
        have hj4 : j < 400 := by omega
        have e4 : (j : Int) < 400 := by omega
        have HBW2 := Lib.hid (show Below w.heap.size w wr from HBW.out.trans (HY.out.mono HB1.out.size))
        obtain ⟨cv, hcv⟩ : ∃ c, code[k]? = some c := ⟨_, List.getElem?_eq_getElem (by rw [HN.out.1]; exact c1)⟩
        obtain ⟨_, _, eC, hcell⟩ := HC.out
        simp only [Value.slice.injEq] at eC
        obtain ⟨rfl, -, -⟩ := eC
        obtain ⟨ad, rfl, hca⟩ := hcell k cv hcv
        have hadlt : (ad.add k).block < w.heap.size := World.block_lt_of_cell? w _ hca
        have hcw : wr.cell? (ad.add k) = some (.int .i64 cv) := by rw [HBW2.out.cell hadlt]; exact hca
        have d1 : wr.drew.cell? ⟨b, 4, none⟩ = some (.slice (some ⟨gm, 0, none⟩) 400 cap) := HX.out.c4
        have d2 : wr.drew.cell? (ad.add k) = some (.int .i64 cv) := hcw
        have hne : gm ≠ (ad.add k).block := by have h1 := (HX.out.own.me.block gm HX.out.row).1; have h2 := HB1.out.size; omega
        have HK1 := Lib.hid (And.intro (keep5 (j := j) (u := .int .i64 cv) HX.out.ne HX.out.c4) (show (wr.setCell ⟨gm, j, none⟩ (.int .i64 cv)).cell? (ad.add k) = some (.int .i64 cv) by rw [World.cell?_of_block (w := wr) ((Stirred.setCell wr ⟨gm, j, none⟩ (.int .i64 cv)).block _ (World.block_lt_of_cell? wr _ hcw) (by rw [List.mem_singleton]; exact fun e => hne e.symm))]; exact hcw))
        obtain ⟨z, q0⟩ := HX.out.some hj4
        have f0 := HX.out.gz hj4
        have HNX := Lib.hid (show MB (wr.setCell ⟨gm, j, none⟩ (.int .i64 cv)).drew w1.heap.size b gm 400 cap v1 v2 (plainP code st bk (k + 1)) by
          have h1 := (HX.out.store j cv).drew
          have h2 : (plainP code st bk (k + 1)) = { plainP code st bk k with mem := (plainP code st bk k).mem.set j cv } := by
            unfold plainP T plainX
            simp only
            rw [List.take_add_one (l := code), hcv, Option.toList_some, lay_snoc, List.length_take, Nat.min_eq_left (by rw [HN.out.1]; omega), hj]
          rw [h2]
          exact h1)
        have HNB := Lib.hid (show Below w1.heap.size w5 (wr.setCell ⟨gm, j, none⟩ (.int .i64 cv)).drew from (HY.out.trans (HX.out.belowG j (.int .i64 cv))).trans (HX.out.store j cv).belowD)
        clear hcell hcv hadlt hj HKK HX HY
        go_wp2_with fail
        go_region_held3 (fun w' => w'.cell? ⟨b, 4, none⟩ = some (.slice (some ⟨gm, 0, none⟩) 400 cap) ∧ w'.cell? (ad.add k) = some (.int .i64 cv))
          (first
            | with_reducible exact ⟨d1, d2⟩
            | with_reducible exact ⟨drewc HK1.out.1, drewc HK1.out.2⟩)
          (fail)
        all_goals go_wp2
        go_roundg (K - (k + 1))
        case measure => omega
        case rel => exact ⟨k + 1, rfl, by omega, by go_num, HNX, HNB⟩
      · obtain rfl : k = K := by omega
        have HBW2 := Lib.hid (show Below w1.heap.size w1 wr from HB5.out.trans HY.out)
        have HRR := Lib.hid ((Stirred.of_below HBW2.out []).whole HR.out List.not_mem_nil)
        have HBX := Lib.hid HX.out.box
        have HO := Lib.hid HX.out.own
        have HE : Hid (plainP code st bk k = plainM code st bk) := Lib.hid (by
          unfold plainP plainM plainMem
          have := HKK.out
          rw [← this, ← HN.out.1, Nat.min_comm, ← List.take_eq_take_min])
        rw [HE.out] at HBX HO
        obtain ⟨pm, hpm⟩ : ∃ x, plainM code st bk = x := ⟨_, rfl⟩
        have HPM := Lib.hid hpm
        rw [hpm] at HBX HO
        have HW := Lib.hid (show Below w.heap.size w wr from HB1.out.trans (HBW2.out.mono HB1.out.size))
        have HRL := Lib.hid (show r < w1.heap.size from whole_lt HR.out)
        obtain ⟨sv1, sk1, e1⟩ := HO.out.st.slice
        obtain ⟨sv2, sk2, e2⟩ := HO.out.bk.slice
        have HO1 := Lib.hid (And.intro (slice_one HO.out.st.slice) (slice_one HO.out.bk.slice))
        have HKK2 := HKK.out
        clear HX HE hpm HN e1 e2
        by_cases c1 : k < n
        · have c2 : ¬ k < 150 := by omega
          go_wp2_with (first
            | (refine ld_state (by rfl) _ rfl _ rfl _ _ HBX.out rfl ?_)
            | (refine st_state (by rfl) _ _ rfl r _ rfl rfl _ _ HRR.out rfl rfl (all_one HO1.out.1 HO1.out.2 rfl) ?_; intro wf hrf htf; have HRF := Lib.hid hrf; have HTF := Lib.hid htf; clear hrf htf))
          refine bodyPost_ret (results_cell_row rfl _ _ r _ _ _ _ rfl HRF.out Tryz.underlying24 rfl state_size) rfl ?_
          rw [HPM.out]
          exact plain_end HO.out HTF.out HW.out HRL.out HB1.out.size HRG.out
        · go_wp2_with (first
            | (refine ld_state (by rfl) _ rfl _ rfl _ _ HBX.out rfl ?_)
            | (refine st_state (by rfl) _ _ rfl r _ rfl rfl _ _ HRR.out rfl rfl (all_one HO1.out.1 HO1.out.2 rfl) ?_; intro wf hrf htf; have HRF := Lib.hid hrf; have HTF := Lib.hid htf; clear hrf htf))
          refine bodyPost_ret (results_cell_row rfl _ _ r _ _ _ _ rfl HRF.out Tryz.underlying24 rfl state_size) rfl ?_
          rw [HPM.out]
          exact plain_end HO.out HTF.out HW.out HRL.out HB1.out.size HRG.out
end Go.Proofs.YthnciokmomgfeaaGreatDoor.Inn
/- What hollowaylaw9's further statements have in common. -/
namespace Go.Proofs.YthnciokmomgfeaaGreatDoor.Inn
open Go.RowKit Book Mem Mach
set_option linter.unusedVariables false
set_option linter.unusedSimpArgs false
theorem readsC_nil (w : World) : ReadsC w (.slice none 0 0) [] := ReadsC.of_owns (Owns.nil w 0 _)
theorem lay_mem {mem : List Int} {b : Nat} {cs : List Int} {x : Int} (h : x ∈ lay mem b cs) : x ∈ mem ∨ x ∈ cs := by
  induction cs generalizing mem b with
  | nil => exact .inl h
  | cons c cs ih =>
    rcases ih (show x ∈ lay (mem.set b c) (b + 1) cs from h) with h | h
    · rcases List.mem_or_eq_of_mem_set h with h | h
      · exact .inl h
      · exact .inr (by rw [h]; exact List.mem_cons_self)
    · exact .inr (List.mem_cons_of_mem _ h)
theorem boot_in {o n : Nat} (ho : o ≤ 1000) {x : Int} (h : x ∈ bootMem o n) : Cell.In x := by
  unfold bootMem at h
  rw [List.mem_map] at h
  obtain ⟨k, -, rfl⟩ := h
  unfold bootCell Cell.In
  split
  · split <;> omega
  · split <;> omega
theorem plain_right (code st bk : List Int) : Right (plainM code st bk) := by
  refine ⟨?_, ?_, ?_, ?_, Int.le_refl 0, ?_, Int.le_refl 0, ?_⟩
  · show (st.take 40).length ≤ 48
    rw [List.length_take]; omega
  · show (bk.take 40).length ≤ 48
    rw [List.length_take]; omega
  · show (plainMem code).length ≤ 3000
    rw [plainMem_length]; omega
  · show (0 : Nat) ≤ 2000
    omega
  · show (0 : Int) ≤ ((0 : Nat) : Int)
    omega
  · show (0 : Int) ≤ 2
    omega
theorem plainMem_in {code : List Int} (h : ∀ x ∈ code, Cell.In x) : ∀ x ∈ plainMem code, Cell.In x := by
  intro x hx
  unfold plainMem at hx
  rcases lay_mem hx with h1 | h1
  · exact boot_in (by decide) h1
  · exact h x (List.mem_of_mem_take h1)
theorem plain_cells {code st bk : List Int} (h1 : ∀ x ∈ code, Cell.In x) (h2 : ∀ x ∈ st, Cell.In x) (h3 : ∀ x ∈ bk, Cell.In x) : Cells (plainM code st bk) :=
  ⟨by show Cell.In 200; unfold Cell.In; decide, by show Cell.In 0; unfold Cell.In; decide, fun x hx => h2 x (List.mem_of_mem_take hx), fun x hx => h3 x (List.mem_of_mem_take hx), plainMem_in h1, by show Cell.In 0; unfold Cell.In; decide⟩
theorem plain_inp (code st bk : List Int) : (plainM code st bk).inp.size ≤ maxLen := by show (0 : Nat) ≤ maxLen; exact Nat.zero_le _
/-- where a row's cells lie -/
theorem owns_cells {w : World} {B n c : Nat} {ao : Option Addr} {l : List Int} (h : Owns w B 3 (.slice ao n c) (vals l)) (h0 : 0 < l.length) : ∃ g, ao = some ⟨g, 0, none⟩ ∧ ∀ j x, l[j]? = some x → w.cell? ⟨g, j, none⟩ = some (.int .i64 x) := by
  obtain ⟨g, cap, e, hc, _, _⟩ := h.row (by rw [vals_length]; exact h0)
  simp only [Value.slice.injEq] at e
  exact ⟨g, e.1, fun j x hx => hc j _ (by rw [vals, List.getElem?_map, hx]; rfl)⟩
/-- a slice literal's row -/
theorem owns_lit {w : World} {B g n : Nat} {cs : Array Value} (h : w.heap[g]? = some (.cells cs 3 (0, 0))) (l : List Int) (hcs : cs.toList = vals l) (hn : l.length = n) (h0 : 0 < n) (hB : B ≤ g) (hl : n ≤ maxLen) : Owns w B 3 (.slice (some ⟨g, 0, none⟩) n n) (vals l) := by
  have hv : (vals l).length = n := by rw [vals_length]; exact hn
  refine .inr ⟨g, n, cs, by rw [hv], h0, hB, h, by rw [hv]; exact Nat.le_refl _, hl, by rw [← Array.length_toList, hcs, hv], ?_⟩
  rw [hcs, List.take_of_length_le (by omega)]
theorem below_drewN {w w' : World} {B : Nat} (h : Below B w w') (q : Nat) (hB : B ≤ w.heap.size) : Below B w (w'.drewN q) := h.trans (((Stirred.drewN w' q []).below (fun _ h => by cases h) (Nat.le_refl _)).mono (Nat.le_trans hB h.size))
end Go.Proofs.YthnciokmomgfeaaGreatDoor.Inn
/- Machines that are lent. -/
namespace Go.Proofs.YthnciokmomgfeaaGreatDoor.Mach
open Go.RowKit Book Mem
set_option linter.unusedVariables false
set_option linter.unusedSimpArgs false
theorem three_set {w : World} {g : Nat} {cs : Array Value} {T : TypeId} (h : w.heap[g]? = some (.cells cs T (0, 0))) (a b c : Value) :
    (((w.setCell ⟨g, 2, none⟩ a).setCell ⟨g, 3, none⟩ b).setCell ⟨g, 4, none⟩ c).heap[g]? = some (.cells (((cs.setIfInBounds 2 a).setIfInBounds 3 b).setIfInBounds 4 c) T (0, 0)) ∧ Stirred w (((w.setCell ⟨g, 2, none⟩ a).setCell ⟨g, 3, none⟩ b).setCell ⟨g, 4, none⟩ c) [g] :=
  ⟨whole_set (whole_set (whole_set h 2 a) 3 b) 4 c, ((Stirred.setCell w ⟨g, 2, none⟩ a).trans (Stirred.setCell _ ⟨g, 3, none⟩ b) (fun k hk => .inl hk)).trans (Stirred.setCell _ ⟨g, 4, none⟩ c) (fun k hk => .inl hk)⟩
/-- a machine whose lists have room behind them, in which a mark stands -/
def LentM (w : World) (B : Nat) (v : Value) (m : M) : Prop := ∃ g1 c1 g2 c2 g3 c3, v = stV m (.slice (some ⟨g1, 0, none⟩) m.stack.length c1) (.slice (some ⟨g2, 0, none⟩) m.back.length c2) (.slice (some ⟨g3, 0, none⟩) m.mem.length c3) ∧ Lent w B g1 c1 m.stack ∧ Lent w B g2 c2 m.back ∧ Lent w B g3 c3 m.mem
theorem Lent.below {w w' : World} {B g cap : Nat} {l : List Int} (h : Lent w B g cap l) (hb : Below w.heap.size w w') : Lent w' B g cap l := Owns.below h hb
theorem LentM.below {w w' : World} {B : Nat} {v : Value} {m : M} (h : LentM w B v m) (hb : Below w.heap.size w w') : LentM w' B v m := by
  obtain ⟨g1, c1, g2, c2, g3, c3, e, h1, h2, h3⟩ := h
  exact ⟨g1, c1, g2, c2, g3, c3, e, Lent.below h1 hb, Lent.below h2 hb, Lent.below h3 hb⟩
theorem LentM.mono {w w' : World} {B : Nat} {v : Value} {m : M} (h : LentM w B v m) (ho : Spares w w') : LentM w' B v m := by
  obtain ⟨g1, c1, g2, c2, g3, c3, e, h1, h2, h3⟩ := h
  exact ⟨g1, c1, g2, c2, g3, c3, e, ho.owns h1, ho.owns h2, ho.owns h3⟩
theorem LentM.reads {w : World} {B : Nat} {v : Value} {m : M} (h : LentM w B v m) : ReadsM w v m := by
  obtain ⟨g1, c1, g2, c2, g3, c3, e, h1, h2, h3⟩ := h
  exact ⟨_, _, _, e, ReadsC.of_owns h1.owns, ReadsC.of_owns h2.owns, ReadsC.of_owns h3.owns⟩
/-- what is known while three lists are lent one by one -/
structure LS (w : World) (g r : Nat) (cs : Array Value) (st bk me : List Int) (o1 o2 o3 : Option (Nat × Nat)) (wc : World) : Prop where
  hb : Below w.heap.size w wc
  hg : wc.heap[g]? = some (.cells cs 24 (0, 0))
  hr : wc.heap[r]? = some (.cells zero10 24 (0, 0))
  h1 : ∀ p, o1 = some p → Lent wc w.heap.size p.1 p.2 st ∧ r < p.1
  h2 : ∀ p, o2 = some p → Lent wc w.heap.size p.1 p.2 bk ∧ r < p.1
  h3 : ∀ p, o3 = some p → Lent wc w.heap.size p.1 p.2 me ∧ r < p.1
section
variable {w : World} {g r : Nat} {cs : Array Value} {st bk me : List Int} {o1 o2 o3 : Option (Nat × Nat)} {wc wn : World}
theorem LS.step (h : LS w g r cs st bk me o1 o2 o3 wc) (hb : Below wc.heap.size wc wn) : LS w g r cs st bk me o1 o2 o3 wn :=
  ⟨h.hb.trans (hb.mono h.hb.size), (Stirred.of_below hb []).whole h.hg List.not_mem_nil, (Stirred.of_below hb []).whole h.hr List.not_mem_nil,
    fun p e => ⟨Lent.below (h.h1 p e).1 hb, (h.h1 p e).2⟩, fun p e => ⟨Lent.below (h.h2 p e).1 hb, (h.h2 p e).2⟩, fun p e => ⟨Lent.below (h.h3 p e).1 hb, (h.h3 p e).2⟩⟩
theorem LS.new (h : LS w g r cs st bk me o1 o2 o3 wc) {l k : Nat} {xs : List Int} (hl : Lent wn wc.heap.size l k xs) : Lent wn w.heap.size l k xs ∧ r < l :=
  ⟨Owns.from hl h.hb.size, Nat.lt_of_lt_of_le (whole_lt h.hr) (Owns.block hl _ hl.blk.1).1⟩
theorem LS.set1 (h : LS w g r cs st bk me o1 o2 o3 wc) {l k : Nat} (hl : Lent wn wc.heap.size l k st) (hb : Below wc.heap.size wc wn) : LS w g r cs st bk me (some (l, k)) o2 o3 wn :=
  have h' := h.step hb
  ⟨h'.hb, h'.hg, h'.hr, fun p e => by cases e; exact h.new hl, h'.h2, h'.h3⟩
theorem LS.set2 (h : LS w g r cs st bk me o1 o2 o3 wc) {l k : Nat} (hl : Lent wn wc.heap.size l k bk) (hb : Below wc.heap.size wc wn) : LS w g r cs st bk me o1 (some (l, k)) o3 wn :=
  have h' := h.step hb
  ⟨h'.hb, h'.hg, h'.hr, h'.h1, fun p e => by cases e; exact h.new hl, h'.h3⟩
theorem LS.set3 (h : LS w g r cs st bk me o1 o2 o3 wc) {l k : Nat} (hl : Lent wn wc.heap.size l k me) (hb : Below wc.heap.size wc wn) : LS w g r cs st bk me o1 o2 (some (l, k)) wn :=
  have h' := h.step hb
  ⟨h'.hb, h'.hg, h'.hr, h'.h1, h'.h2, fun p e => by cases e; exact h.new hl⟩
theorem LS.cells {ip hh : Int} {vs vb vm : Value} {ou inn : ByteArray} {rd stt cd : Int} (h : LS w g r (cells10 ip hh vs vb vm ou inn rd stt cd) st bk me o1 o2 o3 wc) :
    wc.cell? ⟨g, 2, none⟩ = some vs ∧ wc.cell? ⟨g, 3, none⟩ = some vb ∧ wc.cell? ⟨g, 4, none⟩ = some vm ∧ wc.frozen? ⟨g, 2, none⟩ = false ∧ wc.frozen? ⟨g, 3, none⟩ = false ∧ wc.frozen? ⟨g, 4, none⟩ = false :=
  ⟨whole_cell h.hg rfl, whole_cell h.hg rfl, whole_cell h.hg rfl, whole_frozen h.hg 2, whole_frozen h.hg 3, whole_frozen h.hg 4⟩
end
/-- what is there behind the three stores -/
structure LG (w : World) (g r : Nat) (ip hh : Int) (ou inn : ByteArray) (rd stt cd : Int) (st bk me : List Int) (ns nb nm l1 k1 l2 k2 l3 k3 : Nat) (wc : World) : Prop where
  hb : Below w.heap.size w wc
  hg : wc.heap[g]? = some (.cells (cells10 ip hh (.slice (some ⟨l1, 0, none⟩) ns k1) (.slice (some ⟨l2, 0, none⟩) nb k2) (.slice (some ⟨l3, 0, none⟩) nm k3) ou inn rd stt cd) 24 (0, 0))
  hr : wc.heap[r]? = some (.cells zero10 24 (0, 0))
  h1 : Lent wc w.heap.size l1 k1 st ∧ r < l1
  h2 : Lent wc w.heap.size l2 k2 bk ∧ r < l2
  h3 : Lent wc w.heap.size l3 k3 me ∧ r < l3
theorem LG.of {w : World} {g r : Nat} {ip hh : Int} {vs vb vm : Value} {ou inn : ByteArray} {rd stt cd : Int} {st bk me : List Int} {ns nb nm l1 k1 l2 k2 l3 k3 : Nat} {wc : World} (hw : w.heap.size ≤ g) (hgr : g < r) (h : LS w g r (cells10 ip hh vs vb vm ou inn rd stt cd) st bk me (some (l1, k1)) (some (l2, k2)) (some (l3, k3)) wc) :
    LG w g r ip hh ou inn rd stt cd st bk me ns nb nm l1 k1 l2 k2 l3 k3 (((wc.setCell ⟨g, 2, none⟩ (.slice (some ⟨l1, 0, none⟩) ns k1)).setCell ⟨g, 3, none⟩ (.slice (some ⟨l2, 0, none⟩) nb k2)).setCell ⟨g, 4, none⟩ (.slice (some ⟨l3, 0, none⟩) nm k3)) := by
  have hs := three_set h.hg (.slice (some ⟨l1, 0, none⟩) ns k1) (.slice (some ⟨l2, 0, none⟩) nb k2) (.slice (some ⟨l3, 0, none⟩) nm k3)
  have hl := fun {l k : Nat} {xs : List Int} (hl : Lent wc w.heap.size l k xs ∧ r < l) => (⟨hl.1.touch hs.2 (fun hm => by rw [List.mem_singleton] at hm; omega), hl.2⟩ : Lent _ w.heap.size l k xs ∧ r < l)
  exact ⟨h.hb.trans ((hs.2.below (B := w.heap.size) (fun k hk => by rw [List.mem_singleton.1 hk]; exact hw) h.hb.size)), hs.1, hs.2.whole h.hr (fun hm => by rw [List.mem_singleton] at hm; omega), hl (h.h1 _ rfl), hl (h.h2 _ rfl), hl (h.h3 _ rfl)⟩
set_option maxHeartbeats 16000000 in
set_option maxRecDepth 100000 in
theorem lentState_any {w : World} {v : Value} {m : M} (h : ReadsM w v m) (h1 : m.stack.length ≤ 1000) (h2 : m.back.length ≤ 1000) (h3 : m.mem.length ≤ 1000) :
    Calls Tryz.prog 15 #[v] w fun e w' => ∃ v', e = .returned v' ∧ LentM w' w.heap.size v' m ∧ Below w.heap.size w w' := by
  obtain ⟨vs, vb, vm, rfl, hs, hb, hm⟩ := h
  obtain ⟨ip, hh, st, bk, me, ou, inn, rd, stt, cd⟩ := m
  simp only at hs hb hm h1 h2 h3 ⊢
  obtain ⟨ns, hns⟩ : ∃ n, st.length = n := ⟨_, rfl⟩
  obtain ⟨nb, hnb⟩ : ∃ n, bk.length = n := ⟨_, rfl⟩
  obtain ⟨nm, hnm⟩ : ∃ n, me.length = n := ⟨_, rfl⟩
  have HNS := Lib.hid hns
  have HNB := Lib.hid hnb
  have HNM := Lib.hid hnm
  have C1 := Lib.hid (fun wc (hbw : Below w.heap.size w wc) => lent_any vs st wc (hs.1.below hbw) h1)
  have C2 := Lib.hid (fun wc (hbw : Below w.heap.size w wc) => lent_any vb bk wc (hb.1.below hbw) h2)
  have C3 := Lib.hid (fun wc (hbw : Below w.heap.size w wc) => lent_any vm me wc (hm.1.below hbw) h3)
  rw [hns] at C1
  rw [hnb] at C2
  rw [hnm] at C3
  obtain ⟨w1, w2, g, r, hw1, hw2, hg, hr, HG, HR, HB, HZ, HW⟩ := two_boxes2 w (cells10 ip hh vs vb vm ou inn rd stt cd) zero10
  have HS : Hid (LS w g r (cells10 ip hh vs vb vm ou inn rd stt cd) st bk me none none none w2.drew) := Lib.hid ⟨HB.out.drew, HG.out, HR.out, fun p e => (by cases e), fun p e => (by cases e), fun p e => (by cases e)⟩
  clear hs hb hm h1 h2 h3 hns hnb hnm
  go_enter Tryz.func15, Tryz.ntmps15
  go_upto_region 1 with fail
  clear hw1 hw2 hg hr HG HR HB
  go_cut [] (fun wx => ∃ l1 k1 l2 k2 l3 k3, Hid (LG w g r ip hh ou inn rd stt cd st bk me ns nb nm l1 k1 l2 k2 l3 k3 wx))
  case first =>
    obtain ⟨a2, a3, a4, f2, f3, f4⟩ := HS.out.cells
    go_wp2_with fail
    go_region_with (first
      | (go_at_call_of 35 vs; refine (C1.out _ HS.out.hb).mono ?_; rintro e wn ⟨l1, k1, rfl, hl, hb⟩; have HS := Lib.hid (HS.out.set1 hl hb); clear hl hb; obtain ⟨a2, a3, a4, f2, f3, f4⟩ := HS.out.cells)
      | (go_at_call_of 35 vb; refine (C2.out _ HS.out.hb).mono ?_; rintro e wn ⟨l2, k2, rfl, hl, hb⟩; have HS := Lib.hid (HS.out.set2 hl hb); clear hl hb; obtain ⟨a2, a3, a4, f2, f3, f4⟩ := HS.out.cells)
      | (go_at_call_of 35 vm; refine (C3.out _ HS.out.hb).mono ?_; rintro e wn ⟨l3, k3, rfl, hl, hb⟩; have HS := Lib.hid (HS.out.set3 hl hb); clear hl hb; obtain ⟨a2, a3, a4, f2, f3, f4⟩ := HS.out.cells))
    all_goals
      go_wp2_with fail
      go_meet
      exact ⟨_, _, _, _, _, _, LG.of (by have := HW.out; omega) HZ.out HS.out⟩
  case rest =>
    obtain ⟨l1, k1, l2, k2, l3, k3, HF⟩ := hcut
    clear HS C1 C2 C3
    have HG := Lib.hid HF.out.hg
    have HR := Lib.hid HF.out.hr
    go_wp2_with (first
      | (refine ld_state (by rfl) _ rfl _ rfl _ _ HG.out rfl ?_)
      | (refine st_state (by rfl) _ _ rfl r _ rfl rfl _ _ HR.out rfl rfl (all_one rfl rfl rfl) ?_; intro wf hr ht; have HRF := Lib.hid hr; have HTF := Lib.hid ht; clear hr ht))
    refine bodyPost_ret (results_cell_row rfl _ _ r _ _ _ _ rfl HRF.out Tryz.underlying24 rfl state_size) rfl ?_
    have hl := fun {l k : Nat} {xs : List Int} (hl : Lent wc w.heap.size l k xs ∧ r < l) => (hl.1.touch HTF.out (fun hm => by rw [List.mem_singleton] at hm; omega) : Lent wf w.heap.size l k xs)
    refine ⟨_, rfl, ⟨l1, k1, l2, k2, l3, k3, ?_, hl HF.out.h1, hl HF.out.h2, hl HF.out.h3⟩, HF.out.hb.trans (HTF.out.below (B := w.heap.size) (fun k hk => by rw [List.mem_singleton.1 hk]; have h1 := HW.out; have h2 := HZ.out; omega) HF.out.hb.size)⟩
    simp only [HNS.out, HNB.out, HNM.out]
end Go.Proofs.YthnciokmomgfeaaGreatDoor.Mach
/- A machine that was lent is as it was; a machine's lists are laid into a book. -/
namespace Go.Proofs.YthnciokmomgfeaaGreatDoor.Mach
open Go.RowKit Book Mem
set_option linter.unusedVariables false
set_option linter.unusedSimpArgs false
theorem below_of_drewN {w wn : World} {q : Nat} (h : wn = w.drewN q) : Below w.heap.size w wn := by rw [h]; exact bk_below_drewN _ _ _
set_option maxHeartbeats 8000000 in
set_option maxRecDepth 100000 in
theorem staysState_any {w : World} {B : Nat} {v v' : Value} {m : M} (h : LentM w B v m) (h' : ReadsM w v' m) (h1 : m.stack.length ≤ 1000) (h2 : m.back.length ≤ 1000) (h3 : m.mem.length ≤ 1000) :
    Calls Tryz.prog 20 #[v, v'] w (Says (.bool true) w) := by
  have CS := Lib.hid (fun wc (hbw : Below w.heap.size w wc) => sameState_any (h.reads.below hbw) (h'.below hbw) (by omega) (by omega) (by omega))
  obtain ⟨g1, k1, g2, k2, g3, k3, rfl, hl1, hl2, hl3⟩ := h
  obtain ⟨vs', vb', vm', rfl, hs', hb', hm'⟩ := h'
  obtain ⟨ip, hh, st, bk, me, ou, inn, rd, stt, cd⟩ := m
  simp only at hl1 hl2 hl3 hs' hb' hm' h1 h2 h3 CS ⊢
  have C1 := Lib.hid (fun wc (hbw : Below w.heap.size w wc) => stays_any B g1 k1 vs' st wc (Lent.below hl1 hbw) (hs'.1.below hbw) h1)
  have C2 := Lib.hid (fun wc (hbw : Below w.heap.size w wc) => stays_any B g2 k2 vb' bk wc (Lent.below hl2 hbw) (hb'.1.below hbw) h2)
  have C3 := Lib.hid (fun wc (hbw : Below w.heap.size w wc) => stays_any B g3 k3 vm' me wc (Lent.below hl3 hbw) (hm'.1.below hbw) h3)
  obtain ⟨ns, hns⟩ : ∃ n, st.length = n := ⟨_, rfl⟩
  obtain ⟨nb, hnb⟩ : ∃ n, bk.length = n := ⟨_, rfl⟩
  obtain ⟨nm, hnm⟩ : ∃ n, me.length = n := ⟨_, rfl⟩
  rw [hns] at C1 CS ⊢
  rw [hnb] at C2 CS ⊢
  rw [hnm] at C3 CS ⊢
  obtain ⟨w1, w2, g, r, hw1, hw2, hg, hr, HG, HR, HB, HZ, HW⟩ := two_boxes2 w (cells10 ip hh (.slice (some ⟨g1, 0, none⟩) ns k1) (.slice (some ⟨g2, 0, none⟩) nb k2) (.slice (some ⟨g3, 0, none⟩) nm k3) ou inn rd stt cd) (cells10 ip hh vs' vb' vm' ou inn rd stt cd)
  clear hl1 hl2 hl3 hs' hb' hm' h1 h2 h3 hns hnb hnm
  go_enter Tryz.func20, Tryz.ntmps20
  go_wp2_with (first
    | (refine ld_state (by rfl) _ rfl _ rfl _ _ HG.out rfl ?_)
    | (refine ld_state (by rfl) _ rfl _ rfl _ _ HR.out rfl ?_)
    | (refine ld_ints (by rfl) _ rfl _ rfl _ (whole_cell HG.out rfl) ?_)
    | (refine ld_ints (by rfl) _ rfl _ rfl _ (whole_cell HR.out rfl) ?_)
    | (go_at_call 19; (refine (CS.out _ HB.out).mono ?_); rintro e wn ⟨rfl, hbs⟩; have HB := Lib.hid (show Below w.heap.size w wn from HB.out.trans (hbs.mono HB.out.size)); have HG := Lib.hid ((Stirred.of_below (hbs) []).whole HG.out List.not_mem_nil); have HR := Lib.hid ((Stirred.of_below (hbs) []).whole HR.out List.not_mem_nil); clear hbs)
    | (go_at_call 47; (with_reducible refine (C1.out _ HB.out).mono ?_); rintro e wn ⟨rfl, q, hq⟩; have hbs := below_of_drewN hq; have HB := Lib.hid (show Below w.heap.size w wn from HB.out.trans (hbs.mono HB.out.size)); have HG := Lib.hid ((Stirred.of_below (hbs) []).whole HG.out List.not_mem_nil); have HR := Lib.hid ((Stirred.of_below (hbs) []).whole HR.out List.not_mem_nil); clear hbs hq)
    | (go_at_call 47; (with_reducible refine (C2.out _ HB.out).mono ?_); rintro e wn ⟨rfl, q, hq⟩; have hbs := below_of_drewN hq; have HB := Lib.hid (show Below w.heap.size w wn from HB.out.trans (hbs.mono HB.out.size)); have HG := Lib.hid ((Stirred.of_below (hbs) []).whole HG.out List.not_mem_nil); have HR := Lib.hid ((Stirred.of_below (hbs) []).whole HR.out List.not_mem_nil); clear hbs hq)
    | (go_at_call 47; (with_reducible refine (C3.out _ HB.out).mono ?_); rintro e wn ⟨rfl, q, hq⟩; have hbs := below_of_drewN hq; have HB := Lib.hid (show Below w.heap.size w wn from HB.out.trans (hbs.mono HB.out.size)); have HG := Lib.hid ((Stirred.of_below (hbs) []).whole HG.out List.not_mem_nil); have HR := Lib.hid ((Stirred.of_below (hbs) []).whole HR.out List.not_mem_nil); clear hbs hq))
  go_ret
  exact ⟨rfl, HB.out⟩
/-- what laying a machine's lists into a book does -/
def Laid (pb : Nat) (ls : List (Value × List Value)) (w : World) (w' : World) : Prop := ∃ vS vW, Bk w' pb vS vW ls ∧ Below pb w w' ∧ Spares w w'
set_option maxHeartbeats 8000000 in
set_option maxRecDepth 100000 in
theorem bookState_any {w : World} {pb B : Nat} {vS vW : Value} {ls : List (Value × List Value)} {vs vb vm : Value} {m : M} (h : Bk w pb vS vW ls) (ho : OwnsL w B vs vb vm m) (hpb : pb + 1 ≤ B) (hd : ∀ k ∈ blocks ls, k < B) (hls : ls.length + 3 ≤ 250)
    (h1 : m.stack.length ≤ 10000) (h2 : m.back.length ≤ 10000) (h3 : m.mem.length ≤ 10000) :
    Calls Tryz.prog 18 #[.pointer (some ⟨pb, 0, none⟩), stV m vs vb vm] w fun e w' => e = .returned (.tuple #[]) ∧ Laid pb (ls ++ [(vs, vals m.stack), (vb, vals m.back), (vm, vals m.mem)]) w w' := by
  obtain ⟨ip, hh, st, bk, me, ou, inn, rd, stt, cd⟩ := m
  simp only at ho h1 h2 h3 ⊢
  have hb1 := (Below.refl w.heap.size w).alloc (Nat.le_refl _) (.cells (cells10 ip hh vs vb vm ou inn rd stt cd) 24)
  have hn1 := heap_alloc_new w (.cells (cells10 ip hh vs vb vm ou inn rd stt cd) 24)
  obtain ⟨w1, hw1⟩ : ∃ w1, w.alloc (.cells (cells10 ip hh vs vb vm ou inn rd stt cd) 24) = w1 := ⟨_, rfl⟩
  rw [hw1] at hb1 hn1
  obtain ⟨g, hg⟩ : ∃ g, w.heap.size = g := ⟨_, rfl⟩
  rw [hg] at hn1
  have HG := Lib.hid hn1
  have HB1 := Lib.hid hb1
  have HK := Lib.hid (h.below hb1)
  have HO1 := Lib.hid (ho.st.below hb1)
  have HO2 := Lib.hid (ho.bk.below hb1)
  have HO3 := Lib.hid (ho.me.below hb1)
  have HSB := Lib.hid (And.intro ho.sb ho.bm)
  have HPB := Lib.hid hpb
  have HD := Lib.hid hd
  have HLS := Lib.hid hls
  have H1 := Lib.hid h1
  have H2 := Lib.hid h2
  have H3 := Lib.hid h3
  have HPG := Lib.hid (show pb < w.heap.size from whole_lt h.book)
  have HLW := Lib.hid (show ∀ k ∈ blocks ls, k < w.heap.size from fun k hk => (h.kept.lists.lt k hk).2)
  clear ho h hb1 hn1 hpb hd hls h1 h2 h3
  have hgb : ∀ {B v xs}, Owns w1 B 3 v xs → True := fun _ => trivial
  have C := Lib.hid (HK.out.add (by have := HLS.out; omega) HO1.out HPB.out H1.out (fun k hk hm => by have h9 := (HO1.out.block k hk).1; have h8 := HD.out k hm; omega))
  go_enter Tryz.func18, Tryz.ntmps18
  go_upto_region 1 with fail
  clear hw1 hg hgb
  go_wp2_with (first
    | (refine ld_ints (by rfl) _ rfl _ rfl _ (whole_cell HG.out rfl) ?_)
    | fail)
  refine C.out.mono ?_
  rintro e w2 ⟨rfl, vS1, vW1, hk, hb, hs⟩
  have HK2 := Lib.hid hk
  have HB2 := Lib.hid hb
  have HS2 := Lib.hid hs
  have HO1b := Lib.hid (hs.owns HO1.out)
  have HO2b := Lib.hid (hs.owns HO2.out)
  have HO3b := Lib.hid (hs.owns HO3.out)
  have HG := Lib.hid (hs _ _ _ (by decide) (by decide) HG.out)
  clear hk hb hs C
  have C := Lib.hid (HK2.out.add (by have := HLS.out; rw [List.length_append]; simp; omega) HO2b.out HPB.out H2.out (fun k hk hm => by
    rw [blocks_append, List.mem_append] at hm
    rcases hm with hm | hm
    · have h9 := (HO2.out.block k hk).1
      have h8 := HD.out k hm
      omega
    · exact (HSB.out.1 k (by simpa [blocks] using hm)).1 hk))
  go_wp2_with (first
    | (refine ld_ints (by rfl) _ rfl _ rfl _ (whole_cell HG.out rfl) ?_)
    | fail)
  refine C.out.mono ?_
  rintro e w3 ⟨rfl, vS2, vW2, hk, hb, hs⟩
  have HK3 := Lib.hid hk
  have HB3 := Lib.hid (HB2.out.trans hb)
  have HS3 := Lib.hid (HS2.out.trans hs)
  have HO3c := Lib.hid (hs.owns HO3b.out)
  have HG := Lib.hid (hs _ _ _ (by decide) (by decide) HG.out)
  clear hk hb hs C
  have C := Lib.hid (HK3.out.add (by have := HLS.out; rw [List.length_append, List.length_append]; simp; omega) HO3c.out HPB.out H3.out (fun k hk hm => by
    rw [blocks_append, blocks_append, List.mem_append, List.mem_append] at hm
    rcases hm with (hm | hm) | hm
    · have h9 := (HO3.out.block k hk).1
      have h8 := HD.out k hm
      omega
    · exact (HSB.out.1 k (by simpa [blocks] using hm)).2 hk
    · exact HSB.out.2 k (by simpa [blocks] using hm) hk))
  go_wp2_with (first
    | (refine ld_ints (by rfl) _ rfl _ rfl _ (whole_cell HG.out rfl) ?_)
    | fail)
  refine C.out.mono ?_
  rintro e w4 ⟨rfl, vS3, vW3, hk, hb, hs⟩
  have HF := Lib.hid (show Laid pb (ls ++ [(vs, vals st), (vb, vals bk), (vm, vals me)]) w w4 from ⟨vS3, vW3, by simpa using hk, ((HB1.out.mono (Nat.le_of_lt HPG.out)).trans (HB3.out.trans hb)), (Spares.of_below HB1.out).trans (HS3.out.trans hs)⟩)
  clear hk hb hs C
  go_wp2
  go_end0
  exact ⟨rfl, HF.out⟩
end Go.Proofs.YthnciokmomgfeaaGreatDoor.Mach
