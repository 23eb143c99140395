/- Package record: Loop. -/
import Derived.Test.YtlomfmilohbgpaaGreatDoorK7
import Derived.Lib.SlicesCompact
import Derived.Lib.SlKeysI
import Derived.Test.YtlomfmilohbgpaaGreatDoorK5
import Derived.Test.YtlomfmilohbgpaaGreatDoorSub
import Derived.Test.YtlomfmilohbgpaaGreatDoorShelf
import Derived.Lib.OwnBridge
import Derived.BigQuiet
import Derived.Deep.QuietTactic
import Derived.Deep.LoopGhost
import Derived.Deep.DeepCutAuto
import Derived.IntWalk
namespace Go.Proofs.YtlomfmilohbgpaaGreatDoor.Rec
open Go.RowKit Book Book.Wide Mem Mach Inn
set_option linter.unusedSimpArgs false
set_option linter.unusedVariables false
/-- rows of numbers stay -/
def Ints (w w' : World) : Prop := ∀ (k : Nat) (cs : Array Value), w.heap[k]? = some (Obj.cells cs 3 (0, 0)) → w'.heap[k]? = some (Obj.cells cs 3 (0, 0))
theorem Ints.trans {w w1 w2 : World} (h : Ints w w1) (g : Ints w1 w2) : Ints w w2 := fun k cs hk => g k cs (h k cs hk)
theorem Ints.of_below {w w' : World} (h : Below w.heap.size w w') : Ints w w' := fun k cs hk => (Stirred.of_below h []).whole hk List.not_mem_nil
/-- what is done in one block that is none of numbers -/
theorem Ints.of_one {w w' : World} {g : Nat} {c : Array Value} {T : TypeId} (h : Stirred w w' [g]) (hg : w.heap[g]? = some (.cells c T (0, 0))) (hT : T ≠ 3) : Ints w w' := fun k cs hk => h.whole hk (fun hm => by
  rw [List.mem_singleton] at hm
  subst hm
  rw [hg] at hk
  simp only [Option.some.injEq, Obj.cells.injEq] at hk
  exact hT hk.2.1)
theorem TAt.typed {w : World} {B p most : Nat} {bs : List Nat} {r : R} (h : TAt w B p bs most r) : ∀ k ∈ bs, ∃ c T, w.heap[k]? = some (.cells c T (0, 0)) ∧ (T = 42 ∨ T = 33) := by
  obtain ⟨v, h1, h2, rfl⟩ := h.box
  intro k hk
  rcases List.mem_cons.1 hk with rfl | hk
  · exact ⟨_, _, h1, .inl rfl⟩
  · obtain ⟨_, _, c, hc⟩ := h2.block k (by simpa using hk)
    exact ⟨c, _, hc, .inr rfl⟩
/-- what is done to a tape leaves boxes of other kinds alone -/
theorem TAt.spare {w w' : World} {B p most : Nat} {bs : List Nat} {r : R} (h : TAt w B p bs most r) (hs : Stirred w w' bs) {g : Nat} {cs : Array Value} {T : TypeId} (hg : w.heap[g]? = some (.cells cs T (0, 0))) (h1 : T ≠ 42) (h2 : T ≠ 33) : w'.heap[g]? = some (.cells cs T (0, 0)) :=
  hs.whole hg (fun hm => by
    obtain ⟨c, T', hc, hT⟩ := h.typed g hm
    rw [hg] at hc
    simp only [Option.some.injEq, Obj.cells.injEq, and_true] at hc
    rcases hT with e | e
    · exact h1 (hc.2.trans e)
    · exact h2 (hc.2.trans e))
theorem TAt.ints {w w' : World} {B p most : Nat} {bs : List Nat} {r : R} (h : TAt w B p bs most r) (hs : Stirred w w' bs) : Ints w w' := fun k cs hk => h.spare hs hk (by decide) (by decide)
theorem L_ints {W w w' : World} {B : Nat} {v : Value} {xs : List Int} (h : L W w B v xs) (hi : Ints w w') : L W w' B v xs := by
  rcases h with h | h
  · exact .inl h
  · exact .inr (h.same fun k hk => by obtain ⟨_, _, c, hc⟩ := h.block k hk; rw [hc]; exact hi k c hc)
theorem LM_ints {W w w' : World} {B : Nat} {v : Value} {m : M} (h : LM W w B v m) (hi : Ints w w') : LM W w' B v m := by
  obtain ⟨vs, vb, vm, e, h1, h2, h3⟩ := h
  exact ⟨vs, vb, vm, e, L_ints h1 hi, L_ints h2 hi, L_ints h3 hi⟩
/-- what is told at the end is what the tape is -/
theorem tape_yes {start : Int} {left most : Nat} {l : List S} {m : M} {R0 : R} (hl : l.length + left = most) (hr : tape start left l m = R0) (he : endsB most ⟨start, m.ip, false, l⟩ (see m (Mach.step m).ip) (Mach.step m).status = true) : R0 = ⟨start, m.ip, backB ⟨start, m.ip, false, l⟩ (see m (Mach.step m).ip), l⟩ := by
  rw [← hr]
  unfold tape
  by_cases hb : l ≠ [] ∧ m.ip = start
  · rw [if_pos hb, show backB ⟨start, m.ip, false, l⟩ (see m (Mach.step m).ip) = true from decide_eq_true hb]
  · rw [if_neg hb]
    have hbk : backB ⟨start, m.ip, false, l⟩ (see m (Mach.step m).ip) = false := decide_eq_false hb
    rw [hbk]
    unfold endsB at he
    rw [hbk, Bool.false_or] at he
    cases left with
    | zero => rfl
    | succ n =>
      have h1 : decide (most ≤ l.length) = false := decide_eq_false (by omega)
      simp only [h1, Bool.false_or] at he
      have h2 : (Mach.step m).status ≠ 0 ∨ fit (see m (Mach.step m).ip) = false := by
        rcases Bool.or_eq_true _ _ ▸ he with h | h
        · exact .inl (of_decide_eq_true h)
        · exact .inr (by simpa using h)
      show (if _ then _ else _) = _
      rw [if_pos h2]
theorem tape_no {start : Int} {left most : Nat} {l : List S} {m : M} {R0 : R} (hl : l.length + left = most) (hr : tape start left l m = R0) (he : endsB most ⟨start, m.ip, false, l⟩ (see m (Mach.step m).ip) (Mach.step m).status = false) : backB ⟨start, m.ip, false, l⟩ (see m (Mach.step m).ip) = false ∧ ∃ n, left = n + 1 ∧ tape start n (l ++ [see m (Mach.step m).ip]) (Mach.step m) = R0 := by
  unfold endsB at he
  simp only [Bool.or_eq_false_iff] at he
  obtain ⟨h0, h1, h2, h3⟩ := he
  refine ⟨h0, ?_⟩
  have h1 := of_decide_eq_false h1
  obtain ⟨n, rfl⟩ : ∃ n, left = n + 1 := ⟨left - 1, by omega⟩
  refine ⟨n, rfl, ?_⟩
  rw [← hr]
  conv => rhs; unfold tape
  rw [if_neg (show ¬ (l ≠ [] ∧ m.ip = start) from of_decide_eq_false h0)]
  show _ = (if _ then _ else _)
  have h2 := of_decide_eq_false h2
  have h3 : fit (see m (Mach.step m).ip) = true := by simpa using h3
  rw [if_neg (by rintro (h | h); exact h2 h; rw [h3] at h; cases h)]
abbrev recA (r : R) (v : Value) : Array Value := #[.int .i64 r.start, .int .i64 r.last, .bool r.loop, v]
abbrev recV (r : R) (v : Value) : Value := .agg (recA r v)
abbrev recZ : Array Value := #[.int .i64 0, .int .i64 0, .bool false, .slice none 0 0]
theorem rec_size : (Tryz.prog.info? 29).map (·.size) = some 4 := by kernel_rfl
theorem recA_one (r : R) {v : Value} (h : v.oneCell' = true) : (recA r v).all (·.oneCell') = true := by
  simp [recA, h, show ∀ k n, (Value.int k n).oneCell' = true from fun _ _ => rfl, show ∀ b, (Value.bool b).oneCell' = true from fun _ => rfl]
theorem mostOf_eq (most : Int) : min (max most 0) 120 = ((mostOf most : Nat) : Int) := by unfold mostOf; omega
theorem mostOf_le (most : Int) : mostOf most ≤ 120 := by unfold mostOf; omega
section
variable {ops : Array Oper} {rest : List Oper} {o : Oper} {a : Act} {w : World} {Q : Exit → Act → World → Prop}
theorem st_rec (hw : Region.wanted o (yielded ops a.tmps) = true) (x y : Operand) (ho : o.op = .store 29 x y) (g : Nat) (r : R) (v : Value) (hv : v.oneCell' = true) (hx : a.eval x = .pointer (some ⟨g, 0, none⟩)) (hy : a.eval y = recV r v) (old : Array Value) (hg : w.heap[g]? = some (.cells old 29 (0, 0))) (hold : old.size = 4)
    (h : ∀ w', w'.heap[g]? = some (.cells (recA r v) 29 (0, 0)) → Stirred w w' [g] → wpList Tryz.prog ops Q rest (a.put o.dst undef) w') : wpList Tryz.prog ops Q (o :: rest) a w :=
  wpList_setbox hw _ x y ho g (recA r v) hx hy old _ hg rec_size (by rw [hold]; rfl) (recA_one r hv) h
end
/-- what Loop answers -/
def GivesR (r : R) (w : World) (e : Ending) (w' : World) : Prop := ∃ v, e = .returned (recV r v) ∧ OwnsK w' w.heap.size 33 4 v (r.steps.flatMap seenCells) ∧ Below w.heap.size w w'
/-- in a round: the machine in its box, the empty answer, the tape -/
structure RS (w wr : World) (g rb p : Nat) (bs : List Nat) (most : Nat) (start : Int) (l : List S) (m : M) (vs vb vm : Value) : Prop where
  box : wr.heap[g]? = some (.cells (cells10 m.ip m.handler vs vb vm m.out m.inp m.read m.status m.code) 24 (0, 0))
  ans : wr.heap[rb]? = some (.cells recZ 29 (0, 0))
  tape : TAt wr w.heap.size p bs most ⟨start, m.ip, false, l⟩
  lists : LM w wr w.heap.size (stV m vs vb vm) m
  below : Below w.heap.size w wr
  low : w.heap.size ≤ g ∧ w.heap.size ≤ rb
section
variable {w wr wx : World} {g rb p : Nat} {bs bs' : List Nat} {most : Nat} {start : Int} {l : List S} {m : M} {vs vb vm : Value}
theorem RS.more (h : RS w wr g rb p bs most start l m vs vb vm) (hb : Below wr.heap.size wr wx) : RS w wx g rb p bs most start l m vs vb vm :=
  ⟨boxOn h.box hb, boxOn h.ans hb, h.tape.below hb, h.lists.below hb, h.below.trans (hb.mono h.below.size), h.low⟩
/-- something is done in one block that is none of these -/
theorem RS.one (h : RS w wr g rb p bs most start l m vs vb vm) {k : Nat} {c : Array Value} {T : TypeId} (hs : Stirred wr wx [k]) (hk : wr.heap[k]? = some (.cells c T (0, 0))) (hT : T ≠ 3) (h1 : k ≠ g) (h2 : k ≠ rb) (h3 : k ∉ bs) (h4 : w.heap.size ≤ k) : RS w wx g rb p bs most start l m vs vb vm :=
  ⟨hs.whole h.box (fun hm => h1 (List.mem_singleton.1 hm).symm), hs.whole h.ans (fun hm => h2 (List.mem_singleton.1 hm).symm), h.tape.touch hs (fun z hz hm => h3 (by rw [← List.mem_singleton.1 hm]; exact hz)), LM_ints h.lists (Ints.of_one hs hk hT), h.below.trans (hs.below (fun z hz => by rw [List.mem_singleton.1 hz]; exact h4) h.below.size), h.low⟩
theorem RS.same (h : RS w wr g rb p bs most start l m vs vb vm) (ht : TAt wx w.heap.size p bs' most ⟨start, m.ip, false, l⟩) (hs : Stirred wr wx bs) : RS w wx g rb p bs' most start l m vs vb vm :=
  ⟨h.tape.spare hs h.box (by decide) (by decide), h.tape.spare hs h.ans (by decide) (by decide), ht, LM_ints h.lists (h.tape.ints hs), h.below.trans (hs.below (fun z hz => (h.tape.lt z hz).1) h.below.size), h.low⟩
end
set_option maxHeartbeats 16000000 in
set_option maxRecDepth 100000 in
theorem loop_any {w : World} {v : Value} {m : M} (h : ReadsM w v m) (hr : Right m) (hc : Cells m) (hin : m.inp.size ≤ maxLen) (hE : ∀ wc, Below w.heap.size w wc → Tabs wc) (most : Int) : Calls Tryz.prog 6 #[v, .int .i64 most] w (GivesR (recOf m (mostOf most)) w) := by
  have HV := Lib.hid h
  have HRC := Lib.hid (And.intro hr (And.intro hc hin))
  have HE := Lib.hid hE
  obtain ⟨mn, hmn⟩ : ∃ mn, mostOf most = mn := ⟨_, rfl⟩
  have er : min (max most 0) 120 = (mn : Int) := by rw [← hmn]; exact mostOf_eq most
  have HMN := Lib.hid (show mn ≤ 120 by rw [← hmn]; exact mostOf_le most)
  rw [hmn]
  obtain ⟨R0, hR0⟩ : ∃ R0, recOf m mn = R0 := ⟨_, rfl⟩
  have HR0 := Lib.hid hR0
  rw [hR0]
  obtain ⟨vs, vb, vm, rfl, hs, hb, hm⟩ := h
  obtain ⟨s1, n1, d1, rfl⟩ := reads_known hs
  obtain ⟨s2, n2, d2, rfl⟩ := reads_known hb
  obtain ⟨s3, n3, d3, rfl⟩ := reads_known hm
  have HLS := Lib.hid (And.intro hs (And.intro hb hm))
  obtain ⟨w1, g, hw1, hg, HG1, HB1, HZ1⟩ := newBox w (cells10 m.ip m.handler (.slice s1 n1 d1) (.slice s2 n2 d2) (.slice s3 n3 d3) m.out m.inp m.read m.status m.code) 24
  obtain ⟨w2, rb, hw2, hrb, HA2, HB12, HZ2⟩ := newBox w1 recZ 29
  have HG2 := Lib.hid (boxOn HG1.out HB12.out)
  have HB2 := Lib.hid (HB1.out.trans (HB12.out.mono HB1.out.size))
  have R := Lib.hid (innRight_any (HV.out.below HB2.out) hin (by have h1 := hr.out; unfold maxLen; omega))
  have HRT := Lib.hid ((rightM_iff m).2 hr)
  rw [HRT.out] at R
  clear hs hb hm hr hc hin hE hmn hR0
  go_enter Tryz.func6, Tryz.ntmps6
  go_upto_region 1 with fail
  clear hw1 hw2 hg hrb
  go_wp2_with (refine ld_state (by rfl) _ rfl _ rfl _ _ HG2.out rfl ?_)
  refine R.out.mono ?_
  rintro e w3 ⟨rfl, hb⟩
  have HG3 := Lib.hid (boxOn HG2.out hb)
  have HA3 := Lib.hid (boxOn HA2.out hb)
  have HB3 := Lib.hid (HB2.out.trans (hb.mono HB2.out.size))
  have g0 : w3.cell? ⟨g, 0, none⟩ = some (.int .i64 m.ip) := whole_cell HG3.out rfl
  obtain ⟨w4, p, hw4, hp, HT4, HB34, HZ4⟩ := newBox w3 (tapeA mn ⟨m.ip, m.ip, false, []⟩ (.slice none 0 0)) 42
  have HG4 := Lib.hid (boxOn HG3.out HB34.out)
  have HA4 := Lib.hid (boxOn HA3.out HB34.out)
  have HB4 := Lib.hid (HB3.out.trans (HB34.out.mono HB3.out.size))
  have HPG := Lib.hid (show g < p ∧ rb < p ∧ g ≠ rb ∧ w.heap.size ≤ g ∧ w.heap.size ≤ rb ∧ w.heap.size ≤ p by have h1 := HZ1.out; have h2 := HZ2.out; have h3 := HZ4.out; have h4 := whole_lt HG3.out; have h5 := whole_lt HA3.out; have h6 := whole_lt HG1.out; omega)
  clear hb R
  go_upto_region 4 with fail
  clear hw4 hp g0
  have g1 : w4.cell? ⟨g, 1, none⟩ = some (.int .i64 m.handler) := whole_cell HG4.out rfl
  have f1 : w4.frozen? ⟨g, 1, none⟩ = false := whole_frozen HG4.out 1
  obtain ⟨w5, hw5⟩ : ∃ w5, w4.setCell ⟨g, 1, none⟩ (.int .i64 0) = w5 := ⟨_, rfl⟩
  have hst := Stirred.setCell w4 ⟨g, 1, none⟩ (.int .i64 0)
  have hgw := whole_set HG4.out 1 (.int .i64 0)
  rw [hw5] at hst hgw
  have hst : Stirred w4 w5 [g] := hst
  have HRS := Lib.hid (show RS w w5 g rb p [p] mn m.ip [] (bare m) (.slice s1 n1 d1) (.slice s2 n2 d2) (.slice s3 n3 d3) from by
    have hpg := HPG.out
    refine ⟨hgw, hst.whole HA4.out (fun hm => by rw [List.mem_singleton] at hm; omega), ⟨⟨.slice none 0 0, hst.whole HT4.out (fun hm => by rw [List.mem_singleton] at hm; omega), OwnsK.nil _ _ _ _, rfl⟩, hpg.2.2.2.2.2, Nat.zero_le _⟩, ⟨_, _, _, rfl, .inl HLS.out.1, .inl HLS.out.2.1, .inl HLS.out.2.2⟩, HB4.out.trans (hst.below (fun k hk => by rw [List.mem_singleton.1 hk]; exact hpg.2.2.2.1) HB4.out.size), hpg.2.2.2.1, hpg.2.2.2.2.1⟩)
  clear hst hgw
  have HT0 := Lib.hid (show tape m.ip mn [] (bare m) = R0 from HR0.out)
  have HR0' := Lib.hid (show Right (bare m) from ⟨HRC.out.1.stack, HRC.out.1.back, HRC.out.1.mem, HRC.out.1.out, HRC.out.1.read0, HRC.out.1.read1, HRC.out.1.status0, HRC.out.1.status1⟩)
  have HC0' := Lib.hid (show Cells (bare m) from ⟨HRC.out.2.1.ip, in0, HRC.out.2.1.stack, HRC.out.2.1.back, HRC.out.2.1.mem, HRC.out.2.1.code⟩)
  go_wp2_with fail
  clear hw5 g1 f1 er HG4 HA4 HT4 HG3 HA3 HG2 HA2 HG1 HB1 HB12 HB34 HB2 HB3 HZ1 HZ2 HZ4
  go_loopg [] (mn + 1) (fun z wr => ∃ (bs : List Nat) (l : List S) (m1 : M) (t1 : Option Addr) (k1 e1 : Nat) (t2 : Option Addr) (k2 e2 : Nat) (t3 : Option Addr) (k3 e3 : Nat) (left : Nat), z = left + 1 ∧ Hid (l.length + left = mn) ∧ Hid (RS w wr g rb p bs mn m.ip l m1 (.slice t1 k1 e1) (.slice t2 k2 e2) (.slice t3 k3 e3)) ∧ Hid (tape m.ip left l m1 = R0) ∧ Hid (Right m1) ∧ Hid (Cells m1) ∧ Hid (m1.inp = m.inp))
  case atStart => exact ⟨[p], [], bare m, s1, n1, d1, s2, n2, d2, s3, n3, d3, mn, rfl, Lib.hid (Nat.zero_add _), HRS, HT0, HR0', HC0', Lib.hid rfl⟩
  case round =>
    obtain ⟨bs, l, m1, t1, k1, e1, t2, k2, e2, t3, k3, e3, left, rfl, HLL, HS, HTP, HR1, HC1, HI1⟩ := hrel
    have HGB := Lib.hid HS.out.box
    have ST := Lib.hid (innStep_any (HS.out.lists.reads HS.out.below) HR1.out HC1.out (by rw [HI1.out]; exact HRC.out.2.2) (fun wc hb => HE.out wc (HS.out.below.trans (hb.mono HS.out.below.size))))
    obtain ⟨m2, hm2⟩ : ∃ m2, Mach.step m1 = m2 := ⟨_, rfl⟩
    have HM2 := Lib.hid hm2
    rw [hm2] at ST
    clear hm2
    go_wp2_with (refine ld_state (by rfl) _ rfl _ rfl _ _ HGB.out rfl ?_)
    refine ST.out.mono ?_
    rintro e wn hgm
    obtain ⟨u1, i1, u2, i2, u3, i3, rfl, ho, hb⟩ := GivesM.known hgm
    obtain ⟨j1, hj1⟩ : ∃ j, m2.stack.length = j := ⟨_, rfl⟩
    obtain ⟨j2, hj2⟩ : ∃ j, m2.back.length = j := ⟨_, rfl⟩
    obtain ⟨j3, hj3⟩ : ∃ j, m2.mem.length = j := ⟨_, rfl⟩
    obtain ⟨wa, g6, hwa, hg6, H6a, HBa, HZa⟩ := newBox wn zero10 24
    have HL2 := Lib.hid ((LM.of_owns (W := w) ⟨_, _, _, rfl, ho⟩ HS.out.below.size).below HBa.out)
    rw [hj1, hj2, hj3] at HL2 ⊢
    have HSa := Lib.hid (HS.out.more (hb.trans (HBa.out.mono hb.size)))
    have N6 := Lib.hid (show wr.heap.size ≤ g6 by have h1 := HZa.out; have h2 := hb.size; omega)
    have NB := Lib.hid (show ∀ k ∈ bs, k < wr.heap.size from fun k hk => (HS.out.tape.lt k hk).2)
    have NG := Lib.hid (show g < wr.heap.size ∧ rb < wr.heap.size ∧ w.heap.size ≤ wr.heap.size from ⟨whole_lt HS.out.box, whole_lt HS.out.ans, HS.out.below.size⟩)
    clear hgm ho hb ST hj1 hj2 hj3
    go_wp2_with (first
      | (refine ld_state (by rfl) _ rfl _ rfl _ _ HGb.out rfl ?_)
      | (refine st_state (by rfl) _ _ rfl g6 _ rfl rfl _ _ H6a.out rfl rfl (all_one rfl rfl rfl) ?_; intro wb h6 ht6; have H6 := Lib.hid h6; have HSb := Lib.hid (HSa.out.one ht6 H6a.out (by decide) (by have h1 := NG.out; have h2 := N6.out; omega) (by have h1 := NG.out; have h2 := N6.out; omega) (fun hm => by have h1 := NB.out _ hm; have h2 := N6.out; omega) (by have h1 := NG.out; have h2 := N6.out; omega)); have HLb := Lib.hid (LM_ints HL2.out (Ints.of_one ht6 H6a.out (by decide))); have HGb := Lib.hid HSb.out.box; have c0 : wb.cell? ⟨g6, 0, none⟩ = some (.int .i64 m2.ip) := whole_cell h6 rfl; have SE := Lib.hid (see_any (HSb.out.lists.reads HSb.out.below) m2.ip); clear h6 ht6 hwa hg6 HSa HL2))
    refine SE.out.mono ?_
    rintro e wc ⟨rfl, hb⟩
    obtain ⟨x, hx⟩ : ∃ x, see m1 m2.ip = x := ⟨_, rfl⟩
    have HX := Lib.hid hx
    rw [hx]
    obtain ⟨wd, g7, hwd, hg7, H7d, HBd, HZd⟩ := newBox wc (seenA (0, 0, 0, 0)) 33
    have HSd := Lib.hid (HSb.out.more (hb.trans (HBd.out.mono hb.size)))
    have H6d := Lib.hid (boxOn H6.out (hb.trans (HBd.out.mono hb.size)))
    have HLd := Lib.hid (HLb.out.below (hb.trans (HBd.out.mono hb.size)))
    have N7 := Lib.hid (show wr.heap.size ≤ g7 ∧ g6 < g7 by have h1 := HZd.out; have h2 := hb.size; have h3 := whole_lt H6.out; have h4 := N6.out; omega)
    clear hb hx SE c0 H6 HSb HLb HGb
    go_wp2_with (first
      | (refine ld_seen (by rfl) _ rfl g7 rfl x H7.out ?_)
      | (refine st_seen (by rfl) _ _ rfl g7 x rfl rfl _ H7d.out rfl ?_; intro we h7 ht7; have H7 := Lib.hid h7; have HSe := Lib.hid (HSd.out.one ht7 H7d.out (by decide) (by have h1 := NG.out; have h2 := N7.out; omega) (by have h1 := NG.out; have h2 := N7.out; omega) (fun hm => by have h1 := NB.out _ hm; have h2 := N7.out; omega) (by have h1 := NG.out; have h2 := N7.out; omega)); have HLe := Lib.hid (LM_ints HLd.out (Ints.of_one ht7 H7d.out (by decide))); have H6e := Lib.hid (ht7.whole H6d.out (fun hm => by have h1 := List.mem_singleton.1 hm; have h2 := N7.out; omega)); have c8 : we.cell? ⟨g6, 8, none⟩ = some (.int .i64 m2.status) := whole_cell H6e.out rfl; have EN := Lib.hid (ends_any HSe.out.tape x m2.status); clear h7 ht7 hwd hg7 HSd HLd H6d H7d))
    refine EN.out.mono ?_
    rintro e wf ⟨rfl, hT, hsf⟩
    cases hen : endsB mn ⟨m.ip, m1.ip, false, l⟩ x m2.status with
    | true =>
      have hR := tape_yes HLL.out HTP.out (by rw [HM2.out, HX.out]; exact hen)
      rw [HM2.out, HX.out] at hR
      obtain ⟨bb, hbb⟩ : ∃ bb, backB ⟨m.ip, m1.ip, false, l⟩ x = bb := ⟨_, rfl⟩
      rw [hbb] at hR hT
      have HR := Lib.hid hR
      obtain ⟨vS, k1, k2, -⟩ := hT.box
      obtain ⟨so, sc, rfl⟩ := k2.slice (seen_len _) (by decide)
      have HO := Lib.hid k2
      obtain ⟨n, hn⟩ : ∃ n, l.length = n := ⟨_, rfl⟩
      have k1 : wf.heap[p]? = some (.cells #[.int .i64 (mn : Int), .int .i64 m.ip, .int .i64 m1.ip, .bool bb, .slice so n sc] 42 (0, 0)) := by rw [← hn]; exact k1
      have HON := Lib.hid (show OwnsK wf w.heap.size 33 4 (.slice so n sc) (l.flatMap seenCells) from by rw [← hn]; exact k2)
      have q1 : wf.cell? ⟨p, 1, none⟩ = some (.int .i64 m.ip) := whole_cell k1 rfl
      have q2 : wf.cell? ⟨p, 2, none⟩ = some (.int .i64 m1.ip) := whole_cell k1 rfl
      have q3 : wf.cell? ⟨p, 3, none⟩ = some (.bool bb) := whole_cell k1 rfl
      have q4 : wf.cell? ⟨p, 4, none⟩ = some (.slice so n sc) := whole_cell k1 rfl
      have HAf := Lib.hid (HSe.out.tape.spare hsf HSe.out.ans (by decide) (by decide))
      have HBf := Lib.hid (HSe.out.below.trans (hsf.below (fun z hz => (HSe.out.tape.lt z hz).1) HSe.out.below.size))
      have HLW := Lib.hid (show w.heap.size ≤ rb from HSe.out.low.2)
      clear hT hsf hen hR hbb k1 k2 hn EN c8 H6e H7 HSe HLe HO
      go_wp2_with (refine st_rec (by rfl) _ _ rfl rb ⟨m.ip, m1.ip, bb, l⟩ (.slice so n sc) rfl rfl rfl _ HAf.out rfl ?_; intro wh hrh hth; have HRF := Lib.hid hrh; have HTH := Lib.hid hth; clear hrh hth)
      refine bodyPost_ret (results_cell_row rfl _ _ rb _ _ _ _ rfl HRF.out Tryz.underlying29 rfl rec_size) rfl ?_
      refine ⟨.slice so n sc, by rw [HR.out], ?_, HBf.out.trans (HTH.out.below (fun z hz => by rw [List.mem_singleton.1 hz]; exact HLW.out) HBf.out.size)⟩
      rw [HR.out]
      exact HON.out.touch HTH.out (fun z hz hm => by
        rw [List.mem_singleton] at hm
        subst hm
        obtain ⟨_, _, c, hc⟩ := HON.out.block z hz
        have := HAf.out
        rw [hc] at this
        simp at this)
    | false =>
      obtain ⟨hbk, n, hn, htp⟩ := tape_no HLL.out HTP.out (by rw [HM2.out, HX.out]; exact hen)
      subst hn
      rw [HM2.out, HX.out] at hbk htp
      rw [hbk] at hT
      have HSf := Lib.hid (HSe.out.same hT hsf)
      have HLf := Lib.hid (LM_ints HLe.out (HSe.out.tape.ints hsf))
      have H6f := Lib.hid (HSe.out.tape.spare hsf H6e.out (by decide) (by decide))
      have H7f := Lib.hid (hsf.whole H7.out (fun hm => by have h1 := NB.out _ hm; have h2 := N7.out; omega))
      have AD := Lib.hid (add_any HSf.out.tape HSf.out.below.size x (by have h1 := HLL.out; have h2 := HMN.out; show l.length < 1000; omega))
      have HTN := Lib.hid htp
      clear hT hsf hen hbk htp EN c8 H6e H7 HSe HLe
      go_wp2_with (refine ld_seen (by rfl) _ rfl g7 rfl x H7f.out ?_)
      refine AD.out.mono ?_
      rintro e wg ⟨rfl, bs', hT, hsg, hbs⟩
      have HGg := Lib.hid (HSf.out.tape.spare hsg HSf.out.box (by decide) (by decide))
      have HAg := Lib.hid (HSf.out.tape.spare hsg HSf.out.ans (by decide) (by decide))
      have H6g := Lib.hid (HSf.out.tape.spare hsg H6f.out (by decide) (by decide))
      have HLg := Lib.hid (LM_ints HLf.out (HSf.out.tape.ints hsg))
      have HBg := Lib.hid (HSf.out.below.trans (hsg.below (fun z hz => (HSf.out.tape.lt z hz).1) HSf.out.below.size))
      have HTg := Lib.hid (show TAt wg w.heap.size p bs' mn ⟨m.ip, m2.ip, false, l ++ [x]⟩ from by
        have e : x.2.2.2 = m2.ip := by rw [← HX.out]; rfl
        rw [← e]; exact hT)
      have HLW := Lib.hid HSf.out.low
      clear hT hsg hbs AD HSf HLf H6f H7f
      go_wp2_with (first
        | (refine ld_state (by rfl) _ rfl _ rfl _ _ H6g.out rfl ?_)
        | (refine st_state (by rfl) _ _ rfl g _ rfl rfl _ _ HGg.out rfl rfl (all_one rfl rfl rfl) ?_; intro wh hgh hth; have HGH := Lib.hid hgh; have HTH := Lib.hid hth; clear hgh hth))
      have HSh := Lib.hid (show RS w wh g rb p bs' mn m.ip (l ++ [x]) m2 (.slice u1 j1 i1) (.slice u2 j2 i2) (.slice u3 j3 i3) from ⟨HGH.out, HTH.out.whole HAg.out (fun hm => HPG.out.2.2.1 (List.mem_singleton.1 hm).symm), HTg.out.touch HTH.out (fun z hz hm => by
          rw [List.mem_singleton] at hm
          subst hm
          obtain ⟨c, T, hc, hT⟩ := HTg.out.typed z hz
          have := HGg.out
          rw [hc] at this
          simp only [Option.some.injEq, Obj.cells.injEq, and_true] at this
          rcases hT with e | e
          · rw [e] at this; exact absurd this.2 (by decide)
          · rw [e] at this; exact absurd this.2 (by decide)), LM_ints HLg.out (Ints.of_one HTH.out HGg.out (by decide)), HBg.out.trans (HTH.out.below (fun z hz => by rw [List.mem_singleton.1 hz]; exact HLW.out.1) HBg.out.size), HLW.out⟩)
      have HR2 := Lib.hid (show Right m2 by rw [← HM2.out]; exact step_right HR1.out)
      have HC2 := Lib.hid (show Cells m2 by rw [← HM2.out]; exact step_cells HR1.out HC1.out)
      have HI2 := Lib.hid (show m2.inp = m.inp by rw [← HM2.out, step_inp, HI1.out])
      have HL2 := Lib.hid (show (l ++ [x]).length + n = mn by rw [List.length_append]; have := HLL.out; show l.length + 1 + n = mn; omega)
      go_roundg (n + 1)
      case measure => omega
      case rel => exact ⟨bs', l ++ [x], m2, u1, j1, i1, u2, j2, i2, u3, j3, i3, n, rfl, HL2, HSh, HTN, HR2, HC2, HI2⟩
end Go.Proofs.YtlomfmilohbgpaaGreatDoor.Rec
/- Package record: Right of a recording. -/
namespace Go.Proofs.YtlomfmilohbgpaaGreatDoor.Rec
open Go.RowKit Book Book.Wide Mem Mach Inn
set_option linter.unusedSimpArgs false
set_option linter.unusedVariables false
/-- a list of steps, wherever it lies -/
def ReadsS (w : World) (v : Value) (l : List S) : Prop := ∃ ao cap, v = .slice ao l.length cap ∧ ∀ j x, l[j]? = some x → ∃ ad : Addr, ao = some ad ∧ w.cell? (ad.add (j * 4)) = some (.int .i64 x.1) ∧ w.cell? ⟨(ad.add (j * 4)).block, (ad.add (j * 4)).off + 1, none⟩ = some (.int .i64 x.2.1) ∧ w.cell? ⟨(ad.add (j * 4)).block, (ad.add (j * 4)).off + 2, none⟩ = some (.int .i64 x.2.2.1) ∧ w.cell? ⟨(ad.add (j * 4)).block, (ad.add (j * 4)).off + 3, none⟩ = some (.int .i64 x.2.2.2)
theorem ReadsS.below {w w' : World} {v : Value} {l : List S} (h : ReadsS w v l) (hb : Below w.heap.size w w') : ReadsS w' v l := by
  obtain ⟨ao, cap, e, hc⟩ := h
  refine ⟨ao, cap, e, fun j x hj => ?_⟩
  obtain ⟨ad, ha, h0, h1, h2, h3⟩ := hc j x hj
  have tr : ∀ {p : Addr} {u : Value}, w.cell? p = some u → w'.cell? p = some u := fun {p u} hu => by rw [hb.cell (p := p) (World.block_lt_of_cell? w _ hu)]; exact hu
  exact ⟨ad, ha, tr h0, tr h1, tr h2, tr h3⟩
theorem ReadsS.of_owns {w : World} {B : Nat} {v : Value} {l : List S} (h : OwnsK w B 33 4 v (l.flatMap seenCells)) : ReadsS w v l := by
  rcases Nat.eq_zero_or_pos l.length with h0 | h0
  · obtain ⟨ao, cap, rfl⟩ := h.slice (seen_len l) (by decide)
    exact ⟨ao, cap, rfl, fun j x hj => absurd (List.getElem?_eq_some_iff.1 hj).1 (by omega)⟩
  · obtain ⟨g, cap, rfl, hc, -, -⟩ := h.row (seen_len l) (by decide) h0
    refine ⟨some ⟨g, 0, none⟩, cap, rfl, fun j x hj => ⟨_, rfl, ?_⟩⟩
    have a0 := hc (j * 4 + 0) _ (flat_at (enc := seenCells) (fun _ => rfl) hj (i := 0) rfl)
    have a1 := hc (j * 4 + 1) _ (flat_at (enc := seenCells) (fun _ => rfl) hj (i := 1) rfl)
    have a2 := hc (j * 4 + 2) _ (flat_at (enc := seenCells) (fun _ => rfl) hj (i := 2) rfl)
    have a3 := hc (j * 4 + 3) _ (flat_at (enc := seenCells) (fun _ => rfl) hj (i := 3) rfl)
    rw [add_row]
    exact ⟨a0, a1, a2, a3⟩
/-- do the steps follow one another? where they lead -/
def runR (start : Int) : List S → Int → Bool → Option Int
  | [], at', _ => some at'
  | x :: l, at', first => if x.1 = at' ∧ (first = true ∨ at' ≠ start) ∧ fit x = true then runR start l x.2.2.2 false else none
def endR (r : R) (at' : Int) : Bool := decide (at' = r.last) && (r.loop == (decide (0 < r.steps.length) && decide (at' = r.start)))
def rightR (r : R) : Bool := decide (r.steps.length ≤ 120) && (match runR r.start r.steps r.start true with | none => false | some z => endR r z)
theorem runR_at {start : Int} {l : List S} {k : Nat} {x : S} (hx : l[k]? = some x) (at' : Int) (b : Bool) : runR start (l.drop k) at' b = if x.1 = at' ∧ (b = true ∨ at' ≠ start) ∧ fit x = true then runR start (l.drop (k + 1)) x.2.2.2 false else none := by
  have hk := (List.getElem?_eq_some_iff.1 hx).1
  rw [List.drop_eq_getElem_cons hk, show l[k] = x from (List.getElem?_eq_some_iff.1 hx).2]
  rfl
set_option maxHeartbeats 8000000 in
set_option maxRecDepth 100000 in
theorem recRight_any {w : World} {v : Value} {r : R} (h : ReadsS w v r.steps) (hl : r.steps.length ≤ 1000000) : Calls Tryz.prog 13 #[recV r v] w (Says (.bool (rightR r)) w) := by
  have HV := Lib.hid h
  obtain ⟨ao, cap, rfl, -⟩ := h
  obtain ⟨st, la, lo, l⟩ := r
  simp only at HV hl ⊢
  obtain ⟨n, hn⟩ : ∃ n, l.length = n := ⟨_, rfl⟩
  have HN := Lib.hid hn
  rw [hn] at HV hl ⊢
  obtain ⟨w1, g, hw1, hg, HG, HB, HZ⟩ := newBox w (recA ⟨st, la, lo, l⟩ (.slice ao n cap)) 29
  have g0 : w1.cell? ⟨g, 0, none⟩ = some (.int .i64 st) := whole_cell HG.out rfl
  have g3 : w1.cell? ⟨g, 3, none⟩ = some (.slice ao n cap) := whole_cell HG.out rfl
  have HLT := Lib.hid (show g < w1.heap.size from whole_lt HG.out)
  obtain ⟨res, hres⟩ : ∃ res, rightR ⟨st, la, lo, l⟩ = res := ⟨_, rfl⟩
  have HRS := Lib.hid hres
  rw [hres]
  clear hn hres
  by_cases h120 : 120 < n
  · have HF := Lib.hid (show res = false by rw [← HRS.out]; unfold rightR; rw [decide_eq_false (by show ¬ l.length ≤ 120; rw [HN.out]; omega)]; rfl)
    go_enter Tryz.func13, Tryz.ntmps13
    go_wp2
    go_ret
    exact ⟨by rw [HF.out]; rfl, HB.out⟩
  · have HRR := Lib.hid (show (match runR st l st true with | none => false | some z => endR ⟨st, la, lo, l⟩ z) = res by rw [← HRS.out]; unfold rightR; rw [decide_eq_true (by show l.length ≤ 120; rw [HN.out]; omega)]; rfl)
    go_enter Tryz.func13, Tryz.ntmps13
    go_wp2_with fail
    go_loopg [3, 15] n (fun z at' k wr => ∃ (j : Nat) (a : Int), z = n - j ∧ j ≤ n ∧ at' = .int .i64 a ∧ k = .int .i64 (j : Int) ∧ Hid (Below w1.heap.size w1 wr) ∧ Hid (runR st (l.drop j) a (decide (j = 0)) = runR st l st true))
    case atStart => exact ⟨0, st, rfl, Nat.zero_le _, rfl, rfl, Lib.hid (Below.refl _ _), Lib.hid rfl⟩
    case round =>
      obtain ⟨j, a, rfl, hj, rfl, rfl, HBR, HRN⟩ := hrel
      have HGr := Lib.hid (boxOn HG.out HBR.out)
      by_cases hlt : j < n
      · obtain ⟨x, hx⟩ : ∃ x, l[j]? = some x := ⟨_, List.getElem?_eq_getElem (by rw [HN.out]; exact hlt)⟩
        have HRA := Lib.hid (show (if x.1 = a ∧ (decide (j = 0) = true ∨ a ≠ st) ∧ fit x = true then runR st (l.drop (j + 1)) x.2.2.2 false else none) = runR st l st true by rw [← HRN.out]; exact (runR_at hx a _).symm)
        obtain ⟨ao', cap', e, hc⟩ := (HV.out.below HB.out).below HBR.out
        rw [HN.out] at e
        simp only [Value.slice.injEq, true_and] at e
        obtain ⟨rfl, rfl⟩ := e
        obtain ⟨ad, rfl, c0, c1, c2, c3⟩ := hc j x hx
        have z0 : (0 : Int) ≤ (j : Int) := by omega
        have z1 : (j : Int) < (n : Int) := by omega
        obtain ⟨w4, g4, hw4, hg4, H4, HB4, HZ4⟩ := newBox wr (seenA x) 33
        have HG4 := Lib.hid (boxOn HGr.out HB4.out)
        have C := Lib.hid (right_any x w4)
        obtain ⟨x1, x2, x3, x4⟩ := x
        have k0 : w4.cell? ⟨g4, 0, none⟩ = some (.int .i64 x1) := whole_cell H4.out rfl
        have k1 : w4.cell? ⟨g4, 1, none⟩ = some (.int .i64 x2) := whole_cell H4.out rfl
        have k2 : w4.cell? ⟨g4, 2, none⟩ = some (.int .i64 x3) := whole_cell H4.out rfl
        have k3 : w4.cell? ⟨g4, 3, none⟩ = some (.int .i64 x4) := whole_cell H4.out rfl
        have q0 : w4.cell? ⟨g, 0, none⟩ = some (.int .i64 st) := whole_cell HG4.out rfl
        have HBr4 := Lib.hid (HB.out.trans ((HBR.out.trans (HB4.out.mono HBR.out.size)).mono HB.out.size))
        clear hx hc HRN
        dsimp only at c0 c1 c2 c3
        by_cases ha : x1 = a
        · subst ha
          by_cases hj0 : j = 0
          · have HJ0 := Lib.hid hj0
            have dj : decide (0 < j) = false := decide_eq_false (by omega)
            clear hj0
            cases hf : fit (x1, x2, x3, x4) with
            | true =>
              have HFX := Lib.hid hf
              have HRA2 := Lib.hid (show runR st (l.drop (j + 1)) x4 (decide (j + 1 = 0)) = runR st l st true by
                have h := HRA.out
                rw [if_pos ⟨rfl, (.inl (decide_eq_true HJ0.out)), hf⟩] at h
                rw [show decide (j + 1 = 0) = false from decide_eq_false (Nat.succ_ne_zero j)]
                exact h)
              clear hf
              rw [HFX.out] at C
              go_wp2_with fail
              refine C.out.mono ?_
              rintro e w5 ⟨rfl, hb⟩
              have HB5 := Lib.hid (HBr4.out.trans (hb.mono HBr4.out.size))
              have HBR5 := Lib.hid ((HBR.out.trans (HB4.out.mono HBR.out.size)).trans (hb.mono (Nat.le_trans HBR.out.size HB4.out.size)))
              have e3 : w5.cell? ⟨g4, 3, none⟩ = some (.int .i64 x4) := whole_cell (boxOn H4.out hb) rfl
              clear hb C k0 k1 k2 k3 q0 c0 c1 c2 c3
              go_wp2
              go_roundg (n - (j + 1))
              case measure => omega
              case rel => exact ⟨j + 1, x4, rfl, by omega, rfl, by go_num, HBR5, HRA2⟩
            | false =>
              have HFX := Lib.hid hf
              have HF := Lib.hid (show res = false by have h := HRR.out; rw [← HRA.out, if_neg (fun h => by rw [h.2.2] at hf; cases hf)] at h; exact h.symm)
              clear hf
              rw [HFX.out] at C
              go_wp2_with fail
              refine C.out.mono ?_
              rintro e w5 ⟨rfl, hb⟩
              have HB5 := Lib.hid (HBr4.out.trans (hb.mono HBr4.out.size))
              have HBR5 := Lib.hid ((HBR.out.trans (HB4.out.mono HBR.out.size)).trans (hb.mono (Nat.le_trans HBR.out.size HB4.out.size)))
              have e3 : w5.cell? ⟨g4, 3, none⟩ = some (.int .i64 x4) := whole_cell (boxOn H4.out hb) rfl
              clear hb C k0 k1 k2 k3 q0 c0 c1 c2 c3
              go_wp2
              go_ret
              exact ⟨by rw [HF.out]; rfl, HB5.out⟩
          · have hjp : 0 < j := by omega
            have dj : decide (0 < j) = true := decide_eq_true hjp
            by_cases hst : x1 = st
            · subst hst
              have HF := Lib.hid (show res = false by have h := HRR.out; rw [← HRA.out, if_neg (fun h => by rcases h.2.1 with h | h; exact hj0 (of_decide_eq_true h); exact h rfl)] at h; exact h.symm)
              clear C hj0
              go_wp2
              go_ret
              exact ⟨by rw [HF.out]; rfl, HBr4.out⟩
            · have hs1 : (x1 == st) = false := by simpa using hst
              cases hf : fit (x1, x2, x3, x4) with
              | true =>
                have HFX := Lib.hid hf
                have HRA2 := Lib.hid (show runR st (l.drop (j + 1)) x4 (decide (j + 1 = 0)) = runR st l st true by
                  have h := HRA.out
                  rw [if_pos ⟨rfl, (.inr hst), hf⟩] at h
                  rw [show decide (j + 1 = 0) = false from decide_eq_false (Nat.succ_ne_zero j)]
                  exact h)
                clear hf
                rw [HFX.out] at C
                go_wp2_with fail
                refine C.out.mono ?_
                rintro e w5 ⟨rfl, hb⟩
                have HB5 := Lib.hid (HBr4.out.trans (hb.mono HBr4.out.size))
                have HBR5 := Lib.hid ((HBR.out.trans (HB4.out.mono HBR.out.size)).trans (hb.mono (Nat.le_trans HBR.out.size HB4.out.size)))
                have e3 : w5.cell? ⟨g4, 3, none⟩ = some (.int .i64 x4) := whole_cell (boxOn H4.out hb) rfl
                clear hb C k0 k1 k2 k3 q0 c0 c1 c2 c3
                go_wp2
                go_roundg (n - (j + 1))
                case measure => omega
                case rel => exact ⟨j + 1, x4, rfl, by omega, rfl, by go_num, HBR5, HRA2⟩
              | false =>
                have HFX := Lib.hid hf
                have HF := Lib.hid (show res = false by have h := HRR.out; rw [← HRA.out, if_neg (fun h => by rw [h.2.2] at hf; cases hf)] at h; exact h.symm)
                clear hf
                rw [HFX.out] at C
                go_wp2_with fail
                refine C.out.mono ?_
                rintro e w5 ⟨rfl, hb⟩
                have HB5 := Lib.hid (HBr4.out.trans (hb.mono HBr4.out.size))
                have HBR5 := Lib.hid ((HBR.out.trans (HB4.out.mono HBR.out.size)).trans (hb.mono (Nat.le_trans HBR.out.size HB4.out.size)))
                have e3 : w5.cell? ⟨g4, 3, none⟩ = some (.int .i64 x4) := whole_cell (boxOn H4.out hb) rfl
                clear hb C k0 k1 k2 k3 q0 c0 c1 c2 c3
                go_wp2
                go_ret
                exact ⟨by rw [HF.out]; rfl, HB5.out⟩
        · have ha1 : (x1 == a) = false := by simpa using ha
          have ha2 : (x1 != a) = true := by simpa using ha
          have HF := Lib.hid (show res = false by have h := HRR.out; rw [← HRA.out, if_neg (fun h => ha h.1)] at h; exact h.symm)
          clear C ha
          go_wp2
          go_ret
          exact ⟨by rw [HF.out]; rfl, HBr4.out⟩
      · obtain rfl : j = n := by omega
        have z1 : ¬ (j : Int) < (j : Int) := by omega
        have HBF := Lib.hid (HB.out.trans (HBR.out.mono HB.out.size))
        have p0 : wr.cell? ⟨g, 0, none⟩ = some (.int .i64 st) := whole_cell HGr.out rfl
        have p1 : wr.cell? ⟨g, 1, none⟩ = some (.int .i64 la) := whole_cell HGr.out rfl
        have p2 : wr.cell? ⟨g, 2, none⟩ = some (.bool lo) := whole_cell HGr.out rfl
        have p3 : wr.cell? ⟨g, 3, none⟩ = some (.slice ao j cap) := whole_cell HGr.out rfl
        have HE := Lib.hid (show endR ⟨st, la, lo, l⟩ a = res by
          have h := HRN.out
          rw [List.drop_of_length_le (by rw [HN.out]; exact Nat.le_refl _)] at h
          have h2 := HRR.out
          rw [← h] at h2
          exact h2)
        by_cases hz : a = la
        · subst hz
          by_cases hq : 0 < j ∧ a = st
          · obtain ⟨hq1, rfl⟩ := hq
            have dq : decide (0 < j) = true := decide_eq_true hq1
            cases lo with
            | true =>
              have HF := Lib.hid (show res = true by rw [← HE.out]; unfold endR; rw [show ({ start := a, last := a, loop := true, steps := l } : R).steps.length = j from HN.out]; simp [hq1])
              go_wp2
              go_ret
              exact ⟨by rw [HF.out]; rfl, HBF.out⟩
            | false =>
              have HF := Lib.hid (show res = false by rw [← HE.out]; unfold endR; rw [show ({ start := a, last := a, loop := false, steps := l } : R).steps.length = j from HN.out]; simp [hq1])
              go_wp2
              go_ret
              exact ⟨by rw [HF.out]; rfl, HBF.out⟩
          · by_cases hq1 : 0 < j
            · have hq2 : ¬ a = st := fun e => hq ⟨hq1, e⟩
              have dq : decide (0 < j) = true := decide_eq_true hq1
              have dq2 : (a == st) = false := by simpa using hq2
              cases lo with
              | true =>
                have HF := Lib.hid (show res = false by rw [← HE.out]; unfold endR; simp [hq2])
                clear hq hq2
                go_wp2
                go_ret
                exact ⟨by rw [HF.out]; rfl, HBF.out⟩
              | false =>
                have HF := Lib.hid (show res = true by rw [← HE.out]; unfold endR; simp [hq2])
                clear hq hq2
                go_wp2
                go_ret
                exact ⟨by rw [HF.out]; rfl, HBF.out⟩
            · have dq : decide (0 < j) = false := decide_eq_false hq1
              cases lo with
              | true =>
                have HF := Lib.hid (show res = false by rw [← HE.out]; unfold endR; rw [show ({ start := st, last := a, loop := true, steps := l } : R).steps.length = j from HN.out]; simp [hq1])
                clear hq
                go_wp2
                go_ret
                exact ⟨by rw [HF.out]; rfl, HBF.out⟩
              | false =>
                have HF := Lib.hid (show res = true by rw [← HE.out]; unfold endR; rw [show ({ start := st, last := a, loop := false, steps := l } : R).steps.length = j from HN.out]; simp [hq1])
                clear hq
                go_wp2
                go_ret
                exact ⟨by rw [HF.out]; rfl, HBF.out⟩
        · have hz1 : (a == la) = false := by simpa using hz
          have HF := Lib.hid (show res = false by rw [← HE.out]; unfold endR; simp [hz])
          clear hz
          go_wp2
          go_ret
          exact ⟨by rw [HF.out]; rfl, HBF.out⟩
end Go.Proofs.YtlomfmilohbgpaaGreatDoor.Rec
/- Numbers sorted, and of each run one: plain. -/
namespace Go.Proofs.YtlomfmilohbgpaaGreatDoor.Rec
open Go.Lib
set_option linter.unusedVariables false
set_option linter.unusedSimpArgs false
theorem get_at {l : List Int} {j : Nat} {x : Int} (h : l[j]? = some x) : l.toArray[j]! = x := by
  obtain ⟨hj, e⟩ := List.getElem?_eq_some_iff.1 h
  simp [e, hj]
/-- each element stays, once at the least -/
theorem mem_compact {l : List Int} {x : Int} (h : x ∈ l) : x ∈ compact l := by
  obtain ⟨j, hj⟩ := List.mem_iff_getElem?.1 h
  induction j using Nat.strongRecOn with
  | ind j ih =>
    have hl := (List.getElem?_eq_some_iff.1 hj).1
    by_cases h0 : j ≠ 0 ∧ l[j - 1]? = some x
    · exact ih (j - 1) (by omega) h0.2
    · unfold compact compactUpTo
      refine List.mem_map.2 ⟨j, List.mem_filter.2 ⟨List.mem_range.2 hl, ?_⟩, get_at hj⟩
      unfold keeps
      refine decide_eq_true ?_
      by_cases e : j = 0
      · exact .inl e
      · refine .inr (fun e2 => h0 ⟨e, ?_⟩)
        rw [get_at hj] at e2
        have h1 : j - 1 < l.length := by omega
        rw [List.getElem?_eq_getElem h1]
        have e3 := get_at (List.getElem?_eq_getElem h1)
        rw [← e3, ← e2]
theorem compact_mem {l : List Int} {x : Int} (h : x ∈ compact l) : x ∈ l := by
  unfold compact compactUpTo at h
  obtain ⟨j, hj, e⟩ := List.mem_map.1 h
  have hj := List.mem_range.1 (List.mem_filter.1 hj).1
  rw [get_at (List.getElem?_eq_getElem hj)] at e
  rw [← e]
  exact List.getElem_mem _
theorem compact_length (l : List Int) : (compact l).length ≤ l.length := by
  unfold compact compactUpTo
  rw [List.length_map]
  exact Nat.le_trans (List.length_filter_le _ _) (Nat.le_of_eq List.length_range)
/-- of what is sorted the rest is strictly rising -/
theorem compact_rises {l : List Int} (h : l.Pairwise (· ≤ ·)) : (compact l).Pairwise (· < ·) := by
  unfold compact compactUpTo
  rw [List.pairwise_map]
  refine List.Pairwise.imp_of_mem (R := (· < ·)) ?_ (List.Pairwise.filter _ List.pairwise_lt_range)
  intro i j hi hj hij
  have hi2 := List.mem_range.1 (List.mem_filter.1 hi).1
  have hj2 := List.mem_range.1 (List.mem_filter.1 hj).1
  have hk := (List.mem_filter.1 hj).2
  unfold keeps at hk
  have hk := of_decide_eq_true hk
  have h1 : j - 1 < l.length := by omega
  rw [get_at (List.getElem?_eq_getElem hi2), get_at (List.getElem?_eq_getElem hj2)]
  rw [get_at (List.getElem?_eq_getElem hj2), get_at (List.getElem?_eq_getElem h1)] at hk
  have p := List.pairwise_iff_getElem.1 h
  have a : l[i] ≤ l[j - 1] := by
    by_cases e : i = j - 1
    · subst e; exact Int.le_refl _
    · exact p i (j - 1) hi2 h1 (by omega)
  have b : l[j - 1] ≤ l[j] := p (j - 1) j h1 hj2 (by omega)
  rcases hk with hk | hk
  · omega
  · omega
/-- the cells that steps look at: sorted, each once -/
def pairsOf (l : List S) : List Int := l.flatMap fun x => [x.1, lastOf x]
def sorted (l : List Int) : List Int := l.mergeSort fun x y => decide (x ≤ y)
def cellsOf (l : List S) : List Int := compact (sorted (pairsOf l))
theorem sorted_le (l : List Int) : (sorted l).Pairwise (· ≤ ·) := by
  have h := List.pairwise_mergeSort (le := fun x y : Int => decide (x ≤ y)) (fun a b c h1 h2 => by simp only [decide_eq_true_eq] at *; exact Int.le_trans h1 h2) (fun a b => by simp only [Bool.or_eq_true, decide_eq_true_eq]; exact Int.le_total a b) l
  exact h.imp fun h => of_decide_eq_true h
theorem sorted_mem {l : List Int} {x : Int} : x ∈ sorted l ↔ x ∈ l := (List.mergeSort_perm l _).mem_iff
theorem sorted_length (l : List Int) : (sorted l).length = l.length := List.length_mergeSort l
theorem pairs_length (l : List S) : (pairsOf l).length = 2 * l.length := by
  unfold pairsOf
  induction l with
  | nil => rfl
  | cons x l ih =>
    rw [List.flatMap_cons, List.length_append, ih, List.length_cons]
    simp only [List.length_cons, List.length_nil]
    omega
theorem cellsOf_length (l : List S) : (cellsOf l).length ≤ 2 * l.length := by
  unfold cellsOf
  exact Nat.le_trans (compact_length _) (Nat.le_of_eq (by rw [sorted_length, pairs_length]))
theorem cellsOf_rises (l : List S) : (cellsOf l).Pairwise (· < ·) := compact_rises (sorted_le _)
theorem cellsOf_ip {l : List S} {x : S} (h : x ∈ l) : x.1 ∈ cellsOf l ∧ lastOf x ∈ cellsOf l :=
  ⟨mem_compact (sorted_mem.2 (List.mem_flatMap.2 ⟨x, h, List.mem_cons_self⟩)), mem_compact (sorted_mem.2 (List.mem_flatMap.2 ⟨x, h, List.mem_cons_of_mem _ List.mem_cons_self⟩))⟩
theorem pairs_snoc (l : List S) (x : S) : pairsOf (l ++ [x]) = pairsOf l ++ [x.1, lastOf x] := by unfold pairsOf; rw [List.flatMap_append]; simp
end Go.Proofs.YtlomfmilohbgpaaGreatDoor.Rec
/- Package record: the cells of a recording. -/
namespace Go.Proofs.YtlomfmilohbgpaaGreatDoor.Rec
open Go.RowKit Book Book.Wide Mem Mach Inn
open Go.Lib (holds_of_ownsRow ownsRow_putRow below_putRow)
open Go.Sort (Holds putRow grow)
set_option linter.unusedSimpArgs false
set_option linter.unusedVariables false
theorem below_grow {B : Nat} {w0 w : World} (os : Array Obj) (h : Below B w0 w) (hB : B ≤ w.heap.size) : Below B w0 (grow w os) :=
  ⟨h.os, h.tape, h.output, by have := h.size; simp only [grow, Array.size_append]; omega, fun k hk => by
    rw [← h.block k hk]
    exact Array.getElem?_append_left (by omega)⟩
abbrev seenZ : Array Value := #[.int .i64 0, .int .i64 0, .int .i64 0, .int .i64 0]
theorem row_two (w : World) (p q : Int) : Reads (w.alloc (.cells #[.int .i64 p, .int .i64 q] 3)) (.slice (some ⟨w.heap.size, 0, none⟩) 2 2) [p, q] := by
  have hn := heap_alloc_new w (.cells #[.int .i64 p, .int .i64 q] 3)
  refine ⟨_, _, rfl, fun j y hj => ?_⟩
  have hj2 : j = 0 ∨ j = 1 := by have := (List.getElem?_eq_some_iff.1 hj).1; simp only [List.length_cons, List.length_nil] at this; omega
  rcases hj2 with rfl | rfl
  · obtain rfl := Option.some.inj hj
    exact ⟨_, rfl, whole_cell (j := 0) hn rfl⟩
  · obtain rfl := Option.some.inj hj
    exact ⟨_, rfl, whole_cell (j := 1) hn rfl⟩
theorem off_seen {w : World} {B g : Nat} {v : Value} {xs : List Value} {cs : Array Value} (h : Owns w B 3 v xs) (hg : w.heap[g]? = some (.cells cs 33 (0, 0))) : g ∉ (blk v).toList := fun hm => by
  obtain ⟨_, _, c, hc⟩ := h.block g (by simpa using hm)
  rw [hg] at hc
  simp only [Option.some.injEq, Obj.cells.injEq] at hc
  exact absurd hc.2.1 (by decide)
theorem own_row {w : World} {B : Nat} {E : TypeId} {v : Value} {xs : List Value} (h : Owns w B E v xs) (hn : 0 < xs.length) : ∃ g cap, v = .slice (some ⟨g, 0, none⟩) xs.length cap ∧ 0 < cap ∧ B ≤ g := by
  rcases h with ⟨ao, h1, h2⟩ | ⟨g, cap, cur, h1, h0, h2, -⟩
  · subst h2; cases hn
  · exact ⟨g, cap, h1, h0, h2⟩
theorem take_pairs {l : List S} {j : Nat} {x : S} (h : l[j]? = some x) : pairsOf (l.take (j + 1)) = pairsOf (l.take j) ++ [x.1, lastOf x] := by
  rw [List.take_add_one, h, ← pairs_snoc]
  rfl
set_option maxHeartbeats 8000000 in
set_option maxRecDepth 100000 in
theorem cells_any {w : World} {v : Value} {r : R} (h : ReadsS w v r.steps) (hl : r.steps.length ≤ 1000) :
    Calls Tryz.prog 7 #[recV r v] w fun e w' => ∃ v', e = .returned v' ∧ Owns w' w.heap.size 3 v' (vals (cellsOf r.steps)) ∧ Below w.heap.size w w' := by
  obtain ⟨i0, q1, q2, q3, q4⟩ := info_parts Tryz.bkIntInfo
  have HI := Lib.hid (And.intro q1 (And.intro q2 (And.intro q3 q4)))
  have HV := Lib.hid h
  obtain ⟨ao, cap, rfl, -⟩ := h
  obtain ⟨st, la, lo, l⟩ := r
  simp only at HV hl ⊢
  obtain ⟨n, hn⟩ : ∃ n, l.length = n := ⟨_, rfl⟩
  have HN := Lib.hid hn
  rw [hn] at HV hl ⊢
  obtain ⟨w1, g, hw1, hg, HG, HB, HZ⟩ := newBox w (recA ⟨st, la, lo, l⟩ (.slice ao n cap)) 29
  have g3 : w1.cell? ⟨g, 3, none⟩ = some (.slice ao n cap) := whole_cell HG.out rfl
  clear hn q1 q2 q3 q4
  go_enter Tryz.func7, Tryz.ntmps7
  go_wp2_with fail
  go_loopg [3, 9] n (fun z lv kv wr => ∃ (j : Nat), z = n - j ∧ j ≤ n ∧ kv = .int .i64 (j : Int) ∧ Hid (Owns wr w1.heap.size 3 lv (vals (pairsOf (l.take j)))) ∧ Hid (Below w1.heap.size w1 wr) ∧ Hid (j = 0 → lv = .slice none 0 0))
  case atStart => exact ⟨0, rfl, Nat.zero_le _, rfl, Lib.hid (Owns.nil _ _ _), Lib.hid (Below.refl _ _), Lib.hid (fun _ => rfl)⟩
  case round =>
    obtain ⟨j, rfl, hj, rfl, HO, HBR, HNIL⟩ := hrel
    obtain ⟨lv, elv⟩ : ∃ z, z = u3 := ⟨_, rfl⟩
    subst elv
    by_cases hlt : j < n
    · as_aux_lemma =>
      obtain ⟨x, hx⟩ : ∃ x, l[j]? = some x := ⟨_, List.getElem?_eq_getElem (by rw [HN.out]; exact hlt)⟩
      obtain ⟨ao', cap', e, hc⟩ := (HV.out.below HB.out).below HBR.out
      rw [HN.out] at e
      simp only [Value.slice.injEq, true_and] at e
      obtain ⟨rfl, rfl⟩ := e
      obtain ⟨ad, rfl, c0, c1, c2, c3⟩ := hc j x hx
      have z0 : (0 : Int) ≤ (j : Int) := by omega
      have z1 : (j : Int) < (n : Int) := by omega
      have HX := Lib.hid (take_pairs hx)
      have HLV := Lib.hid (show (vals (pairsOf (l.take j))).length ≤ 2000 from by rw [vals_length, pairs_length, List.length_take]; omega)
      obtain ⟨x1, x2, x3, x4⟩ := x
      dsimp only at c0 c1 c2 c3
      obtain ⟨w4, g4, hw4, hg4, H4, HB4, HZ4⟩ := newBox wr seenZ 33
      have N4 := Lib.hid (show w1.heap.size ≤ g4 from by rw [← HZ4.out]; exact HBR.out.size)
      clear hx hc
      go_upto_region 5 with (refine st_seen (by rfl) _ _ rfl g4 (x1, x2, x3, x4) rfl rfl _ H4.out rfl ?_; intro w5 h5 t5; have H5 := Lib.hid h5; have T5 := Lib.hid t5; clear h5 t5)
      have HB5 := Lib.hid (show Below w1.heap.size w1 w5 from by
        have b := HBR.out.trans (HB4.out.mono HBR.out.size)
        exact b.trans (T5.out.below (fun k hk => by rw [List.mem_singleton.1 hk]; exact N4.out) b.size))
      have HO5 := Lib.hid ((HO.out.below HB4.out).touch T5.out (fun k e hm => off_seen (HO.out.below HB4.out) H4.out (by rw [List.mem_singleton] at hm; subst hm; simpa using e)))
      clear hw4 hg4 H4 HB4 HZ4 T5 HO c0 c1 c2 c3
      obtain ⟨zl, hzl⟩ : ∃ z, lastOf (x1, x2, x3, x4) = z := ⟨_, rfl⟩
      have C := Lib.hid (fun wd => last_any (x1, x2, x3, x4) wd)
      rw [hzl] at C HX
      clear hzl
      have KI := Lib.hid (fun (w' : World) (hx : w'.heap[g4]? = some (.cells (seenA (x1, x2, x3, x4)) 33 (0, 0))) => show w'.cell? ⟨g4, 0, none⟩ = some (.int .i64 x1) ∧ w'.cell? ⟨g4, 1, none⟩ = some (.int .i64 x2) ∧ w'.cell? ⟨g4, 2, none⟩ = some (.int .i64 x3) ∧ w'.cell? ⟨g4, 3, none⟩ = some (.int .i64 x4) from ⟨whole_cell hx rfl, whole_cell hx rfl, whole_cell hx rfl, whole_cell hx rfl⟩)
      have HBC : Hid (Below w5.heap.size w5 w5.drew) := Lib.hid (Below.refl _ _).drew
      have HIX := Lib.hid (boxOn H5.out HBC.out)
      have KX := Lib.hid (KI.out _ HIX.out)
      refine wp_region_held (S := fun w' => w'.cell? ⟨g4, 0, none⟩ = some (.int .i64 x1) ∧ w'.cell? ⟨g4, 1, none⟩ = some (.int .i64 x2) ∧ w'.cell? ⟨g4, 2, none⟩ = some (.int .i64 x3) ∧ w'.cell? ⟨g4, 3, none⟩ = some (.int .i64 x4)) (by kernel_rfl) ?_
      change wpAnyH _ _ _ _ _ _ _ _ (World.drew w5)
      refine wpAnyH_take (i := 0) (oi := ⟨some 13, _, _, _, _, _⟩) (v := ?_) rfl (by kernel_rfl) (by kernel_rfl) (by kernel_rfl) (fun _ _ _ h => h) (Or.inl ⟨by rfl, ?_⟩) KX.out ?_; rotate_left; · intro w hSw; (try dsimp only at hSw); go_simp; try with_reducible rfl
      try simp only [Act.put, List.setIfInBounds_toArray, List.set_cons_zero, List.set_cons_succ]
      refine wpAnyH_take (i := 1) (oi := ⟨some 14, _, _, _, _, _⟩) (v := ?_) rfl (by kernel_rfl) (by kernel_rfl) (by kernel_rfl) (fun _ _ _ h => h) (Or.inl ⟨by rfl, ?_⟩) KX.out ?_; rotate_left; · intro w hSw; (try dsimp only at hSw); go_simp; try with_reducible rfl
      try simp only [Act.put, List.setIfInBounds_toArray, List.set_cons_zero, List.set_cons_succ]
      refine wpAnyH_take (i := 2) (oi := ⟨some 15, _, _, _, _, _⟩) (v := ?_) rfl (by kernel_rfl) (by kernel_rfl) (by kernel_rfl) (fun _ _ _ h => h) (Or.inl ⟨by rfl, ?_⟩) KX.out ?_; rotate_left; · intro w hSw; (try dsimp only at hSw); go_simp; try with_reducible rfl
      try simp only [Act.put, List.setIfInBounds_toArray, List.set_cons_zero, List.set_cons_succ]
      refine wpAnyH_take (i := 3) (oi := ⟨some 16, _, _, _, _, _⟩) (v := ?_) rfl (by kernel_rfl) (by kernel_rfl) (by kernel_rfl) (fun _ _ _ h => h) (Or.inl ⟨by rfl, ?_⟩) KX.out ?_; rotate_left; · intro w hSw; (try dsimp only at hSw); go_simp; try with_reducible rfl
      try simp only [Act.put, List.setIfInBounds_toArray, List.set_cons_zero, List.set_cons_succ]
      refine wpAnyH_ready (rs := [4]) (by kernel_rfl) (by simp) ?_
      refine AllReadyH.cons rfl (fun K hK => ?_) ?_
      rotate_left
      · exact AllReadyH.nil
      go_simp
      go_at_call 19
      refine (C.out _).mono ?_
      rintro e w6 ⟨rfl, hb⟩
      have HB6 := Lib.hid (HBC.out.trans (hb.mono HBC.out.size))
      have HIX := Lib.hid (boxOn HIX.out hb)
      have KX := Lib.hid (KI.out _ HIX.out)
      have HO6 := Lib.hid (HO5.out.below HB6.out)
      clear hb
      go_wp2_with fail
      refine hK.out _ _ KX.out (fun hHeld => ?_)
      clear hK K hHeld
      try simp only [Act.put, List.setIfInBounds_toArray, List.set_cons_zero, List.set_cons_succ]
      refine wpAnyH_ready (rs := [5]) (by kernel_rfl) (by simp) ?_
      refine AllReadyH.cons rfl (fun K hK => ?_) ?_
      rotate_left
      · exact AllReadyH.nil
      go_simp
      obtain ⟨w7, hw7⟩ : ∃ z, w6.alloc (.cells #[.int .i64 x1, .int .i64 zl] 3) = z := ⟨_, rfl⟩
      rw [hw7]
      have HROW := Lib.hid (show Reads w7 (.slice (some ⟨w6.heap.size, 0, none⟩) 2 2) [x1, zl] from by rw [← hw7]; exact row_two w6 x1 zl)
      have hb : Below w6.heap.size w6 w7 := by rw [← hw7]; exact (Below.refl w6.heap.size w6).alloc (Nat.le_refl _) _
      have HB7 := Lib.hid (HB6.out.trans (hb.mono HB6.out.size))
      have HO7 := Lib.hid (HO6.out.below hb)
      have HIX := Lib.hid (boxOn HIX.out hb)
      have KX := Lib.hid (KI.out _ HIX.out)
      have HS7 := Lib.hid (show w1.heap.size ≤ w7.heap.size from Nat.le_trans HB5.out.size HB7.out.size)
      clear hw7 hb
      refine hK.out _ _ KX.out (fun hHeld => ?_)
      clear hK K hHeld
      try simp only [Act.put, List.setIfInBounds_toArray, List.set_cons_zero, List.set_cons_succ]
      refine wpAnyH_ready (rs := [6]) (by kernel_rfl) (by simp) ?_
      refine AllReadyH.cons rfl (fun K hK => ?_) ?_
      rotate_left
      · exact AllReadyH.nil
      refine step_append_reads (by rfl) _ _ 22 rfl w1.heap.size 3 i0 (.int .i64 0) 8 Tryz.underlying22 HI.out.1 HI.out.2.1 HI.out.2.2.1 HI.out.2.2.2 rfl lv (vals (pairsOf (l.take j))) rfl HO7.out _ [x1, zl] rfl HROW.out (by have := HLV.out; unfold maxLen; simp only [List.length_cons, List.length_nil]; omega) (by have := HLV.out; simp only [List.length_cons, List.length_nil]; omega) HS7.out ?_
      intro lv2 w8 ho _ ht _
      have HO8 := Lib.hid ho
      have HB8 := Lib.hid ((HB5.out.trans (HB7.out.mono HB5.out.size)).trans (ht.below (fun b hb => (HO7.out.block b (by simpa using hb)).1) HS7.out))
      have HIX := Lib.hid (ht.whole HIX.out (off_seen HO7.out HIX.out))
      have KX := Lib.hid (KI.out _ HIX.out)
      clear ho ht
      refine hK.out _ _ KX.out (fun hHeld => ?_)
      clear hK K hHeld
      try simp only [Act.put, List.setIfInBounds_toArray, List.set_cons_zero, List.set_cons_succ]
      refine wpAnyH_take (i := 7) (oi := ⟨some 3, _, _, _, _, _⟩) (v := ?_) rfl (by kernel_rfl) (by kernel_rfl) (by kernel_rfl) (fun _ _ _ h => h) (Or.inl ⟨by rfl, ?_⟩) KX.out ?_; rotate_left; · intro w hSw; (try dsimp only at hSw); go_simp; try with_reducible rfl
      try simp only [Act.put, List.setIfInBounds_toArray, List.set_cons_zero, List.set_cons_succ]
      refine wpAnyH_done (by kernel_rfl) ?_ _
      go_wp2_with fail
      go_roundg (n - (j + 1))
      case measure => omega
      case rel => exact ⟨j + 1, rfl, by omega, by go_num, Lib.hid (by rw [HX.out, vals, List.map_append]; exact HO8.out), HB8, Lib.hid (fun h => absurd h (Nat.succ_ne_zero _))⟩
    · as_aux_lemma =>
      have hnj : j = n := by omega
      have z1 : decide ((j : Int) < (n : Int)) = false := decide_eq_false (by omega)
      have HL := Lib.hid (show l.take j = l from by rw [hnj, ← HN.out, List.take_length])
      have HWR := Lib.hid (HB.out.trans (HBR.out.mono HB.out.size))
      by_cases h0 : n = 0
      · have e0 := HNIL.out (by omega)
        subst e0
        have hl0 : l = [] := List.eq_nil_of_length_eq_zero (by rw [HN.out]; exact h0)
        clear h0
        go_wp2_with fail
        refine (Tryz.slices_Sort_int_none _ _ _).mono ?_
        rintro e w6 ⟨rfl, rfl⟩
        try dsimp only
        go_wp2_with fail
        refine (Tryz.slices_Compact_int_empty _ _ _).mono ?_
        rintro e w7 ⟨rfl, rfl⟩
        try dsimp only
        go_wp2_with fail
        go_ret
        refine ⟨_, rfl, ?_, HWR.out⟩
        rw [hl0, show cellsOf [] = [] from List.eq_nil_of_length_eq_zero (Nat.le_zero.1 (cellsOf_length []))]
        exact Owns.nil _ _ _
      · have hvl : (vals (pairsOf (l.take j))).length = 2 * n := by rw [HL.out, vals_length, pairs_length, HN.out]
        obtain ⟨g6, lc6, elv, hlc, hg6⟩ := own_row HO.out (by rw [hvl]; omega)
        rw [hvl] at elv
        subst elv
        have hrow := HO.out.row_of hlc
        rw [hvl, HL.out] at hrow
        obtain ⟨P, hP⟩ : ∃ P, pairsOf l = P := ⟨_, rfl⟩
        have HP := Lib.hid hP
        have hpl : P.length = 2 * n := by rw [← hP, pairs_length, HN.out]
        rw [hP] at hrow
        obtain ⟨g', cap', e, -, hlt6, hnc, -, -, hH⟩ := holds_of_ownsRow (enc := Value.int .i64) (zs := P) hrow (by simp)
        simp only [Value.slice.injEq, Option.some.injEq, Addr.mk.injEq, and_true, true_and] at e
        obtain ⟨rfl, rfl⟩ := e
        have SC := Lib.hid (show Calls Tryz.prog 20 #[.slice (some ⟨g6, 0, none⟩) (2 * n) lc6] wr _ from by
          have h := Tryz.slices_Sort_int g6 0 lc6 P wr hH hlt6 (by omega)
          rw [hpl] at h
          exact h)
        have HROW := Lib.hid hrow
        have HPN := Lib.hid (And.intro hpl (And.intro hnc hlc))
        have HG6 := Lib.hid (show w.heap.size ≤ g6 from Nat.le_trans HB.out.size hg6)
        clear hvl h0 hrow hP hpl hH hlt6 hnc hg6 HO HNIL
        go_wp2_with fail
        refine SC.out.mono ?_
        rintro e w6 ⟨rfl, q6, os6, hw6⟩
        have HB6 := Lib.hid (show Below w.heap.size w w6 from by
          rw [hw6]
          have b := below_putRow (enc := Value.int .i64) (q := q6) (d := (sorted P).toArray) HWR.out HG6.out
          exact below_grow os6 b b.size)
        have HO6 := Lib.hid (show Owns w6 w1.heap.size 3 (.slice (some ⟨g6, 0, none⟩) (2 * n) lc6) (vals (sorted P)) from by
          have h1 := ownsRow_putRow (q := q6) (ys := sorted P) (k := 2 * n) HROW.out (by rw [sorted_length, HPN.out.1]) (Nat.le_refl _)
          rw [List.take_of_length_le (by rw [sorted_length, HPN.out.1]; exact Nat.le_refl _)] at h1
          rw [hw6]
          exact (Owns.of_row h1).below (below_grow os6 (Below.refl _ _) (Nat.le_refl _)))
        clear hw6 SC
        have hsl : (vals (sorted P)).length = 2 * n := by rw [vals_length, sorted_length, HPN.out.1]
        have hrow6 := HO6.out.row_of HPN.out.2.2
        rw [hsl] at hrow6
        obtain ⟨g', cap', e, -, hlt6, hnc, -, -, hH⟩ := holds_of_ownsRow (enc := Value.int .i64) (zs := sorted P) hrow6 (by simp)
        simp only [Value.slice.injEq, Option.some.injEq, Addr.mk.injEq, and_true, true_and] at e
        obtain ⟨rfl, rfl⟩ := e
        have SC := Lib.hid (show Calls Tryz.prog 21 #[.slice (some ⟨g6, 0, none⟩) (2 * n) lc6] w6 _ from by
          have h := Tryz.slices_Compact_int g6 0 lc6 (sorted P) w6 hH (by rw [sorted_length, HPN.out.1]; omega) (by rw [sorted_length, HPN.out.1]; exact hnc)
          rw [show (sorted P).length = 2 * n from by rw [sorted_length, HPN.out.1]] at h
          exact h)
        have HROW6 := Lib.hid hrow6
        clear hsl hrow6 hH hlt6 hnc
        try dsimp only
        go_wp2_with fail
        refine SC.out.mono ?_
        rintro e w7 ⟨rfl, q7, hw7⟩
        have HB7 := Lib.hid (show Below w.heap.size w w7 from by
          rw [hw7]
          exact below_putRow HB6.out HG6.out)
        have hcl : (Lib.compact (sorted P)).length ≤ 2 * n := by
          have h := compact_length (sorted P)
          rw [sorted_length, HPN.out.1] at h
          exact h
        have HO7 := Lib.hid (show Owns w7 w1.heap.size 3 (.slice (some ⟨g6, 0, none⟩) (Lib.compact (sorted P)).length lc6) (vals (Lib.compact (sorted P))) from by
          have h1 := ownsRow_putRow (q := q7) (ys := Lib.compact (sorted P) ++ List.replicate (2 * n - (Lib.compact (sorted P)).length) 0) (k := (Lib.compact (sorted P)).length) HROW6.out (by rw [List.length_append, List.length_replicate]; omega) hcl
          rw [List.take_left] at h1
          rw [hw7]
          exact Owns.of_row h1)
        clear hw7 SC hcl
        try dsimp only
        go_wp2_with fail
        go_ret
        refine ⟨_, rfl, ?_, HB7.out⟩
        rw [show cellsOf l = Lib.compact (sorted P) from by unfold cellsOf; rw [HP.out]]
        exact HO7.out.from HB.out.size
end Go.Proofs.YtlomfmilohbgpaaGreatDoor.Rec
/- What is recorded does not hang on the handler; a recording of fewer steps is a longer one's beginning. -/
namespace Go.Proofs.YtlomfmilohbgpaaGreatDoor.Rec
open Mach
open Go.RowKit (wrap64)
set_option linter.unusedVariables false
set_option linter.unusedSimpArgs false
theorem fault_bare (s : M) (c : Int) : (fault { s with handler := 0 } c).status = 2 := by
  unfold fault caught
  simp
theorem fault_no {s : M} {c : Int} (h : (fault { s with handler := 0 } c).status = 0) : False := by
  rw [fault_bare] at h; exact absurd h (by decide)
theorem may_fault {s e e' A A' : M} {C : Prop} [Decidable C] {c : Int} (h : e'.status = 0) (he : e = if C then fault s c else A) (hb : e' = if C then fault { s with handler := 0 } c else A') (hA : A = { A' with handler := s.handler }) : e = { e' with handler := s.handler } := by
  by_cases hc : C
  · rw [hb, if_pos hc] at h; exact (fault_no h).elim
  · rw [he, hb, if_neg hc, if_neg hc, hA]
theorem two_ways {s e e' A A' D D' : M} {C : Prop} [Decidable C] (he : e = if C then A else D) (hb : e' = if C then A' else D') (hA : A = { A' with handler := s.handler }) (hD : D = { D' with handler := s.handler }) : e = { e' with handler := s.handler } := by
  by_cases hc : C
  · rw [he, hb, if_pos hc, if_pos hc, hA]
  · rw [he, hb, if_neg hc, if_neg hc, hD]
theorem exec_bare (s : M) (i g : Int) {k : Nat} (hk : plainOf k = true) (h : (exec k (bare s) i g).status = 0) : exec k s i g = { exec k (bare s) i g with handler := s.handler } := by
  unfold plainOf at hk
  have hk := of_decide_eq_true hk
  by_cases h1 : k ∈ [16, 20, 26, 27]
  · rw [exec_one s i g h1, exec_one (bare s) i g h1]; rfl
  by_cases h2 : k ∈ [11, 12, 13, 14, 15, 17, 18, 19, 21, 22, 23, 24, 25, 28, 29]
  · rw [exec_two (bare s) i g h2] at h
    rw [exec_two s i g h2, exec_two (bare s) i g h2]
    by_cases hc : (Cell.two k (nth s.stack 1) (nth s.stack 0)).2 = true
    · rw [if_pos hc, if_pos (show (Cell.two k (nth (bare s).stack 1) (nth (bare s).stack 0)).2 = true from hc)]; rfl
    · rw [if_neg (show ¬ (Cell.two k (nth (bare s).stack 1) (nth (bare s).stack 0)).2 = true from hc)] at h
      exact (fault_no h).elim
  have h3 : k = 2 ∨ k = 3 ∨ k = 4 ∨ k = 5 ∨ k = 6 ∨ k = 7 ∨ k = 8 ∨ k = 9 ∨ k = 10 ∨ k = 30 ∨ k = 31 ∨ k = 32 ∨ k = 33 ∨ k = 34 ∨ k = 35 ∨ k = 36 ∨ k = 37 ∨ k = 38 ∨ k = 39 ∨ k = 40 ∨ k = 41 ∨ k = 42 ∨ k = 43 ∨ k = 44 ∨ k = 47 := by
    simp only [List.mem_cons, List.not_mem_nil, or_false] at h1 h2
    omega
  clear h1 h2 hk
  rcases h3 with rfl | rfl | rfl | rfl | rfl | rfl | rfl | rfl | rfl | rfl | rfl | rfl | rfl | rfl | rfl | rfl | rfl | rfl | rfl | rfl | rfl | rfl | rfl | rfl | rfl
  all_goals first
    | rfl
    | exact may_fault h rfl rfl rfl
    | exact two_ways rfl rfl rfl rfl
theorem step_none (s : M) (h0 : s.status = 0) (hf : plainI (ld s s.ip) = true ∨ 64 ≤ ld s s.ip) (h : (Mach.step { s with handler := 0 }).status = 0) : Mach.step s = { Mach.step { s with handler := 0 } with handler := s.handler } := by
  unfold Mach.step at h ⊢
  dsimp only at h ⊢
  have hs : ¬ s.status ≠ 0 := fun e => e h0
  rw [if_neg hs] at h
  rw [if_neg hs, if_neg hs]
  by_cases h1 : s.ip < 0 ∨ (s.mem.length : Int) ≤ s.ip
  · rw [if_pos h1] at h; exact (fault_no h).elim
  rw [if_neg h1] at h
  rw [if_neg h1, if_neg h1]
  have hl : ld s s.ip = s.mem.getD s.ip.toNat 0 := by unfold ld; rw [if_neg h1]
  rw [hl] at hf
  by_cases h2 : 64 ≤ s.mem.getD s.ip.toNat 0
  · rw [if_pos h2] at h
    rw [if_pos h2, if_pos h2]
    by_cases h3 : 48 ≤ s.back.length
    · rw [if_pos h3] at h; exact (fault_no h).elim
    · rw [if_neg h3, if_neg h3]
  rw [if_neg h2] at h
  rw [if_neg h2, if_neg h2]
  by_cases h3 : s.mem.getD s.ip.toNat 0 < 0 ∨ 48 ≤ s.mem.getD s.ip.toNat 0
  · rw [if_pos h3] at h; exact (fault_no h).elim
  rw [if_neg h3] at h
  rw [if_neg h3, if_neg h3]
  have hp : plainOf (s.mem.getD s.ip.toNat 0).toNat = true := by
    rcases hf with hf | hf
    · unfold plainI at hf
      split at hf
      · exact hf
      · cases hf
    · exact absurd hf h2
  by_cases h4 : argOf (s.mem.getD s.ip.toNat 0).toNat = true ∧ s.mem.length ≤ s.ip.toNat + 1
  · rw [if_pos h4] at h; exact (fault_no h).elim
  rw [if_neg h4] at h
  rw [if_neg h4, if_neg h4]
  generalize hm : movesOf (s.mem.getD s.ip.toNat 0).toNat = mv at h ⊢
  by_cases h5 : (s.stack.length : Int) < mv.1
  · rw [if_pos h5] at h; exact (fault_no h).elim
  rw [if_neg h5] at h
  rw [if_neg h5, if_neg h5]
  by_cases h6 : (s.back.length : Int) < mv.2.1
  · rw [if_pos h6] at h; exact (fault_no h).elim
  rw [if_neg h6] at h
  rw [if_neg h6, if_neg h6]
  by_cases h7 : 48 < (s.stack.length : Int) - mv.1 + mv.2.2.1
  · rw [if_pos h7] at h; exact (fault_no h).elim
  rw [if_neg h7] at h
  rw [if_neg h7, if_neg h7]
  by_cases h8 : 48 < (s.back.length : Int) - mv.2.1 + mv.2.2.2
  · rw [if_pos h8] at h; exact (fault_no h).elim
  rw [if_neg h8] at h
  rw [if_neg h8, if_neg h8]
  exact exec_bare s _ _ hp h
theorem step_bare (s : M) (h0 : s.status = 0) (hf : plainI (ld s s.ip) = true ∨ 64 ≤ ld s s.ip) (h : (Mach.step (bare s)).status = 0) : Mach.step s = { Mach.step (bare s) with handler := s.handler } := step_none s h0 hf h
theorem exec_handler (s : M) (i g : Int) {k : Nat} (hk : plainOf k = true) (h : (exec k (bare s) i g).status = 0) : (exec k (bare s) i g).handler = 0 := by
  have e := exec_bare (bare s) i g hk h
  have e2 : bare (bare s) = bare s := rfl
  rw [e2] at e
  exact congrArg M.handler e
theorem bare_handler (s : M) (h0 : s.status = 0) (hf : plainI (ld s s.ip) = true ∨ 64 ≤ ld s s.ip) (h : (Mach.step (bare s)).status = 0) : (Mach.step (bare s)).handler = 0 := by
  have e := step_bare (bare s) h0 hf h
  have e2 : bare (bare s) = bare s := rfl
  rw [e2] at e
  exact congrArg M.handler e
theorem bare_back {a b : M} {h : Int} (e : a = { b with handler := h }) (hb : b.handler = 0) : b = bare a := by
  subst e
  cases b
  simp only at hb
  subst hb
  rfl
/-- what is recorded can be done again: behind as many steps the machine is where the recording ends -/
theorem tape_runs (start : Int) : ∀ (left : Nat) (l : List S) (m : M) (R0 : R), tape start left l (bare m) = R0 → m.status = 0 → ∃ (k : Nat) (t : M), R0.steps.length = l.length + k ∧ R0.steps.take l.length = l ∧ Mach.run k m = (t, 0) ∧ t.status = 0 ∧ t.ip = R0.last ∧ R0.start = start ∧ k ≤ left := by
  intro left
  induction left with
  | zero =>
    intro l m R0 hR h0
    refine ⟨0, m, ?_⟩
    unfold tape at hR
    split at hR <;> subst hR <;> exact ⟨rfl, List.take_length, rfl, h0, rfl, rfl, Nat.le_refl _⟩
  | succ n ih =>
    intro l m R0 hR h0
    unfold tape at hR
    by_cases hb : l ≠ [] ∧ (bare m).ip = start
    · rw [if_pos hb] at hR
      subst hR
      exact ⟨0, m, rfl, List.take_length, rfl, h0, rfl, rfl, Nat.zero_le _⟩
    · rw [if_neg hb] at hR
      change (if _ then _ else _) = R0 at hR
      by_cases hs : (Mach.step (bare m)).status ≠ 0 ∨ fit (see (bare m) (Mach.step (bare m)).ip) = false
      · rw [if_pos hs] at hR
        subst hR
        exact ⟨0, m, rfl, List.take_length, rfl, h0, rfl, rfl, Nat.zero_le _⟩
      · rw [if_neg hs] at hR
        have hst : (Mach.step (bare m)).status = 0 := Decidable.byContradiction fun e => hs (.inl e)
        have hf : fit (see (bare m) (Mach.step (bare m)).ip) = true := by
          cases hq : fit (see (bare m) (Mach.step (bare m)).ip) with
          | true => rfl
          | false => exact absurd (.inr hq) hs
        unfold fit at hf
        have hf := (of_decide_eq_true hf).1
        have hm := step_bare m h0 hf hst
        have hbs : Mach.step (bare m) = bare (Mach.step m) := bare_back hm (bare_handler m h0 hf hst)
        rw [hbs] at hR
        obtain ⟨k, t, h1, h2, h3, h4, h5, h6, h7⟩ := ih _ _ _ hR (by rw [hm]; exact hst)
        refine ⟨k + 1, t, by rw [h1, List.length_append]; simp; omega, ?_, ?_, h4, h5, h6, by omega⟩
        · have h8 := congrArg (List.take l.length) h2
          rw [List.take_take, List.length_append, Nat.min_eq_left (by simp), List.take_left] at h8
          exact h8
        · show (if m.status = 0 then _ else _) = _
          rw [if_pos h0]; exact h3
end Go.Proofs.YtlomfmilohbgpaaGreatDoor.Rec
/- What is recorded hangs on the cells alone that are looked at: another number in another cell changes nothing, where no operation reads the memory. -/
namespace Go.Proofs.YtlomfmilohbgpaaGreatDoor.Rec
open Mach
open Go.RowKit (wrap64)
set_option linter.unusedVariables false
set_option linter.unusedSimpArgs false
/-- alike but for one cell of the memory -/
def Sim (p : Nat) (m m' : M) : Prop := ∃ me, m' = { m with mem := me } ∧ me.length = m.mem.length ∧ ∀ j, j ≠ p → me.getD j 0 = m.mem.getD j 0
theorem Sim.set (p : Nat) (m : M) (v : Int) : Sim p m { m with mem := m.mem.set p v } := by
  refine ⟨_, rfl, List.length_set, fun j hj => ?_⟩
  simp only [List.getD_eq_getElem?_getD, List.getElem?_set]
  rw [if_neg (fun h => hj h.symm)]
theorem Sim.bare {p : Nat} {m m' : M} (h : Sim p m m') : Sim p (bare m) (bare m') := by
  obtain ⟨me, rfl, h1, h2⟩ := h
  exact ⟨me, rfl, h1, h2⟩
/-- the answer of a step that stays in the same memory -/
theorem Sim.of {p : Nat} {m a b : M} {me : List Int} (h1 : me.length = m.mem.length) (h2 : ∀ j, j ≠ p → me.getD j 0 = m.mem.getD j 0) (ha : a.mem = m.mem) (hb : b = { a with mem := me }) : Sim p a b := ⟨me, hb, by rw [h1, ha], fun j hj => by rw [h2 j hj, ha]⟩
theorem sim_two {p : Nat} {m e e' A A' D D' : M} {C : Prop} [Decidable C] {me : List Int} (h1 : me.length = m.mem.length) (h2 : ∀ j, j ≠ p → me.getD j 0 = m.mem.getD j 0) (he : e = if C then A else D) (hb : e' = if C then A' else D') (a1 : A.mem = m.mem) (a2 : A' = { A with mem := me }) (d1 : D.mem = m.mem) (d2 : D' = { D with mem := me }) : Sim p e e' := by
  by_cases hc : C
  · rw [he, hb, if_pos hc, if_pos hc]; exact Sim.of h1 h2 a1 a2
  · rw [he, hb, if_neg hc, if_neg hc]; exact Sim.of h1 h2 d1 d2
theorem sim_fault {p : Nat} {m e e' A A' : M} {C : Prop} [Decidable C] {c : Int} {me : List Int} (h : e.status = 0) (h1 : me.length = m.mem.length) (h2 : ∀ j, j ≠ p → me.getD j 0 = m.mem.getD j 0) (he : e = if C then fault { m with handler := 0 } c else A) (hb : e' = if C then fault { m with handler := 0, mem := me } c else A') (a1 : A.mem = m.mem) (a2 : A' = { A with mem := me }) : Sim p e e' := by
  by_cases hc : C
  · rw [he, if_pos hc] at h; exact (fault_no h).elim
  · rw [he, hb, if_neg hc, if_neg hc]; exact Sim.of h1 h2 a1 a2
theorem sim_store {p : Nat} {l me : List Int} (h1 : me.length = l.length) (h2 : ∀ j, j ≠ p → me.getD j 0 = l.getD j 0) (a : Nat) (q : Int) : (me.set a q).length = (l.set a q).length ∧ ∀ j, j ≠ p → (me.set a q).getD j 0 = (l.set a q).getD j 0 := by
  refine ⟨by rw [List.length_set, List.length_set, h1], fun j hj => ?_⟩
  have := h2 j hj
  simp only [List.getD_eq_getElem?_getD, List.getElem?_set] at this ⊢
  by_cases e : a = j
  · subst e
    rw [if_pos rfl, if_pos rfl, h1]
  · rw [if_neg e, if_neg e]; exact this
theorem exec_sim {p : Nat} (m : M) (me : List Int) (h1 : me.length = m.mem.length) (h2 : ∀ j, j ≠ p → me.getD j 0 = m.mem.getD j 0) (i g : Int) {k : Nat} (hk : plainOf k = true) (n1 : k ≠ 30) (n2 : k ≠ 32) (n3 : k ≠ 44) (h : (exec k { m with handler := 0 } i g).status = 0) : Sim p (exec k { m with handler := 0 } i g) (exec k { m with handler := 0, mem := me } i g) := by
  unfold plainOf at hk
  have hk := of_decide_eq_true hk
  by_cases e1 : k ∈ [16, 20, 26, 27]
  · rw [exec_one _ i g e1, exec_one _ i g e1]; exact Sim.of h1 h2 rfl rfl
  by_cases e2 : k ∈ [11, 12, 13, 14, 15, 17, 18, 19, 21, 22, 23, 24, 25, 28, 29]
  · rw [exec_two _ i g e2] at h
    rw [exec_two _ i g e2, exec_two _ i g e2]
    by_cases hc : (Cell.two k (nth m.stack 1) (nth m.stack 0)).2 = true
    · rw [if_pos (show (Cell.two k (nth ({ m with handler := 0 } : M).stack 1) (nth ({ m with handler := 0 } : M).stack 0)).2 = true from hc), if_pos (show (Cell.two k (nth ({ m with handler := 0, mem := me } : M).stack 1) (nth ({ m with handler := 0, mem := me } : M).stack 0)).2 = true from hc)]
      exact Sim.of h1 h2 rfl rfl
    · rw [if_neg (show ¬ (Cell.two k (nth ({ m with handler := 0 } : M).stack 1) (nth ({ m with handler := 0 } : M).stack 0)).2 = true from hc)] at h
      exact (fault_no h).elim
  have h3 : k = 2 ∨ k = 3 ∨ k = 4 ∨ k = 5 ∨ k = 6 ∨ k = 7 ∨ k = 8 ∨ k = 9 ∨ k = 10 ∨ k = 31 ∨ k = 33 ∨ k = 34 ∨ k = 35 ∨ k = 36 ∨ k = 37 ∨ k = 38 ∨ k = 39 ∨ k = 40 ∨ k = 41 ∨ k = 42 ∨ k = 43 ∨ k = 47 := by
    simp only [List.mem_cons, List.not_mem_nil, or_false] at e1 e2
    omega
  clear e1 e2 hk n1 n2 n3
  by_cases e3 : k = 31
  · subst e3
    change (if nth m.stack 0 < 0 ∨ (m.mem.length : Int) ≤ nth m.stack 0 then fault { m with handler := 0 } (-9) else _ : M).status = 0 at h
    by_cases hc : nth m.stack 0 < 0 ∨ (m.mem.length : Int) ≤ nth m.stack 0
    · rw [if_pos hc] at h; exact (fault_no h).elim
    · have a : exec 31 { m with handler := 0 } i g = { m with handler := 0, ip := i, stack := less m.stack 2, mem := m.mem.set (nth m.stack 0).toNat (nth m.stack 1) } := if_neg hc
      have b : exec 31 { m with handler := 0, mem := me } i g = { m with handler := 0, ip := i, stack := less m.stack 2, mem := me.set (nth m.stack 0).toNat (nth m.stack 1) } := if_neg (show ¬ (nth m.stack 0 < 0 ∨ (me.length : Int) ≤ nth m.stack 0) by rw [h1]; exact hc)
      rw [a, b]
      have q := sim_store h1 h2 (nth m.stack 0).toNat (nth m.stack 1)
      exact ⟨_, rfl, q.1, q.2⟩
  have h3 : k = 2 ∨ k = 3 ∨ k = 4 ∨ k = 5 ∨ k = 6 ∨ k = 7 ∨ k = 8 ∨ k = 9 ∨ k = 10 ∨ k = 33 ∨ k = 34 ∨ k = 35 ∨ k = 36 ∨ k = 37 ∨ k = 38 ∨ k = 39 ∨ k = 40 ∨ k = 41 ∨ k = 42 ∨ k = 43 ∨ k = 47 := by omega
  rcases h3 with rfl | rfl | rfl | rfl | rfl | rfl | rfl | rfl | rfl | rfl | rfl | rfl | rfl | rfl | rfl | rfl | rfl | rfl | rfl | rfl | rfl
  all_goals first
    | exact Sim.of h1 h2 rfl rfl
    | exact sim_fault h h1 h2 rfl rfl rfl rfl
    | exact sim_two h1 h2 rfl rfl rfl rfl rfl rfl
theorem exec_noarg (s : M) (i g g' : Int) {k : Nat} (hk : plainOf k = true) (ha : argOf k = false) : exec k s i g = exec k s i g' := by
  unfold plainOf at hk
  have hk := of_decide_eq_true hk
  unfold argOf at ha
  have ha := of_decide_eq_false ha
  by_cases e1 : k ∈ [16, 20, 26, 27]
  · rw [exec_one _ i g e1, exec_one _ i g' e1]
  by_cases e2 : k ∈ [11, 12, 13, 14, 15, 17, 18, 19, 21, 22, 23, 24, 25, 28, 29]
  · rw [exec_two _ i g e2, exec_two _ i g' e2]
  have h3 : k = 5 ∨ k = 6 ∨ k = 7 ∨ k = 8 ∨ k = 9 ∨ k = 10 ∨ k = 30 ∨ k = 31 ∨ k = 32 ∨ k = 33 ∨ k = 34 ∨ k = 35 ∨ k = 36 ∨ k = 39 ∨ k = 40 ∨ k = 41 ∨ k = 42 ∨ k = 43 ∨ k = 44 ∨ k = 47 := by
    simp only [List.mem_cons, List.not_mem_nil, or_false] at e1 e2
    omega
  clear e1 e2 hk ha
  rcases h3 with rfl | rfl | rfl | rfl | rfl | rfl | rfl | rfl | rfl | rfl | rfl | rfl | rfl | rfl | rfl | rfl | rfl | rfl | rfl | rfl
  all_goals rfl
/-- .. of a step -/
theorem step_sim {p : Nat} (m : M) (me : List Int) (h1 : me.length = m.mem.length) (h2 : ∀ j, j ≠ p → me.getD j 0 = m.mem.getD j 0) (h0 : m.status = 0) (hf : plainI (ld m m.ip) = true ∨ 64 ≤ ld m m.ip) (hp : m.ip ≠ (p : Int)) (hq : argI (ld m m.ip) = true → m.ip + 1 ≠ (p : Int)) (n1 : ld m m.ip ≠ 30) (n2 : ld m m.ip ≠ 32) (n3 : ld m m.ip ≠ 44) (h : (Mach.step { m with handler := 0 }).status = 0) :
    Sim p (Mach.step { m with handler := 0 }) (Mach.step { m with handler := 0, mem := me }) := by
  unfold Mach.step at h ⊢
  dsimp only at h ⊢
  have hs : ¬ m.status ≠ 0 := fun e => e h0
  rw [if_neg hs] at h
  rw [if_neg hs, if_neg hs]
  by_cases c1 : m.ip < 0 ∨ (m.mem.length : Int) ≤ m.ip
  · rw [if_pos c1] at h; exact (fault_no h).elim
  rw [if_neg c1] at h
  rw [if_neg c1, if_neg (show ¬ (m.ip < 0 ∨ (me.length : Int) ≤ m.ip) by rw [h1]; exact c1)]
  have hl : ld m m.ip = m.mem.getD m.ip.toNat 0 := by unfold ld; rw [if_neg c1]
  rw [hl] at hf hq n1 n2 n3
  rw [h2 m.ip.toNat (by omega)]
  by_cases c2 : 64 ≤ m.mem.getD m.ip.toNat 0
  · rw [if_pos c2] at h
    rw [if_pos c2, if_pos c2]
    by_cases c3 : 48 ≤ m.back.length
    · rw [if_pos c3] at h; exact (fault_no h).elim
    · rw [if_neg c3, if_neg c3]; exact Sim.of h1 h2 rfl rfl
  rw [if_neg c2] at h
  rw [if_neg c2, if_neg c2]
  by_cases c3 : m.mem.getD m.ip.toNat 0 < 0 ∨ 48 ≤ m.mem.getD m.ip.toNat 0
  · rw [if_pos c3] at h; exact (fault_no h).elim
  rw [if_neg c3] at h
  rw [if_neg c3, if_neg c3]
  have hpl : plainOf (m.mem.getD m.ip.toNat 0).toNat = true := by
    rcases hf with hf | hf
    · unfold plainI at hf
      split at hf
      · exact hf
      · cases hf
    · exact absurd hf c2
  have hai : argI (m.mem.getD m.ip.toNat 0) = argOf (m.mem.getD m.ip.toNat 0).toNat := by unfold argI; rw [if_pos (by unfold isOp; omega)]
  rw [h1]
  by_cases c4 : argOf (m.mem.getD m.ip.toNat 0).toNat = true ∧ m.mem.length ≤ m.ip.toNat + 1
  · rw [if_pos c4] at h; exact (fault_no h).elim
  rw [if_neg c4] at h
  rw [if_neg c4, if_neg c4]
  generalize hm : movesOf (m.mem.getD m.ip.toNat 0).toNat = mv at h ⊢
  by_cases c5 : (m.stack.length : Int) < mv.1
  · rw [if_pos c5] at h; exact (fault_no h).elim
  rw [if_neg c5] at h
  rw [if_neg c5, if_neg c5]
  by_cases c6 : (m.back.length : Int) < mv.2.1
  · rw [if_pos c6] at h; exact (fault_no h).elim
  rw [if_neg c6] at h
  rw [if_neg c6, if_neg c6]
  by_cases c7 : 48 < (m.stack.length : Int) - mv.1 + mv.2.2.1
  · rw [if_pos c7] at h; exact (fault_no h).elim
  rw [if_neg c7] at h
  rw [if_neg c7, if_neg c7]
  by_cases c8 : 48 < (m.back.length : Int) - mv.2.1 + mv.2.2.2
  · rw [if_pos c8] at h; exact (fault_no h).elim
  rw [if_neg c8] at h
  rw [if_neg c8, if_neg c8]
  by_cases ha : argOf (m.mem.getD m.ip.toNat 0).toNat = true
  · rw [h2 (m.ip.toNat + 1) (by have := hq (by rw [hai]; exact ha); omega)]
    exact exec_sim m me h1 h2 _ _ hpl (by omega) (by omega) (by omega) h
  · rw [exec_noarg _ _ (me.getD (m.ip.toNat + 1) 0) (m.mem.getD (m.ip.toNat + 1) 0) hpl (by simpa using ha)]
    exact exec_sim m me h1 h2 _ _ hpl (by omega) (by omega) (by omega) h
theorem fit_parts {x : S} (h : fit x = true) : (plainI x.2.1 = true ∨ 64 ≤ x.2.1) ∧ place x.1 = true := by
  unfold fit at h
  have h := of_decide_eq_true h
  exact ⟨h.1, h.2.2.1⟩
/-- a step that looks at other cells alone, and reads none -/
structure Far (p : Nat) (x : S) : Prop where
  ip : x.1 ≠ (p : Int)
  last : lastOf x ≠ (p : Int)
  fetch : x.2.1 ≠ 30
  addTo : x.2.1 ≠ 32
  execute : x.2.1 ≠ 44
theorem ld_sim {p : Nat} (m : M) (me : List Int) (h1 : me.length = m.mem.length) (h2 : ∀ j, j ≠ p → me.getD j 0 = m.mem.getD j 0) {a : Int} (ha : a ≠ (p : Int)) : ld { m with mem := me } a = ld m a := by
  unfold ld
  dsimp only
  rw [h1]
  split
  · rfl
  · rw [h2 a.toNat (by omega)]
theorem see_sim {p : Nat} (m : M) (me : List Int) (h1 : me.length = m.mem.length) (h2 : ∀ j, j ≠ p → me.getD j 0 = m.mem.getD j 0) {nx : Int} (h : Far p (see m nx)) : see { m with mem := me } nx = see m nx := by
  have e1 : ld { m with mem := me } m.ip = ld m m.ip := ld_sim m me h1 h2 h.ip
  unfold see
  show (m.ip, ld { m with mem := me } m.ip, (if argI (ld { m with mem := me } m.ip) = true then ld { m with mem := me } (wrap64 (m.ip + 1)) else 0), nx) = _
  rw [e1]
  by_cases ha : argI (ld m m.ip) = true
  · have hl := h.last
    unfold lastOf at hl
    change (if argI (ld m m.ip) = true then wrap64 (m.ip + 1) else m.ip) ≠ _ at hl
    rw [if_pos ha] at hl
    rw [if_pos ha, if_pos ha, ld_sim m me h1 h2 hl]
  · rw [if_neg ha, if_neg ha]
/-- what was recorded stays at the recording's beginning -/
theorem tape_take (start : Int) : ∀ (left : Nat) (l : List S) (m : M), (tape start left l m).steps.take l.length = l ∧ l.length ≤ (tape start left l m).steps.length := by
  intro left
  induction left with
  | zero => intro l m; unfold tape; split <;> exact ⟨List.take_length, Nat.le_refl _⟩
  | succ n ih =>
    intro l m
    unfold tape
    split
    · exact ⟨List.take_length, Nat.le_refl _⟩
    · dsimp only
      split
      · exact ⟨List.take_length, Nat.le_refl _⟩
      · obtain ⟨h1, h2⟩ := ih (l ++ [see m (Mach.step m).ip]) (Mach.step m)
        rw [List.length_append] at h2
        have h8 := congrArg (List.take l.length) h1
        rw [List.take_take, List.length_append, Nat.min_eq_left (by simp), List.take_left] at h8
        exact ⟨h8, by simp only [List.length_cons, List.length_nil] at h2; omega⟩
theorem tape_next (start : Int) (n : Nat) (l : List S) (x : S) (m : M) : (tape start n (l ++ [x]) m).steps.drop l.length = x :: (tape start n (l ++ [x]) m).steps.drop (l ++ [x]).length := by
  obtain ⟨h1, h2⟩ := tape_take start n (l ++ [x]) m
  generalize (tape start n (l ++ [x]) m).steps = L at h1 h2
  rw [List.length_append] at h1 h2
  simp only [List.length_cons, List.length_nil, List.length_append] at h1 h2 ⊢
  have e : L = (l ++ [x]) ++ L.drop (l.length + (0 + 1)) := by
    conv => lhs; rw [← List.take_append_drop (l.length + (0 + 1)) L]
    rw [h1]
  have e2 := congrArg (List.drop l.length) e
  rw [List.append_assoc, List.drop_left] at e2
  rw [e2]
  rfl
theorem tape_none (start : Int) (l : List S) (m : M) : (tape start 0 l m).steps = l := by unfold tape; split <;> rfl
theorem tape_succ (start : Int) (n : Nat) (l : List S) (m : M) : tape start (n + 1) l m = if l ≠ [] ∧ m.ip = start then (⟨start, m.ip, true, l⟩ : R) else if (Mach.step m).status ≠ 0 ∨ fit (see m (Mach.step m).ip) = false then (⟨start, m.ip, false, l⟩ : R) else tape start n (l ++ [see m (Mach.step m).ip]) (Mach.step m) := by
  conv => lhs; unfold tape
/-- so many steps of a machine that is alike but for a cell that none of them looks at -/
theorem tape_sim {p : Nat} (start : Int) : ∀ (left : Nat) (l : List S) (m m' : M), Sim p m m' → m.handler = 0 → m.status = 0 → (∀ x ∈ (tape start left l m).steps.drop l.length, Far p x) → (tape start ((tape start left l m).steps.length - l.length) l m').steps = (tape start left l m).steps := by
  intro left
  induction left with
  | zero => intro l m m' _ _ _ _; rw [tape_none, Nat.sub_self, tape_none]
  | succ n ih =>
    intro l m m' hs hh h0 hx
    obtain ⟨me, rfl, h1, h2⟩ := hs
    have hm : m = { m with handler := 0 } := by cases m; simp only at hh; subst hh; rfl
    rw [tape_succ] at hx ⊢
    by_cases hl : l ≠ [] ∧ m.ip = start
    · rw [if_pos hl]
      show (tape start (l.length - l.length) l _).steps = l
      rw [Nat.sub_self, tape_none]
    · rw [if_neg hl] at hx ⊢
      by_cases he : (Mach.step m).status ≠ 0 ∨ fit (see m (Mach.step m).ip) = false
      · rw [if_pos he]
        show (tape start (l.length - l.length) l _).steps = l
        rw [Nat.sub_self, tape_none]
      · rw [if_neg he] at hx ⊢
        have hst : (Mach.step m).status = 0 := Decidable.byContradiction fun e => he (.inl e)
        have hf : fit (see m (Mach.step m).ip) = true := by
          cases hq : fit (see m (Mach.step m).ip) with
          | true => rfl
          | false => exact absurd (.inr hq) he
        rw [tape_next] at hx
        have hfar := hx _ List.mem_cons_self
        have hff := fit_parts hf
        have hpl : place m.ip = true := hff.2
        unfold place at hpl
        have hpl := of_decide_eq_true hpl
        have sim : Sim p (Mach.step m) (Mach.step { m with mem := me }) := by
          have q := step_sim m me h1 h2 h0 hff.1 hfar.ip (fun ha => by
            have hla := hfar.last
            unfold lastOf at hla
            change (if argI (ld m m.ip) = true then wrap64 (m.ip + 1) else m.ip) ≠ _ at hla
            rw [if_pos ha] at hla
            have e : wrap64 (m.ip + 1) = m.ip + 1 := by unfold wrap64; omega
            rw [e] at hla
            exact hla) hfar.fetch hfar.addTo hfar.execute (by rw [← hm]; exact hst)
          rw [← hm] at q
          have e : ({ m with handler := 0, mem := me } : M) = { m with mem := me } := by rw [← hh]
          rw [e] at q
          exact q
        have hh2 : (Mach.step m).handler = 0 := by
          have e : Rec.bare m = m := hm.symm
          have := bare_handler m h0 hff.1 (by rw [e]; exact hst)
          rw [e] at this
          exact this
        have hrec := ih (l ++ [see m (Mach.step m).ip]) (Mach.step m) (Mach.step { m with mem := me }) sim hh2 hst (fun x hxm => hx x (List.mem_cons_of_mem _ hxm))
        obtain ⟨me2, es, -, -⟩ := id sim
        have e1 : (Mach.step { m with mem := me }).ip = (Mach.step m).ip := by rw [es]
        have e2 : (Mach.step { m with mem := me }).status = 0 := by rw [es]; exact hst
        have e3 : see { m with mem := me } (Mach.step { m with mem := me }).ip = see m (Mach.step m).ip := by rw [e1]; exact see_sim m me h1 h2 hfar
        have hlen := (tape_take start n (l ++ [see m (Mach.step m).ip]) (Mach.step m)).2
        rw [List.length_append] at hlen hrec
        simp only [List.length_cons, List.length_nil] at hlen hrec
        obtain ⟨d, hd⟩ : ∃ d, (tape start n (l ++ [see m (Mach.step m).ip]) (Mach.step m)).steps.length - l.length = d + 1 := ⟨_, (Nat.succ_pred_eq_of_pos (by omega)).symm⟩
        rw [hd]
        rw [show (tape start n (l ++ [see m (Mach.step m).ip]) (Mach.step m)).steps.length - (l.length + (0 + 1)) = d from by omega] at hrec
        rw [tape_succ, if_neg (show ¬ (l ≠ [] ∧ ({ m with mem := me } : M).ip = start) from hl)]
        rw [e3, if_neg (by rw [e2, hf]; simp)]
        exact hrec
/-- the recording of a machine with another number in a cell that was not looked at -/
theorem rec_other (m : M) (most : Nat) (p : Nat) (v : Int) (h0 : m.status = 0) (hx : ∀ x ∈ (recOf m most).steps, Far p x) : (recOf { m with mem := m.mem.set p v } (recOf m most).steps.length).steps = (recOf m most).steps := by
  unfold recOf at hx ⊢
  exact tape_sim (p := p) m.ip most [] (bare m) (bare { m with mem := m.mem.set p v }) (Sim.bare (Sim.set p m v)) rfl h0 (fun x hxm => hx x (by simpa using hxm))
end Go.Proofs.YtlomfmilohbgpaaGreatDoor.Rec
/- The document's own machine (chapter 9): a machine that has done nothing. -/
namespace Go.Proofs.YtlomfmilohbgpaaGreatDoor.Inn
open Go.RowKit Book Mem Mach
set_option linter.unusedVariables false
set_option linter.unusedSimpArgs false
/-- the first k cells are laid -/
def part (n k : Nat) : List Int := (bootMem 48 n).take k ++ List.replicate (n - k) 0
theorem part_length {n k : Nat} (h : k ≤ n) : (part n k).length = n := by unfold part; rw [List.length_append, List.length_take, bootMem_length, List.length_replicate]; omega
theorem part_zero (n : Nat) : part n 0 = List.replicate n 0 := by simp [part]
theorem part_all (n : Nat) : part n n = bootMem 48 n := by unfold part; rw [Nat.sub_self, List.take_of_length_le (by rw [bootMem_length]; omega)]; simp
theorem part_at {n k j : Nat} (h : k ≤ n) : (part n k)[j]? = if j < n then some (if j < k then bootCell 48 j else 0) else none := by
  unfold part
  by_cases h1 : j < k
  · rw [List.getElem?_append_left (by rw [List.length_take, bootMem_length]; omega), List.getElem?_take, if_pos h1, bootMem_at, if_pos (by omega), if_pos (by omega), if_pos h1]
  · rw [List.getElem?_append_right (by rw [List.length_take, bootMem_length]; omega), List.getElem?_replicate, List.length_take, bootMem_length]
    by_cases h2 : j < n
    · rw [if_pos (by omega), if_pos h2, if_neg h1]
    · rw [if_neg (by omega), if_neg h2]
theorem part_set {n k : Nat} (h : k < n) : (part n k).set k (bootCell 48 k) = part n (k + 1) := by
  apply List.ext_getElem?
  intro j
  rw [List.getElem?_set, part_at (by omega), part_at (by omega), part_length (by omega)]
  by_cases h1 : k = j
  · subst h1
    rw [if_pos rfl, if_pos h, if_pos h, if_pos (by omega)]
  · rw [if_neg h1]
    by_cases h2 : j < n
    · rw [if_pos h2, if_pos h2]
      by_cases h3 : j < k
      · rw [if_pos h3, if_pos (by omega)]
      · rw [if_neg h3, if_neg (by omega)]
    · rw [if_neg h2, if_neg h2]
theorem part_same {n k : Nat} (h : k < n) (h0 : bootCell 48 k = 0) : part n (k + 1) = part n k := by
  apply List.ext_getElem?
  intro j
  rw [part_at (by omega), part_at (by omega)]
  by_cases h1 : j = k
  · subst h1
    rw [if_pos h, if_pos h, if_pos (by omega), if_neg (by omega), h0]
  · by_cases h2 : j < n
    · rw [if_pos h2, if_pos h2]
      by_cases h3 : j < k
      · rw [if_pos h3, if_pos (by omega)]
      · rw [if_neg h3, if_neg (by omega)]
    · rw [if_neg h2, if_neg h2]
set_option maxHeartbeats 8000000 in
set_option maxRecDepth 100000 in
theorem refBoot_any (w : World) (n : Int) (nn : Nat) (hn : (nn : Int) = min (max n 0) 3000) (inp : ByteArray) :
    Calls Tryz.prog 12 #[.int .i64 n, .string inp] w (GivesM (bootM nn inp) w) := by
  obtain ⟨i0, HI1, HI2, HI3, HI4⟩ := int_facts
  have HI := Lib.hid (And.intro HI1 (And.intro HI2 (And.intro HI3 HI4)))
  clear HI1 HI2 HI3 HI4
  obtain ⟨w1, r, hw1, hr, HR, HB1, HRG⟩ := new_box w zero10 24
  have HM := Lib.hid hn
  have hn3 : nn ≤ 3000 := by omega
  clear hn
  go_enter Tryz.func12, Tryz.ntmps12
  go_upto_region 1 with fail
  clear hw1 hr
  go_wp2_with (at_make; refine wpList_make_full _ rfl _ _ 22 rfl w1.heap.size 3 i0 (.int .i64 0) 1 Tryz.underlying22 HI.out.1 HI.out.2.1 HI.out.2.2.1 .i64 .i64 _ _ nn rfl rfl ?a1 ?a2 ?a3 ?a4 (Nat.le_refl _) ?_)
  case a1 => exact HM.out.symm
  case a2 => exact HM.out.symm
  case a3 => rw [HI.out.2.2.2]; omega
  case a4 => unfold maxLen; omega
  intro w2 hO hG
  rw [toList_madeCells_one] at hO
  have hb1 := (Stirred.of_grown hG).below (B := w1.heap.size) (fun k h => by cases h) (Nat.le_refl _)
  obtain ⟨g, hg⟩ : ∃ g, w1.heap.size = g := ⟨_, rfl⟩
  rw [hg] at hO hb1 ⊢
  have HGE := Lib.hid hg
  have HO := Lib.hid (show Owns w2 g 3 (.slice (some ⟨g, 0, none⟩) nn nn) (vals (part nn 0)) by
    have := Owns.of_row hO
    rw [part_zero, vals, List.map_replicate]
    exact this)
  have HB2 := Lib.hid hb1
  clear hO hG hb1 hg
  go_wp2_with fail
  go_loopg [6] nn (fun z f wr => ∃ k : Nat, z = nn - k ∧ k ≤ nn ∧ f = .int .i64 k ∧ Hid (Owns wr g 3 (.slice (some ⟨g, 0, none⟩) nn nn) (vals (part nn k))) ∧ Hid (Below g w1 wr))
  case atStart => exact ⟨0, rfl, Nat.zero_le _, rfl, HO, HB2⟩
  case round =>
    obtain ⟨k, rfl, hk, rfl, HX, HY⟩ := hrel
    by_cases hlt : k < nn
    · have hk0 : (0 : Int) ≤ (k : Int) := Int.natCast_nonneg _
      have hk1 : (k : Int) < (nn : Int) := by omega
      obtain ⟨kc, kf⟩ := owns_at HX.out (show k < (part nn k).length by rw [part_length hk]; exact hlt)
      have HS := Lib.hid (fun v : Int => And.intro (HX.out.stored k (.int .i64 v)) (show Below g w1 (wr.setCell ⟨g, k, none⟩ (.int .i64 v)) from HY.out.trans (((Stirred.setCell wr ⟨g, k, none⟩ (.int .i64 v)).below (B := g) (fun j h => by rw [List.mem_singleton.1 h]; exact Nat.le_refl _) (HGE.out ▸ HY.out.size)))))
      by_cases c1 : k = 1
      · subst c1
        have hb : bootCell 48 1 = 1 := rfl
        have H1 := Lib.hid (part_set hlt)
        rw [hb] at H1
        have HZ := Lib.hid (HS.out 1)
        rw [vals_set, H1.out] at HZ
        clear HS
        go_wp2
        go_roundg (nn - (1 + 1))
        case measure => omega
        case rel => exact ⟨1 + 1, rfl, by omega, by go_num, HZ.out.1, HZ.out.2⟩
      · by_cases c2 : 64 ≤ k
        · by_cases c3 : k < 160
          · by_cases c4 : k % 2 = 0
            · have hb : bootCell 48 k = ((k - 64) / 2 : Nat) := by unfold bootCell; rw [if_pos (by omega), if_pos c4]
              have q1 : (k : Int).tmod 2 = 0 := by rw [Int.tmod_eq_emod_of_nonneg hk0]; omega
              obtain ⟨q, hq⟩ : ∃ q, (k - 64) / 2 = q := ⟨_, rfl⟩
              have q2 : ((k : Int) - 64).tdiv 2 = (q : Int) := by rw [Int.tdiv_eq_ediv_of_nonneg (by omega)]; omega
              have q3 : wrap64 (q : Int) = (q : Int) := by unfold wrap64; omega
              have H1 := Lib.hid (part_set hlt)
              rw [hb, hq] at H1
              have hx5 := (HS.out 5).1
              have HZ := Lib.hid (And.intro (hx5.stored k (.int .i64 q)) (show Below g w1 ((wr.setCell ⟨g, k, none⟩ (.int .i64 5)).setCell ⟨g, k, none⟩ (.int .i64 q)) from (HS.out 5).2.trans (((Stirred.setCell _ ⟨g, k, none⟩ (.int .i64 q)).below (B := g) (fun j h => by rw [List.mem_singleton.1 h]; exact Nat.le_refl _) (HGE.out ▸ (HS.out 5).2.size)))))
              rw [vals_set, vals_set, List.set_set, H1.out] at HZ
              rw [vals_set] at hx5
              obtain ⟨kc5, kf5⟩ := owns_at hx5 (show k < ((part nn k).set k 5).length by rw [List.length_set, part_length hk]; exact hlt)
              clear HS hx5 hq hb
              go_wp2
              go_roundg (nn - (k + 1))
              case measure => omega
              case rel => exact ⟨k + 1, rfl, by omega, by go_num, HZ.out.1, HZ.out.2⟩
            · have hb : bootCell 48 k = 5 := by unfold bootCell; rw [if_pos (by omega), if_neg c4]
              have q1 : ¬ (k : Int).tmod 2 = 0 := by rw [Int.tmod_eq_emod_of_nonneg hk0]; omega
              have H1 := Lib.hid (part_set hlt)
              rw [hb] at H1
              have HZ := Lib.hid (HS.out 5)
              rw [vals_set, H1.out] at HZ
              clear HS hb
              go_wp2
              go_roundg (nn - (k + 1))
              case measure => omega
              case rel => exact ⟨k + 1, rfl, by omega, by go_num, HZ.out.1, HZ.out.2⟩
          · have hb : bootCell 48 k = 0 := by unfold bootCell; rw [if_neg (by omega), if_neg c1]
            have H1 := Lib.hid (part_same hlt hb)
            clear HS hb
            go_wp2
            go_roundg (nn - (k + 1))
            case measure => omega
            case rel => exact ⟨k + 1, rfl, by omega, by go_num, by rw [H1.out]; exact HX.out, HY.out⟩
        · have hb : bootCell 48 k = 0 := by unfold bootCell; rw [if_neg (by omega), if_neg c1]
          have H1 := Lib.hid (part_same hlt hb)
          clear HS hb
          go_wp2
          go_roundg (nn - (k + 1))
          case measure => omega
          case rel => exact ⟨k + 1, rfl, by omega, by go_num, by rw [H1.out]; exact HX.out, HY.out⟩
    · obtain rfl : k = nn := by omega
      have HO := Lib.hid HX.out
      rw [part_all] at HO
      have HRR := Lib.hid ((Stirred.of_below (HY.out.mono (Nat.le_of_eq HGE.out)) []).whole HR.out List.not_mem_nil)
      have HBW := Lib.hid (show Below w.heap.size w wr from HB1.out.trans (HY.out.mono (by have := HB1.out.size; have := HGE.out; omega)))
      clear HX
      go_wp2_with (refine st_state (by rfl) _ _ rfl r _ rfl rfl _ _ HRR.out rfl rfl (all_one rfl rfl rfl) ?_; intro wf hrf htf; have HRF := Lib.hid hrf; have HTF := Lib.hid htf; clear hrf htf)
      refine bodyPost_ret (results_cell_row rfl _ _ r _ _ _ _ rfl HRF.out Tryz.underlying24 rfl state_size) rfl ?_
      have hge := HGE.out
      have hrl := whole_lt HR.out
      have hrg := HRG.out
      refine ⟨_, rfl, ⟨_, _, _, rfl, ⟨Owns.nil _ _ _, Owns.nil _ _ _, (HO.out.touch HTF.out (fun j hj hm => ?_)).from (by omega), (fun j e => by simp [blk] at e), (fun j e => by simp [blk] at e)⟩⟩, HBW.out.trans (HTF.out.below (fun j hj => by rw [List.mem_singleton.1 hj]; omega) HBW.out.size)⟩
      have h1 := (HO.out.block j hj).1
      rw [List.mem_singleton.1 hm] at h1
      omega
end Go.Proofs.YtlomfmilohbgpaaGreatDoor.Inn
