
/- Package record: Loop. -/
import Derived.Test.YtcffbeihgchpgaaGreatDoorRecTape
import Derived.Test.YtcffbeihgchpgaaGreatDoorInnerRoot
namespace Go.Proofs.YtcffbeihgchpgaaGreatDoor.Rec
open Go.RowKit Book Book.Wide Mem Mach Inn
set_option linter.unusedSimpArgs false
set_option linter.unusedVariables false
/-- rows of numbers stay -/
def Ints (w w' : World) : Prop := ∀ (k : Nat) (cs : Array Value), w.heap[k]? = some (Obj.cells cs 3 (0, 0)) → w'.heap[k]? = some (Obj.cells cs 3 (0, 0))
theorem Ints.trans {w w1 w2 : World} (h : Ints w w1) (g : Ints w1 w2) : Ints w w2 := fun k cs hk => g k cs (h k cs hk)
theorem Ints.of_below {w w' : World} (h : Below w.heap.size w w') : Ints w w' := fun k cs hk => (Stirred.of_below h []).whole hk List.not_mem_nil
/-- what is done in one block that is none of numbers -/
theorem Ints.of_one {w w' : World} {g : Nat} {c : Array Value} {T : TypeId} (h : Stirred w w' [g]) (hg : w.heap[g]? = some (.cells c T (0, 0))) (hT : T ≠ 3) : Ints w w' := fun k cs hk => h.whole hk (fun hm => by
  rw [List.mem_singleton] at hm
  subst hm
  rw [hg] at hk
  simp only [Option.some.injEq, Obj.cells.injEq] at hk
  exact hT hk.2.1)
theorem TAt.typed {w : World} {B p most : Nat} {bs : List Nat} {r : R} (h : TAt w B p bs most r) : ∀ k ∈ bs, ∃ c T, w.heap[k]? = some (.cells c T (0, 0)) ∧ (T = 64 ∨ T = 55) := by
  obtain ⟨v, h1, h2, rfl⟩ := h.box
  intro k hk
  rcases List.mem_cons.1 hk with rfl | hk
  · exact ⟨_, _, h1, .inl rfl⟩
  · obtain ⟨_, _, c, hc⟩ := h2.block k (by simpa using hk)
    exact ⟨c, _, hc, .inr rfl⟩
/-- what is done to a tape leaves boxes of other kinds alone -/
theorem TAt.spare {w w' : World} {B p most : Nat} {bs : List Nat} {r : R} (h : TAt w B p bs most r) (hs : Stirred w w' bs) {g : Nat} {cs : Array Value} {T : TypeId} (hg : w.heap[g]? = some (.cells cs T (0, 0))) (h1 : T ≠ 64) (h2 : T ≠ 55) : w'.heap[g]? = some (.cells cs T (0, 0)) :=
  hs.whole hg (fun hm => by
    obtain ⟨c, T', hc, hT⟩ := h.typed g hm
    rw [hg] at hc
    simp only [Option.some.injEq, Obj.cells.injEq, and_true] at hc
    rcases hT with e | e
    · exact h1 (hc.2.trans e)
    · exact h2 (hc.2.trans e))
theorem TAt.ints {w w' : World} {B p most : Nat} {bs : List Nat} {r : R} (h : TAt w B p bs most r) (hs : Stirred w w' bs) : Ints w w' := fun k cs hk => h.spare hs hk (by decide) (by decide)
theorem L_ints {W w w' : World} {B : Nat} {v : Value} {xs : List Int} (h : L W w B v xs) (hi : Ints w w') : L W w' B v xs := by
  rcases h with h | h
  · exact .inl h
  · exact .inr (h.same fun k hk => by obtain ⟨_, _, c, hc⟩ := h.block k hk; rw [hc]; exact hi k c hc)
theorem LM_ints {W w w' : World} {B : Nat} {v : Value} {m : M} (h : LM W w B v m) (hi : Ints w w') : LM W w' B v m := by
  obtain ⟨vs, vb, vm, e, h1, h2, h3⟩ := h
  exact ⟨vs, vb, vm, e, L_ints h1 hi, L_ints h2 hi, L_ints h3 hi⟩
/-- what is told at the end is what the tape is -/
theorem tape_yes {start : Int} {left most : Nat} {l : List S} {m : M} {R0 : R} (hl : l.length + left = most) (hr : tape start left l m = R0) (he : endsB most ⟨start, m.ip, false, l⟩ (see m (Mach.step m).ip) (Mach.step m).status = true) : R0 = ⟨start, m.ip, backB ⟨start, m.ip, false, l⟩ (see m (Mach.step m).ip), l⟩ := by
  rw [← hr]
  unfold tape
  by_cases hb : l ≠ [] ∧ m.ip = start
  · rw [if_pos hb, show backB ⟨start, m.ip, false, l⟩ (see m (Mach.step m).ip) = true from decide_eq_true hb]
  · rw [if_neg hb]
    have hbk : backB ⟨start, m.ip, false, l⟩ (see m (Mach.step m).ip) = false := decide_eq_false hb
    rw [hbk]
    unfold endsB at he
    rw [hbk, Bool.false_or] at he
    cases left with
    | zero => rfl
    | succ n =>
      have h1 : decide (most ≤ l.length) = false := decide_eq_false (by omega)
      simp only [h1, Bool.false_or] at he
      have h2 : (Mach.step m).status ≠ 0 ∨ fit (see m (Mach.step m).ip) = false := by
        rcases Bool.or_eq_true _ _ ▸ he with h | h
        · exact .inl (of_decide_eq_true h)
        · exact .inr (by simpa using h)
      show (if _ then _ else _) = _
      rw [if_pos h2]
theorem tape_no {start : Int} {left most : Nat} {l : List S} {m : M} {R0 : R} (hl : l.length + left = most) (hr : tape start left l m = R0) (he : endsB most ⟨start, m.ip, false, l⟩ (see m (Mach.step m).ip) (Mach.step m).status = false) : backB ⟨start, m.ip, false, l⟩ (see m (Mach.step m).ip) = false ∧ ∃ n, left = n + 1 ∧ tape start n (l ++ [see m (Mach.step m).ip]) (Mach.step m) = R0 := by
  unfold endsB at he
  simp only [Bool.or_eq_false_iff] at he
  obtain ⟨h0, h1, h2, h3⟩ := he
  refine ⟨h0, ?_⟩
  have h1 := of_decide_eq_false h1
  obtain ⟨n, rfl⟩ : ∃ n, left = n + 1 := ⟨left - 1, by omega⟩
  refine ⟨n, rfl, ?_⟩
  rw [← hr]
  conv => rhs; unfold tape
  rw [if_neg (show ¬ (l ≠ [] ∧ m.ip = start) from of_decide_eq_false h0)]
  show _ = (if _ then _ else _)
  have h2 := of_decide_eq_false h2
  have h3 : fit (see m (Mach.step m).ip) = true := by simpa using h3
  rw [if_neg (by rintro (h | h); exact h2 h; rw [h3] at h; cases h)]
abbrev recA (r : R) (v : Value) : Array Value := #[.int .i64 r.start, .int .i64 r.last, .bool r.loop, v]
abbrev recV (r : R) (v : Value) : Value := .agg (recA r v)
abbrev recZ : Array Value := #[.int .i64 0, .int .i64 0, .bool false, .slice none 0 0]
theorem rec_size : (Tryz.prog.info? 39).map (·.size) = some 4 := by kernel_rfl
theorem recA_one (r : R) {v : Value} (h : v.oneCell' = true) : (recA r v).all (·.oneCell') = true := by
  simp [recA, h, show ∀ k n, (Value.int k n).oneCell' = true from fun _ _ => rfl, show ∀ b, (Value.bool b).oneCell' = true from fun _ => rfl]
theorem mostOf_eq (most : Int) : min (max most 0) 120 = ((mostOf most : Nat) : Int) := by unfold mostOf; omega
theorem mostOf_le (most : Int) : mostOf most ≤ 120 := by unfold mostOf; omega
section
variable {ops : Array Oper} {rest : List Oper} {o : Oper} {a : Act} {w : World} {Q : Exit → Act → World → Prop}
theorem st_rec (hw : Region.wanted o (yielded ops a.tmps) = true) (x y : Operand) (ho : o.op = .store 39 x y) (g : Nat) (r : R) (v : Value) (hv : v.oneCell' = true) (hx : a.eval x = .pointer (some ⟨g, 0, none⟩)) (hy : a.eval y = recV r v) (old : Array Value) (hg : w.heap[g]? = some (.cells old 39 (0, 0))) (hold : old.size = 4)
    (h : ∀ w', w'.heap[g]? = some (.cells (recA r v) 39 (0, 0)) → Stirred w w' [g] → wpList Tryz.prog ops Q rest (a.put o.dst undef) w') : wpList Tryz.prog ops Q (o :: rest) a w :=
  wpList_setbox hw _ x y ho g (recA r v) hx hy old _ hg rec_size (by rw [hold]; rfl) (recA_one r hv) h
end
/-- what Loop answers -/
def GivesR (r : R) (w : World) (e : Ending) (w' : World) : Prop := ∃ v, e = .returned (recV r v) ∧ OwnsK w' w.heap.size 55 4 v (r.steps.flatMap seenCells) ∧ Below w.heap.size w w'
/-- in a round: the machine in its box, the empty answer, the tape -/
structure RS (w wr : World) (g rb p : Nat) (bs : List Nat) (most : Nat) (start : Int) (l : List S) (m : M) (vs vb vm : Value) : Prop where
  box : wr.heap[g]? = some (.cells (cells10 m.ip m.handler vs vb vm m.out m.inp m.read m.status m.code) 24 (0, 0))
  ans : wr.heap[rb]? = some (.cells recZ 39 (0, 0))
  tape : TAt wr w.heap.size p bs most ⟨start, m.ip, false, l⟩
  lists : LM w wr w.heap.size (stV m vs vb vm) m
  below : Below w.heap.size w wr
  low : w.heap.size ≤ g ∧ w.heap.size ≤ rb
section
variable {w wr wx : World} {g rb p : Nat} {bs bs' : List Nat} {most : Nat} {start : Int} {l : List S} {m : M} {vs vb vm : Value}
theorem RS.more (h : RS w wr g rb p bs most start l m vs vb vm) (hb : Below wr.heap.size wr wx) : RS w wx g rb p bs most start l m vs vb vm :=
  ⟨boxOn h.box hb, boxOn h.ans hb, h.tape.below hb, h.lists.below hb, h.below.trans (hb.mono h.below.size), h.low⟩
/-- something is done in one block that is none of these -/
theorem RS.one (h : RS w wr g rb p bs most start l m vs vb vm) {k : Nat} {c : Array Value} {T : TypeId} (hs : Stirred wr wx [k]) (hk : wr.heap[k]? = some (.cells c T (0, 0))) (hT : T ≠ 3) (h1 : k ≠ g) (h2 : k ≠ rb) (h3 : k ∉ bs) (h4 : w.heap.size ≤ k) : RS w wx g rb p bs most start l m vs vb vm :=
  ⟨hs.whole h.box (fun hm => h1 (List.mem_singleton.1 hm).symm), hs.whole h.ans (fun hm => h2 (List.mem_singleton.1 hm).symm), h.tape.touch hs (fun z hz hm => h3 (by rw [← List.mem_singleton.1 hm]; exact hz)), LM_ints h.lists (Ints.of_one hs hk hT), h.below.trans (hs.below (fun z hz => by rw [List.mem_singleton.1 hz]; exact h4) h.below.size), h.low⟩
theorem RS.same (h : RS w wr g rb p bs most start l m vs vb vm) (ht : TAt wx w.heap.size p bs' most ⟨start, m.ip, false, l⟩) (hs : Stirred wr wx bs) : RS w wx g rb p bs' most start l m vs vb vm :=
  ⟨h.tape.spare hs h.box (by decide) (by decide), h.tape.spare hs h.ans (by decide) (by decide), ht, LM_ints h.lists (h.tape.ints hs), h.below.trans (hs.below (fun z hz => (h.tape.lt z hz).1) h.below.size), h.low⟩
end
set_option maxHeartbeats 16000000 in
set_option maxRecDepth 100000 in
theorem loop_any {w : World} {v : Value} {m : M} (h : ReadsM w v m) (hr : Right m) (hc : Cells m) (hin : m.inp.size ≤ maxLen) (hE : ∀ wc, Below w.heap.size w wc → Tabs wc) (most : Int) : Calls Tryz.prog 11 #[v, .int .i64 most] w (GivesR (recOf m (mostOf most)) w) := by
  have HV := Lib.hid h
  have HRC := Lib.hid (And.intro hr (And.intro hc hin))
  have HE := Lib.hid hE
  obtain ⟨mn, hmn⟩ : ∃ mn, mostOf most = mn := ⟨_, rfl⟩
  have er : min (max most 0) 120 = (mn : Int) := by rw [← hmn]; exact mostOf_eq most
  have HMN := Lib.hid (show mn ≤ 120 by rw [← hmn]; exact mostOf_le most)
  rw [hmn]
  obtain ⟨R0, hR0⟩ : ∃ R0, recOf m mn = R0 := ⟨_, rfl⟩
  have HR0 := Lib.hid hR0
  rw [hR0]
  obtain ⟨vs, vb, vm, rfl, hs, hb, hm⟩ := h
  obtain ⟨s1, n1, d1, rfl⟩ := reads_known hs
  obtain ⟨s2, n2, d2, rfl⟩ := reads_known hb
  obtain ⟨s3, n3, d3, rfl⟩ := reads_known hm
  have HLS := Lib.hid (And.intro hs (And.intro hb hm))
  obtain ⟨w1, g, hw1, hg, HG1, HB1, HZ1⟩ := newBox w (cells10 m.ip m.handler (.slice s1 n1 d1) (.slice s2 n2 d2) (.slice s3 n3 d3) m.out m.inp m.read m.status m.code) 24
  obtain ⟨w2, rb, hw2, hrb, HA2, HB12, HZ2⟩ := newBox w1 recZ 39
  have HG2 := Lib.hid (boxOn HG1.out HB12.out)
  have HB2 := Lib.hid (HB1.out.trans (HB12.out.mono HB1.out.size))
  have R := Lib.hid (innRight_any (HV.out.below HB2.out) hin (by have h1 := hr.out; unfold maxLen; omega))
  have HRT := Lib.hid ((rightM_iff m).2 hr)
  rw [HRT.out] at R
  clear hs hb hm hr hc hin hE hmn hR0
  go_enter Tryz.func11, Tryz.ntmps11
  go_upto_region 1 with fail
  clear hw1 hw2 hg hrb
  go_wp2_with (refine ld_state (by rfl) _ rfl _ rfl _ _ HG2.out rfl ?_)
  refine R.out.mono ?_
  rintro e w3 ⟨rfl, hb⟩
  have HG3 := Lib.hid (boxOn HG2.out hb)
  have HA3 := Lib.hid (boxOn HA2.out hb)
  have HB3 := Lib.hid (HB2.out.trans (hb.mono HB2.out.size))
  have g0 : w3.cell? ⟨g, 0, none⟩ = some (.int .i64 m.ip) := whole_cell HG3.out rfl
  obtain ⟨w4, p, hw4, hp, HT4, HB34, HZ4⟩ := newBox w3 (tapeA mn ⟨m.ip, m.ip, false, []⟩ (.slice none 0 0)) 64
  have HG4 := Lib.hid (boxOn HG3.out HB34.out)
  have HA4 := Lib.hid (boxOn HA3.out HB34.out)
  have HB4 := Lib.hid (HB3.out.trans (HB34.out.mono HB3.out.size))
  have HPG := Lib.hid (show g < p ∧ rb < p ∧ g ≠ rb ∧ w.heap.size ≤ g ∧ w.heap.size ≤ rb ∧ w.heap.size ≤ p by have h1 := HZ1.out; have h2 := HZ2.out; have h3 := HZ4.out; have h4 := whole_lt HG3.out; have h5 := whole_lt HA3.out; have h6 := whole_lt HG1.out; omega)
  clear hb R
  go_upto_region 4 with fail
  clear hw4 hp g0
  have g1 : w4.cell? ⟨g, 1, none⟩ = some (.int .i64 m.handler) := whole_cell HG4.out rfl
  have f1 : w4.frozen? ⟨g, 1, none⟩ = false := whole_frozen HG4.out 1
  obtain ⟨w5, hw5⟩ : ∃ w5, w4.setCell ⟨g, 1, none⟩ (.int .i64 0) = w5 := ⟨_, rfl⟩
  have hst := Stirred.setCell w4 ⟨g, 1, none⟩ (.int .i64 0)
  have hgw := whole_set HG4.out 1 (.int .i64 0)
  rw [hw5] at hst hgw
  have hst : Stirred w4 w5 [g] := hst
  have HRS := Lib.hid (show RS w w5 g rb p [p] mn m.ip [] (bare m) (.slice s1 n1 d1) (.slice s2 n2 d2) (.slice s3 n3 d3) from by
    have hpg := HPG.out
    refine ⟨hgw, hst.whole HA4.out (fun hm => by rw [List.mem_singleton] at hm; omega), ⟨⟨.slice none 0 0, hst.whole HT4.out (fun hm => by rw [List.mem_singleton] at hm; omega), OwnsK.nil _ _ _ _, rfl⟩, hpg.2.2.2.2.2, Nat.zero_le _⟩, ⟨_, _, _, rfl, .inl HLS.out.1, .inl HLS.out.2.1, .inl HLS.out.2.2⟩, HB4.out.trans (hst.below (fun k hk => by rw [List.mem_singleton.1 hk]; exact hpg.2.2.2.1) HB4.out.size), hpg.2.2.2.1, hpg.2.2.2.2.1⟩)
  clear hst hgw
  have HT0 := Lib.hid (show tape m.ip mn [] (bare m) = R0 from HR0.out)
  have HR0' := Lib.hid (show Right (bare m) from ⟨HRC.out.1.stack, HRC.out.1.back, HRC.out.1.mem, HRC.out.1.out, HRC.out.1.read0, HRC.out.1.read1, HRC.out.1.status0, HRC.out.1.status1⟩)
  have HC0' := Lib.hid (show Cells (bare m) from ⟨HRC.out.2.1.ip, in0, HRC.out.2.1.stack, HRC.out.2.1.back, HRC.out.2.1.mem, HRC.out.2.1.code⟩)
  go_wp2_with fail
  clear hw5 g1 f1 er HG4 HA4 HT4 HG3 HA3 HG2 HA2 HG1 HB1 HB12 HB34 HB2 HB3 HZ1 HZ2 HZ4
  go_loopg [] (mn + 1) (fun z wr => ∃ (bs : List Nat) (l : List S) (m1 : M) (t1 : Option Addr) (k1 e1 : Nat) (t2 : Option Addr) (k2 e2 : Nat) (t3 : Option Addr) (k3 e3 : Nat) (left : Nat), z = left + 1 ∧ Hid (l.length + left = mn) ∧ Hid (RS w wr g rb p bs mn m.ip l m1 (.slice t1 k1 e1) (.slice t2 k2 e2) (.slice t3 k3 e3)) ∧ Hid (tape m.ip left l m1 = R0) ∧ Hid (Right m1) ∧ Hid (Cells m1) ∧ Hid (m1.inp = m.inp))
  case atStart => exact ⟨[p], [], bare m, s1, n1, d1, s2, n2, d2, s3, n3, d3, mn, rfl, Lib.hid (Nat.zero_add _), HRS, HT0, HR0', HC0', Lib.hid rfl⟩
  case round =>
    obtain ⟨bs, l, m1, t1, k1, e1, t2, k2, e2, t3, k3, e3, left, rfl, HLL, HS, HTP, HR1, HC1, HI1⟩ := hrel
    have HGB := Lib.hid HS.out.box
    have ST := Lib.hid (innStep_any (HS.out.lists.reads HS.out.below) HR1.out HC1.out (by rw [HI1.out]; exact HRC.out.2.2) (fun wc hb => HE.out wc (HS.out.below.trans (hb.mono HS.out.below.size))))
    obtain ⟨m2, hm2⟩ : ∃ m2, Mach.step m1 = m2 := ⟨_, rfl⟩
    have HM2 := Lib.hid hm2
    rw [hm2] at ST
    clear hm2
    go_wp2_with (refine ld_state (by rfl) _ rfl _ rfl _ _ HGB.out rfl ?_)
    refine ST.out.mono ?_
    rintro e wn hgm
    obtain ⟨u1, i1, u2, i2, u3, i3, rfl, ho, hb⟩ := GivesM.known hgm
    obtain ⟨j1, hj1⟩ : ∃ j, m2.stack.length = j := ⟨_, rfl⟩
    obtain ⟨j2, hj2⟩ : ∃ j, m2.back.length = j := ⟨_, rfl⟩
    obtain ⟨j3, hj3⟩ : ∃ j, m2.mem.length = j := ⟨_, rfl⟩
    obtain ⟨wa, g6, hwa, hg6, H6a, HBa, HZa⟩ := newBox wn zero10 24
    have HL2 := Lib.hid ((LM.of_owns (W := w) ⟨_, _, _, rfl, ho⟩ HS.out.below.size).below HBa.out)
    rw [hj1, hj2, hj3] at HL2 ⊢
    have HSa := Lib.hid (HS.out.more (hb.trans (HBa.out.mono hb.size)))
    have N6 := Lib.hid (show wr.heap.size ≤ g6 by have h1 := HZa.out; have h2 := hb.size; omega)
    have NB := Lib.hid (show ∀ k ∈ bs, k < wr.heap.size from fun k hk => (HS.out.tape.lt k hk).2)
    have NG := Lib.hid (show g < wr.heap.size ∧ rb < wr.heap.size ∧ w.heap.size ≤ wr.heap.size from ⟨whole_lt HS.out.box, whole_lt HS.out.ans, HS.out.below.size⟩)
    clear hgm ho hb ST hj1 hj2 hj3
    go_wp2_with (first
      | (refine ld_state (by rfl) _ rfl _ rfl _ _ HGb.out rfl ?_)
      | (refine st_state (by rfl) _ _ rfl g6 _ rfl rfl _ _ H6a.out rfl rfl (all_one rfl rfl rfl) ?_; intro wb h6 ht6; have H6 := Lib.hid h6; have HSb := Lib.hid (HSa.out.one ht6 H6a.out (by decide) (by have h1 := NG.out; have h2 := N6.out; omega) (by have h1 := NG.out; have h2 := N6.out; omega) (fun hm => by have h1 := NB.out _ hm; have h2 := N6.out; omega) (by have h1 := NG.out; have h2 := N6.out; omega)); have HLb := Lib.hid (LM_ints HL2.out (Ints.of_one ht6 H6a.out (by decide))); have HGb := Lib.hid HSb.out.box; have c0 : wb.cell? ⟨g6, 0, none⟩ = some (.int .i64 m2.ip) := whole_cell h6 rfl; have SE := Lib.hid (see_any (HSb.out.lists.reads HSb.out.below) m2.ip); clear h6 ht6 hwa hg6 HSa HL2))
    refine SE.out.mono ?_
    rintro e wc ⟨rfl, hb⟩
    obtain ⟨x, hx⟩ : ∃ x, see m1 m2.ip = x := ⟨_, rfl⟩
    have HX := Lib.hid hx
    rw [hx]
    obtain ⟨wd, g7, hwd, hg7, H7d, HBd, HZd⟩ := newBox wc (seenA (0, 0, 0, 0)) 55
    have HSd := Lib.hid (HSb.out.more (hb.trans (HBd.out.mono hb.size)))
    have H6d := Lib.hid (boxOn H6.out (hb.trans (HBd.out.mono hb.size)))
    have HLd := Lib.hid (HLb.out.below (hb.trans (HBd.out.mono hb.size)))
    have N7 := Lib.hid (show wr.heap.size ≤ g7 ∧ g6 < g7 by have h1 := HZd.out; have h2 := hb.size; have h3 := whole_lt H6.out; have h4 := N6.out; omega)
    clear hb hx SE c0 H6 HSb HLb HGb
    go_wp2_with (first
      | (refine ld_seen (by rfl) _ rfl g7 rfl x H7.out ?_)
      | (refine st_seen (by rfl) _ _ rfl g7 x rfl rfl _ H7d.out rfl ?_; intro we h7 ht7; have H7 := Lib.hid h7; have HSe := Lib.hid (HSd.out.one ht7 H7d.out (by decide) (by have h1 := NG.out; have h2 := N7.out; omega) (by have h1 := NG.out; have h2 := N7.out; omega) (fun hm => by have h1 := NB.out _ hm; have h2 := N7.out; omega) (by have h1 := NG.out; have h2 := N7.out; omega)); have HLe := Lib.hid (LM_ints HLd.out (Ints.of_one ht7 H7d.out (by decide))); have H6e := Lib.hid (ht7.whole H6d.out (fun hm => by have h1 := List.mem_singleton.1 hm; have h2 := N7.out; omega)); have c8 : we.cell? ⟨g6, 8, none⟩ = some (.int .i64 m2.status) := whole_cell H6e.out rfl; have EN := Lib.hid (ends_any HSe.out.tape x m2.status); clear h7 ht7 hwd hg7 HSd HLd H6d H7d))
    refine EN.out.mono ?_
    rintro e wf ⟨rfl, hT, hsf⟩
    cases hen : endsB mn ⟨m.ip, m1.ip, false, l⟩ x m2.status with
    | true =>
      have hR := tape_yes HLL.out HTP.out (by rw [HM2.out, HX.out]; exact hen)
      rw [HM2.out, HX.out] at hR
      obtain ⟨bb, hbb⟩ : ∃ bb, backB ⟨m.ip, m1.ip, false, l⟩ x = bb := ⟨_, rfl⟩
      rw [hbb] at hR hT
      have HR := Lib.hid hR
      obtain ⟨vS, k1, k2, -⟩ := hT.box
      obtain ⟨so, sc, rfl⟩ := k2.slice (seen_len _) (by decide)
      have HO := Lib.hid k2
      obtain ⟨n, hn⟩ : ∃ n, l.length = n := ⟨_, rfl⟩
      have k1 : wf.heap[p]? = some (.cells #[.int .i64 (mn : Int), .int .i64 m.ip, .int .i64 m1.ip, .bool bb, .slice so n sc] 64 (0, 0)) := by rw [← hn]; exact k1
      have HON := Lib.hid (show OwnsK wf w.heap.size 55 4 (.slice so n sc) (l.flatMap seenCells) from by rw [← hn]; exact k2)
      have q1 : wf.cell? ⟨p, 1, none⟩ = some (.int .i64 m.ip) := whole_cell k1 rfl
      have q2 : wf.cell? ⟨p, 2, none⟩ = some (.int .i64 m1.ip) := whole_cell k1 rfl
      have q3 : wf.cell? ⟨p, 3, none⟩ = some (.bool bb) := whole_cell k1 rfl
      have q4 : wf.cell? ⟨p, 4, none⟩ = some (.slice so n sc) := whole_cell k1 rfl
      have HAf := Lib.hid (HSe.out.tape.spare hsf HSe.out.ans (by decide) (by decide))
      have HBf := Lib.hid (HSe.out.below.trans (hsf.below (fun z hz => (HSe.out.tape.lt z hz).1) HSe.out.below.size))
      have HLW := Lib.hid (show w.heap.size ≤ rb from HSe.out.low.2)
      clear hT hsf hen hR hbb k1 k2 hn EN c8 H6e H7 HSe HLe HO
      go_wp2_with (refine st_rec (by rfl) _ _ rfl rb ⟨m.ip, m1.ip, bb, l⟩ (.slice so n sc) rfl rfl rfl _ HAf.out rfl ?_; intro wh hrh hth; have HRF := Lib.hid hrh; have HTH := Lib.hid hth; clear hrh hth)
      refine bodyPost_ret (results_cell_row rfl _ _ rb _ _ _ _ rfl HRF.out Tryz.underlying39 rfl rec_size) rfl ?_
      refine ⟨.slice so n sc, by rw [HR.out], ?_, HBf.out.trans (HTH.out.below (fun z hz => by rw [List.mem_singleton.1 hz]; exact HLW.out) HBf.out.size)⟩
      rw [HR.out]
      exact HON.out.touch HTH.out (fun z hz hm => by
        rw [List.mem_singleton] at hm
        subst hm
        obtain ⟨_, _, c, hc⟩ := HON.out.block z hz
        have := HAf.out
        rw [hc] at this
        simp at this)
    | false =>
      obtain ⟨hbk, n, hn, htp⟩ := tape_no HLL.out HTP.out (by rw [HM2.out, HX.out]; exact hen)
      subst hn
      rw [HM2.out, HX.out] at hbk htp
      rw [hbk] at hT
      have HSf := Lib.hid (HSe.out.same hT hsf)
      have HLf := Lib.hid (LM_ints HLe.out (HSe.out.tape.ints hsf))
      have H6f := Lib.hid (HSe.out.tape.spare hsf H6e.out (by decide) (by decide))
      have H7f := Lib.hid (hsf.whole H7.out (fun hm => by have h1 := NB.out _ hm; have h2 := N7.out; omega))
      have AD := Lib.hid (add_any HSf.out.tape HSf.out.below.size x (by have h1 := HLL.out; have h2 := HMN.out; show l.length < 1000; omega))
      have HTN := Lib.hid htp
      clear hT hsf hen hbk htp EN c8 H6e H7 HSe HLe
      go_wp2_with (refine ld_seen (by rfl) _ rfl g7 rfl x H7f.out ?_)
      refine AD.out.mono ?_
      rintro e wg ⟨rfl, bs', hT, hsg, hbs⟩
      have HGg := Lib.hid (HSf.out.tape.spare hsg HSf.out.box (by decide) (by decide))
      have HAg := Lib.hid (HSf.out.tape.spare hsg HSf.out.ans (by decide) (by decide))
      have H6g := Lib.hid (HSf.out.tape.spare hsg H6f.out (by decide) (by decide))
      have HLg := Lib.hid (LM_ints HLf.out (HSf.out.tape.ints hsg))
      have HBg := Lib.hid (HSf.out.below.trans (hsg.below (fun z hz => (HSf.out.tape.lt z hz).1) HSf.out.below.size))
      have HTg := Lib.hid (show TAt wg w.heap.size p bs' mn ⟨m.ip, m2.ip, false, l ++ [x]⟩ from by
        have e : x.2.2.2 = m2.ip := by rw [← HX.out]; rfl
        rw [← e]; exact hT)
      have HLW := Lib.hid HSf.out.low
      clear hT hsg hbs AD HSf HLf H6f H7f
      go_wp2_with (first
        | (refine ld_state (by rfl) _ rfl _ rfl _ _ H6g.out rfl ?_)
        | (refine st_state (by rfl) _ _ rfl g _ rfl rfl _ _ HGg.out rfl rfl (all_one rfl rfl rfl) ?_; intro wh hgh hth; have HGH := Lib.hid hgh; have HTH := Lib.hid hth; clear hgh hth))
      have HSh := Lib.hid (show RS w wh g rb p bs' mn m.ip (l ++ [x]) m2 (.slice u1 j1 i1) (.slice u2 j2 i2) (.slice u3 j3 i3) from ⟨HGH.out, HTH.out.whole HAg.out (fun hm => HPG.out.2.2.1 (List.mem_singleton.1 hm).symm), HTg.out.touch HTH.out (fun z hz hm => by
          rw [List.mem_singleton] at hm
          subst hm
          obtain ⟨c, T, hc, hT⟩ := HTg.out.typed z hz
          have := HGg.out
          rw [hc] at this
          simp only [Option.some.injEq, Obj.cells.injEq, and_true] at this
          rcases hT with e | e
          · rw [e] at this; exact absurd this.2 (by decide)
          · rw [e] at this; exact absurd this.2 (by decide)), LM_ints HLg.out (Ints.of_one HTH.out HGg.out (by decide)), HBg.out.trans (HTH.out.below (fun z hz => by rw [List.mem_singleton.1 hz]; exact HLW.out.1) HBg.out.size), HLW.out⟩)
      have HR2 := Lib.hid (show Right m2 by rw [← HM2.out]; exact step_right HR1.out)
      have HC2 := Lib.hid (show Cells m2 by rw [← HM2.out]; exact step_cells HR1.out HC1.out)
      have HI2 := Lib.hid (show m2.inp = m.inp by rw [← HM2.out, step_inp, HI1.out])
      have HL2 := Lib.hid (show (l ++ [x]).length + n = mn by rw [List.length_append]; have := HLL.out; show l.length + 1 + n = mn; omega)
      go_roundg (n + 1)
      case measure => omega
      case rel => exact ⟨bs', l ++ [x], m2, u1, j1, i1, u2, j2, i2, u3, j3, i3, n, rfl, HL2, HSh, HTN, HR2, HC2, HI2⟩
end Go.Proofs.YtcffbeihgchpgaaGreatDoor.Rec
