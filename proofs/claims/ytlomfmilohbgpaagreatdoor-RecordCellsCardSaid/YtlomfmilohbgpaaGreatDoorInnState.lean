
/- Package inner: a machine is told as a state. -/
import Derived.Test.YtlomfmilohbgpaaGreatDoorInnOpen
import Derived.Test.YtlomfmilohbgpaaGreatDoorRefCopy
namespace Go.Proofs.YtlomfmilohbgpaaGreatDoor.Inn
open Go.RowKit Book Mem Mach
set_option linter.unusedVariables false
set_option linter.unusedSimpArgs false
/-- what is known while the lists are told one by one -/
structure SS (w : World) (s r : Nat) (cs : Array Value) (st bk me : List Int) (o1 o2 o3 : Option Value) (wc : World) : Prop where
  hb : Below w.heap.size w wc
  hs : wc.heap[s]? = some (.cells cs 24 (0, 0))
  hr : wc.heap[r]? = some (.cells zero10 24 (0, 0))
  h1 : ∀ v, o1 = some v → Owns wc w.heap.size 3 v (vals st) ∧ ∀ k, blk v = some k → s < k ∧ r < k
  h2 : ∀ v, o2 = some v → Owns wc w.heap.size 3 v (vals bk) ∧ ∀ k, blk v = some k → s < k ∧ r < k
  h3 : ∀ v, o3 = some v → Owns wc w.heap.size 3 v (vals me) ∧ ∀ k, blk v = some k → s < k ∧ r < k
  d12 : ∀ v v', o1 = some v → o2 = some v' → ∀ k, blk v = some k → blk v' ≠ some k
  d13 : ∀ v v', o1 = some v → o3 = some v' → ∀ k, blk v = some k → blk v' ≠ some k
  d23 : ∀ v v', o2 = some v → o3 = some v' → ∀ k, blk v = some k → blk v' ≠ some k
section
variable {w : World} {s r : Nat} {cs : Array Value} {st bk me : List Int} {o1 o2 o3 : Option Value} {wc wn : World}
theorem SS.step (h : SS w s r cs st bk me o1 o2 o3 wc) (hb : Below wc.heap.size wc wn) : SS w s r cs st bk me o1 o2 o3 wn :=
  ⟨h.hb.trans (hb.mono h.hb.size), (Stirred.of_below hb []).whole h.hs List.not_mem_nil, (Stirred.of_below hb []).whole h.hr List.not_mem_nil, fun v e => ⟨(h.h1 v e).1.below hb, (h.h1 v e).2⟩, fun v e => ⟨(h.h2 v e).1.below hb, (h.h2 v e).2⟩, fun v e => ⟨(h.h3 v e).1.below hb, (h.h3 v e).2⟩, h.d12, h.d13, h.d23⟩
theorem SS.new (h : SS w s r cs st bk me o1 o2 o3 wc) {v : Value} {xs : List Int} (ho : Owns wn wc.heap.size 3 v (vals xs)) : Owns wn w.heap.size 3 v (vals xs) ∧ ∀ k, blk v = some k → s < k ∧ r < k :=
  ⟨ho.from h.hb.size, fun k hk => by have h1 := (ho.block k hk).1; have h2 := whole_lt h.hs; have h3 := whole_lt h.hr; omega⟩
theorem SS.set1 (h : SS w s r cs st bk me none o2 o3 wc) {v : Value} (ho : Owns wn wc.heap.size 3 v (vals st)) (hb : Below wc.heap.size wc wn) : SS w s r cs st bk me (some v) o2 o3 wn :=
  have h' := h.step hb
  ⟨h'.hb, h'.hs, h'.hr, fun _ e => by cases e; exact h.new ho, h'.h2, h'.h3,
    fun _ v' e e' k hk hk' => by cases e; have h1 := (ho.block k hk).1; have h2 := ((h.h2 v' e').1.block k hk').2.1; omega,
    fun _ v' e e' k hk hk' => by cases e; have h1 := (ho.block k hk).1; have h2 := ((h.h3 v' e').1.block k hk').2.1; omega, h'.d23⟩
theorem SS.set2 (h : SS w s r cs st bk me o1 none o3 wc) {v : Value} (ho : Owns wn wc.heap.size 3 v (vals bk)) (hb : Below wc.heap.size wc wn) : SS w s r cs st bk me o1 (some v) o3 wn :=
  have h' := h.step hb
  ⟨h'.hb, h'.hs, h'.hr, h'.h1, fun _ e => by cases e; exact h.new ho, h'.h3,
    fun v' _ e' e k hk' hk => by cases e; have h1 := (ho.block k hk).1; have h2 := ((h.h1 v' e').1.block k hk').2.1; omega, h'.d13,
    fun _ v' e e' k hk hk' => by cases e; have h1 := (ho.block k hk).1; have h2 := ((h.h3 v' e').1.block k hk').2.1; omega⟩
theorem SS.set3 (h : SS w s r cs st bk me o1 o2 none wc) {v : Value} (ho : Owns wn wc.heap.size 3 v (vals me)) (hb : Below wc.heap.size wc wn) : SS w s r cs st bk me o1 o2 (some v) wn :=
  have h' := h.step hb
  ⟨h'.hb, h'.hs, h'.hr, h'.h1, h'.h2, fun _ e => by cases e; exact h.new ho, h'.d12,
    fun v' _ e' e k hk' hk => by cases e; have h1 := (ho.block k hk).1; have h2 := ((h.h1 v' e').1.block k hk').2.1; omega,
    fun v' _ e' e k hk' hk => by cases e; have h1 := (ho.block k hk).1; have h2 := ((h.h2 v' e').1.block k hk').2.1; omega⟩
theorem SS.cells (h : SS w s r cs st bk me o1 o2 o3 wc) (hc : cs.size = 10) : wc.frozen? ⟨s, 2, none⟩ = false ∧ wc.frozen? ⟨s, 3, none⟩ = false ∧ wc.frozen? ⟨s, 4, none⟩ = false ∧ wc.cell? ⟨s, 2, none⟩ = some cs[2] ∧ wc.cell? ⟨s, 3, none⟩ = some cs[3] ∧ wc.cell? ⟨s, 4, none⟩ = some cs[4] :=
  ⟨whole_frozen h.hs 2, whole_frozen h.hs 3, whole_frozen h.hs 4, whole_cell h.hs (by simp), whole_cell h.hs (by simp), whole_cell h.hs (by simp)⟩
end
/-- what is there behind the three stores -/
structure SG (w : World) (s r : Nat) (m : M) (v1 v2 v3 : Value) (wc : World) : Prop where
  hb : Below w.heap.size w wc
  hs : wc.heap[s]? = some (.cells (cells10 m.ip m.handler v1 v2 v3 m.out m.inp m.read m.status m.code) 24 (0, 0))
  hr : wc.heap[r]? = some (.cells zero10 24 (0, 0))
  own : OwnsL wc w.heap.size v1 v2 v3 m
  far : ∀ v, v = v1 ∨ v = v2 ∨ v = v3 → ∀ k, blk v = some k → r < k
theorem three_set' {w : World} {g : Nat} {cs : Array Value} {T : TypeId} (h : w.heap[g]? = some (.cells cs T (0, 0))) (a b c : Value) :
    (((w.setCell ⟨g, 2, none⟩ a).setCell ⟨g, 3, none⟩ b).setCell ⟨g, 4, none⟩ c).heap[g]? = some (.cells (((cs.setIfInBounds 2 a).setIfInBounds 3 b).setIfInBounds 4 c) T (0, 0)) ∧ Stirred w (((w.setCell ⟨g, 2, none⟩ a).setCell ⟨g, 3, none⟩ b).setCell ⟨g, 4, none⟩ c) [g] :=
  ⟨whole_set (whole_set (whole_set h 2 a) 3 b) 4 c, ((Stirred.setCell w ⟨g, 2, none⟩ a).trans (Stirred.setCell _ ⟨g, 3, none⟩ b) (fun k hk => .inl hk)).trans (Stirred.setCell _ ⟨g, 4, none⟩ c) (fun k hk => .inl hk)⟩
theorem SG.of {w : World} {s r : Nat} {m : M} {vs vb vm v1 v2 v3 : Value} {wc : World} (hw : w.heap.size ≤ s) (hn : r ≠ s) (h : SS w s r (cells10 m.ip m.handler vs vb vm m.out m.inp m.read m.status m.code) m.stack m.back m.mem (some v1) (some v2) (some v3) wc) :
    SG w s r m v1 v2 v3 (((wc.setCell ⟨s, 2, none⟩ v1).setCell ⟨s, 3, none⟩ v2).setCell ⟨s, 4, none⟩ v3) := by
  have hs := three_set' h.hs v1 v2 v3
  have hk : ∀ {v : Value}, (∀ k, blk v = some k → s < k ∧ r < k) → ∀ k, blk v = some k → k ∉ [s] := fun hf k e hm => by rw [List.mem_singleton] at hm; have := (hf k e).1; omega
  refine ⟨h.hb.trans (hs.2.below (B := w.heap.size) (fun k hk => by rw [List.mem_singleton.1 hk]; exact hw) h.hb.size), hs.1, hs.2.whole h.hr (by rw [List.mem_singleton]; exact hn),
    ⟨(h.h1 _ rfl).1.touch hs.2 (hk (h.h1 _ rfl).2), (h.h2 _ rfl).1.touch hs.2 (hk (h.h2 _ rfl).2), (h.h3 _ rfl).1.touch hs.2 (hk (h.h3 _ rfl).2), fun k e => ⟨h.d12 _ _ rfl rfl k e, h.d13 _ _ rfl rfl k e⟩, fun k e => h.d23 _ _ rfl rfl k e⟩, ?_⟩
  rintro v (rfl | rfl | rfl) k e
  · exact ((h.h1 _ rfl).2 k e).2
  · exact ((h.h2 _ rfl).2 k e).2
  · exact ((h.h3 _ rfl).2 k e).2
/-- a load whose answer is known -/
theorem wpList_loaded {P : Program} {ops : Array Oper} {rest : List Oper} {o : Oper} {a : Act} {w : World} {Q : Exit → Act → World → Prop} (hw : Region.wanted o (yielded ops a.tmps) = true) (ty : TypeId) (x : Operand) (ho : o.op = .load ty x) (ad : Addr) (hx : a.eval x = .pointer (some ad)) (v : Value)
    (hl : (loadVar ty ad).run P w = .ok v w) (h : wpList P ops Q rest (a.put o.dst v) w) : wpList P ops Q (o :: rest) a w := by
  refine wpList_step fun K hK => ?_
  rw [if_pos hw]
  unfold Oper.wp execOp
  simp only [ho, hx, Instr.loadAt, Instr.sureAddr, Sem.run_bind, Sem.run_pure, Result.andThen_ok, hl]
  exact hK _ _ h
theorem keep1 {w : World} {q s j ps pb pf : Nat} {v : Value} (hn : q ≠ s) (h : w.cell? ⟨q, 10, none⟩ = some (.pointer (some ⟨ps, 0, none⟩)) ∧ w.cell? ⟨q, 11, none⟩ = some (.pointer (some ⟨pb, 0, none⟩)) ∧ w.cell? ⟨q, 12, none⟩ = some (.pointer (some ⟨pf, 0, none⟩))) :
    (w.setCell ⟨s, j, none⟩ v).cell? ⟨q, 10, none⟩ = some (.pointer (some ⟨ps, 0, none⟩)) ∧ (w.setCell ⟨s, j, none⟩ v).cell? ⟨q, 11, none⟩ = some (.pointer (some ⟨pb, 0, none⟩)) ∧ (w.setCell ⟨s, j, none⟩ v).cell? ⟨q, 12, none⟩ = some (.pointer (some ⟨pf, 0, none⟩)) :=
  have hs := Stirred.setCell w ⟨s, j, none⟩ v
  have hm : q ∉ [s] := by rw [List.mem_singleton]; exact hn
  ⟨hs.cell hm h.1, hs.cell hm h.2.1, hs.cell hm h.2.2⟩
set_option maxHeartbeats 8000000 in
set_option maxRecDepth 100000 in
theorem state_any {w : World} {B q : Nat} {F : List Nat} {m : M} (h : Mk w B q F m) : Calls Tryz.prog 32 #[.pointer (some ⟨q, 0, none⟩)] w (GivesM m w) := by
  obtain ⟨ps, gs, pb, gb, pf, vC, vH, ch, vs, vb, vm, -, h⟩ := h
  have C1 := Lib.hid (fun wc (hbw : Below w.heap.size w wc) => all_any (h.st.below hbw))
  have C2 := Lib.hid (fun wc (hbw : Below w.heap.size w wc) => all_any (h.bk.below hbw))
  have C3 := Lib.hid (fun wc (hbw : Below w.heap.size w wc) => Fld.all_any (h.me.below hbw))
  have HONE := Lib.hid h.one
  have HM := Lib.hid h
  obtain ⟨w1, w2, r, s, hw1, hw2, hr, hs, HR, HS0, HB, HZ, HW⟩ := two_boxes w zero10
  have hb1 : Below w.heap.size w w1 := by rw [← hw1]; exact (Below.refl w.heap.size w).alloc (Nat.le_refl _) _
  have HL1 := Lib.hid (load_rest (HM.out.below hb1).box)
  have hq : q < w1.heap.size := Nat.lt_of_lt_of_le (whole_lt h.box) hb1.size
  have n1 : w1.cell? ⟨q, 10, none⟩ = some (.pointer (some ⟨ps, 0, none⟩)) := whole_cell (HM.out.below hb1).box rfl
  have HQS := Lib.hid (show q ≠ s by rw [hs] at hq; omega)
  clear h hb1 hq n1
  go_enter Tryz.func32, Tryz.ntmps32
  go_upto_region 2 with (first
    | (refine wpList_loaded (by rfl) _ _ rfl ⟨q, 0, none⟩ rfl _ HL1.out ?_)
    | (refine st_state (by rfl) _ _ rfl s _ rfl rfl _ _ HS0.out rfl rfl (all_one HONE.out.1 HONE.out.2.1 HONE.out.2.2) ?_; intro w3 hs3 ht3; have HS3 := Lib.hid hs3; have HT3 := Lib.hid ht3; clear hs3 ht3))
  have HR3 := Lib.hid (HT3.out.whole HR.out (by have := HZ.out; rw [List.mem_singleton]; omega))
  have hb3 : Below w.heap.size w w3 := by
    have h1 := HB.out
    rw [← HW.out] at h1
    exact h1.trans (HT3.out.below (fun k hk => by rw [List.mem_singleton.1 hk]; have := HZ.out; have := HW.out; omega) h1.size)
  have HS : Hid (SS w s r (cells10 m.ip m.handler vs vb vm m.out m.inp m.read m.status m.code) m.stack m.back m.mem none none none w3.drew) := Lib.hid ⟨hb3.drew, HS3.out, HR3.out, fun p e => (by cases e), fun p e => (by cases e), fun p e => (by cases e), fun p p' e => (by cases e), fun p p' e => (by cases e), fun p p' e => (by cases e)⟩
  obtain ⟨n1, n2, n3⟩ := (HM.out.below hb3).ptrs
  clear hw1 hw2 hr hs HR HS0 hb3 HL1 HB HS3 HT3 HR3
  dsimp only [Act.put]
  go_cut [] (fun wx => ∃ v1 v2 v3, Hid (SG w s r m v1 v2 v3 wx))
  case first =>
    obtain ⟨f2, f3, f4, k2, k3, k4⟩ := HS.out.cells rfl
    go_wp2_with fail
    go_region_held3 (fun w' => w'.cell? ⟨q, 10, none⟩ = some (.pointer (some ⟨ps, 0, none⟩)) ∧ w'.cell? ⟨q, 11, none⟩ = some (.pointer (some ⟨pb, 0, none⟩)) ∧ w'.cell? ⟨q, 12, none⟩ = some (.pointer (some ⟨pf, 0, none⟩)))
      (first
        | exact ⟨n1, n2, n3⟩
        | exact keep1 HQS.out ⟨n1, n2, n3⟩
        | exact keep1 HQS.out (keep1 HQS.out ⟨n1, n2, n3⟩)
        | exact keep1 HQS.out (keep1 HQS.out (keep1 HQS.out ⟨n1, n2, n3⟩)))
      (first
      | (go_at_call_of 50 (Value.pointer (some (⟨ps, 0, none⟩ : Addr))); refine (C1.out _ HS.out.hb).mono ?_; rintro e wn ⟨c, rfl, hl, hb⟩; obtain ⟨ao, cc, hcc⟩ := hl.slice; rw [vals_length] at hcc; subst hcc; have HS := Lib.hid (HS.out.set1 hl hb); clear hl hb; obtain ⟨n1, n2, n3⟩ := (HM.out.below HS.out.hb).ptrs; obtain ⟨f2, f3, f4, k2, k3, k4⟩ := HS.out.cells rfl)
      | (go_at_call_of 50 (Value.pointer (some (⟨pb, 0, none⟩ : Addr))); refine (C2.out _ HS.out.hb).mono ?_; rintro e wn ⟨c, rfl, hl, hb⟩; obtain ⟨ao, cc, hcc⟩ := hl.slice; rw [vals_length] at hcc; subst hcc; have HS := Lib.hid (HS.out.set2 hl hb); clear hl hb; obtain ⟨n1, n2, n3⟩ := (HM.out.below HS.out.hb).ptrs; obtain ⟨f2, f3, f4, k2, k3, k4⟩ := HS.out.cells rfl)
      | (go_at_call_of 51 (Value.pointer (some (⟨pf, 0, none⟩ : Addr))); refine (C3.out _ HS.out.hb).mono ?_; rintro e wn ⟨c, rfl, hl, hb⟩; obtain ⟨ao, cc, hcc⟩ := hl.slice; rw [vals_length] at hcc; subst hcc; have HS := Lib.hid (HS.out.set3 hl hb); clear hl hb; obtain ⟨n1, n2, n3⟩ := (HM.out.below HS.out.hb).ptrs; obtain ⟨f2, f3, f4, k2, k3, k4⟩ := HS.out.cells rfl))
    all_goals
      go_wp2_with fail
      go_meet
      exact ⟨_, _, _, SG.of (by have := HW.out; have := HZ.out; omega) (by have := HZ.out; omega) HS.out⟩
  case rest =>
    obtain ⟨v1, v2, v3, HF⟩ := hcut
    clear HS C1 C2 C3 n1 n2 n3
    have HG := Lib.hid HF.out.hs
    have HR := Lib.hid HF.out.hr
    have HO := Lib.hid HF.out.own
    go_wp2_with (first
      | (refine ld_state (by rfl) _ rfl _ rfl _ _ HG.out rfl ?_)
      | (refine st_state (by rfl) _ _ rfl r _ rfl rfl _ _ HR.out rfl rfl (all_one (slice_one HO.out.st.slice) (slice_one HO.out.bk.slice) (slice_one HO.out.me.slice)) ?_; intro wf hr ht; have HRF := Lib.hid hr; have HTF := Lib.hid ht; clear hr ht))
    refine bodyPost_ret (results_cell_row rfl _ _ r _ _ _ _ rfl HRF.out Tryz.underlying24 rfl state_size) rfl ?_
    have hl := fun {v : Value} {xs : List Int} (ho : Owns wc w.heap.size 3 v (vals xs)) (hf : ∀ k, blk v = some k → r < k) => (ho.touch HTF.out (fun k hk hm => by rw [List.mem_singleton] at hm; have := hf k hk; omega) : Owns wf w.heap.size 3 v (vals xs))
    refine ⟨_, rfl, ⟨v1, v2, v3, rfl, ⟨hl HO.out.st (HF.out.far _ (.inl rfl)), hl HO.out.bk (HF.out.far _ (.inr (.inl rfl))), hl HO.out.me (HF.out.far _ (.inr (.inr rfl))), HO.out.sb, HO.out.bm⟩⟩, HF.out.hb.trans (HTF.out.below (B := w.heap.size) (fun k hk => by rw [List.mem_singleton.1 hk]; have h1 := HW.out; omega) HF.out.hb.size)⟩
end Go.Proofs.YtlomfmilohbgpaaGreatDoor.Inn
