
/- Package inner's Copy, taken out of the machine's texts. -/
import Derived.Test.YtgabemlehmhgpaaDoorRefMach
import Derived.Test.YtgabemlehmhgpaaDoorRefCopy
import Derived.Test.YtgabemlehmhgpaaDoorShelf
import Derived.Lib.BufferMore
import Derived.Deep.RegionHeld3
import Derived.Deep.RegionWith
import Derived.Deep.DeepCutAuto
namespace Go.Proofs.YtgabemlehmhgpaaDoor.Ev
open Go.RowKit Book Mem Mach
set_option linter.unusedVariables false
set_option linter.unusedSimpArgs false
/-- what is known while the lists are told one by one -/
structure SS (w : World) (s r : Nat) (cs : Array Value) (st bk me : List Int) (o1 o2 o3 : Option Value) (wc : World) : Prop where
  hb : Below w.heap.size w wc
  hs : wc.heap[s]? = some (.cells cs 28 (0, 0))
  hr : wc.heap[r]? = some (.cells zero10 28 (0, 0))
  h1 : ∀ v, o1 = some v → Owns wc w.heap.size 3 v (vals st) ∧ ∀ k, blk v = some k → s < k ∧ r < k
  h2 : ∀ v, o2 = some v → Owns wc w.heap.size 3 v (vals bk) ∧ ∀ k, blk v = some k → s < k ∧ r < k
  h3 : ∀ v, o3 = some v → Owns wc w.heap.size 3 v (vals me) ∧ ∀ k, blk v = some k → s < k ∧ r < k
  d12 : ∀ v v', o1 = some v → o2 = some v' → ∀ k, blk v = some k → blk v' ≠ some k
  d13 : ∀ v v', o1 = some v → o3 = some v' → ∀ k, blk v = some k → blk v' ≠ some k
  d23 : ∀ v v', o2 = some v → o3 = some v' → ∀ k, blk v = some k → blk v' ≠ some k
section
variable {w : World} {s r : Nat} {cs : Array Value} {st bk me : List Int} {o1 o2 o3 : Option Value} {wc wn : World}
theorem SS.step (h : SS w s r cs st bk me o1 o2 o3 wc) (hb : Below wc.heap.size wc wn) : SS w s r cs st bk me o1 o2 o3 wn :=
  ⟨h.hb.trans (hb.mono h.hb.size), (Stirred.of_below hb []).whole h.hs List.not_mem_nil, (Stirred.of_below hb []).whole h.hr List.not_mem_nil, fun v e => ⟨(h.h1 v e).1.below hb, (h.h1 v e).2⟩, fun v e => ⟨(h.h2 v e).1.below hb, (h.h2 v e).2⟩, fun v e => ⟨(h.h3 v e).1.below hb, (h.h3 v e).2⟩, h.d12, h.d13, h.d23⟩
theorem SS.new (h : SS w s r cs st bk me o1 o2 o3 wc) {v : Value} {xs : List Int} (ho : Owns wn wc.heap.size 3 v (vals xs)) : Owns wn w.heap.size 3 v (vals xs) ∧ ∀ k, blk v = some k → s < k ∧ r < k :=
  ⟨ho.from h.hb.size, fun k hk => by have h1 := (ho.block k hk).1; have h2 := whole_lt h.hs; have h3 := whole_lt h.hr; omega⟩
theorem SS.set1 (h : SS w s r cs st bk me none o2 o3 wc) {v : Value} (ho : Owns wn wc.heap.size 3 v (vals st)) (hb : Below wc.heap.size wc wn) : SS w s r cs st bk me (some v) o2 o3 wn :=
  have h' := h.step hb
  ⟨h'.hb, h'.hs, h'.hr, fun _ e => by cases e; exact h.new ho, h'.h2, h'.h3,
    fun _ v' e e' k hk hk' => by cases e; have h1 := (ho.block k hk).1; have h2 := ((h.h2 v' e').1.block k hk').2.1; omega,
    fun _ v' e e' k hk hk' => by cases e; have h1 := (ho.block k hk).1; have h2 := ((h.h3 v' e').1.block k hk').2.1; omega, h'.d23⟩
theorem SS.set2 (h : SS w s r cs st bk me o1 none o3 wc) {v : Value} (ho : Owns wn wc.heap.size 3 v (vals bk)) (hb : Below wc.heap.size wc wn) : SS w s r cs st bk me o1 (some v) o3 wn :=
  have h' := h.step hb
  ⟨h'.hb, h'.hs, h'.hr, h'.h1, fun _ e => by cases e; exact h.new ho, h'.h3,
    fun v' _ e' e k hk' hk => by cases e; have h1 := (ho.block k hk).1; have h2 := ((h.h1 v' e').1.block k hk').2.1; omega, h'.d13,
    fun _ v' e e' k hk hk' => by cases e; have h1 := (ho.block k hk).1; have h2 := ((h.h3 v' e').1.block k hk').2.1; omega⟩
theorem SS.set3 (h : SS w s r cs st bk me o1 o2 none wc) {v : Value} (ho : Owns wn wc.heap.size 3 v (vals me)) (hb : Below wc.heap.size wc wn) : SS w s r cs st bk me o1 o2 (some v) wn :=
  have h' := h.step hb
  ⟨h'.hb, h'.hs, h'.hr, h'.h1, h'.h2, fun _ e => by cases e; exact h.new ho, h'.d12,
    fun v' _ e' e k hk' hk => by cases e; have h1 := (ho.block k hk).1; have h2 := ((h.h1 v' e').1.block k hk').2.1; omega,
    fun v' _ e' e k hk' hk => by cases e; have h1 := (ho.block k hk).1; have h2 := ((h.h2 v' e').1.block k hk').2.1; omega⟩
theorem SS.cells (h : SS w s r cs st bk me o1 o2 o3 wc) (hc : cs.size = 10) : wc.frozen? ⟨s, 2, none⟩ = false ∧ wc.frozen? ⟨s, 3, none⟩ = false ∧ wc.frozen? ⟨s, 4, none⟩ = false ∧ wc.cell? ⟨s, 2, none⟩ = some cs[2] ∧ wc.cell? ⟨s, 3, none⟩ = some cs[3] ∧ wc.cell? ⟨s, 4, none⟩ = some cs[4] :=
  ⟨whole_frozen h.hs 2, whole_frozen h.hs 3, whole_frozen h.hs 4, whole_cell h.hs (by simp), whole_cell h.hs (by simp), whole_cell h.hs (by simp)⟩
end
/-- what is there behind the three stores -/
structure SG (w : World) (s r : Nat) (m : M) (v1 v2 v3 : Value) (wc : World) : Prop where
  hb : Below w.heap.size w wc
  hs : wc.heap[s]? = some (.cells (cells10 m.ip m.handler v1 v2 v3 m.out m.inp m.read m.status m.code) 28 (0, 0))
  hr : wc.heap[r]? = some (.cells zero10 28 (0, 0))
  own : OwnsL wc w.heap.size v1 v2 v3 m
  far : ∀ v, v = v1 ∨ v = v2 ∨ v = v3 → ∀ k, blk v = some k → r < k
theorem three_set' {w : World} {g : Nat} {cs : Array Value} {T : TypeId} (h : w.heap[g]? = some (.cells cs T (0, 0))) (a b c : Value) :
    (((w.setCell ⟨g, 2, none⟩ a).setCell ⟨g, 3, none⟩ b).setCell ⟨g, 4, none⟩ c).heap[g]? = some (.cells (((cs.setIfInBounds 2 a).setIfInBounds 3 b).setIfInBounds 4 c) T (0, 0)) ∧ Stirred w (((w.setCell ⟨g, 2, none⟩ a).setCell ⟨g, 3, none⟩ b).setCell ⟨g, 4, none⟩ c) [g] :=
  ⟨whole_set (whole_set (whole_set h 2 a) 3 b) 4 c, ((Stirred.setCell w ⟨g, 2, none⟩ a).trans (Stirred.setCell _ ⟨g, 3, none⟩ b) (fun k hk => .inl hk)).trans (Stirred.setCell _ ⟨g, 4, none⟩ c) (fun k hk => .inl hk)⟩
theorem SG.of {w : World} {s r : Nat} {m : M} {vs vb vm v1 v2 v3 : Value} {wc : World} (hw : w.heap.size ≤ s) (hn : r ≠ s) (h : SS w s r (cells10 m.ip m.handler vs vb vm m.out m.inp m.read m.status m.code) m.stack m.back m.mem (some v1) (some v2) (some v3) wc) :
    SG w s r m v1 v2 v3 (((wc.setCell ⟨s, 2, none⟩ v1).setCell ⟨s, 3, none⟩ v2).setCell ⟨s, 4, none⟩ v3) := by
  have hs := three_set' h.hs v1 v2 v3
  have hk : ∀ {v : Value}, (∀ k, blk v = some k → s < k ∧ r < k) → ∀ k, blk v = some k → k ∉ [s] := fun hf k e hm => by rw [List.mem_singleton] at hm; have := (hf k e).1; omega
  refine ⟨h.hb.trans (hs.2.below (B := w.heap.size) (fun k hk => by rw [List.mem_singleton.1 hk]; exact hw) h.hb.size), hs.1, hs.2.whole h.hr (by rw [List.mem_singleton]; exact hn),
    ⟨(h.h1 _ rfl).1.touch hs.2 (hk (h.h1 _ rfl).2), (h.h2 _ rfl).1.touch hs.2 (hk (h.h2 _ rfl).2), (h.h3 _ rfl).1.touch hs.2 (hk (h.h3 _ rfl).2), fun k e => ⟨h.d12 _ _ rfl rfl k e, h.d13 _ _ rfl rfl k e⟩, fun k e => h.d23 _ _ rfl rfl k e⟩, ?_⟩
  rintro v (rfl | rfl | rfl) k e
  · exact ((h.h1 _ rfl).2 k e).2
  · exact ((h.h2 _ rfl).2 k e).2
  · exact ((h.h3 _ rfl).2 k e).2
set_option maxHeartbeats 4000000 in
set_option maxRecDepth 100000 in
/-- slices.Clone of a list wherever it lies -/
theorem clone_reads {w : World} {v : Value} {xs : List Int} (h : ReadsC w v xs) (hl : xs.length ≤ 10000) :
    Calls Tryd.prog 27 #[v] w fun e w' => ∃ c, e = .returned c ∧ Owns w' w.heap.size 3 c (vals xs) ∧ Below w.heap.size w w' := by
  obtain ⟨i0, q1, q2, q3, q4⟩ := info_parts Tryd.bkIntInfo
  have HI := Lib.hid (And.intro q1 (And.intro q2 (And.intro q3 q4)))
  have HR := Lib.hid h.1
  obtain ⟨ao, c, rfl, hc⟩ := h.2
  cases ao with
  | none =>
    have hx : xs = [] := by
      cases xs with
      | nil => rfl
      | cons x r =>
        obtain ⟨ao', c', e, hcell⟩ := h.1
        simp only [Value.slice.injEq] at e
        obtain ⟨a, ha, _⟩ := hcell 0 x rfl
        rw [← e.1] at ha
        cases ha
    subst hx
    exact (Tryd.slices_Clone_int_nil 0 c w).mono fun e w' ⟨h1, h2⟩ => by subst h2; exact ⟨_, h1, Owns.nil _ _ _, Below.refl _ _⟩
  | some ad =>
    obtain ⟨n, hn⟩ : ∃ n, xs.length = n := ⟨_, rfl⟩
    rw [hn] at hc HR
    have HN := Lib.hid hn
    have HL := Lib.hid hl
    rw [hn]
    clear h q1 q2 q3 q4 hn hl
    have hne := Lib.run_eql_slice_some_nil (P := Tryd.prog) w ad n c Tryd.underlying24
    go_enter Tryd.func27, Tryd.ntmps27
    have HB1 := Lib.hid ((Below.refl w.heap.size w).alloc (Nat.le_refl _) (.cells #[] 3))
    go_wp2_with (refine wpList_append_reads _ rfl _ _ 24 rfl w.heap.size 3 i0 (.int .i64 0) 8 Tryd.underlying24 HI.out.1 HI.out.2.1 HI.out.2.2.1 HI.out.2.2.2 rfl (.slice (some ⟨w.heap.size, 0, none⟩) 0 0) [] rfl (Owns.empty _ _ _ _) (.slice (some ad) n c) xs rfl (HR.out.below HB1.out) (by have := HL.out; unfold maxLen; simp; omega) (by have := HL.out; simp; omega) HB1.out.size ?_; intro v1 w2 ho _ ht _; have HO := Lib.hid (show Owns w2 w.heap.size 3 v1 (vals xs) from ho); have HT := Lib.hid (HB1.out.trans (ht.below (fun k hk => by simp [blk] at hk) HB1.out.size)); obtain ⟨a1, c1, e1⟩ := HO.out.slice; rw [vals_length] at e1; subst e1; clear ho ht)
    go_ret
    exact ⟨_, rfl, HO.out, HT.out⟩
theorem SS.six {w : World} {s r : Nat} {m : M} {vs vb vm : Value} {st bk me : List Int} {o1 o2 o3 : Option Value} {wc : World} (h : SS w s r (cells10 m.ip m.handler vs vb vm m.out m.inp m.read m.status m.code) st bk me o1 o2 o3 wc) :
    wc.cell? ⟨s, 2, none⟩ = some vs ∧ wc.cell? ⟨s, 3, none⟩ = some vb ∧ wc.cell? ⟨s, 4, none⟩ = some vm ∧ wc.frozen? ⟨s, 2, none⟩ = false ∧ wc.frozen? ⟨s, 3, none⟩ = false ∧ wc.frozen? ⟨s, 4, none⟩ = false :=
  ⟨whole_cell h.hs rfl, whole_cell h.hs rfl, whole_cell h.hs rfl, whole_frozen h.hs 2, whole_frozen h.hs 3, whole_frozen h.hs 4⟩
set_option maxHeartbeats 8000000 in
set_option maxRecDepth 100000 in
theorem innCopy_any {w : World} {v : Value} {m : M} (h : ReadsM w v m) (h1 : m.stack.length ≤ 10000) (h2 : m.back.length ≤ 10000) (h3 : m.mem.length ≤ 10000) :
    Calls Tryd.prog 21 #[v] w (GivesM m w) := by
  obtain ⟨vs, vb, vm, rfl, hs, hb, hm⟩ := h
  have C1 := Lib.hid (fun wc (hbw : Below w.heap.size w wc) => clone_reads (hs.below hbw) h1)
  have C2 := Lib.hid (fun wc (hbw : Below w.heap.size w wc) => clone_reads (hb.below hbw) h2)
  have C3 := Lib.hid (fun wc (hbw : Below w.heap.size w wc) => clone_reads (hm.below hbw) h3)
  obtain ⟨w1, w2, g, r, hw1, hw2, hg, hr, HG, HR, HB, HZ, HW⟩ := two_boxes w (cells10 m.ip m.handler vs vb vm m.out m.inp m.read m.status m.code)
  have HS : Hid (SS w g r (cells10 m.ip m.handler vs vb vm m.out m.inp m.read m.status m.code) m.stack m.back m.mem none none none w2.drew) := Lib.hid ⟨(show Below w.heap.size w w2 by rw [HW.out]; exact HB.out).drew, HG.out, HR.out, fun p e => (by cases e), fun p e => (by cases e), fun p e => (by cases e), fun p p' e => (by cases e), fun p p' e => (by cases e), fun p p' e => (by cases e)⟩
  clear hs hb hm h1 h2 h3
  go_enter Tryd.func21, Tryd.ntmps21
  go_upto_region 1 with fail
  clear hw1 hw2 hg hr HG HR HB
  go_cut [] (fun wx => ∃ v1 v2 v3, Hid (SG w g r m v1 v2 v3 wx))
  case first =>
    obtain ⟨a2, a3, a4, f2, f3, f4⟩ := HS.out.six
    go_wp2_with fail
    go_region_with (first
      | (go_at_call_of 27 vs; refine (C1.out _ HS.out.hb).mono ?_; rintro e wn ⟨c, rfl, hl, hb⟩; obtain ⟨ao, cc, hcc⟩ := hl.slice; rw [vals_length] at hcc; subst hcc; have HS := Lib.hid (HS.out.set1 hl hb); clear hl hb; obtain ⟨a2, a3, a4, f2, f3, f4⟩ := HS.out.six)
      | (go_at_call_of 27 vb; refine (C2.out _ HS.out.hb).mono ?_; rintro e wn ⟨c, rfl, hl, hb⟩; obtain ⟨ao, cc, hcc⟩ := hl.slice; rw [vals_length] at hcc; subst hcc; have HS := Lib.hid (HS.out.set2 hl hb); clear hl hb; obtain ⟨a2, a3, a4, f2, f3, f4⟩ := HS.out.six)
      | (go_at_call_of 27 vm; refine (C3.out _ HS.out.hb).mono ?_; rintro e wn ⟨c, rfl, hl, hb⟩; obtain ⟨ao, cc, hcc⟩ := hl.slice; rw [vals_length] at hcc; subst hcc; have HS := Lib.hid (HS.out.set3 hl hb); clear hl hb; obtain ⟨a2, a3, a4, f2, f3, f4⟩ := HS.out.six))
    all_goals
      go_wp2_with fail
      go_meet
      exact ⟨_, _, _, SG.of (by have := HW.out; omega) (by have := HZ.out; omega) HS.out⟩
  case rest =>
    obtain ⟨v1, v2, v3, HF⟩ := hcut
    clear HS C1 C2 C3
    have HG := Lib.hid HF.out.hs
    have HR := Lib.hid HF.out.hr
    have HO := Lib.hid HF.out.own
    go_wp2_with (first
      | (refine ld_state (by rfl) _ rfl _ rfl _ _ HG.out rfl ?_)
      | (refine st_state (by rfl) _ _ rfl r _ rfl rfl _ _ HR.out rfl rfl (all_one (slice_one HO.out.st.slice) (slice_one HO.out.bk.slice) (slice_one HO.out.me.slice)) ?_; intro wf hr ht; have HRF := Lib.hid hr; have HTF := Lib.hid ht; clear hr ht))
    refine bodyPost_ret (results_cell_row rfl _ _ r _ _ _ _ rfl HRF.out Tryd.underlying28 rfl state_size) rfl ?_
    have hl := fun {v : Value} {xs : List Int} (ho : Owns wc w.heap.size 3 v (vals xs)) (hf : ∀ k, blk v = some k → r < k) => (ho.touch HTF.out (fun k hk hm => by rw [List.mem_singleton] at hm; have := hf k hk; omega) : Owns wf w.heap.size 3 v (vals xs))
    refine ⟨_, rfl, ⟨v1, v2, v3, rfl, ⟨hl HO.out.st (HF.out.far _ (.inl rfl)), hl HO.out.bk (HF.out.far _ (.inr (.inl rfl))), hl HO.out.me (HF.out.far _ (.inr (.inr rfl))), HO.out.sb, HO.out.bm⟩⟩, HF.out.hb.trans (HTF.out.below (B := w.heap.size) (fun k hk => by rw [List.mem_singleton.1 hk]; have h1 := HW.out; have h2 := HZ.out; omega) HF.out.hb.size)⟩
end Go.Proofs.YtgabemlehmhgpaaDoor.Ev
