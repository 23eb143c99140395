/- Package inner's Copy, taken out of the machine's texts. -/
import Derived.Test.YtpecingkoodmfaaGreatDoorS8
import Derived.Test.YtpecingkoodmfaaGreatDoorS17
import Derived.Lib.BufferMore
import Derived.Deep.RegionHeld3
import Derived.Deep.RegionWith
import Derived.Deep.DeepCutAuto
import Derived.Test.YtpecingkoodmfaaGreatDoorS25
import Derived.Test.YtpecingkoodmfaaGreatDoorS11
namespace Go.Proofs.YtpecingkoodmfaaGreatDoor.Ev
open Go.RowKit Book Mem Mach
set_option linter.unusedVariables false
set_option linter.unusedSimpArgs false
/-- what is known while the lists are told one by one -/
structure SS (w : World) (s r : Nat) (cs : Array Value) (st bk me : List Int) (o1 o2 o3 : Option Value) (wc : World) : Prop where
  hb : Below w.heap.size w wc
  hs : wc.heap[s]? = some (.cells cs 50 (0, 0))
  hr : wc.heap[r]? = some (.cells zero10 50 (0, 0))
  h1 : ∀ v, o1 = some v → Owns wc w.heap.size 3 v (vals st) ∧ ∀ k, blk v = some k → s < k ∧ r < k
  h2 : ∀ v, o2 = some v → Owns wc w.heap.size 3 v (vals bk) ∧ ∀ k, blk v = some k → s < k ∧ r < k
  h3 : ∀ v, o3 = some v → Owns wc w.heap.size 3 v (vals me) ∧ ∀ k, blk v = some k → s < k ∧ r < k
  d12 : ∀ v v', o1 = some v → o2 = some v' → ∀ k, blk v = some k → blk v' ≠ some k
  d13 : ∀ v v', o1 = some v → o3 = some v' → ∀ k, blk v = some k → blk v' ≠ some k
  d23 : ∀ v v', o2 = some v → o3 = some v' → ∀ k, blk v = some k → blk v' ≠ some k
section
variable {w : World} {s r : Nat} {cs : Array Value} {st bk me : List Int} {o1 o2 o3 : Option Value} {wc wn : World}
theorem SS.step (h : SS w s r cs st bk me o1 o2 o3 wc) (hb : Below wc.heap.size wc wn) : SS w s r cs st bk me o1 o2 o3 wn :=
  ⟨h.hb.trans (hb.mono h.hb.size), (Stirred.of_below hb []).whole h.hs List.not_mem_nil, (Stirred.of_below hb []).whole h.hr List.not_mem_nil, fun v e => ⟨(h.h1 v e).1.below hb, (h.h1 v e).2⟩, fun v e => ⟨(h.h2 v e).1.below hb, (h.h2 v e).2⟩, fun v e => ⟨(h.h3 v e).1.below hb, (h.h3 v e).2⟩, h.d12, h.d13, h.d23⟩
theorem SS.new (h : SS w s r cs st bk me o1 o2 o3 wc) {v : Value} {xs : List Int} (ho : Owns wn wc.heap.size 3 v (vals xs)) : Owns wn w.heap.size 3 v (vals xs) ∧ ∀ k, blk v = some k → s < k ∧ r < k :=
  ⟨ho.from h.hb.size, fun k hk => by have h1 := (ho.block k hk).1; have h2 := whole_lt h.hs; have h3 := whole_lt h.hr; omega⟩
theorem SS.set1 (h : SS w s r cs st bk me none o2 o3 wc) {v : Value} (ho : Owns wn wc.heap.size 3 v (vals st)) (hb : Below wc.heap.size wc wn) : SS w s r cs st bk me (some v) o2 o3 wn :=
  have h' := h.step hb
  ⟨h'.hb, h'.hs, h'.hr, fun _ e => by cases e; exact h.new ho, h'.h2, h'.h3,
    fun _ v' e e' k hk hk' => by cases e; have h1 := (ho.block k hk).1; have h2 := ((h.h2 v' e').1.block k hk').2.1; omega,
    fun _ v' e e' k hk hk' => by cases e; have h1 := (ho.block k hk).1; have h2 := ((h.h3 v' e').1.block k hk').2.1; omega, h'.d23⟩
theorem SS.set2 (h : SS w s r cs st bk me o1 none o3 wc) {v : Value} (ho : Owns wn wc.heap.size 3 v (vals bk)) (hb : Below wc.heap.size wc wn) : SS w s r cs st bk me o1 (some v) o3 wn :=
  have h' := h.step hb
  ⟨h'.hb, h'.hs, h'.hr, h'.h1, fun _ e => by cases e; exact h.new ho, h'.h3,
    fun v' _ e' e k hk' hk => by cases e; have h1 := (ho.block k hk).1; have h2 := ((h.h1 v' e').1.block k hk').2.1; omega, h'.d13,
    fun _ v' e e' k hk hk' => by cases e; have h1 := (ho.block k hk).1; have h2 := ((h.h3 v' e').1.block k hk').2.1; omega⟩
theorem SS.set3 (h : SS w s r cs st bk me o1 o2 none wc) {v : Value} (ho : Owns wn wc.heap.size 3 v (vals me)) (hb : Below wc.heap.size wc wn) : SS w s r cs st bk me o1 o2 (some v) wn :=
  have h' := h.step hb
  ⟨h'.hb, h'.hs, h'.hr, h'.h1, h'.h2, fun _ e => by cases e; exact h.new ho, h'.d12,
    fun v' _ e' e k hk' hk => by cases e; have h1 := (ho.block k hk).1; have h2 := ((h.h1 v' e').1.block k hk').2.1; omega,
    fun v' _ e' e k hk' hk => by cases e; have h1 := (ho.block k hk).1; have h2 := ((h.h2 v' e').1.block k hk').2.1; omega⟩
end
/-- what is there behind the three stores -/
structure SG (w : World) (s r : Nat) (m : M) (v1 v2 v3 : Value) (wc : World) : Prop where
  hb : Below w.heap.size w wc
  hs : wc.heap[s]? = some (.cells (cells10 m.ip m.handler v1 v2 v3 m.out m.inp m.read m.status m.code) 50 (0, 0))
  hr : wc.heap[r]? = some (.cells zero10 50 (0, 0))
  own : OwnsL wc w.heap.size v1 v2 v3 m
  far : ∀ v, v = v1 ∨ v = v2 ∨ v = v3 → ∀ k, blk v = some k → r < k
theorem three_set' {w : World} {g : Nat} {cs : Array Value} {T : TypeId} (h : w.heap[g]? = some (.cells cs T (0, 0))) (a b c : Value) :
    (((w.setCell ⟨g, 2, none⟩ a).setCell ⟨g, 3, none⟩ b).setCell ⟨g, 4, none⟩ c).heap[g]? = some (.cells (((cs.setIfInBounds 2 a).setIfInBounds 3 b).setIfInBounds 4 c) T (0, 0)) ∧ Stirred w (((w.setCell ⟨g, 2, none⟩ a).setCell ⟨g, 3, none⟩ b).setCell ⟨g, 4, none⟩ c) [g] :=
  ⟨whole_set (whole_set (whole_set h 2 a) 3 b) 4 c, ((Stirred.setCell w ⟨g, 2, none⟩ a).trans (Stirred.setCell _ ⟨g, 3, none⟩ b) (fun k hk => .inl hk)).trans (Stirred.setCell _ ⟨g, 4, none⟩ c) (fun k hk => .inl hk)⟩
theorem SG.of {w : World} {s r : Nat} {m : M} {vs vb vm v1 v2 v3 : Value} {wc : World} (hw : w.heap.size ≤ s) (hn : r ≠ s) (h : SS w s r (cells10 m.ip m.handler vs vb vm m.out m.inp m.read m.status m.code) m.stack m.back m.mem (some v1) (some v2) (some v3) wc) :
    SG w s r m v1 v2 v3 (((wc.setCell ⟨s, 2, none⟩ v1).setCell ⟨s, 3, none⟩ v2).setCell ⟨s, 4, none⟩ v3) := by
  have hs := three_set' h.hs v1 v2 v3
  have hk : ∀ {v : Value}, (∀ k, blk v = some k → s < k ∧ r < k) → ∀ k, blk v = some k → k ∉ [s] := fun hf k e hm => by rw [List.mem_singleton] at hm; have := (hf k e).1; omega
  refine ⟨h.hb.trans (hs.2.below (B := w.heap.size) (fun k hk => by rw [List.mem_singleton.1 hk]; exact hw) h.hb.size), hs.1, hs.2.whole h.hr (by rw [List.mem_singleton]; exact hn),
    ⟨(h.h1 _ rfl).1.touch hs.2 (hk (h.h1 _ rfl).2), (h.h2 _ rfl).1.touch hs.2 (hk (h.h2 _ rfl).2), (h.h3 _ rfl).1.touch hs.2 (hk (h.h3 _ rfl).2), fun k e => ⟨h.d12 _ _ rfl rfl k e, h.d13 _ _ rfl rfl k e⟩, fun k e => h.d23 _ _ rfl rfl k e⟩, ?_⟩
  rintro v (rfl | rfl | rfl) k e
  · exact ((h.h1 _ rfl).2 k e).2
  · exact ((h.h2 _ rfl).2 k e).2
  · exact ((h.h3 _ rfl).2 k e).2
set_option maxHeartbeats 4000000 in
set_option maxRecDepth 100000 in
/-- slices.Clone of a list wherever it lies -/
theorem clone_reads {w : World} {v : Value} {xs : List Int} (h : ReadsC w v xs) (hl : xs.length ≤ 10000) :
    Calls Tryz.prog 111 #[v] w fun e w' => ∃ c, e = .returned c ∧ Owns w' w.heap.size 3 c (vals xs) ∧ Below w.heap.size w w' := by
  obtain ⟨i0, q1, q2, q3, q4⟩ := info_parts Tryz.bkIntInfo
  have HI := Lib.hid (And.intro q1 (And.intro q2 (And.intro q3 q4)))
  have HR := Lib.hid h.1
  obtain ⟨ao, c, rfl, hc⟩ := h.2
  cases ao with
  | none =>
    have hx : xs = [] := by
      cases xs with
      | nil => rfl
      | cons x r =>
        obtain ⟨ao', c', e, hcell⟩ := h.1
        simp only [Value.slice.injEq] at e
        obtain ⟨a, ha, _⟩ := hcell 0 x rfl
        rw [← e.1] at ha
        cases ha
    subst hx
    exact (Tryz.slices_Clone_int_nil 0 c w).mono fun e w' ⟨h1, h2⟩ => by subst h2; exact ⟨_, h1, Owns.nil _ _ _, Below.refl _ _⟩
  | some ad =>
    obtain ⟨n, hn⟩ : ∃ n, xs.length = n := ⟨_, rfl⟩
    rw [hn] at hc HR
    have HN := Lib.hid hn
    have HL := Lib.hid hl
    rw [hn]
    clear h q1 q2 q3 q4 hn hl
    have hne := Lib.run_eql_slice_some_nil (P := Tryz.prog) w ad n c Tryz.underlying24
    go_enter Tryz.func111, Tryz.ntmps111
    have HB1 := Lib.hid ((Below.refl w.heap.size w).alloc (Nat.le_refl _) (.cells #[] 3))
    go_wp2_with (refine wpList_append_reads _ rfl _ _ 24 rfl w.heap.size 3 i0 (.int .i64 0) 8 Tryz.underlying24 HI.out.1 HI.out.2.1 HI.out.2.2.1 HI.out.2.2.2 rfl (.slice (some ⟨w.heap.size, 0, none⟩) 0 0) [] rfl (Owns.empty _ _ _ _) (.slice (some ad) n c) xs rfl (HR.out.below HB1.out) (by have := HL.out; unfold maxLen; simp; omega) (by have := HL.out; simp; omega) HB1.out.size ?_; intro v1 w2 ho _ ht _; have HO := Lib.hid (show Owns w2 w.heap.size 3 v1 (vals xs) from ho); have HT := Lib.hid (HB1.out.trans (ht.below (fun k hk => by simp [blk] at hk) HB1.out.size)); obtain ⟨a1, c1, e1⟩ := HO.out.slice; rw [vals_length] at e1; subst e1; clear ho ht)
    go_ret
    exact ⟨_, rfl, HO.out, HT.out⟩
theorem SS.six {w : World} {s r : Nat} {m : M} {vs vb vm : Value} {st bk me : List Int} {o1 o2 o3 : Option Value} {wc : World} (h : SS w s r (cells10 m.ip m.handler vs vb vm m.out m.inp m.read m.status m.code) st bk me o1 o2 o3 wc) :
    wc.cell? ⟨s, 2, none⟩ = some vs ∧ wc.cell? ⟨s, 3, none⟩ = some vb ∧ wc.cell? ⟨s, 4, none⟩ = some vm ∧ wc.frozen? ⟨s, 2, none⟩ = false ∧ wc.frozen? ⟨s, 3, none⟩ = false ∧ wc.frozen? ⟨s, 4, none⟩ = false :=
  ⟨whole_cell h.hs rfl, whole_cell h.hs rfl, whole_cell h.hs rfl, whole_frozen h.hs 2, whole_frozen h.hs 3, whole_frozen h.hs 4⟩
set_option maxHeartbeats 8000000 in
set_option maxRecDepth 100000 in
theorem innCopy_any {w : World} {v : Value} {m : M} (h : ReadsM w v m) (h1 : m.stack.length ≤ 10000) (h2 : m.back.length ≤ 10000) (h3 : m.mem.length ≤ 10000) :
    Calls Tryz.prog 89 #[v] w (GivesM m w) := by
  obtain ⟨vs, vb, vm, rfl, hs, hb, hm⟩ := h
  have C1 := Lib.hid (fun wc (hbw : Below w.heap.size w wc) => clone_reads (hs.below hbw) h1)
  have C2 := Lib.hid (fun wc (hbw : Below w.heap.size w wc) => clone_reads (hb.below hbw) h2)
  have C3 := Lib.hid (fun wc (hbw : Below w.heap.size w wc) => clone_reads (hm.below hbw) h3)
  obtain ⟨w1, w2, g, r, hw1, hw2, hg, hr, HG, HR, HB, HZ, HW⟩ := two_boxes w (cells10 m.ip m.handler vs vb vm m.out m.inp m.read m.status m.code)
  have HS : Hid (SS w g r (cells10 m.ip m.handler vs vb vm m.out m.inp m.read m.status m.code) m.stack m.back m.mem none none none w2.drew) := Lib.hid ⟨(show Below w.heap.size w w2 by rw [HW.out]; exact HB.out).drew, HG.out, HR.out, fun p e => (by cases e), fun p e => (by cases e), fun p e => (by cases e), fun p p' e => (by cases e), fun p p' e => (by cases e), fun p p' e => (by cases e)⟩
  clear hs hb hm h1 h2 h3
  go_enter Tryz.func89, Tryz.ntmps89
  go_upto_region 1 with fail
  clear hw1 hw2 hg hr HG HR HB
  go_cut [] (fun wx => ∃ v1 v2 v3, Hid (SG w g r m v1 v2 v3 wx))
  case first =>
    obtain ⟨a2, a3, a4, f2, f3, f4⟩ := HS.out.six
    go_wp2_with fail
    go_region_with (first
      | (go_at_call_of 111 vs; refine (C1.out _ HS.out.hb).mono ?_; rintro e wn ⟨c, rfl, hl, hb⟩; obtain ⟨ao, cc, hcc⟩ := hl.slice; rw [vals_length] at hcc; subst hcc; have HS := Lib.hid (HS.out.set1 hl hb); clear hl hb; obtain ⟨a2, a3, a4, f2, f3, f4⟩ := HS.out.six)
      | (go_at_call_of 111 vb; refine (C2.out _ HS.out.hb).mono ?_; rintro e wn ⟨c, rfl, hl, hb⟩; obtain ⟨ao, cc, hcc⟩ := hl.slice; rw [vals_length] at hcc; subst hcc; have HS := Lib.hid (HS.out.set2 hl hb); clear hl hb; obtain ⟨a2, a3, a4, f2, f3, f4⟩ := HS.out.six)
      | (go_at_call_of 111 vm; refine (C3.out _ HS.out.hb).mono ?_; rintro e wn ⟨c, rfl, hl, hb⟩; obtain ⟨ao, cc, hcc⟩ := hl.slice; rw [vals_length] at hcc; subst hcc; have HS := Lib.hid (HS.out.set3 hl hb); clear hl hb; obtain ⟨a2, a3, a4, f2, f3, f4⟩ := HS.out.six))
    all_goals
      go_wp2_with fail
      go_meet
      exact ⟨_, _, _, SG.of (by have := HW.out; omega) (by have := HZ.out; omega) HS.out⟩
  case rest =>
    obtain ⟨v1, v2, v3, HF⟩ := hcut
    clear HS C1 C2 C3
    have HG := Lib.hid HF.out.hs
    have HR := Lib.hid HF.out.hr
    have HO := Lib.hid HF.out.own
    go_wp2_with (first
      | (refine ld_state (by rfl) _ rfl _ rfl _ _ HG.out rfl ?_)
      | (refine st_state (by rfl) _ _ rfl r _ rfl rfl _ _ HR.out rfl rfl (all_one (slice_one HO.out.st.slice) (slice_one HO.out.bk.slice) (slice_one HO.out.me.slice)) ?_; intro wf hr ht; have HRF := Lib.hid hr; have HTF := Lib.hid ht; clear hr ht))
    refine bodyPost_ret (results_cell_row rfl _ _ r _ _ _ _ rfl HRF.out Tryz.underlying50 rfl state_size) rfl ?_
    have hl := fun {v : Value} {xs : List Int} (ho : Owns wc w.heap.size 3 v (vals xs)) (hf : ∀ k, blk v = some k → r < k) => (ho.touch HTF.out (fun k hk hm => by rw [List.mem_singleton] at hm; have := hf k hk; omega) : Owns wf w.heap.size 3 v (vals xs))
    refine ⟨_, rfl, ⟨v1, v2, v3, rfl, ⟨hl HO.out.st (HF.out.far _ (.inl rfl)), hl HO.out.bk (HF.out.far _ (.inr (.inl rfl))), hl HO.out.me (HF.out.far _ (.inr (.inr rfl))), HO.out.sb, HO.out.bm⟩⟩, HF.out.hb.trans (HTF.out.below (B := w.heap.size) (fun k hk => by rw [List.mem_singleton.1 hk]; have h1 := HW.out; have h2 := HZ.out; omega) HF.out.hb.size)⟩
end Go.Proofs.YtpecingkoodmfaaGreatDoor.Ev
/- Package eval: a trace is run. -/
namespace Go.Proofs.YtpecingkoodmfaaGreatDoor.Ev
open Go.RowKit Book Mem
open Ir (T I O trA trV ReadsL ReadsO outA outV newBox boxOn ld_tr CI CT)
open Mach (M less cells10 zero10 OwnsL OwnsM ReadsM stV st_state ld_state state_size slice_one all_one)
set_option linter.unusedSimpArgs false
set_option linter.unusedVariables false
abbrev zero3 : Array Value := #[.int .i64 0, .int .i64 0, .bool false]
abbrev zero4 : Array Value := #[.int .i64 0, .int .i64 0, .slice none 0 0, .slice none 0 0]
set_option maxRecDepth 1000000 in
theorem done_size : (Tryz.prog.info? 60).map (·.size) = some 3 := by kernel_rfl
section
variable {ops : Array Oper} {rest : List Oper} {o : Oper} {a : Act} {w : World} {Q : Exit → Act → World → Prop}
theorem st_done (hw : Region.wanted o (yielded ops a.tmps) = true) (x y : Operand) (ho : o.op = .store 60 x y) (g : Nat) (cs : Array Value) (hx : a.eval x = .pointer (some ⟨g, 0, none⟩)) (hy : a.eval y = .agg cs) (hcs : cs.size = 3) (old : Array Value) (hold : old.size = 3) (hg : w.heap[g]? = some (.cells old 60 (0, 0))) (h1 : cs.all (·.oneCell') = true)
    (h : ∀ w', w'.heap[g]? = some (.cells cs 60 (0, 0)) → Stirred w w' [g] → wpList Tryz.prog ops Q rest (a.put o.dst undef) w') : wpList Tryz.prog ops Q (o :: rest) a w :=
  wpList_setbox hw _ x y ho g cs hx hy old _ hg (by rw [done_size, hcs]) (by rw [hold, hcs]) h1 h
theorem st_out (hw : Region.wanted o (yielded ops a.tmps) = true) (x y : Operand) (ho : o.op = .store 58 x y) (g : Nat) (cs : Array Value) (hx : a.eval x = .pointer (some ⟨g, 0, none⟩)) (hy : a.eval y = .agg cs) (hcs : cs.size = 4) (old : Array Value) (hold : old.size = 4) (hg : w.heap[g]? = some (.cells old 58 (0, 0))) (h1 : cs.all (·.oneCell') = true)
    (h : ∀ w', w'.heap[g]? = some (.cells cs 58 (0, 0)) → Stirred w w' [g] → wpList Tryz.prog ops Q rest (a.put o.dst undef) w') : wpList Tryz.prog ops Q (o :: rest) a w :=
  wpList_setbox hw _ x y ho g cs hx hy old _ hg (by rw [Ir.out_size, hcs]) (by rw [hold, hcs]) h1 h
end
/-- two rows are answered -/
theorem results_two {P : Program} {fn : Func} {p u : Tmp} {ty tu : TypeId} (h : fn.results = #[.cell p ty, .cell u tu]) (tmps : Array Value) (w : World) (g k : Nat) (t1 t2 : TypeId) (cs ds : Array Value) (fr fs : Nat × Nat) (d e : TypeDesc)
    (hp : tmps.getD p undef = .pointer (some ⟨g, 0, none⟩)) (hg : w.heap[g]? = some (.cells cs t1 fr)) (hu : P.underlying ty = some d) (hd : (match d with | .struct _ | .array _ _ => true | _ => false) = true) (hi : (P.info? ty).map (·.size) = some cs.size)
    (hq : tmps.getD u undef = .pointer (some ⟨k, 0, none⟩)) (hk : w.heap[k]? = some (.cells ds t2 fs)) (hv : P.underlying tu = some e) (he : (match e with | .struct _ | .array _ _ => true | _ => false) = true) (hj : (P.info? tu).map (·.size) = some ds.size) :
    (results fn tmps).run P w = .ok (.tuple #[.agg cs, .agg ds]) w := by
  have hp' : tmps[p]?.getD undef = .pointer (some ⟨g, 0, none⟩) := by simpa using hp
  have hq' : tmps[u]?.getD undef = .pointer (some ⟨k, 0, none⟩) := by simpa using hq
  simp [results, h, hp', hq', asAddr, run_loadVar_row w g t1 ty cs fr d hg hu hd hi, run_loadVar_row w k t2 tu ds fs e hk hv he hj]
/-- what a run answers -/
def Runs (r : R) (w : World) (e : Ending) (w' : World) : Prop :=
  ∃ v, e = .returned (.tuple #[v, .agg #[.int .i64 r.exit, .int .i64 r.steps, .bool r.hit]]) ∧ OwnsM w' w.heap.size v r.s ∧ Below w.heap.size w w'
theorem own_run {w w6 wf : World} {B : Nat} {s : M} {vs vb vm : Value} {ex st : Int} {hit : Bool} {bs : List Nat} (ho : OwnsL w6 B vs vb vm s) (ht : Stirred w6 wf bs) (hB : w.heap.size ≤ B) (hbs : ∀ k ∈ bs, w.heap.size ≤ k ∧ k < B) (hb : Below w.heap.size w w6) :
    Runs ⟨s, ex, st, hit⟩ w (.returned (.tuple #[stV s vs vb vm, .agg #[.int .i64 ex, .int .i64 st, .bool hit]])) wf :=
  have far : ∀ {v : Value} {xs : List Int}, Owns w6 B 3 v (vals xs) → Owns wf w.heap.size 3 v (vals xs) := fun h => (h.touch ht (fun k e hm => by have h1 := (hbs k hm).2; have h2 := (h.block k e).1; omega)).from hB
  ⟨_, rfl, ⟨vs, vb, vm, rfl, ⟨far ho.st, far ho.bk, far ho.me, ho.sb, ho.bm⟩⟩, hb.trans (ht.below (fun k hk => (hbs k hk).1) hb.size)⟩
set_option maxHeartbeats 8000000 in
set_option maxRecDepth 100000 in
/-- .. of a trace that may not be entered -/
theorem run_not {w : World} {t : T} {s : M} {vi vo vc vw v : Value} (hm : ReadsM w v s) (h1 : s.stack.length ≤ 10000) (h2 : s.back.length ≤ 10000) (h3 : s.mem.length ≤ 10000) (hmay : mayT t s = false) :
    Calls Tryz.prog 32 #[trV t vi vo vc, v, vw] w (Runs ⟨s, -1, 0, false⟩ w) := by
  have HM := Lib.hid hm
  obtain ⟨vs, vb, vm, rfl, ⟨⟨so, sc, e1, -⟩, -⟩, ⟨⟨bo, bc, e2, -⟩, -⟩, -⟩ := hm
  subst e1
  subst e2
  obtain ⟨w1, gt, hw1, hgt, HGT, HB1, HZ1⟩ := newBox w (trA t vi vo vc) 26
  obtain ⟨w2, gs, hw2, hgs, HGS, HB2, HZ2⟩ := newBox w1 (cells10 s.ip s.handler (.slice so s.stack.length sc) (.slice bo s.back.length bc) vm s.out s.inp s.read s.status s.code) 50
  obtain ⟨w3, r, hw3, hr, HR, HB3, HZ3⟩ := newBox w2 zero10 50
  obtain ⟨w4, d, hw4, hd, HD, HB4, HZ4⟩ := newBox w3 zero3 60
  have HB24 := Lib.hid (HB3.out.trans (HB4.out.mono HB3.out.size))
  have HB14 := Lib.hid (HB2.out.trans (HB24.out.mono HB2.out.size))
  have HB04 := Lib.hid (HB1.out.trans (HB14.out.mono HB1.out.size))
  have HT4 := Lib.hid (boxOn HGT.out HB14.out)
  have HS4 := Lib.hid (boxOn HGS.out HB24.out)
  have HR4 := Lib.hid (boxOn HR.out HB4.out)
  have HRD := Lib.hid (show w.heap.size ≤ r ∧ r < d from ⟨by rw [← HZ3.out]; exact Nat.le_trans HB1.out.size HB2.out.size, by rw [← HZ4.out]; exact whole_lt HR.out⟩)
  have CM := Lib.hid (show Calls Tryz.prog 35 _ w4 (SaysF false w4) from by have h := may_any (w := w4) (t := t) (s := s) (vi := vi) (vo := vo) (vc := vc) (vm := vm) (so := so) (bo := bo) (sc := sc) (bc := bc) h1 h2; rw [hmay] at h; exact h)
  have CC := Lib.hid (fun wc (hb : Below w4.heap.size w4 wc) => innCopy_any (HM.out.below (HB04.out.trans (hb.mono HB04.out.size))) h1 h2 h3)
  clear h1 h2 h3 hmay HGT HGS HR
  go_enter Tryz.func32, Tryz.ntmps32
  go_wp2_with (first
    | (refine ld_tr (by rfl) _ rfl gt rfl _ rfl HT4.out ?_)
    | (refine ld_state (by rfl) _ rfl gs rfl _ _ HS4.out rfl ?_)
    | (go_at_call 35; refine CM.out.mono ?_; rintro e w5 ⟨rfl, hb⟩; have HB5 := Lib.hid hb; have HS5 := Lib.hid (boxOn HS4.out hb); have HR5 := Lib.hid (boxOn HR4.out hb); have HD5 := Lib.hid (boxOn HD.out hb); have C := Lib.hid (CC.out _ hb); clear hb)
    | (refine ld_state (by rfl) _ rfl gs rfl _ _ HS5.out rfl ?_))
  refine C.out.mono ?_
  rintro e w6 ⟨v6, rfl, ⟨vs6, vb6, vm6, rfl, ho⟩, hb⟩
  have HO := Lib.hid ho
  have HB6 := Lib.hid (HB5.out.trans (hb.mono HB5.out.size))
  have HR6 := Lib.hid (boxOn HR5.out hb)
  have HD6 := Lib.hid (boxOn HD5.out hb)
  have HON := Lib.hid (And.intro (slice_one ho.st.slice) (And.intro (slice_one ho.bk.slice) (slice_one ho.me.slice)))
  have H5 := Lib.hid HB5.out.size
  clear ho hb C HS5 HR5 HD5
  go_wp2_with (first
    | (refine st_state (by rfl) _ _ rfl r _ rfl rfl _ _ HR6.out rfl rfl (all_one HON.out.1 HON.out.2.1 HON.out.2.2) ?_; intro w7 h7 t7; have HR7 := Lib.hid h7; have HT7 := Lib.hid t7; have HD7 := Lib.hid (t7.whole HD6.out (fun hm => by have h1 := List.mem_singleton.1 hm; have h2 := HRD.out.2; omega)); clear h7 t7)
    | (refine st_done (by rfl) _ _ rfl d #[.int .i64 (-1), .int .i64 0, .bool false] rfl rfl rfl _ rfl HD7.out (by simp [Value.oneCell']) ?_; intro w8 h8 t8; have HD8 := Lib.hid h8; have HT8 := Lib.hid t8; have HR8 := Lib.hid (t8.whole HR7.out (fun hm => by have h1 := List.mem_singleton.1 hm; have h2 := HRD.out.2; omega)); clear h8 t8))
  refine bodyPost_ret (results_two rfl _ _ r d _ _ _ _ _ _ _ _ rfl HR8.out Tryz.underlying50 rfl state_size rfl HD8.out Tryz.underlying60 rfl done_size) rfl ?_
  have HT := Lib.hid (HT7.out.more (cs := [r, d]) (fun k hk => by rw [List.mem_singleton.1 hk]; exact List.mem_cons_self) |>.trans (HT8.out.more (cs := [r, d]) (fun k hk => by rw [List.mem_singleton.1 hk]; exact List.mem_cons_of_mem _ List.mem_cons_self)) (fun k hk => .inl hk))
  exact own_run HO.out HT.out (Nat.le_trans HB04.out.size H5.out) (fun k hk => by
    have h1 := HRD.out
    have h2 := whole_lt HR4.out
    have h3 := whole_lt HD.out
    have h4 := H5.out
    rcases List.mem_cons.1 hk with h | h
    · omega
    · have := List.mem_singleton.1 h; omega) (HB04.out.trans (HB6.out.mono HB04.out.size))
end Go.Proofs.YtpecingkoodmfaaGreatDoor.Ev
/- A region that draws its order and fills boxes: one step each. -/
namespace Go.Proofs.YtpecingkoodmfaaGreatDoor.Mach
open Go.RowKit Book Mem
set_option linter.unusedVariables false
set_option linter.unusedSimpArgs false
section
variable {ops : Array Oper} {o : Oper} {a : Act} {w : World} {K : Act → World → Prop} {Q : Exit → Act → World → Prop} {F : Prop}
theorem step_st_done (hw : Region.wanted o (yielded ops a.tmps) = true) (x y : Operand) (ho : o.op = .store 60 x y) (g : Nat) (cells : Array Value) (hx : a.eval x = .pointer (some ⟨g, 0, none⟩)) (hy : a.eval y = .agg cells) (old : Array Value) (hg : w.heap[g]? = some (.cells old 60 (0, 0))) (hs : cells.size = 3) (hold : old.size = 3) (h1 : cells.all (·.oneCell') = true)
    (h : ∀ w', w'.heap[g]? = some (.cells cells 60 (0, 0)) → Stirred w w' [g] → K (a.put o.dst undef) w') : if Region.wanted o (yielded ops a.tmps) = true then o.wp Tryz.prog a w K Q else F := by
  rw [if_pos hw]
  have hz : (Tryz.prog.info? 60).map (·.size) = some cells.size := by rw [hs]; exact Ev.done_size
  exact wp_store_row 60 x y ho g cells hx hy 60 old hg hz (by rw [hold, hs]) h1 (h _ (setRow_heap w g old cells 60 (0, 0) hg) (Stirred.setRow w g cells))
end
end Go.Proofs.YtpecingkoodmfaaGreatDoor.Mach
