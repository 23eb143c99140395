/- Package inner: a machine is made of a state, and told as one. -/
import Derived.Test.YthnciokmomgfeaaGreatDoorG7
import Derived.Deep.RegionWith
import Derived.Deep.DeepCutAuto
import Derived.Laws.ResultCell
import Derived.ArgAppend
import Derived.BigQuiet
import Derived.Deep.QuietTactic
namespace Go.Proofs.YthnciokmomgfeaaGreatDoor.Inn
open Go.RowKit Book Mem Mach
set_option linter.unusedVariables false
set_option linter.unusedSimpArgs false
/-- what is known while a machine is made, part by part -/
structure OS (w : World) (g : Nat) (cs : Array Value) (st bk me : List Int) (o1 o2 : Option (Nat × Nat)) (o3 : Option (Nat × Value)) (wc : World) : Prop where
  hb : Below w.heap.size w wc
  hg : wc.heap[g]? = some (.cells cs 24 (0, 0))
  h1 : ∀ p, o1 = some p → PileAt wc w.heap.size p.1 p.2 48 st
  h2 : ∀ p, o2 = some p → PileAt wc w.heap.size p.1 p.2 48 bk
  h3 : ∀ p, o3 = some p → Fld.Mem.FieldAt wc w.heap.size p.1 p.2 (.slice none 0 0) me []
  d12 : ∀ p p', o1 = some p → o2 = some p' → ∀ k ∈ foot p.1 p.2, k ∉ foot p'.1 p'.2
  d13 : ∀ p p', o1 = some p → o3 = some p' → ∀ k ∈ foot p.1 p.2, k ∉ Fld.Mem.foot p'.1 p'.2 (.slice none 0 0)
  d23 : ∀ p p', o2 = some p → o3 = some p' → ∀ k ∈ foot p.1 p.2, k ∉ Fld.Mem.foot p'.1 p'.2 (.slice none 0 0)
section
variable {w : World} {g : Nat} {cs : Array Value} {st bk me : List Int} {o1 o2 : Option (Nat × Nat)} {o3 : Option (Nat × Value)} {wc wn : World}
theorem OS.step (h : OS w g cs st bk me o1 o2 o3 wc) (hb : Below wc.heap.size wc wn) : OS w g cs st bk me o1 o2 o3 wn :=
  ⟨h.hb.trans (hb.mono h.hb.size), (Stirred.of_below hb []).whole h.hg List.not_mem_nil, fun p e => (h.h1 p e).below hb, fun p e => (h.h2 p e).below hb, fun p e => (h.h3 p e).below hb, h.d12, h.d13, h.d23⟩
theorem OS.set1 (h : OS w g cs st bk me none o2 o3 wc) {p gp : Nat} (hp : PileAt wn wc.heap.size p gp 48 st) (hb : Below wc.heap.size wc wn) : OS w g cs st bk me (some (p, gp)) o2 o3 wn :=
  have h' := h.step hb
  ⟨h'.hb, h'.hg, fun _ e => by cases e; exact hp.from h.hb.size, h'.h2, h'.h3,
    fun _ p' e e' k hk hm => by cases e; have h1 := (hp.foot_lt k hk).1; have h2 := ((h.h2 p' e').foot_lt k hm).2; omega,
    fun _ p' e e' k hk hm => by cases e; have h1 := (hp.foot_lt k hk).1; have h2 := ((h.h3 p' e').foot_lt k hm).2; omega, h'.d23⟩
theorem OS.set2 (h : OS w g cs st bk me o1 none o3 wc) {p gp : Nat} (hp : PileAt wn wc.heap.size p gp 48 bk) (hb : Below wc.heap.size wc wn) : OS w g cs st bk me o1 (some (p, gp)) o3 wn :=
  have h' := h.step hb
  ⟨h'.hb, h'.hg, h'.h1, fun _ e => by cases e; exact hp.from h.hb.size, h'.h3,
    fun p' _ e' e k hk hm => by cases e; have h1 := (hp.foot_lt k hm).1; have h2 := ((h.h1 p' e').foot_lt k hk).2; omega, h'.d13,
    fun _ p' e e' k hk hm => by cases e; have h1 := (hp.foot_lt k hk).1; have h2 := ((h.h3 p' e').foot_lt k hm).2; omega⟩
theorem OS.set3 (h : OS w g cs st bk me o1 o2 none wc) {p : Nat} {vC : Value} (hp : Fld.Mem.FieldAt wn wc.heap.size p vC (.slice none 0 0) me []) (hb : Below wc.heap.size wc wn) : OS w g cs st bk me o1 o2 (some (p, vC)) wn :=
  have h' := h.step hb
  ⟨h'.hb, h'.hg, h'.h1, h'.h2, fun _ e => by cases e; exact hp.from h.hb.size, h'.d12,
    fun p' _ e' e k hk hm => by cases e; have h1 := (hp.foot_lt k hm).1; have h2 := ((h.h1 p' e').foot_lt k hk).2; omega,
    fun p' _ e' e k hk hm => by cases e; have h1 := (hp.foot_lt k hm).1; have h2 := ((h.h2 p' e').foot_lt k hk).2; omega⟩
end
theorem OS.cells {w wc : World} {g : Nat} {m : M} {vs vb vm : Value} {st bk me : List Int} {o1 o2 : Option (Nat × Nat)} {o3 : Option (Nat × Value)} (h : OS w g (cells10 m.ip m.handler vs vb vm m.out m.inp m.read m.status m.code) st bk me o1 o2 o3 wc) :
    wc.cell? ⟨g, 0, none⟩ = some (.int .i64 m.ip) ∧ wc.cell? ⟨g, 1, none⟩ = some (.int .i64 m.handler) ∧ wc.cell? ⟨g, 2, none⟩ = some vs ∧ wc.cell? ⟨g, 3, none⟩ = some vb ∧ wc.cell? ⟨g, 4, none⟩ = some vm ∧
      wc.cell? ⟨g, 5, none⟩ = some (.string m.out) ∧ wc.cell? ⟨g, 6, none⟩ = some (.string m.inp) ∧ wc.cell? ⟨g, 7, none⟩ = some (.int .i64 m.read) ∧ wc.cell? ⟨g, 8, none⟩ = some (.int .i64 m.status) ∧ wc.cell? ⟨g, 9, none⟩ = some (.int .i64 m.code) :=
  ⟨whole_cell h.hg rfl, whole_cell h.hg rfl, whole_cell h.hg rfl, whole_cell h.hg rfl, whole_cell h.hg rfl, whole_cell h.hg rfl, whole_cell h.hg rfl, whole_cell h.hg rfl, whole_cell h.hg rfl, whole_cell h.hg rfl⟩
/-- the machine is boxed -/
theorem OS.made {w wc : World} {g p1 g1 p2 g2 p3 : Nat} {vC : Value} {m : M} {vs vb vm : Value} (h : OS w g (cells10 m.ip m.handler vs vb vm m.out m.inp m.read m.status m.code) m.stack m.back m.mem (some (p1, g1)) (some (p2, g2)) (some (p3, vC)) wc)
    (one : vs.oneCell' = true ∧ vb.oneCell' = true ∧ vm.oneCell' = true) :
    Mc (wc.alloc (.cells (cells13 m vs vb vm p1 p2 p3) 68)) w.heap.size wc.heap.size p1 g1 p2 g2 p3 vC (.slice none 0 0) [] vs vb vm m ∧ Below w.heap.size w (wc.alloc (.cells (cells13 m vs vb vm p1 p2 p3) 68)) := by
  have hb := (Below.refl wc.heap.size wc).alloc (Nat.le_refl _) (.cells (cells13 m vs vb vm p1 p2 p3) 68)
  have a1 := (h.h1 _ rfl).below hb
  have a2 := (h.h2 _ rfl).below hb
  have a3 := (h.h3 _ rfl).below hb
  have n1 : wc.heap.size ∉ foot p1 g1 := fun hm => Nat.lt_irrefl _ ((h.h1 _ rfl).foot_lt _ hm).2
  have n2 : wc.heap.size ∉ foot p2 g2 := fun hm => Nat.lt_irrefl _ ((h.h2 _ rfl).foot_lt _ hm).2
  have n3 : wc.heap.size ∉ Fld.Mem.foot p3 vC (.slice none 0 0) := fun hm => Nat.lt_irrefl _ ((h.h3 _ rfl).foot_lt _ hm).2
  exact ⟨⟨heap_alloc_new wc _, h.hb.size, a1, a2, a3, one, n1, n2, n3, h.d12 _ _ rfl rfl, h.d13 _ _ rfl rfl, h.d23 _ _ rfl rfl⟩, h.hb.trans (hb.mono h.hb.size)⟩
def Opened (w : World) (m : M) (e : Ending) (w' : World) : Prop := ∃ q F, e = .returned (.pointer (some ⟨q, 0, none⟩)) ∧ Mk w' w.heap.size q F m ∧ Below w.heap.size w w'
set_option maxHeartbeats 8000000 in
set_option maxRecDepth 100000 in
theorem open_any {w : World} {v : Value} {m : M} (h : ReadsM w v m) (hr : Right m) : Calls Tryz.prog 48 #[v] w (Opened w m) := by
  obtain ⟨vs, vb, vm, rfl, hs, hb, hm⟩ := h
  have C1 := Lib.hid (fun wc (hbw : Below w.heap.size w wc) => by have := new_any 48 48 (by decide) vs m.stack wc (hs.1.below hbw); rw [List.take_of_length_le hr.stack] at this; exact this : ∀ wc, Below w.heap.size w wc → Calls Tryz.prog 84 #[.int .i64 48, vs] wc (MadeP wc 48 m.stack))
  have C2 := Lib.hid (fun wc (hbw : Below w.heap.size w wc) => by have := new_any 48 48 (by decide) vb m.back wc (hb.1.below hbw); rw [List.take_of_length_le hr.back] at this; exact this : ∀ wc, Below w.heap.size w wc → Calls Tryz.prog 84 #[.int .i64 48, vb] wc (MadeP wc 48 m.back))
  have C3 := Lib.hid (fun wc (hbw : Below w.heap.size w wc) => by have := Fld.of_any vm m.mem wc (hm.1.below hbw) (by have := hr.mem; omega); rw [List.take_of_length_le hr.mem] at this; exact this : ∀ wc, Below w.heap.size w wc → Calls Tryz.prog 85 #[vm] wc (Fld.Made wc m.mem))
  have HONE := Lib.hid (show vs.oneCell' = true ∧ vb.oneCell' = true ∧ vm.oneCell' = true from by
    obtain ⟨_, _, _, rfl, _⟩ := hs
    obtain ⟨_, _, _, rfl, _⟩ := hb
    obtain ⟨_, _, _, rfl, _⟩ := hm
    exact ⟨rfl, rfl, rfl⟩)
  have hb1 := (Below.refl w.heap.size w).alloc (Nat.le_refl _) (.cells (cells10 m.ip m.handler vs vb vm m.out m.inp m.read m.status m.code) 24)
  have hn1 := heap_alloc_new w (.cells (cells10 m.ip m.handler vs vb vm m.out m.inp m.read m.status m.code) 24)
  obtain ⟨w1, hw1⟩ : ∃ w1, w.alloc (.cells (cells10 m.ip m.handler vs vb vm m.out m.inp m.read m.status m.code) 24) = w1 := ⟨_, rfl⟩
  obtain ⟨g, hg⟩ : ∃ g, w.heap.size = g := ⟨_, rfl⟩
  rw [hw1, hg] at hn1
  rw [hw1] at hb1
  have HS : Hid (OS w g (cells10 m.ip m.handler vs vb vm m.out m.inp m.read m.status m.code) m.stack m.back m.mem none none none w1.drew) := Lib.hid ⟨hb1.drew, hn1, fun p e => (by cases e), fun p e => (by cases e), fun p e => (by cases e), fun p p' e => (by cases e), fun p p' e => (by cases e), fun p p' e => (by cases e)⟩
  clear hs hb hm hb1 hn1 hr
  go_enter Tryz.func48, Tryz.ntmps48
  go_upto_region 1 with fail
  clear hw1 hg
  go_wp2_with fail
  go_region_held3 (fun w' => w'.cell? ⟨g, 0, none⟩ = some (.int .i64 m.ip) ∧ w'.cell? ⟨g, 1, none⟩ = some (.int .i64 m.handler) ∧ w'.cell? ⟨g, 2, none⟩ = some vs ∧ w'.cell? ⟨g, 3, none⟩ = some vb ∧ w'.cell? ⟨g, 4, none⟩ = some vm ∧
      w'.cell? ⟨g, 5, none⟩ = some (.string m.out) ∧ w'.cell? ⟨g, 6, none⟩ = some (.string m.inp) ∧ w'.cell? ⟨g, 7, none⟩ = some (.int .i64 m.read) ∧ w'.cell? ⟨g, 8, none⟩ = some (.int .i64 m.status) ∧ w'.cell? ⟨g, 9, none⟩ = some (.int .i64 m.code))
    (first
      | exact HS.out.cells
      | exact (HS.out.step ((Below.refl _ _).alloc (Nat.le_refl _) _)).cells)
    (first
      | (go_at_call_of 84 vs; refine (C1.out _ HS.out.hb).mono ?_; rintro e wn ⟨p1, g1, rfl, hl, hb⟩; have HS := Lib.hid (HS.out.set1 hl hb); clear hl hb)
      | (go_at_call_of 84 vb; refine (C2.out _ HS.out.hb).mono ?_; rintro e wn ⟨p2, g2, rfl, hl, hb⟩; have HS := Lib.hid (HS.out.set2 hl hb); clear hl hb)
      | (go_at_call_of 85 vm; refine (C3.out _ HS.out.hb).mono ?_; rintro e wn ⟨p3, v3, rfl, hl, hb⟩; have HS := Lib.hid (HS.out.set3 hl hb); clear hl hb))
  all_goals
    go_wp2_with fail
    go_ret
    exact ⟨_, _, rfl, (HS.out.made HONE.out).1.mach, (HS.out.made HONE.out).2⟩
/-- the state in a machine's box, read whole -/
theorem load_rest {w : World} {q ps pb pf : Nat} {m : M} {vs vb vm : Value} {T : TypeId} (hg : w.heap[q]? = some (.cells (cells13 m vs vb vm ps pb pf) T (0, 0))) :
    (loadVar 24 ⟨q, 0, none⟩).run Tryz.prog w = .ok (.agg (cells10 m.ip m.handler vs vb vm m.out m.inp m.read m.status m.code)) w := by
  have a0 : w.cell? ⟨q, 0, none⟩ = some (.int .i64 m.ip) := whole_cell hg rfl
  have a1 : w.cell? ⟨q, 1, none⟩ = some (.int .i64 m.handler) := whole_cell hg rfl
  have a2 : w.cell? ⟨q, 2, none⟩ = some vs := whole_cell hg rfl
  have a3 : w.cell? ⟨q, 3, none⟩ = some vb := whole_cell hg rfl
  have a4 : w.cell? ⟨q, 4, none⟩ = some vm := whole_cell hg rfl
  have a5 : w.cell? ⟨q, 5, none⟩ = some (.string m.out) := whole_cell hg rfl
  have a6 : w.cell? ⟨q, 6, none⟩ = some (.string m.inp) := whole_cell hg rfl
  have a7 : w.cell? ⟨q, 7, none⟩ = some (.int .i64 m.read) := whole_cell hg rfl
  have a8 : w.cell? ⟨q, 8, none⟩ = some (.int .i64 m.status) := whole_cell hg rfl
  have a9 : w.cell? ⟨q, 9, none⟩ = some (.int .i64 m.code) := whole_cell hg rfl
  clear hg
  go_simp
end Go.Proofs.YthnciokmomgfeaaGreatDoor.Inn
/- The document's own machine (chapter 9): copying, beginning a word. -/
namespace Go.Proofs.YthnciokmomgfeaaGreatDoor.Mach
open Go.RowKit Book Mem
set_option linter.unusedVariables false
set_option linter.unusedSimpArgs false
/-- the int type's facts, in one -/
theorem int_facts : ∃ i0 : TypeInfo, Tryz.prog.info? 3 = some i0 ∧ i0.zero = some (.int .i64 0) ∧ i0.size = 1 ∧ i0.bytes = 8 := by
  obtain ⟨i0, q1, q2, q3, q4⟩ := info_parts Tryz.bkIntInfo
  exact ⟨i0, q1, q2, q3, q4⟩
/-- what is known of the blocks of two lists: none is another one's -/
def offB (v : Value) (k : Nat) : Prop := blk v ≠ some k
theorem blk_new {w : World} {v : Value} (h : blk v = blk (.slice none 0 0) ∨ ∃ k, blk v = some k ∧ w.heap.size ≤ k) : ∀ k, blk v = some k → w.heap.size ≤ k := by
  intro k hk
  rcases h with e | ⟨k', e, h⟩
  · rw [e] at hk; cases hk
  · rw [e] at hk
    simp at hk
    omega
theorem slice_one {v : Value} {n : Nat} (h : ∃ ao c, v = .slice ao n c) : v.oneCell' = true := by
  obtain ⟨ao, c, rfl⟩ := h
  rfl
theorem all_one {ip hh : Int} {vs vb vm : Value} {ou inn : ByteArray} {rd stt cd : Int} (h1 : vs.oneCell' = true) (h2 : vb.oneCell' = true) (h3 : vm.oneCell' = true) : (cells10 ip hh vs vb vm ou inn rd stt cd).all (·.oneCell') = true := by
  simp [cells10, h1, h2, h3, show ∀ k n, (Value.int k n).oneCell' = true from fun _ _ => rfl, show ∀ s, (Value.string s).oneCell' = true from fun _ => rfl]
set_option maxHeartbeats 4000000 in
set_option maxRecDepth 100000 in
theorem refCopy_any {w : World} {v : Value} {m : M} (h : ReadsM w v m) (h1 : m.stack.length ≤ 10000) (h2 : m.back.length ≤ 10000) (h3 : m.mem.length ≤ 10000) :
    Calls Tryz.prog 36 #[v] w (GivesM m w) := by
  obtain ⟨vs, vb, vm, rfl, hs, hb, hm⟩ := h
  obtain ⟨i0, HI1, HI2, HI3, HI4⟩ := int_facts
  have HI := Lib.hid (And.intro HI1 (And.intro HI2 (And.intro HI3 HI4)))
  clear HI1 HI2 HI3 HI4
  obtain ⟨ip, hh, st, bk, me, ou, inn, rd, stt, cd⟩ := m
  simp only at hs hb hm h1 h2 h3 ⊢
  have H1 := Lib.hid h1
  have H2 := Lib.hid h2
  have H3 := Lib.hid h3
  obtain ⟨w1, w2, g, r, hw1, hw2, hg, hr, HG, HR, HB, HZ, HW⟩ := two_boxes w (cells10 ip hh vs vb vm ou inn rd stt cd)
  have HS := Lib.hid hs
  have HK := Lib.hid hb
  have HM := Lib.hid hm
  have HLT := Lib.hid (And.intro (whole_lt HG.out) (whole_lt HR.out))
  have HL := Lib.hid (whole_lt HR.out)
  clear hs hb hm h1 h2 h3
  go_enter Tryz.func36, Tryz.ntmps36
  go_upto_region 1 with fail
  clear hw1 hw2 hg hr
  go_wp2_with (first
    | (refine ld_ints (by rfl) _ rfl _ rfl _ (whole_cell HG.out rfl) ?_)
    | (refine ld_state (by rfl) _ rfl _ rfl _ _ HG.out rfl ?_)
    | (refine wpList_append_reads _ rfl _ _ 22 rfl g 3 i0 (.int .i64 0) 8 Tryz.underlying22 HI.out.1 HI.out.2.1 HI.out.2.2.1 HI.out.2.2.2 rfl (.slice none 0 0) [] rfl (Owns.nil _ _ _) vs st rfl (HS.out.1.below (by rw [HW.out]; exact HB.out)) (by have := H1.out; unfold maxLen; simp; omega) (by have := H1.out; simp; omega) (Nat.le_of_lt (whole_lt HG.out)) ?_; intro v1 wn ho _ ht hn; have HN1 := Lib.hid (fun k hk => Nat.lt_of_lt_of_le HL.out (blk_new hn k hk) : ∀ k, blk v1 = some k → r < k); have HO1 := Lib.hid (show Owns wn g 3 v1 (vals st) from ho); have HB := Lib.hid (HB.out.trans (ht.below (fun _ h => by cases h) (Nat.le_of_lt (whole_lt HG.out)))); have HL := Lib.hid (Nat.lt_of_lt_of_le HL.out ht.size); have HG := Lib.hid (ht.whole HG.out List.not_mem_nil); have HR := Lib.hid (ht.whole HR.out List.not_mem_nil); have HV1 := Lib.hid (slice_one HO1.out.slice); clear ho ht hn)
    | (refine wpList_append_reads _ rfl _ _ 22 rfl g 3 i0 (.int .i64 0) 8 Tryz.underlying22 HI.out.1 HI.out.2.1 HI.out.2.2.1 HI.out.2.2.2 rfl (.slice none 0 0) [] rfl (Owns.nil _ _ _) vb bk rfl (HK.out.1.below (by rw [HW.out]; exact HB.out)) (by have := H2.out; unfold maxLen; simp; omega) (by have := H2.out; simp; omega) (Nat.le_of_lt (whole_lt HG.out)) ?_; intro v2 wn ho _ ht hn; have HN2 := Lib.hid (fun k hk => Nat.lt_of_lt_of_le HL.out (blk_new hn k hk) : ∀ k, blk v2 = some k → r < k); have HD21 := Lib.hid (fun k hk e => by have h9 := (HO1.out.block k e).2.1; have h8 := blk_new hn k hk; omega : ∀ k, blk v2 = some k → blk v1 ≠ some k); have HO1 := Lib.hid (HO1.out.touch ht (fun _ _ => List.not_mem_nil)); have HO2 := Lib.hid (show Owns wn g 3 v2 (vals bk) from ho); have HB := Lib.hid (HB.out.trans (ht.below (fun _ h => by cases h) (Nat.le_of_lt (whole_lt HG.out)))); have HL := Lib.hid (Nat.lt_of_lt_of_le HL.out ht.size); have HG := Lib.hid (ht.whole HG.out List.not_mem_nil); have HR := Lib.hid (ht.whole HR.out List.not_mem_nil); have HV2 := Lib.hid (slice_one HO2.out.slice); clear ho ht hn)
    | (refine wpList_append_reads _ rfl _ _ 22 rfl g 3 i0 (.int .i64 0) 8 Tryz.underlying22 HI.out.1 HI.out.2.1 HI.out.2.2.1 HI.out.2.2.2 rfl (.slice none 0 0) [] rfl (Owns.nil _ _ _) vm me rfl (HM.out.1.below (by rw [HW.out]; exact HB.out)) (by have := H3.out; unfold maxLen; simp; omega) (by have := H3.out; simp; omega) (Nat.le_of_lt (whole_lt HG.out)) ?_; intro v3 wn ho _ ht hn; have HN3 := Lib.hid (fun k hk => Nat.lt_of_lt_of_le HL.out (blk_new hn k hk) : ∀ k, blk v3 = some k → r < k); have HD31 := Lib.hid (fun k hk e => by have h9 := (HO1.out.block k e).2.1; have h8 := blk_new hn k hk; omega : ∀ k, blk v3 = some k → blk v1 ≠ some k); have HD32 := Lib.hid (fun k hk e => by have h9 := (HO2.out.block k e).2.1; have h8 := blk_new hn k hk; omega : ∀ k, blk v3 = some k → blk v2 ≠ some k); have HO1 := Lib.hid (HO1.out.touch ht (fun _ _ => List.not_mem_nil)); have HO2 := Lib.hid (HO2.out.touch ht (fun _ _ => List.not_mem_nil)); have HO3 := Lib.hid (show Owns wn g 3 v3 (vals me) from ho); have HB := Lib.hid (HB.out.trans (ht.below (fun _ h => by cases h) (Nat.le_of_lt (whole_lt HG.out)))); have HL := Lib.hid (Nat.lt_of_lt_of_le HL.out ht.size); have HG := Lib.hid (ht.whole HG.out List.not_mem_nil); have HR := Lib.hid (ht.whole HR.out List.not_mem_nil); have HV3 := Lib.hid (slice_one HO3.out.slice); clear ho ht hn)
    | (refine st_ints (by rfl) _ _ rfl g 2 rfl v1 rfl HV1.out _ _ HG.out (by show 2 < 10; decide) ?_; intro wn hg ht; have HO1 := Lib.hid (HO1.out.touch ht (fun k hk hm => by have h9 := HN1.out k hk; have h8 := HZ.out; rw [List.mem_singleton.1 hm] at h9; omega)); have HB := Lib.hid (HB.out.trans (ht.below (fun _ h => by rw [List.mem_singleton.1 h]; exact Nat.le_refl _) (Nat.le_of_lt (whole_lt HG.out)))); have HL := Lib.hid (Nat.lt_of_lt_of_le HL.out ht.size); have HR := Lib.hid (ht.whole HR.out (fun h => by have := HZ.out; rw [List.mem_singleton.1 h] at this; omega)); have HG := Lib.hid hg; clear hg ht)
    | (refine st_ints (by rfl) _ _ rfl g 3 rfl v2 rfl HV2.out _ _ HG.out (by show 3 < 10; decide) ?_; intro wn hg ht; have HO1 := Lib.hid (HO1.out.touch ht (fun k hk hm => by have h9 := HN1.out k hk; have h8 := HZ.out; rw [List.mem_singleton.1 hm] at h9; omega)); have HO2 := Lib.hid (HO2.out.touch ht (fun k hk hm => by have h9 := HN2.out k hk; have h8 := HZ.out; rw [List.mem_singleton.1 hm] at h9; omega)); have HB := Lib.hid (HB.out.trans (ht.below (fun _ h => by rw [List.mem_singleton.1 h]; exact Nat.le_refl _) (Nat.le_of_lt (whole_lt HG.out)))); have HL := Lib.hid (Nat.lt_of_lt_of_le HL.out ht.size); have HR := Lib.hid (ht.whole HR.out (fun h => by have := HZ.out; rw [List.mem_singleton.1 h] at this; omega)); have HG := Lib.hid hg; clear hg ht)
    | (refine st_ints (by rfl) _ _ rfl g 4 rfl v3 rfl HV3.out _ _ HG.out (by show 4 < 10; decide) ?_; intro wn hg ht; have HO1 := Lib.hid (HO1.out.touch ht (fun k hk hm => by have h9 := HN1.out k hk; have h8 := HZ.out; rw [List.mem_singleton.1 hm] at h9; omega)); have HO2 := Lib.hid (HO2.out.touch ht (fun k hk hm => by have h9 := HN2.out k hk; have h8 := HZ.out; rw [List.mem_singleton.1 hm] at h9; omega)); have HO3 := Lib.hid (HO3.out.touch ht (fun k hk hm => by have h9 := HN3.out k hk; have h8 := HZ.out; rw [List.mem_singleton.1 hm] at h9; omega)); have HB := Lib.hid (HB.out.trans (ht.below (fun _ h => by rw [List.mem_singleton.1 h]; exact Nat.le_refl _) (Nat.le_of_lt (whole_lt HG.out)))); have HL := Lib.hid (Nat.lt_of_lt_of_le HL.out ht.size); have HR := Lib.hid (ht.whole HR.out (fun h => by have := HZ.out; rw [List.mem_singleton.1 h] at this; omega)); have HG := Lib.hid hg; clear hg ht)
    | (refine st_state (by rfl) _ _ rfl r _ rfl rfl _ _ HR.out rfl rfl (all_one HV1.out HV2.out HV3.out) ?_; intro wn hr ht; have HO1 := Lib.hid (HO1.out.touch ht (fun k hk hm => by have h9 := HN1.out k hk; rw [List.mem_singleton.1 hm] at h9; omega)); have HO2 := Lib.hid (HO2.out.touch ht (fun k hk hm => by have h9 := HN2.out k hk; rw [List.mem_singleton.1 hm] at h9; omega)); have HO3 := Lib.hid (HO3.out.touch ht (fun k hk hm => by have h9 := HN3.out k hk; rw [List.mem_singleton.1 hm] at h9; omega)); have HB := Lib.hid (HB.out.trans (ht.below (fun _ h => by rw [List.mem_singleton.1 h]; exact Nat.le_of_lt HZ.out) (Nat.le_of_lt (whole_lt HG.out)))); have HR := Lib.hid hr; clear hr ht))
  refine bodyPost_ret (results_cell_row rfl _ _ r _ _ _ _ rfl HR.out Tryz.underlying24 rfl state_size) rfl ?_
  refine ⟨_, rfl, ⟨v1, v2, v3, rfl, ?_⟩, by rw [HW.out]; exact HB.out⟩
  rw [HW.out]
  exact ⟨HO1.out, HO2.out, HO3.out, fun k hk => ⟨fun e => HD21.out k e hk, fun e => HD31.out k e hk⟩, fun k hk e => HD32.out k e hk⟩
theorem refCopy_ends : True := trivial
end Go.Proofs.YthnciokmomgfeaaGreatDoor.Mach
/- Package inner: a machine is told as a state. -/
namespace Go.Proofs.YthnciokmomgfeaaGreatDoor.Inn
open Go.RowKit Book Mem Mach
set_option linter.unusedVariables false
set_option linter.unusedSimpArgs false
/-- what is known while the lists are told one by one -/
structure SS (w : World) (s r : Nat) (cs : Array Value) (st bk me : List Int) (o1 o2 o3 : Option Value) (wc : World) : Prop where
  hb : Below w.heap.size w wc
  hs : wc.heap[s]? = some (.cells cs 24 (0, 0))
  hr : wc.heap[r]? = some (.cells zero10 24 (0, 0))
  h1 : ∀ v, o1 = some v → Owns wc w.heap.size 3 v (vals st) ∧ ∀ k, blk v = some k → s < k ∧ r < k
  h2 : ∀ v, o2 = some v → Owns wc w.heap.size 3 v (vals bk) ∧ ∀ k, blk v = some k → s < k ∧ r < k
  h3 : ∀ v, o3 = some v → Owns wc w.heap.size 3 v (vals me) ∧ ∀ k, blk v = some k → s < k ∧ r < k
  d12 : ∀ v v', o1 = some v → o2 = some v' → ∀ k, blk v = some k → blk v' ≠ some k
  d13 : ∀ v v', o1 = some v → o3 = some v' → ∀ k, blk v = some k → blk v' ≠ some k
  d23 : ∀ v v', o2 = some v → o3 = some v' → ∀ k, blk v = some k → blk v' ≠ some k
section
variable {w : World} {s r : Nat} {cs : Array Value} {st bk me : List Int} {o1 o2 o3 : Option Value} {wc wn : World}
theorem SS.step (h : SS w s r cs st bk me o1 o2 o3 wc) (hb : Below wc.heap.size wc wn) : SS w s r cs st bk me o1 o2 o3 wn :=
  ⟨h.hb.trans (hb.mono h.hb.size), (Stirred.of_below hb []).whole h.hs List.not_mem_nil, (Stirred.of_below hb []).whole h.hr List.not_mem_nil, fun v e => ⟨(h.h1 v e).1.below hb, (h.h1 v e).2⟩, fun v e => ⟨(h.h2 v e).1.below hb, (h.h2 v e).2⟩, fun v e => ⟨(h.h3 v e).1.below hb, (h.h3 v e).2⟩, h.d12, h.d13, h.d23⟩
theorem SS.new (h : SS w s r cs st bk me o1 o2 o3 wc) {v : Value} {xs : List Int} (ho : Owns wn wc.heap.size 3 v (vals xs)) : Owns wn w.heap.size 3 v (vals xs) ∧ ∀ k, blk v = some k → s < k ∧ r < k :=
  ⟨ho.from h.hb.size, fun k hk => by have h1 := (ho.block k hk).1; have h2 := whole_lt h.hs; have h3 := whole_lt h.hr; omega⟩
theorem SS.set1 (h : SS w s r cs st bk me none o2 o3 wc) {v : Value} (ho : Owns wn wc.heap.size 3 v (vals st)) (hb : Below wc.heap.size wc wn) : SS w s r cs st bk me (some v) o2 o3 wn :=
  have h' := h.step hb
  ⟨h'.hb, h'.hs, h'.hr, fun _ e => by cases e; exact h.new ho, h'.h2, h'.h3,
    fun _ v' e e' k hk hk' => by cases e; have h1 := (ho.block k hk).1; have h2 := ((h.h2 v' e').1.block k hk').2.1; omega,
    fun _ v' e e' k hk hk' => by cases e; have h1 := (ho.block k hk).1; have h2 := ((h.h3 v' e').1.block k hk').2.1; omega, h'.d23⟩
theorem SS.set2 (h : SS w s r cs st bk me o1 none o3 wc) {v : Value} (ho : Owns wn wc.heap.size 3 v (vals bk)) (hb : Below wc.heap.size wc wn) : SS w s r cs st bk me o1 (some v) o3 wn :=
  have h' := h.step hb
  ⟨h'.hb, h'.hs, h'.hr, h'.h1, fun _ e => by cases e; exact h.new ho, h'.h3,
    fun v' _ e' e k hk' hk => by cases e; have h1 := (ho.block k hk).1; have h2 := ((h.h1 v' e').1.block k hk').2.1; omega, h'.d13,
    fun _ v' e e' k hk hk' => by cases e; have h1 := (ho.block k hk).1; have h2 := ((h.h3 v' e').1.block k hk').2.1; omega⟩
theorem SS.set3 (h : SS w s r cs st bk me o1 o2 none wc) {v : Value} (ho : Owns wn wc.heap.size 3 v (vals me)) (hb : Below wc.heap.size wc wn) : SS w s r cs st bk me o1 o2 (some v) wn :=
  have h' := h.step hb
  ⟨h'.hb, h'.hs, h'.hr, h'.h1, h'.h2, fun _ e => by cases e; exact h.new ho, h'.d12,
    fun v' _ e' e k hk' hk => by cases e; have h1 := (ho.block k hk).1; have h2 := ((h.h1 v' e').1.block k hk').2.1; omega,
    fun v' _ e' e k hk' hk => by cases e; have h1 := (ho.block k hk).1; have h2 := ((h.h2 v' e').1.block k hk').2.1; omega⟩
theorem SS.cells (h : SS w s r cs st bk me o1 o2 o3 wc) (hc : cs.size = 10) : wc.frozen? ⟨s, 2, none⟩ = false ∧ wc.frozen? ⟨s, 3, none⟩ = false ∧ wc.frozen? ⟨s, 4, none⟩ = false ∧ wc.cell? ⟨s, 2, none⟩ = some cs[2] ∧ wc.cell? ⟨s, 3, none⟩ = some cs[3] ∧ wc.cell? ⟨s, 4, none⟩ = some cs[4] :=
  ⟨whole_frozen h.hs 2, whole_frozen h.hs 3, whole_frozen h.hs 4, whole_cell h.hs (by simp), whole_cell h.hs (by simp), whole_cell h.hs (by simp)⟩
end
/-- what is there behind the three stores -/
structure SG (w : World) (s r : Nat) (m : M) (v1 v2 v3 : Value) (wc : World) : Prop where
  hb : Below w.heap.size w wc
  hs : wc.heap[s]? = some (.cells (cells10 m.ip m.handler v1 v2 v3 m.out m.inp m.read m.status m.code) 24 (0, 0))
  hr : wc.heap[r]? = some (.cells zero10 24 (0, 0))
  own : OwnsL wc w.heap.size v1 v2 v3 m
  far : ∀ v, v = v1 ∨ v = v2 ∨ v = v3 → ∀ k, blk v = some k → r < k
theorem three_set' {w : World} {g : Nat} {cs : Array Value} {T : TypeId} (h : w.heap[g]? = some (.cells cs T (0, 0))) (a b c : Value) :
    (((w.setCell ⟨g, 2, none⟩ a).setCell ⟨g, 3, none⟩ b).setCell ⟨g, 4, none⟩ c).heap[g]? = some (.cells (((cs.setIfInBounds 2 a).setIfInBounds 3 b).setIfInBounds 4 c) T (0, 0)) ∧ Stirred w (((w.setCell ⟨g, 2, none⟩ a).setCell ⟨g, 3, none⟩ b).setCell ⟨g, 4, none⟩ c) [g] :=
  ⟨whole_set (whole_set (whole_set h 2 a) 3 b) 4 c, ((Stirred.setCell w ⟨g, 2, none⟩ a).trans (Stirred.setCell _ ⟨g, 3, none⟩ b) (fun k hk => .inl hk)).trans (Stirred.setCell _ ⟨g, 4, none⟩ c) (fun k hk => .inl hk)⟩
theorem SG.of {w : World} {s r : Nat} {m : M} {vs vb vm v1 v2 v3 : Value} {wc : World} (hw : w.heap.size ≤ s) (hn : r ≠ s) (h : SS w s r (cells10 m.ip m.handler vs vb vm m.out m.inp m.read m.status m.code) m.stack m.back m.mem (some v1) (some v2) (some v3) wc) :
    SG w s r m v1 v2 v3 (((wc.setCell ⟨s, 2, none⟩ v1).setCell ⟨s, 3, none⟩ v2).setCell ⟨s, 4, none⟩ v3) := by
  have hs := three_set' h.hs v1 v2 v3
  have hk : ∀ {v : Value}, (∀ k, blk v = some k → s < k ∧ r < k) → ∀ k, blk v = some k → k ∉ [s] := fun hf k e hm => by rw [List.mem_singleton] at hm; have := (hf k e).1; omega
  refine ⟨h.hb.trans (hs.2.below (B := w.heap.size) (fun k hk => by rw [List.mem_singleton.1 hk]; exact hw) h.hb.size), hs.1, hs.2.whole h.hr (by rw [List.mem_singleton]; exact hn),
    ⟨(h.h1 _ rfl).1.touch hs.2 (hk (h.h1 _ rfl).2), (h.h2 _ rfl).1.touch hs.2 (hk (h.h2 _ rfl).2), (h.h3 _ rfl).1.touch hs.2 (hk (h.h3 _ rfl).2), fun k e => ⟨h.d12 _ _ rfl rfl k e, h.d13 _ _ rfl rfl k e⟩, fun k e => h.d23 _ _ rfl rfl k e⟩, ?_⟩
  rintro v (rfl | rfl | rfl) k e
  · exact ((h.h1 _ rfl).2 k e).2
  · exact ((h.h2 _ rfl).2 k e).2
  · exact ((h.h3 _ rfl).2 k e).2
/-- a load whose answer is known -/
theorem wpList_loaded {P : Program} {ops : Array Oper} {rest : List Oper} {o : Oper} {a : Act} {w : World} {Q : Exit → Act → World → Prop} (hw : Region.wanted o (yielded ops a.tmps) = true) (ty : TypeId) (x : Operand) (ho : o.op = .load ty x) (ad : Addr) (hx : a.eval x = .pointer (some ad)) (v : Value)
    (hl : (loadVar ty ad).run P w = .ok v w) (h : wpList P ops Q rest (a.put o.dst v) w) : wpList P ops Q (o :: rest) a w := by
  refine wpList_step fun K hK => ?_
  rw [if_pos hw]
  unfold Oper.wp execOp
  simp only [ho, hx, Instr.loadAt, Instr.sureAddr, Sem.run_bind, Sem.run_pure, Result.andThen_ok, hl]
  exact hK _ _ h
theorem keep1 {w : World} {q s j ps pb pf : Nat} {v : Value} (hn : q ≠ s) (h : w.cell? ⟨q, 10, none⟩ = some (.pointer (some ⟨ps, 0, none⟩)) ∧ w.cell? ⟨q, 11, none⟩ = some (.pointer (some ⟨pb, 0, none⟩)) ∧ w.cell? ⟨q, 12, none⟩ = some (.pointer (some ⟨pf, 0, none⟩))) :
    (w.setCell ⟨s, j, none⟩ v).cell? ⟨q, 10, none⟩ = some (.pointer (some ⟨ps, 0, none⟩)) ∧ (w.setCell ⟨s, j, none⟩ v).cell? ⟨q, 11, none⟩ = some (.pointer (some ⟨pb, 0, none⟩)) ∧ (w.setCell ⟨s, j, none⟩ v).cell? ⟨q, 12, none⟩ = some (.pointer (some ⟨pf, 0, none⟩)) :=
  have hs := Stirred.setCell w ⟨s, j, none⟩ v
  have hm : q ∉ [s] := by rw [List.mem_singleton]; exact hn
  ⟨hs.cell hm h.1, hs.cell hm h.2.1, hs.cell hm h.2.2⟩
set_option maxHeartbeats 8000000 in
set_option maxRecDepth 100000 in
theorem state_any {w : World} {B q : Nat} {F : List Nat} {m : M} (h : Mk w B q F m) : Calls Tryz.prog 50 #[.pointer (some ⟨q, 0, none⟩)] w (GivesM m w) := by
  obtain ⟨ps, gs, pb, gb, pf, vC, vH, ch, vs, vb, vm, -, h⟩ := h
  have C1 := Lib.hid (fun wc (hbw : Below w.heap.size w wc) => all_any (h.st.below hbw))
  have C2 := Lib.hid (fun wc (hbw : Below w.heap.size w wc) => all_any (h.bk.below hbw))
  have C3 := Lib.hid (fun wc (hbw : Below w.heap.size w wc) => Fld.all_any (h.me.below hbw))
  have HONE := Lib.hid h.one
  have HM := Lib.hid h
  obtain ⟨w1, w2, r, s, hw1, hw2, hr, hs, HR, HS0, HB, HZ, HW⟩ := two_boxes w zero10
  have hb1 : Below w.heap.size w w1 := by rw [← hw1]; exact (Below.refl w.heap.size w).alloc (Nat.le_refl _) _
  have HL1 := Lib.hid (load_rest (HM.out.below hb1).box)
  have hq : q < w1.heap.size := Nat.lt_of_lt_of_le (whole_lt h.box) hb1.size
  have n1 : w1.cell? ⟨q, 10, none⟩ = some (.pointer (some ⟨ps, 0, none⟩)) := whole_cell (HM.out.below hb1).box rfl
  have HQS := Lib.hid (show q ≠ s by rw [hs] at hq; omega)
  clear h hb1 hq n1
  go_enter Tryz.func50, Tryz.ntmps50
  go_upto_region 2 with (first
    | (refine wpList_loaded (by rfl) _ _ rfl ⟨q, 0, none⟩ rfl _ HL1.out ?_)
    | (refine st_state (by rfl) _ _ rfl s _ rfl rfl _ _ HS0.out rfl rfl (all_one HONE.out.1 HONE.out.2.1 HONE.out.2.2) ?_; intro w3 hs3 ht3; have HS3 := Lib.hid hs3; have HT3 := Lib.hid ht3; clear hs3 ht3))
  have HR3 := Lib.hid (HT3.out.whole HR.out (by have := HZ.out; rw [List.mem_singleton]; omega))
  have hb3 : Below w.heap.size w w3 := by
    have h1 := HB.out
    rw [← HW.out] at h1
    exact h1.trans (HT3.out.below (fun k hk => by rw [List.mem_singleton.1 hk]; have := HZ.out; have := HW.out; omega) h1.size)
  have HS : Hid (SS w s r (cells10 m.ip m.handler vs vb vm m.out m.inp m.read m.status m.code) m.stack m.back m.mem none none none w3.drew) := Lib.hid ⟨hb3.drew, HS3.out, HR3.out, fun p e => (by cases e), fun p e => (by cases e), fun p e => (by cases e), fun p p' e => (by cases e), fun p p' e => (by cases e), fun p p' e => (by cases e)⟩
  obtain ⟨n1, n2, n3⟩ := (HM.out.below hb3).ptrs
  clear hw1 hw2 hr hs HR HS0 hb3 HL1 HB HS3 HT3 HR3
  dsimp only [Act.put]
  go_cut [] (fun wx => ∃ v1 v2 v3, Hid (SG w s r m v1 v2 v3 wx))
  case first =>
    obtain ⟨f2, f3, f4, k2, k3, k4⟩ := HS.out.cells rfl
    go_wp2_with fail
    go_region_held3 (fun w' => w'.cell? ⟨q, 10, none⟩ = some (.pointer (some ⟨ps, 0, none⟩)) ∧ w'.cell? ⟨q, 11, none⟩ = some (.pointer (some ⟨pb, 0, none⟩)) ∧ w'.cell? ⟨q, 12, none⟩ = some (.pointer (some ⟨pf, 0, none⟩)))
      (first
        | exact ⟨n1, n2, n3⟩
        | exact keep1 HQS.out ⟨n1, n2, n3⟩
        | exact keep1 HQS.out (keep1 HQS.out ⟨n1, n2, n3⟩)
        | exact keep1 HQS.out (keep1 HQS.out (keep1 HQS.out ⟨n1, n2, n3⟩)))
      (first
      | (go_at_call_of 88 (Value.pointer (some (⟨ps, 0, none⟩ : Addr))); refine (C1.out _ HS.out.hb).mono ?_; rintro e wn ⟨c, rfl, hl, hb⟩; obtain ⟨ao, cc, hcc⟩ := hl.slice; rw [vals_length] at hcc; subst hcc; have HS := Lib.hid (HS.out.set1 hl hb); clear hl hb; obtain ⟨n1, n2, n3⟩ := (HM.out.below HS.out.hb).ptrs; obtain ⟨f2, f3, f4, k2, k3, k4⟩ := HS.out.cells rfl)
      | (go_at_call_of 88 (Value.pointer (some (⟨pb, 0, none⟩ : Addr))); refine (C2.out _ HS.out.hb).mono ?_; rintro e wn ⟨c, rfl, hl, hb⟩; obtain ⟨ao, cc, hcc⟩ := hl.slice; rw [vals_length] at hcc; subst hcc; have HS := Lib.hid (HS.out.set2 hl hb); clear hl hb; obtain ⟨n1, n2, n3⟩ := (HM.out.below HS.out.hb).ptrs; obtain ⟨f2, f3, f4, k2, k3, k4⟩ := HS.out.cells rfl)
      | (go_at_call_of 78 (Value.pointer (some (⟨pf, 0, none⟩ : Addr))); refine (C3.out _ HS.out.hb).mono ?_; rintro e wn ⟨c, rfl, hl, hb⟩; obtain ⟨ao, cc, hcc⟩ := hl.slice; rw [vals_length] at hcc; subst hcc; have HS := Lib.hid (HS.out.set3 hl hb); clear hl hb; obtain ⟨n1, n2, n3⟩ := (HM.out.below HS.out.hb).ptrs; obtain ⟨f2, f3, f4, k2, k3, k4⟩ := HS.out.cells rfl))
    all_goals
      go_wp2_with fail
      go_meet
      exact ⟨_, _, _, SG.of (by have := HW.out; have := HZ.out; omega) (by have := HZ.out; omega) HS.out⟩
  case rest =>
    obtain ⟨v1, v2, v3, HF⟩ := hcut
    clear HS C1 C2 C3 n1 n2 n3
    have HG := Lib.hid HF.out.hs
    have HR := Lib.hid HF.out.hr
    have HO := Lib.hid HF.out.own
    go_wp2_with (first
      | (refine ld_state (by rfl) _ rfl _ rfl _ _ HG.out rfl ?_)
      | (refine st_state (by rfl) _ _ rfl r _ rfl rfl _ _ HR.out rfl rfl (all_one (slice_one HO.out.st.slice) (slice_one HO.out.bk.slice) (slice_one HO.out.me.slice)) ?_; intro wf hr ht; have HRF := Lib.hid hr; have HTF := Lib.hid ht; clear hr ht))
    refine bodyPost_ret (results_cell_row rfl _ _ r _ _ _ _ rfl HRF.out Tryz.underlying24 rfl state_size) rfl ?_
    have hl := fun {v : Value} {xs : List Int} (ho : Owns wc w.heap.size 3 v (vals xs)) (hf : ∀ k, blk v = some k → r < k) => (ho.touch HTF.out (fun k hk hm => by rw [List.mem_singleton] at hm; have := hf k hk; omega) : Owns wf w.heap.size 3 v (vals xs))
    refine ⟨_, rfl, ⟨v1, v2, v3, rfl, ⟨hl HO.out.st (HF.out.far _ (.inl rfl)), hl HO.out.bk (HF.out.far _ (.inr (.inl rfl))), hl HO.out.me (HF.out.far _ (.inr (.inr rfl))), HO.out.sb, HO.out.bm⟩⟩, HF.out.hb.trans (HTF.out.below (B := w.heap.size) (fun k hk => by rw [List.mem_singleton.1 hk]; have h1 := HW.out; omega) HF.out.hb.size)⟩
end Go.Proofs.YthnciokmomgfeaaGreatDoor.Inn
/- Package inner: what is done to a machine's stacks, told of the machine; the cells of a catch are taken. -/
namespace Go.Proofs.YthnciokmomgfeaaGreatDoor.Inn
open Go.RowKit Book Mem Mach
set_option linter.unusedVariables false
set_option linter.unusedSimpArgs false
/-- an answer, and what became of a machine -/
def DidM (w : World) (B q ps gs pb gb pf : Nat) (vC vH : Value) (ch : List Int) (vs vb vm : Value) (m' : M) (v : Value) (e : Ending) (w' : World) : Prop :=
  e = .returned v ∧ Mc w' B q ps gs pb gb pf vC vH ch vs vb vm m' ∧ Stirred w w' (feet q ps gs pb gb pf vC vH)
section
variable {w w' : World} {B q ps gs pb gb pf : Nat} {vC vH : Value} {ch : List Int} {vs vb vm : Value} {m : M}
theorem feet_st : ∀ k ∈ foot ps gs, k ∈ feet q ps gs pb gb pf vC vH := fun k hk => mem_feet.2 (.inr (.inl hk))
theorem feet_bk : ∀ k ∈ foot pb gb, k ∈ feet q ps gs pb gb pf vC vH := fun k hk => mem_feet.2 (.inr (.inr (.inl hk)))
theorem feet_me : ∀ k ∈ Fld.Mem.foot pf vC vH, k ∈ feet q ps gs pb gb pf vC vH := fun k hk => mem_feet.2 (.inr (.inr (.inr hk)))
theorem feet_q : q ∈ feet q ps gs pb gb pf vC vH := mem_feet.2 (.inl rfl)
theorem stir_q (w : World) (j : Nat) (v : Value) : Stirred w (w.setCell ⟨q, j, none⟩ v) (feet q ps gs pb gb pf vC vH) := (Stirred.setCell w ⟨q, j, none⟩ v).more (fun k hk => by rw [List.mem_singleton.1 hk]; exact feet_q)
theorem Mc.push (h : Mc w B q ps gs pb gb pf vC vH ch vs vb vm m) (v : Value) (xs : List Int) (hv : ∀ w', Stirred w w' (feet q ps gs pb gb pf vC vH) → Reads w' v xs) (hf : m.stack.length + xs.length ≤ 48) :
    Calls Tryz.prog 107 #[.pointer (some ⟨ps, 0, none⟩), v] w (DidM w B q ps gs pb gb pf vC vH ch vs vb vm { m with stack := m.stack ++ xs } (.bool true)) :=
  (push_yes h.st v xs (fun w' hs => hv w' (hs.more feet_st)) hf).mono fun e w' ⟨h1, h2, h3⟩ => ⟨h1, h.stDid h2 h3, h3.more feet_st⟩
theorem Mc.pushB (h : Mc w B q ps gs pb gb pf vC vH ch vs vb vm m) (v : Value) (xs : List Int) (hv : ∀ w', Stirred w w' (feet q ps gs pb gb pf vC vH) → Reads w' v xs) (hf : m.back.length + xs.length ≤ 48) :
    Calls Tryz.prog 107 #[.pointer (some ⟨pb, 0, none⟩), v] w (DidM w B q ps gs pb gb pf vC vH ch vs vb vm { m with back := m.back ++ xs } (.bool true)) :=
  (push_yes h.bk v xs (fun w' hs => hv w' (hs.more feet_bk)) hf).mono fun e w' ⟨h1, h2, h3⟩ => ⟨h1, h.bkDid h2 h3, h3.more feet_bk⟩
theorem Mc.cut (h : Mc w B q ps gs pb gb pf vC vH ch vs vb vm m) (n : Nat) (hn : n ≤ 48) :
    Calls Tryz.prog 105 #[.pointer (some ⟨ps, 0, none⟩), .int .i64 n] w (DidM w B q ps gs pb gb pf vC vH ch vs vb vm { m with stack := cutTo m.stack n } (.bool true)) :=
  (cut_yes h.st n hn).mono fun e w' ⟨h1, h2, h3⟩ => ⟨h1, h.stDid h2 h3, h3.more feet_st⟩
theorem Mc.cutB (h : Mc w B q ps gs pb gb pf vC vH ch vs vb vm m) (n : Nat) (hn : n ≤ 48) :
    Calls Tryz.prog 105 #[.pointer (some ⟨pb, 0, none⟩), .int .i64 n] w (DidM w B q ps gs pb gb pf vC vH ch vs vb vm { m with back := cutTo m.back n } (.bool true)) :=
  (cut_yes h.bk n hn).mono fun e w' ⟨h1, h2, h3⟩ => ⟨h1, h.bkDid h2 h3, h3.more feet_bk⟩
/-- a cell of the box is written -/
theorem Mc.set' (h : Mc w B q ps gs pb gb pf vC vH ch vs vb vm m) (j : Nat) (v : Value) (m' : M) (e : cells13 m' vs vb vm ps pb pf = (cells13 m vs vb vm ps pb pf).setIfInBounds j v) (e1 : m'.stack = m.stack) (e2 : m'.back = m.back) (e3 : m'.mem = m.mem) :
    Mc (w.setCell ⟨q, j, none⟩ v) B q ps gs pb gb pf vC vH ch vs vb vm m' ∧ Stirred w (w.setCell ⟨q, j, none⟩ v) (feet q ps gs pb gb pf vC vH) := ⟨h.set j v m' e e1 e2 e3, stir_q w j v⟩
end
/-- a new row of numbers -/
theorem row_box (w : World) (xs : List Int) : ∃ w1 g, w.alloc (.cells (vals xs).toArray 3) = w1 ∧ w.heap.size = g ∧ Hid (Row w1 g g xs) ∧ Hid (Below w.heap.size w w1) ∧ Hid (w.heap.size = g) :=
  ⟨_, _, rfl, rfl, ⟨heap_alloc_new w _, Nat.le_refl _⟩, (Below.refl w.heap.size w).alloc (Nat.le_refl _) _, rfl⟩
/-- .. stays, whatever is done elsewhere -/
theorem Row.stays {w : World} {B g n : Nat} {xs : List Int} {F : List Nat} (h : Row w B g xs) (hn : xs.length = n) (hF : ∀ k ∈ F, k < B) : ∀ w', Stirred w w' F → Reads w' (rowV g n) xs :=
  fun w' hs => (h.touch hs (fun hm => by have h1 := hF g hm; have h2 := h.2; omega)).reads hn
theorem nth_at {l : List Int} {k : Nat} {x : Int} (hk : k < l.length) (h : l[l.length - 1 - k]? = some x) : nth l k = x := by
  unfold nth
  rw [if_pos hk, List.getD_eq_getElem?_getD, h]
  rfl
theorem nth_drop {l : List Int} {n k : Nat} (hn : n ≤ l.length) (hk : k < n) : (l.drop (l.length - n))[n - 1 - k]? = some (nth l k) := by
  have h1 : l.length - 1 - k < l.length := by omega
  rw [List.getElem?_drop, show l.length - n + (n - 1 - k) = l.length - 1 - k by omega, List.getElem?_eq_getElem h1]
  congr 1
  exact (nth_at (by omega) (List.getElem?_eq_getElem h1)).symm
set_option maxHeartbeats 4000000 in
set_option maxRecDepth 100000 in
/-- the cells of the nearest Catch are taken -/
theorem uncatch_any {w : World} {B q ps gs pb gb pf : Nat} {vC vH : Value} {ch : List Int} {vs vb vm : Value} {m : M} (h : Mc w B q ps gs pb gb pf vC vH ch vs vb vm m) (hB : B ≤ w.heap.size) (hl : 3 ≤ m.back.length) :
    Calls Tryz.prog 106 #[.pointer (some ⟨q, 0, none⟩)] w (DidM w B q ps gs pb gb pf vC vH ch vs vb vm { m with handler := nth m.back 1, back := less m.back 3 } (.int .i64 (nth m.back 2))) := by
  have C := Lib.hid (pop_yes h.bk hB 3 (m.back.length - 3) (by omega))
  have HH := Lib.hid h
  have HL := Lib.hid hl
  obtain ⟨n1, n2, n3⟩ := h.ptrs
  clear h hl hB
  go_enter Tryz.func106, Tryz.ntmps106
  go_wp2_with fail
  refine C.out.mono ?_
  rintro e w1 ⟨v, rfl, ho, hp, hs⟩
  have hM := HH.out.bkDid hp hs
  have hS := hs.more (feet_bk (q := q) (ps := ps) (gs := gs) (pf := pf) (vC := vC) (vH := vH))
  have hlen : (m.back.drop (m.back.length - 3)).length = 3 := by rw [List.length_drop]; have := HL.out; omega
  obtain ⟨g, cap, rfl, hblk⟩ := owns_slice ho (by rw [hlen]; decide)
  rw [hlen] at ho
  have x0 : (m.back.drop (m.back.length - 3))[0]? = some (nth m.back 2) := nth_drop (n := 3) (k := 2) HL.out (by decide)
  have x1 : (m.back.drop (m.back.length - 3))[1]? = some (nth m.back 1) := nth_drop (n := 3) (k := 1) HL.out (by decide)
  have k0 : w1.cell? ⟨g, 0, none⟩ = some (.int .i64 (nth m.back 2)) := by
    rw [(owns_at ho (j := 0) (by rw [hlen]; decide)).1]; congr 2; rw [List.getElem?_eq_getElem (by rw [hlen]; decide)] at x0; exact Option.some.inj x0
  have k1 : w1.cell? ⟨g, 1, none⟩ = some (.int .i64 (nth m.back 1)) := by
    rw [(owns_at ho (j := 1) (by rw [hlen]; decide)).1]; congr 2; rw [List.getElem?_eq_getElem (by rw [hlen]; decide)] at x1; exact Option.some.inj x1
  have c1 : w1.cell? ⟨q, 1, none⟩ = some (.int .i64 m.handler) := whole_cell hM.box rfl
  have f1 : w1.frozen? ⟨q, 1, none⟩ = false := whole_frozen hM.box 1
  rw [hlen]
  have HR := Lib.hid (hM.set' 1 (.int .i64 (nth m.back 1)) { m with handler := nth m.back 1, back := less m.back 3 } rfl rfl rfl rfl)
  have HSS := Lib.hid hS
  clear ho hp hs hM hS hlen hblk x0 x1 C
  generalize nth m.back 2 = y2 at *
  generalize nth m.back 1 = y1 at *
  go_wp2
  go_ret
  exact ⟨rfl, HR.out.1, HSS.out.trans HR.out.2 (fun k hk => .inl hk)⟩
end Go.Proofs.YthnciokmomgfeaaGreatDoor.Inn
/- Package inner: an operation that is done: its box; what became of it. -/
namespace Go.Proofs.YthnciokmomgfeaaGreatDoor.Inn
open Go.RowKit Book Mem Mach
set_option linter.unusedVariables false
set_option linter.unusedSimpArgs false
/-- the box of an operation before it is done, and the rows of what it took -/
structure X8 (w : World) (xb : Nat) (k g at' nx : Int) (gt gb : Nat) (ts tb : List Int) : Prop where
  box : w.heap[xb]? = some (.cells (cells8 k g at' nx (rowV gt ts.length) (rowV gb tb.length) (.slice none 0 0) (.slice none 0 0)) 134 (0, 0))
  rs : w.heap[gt]? = some (.cells (vals ts).toArray 3 (0, 0))
  rb : w.heap[gb]? = some (.cells (vals tb).toArray 3 (0, 0))
section
variable {w w' : World} {xb : Nat} {k g at' nx : Int} {gt gb : Nat} {ts tb : List Int}
theorem X8.touch (h : X8 w xb k g at' nx gt gb ts tb) {bs : List Nat} (hs : Stirred w w' bs) (h1 : xb ∉ bs) (h2 : gt ∉ bs) (h3 : gb ∉ bs) : X8 w' xb k g at' nx gt gb ts tb :=
  ⟨hs.whole h.box h1, hs.whole h.rs h2, hs.whole h.rb h3⟩
theorem X8.drewN (h : X8 w xb k g at' nx gt gb ts tb) (n : Nat) : X8 (w.drewN n) xb k g at' nx gt gb ts tb := h.touch (Stirred.drewN w n []) List.not_mem_nil List.not_mem_nil List.not_mem_nil
theorem X8.below (h : X8 w xb k g at' nx gt gb ts tb) (hb : Below w.heap.size w w') : X8 w' xb k g at' nx gt gb ts tb := h.touch (Stirred.of_below hb []) List.not_mem_nil List.not_mem_nil List.not_mem_nil
theorem X8.cells (h : X8 w xb k g at' nx gt gb ts tb) : w.cell? ⟨xb, 0, none⟩ = some (.int .i64 k) ∧ w.cell? ⟨xb, 1, none⟩ = some (.int .i64 g) ∧ w.cell? ⟨xb, 2, none⟩ = some (rowV gt ts.length) ∧ w.cell? ⟨xb, 3, none⟩ = some (rowV gb tb.length) ∧
    w.cell? ⟨xb, 4, none⟩ = some (.slice none 0 0) ∧ w.cell? ⟨xb, 5, none⟩ = some (.slice none 0 0) ∧ w.cell? ⟨xb, 6, none⟩ = some (.int .i64 at') ∧ w.cell? ⟨xb, 7, none⟩ = some (.int .i64 nx) :=
  ⟨whole_cell h.box rfl, whole_cell h.box rfl, whole_cell h.box rfl, whole_cell h.box rfl, whole_cell h.box rfl, whole_cell h.box rfl, whole_cell h.box rfl, whole_cell h.box rfl⟩
theorem X8.free (h : X8 w xb k g at' nx gt gb ts tb) : w.frozen? ⟨xb, 4, none⟩ = false ∧ w.frozen? ⟨xb, 5, none⟩ = false ∧ w.frozen? ⟨xb, 7, none⟩ = false :=
  ⟨whole_frozen h.box 4, whole_frozen h.box 5, whole_frozen h.box 7⟩
theorem X8.st (h : X8 w xb k g at' nx gt gb ts tb) {j : Nat} {x : Int} (hx : ts[j]? = some x) : w.cell? ⟨gt, j, none⟩ = some (.int .i64 x) := whole_cell h.rs (by simp [vals, hx])
theorem X8.bk (h : X8 w xb k g at' nx gt gb ts tb) {j : Nat} {x : Int} (hx : tb[j]? = some x) : w.cell? ⟨gb, j, none⟩ = some (.int .i64 x) := whole_cell h.rb (by simp [vals, hx])
end
/-- what a slice reads as hangs on these blocks alone -/
def Dep (w : World) (v : Value) (xs : List Int) (L : List Nat) : Prop := ∀ w' : World, (∀ k ∈ L, w'.heap[k]? = w.heap[k]?) → Reads w' v xs
theorem Dep.nil (w : World) (L : List Nat) : Dep w (.slice none 0 0) [] L := fun w' _ => ⟨none, 0, rfl, fun j x h => by cases h⟩
theorem Dep.more {w : World} {v : Value} {xs : List Int} {L L' : List Nat} (h : Dep w v xs L) (hl : ∀ k ∈ L, k ∈ L') : Dep w v xs L' := fun w' hk => h w' (fun k hm => hk k (hl k hm))
theorem Dep.of_owns {w : World} {B : Nat} {v : Value} {xs : List Int} (h : Owns w B 3 v (vals xs)) : Dep w v xs (blk v).toList := fun w' hk => Reads.of_owns (h.same (fun k e => hk k (by simp [e])))
theorem Dep.row {w : World} {g : Nat} {xs : List Int} (h : w.heap[g]? = some (.cells (vals xs).toArray 3 (0, 0))) {n : Nat} (hn : xs.length = n) : Dep w (rowV g n) xs [g] := fun w' hk =>
  Row.reads (B := 0) ⟨by rw [hk g (List.mem_singleton_self g)]; exact h, Nat.zero_le _⟩ hn
theorem Dep.first {w : World} {g : Nat} {xs : List Int} (h : w.heap[g]? = some (.cells (vals xs).toArray 3 (0, 0))) {n c : Nat} (hn : n ≤ xs.length) : Dep w (.slice (some ⟨g, 0, none⟩) n c) (xs.take n) [g] := fun w' hk => by
  have hr : Row w' 0 g xs := ⟨by rw [hk g (List.mem_singleton_self g)]; exact h, Nat.zero_le _⟩
  exact (Row.reads hr rfl).take n c hn
theorem Dep.reads {w w' : World} {v : Value} {xs : List Int} {L D : List Nat} (h : Dep w v xs L) (hL : ∀ k ∈ L, k < w.heap.size ∧ k ∉ D) (hs : Stirred w w' D) : Reads w' v xs := h w' (fun k hk => hs.block k (hL k hk).1 (hL k hk).2)
/-- an operation that is done, of which no machine knows -/
def XDid (w : World) (xb : Nat) (k g at' : Int) (vt vb : Value) (gt gb : Nat) (err : Value) (gs gbl : List Int) (nx' : Int) (e : Ending) (w' : World) : Prop :=
  ∃ vgs vgb L, e = .returned err ∧ w'.heap[xb]? = some (.cells (cells8 k g at' nx' vt vb vgs vgb) 134 (0, 0)) ∧ Stirred w w' [xb] ∧ Dep w' vgs gs L ∧ Dep w' vgb gbl L ∧ ∀ b ∈ L, b < w'.heap.size ∧ b ≠ xb ∧ (b = gt ∨ b = gb ∨ w.heap.size ≤ b)
theorem set8 {w : World} {xb : Nat} {k g at' nx : Int} {vt vb vgs vgb : Value} {T : TypeId} (h : w.heap[xb]? = some (.cells (cells8 k g at' nx vt vb vgs vgb) T (0, 0))) :
    (∀ v : Int, (w.setCell ⟨xb, 7, none⟩ (.int .i64 v)).heap[xb]? = some (.cells (cells8 k g at' v vt vb vgs vgb) T (0, 0))) ∧
    (∀ v : Value, (w.setCell ⟨xb, 4, none⟩ v).heap[xb]? = some (.cells (cells8 k g at' nx vt vb v vgb) T (0, 0))) ∧
    (∀ v : Value, (w.setCell ⟨xb, 5, none⟩ v).heap[xb]? = some (.cells (cells8 k g at' nx vt vb vgs v) T (0, 0))) :=
  ⟨fun v => by rw [whole_set h]; rfl, fun v => by rw [whole_set h]; rfl, fun v => by rw [whole_set h]; rfl⟩
/-- two blocks of other types are not one -/
theorem apart_T {w : World} {a b : Nat} {c c' : Array Value} {T T' : TypeId} (h : w.heap[a]? = some (.cells c T (0, 0))) (h' : w.heap[b]? = some (.cells c' T' (0, 0))) (hT : T ≠ T') : a ≠ b := fun e => by
  subst e
  rw [h] at h'
  simp only [Option.some.injEq, Obj.cells.injEq] at h'
  exact hT h'.2.1
end Go.Proofs.YthnciokmomgfeaaGreatDoor.Inn
