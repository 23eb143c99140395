
/- Package inner: a machine is made of a state, and told as one. -/
import Derived.Test.YtlomfmilohbgpaaGreatDoorInnTop
import Derived.Test.YtlomfmilohbgpaaGreatDoorRefMach
import Derived.Deep.RegionWith
import Derived.Deep.DeepCutAuto
namespace Go.Proofs.YtlomfmilohbgpaaGreatDoor.Inn
open Go.RowKit Book Mem Mach
set_option linter.unusedVariables false
set_option linter.unusedSimpArgs false
/-- what is known while a machine is made, part by part -/
structure OS (w : World) (g : Nat) (cs : Array Value) (st bk me : List Int) (o1 o2 : Option (Nat × Nat)) (o3 : Option (Nat × Value)) (wc : World) : Prop where
  hb : Below w.heap.size w wc
  hg : wc.heap[g]? = some (.cells cs 24 (0, 0))
  h1 : ∀ p, o1 = some p → PileAt wc w.heap.size p.1 p.2 48 st
  h2 : ∀ p, o2 = some p → PileAt wc w.heap.size p.1 p.2 48 bk
  h3 : ∀ p, o3 = some p → Fld.Mem.FieldAt wc w.heap.size p.1 p.2 (.slice none 0 0) me []
  d12 : ∀ p p', o1 = some p → o2 = some p' → ∀ k ∈ foot p.1 p.2, k ∉ foot p'.1 p'.2
  d13 : ∀ p p', o1 = some p → o3 = some p' → ∀ k ∈ foot p.1 p.2, k ∉ Fld.Mem.foot p'.1 p'.2 (.slice none 0 0)
  d23 : ∀ p p', o2 = some p → o3 = some p' → ∀ k ∈ foot p.1 p.2, k ∉ Fld.Mem.foot p'.1 p'.2 (.slice none 0 0)
section
variable {w : World} {g : Nat} {cs : Array Value} {st bk me : List Int} {o1 o2 : Option (Nat × Nat)} {o3 : Option (Nat × Value)} {wc wn : World}
theorem OS.step (h : OS w g cs st bk me o1 o2 o3 wc) (hb : Below wc.heap.size wc wn) : OS w g cs st bk me o1 o2 o3 wn :=
  ⟨h.hb.trans (hb.mono h.hb.size), (Stirred.of_below hb []).whole h.hg List.not_mem_nil, fun p e => (h.h1 p e).below hb, fun p e => (h.h2 p e).below hb, fun p e => (h.h3 p e).below hb, h.d12, h.d13, h.d23⟩
theorem OS.set1 (h : OS w g cs st bk me none o2 o3 wc) {p gp : Nat} (hp : PileAt wn wc.heap.size p gp 48 st) (hb : Below wc.heap.size wc wn) : OS w g cs st bk me (some (p, gp)) o2 o3 wn :=
  have h' := h.step hb
  ⟨h'.hb, h'.hg, fun _ e => by cases e; exact hp.from h.hb.size, h'.h2, h'.h3,
    fun _ p' e e' k hk hm => by cases e; have h1 := (hp.foot_lt k hk).1; have h2 := ((h.h2 p' e').foot_lt k hm).2; omega,
    fun _ p' e e' k hk hm => by cases e; have h1 := (hp.foot_lt k hk).1; have h2 := ((h.h3 p' e').foot_lt k hm).2; omega, h'.d23⟩
theorem OS.set2 (h : OS w g cs st bk me o1 none o3 wc) {p gp : Nat} (hp : PileAt wn wc.heap.size p gp 48 bk) (hb : Below wc.heap.size wc wn) : OS w g cs st bk me o1 (some (p, gp)) o3 wn :=
  have h' := h.step hb
  ⟨h'.hb, h'.hg, h'.h1, fun _ e => by cases e; exact hp.from h.hb.size, h'.h3,
    fun p' _ e' e k hk hm => by cases e; have h1 := (hp.foot_lt k hm).1; have h2 := ((h.h1 p' e').foot_lt k hk).2; omega, h'.d13,
    fun _ p' e e' k hk hm => by cases e; have h1 := (hp.foot_lt k hk).1; have h2 := ((h.h3 p' e').foot_lt k hm).2; omega⟩
theorem OS.set3 (h : OS w g cs st bk me o1 o2 none wc) {p : Nat} {vC : Value} (hp : Fld.Mem.FieldAt wn wc.heap.size p vC (.slice none 0 0) me []) (hb : Below wc.heap.size wc wn) : OS w g cs st bk me o1 o2 (some (p, vC)) wn :=
  have h' := h.step hb
  ⟨h'.hb, h'.hg, h'.h1, h'.h2, fun _ e => by cases e; exact hp.from h.hb.size, h'.d12,
    fun p' _ e' e k hk hm => by cases e; have h1 := (hp.foot_lt k hm).1; have h2 := ((h.h1 p' e').foot_lt k hk).2; omega,
    fun p' _ e' e k hk hm => by cases e; have h1 := (hp.foot_lt k hm).1; have h2 := ((h.h2 p' e').foot_lt k hk).2; omega⟩
end
theorem OS.cells {w wc : World} {g : Nat} {m : M} {vs vb vm : Value} {st bk me : List Int} {o1 o2 : Option (Nat × Nat)} {o3 : Option (Nat × Value)} (h : OS w g (cells10 m.ip m.handler vs vb vm m.out m.inp m.read m.status m.code) st bk me o1 o2 o3 wc) :
    wc.cell? ⟨g, 0, none⟩ = some (.int .i64 m.ip) ∧ wc.cell? ⟨g, 1, none⟩ = some (.int .i64 m.handler) ∧ wc.cell? ⟨g, 2, none⟩ = some vs ∧ wc.cell? ⟨g, 3, none⟩ = some vb ∧ wc.cell? ⟨g, 4, none⟩ = some vm ∧
      wc.cell? ⟨g, 5, none⟩ = some (.string m.out) ∧ wc.cell? ⟨g, 6, none⟩ = some (.string m.inp) ∧ wc.cell? ⟨g, 7, none⟩ = some (.int .i64 m.read) ∧ wc.cell? ⟨g, 8, none⟩ = some (.int .i64 m.status) ∧ wc.cell? ⟨g, 9, none⟩ = some (.int .i64 m.code) :=
  ⟨whole_cell h.hg rfl, whole_cell h.hg rfl, whole_cell h.hg rfl, whole_cell h.hg rfl, whole_cell h.hg rfl, whole_cell h.hg rfl, whole_cell h.hg rfl, whole_cell h.hg rfl, whole_cell h.hg rfl, whole_cell h.hg rfl⟩
/-- the machine is boxed -/
theorem OS.made {w wc : World} {g p1 g1 p2 g2 p3 : Nat} {vC : Value} {m : M} {vs vb vm : Value} (h : OS w g (cells10 m.ip m.handler vs vb vm m.out m.inp m.read m.status m.code) m.stack m.back m.mem (some (p1, g1)) (some (p2, g2)) (some (p3, vC)) wc)
    (one : vs.oneCell' = true ∧ vb.oneCell' = true ∧ vm.oneCell' = true) :
    Mc (wc.alloc (.cells (cells13 m vs vb vm p1 p2 p3) 62)) w.heap.size wc.heap.size p1 g1 p2 g2 p3 vC (.slice none 0 0) [] vs vb vm m ∧ Below w.heap.size w (wc.alloc (.cells (cells13 m vs vb vm p1 p2 p3) 62)) := by
  have hb := (Below.refl wc.heap.size wc).alloc (Nat.le_refl _) (.cells (cells13 m vs vb vm p1 p2 p3) 62)
  have a1 := (h.h1 _ rfl).below hb
  have a2 := (h.h2 _ rfl).below hb
  have a3 := (h.h3 _ rfl).below hb
  have n1 : wc.heap.size ∉ foot p1 g1 := fun hm => Nat.lt_irrefl _ ((h.h1 _ rfl).foot_lt _ hm).2
  have n2 : wc.heap.size ∉ foot p2 g2 := fun hm => Nat.lt_irrefl _ ((h.h2 _ rfl).foot_lt _ hm).2
  have n3 : wc.heap.size ∉ Fld.Mem.foot p3 vC (.slice none 0 0) := fun hm => Nat.lt_irrefl _ ((h.h3 _ rfl).foot_lt _ hm).2
  exact ⟨⟨heap_alloc_new wc _, h.hb.size, a1, a2, a3, one, n1, n2, n3, h.d12 _ _ rfl rfl, h.d13 _ _ rfl rfl, h.d23 _ _ rfl rfl⟩, h.hb.trans (hb.mono h.hb.size)⟩
def Opened (w : World) (m : M) (e : Ending) (w' : World) : Prop := ∃ q F, e = .returned (.pointer (some ⟨q, 0, none⟩)) ∧ Mk w' w.heap.size q F m ∧ Below w.heap.size w w'
set_option maxHeartbeats 8000000 in
set_option maxRecDepth 100000 in
theorem open_any {w : World} {v : Value} {m : M} (h : ReadsM w v m) (hr : Right m) : Calls Tryz.prog 30 #[v] w (Opened w m) := by
  obtain ⟨vs, vb, vm, rfl, hs, hb, hm⟩ := h
  have C1 := Lib.hid (fun wc (hbw : Below w.heap.size w wc) => by have := new_any 48 48 (by decide) vs m.stack wc (hs.1.below hbw); rw [List.take_of_length_le hr.stack] at this; exact this : ∀ wc, Below w.heap.size w wc → Calls Tryz.prog 45 #[.int .i64 48, vs] wc (MadeP wc 48 m.stack))
  have C2 := Lib.hid (fun wc (hbw : Below w.heap.size w wc) => by have := new_any 48 48 (by decide) vb m.back wc (hb.1.below hbw); rw [List.take_of_length_le hr.back] at this; exact this : ∀ wc, Below w.heap.size w wc → Calls Tryz.prog 45 #[.int .i64 48, vb] wc (MadeP wc 48 m.back))
  have C3 := Lib.hid (fun wc (hbw : Below w.heap.size w wc) => by have := Fld.of_any vm m.mem wc (hm.1.below hbw) (by have := hr.mem; omega); rw [List.take_of_length_le hr.mem] at this; exact this : ∀ wc, Below w.heap.size w wc → Calls Tryz.prog 46 #[vm] wc (Fld.Made wc m.mem))
  have HONE := Lib.hid (show vs.oneCell' = true ∧ vb.oneCell' = true ∧ vm.oneCell' = true from by
    obtain ⟨_, _, _, rfl, _⟩ := hs
    obtain ⟨_, _, _, rfl, _⟩ := hb
    obtain ⟨_, _, _, rfl, _⟩ := hm
    exact ⟨rfl, rfl, rfl⟩)
  have hb1 := (Below.refl w.heap.size w).alloc (Nat.le_refl _) (.cells (cells10 m.ip m.handler vs vb vm m.out m.inp m.read m.status m.code) 24)
  have hn1 := heap_alloc_new w (.cells (cells10 m.ip m.handler vs vb vm m.out m.inp m.read m.status m.code) 24)
  obtain ⟨w1, hw1⟩ : ∃ w1, w.alloc (.cells (cells10 m.ip m.handler vs vb vm m.out m.inp m.read m.status m.code) 24) = w1 := ⟨_, rfl⟩
  obtain ⟨g, hg⟩ : ∃ g, w.heap.size = g := ⟨_, rfl⟩
  rw [hw1, hg] at hn1
  rw [hw1] at hb1
  have HS : Hid (OS w g (cells10 m.ip m.handler vs vb vm m.out m.inp m.read m.status m.code) m.stack m.back m.mem none none none w1.drew) := Lib.hid ⟨hb1.drew, hn1, fun p e => (by cases e), fun p e => (by cases e), fun p e => (by cases e), fun p p' e => (by cases e), fun p p' e => (by cases e), fun p p' e => (by cases e)⟩
  clear hs hb hm hb1 hn1 hr
  go_enter Tryz.func30, Tryz.ntmps30
  go_upto_region 1 with fail
  clear hw1 hg
  go_wp2_with fail
  go_region_held3 (fun w' => w'.cell? ⟨g, 0, none⟩ = some (.int .i64 m.ip) ∧ w'.cell? ⟨g, 1, none⟩ = some (.int .i64 m.handler) ∧ w'.cell? ⟨g, 2, none⟩ = some vs ∧ w'.cell? ⟨g, 3, none⟩ = some vb ∧ w'.cell? ⟨g, 4, none⟩ = some vm ∧
      w'.cell? ⟨g, 5, none⟩ = some (.string m.out) ∧ w'.cell? ⟨g, 6, none⟩ = some (.string m.inp) ∧ w'.cell? ⟨g, 7, none⟩ = some (.int .i64 m.read) ∧ w'.cell? ⟨g, 8, none⟩ = some (.int .i64 m.status) ∧ w'.cell? ⟨g, 9, none⟩ = some (.int .i64 m.code))
    (first
      | exact HS.out.cells
      | exact (HS.out.step ((Below.refl _ _).alloc (Nat.le_refl _) _)).cells)
    (first
      | (go_at_call_of 45 vs; refine (C1.out _ HS.out.hb).mono ?_; rintro e wn ⟨p1, g1, rfl, hl, hb⟩; have HS := Lib.hid (HS.out.set1 hl hb); clear hl hb)
      | (go_at_call_of 45 vb; refine (C2.out _ HS.out.hb).mono ?_; rintro e wn ⟨p2, g2, rfl, hl, hb⟩; have HS := Lib.hid (HS.out.set2 hl hb); clear hl hb)
      | (go_at_call_of 46 vm; refine (C3.out _ HS.out.hb).mono ?_; rintro e wn ⟨p3, v3, rfl, hl, hb⟩; have HS := Lib.hid (HS.out.set3 hl hb); clear hl hb))
  all_goals
    go_wp2_with fail
    go_ret
    exact ⟨_, _, rfl, (HS.out.made HONE.out).1.mach, (HS.out.made HONE.out).2⟩
/-- the state in a machine's box, read whole -/
theorem load_rest {w : World} {q ps pb pf : Nat} {m : M} {vs vb vm : Value} {T : TypeId} (hg : w.heap[q]? = some (.cells (cells13 m vs vb vm ps pb pf) T (0, 0))) :
    (loadVar 24 ⟨q, 0, none⟩).run Tryz.prog w = .ok (.agg (cells10 m.ip m.handler vs vb vm m.out m.inp m.read m.status m.code)) w := by
  have a0 : w.cell? ⟨q, 0, none⟩ = some (.int .i64 m.ip) := whole_cell hg rfl
  have a1 : w.cell? ⟨q, 1, none⟩ = some (.int .i64 m.handler) := whole_cell hg rfl
  have a2 : w.cell? ⟨q, 2, none⟩ = some vs := whole_cell hg rfl
  have a3 : w.cell? ⟨q, 3, none⟩ = some vb := whole_cell hg rfl
  have a4 : w.cell? ⟨q, 4, none⟩ = some vm := whole_cell hg rfl
  have a5 : w.cell? ⟨q, 5, none⟩ = some (.string m.out) := whole_cell hg rfl
  have a6 : w.cell? ⟨q, 6, none⟩ = some (.string m.inp) := whole_cell hg rfl
  have a7 : w.cell? ⟨q, 7, none⟩ = some (.int .i64 m.read) := whole_cell hg rfl
  have a8 : w.cell? ⟨q, 8, none⟩ = some (.int .i64 m.status) := whole_cell hg rfl
  have a9 : w.cell? ⟨q, 9, none⟩ = some (.int .i64 m.code) := whole_cell hg rfl
  clear hg
  go_simp
end Go.Proofs.YtlomfmilohbgpaaGreatDoor.Inn
