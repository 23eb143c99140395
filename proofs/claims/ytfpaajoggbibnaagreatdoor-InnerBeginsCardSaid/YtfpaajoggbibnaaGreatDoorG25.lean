/- A machine of a statement's own, in a box, its memory in a block that can be written. -/
import Derived.Test.YtfpaajoggbibnaaGreatDoorG24
import Derived.Test.YtfpaajoggbibnaaGreatDoorG20
import Derived.Deep.LoopGhost
import Derived.IntWalk
import Derived.Deep.RegionHeld3
import Derived.Deep.DeepCutAuto
import Derived.Test.YtfpaajoggbibnaaGreatDoorG4
import Derived.BigQuiet
import Derived.Deep.QuietTactic
import Derived.Test.YtfpaajoggbibnaaGreatDoorG22
import Derived.Deep.RegionWith
namespace Go.Proofs.YtfpaajoggbibnaaGreatDoor.Inn
open Go.RowKit Book Mem Mach
set_option linter.unusedVariables false
set_option linter.unusedSimpArgs false
structure MB (w : World) (B b g n cap : Nat) (vs vb : Value) (m : M) : Prop where
  len : m.mem.length = n
  box : w.heap[b]? = some (.cells (cells10 m.ip m.handler vs vb (.slice (some ⟨g, 0, none⟩) n cap) m.out m.inp m.read m.status m.code) 24 (0, 0))
  own : OwnsL w B vs vb (.slice (some ⟨g, 0, none⟩) n cap) m
  low : B ≤ b
  row : blk (.slice (some ⟨g, 0, none⟩) n cap) = some g
  ne : b ≠ g
  ns : blk vs ≠ some b
  nb : blk vb ≠ some b
/-- what a call answers: a machine with lists of its own, its memory's block known -/
def GivesG (m : M) (n : Nat) (w : World) (e : Ending) (w' : World) : Prop :=
  ∃ a1 k1 a2 k2 g cap, e = .returned (stV m (.slice a1 m.stack.length k1) (.slice a2 m.back.length k2) (.slice (some ⟨g, 0, none⟩) n cap)) ∧
    OwnsL w' w.heap.size (.slice a1 m.stack.length k1) (.slice a2 m.back.length k2) (.slice (some ⟨g, 0, none⟩) n cap) m ∧ blk (.slice (some ⟨g, 0, none⟩) n cap) = some g ∧ Below w.heap.size w w'
theorem GivesM.block {m : M} {n : Nat} (hn : m.mem.length = n) (h0 : 0 < n) {w : World} {e : Ending} {w' : World} (h : GivesM m w e w') : GivesG m n w e w' := by
  obtain ⟨a1, k1, a2, k2, a3, k3, rfl, ho, hb⟩ := GivesM.known h
  obtain ⟨g, cap, e3, hblk⟩ := owns_slice ho.me (by omega)
  rw [e3] at ho hblk ⊢
  rw [hn] at *
  exact ⟨a1, k1, a2, k2, g, cap, rfl, ho, hblk, hb⟩
section
variable {w w' : World} {B b g n cap : Nat} {vs vb : Value} {m : M}
theorem MB.make (hn : m.mem.length = n) (ho : OwnsL w B vs vb (.slice (some ⟨g, 0, none⟩) n cap) m) (hg : blk (.slice (some ⟨g, 0, none⟩) n cap) = some g) (hB : B ≤ w.heap.size)
    (hx : w'.heap[b]? = some (.cells (cells10 m.ip m.handler vs vb (.slice (some ⟨g, 0, none⟩) n cap) m.out m.inp m.read m.status m.code) 24 (0, 0))) (hb : Below w.heap.size w w') (hbg : w.heap.size = b) : MB w' B b g n cap vs vb m := by
  refine ⟨hn, hx, ho.below hb, by omega, hg, ?_, fun e => ?_, fun e => ?_⟩
  · have := (ho.me.block g hg).2.1; omega
  · have := (ho.st.block b e).2.1; omega
  · have := (ho.bk.block b e).2.1; omega
theorem MB.on (h : MB w B b g n cap vs vb m) (hb : Below w.heap.size w w') : MB w' B b g n cap vs vb m :=
  ⟨h.len, (Stirred.of_below hb []).whole h.box List.not_mem_nil, h.own.below hb, h.low, h.row, h.ne, h.ns, h.nb⟩
theorem MB.drew (h : MB w B b g n cap vs vb m) : MB w.drew B b g n cap vs vb m :=
  ⟨h.len, h.box, ⟨h.own.st.touch (Stirred.drew w []) (fun _ _ => List.not_mem_nil), h.own.bk.touch (Stirred.drew w []) (fun _ _ => List.not_mem_nil), h.own.me.touch (Stirred.drew w []) (fun _ _ => List.not_mem_nil), h.own.sb, h.own.bm⟩, h.low, h.row, h.ne, h.ns, h.nb⟩
theorem MB.store (h : MB w B b g n cap vs vb m) (j : Nat) (v : Int) : MB (w.setCell ⟨g, j, none⟩ (.int .i64 v)) B b g n cap vs vb { m with mem := m.mem.set j v } := by
  have hs : Stirred w (w.setCell ⟨g, j, none⟩ (.int .i64 v)) [g] := Stirred.setCell w ⟨g, j, none⟩ (.int .i64 v)
  refine ⟨by show (m.mem.set j v).length = n; rw [List.length_set]; exact h.len, hs.whole h.box (by rw [List.mem_singleton]; exact h.ne), ⟨h.own.st.touch hs (fun k hk hm => ?_), h.own.bk.touch hs (fun k hk hm => ?_), ?_, h.own.sb, h.own.bm⟩, h.low, h.row, h.ne, h.ns, h.nb⟩
  · rw [List.mem_singleton] at hm
    subst hm
    exact (h.own.sb k hk).2 h.row
  · rw [List.mem_singleton] at hm
    subst hm
    exact h.own.bm k hk h.row
  · have := h.own.me.stored j (.int .i64 v)
    rw [vals_set] at this
    exact this
theorem MB.field (h : MB w B b g n cap vs vb m) (j : Nat) (v : Value) {m' : M} (hst : m'.stack = m.stack) (hbk : m'.back = m.back) (hme : m'.mem = m.mem)
    (hcs : (cells10 m.ip m.handler vs vb (.slice (some ⟨g, 0, none⟩) n cap) m.out m.inp m.read m.status m.code).setIfInBounds j v = cells10 m'.ip m'.handler vs vb (.slice (some ⟨g, 0, none⟩) n cap) m'.out m'.inp m'.read m'.status m'.code) :
    MB (w.setCell ⟨b, j, none⟩ v) B b g n cap vs vb m' := by
  have hs : Stirred w (w.setCell ⟨b, j, none⟩ v) [b] := Stirred.setCell w ⟨b, j, none⟩ v
  refine ⟨by rw [hme]; exact h.len, by rw [whole_set h.box j v, hcs], ⟨?_, ?_, ?_, h.own.sb, h.own.bm⟩, h.low, h.row, h.ne, h.ns, h.nb⟩
  · rw [hst]
    exact h.own.st.touch hs (fun k hk hm => by rw [List.mem_singleton] at hm; subst hm; exact h.ns hk)
  · rw [hbk]
    exact h.own.bk.touch hs (fun k hk hm => by rw [List.mem_singleton] at hm; subst hm; exact h.nb hk)
  · rw [hme]
    exact h.own.me.touch hs (fun k hk hm => by rw [List.mem_singleton] at hm; subst hm; rw [h.row] at hk; exact h.ne (Option.some.inj hk).symm)
theorem MB.ip (h : MB w B b g n cap vs vb m) (x : Int) : MB (w.setCell ⟨b, 0, none⟩ (.int .i64 x)) B b g n cap vs vb { m with ip := x } := h.field 0 _ rfl rfl rfl rfl
theorem MB.status (h : MB w B b g n cap vs vb m) (x : Int) : MB (w.setCell ⟨b, 8, none⟩ (.int .i64 x)) B b g n cap vs vb { m with status := x } := h.field 8 _ rfl rfl rfl rfl
/-- other slices are put into its box -/
theorem MB.stack (h : MB w B b g n cap vs vb m) {l : List Int} {v : Value} (ho : Owns w B 3 v (vals l)) (hb : blk v ≠ some b) (hg : blk v ≠ some g) (hv : ∀ k, blk v = some k → blk vb ≠ some k) : MB (w.setCell ⟨b, 2, none⟩ v) B b g n cap v vb { m with stack := l } := by
  have hs : Stirred w (w.setCell ⟨b, 2, none⟩ v) [b] := Stirred.setCell w ⟨b, 2, none⟩ v
  refine ⟨h.len, by rw [whole_set h.box 2 v]; rfl, ⟨ho.touch hs (fun k hk hm => ?_), h.own.bk.touch hs (fun k hk hm => ?_), h.own.me.touch hs (fun k hk hm => ?_), fun k hk => ⟨hv k hk, fun e => hg (by rw [h.row] at e; rw [Option.some.inj e]; exact hk)⟩, h.own.bm⟩, h.low, h.row, h.ne, hb, h.nb⟩
  · rw [List.mem_singleton] at hm; subst hm; exact hb hk
  · rw [List.mem_singleton] at hm; subst hm; exact h.nb hk
  · rw [List.mem_singleton] at hm; subst hm; rw [h.row] at hk; exact h.ne (Option.some.inj hk).symm
theorem MB.back (h : MB w B b g n cap vs vb m) {l : List Int} {v : Value} (ho : Owns w B 3 v (vals l)) (hb : blk v ≠ some b) (hg : blk v ≠ some g) (hv : ∀ k, blk vs = some k → blk v ≠ some k) : MB (w.setCell ⟨b, 3, none⟩ v) B b g n cap vs v { m with back := l } := by
  have hs : Stirred w (w.setCell ⟨b, 3, none⟩ v) [b] := Stirred.setCell w ⟨b, 3, none⟩ v
  refine ⟨h.len, by rw [whole_set h.box 3 v]; rfl, ⟨h.own.st.touch hs (fun k hk hm => ?_), ho.touch hs (fun k hk hm => ?_), h.own.me.touch hs (fun k hk hm => ?_), fun k hk => ⟨hv k hk, (h.own.sb k hk).2⟩, fun k hk e => hg (by rw [h.row] at e; rw [Option.some.inj e]; exact hk)⟩, h.low, h.row, h.ne, h.ns, hb⟩
  · rw [List.mem_singleton] at hm; subst hm; exact h.ns hk
  · rw [List.mem_singleton] at hm; subst hm; exact hb hk
  · rw [List.mem_singleton] at hm; subst hm; rw [h.row] at hk; exact h.ne (Option.some.inj hk).symm
theorem MB.c4 (h : MB w B b g n cap vs vb m) : w.cell? ⟨b, 4, none⟩ = some (.slice (some ⟨g, 0, none⟩) n cap) := whole_cell h.box rfl
theorem MB.fz (h : MB w B b g n cap vs vb m) (j : Nat) : w.frozen? ⟨b, j, none⟩ = false := whole_frozen h.box j
theorem MB.at (h : MB w B b g n cap vs vb m) {j : Nat} {x : Int} (hx : m.mem[j]? = some x) : w.cell? ⟨g, j, none⟩ = some (.int .i64 x) := by
  have hj := (List.getElem?_eq_some_iff.1 hx).1
  rw [(owns_at h.own.me hj).1]
  congr 2
  rw [List.getElem?_eq_getElem hj] at hx
  exact Option.some.inj hx
theorem MB.some (h : MB w B b g n cap vs vb m) {j : Nat} (hj : j < n) : ∃ x : Int, w.cell? ⟨g, j, none⟩ = Option.some (.int .i64 x) := by
  have hj' : j < m.mem.length := by rw [h.len]; exact hj
  exact ⟨_, h.at (List.getElem?_eq_getElem hj')⟩
theorem MB.gz (h : MB w B b g n cap vs vb m) {j : Nat} (hj : j < n) : w.frozen? ⟨g, j, none⟩ = false := (owns_at h.own.me (by rw [h.len]; exact hj)).2
theorem MB.readsM (h : MB w B b g n cap vs vb m) : ReadsM w (stV m vs vb (.slice (Option.some ⟨g, 0, none⟩) n cap)) m := h.own.readsM
theorem MB.under (h : MB w B b g n cap vs vb m) : B ≤ w.heap.size := Nat.le_trans h.low (Nat.le_of_lt (whole_lt h.box))
/-- stores into it touch nothing below -/
theorem MB.below (h : MB w B b g n cap vs vb m) {w0 : World} (hs : Stirred w w0 [g, b]) : Below B w w0 :=
  hs.below (fun k hk => by rcases List.mem_cons.1 hk with rfl | hk; exact (h.own.me.block _ h.row).1; rw [List.mem_singleton.1 hk]; exact h.low) h.under
theorem MB.belowG (h : MB w B b g n cap vs vb m) (j : Nat) (v : Value) : Below B w (w.setCell ⟨g, j, none⟩ v) := h.below ((Stirred.setCell w ⟨g, j, none⟩ v).more (fun k hk => by rw [List.mem_singleton.1 hk]; exact List.mem_cons_self))
theorem MB.belowB (h : MB w B b g n cap vs vb m) (j : Nat) (v : Value) : Below B w (w.setCell ⟨b, j, none⟩ v) := h.below ((Stirred.setCell w ⟨b, j, none⟩ v).more (fun k hk => by rw [List.mem_singleton.1 hk]; exact List.mem_cons_of_mem _ (List.mem_singleton_self _)))
theorem MB.belowD (h : MB w B b g n cap vs vb m) : Below B w w.drew := h.below (Stirred.drew w _)
end
end Go.Proofs.YtfpaajoggbibnaaGreatDoor.Inn
/- The document's own machine (chapter 9): a machine that has done nothing. -/
namespace Go.Proofs.YtfpaajoggbibnaaGreatDoor.Inn
open Go.RowKit Book Mem Mach
set_option linter.unusedVariables false
set_option linter.unusedSimpArgs false
/-- the first k cells are laid -/
def part (n k : Nat) : List Int := (bootMem 48 n).take k ++ List.replicate (n - k) 0
theorem part_length {n k : Nat} (h : k ≤ n) : (part n k).length = n := by unfold part; rw [List.length_append, List.length_take, bootMem_length, List.length_replicate]; omega
theorem part_zero (n : Nat) : part n 0 = List.replicate n 0 := by simp [part]
theorem part_all (n : Nat) : part n n = bootMem 48 n := by unfold part; rw [Nat.sub_self, List.take_of_length_le (by rw [bootMem_length]; omega)]; simp
theorem part_at {n k j : Nat} (h : k ≤ n) : (part n k)[j]? = if j < n then some (if j < k then bootCell 48 j else 0) else none := by
  unfold part
  by_cases h1 : j < k
  · rw [List.getElem?_append_left (by rw [List.length_take, bootMem_length]; omega), List.getElem?_take, if_pos h1, bootMem_at, if_pos (by omega), if_pos (by omega), if_pos h1]
  · rw [List.getElem?_append_right (by rw [List.length_take, bootMem_length]; omega), List.getElem?_replicate, List.length_take, bootMem_length]
    by_cases h2 : j < n
    · rw [if_pos (by omega), if_pos h2, if_neg h1]
    · rw [if_neg (by omega), if_neg h2]
theorem part_set {n k : Nat} (h : k < n) : (part n k).set k (bootCell 48 k) = part n (k + 1) := by
  apply List.ext_getElem?
  intro j
  rw [List.getElem?_set, part_at (by omega), part_at (by omega), part_length (by omega)]
  by_cases h1 : k = j
  · subst h1
    rw [if_pos rfl, if_pos h, if_pos h, if_pos (by omega)]
  · rw [if_neg h1]
    by_cases h2 : j < n
    · rw [if_pos h2, if_pos h2]
      by_cases h3 : j < k
      · rw [if_pos h3, if_pos (by omega)]
      · rw [if_neg h3, if_neg (by omega)]
    · rw [if_neg h2, if_neg h2]
theorem part_same {n k : Nat} (h : k < n) (h0 : bootCell 48 k = 0) : part n (k + 1) = part n k := by
  apply List.ext_getElem?
  intro j
  rw [part_at (by omega), part_at (by omega)]
  by_cases h1 : j = k
  · subst h1
    rw [if_pos h, if_pos h, if_pos (by omega), if_neg (by omega), h0]
  · by_cases h2 : j < n
    · rw [if_pos h2, if_pos h2]
      by_cases h3 : j < k
      · rw [if_pos h3, if_pos (by omega)]
      · rw [if_neg h3, if_neg (by omega)]
    · rw [if_neg h2, if_neg h2]
set_option maxHeartbeats 8000000 in
set_option maxRecDepth 100000 in
theorem refBoot_any (w : World) (n : Int) (nn : Nat) (hn : (nn : Int) = min (max n 0) 3000) (inp : ByteArray) :
    Calls Tryz.prog 18 #[.int .i64 n, .string inp] w (GivesM (bootM nn inp) w) := by
  obtain ⟨i0, HI1, HI2, HI3, HI4⟩ := int_facts
  have HI := Lib.hid (And.intro HI1 (And.intro HI2 (And.intro HI3 HI4)))
  clear HI1 HI2 HI3 HI4
  obtain ⟨w1, r, hw1, hr, HR, HB1, HRG⟩ := new_box w zero10 24
  have HM := Lib.hid hn
  have hn3 : nn ≤ 3000 := by omega
  clear hn
  go_enter Tryz.func18, Tryz.ntmps18
  go_upto_region 1 with fail
  clear hw1 hr
  go_wp2_with (at_make; refine wpList_make_full _ rfl _ _ 22 rfl w1.heap.size 3 i0 (.int .i64 0) 1 Tryz.underlying22 HI.out.1 HI.out.2.1 HI.out.2.2.1 .i64 .i64 _ _ nn rfl rfl ?a1 ?a2 ?a3 ?a4 (Nat.le_refl _) ?_)
  case a1 => exact HM.out.symm
  case a2 => exact HM.out.symm
  case a3 => rw [HI.out.2.2.2]; omega
  case a4 => unfold maxLen; omega
  intro w2 hO hG
  rw [toList_madeCells_one] at hO
  have hb1 := (Stirred.of_grown hG).below (B := w1.heap.size) (fun k h => by cases h) (Nat.le_refl _)
  obtain ⟨g, hg⟩ : ∃ g, w1.heap.size = g := ⟨_, rfl⟩
  rw [hg] at hO hb1 ⊢
  have HGE := Lib.hid hg
  have HO := Lib.hid (show Owns w2 g 3 (.slice (some ⟨g, 0, none⟩) nn nn) (vals (part nn 0)) by
    have := Owns.of_row hO
    rw [part_zero, vals, List.map_replicate]
    exact this)
  have HB2 := Lib.hid hb1
  clear hO hG hb1 hg
  go_wp2_with fail
  go_loopg [6] nn (fun z f wr => ∃ k : Nat, z = nn - k ∧ k ≤ nn ∧ f = .int .i64 k ∧ Hid (Owns wr g 3 (.slice (some ⟨g, 0, none⟩) nn nn) (vals (part nn k))) ∧ Hid (Below g w1 wr))
  case atStart => exact ⟨0, rfl, Nat.zero_le _, rfl, HO, HB2⟩
  case round =>
    obtain ⟨k, rfl, hk, rfl, HX, HY⟩ := hrel
    by_cases hlt : k < nn
    · have hk0 : (0 : Int) ≤ (k : Int) := Int.natCast_nonneg _
      have hk1 : (k : Int) < (nn : Int) := by omega
      obtain ⟨kc, kf⟩ := owns_at HX.out (show k < (part nn k).length by rw [part_length hk]; exact hlt)
      have HS := Lib.hid (fun v : Int => And.intro (HX.out.stored k (.int .i64 v)) (show Below g w1 (wr.setCell ⟨g, k, none⟩ (.int .i64 v)) from HY.out.trans (((Stirred.setCell wr ⟨g, k, none⟩ (.int .i64 v)).below (B := g) (fun j h => by rw [List.mem_singleton.1 h]; exact Nat.le_refl _) (HGE.out ▸ HY.out.size)))))
      by_cases c1 : k = 1
      · subst c1
        have hb : bootCell 48 1 = 1 := rfl
        have H1 := Lib.hid (part_set hlt)
        rw [hb] at H1
        have HZ := Lib.hid (HS.out 1)
        rw [vals_set, H1.out] at HZ
        clear HS
        go_wp2
        go_roundg (nn - (1 + 1))
        case measure => omega
        case rel => exact ⟨1 + 1, rfl, by omega, by go_num, HZ.out.1, HZ.out.2⟩
      · by_cases c2 : 64 ≤ k
        · by_cases c3 : k < 160
          · by_cases c4 : k % 2 = 0
            · have hb : bootCell 48 k = ((k - 64) / 2 : Nat) := by unfold bootCell; rw [if_pos (by omega), if_pos c4]
              have q1 : (k : Int).tmod 2 = 0 := by rw [Int.tmod_eq_emod_of_nonneg hk0]; omega
              obtain ⟨q, hq⟩ : ∃ q, (k - 64) / 2 = q := ⟨_, rfl⟩
              have q2 : ((k : Int) - 64).tdiv 2 = (q : Int) := by rw [Int.tdiv_eq_ediv_of_nonneg (by omega)]; omega
              have q3 : wrap64 (q : Int) = (q : Int) := by unfold wrap64; omega
              have H1 := Lib.hid (part_set hlt)
              rw [hb, hq] at H1
              have hx5 := (HS.out 5).1
              have HZ := Lib.hid (And.intro (hx5.stored k (.int .i64 q)) (show Below g w1 ((wr.setCell ⟨g, k, none⟩ (.int .i64 5)).setCell ⟨g, k, none⟩ (.int .i64 q)) from (HS.out 5).2.trans (((Stirred.setCell _ ⟨g, k, none⟩ (.int .i64 q)).below (B := g) (fun j h => by rw [List.mem_singleton.1 h]; exact Nat.le_refl _) (HGE.out ▸ (HS.out 5).2.size)))))
              rw [vals_set, vals_set, List.set_set, H1.out] at HZ
              rw [vals_set] at hx5
              obtain ⟨kc5, kf5⟩ := owns_at hx5 (show k < ((part nn k).set k 5).length by rw [List.length_set, part_length hk]; exact hlt)
              clear HS hx5 hq hb
              go_wp2
              go_roundg (nn - (k + 1))
              case measure => omega
              case rel => exact ⟨k + 1, rfl, by omega, by go_num, HZ.out.1, HZ.out.2⟩
            · have hb : bootCell 48 k = 5 := by unfold bootCell; rw [if_pos (by omega), if_neg c4]
              have q1 : ¬ (k : Int).tmod 2 = 0 := by rw [Int.tmod_eq_emod_of_nonneg hk0]; omega
              have H1 := Lib.hid (part_set hlt)
              rw [hb] at H1
              have HZ := Lib.hid (HS.out 5)
              rw [vals_set, H1.out] at HZ
              clear HS hb
              go_wp2
              go_roundg (nn - (k + 1))
              case measure => omega
              case rel => exact ⟨k + 1, rfl, by omega, by go_num, HZ.out.1, HZ.out.2⟩
          · have hb : bootCell 48 k = 0 := by unfold bootCell; rw [if_neg (by omega), if_neg c1]
            have H1 := Lib.hid (part_same hlt hb)
            clear HS hb
            go_wp2
            go_roundg (nn - (k + 1))
            case measure => omega
            case rel => exact ⟨k + 1, rfl, by omega, by go_num, by rw [H1.out]; exact HX.out, HY.out⟩
        · have hb : bootCell 48 k = 0 := by unfold bootCell; rw [if_neg (by omega), if_neg c1]
          have H1 := Lib.hid (part_same hlt hb)
          clear HS hb
          go_wp2
          go_roundg (nn - (k + 1))
          case measure => omega
          case rel => exact ⟨k + 1, rfl, by omega, by go_num, by rw [H1.out]; exact HX.out, HY.out⟩
    · obtain rfl : k = nn := by omega
      have HO := Lib.hid HX.out
      rw [part_all] at HO
      have HRR := Lib.hid ((Stirred.of_below (HY.out.mono (Nat.le_of_eq HGE.out)) []).whole HR.out List.not_mem_nil)
      have HBW := Lib.hid (show Below w.heap.size w wr from HB1.out.trans (HY.out.mono (by have := HB1.out.size; have := HGE.out; omega)))
      clear HX
      go_wp2_with (refine st_state (by rfl) _ _ rfl r _ rfl rfl _ _ HRR.out rfl rfl (all_one rfl rfl rfl) ?_; intro wf hrf htf; have HRF := Lib.hid hrf; have HTF := Lib.hid htf; clear hrf htf)
      refine bodyPost_ret (results_cell_row rfl _ _ r _ _ _ _ rfl HRF.out Tryz.underlying24 rfl state_size) rfl ?_
      have hge := HGE.out
      have hrl := whole_lt HR.out
      have hrg := HRG.out
      refine ⟨_, rfl, ⟨_, _, _, rfl, ⟨Owns.nil _ _ _, Owns.nil _ _ _, (HO.out.touch HTF.out (fun j hj hm => ?_)).from (by omega), (fun j e => by simp [blk] at e), (fun j e => by simp [blk] at e)⟩⟩, HBW.out.trans (HTF.out.below (fun j hj => by rw [List.mem_singleton.1 hj]; omega) HBW.out.size)⟩
      have h1 := (HO.out.block j hj).1
      rw [List.mem_singleton.1 hm] at h1
      omega
end Go.Proofs.YtfpaajoggbibnaaGreatDoor.Inn
/- 'plain' of hollowaylaw9: a machine at a place of no code but what is laid there. -/
namespace Go.Proofs.YtfpaajoggbibnaaGreatDoor.Inn
open Go.RowKit Book Mem Mach
set_option linter.unusedVariables false
set_option linter.unusedSimpArgs false
/-- what 'plain' answers -/
def plainM (code st bk : List Int) : M := T (plainX ⟨#[]⟩ (plainMem code)) 200 (st.take 40) (bk.take 40)
/-- .. the first k cells of its code being laid -/
def plainP (code st bk : List Int) (k : Nat) : M := T (plainX ⟨#[]⟩ (lay (bootMem 48 400) 200 (code.take k))) 200 (st.take 40) (bk.take 40)
/-- its box, while its stacks are copied -/
structure PS (w0 : World) (B b gm cap : Nat) (vs vb : Value) (x : M) (st bk : List Int) (o1 o2 : Option Value) (w : World) : Prop where
  mb : MB w B b gm 400 cap vs vb x
  hb : Below B w0 w
  s1 : ∀ p, o1 = some p → Owns w B 3 p (vals st) ∧ blk p ≠ some b ∧ blk p ≠ some gm ∧ ∀ k, blk p = some k → blk vb ≠ some k
  s2 : ∀ p, o2 = some p → Owns w B 3 p (vals bk) ∧ blk p ≠ some b ∧ blk p ≠ some gm
  ap : ∀ p p', o1 = some p → o2 = some p' → ∀ k, blk p = some k → blk p' ≠ some k
section
variable {w0 w w' : World} {B b gm cap : Nat} {vs vb v : Value} {x : M} {st bk : List Int} {o1 o2 : Option Value}
theorem PS.off (h : PS w0 B b gm cap vs vb x st bk o1 o2 w) (hn : ∀ k, blk v = some k → w.heap.size ≤ k) : blk v ≠ some b ∧ blk v ≠ some gm :=
  ⟨fun e => by have h1 := hn _ e; have h2 := whole_lt h.mb.box; omega, fun e => by have h1 := hn _ e; have h2 := (h.mb.own.me.block _ h.mb.row).2.1; omega⟩
theorem PS.set1 (h : PS w0 B b gm cap vs vb x st bk none o2 w) (ho : Owns w' B 3 v (vals st)) (ht : Stirred w w' []) (hn : ∀ k, blk v = some k → w.heap.size ≤ k) : PS w0 B b gm cap vs vb x st bk (some v) o2 w' := by
  have hbw := ht.below (B := w.heap.size) (fun k hk => by cases hk) (Nat.le_refl _)
  refine ⟨h.mb.on hbw, h.hb.trans (hbw.mono h.mb.under), fun p e => ?_, fun p e => ?_, fun p p' e e' k hk hk' => ?_⟩
  · obtain rfl := Option.some.inj e
    exact ⟨ho, (h.off hn).1, (h.off hn).2, fun k hk hk' => by have h1 := hn k hk; have h2 := (h.mb.own.bk.block k hk').2.1; omega⟩
  · exact ⟨(h.s2 p e).1.below hbw, (h.s2 p e).2⟩
  · obtain rfl := Option.some.inj e
    have h1 := hn k hk
    have h2 := ((h.s2 p' e').1.block k hk').2.1
    omega
theorem PS.set2 (h : PS w0 B b gm cap vs vb x st bk o1 none w) (ho : Owns w' B 3 v (vals bk)) (ht : Stirred w w' []) (hn : ∀ k, blk v = some k → w.heap.size ≤ k) : PS w0 B b gm cap vs vb x st bk o1 (some v) w' := by
  have hbw := ht.below (B := w.heap.size) (fun k hk => by cases hk) (Nat.le_refl _)
  refine ⟨h.mb.on hbw, h.hb.trans (hbw.mono h.mb.under), fun p e => ?_, fun p e => ?_, fun p p' e e' k hk hk' => ?_⟩
  · exact ⟨(h.s1 p e).1.below hbw, (h.s1 p e).2⟩
  · obtain rfl := Option.some.inj e
    exact ⟨ho, h.off hn⟩
  · obtain rfl := Option.some.inj e'
    have h1 := hn k hk'
    have h2 := ((h.s1 p e).1.block k hk).2.1
    omega
theorem PS.four (h : PS w0 B b gm cap vs vb x st bk o1 o2 w) : w.cell? ⟨b, 2, none⟩ = some vs ∧ w.cell? ⟨b, 3, none⟩ = some vb ∧ w.frozen? ⟨b, 2, none⟩ = false ∧ w.frozen? ⟨b, 3, none⟩ = false :=
  ⟨whole_cell h.mb.box rfl, whole_cell h.mb.box rfl, whole_frozen h.mb.box 2, whole_frozen h.mb.box 3⟩
/-- both are put into the box -/
theorem PS.done {v1 v2 : Value} (h : PS w0 B b gm cap vs vb x st bk (some v1) (some v2) w) : MB ((w.setCell ⟨b, 2, none⟩ v1).setCell ⟨b, 3, none⟩ v2) B b gm 400 cap v1 v2 { x with stack := st, back := bk } ∧ Below B w0 ((w.setCell ⟨b, 2, none⟩ v1).setCell ⟨b, 3, none⟩ v2) := by
  obtain ⟨h1, h2, h3, h3'⟩ := h.s1 v1 rfl
  obtain ⟨h4, h5, h6⟩ := h.s2 v2 rfl
  have m1 := h.mb.stack h1 h2 h3 h3'
  have m2 := m1.back (h4.touch (Stirred.setCell w ⟨b, 2, none⟩ v1) (fun k hk hm => by rw [List.mem_singleton] at hm; subst hm; exact h5 hk)) h5 h6 (h.ap v1 v2 rfl rfl)
  exact ⟨m2, (h.hb.trans (h.mb.belowB 2 v1)).trans (m1.belowB 3 v2)⟩
end
/-- what is answered, behind a store into the result's box -/
theorem plain_end {w wr wf : World} {B r gm cap : Nat} {v1 v2 : Value} {m : M} (ho : OwnsL wr B v1 v2 (.slice (some ⟨gm, 0, none⟩) 400 cap) m) (ht : Stirred wr wf [r]) (hw : Below w.heap.size w wr) (hr : r < B) (hB : w.heap.size ≤ B) (hwr : w.heap.size = r) :
    GivesM m w (.returned (.agg (cells10 m.ip m.handler v1 v2 (.slice (some ⟨gm, 0, none⟩) 400 cap) m.out m.inp m.read m.status m.code))) wf := by
  have far : ∀ {v : Value} {xs : List Value}, Owns wr B 3 v xs → Owns wf w.heap.size 3 v xs := fun h => (h.touch ht (fun k hk hm => by have := (h.block k hk).1; rw [List.mem_singleton] at hm; omega)).from hB
  exact ⟨_, rfl, ⟨_, _, _, rfl, ⟨far ho.st, far ho.bk, far ho.me, ho.sb, ho.bm⟩⟩, hw.trans (ht.below (fun k hk => by rw [List.mem_singleton.1 hk]; omega) hw.size)⟩
end Go.Proofs.YtfpaajoggbibnaaGreatDoor.Inn
/- What hollowaylaw9's further statements have in common. -/
namespace Go.Proofs.YtfpaajoggbibnaaGreatDoor.Inn
open Go.RowKit Book Mem Mach
set_option linter.unusedVariables false
set_option linter.unusedSimpArgs false
theorem readsC_nil (w : World) : ReadsC w (.slice none 0 0) [] := ReadsC.of_owns (Owns.nil w 0 _)
theorem lay_mem {mem : List Int} {b : Nat} {cs : List Int} {x : Int} (h : x ∈ lay mem b cs) : x ∈ mem ∨ x ∈ cs := by
  induction cs generalizing mem b with
  | nil => exact .inl h
  | cons c cs ih =>
    rcases ih (show x ∈ lay (mem.set b c) (b + 1) cs from h) with h | h
    · rcases List.mem_or_eq_of_mem_set h with h | h
      · exact .inl h
      · exact .inr (by rw [h]; exact List.mem_cons_self)
    · exact .inr (List.mem_cons_of_mem _ h)
theorem boot_in {o n : Nat} (ho : o ≤ 1000) {x : Int} (h : x ∈ bootMem o n) : Cell.In x := by
  unfold bootMem at h
  rw [List.mem_map] at h
  obtain ⟨k, -, rfl⟩ := h
  unfold bootCell Cell.In
  split
  · split <;> omega
  · split <;> omega
theorem plain_right (code st bk : List Int) : Right (plainM code st bk) := by
  refine ⟨?_, ?_, ?_, ?_, Int.le_refl 0, ?_, Int.le_refl 0, ?_⟩
  · show (st.take 40).length ≤ 48
    rw [List.length_take]; omega
  · show (bk.take 40).length ≤ 48
    rw [List.length_take]; omega
  · show (plainMem code).length ≤ 3000
    rw [plainMem_length]; omega
  · show (0 : Nat) ≤ 2000
    omega
  · show (0 : Int) ≤ ((0 : Nat) : Int)
    omega
  · show (0 : Int) ≤ 2
    omega
theorem plainMem_in {code : List Int} (h : ∀ x ∈ code, Cell.In x) : ∀ x ∈ plainMem code, Cell.In x := by
  intro x hx
  unfold plainMem at hx
  rcases lay_mem hx with h1 | h1
  · exact boot_in (by decide) h1
  · exact h x (List.mem_of_mem_take h1)
theorem plain_cells {code st bk : List Int} (h1 : ∀ x ∈ code, Cell.In x) (h2 : ∀ x ∈ st, Cell.In x) (h3 : ∀ x ∈ bk, Cell.In x) : Cells (plainM code st bk) :=
  ⟨by show Cell.In 200; unfold Cell.In; decide, by show Cell.In 0; unfold Cell.In; decide, fun x hx => h2 x (List.mem_of_mem_take hx), fun x hx => h3 x (List.mem_of_mem_take hx), plainMem_in h1, by show Cell.In 0; unfold Cell.In; decide⟩
theorem plain_inp (code st bk : List Int) : (plainM code st bk).inp.size ≤ maxLen := by show (0 : Nat) ≤ maxLen; exact Nat.zero_le _
/-- where a row's cells lie -/
theorem owns_cells {w : World} {B n c : Nat} {ao : Option Addr} {l : List Int} (h : Owns w B 3 (.slice ao n c) (vals l)) (h0 : 0 < l.length) : ∃ g, ao = some ⟨g, 0, none⟩ ∧ ∀ j x, l[j]? = some x → w.cell? ⟨g, j, none⟩ = some (.int .i64 x) := by
  obtain ⟨g, cap, e, hc, _, _⟩ := h.row (by rw [vals_length]; exact h0)
  simp only [Value.slice.injEq] at e
  exact ⟨g, e.1, fun j x hx => hc j _ (by rw [vals, List.getElem?_map, hx]; rfl)⟩
/-- a slice literal's row -/
theorem owns_lit {w : World} {B g n : Nat} {cs : Array Value} (h : w.heap[g]? = some (.cells cs 3 (0, 0))) (l : List Int) (hcs : cs.toList = vals l) (hn : l.length = n) (h0 : 0 < n) (hB : B ≤ g) (hl : n ≤ maxLen) : Owns w B 3 (.slice (some ⟨g, 0, none⟩) n n) (vals l) := by
  have hv : (vals l).length = n := by rw [vals_length]; exact hn
  refine .inr ⟨g, n, cs, by rw [hv], h0, hB, h, by rw [hv]; exact Nat.le_refl _, hl, by rw [← Array.length_toList, hcs, hv], ?_⟩
  rw [hcs, List.take_of_length_le (by omega)]
theorem below_drewN {w w' : World} {B : Nat} (h : Below B w w') (q : Nat) (hB : B ≤ w.heap.size) : Below B w (w'.drewN q) := h.trans (((Stirred.drewN w' q []).below (fun _ h => by cases h) (Nat.le_refl _)).mono (Nat.le_trans hB h.size))
end Go.Proofs.YtfpaajoggbibnaaGreatDoor.Inn
/- InnerBegins: what is not small enough. -/
namespace Go.Proofs.YtfpaajoggbibnaaGreatDoor.InnerBegins
open Go.RowKit Book Mem Mach Inn
set_option linter.unusedVariables false
set_option linter.unusedSimpArgs false
set_option maxHeartbeats 16000000 in
set_option maxRecDepth 100000 in
theorem not_small (n : Int) (inp : ByteArray) (v : Value) (m : M) (xt code : Int) (W : World) (h : ReadsM W v m) (hn : inp.size ≤ maxLen) (hi : m.inp.size ≤ maxLen) (ho : m.out.size ≤ maxLen) (hE : ∀ wc, Below W.heap.size W wc → Tabs wc)
    (hg : 300 < inp.size ∨ ¬ 300 < inp.size ∧ (4000 < m.mem.length ∨ ¬ 4000 < m.mem.length ∧ (200 < m.stack.length ∨ ¬ 200 < m.stack.length ∧ (200 < m.back.length ∨ ¬ 200 < m.back.length ∧ (4000 < m.out.size ∨ ¬ 4000 < m.out.size ∧ (300 < m.inp.size ∨ ¬ 300 < m.inp.size ∧ 5000 < n)))))) :
    Calls Tryz.prog 4 #[.int .i64 n, .string inp, v, .int .i64 xt, .int .i64 code] W (Yes W) := by
  obtain ⟨vs, vb, vm, rfl, ⟨-, so, sc, rfl, -⟩, ⟨-, bo, bc, rfl, -⟩, ⟨-, mo, mc, rfl, -⟩⟩ := h
  obtain ⟨w1, g, hw1, hg', HX, HB1, HG⟩ := new_box W (cells10 m.ip m.handler (.slice so m.stack.length sc) (.slice bo m.back.length bc) (.slice mo m.mem.length mc) m.out m.inp m.read m.status m.code) 24
  have A := Lib.hid (alive_any w1 (fun wc hbc => hE wc (HB1.out.trans (hbc.mono HB1.out.size))))
  have hn' : inp.size ≤ 9223372036854775807 := hn
  have hi' : m.inp.size ≤ 9223372036854775807 := hi
  have ho' : m.out.size ≤ 9223372036854775807 := ho
  obtain ⟨n2, hn2⟩ : ∃ n, m.stack.length = n := ⟨_, rfl⟩
  obtain ⟨n3, hn3⟩ : ∃ n, m.back.length = n := ⟨_, rfl⟩
  obtain ⟨n4, hn4⟩ : ∃ n, m.mem.length = n := ⟨_, rfl⟩
  rw [hn2, hn3, hn4] at HX hw1 hg ⊢
  have k2 : w1.cell? ⟨g, 2, none⟩ = some (.slice so n2 sc) := whole_cell HX.out rfl
  have k3 : w1.cell? ⟨g, 3, none⟩ = some (.slice bo n3 bc) := whole_cell HX.out rfl
  have k4 : w1.cell? ⟨g, 4, none⟩ = some (.slice mo n4 mc) := whole_cell HX.out rfl
  have k5 : w1.cell? ⟨g, 5, none⟩ = some (.string m.out) := whole_cell HX.out rfl
  have k6 : w1.cell? ⟨g, 6, none⟩ = some (.string m.inp) := whole_cell HX.out rfl
  clear hE hn hi ho hn2 hn3 hn4 HX HG
  rcases hg with c | ⟨c, c1 | ⟨c1, c2 | ⟨c2, c3 | ⟨c3, c4 | ⟨c4, c5 | ⟨c5, c6⟩⟩⟩⟩⟩⟩
  all_goals
    go_enter Tryz.func4, Tryz.ntmps4
    go_wp2_with fail
    refine A.out.mono ?_
    rintro e w3 ⟨rfl, hb⟩
    have HB3 := Lib.hid (HB1.out.trans (hb.mono HB1.out.size))
    clear hb A
    go_wp2
    go_ret
    exact ⟨rfl, HB3.out⟩
end Go.Proofs.YtfpaajoggbibnaaGreatDoor.InnerBegins
/- Lists that came in, lent and held against one's own, as long as a machine's memory. -/
namespace Go.Proofs.YtfpaajoggbibnaaGreatDoor
open Go.RowKit Book Mem
set_option linter.unusedSimpArgs false
set_option linter.unusedVariables false
set_option maxHeartbeats 1000000 in
theorem lent10_any (v : Value) (l : List Int) (w : World) (h : Reads w v l) (hl : l.length ≤ 10000) :
    Calls Tryz.prog 25 #[v] w fun e w' => ∃ g cap, e = .returned (.slice (some ⟨g, 0, none⟩) l.length cap) ∧ Lent w' w.heap.size g cap l ∧ Below w.heap.size w w' := by
  obtain ⟨i0, q1, q2, q3, q4⟩ := info_parts Tryz.bkIntInfo
  have HI := Lib.hid (And.intro q1 (And.intro q2 (And.intro q3 q4)))
  have C := Lib.hid (copyReads_any v l w h (by omega))
  obtain ⟨vo, vc, rfl, _⟩ := h
  obtain ⟨n, hn⟩ : ∃ n, l.length = n := ⟨_, rfl⟩
  have HN := Lib.hid hn
  rw [hn] at C hl ⊢
  clear q1 q2 q3 q4 hn
  go_enter Tryz.func25, Tryz.ntmps25
  go_wp2_with fail
  refine C.out.mono ?_
  rintro e w1 ⟨c, rfl, hO, hB⟩
  obtain ⟨co, cc, hcv⟩ := hO.slice
  rw [vals_length, HN.out] at hcv
  subst hcv
  have hal := (Below.refl w1.heap.size w1).alloc (Nat.le_refl _) (.cells #[.int .i64 (-77)] 3)
  have HO := Lib.hid (hO.below hal)
  have HB := Lib.hid hB
  clear hO hB C hal
  go_wp2_with (at_builtin; refine wpList_append_two _ rfl _ _ 22 rfl w.heap.size 3 i0 (.int .i64 0) 8 Tryz.underlying22 HI.out.1 HI.out.2.1 HI.out.2.2.1 HI.out.2.2.2 rfl _ _ rfl HO.out ⟨w1.heap.size, 0, none⟩ 1 1 [.int .i64 (-77)] rfl rfl ?c1 ?c2 (Nat.zero_lt_succ 0) ?c3 ?c4 ?c5 ?_)
  case c1 => intro j u hj; rcases j with _ | j <;> simp at hj; subst hj; simp [Addr.add]
  case c2 => intro u hu; simp at hu; subst hu; rfl
  case c3 => rw [vals_length, HN.out]; show n + 1 ≤ maxLen; unfold maxLen; omega
  case c4 => rw [vals_length, HN.out]; show (n + 1) * 8 ≤ _; omega
  case c5 => have := HB.out.size; simp; omega
  intro v' w2 hO2 _ hT _
  have hv : vals l ++ [.int .i64 (-77)] = vals (l ++ [-77]) := by simp [vals]
  rw [hv] at hO2
  obtain ⟨g, cap, e, hb⟩ := owns_slice hO2 (by simp)
  rw [List.length_append, HN.out] at e
  change v' = .slice (some ⟨g, 0, none⟩) (n + 1) cap at e
  subst e
  have hL : Lent w2 w.heap.size g cap l := by unfold Lent; rw [HN.out]; exact hO2
  have hcap := hL.blk.2
  rw [HN.out] at hcap
  have HL := Lib.hid hL
  have HB2 := Lib.hid ((HB.out.alloc HB.out.size (.cells #[.int .i64 (-77)] 3)).trans (hT.below (B := w.heap.size) (fun k hk => (HO.out.block k (by simpa using hk)).1) (by have := HB.out.size; simp; omega)))
  have hc1 : (n : Int) ≤ (cap : Int) := by omega
  clear hO2 hT hv hb hL
  go_wp2
  go_ret
  exact ⟨g, cap, rfl, HL.out, HB2.out⟩
set_option maxHeartbeats 1000000 in
theorem stays10_any (B g cap : Nat) (vb : Value) (l : List Int) (w : World) (h : Lent w B g cap l) (hb : Reads w vb l) (hl : l.length ≤ 10000) :
    Calls Tryz.prog 38 #[.slice (some ⟨g, 0, none⟩) l.length cap, vb] w fun e w' => e = .returned (.bool true) ∧ ∃ q, w' = w.drewN q := by
  have C := Lib.hid (sameReads_any _ vb l w (Reads.of_owns h.owns) hb (by omega))
  have hcap := h.blk.2
  have k1 := (owns_at h (j := l.length) (by simp)).1
  simp only [List.getElem_append_right (Nat.le_refl _), Nat.sub_self, List.getElem_cons_zero] at k1
  obtain ⟨vo, vc, rfl, _⟩ := hb
  obtain ⟨n, hn⟩ : ∃ n, l.length = n := ⟨_, rfl⟩
  rw [hn] at C hl hcap k1 ⊢
  have K1 := Lib.hid k1
  have hc1 : (n : Int) + 1 ≤ (cap : Int) := by omega
  have hn0 : (0 : Int) ≤ (n : Int) := by omega
  clear hn h k1
  go_enter Tryz.func38, Tryz.ntmps38
  go_wp2_with fail
  refine C.out.mono ?_
  rintro e w1 ⟨rfl, q, rfl⟩
  clear C
  have k1 : (w.drewN q).cell? ⟨g, n, none⟩ = some (.int .i64 (-77)) := K1.out
  go_wp2
  go_ret
  exact ⟨rfl, q, rfl⟩
end Go.Proofs.YtfpaajoggbibnaaGreatDoor
/- Machines that are lent. -/
namespace Go.Proofs.YtfpaajoggbibnaaGreatDoor.Mach
open Go.RowKit Book Mem
set_option linter.unusedVariables false
set_option linter.unusedSimpArgs false
theorem three_set {w : World} {g : Nat} {cs : Array Value} {T : TypeId} (h : w.heap[g]? = some (.cells cs T (0, 0))) (a b c : Value) :
    (((w.setCell ⟨g, 2, none⟩ a).setCell ⟨g, 3, none⟩ b).setCell ⟨g, 4, none⟩ c).heap[g]? = some (.cells (((cs.setIfInBounds 2 a).setIfInBounds 3 b).setIfInBounds 4 c) T (0, 0)) ∧ Stirred w (((w.setCell ⟨g, 2, none⟩ a).setCell ⟨g, 3, none⟩ b).setCell ⟨g, 4, none⟩ c) [g] :=
  ⟨whole_set (whole_set (whole_set h 2 a) 3 b) 4 c, ((Stirred.setCell w ⟨g, 2, none⟩ a).trans (Stirred.setCell _ ⟨g, 3, none⟩ b) (fun k hk => .inl hk)).trans (Stirred.setCell _ ⟨g, 4, none⟩ c) (fun k hk => .inl hk)⟩
/-- a machine whose lists have room behind them, in which a mark stands -/
def LentM (w : World) (B : Nat) (v : Value) (m : M) : Prop := ∃ g1 c1 g2 c2 g3 c3, v = stV m (.slice (some ⟨g1, 0, none⟩) m.stack.length c1) (.slice (some ⟨g2, 0, none⟩) m.back.length c2) (.slice (some ⟨g3, 0, none⟩) m.mem.length c3) ∧ Lent w B g1 c1 m.stack ∧ Lent w B g2 c2 m.back ∧ Lent w B g3 c3 m.mem
theorem Lent.below {w w' : World} {B g cap : Nat} {l : List Int} (h : Lent w B g cap l) (hb : Below w.heap.size w w') : Lent w' B g cap l := Owns.below h hb
theorem LentM.below {w w' : World} {B : Nat} {v : Value} {m : M} (h : LentM w B v m) (hb : Below w.heap.size w w') : LentM w' B v m := by
  obtain ⟨g1, c1, g2, c2, g3, c3, e, h1, h2, h3⟩ := h
  exact ⟨g1, c1, g2, c2, g3, c3, e, Lent.below h1 hb, Lent.below h2 hb, Lent.below h3 hb⟩
theorem LentM.mono {w w' : World} {B : Nat} {v : Value} {m : M} (h : LentM w B v m) (ho : Spares w w') : LentM w' B v m := by
  obtain ⟨g1, c1, g2, c2, g3, c3, e, h1, h2, h3⟩ := h
  exact ⟨g1, c1, g2, c2, g3, c3, e, ho.owns h1, ho.owns h2, ho.owns h3⟩
theorem LentM.reads {w : World} {B : Nat} {v : Value} {m : M} (h : LentM w B v m) : ReadsM w v m := by
  obtain ⟨g1, c1, g2, c2, g3, c3, e, h1, h2, h3⟩ := h
  exact ⟨_, _, _, e, ReadsC.of_owns h1.owns, ReadsC.of_owns h2.owns, ReadsC.of_owns h3.owns⟩
/-- what is known while three lists are lent one by one -/
structure LS (w : World) (g r : Nat) (cs : Array Value) (st bk me : List Int) (o1 o2 o3 : Option (Nat × Nat)) (wc : World) : Prop where
  hb : Below w.heap.size w wc
  hg : wc.heap[g]? = some (.cells cs 24 (0, 0))
  hr : wc.heap[r]? = some (.cells zero10 24 (0, 0))
  h1 : ∀ p, o1 = some p → Lent wc w.heap.size p.1 p.2 st ∧ r < p.1
  h2 : ∀ p, o2 = some p → Lent wc w.heap.size p.1 p.2 bk ∧ r < p.1
  h3 : ∀ p, o3 = some p → Lent wc w.heap.size p.1 p.2 me ∧ r < p.1
section
variable {w : World} {g r : Nat} {cs : Array Value} {st bk me : List Int} {o1 o2 o3 : Option (Nat × Nat)} {wc wn : World}
theorem LS.step (h : LS w g r cs st bk me o1 o2 o3 wc) (hb : Below wc.heap.size wc wn) : LS w g r cs st bk me o1 o2 o3 wn :=
  ⟨h.hb.trans (hb.mono h.hb.size), (Stirred.of_below hb []).whole h.hg List.not_mem_nil, (Stirred.of_below hb []).whole h.hr List.not_mem_nil,
    fun p e => ⟨Lent.below (h.h1 p e).1 hb, (h.h1 p e).2⟩, fun p e => ⟨Lent.below (h.h2 p e).1 hb, (h.h2 p e).2⟩, fun p e => ⟨Lent.below (h.h3 p e).1 hb, (h.h3 p e).2⟩⟩
theorem LS.new (h : LS w g r cs st bk me o1 o2 o3 wc) {l k : Nat} {xs : List Int} (hl : Lent wn wc.heap.size l k xs) : Lent wn w.heap.size l k xs ∧ r < l :=
  ⟨Owns.from hl h.hb.size, Nat.lt_of_lt_of_le (whole_lt h.hr) (Owns.block hl _ hl.blk.1).1⟩
theorem LS.set1 (h : LS w g r cs st bk me o1 o2 o3 wc) {l k : Nat} (hl : Lent wn wc.heap.size l k st) (hb : Below wc.heap.size wc wn) : LS w g r cs st bk me (some (l, k)) o2 o3 wn :=
  have h' := h.step hb
  ⟨h'.hb, h'.hg, h'.hr, fun p e => by cases e; exact h.new hl, h'.h2, h'.h3⟩
theorem LS.set2 (h : LS w g r cs st bk me o1 o2 o3 wc) {l k : Nat} (hl : Lent wn wc.heap.size l k bk) (hb : Below wc.heap.size wc wn) : LS w g r cs st bk me o1 (some (l, k)) o3 wn :=
  have h' := h.step hb
  ⟨h'.hb, h'.hg, h'.hr, h'.h1, fun p e => by cases e; exact h.new hl, h'.h3⟩
theorem LS.set3 (h : LS w g r cs st bk me o1 o2 o3 wc) {l k : Nat} (hl : Lent wn wc.heap.size l k me) (hb : Below wc.heap.size wc wn) : LS w g r cs st bk me o1 o2 (some (l, k)) wn :=
  have h' := h.step hb
  ⟨h'.hb, h'.hg, h'.hr, h'.h1, h'.h2, fun p e => by cases e; exact h.new hl⟩
theorem LS.cells {ip hh : Int} {vs vb vm : Value} {ou inn : ByteArray} {rd stt cd : Int} (h : LS w g r (cells10 ip hh vs vb vm ou inn rd stt cd) st bk me o1 o2 o3 wc) :
    wc.cell? ⟨g, 2, none⟩ = some vs ∧ wc.cell? ⟨g, 3, none⟩ = some vb ∧ wc.cell? ⟨g, 4, none⟩ = some vm ∧ wc.frozen? ⟨g, 2, none⟩ = false ∧ wc.frozen? ⟨g, 3, none⟩ = false ∧ wc.frozen? ⟨g, 4, none⟩ = false :=
  ⟨whole_cell h.hg rfl, whole_cell h.hg rfl, whole_cell h.hg rfl, whole_frozen h.hg 2, whole_frozen h.hg 3, whole_frozen h.hg 4⟩
end
/-- what is there behind the three stores -/
structure LG (w : World) (g r : Nat) (ip hh : Int) (ou inn : ByteArray) (rd stt cd : Int) (st bk me : List Int) (ns nb nm l1 k1 l2 k2 l3 k3 : Nat) (wc : World) : Prop where
  hb : Below w.heap.size w wc
  hg : wc.heap[g]? = some (.cells (cells10 ip hh (.slice (some ⟨l1, 0, none⟩) ns k1) (.slice (some ⟨l2, 0, none⟩) nb k2) (.slice (some ⟨l3, 0, none⟩) nm k3) ou inn rd stt cd) 24 (0, 0))
  hr : wc.heap[r]? = some (.cells zero10 24 (0, 0))
  h1 : Lent wc w.heap.size l1 k1 st ∧ r < l1
  h2 : Lent wc w.heap.size l2 k2 bk ∧ r < l2
  h3 : Lent wc w.heap.size l3 k3 me ∧ r < l3
theorem LG.of {w : World} {g r : Nat} {ip hh : Int} {vs vb vm : Value} {ou inn : ByteArray} {rd stt cd : Int} {st bk me : List Int} {ns nb nm l1 k1 l2 k2 l3 k3 : Nat} {wc : World} (hw : w.heap.size ≤ g) (hgr : g < r) (h : LS w g r (cells10 ip hh vs vb vm ou inn rd stt cd) st bk me (some (l1, k1)) (some (l2, k2)) (some (l3, k3)) wc) :
    LG w g r ip hh ou inn rd stt cd st bk me ns nb nm l1 k1 l2 k2 l3 k3 (((wc.setCell ⟨g, 2, none⟩ (.slice (some ⟨l1, 0, none⟩) ns k1)).setCell ⟨g, 3, none⟩ (.slice (some ⟨l2, 0, none⟩) nb k2)).setCell ⟨g, 4, none⟩ (.slice (some ⟨l3, 0, none⟩) nm k3)) := by
  have hs := three_set h.hg (.slice (some ⟨l1, 0, none⟩) ns k1) (.slice (some ⟨l2, 0, none⟩) nb k2) (.slice (some ⟨l3, 0, none⟩) nm k3)
  have hl := fun {l k : Nat} {xs : List Int} (hl : Lent wc w.heap.size l k xs ∧ r < l) => (⟨hl.1.touch hs.2 (fun hm => by rw [List.mem_singleton] at hm; omega), hl.2⟩ : Lent _ w.heap.size l k xs ∧ r < l)
  exact ⟨h.hb.trans ((hs.2.below (B := w.heap.size) (fun k hk => by rw [List.mem_singleton.1 hk]; exact hw) h.hb.size)), hs.1, hs.2.whole h.hr (fun hm => by rw [List.mem_singleton] at hm; omega), hl (h.h1 _ rfl), hl (h.h2 _ rfl), hl (h.h3 _ rfl)⟩
set_option maxHeartbeats 16000000 in
set_option maxRecDepth 100000 in
theorem lentState_any {w : World} {v : Value} {m : M} (h : ReadsM w v m) (h1 : m.stack.length ≤ 10000) (h2 : m.back.length ≤ 10000) (h3 : m.mem.length ≤ 10000) :
    Calls Tryz.prog 7 #[v] w fun e w' => ∃ v', e = .returned v' ∧ LentM w' w.heap.size v' m ∧ Below w.heap.size w w' := by
  obtain ⟨vs, vb, vm, rfl, hs, hb, hm⟩ := h
  obtain ⟨ip, hh, st, bk, me, ou, inn, rd, stt, cd⟩ := m
  simp only at hs hb hm h1 h2 h3 ⊢
  obtain ⟨ns, hns⟩ : ∃ n, st.length = n := ⟨_, rfl⟩
  obtain ⟨nb, hnb⟩ : ∃ n, bk.length = n := ⟨_, rfl⟩
  obtain ⟨nm, hnm⟩ : ∃ n, me.length = n := ⟨_, rfl⟩
  have HNS := Lib.hid hns
  have HNB := Lib.hid hnb
  have HNM := Lib.hid hnm
  have C1 := Lib.hid (fun wc (hbw : Below w.heap.size w wc) => lent10_any vs st wc (hs.1.below hbw) h1)
  have C2 := Lib.hid (fun wc (hbw : Below w.heap.size w wc) => lent10_any vb bk wc (hb.1.below hbw) h2)
  have C3 := Lib.hid (fun wc (hbw : Below w.heap.size w wc) => lent10_any vm me wc (hm.1.below hbw) h3)
  rw [hns] at C1
  rw [hnb] at C2
  rw [hnm] at C3
  obtain ⟨w1, w2, g, r, hw1, hw2, hg, hr, HG, HR, HB, HZ, HW⟩ := two_boxes2 w (cells10 ip hh vs vb vm ou inn rd stt cd) zero10
  have HS : Hid (LS w g r (cells10 ip hh vs vb vm ou inn rd stt cd) st bk me none none none w2.drew) := Lib.hid ⟨HB.out.drew, HG.out, HR.out, fun p e => (by cases e), fun p e => (by cases e), fun p e => (by cases e)⟩
  clear hs hb hm h1 h2 h3 hns hnb hnm
  go_enter Tryz.func7, Tryz.ntmps7
  go_upto_region 1 with fail
  clear hw1 hw2 hg hr HG HR HB
  go_cut [] (fun wx => ∃ l1 k1 l2 k2 l3 k3, Hid (LG w g r ip hh ou inn rd stt cd st bk me ns nb nm l1 k1 l2 k2 l3 k3 wx))
  case first =>
    obtain ⟨a2, a3, a4, f2, f3, f4⟩ := HS.out.cells
    go_wp2_with fail
    go_region_with (first
      | (go_at_call_of 25 vs; refine (C1.out _ HS.out.hb).mono ?_; rintro e wn ⟨l1, k1, rfl, hl, hb⟩; have HS := Lib.hid (HS.out.set1 hl hb); clear hl hb; obtain ⟨a2, a3, a4, f2, f3, f4⟩ := HS.out.cells)
      | (go_at_call_of 25 vb; refine (C2.out _ HS.out.hb).mono ?_; rintro e wn ⟨l2, k2, rfl, hl, hb⟩; have HS := Lib.hid (HS.out.set2 hl hb); clear hl hb; obtain ⟨a2, a3, a4, f2, f3, f4⟩ := HS.out.cells)
      | (go_at_call_of 25 vm; refine (C3.out _ HS.out.hb).mono ?_; rintro e wn ⟨l3, k3, rfl, hl, hb⟩; have HS := Lib.hid (HS.out.set3 hl hb); clear hl hb; obtain ⟨a2, a3, a4, f2, f3, f4⟩ := HS.out.cells))
    all_goals
      go_wp2_with fail
      go_meet
      exact ⟨_, _, _, _, _, _, LG.of (by have := HW.out; omega) HZ.out HS.out⟩
  case rest =>
    obtain ⟨l1, k1, l2, k2, l3, k3, HF⟩ := hcut
    clear HS C1 C2 C3
    have HG := Lib.hid HF.out.hg
    have HR := Lib.hid HF.out.hr
    go_wp2_with (first
      | (refine ld_state (by rfl) _ rfl _ rfl _ _ HG.out rfl ?_)
      | (refine st_state (by rfl) _ _ rfl r _ rfl rfl _ _ HR.out rfl rfl (all_one rfl rfl rfl) ?_; intro wf hr ht; have HRF := Lib.hid hr; have HTF := Lib.hid ht; clear hr ht))
    refine bodyPost_ret (results_cell_row rfl _ _ r _ _ _ _ rfl HRF.out Tryz.underlying24 rfl state_size) rfl ?_
    have hl := fun {l k : Nat} {xs : List Int} (hl : Lent wc w.heap.size l k xs ∧ r < l) => (hl.1.touch HTF.out (fun hm => by rw [List.mem_singleton] at hm; omega) : Lent wf w.heap.size l k xs)
    refine ⟨_, rfl, ⟨l1, k1, l2, k2, l3, k3, ?_, hl HF.out.h1, hl HF.out.h2, hl HF.out.h3⟩, HF.out.hb.trans (HTF.out.below (B := w.heap.size) (fun k hk => by rw [List.mem_singleton.1 hk]; have h1 := HW.out; have h2 := HZ.out; omega) HF.out.hb.size)⟩
    simp only [HNS.out, HNB.out, HNM.out]
end Go.Proofs.YtfpaajoggbibnaaGreatDoor.Mach
