/- Walks of a strings.Builder of a call's own: copyCheck, WriteString, WriteByte, grow, Grow. -/
import Derived.Test.YtpecingkoodmfaaGreatDoorRows
import Derived.Test.YtpecingkoodmfaaGreatDoorS17
import Derived.WalkKit
import Derived.WalkSpells
import Derived.WalkLawsBesides
import Derived.Lib.Hide
import Derived.Deep.RegionWith
import Derived.BigQuiet
import Derived.Deep.QuietTactic
import Derived.RegionTactic
import Derived.ChangeAlike
import Derived.Lib.MakeNoZero
import Derived.Lib.Builder
import Derived.Lib.Case
import Derived.Deep.LoopGhost
import Derived.Deep.DeepCutAuto
namespace Go.Proofs.YtpecingkoodmfaaGreatDoor
open Go.RowKit
set_option linter.unusedSimpArgs false
set_option linter.unusedVariables false
theorem below_drewN (B : Nat) (w : World) : ∀ n, Below B w (w.drewN n)
  | 0 => Below.refl _ _
  | n + 1 => by rw [← World.drew_drewN]; exact (below_drewN B w n).drew
abbrev BT : TypeId := 150
abbrev U8 : TypeId := 5
theorem Tryz.builderSize : (Tryz.prog.info? BT).map (·.size) = some 2 := by kernel_rfl
theorem Tryz.builderLies : liesAt Tryz.prog Tryz.prog.depth BT (2 / Tryz.prog.cellsOf BT) 0 BT 1 = true := by kernel_rfl
theorem Tryz.infoByte : (Tryz.prog.info? U8).map (fun i => (i.zero, i.size, i.bytes)) = some (some (.int .u8 0), 1, 1) := by kernel_rfl
set_option maxHeartbeats 1000000 in
set_option maxRecDepth 100000 in
theorem copyCheck_used (b : Nat) (w : World) (h0 : w.cell? ⟨b, 0, none⟩ = some (.pointer (some ⟨b, 0, none⟩))) :
    Calls Tryz.prog 155 #[.pointer (some ⟨b, 0, none⟩)] w fun e w' => e = .returned (.tuple #[]) ∧ w' = w := by
  obtain ⟨j, hj, _⟩ := Option.map_eq_some_iff.1 Tryz.builderSize
  go_enter Tryz.func155, Tryz.ntmps155
  go_wp2
  rw [Lib.run_neq_ptr_same w _ Tryz.underlying148 hj]
  go_wp2
  go_end0
  exact ⟨rfl, rfl⟩
set_option maxHeartbeats 1000000 in
set_option maxRecDepth 100000 in
theorem copyCheck_fresh (b : Nat) (w : World) (h0 : w.cell? ⟨b, 0, none⟩ = some (.pointer none)) (hsh : w.shape? b = some (BT, 2)) (hfz : w.frozen? ⟨b, 0, none⟩ = false) :
    Calls Tryz.prog 155 #[.pointer (some ⟨b, 0, none⟩)] w fun e w' => e = .returned (.tuple #[]) ∧ w' = w.setCell ⟨b, 0, none⟩ (.pointer (some ⟨b, 0, none⟩)) := by
  obtain ⟨j, hj, hjs⟩ := Option.map_eq_some_iff.1 Tryz.builderSize
  go_enter Tryz.func155, Tryz.ntmps155
  go_wp2
  rw [Lib.run_to_unsafe w ⟨b, 0, none⟩ Tryz.underlying148 Tryz.underlying169 hj (by rw [hjs]; decide) hsh (Nat.zero_lt_succ 1)]
  simp only [Result.andThen]
  rw [Oper.upon_value]
  go_wp2
  rw [run_callFunc_extern Tryz.func162 (by kernel_rfl) (by kernel_rfl) (by kernel_rfl) (e := Extern.AbiNoEscape.same) (by kernel_rfl)]
  rw [Lib.run_noEscape]
  simp only [Result.andThen]
  rw [Oper.upon_value]
  go_wp2
  rw [Lib.run_from_unsafe w ⟨b, 0, none⟩ Tryz.underlying169 Tryz.underlying148 hj hsh Tryz.builderLies]
  simp only [Result.andThen]
  rw [Oper.upon_value]
  go_wp2
  go_end0
  exact ⟨rfl, rfl⟩
theorem copyCheck_any (B b : Nat) (bs : List Value) (w : World) (h : Lib.IsBuilder BT U8 B b bs w) :
    Calls Tryz.prog 155 #[.pointer (some ⟨b, 0, none⟩)] w fun e w' => e = .returned (.tuple #[]) ∧ Lib.BuilderAt BT U8 B b (.pointer (some ⟨b, 0, none⟩)) bs w' ∧ Below B w w' := by
  rcases h with h | h
  · exact (copyCheck_fresh b w h.cell0 h.shape h.frozen0).mono fun e w' ⟨h1, h2⟩ => ⟨h1, h2 ▸ h.used _, h2 ▸ (Below.refl B w).setCell (p := ⟨b, 0, none⟩) h.1 _⟩
  · exact (copyCheck_used b w h.cell0).mono fun e w' ⟨h1, h2⟩ => ⟨h1, h2 ▸ h, h2 ▸ Below.refl B _⟩
set_option maxHeartbeats 2000000 in
theorem writeString (B b : Nat) (bs : List Value) (s : ByteArray) (w : World) (h : Lib.IsBuilder BT U8 B b bs w) (hlen : bs.length + s.size ≤ 140737488355328) (hBw : B ≤ w.heap.size) :
    Calls Tryz.prog 148 #[.pointer (some ⟨b, 0, none⟩), .string s] w fun e w' => e = .returned (.tuple #[.int .i64 s.size, .nilIface]) ∧ Lib.IsBuilder BT U8 B b (bs ++ Lib.strCells s) w' ∧ Below B w w' := by
  obtain ⟨i0, hi, hz0, hz1, hz2⟩ := info_parts Tryz.infoByte
  have C := Lib.hid (copyCheck_any B b bs w h)
  clear h
  go_enter Tryz.func148, Tryz.ntmps148
  go_wp2_with (go_at_call 155; refine C.out.mono ?_)
  rintro e w1 ⟨rfl, h1, hb1⟩
  obtain ⟨hB, v, hbk, hown, hne⟩ := h1
  have c1 : w1.cell? ⟨b, 1, none⟩ = some v := by rw [Lib.cell_of_heap hbk]; rfl
  go_wp2_with (at_builtin; refine Lib.wpList_append_own_string _ rfl _ _ 98 9 rfl B U8 i0 Tryz.underlying98 Tryz.underlying9 hi hz0 hz1 hz2 _ _ _ rfl hown s rfl ?c3 ?c4 ?c5 ?_)
  case c3 => unfold maxLen; omega
  case c4 => omega
  case c5 => have := hb1.size; omega
  intro v' w2 hown' hgrow _
  have hlt : b < w1.heap.size := by
    rcases Nat.lt_or_ge b w1.heap.size with h' | h'
    · exact h'
    · simp [Array.getElem?_eq_none h'] at hbk
  have hb2 : w2.heap[b]? = some (.cells #[.pointer (some ⟨b, 0, none⟩), v] BT (0, 0)) := by
    rw [hgrow.block b hlt (fun e => hne e.symm)]
    exact hbk
  have d0 : w2.cell? ⟨b, 0, none⟩ = some (.pointer (some ⟨b, 0, none⟩)) := by rw [Lib.cell_of_heap hb2]; rfl
  have d1 : w2.cell? ⟨b, 1, none⟩ = some v := by rw [Lib.cell_of_heap hb2]; rfl
  have f1 : w2.frozen? ⟨b, 1, none⟩ = false := Lib.frozen_of_heap hb2 1
  obtain ⟨ao, n', cap, rfl⟩ : ∃ ao n' cap, v' = .slice ao n' cap := by
    rcases hown'.2 with ⟨hv, _⟩ | ⟨g, cap, cur, hv, _⟩
    · exact ⟨_, _, _, hv⟩
    · exact ⟨_, _, _, hv⟩
  go_wp2
  go_ret2
  refine ⟨rfl, .inr ?_, ?_⟩
  · exact Lib.BuilderAt.put (T := BT) (e := U8) hB hb2 (bs' := bs ++ Lib.strCells s) (by simpa [Lib.strCells_length] using hown') (by decide)
  · exact (hb1.grown hgrow (by have := hb1.size; omega) (fun k hk => (hown.lt k hk).1)).setCell (p := ⟨b, 1, none⟩) hB _
end Go.Proofs.YtpecingkoodmfaaGreatDoor
/- Walks of a strings.Builder of a call's own: WriteByte, grow, Grow. -/
namespace Go.Proofs.YtpecingkoodmfaaGreatDoor
open Go.RowKit
set_option linter.unusedSimpArgs false
set_option linter.unusedVariables false
set_option maxHeartbeats 2000000 in
theorem writeByte (B b : Nat) (bs : List Value) (c : Int) (w : World) (h : Lib.IsBuilder BT U8 B b bs w) (hlen : bs.length + 1 ≤ 140737488355328) (hBw : B ≤ w.heap.size) :
    Calls Tryz.prog 149 #[.pointer (some ⟨b, 0, none⟩), .int .u8 c] w fun e w' => e = .returned .nilIface ∧ Lib.IsBuilder BT U8 B b (bs ++ [.int .u8 c]) w' ∧ Below B w w' := by
  obtain ⟨i0, hi, hz0, hz1, hz2⟩ := info_parts Tryz.infoByte
  have C := Lib.hid (copyCheck_any B b bs w h)
  clear h
  go_enter Tryz.func149, Tryz.ntmps149
  go_wp2_with (go_at_call 155; refine C.out.mono ?_)
  rintro e w1 ⟨rfl, h1, hb1⟩
  obtain ⟨hB, v, hbk, hown, hne⟩ := h1
  have c1 : w1.cell? ⟨b, 1, none⟩ = some v := by rw [Lib.cell_of_heap hbk]; rfl
  have hlt : b < w1.heap.size := by
    rcases Nat.lt_or_ge b w1.heap.size with h' | h'
    · exact h'
    · simp [Array.getElem?_eq_none h'] at hbk
  go_wp2_with (at_builtin; refine wpList_append_own _ rfl _ _ 98 rfl B U8 i0 (.int .u8 0) 1 1 Tryz.underlying98 hi hz0 hz1 hz2 rfl (by decide) _ _ _ rfl (hown.alloc _) ⟨w1.heap.size, 0, none⟩ 1 1 [.int .u8 c] rfl rfl ?c1 ?c2 ?c3 ?c4 ?c5 ?_)
  case c1 =>
    intro j u hj
    match j, hj with
    | 0, hj => simp at hj; subst hj; simp [Addr.add]
  case c2 => intro u hu; simp at hu; subst hu; rfl
  case c3 => unfold maxLen; omega
  case c4 => omega
  case c5 => have := hb1.size; simp; omega
  intro v' w2 hown' hgrow _
  have hlt2 : b < (w1.alloc (.cells #[.int .u8 c] U8)).heap.size := by simp; omega
  have hbk2 : (w1.alloc (.cells #[.int .u8 c] U8)).heap[b]? = some (.cells #[.pointer (some ⟨b, 0, none⟩), v] BT (0, 0)) := (Lib.alloc_old w1 _ b hlt).trans hbk
  have hb2 : w2.heap[b]? = some (.cells #[.pointer (some ⟨b, 0, none⟩), v] BT (0, 0)) := by
    rw [hgrow.block b hlt2 (fun e => hne e.symm)]
    exact hbk2
  have d0 : w2.cell? ⟨b, 0, none⟩ = some (.pointer (some ⟨b, 0, none⟩)) := by rw [Lib.cell_of_heap hb2]; rfl
  have d1 : w2.cell? ⟨b, 1, none⟩ = some v := by rw [Lib.cell_of_heap hb2]; rfl
  have f1 : w2.frozen? ⟨b, 1, none⟩ = false := Lib.frozen_of_heap hb2 1
  obtain ⟨ao, n', cap, rfl⟩ : ∃ ao n' cap, v' = .slice ao n' cap := by
    rcases hown'.2 with ⟨hv, _⟩ | ⟨g, cap, cur, hv, _⟩
    · exact ⟨_, _, _, hv⟩
    · exact ⟨_, _, _, hv⟩
  go_wp2
  go_ret
  refine ⟨rfl, .inr ?_, ?_⟩
  · exact Lib.BuilderAt.put (T := BT) (e := U8) hB hb2 (bs' := bs ++ [.int .u8 c]) (by simpa using hown') (by decide)
  · exact (((hb1.alloc (by have := hb1.size; omega) _)).grown hgrow (by have := hb1.size; simp; omega) (fun k hk => (hown.lt k hk).1)).setCell (p := ⟨b, 1, none⟩) hB _
theorem Tryz.sizeByte : (Tryz.prog.info? U8).map (·.size) = some 1 := by kernel_rfl
set_option maxHeartbeats 2000000 in
set_option maxRecDepth 1000000 in
theorem grow_fresh (B b n : Nat) (w : World) (hB : B ≤ b) (hbk : w.heap[b]? = some (.cells #[.pointer (some ⟨b, 0, none⟩), .slice none 0 0] BT (0, 0))) (hBw : B ≤ w.heap.size) (hn : n ≤ 140737488355328) :
    Calls Tryz.prog 156 #[.pointer (some ⟨b, 0, none⟩), .int .i64 n] w fun e w' => e = .returned (.tuple #[]) ∧ Lib.BuilderAt BT U8 B b (.pointer (some ⟨b, 0, none⟩)) [] w' ∧ Below B w w' := by
  obtain ⟨cs, hrun, hle, hmax⟩ := Lib.run_makeNoZero (P := Tryz.prog) w.drew #[3] 98 U8 Tryz.underlying98 n (by omega)
  have hw : IntKind.i64.wrap (IntKind.i64.wrap 0 + (n : Int)) = n := by
    rw [IntKind.wrap_i64, IntKind.wrap_i64]
    omega
  have hcall : (callFunc 163 #[.int .i64 (IntKind.i64.wrap (IntKind.i64.wrap 0 + (n : Int)))]).run Tryz.prog w.drew = .ok (.value (.slice (some ⟨w.drew.heap.size, 0, none⟩) n cs.size)) (w.drew.drew.drew.alloc (.cells cs U8)) := by
    rw [hw, run_callFunc_extern Tryz.func163 (by kernel_rfl) (by kernel_rfl) (by kernel_rfl) (e := Extern.BytealgMakeNoZero.makeNoZero #[3] #[98]) (by kernel_rfl), hrun]
    rfl
  have hlt : b < w.heap.size := by
    rcases Nat.lt_or_ge b w.heap.size with h' | h'
    · exact h'
    · simp [Array.getElem?_eq_none h'] at hbk
  have c1 : w.drew.cell? ⟨b, 1, none⟩ = some (.slice none 0 0) := by
    have : w.drew.heap[b]? = _ := hbk
    rw [Lib.cell_of_heap this]; rfl
  have hb2 : (w.alloc (.cells cs U8)).heap[b]? = some (.cells #[.pointer (some ⟨b, 0, none⟩), .slice none 0 0] BT (0, 0)) := (Lib.alloc_old w _ b hlt).trans hbk
  have c2 : (w.alloc (.cells cs U8)).cell? ⟨b, 1, none⟩ = some (.slice none 0 0) := by rw [Lib.cell_of_heap hb2]; rfl
  have f2 : (w.alloc (.cells cs U8)).frozen? ⟨b, 1, none⟩ = false := Lib.frozen_of_heap hb2 1
  have hcopy : ∀ W : World, (Builtin.copy_ #[98, 98] 3 #[.slice (some ⟨w.heap.size, 0, none⟩) 0 cs.size, .slice none 0 0]).run Tryz.prog W = .ok (goInt 0) W :=
    fun W => run_copy_none W 98 98 3 U8 _ _ 0 cs.size 0 0 Tryz.underlying98 Tryz.sizeByte rfl
  have hfin := Lib.grown_fresh (T := BT) (e := U8) (cs := cs) hB hbk hBw (hmax (by unfold maxLen; omega)) (by decide)
  have HF := Lib.hid hfin
  clear hw hrun hle hmax hfin hb2 hlt
  go_enter Tryz.func156, Tryz.ntmps156
  go_wp2
  go_region
  all_goals (go_wp2; go_end0; exact ⟨rfl, HF.out⟩)
set_option maxHeartbeats 2000000 in
set_option maxRecDepth 1000000 in
theorem Grow_fresh (B b n : Nat) (w : World) (hB : B ≤ b) (hbk : w.heap[b]? = some (.cells #[.pointer none, .slice none 0 0] BT (0, 0))) (hBw : B ≤ w.heap.size) (hn : n ≤ 140737488355328) :
    Calls Tryz.prog 147 #[.pointer (some ⟨b, 0, none⟩), .int .i64 n] w fun e w' => e = .returned (.tuple #[]) ∧ Lib.BuilderAt BT U8 B b (.pointer (some ⟨b, 0, none⟩)) [] w' ∧ Below B w w' := by
  have hbk1 : (w.setCell ⟨b, 0, none⟩ (.pointer (some ⟨b, 0, none⟩))).heap[b]? = some (.cells #[.pointer (some ⟨b, 0, none⟩), .slice none 0 0] BT (0, 0)) := by
    simp [World.setCell, Array.getElem?_modify, hbk]
  have C := Lib.hid (copyCheck_fresh b w (by rw [Lib.cell_of_heap hbk]; rfl) (by simp [World.shape?, hbk]) (Lib.frozen_of_heap hbk 0))
  obtain ⟨W, hW⟩ : ∃ W, w.setCell ⟨b, 0, none⟩ (.pointer (some ⟨b, 0, none⟩)) = W := ⟨_, rfl⟩
  have hb1 : Below B w W := hW ▸ (Below.refl B w).setCell (p := ⟨b, 0, none⟩) hB _
  rw [hW] at hbk1 C
  have c1 : W.cell? ⟨b, 1, none⟩ = some (.slice none 0 0) := by rw [Lib.cell_of_heap hbk1]; rfl
  have hU : Lib.BuilderAt BT U8 B b (.pointer (some ⟨b, 0, none⟩)) [] W := ⟨hB, .slice none 0 0, hbk1, World.ownsRow_nil _ _ _ _, by simp [Value.ownBlock]⟩
  have G : ∀ k, Hid (Calls Tryz.prog 156 #[.pointer (some ⟨b, 0, none⟩), .int .i64 n] (W.drewN k) fun e w' => e = .returned (.tuple #[]) ∧ Lib.BuilderAt BT U8 B b (.pointer (some ⟨b, 0, none⟩)) [] w' ∧ Below B (W.drewN k) w') :=
    fun k => grow_fresh B b n (W.drewN k) hB hbk1 (by have := hb1.size; show B ≤ W.heap.size; omega) hn
  have HB := Lib.hid hb1
  have HU := Lib.hid hU
  clear hb1 hU hbk1 hbk hW hBw
  go_enter Tryz.func147, Tryz.ntmps147
  go_wp2_with (go_at_call 155; refine C.out.mono ?_; rintro e w' ⟨rfl, rfl⟩)
  go_quiet (fail)
  go_wp2_with (go_at_call 156; refine (G _).out.mono ?_; rintro e w2 ⟨rfl, h1, h2⟩)
  · go_end0
    exact ⟨rfl, h1, (HB.out.trans (below_drewN _ _ _)).trans h2⟩
  · go_end0
    exact ⟨rfl, HU.out, HB.out.trans (below_drewN _ _ _)⟩
end Go.Proofs.YtpecingkoodmfaaGreatDoor
/- The walk of strings.ToUpper on texts of bytes below 128. -/
namespace Go.Proofs.YtpecingkoodmfaaGreatDoor
open Go.RowKit
set_option linter.unusedSimpArgs false
set_option linter.unusedVariables false
/-- so far: C is written, the bytes from p on to k are as they were -/
def UpRel (l : List UInt8) (p k : Nat) (C : List UInt8) : Prop := p ≤ k ∧ k ≤ l.length ∧ C.length = p ∧ C ++ (l.drop p).take (k - p) = (l.take k).map Lib.upperB
theorem UpRel.start (l : List UInt8) : UpRel l 0 0 [] := ⟨Nat.le_refl _, Nat.zero_le _, rfl, by simp⟩
theorem UpRel.keep {l : List UInt8} {p k : Nat} {C : List UInt8} (h : UpRel l p k C) (hk : k < l.length) (hn : Lib.upperB l[k] = l[k]) : UpRel l p (k + 1) C := by
  obtain ⟨h1, h2, h3, h4⟩ := h
  refine ⟨by omega, by omega, h3, ?_⟩
  rw [List.take_succ_eq_append_getElem hk, List.map_append, ← h4, List.map_cons, hn, List.map_nil, List.append_assoc, show k + 1 - p = (k - p) + 1 from by omega]
  rw [List.take_succ_eq_append_getElem (by simp; omega)]
  congr 3
  simp [show p + (k - p) = k from by omega]
theorem UpRel.put {l : List UInt8} {p k : Nat} {C : List UInt8} (h : UpRel l p k C) (hk : k < l.length) : UpRel l (k + 1) (k + 1) (C ++ (l.drop p).take (k - p) ++ [Lib.upperB l[k]]) := by
  obtain ⟨h1, h2, h3, h4⟩ := h
  refine ⟨Nat.le_refl _, by omega, ?_, ?_⟩
  · rw [h4]; simp; omega
  · rw [Nat.sub_self, List.take_zero, List.append_nil, h4, List.take_succ_eq_append_getElem hk, List.map_append]; rfl
theorem UpRel.done {l : List UInt8} {p : Nat} {C : List UInt8} (h : UpRel l p l.length C) : C ++ l.drop p = l.map Lib.upperB := by
  obtain ⟨h1, h2, h3, h4⟩ := h
  rw [List.take_length] at h4
  rw [← h4, List.take_of_length_le (by simp)]
theorem lower_cases_up (c : UInt8) : (97 ≤ (c.toNat : Int) ∧ (c.toNat : Int) ≤ 122 ∧ Lib.isLowerB c = true ∧ ((Lib.upperB c).toNat : Int) = (c.toNat : Int) - 32) ∨ ((c.toNat : Int) < 97 ∧ Lib.isLowerB c = false ∧ Lib.upperB c = c) ∨ (122 < (c.toNat : Int) ∧ 97 ≤ (c.toNat : Int) ∧ Lib.isLowerB c = false ∧ Lib.upperB c = c) := by
  have e := Lib.isLowerB_int c
  by_cases h1 : 97 ≤ (c.toNat : Int)
  · by_cases h2 : (c.toNat : Int) ≤ 122
    · have h3 : Lib.isLowerB c = true := by rw [e]; simp [h1, h2]
      exact .inl ⟨h1, h2, h3, Lib.upperB_int c h3⟩
    · have h3 : Lib.isLowerB c = false := by rw [e]; simp [h2]
      exact .inr (.inr ⟨by omega, h1, h3, Lib.upperB_of_not c h3⟩)
  · have h3 : Lib.isLowerB c = false := by rw [e]; simp [h1]
    exact .inr (.inl ⟨by omega, h3, Lib.upperB_of_not c h3⟩)
theorem strCells_eq' (s : ByteArray) : Lib.strCells s = Lib.byteCells s.data.toList := rfl
set_option maxHeartbeats 8000000 in
set_option maxRecDepth 100000 in
theorem upper_any (s : ByteArray) (w : World) (hs : s.size ≤ 1000000) (ha : ∀ c ∈ s.data.toList, c.toNat < 128) :
    Calls Tryz.prog 139 #[.string s] w fun e w' => e = .returned (.string ⟨(s.data.toList.map Lib.upperB).toArray⟩) ∧ Below w.heap.size w w' := by
  have HA := Lib.hid ha
  have HZ := Lib.hid (show s.data.toList.length = s.size from Array.length_toList)
  clear ha
  go_enter Tryz.func139, Tryz.ntmps139
  go_wp2
  go_loop [3, 4, 5] (fun a h i => ∃ (k : Nat) (H : Bool), k ≤ s.size ∧ a = .bool true ∧ h = .bool H ∧ i = .int .i64 k ∧ Hid (H = (s.data.toList.take k).any Lib.isLowerB)) (fun _ _ i => s.size - (intOf i).toNat)
  case atStart => exact ⟨0, false, Nat.zero_le _, rfl, rfl, rfl, rfl⟩
  case round =>
    obtain ⟨k, H, hk, rfl, rfl, rfl, HH⟩ := hrel
    by_cases hlt : k < s.size
    · obtain ⟨c, hc⟩ : ∃ c, s[k] = c := ⟨_, rfl⟩
      have hb : s.data.toList[k]? = some c := by rw [Array.getElem?_toList, ← hc]; exact Array.getElem?_eq_getElem hlt
      have h128 : (c.toNat : Int) < 128 := by have := HA.out c (List.mem_of_getElem? hb); omega
      have hn := Lib.any_take_succ Lib.isLowerB _ _ _ hb
      rw [← HH.out] at hn
      have HN := Lib.hid hn
      clear hn hb
      rcases lower_cases_up c with ⟨h1, h2, h3, _⟩ | ⟨h1, h3, _⟩ | ⟨h1, h2, h3, _⟩
      all_goals
        rw [h3] at HN
        clear h3
        cases H
        all_goals
          go_wp2
          go_round
          case rel => exact ⟨k + 1, _, by omega, rfl, rfl, by go_num, by rw [Hid, HN.out]; first | rfl | (simp; done) | (simp; omega)⟩
          case measure => simp [intOf]; omega
    · obtain rfl : k = s.size := by omega
      have hall : s.data.toList.take s.size = s.data.toList := by rw [← HZ.out, List.take_length]
      rw [hall] at HH
      clear hall
      cases H
      · have HE := Lib.hid (Lib.map_of_none Lib.upperB Lib.isLowerB Lib.upperB_of_not s.data.toList HH.out.symm)
        clear HH
        go_wp2
        go_ret
        exact ⟨by rw [HE.out, Lib.mk_data]; rfl, Below.refl _ _⟩
      · clear HH
        have G := Lib.hid (Grow_fresh w.heap.size w.heap.size s.size (w.alloc (.cells #[.pointer none, .slice none 0 0] BT)) (Nat.le_refl _) (heap_alloc_new w _) (by simp) (by omega))
        go_wp2_with fail
        refine G.out.mono ?_
        rintro e w1 ⟨rfl, h1, hb1⟩
        have HB := Lib.hid (show Lib.IsBuilder BT U8 w.heap.size w.heap.size (Lib.byteCells []) w1 from .inr h1)
        have HW := Lib.hid (((Below.refl w.heap.size w).alloc (Nat.le_refl _) _).trans hb1)
        clear h1 hb1 G
        go_wp2
        go_loopg [8, 9] s.size (fun g p i wr => ∃ (a k : Nat) (C : List UInt8), g = s.size - k ∧ k ≤ s.size ∧ a ≤ k ∧ p = .int .i64 a ∧ i = .int .i64 k ∧ Hid (UpRel s.data.toList a k C) ∧ Hid (Lib.IsBuilder BT U8 w.heap.size w.heap.size (Lib.byteCells C) wr) ∧ Hid (Below w.heap.size w wr))
        case atStart => exact ⟨0, 0, [], rfl, Nat.zero_le _, Nat.le_refl _, rfl, rfl, UpRel.start _, HB, HW⟩
        case round =>
          obtain ⟨a, k, C, rfl, hk, hak, rfl, rfl, HR, HB1, HW1⟩ := hrel
          by_cases hlt : k < s.size
          · obtain ⟨c, hc⟩ : ∃ c, s[k] = c := ⟨_, rfl⟩
            have hkl : k < s.data.toList.length := by rw [HZ.out]; exact hlt
            have hg : s.data.toList[k] = c := by rw [← hc]; rfl
            have HGC := Lib.hid hg
            clear hg
            rcases lower_cases_up c with ⟨h1, h2, _, h3⟩ | ⟨h1, _, h3⟩ | ⟨h1, h2, _, h3⟩
            · have HP := Lib.hid (HR.out.put hkl)
              rw [HGC.out] at HP
              have HU := Lib.hid h3
              clear h3
              have hCl : C.length = a := HR.out.2.2.1
              have hsz := HW1.out.size
              have c32 : 0 ≤ (c.toNat : Int) - 32 := by omega
              by_cases hpk : a < k
              · have C1 := Lib.hid (writeString w.heap.size w.heap.size (Lib.byteCells C) (s.extract a k) wr HB1.out (by rw [Lib.byteCells_length, hCl, Lib.size_eq, Lib.extract_data, List.length_take, List.length_drop, HZ.out]; omega) hsz)
                clear hCl
                go_wp2_with fail
                refine C1.out.mono ?_
                rintro e w2 ⟨rfl, h4, hb2⟩
                have C2 := Lib.hid (writeByte w.heap.size w.heap.size _ ((c.toNat : Int) - 32) w2 h4 (by
                  have hCl : C.length = a := HR.out.2.2.1
                  rw [List.length_append, Lib.byteCells_length, hCl, Lib.strCells_length, Lib.size_eq, Lib.extract_data, List.length_take, List.length_drop, HZ.out]; omega) (by have := hb2.size; omega))
                have HW2 := Lib.hid (HW1.out.trans hb2)
                clear h4 hb2 C1
                go_wp2_with fail
                refine C2.out.mono ?_
                rintro e w3 ⟨rfl, h5, hb3⟩
                have H5 := Lib.hid h5
                have HW3 := Lib.hid (HW2.out.trans hb3)
                clear h5 hb3 C2
                go_wp2
                go_roundg (s.size - (k + 1))
                case measure => omega
                case rel => exact ⟨k + 1, k + 1, _, rfl, by omega, Nat.le_refl _, by go_num, by go_num, HP, Lib.hid (by
                  have h := H5.out
                  rw [← HU.out, strCells_eq', Lib.extract_data] at h
                  simpa [Lib.byteCells] using h), HW3⟩
              · obtain rfl : a = k := by omega
                have C2 := Lib.hid (writeByte w.heap.size w.heap.size _ ((c.toNat : Int) - 32) wr HB1.out (by rw [Lib.byteCells_length]; omega) hsz)
                clear hCl
                go_wp2_with fail
                refine C2.out.mono ?_
                rintro e w3 ⟨rfl, h5, hb3⟩
                have H5 := Lib.hid h5
                have HW3 := Lib.hid (HW1.out.trans hb3)
                clear h5 hb3 C2
                go_wp2
                go_roundg (s.size - (a + 1))
                case measure => omega
                case rel => exact ⟨a + 1, a + 1, _, rfl, by omega, Nat.le_refl _, by go_num, by go_num, HP, Lib.hid (by
                  have h := H5.out
                  rw [← HU.out] at h
                  simpa [Lib.byteCells] using h), HW3⟩
            · have HK := Lib.hid (HR.out.keep hkl (by rw [HGC.out]; exact h3))
              clear h3
              go_wp2
              go_roundg (s.size - (k + 1))
              case measure => omega
              case rel => exact ⟨a, k + 1, C, rfl, by omega, by omega, rfl, by go_num, HK, HB1, HW1⟩
            · have HK := Lib.hid (HR.out.keep hkl (by rw [HGC.out]; exact h3))
              clear h3
              go_wp2
              go_roundg (s.size - (k + 1))
              case measure => omega
              case rel => exact ⟨a, k + 1, C, rfl, by omega, by omega, rfl, by go_num, HK, HB1, HW1⟩
          · obtain rfl : k = s.size := by omega
            have hR := HR.out
            rw [← HZ.out] at hR
            have HD := Lib.hid hR.done
            have hCl : C.length = a := HR.out.2.2.1
            have hsz := HW1.out.size
            clear hR
            by_cases hpk : a < s.size
            · have hsx : (s.extract a s.size).data.toList = s.data.toList.drop a := by rw [Lib.extract_data, List.take_of_length_le (by simp)]
              have C1 := Lib.hid (writeString w.heap.size w.heap.size (Lib.byteCells C) (s.extract a s.size) wr HB1.out (by rw [Lib.byteCells_length, hCl, Lib.size_eq, hsx, List.length_drop, HZ.out]; omega) hsz)
              have HX := Lib.hid hsx
              clear hCl hsx
              go_wp2_with fail
              refine C1.out.mono ?_
              rintro e w2 ⟨rfl, h4, hb2⟩
              have C2 := Lib.hid (Tryz.Builder_String_any w.heap.size w.heap.size (s.data.toList.map Lib.upperB) w2 (by
                rw [strCells_eq', HX.out] at h4
                rw [← HD.out]
                simpa [Lib.byteCells] using h4) (by have := hb2.size; omega))
              have HW2 := Lib.hid (HW1.out.trans hb2)
              clear h4 hb2 C1
              go_wp2_with fail
              refine C2.out.mono ?_
              rintro e w3 ⟨rfl, hb3⟩
              go_wp2
              go_ret
              exact ⟨rfl, HW2.out.trans hb3⟩
            · have hd : s.data.toList.map Lib.upperB = C := by rw [← HD.out, List.drop_of_length_le (by rw [HZ.out]; omega), List.append_nil]
              have HE := Lib.hid hd
              have C2 := Lib.hid (Tryz.Builder_String_any w.heap.size w.heap.size C wr HB1.out hsz)
              clear hCl hd
              go_wp2_with fail
              refine C2.out.mono ?_
              rintro e w3 ⟨rfl, hb3⟩
              go_wp2
              go_ret
              exact ⟨by rw [HE.out]; rfl, HW1.out.trans hb3⟩
end Go.Proofs.YtpecingkoodmfaaGreatDoor
