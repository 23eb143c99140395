/- Walks of a strings.Builder of a call's own: WriteByte, grow, Grow. -/
import Derived.Test.YtcffbeihgchpgaaGreatDoorG14
import Derived.RegionTactic
import Derived.ChangeAlike
import Derived.Lib.MakeNoZero
import Derived.Lib.Builder
import Derived.Lib.Case
import Derived.Deep.LoopGhost
import Derived.Deep.DeepCutAuto
import Derived.Test.YtcffbeihgchpgaaGreatDoorG5
import Derived.Lib.ItoaNum
import Derived.Below
import Derived.Test.YtcffbeihgchpgaaGreatDoorG13
import Derived.Laws.BytesArg
namespace Go.Proofs.YtcffbeihgchpgaaGreatDoor
open Go.RowKit
set_option linter.unusedSimpArgs false
set_option linter.unusedVariables false
set_option maxHeartbeats 2000000 in
theorem writeByte (B b : Nat) (bs : List Value) (c : Int) (w : World) (h : Lib.IsBuilder BT U8 B b bs w) (hlen : bs.length + 1 ≤ 140737488355328) (hBw : B ≤ w.heap.size) :
    Calls Tryz.prog 201 #[.pointer (some ⟨b, 0, none⟩), .int .u8 c] w fun e w' => e = .returned .nilIface ∧ Lib.IsBuilder BT U8 B b (bs ++ [.int .u8 c]) w' ∧ Below B w w' := by
  obtain ⟨i0, hi, hz0, hz1, hz2⟩ := info_parts Tryz.infoByte
  have C := Lib.hid (copyCheck_any B b bs w h)
  clear h
  go_enter Tryz.func201, Tryz.ntmps201
  go_wp2_with (go_at_call 208; refine C.out.mono ?_)
  rintro e w1 ⟨rfl, h1, hb1⟩
  obtain ⟨hB, v, hbk, hown, hne⟩ := h1
  have c1 : w1.cell? ⟨b, 1, none⟩ = some v := by rw [Lib.cell_of_heap hbk]; rfl
  have hlt : b < w1.heap.size := by
    rcases Nat.lt_or_ge b w1.heap.size with h' | h'
    · exact h'
    · simp [Array.getElem?_eq_none h'] at hbk
  go_wp2_with (at_builtin; refine wpList_append_own _ rfl _ _ 77 rfl B U8 i0 (.int .u8 0) 1 1 Tryz.underlying77 hi hz0 hz1 hz2 rfl (by decide) _ _ _ rfl (hown.alloc _) ⟨w1.heap.size, 0, none⟩ 1 1 [.int .u8 c] rfl rfl ?c1 ?c2 ?c3 ?c4 ?c5 ?_)
  case c1 =>
    intro j u hj
    match j, hj with
    | 0, hj => simp at hj; subst hj; simp [Addr.add]
  case c2 => intro u hu; simp at hu; subst hu; rfl
  case c3 => unfold maxLen; omega
  case c4 => omega
  case c5 => have := hb1.size; simp; omega
  intro v' w2 hown' hgrow _
  have hlt2 : b < (w1.alloc (.cells #[.int .u8 c] U8)).heap.size := by simp; omega
  have hbk2 : (w1.alloc (.cells #[.int .u8 c] U8)).heap[b]? = some (.cells #[.pointer (some ⟨b, 0, none⟩), v] BT (0, 0)) := (Lib.alloc_old w1 _ b hlt).trans hbk
  have hb2 : w2.heap[b]? = some (.cells #[.pointer (some ⟨b, 0, none⟩), v] BT (0, 0)) := by
    rw [hgrow.block b hlt2 (fun e => hne e.symm)]
    exact hbk2
  have d0 : w2.cell? ⟨b, 0, none⟩ = some (.pointer (some ⟨b, 0, none⟩)) := by rw [Lib.cell_of_heap hb2]; rfl
  have d1 : w2.cell? ⟨b, 1, none⟩ = some v := by rw [Lib.cell_of_heap hb2]; rfl
  have f1 : w2.frozen? ⟨b, 1, none⟩ = false := Lib.frozen_of_heap hb2 1
  obtain ⟨ao, n', cap, rfl⟩ : ∃ ao n' cap, v' = .slice ao n' cap := by
    rcases hown'.2 with ⟨hv, _⟩ | ⟨g, cap, cur, hv, _⟩
    · exact ⟨_, _, _, hv⟩
    · exact ⟨_, _, _, hv⟩
  go_wp2
  go_ret
  refine ⟨rfl, .inr ?_, ?_⟩
  · exact Lib.BuilderAt.put (T := BT) (e := U8) hB hb2 (bs' := bs ++ [.int .u8 c]) (by simpa using hown') (by decide)
  · exact (((hb1.alloc (by have := hb1.size; omega) _)).grown hgrow (by have := hb1.size; simp; omega) (fun k hk => (hown.lt k hk).1)).setCell (p := ⟨b, 1, none⟩) hB _
theorem Tryz.sizeByte : (Tryz.prog.info? U8).map (·.size) = some 1 := by kernel_rfl
set_option maxHeartbeats 2000000 in
set_option maxRecDepth 1000000 in
theorem grow_fresh (B b n : Nat) (w : World) (hB : B ≤ b) (hbk : w.heap[b]? = some (.cells #[.pointer (some ⟨b, 0, none⟩), .slice none 0 0] BT (0, 0))) (hBw : B ≤ w.heap.size) (hn : n ≤ 140737488355328) :
    Calls Tryz.prog 209 #[.pointer (some ⟨b, 0, none⟩), .int .i64 n] w fun e w' => e = .returned (.tuple #[]) ∧ Lib.BuilderAt BT U8 B b (.pointer (some ⟨b, 0, none⟩)) [] w' ∧ Below B w w' := by
  obtain ⟨cs, hrun, hle, hmax⟩ := Lib.run_makeNoZero (P := Tryz.prog) w.drew #[3] 77 U8 Tryz.underlying77 n (by omega)
  have hw : IntKind.i64.wrap (IntKind.i64.wrap 0 + (n : Int)) = n := by
    rw [IntKind.wrap_i64, IntKind.wrap_i64]
    omega
  have hcall : (callFunc 221 #[.int .i64 (IntKind.i64.wrap (IntKind.i64.wrap 0 + (n : Int)))]).run Tryz.prog w.drew = .ok (.value (.slice (some ⟨w.drew.heap.size, 0, none⟩) n cs.size)) (w.drew.drew.drew.alloc (.cells cs U8)) := by
    rw [hw, run_callFunc_extern Tryz.func221 (by kernel_rfl) (by kernel_rfl) (by kernel_rfl) (e := Extern.BytealgMakeNoZero.makeNoZero #[3] #[77]) (by kernel_rfl), hrun]
    rfl
  have hlt : b < w.heap.size := by
    rcases Nat.lt_or_ge b w.heap.size with h' | h'
    · exact h'
    · simp [Array.getElem?_eq_none h'] at hbk
  have c1 : w.drew.cell? ⟨b, 1, none⟩ = some (.slice none 0 0) := by
    have : w.drew.heap[b]? = _ := hbk
    rw [Lib.cell_of_heap this]; rfl
  have hb2 : (w.alloc (.cells cs U8)).heap[b]? = some (.cells #[.pointer (some ⟨b, 0, none⟩), .slice none 0 0] BT (0, 0)) := (Lib.alloc_old w _ b hlt).trans hbk
  have c2 : (w.alloc (.cells cs U8)).cell? ⟨b, 1, none⟩ = some (.slice none 0 0) := by rw [Lib.cell_of_heap hb2]; rfl
  have f2 : (w.alloc (.cells cs U8)).frozen? ⟨b, 1, none⟩ = false := Lib.frozen_of_heap hb2 1
  have hcopy : ∀ W : World, (Builtin.copy_ #[77, 77] 3 #[.slice (some ⟨w.heap.size, 0, none⟩) 0 cs.size, .slice none 0 0]).run Tryz.prog W = .ok (goInt 0) W :=
    fun W => run_copy_none W 77 77 3 U8 _ _ 0 cs.size 0 0 Tryz.underlying77 Tryz.sizeByte rfl
  have hfin := Lib.grown_fresh (T := BT) (e := U8) (cs := cs) hB hbk hBw (hmax (by unfold maxLen; omega)) (by decide)
  have HF := Lib.hid hfin
  clear hw hrun hle hmax hfin hb2 hlt
  go_enter Tryz.func209, Tryz.ntmps209
  go_wp2
  go_region
  all_goals (go_wp2; go_end0; exact ⟨rfl, HF.out⟩)
set_option maxHeartbeats 2000000 in
set_option maxRecDepth 1000000 in
theorem Grow_fresh (B b n : Nat) (w : World) (hB : B ≤ b) (hbk : w.heap[b]? = some (.cells #[.pointer none, .slice none 0 0] BT (0, 0))) (hBw : B ≤ w.heap.size) (hn : n ≤ 140737488355328) :
    Calls Tryz.prog 199 #[.pointer (some ⟨b, 0, none⟩), .int .i64 n] w fun e w' => e = .returned (.tuple #[]) ∧ Lib.BuilderAt BT U8 B b (.pointer (some ⟨b, 0, none⟩)) [] w' ∧ Below B w w' := by
  have hbk1 : (w.setCell ⟨b, 0, none⟩ (.pointer (some ⟨b, 0, none⟩))).heap[b]? = some (.cells #[.pointer (some ⟨b, 0, none⟩), .slice none 0 0] BT (0, 0)) := by
    simp [World.setCell, Array.getElem?_modify, hbk]
  have C := Lib.hid (copyCheck_fresh b w (by rw [Lib.cell_of_heap hbk]; rfl) (by simp [World.shape?, hbk]) (Lib.frozen_of_heap hbk 0))
  obtain ⟨W, hW⟩ : ∃ W, w.setCell ⟨b, 0, none⟩ (.pointer (some ⟨b, 0, none⟩)) = W := ⟨_, rfl⟩
  have hb1 : Below B w W := hW ▸ (Below.refl B w).setCell (p := ⟨b, 0, none⟩) hB _
  rw [hW] at hbk1 C
  have c1 : W.cell? ⟨b, 1, none⟩ = some (.slice none 0 0) := by rw [Lib.cell_of_heap hbk1]; rfl
  have hU : Lib.BuilderAt BT U8 B b (.pointer (some ⟨b, 0, none⟩)) [] W := ⟨hB, .slice none 0 0, hbk1, World.ownsRow_nil _ _ _ _, by simp [Value.ownBlock]⟩
  have G : ∀ k, Hid (Calls Tryz.prog 209 #[.pointer (some ⟨b, 0, none⟩), .int .i64 n] (W.drewN k) fun e w' => e = .returned (.tuple #[]) ∧ Lib.BuilderAt BT U8 B b (.pointer (some ⟨b, 0, none⟩)) [] w' ∧ Below B (W.drewN k) w') :=
    fun k => grow_fresh B b n (W.drewN k) hB hbk1 (by have := hb1.size; show B ≤ W.heap.size; omega) hn
  have HB := Lib.hid hb1
  have HU := Lib.hid hU
  clear hb1 hU hbk1 hbk hW hBw
  go_enter Tryz.func199, Tryz.ntmps199
  go_wp2_with (go_at_call 208; refine C.out.mono ?_; rintro e w' ⟨rfl, rfl⟩)
  go_quiet (fail)
  go_wp2_with (go_at_call 209; refine (G _).out.mono ?_; rintro e w2 ⟨rfl, h1, h2⟩)
  · go_end0
    exact ⟨rfl, h1, (HB.out.trans (below_drewN _ _ _)).trans h2⟩
  · go_end0
    exact ⟨rfl, HU.out, HB.out.trans (below_drewN _ _ _)⟩
end Go.Proofs.YtcffbeihgchpgaaGreatDoor
/- The walk of strings.ToUpper on texts of bytes below 128. -/
namespace Go.Proofs.YtcffbeihgchpgaaGreatDoor
open Go.RowKit
set_option linter.unusedSimpArgs false
set_option linter.unusedVariables false
/-- so far: C is written, the bytes from p on to k are as they were -/
def UpRel (l : List UInt8) (p k : Nat) (C : List UInt8) : Prop := p ≤ k ∧ k ≤ l.length ∧ C.length = p ∧ C ++ (l.drop p).take (k - p) = (l.take k).map Lib.upperB
theorem UpRel.start (l : List UInt8) : UpRel l 0 0 [] := ⟨Nat.le_refl _, Nat.zero_le _, rfl, by simp⟩
theorem UpRel.keep {l : List UInt8} {p k : Nat} {C : List UInt8} (h : UpRel l p k C) (hk : k < l.length) (hn : Lib.upperB l[k] = l[k]) : UpRel l p (k + 1) C := by
  obtain ⟨h1, h2, h3, h4⟩ := h
  refine ⟨by omega, by omega, h3, ?_⟩
  rw [List.take_succ_eq_append_getElem hk, List.map_append, ← h4, List.map_cons, hn, List.map_nil, List.append_assoc, show k + 1 - p = (k - p) + 1 from by omega]
  rw [List.take_succ_eq_append_getElem (by simp; omega)]
  congr 3
  simp [show p + (k - p) = k from by omega]
theorem UpRel.put {l : List UInt8} {p k : Nat} {C : List UInt8} (h : UpRel l p k C) (hk : k < l.length) : UpRel l (k + 1) (k + 1) (C ++ (l.drop p).take (k - p) ++ [Lib.upperB l[k]]) := by
  obtain ⟨h1, h2, h3, h4⟩ := h
  refine ⟨Nat.le_refl _, by omega, ?_, ?_⟩
  · rw [h4]; simp; omega
  · rw [Nat.sub_self, List.take_zero, List.append_nil, h4, List.take_succ_eq_append_getElem hk, List.map_append]; rfl
theorem UpRel.done {l : List UInt8} {p : Nat} {C : List UInt8} (h : UpRel l p l.length C) : C ++ l.drop p = l.map Lib.upperB := by
  obtain ⟨h1, h2, h3, h4⟩ := h
  rw [List.take_length] at h4
  rw [← h4, List.take_of_length_le (by simp)]
theorem lower_cases_up (c : UInt8) : (97 ≤ (c.toNat : Int) ∧ (c.toNat : Int) ≤ 122 ∧ Lib.isLowerB c = true ∧ ((Lib.upperB c).toNat : Int) = (c.toNat : Int) - 32) ∨ ((c.toNat : Int) < 97 ∧ Lib.isLowerB c = false ∧ Lib.upperB c = c) ∨ (122 < (c.toNat : Int) ∧ 97 ≤ (c.toNat : Int) ∧ Lib.isLowerB c = false ∧ Lib.upperB c = c) := by
  have e := Lib.isLowerB_int c
  by_cases h1 : 97 ≤ (c.toNat : Int)
  · by_cases h2 : (c.toNat : Int) ≤ 122
    · have h3 : Lib.isLowerB c = true := by rw [e]; simp [h1, h2]
      exact .inl ⟨h1, h2, h3, Lib.upperB_int c h3⟩
    · have h3 : Lib.isLowerB c = false := by rw [e]; simp [h2]
      exact .inr (.inr ⟨by omega, h1, h3, Lib.upperB_of_not c h3⟩)
  · have h3 : Lib.isLowerB c = false := by rw [e]; simp [h1]
    exact .inr (.inl ⟨by omega, h3, Lib.upperB_of_not c h3⟩)
theorem strCells_eq' (s : ByteArray) : Lib.strCells s = Lib.byteCells s.data.toList := rfl
set_option maxHeartbeats 8000000 in
set_option maxRecDepth 100000 in
theorem upper_any (s : ByteArray) (w : World) (hs : s.size ≤ 1000000) (ha : ∀ c ∈ s.data.toList, c.toNat < 128) :
    Calls Tryz.prog 188 #[.string s] w fun e w' => e = .returned (.string ⟨(s.data.toList.map Lib.upperB).toArray⟩) ∧ Below w.heap.size w w' := by
  have HA := Lib.hid ha
  have HZ := Lib.hid (show s.data.toList.length = s.size from Array.length_toList)
  clear ha
  go_enter Tryz.func188, Tryz.ntmps188
  go_wp2
  go_loop [3, 4, 5] (fun a h i => ∃ (k : Nat) (H : Bool), k ≤ s.size ∧ a = .bool true ∧ h = .bool H ∧ i = .int .i64 k ∧ Hid (H = (s.data.toList.take k).any Lib.isLowerB)) (fun _ _ i => s.size - (intOf i).toNat)
  case atStart => exact ⟨0, false, Nat.zero_le _, rfl, rfl, rfl, rfl⟩
  case round =>
    obtain ⟨k, H, hk, rfl, rfl, rfl, HH⟩ := hrel
    by_cases hlt : k < s.size
    · obtain ⟨c, hc⟩ : ∃ c, s[k] = c := ⟨_, rfl⟩
      have hb : s.data.toList[k]? = some c := by rw [Array.getElem?_toList, ← hc]; exact Array.getElem?_eq_getElem hlt
      have h128 : (c.toNat : Int) < 128 := by have := HA.out c (List.mem_of_getElem? hb); omega
      have hn := Lib.any_take_succ Lib.isLowerB _ _ _ hb
      rw [← HH.out] at hn
      have HN := Lib.hid hn
      clear hn hb
      rcases lower_cases_up c with ⟨h1, h2, h3, _⟩ | ⟨h1, h3, _⟩ | ⟨h1, h2, h3, _⟩
      all_goals
        rw [h3] at HN
        clear h3
        cases H
        all_goals
          go_wp2
          go_round
          case rel => exact ⟨k + 1, _, by omega, rfl, rfl, by go_num, by rw [Hid, HN.out]; first | rfl | (simp; done) | (simp; omega)⟩
          case measure => simp [intOf]; omega
    · obtain rfl : k = s.size := by omega
      have hall : s.data.toList.take s.size = s.data.toList := by rw [← HZ.out, List.take_length]
      rw [hall] at HH
      clear hall
      cases H
      · have HE := Lib.hid (Lib.map_of_none Lib.upperB Lib.isLowerB Lib.upperB_of_not s.data.toList HH.out.symm)
        clear HH
        go_wp2
        go_ret
        exact ⟨by rw [HE.out, Lib.mk_data]; rfl, Below.refl _ _⟩
      · clear HH
        have G := Lib.hid (Grow_fresh w.heap.size w.heap.size s.size (w.alloc (.cells #[.pointer none, .slice none 0 0] BT)) (Nat.le_refl _) (heap_alloc_new w _) (by simp) (by omega))
        go_wp2_with fail
        refine G.out.mono ?_
        rintro e w1 ⟨rfl, h1, hb1⟩
        have HB := Lib.hid (show Lib.IsBuilder BT U8 w.heap.size w.heap.size (Lib.byteCells []) w1 from .inr h1)
        have HW := Lib.hid (((Below.refl w.heap.size w).alloc (Nat.le_refl _) _).trans hb1)
        clear h1 hb1 G
        go_wp2
        go_loopg [8, 9] s.size (fun g p i wr => ∃ (a k : Nat) (C : List UInt8), g = s.size - k ∧ k ≤ s.size ∧ a ≤ k ∧ p = .int .i64 a ∧ i = .int .i64 k ∧ Hid (UpRel s.data.toList a k C) ∧ Hid (Lib.IsBuilder BT U8 w.heap.size w.heap.size (Lib.byteCells C) wr) ∧ Hid (Below w.heap.size w wr))
        case atStart => exact ⟨0, 0, [], rfl, Nat.zero_le _, Nat.le_refl _, rfl, rfl, UpRel.start _, HB, HW⟩
        case round =>
          obtain ⟨a, k, C, rfl, hk, hak, rfl, rfl, HR, HB1, HW1⟩ := hrel
          by_cases hlt : k < s.size
          · obtain ⟨c, hc⟩ : ∃ c, s[k] = c := ⟨_, rfl⟩
            have hkl : k < s.data.toList.length := by rw [HZ.out]; exact hlt
            have hg : s.data.toList[k] = c := by rw [← hc]; rfl
            have HGC := Lib.hid hg
            clear hg
            rcases lower_cases_up c with ⟨h1, h2, _, h3⟩ | ⟨h1, _, h3⟩ | ⟨h1, h2, _, h3⟩
            · have HP := Lib.hid (HR.out.put hkl)
              rw [HGC.out] at HP
              have HU := Lib.hid h3
              clear h3
              have hCl : C.length = a := HR.out.2.2.1
              have hsz := HW1.out.size
              have c32 : 0 ≤ (c.toNat : Int) - 32 := by omega
              by_cases hpk : a < k
              · have C1 := Lib.hid (writeString w.heap.size w.heap.size (Lib.byteCells C) (s.extract a k) wr HB1.out (by rw [Lib.byteCells_length, hCl, Lib.size_eq, Lib.extract_data, List.length_take, List.length_drop, HZ.out]; omega) hsz)
                clear hCl
                go_wp2_with fail
                refine C1.out.mono ?_
                rintro e w2 ⟨rfl, h4, hb2⟩
                have C2 := Lib.hid (writeByte w.heap.size w.heap.size _ ((c.toNat : Int) - 32) w2 h4 (by
                  have hCl : C.length = a := HR.out.2.2.1
                  rw [List.length_append, Lib.byteCells_length, hCl, Lib.strCells_length, Lib.size_eq, Lib.extract_data, List.length_take, List.length_drop, HZ.out]; omega) (by have := hb2.size; omega))
                have HW2 := Lib.hid (HW1.out.trans hb2)
                clear h4 hb2 C1
                go_wp2_with fail
                refine C2.out.mono ?_
                rintro e w3 ⟨rfl, h5, hb3⟩
                have H5 := Lib.hid h5
                have HW3 := Lib.hid (HW2.out.trans hb3)
                clear h5 hb3 C2
                go_wp2
                go_roundg (s.size - (k + 1))
                case measure => omega
                case rel => exact ⟨k + 1, k + 1, _, rfl, by omega, Nat.le_refl _, by go_num, by go_num, HP, Lib.hid (by
                  have h := H5.out
                  rw [← HU.out, strCells_eq', Lib.extract_data] at h
                  simpa [Lib.byteCells] using h), HW3⟩
              · obtain rfl : a = k := by omega
                have C2 := Lib.hid (writeByte w.heap.size w.heap.size _ ((c.toNat : Int) - 32) wr HB1.out (by rw [Lib.byteCells_length]; omega) hsz)
                clear hCl
                go_wp2_with fail
                refine C2.out.mono ?_
                rintro e w3 ⟨rfl, h5, hb3⟩
                have H5 := Lib.hid h5
                have HW3 := Lib.hid (HW1.out.trans hb3)
                clear h5 hb3 C2
                go_wp2
                go_roundg (s.size - (a + 1))
                case measure => omega
                case rel => exact ⟨a + 1, a + 1, _, rfl, by omega, Nat.le_refl _, by go_num, by go_num, HP, Lib.hid (by
                  have h := H5.out
                  rw [← HU.out] at h
                  simpa [Lib.byteCells] using h), HW3⟩
            · have HK := Lib.hid (HR.out.keep hkl (by rw [HGC.out]; exact h3))
              clear h3
              go_wp2
              go_roundg (s.size - (k + 1))
              case measure => omega
              case rel => exact ⟨a, k + 1, C, rfl, by omega, by omega, rfl, by go_num, HK, HB1, HW1⟩
            · have HK := Lib.hid (HR.out.keep hkl (by rw [HGC.out]; exact h3))
              clear h3
              go_wp2
              go_roundg (s.size - (k + 1))
              case measure => omega
              case rel => exact ⟨a, k + 1, C, rfl, by omega, by omega, rfl, by go_num, HK, HB1, HW1⟩
          · obtain rfl : k = s.size := by omega
            have hR := HR.out
            rw [← HZ.out] at hR
            have HD := Lib.hid hR.done
            have hCl : C.length = a := HR.out.2.2.1
            have hsz := HW1.out.size
            clear hR
            by_cases hpk : a < s.size
            · have hsx : (s.extract a s.size).data.toList = s.data.toList.drop a := by rw [Lib.extract_data, List.take_of_length_le (by simp)]
              have C1 := Lib.hid (writeString w.heap.size w.heap.size (Lib.byteCells C) (s.extract a s.size) wr HB1.out (by rw [Lib.byteCells_length, hCl, Lib.size_eq, hsx, List.length_drop, HZ.out]; omega) hsz)
              have HX := Lib.hid hsx
              clear hCl hsx
              go_wp2_with fail
              refine C1.out.mono ?_
              rintro e w2 ⟨rfl, h4, hb2⟩
              have C2 := Lib.hid (Tryz.Builder_String_any w.heap.size w.heap.size (s.data.toList.map Lib.upperB) w2 (by
                rw [strCells_eq', HX.out] at h4
                rw [← HD.out]
                simpa [Lib.byteCells] using h4) (by have := hb2.size; omega))
              have HW2 := Lib.hid (HW1.out.trans hb2)
              clear h4 hb2 C1
              go_wp2_with fail
              refine C2.out.mono ?_
              rintro e w3 ⟨rfl, hb3⟩
              go_wp2
              go_ret
              exact ⟨rfl, HW2.out.trans hb3⟩
            · have hd : s.data.toList.map Lib.upperB = C := by rw [← HD.out, List.drop_of_length_le (by rw [HZ.out]; omega), List.append_nil]
              have HE := Lib.hid hd
              have C2 := Lib.hid (Tryz.Builder_String_any w.heap.size w.heap.size C wr HB1.out hsz)
              clear hCl hd
              go_wp2_with fail
              refine C2.out.mono ?_
              rintro e w3 ⟨rfl, hb3⟩
              go_wp2
              go_ret
              exact ⟨by rw [HE.out]; rfl, HW1.out.trans hb3⟩
end Go.Proofs.YtcffbeihgchpgaaGreatDoor
/- The walks of strconv.FormatInt in every base, and of digits.Put. -/
namespace Go.Proofs.YtcffbeihgchpgaaGreatDoor
open Go.RowKit
set_option linter.unusedSimpArgs false
set_option linter.unusedVariables false
/-- the table of powers of ten, as the row lists it -/
def Tens (w : World) : Prop := Lib.TabIs Tryz.prog w "internal/strconv.uint64pow10" .u64 Lib.pow10Tab
theorem grow_below' {B : Nat} (w : World) (h : B ≤ w.heap.size) (k : Nat) (os : Array Obj) : Below B w (Go.Sort.grow (w.drewN k) os) := by
  refine ⟨rfl, rfl, rfl, ?_, ?_⟩
  · show w.heap.size ≤ (w.heap ++ os).size
    simp
  · intro j hj
    show (w.heap ++ os)[j]? = w.heap[j]?
    rw [Array.getElem?_append_left (by omega)]
set_option maxHeartbeats 1000000 in
theorem inner_other (v : Int) (b : Nat) (h2 : 2 ≤ b) (h36 : b ≤ 36) (h10 : ((b : Int) == 10) = false) (v0 : -9223372036854775808 ≤ v) (v1 : v ≤ 9223372036854775807) (w : World) (hw : Zeros w) :
    Calls Tryz.prog 205 #[.int .i64 v, .int .i64 b] w fun e w' => e = .returned (txt (Dig.putV Dig.loD v b)) ∧ Below w.heap.size w w' := by
  by_cases hn : v < 0
  · obtain ⟨U, rfl⟩ : ∃ U : Nat, v = -(U : Int) := ⟨v.natAbs, by omega⟩
    have hU : (-(U : Int)).natAbs = U := by omega
    have HP := Lib.hid (show Dig.putV Dig.loD (-(U : Int)) b = sg true ++ Dig.digs Dig.loD b U from by unfold Dig.putV Dig.sgn; rw [if_pos hn, hU]; rfl)
    have F := Lib.hid (format_any U b true (IntKind.u64.wrap (-(U : Int))) (.inr ⟨rfl, neg_u64 (by omega)⟩) h2 h36 h10 (by omega) w hw)
    clear hU hw
    go_enter Tryz.func205, Tryz.ntmps205
    go_wp2_with fail
    rw [show decide (0 < U) = true from by rw [decide_eq_true_eq]; omega]
    refine F.out.mono ?_
    rintro e w1 ⟨rfl, hb⟩
    go_wp2
    go_ret
    exact ⟨by rw [HP.out]; rfl, hb⟩
  · obtain ⟨U, rfl⟩ : ∃ U : Nat, v = (U : Int) := ⟨v.natAbs, by omega⟩
    have hU : (U : Int).natAbs = U := by omega
    have HP := Lib.hid (show Dig.putV Dig.loD (U : Int) b = sg false ++ Dig.digs Dig.loD b U from by unfold Dig.putV Dig.sgn; rw [if_neg hn, hU]; rfl)
    have F := Lib.hid (format_any U b false U (.inl ⟨rfl, rfl⟩) h2 h36 h10 (by omega) w hw)
    clear hU hw
    go_enter Tryz.func205, Tryz.ntmps205
    go_wp2_with fail
    refine F.out.mono ?_
    rintro e w1 ⟨rfl, hb⟩
    go_wp2
    go_ret
    exact ⟨by rw [HP.out]; rfl, hb⟩
theorem inner_any (v : Int) (b : Nat) (h2 : 2 ≤ b) (h36 : b ≤ 36) (v0 : -9223372036854775808 ≤ v) (v1 : v ≤ 9223372036854775807) (w : World) (hw : Zeros w) (ht : Tens w) :
    Calls Tryz.prog 205 #[.int .i64 v, .int .i64 b] w fun e w' => e = .returned (txt (Dig.putV Dig.loD v b)) ∧ Below w.heap.size w w' := by
  by_cases h : b = 10
  · subst h
    have h := (Tryz.internal_strconv_FormatInt_10 v v0 v1 w ht).mono fun e w' ⟨h1, k, os, h2⟩ => (⟨h1, h2 ▸ grow_below' w (Nat.le_refl _) k os⟩ : e = Ending.returned (.string ⟨(Lib.itoa v).toArray⟩) ∧ Below w.heap.size w w')
    rw [Dig.itoa_put (Dig.abs_lt v0 v1)] at h
    exact h
  · exact inner_other v b h2 h36 (by rw [beq_eq_false_iff_ne]; omega) v0 v1 w hw
theorem format_int (v : Int) (b : Nat) (h2 : 2 ≤ b) (h36 : b ≤ 36) (v0 : -9223372036854775808 ≤ v) (v1 : v ≤ 9223372036854775807) (w : World) (hw : Zeros w) (ht : Tens w) :
    Calls Tryz.prog 189 #[.int .i64 v, .int .i64 b] w fun e w' => e = .returned (txt (Dig.putV Dig.loD v b)) ∧ Below w.heap.size w w' := by
  have F := Lib.hid (inner_any v b h2 h36 v0 v1 w hw ht)
  clear hw ht
  go_enter Tryz.func189, Tryz.ntmps189
  go_wp2_with fail
  refine F.out.mono ?_
  rintro e w1 ⟨rfl, hb⟩
  go_wp2
  go_ret
  exact ⟨rfl, hb⟩
theorem put_right (v : Int) (b : Nat) (h2 : 2 ≤ b) (h36 : b ≤ 36) (v0 : -9223372036854775808 ≤ v) (v1 : v ≤ 9223372036854775807) (w : World) (hw : Zeros w) (ht : Tens w) :
    Calls Tryz.prog 178 #[.int .i64 v, .int .i64 b] w fun e w' => e = .returned (txt (Dig.putV Dig.upD v b)) ∧ Below w.heap.size w w' := by
  have F := Lib.hid (format_int v b h2 h36 v0 v1 w hw ht)
  have R := Lib.hid (right_yes b (by simp [Dig.rightB]; omega))
  have hl := Dig.put_length Dig.loD v b (by omega) (Dig.abs_lt v0 v1)
  have T := fun w1 : World => Lib.hid (upper_any ⟨(Dig.putV Dig.loD v b).toArray⟩ w1 (by show (Dig.putV Dig.loD v b).toArray.size ≤ 1000000; simp; omega) (Dig.put_ascii v b (by omega) (by omega)))
  have HU := Lib.hid (Dig.put_upper v b (by omega) (by omega))
  clear hw ht hl
  go_enter Tryz.func178, Tryz.ntmps178
  go_wp2_with (go_at_call 187; refine (R.out _).mono ?_; rintro e w' ⟨rfl, rfl⟩)
  refine F.out.mono ?_
  rintro e w1 ⟨rfl, hb⟩
  go_wp2_with fail
  refine (T _).out.mono ?_
  rintro e w2 ⟨rfl, hb2⟩
  go_wp2
  go_ret
  exact ⟨congrArg (fun x => Ending.returned (txt x)) HU.out, hb.trans (hb2.mono hb.size)⟩
theorem put_wrong (v b : Int) (hb : Dig.rightB b = false) (w : World) :
    Calls Tryz.prog 178 #[.int .i64 v, .int .i64 b] w fun e w' => e = .returned (txt []) ∧ Below w.heap.size w w' := by
  have R := Lib.hid (right_no b hb)
  clear hb
  go_enter Tryz.func178, Tryz.ntmps178
  go_wp2_with (go_at_call 187; refine (R.out _).mono ?_; rintro e w' ⟨rfl, rfl⟩)
  go_ret
  exact ⟨rfl, Below.refl _ _⟩
theorem put_any (v b : Int) (v0 : -9223372036854775808 ≤ v) (v1 : v ≤ 9223372036854775807) (w : World) (hw : Zeros w) (ht : Tens w) :
    Calls Tryz.prog 178 #[.int .i64 v, .int .i64 b] w fun e w' => e = .returned (txt (putT v b)) ∧ Below w.heap.size w w' := by
  unfold putT
  cases hb : Dig.rightB b with
  | false => exact put_wrong v b hb w
  | true =>
    simp only [Dig.rightB, Bool.and_eq_true, decide_eq_true_eq] at hb
    obtain ⟨n, rfl⟩ := Int.eq_ofNat_of_zero_le (show 0 ≤ b by omega)
    exact put_right v n (by omega) (by omega) v0 v1 w hw ht
theorem wf_range {c : Int} (hn : (Lit.int .i64 c).wf = true) : -9223372036854775808 ≤ c ∧ c ≤ 9223372036854775807 := by
  simp only [Lit.wf, IntKind.min, IntKind.max, IntKind.signed, IntKind.bits, Bool.and_eq_true, decide_eq_true_eq, if_true] at hn
  omega
theorem byte_of {z : Int} (h : (Lit.int .u8 z).wf = true) : ∃ c : UInt8, z = (c.toNat : Int) := by
  simp only [Lit.wf, IntKind.min, IntKind.max, IntKind.signed, IntKind.bits, Bool.and_eq_true, decide_eq_true_eq, Bool.false_eq_true, if_false] at h
  refine ⟨UInt8.ofNat z.toNat, ?_⟩
  rw [UInt8.toNat_ofNat']
  omega
theorem tab_mono {w w' : World} {name : String} {k : IntKind} {zs : List Int} {g : Nat} (hg : Tryz.prog.globalNamed name = some g) (h : Lib.TabIs Tryz.prog w name k zs) (hb : Below w.heap.size w w') : Lib.TabIs Tryz.prog w' name k zs := by
  unfold Lib.TabIs World.var? at *
  rw [hg, Option.bind_some] at h ⊢
  have hl : g < w.heap.size := by
    rcases Nat.lt_or_ge g w.heap.size with h0 | h0
    · exact h0
    · rw [Array.getElem?_eq_none h0] at h; cases h
  rw [hb.block _ hl]; exact h
theorem Tryz.gt : Tryz.prog.globalNamed "internal/strconv.uint64pow10" = some 3 := by kernel_rfl
theorem Zeros.mono {w w' : World} (h : Zeros w) (hb : Below w.heap.size w w') : Zeros w' := tab_mono Tryz.gz h hb
theorem Tens.mono {w w' : World} (h : Tens w) (hb : Below w.heap.size w w') : Tens w' := tab_mono Tryz.gt h hb
end Go.Proofs.YtcffbeihgchpgaaGreatDoor
/- The texts of codes (P202), in plain lists of bytes, no program: two codes have one text only if they are one code. -/
namespace Go.Proofs.YtcffbeihgchpgaaGreatDoor
def fixedTexts : List (Int × List UInt8) := [
  (-3, [115, 116, 97, 99, 107, 32, 111, 118, 101, 114, 102, 108, 111, 119]),
  (-4, [115, 116, 97, 99, 107, 32, 117, 110, 100, 101, 114, 102, 108, 111, 119]),
  (-5, [114, 101, 116, 117, 114, 110, 32, 115, 116, 97, 99, 107, 32, 111, 118, 101, 114, 102, 108, 111, 119]),
  (-6, [114, 101, 116, 117, 114, 110, 32, 115, 116, 97, 99, 107, 32, 117, 110, 100, 101, 114, 102, 108, 111, 119]),
  (-8, [100, 105, 99, 116, 105, 111, 110, 97, 114, 121, 32, 111, 118, 101, 114, 102, 108, 111, 119]),
  (-9, [105, 110, 118, 97, 108, 105, 100, 32, 97, 100, 100, 114, 101, 115, 115]),
  (-10, [100, 105, 118, 105, 115, 105, 111, 110, 32, 98, 121, 32, 122, 101, 114, 111]),
  (-13, [117, 110, 100, 101, 102, 105, 110, 101, 100, 32, 119, 111, 114, 100]),
  (-14, [99, 111, 109, 112, 105, 108, 101, 45, 111, 110, 108, 121, 32, 119, 111, 114, 100]),
  (-16, [110, 111, 32, 110, 97, 109, 101]),
  (-22, [99, 111, 110, 116, 114, 111, 108, 32, 109, 105, 115, 109, 97, 116, 99, 104]),
  (-25, [98, 114, 111, 107, 101, 110, 32, 99, 97, 116, 99, 104]),
  (-57, [111, 117, 116, 112, 117, 116, 32, 102, 117, 108, 108])]
def throwText : List UInt8 := [116, 104, 114, 111, 119, 32]
def textOf (c : Int) : List UInt8 := match fixedTexts.lookup c with
  | some t => t
  | none => throwText ++ Lib.itoa c
def Other (c : Int) : Prop := c ≠ -3 ∧ c ≠ -4 ∧ c ≠ -5 ∧ c ≠ -6 ∧ c ≠ -8 ∧ c ≠ -9 ∧ c ≠ -10 ∧ c ≠ -13 ∧ c ≠ -14 ∧ c ≠ -16 ∧ c ≠ -22 ∧ c ≠ -25 ∧ c ≠ -57
theorem code_cases (c : Int) : c = -3 ∨ c = -4 ∨ c = -5 ∨ c = -6 ∨ c = -8 ∨ c = -9 ∨ c = -10 ∨ c = -13 ∨ c = -14 ∨ c = -16 ∨ c = -22 ∨ c = -25 ∨ c = -57 ∨ Other c := by
  unfold Other; omega
theorem lookup_other {c : Int} (h : Other c) : fixedTexts.lookup c = none := by
  obtain ⟨h1, h2, h3, h4, h5, h6, h7, h8, h9, h10, h11, h12, h13⟩ := h
  have e : ∀ {k : Int}, c ≠ k → (c == k) = false := fun h => by simpa using h
  simp [fixedTexts, List.lookup, e h1, e h2, e h3, e h4, e h5, e h6, e h7, e h8, e h9, e h10, e h11, e h12, e h13]
theorem textOf_other {c : Int} (h : Other c) : textOf c = throwText ++ Lib.itoa c := by unfold textOf; rw [lookup_other h]
theorem lookup_some {c : Int} {t : List UInt8} (h : fixedTexts.lookup c = some t) : t ∈ fixedTexts.map (·.2) ∧ (c, t) ∈ fixedTexts := by
  have : ∀ l : List (Int × List UInt8), l.lookup c = some t → (c, t) ∈ l := by
    intro l
    induction l with
    | nil => intro h; cases h
    | cons p r ih =>
      obtain ⟨k, u⟩ := p
      intro h
      rw [List.lookup_cons] at h
      by_cases hk : c == k
      · rw [hk] at h; simp at h hk; subst h; subst hk; exact List.mem_cons_self ..
      · simp at hk
        have : (c == k) = false := by simpa using hk
        rw [this] at h; exact List.mem_cons_of_mem _ (ih h)
  exact ⟨List.mem_map.2 ⟨_, this _ h, rfl⟩, this _ h⟩
theorem fixed_apart : ∀ p ∈ fixedTexts, ∀ q ∈ fixedTexts, p.2 = q.2 → p.1 = q.1 := by decide
theorem fixed_head : ∀ p ∈ fixedTexts, p.2.head? ≠ some 116 ∧ p.2 ≠ [] := by decide
theorem textOf_ne (c : Int) : textOf c ≠ [] := by
  unfold textOf
  cases h : fixedTexts.lookup c with
  | none => simp [throwText]
  | some t => exact (fixed_head _ (lookup_some h).2).2
def readDec (l : List UInt8) : Nat := l.foldl (fun n b => 10 * n + (b.toNat - 48)) 0
theorem readDec_dec (u : Nat) : readDec (Lib.decDigits u) = u := by
  induction u using Nat.strongRecOn with
  | _ u ih =>
    rw [Lib.decDigits]
    by_cases h : u < 10
    · rw [dif_pos h]
      show 10 * 0 + ((UInt8.ofNat (48 + u)).toNat - 48) = u
      rw [UInt8.toNat_ofNat']; omega
    · rw [dif_neg h]
      unfold readDec at ih ⊢
      rw [List.foldl_append, ih (u / 10) (by omega)]
      show 10 * (u / 10) + ((UInt8.ofNat (48 + u % 10)).toNat - 48) = u
      rw [UInt8.toNat_ofNat']; omega
theorem dec_head (u : Nat) : (Lib.decDigits u).head? ≠ some 45 := by
  induction u using Nat.strongRecOn with
  | _ u ih =>
    rw [Lib.decDigits]
    by_cases h : u < 10
    · rw [dif_pos h]
      intro e
      have := congrArg (fun o : Option UInt8 => o.map UInt8.toNat) e
      simp [UInt8.toNat_ofNat'] at this
      omega
    · rw [dif_neg h]
      have h1 := ih (u / 10) (by omega)
      cases hd : Lib.decDigits (u / 10) with
      | nil => have := readDec_dec (u / 10); rw [hd] at this; simp [readDec] at this; omega
      | cons x r => rw [hd] at h1; simpa using h1
theorem dec_inj {u v : Nat} (h : Lib.decDigits u = Lib.decDigits v) : u = v := by
  have := congrArg readDec h
  rwa [readDec_dec, readDec_dec] at this
theorem itoa_inj' {a b : Int} (h : Lib.itoa a = Lib.itoa b) : a = b := by
  unfold Lib.itoa at h
  by_cases ha : a < 0 <;> by_cases hb : b < 0
  · rw [if_pos ha, if_pos hb] at h
    have := dec_inj (List.cons.inj h).2
    omega
  · rw [if_pos ha, if_neg hb] at h
    exact absurd (by rw [← h]; rfl) (dec_head b.toNat)
  · rw [if_neg ha, if_pos hb] at h
    exact absurd (by rw [h]; rfl) (dec_head a.toNat)
  · rw [if_neg ha, if_neg hb] at h
    have := dec_inj h
    omega
theorem nDigits_le : ∀ (k u : Nat), u < 10 ^ (k + 1) → Lib.nDigits u ≤ k + 1
  | 0, u, h => by rw [Lib.nDigits_small (by simpa using h)]; exact Nat.le_refl _
  | k + 1, u, h => by
    by_cases h10 : u < 10
    · rw [Lib.nDigits_small h10]; omega
    · rw [Lib.nDigits_big h10]
      have := nDigits_le k (u / 10) (by rw [Nat.pow_succ] at h; omega)
      omega
theorem itoa_len {c : Int} (h0 : -9223372036854775808 ≤ c) (h1 : c ≤ 9223372036854775807) : (Lib.itoa c).length ≤ 20 := by
  have h19 : ∀ u : Nat, u ≤ 9223372036854775808 → (Lib.decDigits u).length ≤ 19 := fun u hu => by
    rw [Lib.decDigits_length]; exact nDigits_le 18 u (by omega)
  unfold Lib.itoa
  split
  · have := h19 c.natAbs (by omega); simp; omega
  · have := h19 c.toNat (by omega); omega
theorem textOf_len {c : Int} (h0 : -9223372036854775808 ≤ c) (h1 : c ≤ 9223372036854775807) : (textOf c).length ≤ 26 := by
  unfold textOf
  cases h : fixedTexts.lookup c with
  | none => have := itoa_len h0 h1; simp [throwText]; omega
  | some t =>
    have : ∀ p ∈ fixedTexts, p.2.length ≤ 26 := by decide
    exact this _ (lookup_some h).2
theorem textOf_inj {a b : Int} (h : textOf a = textOf b) : a = b := by
  unfold textOf at h
  cases ha : fixedTexts.lookup a with
  | none =>
    cases hb : fixedTexts.lookup b with
    | none =>
      rw [ha, hb] at h
      exact itoa_inj' (List.append_cancel_left h)
    | some t =>
      rw [ha, hb] at h
      have := (fixed_head _ (lookup_some hb).2).1
      simp only at h this
      rw [← h] at this
      exact absurd rfl this
  | some s =>
    cases hb : fixedTexts.lookup b with
    | none =>
      rw [ha, hb] at h
      have := (fixed_head _ (lookup_some ha).2).1
      simp only at h this
      rw [h] at this
      exact absurd rfl this
    | some t =>
      rw [ha, hb] at h
      exact fixed_apart _ (lookup_some ha).2 _ (lookup_some hb).2 h
end Go.Proofs.YtcffbeihgchpgaaGreatDoor
/- Package inner: bytes and numbers are told. -/
namespace Go.Proofs.YtcffbeihgchpgaaGreatDoor.Inn
open Go.RowKit Book Mem Mach
set_option linter.unusedVariables false
set_option linter.unusedSimpArgs false
/-- a new row of one byte; it as a text -/
theorem byte_box (w : World) (x : Int) : ∃ w1 g, w.alloc (.cells #[.int .u8 x] 5) = w1 ∧ w.heap.size = g ∧ (convert 77 9 (.slice (some ⟨g, 0, none⟩) 1 1)).run Tryz.prog w1 = .ok (.string ⟨#[UInt8.ofNat x.toNat]⟩) w1 ∧ Hid (Below w.heap.size w w1) := by
  refine ⟨_, _, rfl, rfl, ?_, (Below.refl w.heap.size w).alloc (Nat.le_refl _) _⟩
  have e := run_convert_bytes_arg (P := Tryz.prog) (w.alloc (.cells #[.int .u8 x] 5)) 77 5 Tryz.underlying77 Tryz.underlying5 w.heap.size 0 1 1 [x] rfl
    (fun i hi => by obtain rfl : i = 0 := by omega
                    exact whole_cell (heap_alloc_new w _) rfl) 9 Tryz.underlying9
  exact e
theorem put_up' {v : Int} (hv : v.natAbs < 18446744073709551616) : Lib.itoa v = Dig.putV Dig.upD v 10 := by
  unfold Lib.itoa Dig.putV Dig.sgn
  rw [show (10 : Int).toNat = 10 from rfl, ← Dig.dec_digs Dig.upD (fun d h => by unfold Dig.upD; rw [if_pos h]) _ hv]
  split
  · rfl
  · rw [List.nil_append, show v.toNat = v.natAbs from by omega]
theorem put_dot {p : Int} (ip : Cell.In p) : putT p 10 = Lib.itoa p := by
  unfold Cell.In at ip
  rw [put_up' (by omega)]
  rfl
section
variable {w : World} {B q ps gs pb gb pf : Nat} {vC vH : Value} {ch : List Int} {vs vb vm : Value} {m : M} {xb : Nat} {g at' nx : Int} {gt gk : Nat} {x y z p : Int}
set_option maxHeartbeats 8000000 in
set_option maxRecDepth 100000 in
theorem say_byte (h : Pre w B q ps gs pb gb pf vC vH ch vs vb vm m xb 41 g at' nx gt gk [p] []) (hB : B ≤ w.heap.size) (ip : Cell.In p) (H : m.out.size + 1 ≤ 2000) : Calls Tryz.prog 164 #[.pointer (some ⟨q, 0, none⟩), .pointer (some ⟨xb, 0, none⟩)] w (DoOk w B q (feet q ps gs pb gb pf vC vH) xb 41 g at' (rowV gt 1) (rowV gk 0) { m with out := m.out ++ ⟨#[UInt8.ofNat (p % 256).toNat]⟩ } [] [] nx .nilIface) := by
  have HP := Lib.hid h
  have HB := Lib.hid hB
  obtain ⟨c0, c1, c2, c3, c4, c5, c6, c7⟩ := h.x.cells
  obtain ⟨f4, f5, f7⟩ := h.x.free
  obtain ⟨m0, m1, m5, m6, m7, m8, m9⟩ := h.mc.cells
  obtain ⟨n1, n2, n3⟩ := h.mc.ptrs
  have k0 := h.x.st (j := 0) (x := p) rfl
  obtain ⟨w1, gl, hw1, hgl, hcv, HB1⟩ := byte_box w (p % 256)
  obtain ⟨m0', m1', m5', m6', m7', m8', m9'⟩ := (h.mc.below HB1.out).cells
  have f5' : w1.frozen? ⟨q, 5, none⟩ = false := whole_frozen (h.mc.below HB1.out).box 5
  obtain ⟨c0', c1', c2', c3', c4', c5', c6', c7'⟩ := (h.x.below HB1.out).cells
  obtain ⟨no, hno⟩ : ∃ n, m.out.size = n := ⟨_, rfl⟩
  rw [hno] at H
  have H1 : decide (2000 < (no : Int) + 1) = false := decide_eq_false (by omega)
  clear h hB
  go_enter Tryz.func164, Tryz.ntmps164
  go_wp2
  go_ret
  have HP := Lib.hid ((HP.out.below HB1.out).set 5 (.string (m.out ++ ⟨#[UInt8.ofNat (p % 256).toNat]⟩)) { m with out := m.out ++ ⟨#[UInt8.ofNat (p % 256).toNat]⟩ } rfl rfl rfl rfl)
  exact ok_none HP.out.mc.mach HP.out.x.box (stir_more ((Stirred.of_below HB1.out _).trans (stir_q w1 5 (.string (m.out ++ ⟨#[UInt8.ofNat (p % 256).toNat]⟩))) (fun f hf => .inl hf))) (fun f hf => .inl hf)
set_option maxHeartbeats 8000000 in
set_option maxRecDepth 100000 in
theorem say_full (h : Pre w B q ps gs pb gb pf vC vH ch vs vb vm m xb 41 g at' nx gt gk [p] []) (hB : B ≤ w.heap.size) (ip : Cell.In p) (H : 2000 < m.out.size + 1) (hz : m.out.size ≤ 2000) : Calls Tryz.prog 164 #[.pointer (some ⟨q, 0, none⟩), .pointer (some ⟨xb, 0, none⟩)] w (DoErr w B q (feet q ps gs pb gb pf vC vH) xb m (-57) at') := by
  have HP := Lib.hid h
  have HB := Lib.hid hB
  obtain ⟨c0, c1, c2, c3, c4, c5, c6, c7⟩ := h.x.cells
  obtain ⟨f4, f5, f7⟩ := h.x.free
  obtain ⟨m0, m1, m5, m6, m7, m8, m9⟩ := h.mc.cells
  obtain ⟨n1, n2, n3⟩ := h.mc.ptrs
  have k0 := h.x.st (j := 0) (x := p) rfl
  obtain ⟨w1, gl, hw1, hgl, hcv, HB1⟩ := byte_box w (p % 256)
  obtain ⟨m0', m1', m5', m6', m7', m8', m9'⟩ := (h.mc.below HB1.out).cells
  have f5' : w1.frozen? ⟨q, 5, none⟩ = false := whole_frozen (h.mc.below HB1.out).box 5
  obtain ⟨c0', c1', c2', c3', c4', c5', c6', c7'⟩ := (h.x.below HB1.out).cells
  have C := Lib.hid (xfault_some (h.below HB1.out).x.box (-57) (by decide))
  obtain ⟨no, hno⟩ : ∃ n, m.out.size = n := ⟨_, rfl⟩
  rw [hno] at H hz
  clear h hB
  go_enter Tryz.func164, Tryz.ntmps164
  go_wp2_with (go_at_call 150; refine C.out.mono ?_; rintro e wz ⟨rfl, hwz⟩; subst wz)
  go_ret
  exact DoErr.of_x HP.out.mc.mach HP.out.nx ⟨rfl, Stirred.of_below HB1.out _⟩
set_option maxHeartbeats 8000000 in
set_option maxRecDepth 100000 in
theorem say_num (h : Pre w B q ps gs pb gb pf vC vH ch vs vb vm m xb 42 g at' nx gt gk [p] []) (hB : B ≤ w.heap.size) (hZ : Zeros w) (hT : Tens w) (ip : Cell.In p) (H : m.out.size + ((Lib.itoa p).length + 1) ≤ 2000) : Calls Tryz.prog 164 #[.pointer (some ⟨q, 0, none⟩), .pointer (some ⟨xb, 0, none⟩)] w (DoOk w B q (feet q ps gs pb gb pf vC vH) xb 42 g at' (rowV gt 1) (rowV gk 0) { m with out := m.out ++ (⟨(Lib.itoa p).toArray⟩ ++ ⟨#[32]⟩) } [] [] nx .nilIface) := by
  have HP := Lib.hid h
  have HB := Lib.hid hB
  obtain ⟨c0, c1, c2, c3, c4, c5, c6, c7⟩ := h.x.cells
  obtain ⟨f4, f5, f7⟩ := h.x.free
  obtain ⟨m0, m1, m5, m6, m7, m8, m9⟩ := h.mc.cells
  obtain ⟨n1, n2, n3⟩ := h.mc.ptrs
  have k0 := h.x.st (j := 0) (x := p) rfl
  obtain ⟨w1, gl, hw1, hgl, hcv, HB1⟩ := byte_box w (p % 256)
  obtain ⟨m0', m1', m5', m6', m7', m8', m9'⟩ := (h.mc.below HB1.out).cells
  have f5' : w1.frozen? ⟨q, 5, none⟩ = false := whole_frozen (h.mc.below HB1.out).box 5
  obtain ⟨c0', c1', c2', c3', c4', c5', c6', c7'⟩ := (h.x.below HB1.out).cells
  have P := Lib.hid (put_any p 10 ip.1 ip.2 w1 (hZ.mono HB1.out) (hT.mono HB1.out))
  rw [put_dot ip] at P
  have hlen := itoa_len ip.1 ip.2
  have hsz : (⟨(Lib.itoa p).toArray⟩ : ByteArray).size = (Lib.itoa p).length := by simp [ByteArray.size]
  generalize Lib.itoa p = tl at *
  obtain ⟨tb, htb⟩ : ∃ tb : ByteArray, ⟨tl.toArray⟩ = tb := ⟨_, rfl⟩
  have HTB := Lib.hid htb
  simp only [txt] at P
  rw [htb] at P hsz
  rw [← hsz] at H hlen
  obtain ⟨nt, hnt⟩ : ∃ n, tb.size = n := ⟨_, rfl⟩
  obtain ⟨no, hno⟩ : ∃ n, m.out.size = n := ⟨_, rfl⟩
  rw [hno, hnt] at H
  rw [hnt] at hlen
  clear h hB hZ hT hsz htb
  go_enter Tryz.func164, Tryz.ntmps164
  go_wp2_with fail
  refine P.out.mono ?_
  rintro e w2 ⟨rfl, hb⟩
  have HB2 := Lib.hid (HB1.out.trans (hb.mono HB1.out.size))
  clear hb m0' m1' m5' m6' m7' m8' m9' f5' c0' c1' c2' c3' c4' c5' c6' c7' hcv P
  obtain ⟨m0', m1', m5', m6', m7', m8', m9'⟩ := (HP.out.mc.below HB2.out).cells
  have f5' : w2.frozen? ⟨q, 5, none⟩ = false := whole_frozen (HP.out.mc.below HB2.out).box 5
  obtain ⟨c0', c1', c2', c3', c4', c5', c6', c7'⟩ := (HP.out.x.below HB2.out).cells
  have H1 : decide (2000 < (no : Int) + ((nt : Int) + 1)) = false := decide_eq_false (by omega)
  go_wp2
  go_ret
  have HP := Lib.hid ((HP.out.below HB2.out).set 5 (.string (m.out ++ (tb ++ ⟨#[32]⟩))) { m with out := m.out ++ (tb ++ ⟨#[32]⟩) } rfl rfl rfl rfl)
  rw [HTB.out]
  exact ok_none HP.out.mc.mach HP.out.x.box (stir_more ((Stirred.of_below HB2.out _).trans (stir_q w2 5 (.string (m.out ++ (tb ++ ⟨#[32]⟩)))) (fun f hf => .inl hf))) (fun f hf => .inl hf)
set_option maxHeartbeats 8000000 in
set_option maxRecDepth 100000 in
theorem say_much (h : Pre w B q ps gs pb gb pf vC vH ch vs vb vm m xb 42 g at' nx gt gk [p] []) (hB : B ≤ w.heap.size) (hZ : Zeros w) (hT : Tens w) (ip : Cell.In p) (H : 2000 < m.out.size + ((Lib.itoa p).length + 1)) (hz : m.out.size ≤ 2000) : Calls Tryz.prog 164 #[.pointer (some ⟨q, 0, none⟩), .pointer (some ⟨xb, 0, none⟩)] w (DoErr w B q (feet q ps gs pb gb pf vC vH) xb m (-57) at') := by
  have HP := Lib.hid h
  have HB := Lib.hid hB
  obtain ⟨c0, c1, c2, c3, c4, c5, c6, c7⟩ := h.x.cells
  obtain ⟨f4, f5, f7⟩ := h.x.free
  obtain ⟨m0, m1, m5, m6, m7, m8, m9⟩ := h.mc.cells
  obtain ⟨n1, n2, n3⟩ := h.mc.ptrs
  have k0 := h.x.st (j := 0) (x := p) rfl
  obtain ⟨w1, gl, hw1, hgl, hcv, HB1⟩ := byte_box w (p % 256)
  obtain ⟨m0', m1', m5', m6', m7', m8', m9'⟩ := (h.mc.below HB1.out).cells
  have f5' : w1.frozen? ⟨q, 5, none⟩ = false := whole_frozen (h.mc.below HB1.out).box 5
  obtain ⟨c0', c1', c2', c3', c4', c5', c6', c7'⟩ := (h.x.below HB1.out).cells
  have P := Lib.hid (put_any p 10 ip.1 ip.2 w1 (hZ.mono HB1.out) (hT.mono HB1.out))
  rw [put_dot ip] at P
  have hlen := itoa_len ip.1 ip.2
  have hsz : (⟨(Lib.itoa p).toArray⟩ : ByteArray).size = (Lib.itoa p).length := by simp [ByteArray.size]
  generalize Lib.itoa p = tl at *
  obtain ⟨tb, htb⟩ : ∃ tb : ByteArray, ⟨tl.toArray⟩ = tb := ⟨_, rfl⟩
  have HTB := Lib.hid htb
  simp only [txt] at P
  rw [htb] at P hsz
  rw [← hsz] at H hlen
  obtain ⟨nt, hnt⟩ : ∃ n, tb.size = n := ⟨_, rfl⟩
  obtain ⟨no, hno⟩ : ∃ n, m.out.size = n := ⟨_, rfl⟩
  rw [hno, hnt] at H
  rw [hnt] at hlen
  rw [hno] at hz
  clear h hB hZ hT hsz htb
  go_enter Tryz.func164, Tryz.ntmps164
  go_wp2_with fail
  refine P.out.mono ?_
  rintro e w2 ⟨rfl, hb⟩
  have HB2 := Lib.hid (HB1.out.trans (hb.mono HB1.out.size))
  clear hb m0' m1' m5' m6' m7' m8' m9' f5' c0' c1' c2' c3' c4' c5' c6' c7' hcv P
  obtain ⟨m0', m1', m5', m6', m7', m8', m9'⟩ := (HP.out.mc.below HB2.out).cells
  have f5' : w2.frozen? ⟨q, 5, none⟩ = false := whole_frozen (HP.out.mc.below HB2.out).box 5
  obtain ⟨c0', c1', c2', c3', c4', c5', c6', c7'⟩ := (HP.out.x.below HB2.out).cells
  have H1 : decide (2000 < (no : Int) + ((nt : Int) + 1)) = true := decide_eq_true (by omega)
  have C := Lib.hid (xfault_some (HP.out.below HB2.out).x.box (-57) (by decide))
  go_wp2_with (go_at_call 150; refine C.out.mono ?_; rintro e wz ⟨rfl, hwz⟩; subst wz)
  go_ret
  exact DoErr.of_x HP.out.mc.mach HP.out.nx ⟨rfl, Stirred.of_below HB2.out _⟩
end
end Go.Proofs.YtcffbeihgchpgaaGreatDoor.Inn
