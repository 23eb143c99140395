/- A book that keeps machines; machines that are lent, held against each other. -/
import Derived.Test.YtpecingkoodmfaaGreatDoorS8
import Derived.Test.YtpecingkoodmfaaGreatDoorS17
import Derived.Deep.RegionWith
import Derived.Deep.RegionHeld3
import Derived.Deep.DrawnRows
import Derived.Test.YtpecingkoodmfaaGreatDoorS2
import Derived.Deep.DeepCutAuto
namespace Go.Proofs.YtpecingkoodmfaaGreatDoor.Mach
open Go.RowKit Book Mem
set_option linter.unusedVariables false
set_option linter.unusedSimpArgs false
/-- all boxes and rows but those of a book are as they were -/
def Spares (w w' : World) : Prop := ∀ (k : Nat) (cs : Array Value) (T : TypeId), T ≠ 24 → T ≠ 40 → w.heap[k]? = some (Obj.cells cs T (0, 0)) → w'.heap[k]? = some (Obj.cells cs T (0, 0))
theorem Spares.owns {w w' : World} (h : Spares w w') {B : Nat} {v : Value} {xs : List Value} (ho : Owns w B 3 v xs) : Owns w' B 3 v xs :=
  ho.same fun k hk => by
    obtain ⟨_, _, c, hc⟩ := ho.block k hk
    rw [hc]
    exact h k c _ (by decide) (by decide) hc
theorem Spares.trans {w w1 w2 : World} (h : Spares w w1) (g : Spares w1 w2) : Spares w w2 := fun k cs T h1 h2 hk => g k cs T h1 h2 (h k cs T h1 h2 hk)
theorem Spares.of_below {w w' : World} (h : Below w.heap.size w w') : Spares w w' := fun k cs T _ _ hk => (Stirred.of_below h []).whole hk List.not_mem_nil
/-- a book that keeps lists of ints alone -/
def bookArr9 (vS vW : Value) : Array Value := #[.slice none 0 0, .slice none 0 0, vS, vW, .slice none 0 0, .slice none 0 0, .slice none 0 0, .slice none 0 0, .slice none 0 0, .slice none 0 0, .slice none 0 0, .slice none 0 0]
structure Bk (w : World) (pb : Nat) (vS vW : Value) (ls : List (Value × List Value)) : Prop where
  book : w.heap[pb]? = some (.cells (bookArr9 vS vW) 40 (0, 0))
  kept : Kept w (pb + 1) 24 3 goodInts vS vW ls []
theorem Bk.below {w w' : World} {pb : Nat} {vS vW : Value} {ls : List (Value × List Value)} (h : Bk w pb vS vW ls) (hb : Below w.heap.size w w') : Bk w' pb vS vW ls :=
  ⟨(Stirred.of_below hb []).whole h.book List.not_mem_nil, h.kept.below hb⟩
theorem Bk.row {w w' : World} {pb : Nat} {vS vW : Value} {ls : List (Value × List Value)} (h : Bk w pb vS vW ls) (hs : Stirred w w' (pb :: ((blk vS).toList ++ (blk vW).toList))) : Spares w w' := by
  intro k cs T h1 h2 hk
  refine hs.whole hk (fun hm => ?_)
  rcases List.mem_cons.1 hm with rfl | hm
  · rw [h.book] at hk
    simp only [Option.some.injEq, Obj.cells.injEq] at hk
    exact h2 hk.2.1.symm
  · obtain ⟨cs', _, hw, _⟩ := h.kept.was
    rcases List.mem_append.1 hm with hm | hm
    · obtain ⟨_, _, c, hc⟩ := h.kept.lists.spine.block k (by simpa using hm)
      rw [hc] at hk
      simp only [Option.some.injEq, Obj.cells.injEq] at hk
      exact h1 hk.2.1.symm
    · obtain ⟨_, _, c, hc⟩ := hw.block k (by simpa using hm)
      rw [hc] at hk
      simp only [Option.some.injEq, Obj.cells.injEq] at hk
      exact h1 hk.2.1.symm
theorem Bk.low {w w' : World} {pb : Nat} {vS vW : Value} {ls : List (Value × List Value)} (h : Bk w pb vS vW ls) (hs : Stirred w w' (pb :: ((blk vS).toList ++ (blk vW).toList))) : Below pb w w' := by
  refine hs.below (fun k hm => ?_) (Nat.le_of_lt (whole_lt h.book))
  rcases List.mem_cons.1 hm with rfl | hm
  · exact Nat.le_refl _
  · obtain ⟨cs', _, h2, _⟩ := h.kept.was
    rcases List.mem_append.1 hm with hm | hm
    · have := (h.kept.lists.spine.block k (by simpa using hm)).1; omega
    · have := (h2.block k (by simpa using hm)).1; omega
theorem Bk.empty {w : World} {pb : Nat} (h : w.heap[pb]? = some (.cells (bookArr9 (.slice none 0 0) (.slice none 0 0)) 40 (0, 0))) : Bk w pb (.slice none 0 0) (.slice none 0 0) [] :=
  ⟨h, Kept.nil _ _ _ _ _ _⟩
theorem Bk.add {w : World} {pb : Nat} {vS vW : Value} {ls : List (Value × List Value)} (h : Bk w pb vS vW ls) (hlt : ls.length < 250) {v : Value} {xs : List Int} {B : Nat} (ho : Owns w B 3 v (vals xs)) (hB : pb + 1 ≤ B) (hl : xs.length ≤ 10000) (hn : ∀ k, blk v = some k → k ∉ blocks ls) :
    Calls Tryz.prog 15 #[.pointer (some ⟨pb, 0, none⟩), v] w fun e w' => e = .returned (.tuple #[]) ∧ ∃ vS' vW', Bk w' pb vS' vW' (ls ++ [(v, vals xs)]) ∧ Below pb w w' ∧ Spares w w' := by
  have hsz := whole_lt h.book
  refine (bookInts_any pb (pb + 1) (bookArr9 vS vW) vS vW v ls (vals xs) w (Nat.lt_succ_self _) hsz hlt h.book rfl rfl [] (fun _ h => by cases h) h.kept (ho.from hB) ⟨xs, rfl, by omega⟩ hn (fun _ _ => List.not_mem_nil)).mono ?_
  rintro e w' ⟨rfl, vS', vW', h1, h2, h3⟩
  refine ⟨rfl, vS', vW', ⟨?_, h2⟩, h.low h3, h.row h3⟩
  rw [h1]
  rfl
end Go.Proofs.YtpecingkoodmfaaGreatDoor.Mach
/- Marks put into kept lists. -/
namespace Go.Proofs.YtpecingkoodmfaaGreatDoor
open Go.RowKit Book
set_option linter.unusedSimpArgs false
set_option linter.unusedVariables false
set_option maxHeartbeats 2000000 in
theorem putInts_any (p B : Nat) (vS : Value) (ls : List (Value × List Value)) (w : World) (hp : p < B) (c0 : w.cell? ⟨p, 2, none⟩ = some vS) (hL : Lists w B 24 3 vS ls) (hf : ls.length ≤ 250) (hl : ∀ k ∈ ls, k.2.length ≤ 1000000) :
    Calls Tryz.prog 68 #[.pointer (some ⟨p, 0, none⟩)] w fun e w' => e = .returned (.tuple #[]) ∧ ∃ cur, Done (fun j n => intMarks j 0 n) ls ls.length cur ∧ Lists w' B 24 3 vS cur ∧ Stirred w w' (blocks ls) := by
  obtain ⟨ao, cap, hv⟩ := hL.spine.slice
  rw [List.length_map] at hv
  obtain ⟨L, hn⟩ : ∃ n, ls.length = n := ⟨_, rfl⟩
  rw [hn] at hv hf
  rw [hn]
  subst hv
  have HL := Lib.hid hL
  have HN := Lib.hid hn
  have HM := Lib.hid hl
  have HC0 := Lib.hid c0
  have hpb := Lib.hid (fun h => Nat.lt_irrefl p (Nat.lt_of_lt_of_le hp (hL.lt p h).1) : p ∉ blocks ls)
  clear hL hn hl c0
  go_enter Tryz.func68, Tryz.ntmps68
  go_wp2
  go_loopg [2] L (fun g i wr => ∃ (j : Nat) (cur : List (Value × List Value)), g = L - j ∧ j ≤ L ∧ i = .int .i64 j ∧ Hid (Done (fun j n => intMarks j 0 n) ls j cur) ∧ Hid (Lists wr B 24 3 (.slice ao L cap) cur) ∧ Hid (Stirred w wr (blocks ls)))
  case atStart => exact ⟨0, ls, rfl, Nat.zero_le _, rfl, Done.zero _ _, HL.out, Stirred.refl _ _⟩
  case round =>
    obtain ⟨j, cur, rfl, hj, rfl, HD, HK, HT⟩ := hrel
    have c0 := HT.out.cell hpb.out HC0.out
    by_cases hlt : j < L
    · obtain ⟨⟨v, xs⟩, hk⟩ : ∃ k, ls[j]? = some k := ⟨_, List.getElem?_eq_getElem (by rw [HN.out]; exact hlt)⟩
      have hk' := HD.out.rest j _ (Nat.le_refl _) hk
      have ho := HK.out.list _ (List.mem_of_getElem? hk')
      obtain ⟨gS, cS, e1, hcS, _, _⟩ := HK.out.spine.row (by rw [List.length_map, HD.out.len, HN.out]; omega)
      rw [List.length_map, HD.out.len, HN.out] at e1
      simp only [Value.slice.injEq, true_and] at e1
      obtain ⟨rfl, rfl⟩ := e1
      have k1 := hcS j v (by rw [List.getElem?_map, hk']; rfl)
      obtain ⟨n, hn⟩ : ∃ n, xs.length = n := ⟨_, rfl⟩
      have hn6 : n ≤ 1000000 := by rw [← hn]; exact HM.out _ (List.mem_of_getElem? hk)
      obtain ⟨bo, bc, hv⟩ := ho.slice
      dsimp only at ho hv
      rw [hn] at hv
      subst hv
      have HO := Lib.hid ho
      have HK1 := Lib.hid hk
      have HK2 := Lib.hid hk'
      have HXN := Lib.hid hn
      have hj0 : (0 : Int) ≤ (j : Int) := Int.natCast_nonneg _
      have hj1 : (j : Int) < (L : Int) := by omega
      have C := Lib.hid (markInts_any j 0 n (by omega) (by omega) (by omega) wr)
      clear ho hk hk' hn hcS
      go_wp2_with fail
      refine C.out.mono ?_
      rintro e w1 ⟨m, rfl, hm, hb⟩
      obtain ⟨mo, mc, hmv⟩ := hm.slice
      rw [intMarks_length] at hmv
      subst hmv
      have HMK := Lib.hid hm
      have HB := Lib.hid hb
      have HO1 := Lib.hid (HO.out.below hb)
      have HK3 := Lib.hid (HK.out.below hb)
      have HT1 := Lib.hid (HT.out.trans (Stirred.of_below hb []) (fun _ h => by cases h))
      have c01 := HT1.out.cell hpb.out HC0.out
      have hbw := Lib.hid (fun k hk => (HO.out.block k hk).2.1)
      have HS1 := Lib.hid ((Stirred.of_below HB.out []).cell (List.not_mem_nil) k1)
      clear hm hb k1 c0
      go_wp2
      go_loopg [4] n (fun g k wx => ∃ q : Nat, g = n - q ∧ q ≤ n ∧ k = .int .i64 q ∧ Hid (Owns wx B 3 (.slice bo n bc) ((intMarks j 0 n).take q ++ xs.drop q)) ∧ Hid (Stirred w1 wx (blk (.slice bo n bc)).toList))
      case atStart => exact ⟨0, rfl, Nat.zero_le _, rfl, HO1.out, Stirred.refl _ _⟩
      case round =>
        obtain ⟨q, rfl, hq, rfl, HX, HY⟩ := hrel
        by_cases hlq : q < n
        · have hmk : (intMarks j 0 n)[q]? = some (.int .i64 (markI j (0 + q))) := by simp [intMarks, hlq]
          obtain ⟨s, hs⟩ : ∃ s, markI j (0 + q) = s := ⟨_, rfl⟩
          rw [hs] at hmk
          have hxl : ((intMarks j 0 n).take q ++ xs.drop q).length = n := by rw [List.length_append, List.length_take, List.length_drop, intMarks_length, HXN.out]; omega
          obtain ⟨gv, cv, e1, hcv, hfv, _⟩ := HX.out.row (by omega)
          rw [hxl] at e1
          simp only [Value.slice.injEq, true_and] at e1
          obtain ⟨rfl, rfl⟩ := e1
          have hbv := HX.out.capAt (by omega)
          have hy := HY.out
          rw [hbv] at hy
          obtain ⟨gm, cm, e2, hcm, _, _⟩ := HMK.out.row (by rw [intMarks_length]; omega)
          rw [intMarks_length] at e2
          simp only [Value.slice.injEq, true_and] at e2
          obtain ⟨rfl, rfl⟩ := e2
          have n1 : gm ≠ gv := by have h1 := (HMK.out.block gm (HMK.out.capAt (by rw [intMarks_length]; omega))).1; have h2 := hbw.out gv hbv; omega
          have n2 : gS ≠ gv := fun e => HK.out.spine_apart (by decide) gS (HK.out.spine.capAt (by rw [List.length_map, HD.out.len, HN.out]; omega)) (by rw [e]; exact mem_blocks (List.mem_of_getElem? HK2.out) hbv)
          have n3 : p ≠ gv := by have h1 := (HO.out.block gv hbv).1; omega
          have km := hy.cell (show gm ∉ [gv] by simpa using n1) (hcm q _ hmk)
          have k1 := hy.cell (show gS ∉ [gv] by simpa using n2) (HS1.out)
          have c0 := hy.cell (show p ∉ [gv] by simpa using n3) c01
          obtain ⟨old, hold⟩ : ∃ old, ((intMarks j 0 n).take q ++ xs.drop q)[q]? = some old := ⟨_, List.getElem?_eq_getElem (by omega)⟩
          have ko := hcv q old hold
          have kf := hfv q
          have HMX := Lib.hid hmk
          have hq0 : (0 : Int) ≤ (q : Int) := Int.natCast_nonneg _
          have hq1 : (q : Int) < (n : Int) := by omega
          have F1 := Lib.hid ((Stirred.setCell _ ⟨gv, q, none⟩ (.int .i64 s)).cell (show p ∉ [gv] by simpa using n3) c0)
          have F2 := Lib.hid ((Stirred.setCell _ ⟨gv, q, none⟩ (.int .i64 s)).cell (show gS ∉ [gv] by simpa using n2) k1)
          have F3 := Lib.hid ((Stirred.setCell _ ⟨gv, q, none⟩ (.int .i64 s)).cell (show gm ∉ [gv] by simpa using n1) km)
          have hx2 := (HX.out.stored q (.int .i64 s)).touch (Stirred.drew _ []) (fun _ _ => List.not_mem_nil)
          rw [mix_set hmk (by rw [HXN.out, intMarks_length])] at hx2
          have HX2 := Lib.hid hx2
          have HY2 := Lib.hid ((HY.out.trans (Stirred.setCell _ ⟨gv, q, none⟩ (.int .i64 s)) (fun _ h => .inl (by rw [hbv]; exact h))).trans (Stirred.drew _ []) (fun _ h => by cases h))
          clear hmk hs hxl hx2 hcv hfv hcm hold hy hbv
          go_wp2_with fail
          go_region_held3 (fun w' => w'.cell? ⟨p, 2, none⟩ = some (.slice (some ⟨gS, 0, none⟩) L cap) ∧ w'.cell? ⟨gS, j, none⟩ = some (.slice (some ⟨gv, 0, none⟩) n bc) ∧ w'.cell? ⟨gm, q, none⟩ = some (.int .i64 s)) (first | (go_keep; done) | exact ⟨F1.out, F2.out, F3.out⟩) (fail)
          all_goals go_wp2
          go_roundg (n - (q + 1))
          case measure => omega
          case rel => exact ⟨q + 1, rfl, by omega, by go_num, HX2, HY2⟩
        · obtain rfl : q = n := by omega
          go_wp2
          go_roundg (L - (j + 1))
          case measure => omega
          case rel =>
            have hx : (intMarks j 0 q).take q ++ xs.drop q = intMarks j 0 q := by
              rw [List.take_of_length_le (by rw [intMarks_length]; omega), List.drop_eq_nil_of_le (by rw [HXN.out]; omega), List.append_nil]
            have hset := HK3.out.set (by decide) HK2.out HY.out (by have h1 := HX.out; rw [hx] at h1; exact h1)
            have hdone := HD.out.succ HK1.out
            rw [HXN.out] at hdone
            exact ⟨j + 1, _, rfl, by omega, by go_num, hdone, hset, HT1.out.trans HY.out (fun k hk => .inl (mem_blocks (List.mem_of_getElem? HK1.out) (by simpa using hk)))⟩
    · obtain rfl : j = L := by omega
      go_wp2
      go_end0
      exact ⟨rfl, cur, HD.out, HK.out, HT.out⟩
end Go.Proofs.YtpecingkoodmfaaGreatDoor
/- Kept lists, grown. -/
namespace Go.Proofs.YtpecingkoodmfaaGreatDoor
open Go.RowKit Book
set_option linter.unusedSimpArgs false
set_option linter.unusedVariables false
theorem intMarks_add (i a m n : Nat) : intMarks i a (m + n) = intMarks i a m ++ intMarks i (a + m) n := by
  induction n with
  | zero => simp [intMarks]
  | succ n ih => rw [← Nat.add_assoc, intMarks_succ, ih, intMarks_succ, List.append_assoc, Nat.add_assoc]
theorem intMarks_one (i a n : Nat) : ∀ u ∈ intMarks i a n, u.oneCell' = true := by
  intro u hu
  simp only [intMarks, List.mem_map] at hu
  obtain ⟨j, _, rfl⟩ := hu
  rfl
set_option maxHeartbeats 2000000 in
theorem growInts_any (p B : Nat) (vS : Value) (ls : List (Value × List Value)) (w : World) (hp : p < B) (hB : B ≤ w.heap.size) (c0 : w.cell? ⟨p, 2, none⟩ = some vS) (hL : Lists w B 24 3 vS ls) (hf : ls.length ≤ 250) (hl : ∀ k ∈ ls, k.2.length ≤ 1000000) (hm : ∀ i k, ls[i]? = some k → k.2 = intMarks i 0 k.2.length) :
    Calls Tryz.prog 73 #[.pointer (some ⟨p, 0, none⟩)] w fun e w' => ∃ vO gs, e = .returned vO ∧ Gs w B 24 3 (fun j n => intMarks j 0 n) 2000000 vS ls ls.length vO gs w' := by
  obtain ⟨i0, q1, q2, q3, q4⟩ := info_parts Tryz.bkIntInfo
  have HI := Lib.hid (And.intro q1 (And.intro q2 (And.intro q3 q4)))
  clear q1 q2 q3 q4
  obtain ⟨i1, q1, q2, q3, q4⟩ := info_parts Tryz.bkIntSpineInfo
  have HJ := Lib.hid (And.intro q1 (And.intro q2 (And.intro q3 q4)))
  clear q1 q2 q3 q4
  obtain ⟨ao, cap, hv⟩ := hL.spine.slice
  rw [List.length_map] at hv
  obtain ⟨L, hn⟩ : ∃ n, ls.length = n := ⟨_, rfl⟩
  rw [hn] at hv hf
  rw [hn]
  subst hv
  have HL := Lib.hid hL
  have HN := Lib.hid hn
  have HM := Lib.hid (And.intro hl hm)
  have HC0 := Lib.hid c0
  have hpb := Lib.hid (fun h => Nat.lt_irrefl p (Nat.lt_of_lt_of_le hp (hL.lt p h).1) : p ∉ blocks ls)
  clear hL hn hl hm c0
  go_enter Tryz.func73, Tryz.ntmps73
  go_wp2
  go_loopg [3, 4] L (fun g o i wr => ∃ (j : Nat) (gs : List (Value × List Value)), g = L - j ∧ j ≤ L ∧ i = .int .i64 j ∧ Hid (Gs w B 24 3 (fun j n => intMarks j 0 n) 2000000 (.slice ao L cap) ls j o gs wr))
  case atStart => exact ⟨0, [], rfl, Nat.zero_le _, rfl, Gs.zero HL.out⟩
  case round =>
    obtain ⟨j, gs, rfl, hj, rfl, HG⟩ := hrel
    obtain ⟨wa, hwa⟩ : ∃ wa, wa = wr := ⟨_, rfl⟩
    subst hwa
    have c0 := HG.out.stir.cell hpb.out HC0.out
    have HW := Lib.hid (Nat.le_trans hB HG.out.stir.size)
    by_cases hlt : j < L
    · obtain ⟨⟨v, xs⟩, hk⟩ : ∃ k, ls[j]? = some k := ⟨_, List.getElem?_eq_getElem (by rw [HN.out]; exact hlt)⟩
      have ho := HG.out.old.list _ (List.mem_of_getElem? hk)
      obtain ⟨gS, cS, e1, hcS, _, _⟩ := HG.out.old.spine.row (by rw [List.length_map, HN.out]; omega)
      rw [List.length_map, HN.out] at e1
      simp only [Value.slice.injEq, true_and] at e1
      obtain ⟨rfl, rfl⟩ := e1
      have k1 := hcS j v (by rw [List.getElem?_map, hk]; rfl)
      obtain ⟨n, hn⟩ : ∃ n, xs.length = n := ⟨_, rfl⟩
      have hn6 : n ≤ 1000000 := by rw [← hn]; exact HM.out.1 _ (List.mem_of_getElem? hk)
      have hxs : xs = intMarks j 0 n := by rw [← hn]; exact HM.out.2 _ _ hk
      have hg0 := Grows.start ho
      dsimp only at hg0
      rw [show xs = intMarks j 0 (n + 0) from hxs] at hg0 hk
      have HK := Lib.hid hk
      have HX := Lib.hid hg0
      have hj0 : (0 : Int) ≤ (j : Int) := Int.natCast_nonneg _
      have hj1 : (j : Int) < (L : Int) := by omega
      clear ho hk hn hcS hg0 hxs
      go_wp2
      go_loopg [5, 6] 12 (fun g l k wx => ∃ q : Nat, g = 12 - q ∧ q ≤ 12 ∧ k = .int .i64 q ∧ Hid (Grows wa B 3 v (intMarks j 0 n) wx l (intMarks j 0 (n + q))))
      case atStart => exact ⟨0, rfl, Nat.zero_le _, rfl, HX.out⟩
      case round =>
        obtain ⟨q, rfl, hq, rfl, HZ⟩ := hrel
        obtain ⟨lo, lc, hlv⟩ := HZ.out.long.slice
        rw [intMarks_length] at hlv
        subst hlv
        obtain ⟨m, hm⟩ : ∃ m, n + q = m := ⟨_, rfl⟩
        rw [hm] at HZ
        rw [hm]
        have HMQ := Lib.hid hm
        have hm6 : m ≤ 1000012 := by omega
        clear hm
        by_cases hlq : q < 12
        · have C := Lib.hid (markInts_any j m 1 (by omega) (by omega) (by omega) wr)
          go_wp2_with fail
          refine C.out.mono ?_
          rintro e w1 ⟨f, rfl, hf, hb⟩
          obtain ⟨fg, fc, hfv, hfc, _, _⟩ := hf.row (by rw [intMarks_length]; omega)
          rw [intMarks_length] at hfv
          subst hfv
          have HF := Lib.hid hfc
          have HZ1 := Lib.hid (HZ.out.below hb)
          have HB := Lib.hid hb
          clear hf hfc hb
          go_wp2_with (at_builtin; refine wpList_append_two _ rfl _ _ 24 rfl B 3 i0 (.int .i64 0) 8 Tryz.underlying24 HI.out.1 HI.out.2.1 HI.out.2.2.1 HI.out.2.2.2 rfl _ _ rfl HZ1.out.long ⟨fg, 0, none⟩ 1 fc (intMarks j m 1) (intMarks_length _ _ _) rfl ?c1 (intMarks_one _ _ _) ?c2 ?c3 ?c4 ?c5 ?_)
          case c1 => intro k u hu; rw [add_row]; exact HF.out k u hu
          case c2 => rw [intMarks_length]; omega
          case c3 => rw [intMarks_length, intMarks_length]; unfold maxLen; omega
          case c4 => rw [intMarks_length, intMarks_length]; omega
          case c5 => exact Nat.le_trans HW.out HZ1.out.stir.size
          intro v' w2 hO2 hS2 hT hN
          have hG := HZ1.out.append hO2 hS2 hT hN
          have hadd : intMarks j 0 m ++ intMarks j m 1 = intMarks j 0 (n + (q + 1)) := by rw [← Nat.add_assoc, HMQ.out, intMarks_add, Nat.zero_add]
          rw [hadd] at hG
          have HG2 := Lib.hid hG
          clear hO2 hS2 hT hN hG hadd
          go_wp2
          go_roundg (12 - (q + 1))
          case measure => omega
          case rel => exact ⟨q + 1, rfl, by omega, by go_num, HG2⟩
        · obtain rfl : q = 12 := by omega
          have C := Lib.hid (markInts_any j m 60 (by omega) (by omega) (by omega) wr)
          go_wp2_with fail
          refine C.out.mono ?_
          rintro e w1 ⟨f, rfl, hf, hb⟩
          obtain ⟨fg, fc, hfv, hfc, _, _⟩ := hf.row (by rw [intMarks_length]; omega)
          rw [intMarks_length] at hfv
          subst hfv
          have HF := Lib.hid hfc
          have HZ1 := Lib.hid (HZ.out.below hb)
          clear hf hfc hb
          go_wp2_with (at_builtin; refine wpList_append_two _ rfl _ _ 24 rfl B 3 i0 (.int .i64 0) 8 Tryz.underlying24 HI.out.1 HI.out.2.1 HI.out.2.2.1 HI.out.2.2.2 rfl _ _ rfl HZ1.out.long ⟨fg, 0, none⟩ 60 fc (intMarks j m 60) (intMarks_length _ _ _) rfl ?c1 (intMarks_one _ _ _) ?c2 ?c3 ?c4 ?c5 ?_)
          case c1 => intro k u hu; rw [add_row]; exact HF.out k u hu
          case c2 => rw [intMarks_length]; omega
          case c3 => rw [intMarks_length, intMarks_length]; unfold maxLen; omega
          case c4 => rw [intMarks_length, intMarks_length]; omega
          case c5 => exact Nat.le_trans HW.out HZ1.out.stir.size
          intro v' w2 hO2 hS2 hT hN
          have hG := HZ1.out.append hO2 hS2 hT hN
          have hadd : intMarks j 0 m ++ intMarks j m 60 = intMarks j 0 (m + 60) := by rw [intMarks_add, Nat.zero_add]
          rw [hadd] at hG
          have hG := hG.below ((Below.refl w2.heap.size w2).alloc (Nat.le_refl _) (.cells #[v'] 24))
          obtain ⟨no, nc, hnv⟩ := hG.long.slice
          rw [intMarks_length] at hnv
          subst hnv
          have HG2 := Lib.hid hG
          have HO3 := Lib.hid (HG.out.out_at HK.out hG)
          have HLN := Lib.hid (HG.out.len)
          have HW2 := Lib.hid (HG.out.stir.size)
          clear hO2 hS2 hT hN hG hadd
          go_wp2_with (at_builtin; refine wpList_append_two _ rfl _ _ 34 rfl w.heap.size 24 i1 (.slice none 0 0) 24 Tryz.underlying34 HJ.out.1 HJ.out.2.1 HJ.out.2.2.1 HJ.out.2.2.2 rfl _ _ rfl HO3.out ⟨w2.heap.size, 0, none⟩ 1 1 [.slice no (m + 60) nc] rfl rfl ?d1 ?d2 (Nat.zero_lt_succ 0) ?d3 ?d4 ?d5 ?_)
          case d1 => intro j u hj; rcases j with _ | j <;> simp at hj; subst hj; simp [Addr.add]
          case d2 => intro u hu; simp at hu; subst hu; rfl
          case d3 => rw [List.length_map, HLN.out]; show j + 1 ≤ maxLen; unfold maxLen; omega
          case d4 => rw [List.length_map, HLN.out]; show (j + 1) * 24 ≤ _; omega
          case d5 => exact Nat.le_trans HW2.out HG2.out.stir.size
          intro v' w3 hO3 _ hT3 _
          have HG3 := Lib.hid (HG.out.step (by decide) HK.out HG2.out (by rw [intMarks_length]) (by rw [intMarks_length]; omega) hO3 hT3)
          clear hO3 hT3
          go_wp2
          go_roundg (L - (j + 1))
          case measure => omega
          case rel => exact ⟨j + 1, _, rfl, by omega, by go_num, HG3⟩
    · obtain rfl : j = L := by omega
      go_wp2
      go_ret
      exact ⟨_, gs, rfl, HG.out⟩
end Go.Proofs.YtpecingkoodmfaaGreatDoor
/- Do lists bear their marks? -/
namespace Go.Proofs.YtpecingkoodmfaaGreatDoor
open Go.RowKit Book
set_option linter.unusedSimpArgs false
set_option linter.unusedVariables false
theorem intMarks_eq (i a n : Nat) : intMarks i a n = ((List.range n).map fun j => markI i (a + j)).map (.int .i64) := by simp [intMarks]
set_option maxHeartbeats 2000000 in
theorem markedInts_any (B : Nat) (v : Value) (ls : List (Value × List Value)) (w : World) (hs : Owns w B 24 v (ls.map (·.1))) (hl : ∀ k ∈ ls, Owns w B 3 k.1 k.2) (hf : ls.length ≤ 250) (hm : ∀ i k, ls[i]? = some k → k.2 = intMarks i 0 k.2.length ∧ k.2.length ≤ 2000000) :
    Calls Tryz.prog 79 #[v] w fun e w' => e = .returned (.bool true) ∧ Below w.heap.size w w' := by
  obtain ⟨ao, cap, hv⟩ := hs.slice
  rw [List.length_map] at hv
  obtain ⟨L, hn⟩ : ∃ n, ls.length = n := ⟨_, rfl⟩
  rw [hn] at hv hf
  subst hv
  have HS := Lib.hid hs
  have HL := Lib.hid hl
  have HN := Lib.hid hn
  have HM := Lib.hid hm
  clear hs hl hn hm
  go_enter Tryz.func79, Tryz.ntmps79
  go_wp2
  go_loopg [3] L (fun g i wr => ∃ j : Nat, g = L - j ∧ j ≤ L ∧ i = .int .i64 j ∧ Hid (Below w.heap.size w wr))
  case atStart => exact ⟨0, rfl, Nat.zero_le _, rfl, Below.refl _ _⟩
  case round =>
    obtain ⟨j, rfl, hj, rfl, HB⟩ := hrel
    by_cases hlt : j < L
    · obtain ⟨⟨v, xs⟩, hk⟩ : ∃ k, ls[j]? = some k := ⟨_, List.getElem?_eq_getElem (by rw [HN.out]; exact hlt)⟩
      have ho := (HL.out _ (List.mem_of_getElem? hk)).below HB.out
      obtain ⟨gS, cS, e1, hcS, _, _⟩ := HS.out.row (by rw [List.length_map, HN.out]; omega)
      rw [List.length_map, HN.out] at e1
      simp only [Value.slice.injEq, true_and] at e1
      obtain ⟨rfl, rfl⟩ := e1
      have k0 := hcS j v (by rw [List.getElem?_map, hk]; rfl)
      have k1 := (Stirred.of_below HB.out []).cell (List.not_mem_nil) k0
      obtain ⟨n, hn⟩ : ∃ n, xs.length = n := ⟨_, rfl⟩
      have hxs := (HM.out _ _ hk).1
      have hn6 := (HM.out _ _ hk).2
      dsimp only at hxs hn6 ho
      rw [hn] at hxs hn6
      subst hxs
      obtain ⟨bo, bc, hbv⟩ := ho.slice
      rw [hn] at hbv
      subst hbv
      have HO := Lib.hid ho
      have hj0 : (0 : Int) ≤ (j : Int) := Int.natCast_nonneg _
      have hj1 : (j : Int) < (L : Int) := by omega
      have C := fun w => Lib.hid (markInts_any j 0 n (by omega) (by omega) (by omega) w)
      clear ho hk hn hcS k0
      go_wp2_with fail
      go_region_held3 (fun w' => w'.cell? ⟨gS, j, none⟩ = some (.slice bo n bc) ∧ Hid (Below wr.heap.size wr w'))
        (first
          | exact ⟨(Stirred.of_below HB2.out []).cell (List.not_mem_nil) k1, HB2⟩
          | exact ⟨(Stirred.of_below HB1.out []).cell (List.not_mem_nil) k1, HB1⟩
          | exact ⟨k1, (Below.refl wr.heap.size wr).drew⟩)
        (first
          | (go_at_call 105; refine (C _).out.mono ?_; rintro e w1 ⟨f, rfl, hf, hb⟩; have HB1 := Lib.hid ((Below.refl wr.heap.size wr).drew.trans hb); have HF := Lib.hid hf; clear hf hb)
          | (go_at_call 21; have hf := HF.out; have ho := HO.out.below HB1.out; rw [intMarks_eq] at hf ho; refine (sameInts_any _ _ _ _ _ _ ho hf (by simp; omega)).mono ?_; clear hf ho; rintro e w2 ⟨rfl, q, hq⟩; have HB2 := Lib.hid (show Below wr.heap.size wr w2 by rw [hq]; exact HB1.out.trans (bk_below_drewN _ _ _)); clear hq))
      all_goals go_wp2
      go_roundg (L - (j + 1))
      case measure => omega
      case rel => exact ⟨j + 1, rfl, by omega, by go_num, HB.out.trans (HB2.out.mono HB.out.size)⟩
    · obtain rfl : j = L := by omega
      go_wp2
      go_ret
      exact ⟨rfl, HB.out⟩
end Go.Proofs.YtpecingkoodmfaaGreatDoor
/- Kinds of which a book keeps no list: nothing is done. -/
namespace Go.Proofs.YtpecingkoodmfaaGreatDoor
open Go.RowKit Book
set_option linter.unusedSimpArgs false
set_option linter.unusedVariables false
theorem stillTexts_none (p : Nat) (w : World) (c0 : w.cell? ⟨p, 0, none⟩ = some (.slice none 0 0)) :
    Calls Tryz.prog 60 #[.pointer (some ⟨p, 0, none⟩)] w fun e w' => e = .returned (.bool true) ∧ w' = w := by
  go_enter Tryz.func60, Tryz.ntmps60
  go_wp2
  go_loopg [3] 0 (fun g i wr => i = .int .i64 0 ∧ wr = w)
  case atStart => exact ⟨rfl, rfl⟩
  case round =>
    obtain ⟨rfl, rfl⟩ := hrel
    go_wp2
    go_ret
    exact ⟨rfl, rfl⟩
theorem putTexts_none (p : Nat) (w : World) (c0 : w.cell? ⟨p, 0, none⟩ = some (.slice none 0 0)) :
    Calls Tryz.prog 67 #[.pointer (some ⟨p, 0, none⟩)] w fun e w' => e = .returned (.tuple #[]) ∧ w' = w := by
  go_enter Tryz.func67, Tryz.ntmps67
  go_wp2
  go_loopg [2] 0 (fun g i wr => i = .int .i64 0 ∧ wr = w)
  case atStart => exact ⟨rfl, rfl⟩
  case round =>
    obtain ⟨rfl, rfl⟩ := hrel
    go_wp2
    go_end0
    exact ⟨rfl, rfl⟩
theorem growTexts_none (p : Nat) (w : World) (c0 : w.cell? ⟨p, 0, none⟩ = some (.slice none 0 0)) :
    Calls Tryz.prog 72 #[.pointer (some ⟨p, 0, none⟩)] w fun e w' => e = .returned (.slice none 0 0) ∧ w' = w := by
  go_enter Tryz.func72, Tryz.ntmps72
  go_wp2
  go_loopg [3, 4] 0 (fun g v i wr => v = .slice none 0 0 ∧ i = .int .i64 0 ∧ wr = w)
  case atStart => exact ⟨rfl, rfl, rfl⟩
  case round =>
    obtain ⟨rfl, rfl, rfl⟩ := hrel
    go_wp2
    go_ret
    exact ⟨rfl, rfl⟩
theorem markedTexts_none (w : World) :
    Calls Tryz.prog 78 #[.slice none 0 0] w fun e w' => e = .returned (.bool true) ∧ w' = w := by
  go_enter Tryz.func78, Tryz.ntmps78
  go_wp2
  go_loopg [3] 0 (fun g i wr => i = .int .i64 0 ∧ wr = w)
  case atStart => exact ⟨rfl, rfl⟩
  case round =>
    obtain ⟨rfl, rfl⟩ := hrel
    go_wp2
    go_ret
    exact ⟨rfl, rfl⟩
theorem stillWords_none (p : Nat) (w : World) (c0 : w.cell? ⟨p, 4, none⟩ = some (.slice none 0 0)) :
    Calls Tryz.prog 62 #[.pointer (some ⟨p, 0, none⟩)] w fun e w' => e = .returned (.bool true) ∧ w' = w := by
  go_enter Tryz.func62, Tryz.ntmps62
  go_wp2
  go_loopg [3] 0 (fun g i wr => i = .int .i64 0 ∧ wr = w)
  case atStart => exact ⟨rfl, rfl⟩
  case round =>
    obtain ⟨rfl, rfl⟩ := hrel
    go_wp2
    go_ret
    exact ⟨rfl, rfl⟩
theorem putWords_none (p : Nat) (w : World) (c0 : w.cell? ⟨p, 4, none⟩ = some (.slice none 0 0)) :
    Calls Tryz.prog 69 #[.pointer (some ⟨p, 0, none⟩)] w fun e w' => e = .returned (.tuple #[]) ∧ w' = w := by
  go_enter Tryz.func69, Tryz.ntmps69
  go_wp2
  go_loopg [2] 0 (fun g i wr => i = .int .i64 0 ∧ wr = w)
  case atStart => exact ⟨rfl, rfl⟩
  case round =>
    obtain ⟨rfl, rfl⟩ := hrel
    go_wp2
    go_end0
    exact ⟨rfl, rfl⟩
theorem growWords_none (p : Nat) (w : World) (c0 : w.cell? ⟨p, 4, none⟩ = some (.slice none 0 0)) :
    Calls Tryz.prog 74 #[.pointer (some ⟨p, 0, none⟩)] w fun e w' => e = .returned (.slice none 0 0) ∧ w' = w := by
  go_enter Tryz.func74, Tryz.ntmps74
  go_wp2
  go_loopg [3, 4] 0 (fun g v i wr => v = .slice none 0 0 ∧ i = .int .i64 0 ∧ wr = w)
  case atStart => exact ⟨rfl, rfl, rfl⟩
  case round =>
    obtain ⟨rfl, rfl, rfl⟩ := hrel
    go_wp2
    go_ret
    exact ⟨rfl, rfl⟩
theorem markedWords_none (w : World) :
    Calls Tryz.prog 80 #[.slice none 0 0] w fun e w' => e = .returned (.bool true) ∧ w' = w := by
  go_enter Tryz.func80, Tryz.ntmps80
  go_wp2
  go_loopg [3] 0 (fun g i wr => i = .int .i64 0 ∧ wr = w)
  case atStart => exact ⟨rfl, rfl⟩
  case round =>
    obtain ⟨rfl, rfl⟩ := hrel
    go_wp2
    go_ret
    exact ⟨rfl, rfl⟩
theorem stillSeens_none (p : Nat) (w : World) (c0 : w.cell? ⟨p, 6, none⟩ = some (.slice none 0 0)) :
    Calls Tryz.prog 63 #[.pointer (some ⟨p, 0, none⟩)] w fun e w' => e = .returned (.bool true) ∧ w' = w := by
  go_enter Tryz.func63, Tryz.ntmps63
  go_wp2
  go_loopg [3] 0 (fun g i wr => i = .int .i64 0 ∧ wr = w)
  case atStart => exact ⟨rfl, rfl⟩
  case round =>
    obtain ⟨rfl, rfl⟩ := hrel
    go_wp2
    go_ret
    exact ⟨rfl, rfl⟩
theorem putSeens_none (p : Nat) (w : World) (c0 : w.cell? ⟨p, 6, none⟩ = some (.slice none 0 0)) :
    Calls Tryz.prog 70 #[.pointer (some ⟨p, 0, none⟩)] w fun e w' => e = .returned (.tuple #[]) ∧ w' = w := by
  go_enter Tryz.func70, Tryz.ntmps70
  go_wp2
  go_loopg [2] 0 (fun g i wr => i = .int .i64 0 ∧ wr = w)
  case atStart => exact ⟨rfl, rfl⟩
  case round =>
    obtain ⟨rfl, rfl⟩ := hrel
    go_wp2
    go_end0
    exact ⟨rfl, rfl⟩
theorem growSeens_none (p : Nat) (w : World) (c0 : w.cell? ⟨p, 6, none⟩ = some (.slice none 0 0)) :
    Calls Tryz.prog 75 #[.pointer (some ⟨p, 0, none⟩)] w fun e w' => e = .returned (.slice none 0 0) ∧ w' = w := by
  go_enter Tryz.func75, Tryz.ntmps75
  go_wp2
  go_loopg [3, 4] 0 (fun g v i wr => v = .slice none 0 0 ∧ i = .int .i64 0 ∧ wr = w)
  case atStart => exact ⟨rfl, rfl, rfl⟩
  case round =>
    obtain ⟨rfl, rfl, rfl⟩ := hrel
    go_wp2
    go_ret
    exact ⟨rfl, rfl⟩
theorem markedSeens_none (w : World) :
    Calls Tryz.prog 81 #[.slice none 0 0] w fun e w' => e = .returned (.bool true) ∧ w' = w := by
  go_enter Tryz.func81, Tryz.ntmps81
  go_wp2
  go_loopg [3] 0 (fun g i wr => i = .int .i64 0 ∧ wr = w)
  case atStart => exact ⟨rfl, rfl⟩
  case round =>
    obtain ⟨rfl, rfl⟩ := hrel
    go_wp2
    go_ret
    exact ⟨rfl, rfl⟩
theorem stillCodes_none (p : Nat) (w : World) (c0 : w.cell? ⟨p, 8, none⟩ = some (.slice none 0 0)) :
    Calls Tryz.prog 64 #[.pointer (some ⟨p, 0, none⟩)] w fun e w' => e = .returned (.bool true) ∧ w' = w := by
  go_enter Tryz.func64, Tryz.ntmps64
  go_wp2
  go_loopg [3] 0 (fun g i wr => i = .int .i64 0 ∧ wr = w)
  case atStart => exact ⟨rfl, rfl⟩
  case round =>
    obtain ⟨rfl, rfl⟩ := hrel
    go_wp2
    go_ret
    exact ⟨rfl, rfl⟩
theorem putCodes_none (p : Nat) (w : World) (c0 : w.cell? ⟨p, 8, none⟩ = some (.slice none 0 0)) :
    Calls Tryz.prog 71 #[.pointer (some ⟨p, 0, none⟩)] w fun e w' => e = .returned (.tuple #[]) ∧ w' = w := by
  go_enter Tryz.func71, Tryz.ntmps71
  go_wp2
  go_loopg [2] 0 (fun g i wr => i = .int .i64 0 ∧ wr = w)
  case atStart => exact ⟨rfl, rfl⟩
  case round =>
    obtain ⟨rfl, rfl⟩ := hrel
    go_wp2
    go_end0
    exact ⟨rfl, rfl⟩
theorem growCodes_none (p : Nat) (w : World) (c0 : w.cell? ⟨p, 8, none⟩ = some (.slice none 0 0)) :
    Calls Tryz.prog 76 #[.pointer (some ⟨p, 0, none⟩)] w fun e w' => e = .returned (.slice none 0 0) ∧ w' = w := by
  go_enter Tryz.func76, Tryz.ntmps76
  go_wp2
  go_loopg [3, 4] 0 (fun g v i wr => v = .slice none 0 0 ∧ i = .int .i64 0 ∧ wr = w)
  case atStart => exact ⟨rfl, rfl, rfl⟩
  case round =>
    obtain ⟨rfl, rfl, rfl⟩ := hrel
    go_wp2
    go_ret
    exact ⟨rfl, rfl⟩
theorem markedCodes_none (w : World) :
    Calls Tryz.prog 82 #[.slice none 0 0] w fun e w' => e = .returned (.bool true) ∧ w' = w := by
  go_enter Tryz.func82, Tryz.ntmps82
  go_wp2
  go_loopg [3] 0 (fun g i wr => i = .int .i64 0 ∧ wr = w)
  case atStart => exact ⟨rfl, rfl⟩
  case round =>
    obtain ⟨rfl, rfl⟩ := hrel
    go_wp2
    go_ret
    exact ⟨rfl, rfl⟩
theorem stillExits_none (p : Nat) (w : World) (c0 : w.cell? ⟨p, 10, none⟩ = some (.slice none 0 0)) :
    Calls Tryz.prog 65 #[.pointer (some ⟨p, 0, none⟩)] w fun e w' => e = .returned (.bool true) ∧ w' = w := by
  go_enter Tryz.func65, Tryz.ntmps65
  go_wp2
  go_loopg [3] 0 (fun g i wr => i = .int .i64 0 ∧ wr = w)
  case atStart => exact ⟨rfl, rfl⟩
  case round =>
    obtain ⟨rfl, rfl⟩ := hrel
    go_wp2
    go_ret
    exact ⟨rfl, rfl⟩
theorem putExits_none (p : Nat) (w : World) (c0 : w.cell? ⟨p, 10, none⟩ = some (.slice none 0 0)) :
    Calls Tryz.prog 66 #[.pointer (some ⟨p, 0, none⟩)] w fun e w' => e = .returned (.tuple #[]) ∧ w' = w := by
  go_enter Tryz.func66, Tryz.ntmps66
  go_wp2
  go_loopg [2] 0 (fun g i wr => i = .int .i64 0 ∧ wr = w)
  case atStart => exact ⟨rfl, rfl⟩
  case round =>
    obtain ⟨rfl, rfl⟩ := hrel
    go_wp2
    go_end0
    exact ⟨rfl, rfl⟩
theorem growExits_none (p : Nat) (w : World) (c0 : w.cell? ⟨p, 10, none⟩ = some (.slice none 0 0)) :
    Calls Tryz.prog 77 #[.pointer (some ⟨p, 0, none⟩)] w fun e w' => e = .returned (.slice none 0 0) ∧ w' = w := by
  go_enter Tryz.func77, Tryz.ntmps77
  go_wp2
  go_loopg [3, 4] 0 (fun g v i wr => v = .slice none 0 0 ∧ i = .int .i64 0 ∧ wr = w)
  case atStart => exact ⟨rfl, rfl, rfl⟩
  case round =>
    obtain ⟨rfl, rfl, rfl⟩ := hrel
    go_wp2
    go_ret
    exact ⟨rfl, rfl⟩
theorem markedExits_none (w : World) :
    Calls Tryz.prog 83 #[.slice none 0 0] w fun e w' => e = .returned (.bool true) ∧ w' = w := by
  go_enter Tryz.func83, Tryz.ntmps83
  go_wp2
  go_loopg [3] 0 (fun g i wr => i = .int .i64 0 ∧ wr = w)
  case atStart => exact ⟨rfl, rfl⟩
  case round =>
    obtain ⟨rfl, rfl⟩ := hrel
    go_wp2
    go_ret
    exact ⟨rfl, rfl⟩
end Go.Proofs.YtpecingkoodmfaaGreatDoor
/- Lists that were marked bear marks. -/
namespace Go.Proofs.YtpecingkoodmfaaGreatDoor
open Book
theorem done_marks {ls cur : List (Value × List Value)} {mk : Nat → Nat → List Value} (h : Done mk ls ls.length cur) (hm : ∀ i n, (mk i n).length = n) (most : Nat) (hl : ∀ k ∈ ls, k.2.length ≤ most) : ∀ i k, cur[i]? = some k → k.2 = mk i k.2.length ∧ k.2.length ≤ most := by
  intro i k hk
  have hi : i < ls.length := by rw [← h.len]; exact (List.getElem?_eq_some_iff.1 hk).1
  have h1 : ls[i]? = some ls[i] := List.getElem?_eq_getElem hi
  have h2 := h.done i _ hi h1
  rw [hk] at h2
  simp only [Option.some.injEq] at h2
  subst h2
  dsimp only
  rw [hm]
  exact ⟨rfl, hl _ (List.mem_of_getElem? h1)⟩
end Go.Proofs.YtpecingkoodmfaaGreatDoor
/- A book that keeps lists of one kind alone (Ints): is each as it was, and apart from the others? -/
namespace Go.Proofs.YtpecingkoodmfaaGreatDoor
open Go.RowKit Book
set_option linter.unusedSimpArgs false
set_option linter.unusedVariables false
/-- a book that keeps one kind alone -/
structure BookInts (w : World) (p : Nat) (vS : Value) : Prop where
  c2 : w.cell? ⟨p, 2, none⟩ = some vS
  c0 : w.cell? ⟨p, 0, none⟩ = some (.slice none 0 0)
  c4 : w.cell? ⟨p, 4, none⟩ = some (.slice none 0 0)
  c6 : w.cell? ⟨p, 6, none⟩ = some (.slice none 0 0)
  c8 : w.cell? ⟨p, 8, none⟩ = some (.slice none 0 0)
  c10 : w.cell? ⟨p, 10, none⟩ = some (.slice none 0 0)
theorem BookInts.stirred {w w' : World} {bs : List Nat} {p : Nat} {vS : Value} (h : BookInts w p vS) (ht : Stirred w w' bs) (hn : p ∉ bs) : BookInts w' p vS :=
  ⟨ht.cell hn h.c2, ht.cell hn h.c0, ht.cell hn h.c4, ht.cell hn h.c6, ht.cell hn h.c8, ht.cell hn h.c10⟩
set_option maxHeartbeats 4000000 in
theorem apartInts_any (p B : Nat) (vS vW : Value) (ls : List (Value × List Value)) (w : World) (hp : p < B) (hB : B ≤ w.heap.size) (hb : BookInts w p vS) (c1 : w.cell? ⟨p, 3, none⟩ = some vW) (bs : List Nat) (hk : Kept w B 24 3 goodInts vS vW ls bs) :
    Calls Tryz.prog 25 #[.pointer (some ⟨p, 0, none⟩)] w fun e w' => e = .returned (.bool true) ∧ Below B w w' := by
  have hlen : ∀ k ∈ ls, k.2.length ≤ 1000000 := fun k hkm => by obtain ⟨ss, h1, h2⟩ := hk.fine k hkm; rw [h1, List.length_map]; exact h2
  have HK := Lib.hid hk
  have HL := Lib.hid hlen
  have HT := Lib.hid hb
  have HC1 := Lib.hid c1
  have hpb := Lib.hid (fun h => Nat.lt_irrefl p (Nat.lt_of_lt_of_le hp (hk.lists.lt p h).1) : p ∉ blocks ls)
  clear hlen hb c1 hk
  go_enter Tryz.func25, Tryz.ntmps25
  have C := Lib.hid (stillTexts_none p w HT.out.c0)
  go_wp2_with fail
  refine C.out.mono ?_
  rintro e wz ⟨rfl, hwz⟩
  subst wz
  clear C
  have C := Lib.hid (stillInts_any p B vS vW ls w HT.out.c2 HC1.out bs HK.out)
  go_wp2_with fail
  refine C.out.mono ?_
  rintro e w0 ⟨rfl, q, hq⟩
  have hs0 : Stirred w w0 [] := by rw [hq]; exact Stirred.drewN _ _ _
  have HS0 := Lib.hid hs0
  have HB0 := Lib.hid (show Below w.heap.size w w0 by rw [hq]; exact bk_below_drewN _ _ _)
  have T0 := Lib.hid (HT.out.stirred hs0 List.not_mem_nil)
  have L0 := Lib.hid (HK.out.lists.below HB0.out)
  clear hq hs0 C
  have C := Lib.hid (stillWords_none p w0 T0.out.c4)
  go_wp2_with fail
  refine C.out.mono ?_
  rintro e wz ⟨rfl, hwz⟩
  subst wz
  clear C
  have C := Lib.hid (stillSeens_none p w0 T0.out.c6)
  go_wp2_with fail
  refine C.out.mono ?_
  rintro e wz ⟨rfl, hwz⟩
  subst wz
  clear C
  have C := Lib.hid (stillCodes_none p w0 T0.out.c8)
  go_wp2_with fail
  refine C.out.mono ?_
  rintro e wz ⟨rfl, hwz⟩
  subst wz
  clear C
  have C := Lib.hid (stillExits_none p w0 T0.out.c10)
  go_wp2_with fail
  refine C.out.mono ?_
  rintro e wz ⟨rfl, hwz⟩
  subst wz
  clear C
  have C := Lib.hid (putExits_none p w0 T0.out.c10)
  go_wp2_with fail
  refine C.out.mono ?_
  rintro e wz ⟨rfl, hwz⟩
  subst wz
  clear C
  have C := Lib.hid (putTexts_none p w0 T0.out.c0)
  go_wp2_with fail
  refine C.out.mono ?_
  rintro e wz ⟨rfl, hwz⟩
  subst wz
  clear C
  have C := Lib.hid (putInts_any p B vS ls w0 hp T0.out.c2 L0.out HK.out.few HL.out)
  go_wp2_with fail
  refine C.out.mono ?_
  rintro e w1 ⟨rfl, cur, hd, hl, ht⟩
  have D1 := Lib.hid hd
  have L1 := Lib.hid hl
  have S1 := Lib.hid ((HS0.out.more (fun _ h => (by cases h))).trans ht (fun k hk => .inl hk) : Stirred w w1 (blocks ls))
  have T1 := Lib.hid (T0.out.stirred ht hpb.out)
  clear C hd hl ht
  have C := Lib.hid (putWords_none p w1 T1.out.c4)
  go_wp2_with fail
  refine C.out.mono ?_
  rintro e wz ⟨rfl, hwz⟩
  subst wz
  clear C
  have C := Lib.hid (putSeens_none p w1 T1.out.c6)
  go_wp2_with fail
  refine C.out.mono ?_
  rintro e wz ⟨rfl, hwz⟩
  subst wz
  clear C
  have C := Lib.hid (putCodes_none p w1 T1.out.c8)
  go_wp2_with fail
  refine C.out.mono ?_
  rintro e wz ⟨rfl, hwz⟩
  subst wz
  clear C
  have C := Lib.hid (growTexts_none p w1 T1.out.c0)
  go_wp2_with fail
  refine C.out.mono ?_
  rintro e wz ⟨rfl, hwz⟩
  subst wz
  clear C
  have hmk := Lib.hid (done_marks D1.out (fun i n => intMarks_length i 0 n) 1000000 HL.out)
  have C := Lib.hid (growInts_any p B vS cur w1 hp (Nat.le_trans hB S1.out.size) T1.out.c2 L1.out (by rw [D1.out.len]; exact HK.out.few) (fun k hk => by obtain ⟨i, hi⟩ := List.getElem?_of_mem hk; exact (hmk.out i k hi).2) (fun i k hi => (hmk.out i k hi).1))
  go_wp2_with fail
  refine C.out.mono ?_
  rintro e w2 ⟨vO, gs, rfl, hg⟩
  have G2 := Lib.hid hg
  have hst : Stirred w1 w2 (blocks ls) := by have := hg.stir; rw [D1.out.blocks] at this; exact this
  have S2 := Lib.hid (S1.out.trans hst (fun k hk => .inl hk))
  have T2 := Lib.hid (T1.out.stirred hst hpb.out)
  clear C hg hst
  have C := Lib.hid (growWords_none p w2 T2.out.c4)
  go_wp2_with fail
  refine C.out.mono ?_
  rintro e wz ⟨rfl, hwz⟩
  subst wz
  clear C
  have C := Lib.hid (growSeens_none p w2 T2.out.c6)
  go_wp2_with fail
  refine C.out.mono ?_
  rintro e wz ⟨rfl, hwz⟩
  subst wz
  clear C
  have C := Lib.hid (growCodes_none p w2 T2.out.c8)
  go_wp2_with fail
  refine C.out.mono ?_
  rintro e wz ⟨rfl, hwz⟩
  subst wz
  clear C
  have C := Lib.hid (growExits_none p w2 T2.out.c10)
  go_wp2_with fail
  refine C.out.mono ?_
  rintro e wz ⟨rfl, hwz⟩
  subst wz
  clear C
  have c0 := T2.out.c0
  have c2 := T2.out.c2
  have c4 := T2.out.c4
  have c6 := T2.out.c6
  have c8 := T2.out.c8
  have c10 := T2.out.c10
  have C := Lib.hid (markedTexts_none w2)
  go_wp2_with fail
  refine C.out.mono ?_
  rintro e wz ⟨rfl, hwz⟩
  subst wz
  clear C
  have C := Lib.hid (markedTexts_none w2)
  go_wp2_with fail
  refine C.out.mono ?_
  rintro e wz ⟨rfl, hwz⟩
  subst wz
  clear C
  clear c0 c2 c4 c6 c8 c10
  have hlg := Lib.hid (show gs.length ≤ 250 by rw [G2.out.len, D1.out.len]; exact HK.out.few)
  have C := Lib.hid (markedInts_any B vO gs w2 (G2.out.out.from (Nat.le_trans hB S1.out.size)) G2.out.list hlg.out G2.out.mark)
  go_wp2_with fail
  refine C.out.mono ?_
  rintro e w3 ⟨rfl, hb⟩
  have S3 := Lib.hid (S2.out.trans (Stirred.of_below hb []) (fun _ h => (by cases h)))
  have T3 := Lib.hid (T2.out.stirred (Stirred.of_below hb []) List.not_mem_nil)
  have L3 := Lib.hid (G2.out.old.below hb)
  clear C hb
  have c0 := T3.out.c0
  have c2 := T3.out.c2
  have c4 := T3.out.c4
  have c6 := T3.out.c6
  have c8 := T3.out.c8
  have c10 := T3.out.c10
  have C := Lib.hid (markedInts_any B vS cur w3 L3.out.spine L3.out.list (by rw [D1.out.len]; exact HK.out.few) (fun i k hi => ⟨(hmk.out i k hi).1, Nat.le_trans (hmk.out i k hi).2 (by decide)⟩))
  go_wp2_with fail
  refine C.out.mono ?_
  rintro e w4 ⟨rfl, hb⟩
  have S4 := Lib.hid (S3.out.trans (Stirred.of_below hb []) (fun _ h => (by cases h)))
  have T4 := Lib.hid (T3.out.stirred (Stirred.of_below hb []) List.not_mem_nil)
  clear C hb
  clear c0 c2 c4 c6 c8 c10
  have c0 := T4.out.c0
  have c2 := T4.out.c2
  have c4 := T4.out.c4
  have c6 := T4.out.c6
  have c8 := T4.out.c8
  have c10 := T4.out.c10
  have C := Lib.hid (markedWords_none w4)
  go_wp2_with fail
  refine C.out.mono ?_
  rintro e wz ⟨rfl, hwz⟩
  subst wz
  clear C
  have C := Lib.hid (markedWords_none w4)
  go_wp2_with fail
  refine C.out.mono ?_
  rintro e wz ⟨rfl, hwz⟩
  subst wz
  clear C
  have C := Lib.hid (markedSeens_none w4)
  go_wp2_with fail
  refine C.out.mono ?_
  rintro e wz ⟨rfl, hwz⟩
  subst wz
  clear C
  have C := Lib.hid (markedSeens_none w4)
  go_wp2_with fail
  refine C.out.mono ?_
  rintro e wz ⟨rfl, hwz⟩
  subst wz
  clear C
  have C := Lib.hid (markedCodes_none w4)
  go_wp2_with fail
  refine C.out.mono ?_
  rintro e wz ⟨rfl, hwz⟩
  subst wz
  clear C
  have C := Lib.hid (markedCodes_none w4)
  go_wp2_with fail
  refine C.out.mono ?_
  rintro e wz ⟨rfl, hwz⟩
  subst wz
  clear C
  have C := Lib.hid (markedExits_none w4)
  go_wp2_with fail
  refine C.out.mono ?_
  rintro e wz ⟨rfl, hwz⟩
  subst wz
  clear C
  have C := Lib.hid (markedExits_none w4)
  go_wp2_with fail
  refine C.out.mono ?_
  rintro e wz ⟨rfl, hwz⟩
  subst wz
  clear C
  go_wp2
  go_ret
  exact ⟨rfl, S4.out.below (fun k hk => (HK.out.lists.lt k hk).1) hB⟩
end Go.Proofs.YtpecingkoodmfaaGreatDoor
/- Machines held against each other; lent; laid into a book. -/
namespace Go.Proofs.YtpecingkoodmfaaGreatDoor.Mach
open Go.RowKit Book Mem
set_option linter.unusedVariables false
set_option linter.unusedSimpArgs false
/-- two new boxes -/
theorem two_boxes2 (w : World) (cs cs' : Array Value) : ∃ w1 w2 g r, w.alloc (.cells cs 50) = w1 ∧ w1.alloc (.cells cs' 50) = w2 ∧ w.heap.size = g ∧ w1.heap.size = r ∧
    Hid (w2.heap[g]? = some (.cells cs 50 (0, 0))) ∧ Hid (w2.heap[r]? = some (.cells cs' 50 (0, 0))) ∧ Hid (Below w.heap.size w w2) ∧ Hid (g < r) ∧ Hid (w.heap.size = g) := by
  have hb1 := (Below.refl w.heap.size w).alloc (Nat.le_refl _) (.cells cs 50)
  have hn1 := heap_alloc_new w (.cells cs 50)
  have hb2 := (Below.refl (w.alloc (.cells cs 50)).heap.size (w.alloc (.cells cs 50))).alloc (Nat.le_refl _) (.cells cs' 50)
  have hn2 := heap_alloc_new (w.alloc (.cells cs 50)) (.cells cs' 50)
  exact ⟨_, _, _, _, rfl, rfl, rfl, rfl, (Stirred.of_below hb2 []).whole hn1 List.not_mem_nil, hn2, hb1.trans (hb2.mono hb1.size), whole_lt hn1, rfl⟩
set_option maxHeartbeats 8000000 in
set_option maxRecDepth 100000 in
theorem sameState_any {w : World} {v v' : Value} {m : M} (h : ReadsM w v m) (h' : ReadsM w v' m) (h1 : m.stack.length ≤ 10000) (h2 : m.back.length ≤ 10000) (h3 : m.mem.length ≤ 10000) :
    Calls Tryz.prog 34 #[v, v'] w (Says (.bool true) w) := by
  obtain ⟨vs, vb, vm, rfl, hs, hb, hm⟩ := h
  obtain ⟨vs', vb', vm', rfl, hs', hb', hm'⟩ := h'
  obtain ⟨ip, hh, st, bk, me, ou, inn, rd, stt, cd⟩ := m
  simp only at hs hb hm hs' hb' hm' h1 h2 h3 ⊢
  have C1 := Lib.hid (fun wc (hbw : Below w.heap.size w wc) => sameReads_any vs vs' st wc (hs.1.below hbw) (hs'.1.below hbw) (by omega))
  have C2 := Lib.hid (fun wc (hbw : Below w.heap.size w wc) => sameReads_any vb vb' bk wc (hb.1.below hbw) (hb'.1.below hbw) (by omega))
  have C3 := Lib.hid (fun wc (hbw : Below w.heap.size w wc) => sameReads_any vm vm' me wc (hm.1.below hbw) (hm'.1.below hbw) (by omega))
  obtain ⟨w1, w2, g, r, hw1, hw2, hg, hr, HG, HR, HB, HZ, HW⟩ := two_boxes2 w (cells10 ip hh vs vb vm ou inn rd stt cd) (cells10 ip hh vs' vb' vm' ou inn rd stt cd)
  have e1 : (ou.toList == ou.toList) = true := beq_self_eq_true _
  have e2 : (inn.toList == inn.toList) = true := beq_self_eq_true _
  clear hs hb hm hs' hb' hm' h1 h2 h3
  go_enter Tryz.func34, Tryz.ntmps34
  simp only [List.append_eq, List.cons_append, List.nil_append]
  go_wp2_with (first
    | (refine ld_int (by rfl) _ rfl _ rfl _ (whole_cell HG.out rfl) ?_)
    | (refine ld_int (by rfl) _ rfl _ rfl _ (whole_cell HR.out rfl) ?_)
    | (refine ld_ints (by rfl) _ rfl _ rfl _ (whole_cell HG.out rfl) ?_)
    | (refine ld_ints (by rfl) _ rfl _ rfl _ (whole_cell HR.out rfl) ?_)
    | (refine ld_str (by rfl) _ rfl _ rfl _ (whole_cell HG.out rfl) ?_)
    | (refine ld_str (by rfl) _ rfl _ rfl _ (whole_cell HR.out rfl) ?_)
    | (go_at_call 21; (with_reducible refine (C1.out _ HB.out).mono ?_); rintro e wn ⟨rfl, q, hq⟩; have HB := Lib.hid (show Below w.heap.size w wn by rw [hq]; exact HB.out.trans (bk_below_drewN _ _ _)); have HG := Lib.hid (show wn.heap[g]? = some (.cells (cells10 ip hh vs vb vm ou inn rd stt cd) 50 (0, 0)) by rw [hq]; exact HG.out); have HR := Lib.hid (show wn.heap[r]? = some (.cells (cells10 ip hh vs' vb' vm' ou inn rd stt cd) 50 (0, 0)) by rw [hq]; exact HR.out); clear hq)
    | (go_at_call 21; (with_reducible refine (C2.out _ HB.out).mono ?_); rintro e wn ⟨rfl, q, hq⟩; have HB := Lib.hid (show Below w.heap.size w wn by rw [hq]; exact HB.out.trans (bk_below_drewN _ _ _)); have HG := Lib.hid (show wn.heap[g]? = some (.cells (cells10 ip hh vs vb vm ou inn rd stt cd) 50 (0, 0)) by rw [hq]; exact HG.out); have HR := Lib.hid (show wn.heap[r]? = some (.cells (cells10 ip hh vs' vb' vm' ou inn rd stt cd) 50 (0, 0)) by rw [hq]; exact HR.out); clear hq)
    | (go_at_call 21; (with_reducible refine (C3.out _ HB.out).mono ?_); rintro e wn ⟨rfl, q, hq⟩; have HB := Lib.hid (show Below w.heap.size w wn by rw [hq]; exact HB.out.trans (bk_below_drewN _ _ _)); have HG := Lib.hid (show wn.heap[g]? = some (.cells (cells10 ip hh vs vb vm ou inn rd stt cd) 50 (0, 0)) by rw [hq]; exact HG.out); have HR := Lib.hid (show wn.heap[r]? = some (.cells (cells10 ip hh vs' vb' vm' ou inn rd stt cd) 50 (0, 0)) by rw [hq]; exact HR.out); clear hq))
  go_ret
  exact ⟨rfl, HB.out⟩
end Go.Proofs.YtpecingkoodmfaaGreatDoor.Mach
