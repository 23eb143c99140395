
/- Package hot: one more place, passes, counts, what is forgotten. -/
import Derived.Test.YtajgkheagahfeaaHotDo
namespace Go.Proofs.Ytajgkheagahfeaa.Hot
open Go.RowKit Book Book.Wide
set_option linter.unusedSimpArgs false
set_option linter.unusedVariables false
theorem placeInfo : (Try.prog.info? 41).map (fun i => (i.zero, i.size, i.bytes)) = some (some (.agg #[.int .i64 0, .int .i64 0]), 2, 16) := by kernel_rfl
/-- the place that was given up, if there was no room -/
def Freed (ps : List Pl) (rs : List Pl) : Prop := (ps.length < 32 ∧ rs = ps) ∨ (32 ≤ ps.length ∧ ∃ (f : Nat) (x : Pl), ps[f]? = some x ∧ (∀ y ∈ ps, goesB y x = false) ∧ rs = dropAt ps f)
theorem Freed.few {ps rs : List Pl} (h : Freed ps rs) (hf : ps.length ≤ 32) : rs.length < 32 := by
  rcases h with ⟨h1, rfl⟩ | ⟨h1, f, x, h2, h3, rfl⟩
  · exact h1
  · rw [dropAt_length]; omega
/-- a place more -/
def Put (w : World) (B p : Nat) (bs : List Nat) (n : Int) (ps : List Pl) (ip : Int) (e : Ending) (w' : World) : Prop :=
  ∃ (rs : List Pl) (bs' : List Nat), Freed ps rs ∧ e = .returned (.int .i64 (rs.length : Int)) ∧
    At w' B p bs' n (rs ++ [(ip, 0)]) ∧ Stirred w w' bs ∧ ∀ k ∈ bs', k ∈ bs ∨ w.heap.size ≤ k
set_option maxHeartbeats 4000000 in
theorem put_any {w : World} {B p : Nat} {bs : List Nat} {n : Int} {ps : List Pl} (h : At w B p bs n ps) (hB : B ≤ w.heap.size) (ip : Int) :
    Calls Try.prog 14 #[.pointer (some ⟨p, 0, none⟩), .int .i64 ip] w (Put w B p bs n ps ip) := by
  obtain ⟨i0, q1, q2, q3, q4⟩ := info_parts placeInfo
  have HI := Lib.hid (And.intro q1 (And.intro q2 (And.intro q3 q4)))
  clear q1 q2 q3 q4
  have HA := Lib.hid h
  have HBW := Lib.hid hB
  have hfew := h.few
  have HFW := Lib.hid hfew
  obtain ⟨v, h1, h2, _⟩ := h.own
  obtain ⟨vo, vc, rfl⟩ := h2.slice (cells_len ps) (by decide)
  obtain ⟨m, hm⟩ : ∃ m, ps.length = m := ⟨_, rfl⟩
  have HM := Lib.hid hm
  rw [hm] at h1 hfew
  have c1 : w.cell? ⟨p, 1, none⟩ = some (.slice vo m vc) := whole_cell h1 rfl
  by_cases hlt : m < 32
  · have z1 : ¬ (32 : Int) ≤ (m : Int) := by omega
    have HP := Lib.hid (show Freed ps ps from .inl ⟨by rw [HM.out]; exact hlt, rfl⟩)
    have HS := Lib.hid (Stirred.refl w bs)
    clear h h1 h2 hB c1
    obtain ⟨v2, k1, k2, k3⟩ := HA.out.own
    obtain ⟨ro, rc, rfl⟩ := k2.slice (cells_len ps) (by decide)
    obtain ⟨r, hr⟩ : ∃ r, ps.length = r := ⟨_, rfl⟩
    have hr32 : r < 32 := by rw [← hr]; exact HP.out.few HFW.out
    have HR := Lib.hid hr
    have HL := Lib.hid (show (ps.flatMap cellsOf).length = r * 2 by rw [cells_len, hr])
    rw [hr] at k1 k2 k3
    have HK3 := Lib.hid k3
    have e1 : w.cell? ⟨p, 1, none⟩ = some (.slice ro r rc) := whole_cell k1 rfl
    obtain ⟨w3, hw3⟩ : ∃ w3, w.alloc (placeO (ip, 0)) = w3 := ⟨_, rfl⟩
    obtain ⟨b, hbz⟩ : ∃ b, w.heap.size = b := ⟨_, rfl⟩
    have hb3 := (Below.refl w.heap.size w).alloc (Nat.le_refl _) (placeO (ip, 0))
    have hn3 := heap_alloc_new w (placeO (ip, 0))
    rw [hw3] at hb3 hn3
    rw [hbz] at hn3
    have HB3 := Lib.hid hb3
    have HBZ := Lib.hid hbz
    have HRD := Lib.hid (show ReadsK w3 2 (.slice (some ⟨b, 0, none⟩) 1 1) (cellsOf (ip, 0)) from ReadsK.of_whole (T := 41) hn3 rfl)
    have HO3 := Lib.hid (k2.below hb3)
    have HW3 := Lib.hid ((Stirred.of_below hb3 []).whole k1 List.not_mem_nil)
    have s1 : w3.cell? ⟨p, 1, none⟩ = some (.slice ro r rc) := whole_cell HW3.out rfl
    have HB3S := Lib.hid (Nat.le_trans HBW.out hb3.size)
    clear k1 k2 k3 hb3 hn3 hr
    obtain rfl : r = m := by rw [← hm]; exact HR.out.symm
    clear hm
    go_enter Try.func14, Try.ntmps14
    go_wp2_with (refine Wide.wpList_append_reads rfl _ _ 37 rfl B 41 2 i0 (.agg #[.int .i64 0, .int .i64 0]) 16 Try.underlying37 HI.out.1 HI.out.2.1 HI.out.2.2.1 HI.out.2.2.2 rfl (by decide) _ r (ps.flatMap cellsOf) rfl HO3.out HL.out (.slice (some ⟨b, 0, none⟩) 1 1) 1 (cellsOf (ip, 0)) rfl HRD.out rfl ?c0 ?c1 ?c2 HB3S.out ?_)
    case c0 => intro u hu; exact cells_one [(ip, 0)] u (by simpa using hu)
    case c1 => unfold maxLen; omega
    case c2 => omega
    intro v' w4 hO _ hS hN
    have hO' : OwnsK w4 B 41 2 v' ((ps ++ [(ip, 0)]).flatMap cellsOf) := by rw [List.flatMap_append]; simpa using hO
    obtain ⟨so, sc, hv', -⟩ := hO'.row (n := r + 1) (by rw [cells_len, List.length_append, HR.out]; rfl) (by decide) (Nat.succ_pos _)
    have HN4 := Lib.hid (show At (w4.setCell ⟨p, 1, none⟩ v') B p (p :: (blk v').toList) n (ps ++ [(ip, 0)]) ∧ Stirred w (w4.setCell ⟨p, 1, none⟩ v') bs from by
      have := At.longer (ps' := ps ++ [(ip, 0)]) HW3.out HO3.out HA.out.low hS hO' (by rw [List.length_append, HR.out]; simp; omega)
      refine ⟨this.1, (Stirred.of_below HB3.out bs).trans (by rw [HK3.out]; exact this.2) (fun k hk => .inl hk)⟩)
    have HN5 := Lib.hid (show ∀ k ∈ p :: (blk v').toList, k ∈ bs ∨ w.heap.size ≤ k from fun k hk => by
      rcases List.mem_cons.1 hk with rfl | hk
      · exact .inl HA.out.mem
      · rcases hN with e | ⟨k', e, hk'⟩
        · exact .inl (by rw [HK3.out, ← e]; exact List.mem_cons_of_mem _ hk)
        · rw [e] at hk
          obtain rfl : k = k' := by simpa using hk
          exact .inr (Nat.le_trans HB3.out.size hk'))
    have hp4 := hS.whole HW3.out (fun hm => ptr_off HW3.out HO3.out p (by simpa using hm) rfl)
    have t1 := whole_cell (j := 1) hp4 rfl
    have t2 := whole_frozen hp4 1
    subst hv'
    clear hO hO' hS hN hp4
    go_wp2
    go_ret
    exact ⟨ps, _, HP.out, by rw [HR.out]; rfl, HN4.out.1, HN4.out.2, HN5.out⟩
  · obtain rfl : m = 32 := by omega
    have F := Lib.hid (first_any h (by omega))
    clear h h1 h2 hB hm
    go_enter Try.func14, Try.ntmps14
    go_wp2_with fail
    refine F.out.mono ?_
    rintro e w1 ⟨⟨f, x, rfl, hx, hmin⟩, hb⟩
    have hA1 := HA.out.below hb
    have HS1 := Lib.hid ((Stirred.of_below hb []).more (fun k hk => by cases hk) : Stirred w w1 bs)
    have HP := Lib.hid (show Freed ps (dropAt ps f) from .inr ⟨by rw [HM.out]; exact Nat.le_refl _, f, x, hx, hmin, rfl⟩)
    have D := Lib.hid (drop_any hA1 hx)
    have HBW1 := Lib.hid (Nat.le_trans HBW.out hb.size)
    clear F hA1 hb hx hmin c1
    go_wp2_with fail
    refine D.out.mono ?_
    rintro e w2 ⟨rfl, hA, hS⟩
    obtain ⟨rs, hrs⟩ : ∃ rs, dropAt ps f = rs := ⟨_, rfl⟩
    rw [hrs] at hA HP
    have HA2 := Lib.hid hA
    have HPR := HP
    have HS2 := Lib.hid (HS1.out.trans hS (fun k hk => .inl hk))
    have HBW2 := Lib.hid (Nat.le_trans HBW1.out hS.size)
    clear hA hS D HP
    obtain ⟨v2, k1, k2, k3⟩ := HA2.out.own
    obtain ⟨ro, rc, rfl⟩ := k2.slice (cells_len rs) (by decide)
    obtain ⟨r, hr⟩ : ∃ r, rs.length = r := ⟨_, rfl⟩
    have hr32 : r < 32 := by rw [← hr]; exact HPR.out.few HFW.out
    have HR := Lib.hid hr
    have HL := Lib.hid (show (rs.flatMap cellsOf).length = r * 2 by rw [cells_len, hr])
    rw [hr] at k1 k2 k3
    have HK3 := Lib.hid k3
    have e1 : w2.cell? ⟨p, 1, none⟩ = some (.slice ro r rc) := whole_cell k1 rfl
    obtain ⟨w3, hw3⟩ : ∃ w3, w2.alloc (placeO (ip, 0)) = w3 := ⟨_, rfl⟩
    obtain ⟨b, hbz⟩ : ∃ b, w2.heap.size = b := ⟨_, rfl⟩
    have hb3 := (Below.refl w2.heap.size w2).alloc (Nat.le_refl _) (placeO (ip, 0))
    have hn3 := heap_alloc_new w2 (placeO (ip, 0))
    rw [hw3] at hb3 hn3
    rw [hbz] at hn3
    have HB3 := Lib.hid hb3
    have HBZ := Lib.hid hbz
    have HRD := Lib.hid (show ReadsK w3 2 (.slice (some ⟨b, 0, none⟩) 1 1) (cellsOf (ip, 0)) from ReadsK.of_whole (T := 41) hn3 rfl)
    have HO3 := Lib.hid (k2.below hb3)
    have HW3 := Lib.hid ((Stirred.of_below hb3 []).whole k1 List.not_mem_nil)
    have s1 : w3.cell? ⟨p, 1, none⟩ = some (.slice ro r rc) := whole_cell HW3.out rfl
    have HB3S := Lib.hid (Nat.le_trans HBW2.out hb3.size)
    clear k1 k2 k3 hb3 hn3 hr
    go_wp2_with (refine Wide.wpList_append_reads rfl _ _ 37 rfl B 41 2 i0 (.agg #[.int .i64 0, .int .i64 0]) 16 Try.underlying37 HI.out.1 HI.out.2.1 HI.out.2.2.1 HI.out.2.2.2 rfl (by decide) _ r (rs.flatMap cellsOf) rfl HO3.out HL.out (.slice (some ⟨b, 0, none⟩) 1 1) 1 (cellsOf (ip, 0)) rfl HRD.out rfl ?c0 ?c1 ?c2 HB3S.out ?_)
    case c0 => intro u hu; exact cells_one [(ip, 0)] u (by simpa using hu)
    case c1 => unfold maxLen; omega
    case c2 => omega
    intro v' w4 hO _ hS hN
    have hO' : OwnsK w4 B 41 2 v' ((rs ++ [(ip, 0)]).flatMap cellsOf) := by rw [List.flatMap_append]; simpa using hO
    obtain ⟨so, sc, hv', -⟩ := hO'.row (n := r + 1) (by rw [cells_len, List.length_append, HR.out]; rfl) (by decide) (Nat.succ_pos _)
    have HN4 := Lib.hid (show At (w4.setCell ⟨p, 1, none⟩ v') B p (p :: (blk v').toList) n (rs ++ [(ip, 0)]) ∧ Stirred w2 (w4.setCell ⟨p, 1, none⟩ v') bs from by
      have := At.longer (ps' := rs ++ [(ip, 0)]) HW3.out HO3.out HA.out.low hS hO' (by rw [List.length_append, HR.out]; simp; omega)
      refine ⟨this.1, (Stirred.of_below HB3.out bs).trans (by rw [HK3.out]; exact this.2) (fun k hk => .inl hk)⟩)
    have HN5 := Lib.hid (show ∀ k ∈ p :: (blk v').toList, k ∈ bs ∨ w2.heap.size ≤ k from fun k hk => by
      rcases List.mem_cons.1 hk with rfl | hk
      · exact .inl HA2.out.mem
      · rcases hN with e | ⟨k', e, hk'⟩
        · exact .inl (by rw [HK3.out, ← e]; exact List.mem_cons_of_mem _ hk)
        · rw [e] at hk
          obtain rfl : k = k' := by simpa using hk
          exact .inr (Nat.le_trans HB3.out.size hk'))
    have hp4 := hS.whole HW3.out (fun hm => ptr_off HW3.out HO3.out p (by simpa using hm) rfl)
    have t1 := whole_cell (j := 1) hp4 rfl
    have t2 := whole_frozen hp4 1
    subst hv'
    clear hO hO' hS hN hp4
    go_wp2
    go_ret
    exact ⟨rs, _, HPR.out, by rw [HR.out]; rfl, HN4.out.1, HS2.out.trans HN4.out.2 (fun k hk => .inl hk), fun k hk => (HN5.out k hk).imp id (fun e => Nat.le_trans HS2.out.size e)⟩
end Go.Proofs.Ytajgkheagahfeaa.Hot
