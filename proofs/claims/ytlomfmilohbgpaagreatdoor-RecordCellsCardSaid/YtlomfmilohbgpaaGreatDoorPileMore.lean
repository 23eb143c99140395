
/- Package pile: laying on, taking; all, copies. -/
import Derived.Test.YtlomfmilohbgpaaGreatDoorPileRead
import Derived.Deep.RegionHeld3
namespace Go.Proofs.YtlomfmilohbgpaaGreatDoor
open Go.RowKit Book Mem
set_option linter.unusedSimpArgs false
set_option linter.unusedVariables false
section
variable {w : World} {B p g room : Nat} {cs : List Int}
theorem clone_part (h : PileAt w B p g room cs) (o n : Nat) (c : Nat) (ho : o + n = cs.length) : Calls Tryz.prog 71 #[.slice (some ⟨g, o, none⟩) n c] w fun e w' => ∃ v, e = .returned v ∧ Owns w' w.heap.size 3 v (vals (cs.drop o)) ∧ Below w.heap.size w w' := by
  have hl := h.fits
  have hm := h.most
  have hd : (cs.drop o).length = n := by rw [List.length_drop]; omega
  refine (Tryz.slices_Clone_int g o n c (cs.drop o) w (by omega) (by omega) (fun j hj => ?_)).mono fun e w' ⟨v', h1, h2, _, h3⟩ => ⟨v', h1, ?_, h3⟩
  · have := h.cell (j := o + j) (by omega)
    rw [this]
    simp [List.getD_eq_getElem?_getD, List.getElem?_drop, List.getElem?_eq_getElem (show o + j < cs.length by omega)]
  · rw [List.take_of_length_le (by omega)] at h2
    exact Owns.of_row h2
theorem all_nil (w : World) : Calls Tryz.prog 50 #[.pointer none] w fun e w' => e = .returned (.slice none 0 0) ∧ w' = w := by
  go_enter Tryz.func50, Tryz.ntmps50
  go_wp2
  go_ret
  exact ⟨rfl, rfl⟩
theorem all_any (h : PileAt w B p g room cs) : Calls Tryz.prog 50 #[.pointer (some ⟨p, 0, none⟩)] w fun e w' => ∃ c, e = .returned c ∧ Owns w' w.heap.size 3 c (vals cs) ∧ Below w.heap.size w w' := by
  have hl := h.fits
  have hm := h.most
  have c0 := h.c0
  have c1 := h.c1
  have C := Lib.hid (clone_part (h.touch (Stirred.drew w []) (fun _ _ => List.not_mem_nil)) 0 cs.length room (Nat.zero_add _))
  rw [List.drop_zero] at C
  clear h
  obtain ⟨n, hn⟩ : ∃ n, cs.length = n := ⟨_, rfl⟩
  rw [hn] at c1 hl C
  clear hn
  have e1 : (n : Int) ≤ (room : Int) := by omega
  go_enter Tryz.func50, Tryz.ntmps50
  go_wp2_with fail
  go_region_held3 (fun w' => w'.cell? ⟨p, 0, none⟩ = some (.slice (some ⟨g, 0, none⟩) room room) ∧ w'.cell? ⟨p, 1, none⟩ = some (.int .i64 n))
    (first
      | exact ⟨(Stirred.of_below HB1.out []).cell (List.not_mem_nil) c0, (Stirred.of_below HB1.out []).cell (List.not_mem_nil) c1⟩
      | exact ⟨c0, c1⟩)
    (first
      | (go_at_call 71; refine C.out.mono ?_; rintro e w1 ⟨c, rfl, hO, hB⟩; have HO := Lib.hid hO; have HB1 := Lib.hid ((Below.refl w.heap.size w).drew.trans hB); clear hO hB))
  all_goals go_wp2
  go_ret
  exact ⟨c, rfl, HO.out, HB1.out⟩
/-- the list that a stack holds behind Cut(m) -/
def cutTo (cs : List Int) (m : Nat) : List Int := cs.take m ++ List.replicate (m - cs.length) 0
theorem cutTo_length (cs : List Int) (m : Nat) : (cutTo cs m).length = m := by simp [cutTo]; omega
theorem cutTo_less {cs : List Int} {m : Nat} (h : m ≤ cs.length) : cutTo cs m = cs.take m := by simp [cutTo, Nat.sub_eq_zero_of_le h]
theorem cutTo_more {cs : List Int} {m : Nat} (h : cs.length ≤ m) : cutTo cs m = cs ++ List.replicate (m - cs.length) 0 := by simp [cutTo, List.take_of_length_le h]
theorem cut_yes (h : PileAt w B p g room cs) (m : Nat) (hm : m ≤ room) : Calls Tryz.prog 67 #[.pointer (some ⟨p, 0, none⟩), .int .i64 m] w (Did w B p g room (cutTo cs m) (foot p g)) := by
  by_cases hlt : m < cs.length
  · rw [cutTo_less (by omega)]
    exact cut_less h m hlt
  · rw [cutTo_more (by omega)]
    exact (cut_more h m (by omega) hm).mono fun e w' ⟨h1, h2, h3⟩ => ⟨h1, h2, h3.more (fun k hk => by simp at hk; simp [hk])⟩
/-- what was taken, and the stack without it -/
def Took (w : World) (B p g room : Nat) (cs : List Int) (m : Nat) (e : Ending) (w' : World) : Prop :=
  ∃ v, e = .returned (.tuple #[v, .bool true]) ∧ Owns w' w.heap.size 3 v (vals (cs.drop m)) ∧ PileAt w' B p g room (cs.take m) ∧ Stirred w w' (foot p g)
theorem pop_nil (a : Int) (w : World) : Calls Tryz.prog 81 #[.pointer none, .int .i64 a] w fun e w' => e = .returned (.tuple #[.slice none 0 0, .bool false]) ∧ w' = w := by
  have C := Lib.hid (made_nil w)
  go_enter Tryz.func81, Tryz.ntmps81
  go_wp2_with (go_at_call 80; refine C.out.mono ?_; rintro e wz ⟨rfl, hwz⟩; subst wz)
  go_ret2
  exact ⟨rfl, rfl⟩
theorem pop_no (h : PileAt w B p g room cs) (a : Int) (ha : ¬ (0 ≤ a ∧ a ≤ (cs.length : Int))) : Calls Tryz.prog 81 #[.pointer (some ⟨p, 0, none⟩), .int .i64 a] w fun e w' => e = .returned (.tuple #[.slice none 0 0, .bool false]) ∧ w' = w := by
  have C := Lib.hid (made_any h)
  have hl := h.fits
  have hm := h.most
  have c1 := h.c1
  clear h
  obtain ⟨n, hn⟩ : ∃ n, cs.length = n := ⟨_, rfl⟩
  rw [hn] at c1 hl ha
  clear hn
  by_cases h0 : a < 0
  · clear ha
    go_enter Tryz.func81, Tryz.ntmps81
    go_wp2_with (go_at_call 80; refine C.out.mono ?_; rintro e wz ⟨rfl, hwz⟩; subst wz)
    go_ret2
    exact ⟨rfl, rfl⟩
  · have h1 : decide (a < 0) = false := by simp; omega
    have h2 : decide ((n : Int) < a) = true := by simp; omega
    clear ha h0
    go_enter Tryz.func81, Tryz.ntmps81
    go_wp2_with (go_at_call 80; refine C.out.mono ?_; rintro e wz ⟨rfl, hwz⟩; subst wz)
    go_ret2
    exact ⟨rfl, rfl⟩
set_option maxHeartbeats 1000000 in
theorem pop_yes (h : PileAt w B p g room cs) (hB : B ≤ w.heap.size) (a m : Nat) (ha : m + a = cs.length) : Calls Tryz.prog 81 #[.pointer (some ⟨p, 0, none⟩), .int .i64 a] w (Took w B p g room cs m) := by
  have C := Lib.hid (made_any h)
  have HP := Lib.hid h
  have HB := Lib.hid hB
  have hl := h.fits
  have hm := h.most
  have c0 := h.c0
  have c1 := h.c1
  obtain ⟨n, hn⟩ : ∃ n, cs.length = n := ⟨_, rfl⟩
  have HN := Lib.hid hn
  rw [hn] at c1 hl ha
  clear hn hB
  have e1 : decide ((a : Int) < 0) = false := by simp
  have e2 : decide ((n : Int) < (a : Int)) = false := by simp; omega
  have e3 : (n : Int) - (a : Int) = (m : Int) := by omega
  have e4 : (n : Int) ≤ (room : Int) := by omega
  have e5 : (0 : Int) ≤ (m : Int) := by omega
  have e6 : (m : Int) ≤ (n : Int) := by omega
  have e7 : n - m = a := by omega
  by_cases hrm : room = m
  · obtain rfl : a = 0 := by omega
    obtain rfl : m = n := by omega
    subst hrm
    have D := Lib.hid (show Calls Tryz.prog 71 #[.slice (some ⟨g, 0, none⟩) 0 0] w.drew fun e w' => ∃ v, e = .returned v ∧ Owns w' w.drew.heap.size 3 v (vals (cs.drop room)) ∧ Below w.drew.heap.size w.drew w' from by
      rw [List.drop_eq_nil_of_le (by have := HN.out; omega)]
      exact (Tryz.slices_Clone_int_zero ⟨g, 0, none⟩ 0 w.drew).mono fun e w' ⟨v', h1, h2, _, h3⟩ => ⟨v', h1, Owns.of_row h2, h3⟩)
    clear h ha e1 e2 e3 e4 e6 e7
    go_enter Tryz.func81, Tryz.ntmps81
    go_wp2_with fail
    refine C.out.mono ?_
    rintro e wz ⟨rfl, hwz⟩
    subst wz
    clear C
    go_wp2_with fail
    go_region_held3 (fun w' => w'.cell? ⟨p, 0, none⟩ = some (.slice (some ⟨g, 0, none⟩) room room) ∧ w'.cell? ⟨p, 1, none⟩ = some (.int .i64 room))
      (first
        | exact ⟨(Stirred.of_below HB1.out []).cell (List.not_mem_nil) c0, (Stirred.of_below HB1.out []).cell (List.not_mem_nil) c1⟩
        | exact ⟨c0, c1⟩)
      (first
        | (go_at_call 71; refine D.out.mono ?_; rintro e w1 ⟨c, rfl, hO, hB⟩; have HO := Lib.hid hO; have HB1 := Lib.hid ((Below.refl w.heap.size w).drew.trans hB); clear hO hB))
    have E := Lib.hid (cut_yes (HP.out.below HB1.out) room (Nat.le_refl _))
    clear D
    go_wp2_with fail
    refine E.out.mono ?_
    rintro e w2 ⟨rfl, hP2, hs⟩
    rw [cutTo_less (by have := HN.out; omega)] at hP2
    have HR := Lib.hid (And.intro (HO.out.touch hs (fun k hk hm => by
      have h1 := (HO.out.block k hk).1
      have h2 := (HP.out.foot_lt k hm).2
      have h3 : w.drew.heap.size = w.heap.size := rfl
      omega)) (And.intro hP2 ((Stirred.of_below HB1.out _).trans hs (fun k hk => .inl hk))))
    clear hP2 hs E
    go_wp2
    go_ret2
    exact ⟨c, rfl, HR.out⟩
  · have D := Lib.hid (clone_part (h.touch (Stirred.drew w []) (fun _ _ => List.not_mem_nil)) m a (room - m) (by have := HN.out; omega))
    clear h
    go_enter Tryz.func81, Tryz.ntmps81
    go_wp2_with fail
    refine C.out.mono ?_
    rintro e wz ⟨rfl, hwz⟩
    subst wz
    clear C
    go_wp2_with fail
    go_region_held3 (fun w' => w'.cell? ⟨p, 0, none⟩ = some (.slice (some ⟨g, 0, none⟩) room room) ∧ w'.cell? ⟨p, 1, none⟩ = some (.int .i64 n))
      (first
        | exact ⟨(Stirred.of_below HB1.out []).cell (List.not_mem_nil) c0, (Stirred.of_below HB1.out []).cell (List.not_mem_nil) c1⟩
        | exact ⟨c0, c1⟩)
      (first
        | (go_at_call 71; refine D.out.mono ?_; rintro e w1 ⟨c, rfl, hO, hB⟩; have HO := Lib.hid hO; have HB1 := Lib.hid ((Below.refl w.heap.size w).drew.trans hB); clear hO hB))
    have E := Lib.hid (cut_yes (HP.out.below HB1.out) m (by omega))
    clear D
    go_wp2_with fail
    refine E.out.mono ?_
    rintro e w2 ⟨rfl, hP2, hs⟩
    rw [cutTo_less (by have := HN.out; omega)] at hP2
    have HR := Lib.hid (And.intro (HO.out.touch hs (fun k hk hm => by
      have h1 := (HO.out.block k hk).1
      have h2 := (HP.out.foot_lt k hm).2
      have h3 : w.drew.heap.size = w.heap.size := rfl
      omega)) (And.intro hP2 ((Stirred.of_below HB1.out _).trans hs (fun k hk => .inl hk))))
    clear hP2 hs E
    go_wp2
    go_ret2
    exact ⟨c, rfl, HR.out⟩
theorem push_nil (v : Value) (n : Nat) (hv : ∃ ao c, v = .slice ao n c) (hn : n ≤ 1000000) (w : World) : Calls Tryz.prog 69 #[.pointer none, v] w fun e w' => e = .returned (.bool false) ∧ w' = w := by
  obtain ⟨ao, c, rfl⟩ := hv
  have C := Lib.hid (len_nil w)
  have D := Lib.hid (cut_nil n w)
  have e1 : (0 : Int) + (n : Int) = (n : Int) := by omega
  go_enter Tryz.func69, Tryz.ntmps69
  go_wp2_with fail
  refine C.out.mono ?_
  rintro e wz ⟨rfl, hwz⟩
  subst wz
  go_wp2_with fail
  refine D.out.mono ?_
  rintro e wz ⟨rfl, hwz⟩
  subst wz
  go_wp2
  go_ret
  exact ⟨rfl, rfl⟩
theorem push_no (h : PileAt w B p g room cs) (v : Value) (n : Nat) (hv : ∃ ao c, v = .slice ao n c) (hn : n ≤ 1000000) (hno : ¬ cs.length + n ≤ room) : Calls Tryz.prog 69 #[.pointer (some ⟨p, 0, none⟩), v] w fun e w' => e = .returned (.bool false) ∧ w' = w := by
  obtain ⟨ao, c, rfl⟩ := hv
  have C := Lib.hid (len_any h)
  have D := Lib.hid (cut_no h ((cs.length : Int) + (n : Int)) (by omega))
  have hl := h.fits
  have hm := h.most
  clear h hno
  obtain ⟨k, hk⟩ : ∃ k, cs.length = k := ⟨_, rfl⟩
  rw [hk] at C D hl
  clear hk
  go_enter Tryz.func69, Tryz.ntmps69
  go_wp2_with fail
  refine C.out.mono ?_
  rintro e wz ⟨rfl, hwz⟩
  subst wz
  go_wp2_with fail
  refine D.out.mono ?_
  rintro e wz ⟨rfl, hwz⟩
  subst wz
  go_wp2
  go_ret
  exact ⟨rfl, rfl⟩
theorem Mem.PileAt.put {xs : List Int} {w' : World} (h : PileAt w B p g room (cs ++ List.replicate xs.length 0)) (hs : Stirred w w' [g]) (hr : w'.heap[g]? = some (.cells (vals (splice (full room (cs ++ List.replicate xs.length 0)) cs.length xs)).toArray 3 (0, 0))) : PileAt w' B p g room (cs ++ xs) := by
  have hl := h.fits
  have e : (cs ++ List.replicate xs.length (0 : Int)).length = (cs ++ xs).length := by simp
  rw [full_more (by simpa using hl), full_put] at hr
  refine ⟨by rw [← e]; exact hs.whole h.whole (by simpa using h.pg), h.le, h.leg, hr, by rw [← e]; exact hl, h.most⟩
set_option maxHeartbeats 1000000 in
theorem push_yes (h : PileAt w B p g room cs) (v : Value) (xs : List Int) (hv : ∀ w', Stirred w w' (foot p g) → Reads w' v xs) (hfit : cs.length + xs.length ≤ room) : Calls Tryz.prog 69 #[.pointer (some ⟨p, 0, none⟩), v] w (Did w B p g room (cs ++ xs) (foot p g)) := by
  have HV := Lib.hid hv
  obtain ⟨vo, vc, rfl, -⟩ := hv w (Stirred.refl _ _)
  have C := Lib.hid (len_any h)
  have D := Lib.hid (cut_yes h (cs.length + xs.length) hfit)
  have hc : cutTo cs (cs.length + xs.length) = cs ++ List.replicate xs.length 0 := by rw [cutTo_more (by omega)]; congr 2; omega
  rw [hc] at D
  have hl := h.fits
  have hm := h.most
  clear h hc hv
  obtain ⟨k, hk⟩ : ∃ k, cs.length = k := ⟨_, rfl⟩
  obtain ⟨n, hn⟩ : ∃ n, xs.length = n := ⟨_, rfl⟩
  rw [hk, hn] at hfit
  rw [hk] at C hl
  have HK := Lib.hid (And.intro hk hn)
  obtain ⟨K, hK⟩ : ∃ K, k + n = K := ⟨_, rfl⟩
  have e1 : (k : Int) + (n : Int) = (K : Int) := by omega
  have D' := Lib.hid D.out
  rw [hk, hn, hK] at D'
  rw [hn]
  clear hk hn D
  have e2 : (0 : Int) ≤ (k : Int) := by omega
  have e3 : (k : Int) ≤ (room : Int) := by omega
  by_cases hrk : room = k
  · obtain rfl : n = 0 := by omega
    obtain rfl : K = k := by omega
    subst hrk
    clear hK hl e1 e3
    go_enter Tryz.func69, Tryz.ntmps69
    go_wp2_with fail
    refine C.out.mono ?_
    rintro e wz ⟨rfl, hwz⟩
    subst wz
    clear C
    go_wp2_with fail
    refine D'.out.mono ?_
    rintro e w1 ⟨rfl, hP, hs⟩
    have HV1 := Lib.hid (HV.out w1 hs)
    rw [HK.out.2] at HV1
    have HP1 := Lib.hid hP
    have HS1 := Lib.hid hs
    have c0 := hP.c0
    clear hP hs D'
    go_wp2_with (with_reducible refine wpList_copy_reads rfl _ _ 22 22 rfl 3 Tryz.underlying22 Tryz.piIntSize (some ⟨g, 0, none⟩) 0 0 rfl (.slice vo 0 vc) xs rfl HV1.out g room (full room (cs ++ List.replicate 0 0)) 3 HP1.out.row ?c0 ?c1 ?_)
    case c0 => intro h0; omega
    case c1 => rw [full_length HP1.out.fits]; omega
    intro w2 hr hs2
    have hx : xs = [] := List.eq_nil_of_length_eq_zero HK.out.2
    have hP2 := Mem.PileAt.put (cs := cs) (xs := xs) (by rw [HK.out.2]; exact HP1.out) hs2 (by rw [HK.out.1, HK.out.2, hx]; simpa using hr)
    have HR := Lib.hid (And.intro hP2 (HS1.out.trans hs2 (fun k hk => .inl (by simp at hk; simp [hk]))))
    clear hr hs2 hP2
    go_wp2
    go_ret
    exact ⟨rfl, HR.out⟩
  · skip
    go_enter Tryz.func69, Tryz.ntmps69
    go_wp2_with fail
    refine C.out.mono ?_
    rintro e wz ⟨rfl, hwz⟩
    subst wz
    clear C
    go_wp2_with fail
    refine D'.out.mono ?_
    rintro e w1 ⟨rfl, hP, hs⟩
    have HV1 := Lib.hid (HV.out w1 hs)
    rw [HK.out.2] at HV1
    have HP1 := Lib.hid hP
    have HS1 := Lib.hid hs
    have c0 := hP.c0
    clear hP hs D'
    go_wp2_with (with_reducible refine wpList_copy_reads rfl _ _ 22 22 rfl 3 Tryz.underlying22 Tryz.piIntSize (some ⟨g, k, none⟩) (room - k) (room - k) rfl (.slice vo n vc) xs rfl HV1.out g k (full room (cs ++ List.replicate n 0)) 3 HP1.out.row ?c0 ?c1 ?_)
    case c1 => rw [full_length HP1.out.fits, HK.out.2]; omega
    intro w2 hr hs2
    rw [List.take_of_length_le (by rw [HK.out.2]; omega)] at hr
    have hP2 := Mem.PileAt.put (cs := cs) (xs := xs) (by rw [HK.out.2]; exact HP1.out) hs2 (by rw [HK.out.1, HK.out.2]; exact hr)
    have HR := Lib.hid (And.intro hP2 (HS1.out.trans hs2 (fun k hk => .inl (by simp at hk; simp [hk]))))
    clear hr hs2 hP2
    go_wp2
    go_ret
    exact ⟨rfl, HR.out⟩
end
end Go.Proofs.YtlomfmilohbgpaaGreatDoor
