
/- Package hot: a cold one, none at all, counts, what is forgotten; what a pass makes of the counts; the statements' first call. -/
import Derived.Test.YtajgkheagahfeaaHotOps
namespace Go.Proofs.Ytajgkheagahfeaa.Hot
open Go.RowKit Book Book.Wide
set_option linter.unusedSimpArgs false
set_option linter.unusedVariables false
/-- 1 for what is counted -/
def oneIf (c : Int) : Nat := if c = 0 then 0 else 1
theorem oneIf_no {c : Int} (h : c = 0) : oneIf c = 0 := if_pos h
theorem oneIf_yes {c : Int} (h : c ≠ 0) : oneIf c = 1 := if_neg h
section
variable {w : World} {B p : Nat} {bs : List Nat} {n : Int} {ps : List Pl} {f : Int → Int}
theorem pass_cold (h : At w B p bs 0 ps) (ip : Int) : Calls Try.prog 9 #[.pointer (some ⟨p, 0, none⟩), .int .i64 ip] w fun e w' => e = .returned (.bool false) ∧ w' = w := by
  obtain ⟨v, h1, _⟩ := h.own
  have c0 : w.cell? ⟨p, 0, none⟩ = some (.int .i64 0) := whole_cell h1 rfl
  clear h h1
  go_enter Try.func9, Try.ntmps9
  go_wp2
  go_ret
  exact ⟨rfl, rfl⟩
theorem pass_nil (ip : Int) (w : World) : Calls Try.prog 9 #[.pointer none, .int .i64 ip] w fun e w' => e = .returned (.bool false) ∧ w' = w := by
  go_enter Try.func9, Try.ntmps9
  go_wp2
  go_ret
  exact ⟨rfl, rfl⟩
theorem count_any (h : At w B p bs n ps) (hI : Is ps f) (ip : Int) : Calls Try.prog 11 #[.pointer (some ⟨p, 0, none⟩), .int .i64 ip] w fun e w' => e = .returned (.int .i64 (f ip)) ∧ w' = w := by
  have C := Lib.hid (at_any h ip)
  by_cases h0 : f ip = 0
  · rw [idxI_no (hI.none h0)] at C
    have H0 := Lib.hid h0
    clear h hI h0
    go_enter Try.func11, Try.ntmps11
    go_wp2_with fail
    refine C.out.mono ?_
    rintro e wz ⟨rfl, hwz⟩
    subst wz
    clear C
    go_wp2
    go_ret
    exact ⟨by rw [H0.out]; rfl, rfl⟩
  · obtain ⟨j, hj⟩ := hI.at h0
    rw [hI.apart.idx hj rfl] at C
    obtain ⟨g, cap, k1, _, _, _, _, _, d1, _⟩ := h.place hj
    have hl := (List.getElem?_eq_some_iff.1 hj).1
    have hfew := h.few
    obtain ⟨N, hN⟩ : ∃ N, ps.length = N := ⟨_, rfl⟩
    rw [hN] at k1 hl hfew
    have e1 : w.cell? ⟨p, 1, none⟩ = some (.slice (some ⟨g, 0, none⟩) N cap) := whole_cell k1 rfl
    obtain ⟨c, hc⟩ : ∃ c, f ip = c := ⟨_, rfl⟩
    rw [hc] at d1
    have d1 : w.cell? ⟨g, j * 2 + 1, none⟩ = some (.int .i64 c) := d1
    have HC := Lib.hid hc
    have z0 : (0 : Int) ≤ (j : Int) := by omega
    have z1 : (j : Int) < (N : Int) := by omega
    have z2 : ¬ (j : Int) < 0 := by omega
    clear h hI h0 hj k1 hN hc
    go_enter Try.func11, Try.ntmps11
    go_wp2_with fail
    refine C.out.mono ?_
    rintro e wz ⟨rfl, hwz⟩
    subst wz
    clear C
    go_wp2
    go_ret
    exact ⟨by rw [HC.out]; rfl, rfl⟩
theorem count_nil (ip : Int) (w : World) : Calls Try.prog 11 #[.pointer none, .int .i64 ip] w fun e w' => e = .returned (.int .i64 0) ∧ w' = w := by
  have C := Lib.hid (at_nil ip w)
  go_enter Try.func11, Try.ntmps11
  go_wp2_with fail
  refine C.out.mono ?_
  rintro e wz ⟨rfl, hwz⟩
  subst wz
  clear C
  go_wp2
  go_ret
  exact ⟨rfl, rfl⟩
theorem forget_any (h : At w B p bs n ps) (hI : Is ps f) (ip : Int) : Calls Try.prog 10 #[.pointer (some ⟨p, 0, none⟩), .int .i64 ip] w fun e w' => e = .returned (.tuple #[]) ∧ ∃ ps', At w' B p bs n ps' ∧ Is ps' (upd f ip 0) ∧ ps'.length + oneIf (f ip) = ps.length ∧ Stirred w w' bs := by
  have C := Lib.hid (at_any h ip)
  by_cases h0 : f ip = 0
  · rw [idxI_no (hI.none h0)] at C
    have HR := Lib.hid (show ∃ ps', At w B p bs n ps' ∧ Is ps' (upd f ip 0) ∧ ps'.length + oneIf (f ip) = ps.length ∧ Stirred w w bs from ⟨ps, h, by
      rw [show upd f ip 0 = f by funext z; unfold upd; split <;> simp_all]; exact hI, by rw [oneIf_no h0]; rfl, Stirred.refl _ _⟩)
    clear h hI h0
    go_enter Try.func10, Try.ntmps10
    go_wp2_with fail
    refine C.out.mono ?_
    rintro e wz ⟨rfl, hwz⟩
    subst wz
    clear C
    go_wp2
    go_end0
    exact ⟨rfl, HR.out⟩
  · obtain ⟨j, hj⟩ := hI.at h0
    rw [hI.apart.idx hj rfl] at C
    have D := Lib.hid (drop_any h hj)
    have HR := Lib.hid (show Is (dropAt ps j) (upd f ip 0) ∧ (dropAt ps j).length + oneIf (f ip) = ps.length from ⟨hI.drop hj, by
      rw [oneIf_yes h0, dropAt_length]
      have := (List.getElem?_eq_some_iff.1 hj).1
      omega⟩)
    have hfew := h.few
    have hl := (List.getElem?_eq_some_iff.1 hj).1
    have z0 : (0 : Int) ≤ (j : Int) := by omega
    clear h hI h0 hj hfew hl
    go_enter Try.func10, Try.ntmps10
    go_wp2_with fail
    refine C.out.mono ?_
    rintro e wz ⟨rfl, hwz⟩
    subst wz
    clear C
    go_wp2_with fail
    refine D.out.mono ?_
    rintro e w2 ⟨rfl, hA, hS⟩
    have HA := Lib.hid hA
    have HS := Lib.hid hS
    clear D hA hS
    go_wp2
    go_end0
    exact ⟨rfl, _, HA.out, HR.out.1, HR.out.2, HS.out⟩
theorem forget_nil (ip : Int) (w : World) : Calls Try.prog 10 #[.pointer none, .int .i64 ip] w fun e w' => e = .returned (.tuple #[]) ∧ w' = w := by
  have C := Lib.hid (at_nil ip w)
  go_enter Try.func10, Try.ntmps10
  go_wp2_with fail
  refine C.out.mono ?_
  rintro e wz ⟨rfl, hwz⟩
  subst wz
  clear C
  go_wp2
  go_end0
  exact ⟨rfl, rfl⟩
end
/-- the ip's own count behind a pass -/
theorem Pass.at {n : Int} {f : Int → Int} {m : Nat} {ip : Int} {b : Bool} {f' : Int → Int} {m' : Nat} (h : Pass n f m ip b f' m') : f' ip = if n ≤ f ip + 1 then 0 else f ip + 1 := by
  obtain ⟨f1, m1, hR, h1, h2, h3, h4⟩ := h.way
  rw [h3]
  split <;> exact upd_same _ _ _
/-- where there is room no other count turns -/
theorem Pass.room {n : Int} {f : Int → Int} {m : Nat} {ip : Int} {b : Bool} {f' : Int → Int} {m' : Nat} (h : Pass n f m ip b f' m') (hr : f ip ≠ 0 ∨ m < 32) : (∀ z, z ≠ ip → f' z = f z) ∧ m' + (if n ≤ f ip + 1 then 1 else 0) = m + (if f ip = 0 then 1 else 0) := by
  obtain ⟨f1, m1, hR, h1, h2, h3, h4⟩ := h.way
  rcases hR with ⟨_, rfl, rfl⟩ | ⟨h5, h6, _⟩
  · refine ⟨fun z hz => ?_, h4⟩
    rw [h3]
    split <;> exact upd_other _ _ hz
  · rcases hr with h7 | h7
    · exact absurd h5 h7
    · omega
/-- a call that says yes, and leaves what was there -/
def Yes (w : World) (e : Ending) (w' : World) : Prop := e = .returned (.bool true) ∧ Below w.heap.size w w'
/-- what is done to counts that were made in a call leaves alone what was there ahead of the call -/
theorem At.past {W w w' : World} {p : Nat} {bs : List Nat} {n : Int} {ps : List Pl} (h : At w W.heap.size p bs n ps) (hb : Below W.heap.size W w) (hs : Stirred w w' bs) : Below W.heap.size W w' :=
  hb.trans (hs.below (fun k hk => (h.lt k hk).1) hb.size)
/-- the counts in one call's world -/
structure St (W w : World) (p : Nat) (n : Int) (f : Int → Int) (m : Nat) : Prop where
  way : ∃ bs ps, At w W.heap.size p bs n ps ∧ Is ps f ∧ ps.length = m
  below : Below W.heap.size W w
section
variable {W w : World} {p : Nat} {n : Int} {f : Int → Int} {m : Nat}
theorem St.drewN (h : St W w p n f m) (q : Nat) : St W (w.drewN q) p n f m := by
  obtain ⟨bs, ps, hA, hI, hm⟩ := h.way
  exact ⟨⟨bs, ps, hA.touch (Stirred.drewN w q []) (fun _ _ => List.not_mem_nil), hI, hm⟩, h.below.trans ((Stirred.drewN w q []).below (fun _ h => by cases h) h.below.size)⟩
theorem St.drew (h : St W w p n f m) : St W w.drew p n f m := h.drewN 1
theorem St.kept {w' : World} (h : St W w p n f m) (hb : Below w.heap.size w w') : St W w' p n f m := by
  obtain ⟨bs, ps, hA, hI, hm⟩ := h.way
  exact ⟨⟨bs, ps, hA.below hb, hI, hm⟩, h.below.trans (hb.mono h.below.size)⟩
theorem St.few (h : St W w p n f m) : m ≤ 32 := by
  obtain ⟨bs, ps, hA, hI, hm⟩ := h.way
  rw [← hm]; exact hA.few
theorem St.pos (h : St W w p n f m) (ip : Int) : 0 ≤ f ip := by
  obtain ⟨bs, ps, hA, hI, hm⟩ := h.way
  exact hI.pos ip
theorem st_new (n : Int) (W w : World) (hb : Below W.heap.size W w) : Calls Try.prog 8 #[.int .i64 n] w fun e w' => ∃ p, e = .returned (.pointer (some ⟨p, 0, none⟩)) ∧ St W w' p (max n 0) (fun _ => 0) 0 :=
  (new_any n w).mono fun e w' ⟨p, bs, h1, h2, h3⟩ => ⟨p, h1, ⟨bs, [], h2.from hb.size, Is.nil, rfl⟩, hb.trans (h3.mono hb.size)⟩
theorem st_pass (h : St W w p n f m) (hn : 0 < n) (ip : Int) (hc : f ip ≤ 1000000) : Calls Try.prog 9 #[.pointer (some ⟨p, 0, none⟩), .int .i64 ip] w fun e w' => ∃ f' m', e = .returned (.bool (decide (n ≤ f ip + 1))) ∧ St W w' p n f' m' ∧ Pass n f m ip (decide (n ≤ f ip + 1)) f' m' := by
  obtain ⟨bs, ps, hA, hI, hm⟩ := h.way
  subst hm
  exact (pass_any hA h.below.size hI hn ip hc).mono fun e w' ⟨f', ps', bs', h1, h2, h3, h4, h5, h6⟩ => ⟨f', _, h1, ⟨⟨bs', ps', h2, h3, rfl⟩, hA.past h.below h5⟩, h4⟩
theorem st_cold (h : St W w p 0 f m) (ip : Int) : Calls Try.prog 9 #[.pointer (some ⟨p, 0, none⟩), .int .i64 ip] w fun e w' => e = .returned (.bool false) ∧ w' = w := by
  obtain ⟨bs, ps, hA, hI, hm⟩ := h.way
  exact pass_cold hA ip
theorem st_count (h : St W w p n f m) (ip : Int) : Calls Try.prog 11 #[.pointer (some ⟨p, 0, none⟩), .int .i64 ip] w fun e w' => e = .returned (.int .i64 (f ip)) ∧ w' = w := by
  obtain ⟨bs, ps, hA, hI, hm⟩ := h.way
  exact count_any hA hI ip
theorem st_len (h : St W w p n f m) : Calls Try.prog 12 #[.pointer (some ⟨p, 0, none⟩)] w fun e w' => e = .returned (.int .i64 (m : Int)) ∧ w' = w := by
  obtain ⟨bs, ps, hA, hI, hm⟩ := h.way
  subst hm
  exact len_any hA
theorem st_forget (h : St W w p n f m) (ip : Int) : Calls Try.prog 10 #[.pointer (some ⟨p, 0, none⟩), .int .i64 ip] w fun e w' => e = .returned (.tuple #[]) ∧ St W w' p n (upd f ip 0) (m - oneIf (f ip)) := by
  obtain ⟨bs, ps, hA, hI, hm⟩ := h.way
  subst hm
  exact (forget_any hA hI ip).mono fun e w' ⟨h1, ps', h2, h3, h4, h5⟩ => ⟨h1, ⟨bs, ps', h2, h3, by omega⟩, hA.past h.below h5⟩
end
set_option maxHeartbeats 2000000 in
theorem alive_any (W : World) : Calls Try.prog 7 #[] W (Yes W) := by
  have C := Lib.hid (st_new 2 W W (Below.refl _ _))
  go_enter Try.func7, Try.ntmps7
  go_wp2_with fail
  refine C.out.mono ?_
  rintro e w1 ⟨p, rfl, hS⟩
  have C := Lib.hid (st_pass (show St W w1 p 2 (fun _ => 0) 0 from hS) (by decide) 7 (by decide))
  rw [show decide ((2 : Int) ≤ (fun _ => (0 : Int)) 7 + 1) = false by decide] at C
  clear hS
  go_wp2_with fail
  refine C.out.mono ?_
  rintro e w2 ⟨f, m, rfl, hS, hP⟩
  have h7 : f 7 = 1 := by rw [hP.at]; rfl
  have hm : m = 1 := by have := (hP.room (.inr (by decide))).2; simpa using this
  subst hm
  have C := Lib.hid (st_count hS 7)
  rw [h7] at C
  have HS := Lib.hid hS
  have H7 := Lib.hid h7
  clear hS hP h7
  go_wp2_with fail
  refine C.out.mono ?_
  rintro e wz ⟨rfl, hwz⟩
  subst wz
  have C := Lib.hid (st_pass HS.out (by decide) 7 (by rw [H7.out]; decide))
  rw [show decide ((2 : Int) ≤ f 7 + 1) = true by rw [H7.out]; decide] at C
  go_wp2_with fail
  refine C.out.mono ?_
  rintro e w3 ⟨f3, m3, rfl, hS, hP⟩
  have h7 : f3 7 = 0 := by rw [hP.at, H7.out]; rfl
  have hm : m3 = 0 := by have := (hP.room (.inr (by decide))).2; rw [H7.out] at this; simpa using this
  subst hm
  have C := Lib.hid (st_count hS 7)
  rw [h7] at C
  have HS := Lib.hid hS
  clear hS hP h7
  go_wp2_with fail
  refine C.out.mono ?_
  rintro e wz ⟨rfl, hwz⟩
  subst wz
  have C := Lib.hid (st_len HS.out)
  go_wp2_with fail
  refine C.out.mono ?_
  rintro e wz ⟨rfl, hwz⟩
  subst wz
  go_wp2
  go_ret
  exact ⟨rfl, HS.out.below⟩
end Go.Proofs.Ytajgkheagahfeaa.Hot
