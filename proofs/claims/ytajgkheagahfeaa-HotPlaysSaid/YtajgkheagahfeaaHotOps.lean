
/- Package hot: passes, counts, what is forgotten. -/
import Derived.Test.YtajgkheagahfeaaHotPass
namespace Go.Proofs.Ytajgkheagahfeaa.Hot
open Go.RowKit Book Book.Wide
set_option linter.unusedSimpArgs false
set_option linter.unusedVariables false
theorem upd_upd (f : Int → Int) (a u v : Int) : upd (upd f a u) a v = upd f a v := by funext z; unfold upd; split <;> rfl
/-- what is left of the counts when one was counted once more -/
def tailP (n : Int) (rs : List Pl) (j : Nat) (ip c : Int) : List Pl := if n ≤ c then dropAt (rs.set j (ip, c)) j else rs.set j (ip, c)
theorem tailP_len (n : Int) (rs : List Pl) (j : Nat) (ip c : Int) (h : 0 < rs.length) : (tailP n rs j ip c).length + (if n ≤ c then 1 else 0) = rs.length := by
  unfold tailP
  split
  · rw [dropAt_length, List.length_set]; omega
  · rw [List.length_set]; omega
/-- the counts behind a pass of an ip that is counted -/
theorem pass_known {n : Int} {ps : List Pl} {f : Int → Int} (h : Is ps f) {ip : Int} {j : Nat} (hj : ps[j]? = some (ip, f ip)) (h0 : f ip ≠ 0) :
    ∃ f', Is (tailP n ps j ip (f ip + 1)) f' ∧ Pass n f ps.length ip (decide (n ≤ f ip + 1)) f' (tailP n ps j ip (f ip + 1)).length := by
  have hl := (List.getElem?_eq_some_iff.1 hj).1
  have hb := h.bump hj
  have hR : Room f ps.length ip f ps.length := .inl ⟨.inl h0, rfl, rfl⟩
  refine ⟨if n ≤ f ip + 1 then upd f ip 0 else upd f ip (f ip + 1), ?_, ⟨f, ps.length, hR, rfl, rfl, rfl, by rw [if_neg h0]; exact tailP_len _ _ _ _ _ (by omega)⟩⟩
  unfold tailP
  by_cases hn : n ≤ f ip + 1
  · rw [if_pos hn, if_pos hn]
    have hd := hb.drop (j := j) (x := (ip, f ip + 1)) (by rw [List.getElem?_set, if_pos rfl, if_pos hl])
    rw [show (ip, f ip + 1).1 = ip from rfl, upd_upd] at hd
    exact hd
  · rw [if_neg hn, if_neg hn]
    exact hb
theorem Freed.is {ps rs : List Pl} {f : Int → Int} (h : Freed ps rs) (hI : Is ps f) {ip : Int} (h0 : f ip = 0) : ∃ f1, Is rs f1 ∧ Room f ps.length ip f1 rs.length ∧ f1 ip = 0 := by
  rcases h with ⟨h1, rfl⟩ | ⟨h1, k, x, hk, hmin, rfl⟩
  · exact ⟨f, hI, .inl ⟨.inr h1, rfl, rfl⟩, h0⟩
  · have hx := hI.mem x (List.mem_of_getElem? hk)
    have hxe : (x.1, f x.1) = x := by rw [hx.1]
    refine ⟨_, hI.drop hk, .inr ⟨h0, h1, x.1, ⟨by omega, fun b hb => ?_⟩, rfl, by rw [dropAt_length]⟩, ?_⟩
    · rw [hxe]; exact hmin _ (hI.all b hb)
    · by_cases e : ip = x.1
      · rw [e, upd_same]
      · rw [upd_other _ _ e]; exact h0
theorem last_set (rs : List Pl) (a b : Pl) : (rs ++ [a]).set rs.length b = rs ++ [b] := by rw [List.set_append_right _ _ (Nat.le_refl _)]; simp
/-- the counts behind a pass of an ip that was not counted -/
theorem pass_new {n : Int} {ps rs : List Pl} {f : Int → Int} (h : Is ps f) {ip : Int} (h0 : f ip = 0) (hF : Freed ps rs) :
    ∃ f', Is (tailP n (rs ++ [(ip, 0)]) rs.length ip (f ip + 1)) f' ∧ Pass n f ps.length ip (decide (n ≤ f ip + 1)) f' (tailP n (rs ++ [(ip, 0)]) rs.length ip (f ip + 1)).length := by
  obtain ⟨f1, h1, hR, h10⟩ := hF.is h h0
  have ha := h1.add h10
  refine ⟨if n ≤ f ip + 1 then upd f1 ip 0 else upd f1 ip (f ip + 1), ?_, ⟨f1, rs.length, hR, by rw [h10, h0], rfl, rfl, ?_⟩⟩
  · unfold tailP
    rw [h0, show (0 : Int) + 1 = 1 from rfl, last_set]
    by_cases hn : n ≤ 1
    · rw [if_pos hn, if_pos hn]
      have hd := ha.drop (j := rs.length) (x := (ip, 1)) (by simp)
      rw [show (ip, (1 : Int)).1 = ip from rfl, upd_upd] at hd
      exact hd
    · rw [if_neg hn, if_neg hn]
      exact ha
  · rw [if_pos h0, tailP_len _ _ _ _ _ (by simp)]
    simp
/-- what a pass does -/
def Passed (w : World) (B p : Nat) (bs : List Nat) (n : Int) (f : Int → Int) (m : Nat) (ip : Int) (e : Ending) (w' : World) : Prop :=
  ∃ (f' : Int → Int) (ps' : List Pl) (bs' : List Nat), e = .returned (.bool (decide (n ≤ f ip + 1))) ∧ At w' B p bs' n ps' ∧ Is ps' f' ∧ Pass n f m ip (decide (n ≤ f ip + 1)) f' ps'.length ∧ Stirred w w' bs ∧ ∀ k ∈ bs', k ∈ bs ∨ w.heap.size ≤ k
section
variable {w : World} {B p : Nat} {bs : List Nat} {n : Int} {ps : List Pl} {f : Int → Int}
set_option maxHeartbeats 8000000 in
theorem pass_any (h : At w B p bs n ps) (hB : B ≤ w.heap.size) (hI : Is ps f) (hn : 0 < n) (ip : Int) (hc : f ip ≤ 1000000) :
    Calls Try.prog 9 #[.pointer (some ⟨p, 0, none⟩), .int .i64 ip] w (Passed w B p bs n f ps.length ip) := by
  have HA := Lib.hid h
  have HBW := Lib.hid hB
  have HI := Lib.hid hI
  have C := Lib.hid (at_any h ip)
  have hpos := hI.pos ip
  obtain ⟨v, h1, _⟩ := h.own
  have c0 : w.cell? ⟨p, 0, none⟩ = some (.int .i64 n) := whole_cell h1 rfl
  have hn0 : (n == 0) = false := by simp; omega
  clear h1
  by_cases h0 : f ip = 0
  · rw [idxI_no (hI.none h0)] at C
    have P := Lib.hid (put_any h hB ip)
    have H0 := Lib.hid h0
    clear h hB hI h0 hc
    go_enter Try.func9, Try.ntmps9
    go_wp2_with fail
    refine C.out.mono ?_
    rintro e wz ⟨rfl, hwz⟩
    subst wz
    clear C
    go_wp2_with fail
    refine P.out.mono ?_
    rintro e w2 ⟨rs, bs2, hF, rfl, hA, hS, hT⟩
    clear P c0
    have HF := Lib.hid hF
    have HA2 := Lib.hid hA
    have HS2 := Lib.hid hS
    have HT2 := Lib.hid hT
    have HPN := Lib.hid (pass_new (n := n) HI.out H0.out hF (ip := ip))
    have hj : (rs ++ [(ip, (0 : Int))])[rs.length]? = some (ip, 0) := by simp
    have hs32 : rs.length < 32 := hF.few HA.out.few
    obtain ⟨qs, hqs⟩ : ∃ qs, rs ++ [(ip, (0 : Int))] = qs := ⟨_, rfl⟩
    obtain ⟨j, hjl⟩ : ∃ j, rs.length = j := ⟨_, rfl⟩
    rw [hqs, hjl] at hj
    rw [hqs] at HPN HA2
    rw [hjl] at hs32 HPN ⊢
    clear hF hA hS hT hqs
    obtain ⟨c, hcz⟩ : ∃ c : Int, f ip = c := ⟨_, rfl⟩
    rw [hcz] at HPN
    have hj : qs[j]? = some (ip, c) := by rw [← hcz, H0.out]; exact hj
    have HC := Lib.hid hcz
    have hcb : (0 : Int) ≤ c ∧ c ≤ 1000000 := by have := H0.out; omega
    clear hcz hpos
    obtain ⟨g, cap, k1, k2, k3, k4, k5, d0, d1, kf⟩ := HA2.out.place hj
    have f1 : w2.frozen? ⟨g, j * 2 + 1, none⟩ = false := kf _
    have hjl2 := (List.getElem?_eq_some_iff.1 hj).1
    have HBU := Lib.hid (HA2.out.bump hj (c + 1) k1)
    obtain ⟨N, hN⟩ : ∃ N, qs.length = N := ⟨_, rfl⟩
    have HN := Lib.hid hN
    have hN32 := HA2.out.few
    rw [hN] at k1 hjl2 hN32
    have e0 : w2.cell? ⟨p, 0, none⟩ = some (.int .i64 n) := whole_cell k1 rfl
    have e1 : w2.cell? ⟨p, 1, none⟩ = some (.slice (some ⟨g, 0, none⟩) N cap) := whole_cell k1 rfl
    have d1 : w2.cell? ⟨g, j * 2 + 1, none⟩ = some (.int .i64 c) := d1
    have hpg : p ≠ g := fun e => k4 e.symm
    have z0 : (0 : Int) ≤ (j : Int) := by omega
    have z1 : (j : Int) < (N : Int) := by omega
    have z3 : IntKind.i64.wrap (c + 1) = c + 1 := IntWalk.i64_in _ (by omega)
    obtain ⟨c1, hc1⟩ : ∃ c1, c + 1 = c1 := ⟨_, rfl⟩
    rw [hc1] at z3 HBU HPN
    have HC1 := Lib.hid (show f ip + 1 = c1 by rw [HC.out, hc1])
    obtain ⟨w3, hw3⟩ : ∃ w3, w2.setCell ⟨g, j * 2 + 1, none⟩ (.int .i64 c1) = w3 := ⟨_, rfl⟩
    rw [hw3] at HBU
    have hs3 : Stirred w2 w3 [g] := by rw [← hw3]; exact Stirred.setCell w2 ⟨g, j * 2 + 1, none⟩ _
    have l1 := hs3.whole k1 (by simpa using hpg)
    have g0 : w3.cell? ⟨p, 0, none⟩ = some (.int .i64 n) := whole_cell l1 rfl
    have g1 : w3.cell? ⟨p, 1, none⟩ = some (.slice (some ⟨g, 0, none⟩) N cap) := whole_cell l1 rfl
    have HJ := Lib.hid (show (qs.set j (ip, c1))[j]? = some (ip, c1) by rw [List.getElem?_set, if_pos rfl, if_pos (by rw [HN.out]; exact hjl2)])
    have g2 : w3.cell? ⟨g, j * 2 + 1, none⟩ = some (.int .i64 c1) := by
      obtain ⟨_, _, m1, _, _, _, _, _, m2, _⟩ := HBU.out.1.place HJ.out
      rw [l1] at m1
      simp only [Option.some.injEq, Obj.cells.injEq, and_true, Array.mk.injEq, List.cons.injEq, Value.slice.injEq, Addr.mk.injEq, true_and] at m1
      rw [m1.1]
      exact m2
    clear k1 k2 k3 k4 k5 kf hj hN hs3 l1 d0
    by_cases hh : n ≤ c1
    · have HD := Lib.hid (fun q => drop_any (HBU.out.1.touch (Stirred.drewN w3 q []) (fun _ _ => List.not_mem_nil)) HJ.out)
      have hlt : ¬ c1 < n := by omega
      have HTP := Lib.hid (show tailP n qs j ip c1 = dropAt (qs.set j (ip, c1)) j by unfold tailP; rw [if_pos hh])
      have HB := Lib.hid (decide_eq_true hh)
      go_wp2_with fail
      go_quiet (fail)
      go_wp2_with fail
      refine (HD.out _).mono ?_
      rintro e w4 ⟨rfl, hA, hS⟩
      have HA4 := Lib.hid hA
      have HS4 := Lib.hid ((HS2.out.trans HBU.out.2 HT2.out).trans ((Stirred.drewN w3 _ bs2).trans hS (fun k hk => .inl hk)) HT2.out)
      clear hA hS
      go_wp2
      go_ret
      obtain ⟨f', hI', hP⟩ := HPN.out
      rw [HTP.out] at hI' hP
      refine ⟨f', _, bs2, by rw [HC1.out, HB.out]; rfl, HA4.out, hI', by rw [HC1.out]; exact hP, HS4.out, HT2.out⟩
    · have hlt : c1 < n := by omega
      have HTP := Lib.hid (show tailP n qs j ip c1 = qs.set j (ip, c1) by unfold tailP; rw [if_neg hh])
      have HB := Lib.hid (decide_eq_false hh)
      go_wp2_with fail
      go_quiet (fail)
      go_wp2
      go_ret
      obtain ⟨f', hI', hP⟩ := HPN.out
      rw [HTP.out] at hI' hP
      refine ⟨f', _, bs2, by rw [HC1.out, HB.out]; rfl, HBU.out.1.touch (Stirred.drewN w3 _ []) (fun _ _ => List.not_mem_nil), hI', by rw [HC1.out]; exact hP, (HS2.out.trans HBU.out.2 HT2.out).trans (Stirred.drewN w3 _ bs2) HT2.out, HT2.out⟩
  · obtain ⟨j, hj⟩ := hI.at h0
    rw [hI.apart.idx hj rfl] at C
    have hj32 : j < 32 := Nat.lt_of_lt_of_le (List.getElem?_eq_some_iff.1 hj).1 h.few
    have hj0 : ¬ (j : Int) < 0 := by omega
    have HPN := Lib.hid (pass_known (n := n) hI hj h0)
    have HS := Lib.hid (Stirred.refl w bs)
    have HT := Lib.hid (show ∀ k ∈ bs, k ∈ bs ∨ w.heap.size ≤ k from fun k hk => .inl hk)
    obtain ⟨c, hcz⟩ : ∃ c : Int, f ip = c := ⟨_, rfl⟩
    rw [hcz] at hj HPN hc hpos
    have HC := Lib.hid hcz
    have hcb : (0 : Int) ≤ c ∧ c ≤ 1000000 := ⟨hpos, hc⟩
    clear h hB hI h0 hc hpos hcz
    go_enter Try.func9, Try.ntmps9
    go_wp2_with fail
    refine C.out.mono ?_
    rintro e wz ⟨rfl, hwz⟩
    subst wz
    clear C c0
    obtain ⟨g, cap, k1, k2, k3, k4, k5, d0, d1, kf⟩ := HA.out.place hj
    have f1 : w.frozen? ⟨g, j * 2 + 1, none⟩ = false := kf _
    have hjl2 := (List.getElem?_eq_some_iff.1 hj).1
    have HBU := Lib.hid (HA.out.bump hj (c + 1) k1)
    obtain ⟨N, hN⟩ : ∃ N, ps.length = N := ⟨_, rfl⟩
    have HN := Lib.hid hN
    have hN32 := HA.out.few
    rw [hN] at k1 hjl2 hN32
    have e0 : w.cell? ⟨p, 0, none⟩ = some (.int .i64 n) := whole_cell k1 rfl
    have e1 : w.cell? ⟨p, 1, none⟩ = some (.slice (some ⟨g, 0, none⟩) N cap) := whole_cell k1 rfl
    have d1 : w.cell? ⟨g, j * 2 + 1, none⟩ = some (.int .i64 c) := d1
    have hpg : p ≠ g := fun e => k4 e.symm
    have z0 : (0 : Int) ≤ (j : Int) := by omega
    have z1 : (j : Int) < (N : Int) := by omega
    have z3 : IntKind.i64.wrap (c + 1) = c + 1 := IntWalk.i64_in _ (by omega)
    obtain ⟨c1, hc1⟩ : ∃ c1, c + 1 = c1 := ⟨_, rfl⟩
    rw [hc1] at z3 HBU HPN
    have HC1 := Lib.hid (show f ip + 1 = c1 by rw [HC.out, hc1])
    obtain ⟨w3, hw3⟩ : ∃ w3, w.setCell ⟨g, j * 2 + 1, none⟩ (.int .i64 c1) = w3 := ⟨_, rfl⟩
    rw [hw3] at HBU
    have hs3 : Stirred w w3 [g] := by rw [← hw3]; exact Stirred.setCell w ⟨g, j * 2 + 1, none⟩ _
    have l1 := hs3.whole k1 (by simpa using hpg)
    have g0 : w3.cell? ⟨p, 0, none⟩ = some (.int .i64 n) := whole_cell l1 rfl
    have g1 : w3.cell? ⟨p, 1, none⟩ = some (.slice (some ⟨g, 0, none⟩) N cap) := whole_cell l1 rfl
    have HJ := Lib.hid (show (ps.set j (ip, c1))[j]? = some (ip, c1) by rw [List.getElem?_set, if_pos rfl, if_pos (by rw [HN.out]; exact hjl2)])
    have g2 : w3.cell? ⟨g, j * 2 + 1, none⟩ = some (.int .i64 c1) := by
      obtain ⟨_, _, m1, _, _, _, _, _, m2, _⟩ := HBU.out.1.place HJ.out
      rw [l1] at m1
      simp only [Option.some.injEq, Obj.cells.injEq, and_true, Array.mk.injEq, List.cons.injEq, Value.slice.injEq, Addr.mk.injEq, true_and] at m1
      rw [m1.1]
      exact m2
    clear k1 k2 k3 k4 k5 kf hj hN hs3 l1 d0
    by_cases hh : n ≤ c1
    · have HD := Lib.hid (fun q => drop_any (HBU.out.1.touch (Stirred.drewN w3 q []) (fun _ _ => List.not_mem_nil)) HJ.out)
      have hlt : ¬ c1 < n := by omega
      have HTP := Lib.hid (show tailP n ps j ip c1 = dropAt (ps.set j (ip, c1)) j by unfold tailP; rw [if_pos hh])
      have HB := Lib.hid (decide_eq_true hh)
      go_wp2_with fail
      go_quiet (fail)
      go_wp2_with fail
      refine (HD.out _).mono ?_
      rintro e w4 ⟨rfl, hA, hS⟩
      have HA4 := Lib.hid hA
      have HS4 := Lib.hid ((HS.out.trans HBU.out.2 HT.out).trans ((Stirred.drewN w3 _ bs).trans hS (fun k hk => .inl hk)) HT.out)
      clear hA hS
      go_wp2
      go_ret
      obtain ⟨f', hI', hP⟩ := HPN.out
      rw [HTP.out] at hI' hP
      refine ⟨f', _, bs, by rw [HC1.out, HB.out]; rfl, HA4.out, hI', by rw [HC1.out]; exact hP, HS4.out, HT.out⟩
    · have hlt : c1 < n := by omega
      have HTP := Lib.hid (show tailP n ps j ip c1 = ps.set j (ip, c1) by unfold tailP; rw [if_neg hh])
      have HB := Lib.hid (decide_eq_false hh)
      go_wp2_with fail
      go_quiet (fail)
      go_wp2
      go_ret
      obtain ⟨f', hI', hP⟩ := HPN.out
      rw [HTP.out] at hI' hP
      refine ⟨f', _, bs, by rw [HC1.out, HB.out]; rfl, HBU.out.1.touch (Stirred.drewN w3 _ []) (fun _ _ => List.not_mem_nil), hI', by rw [HC1.out]; exact hP, (HS.out.trans HBU.out.2 HT.out).trans (Stirred.drewN w3 _ bs) HT.out, HT.out⟩
end
end Go.Proofs.Ytajgkheagahfeaa.Hot
