
/- HotPlays: the least count of a map that is ranged over; what a pass makes of both counts. -/
import Derived.Test.YtajgkheagahfeaaHotCnt
namespace Go.Proofs.Ytajgkheagahfeaa.Hot
open Go.RowKit Book Book.Wide Go.Maps
set_option linter.unusedSimpArgs false
set_option linter.unusedVariables false
/-- what was found among the entries that have come: none yet (lv = 0), or the least one -/
def Best (f : Int → Int) (left : Lit → Bool) (lv av : Int) : Prop :=
  (lv = 0 ∧ ∀ z, f z ≠ 0 → left (.int .i64 z) = true) ∨ (lv ≠ 0 ∧ f av = lv ∧ left (.int .i64 av) = false ∧ ∀ z, f z ≠ 0 → left (.int .i64 z) = false → goesB (z, f z) (av, lv) = false)
theorem left_step (left : Lit → Bool) (x z : Int) : ((fun k : Lit => left k && !k.sameKey (.int .i64 x)) (.int .i64 z)) = (left (.int .i64 z) && !decide (z = x)) := by
  show (left (.int .i64 z) && !(Lit.int .i64 z).sameKey (.int .i64 x)) = _
  congr 2
  by_cases h : z = x
  · subst h; simp [Lit.sameKey]
  · rw [decide_eq_false h]; exact sameKey_ne (by simpa using h)
theorem Best.take {f : Int → Int} {left : Lit → Bool} {lv av x c : Int} (h : Best f left lv av) (hx : f x = c) (hc : c ≠ 0) (hg : lv = 0 ∨ goesB (x, c) (av, lv) = true) : Best f (fun k => left k && !k.sameKey (.int .i64 x)) c x := by
  refine .inr ⟨hc, hx, by rw [left_step]; simp, fun z hz hl => ?_⟩
  rw [left_step] at hl
  by_cases e : z = x
  · subst e; rw [hx]; exact goes_irrefl _
  · rw [decide_eq_false e] at hl
    simp only [Bool.not_false, Bool.and_true] at hl
    rcases h with ⟨h1, h2⟩ | ⟨h1, h2, h3, h4⟩
    · rw [h2 z hz] at hl; cases hl
    · rcases hg with hg | hg
      · exact absurd hg h1
      · exact goes_trans (goes_asymm hg) (h4 z hz hl)
theorem Best.stay {f : Int → Int} {left : Lit → Bool} {lv av x c : Int} (h : Best f left lv av) (hx : f x = c) (hlv : lv ≠ 0) (hg : goesB (x, c) (av, lv) = false) : Best f (fun k => left k && !k.sameKey (.int .i64 x)) lv av := by
  rcases h with ⟨h1, h2⟩ | ⟨h1, h2, h3, h4⟩
  · exact absurd h1 hlv
  refine .inr ⟨h1, h2, by rw [left_step, h3]; rfl, fun z hz hl => ?_⟩
  rw [left_step] at hl
  by_cases e : z = x
  · subst e; rw [hx]; exact hg
  · rw [decide_eq_false e] at hl
    simp only [Bool.not_false, Bool.and_true] at hl
    exact h4 z hz hl
theorem Best.least {f : Int → Int} {left : Lit → Bool} {lv av : Int} (h : Best f left lv av) (hl : ∀ k, left k = false) (hs : ∃ z, f z ≠ 0) : Least f av := by
  obtain ⟨z, hz⟩ := hs
  rcases h with ⟨h1, h2⟩ | ⟨h1, h2, h3, h4⟩
  · have := h2 z hz
    rw [hl] at this; cases this
  · exact ⟨by rw [h2]; exact h1, fun b hb => by rw [h2]; exact h4 b hb (hl _)⟩
/-- a pass, where it is known what is given up -/
theorem Pass.both {n : Int} {f : Int → Int} {m : Nat} {ip c : Int} {b : Bool} {f' g : Int → Int} {m' mg : Nat} (h : Pass n f m ip b f' m') (hc : f ip = c) (hg : ∀ f1 m1, Room f m ip f1 m1 → f1 = g ∧ m1 = mg) :
    (n ≤ c + 1 → f' = upd (upd g ip (c + 1)) ip 0 ∧ m' + 1 = mg + 1 - oneIf c) ∧ (¬ n ≤ c + 1 → f' = upd g ip (c + 1) ∧ m' = mg + 1 - oneIf c) := by
  obtain ⟨f1, m1, hR, h1, h2, h3, h4⟩ := h.way
  obtain ⟨rfl, rfl⟩ := hg f1 m1 hR
  rw [hc] at h3 h4
  refine ⟨fun hn => ?_, fun hn => ?_⟩
  · rw [if_pos hn] at h3 h4
    refine ⟨by rw [h3, upd_upd], ?_⟩
    by_cases h0 : c = 0
    · rw [if_pos h0] at h4; rw [oneIf_no h0]; omega
    · rw [if_neg h0] at h4; rw [oneIf_yes h0]; omega
  · rw [if_neg hn] at h3 h4
    refine ⟨h3, ?_⟩
    by_cases h0 : c = 0
    · rw [if_pos h0] at h4; rw [oneIf_no h0]; omega
    · rw [if_neg h0] at h4; rw [oneIf_yes h0]; omega
theorem room_free {f : Int → Int} {m : Nat} {ip : Int} (h : f ip ≠ 0 ∨ m < 32) : ∀ f1 m1, Room f m ip f1 m1 → f1 = f ∧ m1 = m := by
  intro f1 m1 hR
  rcases hR with ⟨_, h1, h2⟩ | ⟨h1, h2, _⟩
  · exact ⟨h1, h2⟩
  · rcases h with h | h
    · exact absurd h1 h
    · omega
theorem room_full {f : Int → Int} {m : Nat} {ip a : Int} (h0 : f ip = 0) (hm : 32 ≤ m) (ha : Least f a) : ∀ f1 m1, Room f m ip f1 m1 → f1 = upd f a 0 ∧ m1 = m - oneIf (f a) := by
  intro f1 m1 hR
  rcases hR with ⟨h1, _⟩ | ⟨h1, h2, b, hb, h3, h4⟩
  · rcases h1 with h1 | h1
    · exact absurd h0 h1
    · omega
  · rw [Least.one ha hb]
    exact ⟨h3, by rw [oneIf_yes hb.1]; exact h4⟩
theorem upd_le {f : Int → Int} {k : Int} (h : ∀ z, f z ≤ k) (a v : Int) (hv : v ≤ k) : ∀ z, upd f a v z ≤ k := by
  intro z
  unfold upd
  split
  · exact hv
  · exact h z
end Go.Proofs.Ytajgkheagahfeaa.Hot
