
/- The texts of codes (P202), in plain lists of bytes, no program: two codes have one text only if they are one code. -/
import Derived.Lib.ItoaNum
import Derived.Below
namespace Go.Proofs.YtpecingkoodmfaaGreatDoor
def fixedTexts : List (Int × List UInt8) := [
  (-3, [115, 116, 97, 99, 107, 32, 111, 118, 101, 114, 102, 108, 111, 119]),
  (-4, [115, 116, 97, 99, 107, 32, 117, 110, 100, 101, 114, 102, 108, 111, 119]),
  (-5, [114, 101, 116, 117, 114, 110, 32, 115, 116, 97, 99, 107, 32, 111, 118, 101, 114, 102, 108, 111, 119]),
  (-6, [114, 101, 116, 117, 114, 110, 32, 115, 116, 97, 99, 107, 32, 117, 110, 100, 101, 114, 102, 108, 111, 119]),
  (-8, [100, 105, 99, 116, 105, 111, 110, 97, 114, 121, 32, 111, 118, 101, 114, 102, 108, 111, 119]),
  (-9, [105, 110, 118, 97, 108, 105, 100, 32, 97, 100, 100, 114, 101, 115, 115]),
  (-10, [100, 105, 118, 105, 115, 105, 111, 110, 32, 98, 121, 32, 122, 101, 114, 111]),
  (-13, [117, 110, 100, 101, 102, 105, 110, 101, 100, 32, 119, 111, 114, 100]),
  (-14, [99, 111, 109, 112, 105, 108, 101, 45, 111, 110, 108, 121, 32, 119, 111, 114, 100]),
  (-16, [110, 111, 32, 110, 97, 109, 101]),
  (-22, [99, 111, 110, 116, 114, 111, 108, 32, 109, 105, 115, 109, 97, 116, 99, 104]),
  (-25, [98, 114, 111, 107, 101, 110, 32, 99, 97, 116, 99, 104]),
  (-57, [111, 117, 116, 112, 117, 116, 32, 102, 117, 108, 108])]
def throwText : List UInt8 := [116, 104, 114, 111, 119, 32]
def textOf (c : Int) : List UInt8 := match fixedTexts.lookup c with
  | some t => t
  | none => throwText ++ Lib.itoa c
def Other (c : Int) : Prop := c ≠ -3 ∧ c ≠ -4 ∧ c ≠ -5 ∧ c ≠ -6 ∧ c ≠ -8 ∧ c ≠ -9 ∧ c ≠ -10 ∧ c ≠ -13 ∧ c ≠ -14 ∧ c ≠ -16 ∧ c ≠ -22 ∧ c ≠ -25 ∧ c ≠ -57
theorem code_cases (c : Int) : c = -3 ∨ c = -4 ∨ c = -5 ∨ c = -6 ∨ c = -8 ∨ c = -9 ∨ c = -10 ∨ c = -13 ∨ c = -14 ∨ c = -16 ∨ c = -22 ∨ c = -25 ∨ c = -57 ∨ Other c := by
  unfold Other; omega
theorem lookup_other {c : Int} (h : Other c) : fixedTexts.lookup c = none := by
  obtain ⟨h1, h2, h3, h4, h5, h6, h7, h8, h9, h10, h11, h12, h13⟩ := h
  have e : ∀ {k : Int}, c ≠ k → (c == k) = false := fun h => by simpa using h
  simp [fixedTexts, List.lookup, e h1, e h2, e h3, e h4, e h5, e h6, e h7, e h8, e h9, e h10, e h11, e h12, e h13]
theorem textOf_other {c : Int} (h : Other c) : textOf c = throwText ++ Lib.itoa c := by unfold textOf; rw [lookup_other h]
theorem lookup_some {c : Int} {t : List UInt8} (h : fixedTexts.lookup c = some t) : t ∈ fixedTexts.map (·.2) ∧ (c, t) ∈ fixedTexts := by
  have : ∀ l : List (Int × List UInt8), l.lookup c = some t → (c, t) ∈ l := by
    intro l
    induction l with
    | nil => intro h; cases h
    | cons p r ih =>
      obtain ⟨k, u⟩ := p
      intro h
      rw [List.lookup_cons] at h
      by_cases hk : c == k
      · rw [hk] at h; simp at h hk; subst h; subst hk; exact List.mem_cons_self ..
      · simp at hk
        have : (c == k) = false := by simpa using hk
        rw [this] at h; exact List.mem_cons_of_mem _ (ih h)
  exact ⟨List.mem_map.2 ⟨_, this _ h, rfl⟩, this _ h⟩
theorem fixed_apart : ∀ p ∈ fixedTexts, ∀ q ∈ fixedTexts, p.2 = q.2 → p.1 = q.1 := by decide
theorem fixed_head : ∀ p ∈ fixedTexts, p.2.head? ≠ some 116 ∧ p.2 ≠ [] := by decide
theorem textOf_ne (c : Int) : textOf c ≠ [] := by
  unfold textOf
  cases h : fixedTexts.lookup c with
  | none => simp [throwText]
  | some t => exact (fixed_head _ (lookup_some h).2).2
def readDec (l : List UInt8) : Nat := l.foldl (fun n b => 10 * n + (b.toNat - 48)) 0
theorem readDec_dec (u : Nat) : readDec (Lib.decDigits u) = u := by
  induction u using Nat.strongRecOn with
  | _ u ih =>
    rw [Lib.decDigits]
    by_cases h : u < 10
    · rw [dif_pos h]
      show 10 * 0 + ((UInt8.ofNat (48 + u)).toNat - 48) = u
      rw [UInt8.toNat_ofNat']; omega
    · rw [dif_neg h]
      unfold readDec at ih ⊢
      rw [List.foldl_append, ih (u / 10) (by omega)]
      show 10 * (u / 10) + ((UInt8.ofNat (48 + u % 10)).toNat - 48) = u
      rw [UInt8.toNat_ofNat']; omega
theorem dec_head (u : Nat) : (Lib.decDigits u).head? ≠ some 45 := by
  induction u using Nat.strongRecOn with
  | _ u ih =>
    rw [Lib.decDigits]
    by_cases h : u < 10
    · rw [dif_pos h]
      intro e
      have := congrArg (fun o : Option UInt8 => o.map UInt8.toNat) e
      simp [UInt8.toNat_ofNat'] at this
      omega
    · rw [dif_neg h]
      have h1 := ih (u / 10) (by omega)
      cases hd : Lib.decDigits (u / 10) with
      | nil => have := readDec_dec (u / 10); rw [hd] at this; simp [readDec] at this; omega
      | cons x r => rw [hd] at h1; simpa using h1
theorem dec_inj {u v : Nat} (h : Lib.decDigits u = Lib.decDigits v) : u = v := by
  have := congrArg readDec h
  rwa [readDec_dec, readDec_dec] at this
theorem itoa_inj' {a b : Int} (h : Lib.itoa a = Lib.itoa b) : a = b := by
  unfold Lib.itoa at h
  by_cases ha : a < 0 <;> by_cases hb : b < 0
  · rw [if_pos ha, if_pos hb] at h
    have := dec_inj (List.cons.inj h).2
    omega
  · rw [if_pos ha, if_neg hb] at h
    exact absurd (by rw [← h]; rfl) (dec_head b.toNat)
  · rw [if_neg ha, if_pos hb] at h
    exact absurd (by rw [h]; rfl) (dec_head a.toNat)
  · rw [if_neg ha, if_neg hb] at h
    have := dec_inj h
    omega
theorem nDigits_le : ∀ (k u : Nat), u < 10 ^ (k + 1) → Lib.nDigits u ≤ k + 1
  | 0, u, h => by rw [Lib.nDigits_small (by simpa using h)]; exact Nat.le_refl _
  | k + 1, u, h => by
    by_cases h10 : u < 10
    · rw [Lib.nDigits_small h10]; omega
    · rw [Lib.nDigits_big h10]
      have := nDigits_le k (u / 10) (by rw [Nat.pow_succ] at h; omega)
      omega
theorem itoa_len {c : Int} (h0 : -9223372036854775808 ≤ c) (h1 : c ≤ 9223372036854775807) : (Lib.itoa c).length ≤ 20 := by
  have h19 : ∀ u : Nat, u ≤ 9223372036854775808 → (Lib.decDigits u).length ≤ 19 := fun u hu => by
    rw [Lib.decDigits_length]; exact nDigits_le 18 u (by omega)
  unfold Lib.itoa
  split
  · have := h19 c.natAbs (by omega); simp; omega
  · have := h19 c.toNat (by omega); omega
theorem textOf_len {c : Int} (h0 : -9223372036854775808 ≤ c) (h1 : c ≤ 9223372036854775807) : (textOf c).length ≤ 26 := by
  unfold textOf
  cases h : fixedTexts.lookup c with
  | none => have := itoa_len h0 h1; simp [throwText]; omega
  | some t =>
    have : ∀ p ∈ fixedTexts, p.2.length ≤ 26 := by decide
    exact this _ (lookup_some h).2
theorem textOf_inj {a b : Int} (h : textOf a = textOf b) : a = b := by
  unfold textOf at h
  cases ha : fixedTexts.lookup a with
  | none =>
    cases hb : fixedTexts.lookup b with
    | none =>
      rw [ha, hb] at h
      exact itoa_inj' (List.append_cancel_left h)
    | some t =>
      rw [ha, hb] at h
      have := (fixed_head _ (lookup_some hb).2).1
      simp only at h this
      rw [← h] at this
      exact absurd rfl this
  | some s =>
    cases hb : fixedTexts.lookup b with
    | none =>
      rw [ha, hb] at h
      have := (fixed_head _ (lookup_some ha).2).1
      simp only at h this
      rw [h] at this
      exact absurd rfl this
    | some t =>
      rw [ha, hb] at h
      exact fixed_apart _ (lookup_some ha).2 _ (lookup_some hb).2 h
end Go.Proofs.YtpecingkoodmfaaGreatDoor
