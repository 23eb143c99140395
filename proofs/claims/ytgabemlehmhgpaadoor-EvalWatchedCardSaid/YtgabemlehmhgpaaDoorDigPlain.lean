
/- Numbers as digits, and digits as numbers, in plain functions: no program in sight. -/
import Derived.RowKit
import Derived.Lib.ItoaNum
import Derived.Lib.Case
import Derived.WalkKit
namespace Go.Proofs.YtgabemlehmhgpaaDoor.Dig
open Go.RowKit (wrap64)

def upD (d : Nat) : UInt8 := UInt8.ofNat (if d < 10 then 48 + d else 55 + d)
def loD (d : Nat) : UInt8 := UInt8.ofNat (if d < 10 then 48 + d else 87 + d)
/-- the j lowest digits of u -/
def suf (f : Nat → UInt8) (b u : Nat) : Nat → List UInt8
  | 0 => []
  | j + 1 => f (u / b ^ j % b) :: suf f b u j
def ndF (b : Nat) : Nat → Nat → Nat
  | 0, _ => 1
  | k + 1, u => if u < b then 1 else ndF b k (u / b) + 1
/-- how many digits a number has -/
def nd (b u : Nat) : Nat := ndF b 64 u
def digs (f : Nat → UInt8) (b u : Nat) : List UInt8 := suf f b u (nd b u)
def Fits (b u n : Nat) : Prop := 1 ≤ n ∧ u < b ^ n ∧ (n = 1 ∨ b ^ (n - 1) ≤ u)

theorem ndF_fits {b : Nat} (hb : 2 ≤ b) : ∀ (k u : Nat), u < 2 ^ (k + 1) → Fits b u (ndF b k u)
  | 0, u, h => ⟨Nat.le_refl _, by simp only [ndF, Nat.pow_one]; simp at h; omega, .inl rfl⟩
  | k + 1, u, h => by
    unfold ndF
    by_cases hu : u < b
    · rw [if_pos hu]; exact ⟨Nat.le_refl _, by simpa using hu, .inl rfl⟩
    · rw [if_neg hu]
      have hd : u / b < 2 ^ (k + 1) := by
        rw [Nat.div_lt_iff_lt_mul (by omega)]
        rw [Nat.pow_succ] at h
        exact Nat.lt_of_lt_of_le h (Nat.mul_le_mul_left _ hb)
      obtain ⟨h1, h2, h3⟩ := ndF_fits hb k (u / b) hd
      refine ⟨by omega, ?_, .inr ?_⟩
      · rw [Nat.pow_succ]; exact (Nat.div_lt_iff_lt_mul (by omega)).1 h2
      · rw [Nat.add_sub_cancel]
        rcases h3 with h3 | h3
        · rw [h3, Nat.pow_one]; omega
        · have h4 := (Nat.le_div_iff_mul_le (by omega)).1 h3
          rw [← Nat.pow_succ] at h4
          rwa [show (ndF b k (u / b) - 1).succ = ndF b k (u / b) from by omega] at h4
theorem nd_fits {b u : Nat} (hb : 2 ≤ b) (hu : u < 18446744073709551616) : Fits b u (nd b u) :=
  ndF_fits hb 64 u (Nat.lt_of_lt_of_le hu (by decide))
theorem fits_one {b u m n : Nat} (hb : 2 ≤ b) (hm : Fits b u m) (hn : Fits b u n) : m = n := by
  have key : ∀ {m n : Nat}, Fits b u m → Fits b u n → ¬ m < n := fun {m n} hm hn hlt => by
    have h1 := hm.2.1
    rcases hn.2.2 with h2 | h2
    · have := hm.1; omega
    · have h3 : b ^ m ≤ b ^ (n - 1) := Nat.pow_le_pow_right (by omega) (by omega)
      omega
  have h1 := key hm hn
  have h2 := key hn hm
  omega
theorem nd_eq {b u n : Nat} (hb : 2 ≤ b) (hu : u < 18446744073709551616) (hn : Fits b u n) : nd b u = n := fits_one hb (nd_fits hb hu) hn
theorem nd_le {b u : Nat} (hb : 2 ≤ b) (hu : u < 18446744073709551616) : nd b u ≤ 64 := by
  obtain ⟨h1, h2, h3⟩ := nd_fits hb hu
  rcases h3 with h3 | h3
  · omega
  · rcases Nat.lt_or_ge 64 (nd b u) with h | h
    · have h4 : 2 ^ 64 ≤ b ^ (nd b u - 1) := Nat.le_trans (Nat.pow_le_pow_left hb 64) (Nat.pow_le_pow_right (by omega) (by omega))
      have : (2 : Nat) ^ 64 = 18446744073709551616 := by decide
      omega
    · exact h
theorem suf_length (f : Nat → UInt8) (b u : Nat) : ∀ j, (suf f b u j).length = j
  | 0 => rfl
  | j + 1 => by simp [suf, suf_length f b u j]
theorem digs_length (f : Nat → UInt8) (b u : Nat) : (digs f b u).length = nd b u := suf_length f b u _
theorem suf_snoc (f : Nat → UInt8) (b u : Nat) : ∀ j, suf f b u (j + 1) = suf f b (u / b) j ++ [f (u % b)]
  | 0 => by simp [suf]
  | j + 1 => by
    rw [suf, suf_snoc f b u j]
    show _ = f (u / b / b ^ j % b) :: suf f b (u / b) j ++ _
    rw [Nat.div_div_eq_div_mul, Nat.mul_comm b, ← Nat.pow_succ]
    rfl
theorem suf_map (f g h : Nat → UInt8) (k : UInt8 → UInt8) (b u : Nat) (hb : 0 < b) (he : ∀ d, d < b → k (f d) = h d) : ∀ j, (suf f b u j).map k = suf h b u j
  | 0 => rfl
  | j + 1 => by simp only [suf, List.map_cons, suf_map f g h k b u hb he j, he _ (Nat.mod_lt _ hb)]
theorem suf_all (f : Nat → UInt8) (p : UInt8 → Prop) (b u : Nat) (hb : 0 < b) (he : ∀ d, d < b → p (f d)) : ∀ j, ∀ c ∈ suf f b u j, p c
  | 0, _, h => by cases h
  | j + 1, c, h => by
    rcases List.mem_cons.1 h with rfl | h
    · exact he _ (Nat.mod_lt _ hb)
    · exact suf_all f p b u hb he j c h
theorem upper_lo_fin : ∀ d : Fin 36, Lib.upperB (loD d.val) = upD d.val := by decide
theorem upper_lo {d : Nat} (h : d < 36) : Lib.upperB (loD d) = upD d := upper_lo_fin ⟨d, h⟩
theorem lo_ascii_fin : ∀ d : Fin 36, (loD d.val).toNat < 128 := by decide
theorem lo_ascii {d : Nat} (h : d < 36) : (loD d).toNat < 128 := lo_ascii_fin ⟨d, h⟩
theorem nDigits_fits (u : Nat) : Fits 10 u (Lib.nDigits u) := by
  refine ⟨Lib.nDigits_pos u, Lib.lt_pow_nDigits u, ?_⟩
  induction u using Nat.strongRecOn with
  | _ u ih =>
    by_cases h : u < 10
    · exact .inl (Lib.nDigits_small h)
    · rw [Lib.nDigits_big h, Nat.add_sub_cancel]
      have hp := Lib.nDigits_pos (u / 10)
      rcases ih (u / 10) (by omega) with h3 | h3
      · rw [h3]; right; omega
      · right
        have h4 := (Nat.le_div_iff_mul_le (by decide)).1 h3
        rw [← Nat.pow_succ, show (Lib.nDigits (u / 10) - 1).succ = Lib.nDigits (u / 10) from by omega] at h4
        exact h4
theorem dec_suf (f : Nat → UInt8) (hf : ∀ d, d < 10 → f d = UInt8.ofNat (48 + d)) (u : Nat) : Lib.decDigits u = suf f 10 u (Lib.nDigits u) := by
  induction u using Nat.strongRecOn with
  | _ u ih =>
    by_cases h : u < 10
    · rw [Lib.decDigits, dif_pos h, Lib.nDigits_small h]
      simp [suf, Nat.mod_eq_of_lt h, hf u h]
    · rw [Lib.decDigits, dif_neg h, Lib.nDigits_big h, suf_snoc, ih (u / 10) (by omega), hf _ (Nat.mod_lt _ (by decide))]
theorem dec_digs (f : Nat → UInt8) (hf : ∀ d, d < 10 → f d = UInt8.ofNat (48 + d)) (u : Nat) (hu : u < 18446744073709551616) : Lib.decDigits u = digs f 10 u := by
  rw [dec_suf f hf, digs, nd_eq (by decide) hu (nDigits_fits u)]

def rightB (base : Int) : Bool := decide (2 ≤ base) && decide (base ≤ 36)
def sgn (v : Int) : List UInt8 := if v < 0 then [45] else []
/-- what a number's digits are -/
def putV (f : Nat → UInt8) (v base : Int) : List UInt8 := sgn v ++ digs f base.toNat v.natAbs
theorem itoa_put {v : Int} (hv : v.natAbs < 18446744073709551616) : Lib.itoa v = putV loD v 10 := by
  unfold Lib.itoa putV sgn
  rw [show (10 : Int).toNat = 10 from rfl, ← dec_digs loD (fun d h => by unfold loD; rw [if_pos h]) _ hv]
  split
  · rfl
  · rw [show v.toNat = v.natAbs from by omega]; rfl
theorem put_upper (v base : Int) (h0 : 2 ≤ base) (h1 : base ≤ 36) : (putV loD v base).map Lib.upperB = putV upD v base := by
  unfold putV digs sgn
  rw [List.map_append, suf_map loD loD upD Lib.upperB _ _ (by omega) (fun d hd => upper_lo (by omega))]
  congr 1
  split <;> decide
theorem put_ascii (v base : Int) (h0 : 2 ≤ base) (h1 : base ≤ 36) : ∀ c ∈ putV loD v base, c.toNat < 128 := by
  intro c hc
  unfold putV digs sgn at hc
  rcases List.mem_append.1 hc with h | h
  · split at h
    · simp at h; subst h; decide
    · cases h
  · exact suf_all loD (fun c => c.toNat < 128) _ _ (by omega) (fun d hd => lo_ascii (by omega)) _ c h
theorem put_length (f : Nat → UInt8) (v base : Int) (h0 : 2 ≤ base) (hv : v.natAbs < 18446744073709551616) : 1 ≤ (putV f v base).length ∧ (putV f v base).length ≤ 65 := by
  unfold putV sgn
  rw [List.length_append, digs_length]
  have h1 := nd_le (b := base.toNat) (u := v.natAbs) (by omega) hv
  have h2 := (nd_fits (b := base.toNat) (u := v.natAbs) (by omega) hv).1
  split <;> simp <;> omega

/-- what a byte stands for; 36: none -/
def dig (c : UInt8) : Int :=
  if 48 ≤ c.toNat ∧ c.toNat ≤ 57 then c.toNat - 48
  else if 97 ≤ c.toNat ∧ c.toNat ≤ 122 then c.toNat - 87
  else if 65 ≤ c.toNat ∧ c.toNat ≤ 90 then c.toNat - 55
  else 36
def numL (b : Int) : Int → List UInt8 → Option Int
  | v, [] => some v
  | v, c :: r => if b ≤ dig c then none else numL b (wrap64 (wrap64 (v * b) + dig c)) r
def numV (l : List UInt8) (b : Int) : Option Int := if l = [] ∨ 70 < l.length then none else numL b 0 l
def signV (c : UInt8) : Int := if c = 36 then 16 else if c = 35 then 10 else if c = 37 then 2 else 0
def signed (l : List UInt8) (b : Int) : List UInt8 × Int := match l with
  | [] => ([], b)
  | c :: r => if signV c = 0 then (c :: r, b) else (r, signV c)
def minus (l : List UInt8) : List UInt8 × Bool := match l with
  | [] => ([], false)
  | c :: r => if c = 45 then (r, true) else (c :: r, false)
def quoted (l : List UInt8) : Option UInt8 := match l with
  | [a, c, b] => if a = 39 ∧ b = 39 then some c else none
  | _ => none
def withSign (neg : Bool) : Option Int → Int × Bool
  | none => (0, false)
  | some v => (if neg then wrap64 (-v) else v, true)
/-- what a text is as a number -/
def getV (l : List UInt8) (base : Int) : Int × Bool :=
  if rightB base then
    match quoted l with
    | some c => (c.toNat, true)
    | none => withSign (minus (signed l base).1).2 (numV (minus (signed l base).1).1 (signed l base).2)
  else (0, false)

theorem wrap_step (x y k : Int) : wrap64 (wrap64 (wrap64 x * k) + y) = wrap64 (x * k + y) := by
  have h : wrap64 (wrap64 x * k) = wrap64 (x * k) := by
    unfold wrap64
    have e : ((x + 9223372036854775808) % 18446744073709551616 - 9223372036854775808) = x - 18446744073709551616 * ((x + 9223372036854775808) / 18446744073709551616) := by omega
    rw [e, Int.sub_mul, Int.mul_assoc, Int.mul_comm 18446744073709551616 (_ * k)]
    omega
  rw [h]; unfold wrap64; omega
theorem dig_up_fin : ∀ d : Fin 36, dig (upD d.val) = (d.val : Int) := by decide
theorem dig_up {d : Nat} (h : d < 36) : dig (upD d) = (d : Int) := dig_up_fin ⟨d, h⟩
theorem numL_suf (b u : Nat) (hb : 2 ≤ b) (h36 : b ≤ 36) : ∀ (j : Nat) (a : Int), numL b (wrap64 a) (suf upD b u j) = some (wrap64 (a * (b ^ j : Nat) + (u % b ^ j : Nat)))
  | 0, a => by simp [numL, suf, Nat.mod_one]
  | j + 1, a => by
    have hm : u / b ^ j % b < b := Nat.mod_lt _ (by omega)
    rw [suf, numL, dig_up (by omega), if_neg (by omega), wrap_step, numL_suf b u hb h36 j]
    congr 2
    have e : u % b ^ (j + 1) = (u / b ^ j % b) * b ^ j + u % b ^ j := by
      rw [Nat.pow_succ, Nat.mod_mul]
      rw [Nat.mul_comm (b ^ j)]; omega
    rw [e, Int.add_mul]
    have e2 : (b ^ (j + 1) : Nat) = b * b ^ j := by rw [Nat.pow_succ, Nat.mul_comm]
    rw [e2]
    push_cast
    rw [Int.mul_assoc]
    omega
theorem numV_digs {b u : Nat} (hb : 2 ≤ b) (h36 : b ≤ 36) (hu : u < 18446744073709551616) : numV (digs upD b u) b = some (wrap64 u) := by
  obtain ⟨h1, h2, h3⟩ := nd_fits hb hu
  have h4 := nd_le hb hu
  have hl := digs_length upD b u
  unfold numV
  rw [if_neg (by
    rintro (h | h)
    · rw [h] at hl; simp at hl; omega
    · omega)]
  have h := numL_suf b u hb h36 (nd b u) 0
  rw [show wrap64 0 = 0 from by unfold wrap64; omega] at h
  unfold digs
  rw [h, Int.zero_mul, Int.zero_add, Nat.mod_eq_of_lt h2]

theorem up_plain_fin : ∀ d : Fin 36, signV (upD d.val) = 0 ∧ upD d.val ≠ 45 ∧ upD d.val ≠ 39 := by decide
theorem up_plain {d : Nat} (h : d < 36) : signV (upD d) = 0 ∧ upD d ≠ 45 ∧ upD d ≠ 39 := up_plain_fin ⟨d, h⟩
/-- digits have neither a sign nor a minus nor an apostrophe -/
def Plain (c : UInt8) : Prop := signV c = 0 ∧ c ≠ 45 ∧ c ≠ 39
theorem digs_plain {b u : Nat} (hb : 2 ≤ b) (h36 : b ≤ 36) : ∀ c ∈ digs upD b u, Plain c :=
  suf_all upD Plain b u (by omega) (fun d hd => up_plain (by omega)) _
theorem quoted_head {c : UInt8} {r : List UInt8} (h : c ≠ 39) : quoted (c :: r) = none := by
  unfold quoted
  split
  · rename_i a x b e; rw [if_neg]; rintro ⟨rfl, _⟩; simp at e; exact h e.1
  · rfl
theorem neg_wrap {v : Int} (h0 : -9223372036854775808 ≤ v) (h : v < 0) : wrap64 (-wrap64 (v.natAbs : Int)) = v := by unfold wrap64; omega
theorem pos_wrap {v : Int} (h1 : v ≤ 9223372036854775807) (h : ¬ v < 0) : wrap64 (v.natAbs : Int) = v := by unfold wrap64; omega
theorem abs_lt {v : Int} (h0 : -9223372036854775808 ≤ v) (h1 : v ≤ 9223372036854775807) : v.natAbs < 18446744073709551616 := by omega
/-- a number's digits, behind the base's own sign: read they are the number -/
theorem tail_back {v : Int} {b : Nat} (hb : 2 ≤ b) (h36 : b ≤ 36) (h0 : -9223372036854775808 ≤ v) (h1 : v ≤ 9223372036854775807) :
    withSign (minus (putV upD v b)).2 (numV (minus (putV upD v b)).1 b) = (v, true) := by
  have hn := numV_digs hb h36 (abs_lt h0 h1)
  have hp := digs_plain (u := v.natAbs) hb h36
  have hl := digs_length upD b v.natAbs
  have hk := (nd_fits hb (abs_lt h0 h1)).1
  unfold putV sgn
  rw [Int.toNat_natCast]
  cases hd : digs upD b v.natAbs with
  | nil => rw [hd] at hl; simp at hl; omega
  | cons c r =>
    rw [hd] at hn hp
    by_cases h : v < 0
    · rw [if_pos h]
      show withSign (minus (45 :: c :: r)).2 (numV (minus (45 :: c :: r)).1 b) = _
      simp only [minus, if_true]
      rw [hn]
      simp only [withSign, if_true]
      rw [neg_wrap h0 h]
    · rw [if_neg h]
      have hc := (hp c List.mem_cons_self).2.1
      simp only [List.nil_append, minus]
      rw [if_neg hc, hn]
      simp only [withSign, Bool.false_eq_true, if_false]
      rw [pos_wrap h1 h]
theorem put_cons {v : Int} {b : Nat} (hb : 2 ≤ b) (h36 : b ≤ 36) (h0 : -9223372036854775808 ≤ v) (h1 : v ≤ 9223372036854775807) :
    ∃ c r, putV upD v b = c :: r ∧ signV c = 0 ∧ c ≠ 39 := by
  have hp := digs_plain (u := v.natAbs) hb h36
  have hl := digs_length upD b v.natAbs
  have hk := (nd_fits hb (abs_lt h0 h1)).1
  unfold putV sgn
  rw [Int.toNat_natCast]
  cases hd : digs upD b v.natAbs with
  | nil => rw [hd] at hl; simp at hl; omega
  | cons c r =>
    rw [hd] at hp
    by_cases h : v < 0
    · rw [if_pos h]; exact ⟨45, c :: r, rfl, by decide, by decide⟩
    · rw [if_neg h]; exact ⟨c, r, rfl, (hp c List.mem_cons_self).1, (hp c List.mem_cons_self).2.2⟩
theorem back {v base : Int} (hb : rightB base = true) (h0 : -9223372036854775808 ≤ v) (h1 : v ≤ 9223372036854775807) : getV (putV upD v base) base = (v, true) := by
  have hb' := hb
  simp only [rightB, Bool.and_eq_true, decide_eq_true_eq] at hb'
  obtain ⟨b, rfl⟩ := Int.eq_ofNat_of_zero_le (show 0 ≤ base by omega)
  obtain ⟨c, r, e, e1, e2⟩ := put_cons (v := v) (b := b) (by omega) (by omega) h0 h1
  have h := tail_back (v := v) (b := b) (by omega) (by omega) h0 h1
  unfold getV
  rw [if_pos hb]
  rw [e] at h ⊢
  rw [quoted_head e2]
  simp only [signed, if_pos e1]
  exact h
theorem back_signed {v base : Int} {b : Nat} {c : UInt8} (hb : rightB base = true) (hs : signV c = b) (hc : c ≠ 39) (hb2 : 2 ≤ b) (h36 : b ≤ 36) (h0 : -9223372036854775808 ≤ v) (h1 : v ≤ 9223372036854775807) :
    getV (c :: putV upD v b) base = (v, true) := by
  have h := tail_back (v := v) (b := b) hb2 h36 h0 h1
  unfold getV
  rw [if_pos hb, quoted_head hc]
  simp only [signed]
  rw [if_neg (by omega), hs]
  exact h
end Go.Proofs.YtgabemlehmhgpaaDoor.Dig
