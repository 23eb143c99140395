/- Numbers as digits, and digits as numbers, in plain functions: no program in sight. -/
import Derived.RowKit
import Derived.Lib.ItoaNum
import Derived.Lib.Case
import Derived.WalkKit
import Derived.Test.YtpecingkoodmfaaGreatDoorRows
import Derived.WalkSpells
import Derived.WalkLawsBesides
import Derived.Lib.Hide
import Derived.Lib.Strings
import Derived.Deep.DeepCutAuto
import Derived.Deep.LoopGhost
import Derived.Below
import Derived.Test.YtpecingkoodmfaaGreatDoorS8
import Derived.Test.YtpecingkoodmfaaGreatDoorS3
import Derived.Laws.BytesArg
import Derived.ProofKit
import Derived.ChangeSlices
namespace Go.Proofs.YtpecingkoodmfaaGreatDoor.Dig
open Go.RowKit (wrap64)

def upD (d : Nat) : UInt8 := UInt8.ofNat (if d < 10 then 48 + d else 55 + d)
def loD (d : Nat) : UInt8 := UInt8.ofNat (if d < 10 then 48 + d else 87 + d)
/-- the j lowest digits of u -/
def suf (f : Nat → UInt8) (b u : Nat) : Nat → List UInt8
  | 0 => []
  | j + 1 => f (u / b ^ j % b) :: suf f b u j
def ndF (b : Nat) : Nat → Nat → Nat
  | 0, _ => 1
  | k + 1, u => if u < b then 1 else ndF b k (u / b) + 1
/-- how many digits a number has -/
def nd (b u : Nat) : Nat := ndF b 64 u
def digs (f : Nat → UInt8) (b u : Nat) : List UInt8 := suf f b u (nd b u)
def Fits (b u n : Nat) : Prop := 1 ≤ n ∧ u < b ^ n ∧ (n = 1 ∨ b ^ (n - 1) ≤ u)

theorem ndF_fits {b : Nat} (hb : 2 ≤ b) : ∀ (k u : Nat), u < 2 ^ (k + 1) → Fits b u (ndF b k u)
  | 0, u, h => ⟨Nat.le_refl _, by simp only [ndF, Nat.pow_one]; simp at h; omega, .inl rfl⟩
  | k + 1, u, h => by
    unfold ndF
    by_cases hu : u < b
    · rw [if_pos hu]; exact ⟨Nat.le_refl _, by simpa using hu, .inl rfl⟩
    · rw [if_neg hu]
      have hd : u / b < 2 ^ (k + 1) := by
        rw [Nat.div_lt_iff_lt_mul (by omega)]
        rw [Nat.pow_succ] at h
        exact Nat.lt_of_lt_of_le h (Nat.mul_le_mul_left _ hb)
      obtain ⟨h1, h2, h3⟩ := ndF_fits hb k (u / b) hd
      refine ⟨by omega, ?_, .inr ?_⟩
      · rw [Nat.pow_succ]; exact (Nat.div_lt_iff_lt_mul (by omega)).1 h2
      · rw [Nat.add_sub_cancel]
        rcases h3 with h3 | h3
        · rw [h3, Nat.pow_one]; omega
        · have h4 := (Nat.le_div_iff_mul_le (by omega)).1 h3
          rw [← Nat.pow_succ] at h4
          rwa [show (ndF b k (u / b) - 1).succ = ndF b k (u / b) from by omega] at h4
theorem nd_fits {b u : Nat} (hb : 2 ≤ b) (hu : u < 18446744073709551616) : Fits b u (nd b u) :=
  ndF_fits hb 64 u (Nat.lt_of_lt_of_le hu (by decide))
theorem fits_one {b u m n : Nat} (hb : 2 ≤ b) (hm : Fits b u m) (hn : Fits b u n) : m = n := by
  have key : ∀ {m n : Nat}, Fits b u m → Fits b u n → ¬ m < n := fun {m n} hm hn hlt => by
    have h1 := hm.2.1
    rcases hn.2.2 with h2 | h2
    · have := hm.1; omega
    · have h3 : b ^ m ≤ b ^ (n - 1) := Nat.pow_le_pow_right (by omega) (by omega)
      omega
  have h1 := key hm hn
  have h2 := key hn hm
  omega
theorem nd_eq {b u n : Nat} (hb : 2 ≤ b) (hu : u < 18446744073709551616) (hn : Fits b u n) : nd b u = n := fits_one hb (nd_fits hb hu) hn
theorem nd_le {b u : Nat} (hb : 2 ≤ b) (hu : u < 18446744073709551616) : nd b u ≤ 64 := by
  obtain ⟨h1, h2, h3⟩ := nd_fits hb hu
  rcases h3 with h3 | h3
  · omega
  · rcases Nat.lt_or_ge 64 (nd b u) with h | h
    · have h4 : 2 ^ 64 ≤ b ^ (nd b u - 1) := Nat.le_trans (Nat.pow_le_pow_left hb 64) (Nat.pow_le_pow_right (by omega) (by omega))
      have : (2 : Nat) ^ 64 = 18446744073709551616 := by decide
      omega
    · exact h
theorem suf_length (f : Nat → UInt8) (b u : Nat) : ∀ j, (suf f b u j).length = j
  | 0 => rfl
  | j + 1 => by simp [suf, suf_length f b u j]
theorem digs_length (f : Nat → UInt8) (b u : Nat) : (digs f b u).length = nd b u := suf_length f b u _
theorem suf_snoc (f : Nat → UInt8) (b u : Nat) : ∀ j, suf f b u (j + 1) = suf f b (u / b) j ++ [f (u % b)]
  | 0 => by simp [suf]
  | j + 1 => by
    rw [suf, suf_snoc f b u j]
    show _ = f (u / b / b ^ j % b) :: suf f b (u / b) j ++ _
    rw [Nat.div_div_eq_div_mul, Nat.mul_comm b, ← Nat.pow_succ]
    rfl
theorem suf_map (f g h : Nat → UInt8) (k : UInt8 → UInt8) (b u : Nat) (hb : 0 < b) (he : ∀ d, d < b → k (f d) = h d) : ∀ j, (suf f b u j).map k = suf h b u j
  | 0 => rfl
  | j + 1 => by simp only [suf, List.map_cons, suf_map f g h k b u hb he j, he _ (Nat.mod_lt _ hb)]
theorem suf_all (f : Nat → UInt8) (p : UInt8 → Prop) (b u : Nat) (hb : 0 < b) (he : ∀ d, d < b → p (f d)) : ∀ j, ∀ c ∈ suf f b u j, p c
  | 0, _, h => by cases h
  | j + 1, c, h => by
    rcases List.mem_cons.1 h with rfl | h
    · exact he _ (Nat.mod_lt _ hb)
    · exact suf_all f p b u hb he j c h
theorem upper_lo_fin : ∀ d : Fin 36, Lib.upperB (loD d.val) = upD d.val := by decide
theorem upper_lo {d : Nat} (h : d < 36) : Lib.upperB (loD d) = upD d := upper_lo_fin ⟨d, h⟩
theorem lo_ascii_fin : ∀ d : Fin 36, (loD d.val).toNat < 128 := by decide
theorem lo_ascii {d : Nat} (h : d < 36) : (loD d).toNat < 128 := lo_ascii_fin ⟨d, h⟩
theorem nDigits_fits (u : Nat) : Fits 10 u (Lib.nDigits u) := by
  refine ⟨Lib.nDigits_pos u, Lib.lt_pow_nDigits u, ?_⟩
  induction u using Nat.strongRecOn with
  | _ u ih =>
    by_cases h : u < 10
    · exact .inl (Lib.nDigits_small h)
    · rw [Lib.nDigits_big h, Nat.add_sub_cancel]
      have hp := Lib.nDigits_pos (u / 10)
      rcases ih (u / 10) (by omega) with h3 | h3
      · rw [h3]; right; omega
      · right
        have h4 := (Nat.le_div_iff_mul_le (by decide)).1 h3
        rw [← Nat.pow_succ, show (Lib.nDigits (u / 10) - 1).succ = Lib.nDigits (u / 10) from by omega] at h4
        exact h4
theorem dec_suf (f : Nat → UInt8) (hf : ∀ d, d < 10 → f d = UInt8.ofNat (48 + d)) (u : Nat) : Lib.decDigits u = suf f 10 u (Lib.nDigits u) := by
  induction u using Nat.strongRecOn with
  | _ u ih =>
    by_cases h : u < 10
    · rw [Lib.decDigits, dif_pos h, Lib.nDigits_small h]
      simp [suf, Nat.mod_eq_of_lt h, hf u h]
    · rw [Lib.decDigits, dif_neg h, Lib.nDigits_big h, suf_snoc, ih (u / 10) (by omega), hf _ (Nat.mod_lt _ (by decide))]
theorem dec_digs (f : Nat → UInt8) (hf : ∀ d, d < 10 → f d = UInt8.ofNat (48 + d)) (u : Nat) (hu : u < 18446744073709551616) : Lib.decDigits u = digs f 10 u := by
  rw [dec_suf f hf, digs, nd_eq (by decide) hu (nDigits_fits u)]

def rightB (base : Int) : Bool := decide (2 ≤ base) && decide (base ≤ 36)
def sgn (v : Int) : List UInt8 := if v < 0 then [45] else []
/-- what a number's digits are -/
def putV (f : Nat → UInt8) (v base : Int) : List UInt8 := sgn v ++ digs f base.toNat v.natAbs
theorem itoa_put {v : Int} (hv : v.natAbs < 18446744073709551616) : Lib.itoa v = putV loD v 10 := by
  unfold Lib.itoa putV sgn
  rw [show (10 : Int).toNat = 10 from rfl, ← dec_digs loD (fun d h => by unfold loD; rw [if_pos h]) _ hv]
  split
  · rfl
  · rw [show v.toNat = v.natAbs from by omega]; rfl
theorem put_upper (v base : Int) (h0 : 2 ≤ base) (h1 : base ≤ 36) : (putV loD v base).map Lib.upperB = putV upD v base := by
  unfold putV digs sgn
  rw [List.map_append, suf_map loD loD upD Lib.upperB _ _ (by omega) (fun d hd => upper_lo (by omega))]
  congr 1
  split <;> decide
theorem put_ascii (v base : Int) (h0 : 2 ≤ base) (h1 : base ≤ 36) : ∀ c ∈ putV loD v base, c.toNat < 128 := by
  intro c hc
  unfold putV digs sgn at hc
  rcases List.mem_append.1 hc with h | h
  · split at h
    · simp at h; subst h; decide
    · cases h
  · exact suf_all loD (fun c => c.toNat < 128) _ _ (by omega) (fun d hd => lo_ascii (by omega)) _ c h
theorem put_length (f : Nat → UInt8) (v base : Int) (h0 : 2 ≤ base) (hv : v.natAbs < 18446744073709551616) : 1 ≤ (putV f v base).length ∧ (putV f v base).length ≤ 65 := by
  unfold putV sgn
  rw [List.length_append, digs_length]
  have h1 := nd_le (b := base.toNat) (u := v.natAbs) (by omega) hv
  have h2 := (nd_fits (b := base.toNat) (u := v.natAbs) (by omega) hv).1
  split <;> simp <;> omega

/-- what a byte stands for; 36: none -/
def dig (c : UInt8) : Int :=
  if 48 ≤ c.toNat ∧ c.toNat ≤ 57 then c.toNat - 48
  else if 97 ≤ c.toNat ∧ c.toNat ≤ 122 then c.toNat - 87
  else if 65 ≤ c.toNat ∧ c.toNat ≤ 90 then c.toNat - 55
  else 36
def numL (b : Int) : Int → List UInt8 → Option Int
  | v, [] => some v
  | v, c :: r => if b ≤ dig c then none else numL b (wrap64 (wrap64 (v * b) + dig c)) r
def numV (l : List UInt8) (b : Int) : Option Int := if l = [] ∨ 70 < l.length then none else numL b 0 l
def signV (c : UInt8) : Int := if c = 36 then 16 else if c = 35 then 10 else if c = 37 then 2 else 0
def signed (l : List UInt8) (b : Int) : List UInt8 × Int := match l with
  | [] => ([], b)
  | c :: r => if signV c = 0 then (c :: r, b) else (r, signV c)
def minus (l : List UInt8) : List UInt8 × Bool := match l with
  | [] => ([], false)
  | c :: r => if c = 45 then (r, true) else (c :: r, false)
def quoted (l : List UInt8) : Option UInt8 := match l with
  | [a, c, b] => if a = 39 ∧ b = 39 then some c else none
  | _ => none
def withSign (neg : Bool) : Option Int → Int × Bool
  | none => (0, false)
  | some v => (if neg then wrap64 (-v) else v, true)
/-- what a text is as a number -/
def getV (l : List UInt8) (base : Int) : Int × Bool :=
  if rightB base then
    match quoted l with
    | some c => (c.toNat, true)
    | none => withSign (minus (signed l base).1).2 (numV (minus (signed l base).1).1 (signed l base).2)
  else (0, false)

theorem wrap_step (x y k : Int) : wrap64 (wrap64 (wrap64 x * k) + y) = wrap64 (x * k + y) := by
  have h : wrap64 (wrap64 x * k) = wrap64 (x * k) := by
    unfold wrap64
    have e : ((x + 9223372036854775808) % 18446744073709551616 - 9223372036854775808) = x - 18446744073709551616 * ((x + 9223372036854775808) / 18446744073709551616) := by omega
    rw [e, Int.sub_mul, Int.mul_assoc, Int.mul_comm 18446744073709551616 (_ * k)]
    omega
  rw [h]; unfold wrap64; omega
theorem dig_up_fin : ∀ d : Fin 36, dig (upD d.val) = (d.val : Int) := by decide
theorem dig_up {d : Nat} (h : d < 36) : dig (upD d) = (d : Int) := dig_up_fin ⟨d, h⟩
theorem numL_suf (b u : Nat) (hb : 2 ≤ b) (h36 : b ≤ 36) : ∀ (j : Nat) (a : Int), numL b (wrap64 a) (suf upD b u j) = some (wrap64 (a * (b ^ j : Nat) + (u % b ^ j : Nat)))
  | 0, a => by simp [numL, suf, Nat.mod_one]
  | j + 1, a => by
    have hm : u / b ^ j % b < b := Nat.mod_lt _ (by omega)
    rw [suf, numL, dig_up (by omega), if_neg (by omega), wrap_step, numL_suf b u hb h36 j]
    congr 2
    have e : u % b ^ (j + 1) = (u / b ^ j % b) * b ^ j + u % b ^ j := by
      rw [Nat.pow_succ, Nat.mod_mul]
      rw [Nat.mul_comm (b ^ j)]; omega
    rw [e, Int.add_mul]
    have e2 : (b ^ (j + 1) : Nat) = b * b ^ j := by rw [Nat.pow_succ, Nat.mul_comm]
    rw [e2]
    push_cast
    rw [Int.mul_assoc]
    omega
theorem numV_digs {b u : Nat} (hb : 2 ≤ b) (h36 : b ≤ 36) (hu : u < 18446744073709551616) : numV (digs upD b u) b = some (wrap64 u) := by
  obtain ⟨h1, h2, h3⟩ := nd_fits hb hu
  have h4 := nd_le hb hu
  have hl := digs_length upD b u
  unfold numV
  rw [if_neg (by
    rintro (h | h)
    · rw [h] at hl; simp at hl; omega
    · omega)]
  have h := numL_suf b u hb h36 (nd b u) 0
  rw [show wrap64 0 = 0 from by unfold wrap64; omega] at h
  unfold digs
  rw [h, Int.zero_mul, Int.zero_add, Nat.mod_eq_of_lt h2]

theorem up_plain_fin : ∀ d : Fin 36, signV (upD d.val) = 0 ∧ upD d.val ≠ 45 ∧ upD d.val ≠ 39 := by decide
theorem up_plain {d : Nat} (h : d < 36) : signV (upD d) = 0 ∧ upD d ≠ 45 ∧ upD d ≠ 39 := up_plain_fin ⟨d, h⟩
/-- digits have neither a sign nor a minus nor an apostrophe -/
def Plain (c : UInt8) : Prop := signV c = 0 ∧ c ≠ 45 ∧ c ≠ 39
theorem digs_plain {b u : Nat} (hb : 2 ≤ b) (h36 : b ≤ 36) : ∀ c ∈ digs upD b u, Plain c :=
  suf_all upD Plain b u (by omega) (fun d hd => up_plain (by omega)) _
theorem quoted_head {c : UInt8} {r : List UInt8} (h : c ≠ 39) : quoted (c :: r) = none := by
  unfold quoted
  split
  · rename_i a x b e; rw [if_neg]; rintro ⟨rfl, _⟩; simp at e; exact h e.1
  · rfl
theorem neg_wrap {v : Int} (h0 : -9223372036854775808 ≤ v) (h : v < 0) : wrap64 (-wrap64 (v.natAbs : Int)) = v := by unfold wrap64; omega
theorem pos_wrap {v : Int} (h1 : v ≤ 9223372036854775807) (h : ¬ v < 0) : wrap64 (v.natAbs : Int) = v := by unfold wrap64; omega
theorem abs_lt {v : Int} (h0 : -9223372036854775808 ≤ v) (h1 : v ≤ 9223372036854775807) : v.natAbs < 18446744073709551616 := by omega
/-- a number's digits, behind the base's own sign: read they are the number -/
theorem tail_back {v : Int} {b : Nat} (hb : 2 ≤ b) (h36 : b ≤ 36) (h0 : -9223372036854775808 ≤ v) (h1 : v ≤ 9223372036854775807) :
    withSign (minus (putV upD v b)).2 (numV (minus (putV upD v b)).1 b) = (v, true) := by
  have hn := numV_digs hb h36 (abs_lt h0 h1)
  have hp := digs_plain (u := v.natAbs) hb h36
  have hl := digs_length upD b v.natAbs
  have hk := (nd_fits hb (abs_lt h0 h1)).1
  unfold putV sgn
  rw [Int.toNat_natCast]
  cases hd : digs upD b v.natAbs with
  | nil => rw [hd] at hl; simp at hl; omega
  | cons c r =>
    rw [hd] at hn hp
    by_cases h : v < 0
    · rw [if_pos h]
      show withSign (minus (45 :: c :: r)).2 (numV (minus (45 :: c :: r)).1 b) = _
      simp only [minus, if_true]
      rw [hn]
      simp only [withSign, if_true]
      rw [neg_wrap h0 h]
    · rw [if_neg h]
      have hc := (hp c List.mem_cons_self).2.1
      simp only [List.nil_append, minus]
      rw [if_neg hc, hn]
      simp only [withSign, Bool.false_eq_true, if_false]
      rw [pos_wrap h1 h]
theorem put_cons {v : Int} {b : Nat} (hb : 2 ≤ b) (h36 : b ≤ 36) (h0 : -9223372036854775808 ≤ v) (h1 : v ≤ 9223372036854775807) :
    ∃ c r, putV upD v b = c :: r ∧ signV c = 0 ∧ c ≠ 39 := by
  have hp := digs_plain (u := v.natAbs) hb h36
  have hl := digs_length upD b v.natAbs
  have hk := (nd_fits hb (abs_lt h0 h1)).1
  unfold putV sgn
  rw [Int.toNat_natCast]
  cases hd : digs upD b v.natAbs with
  | nil => rw [hd] at hl; simp at hl; omega
  | cons c r =>
    rw [hd] at hp
    by_cases h : v < 0
    · rw [if_pos h]; exact ⟨45, c :: r, rfl, by decide, by decide⟩
    · rw [if_neg h]; exact ⟨c, r, rfl, (hp c List.mem_cons_self).1, (hp c List.mem_cons_self).2.2⟩
theorem back {v base : Int} (hb : rightB base = true) (h0 : -9223372036854775808 ≤ v) (h1 : v ≤ 9223372036854775807) : getV (putV upD v base) base = (v, true) := by
  have hb' := hb
  simp only [rightB, Bool.and_eq_true, decide_eq_true_eq] at hb'
  obtain ⟨b, rfl⟩ := Int.eq_ofNat_of_zero_le (show 0 ≤ base by omega)
  obtain ⟨c, r, e, e1, e2⟩ := put_cons (v := v) (b := b) (by omega) (by omega) h0 h1
  have h := tail_back (v := v) (b := b) (by omega) (by omega) h0 h1
  unfold getV
  rw [if_pos hb]
  rw [e] at h ⊢
  rw [quoted_head e2]
  simp only [signed, if_pos e1]
  exact h
end Go.Proofs.YtpecingkoodmfaaGreatDoor.Dig
/- The walk of the document's own Put (hollowayref1: digits). -/
namespace Go.Proofs.YtpecingkoodmfaaGreatDoor
open Go.RowKit
set_option linter.unusedSimpArgs false
set_option linter.unusedVariables false

abbrev txt (l : List UInt8) : Value := .string ⟨l.toArray⟩
abbrev upText : ByteArray := ⟨#[48, 49, 50, 51, 52, 53, 54, 55, 56, 57, 65, 66, 67, 68, 69, 70, 71, 72, 73, 74, 75, 76, 77, 78, 79, 80, 81, 82, 83, 84, 85, 86, 87, 88, 89, 90]⟩
theorem up_piece_fin : ∀ k : Fin 36, (upText.data.toList.drop k.val).take 1 = [Dig.upD k.val] := by decide +kernel
theorem up_piece {k : Nat} (h : k < 36) : upText.extract k (k + 1) = ⟨[Dig.upD k].toArray⟩ := by
  rw [Lib.extract_eq, Nat.add_sub_cancel_left, up_piece_fin ⟨k, h⟩]
theorem txt_cons (c : UInt8) (l : List UInt8) : (⟨[c].toArray⟩ : ByteArray) ++ ⟨l.toArray⟩ = ⟨(c :: l).toArray⟩ := by
  apply ByteArray.ext; simp [ByteArray.data_append]
set_option maxHeartbeats 1000000 in
theorem refPut_wrong (v b : Int) (hb : Dig.rightB b = false) (w : World) :
    Calls Tryz.prog 12 #[.int .i64 v, .int .i64 b] w fun e w' => e = .returned (txt []) ∧ w = w' := by
  simp only [Dig.rightB, Bool.and_eq_false_iff, decide_eq_false_iff_not] at hb
  by_cases h0 : b < 2
  · clear hb
    go_enter Tryz.func12, Tryz.ntmps12
    go_wp2
    go_ret
    exact ⟨rfl, rfl⟩
  · have h1 : 36 < b := by omega
    clear hb
    go_enter Tryz.func12, Tryz.ntmps12
    go_wp2
    go_ret
    exact ⟨rfl, rfl⟩
def PutRel (b U j : Nat) (u s : Value) : Prop := j ≤ Dig.nd b U ∧ (j ≤ 1 ∨ b ^ (j - 1) ≤ U) ∧ u = .int .u64 (U / b ^ j : Nat) ∧ s = txt (Dig.suf Dig.upD b U j)
theorem neg_u64 {U : Nat} (h : (U : Int) ≤ 9223372036854775808) : IntKind.u64.wrap (-IntKind.u64.wrap (-(U : Int))) = (U : Int) := by
  have e : ∀ x, IntKind.u64.wrap x = x % 18446744073709551616 := fun x => by simp [IntKind.wrap, IntKind.bits, IntKind.signed]
  rw [e, e]; omega
theorem pos_u64 {U : Nat} (h : (U : Int) ≤ 9223372036854775807) : IntKind.u64.wrap (U : Int) = (U : Int) := by
  have e : ∀ x, IntKind.u64.wrap x = x % 18446744073709551616 := fun x => by simp [IntKind.wrap, IntKind.bits, IntKind.signed]
  rw [e]; omega
theorem put_start (b U : Nat) (x : Int) (h : x = U) : PutRel b U 0 (.int .u64 x) (.string ⟨#[]⟩) :=
  ⟨Nat.zero_le _, .inl (Nat.zero_le _), by rw [h, Nat.pow_zero, Nat.div_one], rfl⟩
theorem put_next {b U j q : Nat} {l : List UInt8} (hf : Dig.Fits b U (Dig.nd b U)) (h2 : 2 ≤ b) (hq : U / b ^ j = q) (hl : Dig.suf Dig.upD b U j = l) (hgo : 0 < q ∨ j = 0) :
    j < Dig.nd b U ∧ PutRel b U (j + 1) (.int .u64 (q / b : Nat)) (txt (Dig.upD (q % b) :: l)) := by
  have hb : 0 < b ^ j := Nat.pow_pos (by omega)
  have hlt : j < Dig.nd b U := by
    rcases hgo with h | h
    · rcases Nat.lt_or_ge j (Dig.nd b U) with h3 | h3
      · exact h3
      · have h4 : b ^ Dig.nd b U ≤ b ^ j := Nat.pow_le_pow_right (by omega) h3
        have : U / b ^ j = 0 := Nat.div_eq_of_lt (Nat.lt_of_lt_of_le hf.2.1 h4)
        omega
    · have := hf.1; omega
  refine ⟨hlt, hlt, ?_, ?_, ?_⟩
  · rcases hgo with h | h
    · right
      rw [Nat.add_sub_cancel]
      rw [← hq] at h
      exact (Nat.div_pos_iff.1 h).2
    · left; omega
  · rw [← hq, Nat.div_div_eq_div_mul, ← Nat.pow_succ]
  · rw [Dig.suf, hq, hl]
theorem put_end {b U j : Nat} (hu : U < 18446744073709551616) (h2 : 2 ≤ b) (hj : 1 ≤ j) (hq : U / b ^ j = 0) (hlow : j ≤ 1 ∨ b ^ (j - 1) ≤ U) : Dig.suf Dig.upD b U j = Dig.digs Dig.upD b U := by
  unfold Dig.digs
  rw [Dig.nd_eq h2 hu ⟨hj, ?_, ?_⟩]
  · rcases Nat.lt_or_ge U (b ^ j) with h | h
    · exact h
    · have := Nat.div_pos h (Nat.pow_pos (by omega)); omega
  · rcases hlow with h | h
    · left; omega
    · right; exact h
theorem div_int (q b : Nat) : ((q : Int) / (b : Int)) = ((q / b : Nat) : Int) := by omega
set_option maxHeartbeats 4000000 in
set_option maxRecDepth 100000 in
theorem refPut_right (v : Int) (b : Nat) (h2 : 2 ≤ b) (h36 : b ≤ 36) (v0 : -9223372036854775808 ≤ v) (v1 : v ≤ 9223372036854775807) (w : World) :
    Calls Tryz.prog 12 #[.int .i64 v, .int .i64 b] w fun e w' => e = .returned (txt (Dig.putV Dig.upD v b)) ∧ w = w' := by
  have hf := Dig.nd_fits (b := b) (u := v.natAbs) h2 (Dig.abs_lt v0 v1)
  have hul := Dig.abs_lt v0 v1
  by_cases hn : v < 0
  · obtain ⟨U, rfl⟩ : ∃ U : Nat, v = -(U : Int) := ⟨v.natAbs, by omega⟩
    have hU : (-(U : Int)).natAbs = U := by omega
    rw [hU] at hf hul
    have HP := Lib.hid (show Dig.putV Dig.upD (-(U : Int)) b = 45 :: Dig.digs Dig.upD b U from by unfold Dig.putV Dig.sgn; rw [if_pos hn, hU]; rfl)
    have HF := Lib.hid hf
    have HU := Lib.hid hul
    clear hf hU hul
    go_enter Tryz.func12, Tryz.ntmps12
    go_wp2
    go_loopg [5, 6] (Dig.nd b U) (fun k u s wr => ∃ j, k = Dig.nd b U - j ∧ Hid (PutRel b U j u s) ∧ w = wr)
    case atStart => exact ⟨0, by omega, put_start _ _ _ (neg_u64 (by omega)), rfl⟩
    case round =>
      obtain ⟨j, rfl, HR, rfl⟩ := hrel
      obtain ⟨hj, hlow, rfl, rfl⟩ := HR.out
      clear HR
      have HJ := Lib.hid hlow
      obtain ⟨q, hq⟩ : ∃ q, U / b ^ j = q := ⟨_, rfl⟩
      obtain ⟨l, hl⟩ : ∃ l, Dig.suf Dig.upD b U j = l := ⟨_, rfl⟩
      rw [hq, hl]
      have hqU : q ≤ U := by rw [← hq]; exact Nat.div_le_self _ _
      have hll : l.length ≤ 64 := by
        rw [← hl, Dig.suf_length]
        exact Nat.le_trans hj (Dig.nd_le h2 HU.out)
      have HQ := Lib.hid hq
      have HL := Lib.hid hl
      clear hq hl hlow
      by_cases hq0 : 0 < q
      · have r0 : 0 ≤ (q : Int) % (b : Int) := by omega
        have r1 : (q : Int) % (b : Int) < 36 := by have := Int.emod_lt_of_pos (q : Int) (show (0 : Int) < b by omega); omega
        have r2 : min (q % b + 1) 36 - q % b + l.length ≤ 9223372036854775807 := by omega
        have r3 : (q : Int) / (b : Int) ≤ 18446744073709551615 := by
          have h := HU.out
          rw [div_int]
          have := Nat.div_le_self q b
          omega
        have r4 : 0 ≤ (q : Int) / (b : Int) := Int.ediv_nonneg (by omega) (by omega)
        have hN := Lib.hid (put_next (b := b) (U := U) (j := j) HF.out h2 HQ.out HL.out (.inl hq0))
        have hup := Lib.hid (up_piece (k := q % b) (by have := Nat.mod_lt q (show b > 0 by omega); omega))
        go_wp2
        go_roundg (Dig.nd b U - (j + 1))
        case measure => have := hN.out.1; omega
        case rel => exact ⟨j + 1, rfl, by rw [div_int, hup.out, txt_cons]; exact hN.out.2, rfl⟩
      · obtain rfl : q = 0 := by omega
        by_cases hj0 : j = 0
        · subst hj0
          obtain rfl : [] = l := HL.out
          have hN := Lib.hid (put_next (b := b) (U := U) (j := 0) HF.out h2 HQ.out HL.out (.inr rfl))
          have hup := Lib.hid (up_piece (k := 0) (by omega))
          clear hll
          go_wp2
          go_roundg (Dig.nd b U - (0 + 1))
          case measure => have := hN.out.1; omega
          case rel => exact ⟨0 + 1, rfl, by
            have h := hN.out.2
            rw [Nat.zero_div, Nat.zero_mod] at h
            exact h, rfl⟩
        · have hne : l.isEmpty = false := by
            have h := HL.out
            cases l with
            | nil => cases j with
              | zero => exact absurd rfl hj0
              | succ j => cases h
            | cons _ _ => rfl
          have hE := put_end (b := b) (U := U) (j := j) HU.out h2 (by omega) HQ.out HJ.out
          rw [HL.out] at hE
          have HE := Lib.hid hE
          have h1l : 1 + l.length ≤ 9223372036854775807 := by omega
          clear hE
          go_wp2
          go_ret
          exact ⟨by rw [HP.out, ← HE.out]; first | rfl | exact congrArg (fun x => Ending.returned (.string x)) (txt_cons 45 _), rfl⟩
  · obtain ⟨U, rfl⟩ : ∃ U : Nat, v = (U : Int) := ⟨v.natAbs, by omega⟩
    have hU : (U : Int).natAbs = U := by omega
    rw [hU] at hf hul
    have HP := Lib.hid (show Dig.putV Dig.upD (U : Int) b = Dig.digs Dig.upD b U from by unfold Dig.putV Dig.sgn; rw [if_neg hn, hU]; rfl)
    have HF := Lib.hid hf
    have HU := Lib.hid hul
    clear hf hU hul
    go_enter Tryz.func12, Tryz.ntmps12
    go_wp2
    go_loopg [5, 6] (Dig.nd b U) (fun k u s wr => ∃ j, k = Dig.nd b U - j ∧ Hid (PutRel b U j u s) ∧ w = wr)
    case atStart => exact ⟨0, by omega, put_start _ _ _ (by first | rfl | exact pos_u64 (by omega)), rfl⟩
    case round =>
      obtain ⟨j, rfl, HR, rfl⟩ := hrel
      obtain ⟨hj, hlow, rfl, rfl⟩ := HR.out
      clear HR
      have HJ := Lib.hid hlow
      obtain ⟨q, hq⟩ : ∃ q, U / b ^ j = q := ⟨_, rfl⟩
      obtain ⟨l, hl⟩ : ∃ l, Dig.suf Dig.upD b U j = l := ⟨_, rfl⟩
      rw [hq, hl]
      have hqU : q ≤ U := by rw [← hq]; exact Nat.div_le_self _ _
      have hll : l.length ≤ 64 := by
        rw [← hl, Dig.suf_length]
        exact Nat.le_trans hj (Dig.nd_le h2 HU.out)
      have HQ := Lib.hid hq
      have HL := Lib.hid hl
      clear hq hl hlow
      by_cases hq0 : 0 < q
      · have r0 : 0 ≤ (q : Int) % (b : Int) := by omega
        have r1 : (q : Int) % (b : Int) < 36 := by have := Int.emod_lt_of_pos (q : Int) (show (0 : Int) < b by omega); omega
        have r2 : min (q % b + 1) 36 - q % b + l.length ≤ 9223372036854775807 := by omega
        have r3 : (q : Int) / (b : Int) ≤ 18446744073709551615 := by
          have h := HU.out
          rw [div_int]
          have := Nat.div_le_self q b
          omega
        have r4 : 0 ≤ (q : Int) / (b : Int) := Int.ediv_nonneg (by omega) (by omega)
        have hN := Lib.hid (put_next (b := b) (U := U) (j := j) HF.out h2 HQ.out HL.out (.inl hq0))
        have hup := Lib.hid (up_piece (k := q % b) (by have := Nat.mod_lt q (show b > 0 by omega); omega))
        go_wp2
        go_roundg (Dig.nd b U - (j + 1))
        case measure => have := hN.out.1; omega
        case rel => exact ⟨j + 1, rfl, by rw [div_int, hup.out, txt_cons]; exact hN.out.2, rfl⟩
      · obtain rfl : q = 0 := by omega
        by_cases hj0 : j = 0
        · subst hj0
          obtain rfl : [] = l := HL.out
          have hN := Lib.hid (put_next (b := b) (U := U) (j := 0) HF.out h2 HQ.out HL.out (.inr rfl))
          have hup := Lib.hid (up_piece (k := 0) (by omega))
          clear hll
          go_wp2
          go_roundg (Dig.nd b U - (0 + 1))
          case measure => have := hN.out.1; omega
          case rel => exact ⟨0 + 1, rfl, by
            have h := hN.out.2
            rw [Nat.zero_div, Nat.zero_mod] at h
            exact h, rfl⟩
        · have hne : l.isEmpty = false := by
            have h := HL.out
            cases l with
            | nil => cases j with
              | zero => exact absurd rfl hj0
              | succ j => cases h
            | cons _ _ => rfl
          have hE := put_end (b := b) (U := U) (j := j) HU.out h2 (by omega) HQ.out HJ.out
          rw [HL.out] at hE
          have HE := Lib.hid hE
          have h1l : 1 + l.length ≤ 9223372036854775807 := by omega
          clear hE
          go_wp2
          go_ret
          exact ⟨by rw [HP.out, ← HE.out]; rfl, rfl⟩
/-- what Put tells, whatever the base is -/
def putT (v b : Int) : List UInt8 := if Dig.rightB b then Dig.putV Dig.upD v b else []
theorem refPut_any (v b : Int) (v0 : -9223372036854775808 ≤ v) (v1 : v ≤ 9223372036854775807) (w : World) :
    Calls Tryz.prog 12 #[.int .i64 v, .int .i64 b] w fun e w' => e = .returned (txt (putT v b)) ∧ w = w' := by
  unfold putT
  cases hb : Dig.rightB b with
  | false => exact refPut_wrong v b hb w
  | true =>
    simp only [Dig.rightB, Bool.and_eq_true, decide_eq_true_eq] at hb
    obtain ⟨n, rfl⟩ := Int.eq_ofNat_of_zero_le (show 0 ≤ b by omega)
    exact refPut_right v n (by omega) (by omega) v0 v1 w
end Go.Proofs.YtpecingkoodmfaaGreatDoor
/- The texts of codes (P202), in plain lists of bytes, no program: two codes have one text only if they are one code. -/
namespace Go.Proofs.YtpecingkoodmfaaGreatDoor
theorem nDigits_le : ∀ (k u : Nat), u < 10 ^ (k + 1) → Lib.nDigits u ≤ k + 1
  | 0, u, h => by rw [Lib.nDigits_small (by simpa using h)]; exact Nat.le_refl _
  | k + 1, u, h => by
    by_cases h10 : u < 10
    · rw [Lib.nDigits_small h10]; omega
    · rw [Lib.nDigits_big h10]
      have := nDigits_le k (u / 10) (by rw [Nat.pow_succ] at h; omega)
      omega
theorem itoa_len {c : Int} (h0 : -9223372036854775808 ≤ c) (h1 : c ≤ 9223372036854775807) : (Lib.itoa c).length ≤ 20 := by
  have h19 : ∀ u : Nat, u ≤ 9223372036854775808 → (Lib.decDigits u).length ≤ 19 := fun u hu => by
    rw [Lib.decDigits_length]; exact nDigits_le 18 u (by omega)
  unfold Lib.itoa
  split
  · have := h19 c.natAbs (by omega); simp; omega
  · have := h19 c.toNat (by omega); omega
end Go.Proofs.YtpecingkoodmfaaGreatDoor
/- The document's own run (chapter 15): bytes and numbers that are told. -/
namespace Go.Proofs.YtpecingkoodmfaaGreatDoor.Ev
open Go.RowKit Book Mem
set_option linter.unusedVariables false
set_option linter.unusedSimpArgs false
/-- a new row of one byte; it as a text -/
theorem rbyteBox (w : World) (x : Int) : ∃ w1 g, w.alloc (.cells #[.int .u8 x] 5) = w1 ∧ w.heap.size = g ∧ (convert 98 9 (.slice (some ⟨g, 0, none⟩) 1 1)).run Tryz.prog w1 = .ok (.string ⟨#[UInt8.ofNat x.toNat]⟩) w1 ∧ Hid (Below w.heap.size w w1) := by
  refine ⟨_, _, rfl, rfl, ?_, (Below.refl w.heap.size w).alloc (Nat.le_refl _) _⟩
  have e := run_convert_bytes_arg (P := Tryz.prog) (w.alloc (.cells #[.int .u8 x] 5)) 98 5 Tryz.underlying98 Tryz.underlying5 w.heap.size 0 1 1 [x] rfl
    (fun i hi => by obtain rfl : i = 0 := by omega
                    exact whole_cell (heap_alloc_new w _) rfl) 9 Tryz.underlying9
  exact e
theorem rand255 (p : Int) : bits .and .i64 p 255 = p % 256 := by
  rw [Cell.bits_and]
  have e : (BitVec.ofInt 64 p &&& BitVec.ofInt 64 255).toNat = (p % 256).toNat := by
    rw [BitVec.toNat_and, show (BitVec.ofInt 64 255).toNat = 2 ^ 8 - 1 from rfl, Nat.and_two_pow_sub_one_eq_mod, BitVec.toNat_ofInt]
    omega
  rw [BitVec.toInt_eq_toNat_cond, e]
  split <;> omega
theorem rputUp {v : Int} (hv : v.natAbs < 18446744073709551616) : Lib.itoa v = Dig.putV Dig.upD v 10 := by
  unfold Lib.itoa Dig.putV Dig.sgn
  rw [show (10 : Int).toNat = 10 from rfl, ← Dig.dec_digs Dig.upD (fun d h => by unfold Dig.upD; rw [if_pos h]) _ hv]
  split
  · rfl
  · rw [List.nil_append, show v.toNat = v.natAbs from by omega]
theorem rputDot {p : Int} (ip : Cell.In p) : putT p 10 = Lib.itoa p := by
  unfold Cell.In at ip
  rw [rputUp (by omega)]
  rfl
end Go.Proofs.YtpecingkoodmfaaGreatDoor.Ev
/- The document's own run in memory (chapter 15): a state's box, its memory and the values of its own; stacks where they lay. -/
namespace Go.Proofs.YtpecingkoodmfaaGreatDoor.Ev
open Go.RowKit Book Mem
open Ir (T I O)
open Mach (M cells10)
set_option linter.unusedVariables false
/-- the values so far, and a nought for each instruction to come -/
def padV (V : List Int) (n : Nat) : List Int := V ++ List.replicate (n - V.length) 0
theorem padV_length {V : List Int} {n : Nat} (h : V.length ≤ n) : (padV V n).length = n := by unfold padV; rw [List.length_append, List.length_replicate]; omega
theorem padV_zero (n : Nat) : padV [] n = List.replicate n 0 := by unfold padV; simp
theorem padV_next {V : List Int} {n : Nat} (h : V.length < n) : padV (V ++ [0]) n = padV V n := by
  unfold padV
  rw [List.length_append, List.append_assoc]
  congr 1
  rw [show n - V.length = (n - (V.length + [0].length)) + 1 by simp; omega, List.replicate_succ]
  rfl
theorem padV_set {V : List Int} {n : Nat} (h : V.length < n) (x : Int) : (padV V n).set V.length x = padV (V ++ [x]) n := by
  unfold padV
  rw [List.length_append, List.append_assoc, List.set_append_right _ _ (Nat.le_refl _), Nat.sub_self]
  congr 1
  rw [show n - V.length = (n - (V.length + [x].length)) + 1 by simp; omega, List.replicate_succ]
  rfl
/-- a value told earlier -/
theorem padV_at {V : List Int} {n : Nat} {p : Int} (h : 0 ≤ p ∧ p < (V.length : Int)) : ∃ k : Nat, p = (k : Int) ∧ k < V.length ∧ (padV V n)[k]? = some (val V p) := by
  obtain ⟨k, rfl⟩ : ∃ k : Nat, p = k := ⟨p.toNat, by omega⟩
  have hk : k < V.length := by omega
  refine ⟨k, rfl, hk, ?_⟩
  unfold padV val getL
  rw [if_pos h, Int.toNat_natCast, List.getD_eq_getElem?_getD, List.getElem?_append_left hk, List.getElem?_eq_getElem hk]
  rfl
structure RR (W w : World) (gs : Nat) (s : M) (V : List Int) (n : Nat) (vs vb vm vv : Value) (fx : Nat → Option Obj) : Prop where
  hb : Below W.heap.size W w
  hs : W.heap.size ≤ gs
  box : w.heap[gs]? = some (.cells (cells10 s.ip s.handler vs vb vm s.out s.inp s.read s.status s.code) 50 (0, 0))
  me : Owns w W.heap.size 3 vm (vals s.mem)
  vl : Owns w W.heap.size 3 vv (vals (padV V n))
  nm : ∀ k, blk vm = some k → k ≠ gs ∧ blk vv ≠ some k
  nv : ∀ k, blk vv = some k → k ≠ gs
  fr : ∀ k o, fx k = some o → w.heap[k]? = some o ∧ k ≠ gs ∧ blk vm ≠ some k ∧ blk vv ≠ some k
section
variable {W w w' : World} {gs n : Nat} {s s' : M} {V V' : List Int} {vs vb vm vv : Value} {fx : Nat → Option Obj}
theorem RR.step (h : RR W w gs s V n vs vb vm vv fx) {bs : List Nat} (ht : Stirred w w' bs) (hn : ∀ k ∈ bs, W.heap.size ≤ k) (n0 : gs ∉ bs) (n1 : ∀ k, blk vm = some k → k ∉ bs) (n2 : ∀ k, blk vv = some k → k ∉ bs) (n3 : ∀ k o, fx k = some o → k ∉ bs) : RR W w' gs s V n vs vb vm vv fx :=
  ⟨h.hb.trans (ht.below hn h.hb.size), h.hs, ht.whole h.box n0, h.me.touch ht n1, h.vl.touch ht n2, h.nm, h.nv, fun k o e => ⟨ht.whole (h.fr k o e).1 (n3 k o e), (h.fr k o e).2⟩⟩
theorem RR.below (h : RR W w gs s V n vs vb vm vv fx) (hb : Below w.heap.size w w') : RR W w' gs s V n vs vb vm vv fx :=
  h.step (Stirred.of_below hb []) (fun _ e => (by cases e)) List.not_mem_nil (fun _ _ => List.not_mem_nil) (fun _ _ => List.not_mem_nil) (fun _ _ _ => List.not_mem_nil)
theorem RR.lt (h : RR W w gs s V n vs vb vm vv fx) : gs < w.heap.size := whole_lt h.box
theorem RR.next (h : RR W w gs s V n vs vb vm vv fx) (hn : V.length < n) : RR W w gs s (V ++ [0]) n vs vb vm vv fx := ⟨h.hb, h.hs, h.box, h.me, by rw [padV_next hn]; exact h.vl, h.nm, h.nv, h.fr⟩
theorem RR.field (h : RR W w gs s V n vs vb vm vv fx) (j : Nat) (v : Value) (hc : (cells10 s.ip s.handler vs vb vm s.out s.inp s.read s.status s.code).setIfInBounds j v = cells10 s'.ip s'.handler vs vb vm s'.out s'.inp s'.read s'.status s'.code) (e : s'.mem = s.mem) : RR W (w.setCell ⟨gs, j, none⟩ v) gs s' V n vs vb vm vv fx := by
  have ht := Stirred.setCell w ⟨gs, j, none⟩ v
  have hx : ∀ {k : Nat}, k ≠ gs → k ∉ [gs] := fun h hm => h (List.mem_singleton.1 hm)
  exact ⟨h.hb.trans (ht.below (fun k hk => by rw [List.mem_singleton.1 hk]; exact h.hs) h.hb.size), h.hs, by rw [← hc]; exact whole_set h.box j v, by rw [e]; exact h.me.touch ht (fun k e => hx (h.nm k e).1), h.vl.touch ht (fun k e => hx (h.nv k e)), h.nm, h.nv, fun k o e => ⟨ht.whole (h.fr k o e).1 (hx (h.fr k o e).2.1), (h.fr k o e).2⟩⟩
theorem RR.poke (h : RR W w gs s V n vs vb vm vv fx) {g m cap : Nat} (hz : vm = .slice (some ⟨g, 0, none⟩) m cap) {j : Nat} (hj : j < s.mem.length) (c : Int) : RR W (w.setCell ⟨g, j, none⟩ (.int .i64 c)) gs { s with mem := s.mem.set j c } V n vs vb vm vv fx := by
  have hme := h.me
  rw [hz] at hme
  have hg : blk vm = some g := by rw [hz]; exact hme.capAt (by rw [vals_length]; omega)
  have ht := Stirred.setCell w ⟨g, j, none⟩ (.int .i64 c)
  have hx : ∀ {k : Nat}, k ≠ g → k ∉ [g] := fun h hm => h (List.mem_singleton.1 hm)
  have hgq := (h.nm g hg).1
  refine ⟨h.hb.trans (ht.below (fun k hk => by rw [List.mem_singleton.1 hk]; exact (h.me.block g hg).1) h.hb.size), h.hs, ht.whole h.box (hx (Ne.symm hgq)), ?_, h.vl.touch ht (fun k e => hx (fun e' => by subst e'; exact (h.nm _ hg).2 e)), h.nm, h.nv, fun k o e => ⟨ht.whole (h.fr k o e).1 (hx (fun e' => by subst e'; exact (h.fr _ o e).2.2.1 hg)), (h.fr k o e).2⟩⟩
  show Owns _ _ _ vm (vals (s.mem.set j c))
  rw [hz, ← vals_set]
  exact hme.stored j _
/-- a value is told -/
theorem RR.value (h : RR W w gs s V n vs vb vm vv fx) {g m cap : Nat} (hz : vv = .slice (some ⟨g, 0, none⟩) m cap) (hn : V.length < n) (x : Int) : RR W (w.setCell ⟨g, V.length, none⟩ (.int .i64 x)) gs s (V ++ [x]) n vs vb vm vv fx := by
  have hvl := h.vl
  rw [hz] at hvl
  have hg : blk vv = some g := by rw [hz]; exact hvl.capAt (by rw [vals_length, padV_length (Nat.le_of_lt hn)]; omega)
  have ht := Stirred.setCell w ⟨g, V.length, none⟩ (.int .i64 x)
  have hx : ∀ {k : Nat}, k ≠ g → k ∉ [g] := fun h hm => h (List.mem_singleton.1 hm)
  refine ⟨h.hb.trans (ht.below (fun k hk => by rw [List.mem_singleton.1 hk]; exact (h.vl.block g hg).1) h.hb.size), h.hs, ht.whole h.box (hx (Ne.symm (h.nv g hg))), h.me.touch ht (fun k e => hx (fun e' => by subst e'; exact (h.nm _ e).2 hg)), ?_, h.nm, h.nv, fun k o e => ⟨ht.whole (h.fr k o e).1 (hx (fun e' => by subst e'; exact (h.fr _ o e).2.2.2 hg)), (h.fr k o e).2⟩⟩
  rw [← padV_set hn, ← vals_set, hz]
  exact hvl.stored _ _
theorem RR.fresh (h : RR W w gs s V n vs vb vm vv fx) {g : Nat} {o : Obj} {bs : List Nat} (ht : Stirred w w' bs) (hbs : ∀ k ∈ bs, k = g) (hn : w.heap.size ≤ g) (hg : w'.heap[g]? = some o) : RR W w' gs s V n vs vb vm vv (fun k => if k = g then some o else fx k) :=
  have fr : ∀ {k : Nat}, k < w.heap.size → k ∉ bs := fun hk hm => by have := hbs _ hm; omega
  have h' := h.step ht (fun k hm => by rw [hbs k hm]; exact Nat.le_trans h.hb.size hn) (fr h.lt) (fun k e => fr (h.me.block k e).2.1) (fun k e => fr (h.vl.block k e).2.1) (fun k o e => fr (whole_lt (h.fr k o e).1))
  ⟨h'.hb, h'.hs, h'.box, h'.me, h'.vl, h'.nm, h'.nv, fun k o' e => by
    try dsimp only at e
    split at e
    · rename_i hk; cases e; subst hk; exact ⟨hg, fun e => by have := h.lt; omega, fun e => by have := (h.me.block _ e).2.1; omega, fun e => by have := (h.vl.block _ e).2.1; omega⟩
    · exact h'.fr k o' e⟩
theorem RR.less (h : RR W w gs s V n vs vb vm vv fx) {e' : Nat → Option Obj} (hs : ∀ k o, e' k = some o → fx k = some o) : RR W w gs s V n vs vb vm vv e' :=
  ⟨h.hb, h.hs, h.box, h.me, h.vl, h.nm, h.nv, fun k o e => h.fr k o (hs k o e)⟩
end
end Go.Proofs.YtpecingkoodmfaaGreatDoor.Ev
/- A trace that may be, entered where it may be: its exits lie in range, and what they name is there. -/
namespace Go.Proofs.YtpecingkoodmfaaGreatDoor.Ev
open Go.RowKit (wrap64)
open Ir (T I O rightT insOk insFrom known okP leads usesL outsL works within twoI oneI)
open Mach (M less)
set_option linter.unusedVariables false
/-- every place that an exit names is one of so many -/
def Names (n : Nat) (o : O) : Prop := (∀ p ∈ o.stack, 0 ≤ p ∧ p < (n : Int)) ∧ ∀ p ∈ o.back, 0 ≤ p ∧ p < (n : Int)
theorem within_iff {n m : Int} : within n m = true ↔ 0 ≤ n ∧ n ≤ m := by unfold within; exact decide_eq_true_iff
theorem known_names {ins : List I} {l : List Int} {k : Nat} (h : known ins l (k : Int) = true) : ∀ p ∈ l, 0 ≤ p ∧ p < (k : Int) := by
  intro p hp
  have h1 := List.all_eq_true.1 h p hp
  unfold okP at h1
  rw [Bool.and_eq_true, within_iff] at h1
  exact ⟨h1.1.1, by have := h1.1.2; omega⟩
theorem leads_names {t : T} {x : Int} {k : Nat} (h : leads t x (k : Int) = true) : ∃ o, outAt t x = some o ∧ Names k o := by
  unfold leads at h
  rw [Bool.and_eq_true, within_iff] at h
  obtain ⟨⟨h0, h1⟩, h2⟩ := h
  cases ho : t.outs[x.toNat]? with
  | none => rw [ho] at h2; cases h2
  | some o =>
    rw [ho] at h2
    dsimp only at h2
    rw [Bool.and_eq_true] at h2
    exact ⟨o, by unfold outAt; rw [if_pos h0, ho], known_names h2.1, known_names h2.2⟩
theorem getL_on {l : List Int} {p : Int} (h : 0 ≤ p ∧ p < (l.length : Int)) : (getL l p).2 = true := by unfold getL; rw [if_pos h]
theorem slot_on {l : List Int} {a m : Int} (h : 0 ≤ a ∧ a ≤ m - 1) (hm : m ≤ (l.length : Int)) (hl : l.length ≤ 10000) : (getL l (wrap64 ((l.length : Int) - 1 - a))).2 = true := by
  apply getL_on
  have : wrap64 ((l.length : Int) - 1 - a) = (l.length : Int) - 1 - a := by unfold wrap64; omega
  rw [this]
  omega
theorem one_on {a b : Int} (h : oneI a = true) : (Cell.one a b).2 = true := by
  unfold oneI at h
  have h := decide_eq_true_iff.1 h
  rcases h with rfl | rfl | rfl | rfl <;> rfl
theorem two_on {a b c : Int} (h : twoI a = true) (h1 : a ≠ 14) (h2 : a ≠ 15) : (Cell.two a b c).2 = true := by
  unfold twoI at h
  have h := decide_eq_true_iff.1 h
  have hc : a = 11 ∨ a = 12 ∨ a = 13 ∨ a = 17 ∨ a = 18 ∨ a = 19 ∨ a = 21 ∨ a = 22 ∨ a = 23 ∨ a = 24 ∨ a = 25 ∨ a = 28 ∨ a = 29 := by omega
  rcases hc with rfl | rfl | rfl | rfl | rfl | rfl | rfl | rfl | rfl | rfl | rfl | rfl | rfl <;> rfl
theorem sayI_hit (s : M) (b : ByteArray) : (sayI s b).hit = false := by unfold sayI; split <;> rfl
theorem calcI_hit' (s : M) (a b c : Int) : (calcI s a b c).hit = false := by unfold calcI; split <;> rfl
theorem askI_on' (s : M) : (askI s).on = true ∧ (askI s).hit = false := by unfold askI; split <;> exact ⟨rfl, rfl⟩
/-- an instruction that may be there leaves by an exit that it names -/
theorem doI_leaves {t : T} {wat : List Int} {s : M} {V : List Int} {x : I} {k : Nat} (hx : insOk t k x = true) (h1 : t.slots ≤ (s.stack.length : Int)) (h2 : t.backs ≤ (s.back.length : Int)) (z1 : s.stack.length ≤ 10000) (z2 : s.back.length ≤ 10000) :
    ((doI wat s V x).hit = true → leads t x.2.1 k = true) ∧ ((doI wat s V x).hit = false → (doI wat s V x).on = false → leads t x.2.2.2.2 k = true) := by
  unfold insOk at hx
  rw [Bool.and_eq_true, Bool.and_eq_true] at hx
  obtain ⟨⟨hw, -⟩, ho⟩ := hx
  have ho := List.all_eq_true.1 ho
  obtain ⟨op, a, b, c, e⟩ := x
  dsimp only
  by_cases c1 : op = 1
  · subst c1; exact ⟨fun h => (by cases h), fun _ h => (by cases h)⟩
  by_cases c2 : op = 2
  · subst c2
    have h := within_iff.1 (show within a (t.slots - 1) = true from hw)
    have hon := slot_on (l := s.stack) ⟨h.1, h.2⟩ h1 z1
    exact ⟨fun h => (by cases h), fun _ h => (by rw [show (doI wat s V (2, a, b, c, e)).on = (getL s.stack (wrap64 ((s.stack.length : Int) - 1 - a))).2 from rfl, hon] at h; cases h)⟩
  by_cases c3 : op = 3
  · subst c3
    have h := within_iff.1 (show within a (t.backs - 1) = true from hw)
    have hon := slot_on (l := s.back) ⟨h.1, h.2⟩ h2 z2
    exact ⟨fun h => (by cases h), fun _ h => (by rw [show (doI wat s V (3, a, b, c, e)).on = (getL s.back (wrap64 ((s.back.length : Int) - 1 - a))).2 from rfl, hon] at h; cases h)⟩
  by_cases c4 : op = 4
  · subst c4
    have hw' : (twoI a || oneI a) = true := hw
    refine ⟨fun h => (by rw [show (doI wat s V (4, a, b, c, e)).hit = (calcI s a (val V b) (val V c)).hit from rfl, calcI_hit'] at h; cases h), fun _ h => ?_⟩
    by_cases d : a = 14 ∨ a = 15
    · exact ho e (by unfold outsL; dsimp only; rw [if_neg (by decide), if_pos rfl, if_pos d]; exact List.mem_cons_self)
    · exfalso
      have hon : (calcI s a (val V b) (val V c)).on = true := by
        unfold calcI
        split
        · rfl
        · rename_i h1
          rw [Bool.or_eq_true] at hw'
          rcases hw' with g | g
          · exact two_on g (fun q => d (.inl q)) (fun q => d (.inr q))
          · exact absurd (one_on g) h1
      rw [show (doI wat s V (4, a, b, c, e)).on = (calcI s a (val V b) (val V c)).on from rfl, hon] at h
      cases h
  by_cases c6 : op = 6
  · subst c6
    exact ⟨fun _ => ho a (by unfold outsL; rw [if_pos rfl]; exact List.mem_cons_of_mem _ List.mem_cons_self), fun _ _ => ho e (by unfold outsL; rw [if_pos rfl]; exact List.mem_cons_self)⟩
  by_cases c12 : op = 12
  · subst c12
    exact ⟨fun h => (by rw [show (doI wat s V (12, a, b, c, e)).hit = (askI s).hit from rfl, (askI_on' s).2] at h; cases h), fun _ h => (by rw [show (doI wat s V (12, a, b, c, e)).on = (askI s).on from rfl, (askI_on' s).1] at h; cases h)⟩
  have hwk : within (op - 1) 11 = true := by
    have h : (if op = 2 then within a (t.slots - 1) else if op = 3 then within a (t.backs - 1) else if op = 4 then twoI a || oneI a else within (op - 1) 11) = true := hw
    rw [if_neg c2, if_neg c3, if_neg c4] at h
    exact h
  have hw2 := within_iff.1 hwk
  have hop : op = 5 ∨ op = 7 ∨ op = 8 ∨ op = 9 ∨ op = 10 ∨ op = 11 := by omega
  have hin : e ∈ outsL (op, a, b, c, e) := by
    unfold outsL
    dsimp only
    rw [if_neg c6, if_neg c4, if_pos hop]
    exact List.mem_cons_self
  refine ⟨fun h => ?_, fun _ _ => ho e hin⟩
  exfalso
  rcases hop with rfl | rfl | rfl | rfl | rfl | rfl
  · cases h
  · cases h
  · cases h
  · cases h
  · rw [show (doI wat s V (10, a, b, c, e)).hit = (sayI s (byteT (val V b))).hit from rfl, sayI_hit] at h; cases h
  · rw [show (doI wat s V (11, a, b, c, e)).hit = (sayI s (tellT (val V b))).hit from rfl, sayI_hit] at h; cases h
/-- the instructions leave by an exit that lies in range, and whose places are told by then -/
theorem goI_leaves {t : T} {wat : List Int} : ∀ (l : List I) (k : Nat) (s : M) (V : List Int), insFrom t k l = true → leads t t.last ((k + l.length : Nat) : Int) = true → V.length = k → t.slots ≤ (s.stack.length : Int) → t.backs ≤ (s.back.length : Int) → s.stack.length ≤ 10000 → s.back.length ≤ 10000 →
    ∃ o, outAt t (goI wat t.last l s V).exit = some o ∧ Names (goI wat t.last l s V).V.length o
  | [], k, s, V, _, hl, hV, _, _, _, _ => by
    obtain ⟨o, h1, h2⟩ := leads_names (k := k) (by simpa using hl)
    exact ⟨o, h1, by rw [show (goI wat t.last [] s V).V = V from rfl, hV]; exact h2⟩
  | x :: l, k, s, V, hi, hl, hV, h1, h2, z1, z2 => by
    have hi' : (insOk t k x && insFrom t (k + 1) l) = true := hi
    rw [Bool.and_eq_true] at hi'
    have hd := doI_leaves (wat := wat) (V := V) hi'.1 h1 h2 z1 z2
    have hk := doI_kin wat s V x
    unfold goI
    dsimp only
    cases hh : (doI wat s V x).hit with
    | true =>
      rw [if_pos rfl]
      obtain ⟨o, g1, g2⟩ := leads_names (hd.1 hh)
      exact ⟨o, g1, by show Names V.length o; rw [hV]; exact g2⟩
    | false =>
      rw [if_neg (by decide)]
      cases hon : (doI wat s V x).on with
      | true =>
        rw [if_pos rfl]
        exact goI_leaves l (k + 1) _ _ hi'.2 (by rw [show k + 1 + l.length = k + (x :: l).length by simp; omega]; exact hl) (by rw [List.length_append, hV]; rfl) (by rw [hk.stack]; exact h1) (by rw [hk.back]; exact h2) (by rw [hk.stack]; exact z1) (by rw [hk.back]; exact z2)
      | false =>
        rw [if_neg (by decide)]
        obtain ⟨o, g1, g2⟩ := leads_names (hd.2 hh hon)
        exact ⟨o, g1, by show Names V.length o; rw [hV]; exact g2⟩
end Go.Proofs.YtpecingkoodmfaaGreatDoor.Ev
/- A step leaves the numbers of a machine of chapter 9 cells' numbers. -/
namespace Go.Proofs.YtpecingkoodmfaaGreatDoor.Mach
open Go.RowKit (wrap64)
open Go.Proofs.YtpecingkoodmfaaGreatDoor.Cell (In)
set_option linter.unusedVariables false
set_option linter.unusedSimpArgs false
theorem in0 : In 0 := (by unfold Go.Proofs.YtpecingkoodmfaaGreatDoor.Cell.In; omega)
theorem ite_in {p : Prop} [Decidable p] {x y : Int × Bool} (h : In x.1) (g : In y.1) : In (if p then x else y).1 := by split <;> assumption
theorem set_in {l : List Int} (h : ∀ x ∈ l, In x) (k : Nat) {a : Int} (g : In a) : ∀ x ∈ l.set k a, In x := fun x hx => (List.mem_or_eq_of_mem_set hx).elim (h x) (fun e => e ▸ g)
theorem byte_in (b : UInt8) : In (b.toNat : Int) := by have := b.toNat_lt; exact (by unfold Go.Proofs.YtpecingkoodmfaaGreatDoor.Cell.In; omega)
theorem flag_in (b : Bool) : In (Cell.flag b) := by cases b; exact in0; exact (show In (-1) from (by unfold Go.Proofs.YtpecingkoodmfaaGreatDoor.Cell.In; omega))
theorem one_in (k : Int) {a : Int} (h : In a) : In (Cell.one k a).1 := by
  unfold Cell.one
  repeat' split
  · exact Cell.wrap_in _
  · unfold Cell.In at h ⊢; show -9223372036854775808 ≤ -1 - a ∧ -1 - a ≤ 9223372036854775807; omega
  · exact flag_in _
  · exact flag_in _
  · exact (by unfold Go.Proofs.YtpecingkoodmfaaGreatDoor.Cell.In; omega)
theorem shl_in (a b : Int) : In (Cell.shl a b) := by unfold Cell.shl; split; exact (by unfold Go.Proofs.YtpecingkoodmfaaGreatDoor.Cell.In; omega); exact Cell.wrap_in _
theorem shr_in (a b : Int) : In (Cell.shr a b) := by unfold Cell.shr; split; exact (by unfold Go.Proofs.YtpecingkoodmfaaGreatDoor.Cell.In; omega); exact Cell.wrap_in _
theorem fl_in {a b : Int} (k : Int) (hb : In b) : In (Cell.fl a b k).1 := by
  unfold Cell.fl
  split
  · exact (by unfold Go.Proofs.YtpecingkoodmfaaGreatDoor.Cell.In; omega)
  · rename_i h0
    show In (if k = 15 then Cell.fr a b else Cell.fq a b)
    split
    · exact Cell.fr_in h0 hb
    · exact Cell.wrap_in _
theorem two_in (k : Int) {a b : Int} (ha : In a) (hb : In b) : In (Cell.two k a b).1 := by
  have m1 : In (min a b) := by unfold Cell.In at ha hb ⊢; omega
  have m2 : In (max a b) := by unfold Cell.In at ha hb ⊢; omega
  exact ite_in (Cell.wrap_in (a + b)) (ite_in (Cell.wrap_in (a - b)) (ite_in (Cell.wrap_in (a * b)) (ite_in (fl_in k hb) (ite_in (Cell.bits_in .and a b) (ite_in (Cell.bits_in .or a b) (ite_in (Cell.bits_in .xor a b) (ite_in (shl_in a b) (ite_in (shr_in a b) (ite_in (flag_in _) (ite_in (flag_in _) (ite_in (flag_in _) (ite_in m1 (ite_in m2 in0)))))))))))))
end Go.Proofs.YtpecingkoodmfaaGreatDoor.Mach
/- A []int that came in. -/
namespace Go.Proofs.YtpecingkoodmfaaGreatDoor
open Go.ChangeShapes Go.WideShapes Go.ChangeAt Go.RowKit
set_option linter.unusedVariables false
set_option maxRecDepth 1000000 in
theorem cells_int : Tryz.prog.cellsOf 3 = 1 := by kernel_rfl
set_option maxRecDepth 100000 in
theorem readsOf {H : Type} {enc : TypeId × Value → H} {W : World} {base : Nat} {v : Value} {d : DataW H} {p : List MemPlace} (hv : Value.okWide Tryz.prog W .any base 24 v) (h : DataW.Trod enc Tryz.prog W 0 (fun _ => true) true 24 v d p) : ∃ xs, Reads W v xs ∧ ∀ x ∈ xs, (Lit.int .i64 x).wf = true := by
  obtain ⟨a0, len, cap, rfl⟩ := okWide_slice Tryz.underlying24 hv
  obtain ⟨fuel, hf⟩ := h
  rcases open_ints Tryz.underlying24 Tryz.underlying3 cells_int hf with ⟨hcs, hx⟩ | ⟨a, len', cap', zs, hcs, _, hl, hm, hmm, hx, hcell, hwf⟩
  · simp [Value.cells] at hcs
    obtain ⟨rfl, rfl, rfl⟩ := hcs
    exact ⟨[], ⟨none, 0, rfl, fun j s h => by cases h⟩, fun x h => by cases h⟩
  · simp [Value.cells] at hcs
    obtain ⟨rfl, rfl, rfl⟩ := hcs
    simp only [if_true] at hmm
    refine ⟨zs.take len, ⟨some a, cap, by rw [List.length_take, Nat.min_eq_left (by omega)], fun j x h => ⟨a, rfl, ?_⟩⟩, fun x hx => hwf x (List.mem_of_mem_take hx)⟩
    have hj := (List.getElem?_eq_some_iff.1 h).1
    rw [List.length_take] at hj
    rw [List.getElem?_take, if_pos (by omega)] at h
    have := hcell j (by omega)
    rw [List.getD_eq_getElem?_getD, h] at this
    exact this
end Go.Proofs.YtpecingkoodmfaaGreatDoor
