/- The document's own step (chapter 9): the switch. -/
import Derived.Test.YtcffbeihgchpgaaGreatDoorS21
import Derived.Test.YtcffbeihgchpgaaGreatDoorS22
import Derived.Test.YtcffbeihgchpgaaGreatDoorS23
import Derived.Test.YtcffbeihgchpgaaGreatDoorS28
import Derived.Test.YtcffbeihgchpgaaGreatDoorS24
import Derived.Test.YtcffbeihgchpgaaGreatDoorS25
import Derived.Test.YtcffbeihgchpgaaGreatDoorS26
import Derived.Test.YtcffbeihgchpgaaGreatDoorS27
import Derived.Test.YtcffbeihgchpgaaGreatDoorS29
namespace Go.Proofs.YtcffbeihgchpgaaGreatDoor.Inn
open Go.RowKit Book Mem Mach
set_option linter.unusedVariables false
set_option linter.unusedSimpArgs false
section
variable {W w : World} {g x r : Nat} {ip hh i arg : Int} {st bk me : List Int} {ou inn : ByteArray} {rd stt cd : Int} {vs0 vb0 vm0 : Value} {so bo mo : Option Addr} {n nb nm sc bc mc : Nat} {p q r3 : Int}
set_option maxHeartbeats 8000000 in
set_option maxRecDepth 1000000 in
theorem sw_any (h : Got W w g x r ip hh i st bk me ou inn rd stt cd vs0 vb0 vm0 so bo mo n nb nm sc bc mc p q r3) (k : Nat) (hk : k < 48) (P : Nat) (hP : (P : Int) + (movesOf k).1 = (n : Int)) (hb : (movesOf k).2.1 ≤ (nb : Int)) (hi : i = ip + (if argOf k = true then 2 else 1)) (ht : twoOf k = false) (ho : oneOf k = false) :
    Way w g x r k arg n nb p q r3 (.slice so P sc) (TellsK vs0 vb0 vm0 ⟨ip, hh, st, bk, me, ou, inn, rd, stt, cd⟩ (exec k ⟨ip, hh, st, bk, me, ou, inn, rd, stt, cd⟩ i arg) W) := by
  have hkk : k = 0 ∨ k = 1 ∨ k = 2 ∨ k = 3 ∨ k = 4 ∨ k = 5 ∨ k = 6 ∨ k = 7 ∨ k = 8 ∨ k = 9 ∨ k = 10 ∨ k = 30 ∨ k = 31 ∨ k = 32 ∨ k = 33 ∨ k = 34 ∨ k = 35 ∨ k = 36 ∨ k = 37 ∨ k = 38 ∨ k = 39 ∨ k = 40 ∨ k = 41 ∨ k = 42 ∨ k = 43 ∨ k = 44 ∨ k = 45 ∨ k = 46 ∨ k = 47 := by
    simp only [twoOf, oneOf, decide_eq_false_iff_not] at ht ho
    omega
  clear ht ho
  rcases hkk with rfl | rfl | rfl | rfl | rfl | rfl | rfl | rfl | rfl | rfl | rfl | rfl | rfl | rfl | rfl | rfl | rfl | rfl | rfl | rfl | rfl | rfl | rfl | rfl | rfl | rfl | rfl | rfl | rfl
  · -- 0
    have hP1 : P + 0 = n := by have e : (movesOf 0).1 = 0 := rfl; omega
    obtain rfl : P = n := hP1
    unfold Way
    intros
    exact way0 h (by rw [hi]; rfl)
  · -- 1
    have hP1 : P + 0 = n := by have e : (movesOf 1).1 = 0 := rfl; omega
    obtain rfl : P = n := hP1
    unfold Way
    intros
    by_cases c1 : hh < 3
    · exact way1_low h c1
    · by_cases c2 : (nb : Int) = hh
      · by_cases c3 : 48 ≤ P
        · exact way1_full h c1 c2 c3
        · exact way1_ok h c2.symm (nb - 3) (by omega) c3
      · exact way1_off h c1 c2
  · -- 2
    have hP1 : P + 0 = n := by have e : (movesOf 2).1 = 0 := rfl; omega
    obtain rfl : P = n := hP1
    unfold Way
    intros
    exact way2 h
  · -- 3
    have hP1 : P + 0 = n := by have e : (movesOf 3).1 = 0 := rfl; omega
    obtain rfl : P = n := hP1
    unfold Way
    intros
    exact way3 h
  · -- 4
    have hP1 : P + 1 = n := by have e : (movesOf 4).1 = 1 := rfl; omega
    unfold Way
    intros
    by_cases hz : p = 0
    · exact way4_yes h P hP1 hz
    · exact way4_no h P hP1 hz
  · -- 5
    have hP1 : P + 0 = n := by have e : (movesOf 5).1 = 0 := rfl; omega
    obtain rfl : P = n := hP1
    have hb1 : 1 ≤ nb := by have e : (movesOf 5).2.1 = 1 := rfl; omega
    obtain ⟨Q, hQ⟩ : ∃ Q, Q + 1 = nb := ⟨nb - 1, by omega⟩
    unfold Way
    intros
    exact way5 h Q hQ
  · -- 6
    have hP1 : P + 1 = n := by have e : (movesOf 6).1 = 1 := rfl; omega
    unfold Way
    intros
    exact way6 h P hP1
  · -- 7
    have hP1 : P + 1 = n := by have e : (movesOf 7).1 = 1 := rfl; omega
    unfold Way
    intros
    exact way7 h P hP1
  · -- 8
    have hP1 : P + 2 = n := by have e : (movesOf 8).1 = 2 := rfl; omega
    unfold Way
    intros
    exact way8 h P hP1
  · -- 9
    have hP1 : P + 2 = n := by have e : (movesOf 9).1 = 2 := rfl; omega
    unfold Way
    intros
    exact way9 h P hP1
  · -- 10
    have hP1 : P + 3 = n := by have e : (movesOf 10).1 = 3 := rfl; omega
    unfold Way
    intros
    exact way10 h P hP1
  · -- 30
    have hP1 : P + 1 = n := by have e : (movesOf 30).1 = 1 := rfl; omega
    unfold Way
    intros
    by_cases c1 : p < 0
    · exact way30_low h P hP1 c1
    · by_cases c2 : (nm : Int) ≤ p
      · exact way30_high h P hP1 ⟨c1, c2⟩
      · exact way30 h P hP1 p.toNat (by omega) (by omega)
  · -- 31
    have hP1 : P + 2 = n := by have e : (movesOf 31).1 = 2 := rfl; omega
    unfold Way
    intros
    by_cases c1 : p < 0
    · exact way31_low h P hP1 c1
    · by_cases c2 : (nm : Int) ≤ p
      · exact way31_high h P hP1 ⟨c1, c2⟩
      · exact way31 h P hP1 p.toNat (by omega) (by omega)
  · -- 32
    have hP1 : P + 2 = n := by have e : (movesOf 32).1 = 2 := rfl; omega
    unfold Way
    intros
    by_cases c1 : p < 0
    · exact way32_low h P hP1 c1
    · by_cases c2 : (nm : Int) ≤ p
      · exact way32_high h P hP1 ⟨c1, c2⟩
      · exact way32_ok h P hP1 p.toNat (by omega) (by omega)
  · -- 33
    have hP1 : P + 1 = n := by have e : (movesOf 33).1 = 1 := rfl; omega
    unfold Way
    intros
    exact way33 h P hP1
  · -- 34
    have hP1 : P + 0 = n := by have e : (movesOf 34).1 = 0 := rfl; omega
    obtain rfl : P = n := hP1
    have hb1 : 1 ≤ nb := by have e : (movesOf 34).2.1 = 1 := rfl; omega
    obtain ⟨Q, hQ⟩ : ∃ Q, Q + 1 = nb := ⟨nb - 1, by omega⟩
    unfold Way
    intros
    exact way34 h Q hQ
  · -- 35
    have hP1 : P + 0 = n := by have e : (movesOf 35).1 = 0 := rfl; omega
    obtain rfl : P = n := hP1
    have hb1 : 1 ≤ nb := by have e : (movesOf 35).2.1 = 1 := rfl; omega
    obtain ⟨Q, hQ⟩ : ∃ Q, Q + 1 = nb := ⟨nb - 1, by omega⟩
    unfold Way
    intros
    exact way35 h Q hQ
  · -- 36
    have hP1 : P + 2 = n := by have e : (movesOf 36).1 = 2 := rfl; omega
    unfold Way
    intros
    exact way36 h P hP1
  · -- 37
    have hP1 : P + 0 = n := by have e : (movesOf 37).1 = 0 := rfl; omega
    obtain rfl : P = n := hP1
    have hb1 : 2 ≤ nb := by have e : (movesOf 37).2.1 = 2 := rfl; omega
    obtain ⟨Q, hQ⟩ : ∃ Q, Q + 2 = nb := ⟨nb - 2, by omega⟩
    unfold Way
    intros
    by_cases he : wrap64 (nth bk 0 + 1) = nth bk 1
    · exact way37_end h Q hQ rfl rfl he
    · exact way37_on h Q hQ rfl rfl he
  · -- 38
    have hP1 : P + 1 = n := by have e : (movesOf 38).1 = 1 := rfl; omega
    have hb1 : 2 ≤ nb := by have e : (movesOf 38).2.1 = 2 := rfl; omega
    obtain ⟨Q, hQ⟩ : ∃ Q, Q + 2 = nb := ⟨nb - 2, by omega⟩
    unfold Way
    intros
    cases he : Cell.crosses (wrap64 (nth bk 0 - nth bk 1)) p with
    | true => exact way38_end h P hP1 Q hQ rfl rfl he
    | false => exact way38_on h P hP1 Q hQ rfl rfl he
  · -- 39
    have hP1 : P + 0 = n := by have e : (movesOf 39).1 = 0 := rfl; omega
    obtain rfl : P = n := hP1
    have hb1 : 3 ≤ nb := by have e : (movesOf 39).2.1 = 3 := rfl; omega
    obtain ⟨Q, hQ⟩ : ∃ Q, Q + 3 = nb := ⟨nb - 3, by omega⟩
    unfold Way
    intros
    exact way39 h Q hQ
  · -- 40
    have hP1 : P + 0 = n := by have e : (movesOf 40).1 = 0 := rfl; omega
    obtain rfl : P = n := hP1
    have hb1 : 2 ≤ nb := by have e : (movesOf 40).2.1 = 2 := rfl; omega
    obtain ⟨Q, hQ⟩ : ∃ Q, Q + 2 = nb := ⟨nb - 2, by omega⟩
    unfold Way
    intros
    exact way40 h Q hQ
  · -- 41
    have hP1 : P + 1 = n := by have e : (movesOf 41).1 = 1 := rfl; omega
    unfold Way
    intros
    have ic : Cell.In p := by rw [← h.hp]; exact nthIn h.cl.stack 0
    by_cases c1 : ou.size + 1 ≤ 2000
    · exact way41 h P hP1 ic c1
    · exact way41_full h P hP1 ic c1
  · -- 42
    have hP1 : P + 1 = n := by have e : (movesOf 42).1 = 1 := rfl; omega
    unfold Way
    intros
    have ic : Cell.In p := by rw [← h.hp]; exact nthIn h.cl.stack 0
    by_cases c1 : ou.size + ((Lib.itoa p).length + 1) ≤ 2000
    · exact way42 h P hP1 ic c1
    · exact way42_full h P hP1 ic c1
  · -- 43
    have hP1 : P + 0 = n := by have e : (movesOf 43).1 = 0 := rfl; omega
    obtain rfl : P = n := hP1
    unfold Way
    intros
    by_cases c1 : rd < (inn.size : Int)
    · exact way43_yes h rd.toNat (by have := h.rd0; omega) (by have := h.rd0; omega) _ rfl
    · exact way43_no h c1
  · -- 44
    have hP1 : P + 1 = n := by have e : (movesOf 44).1 = 1 := rfl; omega
    unfold Way
    intros
    by_cases c1 : p < 64
    · exact way44_low h P hP1 c1
    · by_cases c2 : (nm : Int) ≤ p
      · exact way44_high h P hP1 c1 c2
      · exact way44 h P hP1 c1 c2
  · -- 45
    have hP1 : P + 1 = n := by have e : (movesOf 45).1 = 1 := rfl; omega
    unfold Way
    intros
    by_cases hz : p = 0
    · exact way45_no h P hP1 hz
    · exact way45_yes h P hP1 hz
  · -- 46
    have hP1 : P + 1 = n := by have e : (movesOf 46).1 = 1 := rfl; omega
    unfold Way
    intros
    exact way46 h P hP1
  · -- 47
    have hP1 : P + 0 = n := by have e : (movesOf 47).1 = 0 := rfl; omega
    obtain rfl : P = n := hP1
    unfold Way
    intros
    exact way47 h
end
end Go.Proofs.YtcffbeihgchpgaaGreatDoor.Inn
/- The document's own step (chapter 9): the operation and its operand are skipped. -/
namespace Go.Proofs.YtcffbeihgchpgaaGreatDoor.Inn
open Go.RowKit Book Mem Mach
set_option linter.unusedVariables false
set_option linter.unusedSimpArgs false
section
variable {W w : World} {g x r : Nat} {ip hh i arg : Int} {st bk me : List Int} {ou inn : ByteArray} {rd stt cd : Int} {vs0 vb0 vm0 : Value} {so bo mo : Option Addr} {n nb nm sc bc mc : Nat} {p q r3 : Int}
theorem two_moves (k : Nat) (hk : k < 48) (h : twoOf k = true) : (movesOf k).1 = 2 := (by decide +kernel : ∀ i : Fin 48, twoOf i = true → (movesOf i).1 = 2) ⟨k, hk⟩ h
theorem one_moves (k : Nat) (hk : k < 48) (h : oneOf k = true) : (movesOf k).1 = 1 := (by decide +kernel : ∀ i : Fin 48, oneOf i = true → (movesOf i).1 = 1) ⟨k, hk⟩ h
theorem moves_low (k : Nat) (hk : k < 48) : 0 ≤ (movesOf k).1 ∧ (movesOf k).1 ≤ 4 ∧ 0 ≤ (movesOf k).2.1 ∧ (movesOf k).2.1 ≤ 4 ∧ 0 ≤ (movesOf k).2.2.1 ∧ (movesOf k).2.2.1 ≤ 4 ∧ 0 ≤ (movesOf k).2.2.2 ∧ (movesOf k).2.2.2 ≤ 4 := (by decide +kernel : ∀ i : Fin 48, 0 ≤ (movesOf i).1 ∧ (movesOf i).1 ≤ 4 ∧ 0 ≤ (movesOf i).2.1 ∧ (movesOf i).2.1 ≤ 4 ∧ 0 ≤ (movesOf i).2.2.1 ∧ (movesOf i).2.2.1 ≤ 4 ∧ 0 ≤ (movesOf i).2.2.2 ∧ (movesOf i).2.2.2 ≤ 4) ⟨k, hk⟩
set_option maxHeartbeats 8000000 in
set_option maxRecDepth 1000000 in
theorem at40 (h : Got W w g x r ip hh i st bk me ou inn rd stt cd vs0 vb0 vm0 so bo mo n nb nm sc bc mc p q r3) (k : Nat) (hk : k < 48) (P : Nat) (hP : (P : Int) + (movesOf k).1 = (n : Int)) (hb : (movesOf k).2.1 ≤ (nb : Int)) (hi : i = ip + (if argOf k = true then 2 else 1)) :
    At 40 w g x r k arg (movesOf k).1 n nb (.int .i64 p) (.int .i64 q) (.int .i64 r3) (TellsK vs0 vb0 vm0 ⟨ip, hh, st, bk, me, ou, inn, rd, stt, cd⟩ (exec k ⟨ip, hh, st, bk, me, ou, inn, rd, stt, cd⟩ i arg) W) := by
  unfold At
  intros
  cases ht : twoOf k with
  | true =>
    have e : (movesOf k).1 = 2 := two_moves k hk ht
    rw [e] at hP ⊢
    cases hok : (Cell.two k q p).2 with
    | true => exact two_ok h k hk arg P (by omega) ht hok
    | false => exact two_no h k hk arg P (by omega) ht hok
  | false =>
    cases ho : oneOf k with
    | true =>
      have e : (movesOf k).1 = 1 := one_moves k hk ho
      rw [e] at hP ⊢
      exact one_ok h k hk arg P (by omega) ht ho
    | false =>
      have hm := moves_low k hk
      have hsw : Way w g x r k arg n nb p q r3 (.slice so P sc) (TellsK vs0 vb0 vm0 ⟨ip, hh, st, bk, me, ou, inn, rd, stt, cd⟩ (exec k ⟨ip, hh, st, bk, me, ou, inn, rd, stt, cd⟩ i arg) W) := by unfold Way; intros; exact sw_any h k hk P hP hb hi ht ho
      exact lead h k hk arg _ P (by omega) (by omega) ht ho (@hsw)
set_option maxHeartbeats 8000000 in
set_option maxRecDepth 1000000 in
theorem at37_no (h : Got W w g x r ip hh ip st bk me ou inn rd stt cd vs0 vb0 vm0 so bo mo n nb nm sc bc mc p q r3) (k : Nat) (hk : k < 48) (P : Nat) (hP : (P : Int) + (movesOf k).1 = (n : Int)) (hb : (movesOf k).2.1 ≤ (nb : Int)) (ha : argOf k = false) :
    At 37 w g x r k arg (movesOf k).1 n nb (.int .i64 p) (.int .i64 q) (.int .i64 r3) (TellsK vs0 vb0 vm0 ⟨ip, hh, st, bk, me, ou, inn, rd, stt, cd⟩ (exec k ⟨ip, hh, st, bk, me, ou, inn, rd, stt, cd⟩ (ip + (if argOf k = true then 2 else 1)) arg) W) := by
  have HG := Lib.hid h
  have HS := Lib.hid h.sb
  have CA := Lib.hid (fun wc => refArg_at k hk wc)
  rw [ha] at CA
  have hz : (if argOf k = true then (2 : Int) else 1) = 1 := by rw [ha]; rfl
  rw [hz]
  have HPB := Lib.hid (And.intro hP (And.intro hb (And.intro hz hk)))
  obtain ⟨i1, hi1⟩ : ∃ z, ip + 1 = z := ⟨_, rfl⟩
  have i0 := h.i0
  have i9 := h.i1
  have l3 := h.l3
  have HI2 := Lib.hid (show ip + 1 = i1 from hi1)
  obtain ⟨A, hA⟩ : ∃ A, (movesOf k).1 = A := ⟨_, rfl⟩
  have HA := Lib.hid hA
  rw [hA]
  clear h hP hb ha hz hk hA
  unfold At
  intros
  conv => arg 2; whnf
  go_upto_if 166 with (first
    | (refine ld_int (by rfl) _ rfl _ rfl _ (whole_cell HS.out.hx rfl) ?_)
    | (refine st_int (by rfl) _ _ rfl x _ rfl _ rfl rfl _ _ HS.out.hx (Nat.le_of_ble_eq_true rfl) ?_; intro wn hx ht; have HS := Lib.hid (HS.out.set hx ht); clear hx ht)
    | (go_at_call 44; refine (CA.out _).mono ?_; rintro e wz ⟨rfl, hwz⟩; subst hwz))
  refine wp_cond_false (by rfl) (wp_skip ?_)
  refine ‹∀ (a : Act) (w : World), Code.wp _ _ _ a w → _› _ _ ?_
  refine At.use (j := 40) ?_
  rw [← HA.out, HI2.out]
  unfold At
  intros
  exact at40 (arg := arg) (Got.mk (show SB W g x r (cells10 ip hh vs0 vb0 vm0 ou inn rd stt cd) (cells10 i1 hh (.slice so n sc) (.slice bo nb bc) (.slice mo nm mc) ou inn rd stt cd) (.slice so n sc) (.slice bo nb bc) (.slice mo nm mc) st bk me _ from HS.out) HG.out.hn HG.out.hnb HG.out.hnm HG.out.l1 HG.out.l2 HG.out.l3 HG.out.rs HG.out.rb HG.out.rm HG.out.hp HG.out.hq HG.out.hr HG.out.i0 HG.out.i1 HG.out.rd0 HG.out.rd1 HG.out.ou1 HG.out.in1 HG.out.cl) k HPB.out.2.2.2 P HPB.out.1 HPB.out.2.1 (by rw [HPB.out.2.2.1]; exact HI2.out.symm)
end
end Go.Proofs.YtcffbeihgchpgaaGreatDoor.Inn
/- The document's own step (chapter 9): an operand is skipped. -/
namespace Go.Proofs.YtcffbeihgchpgaaGreatDoor.Inn
open Go.RowKit Book Mem Mach
set_option linter.unusedVariables false
set_option linter.unusedSimpArgs false
section
variable {W w : World} {g x r : Nat} {ip hh i arg : Int} {st bk me : List Int} {ou inn : ByteArray} {rd stt cd : Int} {vs0 vb0 vm0 : Value} {so bo mo : Option Addr} {n nb nm sc bc mc : Nat} {p q r3 : Int}
set_option maxHeartbeats 8000000 in
set_option maxRecDepth 1000000 in
theorem at37_yes (h : Got W w g x r ip hh ip st bk me ou inn rd stt cd vs0 vb0 vm0 so bo mo n nb nm sc bc mc p q r3) (k : Nat) (hk : k < 48) (P : Nat) (hP : (P : Int) + (movesOf k).1 = (n : Int)) (hb : (movesOf k).2.1 ≤ (nb : Int)) (ha : argOf k = true) :
    At 37 w g x r k arg (movesOf k).1 n nb (.int .i64 p) (.int .i64 q) (.int .i64 r3) (TellsK vs0 vb0 vm0 ⟨ip, hh, st, bk, me, ou, inn, rd, stt, cd⟩ (exec k ⟨ip, hh, st, bk, me, ou, inn, rd, stt, cd⟩ (ip + (if argOf k = true then 2 else 1)) arg) W) := by
  have HG := Lib.hid h
  have HS := Lib.hid h.sb
  have CA := Lib.hid (fun wc => refArg_at k hk wc)
  rw [ha] at CA
  have hz : (if argOf k = true then (2 : Int) else 1) = 2 := by rw [ha]; rfl
  rw [hz]
  have HPB := Lib.hid (And.intro hP (And.intro hb (And.intro hz hk)))
  obtain ⟨i1, hi1⟩ : ∃ z, ip + 1 = z := ⟨_, rfl⟩
  have i0 := h.i0
  have i9 := h.i1
  have l3 := h.l3
  obtain ⟨i2, hi2⟩ : ∃ z, i1 + 1 = z := ⟨_, rfl⟩
  have HI2 := Lib.hid (show ip + 2 = i2 by omega)
  obtain ⟨A, hA⟩ : ∃ A, (movesOf k).1 = A := ⟨_, rfl⟩
  have HA := Lib.hid hA
  rw [hA]
  clear h hP hb ha hz hk hA
  unfold At
  intros
  conv => arg 2; whnf
  go_upto_if 166 with (first
    | (refine ld_int (by rfl) _ rfl _ rfl _ (whole_cell HS.out.hx rfl) ?_)
    | (refine st_int (by rfl) _ _ rfl x 0 rfl (.int .i64 i1) (by rfl) rfl _ _ HS.out.hx (Nat.le_of_ble_eq_true rfl) ?_; intro wn hx ht; have HS := Lib.hid (show SB W g x r (cells10 ip hh vs0 vb0 vm0 ou inn rd stt cd) (cells10 i1 hh (.slice so n sc) (.slice bo nb bc) (.slice mo nm mc) ou inn rd stt cd) (.slice so n sc) (.slice bo nb bc) (.slice mo nm mc) st bk me wn from HS.out.set hx ht); clear hx ht)
    | (go_at_call 44; refine (CA.out _).mono ?_; rintro e wz ⟨rfl, hwz⟩; subst hwz))
  rename_i K9 hK9
  have HK9 := Lib.hid hK9
  clear hK9
  refine wp_cond_true (by rfl) ?_
  go_wp2_with (first
    | (refine ld_int (by rfl) _ rfl _ rfl _ (whole_cell HS.out.hx rfl) ?_)
    | (refine st_int (by rfl) _ _ rfl x 0 rfl (.int .i64 i2) (by rfl) rfl _ _ HS.out.hx (Nat.le_of_ble_eq_true rfl) ?_; intro wn hx ht; have HS := Lib.hid (show SB W g x r (cells10 ip hh vs0 vb0 vm0 ou inn rd stt cd) (cells10 i2 hh (.slice so n sc) (.slice bo nb bc) (.slice mo nm mc) ou inn rd stt cd) (.slice so n sc) (.slice bo nb bc) (.slice mo nm mc) st bk me wn from HS.out.set hx ht); clear hx ht))
  refine HK9.out _ _ ?_
  refine At.use (j := 40) ?_
  rw [← HA.out, HI2.out]
  unfold At
  intros
  exact at40 (arg := arg) (Got.mk (show SB W g x r (cells10 ip hh vs0 vb0 vm0 ou inn rd stt cd) (cells10 i2 hh (.slice so n sc) (.slice bo nb bc) (.slice mo nm mc) ou inn rd stt cd) (.slice so n sc) (.slice bo nb bc) (.slice mo nm mc) st bk me _ from HS.out) HG.out.hn HG.out.hnb HG.out.hnm HG.out.l1 HG.out.l2 HG.out.l3 HG.out.rs HG.out.rb HG.out.rm HG.out.hp HG.out.hq HG.out.hr HG.out.i0 HG.out.i1 HG.out.rd0 HG.out.rd1 HG.out.ou1 HG.out.in1 HG.out.cl) k HPB.out.2.2.2 P HPB.out.1 HPB.out.2.1 (by rw [HPB.out.2.2.1]; exact HI2.out.symm)
end
end Go.Proofs.YtcffbeihgchpgaaGreatDoor.Inn
/- The document's own step (chapter 9): the three cells at the top. -/
namespace Go.Proofs.YtcffbeihgchpgaaGreatDoor.Inn
open Go.RowKit Book Mem Mach
set_option linter.unusedVariables false
set_option linter.unusedSimpArgs false
section
variable {W w : World} {g x r : Nat} {ip hh i arg : Int} {st bk me : List Int} {ou inn : ByteArray} {rd stt cd : Int} {vs0 vb0 vm0 : Value} {so bo mo : Option Addr} {n nb nm sc bc mc : Nat}
set_option maxHeartbeats 8000000 in
set_option maxRecDepth 1000000 in
theorem at30_0 (hS : SB W g x r (cells10 ip hh vs0 vb0 vm0 ou inn rd stt cd) (cells10 ip hh (.slice so n sc) (.slice bo nb bc) (.slice mo nm mc) ou inn rd stt cd) (.slice so n sc) (.slice bo nb bc) (.slice mo nm mc) st bk me w) (hn : st.length = n) (hnb : bk.length = nb) (hnm : me.length = nm) (l1 : n ≤ 48) (l2 : nb ≤ 48) (l3 : nm ≤ 3000) (rs : ReadsC W vs0 st) (rb : ReadsC W vb0 bk) (rm : ReadsC W vm0 me) (j0 : 0 ≤ ip) (j1 : ip < (nm : Int)) (rd0 : 0 ≤ rd) (rd1 : rd ≤ (inn.size : Int)) (ou1 : ou.size ≤ 2000) (in1 : inn.size ≤ maxLen) (cl : Cells ⟨ip, hh, st, bk, me, ou, inn, rd, stt, cd⟩) (k : Nat) (hk : k < 48) (P : Nat) (hP : (P : Int) + (movesOf k).1 = (n : Int)) (hb : (movesOf k).2.1 ≤ (nb : Int)) (hn0 : n = 0) (v12 v13 v14 : Value) :
    At 30 w g x r k arg (movesOf k).1 n nb v12 v13 v14 (TellsK vs0 vb0 vm0 ⟨ip, hh, st, bk, me, ou, inn, rd, stt, cd⟩ (exec k ⟨ip, hh, st, bk, me, ou, inn, rd, stt, cd⟩ (ip + (if argOf k = true then 2 else 1)) arg) W) := by
  obtain ⟨p, hp⟩ : ∃ z, nth st 0 = z := ⟨_, rfl⟩
  obtain ⟨q, hq⟩ : ∃ z, nth st 1 = z := ⟨_, rfl⟩
  obtain ⟨r3, hr3⟩ : ∃ z, nth st 2 = z := ⟨_, rfl⟩
  have HG := Lib.hid (Got.mk hS hn hnb hnm l1 l2 l3 rs rb rm hp hq hr3 j0 j1 rd0 rd1 ou1 in1 cl)
  have HS := Lib.hid hS
  have HK := Lib.hid (And.intro hP (And.intro hb hk))
  subst hn0
  have e0 : p = 0 := by rw [← hp]; unfold nth; rw [if_neg (by omega)]
  subst e0
  have e1 : q = 0 := by rw [← hq]; unfold nth; rw [if_neg (by omega)]
  subst e1
  have e2 : r3 = 0 := by rw [← hr3]; unfold nth; rw [if_neg (by omega)]
  subst e2
  obtain ⟨A, hA⟩ : ∃ A, (movesOf k).1 = A := ⟨_, rfl⟩
  have HA := Lib.hid hA
  rw [hA]
  clear hS hn hnb hnm rs rb rm hP hb hk hA
  unfold At
  intros
  conv => arg 2; whnf
  go_upto_if 154 with (first
    | (refine ld_ints (by rfl) _ rfl _ rfl _ (whole_cell HS.out.hx rfl) ?_))
  refine wp_cond_false (by rfl) (wp_skip ?_)
  refine ‹∀ (a : Act) (w : World), Code.wp _ _ _ a w → _› _ _ ?_
  refine At.use (j := 37) ?_
  rw [← HA.out]
  unfold At
  intros
  rcases Bool.eq_false_or_eq_true (argOf k) with ha | ha
  · exact at37_yes (arg := arg) HG.out k HK.out.2.2 P HK.out.1 HK.out.2.1 ha
  · exact at37_no (arg := arg) HG.out k HK.out.2.2 P HK.out.1 HK.out.2.1 ha
set_option maxHeartbeats 8000000 in
set_option maxRecDepth 1000000 in
theorem at30_1 (hS : SB W g x r (cells10 ip hh vs0 vb0 vm0 ou inn rd stt cd) (cells10 ip hh (.slice so n sc) (.slice bo nb bc) (.slice mo nm mc) ou inn rd stt cd) (.slice so n sc) (.slice bo nb bc) (.slice mo nm mc) st bk me w) (hn : st.length = n) (hnb : bk.length = nb) (hnm : me.length = nm) (l1 : n ≤ 48) (l2 : nb ≤ 48) (l3 : nm ≤ 3000) (rs : ReadsC W vs0 st) (rb : ReadsC W vb0 bk) (rm : ReadsC W vm0 me) (j0 : 0 ≤ ip) (j1 : ip < (nm : Int)) (rd0 : 0 ≤ rd) (rd1 : rd ≤ (inn.size : Int)) (ou1 : ou.size ≤ 2000) (in1 : inn.size ≤ maxLen) (cl : Cells ⟨ip, hh, st, bk, me, ou, inn, rd, stt, cd⟩) (k : Nat) (hk : k < 48) (P : Nat) (hP : (P : Int) + (movesOf k).1 = (n : Int)) (hb : (movesOf k).2.1 ≤ (nb : Int)) (hn0 : n = 1) (v12 v13 v14 : Value) :
    At 30 w g x r k arg (movesOf k).1 n nb v12 v13 v14 (TellsK vs0 vb0 vm0 ⟨ip, hh, st, bk, me, ou, inn, rd, stt, cd⟩ (exec k ⟨ip, hh, st, bk, me, ou, inn, rd, stt, cd⟩ (ip + (if argOf k = true then 2 else 1)) arg) W) := by
  obtain ⟨p, hp⟩ : ∃ z, nth st 0 = z := ⟨_, rfl⟩
  obtain ⟨q, hq⟩ : ∃ z, nth st 1 = z := ⟨_, rfl⟩
  obtain ⟨r3, hr3⟩ : ∃ z, nth st 2 = z := ⟨_, rfl⟩
  have HG := Lib.hid (Got.mk hS hn hnb hnm l1 l2 l3 rs rb rm hp hq hr3 j0 j1 rd0 rd1 ou1 in1 cl)
  have HS := Lib.hid hS
  have HK := Lib.hid (And.intro hP (And.intro hb hk))
  subst hn0
  obtain ⟨gs, cs, es, -⟩ := owns_slice hS.st (by rw [hn]; omega)
  simp only [Value.slice.injEq] at es
  obtain ⟨rfl, -, rfl⟩ := es
  have HU0 := Lib.hid (show st[0]? = some p by rw [← hp]; exact nth_get hn (by omega))
  have e1 : q = 0 := by rw [← hq]; unfold nth; rw [if_neg (by omega)]
  subst e1
  have e2 : r3 = 0 := by rw [← hr3]; unfold nth; rw [if_neg (by omega)]
  subst e2
  obtain ⟨A, hA⟩ : ∃ A, (movesOf k).1 = A := ⟨_, rfl⟩
  have HA := Lib.hid hA
  rw [hA]
  clear hS hn hnb hnm rs rb rm hP hb hk hA
  unfold At
  intros
  conv => arg 2; whnf
  go_upto_if 154 with (first
    | (refine ld_ints (by rfl) _ rfl _ rfl _ (whole_cell HS.out.hx rfl) ?_)
    | (refine ld_int (by rfl) _ rfl _ rfl _ (HS.out.atS HU0.out) ?_))
  refine wp_cond_false (by rfl) (wp_skip ?_)
  refine ‹∀ (a : Act) (w : World), Code.wp _ _ _ a w → _› _ _ ?_
  refine At.use (j := 37) ?_
  rw [← HA.out]
  unfold At
  intros
  rcases Bool.eq_false_or_eq_true (argOf k) with ha | ha
  · exact at37_yes (arg := arg) HG.out k HK.out.2.2 P HK.out.1 HK.out.2.1 ha
  · exact at37_no (arg := arg) HG.out k HK.out.2.2 P HK.out.1 HK.out.2.1 ha
set_option maxHeartbeats 8000000 in
set_option maxRecDepth 1000000 in
theorem at30_2 (hS : SB W g x r (cells10 ip hh vs0 vb0 vm0 ou inn rd stt cd) (cells10 ip hh (.slice so n sc) (.slice bo nb bc) (.slice mo nm mc) ou inn rd stt cd) (.slice so n sc) (.slice bo nb bc) (.slice mo nm mc) st bk me w) (hn : st.length = n) (hnb : bk.length = nb) (hnm : me.length = nm) (l1 : n ≤ 48) (l2 : nb ≤ 48) (l3 : nm ≤ 3000) (rs : ReadsC W vs0 st) (rb : ReadsC W vb0 bk) (rm : ReadsC W vm0 me) (j0 : 0 ≤ ip) (j1 : ip < (nm : Int)) (rd0 : 0 ≤ rd) (rd1 : rd ≤ (inn.size : Int)) (ou1 : ou.size ≤ 2000) (in1 : inn.size ≤ maxLen) (cl : Cells ⟨ip, hh, st, bk, me, ou, inn, rd, stt, cd⟩) (k : Nat) (hk : k < 48) (P : Nat) (hP : (P : Int) + (movesOf k).1 = (n : Int)) (hb : (movesOf k).2.1 ≤ (nb : Int)) (hn0 : n = 2) (v12 v13 v14 : Value) :
    At 30 w g x r k arg (movesOf k).1 n nb v12 v13 v14 (TellsK vs0 vb0 vm0 ⟨ip, hh, st, bk, me, ou, inn, rd, stt, cd⟩ (exec k ⟨ip, hh, st, bk, me, ou, inn, rd, stt, cd⟩ (ip + (if argOf k = true then 2 else 1)) arg) W) := by
  obtain ⟨p, hp⟩ : ∃ z, nth st 0 = z := ⟨_, rfl⟩
  obtain ⟨q, hq⟩ : ∃ z, nth st 1 = z := ⟨_, rfl⟩
  obtain ⟨r3, hr3⟩ : ∃ z, nth st 2 = z := ⟨_, rfl⟩
  have HG := Lib.hid (Got.mk hS hn hnb hnm l1 l2 l3 rs rb rm hp hq hr3 j0 j1 rd0 rd1 ou1 in1 cl)
  have HS := Lib.hid hS
  have HK := Lib.hid (And.intro hP (And.intro hb hk))
  subst hn0
  obtain ⟨gs, cs, es, -⟩ := owns_slice hS.st (by rw [hn]; omega)
  simp only [Value.slice.injEq] at es
  obtain ⟨rfl, -, rfl⟩ := es
  have HU0 := Lib.hid (show st[1]? = some p by rw [← hp]; exact nth_get hn (by omega))
  have HU1 := Lib.hid (show st[0]? = some q by rw [← hq]; exact nth_get hn (by omega))
  have e2 : r3 = 0 := by rw [← hr3]; unfold nth; rw [if_neg (by omega)]
  subst e2
  obtain ⟨A, hA⟩ : ∃ A, (movesOf k).1 = A := ⟨_, rfl⟩
  have HA := Lib.hid hA
  rw [hA]
  clear hS hn hnb hnm rs rb rm hP hb hk hA
  unfold At
  intros
  conv => arg 2; whnf
  go_upto_if 154 with (first
    | (refine ld_ints (by rfl) _ rfl _ rfl _ (whole_cell HS.out.hx rfl) ?_)
    | (refine ld_int (by rfl) _ rfl _ rfl _ (HS.out.atS HU0.out) ?_)
    | (refine ld_int (by rfl) _ rfl _ rfl _ (HS.out.atS HU1.out) ?_))
  refine wp_cond_false (by rfl) (wp_skip ?_)
  refine ‹∀ (a : Act) (w : World), Code.wp _ _ _ a w → _› _ _ ?_
  refine At.use (j := 37) ?_
  rw [← HA.out]
  unfold At
  intros
  rcases Bool.eq_false_or_eq_true (argOf k) with ha | ha
  · exact at37_yes (arg := arg) HG.out k HK.out.2.2 P HK.out.1 HK.out.2.1 ha
  · exact at37_no (arg := arg) HG.out k HK.out.2.2 P HK.out.1 HK.out.2.1 ha
set_option maxHeartbeats 8000000 in
set_option maxRecDepth 1000000 in
theorem at30_3 (hS : SB W g x r (cells10 ip hh vs0 vb0 vm0 ou inn rd stt cd) (cells10 ip hh (.slice so n sc) (.slice bo nb bc) (.slice mo nm mc) ou inn rd stt cd) (.slice so n sc) (.slice bo nb bc) (.slice mo nm mc) st bk me w) (hn : st.length = n) (hnb : bk.length = nb) (hnm : me.length = nm) (l1 : n ≤ 48) (l2 : nb ≤ 48) (l3 : nm ≤ 3000) (rs : ReadsC W vs0 st) (rb : ReadsC W vb0 bk) (rm : ReadsC W vm0 me) (j0 : 0 ≤ ip) (j1 : ip < (nm : Int)) (rd0 : 0 ≤ rd) (rd1 : rd ≤ (inn.size : Int)) (ou1 : ou.size ≤ 2000) (in1 : inn.size ≤ maxLen) (cl : Cells ⟨ip, hh, st, bk, me, ou, inn, rd, stt, cd⟩) (k : Nat) (hk : k < 48) (P : Nat) (hP : (P : Int) + (movesOf k).1 = (n : Int)) (hb : (movesOf k).2.1 ≤ (nb : Int)) (N : Nat) (hn0 : N + 3 = n) (v12 v13 v14 : Value) :
    At 30 w g x r k arg (movesOf k).1 n nb v12 v13 v14 (TellsK vs0 vb0 vm0 ⟨ip, hh, st, bk, me, ou, inn, rd, stt, cd⟩ (exec k ⟨ip, hh, st, bk, me, ou, inn, rd, stt, cd⟩ (ip + (if argOf k = true then 2 else 1)) arg) W) := by
  obtain ⟨p, hp⟩ : ∃ z, nth st 0 = z := ⟨_, rfl⟩
  obtain ⟨q, hq⟩ : ∃ z, nth st 1 = z := ⟨_, rfl⟩
  obtain ⟨r3, hr3⟩ : ∃ z, nth st 2 = z := ⟨_, rfl⟩
  have HG := Lib.hid (Got.mk hS hn hnb hnm l1 l2 l3 rs rb rm hp hq hr3 j0 j1 rd0 rd1 ou1 in1 cl)
  have HS := Lib.hid hS
  have HK := Lib.hid (And.intro hP (And.intro hb hk))
  obtain ⟨gs, cs, es, -⟩ := owns_slice hS.st (by rw [hn]; omega)
  simp only [Value.slice.injEq] at es
  obtain ⟨rfl, -, rfl⟩ := es
  obtain ⟨N2, hN2⟩ : ∃ z, N + 2 = z := ⟨_, rfl⟩
  have HU0 := Lib.hid (show st[N2]? = some p by rw [← hp]; exact nth_get hn (by omega))
  have x0 : (n : Int) - 1 = (N2 : Int) := by omega
  have y0 : (0 : Int) ≤ (N2 : Int) := Int.natCast_nonneg _
  have z0 : (N2 : Int) < (n : Int) := by omega
  obtain ⟨N1, hN1⟩ : ∃ z, N + 1 = z := ⟨_, rfl⟩
  have HU1 := Lib.hid (show st[N1]? = some q by rw [← hq]; exact nth_get hn (by omega))
  have x1 : (n : Int) - 2 = (N1 : Int) := by omega
  have y1 : (0 : Int) ≤ (N1 : Int) := Int.natCast_nonneg _
  have z1 : (N1 : Int) < (n : Int) := by omega
  have HU2 := Lib.hid (show st[N]? = some r3 by rw [← hr3]; exact nth_get hn (by omega))
  have x2 : (n : Int) - 3 = (N : Int) := by omega
  have y2 : (0 : Int) ≤ (N : Int) := Int.natCast_nonneg _
  have z2 : (N : Int) < (n : Int) := by omega
  have t0 : (2 : Int) < (n : Int) := by omega
  obtain ⟨A, hA⟩ : ∃ A, (movesOf k).1 = A := ⟨_, rfl⟩
  have HA := Lib.hid hA
  rw [hA]
  clear hS hn hnb hnm rs rb rm hP hb hk hA
  unfold At
  intros
  conv => arg 2; whnf
  go_upto_if 154 with (first
    | (refine ld_ints (by rfl) _ rfl _ rfl _ (whole_cell HS.out.hx rfl) ?_)
    | (refine ld_int (by rfl) _ rfl _ rfl _ (HS.out.atS HU0.out) ?_)
    | (refine ld_int (by rfl) _ rfl _ rfl _ (HS.out.atS HU1.out) ?_)
    | (refine ld_int (by rfl) _ rfl _ rfl _ (HS.out.atS HU2.out) ?_))
  rename_i K9 hK9
  have HK9 := Lib.hid hK9
  clear hK9
  refine wp_cond_true (by rfl) ?_
  go_wp2_with (first
    | (refine ld_ints (by rfl) _ rfl _ rfl _ (whole_cell HS.out.hx rfl) ?_)
    | (refine ld_int (by rfl) _ rfl _ rfl _ (HS.out.atS HU0.out) ?_)
    | (refine ld_int (by rfl) _ rfl _ rfl _ (HS.out.atS HU1.out) ?_)
    | (refine ld_int (by rfl) _ rfl _ rfl _ (HS.out.atS HU2.out) ?_))
  refine HK9.out _ _ ?_
  refine At.use (j := 37) ?_
  rw [← HA.out]
  unfold At
  intros
  rcases Bool.eq_false_or_eq_true (argOf k) with ha | ha
  · exact at37_yes (arg := arg) HG.out k HK.out.2.2 P HK.out.1 HK.out.2.1 ha
  · exact at37_no (arg := arg) HG.out k HK.out.2.2 P HK.out.1 HK.out.2.1 ha
end
end Go.Proofs.YtcffbeihgchpgaaGreatDoor.Inn
