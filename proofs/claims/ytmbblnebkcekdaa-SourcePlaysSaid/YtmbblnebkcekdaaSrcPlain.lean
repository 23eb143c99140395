
/- A text that is read word by word: plain facts; no program in sight. -/
import Derived.WalkKit
import Derived.Lib.BytesEntry
namespace Go.Proofs.Ytmbblnebkcekdaa.Src
set_option linter.unusedVariables false
/-- is a byte a blank? -/
def isBlank (c : UInt8) : Bool := decide (c.toNat ≤ 32)
def noBlank (c : UInt8) : Bool := !isBlank c
/-- the first place from a on of which p is told; the end, if there is none -/
def firstFrom (t : ByteArray) (p : UInt8 → Bool) (a : Nat) : Nat := a + ((t.data.toList.drop a).takeWhile fun c => !p c).length
theorem len_is (s : ByteArray) : s.data.toList.length = s.size := Array.length_toList
theorem byte_drop (t : ByteArray) {a : Nat} (h : a < t.size) : t.data.toList.drop a = t[a] :: t.data.toList.drop (a + 1) := by
  rw [List.drop_eq_getElem_cons (by rw [len_is]; exact h)]
  rfl
theorem ff_step {t : ByteArray} {p : UInt8 → Bool} {a : Nat} (h : a < t.size) (hp : p t[a] = false) : firstFrom t p a = firstFrom t p (a + 1) := by
  unfold firstFrom
  rw [byte_drop t h, List.takeWhile_cons, if_pos (by rw [hp]; rfl), List.length_cons]
  omega
theorem ff_hit {t : ByteArray} {p : UInt8 → Bool} {a : Nat} (h : a < t.size) (hp : p t[a] = true) : firstFrom t p a = a := by
  unfold firstFrom
  rw [byte_drop t h, List.takeWhile_cons, if_neg (by rw [hp]; decide)]
  rfl
theorem ff_end {t : ByteArray} {p : UInt8 → Bool} {a : Nat} (h : t.size ≤ a) : firstFrom t p a = a := by
  unfold firstFrom
  rw [List.drop_eq_nil_of_le (by rw [len_is]; exact h)]
  rfl
theorem ff_ge (t : ByteArray) (p : UInt8 → Bool) (a : Nat) : a ≤ firstFrom t p a := Nat.le_add_right _ _
/-- all that is told of it, at once -/
theorem ff_all (t : ByteArray) (p : UInt8 → Bool) : ∀ n a, t.size - a = n → a ≤ t.size → firstFrom t p a ≤ t.size ∧ (∀ j (hj : j < t.size), a ≤ j → j < firstFrom t p a → p t[j] = false) ∧ (∀ h : firstFrom t p a < t.size, p (t[firstFrom t p a]'h) = true) := by
  intro n
  induction n with
  | zero =>
    intro a hn ha
    rw [ff_end (by omega)]
    exact ⟨ha, fun j hj h1 h2 => by omega, fun h => by omega⟩
  | succ n ih =>
    intro a hn ha
    have hlt : a < t.size := by omega
    cases hp : p t[a] with
    | false =>
      have hs := ff_step (p := p) hlt hp
      obtain ⟨h1, h2, h3⟩ := ih (a + 1) (by omega) (by omega)
      refine ⟨by rw [hs]; exact h1, fun j hj g1 g2 => ?_, fun h => ?_⟩
      · rw [hs] at g2
        by_cases e : j = a
        · subst e; exact hp
        · exact h2 j hj (by omega) g2
      · have h' : firstFrom t p (a + 1) < t.size := by rw [← hs]; exact h
        have := h3 h'
        simpa [hs] using this
    | true =>
      have hs := ff_hit (p := p) hlt hp
      refine ⟨by rw [hs]; exact ha, fun j hj g1 g2 => by omega, fun h => ?_⟩
      simpa [hs] using hp
theorem ff_le {t : ByteArray} {p : UInt8 → Bool} {a : Nat} (h : a ≤ t.size) : firstFrom t p a ≤ t.size := (ff_all t p _ a rfl h).1
theorem ff_before {t : ByteArray} {p : UInt8 → Bool} {a : Nat} (h : a ≤ t.size) {j : Nat} (hj : j < t.size) (h1 : a ≤ j) (h2 : j < firstFrom t p a) : p t[j] = false := (ff_all t p _ a rfl h).2.1 j hj h1 h2
theorem ff_at {t : ByteArray} {p : UInt8 → Bool} {a : Nat} (h : a ≤ t.size) (h1 : firstFrom t p a < t.size) : p t[firstFrom t p a] = true := (ff_all t p _ a rfl h).2.2 h1
/-- a place is the first one -/
theorem ff_is {t : ByteArray} {p : UInt8 → Bool} {a k : Nat} (ha : a ≤ k) (hk : k ≤ t.size) (hb : ∀ j (hj : j < t.size), a ≤ j → j < k → p t[j] = false) (hat : ∀ h : k < t.size, p (t[k]'h) = true) : firstFrom t p a = k := by
  have h := ff_all t p _ a rfl (Nat.le_trans ha hk)
  rcases Nat.lt_trichotomy (firstFrom t p a) k with hlt | e | hgt
  · have h1 := h.2.2 (by omega)
    have h2 := hb _ (by omega) (ff_ge t p a) hlt
    rw [h1] at h2; cases h2
  · exact e
  · have h1 := hat (by omega)
    have h2 := h.2.1 k (by omega) ha hgt
    rw [h1] at h2; cases h2
/-- the next word: where it begins and ends, where one goes on, whether there is one -/
def wFrom (t : ByteArray) (a : Nat) : Nat := firstFrom t noBlank a
def wTo (t : ByteArray) (a : Nat) : Nat := firstFrom t isBlank (wFrom t a)
def wAt (t : ByteArray) (a : Nat) : Nat := min (wTo t a + 1) t.size
def wB (t : ByteArray) (a : Nat) : Bool := decide (wFrom t a < t.size)
def wS (t : ByteArray) (a : Nat) : ByteArray := t.extract (wFrom t a) (wTo t a)
/-- up to a byte -/
def uTo (t : ByteArray) (a : Nat) (c : UInt8) : Nat := firstFrom t (fun x => x == c) a
def uAt (t : ByteArray) (a : Nat) (c : UInt8) : Nat := min (uTo t a c + 1) t.size
def uB (t : ByteArray) (a : Nat) (c : UInt8) : Bool := decide (uTo t a c < t.size)
def uS (t : ByteArray) (a : Nat) (c : UInt8) : ByteArray := t.extract a (uTo t a c)
section
variable {t : ByteArray} {a : Nat} (h : a ≤ t.size)
include h
theorem wFrom_le : wFrom t a ≤ t.size := ff_le h
theorem wTo_le : wTo t a ≤ t.size := ff_le (ff_le h)
theorem wAt_ge : a ≤ wAt t a := by
  have h1 := ff_ge t noBlank a
  have h2 := ff_ge t isBlank (wFrom t a)
  unfold wAt wTo
  unfold wFrom at h2 ⊢
  omega
omit h in
theorem wFrom_wTo : wFrom t a ≤ wTo t a := ff_ge t isBlank (wFrom t a)
omit h in
theorem wAt_le : wAt t a ≤ t.size := Nat.min_le_right _ _
theorem wTo_yes (hb : wB t a = true) : wFrom t a < wTo t a := by
  have h1 : wFrom t a < t.size := of_decide_eq_true hb
  have h2 := ff_at (p := noBlank) h h1
  rcases Nat.lt_or_ge (wFrom t a) (wTo t a) with g | g
  · exact g
  · have e : wTo t a = wFrom t a := Nat.le_antisymm g wFrom_wTo
    have h3 : firstFrom t isBlank (wFrom t a) < t.size := by show wTo t a < _; omega
    have h4 := ff_at (p := isBlank) (ff_le h) h3
    have h5 : isBlank t[wFrom t a] = true := by
      have key : ∀ n (hn : n < t.size), n = wFrom t a → isBlank (t[n]'hn) = true → isBlank t[wFrom t a] = true := by
        intro n hn e1 h6
        subst e1
        exact h6
      exact key _ h3 e h4
    have h6 : noBlank t[wFrom t a] = true := h2
    unfold noBlank at h6
    rw [h5] at h6; cases h6
theorem wAt_yes (hb : wB t a = true) : a < wAt t a := by
  have h1 := wTo_yes h hb
  have h2 := ff_ge t noBlank a
  have h3 := wTo_le h
  have h4 : a ≤ wFrom t a := h2
  unfold wAt
  omega
omit h in
theorem wS_size (h : a ≤ t.size) : (wS t a).size = wTo t a - wFrom t a := by
  unfold wS
  rw [ByteArray.size_extract]
  have := wTo_le h
  omega
theorem wS_no (hb : wB t a = false) : wS t a = ⟨#[]⟩ ∧ wAt t a = t.size := by
  have h1 : ¬ wFrom t a < t.size := of_decide_eq_false hb
  have h2 := wFrom_le h
  have h3 := wTo_le h
  have h4 := wFrom_wTo (t := t) (a := a)
  have e1 : wFrom t a = t.size := by omega
  have e2 : wTo t a = t.size := by omega
  refine ⟨?_, by unfold wAt; omega⟩
  have := wS_size h
  rw [e1, e2, Nat.sub_self] at this
  exact ByteArray.ext (Array.eq_empty_of_size_eq_zero this)
theorem wS_yes (hb : wB t a = true) : wS t a ≠ ⟨#[]⟩ := fun e => by
  have h1 := wS_size h
  rw [e] at h1
  have h2 := wTo_yes h hb
  have h3 : (⟨#[]⟩ : ByteArray).size = 0 := rfl
  omega
theorem wS_byte {j : Nat} (hj : j < (wS t a).size) : isBlank (wS t a)[j] = false := by
  have h1 := wS_size h
  have h3 := wTo_le h
  have hj' : j < (t.extract (wFrom t a) (wTo t a)).size := hj
  show isBlank ((t.extract (wFrom t a) (wTo t a))[j]'hj') = false
  rw [ByteArray.getElem_extract]
  exact ff_before (p := isBlank) (ff_le h) (by omega) (by show wFrom t a ≤ _; omega) (by show _ < wTo t a; omega)
omit h in
theorem uTo_ge (c : UInt8) : a ≤ uTo t a c := ff_ge t _ a
theorem uTo_le (c : UInt8) : uTo t a c ≤ t.size := ff_le h
omit h in
theorem uAt_le (c : UInt8) : uAt t a c ≤ t.size := Nat.min_le_right _ _
end
end Go.Proofs.Ytmbblnebkcekdaa.Src
