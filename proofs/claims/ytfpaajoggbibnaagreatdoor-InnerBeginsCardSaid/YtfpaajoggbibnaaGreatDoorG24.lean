/- What machines with such code come to (stacks, memory, a word that is called); no code of the program in sight. -/
import Derived.Test.YtfpaajoggbibnaaGreatDoorG23
import Derived.Test.YtfpaajoggbibnaaGreatDoorG20
import Derived.Test.YtfpaajoggbibnaaGreatDoorG21
import Derived.Test.YtfpaajoggbibnaaGreatDoorG22
namespace Go.Proofs.YtfpaajoggbibnaaGreatDoor.Mach
open Go.RowKit (wrap64)
open Go.Proofs.YtfpaajoggbibnaaGreatDoor.Cell (In)
open Go.Proofs.YtfpaajoggbibnaaGreatDoor.Inn (bootM bootMem bootMem_length)
set_option linter.unusedVariables false
set_option linter.unusedSimpArgs false
/-- a word is called, lays a number on, and comes back -/
theorem called {m : M} {at' : Nat} {v : Int} (h64 : 64 ≤ at') (hat : at' + 5 ≤ m.mem.length) (hs : m.stack.length < 48) (hb : m.back.length < 48) (x : M)
    (hx : x = { m with mem := (((m.mem.set at' 2).set (at' + 1) v).set (at' + 2) 5).set 0 at', ip := 0, status := 0 }) :
    run 3 x = ({ x with ip := 1, stack := m.stack ++ [v] }, 0) := by
  have hl : x.mem.length = m.mem.length := by rw [hx]; simp
  have e0 : x.mem[0]? = some (at' : Int) := by rw [hx]; exact List.getElem?_set_self (by simp only [List.length_set]; omega)
  have e1 : x.mem[at']? = some 2 := by rw [hx]; show ((((m.mem.set at' 2).set (at' + 1) v).set (at' + 2) 5).set 0 (at' : Int))[at']? = _; rw [List.getElem?_set_ne (by omega), List.getElem?_set_ne (by omega), List.getElem?_set_ne (by omega), List.getElem?_set_self (by omega)]
  have e2 : x.mem[at' + 1]? = some v := by rw [hx]; show ((((m.mem.set at' 2).set (at' + 1) v).set (at' + 2) 5).set 0 (at' : Int))[at' + 1]? = _; rw [List.getElem?_set_ne (by omega), List.getElem?_set_ne (by omega), List.getElem?_set_self (by simp; omega)]
  have e3 : x.mem[at' + 2]? = some 5 := by rw [hx]; show ((((m.mem.set at' 2).set (at' + 1) v).set (at' + 2) 5).set 0 (at' : Int))[at' + 2]? = _; rw [List.getElem?_set_ne (by omega), List.getElem?_set_self (by simp; omega)]
  have x0 : x.status = 0 := by rw [hx]
  have xi : x.ip = 0 := by rw [hx]
  have xs : x.stack = m.stack := by rw [hx]
  have xb : x.back = m.back := by rw [hx]
  have s1 : step x = T x at' m.stack (m.back ++ [((1 : Nat) : Int)]) := by
    have hg : x.mem.getD x.ip.toNat 0 = (at' : Int) := by rw [xi, List.getD_eq_getElem?_getD]; show (x.mem[0]?).getD 0 = _; rw [e0]; rfl
    unfold step
    rw [if_neg (by omega), if_neg (by omega)]
    simp only [hg]
    rw [if_pos (by omega), if_neg (by rw [xb]; omega), xi, xb]
    have : wrap64 (0 + 1) = ((1 : Nat) : Int) := by unfold wrap64; omega
    rw [this]
    unfold T
    rw [xs]
  have s2 : step (T x at' m.stack (m.back ++ [((1 : Nat) : Int)])) = T x (at' + 2) (m.stack ++ [v]) (m.back ++ [((1 : Nat) : Int)]) :=
    go_lit x0 e1 e2 (by omega) (by rw [List.length_append, List.length_singleton]; omega)
  have s3 : step (T x (at' + 2) (m.stack ++ [v]) (m.back ++ [((1 : Nat) : Int)])) = T x 1 (m.stack ++ [v]) m.back :=
    go_exit x0 e3 (by rw [List.length_append, List.length_singleton]; omega) (by omega)
  rw [run_one x0 s1, run_one (show (T x at' _ _).status = 0 from x0) s2, run_one (show (T x _ _ _).status = 0 from x0) s3]
  show (T x 1 (m.stack ++ [v]) m.back, 0) = _
  unfold T
  rw [← xb]
  rfl
/-- the memory of a machine of no code but what is laid there -/
def plainMem (code : List Int) : List Int := lay (bootMem 48 400) 200 (code.take 150)
def plainX (inp : ByteArray) (mem : List Int) : M := ⟨0, 0, [], [], mem, ⟨#[]⟩, inp, 0, 0, 0⟩
theorem plainMem_length (code : List Int) : (plainMem code).length = 400 := by unfold plainMem; rw [lay_length, bootMem_length]
theorem plainMem_at {code : List Int} (h : code.length ≤ 150) {j : Nat} (hj : j < code.length) : (plainMem code)[200 + j]? = code[j]? := by
  unfold plainMem
  rw [List.take_of_length_le h, lay_at _ _ _ hj (by rw [bootMem_length]; omega)]
section
variable {p bk : List Int} {a b c : Int}
theorem stays_swap (hp : p.length ≤ 30) (hb : bk.length ≤ 40) : run 2 (T (plainX ⟨#[]⟩ (plainMem [8, 8])) 200 (p ++ [a] ++ [b] ++ [c]) bk) = (T (plainX ⟨#[]⟩ (plainMem [8, 8])) 202 (p ++ [a] ++ [b] ++ [c]) bk, 0) := by
  have A := fun j => @plainMem_at [8, 8] (by decide) j
  rw [run_one rfl (go_swap (x := plainX ⟨#[]⟩ (plainMem [8, 8])) rfl (A 0 (by decide)) (by simp; omega) (by omega)),
    run_one rfl (go_swap (x := plainX ⟨#[]⟩ (plainMem [8, 8])) rfl (A 1 (by decide)) (by simp; omega) (by omega))]
  rfl
theorem stays_rot (hp : p.length ≤ 30) (hb : bk.length ≤ 40) : run 3 (T (plainX ⟨#[]⟩ (plainMem [10, 10, 10])) 200 (p ++ [a] ++ [b] ++ [c]) bk) = (T (plainX ⟨#[]⟩ (plainMem [10, 10, 10])) 203 (p ++ [a] ++ [b] ++ [c]) bk, 0) := by
  have A := fun j => @plainMem_at [10, 10, 10] (by decide) j
  rw [run_one rfl (go_rot (x := plainX ⟨#[]⟩ (plainMem [10, 10, 10])) rfl (A 0 (by decide)) (by omega) (by omega)),
    run_one rfl (go_rot (x := plainX ⟨#[]⟩ (plainMem [10, 10, 10])) rfl (A 1 (by decide)) (by omega) (by omega)),
    run_one rfl (go_rot (x := plainX ⟨#[]⟩ (plainMem [10, 10, 10])) rfl (A 2 (by decide)) (by omega) (by omega))]
  rfl
theorem stays_dup (hp : p.length ≤ 30) (hb : bk.length ≤ 40) : run 2 (T (plainX ⟨#[]⟩ (plainMem [6, 7])) 200 (p ++ [a] ++ [b] ++ [c]) bk) = (T (plainX ⟨#[]⟩ (plainMem [6, 7])) 202 (p ++ [a] ++ [b] ++ [c]) bk, 0) := by
  have A := fun j => @plainMem_at [6, 7] (by decide) j
  rw [run_one rfl (go_dup (x := plainX ⟨#[]⟩ (plainMem [6, 7])) rfl (A 0 (by decide)) (by simp; omega) (by omega)),
    run_one rfl (go_drop (x := plainX ⟨#[]⟩ (plainMem [6, 7])) rfl (A 1 (by decide)) (by simp; omega) (by omega))]
  rfl
theorem stays_over (hp : p.length ≤ 30) (hb : bk.length ≤ 40) : run 2 (T (plainX ⟨#[]⟩ (plainMem [9, 7])) 200 (p ++ [a] ++ [b] ++ [c]) bk) = (T (plainX ⟨#[]⟩ (plainMem [9, 7])) 202 (p ++ [a] ++ [b] ++ [c]) bk, 0) := by
  have A := fun j => @plainMem_at [9, 7] (by decide) j
  rw [run_one rfl (go_over (x := plainX ⟨#[]⟩ (plainMem [9, 7])) rfl (A 0 (by decide)) (by simp; omega) (by omega)),
    run_one rfl (go_drop (x := plainX ⟨#[]⟩ (plainMem [9, 7])) rfl (A 1 (by decide)) (by simp; omega) (by omega))]
  rfl
theorem stays_back (hp : p.length ≤ 30) (hb : bk.length ≤ 40) : run 2 (T (plainX ⟨#[]⟩ (plainMem [33, 34])) 200 (p ++ [a] ++ [b] ++ [c]) bk) = (T (plainX ⟨#[]⟩ (plainMem [33, 34])) 202 (p ++ [a] ++ [b] ++ [c]) bk, 0) := by
  have A := fun j => @plainMem_at [33, 34] (by decide) j
  rw [run_one rfl (go_tob (x := plainX ⟨#[]⟩ (plainMem [33, 34])) rfl (A 0 (by decide)) (by simp; omega) (by omega)),
    run_one rfl (go_fromb (x := plainX ⟨#[]⟩ (plainMem [33, 34])) rfl (A 1 (by decide)) (by simp; omega) (by omega))]
  rfl
theorem neg_neg {c : Int} (h : In c) : wrap64 (-wrap64 (-c)) = c := by unfold In at h; unfold wrap64; omega
theorem stays_neg (hp : p.length ≤ 30) (hb : bk.length ≤ 40) (hc : In c) : run 2 (T (plainX ⟨#[]⟩ (plainMem [16, 16])) 200 (p ++ [a] ++ [b] ++ [c]) bk) = (T (plainX ⟨#[]⟩ (plainMem [16, 16])) 202 (p ++ [a] ++ [b] ++ [c]) bk, 0) := by
  have A := fun j => @plainMem_at [16, 16] (by decide) j
  rw [run_one rfl (go_neg (x := plainX ⟨#[]⟩ (plainMem [16, 16])) rfl (A 0 (by decide)) (by simp; omega) (by omega)),
    run_one rfl (go_neg (x := plainX ⟨#[]⟩ (plainMem [16, 16])) rfl (A 1 (by decide)) (by simp; omega) (by omega)), neg_neg hc]
  rfl
theorem stays_inv (hp : p.length ≤ 30) (hb : bk.length ≤ 40) : run 2 (T (plainX ⟨#[]⟩ (plainMem [20, 20])) 200 (p ++ [a] ++ [b] ++ [c]) bk) = (T (plainX ⟨#[]⟩ (plainMem [20, 20])) 202 (p ++ [a] ++ [b] ++ [c]) bk, 0) := by
  have A := fun j => @plainMem_at [20, 20] (by decide) j
  rw [run_one rfl (go_inv (x := plainX ⟨#[]⟩ (plainMem [20, 20])) rfl (A 0 (by decide)) (by simp; omega) (by omega)),
    run_one rfl (go_inv (x := plainX ⟨#[]⟩ (plainMem [20, 20])) rfl (A 1 (by decide)) (by simp; omega) (by omega)), show -1 - (-1 - c) = c by omega]
  rfl
theorem stays_lit (hp : p.length ≤ 30) (hb : bk.length ≤ 40) : run 2 (T (plainX ⟨#[]⟩ (plainMem [2, b, 7])) 200 (p ++ [a] ++ [b] ++ [c]) bk) = (T (plainX ⟨#[]⟩ (plainMem [2, b, 7])) 203 (p ++ [a] ++ [b] ++ [c]) bk, 0) := by
  have A := fun j => @plainMem_at [2, b, 7] (by simp) j
  rw [run_one rfl (go_lit (x := plainX ⟨#[]⟩ (plainMem [2, b, 7])) rfl (A 0 (by simp)) (A 1 (by simp)) (by simp; omega) (by omega)),
    run_one rfl (go_drop (x := plainX ⟨#[]⟩ (plainMem [2, b, 7])) rfl (A 2 (by simp)) (by simp; omega) (by omega))]
  rfl
theorem stays_at (hp : p.length ≤ 30) (hb : bk.length ≤ 40) : run 4 (T (plainX ⟨#[]⟩ (plainMem [33, 35, 34, 7])) 200 (p ++ [a] ++ [b] ++ [c]) bk) = (T (plainX ⟨#[]⟩ (plainMem [33, 35, 34, 7])) 204 (p ++ [a] ++ [b] ++ [c]) bk, 0) := by
  have A := fun j => @plainMem_at [33, 35, 34, 7] (by decide) j
  rw [run_one rfl (go_tob (x := plainX ⟨#[]⟩ (plainMem [33, 35, 34, 7])) rfl (A 0 (by decide)) (by simp; omega) (by omega)),
    run_one rfl (go_atb (x := plainX ⟨#[]⟩ (plainMem [33, 35, 34, 7])) rfl (A 1 (by decide)) (by simp; omega) (by omega)),
    run_one rfl (go_fromb (x := plainX ⟨#[]⟩ (plainMem [33, 35, 34, 7])) rfl (A 2 (by decide)) (by simp; omega) (by omega)),
    run_one rfl (go_drop (x := plainX ⟨#[]⟩ (plainMem [33, 35, 34, 7])) rfl (A 3 (by decide)) (by simp; omega) (by omega))]
  rfl
theorem stays_two (hp : p.length ≤ 30) (hb : bk.length ≤ 40) : run 4 (T (plainX ⟨#[]⟩ (plainMem [9, 9, 7, 7])) 200 (p ++ [a] ++ [b] ++ [c]) bk) = (T (plainX ⟨#[]⟩ (plainMem [9, 9, 7, 7])) 204 (p ++ [a] ++ [b] ++ [c]) bk, 0) := by
  have A := fun j => @plainMem_at [9, 9, 7, 7] (by decide) j
  rw [run_one rfl (go_over (x := plainX ⟨#[]⟩ (plainMem [9, 9, 7, 7])) rfl (A 0 (by decide)) (by simp; omega) (by omega)),
    run_one rfl (go_over (x := plainX ⟨#[]⟩ (plainMem [9, 9, 7, 7])) rfl (A 1 (by decide)) (by simp; omega) (by omega)),
    run_one rfl (go_drop (x := plainX ⟨#[]⟩ (plainMem [9, 9, 7, 7])) rfl (A 2 (by decide)) (by simp; omega) (by omega)),
    run_one rfl (go_drop (x := plainX ⟨#[]⟩ (plainMem [9, 9, 7, 7])) rfl (A 3 (by decide)) (by simp; omega) (by omega))]
  rfl
end
/-- what is stored is fetched; what is added to a cell is there -/
theorem stored {at' : Nat} {v n : Int} (h : at' < 400) (hn : ¬ (200 ≤ at' ∧ at' < 220)) :
    run 8 (T (plainX ⟨#[]⟩ (plainMem [2, v, 2, at', 31, 2, n, 2, at', 32, 2, at', 30, 47])) 200 [] []) =
      (T (plainX ⟨#[]⟩ ((plainMem [2, v, 2, at', 31, 2, n, 2, at', 32, 2, at', 30, 47]).set at' (wrap64 (v + n)))) 213 [wrap64 (v + n)] [], 0) := by
  have A := fun j => @plainMem_at [2, v, 2, at', 31, 2, n, 2, at', 32, 2, at', 30, 47] (by simp) j
  have hl := plainMem_length [2, v, 2, at', 31, 2, n, 2, at', 32, 2, at', 30, 47]
  generalize hm : plainMem [2, v, 2, at', 31, 2, n, 2, at', 32, 2, at', 30, 47] = mem at *
  have A1 : ∀ j, j < 14 → (mem.set at' v)[200 + j]? = [2, v, 2, (at' : Int), 31, 2, n, 2, at', 32, 2, at', 30, 47][j]? := fun j hj => by rw [List.getElem?_set_ne (by omega)]; exact A j hj
  have A2 : ∀ j, j < 14 → ((mem.set at' v).set at' (wrap64 (v + n)))[200 + j]? = [2, v, 2, (at' : Int), 31, 2, n, 2, at', 32, 2, at', 30, 47][j]? := fun j hj => by rw [List.getElem?_set_ne (by omega)]; exact A1 j hj
  rw [show mem.set at' (wrap64 (v + n)) = (mem.set at' v).set at' (wrap64 (v + n)) by rw [List.set_set]]
  rw [run_one rfl (go_lit (x := plainX ⟨#[]⟩ mem) (l := []) (bk := []) rfl (A 0 (by simp)) (A 1 (by simp)) (by simp) (by simp)),
    run_one rfl (go_lit (x := plainX ⟨#[]⟩ mem) rfl (A 2 (by simp)) (A 3 (by simp)) (by simp) (by simp)),
    run_one rfl (go_store (x := plainX ⟨#[]⟩ mem) rfl (A 4 (by simp)) (show at' < mem.length by omega) (by simp) (by simp))]
  show run 5 (T (plainX ⟨#[]⟩ (mem.set at' v)) 205 [] []) = _
  rw [run_one rfl (go_lit (x := plainX ⟨#[]⟩ (mem.set at' v)) rfl (A1 5 (by simp)) (A1 6 (by simp)) (by simp) (by simp)),
    run_one rfl (go_lit (x := plainX ⟨#[]⟩ (mem.set at' v)) rfl (A1 7 (by simp)) (A1 8 (by simp)) (by simp) (by simp)),
    run_one rfl (go_addto (x := plainX ⟨#[]⟩ (mem.set at' v)) rfl (A1 9 (by simp)) (show (mem.set at' v)[at']? = some v from List.getElem?_set_self (by omega)) (by simp) (by simp))]
  show run 2 (T (plainX ⟨#[]⟩ ((mem.set at' v).set at' (wrap64 (v + n)))) 210 [] []) = _
  rw [run_one rfl (go_lit (x := plainX ⟨#[]⟩ ((mem.set at' v).set at' (wrap64 (v + n)))) rfl (A2 10 (by simp)) (A2 11 (by simp)) (by simp) (by simp)),
    run_one rfl (go_fetch (x := plainX ⟨#[]⟩ ((mem.set at' v).set at' (wrap64 (v + n)))) rfl (A2 12 (by simp)) (show ((mem.set at' v).set at' (wrap64 (v + n)))[at']? = some (wrap64 (v + n)) from List.getElem?_set_self (by rw [List.length_set]; omega)) (by simp) (by simp))]
  rfl
end Go.Proofs.YtfpaajoggbibnaaGreatDoor.Mach
/- What machines with such code come to (loops, words that are caught, bytes that are told and asked for); no code of the program in sight. -/
namespace Go.Proofs.YtfpaajoggbibnaaGreatDoor.Mach
open Go.RowKit (wrap64)
open Go.Proofs.YtfpaajoggbibnaaGreatDoor.Cell (In)
open Go.Proofs.YtfpaajoggbibnaaGreatDoor.Inn (bootM bootMem bootMem_length bootMem_at bootCell)
set_option linter.unusedVariables false
set_option linter.unusedSimpArgs false
/-- this code lies from j on -/
def At (mem : List Int) (j : Nat) (code : List Int) : Prop := ∀ i, i < code.length → mem[j + i]? = code[i]?
theorem At.one {mem : List Int} {j : Nat} {c : Int} {cs : List Int} (h : At mem j (c :: cs)) : mem[j]? = some c := h 0 (Nat.succ_pos _)
theorem At.rest {mem : List Int} {j : Nat} {c : Int} {cs : List Int} (h : At mem j (c :: cs)) : At mem (j + 1) cs := fun i hi => by
  have := h (i + 1) (by rw [List.length_cons]; omega)
  rw [show j + 1 + i = j + (i + 1) by omega]
  exact this
theorem At.left {mem : List Int} {j : Nat} {a b : List Int} (h : At mem j (a ++ b)) : At mem j a := fun i hi => by
  rw [h i (by rw [List.length_append]; omega), List.getElem?_append_left hi]
theorem At.right {mem : List Int} {j : Nat} {a b : List Int} (h : At mem j (a ++ b)) : At mem (j + a.length) b := fun i hi => by
  rw [Nat.add_assoc, h (a.length + i) (by rw [List.length_append]; omega), List.getElem?_append_right (by omega), Nat.add_sub_cancel_left]
theorem At.of_lay (mem : List Int) (b : Nat) (cs : List Int) (h : b + cs.length ≤ mem.length) : At (lay mem b cs) b cs := fun i hi => lay_at mem b cs hi (by omega)
theorem At.plain {code : List Int} (h : code.length ≤ 150) : At (plainMem code) 200 code := fun i hi => plainMem_at h hi
theorem At.on {mem : List Int} {j : Nat} {cs : List Int} (h : At mem j cs) (b : Nat) (ds : List Int) (hd : j + cs.length ≤ b) : At (lay mem b ds) j cs := fun i hi => by
  rw [lay_below _ _ _ (.inl (by omega))]
  exact h i hi
/-- numbers that are laid on one by one -/
theorem lits_run {x : M} (h0 : x.status = 0) (more : List Int) : ∀ (j : Nat) (l bk : List Int), At x.mem j (more.flatMap fun m => [2, m]) → l.length + more.length ≤ 48 → bk.length ≤ 48 → ∀ f, run (more.length + f) (T x j l bk) = run f (T x (j + 2 * more.length) (l ++ more) bk) := by
  induction more with
  | nil => intro j l bk _ _ _ f; rw [List.length_nil, Nat.zero_add, List.append_nil]; rfl
  | cons a more ih =>
    intro j l bk h hl hb f
    rw [List.flatMap_cons] at h
    rw [List.length_cons] at hl
    have h1 : At x.mem j (2 :: a :: (more.flatMap fun m => [2, m])) := h
    rw [List.length_cons, show more.length + 1 + f = (more.length + f) + 1 by omega, run_one (show (T x j l bk).status = 0 from h0) (go_lit h0 h1.one h1.rest.one (by omega) hb), ih (j + 2) (l ++ [a]) bk h1.rest.rest (by simp; omega) hb f]
    rw [List.append_assoc, show j + 2 + 2 * more.length = j + 2 * (more.length + 1) by omega]
    rfl
/-- rounds by steps -/
theorem ploop_rounds {x : M} (h0 : x.status = 0) {limit step : Int} (hc : At x.mem 207 [2, 1, 11, 2, step, 38, 207, 0]) (hs : 1 ≤ step ∧ step ≤ 60) (hlim : -1000 ≤ limit ∧ limit ≤ 1000) (f : Nat) :
    ∀ (n : Nat) (i idx : Int), -1000 ≤ idx → idx < limit → 0 ≤ i → i ≤ 100000 → limit ≤ idx + (n + 1) * step → idx + n * step < limit → n ≤ 100 → i + n + 1 ≤ 100000 →
      run (4 * (n + 1) + f) (T x 207 [i] [limit, idx]) = run f (T x 214 [i + n + 1] []) := by
  intro n
  induction n with
  | zero =>
    intro i idx h1 h2 h3 h4 h5 h6 _ _
    have e0 : wrap64 (i + 1) = i + 1 := by unfold wrap64; omega
    have e1 : wrap64 (idx - limit) = idx - limit := by unfold wrap64; omega
    have e2 : wrap64 (idx - limit + step) = idx - limit + step := by unfold wrap64; omega
    have hx : Cell.crosses (wrap64 (idx - limit)) step = true := by
      rw [e1, Cell.crosses_iff (by unfold Cell.In; omega) (by unfold Cell.In; omega), e2]
      omega
    have s1 : Mach.step (T x 207 [i] [limit, idx]) = T x 209 [i, 1] [limit, idx] := go_lit (l := [i]) h0 (hc 0 (by simp)) (hc 1 (by simp)) (by simp) (by simp)
    have s2 : Mach.step (T x 209 [i, 1] [limit, idx]) = T x 210 [wrap64 (i + 1)] [limit, idx] := go_add (l := []) h0 (hc 2 (by simp)) (by simp) (by simp)
    have s3 : Mach.step (T x 210 [wrap64 (i + 1)] [limit, idx]) = T x 212 [wrap64 (i + 1), step] [limit, idx] := go_lit (l := [wrap64 (i + 1)]) h0 (hc 3 (by simp)) (hc 4 (by simp)) (by simp) (by simp)
    have s4 : Mach.step (T x 212 [wrap64 (i + 1), step] [limit, idx]) = T x 214 [wrap64 (i + 1)] [] := (go_ploop (l := [wrap64 (i + 1)]) (bk := []) (n := 207) h0 (hc 5 (by simp)) (hc 6 (by simp)) (by simp) (by simp)).trans (by rw [if_pos hx])
    rw [show 4 * (0 + 1) + f = f + 1 + 1 + 1 + 1 by omega, run_one (show (T x 207 _ _).status = 0 from h0) s1, run_one (show (T x 209 _ _).status = 0 from h0) s2, run_one (show (T x 210 _ _).status = 0 from h0) s3, run_one (show (T x 212 _ _).status = 0 from h0) s4, e0]
    rw [show i + ((0 : Nat) : Int) + 1 = i + 1 by omega]
  | succ n ih =>
    intro i idx h1 h2 h3 h4 h5 h6 h7 h8
    obtain ⟨p, hp⟩ : ∃ p, (n : Int) * step = p := ⟨_, rfl⟩
    have hp0 : 0 ≤ p := by rw [← hp]; exact Int.mul_nonneg (by omega) (by omega)
    have q1 : ((n + 1 : Nat) : Int) * step = p + step := by rw [Int.natCast_add, Int.add_mul, hp]; show p + 1 * step = _; rw [Int.one_mul]
    have q2 : (((n + 1 : Nat) : Int) + 1) * step = p + step + step := by rw [Int.add_mul, q1, Int.one_mul]
    rw [q2] at h5
    rw [q1] at h6
    have e0 : wrap64 (i + 1) = i + 1 := by unfold wrap64; omega
    have e1 : wrap64 (idx - limit) = idx - limit := by unfold wrap64; omega
    have e2 : wrap64 (idx - limit + step) = idx - limit + step := by unfold wrap64; omega
    have e3 : wrap64 (idx + step) = idx + step := by unfold wrap64; omega
    have hx : ¬ Cell.crosses (wrap64 (idx - limit)) step = true := by
      rw [e1, Cell.crosses_iff (by unfold Cell.In; omega) (by unfold Cell.In; omega), e2]
      omega
    have s1 : Mach.step (T x 207 [i] [limit, idx]) = T x 209 [i, 1] [limit, idx] := go_lit (l := [i]) h0 (hc 0 (by simp)) (hc 1 (by simp)) (by simp) (by simp)
    have s2 : Mach.step (T x 209 [i, 1] [limit, idx]) = T x 210 [wrap64 (i + 1)] [limit, idx] := go_add (l := []) h0 (hc 2 (by simp)) (by simp) (by simp)
    have s3 : Mach.step (T x 210 [wrap64 (i + 1)] [limit, idx]) = T x 212 [wrap64 (i + 1), step] [limit, idx] := go_lit (l := [wrap64 (i + 1)]) h0 (hc 3 (by simp)) (hc 4 (by simp)) (by simp) (by simp)
    have s4 : Mach.step (T x 212 [wrap64 (i + 1), step] [limit, idx]) = T x 207 [wrap64 (i + 1)] [limit, wrap64 (idx + step)] := (go_ploop (l := [wrap64 (i + 1)]) (bk := []) (n := 207) h0 (hc 5 (by simp)) (hc 6 (by simp)) (by simp) (by simp)).trans (by rw [if_neg hx]; rfl)
    rw [show 4 * (n + 1 + 1) + f = (4 * (n + 1) + f) + 1 + 1 + 1 + 1 by omega, run_one (show (T x 207 _ _).status = 0 from h0) s1, run_one (show (T x 209 _ _).status = 0 from h0) s2, run_one (show (T x 210 _ _).status = 0 from h0) s3, run_one (show (T x 212 _ _).status = 0 from h0) s4, e0, e3]
    rw [ih (i + 1) (idx + step) (by omega) (by omega) (by omega) (by omega) (by rw [Int.add_mul, hp, Int.one_mul]; omega) (by rw [hp]; omega) (by omega) (by omega)]
    rw [show i + 1 + (n : Int) + 1 = i + ((n + 1 : Nat) : Int) + 1 by omega]
/-- rounds one by one -/
theorem loop_rounds {x : M} (h0 : x.status = 0) {limit : Int} (hc : At x.mem 207 [2, 1, 11, 37, 207, 0]) (hlim : -1000 ≤ limit ∧ limit ≤ 1000) (f : Nat) :
    ∀ (n : Nat) (i idx : Int), -1000 ≤ idx → limit = idx + n + 1 → 0 ≤ i → i + n + 1 ≤ 100000 →
      run (3 * (n + 1) + f) (T x 207 [i] [limit, idx]) = run f (T x 212 [i + n + 1] []) := by
  intro n
  induction n with
  | zero =>
    intro i idx h1 h2 h3 h4
    have e0 : wrap64 (i + 1) = i + 1 := by unfold wrap64; omega
    have hx : wrap64 (idx + 1) = limit := by unfold wrap64; omega
    have s1 : Mach.step (T x 207 [i] [limit, idx]) = T x 209 [i, 1] [limit, idx] := go_lit (l := [i]) h0 (hc 0 (by simp)) (hc 1 (by simp)) (by simp) (by simp)
    have s2 : Mach.step (T x 209 [i, 1] [limit, idx]) = T x 210 [wrap64 (i + 1)] [limit, idx] := go_add (l := []) h0 (hc 2 (by simp)) (by simp) (by simp)
    have s3 : Mach.step (T x 210 [wrap64 (i + 1)] [limit, idx]) = T x 212 [wrap64 (i + 1)] [] := (go_loop (l := [wrap64 (i + 1)]) (bk := []) (n := 207) h0 (hc 3 (by simp)) (hc 4 (by simp)) (by simp) (by simp)).trans (by rw [if_pos hx])
    rw [show 3 * (0 + 1) + f = f + 1 + 1 + 1 by omega, run_one (show (T x 207 _ _).status = 0 from h0) s1, run_one (show (T x 209 _ _).status = 0 from h0) s2, run_one (show (T x 210 _ _).status = 0 from h0) s3, e0]
    rw [show i + ((0 : Nat) : Int) + 1 = i + 1 by omega]
  | succ n ih =>
    intro i idx h1 h2 h3 h4
    have e0 : wrap64 (i + 1) = i + 1 := by unfold wrap64; omega
    have e3 : wrap64 (idx + 1) = idx + 1 := by unfold wrap64; omega
    have hx : ¬ wrap64 (idx + 1) = limit := by rw [e3]; omega
    have s1 : Mach.step (T x 207 [i] [limit, idx]) = T x 209 [i, 1] [limit, idx] := go_lit (l := [i]) h0 (hc 0 (by simp)) (hc 1 (by simp)) (by simp) (by simp)
    have s2 : Mach.step (T x 209 [i, 1] [limit, idx]) = T x 210 [wrap64 (i + 1)] [limit, idx] := go_add (l := []) h0 (hc 2 (by simp)) (by simp) (by simp)
    have s3 : Mach.step (T x 210 [wrap64 (i + 1)] [limit, idx]) = T x 207 [wrap64 (i + 1)] [limit, wrap64 (idx + 1)] := (go_loop (l := [wrap64 (i + 1)]) (bk := []) (n := 207) h0 (hc 3 (by simp)) (hc 4 (by simp)) (by simp) (by simp)).trans (by rw [if_neg hx]; rfl)
    rw [show 3 * (n + 1 + 1) + f = (3 * (n + 1) + f) + 1 + 1 + 1 by omega, run_one (show (T x 207 _ _).status = 0 from h0) s1, run_one (show (T x 209 _ _).status = 0 from h0) s2, run_one (show (T x 210 _ _).status = 0 from h0) s3, e0, e3]
    rw [ih (i + 1) (idx + 1) (by omega) (by omega) (by omega) (by omega)]
    rw [show i + 1 + (n : Int) + 1 = i + ((n + 1 : Nat) : Int) + 1 by omega]
/-- the end of a run -/
theorem run_halt {x : M} (h0 : x.status = 0) {j : Nat} (hx : x.mem[j]? = some 0) {l bk : List Int} (hs : l.length ≤ 48) (hb : bk.length ≤ 48) (f : Nat) : run (f + 1) (T x j l bk) = ({ T x j l bk with status := 1 }, f) := by
  rw [run_one (show (T x j l bk).status = 0 from h0) (go_halt h0 hx hs hb), run_still (by simp)]
/-- a loop from one number to another, by steps -/
theorem ploops {limit start step : Int} (h1 : -1000 ≤ start) (h2 : start < limit) (h3 : limit ≤ 1000) (h4 : 1 ≤ step) (h5 : step ≤ 60) (h6 : limit - start ≤ 60) :
    ∃ m k, run 2000 (T (plainX ⟨#[]⟩ (plainMem [2, 0, 2, limit, 2, start, 36, 2, 1, 11, 2, step, 38, 207, 0])) 200 [] []) = (m, k) ∧ m.status = 1 ∧ m.stack = [(limit - start + step - 1).tdiv step] ∧ m.back = [] := by
  have A : At (plainMem [2, 0, 2, limit, 2, start, 36, 2, 1, 11, 2, step, 38, 207, 0]) 200 [2, 0, 2, limit, 2, start, 36, 2, 1, 11, 2, step, 38, 207, 0] := At.plain (by simp)
  generalize plainMem [2, 0, 2, limit, 2, start, 36, 2, 1, 11, 2, step, 38, 207, 0] = mem at *
  obtain ⟨x, hx⟩ : ∃ x, plainX ⟨#[]⟩ mem = x := ⟨_, rfl⟩
  have h0 : x.status = 0 := by rw [← hx]; rfl
  have hm : x.mem = mem := by rw [← hx]; rfl
  rw [hx]
  rw [← hm] at A
  have B : At x.mem 207 [2, 1, 11, 2, step, 38, 207, 0] := At.right (a := [2, 0, 2, limit, 2, start, 36]) A
  have s1 : Mach.step (T x 200 [] []) = T x 202 [0] [] := go_lit (l := []) h0 (A 0 (by simp)) (A 1 (by simp)) (by simp) (by simp)
  have s2 : Mach.step (T x 202 [0] []) = T x 204 [0, limit] [] := go_lit (l := [0]) h0 (A 2 (by simp)) (A 3 (by simp)) (by simp) (by simp)
  have s3 : Mach.step (T x 204 [0, limit] []) = T x 206 [0, limit, start] [] := go_lit (l := [0, limit]) h0 (A 4 (by simp)) (A 5 (by simp)) (by simp) (by simp)
  have s4 : Mach.step (T x 206 [0, limit, start] []) = T x 207 [0] [limit, start] := go_do (l := [0]) (bk := []) h0 (A 6 (by simp)) (by simp) (by simp)
  obtain ⟨q, hq⟩ : ∃ q, (limit - start + step - 1) / step = q := ⟨_, rfl⟩
  have hd : (limit - start + step - 1).tdiv step = q := by rw [Int.tdiv_eq_ediv_of_nonneg (by omega), hq]
  have hm1 := Int.mul_ediv_add_emod (limit - start + step - 1) step
  have hm2 := Int.emod_nonneg (limit - start + step - 1) (show step ≠ 0 by omega)
  have hm3 := Int.emod_lt_of_pos (limit - start + step - 1) (show 0 < step by omega)
  rw [hq] at hm1
  obtain ⟨t, ht⟩ : ∃ t, step * q = t := ⟨_, rfl⟩
  rw [ht] at hm1
  have hq1 : 1 ≤ q := by rw [← hq]; exact (Int.le_ediv_iff_mul_le (by omega)).2 (by omega)
  have hq2 : q ≤ 60 := by
    rcases Int.lt_or_le 60 q with h | h
    · have : step * 61 ≤ step * q := Int.mul_le_mul_of_nonneg_left (by omega) (by omega)
      omega
    · exact h
  obtain ⟨n, rfl⟩ : ∃ n : Nat, q = n + 1 := ⟨(q - 1).toNat, by omega⟩
  have ht' : ((n : Int) + 1) * step = t := by rw [Int.mul_comm]; exact ht
  have ht2 : (n : Int) * step = t - step := by rw [Int.add_mul, Int.one_mul] at ht'; omega
  have R := ploop_rounds h0 B ⟨h4, h5⟩ ⟨by omega, h3⟩ (1996 - 4 * (n + 1)) n 0 start h1 h2 (by simp) (by simp) (by rw [ht']; omega) (by rw [ht2]; omega) (by omega) (by omega)
  refine ⟨{ T x 214 [(0 : Int) + n + 1] [] with status := 1 }, 1995 - 4 * (n + 1), ?_, ?_⟩
  · rw [show 2000 = 1996 + 1 + 1 + 1 + 1 by rfl, run_one (show (T x 200 _ _).status = 0 from h0) s1, run_one (show (T x 202 _ _).status = 0 from h0) s2, run_one (show (T x 204 _ _).status = 0 from h0) s3, run_one (show (T x 206 _ _).status = 0 from h0) s4]
    rw [show run 1996 (T x 207 [0] [limit, start]) = run (4 * (n + 1) + (1996 - 4 * (n + 1))) (T x 207 [0] [limit, start]) by congr 1; omega, R]
    rw [show 1996 - 4 * (n + 1) = (1995 - 4 * (n + 1)) + 1 by omega]
    exact run_halt h0 (A 14 (by simp)) (by simp) (by simp) _
  · exact ⟨rfl, by show [(0 : Int) + n + 1] = _; rw [hd, Int.zero_add], rfl⟩
/-- .. one by one -/
theorem loops {limit start : Int} (h1 : -1000 ≤ start) (h2 : start < limit) (h3 : limit ≤ 1000) (h6 : limit - start ≤ 60) :
    ∃ m k, run 2000 (T (plainX ⟨#[]⟩ (plainMem [2, 0, 2, limit, 2, start, 36, 2, 1, 11, 37, 207, 0])) 200 [] []) = (m, k) ∧ m.status = 1 ∧ m.stack = [limit - start] ∧ m.back = [] := by
  have A : At (plainMem [2, 0, 2, limit, 2, start, 36, 2, 1, 11, 37, 207, 0]) 200 [2, 0, 2, limit, 2, start, 36, 2, 1, 11, 37, 207, 0] := At.plain (by simp)
  generalize plainMem [2, 0, 2, limit, 2, start, 36, 2, 1, 11, 37, 207, 0] = mem at *
  obtain ⟨x, hx⟩ : ∃ x, plainX ⟨#[]⟩ mem = x := ⟨_, rfl⟩
  have h0 : x.status = 0 := by rw [← hx]; rfl
  have hm : x.mem = mem := by rw [← hx]; rfl
  rw [hx]
  rw [← hm] at A
  have B : At x.mem 207 [2, 1, 11, 37, 207, 0] := At.right (a := [2, 0, 2, limit, 2, start, 36]) A
  have s1 : Mach.step (T x 200 [] []) = T x 202 [0] [] := go_lit (l := []) h0 (A 0 (by simp)) (A 1 (by simp)) (by simp) (by simp)
  have s2 : Mach.step (T x 202 [0] []) = T x 204 [0, limit] [] := go_lit (l := [0]) h0 (A 2 (by simp)) (A 3 (by simp)) (by simp) (by simp)
  have s3 : Mach.step (T x 204 [0, limit] []) = T x 206 [0, limit, start] [] := go_lit (l := [0, limit]) h0 (A 4 (by simp)) (A 5 (by simp)) (by simp) (by simp)
  have s4 : Mach.step (T x 206 [0, limit, start] []) = T x 207 [0] [limit, start] := go_do (l := [0]) (bk := []) h0 (A 6 (by simp)) (by simp) (by simp)
  obtain ⟨n, hn⟩ : ∃ n : Nat, limit - start = n + 1 := ⟨(limit - start - 1).toNat, by omega⟩
  have R := loop_rounds h0 B ⟨by omega, h3⟩ (1996 - 3 * (n + 1)) n 0 start h1 (by omega) (by simp) (by omega)
  refine ⟨{ T x 212 [(0 : Int) + n + 1] [] with status := 1 }, 1995 - 3 * (n + 1), ?_, ?_⟩
  · rw [show 2000 = 1996 + 1 + 1 + 1 + 1 by rfl, run_one (show (T x 200 _ _).status = 0 from h0) s1, run_one (show (T x 202 _ _).status = 0 from h0) s2, run_one (show (T x 204 _ _).status = 0 from h0) s3, run_one (show (T x 206 _ _).status = 0 from h0) s4]
    rw [show run 1996 (T x 207 [0] [limit, start]) = run (3 * (n + 1) + (1996 - 3 * (n + 1))) (T x 207 [0] [limit, start]) by congr 1; omega, R]
    rw [show 1996 - 3 * (n + 1) = (1995 - 3 * (n + 1)) + 1 by omega]
    exact run_halt h0 (A 12 (by simp)) (by simp) (by simp) _
  · exact ⟨rfl, by show [(0 : Int) + n + 1] = _; rw [hn, Int.zero_add], rfl⟩
/-- a word that is caught: its memory -/
def catchMem (more : List Int) (v : Int) : List Int := lay (plainMem [2, 220, 46, 3, 205]) 220 ((more.flatMap fun m => [2, m]) ++ [2, v, 45, 5])
theorem pairs_length (more : List Int) : (more.flatMap fun m => [2, m]).length = 2 * more.length := by
  induction more with
  | nil => rfl
  | cons a l ih => rw [List.flatMap_cons, List.length_append, ih, List.length_cons]; simp; omega
theorem catchMem_length (more : List Int) (v : Int) : (catchMem more v).length = 400 := by unfold catchMem; rw [lay_length, plainMem_length]
theorem catchMem_code (more : List Int) (v : Int) : At (catchMem more v) 200 [2, 220, 46, 3, 205] := At.on (At.plain (by simp)) 220 _ (by simp)
theorem catchMem_word {more : List Int} (v : Int) (h : more.length ≤ 20) : At (catchMem more v) 220 ((more.flatMap fun m => [2, m]) ++ [2, v, 45, 5]) := At.of_lay _ _ _ (by rw [plainMem_length, List.length_append, pairs_length]; simp; omega)
theorem catchMem_boot (more : List Int) (v : Int) {j : Nat} (h : j < 200 ∨ 205 ≤ j ∧ j < 220) : (catchMem more v)[j]? = some (bootCell 48 j) := by
  unfold catchMem
  rw [lay_below _ _ _ (.inl (by omega))]
  unfold plainMem
  rw [lay_below _ _ _ (by simp; omega), bootMem_at, if_pos (by omega)]
section
variable {l more : List Int} {v : Int}
theorem catch_start (hl : l.length ≤ 10) (hm : more.length ≤ 20) (f : Nat) : run (3 + more.length + f) (T (plainX ⟨#[]⟩ (catchMem more v)) 200 l []) =
    run f (T { plainX ⟨#[]⟩ (catchMem more v) with handler := 3 } (222 + 2 * more.length) (l ++ more ++ [v]) [203, 0, (l.length : Int), 1]) := by
  have A := catchMem_code more v
  have B := catchMem_word v hm
  generalize catchMem more v = mem at *
  obtain ⟨x, hx⟩ : ∃ x, plainX ⟨#[]⟩ mem = x := ⟨_, rfl⟩
  have h0 : x.status = 0 := by rw [← hx]; rfl
  have hh : x.handler = 0 := by rw [← hx]; rfl
  have hmm : x.mem = mem := by rw [← hx]; rfl
  rw [hx]
  rw [← hmm] at A B
  obtain ⟨y, hy⟩ : ∃ y, { x with handler := 3 } = y := ⟨_, rfl⟩
  have y0 : y.status = 0 := by rw [← hy]; exact h0
  have ym : y.mem = x.mem := by rw [← hy]
  have s1 : Mach.step (T x 200 l []) = T x 202 (l ++ [220]) [] := go_lit h0 (A 0 (by simp)) (A 1 (by simp)) (by omega) (by simp)
  have s2 : Mach.step (T x 202 (l ++ [220]) []) = T y 220 l [203, 0, (l.length : Int), 1] := (go_catch (bk := []) (r := 220) h0 (A 2 (by simp)) (by omega) (by simp)).trans (by rw [← hy, hh]; rfl)
  have s3 := lits_run y0 more 220 l [203, 0, (l.length : Int), 1] (by rw [ym]; exact B.left) (by omega) (by simp) (1 + f)
  have B2 : At y.mem (220 + 2 * more.length) [2, v, 45, 5] := by have := B.right; rw [pairs_length] at this; rw [ym]; exact this
  have s4 : Mach.step (T y (220 + 2 * more.length) (l ++ more) [203, 0, (l.length : Int), 1]) = T y (222 + 2 * more.length) (l ++ more ++ [v]) [203, 0, (l.length : Int), 1] :=
    (go_lit y0 B2.one B2.rest.one (by rw [List.length_append]; omega) (by simp)).trans (by rw [show 220 + 2 * more.length + 2 = 222 + 2 * more.length by omega])
  rw [hy, show 3 + more.length + f = (more.length + (1 + f)) + 1 + 1 by omega, run_one (show (T x 200 _ _).status = 0 from h0) s1, run_one (show (T x 202 _ _).status = 0 from h0) s2, s3, show 1 + f = f + 1 by omega, run_one (show (T y _ _ _).status = 0 from y0) s4]
/-- it throws -/
theorem caught_throw (hl : l.length ≤ 10) (hm : more.length ≤ 20) (hv : v ≠ 0) (f : Nat) : run (4 + more.length + f) (T (plainX ⟨#[]⟩ (catchMem more v)) 200 l []) = run f (T (plainX ⟨#[]⟩ (catchMem more v)) 203 (l ++ [v]) []) := by
  rw [show 4 + more.length + f = 3 + more.length + (f + 1) by omega, catch_start hl hm]
  have B := (catchMem_word v hm).right
  rw [pairs_length] at B
  generalize catchMem more v = mem at *
  have s1 : Mach.step (T { plainX ⟨#[]⟩ mem with handler := 3 } (222 + 2 * more.length) (l ++ more ++ [v]) [203, 0, (l.length : Int), 1]) = fault (T { plainX ⟨#[]⟩ mem with handler := 3 } (222 + 2 * more.length) (l ++ more) [203, 0, (l.length : Int), 1]) v :=
    go_throw (x := { plainX ⟨#[]⟩ mem with handler := 3 }) rfl (by have := B.rest.rest.one; rw [show 220 + 2 * more.length + 1 + 1 = 222 + 2 * more.length by omega] at this; exact this) hv (by rw [List.length_append]; omega) (by simp)
  rw [run_one rfl s1]
  congr 1
  have hc : caught (T { plainX ⟨#[]⟩ mem with handler := 3 } (222 + 2 * more.length) (l ++ more) [203, 0, (l.length : Int), 1]) = true := by
    unfold caught
    show (decide ((3 : Int) ≤ 3) && decide ((3 : Int) ≤ 4) && decide (0 ≤ (l.length : Int)) && decide ((l.length : Int) < 48)) = true
    simp
    omega
  unfold fault
  rw [if_pos hc]
  show ({ plainX ⟨#[]⟩ mem with ip := 203, stack := deep (l ++ more) l.length ++ [v], back := [] } : M) = _
  have hd : deep (l ++ more) l.length = l := by
    unfold deep
    rw [List.take_left', List.length_append, show l.length - (l.length + more.length) = 0 by omega]
    · simp
    · rfl
  rw [hd]
  rfl
/-- it does not -/
theorem caught_pass (hl : l.length ≤ 10) (hm : more.length ≤ 20) (f : Nat) : run (4 + more.length + 2 + f) (T (plainX ⟨#[]⟩ (catchMem more 0)) 200 l []) = run f (T (plainX ⟨#[]⟩ (catchMem more 0)) 203 (l ++ more ++ [0]) []) := by
  rw [show 4 + more.length + 2 + f = 3 + more.length + (f + 1 + 1 + 1) by omega, catch_start hl hm]
  have B := (catchMem_word 0 hm).right
  rw [pairs_length] at B
  have E : (catchMem more 0)[1]? = some 1 := catchMem_boot more 0 (.inl (by omega))
  generalize catchMem more 0 = mem at *
  have hll : (l ++ more).length ≤ 30 := by rw [List.length_append]; omega
  have s1 : Mach.step (T { plainX ⟨#[]⟩ mem with handler := 3 } (222 + 2 * more.length) (l ++ more ++ [0]) [203, 0, (l.length : Int), 1]) = T { plainX ⟨#[]⟩ mem with handler := 3 } (223 + 2 * more.length) (l ++ more) [203, 0, (l.length : Int), 1] :=
    (go_pass (x := { plainX ⟨#[]⟩ mem with handler := 3 }) rfl (by have := B.rest.rest.one; rw [show 220 + 2 * more.length + 1 + 1 = 222 + 2 * more.length by omega] at this; exact this) (by omega) (by simp)).trans (by rw [show 222 + 2 * more.length + 1 = 223 + 2 * more.length by omega])
  have s2 : Mach.step (T { plainX ⟨#[]⟩ mem with handler := 3 } (223 + 2 * more.length) (l ++ more) [203, 0, (l.length : Int), 1]) = T { plainX ⟨#[]⟩ mem with handler := 3 } 1 (l ++ more) [203, 0, (l.length : Int)] :=
    go_exit (x := { plainX ⟨#[]⟩ mem with handler := 3 }) (bk := [203, 0, (l.length : Int)]) (r := 1) rfl (by have := B.rest.rest.rest.one; rw [show 220 + 2 * more.length + 1 + 1 + 1 = 223 + 2 * more.length by omega] at this; exact this) (by omega) (by simp)
  have s3 : Mach.step (T { plainX ⟨#[]⟩ mem with handler := 3 } 1 (l ++ more) [203, 0, (l.length : Int)]) = T (plainX ⟨#[]⟩ mem) 203 (l ++ more ++ [0]) [] :=
    go_endcatch (x := { plainX ⟨#[]⟩ mem with handler := 3 }) (bk := []) (r := 203) (c := 0) rfl E rfl (by omega) (by omega) (by simp)
  rw [run_one rfl s1, run_one rfl s2, run_one rfl s3]
/-- behind it the machine halts -/
theorem caught_end (w : List Int) (hw : w.length ≤ 48) (f : Nat) : run (f + 1 + 1) (T (plainX ⟨#[]⟩ (catchMem more v)) 203 w []) = ({ T (plainX ⟨#[]⟩ (catchMem more v)) 205 w [] with status := 1 }, f) := by
  have A := catchMem_code more v
  have E : (catchMem more v)[205]? = some 0 := catchMem_boot more v (.inr (by omega))
  generalize catchMem more v = mem at *
  have s1 : Mach.step (T (plainX ⟨#[]⟩ mem) 203 w []) = T (plainX ⟨#[]⟩ mem) 205 w [] := go_branch (x := plainX ⟨#[]⟩ mem) (n := 205) rfl (A 3 (by simp)) (A 4 (by simp)) hw (by simp)
  rw [run_one rfl s1, run_halt (x := plainX ⟨#[]⟩ mem) rfl E hw (by simp)]
/-- a run of a hundred steps ends -/
theorem caught_done (hl : l.length ≤ 10) (hm : more.length ≤ 20) : (run 100 (T (plainX ⟨#[]⟩ (catchMem more v)) 200 l [])).1.status = 1 := by
  by_cases hv : v = 0
  · subst hv
    rw [show 100 = 4 + more.length + 2 + ((94 - more.length - 2) + 1 + 1) by omega, caught_pass hl hm, caught_end _ (by simp; omega)]
  · rw [show 100 = 4 + more.length + ((96 - more.length - 2) + 1 + 1) by omega, caught_throw hl hm hv, caught_end _ (by simp; omega)]
end
/-- code that tells bytes -/
def tellCode (l : List Int) : List Int := l.flatMap fun a => [2, a, 41]
theorem tellCode_length (l : List Int) : (tellCode l).length = 3 * l.length := by
  induction l with
  | nil => rfl
  | cons a l ih => show ([2, a, 41] ++ tellCode l).length = _; rw [List.length_append, ih, List.length_cons]; simp; omega
def byteI (a : Int) : UInt8 := UInt8.ofNat (a % 256).toNat
def told (l : List Int) : ByteArray := ⟨(l.map byteI).toArray⟩
theorem told_snoc (l : List Int) (a : Int) : told (l ++ [a]) = told l ++ ⟨#[byteI a]⟩ := by
  unfold told
  apply ByteArray.ext
  rw [ByteArray.data_append]
  simp
theorem told_cons (o : ByteArray) (a : Int) (l : List Int) : o ++ ⟨#[byteI a]⟩ ++ told l = o ++ told (a :: l) := by
  unfold told
  apply ByteArray.ext
  rw [ByteArray.data_append, ByteArray.data_append, ByteArray.data_append]
  simp
theorem tells_run {x : M} (h0 : x.status = 0) (l : List Int) : ∀ (j : Nat) (o : ByteArray), At x.mem j (tellCode l) → o.size + l.length ≤ 2000 → ∀ f, run (2 * l.length + f) (T { x with out := o } j [] []) = run f (T { x with out := o ++ told l } (j + 3 * l.length) [] []) := by
  induction l with
  | nil =>
    intro j o _ _ f
    rw [show told [] = ⟨#[]⟩ from rfl, List.length_nil, Nat.mul_zero, Nat.zero_add, show o ++ ⟨#[]⟩ = o from ByteArray.append_empty]
    rfl
  | cons a l ih =>
    intro j o h ho f
    have h1 : At x.mem j (2 :: a :: 41 :: tellCode l) := h
    rw [List.length_cons] at ho
    have s1 : Mach.step (T { x with out := o } j [] []) = T { x with out := o } (j + 2) [a] [] := go_lit (x := { x with out := o }) (l := []) h0 h1.one h1.rest.one (by simp) (by simp)
    have s2 : Mach.step (T { x with out := o } (j + 2) [a] []) = T { x with out := o ++ ⟨#[byteI a]⟩ } (j + 3) [] [] := go_emit (x := { x with out := o }) (l := []) h0 h1.rest.rest.one (by show o.size + 1 ≤ 2000; omega) (by simp) (by simp)
    rw [List.length_cons, show 2 * (l.length + 1) + f = (2 * l.length + f) + 1 + 1 by omega, run_one (show (T { x with out := o } j [] []).status = 0 from h0) s1, run_one (show (T { x with out := o } _ _ _).status = 0 from h0) s2]
    rw [ih (j + 3) (o ++ ⟨#[byteI a]⟩) h1.rest.rest.rest (by rw [ByteArray.size_append]; show o.size + 1 + l.length ≤ 2000; omega) f, told_cons, show j + 3 + 3 * l.length = j + 3 * (l.length + 1) by omega]
/-- the byte that is asked for -/
def keyI (inp : ByteArray) (k : Nat) : Int := if k < inp.size then ((inp.data.toList.getD k 0).toNat : Int) else -1
theorem asks_run {x : M} (h0 : x.status = 0) (n : Nat) : ∀ (j r : Nat) (st : List Int), At x.mem j (List.replicate n 43) → st.length + n ≤ 48 → ∀ f, run (n + f) (T { x with read := ((min r x.inp.size : Nat) : Int) } j st []) =
    run f (T { x with read := ((min (r + n) x.inp.size : Nat) : Int) } (j + n) (st ++ (List.range' r n).map (keyI x.inp)) []) := by
  induction n with
  | zero => intro j r st _ _ f; rw [Nat.zero_add]; simp
  | succ n ih =>
    intro j r st h hs f
    have h1 : At x.mem j (43 :: List.replicate n 43) := h
    have s1 : Mach.step (T { x with read := ((min r x.inp.size : Nat) : Int) } j st []) = T { x with read := ((min (r + 1) x.inp.size : Nat) : Int) } (j + 1) (st ++ [keyI x.inp r]) [] := by
      by_cases hr : r < x.inp.size
      · rw [show min r x.inp.size = r by omega, show min (r + 1) x.inp.size = r + 1 by omega]
        have e : keyI x.inp r = ((x.inp.data.toList.getD r 0).toNat : Int) := if_pos hr
        rw [e]
        exact go_key (x := { x with read := (r : Int) }) h0 h1.one (by show (r : Int) < x.inp.size; omega) (by omega) (by simp)
      · rw [show min r x.inp.size = x.inp.size by omega, show min (r + 1) x.inp.size = x.inp.size by omega]
        have e : keyI x.inp r = -1 := if_neg hr
        rw [e]
        exact go_nokey (x := { x with read := (x.inp.size : Int) }) h0 h1.one (by show ¬ (x.inp.size : Int) < x.inp.size; omega) (by omega) (by simp)
    rw [show n + 1 + f = (n + f) + 1 by omega, run_one (show (T { x with read := ((min r x.inp.size : Nat) : Int) } j st []).status = 0 from h0) s1, ih (j + 1) (r + 1) (st ++ [keyI x.inp r]) h1.rest (by rw [List.length_append, List.length_singleton]; omega) f]
    rw [List.append_assoc, show r + 1 + n = r + (n + 1) by omega, show j + 1 + n = j + (n + 1) by omega]
    rfl
def talkCode (l : List Int) : List Int := tellCode l ++ List.replicate 20 43 ++ [0]
def talkMem (l : List Int) : List Int := lay (bootMem 48 400) 200 (talkCode l)
theorem talks {inp : ByteArray} {l : List Int} (hl : l.length ≤ 30) : ∃ m k, run 500 (T (plainX inp (talkMem l)) 200 [] []) = (m, k) ∧ m.status = 1 ∧ m.out = told l ∧ m.stack = (List.range 20).map (keyI inp) ∧ m.read = ((min 20 inp.size : Nat) : Int) := by
  have A : At (talkMem l) 200 (talkCode l) := At.of_lay _ _ _ (by unfold talkCode; rw [bootMem_length, List.length_append, List.length_append, tellCode_length, List.length_replicate]; simp; omega)
  generalize talkMem l = mem at *
  unfold talkCode at A
  have A1 := A.left.left
  have A2 := A.left.right
  have A3 := A.right
  rw [List.length_append, tellCode_length, List.length_replicate] at A3
  rw [tellCode_length] at A2
  have s1 := tells_run (x := plainX inp mem) rfl l 200 ⟨#[]⟩ A1 (by show 0 + l.length ≤ 2000; omega) (500 - 2 * l.length)
  have s2 := asks_run (x := { plainX inp mem with out := (⟨#[]⟩ : ByteArray) ++ told l }) rfl 20 (200 + 3 * l.length) 0 [] A2 (by simp) (480 - 2 * l.length)
  have s3 := run_halt (x := { plainX inp mem with out := (⟨#[]⟩ : ByteArray) ++ told l, read := ((min (0 + 20) inp.size : Nat) : Int) }) (j := 200 + 3 * l.length + 20) (l := [] ++ (List.range' 0 20).map (keyI inp)) (bk := []) rfl (by have := A3.one; rw [show 200 + (3 * l.length + 20) = 200 + 3 * l.length + 20 by omega] at this; exact this) (by simp) (by simp) (479 - 2 * l.length)
  rw [show 2 * l.length + (500 - 2 * l.length) = 500 by omega] at s1
  rw [show 20 + (480 - 2 * l.length) = 500 - 2 * l.length by omega, Nat.zero_min] at s2
  rw [show 479 - 2 * l.length + 1 = 480 - 2 * l.length by omega] at s3
  refine ⟨_, _, s1.trans (s2.trans s3), rfl, ?_, ?_, ?_⟩
  · show (⟨#[]⟩ : ByteArray) ++ told l = told l
    exact ByteArray.empty_append
  · show [] ++ (List.range' 0 20).map (keyI inp) = _
    rw [List.nil_append, List.range_eq_range']
  · show ((min (0 + 20) inp.size : Nat) : Int) = _
    rw [Nat.zero_add]
end Go.Proofs.YtfpaajoggbibnaaGreatDoor.Mach
/- Package inner's contracts, as hollowaylaw9's statements use them. -/
namespace Go.Proofs.YtfpaajoggbibnaaGreatDoor.Mach
open Go.RowKit Book Mem
theorem OwnsL.readsM {w : World} {B : Nat} {vs vb vm : Value} {m : M} (h : OwnsL w B vs vb vm m) : ReadsM w (stV m vs vb vm) m := OwnsM.reads ⟨vs, vb, vm, rfl, h⟩
end Go.Proofs.YtfpaajoggbibnaaGreatDoor.Mach
namespace Go.Proofs.YtfpaajoggbibnaaGreatDoor.Inn
open Go.RowKit Book Mem Mach
set_option linter.unusedVariables false
set_option linter.unusedSimpArgs false
/-- true is returned -/
def Yes (w : World) (e : Ending) (w' : World) : Prop := e = .returned (.bool true) ∧ Below w.heap.size w w'
/-- what a call answers: a machine with lists of its own, its slices known -/
def GivesK (m : M) (w : World) (e : Ending) (w' : World) : Prop :=
  ∃ a1 k1 a2 k2 a3 k3, e = .returned (stV m (.slice a1 m.stack.length k1) (.slice a2 m.back.length k2) (.slice a3 m.mem.length k3)) ∧
    OwnsL w' w.heap.size (.slice a1 m.stack.length k1) (.slice a2 m.back.length k2) (.slice a3 m.mem.length k3) m ∧ Below w.heap.size w w'
theorem known {w w' : World} {v : Value} {m : M} {B : Nat} (h : OwnsM w B v m) : ∃ a1 k1 a2 k2 a3 k3, v = stV m (.slice a1 m.stack.length k1) (.slice a2 m.back.length k2) (.slice a3 m.mem.length k3) ∧
    OwnsL w B (.slice a1 m.stack.length k1) (.slice a2 m.back.length k2) (.slice a3 m.mem.length k3) m := by
  obtain ⟨v1, v2, v3, rfl, ho⟩ := h
  obtain ⟨a1, k1, e1⟩ := ho.st.slice
  obtain ⟨a2, k2, e2⟩ := ho.bk.slice
  obtain ⟨a3, k3, e3⟩ := ho.me.slice
  rw [vals_length] at e1 e2 e3
  subst e1
  subst e2
  subst e3
  exact ⟨a1, k1, a2, k2, a3, k3, rfl, ho⟩
theorem GivesM.known {m : M} {w : World} {e : Ending} {w' : World} (h : GivesM m w e w') : GivesK m w e w' := by
  obtain ⟨v, rfl, ho, hb⟩ := h
  obtain ⟨a1, k1, a2, k2, a3, k3, rfl, ho'⟩ := Inn.known (w' := w') ho
  exact ⟨a1, k1, a2, k2, a3, k3, rfl, ho', hb⟩
/-- what a run answers, its slices known -/
def RanK (m : M) (k : Nat) (w : World) (e : Ending) (w' : World) : Prop :=
  ∃ a1 k1 a2 k2 a3 k3, e = .returned (.tuple #[stV m (.slice a1 m.stack.length k1) (.slice a2 m.back.length k2) (.slice a3 m.mem.length k3), .int .i64 k]) ∧
    OwnsL w' w.heap.size (.slice a1 m.stack.length k1) (.slice a2 m.back.length k2) (.slice a3 m.mem.length k3) m ∧ Below w.heap.size w w'
theorem runs_any {w : World} {v : Value} {m : M} (h : ReadsM w v m) (hr : Right m) (hc : Cells m) (hin : m.inp.size ≤ maxLen) (hE : ∀ wc, Below w.heap.size w wc → Tabs wc) (n : Nat) (hn : n ≤ 9223372036854775807) {m' : M} {k : Nat} (e : Mach.run n m = (m', k)) :
    Calls Tryz.prog 14 #[v, .int .i64 n] w (RanK m' k w) := by
  refine (innRun_nat h hr hc hin hE n hn).mono ?_
  rintro e1 w' ⟨v, rfl, ho, hb⟩
  rw [runI_nat, e] at *
  obtain ⟨a1, k1, a2, k2, a3, k3, rfl, ho'⟩ := Inn.known (w' := w') ho
  exact ⟨a1, k1, a2, k2, a3, k3, rfl, ho', hb⟩
theorem run_inp (n : Nat) (s : M) : (Mach.run n s).1.inp = s.inp := by
  induction n generalizing s with
  | zero => rfl
  | succ n ih =>
    by_cases h : s.status = 0
    · rw [run_go h, ih, step_inp]
    · rw [run_still h]
/-- a box of a machine stays where nobody writes -/
theorem box_on {w w' : World} {g : Nat} {cs : Array Value} {T : TypeId} (h : w.heap[g]? = some (.cells cs T (0, 0))) (hb : Below w.heap.size w w') : w'.heap[g]? = some (.cells cs T (0, 0)) := (Stirred.of_below hb []).whole h List.not_mem_nil
end Go.Proofs.YtfpaajoggbibnaaGreatDoor.Inn
