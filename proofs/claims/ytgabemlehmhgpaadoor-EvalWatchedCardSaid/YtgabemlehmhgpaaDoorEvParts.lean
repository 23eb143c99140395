
/- Package eval: a guard holds; a cell is stored into; a text is told; a byte is asked for. -/
import Derived.Test.YtgabemlehmhgpaaDoorEvDo
namespace Go.Proofs.YtgabemlehmhgpaaDoor.Ev
open Go.RowKit Book Mem
open Ir (T I O trA ReadsL insA insV)
open Mach (M)
open Go.Proofs.YtgabemlehmhgpaaDoor.Cell (In)
set_option linter.unusedSimpArgs false
set_option linter.unusedVariables false
theorem xor_zero {a b : Int} (ha : In a) (hb : In b) : bits .xor .i64 a b = 0 ↔ a = b := by
  rw [Cell.bits_xor]
  constructor
  · intro h
    have h0 : BitVec.ofInt 64 a ^^^ BitVec.ofInt 64 b = 0#64 := by
      apply BitVec.eq_of_toInt_eq
      rw [h]; rfl
    have h1 : BitVec.ofInt 64 a = BitVec.ofInt 64 b := by
      have := congrArg (· ^^^ BitVec.ofInt 64 b) h0
      simp only [BitVec.xor_assoc, BitVec.xor_self, BitVec.xor_zero, BitVec.zero_xor] at this
      exact this
    rw [← Cell.toInt_of ha, ← Cell.toInt_of hb, h1]
  · rintro rfl
    rw [BitVec.xor_self]; rfl
set_option maxHeartbeats 4000000 in
set_option maxRecDepth 100000 in
theorem index_any {w : World} {v : Value} {l : List Int} (h : Reads w v l) (hl : l.length ≤ 100000) (x : Int) : Calls Tryd.prog 50 #[v, .int .i64 x] w fun e w' => (∃ k : Int, e = .returned (.int .i64 k) ∧ decide (0 ≤ k) = l.contains x) ∧ w' = w := by
  obtain ⟨n, hn⟩ : ∃ n, l.length = n := ⟨_, rfl⟩
  have HN := Lib.hid hn
  have HV := Lib.hid h
  obtain ⟨av, cv, rfl, -⟩ := h
  rw [hn] at hl HV ⊢
  obtain ⟨res, hres⟩ : ∃ res, l.contains x = res := ⟨_, rfl⟩
  have HRS := Lib.hid hres
  rw [hres]
  clear hn hres
  go_enter Tryd.func50, Tryd.ntmps50
  go_wp2
  go_loopg [8] n (fun z i wr => ∃ j : Nat, z = n - j ∧ j ≤ n ∧ i = .int .i64 (j : Int) ∧ wr = w ∧ Hid ((l.drop j).contains x = res))
  case atStart => exact ⟨0, rfl, Nat.zero_le _, rfl, rfl, Lib.hid HRS.out⟩
  case round =>
    obtain ⟨j, rfl, hj, rfl, hwr, HJ⟩ := hrel
    subst wr
    by_cases hlt : j < n
    · obtain ⟨p, hp⟩ : ∃ p, l[j]? = some p := ⟨_, List.getElem?_eq_getElem (by rw [HN.out]; exact hlt)⟩
      have hk := (List.getElem?_eq_some_iff.1 hp).1
      have HS := Lib.hid (show (x == p || (l.drop (j + 1)).contains x) = res by
        rw [← HJ.out, List.drop_eq_getElem_cons hk, show l[j] = p from (List.getElem?_eq_some_iff.1 hp).2, List.contains_cons])
      obtain ⟨ad, rfl, q0⟩ := Ir.Reads.at' HV.out hp
      have z0 : (0 : Int) ≤ (j : Int) := by omega
      have z1 : (j : Int) < (n : Int) := by omega
      clear HJ hp hk
      by_cases hx : x = p
      · have HF := Lib.hid (show res = true by rw [← HS.out, hx]; simp)
        have hx1 : (x == p) = true := by rw [hx]; simp
        clear HS
        go_wp2
        go_ret
        exact ⟨⟨(j : Int), rfl, by rw [HF.out]; exact decide_eq_true z0⟩, rfl⟩
      · have hx1 : (x == p) = false := by simpa using hx
        have HS2 := Lib.hid (show (l.drop (j + 1)).contains x = res by rw [← HS.out, hx1]; rfl)
        clear HS
        go_wp2
        go_roundg (n - (j + 1))
        case measure => omega
        case rel => exact ⟨j + 1, rfl, by omega, by go_num, rfl, HS2⟩
    · obtain rfl : j = n := by omega
      have HF := Lib.hid (show res = false by rw [← HJ.out, List.drop_of_length_le (Nat.le_of_eq HN.out)]; rfl)
      go_wp2
      go_ret
      exact ⟨⟨-1, rfl, by rw [HF.out]; rfl⟩, rfl⟩
theorem contains_any {w : World} {v : Value} {l : List Int} (h : Reads w v l) (hl : l.length ≤ 100000) (x : Int) : Calls Tryd.prog 40 #[v, .int .i64 x] w fun e w' => e = .returned (.bool (l.contains x)) ∧ w' = w := by
  have C := Lib.hid (index_any h hl x)
  obtain ⟨res, hres⟩ : ∃ res, l.contains x = res := ⟨_, rfl⟩
  rw [hres] at C ⊢
  clear h hl hres
  go_enter Tryd.func40, Tryd.ntmps40
  go_wp2_with (go_at_call 50; refine C.out.mono ?_; rintro e w' ⟨⟨k, rfl, hk⟩, rfl⟩)
  go_ret
  exact ⟨Cell.retB (by rw [← hk]), rfl⟩
section
variable {W w : World} {q : Nat} {t : T} {wat : List Int} {s : M} {V : List Int} {hit : Bool} {z : Sl}
def holdsB (x : I) (b c : Int) : Bool := if x.1 = 9 then decide (b = c) else if x.1 = 8 then decide (b = 0) else if x.1 = 7 then decide (b ≠ 0) else false
/-- a flag, and the world but for new blocks -/
def SaysB (b : Bool) (w : World) (e : Ending) (w' : World) : Prop := e = .returned (.bool b) ∧ Below w.heap.size w w'
theorem flag_dec (b : Int) : (Cell.flag (b == 0) != 0) = decide (b = 0) := by
  by_cases h : b = 0
  · subst h; rfl
  · have h1 : (b == 0) = false := by simpa using h
    rw [h1, decide_eq_false h]; rfl
theorem ne_dec (b : Int) : (b != 0) = decide (b ≠ 0) := by
  by_cases h : b = 0
  · subst h; rfl
  · simp [h, bne]
theorem flag_xor {b c : Int} (h : bits .xor .i64 b c = 0 ↔ b = c) : (Cell.flag (bits .xor .i64 b c == 0) != 0) = decide (b = c) := by
  rw [flag_dec]
  exact decide_eq_decide.2 h
set_option maxHeartbeats 4000000 in
set_option maxRecDepth 100000 in
theorem holds_any (h : RunAt W w q t wat s V hit z) (hl : V.length ≤ 100000) (hV : ∀ x ∈ V, In x) (x : I) : Calls Tryd.prog 37 #[.pointer (some ⟨q, 0, none⟩), insV x] w (SaysB (holdsB x (val V x.2.2.1) (val V x.2.2.2.1)) w) := by
  obtain ⟨op, a, b, c, ex⟩ := x
  obtain ⟨w1, g, hw1, hg, HG, HB, HZ⟩ := Ir.newBox w (insA (op, a, b, c, ex)) 42
  have k0 : w1.cell? ⟨g, 0, none⟩ = some (.int .i64 op) := whole_cell HG.out rfl
  have k2 : w1.cell? ⟨g, 2, none⟩ = some (.int .i64 b) := whole_cell HG.out rfl
  have k3 : w1.cell? ⟨g, 3, none⟩ = some (.int .i64 c) := whole_cell HG.out rfl
  have CB := Lib.hid (value_any (h.below HB.out) hl b)
  have CC := Lib.hid (value_any (h.below HB.out) hl c)
  have ib := val_in hV b
  have ic := val_in hV c
  dsimp only at *
  obtain ⟨vb, hvb⟩ : ∃ v, val V b = v := ⟨_, rfl⟩
  obtain ⟨vc, hvc⟩ : ∃ v, val V c = v := ⟨_, rfl⟩
  rw [hvb] at CB ib ⊢
  rw [hvc] at CC ic ⊢
  have HX := Lib.hid (xor_zero ib ic)
  have FL := Lib.hid (fun b => Cell.flag_any b w1)
  obtain ⟨r, hr⟩ : ∃ r, holdsB (op, a, b, c, ex) vb vc = r := ⟨_, rfl⟩
  rw [hr]
  have HRB := Lib.hid hr
  unfold holdsB at HRB
  dsimp only at HRB
  clear h hl hV hvb hvc ib ic hr
  by_cases h9 : op = 9
  · subst h9
    have hr := HRB.out
    simp only [if_true, reduceIte] at hr
    have HF := Lib.hid hr
    clear HRB hr
    go_enter Tryd.func37, Tryd.ntmps37
    go_wp2_with (first | (go_at_call 32; first | (with_reducible refine CB.out.mono ?_; rintro e w' ⟨rfl, rfl⟩) | (with_reducible refine CC.out.mono ?_; rintro e w' ⟨rfl, rfl⟩)) | (go_at_call 44; refine (FL.out _).mono ?_; rintro e w' ⟨rfl, rfl⟩))
    go_ret
    exact ⟨Cell.retB (by rw [← HF.out]; exact flag_xor HX.out), HB.out⟩
  by_cases h8 : op = 8
  · subst h8
    have hr := HRB.out
    simp only [if_true, reduceIte, (by decide : ¬ (8 : Int) = 9)] at hr
    have HF := Lib.hid hr
    clear HRB hr
    go_enter Tryd.func37, Tryd.ntmps37
    go_wp2_with (first | (go_at_call 32; first | (with_reducible refine CB.out.mono ?_; rintro e w' ⟨rfl, rfl⟩) | (with_reducible refine CC.out.mono ?_; rintro e w' ⟨rfl, rfl⟩)) | (go_at_call 44; refine (FL.out _).mono ?_; rintro e w' ⟨rfl, rfl⟩))
    go_ret
    exact ⟨Cell.retB (by rw [← HF.out]; exact flag_dec _), HB.out⟩
  by_cases h7 : op = 7
  · subst h7
    have hr := HRB.out
    simp only [if_true, reduceIte, (by decide : ¬ (7 : Int) = 9), (by decide : ¬ (7 : Int) = 8)] at hr
    have HF := Lib.hid hr
    clear HRB hr
    go_enter Tryd.func37, Tryd.ntmps37
    go_wp2_with (first | (go_at_call 32; first | (with_reducible refine CB.out.mono ?_; rintro e w' ⟨rfl, rfl⟩) | (with_reducible refine CC.out.mono ?_; rintro e w' ⟨rfl, rfl⟩)) | (go_at_call 44; refine (FL.out _).mono ?_; rintro e w' ⟨rfl, rfl⟩))
    go_ret
    exact ⟨Cell.retB (by rw [← HF.out]; exact ne_dec _), HB.out⟩
  have hr := HRB.out
  rw [if_neg h9, if_neg h8, if_neg h7] at hr
  subst hr
  have e9 : (op == 9) = false := by simpa using h9
  have e8 : (op == 8) = false := by simpa using h8
  have e7 : (op == 7) = false := by simpa using h7
  clear HRB h9 h8 h7
  go_enter Tryd.func37, Tryd.ntmps37
  go_wp2_with (first | (go_at_call 32; first | (with_reducible refine CB.out.mono ?_; rintro e w' ⟨rfl, rfl⟩) | (with_reducible refine CC.out.mono ?_; rintro e w' ⟨rfl, rfl⟩)) | (go_at_call 44; refine (FL.out _).mono ?_; rintro e w' ⟨rfl, rfl⟩))
  go_ret
  exact ⟨rfl, HB.out⟩
end
end Go.Proofs.YtgabemlehmhgpaaDoor.Ev
