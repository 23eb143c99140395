/- The walk of internal/strconv.formatBits. -/
import Derived.Test.YthnciokmomgfeaaGreatDoorG11
import Derived.Laws.BytesArg
import Derived.Lib.ItoaMem
import Derived.Deep.LoopGhost
import Derived.Deep.DeepCutAuto
import Derived.Test.YthnciokmomgfeaaGreatDoorRows
import Derived.WalkKit
import Derived.WalkSpells
import Derived.WalkLawsBesides
import Derived.Lib.Hide
import Derived.Lib.Strings
import Derived.Test.YthnciokmomgfeaaGreatDoorG4
import Derived.Deep.RegionWith
import Derived.BigQuiet
import Derived.Deep.QuietTactic
import Derived.RegionTactic
import Derived.ChangeAlike
import Derived.Lib.MakeNoZero
import Derived.Lib.Builder
namespace Go.Proofs.YthnciokmomgfeaaGreatDoor
open Go.RowKit
set_option linter.unusedSimpArgs false
set_option linter.unusedVariables false
abbrev byteV (c : UInt8) : Value := .int .u8 (c.toNat : Int)
abbrev lowText : ByteArray := ⟨#[48, 49, 50, 51, 52, 53, 54, 55, 56, 57, 97, 98, 99, 100, 101, 102, 103, 104, 105, 106, 107, 108, 109, 110, 111, 112, 113, 114, 115, 116, 117, 118, 119, 120, 121, 122]⟩
/-- the last cells of 65 are these bytes -/
def Filled (c : Array Value) (l : List UInt8) : Prop := c.size = 65 ∧ ∃ pre, c.toList = pre ++ l.map byteV
def FmtRel (b U j n : Nat) (c : Array Value) (u i : Value) : Prop := j < Dig.nd b U ∧ n + j = 65 ∧ u = .int .u64 (U / b ^ j : Nat) ∧ i = .int .i64 n ∧ Filled c (Dig.suf Dig.loD b U j)
theorem Tryz.zeroSize : Tryz.zeroCells214.size = 65 := by kernel_rfl
theorem fill_step {c : Array Value} {l : List UInt8} {n : Nat} {x : UInt8} {v : Value} (h : Filled c l) (hl : n + l.length = 65) (hn : 0 < n) (hv : v = byteV x) : Filled (c.setIfInBounds (n - 1) v) (x :: l) := by
  obtain ⟨hc, pre, hp⟩ := h
  subst hv
  have hlen : pre.length = n := by
    have := congrArg List.length hp
    rw [Array.length_toList, hc] at this
    simp at this
    omega
  obtain ⟨p, y, rfl⟩ : ∃ p y, pre = p ++ [y] := ⟨_, _, (List.dropLast_concat_getLast (l := pre) (by intro h; rw [h] at hlen; simp at hlen; omega)).symm⟩
  have hpl : p.length = n - 1 := by simp at hlen; omega
  refine ⟨by simpa using hc, p, ?_⟩
  rw [Array.toList_setIfInBounds, hp, List.append_assoc, List.set_append_right _ _ (by omega), hpl, Nat.sub_self]
  rfl
theorem div_nat (q b : Nat) : ((q : Int) / (b : Int)) = ((q / b : Nat) : Int) := by omega
theorem cell_in {c : Array Value} {k : Nat} (hc : c.size = 65) (hk : k < 65) : ∃ v, c[k]? = some v := ⟨c[k], Array.getElem?_eq_getElem (by omega)⟩
theorem low_fin : ∀ k : Fin 36, lowText[k.val]? = some (Dig.loD k.val) := by decide +kernel
theorem low_at {m k : Nat} (h : m < lowText.size) (hm : m = k) (hk : k < 36) : lowText[m] = Dig.loD k := by
  subst hm
  have h1 := low_fin ⟨m, hk⟩
  have h2 : lowText[m]? = some lowText[m] := getElem?_pos lowText m h
  exact Option.some.inj (h2.symm.trans h1)
/-- what stands in the array and the index when the digits are laid -/
def Laid (b U : Nat) (w : World) (i : Value) (wx : World) : Prop := ∃ n c, n + Dig.nd b U = 65 ∧ i = .int .i64 n ∧ Filled c (Dig.digs Dig.loD b U) ∧ wx = w.alloc (.cells c 214)
theorem laid_end {b U j n q : Nat} {c : Array Value} {v : Value} {w : World} {i : Value} (h2 : 2 ≤ b) (h36 : b ≤ 36) (hu : U < 18446744073709551616) (hq : U / b ^ j = q) (hqb : q < b) (hn : n + j = 65) (hj : j < Dig.nd b U) (hc : Filled c (Dig.suf Dig.loD b U j)) (hv : v = byteV (Dig.loD q)) (hi : i = .int .i64 ((n : Int) - 1)) (hpre : j = 0 ∨ b ^ j ≤ U) :
    Laid b U w i (w.alloc (.cells (c.setIfInBounds (n - 1) v) 214)) := by
  have hjl := Nat.lt_of_lt_of_le hj (Dig.nd_le h2 hu)
  have hd : Dig.digs Dig.loD b U = Dig.loD q :: Dig.suf Dig.loD b U j := by
    unfold Dig.digs
    have hlt : U < b ^ (j + 1) := by
      rw [Nat.pow_succ', ← Nat.div_lt_iff_lt_mul (Nat.pow_pos (by omega)), hq]; exact hqb
    rw [Dig.nd_eq h2 hu (n := j + 1) ⟨by omega, hlt, ?_⟩, Dig.suf, hq, Nat.mod_eq_of_lt hqb]
    rcases hpre with h | h
    · left; omega
    · right; simpa using h
  have hnd : Dig.nd b U = j + 1 := by
    have := congrArg List.length hd
    rw [Dig.digs_length, List.length_cons, Dig.suf_length] at this
    exact this
  refine ⟨n - 1, _, by omega, by rw [hi]; exact congrArg (Value.int .i64) (by omega), ?_, rfl⟩
  rw [hd]
  exact fill_step hc (by rw [Dig.suf_length]; exact hn) (by omega) hv
theorem go_on {b U j q : Nat} (h2 : 2 ≤ b) (hf : Dig.Fits b U (Dig.nd b U)) (hq : U / b ^ j = q) (hbq : b ≤ q) : j + 1 < Dig.nd b U ∧ b ^ (j + 1) ≤ U := by
  have hp : 0 < b ^ j := Nat.pow_pos (by omega)
  have h4 : b ^ (j + 1) ≤ U := by
    rw [Nat.pow_succ']
    exact (Nat.le_div_iff_mul_le hp).1 (by rw [hq]; exact hbq)
  refine ⟨?_, h4⟩
  rcases Nat.lt_or_ge (j + 1) (Dig.nd b U) with h | h
  · exact h
  · have h1 : b ^ Dig.nd b U ≤ b ^ (j + 1) := Nat.pow_le_pow_right (by omega) h
    have h3 := hf.2.1
    omega
def FmtRel' (b U j n : Nat) (c : Array Value) (u i : Value) : Prop := FmtRel b U j n c u i ∧ (j = 0 ∨ b ^ j ≤ U)
theorem fmt_start (b U : Nat) (hf : Dig.Fits b U (Dig.nd b U)) : FmtRel' b U 0 65 Tryz.zeroCells214 (.int .u64 U) (.int .i64 65) :=
  ⟨⟨hf.1, rfl, by rw [Nat.pow_zero, Nat.div_one], rfl, Tryz.zeroSize, _, (List.append_nil _).symm⟩, .inl rfl⟩
theorem fmt_next {b U j n q : Nat} {c : Array Value} {v : Value} {u i : Value} (h2 : 2 ≤ b) (hf : Dig.Fits b U (Dig.nd b U)) (hq : U / b ^ j = q) (hbq : b ≤ q) (hn : n + j = 65) (hn0 : 0 < n) (hc : Filled c (Dig.suf Dig.loD b U j)) (hv : v = byteV (Dig.loD (q % b)))
    (hu : u = .int .u64 ((q / b : Nat) : Int)) (hi : i = .int .i64 ((n : Int) - 1)) : FmtRel' b U (j + 1) (n - 1) (c.setIfInBounds (n - 1) v) u i := by
  obtain ⟨hlt, hge⟩ := go_on h2 hf hq hbq
  refine ⟨⟨hlt, by omega, ?_, ?_, ?_⟩, .inr hge⟩
  · rw [hu, ← hq, Nat.div_div_eq_div_mul, ← Nat.pow_succ]
  · rw [hi]; exact congrArg (Value.int .i64) (by omega)
  · rw [Dig.suf, hq]
    exact fill_step hc (by rw [Dig.suf_length]; exact hn) hn0 hv
theorem mod_nat {q b : Nat} : ((q : Int) - (q : Int) / (b : Int) * (b : Int)).toNat = q % b := by
  have := Int.emod_def (q : Int) (b : Int)
  rw [Int.mul_comm] at this
  omega
theorem and_low {q b : Nat} {k : Int} (hk : b = 2 ∧ k = 1 ∨ b = 4 ∧ k = 2 ∨ b = 8 ∧ k = 3 ∨ b = 16 ∧ k = 4 ∨ b = 32 ∧ k = 5) (hq : q < 18446744073709551616) : bits .and .u64 (q : Int) ((b : Int) - 1) = ((q % b : Nat) : Int) := by
  have key : ∀ n, bits .and .u64 (q : Int) ((2 ^ n - 1 : Nat) : Int) = ((q % 2 ^ n : Nat) : Int) ∨ 18446744073709551616 ≤ 2 ^ n - 1 := fun n => by
    rcases Nat.lt_or_ge (2 ^ n - 1) 18446744073709551616 with h | h
    · left; rw [u64_and_nat _ _ hq h, Nat.and_two_pow_sub_one_eq_mod]
    · right; exact h
  rcases hk with ⟨rfl, _⟩ | ⟨rfl, _⟩ | ⟨rfl, _⟩ | ⟨rfl, _⟩ | ⟨rfl, _⟩
  · exact (key 1).resolve_right (by decide)
  · exact (key 2).resolve_right (by decide)
  · exact (key 3).resolve_right (by decide)
  · exact (key 4).resolve_right (by decide)
  · exact (key 5).resolve_right (by decide)
theorem shr_low {q b : Nat} {k : Int} (hk : b = 2 ∧ k = 1 ∨ b = 4 ∧ k = 2 ∨ b = 8 ∧ k = 3 ∨ b = 16 ∧ k = 4 ∨ b = 32 ∧ k = 5) : (q : Int) / 2 ^ k.toNat = ((q / b : Nat) : Int) := by
  rcases hk with ⟨rfl, rfl⟩ | ⟨rfl, rfl⟩ | ⟨rfl, rfl⟩ | ⟨rfl, rfl⟩ | ⟨rfl, rfl⟩ <;> rfl
theorem Zeros.alloc {w : World} (h : Zeros w) (o : Obj) : Zeros (w.alloc o) := Lib.tabIs_alloc h o
theorem slice_at (N : Nat) (W : World) (x : Int) (h0 : 0 ≤ x) (h1 : x < 65) : (Instr.sliceAt 214 (.pointer (some ⟨N, 0, none⟩)) (some (.int .i64 x)) none none).run Tryz.prog W = .ok (.slice (some ⟨N, x.toNat, none⟩) (65 - x.toNat) (65 - x.toNat)) W := by
  have hal : Tryz.prog.arrayLen 214 = 65 := by simp [Program.arrayLen, Tryz.underlying214]
  rw [run_sliceAt_array_l W 214 ⟨N, 0, none⟩ (by simp [Program.arrayLen, Program.elem, Tryz.underlying214]) .i64 x h0 (by rw [hal]; omega)]
  go_simp
  omega
def sg (neg : Bool) : List UInt8 := if neg then [45] else []
set_option maxRecDepth 100000 in
theorem text_of_cells (w : World) (c : Array Value) (l : List UInt8) (m : Nat) (hm : m + l.length = 65) (h : Filled c l) :
    (convert 51 9 (.slice (some ⟨w.heap.size, m, none⟩) (65 - m) (65 - m))).run Tryz.prog (w.alloc (.cells c 214)) = .ok (.string ⟨l.toArray⟩) (w.alloc (.cells c 214)) := by
  obtain ⟨hc, pre, hp⟩ := h
  have hpl : pre.length = m := by
    have := congrArg List.length hp
    rw [Array.length_toList, hc] at this
    simp at this
    omega
  have e := run_convert_bytes_arg (P := Tryz.prog) (w.alloc (.cells c 214)) 51 5 Tryz.underlying51 Tryz.underlying5 w.heap.size m (65 - m) (65 - m) (l.map fun x => (x.toNat : Int)) (by simp; omega)
    (fun i hi => by
      rw [World.cell?_alloc_new, ← Array.getElem?_toList, hp, List.getElem?_append_right (by omega), hpl, Nat.add_sub_cancel_left]
      have hi' : i < l.length := by omega
      simp [hi', List.getD, List.getElem?_eq_getElem hi']) 9 Tryz.underlying9
  rw [e]
  congr 2
  simp only [strOfNums, List.map_map]
  exact congrArg (fun x : List UInt8 => (⟨x.toArray⟩ : ByteArray)) ((List.map_congr_left (g := id) fun x _ => by simp).trans (List.map_id l))
set_option maxHeartbeats 4000000 in
set_option maxRecDepth 100000 in
theorem format_any (U b : Nat) (neg : Bool) (x : Int) (hx : (neg = false ∧ x = U) ∨ (neg = true ∧ IntKind.u64.wrap (-x) = (U : Int))) (h2 : 2 ≤ b) (h36 : b ≤ 36) (h10 : ((b : Int) == 10) = false) (hU : U ≤ 9223372036854775808) (w : World) (hw : Zeros w) :
    Calls Tryz.prog 187 #[.slice none 0 0, .int .u64 x, .int .i64 b, .bool neg, .bool false] w fun e w' => e = .returned (.tuple #[.slice none 0 0, .string ⟨(sg neg ++ Dig.digs Dig.loD b U).toArray⟩]) ∧ Below w.heap.size w w' := by
  have P := Lib.hid (pow_walk b (by omega) (by omega))
  have HF := Lib.hid (Dig.nd_fits (b := b) (u := U) h2 (by omega))
  have HX := Lib.hid hx
  have HZ := Lib.hid hw
  clear hx hw
  go_enter Tryz.func187, Tryz.ntmps187
  go_upto_if 30 with fail
  go_cut [1] (fun u wx => u = .int .u64 U ∧ wx = w.alloc (.cells Tryz.zeroCells214 214))
  case first =>
    rcases HX.out with ⟨rfl, rfl⟩ | ⟨rfl, h⟩
    · go_wp2_with fail; go_meet; exact ⟨rfl, rfl⟩
    · go_wp2_with fail; go_meet; exact ⟨rfl, rfl⟩
  case rest =>
    obtain ⟨rfl, rfl⟩ := hcut
    go_upto_if 34 with (go_at_call 196; refine (P.out _).mono ?_; rintro e w' ⟨rfl, rfl⟩)
    go_cut [13] (fun i wx => Hid (Laid b U w i wx))
    case first =>
      cases hp : powB b
      · go_wp2
        go_loopg [1, 13] (Dig.nd b U) (fun k u i wr => ∃ j n c, k = Dig.nd b U - j ∧ Hid (FmtRel' b U j n c u i) ∧ wr = w.alloc (.cells c 214))
        case atStart => exact ⟨0, 65, _, by omega, fmt_start b U HF.out, rfl⟩
        case round =>
          obtain ⟨j, n, c, rfl, HR, rfl⟩ := hrel
          obtain ⟨⟨hj, hn, rfl, rfl, hf⟩, hge⟩ := HR.out
          have hc := hf.1
          obtain ⟨q, hq⟩ : ∃ q, U / b ^ j = q := ⟨_, rfl⟩
          rw [hq]
          have hqU : q ≤ U := by rw [← hq]; exact Nat.div_le_self _ _
          have hj64 := Nat.lt_of_lt_of_le hj (Dig.nd_le h2 (by omega))
          have hn0 : 0 < n := by omega
          have hn65 : n ≤ 65 := by omega
          have HN := Lib.hid hn
          have HQ := Lib.hid hq
          have HC := Lib.hid hf
          have HG := Lib.hid hge
          obtain ⟨v0, hv0⟩ := cell_in (k := n - 1) hc (by omega)
          clear HR hq hf hn hge
          by_cases hq0 : b ≤ q
          · have r0 : 0 ≤ (q : Int) / (b : Int) := Int.ediv_nonneg (by omega) (by omega)
            have r1 : (q : Int) / (b : Int) * (b : Int) ≤ (q : Int) := Int.ediv_mul_le _ (by omega)
            have r2 : (q : Int) - (q : Int) / (b : Int) * (b : Int) < (b : Int) := by have := Int.emod_lt_of_pos (q : Int) (show (0 : Int) < b by omega); have := Int.emod_def (q : Int) (b : Int); rw [Int.mul_comm] at this; omega
            have r3 : 0 ≤ (q : Int) / (b : Int) * (b : Int) := Int.mul_nonneg r0 (by omega)
            have r4 : (q : Int) / (b : Int) ≤ (q : Int) := Int.ediv_le_self _ (by omega)
            go_wp2
            go_roundg (Dig.nd b U - (j + 1))
            case measure => omega
            case rel => exact ⟨j + 1, n - 1, _, rfl, fmt_next h2 HF.out HQ.out hq0 HN.out hn0 HC.out (congrArg byteV (low_at _ mod_nat (by have := Nat.mod_lt q (show b > 0 by omega); omega))) (congrArg (Value.int .u64) (div_nat q b)) rfl, rfl⟩
          · have hq' : (q : Int) < (b : Int) := by omega
            have hz : q < 36 := by omega
            go_wp2
            go_meet
            exact laid_end h2 h36 (by omega) HQ.out (by omega) HN.out hj HC.out (congrArg byteV (low_at _ rfl hz)) rfl HG.out
      · have hbc := pow_cases h2 h36 hp
        obtain ⟨k, hk⟩ : ∃ k : Int, b = 2 ∧ k = 1 ∨ b = 4 ∧ k = 2 ∨ b = 8 ∧ k = 3 ∨ b = 16 ∧ k = 4 ∨ b = 32 ∧ k = 5 := by
          rcases hbc with h | h | h | h | h
          · exact ⟨1, .inl ⟨h, rfl⟩⟩
          · exact ⟨2, .inr (.inl ⟨h, rfl⟩)⟩
          · exact ⟨3, .inr (.inr (.inl ⟨h, rfl⟩))⟩
          · exact ⟨4, .inr (.inr (.inr (.inl ⟨h, rfl⟩)))⟩
          · exact ⟨5, .inr (.inr (.inr (.inr ⟨h, rfl⟩)))⟩
        have T := Lib.hid (tz_walk b k hk _ (HZ.out.alloc (.cells Tryz.zeroCells214 214)))
        have k1 : 1 ≤ k := by omega
        have k5 : k ≤ 5 := by omega
        have HK := Lib.hid hk
        clear hbc hk
        go_wp2_with (go_at_call 197; refine T.out.mono ?_; rintro e w' ⟨rfl, rfl⟩)
        go_loopg [1, 13] (Dig.nd b U) (fun k u i wr => ∃ j n c, k = Dig.nd b U - j ∧ Hid (FmtRel' b U j n c u i) ∧ wr = w.alloc (.cells c 214))
        case atStart => exact ⟨0, 65, _, by omega, fmt_start b U HF.out, rfl⟩
        case round =>
          obtain ⟨j, n, c, rfl, HR, rfl⟩ := hrel
          obtain ⟨⟨hj, hn, rfl, rfl, hf⟩, hge⟩ := HR.out
          have hc := hf.1
          obtain ⟨q, hq⟩ : ∃ q, U / b ^ j = q := ⟨_, rfl⟩
          rw [hq]
          have hqU : q ≤ U := by rw [← hq]; exact Nat.div_le_self _ _
          have hj64 := Nat.lt_of_lt_of_le hj (Dig.nd_le h2 (by omega))
          have hn0 : 0 < n := by omega
          have hn65 : n ≤ 65 := by omega
          have HN := Lib.hid hn
          have HQ := Lib.hid hq
          have HC := Lib.hid hf
          have HG := Lib.hid hge
          obtain ⟨v0, hv0⟩ := cell_in (k := n - 1) hc (by omega)
          have hqm : q % b < 36 := by have := Nat.mod_lt q (show b > 0 by omega); omega
          clear HR hq hf hn hge
          by_cases hq0 : b ≤ q
          · have hand := and_low (q := q) HK.out (by omega)
            have hshr := shr_low (q := q) HK.out
            go_wp2
            go_roundg (Dig.nd b U - (j + 1))
            case measure => omega
            case rel => exact ⟨j + 1, n - 1, _, rfl, fmt_next h2 HF.out HQ.out hq0 HN.out hn0 HC.out (congrArg byteV (low_at _ (by first | rfl | simp) hqm)) rfl rfl, rfl⟩
          · have hq' : (q : Int) < (b : Int) := by omega
            have hz : q < 36 := by omega
            go_wp2
            go_meet
            exact laid_end h2 h36 (by omega) HQ.out (by omega) HN.out hj HC.out (congrArg byteV (low_at _ rfl hz)) rfl HG.out
    case rest =>
      obtain ⟨n, c, hn, rfl, hf, rfl⟩ := hcut.out
      have hl := Dig.digs_length Dig.loD b U
      have hn0 : 0 < n := by have := Dig.nd_le (b := b) (u := U) h2 (by omega); omega
      have hn65 : n < 65 := by have := HF.out.1; omega
      have HN := Lib.hid hn
      have HL := Lib.hid hf
      obtain ⟨v0, hv0⟩ := cell_in (k := n - 1) hf.1 (by omega)
      clear hcut hn hf hl
      go_upto_if 89 with fail
      go_cut [13] (fun i wx => Hid (∃ (m : Nat) (c : Array Value), m + (sg neg ++ Dig.digs Dig.loD b U).length = 65 ∧ i = .int .i64 m ∧ Filled c (sg neg ++ Dig.digs Dig.loD b U) ∧ wx = w.alloc (.cells c 214)))
      case first =>
        cases neg
        · go_wp2_with fail
          go_meet
          exact ⟨n, c, by have h1 := HN.out; rw [← Dig.digs_length Dig.loD] at h1; exact h1, rfl, HL.out, rfl⟩
        · go_wp2_with fail
          go_meet
          exact ⟨n - 1, _, by have h1 := HN.out; have h3 := Dig.digs_length Dig.loD b U; rw [show sg true ++ Dig.digs Dig.loD b U = 45 :: Dig.digs Dig.loD b U from rfl, List.length_cons]; omega, congrArg (Value.int .i64) (by omega), fill_step (x := 45) (l := Dig.digs Dig.loD b U) HL.out (by rw [Dig.digs_length]; exact HN.out) hn0 rfl, rfl⟩
      case rest =>
        obtain ⟨m, c2, hm, rfl, hf2, rfl⟩ := hcut.out
        have hl1 : 1 ≤ (sg neg ++ Dig.digs Dig.loD b U).length := by
          rw [List.length_append, Dig.digs_length]; have := HF.out.1; omega
        obtain ⟨l, hl⟩ : ∃ l, (sg neg ++ Dig.digs Dig.loD b U) = l := ⟨_, rfl⟩
        rw [hl] at hm hf2 hl1
        have hsl := slice_at w.heap.size (w.alloc (.cells c2 214)) m (by omega) (by omega)
        have hcv := text_of_cells w c2 l m hm hf2
        rw [Int.toNat_natCast] at hsl
        have HL2 := Lib.hid hl
        clear hl hcut hm hf2 hl1 hv0 hn0 hn65 hU
        go_wp2
        go_ret2
        exact ⟨by rw [HL2.out]; rfl, (Below.refl _ _).alloc (Nat.le_refl _) _⟩
end Go.Proofs.YthnciokmomgfeaaGreatDoor
/- The walk of the document's own Put (hollowayref1: digits). -/
namespace Go.Proofs.YthnciokmomgfeaaGreatDoor
open Go.RowKit
set_option linter.unusedSimpArgs false
set_option linter.unusedVariables false

abbrev txt (l : List UInt8) : Value := .string ⟨l.toArray⟩
abbrev upText : ByteArray := ⟨#[48, 49, 50, 51, 52, 53, 54, 55, 56, 57, 65, 66, 67, 68, 69, 70, 71, 72, 73, 74, 75, 76, 77, 78, 79, 80, 81, 82, 83, 84, 85, 86, 87, 88, 89, 90]⟩
theorem up_piece_fin : ∀ k : Fin 36, (upText.data.toList.drop k.val).take 1 = [Dig.upD k.val] := by decide +kernel
theorem up_piece {k : Nat} (h : k < 36) : upText.extract k (k + 1) = ⟨[Dig.upD k].toArray⟩ := by
  rw [Lib.extract_eq, Nat.add_sub_cancel_left, up_piece_fin ⟨k, h⟩]
theorem txt_cons (c : UInt8) (l : List UInt8) : (⟨[c].toArray⟩ : ByteArray) ++ ⟨l.toArray⟩ = ⟨(c :: l).toArray⟩ := by
  apply ByteArray.ext; simp [ByteArray.data_append]
set_option maxHeartbeats 1000000 in
theorem refPut_wrong (v b : Int) (hb : Dig.rightB b = false) (w : World) :
    Calls Tryz.prog 45 #[.int .i64 v, .int .i64 b] w fun e w' => e = .returned (txt []) ∧ w = w' := by
  simp only [Dig.rightB, Bool.and_eq_false_iff, decide_eq_false_iff_not] at hb
  by_cases h0 : b < 2
  · clear hb
    go_enter Tryz.func45, Tryz.ntmps45
    go_wp2
    go_ret
    exact ⟨rfl, rfl⟩
  · have h1 : 36 < b := by omega
    clear hb
    go_enter Tryz.func45, Tryz.ntmps45
    go_wp2
    go_ret
    exact ⟨rfl, rfl⟩
def PutRel (b U j : Nat) (u s : Value) : Prop := j ≤ Dig.nd b U ∧ (j ≤ 1 ∨ b ^ (j - 1) ≤ U) ∧ u = .int .u64 (U / b ^ j : Nat) ∧ s = txt (Dig.suf Dig.upD b U j)
theorem neg_u64 {U : Nat} (h : (U : Int) ≤ 9223372036854775808) : IntKind.u64.wrap (-IntKind.u64.wrap (-(U : Int))) = (U : Int) := by
  have e : ∀ x, IntKind.u64.wrap x = x % 18446744073709551616 := fun x => by simp [IntKind.wrap, IntKind.bits, IntKind.signed]
  rw [e, e]; omega
theorem pos_u64 {U : Nat} (h : (U : Int) ≤ 9223372036854775807) : IntKind.u64.wrap (U : Int) = (U : Int) := by
  have e : ∀ x, IntKind.u64.wrap x = x % 18446744073709551616 := fun x => by simp [IntKind.wrap, IntKind.bits, IntKind.signed]
  rw [e]; omega
theorem put_start (b U : Nat) (x : Int) (h : x = U) : PutRel b U 0 (.int .u64 x) (.string ⟨#[]⟩) :=
  ⟨Nat.zero_le _, .inl (Nat.zero_le _), by rw [h, Nat.pow_zero, Nat.div_one], rfl⟩
theorem put_next {b U j q : Nat} {l : List UInt8} (hf : Dig.Fits b U (Dig.nd b U)) (h2 : 2 ≤ b) (hq : U / b ^ j = q) (hl : Dig.suf Dig.upD b U j = l) (hgo : 0 < q ∨ j = 0) :
    j < Dig.nd b U ∧ PutRel b U (j + 1) (.int .u64 (q / b : Nat)) (txt (Dig.upD (q % b) :: l)) := by
  have hb : 0 < b ^ j := Nat.pow_pos (by omega)
  have hlt : j < Dig.nd b U := by
    rcases hgo with h | h
    · rcases Nat.lt_or_ge j (Dig.nd b U) with h3 | h3
      · exact h3
      · have h4 : b ^ Dig.nd b U ≤ b ^ j := Nat.pow_le_pow_right (by omega) h3
        have : U / b ^ j = 0 := Nat.div_eq_of_lt (Nat.lt_of_lt_of_le hf.2.1 h4)
        omega
    · have := hf.1; omega
  refine ⟨hlt, hlt, ?_, ?_, ?_⟩
  · rcases hgo with h | h
    · right
      rw [Nat.add_sub_cancel]
      rw [← hq] at h
      exact (Nat.div_pos_iff.1 h).2
    · left; omega
  · rw [← hq, Nat.div_div_eq_div_mul, ← Nat.pow_succ]
  · rw [Dig.suf, hq, hl]
theorem put_end {b U j : Nat} (hu : U < 18446744073709551616) (h2 : 2 ≤ b) (hj : 1 ≤ j) (hq : U / b ^ j = 0) (hlow : j ≤ 1 ∨ b ^ (j - 1) ≤ U) : Dig.suf Dig.upD b U j = Dig.digs Dig.upD b U := by
  unfold Dig.digs
  rw [Dig.nd_eq h2 hu ⟨hj, ?_, ?_⟩]
  · rcases Nat.lt_or_ge U (b ^ j) with h | h
    · exact h
    · have := Nat.div_pos h (Nat.pow_pos (by omega)); omega
  · rcases hlow with h | h
    · left; omega
    · right; exact h
theorem mod_int (q b : Nat) : ((q : Int) % (b : Int)) = ((q % b : Nat) : Int) := by omega
theorem div_int (q b : Nat) : ((q : Int) / (b : Int)) = ((q / b : Nat) : Int) := by omega
set_option maxHeartbeats 4000000 in
set_option maxRecDepth 100000 in
theorem refPut_right (v : Int) (b : Nat) (h2 : 2 ≤ b) (h36 : b ≤ 36) (v0 : -9223372036854775808 ≤ v) (v1 : v ≤ 9223372036854775807) (w : World) :
    Calls Tryz.prog 45 #[.int .i64 v, .int .i64 b] w fun e w' => e = .returned (txt (Dig.putV Dig.upD v b)) ∧ w = w' := by
  have hf := Dig.nd_fits (b := b) (u := v.natAbs) h2 (Dig.abs_lt v0 v1)
  have hul := Dig.abs_lt v0 v1
  by_cases hn : v < 0
  · obtain ⟨U, rfl⟩ : ∃ U : Nat, v = -(U : Int) := ⟨v.natAbs, by omega⟩
    have hU : (-(U : Int)).natAbs = U := by omega
    rw [hU] at hf hul
    have HP := Lib.hid (show Dig.putV Dig.upD (-(U : Int)) b = 45 :: Dig.digs Dig.upD b U from by unfold Dig.putV Dig.sgn; rw [if_pos hn, hU]; rfl)
    have HF := Lib.hid hf
    have HU := Lib.hid hul
    clear hf hU hul
    go_enter Tryz.func45, Tryz.ntmps45
    go_wp2
    go_loopg [5, 6] (Dig.nd b U) (fun k u s wr => ∃ j, k = Dig.nd b U - j ∧ Hid (PutRel b U j u s) ∧ w = wr)
    case atStart => exact ⟨0, by omega, put_start _ _ _ (neg_u64 (by omega)), rfl⟩
    case round =>
      obtain ⟨j, rfl, HR, rfl⟩ := hrel
      obtain ⟨hj, hlow, rfl, rfl⟩ := HR.out
      clear HR
      have HJ := Lib.hid hlow
      obtain ⟨q, hq⟩ : ∃ q, U / b ^ j = q := ⟨_, rfl⟩
      obtain ⟨l, hl⟩ : ∃ l, Dig.suf Dig.upD b U j = l := ⟨_, rfl⟩
      rw [hq, hl]
      have hqU : q ≤ U := by rw [← hq]; exact Nat.div_le_self _ _
      have hll : l.length ≤ 64 := by
        rw [← hl, Dig.suf_length]
        exact Nat.le_trans hj (Dig.nd_le h2 HU.out)
      have HQ := Lib.hid hq
      have HL := Lib.hid hl
      clear hq hl hlow
      by_cases hq0 : 0 < q
      · have r0 : 0 ≤ (q : Int) % (b : Int) := by omega
        have r1 : (q : Int) % (b : Int) < 36 := by have := Int.emod_lt_of_pos (q : Int) (show (0 : Int) < b by omega); omega
        have r2 : min (q % b + 1) 36 - q % b + l.length ≤ 9223372036854775807 := by omega
        have r3 : (q : Int) / (b : Int) ≤ 18446744073709551615 := by
          have h := HU.out
          rw [div_int]
          have := Nat.div_le_self q b
          omega
        have r4 : 0 ≤ (q : Int) / (b : Int) := Int.ediv_nonneg (by omega) (by omega)
        have hN := Lib.hid (put_next (b := b) (U := U) (j := j) HF.out h2 HQ.out HL.out (.inl hq0))
        have hup := Lib.hid (up_piece (k := q % b) (by have := Nat.mod_lt q (show b > 0 by omega); omega))
        go_wp2
        go_roundg (Dig.nd b U - (j + 1))
        case measure => have := hN.out.1; omega
        case rel => exact ⟨j + 1, rfl, by rw [div_int, hup.out, txt_cons]; exact hN.out.2, rfl⟩
      · obtain rfl : q = 0 := by omega
        by_cases hj0 : j = 0
        · subst hj0
          obtain rfl : [] = l := HL.out
          have hN := Lib.hid (put_next (b := b) (U := U) (j := 0) HF.out h2 HQ.out HL.out (.inr rfl))
          have hup := Lib.hid (up_piece (k := 0) (by omega))
          clear hll
          go_wp2
          go_roundg (Dig.nd b U - (0 + 1))
          case measure => have := hN.out.1; omega
          case rel => exact ⟨0 + 1, rfl, by
            have h := hN.out.2
            rw [Nat.zero_div, Nat.zero_mod] at h
            exact h, rfl⟩
        · have hne : l.isEmpty = false := by
            have h := HL.out
            cases l with
            | nil => cases j with
              | zero => exact absurd rfl hj0
              | succ j => cases h
            | cons _ _ => rfl
          have hE := put_end (b := b) (U := U) (j := j) HU.out h2 (by omega) HQ.out HJ.out
          rw [HL.out] at hE
          have HE := Lib.hid hE
          have h1l : 1 + l.length ≤ 9223372036854775807 := by omega
          clear hE
          go_wp2
          go_ret
          exact ⟨by rw [HP.out, ← HE.out]; first | rfl | exact congrArg (fun x => Ending.returned (.string x)) (txt_cons 45 _), rfl⟩
  · obtain ⟨U, rfl⟩ : ∃ U : Nat, v = (U : Int) := ⟨v.natAbs, by omega⟩
    have hU : (U : Int).natAbs = U := by omega
    rw [hU] at hf hul
    have HP := Lib.hid (show Dig.putV Dig.upD (U : Int) b = Dig.digs Dig.upD b U from by unfold Dig.putV Dig.sgn; rw [if_neg hn, hU]; rfl)
    have HF := Lib.hid hf
    have HU := Lib.hid hul
    clear hf hU hul
    go_enter Tryz.func45, Tryz.ntmps45
    go_wp2
    go_loopg [5, 6] (Dig.nd b U) (fun k u s wr => ∃ j, k = Dig.nd b U - j ∧ Hid (PutRel b U j u s) ∧ w = wr)
    case atStart => exact ⟨0, by omega, put_start _ _ _ (by first | rfl | exact pos_u64 (by omega)), rfl⟩
    case round =>
      obtain ⟨j, rfl, HR, rfl⟩ := hrel
      obtain ⟨hj, hlow, rfl, rfl⟩ := HR.out
      clear HR
      have HJ := Lib.hid hlow
      obtain ⟨q, hq⟩ : ∃ q, U / b ^ j = q := ⟨_, rfl⟩
      obtain ⟨l, hl⟩ : ∃ l, Dig.suf Dig.upD b U j = l := ⟨_, rfl⟩
      rw [hq, hl]
      have hqU : q ≤ U := by rw [← hq]; exact Nat.div_le_self _ _
      have hll : l.length ≤ 64 := by
        rw [← hl, Dig.suf_length]
        exact Nat.le_trans hj (Dig.nd_le h2 HU.out)
      have HQ := Lib.hid hq
      have HL := Lib.hid hl
      clear hq hl hlow
      by_cases hq0 : 0 < q
      · have r0 : 0 ≤ (q : Int) % (b : Int) := by omega
        have r1 : (q : Int) % (b : Int) < 36 := by have := Int.emod_lt_of_pos (q : Int) (show (0 : Int) < b by omega); omega
        have r2 : min (q % b + 1) 36 - q % b + l.length ≤ 9223372036854775807 := by omega
        have r3 : (q : Int) / (b : Int) ≤ 18446744073709551615 := by
          have h := HU.out
          rw [div_int]
          have := Nat.div_le_self q b
          omega
        have r4 : 0 ≤ (q : Int) / (b : Int) := Int.ediv_nonneg (by omega) (by omega)
        have hN := Lib.hid (put_next (b := b) (U := U) (j := j) HF.out h2 HQ.out HL.out (.inl hq0))
        have hup := Lib.hid (up_piece (k := q % b) (by have := Nat.mod_lt q (show b > 0 by omega); omega))
        go_wp2
        go_roundg (Dig.nd b U - (j + 1))
        case measure => have := hN.out.1; omega
        case rel => exact ⟨j + 1, rfl, by rw [div_int, hup.out, txt_cons]; exact hN.out.2, rfl⟩
      · obtain rfl : q = 0 := by omega
        by_cases hj0 : j = 0
        · subst hj0
          obtain rfl : [] = l := HL.out
          have hN := Lib.hid (put_next (b := b) (U := U) (j := 0) HF.out h2 HQ.out HL.out (.inr rfl))
          have hup := Lib.hid (up_piece (k := 0) (by omega))
          clear hll
          go_wp2
          go_roundg (Dig.nd b U - (0 + 1))
          case measure => have := hN.out.1; omega
          case rel => exact ⟨0 + 1, rfl, by
            have h := hN.out.2
            rw [Nat.zero_div, Nat.zero_mod] at h
            exact h, rfl⟩
        · have hne : l.isEmpty = false := by
            have h := HL.out
            cases l with
            | nil => cases j with
              | zero => exact absurd rfl hj0
              | succ j => cases h
            | cons _ _ => rfl
          have hE := put_end (b := b) (U := U) (j := j) HU.out h2 (by omega) HQ.out HJ.out
          rw [HL.out] at hE
          have HE := Lib.hid hE
          have h1l : 1 + l.length ≤ 9223372036854775807 := by omega
          clear hE
          go_wp2
          go_ret
          exact ⟨by rw [HP.out, ← HE.out]; rfl, rfl⟩
/-- what Put tells, whatever the base is -/
def putT (v b : Int) : List UInt8 := if Dig.rightB b then Dig.putV Dig.upD v b else []
theorem refPut_any (v b : Int) (v0 : -9223372036854775808 ≤ v) (v1 : v ≤ 9223372036854775807) (w : World) :
    Calls Tryz.prog 45 #[.int .i64 v, .int .i64 b] w fun e w' => e = .returned (txt (putT v b)) ∧ w = w' := by
  unfold putT
  cases hb : Dig.rightB b with
  | false => exact refPut_wrong v b hb w
  | true =>
    simp only [Dig.rightB, Bool.and_eq_true, decide_eq_true_eq] at hb
    obtain ⟨n, rfl⟩ := Int.eq_ofNat_of_zero_le (show 0 ≤ b by omega)
    exact refPut_right v n (by omega) (by omega) v0 v1 w
end Go.Proofs.YthnciokmomgfeaaGreatDoor
/- Walks of a strings.Builder of a call's own: copyCheck, WriteString, WriteByte, grow, Grow. -/
namespace Go.Proofs.YthnciokmomgfeaaGreatDoor
open Go.RowKit
set_option linter.unusedSimpArgs false
set_option linter.unusedVariables false
theorem below_drewN (B : Nat) (w : World) : ∀ n, Below B w (w.drewN n)
  | 0 => Below.refl _ _
  | n + 1 => by rw [← World.drew_drewN]; exact (below_drewN B w n).drew
abbrev BT : TypeId := 186
abbrev U8 : TypeId := 5
abbrev strData (s : ByteArray) : List UInt8 := s.data.toList
theorem Tryz.builderSize : (Tryz.prog.info? BT).map (·.size) = some 2 := by kernel_rfl
theorem Tryz.builderLies : liesAt Tryz.prog Tryz.prog.depth BT (2 / Tryz.prog.cellsOf BT) 0 BT 1 = true := by kernel_rfl
theorem Tryz.infoByte : (Tryz.prog.info? U8).map (fun i => (i.zero, i.size, i.bytes)) = some (some (.int .u8 0), 1, 1) := by kernel_rfl
set_option maxHeartbeats 1000000 in
set_option maxRecDepth 100000 in
theorem copyCheck_used (b : Nat) (w : World) (h0 : w.cell? ⟨b, 0, none⟩ = some (.pointer (some ⟨b, 0, none⟩))) :
    Calls Tryz.prog 177 #[.pointer (some ⟨b, 0, none⟩)] w fun e w' => e = .returned (.tuple #[]) ∧ w' = w := by
  obtain ⟨j, hj, _⟩ := Option.map_eq_some_iff.1 Tryz.builderSize
  go_enter Tryz.func177, Tryz.ntmps177
  go_wp2
  rw [Lib.run_neq_ptr_same w _ Tryz.underlying184 hj]
  go_wp2
  go_end0
  exact ⟨rfl, rfl⟩
set_option maxHeartbeats 1000000 in
set_option maxRecDepth 100000 in
theorem copyCheck_fresh (b : Nat) (w : World) (h0 : w.cell? ⟨b, 0, none⟩ = some (.pointer none)) (hsh : w.shape? b = some (BT, 2)) (hfz : w.frozen? ⟨b, 0, none⟩ = false) :
    Calls Tryz.prog 177 #[.pointer (some ⟨b, 0, none⟩)] w fun e w' => e = .returned (.tuple #[]) ∧ w' = w.setCell ⟨b, 0, none⟩ (.pointer (some ⟨b, 0, none⟩)) := by
  obtain ⟨j, hj, hjs⟩ := Option.map_eq_some_iff.1 Tryz.builderSize
  go_enter Tryz.func177, Tryz.ntmps177
  go_wp2
  rw [Lib.run_to_unsafe w ⟨b, 0, none⟩ Tryz.underlying184 Tryz.underlying156 hj (by rw [hjs]; decide) hsh (Nat.zero_lt_succ 1)]
  simp only [Result.andThen]
  rw [Oper.upon_value]
  go_wp2
  rw [run_callFunc_extern Tryz.func188 (by kernel_rfl) (by kernel_rfl) (by kernel_rfl) (e := Extern.AbiNoEscape.same) (by kernel_rfl)]
  rw [Lib.run_noEscape]
  simp only [Result.andThen]
  rw [Oper.upon_value]
  go_wp2
  rw [Lib.run_from_unsafe w ⟨b, 0, none⟩ Tryz.underlying156 Tryz.underlying184 hj hsh Tryz.builderLies]
  simp only [Result.andThen]
  rw [Oper.upon_value]
  go_wp2
  go_end0
  exact ⟨rfl, rfl⟩
theorem copyCheck_any (B b : Nat) (bs : List Value) (w : World) (h : Lib.IsBuilder BT U8 B b bs w) :
    Calls Tryz.prog 177 #[.pointer (some ⟨b, 0, none⟩)] w fun e w' => e = .returned (.tuple #[]) ∧ Lib.BuilderAt BT U8 B b (.pointer (some ⟨b, 0, none⟩)) bs w' ∧ Below B w w' := by
  rcases h with h | h
  · exact (copyCheck_fresh b w h.cell0 h.shape h.frozen0).mono fun e w' ⟨h1, h2⟩ => ⟨h1, h2 ▸ h.used _, h2 ▸ (Below.refl B w).setCell (p := ⟨b, 0, none⟩) h.1 _⟩
  · exact (copyCheck_used b w h.cell0).mono fun e w' ⟨h1, h2⟩ => ⟨h1, h2 ▸ h, h2 ▸ Below.refl B _⟩
set_option maxHeartbeats 2000000 in
theorem writeString (B b : Nat) (bs : List Value) (s : ByteArray) (w : World) (h : Lib.IsBuilder BT U8 B b bs w) (hlen : bs.length + s.size ≤ 140737488355328) (hBw : B ≤ w.heap.size) :
    Calls Tryz.prog 170 #[.pointer (some ⟨b, 0, none⟩), .string s] w fun e w' => e = .returned (.tuple #[.int .i64 s.size, .nilIface]) ∧ Lib.IsBuilder BT U8 B b (bs ++ Lib.strCells s) w' ∧ Below B w w' := by
  obtain ⟨i0, hi, hz0, hz1, hz2⟩ := info_parts Tryz.infoByte
  have C := Lib.hid (copyCheck_any B b bs w h)
  clear h
  go_enter Tryz.func170, Tryz.ntmps170
  go_wp2_with (go_at_call 177; refine C.out.mono ?_)
  rintro e w1 ⟨rfl, h1, hb1⟩
  obtain ⟨hB, v, hbk, hown, hne⟩ := h1
  have c1 : w1.cell? ⟨b, 1, none⟩ = some v := by rw [Lib.cell_of_heap hbk]; rfl
  go_wp2_with (at_builtin; refine Lib.wpList_append_own_string _ rfl _ _ 51 9 rfl B U8 i0 Tryz.underlying51 Tryz.underlying9 hi hz0 hz1 hz2 _ _ _ rfl hown s rfl ?c3 ?c4 ?c5 ?_)
  case c3 => unfold maxLen; omega
  case c4 => omega
  case c5 => have := hb1.size; omega
  intro v' w2 hown' hgrow _
  have hlt : b < w1.heap.size := by
    rcases Nat.lt_or_ge b w1.heap.size with h' | h'
    · exact h'
    · simp [Array.getElem?_eq_none h'] at hbk
  have hb2 : w2.heap[b]? = some (.cells #[.pointer (some ⟨b, 0, none⟩), v] BT (0, 0)) := by
    rw [hgrow.block b hlt (fun e => hne e.symm)]
    exact hbk
  have d0 : w2.cell? ⟨b, 0, none⟩ = some (.pointer (some ⟨b, 0, none⟩)) := by rw [Lib.cell_of_heap hb2]; rfl
  have d1 : w2.cell? ⟨b, 1, none⟩ = some v := by rw [Lib.cell_of_heap hb2]; rfl
  have f1 : w2.frozen? ⟨b, 1, none⟩ = false := Lib.frozen_of_heap hb2 1
  obtain ⟨ao, n', cap, rfl⟩ : ∃ ao n' cap, v' = .slice ao n' cap := by
    rcases hown'.2 with ⟨hv, _⟩ | ⟨g, cap, cur, hv, _⟩
    · exact ⟨_, _, _, hv⟩
    · exact ⟨_, _, _, hv⟩
  go_wp2
  go_ret2
  refine ⟨rfl, .inr ?_, ?_⟩
  · exact Lib.BuilderAt.put (T := BT) (e := U8) hB hb2 (bs' := bs ++ Lib.strCells s) (by simpa [Lib.strCells_length] using hown') (by decide)
  · exact (hb1.grown hgrow (by have := hb1.size; omega) (fun k hk => (hown.lt k hk).1)).setCell (p := ⟨b, 1, none⟩) hB _
end Go.Proofs.YthnciokmomgfeaaGreatDoor
/- Walks of a strings.Builder of a call's own: WriteByte, grow, Grow. -/
namespace Go.Proofs.YthnciokmomgfeaaGreatDoor
open Go.RowKit
set_option linter.unusedSimpArgs false
set_option linter.unusedVariables false
set_option maxHeartbeats 2000000 in
theorem writeByte (B b : Nat) (bs : List Value) (c : Int) (w : World) (h : Lib.IsBuilder BT U8 B b bs w) (hlen : bs.length + 1 ≤ 140737488355328) (hBw : B ≤ w.heap.size) :
    Calls Tryz.prog 171 #[.pointer (some ⟨b, 0, none⟩), .int .u8 c] w fun e w' => e = .returned .nilIface ∧ Lib.IsBuilder BT U8 B b (bs ++ [.int .u8 c]) w' ∧ Below B w w' := by
  obtain ⟨i0, hi, hz0, hz1, hz2⟩ := info_parts Tryz.infoByte
  have C := Lib.hid (copyCheck_any B b bs w h)
  clear h
  go_enter Tryz.func171, Tryz.ntmps171
  go_wp2_with (go_at_call 177; refine C.out.mono ?_)
  rintro e w1 ⟨rfl, h1, hb1⟩
  obtain ⟨hB, v, hbk, hown, hne⟩ := h1
  have c1 : w1.cell? ⟨b, 1, none⟩ = some v := by rw [Lib.cell_of_heap hbk]; rfl
  have hlt : b < w1.heap.size := by
    rcases Nat.lt_or_ge b w1.heap.size with h' | h'
    · exact h'
    · simp [Array.getElem?_eq_none h'] at hbk
  go_wp2_with (at_builtin; refine wpList_append_own _ rfl _ _ 51 rfl B U8 i0 (.int .u8 0) 1 1 Tryz.underlying51 hi hz0 hz1 hz2 rfl (by decide) _ _ _ rfl (hown.alloc _) ⟨w1.heap.size, 0, none⟩ 1 1 [.int .u8 c] rfl rfl ?c1 ?c2 ?c3 ?c4 ?c5 ?_)
  case c1 =>
    intro j u hj
    match j, hj with
    | 0, hj => simp at hj; subst hj; simp [Addr.add]
  case c2 => intro u hu; simp at hu; subst hu; rfl
  case c3 => unfold maxLen; omega
  case c4 => omega
  case c5 => have := hb1.size; simp; omega
  intro v' w2 hown' hgrow _
  have hlt2 : b < (w1.alloc (.cells #[.int .u8 c] U8)).heap.size := by simp; omega
  have hbk2 : (w1.alloc (.cells #[.int .u8 c] U8)).heap[b]? = some (.cells #[.pointer (some ⟨b, 0, none⟩), v] BT (0, 0)) := (Lib.alloc_old w1 _ b hlt).trans hbk
  have hb2 : w2.heap[b]? = some (.cells #[.pointer (some ⟨b, 0, none⟩), v] BT (0, 0)) := by
    rw [hgrow.block b hlt2 (fun e => hne e.symm)]
    exact hbk2
  have d0 : w2.cell? ⟨b, 0, none⟩ = some (.pointer (some ⟨b, 0, none⟩)) := by rw [Lib.cell_of_heap hb2]; rfl
  have d1 : w2.cell? ⟨b, 1, none⟩ = some v := by rw [Lib.cell_of_heap hb2]; rfl
  have f1 : w2.frozen? ⟨b, 1, none⟩ = false := Lib.frozen_of_heap hb2 1
  obtain ⟨ao, n', cap, rfl⟩ : ∃ ao n' cap, v' = .slice ao n' cap := by
    rcases hown'.2 with ⟨hv, _⟩ | ⟨g, cap, cur, hv, _⟩
    · exact ⟨_, _, _, hv⟩
    · exact ⟨_, _, _, hv⟩
  go_wp2
  go_ret
  refine ⟨rfl, .inr ?_, ?_⟩
  · exact Lib.BuilderAt.put (T := BT) (e := U8) hB hb2 (bs' := bs ++ [.int .u8 c]) (by simpa using hown') (by decide)
  · exact (((hb1.alloc (by have := hb1.size; omega) _)).grown hgrow (by have := hb1.size; simp; omega) (fun k hk => (hown.lt k hk).1)).setCell (p := ⟨b, 1, none⟩) hB _
theorem Tryz.sizeByte : (Tryz.prog.info? U8).map (·.size) = some 1 := by kernel_rfl
set_option maxHeartbeats 2000000 in
set_option maxRecDepth 1000000 in
theorem grow_fresh (B b n : Nat) (w : World) (hB : B ≤ b) (hbk : w.heap[b]? = some (.cells #[.pointer (some ⟨b, 0, none⟩), .slice none 0 0] BT (0, 0))) (hBw : B ≤ w.heap.size) (hn : n ≤ 140737488355328) :
    Calls Tryz.prog 178 #[.pointer (some ⟨b, 0, none⟩), .int .i64 n] w fun e w' => e = .returned (.tuple #[]) ∧ Lib.BuilderAt BT U8 B b (.pointer (some ⟨b, 0, none⟩)) [] w' ∧ Below B w w' := by
  obtain ⟨cs, hrun, hle, hmax⟩ := Lib.run_makeNoZero (P := Tryz.prog) w.drew #[3] 51 U8 Tryz.underlying51 n (by omega)
  have hw : IntKind.i64.wrap (IntKind.i64.wrap 0 + (n : Int)) = n := by
    rw [IntKind.wrap_i64, IntKind.wrap_i64]
    omega
  have hcall : (callFunc 189 #[.int .i64 (IntKind.i64.wrap (IntKind.i64.wrap 0 + (n : Int)))]).run Tryz.prog w.drew = .ok (.value (.slice (some ⟨w.drew.heap.size, 0, none⟩) n cs.size)) (w.drew.drew.drew.alloc (.cells cs U8)) := by
    rw [hw, run_callFunc_extern Tryz.func189 (by kernel_rfl) (by kernel_rfl) (by kernel_rfl) (e := Extern.BytealgMakeNoZero.makeNoZero #[3] #[51]) (by kernel_rfl), hrun]
    rfl
  have hlt : b < w.heap.size := by
    rcases Nat.lt_or_ge b w.heap.size with h' | h'
    · exact h'
    · simp [Array.getElem?_eq_none h'] at hbk
  have c1 : w.drew.cell? ⟨b, 1, none⟩ = some (.slice none 0 0) := by
    have : w.drew.heap[b]? = _ := hbk
    rw [Lib.cell_of_heap this]; rfl
  have hb2 : (w.alloc (.cells cs U8)).heap[b]? = some (.cells #[.pointer (some ⟨b, 0, none⟩), .slice none 0 0] BT (0, 0)) := (Lib.alloc_old w _ b hlt).trans hbk
  have c2 : (w.alloc (.cells cs U8)).cell? ⟨b, 1, none⟩ = some (.slice none 0 0) := by rw [Lib.cell_of_heap hb2]; rfl
  have f2 : (w.alloc (.cells cs U8)).frozen? ⟨b, 1, none⟩ = false := Lib.frozen_of_heap hb2 1
  have hcopy : ∀ W : World, (Builtin.copy_ #[51, 51] 3 #[.slice (some ⟨w.heap.size, 0, none⟩) 0 cs.size, .slice none 0 0]).run Tryz.prog W = .ok (goInt 0) W :=
    fun W => run_copy_none W 51 51 3 U8 _ _ 0 cs.size 0 0 Tryz.underlying51 Tryz.sizeByte rfl
  have hfin := Lib.grown_fresh (T := BT) (e := U8) (cs := cs) hB hbk hBw (hmax (by unfold maxLen; omega)) (by decide)
  have HF := Lib.hid hfin
  clear hw hrun hle hmax hfin hb2 hlt
  go_enter Tryz.func178, Tryz.ntmps178
  go_wp2
  go_region
  all_goals (go_wp2; go_end0; exact ⟨rfl, HF.out⟩)
set_option maxHeartbeats 2000000 in
set_option maxRecDepth 1000000 in
theorem Grow_fresh (B b n : Nat) (w : World) (hB : B ≤ b) (hbk : w.heap[b]? = some (.cells #[.pointer none, .slice none 0 0] BT (0, 0))) (hBw : B ≤ w.heap.size) (hn : n ≤ 140737488355328) :
    Calls Tryz.prog 169 #[.pointer (some ⟨b, 0, none⟩), .int .i64 n] w fun e w' => e = .returned (.tuple #[]) ∧ Lib.BuilderAt BT U8 B b (.pointer (some ⟨b, 0, none⟩)) [] w' ∧ Below B w w' := by
  have hbk1 : (w.setCell ⟨b, 0, none⟩ (.pointer (some ⟨b, 0, none⟩))).heap[b]? = some (.cells #[.pointer (some ⟨b, 0, none⟩), .slice none 0 0] BT (0, 0)) := by
    simp [World.setCell, Array.getElem?_modify, hbk]
  have C := Lib.hid (copyCheck_fresh b w (by rw [Lib.cell_of_heap hbk]; rfl) (by simp [World.shape?, hbk]) (Lib.frozen_of_heap hbk 0))
  obtain ⟨W, hW⟩ : ∃ W, w.setCell ⟨b, 0, none⟩ (.pointer (some ⟨b, 0, none⟩)) = W := ⟨_, rfl⟩
  have hb1 : Below B w W := hW ▸ (Below.refl B w).setCell (p := ⟨b, 0, none⟩) hB _
  rw [hW] at hbk1 C
  have c1 : W.cell? ⟨b, 1, none⟩ = some (.slice none 0 0) := by rw [Lib.cell_of_heap hbk1]; rfl
  have hU : Lib.BuilderAt BT U8 B b (.pointer (some ⟨b, 0, none⟩)) [] W := ⟨hB, .slice none 0 0, hbk1, World.ownsRow_nil _ _ _ _, by simp [Value.ownBlock]⟩
  have G : ∀ k, Hid (Calls Tryz.prog 178 #[.pointer (some ⟨b, 0, none⟩), .int .i64 n] (W.drewN k) fun e w' => e = .returned (.tuple #[]) ∧ Lib.BuilderAt BT U8 B b (.pointer (some ⟨b, 0, none⟩)) [] w' ∧ Below B (W.drewN k) w') :=
    fun k => grow_fresh B b n (W.drewN k) hB hbk1 (by have := hb1.size; show B ≤ W.heap.size; omega) hn
  have HB := Lib.hid hb1
  have HU := Lib.hid hU
  clear hb1 hU hbk1 hbk hW hBw
  go_enter Tryz.func169, Tryz.ntmps169
  go_wp2_with (go_at_call 177; refine C.out.mono ?_; rintro e w' ⟨rfl, rfl⟩)
  go_quiet (fail)
  go_wp2_with (go_at_call 178; refine (G _).out.mono ?_; rintro e w2 ⟨rfl, h1, h2⟩)
  · go_end0
    exact ⟨rfl, h1, (HB.out.trans (below_drewN _ _ _)).trans h2⟩
  · go_end0
    exact ⟨rfl, HU.out, HB.out.trans (below_drewN _ _ _)⟩
end Go.Proofs.YthnciokmomgfeaaGreatDoor
