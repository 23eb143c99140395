/- The walk of internal/strconv.formatBits. -/
import Derived.Test.YtpecingkoodmfaaGreatDoorS23
import Derived.Laws.BytesArg
import Derived.Lib.ItoaMem
import Derived.Deep.LoopGhost
import Derived.Deep.DeepCutAuto
import Derived.Test.YtpecingkoodmfaaGreatDoorS10
import Derived.Test.YtpecingkoodmfaaGreatDoorS22
import Derived.Deep.RegionWith
namespace Go.Proofs.YtpecingkoodmfaaGreatDoor
open Go.RowKit
set_option linter.unusedSimpArgs false
set_option linter.unusedVariables false
abbrev byteV (c : UInt8) : Value := .int .u8 (c.toNat : Int)
abbrev lowText : ByteArray := ⟨#[48, 49, 50, 51, 52, 53, 54, 55, 56, 57, 97, 98, 99, 100, 101, 102, 103, 104, 105, 106, 107, 108, 109, 110, 111, 112, 113, 114, 115, 116, 117, 118, 119, 120, 121, 122]⟩
/-- the last cells of 65 are these bytes -/
def Filled (c : Array Value) (l : List UInt8) : Prop := c.size = 65 ∧ ∃ pre, c.toList = pre ++ l.map byteV
def FmtRel (b U j n : Nat) (c : Array Value) (u i : Value) : Prop := j < Dig.nd b U ∧ n + j = 65 ∧ u = .int .u64 (U / b ^ j : Nat) ∧ i = .int .i64 n ∧ Filled c (Dig.suf Dig.loD b U j)
theorem Tryz.zeroSize : Tryz.zeroCells145.size = 65 := by kernel_rfl
theorem fill_step {c : Array Value} {l : List UInt8} {n : Nat} {x : UInt8} {v : Value} (h : Filled c l) (hl : n + l.length = 65) (hn : 0 < n) (hv : v = byteV x) : Filled (c.setIfInBounds (n - 1) v) (x :: l) := by
  obtain ⟨hc, pre, hp⟩ := h
  subst hv
  have hlen : pre.length = n := by
    have := congrArg List.length hp
    rw [Array.length_toList, hc] at this
    simp at this
    omega
  obtain ⟨p, y, rfl⟩ : ∃ p y, pre = p ++ [y] := ⟨_, _, (List.dropLast_concat_getLast (l := pre) (by intro h; rw [h] at hlen; simp at hlen; omega)).symm⟩
  have hpl : p.length = n - 1 := by simp at hlen; omega
  refine ⟨by simpa using hc, p, ?_⟩
  rw [Array.toList_setIfInBounds, hp, List.append_assoc, List.set_append_right _ _ (by omega), hpl, Nat.sub_self]
  rfl
theorem div_nat (q b : Nat) : ((q : Int) / (b : Int)) = ((q / b : Nat) : Int) := by omega
theorem cell_in {c : Array Value} {k : Nat} (hc : c.size = 65) (hk : k < 65) : ∃ v, c[k]? = some v := ⟨c[k], Array.getElem?_eq_getElem (by omega)⟩
theorem low_fin : ∀ k : Fin 36, lowText[k.val]? = some (Dig.loD k.val) := by decide +kernel
theorem low_at {m k : Nat} (h : m < lowText.size) (hm : m = k) (hk : k < 36) : lowText[m] = Dig.loD k := by
  subst hm
  have h1 := low_fin ⟨m, hk⟩
  have h2 : lowText[m]? = some lowText[m] := getElem?_pos lowText m h
  exact Option.some.inj (h2.symm.trans h1)
/-- what stands in the array and the index when the digits are laid -/
def Laid (b U : Nat) (w : World) (i : Value) (wx : World) : Prop := ∃ n c, n + Dig.nd b U = 65 ∧ i = .int .i64 n ∧ Filled c (Dig.digs Dig.loD b U) ∧ wx = w.alloc (.cells c 145)
theorem laid_end {b U j n q : Nat} {c : Array Value} {v : Value} {w : World} {i : Value} (h2 : 2 ≤ b) (h36 : b ≤ 36) (hu : U < 18446744073709551616) (hq : U / b ^ j = q) (hqb : q < b) (hn : n + j = 65) (hj : j < Dig.nd b U) (hc : Filled c (Dig.suf Dig.loD b U j)) (hv : v = byteV (Dig.loD q)) (hi : i = .int .i64 ((n : Int) - 1)) (hpre : j = 0 ∨ b ^ j ≤ U) :
    Laid b U w i (w.alloc (.cells (c.setIfInBounds (n - 1) v) 145)) := by
  have hjl := Nat.lt_of_lt_of_le hj (Dig.nd_le h2 hu)
  have hd : Dig.digs Dig.loD b U = Dig.loD q :: Dig.suf Dig.loD b U j := by
    unfold Dig.digs
    have hlt : U < b ^ (j + 1) := by
      rw [Nat.pow_succ', ← Nat.div_lt_iff_lt_mul (Nat.pow_pos (by omega)), hq]; exact hqb
    rw [Dig.nd_eq h2 hu (n := j + 1) ⟨by omega, hlt, ?_⟩, Dig.suf, hq, Nat.mod_eq_of_lt hqb]
    rcases hpre with h | h
    · left; omega
    · right; simpa using h
  have hnd : Dig.nd b U = j + 1 := by
    have := congrArg List.length hd
    rw [Dig.digs_length, List.length_cons, Dig.suf_length] at this
    exact this
  refine ⟨n - 1, _, by omega, by rw [hi]; exact congrArg (Value.int .i64) (by omega), ?_, rfl⟩
  rw [hd]
  exact fill_step hc (by rw [Dig.suf_length]; exact hn) (by omega) hv
theorem go_on {b U j q : Nat} (h2 : 2 ≤ b) (hf : Dig.Fits b U (Dig.nd b U)) (hq : U / b ^ j = q) (hbq : b ≤ q) : j + 1 < Dig.nd b U ∧ b ^ (j + 1) ≤ U := by
  have hp : 0 < b ^ j := Nat.pow_pos (by omega)
  have h4 : b ^ (j + 1) ≤ U := by
    rw [Nat.pow_succ']
    exact (Nat.le_div_iff_mul_le hp).1 (by rw [hq]; exact hbq)
  refine ⟨?_, h4⟩
  rcases Nat.lt_or_ge (j + 1) (Dig.nd b U) with h | h
  · exact h
  · have h1 : b ^ Dig.nd b U ≤ b ^ (j + 1) := Nat.pow_le_pow_right (by omega) h
    have h3 := hf.2.1
    omega
def FmtRel' (b U j n : Nat) (c : Array Value) (u i : Value) : Prop := FmtRel b U j n c u i ∧ (j = 0 ∨ b ^ j ≤ U)
theorem fmt_start (b U : Nat) (hf : Dig.Fits b U (Dig.nd b U)) : FmtRel' b U 0 65 Tryz.zeroCells145 (.int .u64 U) (.int .i64 65) :=
  ⟨⟨hf.1, rfl, by rw [Nat.pow_zero, Nat.div_one], rfl, Tryz.zeroSize, _, (List.append_nil _).symm⟩, .inl rfl⟩
theorem fmt_next {b U j n q : Nat} {c : Array Value} {v : Value} {u i : Value} (h2 : 2 ≤ b) (hf : Dig.Fits b U (Dig.nd b U)) (hq : U / b ^ j = q) (hbq : b ≤ q) (hn : n + j = 65) (hn0 : 0 < n) (hc : Filled c (Dig.suf Dig.loD b U j)) (hv : v = byteV (Dig.loD (q % b)))
    (hu : u = .int .u64 ((q / b : Nat) : Int)) (hi : i = .int .i64 ((n : Int) - 1)) : FmtRel' b U (j + 1) (n - 1) (c.setIfInBounds (n - 1) v) u i := by
  obtain ⟨hlt, hge⟩ := go_on h2 hf hq hbq
  refine ⟨⟨hlt, by omega, ?_, ?_, ?_⟩, .inr hge⟩
  · rw [hu, ← hq, Nat.div_div_eq_div_mul, ← Nat.pow_succ]
  · rw [hi]; exact congrArg (Value.int .i64) (by omega)
  · rw [Dig.suf, hq]
    exact fill_step hc (by rw [Dig.suf_length]; exact hn) hn0 hv
theorem mod_nat {q b : Nat} : ((q : Int) - (q : Int) / (b : Int) * (b : Int)).toNat = q % b := by
  have := Int.emod_def (q : Int) (b : Int)
  rw [Int.mul_comm] at this
  omega
theorem and_low {q b : Nat} {k : Int} (hk : b = 2 ∧ k = 1 ∨ b = 4 ∧ k = 2 ∨ b = 8 ∧ k = 3 ∨ b = 16 ∧ k = 4 ∨ b = 32 ∧ k = 5) (hq : q < 18446744073709551616) : bits .and .u64 (q : Int) ((b : Int) - 1) = ((q % b : Nat) : Int) := by
  have key : ∀ n, bits .and .u64 (q : Int) ((2 ^ n - 1 : Nat) : Int) = ((q % 2 ^ n : Nat) : Int) ∨ 18446744073709551616 ≤ 2 ^ n - 1 := fun n => by
    rcases Nat.lt_or_ge (2 ^ n - 1) 18446744073709551616 with h | h
    · left; rw [u64_and_nat _ _ hq h, Nat.and_two_pow_sub_one_eq_mod]
    · right; exact h
  rcases hk with ⟨rfl, _⟩ | ⟨rfl, _⟩ | ⟨rfl, _⟩ | ⟨rfl, _⟩ | ⟨rfl, _⟩
  · exact (key 1).resolve_right (by decide)
  · exact (key 2).resolve_right (by decide)
  · exact (key 3).resolve_right (by decide)
  · exact (key 4).resolve_right (by decide)
  · exact (key 5).resolve_right (by decide)
theorem shr_low {q b : Nat} {k : Int} (hk : b = 2 ∧ k = 1 ∨ b = 4 ∧ k = 2 ∨ b = 8 ∧ k = 3 ∨ b = 16 ∧ k = 4 ∨ b = 32 ∧ k = 5) : (q : Int) / 2 ^ k.toNat = ((q / b : Nat) : Int) := by
  rcases hk with ⟨rfl, rfl⟩ | ⟨rfl, rfl⟩ | ⟨rfl, rfl⟩ | ⟨rfl, rfl⟩ | ⟨rfl, rfl⟩ <;> rfl
theorem Zeros.alloc {w : World} (h : Zeros w) (o : Obj) : Zeros (w.alloc o) := Lib.tabIs_alloc h o
theorem slice_at (N : Nat) (W : World) (x : Int) (h0 : 0 ≤ x) (h1 : x < 65) : (Instr.sliceAt 145 (.pointer (some ⟨N, 0, none⟩)) (some (.int .i64 x)) none none).run Tryz.prog W = .ok (.slice (some ⟨N, x.toNat, none⟩) (65 - x.toNat) (65 - x.toNat)) W := by
  have hal : Tryz.prog.arrayLen 145 = 65 := by simp [Program.arrayLen, Tryz.underlying145]
  rw [run_sliceAt_array_l W 145 ⟨N, 0, none⟩ (by simp [Program.arrayLen, Program.elem, Tryz.underlying145]) .i64 x h0 (by rw [hal]; omega)]
  go_simp
  omega
def sg (neg : Bool) : List UInt8 := if neg then [45] else []
set_option maxRecDepth 100000 in
theorem text_of_cells (w : World) (c : Array Value) (l : List UInt8) (m : Nat) (hm : m + l.length = 65) (h : Filled c l) :
    (convert 98 9 (.slice (some ⟨w.heap.size, m, none⟩) (65 - m) (65 - m))).run Tryz.prog (w.alloc (.cells c 145)) = .ok (.string ⟨l.toArray⟩) (w.alloc (.cells c 145)) := by
  obtain ⟨hc, pre, hp⟩ := h
  have hpl : pre.length = m := by
    have := congrArg List.length hp
    rw [Array.length_toList, hc] at this
    simp at this
    omega
  have e := run_convert_bytes_arg (P := Tryz.prog) (w.alloc (.cells c 145)) 98 5 Tryz.underlying98 Tryz.underlying5 w.heap.size m (65 - m) (65 - m) (l.map fun x => (x.toNat : Int)) (by simp; omega)
    (fun i hi => by
      rw [World.cell?_alloc_new, ← Array.getElem?_toList, hp, List.getElem?_append_right (by omega), hpl, Nat.add_sub_cancel_left]
      have hi' : i < l.length := by omega
      simp [hi', List.getD, List.getElem?_eq_getElem hi']) 9 Tryz.underlying9
  rw [e]
  congr 2
  simp only [strOfNums, List.map_map]
  exact congrArg (fun x : List UInt8 => (⟨x.toArray⟩ : ByteArray)) ((List.map_congr_left (g := id) fun x _ => by simp).trans (List.map_id l))
set_option maxHeartbeats 4000000 in
set_option maxRecDepth 100000 in
theorem format_any (U b : Nat) (neg : Bool) (x : Int) (hx : (neg = false ∧ x = U) ∨ (neg = true ∧ IntKind.u64.wrap (-x) = (U : Int))) (h2 : 2 ≤ b) (h36 : b ≤ 36) (h10 : ((b : Int) == 10) = false) (hU : U ≤ 9223372036854775808) (w : World) (hw : Zeros w) :
    Calls Tryz.prog 136 #[.slice none 0 0, .int .u64 x, .int .i64 b, .bool neg, .bool false] w fun e w' => e = .returned (.tuple #[.slice none 0 0, .string ⟨(sg neg ++ Dig.digs Dig.loD b U).toArray⟩]) ∧ Below w.heap.size w w' := by
  have P := Lib.hid (pow_walk b (by omega) (by omega))
  have HF := Lib.hid (Dig.nd_fits (b := b) (u := U) h2 (by omega))
  have HX := Lib.hid hx
  have HZ := Lib.hid hw
  clear hx hw
  go_enter Tryz.func136, Tryz.ntmps136
  go_upto_if 30 with fail
  go_cut [1] (fun u wx => u = .int .u64 U ∧ wx = w.alloc (.cells Tryz.zeroCells145 145))
  case first =>
    rcases HX.out with ⟨rfl, rfl⟩ | ⟨rfl, h⟩
    · go_wp2_with fail; go_meet; exact ⟨rfl, rfl⟩
    · go_wp2_with fail; go_meet; exact ⟨rfl, rfl⟩
  case rest =>
    obtain ⟨rfl, rfl⟩ := hcut
    go_upto_if 34 with (go_at_call 144; refine (P.out _).mono ?_; rintro e w' ⟨rfl, rfl⟩)
    go_cut [13] (fun i wx => Hid (Laid b U w i wx))
    case first =>
      cases hp : powB b
      · go_wp2
        go_loopg [1, 13] (Dig.nd b U) (fun k u i wr => ∃ j n c, k = Dig.nd b U - j ∧ Hid (FmtRel' b U j n c u i) ∧ wr = w.alloc (.cells c 145))
        case atStart => exact ⟨0, 65, _, by omega, fmt_start b U HF.out, rfl⟩
        case round =>
          obtain ⟨j, n, c, rfl, HR, rfl⟩ := hrel
          obtain ⟨⟨hj, hn, rfl, rfl, hf⟩, hge⟩ := HR.out
          have hc := hf.1
          obtain ⟨q, hq⟩ : ∃ q, U / b ^ j = q := ⟨_, rfl⟩
          rw [hq]
          have hqU : q ≤ U := by rw [← hq]; exact Nat.div_le_self _ _
          have hj64 := Nat.lt_of_lt_of_le hj (Dig.nd_le h2 (by omega))
          have hn0 : 0 < n := by omega
          have hn65 : n ≤ 65 := by omega
          have HN := Lib.hid hn
          have HQ := Lib.hid hq
          have HC := Lib.hid hf
          have HG := Lib.hid hge
          obtain ⟨v0, hv0⟩ := cell_in (k := n - 1) hc (by omega)
          clear HR hq hf hn hge
          by_cases hq0 : b ≤ q
          · have r0 : 0 ≤ (q : Int) / (b : Int) := Int.ediv_nonneg (by omega) (by omega)
            have r1 : (q : Int) / (b : Int) * (b : Int) ≤ (q : Int) := Int.ediv_mul_le _ (by omega)
            have r2 : (q : Int) - (q : Int) / (b : Int) * (b : Int) < (b : Int) := by have := Int.emod_lt_of_pos (q : Int) (show (0 : Int) < b by omega); have := Int.emod_def (q : Int) (b : Int); rw [Int.mul_comm] at this; omega
            have r3 : 0 ≤ (q : Int) / (b : Int) * (b : Int) := Int.mul_nonneg r0 (by omega)
            have r4 : (q : Int) / (b : Int) ≤ (q : Int) := Int.ediv_le_self _ (by omega)
            go_wp2
            go_roundg (Dig.nd b U - (j + 1))
            case measure => omega
            case rel => exact ⟨j + 1, n - 1, _, rfl, fmt_next h2 HF.out HQ.out hq0 HN.out hn0 HC.out (congrArg byteV (low_at _ mod_nat (by have := Nat.mod_lt q (show b > 0 by omega); omega))) (congrArg (Value.int .u64) (div_nat q b)) rfl, rfl⟩
          · have hq' : (q : Int) < (b : Int) := by omega
            have hz : q < 36 := by omega
            go_wp2
            go_meet
            exact laid_end h2 h36 (by omega) HQ.out (by omega) HN.out hj HC.out (congrArg byteV (low_at _ rfl hz)) rfl HG.out
      · have hbc := pow_cases h2 h36 hp
        obtain ⟨k, hk⟩ : ∃ k : Int, b = 2 ∧ k = 1 ∨ b = 4 ∧ k = 2 ∨ b = 8 ∧ k = 3 ∨ b = 16 ∧ k = 4 ∨ b = 32 ∧ k = 5 := by
          rcases hbc with h | h | h | h | h
          · exact ⟨1, .inl ⟨h, rfl⟩⟩
          · exact ⟨2, .inr (.inl ⟨h, rfl⟩)⟩
          · exact ⟨3, .inr (.inr (.inl ⟨h, rfl⟩))⟩
          · exact ⟨4, .inr (.inr (.inr (.inl ⟨h, rfl⟩)))⟩
          · exact ⟨5, .inr (.inr (.inr (.inr ⟨h, rfl⟩)))⟩
        have T := Lib.hid (tz_walk b k hk _ (HZ.out.alloc (.cells Tryz.zeroCells145 145)))
        have k1 : 1 ≤ k := by omega
        have k5 : k ≤ 5 := by omega
        have HK := Lib.hid hk
        clear hbc hk
        go_wp2_with (go_at_call 145; refine T.out.mono ?_; rintro e w' ⟨rfl, rfl⟩)
        go_loopg [1, 13] (Dig.nd b U) (fun k u i wr => ∃ j n c, k = Dig.nd b U - j ∧ Hid (FmtRel' b U j n c u i) ∧ wr = w.alloc (.cells c 145))
        case atStart => exact ⟨0, 65, _, by omega, fmt_start b U HF.out, rfl⟩
        case round =>
          obtain ⟨j, n, c, rfl, HR, rfl⟩ := hrel
          obtain ⟨⟨hj, hn, rfl, rfl, hf⟩, hge⟩ := HR.out
          have hc := hf.1
          obtain ⟨q, hq⟩ : ∃ q, U / b ^ j = q := ⟨_, rfl⟩
          rw [hq]
          have hqU : q ≤ U := by rw [← hq]; exact Nat.div_le_self _ _
          have hj64 := Nat.lt_of_lt_of_le hj (Dig.nd_le h2 (by omega))
          have hn0 : 0 < n := by omega
          have hn65 : n ≤ 65 := by omega
          have HN := Lib.hid hn
          have HQ := Lib.hid hq
          have HC := Lib.hid hf
          have HG := Lib.hid hge
          obtain ⟨v0, hv0⟩ := cell_in (k := n - 1) hc (by omega)
          have hqm : q % b < 36 := by have := Nat.mod_lt q (show b > 0 by omega); omega
          clear HR hq hf hn hge
          by_cases hq0 : b ≤ q
          · have hand := and_low (q := q) HK.out (by omega)
            have hshr := shr_low (q := q) HK.out
            go_wp2
            go_roundg (Dig.nd b U - (j + 1))
            case measure => omega
            case rel => exact ⟨j + 1, n - 1, _, rfl, fmt_next h2 HF.out HQ.out hq0 HN.out hn0 HC.out (congrArg byteV (low_at _ (by first | rfl | simp) hqm)) rfl rfl, rfl⟩
          · have hq' : (q : Int) < (b : Int) := by omega
            have hz : q < 36 := by omega
            go_wp2
            go_meet
            exact laid_end h2 h36 (by omega) HQ.out (by omega) HN.out hj HC.out (congrArg byteV (low_at _ rfl hz)) rfl HG.out
    case rest =>
      obtain ⟨n, c, hn, rfl, hf, rfl⟩ := hcut.out
      have hl := Dig.digs_length Dig.loD b U
      have hn0 : 0 < n := by have := Dig.nd_le (b := b) (u := U) h2 (by omega); omega
      have hn65 : n < 65 := by have := HF.out.1; omega
      have HN := Lib.hid hn
      have HL := Lib.hid hf
      obtain ⟨v0, hv0⟩ := cell_in (k := n - 1) hf.1 (by omega)
      clear hcut hn hf hl
      go_upto_if 89 with fail
      go_cut [13] (fun i wx => Hid (∃ (m : Nat) (c : Array Value), m + (sg neg ++ Dig.digs Dig.loD b U).length = 65 ∧ i = .int .i64 m ∧ Filled c (sg neg ++ Dig.digs Dig.loD b U) ∧ wx = w.alloc (.cells c 145)))
      case first =>
        cases neg
        · go_wp2_with fail
          go_meet
          exact ⟨n, c, by have h1 := HN.out; rw [← Dig.digs_length Dig.loD] at h1; exact h1, rfl, HL.out, rfl⟩
        · go_wp2_with fail
          go_meet
          exact ⟨n - 1, _, by have h1 := HN.out; have h3 := Dig.digs_length Dig.loD b U; rw [show sg true ++ Dig.digs Dig.loD b U = 45 :: Dig.digs Dig.loD b U from rfl, List.length_cons]; omega, congrArg (Value.int .i64) (by omega), fill_step (x := 45) (l := Dig.digs Dig.loD b U) HL.out (by rw [Dig.digs_length]; exact HN.out) hn0 rfl, rfl⟩
      case rest =>
        obtain ⟨m, c2, hm, rfl, hf2, rfl⟩ := hcut.out
        have hl1 : 1 ≤ (sg neg ++ Dig.digs Dig.loD b U).length := by
          rw [List.length_append, Dig.digs_length]; have := HF.out.1; omega
        obtain ⟨l, hl⟩ : ∃ l, (sg neg ++ Dig.digs Dig.loD b U) = l := ⟨_, rfl⟩
        rw [hl] at hm hf2 hl1
        have hsl := slice_at w.heap.size (w.alloc (.cells c2 145)) m (by omega) (by omega)
        have hcv := text_of_cells w c2 l m hm hf2
        rw [Int.toNat_natCast] at hsl
        have HL2 := Lib.hid hl
        clear hl hcut hm hf2 hl1 hv0 hn0 hn65 hU
        go_wp2
        go_ret2
        exact ⟨by rw [HL2.out]; rfl, (Below.refl _ _).alloc (Nat.le_refl _) _⟩
end Go.Proofs.YtpecingkoodmfaaGreatDoor
/- The walks of strconv.FormatInt in every base, and of digits.Put. -/
namespace Go.Proofs.YtpecingkoodmfaaGreatDoor
open Go.RowKit
set_option linter.unusedSimpArgs false
set_option linter.unusedVariables false
/-- the table of powers of ten, as the row lists it -/
def Tens (w : World) : Prop := Lib.TabIs Tryz.prog w "internal/strconv.uint64pow10" .u64 Lib.pow10Tab
theorem grow_below' {B : Nat} (w : World) (h : B ≤ w.heap.size) (k : Nat) (os : Array Obj) : Below B w (Go.Sort.grow (w.drewN k) os) := by
  refine ⟨rfl, rfl, rfl, ?_, ?_⟩
  · show w.heap.size ≤ (w.heap ++ os).size
    simp
  · intro j hj
    show (w.heap ++ os)[j]? = w.heap[j]?
    rw [Array.getElem?_append_left (by omega)]
set_option maxHeartbeats 1000000 in
theorem inner_other (v : Int) (b : Nat) (h2 : 2 ≤ b) (h36 : b ≤ 36) (h10 : ((b : Int) == 10) = false) (v0 : -9223372036854775808 ≤ v) (v1 : v ≤ 9223372036854775807) (w : World) (hw : Zeros w) :
    Calls Tryz.prog 121 #[.int .i64 v, .int .i64 b] w fun e w' => e = .returned (txt (Dig.putV Dig.loD v b)) ∧ Below w.heap.size w w' := by
  by_cases hn : v < 0
  · obtain ⟨U, rfl⟩ : ∃ U : Nat, v = -(U : Int) := ⟨v.natAbs, by omega⟩
    have hU : (-(U : Int)).natAbs = U := by omega
    have HP := Lib.hid (show Dig.putV Dig.loD (-(U : Int)) b = sg true ++ Dig.digs Dig.loD b U from by unfold Dig.putV Dig.sgn; rw [if_pos hn, hU]; rfl)
    have F := Lib.hid (format_any U b true (IntKind.u64.wrap (-(U : Int))) (.inr ⟨rfl, neg_u64 (by omega)⟩) h2 h36 h10 (by omega) w hw)
    clear hU hw
    go_enter Tryz.func121, Tryz.ntmps121
    go_wp2_with fail
    rw [show decide (0 < U) = true from by rw [decide_eq_true_eq]; omega]
    refine F.out.mono ?_
    rintro e w1 ⟨rfl, hb⟩
    go_wp2
    go_ret
    exact ⟨by rw [HP.out]; rfl, hb⟩
  · obtain ⟨U, rfl⟩ : ∃ U : Nat, v = (U : Int) := ⟨v.natAbs, by omega⟩
    have hU : (U : Int).natAbs = U := by omega
    have HP := Lib.hid (show Dig.putV Dig.loD (U : Int) b = sg false ++ Dig.digs Dig.loD b U from by unfold Dig.putV Dig.sgn; rw [if_neg hn, hU]; rfl)
    have F := Lib.hid (format_any U b false U (.inl ⟨rfl, rfl⟩) h2 h36 h10 (by omega) w hw)
    clear hU hw
    go_enter Tryz.func121, Tryz.ntmps121
    go_wp2_with fail
    refine F.out.mono ?_
    rintro e w1 ⟨rfl, hb⟩
    go_wp2
    go_ret
    exact ⟨by rw [HP.out]; rfl, hb⟩
theorem inner_any (v : Int) (b : Nat) (h2 : 2 ≤ b) (h36 : b ≤ 36) (v0 : -9223372036854775808 ≤ v) (v1 : v ≤ 9223372036854775807) (w : World) (hw : Zeros w) (ht : Tens w) :
    Calls Tryz.prog 121 #[.int .i64 v, .int .i64 b] w fun e w' => e = .returned (txt (Dig.putV Dig.loD v b)) ∧ Below w.heap.size w w' := by
  by_cases h : b = 10
  · subst h
    have h := (Tryz.internal_strconv_FormatInt_10 v v0 v1 w ht).mono fun e w' ⟨h1, k, os, h2⟩ => (⟨h1, h2 ▸ grow_below' w (Nat.le_refl _) k os⟩ : e = Ending.returned (.string ⟨(Lib.itoa v).toArray⟩) ∧ Below w.heap.size w w')
    rw [Dig.itoa_put (Dig.abs_lt v0 v1)] at h
    exact h
  · exact inner_other v b h2 h36 (by rw [beq_eq_false_iff_ne]; omega) v0 v1 w hw
theorem format_int (v : Int) (b : Nat) (h2 : 2 ≤ b) (h36 : b ≤ 36) (v0 : -9223372036854775808 ≤ v) (v1 : v ≤ 9223372036854775807) (w : World) (hw : Zeros w) (ht : Tens w) :
    Calls Tryz.prog 140 #[.int .i64 v, .int .i64 b] w fun e w' => e = .returned (txt (Dig.putV Dig.loD v b)) ∧ Below w.heap.size w w' := by
  have F := Lib.hid (inner_any v b h2 h36 v0 v1 w hw ht)
  clear hw ht
  go_enter Tryz.func140, Tryz.ntmps140
  go_wp2_with fail
  refine F.out.mono ?_
  rintro e w1 ⟨rfl, hb⟩
  go_wp2
  go_ret
  exact ⟨rfl, hb⟩
theorem put_right (v : Int) (b : Nat) (h2 : 2 ≤ b) (h36 : b ≤ 36) (v0 : -9223372036854775808 ≤ v) (v1 : v ≤ 9223372036854775807) (w : World) (hw : Zeros w) (ht : Tens w) :
    Calls Tryz.prog 128 #[.int .i64 v, .int .i64 b] w fun e w' => e = .returned (txt (Dig.putV Dig.upD v b)) ∧ Below w.heap.size w w' := by
  have F := Lib.hid (format_int v b h2 h36 v0 v1 w hw ht)
  have R := Lib.hid (right_yes b (by simp [Dig.rightB]; omega))
  have hl := Dig.put_length Dig.loD v b (by omega) (Dig.abs_lt v0 v1)
  have T := fun w1 : World => Lib.hid (upper_any ⟨(Dig.putV Dig.loD v b).toArray⟩ w1 (by show (Dig.putV Dig.loD v b).toArray.size ≤ 1000000; simp; omega) (Dig.put_ascii v b (by omega) (by omega)))
  have HU := Lib.hid (Dig.put_upper v b (by omega) (by omega))
  clear hw ht hl
  go_enter Tryz.func128, Tryz.ntmps128
  go_wp2_with (go_at_call 138; refine (R.out _).mono ?_; rintro e w' ⟨rfl, rfl⟩)
  refine F.out.mono ?_
  rintro e w1 ⟨rfl, hb⟩
  go_wp2_with fail
  refine (T _).out.mono ?_
  rintro e w2 ⟨rfl, hb2⟩
  go_wp2
  go_ret
  exact ⟨congrArg (fun x => Ending.returned (txt x)) HU.out, hb.trans (hb2.mono hb.size)⟩
theorem put_wrong (v b : Int) (hb : Dig.rightB b = false) (w : World) :
    Calls Tryz.prog 128 #[.int .i64 v, .int .i64 b] w fun e w' => e = .returned (txt []) ∧ Below w.heap.size w w' := by
  have R := Lib.hid (right_no b hb)
  clear hb
  go_enter Tryz.func128, Tryz.ntmps128
  go_wp2_with (go_at_call 138; refine (R.out _).mono ?_; rintro e w' ⟨rfl, rfl⟩)
  go_ret
  exact ⟨rfl, Below.refl _ _⟩
theorem put_any (v b : Int) (v0 : -9223372036854775808 ≤ v) (v1 : v ≤ 9223372036854775807) (w : World) (hw : Zeros w) (ht : Tens w) :
    Calls Tryz.prog 128 #[.int .i64 v, .int .i64 b] w fun e w' => e = .returned (txt (putT v b)) ∧ Below w.heap.size w w' := by
  unfold putT
  cases hb : Dig.rightB b with
  | false => exact put_wrong v b hb w
  | true =>
    simp only [Dig.rightB, Bool.and_eq_true, decide_eq_true_eq] at hb
    obtain ⟨n, rfl⟩ := Int.eq_ofNat_of_zero_le (show 0 ≤ b by omega)
    exact put_right v n (by omega) (by omega) v0 v1 w hw ht
theorem tab_mono {w w' : World} {name : String} {k : IntKind} {zs : List Int} {g : Nat} (hg : Tryz.prog.globalNamed name = some g) (h : Lib.TabIs Tryz.prog w name k zs) (hb : Below w.heap.size w w') : Lib.TabIs Tryz.prog w' name k zs := by
  unfold Lib.TabIs World.var? at *
  rw [hg, Option.bind_some] at h ⊢
  have hl : g < w.heap.size := by
    rcases Nat.lt_or_ge g w.heap.size with h0 | h0
    · exact h0
    · rw [Array.getElem?_eq_none h0] at h; cases h
  rw [hb.block _ hl]; exact h
theorem Tryz.gt : Tryz.prog.globalNamed "internal/strconv.uint64pow10" = some 1 := by kernel_rfl
theorem Zeros.mono {w w' : World} (h : Zeros w) (hb : Below w.heap.size w w') : Zeros w' := tab_mono Tryz.gz h hb
theorem Tens.mono {w w' : World} (h : Tens w) (hb : Below w.heap.size w w') : Tens w' := tab_mono Tryz.gt h hb
end Go.Proofs.YtpecingkoodmfaaGreatDoor
/- Package eval: an instruction is done: every kind. -/
namespace Go.Proofs.YtpecingkoodmfaaGreatDoor.Ev
open Go.RowKit Book Mem
open Ir (T I O trA ReadsL insA insV)
open Mach (M)
open Go.Proofs.YtpecingkoodmfaaGreatDoor.Cell (In)
set_option linter.unusedSimpArgs false
set_option linter.unusedVariables false
/-- a new row of one byte; it as a text -/
theorem byte_box (w : World) (x : Int) : ∃ w1 g, w.alloc (.cells #[.int .u8 x] 5) = w1 ∧ w.heap.size = g ∧ (convert 98 9 (.slice (some ⟨g, 0, none⟩) 1 1)).run Tryz.prog w1 = .ok (.string ⟨#[UInt8.ofNat x.toNat]⟩) w1 ∧ Hid (Below w.heap.size w w1) := by
  refine ⟨_, _, rfl, rfl, ?_, (Below.refl w.heap.size w).alloc (Nat.le_refl _) _⟩
  have e := run_convert_bytes_arg (P := Tryz.prog) (w.alloc (.cells #[.int .u8 x] 5)) 98 5 Tryz.underlying98 Tryz.underlying5 w.heap.size 0 1 1 [x] rfl
    (fun i hi => by obtain rfl : i = 0 := by omega
                    exact whole_cell (heap_alloc_new w _) rfl) 9 Tryz.underlying9
  exact e
theorem put_up' {v : Int} (hv : v.natAbs < 18446744073709551616) : Lib.itoa v = Dig.putV Dig.upD v 10 := by
  unfold Lib.itoa Dig.putV Dig.sgn
  rw [show (10 : Int).toNat = 10 from rfl, ← Dig.dec_digs Dig.upD (fun d h => by unfold Dig.upD; rw [if_pos h]) _ hv]
  split
  · rfl
  · rw [List.nil_append, show v.toNat = v.natAbs from by omega]
theorem put_dot {p : Int} (ip : Cell.In p) : putT p 10 = Lib.itoa p := by
  unfold Cell.In at ip
  rw [put_up' (by omega)]
  rfl
/-- what is asked of a run's sizes -/
structure Sz (s : M) (V wat : List Int) : Prop where
  st : s.stack.length ≤ 10000
  bk : s.back.length ≤ 10000
  me : s.mem.length ≤ 10000
  ou : s.out.size ≤ 2000
  inp : s.inp.size ≤ 1000000
  vl : V.length ≤ 100000
  wa : wat.length ≤ 100000
  vi : ∀ x ∈ V, In x
theorem Sz.kin {s u : M} {V wat : List Int} (h : Sz s V wat) (k : Kin s u) : Sz u V wat :=
  ⟨by rw [k.stack]; exact h.st, by rw [k.back]; exact h.bk, by rw [k.mem]; exact h.me, k.out h.ou, by rw [k.inp]; exact h.inp, h.vl, h.wa, h.vi⟩
structure Tabs (w : World) : Prop where
  z : Zeros w
  t : Tens w
theorem Tabs.mono {w w' : World} (h : Tabs w) (hb : Below w.heap.size w w') : Tabs w' := ⟨h.z.mono hb, h.t.mono hb⟩
/-- what an instruction leaves -/
def DidI (W : World) (q : Nat) (t : T) (wat V : List Int) (z : Sl) (d : D) (e : Ending) (w' : World) : Prop := e = .returned (.tuple #[.int .i64 d.v, .bool d.on]) ∧ RunAt W w' q t wat d.s V d.hit z
section
variable {W w : World} {q : Nat} {t : T} {wat : List Int} {s : M} {V : List Int} {hit : Bool} {z : Sl}
set_option maxHeartbeats 4000000 in
set_option maxRecDepth 100000 in
theorem do1 (h : RunAt W w q t wat s V false z) (hz : Sz s V wat) (hT : Tabs W) (a b c ex : Int) : Calls Tryz.prog 112 #[.pointer (some ⟨q, 0, none⟩), insV (1, a, b, c, ex)] w (DidI W q t wat V z (doI wat s V (1, a, b, c, ex))) := by
  obtain ⟨w1, g, hw1, hg, HG, HB, HZ⟩ := Ir.newBox w (insA (1, a, b, c, ex)) 42
  have k0 : w1.cell? ⟨g, 0, none⟩ = some (.int .i64 1) := whole_cell HG.out rfl
  have k1 : w1.cell? ⟨g, 1, none⟩ = some (.int .i64 a) := whole_cell HG.out rfl
  have HR := Lib.hid (h.below HB.out)
  clear h hz
  go_enter Tryz.func112, Tryz.ntmps112
  go_wp2
  go_ret2
  exact ⟨rfl, HR.out⟩

set_option maxHeartbeats 4000000 in
set_option maxRecDepth 100000 in
theorem do2 (h : RunAt W w q t wat s V false z) (hz : Sz s V wat) (hT : Tabs W) (a b c ex : Int) : Calls Tryz.prog 112 #[.pointer (some ⟨q, 0, none⟩), insV (2, a, b, c, ex)] w (DidI W q t wat V z (doI wat s V (2, a, b, c, ex))) := by
  obtain ⟨w1, g, hw1, hg, HG, HB, HZ⟩ := Ir.newBox w (insA (2, a, b, c, ex)) 42
  have k0 : w1.cell? ⟨g, 0, none⟩ = some (.int .i64 2) := whole_cell HG.out rfl
  have k1 : w1.cell? ⟨g, 1, none⟩ = some (.int .i64 a) := whole_cell HG.out rfl
  have HR := Lib.hid (h.below HB.out)
  obtain ⟨n, hn⟩ : ∃ n, s.stack.length = n := ⟨_, rfl⟩
  have hsz := hz.st
  have C := Lib.hid (fun k => get_any (Reads.of_owns (HR.out.drewN k).st) (Nat.le_trans hsz (by decide)) (wrap64 ((n : Int) - 1 - a)))
  obtain ⟨ao, cap, e⟩ := HR.out.st.slice
  obtain ⟨c0, c1, c2, c5, c6, c7, c11, c12, c13, c14, c15, c16, c19, c20, c21⟩ := HR.out.cells
  obtain ⟨vs, vb, vm, vv, vw, vi, vo, vc, ex'⟩ := z
  rw [vals_length, hn] at e
  rw [hn] at hsz
  dsimp only at e c11 c12 C
  subst e
  obtain ⟨r, hr⟩ : ∃ r, getL s.stack (wrap64 ((n : Int) - 1 - a)) = r := ⟨_, rfl⟩
  have HP := Lib.hid (show doI wat s V (2, a, b, c, ex) = ⟨s, r.1, r.2, false⟩ by rw [← hr, ← hn]; rfl)
  rw [hr] at C
  rw [HP.out]
  have hlen := hz.st
  clear h hz hr HP hlen c0 c1 c2 c5 c6 c7 c13 c14 c15 c16 c19 c20 c21
  go_enter Tryz.func112, Tryz.ntmps112
  go_wp2_with fail
  go_quiet ((go_at_call 123; exact Calls.quiet_of_same (C.out _)))
  go_wp2
  go_ret2
  exact ⟨rfl, HR.out.drewN _⟩

set_option maxHeartbeats 4000000 in
set_option maxRecDepth 100000 in
theorem do3 (h : RunAt W w q t wat s V false z) (hz : Sz s V wat) (hT : Tabs W) (a b c ex : Int) : Calls Tryz.prog 112 #[.pointer (some ⟨q, 0, none⟩), insV (3, a, b, c, ex)] w (DidI W q t wat V z (doI wat s V (3, a, b, c, ex))) := by
  obtain ⟨w1, g, hw1, hg, HG, HB, HZ⟩ := Ir.newBox w (insA (3, a, b, c, ex)) 42
  have k0 : w1.cell? ⟨g, 0, none⟩ = some (.int .i64 3) := whole_cell HG.out rfl
  have k1 : w1.cell? ⟨g, 1, none⟩ = some (.int .i64 a) := whole_cell HG.out rfl
  have HR := Lib.hid (h.below HB.out)
  obtain ⟨n, hn⟩ : ∃ n, s.back.length = n := ⟨_, rfl⟩
  have hsz := hz.bk
  have C := Lib.hid (fun k => get_any (Reads.of_owns (HR.out.drewN k).bk) (Nat.le_trans hsz (by decide)) (wrap64 ((n : Int) - 1 - a)))
  obtain ⟨ao, cap, e⟩ := HR.out.bk.slice
  obtain ⟨c0, c1, c2, c5, c6, c7, c11, c12, c13, c14, c15, c16, c19, c20, c21⟩ := HR.out.cells
  obtain ⟨vs, vb, vm, vv, vw, vi, vo, vc, ex'⟩ := z
  rw [vals_length, hn] at e
  rw [hn] at hsz
  dsimp only at e c11 c12 C
  subst e
  obtain ⟨r, hr⟩ : ∃ r, getL s.back (wrap64 ((n : Int) - 1 - a)) = r := ⟨_, rfl⟩
  have HP := Lib.hid (show doI wat s V (3, a, b, c, ex) = ⟨s, r.1, r.2, false⟩ by rw [← hr, ← hn]; rfl)
  rw [hr] at C
  rw [HP.out]
  have hlen := hz.bk
  clear h hz hr HP hlen c0 c1 c2 c5 c6 c7 c13 c14 c15 c16 c19 c20 c21
  go_enter Tryz.func112, Tryz.ntmps112
  go_wp2_with fail
  go_quiet ((go_at_call 123; exact Calls.quiet_of_same (C.out _)))
  go_wp2
  go_ret2
  exact ⟨rfl, HR.out.drewN _⟩
end
end Go.Proofs.YtpecingkoodmfaaGreatDoor.Ev
/- Package eval: an instruction is done: the other kinds, and all. -/
namespace Go.Proofs.YtpecingkoodmfaaGreatDoor.Ev
open Go.RowKit Book Mem
open Ir (T I O trA ReadsL insA insV)
open Mach (M)
open Go.Proofs.YtpecingkoodmfaaGreatDoor.Cell (In)
set_option linter.unusedSimpArgs false
set_option linter.unusedVariables false
theorem put_any' (y : Int) (iy : In y) (w : World) (hT : Tabs w) : Calls Tryz.prog 128 #[.int .i64 y, .int .i64 10] w fun e w' => e = .returned (.string ⟨(Lib.itoa y).toArray⟩) ∧ Below w.heap.size w w' := by
  have h := Go.Proofs.YtpecingkoodmfaaGreatDoor.put_any y 10 iy.1 iy.2 w hT.z hT.t
  rw [put_dot iy] at h
  exact h
theorem calcI_s (s : M) (a b c : Int) : (calcI s a b c).s = s := by unfold calcI; split <;> rfl
theorem calcI_hit (s : M) (a b c : Int) : (calcI s a b c).hit = false := by unfold calcI; split <;> rfl
theorem sayI_v (s : M) (b : ByteArray) : (sayI s b).v = 0 := by unfold sayI; split <;> rfl
theorem putI_v (wat : List Int) (s : M) (b c : Int) : (putI wat s b c).v = 0 := by unfold putI; split <;> rfl
theorem askI_on (s : M) : (askI s).on = true := by unfold askI; split <;> rfl
theorem doI_holds {wat : List Int} {s : M} {V : List Int} {x : I} (h1 : x.1 ≠ 1) (h2 : x.1 ≠ 2) (h3 : x.1 ≠ 3) (h4 : x.1 ≠ 4) (h5 : x.1 ≠ 5) (h6 : x.1 ≠ 6) (h10 : x.1 ≠ 10) (h11 : x.1 ≠ 11) (h12 : x.1 ≠ 12) : doI wat s V x = ⟨s, 0, holdsB x (val V x.2.2.1) (val V x.2.2.2.1), false⟩ := by
  unfold doI holdsB
  rw [if_neg h1, if_neg h2, if_neg h3, if_neg h4, if_neg h5, if_neg h6, if_neg h10, if_neg h11, if_neg h12]
  by_cases h9 : x.1 = 9
  · rw [if_neg (by omega), if_neg (by omega), if_pos h9, if_pos h9]
  · by_cases h8 : x.1 = 8
    · rw [if_neg (by omega), if_pos h8, if_neg h9, if_pos h8]
    · by_cases h7 : x.1 = 7
      · rw [if_pos h7, if_neg h9, if_neg h8, if_pos h7]
      · rw [if_neg h7, if_neg h8, if_neg h9, if_neg h9, if_neg h8, if_neg h7]
section
variable {W w : World} {q : Nat} {t : T} {wat : List Int} {s : M} {V : List Int} {hit : Bool} {z : Sl}

set_option maxHeartbeats 4000000 in
set_option maxRecDepth 100000 in
theorem do4 (h : RunAt W w q t wat s V false z) (hz : Sz s V wat) (hT : Tabs W) (a b c ex : Int) : Calls Tryz.prog 112 #[.pointer (some ⟨q, 0, none⟩), insV (4, a, b, c, ex)] w (DidI W q t wat V z (doI wat s V (4, a, b, c, ex))) := by
  obtain ⟨w1, g, hw1, hg, HG, HB, HZ⟩ := Ir.newBox w (insA (4, a, b, c, ex)) 42
  have k0 : w1.cell? ⟨g, 0, none⟩ = some (.int .i64 4) := whole_cell HG.out rfl
  have k1 : w1.cell? ⟨g, 1, none⟩ = some (.int .i64 a) := whole_cell HG.out rfl
  have k2 : w1.cell? ⟨g, 2, none⟩ = some (.int .i64 b) := whole_cell HG.out rfl
  have k3 : w1.cell? ⟨g, 3, none⟩ = some (.int .i64 c) := whole_cell HG.out rfl
  have k4 : w1.cell? ⟨g, 4, none⟩ = some (.int .i64 ex) := whole_cell HG.out rfl
  have HR := Lib.hid (h.below HB.out)
  have C := Lib.hid (calc_any HR.out hz.vl hz.vi (4, a, b, c, ex))
  have HP := Lib.hid (show doI wat s V (4, a, b, c, ex) = calcI s a (val V b) (val V c) from rfl)
  rw [HP.out]
  dsimp only at C
  have HS := Lib.hid (calcI_s s a (val V b) (val V c))
  have HH := Lib.hid (calcI_hit s a (val V b) (val V c))
  generalize calcI s a (val V b) (val V c) = d at *
  obtain ⟨ds, dv, don, dh⟩ := d
  obtain rfl := HS.out
  obtain rfl := HH.out
  clear h hz HP HS HH hT
  go_enter Tryz.func112, Tryz.ntmps112
  go_wp2_with (go_at_call 124; refine C.out.mono ?_; rintro e w2 ⟨rfl, hb⟩; have HR := Lib.hid (HR.out.below hb); clear hb)
  go_ret2
  exact ⟨rfl, HR.out⟩

set_option maxHeartbeats 4000000 in
set_option maxRecDepth 100000 in
theorem do5 (h : RunAt W w q t wat s V false z) (hz : Sz s V wat) (hT : Tabs W) (a b c ex : Int) : Calls Tryz.prog 112 #[.pointer (some ⟨q, 0, none⟩), insV (5, a, b, c, ex)] w (DidI W q t wat V z (doI wat s V (5, a, b, c, ex))) := by
  obtain ⟨w1, g, hw1, hg, HG, HB, HZ⟩ := Ir.newBox w (insA (5, a, b, c, ex)) 42
  have k0 : w1.cell? ⟨g, 0, none⟩ = some (.int .i64 5) := whole_cell HG.out rfl
  have k2 : w1.cell? ⟨g, 2, none⟩ = some (.int .i64 b) := whole_cell HG.out rfl
  have HR := Lib.hid (h.below HB.out)
  have CV := Lib.hid (fun k => value_any (HR.out.drewN k) hz.vl b)
  have CG := Lib.hid (fun k => get_any (Reads.of_owns (HR.out.drewN k).me) (Nat.le_trans hz.me (by decide)) (val V b))
  obtain ⟨-, -, -, -, -, -, -, -, c13, -⟩ := HR.out.cells
  obtain ⟨vs, vb, vm, vv, vw, vi, vo, vc, ex'⟩ := z
  dsimp only at c13 CG
  have HP := Lib.hid (show doI wat s V (5, a, b, c, ex) = seeI s s.mem (val V b) from rfl)
  rw [HP.out]
  unfold seeI
  obtain ⟨r, hr⟩ : ∃ r, getL s.mem (val V b) = r := ⟨_, rfl⟩
  rw [hr] at CG ⊢
  clear h hz hr HP
  go_enter Tryz.func112, Tryz.ntmps112
  go_wp2_with fail
  go_quiet (first | (go_at_call 125; exact Calls.quiet_of_same (CV.out _)) | (go_at_call 123; exact Calls.quiet_of_same (CG.out _)))
  go_wp2
  go_ret2
  exact ⟨rfl, HR.out.drewN _⟩

set_option maxHeartbeats 4000000 in
set_option maxRecDepth 100000 in
theorem do6 (h : RunAt W w q t wat s V false z) (hz : Sz s V wat) (hT : Tabs W) (a b c ex : Int) : Calls Tryz.prog 112 #[.pointer (some ⟨q, 0, none⟩), insV (6, a, b, c, ex)] w (DidI W q t wat V z (doI wat s V (6, a, b, c, ex))) := by
  obtain ⟨w1, g, hw1, hg, HG, HB, HZ⟩ := Ir.newBox w (insA (6, a, b, c, ex)) 42
  have k0 : w1.cell? ⟨g, 0, none⟩ = some (.int .i64 6) := whole_cell HG.out rfl
  have k2 : w1.cell? ⟨g, 2, none⟩ = some (.int .i64 b) := whole_cell HG.out rfl
  have k3 : w1.cell? ⟨g, 3, none⟩ = some (.int .i64 c) := whole_cell HG.out rfl
  have HR := Lib.hid (h.below HB.out)
  have CB := Lib.hid (value_any HR.out.drew hz.vl b)
  have CC := Lib.hid (value_any HR.out.drew hz.vl c)
  have CP := Lib.hid (put_any HR.out.drew (Nat.le_trans hz.me (by decide)) hz.wa (val V b) (val V c))
  have HP := Lib.hid (show doI wat s V (6, a, b, c, ex) = putI wat s (val V b) (val V c) from rfl)
  rw [HP.out]
  have HS := Lib.hid (putI_v wat s (val V b) (val V c))
  generalize putI wat s (val V b) (val V c) = d at *
  obtain ⟨ds, dv, don, dh⟩ := d
  obtain rfl := HS.out
  clear h hz HP HS hT
  go_enter Tryz.func112, Tryz.ntmps112
  go_wp2_with fail
  go_region_with (first
    | (go_at_call 125; first | (with_reducible refine CB.out.mono ?_; rintro e w' ⟨rfl, rfl⟩) | (with_reducible refine CC.out.mono ?_; rintro e w' ⟨rfl, rfl⟩))
    | (go_at_call 126; refine CP.out.mono ?_; rintro e w2 ⟨rfl, hr2⟩; have HR2 := Lib.hid hr2; clear hr2))
  all_goals
    go_wp2
    go_ret2
    exact ⟨rfl, HR2.out⟩

set_option maxHeartbeats 4000000 in
set_option maxRecDepth 100000 in
theorem do10 (h : RunAt W w q t wat s V false z) (hz : Sz s V wat) (hT : Tabs W) (a b c ex : Int) : Calls Tryz.prog 112 #[.pointer (some ⟨q, 0, none⟩), insV (10, a, b, c, ex)] w (DidI W q t wat V z (doI wat s V (10, a, b, c, ex))) := by
  obtain ⟨w1, g, hw1, hg, HG, HB, HZ⟩ := Ir.newBox w (insA (10, a, b, c, ex)) 42
  have k0 : w1.cell? ⟨g, 0, none⟩ = some (.int .i64 10) := whole_cell HG.out rfl
  have k2 : w1.cell? ⟨g, 2, none⟩ = some (.int .i64 b) := whole_cell HG.out rfl
  have HR := Lib.hid (h.below HB.out)
  obtain ⟨y, hy⟩ : ∃ y, val V b = y := ⟨_, rfl⟩
  have C1 := Lib.hid (value_any HR.out hz.vl b)
  rw [hy] at C1
  obtain ⟨w2, gl, hw2, hgl, hcv, HB2⟩ := byte_box w1 (y % 256)
  have C2 := Lib.hid (say_any (HR.out.below HB2.out) hz.ou (byteT y) (by show 1 ≤ 100; decide))
  have HP := Lib.hid (show doI wat s V (10, a, b, c, ex) = sayI s (byteT y) by rw [← hy]; rfl)
  rw [HP.out]
  have HS := Lib.hid (sayI_v s (byteT y))
  unfold byteT at *
  generalize sayI s _ = d at *
  obtain ⟨ds, dv, don, dh⟩ := d
  obtain rfl := HS.out
  clear h hz hy HP HS hT
  go_enter Tryz.func112, Tryz.ntmps112
  go_wp2_with (first
    | (go_at_call 125; refine C1.out.mono ?_; rintro e w' ⟨rfl, rfl⟩)
    | (go_at_call 127; refine C2.out.mono ?_; rintro e w3 ⟨rfl, hr2⟩; have HR2 := Lib.hid hr2; clear hr2))
  go_ret2
  exact ⟨rfl, HR2.out⟩

set_option maxHeartbeats 4000000 in
set_option maxRecDepth 100000 in
theorem do11 (h : RunAt W w q t wat s V false z) (hz : Sz s V wat) (hT : Tabs W) (a b c ex : Int) : Calls Tryz.prog 112 #[.pointer (some ⟨q, 0, none⟩), insV (11, a, b, c, ex)] w (DidI W q t wat V z (doI wat s V (11, a, b, c, ex))) := by
  obtain ⟨w1, g, hw1, hg, HG, HB, HZ⟩ := Ir.newBox w (insA (11, a, b, c, ex)) 42
  have k0 : w1.cell? ⟨g, 0, none⟩ = some (.int .i64 11) := whole_cell HG.out rfl
  have k2 : w1.cell? ⟨g, 2, none⟩ = some (.int .i64 b) := whole_cell HG.out rfl
  have HR := Lib.hid (h.below HB.out)
  obtain ⟨y, hy⟩ : ∃ y, val V b = y := ⟨_, rfl⟩
  have iy : In y := by rw [← hy]; exact val_in hz.vi b
  have C1 := Lib.hid (value_any HR.out hz.vl b)
  rw [hy] at C1
  have HT1 := hT.mono HR.out.hb
  have C2 := Lib.hid (put_any' y iy w1 HT1)
  have hlen := itoa_len iy.1 iy.2
  have hsz : (⟨(Lib.itoa y).toArray⟩ : ByteArray).size = (Lib.itoa y).length := by simp [ByteArray.size]
  have C3 := Lib.hid (fun wc (hb : Below w1.heap.size w1 wc) => say_any (HR.out.below hb) hz.ou (tellT y) (by unfold tellT; rw [ByteArray.size_append, hsz]; show _ + 1 ≤ 100; omega))
  have HP := Lib.hid (show doI wat s V (11, a, b, c, ex) = sayI s (tellT y) by rw [← hy]; rfl)
  rw [HP.out]
  have HS := Lib.hid (sayI_v s (tellT y))
  have HL := Lib.hid (And.intro hlen hsz)
  unfold tellT at *
  generalize Lib.itoa y = tl at *
  obtain ⟨nl, hnl⟩ : ∃ n, tl.length = n := ⟨_, rfl⟩
  rw [hnl] at hlen hsz
  generalize sayI s _ = d at *
  obtain ⟨ds, dv, don, dh⟩ := d
  obtain rfl := HS.out
  clear h hz hy HP HS hT HT1 HL
  go_enter Tryz.func112, Tryz.ntmps112
  go_wp2_with (first
    | (go_at_call 125; refine C1.out.mono ?_; rintro e w' ⟨rfl, rfl⟩)
    | (go_at_call 128; refine C2.out.mono ?_; rintro e w2 ⟨rfl, hb⟩; have C4 := Lib.hid (C3.out _ hb); clear hb)
    | (go_at_call 127; refine C4.out.mono ?_; rintro e w3 ⟨rfl, hr2⟩; have HR2 := Lib.hid hr2; clear hr2))
  go_ret2
  exact ⟨rfl, HR2.out⟩

set_option maxHeartbeats 4000000 in
set_option maxRecDepth 100000 in
theorem do12 (h : RunAt W w q t wat s V false z) (hz : Sz s V wat) (hT : Tabs W) (a b c ex : Int) : Calls Tryz.prog 112 #[.pointer (some ⟨q, 0, none⟩), insV (12, a, b, c, ex)] w (DidI W q t wat V z (doI wat s V (12, a, b, c, ex))) := by
  obtain ⟨w1, g, hw1, hg, HG, HB, HZ⟩ := Ir.newBox w (insA (12, a, b, c, ex)) 42
  have k0 : w1.cell? ⟨g, 0, none⟩ = some (.int .i64 12) := whole_cell HG.out rfl
  have HR := Lib.hid (h.below HB.out)
  have C1 := Lib.hid (ask_any HR.out hz.inp)
  have HP := Lib.hid (show doI wat s V (12, a, b, c, ex) = askI s from rfl)
  rw [HP.out]
  have HS := Lib.hid (askI_on s)
  generalize askI s = d at *
  obtain ⟨ds, dv, don, dh⟩ := d
  obtain rfl := HS.out
  clear h hz HP HS hT
  go_enter Tryz.func112, Tryz.ntmps112
  go_wp2_with (go_at_call 129; refine C1.out.mono ?_; rintro e w3 ⟨rfl, hr2⟩; have HR2 := Lib.hid hr2; clear hr2)
  go_ret2
  exact ⟨rfl, HR2.out⟩

set_option maxHeartbeats 4000000 in
set_option maxRecDepth 100000 in
theorem doElse (op : Int) (h1 : op ≠ 1) (h2 : op ≠ 2) (h3 : op ≠ 3) (h4 : op ≠ 4) (h5 : op ≠ 5) (h6 : op ≠ 6) (h10 : op ≠ 10) (h11 : op ≠ 11) (h12 : op ≠ 12) (h : RunAt W w q t wat s V false z) (hz : Sz s V wat) (hT : Tabs W) (a b c ex : Int) : Calls Tryz.prog 112 #[.pointer (some ⟨q, 0, none⟩), insV (op, a, b, c, ex)] w (DidI W q t wat V z (doI wat s V (op, a, b, c, ex))) := by
  obtain ⟨w1, g, hw1, hg, HG, HB, HZ⟩ := Ir.newBox w (insA (op, a, b, c, ex)) 42
  have k0 : w1.cell? ⟨g, 0, none⟩ = some (.int .i64 op) := whole_cell HG.out rfl
  have k1 : w1.cell? ⟨g, 1, none⟩ = some (.int .i64 a) := whole_cell HG.out rfl
  have k2 : w1.cell? ⟨g, 2, none⟩ = some (.int .i64 b) := whole_cell HG.out rfl
  have k3 : w1.cell? ⟨g, 3, none⟩ = some (.int .i64 c) := whole_cell HG.out rfl
  have k4 : w1.cell? ⟨g, 4, none⟩ = some (.int .i64 ex) := whole_cell HG.out rfl
  have HR := Lib.hid (h.below HB.out)
  have C1 := Lib.hid (holds_any HR.out hz.vl hz.vi (op, a, b, c, ex))
  have HP := Lib.hid (show doI wat s V (op, a, b, c, ex) = ⟨s, 0, holdsB (op, a, b, c, ex) (val V b) (val V c), false⟩ from doI_holds h1 h2 h3 h4 h5 h6 h10 h11 h12)
  rw [HP.out]
  dsimp only at C1
  generalize holdsB (op, a, b, c, ex) (val V b) (val V c) = r at *
  have e1 : (op == 1) = false := by simpa using h1
  have e2 : (op == 2) = false := by simpa using h2
  have e3 : (op == 3) = false := by simpa using h3
  have e4 : (op == 4) = false := by simpa using h4
  have e5 : (op == 5) = false := by simpa using h5
  have e6 : (op == 6) = false := by simpa using h6
  have e10 : (op == 10) = false := by simpa using h10
  have e11 : (op == 11) = false := by simpa using h11
  have e12 : (op == 12) = false := by simpa using h12
  clear h hz HP hT h1 h2 h3 h4 h5 h6 h10 h11 h12
  go_enter Tryz.func112, Tryz.ntmps112
  go_wp2_with (go_at_call 130; refine C1.out.mono ?_; rintro e w3 ⟨rfl, hb⟩; have HR := Lib.hid (HR.out.below hb); clear hb)
  go_ret2
  exact ⟨rfl, HR.out⟩

theorem do_any (h : RunAt W w q t wat s V false z) (hz : Sz s V wat) (hT : Tabs W) (x : I) : Calls Tryz.prog 112 #[.pointer (some ⟨q, 0, none⟩), insV x] w (DidI W q t wat V z (doI wat s V x)) := by
  obtain ⟨op, a, b, c, ex⟩ := x
  by_cases h1 : op = 1
  · subst h1; exact do1 h hz hT a b c ex
  by_cases h2 : op = 2
  · subst h2; exact do2 h hz hT a b c ex
  by_cases h3 : op = 3
  · subst h3; exact do3 h hz hT a b c ex
  by_cases h4 : op = 4
  · subst h4; exact do4 h hz hT a b c ex
  by_cases h5 : op = 5
  · subst h5; exact do5 h hz hT a b c ex
  by_cases h6 : op = 6
  · subst h6; exact do6 h hz hT a b c ex
  by_cases h10 : op = 10
  · subst h10; exact do10 h hz hT a b c ex
  by_cases h11 : op = 11
  · subst h11; exact do11 h hz hT a b c ex
  by_cases h12 : op = 12
  · subst h12; exact do12 h hz hT a b c ex
  exact doElse op h1 h2 h3 h4 h5 h6 h10 h11 h12 h hz hT a b c ex
end
end Go.Proofs.YtpecingkoodmfaaGreatDoor.Ev
