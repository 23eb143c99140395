
/- The walk of internal/strconv.formatBits. -/
import Derived.Test.YtgabemlehmhgpaaDoorDigBits
import Derived.Laws.BytesArg
import Derived.Lib.ItoaMem
import Derived.Deep.LoopGhost
import Derived.Deep.DeepCutAuto
namespace Go.Proofs.YtgabemlehmhgpaaDoor
open Go.RowKit
set_option linter.unusedSimpArgs false
set_option linter.unusedVariables false
abbrev byteV (c : UInt8) : Value := .int .u8 (c.toNat : Int)
abbrev lowText : ByteArray := ⟨#[48, 49, 50, 51, 52, 53, 54, 55, 56, 57, 97, 98, 99, 100, 101, 102, 103, 104, 105, 106, 107, 108, 109, 110, 111, 112, 113, 114, 115, 116, 117, 118, 119, 120, 121, 122]⟩
/-- the last cells of 65 are these bytes -/
def Filled (c : Array Value) (l : List UInt8) : Prop := c.size = 65 ∧ ∃ pre, c.toList = pre ++ l.map byteV
def FmtRel (b U j n : Nat) (c : Array Value) (u i : Value) : Prop := j < Dig.nd b U ∧ n + j = 65 ∧ u = .int .u64 (U / b ^ j : Nat) ∧ i = .int .i64 n ∧ Filled c (Dig.suf Dig.loD b U j)
theorem Tryd.zeroSize : Tryd.zeroCells111.size = 65 := by kernel_rfl
theorem fill_step {c : Array Value} {l : List UInt8} {n : Nat} {x : UInt8} {v : Value} (h : Filled c l) (hl : n + l.length = 65) (hn : 0 < n) (hv : v = byteV x) : Filled (c.setIfInBounds (n - 1) v) (x :: l) := by
  obtain ⟨hc, pre, hp⟩ := h
  subst hv
  have hlen : pre.length = n := by
    have := congrArg List.length hp
    rw [Array.length_toList, hc] at this
    simp at this
    omega
  obtain ⟨p, y, rfl⟩ : ∃ p y, pre = p ++ [y] := ⟨_, _, (List.dropLast_concat_getLast (l := pre) (by intro h; rw [h] at hlen; simp at hlen; omega)).symm⟩
  have hpl : p.length = n - 1 := by simp at hlen; omega
  refine ⟨by simpa using hc, p, ?_⟩
  rw [Array.toList_setIfInBounds, hp, List.append_assoc, List.set_append_right _ _ (by omega), hpl, Nat.sub_self]
  rfl
theorem div_nat (q b : Nat) : ((q : Int) / (b : Int)) = ((q / b : Nat) : Int) := by omega
theorem cell_in {c : Array Value} {k : Nat} (hc : c.size = 65) (hk : k < 65) : ∃ v, c[k]? = some v := ⟨c[k], Array.getElem?_eq_getElem (by omega)⟩
theorem low_fin : ∀ k : Fin 36, lowText[k.val]? = some (Dig.loD k.val) := by decide +kernel
theorem low_at {m k : Nat} (h : m < lowText.size) (hm : m = k) (hk : k < 36) : lowText[m] = Dig.loD k := by
  subst hm
  have h1 := low_fin ⟨m, hk⟩
  have h2 : lowText[m]? = some lowText[m] := getElem?_pos lowText m h
  exact Option.some.inj (h2.symm.trans h1)
/-- what stands in the array and the index when the digits are laid -/
def Laid (b U : Nat) (w : World) (i : Value) (wx : World) : Prop := ∃ n c, n + Dig.nd b U = 65 ∧ i = .int .i64 n ∧ Filled c (Dig.digs Dig.loD b U) ∧ wx = w.alloc (.cells c 111)
theorem laid_end {b U j n q : Nat} {c : Array Value} {v : Value} {w : World} {i : Value} (h2 : 2 ≤ b) (h36 : b ≤ 36) (hu : U < 18446744073709551616) (hq : U / b ^ j = q) (hqb : q < b) (hn : n + j = 65) (hj : j < Dig.nd b U) (hc : Filled c (Dig.suf Dig.loD b U j)) (hv : v = byteV (Dig.loD q)) (hi : i = .int .i64 ((n : Int) - 1)) (hpre : j = 0 ∨ b ^ j ≤ U) :
    Laid b U w i (w.alloc (.cells (c.setIfInBounds (n - 1) v) 111)) := by
  have hjl := Nat.lt_of_lt_of_le hj (Dig.nd_le h2 hu)
  have hd : Dig.digs Dig.loD b U = Dig.loD q :: Dig.suf Dig.loD b U j := by
    unfold Dig.digs
    have hlt : U < b ^ (j + 1) := by
      rw [Nat.pow_succ', ← Nat.div_lt_iff_lt_mul (Nat.pow_pos (by omega)), hq]; exact hqb
    rw [Dig.nd_eq h2 hu (n := j + 1) ⟨by omega, hlt, ?_⟩, Dig.suf, hq, Nat.mod_eq_of_lt hqb]
    rcases hpre with h | h
    · left; omega
    · right; simpa using h
  have hnd : Dig.nd b U = j + 1 := by
    have := congrArg List.length hd
    rw [Dig.digs_length, List.length_cons, Dig.suf_length] at this
    exact this
  refine ⟨n - 1, _, by omega, by rw [hi]; exact congrArg (Value.int .i64) (by omega), ?_, rfl⟩
  rw [hd]
  exact fill_step hc (by rw [Dig.suf_length]; exact hn) (by omega) hv
theorem go_on {b U j q : Nat} (h2 : 2 ≤ b) (hf : Dig.Fits b U (Dig.nd b U)) (hq : U / b ^ j = q) (hbq : b ≤ q) : j + 1 < Dig.nd b U ∧ b ^ (j + 1) ≤ U := by
  have hp : 0 < b ^ j := Nat.pow_pos (by omega)
  have h4 : b ^ (j + 1) ≤ U := by
    rw [Nat.pow_succ']
    exact (Nat.le_div_iff_mul_le hp).1 (by rw [hq]; exact hbq)
  refine ⟨?_, h4⟩
  rcases Nat.lt_or_ge (j + 1) (Dig.nd b U) with h | h
  · exact h
  · have h1 : b ^ Dig.nd b U ≤ b ^ (j + 1) := Nat.pow_le_pow_right (by omega) h
    have h3 := hf.2.1
    omega
def FmtRel' (b U j n : Nat) (c : Array Value) (u i : Value) : Prop := FmtRel b U j n c u i ∧ (j = 0 ∨ b ^ j ≤ U)
theorem fmt_start (b U : Nat) (hf : Dig.Fits b U (Dig.nd b U)) : FmtRel' b U 0 65 Tryd.zeroCells111 (.int .u64 U) (.int .i64 65) :=
  ⟨⟨hf.1, rfl, by rw [Nat.pow_zero, Nat.div_one], rfl, Tryd.zeroSize, _, (List.append_nil _).symm⟩, .inl rfl⟩
theorem fmt_next {b U j n q : Nat} {c : Array Value} {v : Value} {u i : Value} (h2 : 2 ≤ b) (hf : Dig.Fits b U (Dig.nd b U)) (hq : U / b ^ j = q) (hbq : b ≤ q) (hn : n + j = 65) (hn0 : 0 < n) (hc : Filled c (Dig.suf Dig.loD b U j)) (hv : v = byteV (Dig.loD (q % b)))
    (hu : u = .int .u64 ((q / b : Nat) : Int)) (hi : i = .int .i64 ((n : Int) - 1)) : FmtRel' b U (j + 1) (n - 1) (c.setIfInBounds (n - 1) v) u i := by
  obtain ⟨hlt, hge⟩ := go_on h2 hf hq hbq
  refine ⟨⟨hlt, by omega, ?_, ?_, ?_⟩, .inr hge⟩
  · rw [hu, ← hq, Nat.div_div_eq_div_mul, ← Nat.pow_succ]
  · rw [hi]; exact congrArg (Value.int .i64) (by omega)
  · rw [Dig.suf, hq]
    exact fill_step hc (by rw [Dig.suf_length]; exact hn) hn0 hv
theorem mod_nat {q b : Nat} : ((q : Int) - (q : Int) / (b : Int) * (b : Int)).toNat = q % b := by
  have := Int.emod_def (q : Int) (b : Int)
  rw [Int.mul_comm] at this
  omega
theorem and_low {q b : Nat} {k : Int} (hk : b = 2 ∧ k = 1 ∨ b = 4 ∧ k = 2 ∨ b = 8 ∧ k = 3 ∨ b = 16 ∧ k = 4 ∨ b = 32 ∧ k = 5) (hq : q < 18446744073709551616) : bits .and .u64 (q : Int) ((b : Int) - 1) = ((q % b : Nat) : Int) := by
  have key : ∀ n, bits .and .u64 (q : Int) ((2 ^ n - 1 : Nat) : Int) = ((q % 2 ^ n : Nat) : Int) ∨ 18446744073709551616 ≤ 2 ^ n - 1 := fun n => by
    rcases Nat.lt_or_ge (2 ^ n - 1) 18446744073709551616 with h | h
    · left; rw [u64_and_nat _ _ hq h, Nat.and_two_pow_sub_one_eq_mod]
    · right; exact h
  rcases hk with ⟨rfl, _⟩ | ⟨rfl, _⟩ | ⟨rfl, _⟩ | ⟨rfl, _⟩ | ⟨rfl, _⟩
  · exact (key 1).resolve_right (by decide)
  · exact (key 2).resolve_right (by decide)
  · exact (key 3).resolve_right (by decide)
  · exact (key 4).resolve_right (by decide)
  · exact (key 5).resolve_right (by decide)
theorem shr_low {q b : Nat} {k : Int} (hk : b = 2 ∧ k = 1 ∨ b = 4 ∧ k = 2 ∨ b = 8 ∧ k = 3 ∨ b = 16 ∧ k = 4 ∨ b = 32 ∧ k = 5) : (q : Int) / 2 ^ k.toNat = ((q / b : Nat) : Int) := by
  rcases hk with ⟨rfl, rfl⟩ | ⟨rfl, rfl⟩ | ⟨rfl, rfl⟩ | ⟨rfl, rfl⟩ | ⟨rfl, rfl⟩ <;> rfl
theorem Zeros.alloc {w : World} (h : Zeros w) (o : Obj) : Zeros (w.alloc o) := Lib.tabIs_alloc h o
theorem slice_at (N : Nat) (W : World) (x : Int) (h0 : 0 ≤ x) (h1 : x < 65) : (Instr.sliceAt 111 (.pointer (some ⟨N, 0, none⟩)) (some (.int .i64 x)) none none).run Tryd.prog W = .ok (.slice (some ⟨N, x.toNat, none⟩) (65 - x.toNat) (65 - x.toNat)) W := by
  have hal : Tryd.prog.arrayLen 111 = 65 := by simp [Program.arrayLen, Tryd.underlying111]
  rw [run_sliceAt_array_l W 111 ⟨N, 0, none⟩ (by simp [Program.arrayLen, Program.elem, Tryd.underlying111]) .i64 x h0 (by rw [hal]; omega)]
  go_simp
  omega
def sg (neg : Bool) : List UInt8 := if neg then [45] else []
set_option maxRecDepth 100000 in
theorem text_of_cells (w : World) (c : Array Value) (l : List UInt8) (m : Nat) (hm : m + l.length = 65) (h : Filled c l) :
    (convert 62 9 (.slice (some ⟨w.heap.size, m, none⟩) (65 - m) (65 - m))).run Tryd.prog (w.alloc (.cells c 111)) = .ok (.string ⟨l.toArray⟩) (w.alloc (.cells c 111)) := by
  obtain ⟨hc, pre, hp⟩ := h
  have hpl : pre.length = m := by
    have := congrArg List.length hp
    rw [Array.length_toList, hc] at this
    simp at this
    omega
  have e := run_convert_bytes_arg (P := Tryd.prog) (w.alloc (.cells c 111)) 62 5 Tryd.underlying62 Tryd.underlying5 w.heap.size m (65 - m) (65 - m) (l.map fun x => (x.toNat : Int)) (by simp; omega)
    (fun i hi => by
      rw [World.cell?_alloc_new, ← Array.getElem?_toList, hp, List.getElem?_append_right (by omega), hpl, Nat.add_sub_cancel_left]
      have hi' : i < l.length := by omega
      simp [hi', List.getD, List.getElem?_eq_getElem hi']) 9 Tryd.underlying9
  rw [e]
  congr 2
  simp only [strOfNums, List.map_map]
  exact congrArg (fun x : List UInt8 => (⟨x.toArray⟩ : ByteArray)) ((List.map_congr_left (g := id) fun x _ => by simp).trans (List.map_id l))
set_option maxHeartbeats 4000000 in
set_option maxRecDepth 100000 in
theorem format_any (U b : Nat) (neg : Bool) (x : Int) (hx : (neg = false ∧ x = U) ∨ (neg = true ∧ IntKind.u64.wrap (-x) = (U : Int))) (h2 : 2 ≤ b) (h36 : b ≤ 36) (h10 : ((b : Int) == 10) = false) (hU : U ≤ 9223372036854775808) (w : World) (hw : Zeros w) :
    Calls Tryd.prog 69 #[.slice none 0 0, .int .u64 x, .int .i64 b, .bool neg, .bool false] w fun e w' => e = .returned (.tuple #[.slice none 0 0, .string ⟨(sg neg ++ Dig.digs Dig.loD b U).toArray⟩]) ∧ Below w.heap.size w w' := by
  have P := Lib.hid (pow_walk b (by omega) (by omega))
  have HF := Lib.hid (Dig.nd_fits (b := b) (u := U) h2 (by omega))
  have HX := Lib.hid hx
  have HZ := Lib.hid hw
  clear hx hw
  go_enter Tryd.func69, Tryd.ntmps69
  go_upto_if 30 with fail
  go_cut [1] (fun u wx => u = .int .u64 U ∧ wx = w.alloc (.cells Tryd.zeroCells111 111))
  case first =>
    rcases HX.out with ⟨rfl, rfl⟩ | ⟨rfl, h⟩
    · go_wp2_with fail; go_meet; exact ⟨rfl, rfl⟩
    · go_wp2_with fail; go_meet; exact ⟨rfl, rfl⟩
  case rest =>
    obtain ⟨rfl, rfl⟩ := hcut
    go_upto_if 34 with (go_at_call 78; refine (P.out _).mono ?_; rintro e w' ⟨rfl, rfl⟩)
    go_cut [13] (fun i wx => Hid (Laid b U w i wx))
    case first =>
      cases hp : powB b
      · go_wp2
        go_loopg [1, 13] (Dig.nd b U) (fun k u i wr => ∃ j n c, k = Dig.nd b U - j ∧ Hid (FmtRel' b U j n c u i) ∧ wr = w.alloc (.cells c 111))
        case atStart => exact ⟨0, 65, _, by omega, fmt_start b U HF.out, rfl⟩
        case round =>
          obtain ⟨j, n, c, rfl, HR, rfl⟩ := hrel
          obtain ⟨⟨hj, hn, rfl, rfl, hf⟩, hge⟩ := HR.out
          have hc := hf.1
          obtain ⟨q, hq⟩ : ∃ q, U / b ^ j = q := ⟨_, rfl⟩
          rw [hq]
          have hqU : q ≤ U := by rw [← hq]; exact Nat.div_le_self _ _
          have hj64 := Nat.lt_of_lt_of_le hj (Dig.nd_le h2 (by omega))
          have hn0 : 0 < n := by omega
          have hn65 : n ≤ 65 := by omega
          have HN := Lib.hid hn
          have HQ := Lib.hid hq
          have HC := Lib.hid hf
          have HG := Lib.hid hge
          obtain ⟨v0, hv0⟩ := cell_in (k := n - 1) hc (by omega)
          clear HR hq hf hn hge
          by_cases hq0 : b ≤ q
          · have r0 : 0 ≤ (q : Int) / (b : Int) := Int.ediv_nonneg (by omega) (by omega)
            have r1 : (q : Int) / (b : Int) * (b : Int) ≤ (q : Int) := Int.ediv_mul_le _ (by omega)
            have r2 : (q : Int) - (q : Int) / (b : Int) * (b : Int) < (b : Int) := by have := Int.emod_lt_of_pos (q : Int) (show (0 : Int) < b by omega); have := Int.emod_def (q : Int) (b : Int); rw [Int.mul_comm] at this; omega
            have r3 : 0 ≤ (q : Int) / (b : Int) * (b : Int) := Int.mul_nonneg r0 (by omega)
            have r4 : (q : Int) / (b : Int) ≤ (q : Int) := Int.ediv_le_self _ (by omega)
            go_wp2
            go_roundg (Dig.nd b U - (j + 1))
            case measure => omega
            case rel => exact ⟨j + 1, n - 1, _, rfl, fmt_next h2 HF.out HQ.out hq0 HN.out hn0 HC.out (congrArg byteV (low_at _ mod_nat (by have := Nat.mod_lt q (show b > 0 by omega); omega))) (congrArg (Value.int .u64) (div_nat q b)) rfl, rfl⟩
          · have hq' : (q : Int) < (b : Int) := by omega
            have hz : q < 36 := by omega
            go_wp2
            go_meet
            exact laid_end h2 h36 (by omega) HQ.out (by omega) HN.out hj HC.out (congrArg byteV (low_at _ rfl hz)) rfl HG.out
      · have hbc := pow_cases h2 h36 hp
        obtain ⟨k, hk⟩ : ∃ k : Int, b = 2 ∧ k = 1 ∨ b = 4 ∧ k = 2 ∨ b = 8 ∧ k = 3 ∨ b = 16 ∧ k = 4 ∨ b = 32 ∧ k = 5 := by
          rcases hbc with h | h | h | h | h
          · exact ⟨1, .inl ⟨h, rfl⟩⟩
          · exact ⟨2, .inr (.inl ⟨h, rfl⟩)⟩
          · exact ⟨3, .inr (.inr (.inl ⟨h, rfl⟩))⟩
          · exact ⟨4, .inr (.inr (.inr (.inl ⟨h, rfl⟩)))⟩
          · exact ⟨5, .inr (.inr (.inr (.inr ⟨h, rfl⟩)))⟩
        have T := Lib.hid (tz_walk b k hk _ (HZ.out.alloc (.cells Tryd.zeroCells111 111)))
        have k1 : 1 ≤ k := by omega
        have k5 : k ≤ 5 := by omega
        have HK := Lib.hid hk
        clear hbc hk
        go_wp2_with (go_at_call 79; refine T.out.mono ?_; rintro e w' ⟨rfl, rfl⟩)
        go_loopg [1, 13] (Dig.nd b U) (fun k u i wr => ∃ j n c, k = Dig.nd b U - j ∧ Hid (FmtRel' b U j n c u i) ∧ wr = w.alloc (.cells c 111))
        case atStart => exact ⟨0, 65, _, by omega, fmt_start b U HF.out, rfl⟩
        case round =>
          obtain ⟨j, n, c, rfl, HR, rfl⟩ := hrel
          obtain ⟨⟨hj, hn, rfl, rfl, hf⟩, hge⟩ := HR.out
          have hc := hf.1
          obtain ⟨q, hq⟩ : ∃ q, U / b ^ j = q := ⟨_, rfl⟩
          rw [hq]
          have hqU : q ≤ U := by rw [← hq]; exact Nat.div_le_self _ _
          have hj64 := Nat.lt_of_lt_of_le hj (Dig.nd_le h2 (by omega))
          have hn0 : 0 < n := by omega
          have hn65 : n ≤ 65 := by omega
          have HN := Lib.hid hn
          have HQ := Lib.hid hq
          have HC := Lib.hid hf
          have HG := Lib.hid hge
          obtain ⟨v0, hv0⟩ := cell_in (k := n - 1) hc (by omega)
          have hqm : q % b < 36 := by have := Nat.mod_lt q (show b > 0 by omega); omega
          clear HR hq hf hn hge
          by_cases hq0 : b ≤ q
          · have hand := and_low (q := q) HK.out (by omega)
            have hshr := shr_low (q := q) HK.out
            go_wp2
            go_roundg (Dig.nd b U - (j + 1))
            case measure => omega
            case rel => exact ⟨j + 1, n - 1, _, rfl, fmt_next h2 HF.out HQ.out hq0 HN.out hn0 HC.out (congrArg byteV (low_at _ (by first | rfl | simp) hqm)) rfl rfl, rfl⟩
          · have hq' : (q : Int) < (b : Int) := by omega
            have hz : q < 36 := by omega
            go_wp2
            go_meet
            exact laid_end h2 h36 (by omega) HQ.out (by omega) HN.out hj HC.out (congrArg byteV (low_at _ rfl hz)) rfl HG.out
    case rest =>
      obtain ⟨n, c, hn, rfl, hf, rfl⟩ := hcut.out
      have hl := Dig.digs_length Dig.loD b U
      have hn0 : 0 < n := by have := Dig.nd_le (b := b) (u := U) h2 (by omega); omega
      have hn65 : n < 65 := by have := HF.out.1; omega
      have HN := Lib.hid hn
      have HL := Lib.hid hf
      obtain ⟨v0, hv0⟩ := cell_in (k := n - 1) hf.1 (by omega)
      clear hcut hn hf hl
      go_upto_if 89 with fail
      go_cut [13] (fun i wx => Hid (∃ (m : Nat) (c : Array Value), m + (sg neg ++ Dig.digs Dig.loD b U).length = 65 ∧ i = .int .i64 m ∧ Filled c (sg neg ++ Dig.digs Dig.loD b U) ∧ wx = w.alloc (.cells c 111)))
      case first =>
        cases neg
        · go_wp2_with fail
          go_meet
          exact ⟨n, c, by have h1 := HN.out; rw [← Dig.digs_length Dig.loD] at h1; exact h1, rfl, HL.out, rfl⟩
        · go_wp2_with fail
          go_meet
          exact ⟨n - 1, _, by have h1 := HN.out; have h3 := Dig.digs_length Dig.loD b U; rw [show sg true ++ Dig.digs Dig.loD b U = 45 :: Dig.digs Dig.loD b U from rfl, List.length_cons]; omega, congrArg (Value.int .i64) (by omega), fill_step (x := 45) (l := Dig.digs Dig.loD b U) HL.out (by rw [Dig.digs_length]; exact HN.out) hn0 rfl, rfl⟩
      case rest =>
        obtain ⟨m, c2, hm, rfl, hf2, rfl⟩ := hcut.out
        have hl1 : 1 ≤ (sg neg ++ Dig.digs Dig.loD b U).length := by
          rw [List.length_append, Dig.digs_length]; have := HF.out.1; omega
        obtain ⟨l, hl⟩ : ∃ l, (sg neg ++ Dig.digs Dig.loD b U) = l := ⟨_, rfl⟩
        rw [hl] at hm hf2 hl1
        have hsl := slice_at w.heap.size (w.alloc (.cells c2 111)) m (by omega) (by omega)
        have hcv := text_of_cells w c2 l m hm hf2
        rw [Int.toNat_natCast] at hsl
        have HL2 := Lib.hid hl
        clear hl hcut hm hf2 hl1 hv0 hn0 hn65 hU
        go_wp2
        go_ret2
        exact ⟨by rw [HL2.out]; rfl, (Below.refl _ _).alloc (Nat.le_refl _) _⟩
end Go.Proofs.YtgabemlehmhgpaaDoor
