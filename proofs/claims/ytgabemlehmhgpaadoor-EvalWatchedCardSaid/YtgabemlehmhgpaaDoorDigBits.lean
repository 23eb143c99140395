
/- The walks of the library's small callees: internal/strconv.isPowerOfTwo, math/bits.TrailingZeros at a base's powers. -/
import Derived.Test.YtgabemlehmhgpaaDoorDigWalks
import Derived.Laws.BitsAllLaws
import Derived.Lib.LaidTab
import Derived.Lib.TrailingZeros
namespace Go.Proofs.YtgabemlehmhgpaaDoor
open Go.RowKit
set_option linter.unusedSimpArgs false
set_option linter.unusedVariables false

def powB (b : Int) : Bool := bits .and .i64 b (b - 1) == 0
theorem pow_walk (b : Int) (h0 : 2 ≤ b) (h1 : b ≤ 36) (w : World) :
    Calls Tryd.prog 78 #[.int .i64 b] w fun e w' => e = .returned (.bool (powB b)) ∧ w = w' := by
  go_enter Tryd.func78, Tryd.ntmps78
  go_wp2
  go_ret
  exact ⟨rfl, rfl⟩
theorem pow_fin : ∀ b : Fin 37, 2 ≤ b.val → powB (b.val : Int) = true → b.val = 2 ∨ b.val = 4 ∨ b.val = 8 ∨ b.val = 16 ∨ b.val = 32 := by decide +kernel
theorem pow_cases {b : Nat} (h0 : 2 ≤ b) (h1 : b ≤ 36) (h : powB b = true) : b = 2 ∨ b = 4 ∨ b = 8 ∨ b = 16 ∨ b = 32 := pow_fin ⟨b, by omega⟩ h0 h
/-- the table of the trailing zeros, as the row lists it -/
def tz64 : List Int := Lib.deBruijn64tab.map fun (n : Nat) => (n : Int)
def Zeros (w : World) : Prop := Lib.TabIs Tryd.prog w "math/bits.deBruijn64tab" .u8 tz64
theorem Tryd.gz : Tryd.prog.globalNamed "math/bits.deBruijn64tab" = some 6 := by kernel_rfl
theorem Zeros.at {w : World} (h : Zeros w) (i : Nat) (hi : i < 64) : w.cell? ⟨6, i, none⟩ = some (.int .u8 (tz64.getD i 0)) := by
  have := h.cell Tryd.gz i (by show i < tz64.length; rw [show tz64.length = 64 from by decide]; exact hi)
  simpa using this
set_option maxHeartbeats 1000000 in
theorem tz_core (a k : Int) (ha : (a == 0) = false) (k0 : 0 ≤ k) (k1 : k ≤ 64) (w : World)
    (h0 : 0 ≤ IntKind.u64.wrap (bits .and .u64 a (IntKind.u64.wrap (-a)) * 285870213051353865) / 288230376151711744)
    (h1 : IntKind.u64.wrap (bits .and .u64 a (IntKind.u64.wrap (-a)) * 285870213051353865) / 288230376151711744 < 64)
    (hc : w.cell? ⟨6, (IntKind.u64.wrap (bits .and .u64 a (IntKind.u64.wrap (-a)) * 285870213051353865) / 288230376151711744).toNat, none⟩ = some (.int .u8 k)) :
    Calls Tryd.prog 84 #[.int .u64 a] w fun e w' => e = .returned (.int .i64 k) ∧ w = w' := by
  go_enter Tryd.func84, Tryd.ntmps84
  go_wp2
  go_ret
  exact ⟨rfl, rfl⟩
theorem tz_at (a k : Int) (i : Nat) (hi : i < 64) (ha : (a == 0) = false) (k0 : 0 ≤ k) (k1 : k ≤ 64) (e : IntKind.u64.wrap (bits .and .u64 a (IntKind.u64.wrap (-a)) * 285870213051353865) / 288230376151711744 = (i : Int)) (ek : tz64.getD i 0 = k) (w : World) (h : Zeros w) :
    Calls Tryd.prog 84 #[.int .u64 a] w fun e w' => e = .returned (.int .i64 k) ∧ w = w' :=
  tz_core a k ha k0 k1 w (by rw [e]; omega) (by rw [e]; omega) (by rw [e, ← ek, Int.toNat_natCast]; exact h.at i hi)
theorem tz64_at (b : Nat) (k : Int) (hk : b = 2 ∧ k = 1 ∨ b = 4 ∧ k = 2 ∨ b = 8 ∧ k = 3 ∨ b = 16 ∧ k = 4 ∨ b = 32 ∧ k = 5) (w : World) (h : Zeros w) :
    Calls Tryd.prog 84 #[.int .u64 b] w fun e w' => e = .returned (.int .i64 k) ∧ w = w' := by
  rcases hk with ⟨rfl, rfl⟩ | ⟨rfl, rfl⟩ | ⟨rfl, rfl⟩ | ⟨rfl, rfl⟩ | ⟨rfl, rfl⟩
  · exact tz_at _ _ (2 ^ 1 * 285870213051353865 % 18446744073709551616 / 288230376151711744) (by decide) rfl (by decide) (by decide) (by decide +kernel) (by decide +kernel) w h
  · exact tz_at _ _ (2 ^ 2 * 285870213051353865 % 18446744073709551616 / 288230376151711744) (by decide) rfl (by decide) (by decide) (by decide +kernel) (by decide +kernel) w h
  · exact tz_at _ _ (2 ^ 3 * 285870213051353865 % 18446744073709551616 / 288230376151711744) (by decide) rfl (by decide) (by decide) (by decide +kernel) (by decide +kernel) w h
  · exact tz_at _ _ (2 ^ 4 * 285870213051353865 % 18446744073709551616 / 288230376151711744) (by decide) rfl (by decide) (by decide) (by decide +kernel) (by decide +kernel) w h
  · exact tz_at _ _ (2 ^ 5 * 285870213051353865 % 18446744073709551616 / 288230376151711744) (by decide) rfl (by decide) (by decide) (by decide +kernel) (by decide +kernel) w h
theorem tz_walk (b : Nat) (k : Int) (hk : b = 2 ∧ k = 1 ∨ b = 4 ∧ k = 2 ∨ b = 8 ∧ k = 3 ∨ b = 16 ∧ k = 4 ∨ b = 32 ∧ k = 5) (w : World) (h : Zeros w) :
    Calls Tryd.prog 79 #[.int .u64 b] w fun e w' => e = .returned (.int .i64 k) ∧ w = w' := by
  have C := Lib.hid (tz64_at b k hk w h)
  have hb : (b : Int) ≤ 32 := by omega
  clear hk h
  go_enter Tryd.func79, Tryd.ntmps79
  go_wp2_with (go_at_call 84; refine C.out.mono ?_; rintro e w' ⟨rfl, rfl⟩)
  go_ret
  exact ⟨rfl, rfl⟩
end Go.Proofs.YtgabemlehmhgpaaDoor
