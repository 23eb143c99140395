
/- The statements' first call (chapter 8). -/
import Derived.Test.YtmbblnebkcekdaaSrcWalks
namespace Go.Proofs.Ytmbblnebkcekdaa.Src
open Go.RowKit Book
set_option linter.unusedSimpArgs false
set_option linter.unusedVariables false
theorem sdrewN_below (B : Nat) (w : World) : ∀ n, Below B w (w.drewN n)
  | 0 => Below.refl _ _
  | n + 1 => by rw [← World.drew_drewN]; exact (sdrewN_below B w n).drew
/-- returned true, and left what was there -/
def Yes (w : World) (e : Ending) (w' : World) : Prop := e = .returned (.bool true) ∧ Below w.heap.size w w'
theorem past {W w w' : World} {p : Nat} (hp : W.heap.size ≤ p) (hB : Below W.heap.size W w) (hs : Stirred w w' [p]) : Below W.heap.size W w' :=
  hB.trans (hs.below (fun k hk => by rw [List.mem_singleton.1 hk]; exact hp) hB.size)
def demo : ByteArray := ⟨#[40, 32, 97, 41, 32, 98]⟩
set_option maxHeartbeats 2000000 in
theorem alive8 (w : World) : Calls Try.prog 7 #[] w (Yes w) := by
  have C := Lib.hid (new_any ⟨#[40, 32, 97, 41, 32, 98]⟩ w)
  go_enter Try.func7, Try.ntmps7
  go_wp2_with fail
  refine C.out.mono ?_
  rintro e w1 ⟨p, rfl, hA, hp, hb⟩
  have HP := Lib.hid hp
  have HB1 := Lib.hid hb
  have C := Lib.hid (word_any hA (by decide))
  rw [show wS ⟨#[40, 32, 97, 41, 32, 98]⟩ 0 = ⟨#[40]⟩ by decide +kernel, show wB ⟨#[40, 32, 97, 41, 32, 98]⟩ 0 = true by decide +kernel, show wAt ⟨#[40, 32, 97, 41, 32, 98]⟩ 0 = 2 by decide +kernel] at C
  clear hA hp hb
  go_wp2_with fail
  refine C.out.mono ?_
  rintro e w2 ⟨rfl, hA, hs⟩
  have HB2 := Lib.hid (past HP.out HB1.out hs)
  have C := Lib.hid (show Calls Try.prog 11 #[.pointer (some ⟨p, 0, none⟩), .int .u8 41] w2 _ from until_any hA 41 (by decide))
  rw [show uS ⟨#[40, 32, 97, 41, 32, 98]⟩ 2 41 = ⟨#[97]⟩ by decide +kernel, show uB ⟨#[40, 32, 97, 41, 32, 98]⟩ 2 41 = true by decide +kernel, show uAt ⟨#[40, 32, 97, 41, 32, 98]⟩ 2 41 = 4 by decide +kernel] at C
  clear hA hs
  go_wp2_with fail
  refine C.out.mono ?_
  rintro e w3 ⟨rfl, hA, hs⟩
  have HB3 := Lib.hid (past HP.out HB2.out hs)
  have C := Lib.hid (word_any hA (by decide))
  rw [show wS ⟨#[40, 32, 97, 41, 32, 98]⟩ 4 = ⟨#[98]⟩ by decide +kernel, show wB ⟨#[40, 32, 97, 41, 32, 98]⟩ 4 = true by decide +kernel, show wAt ⟨#[40, 32, 97, 41, 32, 98]⟩ 4 = 6 by decide +kernel] at C
  clear hA hs
  go_wp2_with fail
  refine C.out.mono ?_
  rintro e w4 ⟨rfl, hA, hs⟩
  have HB4 := Lib.hid (past HP.out HB3.out hs)
  have C := Lib.hid (left_any hA)
  rw [show (⟨#[40, 32, 97, 41, 32, 98]⟩ : ByteArray).extract 6 (⟨#[40, 32, 97, 41, 32, 98]⟩ : ByteArray).size = ⟨#[]⟩ by decide +kernel] at C
  clear hA hs
  go_wp2_with fail
  refine C.out.mono ?_
  rintro e w5 ⟨rfl, q, hq⟩
  have HB5 := Lib.hid (show Below w.heap.size w w5 by rw [hq]; exact HB4.out.trans (sdrewN_below _ _ _))
  clear hq C
  go_wp2
  go_ret
  exact ⟨rfl, HB5.out⟩
end Go.Proofs.Ytmbblnebkcekdaa.Src
namespace Go.Proofs.Ytmbblnebkcekdaa
open Go.RowKit
theorem byte_of {z : Int} (h : (Lit.int .u8 z).wf = true) : ∃ c : UInt8, z = (c.toNat : Int) := by
  simp only [Lit.wf, IntKind.min, IntKind.max, IntKind.signed, IntKind.bits, Bool.and_eq_true, decide_eq_true_eq, Bool.false_eq_true, if_false] at h
  refine ⟨UInt8.ofNat z.toNat, ?_⟩
  rw [UInt8.toNat_ofNat']
  omega
end Go.Proofs.Ytmbblnebkcekdaa
