/- OpNames: the walk. -/
import Derived.Test.YtlhamfiflmlepaaDoorOpAlive
import Derived.Test.YtlhamfiflmlepaaDoorSmall
import Derived.Deep.LoopGhost
import Derived.WideShapes
import Derived.Deep.DeepCutAuto
namespace Go.Proofs.YtlhamfiflmlepaaDoor.OpNames
open Go.RowKit Small
set_option linter.unusedSimpArgs false
set_option linter.unusedVariables false
set_option maxHeartbeats 4000000 in
set_option maxRecDepth 100000 in
theorem main (k : Nat) (hk : k < 48) (more : ByteArray) (W : World) (hs : more.size ≤ 20) (hn : NamesIs W) :
    Calls Tryd.prog 5 #[.int .i64 k, .string more] W (Says (.bool true) W) := by
  have HNT := Lib.hid hn
  clear hn
  have HSZ := Lib.hid hs
  have HK := Lib.hid hk
  have C := Lib.hid (opRight_any k W)
  rw [show opB (k : Int) = true from decide_eq_true (isOp_nat hk)] at C
  have e1 : decide (20 < (more.size : Int)) = false := decide_eq_false (by omega)
  have hns := nameOf_size hk
  have hq1 : ofI (low (nameOf k)) = (k : Int) ∧ ofB (low (nameOf k)) = true := by unfold ofI ofB; rw [ofN_low hk]; exact ⟨rfl, rfl⟩
  have HQ1 := Lib.hid hq1
  have hq2 : more ≠ ⟨#[]⟩ → ofB (nameOf k ++ more) = true → (ofI (nameOf k ++ more) == (k : Int)) = false := fun hm hb => by
    have := ofN_longer hk hm
    unfold ofB at hb
    obtain ⟨j, hj⟩ := Option.isSome_iff_exists.1 hb
    unfold ofI
    rw [hj] at this ⊢
    rw [beq_eq_false_iff_ne]
    intro e
    apply this
    congr 1
    have e' : (((some j).getD 0 : Nat) : Int) = (k : Int) := e
    exact Int.ofNat_inj.1 e'
  have HQ2 := Lib.hid hq2
  have D := Lib.hid (fun w (hn : NamesIs w) => opName_any k w hn)
  rw [show nameI (k : Int) = nameOf k from nameI_nat hk] at D
  obtain ⟨nm, hnm⟩ : ∃ nm, nameOf k = nm := ⟨_, rfl⟩
  rw [hnm] at D hns HQ1 HQ2
  clear hs hq1 hq2 hnm hk
  go_enter Tryd.func5, Tryd.ntmps5
  go_wp2_with fail
  refine C.out.mono ?_
  rintro e w1 ⟨rfl, hb⟩
  have HB1 := Lib.hid hb
  clear hb C
  have C := Lib.hid (alive6 w1 (HNT.out.mono HB1.out))
  go_wp2_with fail
  refine C.out.mono ?_
  rintro e w2 ⟨rfl, hb⟩
  have HB2 := Lib.hid (HB1.out.trans (hb.mono HB1.out.size))
  clear hb C e1
  go_wp2_with fail
  refine (D.out w2 (HNT.out.mono HB2.out)).mono ?_
  rintro e w3 ⟨rfl, hb⟩
  have HB3 := Lib.hid (HB2.out.trans (hb.mono HB2.out.size))
  clear hb
  have hcv := Lib.run_convert_string_bytes (P := Tryd.prog) w3 9 34 5 nm Tryd.underlying9 Tryd.underlying34 Tryd.underlying5
  have HR0 := Lib.hid (LowRow.start nm w3)
  have HW0 := Lib.hid (bytesw_below w3 nm)
  go_wp2
  go_loopg [6] nm.size (fun g i wr => ∃ q : Nat, g = nm.size - q ∧ q ≤ nm.size ∧ i = .int .i64 q ∧ Hid (LowRow w3.heap.size nm.data.toList q wr) ∧ Hid (Below w3.heap.size w3 wr))
  case atStart => exact ⟨0, rfl, Nat.zero_le _, rfl, HR0, HW0⟩
  case round =>
    obtain ⟨q, rfl, hq, rfl, HR, HW⟩ := hrel
    clear hcv
    by_cases hlt : q < nm.size
    · have hkl : q < nm.data.toList.length := by rw [bytes_len]; exact hlt
      obtain ⟨hc, hf⟩ := HR.out q hkl
      rw [if_neg (Nat.lt_irrefl q)] at hc
      obtain ⟨x, hx⟩ : ∃ x, nm.data.toList.getD q 0 = x := ⟨_, rfl⟩
      rw [hx] at hc
      have HX := Lib.hid hx
      clear hx
      rcases upper_cases x with ⟨x1, x2, x3⟩ | ⟨x1, x3⟩ | ⟨x1, x2, x3⟩
      · have HL := Lib.hid x3
        clear x3
        go_wp2
        go_roundg (nm.size - (q + 1))
        case measure => omega
        case rel => exact ⟨q + 1, rfl, by omega, by go_num, Lib.hid (HR.out.store hkl (by rw [HX.out]; exact congrArg (Value.int .u8) HL.out.symm)), HW.out.setCell (p := ⟨w3.heap.size, q, none⟩) (Nat.le_refl _) _⟩
      · have HL := Lib.hid x3
        clear x3
        go_wp2
        go_roundg (nm.size - (q + 1))
        case measure => omega
        case rel => exact ⟨q + 1, rfl, by omega, by go_num, Lib.hid (HR.out.keep hkl (by rw [HX.out]; exact HL.out)), HW⟩
      · have HL := Lib.hid x3
        clear x3
        go_wp2
        go_roundg (nm.size - (q + 1))
        case measure => omega
        case rel => exact ⟨q + 1, rfl, by omega, by go_num, Lib.hid (HR.out.keep hkl (by rw [HX.out]; exact HL.out)), HW⟩
    · obtain rfl : q = nm.size := by omega
      have hcv2 := low_text nm (grownCap w3 nm.size 0 5) w3.heap.size wr HR.out
      rw [show (⟨(nm.data.toList.map Lib.lowerB).toArray⟩ : ByteArray) = low nm from rfl] at hcv2
      have HBR := Lib.hid (HB3.out.trans (HW.out.mono HB3.out.size))
      have hlow : (low nm).size ≤ 1000 := by have : (low nm).size = nm.size := by rw [← bytes_len, ← bytes_len nm]; simp [low]
                                             omega
      have C := Lib.hid (opOf_any (low nm) hlow wr (HNT.out.mono HBR.out))
      rw [HQ1.out.1, HQ1.out.2] at C
      obtain ⟨lw, hlw⟩ : ∃ lw, low nm = lw := ⟨_, rfl⟩
      rw [hlw] at C hcv2
      clear hlt hlw hlow HB1 HB2 HB3 HR0 HW0 HW HR
      go_wp2_with fail
      refine C.out.mono ?_
      rintro e w4 ⟨rfl, hb⟩
      have HB4 := Lib.hid (HBR.out.trans (hb.mono HBR.out.size))
      clear hb C hcv2
      go_wp2_with fail
      refine (D.out w4 (HNT.out.mono HB4.out)).mono ?_
      rintro e w5 ⟨rfl, hb⟩
      have HB5 := Lib.hid (HB4.out.trans (hb.mono HB4.out.size))
      clear hb D
      have hcat : (nm ++ more).size ≤ 1000 := by rw [ByteArray.size_append]; have := HSZ.out; omega
      have C := Lib.hid (opOf_any (nm ++ more) hcat w5 (HNT.out.mono HB5.out))
      obtain ⟨y, hy⟩ : ∃ y, ofI (nm ++ more) = y := ⟨_, rfl⟩
      obtain ⟨z, hz⟩ : ∃ z, ofB (nm ++ more) = z := ⟨_, rfl⟩
      rw [hy, hz] at C
      have HQ3 := Lib.hid (show more ≠ ⟨#[]⟩ → z = true → (y == (k : Int)) = false by rw [← hy, ← hz]; exact HQ2.out)
      clear hy hz HQ2 HQ1
      have hm20 := HSZ.out
      go_wp2_with fail
      refine C.out.mono ?_
      rintro e w6 ⟨rfl, hb⟩
      have HB6 := Lib.hid (HB5.out.trans (hb.mono HB5.out.size))
      clear hb C hm20 hcat hns
      by_cases hm : more = ⟨#[]⟩
      · subst hm
        have e0 : ((⟨#[]⟩ : ByteArray).toList == (⟨#[]⟩ : ByteArray).toList) = true := beq_self_eq_true _
        clear HQ3
        go_wp2
        go_ret
        exact ⟨rfl, HB6.out⟩
      · have e0 : (more.toList == (⟨#[]⟩ : ByteArray).toList) = false := by
          rw [beq_eq_false_iff_ne]
          intro e
          rw [ByteArray.toList_eq, ByteArray.toList_eq] at e
          exact hm (Go.WideShapes.bytes_inj e)
        have e2 : (more.toList == ([] : List UInt8)) = false := by
          rw [beq_eq_false_iff_ne]
          intro e
          rw [ByteArray.toList_eq] at e
          exact hm (Go.WideShapes.bytes_inj e)
        cases z
        · clear HQ3 hm
          go_wp2
          go_ret
          exact ⟨rfl, HB6.out⟩
        · have e3 : (y != (k : Int)) = true := by rw [bne, HQ3.out hm rfl]; rfl
          clear HQ3 hm
          go_wp2
          go_ret
          exact ⟨rfl, HB6.out⟩
theorem early (a : Int) (more : ByteArray) (W : World) (h : ¬ isOp a ∨ 20 < more.size) (hn : NamesIs W) :
    Calls Tryd.prog 5 #[.int .i64 a, .string more] W (Says (.bool true) W) := by
  have HNT := Lib.hid hn
  clear hn
  have C := Lib.hid (opRight_any a W)
  have D := Lib.hid (fun w (hn : NamesIs w) => alive6 w hn)
  by_cases ho : isOp a
  · have e1 : decide (20 < (more.size : Int)) = true := decide_eq_true (by rcases h with h | h; exact absurd ho h; omega)
    rw [show opB a = true from decide_eq_true ho] at C
    clear h ho
    go_enter Tryd.func5, Tryd.ntmps5
    go_wp2_with fail
    refine C.out.mono ?_
    rintro e w1 ⟨rfl, hb⟩
    have HB1 := Lib.hid hb
    clear hb C
    go_wp2_with fail
    refine (D.out w1 (HNT.out.mono HB1.out)).mono ?_
    rintro e w2 ⟨rfl, hb⟩
    have HB2 := Lib.hid (HB1.out.trans (hb.mono HB1.out.size))
    clear hb D
    go_wp2
    go_ret
    exact ⟨rfl, HB2.out⟩
  · rw [show opB a = false from decide_eq_false ho] at C
    clear h ho
    go_enter Tryd.func5, Tryd.ntmps5
    go_wp2_with fail
    refine C.out.mono ?_
    rintro e w1 ⟨rfl, hb⟩
    have HB1 := Lib.hid hb
    clear hb C
    go_wp2_with fail
    refine (D.out w1 (HNT.out.mono HB1.out)).mono ?_
    rintro e w2 ⟨rfl, hb⟩
    have HB2 := Lib.hid (HB1.out.trans (hb.mono HB1.out.size))
    clear hb D
    go_wp2
    go_ret
    exact ⟨rfl, HB2.out⟩
theorem walk (a : Int) (more : ByteArray) (W : World) (hn : NamesIs W) : Calls Tryd.prog 5 #[.int .i64 a, .string more] W (Says (.bool true) W) := by
  by_cases h : isOp a ∧ more.size ≤ 20
  · obtain ⟨k, hk, rfl⟩ := nat_of_op h.1
    exact main k hk more W h.2 hn
  · exact early a more W (by by_cases ho : isOp a; exact .inr (by have := fun h' => h ⟨ho, h'⟩; omega); exact .inl ho) hn
end Go.Proofs.YtlhamfiflmlepaaDoor.OpNames
