
/- Package ir: an instruction as a text. -/
import Derived.Test.YtpecingkoodmfaaGreatDoorIrNames
import Derived.Test.YtpecingkoodmfaaGreatDoorFaultText
import Derived.Deep.LoopGhost
namespace Go.Proofs.YtpecingkoodmfaaGreatDoor.Ir
open Go.RowKit Book Mem
set_option linter.unusedSimpArgs false
set_option linter.unusedVariables false
theorem cat (a b : List UInt8) : ((⟨a.toArray⟩ : ByteArray) ++ ⟨b.toArray⟩) = ⟨(a ++ b).toArray⟩ := by
  apply ByteArray.ext; simp [ByteArray.data_append]
def nameL (op : Int) : List UInt8 := (nameI op).data.toList
theorem nameI_eq (op : Int) : nameI op = ⟨(nameL op).toArray⟩ := by
  apply ByteArray.ext
  simp [nameL]
theorem nameL_none {op : Int} (h : ¬ (1 ≤ op ∧ op ≤ 12)) : nameL op = [] := by
  unfold nameL nameI
  by_cases h0 : 0 ≤ op ∧ op ≤ 12
  · obtain rfl : op = 0 := by omega
    rfl
  · rw [if_neg h0]
theorem nameL_some {op : Int} (h : 1 ≤ op ∧ op ≤ 12) : ∃ c r, nameL op = c :: r ∧ r.length ≤ 10 := by
  rcases op_all op with h1 | h1 | rfl | rfl | rfl | rfl | rfl | rfl | rfl | rfl | rfl | rfl | rfl | rfl
  · omega
  · omega
  all_goals exact ⟨_, _, rfl, by decide⟩
/-- numbers, a blank ahead of each -/
def tailL (l : List Int) : List UInt8 := l.flatMap fun n => 32 :: Lib.itoa n
/-- an instruction as a text -/
def textI (x : I) : List UInt8 := if 1 ≤ x.1 ∧ x.1 ≤ 12 then nameL x.1 ++ tailL [x.2.1, x.2.2.1, x.2.2.2.1, x.2.2.2.2] else []
theorem tailL_snoc (l : List Int) (n : Int) : tailL (l ++ [n]) = tailL l ++ (32 :: Lib.itoa n) := by unfold tailL; rw [List.flatMap_append]; simp
theorem tailL_len {l : List Int} (h : ∀ n ∈ l, Cell.In n) : (tailL l).length ≤ 21 * l.length := by
  induction l with
  | nil => simp [tailL]
  | cons n r ih =>
    have h1 := itoa_len (h n (List.mem_cons_self)).1 (h n (List.mem_cons_self)).2
    have h2 := ih (fun k hk => h k (List.mem_cons_of_mem _ hk))
    have e : tailL (n :: r) = (32 :: Lib.itoa n) ++ tailL r := rfl
    rw [e, List.length_append, List.length_cons, List.length_cons]
    omega
/-- one more number -/
theorem more_text (cur : List UInt8) (n : Int) : ((⟨cur.toArray⟩ : ByteArray) ++ ((⟨#[32]⟩ : ByteArray) ++ ⟨(Lib.itoa n).toArray⟩)) = ⟨(cur ++ (32 :: Lib.itoa n)).toArray⟩ := by
  rw [show (⟨#[32]⟩ : ByteArray) = ⟨([32] : List UInt8).toArray⟩ from rfl, cat, cat]; rfl
/-- the four numbers -/
structure Ins4 (a b c d : Int) : Prop where
  a : Cell.In a
  b : Cell.In b
  c : Cell.In c
  d : Cell.In d
set_option maxHeartbeats 8000000 in
theorem text_any {w : World} (hT : Tabs w) (op a b c d : Int) (hi : Ins4 a b c d) : Calls Tryz.prog 16 #[insV (op, a, b, c, d)] w (Says (strV (textI (op, a, b, c, d))) w) := by
  obtain ⟨w1, g, hw1, hg, HG, HB, HZ⟩ := newBox w (insA (op, a, b, c, d)) 42
  have c0 : w1.cell? ⟨g, 0, none⟩ = some (.int .i64 op) := whole_cell HG.out rfl
  have c1 : w1.cell? ⟨g, 1, none⟩ = some (.int .i64 a) := whole_cell HG.out rfl
  have c2 : w1.cell? ⟨g, 2, none⟩ = some (.int .i64 b) := whole_cell HG.out rfl
  have c3 : w1.cell? ⟨g, 3, none⟩ = some (.int .i64 c) := whole_cell HG.out rfl
  have c4 : w1.cell? ⟨g, 4, none⟩ = some (.int .i64 d) := whole_cell HG.out rfl
  have HT := Lib.hid (hT.mono HB.out)
  have C := Lib.hid (name_any HT.out.names op)
  rw [nameI_eq] at C
  clear hT
  by_cases h : 1 ≤ op ∧ op ≤ 12
  · obtain ⟨ch, r, hn, hr⟩ := nameL_some h
    have HX := Lib.hid (show textI (op, a, b, c, d) = (ch :: r) ++ tailL [a, b, c, d] by unfold textI; rw [if_pos h, hn])
    rw [hn] at C
    obtain ⟨nm, hnm⟩ : ∃ nm, ch :: r = nm := ⟨_, rfl⟩
    have HNM := Lib.hid (show nm.length ≤ 11 by rw [← hnm]; simp; omega)
    have HNE := Lib.hid (show nm.isEmpty = false by rw [← hnm]; rfl)
    rw [hnm] at C HX
    clear h hn hr hnm
    have HI := Lib.hid hi
    clear hi
    have he := HNE.out
    go_enter Tryz.func16, Tryz.ntmps16
    go_wp2_with fail
    refine C.out.mono ?_
    rintro e wz ⟨rfl, hwz⟩
    subst wz
    clear C
    go_wp2
    go_loopg [3, 20] 4 (fun z s i wr => ∃ (j : Nat) (cur : List UInt8), z = 4 - j ∧ j ≤ 4 ∧ s = .string ⟨cur.toArray⟩ ∧ i = .int .i64 (j : Int) ∧ Hid (Below w1.heap.size w1 wr) ∧ Hid (cur = nm ++ tailL ([a, b, c, d].take j)))
    case atStart => exact ⟨0, nm, rfl, by omega, rfl, rfl, Lib.hid (Below.refl _ _), Lib.hid (by simp [tailL])⟩
    case round =>
      obtain ⟨j, cur, rfl, hj, rfl, rfl, HBR, HC⟩ := hrel
      have HTR := Lib.hid (HT.out.tens.mono HBR.out)
      have hcl : cur.length ≤ 100 := by
        rw [HC.out, List.length_append]
        have h1 := HNM.out
        have h2 : (tailL ([a, b, c, d].take j)).length ≤ 21 * ([a, b, c, d].take j).length := tailL_len (fun n hn => by
          have := List.mem_of_mem_take hn
          simp only [List.mem_cons, List.not_mem_nil, or_false] at this
          rcases this with rfl | rfl | rfl | rfl
          · exact HI.out.a
          · exact HI.out.b
          · exact HI.out.c
          · exact HI.out.d)
        have h3 : ([a, b, c, d].take j).length ≤ 4 := by rw [List.length_take]; exact Nat.min_le_right _ _
        omega
      rcases (show j = 0 ∨ j = 1 ∨ j = 2 ∨ j = 3 ∨ j = 4 by omega) with rfl | rfl | rfl | rfl | rfl
      · have x0 : ∀ w : World, (Instr.index 80 (.agg #[.int .i64 a, .int .i64 b, .int .i64 c, .int .i64 d]) (.int .i64 0)).run Tryz.prog w = .ok (.int .i64 a) w := fun _ => by kernel_rfl
        have C := Lib.hid (itoa_any a HI.out.a HTR.out)
        have hl := itoa_len HI.out.a.1 HI.out.a.2
        have g1 : ¬ 9223372036854775807 < 1 + (Lib.itoa a).length := by omega
        have g2 : ¬ 9223372036854775807 < cur.length + (1 + (Lib.itoa a).length) := by omega
        have HC2 := Lib.hid (show cur ++ (32 :: Lib.itoa a) = nm ++ tailL ([a, b, c, d].take 1) by
          rw [HC.out, List.append_assoc, ← tailL_snoc]; rfl)
        clear hl hcl
        go_wp2_with fail
        refine C.out.mono ?_
        rintro e w5 ⟨rfl, hb⟩
        have HB5 := Lib.hid (HBR.out.trans (hb.mono HBR.out.size))
        clear hb C
        go_wp2
        go_roundg (4 - 1)
        case measure => omega
        case rel => exact ⟨1, cur ++ (32 :: Lib.itoa a), rfl, by omega, congrArg Value.string (more_text cur a), by go_num, HB5, HC2⟩
      · have x0 : ∀ w : World, (Instr.index 80 (.agg #[.int .i64 a, .int .i64 b, .int .i64 c, .int .i64 d]) (.int .i64 1)).run Tryz.prog w = .ok (.int .i64 b) w := fun _ => by kernel_rfl
        have C := Lib.hid (itoa_any b HI.out.b HTR.out)
        have hl := itoa_len HI.out.b.1 HI.out.b.2
        have g1 : ¬ 9223372036854775807 < 1 + (Lib.itoa b).length := by omega
        have g2 : ¬ 9223372036854775807 < cur.length + (1 + (Lib.itoa b).length) := by omega
        have HC2 := Lib.hid (show cur ++ (32 :: Lib.itoa b) = nm ++ tailL ([a, b, c, d].take 2) by
          rw [HC.out, List.append_assoc, ← tailL_snoc]; rfl)
        clear hl hcl
        go_wp2_with fail
        refine C.out.mono ?_
        rintro e w5 ⟨rfl, hb⟩
        have HB5 := Lib.hid (HBR.out.trans (hb.mono HBR.out.size))
        clear hb C
        go_wp2
        go_roundg (4 - 2)
        case measure => omega
        case rel => exact ⟨2, cur ++ (32 :: Lib.itoa b), rfl, by omega, congrArg Value.string (more_text cur b), by go_num, HB5, HC2⟩
      · have x0 : ∀ w : World, (Instr.index 80 (.agg #[.int .i64 a, .int .i64 b, .int .i64 c, .int .i64 d]) (.int .i64 2)).run Tryz.prog w = .ok (.int .i64 c) w := fun _ => by kernel_rfl
        have C := Lib.hid (itoa_any c HI.out.c HTR.out)
        have hl := itoa_len HI.out.c.1 HI.out.c.2
        have g1 : ¬ 9223372036854775807 < 1 + (Lib.itoa c).length := by omega
        have g2 : ¬ 9223372036854775807 < cur.length + (1 + (Lib.itoa c).length) := by omega
        have HC2 := Lib.hid (show cur ++ (32 :: Lib.itoa c) = nm ++ tailL ([a, b, c, d].take 3) by
          rw [HC.out, List.append_assoc, ← tailL_snoc]; rfl)
        clear hl hcl
        go_wp2_with fail
        refine C.out.mono ?_
        rintro e w5 ⟨rfl, hb⟩
        have HB5 := Lib.hid (HBR.out.trans (hb.mono HBR.out.size))
        clear hb C
        go_wp2
        go_roundg (4 - 3)
        case measure => omega
        case rel => exact ⟨3, cur ++ (32 :: Lib.itoa c), rfl, by omega, congrArg Value.string (more_text cur c), by go_num, HB5, HC2⟩
      · have x0 : ∀ w : World, (Instr.index 80 (.agg #[.int .i64 a, .int .i64 b, .int .i64 c, .int .i64 d]) (.int .i64 3)).run Tryz.prog w = .ok (.int .i64 d) w := fun _ => by kernel_rfl
        have C := Lib.hid (itoa_any d HI.out.d HTR.out)
        have hl := itoa_len HI.out.d.1 HI.out.d.2
        have g1 : ¬ 9223372036854775807 < 1 + (Lib.itoa d).length := by omega
        have g2 : ¬ 9223372036854775807 < cur.length + (1 + (Lib.itoa d).length) := by omega
        have HC2 := Lib.hid (show cur ++ (32 :: Lib.itoa d) = nm ++ tailL ([a, b, c, d].take 4) by
          rw [HC.out, List.append_assoc, ← tailL_snoc]; rfl)
        clear hl hcl
        go_wp2_with fail
        refine C.out.mono ?_
        rintro e w5 ⟨rfl, hb⟩
        have HB5 := Lib.hid (HBR.out.trans (hb.mono HBR.out.size))
        clear hb C
        go_wp2
        go_roundg (4 - 4)
        case measure => omega
        case rel => exact ⟨4, cur ++ (32 :: Lib.itoa d), rfl, by omega, congrArg Value.string (more_text cur d), by go_num, HB5, HC2⟩
      · have HF := Lib.hid (show cur = nm ++ tailL [a, b, c, d] from HC.out)
        go_wp2
        go_ret
        exact ⟨by rw [HX.out, ← HF.out]; rfl, HB.out.trans (HBR.out.mono HB.out.size)⟩
  · have HX := Lib.hid (show textI (op, a, b, c, d) = [] by unfold textI; rw [if_neg h])
    rw [nameL_none h] at C
    clear h
    go_enter Tryz.func16, Tryz.ntmps16
    go_wp2_with fail
    refine C.out.mono ?_
    rintro e wz ⟨rfl, hwz⟩
    subst wz
    go_wp2
    go_ret
    exact ⟨by rw [HX.out]; rfl, HB.out⟩
end Go.Proofs.YtpecingkoodmfaaGreatDoor.Ir
