/- The statements of chapter 14: is a trace small enough? The statements' first call. -/
import Derived.Test.YtpecingkoodmfaaGreatDoorS4
import Derived.Deep.LoopGhost
import Derived.Shelf.Strings.Builder1
import Derived.Shelf.Small.Utf8
import Derived.Shelf.Strings.BuilderF
import Derived.Shelf.Strings.BuilderK
import Derived.Shelf.Strconv.Itoa0
import Derived.Shelf.Strconv.Itoa1
import Derived.Shelf.LaysM
import Derived.Shelf.Strconv.Itoa2
import Derived.Shelf.Strconv.Itoa3
import Derived.Shelf.Strconv.Itoa4
import Derived.Shelf.Unicode.DecodeSlow
import Derived.Ground.Names2Prog
import Derived.Shelf.Slices.Clone
import Derived.Test.YtpecingkoodmfaaGreatDoorProg
import Derived.Test.YtpecingkoodmfaaGreatDoorS8
import Derived.Deep.RegionLaw
import Derived.Deep.AppendLies
import Derived.Deep.DrawnRows
import Derived.Test.YtpecingkoodmfaaGreatDoorS3
namespace Go.Proofs.YtpecingkoodmfaaGreatDoor.Ir
open Go.RowKit Book Mem
set_option linter.unusedSimpArgs false
set_option linter.unusedVariables false
def lightO (o : O) : Bool := decide (o.stack.length ≤ 60) && decide (o.back.length ≤ 60)
def lightT (t : T) : Bool := (t.outs.take 100).all lightO && (decide (t.ins.length ≤ 120) && (decide (t.outs.length ≤ 60) && decide (t.cells.length ≤ 100)))
theorem lightT_all {t : T} (h : lightT t = true) : t.ins.length ≤ 120 ∧ t.outs.length ≤ 60 ∧ t.cells.length ≤ 100 ∧ ∀ o ∈ t.outs, o.stack.length ≤ 60 ∧ o.back.length ≤ 60 := by
  unfold lightT at h
  simp only [Bool.and_eq_true, decide_eq_true_eq] at h
  obtain ⟨h0, h1, h2, h3⟩ := h
  refine ⟨h1, h2, h3, fun o ho => ?_⟩
  rw [List.take_of_length_le (by omega)] at h0
  have := List.all_eq_true.1 h0 o ho
  unfold lightO at this
  simpa only [Bool.and_eq_true, decide_eq_true_eq] using this
theorem lightT_small {t : T} (h : lightT t = true) : Small t := by
  obtain ⟨h1, h2, h3, h4⟩ := lightT_all h
  exact ⟨by omega, by omega, by omega, fun o ho => by have := h4 o ho; omega⟩
theorem take_at {α : Type} {l : List α} {f : α → Bool} {j : Nat} {x : α} (hx : l[j]? = some x) (hj : j < 100) : (l.take 100).drop j = x :: (l.take 100).drop (j + 1) := by
  have h : (l.take 100)[j]? = some x := by rw [List.getElem?_take, if_pos hj]; exact hx
  have hk := (List.getElem?_eq_some_iff.1 h).1
  rw [List.drop_eq_getElem_cons hk, show (l.take 100)[j] = x from (List.getElem?_eq_some_iff.1 h).2]
set_option maxHeartbeats 8000000 in
theorem light_any {w : World} {t : T} {vi vo vc : Value} (h : ReadsL w vi vo vc t) : Calls Tryz.prog 5 #[trV t vi vo vc] w (Says (.bool (lightT t)) w) := by
  obtain ⟨ai, ci, ao, co, ac, cc, rfl, rfl, rfl⟩ := h.known
  obtain ⟨w1, g, hw1, hg, HG, HB, HZ⟩ := newBox w (trA t (.slice ai t.ins.length ci) (.slice ao t.outs.length co) (.slice ac t.cells.length cc)) 26
  have HR := Lib.hid (h.below HB.out)
  obtain ⟨c0, c1, c2, c3, c4, c5, c6, c7, c8⟩ := cells9 HG.out
  obtain ⟨res, hres⟩ : ∃ res, lightT t = res := ⟨_, rfl⟩
  obtain ⟨st, sl, bks, gr, gb, ins, outs, la, cells⟩ := t
  dsimp only at *
  obtain ⟨m, hm⟩ : ∃ m, ins.length = m := ⟨_, rfl⟩
  obtain ⟨no, hno⟩ : ∃ no, outs.length = no := ⟨_, rfl⟩
  obtain ⟨nc, hnc⟩ : ∃ nc, cells.length = nc := ⟨_, rfl⟩
  have HNO := Lib.hid hno
  have HRB := Lib.hid (show (((outs.take 100).drop 0).all lightO && (decide (m ≤ 120) && (decide (no ≤ 60) && decide (nc ≤ 100)))) = res by rw [← hres, ← hm, ← hno, ← hnc]; rfl)
  rw [hres]
  rw [hm, hno, hnc] at hw1 HR ⊢
  rw [hm] at c5
  rw [hno] at c6
  rw [hnc] at c8
  clear h hm hno hnc hres
  go_enter Tryz.func5, Tryz.ntmps5
  go_wp2
  go_loopg [3] 101 (fun z i wr => ∃ j : Nat, z = 101 - j ∧ j ≤ 100 ∧ i = .int .i64 (j : Int) ∧ wr = w1 ∧ Hid ((((outs.take 100).drop j).all lightO && (decide (m ≤ 120) && (decide (no ≤ 60) && decide (nc ≤ 100)))) = res))
  case atStart => exact ⟨0, rfl, by omega, rfl, rfl, Lib.hid HRB.out⟩
  case round =>
    obtain ⟨j, rfl, hj, rfl, hwr, HJ⟩ := hrel
    subst wr
    by_cases hlt : j < no ∧ j < 100
    · obtain ⟨x, hx⟩ : ∃ x, outs[j]? = some x := ⟨_, List.getElem?_eq_getElem (by rw [HNO.out]; exact hlt.1)⟩
      have HS := Lib.hid (show (lightO x && (((outs.take 100).drop (j + 1)).all lightO && (decide (m ≤ 120) && (decide (no ≤ 60) && decide (nc ≤ 100))))) = res by rw [← HJ.out, take_at (f := lightO) hx hlt.2, List.all_cons, Bool.and_assoc])
      obtain ⟨ad, vs, vb, rfl, -, -, i2, i3, hvs, hvb⟩ := ReadsO.at HR.out.outs hx
      obtain ⟨x0, x1, x2, x3⟩ := x
      obtain ⟨so, sc, rfl⟩ := reads_form hvs
      obtain ⟨to', tc, rfl⟩ := reads_form hvb
      dsimp only at i2 i3 HS
      obtain ⟨ns, hns⟩ : ∃ ns, x2.length = ns := ⟨_, rfl⟩
      obtain ⟨nb, hnb⟩ : ∃ nb, x3.length = nb := ⟨_, rfl⟩
      have HS2 := Lib.hid (show ((decide (ns ≤ 60) && decide (nb ≤ 60)) && (((outs.take 100).drop (j + 1)).all lightO && (decide (m ≤ 120) && (decide (no ≤ 60) && decide (nc ≤ 100))))) = res by rw [← hns, ← hnb]; exact HS.out)
      rw [hns] at i2
      rw [hnb] at i3
      have z0 : (0 : Int) ≤ (j : Int) := by omega
      have z1 : (j : Int) < (no : Int) := by omega
      have z2 : (j : Int) < 100 := by omega
      have z3 : decide (j < no) = true := decide_eq_true hlt.1
      clear HJ hx hvs hvb hns hnb HS
      by_cases q1 : 60 < ns
      · have HF := Lib.hid (show res = false by rw [← HS2.out, decide_eq_false (show ¬ ns ≤ 60 by omega)]; rfl)
        have d1 : decide (60 < (ns : Int)) = true := decide_eq_true (by omega)
        clear HS2 q1 hlt
        go_wp2
        go_ret
        exact ⟨by rw [HF.out]; rfl, HB.out⟩
      · have d1 : decide (60 < (ns : Int)) = false := decide_eq_false (by omega)
        by_cases q2 : 60 < nb
        · have HF := Lib.hid (show res = false by rw [← HS2.out, decide_eq_false (show ¬ nb ≤ 60 by omega)]; simp)
          have d2 : decide (60 < (nb : Int)) = true := decide_eq_true (by omega)
          clear HS2 q1 q2 hlt
          go_wp2
          go_ret
          exact ⟨by rw [HF.out]; rfl, HB.out⟩
        · have d2 : decide (60 < (nb : Int)) = false := decide_eq_false (by omega)
          have HP := Lib.hid (show (((outs.take 100).drop (j + 1)).all lightO && (decide (m ≤ 120) && (decide (no ≤ 60) && decide (nc ≤ 100)))) = res by rw [← HS2.out, decide_eq_true (show ns ≤ 60 by omega), decide_eq_true (show nb ≤ 60 by omega)]; rfl)
          have hj1 : j + 1 ≤ 100 := hlt.2
          have HJ1 := Lib.hid hj1
          clear HS2 q1 q2 hlt hj1
          go_wp2
          go_roundg (101 - (j + 1))
          case measure => omega
          case rel => exact ⟨j + 1, rfl, HJ1.out, by go_num, rfl, HP⟩
    · have HR2 := Lib.hid (show (decide (m ≤ 120) && (decide (no ≤ 60) && decide (nc ≤ 100))) = res by
        have h := HJ.out
        rw [show (outs.take 100).drop j = [] from List.drop_of_length_le (by rw [List.length_take, HNO.out]; omega)] at h
        simpa using h)
      have HBF := HB
      by_cases q0 : j < no
      · have z1 : (j : Int) < (no : Int) := by omega
        have z3 : decide (j < no) = true := decide_eq_true q0
        have z2 : decide ((j : Int) < 100) = false := decide_eq_false (by omega)
        have z4 : decide (j < 100) = false := decide_eq_false (by omega)
        have HNJ := Lib.hid (show j = 100 by omega)
        by_cases p1 : m ≤ 120
        · have f1 : decide ((m : Int) ≤ 120) = true := decide_eq_true (by omega)
          by_cases p2 : no ≤ 60
          · have f2 : decide ((no : Int) ≤ 60) = true := decide_eq_true (by omega)
            by_cases p3 : nc ≤ 100
            · have f3 : decide ((nc : Int) ≤ 100) = true := decide_eq_true (by omega)
              have HF := Lib.hid (show res = true by rw [← HR2.out, decide_eq_true p1, decide_eq_true p2, decide_eq_true p3]; rfl)
              clear HR2 p1 p2 p3 hlt q0
              go_wp2
              go_ret
              exact ⟨by rw [HF.out]; rfl, HB.out⟩
            · have f3 : decide ((nc : Int) ≤ 100) = false := decide_eq_false (by omega)
              have HF := Lib.hid (show res = false by rw [← HR2.out, decide_eq_false p3]; simp)
              have HP3 := Lib.hid f3
              clear HR2 p1 p2 p3 hlt q0
              go_wp2
              go_ret
              exact ⟨by rw [HF.out]; first | rfl | exact retB HP3.out, HB.out⟩
          · have f2 : decide ((no : Int) ≤ 60) = false := decide_eq_false (by omega)
            have HF := Lib.hid (show res = false by rw [← HR2.out, decide_eq_false p2]; simp)
            clear HR2 p1 p2 hlt q0
            go_wp2
            go_ret
            exact ⟨by rw [HF.out]; rfl, HB.out⟩
        · have f1 : decide ((m : Int) ≤ 120) = false := decide_eq_false (by omega)
          have HF := Lib.hid (show res = false by rw [← HR2.out, decide_eq_false p1]; rfl)
          clear HR2 p1 hlt q0
          go_wp2
          go_ret
          exact ⟨by rw [HF.out]; rfl, HB.out⟩
      · have z3 : decide (j < no) = false := decide_eq_false q0
        have z1 : decide ((j : Int) < (no : Int)) = false := decide_eq_false (by omega)
        by_cases p1 : m ≤ 120
        · have f1 : decide ((m : Int) ≤ 120) = true := decide_eq_true (by omega)
          by_cases p2 : no ≤ 60
          · have f2 : decide ((no : Int) ≤ 60) = true := decide_eq_true (by omega)
            by_cases p3 : nc ≤ 100
            · have f3 : decide ((nc : Int) ≤ 100) = true := decide_eq_true (by omega)
              have HF := Lib.hid (show res = true by rw [← HR2.out, decide_eq_true p1, decide_eq_true p2, decide_eq_true p3]; rfl)
              clear HR2 p1 p2 p3 hlt q0
              go_wp2
              go_ret
              exact ⟨by rw [HF.out]; rfl, HB.out⟩
            · have f3 : decide ((nc : Int) ≤ 100) = false := decide_eq_false (by omega)
              have HF := Lib.hid (show res = false by rw [← HR2.out, decide_eq_false p3]; simp)
              have HP3 := Lib.hid f3
              clear HR2 p1 p2 p3 hlt q0
              go_wp2
              go_ret
              exact ⟨by rw [HF.out]; first | rfl | exact retB HP3.out, HB.out⟩
          · have f2 : decide ((no : Int) ≤ 60) = false := decide_eq_false (by omega)
            have HF := Lib.hid (show res = false by rw [← HR2.out, decide_eq_false p2]; simp)
            clear HR2 p1 p2 hlt q0
            go_wp2
            go_ret
            exact ⟨by rw [HF.out]; rfl, HB.out⟩
        · have f1 : decide ((m : Int) ≤ 120) = false := decide_eq_false (by omega)
          have HF := Lib.hid (show res = false by rw [← HR2.out, decide_eq_false p1]; rfl)
          clear HR2 p1 hlt q0
          go_wp2
          go_ret
          exact ⟨by rw [HF.out]; rfl, HB.out⟩
end Go.Proofs.YtpecingkoodmfaaGreatDoor.Ir
/-
  DERIVED: THE SHELF's CONTRACTS AT THIS DUMP, IN PLAIN WORDS (tools/lay-plain.mjs out of 'TryzShelf.lean', which tools/lay-shelf.mjs wrote): THE SAME DECLARATIONS UNDER THE SAME NAMES: 'import', 'namespace', 'open', 'def', 'theorem' AND NOTHING ELSE: no command of the shelf's: FOR A HAND-IN. Each laying: the table of numbers ('.._ren') and one theorem, a field a fact of the dump's own or the kernel's comparison; each contract: ONE APPLICATION.
-/
namespace Go.Proofs
open Go.Shelf
def Tryz.lays169_ren : Go.Shelf.Ren := ⟨fun | 169 => 150 | n => n, fun | 70 => 148 | 9 => 9 | 0 => 0 | 72 => 150 | 37 => 98 | 127 => 161 | 3 => 3 | 5 => 5 | n => n, fun | n => n⟩
theorem Tryz.lays169 : Go.Proofs.Lays.n169 Tryz.prog Tryz.lays169_ren := {
  mixed := by kernel_rfl
  f169 := Tryz.func150.trans (congrArg some (by kernel_rfl))
  t0 := Tryz.underlying0
  a0 := Tryz.isAgg0
  z0 := Tryz.sizeOf0
  v0 := Tryz.zeroValue0
  t3 := Tryz.underlying3
  a3 := Tryz.isAgg3
  z3 := Tryz.sizeOf3
  v3 := Tryz.zeroValue3
  t9 := Tryz.underlying9
  a9 := Tryz.isAgg9
  z9 := Tryz.sizeOf9
  v9 := Tryz.zeroValue9
  t37 := Tryz.underlying98
  a37 := Tryz.isAgg98
  z37 := Tryz.sizeOf98
  v37 := Tryz.zeroValue98
  t70 := Tryz.underlying148
  a70 := Tryz.isAgg148
  z70 := Tryz.sizeOf148
  v70 := Tryz.zeroValue148
  t72 := Tryz.underlying150
  a72 := Tryz.isAgg150
  z72 := Tryz.sizeOf150
  v72 := Tryz.zeroValue150
  t127 := Tryz.underlying161
  a127 := Tryz.isAgg161
  z127 := Tryz.sizeOf161
  v127 := Tryz.zeroValue161 }
theorem Tryz.Builder_Extra_169 : Builder.Extra Tryz.prog Tryz.lays169_ren := {
  sizeBuilder := by kernel_rfl
  liesBuilder := by kernel_rfl
  t5 := Tryz.underlying5
  a5 := Tryz.isAgg5
  z5 := Tryz.sizeOf5
  v5 := Tryz.zeroValue5
  infoByte := by kernel_rfl
  cellsByte := by kernel_rfl
  sizeByte := by kernel_rfl
  neB5 := by decide }
open Go.RowKit in
/-- (*strings.Builder).String: "String returns the accumulated string.": WHATEVER THE BUILDER HOLDS. (LAID: no walk: one application.) -/
theorem Tryz.Builder_String_any (B b : Nat) (l : List UInt8) (w : World) (h : Lib.IsBuilder 150 5 B b (Lib.byteCells l) w) (hBw : B ≤ w.heap.size) :
    Calls Tryz.prog 150 #[.pointer (some ⟨b, 0, none⟩)] w fun e w' => e = .returned (.string ⟨l.toArray⟩) ∧ Below B w w' := Any.Builder_String_any Tryz.lays169 Tryz.Builder_Extra_169 B b l w h hBw
def Tryz.laysM246_ren : Go.Shelf.Ren := ⟨fun | 246 => 121 | 283 => 133 | 284 => 134 | 285 => 135 | 286 => 136 | 129 => 142 | 317 => 141 | 318 => 143 | 319 => 144 | 320 => 145 | 337 => 153 | 338 => 154 | n => n, fun | 2 => 2 | 3 => 3 | 9 => 9 | 4 => 4 | 171 => 136 | 0 => 0 | 53 => 78 | 37 => 98 | 5 => 5 | 173 => 139 | 212 => 143 | 51 => 144 | 20 => 20 | 213 => 145 | 46 => 135 | 232 => 167 | 233 => 168 | n => n, fun | 17 => 1 | 18 => 2 | 19 => 3 | n => n⟩
theorem Tryz.laysM246 : Go.Proofs.LaysM.n246 Tryz.prog Tryz.laysM246_ren := {
  mixed := by kernel_rfl
  f129 := Tryz.func142.trans (congrArg some (by kernel_rfl))
  f246 := Tryz.func121.trans (congrArg some (by kernel_rfl))
  f283 := Tryz.func133.trans (congrArg some (by kernel_rfl))
  f284 := Tryz.func134.trans (congrArg some (by kernel_rfl))
  f285 := Tryz.func135.trans (congrArg some (by kernel_rfl))
  f286 := Tryz.func136.trans (congrArg some (by kernel_rfl))
  f317 := Tryz.func141.trans (congrArg some (by kernel_rfl))
  f318 := Tryz.func143.trans (congrArg some (by kernel_rfl))
  f319 := Tryz.func144.trans (congrArg some (by kernel_rfl))
  f320 := Tryz.func145.trans (congrArg some (by kernel_rfl))
  f337 := Tryz.func153.trans (congrArg some (by kernel_rfl))
  f338 := Tryz.func154.trans (congrArg some (by kernel_rfl))
  t0 := Tryz.underlying0
  a0 := Tryz.isAgg0
  z0 := Tryz.sizeOf0
  v0 := Tryz.zeroValue0
  t2 := Tryz.underlying2
  a2 := Tryz.isAgg2
  z2 := Tryz.sizeOf2
  v2 := Tryz.zeroValue2
  t3 := Tryz.underlying3
  a3 := Tryz.isAgg3
  z3 := Tryz.sizeOf3
  v3 := Tryz.zeroValue3
  t4 := Tryz.underlying4
  a4 := Tryz.isAgg4
  z4 := Tryz.sizeOf4
  v4 := Tryz.zeroValue4
  t5 := Tryz.underlying5
  a5 := Tryz.isAgg5
  z5 := Tryz.sizeOf5
  v5 := Tryz.zeroValue5
  t9 := Tryz.underlying9
  a9 := Tryz.isAgg9
  z9 := Tryz.sizeOf9
  v9 := Tryz.zeroValue9
  t20 := Tryz.underlying20
  a20 := Tryz.isAgg20
  z20 := Tryz.sizeOf20
  v20 := Tryz.zeroValue20
  t37 := Tryz.underlying98
  a37 := Tryz.isAgg98
  z37 := Tryz.sizeOf98
  v37 := Tryz.zeroValue98
  t46 := Tryz.underlying135
  a46 := Tryz.isAgg135
  z46 := Tryz.sizeOf135
  v46 := Tryz.zeroValue135
  t51 := Tryz.underlying144
  a51 := Tryz.isAgg144
  z51 := Tryz.sizeOf144
  v51 := Tryz.zeroValue144
  t53 := Tryz.underlying78
  a53 := Tryz.isAgg78
  z53 := Tryz.sizeOf78
  v53 := Tryz.zeroValue78
  t171 := Tryz.underlying136
  a171 := Tryz.isAgg136
  z171 := Tryz.sizeOf136
  v171 := Tryz.zeroValue136
  t173 := Tryz.underlying139
  a173 := Tryz.isAgg139
  z173 := Tryz.sizeOf139
  v173 := Tryz.zeroValue139
  t212 := Tryz.underlying143
  a212 := Tryz.isAgg143
  z212 := Tryz.sizeOf143
  v212 := Tryz.zeroValue143
  t213 := Tryz.underlying145
  a213 := Tryz.isAgg145
  z213 := Tryz.sizeOf145
  t232 := Tryz.underlying167
  a232 := Tryz.isAgg167
  z232 := Tryz.sizeOf167
  v232 := Tryz.zeroValue167
  t233 := Tryz.underlying168
  a233 := Tryz.isAgg168
  z233 := Tryz.sizeOf168
  v233 := Tryz.zeroValue168
  g17 := by kernel_rfl
  g18 := by kernel_rfl
  g19 := by kernel_rfl
  i0 := by kernel_rfl
  i2 := by kernel_rfl
  i3 := by kernel_rfl
  i4 := by kernel_rfl
  i5 := by kernel_rfl
  i9 := by kernel_rfl
  i20 := by kernel_rfl
  i37 := by kernel_rfl
  i46 := by kernel_rfl
  i51 := by kernel_rfl
  i53 := by kernel_rfl
  i171 := by kernel_rfl
  i173 := by kernel_rfl
  i212 := by kernel_rfl
  i232 := by kernel_rfl
  i233 := by kernel_rfl
  m17 := by kernel_rfl
  m18 := by kernel_rfl
  m19 := by kernel_rfl }
open Go.RowKit Go.Sort Go.Lib in
/-- internal/strconv.FormatInt: "FormatInt returns the string representation of i in the given base": AT BASE 10: i's decimal numeral, for every int64. The world behind the call: the world before it, new blocks behind the heap, draws. (LAID: no walk: one application.) -/
theorem Tryz.internal_strconv_FormatInt_10 (n : Int) (h0 : -9223372036854775808 ≤ n) (h1 : n ≤ 9223372036854775807) (w : World) (htab : Lib.TabIs Tryz.prog w "internal/strconv.uint64pow10" .u64 Lib.pow10Tab) :
    Calls Tryz.prog 121 #[.int .i64 n, .int .i64 10] w fun e w' => e = .returned (.string ⟨(Lib.itoa n).toArray⟩) ∧ ∃ k os, w' = grow (w.drewN k) os := Any.internal_strconv_FormatInt_10 Tryz.laysM246 n h0 h1 w htab
def Tryz.laysNm215_ren : Go.Shelf.Ren := ⟨fun | 15 => 111 | n => n, fun | 22 => 24 | 3 => 3 | 4 => 4 | n => n, fun | n => n⟩
theorem Tryz.laysNm215 : Go.Proofs.Lays2.n15 Tryz.prog Tryz.laysNm215_ren := {
  mixed := by kernel_rfl
  f15 := Tryz.func111.trans (congrArg some (by kernel_rfl))
  t3 := Tryz.underlying3
  a3 := Tryz.isAgg3
  z3 := Tryz.sizeOf3
  v3 := Tryz.zeroValue3
  t4 := Tryz.underlying4
  a4 := Tryz.isAgg4
  z4 := Tryz.sizeOf4
  v4 := Tryz.zeroValue4
  t22 := Tryz.underlying24
  a22 := Tryz.isAgg24
  z22 := Tryz.sizeOf24
  v22 := Tryz.zeroValue24
  i3 := by kernel_rfl }
open Go.RowKit Go.Lib in
/-- The same at nil: nil comes back; the world is as it was. (LAID: no walk: one application.) -/
theorem Tryz.slices_Clone_int_nil (n c : Nat) (w : World) :
    Calls Tryz.prog 111 #[.slice none n c] w fun e w' => e = .returned (.slice none 0 0) ∧ w' = w := Any.slices_Clone_int_nil Tryz.laysNm215 n c w
end Go.Proofs
/- One list of texts more. -/
namespace Go.Proofs.YtpecingkoodmfaaGreatDoor
open Go.RowKit Book
set_option linter.unusedSimpArgs false
set_option linter.unusedVariables false
set_option maxHeartbeats 1000000 in
theorem copyInts_any (v : Value) (B : Nat) (xs : List Value) (w : World) (h : Owns w B 3 v xs) (h1 : ∀ u ∈ xs, u.oneCell' = true) (hl : xs.length ≤ 1000000) :
    Calls Tryz.prog 55 #[v] w fun e w' => ∃ c, e = .returned c ∧ Owns w' w.heap.size 3 c xs ∧ Below w.heap.size w w' := by
  obtain ⟨i0, q1, q2, q3, q4⟩ := info_parts Tryz.bkIntInfo
  have HI := Lib.hid (And.intro q1 (And.intro q2 (And.intro q3 q4)))
  have HO := Lib.hid h
  have H1 := Lib.hid h1
  obtain ⟨vo, vc, rfl⟩ := h.slice
  clear h h1 q1 q2 q3 q4
  go_enter Tryz.func55, Tryz.ntmps55
  go_wp2_with (at_builtin; refine wpList_append_rows _ rfl _ _ 24 rfl w.heap.size 3 i0 (.int .i64 0) 8 Tryz.underlying24 HI.out.1 HI.out.2.1 HI.out.2.2.1 HI.out.2.2.2 rfl (.slice none 0 0) [] rfl (Owns.nil _ _ _) B _ xs rfl HO.out H1.out ?c3 ?c4 (Nat.le_refl _) ?_)
  case c3 => rw [List.length_nil]; unfold maxLen; omega
  case c4 => rw [List.length_nil]; omega
  intro v' w' hown _ hT _
  have HF := Lib.hid (show Owns w' w.heap.size 3 v' xs from hown)
  have HG := Lib.hid hT
  clear hown hT
  go_wp2
  go_ret
  exact ⟨_, rfl, HF.out, HG.out.below (B := w.heap.size) (fun _ h => by cases h) (Nat.le_refl _)⟩
set_option maxHeartbeats 4000000 in
set_option maxRecDepth 100000 in
theorem bookInts_any (p B : Nat) (cur : Array Value) (vS vW v : Value) (ls : List (Value × List Value)) (xs : List Value) (w : World) (hp : p < B) (hB : B ≤ w.heap.size) (hlt : ls.length < 250)
    (hbk : w.heap[p]? = some (.cells cur 40 (0, 0))) (e0 : cur[2]? = some vS) (e1 : cur[3]? = some vW)
    (bs : List Nat) (hbs : ∀ k ∈ bs, k < w.heap.size) (hk : Kept w B 24 3 goodInts vS vW ls bs) (ho : Owns w B 3 v xs) (hg : goodInts xs) (hn : ∀ k, blk v = some k → k ∉ blocks ls) (hvb : ∀ k, blk v = some k → k ∉ bs) :
    Calls Tryz.prog 15 #[.pointer (some ⟨p, 0, none⟩), v] w fun e w' => e = .returned (.tuple #[]) ∧ ∃ vS' vW', w'.heap[p]? = some (.cells ((cur.setIfInBounds 2 vS').setIfInBounds 3 vW') 40 (0, 0)) ∧
      Kept w' B 24 3 goodInts vS' vW' (ls ++ [(v, xs)]) bs ∧ Stirred w w' (p :: ((blk vS).toList ++ (blk vW).toList)) := by
  obtain ⟨i1, q1, q2, q3, q4⟩ := info_parts Tryz.bkIntSpineInfo
  have HJ := Lib.hid (And.intro q1 (And.intro q2 (And.intro q3 q4)))
  clear q1 q2 q3 q4
  obtain ⟨ao, cap, hv⟩ := hk.lists.spine.slice
  rw [List.length_map] at hv
  obtain ⟨L, hL⟩ : ∃ n, ls.length = n := ⟨_, rfl⟩
  rw [hL] at hv hlt
  subst hv
  obtain ⟨vo, vc, hvv⟩ := ho.slice
  obtain ⟨n, hxn⟩ : ∃ n, xs.length = n := ⟨_, rfl⟩
  rw [hxn] at hvv
  subst hvv
  have HN := Lib.hid (And.intro hL hxn)
  have HK := Lib.hid hk
  have HO := Lib.hid ho
  have HG := Lib.hid hg
  have HD := Lib.hid hn
  have HVB := Lib.hid hvb
  have HBS := Lib.hid hbs
  have HBK := Lib.hid hbk
  have HE := Lib.hid (And.intro e0 e1)
  have c0 := whole_cell hbk e0
  have f0 := whole_frozen hbk 2
  have hal := Lib.hid ((Below.refl w.heap.size w).alloc (Nat.le_refl _) (.cells #[.slice vo n vc] 24))
  have HSP := Lib.hid (hk.lists.spine.below hal.out)
  clear hL hxn hk ho hg hn hvb hbs hbk e0 e1
  have hli : (L : Int) < 250 := by omega
  go_enter Tryz.func15, Tryz.ntmps15
  go_wp2_with (at_builtin; refine wpList_append_two _ rfl _ _ 34 rfl B 24 i1 (.slice none 0 0) 24 Tryz.underlying34 HJ.out.1 HJ.out.2.1 HJ.out.2.2.1 HJ.out.2.2.2 rfl _ _ rfl HSP.out ⟨w.heap.size, 0, none⟩ 1 1 [.slice vo n vc] rfl rfl ?d1 ?d2 (Nat.zero_lt_succ 0) ?d3 ?d4 ?d5 ?_)
  case d1 => intro j u hj; rcases j with _ | j <;> simp at hj; subst hj; simp [Addr.add]
  case d2 => intro u hu; simp at hu; subst hu; rfl
  case d3 => rw [List.length_map, HN.out.1]; show L + 1 ≤ maxLen; unfold maxLen; omega
  case d4 => rw [List.length_map, HN.out.1]; show (L + 1) * 24 ≤ _; omega
  case d5 => simp; omega
  intro v' w1 hO1 _ hT1 hN1
  have hst : Stirred w w1 (blk (.slice ao L cap)).toList := ((Stirred.of_below hal.out []).more (fun _ h => (by cases h))).trans hT1 (fun k hk => .inl hk)
  have hbk1 := hst.whole HBK.out (fun hm => by have := (HK.out.lists.spine.block p (by simpa using hm)).1; omega)
  have k0 := whole_cell hbk1 HE.out.1
  have f1 := whole_frozen hbk1 2
  obtain ⟨so, sc, hsv⟩ := hO1.slice
  rw [List.length_append, List.length_map, HN.out.1] at hsv
  change v' = .slice so (L + 1) sc at hsv
  subst hsv
  have st2 : Stirred w (w1.setCell ⟨p, 2, none⟩ (.slice so (L + 1) sc)) (p :: (blk (.slice ao L cap)).toList) := (hst.more (fun k hk => List.mem_cons_of_mem _ hk)).trans (Stirred.setCell w1 ⟨p, 2, none⟩ _) (fun k hk => .inl (by simp at hk; simp [hk]))
  have hO2 : Owns (w1.setCell ⟨p, 2, none⟩ (.slice so (L + 1) sc)) B 24 (.slice so (L + 1) sc) (ls.map (·.1) ++ [.slice vo n vc]) := hO1.touch (Stirred.setCell w1 ⟨p, 2, none⟩ _) (fun k hk hm => by
    have := (hO1.block k hk).1
    simp at hm
    omega)
  have hbk2 := whole_set hbk1 2 (.slice so (L + 1) sc)
  obtain ⟨cs, hh⟩ := HK.out.half HBS.out (by decide) hp (by rw [HN.out.1]; omega) HO.out HG.out HD.out HVB.out hO2 st2 (by
    rcases hN1 with e | ⟨k, e, hk⟩
    · exact .inl e
    · exact .inr ⟨k, e, by have h9 := hal.out.size; simp at h9 hk; omega⟩)
  have c1 := whole_cell hbk2 (show (cur.setIfInBounds 2 (.slice so (L + 1) sc))[3]? = some vW by rw [Array.getElem?_setIfInBounds_ne (by decide)]; exact HE.out.2)
  have f1' := whole_frozen hbk2 3
  have hB2 := Nat.le_trans hB st2.size
  obtain ⟨w2, hw2⟩ : ∃ w2, w1.setCell ⟨p, 2, none⟩ (.slice so (L + 1) sc) = w2 := ⟨_, rfl⟩
  rw [hw2] at st2 hO2 hbk2 hh c1 f1' hB2
  have hcl : (cs.map (·.1)).length = L := by have := congrArg List.length hh.eq; simp at this; rw [List.length_map, this, HN.out.1]
  obtain ⟨wo, wc, hwv⟩ := hh.was.slice
  rw [hcl] at hwv
  subst hwv
  have HH := Lib.hid hh
  have HOB := Lib.hid (hh.was.ownBlock_eq hh.wasRow)
  have HB2 := Lib.hid hbk2
  have ST2 := Lib.hid st2
  have HCL := Lib.hid hcl
  have C := Lib.hid (copyInts_any (.slice vo n vc) B xs w2.drew ((hh.lists.list _ (List.mem_append_right _ (List.mem_singleton.2 rfl))).touch (Stirred.drew _ []) (fun _ _ => List.not_mem_nil)) (by obtain ⟨ss, h1, _⟩ := HG.out; rw [h1]; intro u hu; simp at hu; obtain ⟨a, _, rfl⟩ := hu; rfl) (by obtain ⟨ss, h1, h2⟩ := HG.out; rw [h1, List.length_map]; exact h2))
  clear hO1 hT1 hN1 hst hbk1 st2 hO2 hbk2 hh hcl c0 f0
  go_wp2_with fail
  clear hw2 k0 f1
  go_region_law (first
    | (refine step_append_lies _ (by rfl) _ _ 34 (by rfl) B 24 i1 (.slice none 0 0) 1 24 Tryz.underlying34 HJ.out.1 HJ.out.2.1 HJ.out.2.2.1 HJ.out.2.2.2 rfl (by omega) (.slice wo L wc) L (cs.map (·.1)) (by rfl) HW3.out ⟨w3.heap.size, 0, none⟩ 1 1 [.slice co n cc] (by rfl) (by rfl) (news_one _ _ _) (by simp [Value.oneCell']) (by omega) (by unfold maxLen; omega) (by omega) (by simp; omega) (w3.heap.size + 1) (by simp) ?_; intro g ncap w4 hown hgrow hat hlt4; rw [HOB.out] at hgrow hat; have H4 := HH.out.grown hp HB2.out HB3.out hgrow; have c4 := whole_cell H4.2 (show (cur.setIfInBounds 2 (.slice so (L + 1) sc))[3]? = some (.slice wo L wc) by rw [Array.getElem?_setIfInBounds_ne (by decide)]; exact HE.out.2); have f4 := whole_frozen H4.2 3; have HOW := Lib.hid hown; have HGR := Lib.hid hgrow; have HAT := Lib.hid hat; clear hown hgrow hat H4)
    | (go_simp; go_at_call 55; refine C.out.mono ?_; rintro e w3 ⟨c, rfl, hc, hb⟩; obtain ⟨co, cc, hcv⟩ := hc.slice; rw [HN.out.2] at hcv; subst hcv; have HC3 := Lib.hid hc; have HB3 := Lib.hid ((Below.refl w2.heap.size w2).drew.trans hb); clear hc hb; have c1 := (Stirred.of_below HB3.out []).cell List.not_mem_nil c1; have c1a := (Stirred.of_below ((Below.refl w3.heap.size w3).alloc (Nat.le_refl _) (.cells #[.slice co n cc] 24)) []).cell List.not_mem_nil c1; have HW3 := Lib.hid (show World.ownsRow (w3.alloc (.cells #[.slice co n cc] 24)) B 24 1 (.slice wo L wc) L (cs.map (·.1)) from (by have h9 := (HH.out.was.below HB3.out).below ((Below.refl w3.heap.size w3).alloc (Nat.le_refl _) (.cells #[.slice co n cc] 24)); replace h9 := h9.to_row HH.out.wasRow; rw [HCL.out] at h9; exact h9)); have hB3 := Nat.le_trans hB2 HB3.out.size))
  all_goals
    have HF : Owns w4 B 24 (.slice (some ⟨g, 0, none⟩) (L + 1) ncap) (cs.map (·.1) ++ [.slice co n cc]) := by
      exact Owns.of_row HOW.out
    have hcl := HH.out.close (j := 3) (by decide) hp hB2 HB2.out HB3.out HC3.out HF HGR.out (by
      rcases HAT.out with e | e
      · exact .inl (by rw [HF.capAt (by simp)]; first | exact e.symm | exact e)
      · exact .inr ⟨g, HF.capAt (by simp), by have := HB3.out.size; omega⟩) (fun k hk => Nat.lt_of_lt_of_le (HBS.out k hk) ST2.out.size)
    have HR := Lib.hid hcl
    clear HF hcl c4 f4
    go_wp2
    go_end0
    exact ⟨rfl, _, _, HR.out.2.1, HR.out.1, ((ST2.out.more (fun k hk => by rcases List.mem_cons.1 hk with rfl | hk; exact List.mem_cons_self; exact List.mem_cons_of_mem _ (List.mem_append_left _ hk))).trans HR.out.2.2 (fun k hk => .inl (by rcases List.mem_cons.1 hk with rfl | hk; exact List.mem_cons_self; exact List.mem_cons_of_mem _ (List.mem_append_right _ hk))))⟩
end Go.Proofs.YtpecingkoodmfaaGreatDoor
/- hollowaybook over lists that came in: lent, held against one's own. -/
namespace Go.Proofs.YtpecingkoodmfaaGreatDoor
open Go.RowKit Book Mem
set_option linter.unusedSimpArgs false
set_option linter.unusedVariables false
theorem copyReads_any (v : Value) (l : List Int) (w : World) (h : Reads w v l) (hl : l.length ≤ 1000000) :
    Calls Tryz.prog 55 #[v] w fun e w' => ∃ c, e = .returned c ∧ Owns w' w.heap.size 3 c (vals l) ∧ Below w.heap.size w w' := by
  obtain ⟨i0, q1, q2, q3, q4⟩ := info_parts Tryz.bkIntInfo
  have HI := Lib.hid (And.intro q1 (And.intro q2 (And.intro q3 q4)))
  have HR := Lib.hid h
  obtain ⟨vo, vc, rfl, _⟩ := h
  obtain ⟨n, hn⟩ : ∃ n, l.length = n := ⟨_, rfl⟩
  rw [hn] at HR hl ⊢
  have HN := Lib.hid hn
  clear q1 q2 q3 q4 hn
  go_enter Tryz.func55, Tryz.ntmps55
  go_wp2_with (at_builtin; refine wpList_append_reads _ rfl _ _ 24 rfl w.heap.size 3 i0 (.int .i64 0) 8 Tryz.underlying24 HI.out.1 HI.out.2.1 HI.out.2.2.1 HI.out.2.2.2 rfl _ [] rfl (Owns.nil _ _ _) _ l rfl HR.out ?c3 ?c4 (Nat.le_refl _) ?_)
  case c3 => have := HN.out; unfold maxLen; simp; omega
  case c4 => have := HN.out; simp; omega
  intro v' w' hown _ hT _
  have HF := Lib.hid (show Owns w' w.heap.size 3 v' (vals l) from hown)
  have HG := Lib.hid hT
  clear hown hT
  go_wp2
  go_ret
  exact ⟨_, rfl, HF.out, HG.out.below (B := w.heap.size) (fun _ h => by cases h) (Nat.le_refl _)⟩
/-- a list with room behind it, in which a mark stands -/
def Lent (w : World) (B g cap : Nat) (l : List Int) : Prop := Owns w B 3 (.slice (some ⟨g, 0, none⟩) (l.length + 1) cap) (vals (l ++ [-77]))
theorem Lent.owns {w : World} {B g cap : Nat} {l : List Int} (h : Lent w B g cap l) : Owns w B 3 (.slice (some ⟨g, 0, none⟩) l.length cap) (vals l) := by
  have := owns_shorter (m := l.length) h (by simp)
  rw [List.take_left] at this
  exact this
theorem Lent.blk {w : World} {B g cap : Nat} {l : List Int} (h : Lent w B g cap l) : Book.blk (.slice (some ⟨g, 0, none⟩) (l.length + 1) cap) = some g ∧ l.length + 1 ≤ cap := by
  obtain ⟨g', c', e, _, _, hl⟩ := h.row (by rw [vals_length]; simp)
  rw [vals_length] at e hl
  simp only [Value.slice.injEq, Option.some.injEq, Addr.mk.injEq, and_true, List.length_append, List.length_cons, List.length_nil] at e hl
  have : l.length + 1 ≤ cap := by omega
  exact ⟨blk_pos (by omega), this⟩
theorem Lent.touch {w w' : World} {B g cap : Nat} {l : List Int} {bs : List Nat} (h : Lent w B g cap l) (ht : Stirred w w' bs) (hn : g ∉ bs) : Lent w' B g cap l :=
  Owns.touch h ht (fun k hk => by rw [h.blk.1] at hk; simp at hk; subst hk; exact hn)
set_option maxHeartbeats 1000000 in
theorem lent_any (v : Value) (l : List Int) (w : World) (h : Reads w v l) (hl : l.length ≤ 1000) :
    Calls Tryz.prog 29 #[v] w fun e w' => ∃ g cap, e = .returned (.slice (some ⟨g, 0, none⟩) l.length cap) ∧ Lent w' w.heap.size g cap l ∧ Below w.heap.size w w' := by
  obtain ⟨i0, q1, q2, q3, q4⟩ := info_parts Tryz.bkIntInfo
  have HI := Lib.hid (And.intro q1 (And.intro q2 (And.intro q3 q4)))
  have C := Lib.hid (copyReads_any v l w h (by omega))
  obtain ⟨vo, vc, rfl, _⟩ := h
  obtain ⟨n, hn⟩ : ∃ n, l.length = n := ⟨_, rfl⟩
  have HN := Lib.hid hn
  rw [hn] at C hl ⊢
  clear q1 q2 q3 q4 hn
  go_enter Tryz.func29, Tryz.ntmps29
  go_wp2_with fail
  refine C.out.mono ?_
  rintro e w1 ⟨c, rfl, hO, hB⟩
  obtain ⟨co, cc, hcv⟩ := hO.slice
  rw [vals_length, HN.out] at hcv
  subst hcv
  have hal := (Below.refl w1.heap.size w1).alloc (Nat.le_refl _) (.cells #[.int .i64 (-77)] 3)
  have HO := Lib.hid (hO.below hal)
  have HB := Lib.hid hB
  clear hO hB C hal
  go_wp2_with (at_builtin; refine wpList_append_two _ rfl _ _ 24 rfl w.heap.size 3 i0 (.int .i64 0) 8 Tryz.underlying24 HI.out.1 HI.out.2.1 HI.out.2.2.1 HI.out.2.2.2 rfl _ _ rfl HO.out ⟨w1.heap.size, 0, none⟩ 1 1 [.int .i64 (-77)] rfl rfl ?c1 ?c2 (Nat.zero_lt_succ 0) ?c3 ?c4 ?c5 ?_)
  case c1 => intro j u hj; rcases j with _ | j <;> simp at hj; subst hj; simp [Addr.add]
  case c2 => intro u hu; simp at hu; subst hu; rfl
  case c3 => rw [vals_length, HN.out]; show n + 1 ≤ maxLen; unfold maxLen; omega
  case c4 => rw [vals_length, HN.out]; show (n + 1) * 8 ≤ _; omega
  case c5 => have := HB.out.size; simp; omega
  intro v' w2 hO2 _ hT _
  have hv : vals l ++ [.int .i64 (-77)] = vals (l ++ [-77]) := by simp [vals]
  rw [hv] at hO2
  obtain ⟨g, cap, e, hb⟩ := owns_slice hO2 (by simp)
  rw [List.length_append, HN.out] at e
  change v' = .slice (some ⟨g, 0, none⟩) (n + 1) cap at e
  subst e
  have hL : Lent w2 w.heap.size g cap l := by unfold Lent; rw [HN.out]; exact hO2
  have hcap := hL.blk.2
  rw [HN.out] at hcap
  have HL := Lib.hid hL
  have HB2 := Lib.hid ((HB.out.alloc HB.out.size (.cells #[.int .i64 (-77)] 3)).trans (hT.below (B := w.heap.size) (fun k hk => (HO.out.block k (by simpa using hk)).1) (by have := HB.out.size; simp; omega)))
  have hc1 : (n : Int) ≤ (cap : Int) := by omega
  clear hO2 hT hv hb hL
  go_wp2
  go_ret
  exact ⟨g, cap, rfl, HL.out, HB2.out⟩
set_option maxHeartbeats 2000000 in
theorem sameReads_any (va vb : Value) (ss : List Int) (w : World) (ha : Reads w va ss) (hb : Reads w vb ss) (hl : ss.length ≤ 10000000) :
    Calls Tryz.prog 21 #[va, vb] w fun e w' => e = .returned (.bool true) ∧ ∃ q, w' = w.drewN q := by
  obtain ⟨ao, ac, rfl, hca⟩ := ha
  obtain ⟨bo, bc, rfl, hcb⟩ := hb
  have CA := Lib.hid hca
  have CB := Lib.hid hcb
  obtain ⟨n, hn⟩ : ∃ n, ss.length = n := ⟨_, rfl⟩
  have HN := Lib.hid hn
  rw [hn] at hl ⊢
  clear hca hcb hn
  go_enter Tryz.func21, Tryz.ntmps21
  go_wp2
  go_loopg [5] n (fun g i wr => ∃ j q : Nat, g = n - j ∧ j ≤ n ∧ i = .int .i64 j ∧ wr = w.drewN q)
  case atStart => exact ⟨0, 0, rfl, Nat.zero_le _, rfl, rfl⟩
  case round =>
    obtain ⟨j, q, rfl, hj, rfl, rfl⟩ := hrel
    by_cases hlt : j < n
    · obtain ⟨x, hx⟩ : ∃ x, ss[j]? = some x := ⟨ss[j]'(by rw [HN.out]; exact hlt), List.getElem?_eq_getElem _⟩
      obtain ⟨a, rfl, ca⟩ := CA.out j x hx
      obtain ⟨b, rfl, cb⟩ := CB.out j x hx
      clear hx
      go_wp2
      go_quiet (fail)
      go_wp2
      go_roundg (n - (j + 1))
      case measure => omega
      case rel => exact ⟨j + 1, _, rfl, by omega, by go_num, rfl⟩
    · go_wp2
      go_ret
      exact ⟨rfl, q, rfl⟩
set_option maxHeartbeats 1000000 in
theorem stays_any (B g cap : Nat) (vb : Value) (l : List Int) (w : World) (h : Lent w B g cap l) (hb : Reads w vb l) (hl : l.length ≤ 1000) :
    Calls Tryz.prog 37 #[.slice (some ⟨g, 0, none⟩) l.length cap, vb] w fun e w' => e = .returned (.bool true) ∧ ∃ q, w' = w.drewN q := by
  have C := Lib.hid (sameReads_any _ vb l w (Reads.of_owns h.owns) hb (by omega))
  have hcap := h.blk.2
  have k1 := (owns_at h (j := l.length) (by simp)).1
  simp only [List.getElem_append_right (Nat.le_refl _), Nat.sub_self, List.getElem_cons_zero] at k1
  obtain ⟨vo, vc, rfl, _⟩ := hb
  obtain ⟨n, hn⟩ : ∃ n, l.length = n := ⟨_, rfl⟩
  rw [hn] at C hl hcap k1 ⊢
  have K1 := Lib.hid k1
  have hc1 : (n : Int) + 1 ≤ (cap : Int) := by omega
  have hn0 : (0 : Int) ≤ (n : Int) := by omega
  clear hn h k1
  go_enter Tryz.func37, Tryz.ntmps37
  go_wp2_with fail
  refine C.out.mono ?_
  rintro e w1 ⟨rfl, q, rfl⟩
  clear C
  have k1 : (w.drewN q).cell? ⟨g, n, none⟩ = some (.int .i64 (-77)) := K1.out
  go_wp2
  go_ret
  exact ⟨rfl, q, rfl⟩
end Go.Proofs.YtpecingkoodmfaaGreatDoor
