/- Plain facts on the cells of a stack; what a stack is in memory. -/
import Derived.Test.YtcffbeihgchpgaaGreatDoorRows
import Derived.Test.YtcffbeihgchpgaaGreatDoorS2
import Derived.Laws.CopyOwn
import Derived.Lib.Hide
import Derived.Shelf.Strings.Builder1
import Derived.Shelf.Small.Utf8
import Derived.Shelf.Small.Wraps
import Derived.Shelf.Strings.BuilderF
import Derived.Shelf.Strings.BuilderK
import Derived.Shelf.Strconv.Itoa0
import Derived.Shelf.Strconv.Itoa1
import Derived.Shelf.LaysM
import Derived.Shelf.Strconv.Itoa2
import Derived.Shelf.Strconv.Itoa3
import Derived.Shelf.Strconv.Itoa4
import Derived.Shelf.Unicode.Latin
import Derived.Shelf.Unicode.DecodeSlow
import Derived.Shelf.Unicode.CaseLookup
import Derived.Shelf.Unicode.CaseConvert
import Derived.Shelf.Unicode.CaseTo
import Derived.Shelf.Unicode.CaseLaid
import Derived.Shelf.Slices.Reverse
import Derived.Ground.Names2Prog
import Derived.Shelf.Slices.Clone
import Derived.Shelf.Slices.CompactI
import Derived.Shelf.Slices.SearchI
import Derived.Shelf.Slices.Cells
import Derived.Shelf.Slices.Empties
import Derived.Ground.SlgnProg
import Derived.Shelf.SlicesE.Clone
import Derived.Test.YtcffbeihgchpgaaGreatDoorProg
import Derived.Laws.Cover3
import Derived.Lib.MinMax
import Derived.Lib.SliceRun
import Derived.Laws.AppendOwnNone
import Derived.BigQuiet
import Derived.Deep.QuietTactic
namespace Go.Proofs.YtcffbeihgchpgaaGreatDoor.Mem
open Go.RowKit Book
set_option linter.unusedVariables false
/-- all cells of a stack: those that lie there, then zeros -/
def full (room : Nat) (cs : List Int) : List Int := cs ++ List.replicate (room - cs.length) 0
theorem full_length {room : Nat} {cs : List Int} (h : cs.length ≤ room) : (full room cs).length = room := by simp [full]; omega
theorem full_at {room : Nat} {cs : List Int} {j : Nat} (h : j < cs.length) : (full room cs)[j]? = cs[j]? := by simp [full, List.getElem?_append_left h]
theorem full_set {room j : Nat} {cs : List Int} (h : j < cs.length) (v : Int) : (full room cs).set j v = full room (cs.set j v) := by
  unfold full
  rw [List.set_append_left _ _ h, List.length_set]
theorem full_more {room k : Nat} {cs : List Int} (h : cs.length + k ≤ room) : full room (cs ++ List.replicate k 0) = full room cs := by
  unfold full
  rw [List.append_assoc, List.length_append, List.length_replicate, List.replicate_append_replicate]
  congr 2
  omega
theorem splice_vals (L cs : List Int) (o : Nat) : splice (vals L) o (vals cs) = vals (splice L o cs) := by simp [splice, vals]
theorem full_put (room : Nat) (cs l : List Int) : splice (full room cs) cs.length l = full room (cs ++ l) := by
  unfold splice full
  rw [List.take_left, List.drop_append_of_le_length' , List.append_assoc, List.length_append]
  congr 2
  rw [List.drop_replicate]
  congr 1
  omega
where
  List.drop_append_of_le_length' : List.drop (cs.length + l.length) (cs ++ List.replicate (room - cs.length) 0) = List.drop l.length (List.replicate (room - cs.length) (0 : Int)) := by
    rw [← List.drop_drop, List.drop_left]
theorem full_cut {room n : Nat} {cs : List Int} (hn : n ≤ cs.length) (hr : cs.length ≤ room) : splice (full room cs) n (List.replicate (cs.length - n) 0) = full room (cs.take n) := by
  unfold splice full
  rw [List.length_replicate, List.length_take, Nat.min_eq_left hn, show n + (cs.length - n) = cs.length by omega, List.drop_left, List.take_append_of_le_length hn, List.replicate_append_replicate]
  congr 2
  omega
/-- cells set one by one, in a block that is known whole -/
theorem heap_setCells (g T : Nat) : ∀ (vs : List Value) (o : Nat) (w : World) (cur : List Value), w.heap[g]? = some (.cells cur.toArray T (0, 0)) → o + vs.length ≤ cur.length → (w.setCells g o vs).heap[g]? = some (.cells (splice cur o vs).toArray T (0, 0))
  | [], o, w, cur, h, _ => by simpa [World.setCells, splice] using h
  | v :: r, o, w, cur, h, hl => by
    have h1 := whole_set h o v
    have hs : cur.toArray.setIfInBounds o v = (cur.set o v).toArray := by simp
    rw [hs] at h1
    have h2 := heap_setCells g T r (o + 1) _ _ h1 (by simp at hl ⊢; omega)
    rw [World.setCells, h2]
    congr 3
    unfold splice
    simp only [List.length_cons] at hl ⊢
    rw [List.take_add_one, List.take_set_of_le (Nat.le_refl _), List.getElem?_set_self (by omega), List.drop_set_of_lt (by omega), show o + 1 + r.length = o + (r.length + 1) by omega]
    simp
/-- many stores into one block -/
theorem stirred_setCells (b : Nat) : ∀ (vs : List Value) (o : Nat) (w : World), Stirred w (w.setCells b o vs) [b]
  | [], _, w => Stirred.refl w _
  | v :: r, o, w => (Stirred.setCell w ⟨b, o, none⟩ v).trans (stirred_setCells b r (o + 1) _) (fun _ h => .inl h)
/-- a stack: its block, its cells' row -/
structure PileAt (w : World) (B p g room : Nat) (cs : List Int) : Prop where
  whole : w.heap[p]? = some (.cells #[.slice (some ⟨g, 0, none⟩) room room, .int .i64 cs.length] 152 (0, 0))
  le : B ≤ p
  leg : B ≤ g
  row : w.heap[g]? = some (.cells (vals (full room cs)).toArray 3 (0, 0))
  fits : cs.length ≤ room
  most : room ≤ 1000
/-- the blocks of a stack -/
abbrev foot (p g : Nat) : List Nat := [p, g]
section
variable {w w' : World} {B p g room : Nat} {cs : List Int}
theorem PileAt.pg (h : PileAt w B p g room cs) : p ≠ g := fun e => by
  have h1 := h.whole
  have h2 := h.row
  rw [e, h2] at h1
  simp at h1
theorem PileAt.touch (h : PileAt w B p g room cs) {bs : List Nat} (ht : Stirred w w' bs) (hn : ∀ k ∈ foot p g, k ∉ bs) : PileAt w' B p g room cs :=
  ⟨ht.whole h.whole (hn p List.mem_cons_self), h.le, h.leg, ht.whole h.row (hn g (List.mem_cons_of_mem _ List.mem_cons_self)), h.fits, h.most⟩
theorem PileAt.below (h : PileAt w B p g room cs) (hb : Below w.heap.size w w') : PileAt w' B p g room cs :=
  h.touch (Stirred.of_below hb []) (fun _ _ => List.not_mem_nil)
theorem PileAt.from (h : PileAt w B p g room cs) {B' : Nat} (hb : B' ≤ B) : PileAt w B' p g room cs :=
  ⟨h.whole, Nat.le_trans hb h.le, Nat.le_trans hb h.leg, h.row, h.fits, h.most⟩
theorem PileAt.foot_lt (h : PileAt w B p g room cs) : ∀ k ∈ foot p g, B ≤ k ∧ k < w.heap.size := by
  intro k hk
  rcases List.mem_cons.1 hk with rfl | hk
  · exact ⟨h.le, whole_lt h.whole⟩
  · simp at hk
    subst hk
    exact ⟨h.leg, whole_lt h.row⟩
theorem PileAt.c0 (h : PileAt w B p g room cs) : w.cell? ⟨p, 0, .none⟩ = some (.slice (some ⟨g, 0, none⟩) room room) := whole_cell h.whole rfl
theorem PileAt.c1 (h : PileAt w B p g room cs) : w.cell? ⟨p, 1, .none⟩ = some (.int .i64 cs.length) := whole_cell h.whole rfl
theorem PileAt.cell (h : PileAt w B p g room cs) {j : Nat} (hj : j < cs.length) : w.cell? ⟨g, j, none⟩ = some (.int .i64 cs[j]) :=
  whole_cell h.row (by simp only [List.getElem?_toArray, vals, List.getElem?_map, full_at hj, List.getElem?_eq_getElem hj]; rfl)
theorem PileAt.there (h : PileAt w B p g room cs) {j : Nat} (hj : j < room) : (w.cell? ⟨g, j, none⟩).isSome = true ∧ w.frozen? ⟨g, j, none⟩ = false := by
  refine ⟨?_, whole_frozen h.row j⟩
  have : ∃ x, (vals (full room cs)).toArray[j]? = some x := ⟨_, by rw [List.getElem?_toArray, List.getElem?_eq_getElem (by rw [vals_length, full_length h.fits]; exact hj)]⟩
  obtain ⟨x, hx⟩ := this
  rw [whole_cell h.row hx]
  rfl
/-- the number of cells is another one, over a row that fits -/
theorem PileAt.counted (h : PileAt w B p g room cs) {cs' : List Int} (hs : Stirred w w' [g]) (hr : w'.heap[g]? = some (.cells (vals (full room cs')).toArray 3 (0, 0))) (hf : cs'.length ≤ room) :
    PileAt (w'.setCell ⟨p, 1, none⟩ (.int .i64 cs'.length)) B p g room cs' ∧ Stirred w (w'.setCell ⟨p, 1, none⟩ (.int .i64 cs'.length)) (foot p g) := by
  have hpg := h.pg
  have hw := whole_set (hs.whole h.whole (by simpa using hpg)) 1 (.int .i64 cs'.length)
  have ht := Stirred.setCell w' ⟨p, 1, none⟩ (.int .i64 cs'.length)
  refine ⟨⟨hw, h.le, h.leg, ht.whole hr (by simpa using Ne.symm hpg), hf, h.most⟩, (hs.more (fun k hk => by simp at hk; simp [hk])).trans ht (fun k hk => .inl (by simp at hk; simp [hk]))⟩
theorem PileAt.set (h : PileAt w B p g room cs) {j : Nat} (hj : j < cs.length) (v : Int) : PileAt (w.setCell ⟨g, j, none⟩ (.int .i64 v)) B p g room (cs.set j v) := by
  have hpg := h.pg
  have hs := Stirred.setCell w ⟨g, j, none⟩ (.int .i64 v)
  have hr := whole_set h.row j (.int .i64 v)
  refine ⟨by rw [List.length_set]; exact hs.whole h.whole (by simpa using hpg), h.le, h.leg, ?_, by rw [List.length_set]; exact h.fits, h.most⟩
  rw [hr, List.setIfInBounds_toArray, vals_set, full_set hj]
end
/-- a row that is known whole, as a slice of one's own -/
theorem Owns.of_whole {w : World} {B E g n cap : Nat} {xs : List Value} (h : w.heap[g]? = some (.cells xs.toArray E (0, 0))) (hB : B ≤ g) (hn : n ≤ xs.length) (hc : cap = xs.length) (h0 : 0 < cap) (hm : cap ≤ maxLen) : Owns w B E (.slice (some ⟨g, 0, none⟩) n cap) (xs.take n) :=
  .inr ⟨g, cap, xs.toArray, by rw [List.length_take, Nat.min_eq_left hn], h0, hB, h, by rw [List.length_take]; omega, hm, by simpa using hc.symm, by rw [List.length_take, Nat.min_eq_left hn]⟩
end Go.Proofs.YtcffbeihgchpgaaGreatDoor.Mem
/-
  DERIVED: THE SHELF's CONTRACTS AT THIS DUMP, IN PLAIN WORDS (tools/lay-plain.mjs out of 'TryzShelf.lean', which tools/lay-shelf.mjs wrote): THE SAME DECLARATIONS UNDER THE SAME NAMES: 'import', 'namespace', 'open', 'def', 'theorem' AND NOTHING ELSE: no command of the shelf's: FOR A HAND-IN. Each laying: the table of numbers ('.._ren') and one theorem, a field a fact of the dump's own or the kernel's comparison; each contract: ONE APPLICATION.
-/
namespace Go.Proofs
open Go.Shelf
def Tryz.lays169_ren : Go.Shelf.Ren := ⟨fun | 169 => 202 | n => n, fun | 70 => 219 | 9 => 9 | 0 => 0 | 72 => 221 | 37 => 77 | 127 => 230 | 3 => 3 | 5 => 5 | n => n, fun | n => n⟩
theorem Tryz.lays169 : Go.Proofs.Lays.n169 Tryz.prog Tryz.lays169_ren := {
  mixed := by kernel_rfl
  f169 := Tryz.func202.trans (congrArg some (by kernel_rfl))
  t0 := Tryz.underlying0
  a0 := Tryz.isAgg0
  z0 := Tryz.sizeOf0
  v0 := Tryz.zeroValue0
  t3 := Tryz.underlying3
  a3 := Tryz.isAgg3
  z3 := Tryz.sizeOf3
  v3 := Tryz.zeroValue3
  t9 := Tryz.underlying9
  a9 := Tryz.isAgg9
  z9 := Tryz.sizeOf9
  v9 := Tryz.zeroValue9
  t37 := Tryz.underlying77
  a37 := Tryz.isAgg77
  z37 := Tryz.sizeOf77
  v37 := Tryz.zeroValue77
  t70 := Tryz.underlying219
  a70 := Tryz.isAgg219
  z70 := Tryz.sizeOf219
  v70 := Tryz.zeroValue219
  t72 := Tryz.underlying221
  a72 := Tryz.isAgg221
  z72 := Tryz.sizeOf221
  v72 := Tryz.zeroValue221
  t127 := Tryz.underlying230
  a127 := Tryz.isAgg230
  z127 := Tryz.sizeOf230
  v127 := Tryz.zeroValue230 }
theorem Tryz.Builder_Extra_169 : Builder.Extra Tryz.prog Tryz.lays169_ren := {
  sizeBuilder := by kernel_rfl
  liesBuilder := by kernel_rfl
  t5 := Tryz.underlying5
  a5 := Tryz.isAgg5
  z5 := Tryz.sizeOf5
  v5 := Tryz.zeroValue5
  infoByte := by kernel_rfl
  cellsByte := by kernel_rfl
  sizeByte := by kernel_rfl
  neB5 := by decide }
open Go.RowKit in
/-- (*strings.Builder).String: "String returns the accumulated string.": WHATEVER THE BUILDER HOLDS. (LAID: no walk: one application.) -/
theorem Tryz.Builder_String_any (B b : Nat) (l : List UInt8) (w : World) (h : Lib.IsBuilder 221 5 B b (Lib.byteCells l) w) (hBw : B ≤ w.heap.size) :
    Calls Tryz.prog 202 #[.pointer (some ⟨b, 0, none⟩)] w fun e w' => e = .returned (.string ⟨l.toArray⟩) ∧ Below B w w' := Any.Builder_String_any Tryz.lays169 Tryz.Builder_Extra_169 B b l w h hBw
def Tryz.laysM246_ren : Go.Shelf.Ren := ⟨fun | 246 => 205 | 283 => 215 | 284 => 216 | 285 => 217 | 286 => 218 | 129 => 117 | 317 => 225 | 318 => 226 | 319 => 227 | 320 => 228 | 337 => 232 | 338 => 233 | n => n, fun | 2 => 2 | 3 => 3 | 9 => 9 | 4 => 4 | 171 => 236 | 0 => 0 | 53 => 98 | 37 => 77 | 5 => 5 | 173 => 238 | 212 => 246 | 51 => 135 | 20 => 20 | 213 => 247 | 46 => 95 | 232 => 259 | 233 => 260 | n => n, fun | 17 => 3 | 18 => 7 | 19 => 8 | n => n⟩
theorem Tryz.laysM246 : Go.Proofs.LaysM.n246 Tryz.prog Tryz.laysM246_ren := {
  mixed := by kernel_rfl
  f129 := Tryz.func117.trans (congrArg some (by kernel_rfl))
  f246 := Tryz.func205.trans (congrArg some (by kernel_rfl))
  f283 := Tryz.func215.trans (congrArg some (by kernel_rfl))
  f284 := Tryz.func216.trans (congrArg some (by kernel_rfl))
  f285 := Tryz.func217.trans (congrArg some (by kernel_rfl))
  f286 := Tryz.func218.trans (congrArg some (by kernel_rfl))
  f317 := Tryz.func225.trans (congrArg some (by kernel_rfl))
  f318 := Tryz.func226.trans (congrArg some (by kernel_rfl))
  f319 := Tryz.func227.trans (congrArg some (by kernel_rfl))
  f320 := Tryz.func228.trans (congrArg some (by kernel_rfl))
  f337 := Tryz.func232.trans (congrArg some (by kernel_rfl))
  f338 := Tryz.func233.trans (congrArg some (by kernel_rfl))
  t0 := Tryz.underlying0
  a0 := Tryz.isAgg0
  z0 := Tryz.sizeOf0
  v0 := Tryz.zeroValue0
  t2 := Tryz.underlying2
  a2 := Tryz.isAgg2
  z2 := Tryz.sizeOf2
  v2 := Tryz.zeroValue2
  t3 := Tryz.underlying3
  a3 := Tryz.isAgg3
  z3 := Tryz.sizeOf3
  v3 := Tryz.zeroValue3
  t4 := Tryz.underlying4
  a4 := Tryz.isAgg4
  z4 := Tryz.sizeOf4
  v4 := Tryz.zeroValue4
  t5 := Tryz.underlying5
  a5 := Tryz.isAgg5
  z5 := Tryz.sizeOf5
  v5 := Tryz.zeroValue5
  t9 := Tryz.underlying9
  a9 := Tryz.isAgg9
  z9 := Tryz.sizeOf9
  v9 := Tryz.zeroValue9
  t20 := Tryz.underlying20
  a20 := Tryz.isAgg20
  z20 := Tryz.sizeOf20
  v20 := Tryz.zeroValue20
  t37 := Tryz.underlying77
  a37 := Tryz.isAgg77
  z37 := Tryz.sizeOf77
  v37 := Tryz.zeroValue77
  t46 := Tryz.underlying95
  a46 := Tryz.isAgg95
  z46 := Tryz.sizeOf95
  v46 := Tryz.zeroValue95
  t51 := Tryz.underlying135
  a51 := Tryz.isAgg135
  z51 := Tryz.sizeOf135
  v51 := Tryz.zeroValue135
  t53 := Tryz.underlying98
  a53 := Tryz.isAgg98
  z53 := Tryz.sizeOf98
  v53 := Tryz.zeroValue98
  t171 := Tryz.underlying236
  a171 := Tryz.isAgg236
  z171 := Tryz.sizeOf236
  v171 := Tryz.zeroValue236
  t173 := Tryz.underlying238
  a173 := Tryz.isAgg238
  z173 := Tryz.sizeOf238
  v173 := Tryz.zeroValue238
  t212 := Tryz.underlying246
  a212 := Tryz.isAgg246
  z212 := Tryz.sizeOf246
  v212 := Tryz.zeroValue246
  t213 := Tryz.underlying247
  a213 := Tryz.isAgg247
  z213 := Tryz.sizeOf247
  t232 := Tryz.underlying259
  a232 := Tryz.isAgg259
  z232 := Tryz.sizeOf259
  v232 := Tryz.zeroValue259
  t233 := Tryz.underlying260
  a233 := Tryz.isAgg260
  z233 := Tryz.sizeOf260
  v233 := Tryz.zeroValue260
  g17 := by kernel_rfl
  g18 := by kernel_rfl
  g19 := by kernel_rfl
  i0 := by kernel_rfl
  i2 := by kernel_rfl
  i3 := by kernel_rfl
  i4 := by kernel_rfl
  i5 := by kernel_rfl
  i9 := by kernel_rfl
  i20 := by kernel_rfl
  i37 := by kernel_rfl
  i46 := by kernel_rfl
  i51 := by kernel_rfl
  i53 := by kernel_rfl
  i171 := by kernel_rfl
  i173 := by kernel_rfl
  i212 := by kernel_rfl
  i232 := by kernel_rfl
  i233 := by kernel_rfl
  m17 := by kernel_rfl
  m18 := by kernel_rfl
  m19 := by kernel_rfl }
open Go.RowKit Go.Sort Go.Lib in
/-- internal/strconv.FormatInt: "FormatInt returns the string representation of i in the given base": AT BASE 10: i's decimal numeral, for every int64. The world behind the call: the world before it, new blocks behind the heap, draws. (LAID: no walk: one application.) -/
theorem Tryz.internal_strconv_FormatInt_10 (n : Int) (h0 : -9223372036854775808 ≤ n) (h1 : n ≤ 9223372036854775807) (w : World) (htab : Lib.TabIs Tryz.prog w "internal/strconv.uint64pow10" .u64 Lib.pow10Tab) :
    Calls Tryz.prog 205 #[.int .i64 n, .int .i64 10] w fun e w' => e = .returned (.string ⟨(Lib.itoa n).toArray⟩) ∧ ∃ k os, w' = grow (w.drewN k) os := Any.internal_strconv_FormatInt_10 Tryz.laysM246 n h0 h1 w htab
def Tryz.lays262_ren : Go.Shelf.Ren := ⟨fun | 262 => 214 | 313 => 224 | 274 => 230 | 275 => 231 | n => n, fun | 3 => 3 | 21 => 21 | 162 => 245 | 203 => 243 | 4 => 4 | 160 => 252 | 46 => 95 | 0 => 0 | 208 => 258 | 51 => 135 | 206 => 256 | n => n, fun | 13 => 2 | n => n⟩
theorem Tryz.lays262 : Go.Proofs.Lays.n262 Tryz.prog Tryz.lays262_ren := {
  mixed := by kernel_rfl
  f262 := Tryz.func214.trans (congrArg some (by kernel_rfl))
  f274 := Tryz.func230.trans (congrArg some (by kernel_rfl))
  f275 := Tryz.func231.trans (congrArg some (by kernel_rfl))
  f313 := Tryz.func224.trans (congrArg some (by kernel_rfl))
  t0 := Tryz.underlying0
  a0 := Tryz.isAgg0
  z0 := Tryz.sizeOf0
  v0 := Tryz.zeroValue0
  t3 := Tryz.underlying3
  a3 := Tryz.isAgg3
  z3 := Tryz.sizeOf3
  v3 := Tryz.zeroValue3
  t4 := Tryz.underlying4
  a4 := Tryz.isAgg4
  z4 := Tryz.sizeOf4
  v4 := Tryz.zeroValue4
  t21 := Tryz.underlying21
  a21 := Tryz.isAgg21
  z21 := Tryz.sizeOf21
  v21 := Tryz.zeroValue21
  t46 := Tryz.underlying95
  a46 := Tryz.isAgg95
  z46 := Tryz.sizeOf95
  v46 := Tryz.zeroValue95
  t51 := Tryz.underlying135
  a51 := Tryz.isAgg135
  z51 := Tryz.sizeOf135
  v51 := Tryz.zeroValue135
  t160 := Tryz.underlying252
  a160 := Tryz.isAgg252
  z160 := Tryz.sizeOf252
  v160 := Tryz.zeroValue252
  t162 := Tryz.underlying245
  a162 := Tryz.isAgg245
  z162 := Tryz.sizeOf245
  v162 := Tryz.zeroValue245
  t203 := Tryz.underlying243
  a203 := Tryz.isAgg243
  z203 := Tryz.sizeOf243
  v203 := Tryz.zeroValue243
  t206 := Tryz.underlying256
  a206 := Tryz.isAgg256
  z206 := Tryz.sizeOf256
  v206 := Tryz.zeroValue256
  t208 := Tryz.underlying258
  a208 := Tryz.isAgg258
  z208 := Tryz.sizeOf258
  v208 := Tryz.zeroValue258
  g13 := by kernel_rfl }
def Tryz.laysNm215_ren : Go.Shelf.Ren := ⟨fun | 15 => 145 | n => n, fun | 22 => 22 | 3 => 3 | 4 => 4 | n => n, fun | n => n⟩
theorem Tryz.laysNm215 : Go.Proofs.Lays2.n15 Tryz.prog Tryz.laysNm215_ren := {
  mixed := by kernel_rfl
  f15 := Tryz.func145.trans (congrArg some (by kernel_rfl))
  t3 := Tryz.underlying3
  a3 := Tryz.isAgg3
  z3 := Tryz.sizeOf3
  v3 := Tryz.zeroValue3
  t4 := Tryz.underlying4
  a4 := Tryz.isAgg4
  z4 := Tryz.sizeOf4
  v4 := Tryz.zeroValue4
  t22 := Tryz.underlying22
  a22 := Tryz.isAgg22
  z22 := Tryz.sizeOf22
  v22 := Tryz.zeroValue22
  i3 := by kernel_rfl }
open Go.RowKit Go.Lib in
/-- slices.Clone at []int: "Clone returns a copy of the slice. The elements are copied using assignment, so this is a shallow clone. The result may have additional unused capacity. The result preserves the nilness of s.": OF A SLICE THAT IS NOT nil IT RETURNS A SLICE THAT IS NOT nil, OF THE SAME ELEMENTS, IN MEMORY OF THE CALL's OWN: in the how-to's words (6f): 'w'.ownsRow B e 1 v' n cells': v' begins at the head of a row among the blocks from B on (B: the heap's size at the call), not frozen, whose first cells are the elements · 'Below B w w'': below B all is as it was. The capacity is whatever the run-time gives. 'zs': what the cells behind the slice's address hold; 'zs.take n': its elements. (LAID: no walk: one application.) -/
theorem Tryz.slices_Clone_int (b off n c : Nat) (zs : List Int) (w : World) (hz : n ≤ zs.length) (hbig : n * 8 ≤ 140737488355328) (hc : ∀ j, j < zs.length → w.cell? ⟨b, off + j, none⟩ = some (.int .i64 (zs.getD j 0))) :
    Calls Tryz.prog 145 #[.slice (some ⟨b, off, none⟩) n c] w fun e w' => ∃ v', e = .returned v' ∧ w'.ownsRow w.heap.size 3 1 v' n ((zs.take n).map (Value.int .i64)) ∧ v' ≠ .slice none 0 0 ∧ Below w.heap.size w w' := Any.slices_Clone_int Tryz.laysNm215 b off n c zs w hz hbig hc
open Go.RowKit Go.Lib in
/-- The same at nil: nil comes back; the world is as it was. (LAID: no walk: one application.) -/
theorem Tryz.slices_Clone_int_nil (n c : Nat) (w : World) :
    Calls Tryz.prog 145 #[.slice none n c] w fun e w' => e = .returned (.slice none 0 0) ∧ w' = w := Any.slices_Clone_int_nil Tryz.laysNm215 n c w
open Go.RowKit Go.Lib in
/-- The same at a slice of length 0 that is not nil, WHATEVER ITS ADDRESS (no cell is asked for): a slice that is not nil and owns nothing comes back. (LAID: no walk: one application.) -/
theorem Tryz.slices_Clone_int_zero (a : Addr) (c : Nat) (w : World) :
    Calls Tryz.prog 145 #[.slice (some a) 0 c] w fun e w' => ∃ v', e = .returned v' ∧ w'.ownsRow w.heap.size 3 1 v' 0 [] ∧ v' ≠ .slice none 0 0 ∧ Below w.heap.size w w' := Any.slices_Clone_int_zero Tryz.laysNm215 a c w
def Tryz.laysNm225_ren : Go.Shelf.Ren := ⟨fun | 25 => 185 | 31 => 113 | 32 => 196 | 37 => 131 | n => n, fun | 22 => 22 | 3 => 3 | 4 => 4 | 40 => 95 | 0 => 0 | n => n, fun | n => n⟩
theorem Tryz.laysNm225 : Go.Proofs.Lays2.n25 Tryz.prog Tryz.laysNm225_ren := {
  mixed := by kernel_rfl
  f25 := Tryz.func185.trans (congrArg some (by kernel_rfl))
  f31 := Tryz.func113.trans (congrArg some (by kernel_rfl))
  f32 := Tryz.func196.trans (congrArg some (by kernel_rfl))
  f37 := Tryz.func131.trans (congrArg some (by kernel_rfl))
  t0 := Tryz.underlying0
  a0 := Tryz.isAgg0
  z0 := Tryz.sizeOf0
  v0 := Tryz.zeroValue0
  t3 := Tryz.underlying3
  a3 := Tryz.isAgg3
  z3 := Tryz.sizeOf3
  v3 := Tryz.zeroValue3
  t4 := Tryz.underlying4
  a4 := Tryz.isAgg4
  z4 := Tryz.sizeOf4
  v4 := Tryz.zeroValue4
  t22 := Tryz.underlying22
  a22 := Tryz.isAgg22
  z22 := Tryz.sizeOf22
  v22 := Tryz.zeroValue22
  t40 := Tryz.underlying95
  a40 := Tryz.isAgg95
  z40 := Tryz.sizeOf95
  v40 := Tryz.zeroValue95 }
open Go.RowKit Go.Lib in
/-- slices.BinarySearch at []int: "BinarySearch searches for target in a sorted slice and returns the earliest position where target is found, or the position where target would appear in the sort order; it also returns a bool saying whether the target is really found in the slice. The slice must be sorted in increasing order.": OF A SORTED SLICE IT RETURNS how many elements are less than the target, and whether the target is among the elements; the world is as it was but for the count of draws. 'zs': what the cells behind the slice's address hold; 'zs.take n': its elements. (Of a slice that is not sorted: no contract here.) (LAID: no walk: one application.) -/
theorem Tryz.slices_BinarySearch_int (b off n c : Nat) (zs : List Int) (x : Int) (w : World) (hz : n ≤ zs.length) (hbig : n < 4611686018427387904) (hc : ∀ j, j < zs.length → w.cell? ⟨b, off + j, none⟩ = some (.int .i64 (zs.getD j 0))) (hs : (zs.take n).Pairwise (· ≤ ·)) :
    Calls Tryz.prog 185 #[.slice (some ⟨b, off, none⟩) n c, .int .i64 x] w fun e w' => e = .returned (.tuple #[.int .i64 ((zs.take n).countP (· < x) : Nat), .bool ((zs.take n).contains x)]) ∧ ∃ q, w' = w.drewN q := Any.slices_BinarySearch_int Tryz.laysNm225 b off n c zs x w hz hbig hc hs
open Go.RowKit Go.Lib in
/-- slices.BinarySearch at []int of no element: position 0, not found; the world is as it was. (LAID: no walk: one application.) -/
theorem Tryz.slices_BinarySearch_int_empty (a : Option Addr) (c : Nat) (x : Int) (w : World) :
    Calls Tryz.prog 185 #[.slice a 0 c, .int .i64 x] w fun e w' => e = .returned (.tuple #[.int .i64 0, .bool false]) ∧ w' = w := Any.slices_BinarySearch_int_empty Tryz.laysNm225 a c x w
end Go.Proofs
/- slices.Clone of a []int of one's own. -/
namespace Go.Proofs.YtcffbeihgchpgaaGreatDoor
open Go.RowKit Book Mem
set_option linter.unusedVariables false
theorem clone_any (v : Value) (B : Nat) (xs : List Int) (w : World) (h : Owns w B 3 v (vals xs)) (hl : xs.length ≤ 1000000) :
    Calls Tryz.prog 145 #[v] w fun e w' => ∃ c, e = .returned c ∧ Owns w' w.heap.size 3 c (vals xs) ∧ Below w.heap.size w w' := by
  rcases h.form with ⟨ao, rfl, hx⟩ | ⟨g, cap, rfl, hc0⟩
  · have hx : xs = [] := List.map_eq_nil_iff.1 hx
    subst hx
    cases ao with
    | none => exact (Tryz.slices_Clone_int_nil 0 0 w).mono fun e w' ⟨h1, h2⟩ => by subst h2; exact ⟨_, h1, Owns.nil _ _ _, Below.refl _ _⟩
    | some a => exact (Tryz.slices_Clone_int_zero a 0 w).mono fun e w' ⟨v', h1, h2, _, h3⟩ => ⟨v', h1, Owns.of_row h2, h3⟩
  · rw [vals_length]
    refine (Tryz.slices_Clone_int g 0 xs.length cap xs w (Nat.le_refl _) (by omega) (fun j hj => by
      obtain ⟨g', c', e, hc, _, _⟩ := h.row (by rw [vals_length]; omega)
      simp only [Value.slice.injEq, Option.some.injEq, Addr.mk.injEq, and_true, true_and] at e
      rw [Nat.zero_add, e.1]
      exact hc j _ (by simp [vals, List.getD_eq_getElem?_getD, List.getElem?_eq_getElem hj]))).mono fun e w' ⟨v', h1, h2, _, h3⟩ => ⟨v', h1, ?_, h3⟩
    rw [List.take_length] at h2
    exact Owns.of_row h2
end Go.Proofs.YtcffbeihgchpgaaGreatDoor
/- Package pile: making, reading, copying, of a stack and of none. -/
namespace Go.Proofs.YtcffbeihgchpgaaGreatDoor
open Go.RowKit Book Mem
set_option linter.unusedSimpArgs false
set_option linter.unusedVariables false
theorem Mem.stirred_setRow (w : World) (g : Nat) (cs : Array Value) : Stirred w (w.setRow g cs) [g] :=
  ⟨rfl, rfl, rfl, by simp, fun k hk hn => setRow_other w g k cs (by simpa using hn)⟩
/-- 'copy(x[off:], l)' into a block that is known whole -/
theorem wpList_copy_reads {P : Program} {w : World} {ops : Array Oper} {rest : List Oper} {o : Oper} {a : Act} {Q : Exit → Act → World → Prop} (hgd : o.guard = none) (d s : Operand) (dT sT : TypeId)
    (ho : o.op = .call { callee := .builtin .copy, args := #[d, s], argTypes := #[dT, sT] }) (elem : TypeId) (hu : P.underlying dT = some (.slice elem)) (hsz : (P.info? elem).map (·.size) = some 1)
    (dp : Option Addr) (dLen dCap : Nat) (hd : a.eval d = .slice dp dLen dCap) (v : Value) (xs : List Int) (hs : a.eval s = v) (hr : Reads w v xs)
    (g off : Nat) (cur : List Int) (t : TypeId) (hg : w.heap[g]? = some (.cells (vals cur).toArray t (0, 0))) (hp : 0 < min xs.length dLen → dp = some ⟨g, off, none⟩) (hfit : off + min xs.length dLen ≤ cur.length)
    (h : ∀ w', w'.heap[g]? = some (.cells (vals (splice cur off (xs.take dLen))).toArray t (0, 0)) → Stirred w w' [g] → wpList P ops Q rest (a.put o.dst (.int .i64 (min xs.length dLen : Nat))) w') :
    wpList P ops Q (o :: rest) a w := by
  obtain ⟨ao, cap, rfl, hc⟩ := hr
  have hl : (vals (xs.take dLen)).length = Nat.min xs.length dLen := by rw [vals_length, List.length_take, Nat.min_comm]
  by_cases h0 : min xs.length dLen = 0
  · have hx : xs.take dLen = [] := List.eq_nil_of_length_eq_zero (by rw [List.length_take, Nat.min_comm]; exact h0)
    refine wpList_copy_nothing hgd d s dT sT ho elem hu hsz dp ao dLen dCap xs.length cap hd hs h0 ?_
    have := h w (by rw [hx]; simpa [splice] using hg) (Stirred.refl _ _)
    rw [h0] at this
    exact this
  · have hxl : 0 < xs.length := by omega
    obtain ⟨ad, rfl, _⟩ := hc 0 xs[0] (List.getElem?_eq_getElem hxl)
    have hd' := hp (by omega)
    subst hd'
    refine wpList_copy_own hgd d s dT sT ho elem hu hsz g off dLen dCap ad xs.length cap hd hs (vals cur).toArray t hg (vals (xs.take dLen)) hl (fun j v hj => ?_) (by rw [hl]; simpa using hfit) (vals_one _) ?_
    · simp only [vals, List.getElem?_map, Option.map_eq_some_iff] at hj
      obtain ⟨x, hx, rfl⟩ := hj
      rw [List.getElem?_take] at hx
      split at hx
      · obtain ⟨a', e, hx'⟩ := hc j x hx
        simp only [Option.some.injEq] at e
        subst e
        exact hx'
      · cases hx
    · have hgo : goInt ((vals (xs.take dLen)).length : Nat) = .int .i64 (min xs.length dLen : Nat) := by rw [hl]; rfl
      rw [hgo]
      refine h _ ?_ (stirred_setRow _ _ _)
      rw [setRow_heap w g _ _ _ _ hg]
      have := splice_vals cur (xs.take dLen) off
      unfold splice at this
      simp only [this]
      rfl
theorem row_whole {w : World} {B E g n : Nat} {xs : List Value} (h : w.ownsRow B E 1 (.slice (some ⟨g, 0, none⟩) n n) n xs) : w.heap[g]? = some (.cells xs.toArray E (0, 0)) := by
  have hn := h.1
  rcases h.2 with ⟨e, _⟩ | ⟨g', cap, cur, e, h2, h3, h4, h5, h6, h7⟩
  · cases e
  · simp only [Value.slice.injEq, Option.some.injEq, Addr.mk.injEq, and_true, true_and] at e
    obtain ⟨rfl, rfl⟩ := e
    rw [h3]
    congr 2
    apply Array.toList_inj.1
    rw [← h7, List.take_of_length_le (by simp; omega)]
/-- a stack that was made in this call -/
def MadeP (w : World) (room : Nat) (cs : List Int) (e : Ending) (w' : World) : Prop := ∃ p g, e = .returned (.pointer (some ⟨p, 0, none⟩)) ∧ PileAt w' w.heap.size p g room cs ∧ Below w.heap.size w w'
theorem Tryz.piIntSize : (Tryz.prog.info? 3).map (·.size) = some 1 := by kernel_rfl
set_option maxHeartbeats 1000000 in
theorem new_any (most : Int) (room : Nat) (hm : (room : Int) = min (max most 0) 1000) (v : Value) (xs : List Int) (w : World) (h : Reads w v xs) : Calls Tryz.prog 118 #[.int .i64 most, v] w (MadeP w room (xs.take room)) := by
  obtain ⟨i0, q1, q2, q3, q4⟩ := info_parts Tryz.bkIntInfo
  have HM := Lib.hid hm
  have hm3 : room ≤ 1000 := by omega
  have HI := Lib.hid (And.intro q1 (And.intro q2 (And.intro q3 q4)))
  have HR := Lib.hid h
  obtain ⟨vo, vc, rfl, _⟩ := h
  clear q1 q2 q3 q4 hm
  go_enter Tryz.func118, Tryz.ntmps118
  go_wp2_with (at_make; refine wpList_make_full _ rfl _ _ 22 rfl w.heap.size 3 i0 (.int .i64 0) 1 Tryz.underlying22 HI.out.1 HI.out.2.1 HI.out.2.2.1 .i64 .i64 _ _ room rfl rfl ?a1 ?a2 ?a3 ?a4 (Nat.le_refl _) ?_)
  case a1 => exact HM.out.symm
  case a2 => exact HM.out.symm
  case a3 => rw [HI.out.2.2.2]; omega
  case a4 => unfold maxLen; omega
  intro w1 hO hG
  rw [toList_madeCells_one] at hO
  have hrow := row_whole hO
  have hz := hG.size
  have hb1 := (Stirred.of_grown hG).below (B := w.heap.size) (fun k h => by cases h) (Nat.le_refl _)
  have hb2 := (Below.refl w1.heap.size w1).alloc (Nat.le_refl _) (.cells #[.slice (some ⟨w.heap.size, 0, none⟩) room room, .int .i64 0] 152)
  have hnew := heap_alloc_new w1 (.cells #[.slice (some ⟨w.heap.size, 0, none⟩) room room, .int .i64 0] 152)
  have hrow2 := (Stirred.of_below hb2 []).whole hrow List.not_mem_nil
  obtain ⟨w2, hw2⟩ : ∃ w2, w1.alloc (.cells #[.slice (some ⟨w.heap.size, 0, none⟩) room room, .int .i64 0] 152) = w2 := ⟨_, rfl⟩
  rw [hw2] at hb2 hnew hrow2
  have hv : List.replicate room (Value.int .i64 0) = vals (full room []) := by simp [full, vals]
  rw [hv] at hrow2
  have hP : PileAt w2 w.heap.size w1.heap.size w.heap.size room [] := ⟨hnew, hz, Nat.le_refl _, hrow2, Nat.zero_le _, hm3⟩
  have c0 := hP.c0
  have k1 := hP.c1
  have f1 := whole_frozen hP.whole 1
  have HP := Lib.hid hP
  have HB := Lib.hid (hb1.trans (hb2.mono hz))
  have HR2 := Lib.hid (HR.out.below HB.out)
  have hw2' : w1.alloc (.cells #[.slice (some ⟨w.heap.size, 0, none⟩) room room, .int .i64 0] 152) = w2 := hw2
  clear hO hG hrow hz hb1 hb2 hnew hrow2 hP hv hw2
  go_wp2_with (with_reducible refine wpList_copy_reads rfl _ _ 22 22 rfl 3 Tryz.underlying22 Tryz.piIntSize (some ⟨w.heap.size, 0, none⟩) room room rfl (.slice vo xs.length vc) xs rfl HR2.out w.heap.size 0 (full room []) 3 HP.out.row (fun _ => rfl) ?c1 ?_)
  case c1 => rw [full_length (Nat.zero_le _)]; omega
  intro w3 hr hs
  have hmin : min xs.length room = (xs.take room).length := by rw [List.length_take, Nat.min_comm]
  have hput := full_put room [] (xs.take room)
  simp only [List.length_nil, List.nil_append] at hput
  rw [hput] at hr
  have hC := HP.out.counted hs hr (by rw [List.length_take]; omega)
  have hw3 := hs.whole HP.out.whole (by simpa using HP.out.pg)
  have f1 : w3.frozen? ⟨w1.heap.size, 1, none⟩ = false := whole_frozen hw3 1
  have k1 := whole_cell hw3 (show (#[Value.slice (some ⟨w.heap.size, 0, none⟩) room room, Value.int .i64 (([] : List Int).length : Nat)])[1]? = _ from rfl)
  obtain ⟨N, hN⟩ : ∃ N, (xs.take room).length = N := ⟨_, rfl⟩
  rw [hmin, hN]
  rw [hN] at hC
  have HR3 := Lib.hid (And.intro hC.1 (HB.out.trans (hC.2.below (B := w.heap.size) (fun k hk => (HP.out.foot_lt k hk).1) HB.out.size)))
  clear hr hs hC hput hmin c0 hN hw3
  go_wp2
  go_ret
  exact ⟨w1.heap.size, w.heap.size, rfl, HR3.out⟩
section
variable {w : World} {B p g room : Nat} {cs : List Int}
theorem made_any (h : PileAt w B p g room cs) : Calls Tryz.prog 154 #[.pointer (some ⟨p, 0, none⟩)] w fun e w' => e = .returned (.bool true) ∧ w' = w := by
  have c0 := h.c0
  clear h
  have hne := run_neq_slice_nil (P := Tryz.prog) w 22 3 (some ⟨g, 0, none⟩) room room Tryz.underlying22
  go_enter Tryz.func154, Tryz.ntmps154
  go_wp2
  go_ret
  exact ⟨rfl, rfl⟩
theorem len_any (h : PileAt w B p g room cs) : Calls Tryz.prog 140 #[.pointer (some ⟨p, 0, none⟩)] w fun e w' => e = .returned (.int .i64 cs.length) ∧ w' = w := by
  have c1 := h.c1
  clear h
  obtain ⟨n, hn⟩ : ∃ n, cs.length = n := ⟨_, rfl⟩
  rw [hn] at c1 ⊢
  clear hn
  go_enter Tryz.func140, Tryz.ntmps140
  go_wp2
  go_ret
  exact ⟨rfl, rfl⟩
theorem has_yes (h : PileAt w B p g room cs) (j : Nat) (hj : j < cs.length) : Calls Tryz.prog 153 #[.pointer (some ⟨p, 0, none⟩), .int .i64 j] w fun e w' => e = .returned (.bool true) ∧ w' = w := by
  have C := Lib.hid (len_any h)
  have hl := h.fits
  have hm := h.most
  clear h
  obtain ⟨n, hn⟩ : ∃ n, cs.length = n := ⟨_, rfl⟩
  rw [hn] at C hl hj
  clear hn
  have h0 : (0 : Int) ≤ (j : Int) := by omega
  have h1 : (j : Int) < (n : Int) := by omega
  go_enter Tryz.func153, Tryz.ntmps153
  go_wp2_with (go_at_call 140; refine C.out.mono ?_; rintro e wz ⟨rfl, hwz⟩; subst wz)
  go_ret
  exact ⟨rfl, rfl⟩
theorem has_no (h : PileAt w B p g room cs) (a : Int) (ha : ¬ (0 ≤ a ∧ a < (cs.length : Int))) : Calls Tryz.prog 153 #[.pointer (some ⟨p, 0, none⟩), .int .i64 a] w fun e w' => e = .returned (.bool false) ∧ w' = w := by
  have C := Lib.hid (len_any h)
  have hl := h.fits
  have hm := h.most
  clear h
  obtain ⟨n, hn⟩ : ∃ n, cs.length = n := ⟨_, rfl⟩
  rw [hn] at C hl ha
  clear hn
  by_cases h0 : 0 ≤ a
  · have h1 : decide (a < (n : Int)) = false := by simp; omega
    clear ha
    go_enter Tryz.func153, Tryz.ntmps153
    go_wp2_with (go_at_call 140; refine C.out.mono ?_; rintro e wz ⟨rfl, hwz⟩; subst wz)
    go_ret
    exact ⟨rfl, rfl⟩
  · clear ha
    go_enter Tryz.func153, Tryz.ntmps153
    go_wp2
    go_ret
    exact ⟨rfl, rfl⟩
end
end Go.Proofs.YtcffbeihgchpgaaGreatDoor
/- Package pile: what lies there, as a list, one by one; copies. -/
namespace Go.Proofs.YtcffbeihgchpgaaGreatDoor
open Go.RowKit Book Mem
set_option linter.unusedSimpArgs false
set_option linter.unusedVariables false
section
variable {w : World} {B p g room : Nat} {cs : List Int}
theorem peek_yes (h : PileAt w B p g room cs) (j : Nat) (x : Int) (hj : j < cs.length) (hx : cs[cs.length - 1 - j]? = some x) : Calls Tryz.prog 139 #[.pointer (some ⟨p, 0, none⟩), .int .i64 j] w fun e w' => e = .returned (.tuple #[.int .i64 x, .bool true]) ∧ ∃ q, w' = w.drewN q := by
  have C := Lib.hid (has_yes h j hj)
  have hl := h.fits
  have hm := h.most
  have k := h.cell (j := cs.length - 1 - j) (by omega)
  rw [show cs[cs.length - 1 - j] = x by rw [List.getElem?_eq_getElem (by omega)] at hx; simpa using hx] at k
  have c0 := h.c0
  have c1 := h.c1
  obtain ⟨n, hn⟩ : ∃ n, cs.length = n := ⟨_, rfl⟩
  rw [hn] at c1 hl hj k
  clear hn hx h
  obtain ⟨i, hi⟩ : ∃ i, n - 1 - j = i := ⟨_, rfl⟩
  rw [hi] at k
  have e1 : (n : Int) - 1 - (j : Int) = (i : Int) := by omega
  have e2 : (0 : Int) ≤ (i : Int) := by omega
  have e3 : (i : Int) < (room : Int) := by omega
  have e4 : (n : Int) - 1 = (i : Int) + (j : Int) := by omega
  go_enter Tryz.func139, Tryz.ntmps139
  go_wp2_with fail
  refine C.out.mono ?_
  rintro e wz ⟨rfl, hwz⟩
  subst wz
  go_wp2_with fail
  go_region
  go_wp2
  go_ret2
  exact ⟨rfl, 1, rfl⟩
theorem peek_no (h : PileAt w B p g room cs) (a : Int) (ha : ¬ (0 ≤ a ∧ a < (cs.length : Int))) : Calls Tryz.prog 139 #[.pointer (some ⟨p, 0, none⟩), .int .i64 a] w fun e w' => e = .returned (.tuple #[.int .i64 0, .bool false]) ∧ w' = w := by
  have C := Lib.hid (has_no h a ha)
  clear h ha
  go_enter Tryz.func139, Tryz.ntmps139
  go_wp2_with (go_at_call 153; refine C.out.mono ?_; rintro e wz ⟨rfl, hwz⟩; subst wz)
  go_ret2
  exact ⟨rfl, rfl⟩
/-- a stack to which something was done, in these blocks -/
def Did (w : World) (B p g room : Nat) (cs : List Int) (bs : List Nat) (e : Ending) (w' : World) : Prop := e = .returned (.bool true) ∧ PileAt w' B p g room cs ∧ Stirred w w' bs
theorem cut_no (h : PileAt w B p g room cs) (a : Int) (ha : ¬ (0 ≤ a ∧ a ≤ (room : Int))) : Calls Tryz.prog 141 #[.pointer (some ⟨p, 0, none⟩), .int .i64 a] w fun e w' => e = .returned (.bool false) ∧ w' = w := by
  have C := Lib.hid (made_any h)
  have hl := h.fits
  have hm := h.most
  have c0 := h.c0
  have c1 := h.c1
  clear h
  obtain ⟨n, hn⟩ : ∃ n, cs.length = n := ⟨_, rfl⟩
  rw [hn] at c1 hl
  clear hn
  by_cases h0 : a < 0
  · clear ha
    go_enter Tryz.func141, Tryz.ntmps141
    go_wp2_with (go_at_call 154; refine C.out.mono ?_; rintro e wz ⟨rfl, hwz⟩; subst wz)
    go_ret
    exact ⟨rfl, rfl⟩
  · have h1 : decide (a < 0) = false := by simp; omega
    have h2 : decide (a < (n : Int)) = false := by simp; omega
    have h3 : decide (a ≤ (room : Int)) = false := by simp; omega
    clear ha h0
    go_enter Tryz.func141, Tryz.ntmps141
    go_wp2_with (go_at_call 154; refine C.out.mono ?_; rintro e wz ⟨rfl, hwz⟩; subst wz)
    go_ret
    exact ⟨rfl, rfl⟩
theorem cut_more (h : PileAt w B p g room cs) (m : Nat) (h1 : cs.length ≤ m) (h2 : m ≤ room) : Calls Tryz.prog 141 #[.pointer (some ⟨p, 0, none⟩), .int .i64 m] w (Did w B p g room (cs ++ List.replicate (m - cs.length) 0) [p]) := by
  have C := Lib.hid (made_any h)
  have hl := h.fits
  have hm := h.most
  have c0 := h.c0
  have c1 := h.c1
  have f1 := whole_frozen h.whole 1
  have hlen : (cs ++ List.replicate (m - cs.length) (0 : Int)).length = m := by simp; omega
  have hC := h.counted (w' := w) (cs' := cs ++ List.replicate (m - cs.length) 0) (Stirred.refl _ _) (by rw [full_more (by omega)]; exact h.row) (by omega)
  rw [hlen] at hC
  have HR := Lib.hid (And.intro hC.1 (Stirred.setCell w ⟨p, 1, none⟩ (.int .i64 m)))
  clear hC hlen h
  obtain ⟨n, hn⟩ : ∃ n, cs.length = n := ⟨_, rfl⟩
  rw [hn] at c1 hl h1 HR ⊢
  clear hn
  have e1 : decide ((m : Int) < 0) = false := by simp
  have e2 : decide ((m : Int) < (n : Int)) = false := by simp; omega
  have e3 : decide ((m : Int) ≤ (room : Int)) = true := by simp; omega
  go_enter Tryz.func141, Tryz.ntmps141
  go_wp2_with (go_at_call 154; refine C.out.mono ?_; rintro e wz ⟨rfl, hwz⟩; subst wz)
  go_ret
  exact ⟨rfl, HR.out⟩
theorem cut_less (h : PileAt w B p g room cs) (m : Nat) (h1 : m < cs.length) : Calls Tryz.prog 141 #[.pointer (some ⟨p, 0, none⟩), .int .i64 m] w (Did w B p g room (cs.take m) (foot p g)) := by
  have C := Lib.hid (made_any h)
  have HP := Lib.hid h
  have hl := h.fits
  have hm := h.most
  have c0 := h.c0
  have c1 := h.c1
  have f1 := whole_frozen h.whole 1
  have hcl : ∀ ty, (Builtin.clear_ #[22] ty #[.slice (some ⟨g, m, none⟩) (cs.length - m) (room - m)]).run Tryz.prog w.drew = .ok (.tuple #[]) (w.drew.setCells g m (List.replicate (cs.length - m) (.int .i64 0))) := fun ty =>
    Lib.run_clear_slice w.drew 22 3 ty (.int .i64 0) Tryz.underlying22 Tryz.zeroValue3 rfl rfl g m _ _ (by omega) (fun j hj => (h.there (by omega)).1) (fun j hj => (h.there (j := m + j) (by omega)).2)
  have hs : Stirred w (w.drew.setCells g m (List.replicate (cs.length - m) (.int .i64 0))) [g] := (Stirred.drew w [g]).trans (stirred_setCells g _ m _) (fun k hk => .inl hk)
  have hr := heap_setCells g 3 (List.replicate (cs.length - m) (.int .i64 0)) m w.drew (vals (full room cs)) h.row (by rw [vals_length, full_length hl, List.length_replicate]; omega)
  rw [show List.replicate (cs.length - m) (Value.int .i64 0) = vals (List.replicate (cs.length - m) 0) by simp [vals], splice_vals, full_cut (by omega) hl] at hr
  have hv : List.replicate (cs.length - m) (Value.int .i64 0) = vals (List.replicate (cs.length - m) 0) := by simp [vals]
  rw [hv] at hcl hs
  have hlen : (cs.take m).length = m := by rw [List.length_take]; omega
  obtain ⟨w2, hw2⟩ : ∃ w2, w.drew.setCells g m (vals (List.replicate (cs.length - m) 0)) = w2 := ⟨_, rfl⟩
  rw [hw2] at hr hs hcl
  have hC := h.counted hs hr (by omega)
  rw [hlen] at hC
  have HR := Lib.hid hC
  have hw := hs.whole h.whole (by simpa using h.pg)
  have k1 : w2.cell? ⟨p, 1, none⟩ = some (.int .i64 cs.length) := whole_cell hw rfl
  have f2 := whole_frozen hw 1
  have hw2' := Lib.hid hw2
  clear hs hr hv hlen hw2 hC hw h
  obtain ⟨n, hn⟩ : ∃ n, cs.length = n := ⟨_, rfl⟩
  rw [hn] at c1 hl h1 hcl k1
  clear hn
  have e1 : decide ((m : Int) < 0) = false := by simp
  have e2 : decide ((m : Int) < (n : Int)) = true := by simp; omega
  have e3 : (m : Int) < (n : Int) := by omega
  have e4 : (n : Int) ≤ (room : Int) := by omega
  have e5 : (0 : Int) ≤ (m : Int) := by omega
  go_enter Tryz.func141, Tryz.ntmps141
  go_wp2_with fail
  refine C.out.mono ?_
  rintro e wz ⟨rfl, hwz⟩
  subst wz
  go_wp2_with fail
  go_region
  go_wp2
  go_ret
  exact ⟨rfl, HR.out⟩
end
end Go.Proofs.YtcffbeihgchpgaaGreatDoor
