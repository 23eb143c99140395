
/- Package eval: a stack as it is at an exit. -/
import Derived.Test.YtbiinnfkokaadaaDoorEvExit
import Derived.Test.YtbiinnfkokaadaaDoorSub
import Derived.Deep.LoopGhost
namespace Go.Proofs.YtbiinnfkokaadaaDoor.Ev
open Go.RowKit Book Mem
open Ir (T I O trA ReadsL insA insV CI CT)
open Mach (M less)
open Go.Proofs.YtbiinnfkokaadaaDoor.Cell (In)
set_option linter.unusedSimpArgs false
set_option linter.unusedVariables false
theorem wpList_slice_low {P : Program} {w : World} {ops : Array Oper} {rest : List Oper} {o : Oper} {a : Act} {Q : Exit → Act → World → Prop} (hw : Region.wanted o (yielded ops a.tmps) = true) (t : TypeId) (x hi : Operand) (hop : o.op = Op.slice t x none (some hi) none)
    (E : TypeId) (ht : P.underlying t = some (.slice E)) (hz : ∀ w, (sizeOf E).run P w = .ok 1 w) (ao : Option Addr) (n c : Nat) (xs : List Int) (hx : a.eval x = .slice ao n c) (hr : ReadsC w (.slice ao n c) xs) (h : Nat) (hhi : a.eval hi = .int .i64 h) (hh : h ≤ xs.length)
    (hK : wpList P ops Q rest (a.put o.dst (.slice ao h c)) w) : wpList P ops Q (o :: rest) a w := by
  refine wpList_step fun K hK' => ?_
  rw [if_pos hw]
  obtain ⟨-, ao', c', e, hcap⟩ := hr
  simp only [Value.slice.injEq] at e
  obtain ⟨rfl, rfl, rfl⟩ := e
  have hs : (Instr.sliceAt t (.slice ao xs.length c) none (some (.int .i64 h)) none).run P w = .ok (.slice ao h c) w := by
    have e1 : ∀ code, (Instr.sliceBound (.int .i64 h) c code).run P w = .ok h w := fun code => by
      have h1 : h ≤ c := by omega
      simp [Instr.sliceBound, asIntOf, h1, go_sem]
    cases ao <;> simp [Instr.sliceAt, Instr.slice, Instr.sliceBounds, run_underlying ht, hz, e1, Addr.add]
  unfold Oper.wp execOp
  simp only [hop, hx, hhi, Option.map_some, Option.map_none, Sem.run_bind, Sem.run_pure, Result.andThen_ok, hs]
  exact hK' _ _ hK
theorem wrap_nat {m : Nat} (h : m ≤ 10000) : wrap64 (m : Int) = (m : Int) := by unfold wrap64; omega
theorem sub_cast {nx k m : Nat} (h : nx - k = m) (hk : k ≤ nx) : (nx : Int) - (k : Int) = (m : Int) := by omega
theorem len_ok {m n j : Nat} (h : m ≤ 10000) (g : n ≤ 10000) (hj : j ≤ n) : m + j + 1 ≤ maxLen := by unfold maxLen; omega
theorem len_ok8 {m n j : Nat} (h : m ≤ 10000) (g : n ≤ 10000) (hj : j ≤ n) : (m + j + 1) * 8 ≤ 140737488355328 := by omega
/-- a value of a run, known by the box's one cell and the list alone -/
theorem value_at {w : World} {q : Nat} {vv : Value} {V : List Int} (c19 : w.cell? ⟨q, 19, none⟩ = some vv) (hv : Reads w vv V) (hl : V.length ≤ 100000) (p : Int) : Calls Tryd.prog 34 #[.pointer (some ⟨q, 0, none⟩), .int .i64 p] w fun e w' => e = .returned (.int .i64 (val V p)) ∧ w' = w := by
  have C := Lib.hid (get_any hv hl p)
  obtain ⟨g, hg⟩ : ∃ g, getL V p = g := ⟨_, rfl⟩
  have HV := Lib.hid (show val V p = g.1 by unfold val; rw [hg])
  rw [hg] at C
  clear hv hl hg
  go_enter Tryd.func34, Tryd.ntmps34
  go_wp2_with (go_at_call 32; refine C.out.mono ?_; rintro e w' ⟨rfl, rfl⟩)
  go_ret
  exact ⟨Cell.ret1 HV.out.symm, rfl⟩
/-- a list less its topmost cells, and values behind -/
def Laid (w : World) (B : Nat) (l : Value) (ys : List Int) (e : Ending) (w' : World) : Prop :=
  ∃ v, e = .returned v ∧ Owns w' B 3 v (vals ys) ∧ Stirred w w' (blk l).toList ∧ ∀ b, blk v = some b → blk l = some b ∨ w.heap.size ≤ b
set_option maxHeartbeats 8000000 in
set_option maxRecDepth 100000 in
theorem lay_any {W w : World} {q : Nat} {o : Obj} {vv l vp : Value} {V xs ps : List Int} {k : Nat} (hb : Below W.heap.size W w) (hq : w.heap[q]? = some o) (hc : ∀ w' : World, w'.heap[q]? = some o → w'.cell? ⟨q, 19, none⟩ = some vv) (hv : Owns w W.heap.size 3 vv (vals V)) (hV : V.length ≤ 100000)
    (hl : Owns w W.heap.size 3 l (vals xs)) (nq : blk l ≠ some q) (nv : ∀ b, blk l = some b → blk vv ≠ some b) (hp : Reads W vp ps) (hk : k ≤ xs.length) (hx : xs.length ≤ 10000) (hps : ps.length ≤ 10000) :
    Calls Tryd.prog 31 #[.pointer (some ⟨q, 0, none⟩), l, .int .i64 (k : Int), vp] w (Laid w W.heap.size l (xs.take (xs.length - k) ++ ps.map (val V))) := by
  obtain ⟨i0, q1, q2, q3, q4⟩ := info_parts Tryd.bkIntInfo
  have HI := Lib.hid (And.intro q1 (And.intro q2 (And.intro q3 q4)))
  obtain ⟨ao, cap, el⟩ := hl.slice
  rw [vals_length] at el
  obtain ⟨m, hm⟩ : ∃ m, xs.length - k = m := ⟨_, rfl⟩
  obtain ⟨nx, hnx⟩ : ∃ n, xs.length = n := ⟨_, rfl⟩
  obtain ⟨n, hn⟩ : ∃ n, ps.length = n := ⟨_, rfl⟩
  have HL := Lib.hid hl
  have HRC := Lib.hid (ReadsC.of_owns hl)
  rw [el] at HRC
  rw [hnx] at el HRC
  obtain ⟨vo, vc, rfl, -⟩ := hp.below hb
  have HP := Lib.hid hp
  rw [hn] at HP
  rw [hn]
  have HN := Lib.hid hn
  have HB := Lib.hid hb
  have HQ := Lib.hid hq
  have HC := Lib.hid hc
  have HV := Lib.hid hv
  have HVL := Lib.hid hV
  have NQ := Lib.hid nq
  have NV := Lib.hid nv
  have hm0 : m ≤ 10000 := by rw [← hm]; exact Nat.le_trans (Nat.sub_le _ _) hx
  have HM := Lib.hid (show m ≤ 10000 ∧ n ≤ 10000 ∧ m ≤ xs.length from ⟨hm0, by rw [← hn]; exact hps, by rw [← hm]; exact Nat.sub_le _ _⟩)
  have hm1 : wrap64 (m : Int) = (m : Int) := wrap_nat hm0
  have HSH := Lib.hid (show Owns w W.heap.size 3 (.slice ao m cap) (vals (xs.take m)) by rw [el] at hl; exact Mem.owns_shorter hl (by rw [← hm]; exact Nat.sub_le _ _))
  have HBK := Lib.hid (show blk (.slice ao m cap) = blk l by rw [el]; cases ao <;> rfl)
  rw [hm]
  subst el
  have hm2 : (nx : Int) - (k : Int) = (m : Int) := sub_cast (by rw [← hnx]; exact hm) (by rw [← hnx]; exact hk)
  have hcap : m ≤ cap := by
    obtain ⟨-, ao', c', e, hcc⟩ := HRC.out
    simp only [Value.slice.injEq] at e
    obtain ⟨-, -, rfl⟩ := e
    exact Nat.le_trans HM.out.2.2 hcc
  clear hl hp hb hq hc hv hV nq nv hn hnx hm hk hx hps hm0 q1 q2 q3 q4
  go_enter Tryd.func31, Tryd.ntmps31
  go_wp2
  simp only [hm1]
  clear hm1 hm2 hcap
  go_loopg [1, 19] n (fun zz v i wr => ∃ (j : Nat), zz = n - j ∧ j ≤ n ∧ i = .int .i64 (j : Int) ∧ Hid (Owns wr W.heap.size 3 v (vals (xs.take m ++ (ps.take j).map (val V)))) ∧ Hid (Stirred w wr (blk (.slice ao nx cap)).toList) ∧ Hid (∀ b, blk v = some b → blk (.slice ao nx cap) = some b ∨ w.heap.size ≤ b))
  case atStart => exact ⟨0, rfl, Nat.zero_le _, rfl, Lib.hid (by rw [List.take_zero, List.map_nil, List.append_nil]; exact HSH.out), Lib.hid (Stirred.refl _ _), Lib.hid (fun b e => .inl (by rw [← HBK.out]; exact e))⟩
  case round =>
    obtain ⟨j, rfl, hj, rfl, HO, HT, HK⟩ := hrel
    have hin : ∀ b, b ∈ (blk (.slice ao nx cap)).toList → blk (.slice ao nx cap) = some b := fun b hm => Option.mem_toList.1 hm
    have HBW := Lib.hid (HB.out.trans (HT.out.below (B := W.heap.size) (fun b hm => (HL.out.block b (hin b hm)).1) HB.out.size))
    by_cases hlt : j < n
    · obtain ⟨p, hp⟩ : ∃ p, ps[j]? = some p := ⟨_, List.getElem?_eq_getElem (by rw [HN.out]; exact hlt)⟩
      have htk : (ps.take (j + 1)).map (val V) = (ps.take j).map (val V) ++ [val V p] := by rw [List.take_add_one, hp]; simp
      obtain ⟨ad, rfl, p0⟩ := Ir.Reads.at' (HP.out.below HBW.out) hp
      have HQR := Lib.hid (HT.out.whole HQ.out (fun hm => NQ.out (hin q hm)))
      have HVR := Lib.hid (HV.out.touch HT.out (fun b e hm => NV.out b (hin b hm) e))
      have C := Lib.hid (value_at (HC.out _ HQR.out) (Reads.of_owns HVR.out) HVL.out p)
      obtain ⟨y, hy⟩ : ∃ y, val V p = y := ⟨_, rfl⟩
      rw [hy] at C htk
      have HTK := Lib.hid htk
      obtain ⟨ao5, cap5, e5⟩ := HO.out.slice
      subst e5
      obtain ⟨w6, g6, hw6, hg6, HROW, HB6⟩ := row_one wr y
      have HO6 := Lib.hid (HO.out.below HB6.out)
      have hlen : (vals (xs.take m ++ (ps.take j).map (val V))).length = m + j := by
        rw [vals_length, List.length_append, List.length_map, List.length_take, List.length_take, HN.out, Nat.min_eq_left HM.out.2.2, Nat.min_eq_left hj]
      have HLE := Lib.hid hlen
      have z0 : (0 : Int) ≤ (j : Int) := by omega
      have z1 : (j : Int) < (n : Int) := by omega
      have z3 : n ≤ 10000 := HM.out.2.1
      clear hp hy htk
      rw [hlen] at HO HO6 HK
      rw [hlen]
      have HBS := Lib.hid (show W.heap.size ≤ w6.heap.size from Nat.le_trans HBW.out.size HB6.out.size)
      clear hlen
      go_wp2_with (first
        | (go_at_call 34; refine C.out.mono ?_; rintro e w' ⟨rfl, rfl⟩)
        | (refine wpList_append_reads _ rfl _ _ 24 rfl W.heap.size 3 i0 (.int .i64 0) 8 Tryd.underlying24 HI.out.1 HI.out.2.1 HI.out.2.2.1 HI.out.2.2.2 rfl (.slice ao5 (m + j) cap5) (vals (xs.take m ++ (ps.take j).map (val V))) rfl HO6.out (.slice (some ⟨g6, 0, none⟩) 1 1) [y] rfl HROW.out (by rw [HLE.out]; exact len_ok HM.out.1 HM.out.2.1 hj) (by rw [HLE.out]; exact len_ok8 HM.out.1 HM.out.2.1 hj) HBS.out ?_; intro v2 w7 ho _ ht hk; have HO7 := Lib.hid ho; have HT7 := Lib.hid ht; have HK7 := Lib.hid hk; clear ho ht hk))
      go_roundg (n - (j + 1))
      case measure => omega
      case rel => exact ⟨j + 1, rfl, by omega, by go_num, Lib.hid (by rw [HTK.out, ← List.append_assoc, vals, List.map_append]; exact HO7.out), Lib.hid ((HT.out.trans (Stirred.of_below HB6.out []) (fun k hk => (by cases hk))).trans HT7.out (fun b hb => by
        rcases HK.out b (Option.mem_toList.1 hb) with h | h
        · exact .inl (Option.mem_toList.2 h)
        · exact .inr h)), Lib.hid (fun b e => by
        rcases HK7.out with h | ⟨b', h, hh⟩
        · exact HK.out b (h ▸ e)
        · rw [h] at e; cases e; exact .inr (by have h1 := HT.out.size; have h2 := HB6.out.size; omega))⟩
    · obtain rfl : j = n := by omega
      have HO2 := Lib.hid (show Owns wr W.heap.size 3 _ (vals (xs.take m ++ ps.map (val V))) by have h := HO.out; rw [List.take_of_length_le (Nat.le_of_eq HN.out)] at h; exact h)
      go_wp2
      go_ret
      exact ⟨_, rfl, HO2.out, HT.out, HK.out⟩
end Go.Proofs.YtbiinnfkokaadaaDoor.Ev
