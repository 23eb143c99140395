
/- Package pile: making, reading, copying, of a stack and of none. -/
import Derived.Test.YtcpdhfigaoaohaaDoorPilePlain
import Derived.Test.YtcpdhfigaoaohaaDoorCloneInts
import Derived.Test.YtcpdhfigaoaohaaDoorBookInts
import Derived.Laws.Cover3
import Derived.Lib.MinMax
import Derived.Lib.SliceRun
import Derived.Laws.CopyOwn
import Derived.Laws.AppendOwnNone
import Derived.BigQuiet
import Derived.Deep.QuietTactic
namespace Go.Proofs.YtcpdhfigaoaohaaDoor
open Go.RowKit Book Mem
set_option linter.unusedSimpArgs false
set_option linter.unusedVariables false
theorem Mem.stirred_setRow (w : World) (g : Nat) (cs : Array Value) : Stirred w (w.setRow g cs) [g] :=
  ⟨rfl, rfl, rfl, by simp, fun k hk hn => setRow_other w g k cs (by simpa using hn)⟩
/-- 'copy(x[off:], l)' into a block that is known whole -/
theorem wpList_copy_reads {P : Program} {w : World} {ops : Array Oper} {rest : List Oper} {o : Oper} {a : Act} {Q : Exit → Act → World → Prop} (hgd : o.guard = none) (d s : Operand) (dT sT : TypeId)
    (ho : o.op = .call { callee := .builtin .copy, args := #[d, s], argTypes := #[dT, sT] }) (elem : TypeId) (hu : P.underlying dT = some (.slice elem)) (hsz : (P.info? elem).map (·.size) = some 1)
    (dp : Option Addr) (dLen dCap : Nat) (hd : a.eval d = .slice dp dLen dCap) (v : Value) (xs : List Int) (hs : a.eval s = v) (hr : Reads w v xs)
    (g off : Nat) (cur : List Int) (t : TypeId) (hg : w.heap[g]? = some (.cells (vals cur).toArray t (0, 0))) (hp : 0 < min xs.length dLen → dp = some ⟨g, off, none⟩) (hfit : off + min xs.length dLen ≤ cur.length)
    (h : ∀ w', w'.heap[g]? = some (.cells (vals (splice cur off (xs.take dLen))).toArray t (0, 0)) → Stirred w w' [g] → wpList P ops Q rest (a.put o.dst (.int .i64 (min xs.length dLen : Nat))) w') :
    wpList P ops Q (o :: rest) a w := by
  obtain ⟨ao, cap, rfl, hc⟩ := hr
  have hl : (vals (xs.take dLen)).length = Nat.min xs.length dLen := by rw [vals_length, List.length_take, Nat.min_comm]
  by_cases h0 : min xs.length dLen = 0
  · have hx : xs.take dLen = [] := List.eq_nil_of_length_eq_zero (by rw [List.length_take, Nat.min_comm]; exact h0)
    refine wpList_copy_nothing hgd d s dT sT ho elem hu hsz dp ao dLen dCap xs.length cap hd hs h0 ?_
    have := h w (by rw [hx]; simpa [splice] using hg) (Stirred.refl _ _)
    rw [h0] at this
    exact this
  · have hxl : 0 < xs.length := by omega
    obtain ⟨ad, rfl, _⟩ := hc 0 xs[0] (List.getElem?_eq_getElem hxl)
    have hd' := hp (by omega)
    subst hd'
    refine wpList_copy_own hgd d s dT sT ho elem hu hsz g off dLen dCap ad xs.length cap hd hs (vals cur).toArray t hg (vals (xs.take dLen)) hl (fun j v hj => ?_) (by rw [hl]; simpa using hfit) (vals_one _) ?_
    · simp only [vals, List.getElem?_map, Option.map_eq_some_iff] at hj
      obtain ⟨x, hx, rfl⟩ := hj
      rw [List.getElem?_take] at hx
      split at hx
      · obtain ⟨a', e, hx'⟩ := hc j x hx
        simp only [Option.some.injEq] at e
        subst e
        exact hx'
      · cases hx
    · have hgo : goInt ((vals (xs.take dLen)).length : Nat) = .int .i64 (min xs.length dLen : Nat) := by rw [hl]; rfl
      rw [hgo]
      refine h _ ?_ (stirred_setRow _ _ _)
      rw [setRow_heap w g _ _ _ _ hg]
      have := splice_vals cur (xs.take dLen) off
      unfold splice at this
      simp only [this]
      rfl
theorem row_whole {w : World} {B E g n : Nat} {xs : List Value} (h : w.ownsRow B E 1 (.slice (some ⟨g, 0, none⟩) n n) n xs) : w.heap[g]? = some (.cells xs.toArray E (0, 0)) := by
  have hn := h.1
  rcases h.2 with ⟨e, _⟩ | ⟨g', cap, cur, e, h2, h3, h4, h5, h6, h7⟩
  · cases e
  · simp only [Value.slice.injEq, Option.some.injEq, Addr.mk.injEq, and_true, true_and] at e
    obtain ⟨rfl, rfl⟩ := e
    rw [h3]
    congr 2
    apply Array.toList_inj.1
    rw [← h7, List.take_of_length_le (by simp; omega)]
theorem Tryd.piIntSize : (Tryd.prog.info? 3).map (·.size) = some 1 := by kernel_rfl
section
variable {w : World} {B p g room : Nat} {cs : List Int}
end
end Go.Proofs.YtcpdhfigaoaohaaDoor
