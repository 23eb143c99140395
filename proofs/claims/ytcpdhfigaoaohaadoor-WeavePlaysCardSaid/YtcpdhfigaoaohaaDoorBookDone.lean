
/- Lists that were marked bear marks. -/
import Derived.Test.YtcpdhfigaoaohaaDoorBookPlain
namespace Go.Proofs.YtcpdhfigaoaohaaDoor
open Book
theorem done_marks {ls cur : List (Value × List Value)} {mk : Nat → Nat → List Value} (h : Done mk ls ls.length cur) (hm : ∀ i n, (mk i n).length = n) (most : Nat) (hl : ∀ k ∈ ls, k.2.length ≤ most) : ∀ i k, cur[i]? = some k → k.2 = mk i k.2.length ∧ k.2.length ≤ most := by
  intro i k hk
  have hi : i < ls.length := by rw [← h.len]; exact (List.getElem?_eq_some_iff.1 hk).1
  have h1 : ls[i]? = some ls[i] := List.getElem?_eq_getElem hi
  have h2 := h.done i _ hi h1
  rw [hk] at h2
  simp only [Option.some.injEq] at h2
  subst h2
  dsimp only
  rw [hm]
  exact ⟨rfl, hl _ (List.mem_of_getElem? h1)⟩
end Go.Proofs.YtcpdhfigaoaohaaDoor
