
/- The document's own weave: any word of control. -/
import Derived.Test.YtcpdhfigaoaohaaDoorWvRefWays5
namespace Go.Proofs.YtcpdhfigaoaohaaDoor.WvR
open Go.RowKit Book Book.Wide Mem Wv
theorem rform_any {w : World} {B p : Nat} {bs : List Nat} {m : M} (h : RAt w B p bs m) (hB : B ≤ w.heap.size) (s : ByteArray) (hs : s.size ≤ 1000) (hl : m.l.length < 1000) : Calls Tryd.prog 15 #[.pointer (some ⟨p, 0, none⟩), .string s] w (RDid w B p bs (.int .i64 (form (word s) m).1) (form (word s) m).2) := by
  by_cases e1 : up s = ⟨#[73, 70]⟩
  · rw [show word s = 1 by unfold word; rw [if_pos e1]]; exact rform1 h hB s hs hl e1
  by_cases e2 : up s = ⟨#[69, 76, 83, 69]⟩
  · rw [show word s = 2 by unfold word; rw [if_neg e1, if_pos e2]]; exact rform2 h hB s hs hl e2
  by_cases e3 : up s = ⟨#[84, 72, 69, 78]⟩
  · rw [show word s = 3 by unfold word; rw [if_neg e1, if_neg e2, if_pos e3]]; exact rform3 h hB s hs hl e3
  by_cases e4 : up s = ⟨#[66, 69, 71, 73, 78]⟩
  · rw [show word s = 4 by unfold word; rw [if_neg e1, if_neg e2, if_neg e3, if_pos e4]]; exact rform4 h hB s hs hl e4
  by_cases e5 : up s = ⟨#[85, 78, 84, 73, 76]⟩
  · rw [show word s = 5 by unfold word; rw [if_neg e1, if_neg e2, if_neg e3, if_neg e4, if_pos e5]]; exact rform5 h hB s hs hl e5
  by_cases e6 : up s = ⟨#[65, 71, 65, 73, 78]⟩
  · rw [show word s = 6 by unfold word; rw [if_neg e1, if_neg e2, if_neg e3, if_neg e4, if_neg e5, if_pos e6]]; exact rform6 h hB s hs hl e6
  by_cases e7 : up s = ⟨#[87, 72, 73, 76, 69]⟩
  · rw [show word s = 7 by unfold word; rw [if_neg e1, if_neg e2, if_neg e3, if_neg e4, if_neg e5, if_neg e6, if_pos e7]]; exact rform7 h hB s hs hl e7
  by_cases e8 : up s = ⟨#[82, 69, 80, 69, 65, 84]⟩
  · rw [show word s = 8 by unfold word; rw [if_neg e1, if_neg e2, if_neg e3, if_neg e4, if_neg e5, if_neg e6, if_neg e7, if_pos e8]]; exact rform8 h hB s hs hl e8
  by_cases e9 : up s = ⟨#[68, 79]⟩
  · rw [show word s = 9 by unfold word; rw [if_neg e1, if_neg e2, if_neg e3, if_neg e4, if_neg e5, if_neg e6, if_neg e7, if_neg e8, if_pos e9]]; exact rform9 h hB s hs hl e9
  by_cases e10 : up s = ⟨#[76, 79, 79, 80]⟩
  · rw [show word s = 10 by unfold word; rw [if_neg e1, if_neg e2, if_neg e3, if_neg e4, if_neg e5, if_neg e6, if_neg e7, if_neg e8, if_neg e9, if_pos e10]]; exact rform10 h hB s hs hl e10
  by_cases e11 : up s = ⟨#[43, 76, 79, 79, 80]⟩
  · rw [show word s = 11 by unfold word; rw [if_neg e1, if_neg e2, if_neg e3, if_neg e4, if_neg e5, if_neg e6, if_neg e7, if_neg e8, if_neg e9, if_neg e10, if_pos e11]]; exact rform11 h hB s hs hl e11
  have e0 : word s = 0 := by unfold word; rw [if_neg e1, if_neg e2, if_neg e3, if_neg e4, if_neg e5, if_neg e6, if_neg e7, if_neg e8, if_neg e9, if_neg e10, if_neg e11]
  rw [e0]; exact rform0 h hB s hs hl e0
end Go.Proofs.YtcpdhfigaoaohaaDoor.WvR
