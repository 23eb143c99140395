
/- A book that keeps lists of one kind alone (Ints): is each as it was, and apart from the others? -/
import Derived.Test.YtcpdhfigaoaohaaDoorBookPutInts
import Derived.Test.YtcpdhfigaoaohaaDoorBookGrowInts
import Derived.Test.YtcpdhfigaoaohaaDoorBookMarkedInts
import Derived.Test.YtcpdhfigaoaohaaDoorBookNone
import Derived.Test.YtcpdhfigaoaohaaDoorBookDone
namespace Go.Proofs.YtcpdhfigaoaohaaDoor
open Go.RowKit Book
set_option linter.unusedSimpArgs false
set_option linter.unusedVariables false
/-- a book that keeps one kind alone -/
structure BookInts (w : World) (p : Nat) (vS : Value) : Prop where
  c2 : w.cell? ⟨p, 2, none⟩ = some vS
  c0 : w.cell? ⟨p, 0, none⟩ = some (.slice none 0 0)
  c4 : w.cell? ⟨p, 4, none⟩ = some (.slice none 0 0)
  c6 : w.cell? ⟨p, 6, none⟩ = some (.slice none 0 0)
  c8 : w.cell? ⟨p, 8, none⟩ = some (.slice none 0 0)
  c10 : w.cell? ⟨p, 10, none⟩ = some (.slice none 0 0)
theorem BookInts.stirred {w w' : World} {bs : List Nat} {p : Nat} {vS : Value} (h : BookInts w p vS) (ht : Stirred w w' bs) (hn : p ∉ bs) : BookInts w' p vS :=
  ⟨ht.cell hn h.c2, ht.cell hn h.c0, ht.cell hn h.c4, ht.cell hn h.c6, ht.cell hn h.c8, ht.cell hn h.c10⟩
set_option maxHeartbeats 4000000 in
theorem apartInts_any (p B : Nat) (vS vW : Value) (ls : List (Value × List Value)) (w : World) (hp : p < B) (hB : B ≤ w.heap.size) (hb : BookInts w p vS) (c1 : w.cell? ⟨p, 3, none⟩ = some vW) (bs : List Nat) (hk : Kept w B 22 3 goodInts vS vW ls bs) :
    Calls Tryd.prog 22 #[.pointer (some ⟨p, 0, none⟩)] w fun e w' => e = .returned (.bool true) ∧ Below B w w' := by
  have hlen : ∀ k ∈ ls, k.2.length ≤ 1000000 := fun k hkm => by obtain ⟨ss, h1, h2⟩ := hk.fine k hkm; rw [h1, List.length_map]; exact h2
  have HK := Lib.hid hk
  have HL := Lib.hid hlen
  have HT := Lib.hid hb
  have HC1 := Lib.hid c1
  have hpb := Lib.hid (fun h => Nat.lt_irrefl p (Nat.lt_of_lt_of_le hp (hk.lists.lt p h).1) : p ∉ blocks ls)
  clear hlen hb c1 hk
  go_enter Tryd.func22, Tryd.ntmps22
  have C := Lib.hid (stillTexts_none p w HT.out.c0)
  go_wp2_with fail
  refine C.out.mono ?_
  rintro e wz ⟨rfl, hwz⟩
  subst wz
  clear C
  have C := Lib.hid (stillInts_any p B vS vW ls w HT.out.c2 HC1.out bs HK.out)
  go_wp2_with fail
  refine C.out.mono ?_
  rintro e w0 ⟨rfl, q, hq⟩
  have hs0 : Stirred w w0 [] := by rw [hq]; exact Stirred.drewN _ _ _
  have HS0 := Lib.hid hs0
  have HB0 := Lib.hid (show Below w.heap.size w w0 by rw [hq]; exact bk_below_drewN _ _ _)
  have T0 := Lib.hid (HT.out.stirred hs0 List.not_mem_nil)
  have L0 := Lib.hid (HK.out.lists.below HB0.out)
  clear hq hs0 C
  have C := Lib.hid (stillWords_none p w0 T0.out.c4)
  go_wp2_with fail
  refine C.out.mono ?_
  rintro e wz ⟨rfl, hwz⟩
  subst wz
  clear C
  have C := Lib.hid (stillSeens_none p w0 T0.out.c6)
  go_wp2_with fail
  refine C.out.mono ?_
  rintro e wz ⟨rfl, hwz⟩
  subst wz
  clear C
  have C := Lib.hid (stillCodes_none p w0 T0.out.c8)
  go_wp2_with fail
  refine C.out.mono ?_
  rintro e wz ⟨rfl, hwz⟩
  subst wz
  clear C
  have C := Lib.hid (stillExits_none p w0 T0.out.c10)
  go_wp2_with fail
  refine C.out.mono ?_
  rintro e wz ⟨rfl, hwz⟩
  subst wz
  clear C
  have C := Lib.hid (putExits_none p w0 T0.out.c10)
  go_wp2_with fail
  refine C.out.mono ?_
  rintro e wz ⟨rfl, hwz⟩
  subst wz
  clear C
  have C := Lib.hid (putTexts_none p w0 T0.out.c0)
  go_wp2_with fail
  refine C.out.mono ?_
  rintro e wz ⟨rfl, hwz⟩
  subst wz
  clear C
  have C := Lib.hid (putInts_any p B vS ls w0 hp T0.out.c2 L0.out HK.out.few HL.out)
  go_wp2_with fail
  refine C.out.mono ?_
  rintro e w1 ⟨rfl, cur, hd, hl, ht⟩
  have D1 := Lib.hid hd
  have L1 := Lib.hid hl
  have S1 := Lib.hid ((HS0.out.more (fun _ h => (by cases h))).trans ht (fun k hk => .inl hk) : Stirred w w1 (blocks ls))
  have T1 := Lib.hid (T0.out.stirred ht hpb.out)
  clear C hd hl ht
  have C := Lib.hid (putWords_none p w1 T1.out.c4)
  go_wp2_with fail
  refine C.out.mono ?_
  rintro e wz ⟨rfl, hwz⟩
  subst wz
  clear C
  have C := Lib.hid (putSeens_none p w1 T1.out.c6)
  go_wp2_with fail
  refine C.out.mono ?_
  rintro e wz ⟨rfl, hwz⟩
  subst wz
  clear C
  have C := Lib.hid (putCodes_none p w1 T1.out.c8)
  go_wp2_with fail
  refine C.out.mono ?_
  rintro e wz ⟨rfl, hwz⟩
  subst wz
  clear C
  have C := Lib.hid (growTexts_none p w1 T1.out.c0)
  go_wp2_with fail
  refine C.out.mono ?_
  rintro e wz ⟨rfl, hwz⟩
  subst wz
  clear C
  have hmk := Lib.hid (done_marks D1.out (fun i n => intMarks_length i 0 n) 1000000 HL.out)
  have C := Lib.hid (growInts_any p B vS cur w1 hp (Nat.le_trans hB S1.out.size) T1.out.c2 L1.out (by rw [D1.out.len]; exact HK.out.few) (fun k hk => by obtain ⟨i, hi⟩ := List.getElem?_of_mem hk; exact (hmk.out i k hi).2) (fun i k hi => (hmk.out i k hi).1))
  go_wp2_with fail
  refine C.out.mono ?_
  rintro e w2 ⟨vO, gs, rfl, hg⟩
  have G2 := Lib.hid hg
  have hst : Stirred w1 w2 (blocks ls) := by have := hg.stir; rw [D1.out.blocks] at this; exact this
  have S2 := Lib.hid (S1.out.trans hst (fun k hk => .inl hk))
  have T2 := Lib.hid (T1.out.stirred hst hpb.out)
  clear C hg hst
  have C := Lib.hid (growWords_none p w2 T2.out.c4)
  go_wp2_with fail
  refine C.out.mono ?_
  rintro e wz ⟨rfl, hwz⟩
  subst wz
  clear C
  have C := Lib.hid (growSeens_none p w2 T2.out.c6)
  go_wp2_with fail
  refine C.out.mono ?_
  rintro e wz ⟨rfl, hwz⟩
  subst wz
  clear C
  have C := Lib.hid (growCodes_none p w2 T2.out.c8)
  go_wp2_with fail
  refine C.out.mono ?_
  rintro e wz ⟨rfl, hwz⟩
  subst wz
  clear C
  have C := Lib.hid (growExits_none p w2 T2.out.c10)
  go_wp2_with fail
  refine C.out.mono ?_
  rintro e wz ⟨rfl, hwz⟩
  subst wz
  clear C
  have c0 := T2.out.c0
  have c2 := T2.out.c2
  have c4 := T2.out.c4
  have c6 := T2.out.c6
  have c8 := T2.out.c8
  have c10 := T2.out.c10
  have C := Lib.hid (markedTexts_none w2)
  go_wp2_with fail
  refine C.out.mono ?_
  rintro e wz ⟨rfl, hwz⟩
  subst wz
  clear C
  have C := Lib.hid (markedTexts_none w2)
  go_wp2_with fail
  refine C.out.mono ?_
  rintro e wz ⟨rfl, hwz⟩
  subst wz
  clear C
  clear c0 c2 c4 c6 c8 c10
  have hlg := Lib.hid (show gs.length ≤ 250 by rw [G2.out.len, D1.out.len]; exact HK.out.few)
  have C := Lib.hid (markedInts_any B vO gs w2 (G2.out.out.from (Nat.le_trans hB S1.out.size)) G2.out.list hlg.out G2.out.mark)
  go_wp2_with fail
  refine C.out.mono ?_
  rintro e w3 ⟨rfl, hb⟩
  have S3 := Lib.hid (S2.out.trans (Stirred.of_below hb []) (fun _ h => (by cases h)))
  have T3 := Lib.hid (T2.out.stirred (Stirred.of_below hb []) List.not_mem_nil)
  have L3 := Lib.hid (G2.out.old.below hb)
  clear C hb
  have c0 := T3.out.c0
  have c2 := T3.out.c2
  have c4 := T3.out.c4
  have c6 := T3.out.c6
  have c8 := T3.out.c8
  have c10 := T3.out.c10
  have C := Lib.hid (markedInts_any B vS cur w3 L3.out.spine L3.out.list (by rw [D1.out.len]; exact HK.out.few) (fun i k hi => ⟨(hmk.out i k hi).1, Nat.le_trans (hmk.out i k hi).2 (by decide)⟩))
  go_wp2_with fail
  refine C.out.mono ?_
  rintro e w4 ⟨rfl, hb⟩
  have S4 := Lib.hid (S3.out.trans (Stirred.of_below hb []) (fun _ h => (by cases h)))
  have T4 := Lib.hid (T3.out.stirred (Stirred.of_below hb []) List.not_mem_nil)
  clear C hb
  clear c0 c2 c4 c6 c8 c10
  have c0 := T4.out.c0
  have c2 := T4.out.c2
  have c4 := T4.out.c4
  have c6 := T4.out.c6
  have c8 := T4.out.c8
  have c10 := T4.out.c10
  have C := Lib.hid (markedWords_none w4)
  go_wp2_with fail
  refine C.out.mono ?_
  rintro e wz ⟨rfl, hwz⟩
  subst wz
  clear C
  have C := Lib.hid (markedWords_none w4)
  go_wp2_with fail
  refine C.out.mono ?_
  rintro e wz ⟨rfl, hwz⟩
  subst wz
  clear C
  have C := Lib.hid (markedSeens_none w4)
  go_wp2_with fail
  refine C.out.mono ?_
  rintro e wz ⟨rfl, hwz⟩
  subst wz
  clear C
  have C := Lib.hid (markedSeens_none w4)
  go_wp2_with fail
  refine C.out.mono ?_
  rintro e wz ⟨rfl, hwz⟩
  subst wz
  clear C
  have C := Lib.hid (markedCodes_none w4)
  go_wp2_with fail
  refine C.out.mono ?_
  rintro e wz ⟨rfl, hwz⟩
  subst wz
  clear C
  have C := Lib.hid (markedCodes_none w4)
  go_wp2_with fail
  refine C.out.mono ?_
  rintro e wz ⟨rfl, hwz⟩
  subst wz
  clear C
  have C := Lib.hid (markedExits_none w4)
  go_wp2_with fail
  refine C.out.mono ?_
  rintro e wz ⟨rfl, hwz⟩
  subst wz
  clear C
  have C := Lib.hid (markedExits_none w4)
  go_wp2_with fail
  refine C.out.mono ?_
  rintro e wz ⟨rfl, hwz⟩
  subst wz
  clear C
  go_wp2
  go_ret
  exact ⟨rfl, S4.out.below (fun k hk => (HK.out.lists.lt k hk).1) hB⟩
end Go.Proofs.YtcpdhfigaoaohaaDoor
