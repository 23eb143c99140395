
/- RecordRight: the walk. -/
import Derived.Test.YtcffbeihgchpgaaGreatDoorRecAlive
import Derived.Test.YtcffbeihgchpgaaGreatDoorRecRef
import Derived.Test.YtcffbeihgchpgaaGreatDoorRecLent
namespace Go.Proofs.YtcffbeihgchpgaaGreatDoor.RecordRight
open Go.RowKit Book Book.Wide Mem Mach Inn Rec
set_option linter.unusedVariables false
set_option linter.unusedSimpArgs false
def Yes (w : World) (e : Ending) (w' : World) : Prop := e = .returned (.bool true) ∧ Below w.heap.size w w'
theorem one_seens : (Tryz.prog.info? 37).map (·.size) = some 1 := by kernel_rfl
theorem eight {w : World} {b7 b8 : Nat} {s l : Int} {o : Bool} {vx vy : Value} (h7 : w.heap[b7]? = some (.cells #[.int .i64 s, .int .i64 l, .bool o, vx] 39 (0, 0))) (h8 : w.heap[b8]? = some (.cells #[.int .i64 s, .int .i64 l, .bool o, vy] 39 (0, 0))) : w.cell? ⟨b7, 0, none⟩ = some (.int .i64 s) ∧ w.cell? ⟨b7, 1, none⟩ = some (.int .i64 l) ∧ w.cell? ⟨b7, 2, none⟩ = some (.bool o) ∧ w.cell? ⟨b7, 3, none⟩ = some vx ∧ w.cell? ⟨b8, 0, none⟩ = some (.int .i64 s) ∧ w.cell? ⟨b8, 1, none⟩ = some (.int .i64 l) ∧ w.cell? ⟨b8, 2, none⟩ = some (.bool o) ∧ w.cell? ⟨b8, 3, none⟩ = some vy :=
  ⟨whole_cell h7 rfl, whole_cell h7 rfl, whole_cell h7 rfl, whole_cell h7 rfl, whole_cell h8 rfl, whole_cell h8 rfl, whole_cell h8 rfl, whole_cell h8 rfl⟩
section
variable {ops : Array Oper} {rest : List Oper} {o : Oper} {a : Act} {w : World} {Q : Exit → Act → World → Prop}
theorem ld_rec (hw : Region.wanted o (yielded ops a.tmps) = true) (x : Operand) (ho : o.op = .load 39 x) (g : Nat) (hx : a.eval x = .pointer (some ⟨g, 0, none⟩)) (r : R) (v : Value) (hg : w.heap[g]? = some (.cells (recA r v) 39 (0, 0)))
    (h : wpList Tryz.prog ops Q rest (a.put o.dst (recV r v)) w) : wpList Tryz.prog ops Q (o :: rest) a w :=
  wpList_getbox hw _ x ho _ Tryz.underlying39 rfl g hx (recA r v) _ hg rec_size h
end
set_option maxHeartbeats 16000000 in
set_option maxRecDepth 100000 in
theorem main (v : Value) (r : R) (W : World) (hl : ∃ u, v = recV r u ∧ ReadsS W u r.steps) (hE : ∀ wc, Below W.heap.size W wc → Tabs wc) :
    Calls Tryz.prog 4 #[v] W (Yes W) := by
  obtain ⟨u, rfl, hu⟩ := hl
  have HU := Lib.hid hu
  have HE := Lib.hid hE
  obtain ⟨uo, uc, rfl, -⟩ := hu
  obtain ⟨n, hn⟩ : ∃ n, r.steps.length = n := ⟨_, rfl⟩
  have HN := Lib.hid hn
  rw [hn] at HU ⊢
  obtain ⟨w1, g, hw1, hg, HG1, HB1, HZ1⟩ := newBox W (recA r (.slice uo n uc)) 39
  have g3 : w1.cell? ⟨g, 3, none⟩ = some (.slice uo n uc) := whole_cell HG1.out rfl
  have A := Lib.hid (Rec.alive_any w1 (fun wc hbc => HE.out wc (HB1.out.trans (hbc.mono HB1.out.size))))
  clear hE hn
  by_cases hbig : 200 < n
  · have d1 : decide (200 < (n : Int)) = true := decide_eq_true (by omega)
    clear hbig
    go_enter Tryz.func4, Tryz.ntmps4
    go_wp2_with fail
    refine A.out.mono ?_
    rintro e w3 ⟨rfl, hb⟩
    have HB3 := Lib.hid (HB1.out.trans (hb.mono HB1.out.size))
    clear hb A
    go_wp2
    go_ret
    exact ⟨rfl, HB3.out⟩
  have d1 : decide (200 < (n : Int)) = false := decide_eq_false (by omega)
  have HNS := Lib.hid (show n ≤ 200 by omega)
  clear hbig
  go_enter Tryz.func4, Tryz.ntmps4
  go_wp2_with fail
  refine A.out.mono ?_
  rintro e w3 ⟨rfl, hb⟩
  have HG3 := Lib.hid (boxOn HG1.out hb)
  have HB3 := Lib.hid (HB1.out.trans (hb.mono HB1.out.size))
  obtain ⟨w4, rb, hw4, hrb, HR4, HB34, HZ4⟩ := newBox w3 recZ 39
  have HG4 := Lib.hid (boxOn HG3.out HB34.out)
  have HB4 := Lib.hid (HB3.out.trans (HB34.out.mono HB3.out.size))
  have NR := Lib.hid (show g ≠ rb ∧ W.heap.size ≤ rb by have h1 := HZ4.out; have h2 := whole_lt HG3.out; have h3 := HB3.out.size; omega)
  clear hb A hw1 hg g3
  go_wp2_with (first
    | (refine ld_rec (by rfl) _ rfl g rfl r (.slice uo n uc) HG3.out ?_)
    | (refine st_rec (by rfl) _ _ rfl rb r (.slice uo n uc) rfl rfl rfl _ HR4.out rfl ?_; intro w5 h5 ht5; have HR5 := Lib.hid h5; have HG5 := Lib.hid (ht5.whole HG4.out (fun hm => NR.out.1 (List.mem_singleton.1 hm))); have HB5 := Lib.hid (HB4.out.trans (ht5.below (fun k hk => by rw [List.mem_singleton.1 hk]; exact NR.out.2) HB4.out.size)); have g3 := whole_cell (j := 3) HG5.out rfl; have C := Lib.hid (lentSeens_any (.slice uo n uc) r.steps w5 (HU.out.below HB5.out) (by rw [HN.out]; have := HNS.out; omega)); clear h5 ht5 hw4 hrb))
  rw [HN.out] at C
  refine C.out.mono ?_
  rintro e w6 ⟨lg, lc, rfl, hL, hcap, hb⟩
  have HL6 := Lib.hid hL
  have HCP := Lib.hid hcap
  have HR6 := Lib.hid (boxOn HR5.out hb)
  have HG6 := Lib.hid (boxOn HG5.out hb)
  have HB6 := Lib.hid (HB5.out.trans (hb.mono HB5.out.size))
  have NL := Lib.hid (show ∀ k, blk (.slice (some ⟨lg, 0, none⟩) n lc) = some k → k ≠ rb from fun k hk e => by
    have h1 := (OwnsK.block hL.owns k (by rw [HN.out]; exact hk)).1
    have h2 := whole_lt HR5.out
    omega)
  clear hL hcap hb C g3
  obtain ⟨bb, hbb⟩ : ∃ bb, rightR r = bb := ⟨_, rfl⟩
  have HBB := Lib.hid hbb
  clear hbb
  go_wp2_with (refine wpList_setf (by rfl) _ _ _ rfl one_seens rb 3 rfl (.slice (some ⟨lg, 0, none⟩) n lc) rfl rfl (recA r (.slice uo n uc)) _ HR6.out (by show 3 < 4; decide) ?_; intro w7 h7 ht7)
  have H7 := Lib.hid (show w7.heap[rb]? = some (.cells #[.int .i64 r.start, .int .i64 r.last, .bool r.loop, .slice (some ⟨lg, 0, none⟩) n lc] 39 (0, 0)) from h7)
  have H8 := Lib.hid (show w7.heap[g]? = some (.cells #[.int .i64 r.start, .int .i64 r.last, .bool r.loop, .slice uo n uc] 39 (0, 0)) from ht7.whole HG6.out (fun hm => NR.out.1 (List.mem_singleton.1 hm)))
  have HB7 := Lib.hid (HB6.out.trans (ht7.below (fun k hk => by rw [List.mem_singleton.1 hk]; exact NR.out.2) HB6.out.size))
  have HL7 := Lib.hid (show LentS w7 w5.heap.size lg lc r.steps from OwnsK.touch HL6.out ht7 (fun k hk hm => by
    rw [List.mem_singleton] at hm
    have h1 := (OwnsK.block HL6.out k hk).1
    have h2 := whole_lt HR5.out
    omega))
  have CA := Lib.hid (fun wd (hbd : Below w7.heap.size w7 wd) => show Calls Tryz.prog 15 #[recV r (.slice (some ⟨lg, 0, none⟩) n lc)] wd (Says (.bool bb) wd) from by
    have h1 := HL7.out.owns
    rw [HN.out] at h1
    rw [← HBB.out]
    exact recRight_any (ReadsS.of_owns (h1.below hbd)) (by rw [HN.out]; have := HNS.out; omega))
  have CB := Lib.hid (fun wd (hbd : Below w7.heap.size w7 wd) => show Calls Tryz.prog 27 #[recV r (.slice uo n uc)] wd (Says (.bool bb) wd) from by
    rw [← HBB.out]
    exact recorded_any ((HU.out.below HB7.out).below hbd) (by rw [HN.out]; have := HNS.out; omega))
  have CS := Lib.hid (fun wd (hbd : Below w7.heap.size w7 wd) => show Calls Tryz.prog 28 #[.slice (some ⟨lg, 0, none⟩) n lc, .slice uo n uc] wd (Says (.bool true) wd) from by
    have h1 := staysSeens_any w5.heap.size lg lc (.slice uo n uc) r.steps wd (HL7.out.below hbd) ((HU.out.below HB7.out).below hbd) (by rw [HN.out]; have := HNS.out; omega) (by rw [HN.out]; exact HCP.out)
    rw [HN.out] at h1
    exact h1.mono fun e w' h => ⟨h.1, by obtain ⟨q, hq⟩ := h.2; rw [hq]; exact bk_below_drewN _ _ _⟩)
  have HBX := Lib.hid (show Below w7.heap.size w7 w7.drew from (Below.refl _ _).drew)
  have KX := Lib.hid (eight H7.out H8.out)
  obtain ⟨k1, k2, k3, k4, k5, k6, k7, k8⟩ := eight H7.out H8.out
  have HBF := Lib.hid HB7.out
  clear h7 ht7 HR6 HG6 HB6 HR5 HG5 HB5 HL6
  cases bb
  all_goals
    go_region_held3 (fun w' => w'.cell? ⟨rb, 0, none⟩ = some (.int .i64 r.start) ∧ w'.cell? ⟨rb, 1, none⟩ = some (.int .i64 r.last) ∧ w'.cell? ⟨rb, 2, none⟩ = some (.bool r.loop) ∧ w'.cell? ⟨rb, 3, none⟩ = some (.slice (some ⟨lg, 0, none⟩) n lc) ∧ w'.cell? ⟨g, 0, none⟩ = some (.int .i64 r.start) ∧ w'.cell? ⟨g, 1, none⟩ = some (.int .i64 r.last) ∧ w'.cell? ⟨g, 2, none⟩ = some (.bool r.loop) ∧ w'.cell? ⟨g, 3, none⟩ = some (.slice uo n uc))
      (exact KX.out)
      (first
      | (go_at_call 15; refine (CA.out _ HBX.out).mono ?_; rintro e wn ⟨rfl, hb⟩; have HBX := Lib.hid (HBX.out.trans (hb.mono HBX.out.size)); have KX := Lib.hid (eight (boxOn H7.out HBX.out) (boxOn H8.out HBX.out)); clear hb)
      | (go_at_call 27; refine (CB.out _ HBX.out).mono ?_; rintro e wn ⟨rfl, hb⟩; have HBX := Lib.hid (HBX.out.trans (hb.mono HBX.out.size)); have KX := Lib.hid (eight (boxOn H7.out HBX.out) (boxOn H8.out HBX.out)); clear hb)
      | (go_at_call 28; refine (CS.out _ HBX.out).mono ?_; rintro e wn ⟨rfl, hb⟩; have HBX := Lib.hid (HBX.out.trans (hb.mono HBX.out.size)); have KX := Lib.hid (eight (boxOn H7.out HBX.out) (boxOn H8.out HBX.out)); clear hb))
    all_goals
      go_wp2
      go_ret
      exact ⟨rfl, HBF.out.trans (HBX.out.mono HBF.out.size)⟩
end Go.Proofs.YtcffbeihgchpgaaGreatDoor.RecordRight
