/-
  Chapter 11's Do as the document's own reckoning has it: a book is asked for a key.
-/
import Derived.Test.YthhckpnnjegldafGreatFmtRefHapFront
import Derived.Test.YthhckpnnjegldafGreatFmtRefVals
import Derived.Test.YthhckpnnjegldafGreatFmtRefPath
import Derived.Test.YthhckpnnjegldafGreatFmtRefShows
namespace Go.Proofs.YthhckpnnjegldafGreatFmt
open Go Go.RowKit Go.Kit Go.Extern.Stop Go.Stop Go.Extern


set_option maxHeartbeats 16000000 in
set_option maxRecDepth 100000 in
theorem happened_key (W : WB) (a0 : Option Addr) (n0 c0 : Nat) (a1 : Option Addr) (n1 c1 : Nat) (a2 : Option Addr) (c2 : Nat) (s j i : Nat) (xe : Int) (xv : ByteArray) (w : World) (hW : WAt w a0 n0 c0 a1 n1 c1 a2 3 c2 W) (hG : worldE W = 0) (hs : s < 2) (hj : j < 3) (hi : i < 3) (hk : ¬ (0 ≤ xe ∧ xe < 16)) :
    Calls Tryz.prog 13 #[.agg #[.slice a0 n0 c0, .slice a1 n1 c1, .slice a2 3 c2], .agg #[.int .i64 5, .int .i64 s, .int .i64 j, .int .i64 i, .int .i64 xe, .string xv]] w fun e w' => ∃ b0 m0 d0 b1 m1 d1 b2 m2 d2, e = .returned (.tuple #[.agg #[.slice b0 m0 d0, .slice b1 m1 d1, .slice b2 m2 d2], .int .i64 (hapV W ⟨5, s, j, i, (xe, xv)⟩).2]) ∧ WAt w' b0 m0 d0 b1 m1 d1 b2 m2 d2 (hapV W ⟨5, s, j, i, (xe, xv)⟩).1 ∧ NewOr w a0 W.b0 b0 (hapV W ⟨5, s, j, i, (xe, xv)⟩).1.b0 ∧ NewOr w a1 W.b1 b1 (hapV W ⟨5, s, j, i, (xe, xv)⟩).1.b1 ∧ (∀ blk off, b2 = some ⟨blk, off, none⟩ → w.heap.size ≤ blk) ∧ Below w.heap.size w w' := by
  have hl3 := ((worldE_iff W).1 hG).2.2.1
  have hC := fun w1 hS => clone_clis W.cs a2 3 c2 w1 hl3 (by omega) (by omega) hS
  have HC := Lib.hid hC
  clear hC
  obtain ⟨q2, q3, q4, q0⟩ := boxes3 w (.cells #[.slice a0 n0 c0, .slice a1 n1 c1, .slice a2 3 c2] 28) (.cells #[.int .i64 5, .int .i64 s, .int .i64 j, .int .i64 i, .int .i64 xe, .string xv] 32) (.cells #[.slice none 0 0, .slice none 0 0, .slice none 0 0] 28)
  have hb0 := below3 w (.cells #[.slice a0 n0 c0, .slice a1 n1 c1, .slice a2 3 c2] 28) (.cells #[.int .i64 5, .int .i64 s, .int .i64 j, .int .i64 i, .int .i64 xe, .string xv] 32) (.cells #[.slice none 0 0, .slice none 0 0, .slice none 0 0] 28)
  have d3_0 := heap_cell q3 0 _ rfl
  have d3_1 := heap_cell q3 1 _ rfl
  have d3_2 := heap_cell q3 2 _ rfl
  have d3_3 := heap_cell q3 3 _ rfl
  go_enter Tryz.func13, Tryz.ntmps13
  go_wp2_with fail
  generalize (((w.alloc (.cells #[.slice a0 n0 c0, .slice a1 n1 c1, .slice a2 3 c2] 28)).alloc (.cells #[.int .i64 5, .int .i64 s, .int .i64 j, .int .i64 i, .int .i64 xe, .string xv] 32)).alloc (.cells #[.slice none 0 0, .slice none 0 0, .slice none 0 0] 28)) = w0 at q2 q3 q4 q0 hb0 d3_0 d3_1 d3_2 d3_3 ⊢
  refine (in_yes 5 1 5 w0 (by omega) (by omega)).mono ?_
  rintro e _ ⟨rfl, rfl⟩
  go_wp2_with fail
  refine (in_yes s 0 1 w0 (by omega) (by omega)).mono ?_
  rintro e _ ⟨rfl, rfl⟩
  go_wp2_with fail
  refine (in_yes j 0 2 w0 (by omega) (by omega)).mono ?_
  rintro e _ ⟨rfl, rfl⟩
  go_wp2_with fail
  refine (in_yes i 0 2 w0 (by omega) (by omega)).mono ?_
  rintro e _ ⟨rfl, rfl⟩
  have d2_2 := heap_cell q2 2 _ rfl
  go_wp2_with fail
  refine (HC.out w0 (hW.e2.on hb0)).mono ?_
  rintro e w1 ⟨g1, cap, rfl, hown, hb1⟩
  obtain ⟨cur, q9, hg1, hcap, hmax, hcur, hsz⟩ := own_cur hown
  have hg1 : w.heap.size + 1 + 1 + 1 ≤ g1 := by rw [q0] at hg1; exact hg1
  have q2 := heap_on hb1 q2
  have q3 := heap_on hb1 q3
  have q4 := heap_on hb1 q4
  have hb1 := below_on hb0 hb1
  clear hb0 hown d2_2 HC d3_0 d3_1 d3_2 d3_3
  have d2_2 := heap_cell q2 2 _ rfl
  have f2_2 := frozen_of_row w1 w.heap.size 2 _ _ q2
  go_upto_region 7 with fail
  clear d2_2 f2_2
  have p2 := heap_setCell_same w1 w.heap.size 2 _ _ (.slice (some ⟨g1, 0, none⟩) 3 cap) q2
  rw [show (#[.slice a0 n0 c0, .slice a1 n1 c1, .slice a2 3 c2] : Array Value).setIfInBounds 2 (.slice (some ⟨g1, 0, none⟩) 3 cap) = #[.slice a0 n0 c0, .slice a1 n1 c1, (.slice (some ⟨g1, 0, none⟩) 3 cap)] from rfl] at p2
  have p3 := (heap_setCell_other w1 ⟨w.heap.size, 2, none⟩ (w.heap.size + 1) (.slice (some ⟨g1, 0, none⟩) 3 cap) (by simp)).trans q3
  have p4 := (heap_setCell_other w1 ⟨w.heap.size, 2, none⟩ (w.heap.size + 1 + 1) (.slice (some ⟨g1, 0, none⟩) 3 cap) (by show _ ≠ w.heap.size; omega)).trans q4
  have p9 := (heap_setCell_other w1 ⟨w.heap.size, 2, none⟩ g1 (.slice (some ⟨g1, 0, none⟩) 3 cap) (by show _ ≠ w.heap.size; omega)).trans q9
  have hb2 : Below w.heap.size w (w1.setCell ⟨w.heap.size, 2, none⟩ (.slice (some ⟨g1, 0, none⟩) 3 cap)) := by rw [setCell_eq_setRow w1 w.heap.size 2 _ _ _ _ q2]; exact below_setRow hb1 (Nat.le_refl _) _
  generalize w1.setCell ⟨w.heap.size, 2, none⟩ (.slice (some ⟨g1, 0, none⟩) 3 cap) = w2 at p2 p3 p4 p9 hb2 ⊢
  clear q2 q3 q4 q9 hb1
  obtain ⟨sa, sn, sc, hsv, hsn, hsE⟩ := side_ents hW s
  have z0 := side_cell p2 hs
  rw [hsv] at z0
  obtain ⟨z1, z2, z3, z4⟩ := hcur.four p9 (i := j) (by omega)
  obtain ⟨cc, hcc⟩ : ∃ cc, cliOf W.cs j = cc := ⟨_, rfl⟩
  rw [hcc] at z1 z2 z3 z4
  obtain ⟨cn, ca, cb, cf⟩ := cc
  simp only at z1 z2 z3 z4
  have HJ := Lib.hid hcc
  clear hcc
  have hs1 : (s : Int) < 2 := by omega
  have hj1 : (j : Int) < 3 := by omega
  go_cut [7, 8] (fun t7 t8 w' => ∃ gb gc, t7 = .pointer (some ⟨gb, 0, none⟩) ∧ t8 = .pointer (some ⟨gc, 0, none⟩) ∧ gb ≠ gc ∧ w2.heap.size ≤ gb ∧ w2.heap.size ≤ gc ∧ w'.heap[gb]? = some (.cells #[.slice sa sn sc] 24) ∧ w'.heap[gc]? = some (.cells #[.int .i64 cn, .string ca, .string cb, .bool cf] 55) ∧ Below w2.heap.size w2 w')
  case first =>
    have d3_1 := heap_cell p3 1 _ rfl
    have d3_2 := heap_cell p3 2 _ rfl
    have d2_2 := heap_cell p2 2 _ rfl
    have k2 := (Array.getElem?_eq_some_iff.1 p2).1
    have k3 := (Array.getElem?_eq_some_iff.1 p3).1
    have k9 := (Array.getElem?_eq_some_iff.1 p9).1
    go_region
    all_goals
      go_wp2_with fail
      go_meet
      case rel => first
        | exact ⟨w2.heap.size, w2.heap.size + 1, rfl, rfl, by omega, by omega, by omega, (boxes2 w2 (.cells #[.slice sa sn sc] 24) (.cells #[.int .i64 cn, .string ca, .string cb, .bool cf] 55)).1, (boxes2 w2 (.cells #[.slice sa sn sc] 24) (.cells #[.int .i64 cn, .string ca, .string cb, .bool cf] 55)).2.1, (boxes2 w2 (.cells #[.slice sa sn sc] 24) (.cells #[.int .i64 cn, .string ca, .string cb, .bool cf] 55)).2.2.drew⟩
        | exact ⟨w2.heap.size + 1, w2.heap.size, rfl, rfl, by omega, by omega, by omega, (boxes2 w2 (.cells #[.int .i64 cn, .string ca, .string cb, .bool cf] 55) (.cells #[.slice sa sn sc] 24)).2.1, (boxes2 w2 (.cells #[.int .i64 cn, .string ca, .string cb, .bool cf] 55) (.cells #[.slice sa sn sc] 24)).1, (boxes2 w2 (.cells #[.int .i64 cn, .string ca, .string cb, .bool cf] 55) (.cells #[.slice sa sn sc] 24)).2.2.drew⟩
  case rest =>
    obtain ⟨gb, gc, rfl, rfl, hbc, hgb, hgc, p7, p8, hbr⟩ := hcut
    obtain ⟨w3, hw3⟩ : ∃ x, x = wc := ⟨_, rfl⟩
    subst hw3
    clear z0 z1 z2 z3 z4
    have y4 := (Array.getElem?_eq_some_iff.1 p4).1
    have p2 := heap_on hbr p2
    have p3 := heap_on hbr p3
    have p4 := heap_on hbr p4
    have p9 := heap_on hbr p9
    have hb3 := below_on hb2 hbr
    clear hb2 hbr
    have m2 := (Array.getElem?_eq_some_iff.1 p2).1
    have m3 := (Array.getElem?_eq_some_iff.1 p3).1
    have m4 := (Array.getElem?_eq_some_iff.1 p4).1
    have m9 := (Array.getElem?_eq_some_iff.1 p9).1
    have h24 := (side_good hG (s : Int)).1
    have HV := Lib.hid (hapV_out (W := W) (e := (xe, xv)) hs hj hi hk)
    have HM := Lib.hid (fun w1 hS => valuesOf_any (sideL W s) sa sn sc w1 hsn hS (by omega))
    have d3_0 := heap_cell p3 0 _ rfl
    have d7_0 := heap_cell p7 0 _ rfl
    go_wp2_with fail
    refine (HM.out w3 (hsE.on hb3)).mono ?_
    rintro e w1 ⟨p, rfl, _, hb1⟩
    have p2 := heap_on hb1 p2
    have p3 := heap_on hb1 p3
    have p4 := heap_on hb1 p4
    have p9 := heap_on hb1 p9
    have hb1 := below_on hb3 hb1
    clear hb3
    clear d3_0 d7_0
    have d3_4 := heap_cell p3 4 _ rfl
    go_wp2_with fail
    refine (in_no xe 0 15 w1 (by omega)).mono ?_
    rintro e _ ⟨rfl, rfl⟩
    go_wp2_with fail
    clear d3_4
    refine (happenedBad_any 5 w1).mono ?_
    rintro e w2 ⟨rfl, hb2⟩
    have p2 := heap_on hb2 p2
    have p3 := heap_on hb2 p3
    have p4 := heap_on hb2 p4
    have p9 := heap_on hb2 p9
    have hb2 := below_on hb1 hb2
    clear hb1
    go_wp2_with (refine wpList_store_row rfl 28 (.tmp 4) (.tmp 220) rfl (w.heap.size + 1 + 1) #[.slice none 0 0, .slice none 0 0, .slice none 0 0] rfl rfl _ _ p4 (by kernel_rfl) rfl (three_cells _ _ _ _ _ _ _ _ _) ?_)
    have hbz := below_setRow hb2 (g := w.heap.size + 1 + 1) (by omega) #[.slice none 0 0, .slice none 0 0, .slice none 0 0]
    refine bodyPost_ret (results_row_tmp rfl _ _ (w.heap.size + 1 + 1) _ _ _ _ rfl (setRow_heap _ _ _ _ _ _ p4) Tryz.underlying28 rfl (by kernel_rfl)) rfl ?_
    exact ⟨none, 0, 0, none, 0, 0, none, 0, 0, by rw [HV.out]; rfl, by rw [HV.out]; exact wat_zero _, newOr_none _ _ _ _, newOr_none _ _ _ _, (fun _ _ h => by cases h), hbz⟩

set_option maxHeartbeats 16000000 in
set_option maxRecDepth 100000 in
theorem happened_ask (I : Interp) (W : WB) (a0 : Option Addr) (n0 c0 : Nat) (a1 : Option Addr) (n1 c1 : Nat) (a2 : Option Addr) (c2 : Nat) (s j i : Nat) (k : Nat) (xv : ByteArray) (w : World) (hF : I.told.answers w.tape) (hW : WAt w a0 n0 c0 a1 n1 c1 a2 3 c2 W) (hG : worldE W = 0) (hs : s < 2) (hj : j < 3) (hi : i < 3) (hk : k < 16) :
    Calls Tryz.prog 13 #[.agg #[.slice a0 n0 c0, .slice a1 n1 c1, .slice a2 3 c2], .agg #[.int .i64 5, .int .i64 s, .int .i64 j, .int .i64 i, .int .i64 (k : Int), .string xv]] w fun e w' => ∃ b0 m0 d0 b1 m1 d1 b2 m2 d2, e = .returned (.tuple #[.agg #[.slice b0 m0 d0, .slice b1 m1 d1, .slice b2 m2 d2], .int .i64 (hapV W ⟨5, s, j, i, ((k : Int), xv)⟩).2]) ∧ WAt w' b0 m0 d0 b1 m1 d1 b2 m2 d2 (hapV W ⟨5, s, j, i, ((k : Int), xv)⟩).1 ∧ NewOr w a0 W.b0 b0 (hapV W ⟨5, s, j, i, ((k : Int), xv)⟩).1.b0 ∧ NewOr w a1 W.b1 b1 (hapV W ⟨5, s, j, i, ((k : Int), xv)⟩).1.b1 ∧ (∀ blk off, b2 = some ⟨blk, off, none⟩ → w.heap.size ≤ blk) ∧ Below w.heap.size w w' := by
  have hl3 := ((worldE_iff W).1 hG).2.2.1
  have hC := fun w1 hS => clone_clis W.cs a2 3 c2 w1 hl3 (by omega) (by omega) hS
  have HC := Lib.hid hC
  clear hC
  obtain ⟨q2, q3, q4, q0⟩ := boxes3 w (.cells #[.slice a0 n0 c0, .slice a1 n1 c1, .slice a2 3 c2] 28) (.cells #[.int .i64 5, .int .i64 s, .int .i64 j, .int .i64 i, .int .i64 (k : Int), .string xv] 32) (.cells #[.slice none 0 0, .slice none 0 0, .slice none 0 0] 28)
  have hb0 := below3 w (.cells #[.slice a0 n0 c0, .slice a1 n1 c1, .slice a2 3 c2] 28) (.cells #[.int .i64 5, .int .i64 s, .int .i64 j, .int .i64 i, .int .i64 (k : Int), .string xv] 32) (.cells #[.slice none 0 0, .slice none 0 0, .slice none 0 0] 28)
  have d3_0 := heap_cell q3 0 _ rfl
  have d3_1 := heap_cell q3 1 _ rfl
  have d3_2 := heap_cell q3 2 _ rfl
  have d3_3 := heap_cell q3 3 _ rfl
  go_enter Tryz.func13, Tryz.ntmps13
  go_wp2_with fail
  generalize (((w.alloc (.cells #[.slice a0 n0 c0, .slice a1 n1 c1, .slice a2 3 c2] 28)).alloc (.cells #[.int .i64 5, .int .i64 s, .int .i64 j, .int .i64 i, .int .i64 (k : Int), .string xv] 32)).alloc (.cells #[.slice none 0 0, .slice none 0 0, .slice none 0 0] 28)) = w0 at q2 q3 q4 q0 hb0 d3_0 d3_1 d3_2 d3_3 ⊢
  refine (in_yes 5 1 5 w0 (by omega) (by omega)).mono ?_
  rintro e _ ⟨rfl, rfl⟩
  go_wp2_with fail
  refine (in_yes s 0 1 w0 (by omega) (by omega)).mono ?_
  rintro e _ ⟨rfl, rfl⟩
  go_wp2_with fail
  refine (in_yes j 0 2 w0 (by omega) (by omega)).mono ?_
  rintro e _ ⟨rfl, rfl⟩
  go_wp2_with fail
  refine (in_yes i 0 2 w0 (by omega) (by omega)).mono ?_
  rintro e _ ⟨rfl, rfl⟩
  have d2_2 := heap_cell q2 2 _ rfl
  go_wp2_with fail
  refine (HC.out w0 (hW.e2.on hb0)).mono ?_
  rintro e w1 ⟨g1, cap, rfl, hown, hb1⟩
  obtain ⟨cur, q9, hg1, hcap, hmax, hcur, hsz⟩ := own_cur hown
  have hg1 : w.heap.size + 1 + 1 + 1 ≤ g1 := by rw [q0] at hg1; exact hg1
  have q2 := heap_on hb1 q2
  have q3 := heap_on hb1 q3
  have q4 := heap_on hb1 q4
  have hb1 := below_on hb0 hb1
  clear hb0 hown d2_2 HC d3_0 d3_1 d3_2 d3_3
  have d2_2 := heap_cell q2 2 _ rfl
  have f2_2 := frozen_of_row w1 w.heap.size 2 _ _ q2
  go_upto_region 7 with fail
  clear d2_2 f2_2
  have p2 := heap_setCell_same w1 w.heap.size 2 _ _ (.slice (some ⟨g1, 0, none⟩) 3 cap) q2
  rw [show (#[.slice a0 n0 c0, .slice a1 n1 c1, .slice a2 3 c2] : Array Value).setIfInBounds 2 (.slice (some ⟨g1, 0, none⟩) 3 cap) = #[.slice a0 n0 c0, .slice a1 n1 c1, (.slice (some ⟨g1, 0, none⟩) 3 cap)] from rfl] at p2
  have p3 := (heap_setCell_other w1 ⟨w.heap.size, 2, none⟩ (w.heap.size + 1) (.slice (some ⟨g1, 0, none⟩) 3 cap) (by simp)).trans q3
  have p4 := (heap_setCell_other w1 ⟨w.heap.size, 2, none⟩ (w.heap.size + 1 + 1) (.slice (some ⟨g1, 0, none⟩) 3 cap) (by show _ ≠ w.heap.size; omega)).trans q4
  have p9 := (heap_setCell_other w1 ⟨w.heap.size, 2, none⟩ g1 (.slice (some ⟨g1, 0, none⟩) 3 cap) (by show _ ≠ w.heap.size; omega)).trans q9
  have hb2 : Below w.heap.size w (w1.setCell ⟨w.heap.size, 2, none⟩ (.slice (some ⟨g1, 0, none⟩) 3 cap)) := by rw [setCell_eq_setRow w1 w.heap.size 2 _ _ _ _ q2]; exact below_setRow hb1 (Nat.le_refl _) _
  generalize w1.setCell ⟨w.heap.size, 2, none⟩ (.slice (some ⟨g1, 0, none⟩) 3 cap) = w2 at p2 p3 p4 p9 hb2 ⊢
  clear q2 q3 q4 q9 hb1
  obtain ⟨sa, sn, sc, hsv, hsn, hsE⟩ := side_ents hW s
  have z0 := side_cell p2 hs
  rw [hsv] at z0
  obtain ⟨z1, z2, z3, z4⟩ := hcur.four p9 (i := j) (by omega)
  obtain ⟨cc, hcc⟩ : ∃ cc, cliOf W.cs j = cc := ⟨_, rfl⟩
  rw [hcc] at z1 z2 z3 z4
  obtain ⟨cn, ca, cb, cf⟩ := cc
  simp only at z1 z2 z3 z4
  have HJ := Lib.hid hcc
  clear hcc
  have hs1 : (s : Int) < 2 := by omega
  have hj1 : (j : Int) < 3 := by omega
  go_cut [7, 8] (fun t7 t8 w' => ∃ gb gc, t7 = .pointer (some ⟨gb, 0, none⟩) ∧ t8 = .pointer (some ⟨gc, 0, none⟩) ∧ gb ≠ gc ∧ w2.heap.size ≤ gb ∧ w2.heap.size ≤ gc ∧ w'.heap[gb]? = some (.cells #[.slice sa sn sc] 24) ∧ w'.heap[gc]? = some (.cells #[.int .i64 cn, .string ca, .string cb, .bool cf] 55) ∧ Below w2.heap.size w2 w')
  case first =>
    have d3_1 := heap_cell p3 1 _ rfl
    have d3_2 := heap_cell p3 2 _ rfl
    have d2_2 := heap_cell p2 2 _ rfl
    have k2 := (Array.getElem?_eq_some_iff.1 p2).1
    have k3 := (Array.getElem?_eq_some_iff.1 p3).1
    have k9 := (Array.getElem?_eq_some_iff.1 p9).1
    go_region
    all_goals
      go_wp2_with fail
      go_meet
      case rel => first
        | exact ⟨w2.heap.size, w2.heap.size + 1, rfl, rfl, by omega, by omega, by omega, (boxes2 w2 (.cells #[.slice sa sn sc] 24) (.cells #[.int .i64 cn, .string ca, .string cb, .bool cf] 55)).1, (boxes2 w2 (.cells #[.slice sa sn sc] 24) (.cells #[.int .i64 cn, .string ca, .string cb, .bool cf] 55)).2.1, (boxes2 w2 (.cells #[.slice sa sn sc] 24) (.cells #[.int .i64 cn, .string ca, .string cb, .bool cf] 55)).2.2.drew⟩
        | exact ⟨w2.heap.size + 1, w2.heap.size, rfl, rfl, by omega, by omega, by omega, (boxes2 w2 (.cells #[.int .i64 cn, .string ca, .string cb, .bool cf] 55) (.cells #[.slice sa sn sc] 24)).2.1, (boxes2 w2 (.cells #[.int .i64 cn, .string ca, .string cb, .bool cf] 55) (.cells #[.slice sa sn sc] 24)).1, (boxes2 w2 (.cells #[.int .i64 cn, .string ca, .string cb, .bool cf] 55) (.cells #[.slice sa sn sc] 24)).2.2.drew⟩
  case rest =>
    obtain ⟨gb, gc, rfl, rfl, hbc, hgb, hgc, p7, p8, hbr⟩ := hcut
    obtain ⟨w3, hw3⟩ : ∃ x, x = wc := ⟨_, rfl⟩
    subst hw3
    clear z0 z1 z2 z3 z4
    have y4 := (Array.getElem?_eq_some_iff.1 p4).1
    have p2 := heap_on hbr p2
    have p3 := heap_on hbr p3
    have p4 := heap_on hbr p4
    have p9 := heap_on hbr p9
    have hb3 := below_on hb2 hbr
    clear hb2 hbr
    have m2 := (Array.getElem?_eq_some_iff.1 p2).1
    have m3 := (Array.getElem?_eq_some_iff.1 p3).1
    have m4 := (Array.getElem?_eq_some_iff.1 p4).1
    have m9 := (Array.getElem?_eq_some_iff.1 p9).1
    have hgd := side_good hG (s : Int)
    have h24 := hgd.1
    have hz := ask_back (s := s) (k := k) HJ.out
    have HV1 := Lib.hid (fun z h h0 => hapV_ask_bad (W := W) (v := xv) hs hj hi hk (z := z) (hz.trans h) h0)
    have HV2 := Lib.hid (fun h => hapV_ask_ok (W := W) (v := xv) hs hj hi hk (hz.trans h))
    clear hz
    have hgm := back_good hgd
    have h313 := pathT_313 hgm.short (k := k) (Nat.le_refl 4)
    have nL := pathT_len (valN (backD (sideL W s))) 4 0 k
    have HM := Lib.hid (fun w1 hS => valuesOf_any (sideL W s) sa sn sc w1 hsn hS (by omega))
    have h9 := fun p w1 hF hM => mapPath_ok I p (backD (sideL W s)) k w1 hF hM hgm hk
    have hlk := fun (p : Option Nat) (w1 : World) (hM : MapAt w1 p (backD (sideL W s))) => (hM.look (k := (k : Int)) (by omega) (by omega)).2
    have D0 := Lib.hid (Eq.refl (backD (sideL W s)))
    generalize backD (sideL W s) = D at h9 hlk HM HV1 HV2 h313 nL D0
    clear D0 hgm hgd
    obtain ⟨L, hL⟩ : ∃ L, pathT (valN D) 0 k 4 = L := ⟨_, rfl⟩
    rw [hL] at h9 HV1 HV2 h313 nL
    clear hL
    obtain ⟨U, hU⟩ : ∃ U, valS D k = U := ⟨_, rfl⟩
    rw [hU] at hlk HV1 HV2
    have EU := Lib.hid hU
    clear hU
    obtain ⟨T, hT⟩ : ∃ T, (valD D k).isSome = T := ⟨_, rfl⟩
    rw [hT] at HV1 HV2
    have ET := Lib.hid hT
    clear hT
    have hsh := fun a c w1 hF hS hU => mapShows_any I cb (k : Int) U T L a 4 c w1 hF hS nL hU (fun s hs => by have := h313 s hs; omega)
    obtain ⟨z, hz⟩ : ∃ z, trieE cb (k : Int) U T L = z := ⟨_, rfl⟩
    rw [hz] at hsh HV1 HV2
    clear hz
    have H9 := Lib.hid h9
    have HS := Lib.hid hsh
    have HLK := Lib.hid hlk
    clear h9 hsh hlk h313 nL
    have d3_0 := heap_cell p3 0 _ rfl
    have d7_0 := heap_cell p7 0 _ rfl
    go_wp2_with fail
    refine (HM.out w3 (hsE.on hb3)).mono ?_
    rintro e w1 ⟨p, rfl, hM, hb1⟩
    have p2 := heap_on hb1 p2
    have p3 := heap_on hb1 p3
    have p4 := heap_on hb1 p4
    have p9 := heap_on hb1 p9
    have p8 := heap_on hb1 p8
    have hb1 := below_on hb3 hb1
    clear hb3
    clear d3_0 d7_0
    have d3_4 := heap_cell p3 4 _ rfl
    go_wp2_with fail
    refine (in_yes (k : Int) 0 15 w1 (by omega) (by omega)).mono ?_
    rintro e _ ⟨rfl, rfl⟩
    go_upto_region 41 with (at_lookup; refine wpList_look _ rfl _ _ rfl (some p) D rfl hM (k : Int) rfl (by omega) (by omega) ?_; rw [EU.out, ET.out])
    clear d3_4
    have hU := HLK.out _ _ hM
    have k1 := (Array.getElem?_eq_some_iff.1 p8).1
    have k2 := (Array.getElem?_eq_some_iff.1 p3).1
    obtain ⟨w5, hw5⟩ : ∃ x, x = w1 := ⟨_, rfl⟩
    subst hw5
    go_cut [22] (fun t22 w' => t22 = .int .i64 z ∧ Below w5.heap.size w5 w')
    case first =>
      have hS0 : Below w5.heap.size w5 w5.drew ∧ w5.drew.cell? ⟨gc, 2, none⟩ = some (.string cb) ∧ w5.drew.cell? ⟨w.heap.size + 1, 4, none⟩ = some (.int .i64 (k : Int)) := ⟨(Below.refl _ _).drew, heap_cell p8 2 _ rfl, heap_cell p3 4 _ rfl⟩
      have HL := Lib.hid (fun w' (h : Below w5.heap.size w5 w' ∧ w'.cell? ⟨gc, 2, none⟩ = some (.string cb) ∧ w'.cell? ⟨w.heap.size + 1, 4, none⟩ = some (.int .i64 (k : Int))) => below_on hb1 h.1)
      have CP := Lib.hid (fun w' (h : Below w5.heap.size w5 w' ∧ w'.cell? ⟨gc, 2, none⟩ = some (.string cb) ∧ w'.cell? ⟨w.heap.size + 1, 4, none⟩ = some (.int .i64 (k : Int))) => H9.out (some p) w' (by rw [(HL.out w' h).tape]; exact hF) (hM.on h.1))
      have CS := Lib.hid (fun a c w' (h : Below w5.heap.size w5 w' ∧ w'.cell? ⟨gc, 2, none⟩ = some (.string cb) ∧ w'.cell? ⟨w.heap.size + 1, 4, none⟩ = some (.int .i64 (k : Int))) (hS : StrsAt w' a c L) => HS.out a c w' (by rw [(HL.out w' h).tape]; exact hF) hS hU)
      have HB := Lib.hid (fun w' (h : Below w5.heap.size w5 w' ∧ w'.cell? ⟨gc, 2, none⟩ = some (.string cb) ∧ w'.cell? ⟨w.heap.size + 1, 4, none⟩ = some (.int .i64 (k : Int))) => h.1)
      go_region_held3 (fun w' => Below w5.heap.size w5 w' ∧ w'.cell? ⟨gc, 2, none⟩ = some (.string cb) ∧ w'.cell? ⟨w.heap.size + 1, 4, none⟩ = some (.int .i64 (k : Int)))
        (first | assumption | exact hold2 k1 k2 (by assumption) (by assumption))
        (first
          | (go_at_call 37; (with_reducible refine (CP.out _ (by assumption)).mono ?_); rintro e w' ⟨aL, cL, rfl, hSL, hb⟩)
          | (go_at_call 36; (with_reducible refine (CS.out _ _ _ (by assumption) (by assumption)).mono ?_); rintro e w' ⟨rfl, hb⟩))
      all_goals
        go_wp2_with fail
        go_meet
        case rel => exact ⟨rfl, HB.out _ (by assumption)⟩
    case rest =>
      obtain ⟨rfl, hbc⟩ := hcut
      obtain ⟨w6, hw6⟩ : ∃ x, x = wc := ⟨_, rfl⟩
      subst hw6
      clear hM hU k1 k2 H9 HS HLK EU ET p8
      have p2 := heap_on hbc p2
      have p3 := heap_on hbc p3
      have p4 := heap_on hbc p4
      have p9 := heap_on hbc p9
      have hb6 := below_on hb1 hbc
      clear hb1 hbc
      by_cases hz : z = 0
      · subst hz
        have HV := Lib.hid (HV2.out rfl)
        clear HV1 HV2
        go_upto_region 44 with fail
        have e0 := heap_cell p2 0 _ rfl
        have e1 := heap_cell p2 1 _ rfl
        have e2 := heap_cell p2 2 _ rfl
        go_wp2_with (refine wpList_store_row rfl 28 (.tmp 4) (.tmp 251) rfl (w.heap.size + 1 + 1) #[.slice a0 n0 c0, .slice a1 n1 c1, .slice (some ⟨g1, 0, none⟩) 3 cap] rfl rfl _ _ p4 (by kernel_rfl) rfl (three_cells _ _ _ _ _ _ _ _ _) ?_)
        have hbz := below_setRow hb6 (g := w.heap.size + 1 + 1) (by omega) #[.slice a0 n0 c0, .slice a1 n1 c1, .slice (some ⟨g1, 0, none⟩) 3 cap]
        refine bodyPost_ret (results_row_tmp rfl _ _ (w.heap.size + 1 + 1) _ _ _ _ rfl (setRow_heap _ _ _ _ _ _ p4) Tryz.underlying28 rfl (by kernel_rfl)) rfl ?_
        exact ⟨_, _, _, _, _, _, _, _, _, by rw [HV.out]; rfl, by rw [HV.out]; exact ⟨hW.l0, hW.e0.on hbz, hW.l1, hW.e1.on hbz, hl3, hcur.clis (heap_kept (row_grown _ _ _) p9 (by intro e; injection e with e; omega)) (by omega) hmax hW.e2.sz⟩, .inl ⟨rfl, by rw [HV.out]⟩, .inl ⟨rfl, by rw [HV.out]⟩, new_at (by omega), hbz⟩
      · have HV := Lib.hid (HV1.out z rfl hz)
        have zf1 : (z == 0) = false := by simp only [beq_eq_false_iff_ne, ne_eq]; exact hz
        clear HV1 HV2 hz
        go_wp2_with fail
        refine (happenedBad_any z w6).mono ?_
        rintro e w2 ⟨rfl, hb2⟩
        have p2 := heap_on hb2 p2
        have p3 := heap_on hb2 p3
        have p4 := heap_on hb2 p4
        have p9 := heap_on hb2 p9
        have hb2 := below_on hb6 hb2
        clear hb6
        go_wp2_with (refine wpList_store_row rfl 28 (.tmp 4) (.tmp 249) rfl (w.heap.size + 1 + 1) #[.slice none 0 0, .slice none 0 0, .slice none 0 0] rfl rfl _ _ p4 (by kernel_rfl) rfl (three_cells _ _ _ _ _ _ _ _ _) ?_)
        have hbz := below_setRow hb2 (g := w.heap.size + 1 + 1) (by omega) #[.slice none 0 0, .slice none 0 0, .slice none 0 0]
        refine bodyPost_ret (results_row_tmp rfl _ _ (w.heap.size + 1 + 1) _ _ _ _ rfl (setRow_heap _ _ _ _ _ _ p4) Tryz.underlying28 rfl (by kernel_rfl)) rfl ?_
        exact ⟨none, 0, 0, none, 0, 0, none, 0, 0, by rw [HV.out]; rfl, by rw [HV.out]; exact wat_zero _, newOr_none _ _ _ _, newOr_none _ _ _ _, (fun _ _ h => by cases h), hbz⟩

end Go.Proofs.YthhckpnnjegldafGreatFmt
