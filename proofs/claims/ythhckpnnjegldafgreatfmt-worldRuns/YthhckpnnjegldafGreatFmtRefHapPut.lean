/-
  Chapter 11's Do as the document's own reckoning has it: an entry is put.
-/
import Derived.Test.YthhckpnnjegldafGreatFmtRefHapFront
namespace Go.Proofs.YthhckpnnjegldafGreatFmt
open Go Go.RowKit Go.Kit Go.Extern.Stop Go.Stop Go.Extern


set_option maxHeartbeats 16000000 in
set_option maxRecDepth 100000 in
theorem happened_put (W : WB) (a0 : Option Addr) (n0 c0 : Nat) (a1 : Option Addr) (n1 c1 : Nat) (a2 : Option Addr) (c2 : Nat) (s j i : Nat) (xe : Int) (xv : ByteArray) (w : World) (hW : WAt w a0 n0 c0 a1 n1 c1 a2 3 c2 W) (hG : worldE W = 0) (hs : s < 2) (hj : j < 3) (hi : i < 3) (he : WideEnt (xe, xv)) :
    Calls Tryz.prog 13 #[.agg #[.slice a0 n0 c0, .slice a1 n1 c1, .slice a2 3 c2], .agg #[.int .i64 1, .int .i64 s, .int .i64 j, .int .i64 i, .int .i64 xe, .string xv]] w fun e w' => ∃ b0 m0 d0 b1 m1 d1 b2 m2 d2, e = .returned (.tuple #[.agg #[.slice b0 m0 d0, .slice b1 m1 d1, .slice b2 m2 d2], .int .i64 (hapV W ⟨1, s, j, i, (xe, xv)⟩).2]) ∧ WAt w' b0 m0 d0 b1 m1 d1 b2 m2 d2 (hapV W ⟨1, s, j, i, (xe, xv)⟩).1 ∧ NewOr w a0 W.b0 b0 (hapV W ⟨1, s, j, i, (xe, xv)⟩).1.b0 ∧ NewOr w a1 W.b1 b1 (hapV W ⟨1, s, j, i, (xe, xv)⟩).1.b1 ∧ (∀ blk off, b2 = some ⟨blk, off, none⟩ → w.heap.size ≤ blk) ∧ Below w.heap.size w w' := by
  have hl3 := ((worldE_iff W).1 hG).2.2.1
  have hC := fun w1 hS => clone_clis W.cs a2 3 c2 w1 hl3 (by omega) (by omega) hS
  have HC := Lib.hid hC
  clear hC
  obtain ⟨q2, q3, q4, q0⟩ := boxes3 w (.cells #[.slice a0 n0 c0, .slice a1 n1 c1, .slice a2 3 c2] 28) (.cells #[.int .i64 1, .int .i64 s, .int .i64 j, .int .i64 i, .int .i64 xe, .string xv] 32) (.cells #[.slice none 0 0, .slice none 0 0, .slice none 0 0] 28)
  have hb0 := below3 w (.cells #[.slice a0 n0 c0, .slice a1 n1 c1, .slice a2 3 c2] 28) (.cells #[.int .i64 1, .int .i64 s, .int .i64 j, .int .i64 i, .int .i64 xe, .string xv] 32) (.cells #[.slice none 0 0, .slice none 0 0, .slice none 0 0] 28)
  have d3_0 := heap_cell q3 0 _ rfl
  have d3_1 := heap_cell q3 1 _ rfl
  have d3_2 := heap_cell q3 2 _ rfl
  have d3_3 := heap_cell q3 3 _ rfl
  go_enter Tryz.func13, Tryz.ntmps13
  go_wp2_with fail
  generalize (((w.alloc (.cells #[.slice a0 n0 c0, .slice a1 n1 c1, .slice a2 3 c2] 28)).alloc (.cells #[.int .i64 1, .int .i64 s, .int .i64 j, .int .i64 i, .int .i64 xe, .string xv] 32)).alloc (.cells #[.slice none 0 0, .slice none 0 0, .slice none 0 0] 28)) = w0 at q2 q3 q4 q0 hb0 d3_0 d3_1 d3_2 d3_3 ⊢
  refine (in_yes 1 1 5 w0 (by omega) (by omega)).mono ?_
  rintro e _ ⟨rfl, rfl⟩
  go_wp2_with fail
  refine (in_yes s 0 1 w0 (by omega) (by omega)).mono ?_
  rintro e _ ⟨rfl, rfl⟩
  go_wp2_with fail
  refine (in_yes j 0 2 w0 (by omega) (by omega)).mono ?_
  rintro e _ ⟨rfl, rfl⟩
  go_wp2_with fail
  refine (in_yes i 0 2 w0 (by omega) (by omega)).mono ?_
  rintro e _ ⟨rfl, rfl⟩
  have d2_2 := heap_cell q2 2 _ rfl
  go_wp2_with fail
  refine (HC.out w0 (hW.e2.on hb0)).mono ?_
  rintro e w1 ⟨g1, cap, rfl, hown, hb1⟩
  obtain ⟨cur, q9, hg1, hcap, hmax, hcur, hsz⟩ := own_cur hown
  have hg1 : w.heap.size + 1 + 1 + 1 ≤ g1 := by rw [q0] at hg1; exact hg1
  have q2 := heap_on hb1 q2
  have q3 := heap_on hb1 q3
  have q4 := heap_on hb1 q4
  have hb1 := below_on hb0 hb1
  clear hb0 hown d2_2 HC d3_0 d3_1 d3_2 d3_3
  have d2_2 := heap_cell q2 2 _ rfl
  have f2_2 := frozen_of_row w1 w.heap.size 2 _ _ q2
  go_upto_region 7 with fail
  clear d2_2 f2_2
  have p2 := heap_setCell_same w1 w.heap.size 2 _ _ (.slice (some ⟨g1, 0, none⟩) 3 cap) q2
  rw [show (#[.slice a0 n0 c0, .slice a1 n1 c1, .slice a2 3 c2] : Array Value).setIfInBounds 2 (.slice (some ⟨g1, 0, none⟩) 3 cap) = #[.slice a0 n0 c0, .slice a1 n1 c1, (.slice (some ⟨g1, 0, none⟩) 3 cap)] from rfl] at p2
  have p3 := (heap_setCell_other w1 ⟨w.heap.size, 2, none⟩ (w.heap.size + 1) (.slice (some ⟨g1, 0, none⟩) 3 cap) (by simp)).trans q3
  have p4 := (heap_setCell_other w1 ⟨w.heap.size, 2, none⟩ (w.heap.size + 1 + 1) (.slice (some ⟨g1, 0, none⟩) 3 cap) (by show _ ≠ w.heap.size; omega)).trans q4
  have p9 := (heap_setCell_other w1 ⟨w.heap.size, 2, none⟩ g1 (.slice (some ⟨g1, 0, none⟩) 3 cap) (by show _ ≠ w.heap.size; omega)).trans q9
  have hb2 : Below w.heap.size w (w1.setCell ⟨w.heap.size, 2, none⟩ (.slice (some ⟨g1, 0, none⟩) 3 cap)) := by rw [setCell_eq_setRow w1 w.heap.size 2 _ _ _ _ q2]; exact below_setRow hb1 (Nat.le_refl _) _
  generalize w1.setCell ⟨w.heap.size, 2, none⟩ (.slice (some ⟨g1, 0, none⟩) 3 cap) = w2 at p2 p3 p4 p9 hb2 ⊢
  clear q2 q3 q4 q9 hb1
  obtain ⟨sa, sn, sc, hsv, hsn, hsE⟩ := side_ents hW s
  have z0 := side_cell p2 hs
  rw [hsv] at z0
  obtain ⟨z1, z2, z3, z4⟩ := hcur.four p9 (i := j) (by omega)
  obtain ⟨cc, hcc⟩ : ∃ cc, cliOf W.cs j = cc := ⟨_, rfl⟩
  rw [hcc] at z1 z2 z3 z4
  obtain ⟨cn, ca, cb, cf⟩ := cc
  simp only at z1 z2 z3 z4
  have HJ := Lib.hid hcc
  clear hcc
  have hs1 : (s : Int) < 2 := by omega
  have hj1 : (j : Int) < 3 := by omega
  go_cut [7, 8] (fun t7 t8 w' => ∃ gb gc, t7 = .pointer (some ⟨gb, 0, none⟩) ∧ t8 = .pointer (some ⟨gc, 0, none⟩) ∧ gb ≠ gc ∧ w2.heap.size ≤ gb ∧ w2.heap.size ≤ gc ∧ w'.heap[gb]? = some (.cells #[.slice sa sn sc] 24) ∧ w'.heap[gc]? = some (.cells #[.int .i64 cn, .string ca, .string cb, .bool cf] 55) ∧ Below w2.heap.size w2 w')
  case first =>
    have d3_1 := heap_cell p3 1 _ rfl
    have d3_2 := heap_cell p3 2 _ rfl
    have d2_2 := heap_cell p2 2 _ rfl
    have k2 := (Array.getElem?_eq_some_iff.1 p2).1
    have k3 := (Array.getElem?_eq_some_iff.1 p3).1
    have k9 := (Array.getElem?_eq_some_iff.1 p9).1
    go_region
    all_goals
      go_wp2_with fail
      go_meet
      case rel => first
        | exact ⟨w2.heap.size, w2.heap.size + 1, rfl, rfl, by omega, by omega, by omega, (boxes2 w2 (.cells #[.slice sa sn sc] 24) (.cells #[.int .i64 cn, .string ca, .string cb, .bool cf] 55)).1, (boxes2 w2 (.cells #[.slice sa sn sc] 24) (.cells #[.int .i64 cn, .string ca, .string cb, .bool cf] 55)).2.1, (boxes2 w2 (.cells #[.slice sa sn sc] 24) (.cells #[.int .i64 cn, .string ca, .string cb, .bool cf] 55)).2.2.drew⟩
        | exact ⟨w2.heap.size + 1, w2.heap.size, rfl, rfl, by omega, by omega, by omega, (boxes2 w2 (.cells #[.int .i64 cn, .string ca, .string cb, .bool cf] 55) (.cells #[.slice sa sn sc] 24)).2.1, (boxes2 w2 (.cells #[.int .i64 cn, .string ca, .string cb, .bool cf] 55) (.cells #[.slice sa sn sc] 24)).1, (boxes2 w2 (.cells #[.int .i64 cn, .string ca, .string cb, .bool cf] 55) (.cells #[.slice sa sn sc] 24)).2.2.drew⟩
  case rest =>
    obtain ⟨gb, gc, rfl, rfl, hbc, hgb, hgc, p7, p8, hbr⟩ := hcut
    obtain ⟨w3, hw3⟩ : ∃ x, x = wc := ⟨_, rfl⟩
    subst hw3
    clear z0 z1 z2 z3 z4
    have y4 := (Array.getElem?_eq_some_iff.1 p4).1
    have p2 := heap_on hbr p2
    have p3 := heap_on hbr p3
    have p4 := heap_on hbr p4
    have p9 := heap_on hbr p9
    have hb3 := below_on hb2 hbr
    clear hb2 hbr
    have m2 := (Array.getElem?_eq_some_iff.1 p2).1
    have m3 := (Array.getElem?_eq_some_iff.1 p3).1
    have m4 := (Array.getElem?_eq_some_iff.1 p4).1
    have m9 := (Array.getElem?_eq_some_iff.1 p9).1
    have hgd := side_good hG (s : Int)
    have h24 := hgd.1
    have hC := fun w1 hS => clone_ents_own (sideL W s) sa sn sc w1 hsn (by omega) hS
    have HCL := Lib.hid hC
    clear hC
    have d3_0 := heap_cell p3 0 _ rfl
    go_upto_region 10 with fail
    clear d3_0
    have m1 := (Array.getElem?_eq_some_iff.1 p3).1
    have m5 := (Array.getElem?_eq_some_iff.1 p7).1
    go_cut [] (fun w' => ∃ g' cap', w'.heap[w.heap.size]? = some (.cells (side3 s (.slice (some ⟨g', 0, none⟩) (sn + 1) cap') (.slice a0 n0 c0) (.slice a1 n1 c1) (.slice (some ⟨g1, 0, none⟩) 3 cap)) 28) ∧ w'.heap[w.heap.size + 1]? = some (.cells #[.int .i64 1, .int .i64 s, .int .i64 j, .int .i64 i, .int .i64 xe, .string xv] 32) ∧ w'.heap[w.heap.size + 1 + 1]? = some (.cells #[.slice none 0 0, .slice none 0 0, .slice none 0 0] 28) ∧ w'.heap[g1]? = some (.cells cur 55) ∧ w.heap.size + 1 + 1 < g' ∧ EntsAt w' (some ⟨g', 0, none⟩) cap' (sideL W s ++ [(xe, xv)]) ∧ Below w.heap.size w w')
    case first =>
      have hS0 : w3.grownBy w3.drew (some w.heap.size) ∧ SideAt w3.drew w.heap.size s (.slice a0 n0 c0) (.slice a1 n1 c1) (.slice (some ⟨g1, 0, none⟩) 3 cap) 28 ∧ w3.drew.cell? ⟨w.heap.size + 1, 1, none⟩ = some (.int .i64 s) ∧ w3.drew.cell? ⟨gb, 0, none⟩ = some (.slice sa sn sc) ∧ w3.drew.cell? ⟨w.heap.size + 1, 4, none⟩ = some (.int .i64 xe) ∧ w3.drew.cell? ⟨w.heap.size + 1, 5, none⟩ = some (.string xv) := ⟨below_grown (Below.refl _ _).drew _, sideAt_of (w := w3.drew) p2 s, heap_cell p3 1 _ rfl, heap_cell p7 0 _ rfl, heap_cell p3 4 _ rfl, heap_cell p3 5 _ rfl⟩
      have o1 : w.heap.size + 1 ≠ w.heap.size := by omega
      have o2 : gb ≠ w.heap.size := by omega
      have m0 := (Array.getElem?_eq_some_iff.1 p2).1
      have HL := Lib.hid (fun w' (h : w3.grownBy w' (some w.heap.size) ∧ SideAt w' w.heap.size s (.slice a0 n0 c0) (.slice a1 n1 c1) (.slice (some ⟨g1, 0, none⟩) 3 cap) 28 ∧ w'.cell? ⟨w.heap.size + 1, 1, none⟩ = some (.int .i64 s) ∧ w'.cell? ⟨gb, 0, none⟩ = some (.slice sa sn sc) ∧ w'.cell? ⟨w.heap.size + 1, 4, none⟩ = some (.int .i64 xe) ∧ w'.cell? ⟨w.heap.size + 1, 5, none⟩ = some (.string xv)) => hb3.grown h.1 (by omega) (fun j hj => by injection hj with hj; omega))
      have HZ := Lib.hid (fun w' (h : w3.grownBy w' (some w.heap.size) ∧ SideAt w' w.heap.size s (.slice a0 n0 c0) (.slice a1 n1 c1) (.slice (some ⟨g1, 0, none⟩) 3 cap) 28 ∧ w'.cell? ⟨w.heap.size + 1, 1, none⟩ = some (.int .i64 s) ∧ w'.cell? ⟨gb, 0, none⟩ = some (.slice sa sn sc) ∧ w'.cell? ⟨w.heap.size + 1, 4, none⟩ = some (.int .i64 xe) ∧ w'.cell? ⟨w.heap.size + 1, 5, none⟩ = some (.string xv)) => h.1.size)
      have CC := Lib.hid (fun w' (h : w3.grownBy w' (some w.heap.size) ∧ SideAt w' w.heap.size s (.slice a0 n0 c0) (.slice a1 n1 c1) (.slice (some ⟨g1, 0, none⟩) 3 cap) 28 ∧ w'.cell? ⟨w.heap.size + 1, 1, none⟩ = some (.int .i64 s) ∧ w'.cell? ⟨gb, 0, none⟩ = some (.slice sa sn sc) ∧ w'.cell? ⟨w.heap.size + 1, 4, none⟩ = some (.int .i64 xe) ∧ w'.cell? ⟨w.heap.size + 1, 5, none⟩ = some (.string xv)) => HCL.out w' (hsE.on (HL.out w' h)))
      have hwide := Lib.hid (wide_snoc hsE.sz he)
      have HQ := Lib.hid (fun w' (h : w3.grownBy w' (some w.heap.size) ∧ SideAt w' w.heap.size s (.slice a0 n0 c0) (.slice a1 n1 c1) (.slice (some ⟨g1, 0, none⟩) 3 cap) 28 ∧ w'.cell? ⟨w.heap.size + 1, 1, none⟩ = some (.int .i64 s) ∧ w'.cell? ⟨gb, 0, none⟩ = some (.slice sa sn sc) ∧ w'.cell? ⟨w.heap.size + 1, 4, none⟩ = some (.int .i64 xe) ∧ w'.cell? ⟨w.heap.size + 1, 5, none⟩ = some (.string xv)) => sideAt_cell h.2.1 hs)
      go_region_held3 (fun w' => w3.grownBy w' (some w.heap.size) ∧ SideAt w' w.heap.size s (.slice a0 n0 c0) (.slice a1 n1 c1) (.slice (some ⟨g1, 0, none⟩) 3 cap) 28 ∧ w'.cell? ⟨w.heap.size + 1, 1, none⟩ = some (.int .i64 s) ∧ w'.cell? ⟨gb, 0, none⟩ = some (.slice sa sn sc) ∧ w'.cell? ⟨w.heap.size + 1, 4, none⟩ = some (.int .i64 xe) ∧ w'.cell? ⟨w.heap.size + 1, 5, none⟩ = some (.string xv))
        (first | assumption | exact put4b m0 m1 m5 (by assumption) (by assumption) | exact put4b m0 m1 m5 (by assumption) ((Below.refl _ _).alloc (Nat.le_refl _) _) | exact put4s _ hs o1 o2 (by assumption))
        (first
          | (go_at_call 30; (with_reducible refine (CC.out _ (by assumption)).mono ?_); rintro e wC ⟨aC, cC, rfl, hoC, hbC⟩; have hszC := HZ.out _ (by assumption); have hoD := owns_base hoC hszC)
          | (rw [if_pos (by rfl)]; refine append_hap rfl (sideL W s) sn xe xv w3.heap.size _ _ (by omega) rfl rfl ?_ ?_ ?_ ?_; (first | exact hoD | exact hoD.alloc _ | exact (hoD.alloc _).alloc _); (first | exact heap_push _ _ | exact heap_old _ _ (heap_push _ _) | exact heap_on hbC (heap_push _ _)); exact HZ.out _ (by assumption); intro gP capP wP hoP hgP hrP; have hSP : w3.grownBy wP (some w.heap.size) ∧ SideAt wP w.heap.size s (.slice a0 n0 c0) (.slice a1 n1 c1) (.slice (some ⟨g1, 0, none⟩) 3 cap) 28 ∧ wP.cell? ⟨w.heap.size + 1, 1, none⟩ = some (.int .i64 s) ∧ wP.cell? ⟨gb, 0, none⟩ = some (.slice sa sn sc) ∧ wP.cell? ⟨w.heap.size + 1, 4, none⟩ = some (.int .i64 xe) ∧ wP.cell? ⟨w.heap.size + 1, 5, none⟩ = some (.string xv) := put4g m0 m1 m5 hgP hrP (by assumption); obtain ⟨uP, t0, t1⟩ := HQ.out _ hSP))
      all_goals
        go_wp2_with fail
        go_meet
        case rel =>
          have hgP := (hoP.lt gP rfl).1
          have m4 := (Array.getElem?_eq_some_iff.1 p4).1
          exact ⟨gP, capP, sideAt_set hSP.2.1 _ hs, heap_set_ne (heap_kept hSP.1 p3 (by intro e; injection e with e; omega)) (by omega) _ _, heap_set_ne (heap_kept hSP.1 p4 (by intro e; injection e with e; omega)) (by omega) _ _, heap_set_ne (heap_kept hSP.1 p9 (by intro e; injection e with e; omega)) (by omega) _ _, by omega, (ents_owned hoP hwide.out).grown (set_grown _ _ _ _) (fun b off e => by injection e with e; injection e with e _ _; intro e2; injection e2 with e2; omega), (HL.out wP hSP).grown (set_grown _ _ _ _) (by have := (HL.out wP hSP).size; omega) (fun j hj => by injection hj with hj; omega)⟩
    case rest =>
      clear p2 p3 p4 p9 p7 p8 HCL hb3 hsE m1 m2 m3 m4 m5 m9
      obtain ⟨g', cap', p2, p3, p4, p9, hlt, hEn, hb4⟩ := hcut
      obtain ⟨w4, hw4⟩ : ∃ x, x = wc := ⟨_, rfl⟩
      subst hw4
      have hlen : (sideL W s ++ [(xe, xv)]).length = sn + 1 := by rw [List.length_append, hsn]; rfl
      have hk := fun w' h => checkBook_any (sideL W s ++ [(xe, xv)]) (some ⟨g', 0, none⟩) (sn + 1) cap' w' hlen h
      have hv := hapV_put (W := W) (e := (xe, xv)) hs hj hi
      have d3_1 := heap_cell p3 1 _ rfl
      have d2_s := side3_cell p2 hs
      go_wp2_with fail
      by_cases hz : bookE (sideL W s ++ [(xe, xv)]) = 0
      · rw [if_neg (fun h => h hz)] at hv
        have HV := Lib.hid hv
        rw [hz] at hk
        have HK := Lib.hid hk
        clear hv hk hz
        refine (HK.out w4 hEn).mono ?_
        rintro e w1 ⟨rfl, hb1⟩
        have p2 := heap_on hb1 p2
        have p3 := heap_on hb1 p3
        have p4 := heap_on hb1 p4
        have p9 := heap_on hb1 p9
        have hEn := hEn.on hb1
        have hb1 := below_on hb4 hb1
        clear hb4
        clear d3_1 d2_s
        obtain ⟨b0, m0, d0, b1, m1, d1, hes, hn0, hn1, hat⟩ := side3_is w W s (some ⟨g', 0, none⟩) (sn + 1) cap' a0 n0 c0 a1 n1 c1 (.slice (some ⟨g1, 0, none⟩) 3 cap) (sideL W s ++ [(xe, xv)]) (new_at (by omega))
        rw [hes] at p2
        have e0 := heap_cell p2 0 _ rfl
        have e1 := heap_cell p2 1 _ rfl
        have e2 := heap_cell p2 2 _ rfl
        go_wp2_with (refine wpList_store_row rfl 28 (.tmp 4) (.tmp 251) rfl (w.heap.size + 1 + 1) #[.slice b0 m0 d0, .slice b1 m1 d1, .slice (some ⟨g1, 0, none⟩) 3 cap] rfl rfl _ _ p4 (by kernel_rfl) rfl (three_cells _ _ _ _ _ _ _ _ _) ?_)
        have hbz := below_setRow hb1 (g := w.heap.size + 1 + 1) (by omega) #[.slice b0 m0 d0, .slice b1 m1 d1, .slice (some ⟨g1, 0, none⟩) 3 cap]
        refine bodyPost_ret (results_row_tmp rfl _ _ (w.heap.size + 1 + 1) _ _ _ _ rfl (setRow_heap _ _ _ _ _ _ p4) Tryz.underlying28 rfl (by kernel_rfl)) rfl ?_
        exact ⟨_, _, _, _, _, _, _, _, _, by rw [HV.out]; rfl, by rw [HV.out]; exact hat _ _ _ _ _ hW hbz hlen (hEn.grown (row_grown _ _ _) (fun b off e => by injection e with e; injection e with e _ _; intro e2; injection e2 with e2; omega)) _ _ _ hl3 (hcur.clis (heap_kept (row_grown _ _ _) p9 (by intro e; injection e with e; omega)) (by omega) hmax (hW.e2.sz)), by rw [HV.out]; exact hn0, by rw [HV.out]; exact hn1, new_at (by omega), hbz⟩
      · rw [if_pos hz] at hv
        have HV := Lib.hid hv
        generalize bookE (sideL W s ++ [(xe, xv)]) = z at hk hz HV
        have g1 : (z == 0) = false := by simp only [beq_eq_false_iff_ne, ne_eq]; exact hz
        have HK := Lib.hid hk
        clear hv hk hz
        refine (HK.out w4 hEn).mono ?_
        rintro e w1 ⟨rfl, hb1⟩
        have p2 := heap_on hb1 p2
        have p3 := heap_on hb1 p3
        have p4 := heap_on hb1 p4
        have p9 := heap_on hb1 p9
        have hEn := hEn.on hb1
        have hb1 := below_on hb4 hb1
        clear hb4
        clear d3_1 d2_s
        go_wp2_with fail
        refine (happenedBad_any z w1).mono ?_
        rintro e w2 ⟨rfl, hb2⟩
        have p2 := heap_on hb2 p2
        have p3 := heap_on hb2 p3
        have p4 := heap_on hb2 p4
        have p9 := heap_on hb2 p9
        have hEn := hEn.on hb2
        have hb2 := below_on hb1 hb2
        clear hb1
        go_wp2_with (refine wpList_store_row rfl 28 (.tmp 4) (.tmp 93) rfl (w.heap.size + 1 + 1) #[.slice none 0 0, .slice none 0 0, .slice none 0 0] rfl rfl _ _ p4 (by kernel_rfl) rfl (three_cells _ _ _ _ _ _ _ _ _) ?_)
        have hbz := below_setRow hb2 (g := w.heap.size + 1 + 1) (by omega) #[.slice none 0 0, .slice none 0 0, .slice none 0 0]
        refine bodyPost_ret (results_row_tmp rfl _ _ (w.heap.size + 1 + 1) _ _ _ _ rfl (setRow_heap _ _ _ _ _ _ p4) Tryz.underlying28 rfl (by kernel_rfl)) rfl ?_
        exact ⟨none, 0, 0, none, 0, 0, none, 0, 0, by rw [HV.out]; rfl, by rw [HV.out]; exact wat_zero _, newOr_none _ _ _ _, newOr_none _ _ _ _, (fun _ _ h => by cases h), hbz⟩

end Go.Proofs.YthhckpnnjegldafGreatFmt
