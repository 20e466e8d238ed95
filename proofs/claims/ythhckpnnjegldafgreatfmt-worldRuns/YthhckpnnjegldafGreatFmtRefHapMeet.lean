/-
  Chapter 11's Do as the document's own reckoning has it: two clients meet.
-/
import Derived.Test.YthhckpnnjegldafGreatFmtRefHapFront
import Derived.Test.YthhckpnnjegldafGreatFmtBooks
import Derived.Test.YthhckpnnjegldafGreatFmtRefMeets
import Derived.Test.YthhckpnnjegldafGreatFmtShown
namespace Go.Proofs.YthhckpnnjegldafGreatFmt
open Go Go.RowKit Go.Kit Go.Extern.Stop Go.Stop Go.Extern


set_option maxHeartbeats 16000000 in
set_option maxRecDepth 100000 in
theorem happened_meet (I : Interp) (W : WB) (a0 : Option Addr) (n0 c0 : Nat) (a1 : Option Addr) (n1 c1 : Nat) (a2 : Option Addr) (c2 : Nat) (s j i : Nat) (xe : Int) (xv : ByteArray) (w : World) (hF : I.told.answers w.tape) (hW : WAt w a0 n0 c0 a1 n1 c1 a2 3 c2 W) (hG : worldE W = 0) (hs : s < 2) (hj : j < 3) (hi : i < 3) :
    Calls Tryz.prog 13 #[.agg #[.slice a0 n0 c0, .slice a1 n1 c1, .slice a2 3 c2], .agg #[.int .i64 4, .int .i64 s, .int .i64 j, .int .i64 i, .int .i64 xe, .string xv]] w fun e w' => ∃ b0 m0 d0 b1 m1 d1 b2 m2 d2, e = .returned (.tuple #[.agg #[.slice b0 m0 d0, .slice b1 m1 d1, .slice b2 m2 d2], .int .i64 (hapV W ⟨4, s, j, i, (xe, xv)⟩).2]) ∧ WAt w' b0 m0 d0 b1 m1 d1 b2 m2 d2 (hapV W ⟨4, s, j, i, (xe, xv)⟩).1 ∧ NewOr w a0 W.b0 b0 (hapV W ⟨4, s, j, i, (xe, xv)⟩).1.b0 ∧ NewOr w a1 W.b1 b1 (hapV W ⟨4, s, j, i, (xe, xv)⟩).1.b1 ∧ (∀ blk off, b2 = some ⟨blk, off, none⟩ → w.heap.size ≤ blk) ∧ Below w.heap.size w w' := by
  have hl3 := ((worldE_iff W).1 hG).2.2.1
  have hC := fun w1 hS => clone_clis W.cs a2 3 c2 w1 hl3 (by omega) (by omega) hS
  have HC := Lib.hid hC
  clear hC
  obtain ⟨q2, q3, q4, q0⟩ := boxes3 w (.cells #[.slice a0 n0 c0, .slice a1 n1 c1, .slice a2 3 c2] 28) (.cells #[.int .i64 4, .int .i64 s, .int .i64 j, .int .i64 i, .int .i64 xe, .string xv] 32) (.cells #[.slice none 0 0, .slice none 0 0, .slice none 0 0] 28)
  have hb0 := below3 w (.cells #[.slice a0 n0 c0, .slice a1 n1 c1, .slice a2 3 c2] 28) (.cells #[.int .i64 4, .int .i64 s, .int .i64 j, .int .i64 i, .int .i64 xe, .string xv] 32) (.cells #[.slice none 0 0, .slice none 0 0, .slice none 0 0] 28)
  have d3_0 := heap_cell q3 0 _ rfl
  have d3_1 := heap_cell q3 1 _ rfl
  have d3_2 := heap_cell q3 2 _ rfl
  have d3_3 := heap_cell q3 3 _ rfl
  go_enter Tryz.func13, Tryz.ntmps13
  go_wp2_with fail
  generalize (((w.alloc (.cells #[.slice a0 n0 c0, .slice a1 n1 c1, .slice a2 3 c2] 28)).alloc (.cells #[.int .i64 4, .int .i64 s, .int .i64 j, .int .i64 i, .int .i64 xe, .string xv] 32)).alloc (.cells #[.slice none 0 0, .slice none 0 0, .slice none 0 0] 28)) = w0 at q2 q3 q4 q0 hb0 d3_0 d3_1 d3_2 d3_3 ⊢
  refine (in_yes 4 1 5 w0 (by omega) (by omega)).mono ?_
  rintro e _ ⟨rfl, rfl⟩
  go_wp2_with fail
  refine (in_yes s 0 1 w0 (by omega) (by omega)).mono ?_
  rintro e _ ⟨rfl, rfl⟩
  go_wp2_with fail
  refine (in_yes j 0 2 w0 (by omega) (by omega)).mono ?_
  rintro e _ ⟨rfl, rfl⟩
  go_wp2_with fail
  refine (in_yes i 0 2 w0 (by omega) (by omega)).mono ?_
  rintro e _ ⟨rfl, rfl⟩
  have d2_2 := heap_cell q2 2 _ rfl
  go_wp2_with fail
  refine (HC.out w0 (hW.e2.on hb0)).mono ?_
  rintro e w1 ⟨g1, cap, rfl, hown, hb1⟩
  obtain ⟨cur, q9, hg1, hcap, hmax, hcur, hsz⟩ := own_cur hown
  have hg1 : w.heap.size + 1 + 1 + 1 ≤ g1 := by rw [q0] at hg1; exact hg1
  have q2 := heap_on hb1 q2
  have q3 := heap_on hb1 q3
  have q4 := heap_on hb1 q4
  have hb1 := below_on hb0 hb1
  clear hb0 hown d2_2 HC d3_0 d3_1 d3_2 d3_3
  have d2_2 := heap_cell q2 2 _ rfl
  have f2_2 := frozen_of_row w1 w.heap.size 2 _ _ q2
  go_upto_region 7 with fail
  clear d2_2 f2_2
  have p2 := heap_setCell_same w1 w.heap.size 2 _ _ (.slice (some ⟨g1, 0, none⟩) 3 cap) q2
  rw [show (#[.slice a0 n0 c0, .slice a1 n1 c1, .slice a2 3 c2] : Array Value).setIfInBounds 2 (.slice (some ⟨g1, 0, none⟩) 3 cap) = #[.slice a0 n0 c0, .slice a1 n1 c1, (.slice (some ⟨g1, 0, none⟩) 3 cap)] from rfl] at p2
  have p3 := (heap_setCell_other w1 ⟨w.heap.size, 2, none⟩ (w.heap.size + 1) (.slice (some ⟨g1, 0, none⟩) 3 cap) (by simp)).trans q3
  have p4 := (heap_setCell_other w1 ⟨w.heap.size, 2, none⟩ (w.heap.size + 1 + 1) (.slice (some ⟨g1, 0, none⟩) 3 cap) (by show _ ≠ w.heap.size; omega)).trans q4
  have p9 := (heap_setCell_other w1 ⟨w.heap.size, 2, none⟩ g1 (.slice (some ⟨g1, 0, none⟩) 3 cap) (by show _ ≠ w.heap.size; omega)).trans q9
  have hb2 : Below w.heap.size w (w1.setCell ⟨w.heap.size, 2, none⟩ (.slice (some ⟨g1, 0, none⟩) 3 cap)) := by rw [setCell_eq_setRow w1 w.heap.size 2 _ _ _ _ q2]; exact below_setRow hb1 (Nat.le_refl _) _
  generalize w1.setCell ⟨w.heap.size, 2, none⟩ (.slice (some ⟨g1, 0, none⟩) 3 cap) = w2 at p2 p3 p4 p9 hb2 ⊢
  clear q2 q3 q4 q9 hb1
  obtain ⟨sa, sn, sc, hsv, hsn, hsE⟩ := side_ents hW s
  have z0 := side_cell p2 hs
  rw [hsv] at z0
  obtain ⟨z1, z2, z3, z4⟩ := hcur.four p9 (i := j) (by omega)
  obtain ⟨cc, hcc⟩ : ∃ cc, cliOf W.cs j = cc := ⟨_, rfl⟩
  rw [hcc] at z1 z2 z3 z4
  obtain ⟨cn, ca, cb, cf⟩ := cc
  simp only at z1 z2 z3 z4
  have HJ := Lib.hid hcc
  clear hcc
  have hs1 : (s : Int) < 2 := by omega
  have hj1 : (j : Int) < 3 := by omega
  go_cut [7, 8] (fun t7 t8 w' => ∃ gb gc, t7 = .pointer (some ⟨gb, 0, none⟩) ∧ t8 = .pointer (some ⟨gc, 0, none⟩) ∧ gb ≠ gc ∧ w2.heap.size ≤ gb ∧ w2.heap.size ≤ gc ∧ w'.heap[gb]? = some (.cells #[.slice sa sn sc] 24) ∧ w'.heap[gc]? = some (.cells #[.int .i64 cn, .string ca, .string cb, .bool cf] 55) ∧ Below w2.heap.size w2 w')
  case first =>
    have d3_1 := heap_cell p3 1 _ rfl
    have d3_2 := heap_cell p3 2 _ rfl
    have d2_2 := heap_cell p2 2 _ rfl
    have k2 := (Array.getElem?_eq_some_iff.1 p2).1
    have k3 := (Array.getElem?_eq_some_iff.1 p3).1
    have k9 := (Array.getElem?_eq_some_iff.1 p9).1
    go_region
    all_goals
      go_wp2_with fail
      go_meet
      case rel => first
        | exact ⟨w2.heap.size, w2.heap.size + 1, rfl, rfl, by omega, by omega, by omega, (boxes2 w2 (.cells #[.slice sa sn sc] 24) (.cells #[.int .i64 cn, .string ca, .string cb, .bool cf] 55)).1, (boxes2 w2 (.cells #[.slice sa sn sc] 24) (.cells #[.int .i64 cn, .string ca, .string cb, .bool cf] 55)).2.1, (boxes2 w2 (.cells #[.slice sa sn sc] 24) (.cells #[.int .i64 cn, .string ca, .string cb, .bool cf] 55)).2.2.drew⟩
        | exact ⟨w2.heap.size + 1, w2.heap.size, rfl, rfl, by omega, by omega, by omega, (boxes2 w2 (.cells #[.int .i64 cn, .string ca, .string cb, .bool cf] 55) (.cells #[.slice sa sn sc] 24)).2.1, (boxes2 w2 (.cells #[.int .i64 cn, .string ca, .string cb, .bool cf] 55) (.cells #[.slice sa sn sc] 24)).1, (boxes2 w2 (.cells #[.int .i64 cn, .string ca, .string cb, .bool cf] 55) (.cells #[.slice sa sn sc] 24)).2.2.drew⟩
  case rest =>
    obtain ⟨gb, gc, rfl, rfl, hbc, hgb, hgc, p7, p8, hbr⟩ := hcut
    obtain ⟨w3, hw3⟩ : ∃ x, x = wc := ⟨_, rfl⟩
    subst hw3
    clear z0 z1 z2 z3 z4
    have y4 := (Array.getElem?_eq_some_iff.1 p4).1
    have p2 := heap_on hbr p2
    have p3 := heap_on hbr p3
    have p4 := heap_on hbr p4
    have p9 := heap_on hbr p9
    have hb3 := below_on hb2 hbr
    clear hb2 hbr
    have m2 := (Array.getElem?_eq_some_iff.1 p2).1
    have m3 := (Array.getElem?_eq_some_iff.1 p3).1
    have m4 := (Array.getElem?_eq_some_iff.1 p4).1
    have m9 := (Array.getElem?_eq_some_iff.1 p9).1
    obtain ⟨hb0, hb1, _, hce⟩ := (worldE_iff W).1 hG
    have hcj := hce _ (cliOf_mem (l := W.cs) (i := j) (by omega))
    have hci := hce _ (cliOf_mem (l := W.cs) (i := i) (by omega))
    clear hce
    have HV1 := Lib.hid (hapV_met (W := W) (e := (xe, xv)) hs hj hi)
    have HV2 := Lib.hid (hapV_unmet (W := W) (e := (xe, xv)) hs hj hi)
    obtain ⟨z1, z2, z3, _⟩ := hcur.four p9 (i := i) (by omega)
    rw [HJ.out] at hcj HV1 HV2
    obtain ⟨cc, hcc⟩ : ∃ cc, cliOf W.cs i = cc := ⟨_, rfl⟩
    rw [hcc] at z1 z2 z3 hci HV1 HV2
    obtain ⟨qn, qa, qb, qf⟩ := cc
    simp only at z1 z2 z3
    have HI := Lib.hid hcc
    clear hcc
    obtain ⟨cn1, cn2, cn3, cn4⟩ := (headE_iff cn ca cb).1 hcj
    obtain ⟨qn1, qn2, qn3, qn4⟩ := (headE_iff qn qa qb).1 hci
    clear hcj hci
    obtain ⟨m1, rfl⟩ : ∃ m : Nat, cn = (m : Int) := ⟨cn.toNat, by omega⟩
    obtain ⟨m2, rfl⟩ : ∃ m : Nat, qn = (m : Int) := ⟨qn.toNat, by omega⟩
    have d3_0 := heap_cell p3 0 _ rfl
    go_upto_region 25 with fail
    clear d3_0
    have hi1 : (i : Int) < 3 := by omega
    go_cut [13, 14] (fun t7 t8 w' => ∃ gp gq, t7 = .pointer (some ⟨gp, 0, none⟩) ∧ t8 = .pointer (some ⟨gq, 0, none⟩) ∧ gp ≠ gq ∧ w3.heap.size ≤ gp ∧ w3.heap.size ≤ gq ∧ w'.heap[gp]? = some (.cells #[.int .i64 (m1 : Int), .string ca, .string cb] 53) ∧ w'.heap[gq]? = some (.cells #[.int .i64 (m2 : Int), .string qa, .string qb] 53) ∧ Below w3.heap.size w3 w')
    case first =>
      have d8_0 := heap_cell p8 0 _ rfl
      have d8_1 := heap_cell p8 1 _ rfl
      have d8_2 := heap_cell p8 2 _ rfl
      have d3_3 := heap_cell p3 3 _ rfl
      have d2_2 := heap_cell p2 2 _ rfl
      have k2 := (Array.getElem?_eq_some_iff.1 p2).1
      have k3 := (Array.getElem?_eq_some_iff.1 p3).1
      have k9 := (Array.getElem?_eq_some_iff.1 p9).1
      have k8 := (Array.getElem?_eq_some_iff.1 p8).1
      go_region
      all_goals
        go_wp2_with fail
        go_meet
        case rel => first
          | exact ⟨w3.heap.size, w3.heap.size + 1, rfl, rfl, by omega, by omega, by omega, (boxes2 w3 (.cells #[.int .i64 (m1 : Int), .string ca, .string cb] 53) (.cells #[.int .i64 (m2 : Int), .string qa, .string qb] 53)).1, (boxes2 w3 (.cells #[.int .i64 (m1 : Int), .string ca, .string cb] 53) (.cells #[.int .i64 (m2 : Int), .string qa, .string qb] 53)).2.1, (boxes2 w3 (.cells #[.int .i64 (m1 : Int), .string ca, .string cb] 53) (.cells #[.int .i64 (m2 : Int), .string qa, .string qb] 53)).2.2.drew⟩
          | exact ⟨w3.heap.size + 1, w3.heap.size, rfl, rfl, by omega, by omega, by omega, (boxes2 w3 (.cells #[.int .i64 (m2 : Int), .string qa, .string qb] 53) (.cells #[.int .i64 (m1 : Int), .string ca, .string cb] 53)).2.1, (boxes2 w3 (.cells #[.int .i64 (m2 : Int), .string qa, .string qb] 53) (.cells #[.int .i64 (m1 : Int), .string ca, .string cb] 53)).1, (boxes2 w3 (.cells #[.int .i64 (m2 : Int), .string qa, .string qb] 53) (.cells #[.int .i64 (m1 : Int), .string ca, .string cb] 53)).2.2.drew⟩
    case rest =>
      obtain ⟨gp, gq, rfl, rfl, hpq, hgp, hgq, p13, p14, hbc⟩ := hcut
      obtain ⟨w4, hw4⟩ : ∃ x, x = wc := ⟨_, rfl⟩
      subst hw4
      clear z1 z2 z3
      have p2 := heap_on hbc p2
      have p3 := heap_on hbc p3
      have p4 := heap_on hbc p4
      have p9 := heap_on hbc p9
      have hb4 := below_on hb3 hbc
      clear hb3 hbc p7 p8
      have hm0 := fun w1 hF => meets_any I (m1 : Int) ca cb (m2 : Int) qa qb [] none 0 0 w1 hF rfl (strs_none w1) (fun s hs => by cases hs)
      have hk0 : okK W ((m1 : Int), ca, cb, cf) ((m2 : Int), qa, qb, qf) 0 = (meetE (m1 : Int) ca cb (m2 : Int) qa qb [] == 0) := rfl
      generalize meetE (m1 : Int) ca cb (m2 : Int) qa qb [] = y0 at hm0 hk0
      have HM := Lib.hid hm0
      have HK0 := Lib.hid hk0
      clear hm0 hk0
      have dp13_0 := heap_cell p13 0 _ rfl
      have dp13_1 := heap_cell p13 1 _ rfl
      have dp13_2 := heap_cell p13 2 _ rfl
      have dp14_0 := heap_cell p14 0 _ rfl
      have dp14_1 := heap_cell p14 1 _ rfl
      have dp14_2 := heap_cell p14 2 _ rfl
      go_wp2_with fail
      refine (HM.out w4 (by rw [(hb4).tape]; exact hF)).mono ?_
      rintro e w1 ⟨rfl, hb1⟩
      have p2 := heap_on hb1 p2
      have p3 := heap_on hb1 p3
      have p4 := heap_on hb1 p4
      have p9 := heap_on hb1 p9
      have p13 := heap_on hb1 p13
      have p14 := heap_on hb1 p14
      have hb1 := below_on hb4 hb1
      clear hb4
      clear dp13_0 dp13_1 dp13_2 dp14_0 dp14_1 dp14_2
      have d2_0 := heap_cell p2 0 _ rfl
      have d2_1 := heap_cell p2 1 _ rfl
      go_wp2_with fail
      rw [← HK0.out]
      clear d2_0 d2_1
      obtain ⟨M, hM⟩ : ∃ M, max m1 m2 = M := ⟨_, rfl⟩
      obtain ⟨N, hN⟩ : ∃ N, min m1 m2 = N := ⟨_, rfl⟩
      have hmx : max (m1 : Int) (m2 : Int) = (M : Int) := by omega
      have hmn : min (m1 : Int) (m2 : Int) = (N : Int) := by omega
      clear hM hN
      have hst := fun k => show okK W ((m1 : Int), ca, cb, cf) ((m2 : Int), qa, qb, qf) (k + 1) = if metBy ((m1 : Int), ca, cb, cf) ((m2 : Int), qa, qb, qf) (sideL W (k : Int)) then true else okK W ((m1 : Int), ca, cb, cf) ((m2 : Int), qa, qb, qf) k from rfl
      obtain ⟨OK, hOK⟩ : ∃ OK : Nat → Bool, okK W ((m1 : Int), ca, cb, cf) ((m2 : Int), qa, qb, qf) = OK := ⟨_, rfl⟩
      rw [hOK] at HV1 HV2
      simp only [hOK] at hst ⊢
      have HST := Lib.hid hst
      clear hst hOK HK0
      obtain ⟨wL, hwL⟩ : ∃ x, x = w1 := ⟨_, rfl⟩
      subst hwL
      go_loopg [165, 15] 2 (fun gh s165 s15 wr => ∃ k : Nat, s165 = .int .i64 (k : Int) ∧ k ≤ 2 ∧ 2 - k ≤ gh ∧ s15 = .bool (OK k) ∧ Below wL.heap.size wL wr)
      case atStart => exact ⟨0, rfl, Nat.zero_le _, by omega, rfl, Below.refl _ _⟩
      case round =>
        obtain ⟨k, rfl, hk2, hgh, rfl, hbr⟩ := hrel
        rcases Nat.lt_or_ge k 2 with hk | hk
        · obtain ⟨ta, tn, tc, htv, htn, htE⟩ := side_ents hW k
          have hix := run_books k hk (.slice a0 n0 c0) (.slice a1 n1 c1) wr
          rw [htv] at hix
          have hk1 : (k : Int) < 2 := by omega
          have hb7 := below_on hb1 hbr
          have p13 := heap_on hbr p13
          have p14 := heap_on hbr p14
          have dq0 := heap_cell p13 0 _ rfl
          have dq1 := heap_cell p14 0 _ rfl
          have p17 := heap_push wr (.cells #[.slice ta tn tc] 24)
          have p13 := heap_old wr (.cells #[.slice ta tn tc] 24) p13
          have p14 := heap_old wr (.cells #[.slice ta tn tc] 24) p14
          have hb8 := hb7.alloc hb7.size (.cells #[.slice ta tn tc] 24)
          have hbr8 := hbr.alloc hbr.size (.cells #[.slice ta tn tc] 24)
          have dr0 := heap_cell p13 0 _ rfl
          have dr1 := heap_cell p14 0 _ rfl
          go_upto_region 31 with fail
          generalize (wr.alloc (.cells #[.slice ta tn tc] 24)) = w5 at p13 p14 p17 hb8 hbr8 dr0 dr1 ⊢
          generalize wr.heap.size = B17 at p17 ⊢
          clear dq0 dq1 dr0 dr1 hix hb7 hbr
          have HB1 := Lib.hid (HST.out k)
          have k1 := (Array.getElem?_eq_some_iff.1 p13).1
          have k2 := (Array.getElem?_eq_some_iff.1 p14).1
          have k3 := (Array.getElem?_eq_some_iff.1 p17).1
          by_cases hle : M ≤ tn
          · have hle1 : (M : Int) ≤ (tn : Int) := by omega
            have hle2 : decide ((M : Int) ≤ (tn : Int)) = true := decide_eq_true hle1
            have hle3 : decide (M ≤ tn) = true := decide_eq_true hle
            have hgk := good_take (side_good hG (k : Int)) M
            have htM : ((sideL W k).take M).length = M := by rw [List.length_take]; omega
            have hgr := fun w1 hF hS => growth_any I ((sideL W k).take M) ta M tc (N : Int) w1 hF htM hS hgk
            have hbig := growL_size ((sideL W k).take M) (N : Int)
            have hbv : metBy ((m1 : Int), ca, cb, cf) ((m2 : Int), qa, qb, qf) (sideL W (k : Int)) ↔ meetE (m1 : Int) ca cb (m2 : Int) qa qb (growL ((sideL W k).take M) (N : Int)) = 0 := by
              show (max (m1 : Int) (m2 : Int) ≤ _ ∧ meetE (m1 : Int) ca cb (m2 : Int) qa qb (growL ((sideL W (k : Int)).take (max (m1 : Int) (m2 : Int)).toNat) (min (m1 : Int) (m2 : Int))) = 0) ↔ _
              rw [hmx, hmn, Int.toNat_natCast]
              exact ⟨fun h => h.2, fun h => ⟨by omega, h⟩⟩
            generalize growL ((sideL W k).take M) (N : Int) = G at hgr hbig hbv
            have hme := fun a c w1 hF hS => meets_any I (m1 : Int) ca cb (m2 : Int) qa qb G a G.length c w1 hF rfl hS hbig
            generalize meetE (m1 : Int) ca cb (m2 : Int) qa qb G = z at hme hbv
            have hcap := htE.cap
            have htk := fun w1 => run_take ta tn tc M (by omega) w1
            have HBV := Lib.hid hbv
            have HGR := Lib.hid hgr
            have HME := Lib.hid hme
            clear hbv hgr hme hbig hgk htM
            go_cut [193] (fun r w' => r = .bool (z == 0) ∧ Below w5.heap.size w5 w')
            case first =>
              have hS0 : Below w5.heap.size w5 w5.drew ∧ w5.drew.cell? ⟨gp, 0, none⟩ = some (.int .i64 (m1 : Int)) ∧ w5.drew.cell? ⟨gp, 1, none⟩ = some (.string ca) ∧ w5.drew.cell? ⟨gp, 2, none⟩ = some (.string cb) ∧ w5.drew.cell? ⟨gq, 0, none⟩ = some (.int .i64 (m2 : Int)) ∧ w5.drew.cell? ⟨gq, 1, none⟩ = some (.string qa) ∧ w5.drew.cell? ⟨gq, 2, none⟩ = some (.string qb) ∧ w5.drew.cell? ⟨B17, 0, none⟩ = some (.slice ta tn tc) := ⟨(Below.refl _ _).drew, heap_cell p13 0 _ rfl, heap_cell p13 1 _ rfl, heap_cell p13 2 _ rfl, heap_cell p14 0 _ rfl, heap_cell p14 1 _ rfl, heap_cell p14 2 _ rfl, heap_cell p17 0 _ rfl⟩
              have HL := Lib.hid (fun w' (h : Below w5.heap.size w5 w' ∧ w'.cell? ⟨gp, 0, none⟩ = some (.int .i64 (m1 : Int)) ∧ w'.cell? ⟨gp, 1, none⟩ = some (.string ca) ∧ w'.cell? ⟨gp, 2, none⟩ = some (.string cb) ∧ w'.cell? ⟨gq, 0, none⟩ = some (.int .i64 (m2 : Int)) ∧ w'.cell? ⟨gq, 1, none⟩ = some (.string qa) ∧ w'.cell? ⟨gq, 2, none⟩ = some (.string qb) ∧ w'.cell? ⟨B17, 0, none⟩ = some (.slice ta tn tc)) => below_on hb8 h.1)
              have HB := Lib.hid (fun w' (h : Below w5.heap.size w5 w' ∧ w'.cell? ⟨gp, 0, none⟩ = some (.int .i64 (m1 : Int)) ∧ w'.cell? ⟨gp, 1, none⟩ = some (.string ca) ∧ w'.cell? ⟨gp, 2, none⟩ = some (.string cb) ∧ w'.cell? ⟨gq, 0, none⟩ = some (.int .i64 (m2 : Int)) ∧ w'.cell? ⟨gq, 1, none⟩ = some (.string qa) ∧ w'.cell? ⟨gq, 2, none⟩ = some (.string qb) ∧ w'.cell? ⟨B17, 0, none⟩ = some (.slice ta tn tc)) => h.1)
              have CG := Lib.hid (fun w' (h : Below w5.heap.size w5 w' ∧ w'.cell? ⟨gp, 0, none⟩ = some (.int .i64 (m1 : Int)) ∧ w'.cell? ⟨gp, 1, none⟩ = some (.string ca) ∧ w'.cell? ⟨gp, 2, none⟩ = some (.string cb) ∧ w'.cell? ⟨gq, 0, none⟩ = some (.int .i64 (m2 : Int)) ∧ w'.cell? ⟨gq, 1, none⟩ = some (.string qa) ∧ w'.cell? ⟨gq, 2, none⟩ = some (.string qb) ∧ w'.cell? ⟨B17, 0, none⟩ = some (.slice ta tn tc)) => HGR.out w' (by rw [(HL.out w' h).tape]; exact hF) ((htE.take M).on (HL.out w' h)))
              have CM := Lib.hid (fun a c w' (h : Below w5.heap.size w5 w' ∧ w'.cell? ⟨gp, 0, none⟩ = some (.int .i64 (m1 : Int)) ∧ w'.cell? ⟨gp, 1, none⟩ = some (.string ca) ∧ w'.cell? ⟨gp, 2, none⟩ = some (.string cb) ∧ w'.cell? ⟨gq, 0, none⟩ = some (.int .i64 (m2 : Int)) ∧ w'.cell? ⟨gq, 1, none⟩ = some (.string qa) ∧ w'.cell? ⟨gq, 2, none⟩ = some (.string qb) ∧ w'.cell? ⟨B17, 0, none⟩ = some (.slice ta tn tc)) (hS : StrsAt w' a c G) => HME.out a c w' (by rw [(HL.out w' h).tape]; exact hF) hS)
              go_region_held3 (fun w' => Below w5.heap.size w5 w' ∧ w'.cell? ⟨gp, 0, none⟩ = some (.int .i64 (m1 : Int)) ∧ w'.cell? ⟨gp, 1, none⟩ = some (.string ca) ∧ w'.cell? ⟨gp, 2, none⟩ = some (.string cb) ∧ w'.cell? ⟨gq, 0, none⟩ = some (.int .i64 (m2 : Int)) ∧ w'.cell? ⟨gq, 1, none⟩ = some (.string qa) ∧ w'.cell? ⟨gq, 2, none⟩ = some (.string qb) ∧ w'.cell? ⟨B17, 0, none⟩ = some (.slice ta tn tc))
                (first | assumption | exact hold7 k1 k2 k3 (by assumption) (by assumption))
                (first
                  | (go_at_call 33; (with_reducible refine (CG.out _ (by assumption)).mono ?_); rintro e w' ⟨aG, cG, rfl, hSG, hb⟩)
                  | (go_at_call 34; (with_reducible refine (CM.out _ _ _ (by assumption) (by assumption)).mono ?_); rintro e w' ⟨rfl, hb⟩))
              all_goals
                go_wp2_with fail
                go_meet
                case rel => exact ⟨rfl, HB.out _ (by assumption)⟩
            case rest =>
              obtain ⟨rfl, hbc⟩ := hcut
              obtain ⟨w6, hw6⟩ : ∃ x, x = wc := ⟨_, rfl⟩
              subst hw6
              have hbr9 := below_on hbr8 hbc
              clear hb8 hbr8 p17 k1 k2 k3 HGR HME hle1 hle2 hle3 htk hbc
              by_cases hz : z = 0
              · have hok : OK (k + 1) = true := by rw [HB1.out]; exact if_pos (HBV.out.2 hz)
                subst hz
                clear HBV HB1 p13 p14
                go_wp2_with fail
                go_roundg (2 - (k + 1))
                case rel => exact ⟨k + 1, by go_num, by omega, by omega, by rw [hok], hbr9⟩
                case measure => omega
              · have hok : OK (k + 1) = OK k := by rw [HB1.out]; exact if_neg (fun h => hz (HBV.out.1 h))
                have zf1 : (z == 0) = false := by simp only [beq_eq_false_iff_ne, ne_eq]; exact hz
                clear hz
                clear HBV HB1 p13 p14
                go_wp2_with fail
                go_roundg (2 - (k + 1))
                case rel => exact ⟨k + 1, by go_num, by omega, by omega, by rw [hok], hbr9⟩
                case measure => omega
          · have hle1 : ¬ (M : Int) ≤ (tn : Int) := by omega
            have hle2 : decide ((M : Int) ≤ (tn : Int)) = false := decide_eq_false hle1
            have hle3 : decide (M ≤ tn) = false := decide_eq_false hle
            have hok : OK (k + 1) = OK k := by
              rw [HB1.out]
              refine if_neg (fun h => hle ?_)
              have h1 : max (m1 : Int) (m2 : Int) ≤ ((sideL W k).length : Int) := h.1
              rw [hmx, htn] at h1
              omega
            go_cut [193] (fun r w' => r = .bool false ∧ Below w5.heap.size w5 w')
            case first =>
              have dq := heap_cell p17 0 _ rfl
              go_region
              all_goals
                go_wp2_with fail
                go_meet
                case rel => exact ⟨rfl, (Below.refl _ _).drew⟩
            case rest =>
              obtain ⟨rfl, hbc⟩ := hcut
              obtain ⟨w6, hw6⟩ : ∃ x, x = wc := ⟨_, rfl⟩
              subst hw6
              have hbr9 := below_on hbr8 hbc
              clear hb8 hbr8 p17 k1 k2 k3 hle1 hle2 hle3 hbc HB1 p13 p14
              go_wp2_with fail
              go_roundg (2 - (k + 1))
              case rel => exact ⟨k + 1, by go_num, by omega, by omega, by rw [hok], hbr9⟩
              case measure => omega
        · obtain rfl : k = 2 := by omega
          clear p13 p14 HST
          have p2 := heap_on hbr p2
          have p3 := heap_on hbr p3
          have p4 := heap_on hbr p4
          have p9 := heap_on hbr p9
          have hb9 := below_on hb1 hbr
          clear hbr
          obtain ⟨b2, hb2⟩ : ∃ b, OK 2 = b := ⟨_, rfl⟩
          rw [hb2] at HV1 HV2 ⊢
          clear hb2
          obtain ⟨w7, hw7⟩ : ∃ x, x = wr := ⟨_, rfl⟩
          subst hw7
          cases b2 with
          | true =>
            have HV := Lib.hid (HV1.out rfl)
            clear HV1 HV2
            go_upto_region 44 with fail
            have e0 := heap_cell p2 0 _ rfl
            have e1 := heap_cell p2 1 _ rfl
            have e2 := heap_cell p2 2 _ rfl
            go_wp2_with (refine wpList_store_row rfl 28 (.tmp 4) (.tmp 251) rfl (w.heap.size + 1 + 1) #[.slice a0 n0 c0, .slice a1 n1 c1, .slice (some ⟨g1, 0, none⟩) 3 cap] rfl rfl _ _ p4 (by kernel_rfl) rfl (three_cells _ _ _ _ _ _ _ _ _) ?_)
            have hbz := below_setRow hb9 (g := w.heap.size + 1 + 1) (by omega) #[.slice a0 n0 c0, .slice a1 n1 c1, .slice (some ⟨g1, 0, none⟩) 3 cap]
            refine bodyPost_ret (results_row_tmp rfl _ _ (w.heap.size + 1 + 1) _ _ _ _ rfl (setRow_heap _ _ _ _ _ _ p4) Tryz.underlying28 rfl (by kernel_rfl)) rfl ?_
            exact ⟨_, _, _, _, _, _, _, _, _, by rw [HV.out]; rfl, by rw [HV.out]; exact ⟨hW.l0, hW.e0.on hbz, hW.l1, hW.e1.on hbz, hl3, hcur.clis (heap_kept (row_grown _ _ _) p9 (by intro e; injection e with e; omega)) (by omega) hmax hW.e2.sz⟩, .inl ⟨rfl, by rw [HV.out]⟩, .inl ⟨rfl, by rw [HV.out]⟩, new_at (by omega), hbz⟩
          | false =>
            have HV := HV2.out rfl
            rw [← HJ.out, ← HI.out] at HV
            have HV := Lib.hid HV
            clear HV1 HV2
            go_upto_region 35 with fail
            have hj3 : j < W.cs.length := by omega
            have hi3 : i < W.cs.length := by omega
            have R1 := both_rel hb9 (by omega) p9 hcur hj3 hi3 p2 p3 p4 (by omega) (by omega) (by omega)
            have R2 := both_back hb9 (by omega) p9 hcur hj3 hi3 p2 p3 p4 (by omega) (by omega) (by omega)
            have R1 := Lib.hid R1
            have R2 := Lib.hid R2
            have hw3 := wide_set (wide_set hW.e2.sz j (fool_wide hW.e2.sz (j := j) (by omega))) i (fool_wide hW.e2.sz (j := i) (by omega))
            have d2_2 := heap_cell p2 2 _ rfl
            have d3_2 := heap_cell p3 2 _ rfl
            have d3_3 := heap_cell p3 3 _ rfl
            have z1 := (hcur.four p9 (i := j) (by omega)).2.2.2
            have z2 := (hcur.four p9 (i := i) (by omega)).2.2.2
            rw [HJ.out] at z1
            rw [HI.out] at z2
            simp only at z1 z2
            have y1 := frozen_of_row w7 g1 (j * 4 + 3) _ _ p9
            have y2 := frozen_of_row w7 g1 (i * 4 + 3) _ _ p9
            by_cases hij : i = j
            · subst hij
              go_region
              all_goals
                go_upto_region 44 with fail
                have R0 := R1.out
                obtain ⟨⟨cur2, r9, hcur2⟩, r2, r3, r4, hb8⟩ := R0
                have hb8 := hb8.drew
                have r9 : ((w7.setCell ⟨g1, i * 4 + 3, none⟩ (.bool true)).setCell ⟨g1, i * 4 + 3, none⟩ (.bool true)).drew.heap[g1]? = _ := r9
                have p2 : ((w7.setCell ⟨g1, i * 4 + 3, none⟩ (.bool true)).setCell ⟨g1, i * 4 + 3, none⟩ (.bool true)).drew.heap[w.heap.size]? = _ := r2
                have p4 : ((w7.setCell ⟨g1, i * 4 + 3, none⟩ (.bool true)).setCell ⟨g1, i * 4 + 3, none⟩ (.bool true)).drew.heap[w.heap.size + 1 + 1]? = _ := r4
                generalize ((w7.setCell ⟨g1, i * 4 + 3, none⟩ (.bool true)).setCell ⟨g1, i * 4 + 3, none⟩ (.bool true)).drew = w8 at r9 p2 p4 hb8 ⊢
                clear d2_2 d3_2 d3_3 z1 z2 y1 y2 r2 r3 r4 R1 R2
                have e0 := heap_cell p2 0 _ rfl
                have e1 := heap_cell p2 1 _ rfl
                have e2 := heap_cell p2 2 _ rfl
                go_wp2_with (refine wpList_store_row rfl 28 (.tmp 4) (.tmp 251) rfl (w.heap.size + 1 + 1) #[.slice a0 n0 c0, .slice a1 n1 c1, .slice (some ⟨g1, 0, none⟩) 3 cap] rfl rfl _ _ p4 (by kernel_rfl) rfl (three_cells _ _ _ _ _ _ _ _ _) ?_)
                have hbz := below_setRow hb8 (g := w.heap.size + 1 + 1) (by omega) #[.slice a0 n0 c0, .slice a1 n1 c1, .slice (some ⟨g1, 0, none⟩) 3 cap]
                refine bodyPost_ret (results_row_tmp rfl _ _ (w.heap.size + 1 + 1) _ _ _ _ rfl (setRow_heap _ _ _ _ _ _ p4) Tryz.underlying28 rfl (by kernel_rfl)) rfl ?_
                exact ⟨_, _, _, _, _, _, _, _, _, by rw [HV.out]; rfl, by rw [HV.out]; exact ⟨hW.l0, hW.e0.on hbz, hW.l1, hW.e1.on hbz, by show ((W.cs.set _ _).set i _).length = 3; rw [List.length_set, List.length_set]; exact hl3, hcur2.clis (heap_kept (row_grown _ _ _) r9 (by intro e; injection e with e; omega)) (by rw [List.length_set, List.length_set]; omega) hmax hw3⟩, .inl ⟨rfl, by rw [HV.out]⟩, .inl ⟨rfl, by rw [HV.out]⟩, new_at (by omega), hbz⟩
            · have ne1 : i * 4 + 3 ≠ j * 4 + 3 := by omega
              have ne2 : j * 4 + 3 ≠ i * 4 + 3 := by omega
              go_region
              all_goals
                go_upto_region 44 with fail
                have R0 := R1.out
                obtain ⟨⟨cur2, r9, hcur2⟩, r2, r3, r4, hb8⟩ := R0
                have hb8 := hb8.drew
                have r9 : ((w7.setCell ⟨g1, j * 4 + 3, none⟩ (.bool true)).setCell ⟨g1, i * 4 + 3, none⟩ (.bool true)).drew.heap[g1]? = _ := r9
                have p2 : ((w7.setCell ⟨g1, j * 4 + 3, none⟩ (.bool true)).setCell ⟨g1, i * 4 + 3, none⟩ (.bool true)).drew.heap[w.heap.size]? = _ := r2
                have p4 : ((w7.setCell ⟨g1, j * 4 + 3, none⟩ (.bool true)).setCell ⟨g1, i * 4 + 3, none⟩ (.bool true)).drew.heap[w.heap.size + 1 + 1]? = _ := r4
                generalize ((w7.setCell ⟨g1, j * 4 + 3, none⟩ (.bool true)).setCell ⟨g1, i * 4 + 3, none⟩ (.bool true)).drew = w8 at r9 p2 p4 hb8 ⊢
                clear d2_2 d3_2 d3_3 z1 z2 y1 y2 r2 r3 r4 R1 R2
                have e0 := heap_cell p2 0 _ rfl
                have e1 := heap_cell p2 1 _ rfl
                have e2 := heap_cell p2 2 _ rfl
                go_wp2_with (refine wpList_store_row rfl 28 (.tmp 4) (.tmp 251) rfl (w.heap.size + 1 + 1) #[.slice a0 n0 c0, .slice a1 n1 c1, .slice (some ⟨g1, 0, none⟩) 3 cap] rfl rfl _ _ p4 (by kernel_rfl) rfl (three_cells _ _ _ _ _ _ _ _ _) ?_)
                have hbz := below_setRow hb8 (g := w.heap.size + 1 + 1) (by omega) #[.slice a0 n0 c0, .slice a1 n1 c1, .slice (some ⟨g1, 0, none⟩) 3 cap]
                refine bodyPost_ret (results_row_tmp rfl _ _ (w.heap.size + 1 + 1) _ _ _ _ rfl (setRow_heap _ _ _ _ _ _ p4) Tryz.underlying28 rfl (by kernel_rfl)) rfl ?_
                exact ⟨_, _, _, _, _, _, _, _, _, by rw [HV.out]; rfl, by rw [HV.out]; exact ⟨hW.l0, hW.e0.on hbz, hW.l1, hW.e1.on hbz, by show ((W.cs.set _ _).set i _).length = 3; rw [List.length_set, List.length_set]; exact hl3, hcur2.clis (heap_kept (row_grown _ _ _) r9 (by intro e; injection e with e; omega)) (by rw [List.length_set, List.length_set]; omega) hmax hw3⟩, .inl ⟨rfl, by rw [HV.out]⟩, .inl ⟨rfl, by rw [HV.out]⟩, new_at (by omega), hbz⟩

end Go.Proofs.YthhckpnnjegldafGreatFmt
