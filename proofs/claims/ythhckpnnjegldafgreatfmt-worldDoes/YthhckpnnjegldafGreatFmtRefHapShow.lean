/-
  Chapter 11's Do as the document's own reckoning has it: a client is shown a head.
-/
import Derived.Test.YthhckpnnjegldafGreatFmtRefHapFront
import Derived.Test.YthhckpnnjegldafGreatFmtRefHead
import Derived.Test.YthhckpnnjegldafGreatFmtRefFollows
namespace Go.Proofs.YthhckpnnjegldafGreatFmt
open Go Go.RowKit Go.Kit Go.Extern.Stop Go.Stop Go.Extern


set_option maxHeartbeats 16000000 in
set_option maxRecDepth 100000 in
theorem happened_show (I : Interp) (W : WB) (a0 : Option Addr) (n0 c0 : Nat) (a1 : Option Addr) (n1 c1 : Nat) (a2 : Option Addr) (c2 : Nat) (s j i : Nat) (xe : Int) (xv : ByteArray) (w : World) (hF : I.told.answers w.tape) (hW : WAt w a0 n0 c0 a1 n1 c1 a2 3 c2 W) (hG : worldE W = 0) (hs : s < 2) (hj : j < 3) (hi : i < 3) :
    Calls Tryz.prog 13 #[.agg #[.slice a0 n0 c0, .slice a1 n1 c1, .slice a2 3 c2], .agg #[.int .i64 3, .int .i64 s, .int .i64 j, .int .i64 i, .int .i64 xe, .string xv]] w fun e w' => ∃ b0 m0 d0 b1 m1 d1 b2 m2 d2, e = .returned (.tuple #[.agg #[.slice b0 m0 d0, .slice b1 m1 d1, .slice b2 m2 d2], .int .i64 (hapV W ⟨3, s, j, i, (xe, xv)⟩).2]) ∧ WAt w' b0 m0 d0 b1 m1 d1 b2 m2 d2 (hapV W ⟨3, s, j, i, (xe, xv)⟩).1 ∧ NewOr w a0 W.b0 b0 (hapV W ⟨3, s, j, i, (xe, xv)⟩).1.b0 ∧ NewOr w a1 W.b1 b1 (hapV W ⟨3, s, j, i, (xe, xv)⟩).1.b1 ∧ (∀ blk off, b2 = some ⟨blk, off, none⟩ → w.heap.size ≤ blk) ∧ Below w.heap.size w w' := by
  have hl3 := ((worldE_iff W).1 hG).2.2.1
  have hC := fun w1 hS => clone_clis W.cs a2 3 c2 w1 hl3 (by omega) (by omega) hS
  have HC := Lib.hid hC
  clear hC
  obtain ⟨q2, q3, q4, q0⟩ := boxes3 w (.cells #[.slice a0 n0 c0, .slice a1 n1 c1, .slice a2 3 c2] 28) (.cells #[.int .i64 3, .int .i64 s, .int .i64 j, .int .i64 i, .int .i64 xe, .string xv] 32) (.cells #[.slice none 0 0, .slice none 0 0, .slice none 0 0] 28)
  have hb0 := below3 w (.cells #[.slice a0 n0 c0, .slice a1 n1 c1, .slice a2 3 c2] 28) (.cells #[.int .i64 3, .int .i64 s, .int .i64 j, .int .i64 i, .int .i64 xe, .string xv] 32) (.cells #[.slice none 0 0, .slice none 0 0, .slice none 0 0] 28)
  have d3_0 := heap_cell q3 0 _ rfl
  have d3_1 := heap_cell q3 1 _ rfl
  have d3_2 := heap_cell q3 2 _ rfl
  have d3_3 := heap_cell q3 3 _ rfl
  go_enter Tryz.func13, Tryz.ntmps13
  go_wp2_with fail
  generalize (((w.alloc (.cells #[.slice a0 n0 c0, .slice a1 n1 c1, .slice a2 3 c2] 28)).alloc (.cells #[.int .i64 3, .int .i64 s, .int .i64 j, .int .i64 i, .int .i64 xe, .string xv] 32)).alloc (.cells #[.slice none 0 0, .slice none 0 0, .slice none 0 0] 28)) = w0 at q2 q3 q4 q0 hb0 d3_0 d3_1 d3_2 d3_3 ⊢
  refine (in_yes 3 1 5 w0 (by omega) (by omega)).mono ?_
  rintro e _ ⟨rfl, rfl⟩
  go_wp2_with fail
  refine (in_yes s 0 1 w0 (by omega) (by omega)).mono ?_
  rintro e _ ⟨rfl, rfl⟩
  go_wp2_with fail
  refine (in_yes j 0 2 w0 (by omega) (by omega)).mono ?_
  rintro e _ ⟨rfl, rfl⟩
  go_wp2_with fail
  refine (in_yes i 0 2 w0 (by omega) (by omega)).mono ?_
  rintro e _ ⟨rfl, rfl⟩
  have d2_2 := heap_cell q2 2 _ rfl
  go_wp2_with fail
  refine (HC.out w0 (hW.e2.on hb0)).mono ?_
  rintro e w1 ⟨g1, cap, rfl, hown, hb1⟩
  obtain ⟨cur, q9, hg1, hcap, hmax, hcur, hsz⟩ := own_cur hown
  have hg1 : w.heap.size + 1 + 1 + 1 ≤ g1 := by rw [q0] at hg1; exact hg1
  have q2 := heap_on hb1 q2
  have q3 := heap_on hb1 q3
  have q4 := heap_on hb1 q4
  have hb1 := below_on hb0 hb1
  clear hb0 hown d2_2 HC d3_0 d3_1 d3_2 d3_3
  have d2_2 := heap_cell q2 2 _ rfl
  have f2_2 := frozen_of_row w1 w.heap.size 2 _ _ q2
  go_upto_region 7 with fail
  clear d2_2 f2_2
  have p2 := heap_setCell_same w1 w.heap.size 2 _ _ (.slice (some ⟨g1, 0, none⟩) 3 cap) q2
  rw [show (#[.slice a0 n0 c0, .slice a1 n1 c1, .slice a2 3 c2] : Array Value).setIfInBounds 2 (.slice (some ⟨g1, 0, none⟩) 3 cap) = #[.slice a0 n0 c0, .slice a1 n1 c1, (.slice (some ⟨g1, 0, none⟩) 3 cap)] from rfl] at p2
  have p3 := (heap_setCell_other w1 ⟨w.heap.size, 2, none⟩ (w.heap.size + 1) (.slice (some ⟨g1, 0, none⟩) 3 cap) (by simp)).trans q3
  have p4 := (heap_setCell_other w1 ⟨w.heap.size, 2, none⟩ (w.heap.size + 1 + 1) (.slice (some ⟨g1, 0, none⟩) 3 cap) (by show _ ≠ w.heap.size; omega)).trans q4
  have p9 := (heap_setCell_other w1 ⟨w.heap.size, 2, none⟩ g1 (.slice (some ⟨g1, 0, none⟩) 3 cap) (by show _ ≠ w.heap.size; omega)).trans q9
  have hb2 : Below w.heap.size w (w1.setCell ⟨w.heap.size, 2, none⟩ (.slice (some ⟨g1, 0, none⟩) 3 cap)) := by rw [setCell_eq_setRow w1 w.heap.size 2 _ _ _ _ q2]; exact below_setRow hb1 (Nat.le_refl _) _
  generalize w1.setCell ⟨w.heap.size, 2, none⟩ (.slice (some ⟨g1, 0, none⟩) 3 cap) = w2 at p2 p3 p4 p9 hb2 ⊢
  clear q2 q3 q4 q9 hb1
  obtain ⟨sa, sn, sc, hsv, hsn, hsE⟩ := side_ents hW s
  have z0 := side_cell p2 hs
  rw [hsv] at z0
  obtain ⟨z1, z2, z3, z4⟩ := hcur.four p9 (i := j) (by omega)
  obtain ⟨cc, hcc⟩ : ∃ cc, cliOf W.cs j = cc := ⟨_, rfl⟩
  rw [hcc] at z1 z2 z3 z4
  obtain ⟨cn, ca, cb, cf⟩ := cc
  simp only at z1 z2 z3 z4
  have HJ := Lib.hid hcc
  clear hcc
  have hs1 : (s : Int) < 2 := by omega
  have hj1 : (j : Int) < 3 := by omega
  go_cut [7, 8] (fun t7 t8 w' => ∃ gb gc, t7 = .pointer (some ⟨gb, 0, none⟩) ∧ t8 = .pointer (some ⟨gc, 0, none⟩) ∧ gb ≠ gc ∧ w2.heap.size ≤ gb ∧ w2.heap.size ≤ gc ∧ w'.heap[gb]? = some (.cells #[.slice sa sn sc] 24) ∧ w'.heap[gc]? = some (.cells #[.int .i64 cn, .string ca, .string cb, .bool cf] 55) ∧ Below w2.heap.size w2 w')
  case first =>
    have d3_1 := heap_cell p3 1 _ rfl
    have d3_2 := heap_cell p3 2 _ rfl
    have d2_2 := heap_cell p2 2 _ rfl
    have k2 := (Array.getElem?_eq_some_iff.1 p2).1
    have k3 := (Array.getElem?_eq_some_iff.1 p3).1
    have k9 := (Array.getElem?_eq_some_iff.1 p9).1
    go_region
    all_goals
      go_wp2_with fail
      go_meet
      case rel => first
        | exact ⟨w2.heap.size, w2.heap.size + 1, rfl, rfl, by omega, by omega, by omega, (boxes2 w2 (.cells #[.slice sa sn sc] 24) (.cells #[.int .i64 cn, .string ca, .string cb, .bool cf] 55)).1, (boxes2 w2 (.cells #[.slice sa sn sc] 24) (.cells #[.int .i64 cn, .string ca, .string cb, .bool cf] 55)).2.1, (boxes2 w2 (.cells #[.slice sa sn sc] 24) (.cells #[.int .i64 cn, .string ca, .string cb, .bool cf] 55)).2.2.drew⟩
        | exact ⟨w2.heap.size + 1, w2.heap.size, rfl, rfl, by omega, by omega, by omega, (boxes2 w2 (.cells #[.int .i64 cn, .string ca, .string cb, .bool cf] 55) (.cells #[.slice sa sn sc] 24)).2.1, (boxes2 w2 (.cells #[.int .i64 cn, .string ca, .string cb, .bool cf] 55) (.cells #[.slice sa sn sc] 24)).1, (boxes2 w2 (.cells #[.int .i64 cn, .string ca, .string cb, .bool cf] 55) (.cells #[.slice sa sn sc] 24)).2.2.drew⟩
  case rest =>
    obtain ⟨gb, gc, rfl, rfl, hbc, hgb, hgc, p7, p8, hbr⟩ := hcut
    obtain ⟨w3, hw3⟩ : ∃ x, x = wc := ⟨_, rfl⟩
    subst hw3
    clear z0 z1 z2 z3 z4
    have y4 := (Array.getElem?_eq_some_iff.1 p4).1
    have p2 := heap_on hbr p2
    have p3 := heap_on hbr p3
    have p4 := heap_on hbr p4
    have p9 := heap_on hbr p9
    have hb3 := below_on hb2 hbr
    clear hb2 hbr
    have m2 := (Array.getElem?_eq_some_iff.1 p2).1
    have m3 := (Array.getElem?_eq_some_iff.1 p3).1
    have m4 := (Array.getElem?_eq_some_iff.1 p4).1
    have m9 := (Array.getElem?_eq_some_iff.1 p9).1
    have hgd := side_good hG (s : Int)
    have h24 := hgd.1
    have hv1 := hapV_bad (W := W) (e := (xe, xv)) hs hj hi HJ.out hsn
    have hv2 := hapV_foll (W := W) (e := (xe, xv)) hs hj hi HJ.out hsn
    have hv3 := foll_wide hG hj HJ.out hsn (growL (sideL W s) cn)
    have hh := fun w1 hF hS => headOf_ok I (sideL W s) sa sn sc w1 hF hsn hS hgd
    have hgr := fun w1 hF hS => growth_any I (sideL W s) sa sn sc cn w1 hF hsn hS hgd
    have hbig := growL_size (sideL W s) cn
    generalize growL (sideL W s) cn = G at hv1 hv2 hv3 hgr hbig
    generalize headLog (sideL W s) = hl at hv1 hv2 hv3 hh
    generalize headMap (sideL W s) = hm at hv1 hv2 hv3 hh
    have hfo := fun a c w1 hF hS => follows_any I cn ca cb cf (sn : Int) hl hm G a G.length c w1 hF rfl hS hbig
    generalize folN cn ca cb (sn : Int) hl hm G = rN at hv2 hv3 hfo
    generalize folA cn ca cb (sn : Int) hl hm G = rA at hv2 hv3 hfo
    generalize folB cn ca cb (sn : Int) hl hm G = rB at hv2 hv3 hfo
    generalize folF cn ca cb cf (sn : Int) hl hm G = rF at hv2 hv3 hfo
    generalize followE cn ca cb (sn : Int) hl hm G = z at hv1 hv2 hv3 hfo
    have HV1 := Lib.hid hv1
    have HV2 := Lib.hid hv2
    have HV3 := Lib.hid hv3
    clear hv1 hv2 hv3
    have HH := Lib.hid hh
    have HGR := Lib.hid hgr
    have HFO := Lib.hid hfo
    clear hh hgr hfo hbig
    have d3_0 := heap_cell p3 0 _ rfl
    have d7_0 := heap_cell p7 0 _ rfl
    go_wp2_with fail
    refine (HH.out w3 (by rw [(hb3).tape]; exact hF) (hsE.on hb3)).mono ?_
    rintro e w1 ⟨rfl, hb1⟩
    have p2 := heap_on hb1 p2
    have p3 := heap_on hb1 p3
    have p4 := heap_on hb1 p4
    have p9 := heap_on hb1 p9
    have p7 := heap_on hb1 p7
    have p8 := heap_on hb1 p8
    have hb1 := below_on hb3 hb1
    clear hb3
    clear d3_0 d7_0
    have p2 := heap_old w1 (.cells #[.int .i64 (sn : Int), .string hl, .string hm] 53) p2
    have p3 := heap_old w1 (.cells #[.int .i64 (sn : Int), .string hl, .string hm] 53) p3
    have p4 := heap_old w1 (.cells #[.int .i64 (sn : Int), .string hl, .string hm] 53) p4
    have p9 := heap_old w1 (.cells #[.int .i64 (sn : Int), .string hl, .string hm] 53) p9
    have p7 := heap_old w1 (.cells #[.int .i64 (sn : Int), .string hl, .string hm] 53) p7
    have p8 := heap_old w1 (.cells #[.int .i64 (sn : Int), .string hl, .string hm] 53) p8
    have p10 := heap_push w1 (.cells #[.int .i64 (sn : Int), .string hl, .string hm] 53)
    have hb2 := hb1.alloc hb1.size (.cells #[.int .i64 (sn : Int), .string hl, .string hm] 53)
    clear hb1
    go_upto_region 20 with fail
    generalize (w1.alloc (.cells #[.int .i64 (sn : Int), .string hl, .string hm] 53)) = w2 at p2 p3 p4 p9 p7 p8 p10 hb2 ⊢
    generalize w1.heap.size = B10 at p10 ⊢
    obtain ⟨w5, hw5⟩ : ∃ x, x = w2 := ⟨_, rfl⟩
    subst hw5
    have k1 := (Array.getElem?_eq_some_iff.1 p8).1
    have k2 := (Array.getElem?_eq_some_iff.1 p10).1
    have k3 := (Array.getElem?_eq_some_iff.1 p7).1
    go_cut [12, 11] (fun t12 t11 w' => ∃ gd, t12 = .pointer (some ⟨gd, 0, none⟩) ∧ t11 = .int .i64 z ∧ w5.heap.size ≤ gd ∧ w'.heap[gd]? = some (.cells #[.int .i64 rN, .string rA, .string rB, .bool rF] 55) ∧ Below w5.heap.size w5 w')
    case first =>
      have hS0 : Below w5.heap.size w5 w5.drew ∧ w5.drew.cell? ⟨gc, 0, none⟩ = some (.int .i64 cn) ∧ w5.drew.cell? ⟨gc, 1, none⟩ = some (.string ca) ∧ w5.drew.cell? ⟨gc, 2, none⟩ = some (.string cb) ∧ w5.drew.cell? ⟨gc, 3, none⟩ = some (.bool cf) ∧ w5.drew.cell? ⟨B10, 0, none⟩ = some (.int .i64 (sn : Int)) ∧ w5.drew.cell? ⟨B10, 1, none⟩ = some (.string hl) ∧ w5.drew.cell? ⟨B10, 2, none⟩ = some (.string hm) ∧ w5.drew.cell? ⟨gb, 0, none⟩ = some (.slice sa sn sc) := ⟨(Below.refl _ _).drew, heap_cell p8 0 _ rfl, heap_cell p8 1 _ rfl, heap_cell p8 2 _ rfl, heap_cell p8 3 _ rfl, heap_cell p10 0 _ rfl, heap_cell p10 1 _ rfl, heap_cell p10 2 _ rfl, heap_cell p7 0 _ rfl⟩
      have HL := Lib.hid (fun w' (h : Below w5.heap.size w5 w' ∧ w'.cell? ⟨gc, 0, none⟩ = some (.int .i64 cn) ∧ w'.cell? ⟨gc, 1, none⟩ = some (.string ca) ∧ w'.cell? ⟨gc, 2, none⟩ = some (.string cb) ∧ w'.cell? ⟨gc, 3, none⟩ = some (.bool cf) ∧ w'.cell? ⟨B10, 0, none⟩ = some (.int .i64 (sn : Int)) ∧ w'.cell? ⟨B10, 1, none⟩ = some (.string hl) ∧ w'.cell? ⟨B10, 2, none⟩ = some (.string hm) ∧ w'.cell? ⟨gb, 0, none⟩ = some (.slice sa sn sc)) => below_on hb2 h.1)
      have HZ := Lib.hid (fun w' (h : Below w5.heap.size w5 w' ∧ w'.cell? ⟨gc, 0, none⟩ = some (.int .i64 cn) ∧ w'.cell? ⟨gc, 1, none⟩ = some (.string ca) ∧ w'.cell? ⟨gc, 2, none⟩ = some (.string cb) ∧ w'.cell? ⟨gc, 3, none⟩ = some (.bool cf) ∧ w'.cell? ⟨B10, 0, none⟩ = some (.int .i64 (sn : Int)) ∧ w'.cell? ⟨B10, 1, none⟩ = some (.string hl) ∧ w'.cell? ⟨B10, 2, none⟩ = some (.string hm) ∧ w'.cell? ⟨gb, 0, none⟩ = some (.slice sa sn sc)) => h.1.size)
      have HS := Lib.hid (fun w' (h : Below w5.heap.size w5 w' ∧ w'.cell? ⟨gc, 0, none⟩ = some (.int .i64 cn) ∧ w'.cell? ⟨gc, 1, none⟩ = some (.string ca) ∧ w'.cell? ⟨gc, 2, none⟩ = some (.string cb) ∧ w'.cell? ⟨gc, 3, none⟩ = some (.bool cf) ∧ w'.cell? ⟨B10, 0, none⟩ = some (.int .i64 (sn : Int)) ∧ w'.cell? ⟨B10, 1, none⟩ = some (.string hl) ∧ w'.cell? ⟨B10, 2, none⟩ = some (.string hm) ∧ w'.cell? ⟨gb, 0, none⟩ = some (.slice sa sn sc)) => h.1)
      have CG := Lib.hid (fun w' (h : Below w5.heap.size w5 w' ∧ w'.cell? ⟨gc, 0, none⟩ = some (.int .i64 cn) ∧ w'.cell? ⟨gc, 1, none⟩ = some (.string ca) ∧ w'.cell? ⟨gc, 2, none⟩ = some (.string cb) ∧ w'.cell? ⟨gc, 3, none⟩ = some (.bool cf) ∧ w'.cell? ⟨B10, 0, none⟩ = some (.int .i64 (sn : Int)) ∧ w'.cell? ⟨B10, 1, none⟩ = some (.string hl) ∧ w'.cell? ⟨B10, 2, none⟩ = some (.string hm) ∧ w'.cell? ⟨gb, 0, none⟩ = some (.slice sa sn sc)) => HGR.out w' (by rw [(HL.out w' h).tape]; exact hF) (hsE.on (HL.out w' h)))
      have CF := Lib.hid (fun a c w' (h : Below w5.heap.size w5 w' ∧ w'.cell? ⟨gc, 0, none⟩ = some (.int .i64 cn) ∧ w'.cell? ⟨gc, 1, none⟩ = some (.string ca) ∧ w'.cell? ⟨gc, 2, none⟩ = some (.string cb) ∧ w'.cell? ⟨gc, 3, none⟩ = some (.bool cf) ∧ w'.cell? ⟨B10, 0, none⟩ = some (.int .i64 (sn : Int)) ∧ w'.cell? ⟨B10, 1, none⟩ = some (.string hl) ∧ w'.cell? ⟨B10, 2, none⟩ = some (.string hm) ∧ w'.cell? ⟨gb, 0, none⟩ = some (.slice sa sn sc)) (hS : StrsAt w' a c G) => HFO.out a c w' (by rw [(HL.out w' h).tape]; exact hF) hS)
      go_region_held3 (fun w' => Below w5.heap.size w5 w' ∧ w'.cell? ⟨gc, 0, none⟩ = some (.int .i64 cn) ∧ w'.cell? ⟨gc, 1, none⟩ = some (.string ca) ∧ w'.cell? ⟨gc, 2, none⟩ = some (.string cb) ∧ w'.cell? ⟨gc, 3, none⟩ = some (.bool cf) ∧ w'.cell? ⟨B10, 0, none⟩ = some (.int .i64 (sn : Int)) ∧ w'.cell? ⟨B10, 1, none⟩ = some (.string hl) ∧ w'.cell? ⟨B10, 2, none⟩ = some (.string hm) ∧ w'.cell? ⟨gb, 0, none⟩ = some (.slice sa sn sc))
        (first | assumption | exact hold8 k1 k2 k3 (by assumption) (by assumption) | exact hold8 k1 k2 k3 (by assumption) ((Below.refl _ _).alloc (Nat.le_refl _) _) | exact hold8g k1 k2 k3 (set4_grown _ _ _ _ _ _ _ _ _ _) (fun j hj => by injection hj with hj; omega) (by assumption))
        (first
          | (go_at_call 33; (with_reducible refine (CG.out _ (by assumption)).mono ?_); rintro e wG ⟨aG, cG, rfl, hSG, hbG⟩; have hSW : Below w5.heap.size w5 wG ∧ wG.cell? ⟨gc, 0, none⟩ = some (.int .i64 cn) ∧ wG.cell? ⟨gc, 1, none⟩ = some (.string ca) ∧ wG.cell? ⟨gc, 2, none⟩ = some (.string cb) ∧ wG.cell? ⟨gc, 3, none⟩ = some (.bool cf) ∧ wG.cell? ⟨B10, 0, none⟩ = some (.int .i64 (sn : Int)) ∧ wG.cell? ⟨B10, 1, none⟩ = some (.string hl) ∧ wG.cell? ⟨B10, 2, none⟩ = some (.string hm) ∧ wG.cell? ⟨gb, 0, none⟩ = some (.slice sa sn sc) := hold8 k1 k2 k3 (by assumption) hbG; have hzG := HZ.out _ hSW)
          | (go_at_call 32; (with_reducible refine (CF.out _ _ _ (by assumption) (by first | exact hSG | exact hSG.on ((Below.refl _ _).alloc (Nat.le_refl _) _))).mono ?_); rintro e wF ⟨rfl, hbF⟩; have hSF : Below w5.heap.size w5 wF ∧ wF.cell? ⟨gc, 0, none⟩ = some (.int .i64 cn) ∧ wF.cell? ⟨gc, 1, none⟩ = some (.string ca) ∧ wF.cell? ⟨gc, 2, none⟩ = some (.string cb) ∧ wF.cell? ⟨gc, 3, none⟩ = some (.bool cf) ∧ wF.cell? ⟨B10, 0, none⟩ = some (.int .i64 (sn : Int)) ∧ wF.cell? ⟨B10, 1, none⟩ = some (.string hl) ∧ wF.cell? ⟨B10, 2, none⟩ = some (.string hm) ∧ wF.cell? ⟨gb, 0, none⟩ = some (.slice sa sn sc) := hold8 k1 k2 k3 (by assumption) hbF; have hzF := HZ.out _ hSF; (first | (have tbA : wF.heap[w5.heap.size]? = some (.cells #[.int .i64 0, .string ⟨#[]⟩, .string ⟨#[]⟩, .bool false] 55) := heap_on hbF (heap_on hbG (show (w5.alloc (.cells #[.int .i64 0, .string ⟨#[]⟩, .string ⟨#[]⟩, .bool false] 55)).heap[w5.heap.size]? = _ from heap_push w5 _)); have t0 := heap_cell tbA 0 _ rfl; have f0 := frozen_of_row wF _ 0 _ _ tbA; have t1 := heap_cell tbA 1 _ rfl; have f1 := frozen_of_row wF _ 1 _ _ tbA; have t2 := heap_cell tbA 2 _ rfl; have f2 := frozen_of_row wF _ 2 _ _ tbA; have t3 := heap_cell tbA 3 _ rfl; have f3 := frozen_of_row wF _ 3 _ _ tbA) | (have tbB : wF.heap[wG.heap.size]? = some (.cells #[.int .i64 0, .string ⟨#[]⟩, .string ⟨#[]⟩, .bool false] 55) := heap_on hbF (heap_push wG _); have t0 := heap_cell tbB 0 _ rfl; have f0 := frozen_of_row wF _ 0 _ _ tbB; have t1 := heap_cell tbB 1 _ rfl; have f1 := frozen_of_row wF _ 1 _ _ tbB; have t2 := heap_cell tbB 2 _ rfl; have f2 := frozen_of_row wF _ 2 _ _ tbB; have t3 := heap_cell tbB 3 _ rfl; have f3 := frozen_of_row wF _ 3 _ _ tbB) | skip)))
      all_goals
        go_wp2_with fail
        go_meet
        case rel =>
          first
            | (have h9 := set4_row tbA (.int .i64 rN) (.string rA) (.string rB) (.bool rF); exact ⟨w5.heap.size, rfl, rfl, by omega, h9, (hSF.1).grown (set4_grown wF (w5.heap.size) 0 1 2 3 (.int .i64 rN) (.string rA) (.string rB) (.bool rF)) hzF (fun j hj => by injection hj with hj; omega)⟩)
            | (have h9 := set4_row tbB (.int .i64 rN) (.string rA) (.string rB) (.bool rF); exact ⟨wG.heap.size, rfl, rfl, by omega, h9, (hSF.1).grown (set4_grown wF (wG.heap.size) 0 1 2 3 (.int .i64 rN) (.string rA) (.string rB) (.bool rF)) hzF (fun j hj => by injection hj with hj; omega)⟩)
            | exact ⟨wF.heap.size, rfl, rfl, hzF, heap_push _ _, (hSF.1).alloc hzF _⟩
    case rest =>
      obtain ⟨gd, rfl, rfl, hgd5, p12, hbc⟩ := hcut
      obtain ⟨w6, hw6⟩ : ∃ x, x = wc := ⟨_, rfl⟩
      subst hw6
      clear p7 p8 p10 HGR HFO k1 k2 k3
      have p2 := heap_on hbc p2
      have p3 := heap_on hbc p3
      have p4 := heap_on hbc p4
      have p9 := heap_on hbc p9
      have hb6 := below_on hb2 hbc
      clear hb2 hbc
      by_cases hz : z ≠ 0 ∧ z ≠ 7
      · have HV := Lib.hid (HV1.out hz)
        have zf1 : (z == 0) = false := by simp only [beq_eq_false_iff_ne, ne_eq]; exact hz.1
        have zf2 : (z == 7) = false := by simp only [beq_eq_false_iff_ne, ne_eq]; exact hz.2
        have zf3 : (z != 0) = true := by simp only [bne, zf1]; rfl
        have zf4 : (z != 7) = true := by simp only [bne, zf2]; rfl
        clear hz HV1 HV2 HV3
        go_wp2_with fail
        refine (happenedBad_any z w6).mono ?_
        rintro e w3 ⟨rfl, hb3⟩
        have p2 := heap_on hb3 p2
        have p3 := heap_on hb3 p3
        have p4 := heap_on hb3 p4
        have p9 := heap_on hb3 p9
        have p12 := heap_on hb3 p12
        have hb3 := below_on hb6 hb3
        clear hb6
        go_wp2_with (refine wpList_store_row rfl 28 (.tmp 4) (.tmp 140) rfl (w.heap.size + 1 + 1) #[.slice none 0 0, .slice none 0 0, .slice none 0 0] rfl rfl _ _ p4 (by kernel_rfl) rfl (three_cells _ _ _ _ _ _ _ _ _) ?_)
        have hbz := below_setRow hb3 (g := w.heap.size + 1 + 1) (by omega) #[.slice none 0 0, .slice none 0 0, .slice none 0 0]
        refine bodyPost_ret (results_row_tmp rfl _ _ (w.heap.size + 1 + 1) _ _ _ _ rfl (setRow_heap _ _ _ _ _ _ p4) Tryz.underlying28 rfl (by kernel_rfl)) rfl ?_
        exact ⟨none, 0, 0, none, 0, 0, none, 0, 0, by rw [HV.out]; rfl, by rw [HV.out]; exact wat_zero _, newOr_none _ _ _ _, newOr_none _ _ _ _, (fun _ _ h => by cases h), hbz⟩
      · have HV := Lib.hid (HV2.out hz)
        have HW3 := Lib.hid (HV3.out hz)
        clear HV1 HV2 HV3
        by_cases h0 : z = 0
        · clear hz
          subst h0
          have d2_2 := heap_cell p2 2 _ rfl
          have d3_2 := heap_cell p3 2 _ rfl
          have dp12_0 := heap_cell p12 0 _ rfl
          have dp12_1 := heap_cell p12 1 _ rfl
          have dp12_2 := heap_cell p12 2 _ rfl
          have dp12_3 := heap_cell p12 3 _ rfl
          obtain ⟨z1, z2, z3, z4⟩ := hcur.four p9 (i := j) (by omega)
          rw [HJ.out] at z1 z2 z3 z4
          simp only at z1 z2 z3 z4
          have y0 := frozen_of_row w6 g1 (j * 4) _ _ p9
          have y1 := frozen_of_row w6 g1 (j * 4 + 1) _ _ p9
          have y2 := frozen_of_row w6 g1 (j * 4 + 2) _ _ p9
          have y3 := frozen_of_row w6 g1 (j * 4 + 3) _ _ p9
          go_upto_region 44 with fail
          clear d2_2 d3_2 dp12_0 dp12_1 dp12_2 dp12_3 z1 z2 z3 z4 y0 y1 y2 y3
          obtain ⟨cur2, r9, hcur2⟩ := set4_cur p9 hcur (j := j) (by omega) (rN, rA, rB, rF)
          simp only at r9
          have hgw := set4_grown w6 g1 (j * 4) (j * 4 + 1) (j * 4 + 2) (j * 4 + 3) (.int .i64 rN) (.string rA) (.string rB) (.bool rF)
          have p2 := heap_kept hgw p2 (by intro e; injection e with e; omega)
          have p3 := heap_kept hgw p3 (by intro e; injection e with e; omega)
          have p4 := heap_kept hgw p4 (by intro e; injection e with e; omega)
          have hb7 := hb6.grown hgw hb6.size (fun k hk => by injection hk with hk; omega)
          generalize ((((w6.setCell ⟨g1, j * 4, none⟩ (.int .i64 rN)).setCell ⟨g1, j * 4 + 1, none⟩ (.string rA)).setCell ⟨g1, j * 4 + 2, none⟩ (.string rB)).setCell ⟨g1, j * 4 + 3, none⟩ (.bool rF)) = w7 at p2 p3 p4 r9 hb7 hgw ⊢
          have e0 := heap_cell p2 0 _ rfl
          have e1 := heap_cell p2 1 _ rfl
          have e2 := heap_cell p2 2 _ rfl
          go_wp2_with (refine wpList_store_row rfl 28 (.tmp 4) (.tmp 251) rfl (w.heap.size + 1 + 1) #[.slice a0 n0 c0, .slice a1 n1 c1, .slice (some ⟨g1, 0, none⟩) 3 cap] rfl rfl _ _ p4 (by kernel_rfl) rfl (three_cells _ _ _ _ _ _ _ _ _) ?_)
          have hbz := below_setRow hb7 (g := w.heap.size + 1 + 1) (by omega) #[.slice a0 n0 c0, .slice a1 n1 c1, .slice (some ⟨g1, 0, none⟩) 3 cap]
          refine bodyPost_ret (results_row_tmp rfl _ _ (w.heap.size + 1 + 1) _ _ _ _ rfl (setRow_heap _ _ _ _ _ _ p4) Tryz.underlying28 rfl (by kernel_rfl)) rfl ?_
          exact ⟨_, _, _, _, _, _, _, _, _, by rw [HV.out]; rfl, by rw [HV.out]; exact ⟨hW.l0, hW.e0.on hbz, hW.l1, hW.e1.on hbz, by show (W.cs.set j _).length = 3; rw [List.length_set]; exact hl3, hcur2.clis (heap_kept (row_grown _ _ _) r9 (by intro e; injection e with e; omega)) (by rw [List.length_set]; omega) hmax (wide_set hW.e2.sz j HW3.out)⟩, .inl ⟨rfl, by rw [HV.out]⟩, .inl ⟨rfl, by rw [HV.out]⟩, new_at (by omega), hbz⟩
        · have h7 : z = 7 := Classical.byContradiction fun h => hz ⟨h0, h⟩
          clear hz h0
          subst h7
          have d2_2 := heap_cell p2 2 _ rfl
          have d3_2 := heap_cell p3 2 _ rfl
          have dp12_0 := heap_cell p12 0 _ rfl
          have dp12_1 := heap_cell p12 1 _ rfl
          have dp12_2 := heap_cell p12 2 _ rfl
          have dp12_3 := heap_cell p12 3 _ rfl
          obtain ⟨z1, z2, z3, z4⟩ := hcur.four p9 (i := j) (by omega)
          rw [HJ.out] at z1 z2 z3 z4
          simp only at z1 z2 z3 z4
          have y0 := frozen_of_row w6 g1 (j * 4) _ _ p9
          have y1 := frozen_of_row w6 g1 (j * 4 + 1) _ _ p9
          have y2 := frozen_of_row w6 g1 (j * 4 + 2) _ _ p9
          have y3 := frozen_of_row w6 g1 (j * 4 + 3) _ _ p9
          go_upto_region 44 with fail
          clear d2_2 d3_2 dp12_0 dp12_1 dp12_2 dp12_3 z1 z2 z3 z4 y0 y1 y2 y3
          obtain ⟨cur2, r9, hcur2⟩ := set4_cur p9 hcur (j := j) (by omega) (rN, rA, rB, rF)
          simp only at r9
          have hgw := set4_grown w6 g1 (j * 4) (j * 4 + 1) (j * 4 + 2) (j * 4 + 3) (.int .i64 rN) (.string rA) (.string rB) (.bool rF)
          have p2 := heap_kept hgw p2 (by intro e; injection e with e; omega)
          have p3 := heap_kept hgw p3 (by intro e; injection e with e; omega)
          have p4 := heap_kept hgw p4 (by intro e; injection e with e; omega)
          have hb7 := hb6.grown hgw hb6.size (fun k hk => by injection hk with hk; omega)
          generalize ((((w6.setCell ⟨g1, j * 4, none⟩ (.int .i64 rN)).setCell ⟨g1, j * 4 + 1, none⟩ (.string rA)).setCell ⟨g1, j * 4 + 2, none⟩ (.string rB)).setCell ⟨g1, j * 4 + 3, none⟩ (.bool rF)) = w7 at p2 p3 p4 r9 hb7 hgw ⊢
          have e0 := heap_cell p2 0 _ rfl
          have e1 := heap_cell p2 1 _ rfl
          have e2 := heap_cell p2 2 _ rfl
          go_wp2_with (refine wpList_store_row rfl 28 (.tmp 4) (.tmp 251) rfl (w.heap.size + 1 + 1) #[.slice a0 n0 c0, .slice a1 n1 c1, .slice (some ⟨g1, 0, none⟩) 3 cap] rfl rfl _ _ p4 (by kernel_rfl) rfl (three_cells _ _ _ _ _ _ _ _ _) ?_)
          have hbz := below_setRow hb7 (g := w.heap.size + 1 + 1) (by omega) #[.slice a0 n0 c0, .slice a1 n1 c1, .slice (some ⟨g1, 0, none⟩) 3 cap]
          refine bodyPost_ret (results_row_tmp rfl _ _ (w.heap.size + 1 + 1) _ _ _ _ rfl (setRow_heap _ _ _ _ _ _ p4) Tryz.underlying28 rfl (by kernel_rfl)) rfl ?_
          exact ⟨_, _, _, _, _, _, _, _, _, by rw [HV.out]; rfl, by rw [HV.out]; exact ⟨hW.l0, hW.e0.on hbz, hW.l1, hW.e1.on hbz, by show (W.cs.set j _).length = 3; rw [List.length_set]; exact hl3, hcur2.clis (heap_kept (row_grown _ _ _) r9 (by intro e; injection e with e; omega)) (by rw [List.length_set]; omega) hmax (wide_set hW.e2.sz j HW3.out)⟩, .inl ⟨rfl, by rw [HV.out]⟩, .inl ⟨rfl, by rw [HV.out]⟩, new_at (by omega), hbz⟩

end Go.Proofs.YthhckpnnjegldafGreatFmt
