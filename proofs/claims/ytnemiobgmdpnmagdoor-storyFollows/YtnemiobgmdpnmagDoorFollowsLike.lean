/-
  StoryFollows: a showing that was followed.
-/
import Derived.Test.YtnemiobgmdpnmagDoorFollowsMem
namespace Go.Proofs.YtnemiobgmdpnmagDoor
open Go Go.RowKit

set_option maxHeartbeats 16000000 in
set_option maxRecDepth 100000 in
theorem follows_like (G : Nat) (Y : WB) (a0 : Option Addr) (n0 c0 : Nat) (a1 : Option Addr) (n1 c1 : Nat) (a2 : Option Addr) (n2 c2 : Nat) (b0 : Option Addr) (m0 e0 : Nat) (b1 : Option Addr) (m1 e1 : Nat) (b2 : Option Addr) (m2 e2 : Nat) (s j : Nat) (xo xe : Int) (xv : ByteArray) (w : World) (hE : Tab w) (hYW : WAt w b0 m0 e0 b1 m1 e1 b2 m2 e2 Y) (gY : worldE Y = 0) (hs : s < 2) (hj : j < 3) (hn : (cliOf Y.cs j).1 = ((sideL Y (s : Int)).length : Int)) (hG0 : G < w.heap.size) (o : List (List EntB)) (D0 : Nat → Option Addr) (D1 : Nat → Nat) (hO : OfAt w G D0 D1 o) (hd : headIs (sideL Y (s : Int)) (cliOf Y.cs j)) (hle : (ofK o j).length ≤ (sideL Y (s : Int)).length) (heq : ofK o j = (sideL Y (s : Int)).take (ofK o j).length) :
    Calls Tryd.prog 15 #[.agg #[.slice a0 n0 c0, .slice a1 n1 c1, .slice a2 n2 c2], .agg #[.slice b0 m0 e0, .slice b1 m1 e1, .slice b2 m2 e2], .agg #[.int .i64 3, .int .i64 (s : Int), .int .i64 (j : Int), .int .i64 xo, .int .i64 xe, .string xv], .pointer (some ⟨G, 0, none⟩)] w fun e w' => ∃ aC cC w9 w10, e = .returned (.bool true) ∧ Below w.heap.size w w9 ∧ w9.grownBy w10 (some G) ∧ w10.heap[G]? = some (.cells (#[.slice (D0 0) (ofK o 0).length (D1 0), .slice (D0 1) (ofK o 1).length (D1 1), .slice (D0 2) (ofK o 2).length (D1 2)].setIfInBounds j (.slice aC (sideL Y (s : Int)).length cC)) 53) ∧ EntsAt w10 aC cC (sideL Y (s : Int)) ∧ Below w10.heap.size w10 w' := by
  have hl3 := ((worldE_iff Y).1 gY).2.2.1
  obtain rfl : m2 = 3 := by rw [← hYW.l2]; exact hl3
  obtain ⟨bw, ow, hbw, kw, hcw⟩ := hYW.e2.cells (by omega)
  subst hbw
  clear hcw
  have zc := hYW.e2.cap
  have zm := hYW.e2.max
  rw [hl3] at zc
  have hs1 : (s : Int) < 2 := by omega
  have hj1 : (j : Int) < 3 := by omega
  obtain ⟨q4, q5, q6, _⟩ := boxes3 w (.cells #[.slice a0 n0 c0, .slice a1 n1 c1, .slice a2 n2 c2] 31) (.cells #[.slice b0 m0 e0, .slice b1 m1 e1, .slice (some ⟨bw, ow, none⟩) 3 e2] 31) (.cells #[.int .i64 3, .int .i64 (s : Int), .int .i64 (j : Int), .int .i64 xo, .int .i64 xe, .string xv] 35)
  have hb0 := below3 w (.cells #[.slice a0 n0 c0, .slice a1 n1 c1, .slice a2 n2 c2] 31) (.cells #[.slice b0 m0 e0, .slice b1 m1 e1, .slice (some ⟨bw, ow, none⟩) 3 e2] 31) (.cells #[.int .i64 3, .int .i64 (s : Int), .int .i64 (j : Int), .int .i64 xo, .int .i64 xe, .string xv] 35)
  go_enter Tryd.func15, Tryd.ntmps15
  go_upto_region 1 with fail
  generalize (((w.alloc (.cells #[.slice a0 n0 c0, .slice a1 n1 c1, .slice a2 n2 c2] 31)).alloc (.cells #[.slice b0 m0 e0, .slice b1 m1 e1, .slice (some ⟨bw, ow, none⟩) 3 e2] 31)).alloc (.cells #[.int .i64 3, .int .i64 (s : Int), .int .i64 (j : Int), .int .i64 xo, .int .i64 xe, .string xv] 35)) = w5 at q4 q5 q6 hb0 ⊢
  have hYW := hYW.on hb0
  obtain ⟨ta, tn, tc, htv, htn, htE⟩ := side_ents hYW s
  have t0 := side_cell q5 hs
  rw [htv] at t0
  obtain ⟨bw', ow', hbw, kw, hcw⟩ := hYW.e2.cells (by omega)
  injection hbw with hbw
  injection hbw with h1 h2
  subst h1 h2
  obtain ⟨z1, z2, z3, z4⟩ := hcw j (by omega)
  clear hcw
  have k5 := (Array.getElem?_eq_some_iff.1 q5).1
  have k6 := (Array.getElem?_eq_some_iff.1 q6).1
  have hgd := side_good gY (s : Int)
  have hhd := fun w1 hE hS => head_ok (sideL Y (s : Int)) ta tn tc w1 hE htn hS hgd
  obtain ⟨_, hd1, hd2⟩ := hd
  have HEQ := Lib.hid heq
  clear heq
  obtain ⟨cc, hcc⟩ : ∃ cc, cliOf Y.cs j = cc := ⟨_, rfl⟩
  rw [hcc] at z1 z2 z3 z4 hd1 hd2 hn
  obtain ⟨cn, ca, cb, cf⟩ := cc
  simp only at z1 z2 z3 z4 hd1 hd2 hn
  rw [htn] at hn
  subst hn
  have h24 := hgd.1
  have hO := hO.on hb0
  have hGlt := hG0
  generalize headLog (sideL Y (s : Int)) = hl at hhd hd1
  generalize headMap (sideL Y (s : Int)) = hm at hhd hd2
  subst hd1
  subst hd2
  have HH := Lib.hid hhd
  clear hhd
  have zf1 : ((tn : Int) == (tn : Int)) = true := by simp
  have zf2 : ((tn : Int) != (tn : Int)) = false := by simp
  go_cut [31] (fun s31 w' => s31 = .bool false ∧ Below w5.heap.size w5 w')
  case first =>
    have hS0 : Below w5.heap.size w5 w5.drew ∧ w5.drew.cell? ⟨w.heap.size + 1 + 1, 0, none⟩ = some (.int .i64 3) ∧ w5.drew.cell? ⟨w.heap.size + 1 + 1, 1, none⟩ = some (.int .i64 (s : Int)) ∧ w5.drew.cell? ⟨w.heap.size + 1 + 1, 2, none⟩ = some (.int .i64 (j : Int)) ∧ w5.drew.cell? ⟨w.heap.size + 1, 2, none⟩ = some (.slice (some ⟨bw, ow, none⟩) 3 e2) ∧ w5.drew.cell? ⟨w.heap.size + 1, s, none⟩ = some (.slice ta tn tc) ∧ w5.drew.cell? ⟨bw, ow + j * 4, none⟩ = some (.int .i64 (tn : Int)) := ⟨(Below.refl _ _).drew, heap_cell q6 0 _ rfl, heap_cell q6 1 _ rfl, heap_cell q6 2 _ rfl, heap_cell q5 2 _ rfl, t0, z1⟩
    have HB := Lib.hid (fun w' (h : Below w5.heap.size w5 w' ∧ w'.cell? ⟨w.heap.size + 1 + 1, 0, none⟩ = some (.int .i64 3) ∧ w'.cell? ⟨w.heap.size + 1 + 1, 1, none⟩ = some (.int .i64 (s : Int)) ∧ w'.cell? ⟨w.heap.size + 1 + 1, 2, none⟩ = some (.int .i64 (j : Int)) ∧ w'.cell? ⟨w.heap.size + 1, 2, none⟩ = some (.slice (some ⟨bw, ow, none⟩) 3 e2) ∧ w'.cell? ⟨w.heap.size + 1, s, none⟩ = some (.slice ta tn tc) ∧ w'.cell? ⟨bw, ow + j * 4, none⟩ = some (.int .i64 (tn : Int))) => h.1)
    go_region_held3 (fun w' => Below w5.heap.size w5 w' ∧ w'.cell? ⟨w.heap.size + 1 + 1, 0, none⟩ = some (.int .i64 3) ∧ w'.cell? ⟨w.heap.size + 1 + 1, 1, none⟩ = some (.int .i64 (s : Int)) ∧ w'.cell? ⟨w.heap.size + 1 + 1, 2, none⟩ = some (.int .i64 (j : Int)) ∧ w'.cell? ⟨w.heap.size + 1, 2, none⟩ = some (.slice (some ⟨bw, ow, none⟩) 3 e2) ∧ w'.cell? ⟨w.heap.size + 1, s, none⟩ = some (.slice ta tn tc) ∧ w'.cell? ⟨bw, ow + j * 4, none⟩ = some (.int .i64 (tn : Int)))
      (first | assumption)
      (first | fail)
    all_goals
      go_wp2_with fail
      go_meet
      case rel => exact ⟨rfl, HB.out _ (by assumption)⟩
  case rest =>
    obtain ⟨rfl, hbc⟩ := hcut
    obtain ⟨w6, hw6⟩ : ∃ x, x = wc := ⟨_, rfl⟩
    subst hw6
    have q5 := heap_on hbc q5
    have q6 := heap_on hbc q6
    have hYW := hYW.on hbc
    have htE := htE.on hbc
    have hb6 := below_on hb0 hbc
    clear zf1 zf2 t0 z1 z2 z3 z4 k5 k6 q4
    have t0 := side_cell q5 hs
    rw [htv] at t0
    have d6_1 := heap_cell q6 1 _ rfl
    go_wp2_with fail
    refine (HH.out w6 (hE.on hb6) htE).mono ?_
    rintro e w7 ⟨rfl, hb7⟩
    have q5 := heap_on hb7 q5
    have q6 := heap_on hb7 q6
    have hYW := hYW.on hb7
    have htE := htE.on hb7
    have hbc7 := hb7
    have hb7 := below_on hb6 hb7
    clear hb6 HH t0 d6_1
    have hbl := (Below.refl w7.heap.size w7).alloc (Nat.le_refl _) (.cells #[.int .i64 (tn : Int), .string ca, .string cb] 47)
    have q5 := heap_on hbl q5
    have q6 := heap_on hbl q6
    have q8 := heap_push w7 (.cells #[.int .i64 (tn : Int), .string ca, .string cb] 47)
    have hYW := hYW.on hbl
    have htE := htE.on hbl
    have hb8 := below_on hb7 hbl
    clear hb7
    go_upto_region 6 with fail
    have hO := ((hO.on hbc).on hbc7).on hbl
    generalize (w7.alloc (.cells #[.int .i64 (tn : Int), .string ca, .string cb] 47)) = w8 at q5 q6 q8 hYW htE hb8 hbl hO ⊢
    generalize w7.heap.size = B8 at q8 hbl ⊢
    obtain ⟨bw', ow', hbw, kw, hcw⟩ := hYW.e2.cells (by omega)
    injection hbw with hbw
    injection hbw with h1 h2
    subst h1 h2
    obtain ⟨z1, z2, z3, _⟩ := hcw j (by omega)
    rw [hcc] at z1 z2 z3
    simp only at z1 z2 z3
    clear hcw
    have x1 := str_eq (rfl : ca = ca)
    have x2 := str_eq (rfl : cb = cb)
    have x3 : ((tn : Int) == (tn : Int)) = true := by simp
    go_cut [51] (fun s51 w' => s51 = .bool false ∧ Below w8.heap.size w8 w')
    case first =>
      have hS0 : Below w8.heap.size w8 w8.drew ∧ w8.drew.cell? ⟨B8, 0, none⟩ = some (.int .i64 (tn : Int)) ∧ w8.drew.cell? ⟨B8, 1, none⟩ = some (.string ca) ∧ w8.drew.cell? ⟨B8, 2, none⟩ = some (.string cb) ∧ w8.drew.cell? ⟨w.heap.size + 1 + 1, 2, none⟩ = some (.int .i64 (j : Int)) ∧ w8.drew.cell? ⟨w.heap.size + 1, 2, none⟩ = some (.slice (some ⟨bw, ow, none⟩) 3 e2) ∧ w8.drew.cell? ⟨bw, ow + j * 4, none⟩ = some (.int .i64 (tn : Int)) ∧ w8.drew.cell? ⟨bw, ow + j * 4 + 1, none⟩ = some (.string ca) ∧ w8.drew.cell? ⟨bw, ow + j * 4 + 2, none⟩ = some (.string cb) := ⟨(Below.refl _ _).drew, heap_cell q8 0 _ rfl, heap_cell q8 1 _ rfl, heap_cell q8 2 _ rfl, heap_cell q6 2 _ rfl, heap_cell q5 2 _ rfl, z1, z2, z3⟩
      have HB := Lib.hid (fun w' (h : Below w8.heap.size w8 w' ∧ w'.cell? ⟨B8, 0, none⟩ = some (.int .i64 (tn : Int)) ∧ w'.cell? ⟨B8, 1, none⟩ = some (.string ca) ∧ w'.cell? ⟨B8, 2, none⟩ = some (.string cb) ∧ w'.cell? ⟨w.heap.size + 1 + 1, 2, none⟩ = some (.int .i64 (j : Int)) ∧ w'.cell? ⟨w.heap.size + 1, 2, none⟩ = some (.slice (some ⟨bw, ow, none⟩) 3 e2) ∧ w'.cell? ⟨bw, ow + j * 4, none⟩ = some (.int .i64 (tn : Int)) ∧ w'.cell? ⟨bw, ow + j * 4 + 1, none⟩ = some (.string ca) ∧ w'.cell? ⟨bw, ow + j * 4 + 2, none⟩ = some (.string cb)) => h.1)
      go_region_held3 (fun w' => Below w8.heap.size w8 w' ∧ w'.cell? ⟨B8, 0, none⟩ = some (.int .i64 (tn : Int)) ∧ w'.cell? ⟨B8, 1, none⟩ = some (.string ca) ∧ w'.cell? ⟨B8, 2, none⟩ = some (.string cb) ∧ w'.cell? ⟨w.heap.size + 1 + 1, 2, none⟩ = some (.int .i64 (j : Int)) ∧ w'.cell? ⟨w.heap.size + 1, 2, none⟩ = some (.slice (some ⟨bw, ow, none⟩) 3 e2) ∧ w'.cell? ⟨bw, ow + j * 4, none⟩ = some (.int .i64 (tn : Int)) ∧ w'.cell? ⟨bw, ow + j * 4 + 1, none⟩ = some (.string ca) ∧ w'.cell? ⟨bw, ow + j * 4 + 2, none⟩ = some (.string cb))
        (first | assumption)
        (first | fail)
      all_goals
        go_wp2_with fail
        go_meet
        case rel => exact ⟨rfl, HB.out _ (by assumption)⟩
    case rest =>
      obtain ⟨rfl, hbq⟩ := hcut
      obtain ⟨w9, hw9⟩ : ∃ x, x = wc := ⟨_, rfl⟩
      subst hw9
      have q5 := heap_on hbq q5
      have q6 := heap_on hbq q6
      have htE := htE.on hbq
      have hO := hO.on hbq
      have hb9 := below_on hb8 hbq
      clear hb8 hbq hbl q8 x1 x2 x3 z1 z2 z3 hYW
      have d6_2 := heap_cell q6 2 _ rfl
      have g0 := hO.cell hj
      go_upto_region 9 with fail
      clear d6_2 g0
      have hcl := fun w1 hS => clone_ents_own (sideL Y (s : Int)) ta tn tc w1 htn (by omega) hS
      have HCL := Lib.hid hcl
      clear hcl
      have k5 := (Array.getElem?_eq_some_iff.1 q5).1
      have k6 := (Array.getElem?_eq_some_iff.1 q6).1
      have k9 : G < w9.heap.size := (Array.getElem?_eq_some_iff.1 hO.1).1
      have t0 := side_cell q5 hs
      rw [htv] at t0
      go_cut [] (fun w' => ∃ aC cC, w'.heap[G]? = some (.cells (#[.slice (D0 0) (ofK o 0).length (D1 0), .slice (D0 1) (ofK o 1).length (D1 1), .slice (D0 2) (ofK o 2).length (D1 2)].setIfInBounds j (.slice aC tn cC)) 53) ∧ EntsAt w' aC cC (sideL Y (s : Int)) ∧ w9.grownBy w' (some G))
      case first =>
        have hS0 : w9.grownBy w9.drew (some G) ∧ RowAt w9.drew G j (.slice (D0 0) (ofK o 0).length (D1 0)) (.slice (D0 1) (ofK o 1).length (D1 1)) (.slice (D0 2) (ofK o 2).length (D1 2)) 53 ∧ w9.drew.cell? ⟨w.heap.size + 1 + 1, 1, none⟩ = some (.int .i64 (s : Int)) ∧ w9.drew.cell? ⟨w.heap.size + 1 + 1, 2, none⟩ = some (.int .i64 (j : Int)) ∧ w9.drew.cell? ⟨w.heap.size + 1, s, none⟩ = some (.slice ta tn tc) := ⟨below_grown (Below.refl _ _).drew _, row_of (w := w9.drew) hO.1 j, heap_cell q6 1 _ rfl, heap_cell q6 2 _ rfl, t0⟩
        have n1 : w.heap.size + 1 + 1 ≠ G := by omega
        have n2 : w.heap.size + 1 ≠ G := by omega
        have HQ := Lib.hid (fun w' (h : w9.grownBy w' (some G) ∧ RowAt w' G j (.slice (D0 0) (ofK o 0).length (D1 0)) (.slice (D0 1) (ofK o 1).length (D1 1)) (.slice (D0 2) (ofK o 2).length (D1 2)) 53 ∧ w'.cell? ⟨w.heap.size + 1 + 1, 1, none⟩ = some (.int .i64 (s : Int)) ∧ w'.cell? ⟨w.heap.size + 1 + 1, 2, none⟩ = some (.int .i64 (j : Int)) ∧ w'.cell? ⟨w.heap.size + 1, s, none⟩ = some (.slice ta tn tc)) => rowAt_cell h.2.1 hj)
        have HZ := Lib.hid (fun w' (h : w9.grownBy w' (some G) ∧ RowAt w' G j (.slice (D0 0) (ofK o 0).length (D1 0)) (.slice (D0 1) (ofK o 1).length (D1 1)) (.slice (D0 2) (ofK o 2).length (D1 2)) 53 ∧ w'.cell? ⟨w.heap.size + 1 + 1, 1, none⟩ = some (.int .i64 (s : Int)) ∧ w'.cell? ⟨w.heap.size + 1 + 1, 2, none⟩ = some (.int .i64 (j : Int)) ∧ w'.cell? ⟨w.heap.size + 1, s, none⟩ = some (.slice ta tn tc)) => h.1.size)
        have CC := Lib.hid (fun w' (h' : w9.grownBy w' (some G) ∧ RowAt w' G j (.slice (D0 0) (ofK o 0).length (D1 0)) (.slice (D0 1) (ofK o 1).length (D1 1)) (.slice (D0 2) (ofK o 2).length (D1 2)) 53 ∧ w'.cell? ⟨w.heap.size + 1 + 1, 1, none⟩ = some (.int .i64 (s : Int)) ∧ w'.cell? ⟨w.heap.size + 1 + 1, 2, none⟩ = some (.int .i64 (j : Int)) ∧ w'.cell? ⟨w.heap.size + 1, s, none⟩ = some (.slice ta tn tc)) => HCL.out w' (ents_kept htE h'.1 (fun hp b' off e e2 => by
          injection e2 with e2
          obtain ⟨b2, off2, ha, _, hc⟩ := htE.cells hp
          have hn := box_far hO.1 (hc 0 hp).1
          rw [e] at ha; injection ha with ha; injection ha with ha _ _
          omega)))
        go_region_held3 (fun w' => w9.grownBy w' (some G) ∧ RowAt w' G j (.slice (D0 0) (ofK o 0).length (D1 0)) (.slice (D0 1) (ofK o 1).length (D1 1)) (.slice (D0 2) (ofK o 2).length (D1 2)) 53 ∧ w'.cell? ⟨w.heap.size + 1 + 1, 1, none⟩ = some (.int .i64 (s : Int)) ∧ w'.cell? ⟨w.heap.size + 1 + 1, 2, none⟩ = some (.int .i64 (j : Int)) ∧ w'.cell? ⟨w.heap.size + 1, s, none⟩ = some (.slice ta tn tc))
          (first | assumption | exact rowS_b k6 k6 k5 (by assumption) (by assumption) | exact rowS_s _ n1 n1 n2 (by assumption))
          (first
            | (go_at_call 17; (have hszC := HZ.out _ (by assumption)); (with_reducible refine (CC.out _ (by assumption)).mono ?_); rintro e wC ⟨aC, cC, rfl, hoC, hbC⟩; have hSC : w9.grownBy wC (some G) ∧ RowAt wC G j (.slice (D0 0) (ofK o 0).length (D1 0)) (.slice (D0 1) (ofK o 1).length (D1 1)) (.slice (D0 2) (ofK o 2).length (D1 2)) 53 ∧ wC.cell? ⟨w.heap.size + 1 + 1, 1, none⟩ = some (.int .i64 (s : Int)) ∧ wC.cell? ⟨w.heap.size + 1 + 1, 2, none⟩ = some (.int .i64 (j : Int)) ∧ wC.cell? ⟨w.heap.size + 1, s, none⟩ = some (.slice ta tn tc) := rowS_b k6 k6 k5 (by assumption) hbC; obtain ⟨uP, t8, t9⟩ := HQ.out _ hSC))
        all_goals
          have hEn := ents_owned hoC htE.sz
          have hlo : ∀ b off, aC = some ⟨b, off, none⟩ → w9.heap.size ≤ b := fun b off e => by subst e; exact Nat.le_trans hszC (hoC.lt b rfl).1
          have pz := rowAt_set hSC.2.1 (.slice aC tn cC)
          have hEn := hEn.grown (set_grown _ G j (.slice aC tn cC)) (fun b off e => by intro e2; injection e2 with e2; have := hlo b off e; omega)
          have hgs := grow_trans hSC.1 (set_grown _ G j (.slice aC tn cC)) (fun q hq => .inl (by injection hq with hq; exact hq.symm))
          go_wp2_with fail
          go_meet
          case rel => exact ⟨aC, cC, pz, hEn, hgs⟩
      case rest =>
        obtain ⟨aC, cC, pz, hEn, hgs⟩ := hcut
        obtain ⟨w10, hw10⟩ : ∃ x, x = wc := ⟨_, rfl⟩
        subst hw10
        have q6 := heap_kept hgs q6 (by intro e; injection e with e; omega)
        have d6_2 := heap_cell q6 2 _ rfl
        have hnew : w10.cell? ⟨G, j, none⟩ = some (.slice aC tn cC) := heap_cell pz j _ (by
          match j, hj with
          | 0, _ => rfl
          | 1, _ => rfl
          | 2, _ => rfl)
        have hold := ents_kept (hO.2 j hj) hgs (fun hp b' off e e2 => by
          injection e2 with e2
          obtain ⟨b2, off2, ha, _, hc⟩ := (hO.2 j hj).cells hp
          have hn := box_far hO.1 (hc 0 hp).1
          rw [e] at ha; injection ha with ha; injection ha with ha _ _
          omega)
        have hcap := hEn.cap
        have hlen := htn
        have hle1 : ((ofK o j).length : Int) ≤ (tn : Int) := by omega
        have hle2 : decide (((ofK o j).length : Int) ≤ (tn : Int)) = true := decide_eq_true hle1
        have hle3 : decide ((ofK o j).length ≤ tn) = true := decide_eq_true (by omega)
        have htk := fun w1 => run_take aC tn cC (ofK o j).length (by omega) w1
        have hq := fun w1 h1 h2 => equal_ents (ofK o j) ((sideL Y (s : Int)).take (ofK o j).length) (D0 j) aC (ofK o j).length (D1 j) (ofK o j).length cC w1 rfl (by rw [List.length_take]; omega) h1 h2
        rw [decide_eq_true HEQ.out] at hq
        have hEt := hEn.take (ofK o j).length
        have HQ := Lib.hid hq
        clear hq
        go_wp2_with fail
        refine (HQ.out w10 hold hEt).mono ?_
        rintro e w11 ⟨rfl, hb11⟩
        go_wp2_with fail
        go_ret
        exact ⟨aC, cC, w9, w10, rfl, hb9, hgs, by rw [htn]; exact pz, hEn, hb11⟩

end Go.Proofs.YtnemiobgmdpnmagDoor
