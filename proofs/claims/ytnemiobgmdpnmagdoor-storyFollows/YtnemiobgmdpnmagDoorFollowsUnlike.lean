/-
  StoryFollows: a showing that was not followed.
-/
import Derived.Test.YtnemiobgmdpnmagDoorFollowsMem
namespace Go.Proofs.YtnemiobgmdpnmagDoor
open Go Go.RowKit

set_option maxHeartbeats 16000000 in
set_option maxRecDepth 100000 in
theorem follows_unlike (G : Nat) (Y : WB) (a0 : Option Addr) (n0 c0 : Nat) (a1 : Option Addr) (n1 c1 : Nat) (a2 : Option Addr) (n2 c2 : Nat) (b0 : Option Addr) (m0 e0 : Nat) (b1 : Option Addr) (m1 e1 : Nat) (b2 : Option Addr) (m2 e2 : Nat) (s j : Nat) (xo xe : Int) (xv : ByteArray) (w : World) (hE : Tab w) (hYW : WAt w b0 m0 e0 b1 m1 e1 b2 m2 e2 Y) (gY : worldE Y = 0) (hs : s < 2) (hj : j < 3) (hn : (cliOf Y.cs j).1 = ((sideL Y (s : Int)).length : Int)) (hd : ¬ headIs (sideL Y (s : Int)) (cliOf Y.cs j)) :
    Calls Tryd.prog 15 #[.agg #[.slice a0 n0 c0, .slice a1 n1 c1, .slice a2 n2 c2], .agg #[.slice b0 m0 e0, .slice b1 m1 e1, .slice b2 m2 e2], .agg #[.int .i64 3, .int .i64 (s : Int), .int .i64 (j : Int), .int .i64 xo, .int .i64 xe, .string xv], .pointer (some ⟨G, 0, none⟩)] w fun e w' => e = .returned (.bool true) ∧ Below w.heap.size w w' := by
  have hl3 := ((worldE_iff Y).1 gY).2.2.1
  obtain rfl : m2 = 3 := by rw [← hYW.l2]; exact hl3
  obtain ⟨bw, ow, hbw, kw, hcw⟩ := hYW.e2.cells (by omega)
  subst hbw
  clear hcw
  have zc := hYW.e2.cap
  have zm := hYW.e2.max
  rw [hl3] at zc
  have hs1 : (s : Int) < 2 := by omega
  have hj1 : (j : Int) < 3 := by omega
  obtain ⟨q4, q5, q6, _⟩ := boxes3 w (.cells #[.slice a0 n0 c0, .slice a1 n1 c1, .slice a2 n2 c2] 31) (.cells #[.slice b0 m0 e0, .slice b1 m1 e1, .slice (some ⟨bw, ow, none⟩) 3 e2] 31) (.cells #[.int .i64 3, .int .i64 (s : Int), .int .i64 (j : Int), .int .i64 xo, .int .i64 xe, .string xv] 35)
  have hb0 := below3 w (.cells #[.slice a0 n0 c0, .slice a1 n1 c1, .slice a2 n2 c2] 31) (.cells #[.slice b0 m0 e0, .slice b1 m1 e1, .slice (some ⟨bw, ow, none⟩) 3 e2] 31) (.cells #[.int .i64 3, .int .i64 (s : Int), .int .i64 (j : Int), .int .i64 xo, .int .i64 xe, .string xv] 35)
  go_enter Tryd.func15, Tryd.ntmps15
  go_upto_region 1 with fail
  generalize (((w.alloc (.cells #[.slice a0 n0 c0, .slice a1 n1 c1, .slice a2 n2 c2] 31)).alloc (.cells #[.slice b0 m0 e0, .slice b1 m1 e1, .slice (some ⟨bw, ow, none⟩) 3 e2] 31)).alloc (.cells #[.int .i64 3, .int .i64 (s : Int), .int .i64 (j : Int), .int .i64 xo, .int .i64 xe, .string xv] 35)) = w5 at q4 q5 q6 hb0 ⊢
  have hYW := hYW.on hb0
  obtain ⟨ta, tn, tc, htv, htn, htE⟩ := side_ents hYW s
  have t0 := side_cell q5 hs
  rw [htv] at t0
  obtain ⟨bw', ow', hbw, kw, hcw⟩ := hYW.e2.cells (by omega)
  injection hbw with hbw
  injection hbw with h1 h2
  subst h1 h2
  obtain ⟨z1, z2, z3, z4⟩ := hcw j (by omega)
  clear hcw
  have k5 := (Array.getElem?_eq_some_iff.1 q5).1
  have k6 := (Array.getElem?_eq_some_iff.1 q6).1
  have hgd := side_good gY (s : Int)
  have hhd := fun w1 hE hS => head_ok (sideL Y (s : Int)) ta tn tc w1 hE htn hS hgd
  have hd : ¬ (headLog (sideL Y (s : Int)) = (cliOf Y.cs j).2.1 ∧ headMap (sideL Y (s : Int)) = (cliOf Y.cs j).2.2.1) := fun h => hd ⟨hn, h.1.symm, h.2.symm⟩
  obtain ⟨cc, hcc⟩ : ∃ cc, cliOf Y.cs j = cc := ⟨_, rfl⟩
  rw [hcc] at z1 z2 z3 z4 hd hn
  obtain ⟨cn, ca, cb, cf⟩ := cc
  simp only at z1 z2 z3 z4 hd hn
  rw [htn] at hn
  subst hn
  generalize headLog (sideL Y (s : Int)) = hl at hhd hd
  generalize headMap (sideL Y (s : Int)) = hm at hhd hd
  have HH := Lib.hid hhd
  clear hhd
  have zf1 : ((tn : Int) == (tn : Int)) = true := by simp
  have zf2 : ((tn : Int) != (tn : Int)) = false := by simp
  go_cut [31] (fun s31 w' => s31 = .bool false ∧ Below w5.heap.size w5 w')
  case first =>
    have hS0 : Below w5.heap.size w5 w5.drew ∧ w5.drew.cell? ⟨w.heap.size + 1 + 1, 0, none⟩ = some (.int .i64 3) ∧ w5.drew.cell? ⟨w.heap.size + 1 + 1, 1, none⟩ = some (.int .i64 (s : Int)) ∧ w5.drew.cell? ⟨w.heap.size + 1 + 1, 2, none⟩ = some (.int .i64 (j : Int)) ∧ w5.drew.cell? ⟨w.heap.size + 1, 2, none⟩ = some (.slice (some ⟨bw, ow, none⟩) 3 e2) ∧ w5.drew.cell? ⟨w.heap.size + 1, s, none⟩ = some (.slice ta tn tc) ∧ w5.drew.cell? ⟨bw, ow + j * 4, none⟩ = some (.int .i64 (tn : Int)) := ⟨(Below.refl _ _).drew, heap_cell q6 0 _ rfl, heap_cell q6 1 _ rfl, heap_cell q6 2 _ rfl, heap_cell q5 2 _ rfl, t0, z1⟩
    have HB := Lib.hid (fun w' (h : Below w5.heap.size w5 w' ∧ w'.cell? ⟨w.heap.size + 1 + 1, 0, none⟩ = some (.int .i64 3) ∧ w'.cell? ⟨w.heap.size + 1 + 1, 1, none⟩ = some (.int .i64 (s : Int)) ∧ w'.cell? ⟨w.heap.size + 1 + 1, 2, none⟩ = some (.int .i64 (j : Int)) ∧ w'.cell? ⟨w.heap.size + 1, 2, none⟩ = some (.slice (some ⟨bw, ow, none⟩) 3 e2) ∧ w'.cell? ⟨w.heap.size + 1, s, none⟩ = some (.slice ta tn tc) ∧ w'.cell? ⟨bw, ow + j * 4, none⟩ = some (.int .i64 (tn : Int))) => h.1)
    go_region_held3 (fun w' => Below w5.heap.size w5 w' ∧ w'.cell? ⟨w.heap.size + 1 + 1, 0, none⟩ = some (.int .i64 3) ∧ w'.cell? ⟨w.heap.size + 1 + 1, 1, none⟩ = some (.int .i64 (s : Int)) ∧ w'.cell? ⟨w.heap.size + 1 + 1, 2, none⟩ = some (.int .i64 (j : Int)) ∧ w'.cell? ⟨w.heap.size + 1, 2, none⟩ = some (.slice (some ⟨bw, ow, none⟩) 3 e2) ∧ w'.cell? ⟨w.heap.size + 1, s, none⟩ = some (.slice ta tn tc) ∧ w'.cell? ⟨bw, ow + j * 4, none⟩ = some (.int .i64 (tn : Int)))
      (first | assumption)
      (first | fail)
    all_goals
      go_wp2_with fail
      go_meet
      case rel => exact ⟨rfl, HB.out _ (by assumption)⟩
  case rest =>
    obtain ⟨rfl, hbc⟩ := hcut
    obtain ⟨w6, hw6⟩ : ∃ x, x = wc := ⟨_, rfl⟩
    subst hw6
    have q5 := heap_on hbc q5
    have q6 := heap_on hbc q6
    have hYW := hYW.on hbc
    have htE := htE.on hbc
    have hb6 := below_on hb0 hbc
    clear zf1 zf2 t0 z1 z2 z3 z4 k5 k6 q4
    have t0 := side_cell q5 hs
    rw [htv] at t0
    have d6_1 := heap_cell q6 1 _ rfl
    go_wp2_with fail
    refine (HH.out w6 (hE.on hb6) htE).mono ?_
    rintro e w7 ⟨rfl, hb7⟩
    have q5 := heap_on hb7 q5
    have q6 := heap_on hb7 q6
    have hYW := hYW.on hb7
    have htE := htE.on hb7
    have hbc7 := hb7
    have hb7 := below_on hb6 hb7
    clear hb6 HH t0 d6_1
    have hbl := (Below.refl w7.heap.size w7).alloc (Nat.le_refl _) (.cells #[.int .i64 (tn : Int), .string hl, .string hm] 47)
    have q5 := heap_on hbl q5
    have q6 := heap_on hbl q6
    have q8 := heap_push w7 (.cells #[.int .i64 (tn : Int), .string hl, .string hm] 47)
    have hYW := hYW.on hbl
    have htE := htE.on hbl
    have hb8 := below_on hb7 hbl
    clear hb7
    go_upto_region 6 with fail
    generalize (w7.alloc (.cells #[.int .i64 (tn : Int), .string hl, .string hm] 47)) = w8 at q5 q6 q8 hYW htE hb8 hbl ⊢
    generalize w7.heap.size = B8 at q8 hbl ⊢
    by_cases h1 : hl = ca
    · obtain ⟨bw', ow', hbw, kw, hcw⟩ := hYW.e2.cells (by omega)
      injection hbw with hbw
      injection hbw with h1 h2
      subst h1 h2
      obtain ⟨z1, z2, z3, _⟩ := hcw j (by omega)
      rw [hcc] at z1 z2 z3
      simp only at z1 z2 z3
      clear hcw
      have h2 : ¬ hm = cb := fun h => hd ⟨h1, h⟩
      have x1 := str_eq h1
      have x2 := str_ne h2
      have x3 : ((tn : Int) == (tn : Int)) = true := by simp
      go_cut [51] (fun s51 w' => s51 = .bool true ∧ Below w8.heap.size w8 w')
      case first =>
        have hS0 : Below w8.heap.size w8 w8.drew ∧ w8.drew.cell? ⟨B8, 0, none⟩ = some (.int .i64 (tn : Int)) ∧ w8.drew.cell? ⟨B8, 1, none⟩ = some (.string hl) ∧ w8.drew.cell? ⟨B8, 2, none⟩ = some (.string hm) ∧ w8.drew.cell? ⟨w.heap.size + 1 + 1, 2, none⟩ = some (.int .i64 (j : Int)) ∧ w8.drew.cell? ⟨w.heap.size + 1, 2, none⟩ = some (.slice (some ⟨bw, ow, none⟩) 3 e2) ∧ w8.drew.cell? ⟨bw, ow + j * 4, none⟩ = some (.int .i64 (tn : Int)) ∧ w8.drew.cell? ⟨bw, ow + j * 4 + 1, none⟩ = some (.string ca) ∧ w8.drew.cell? ⟨bw, ow + j * 4 + 2, none⟩ = some (.string cb) := ⟨(Below.refl _ _).drew, heap_cell q8 0 _ rfl, heap_cell q8 1 _ rfl, heap_cell q8 2 _ rfl, heap_cell q6 2 _ rfl, heap_cell q5 2 _ rfl, z1, z2, z3⟩
        have HB := Lib.hid (fun w' (h : Below w8.heap.size w8 w' ∧ w'.cell? ⟨B8, 0, none⟩ = some (.int .i64 (tn : Int)) ∧ w'.cell? ⟨B8, 1, none⟩ = some (.string hl) ∧ w'.cell? ⟨B8, 2, none⟩ = some (.string hm) ∧ w'.cell? ⟨w.heap.size + 1 + 1, 2, none⟩ = some (.int .i64 (j : Int)) ∧ w'.cell? ⟨w.heap.size + 1, 2, none⟩ = some (.slice (some ⟨bw, ow, none⟩) 3 e2) ∧ w'.cell? ⟨bw, ow + j * 4, none⟩ = some (.int .i64 (tn : Int)) ∧ w'.cell? ⟨bw, ow + j * 4 + 1, none⟩ = some (.string ca) ∧ w'.cell? ⟨bw, ow + j * 4 + 2, none⟩ = some (.string cb)) => h.1)
        go_region_held3 (fun w' => Below w8.heap.size w8 w' ∧ w'.cell? ⟨B8, 0, none⟩ = some (.int .i64 (tn : Int)) ∧ w'.cell? ⟨B8, 1, none⟩ = some (.string hl) ∧ w'.cell? ⟨B8, 2, none⟩ = some (.string hm) ∧ w'.cell? ⟨w.heap.size + 1 + 1, 2, none⟩ = some (.int .i64 (j : Int)) ∧ w'.cell? ⟨w.heap.size + 1, 2, none⟩ = some (.slice (some ⟨bw, ow, none⟩) 3 e2) ∧ w'.cell? ⟨bw, ow + j * 4, none⟩ = some (.int .i64 (tn : Int)) ∧ w'.cell? ⟨bw, ow + j * 4 + 1, none⟩ = some (.string ca) ∧ w'.cell? ⟨bw, ow + j * 4 + 2, none⟩ = some (.string cb))
          (first | assumption)
          (first | fail)
        all_goals
          go_wp2_with fail
          go_meet
          case rel => exact ⟨rfl, HB.out _ (by assumption)⟩
      case rest =>
        obtain ⟨rfl, hbq⟩ := hcut
        go_wp2_with fail
        go_ret
        exact ⟨rfl, below_on hb8 hbq⟩
    · obtain ⟨bw', ow', hbw, kw, hcw⟩ := hYW.e2.cells (by omega)
      injection hbw with hbw
      injection hbw with h1 h2
      subst h1 h2
      obtain ⟨z1, z2, z3, _⟩ := hcw j (by omega)
      rw [hcc] at z1 z2 z3
      simp only at z1 z2 z3
      clear hcw
      have x1 := str_ne h1
      have x3 : ((tn : Int) == (tn : Int)) = true := by simp
      go_cut [51] (fun s51 w' => s51 = .bool true ∧ Below w8.heap.size w8 w')
      case first =>
        have hS0 : Below w8.heap.size w8 w8.drew ∧ w8.drew.cell? ⟨B8, 0, none⟩ = some (.int .i64 (tn : Int)) ∧ w8.drew.cell? ⟨B8, 1, none⟩ = some (.string hl) ∧ w8.drew.cell? ⟨B8, 2, none⟩ = some (.string hm) ∧ w8.drew.cell? ⟨w.heap.size + 1 + 1, 2, none⟩ = some (.int .i64 (j : Int)) ∧ w8.drew.cell? ⟨w.heap.size + 1, 2, none⟩ = some (.slice (some ⟨bw, ow, none⟩) 3 e2) ∧ w8.drew.cell? ⟨bw, ow + j * 4, none⟩ = some (.int .i64 (tn : Int)) ∧ w8.drew.cell? ⟨bw, ow + j * 4 + 1, none⟩ = some (.string ca) ∧ w8.drew.cell? ⟨bw, ow + j * 4 + 2, none⟩ = some (.string cb) := ⟨(Below.refl _ _).drew, heap_cell q8 0 _ rfl, heap_cell q8 1 _ rfl, heap_cell q8 2 _ rfl, heap_cell q6 2 _ rfl, heap_cell q5 2 _ rfl, z1, z2, z3⟩
        have HB := Lib.hid (fun w' (h : Below w8.heap.size w8 w' ∧ w'.cell? ⟨B8, 0, none⟩ = some (.int .i64 (tn : Int)) ∧ w'.cell? ⟨B8, 1, none⟩ = some (.string hl) ∧ w'.cell? ⟨B8, 2, none⟩ = some (.string hm) ∧ w'.cell? ⟨w.heap.size + 1 + 1, 2, none⟩ = some (.int .i64 (j : Int)) ∧ w'.cell? ⟨w.heap.size + 1, 2, none⟩ = some (.slice (some ⟨bw, ow, none⟩) 3 e2) ∧ w'.cell? ⟨bw, ow + j * 4, none⟩ = some (.int .i64 (tn : Int)) ∧ w'.cell? ⟨bw, ow + j * 4 + 1, none⟩ = some (.string ca) ∧ w'.cell? ⟨bw, ow + j * 4 + 2, none⟩ = some (.string cb)) => h.1)
        go_region_held3 (fun w' => Below w8.heap.size w8 w' ∧ w'.cell? ⟨B8, 0, none⟩ = some (.int .i64 (tn : Int)) ∧ w'.cell? ⟨B8, 1, none⟩ = some (.string hl) ∧ w'.cell? ⟨B8, 2, none⟩ = some (.string hm) ∧ w'.cell? ⟨w.heap.size + 1 + 1, 2, none⟩ = some (.int .i64 (j : Int)) ∧ w'.cell? ⟨w.heap.size + 1, 2, none⟩ = some (.slice (some ⟨bw, ow, none⟩) 3 e2) ∧ w'.cell? ⟨bw, ow + j * 4, none⟩ = some (.int .i64 (tn : Int)) ∧ w'.cell? ⟨bw, ow + j * 4 + 1, none⟩ = some (.string ca) ∧ w'.cell? ⟨bw, ow + j * 4 + 2, none⟩ = some (.string cb))
          (first | assumption)
          (first | fail)
        all_goals
          go_wp2_with fail
          go_meet
          case rel => exact ⟨rfl, HB.out _ (by assumption)⟩
      case rest =>
        obtain ⟨rfl, hbq⟩ := hcut
        go_wp2_with fail
        go_ret
        exact ⟨rfl, below_on hb8 hbq⟩

end Go.Proofs.YtnemiobgmdpnmagDoor
