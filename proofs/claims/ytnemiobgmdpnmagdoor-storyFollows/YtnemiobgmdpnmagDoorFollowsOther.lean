/-
  StoryFollows: a showing of a book of another length.
-/
import Derived.Test.YtnemiobgmdpnmagDoorFollowsMem
namespace Go.Proofs.YtnemiobgmdpnmagDoor
open Go Go.RowKit

set_option maxHeartbeats 16000000 in
set_option maxRecDepth 100000 in
theorem follows_other (G : Nat) (Y : WB) (a0 : Option Addr) (n0 c0 : Nat) (a1 : Option Addr) (n1 c1 : Nat) (a2 : Option Addr) (n2 c2 : Nat) (b0 : Option Addr) (m0 e0 : Nat) (b1 : Option Addr) (m1 e1 : Nat) (b2 : Option Addr) (m2 e2 : Nat) (s j : Nat) (xo xe : Int) (xv : ByteArray) (w : World) (hYW : WAt w b0 m0 e0 b1 m1 e1 b2 m2 e2 Y) (gY : worldE Y = 0) (hs : s < 2) (hj : j < 3) (hn : (cliOf Y.cs j).1 ≠ ((sideL Y (s : Int)).length : Int)) :
    Calls Tryd.prog 15 #[.agg #[.slice a0 n0 c0, .slice a1 n1 c1, .slice a2 n2 c2], .agg #[.slice b0 m0 e0, .slice b1 m1 e1, .slice b2 m2 e2], .agg #[.int .i64 3, .int .i64 (s : Int), .int .i64 (j : Int), .int .i64 xo, .int .i64 xe, .string xv], .pointer (some ⟨G, 0, none⟩)] w fun e w' => e = .returned (.bool true) ∧ Below w.heap.size w w' := by
  have hl3 := ((worldE_iff Y).1 gY).2.2.1
  obtain rfl : m2 = 3 := by rw [← hYW.l2]; exact hl3
  obtain ⟨bw, ow, hbw, kw, hcw⟩ := hYW.e2.cells (by omega)
  subst hbw
  clear hcw
  have zc := hYW.e2.cap
  have zm := hYW.e2.max
  rw [hl3] at zc
  have hs1 : (s : Int) < 2 := by omega
  have hj1 : (j : Int) < 3 := by omega
  obtain ⟨q4, q5, q6, _⟩ := boxes3 w (.cells #[.slice a0 n0 c0, .slice a1 n1 c1, .slice a2 n2 c2] 31) (.cells #[.slice b0 m0 e0, .slice b1 m1 e1, .slice (some ⟨bw, ow, none⟩) 3 e2] 31) (.cells #[.int .i64 3, .int .i64 (s : Int), .int .i64 (j : Int), .int .i64 xo, .int .i64 xe, .string xv] 35)
  have hb0 := below3 w (.cells #[.slice a0 n0 c0, .slice a1 n1 c1, .slice a2 n2 c2] 31) (.cells #[.slice b0 m0 e0, .slice b1 m1 e1, .slice (some ⟨bw, ow, none⟩) 3 e2] 31) (.cells #[.int .i64 3, .int .i64 (s : Int), .int .i64 (j : Int), .int .i64 xo, .int .i64 xe, .string xv] 35)
  go_enter Tryd.func15, Tryd.ntmps15
  go_upto_region 1 with fail
  generalize (((w.alloc (.cells #[.slice a0 n0 c0, .slice a1 n1 c1, .slice a2 n2 c2] 31)).alloc (.cells #[.slice b0 m0 e0, .slice b1 m1 e1, .slice (some ⟨bw, ow, none⟩) 3 e2] 31)).alloc (.cells #[.int .i64 3, .int .i64 (s : Int), .int .i64 (j : Int), .int .i64 xo, .int .i64 xe, .string xv] 35)) = w5 at q4 q5 q6 hb0 ⊢
  have hYW := hYW.on hb0
  obtain ⟨ta, tn, tc, htv, htn, htE⟩ := side_ents hYW s
  have t0 := side_cell q5 hs
  rw [htv] at t0
  obtain ⟨bw', ow', hbw, kw, hcw⟩ := hYW.e2.cells (by omega)
  injection hbw with hbw
  injection hbw with h1 h2
  subst h1 h2
  obtain ⟨z1, z2, z3, z4⟩ := hcw j (by omega)
  clear hcw
  have k5 := (Array.getElem?_eq_some_iff.1 q5).1
  have k6 := (Array.getElem?_eq_some_iff.1 q6).1
  generalize cliOf Y.cs j = cc at z1 z2 z3 z4 hn
  obtain ⟨cn, ca, cb, cf⟩ := cc
  simp only at z1 z2 z3 z4 hn
  rw [htn] at hn
  have zf1 : (cn == (tn : Int)) = false := by simp only [beq_eq_false_iff_ne, ne_eq]; exact hn
  have zf2 : (cn != (tn : Int)) = true := by simp only [bne, zf1]; rfl
  clear hn
  go_cut [31] (fun s31 w' => s31 = .bool true ∧ Below w5.heap.size w5 w')
  case first =>
    have hS0 : Below w5.heap.size w5 w5.drew ∧ w5.drew.cell? ⟨w.heap.size + 1 + 1, 0, none⟩ = some (.int .i64 3) ∧ w5.drew.cell? ⟨w.heap.size + 1 + 1, 1, none⟩ = some (.int .i64 (s : Int)) ∧ w5.drew.cell? ⟨w.heap.size + 1 + 1, 2, none⟩ = some (.int .i64 (j : Int)) ∧ w5.drew.cell? ⟨w.heap.size + 1, 2, none⟩ = some (.slice (some ⟨bw, ow, none⟩) 3 e2) ∧ w5.drew.cell? ⟨w.heap.size + 1, s, none⟩ = some (.slice ta tn tc) ∧ w5.drew.cell? ⟨bw, ow + j * 4, none⟩ = some (.int .i64 cn) := ⟨(Below.refl _ _).drew, heap_cell q6 0 _ rfl, heap_cell q6 1 _ rfl, heap_cell q6 2 _ rfl, heap_cell q5 2 _ rfl, t0, z1⟩
    have HB := Lib.hid (fun w' (h : Below w5.heap.size w5 w' ∧ w'.cell? ⟨w.heap.size + 1 + 1, 0, none⟩ = some (.int .i64 3) ∧ w'.cell? ⟨w.heap.size + 1 + 1, 1, none⟩ = some (.int .i64 (s : Int)) ∧ w'.cell? ⟨w.heap.size + 1 + 1, 2, none⟩ = some (.int .i64 (j : Int)) ∧ w'.cell? ⟨w.heap.size + 1, 2, none⟩ = some (.slice (some ⟨bw, ow, none⟩) 3 e2) ∧ w'.cell? ⟨w.heap.size + 1, s, none⟩ = some (.slice ta tn tc) ∧ w'.cell? ⟨bw, ow + j * 4, none⟩ = some (.int .i64 cn)) => h.1)
    go_region_held3 (fun w' => Below w5.heap.size w5 w' ∧ w'.cell? ⟨w.heap.size + 1 + 1, 0, none⟩ = some (.int .i64 3) ∧ w'.cell? ⟨w.heap.size + 1 + 1, 1, none⟩ = some (.int .i64 (s : Int)) ∧ w'.cell? ⟨w.heap.size + 1 + 1, 2, none⟩ = some (.int .i64 (j : Int)) ∧ w'.cell? ⟨w.heap.size + 1, 2, none⟩ = some (.slice (some ⟨bw, ow, none⟩) 3 e2) ∧ w'.cell? ⟨w.heap.size + 1, s, none⟩ = some (.slice ta tn tc) ∧ w'.cell? ⟨bw, ow + j * 4, none⟩ = some (.int .i64 cn))
      (first | assumption)
      (first | fail)
    all_goals
      go_wp2_with fail
      go_meet
      case rel => exact ⟨rfl, HB.out _ (by assumption)⟩
  case rest =>
    obtain ⟨rfl, hbc⟩ := hcut
    go_wp2_with fail
    go_ret
    exact ⟨rfl, below_on hb0 hbc⟩

end Go.Proofs.YtnemiobgmdpnmagDoor
