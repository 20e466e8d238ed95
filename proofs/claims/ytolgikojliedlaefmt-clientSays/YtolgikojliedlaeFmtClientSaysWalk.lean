/-
  ClientSays' walk: of whatever client, head, seals, entry, steps and numbers it answers true.
-/
import Derived.Test.YtolgikojliedlaeFmtFollowed
import Derived.Test.YtolgikojliedlaeFmtRefFollows
import Derived.Test.YtolgikojliedlaeFmtPathShowsOf
import Derived.Test.YtolgikojliedlaeFmtRefShows
import Derived.Test.YtolgikojliedlaeFmtRefText
import Derived.Lib.QuietBelow
import Derived.Deep.DeepCutAuto
namespace Go.Proofs.YtolgikojliedlaeFmt
open Go Go.RowKit Go.Maps Go.Kit Go.Extern.Stop Go.Stop Go.Extern

set_option maxHeartbeats 4000000 in
set_option maxRecDepth 100000 in
theorem clientSays_walk (I : Interp) (cn : Int) (ca cb : ByteArray) (cf : Bool) (hn : Int) (ha hb : ByteArray) (ls : List ByteArray) (a3 : Option Addr) (n3 c3 : Nat) (i kx : Int) (vx : ByteArray) (ss : List StepB) (a6 : Option Addr) (n6 c6 : Nat) (t : Bool) (w : World) (hE : Tab w) (hF : I.told.answers w.tape) (hn3 : ls.length = n3) (hS3 : StrsAt w a3 c3 ls) (hz3 : ∀ s ∈ ls, s.size ≤ 140737488355328) (_hi : -9223372036854775808 ≤ i) (_hi' : i ≤ 9223372036854775807) (hx : WideEnt (kx, vx)) (hv : vx.size ≤ 140737488355328) (hn6 : ss.length = n6) (hS6 : StepsAt w a6 c6 ss) (hz6 : ∀ s ∈ ss, s.2.size ≤ 140737488355328) :
    Calls Tryf.prog 4 #[.agg #[.int .i64 cn, .string ca, .string cb, .bool cf], .agg #[.int .i64 hn, .string ha, .string hb], .slice a3 n3 c3, .int .i64 i, .agg #[.int .i64 kx, .string vx], .slice a6 n6 c6, .bool t] w fun e w' => e = .returned (.bool true) ∧ Below w.heap.size w w' := by
  obtain ⟨x1, x2, x3⟩ := hx
  simp only at x1 x2 x3
  have hnb := numB_size x1 x2
  have hts := textE_size (kx, vx)
  simp only at hts
  have h1 := fun w hE hS => follow_any cn ca cb cf hn ha hb ls a3 n3 c3 w hn3 hE hS
  have h2 := fun w hF hS => follows_any I cn ca cb cf hn ha hb ls a3 n3 c3 w hF hn3 hS hz3
  have h3 := fun w => checkHead_any cn ca cb w
  have h4 := fun w hE hS => sees_any cn ca cb cf i kx vx ss a6 n6 c6 w hn6 hE hS x1 x2 hv
  have h5 := fun w hE hS => finds_any cn ca cb cf i vx t ls a3 n3 c3 w hE hS hn3
  have h6 := fun w hF => textOf_any I kx vx w hF x1 x2 hv
  have h7 := fun w hF hS => showsOf_any I ca cn i (textE (kx, vx)) ss a6 n6 c6 w hF (by omega) hz6 hn6 hS
  have h8 := fun w hF hS => mapShows_any I cb i vx t ls a3 n3 c3 w hF hS hn3 x3 (fun s hs => by have := hz3 s hs; omega)
  have f4 : seesE cn ca cb i (textE (kx, vx)) ss = if headE cn ca cb ≠ 0 then headE cn ca cb else showE ca cn i (textE (kx, vx)) ss := rfl
  have f5 : findsE cn ca cb i vx t ls = if headE cn ca cb ≠ 0 then headE cn ca cb else trieE cb i vx t ls := rfl
  generalize textE (kx, vx) = T1 at h4 h6 h7 f4
  generalize folN cn ca cb hn ha hb ls = fN at h1 h2
  generalize folA cn ca cb hn ha hb ls = fA at h1 h2
  generalize folB cn ca cb hn ha hb ls = fB at h1 h2
  generalize folF cn ca cb cf hn ha hb ls = fF at h1 h2
  generalize followE cn ca cb hn ha hb ls = z at h1 h2
  generalize seesE cn ca cb i T1 ss = y at h4 f4
  generalize findsE cn ca cb i vx t ls = yf at h5 f5
  generalize headE cn ca cb = zc at h3 f4 f5
  generalize showE ca cn i T1 ss = ys at h7 f4
  generalize trieE cb i vx t ls = yt at h8 f5
  have H1 := Lib.hid h1
  have H2 := Lib.hid h2
  have H3 := Lib.hid h3
  have H4 := Lib.hid h4
  have H5 := Lib.hid h5
  have H6 := Lib.hid h6
  have H7 := Lib.hid h7
  have H8 := Lib.hid h8
  have F4 := Lib.hid f4
  have F5 := Lib.hid f5
  clear h1 h2 h3 h4 h5 h6 h7 h8 f4 f5 hts hnb
  obtain ⟨q7, q8, q11, _⟩ := boxes3 w (.cells #[.int .i64 cn, .string ca, .string cb, .bool cf] 54) (.cells #[.int .i64 hn, .string ha, .string hb] 52) (.cells #[.int .i64 kx, .string vx] 26)
  have hb0 := below3 w (.cells #[.int .i64 cn, .string ca, .string cb, .bool cf] 54) (.cells #[.int .i64 hn, .string ha, .string hb] 52) (.cells #[.int .i64 kx, .string vx] 26)
  go_enter Tryf.func4, Tryf.ntmps4
  go_wp2_with fail
  generalize (((w.alloc (.cells #[.int .i64 cn, .string ca, .string cb, .bool cf] 54)).alloc (.cells #[.int .i64 hn, .string ha, .string hb] 52)).alloc (.cells #[.int .i64 kx, .string vx] 26)) = w0 at q7 q8 q11 hb0 ⊢
  refine (H1.out w0 (hE.on hb0) (hS3.on hb0)).mono ?_
  rintro e w1 ⟨rfl, hb1⟩
  have q7 := heap_on hb1 q7
  have q8 := heap_on hb1 q8
  have q11 := heap_on hb1 q11
  have hb1 := below_on hb0 hb1
  clear hb0
  have q7 := heap_old w1 (.cells #[.int .i64 fN, .string fA, .string fB, .bool fF] 54) q7
  have q8 := heap_old w1 (.cells #[.int .i64 fN, .string fA, .string fB, .bool fF] 54) q8
  have q11 := heap_old w1 (.cells #[.int .i64 fN, .string fA, .string fB, .bool fF] 54) q11
  have q15 := heap_push w1 (.cells #[.int .i64 fN, .string fA, .string fB, .bool fF] 54)
  have hb2 := hb1.alloc hb1.size (.cells #[.int .i64 fN, .string fA, .string fB, .bool fF] 54)
  clear hb1
  have dq7_0 := heap_cell q7 0 _ rfl
  have dq7_1 := heap_cell q7 1 _ rfl
  have dq7_2 := heap_cell q7 2 _ rfl
  have dq7_3 := heap_cell q7 3 _ rfl
  have dq8_0 := heap_cell q8 0 _ rfl
  have dq8_1 := heap_cell q8 1 _ rfl
  have dq8_2 := heap_cell q8 2 _ rfl
  go_wp2_with fail
  generalize (w1.alloc (.cells #[.int .i64 fN, .string fA, .string fB, .bool fF] 54)) = w2 at q7 q8 q11 q15 dq7_0 dq7_1 dq7_2 dq7_3 dq8_0 dq8_1 dq8_2 hb2 ⊢
  generalize w1.heap.size = B15 at q15 ⊢
  have hFt : I.told.answers w2.tape := by rw [hb2.tape]; exact hF
  refine (H2.out w2 hFt (hS3.on hb2)).mono ?_
  rintro e w3 ⟨rfl, hb3⟩
  have q7 := heap_on hb3 q7
  have q8 := heap_on hb3 q8
  have q11 := heap_on hb3 q11
  have q15 := heap_on hb3 q15
  have hb3 := below_on hb2 hb3
  clear hb2
  clear dq7_0 dq7_1 dq7_2 dq7_3 dq8_0 dq8_1 dq8_2 hFt
  have q7 := heap_old w3 (.cells #[.int .i64 fN, .string fA, .string fB, .bool fF] 54) q7
  have q8 := heap_old w3 (.cells #[.int .i64 fN, .string fA, .string fB, .bool fF] 54) q8
  have q11 := heap_old w3 (.cells #[.int .i64 fN, .string fA, .string fB, .bool fF] 54) q11
  have q15 := heap_old w3 (.cells #[.int .i64 fN, .string fA, .string fB, .bool fF] 54) q15
  have q17 := heap_push w3 (.cells #[.int .i64 fN, .string fA, .string fB, .bool fF] 54)
  have hb4 := hb3.alloc hb3.size (.cells #[.int .i64 fN, .string fA, .string fB, .bool fF] 54)
  clear hb3
  have dq7_0 := heap_cell q7 0 _ rfl
  have dq7_1 := heap_cell q7 1 _ rfl
  have dq7_2 := heap_cell q7 2 _ rfl
  go_wp2_with fail
  generalize (w3.alloc (.cells #[.int .i64 fN, .string fA, .string fB, .bool fF] 54)) = w4 at q7 q8 q11 q15 q17 dq7_0 dq7_1 dq7_2 hb4 ⊢
  generalize w3.heap.size = B17 at q17 ⊢
  refine (H3.out w4).mono ?_
  rintro e w5 ⟨rfl, hb5⟩
  have q7 := heap_on hb5 q7
  have q8 := heap_on hb5 q8
  have q11 := heap_on hb5 q11
  have q15 := heap_on hb5 q15
  have q17 := heap_on hb5 q17
  have hb5 := below_on hb4 hb5
  clear hb4
  clear dq7_0 dq7_1 dq7_2
  go_upto_region 4 with fail
  have cS := Lib.hid (fun d os => Calls.regrown_of (H4.out (Sort.grow (redrawn w5 d) os) (hE.on (below_on hb5 (below_regrown w5 d os))) (hS6.on (below_on hb5 (below_regrown w5 d os)))))
  have cN := Lib.hid (fun d os => Calls.regrown_of (H5.out (Sort.grow (redrawn w5 d) os) (hE.on (below_on hb5 (below_regrown w5 d os))) (hS3.on (below_on hb5 (below_regrown w5 d os)))))
  have k0 := fun d os => cell_regrown (heap_cell q7 0 _ rfl) d os
  have k1 := fun d os => cell_regrown (heap_cell q7 1 _ rfl) d os
  have k2 := fun d os => cell_regrown (heap_cell q7 2 _ rfl) d os
  have k3 := fun d os => cell_regrown (heap_cell q7 3 _ rfl) d os
  have k4 := fun d os => cell_regrown (heap_cell q11 0 _ rfl) d os
  have k5 := fun d os => cell_regrown (heap_cell q11 1 _ rfl) d os
  refine wp_region_quiet_below (by kernel_rfl) (by kernel_rfl) ?_
  repeat (first | go_big_quiet_step (first | with_reducible exact cS.out _ _ | with_reducible exact cN.out _ _) | quiet_step (first | with_reducible exact cS.out _ _ | with_reducible exact cN.out _ _))
  refine wpQuiet_nil ?_
  intro _ hw'
  obtain ⟨⟨dq, osq⟩, hw''⟩ := hw'
  subst hw''
  have hbr := below_regrown w5 dq osq
  have q7 := heap_on hbr q7
  have q11 := heap_on hbr q11
  have q15 := heap_on hbr q15
  have q17 := heap_on hbr q17
  have hb6 := below_on hb5 hbr
  generalize Sort.grow (redrawn w5 dq) osq = w6 at q7 q11 q15 q17 hb6 ⊢
  clear hbr hb5 cS cN k0 k1 k2 k3 k4 k5 q8
  go_wp2_with fail
  refine (followed_any w6 (hE.on hb6)).mono ?_
  rintro e w7 ⟨rfl, hb7⟩
  have q7 := heap_on hb7 q7
  have q11 := heap_on hb7 q11
  have q15 := heap_on hb7 q15
  have q17 := heap_on hb7 q17
  have hb7 := below_on hb6 hb7
  clear hb6
  have dq15_0 := heap_cell q15 0 _ rfl
  have dq15_1 := heap_cell q15 1 _ rfl
  have dq15_2 := heap_cell q15 2 _ rfl
  have dq15_3 := heap_cell q15 3 _ rfl
  have dq17_0 := heap_cell q17 0 _ rfl
  have dq17_1 := heap_cell q17 1 _ rfl
  have dq17_2 := heap_cell q17 2 _ rfl
  have dq17_3 := heap_cell q17 3 _ rfl
  have hzz : (z == z) = true := by simp
  by_cases h0 : zc = 0
  · have f4 := F4.out
    have f5 := F5.out
    rw [if_neg (fun h => h h0)] at f4 f5
    subst f4 f5 h0
    have g2 : (y == y) = true := by simp
    have g3 : (yf == yf) = true := by simp
    go_upto_region 9 with fail
    have cT := Lib.hid (fun d os => Calls.regrown_of (H6.out (Sort.grow (redrawn w7 d) os) (by rw [(below_on hb7 (below_regrown w7 d os)).tape]; exact hF)))
    have cP := Lib.hid (fun d os => Calls.regrown_of (H7.out (Sort.grow (redrawn w7 d) os) (by rw [(below_on hb7 (below_regrown w7 d os)).tape]; exact hF) (hS6.on (below_on hb7 (below_regrown w7 d os)))))
    have cM := Lib.hid (fun d os => Calls.regrown_of (H8.out (Sort.grow (redrawn w7 d) os) (by rw [(below_on hb7 (below_regrown w7 d os)).tape]; exact hF) (hS3.on (below_on hb7 (below_regrown w7 d os)))))
    have k0 := fun d os => cell_regrown (heap_cell q7 0 _ rfl) d os
    have k1 := fun d os => cell_regrown (heap_cell q7 1 _ rfl) d os
    have k2 := fun d os => cell_regrown (heap_cell q7 2 _ rfl) d os
    have k3 := fun d os => cell_regrown (heap_cell q7 3 _ rfl) d os
    have k4 := fun d os => cell_regrown (heap_cell q11 0 _ rfl) d os
    have k5 := fun d os => cell_regrown (heap_cell q11 1 _ rfl) d os
    refine wp_region_quiet_below (by kernel_rfl) (by kernel_rfl) ?_
    repeat (first | go_big_quiet_step (first | with_reducible exact cT.out _ _ | with_reducible exact cP.out _ _ | with_reducible exact cM.out _ _) | quiet_step (first | with_reducible exact cT.out _ _ | with_reducible exact cP.out _ _ | with_reducible exact cM.out _ _))
    refine wpQuiet_nil ?_
    intro _ hw'
    obtain ⟨⟨dq, osq⟩, hw''⟩ := hw'
    subst hw''
    have hbr := below_on hb7 (below_regrown w7 dq osq)
    go_wp2_with fail
    go_ret
    exact ⟨rfl, hbr⟩
  · have f4 := F4.out
    have f5 := F5.out
    rw [if_pos h0] at f4 f5
    subst f4 f5
    have g1 : (yf == 0) = false := by simp only [beq_eq_false_iff_ne, ne_eq]; exact h0
    have g2 : (yf == yf) = true := by simp
    go_wp2_with fail
    go_ret
    exact ⟨rfl, hb7⟩
end Go.Proofs.YtolgikojliedlaeFmt
