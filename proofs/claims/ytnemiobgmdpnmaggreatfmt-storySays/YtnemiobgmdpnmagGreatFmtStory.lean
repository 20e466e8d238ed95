/-
  Package story: whose head a client's is, and how many first entries both books have alike.
-/
import Derived.Test.YtnemiobgmdpnmagGreatFmtStoryAlike
import Derived.Test.YtnemiobgmdpnmagGreatFmtStoryIsHead
import Derived.Test.YtnemiobgmdpnmagGreatFmtOfMath
namespace Go.Proofs.YtnemiobgmdpnmagGreatFmt
open Go Go.RowKit

set_option maxHeartbeats 16000000 in
set_option maxRecDepth 100000 in
theorem ocheck_any (W : WB) (a0 : Option Addr) (n0 c0 : Nat) (a1 : Option Addr) (n1 c1 : Nat) (a2 : Option Addr) (n2 c2 : Nat) (who side : Int) (w : World) (hW : WAt w a0 n0 c0 a1 n1 c1 a2 n2 c2 W) :
    Calls Tryz.prog 10 #[.agg #[.slice a0 n0 c0, .slice a1 n1 c1, .slice a2 n2 c2], .int .i64 who, .int .i64 side] w fun e w' => e = .returned (.int .i64 (ofE W who side)) ∧ Below w.heap.size w w' := by
  have hck := fun w1 hW => wcheck_any W a0 n0 c0 a1 n1 c1 a2 n2 c2 w1 hW
  have OE := Lib.hid (rfl : ofE W who side = if worldE W ≠ 0 then worldE W else if ¬ ofP who side then 5 else 0)
  by_cases hG : worldE W = 0
  · have h3 := ((worldE_iff W).1 hG).2.2.1
    obtain rfl : n2 = 3 := by rw [← hW.l2]; exact h3
    have HO := Lib.hid (OE.out.trans (if_neg (fun h => h hG)))
    clear OE
    rw [hG] at hck
    rw [HO.out]
    clear HO
    by_cases h1 : 0 ≤ who ∧ who < 3
    · by_cases h2 : 0 ≤ side ∧ side < 2
      · rw [if_neg (fun h => h ⟨h1.1, by omega, h2.1, by omega⟩)]
        have q3 := heap_push w (.cells #[.slice a0 n0 c0, .slice a1 n1 c1, .slice a2 3 c2] 28)
        have hb0 := (Below.refl w.heap.size w).alloc (Nat.le_refl _) (.cells #[.slice a0 n0 c0, .slice a1 n1 c1, .slice a2 3 c2] 28)
        have d0 := heap_cell q3 0 _ rfl
        have d1 := heap_cell q3 1 _ rfl
        have d2 := heap_cell q3 2 _ rfl
        go_enter Tryz.func10, Tryz.ntmps10
        go_wp2_with fail
        generalize (w.alloc (.cells #[.slice a0 n0 c0, .slice a1 n1 c1, .slice a2 3 c2] 28)) = w0 at q3 hb0 d0 d1 d2 ⊢
        refine (hck w0 (hW.on hb0)).mono ?_
        rintro e w1 ⟨rfl, hb1⟩
        have q3 := heap_on hb1 q3
        have hb1 := below_on hb0 hb1
        clear hb0
        clear d0 d1 d2 hck
        have d2 := heap_cell q3 2 _ rfl
        go_wp2_with fail
        refine (placeOf_yes who 3 w1 h1.1 h1.2).mono ?_
        rintro e _ ⟨rfl, rfl⟩
        go_wp2_with fail
        refine (placeOf_yes side 2 w1 h2.1 h2.2).mono ?_
        rintro e _ ⟨rfl, rfl⟩
        go_wp2_with fail
        go_ret
        exact ⟨rfl, hb1⟩
      · rw [if_pos (fun h => h2 ⟨h.2.2.1, by have := h.2.2.2; omega⟩)]
        have q3 := heap_push w (.cells #[.slice a0 n0 c0, .slice a1 n1 c1, .slice a2 3 c2] 28)
        have hb0 := (Below.refl w.heap.size w).alloc (Nat.le_refl _) (.cells #[.slice a0 n0 c0, .slice a1 n1 c1, .slice a2 3 c2] 28)
        have d0 := heap_cell q3 0 _ rfl
        have d1 := heap_cell q3 1 _ rfl
        have d2 := heap_cell q3 2 _ rfl
        go_enter Tryz.func10, Tryz.ntmps10
        go_wp2_with fail
        generalize (w.alloc (.cells #[.slice a0 n0 c0, .slice a1 n1 c1, .slice a2 3 c2] 28)) = w0 at q3 hb0 d0 d1 d2 ⊢
        refine (hck w0 (hW.on hb0)).mono ?_
        rintro e w1 ⟨rfl, hb1⟩
        have q3 := heap_on hb1 q3
        have hb1 := below_on hb0 hb1
        clear hb0
        clear d0 d1 d2 hck
        have d2 := heap_cell q3 2 _ rfl
        go_wp2_with fail
        refine (placeOf_yes who 3 w1 h1.1 h1.2).mono ?_
        rintro e _ ⟨rfl, rfl⟩
        go_wp2_with fail
        refine (placeOf_no side 2 w1 h2).mono ?_
        rintro e _ ⟨rfl, rfl⟩
        go_wp2_with fail
        go_ret
        exact ⟨rfl, hb1⟩
    · rw [if_pos (fun h => h1 ⟨h.1, by have := h.2.1; omega⟩)]
      have q3 := heap_push w (.cells #[.slice a0 n0 c0, .slice a1 n1 c1, .slice a2 3 c2] 28)
      have hb0 := (Below.refl w.heap.size w).alloc (Nat.le_refl _) (.cells #[.slice a0 n0 c0, .slice a1 n1 c1, .slice a2 3 c2] 28)
      have d0 := heap_cell q3 0 _ rfl
      have d1 := heap_cell q3 1 _ rfl
      have d2 := heap_cell q3 2 _ rfl
      go_enter Tryz.func10, Tryz.ntmps10
      go_wp2_with fail
      generalize (w.alloc (.cells #[.slice a0 n0 c0, .slice a1 n1 c1, .slice a2 3 c2] 28)) = w0 at q3 hb0 d0 d1 d2 ⊢
      refine (hck w0 (hW.on hb0)).mono ?_
      rintro e w1 ⟨rfl, hb1⟩
      have q3 := heap_on hb1 q3
      have hb1 := below_on hb0 hb1
      clear hb0
      clear d0 d1 d2 hck
      have d2 := heap_cell q3 2 _ rfl
      go_wp2_with fail
      refine (placeOf_no who 3 w1 h1).mono ?_
      rintro e _ ⟨rfl, rfl⟩
      go_wp2_with fail
      go_ret
      exact ⟨rfl, hb1⟩
  · have HO := Lib.hid (OE.out.trans (if_pos hG))
    clear OE
    rw [HO.out]
    clear HO
    generalize worldE W = z at hck hG
    have g0 : (z == 0) = false := by simp only [beq_eq_false_iff_ne, ne_eq]; exact hG
    have q3 := heap_push w (.cells #[.slice a0 n0 c0, .slice a1 n1 c1, .slice a2 n2 c2] 28)
    have hb0 := (Below.refl w.heap.size w).alloc (Nat.le_refl _) (.cells #[.slice a0 n0 c0, .slice a1 n1 c1, .slice a2 n2 c2] 28)
    have d0 := heap_cell q3 0 _ rfl
    have d1 := heap_cell q3 1 _ rfl
    have d2 := heap_cell q3 2 _ rfl
    go_enter Tryz.func10, Tryz.ntmps10
    go_wp2_with fail
    generalize (w.alloc (.cells #[.slice a0 n0 c0, .slice a1 n1 c1, .slice a2 n2 c2] 28)) = w0 at q3 hb0 d0 d1 d2 ⊢
    refine (hck w0 (hW.on hb0)).mono ?_
    rintro e w1 ⟨rfl, hb1⟩
    have q3 := heap_on hb1 q3
    have hb1 := below_on hb0 hb1
    clear hb0
    clear d0 d1 d2 hck
    go_wp2_with fail
    go_ret
    exact ⟨rfl, hb1⟩

set_option maxHeartbeats 16000000 in
set_option maxRecDepth 100000 in
theorem split_any (W : WB) (a0 : Option Addr) (n0 c0 : Nat) (a1 : Option Addr) (n1 c1 : Nat) (a2 : Option Addr) (n2 c2 : Nat) (w : World) (hW : WAt w a0 n0 c0 a1 n1 c1 a2 n2 c2 W) :
    Calls Tryz.prog 5 #[.agg #[.slice a0 n0 c0, .slice a1 n1 c1, .slice a2 n2 c2]] w fun e w' => e = .returned (.tuple #[.int .i64 (splitW W : Int), .int .i64 (worldE W)]) ∧ Below w.heap.size w w' := by
  have hck := fun w1 hW => wcheck_any W a0 n0 c0 a1 n1 c1 a2 n2 c2 w1 hW
  have HS := Lib.hid (fun w1 hE0 hE1 => alike_any W.b0 W.b1 a0 n0 c0 a1 n1 c1 w1 hW.l0 hW.l1 hE0 hE1)
  have SW := Lib.hid (rfl : splitW W = if worldE W = 0 then splitN W.b0 W.b1 else 0)
  by_cases hG : worldE W = 0
  · have HO := Lib.hid (SW.out.trans (if_pos hG))
    clear SW
    rw [hG] at hck
    rw [hG, HO.out]
    clear HO
    have q3 := heap_push w (.cells #[.slice a0 n0 c0, .slice a1 n1 c1, .slice a2 n2 c2] 28)
    have hb0 := (Below.refl w.heap.size w).alloc (Nat.le_refl _) (.cells #[.slice a0 n0 c0, .slice a1 n1 c1, .slice a2 n2 c2] 28)
    have d0 := heap_cell q3 0 _ rfl
    have d1 := heap_cell q3 1 _ rfl
    have d2 := heap_cell q3 2 _ rfl
    go_enter Tryz.func5, Tryz.ntmps5
    go_wp2_with fail
    generalize (w.alloc (.cells #[.slice a0 n0 c0, .slice a1 n1 c1, .slice a2 n2 c2] 28)) = w0 at q3 hb0 d0 d1 d2 ⊢
    refine (hck w0 (hW.on hb0)).mono ?_
    rintro e w1 ⟨rfl, hb1⟩
    have q3 := heap_on hb1 q3
    have hb1 := below_on hb0 hb1
    clear hb0
    clear d0 d1 d2 hck
    have d0 := heap_cell q3 0 _ rfl
    have d1 := heap_cell q3 1 _ rfl
    go_wp2_with fail
    refine (HS.out w1 (hW.e0.on hb1) (hW.e1.on hb1)).mono ?_
    rintro e w2 ⟨rfl, hb2⟩
    have q3 := heap_on hb2 q3
    have hb2 := below_on hb1 hb2
    clear hb1
    go_wp2_with fail
    go_ret2
    exact ⟨rfl, hb2⟩
  · have HO := Lib.hid (SW.out.trans (if_neg hG))
    clear SW
    rw [HO.out]
    clear HO
    generalize worldE W = z at hck hG
    have g0 : (z == 0) = false := by simp only [beq_eq_false_iff_ne, ne_eq]; exact hG
    have q3 := heap_push w (.cells #[.slice a0 n0 c0, .slice a1 n1 c1, .slice a2 n2 c2] 28)
    have hb0 := (Below.refl w.heap.size w).alloc (Nat.le_refl _) (.cells #[.slice a0 n0 c0, .slice a1 n1 c1, .slice a2 n2 c2] 28)
    have d0 := heap_cell q3 0 _ rfl
    have d1 := heap_cell q3 1 _ rfl
    have d2 := heap_cell q3 2 _ rfl
    go_enter Tryz.func5, Tryz.ntmps5
    go_wp2_with fail
    generalize (w.alloc (.cells #[.slice a0 n0 c0, .slice a1 n1 c1, .slice a2 n2 c2] 28)) = w0 at q3 hb0 d0 d1 d2 ⊢
    refine (hck w0 (hW.on hb0)).mono ?_
    rintro e w1 ⟨rfl, hb1⟩
    have q3 := heap_on hb1 q3
    have hb1 := below_on hb0 hb1
    clear hb0
    clear d0 d1 d2 hck
    go_wp2_with fail
    go_ret2
    exact ⟨rfl, hb1⟩

set_option maxHeartbeats 16000000 in
set_option maxRecDepth 100000 in
theorem of_any (W : WB) (who side : Int) (a0 : Option Addr) (n0 c0 : Nat) (a1 : Option Addr) (n1 c1 : Nat) (a2 : Option Addr) (n2 c2 : Nat) (w : World) (hE : Tab w) (hW : WAt w a0 n0 c0 a1 n1 c1 a2 n2 c2 W) :
    Calls Tryz.prog 4 #[.agg #[.slice a0 n0 c0, .slice a1 n1 c1, .slice a2 n2 c2], .int .i64 who, .int .i64 side] w fun e w' => e = .returned (.tuple #[.bool (ofB W who side), .int .i64 (ofE W who side)]) ∧ Below w.heap.size w w' := by
  have hck := fun w1 hW => ocheck_any W a0 n0 c0 a1 n1 c1 a2 n2 c2 who side w1 hW
  by_cases hO : ofE W who side = 0
  · have hG : worldE W = 0 := by
      by_cases h : worldE W = 0
      · exact h
      · exact absurd hO (by rw [show ofE W who side = worldE W from if_pos h]; exact h)
    have hP : ofP who side := by
      by_cases h : ofP who side
      · exact h
      · exact absurd hO (by rw [show ofE W who side = if ¬ ofP who side then 5 else 0 from if_neg (fun hh => hh hG), if_pos h]; decide)
    obtain ⟨_, _, hl3, hce⟩ := (worldE_iff W).1 hG
    obtain rfl : n2 = 3 := by rw [← hW.l2]; exact hl3
    obtain ⟨j, rfl⟩ : ∃ j : Nat, who = (j : Int) := ⟨who.toNat, by have := hP.1; omega⟩
    obtain ⟨s, rfl⟩ : ∃ s : Nat, side = (s : Int) := ⟨side.toNat, by have := hP.2.2.1; omega⟩
    have hj : j < 3 := by have := hP.2.1; omega
    have hs : s < 2 := by have := hP.2.2.2; omega
    have hj1 : (j : Int) < 3 := by omega
    have hs1 : (s : Int) < 2 := by omega
    have hb : ofB W (j : Int) (s : Int) = decide (isOf (sideL W (s : Int)) (cliOf W.cs j)) := ofB_in hG hj hs
    have hcj := hce _ (cliOf_mem (l := W.cs) (i := j) (by omega))
    have hgd := side_good hG (s : Int)
    rw [hO] at hck
    obtain ⟨OB, hob⟩ : ∃ x, decide (isOf (sideL W (s : Int)) (cliOf W.cs j)) = x := ⟨_, rfl⟩
    rw [hO, hb, hob]
    have HB := Lib.hid hob
    clear hb hO hP hce hG hob
    have q3 := heap_push w (.cells #[.slice a0 n0 c0, .slice a1 n1 c1, .slice a2 3 c2] 28)
    have hb0 := (Below.refl w.heap.size w).alloc (Nat.le_refl _) (.cells #[.slice a0 n0 c0, .slice a1 n1 c1, .slice a2 3 c2] 28)
    have d0 := heap_cell q3 0 _ rfl
    have d1 := heap_cell q3 1 _ rfl
    have d2 := heap_cell q3 2 _ rfl
    go_enter Tryz.func4, Tryz.ntmps4
    go_wp2_with fail
    generalize (w.alloc (.cells #[.slice a0 n0 c0, .slice a1 n1 c1, .slice a2 3 c2] 28)) = w0 at q3 hb0 d0 d1 d2 ⊢
    refine (hck w0 (hW.on hb0)).mono ?_
    rintro e w1 ⟨rfl, hb1⟩
    have q3 := heap_on hb1 q3
    have hb1 := below_on hb0 hb1
    clear hb0
    clear d0 d1 d2 hck
    go_upto_region 4 with fail
    obtain ⟨w4, hw4⟩ : ∃ x, x = w1 := ⟨_, rfl⟩
    subst hw4
    obtain ⟨sa, sn, sc, hsv, hsn, hsE⟩ := side_ents (hW.on hb1) s
    have t0 := side_cell q3 hs
    rw [hsv] at t0
    have zc := hW.e2.cap
    have zm := hW.e2.max
    rw [hl3] at zc
    obtain ⟨bw, ow, rfl, kw, hcw⟩ := (hW.on hb1).e2.cells (by omega)
    obtain ⟨z1, z2, z3, _⟩ := hcw j (by omega)
    clear hcw
    have d2 := heap_cell q3 2 _ rfl
    have hob := HB.out
    clear HB
    generalize cliOf W.cs j = cc at z1 z2 z3 hcj hob
    obtain ⟨cn, ca, cb, cf⟩ := cc
    simp only at z1 z2 z3
    have hi := fun w1 hE hS => isHead_any (sideL W (s : Int)) sa sn sc cn ca cb cf w1 hE hsn hS hgd (cli_num hcj)
    rw [hob] at hi
    clear hob
    have CQ := Lib.hid (fun d os => Calls.regrown_of (hi (Sort.grow (redrawn w4 d) os) ((hE.on hb1).on (below_regrown w4 d os)) (hsE.on (below_regrown w4 d os))))
    have u0 := fun d os => cell_regrown t0 d os
    have u1 := fun d os => cell_regrown z1 d os
    have u2 := fun d os => cell_regrown z2 d os
    have u3 := fun d os => cell_regrown z3 d os
    have u4 := fun d os => cell_regrown d2 d os
    clear hi t0 z1 z2 z3 d2 hsE hcj hgd
    refine wp_region_quiet_below (by kernel_rfl) (by kernel_rfl) ?_
    repeat (first | go_big_quiet_step (first | with_reducible exact CQ.out _ _) | quiet_step (first | with_reducible exact CQ.out _ _))
    refine wpQuiet_nil ?_
    intro _ hw'
    obtain ⟨⟨dq, osq⟩, hw''⟩ := hw'
    subst hw''
    have hbq := below_on hb1 (below_regrown w4 dq osq)
    generalize Sort.grow (redrawn w4 dq) osq = w5 at hbq ⊢
    go_wp2_with fail
    go_ret2
    exact ⟨rfl, hbq⟩
  · rw [show ofB W who side = false from if_neg hO]
    generalize ofE W who side = z at hck hO
    have g0 : (z == 0) = false := by simp only [beq_eq_false_iff_ne, ne_eq]; exact hO
    have q3 := heap_push w (.cells #[.slice a0 n0 c0, .slice a1 n1 c1, .slice a2 n2 c2] 28)
    have hb0 := (Below.refl w.heap.size w).alloc (Nat.le_refl _) (.cells #[.slice a0 n0 c0, .slice a1 n1 c1, .slice a2 n2 c2] 28)
    have d0 := heap_cell q3 0 _ rfl
    have d1 := heap_cell q3 1 _ rfl
    have d2 := heap_cell q3 2 _ rfl
    go_enter Tryz.func4, Tryz.ntmps4
    go_wp2_with fail
    generalize (w.alloc (.cells #[.slice a0 n0 c0, .slice a1 n1 c1, .slice a2 n2 c2] 28)) = w0 at q3 hb0 d0 d1 d2 ⊢
    refine (hck w0 (hW.on hb0)).mono ?_
    rintro e w1 ⟨rfl, hb1⟩
    have q3 := heap_on hb1 q3
    have hb1 := below_on hb0 hb1
    clear hb0
    clear d0 d1 d2 hck
    go_wp2_with fail
    go_ret2
    exact ⟨rfl, hb1⟩

end Go.Proofs.YtnemiobgmdpnmagGreatFmt
