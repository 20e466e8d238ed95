/-
  WorldKeeps' walk: of whatever world and happening it answers true.
-/
import Derived.Test.YthhckpnnjegldafDoorLied
import Derived.Test.YthhckpnnjegldafDoorKeepMath
import Derived.Test.YthhckpnnjegldafDoorNoteCheck
import Derived.Test.YthhckpnnjegldafDoorEntries
import Derived.Test.YthhckpnnjegldafDoorEntSlices
import Derived.Lib.QuietBelow
import Derived.Deep.DeepCutAuto
namespace Go.Proofs.YthhckpnnjegldafDoor
open Go Go.RowKit Go.Maps

set_option maxHeartbeats 4000000 in
set_option maxRecDepth 100000 in
theorem worldKeeps_walk (W : WB) (a0 : Option Addr) (n0 c0 : Nat) (a1 : Option Addr) (n1 c1 : Nat) (a2 : Option Addr) (n2 c2 : Nat) (x : HapB) (w : World) (hE : Tab w) (hW : WAt w a0 n0 c0 a1 n1 c1 a2 n2 c2 W) (hx : WideHap x) :
    Calls Tryd.prog 4 #[.agg #[.slice a0 n0 c0, .slice a1 n1 c1, .slice a2 n2 c2], .agg #[.int .i64 x.kind, .int .i64 x.side, .int .i64 x.who, .int .i64 x.other, .int .i64 x.e.1, .string x.e.2]] w fun e w' => e = .returned (.bool true) ∧ Below w.heap.size w w' := by
  have hd := fun w' hE hW => do_any W x a0 n0 c0 a1 n1 c1 a2 n2 c2 w' hE hW hx
  have hk := fun (h : (doV W x).2 = 0) => keeps_do h
  generalize (doV W x).1 = Y at hd hk
  generalize (doV W x).2 = z at hd hk
  obtain ⟨xk, xs, xw, xo, xe, xv⟩ := x
  simp only at hd hk ⊢
  have HD := Lib.hid hd
  clear hd hx
  obtain ⟨q2, q3, hb0⟩ := boxes2 w (.cells #[.slice a0 n0 c0, .slice a1 n1 c1, .slice a2 n2 c2] 43) (.cells #[.int .i64 xk, .int .i64 xs, .int .i64 xw, .int .i64 xo, .int .i64 xe, .string xv] 45)
  have dq2_0 := heap_cell q2 0 _ rfl
  have dq2_1 := heap_cell q2 1 _ rfl
  have dq2_2 := heap_cell q2 2 _ rfl
  have dq3_0 := heap_cell q3 0 _ rfl
  have dq3_1 := heap_cell q3 1 _ rfl
  have dq3_2 := heap_cell q3 2 _ rfl
  have dq3_3 := heap_cell q3 3 _ rfl
  have dq3_4 := heap_cell q3 4 _ rfl
  have dq3_5 := heap_cell q3 5 _ rfl
  go_enter Tryd.func4, Tryd.ntmps4
  go_wp2_with fail
  generalize ((w.alloc (.cells #[.slice a0 n0 c0, .slice a1 n1 c1, .slice a2 n2 c2] 43)).alloc (.cells #[.int .i64 xk, .int .i64 xs, .int .i64 xw, .int .i64 xo, .int .i64 xe, .string xv] 45)) = w0 at q2 q3 hb0 dq2_0 dq2_1 dq2_2 dq3_0 dq3_1 dq3_2 dq3_3 dq3_4 dq3_5 ⊢
  refine (HD.out w0 (hE.on hb0) (hW.on hb0)).mono ?_
  rintro e w1 ⟨b0, m0, d0, b1, m1, d1, b2, m2, d2, rfl, hY, hb1⟩
  have q2 := heap_on hb1 q2
  have q3 := heap_on hb1 q3
  have hb1 := below_on hb0 hb1
  clear hb0
  clear dq2_0 dq2_1 dq2_2 dq3_0 dq3_1 dq3_2 dq3_3 dq3_4 dq3_5
  have q2 := heap_old w1 (.cells #[.slice b0 m0 d0, .slice b1 m1 d1, .slice b2 m2 d2] 43) q2
  have q3 := heap_old w1 (.cells #[.slice b0 m0 d0, .slice b1 m1 d1, .slice b2 m2 d2] 43) q3
  have q5 := heap_push w1 (.cells #[.slice b0 m0 d0, .slice b1 m1 d1, .slice b2 m2 d2] 43)
  have hY := hY.on ((Below.refl _ w1).alloc (Nat.le_refl _) (.cells #[.slice b0 m0 d0, .slice b1 m1 d1, .slice b2 m2 d2] 43))
  have hb2 := hb1.alloc hb1.size (.cells #[.slice b0 m0 d0, .slice b1 m1 d1, .slice b2 m2 d2] 43)
  clear hb1
  go_wp2_with fail
  generalize (w1.alloc (.cells #[.slice b0 m0 d0, .slice b1 m1 d1, .slice b2 m2 d2] 43)) = w2 at q2 q3 q5 hY hb2 ⊢
  generalize w1.heap.size = B5 at q5 ⊢
  refine (lied_any w2 (hE.on hb2)).mono ?_
  rintro e w3 ⟨rfl, hb3⟩
  have q2 := heap_on hb3 q2
  have q3 := heap_on hb3 q3
  have q5 := heap_on hb3 q5
  have hY := hY.on hb3
  have hb3 := below_on hb2 hb3
  clear hb2
  by_cases z0 : z = 0
  · have K := hk z0
    subst z0
    clear hk
    have v1 := hW.l0
    have v2 := hW.e0.cap
    have v3 := hW.e0.max
    have v4 := hY.l0
    have v5 := hY.e0.cap
    have v6 := hY.e0.max
    have v7 := hW.l2
    have v8 := hY.l2
    have v9 := K.more
    have v10 := K.same
    have v11 := hW.e2.cap
    have v12 := hW.e2.max
    have v13 := hY.e2.cap
    have v14 := hY.e2.max
    have v15 := hW.e1.max
    have v16 := hY.e1.max
    obtain ⟨_, _, v17, _⟩ := (worldE_iff Y).1 K.good
    obtain rfl : m2 = 3 := by omega
    obtain rfl : n2 = 3 := by omega
    have dq2_0 := heap_cell q2 0 _ rfl
    have dq2_1 := heap_cell q2 1 _ rfl
    have dq2_2 := heap_cell q2 2 _ rfl
    go_upto_region 5 with fail
    clear dq2_0 dq2_1 dq2_2
    have hy := fun w' hY => wcheck_any Y b0 m0 d0 b1 m1 d1 b2 3 d2 w' hY
    rw [K.good] at hy
    have he := fun w' h1 h2 => equal_ents (Y.b0.take n0) W.b0 b0 a0 n0 d0 n0 c0 w' (by rw [List.length_take]; omega) v1 h1 h2
    rw [decide_eq_true (by rw [← v1]; exact K.first)] at he
    have htk := fun w' => run_take b0 m0 d0 n0 (by omega) w'
    have cC := Lib.hid (fun d os => Calls.regrown_of (hy (Sort.grow (redrawn w3 d) os) (hY.on (below_regrown w3 d os))))
    have cE := Lib.hid (fun d os => Calls.regrown_of (he (Sort.grow (redrawn w3 d) os) ((hY.e0.on (below_regrown w3 d os)).take n0) (hW.e0.on (below_on hb3 (below_regrown w3 d os)))))
    clear hy he
    have k0 := fun d os => cell_regrown (heap_cell q2 0 _ rfl) d os
    have k1 := fun d os => cell_regrown (heap_cell q2 2 _ rfl) d os
    have k2 := fun d os => cell_regrown (heap_cell q5 0 _ rfl) d os
    have k3 := fun d os => cell_regrown (heap_cell q5 1 _ rfl) d os
    have k4 := fun d os => cell_regrown (heap_cell q5 2 _ rfl) d os
    have g2 : ¬ (m0 : Int) < (n0 : Int) := by omega
    have g3 : decide ((m0 : Int) < (n0 : Int)) = false := decide_eq_false g2
    have g4 : decide (m0 < n0) = false := decide_eq_false (by omega)
    refine wp_region_quiet_below (by kernel_rfl) (by kernel_rfl) ?_
    repeat (first | go_big_quiet_step (first | with_reducible exact cC.out _ _ | with_reducible exact cE.out _ _) | quiet_step (first | with_reducible exact cC.out _ _ | with_reducible exact cE.out _ _))
    refine wpQuiet_nil ?_
    intro _ hw'
    obtain ⟨⟨dq, osq⟩, hw''⟩ := hw'
    subst hw''
    clear cC cE k0 k1 k2 k3 k4 htk
    have hbr := below_regrown w3 dq osq
    generalize Sort.grow (redrawn w3 dq) osq = wq at hbr ⊢
    have q2 := heap_on hbr q2
    have q3 := heap_on hbr q3
    have q5 := heap_on hbr q5
    have hY := hY.on hbr
    have hbq := below_on hb3 hbr
    clear hbr hb3
    have dq2_0 := heap_cell q2 0 _ rfl
    have dq2_1 := heap_cell q2 1 _ rfl
    have dq2_2 := heap_cell q2 2 _ rfl
    go_wp2_with fail
    go_loopg [67] 3 (fun gh s67 wr => ∃ j : Nat, s67 = .int .i64 (j : Int) ∧ j ≤ 3 ∧ 3 - j ≤ gh ∧ Below wq.heap.size wq wr)
    case atStart => exact ⟨0, rfl, Nat.zero_le _, by omega, Below.refl _ _⟩
    case round =>
      obtain ⟨j, rfl, hj, hgh, hbr⟩ := hrel
      rcases Nat.lt_or_ge j 3 with hj3 | hj3
      · clear dq2_0 dq2_1 dq2_2
        have q2 := heap_on hbr q2
        have q3 := heap_on hbr q3
        have q5 := heap_on hbr q5
        have hY := hY.on hbr
        have hb := below_on hbq hbr
        have hW := hW.on hb
        obtain ⟨e1, e2, e3, e4⟩ := K.each j hj3
        obtain ⟨bw, ow, hbw, kw, hcw⟩ := hW.e2.cells (by omega)
        obtain ⟨by', oy, hby, ky, hcy⟩ := hY.e2.cells (by omega)
        obtain ⟨p1, p2, p3, p4⟩ := hcw j (by omega)
        have hdc : fourIn wr by' (oy + j * 4) (cliOf Y.cs j) := ⟨ky, hcy j (by omega)⟩
        subst hbw hby
        clear hcw hcy
        have hj1 : (j : Int) < 3 := by omega
        generalize cliOf W.cs j = cc at p1 p2 p3 p4 e1 e2 e3 e4
        generalize cliOf Y.cs j = dd at hdc e1 e2 e3 e4
        obtain ⟨cn, ca, cb, cf⟩ := cc
        obtain ⟨dn, da, db, df⟩ := dd
        simp only at p1 p2 p3 p4 e1 e2 e3 e4
        have HN := Lib.hid (ncheck_any dn da db)
        rw [show headE dn da db = 0 from e4] at HN
        clear e4
        have dq2_2 := heap_cell q2 2 _ rfl
        have q2 := heap_old wr (.cells #[.int .i64 cn, .string ca, .string cb, .bool cf] 50) q2
        have q3 := heap_old wr (.cells #[.int .i64 cn, .string ca, .string cb, .bool cf] 50) q3
        have q5 := heap_old wr (.cells #[.int .i64 cn, .string ca, .string cb, .bool cf] 50) q5
        have q9 := heap_push wr (.cells #[.int .i64 cn, .string ca, .string cb, .bool cf] 50)
        have hdc := hdc.on ((Below.refl _ wr).alloc (Nat.le_refl _) (.cells #[.int .i64 cn, .string ca, .string cb, .bool cf] 50))
        have hb4 := hbr.alloc hbr.size (.cells #[.int .i64 cn, .string ca, .string cb, .bool cf] 50)
        clear hbr
        go_upto_region 10 with fail
        generalize (wr.alloc (.cells #[.int .i64 cn, .string ca, .string cb, .bool cf] 50)) = w4 at q2 q3 q5 q9 hdc hb4 ⊢
        generalize wr.heap.size = B9 at q9 ⊢
        clear dq2_2
        obtain ⟨_, r1, r2, r3, r4⟩ := hdc
        simp only at r1 r2 r3 r4
        clear p1 p2 p3 p4
        have dq5_2 := heap_cell q5 2 _ rfl
        have q2 := heap_old w4 (.cells #[.int .i64 dn, .string da, .string db, .bool df] 50) q2
        have q3 := heap_old w4 (.cells #[.int .i64 dn, .string da, .string db, .bool df] 50) q3
        have q5 := heap_old w4 (.cells #[.int .i64 dn, .string da, .string db, .bool df] 50) q5
        have q9 := heap_old w4 (.cells #[.int .i64 dn, .string da, .string db, .bool df] 50) q9
        have q10 := heap_push w4 (.cells #[.int .i64 dn, .string da, .string db, .bool df] 50)
        have hb5 := hb4.alloc hb4.size (.cells #[.int .i64 dn, .string da, .string db, .bool df] 50)
        clear hb4
        go_upto_region 11 with fail
        generalize (w4.alloc (.cells #[.int .i64 dn, .string da, .string db, .bool df] 50)) = w5 at q2 q3 q5 q9 q10 hb5 ⊢
        generalize w4.heap.size = B10 at q10 ⊢
        clear dq5_2 r1 r2 r3 r4
        go_cut [116] (fun r w' => r = .bool false ∧ Below w5.heap.size w5 w')
        case first =>
          have dq9_0 := heap_cell q9 0 _ rfl
          have dq9_1 := heap_cell q9 1 _ rfl
          have dq9_2 := heap_cell q9 2 _ rfl
          have dq9_3 := heap_cell q9 3 _ rfl
          have dq10_0 := heap_cell q10 0 _ rfl
          have dq10_1 := heap_cell q10 1 _ rfl
          have dq10_2 := heap_cell q10 2 _ rfl
          have dq10_3 := heap_cell q10 3 _ rfl
          have dq3_0 := heap_cell q3 0 _ rfl
          have dq3_2 := heap_cell q3 2 _ rfl
          have g5 : ¬ dn < cn := by omega
          cases cf
          · clear e1
            by_cases hs : dn = cn ∧ da = ca ∧ db = cb
            · obtain ⟨rfl, rfl, rfl⟩ := hs
              clear e3 e2
              go_wp2_with fail
              refine (HN.out _).mono ?_
              rintro e wx ⟨rfl, hbx⟩
              go_wp2_with fail
              go_meet
              case rel => exact ⟨rfl, hbx⟩
            · obtain ⟨rfl, rfl⟩ := e3 hs
              clear e3 e2
              by_cases h1 : dn = cn
              · subst h1
                by_cases h2 : da = ca
                · subst h2
                  by_cases h3 : db = cb
                  · subst h3
                    exact absurd ⟨rfl, rfl, rfl⟩ hs
                  · have t3 := str_ne h3
                    go_wp2_with fail
                    refine (HN.out _).mono ?_
                    rintro e wx ⟨rfl, hbx⟩
                    go_wp2_with fail
                    go_meet
                    case rel => exact ⟨rfl, hbx⟩
                · have t2 := str_ne h2
                  by_cases h3 : db = cb
                  · subst h3
                    go_wp2_with fail
                    refine (HN.out _).mono ?_
                    rintro e wx ⟨rfl, hbx⟩
                    go_wp2_with fail
                    go_meet
                    case rel => exact ⟨rfl, hbx⟩
                  · have t3 := str_ne h3
                    go_wp2_with fail
                    refine (HN.out _).mono ?_
                    rintro e wx ⟨rfl, hbx⟩
                    go_wp2_with fail
                    go_meet
                    case rel => exact ⟨rfl, hbx⟩
              · have t1 : (dn == cn) = false := by simpa using h1
                by_cases h2 : da = ca
                · subst h2
                  by_cases h3 : db = cb
                  · subst h3
                    go_wp2_with fail
                    refine (HN.out _).mono ?_
                    rintro e wx ⟨rfl, hbx⟩
                    go_wp2_with fail
                    go_meet
                    case rel => exact ⟨rfl, hbx⟩
                  · have t3 := str_ne h3
                    go_wp2_with fail
                    refine (HN.out _).mono ?_
                    rintro e wx ⟨rfl, hbx⟩
                    go_wp2_with fail
                    go_meet
                    case rel => exact ⟨rfl, hbx⟩
                · have t2 := str_ne h2
                  by_cases h3 : db = cb
                  · subst h3
                    go_wp2_with fail
                    refine (HN.out _).mono ?_
                    rintro e wx ⟨rfl, hbx⟩
                    go_wp2_with fail
                    go_meet
                    case rel => exact ⟨rfl, hbx⟩
                  · have t3 := str_ne h3
                    go_wp2_with fail
                    refine (HN.out _).mono ?_
                    rintro e wx ⟨rfl, hbx⟩
                    go_wp2_with fail
                    go_meet
                    case rel => exact ⟨rfl, hbx⟩
          · obtain rfl := e1 rfl
            clear e1
            by_cases hs : dn = cn ∧ da = ca ∧ db = cb
            · obtain ⟨rfl, rfl, rfl⟩ := hs
              clear e3 e2
              go_wp2_with fail
              refine (HN.out _).mono ?_
              rintro e wx ⟨rfl, hbx⟩
              go_wp2_with fail
              go_meet
              case rel => exact ⟨rfl, hbx⟩
            · obtain ⟨rfl, rfl⟩ := e3 hs
              clear e3 e2
              by_cases h1 : dn = cn
              · subst h1
                by_cases h2 : da = ca
                · subst h2
                  by_cases h3 : db = cb
                  · subst h3
                    exact absurd ⟨rfl, rfl, rfl⟩ hs
                  · have t3 := str_ne h3
                    go_wp2_with fail
                    refine (HN.out _).mono ?_
                    rintro e wx ⟨rfl, hbx⟩
                    go_wp2_with fail
                    go_meet
                    case rel => exact ⟨rfl, hbx⟩
                · have t2 := str_ne h2
                  by_cases h3 : db = cb
                  · subst h3
                    go_wp2_with fail
                    refine (HN.out _).mono ?_
                    rintro e wx ⟨rfl, hbx⟩
                    go_wp2_with fail
                    go_meet
                    case rel => exact ⟨rfl, hbx⟩
                  · have t3 := str_ne h3
                    go_wp2_with fail
                    refine (HN.out _).mono ?_
                    rintro e wx ⟨rfl, hbx⟩
                    go_wp2_with fail
                    go_meet
                    case rel => exact ⟨rfl, hbx⟩
              · have t1 : (dn == cn) = false := by simpa using h1
                by_cases h2 : da = ca
                · subst h2
                  by_cases h3 : db = cb
                  · subst h3
                    go_wp2_with fail
                    refine (HN.out _).mono ?_
                    rintro e wx ⟨rfl, hbx⟩
                    go_wp2_with fail
                    go_meet
                    case rel => exact ⟨rfl, hbx⟩
                  · have t3 := str_ne h3
                    go_wp2_with fail
                    refine (HN.out _).mono ?_
                    rintro e wx ⟨rfl, hbx⟩
                    go_wp2_with fail
                    go_meet
                    case rel => exact ⟨rfl, hbx⟩
                · have t2 := str_ne h2
                  by_cases h3 : db = cb
                  · subst h3
                    go_wp2_with fail
                    refine (HN.out _).mono ?_
                    rintro e wx ⟨rfl, hbx⟩
                    go_wp2_with fail
                    go_meet
                    case rel => exact ⟨rfl, hbx⟩
                  · have t3 := str_ne h3
                    go_wp2_with fail
                    refine (HN.out _).mono ?_
                    rintro e wx ⟨rfl, hbx⟩
                    go_wp2_with fail
                    go_meet
                    case rel => exact ⟨rfl, hbx⟩
        case rest =>
          obtain ⟨rfl, hbc⟩ := hcut
          have hbe := below_on hb5 hbc
          go_wp2_with fail
          go_roundg (3 - (j + 1))
          case rel => exact ⟨j + 1, by go_num, by omega, by omega, hbe⟩
          case measure => omega
      · obtain rfl : j = 3 := by omega
        go_wp2_with fail
        go_ret
        exact ⟨rfl, below_on hbq hbr⟩
  · have g1 : (z == 0) = false := by simp only [beq_eq_false_iff_ne, ne_eq]; exact z0
    clear hk
    go_wp2_with fail
    refine (lied_any w3 (hE.on hb3)).mono ?_
    rintro e w4 ⟨rfl, hb4⟩
    have q2 := heap_on hb4 q2
    have q3 := heap_on hb4 q3
    have q5 := heap_on hb4 q5
    have hY := hY.on hb4
    have hb4 := below_on hb3 hb4
    clear hb3
    go_wp2_with fail
    go_ret
    exact ⟨rfl, hb4⟩
end Go.Proofs.YthhckpnnjegldafDoor
