/-
  StoryCaught's walk: of whatever script it answers true.
-/
import Derived.Test.YtnemiobgmdpnmagDoorTelling
import Derived.Test.YtnemiobgmdpnmagDoorPlayedCaught
import Derived.Test.YtnemiobgmdpnmagDoorOfMath
import Derived.Deep.DeepCutAuto
namespace Go.Proofs.YtnemiobgmdpnmagDoor
open Go Go.RowKit

/- What a meeting comes to, by what is told of both clients. -/
theorem caught_same {W : WB} {s j i : Nat} {e : EntB} (hG : worldE W = 0) (hs : s < 2) (hj : j < 3) (hi : i < 3) {Y : WB} (hY : (hapV W ⟨4, s, j, i, e⟩).1 = Y) (gY : worldE Y = 0)
    (h : (ofB Y j ((0 : Nat) : Int) = true ∧ ofB Y i ((0 : Nat) : Int) = true) ∨ (ofB Y j ((1 : Nat) : Int) = true ∧ ofB Y i ((1 : Nat) : Int) = true)) : W = Y := by
  subst hY
  rw [ofB_in gY hj (by decide), ofB_in gY hi (by decide), ofB_in gY hj (by decide), ofB_in gY hi (by decide)] at h
  simp only [decide_eq_true_iff] at h
  exact (meet_same hG hs hj hi h).symm
theorem caught_fooled {W : WB} {s j i : Nat} {e : EntB} (hG : worldE W = 0) (hs : s < 2) (hj : j < 3) (hi : i < 3) {Y : WB} (hY : (hapV W ⟨4, s, j, i, e⟩).1 = Y) (gY : worldE Y = 0)
    (h1 : (splitW Y : Int) < (cliOf Y.cs j).1) (h2 : (splitW Y : Int) < (cliOf Y.cs i).1)
    (h : (ofB Y j ((0 : Nat) : Int) = true ∧ ofB Y i ((1 : Nat) : Int) = true) ∨ (ofB Y j ((1 : Nat) : Int) = true ∧ ofB Y i ((0 : Nat) : Int) = true)) : (cliOf Y.cs j).2.2.2 = true ∧ (cliOf Y.cs i).2.2.2 = true := by
  subst hY
  rw [ofB_in gY hj (by decide), ofB_in gY hi (by decide), ofB_in gY hj (by decide), ofB_in gY hi (by decide)] at h
  simp only [decide_eq_true_iff] at h
  rw [show splitW _ = splitN _ _ from if_pos gY] at h1 h2
  exact meet_fooled hG hs hj hi h1 h2 h

set_option maxHeartbeats 16000000 in
set_option maxRecDepth 100000 in
theorem caught_else (a0 : Option Addr) (n0 c0 : Nat) (a1 : Option Addr) (n1 c1 : Nat) (a2 : Option Addr) (n2 c2 : Nat) (b0 : Option Addr) (m0 e0 : Nat) (b1 : Option Addr) (m1 e1 : Nat) (b2 : Option Addr) (m2 e2 : Nat) (xk xs xw xo xe : Int) (xv : ByteArray) (w : World) (hk : xk ≠ 4) :
    Calls Tryd.prog 19 #[.agg #[.slice a0 n0 c0, .slice a1 n1 c1, .slice a2 n2 c2], .agg #[.slice b0 m0 e0, .slice b1 m1 e1, .slice b2 m2 e2], .agg #[.int .i64 xk, .int .i64 xs, .int .i64 xw, .int .i64 xo, .int .i64 xe, .string xv]] w fun e w' => e = .returned (.bool true) ∧ Below w.heap.size w w' := by
  obtain ⟨q3, q4, q5, _⟩ := boxes3 w (.cells #[.slice a0 n0 c0, .slice a1 n1 c1, .slice a2 n2 c2] 31) (.cells #[.slice b0 m0 e0, .slice b1 m1 e1, .slice b2 m2 e2] 31) (.cells #[.int .i64 xk, .int .i64 xs, .int .i64 xw, .int .i64 xo, .int .i64 xe, .string xv] 35)
  have hb0 := below3 w (.cells #[.slice a0 n0 c0, .slice a1 n1 c1, .slice a2 n2 c2] 31) (.cells #[.slice b0 m0 e0, .slice b1 m1 e1, .slice b2 m2 e2] 31) (.cells #[.int .i64 xk, .int .i64 xs, .int .i64 xw, .int .i64 xo, .int .i64 xe, .string xv] 35)
  have d5 := heap_cell q5 0 _ rfl
  have zf1 : (xk == 4) = false := by simp only [beq_eq_false_iff_ne, ne_eq]; exact hk
  clear hk
  go_enter Tryd.func19, Tryd.ntmps19
  go_wp2_with fail
  go_ret
  exact ⟨rfl, hb0⟩

set_option maxHeartbeats 16000000 in
set_option maxRecDepth 100000 in
theorem caught_meet (W Y : WB) (a0 : Option Addr) (n0 c0 : Nat) (a1 : Option Addr) (n1 c1 : Nat) (a2 : Option Addr) (n2 c2 : Nat) (b0 : Option Addr) (m0 e0 : Nat) (b1 : Option Addr) (m1 e1 : Nat) (b2 : Option Addr) (m2 e2 : Nat) (s j i : Nat) (xe : Int) (xv : ByteArray) (w : World) (hE : Tab w) (hW : WAt w a0 n0 c0 a1 n1 c1 a2 n2 c2 W) (hYW : WAt w b0 m0 e0 b1 m1 e1 b2 m2 e2 Y) (hG : worldE W = 0) (hs : s < 2) (hj : j < 3) (hi : i < 3) (hY : (hapV W ⟨4, s, j, i, (xe, xv)⟩).1 = Y) (gY : worldE Y = 0) :
    Calls Tryd.prog 19 #[.agg #[.slice a0 n0 c0, .slice a1 n1 c1, .slice a2 n2 c2], .agg #[.slice b0 m0 e0, .slice b1 m1 e1, .slice b2 m2 e2], .agg #[.int .i64 4, .int .i64 (s : Int), .int .i64 (j : Int), .int .i64 (i : Int), .int .i64 xe, .string xv]] w fun e w' => e = .returned (.bool true) ∧ Below w.heap.size w w' := by
  have hcs := caught_same (e := (xe, xv)) hG hs hj hi hY gY
  have hcf := caught_fooled (e := (xe, xv)) hG hs hj hi hY gY
  have hl3 := ((worldE_iff Y).1 gY).2.2.1
  obtain rfl : m2 = 3 := by rw [← hYW.l2]; exact hl3
  have o1 := fun w1 hE hW => of_any Y (j : Int) ((0 : Nat) : Int) b0 m0 e0 b1 m1 e1 b2 3 e2 w1 hE hW
  have o2 := fun w1 hE hW => of_any Y (i : Int) ((0 : Nat) : Int) b0 m0 e0 b1 m1 e1 b2 3 e2 w1 hE hW
  have o3 := fun w1 hE hW => of_any Y (j : Int) ((1 : Nat) : Int) b0 m0 e0 b1 m1 e1 b2 3 e2 w1 hE hW
  have o4 := fun w1 hE hW => of_any Y (i : Int) ((1 : Nat) : Int) b0 m0 e0 b1 m1 e1 b2 3 e2 w1 hE hW
  have o5 := fun w1 hW => split_any Y b0 m0 e0 b1 m1 e1 b2 3 e2 w1 hW
  rw [ofE_in gY hj (by decide)] at o1 o3
  rw [ofE_in gY hi (by decide)] at o2 o4
  rw [gY] at o5
  generalize ofB Y (j : Int) ((0 : Nat) : Int) = A0 at o1 hcs hcf
  generalize ofB Y (i : Int) ((0 : Nat) : Int) = B0 at o2 hcs hcf
  generalize ofB Y (j : Int) ((1 : Nat) : Int) = A1 at o3 hcs hcf
  generalize ofB Y (i : Int) ((1 : Nat) : Int) = B1 at o4 hcs hcf
  generalize splitW Y = n at o5 hcf
  have hsame := fun w1 h1 h2 => wsame_any W a0 n0 c0 a1 n1 c1 a2 n2 c2 Y b0 m0 e0 b1 m1 e1 b2 3 e2 w1 h1 h2
  have S0 := Lib.hid hsame
  have S1 := Lib.hid o1
  have S2 := Lib.hid o2
  have S3 := Lib.hid o3
  have S4 := Lib.hid o4
  have S5 := Lib.hid o5
  clear hsame o1 o2 o3 o4 o5 hY gY
  obtain ⟨bw, ow, hbw, kw, hcw⟩ := hYW.e2.cells (by omega)
  subst hbw
  have zc := hYW.e2.cap
  have zm := hYW.e2.max
  rw [hl3] at zc
  obtain ⟨ja, hja⟩ : ∃ c, cliOf Y.cs j = c := ⟨_, rfl⟩
  obtain ⟨ia, hia⟩ : ∃ c, cliOf Y.cs i = c := ⟨_, rfl⟩
  rw [hja, hia] at hcf
  obtain ⟨cn, ca, cb, cf⟩ := ja
  obtain ⟨qn, qa, qb, qf⟩ := ia
  simp only at hcf
  have HS := Lib.hid hcs
  have HF := Lib.hid hcf
  have HJ := Lib.hid hja
  have HI := Lib.hid hia
  clear hcs hcf hja hia hcw
  have hj1 : (j : Int) < 3 := by omega
  have hi1 : (i : Int) < 3 := by omega
  obtain ⟨q3, q4, q5, _⟩ := boxes3 w (.cells #[.slice a0 n0 c0, .slice a1 n1 c1, .slice a2 n2 c2] 31) (.cells #[.slice b0 m0 e0, .slice b1 m1 e1, .slice (some ⟨bw, ow, none⟩) 3 e2] 31) (.cells #[.int .i64 4, .int .i64 (s : Int), .int .i64 (j : Int), .int .i64 (i : Int), .int .i64 xe, .string xv] 35)
  have hb0 := below3 w (.cells #[.slice a0 n0 c0, .slice a1 n1 c1, .slice a2 n2 c2] 31) (.cells #[.slice b0 m0 e0, .slice b1 m1 e1, .slice (some ⟨bw, ow, none⟩) 3 e2] 31) (.cells #[.int .i64 4, .int .i64 (s : Int), .int .i64 (j : Int), .int .i64 (i : Int), .int .i64 xe, .string xv] 35)
  have dq4_0 := heap_cell q4 0 _ rfl
  have dq4_1 := heap_cell q4 1 _ rfl
  have dq4_2 := heap_cell q4 2 _ rfl
  have dq5_0 := heap_cell q5 0 _ rfl
  have dq5_1 := heap_cell q5 1 _ rfl
  have dq5_2 := heap_cell q5 2 _ rfl
  have dq5_3 := heap_cell q5 3 _ rfl
  have dq5_4 := heap_cell q5 4 _ rfl
  have dq5_5 := heap_cell q5 5 _ rfl
  go_enter Tryd.func19, Tryd.ntmps19
  go_wp2_with fail
  generalize (((w.alloc (.cells #[.slice a0 n0 c0, .slice a1 n1 c1, .slice a2 n2 c2] 31)).alloc (.cells #[.slice b0 m0 e0, .slice b1 m1 e1, .slice (some ⟨bw, ow, none⟩) 3 e2] 31)).alloc (.cells #[.int .i64 4, .int .i64 (s : Int), .int .i64 (j : Int), .int .i64 (i : Int), .int .i64 xe, .string xv] 35)) = w0 at q3 q4 q5 hb0 dq4_0 dq4_1 dq4_2 dq5_0 dq5_1 dq5_2 dq5_3 dq5_4 dq5_5 ⊢
  refine (S5.out w0 (hYW.on hb0)).mono ?_
  rintro e w1 ⟨rfl, hb1⟩
  have q3 := heap_on hb1 q3
  have q4 := heap_on hb1 q4
  have q5 := heap_on hb1 q5
  have hb1 := below_on hb0 hb1
  clear hb0
  clear dq4_0 dq4_1 dq4_2 dq5_0 dq5_1 dq5_2 dq5_3 dq5_4 dq5_5
  have dq4_0 := heap_cell q4 0 _ rfl
  have dq4_1 := heap_cell q4 1 _ rfl
  have dq4_2 := heap_cell q4 2 _ rfl
  have dq5_2 := heap_cell q5 2 _ rfl
  have dq5_3 := heap_cell q5 3 _ rfl
  go_wp2_with fail
  refine (S1.out w1 (hE.on hb1) (hYW.on hb1)).mono ?_
  rintro e w2 ⟨rfl, hb2⟩
  have q3 := heap_on hb2 q3
  have q4 := heap_on hb2 q4
  have q5 := heap_on hb2 q5
  have hb2 := below_on hb1 hb2
  clear hb1
  clear dq4_0 dq4_1 dq4_2 dq5_2 dq5_3
  have dq4_0 := heap_cell q4 0 _ rfl
  have dq4_1 := heap_cell q4 1 _ rfl
  have dq4_2 := heap_cell q4 2 _ rfl
  have dq5_2 := heap_cell q5 2 _ rfl
  have dq5_3 := heap_cell q5 3 _ rfl
  go_wp2_with fail
  refine (S2.out w2 (hE.on hb2) (hYW.on hb2)).mono ?_
  rintro e w3 ⟨rfl, hb3⟩
  have q3 := heap_on hb3 q3
  have q4 := heap_on hb3 q4
  have q5 := heap_on hb3 q5
  have hb3 := below_on hb2 hb3
  clear hb2
  clear dq4_0 dq4_1 dq4_2 dq5_2 dq5_3
  have dq4_0 := heap_cell q4 0 _ rfl
  have dq4_1 := heap_cell q4 1 _ rfl
  have dq4_2 := heap_cell q4 2 _ rfl
  have dq5_2 := heap_cell q5 2 _ rfl
  have dq5_3 := heap_cell q5 3 _ rfl
  go_wp2_with fail
  refine (S3.out w3 (hE.on hb3) (hYW.on hb3)).mono ?_
  rintro e w4 ⟨rfl, hb4⟩
  have q3 := heap_on hb4 q3
  have q4 := heap_on hb4 q4
  have q5 := heap_on hb4 q5
  have hb4 := below_on hb3 hb4
  clear hb3
  clear dq4_0 dq4_1 dq4_2 dq5_2 dq5_3
  have dq4_0 := heap_cell q4 0 _ rfl
  have dq4_1 := heap_cell q4 1 _ rfl
  have dq4_2 := heap_cell q4 2 _ rfl
  have dq5_2 := heap_cell q5 2 _ rfl
  have dq5_3 := heap_cell q5 3 _ rfl
  go_wp2_with fail
  refine (S4.out w4 (hE.on hb4) (hYW.on hb4)).mono ?_
  rintro e w5 ⟨rfl, hb5⟩
  have q3 := heap_on hb5 q3
  have q4 := heap_on hb5 q4
  have q5 := heap_on hb5 q5
  have hb5 := below_on hb4 hb5
  clear hb4
  clear dq4_0 dq4_1 dq4_2 dq5_2 dq5_3
  clear S1 S2 S3 S4 S5
  have dq4_0 := heap_cell q4 0 _ rfl
  have dq4_1 := heap_cell q4 1 _ rfl
  have dq4_2 := heap_cell q4 2 _ rfl
  have dq5_2 := heap_cell q5 2 _ rfl
  have dq5_3 := heap_cell q5 3 _ rfl
  go_upto_region 10 with fail
  clear dq4_0 dq4_1 dq4_2 dq5_2 dq5_3
  obtain ⟨w5, hw5⟩ : ∃ x, x = w5 := ⟨_, rfl⟩
  subst hw5
  obtain ⟨bw', ow', hbw, kw, hcw⟩ := (hYW.on hb5).e2.cells (by omega)
  injection hbw with hbw
  injection hbw with h1 h2
  subst h1 h2
  obtain ⟨z1, z2, z3, z4⟩ := hcw j (by omega)
  obtain ⟨y1, y2, y3, y4⟩ := hcw i (by omega)
  rw [HJ.out] at z1 z2 z3 z4
  rw [HI.out] at y1 y2 y3 y4
  simp only at z1 z2 z3 z4 y1 y2 y3 y4
  clear hcw
  go_cut [17, 18] (fun t17 t18 w' => ∃ gp gq, t17 = .pointer (some ⟨gp, 0, none⟩) ∧ t18 = .pointer (some ⟨gq, 0, none⟩) ∧ w'.heap[gp]? = some (.cells #[.int .i64 cn, .string ca, .string cb, .bool cf] 49) ∧ w'.heap[gq]? = some (.cells #[.int .i64 qn, .string qa, .string qb, .bool qf] 49) ∧ Below w5.heap.size w5 w')
  case first =>
    have d4_2 := heap_cell q4 2 _ rfl
    have d5_2 := heap_cell q5 2 _ rfl
    have d5_3 := heap_cell q5 3 _ rfl
    have k4 := (Array.getElem?_eq_some_iff.1 q4).1
    have k5 := (Array.getElem?_eq_some_iff.1 q5).1
    have k3 : w.heap.size < w5.heap.size := by omega
    go_region
    all_goals
      go_wp2_with fail
      go_meet
      case rel => first
        | exact ⟨w5.heap.size, w5.heap.size + 1, rfl, rfl, (boxes2 w5 (.cells #[.int .i64 cn, .string ca, .string cb, .bool cf] 49) (.cells #[.int .i64 qn, .string qa, .string qb, .bool qf] 49)).1, (boxes2 w5 (.cells #[.int .i64 cn, .string ca, .string cb, .bool cf] 49) (.cells #[.int .i64 qn, .string qa, .string qb, .bool qf] 49)).2.1, (boxes2 w5 (.cells #[.int .i64 cn, .string ca, .string cb, .bool cf] 49) (.cells #[.int .i64 qn, .string qa, .string qb, .bool qf] 49)).2.2.drew⟩
        | exact ⟨w5.heap.size + 1, w5.heap.size, rfl, rfl, (boxes2 w5 (.cells #[.int .i64 qn, .string qa, .string qb, .bool qf] 49) (.cells #[.int .i64 cn, .string ca, .string cb, .bool cf] 49)).2.1, (boxes2 w5 (.cells #[.int .i64 qn, .string qa, .string qb, .bool qf] 49) (.cells #[.int .i64 cn, .string ca, .string cb, .bool cf] 49)).1, (boxes2 w5 (.cells #[.int .i64 qn, .string qa, .string qb, .bool qf] 49) (.cells #[.int .i64 cn, .string ca, .string cb, .bool cf] 49)).2.2.drew⟩
  case rest =>
    obtain ⟨gp, gq, rfl, rfl, q17, q18, hbc⟩ := hcut
    obtain ⟨w6, hw6⟩ : ∃ x, x = wc := ⟨_, rfl⟩
    subst hw6
    have q3 := heap_on hbc q3
    have q4 := heap_on hbc q4
    have hb6 := below_on hb5 hbc
    clear hb5 hbc z1 z2 z3 z4 y1 y2 y3 y4 HJ HI q5
    have s3 := heap_cell q3 0 _ rfl
    have s4 := heap_cell q3 1 _ rfl
    have s5 := heap_cell q3 2 _ rfl
    have t3 := heap_cell q4 0 _ rfl
    have t4 := heap_cell q4 1 _ rfl
    have t5 := heap_cell q4 2 _ rfl
    have u0 := heap_cell q17 0 _ rfl
    have u3 := heap_cell q17 3 _ rfl
    have v0 := heap_cell q18 0 _ rfl
    have v3 := heap_cell q18 3 _ rfl
    clear q3 q4 q17 q18
    cases A0 <;> cases B0 <;> cases A1 <;> cases B1
    · clear HS S0
      by_cases h1 : (n : Int) < cn
      · have g1 : decide ((n : Int) < cn) = true := decide_eq_true h1
        by_cases h2 : (n : Int) < qn
        · have g2 : decide ((n : Int) < qn) = true := decide_eq_true h2
          clear HF
          go_wp2_with fail
          go_ret
          exact ⟨rfl, hb6⟩
        · have g2 : decide ((n : Int) < qn) = false := decide_eq_false h2
          clear HF
          go_wp2_with fail
          go_ret
          exact ⟨rfl, hb6⟩
      · have g1 : decide ((n : Int) < cn) = false := decide_eq_false h1
        clear HF
        go_wp2_with fail
        go_ret
        exact ⟨rfl, hb6⟩
    · clear HS S0
      by_cases h1 : (n : Int) < cn
      · have g1 : decide ((n : Int) < cn) = true := decide_eq_true h1
        by_cases h2 : (n : Int) < qn
        · have g2 : decide ((n : Int) < qn) = true := decide_eq_true h2
          clear HF
          go_wp2_with fail
          go_ret
          exact ⟨rfl, hb6⟩
        · have g2 : decide ((n : Int) < qn) = false := decide_eq_false h2
          clear HF
          go_wp2_with fail
          go_ret
          exact ⟨rfl, hb6⟩
      · have g1 : decide ((n : Int) < cn) = false := decide_eq_false h1
        clear HF
        go_wp2_with fail
        go_ret
        exact ⟨rfl, hb6⟩
    · clear HS S0
      by_cases h1 : (n : Int) < cn
      · have g1 : decide ((n : Int) < cn) = true := decide_eq_true h1
        by_cases h2 : (n : Int) < qn
        · have g2 : decide ((n : Int) < qn) = true := decide_eq_true h2
          clear HF
          go_wp2_with fail
          go_ret
          exact ⟨rfl, hb6⟩
        · have g2 : decide ((n : Int) < qn) = false := decide_eq_false h2
          clear HF
          go_wp2_with fail
          go_ret
          exact ⟨rfl, hb6⟩
      · have g1 : decide ((n : Int) < cn) = false := decide_eq_false h1
        clear HF
        go_wp2_with fail
        go_ret
        exact ⟨rfl, hb6⟩
    · have hWY := Lib.hid (HS.out (by simp))
      clear HS HF
      go_wp2_with fail
      have hq := S0.out w6 (hW.on hb6) (hYW.on hb6)
      rw [decide_eq_true hWY.out] at hq
      refine hq.mono ?_
      rintro e w7 ⟨rfl, hb7⟩
      have hb7 := below_on hb6 hb7
      go_wp2_with fail
      go_ret
      exact ⟨rfl, hb7⟩
    · clear HS S0
      by_cases h1 : (n : Int) < cn
      · have g1 : decide ((n : Int) < cn) = true := decide_eq_true h1
        by_cases h2 : (n : Int) < qn
        · have g2 : decide ((n : Int) < qn) = true := decide_eq_true h2
          clear HF
          go_wp2_with fail
          go_ret
          exact ⟨rfl, hb6⟩
        · have g2 : decide ((n : Int) < qn) = false := decide_eq_false h2
          clear HF
          go_wp2_with fail
          go_ret
          exact ⟨rfl, hb6⟩
      · have g1 : decide ((n : Int) < cn) = false := decide_eq_false h1
        clear HF
        go_wp2_with fail
        go_ret
        exact ⟨rfl, hb6⟩
    · clear HS S0
      by_cases h1 : (n : Int) < cn
      · have g1 : decide ((n : Int) < cn) = true := decide_eq_true h1
        by_cases h2 : (n : Int) < qn
        · have g2 : decide ((n : Int) < qn) = true := decide_eq_true h2
          clear HF
          go_wp2_with fail
          go_ret
          exact ⟨rfl, hb6⟩
        · have g2 : decide ((n : Int) < qn) = false := decide_eq_false h2
          clear HF
          go_wp2_with fail
          go_ret
          exact ⟨rfl, hb6⟩
      · have g1 : decide ((n : Int) < cn) = false := decide_eq_false h1
        clear HF
        go_wp2_with fail
        go_ret
        exact ⟨rfl, hb6⟩
    · clear HS S0
      by_cases h1 : (n : Int) < cn
      · have g1 : decide ((n : Int) < cn) = true := decide_eq_true h1
        by_cases h2 : (n : Int) < qn
        · have g2 : decide ((n : Int) < qn) = true := decide_eq_true h2
          obtain ⟨f1, f2⟩ := HF.out h1 h2 (by simp)
          subst f1
          subst f2
          clear HF
          go_wp2_with fail
          go_ret
          exact ⟨rfl, hb6⟩
        · have g2 : decide ((n : Int) < qn) = false := decide_eq_false h2
          clear HF
          go_wp2_with fail
          go_ret
          exact ⟨rfl, hb6⟩
      · have g1 : decide ((n : Int) < cn) = false := decide_eq_false h1
        clear HF
        go_wp2_with fail
        go_ret
        exact ⟨rfl, hb6⟩
    · have hWY := Lib.hid (HS.out (by simp))
      clear HS HF
      go_wp2_with fail
      have hq := S0.out w6 (hW.on hb6) (hYW.on hb6)
      rw [decide_eq_true hWY.out] at hq
      refine hq.mono ?_
      rintro e w7 ⟨rfl, hb7⟩
      have hb7 := below_on hb6 hb7
      go_wp2_with fail
      go_ret
      exact ⟨rfl, hb7⟩
    · clear HS S0
      by_cases h1 : (n : Int) < cn
      · have g1 : decide ((n : Int) < cn) = true := decide_eq_true h1
        by_cases h2 : (n : Int) < qn
        · have g2 : decide ((n : Int) < qn) = true := decide_eq_true h2
          clear HF
          go_wp2_with fail
          go_ret
          exact ⟨rfl, hb6⟩
        · have g2 : decide ((n : Int) < qn) = false := decide_eq_false h2
          clear HF
          go_wp2_with fail
          go_ret
          exact ⟨rfl, hb6⟩
      · have g1 : decide ((n : Int) < cn) = false := decide_eq_false h1
        clear HF
        go_wp2_with fail
        go_ret
        exact ⟨rfl, hb6⟩
    · clear HS S0
      by_cases h1 : (n : Int) < cn
      · have g1 : decide ((n : Int) < cn) = true := decide_eq_true h1
        by_cases h2 : (n : Int) < qn
        · have g2 : decide ((n : Int) < qn) = true := decide_eq_true h2
          obtain ⟨f1, f2⟩ := HF.out h1 h2 (by simp)
          subst f1
          subst f2
          clear HF
          go_wp2_with fail
          go_ret
          exact ⟨rfl, hb6⟩
        · have g2 : decide ((n : Int) < qn) = false := decide_eq_false h2
          clear HF
          go_wp2_with fail
          go_ret
          exact ⟨rfl, hb6⟩
      · have g1 : decide ((n : Int) < cn) = false := decide_eq_false h1
        clear HF
        go_wp2_with fail
        go_ret
        exact ⟨rfl, hb6⟩
    · clear HS S0
      by_cases h1 : (n : Int) < cn
      · have g1 : decide ((n : Int) < cn) = true := decide_eq_true h1
        by_cases h2 : (n : Int) < qn
        · have g2 : decide ((n : Int) < qn) = true := decide_eq_true h2
          clear HF
          go_wp2_with fail
          go_ret
          exact ⟨rfl, hb6⟩
        · have g2 : decide ((n : Int) < qn) = false := decide_eq_false h2
          clear HF
          go_wp2_with fail
          go_ret
          exact ⟨rfl, hb6⟩
      · have g1 : decide ((n : Int) < cn) = false := decide_eq_false h1
        clear HF
        go_wp2_with fail
        go_ret
        exact ⟨rfl, hb6⟩
    · have hWY := Lib.hid (HS.out (by simp))
      clear HS HF
      go_wp2_with fail
      have hq := S0.out w6 (hW.on hb6) (hYW.on hb6)
      rw [decide_eq_true hWY.out] at hq
      refine hq.mono ?_
      rintro e w7 ⟨rfl, hb7⟩
      have hb7 := below_on hb6 hb7
      go_wp2_with fail
      go_ret
      exact ⟨rfl, hb7⟩
    · have hWY := Lib.hid (HS.out (by simp))
      clear HS HF
      go_wp2_with fail
      have hq := S0.out w6 (hW.on hb6) (hYW.on hb6)
      rw [decide_eq_true hWY.out] at hq
      refine hq.mono ?_
      rintro e w7 ⟨rfl, hb7⟩
      have hb7 := below_on hb6 hb7
      go_wp2_with fail
      go_ret
      exact ⟨rfl, hb7⟩
    · have hWY := Lib.hid (HS.out (by simp))
      clear HS HF
      go_wp2_with fail
      have hq := S0.out w6 (hW.on hb6) (hYW.on hb6)
      rw [decide_eq_true hWY.out] at hq
      refine hq.mono ?_
      rintro e w7 ⟨rfl, hb7⟩
      have hb7 := below_on hb6 hb7
      go_wp2_with fail
      go_ret
      exact ⟨rfl, hb7⟩
    · have hWY := Lib.hid (HS.out (by simp))
      clear HS HF
      go_wp2_with fail
      have hq := S0.out w6 (hW.on hb6) (hYW.on hb6)
      rw [decide_eq_true hWY.out] at hq
      refine hq.mono ?_
      rintro e w7 ⟨rfl, hb7⟩
      have hb7 := below_on hb6 hb7
      go_wp2_with fail
      go_ret
      exact ⟨rfl, hb7⟩
    · have hWY := Lib.hid (HS.out (by simp))
      clear HS HF
      go_wp2_with fail
      have hq := S0.out w6 (hW.on hb6) (hYW.on hb6)
      rw [decide_eq_true hWY.out] at hq
      refine hq.mono ?_
      rintro e w7 ⟨rfl, hb7⟩
      have hb7 := below_on hb6 hb7
      go_wp2_with fail
      go_ret
      exact ⟨rfl, hb7⟩

theorem caught_plays (w : World) (hE : ∀ w1, w.grownBy w1 none → Tab w1) : Plays w none (fun _ => True) 19 (fun x y z => #[x, y, z]) (fun _ _ => True) := by
  refine ⟨trivial, fun _ _ _ _ _ => trivial, fun _ _ _ _ _ _ _ _ _ _ _ _ _ _ _ _ _ => trivial, fun W x a0 n0 c0 a1 n1 c1 a2 n2 c2 b0 m0 e0 b1 m1 e1 b2 m2 e2 w1 hg _ _ h0 _ hW hY => ?_⟩
  have key : ∀ (e : Ending) (w' : World), (e = .returned (.bool true) ∧ Below w1.heap.size w1 w') → e = .returned (.bool true) ∧ True ∧ w1.grownBy w' none ∧ WAt w' b0 m0 e0 b1 m1 e1 b2 m2 e2 (doV W x).1 := fun _ _ h => ⟨h.1, trivial, below_grown h.2 none, hY.on h.2⟩
  have hkeep := (keeps_do h0).good
  obtain ⟨hG, _, hr⟩ := do_right h0
  by_cases hk : x.kind = 4
  · rw [doV_hap hG] at hY hkeep
    obtain ⟨xk, xs, xw, xo, xe, xv⟩ := x
    obtain ⟨r1, r2, r3, r4, r5, r6⟩ := hr
    simp only at hk r1 r2 r3 r4 r5 r6 ⊢
    subst hk
    obtain ⟨s, rfl⟩ : ∃ s : Nat, xs = (s : Int) := ⟨xs.toNat, by omega⟩
    obtain ⟨j, rfl⟩ : ∃ s : Nat, xw = (s : Int) := ⟨xw.toNat, by omega⟩
    obtain ⟨i, rfl⟩ : ∃ s : Nat, xo = (s : Int) := ⟨xo.toNat, by omega⟩
    exact (caught_meet W _ a0 n0 c0 a1 n1 c1 a2 n2 c2 b0 m0 e0 b1 m1 e1 b2 m2 e2 s j i xe xv w1 (hE w1 hg) hW hY hG (by omega) (by omega) (by omega) rfl hkeep).mono key
  · exact (caught_else a0 n0 c0 a1 n1 c1 a2 n2 c2 b0 m0 e0 b1 m1 e1 b2 m2 e2 x.kind x.side x.who x.other x.e.1 x.e.2 w1 hk).mono key

set_option maxHeartbeats 16000000 in
set_option maxRecDepth 100000 in
theorem storyCaught_walk (l : List HapB) (a : Option Addr) (k c : Nat) (w : World) (hE : Tab w) (hk : l.length = k) (hL : HapsAt w a c l) :
    Calls Tryd.prog 6 #[.slice a k c] w fun e w' => e = .returned (.bool true) ∧ Below w.heap.size w w' := by
  have hbe := fun w1 (hg : w.grownBy w1 none) => (⟨hg.os, hg.tape, hg.output, hg.size, fun k hk => hg.block k hk (fun e => by cases e)⟩ : Below w.heap.size w w1)
  have hp := played_caught none (fun _ => True) (fun _ _ => True) l a k c w (caught_plays w (fun w1 hg => hE.on (hbe w1 hg))) (fun j hj => by cases hj) (fun w1 hg => hE.on (hbe w1 hg)) hk (fun _ _ => trivial) (fun w1 hg => hL.on (hbe w1 hg))
  generalize playW newW (l.take 60) = P at hp
  have HBE := Lib.hid hbe
  clear hbe
  go_enter Tryd.func6, Tryd.ntmps6
  go_wp2_with fail
  refine hp.mono ?_
  rintro e w1 ⟨b0, m0, e0, b1, m1, e1, b2, m2, e2, rfl, _, _, hg⟩
  have hb1 := HBE.out w1 hg
  clear hp hg
  have hb2 := hb1.alloc hb1.size (.cells #[.slice b0 m0 e0, .slice b1 m1 e1, .slice b2 m2 e2] 31)
  go_wp2_with fail
  generalize (w1.alloc (.cells #[.slice b0 m0 e0, .slice b1 m1 e1, .slice b2 m2 e2] 31)) = w2 at hb2 ⊢
  refine (telling_any w2 (hE.on hb2)).mono ?_
  rintro e w3 ⟨rfl, hb3⟩
  have hb3 := below_on hb2 hb3
  go_wp2_with fail
  go_ret
  exact ⟨rfl, hb3⟩

end Go.Proofs.YtnemiobgmdpnmagDoor
