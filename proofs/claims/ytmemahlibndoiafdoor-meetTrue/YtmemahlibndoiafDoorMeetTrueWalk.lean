/-
  MeetTrue's walk: of whatever books, seals and number it answers true.
-/
import Derived.Test.YtmemahlibndoiafDoorTogether
import Derived.Test.YtmemahlibndoiafDoorHeadAny
import Derived.Test.YtmemahlibndoiafDoorAt
import Derived.Test.YtmemahlibndoiafDoorEntSlices
import Derived.Lib.QuietBelow
import Derived.Deep.DeepCutAuto
namespace Go.Proofs.YtmemahlibndoiafDoor
open Go Go.RowKit Go.Maps

set_option maxHeartbeats 2000000 in
set_option maxRecDepth 100000 in
theorem meetTrue_bad (lb : List EntB) (a : Option Addr) (n c : Nat) (lo : List EntB) (a2 : Option Addr) (n2 c2 : Nat) (a3 : Option Addr) (n3 c3 : Nat) (i : Int) (w : World) (hE : Tab w) (hn : lb.length = n) (hS : EntsAt w a c lb) (hn2 : lo.length = n2) (hS2 : EntsAt w a2 c2 lo) (h0 : bookE lb ≠ 0 ∨ bookE lo ≠ 0) :
    Calls Tryd.prog 3 #[.agg #[.slice a n c], .agg #[.slice a2 n2 c2], .slice a3 n3 c3, .int .i64 i] w fun e w' => e = .returned (.bool true) ∧ Below w.heap.size w w' := by
  have h1 := fun w' hE hS => head_any lb a n c w' hE hn hS
  have h2 := fun w' hE hS => head_any lo a2 n2 c2 w' hE hn2 hS
  generalize bookE lb = z1 at h0 h1
  generalize bookE lo = z2 at h0 h2
  generalize headN lb = N1 at h1
  generalize headL lb = L1 at h1
  generalize headM lb = M1 at h1
  generalize headN lo = N2 at h2
  generalize headL lo = L2 at h2
  generalize headM lo = M2 at h2
  have H1 := Lib.hid h1
  have H2 := Lib.hid h2
  clear h1 h2
  obtain ⟨q4, q5, hb0⟩ := boxes2 w (.cells #[.slice a n c] 24) (.cells #[.slice a2 n2 c2] 24)
  have dq4_0 := heap_cell q4 0 _ rfl
  go_enter Tryd.func3, Tryd.ntmps3
  go_wp2_with fail
  generalize ((w.alloc (.cells #[.slice a n c] 24)).alloc (.cells #[.slice a2 n2 c2] 24)) = w0 at q4 q5 hb0 dq4_0 ⊢
  refine (H1.out w0 (hE.on hb0) (hS.on hb0)).mono ?_
  rintro e w1 ⟨rfl, hb1⟩
  have q4 := heap_on hb1 q4
  have q5 := heap_on hb1 q5
  have hb1 := below_on hb0 hb1
  clear hb0
  clear dq4_0
  have q4 := heap_old w1 (.cells #[.int .i64 N1, .string L1, .string M1] 27) q4
  have q5 := heap_old w1 (.cells #[.int .i64 N1, .string L1, .string M1] 27) q5
  have q9 := heap_push w1 (.cells #[.int .i64 N1, .string L1, .string M1] 27)
  have hb2 := hb1.alloc hb1.size (.cells #[.int .i64 N1, .string L1, .string M1] 27)
  clear hb1
  have dq5_0 := heap_cell q5 0 _ rfl
  go_wp2_with fail
  generalize (w1.alloc (.cells #[.int .i64 N1, .string L1, .string M1] 27)) = w2 at q4 q5 q9 dq5_0 hb2 ⊢
  generalize w1.heap.size = B9 at q9 ⊢
  refine (H2.out w2 (hE.on hb2) (hS2.on hb2)).mono ?_
  rintro e w3 ⟨rfl, hb3⟩
  have q4 := heap_on hb3 q4
  have q5 := heap_on hb3 q5
  have q9 := heap_on hb3 q9
  have hb3 := below_on hb2 hb3
  clear hb2
  clear dq5_0
  have q11 := heap_push w3 (.cells #[.int .i64 N2, .string L2, .string M2] 27)
  have hb4 := hb3.alloc hb3.size (.cells #[.int .i64 N2, .string L2, .string M2] 27)
  clear hb3
  go_wp2_with fail
  generalize (w3.alloc (.cells #[.int .i64 N2, .string L2, .string M2] 27)) = w4 at q11 hb4 ⊢
  generalize w3.heap.size = B11 at q11 ⊢
  refine (together_any w4 (hE.on hb4)).mono ?_
  rintro e w5 ⟨rfl, hb5⟩
  have q11 := heap_on hb5 q11
  have hb5 := below_on hb4 hb5
  clear hb4
  by_cases g1 : z1 = 0
  · have g2 : (z2 == 0) = false := by
      simp only [beq_eq_false_iff_ne, ne_eq]
      exact h0.resolve_left (fun h => h g1)
    subst g1
    clear h0
    go_wp2_with fail
    refine (together_any w5 (hE.on hb5)).mono ?_
    rintro e w6 ⟨rfl, hb6⟩
    have q11 := heap_on hb6 q11
    have hb6 := below_on hb5 hb6
    clear hb5
    go_wp2_with fail
    go_ret
    exact ⟨rfl, hb6⟩
  · have g2 : (z1 == 0) = false := by simp only [beq_eq_false_iff_ne, ne_eq]; exact g1
    clear h0
    go_wp2_with fail
    refine (together_any w5 (hE.on hb5)).mono ?_
    rintro e w6 ⟨rfl, hb6⟩
    have q11 := heap_on hb6 q11
    have hb6 := below_on hb5 hb6
    clear hb5
    go_wp2_with fail
    go_ret
    exact ⟨rfl, hb6⟩

set_option maxHeartbeats 4000000 in
set_option maxRecDepth 100000 in
theorem meetTrue_ok (lb : List EntB) (a : Option Addr) (n c : Nat) (lo : List EntB) (a2 : Option Addr) (n2 c2 : Nat) (ls : List ByteArray) (a3 : Option Addr) (n3 c3 : Nat) (i : Int) (w : World) (hE : Tab w) (hn : lb.length = n) (hS : EntsAt w a c lb) (hn2 : lo.length = n2) (hS2 : EntsAt w a2 c2 lo) (hn3 : ls.length = n3) (hS3 : StrsAt w a3 c3 ls) (hi : -9223372036854775808 ≤ i) (hi' : i ≤ 9223372036854775807) (hG : GoodBook lb) (hG2 : GoodBook lo) :
    Calls Tryd.prog 3 #[.agg #[.slice a n c], .agg #[.slice a2 n2 c2], .slice a3 n3 c3, .int .i64 i] w fun e w' => e = .returned (.bool true) ∧ Below w.heap.size w w' := by
  have hcap := hS.cap
  have hmax := hS.max
  have hcap2 := hS2.cap
  have hmax2 := hS2.max
  have hcap3 := hS3.cap
  have hmax3 := hS3.max
  have h24 := hG.1
  have h25 := hG2.1
  have h1 := fun w' hE hS => head_ok lb a n c w' hE hn hS hG
  have h2 := fun w' hE hS => head_ok lo a2 n2 c2 w' hE hn2 hS hG2
  have f1 := fun k (hk : k = min lb.length lo.length) h => meet_true hG hG2 (x := ls) h hk
  have f2 := fun hne => meet_both hG hG2 ls hne
  have m1 := fun w' hE hS => same_any (lb.length : Int) (headLog lb) (headMap lb) (lo.length : Int) (headLog lo) (headMap lo) ls a3 n3 c3 w' hn3 hE hS
  have m2 := fun w' hE hS => same_any (lo.length : Int) (headLog lo) (headMap lo) (lb.length : Int) (headLog lb) (headMap lb) ls a3 n3 c3 w' hn3 hE hS
  have m3 := fun r (h1 : 1 ≤ r) (hr : r ≤ lb.length) a' c' w' hE hS => same_any (r : Int) (headLog (lb.take r)) (headMap (lb.take r)) (lb.length : Int) (headLog lb) (headMap lb) (growS (textsE lb) r true) a' _ c' w' rfl hE hS
  have m4 := fun r (h1 : 1 ≤ r) (hr : r ≤ lb.length) a' c' w' hE hS => same_any (lb.length : Int) (headLog lb) (headMap lb) (r : Int) (headLog (lb.take r)) (headMap (lb.take r)) (growS (textsE lb) r true) a' _ c' w' rfl hE hS
  have f3 := fun r (h1 : 1 ≤ r) (hr : r ≤ lb.length) => meet_on hG h1 hr
  have HR := Lib.hid (fun r w' (h1 : 1 ≤ r) (hr : r ≤ lb.length) hE hS => head_ok (lb.take r) a r c w' hE (by rw [List.length_take]; omega) hS (good_take hG r))
  have HS := Lib.hid (fun r w' (h1 : 1 ≤ r) (hr : r ≤ lb.length) hE hS => showGrowth_ok lb a n c r w' hE hn hS hG h1 (by omega))
  generalize headLog lb = L1 at h1 f1 f2 f3 m1 m2 m3 m4
  generalize headMap lb = M1 at h1 f1 f2 f3 m1 m2 m3 m4
  generalize headLog lo = L2 at h2 f1 f2 m1 m2
  generalize headMap lo = M2 at h2 f1 f2 m1 m2
  generalize meetE (lb.length : Int) L1 M1 (lo.length : Int) L2 M2 ls = z at f1 f2 m1
  rw [hn] at f1 f2 m1 m2 m3 m4 f3
  rw [hn2] at f1 f2 m1 m2
  generalize meetE (n2 : Int) L2 M2 (n : Int) L1 M1 ls = z2 at f2 m2
  have H1 := Lib.hid h1
  have H2 := Lib.hid h2
  have HM1 := Lib.hid m1
  have HM2 := Lib.hid m2
  have HM3 := Lib.hid m3
  have HM4 := Lib.hid m4
  have HF := Lib.hid f3
  have HF2 := Lib.hid f2
  clear h1 h2 m1 m2 m3 m4 f3 f2
  obtain ⟨q4, q5, hb0⟩ := boxes2 w (.cells #[.slice a n c] 24) (.cells #[.slice a2 n2 c2] 24)
  have dq4_0 := heap_cell q4 0 _ rfl
  go_enter Tryd.func3, Tryd.ntmps3
  go_wp2_with fail
  generalize ((w.alloc (.cells #[.slice a n c] 24)).alloc (.cells #[.slice a2 n2 c2] 24)) = w0 at q4 q5 hb0 dq4_0 ⊢
  refine (H1.out w0 (hE.on hb0) (hS.on hb0)).mono ?_
  rintro e w1 ⟨rfl, hb1⟩
  have q4 := heap_on hb1 q4
  have q5 := heap_on hb1 q5
  have hb1 := below_on hb0 hb1
  clear hb0
  clear dq4_0
  have q4 := heap_old w1 (.cells #[.int .i64 (n : Int), .string L1, .string M1] 27) q4
  have q5 := heap_old w1 (.cells #[.int .i64 (n : Int), .string L1, .string M1] 27) q5
  have q9 := heap_push w1 (.cells #[.int .i64 (n : Int), .string L1, .string M1] 27)
  have hb2 := hb1.alloc hb1.size (.cells #[.int .i64 (n : Int), .string L1, .string M1] 27)
  clear hb1
  have dq5_0 := heap_cell q5 0 _ rfl
  go_wp2_with fail
  generalize (w1.alloc (.cells #[.int .i64 (n : Int), .string L1, .string M1] 27)) = w2 at q4 q5 q9 dq5_0 hb2 ⊢
  generalize w1.heap.size = B9 at q9 ⊢
  refine (H2.out w2 (hE.on hb2) (hS2.on hb2)).mono ?_
  rintro e w3 ⟨rfl, hb3⟩
  have q4 := heap_on hb3 q4
  have q5 := heap_on hb3 q5
  have q9 := heap_on hb3 q9
  have hb3 := below_on hb2 hb3
  clear hb2
  clear dq5_0
  have q4 := heap_old w3 (.cells #[.int .i64 (n2 : Int), .string L2, .string M2] 27) q4
  have q5 := heap_old w3 (.cells #[.int .i64 (n2 : Int), .string L2, .string M2] 27) q5
  have q9 := heap_old w3 (.cells #[.int .i64 (n2 : Int), .string L2, .string M2] 27) q9
  have q11 := heap_push w3 (.cells #[.int .i64 (n2 : Int), .string L2, .string M2] 27)
  have hb4 := hb3.alloc hb3.size (.cells #[.int .i64 (n2 : Int), .string L2, .string M2] 27)
  clear hb3
  go_wp2_with fail
  generalize (w3.alloc (.cells #[.int .i64 (n2 : Int), .string L2, .string M2] 27)) = w4 at q4 q5 q9 q11 hb4 ⊢
  generalize w3.heap.size = B11 at q11 ⊢
  refine (together_any w4 (hE.on hb4)).mono ?_
  rintro e w5 ⟨rfl, hb5⟩
  have q4 := heap_on hb5 q4
  have q5 := heap_on hb5 q5
  have q9 := heap_on hb5 q9
  have q11 := heap_on hb5 q11
  have hb5 := below_on hb4 hb5
  clear hb4
  obtain ⟨k, hk⟩ : ∃ k : Nat, k = min n n2 := ⟨_, rfl⟩
  have k1 : min (n : Int) (n2 : Int) = (k : Int) := by omega
  have k2 : k ≤ n := by omega
  have k3 : k ≤ n2 := by omega
  have hone := f1 k hk
  clear f1 hk
  have dq4_0 := heap_cell q4 0 _ rfl
  have dq5_0 := heap_cell q5 0 _ rfl
  go_upto_region 6 with fail
  clear dq4_0 dq5_0
  have ht1 := fun w' => run_take a n c k (by omega) w'
  have ht2 := fun w' => run_take a2 n2 c2 k (by omega) w'
  have he := fun w' hS hS2 => equal_ents (lb.take k) (lo.take k) a a2 k c k c2 w' (by rw [List.length_take]; omega) (by rw [List.length_take]; omega) hS hS2
  have hone : z = 0 → decide (lb.take k = lo.take k) = true := fun h => decide_eq_true (hone h)
  generalize decide (lb.take k = lo.take k) = one at he hone
  have cF := Lib.hid (fun d os => Calls.regrown_of (he (Sort.grow (redrawn w5 d) os) ((hS.on (below_on hb5 (below_regrown w5 d os))).take k) ((hS2.on (below_on hb5 (below_regrown w5 d os))).take k)))
  clear he
  have c0 := fun d os => cell_regrown (heap_cell q4 0 _ rfl) d os
  have c1 := fun d os => cell_regrown (heap_cell q5 0 _ rfl) d os
  refine wp_region_quiet_below (by kernel_rfl) (by kernel_rfl) ?_
  repeat (first | go_big_quiet_step (with_reducible exact cF.out _ _) | quiet_step (with_reducible exact cF.out _ _))
  refine wpQuiet_nil ?_
  intro _ hw'
  obtain ⟨⟨dq, osq⟩, hw''⟩ := hw'
  subst hw''
  clear cF c0 c1 ht1 ht2
  have hbr := below_regrown w5 dq osq
  generalize Sort.grow (redrawn w5 dq) osq = wq at hbr ⊢
  have q4 := heap_on hbr q4
  have q5 := heap_on hbr q5
  have q9 := heap_on hbr q9
  have q11 := heap_on hbr q11
  have hbq := below_on hb5 hbr
  clear hbr hb5
  have dq9_0 := heap_cell q9 0 _ rfl
  have dq9_1 := heap_cell q9 1 _ rfl
  have dq9_2 := heap_cell q9 2 _ rfl
  have dq11_0 := heap_cell q11 0 _ rfl
  have dq11_1 := heap_cell q11 1 _ rfl
  have dq11_2 := heap_cell q11 2 _ rfl
  go_wp2_with fail
  refine (HM1.out wq (hE.on hbq) (hS3.on hbq)).mono ?_
  rintro e w6 ⟨rfl, hb6⟩
  have q4 := heap_on hb6 q4
  have q5 := heap_on hb6 q5
  have q9 := heap_on hb6 q9
  have q11 := heap_on hb6 q11
  have hb6 := below_on hbq hb6
  clear hbq
  clear dq9_0 dq9_1 dq9_2 dq11_0 dq11_1 dq11_2
  go_upto_region 8 with fail
  go_cut [81] (fun r w' => r = .bool false ∧ Below w6.heap.size w6 w')
  case first =>
    have HM2c := fun hne => (HF2.out hne) ▸ HM2.out w6 (hE.on hb6) (hS3.on hb6)
    have dq4_0 := heap_cell q4 0 _ rfl
    have dq5_0 := heap_cell q5 0 _ rfl
    have dq9_0 := heap_cell q9 0 _ rfl
    have dq9_1 := heap_cell q9 1 _ rfl
    have dq9_2 := heap_cell q9 2 _ rfl
    have dq11_0 := heap_cell q11 0 _ rfl
    have dq11_1 := heap_cell q11 1 _ rfl
    have dq11_2 := heap_cell q11 2 _ rfl
    by_cases hnn : n = n2
    · clear HM2c
      subst hnn
      by_cases z0 : z = 0
      · obtain rfl := hone z0
        subst z0
        go_wp2_with fail
        go_meet
        case rel => exact ⟨rfl, Below.refl _ _⟩
      · have g3 : (z == 0) = false := by simp only [beq_eq_false_iff_ne, ne_eq]; exact z0
        clear hone
        go_wp2_with fail
        go_meet
        case rel => exact ⟨rfl, Below.refl _ _⟩
    · have g1 : ((n : Int) == (n2 : Int)) = false := by simp only [beq_eq_false_iff_ne, ne_eq]; omega
      by_cases z0 : z = 0
      · obtain rfl := hone z0
        subst z0
        go_wp2_with fail
        refine (HM2c hnn).mono ?_
        rintro e wx ⟨rfl, hbx⟩
        go_wp2_with fail
        go_meet
        case rel => exact ⟨rfl, hbx⟩
      · have g3 : (z == 0) = false := by simp only [beq_eq_false_iff_ne, ne_eq]; exact z0
        clear hone
        go_wp2_with fail
        refine (HM2c hnn).mono ?_
        rintro e wx ⟨rfl, hbx⟩
        go_wp2_with fail
        go_meet
        case rel => exact ⟨rfl, hbx⟩
  case rest =>
    obtain ⟨rfl, hbc⟩ := hcut
    obtain ⟨w9, hw9⟩ : ∃ x, x = wc := ⟨_, rfl⟩
    subst hw9
    have q4 := heap_on hbc q4
    have q5 := heap_on hbc q5
    have q9 := heap_on hbc q9
    have q11 := heap_on hbc q11
    have hb9 := below_on hb6 hbc
    clear hbc hone HM1 HM2 HF2 hb6
    have dq4_0 := heap_cell q4 0 _ rfl
    rcases Nat.eq_zero_or_pos n with hn0 | hn0
    · have g1 : ((n : Int) == 0) = true := by rw [hn0]; rfl
      clear hn0
      go_wp2_with fail
      go_ret
      exact ⟨rfl, hb9⟩
    · have g1 : ((n : Int) == 0) = false := by simp only [beq_eq_false_iff_ne, ne_eq]; omega
      have hq := atN_lt i hn0
      have HA := Lib.hid (fun w' => at_any i n w' hn0 (by omega) hi hi')
      generalize atN i n = j at hq HA
      clear hn0
      go_wp2_with fail
      refine (HA.out _).mono ?_
      rintro e _ ⟨rfl, rfl⟩
      clear HA
      obtain ⟨r, hr⟩ : ∃ r : Nat, r = 1 + j := ⟨_, rfl⟩
      have r1 : (1 : Int) + (j : Int) = (r : Int) := by omega
      have r2 : 1 ≤ r := by omega
      have r3 : r ≤ n := by omega
      clear hr hq
      have htr := fun w' => run_take a n c r (by omega) w'
      have hr := fun w' hE hS => HR.out r w' r2 (by omega) hE hS
      have hg := fun w' hE hS => HS.out r w' r2 (by omega) hE hS
      have m3 := fun a' c' w' hE hS => HM3.out r r2 r3 a' c' w' hE hS
      have m4 := fun a' c' w' hE hS => HM4.out r r2 r3 a' c' w' hE hS
      obtain ⟨f3, f4⟩ := HF.out r r2 r3
      rw [f3] at m3
      rw [f4] at m4
      clear f3 f4
      generalize headLog (lb.take r) = L3 at hr m3 m4
      generalize headMap (lb.take r) = M3 at hr m3 m4
      generalize growS (textsE lb) r true = G at hg m3 m4
      have HRr := Lib.hid hr
      have HSr := Lib.hid hg
      have M3r := Lib.hid m3
      have M4r := Lib.hid m4
      clear hr hg m3 m4 HR HS HM3 HM4 HF
      go_wp2_with fail
      refine (HRr.out w9 (hE.on hb9) ((hS.on hb9).take r)).mono ?_
      rintro e w7 ⟨rfl, hb7⟩
      have q4 := heap_on hb7 q4
      have q5 := heap_on hb7 q5
      have q9 := heap_on hb7 q9
      have q11 := heap_on hb7 q11
      have hb7 := below_on hb9 hb7
      clear hb9
      clear dq4_0
      have q4 := heap_old w7 (.cells #[.int .i64 (r : Int), .string L3, .string M3] 27) q4
      have q5 := heap_old w7 (.cells #[.int .i64 (r : Int), .string L3, .string M3] 27) q5
      have q9 := heap_old w7 (.cells #[.int .i64 (r : Int), .string L3, .string M3] 27) q9
      have q11 := heap_old w7 (.cells #[.int .i64 (r : Int), .string L3, .string M3] 27) q11
      have q16 := heap_push w7 (.cells #[.int .i64 (r : Int), .string L3, .string M3] 27)
      have hb8 := hb7.alloc hb7.size (.cells #[.int .i64 (r : Int), .string L3, .string M3] 27)
      clear hb7
      have dq4_0 := heap_cell q4 0 _ rfl
      go_wp2_with fail
      generalize (w7.alloc (.cells #[.int .i64 (r : Int), .string L3, .string M3] 27)) = w8 at q4 q5 q9 q11 q16 dq4_0 hb8 ⊢
      generalize w7.heap.size = B16 at q16 ⊢
      refine (HSr.out w8 (hE.on hb8) (hS.on hb8)).mono ?_
      rintro e w9 ⟨aG, cG, rfl, hL, hb9⟩
      have q4 := heap_on hb9 q4
      have q5 := heap_on hb9 q5
      have q9 := heap_on hb9 q9
      have q11 := heap_on hb9 q11
      have q16 := heap_on hb9 q16
      have hb9 := below_on hb8 hb9
      clear hb8
      clear dq4_0
      have dq16_0 := heap_cell q16 0 _ rfl
      have dq16_1 := heap_cell q16 1 _ rfl
      have dq16_2 := heap_cell q16 2 _ rfl
      have dq9_0 := heap_cell q9 0 _ rfl
      have dq9_1 := heap_cell q9 1 _ rfl
      have dq9_2 := heap_cell q9 2 _ rfl
      go_wp2_with fail
      refine (M3r.out aG cG w9 (hE.on hb9) hL).mono ?_
      rintro e w10 ⟨rfl, hb10⟩
      have q4 := heap_on hb10 q4
      have q5 := heap_on hb10 q5
      have q9 := heap_on hb10 q9
      have q11 := heap_on hb10 q11
      have q16 := heap_on hb10 q16
      have hL := hL.on hb10
      have hb10 := below_on hb9 hb10
      clear hb9
      clear dq16_0 dq16_1 dq16_2 dq9_0 dq9_1 dq9_2
      have dq16_0 := heap_cell q16 0 _ rfl
      have dq16_1 := heap_cell q16 1 _ rfl
      have dq16_2 := heap_cell q16 2 _ rfl
      have dq9_0 := heap_cell q9 0 _ rfl
      have dq9_1 := heap_cell q9 1 _ rfl
      have dq9_2 := heap_cell q9 2 _ rfl
      go_wp2_with fail
      refine (M4r.out aG cG w10 (hE.on hb10) hL).mono ?_
      rintro e w11 ⟨rfl, hb11⟩
      have q4 := heap_on hb11 q4
      have q5 := heap_on hb11 q5
      have q9 := heap_on hb11 q9
      have q11 := heap_on hb11 q11
      have q16 := heap_on hb11 q16
      have hL := hL.on hb11
      have hb11 := below_on hb10 hb11
      clear hb10
      clear dq16_0 dq16_1 dq16_2 dq9_0 dq9_1 dq9_2
      go_wp2_with fail
      go_ret
      exact ⟨rfl, hb11⟩

theorem meetTrue_walk (lb : List EntB) (a : Option Addr) (n c : Nat) (lo : List EntB) (a2 : Option Addr) (n2 c2 : Nat) (ls : List ByteArray) (a3 : Option Addr) (n3 c3 : Nat) (i : Int) (w : World) (hE : Tab w) (hn : lb.length = n) (hS : EntsAt w a c lb) (hn2 : lo.length = n2) (hS2 : EntsAt w a2 c2 lo) (hn3 : ls.length = n3) (hS3 : StrsAt w a3 c3 ls) (hi : -9223372036854775808 ≤ i) (hi' : i ≤ 9223372036854775807) :
    Calls Tryd.prog 3 #[.agg #[.slice a n c], .agg #[.slice a2 n2 c2], .slice a3 n3 c3, .int .i64 i] w fun e w' => e = .returned (.bool true) ∧ Below w.heap.size w w' := by
  by_cases h : bookE lb = 0
  · by_cases h2 : bookE lo = 0
    · exact meetTrue_ok lb a n c lo a2 n2 c2 ls a3 n3 c3 i w hE hn hS hn2 hS2 hn3 hS3 hi hi' ((bookE_iff lb).1 h) ((bookE_iff lo).1 h2)
    · exact meetTrue_bad lb a n c lo a2 n2 c2 a3 n3 c3 i w hE hn hS hn2 hS2 (.inr h2)
  · exact meetTrue_bad lb a n c lo a2 n2 c2 a3 n3 c3 i w hE hn hS hn2 hS2 (.inl h)
end Go.Proofs.YtmemahlibndoiafDoor
