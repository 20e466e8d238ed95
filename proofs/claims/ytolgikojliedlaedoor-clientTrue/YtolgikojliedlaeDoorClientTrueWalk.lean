/-
  ClientTrue's walk: of whatever books, seals, entry, steps and numbers it answers true.
-/
import Derived.Test.YtolgikojliedlaeDoorFollowed
import Derived.Test.YtolgikojliedlaeDoorHeadAny
import Derived.Test.YtolgikojliedlaeDoorEntSlices
import Derived.Lib.QuietBelow
import Derived.Deep.DeepCutAuto
namespace Go.Proofs.YtolgikojliedlaeDoor
open Go Go.RowKit Go.Maps

set_option maxHeartbeats 2000000 in
set_option maxRecDepth 100000 in
theorem clientTrue_bad (lb : List EntB) (a : Option Addr) (n c : Nat) (lo : List EntB) (a2 : Option Addr) (n2 c2 : Nat) (a3 : Option Addr) (n3 c3 : Nat) (i : Int) (kx : Int) (vx : ByteArray) (a6 : Option Addr) (n6 c6 : Nat) (t : Bool) (w : World) (hE : Tab w) (hn : lb.length = n) (hS : EntsAt w a c lb) (hn2 : lo.length = n2) (hS2 : EntsAt w a2 c2 lo) (h0 : bookE lb ≠ 0 ∨ bookE lo ≠ 0) :
    Calls Tryd.prog 4 #[.agg #[.slice a n c], .agg #[.slice a2 n2 c2], .slice a3 n3 c3, .int .i64 i, .agg #[.int .i64 kx, .string vx], .slice a6 n6 c6, .bool t] w fun e w' => e = .returned (.bool true) ∧ Below w.heap.size w w' := by
  have h1 := fun w' hE hS => head_any lb a n c w' hE hn hS
  have h2 := fun w' hE hS => head_any lo a2 n2 c2 w' hE hn2 hS
  generalize bookE lb = z1 at h0 h1
  generalize bookE lo = z2 at h0 h2
  generalize headN lb = N1 at h1
  generalize headL lb = L1 at h1
  generalize headM lb = M1 at h1
  generalize headN lo = N2 at h2
  generalize headL lo = L2 at h2
  generalize headM lo = M2 at h2
  have H1 := Lib.hid h1
  have H2 := Lib.hid h2
  clear h1 h2
  obtain ⟨q7, q8, q11, _⟩ := boxes3 w (.cells #[.slice a n c] 24) (.cells #[.slice a2 n2 c2] 24) (.cells #[.int .i64 kx, .string vx] 37)
  have hb0 := below3 w (.cells #[.slice a n c] 24) (.cells #[.slice a2 n2 c2] 24) (.cells #[.int .i64 kx, .string vx] 37)
  go_enter Tryd.func4, Tryd.ntmps4
  go_wp2_with fail
  generalize (((w.alloc (.cells #[.slice a n c] 24)).alloc (.cells #[.slice a2 n2 c2] 24)).alloc (.cells #[.int .i64 kx, .string vx] 37)) = w0 at q7 q8 q11 hb0 ⊢
  refine (H1.out w0 (hE.on hb0) (hS.on hb0)).mono ?_
  rintro e w1 ⟨rfl, hb1⟩
  have q7 := heap_on hb1 q7
  have q8 := heap_on hb1 q8
  have hb1 := below_on hb0 hb1
  clear hb0
  have q7 := heap_old w1 (.cells #[.int .i64 N1, .string L1, .string M1] 26) q7
  have q8 := heap_old w1 (.cells #[.int .i64 N1, .string L1, .string M1] 26) q8
  have q15 := heap_push w1 (.cells #[.int .i64 N1, .string L1, .string M1] 26)
  have hb2 := hb1.alloc hb1.size (.cells #[.int .i64 N1, .string L1, .string M1] 26)
  clear hb1
  have dq8_0 := heap_cell q8 0 _ rfl
  go_wp2_with fail
  generalize (w1.alloc (.cells #[.int .i64 N1, .string L1, .string M1] 26)) = w2 at q7 q8 q15 dq8_0 hb2 ⊢
  generalize w1.heap.size = B15 at q15 ⊢
  refine (H2.out w2 (hE.on hb2) (hS2.on hb2)).mono ?_
  rintro e w3 ⟨rfl, hb3⟩
  have q7 := heap_on hb3 q7
  have q8 := heap_on hb3 q8
  have q15 := heap_on hb3 q15
  have hb3 := below_on hb2 hb3
  clear hb2
  clear dq8_0
  have q17 := heap_push w3 (.cells #[.int .i64 N2, .string L2, .string M2] 26)
  have hb4 := hb3.alloc hb3.size (.cells #[.int .i64 N2, .string L2, .string M2] 26)
  clear hb3
  go_wp2_with fail
  generalize (w3.alloc (.cells #[.int .i64 N2, .string L2, .string M2] 26)) = w4 at q17 hb4 ⊢
  generalize w3.heap.size = B17 at q17 ⊢
  refine (followed_any w4 (hE.on hb4)).mono ?_
  rintro e w5 ⟨rfl, hb5⟩
  have q17 := heap_on hb5 q17
  have hb5 := below_on hb4 hb5
  clear hb4
  by_cases g1 : z1 = 0
  · have g2 : (z2 == 0) = false := by
      simp only [beq_eq_false_iff_ne, ne_eq]
      exact h0.resolve_left (fun h => h g1)
    subst g1
    clear h0
    go_wp2_with fail
    refine (followed_any w5 (hE.on hb5)).mono ?_
    rintro e w6 ⟨rfl, hb6⟩
    have q17 := heap_on hb6 q17
    have hb6 := below_on hb5 hb6
    clear hb5
    go_wp2_with fail
    go_ret
    exact ⟨rfl, hb6⟩
  · have g2 : (z1 == 0) = false := by simp only [beq_eq_false_iff_ne, ne_eq]; exact g1
    clear h0
    go_wp2_with fail
    refine (followed_any w5 (hE.on hb5)).mono ?_
    rintro e w6 ⟨rfl, hb6⟩
    have q17 := heap_on hb6 q17
    have hb6 := below_on hb5 hb6
    clear hb5
    go_wp2_with fail
    go_ret
    exact ⟨rfl, hb6⟩

set_option maxHeartbeats 4000000 in
set_option maxRecDepth 100000 in
theorem clientTrue_ok (lb : List EntB) (a : Option Addr) (n c : Nat) (lo : List EntB) (a2 : Option Addr) (n2 c2 : Nat) (ls : List ByteArray) (a3 : Option Addr) (n3 c3 : Nat) (i : Int) (kx : Int) (vx : ByteArray) (ss : List StepB) (a6 : Option Addr) (n6 c6 : Nat) (t : Bool) (w : World) (hE : Tab w) (hn : lb.length = n) (hS : EntsAt w a c lb) (hn2 : lo.length = n2) (hS2 : EntsAt w a2 c2 lo) (hn3 : ls.length = n3) (hS3 : StrsAt w a3 c3 ls) (hi : -9223372036854775808 ≤ i) (hi' : i ≤ 9223372036854775807) (hx : WideEnt (kx, vx)) (hv : vx.size ≤ 140737488355328) (hn6 : ss.length = n6) (hS6 : StepsAt w a6 c6 ss) (hG : GoodBook lb) (hG2 : GoodBook lo) :
    Calls Tryd.prog 4 #[.agg #[.slice a n c], .agg #[.slice a2 n2 c2], .slice a3 n3 c3, .int .i64 i, .agg #[.int .i64 kx, .string vx], .slice a6 n6 c6, .bool t] w fun e w' => e = .returned (.bool true) ∧ Below w.heap.size w w' := by
  have hcap := hS.cap
  have hmax := hS.max
  have hcap2 := hS2.cap
  have hmax2 := hS2.max
  have h24 := hG.1
  have h242 := hG2.1
  obtain ⟨x1, x2, _⟩ := hx
  simp only at x1 x2
  have h1 := fun w' hE hS => head_ok lb a n c w' hE hn hS hG
  have h2 := fun w' hE hS => head_ok lo a2 n2 c2 w' hE hn2 hS hG2
  have h3 := fun w' hE hS => follow_any (lb.length : Int) (headLog lb) (headMap lb) false (lo.length : Int) (headLog lo) (headMap lo) ls a3 n3 c3 w' hn3 hE hS
  have f1 := fun h => fol_zero (cf := false) (cn := (lb.length : Int)) (ca := headLog lb) (cb := headMap lb) (hn := (lo.length : Int)) (ha := headLog lo) (hb := headMap lo) (l := ls) h
  have f2 := fun (hp : 1 ≤ lb.length) h => follow_true hG hG2 (x := ls) hp h
  have h4 := fun w' hE hS => sees_any (lb.length : Int) (headLog lb) (headMap lb) false i kx vx ss a6 n6 c6 w' hn6 hE hS x1 x2 hv
  have f4 : seesE (lb.length : Int) (headLog lb) (headMap lb) i (textE (kx, vx)) ss = 0 → 0 ≤ i ∧ i < (lb.length : Int) ∧ textE (kx, vx) = textE (entAt lb i.toNat) := fun h => by
    unfold seesE at h
    rw [if_neg (fun hh => hh (head_good hG))] at h
    obtain ⟨y1, y2, y3, _⟩ := sees_true hG h
    exact ⟨y1, y2, y3⟩
  have h5 := fun w' hE hS => finds_any (lb.length : Int) (headLog lb) (headMap lb) false i vx t ls a3 n3 c3 w' hE hS hn3
  have f5 : findsE (lb.length : Int) (headLog lb) (headMap lb) i vx t ls = 0 → t = (valD (valsD lb) i).isSome ∧ vx = valS (valsD lb) i := fun h => by
    unfold findsE at h
    rw [if_neg (fun hh => hh (head_good hG))] at h
    exact (finds_true hG h).2.2
  have h6 := fun w' hE => text_any kx vx w' hE x1 x2 hv
  have h7 := fun w' hS => vals_ok lb a n c w' hn hS hG
  generalize folN (lb.length : Int) (headLog lb) (headMap lb) (lo.length : Int) (headLog lo) (headMap lo) ls = fN at h3 f1
  generalize folA (lb.length : Int) (headLog lb) (headMap lb) (lo.length : Int) (headLog lo) (headMap lo) ls = fA at h3 f1
  generalize folB (lb.length : Int) (headLog lb) (headMap lb) (lo.length : Int) (headLog lo) (headMap lo) ls = fB at h3 f1
  generalize folF (lb.length : Int) (headLog lb) (headMap lb) false (lo.length : Int) (headLog lo) (headMap lo) ls = fF at h3 f1
  generalize followE (lb.length : Int) (headLog lb) (headMap lb) (lo.length : Int) (headLog lo) (headMap lo) ls = z at h3 f1 f2
  generalize seesE (lb.length : Int) (headLog lb) (headMap lb) i (textE (kx, vx)) ss = y at h4 f4
  generalize findsE (lb.length : Int) (headLog lb) (headMap lb) i vx t ls = zf at h5 f5
  generalize headLog lb = L1 at h1 h3 h4 h5 f1
  generalize headMap lb = M1 at h1 h3 h4 h5 f1
  generalize headLog lo = L2 at h2 h3 f1
  generalize headMap lo = M2 at h2 h3 f1
  rw [hn] at h3 h4 h5 f4
  rw [hn2] at h3 f1
  have H1 := Lib.hid h1
  have H2 := Lib.hid h2
  have H3 := Lib.hid h3
  have H4 := Lib.hid h4
  have H5 := Lib.hid h5
  have H6 := Lib.hid h6
  have H7 := Lib.hid h7
  have F1 := Lib.hid f1
  have F2 := Lib.hid f2
  have F4 := Lib.hid f4
  have F5 := Lib.hid f5
  clear h1 h2 h3 h4 h5 h6 h7 f1 f2 f4 f5
  obtain ⟨q7, q8, q11, _⟩ := boxes3 w (.cells #[.slice a n c] 24) (.cells #[.slice a2 n2 c2] 24) (.cells #[.int .i64 kx, .string vx] 37)
  have hb0 := below3 w (.cells #[.slice a n c] 24) (.cells #[.slice a2 n2 c2] 24) (.cells #[.int .i64 kx, .string vx] 37)
  go_enter Tryd.func4, Tryd.ntmps4
  go_wp2_with fail
  generalize (((w.alloc (.cells #[.slice a n c] 24)).alloc (.cells #[.slice a2 n2 c2] 24)).alloc (.cells #[.int .i64 kx, .string vx] 37)) = w0 at q7 q8 q11 hb0 ⊢
  refine (H1.out w0 (hE.on hb0) (hS.on hb0)).mono ?_
  rintro e w1 ⟨rfl, hb1⟩
  have q7 := heap_on hb1 q7
  have q8 := heap_on hb1 q8
  have q11 := heap_on hb1 q11
  have hb1 := below_on hb0 hb1
  clear hb0
  have q7 := heap_old w1 (.cells #[.int .i64 (n : Int), .string L1, .string M1] 26) q7
  have q8 := heap_old w1 (.cells #[.int .i64 (n : Int), .string L1, .string M1] 26) q8
  have q11 := heap_old w1 (.cells #[.int .i64 (n : Int), .string L1, .string M1] 26) q11
  have q15 := heap_push w1 (.cells #[.int .i64 (n : Int), .string L1, .string M1] 26)
  have hb2 := hb1.alloc hb1.size (.cells #[.int .i64 (n : Int), .string L1, .string M1] 26)
  clear hb1
  have dq8_0 := heap_cell q8 0 _ rfl
  go_wp2_with fail
  generalize (w1.alloc (.cells #[.int .i64 (n : Int), .string L1, .string M1] 26)) = w2 at q7 q8 q11 q15 dq8_0 hb2 ⊢
  generalize w1.heap.size = B15 at q15 ⊢
  refine (H2.out w2 (hE.on hb2) (hS2.on hb2)).mono ?_
  rintro e w3 ⟨rfl, hb3⟩
  have q7 := heap_on hb3 q7
  have q8 := heap_on hb3 q8
  have q11 := heap_on hb3 q11
  have q15 := heap_on hb3 q15
  have hb3 := below_on hb2 hb3
  clear hb2
  clear dq8_0
  have q7 := heap_old w3 (.cells #[.int .i64 (n2 : Int), .string L2, .string M2] 26) q7
  have q8 := heap_old w3 (.cells #[.int .i64 (n2 : Int), .string L2, .string M2] 26) q8
  have q11 := heap_old w3 (.cells #[.int .i64 (n2 : Int), .string L2, .string M2] 26) q11
  have q15 := heap_old w3 (.cells #[.int .i64 (n2 : Int), .string L2, .string M2] 26) q15
  have q17 := heap_push w3 (.cells #[.int .i64 (n2 : Int), .string L2, .string M2] 26)
  have hb4 := hb3.alloc hb3.size (.cells #[.int .i64 (n2 : Int), .string L2, .string M2] 26)
  clear hb3
  go_wp2_with fail
  generalize (w3.alloc (.cells #[.int .i64 (n2 : Int), .string L2, .string M2] 26)) = w4 at q7 q8 q11 q15 q17 hb4 ⊢
  generalize w3.heap.size = B17 at q17 ⊢
  refine (followed_any w4 (hE.on hb4)).mono ?_
  rintro e w5 ⟨rfl, hb5⟩
  have q7 := heap_on hb5 q7
  have q8 := heap_on hb5 q8
  have q11 := heap_on hb5 q11
  have q15 := heap_on hb5 q15
  have q17 := heap_on hb5 q17
  have hb5 := below_on hb4 hb5
  clear hb4
  have dq15_0 := heap_cell q15 0 _ rfl
  have dq15_1 := heap_cell q15 1 _ rfl
  have dq15_2 := heap_cell q15 2 _ rfl
  have q7 := heap_old w5 (.cells #[.int .i64 (n : Int), .string L1, .string M1, .bool false] 45) q7
  have q8 := heap_old w5 (.cells #[.int .i64 (n : Int), .string L1, .string M1, .bool false] 45) q8
  have q11 := heap_old w5 (.cells #[.int .i64 (n : Int), .string L1, .string M1, .bool false] 45) q11
  have q15 := heap_old w5 (.cells #[.int .i64 (n : Int), .string L1, .string M1, .bool false] 45) q15
  have q17 := heap_old w5 (.cells #[.int .i64 (n : Int), .string L1, .string M1, .bool false] 45) q17
  have q19 := heap_push w5 (.cells #[.int .i64 (n : Int), .string L1, .string M1, .bool false] 45)
  have hb6 := hb5.alloc hb5.size (.cells #[.int .i64 (n : Int), .string L1, .string M1, .bool false] 45)
  clear hb5
  have dq19_0 := heap_cell q19 0 _ rfl
  have dq19_1 := heap_cell q19 1 _ rfl
  have dq19_2 := heap_cell q19 2 _ rfl
  have dq19_3 := heap_cell q19 3 _ rfl
  have dq17_0 := heap_cell q17 0 _ rfl
  have dq17_1 := heap_cell q17 1 _ rfl
  have dq17_2 := heap_cell q17 2 _ rfl
  go_wp2_with fail
  generalize (w5.alloc (.cells #[.int .i64 (n : Int), .string L1, .string M1, .bool false] 45)) = w6 at q7 q8 q11 q15 q17 q19 dq19_0 dq19_1 dq19_2 dq19_3 dq17_0 dq17_1 dq17_2 hb6 ⊢
  generalize w5.heap.size = B19 at q19 dq19_0 dq19_1 dq19_2 dq19_3 ⊢
  refine (H3.out w6 (hE.on hb6) (hS3.on hb6)).mono ?_
  rintro e w7 ⟨rfl, hb7⟩
  have q7 := heap_on hb7 q7
  have q8 := heap_on hb7 q8
  have q11 := heap_on hb7 q11
  have q15 := heap_on hb7 q15
  have q17 := heap_on hb7 q17
  have q19 := heap_on hb7 q19
  have hb7 := below_on hb6 hb7
  clear hb6
  clear dq19_0 dq19_1 dq19_2 dq19_3 dq17_0 dq17_1 dq17_2
  have q7 := heap_old w7 (.cells #[.int .i64 fN, .string fA, .string fB, .bool fF] 45) q7
  have q8 := heap_old w7 (.cells #[.int .i64 fN, .string fA, .string fB, .bool fF] 45) q8
  have q11 := heap_old w7 (.cells #[.int .i64 fN, .string fA, .string fB, .bool fF] 45) q11
  have q15 := heap_old w7 (.cells #[.int .i64 fN, .string fA, .string fB, .bool fF] 45) q15
  have q17 := heap_old w7 (.cells #[.int .i64 fN, .string fA, .string fB, .bool fF] 45) q17
  have q19 := heap_old w7 (.cells #[.int .i64 fN, .string fA, .string fB, .bool fF] 45) q19
  have q20 := heap_push w7 (.cells #[.int .i64 fN, .string fA, .string fB, .bool fF] 45)
  have hb8 := hb7.alloc hb7.size (.cells #[.int .i64 fN, .string fA, .string fB, .bool fF] 45)
  clear hb7
  go_upto_region 7 with fail
  generalize (w7.alloc (.cells #[.int .i64 fN, .string fA, .string fB, .bool fF] 45)) = w8 at q7 q8 q11 q15 q17 q19 q20 hb8 ⊢
  generalize w7.heap.size = B20 at q20 ⊢
  go_cut [87] (fun r w' => r = .bool false ∧ Below w8.heap.size w8 w')
  case first =>
    by_cases z0 : z = 0
    · obtain ⟨rfl, rfl, rfl, rfl⟩ := F1.out z0
      have f2 := F2.out
      subst z0
      by_cases hp : (0 : Int) < (n : Int)
      · obtain ⟨t1, t2⟩ := f2 (by omega) rfl
        have g0 : decide (0 < n) = true := decide_eq_true (by omega)
        have g1 : decide (n2 < n) = false := decide_eq_false (by omega)
        have htk := fun w' => run_take a2 n2 c2 n (by omega) w'
        have he := fun w' hS hS2 => equal_ents (lo.take n) lb a2 a n c2 n c w' (by rw [List.length_take]; omega) hn hS2 hS
        rw [decide_eq_true (by rw [← hn]; exact t2.symm)] at he
        have cF := Lib.hid (fun d os => Calls.regrown_of (he (Sort.grow (redrawn w8 d) os) (hS.on (below_on hb8 (below_regrown w8 d os))) ((hS2.on (below_on hb8 (below_regrown w8 d os))).take n)))
        clear t1 t2 he f2
        have k0 := fun d os => cell_regrown (heap_cell q15 0 _ rfl) d os
        have k1 := fun d os => cell_regrown (heap_cell q8 0 _ rfl) d os
        have k2 := fun d os => cell_regrown (heap_cell q7 0 _ rfl) d os
        have k3 := fun d os => cell_regrown (heap_cell q20 0 _ rfl) d os
        have k4 := fun d os => cell_regrown (heap_cell q20 1 _ rfl) d os
        have k5 := fun d os => cell_regrown (heap_cell q20 2 _ rfl) d os
        have k6 := fun d os => cell_regrown (heap_cell q17 0 _ rfl) d os
        have k7 := fun d os => cell_regrown (heap_cell q17 1 _ rfl) d os
        have k8 := fun d os => cell_regrown (heap_cell q17 2 _ rfl) d os
        refine wp_region_quiet_below (by kernel_rfl) (by kernel_rfl) ?_
        repeat (first | go_big_quiet_step (first | with_reducible exact cF.out _ _) | quiet_step (first | with_reducible exact cF.out _ _))
        refine wpQuiet_nil ?_
        intro _ hw'
        obtain ⟨⟨dq, osq⟩, hw''⟩ := hw'
        subst hw''
        go_wp2_with fail
        go_meet
        case rel => exact ⟨rfl, below_regrown _ dq osq⟩
      · have g1 : decide (0 < n) = false := decide_eq_false (by omega)
        have k0 := fun d os => cell_regrown (heap_cell q15 0 _ rfl) d os
        refine wp_region_quiet_below (by kernel_rfl) (by kernel_rfl) ?_
        repeat (first | go_big_quiet_step (first | fail) | quiet_step (first | fail))
        refine wpQuiet_nil ?_
        intro _ hw'
        obtain ⟨⟨dq, osq⟩, hw''⟩ := hw'
        subst hw''
        go_wp2_with fail
        go_meet
        case rel => exact ⟨rfl, below_regrown _ dq osq⟩
    · have g1 : (z == 0) = false := by simp only [beq_eq_false_iff_ne, ne_eq]; exact z0
      refine wp_region_quiet_below (by kernel_rfl) (by kernel_rfl) ?_
      repeat (first | go_big_quiet_step (first | fail) | quiet_step (first | fail))
      refine wpQuiet_nil ?_
      intro _ hw'
      obtain ⟨⟨dq, osq⟩, hw''⟩ := hw'
      subst hw''
      go_wp2_with fail
      go_meet
      case rel => exact ⟨rfl, below_regrown _ dq osq⟩
  case rest =>
    obtain ⟨rfl, hbc⟩ := hcut
    have q7 := heap_on hbc q7
    have q11 := heap_on hbc q11
    have q19 := heap_on hbc q19
    have hb9 := below_on hb8 hbc
    obtain ⟨w9, hw11⟩ : ∃ x, x = wc := ⟨_, rfl⟩
    subst hw11
    clear hbc q8 q15 q17 q20 hb8
    go_upto_region 9 with fail
    go_cut [115] (fun r w' => r = .bool false ∧ Below w9.heap.size w9 w')
    case first =>
      have cS := Lib.hid (fun d os => Calls.regrown_of (H4.out (Sort.grow (redrawn w9 d) os) (hE.on (below_on hb9 (below_regrown w9 d os))) (hS6.on (below_on hb9 (below_regrown w9 d os)))))
      have k0 := fun d os => cell_regrown (heap_cell q19 0 _ rfl) d os
      have k1 := fun d os => cell_regrown (heap_cell q19 1 _ rfl) d os
      have k2 := fun d os => cell_regrown (heap_cell q19 2 _ rfl) d os
      have k3 := fun d os => cell_regrown (heap_cell q19 3 _ rfl) d os
      have k4 := fun d os => cell_regrown (heap_cell q11 0 _ rfl) d os
      have k5 := fun d os => cell_regrown (heap_cell q11 1 _ rfl) d os
      have k6 := fun d os => cell_regrown (heap_cell q7 0 _ rfl) d os
      by_cases y0 : y = 0
      · obtain ⟨i0, i1, i2⟩ := F4.out y0
        subst y0
        obtain ⟨j, rfl⟩ : ∃ j : Nat, i = (j : Int) := ⟨i.toNat, by omega⟩
        rw [Int.toNat_natCast] at i2
        have g1 : decide ((j : Int) < 0) = false := decide_eq_false (by omega)
        have g2 : decide (n ≤ j) = false := decide_eq_false (by omega)
        obtain ⟨e1, e2, e3⟩ := hG.2 _ (entAt_mem (l := lb) (i := j) (by omega))
        have h8 := fun w' hE => text_any (entAt lb j).1 (entAt lb j).2 w' hE (by omega) (by omega) (by omega)
        rw [show ((entAt lb j).1, (entAt lb j).2) = entAt lb j from rfl, ← i2] at h8
        have h6 := H6.out
        generalize textE (kx, vx) = T1 at h6 h8
        obtain ⟨b, off, rfl, hbl, hcs⟩ := hS.cells (by omega)
        obtain ⟨e0, e1⟩ := hcs j (by omega)
        generalize entAt lb j = en at e0 e1 h8
        obtain ⟨ky, vl⟩ := en
        simp only at e0 e1 h8
        rw [← hb9.cell (p := ⟨b, off + j * 2, none⟩) hbl] at e0
        rw [← hb9.cell (p := ⟨b, off + j * 2 + 1, none⟩) hbl] at e1
        have cT := Lib.hid (fun d os => Calls.regrown_of (h6 (Sort.grow (redrawn w9 d) os) (hE.on (below_on hb9 (below_regrown w9 d os)))))
        have cU := Lib.hid (fun d os => Calls.regrown_of (h8 (Sort.grow (redrawn w9 d) os) (hE.on (below_on hb9 (below_regrown w9 d os)))))
        clear h6 h8 hcs i2
        have k7 := fun d os => cell_regrown (e0) d os
        have k8 := fun d os => cell_regrown (e1) d os
        refine wp_region_quiet_below (by kernel_rfl) (by kernel_rfl) ?_
        repeat (first | go_big_quiet_step (first | with_reducible exact cS.out _ _ | with_reducible exact cU.out _ _ | with_reducible exact cT.out _ _) | quiet_step (first | with_reducible exact cS.out _ _ | with_reducible exact cU.out _ _ | with_reducible exact cT.out _ _))
        refine wpQuiet_nil ?_
        intro _ hw'
        obtain ⟨⟨dq, osq⟩, hw''⟩ := hw'
        subst hw''
        go_wp2_with fail
        go_meet
        case rel => exact ⟨rfl, below_regrown _ dq osq⟩
      · have g1 : (y == 0) = false := by simp only [beq_eq_false_iff_ne, ne_eq]; exact y0
        refine wp_region_quiet_below (by kernel_rfl) (by kernel_rfl) ?_
        repeat (first | go_big_quiet_step (first | with_reducible exact cS.out _ _) | quiet_step (first | with_reducible exact cS.out _ _))
        refine wpQuiet_nil ?_
        intro _ hw'
        obtain ⟨⟨dq, osq⟩, hw''⟩ := hw'
        subst hw''
        go_wp2_with fail
        go_meet
        case rel => exact ⟨rfl, below_regrown _ dq osq⟩
    case rest =>
      obtain ⟨rfl, hbc⟩ := hcut
      have q7 := heap_on hbc q7
      have q11 := heap_on hbc q11
      have q19 := heap_on hbc q19
      have hb10 := below_on hb9 hbc
      obtain ⟨w10, hw12⟩ : ∃ x, x = wc := ⟨_, rfl⟩
      subst hw12
      clear hbc hb9
      have dq7_0 := heap_cell q7 0 _ rfl
      go_wp2_with fail
      refine (H7.out w10 (hS.on hb10)).mono ?_
      rintro e w11 ⟨p, rfl, hM, _, hb11⟩
      have q7 := heap_on hb11 q7
      have q11 := heap_on hb11 q11
      have q19 := heap_on hb11 q19
      have hb11 := below_on hb10 hb11
      clear hb10
      clear dq7_0
      have dq19_0 := heap_cell q19 0 _ rfl
      have dq19_1 := heap_cell q19 1 _ rfl
      have dq19_2 := heap_cell q19 2 _ rfl
      have dq19_3 := heap_cell q19 3 _ rfl
      have dq11_1 := heap_cell q11 1 _ rfl
      obtain ⟨V, hV⟩ : ∃ v, valS (valsD lb) i = v := ⟨_, rfl⟩
      obtain ⟨T, hT⟩ : ∃ v, (valD (valsD lb) i).isSome = v := ⟨_, rfl⟩
      have f5 := F5.out
      rw [hV, hT] at f5
      have F6 := Lib.hid f5
      have KV := Lib.hid hV
      have KT := Lib.hid hT
      clear f5 hV hT F5
      go_wp2_with (at_lookup; refine wpList_look _ rfl _ _ rfl (some p) (valsD lb) rfl hM i rfl (by omega) (by omega) ?_; rw [KV.out, KT.out])
      refine (H5.out w11 (hE.on hb11) (hS3.on hb11)).mono ?_
      rintro e w12 ⟨rfl, hb12⟩
      have q7 := heap_on hb12 q7
      have q11 := heap_on hb12 q11
      have q19 := heap_on hb12 q19
      have hM := hM.on hb12
      have hb12 := below_on hb11 hb12
      clear hb11
      have e11 := heap_cell q11 1 _ rfl
      by_cases f0 : zf = 0
      · obtain ⟨rfl, rfl⟩ := F6.out f0
        subst f0
        have hTT : ∀ b : Bool, (b == b) = true := by simp
        have hUU : ∀ v : ByteArray, (v.toList == v.toList) = true := by simp
        go_wp2_with fail
        go_ret
        exact ⟨rfl, hb12⟩
      · have g1 : (zf == 0) = false := by simp only [beq_eq_false_iff_ne, ne_eq]; exact f0
        go_wp2_with fail
        go_ret
        exact ⟨rfl, hb12⟩

theorem clientTrue_walk (lb : List EntB) (a : Option Addr) (n c : Nat) (lo : List EntB) (a2 : Option Addr) (n2 c2 : Nat) (ls : List ByteArray) (a3 : Option Addr) (n3 c3 : Nat) (i : Int) (kx : Int) (vx : ByteArray) (ss : List StepB) (a6 : Option Addr) (n6 c6 : Nat) (t : Bool) (w : World) (hE : Tab w) (hn : lb.length = n) (hS : EntsAt w a c lb) (_ : n ≤ 8796093022208) (_ : ∀ e ∈ lb, e.2.size ≤ 140737488355328) (hn2 : lo.length = n2) (hS2 : EntsAt w a2 c2 lo) (_ : n2 ≤ 8796093022208) (_ : ∀ e ∈ lo, e.2.size ≤ 140737488355328) (hn3 : ls.length = n3) (hS3 : StrsAt w a3 c3 ls) (hi : -9223372036854775808 ≤ i) (hi' : i ≤ 9223372036854775807) (hx : WideEnt (kx, vx)) (hv : vx.size ≤ 140737488355328) (hn6 : ss.length = n6) (hS6 : StepsAt w a6 c6 ss) (_ : ∀ s ∈ ss, s.2.size ≤ 140737488355328) :
    Calls Tryd.prog 4 #[.agg #[.slice a n c], .agg #[.slice a2 n2 c2], .slice a3 n3 c3, .int .i64 i, .agg #[.int .i64 kx, .string vx], .slice a6 n6 c6, .bool t] w fun e w' => e = .returned (.bool true) ∧ Below w.heap.size w w' := by
  by_cases h : bookE lb = 0
  · by_cases h2 : bookE lo = 0
    · exact clientTrue_ok lb a n c lo a2 n2 c2 ls a3 n3 c3 i kx vx ss a6 n6 c6 t w hE hn hS hn2 hS2 hn3 hS3 hi hi' hx hv hn6 hS6 ((bookE_iff lb).1 h) ((bookE_iff lo).1 h2)
    · exact clientTrue_bad lb a n c lo a2 n2 c2 a3 n3 c3 i kx vx a6 n6 c6 t w hE hn hS hn2 hS2 (.inr h2)
  · exact clientTrue_bad lb a n c lo a2 n2 c2 a3 n3 c3 i kx vx a6 n6 c6 t w hE hn hS hn2 hS2 (.inl h)
end Go.Proofs.YtolgikojliedlaeDoor
