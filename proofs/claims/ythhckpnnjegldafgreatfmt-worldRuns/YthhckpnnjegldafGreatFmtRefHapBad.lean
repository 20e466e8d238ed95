/-
  Chapter 11's Do as the document's own reckoning has it: a happening that isn't right.
-/
import Derived.Test.YthhckpnnjegldafGreatFmtRefFresh
import Derived.Test.YthhckpnnjegldafGreatFmtRefIn
namespace Go.Proofs.YthhckpnnjegldafGreatFmt
open Go Go.RowKit Go.Kit Go.Extern.Stop Go.Stop Go.Extern

set_option maxRecDepth 100000 in
theorem happenedBad_any (z : Int) (w : World) : Calls Tryz.prog 27 #[.int .i64 z] w fun e w' => e = .returned (.tuple #[.agg #[.slice none 0 0, .slice none 0 0, .slice none 0 0], .int .i64 z]) ∧ Below w.heap.size w w' := by
  have q := heap_push w (.cells #[.slice none 0 0, .slice none 0 0, .slice none 0 0] 28)
  have hb : Below w.heap.size w (w.alloc (.cells #[.slice none 0 0, .slice none 0 0, .slice none 0 0] 28)) := (Below.refl _ _).alloc (Nat.le_refl _) _
  go_enter Tryz.func27, Tryz.ntmps27
  go_wp2_with (refine wpList_store_row rfl 28 (.tmp 2) (.tmp 4) rfl w.heap.size #[.slice none 0 0, .slice none 0 0, .slice none 0 0] rfl rfl _ _ q (by kernel_rfl) rfl (three_cells _ _ _ _ _ _ _ _ _) ?_)
  refine bodyPost_ret (results_row_tmp rfl _ _ w.heap.size _ _ _ _ rfl (setRow_heap _ _ _ _ _ _ q) Tryz.underlying28 rfl (by kernel_rfl)) rfl ?_
  exact ⟨rfl, below_setRow hb (Nat.le_refl _) _⟩

set_option maxHeartbeats 2000000 in
set_option maxRecDepth 100000 in
theorem happened_form (a0 : Option Addr) (n0 c0 : Nat) (a1 : Option Addr) (n1 c1 : Nat) (a2 : Option Addr) (n2 c2 : Nat) (xk xs xw xo xe : Int) (xv : ByteArray) (w : World) (hk : ¬ (1 ≤ xk ∧ xk ≤ 5)) :
    Calls Tryz.prog 13 #[.agg #[.slice a0 n0 c0, .slice a1 n1 c1, .slice a2 n2 c2], .agg #[.int .i64 xk, .int .i64 xs, .int .i64 xw, .int .i64 xo, .int .i64 xe, .string xv]] w fun e w' => e = .returned (.tuple #[.agg #[.slice none 0 0, .slice none 0 0, .slice none 0 0], .int .i64 4]) ∧ Below w.heap.size w w' := by
  obtain ⟨q2, q3, q4, _⟩ := boxes3 w (.cells #[.slice a0 n0 c0, .slice a1 n1 c1, .slice a2 n2 c2] 28) (.cells #[.int .i64 xk, .int .i64 xs, .int .i64 xw, .int .i64 xo, .int .i64 xe, .string xv] 32) (.cells #[.slice none 0 0, .slice none 0 0, .slice none 0 0] 28)
  have hb0 := below3 w (.cells #[.slice a0 n0 c0, .slice a1 n1 c1, .slice a2 n2 c2] 28) (.cells #[.int .i64 xk, .int .i64 xs, .int .i64 xw, .int .i64 xo, .int .i64 xe, .string xv] 32) (.cells #[.slice none 0 0, .slice none 0 0, .slice none 0 0] 28)
  have d3_0 := heap_cell q3 0 _ rfl
  go_enter Tryz.func13, Tryz.ntmps13
  go_wp2_with fail
  generalize (((w.alloc (.cells #[.slice a0 n0 c0, .slice a1 n1 c1, .slice a2 n2 c2] 28)).alloc (.cells #[.int .i64 xk, .int .i64 xs, .int .i64 xw, .int .i64 xo, .int .i64 xe, .string xv] 32)).alloc (.cells #[.slice none 0 0, .slice none 0 0, .slice none 0 0] 28)) = w0 at q2 q3 q4 hb0 d3_0 ⊢
  refine (in_no xk 1 5 w0 (by omega)).mono ?_
  rintro e _ ⟨rfl, rfl⟩
  clear d3_0
  go_wp2_with fail
  refine (happenedBad_any 4 w0).mono ?_
  rintro e w1 ⟨rfl, hb1⟩
  have q2 := heap_on hb1 q2
  have q3 := heap_on hb1 q3
  have q4 := heap_on hb1 q4
  have hb1 := below_on hb0 hb1
  clear hb0
  go_wp2_with (refine wpList_store_row rfl 28 (.tmp 4) (.tmp 29) rfl (w.heap.size + 1 + 1) #[.slice none 0 0, .slice none 0 0, .slice none 0 0] rfl rfl _ _ q4 (by kernel_rfl) rfl (three_cells _ _ _ _ _ _ _ _ _) ?_)
  have hbz := below_setRow hb1 (g := w.heap.size + 1 + 1) (by omega) #[.slice none 0 0, .slice none 0 0, .slice none 0 0]
  refine bodyPost_ret (results_row_tmp rfl _ _ (w.heap.size + 1 + 1) _ _ _ _ rfl (setRow_heap _ _ _ _ _ _ q4) Tryz.underlying28 rfl (by kernel_rfl)) rfl ?_
  exact ⟨rfl, hbz⟩

set_option maxHeartbeats 2000000 in
set_option maxRecDepth 100000 in
theorem happened_side (a0 : Option Addr) (n0 c0 : Nat) (a1 : Option Addr) (n1 c1 : Nat) (a2 : Option Addr) (n2 c2 : Nat) (xk xs xw xo xe : Int) (xv : ByteArray) (w : World) (hk : 1 ≤ xk ∧ xk ≤ 5) (hs : ¬ (0 ≤ xs ∧ xs ≤ 1)) :
    Calls Tryz.prog 13 #[.agg #[.slice a0 n0 c0, .slice a1 n1 c1, .slice a2 n2 c2], .agg #[.int .i64 xk, .int .i64 xs, .int .i64 xw, .int .i64 xo, .int .i64 xe, .string xv]] w fun e w' => e = .returned (.tuple #[.agg #[.slice none 0 0, .slice none 0 0, .slice none 0 0], .int .i64 5]) ∧ Below w.heap.size w w' := by
  obtain ⟨q2, q3, q4, _⟩ := boxes3 w (.cells #[.slice a0 n0 c0, .slice a1 n1 c1, .slice a2 n2 c2] 28) (.cells #[.int .i64 xk, .int .i64 xs, .int .i64 xw, .int .i64 xo, .int .i64 xe, .string xv] 32) (.cells #[.slice none 0 0, .slice none 0 0, .slice none 0 0] 28)
  have hb0 := below3 w (.cells #[.slice a0 n0 c0, .slice a1 n1 c1, .slice a2 n2 c2] 28) (.cells #[.int .i64 xk, .int .i64 xs, .int .i64 xw, .int .i64 xo, .int .i64 xe, .string xv] 32) (.cells #[.slice none 0 0, .slice none 0 0, .slice none 0 0] 28)
  have d3_0 := heap_cell q3 0 _ rfl
  have d3_1 := heap_cell q3 1 _ rfl
  have d3_2 := heap_cell q3 2 _ rfl
  have d3_3 := heap_cell q3 3 _ rfl
  go_enter Tryz.func13, Tryz.ntmps13
  go_wp2_with fail
  generalize (((w.alloc (.cells #[.slice a0 n0 c0, .slice a1 n1 c1, .slice a2 n2 c2] 28)).alloc (.cells #[.int .i64 xk, .int .i64 xs, .int .i64 xw, .int .i64 xo, .int .i64 xe, .string xv] 32)).alloc (.cells #[.slice none 0 0, .slice none 0 0, .slice none 0 0] 28)) = w0 at q2 q3 q4 hb0 d3_0 d3_1 d3_2 d3_3 ⊢
  refine (in_yes xk 1 5 w0 hk.1 hk.2).mono ?_
  rintro e _ ⟨rfl, rfl⟩
  go_wp2_with fail
  refine (in_no xs 0 1 w0 (by omega)).mono ?_
  rintro e _ ⟨rfl, rfl⟩
  go_wp2_with fail
  clear d3_0 d3_1 d3_2 d3_3
  refine (happenedBad_any 5 w0).mono ?_
  rintro e w1 ⟨rfl, hb1⟩
  have q2 := heap_on hb1 q2
  have q3 := heap_on hb1 q3
  have q4 := heap_on hb1 q4
  have hb1 := below_on hb0 hb1
  clear hb0
  go_wp2_with (refine wpList_store_row rfl 28 (.tmp 4) (.tmp 49) rfl (w.heap.size + 1 + 1) #[.slice none 0 0, .slice none 0 0, .slice none 0 0] rfl rfl _ _ q4 (by kernel_rfl) rfl (three_cells _ _ _ _ _ _ _ _ _) ?_)
  have hbz := below_setRow hb1 (g := w.heap.size + 1 + 1) (by omega) #[.slice none 0 0, .slice none 0 0, .slice none 0 0]
  refine bodyPost_ret (results_row_tmp rfl _ _ (w.heap.size + 1 + 1) _ _ _ _ rfl (setRow_heap _ _ _ _ _ _ q4) Tryz.underlying28 rfl (by kernel_rfl)) rfl ?_
  exact ⟨rfl, hbz⟩

set_option maxHeartbeats 2000000 in
set_option maxRecDepth 100000 in
theorem happened_who (a0 : Option Addr) (n0 c0 : Nat) (a1 : Option Addr) (n1 c1 : Nat) (a2 : Option Addr) (n2 c2 : Nat) (xk xs xw xo xe : Int) (xv : ByteArray) (w : World) (hk : 1 ≤ xk ∧ xk ≤ 5) (hs : 0 ≤ xs ∧ xs ≤ 1) (hw : ¬ (0 ≤ xw ∧ xw ≤ 2)) :
    Calls Tryz.prog 13 #[.agg #[.slice a0 n0 c0, .slice a1 n1 c1, .slice a2 n2 c2], .agg #[.int .i64 xk, .int .i64 xs, .int .i64 xw, .int .i64 xo, .int .i64 xe, .string xv]] w fun e w' => e = .returned (.tuple #[.agg #[.slice none 0 0, .slice none 0 0, .slice none 0 0], .int .i64 5]) ∧ Below w.heap.size w w' := by
  obtain ⟨q2, q3, q4, _⟩ := boxes3 w (.cells #[.slice a0 n0 c0, .slice a1 n1 c1, .slice a2 n2 c2] 28) (.cells #[.int .i64 xk, .int .i64 xs, .int .i64 xw, .int .i64 xo, .int .i64 xe, .string xv] 32) (.cells #[.slice none 0 0, .slice none 0 0, .slice none 0 0] 28)
  have hb0 := below3 w (.cells #[.slice a0 n0 c0, .slice a1 n1 c1, .slice a2 n2 c2] 28) (.cells #[.int .i64 xk, .int .i64 xs, .int .i64 xw, .int .i64 xo, .int .i64 xe, .string xv] 32) (.cells #[.slice none 0 0, .slice none 0 0, .slice none 0 0] 28)
  have d3_0 := heap_cell q3 0 _ rfl
  have d3_1 := heap_cell q3 1 _ rfl
  have d3_2 := heap_cell q3 2 _ rfl
  have d3_3 := heap_cell q3 3 _ rfl
  go_enter Tryz.func13, Tryz.ntmps13
  go_wp2_with fail
  generalize (((w.alloc (.cells #[.slice a0 n0 c0, .slice a1 n1 c1, .slice a2 n2 c2] 28)).alloc (.cells #[.int .i64 xk, .int .i64 xs, .int .i64 xw, .int .i64 xo, .int .i64 xe, .string xv] 32)).alloc (.cells #[.slice none 0 0, .slice none 0 0, .slice none 0 0] 28)) = w0 at q2 q3 q4 hb0 d3_0 d3_1 d3_2 d3_3 ⊢
  refine (in_yes xk 1 5 w0 hk.1 hk.2).mono ?_
  rintro e _ ⟨rfl, rfl⟩
  go_wp2_with fail
  refine (in_yes xs 0 1 w0 hs.1 hs.2).mono ?_
  rintro e _ ⟨rfl, rfl⟩
  go_wp2_with fail
  refine (in_no xw 0 2 w0 (by omega)).mono ?_
  rintro e _ ⟨rfl, rfl⟩
  go_wp2_with fail
  clear d3_0 d3_1 d3_2 d3_3
  refine (happenedBad_any 5 w0).mono ?_
  rintro e w1 ⟨rfl, hb1⟩
  have q2 := heap_on hb1 q2
  have q3 := heap_on hb1 q3
  have q4 := heap_on hb1 q4
  have hb1 := below_on hb0 hb1
  clear hb0
  go_wp2_with (refine wpList_store_row rfl 28 (.tmp 4) (.tmp 49) rfl (w.heap.size + 1 + 1) #[.slice none 0 0, .slice none 0 0, .slice none 0 0] rfl rfl _ _ q4 (by kernel_rfl) rfl (three_cells _ _ _ _ _ _ _ _ _) ?_)
  have hbz := below_setRow hb1 (g := w.heap.size + 1 + 1) (by omega) #[.slice none 0 0, .slice none 0 0, .slice none 0 0]
  refine bodyPost_ret (results_row_tmp rfl _ _ (w.heap.size + 1 + 1) _ _ _ _ rfl (setRow_heap _ _ _ _ _ _ q4) Tryz.underlying28 rfl (by kernel_rfl)) rfl ?_
  exact ⟨rfl, hbz⟩

set_option maxHeartbeats 2000000 in
set_option maxRecDepth 100000 in
theorem happened_other (a0 : Option Addr) (n0 c0 : Nat) (a1 : Option Addr) (n1 c1 : Nat) (a2 : Option Addr) (n2 c2 : Nat) (xk xs xw xo xe : Int) (xv : ByteArray) (w : World) (hk : 1 ≤ xk ∧ xk ≤ 5) (hs : 0 ≤ xs ∧ xs ≤ 1) (hw : 0 ≤ xw ∧ xw ≤ 2) (ho : ¬ (0 ≤ xo ∧ xo ≤ 2)) :
    Calls Tryz.prog 13 #[.agg #[.slice a0 n0 c0, .slice a1 n1 c1, .slice a2 n2 c2], .agg #[.int .i64 xk, .int .i64 xs, .int .i64 xw, .int .i64 xo, .int .i64 xe, .string xv]] w fun e w' => e = .returned (.tuple #[.agg #[.slice none 0 0, .slice none 0 0, .slice none 0 0], .int .i64 5]) ∧ Below w.heap.size w w' := by
  obtain ⟨q2, q3, q4, _⟩ := boxes3 w (.cells #[.slice a0 n0 c0, .slice a1 n1 c1, .slice a2 n2 c2] 28) (.cells #[.int .i64 xk, .int .i64 xs, .int .i64 xw, .int .i64 xo, .int .i64 xe, .string xv] 32) (.cells #[.slice none 0 0, .slice none 0 0, .slice none 0 0] 28)
  have hb0 := below3 w (.cells #[.slice a0 n0 c0, .slice a1 n1 c1, .slice a2 n2 c2] 28) (.cells #[.int .i64 xk, .int .i64 xs, .int .i64 xw, .int .i64 xo, .int .i64 xe, .string xv] 32) (.cells #[.slice none 0 0, .slice none 0 0, .slice none 0 0] 28)
  have d3_0 := heap_cell q3 0 _ rfl
  have d3_1 := heap_cell q3 1 _ rfl
  have d3_2 := heap_cell q3 2 _ rfl
  have d3_3 := heap_cell q3 3 _ rfl
  go_enter Tryz.func13, Tryz.ntmps13
  go_wp2_with fail
  generalize (((w.alloc (.cells #[.slice a0 n0 c0, .slice a1 n1 c1, .slice a2 n2 c2] 28)).alloc (.cells #[.int .i64 xk, .int .i64 xs, .int .i64 xw, .int .i64 xo, .int .i64 xe, .string xv] 32)).alloc (.cells #[.slice none 0 0, .slice none 0 0, .slice none 0 0] 28)) = w0 at q2 q3 q4 hb0 d3_0 d3_1 d3_2 d3_3 ⊢
  refine (in_yes xk 1 5 w0 hk.1 hk.2).mono ?_
  rintro e _ ⟨rfl, rfl⟩
  go_wp2_with fail
  refine (in_yes xs 0 1 w0 hs.1 hs.2).mono ?_
  rintro e _ ⟨rfl, rfl⟩
  go_wp2_with fail
  refine (in_yes xw 0 2 w0 hw.1 hw.2).mono ?_
  rintro e _ ⟨rfl, rfl⟩
  go_wp2_with fail
  refine (in_no xo 0 2 w0 (by omega)).mono ?_
  rintro e _ ⟨rfl, rfl⟩
  go_wp2_with fail
  clear d3_0 d3_1 d3_2 d3_3
  refine (happenedBad_any 5 w0).mono ?_
  rintro e w1 ⟨rfl, hb1⟩
  have q2 := heap_on hb1 q2
  have q3 := heap_on hb1 q3
  have q4 := heap_on hb1 q4
  have hb1 := below_on hb0 hb1
  clear hb0
  go_wp2_with (refine wpList_store_row rfl 28 (.tmp 4) (.tmp 49) rfl (w.heap.size + 1 + 1) #[.slice none 0 0, .slice none 0 0, .slice none 0 0] rfl rfl _ _ q4 (by kernel_rfl) rfl (three_cells _ _ _ _ _ _ _ _ _) ?_)
  have hbz := below_setRow hb1 (g := w.heap.size + 1 + 1) (by omega) #[.slice none 0 0, .slice none 0 0, .slice none 0 0]
  refine bodyPost_ret (results_row_tmp rfl _ _ (w.heap.size + 1 + 1) _ _ _ _ rfl (setRow_heap _ _ _ _ _ _ q4) Tryz.underlying28 rfl (by kernel_rfl)) rfl ?_
  exact ⟨rfl, hbz⟩

end Go.Proofs.YthhckpnnjegldafGreatFmt
