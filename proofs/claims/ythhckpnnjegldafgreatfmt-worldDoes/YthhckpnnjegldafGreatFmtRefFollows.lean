/-
  Chapter 9's Follow as the document's own reckoning has it.
-/
import Derived.Test.YthhckpnnjegldafGreatFmtClient
import Derived.Test.YthhckpnnjegldafGreatFmtRefNote
import Derived.Test.YthhckpnnjegldafGreatFmtGrowthShowsOf
namespace Go.Proofs.YthhckpnnjegldafGreatFmt
open Go Go.RowKit Go.Kit Go.Extern.Stop Go.Stop Go.Extern

set_option maxHeartbeats 1000000 in
set_option maxRecDepth 100000 in
theorem follows_c (cn : Int) (ca cb : ByteArray) (cf : Bool) (hn : Int) (ha hb : ByteArray) (x : List ByteArray) (a : Option Addr) (k c : Nat) (w : World) (hS : StrsAt w a c x) (z : Int) (hz : headE cn ca cb = z) (h0 : z ≠ 0) :
    Calls Tryz.prog 32 #[.agg #[.int .i64 cn, .string ca, .string cb, .bool cf], .agg #[.int .i64 hn, .string ha, .string hb], .slice a k c] w fun e w' => e = .returned (.tuple #[.agg #[.int .i64 0, .string ⟨#[]⟩, .string ⟨#[]⟩, .bool false], .int .i64 z]) ∧ Below w.heap.size w w' := by
  have HC := Lib.hid (checkHead_any cn ca cb)
  have HH := Lib.hid (checkHead_any hn ha hb)
  rw [hz] at HC
  have hz1 : (z == 0) = false := by simp only [beq_eq_false_iff_ne, ne_eq]; exact h0
  clear hz HH
  have hcap := hS.cap
  have hmax := hS.max
  obtain ⟨q3, q4, q6, _⟩ := boxes3 w (.cells #[.int .i64 cn, .string ca, .string cb, .bool cf] 55) (.cells #[.int .i64 hn, .string ha, .string hb] 53) (.cells #[.int .i64 0, .string ⟨#[]⟩, .string ⟨#[]⟩, .bool false] 55)
  have hb0 := below3 w (.cells #[.int .i64 cn, .string ca, .string cb, .bool cf] 55) (.cells #[.int .i64 hn, .string ha, .string hb] 53) (.cells #[.int .i64 0, .string ⟨#[]⟩, .string ⟨#[]⟩, .bool false] 55)
  have dq3_0 := heap_cell q3 0 _ rfl
  have dq3_1 := heap_cell q3 1 _ rfl
  have dq3_2 := heap_cell q3 2 _ rfl
  go_enter Tryz.func32, Tryz.ntmps32
  go_wp2_with fail
  generalize (((w.alloc (.cells #[.int .i64 cn, .string ca, .string cb, .bool cf] 55)).alloc (.cells #[.int .i64 hn, .string ha, .string hb] 53)).alloc (.cells #[.int .i64 0, .string ⟨#[]⟩, .string ⟨#[]⟩, .bool false] 55)) = w0 at q3 q4 q6 hb0 dq3_0 dq3_1 dq3_2 ⊢
  refine (HC.out w0).mono ?_
  rintro e w1 ⟨rfl, hb1⟩
  have q3 := heap_on hb1 q3
  have q4 := heap_on hb1 q4
  have q6 := heap_on hb1 q6
  have hb1 := below_on hb0 hb1
  clear hb0
  clear dq3_0 dq3_1 dq3_2
  go_wp2_with (refine wpList_store_row rfl 55 (.tmp 6) (.tmp 29) rfl (w.heap.size + 1 + 1) #[.int .i64 0, .string ⟨#[]⟩, .string ⟨#[]⟩, .bool false] rfl rfl _ _ q6 (by kernel_rfl) rfl (client_cells _ _ _ _) ?_)
  have hbz := below_setRow hb1 (g := w.heap.size + 1 + 1) (by omega) #[.int .i64 0, .string ⟨#[]⟩, .string ⟨#[]⟩, .bool false]
  refine bodyPost_ret (results_row_tmp rfl _ _ (w.heap.size + 1 + 1) _ _ _ _ rfl (setRow_heap _ _ _ _ _ _ q6) Tryz.underlying55 rfl (by kernel_rfl)) rfl ?_
  exact ⟨rfl, hbz⟩

set_option maxHeartbeats 1000000 in
set_option maxRecDepth 100000 in
theorem follows_h (cn : Int) (ca cb : ByteArray) (cf : Bool) (hn : Int) (ha hb : ByteArray) (x : List ByteArray) (a : Option Addr) (k c : Nat) (w : World) (hS : StrsAt w a c x) (hc : headE cn ca cb = 0) (z : Int) (hz : headE hn ha hb = z) (h0 : z ≠ 0) :
    Calls Tryz.prog 32 #[.agg #[.int .i64 cn, .string ca, .string cb, .bool cf], .agg #[.int .i64 hn, .string ha, .string hb], .slice a k c] w fun e w' => e = .returned (.tuple #[.agg #[.int .i64 0, .string ⟨#[]⟩, .string ⟨#[]⟩, .bool false], .int .i64 z]) ∧ Below w.heap.size w w' := by
  have HC := Lib.hid (checkHead_any cn ca cb)
  have HH := Lib.hid (checkHead_any hn ha hb)
  rw [hc] at HC
  rw [hz] at HH
  have hz1 : (z == 0) = false := by simp only [beq_eq_false_iff_ne, ne_eq]; exact h0
  clear hz hc
  have hcap := hS.cap
  have hmax := hS.max
  obtain ⟨q3, q4, q6, _⟩ := boxes3 w (.cells #[.int .i64 cn, .string ca, .string cb, .bool cf] 55) (.cells #[.int .i64 hn, .string ha, .string hb] 53) (.cells #[.int .i64 0, .string ⟨#[]⟩, .string ⟨#[]⟩, .bool false] 55)
  have hb0 := below3 w (.cells #[.int .i64 cn, .string ca, .string cb, .bool cf] 55) (.cells #[.int .i64 hn, .string ha, .string hb] 53) (.cells #[.int .i64 0, .string ⟨#[]⟩, .string ⟨#[]⟩, .bool false] 55)
  have dq3_0 := heap_cell q3 0 _ rfl
  have dq3_1 := heap_cell q3 1 _ rfl
  have dq3_2 := heap_cell q3 2 _ rfl
  go_enter Tryz.func32, Tryz.ntmps32
  go_wp2_with fail
  generalize (((w.alloc (.cells #[.int .i64 cn, .string ca, .string cb, .bool cf] 55)).alloc (.cells #[.int .i64 hn, .string ha, .string hb] 53)).alloc (.cells #[.int .i64 0, .string ⟨#[]⟩, .string ⟨#[]⟩, .bool false] 55)) = w0 at q3 q4 q6 hb0 dq3_0 dq3_1 dq3_2 ⊢
  refine (HC.out w0).mono ?_
  rintro e w1 ⟨rfl, hb1⟩
  have q3 := heap_on hb1 q3
  have q4 := heap_on hb1 q4
  have q6 := heap_on hb1 q6
  have hb1 := below_on hb0 hb1
  clear hb0
  clear dq3_0 dq3_1 dq3_2
  have dq4_0 := heap_cell q4 0 _ rfl
  have dq4_1 := heap_cell q4 1 _ rfl
  have dq4_2 := heap_cell q4 2 _ rfl
  go_wp2_with fail
  refine (HH.out w1).mono ?_
  rintro e w2 ⟨rfl, hb2⟩
  have q3 := heap_on hb2 q3
  have q4 := heap_on hb2 q4
  have q6 := heap_on hb2 q6
  have hb2 := below_on hb1 hb2
  clear hb1
  go_wp2_with (refine wpList_store_row rfl 55 (.tmp 6) (.tmp 29) rfl (w.heap.size + 1 + 1) #[.int .i64 0, .string ⟨#[]⟩, .string ⟨#[]⟩, .bool false] rfl rfl _ _ q6 (by kernel_rfl) rfl (client_cells _ _ _ _) ?_)
  have hbz := below_setRow hb2 (g := w.heap.size + 1 + 1) (by omega) #[.int .i64 0, .string ⟨#[]⟩, .string ⟨#[]⟩, .bool false]
  refine bodyPost_ret (results_row_tmp rfl _ _ (w.heap.size + 1 + 1) _ _ _ _ rfl (setRow_heap _ _ _ _ _ _ q6) Tryz.underlying55 rfl (by kernel_rfl)) rfl ?_
  exact ⟨rfl, hbz⟩

set_option maxHeartbeats 1000000 in
set_option maxRecDepth 100000 in
theorem follows_late (cn : Int) (ca cb : ByteArray) (cf : Bool) (hn : Int) (ha hb : ByteArray) (x : List ByteArray) (a : Option Addr) (k c : Nat) (w : World) (hS : StrsAt w a c x) (hc : headE cn ca cb = 0) (hh : headE hn ha hb = 0) (hl : hn < cn) :
    Calls Tryz.prog 32 #[.agg #[.int .i64 cn, .string ca, .string cb, .bool cf], .agg #[.int .i64 hn, .string ha, .string hb], .slice a k c] w fun e w' => e = .returned (.tuple #[.agg #[.int .i64 0, .string ⟨#[]⟩, .string ⟨#[]⟩, .bool false], .int .i64 6]) ∧ Below w.heap.size w w' := by
  have HC := Lib.hid (checkHead_any cn ca cb)
  have HH := Lib.hid (checkHead_any hn ha hb)
  rw [hc] at HC
  rw [hh] at HH
  clear hc hh
  have hcap := hS.cap
  have hmax := hS.max
  obtain ⟨q3, q4, q6, _⟩ := boxes3 w (.cells #[.int .i64 cn, .string ca, .string cb, .bool cf] 55) (.cells #[.int .i64 hn, .string ha, .string hb] 53) (.cells #[.int .i64 0, .string ⟨#[]⟩, .string ⟨#[]⟩, .bool false] 55)
  have hb0 := below3 w (.cells #[.int .i64 cn, .string ca, .string cb, .bool cf] 55) (.cells #[.int .i64 hn, .string ha, .string hb] 53) (.cells #[.int .i64 0, .string ⟨#[]⟩, .string ⟨#[]⟩, .bool false] 55)
  have dq3_0 := heap_cell q3 0 _ rfl
  have dq3_1 := heap_cell q3 1 _ rfl
  have dq3_2 := heap_cell q3 2 _ rfl
  go_enter Tryz.func32, Tryz.ntmps32
  go_wp2_with fail
  generalize (((w.alloc (.cells #[.int .i64 cn, .string ca, .string cb, .bool cf] 55)).alloc (.cells #[.int .i64 hn, .string ha, .string hb] 53)).alloc (.cells #[.int .i64 0, .string ⟨#[]⟩, .string ⟨#[]⟩, .bool false] 55)) = w0 at q3 q4 q6 hb0 dq3_0 dq3_1 dq3_2 ⊢
  refine (HC.out w0).mono ?_
  rintro e w1 ⟨rfl, hb1⟩
  have q3 := heap_on hb1 q3
  have q4 := heap_on hb1 q4
  have q6 := heap_on hb1 q6
  have hb1 := below_on hb0 hb1
  clear hb0
  clear dq3_0 dq3_1 dq3_2
  have dq4_0 := heap_cell q4 0 _ rfl
  have dq4_1 := heap_cell q4 1 _ rfl
  have dq4_2 := heap_cell q4 2 _ rfl
  go_wp2_with fail
  refine (HH.out w1).mono ?_
  rintro e w2 ⟨rfl, hb2⟩
  have q3 := heap_on hb2 q3
  have q4 := heap_on hb2 q4
  have q6 := heap_on hb2 q6
  have hb2 := below_on hb1 hb2
  clear hb1
  have dq3_0 := heap_cell q3 0 _ rfl
  have e4 := heap_cell q4 0 _ rfl
  go_wp2_with (refine wpList_store_row rfl 55 (.tmp 6) (.tmp 29) rfl (w.heap.size + 1 + 1) #[.int .i64 0, .string ⟨#[]⟩, .string ⟨#[]⟩, .bool false] rfl rfl _ _ q6 (by kernel_rfl) rfl (client_cells _ _ _ _) ?_)
  have hbz := below_setRow hb2 (g := w.heap.size + 1 + 1) (by omega) #[.int .i64 0, .string ⟨#[]⟩, .string ⟨#[]⟩, .bool false]
  refine bodyPost_ret (results_row_tmp rfl _ _ (w.heap.size + 1 + 1) _ _ _ _ rfl (setRow_heap _ _ _ _ _ _ q6) Tryz.underlying55 rfl (by kernel_rfl)) rfl ?_
  exact ⟨rfl, hbz⟩

set_option maxHeartbeats 1000000 in
set_option maxRecDepth 100000 in
theorem follows_first (cn : Int) (ca cb : ByteArray) (cf : Bool) (hn : Int) (ha hb : ByteArray) (x : List ByteArray) (a : Option Addr) (k c : Nat) (w : World) (hS : StrsAt w a c x) (hc : headE cn ca cb = 0) (hh : headE hn ha hb = 0) (hl : ¬ hn < cn) (h0 : cn = 0) (hk0 : k = 0) :
    Calls Tryz.prog 32 #[.agg #[.int .i64 cn, .string ca, .string cb, .bool cf], .agg #[.int .i64 hn, .string ha, .string hb], .slice a k c] w fun e w' => e = .returned (.tuple #[.agg #[.int .i64 hn, .string ha, .string hb, .bool cf], .int .i64 0]) ∧ Below w.heap.size w w' := by
  have HC := Lib.hid (checkHead_any cn ca cb)
  have HH := Lib.hid (checkHead_any hn ha hb)
  rw [hc] at HC
  rw [hh] at HH
  obtain ⟨c1, c2, c3, c4⟩ := (headE_iff cn ca cb).1 hc
  clear hc hh
  have g1 : ¬ (0 : Int) < cn := by omega
  have g2 : (k : Int) = 0 := by omega
  clear c1 c2 h0 hk0
  have hcap := hS.cap
  have hmax := hS.max
  obtain ⟨q3, q4, q6, _⟩ := boxes3 w (.cells #[.int .i64 cn, .string ca, .string cb, .bool cf] 55) (.cells #[.int .i64 hn, .string ha, .string hb] 53) (.cells #[.int .i64 0, .string ⟨#[]⟩, .string ⟨#[]⟩, .bool false] 55)
  have hb0 := below3 w (.cells #[.int .i64 cn, .string ca, .string cb, .bool cf] 55) (.cells #[.int .i64 hn, .string ha, .string hb] 53) (.cells #[.int .i64 0, .string ⟨#[]⟩, .string ⟨#[]⟩, .bool false] 55)
  have dq3_0 := heap_cell q3 0 _ rfl
  have dq3_1 := heap_cell q3 1 _ rfl
  have dq3_2 := heap_cell q3 2 _ rfl
  go_enter Tryz.func32, Tryz.ntmps32
  go_wp2_with fail
  generalize (((w.alloc (.cells #[.int .i64 cn, .string ca, .string cb, .bool cf] 55)).alloc (.cells #[.int .i64 hn, .string ha, .string hb] 53)).alloc (.cells #[.int .i64 0, .string ⟨#[]⟩, .string ⟨#[]⟩, .bool false] 55)) = w0 at q3 q4 q6 hb0 dq3_0 dq3_1 dq3_2 ⊢
  refine (HC.out w0).mono ?_
  rintro e w1 ⟨rfl, hb1⟩
  have q3 := heap_on hb1 q3
  have q4 := heap_on hb1 q4
  have q6 := heap_on hb1 q6
  have hb1 := below_on hb0 hb1
  clear hb0
  clear dq3_0 dq3_1 dq3_2
  have dq4_0 := heap_cell q4 0 _ rfl
  have dq4_1 := heap_cell q4 1 _ rfl
  have dq4_2 := heap_cell q4 2 _ rfl
  go_wp2_with fail
  refine (HH.out w1).mono ?_
  rintro e w2 ⟨rfl, hb2⟩
  have q3 := heap_on hb2 q3
  have q4 := heap_on hb2 q4
  have q6 := heap_on hb2 q6
  have hb2 := below_on hb1 hb2
  clear hb1
  have e3_0 := heap_cell q3 0 _ rfl
  have e3_1 := heap_cell q3 1 _ rfl
  have e3_2 := heap_cell q3 2 _ rfl
  have e3_3 := heap_cell q3 3 _ rfl
  have e4_0 := heap_cell q4 0 _ rfl
  have e4_1 := heap_cell q4 1 _ rfl
  have e4_2 := heap_cell q4 2 _ rfl
  go_wp2_with (refine wpList_store_row rfl 55 (.tmp 6) (.tmp 74) rfl (w.heap.size + 1 + 1) #[.int .i64 hn, .string ha, .string hb, .bool cf] rfl rfl _ _ q6 (by kernel_rfl) rfl (client_cells _ _ _ _) ?_)
  have hbz := below_setRow hb2 (g := w.heap.size + 1 + 1) (by omega) #[.int .i64 hn, .string ha, .string hb, .bool cf]
  refine bodyPost_ret (results_row_tmp rfl _ _ (w.heap.size + 1 + 1) _ _ _ _ rfl (setRow_heap _ _ _ _ _ _ q6) Tryz.underlying55 rfl (by kernel_rfl)) rfl ?_
  exact ⟨rfl, hbz⟩

set_option maxHeartbeats 1000000 in
set_option maxRecDepth 100000 in
theorem follows_much (cn : Int) (ca cb : ByteArray) (cf : Bool) (hn : Int) (ha hb : ByteArray) (x : List ByteArray) (a : Option Addr) (k c : Nat) (w : World) (hS : StrsAt w a c x) (hc : headE cn ca cb = 0) (hh : headE hn ha hb = 0) (hl : ¬ hn < cn) (h0 : cn = 0) (hk0 : ¬ k = 0) :
    Calls Tryz.prog 32 #[.agg #[.int .i64 cn, .string ca, .string cb, .bool cf], .agg #[.int .i64 hn, .string ha, .string hb], .slice a k c] w fun e w' => e = .returned (.tuple #[.agg #[.int .i64 cn, .string ca, .string cb, .bool true], .int .i64 7]) ∧ Below w.heap.size w w' := by
  have HC := Lib.hid (checkHead_any cn ca cb)
  have HH := Lib.hid (checkHead_any hn ha hb)
  rw [hc] at HC
  rw [hh] at HH
  obtain ⟨c1, c2, c3, c4⟩ := (headE_iff cn ca cb).1 hc
  clear hc hh
  have g1 : ¬ (0 : Int) < cn := by omega
  have g2 : ¬ (k : Int) = 0 := by omega
  have g3 : ((k : Int) == 0) = false := by simp only [beq_eq_false_iff_ne, ne_eq]; exact g2
  clear c1 c2 h0
  have hcap := hS.cap
  have hmax := hS.max
  obtain ⟨q3, q4, q6, _⟩ := boxes3 w (.cells #[.int .i64 cn, .string ca, .string cb, .bool cf] 55) (.cells #[.int .i64 hn, .string ha, .string hb] 53) (.cells #[.int .i64 0, .string ⟨#[]⟩, .string ⟨#[]⟩, .bool false] 55)
  have hb0 := below3 w (.cells #[.int .i64 cn, .string ca, .string cb, .bool cf] 55) (.cells #[.int .i64 hn, .string ha, .string hb] 53) (.cells #[.int .i64 0, .string ⟨#[]⟩, .string ⟨#[]⟩, .bool false] 55)
  have dq3_0 := heap_cell q3 0 _ rfl
  have dq3_1 := heap_cell q3 1 _ rfl
  have dq3_2 := heap_cell q3 2 _ rfl
  go_enter Tryz.func32, Tryz.ntmps32
  go_wp2_with fail
  generalize (((w.alloc (.cells #[.int .i64 cn, .string ca, .string cb, .bool cf] 55)).alloc (.cells #[.int .i64 hn, .string ha, .string hb] 53)).alloc (.cells #[.int .i64 0, .string ⟨#[]⟩, .string ⟨#[]⟩, .bool false] 55)) = w0 at q3 q4 q6 hb0 dq3_0 dq3_1 dq3_2 ⊢
  refine (HC.out w0).mono ?_
  rintro e w1 ⟨rfl, hb1⟩
  have q3 := heap_on hb1 q3
  have q4 := heap_on hb1 q4
  have q6 := heap_on hb1 q6
  have hb1 := below_on hb0 hb1
  clear hb0
  clear dq3_0 dq3_1 dq3_2
  have dq4_0 := heap_cell q4 0 _ rfl
  have dq4_1 := heap_cell q4 1 _ rfl
  have dq4_2 := heap_cell q4 2 _ rfl
  go_wp2_with fail
  refine (HH.out w1).mono ?_
  rintro e w2 ⟨rfl, hb2⟩
  have q3 := heap_on hb2 q3
  have q4 := heap_on hb2 q4
  have q6 := heap_on hb2 q6
  have hb2 := below_on hb1 hb2
  clear hb1
  have e3_0 := heap_cell q3 0 _ rfl
  have e3_1 := heap_cell q3 1 _ rfl
  have e3_2 := heap_cell q3 2 _ rfl
  have e3_3 := heap_cell q3 3 _ rfl
  have e4_0 := heap_cell q4 0 _ rfl
  have e4_1 := heap_cell q4 1 _ rfl
  have e4_2 := heap_cell q4 2 _ rfl
  go_wp2_with (refine wpList_store_row rfl 55 (.tmp 6) (.tmp 70) rfl (w.heap.size + 1 + 1) #[.int .i64 cn, .string ca, .string cb, .bool true] rfl rfl _ _ q6 (by kernel_rfl) rfl (client_cells _ _ _ _) ?_)
  have hbz := below_setRow hb2 (g := w.heap.size + 1 + 1) (by omega) #[.int .i64 cn, .string ca, .string cb, .bool true]
  refine bodyPost_ret (results_row_tmp rfl _ _ (w.heap.size + 1 + 1) _ _ _ _ rfl (setRow_heap _ _ _ _ _ _ q6) Tryz.underlying55 rfl (by kernel_rfl)) rfl ?_
  exact ⟨rfl, hbz⟩

set_option maxHeartbeats 1000000 in
set_option maxRecDepth 100000 in
theorem follows_other (I : Interp) (cn : Int) (ca cb : ByteArray) (cf : Bool) (hn : Int) (ha hb : ByteArray) (x : List ByteArray) (a : Option Addr) (k c : Nat) (w : World) (hF : I.told.answers w.tape) (hk : x.length = k) (hS : StrsAt w a c x) (hbig : ∀ s ∈ x, s.size ≤ 140737488355328) (hc : headE cn ca cb = 0) (hh : headE hn ha hb = 0) (hl : ¬ hn < cn) (h0 : cn ≠ 0) (z : Int) (hz : growE ca cn ha hn x = z) (hz0 : z ≠ 0) (he : hn = cn) :
    Calls Tryz.prog 32 #[.agg #[.int .i64 cn, .string ca, .string cb, .bool cf], .agg #[.int .i64 hn, .string ha, .string hb], .slice a k c] w fun e w' => e = .returned (.tuple #[.agg #[.int .i64 cn, .string ca, .string cb, .bool true], .int .i64 7]) ∧ Below w.heap.size w w' := by
  have HC := Lib.hid (checkHead_any cn ca cb)
  have HH := Lib.hid (checkHead_any hn ha hb)
  rw [hc] at HC
  rw [hh] at HH
  obtain ⟨c1, c2, c3, c4⟩ := (headE_iff cn ca cb).1 hc
  clear hc hh
  have hg := fun w hF hS => growthShows_any I ca cn ha hn x a k c w hF (by omega) hbig hk hS
  rw [hz] at hg
  have HG := Lib.hid hg
  have g1 : (0 : Int) < cn := by omega
  clear hg c1 c2 h0
  have g2 : (z == 0) = false := by simp only [beq_eq_false_iff_ne, ne_eq]; exact hz0
  have g3 : (hn == cn) = true := by rw [he]; simp
  clear hz hz0 he
  have hcap := hS.cap
  have hmax := hS.max
  obtain ⟨q3, q4, q6, _⟩ := boxes3 w (.cells #[.int .i64 cn, .string ca, .string cb, .bool cf] 55) (.cells #[.int .i64 hn, .string ha, .string hb] 53) (.cells #[.int .i64 0, .string ⟨#[]⟩, .string ⟨#[]⟩, .bool false] 55)
  have hb0 := below3 w (.cells #[.int .i64 cn, .string ca, .string cb, .bool cf] 55) (.cells #[.int .i64 hn, .string ha, .string hb] 53) (.cells #[.int .i64 0, .string ⟨#[]⟩, .string ⟨#[]⟩, .bool false] 55)
  have dq3_0 := heap_cell q3 0 _ rfl
  have dq3_1 := heap_cell q3 1 _ rfl
  have dq3_2 := heap_cell q3 2 _ rfl
  go_enter Tryz.func32, Tryz.ntmps32
  go_wp2_with fail
  generalize (((w.alloc (.cells #[.int .i64 cn, .string ca, .string cb, .bool cf] 55)).alloc (.cells #[.int .i64 hn, .string ha, .string hb] 53)).alloc (.cells #[.int .i64 0, .string ⟨#[]⟩, .string ⟨#[]⟩, .bool false] 55)) = w0 at q3 q4 q6 hb0 dq3_0 dq3_1 dq3_2 ⊢
  refine (HC.out w0).mono ?_
  rintro e w1 ⟨rfl, hb1⟩
  have q3 := heap_on hb1 q3
  have q4 := heap_on hb1 q4
  have q6 := heap_on hb1 q6
  have hb1 := below_on hb0 hb1
  clear hb0
  clear dq3_0 dq3_1 dq3_2
  have dq4_0 := heap_cell q4 0 _ rfl
  have dq4_1 := heap_cell q4 1 _ rfl
  have dq4_2 := heap_cell q4 2 _ rfl
  go_wp2_with fail
  refine (HH.out w1).mono ?_
  rintro e w2 ⟨rfl, hb2⟩
  have q3 := heap_on hb2 q3
  have q4 := heap_on hb2 q4
  have q6 := heap_on hb2 q6
  have hb2 := below_on hb1 hb2
  clear hb1
  have e3_0 := heap_cell q3 0 _ rfl
  have e3_1 := heap_cell q3 1 _ rfl
  have e3_2 := heap_cell q3 2 _ rfl
  have e3_3 := heap_cell q3 3 _ rfl
  have e4_0 := heap_cell q4 0 _ rfl
  have e4_1 := heap_cell q4 1 _ rfl
  have e4_2 := heap_cell q4 2 _ rfl
  go_wp2_with fail
  have hF0 : I.told.answers w2.tape := by rw [hb2.tape]; exact hF
  refine (HG.out w2 hF0 (hS.on hb2)).mono ?_
  rintro e w3 ⟨rfl, hb3⟩
  have q3 := heap_on hb3 q3
  have q4 := heap_on hb3 q4
  have q6 := heap_on hb3 q6
  have hb3 := below_on hb2 hb3
  clear hb2
  clear e3_0 e3_1 e3_2 e3_3 e4_0 e4_1 e4_2 hF0
  have e3_0 := heap_cell q3 0 _ rfl
  have e3_1 := heap_cell q3 1 _ rfl
  have e3_2 := heap_cell q3 2 _ rfl
  have e3_3 := heap_cell q3 3 _ rfl
  have e4_0 := heap_cell q4 0 _ rfl
  have e4_1 := heap_cell q4 1 _ rfl
  have e4_2 := heap_cell q4 2 _ rfl
  go_wp2_with (refine wpList_store_row rfl 55 (.tmp 6) (.tmp 70) rfl (w.heap.size + 1 + 1) #[.int .i64 cn, .string ca, .string cb, .bool true] rfl rfl _ _ q6 (by kernel_rfl) rfl (client_cells _ _ _ _) ?_)
  have hbz := below_setRow hb3 (g := w.heap.size + 1 + 1) (by omega) #[.int .i64 cn, .string ca, .string cb, .bool true]
  refine bodyPost_ret (results_row_tmp rfl _ _ (w.heap.size + 1 + 1) _ _ _ _ rfl (setRow_heap _ _ _ _ _ _ q6) Tryz.underlying55 rfl (by kernel_rfl)) rfl ?_
  exact ⟨rfl, hbz⟩

set_option maxHeartbeats 1000000 in
set_option maxRecDepth 100000 in
theorem follows_other2 (I : Interp) (cn : Int) (ca cb : ByteArray) (cf : Bool) (hn : Int) (ha hb : ByteArray) (x : List ByteArray) (a : Option Addr) (k c : Nat) (w : World) (hF : I.told.answers w.tape) (hk : x.length = k) (hS : StrsAt w a c x) (hbig : ∀ s ∈ x, s.size ≤ 140737488355328) (hc : headE cn ca cb = 0) (hh : headE hn ha hb = 0) (hl : ¬ hn < cn) (h0 : cn ≠ 0) (z : Int) (hz : growE ca cn ha hn x = z) (hz0 : z ≠ 0) (he : hn ≠ cn) :
    Calls Tryz.prog 32 #[.agg #[.int .i64 cn, .string ca, .string cb, .bool cf], .agg #[.int .i64 hn, .string ha, .string hb], .slice a k c] w fun e w' => e = .returned (.tuple #[.agg #[.int .i64 cn, .string ca, .string cb, .bool true], .int .i64 7]) ∧ Below w.heap.size w w' := by
  have HC := Lib.hid (checkHead_any cn ca cb)
  have HH := Lib.hid (checkHead_any hn ha hb)
  rw [hc] at HC
  rw [hh] at HH
  obtain ⟨c1, c2, c3, c4⟩ := (headE_iff cn ca cb).1 hc
  clear hc hh
  have hg := fun w hF hS => growthShows_any I ca cn ha hn x a k c w hF (by omega) hbig hk hS
  rw [hz] at hg
  have HG := Lib.hid hg
  have g1 : (0 : Int) < cn := by omega
  clear hg c1 c2 h0
  have g2 : (z == 0) = false := by simp only [beq_eq_false_iff_ne, ne_eq]; exact hz0
  have g3 : (hn == cn) = false := by simp only [beq_eq_false_iff_ne, ne_eq]; exact he
  clear hz hz0 he
  have hcap := hS.cap
  have hmax := hS.max
  obtain ⟨q3, q4, q6, _⟩ := boxes3 w (.cells #[.int .i64 cn, .string ca, .string cb, .bool cf] 55) (.cells #[.int .i64 hn, .string ha, .string hb] 53) (.cells #[.int .i64 0, .string ⟨#[]⟩, .string ⟨#[]⟩, .bool false] 55)
  have hb0 := below3 w (.cells #[.int .i64 cn, .string ca, .string cb, .bool cf] 55) (.cells #[.int .i64 hn, .string ha, .string hb] 53) (.cells #[.int .i64 0, .string ⟨#[]⟩, .string ⟨#[]⟩, .bool false] 55)
  have dq3_0 := heap_cell q3 0 _ rfl
  have dq3_1 := heap_cell q3 1 _ rfl
  have dq3_2 := heap_cell q3 2 _ rfl
  go_enter Tryz.func32, Tryz.ntmps32
  go_wp2_with fail
  generalize (((w.alloc (.cells #[.int .i64 cn, .string ca, .string cb, .bool cf] 55)).alloc (.cells #[.int .i64 hn, .string ha, .string hb] 53)).alloc (.cells #[.int .i64 0, .string ⟨#[]⟩, .string ⟨#[]⟩, .bool false] 55)) = w0 at q3 q4 q6 hb0 dq3_0 dq3_1 dq3_2 ⊢
  refine (HC.out w0).mono ?_
  rintro e w1 ⟨rfl, hb1⟩
  have q3 := heap_on hb1 q3
  have q4 := heap_on hb1 q4
  have q6 := heap_on hb1 q6
  have hb1 := below_on hb0 hb1
  clear hb0
  clear dq3_0 dq3_1 dq3_2
  have dq4_0 := heap_cell q4 0 _ rfl
  have dq4_1 := heap_cell q4 1 _ rfl
  have dq4_2 := heap_cell q4 2 _ rfl
  go_wp2_with fail
  refine (HH.out w1).mono ?_
  rintro e w2 ⟨rfl, hb2⟩
  have q3 := heap_on hb2 q3
  have q4 := heap_on hb2 q4
  have q6 := heap_on hb2 q6
  have hb2 := below_on hb1 hb2
  clear hb1
  have e3_0 := heap_cell q3 0 _ rfl
  have e3_1 := heap_cell q3 1 _ rfl
  have e3_2 := heap_cell q3 2 _ rfl
  have e3_3 := heap_cell q3 3 _ rfl
  have e4_0 := heap_cell q4 0 _ rfl
  have e4_1 := heap_cell q4 1 _ rfl
  have e4_2 := heap_cell q4 2 _ rfl
  go_wp2_with fail
  have hF0 : I.told.answers w2.tape := by rw [hb2.tape]; exact hF
  refine (HG.out w2 hF0 (hS.on hb2)).mono ?_
  rintro e w3 ⟨rfl, hb3⟩
  have q3 := heap_on hb3 q3
  have q4 := heap_on hb3 q4
  have q6 := heap_on hb3 q6
  have hb3 := below_on hb2 hb3
  clear hb2
  clear e3_0 e3_1 e3_2 e3_3 e4_0 e4_1 e4_2 hF0
  have e3_0 := heap_cell q3 0 _ rfl
  have e3_1 := heap_cell q3 1 _ rfl
  have e3_2 := heap_cell q3 2 _ rfl
  have e3_3 := heap_cell q3 3 _ rfl
  have e4_0 := heap_cell q4 0 _ rfl
  have e4_1 := heap_cell q4 1 _ rfl
  have e4_2 := heap_cell q4 2 _ rfl
  go_wp2_with (refine wpList_store_row rfl 55 (.tmp 6) (.tmp 70) rfl (w.heap.size + 1 + 1) #[.int .i64 cn, .string ca, .string cb, .bool true] rfl rfl _ _ q6 (by kernel_rfl) rfl (client_cells _ _ _ _) ?_)
  have hbz := below_setRow hb3 (g := w.heap.size + 1 + 1) (by omega) #[.int .i64 cn, .string ca, .string cb, .bool true]
  refine bodyPost_ret (results_row_tmp rfl _ _ (w.heap.size + 1 + 1) _ _ _ _ rfl (setRow_heap _ _ _ _ _ _ q6) Tryz.underlying55 rfl (by kernel_rfl)) rfl ?_
  exact ⟨rfl, hbz⟩

set_option maxHeartbeats 1000000 in
set_option maxRecDepth 100000 in
theorem follows_more (I : Interp) (cn : Int) (ca cb : ByteArray) (cf : Bool) (hn : Int) (ha hb : ByteArray) (x : List ByteArray) (a : Option Addr) (k c : Nat) (w : World) (hF : I.told.answers w.tape) (hk : x.length = k) (hS : StrsAt w a c x) (hbig : ∀ s ∈ x, s.size ≤ 140737488355328) (hc : headE cn ca cb = 0) (hh : headE hn ha hb = 0) (hl : ¬ hn < cn) (h0 : cn ≠ 0) (hz : growE ca cn ha hn x = 0) (he : hn ≠ cn) :
    Calls Tryz.prog 32 #[.agg #[.int .i64 cn, .string ca, .string cb, .bool cf], .agg #[.int .i64 hn, .string ha, .string hb], .slice a k c] w fun e w' => e = .returned (.tuple #[.agg #[.int .i64 hn, .string ha, .string hb, .bool cf], .int .i64 0]) ∧ Below w.heap.size w w' := by
  have HC := Lib.hid (checkHead_any cn ca cb)
  have HH := Lib.hid (checkHead_any hn ha hb)
  rw [hc] at HC
  rw [hh] at HH
  obtain ⟨c1, c2, c3, c4⟩ := (headE_iff cn ca cb).1 hc
  clear hc hh
  have hg := fun w hF hS => growthShows_any I ca cn ha hn x a k c w hF (by omega) hbig hk hS
  rw [hz] at hg
  have HG := Lib.hid hg
  have g1 : (0 : Int) < cn := by omega
  clear hg c1 c2 h0
  have g3 : (hn == cn) = false := by simp only [beq_eq_false_iff_ne, ne_eq]; exact he
  clear hz he
  have hcap := hS.cap
  have hmax := hS.max
  obtain ⟨q3, q4, q6, _⟩ := boxes3 w (.cells #[.int .i64 cn, .string ca, .string cb, .bool cf] 55) (.cells #[.int .i64 hn, .string ha, .string hb] 53) (.cells #[.int .i64 0, .string ⟨#[]⟩, .string ⟨#[]⟩, .bool false] 55)
  have hb0 := below3 w (.cells #[.int .i64 cn, .string ca, .string cb, .bool cf] 55) (.cells #[.int .i64 hn, .string ha, .string hb] 53) (.cells #[.int .i64 0, .string ⟨#[]⟩, .string ⟨#[]⟩, .bool false] 55)
  have dq3_0 := heap_cell q3 0 _ rfl
  have dq3_1 := heap_cell q3 1 _ rfl
  have dq3_2 := heap_cell q3 2 _ rfl
  go_enter Tryz.func32, Tryz.ntmps32
  go_wp2_with fail
  generalize (((w.alloc (.cells #[.int .i64 cn, .string ca, .string cb, .bool cf] 55)).alloc (.cells #[.int .i64 hn, .string ha, .string hb] 53)).alloc (.cells #[.int .i64 0, .string ⟨#[]⟩, .string ⟨#[]⟩, .bool false] 55)) = w0 at q3 q4 q6 hb0 dq3_0 dq3_1 dq3_2 ⊢
  refine (HC.out w0).mono ?_
  rintro e w1 ⟨rfl, hb1⟩
  have q3 := heap_on hb1 q3
  have q4 := heap_on hb1 q4
  have q6 := heap_on hb1 q6
  have hb1 := below_on hb0 hb1
  clear hb0
  clear dq3_0 dq3_1 dq3_2
  have dq4_0 := heap_cell q4 0 _ rfl
  have dq4_1 := heap_cell q4 1 _ rfl
  have dq4_2 := heap_cell q4 2 _ rfl
  go_wp2_with fail
  refine (HH.out w1).mono ?_
  rintro e w2 ⟨rfl, hb2⟩
  have q3 := heap_on hb2 q3
  have q4 := heap_on hb2 q4
  have q6 := heap_on hb2 q6
  have hb2 := below_on hb1 hb2
  clear hb1
  have e3_0 := heap_cell q3 0 _ rfl
  have e3_1 := heap_cell q3 1 _ rfl
  have e3_2 := heap_cell q3 2 _ rfl
  have e3_3 := heap_cell q3 3 _ rfl
  have e4_0 := heap_cell q4 0 _ rfl
  have e4_1 := heap_cell q4 1 _ rfl
  have e4_2 := heap_cell q4 2 _ rfl
  go_wp2_with fail
  have hF0 : I.told.answers w2.tape := by rw [hb2.tape]; exact hF
  refine (HG.out w2 hF0 (hS.on hb2)).mono ?_
  rintro e w3 ⟨rfl, hb3⟩
  have q3 := heap_on hb3 q3
  have q4 := heap_on hb3 q4
  have q6 := heap_on hb3 q6
  have hb3 := below_on hb2 hb3
  clear hb2
  clear e3_0 e3_1 e3_2 e3_3 e4_0 e4_1 e4_2 hF0
  have e3_0 := heap_cell q3 0 _ rfl
  have e3_1 := heap_cell q3 1 _ rfl
  have e3_2 := heap_cell q3 2 _ rfl
  have e3_3 := heap_cell q3 3 _ rfl
  have e4_0 := heap_cell q4 0 _ rfl
  have e4_1 := heap_cell q4 1 _ rfl
  have e4_2 := heap_cell q4 2 _ rfl
  go_wp2_with (refine wpList_store_row rfl 55 (.tmp 6) (.tmp 74) rfl (w.heap.size + 1 + 1) #[.int .i64 hn, .string ha, .string hb, .bool cf] rfl rfl _ _ q6 (by kernel_rfl) rfl (client_cells _ _ _ _) ?_)
  have hbz := below_setRow hb3 (g := w.heap.size + 1 + 1) (by omega) #[.int .i64 hn, .string ha, .string hb, .bool cf]
  refine bodyPost_ret (results_row_tmp rfl _ _ (w.heap.size + 1 + 1) _ _ _ _ rfl (setRow_heap _ _ _ _ _ _ q6) Tryz.underlying55 rfl (by kernel_rfl)) rfl ?_
  exact ⟨rfl, hbz⟩

set_option maxHeartbeats 1000000 in
set_option maxRecDepth 100000 in
theorem follows_same (I : Interp) (cn : Int) (ca cb : ByteArray) (cf : Bool) (hn : Int) (ha hb : ByteArray) (x : List ByteArray) (a : Option Addr) (k c : Nat) (w : World) (hF : I.told.answers w.tape) (hk : x.length = k) (hS : StrsAt w a c x) (hbig : ∀ s ∈ x, s.size ≤ 140737488355328) (hc : headE cn ca cb = 0) (hh : headE hn ha hb = 0) (hl : ¬ hn < cn) (h0 : cn ≠ 0) (hz : growE ca cn ha hn x = 0) (he : hn = cn) (hm : hb = cb) :
    Calls Tryz.prog 32 #[.agg #[.int .i64 cn, .string ca, .string cb, .bool cf], .agg #[.int .i64 hn, .string ha, .string hb], .slice a k c] w fun e w' => e = .returned (.tuple #[.agg #[.int .i64 hn, .string ha, .string hb, .bool cf], .int .i64 0]) ∧ Below w.heap.size w w' := by
  have HC := Lib.hid (checkHead_any cn ca cb)
  have HH := Lib.hid (checkHead_any hn ha hb)
  rw [hc] at HC
  rw [hh] at HH
  obtain ⟨c1, c2, c3, c4⟩ := (headE_iff cn ca cb).1 hc
  clear hc hh
  have hg := fun w hF hS => growthShows_any I ca cn ha hn x a k c w hF (by omega) hbig hk hS
  rw [hz] at hg
  have HG := Lib.hid hg
  have g1 : (0 : Int) < cn := by omega
  clear hg c1 c2 h0
  have g3 : (hn == cn) = true := by rw [he]; simp
  have g4 := str_eq hm
  clear hz he hm
  have hcap := hS.cap
  have hmax := hS.max
  obtain ⟨q3, q4, q6, _⟩ := boxes3 w (.cells #[.int .i64 cn, .string ca, .string cb, .bool cf] 55) (.cells #[.int .i64 hn, .string ha, .string hb] 53) (.cells #[.int .i64 0, .string ⟨#[]⟩, .string ⟨#[]⟩, .bool false] 55)
  have hb0 := below3 w (.cells #[.int .i64 cn, .string ca, .string cb, .bool cf] 55) (.cells #[.int .i64 hn, .string ha, .string hb] 53) (.cells #[.int .i64 0, .string ⟨#[]⟩, .string ⟨#[]⟩, .bool false] 55)
  have dq3_0 := heap_cell q3 0 _ rfl
  have dq3_1 := heap_cell q3 1 _ rfl
  have dq3_2 := heap_cell q3 2 _ rfl
  go_enter Tryz.func32, Tryz.ntmps32
  go_wp2_with fail
  generalize (((w.alloc (.cells #[.int .i64 cn, .string ca, .string cb, .bool cf] 55)).alloc (.cells #[.int .i64 hn, .string ha, .string hb] 53)).alloc (.cells #[.int .i64 0, .string ⟨#[]⟩, .string ⟨#[]⟩, .bool false] 55)) = w0 at q3 q4 q6 hb0 dq3_0 dq3_1 dq3_2 ⊢
  refine (HC.out w0).mono ?_
  rintro e w1 ⟨rfl, hb1⟩
  have q3 := heap_on hb1 q3
  have q4 := heap_on hb1 q4
  have q6 := heap_on hb1 q6
  have hb1 := below_on hb0 hb1
  clear hb0
  clear dq3_0 dq3_1 dq3_2
  have dq4_0 := heap_cell q4 0 _ rfl
  have dq4_1 := heap_cell q4 1 _ rfl
  have dq4_2 := heap_cell q4 2 _ rfl
  go_wp2_with fail
  refine (HH.out w1).mono ?_
  rintro e w2 ⟨rfl, hb2⟩
  have q3 := heap_on hb2 q3
  have q4 := heap_on hb2 q4
  have q6 := heap_on hb2 q6
  have hb2 := below_on hb1 hb2
  clear hb1
  have e3_0 := heap_cell q3 0 _ rfl
  have e3_1 := heap_cell q3 1 _ rfl
  have e3_2 := heap_cell q3 2 _ rfl
  have e3_3 := heap_cell q3 3 _ rfl
  have e4_0 := heap_cell q4 0 _ rfl
  have e4_1 := heap_cell q4 1 _ rfl
  have e4_2 := heap_cell q4 2 _ rfl
  go_wp2_with fail
  have hF0 : I.told.answers w2.tape := by rw [hb2.tape]; exact hF
  refine (HG.out w2 hF0 (hS.on hb2)).mono ?_
  rintro e w3 ⟨rfl, hb3⟩
  have q3 := heap_on hb3 q3
  have q4 := heap_on hb3 q4
  have q6 := heap_on hb3 q6
  have hb3 := below_on hb2 hb3
  clear hb2
  clear e3_0 e3_1 e3_2 e3_3 e4_0 e4_1 e4_2 hF0
  have e3_0 := heap_cell q3 0 _ rfl
  have e3_1 := heap_cell q3 1 _ rfl
  have e3_2 := heap_cell q3 2 _ rfl
  have e3_3 := heap_cell q3 3 _ rfl
  have e4_0 := heap_cell q4 0 _ rfl
  have e4_1 := heap_cell q4 1 _ rfl
  have e4_2 := heap_cell q4 2 _ rfl
  go_wp2_with (refine wpList_store_row rfl 55 (.tmp 6) (.tmp 74) rfl (w.heap.size + 1 + 1) #[.int .i64 hn, .string ha, .string hb, .bool cf] rfl rfl _ _ q6 (by kernel_rfl) rfl (client_cells _ _ _ _) ?_)
  have hbz := below_setRow hb3 (g := w.heap.size + 1 + 1) (by omega) #[.int .i64 hn, .string ha, .string hb, .bool cf]
  refine bodyPost_ret (results_row_tmp rfl _ _ (w.heap.size + 1 + 1) _ _ _ _ rfl (setRow_heap _ _ _ _ _ _ q6) Tryz.underlying55 rfl (by kernel_rfl)) rfl ?_
  exact ⟨rfl, hbz⟩

set_option maxHeartbeats 1000000 in
set_option maxRecDepth 100000 in
theorem follows_map (I : Interp) (cn : Int) (ca cb : ByteArray) (cf : Bool) (hn : Int) (ha hb : ByteArray) (x : List ByteArray) (a : Option Addr) (k c : Nat) (w : World) (hF : I.told.answers w.tape) (hk : x.length = k) (hS : StrsAt w a c x) (hbig : ∀ s ∈ x, s.size ≤ 140737488355328) (hc : headE cn ca cb = 0) (hh : headE hn ha hb = 0) (hl : ¬ hn < cn) (h0 : cn ≠ 0) (hz : growE ca cn ha hn x = 0) (he : hn = cn) (hm : hb ≠ cb) :
    Calls Tryz.prog 32 #[.agg #[.int .i64 cn, .string ca, .string cb, .bool cf], .agg #[.int .i64 hn, .string ha, .string hb], .slice a k c] w fun e w' => e = .returned (.tuple #[.agg #[.int .i64 cn, .string ca, .string cb, .bool true], .int .i64 7]) ∧ Below w.heap.size w w' := by
  have HC := Lib.hid (checkHead_any cn ca cb)
  have HH := Lib.hid (checkHead_any hn ha hb)
  rw [hc] at HC
  rw [hh] at HH
  obtain ⟨c1, c2, c3, c4⟩ := (headE_iff cn ca cb).1 hc
  clear hc hh
  have hg := fun w hF hS => growthShows_any I ca cn ha hn x a k c w hF (by omega) hbig hk hS
  rw [hz] at hg
  have HG := Lib.hid hg
  have g1 : (0 : Int) < cn := by omega
  clear hg c1 c2 h0
  have g3 : (hn == cn) = true := by rw [he]; simp
  have g4 := str_ne hm
  clear hz he hm
  have hcap := hS.cap
  have hmax := hS.max
  obtain ⟨q3, q4, q6, _⟩ := boxes3 w (.cells #[.int .i64 cn, .string ca, .string cb, .bool cf] 55) (.cells #[.int .i64 hn, .string ha, .string hb] 53) (.cells #[.int .i64 0, .string ⟨#[]⟩, .string ⟨#[]⟩, .bool false] 55)
  have hb0 := below3 w (.cells #[.int .i64 cn, .string ca, .string cb, .bool cf] 55) (.cells #[.int .i64 hn, .string ha, .string hb] 53) (.cells #[.int .i64 0, .string ⟨#[]⟩, .string ⟨#[]⟩, .bool false] 55)
  have dq3_0 := heap_cell q3 0 _ rfl
  have dq3_1 := heap_cell q3 1 _ rfl
  have dq3_2 := heap_cell q3 2 _ rfl
  go_enter Tryz.func32, Tryz.ntmps32
  go_wp2_with fail
  generalize (((w.alloc (.cells #[.int .i64 cn, .string ca, .string cb, .bool cf] 55)).alloc (.cells #[.int .i64 hn, .string ha, .string hb] 53)).alloc (.cells #[.int .i64 0, .string ⟨#[]⟩, .string ⟨#[]⟩, .bool false] 55)) = w0 at q3 q4 q6 hb0 dq3_0 dq3_1 dq3_2 ⊢
  refine (HC.out w0).mono ?_
  rintro e w1 ⟨rfl, hb1⟩
  have q3 := heap_on hb1 q3
  have q4 := heap_on hb1 q4
  have q6 := heap_on hb1 q6
  have hb1 := below_on hb0 hb1
  clear hb0
  clear dq3_0 dq3_1 dq3_2
  have dq4_0 := heap_cell q4 0 _ rfl
  have dq4_1 := heap_cell q4 1 _ rfl
  have dq4_2 := heap_cell q4 2 _ rfl
  go_wp2_with fail
  refine (HH.out w1).mono ?_
  rintro e w2 ⟨rfl, hb2⟩
  have q3 := heap_on hb2 q3
  have q4 := heap_on hb2 q4
  have q6 := heap_on hb2 q6
  have hb2 := below_on hb1 hb2
  clear hb1
  have e3_0 := heap_cell q3 0 _ rfl
  have e3_1 := heap_cell q3 1 _ rfl
  have e3_2 := heap_cell q3 2 _ rfl
  have e3_3 := heap_cell q3 3 _ rfl
  have e4_0 := heap_cell q4 0 _ rfl
  have e4_1 := heap_cell q4 1 _ rfl
  have e4_2 := heap_cell q4 2 _ rfl
  go_wp2_with fail
  have hF0 : I.told.answers w2.tape := by rw [hb2.tape]; exact hF
  refine (HG.out w2 hF0 (hS.on hb2)).mono ?_
  rintro e w3 ⟨rfl, hb3⟩
  have q3 := heap_on hb3 q3
  have q4 := heap_on hb3 q4
  have q6 := heap_on hb3 q6
  have hb3 := below_on hb2 hb3
  clear hb2
  clear e3_0 e3_1 e3_2 e3_3 e4_0 e4_1 e4_2 hF0
  have e3_0 := heap_cell q3 0 _ rfl
  have e3_1 := heap_cell q3 1 _ rfl
  have e3_2 := heap_cell q3 2 _ rfl
  have e3_3 := heap_cell q3 3 _ rfl
  have e4_0 := heap_cell q4 0 _ rfl
  have e4_1 := heap_cell q4 1 _ rfl
  have e4_2 := heap_cell q4 2 _ rfl
  go_wp2_with (refine wpList_store_row rfl 55 (.tmp 6) (.tmp 70) rfl (w.heap.size + 1 + 1) #[.int .i64 cn, .string ca, .string cb, .bool true] rfl rfl _ _ q6 (by kernel_rfl) rfl (client_cells _ _ _ _) ?_)
  have hbz := below_setRow hb3 (g := w.heap.size + 1 + 1) (by omega) #[.int .i64 cn, .string ca, .string cb, .bool true]
  refine bodyPost_ret (results_row_tmp rfl _ _ (w.heap.size + 1 + 1) _ _ _ _ rfl (setRow_heap _ _ _ _ _ _ q6) Tryz.underlying55 rfl (by kernel_rfl)) rfl ?_
  exact ⟨rfl, hbz⟩

theorem follows_any (I : Interp) (cn : Int) (ca cb : ByteArray) (cf : Bool) (hn : Int) (ha hb : ByteArray) (x : List ByteArray) (a : Option Addr) (k c : Nat) (w : World) (hF : I.told.answers w.tape) (hk : x.length = k) (hS : StrsAt w a c x) (hbig : ∀ s ∈ x, s.size ≤ 140737488355328) :
    Calls Tryz.prog 32 #[.agg #[.int .i64 cn, .string ca, .string cb, .bool cf], .agg #[.int .i64 hn, .string ha, .string hb], .slice a k c] w fun e w' => e = .returned (.tuple #[.agg #[.int .i64 (folN cn ca cb hn ha hb x), .string (folA cn ca cb hn ha hb x), .string (folB cn ca cb hn ha hb x), .bool (folF cn ca cb cf hn ha hb x)], .int .i64 (followE cn ca cb hn ha hb x)]) ∧ Below w.heap.size w w' := by
  by_cases hc : headE cn ca cb = 0
  · by_cases hh : headE hn ha hb = 0
    · by_cases hl : hn < cn
      · have e := follow_late (l := x) hc hh hl
        obtain ⟨e1, e2, e3, e4⟩ := fol_bad (cf := cf) e (by omega) (by omega)
        rw [e1, e2, e3, e4, e]
        exact follows_late cn ca cb cf hn ha hb x a k c w hS hc hh hl
      · by_cases h0 : cn = 0
        · by_cases hk0 : k = 0
          · have e := follow_yes (l := x) hc hh hl (by unfold goodF; rw [if_pos h0]; exact List.length_eq_zero_iff.1 (by omega))
            obtain ⟨e1, e2, e3, e4⟩ := fol_zero (cf := cf) e
            rw [e1, e2, e3, e4, e]
            exact follows_first cn ca cb cf hn ha hb x a k c w hS hc hh hl h0 hk0
          · have e := follow_no (l := x) hc hh hl (by unfold goodF; rw [if_pos h0]; intro h; rw [h] at hk; exact hk0 hk.symm)
            obtain ⟨e1, e2, e3, e4⟩ := fol_seven (cf := cf) e
            rw [e1, e2, e3, e4, e]
            exact follows_much cn ca cb cf hn ha hb x a k c w hS hc hh hl h0 hk0
        · by_cases hz : growE ca cn ha hn x = 0
          · by_cases he : hn = cn
            · by_cases hm : hb = cb
              · have e := follow_yes (l := x) hc hh hl (by unfold goodF; rw [if_neg h0]; exact ⟨hz, fun _ => hm⟩)
                obtain ⟨e1, e2, e3, e4⟩ := fol_zero (cf := cf) e
                rw [e1, e2, e3, e4, e]
                exact follows_same I cn ca cb cf hn ha hb x a k c w hF hk hS hbig hc hh hl h0 hz he hm
              · have e := follow_no (l := x) hc hh hl (by unfold goodF; rw [if_neg h0]; exact fun h => hm (h.2 he))
                obtain ⟨e1, e2, e3, e4⟩ := fol_seven (cf := cf) e
                rw [e1, e2, e3, e4, e]
                exact follows_map I cn ca cb cf hn ha hb x a k c w hF hk hS hbig hc hh hl h0 hz he hm
            · have e := follow_yes (l := x) hc hh hl (by unfold goodF; rw [if_neg h0]; exact ⟨hz, fun h => absurd h he⟩)
              obtain ⟨e1, e2, e3, e4⟩ := fol_zero (cf := cf) e
              rw [e1, e2, e3, e4, e]
              exact follows_more I cn ca cb cf hn ha hb x a k c w hF hk hS hbig hc hh hl h0 hz he
          · have e := follow_no (l := x) hc hh hl (by unfold goodF; rw [if_neg h0]; exact fun h => hz h.1)
            obtain ⟨e1, e2, e3, e4⟩ := fol_seven (cf := cf) e
            rw [e1, e2, e3, e4, e]
            by_cases he : hn = cn
            · exact follows_other I cn ca cb cf hn ha hb x a k c w hF hk hS hbig hc hh hl h0 _ rfl hz he
            · exact follows_other2 I cn ca cb cf hn ha hb x a k c w hF hk hS hbig hc hh hl h0 _ rfl hz he
    · have e := follow_h (l := x) hc rfl hh
      obtain ⟨e1, e2, e3, e4⟩ := fol_bad (cf := cf) e hh (by rcases headE_or hn ha hb with h | h | h <;> omega)
      rw [e1, e2, e3, e4, e]
      exact follows_h cn ca cb cf hn ha hb x a k c w hS hc _ rfl hh
  · have e := follow_c (hn := hn) (ha := ha) (hb := hb) (l := x) rfl hc
    obtain ⟨e1, e2, e3, e4⟩ := fol_bad (cf := cf) e hc (by rcases headE_or cn ca cb with h | h | h <;> omega)
    rw [e1, e2, e3, e4, e]
    exact follows_c cn ca cb cf hn ha hb x a k c w hS _ rfl hc
end Go.Proofs.YthhckpnnjegldafGreatFmt
