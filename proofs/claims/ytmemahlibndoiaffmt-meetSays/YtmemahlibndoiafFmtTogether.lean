/-
  The closed fact that chapter 10's statements ask for first.
-/
import Derived.Test.YtmemahlibndoiafFmtMeet
import Derived.Test.YtmemahlibndoiafFmtShowGrowth
import Derived.Test.YtmemahlibndoiafFmtBookHead
import Derived.Test.YtmemahlibndoiafFmtEntries
import Derived.Test.YtmemahlibndoiafFmtPlanted
namespace Go.Proofs.YtmemahlibndoiafFmt
open Go Go.RowKit Go.Maps

def exT : List EntB := exB.take 1
def exU : List EntB := exB.drop 1
theorem met_1 : meetE 3 (headLog exB) (headMap exB) 1 (headLog exT) (headMap exT) (growS (textsE exB) 1 true) = 0 := by decide +kernel
theorem met_2 : meetE 1 (headLog exT) (headMap exT) 3 (headLog exB) (headMap exB) [] = 7 := by decide +kernel
theorem met_3 : meetE 3 (headLog exB) (headMap exB) 3 (headLog exB) (headMap exB) [] = 0 := by decide +kernel
theorem met_4 : meetE 1 (headLog exT) (headMap exT) 2 (headLog exU) (headMap exU) (growS (textsE exB) 1 true) = 7 := by decide +kernel
theorem met_5 : meetE 0 ⟨#[]⟩ ⟨#[]⟩ 2 (headLog exU) (headMap exU) [] = 0 := by decide +kernel
theorem ex_drop {w : World} {g : Nat} (hS : EntsAt w (some ⟨g, 0, none⟩) 3 exB) : EntsAt w (some ⟨g, 2, none⟩) 2 exU := by
  refine ⟨by decide, by omega, wide_good (good_drop exB_good 1).2, fun _ => ?_⟩
  obtain ⟨b, off, e, hlt, hc⟩ := hS.cells (by decide)
  injection e with e
  injection e with e1 e2
  subst e1 e2
  refine ⟨g, 2, rfl, hlt, fun i hi => ?_⟩
  have hi : i < 2 := hi
  match i, hi with
  | 0, _ => exact hc 1 (by decide)
  | 1, _ => exact hc 2 (by decide)

set_option maxHeartbeats 4000000 in
set_option maxRecDepth 100000 in
theorem together_any (w : World) (hE : Tab w) :
    Calls Tryf.prog 4 #[] w fun e w' => e = .returned (.bool true) ∧ Below w.heap.size w w' := by
  have h1 := fun g w' hE hS => head_ok exT (some ⟨g, 0, none⟩) 1 3 w' hE rfl hS (good_take exB_good 1)
  have h2 := fun g w' hE hS => head_ok exB (some ⟨g, 0, none⟩) 3 3 w' hE rfl hS exB_good
  have h3 := fun g w' hE hS => showGrowth_ok exB (some ⟨g, 0, none⟩) 3 3 1 w' hE rfl hS exB_good (by omega) (by omega)
  have h4 := fun g w' hE hS => head_ok exU (some ⟨g, 2, none⟩) 2 2 w' hE rfl hS (good_drop exB_good 1)
  have m1 := fun a c w' hE hS => same_any 3 (headLog exB) (headMap exB) 1 (headLog exT) (headMap exT) (growS (textsE exB) 1 true) a _ c w' rfl hE hS
  rw [met_1] at m1
  have m2 := fun w' hE => same_any 1 (headLog exT) (headMap exT) 3 (headLog exB) (headMap exB) [] none 0 0 w' rfl hE (strs_none w')
  rw [met_2] at m2
  have m3 := fun w' hE => same_any 3 (headLog exB) (headMap exB) 3 (headLog exB) (headMap exB) [] none 0 0 w' rfl hE (strs_none w')
  rw [met_3] at m3
  have m4 := fun a c w' hE hS => same_any 1 (headLog exT) (headMap exT) 2 (headLog exU) (headMap exU) (growS (textsE exB) 1 true) a _ c w' rfl hE hS
  rw [met_4] at m4
  have m5 := fun w' hE => same_any 0 ⟨#[]⟩ ⟨#[]⟩ 2 (headLog exU) (headMap exU) [] none 0 0 w' rfl hE (strs_none w')
  rw [met_5] at m5
  generalize headLog exT = LA at h1 m1 m2 m4
  generalize headMap exT = MA at h1 m1 m2 m4
  generalize headLog exB = LB at h2 m1 m2 m3
  generalize headMap exB = MB at h2 m1 m2 m3
  generalize headLog exU = LC at h4 m4 m5
  generalize headMap exU = MC at h4 m4 m5
  generalize growS (textsE exB) 1 true = G at h3 m1 m4
  have H1 := Lib.hid h1
  have H2 := Lib.hid h2
  have H3 := Lib.hid h3
  have H4 := Lib.hid h4
  have M1 := Lib.hid m1
  have M2 := Lib.hid m2
  have M3 := Lib.hid m3
  have M4 := Lib.hid m4
  have M5 := Lib.hid m5
  clear h1 h2 h3 h4 m1 m2 m3 m4 m5
  go_enter Tryf.func4, Tryf.ntmps4
  go_wp2_with fail
  refine (entries_any w).mono ?_
  rintro e w1 ⟨g1, rfl, hS, hb1⟩
  go_wp2_with fail
  rw [run_list]
  go_wp2_with fail
  refine (H1.out g1 w1 (hE.on hb1) (hS.take 1)).mono ?_
  rintro e w2 ⟨rfl, hb2⟩
  have hb2 := below_on hb1 hb2
  clear hb1
  clear hS
  have q1 := heap_push w2 (.cells #[.int .i64 1, .string LA, .string MA] 23)
  have hb3 := hb2.alloc hb2.size (.cells #[.int .i64 1, .string LA, .string MA] 23)
  clear hb2
  go_wp2_with fail
  generalize (w2.alloc (.cells #[.int .i64 1, .string LA, .string MA] 23)) = w3 at q1 hb3 ⊢
  generalize w2.heap.size = B1 at q1 ⊢
  refine (entries_any w3).mono ?_
  rintro e w4 ⟨g2, rfl, hS, hb4⟩
  have q1 := heap_on hb4 q1
  have hb4 := below_on hb3 hb4
  clear hb3
  go_wp2_with fail
  refine (H2.out g2 w4 (hE.on hb4) hS).mono ?_
  rintro e w5 ⟨rfl, hb5⟩
  have q1 := heap_on hb5 q1
  have hb5 := below_on hb4 hb5
  clear hb4
  clear hS
  have q1 := heap_old w5 (.cells #[.int .i64 3, .string LB, .string MB] 23) q1
  have q3 := heap_push w5 (.cells #[.int .i64 3, .string LB, .string MB] 23)
  have hb6 := hb5.alloc hb5.size (.cells #[.int .i64 3, .string LB, .string MB] 23)
  clear hb5
  go_wp2_with fail
  generalize (w5.alloc (.cells #[.int .i64 3, .string LB, .string MB] 23)) = w6 at q1 q3 hb6 ⊢
  generalize w5.heap.size = B3 at q3 ⊢
  refine (entries_any w6).mono ?_
  rintro e w7 ⟨g3, rfl, hS, hb7⟩
  have q1 := heap_on hb7 q1
  have q3 := heap_on hb7 q3
  have hb7 := below_on hb6 hb7
  clear hb6
  go_wp2_with fail
  refine (H3.out g3 w7 (hE.on hb7) hS).mono ?_
  rintro e w8 ⟨a3, c3, rfl, hG, hb8⟩
  have q1 := heap_on hb8 q1
  have q3 := heap_on hb8 q3
  have hb8 := below_on hb7 hb8
  clear hb7
  clear hS
  go_wp2_with fail
  refine (entries_any w8).mono ?_
  rintro e w9 ⟨g4, rfl, hS, hb9⟩
  have q1 := heap_on hb9 q1
  have q3 := heap_on hb9 q3
  have hG := hG.on hb9
  have hb9 := below_on hb8 hb9
  clear hb8
  go_wp2_with fail
  rw [run_list]
  go_wp2_with fail
  refine (H4.out g4 w9 (hE.on hb9) (ex_drop hS)).mono ?_
  rintro e w10 ⟨rfl, hb10⟩
  have q1 := heap_on hb10 q1
  have q3 := heap_on hb10 q3
  have hG := hG.on hb10
  have hb10 := below_on hb9 hb10
  clear hb9
  clear hS
  have q1 := heap_old w10 (.cells #[.int .i64 2, .string LC, .string MC] 23) q1
  have q3 := heap_old w10 (.cells #[.int .i64 2, .string LC, .string MC] 23) q3
  have q7 := heap_push w10 (.cells #[.int .i64 2, .string LC, .string MC] 23)
  have hG := hG.on ((Below.refl _ w10).alloc (Nat.le_refl _) (.cells #[.int .i64 2, .string LC, .string MC] 23))
  have hb11 := hb10.alloc hb10.size (.cells #[.int .i64 2, .string LC, .string MC] 23)
  clear hb10
  have dq3_0 := heap_cell q3 0 _ rfl
  have dq3_1 := heap_cell q3 1 _ rfl
  have dq3_2 := heap_cell q3 2 _ rfl
  have dq1_0 := heap_cell q1 0 _ rfl
  have dq1_1 := heap_cell q1 1 _ rfl
  have dq1_2 := heap_cell q1 2 _ rfl
  go_wp2_with fail
  generalize (w10.alloc (.cells #[.int .i64 2, .string LC, .string MC] 23)) = w11 at q1 q3 q7 dq3_0 dq3_1 dq3_2 dq1_0 dq1_1 dq1_2 hG hb11 ⊢
  generalize w10.heap.size = B7 at q7 ⊢
  refine (M1.out a3 c3 w11 (hE.on hb11) hG).mono ?_
  rintro e w12 ⟨rfl, hb12⟩
  have q1 := heap_on hb12 q1
  have q3 := heap_on hb12 q3
  have q7 := heap_on hb12 q7
  have hG := hG.on hb12
  have hb12 := below_on hb11 hb12
  clear hb11
  clear dq3_0 dq3_1 dq3_2 dq1_0 dq1_1 dq1_2
  have dq1_0 := heap_cell q1 0 _ rfl
  have dq1_1 := heap_cell q1 1 _ rfl
  have dq1_2 := heap_cell q1 2 _ rfl
  have dq3_0 := heap_cell q3 0 _ rfl
  have dq3_1 := heap_cell q3 1 _ rfl
  have dq3_2 := heap_cell q3 2 _ rfl
  go_wp2_with fail
  refine (M2.out w12 (hE.on hb12)).mono ?_
  rintro e w13 ⟨rfl, hb13⟩
  have q1 := heap_on hb13 q1
  have q3 := heap_on hb13 q3
  have q7 := heap_on hb13 q7
  have hG := hG.on hb13
  have hb13 := below_on hb12 hb13
  clear hb12
  clear dq1_0 dq1_1 dq1_2 dq3_0 dq3_1 dq3_2
  have dq3_0 := heap_cell q3 0 _ rfl
  have dq3_1 := heap_cell q3 1 _ rfl
  have dq3_2 := heap_cell q3 2 _ rfl
  go_wp2_with fail
  refine (M3.out w13 (hE.on hb13)).mono ?_
  rintro e w14 ⟨rfl, hb14⟩
  have q1 := heap_on hb14 q1
  have q3 := heap_on hb14 q3
  have q7 := heap_on hb14 q7
  have hG := hG.on hb14
  have hb14 := below_on hb13 hb14
  clear hb13
  clear dq3_0 dq3_1 dq3_2
  have dq1_0 := heap_cell q1 0 _ rfl
  have dq1_1 := heap_cell q1 1 _ rfl
  have dq1_2 := heap_cell q1 2 _ rfl
  have dq7_0 := heap_cell q7 0 _ rfl
  have dq7_1 := heap_cell q7 1 _ rfl
  have dq7_2 := heap_cell q7 2 _ rfl
  go_wp2_with fail
  refine (M4.out a3 c3 w14 (hE.on hb14) hG).mono ?_
  rintro e w15 ⟨rfl, hb15⟩
  have q1 := heap_on hb15 q1
  have q3 := heap_on hb15 q3
  have q7 := heap_on hb15 q7
  have hG := hG.on hb15
  have hb15 := below_on hb14 hb15
  clear hb14
  clear dq1_0 dq1_1 dq1_2 dq7_0 dq7_1 dq7_2
  have dq7_0 := heap_cell q7 0 _ rfl
  have dq7_1 := heap_cell q7 1 _ rfl
  have dq7_2 := heap_cell q7 2 _ rfl
  go_wp2_with fail
  refine (M5.out w15 (hE.on hb15)).mono ?_
  rintro e w16 ⟨rfl, hb16⟩
  have q1 := heap_on hb16 q1
  have q3 := heap_on hb16 q3
  have q7 := heap_on hb16 q7
  have hG := hG.on hb16
  have hb16 := below_on hb15 hb16
  clear hb15
  clear dq7_0 dq7_1 dq7_2
  go_wp2_with fail
  go_ret
  exact ⟨rfl, hb16⟩
end Go.Proofs.YtmemahlibndoiafFmt
