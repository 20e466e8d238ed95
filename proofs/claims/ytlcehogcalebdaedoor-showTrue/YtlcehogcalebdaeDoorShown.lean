/-
  The closed fact of what a book shows: of one book of three entries.
-/
import Derived.Test.YtlcehogcalebdaeDoorShow
import Derived.Test.YtlcehogcalebdaeDoorEntries
import Derived.Test.YtlcehogcalebdaeDoorSlices
import Derived.Test.YtlcehogcalebdaeDoorPlanted
namespace Go.Proofs.YtlcehogcalebdaeDoor
open Go Go.RowKit Go.Maps

theorem shown_path : (pathS (textsE exB) 1).length = 2 := by decide +kernel
theorem shown_grow : growS (textsE exB) 2 true = [⟨#[76, 53, 32, 122]⟩] := by decide +kernel
theorem shown_val : valS (valsD exB) 5 = ⟨#[122]⟩ := by decide +kernel
theorem shown_yes : (valD (valsD exB) 5).isSome = true := by decide +kernel
theorem shown_no : (valD (valsD exB) 6).isSome = false := by decide +kernel

set_option maxHeartbeats 1000000 in
set_option maxRecDepth 100000 in
theorem shown_any (w : World) (hE : Tab w) :
    Calls Tryd.prog 5 #[] w fun e w' => e = .returned (.bool true) ∧ Below w.heap.size w w' := by
  have h1 := fun g w' hE hS => showEntry_ok exB (some ⟨g, 0, none⟩) 3 3 1 w' hE rfl hS exB_good (by omega)
  rw [show entAt exB 1 = (9, ⟨#[121]⟩) from rfl, shown_path] at h1
  simp only at h1
  have h2 := fun g w' hE hS => showGrowth_ok exB (some ⟨g, 0, none⟩) 3 3 2 w' hE rfl hS exB_good (by omega) (by omega)
  rw [shown_grow] at h2
  have h3 := fun g w' hE hS => showValue_ok exB (some ⟨g, 0, none⟩) 3 3 5 w' hE rfl hS exB_good (by omega)
  rw [show ((5 : Nat) : Int) = 5 from rfl, shown_val, shown_yes] at h3
  have h4 := fun g w' hE hS => showValue_ok exB (some ⟨g, 0, none⟩) 3 3 6 w' hE rfl hS exB_good (by omega)
  rw [show ((6 : Nat) : Int) = 6 from rfl, shown_no] at h4
  have h5 := fun g w' hE hS => showEntry_who exB (some ⟨g, 0, none⟩) 3 3 3 w' hE rfl hS exB_good (by omega)
  have H1 := Lib.hid h1
  have H2 := Lib.hid h2
  have H3 := Lib.hid h3
  have H4 := Lib.hid h4
  have H5 := Lib.hid h5
  clear h1 h2 h3 h4 h5
  go_enter Tryd.func5, Tryd.ntmps5
  go_wp2_with fail
  refine (entries_any w).mono ?_
  rintro e w1 ⟨g1, rfl, hS1, hb1⟩
  go_wp2_with fail
  refine (H1.out g1 w1 (hE.on hb1) hS1).mono ?_
  rintro e w2 ⟨a2, c2, rfl, _, hb2⟩
  have hb2 := below_on hb1 hb2
  clear hb1 hS1 H1
  have q3 := heap_push w2 (.cells #[.int .i64 9, .string ⟨#[121]⟩] 37)
  have hb3 := hb2.alloc hb2.size (.cells #[.int .i64 9, .string ⟨#[121]⟩] 37)
  go_wp2_with fail
  generalize (w2.alloc (.cells #[.int .i64 9, .string ⟨#[121]⟩] 37)) = w3 at q3 hb3 ⊢
  generalize w2.heap.size = B at q3 ⊢
  clear hb2
  refine (entries_any w3).mono ?_
  rintro e w4 ⟨g2, rfl, hS4, hb4⟩
  have q4 := heap_on hb4 q3
  have hb4 := below_on hb3 hb4
  clear hb3 q3
  go_wp2_with fail
  refine (H2.out g2 w4 (hE.on hb4) hS4).mono ?_
  rintro e w5 ⟨a5, c5, rfl, hL, hb5⟩
  have q5 := heap_on hb5 q4
  have hb5 := below_on hb4 hb5
  clear hb4 q4 hS4 H2
  go_wp2_with fail
  refine (entries_any w5).mono ?_
  rintro e w6 ⟨g3, rfl, hS6, hb6⟩
  have q6 := heap_on hb6 q5
  have hL := hL.on hb6
  have hb6 := below_on hb5 hb6
  clear hb5 q5
  go_wp2_with fail
  refine (H3.out g3 w6 (hE.on hb6) hS6).mono ?_
  rintro e w7 ⟨a7, c7, rfl, hM, hb7⟩
  have q7 := heap_on hb7 q6
  have hL := hL.on hb7
  have hb7 := below_on hb6 hb7
  clear hb6 q6 hS6 H3
  go_wp2_with fail
  refine (entries_any w7).mono ?_
  rintro e w8 ⟨g4, rfl, hS8, hb8⟩
  have q8 := heap_on hb8 q7
  have hL := hL.on hb8
  have hb8 := below_on hb7 hb8
  clear hb7 q7 hM
  go_wp2_with fail
  refine (H4.out g4 w8 (hE.on hb8) hS8).mono ?_
  rintro e w9 ⟨a9, c9, rfl, _, hb9⟩
  have q9 := heap_on hb9 q8
  have hL := hL.on hb9
  have hb9 := below_on hb8 hb9
  clear hb8 q8 hS8 H4
  go_wp2_with fail
  refine (entries_any w9).mono ?_
  rintro e w10 ⟨g5, rfl, hS10, hb10⟩
  have q10 := heap_on hb10 q9
  have hL := hL.on hb10
  have hb10 := below_on hb9 hb10
  clear hb9 q9
  go_wp2_with fail
  refine (H5.out g5 w10 (hE.on hb10) hS10).mono ?_
  rintro e w11 ⟨rfl, hb11⟩
  have q11 := heap_on hb11 q10
  have hL := hL.on hb11
  have hb11 := below_on hb10 hb11
  clear hb10 q10 hS10 H5
  have q12 := heap_old w11 (.cells #[.int .i64 0, .string ⟨#[]⟩] 37) q11
  have d12 := heap_cell q12 1 _ rfl
  have hb12 := hb11.alloc hb11.size (.cells #[.int .i64 0, .string ⟨#[]⟩] 37)
  have hL := hL.on ((Below.refl _ w11).alloc (Nat.le_refl _) (.cells #[.int .i64 0, .string ⟨#[]⟩] 37))
  clear q11 q12 hb11
  go_upto_region 6 with fail
  generalize (w11.alloc (.cells #[.int .i64 0, .string ⟨#[]⟩] 37)) = w12 at d12 hL hb12 ⊢
  have hQ := strs_laid w12 [⟨#[76, 53, 32, 122]⟩] 9 (by simp) (by intro s hs; rw [List.mem_singleton.1 hs]; decide)
  have hL := hL.on ((Below.refl _ w12).alloc (Nat.le_refl _) (.cells #[.string ⟨#[76, 53, 32, 122]⟩] 9))
  have hb13 := hb12.alloc hb12.size (.cells #[.string ⟨#[76, 53, 32, 122]⟩] 9)
  go_wp2_with fail
  refine (equal_strs [⟨#[76, 53, 32, 122]⟩] [⟨#[76, 53, 32, 122]⟩] a5 _ 1 c5 1 1 _ rfl rfl hL hQ).mono ?_
  rintro e w14 ⟨rfl, hb14⟩
  rw [decide_eq_true rfl]
  have hb14 := below_on hb13 hb14
  go_wp2_with fail
  go_ret
  exact ⟨rfl, hb14⟩
end Go.Proofs.YtlcehogcalebdaeDoor
