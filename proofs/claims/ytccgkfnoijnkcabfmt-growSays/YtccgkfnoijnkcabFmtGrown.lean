/-
  The closed fact of the grown lists' statements: from two to three, from three to five.
-/
import Derived.Test.YtccgkfnoijnkcabFmtGrownMath
import Derived.Test.YtccgkfnoijnkcabFmtGrowShows
import Derived.Test.YtccgkfnoijnkcabFmtSlices
namespace Go.Proofs.YtccgkfnoijnkcabFmt
open Go Go.RowKit

def fiveT : List ByteArray := [tA, tB, tC, gD, gE]
theorem fiveT_size : ∀ s ∈ fiveT, s.size ≤ 9223372036854775807 := by
  intro s hs
  simp only [fiveT, List.mem_cons, List.not_mem_nil, or_false] at hs
  rcases hs with rfl | rfl | rfl | rfl | rfl <;> decide

set_option maxRecDepth 100000 in
set_option maxHeartbeats 400000 in
theorem grown_any (w : World) (hE : Tab w) :
    Calls Tryf.prog 13 #[] w fun e w' => e = .returned (.bool true) ∧ Below w.heap.size w w' := by
  obtain ⟨r, hr, hrs⟩ := grown_all
  have hl : Below w.heap.size w (w.alloc (.cells #[.string tA, .string tB, .string tC, .string gD, .string gE] 9)) := (Below.refl _ _).alloc (Nat.le_refl _) _
  have hE0 := hE.on hl
  have hS : StrsAt (w.alloc (.cells #[.string tA, .string tB, .string tC, .string gD, .string gE] 9)) (some ⟨w.heap.size, 0, none⟩) 5 fiveT := strs_laid w fiveT 9 (by decide) fiveT_size
  have hS3 : StrsAt (w.alloc (.cells #[.string tA, .string tB, .string tC, .string gD, .string gE] 9)) (some ⟨w.heap.size, 0, none⟩) 5 [tA, tB, tC] := hS.take 3
  have hy := grown_yes hr
  have hz := grown_no hr
  have c1 := fun w' hE hS => growOf_ok [tA, tB, tC] (some ⟨w.heap.size, 0, none⟩) 3 5 2 tABC w' rfl hE hS root_abc (by omega) (by omega)
  have c2 := fun w' hE hS => growOf_ok fiveT (some ⟨w.heap.size, 0, none⟩) 5 5 3 r w' rfl hE hS hr (by omega) (by omega)
  rw [show growS fiveT 3 true = [gLc, gLd, gLab, gLe] from grow_abcde] at c2
  rw [grow_abc] at c1
  have zT : tABC.size ≤ 9223372036854775807 := by decide
  go_enter Tryf.func13, Tryf.ntmps13
  go_wp2_with fail
  refine (c1 _ hE0 hS3).mono ?_
  rintro e w1 ⟨a1, k1, rfl, _, hX, hb1⟩
  have hS := hS.on hb1
  have hS3 := hS3.on hb1
  have hb1 := below_on hl hb1
  have hE1 := hE.on hb1
  clear hl hE0 c1
  go_wp2_with fail
  refine (c2 _ hE1 hS).mono ?_
  rintro e w2 ⟨a2, k2, rfl, _, hY, hb2⟩
  have hX := hX.on hb2
  have hS := hS.on hb2
  have hS3 := hS3.on hb2
  have hb2 := below_on hb1 hb2
  have hE2 := hE.on hb2
  clear hb1 hE1 c2
  go_wp2_with fail
  refine (root_ok [tA, tB, tC] tABC root_abc _ 3 5 w2 rfl hE2 hS3).mono ?_
  rintro e w3 ⟨rfl, hb3⟩
  have hX := hX.on hb3
  have hY := hY.on hb3
  have hS := hS.on hb3
  have hb3 := below_on hb2 hb3
  have hE3 := hE.on hb3
  clear hb2 hE2 hS3
  go_wp2_with fail
  refine (root_ok fiveT r hr _ 5 5 w3 rfl hE3 hS).mono ?_
  rintro e w4 ⟨rfl, hb4⟩
  have hX := hX.on hb4
  have hY := hY.on hb4
  have hS := hS.on hb4
  have hb4 := below_on hb3 hb4
  have hE4 := hE.on hb4
  clear hb3 hE3
  go_wp2_with fail
  refine (growOf_range fiveT _ 5 5 6 r w4 rfl hE4 hS hr (by omega)).mono ?_
  rintro e w5 ⟨rfl, hb5⟩
  have hX := hX.on hb5
  have hY := hY.on hb5
  have hb5 := below_on hb4 hb5
  clear hb4 hE4 hS
  have hl : Below w5.heap.size w5 (w5.alloc (.cells #[.string gLc] 9)) := (Below.refl _ _).alloc (Nat.le_refl _) _
  have hQ := strs_laid w5 [gLc] 9 (by simp) (by intro s hs; rw [List.mem_singleton.1 hs]; decide)
  have hX := hX.on hl
  have hY := hY.on hl
  have hb5 := below_on hb5 hl
  go_wp2_with fail
  refine (equal_strs [gLc] [gLc] _ _ 1 k1 1 1 _ rfl rfl hX hQ).mono ?_
  rintro e w6 ⟨rfl, hb6⟩
  have hY := hY.on hb6
  have hb6 := below_on hb5 hb6
  clear hb5 hQ hl hX
  rw [decide_eq_true rfl]
  have hl : Below w6.heap.size w6 (w6.alloc (.cells #[.string gLc, .string gLd, .string gLab, .string gLe] 9)) := (Below.refl _ _).alloc (Nat.le_refl _) _
  have hQ := strs_laid w6 [gLc, gLd, gLab, gLe] 9 (by simp) (by intro s hs; simp only [List.mem_cons, List.not_mem_nil, or_false] at hs; rcases hs with rfl | rfl | rfl | rfl <;> decide)
  have hY := hY.on hl
  have hb6 := below_on hb6 hl
  go_wp2_with fail
  refine (equal_strs [gLc, gLd, gLab, gLe] [gLc, gLd, gLab, gLe] _ _ 4 k2 4 4 _ rfl rfl hY hQ).mono ?_
  rintro e w7 ⟨rfl, hb7⟩
  have hY := hY.on hb7
  have hb7 := below_on hb6 hb7
  have hE7 := hE.on hb7
  clear hb6 hQ hl
  rw [decide_eq_true rfl]
  go_wp2_with fail
  refine (growShows_any tABC 3 r 5 [gLc, gLd, gLab, gLe] _ 4 k2 w7 rfl hE7 hY zT).mono ?_
  rintro e w8 ⟨rfl, hb8⟩
  have hb8 := below_on hb7 hb8
  have hE8 := hE.on hb8
  clear hb7 hE7 hY
  rw [hy]
  go_wp2_with fail
  refine (growShows_any tABC 3 r 5 [] _ 0 0 w8 rfl hE8 (strs_none w8) zT).mono ?_
  rintro e w9 ⟨rfl, hb9⟩
  have hb9 := below_on hb8 hb9
  rw [hz]
  go_wp2_with fail
  go_ret
  exact ⟨rfl, hb9⟩
end Go.Proofs.YtccgkfnoijnkcabFmt
