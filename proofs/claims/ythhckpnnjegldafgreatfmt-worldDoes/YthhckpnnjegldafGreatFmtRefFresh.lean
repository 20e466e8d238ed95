/-
  Chapter 11's New as the document's own reckoning has it.
-/
import Derived.Test.YthhckpnnjegldafGreatFmtBooks
import Derived.Laws.CopyOwn
namespace Go.Proofs.YthhckpnnjegldafGreatFmt
open Go Go.RowKit

set_option maxRecDepth 100000 in
theorem fresh_any (w : World) : Calls Tryz.prog 12 #[] w fun e w' => ∃ a0 n0 c0 a1 n1 c1 a2 n2 c2, e = .returned (.agg #[.slice a0 n0 c0, .slice a1 n1 c1, .slice a2 n2 c2]) ∧ WAt w' a0 n0 c0 a1 n1 c1 a2 n2 c2 newW ∧ Below w.heap.size w w' := by
  obtain ⟨i0, hi0, hz0, hz1, hz2⟩ := info_parts infoClient
  have q0 := heap_push w (.cells #[.slice none 0 0, .slice none 0 0, .slice none 0 0] 28)
  have hb0 : Below w.heap.size w (w.alloc (.cells #[.slice none 0 0, .slice none 0 0, .slice none 0 0] 28)) := (Below.refl _ _).alloc (Nat.le_refl _) _
  have qs : (w.alloc (.cells #[.slice none 0 0, .slice none 0 0, .slice none 0 0] 28)).heap.size = w.heap.size + 1 := by show (w.heap.push _).size = _; rw [Array.size_push]
  go_enter Tryz.func12, Tryz.ntmps12
  go_wp2_with (first | (at_make; refine wpList_make_full _ rfl _ _ 26 rfl (w.heap.size + 1) 55 i0 (.agg #[.int .i64 0, .string ⟨#[]⟩, .string ⟨#[]⟩, .bool false]) 4 Tryz.underlying26 hi0 hz0 hz1 _ _ _ _ 3 rfl rfl rfl rfl (by rw [hz2]; omega) (by unfold maxLen; omega) (by rw [qs]; omega) ?_; intro w1 hown hg; rw [qs] at hown; have hb1 := hb0.grown hg (by rw [qs]; omega) (fun j hj => by cases hj); have p0 := heap_kept hg q0 (by simp)) | refine wpList_store_row rfl 28 (.tmp 0) (.tmp 2) rfl w.heap.size #[.slice none 0 0, .slice none 0 0, .slice (some ⟨w.heap.size + 1, 0, none⟩) 3 3] rfl rfl _ _ p0 (by kernel_rfl) rfl (three_cells _ _ _ _ _ _ _ _ _) ?_)
  rw [made_new] at hown
  have hb2 := below_setRow hb1 (g := w.heap.size) (Nat.le_refl _) #[.slice none 0 0, .slice none 0 0, .slice (some ⟨w.heap.size + 1, 0, none⟩) 3 3]
  refine bodyPost_ret (results_cell_row rfl _ _ w.heap.size _ _ _ _ rfl (setRow_heap _ _ _ _ _ _ p0) Tryz.underlying28 rfl (by kernel_rfl)) rfl ?_
  exact ⟨none, 0, 0, none, 0, 0, some ⟨w.heap.size + 1, 0, none⟩, 3, 3, rfl, ⟨rfl, ents_none _, rfl, ents_none _, rfl, clis_kept (l := newW.cs) hown (Nat.lt_add_one _) new_wide _⟩, hb2⟩
end Go.Proofs.YthhckpnnjegldafGreatFmt
