/-
  Chapter 6's Head as the document's own reckoning has it.
-/
import Derived.Test.YtnemiobgmdpnmagGreatFmtRefVals
import Derived.Test.YtnemiobgmdpnmagGreatFmtRootOf
import Derived.Test.YtnemiobgmdpnmagGreatFmtRefRoots
import Derived.Test.YtnemiobgmdpnmagGreatFmtHeadAny
import Derived.Deep.RegionHeld3
namespace Go.Proofs.YtnemiobgmdpnmagGreatFmt
open Go Go.RowKit Go.Maps Go.Kit Go.Extern.Stop Go.Stop Go.Extern

theorem out_top {w : World} {B g cap : Nat} {vs : List Value} {f : Nat → Option ByteArray} (h : OutAt w B g 5 cap vs f) :
    5 ≤ cap ∧ cap ≤ 9223372036854775807 ∧ ∃ b off c, w.cell? ⟨g, 4, none⟩ = some (.slice (some ⟨b, off, none⟩) 1 c) ∧ 1 ≤ c ∧ c ≤ 9223372036854775807 ∧ w.cell? ⟨b, off, none⟩ = some (.string (trieT f 4 0)) := by
  obtain ⟨h1, h2, h3⟩ := owned_cell h.own h.len
  obtain ⟨a, c, e, hS, _⟩ := h.rows 4 (by omega)
  have hl : (rowT f 4).length = 1 := rowT_len f 4
  obtain ⟨b, off, rfl, _, hc⟩ := hS.cells (by omega)
  refine ⟨h1, h2, b, off, c, ?_, by have := hS.cap; omega, hS.max, ?_⟩
  · rw [h3 4 (by omega), e, hl]
  · have := hc 0 (by omega)
    rw [Nat.add_zero] at this
    rw [this]
    have e0 : (rowT f 4).getD 0 ByteArray.empty = trieT f 4 0 := rowT_getD f (by decide)
    rw [e0]

theorem store3 {w : World} {g : Nat} {x y z : Value} {t : TypeId} (h : w.heap[g]? = some (.cells #[x, y, z] t)) :
    w.cell? ⟨g, 0, none⟩ = some x ∧ w.frozen? ⟨g, 0, none⟩ = false ∧ (∀ u, (w.setCell ⟨g, 0, none⟩ u).cell? ⟨g, 1, none⟩ = some y) ∧ (∀ u, (w.setCell ⟨g, 0, none⟩ u).frozen? ⟨g, 1, none⟩ = false) ∧
      (∀ u v, ((w.setCell ⟨g, 0, none⟩ u).setCell ⟨g, 1, none⟩ v).cell? ⟨g, 2, none⟩ = some z) ∧ (∀ u v, ((w.setCell ⟨g, 0, none⟩ u).setCell ⟨g, 1, none⟩ v).frozen? ⟨g, 2, none⟩ = false) ∧
      ∀ u v s, (((w.setCell ⟨g, 0, none⟩ u).setCell ⟨g, 1, none⟩ v).setCell ⟨g, 2, none⟩ s).heap[g]? = some (.cells #[u, v, s] t) := by
  have h1 := fun u => heap_setCell_same w g 0 _ t u h
  have h2 := fun u v => heap_setCell_same _ g 1 _ t v (h1 u)
  have h3 := fun u v s => heap_setCell_same _ g 2 _ t s (h2 u v)
  exact ⟨heap_cell h 0 _ rfl, frozen_of_row w g 0 _ _ h, fun u => heap_cell (h1 u) 1 _ rfl, fun u => frozen_of_row _ g 1 _ _ (h1 u), fun u v => heap_cell (h2 u v) 2 _ rfl, fun u v => frozen_of_row _ g 2 _ _ (h2 u v), fun u v s => h3 u v s⟩
theorem below_set3 {w0 w : World} {B g : Nat} (hb : Below B w0 w) (hg : B ≤ g) (hB : B ≤ w.heap.size) (u v s : Value) : Below B w0 (((w.setCell ⟨g, 0, none⟩ u).setCell ⟨g, 1, none⟩ v).setCell ⟨g, 2, none⟩ s) := by
  have k : ∀ j, some g = some j → B ≤ j := fun j hj => by injection hj with hj; omega
  have h1 := hb.grown (set_grown w g 0 u) hB k
  have h2 := h1.grown (set_grown _ g 1 v) (by simpa using hB) k
  exact h2.grown (set_grown _ g 2 s) (by simpa using hB) k

set_option maxHeartbeats 4000000 in
set_option maxRecDepth 100000 in
theorem headOf_ok (I : Interp) (l : List EntB) (a : Option Addr) (n c : Nat) (w : World) (hF : I.told.answers w.tape) (hn : l.length = n) (hS : EntsAt w a c l) (hG : GoodBook l) :
    Calls Tryz.prog 9 #[.agg #[.slice a n c]] w fun e w' => e = .returned (.tuple #[.agg #[.int .i64 (n : Int), .string (headLog l), .string (headMap l)], .int .i64 0]) ∧ Below w.heap.size w w' := by
  have hck := fun w' h => checkBook_any l a n c w' hn h
  rw [(bookE_iff l).2 hG] at hck
  have htx := fun w' hF hS => textsOf_any I l a n c w' hn hF hS (fun e he => by have := (hG.2 e he).2.2; omega) (by have := hG.1; omega)
  have hrt := fun a c w' hF hS => rootOf_any I (textsE l) a n c w' hF (by rw [textsE_len, hn]) hS
  rw [(root_pos (headLog_root hG)).1, (root_pos (headLog_root hG)).2] at hrt
  have hva := fun w' hS => valuesOf_any l a n c w' hn hS (by have := hG.1; omega)
  have hmr := fun p w' hF hM => mapRoots_ok I (some p) (backD l) w' hF hM (back_good hG)
  have hmax := hS.max
  have hcap := hS.cap
  have hbr := back_root l
  generalize headMap l = hm at hbr ⊢
  generalize headLog l = hl at hrt ⊢
  have HC := Lib.hid hck
  have HV := Lib.hid hva
  have HT := Lib.hid htx
  have HR := Lib.hid hrt
  have HM := Lib.hid hmr
  have HB := Lib.hid hbr
  clear hck hva htx hrt hmr hbr
  obtain ⟨q0, q1, hb0⟩ := boxes2 w (.cells #[.slice a n c] 24) (.cells #[.int .i64 0, .string ⟨#[]⟩, .string ⟨#[]⟩] 40)
  go_enter Tryz.func9, Tryz.ntmps9
  go_wp2_with fail
  generalize ((w.alloc (.cells #[.slice a n c] 24)).alloc (.cells #[.int .i64 0, .string ⟨#[]⟩, .string ⟨#[]⟩] 40)) = W at q0 q1 hb0 ⊢
  refine (HC.out W (hS.on hb0)).mono ?_
  rintro e w1 ⟨rfl, hb1⟩
  have r0 := heap_on hb1 q0
  have r1 := heap_on hb1 q1
  have hb2 := below_on hb0 hb1
  clear hb0 hb1 q0 q1 HC
  have d0 := heap_cell r0 0 _ rfl
  go_wp2_with fail
  refine (HT.out w1 (by rw [hb2.tape]; exact hF) (hS.on hb2)).mono ?_
  rintro e w2 ⟨a', c', rfl, hSx, hb3⟩
  have s0 := heap_on hb3 r0
  have s1 := heap_on hb3 r1
  have hb3 := below_on hb2 hb3
  clear r0 r1 hb2 HT d0
  go_wp2_with fail
  refine (HR.out a' c' w2 (by rw [hb3.tape]; exact hF) hSx).mono ?_
  rintro e w3 ⟨rfl, hb4⟩
  have r0 := heap_on hb4 s0
  have r1 := heap_on hb4 s1
  have hb4 := below_on hb3 hb4
  clear s0 s1 hb3 HR hSx
  have d0 := heap_cell r0 0 _ rfl
  go_upto_region 5 with fail
  have cV := Lib.hid (fun w' (h : Below w.heap.size w w') => HV.out w' (hS.on h))
  have cM := Lib.hid (fun p w' (h : Below w.heap.size w w') hM => HM.out p w' (by rw [h.tape]; exact hF) hM)
  go_region_with (first
      | (go_at_call 21; refine (cV.out _ ?_).mono ?_; exact hb4.drew; rintro e w6 ⟨p, rfl, hM6, hb6⟩; have y6 := heap_on hb6 (show _ from r1); have x6 := heap_on hb6 (show _ from r0); have z6 := below_on hb4.drew hb6; have v6 := heap_cell x6 0 _ rfl)
      | (go_at_call 20; refine (cM.out p _ ?_ ?_).mono ?_; exact z6; exact hM6; rintro e w7 ⟨g, cap, vs, rfl, hO, hb7⟩; have y7 := heap_on hb7 y6; have x7 := heap_on hb7 x6; have z7 := below_on z6 hb7; obtain ⟨o1, o2, b4, off4, c4, o3, o4, o5, o6⟩ := out_top hO; rw [HB.out] at o6; have v7 := heap_cell x7 0 _ rfl; obtain ⟨t0, t1, t2, t3, t4, t5, t6⟩ := store3 y7))
  all_goals
    go_wp2_with fail
    refine bodyPost_ret (results_row_tmp rfl _ _ (w.heap.size + 1) _ _ _ _ rfl (t6 _ _ _) Tryz.underlying40 rfl (by kernel_rfl)) rfl ?_
    exact ⟨rfl, below_set3 z7 (by omega) z7.size _ _ _⟩

set_option maxRecDepth 100000 in
theorem headOf_no (l : List EntB) (a : Option Addr) (n c : Nat) (w : World) (hn : l.length = n) (hS : EntsAt w a c l) (z : Int) (hz : bookE l = z) (h0 : z ≠ 0) :
    Calls Tryz.prog 9 #[.agg #[.slice a n c]] w fun e w' => e = .returned (.tuple #[.agg #[.int .i64 0, .string ⟨#[]⟩, .string ⟨#[]⟩], .int .i64 z]) ∧ Below w.heap.size w w' := by
  have hck := fun w' h => checkBook_any l a n c w' hn h
  rw [hz] at hck
  have HC := Lib.hid hck
  have hz' : (z == 0) = false := by simp only [beq_eq_false_iff_ne, ne_eq]; exact h0
  clear hck hz
  obtain ⟨q0, q1, hb0⟩ := boxes2 w (.cells #[.slice a n c] 24) (.cells #[.int .i64 0, .string ⟨#[]⟩, .string ⟨#[]⟩] 40)
  go_enter Tryz.func9, Tryz.ntmps9
  go_wp2_with fail
  generalize ((w.alloc (.cells #[.slice a n c] 24)).alloc (.cells #[.int .i64 0, .string ⟨#[]⟩, .string ⟨#[]⟩] 40)) = W at q0 q1 hb0 ⊢
  refine (HC.out W (hS.on hb0)).mono ?_
  rintro e w1 ⟨rfl, hb1⟩
  have r1 := heap_on hb1 q1
  have hb2 := below_on hb0 hb1
  clear hb0 hb1 q0 q1 HC
  go_wp2_with (refine wpList_store_row rfl 40 (.tmp 2) (.tmp 11) rfl (w.heap.size + 1) #[.int .i64 0, .string ⟨#[]⟩, .string ⟨#[]⟩] rfl rfl _ _ r1 (by kernel_rfl) rfl (head_cells _ _ _) ?_)
  have hb3 := below_setRow hb2 (g := w.heap.size + 1) (by omega) #[.int .i64 0, .string ⟨#[]⟩, .string ⟨#[]⟩]
  refine bodyPost_ret (results_row_tmp rfl _ _ (w.heap.size + 1) _ _ _ _ rfl (setRow_heap _ _ _ _ _ _ r1) Tryz.underlying40 rfl (by kernel_rfl)) rfl ?_
  exact ⟨rfl, hb3⟩
theorem headOf_any (I : Interp) (l : List EntB) (a : Option Addr) (n c : Nat) (w : World) (hF : I.told.answers w.tape) (hn : l.length = n) (hS : EntsAt w a c l) :
    Calls Tryz.prog 9 #[.agg #[.slice a n c]] w fun e w' => e = .returned (.tuple #[.agg #[.int .i64 (headN l), .string (headL l), .string (headM l)], .int .i64 (bookE l)]) ∧ Below w.heap.size w w' := by
  by_cases h : bookE l = 0
  · obtain ⟨e1, e2, e3⟩ := head_pos h
    rw [e1, e2, e3, h, hn]
    exact headOf_ok I l a n c w hF hn hS ((bookE_iff l).1 h)
  · obtain ⟨e1, e2, e3⟩ := head_neg h
    rw [e1, e2, e3]
    exact headOf_no l a n c w hn hS _ rfl h
end Go.Proofs.YtnemiobgmdpnmagGreatFmt
