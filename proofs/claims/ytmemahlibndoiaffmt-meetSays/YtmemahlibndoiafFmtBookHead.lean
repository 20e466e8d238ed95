/-
  Contracts of package book: Put, Head.
-/
import Derived.Test.YtmemahlibndoiafFmtBookPut
namespace Go.Proofs.YtmemahlibndoiafFmt
open Go Go.RowKit Go.Maps




/- Head. -/
set_option maxRecDepth 100000 in
theorem head_no (l : List EntB) (a : Option Addr) (n c : Nat) (w : World) (hn : l.length = n) (hS : EntsAt w a c l) (z : Int) (hz : bookE l = z) (h0 : z ≠ 0) :
    Calls Tryf.prog 7 #[.agg #[.slice a n c]] w fun e w' => e = .returned (.tuple #[.agg #[.int .i64 0, .string ⟨#[]⟩, .string ⟨#[]⟩], .int .i64 z]) ∧ Below w.heap.size w w' := by
  have hva := fun w' hS => vals_no l a n c w' hn hS z hz h0
  have HV := Lib.hid hva
  have hz' : (z == 0) = false := by simp only [beq_eq_false_iff_ne, ne_eq]; exact h0
  clear hva hz
  obtain ⟨q0, q1, hb0⟩ := boxes2 w (.cells #[.slice a n c] 33) (.cells #[.int .i64 0, .string ⟨#[]⟩, .string ⟨#[]⟩] 23)
  go_enter Tryf.func7, Tryf.ntmps7
  go_wp2_with fail
  generalize ((w.alloc (.cells #[.slice a n c] 33)).alloc (.cells #[.int .i64 0, .string ⟨#[]⟩, .string ⟨#[]⟩] 23)) = W at q0 q1 hb0 ⊢
  refine (HV.out W (hS.on hb0)).mono ?_
  rintro e w1 ⟨rfl, hb1⟩
  have r1 := heap_on hb1 q1
  have hb2 := below_on hb0 hb1
  clear hb0 hb1 q0 q1 HV
  go_wp2_with (refine wpList_store_row rfl 23 (.tmp 2) (.tmp 15) rfl (w.heap.size + 1) #[.int .i64 0, .string ⟨#[]⟩, .string ⟨#[]⟩] rfl rfl _ _ r1 (by kernel_rfl) rfl (head_cells _ _ _) ?_)
  have hb3 := below_setRow hb2 (g := w.heap.size + 1) (by omega) #[.int .i64 0, .string ⟨#[]⟩, .string ⟨#[]⟩]
  refine bodyPost_ret (results_row_tmp rfl _ _ (w.heap.size + 1) _ _ _ _ rfl (setRow_heap _ _ _ _ _ _ r1) Tryf.underlying23 rfl (by kernel_rfl)) rfl ?_
  exact ⟨rfl, hb3⟩

def headV (l : List EntB) : Value := .agg #[.int .i64 (l.length : Int), .string (headLog l), .string (headMap l)]

set_option maxRecDepth 100000 in
theorem head_ok (l : List EntB) (a : Option Addr) (n c : Nat) (w : World) (hE : Tab w) (hn : l.length = n) (hS : EntsAt w a c l) (hG : GoodBook l) :
    Calls Tryf.prog 7 #[.agg #[.slice a n c]] w fun e w' => e = .returned (.tuple #[.agg #[.int .i64 (n : Int), .string (headLog l), .string (headMap l)], .int .i64 0]) ∧ Below w.heap.size w w' := by
  have hva := fun w' hS => vals_ok l a n c w' hn hS hG
  have htx := fun w' hE hS => texts_any l a n c w' hn hE hS (fun e he => by have := (hG.2 e he).2.2; omega) (by have := hG.1; omega)
  have hrt := fun a c w' hE hS => root_ok (textsE l) (headLog l) (headLog_root hG) a n c w' (by rw [textsE_len, hn]) hE hS
  have htr := fun p w' hE hM => root_good (some p) (valsD l) w' hE hM (valsD_good hG.2)
  have hmax := hS.max
  have hcap := hS.cap
  have hlm : headMap l = trieT (valN (valsD l)) 4 0 := rfl
  rw [← hlm] at htr
  generalize headMap l = hm at htr ⊢
  generalize headLog l = hl at hrt ⊢
  have HV := Lib.hid hva
  have HT := Lib.hid htx
  have HR := Lib.hid hrt
  have HM := Lib.hid htr
  clear hva htx hrt htr hlm
  obtain ⟨q0, q1, hb0⟩ := boxes2 w (.cells #[.slice a n c] 33) (.cells #[.int .i64 0, .string ⟨#[]⟩, .string ⟨#[]⟩] 23)
  go_enter Tryf.func7, Tryf.ntmps7
  go_wp2_with fail
  generalize ((w.alloc (.cells #[.slice a n c] 33)).alloc (.cells #[.int .i64 0, .string ⟨#[]⟩, .string ⟨#[]⟩] 23)) = W at q0 q1 hb0 ⊢
  refine (HV.out W (hS.on hb0)).mono ?_
  rintro e w1 ⟨p, rfl, hM, _, hb1⟩
  have r0 := heap_on hb1 q0
  have r1 := heap_on hb1 q1
  have hb2 := below_on hb0 hb1
  clear hb0 hb1 q0 q1 HV
  have d0 := heap_cell r0 0 _ rfl
  go_wp2_with fail
  refine (HT.out w1 (hE.on hb2) (hS.on hb2)).mono ?_
  rintro e w2 ⟨a', c', rfl, hSx, hb3⟩
  have s0 := heap_on hb3 r0
  have s1 := heap_on hb3 r1
  have hM := hM.on hb3
  have hb3 := below_on hb2 hb3
  clear r0 r1 hb2 HT d0
  go_wp2_with fail
  refine (HR.out a' c' w2 (hE.on hb3) hSx).mono ?_
  rintro e w3 ⟨rfl, hb4⟩
  have r0 := heap_on hb4 s0
  have r1 := heap_on hb4 s1
  have hM := hM.on hb4
  have hb4 := below_on hb3 hb4
  clear s0 s1 hb3 HR hSx
  go_wp2_with fail
  refine (HM.out p w3 (hE.on hb4) hM).mono ?_
  rintro e w4 ⟨rfl, hb5⟩
  have s0 := heap_on hb5 r0
  have s1 := heap_on hb5 r1
  have hb5 := below_on hb4 hb5
  clear r0 r1 hb4 HM hM
  have d0 := heap_cell s0 0 _ rfl
  go_wp2_with (refine wpList_store_row rfl 23 (.tmp 2) (.tmp 41) rfl (w.heap.size + 1) #[.int .i64 (n : Int), .string hl, .string hm] rfl rfl _ _ s1 (by kernel_rfl) rfl (head_cells _ _ _) ?_)
  have hb6 := below_setRow hb5 (g := w.heap.size + 1) (by omega) #[.int .i64 (n : Int), .string hl, .string hm]
  refine bodyPost_ret (results_row_tmp rfl _ _ (w.heap.size + 1) _ _ _ _ rfl (setRow_heap _ _ _ _ _ _ s1) Tryf.underlying23 rfl (by kernel_rfl)) rfl ?_
  exact ⟨rfl, hb6⟩
end Go.Proofs.YtmemahlibndoiafFmt
