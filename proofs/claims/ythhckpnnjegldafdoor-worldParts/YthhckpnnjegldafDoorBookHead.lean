/-
  Contracts of package book: Put, Head.
-/
import Derived.Test.YthhckpnnjegldafDoorBookPut
namespace Go.Proofs.YthhckpnnjegldafDoor
open Go Go.RowKit Go.Maps

set_option maxRecDepth 100000 in
theorem put_bad (l : List EntB) (a : Option Addr) (n c : Nat) (k : Int) (v : ByteArray) (w : World) (hn : l.length = n) (hS : EntsAt w a c l) (z : Int) (hz : bookE l = z) (h0 : z ≠ 0) :
    Calls Tryd.prog 63 #[.agg #[.slice a n c], .agg #[.int .i64 k, .string v]] w fun e w' => e = .returned (.tuple #[.agg #[.slice none 0 0], .int .i64 z]) ∧ Below w.heap.size w w' := by
  have hck := fun w' h => bcheck_any l a n c w' hn h
  rw [hz] at hck
  have HC := Lib.hid hck
  have hz' : (z == 0) = false := by simp only [beq_eq_false_iff_ne, ne_eq]; exact h0
  clear hck hz
  obtain ⟨q0, q1, q2, qs⟩ := boxes3 w (.cells #[.slice a n c] 24) (.cells #[.int .i64 k, .string v] 34) (.cells #[.slice none 0 0] 24)
  have hb0 := below3 w (.cells #[.slice a n c] 24) (.cells #[.int .i64 k, .string v] 34) (.cells #[.slice none 0 0] 24)
  go_enter Tryd.func63, Tryd.ntmps63
  go_wp2_with fail
  generalize (((w.alloc (.cells #[.slice a n c] 24)).alloc (.cells #[.int .i64 k, .string v] 34)).alloc (.cells #[.slice none 0 0] 24)) = W at q0 q1 q2 qs hb0 ⊢
  refine (HC.out W (hS.on hb0)).mono ?_
  rintro e w1 ⟨rfl, hb1⟩
  have r2 := heap_on hb1 q2
  have hb2 := below_on hb0 hb1
  clear hb0 hb1 q0 q1 q2 qs HC
  have t0 := heap_cell r2 0 _ rfl
  have t1 := frozen_of_row w1 (w.heap.size + 1 + 1) 0 _ _ r2
  go_wp2_with fail
  have hb3 := hb2.grown (set_grown w1 (w.heap.size + 1 + 1) 0 (.slice none 0 0)) hb2.size (fun j hj => by cases hj; omega)
  refine bodyPost_ret (results_row_tmp rfl _ _ (w.heap.size + 1 + 1) _ _ _ _ rfl (set_same r2 _) Tryd.underlying24 rfl (by kernel_rfl)) rfl ?_
  exact ⟨rfl, hb3⟩

set_option maxRecDepth 100000 in
theorem put_no (l : List EntB) (a : Option Addr) (n c : Nat) (k : Int) (v : ByteArray) (w : World) (hn : l.length = n) (hS : EntsAt w a c l) (hx : WideEnt (k, v)) (h : bookE l = 0) (z : Int) (hz : bookE (l ++ [(k, v)]) = z) (h0 : z ≠ 0) :
    Calls Tryd.prog 63 #[.agg #[.slice a n c], .agg #[.int .i64 k, .string v]] w fun e w' => e = .returned (.tuple #[.agg #[.slice none 0 0], .int .i64 z]) ∧ Below w.heap.size w w' := by
  have h24 := ((bookE_iff l).1 h).1
  have hck := fun w' h => bcheck_any l a n c w' hn h
  rw [h] at hck
  have hck2 := fun g w' h => bcheck_any (l ++ [(k, v)]) (some ⟨g, 0, none⟩) (n + 1) (n + 1) w' (by rw [List.length_append, hn]; rfl) h
  rw [hz] at hck2
  have hwi := fun w' hS => with_any l a n c k v w' hn hS hx (by omega)
  have HC := Lib.hid hck
  have HC2 := Lib.hid hck2
  have HW := Lib.hid hwi
  have hz' : (z == 0) = false := by simp only [beq_eq_false_iff_ne, ne_eq]; exact h0
  clear hck hck2 hwi hz h
  obtain ⟨q0, q1, q2, qs⟩ := boxes3 w (.cells #[.slice a n c] 24) (.cells #[.int .i64 k, .string v] 34) (.cells #[.slice none 0 0] 24)
  have hb0 := below3 w (.cells #[.slice a n c] 24) (.cells #[.int .i64 k, .string v] 34) (.cells #[.slice none 0 0] 24)
  go_enter Tryd.func63, Tryd.ntmps63
  go_wp2_with fail
  generalize (((w.alloc (.cells #[.slice a n c] 24)).alloc (.cells #[.int .i64 k, .string v] 34)).alloc (.cells #[.slice none 0 0] 24)) = W at q0 q1 q2 qs hb0 ⊢
  refine (HC.out W (hS.on hb0)).mono ?_
  rintro e w1 ⟨rfl, hb1⟩
  have r0 := heap_on hb1 q0
  have r1 := heap_on hb1 q1
  have r2 := heap_on hb1 q2
  have hb2 := below_on hb0 hb1
  clear hb0 hb1 q0 q1 q2 qs HC
  have d0 := heap_cell r0 0 _ rfl
  have d1 := heap_cell r1 0 _ rfl
  have d2 := heap_cell r1 1 _ rfl
  go_wp2_with fail
  refine (HW.out w1 (hS.on hb2)).mono ?_
  rintro e w2 ⟨g, rfl, _, hS2, hb3⟩
  have s2 := heap_on hb3 r2
  have hb3 := below_on hb2 hb3
  clear d0 d1 d2 r0 r1 r2 hb2 HW
  have u2 := heap_old w2 (.cells #[.slice (some ⟨g, 0, none⟩) (n + 1) (n + 1)] 24) s2
  have hb4 := hb3.alloc hb3.size (.cells #[.slice (some ⟨g, 0, none⟩) (n + 1) (n + 1)] 24)
  have hS4 := hS2.on ((Below.refl _ w2).alloc (Nat.le_refl _) (.cells #[.slice (some ⟨g, 0, none⟩) (n + 1) (n + 1)] 24))
  go_wp2_with fail
  generalize (w2.alloc (.cells #[.slice (some ⟨g, 0, none⟩) (n + 1) (n + 1)] 24)) = w4 at u2 hb4 hS4 ⊢
  refine (HC2.out g w4 hS4).mono ?_
  rintro e w5 ⟨rfl, hb5⟩
  have v2 := heap_on hb5 u2
  have hb5 := below_on hb4 hb5
  clear HC2 hS4 hb4 u2 s2 hS2 hb3
  have t0 := heap_cell v2 0 _ rfl
  have t1 := frozen_of_row w5 (w.heap.size + 1 + 1) 0 _ _ v2
  go_wp2_with fail
  have hb6 := hb5.grown (set_grown w5 (w.heap.size + 1 + 1) 0 (.slice none 0 0)) hb5.size (fun j hj => by cases hj; omega)
  refine bodyPost_ret (results_row_tmp rfl _ _ (w.heap.size + 1 + 1) _ _ _ _ rfl (set_same v2 _) Tryd.underlying24 rfl (by kernel_rfl)) rfl ?_
  exact ⟨rfl, hb6⟩

set_option maxRecDepth 100000 in
theorem put_at (l : List EntB) (a : Option Addr) (n c : Nat) (k : Int) (v : ByteArray) (w : World) (hn : l.length = n) (hS : EntsAt w a c l) (hx : WideEnt (k, v)) (h : bookE l = 0) (hz : bookE (l ++ [(k, v)]) = 0) :
    Calls Tryd.prog 63 #[.agg #[.slice a n c], .agg #[.int .i64 k, .string v]] w fun e w' => ∃ g, e = .returned (.tuple #[.agg #[.slice (some ⟨g, 0, none⟩) (n + 1) (n + 1)], .int .i64 0]) ∧ w.heap.size ≤ g ∧ EntsAt w' (some ⟨g, 0, none⟩) (n + 1) (l ++ [(k, v)]) ∧ Below w.heap.size w w' := by
  have h24 := ((bookE_iff l).1 h).1
  have hck := fun w' h => bcheck_any l a n c w' hn h
  rw [h] at hck
  have hck2 := fun g w' h => bcheck_any (l ++ [(k, v)]) (some ⟨g, 0, none⟩) (n + 1) (n + 1) w' (by rw [List.length_append, hn]; rfl) h
  rw [hz] at hck2
  have hwi := fun w' hS => with_any l a n c k v w' hn hS hx (by omega)
  have HC := Lib.hid hck
  have HC2 := Lib.hid hck2
  have HW := Lib.hid hwi
  clear hck hck2 hwi hz h
  obtain ⟨q0, q1, q2, qs⟩ := boxes3 w (.cells #[.slice a n c] 24) (.cells #[.int .i64 k, .string v] 34) (.cells #[.slice none 0 0] 24)
  have hb0 := below3 w (.cells #[.slice a n c] 24) (.cells #[.int .i64 k, .string v] 34) (.cells #[.slice none 0 0] 24)
  go_enter Tryd.func63, Tryd.ntmps63
  go_wp2_with fail
  generalize (((w.alloc (.cells #[.slice a n c] 24)).alloc (.cells #[.int .i64 k, .string v] 34)).alloc (.cells #[.slice none 0 0] 24)) = W at q0 q1 q2 qs hb0 ⊢
  refine (HC.out W (hS.on hb0)).mono ?_
  rintro e w1 ⟨rfl, hb1⟩
  have r0 := heap_on hb1 q0
  have r1 := heap_on hb1 q1
  have r2 := heap_on hb1 q2
  have hb2 := below_on hb0 hb1
  have hlt2 := (Array.getElem?_eq_some_iff.1 r2).1
  clear hb0 hb1 q0 q1 q2 qs HC
  have d0 := heap_cell r0 0 _ rfl
  have d1 := heap_cell r1 0 _ rfl
  have d2 := heap_cell r1 1 _ rfl
  go_wp2_with fail
  refine (HW.out w1 (hS.on hb2)).mono ?_
  rintro e w2 ⟨g, rfl, hgb, hS2, hb3⟩
  have hgw : w.heap.size ≤ g := Nat.le_trans hb2.size hgb
  have s2 := heap_on hb3 r2
  have hb3 := below_on hb2 hb3
  clear d0 d1 d2 r0 r1 r2 hb2 HW
  have u2 := heap_old w2 (.cells #[.slice (some ⟨g, 0, none⟩) (n + 1) (n + 1)] 24) s2
  have u3 := heap_push w2 (.cells #[.slice (some ⟨g, 0, none⟩) (n + 1) (n + 1)] 24)
  have hb4 := hb3.alloc hb3.size (.cells #[.slice (some ⟨g, 0, none⟩) (n + 1) (n + 1)] 24)
  have hS4 := hS2.on ((Below.refl _ w2).alloc (Nat.le_refl _) (.cells #[.slice (some ⟨g, 0, none⟩) (n + 1) (n + 1)] 24))
  go_wp2_with fail
  generalize (w2.alloc (.cells #[.slice (some ⟨g, 0, none⟩) (n + 1) (n + 1)] 24)) = w4 at u2 u3 hb4 hS4 ⊢
  generalize w2.heap.size = B3 at u3 ⊢
  refine (HC2.out g w4 hS4).mono ?_
  rintro e w5 ⟨rfl, hb5⟩
  have v2 := heap_on hb5 u2
  have v3 := heap_on hb5 u3
  have hS5 := hS4.on hb5
  have hb5 := below_on hb4 hb5
  clear HC2 hS4 hb4 u2 u3 s2 hS2 hb3
  have t0 := heap_cell v2 0 _ rfl
  have t1 := frozen_of_row w5 (w.heap.size + 1 + 1) 0 _ _ v2
  have t2 := heap_cell v3 0 _ rfl
  go_wp2_with fail
  have hg6 := set_grown w5 (w.heap.size + 1 + 1) 0 (.slice (some ⟨g, 0, none⟩) (n + 1) (n + 1))
  have hb6 := hb5.grown hg6 hb5.size (fun j hj => by cases hj; omega)
  have hS6 := hS5.grown hg6 (fun b off e => by injection e with e; injection e with e _ _; intro e2; injection e2 with e2; omega)
  refine bodyPost_ret (results_row_tmp rfl _ _ (w.heap.size + 1 + 1) _ _ _ _ rfl (set_same v2 _) Tryd.underlying24 rfl (by kernel_rfl)) rfl ?_
  exact ⟨g, rfl, hgw, hS6, hb6⟩
theorem put_ok (l : List EntB) (a : Option Addr) (n c : Nat) (k : Int) (v : ByteArray) (w : World) (hn : l.length = n) (hS : EntsAt w a c l) (hx : WideEnt (k, v)) (h : bookE l = 0) (hz : bookE (l ++ [(k, v)]) = 0) :
    Calls Tryd.prog 63 #[.agg #[.slice a n c], .agg #[.int .i64 k, .string v]] w fun e w' => ∃ g, e = .returned (.tuple #[.agg #[.slice (some ⟨g, 0, none⟩) (n + 1) (n + 1)], .int .i64 0]) ∧ EntsAt w' (some ⟨g, 0, none⟩) (n + 1) (l ++ [(k, v)]) ∧ Below w.heap.size w w' :=
  (put_at l a n c k v w hn hS hx h hz).mono fun _ _ ⟨g, he, _, hS', hb⟩ => ⟨g, he, hS', hb⟩

/- Head. -/
set_option maxRecDepth 100000 in
theorem head_no (l : List EntB) (a : Option Addr) (n c : Nat) (w : World) (hn : l.length = n) (hS : EntsAt w a c l) (z : Int) (hz : bookE l = z) (h0 : z ≠ 0) :
    Calls Tryd.prog 6 #[.agg #[.slice a n c]] w fun e w' => e = .returned (.tuple #[.agg #[.int .i64 0, .string ⟨#[]⟩, .string ⟨#[]⟩], .int .i64 z]) ∧ Below w.heap.size w w' := by
  have hva := fun w' hS => vals_no l a n c w' hn hS z hz h0
  have HV := Lib.hid hva
  have hz' : (z == 0) = false := by simp only [beq_eq_false_iff_ne, ne_eq]; exact h0
  clear hva hz
  obtain ⟨q0, q1, hb0⟩ := boxes2 w (.cells #[.slice a n c] 24) (.cells #[.int .i64 0, .string ⟨#[]⟩, .string ⟨#[]⟩] 27)
  go_enter Tryd.func6, Tryd.ntmps6
  go_wp2_with fail
  generalize ((w.alloc (.cells #[.slice a n c] 24)).alloc (.cells #[.int .i64 0, .string ⟨#[]⟩, .string ⟨#[]⟩] 27)) = W at q0 q1 hb0 ⊢
  refine (HV.out W (hS.on hb0)).mono ?_
  rintro e w1 ⟨rfl, hb1⟩
  have r1 := heap_on hb1 q1
  have hb2 := below_on hb0 hb1
  clear hb0 hb1 q0 q1 HV
  go_wp2_with (refine wpList_store_row rfl 27 (.tmp 2) (.tmp 15) rfl (w.heap.size + 1) #[.int .i64 0, .string ⟨#[]⟩, .string ⟨#[]⟩] rfl rfl _ _ r1 (by kernel_rfl) rfl (head_cells _ _ _) ?_)
  have hb3 := below_setRow hb2 (g := w.heap.size + 1) (by omega) #[.int .i64 0, .string ⟨#[]⟩, .string ⟨#[]⟩]
  refine bodyPost_ret (results_row_tmp rfl _ _ (w.heap.size + 1) _ _ _ _ rfl (setRow_heap _ _ _ _ _ _ r1) Tryd.underlying27 rfl (by kernel_rfl)) rfl ?_
  exact ⟨rfl, hb3⟩

def headV (l : List EntB) : Value := .agg #[.int .i64 (l.length : Int), .string (headLog l), .string (headMap l)]

set_option maxRecDepth 100000 in
theorem head_ok (l : List EntB) (a : Option Addr) (n c : Nat) (w : World) (hE : Tab w) (hn : l.length = n) (hS : EntsAt w a c l) (hG : GoodBook l) :
    Calls Tryd.prog 6 #[.agg #[.slice a n c]] w fun e w' => e = .returned (.tuple #[.agg #[.int .i64 (n : Int), .string (headLog l), .string (headMap l)], .int .i64 0]) ∧ Below w.heap.size w w' := by
  have hva := fun w' hS => vals_ok l a n c w' hn hS hG
  have htx := fun w' hE hS => texts_any l a n c w' hn hE hS (fun e he => by have := (hG.2 e he).2.2; omega) (by have := hG.1; omega)
  have hrt := fun a c w' hE hS => root_ok (textsE l) (headLog l) (headLog_root hG) a n c w' (by rw [textsE_len, hn]) hE hS
  have htr := fun p w' hE hM => root_good (some p) (valsD l) w' hE hM (valsD_good hG.2)
  have hmax := hS.max
  have hcap := hS.cap
  have hlm : headMap l = trieT (valN (valsD l)) 4 0 := rfl
  rw [← hlm] at htr
  generalize headMap l = hm at htr ⊢
  generalize headLog l = hl at hrt ⊢
  have HV := Lib.hid hva
  have HT := Lib.hid htx
  have HR := Lib.hid hrt
  have HM := Lib.hid htr
  clear hva htx hrt htr hlm
  obtain ⟨q0, q1, hb0⟩ := boxes2 w (.cells #[.slice a n c] 24) (.cells #[.int .i64 0, .string ⟨#[]⟩, .string ⟨#[]⟩] 27)
  go_enter Tryd.func6, Tryd.ntmps6
  go_wp2_with fail
  generalize ((w.alloc (.cells #[.slice a n c] 24)).alloc (.cells #[.int .i64 0, .string ⟨#[]⟩, .string ⟨#[]⟩] 27)) = W at q0 q1 hb0 ⊢
  refine (HV.out W (hS.on hb0)).mono ?_
  rintro e w1 ⟨p, rfl, hM, _, hb1⟩
  have r0 := heap_on hb1 q0
  have r1 := heap_on hb1 q1
  have hb2 := below_on hb0 hb1
  clear hb0 hb1 q0 q1 HV
  have d0 := heap_cell r0 0 _ rfl
  go_wp2_with fail
  refine (HT.out w1 (hE.on hb2) (hS.on hb2)).mono ?_
  rintro e w2 ⟨a', c', rfl, hSx, hb3⟩
  have s0 := heap_on hb3 r0
  have s1 := heap_on hb3 r1
  have hM := hM.on hb3
  have hb3 := below_on hb2 hb3
  clear r0 r1 hb2 HT d0
  go_wp2_with fail
  refine (HR.out a' c' w2 (hE.on hb3) hSx).mono ?_
  rintro e w3 ⟨rfl, hb4⟩
  have r0 := heap_on hb4 s0
  have r1 := heap_on hb4 s1
  have hM := hM.on hb4
  have hb4 := below_on hb3 hb4
  clear s0 s1 hb3 HR hSx
  go_wp2_with fail
  refine (HM.out p w3 (hE.on hb4) hM).mono ?_
  rintro e w4 ⟨rfl, hb5⟩
  have s0 := heap_on hb5 r0
  have s1 := heap_on hb5 r1
  have hb5 := below_on hb4 hb5
  clear r0 r1 hb4 HM hM
  have d0 := heap_cell s0 0 _ rfl
  go_wp2_with (refine wpList_store_row rfl 27 (.tmp 2) (.tmp 41) rfl (w.heap.size + 1) #[.int .i64 (n : Int), .string hl, .string hm] rfl rfl _ _ s1 (by kernel_rfl) rfl (head_cells _ _ _) ?_)
  have hb6 := below_setRow hb5 (g := w.heap.size + 1) (by omega) #[.int .i64 (n : Int), .string hl, .string hm]
  refine bodyPost_ret (results_row_tmp rfl _ _ (w.heap.size + 1) _ _ _ _ rfl (setRow_heap _ _ _ _ _ _ s1) Tryd.underlying27 rfl (by kernel_rfl)) rfl ?_
  exact ⟨rfl, hb6⟩
end Go.Proofs.YthhckpnnjegldafDoor
