/-
  Contract of package show's Growth over this seat's dump.
-/
import Derived.Test.YthhckpnnjegldafDoorGrow
import Derived.Test.YthhckpnnjegldafDoorBook
import Derived.Test.YthhckpnnjegldafDoorBlocks
namespace Go.Proofs.YthhckpnnjegldafDoor
open Go Go.RowKit Go.Maps

/- Growth. -/
set_option maxRecDepth 100000 in
theorem showGrowth_bad (l : List EntB) (a : Option Addr) (n c : Nat) (m : Int) (w : World) (hn : l.length = n) (hS : EntsAt w a c l) (z : Int) (hz : bookE l = z) (h0 : z ≠ 0) :
    Calls Tryd.prog 11 #[.agg #[.slice a n c], .int .i64 m] w fun e w' => e = .returned (.tuple #[.slice none 0 0, .int .i64 z]) ∧ Below w.heap.size w w' := by
  have hck := fun w' h => bcheck_any l a n c w' hn h
  rw [hz] at hck
  have HC := Lib.hid hck
  have hz' : (z == 0) = false := by simp only [beq_eq_false_iff_ne, ne_eq]; exact h0
  clear hck hz
  go_enter Tryd.func11, Tryd.ntmps11
  go_wp2_with fail
  have hb0 : Below w.heap.size w (w.alloc (.cells #[.slice a n c] 24)) := (Below.refl _ _).alloc (Nat.le_refl _) _
  generalize (w.alloc (.cells #[.slice a n c] 24)) = W at hb0 ⊢
  refine (HC.out W (hS.on hb0)).mono ?_
  rintro e w1 ⟨rfl, hb1⟩
  have hb1 := below_on hb0 hb1
  clear hb0 HC
  go_wp2_with fail
  go_ret2
  exact ⟨rfl, hb1⟩

set_option maxRecDepth 100000 in
theorem showGrowth_range (l : List EntB) (a : Option Addr) (n c : Nat) (m : Int) (w : World) (hE : Tab w) (hn : l.length = n) (hS : EntsAt w a c l) (hG : GoodBook l) (hm : m < 1 ∨ (n : Int) < m) :
    Calls Tryd.prog 11 #[.agg #[.slice a n c], .int .i64 m] w fun e w' => e = .returned (.tuple #[.slice none 0 0, .int .i64 3]) ∧ Below w.heap.size w w' := by
  have hck := fun w' h => bcheck_any l a n c w' hn h
  rw [(bookE_iff l).2 hG] at hck
  have HC := Lib.hid hck
  have HT := Lib.hid (fun w' hE hS => texts_any l a n c w' hn hE hS (fun e he => by have := (hG.2 e he).2.2; omega) (by have := hG.1; omega))
  have HO := Lib.hid (fun a c w' hE hS => growOf_range (textsE l) a n c m (headLog l) w' (by rw [textsE_len, hn]) hE hS (headLog_root hG) hm)
  clear hck hm
  go_enter Tryd.func11, Tryd.ntmps11
  go_wp2_with fail
  have hb0 : Below w.heap.size w (w.alloc (.cells #[.slice a n c] 24)) := (Below.refl _ _).alloc (Nat.le_refl _) _
  have q0 := heap_push w (.cells #[.slice a n c] 24)
  generalize (w.alloc (.cells #[.slice a n c] 24)) = W at hb0 q0 ⊢
  refine (HC.out W (hS.on hb0)).mono ?_
  rintro e w1 ⟨rfl, hb1⟩
  have d0 := heap_cell (heap_on hb1 q0) 0 _ rfl
  have hb1 := below_on hb0 hb1
  clear hb0 HC q0
  go_wp2_with fail
  refine (HT.out w1 (hE.on hb1) (hS.on hb1)).mono ?_
  rintro e w2 ⟨a', c', rfl, hSx, hb2⟩
  have hb2 := below_on hb1 hb2
  clear hb1 HT d0
  go_wp2_with fail
  refine (HO.out a' c' w2 (hE.on hb2) hSx).mono ?_
  rintro e w3 ⟨rfl, hb3⟩
  have hb3 := below_on hb2 hb3
  go_wp2_with fail
  go_ret2
  exact ⟨rfl, hb3⟩

set_option maxRecDepth 100000 in
theorem showGrowth_ok (l : List EntB) (a : Option Addr) (n c m : Nat) (w : World) (hE : Tab w) (hn : l.length = n) (hS : EntsAt w a c l) (hG : GoodBook l) (h1 : 1 ≤ m) (hm : m ≤ n) :
    Calls Tryd.prog 11 #[.agg #[.slice a n c], .int .i64 (m : Int)] w fun e w' => ∃ a' c', e = .returned (.tuple #[.slice a' (growS (textsE l) m true).length c', .int .i64 0]) ∧ StrsAt w' a' c' (growS (textsE l) m true) ∧ Below w.heap.size w w' := by
  have hck := fun w' h => bcheck_any l a n c w' hn h
  rw [(bookE_iff l).2 hG] at hck
  have HC := Lib.hid hck
  have HT := Lib.hid (fun w' hE hS => texts_any l a n c w' hn hE hS (fun e he => by have := (hG.2 e he).2.2; omega) (by have := hG.1; omega))
  have hof := (fun a c w' hE hS => growOf_ok (textsE l) a n c m (headLog l) w' (by rw [textsE_len, hn]) hE hS (headLog_root hG) h1 hm)
  generalize growS (textsE l) m true = L at hof ⊢
  have HO := Lib.hid hof
  clear hck hm h1 hof
  go_enter Tryd.func11, Tryd.ntmps11
  go_wp2_with fail
  have hb0 : Below w.heap.size w (w.alloc (.cells #[.slice a n c] 24)) := (Below.refl _ _).alloc (Nat.le_refl _) _
  have q0 := heap_push w (.cells #[.slice a n c] 24)
  generalize (w.alloc (.cells #[.slice a n c] 24)) = W at hb0 q0 ⊢
  refine (HC.out W (hS.on hb0)).mono ?_
  rintro e w1 ⟨rfl, hb1⟩
  have d0 := heap_cell (heap_on hb1 q0) 0 _ rfl
  have hb1 := below_on hb0 hb1
  clear hb0 HC q0
  go_wp2_with fail
  refine (HT.out w1 (hE.on hb1) (hS.on hb1)).mono ?_
  rintro e w2 ⟨a', c', rfl, hSx, hb2⟩
  have hb2 := below_on hb1 hb2
  clear hb1 HT d0
  go_wp2_with fail
  refine (HO.out a' c' w2 (hE.on hb2) hSx).mono ?_
  rintro e w3 ⟨a2, c2, rfl, _, hL, hb3⟩
  have hb3 := below_on hb2 hb3
  go_wp2_with fail
  go_ret2
  exact ⟨a2, c2, rfl, hL, hb3⟩

end Go.Proofs.YthhckpnnjegldafDoor
