/-
  Contracts of package book: Values.
-/
import Derived.Test.YthhckpnnjegldafDoorBook
import Derived.Deep.LoopGhost
namespace Go.Proofs.YthhckpnnjegldafDoor
open Go Go.RowKit Go.Maps

theorem entAt_getD (l : List EntB) (k : Nat) : l.getD k (0, ByteArray.empty) = entAt l k := rfl

set_option maxRecDepth 100000 in
theorem vals_no (l : List EntB) (a : Option Addr) (n c : Nat) (w : World) (hn : l.length = n) (hS : EntsAt w a c l) (z : Int) (hz : bookE l = z) (h0 : z ≠ 0) :
    Calls Tryd.prog 20 #[.agg #[.slice a n c]] w fun e w' => e = .returned (.tuple #[.map none, .int .i64 z]) ∧ Below w.heap.size w w' := by
  have hck := fun w' h => bcheck_any l a n c w' hn h
  rw [hz] at hck
  have HC := Lib.hid hck
  have hz' : (z == 0) = false := by simp only [beq_eq_false_iff_ne, ne_eq]; exact h0
  clear hck hz
  go_enter Tryd.func20, Tryd.ntmps20
  go_wp2_with fail
  have hb1 : Below w.heap.size w (w.alloc (.cells #[.slice a n c] 24)) := (Below.refl _ _).alloc (Nat.le_refl _) _
  generalize (w.alloc (.cells #[.slice a n c] 24)) = W at hb1 ⊢
  refine (HC.out W (hS.on hb1)).mono ?_
  rintro e w1 ⟨rfl, hb2⟩
  have hb2 := below_on hb1 hb2
  clear hb1
  go_wp2_with fail
  go_ret2
  exact ⟨rfl, hb2⟩

set_option maxRecDepth 100000 in
theorem vals_ok (l : List EntB) (a : Option Addr) (n c : Nat) (w : World) (hn : l.length = n) (hS : EntsAt w a c l) (hG : GoodBook l) :
    Calls Tryd.prog 20 #[.agg #[.slice a n c]] w fun e w' => ∃ p, e = .returned (.tuple #[.map (some p), .int .i64 0]) ∧ MapAt w' (some p) (valsD l) ∧ w.heap.size ≤ p ∧ Below w.heap.size w w' := by
  have hck := fun w' h => bcheck_any l a n c w' hn h
  rw [(bookE_iff l).2 hG] at hck
  have HC := Lib.hid hck
  have h24 := hG.1
  have hcap := hS.cap
  have hmax := hS.max
  have hmm := @run_makeMap Tryd.prog
  have hgood := hG.2
  clear hck hG
  go_enter Tryd.func20, Tryd.ntmps20
  go_wp2_with fail
  have hb1 : Below w.heap.size w (w.alloc (.cells #[.slice a n c] 24)) := (Below.refl _ _).alloc (Nat.le_refl _) _
  have q0 := box_cell w #[.slice a n c] 24 0 _ rfl
  generalize (w.alloc (.cells #[.slice a n c] 24)) = W at hb1 q0 ⊢
  refine (HC.out W (hS.on hb1)).mono ?_
  rintro e w1 ⟨rfl, hb2⟩
  have q1 : w1.cell? ⟨w.heap.size, 0, none⟩ = some (.slice a n c) := by rw [hb2.cell (block_lt_of_cell q0)]; exact q0
  have hb2 := below_on hb1 hb2
  clear hb1 q0 HC
  have hX := made_owns w1
  have q2 : (w1.alloc (.map #[] 0)).cell? ⟨w.heap.size, 0, none⟩ = some (.slice a n c) := Lib.cell?_alloc_some _ q1
  have hb3 := hb2.alloc hb2.size (.map #[] 0)
  go_wp2_with fail
  generalize (w1.alloc (.map #[] 0)) = W3 at hX q2 hb3 ⊢
  obtain ⟨p, hp, hpe⟩ : ∃ p, w.heap.size ≤ p ∧ w1.heap.size = p := ⟨_, hb2.size, rfl⟩
  rw [hpe] at hX ⊢
  clear hpe q1 q2 hb2 hmm
  have HGO := Lib.hid hgood
  clear hgood
  go_loopg [17] n (fun g s17 wr => ∃ k : Nat, k ≤ n ∧ n - k ≤ g ∧ s17 = .int .i64 k ∧ wr.ownsMap Tryd.prog 3 (plainElem Tryd.prog 9) p k (valsD (l.take k)) ∧ Below w.heap.size w wr)
  case atStart => exact ⟨0, Nat.zero_le _, by omega, rfl, hX, hb3⟩
  case round =>
    obtain ⟨k, hk, hg, rfl, hX, hb⟩ := hrel
    by_cases hlt : k < n
    · have hS := hS.on hb
      obtain ⟨e1, e2, e3⟩ := HGO.out _ (entAt_mem (l := l) (i := k) (by omega))
      have hst := valsD_take (l := l) (k := k) (by omega)
      rw [entAt_getD] at hst
      obtain ⟨b, off, rfl, hbl, hc⟩ := hS.cells (by omega)
      obtain ⟨c0, c1⟩ := hc k (by omega)
      generalize entAt l k = x at c0 c1 e1 e2 e3 hst
      obtain ⟨key, v⟩ := x
      simp only [putE] at c0 c1 e1 e2 e3 hst
      have HST := Lib.hid hst
      clear hst hc hS
      generalize valsD (l.take k) = D at *
      have hkc : (k : Int) < (n : Int) := by omega
      have hb4 : Below w.heap.size w (wr.alloc (.cells #[.int .i64 key, .string v] 34)) := hb.alloc hb.size _
      have hX4 := hX.alloc (.cells #[.int .i64 key, .string v] 34)
      go_wp2_with (at_mapUpdate; refine wpList_mapUpdate_own _ rfl _ _ _ 61 rfl 3 9 keyed Tryd.underlying61 _ p k D rfl hX4 (by unfold maxLen; omega) _ _ (.int .i64 key) rfl rfl (keyIs (by omega) (by omega)) (.lit (.string v.data.toList)) [] (plainElem_string Tryd.underlying9 (s := v) (by unfold maxLen; omega)) ?_; intro w6 hX6 hg6)
      have hb6 : Below w.heap.size w w6 := hb4.grown hg6 hb4.size (fun j hj => by cases hj; exact hp)
      go_roundg (n - (k + 1))
      case measure => omega
      case rel => exact ⟨k + 1, by omega, Nat.le_refl _, by go_num, by rw [HST.out]; exact hX6, hb6⟩
    · obtain rfl : k = n := by omega
      rw [List.take_of_length_le (by omega)] at hX
      go_wp2_with fail
      go_ret2
      exact ⟨p, rfl, MapAt.of hX, hp, hb⟩
end Go.Proofs.YthhckpnnjegldafDoor
