/-
  slices.Equal at slices of entries, whatever their addresses.
-/
import Derived.Test.YthhckpnnjegldafDoorBook
import Derived.Deep.LoopGhost
import Derived.Lib.Slices
import Derived.Lib.SlicesMore
namespace Go.Proofs.YthhckpnnjegldafDoor
open Go Go.RowKit

set_option maxRecDepth 100000 in
theorem equal_ents (l m : List EntB) (a1 a2 : Option Addr) (n1 c1 n2 c2 : Nat) (w : World) (h1 : l.length = n1) (h2 : m.length = n2) (hS1 : EntsAt w a1 c1 l) (hS2 : EntsAt w a2 c2 m) :
    Calls Tryd.prog 8 #[.slice a1 n1 c1, .slice a2 n2 c2] w fun e w' => e = .returned (.bool (decide (l = m))) ∧ Below w.heap.size w w' := by
  have m1 := hS1.max
  have m2 := hS2.max
  have k1 := hS1.cap
  have k2 := hS2.cap
  by_cases hn : n1 = n2
  · subst hn
    go_enter Tryd.func8, Tryd.ntmps8
    go_wp2_with fail
    go_loopg [13] n1 (fun g s13 wr => ∃ k : Nat, k ≤ n1 ∧ n1 - k ≤ g ∧ s13 = .int .i64 k ∧ Below w.heap.size w wr ∧ ∀ j, j < k → entAt l j = entAt m j)
    case atStart => exact ⟨0, Nat.zero_le _, by omega, rfl, Below.refl _ _, fun j hj => absurd hj (Nat.not_lt_zero _)⟩
    case round =>
      obtain ⟨k, hk, hg, rfl, hb, heq⟩ := hrel
      replace hS1 := hS1.on hb
      replace hS2 := hS2.on hb
      by_cases hlt : k < n1
      · obtain ⟨b1, o1, rfl, _, q1⟩ := hS1.cells (by omega)
        obtain ⟨b2, o2, rfl, _, q2⟩ := hS2.cells (by omega)
        obtain ⟨g1, g2⟩ := q1 k (by omega)
        obtain ⟨g3, g4⟩ := q2 k (by omega)
        have A : Hid (∀ j, j < k → entAt l j = entAt m j) := heq
        clear heq q1 q2 hS1 hS2
        generalize hxk : entAt l k = x at g1 g2
        generalize hyk : entAt m k = y at g3 g4
        have B : Hid (entAt l k = x ∧ entAt m k = y) := ⟨hxk, hyk⟩
        clear hxk hyk
        obtain ⟨xl, xs⟩ := x
        obtain ⟨yl, ys⟩ := y
        simp only at g1 g2 g3 g4
        have hkc : (k : Int) < (n1 : Int) := by omega
        by_cases hxl : xl = yl
        · subst hxl
          by_cases hxs : xs = ys
          · subst hxs
            go_wp2_with fail
            go_quiet (fail)
            go_wp2_with fail
            go_roundg (n1 - (k + 1))
            case measure => omega
            case rel =>
              refine ⟨k + 1, by omega, Nat.le_refl _, by go_num, below_drewN hb nq, fun j hj => ?_⟩
              by_cases e : j = k
              · subst e
                rw [B.out.1, B.out.2]
              · exact A.out j (by omega)
          · have hs' := str_ne hxs
            go_wp2_with fail
            go_quiet (fail)
            go_wp2_with fail
            go_ret
            refine ⟨?_, below_drewN hb nq⟩
            have : l ≠ m := fun h => by
              have e := B.out
              rw [h] at e
              have e' := e.1.symm.trans e.2
              injection e' with e1 e2
              first | exact hxl e1 | exact hxs e2
            simp [this]
        · have hl' : (xl == yl) = false := by simpa using hxl
          by_cases hxs : xs = ys
          · have hs' := str_eq hxs
            go_wp2_with fail
            go_quiet (fail)
            go_wp2_with fail
            go_ret
            refine ⟨?_, below_drewN hb nq⟩
            have : l ≠ m := fun h => by
              have e := B.out
              rw [h] at e
              have e' := e.1.symm.trans e.2
              injection e' with e1 e2
              first | exact hxl e1 | exact hxs e2
            simp [this]
          · have hs' := str_ne hxs
            go_wp2_with fail
            go_quiet (fail)
            go_wp2_with fail
            go_ret
            refine ⟨?_, below_drewN hb nq⟩
            have : l ≠ m := fun h => by
              have e := B.out
              rw [h] at e
              have e' := e.1.symm.trans e.2
              injection e' with e1 e2
              first | exact hxl e1 | exact hxs e2
            simp [this]
      · obtain rfl : k = n1 := by omega
        have hlm := entAt_ext (l := l) (m := m) (by omega) (fun j hj => heq j (by omega))
        clear heq
        go_wp2_with fail
        go_ret
        exact ⟨by rw [decide_eq_true hlm]; rfl, hb⟩
  · go_enter Tryd.func8, Tryd.ntmps8
    go_wp2_with fail
    go_ret
    refine ⟨?_, Below.refl _ _⟩
    have : l ≠ m := fun h => hn (by rw [← h1, ← h2, h])
    simp [this]


end Go.Proofs.YthhckpnnjegldafDoor
