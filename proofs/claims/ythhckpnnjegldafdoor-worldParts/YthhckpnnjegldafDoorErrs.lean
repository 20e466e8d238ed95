/-
  slices.Equal at slices of error numbers, whatever their addresses.
-/
import Derived.Test.YthhckpnnjegldafDoorInts
import Derived.Deep.LoopGhost
import Derived.Lib.Slices
import Derived.Lib.SlicesMore
namespace Go.Proofs.YthhckpnnjegldafDoor
open Go Go.RowKit

theorem getD_ext {l m : List Int} (hl : l.length = m.length) (h : ∀ j, j < l.length → l.getD j 0 = m.getD j 0) : l = m := by
  refine List.ext_getElem hl fun i h1 h2 => ?_
  have := h i h1
  rwa [List.getD_eq_getElem?_getD, List.getD_eq_getElem?_getD, List.getElem?_eq_getElem h1, List.getElem?_eq_getElem h2] at this
set_option maxRecDepth 100000 in
theorem equal_errs (l m : List Int) (a1 a2 : Option Addr) (n1 c1 n2 c2 : Nat) (w : World) (h1 : l.length = n1) (h2 : m.length = n2) (hS1 : IntsAt w a1 c1 l) (hS2 : IntsAt w a2 c2 m) :
    Calls Tryd.prog 18 #[.slice a1 n1 c1, .slice a2 n2 c2] w fun e w' => e = .returned (.bool (decide (l = m))) ∧ Below w.heap.size w w' := by
  have m1 := hS1.max
  have m2 := hS2.max
  have k1 := hS1.cap
  have k2 := hS2.cap
  by_cases hn : n1 = n2
  · subst hn
    go_enter Tryd.func18, Tryd.ntmps18
    go_wp2_with fail
    go_loopg [13] n1 (fun g s13 wr => ∃ k : Nat, k ≤ n1 ∧ n1 - k ≤ g ∧ s13 = .int .i64 k ∧ Below w.heap.size w wr ∧ ∀ j, j < k → l.getD j 0 = m.getD j 0)
    case atStart => exact ⟨0, Nat.zero_le _, by omega, rfl, Below.refl _ _, fun j hj => absurd hj (Nat.not_lt_zero _)⟩
    case round =>
      obtain ⟨k, hk, hg, rfl, hb, heq⟩ := hrel
      replace hS1 := hS1.on hb
      replace hS2 := hS2.on hb
      by_cases hlt : k < n1
      · obtain ⟨b1, o1, rfl, _, q1⟩ := hS1.cells (by omega)
        obtain ⟨b2, o2, rfl, _, q2⟩ := hS2.cells (by omega)
        have g1 := q1 k (by omega)
        have g2 := q2 k (by omega)
        have A : Hid (∀ j, j < k → l.getD j 0 = m.getD j 0) := heq
        clear heq q1 q2 hS1 hS2
        generalize hxk : l.getD k 0 = x at g1
        generalize hyk : m.getD k 0 = y at g2
        have B : Hid (l.getD k 0 = x ∧ m.getD k 0 = y) := ⟨hxk, hyk⟩
        clear hxk hyk
        have hkc : (k : Int) < (n1 : Int) := by omega
        by_cases hxy : x = y
        · subst hxy
          go_wp2_with fail
          go_quiet (fail)
          go_wp2_with fail
          go_roundg (n1 - (k + 1))
          case measure => omega
          case rel =>
            refine ⟨k + 1, by omega, Nat.le_refl _, by go_num, below_drewN hb nq, fun j hj => ?_⟩
            by_cases e : j = k
            · subst e
              rw [B.out.1, B.out.2]
            · exact A.out j (by omega)
        · have hs' : (x == y) = false := by simpa using hxy
          go_wp2_with fail
          go_quiet (fail)
          go_wp2_with fail
          go_ret
          refine ⟨?_, below_drewN hb nq⟩
          have : l ≠ m := fun h => by
            have e := B.out
            rw [h] at e
            exact hxy (e.1.symm.trans e.2)
          simp [this]
      · obtain rfl : k = n1 := by omega
        have hlm := getD_ext (l := l) (m := m) (by omega) (fun j hj => heq j (by omega))
        clear heq
        go_wp2_with fail
        go_ret
        exact ⟨by rw [decide_eq_true hlm]; rfl, hb⟩
  · go_enter Tryd.func18, Tryd.ntmps18
    go_wp2_with fail
    go_ret
    refine ⟨?_, Below.refl _ _⟩
    have : l ≠ m := fun h => hn (by rw [← h1, ← h2, h])
    simp [this]
end Go.Proofs.YthhckpnnjegldafDoor
