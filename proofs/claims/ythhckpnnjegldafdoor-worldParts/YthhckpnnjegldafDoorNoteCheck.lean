/-
  Contract of package note's Check over this seat's dump.
-/
import Derived.Test.YthhckpnnjegldafDoorMaths
import Derived.Test.YthhckpnnjegldafDoorSeal
namespace Go.Proofs.YthhckpnnjegldafDoor
open Go Go.RowKit

set_option maxRecDepth 100000 in
theorem ncheck_any (n : Int) (a b : ByteArray) (w : World) :
    Calls Tryd.prog 15 #[.agg #[.int .i64 n, .string a, .string b]] w fun e w' => e = .returned (.int .i64 (headE n a b)) ∧ Below w.heap.size w w' := by
  rcases Int.lt_or_le n 0 with h0 | h0
  · rw [headE_range (.inl h0)]
    go_enter Tryd.func15, Tryd.ntmps15
    go_wp2_with fail
    go_ret
    exact ⟨rfl, (Below.refl _ _).alloc (Nat.le_refl _) _⟩
  have g0 : ¬ n < 0 := by omega
  rcases Int.lt_or_le 24 n with h1 | h1
  · rw [headE_range (.inr h1)]
    go_enter Tryd.func15, Tryd.ntmps15
    go_wp2_with fail
    go_ret
    exact ⟨rfl, (Below.refl _ _).alloc (Nat.le_refl _) _⟩
  have g1 : ¬ 24 < n := by omega
  by_cases ha : 20000 < a.size
  · rw [headE_many (by omega) (.inl ha)]
    go_enter Tryd.func15, Tryd.ntmps15
    go_wp2_with fail
    go_ret
    exact ⟨rfl, (Below.refl _ _).alloc (Nat.le_refl _) _⟩
  by_cases hb : 20000 < b.size
  · rw [headE_many (by omega) (.inr hb)]
    go_enter Tryd.func15, Tryd.ntmps15
    go_wp2_with fail
    go_ret
    exact ⟨rfl, (Below.refl _ _).alloc (Nat.le_refl _) _⟩
  rw [headE_ok (by omega) (by omega)]
  go_enter Tryd.func15, Tryd.ntmps15
  go_wp2_with fail
  go_ret
  exact ⟨rfl, (Below.refl _ _).alloc (Nat.le_refl _) _⟩

end Go.Proofs.YthhckpnnjegldafDoor
