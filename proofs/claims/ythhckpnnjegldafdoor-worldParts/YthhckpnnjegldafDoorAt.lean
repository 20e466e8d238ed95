/-
  The statements' own helper: the place that a number names in a list.
-/
import Derived.Test.YthhckpnnjegldafDoorSeal
namespace Go.Proofs.YthhckpnnjegldafDoor
open Go Go.RowKit

/- The place that a number names in a list of n. -/
def atN (k : Int) (n : Nat) : Nat := (k % (n : Int)).toNat
theorem atN_lt (k : Int) {n : Nat} (h : 0 < n) : atN k n < n := by
  have h1 := Int.emod_nonneg k (show (n : Int) ≠ 0 by omega)
  have h2 := Int.emod_lt_of_pos k (show 0 < (n : Int) by omega)
  unfold atN; omega
theorem atN_eq (k : Int) {n : Nat} (h : 0 < n) : (atN k n : Int) = k % n := by
  have h1 := Int.emod_nonneg k (show (n : Int) ≠ 0 by omega)
  unfold atN; omega

theorem tmod_at (k : Int) {n : Nat} (h : 0 < n) : (0 ≤ k.tmod n → k.tmod n = atN k n) ∧ (k.tmod n < 0 → k.tmod n + n = atN k n) := by
  have t1 := Int.tmod_lt_of_pos k (show 0 < (n : Int) by omega)
  have t2 := Int.lt_tmod_of_pos k (show 0 < (n : Int) by omega)
  have e : k.tmod n % (n : Int) = k % n := by rw [Int.tmod_def]; exact Int.sub_mul_emod_self_left _ _ _
  rw [atN_eq k h, ← e]
  refine ⟨fun h0 => (Int.emod_eq_of_lt h0 t1).symm, fun h0 => ?_⟩
  rw [Int.emod_eq_add_self_emod]
  exact (Int.emod_eq_of_lt (by omega) (by omega)).symm

theorem at_any (k : Int) (n : Nat) (w : World) (hn : 0 < n) (hm : n ≤ 9223372036854775807) (_hk : -9223372036854775808 ≤ k) (_hk' : k ≤ 9223372036854775807) :
    Calls Tryd.prog 10 #[.int .i64 k, .int .i64 (n : Int)] w fun e w' => e = .returned (.int .i64 (atN k n : Nat)) ∧ w = w' := by
  have h3 := atN_lt k hn
  have t1 := Int.tmod_lt_of_pos k (show 0 < (n : Int) by omega)
  have t2 := Int.lt_tmod_of_pos k (show 0 < (n : Int) by omega)
  obtain ⟨t3, t4⟩ := tmod_at k hn
  go_enter Tryd.func10, Tryd.ntmps10
  go_wp2_with fail
  · go_ret
    exact ⟨rfl, rfl⟩
  · go_ret
    refine ⟨?_, rfl⟩
    rw [← t3 (by assumption)]
    rfl
end Go.Proofs.YthhckpnnjegldafDoor
