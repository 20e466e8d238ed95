/-
  What is told of a client that there is.
-/
import Derived.Test.YtnemiobgmdpnmagGreatFmtStoryMath
namespace Go.Proofs.YtnemiobgmdpnmagGreatFmt
open Go Go.RowKit

theorem ofE_in {W : WB} (h : worldE W = 0) {j s : Nat} (hj : j < 3) (hs : s < 2) : ofE W (j : Int) (s : Int) = 0 := by
  unfold ofE
  rw [if_neg (fun hh => hh h), if_neg (fun hh => hh ⟨by omega, by omega, by omega, by omega⟩)]
theorem ofB_in {W : WB} (h : worldE W = 0) {j s : Nat} (hj : j < 3) (hs : s < 2) : ofB W (j : Int) (s : Int) = decide (isOf (sideL W (s : Int)) (cliOf W.cs j)) := by
  unfold ofB
  rw [if_pos (ofE_in h hj hs), cliAt_of]
end Go.Proofs.YtnemiobgmdpnmagGreatFmt
