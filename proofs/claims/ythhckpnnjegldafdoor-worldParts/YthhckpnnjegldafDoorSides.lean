/-
  Package path's sides: on which side the steps above a text stand, a slice of its own memory.
-/
import Derived.Test.YthhckpnnjegldafDoorSteps
namespace Go.Proofs.YthhckpnnjegldafDoor
open Go Go.RowKit

theorem infoBool : (Tryd.prog.info? 4).map (fun i => (i.zero, i.size, i.bytes)) = some (some (.bool false), 1, 1) := by kernel_rfl


