/-
  Contracts of package path over this seat's dump: join, climb, Of.
-/
import Derived.Test.YthhckpnnjegldafDoorSides
namespace Go.Proofs.YthhckpnnjegldafDoor
open Go Go.RowKit


/- A step up. -/

/- The path of a text that is there. -/


/- Of. -/