/-
  Chapter 4's Of as the document's own reckoning has it: by the parts beside, turned about.
-/
import Derived.Test.YtnemiobgmdpnmagGreatFmtParts
import Derived.Test.YtnemiobgmdpnmagGreatFmtShown
namespace Go.Proofs.YtnemiobgmdpnmagGreatFmt
open Go Go.RowKit Go.Kit Go.Extern.Stop Go.Stop Go.Extern

