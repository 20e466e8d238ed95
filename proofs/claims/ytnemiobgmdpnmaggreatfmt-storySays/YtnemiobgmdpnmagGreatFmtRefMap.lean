/-
  Chapter 5's Check and Shows as the document's own reckoning has them.
-/
import Derived.Test.YtnemiobgmdpnmagGreatFmtRefIn
import Derived.Test.YtnemiobgmdpnmagGreatFmtShown
namespace Go.Proofs.YtnemiobgmdpnmagGreatFmt
open Go Go.RowKit Go.Maps Go.Kit Go.Extern.Stop Go.Stop Go.Extern
