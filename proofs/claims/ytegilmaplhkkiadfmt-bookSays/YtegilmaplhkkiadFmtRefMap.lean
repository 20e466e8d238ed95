/-
  Chapter 5's Check and Shows as the document's own reckoning has them.
-/
import Derived.Test.YtegilmaplhkkiadFmtRefIn
import Derived.Test.YtegilmaplhkkiadFmtTriePath
namespace Go.Proofs.YtegilmaplhkkiadFmt
open Go Go.RowKit Go.Maps Go.Kit Go.Extern.Stop Go.Stop Go.Extern
