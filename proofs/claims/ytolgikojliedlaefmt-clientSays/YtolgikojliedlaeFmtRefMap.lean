/-
  Chapter 5's Check and Shows as the document's own reckoning has them.
-/
import Derived.Test.YtolgikojliedlaeFmtRefIn
import Derived.Test.YtolgikojliedlaeFmtTriePath
namespace Go.Proofs.YtolgikojliedlaeFmt
open Go Go.RowKit Go.Maps Go.Kit Go.Extern.Stop Go.Stop Go.Extern
