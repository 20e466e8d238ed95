/-
  Chapter 5's Check and Shows as the document's own reckoning has them.
-/
import Derived.Test.YtdnehmejmndahaaFmtRefIn
import Derived.Test.YtdnehmejmndahaaFmtTriePath
namespace Go.Proofs.YtdnehmejmndahaaFmt
open Go Go.RowKit Go.Maps Go.Kit Go.Extern.Stop Go.Stop Go.Extern
