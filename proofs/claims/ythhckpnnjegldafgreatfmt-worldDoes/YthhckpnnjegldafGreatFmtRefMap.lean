/-
  Chapter 5's Check and Shows as the document's own reckoning has them.
-/
import Derived.Test.YthhckpnnjegldafGreatFmtRefIn
import Derived.Test.YthhckpnnjegldafGreatFmtShown
namespace Go.Proofs.YthhckpnnjegldafGreatFmt
open Go Go.RowKit Go.Maps Go.Kit Go.Extern.Stop Go.Stop Go.Extern
