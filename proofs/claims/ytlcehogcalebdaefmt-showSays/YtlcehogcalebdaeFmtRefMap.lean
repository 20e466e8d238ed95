/-
  Chapter 5's Check and Shows as the document's own reckoning has them.
-/
import Derived.Test.YtlcehogcalebdaeFmtRefIn
import Derived.Test.YtlcehogcalebdaeFmtTriePath
namespace Go.Proofs.YtlcehogcalebdaeFmt
open Go Go.RowKit Go.Maps Go.Kit Go.Extern.Stop Go.Stop Go.Extern
