/-
  Contracts of package book: Put, Head.
-/
import Derived.Test.YtlcehogcalebdaeFmtBookPut
namespace Go.Proofs.YtlcehogcalebdaeFmt
open Go Go.RowKit Go.Maps




/- Head. -/

def headV (l : List EntB) : Value := .agg #[.int .i64 (l.length : Int), .string (headLog l), .string (headMap l)]
