/-
  Contracts of package book: Put, Head.
-/
import Derived.Test.YtdnehmejmndahaaFmtBookPut
namespace Go.Proofs.YtdnehmejmndahaaFmt
open Go Go.RowKit Go.Maps




/- Head. -/

def headV (l : List EntB) : Value := .agg #[.int .i64 (l.length : Int), .string (headLog l), .string (headMap l)]
