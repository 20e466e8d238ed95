/-
  The witness's world where the row lays the tables of unicode/utf8, too.
-/
import Derived.Test.YtbpheklfdakikadFmtLaid
namespace Go.Proofs.YtbpheklfdakikadFmt
open Go Go.RowKit

def cellOf : DataW Unit → List Value
  | .lit (.int k z) => [Value.int k z]
  | _ => []
def cellsOfRow : DataW Unit → List Value
  | .agg ps => ps.flatMap fun d => match d with | .agg qs => qs.flatMap cellOf | d => cellOf d
  | _ => []
noncomputable def laidWorldU (os : Os) : World :=
  let w0 := laidWorld os
  let put (h : Array Obj) (g : Nat) (cs : Array Value) : Array Obj := h.modify g fun
    | .cells _ t frozen => .cells cs t frozen
    | o => o
  let h1 := put w0.heap 4 (cellsOfRow Rows.laid_unicode_utf8_first).toArray
  let h2 := put h1 5 (cellsOfRow Rows.laid_unicode_utf8_acceptRanges).toArray
  { w0 with heap := h2 }
end Go.Proofs.YtbpheklfdakikadFmt
