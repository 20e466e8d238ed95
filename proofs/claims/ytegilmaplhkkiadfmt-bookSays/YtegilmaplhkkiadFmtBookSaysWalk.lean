/-
  BookSays' walk: of whatever book and entry it answers true.
-/
import Derived.Test.YtegilmaplhkkiadFmtBookSaysBad
import Derived.Test.YtegilmaplhkkiadFmtBookSaysNo
import Derived.Test.YtegilmaplhkkiadFmtBookSaysOk
namespace Go.Proofs.YtegilmaplhkkiadFmt
open Go Go.RowKit Go.Maps Go.Kit Go.Extern.Stop Go.Stop Go.Extern

theorem bookSays_walk (I : Interp) (l : List EntB) (a : Option Addr) (n c : Nat) (k : Int) (v : ByteArray) (w : World) (hE : Tab w) (hF : I.told.answers w.tape) (hn : l.length = n) (hS : EntsAt w a c l) (hbig : n ≤ 8796093022208) (hls : ∀ e ∈ l, e.2.size ≤ 140737488355328) (hx : WideEnt (k, v)) (hv : v.size ≤ 140737488355328) :
    Calls Tryf.prog 3 #[.agg #[.slice a n c], .agg #[.int .i64 k, .string v]] w fun e w' => e = .returned (.bool true) ∧ Below w.heap.size w w' := by
  by_cases h1 : bookE l = 0
  · by_cases hz : bookE (l ++ [(k, v)]) = 0
    · exact bookSays_ok I l a n c k v w hE hF hn hS hbig hls hx hv h1 hz
    · exact bookSays_no I l a n c k v w hE hF hn hS hbig hls hx hv h1 _ rfl hz
  · exact bookSays_bad I l a n c k v w hE hF hn hS hbig hls hx hv h1
end Go.Proofs.YtegilmaplhkkiadFmt
