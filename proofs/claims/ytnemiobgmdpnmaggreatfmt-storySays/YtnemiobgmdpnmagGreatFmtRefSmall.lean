/-
  Small contracts of the document's own reckoning: half of a number.
-/
import Derived.Test.YtnemiobgmdpnmagGreatFmtRootOf
import Derived.Test.YtnemiobgmdpnmagGreatFmtRefIn
namespace Go.Proofs.YtnemiobgmdpnmagGreatFmt
open Go Go.RowKit Go.Kit Go.Extern.Stop Go.Stop Go.Extern

theorem halfOf_quiet (d : Nat) (h : 2 ≤ d) (h' : d ≤ 24) (w : World) (q : Nat) :
    Calls Tryz.prog 31 #[.int .i64 (d : Int)] (w.drewN q) fun e w'' => e = .returned (.int .i64 (halfN d : Int)) ∧ ∃ n, w'' = w.drewN n := by
  refine (halfOf_any d (w.drewN q) h h').mono ?_
  rintro e w' ⟨rfl, rfl⟩
  exact ⟨rfl, q, rfl⟩
end Go.Proofs.YtnemiobgmdpnmagGreatFmt
