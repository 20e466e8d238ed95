/-
  Small contracts of the document's own reckoning: a number between two, a pair's seal.
-/
import Derived.Test.YtnemiobgmdpnmagGreatFmtFmtNode
import Derived.Test.YtnemiobgmdpnmagGreatFmtMaths
namespace Go.Proofs.YtnemiobgmdpnmagGreatFmt
open Go Go.RowKit Go.Kit Go.Extern.Stop Go.Stop Go.Extern

theorem in_yes (n f t : Int) (w : World) (h1 : f ≤ n) (h2 : n ≤ t) :
    Calls Tryz.prog 26 #[.int .i64 n, .int .i64 f, .int .i64 t] w fun e w' => e = .returned (.bool true) ∧ w = w' := by
  go_enter Tryz.func26, Tryz.ntmps26
  go_wp2_with fail
  go_ret
  exact ⟨rfl, rfl⟩
theorem in_no (n f t : Int) (w : World) (h : n < f ∨ t < n) :
    Calls Tryz.prog 26 #[.int .i64 n, .int .i64 f, .int .i64 t] w fun e w' => e = .returned (.bool false) ∧ w = w' := by
  rcases Int.lt_or_le n f with h0 | h0
  · have h1 : ¬ f ≤ n := by omega
    go_enter Tryz.func26, Tryz.ntmps26
    go_wp2_with fail
    go_ret
    exact ⟨rfl, rfl⟩
  · have h1 : ¬ n ≤ t := by omega
    clear h
    go_enter Tryz.func26, Tryz.ntmps26
    go_wp2_with fail
    go_ret
    exact ⟨rfl, rfl⟩
theorem nodeV_of {x y : ByteArray} : (nodeO x y = none ∧ nodeV x y = ⟨#[]⟩ ∧ nodeE x y = 2) ∨ (∃ z, nodeO x y = some z ∧ nodeV x y = z ∧ nodeE x y = 0) := by
  by_cases h : x.size + y.size ≤ 20000
  · right
    refine ⟨nodeS x y, ?_, (node_pos h).1, (node_pos h).2⟩
    unfold nodeO; rw [if_pos h]
  · left
    refine ⟨?_, (node_neg h).1, (node_neg h).2⟩
    unfold nodeO; rw [if_neg h]
end Go.Proofs.YtnemiobgmdpnmagGreatFmt
