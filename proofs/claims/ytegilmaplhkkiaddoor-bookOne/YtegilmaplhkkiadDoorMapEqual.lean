/-
  maps.Equal at maps of texts by numbers, each nil or not.
-/
import Derived.Test.YtegilmaplhkkiadDoorMapAt
import Derived.Maps.RangeWalk
import Derived.Laws.IdiomRangeMap
import Derived.Deep.LoopGhost
namespace Go.Proofs.YtegilmaplhkkiadDoor
open Go Go.RowKit Go.Maps

theorem textD_mk (c : ByteArray) : textD (.lit (.string c.data.toList)) = c := by
  show (⟨c.data.toList.toArray⟩ : ByteArray) = c
  rw [Array.toArray_toList]
theorem wf_bounds {x : Int} (h : (Lit.int .i64 x).wf = true) : -9223372036854775808 ≤ x ∧ x ≤ 9223372036854775807 := by
  simp only [Lit.wf, Bool.and_eq_true, decide_eq_true_eq] at h
  exact h
theorem good_val (D : DataW Unit) (x : Int) (c : ByteArray) : Lib.goodD eqD D (.int .i64 x, .lit (.string c.data.toList)) = decide (valD D x = some c) := by
  unfold Lib.goodD
  show (has D (.int .i64 x) && decide (textD (.lit (.string c.data.toList)) = textD (D.atKey (.int .i64 x) .nil))) = _
  rw [textD_mk]
  unfold valD
  cases hh : has D (.int .i64 x)
  · simp
  · rw [if_pos rfl, atKey_indep hh .nil (.lit (.string [])), Bool.true_and]
    rw [decide_eq_decide]
    constructor
    · intro h; rw [h]
    · intro h; injection h with h; exact h.symm
