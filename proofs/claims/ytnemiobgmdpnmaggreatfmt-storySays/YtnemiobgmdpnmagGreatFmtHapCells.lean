/-
  Happenings, and numbers, in a row of cells.
-/
import Derived.Test.YtnemiobgmdpnmagGreatFmtClients
import Derived.Test.YtnemiobgmdpnmagGreatFmtNumbers
import Derived.Test.YtnemiobgmdpnmagGreatFmtBooks
namespace Go.Proofs.YtnemiobgmdpnmagGreatFmt
open Go Go.RowKit

/- The cells of happenings, in a row. -/
def hapCells (l : List HapB) : List Value := l.flatMap fun x => [.int .i64 x.kind, .int .i64 x.side, .int .i64 x.who, .int .i64 x.other, .int .i64 x.e.1, .string x.e.2]
theorem hapCells_at : ∀ (l : List HapB) (i : Nat), i < l.length → (hapCells l)[i * 6]? = some (.int .i64 (hapOf l i).kind) ∧ (hapCells l)[i * 6 + 1]? = some (.int .i64 (hapOf l i).side) ∧ (hapCells l)[i * 6 + 2]? = some (.int .i64 (hapOf l i).who) ∧
    (hapCells l)[i * 6 + 3]? = some (.int .i64 (hapOf l i).other) ∧ (hapCells l)[i * 6 + 4]? = some (.int .i64 (hapOf l i).e.1) ∧ (hapCells l)[i * 6 + 5]? = some (.string (hapOf l i).e.2)
  | s :: l, 0, _ => by simp [hapCells, hapOf]
  | s :: l, i + 1, h => by
    have := hapCells_at l i (by simpa using h)
    have e1 : hapCells (s :: l) = .int .i64 s.kind :: .int .i64 s.side :: .int .i64 s.who :: .int .i64 s.other :: .int .i64 s.e.1 :: .string s.e.2 :: hapCells l := by simp [hapCells]
    have e2 : hapOf (s :: l) (i + 1) = hapOf l i := by simp [hapOf]
    rw [e1, e2, show (i + 1) * 6 = i * 6 + 1 + 1 + 1 + 1 + 1 + 1 by omega]
    simpa using this
theorem haps_heap {w : World} {g : Nat} {t : TypeId} {l : List HapB} (h : w.heap[g]? = some (.cells (hapCells l).toArray t)) (hs : ∀ x ∈ l, WideHap x) (hl : l.length ≤ 1000) : HapsAt w (some ⟨g, 0, none⟩) l.length l := by
  refine ⟨Nat.le_refl _, by omega, hs, fun _ => ⟨g, 0, rfl, (Array.getElem?_eq_some_iff.1 h).1, fun i hi => ?_⟩⟩
  obtain ⟨e1, e2, e3, e4, e5, e6⟩ := hapCells_at l i hi
  unfold sixAt
  rw [Nat.zero_add]
  exact ⟨heap_cell h _ _ (by simpa using e1), heap_cell h _ _ (by simpa using e2), heap_cell h _ _ (by simpa using e3), heap_cell h _ _ (by simpa using e4), heap_cell h _ _ (by simpa using e5), heap_cell h _ _ (by simpa using e6)⟩
theorem ints_heap {w : World} {g : Nat} {t : TypeId} {l : List Int} (h : w.heap[g]? = some (.cells (l.map (Value.int .i64)).toArray t)) (hs : ∀ x ∈ l, -9223372036854775808 ≤ x ∧ x ≤ 9223372036854775807) (hl : l.length ≤ 1000) : IntsAt w (some ⟨g, 0, none⟩) l.length l := by
  refine ⟨Nat.le_refl _, by omega, hs, fun _ => ⟨g, 0, rfl, (Array.getElem?_eq_some_iff.1 h).1, fun i hi => ?_⟩⟩
  rw [Nat.zero_add]
  refine heap_cell h _ _ ?_
  simp [hi, List.getD_eq_getElem?_getD]
instance (x : HapB) : Decidable (WideHap x) := by unfold WideHap WideEnt; infer_instance
theorem six_cells (a b c d k : Int) (v : ByteArray) : (#[.int .i64 a, .int .i64 b, .int .i64 c, .int .i64 d, .int .i64 k, .string v] : Array Value).all (·.oneCell') = true := by simp [Value.oneCell']
end Go.Proofs.YtnemiobgmdpnmagGreatFmt
