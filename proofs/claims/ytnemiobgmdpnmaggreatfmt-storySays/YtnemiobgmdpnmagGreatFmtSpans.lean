/-
  The document's own reckoning of the spans around a place, and slices.Reverse at them.
-/
import Derived.Test.YtnemiobgmdpnmagGreatFmtRootOf
import Derived.Test.YtnemiobgmdpnmagGreatFmtMaths
import Derived.Test.YtnemiobgmdpnmagGreatFmtOwn
import Derived.Deep.LoopGhost
namespace Go.Proofs.YtnemiobgmdpnmagGreatFmt
open Go Go.RowKit Go.Kit Go.Extern.Stop Go.Stop Go.Extern

abbrev SpanB := Nat × Nat
def spanAt (l : List SpanB) (i : Nat) : SpanB := l.getD i (0, 0)
def spanCells (l : List SpanB) : List Value := l.flatMap fun s => [.int .i64 (s.1 : Int), .int .i64 (s.2 : Int)]
theorem spanCells_len (l : List SpanB) : (spanCells l).length = l.length * 2 := by
  induction l with
  | nil => rfl
  | cons s l ih => unfold spanCells at *; rw [List.flatMap_cons, List.length_append, ih]; simp; omega
theorem spanCells_app (l m : List SpanB) : spanCells (l ++ m) = spanCells l ++ spanCells m := by simp [spanCells]
theorem spanCells_at : ∀ (l : List SpanB) (i : Nat), i < l.length → (spanCells l)[i * 2]? = some (.int .i64 ((spanAt l i).1 : Int)) ∧ (spanCells l)[i * 2 + 1]? = some (.int .i64 ((spanAt l i).2 : Int))
  | s :: l, 0, _ => by simp [spanCells, spanAt]
  | s :: l, i + 1, h => by
    have := spanCells_at l i (by simpa using h)
    have e1 : spanCells (s :: l) = .int .i64 (s.1 : Int) :: .int .i64 (s.2 : Int) :: spanCells l := by simp [spanCells]
    have e2 : spanAt (s :: l) (i + 1) = spanAt l i := by simp [spanAt]
    rw [e1, e2, show (i + 1) * 2 = i * 2 + 1 + 1 by omega]
    simpa using this

/- Pairs of numbers in a block of the call's own. -/
structure PairsAt (w : World) (g n : Nat) (F : Nat → SpanB) : Prop where
  lt : g < w.heap.size
  cells : ∀ p, p < n → w.cell? ⟨g, p * 2, none⟩ = some (.int .i64 ((F p).1 : Int)) ∧ w.cell? ⟨g, p * 2 + 1, none⟩ = some (.int .i64 ((F p).2 : Int))
  soft : ∀ j, w.frozen? ⟨g, j, none⟩ = false
theorem PairsAt.on {w w' : World} {g n : Nat} {F : Nat → SpanB} (h : PairsAt w g n F) (hb : Below w.heap.size w w') : PairsAt w' g n F := by
  refine ⟨Nat.lt_of_lt_of_le h.lt hb.size, fun p hp => ?_, fun j => ?_⟩
  · rw [hb.cell h.lt, hb.cell h.lt]; exact h.cells p hp
  · have := h.soft j
    unfold World.frozen? at this ⊢
    rw [hb.block g h.lt]; exact this
theorem pairs_own {w : World} {base : Nat} {e : TypeId} {a : Option Addr} {n c : Nat} {l : List SpanB} (h : w.ownsRow base e 2 (.slice a n c) n (spanCells l)) (hn : 0 < n) :
    ∃ g, a = some ⟨g, 0, none⟩ ∧ base ≤ g ∧ l.length = n ∧ n ≤ c ∧ c ≤ 9223372036854775807 ∧ PairsAt w g n (spanAt l) := by
  have hln : l.length = n := by have := h.1; rw [spanCells_len] at this; omega
  rcases h.2 with ⟨_, h0⟩ | ⟨g, cap, cur, he, hb, hg, hnc, hm, hsz, hcur⟩
  · omega
  · injection he with e1 e2 e3
    subst e1 e3
    have hlt : g < w.heap.size := by
      refine Classical.byContradiction fun hn => ?_
      rw [Array.getElem?_eq_none (by omega)] at hg
      cases hg
    refine ⟨g, rfl, hb, hln, hnc, hm, hlt, fun p hp => ?_, fun j => by simp [World.frozen?, hg]⟩
    have key : ∀ j, j < n * 2 → w.cell? ⟨g, j, none⟩ = (spanCells l)[j]? := by
      intro j hj
      unfold World.cell?
      simp only [hg]
      rw [← hcur, List.getElem?_take, if_pos hj, Array.getElem?_toList]
      simp
    have hc := spanCells_at l p (by omega)
    rw [key _ (by omega), key _ (by omega)]
    exact hc

