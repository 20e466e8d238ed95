/-
  A slice of steps in memory: two cells an element, its side and its seal.
-/
import Derived.Test.YtnemiobgmdpnmagGreatFmtOwn
import Derived.Test.YtnemiobgmdpnmagGreatFmtMaths
namespace Go.Proofs.YtnemiobgmdpnmagGreatFmt
open Go Go.RowKit

def stepAt (l : List StepB) (i : Nat) : StepB := l.getD i (false, ByteArray.empty)

structure StepsAt (w : World) (a : Option Addr) (c : Nat) (l : List StepB) : Prop where
  cap : l.length ≤ c
  max : c ≤ 9223372036854775807
  sz : ∀ s ∈ l, s.2.size ≤ 9223372036854775807
  cells : 0 < l.length → ∃ b off, a = some ⟨b, off, none⟩ ∧ b < w.heap.size ∧ ∀ i, i < l.length → w.cell? ⟨b, off + i * 2, none⟩ = some (.bool (stepAt l i).1) ∧ w.cell? ⟨b, off + i * 2 + 1, none⟩ = some (.string (stepAt l i).2)

theorem StepsAt.on {w w' : World} {a : Option Addr} {c : Nat} {l : List StepB} (h : StepsAt w a c l) (hb : Below w.heap.size w w') : StepsAt w' a c l := by
  refine ⟨h.cap, h.max, h.sz, fun hp => ?_⟩
  obtain ⟨b, off, ha, hlt, hc⟩ := h.cells hp
  exact ⟨b, off, ha, Nat.lt_of_lt_of_le hlt hb.size, fun i hi => by rw [hb.cell hlt, hb.cell hlt]; exact hc i hi⟩

theorem steps_none (w : World) : StepsAt w none 0 [] := ⟨Nat.le_refl _, by omega, fun s hs => by simp at hs, fun h => by simp at h⟩

theorem stepAt_mem {l : List StepB} {i : Nat} (h : i < l.length) : stepAt l i ∈ l := by
  unfold stepAt
  rw [List.getD_eq_getElem?_getD, List.getElem?_eq_getElem h, Option.getD_some]
  exact List.getElem_mem _

/- The cells of steps, in a row. -/
def stepCells (l : List StepB) : List Value := l.flatMap fun s => [.bool s.1, .string s.2]
theorem stepCells_len (l : List StepB) : (stepCells l).length = l.length * 2 := by
  induction l with
  | nil => rfl
  | cons s l ih => unfold stepCells at *; rw [List.flatMap_cons, List.length_append, ih]; simp; omega
theorem stepCells_app (l m : List StepB) : stepCells (l ++ m) = stepCells l ++ stepCells m := by simp [stepCells]
theorem stepCells_at : ∀ (l : List StepB) (i : Nat), i < l.length → (stepCells l)[i * 2]? = some (.bool (stepAt l i).1) ∧ (stepCells l)[i * 2 + 1]? = some (.string (stepAt l i).2)
  | s :: l, 0, _ => by simp [stepCells, stepAt]
  | s :: l, i + 1, h => by
    have := stepCells_at l i (by simpa using h)
    have e1 : stepCells (s :: l) = .bool s.1 :: .string s.2 :: stepCells l := by simp [stepCells]
    have e2 : stepAt (s :: l) (i + 1) = stepAt l i := by simp [stepAt]
    rw [e1, e2, show (i + 1) * 2 = i * 2 + 1 + 1 by omega]
    simpa using this

/- What is owned lies there. -/
theorem steps_own {w : World} {base : Nat} {e : TypeId} {v : Value} {n : Nat} {l : List StepB} (h : w.ownsRow base e 2 v n (stepCells l)) (hs : ∀ s ∈ l, s.2.size ≤ 9223372036854775807) :
    ∃ a c, v = .slice a n c ∧ l.length = n ∧ StepsAt w a c l := by
  have hln : l.length = n := by have := h.1; rw [stepCells_len] at this; omega
  rcases h.2 with ⟨rfl, rfl⟩ | ⟨g, cap, cur, rfl, hb, hg, hnc, hm, hsz, hcur⟩
  · obtain rfl := List.length_eq_zero_iff.1 hln
    exact ⟨none, 0, rfl, rfl, steps_none w⟩
  · have hlt : g < w.heap.size := by
      refine Classical.byContradiction fun hn => ?_
      rw [Array.getElem?_eq_none (by omega)] at hg
      cases hg
    refine ⟨_, cap, rfl, hln, ⟨by omega, hm, hs, fun _ => ⟨g, 0, rfl, hlt, fun i hi => ?_⟩⟩⟩
    have key : ∀ j, j < n * 2 → w.cell? ⟨g, 0 + j, none⟩ = (stepCells l)[j]? := by
      intro j hj
      unfold World.cell?
      simp only [hg, Nat.zero_add]
      rw [← hcur, List.getElem?_take, if_pos hj, Array.getElem?_toList]
      simp
    have hc := stepCells_at l i hi
    rw [show 0 + i * 2 + 1 = 0 + (i * 2 + 1) by omega, key _ (by omega), key _ (by omega)]
    exact hc

theorem StepsAt.drop {w : World} {b off c : Nat} {l : List StepB} (h : StepsAt w (some ⟨b, off, none⟩) c l) (k : Nat) : StepsAt w (some ⟨b, off + k * 2, none⟩) (c - k) (l.drop k) := by
  have hl : (l.drop k).length = l.length - k := by rw [List.length_drop]
  refine ⟨by have := h.cap; omega, by have := h.max; omega, fun s hs => h.sz s (List.mem_of_mem_drop hs), fun hp => ?_⟩
  obtain ⟨b', off', ha, hlt, hc⟩ := h.cells (by omega)
  injection ha with ha
  injection ha with e1 e2
  subst e1 e2
  refine ⟨b, off + k * 2, rfl, hlt, fun i hi => ?_⟩
  have := hc (k + i) (by omega)
  rw [show off + k * 2 + i * 2 = off + (k + i) * 2 by omega]
  have e : stepAt (l.drop k) i = stepAt l (k + i) := by simp [stepAt, List.getD_eq_getElem?_getD]
  rw [e]
  exact this
end Go.Proofs.YtnemiobgmdpnmagGreatFmt
