/-
  slices.Reverse at pairs of numbers, in a block of the call's own.
-/
import Derived.Test.YtnemiobgmdpnmagGreatFmtSpans
import Derived.Shelf.RegionOpenPlain
namespace Go.Proofs.YtnemiobgmdpnmagGreatFmt
open Go Go.RowKit Go.Kit Go.Extern.Stop Go.Stop Go.Extern


theorem cell_set {w : World} {a : Addr} {v : Value} (h : w.cell? a = some v) (u : Value) (b : Addr) : (w.setCell a u).cell? b = if b = a then some u else w.cell? b := by
  by_cases e : b = a
  · subst e; rw [if_pos rfl]; exact World.cell?_setCell_same _ _ _ h
  · rw [if_neg e]; exact World.cell?_setCell_other _ _ _ _ (Ne.symm e)

theorem pairs_swap0 {w : World} {g n : Nat} {G : Nat → SpanB} (hQ : PairsAt w g n G) {k j : Nat} (hk : k < n) (hj : j < n) (hkj : k < j) {x1 x2 y1 y2 : Nat} (hx : G k = (x1, x2)) (hy : G j = (y1, y2)) :
    PairsAt (((((w.setCell ⟨g, k * 2, none⟩ (.int .i64 (y1 : Int))).setCell ⟨g, k * 2 + 1, none⟩ (.int .i64 (y2 : Int))).setCell ⟨g, j * 2, none⟩ (.int .i64 (x1 : Int))).setCell ⟨g, j * 2 + 1, none⟩ (.int .i64 (x2 : Int)))) g n
      (fun p => if p = k then G j else if p = j then G k else G p) := by
  obtain ⟨ck, ck'⟩ := hQ.cells k hk
  obtain ⟨cj, cj'⟩ := hQ.cells j hj
  have s1 := cell_set ck (.int .i64 (y1 : Int))
  have c2 : (w.setCell ⟨g, k * 2, none⟩ (.int .i64 (y1 : Int))).cell? ⟨g, k * 2 + 1, none⟩ = some (.int .i64 ((G k).2 : Int)) := by rw [s1, if_neg (by simp), ck']
  have s2 := cell_set c2 (.int .i64 (y2 : Int))
  have c3 : ((w.setCell ⟨g, k * 2, none⟩ (.int .i64 (y1 : Int))).setCell ⟨g, k * 2 + 1, none⟩ (.int .i64 (y2 : Int))).cell? ⟨g, j * 2, none⟩ = some (.int .i64 ((G j).1 : Int)) := by
    rw [s2, if_neg (by simp only [Addr.mk.injEq]; omega), s1, if_neg (by simp only [Addr.mk.injEq]; omega), cj]
  have s3 := cell_set c3 (.int .i64 (x1 : Int))
  have c4 : (((w.setCell ⟨g, k * 2, none⟩ (.int .i64 (y1 : Int))).setCell ⟨g, k * 2 + 1, none⟩ (.int .i64 (y2 : Int))).setCell ⟨g, j * 2, none⟩ (.int .i64 (x1 : Int))).cell? ⟨g, j * 2 + 1, none⟩ = some (.int .i64 ((G j).2 : Int)) := by
    rw [s3, if_neg (by simp), s2, if_neg (by simp only [Addr.mk.injEq]; omega), s1, if_neg (by simp only [Addr.mk.injEq]; omega), cj']
  have s4 := cell_set c4 (.int .i64 (x2 : Int))
  refine ⟨?_, fun p hp => ?_, fun i => ?_⟩
  · have := hQ.lt
    simpa using this
  · rw [s4, s4, s3, s3, s2, s2, s1, s1]
    have hw := hQ.cells p hp
    by_cases e1 : p = k
    · subst e1
      simp only [Addr.mk.injEq, true_and, and_true, if_true, hy]
      rw [if_neg (by omega), if_neg (by omega), if_neg (by omega), if_neg (by omega), if_neg (by omega)]
      simp
    · by_cases e2 : p = j
      · subst e2
        simp only [Addr.mk.injEq, true_and, and_true, if_true, if_neg e1, hx]
        rw [if_neg (by omega)] <;> simp
      · simp only [Addr.mk.injEq, true_and, and_true, if_neg e1, if_neg e2]
        rw [if_neg (by omega), if_neg (by omega), if_neg (by omega), if_neg (by omega), if_neg (by omega), if_neg (by omega), if_neg (by omega), if_neg (by omega)]
        exact hw
  · have := hQ.soft i
    simpa using this
theorem PairsAt.drew {w : World} {g n : Nat} {F : Nat → SpanB} (h : PairsAt w g n F) : PairsAt w.drew g n F := ⟨h.lt, h.cells, h.soft⟩
theorem pairs_swap {w : World} {g n : Nat} {G : Nat → SpanB} (hQ : PairsAt w g n G) {k j : Nat} (hk : k < n) (hj : j < n) (hkj : k < j) {x1 x2 y1 y2 : Nat} (hx : G k = (x1, x2)) (hy : G j = (y1, y2)) :
    PairsAt (((((w.setCell ⟨g, k * 2, none⟩ (.int .i64 (y1 : Int))).setCell ⟨g, k * 2 + 1, none⟩ (.int .i64 (y2 : Int))).setCell ⟨g, j * 2, none⟩ (.int .i64 (x1 : Int))).setCell ⟨g, j * 2 + 1, none⟩ (.int .i64 (x2 : Int))).drew) g n
      (fun p => if p = k then G j else if p = j then G k else G p) := by
  exact (pairs_swap0 hQ hk hj hkj hx hy).drew

/- The first and the last k exchanged. -/
def revF (n k : Nat) (F : Nat → SpanB) (p : Nat) : SpanB := if p < k ∨ n - k ≤ p then F (n - 1 - p) else F p

/- Nothing is turned but in one block. -/
structure Aside (g : Nat) (w w' : World) : Prop where
  os : w'.os = w.os
  tape : w'.tape = w.tape
  output : w'.output = w.output
  size : w.heap.size ≤ w'.heap.size
  block : ∀ k, k ≠ g → w'.heap[k]? = w.heap[k]?
theorem Aside.refl (g : Nat) (w : World) : Aside g w w := ⟨rfl, rfl, rfl, Nat.le_refl _, fun _ _ => rfl⟩
theorem Aside.setCell {g : Nat} {a w : World} (h : Aside g a w) {p : Addr} (hp : p.block = g) (u : Value) : Aside g a (w.setCell p u) :=
  ⟨h.os, h.tape, h.output, by simpa using h.size, fun k hk => by rw [Below.heap_setCell _ _ _ _ (by omega)]; exact h.block k hk⟩
theorem Aside.drewN {g : Nat} {a w : World} (h : Aside g a w) (q : Nat) : Aside g a (w.drewN q) := ⟨h.os, h.tape, h.output, h.size, h.block⟩
theorem Aside.below {g : Nat} {a w : World} (h : Aside g a w) {B : Nat} (hB : B ≤ g) : Below B a w := ⟨h.os, h.tape, h.output, h.size, fun k hk => h.block k (by omega)⟩

structure SpansAt (w : World) (a : Option Addr) (c : Nat) (l : List SpanB) : Prop where
  cap : l.length ≤ c
  max : c ≤ 9223372036854775807
  cells : 0 < l.length → ∃ g, a = some ⟨g, 0, none⟩ ∧ PairsAt w g l.length (spanAt l)
theorem SpansAt.on {w w' : World} {a : Option Addr} {c : Nat} {l : List SpanB} (h : SpansAt w a c l) (hb : Below w.heap.size w w') : SpansAt w' a c l := by
  refine ⟨h.cap, h.max, fun hp => ?_⟩
  obtain ⟨g, ha, hP⟩ := h.cells hp
  exact ⟨g, ha, hP.on hb⟩
theorem spanAt_rev (l : List SpanB) (p : Nat) (h : p < l.length) : spanAt l (l.length - 1 - p) = spanAt l.reverse p := by
  unfold spanAt
  rw [List.getD_eq_getElem?_getD, List.getD_eq_getElem?_getD, List.getElem?_reverse h]
theorem spanAt_mem {l : List SpanB} {i : Nat} (h : i < l.length) : spanAt l i ∈ l := by
  unfold spanAt
  rw [List.getD_eq_getElem?_getD, List.getElem?_eq_getElem h, Option.getD_some]
  exact List.getElem_mem _
