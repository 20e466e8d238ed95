/-
  A slice of entries in memory: two cells an element, its key and its value.
-/
import Derived.Test.YthhckpnnjegldafDoorOwn
import Derived.Test.YthhckpnnjegldafDoorMaths
namespace Go.Proofs.YthhckpnnjegldafDoor
open Go Go.RowKit

def WideEnt (e : EntB) : Prop := -9223372036854775808 ≤ e.1 ∧ e.1 ≤ 9223372036854775807 ∧ e.2.size ≤ 9223372036854775807

structure EntsAt (w : World) (a : Option Addr) (c : Nat) (l : List EntB) : Prop where
  cap : l.length ≤ c
  max : c ≤ 9223372036854775807
  sz : ∀ e ∈ l, WideEnt e
  cells : 0 < l.length → ∃ b off, a = some ⟨b, off, none⟩ ∧ b < w.heap.size ∧ ∀ i, i < l.length → w.cell? ⟨b, off + i * 2, none⟩ = some (.int .i64 (entAt l i).1) ∧ w.cell? ⟨b, off + i * 2 + 1, none⟩ = some (.string (entAt l i).2)

theorem EntsAt.on {w w' : World} {a : Option Addr} {c : Nat} {l : List EntB} (h : EntsAt w a c l) (hb : Below w.heap.size w w') : EntsAt w' a c l := by
  refine ⟨h.cap, h.max, h.sz, fun hp => ?_⟩
  obtain ⟨b, off, ha, hlt, hc⟩ := h.cells hp
  exact ⟨b, off, ha, Nat.lt_of_lt_of_le hlt hb.size, fun i hi => by rw [hb.cell hlt, hb.cell hlt]; exact hc i hi⟩

theorem ents_none (w : World) : EntsAt w none 0 [] := ⟨Nat.le_refl _, by omega, fun s hs => by simp at hs, fun h => by simp at h⟩

theorem entAt_mem {l : List EntB} {i : Nat} (h : i < l.length) : entAt l i ∈ l := by
  unfold entAt
  rw [List.getD_eq_getElem?_getD, List.getElem?_eq_getElem h, Option.getD_some]
  exact List.getElem_mem _
theorem entAt_ext {l m : List EntB} (hl : l.length = m.length) (h : ∀ j, j < l.length → entAt l j = entAt m j) : l = m := by
  refine List.ext_getElem hl fun i h1 h2 => ?_
  have := h i h1
  unfold entAt at this
  rwa [List.getD_eq_getElem?_getD, List.getD_eq_getElem?_getD, List.getElem?_eq_getElem h1, List.getElem?_eq_getElem h2] at this
theorem ents_drop {l : List EntB} {i : Nat} (h : i < l.length) : l.drop i = entAt l i :: l.drop (i + 1) := by
  unfold entAt
  rw [List.drop_eq_getElem_cons h, List.getD_eq_getElem?_getD, List.getElem?_eq_getElem h, Option.getD_some]

/- The cells of entries, in a row. -/
def entCells (l : List EntB) : List Value := l.flatMap fun s => [.int .i64 s.1, .string s.2]
theorem entCells_len (l : List EntB) : (entCells l).length = l.length * 2 := by
  induction l with
  | nil => rfl
  | cons s l ih => unfold entCells at *; rw [List.flatMap_cons, List.length_append, ih]; simp; omega
theorem entCells_app (l m : List EntB) : entCells (l ++ m) = entCells l ++ entCells m := by simp [entCells]
theorem entCells_at : ∀ (l : List EntB) (i : Nat), i < l.length → (entCells l)[i * 2]? = some (.int .i64 (entAt l i).1) ∧ (entCells l)[i * 2 + 1]? = some (.string (entAt l i).2)
  | s :: l, 0, _ => by simp [entCells, entAt]
  | s :: l, i + 1, h => by
    have := entCells_at l i (by simpa using h)
    have e1 : entCells (s :: l) = .int .i64 s.1 :: .string s.2 :: entCells l := by simp [entCells]
    have e2 : entAt (s :: l) (i + 1) = entAt l i := by simp [entAt]
    rw [e1, e2, show (i + 1) * 2 = i * 2 + 1 + 1 by omega]
    simpa using this

/- What is owned lies there. -/
theorem ents_own {w : World} {base : Nat} {e : TypeId} {v : Value} {n : Nat} {l : List EntB} (h : w.ownsRow base e 2 v n (entCells l)) (hs : ∀ s ∈ l, WideEnt s) :
    ∃ a c, v = .slice a n c ∧ l.length = n ∧ EntsAt w a c l := by
  have hln : l.length = n := by have := h.1; rw [entCells_len] at this; omega
  rcases h.2 with ⟨rfl, rfl⟩ | ⟨g, cap, cur, rfl, hb, hg, hnc, hm, hsz, hcur⟩
  · obtain rfl := List.length_eq_zero_iff.1 hln
    exact ⟨none, 0, rfl, rfl, ents_none w⟩
  · have hlt : g < w.heap.size := by
      refine Classical.byContradiction fun hn => ?_
      rw [Array.getElem?_eq_none (by omega)] at hg
      cases hg
    refine ⟨_, cap, rfl, hln, ⟨by omega, hm, hs, fun _ => ⟨g, 0, rfl, hlt, fun i hi => ?_⟩⟩⟩
    have key : ∀ j, j < n * 2 → w.cell? ⟨g, 0 + j, none⟩ = (entCells l)[j]? := by
      intro j hj
      unfold World.cell?
      simp only [hg, Nat.zero_add]
      rw [← hcur, List.getElem?_take, if_pos hj, Array.getElem?_toList]
      simp
    have hc := entCells_at l i hi
    rw [show 0 + i * 2 + 1 = 0 + (i * 2 + 1) by omega, key _ (by omega), key _ (by omega)]
    exact hc
/- The cells, one by one. -/
theorem EntsAt.src {w : World} {a : Option Addr} {c : Nat} {l : List EntB} (h : EntsAt w a c l) (hp : 0 < l.length) : ∃ ad, a = some ad ∧ ∀ j v, (entCells l)[j]? = some v → w.cell? (ad.add j) = some v := by
  obtain ⟨b, off, rfl, _, hc⟩ := h.cells hp
  refine ⟨_, rfl, fun j v hj => ?_⟩
  have hjn : j < l.length * 2 := by
    have := (List.getElem?_eq_some_iff.1 hj).1
    rw [entCells_len] at this
    exact this
  have hadd : (⟨b, off, none⟩ : Addr).add j = ⟨b, off + j, none⟩ := by unfold Addr.add; split <;> simp_all
  rw [hadd]
  obtain ⟨k, hk⟩ : ∃ k, j = k * 2 ∨ j = k * 2 + 1 := ⟨j / 2, by omega⟩
  have hkl : k < l.length := by omega
  obtain ⟨e1, e2⟩ := entCells_at l k hkl
  obtain ⟨e3, e4⟩ := hc k hkl
  rcases hk with rfl | rfl
  · rw [e1] at hj; rw [e3, hj]
  · rw [e2] at hj; rw [← Nat.add_assoc, e4, hj]
theorem entCells_one (l : List EntB) : ∀ v ∈ entCells l, v.oneCell' = true := by
  intro u hu
  unfold entCells at hu
  obtain ⟨x, _, hx⟩ := List.mem_flatMap.1 hu
  simp only [List.mem_cons, List.not_mem_nil, or_false] at hx
  rcases hx with rfl | rfl <;> rfl
theorem EntsAt.take {w : World} {a : Option Addr} {c : Nat} {l : List EntB} (h : EntsAt w a c l) (k : Nat) : EntsAt w a c (l.take k) := by
  have hl : (l.take k).length ≤ l.length := by rw [List.length_take]; omega
  refine ⟨by have := h.cap; omega, h.max, fun s hs => h.sz s (List.mem_of_mem_take hs), fun hp => ?_⟩
  obtain ⟨b, off, ha, hlt, hc⟩ := h.cells (by omega)
  refine ⟨b, off, ha, hlt, fun i hi => ?_⟩
  have hi' : i < k := by rw [List.length_take] at hi; omega
  have e : entAt (l.take k) i = entAt l i := by simp [entAt, List.getD_eq_getElem?_getD, hi']
  rw [e]
  exact hc i (by omega)
end Go.Proofs.YthhckpnnjegldafDoor
