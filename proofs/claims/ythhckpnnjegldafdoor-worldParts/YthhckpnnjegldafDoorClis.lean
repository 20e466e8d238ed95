/-
  A slice of clients in memory: four cells an element.
-/
import Derived.Test.YthhckpnnjegldafDoorOwn
import Derived.Test.YthhckpnnjegldafDoorMaths
namespace Go.Proofs.YthhckpnnjegldafDoor
open Go Go.RowKit

def WideCli (c : CliB) : Prop := -9223372036854775808 ≤ c.1 ∧ c.1 ≤ 9223372036854775807 ∧ c.2.1.size ≤ 9223372036854775807 ∧ c.2.2.1.size ≤ 9223372036854775807
def cliOf (l : List CliB) (i : Nat) : CliB := l.getD i zeroC
def fourAt (w : World) (b o : Nat) (c : CliB) : Prop := w.cell? ⟨b, o, none⟩ = some (.int .i64 c.1) ∧ w.cell? ⟨b, o + 1, none⟩ = some (.string c.2.1) ∧ w.cell? ⟨b, o + 2, none⟩ = some (.string c.2.2.1) ∧ w.cell? ⟨b, o + 3, none⟩ = some (.bool c.2.2.2)

structure ClisAt (w : World) (a : Option Addr) (c : Nat) (l : List CliB) : Prop where
  cap : l.length ≤ c
  max : c ≤ 9223372036854775807
  sz : ∀ e ∈ l, WideCli e
  cells : 0 < l.length → ∃ b off, a = some ⟨b, off, none⟩ ∧ b < w.heap.size ∧ ∀ i, i < l.length → fourAt w b (off + i * 4) (cliOf l i)

theorem fourAt.on {w w' : World} {b o : Nat} {c : CliB} (h : fourAt w b o c) (hlt : b < w.heap.size) (hb : Below w.heap.size w w') : fourAt w' b o c := by
  unfold fourAt
  rw [hb.cell hlt, hb.cell hlt, hb.cell hlt, hb.cell hlt]
  exact h
def fourIn (w : World) (b o : Nat) (c : CliB) : Prop := b < w.heap.size ∧ fourAt w b o c
theorem fourIn.on {w w' : World} {b o : Nat} {c : CliB} (h : fourIn w b o c) (hb : Below w.heap.size w w') : fourIn w' b o c := ⟨Nat.lt_of_lt_of_le h.1 hb.size, h.2.on h.1 hb⟩
theorem ClisAt.on {w w' : World} {a : Option Addr} {c : Nat} {l : List CliB} (h : ClisAt w a c l) (hb : Below w.heap.size w w') : ClisAt w' a c l := by
  refine ⟨h.cap, h.max, h.sz, fun hp => ?_⟩
  obtain ⟨b, off, ha, hlt, hc⟩ := h.cells hp
  exact ⟨b, off, ha, Nat.lt_of_lt_of_le hlt hb.size, fun i hi => (hc i hi).on hlt hb⟩
theorem clis_none (w : World) : ClisAt w none 0 [] := ⟨Nat.le_refl _, by omega, fun s hs => by simp at hs, fun h => by simp at h⟩

theorem cliOf_mem {l : List CliB} {i : Nat} (h : i < l.length) : cliOf l i ∈ l := by
  unfold cliOf
  rw [List.getD_eq_getElem?_getD, List.getElem?_eq_getElem h, Option.getD_some]
  exact List.getElem_mem _
theorem cliOf_ext {l m : List CliB} (hl : l.length = m.length) (h : ∀ j, j < l.length → cliOf l j = cliOf m j) : l = m := by
  refine List.ext_getElem hl fun i h1 h2 => ?_
  have := h i h1
  unfold cliOf at this
  rwa [List.getD_eq_getElem?_getD, List.getD_eq_getElem?_getD, List.getElem?_eq_getElem h1, List.getElem?_eq_getElem h2] at this
theorem cliOf_set {l : List CliB} {i j : Nat} (c : CliB) (h : i < l.length) : cliOf (l.set i c) j = if j = i then c else cliOf l j := by
  unfold cliOf
  rw [List.getD_eq_getElem?_getD, List.getD_eq_getElem?_getD, List.getElem?_set]
  by_cases hj : j = i
  · subst hj; rw [if_pos rfl, if_pos rfl, if_pos h]; rfl
  · rw [if_neg (fun e => hj e.symm), if_neg hj]

/- The cells of clients, in a row. -/
def cliCells (l : List CliB) : List Value := l.flatMap fun s => [.int .i64 s.1, .string s.2.1, .string s.2.2.1, .bool s.2.2.2]
theorem cliCells_len (l : List CliB) : (cliCells l).length = l.length * 4 := by
  induction l with
  | nil => rfl
  | cons s l ih => unfold cliCells at *; rw [List.flatMap_cons, List.length_append, ih]; simp; omega
theorem cliCells_at : ∀ (l : List CliB) (i : Nat), i < l.length → (cliCells l)[i * 4]? = some (.int .i64 (cliOf l i).1) ∧ (cliCells l)[i * 4 + 1]? = some (.string (cliOf l i).2.1) ∧ (cliCells l)[i * 4 + 2]? = some (.string (cliOf l i).2.2.1) ∧ (cliCells l)[i * 4 + 3]? = some (.bool (cliOf l i).2.2.2)
  | s :: l, 0, _ => by simp [cliCells, cliOf]
  | s :: l, i + 1, h => by
    have := cliCells_at l i (by simpa using h)
    have e1 : cliCells (s :: l) = .int .i64 s.1 :: .string s.2.1 :: .string s.2.2.1 :: .bool s.2.2.2 :: cliCells l := by simp [cliCells]
    have e2 : cliOf (s :: l) (i + 1) = cliOf l i := by simp [cliOf]
    rw [e1, e2, show (i + 1) * 4 = i * 4 + 1 + 1 + 1 + 1 by omega]
    simpa using this
theorem cliCells_one (l : List CliB) : ∀ v ∈ cliCells l, v.oneCell' = true := by
  intro u hu
  unfold cliCells at hu
  obtain ⟨x, _, hx⟩ := List.mem_flatMap.1 hu
  simp only [List.mem_cons, List.not_mem_nil, or_false] at hx
  rcases hx with rfl | rfl | rfl | rfl <;> rfl

/- What is owned lies there. -/
theorem clis_own {w : World} {base : Nat} {e : TypeId} {v : Value} {n : Nat} {l : List CliB} (h : w.ownsRow base e 4 v n (cliCells l)) (hs : ∀ s ∈ l, WideCli s) :
    ∃ a c, v = .slice a n c ∧ l.length = n ∧ ClisAt w a c l := by
  have hln : l.length = n := by have := h.1; rw [cliCells_len] at this; omega
  rcases h.2 with ⟨rfl, rfl⟩ | ⟨g, cap, cur, rfl, hb, hg, hnc, hm, hsz, hcur⟩
  · obtain rfl := List.length_eq_zero_iff.1 hln
    exact ⟨none, 0, rfl, rfl, clis_none w⟩
  · have hlt : g < w.heap.size := by
      refine Classical.byContradiction fun hn => ?_
      rw [Array.getElem?_eq_none (by omega)] at hg
      cases hg
    refine ⟨_, cap, rfl, hln, ⟨by omega, hm, hs, fun _ => ⟨g, 0, rfl, hlt, fun i hi => ?_⟩⟩⟩
    have key : ∀ j, j < n * 4 → w.cell? ⟨g, 0 + j, none⟩ = (cliCells l)[j]? := by
      intro j hj
      unfold World.cell?
      simp only [hg, Nat.zero_add]
      rw [← hcur, List.getElem?_take, if_pos hj, Array.getElem?_toList]
      simp
    have hc := cliCells_at l i hi
    unfold fourAt
    rw [show 0 + i * 4 + 1 = 0 + (i * 4 + 1) by omega, show 0 + i * 4 + 2 = 0 + (i * 4 + 2) by omega, show 0 + i * 4 + 3 = 0 + (i * 4 + 3) by omega, key _ (by omega), key _ (by omega), key _ (by omega), key _ (by omega)]
    exact hc
/- The cells, one by one. -/
theorem ClisAt.src {w : World} {a : Option Addr} {c : Nat} {l : List CliB} (h : ClisAt w a c l) (hp : 0 < l.length) : ∃ ad, a = some ad ∧ ∀ j v, (cliCells l)[j]? = some v → w.cell? (ad.add j) = some v := by
  obtain ⟨b, off, rfl, _, hc⟩ := h.cells hp
  refine ⟨_, rfl, fun j v hj => ?_⟩
  have hjn : j < l.length * 4 := by
    have := (List.getElem?_eq_some_iff.1 hj).1
    rw [cliCells_len] at this
    exact this
  have hadd : (⟨b, off, none⟩ : Addr).add j = ⟨b, off + j, none⟩ := by unfold Addr.add; split <;> simp_all
  rw [hadd]
  obtain ⟨k, hk⟩ : ∃ k, j = k * 4 ∨ j = k * 4 + 1 ∨ j = k * 4 + 2 ∨ j = k * 4 + 3 := ⟨j / 4, by omega⟩
  have hkl : k < l.length := by omega
  obtain ⟨e1, e2, e3, e4⟩ := cliCells_at l k hkl
  obtain ⟨f1, f2, f3, f4⟩ := hc k hkl
  rcases hk with rfl | rfl | rfl | rfl
  · rw [e1] at hj; rw [f1, hj]
  · rw [e2] at hj; rw [← Nat.add_assoc, f2, hj]
  · rw [e3] at hj; rw [← Nat.add_assoc, f3, hj]
  · rw [e4] at hj; rw [← Nat.add_assoc, f4, hj]
end Go.Proofs.YthhckpnnjegldafDoor
