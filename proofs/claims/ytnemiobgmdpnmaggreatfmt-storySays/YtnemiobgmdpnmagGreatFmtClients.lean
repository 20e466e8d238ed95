/-
  A slice of clients in memory: four cells an element.
  A slice of entries in memory: two cells an element, its key and its value.
  A world in memory: two slices of entries and one of clients; a slice of happenings: six cells an element.
  What a happening keeps, by plain lists.
-/
import Derived.Test.YtnemiobgmdpnmagGreatFmtOwn
import Derived.Test.YtnemiobgmdpnmagGreatFmtMaths
namespace Go.Proofs.YtnemiobgmdpnmagGreatFmt
open Go Go.RowKit

def WideCli (c : CliB) : Prop := -9223372036854775808 ≤ c.1 ∧ c.1 ≤ 9223372036854775807 ∧ c.2.1.size ≤ 9223372036854775807 ∧ c.2.2.1.size ≤ 9223372036854775807
def cliOf (l : List CliB) (i : Nat) : CliB := l.getD i zeroC
def fourAt (w : World) (b o : Nat) (c : CliB) : Prop := w.cell? ⟨b, o, none⟩ = some (.int .i64 c.1) ∧ w.cell? ⟨b, o + 1, none⟩ = some (.string c.2.1) ∧ w.cell? ⟨b, o + 2, none⟩ = some (.string c.2.2.1) ∧ w.cell? ⟨b, o + 3, none⟩ = some (.bool c.2.2.2)

structure ClisAt (w : World) (a : Option Addr) (c : Nat) (l : List CliB) : Prop where
  cap : l.length ≤ c
  max : c ≤ 9223372036854775807
  sz : ∀ e ∈ l, WideCli e
  cells : 0 < l.length → ∃ b off, a = some ⟨b, off, none⟩ ∧ b < w.heap.size ∧ ∀ i, i < l.length → fourAt w b (off + i * 4) (cliOf l i)

theorem fourAt.on {w w' : World} {b o : Nat} {c : CliB} (h : fourAt w b o c) (hlt : b < w.heap.size) (hb : Below w.heap.size w w') : fourAt w' b o c := by
  unfold fourAt
  rw [hb.cell hlt, hb.cell hlt, hb.cell hlt, hb.cell hlt]
  exact h
def fourIn (w : World) (b o : Nat) (c : CliB) : Prop := b < w.heap.size ∧ fourAt w b o c
theorem fourIn.on {w w' : World} {b o : Nat} {c : CliB} (h : fourIn w b o c) (hb : Below w.heap.size w w') : fourIn w' b o c := ⟨Nat.lt_of_lt_of_le h.1 hb.size, h.2.on h.1 hb⟩
theorem ClisAt.on {w w' : World} {a : Option Addr} {c : Nat} {l : List CliB} (h : ClisAt w a c l) (hb : Below w.heap.size w w') : ClisAt w' a c l := by
  refine ⟨h.cap, h.max, h.sz, fun hp => ?_⟩
  obtain ⟨b, off, ha, hlt, hc⟩ := h.cells hp
  exact ⟨b, off, ha, Nat.lt_of_lt_of_le hlt hb.size, fun i hi => (hc i hi).on hlt hb⟩
theorem clis_none (w : World) : ClisAt w none 0 [] := ⟨Nat.le_refl _, by omega, fun s hs => by simp at hs, fun h => by simp at h⟩

theorem cliOf_mem {l : List CliB} {i : Nat} (h : i < l.length) : cliOf l i ∈ l := by
  unfold cliOf
  rw [List.getD_eq_getElem?_getD, List.getElem?_eq_getElem h, Option.getD_some]
  exact List.getElem_mem _
theorem cliOf_ext {l m : List CliB} (hl : l.length = m.length) (h : ∀ j, j < l.length → cliOf l j = cliOf m j) : l = m := by
  refine List.ext_getElem hl fun i h1 h2 => ?_
  have := h i h1
  unfold cliOf at this
  rwa [List.getD_eq_getElem?_getD, List.getD_eq_getElem?_getD, List.getElem?_eq_getElem h1, List.getElem?_eq_getElem h2] at this
theorem cliOf_set {l : List CliB} {i j : Nat} (c : CliB) (h : i < l.length) : cliOf (l.set i c) j = if j = i then c else cliOf l j := by
  unfold cliOf
  rw [List.getD_eq_getElem?_getD, List.getD_eq_getElem?_getD, List.getElem?_set]
  by_cases hj : j = i
  · subst hj; rw [if_pos rfl, if_pos rfl, if_pos h]; rfl
  · rw [if_neg (fun e => hj e.symm), if_neg hj]

/- The cells of clients, in a row. -/
def cliCells (l : List CliB) : List Value := l.flatMap fun s => [.int .i64 s.1, .string s.2.1, .string s.2.2.1, .bool s.2.2.2]
theorem cliCells_len (l : List CliB) : (cliCells l).length = l.length * 4 := by
  induction l with
  | nil => rfl
  | cons s l ih => unfold cliCells at *; rw [List.flatMap_cons, List.length_append, ih]; simp; omega
theorem cliCells_at : ∀ (l : List CliB) (i : Nat), i < l.length → (cliCells l)[i * 4]? = some (.int .i64 (cliOf l i).1) ∧ (cliCells l)[i * 4 + 1]? = some (.string (cliOf l i).2.1) ∧ (cliCells l)[i * 4 + 2]? = some (.string (cliOf l i).2.2.1) ∧ (cliCells l)[i * 4 + 3]? = some (.bool (cliOf l i).2.2.2)
  | s :: l, 0, _ => by simp [cliCells, cliOf]
  | s :: l, i + 1, h => by
    have := cliCells_at l i (by simpa using h)
    have e1 : cliCells (s :: l) = .int .i64 s.1 :: .string s.2.1 :: .string s.2.2.1 :: .bool s.2.2.2 :: cliCells l := by simp [cliCells]
    have e2 : cliOf (s :: l) (i + 1) = cliOf l i := by simp [cliOf]
    rw [e1, e2, show (i + 1) * 4 = i * 4 + 1 + 1 + 1 + 1 by omega]
    simpa using this
theorem cliCells_one (l : List CliB) : ∀ v ∈ cliCells l, v.oneCell' = true := by
  intro u hu
  unfold cliCells at hu
  obtain ⟨x, _, hx⟩ := List.mem_flatMap.1 hu
  simp only [List.mem_cons, List.not_mem_nil, or_false] at hx
  rcases hx with rfl | rfl | rfl | rfl <;> rfl

/- What is owned lies there. -/
theorem clis_own {w : World} {base : Nat} {e : TypeId} {v : Value} {n : Nat} {l : List CliB} (h : w.ownsRow base e 4 v n (cliCells l)) (hs : ∀ s ∈ l, WideCli s) :
    ∃ a c, v = .slice a n c ∧ l.length = n ∧ ClisAt w a c l := by
  have hln : l.length = n := by have := h.1; rw [cliCells_len] at this; omega
  rcases h.2 with ⟨rfl, rfl⟩ | ⟨g, cap, cur, rfl, hb, hg, hnc, hm, hsz, hcur⟩
  · obtain rfl := List.length_eq_zero_iff.1 hln
    exact ⟨none, 0, rfl, rfl, clis_none w⟩
  · have hlt : g < w.heap.size := by
      refine Classical.byContradiction fun hn => ?_
      rw [Array.getElem?_eq_none (by omega)] at hg
      cases hg
    refine ⟨_, cap, rfl, hln, ⟨by omega, hm, hs, fun _ => ⟨g, 0, rfl, hlt, fun i hi => ?_⟩⟩⟩
    have key : ∀ j, j < n * 4 → w.cell? ⟨g, 0 + j, none⟩ = (cliCells l)[j]? := by
      intro j hj
      unfold World.cell?
      simp only [hg, Nat.zero_add]
      rw [← hcur, List.getElem?_take, if_pos hj, Array.getElem?_toList]
      simp
    have hc := cliCells_at l i hi
    unfold fourAt
    rw [show 0 + i * 4 + 1 = 0 + (i * 4 + 1) by omega, show 0 + i * 4 + 2 = 0 + (i * 4 + 2) by omega, show 0 + i * 4 + 3 = 0 + (i * 4 + 3) by omega, key _ (by omega), key _ (by omega), key _ (by omega), key _ (by omega)]
    exact hc
/- The cells, one by one. -/
theorem ClisAt.src {w : World} {a : Option Addr} {c : Nat} {l : List CliB} (h : ClisAt w a c l) (hp : 0 < l.length) : ∃ ad, a = some ad ∧ ∀ j v, (cliCells l)[j]? = some v → w.cell? (ad.add j) = some v := by
  obtain ⟨b, off, rfl, _, hc⟩ := h.cells hp
  refine ⟨_, rfl, fun j v hj => ?_⟩
  have hjn : j < l.length * 4 := by
    have := (List.getElem?_eq_some_iff.1 hj).1
    rw [cliCells_len] at this
    exact this
  have hadd : (⟨b, off, none⟩ : Addr).add j = ⟨b, off + j, none⟩ := by unfold Addr.add; split <;> simp_all
  rw [hadd]
  obtain ⟨k, hk⟩ : ∃ k, j = k * 4 ∨ j = k * 4 + 1 ∨ j = k * 4 + 2 ∨ j = k * 4 + 3 := ⟨j / 4, by omega⟩
  have hkl : k < l.length := by omega
  obtain ⟨e1, e2, e3, e4⟩ := cliCells_at l k hkl
  obtain ⟨f1, f2, f3, f4⟩ := hc k hkl
  rcases hk with rfl | rfl | rfl | rfl
  · rw [e1] at hj; rw [f1, hj]
  · rw [e2] at hj; rw [← Nat.add_assoc, f2, hj]
  · rw [e3] at hj; rw [← Nat.add_assoc, f3, hj]
  · rw [e4] at hj; rw [← Nat.add_assoc, f4, hj]
end Go.Proofs.YtnemiobgmdpnmagGreatFmt
namespace Go.Proofs.YtnemiobgmdpnmagGreatFmt
open Go Go.RowKit

def WideEnt (e : EntB) : Prop := -9223372036854775808 ≤ e.1 ∧ e.1 ≤ 9223372036854775807 ∧ e.2.size ≤ 9223372036854775807

structure EntsAt (w : World) (a : Option Addr) (c : Nat) (l : List EntB) : Prop where
  cap : l.length ≤ c
  max : c ≤ 9223372036854775807
  sz : ∀ e ∈ l, WideEnt e
  cells : 0 < l.length → ∃ b off, a = some ⟨b, off, none⟩ ∧ b < w.heap.size ∧ ∀ i, i < l.length → w.cell? ⟨b, off + i * 2, none⟩ = some (.int .i64 (entAt l i).1) ∧ w.cell? ⟨b, off + i * 2 + 1, none⟩ = some (.string (entAt l i).2)

theorem EntsAt.on {w w' : World} {a : Option Addr} {c : Nat} {l : List EntB} (h : EntsAt w a c l) (hb : Below w.heap.size w w') : EntsAt w' a c l := by
  refine ⟨h.cap, h.max, h.sz, fun hp => ?_⟩
  obtain ⟨b, off, ha, hlt, hc⟩ := h.cells hp
  exact ⟨b, off, ha, Nat.lt_of_lt_of_le hlt hb.size, fun i hi => by rw [hb.cell hlt, hb.cell hlt]; exact hc i hi⟩

theorem ents_none (w : World) : EntsAt w none 0 [] := ⟨Nat.le_refl _, by omega, fun s hs => by simp at hs, fun h => by simp at h⟩

theorem entAt_mem {l : List EntB} {i : Nat} (h : i < l.length) : entAt l i ∈ l := by
  unfold entAt
  rw [List.getD_eq_getElem?_getD, List.getElem?_eq_getElem h, Option.getD_some]
  exact List.getElem_mem _
theorem entAt_ext {l m : List EntB} (hl : l.length = m.length) (h : ∀ j, j < l.length → entAt l j = entAt m j) : l = m := by
  refine List.ext_getElem hl fun i h1 h2 => ?_
  have := h i h1
  unfold entAt at this
  rwa [List.getD_eq_getElem?_getD, List.getD_eq_getElem?_getD, List.getElem?_eq_getElem h1, List.getElem?_eq_getElem h2] at this
theorem ents_drop {l : List EntB} {i : Nat} (h : i < l.length) : l.drop i = entAt l i :: l.drop (i + 1) := by
  unfold entAt
  rw [List.drop_eq_getElem_cons h, List.getD_eq_getElem?_getD, List.getElem?_eq_getElem h, Option.getD_some]

/- The cells of entries, in a row. -/
def entCells (l : List EntB) : List Value := l.flatMap fun s => [.int .i64 s.1, .string s.2]
theorem entCells_len (l : List EntB) : (entCells l).length = l.length * 2 := by
  induction l with
  | nil => rfl
  | cons s l ih => unfold entCells at *; rw [List.flatMap_cons, List.length_append, ih]; simp; omega
theorem entCells_app (l m : List EntB) : entCells (l ++ m) = entCells l ++ entCells m := by simp [entCells]
theorem entCells_at : ∀ (l : List EntB) (i : Nat), i < l.length → (entCells l)[i * 2]? = some (.int .i64 (entAt l i).1) ∧ (entCells l)[i * 2 + 1]? = some (.string (entAt l i).2)
  | s :: l, 0, _ => by simp [entCells, entAt]
  | s :: l, i + 1, h => by
    have := entCells_at l i (by simpa using h)
    have e1 : entCells (s :: l) = .int .i64 s.1 :: .string s.2 :: entCells l := by simp [entCells]
    have e2 : entAt (s :: l) (i + 1) = entAt l i := by simp [entAt]
    rw [e1, e2, show (i + 1) * 2 = i * 2 + 1 + 1 by omega]
    simpa using this

/- What is owned lies there. -/
theorem ents_own {w : World} {base : Nat} {e : TypeId} {v : Value} {n : Nat} {l : List EntB} (h : w.ownsRow base e 2 v n (entCells l)) (hs : ∀ s ∈ l, WideEnt s) :
    ∃ a c, v = .slice a n c ∧ l.length = n ∧ EntsAt w a c l := by
  have hln : l.length = n := by have := h.1; rw [entCells_len] at this; omega
  rcases h.2 with ⟨rfl, rfl⟩ | ⟨g, cap, cur, rfl, hb, hg, hnc, hm, hsz, hcur⟩
  · obtain rfl := List.length_eq_zero_iff.1 hln
    exact ⟨none, 0, rfl, rfl, ents_none w⟩
  · have hlt : g < w.heap.size := by
      refine Classical.byContradiction fun hn => ?_
      rw [Array.getElem?_eq_none (by omega)] at hg
      cases hg
    refine ⟨_, cap, rfl, hln, ⟨by omega, hm, hs, fun _ => ⟨g, 0, rfl, hlt, fun i hi => ?_⟩⟩⟩
    have key : ∀ j, j < n * 2 → w.cell? ⟨g, 0 + j, none⟩ = (entCells l)[j]? := by
      intro j hj
      unfold World.cell?
      simp only [hg, Nat.zero_add]
      rw [← hcur, List.getElem?_take, if_pos hj, Array.getElem?_toList]
      simp
    have hc := entCells_at l i hi
    rw [show 0 + i * 2 + 1 = 0 + (i * 2 + 1) by omega, key _ (by omega), key _ (by omega)]
    exact hc
/- The cells, one by one. -/
theorem EntsAt.src {w : World} {a : Option Addr} {c : Nat} {l : List EntB} (h : EntsAt w a c l) (hp : 0 < l.length) : ∃ ad, a = some ad ∧ ∀ j v, (entCells l)[j]? = some v → w.cell? (ad.add j) = some v := by
  obtain ⟨b, off, rfl, _, hc⟩ := h.cells hp
  refine ⟨_, rfl, fun j v hj => ?_⟩
  have hjn : j < l.length * 2 := by
    have := (List.getElem?_eq_some_iff.1 hj).1
    rw [entCells_len] at this
    exact this
  have hadd : (⟨b, off, none⟩ : Addr).add j = ⟨b, off + j, none⟩ := by unfold Addr.add; split <;> simp_all
  rw [hadd]
  obtain ⟨k, hk⟩ : ∃ k, j = k * 2 ∨ j = k * 2 + 1 := ⟨j / 2, by omega⟩
  have hkl : k < l.length := by omega
  obtain ⟨e1, e2⟩ := entCells_at l k hkl
  obtain ⟨e3, e4⟩ := hc k hkl
  rcases hk with rfl | rfl
  · rw [e1] at hj; rw [e3, hj]
  · rw [e2] at hj; rw [← Nat.add_assoc, e4, hj]
theorem entCells_one (l : List EntB) : ∀ v ∈ entCells l, v.oneCell' = true := by
  intro u hu
  unfold entCells at hu
  obtain ⟨x, _, hx⟩ := List.mem_flatMap.1 hu
  simp only [List.mem_cons, List.not_mem_nil, or_false] at hx
  rcases hx with rfl | rfl <;> rfl
theorem EntsAt.take {w : World} {a : Option Addr} {c : Nat} {l : List EntB} (h : EntsAt w a c l) (k : Nat) : EntsAt w a c (l.take k) := by
  have hl : (l.take k).length ≤ l.length := by rw [List.length_take]; omega
  refine ⟨by have := h.cap; omega, h.max, fun s hs => h.sz s (List.mem_of_mem_take hs), fun hp => ?_⟩
  obtain ⟨b, off, ha, hlt, hc⟩ := h.cells (by omega)
  refine ⟨b, off, ha, hlt, fun i hi => ?_⟩
  have hi' : i < k := by rw [List.length_take] at hi; omega
  have e : entAt (l.take k) i = entAt l i := by simp [entAt, List.getD_eq_getElem?_getD, hi']
  rw [e]
  exact hc i (by omega)
end Go.Proofs.YtnemiobgmdpnmagGreatFmt
namespace Go.Proofs.YtnemiobgmdpnmagGreatFmt
open Go Go.RowKit

structure WAt (w : World) (a0 : Option Addr) (n0 c0 : Nat) (a1 : Option Addr) (n1 c1 : Nat) (a2 : Option Addr) (n2 c2 : Nat) (W : WB) : Prop where
  l0 : W.b0.length = n0
  e0 : EntsAt w a0 c0 W.b0
  l1 : W.b1.length = n1
  e1 : EntsAt w a1 c1 W.b1
  l2 : W.cs.length = n2
  e2 : ClisAt w a2 c2 W.cs
theorem WAt.on {w w' : World} {a0 : Option Addr} {n0 c0 : Nat} {a1 : Option Addr} {n1 c1 : Nat} {a2 : Option Addr} {n2 c2 : Nat} {W : WB} (h : WAt w a0 n0 c0 a1 n1 c1 a2 n2 c2 W) (hb : Below w.heap.size w w') : WAt w' a0 n0 c0 a1 n1 c1 a2 n2 c2 W :=
  ⟨h.l0, h.e0.on hb, h.l1, h.e1.on hb, h.l2, h.e2.on hb⟩
theorem wat_zero (w : World) : WAt w none 0 0 none 0 0 none 0 0 zeroW := ⟨rfl, ents_none w, rfl, ents_none w, rfl, clis_none w⟩
/- A world's value. -/
def WVal (w : World) (v : Value) (W : WB) : Prop := ∃ a0 n0 c0 a1 n1 c1 a2 n2 c2, v = .agg #[.slice a0 n0 c0, .slice a1 n1 c1, .slice a2 n2 c2] ∧ WAt w a0 n0 c0 a1 n1 c1 a2 n2 c2 W

def WideHap (x : HapB) : Prop := (-9223372036854775808 ≤ x.kind ∧ x.kind ≤ 9223372036854775807) ∧ (-9223372036854775808 ≤ x.side ∧ x.side ≤ 9223372036854775807) ∧ (-9223372036854775808 ≤ x.who ∧ x.who ≤ 9223372036854775807) ∧ (-9223372036854775808 ≤ x.other ∧ x.other ≤ 9223372036854775807) ∧ WideEnt x.e
def zeroX : HapB := ⟨0, 0, 0, 0, (0, ⟨#[]⟩)⟩
def hapOf (l : List HapB) (i : Nat) : HapB := l.getD i zeroX
def sixAt (w : World) (b o : Nat) (x : HapB) : Prop := w.cell? ⟨b, o, none⟩ = some (.int .i64 x.kind) ∧ w.cell? ⟨b, o + 1, none⟩ = some (.int .i64 x.side) ∧ w.cell? ⟨b, o + 2, none⟩ = some (.int .i64 x.who) ∧ w.cell? ⟨b, o + 3, none⟩ = some (.int .i64 x.other) ∧
  w.cell? ⟨b, o + 4, none⟩ = some (.int .i64 x.e.1) ∧ w.cell? ⟨b, o + 5, none⟩ = some (.string x.e.2)
theorem sixAt.on {w w' : World} {b o : Nat} {x : HapB} (h : sixAt w b o x) (hlt : b < w.heap.size) (hb : Below w.heap.size w w') : sixAt w' b o x := by
  unfold sixAt
  rw [hb.cell hlt, hb.cell hlt, hb.cell hlt, hb.cell hlt, hb.cell hlt, hb.cell hlt]
  exact h
structure HapsAt (w : World) (a : Option Addr) (c : Nat) (l : List HapB) : Prop where
  cap : l.length ≤ c
  max : c ≤ 9223372036854775807
  sz : ∀ x ∈ l, WideHap x
  cells : 0 < l.length → ∃ b off, a = some ⟨b, off, none⟩ ∧ b < w.heap.size ∧ ∀ i, i < l.length → sixAt w b (off + i * 6) (hapOf l i)
theorem HapsAt.on {w w' : World} {a : Option Addr} {c : Nat} {l : List HapB} (h : HapsAt w a c l) (hb : Below w.heap.size w w') : HapsAt w' a c l := by
  refine ⟨h.cap, h.max, h.sz, fun hp => ?_⟩
  obtain ⟨b, off, ha, hlt, hc⟩ := h.cells hp
  exact ⟨b, off, ha, Nat.lt_of_lt_of_le hlt hb.size, fun i hi => (hc i hi).on hlt hb⟩
theorem hapOf_mem {l : List HapB} {i : Nat} (h : i < l.length) : hapOf l i ∈ l := by
  unfold hapOf
  rw [List.getD_eq_getElem?_getD, List.getElem?_eq_getElem h, Option.getD_some]
  exact List.getElem_mem _
theorem haps_take {l : List HapB} {i : Nat} (h : i < l.length) : l.take (i + 1) = l.take i ++ [hapOf l i] := by
  unfold hapOf
  rw [List.getD_eq_getElem?_getD, List.getElem?_eq_getElem h, Option.getD_some, List.take_succ_eq_append_getElem h]
theorem HapsAt.take {w : World} {a : Option Addr} {c : Nat} {l : List HapB} (h : HapsAt w a c l) (k : Nat) : HapsAt w a c (l.take k) := by
  have hl : (l.take k).length ≤ l.length := by rw [List.length_take]; omega
  refine ⟨by have := h.cap; omega, h.max, fun s hs => h.sz s (List.mem_of_mem_take hs), fun hp => ?_⟩
  obtain ⟨b, off, ha, hlt, hc⟩ := h.cells (by omega)
  refine ⟨b, off, ha, hlt, fun i hi => ?_⟩
  have hi' : i < k := by rw [List.length_take] at hi; omega
  have e : hapOf (l.take k) i = hapOf l i := by simp [hapOf, List.getD_eq_getElem?_getD, hi']
  rw [e]
  exact hc i (by omega)
/- The rest of a slice: behind k, where there is something. -/
theorem HapsAt.drop {w : World} {a : Option Addr} {c : Nat} {l : List HapB} (h : HapsAt w a c l) {k : Nat} (hk : k < l.length) : ∃ b off, a = some ⟨b, off, none⟩ ∧ HapsAt w (some ⟨b, off + k * 6, none⟩) (c - k) (l.drop k) := by
  obtain ⟨b, off, ha, hlt, hc⟩ := h.cells (by omega)
  refine ⟨b, off, ha, ⟨by rw [List.length_drop]; have := h.cap; omega, by have := h.max; omega, fun s hs => h.sz s (List.mem_of_mem_drop hs), fun _ => ⟨b, off + k * 6, rfl, hlt, fun i hi => ?_⟩⟩⟩
  rw [List.length_drop] at hi
  have e : hapOf (l.drop k) i = hapOf l (k + i) := by simp [hapOf, List.getD_eq_getElem?_getD, List.getElem?_drop]
  rw [e, show off + k * 6 + i * 6 = off + (k + i) * 6 by omega]
  exact hc (k + i) (by omega)
theorem haps_zero (w : World) (a : Option Addr) {c : Nat} (hc : c ≤ 9223372036854775807) : HapsAt w a c [] := ⟨Nat.zero_le _, hc, fun s hs => by simp at hs, fun h => by simp at h⟩
theorem world_eq {W V : WB} (h0 : W.cs = V.cs) (h1 : W.b0 = V.b0) (h2 : W.b1 = V.b1) : W = V := by
  cases W; cases V; simp_all
theorem clisE_at {l : List CliB} {j : Nat} (hj : j < l.length) (hp : ∀ i, i < j → cliE (cliOf l i) = 0) (h : cliE (cliOf l j) ≠ 0) : clisE l = cliE (cliOf l j) := by
  induction l generalizing j with
  | nil => cases hj
  | cons c l ih =>
    cases j with
    | zero =>
      have h' : cliE c ≠ 0 := h
      unfold clisE
      rw [if_pos h']
      rfl
    | succ j =>
      unfold clisE
      have h0 : cliE c = 0 := hp 0 (by omega)
      rw [if_neg (fun hh => hh h0)]
      exact ih (by simpa using hj) (fun i hi => hp (i + 1) (by omega)) h
theorem clisE_all {l : List CliB} (hp : ∀ i, i < l.length → cliE (cliOf l i) = 0) : clisE l = 0 := by
  rw [clisE_iff]
  intro c hc
  obtain ⟨i, hi, rfl⟩ := List.getElem_of_mem hc
  have := hp i hi
  unfold cliOf at this
  rwa [List.getD_eq_getElem?_getD, List.getElem?_eq_getElem hi, Option.getD_some] at this
theorem three_cells (a0 : Option Addr) (n0 c0 : Nat) (a1 : Option Addr) (n1 c1 : Nat) (a2 : Option Addr) (n2 c2 : Nat) : (#[.slice a0 n0 c0, .slice a1 n1 c1, .slice a2 n2 c2] : Array Value).all (·.oneCell') = true := by simp [Value.oneCell']
end Go.Proofs.YtnemiobgmdpnmagGreatFmt
namespace Go.Proofs.YtnemiobgmdpnmagGreatFmt
open Go Go.RowKit Go.Maps

theorem doV_good {W : WB} {x : HapB} (h : (doV W x).2 = 0) : worldE W = 0 := by
  unfold doV at h
  by_cases h0 : worldE W = 0
  · exact h0
  · rw [if_pos h0] at h; exact absurd h h0
theorem doV_hap {W : WB} {x : HapB} (h : worldE W = 0) : doV W x = hapV W x := if_neg (fun hh => hh h)
structure Keeps (W Y : WB) (x : HapB) : Prop where
  good : worldE Y = 0
  more : W.b0.length ≤ Y.b0.length
  first : Y.b0.take W.b0.length = W.b0
  same : Y.cs.length = W.cs.length
  each : ∀ k, k < 3 → ((cliOf W.cs k).2.2.2 = true → (cliOf Y.cs k).2.2.2 = true) ∧ (cliOf W.cs k).1 ≤ (cliOf Y.cs k).1 ∧
    (¬ ((cliOf Y.cs k).1 = (cliOf W.cs k).1 ∧ (cliOf Y.cs k).2.1 = (cliOf W.cs k).2.1 ∧ (cliOf Y.cs k).2.2.1 = (cliOf W.cs k).2.2.1) → x.kind = 3 ∧ x.who = (k : Int)) ∧ cliE (cliOf Y.cs k) = 0
theorem keeps_self {W : WB} {x : HapB} (h : worldE W = 0) : Keeps W W x := by
  obtain ⟨_, _, h3, hc⟩ := (worldE_iff W).1 h
  exact ⟨h, Nat.le_refl _, List.take_of_length_le (Nat.le_refl _), rfl, fun k hk => ⟨id, Int.le_refl _, fun hh => absurd ⟨rfl, rfl, rfl⟩ hh, hc _ (cliOf_mem (by omega))⟩⟩
/- Books alone are others: the clients stay. -/
theorem keeps_books {W Y : WB} {x : HapB} (h : worldE W = 0) (hc : Y.cs = W.cs) (h0 : GoodBook Y.b0) (h1 : GoodBook Y.b1) (hm : W.b0.length ≤ Y.b0.length) (hf : Y.b0.take W.b0.length = W.b0) : Keeps W Y x := by
  obtain ⟨_, _, h3, hg⟩ := (worldE_iff W).1 h
  refine ⟨(worldE_iff Y).2 ⟨h0, h1, by rw [hc]; exact h3, by rw [hc]; exact hg⟩, hm, hf, by rw [hc], fun k hk => ?_⟩
  rw [hc]
  exact ⟨id, Int.le_refl _, fun hh => absurd ⟨rfl, rfl, rfl⟩ hh, hg _ (cliOf_mem (by omega))⟩
/- One client is another one. -/
theorem keeps_cli {W : WB} {x : HapB} {j : Nat} {d : CliB} (h : worldE W = 0) (hj : j < 3) (hd : cliE d = 0) (hF : (cliOf W.cs j).2.2.2 = true → d.2.2.2 = true) (hn : (cliOf W.cs j).1 ≤ d.1)
    (hh : ¬ (d.1 = (cliOf W.cs j).1 ∧ d.2.1 = (cliOf W.cs j).2.1 ∧ d.2.2.1 = (cliOf W.cs j).2.2.1) → x.kind = 3 ∧ x.who = (j : Int)) : Keeps W { W with cs := W.cs.set j d } x := by
  obtain ⟨g0, g1, h3, hg⟩ := (worldE_iff W).1 h
  refine ⟨(worldE_iff _).2 ⟨g0, g1, by simpa using h3, fun c hc => ?_⟩, Nat.le_refl _, List.take_of_length_le (Nat.le_refl _), by simp, fun k hk => ?_⟩
  · rcases List.mem_or_eq_of_mem_set hc with h | rfl
    · exact hg c h
    · exact hd
  · show _ ∧ _ ∧ _ ∧ _
    rw [show ({ W with cs := W.cs.set j d } : WB).cs = W.cs.set j d from rfl, cliOf_set d (by omega)]
    by_cases hkj : k = j
    · subst hkj
      rw [if_pos rfl]
      exact ⟨hF, hn, hh, hd⟩
    · rw [if_neg hkj]
      exact ⟨id, Int.le_refl _, fun hh => absurd ⟨rfl, rfl, rfl⟩ hh, hg _ (cliOf_mem (by omega))⟩
theorem Keeps.trans_fool {W Y Z : WB} {x : HapB} (h1 : Keeps W Y x) (h2 : Keeps Y Z x) (hx : x.kind ≠ 3) : Keeps W Z x := by
  refine ⟨h2.good, Nat.le_trans h1.more h2.more, ?_, h2.same.trans h1.same, fun k hk => ?_⟩
  · have e : Z.b0.take W.b0.length = (Z.b0.take Y.b0.length).take W.b0.length := by rw [List.take_take, Nat.min_eq_left h1.more]
    rw [e, h2.first, h1.first]
  · obtain ⟨a1, a2, a3, _⟩ := h1.each k hk
    obtain ⟨b1, b2, b3, b4⟩ := h2.each k hk
    refine ⟨fun h => b1 (a1 h), Int.le_trans a2 b2, fun hh => ?_, b4⟩
    refine Classical.byContradiction fun hn => hh ?_
    have e1 : ((cliOf Y.cs k).1 = (cliOf W.cs k).1 ∧ (cliOf Y.cs k).2.1 = (cliOf W.cs k).2.1 ∧ (cliOf Y.cs k).2.2.1 = (cliOf W.cs k).2.2.1) := Classical.byContradiction fun h => hx (a3 h).1
    have e2 : ((cliOf Z.cs k).1 = (cliOf Y.cs k).1 ∧ (cliOf Z.cs k).2.1 = (cliOf Y.cs k).2.1 ∧ (cliOf Z.cs k).2.2.1 = (cliOf Y.cs k).2.2.1) := Classical.byContradiction fun h => hx (b3 h).1
    exact ⟨e2.1.trans e1.1, e2.2.1.trans e1.2.1, e2.2.2.trans e1.2.2⟩
theorem side_good {W : WB} (h : worldE W = 0) (s : Int) : GoodBook (sideL W s) := by
  obtain ⟨g0, g1, _, _⟩ := (worldE_iff W).1 h
  unfold sideL
  split
  · exact g0
  · exact g1
theorem cliAt_of {W : WB} {k : Nat} : cliAt W (k : Int) = cliOf W.cs k := by unfold cliAt cliOf; rw [Int.toNat_natCast]
theorem cliE_fool (c : CliB) : cliE (foolC c) = cliE c := rfl
theorem foll_facts {c : CliB} {l : List EntB} {y : List ByteArray} (hc : cliE c = 0) (hl : GoodBook l) (hz : ¬ (follE c l y ≠ 0 ∧ follE c l y ≠ 7)) :
    cliE (follC c l y) = 0 ∧ (c.2.2.2 = true → (follC c l y).2.2.2 = true) ∧ c.1 ≤ (follC c l y).1 := by
  unfold follE at hz
  by_cases h0 : followE c.1 c.2.1 c.2.2.1 (l.length : Int) (headLog l) (headMap l) y = 0
  · obtain ⟨f1, f2, f3, f4⟩ := fol_zero (cf := c.2.2.2) h0
    have hlate : ¬ (l.length : Int) < c.1 := by
      intro hlt
      rw [follow_late (l := y) hc (head_good hl) hlt] at h0
      cases h0
    unfold cliE follC
    simp only
    rw [f1, f2, f3, f4]
    exact ⟨head_good hl, id, by omega⟩
  · have h7 : followE c.1 c.2.1 c.2.2.1 (l.length : Int) (headLog l) (headMap l) y = 7 := Classical.byContradiction fun h => hz ⟨h0, h⟩
    obtain ⟨f1, f2, f3, f4⟩ := fol_seven (cf := c.2.2.2) h7
    unfold cliE follC
    simp only
    rw [f1, f2, f3, f4]
    exact ⟨hc, fun _ => rfl, Int.le_refl _⟩
theorem keeps_foll {W : WB} {x : HapB} (h : worldE W = 0) (hk : x.kind = 3) {j : Nat} (hj : j < 3) (hw : x.who = (j : Int)) (l : List EntB) (hl : GoodBook l) (y : List ByteArray)
    (hz : ¬ (follE (cliOf W.cs j) l y ≠ 0 ∧ follE (cliOf W.cs j) l y ≠ 7)) : Keeps W { W with cs := W.cs.set j (follC (cliOf W.cs j) l y) } x := by
  obtain ⟨_, _, h3, hg⟩ := (worldE_iff W).1 h
  obtain ⟨f1, f2, f3⟩ := foll_facts (hg _ (cliOf_mem (l := W.cs) (i := j) (by omega))) hl hz
  exact keeps_cli h hj f1 f2 f3 (fun _ => ⟨hk, hw⟩)
/- A world stays one; the first book only grows; who is fooled stays so; whose head changes was shown. -/
theorem keeps_do {W : WB} {x : HapB} (h : (doV W x).2 = 0) : Keeps W (doV W x).1 x := by
  have hE := doV_good h
  rw [doV_hap hE] at h ⊢
  obtain ⟨g0, g1, h3, hg⟩ := (worldE_iff W).1 hE
  unfold hapV at h ⊢
  by_cases hk : 1 ≤ x.kind ∧ x.kind ≤ 5
  · rw [if_neg (fun hh => hh hk)] at h ⊢
    by_cases hr : rightX x
    · rw [if_neg (fun hh => hh hr)] at h ⊢
      obtain ⟨r1, r2, r3, r4, r5, r6⟩ := hr
      obtain ⟨j, hj⟩ : ∃ j : Nat, x.who = (j : Int) := ⟨x.who.toNat, by omega⟩
      obtain ⟨i, hi⟩ : ∃ i : Nat, x.other = (i : Int) := ⟨x.other.toNat, by omega⟩
      have hj3 : j < 3 := by omega
      have hi3 : i < 3 := by omega
      by_cases k1 : x.kind = 1
      · rw [if_pos k1] at h ⊢
        by_cases hb : bookE (sideL W x.side ++ [x.e]) = 0
        · rw [if_neg (fun hh => hh hb)]
          have hgb := (bookE_iff _).1 hb
          unfold setSide
          unfold sideL at hgb ⊢
          by_cases s0 : x.side = 0
          · rw [if_pos s0] at hgb
            rw [if_pos s0, if_pos s0]
            exact keeps_books hE rfl hgb g1 (by show _ ≤ (W.b0 ++ [x.e]).length; rw [List.length_append]; omega) (by show (W.b0 ++ [x.e]).take _ = _; rw [List.take_append_of_le_length (Nat.le_refl _), List.take_of_length_le (Nat.le_refl _)])
          · rw [if_neg s0] at hgb
            rw [if_neg s0, if_neg s0]
            exact keeps_books hE rfl g0 hgb (Nat.le_refl _) (List.take_of_length_le (Nat.le_refl _))
        · rw [if_pos hb] at h; exact absurd h hb
      · rw [if_neg k1] at h ⊢
        by_cases k2 : x.kind = 2
        · rw [if_pos k2]
          exact keeps_books hE rfl g0 g0 (Nat.le_refl _) (List.take_of_length_le (Nat.le_refl _))
        · rw [if_neg k2] at h ⊢
          by_cases k3 : x.kind = 3
          · rw [if_pos k3] at h ⊢
            rw [hj] at h ⊢
            rw [cliAt_of] at h ⊢
            by_cases hz : follE (cliOf W.cs j) (sideL W x.side) (growL (sideL W x.side) (cliOf W.cs j).1) ≠ 0 ∧ follE (cliOf W.cs j) (sideL W x.side) (growL (sideL W x.side) (cliOf W.cs j).1) ≠ 7
            · rw [if_pos hz] at h; exact absurd h hz.1
            · rw [if_neg hz]
              have hf := keeps_foll hE k3 hj3 hj (sideL W x.side) (side_good hE _) _ hz
              unfold setCli
              rw [Int.toNat_natCast]
              exact hf
          · rw [if_neg k3] at h ⊢
            by_cases k4 : x.kind = 4
            · rw [if_pos k4]
              by_cases hm : metP W (cliAt W x.who) (cliAt W x.other)
              · rw [if_pos hm]; exact keeps_self hE
              · rw [if_neg hm, hj, hi, cliAt_of, cliAt_of]
                have f1 : Keeps W { W with cs := W.cs.set j (foolC (cliOf W.cs j)) } x := keeps_cli hE hj3 (by rw [cliE_fool]; exact hg _ (cliOf_mem (l := W.cs) (i := j) (by omega))) (fun _ => rfl) (Int.le_refl _) (fun hh => absurd ⟨rfl, rfl, rfl⟩ hh)
                have e : cliOf (W.cs.set j (foolC (cliOf W.cs j))) i = if i = j then foolC (cliOf W.cs j) else cliOf W.cs i := cliOf_set _ (by omega)
                have e' : (cliOf (W.cs.set j (foolC (cliOf W.cs j))) i).1 = (cliOf W.cs i).1 ∧ (cliOf (W.cs.set j (foolC (cliOf W.cs j))) i).2.1 = (cliOf W.cs i).2.1 ∧ (cliOf (W.cs.set j (foolC (cliOf W.cs j))) i).2.2.1 = (cliOf W.cs i).2.2.1 := by
                  rw [e]
                  split
                  · rename_i hij; subst hij; exact ⟨rfl, rfl, rfl⟩
                  · exact ⟨rfl, rfl, rfl⟩
                have f2 : Keeps { W with cs := W.cs.set j (foolC (cliOf W.cs j)) } { W with cs := (W.cs.set j (foolC (cliOf W.cs j))).set i (foolC (cliOf W.cs i)) } x :=
                  keeps_cli f1.good hi3 (by rw [cliE_fool]; exact hg _ (cliOf_mem (l := W.cs) (i := i) (by omega))) (fun _ => rfl) (by show (cliOf (W.cs.set j _) i).1 ≤ (cliOf W.cs i).1; rw [e'.1]; exact Int.le_refl _)
                    (fun hh => absurd ⟨e'.1.symm, e'.2.1.symm, e'.2.2.symm⟩ hh)
                have f3 := f1.trans_fool f2 k3
                unfold setCli
                rw [Int.toNat_natCast, Int.toNat_natCast]
                exact f3
            · rw [if_neg k4] at h ⊢
              by_cases hx : 0 ≤ x.e.1 ∧ x.e.1 < 16
              · rw [if_neg (fun hh => hh hx)] at h ⊢
                by_cases ha : askE (cliAt W x.who) (sideL W x.side) x.e.1 = 0
                · rw [if_neg (fun hh => hh ha)]; exact keeps_self hE
                · rw [if_pos ha] at h; exact absurd h ha
              · rw [if_pos hx] at h; cases h
    · rw [if_pos hr] at h; cases h
  · rw [if_pos hk] at h; cases h
end Go.Proofs.YtnemiobgmdpnmagGreatFmt
