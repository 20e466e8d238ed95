/-
  slices.Equal and slices.Clone at slices of texts, whatever their addresses.
-/
import Derived.Test.YtlcehogcalebdaeFmtTree
import Derived.Deep.AppendLies
namespace Go.Proofs.YtlcehogcalebdaeFmt
open Go Go.RowKit

theorem equal_strs (l m : List ByteArray) (a1 a2 : Option Addr) (n1 c1 n2 c2 : Nat) (w : World) (h1 : l.length = n1) (h2 : m.length = n2) (hS1 : StrsAt w a1 c1 l) (hS2 : StrsAt w a2 c2 m) :
    Calls Tryf.prog 13 #[.slice a1 n1 c1, .slice a2 n2 c2] w fun e w' => e = .returned (.bool (decide (l = m))) ∧ Below w.heap.size w w' := by
  have m1 := hS1.max
  have m2 := hS2.max
  have k1 := hS1.cap
  have k2 := hS2.cap
  by_cases hn : n1 = n2
  · subst hn
    rcases Nat.eq_zero_or_pos n1 with h0 | h0
    · subst h0
      obtain rfl := List.length_eq_zero_iff.1 h1
      obtain rfl := List.length_eq_zero_iff.1 h2
      refine (Tryf.slices_Equal_string_empty a1 a2 c1 0 c2 w (by omega)).mono ?_
      rintro e w' ⟨rfl, rfl⟩
      exact ⟨by simp, Below.refl _ _⟩
    · obtain ⟨b1, o1, rfl, _, q1⟩ := hS1.cells (by omega)
      obtain ⟨b2, o2, rfl, _, q2⟩ := hS2.cells (by omega)
      refine (Tryf.slices_Equal_string b1 o1 n1 c1 b2 o2 n1 c2 l m w (by omega) (by omega) (by omega) (by omega) q1 q2).mono ?_
      rintro e w' ⟨rfl, q, rfl⟩
      refine ⟨?_, below_drewN (Below.refl _ _) q⟩
      rw [List.take_of_length_le (by omega), List.take_of_length_le (by omega)]
  · refine (Tryf.slices_Equal_string_lens a1 a2 n1 c1 n2 c2 w hn).mono ?_
    rintro e w' ⟨rfl, rfl⟩
    refine ⟨?_, Below.refl _ _⟩
    have : l ≠ m := fun h => hn (by rw [← h1, ← h2, h])
    simp [this]

/- A copy: memory of its own, that may be written. -/

/- One text put in another's place. -/
theorem StrsAt.put {w : World} {g off c : Nat} {l : List ByteArray} (h : StrsAt w (some ⟨g, off, none⟩) c l) (j : Nat) (hj : j < l.length) (s : ByteArray) (hs : s.size ≤ 9223372036854775807) :
    StrsAt (w.setCell ⟨g, off + j, none⟩ (.string s)) (some ⟨g, off, none⟩) c (l.set j s) := by
  obtain ⟨b', off', ha, hlt, hc⟩ := h.cells (by omega)
  injection ha with ha
  injection ha with e1 e2
  subst e1 e2
  refine ⟨by have := h.cap; simpa using this, h.max, fun x hx => ?_, fun _ => ⟨g, off, rfl, ?_, fun i hi => ?_⟩⟩
  · rcases List.mem_or_eq_of_mem_set hx with hx | rfl
    · exact h.sz x hx
    · exact hs
  · simpa using hlt
  · by_cases hij : i = j
    · subst hij
      rw [World.cell?_setCell_same _ _ _ (hc i hj)]
      simp [hj, List.getD_eq_getElem?_getD]
    · rw [World.cell?_setCell_other _ _ _ _ (by simp only [ne_eq, Addr.mk.injEq]; omega), hc i (by simpa using hi)]
      rw [List.getD_eq_getElem?_getD, List.getD_eq_getElem?_getD, List.getElem?_set_ne (by omega)]

/- A copy, of whatever length, as memory of its own. -/