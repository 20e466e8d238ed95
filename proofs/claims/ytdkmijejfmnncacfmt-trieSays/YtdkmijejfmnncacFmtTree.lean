/-
  Contracts of package tree over this seat's dump: Half, Root, and what a slice of texts is in memory.
-/
import Derived.Test.YtdkmijejfmnncacFmtSeal
import Derived.Test.YtdkmijejfmnncacFmtTreeMath
import Derived.LoopTactic
namespace Go.Proofs.YtdkmijejfmnncacFmt
open Go Go.RowKit

/- A slice of texts: its address and capacity, and the texts. -/
structure StrsAt (w : World) (a : Option Addr) (c : Nat) (l : List ByteArray) : Prop where
  cap : l.length ≤ c
  max : c ≤ 9223372036854775807
  sz : ∀ s ∈ l, s.size ≤ 9223372036854775807
  cells : 0 < l.length → ∃ b off, a = some ⟨b, off, none⟩ ∧ b < w.heap.size ∧ ∀ i, i < l.length → w.cell? ⟨b, off + i, none⟩ = some (.string (l.getD i ByteArray.empty))

theorem StrsAt.on {w w' : World} {a : Option Addr} {c : Nat} {l : List ByteArray} (h : StrsAt w a c l) (hb : Below w.heap.size w w') : StrsAt w' a c l := by
  refine ⟨h.cap, h.max, h.sz, fun hp => ?_⟩
  obtain ⟨b, off, ha, hlt, hc⟩ := h.cells hp
  exact ⟨b, off, ha, Nat.lt_of_lt_of_le hlt hb.size, fun i hi => by rw [hb.cell hlt]; exact hc i hi⟩

theorem StrsAt.take {w : World} {b off c : Nat} {l : List ByteArray} (h : StrsAt w (some ⟨b, off, none⟩) c l) (k : Nat) : StrsAt w (some ⟨b, off, none⟩) c (l.take k) := by
  have hl : (l.take k).length ≤ l.length := by rw [List.length_take]; omega
  refine ⟨by have := h.cap; omega, h.max, fun s hs => h.sz s (List.mem_of_mem_take hs), fun hp => ?_⟩
  obtain ⟨b', off', ha, hlt, hc⟩ := h.cells (by omega)
  injection ha with ha
  injection ha with e1 e2
  subst e1 e2
  refine ⟨b, off, rfl, hlt, fun i hi => ?_⟩
  have hi' : i < k := by rw [List.length_take] at hi; omega
  rw [hc i (by omega)]
  simp [hi', List.getD_eq_getElem?_getD]

theorem StrsAt.drop {w : World} {b off c : Nat} {l : List ByteArray} (h : StrsAt w (some ⟨b, off, none⟩) c l) (k : Nat) : StrsAt w (some ⟨b, off + k, none⟩) (c - k) (l.drop k) := by
  have hl : (l.drop k).length = l.length - k := by rw [List.length_drop]
  refine ⟨by have := h.cap; omega, by have := h.max; omega, fun s hs => h.sz s (List.mem_of_mem_drop hs), fun hp => ?_⟩
  obtain ⟨b', off', ha, hlt, hc⟩ := h.cells (by omega)
  injection ha with ha
  injection ha with e1 e2
  subst e1 e2
  refine ⟨b, off + k, rfl, hlt, fun i hi => ?_⟩
  rw [show off + k + i = off + (k + i) by omega, hc (k + i) (by omega)]
  simp [List.getD_eq_getElem?_getD]

/- Half. -/


/- Root, by induction on the number of texts. -/




end Go.Proofs.YtdkmijejfmnncacFmt
