/-
  A slice of numbers in memory, and among a law's arguments; slices.Clone of it.
-/
import Derived.Test.YthhckpnnjegldafDoorOwn
import Derived.ChangeSlices
import Derived.ProofKit
namespace Go.Proofs.YthhckpnnjegldafDoor
open Go Go.RowKit Go.ChangeShapes Go.WideShapes

structure IntsAt (w : World) (a : Option Addr) (c : Nat) (l : List Int) : Prop where
  cap : l.length ≤ c
  max : c ≤ 9223372036854775807
  sz : ∀ x ∈ l, -9223372036854775808 ≤ x ∧ x ≤ 9223372036854775807
  cells : 0 < l.length → ∃ b off, a = some ⟨b, off, none⟩ ∧ b < w.heap.size ∧ ∀ i, i < l.length → w.cell? ⟨b, off + i, none⟩ = some (.int .i64 (l.getD i 0))

theorem IntsAt.on {w w' : World} {a : Option Addr} {c : Nat} {l : List Int} (h : IntsAt w a c l) (hb : Below w.heap.size w w') : IntsAt w' a c l := by
  refine ⟨h.cap, h.max, h.sz, fun hp => ?_⟩
  obtain ⟨b, off, ha, hlt, hc⟩ := h.cells hp
  exact ⟨b, off, ha, Nat.lt_of_lt_of_le hlt hb.size, fun i hi => by rw [hb.cell hlt]; exact hc i hi⟩
theorem IntsAt.take {w : World} {a : Option Addr} {c : Nat} {l : List Int} (h : IntsAt w a c l) (k : Nat) : IntsAt w a c (l.take k) := by
  have hl : (l.take k).length ≤ l.length := by rw [List.length_take]; omega
  refine ⟨by have := h.cap; omega, h.max, fun s hs => h.sz s (List.mem_of_mem_take hs), fun hp => ?_⟩
  obtain ⟨b, off, ha, hlt, hc⟩ := h.cells (by omega)
  refine ⟨b, off, ha, hlt, fun i hi => ?_⟩
  have hi' : i < k := by rw [List.length_take] at hi; omega
  have e : (l.take k).getD i 0 = l.getD i 0 := by simp [List.getD_eq_getElem?_getD, hi']
  rw [e]
  exact hc i (by omega)

theorem open_nums {H : Type} {enc : TypeId × Value → H} {P : Program} {W : World} {r : Reach} {b0 base : Nat} {held : Bool} {t e : TypeId} {v : Value} {d : DataW H} {ps : List MemPlace}
    (ht : P.underlying t = some (.slice e)) (he : P.underlying e = some (.int .i64)) (hc : P.cellsOf e = 1) (hval : Value.okWide P W r b0 t v) (hd : DataW.Trod enc P W base (fun _ => true) held t v d ps) :
    ∃ (a : Option Addr) (n c : Nat) (l : List Int), v = .slice a n c ∧ l.length = n ∧ IntsAt W a c l := by
  obtain ⟨a0, len, cap, rfl⟩ := okWide_slice ht hval
  obtain ⟨fuel, hf⟩ := hd
  rcases open_ints ht he hc hf with ⟨hcs, _⟩ | ⟨a, len', cap', ss, hcs, _, hl, hm, hz, _, hcell, hsz⟩
  · have hcs : [Value.slice a0 len cap] = [.slice none 0 0] := hcs
    injection hcs with h1 _
    injection h1 with e1 e2 e3
    subst e1 e2 e3
    exact ⟨none, 0, 0, [], rfl, rfl, ⟨Nat.le_refl _, by omega, fun s hs => by simp at hs, fun h => by simp at h⟩⟩
  · have hcs : [Value.slice a0 len cap] = [.slice (some a) len' cap'] := hcs
    injection hcs with h1 _
    injection h1 with e1 e2 e3
    subst e1 e2 e3
    have hz : ss.length = cap := by simpa using hz
    have hlen : (ss.take len).length = len := by rw [List.length_take]; omega
    refine ⟨some a, len, cap, ss.take len, rfl, hlen, ⟨by omega, hm, fun s hs => ?_, fun hp => ?_⟩⟩
    · have := hsz s (List.mem_of_mem_take hs)
      simp only [Lit.wf, Bool.and_eq_true, decide_eq_true_eq] at this
      exact this
    have h0 := hcell 0 (by omega)
    obtain ⟨b, off, spot⟩ := a
    have hlt : b < W.heap.size := by
      refine Classical.byContradiction fun hn => ?_
      have : W.cell? ((⟨b, off, spot⟩ : Addr).add 0) = none := by
        unfold World.cell?
        rw [Array.getElem?_eq_none (by simpa [Addr.add] using hn)]
      rw [this] at h0
      cases h0
    have hs : spot = none := by
      cases spot with
      | none => rfl
      | some k =>
        unfold World.cell? at h0
        simp only [Addr.add, ↓reduceIte, Option.isSome_some] at h0
        split at h0 <;> simp at h0
    subst hs
    refine ⟨b, off, rfl, hlt, fun i hi => ?_⟩
    have := hcell i (by omega)
    have e : (⟨b, off, none⟩ : Addr).add i = ⟨b, off + i, none⟩ := by
      unfold Addr.add
      split
      · rename_i h; subst h; rfl
      · rfl
    rw [e] at this
    rw [this]
    have : i < len := by omega
    simp [this, List.getD_eq_getElem?_getD]
