/-
  A slice of texts among a law's arguments, opened as its texts.
-/
import Derived.Test.YthhckpnnjegldafDoorTree
import Derived.SliceStrings
import Derived.ProofKit
namespace Go.Proofs.YthhckpnnjegldafDoor
open Go Go.RowKit Go.ChangeShapes Go.WideShapes

theorem open_texts {H : Type} {enc : TypeId × Value → H} {P : Program} {W : World} {r : Reach} {b0 base : Nat} {held : Bool} {t e : TypeId} {v : Value} {d : DataW H} {ps : List MemPlace}
    (ht : P.underlying t = some (.slice e)) (he : P.underlying e = some .string) (hc : P.cellsOf e = 1) (hval : Value.okWide P W r b0 t v) (hd : DataW.Trod enc P W base (fun _ => true) held t v d ps) :
    ∃ (a : Option Addr) (n c : Nat) (l : List ByteArray), v = .slice a n c ∧ l.length = n ∧ StrsAt W a c l := by
  obtain ⟨a0, len, cap, rfl⟩ := okWide_slice ht hval
  obtain ⟨fuel, hf⟩ := hd
  rcases open_strings ht he hc hf with ⟨hcs, _⟩ | ⟨a, len', cap', ss, hcs, _, hl, hm, hz, _, hcell, hsz⟩
  · have hcs : [Value.slice a0 len cap] = [.slice none 0 0] := hcs
    injection hcs with h1 _
    injection h1 with e1 e2 e3
    subst e1 e2 e3
    exact ⟨none, 0, 0, [], rfl, rfl, ⟨Nat.le_refl _, by omega, fun s hs => by simp at hs, fun h => by simp at h⟩⟩
  · have hcs : [Value.slice a0 len cap] = [.slice (some a) len' cap'] := hcs
    injection hcs with h1 _
    injection h1 with e1 e2 e3
    subst e1 e2 e3
    have hz : ss.length = cap := by simpa using hz
    have hlen : (ss.take len).length = len := by rw [List.length_take]; omega
    refine ⟨some a, len, cap, ss.take len, rfl, hlen, ⟨by omega, hm, fun s hs => hsz s (List.mem_of_mem_take hs), fun hp => ?_⟩⟩
    have h0 := hcell 0 (by omega)
    obtain ⟨b, off, spot⟩ := a
    have hlt : b < W.heap.size := by
      refine Classical.byContradiction fun hn => ?_
      have : W.cell? ((⟨b, off, spot⟩ : Addr).add 0) = none := by
        unfold World.cell?
        rw [Array.getElem?_eq_none (by simpa [Addr.add] using hn)]
      rw [this] at h0
      cases h0
    have hs : spot = none := by
      cases spot with
      | none => rfl
      | some k =>
        unfold World.cell? at h0
        simp only [Addr.add, ↓reduceIte, Option.isSome_some] at h0
        split at h0 <;> simp at h0
    subst hs
    refine ⟨b, off, rfl, hlt, fun i hi => ?_⟩
    have := hcell i (by omega)
    have e : (⟨b, off, none⟩ : Addr).add i = ⟨b, off + i, none⟩ := by
      unfold Addr.add
      split
      · rename_i h; subst h; rfl
      · rfl
    rw [e] at this
    rw [this]
    have : i < len := by omega
    simp [this, List.getD_eq_getElem?_getD]

theorem weightsAll_mem {H : Type} {P : Program} {e : TypeId} {m : Nat} {d : DataW H} (hm : m ∈ d.weights P e) : ∀ {l : List (DataW H)}, d ∈ l → m ∈ DataW.weightsAll P e l
  | x :: l, h => by
    unfold DataW.weightsAll
    rcases List.mem_cons.1 h with rfl | h
    · exact List.mem_append_left _ hm
    · exact List.mem_append_right _ (weightsAll_mem hm h)

/- The same, with a bound of what the argument weighs: no text is longer. -/
theorem open_texts_sized {H : Type} {enc : TypeId × Value → H} {P : Program} {W : World} {r : Reach} {b0 base K : Nat} {held : Bool} {t e : TypeId} {v : Value} {d : DataW H} {ps : List MemPlace}
    (ht : P.underlying t = some (.slice e)) (he : P.underlying e = some .string) (hc : P.cellsOf e = 1) (hval : Value.okWide P W r b0 t v) (hd : DataW.Trod enc P W base (fun _ => true) held t v d ps) (hw : ∀ m ∈ d.weights P t, m ≤ K) :
    ∃ (a : Option Addr) (n c : Nat) (l : List ByteArray), v = .slice a n c ∧ l.length = n ∧ StrsAt W a c l ∧ ∀ s ∈ l, s.size ≤ K := by
  obtain ⟨a0, n0, c0, l0, rfl, hl0, hS0⟩ := open_texts ht he hc hval hd
  refine ⟨a0, n0, c0, l0, rfl, hl0, hS0, fun s hs => ?_⟩
  obtain ⟨j, hj, hjs⟩ := List.getElem_of_mem hs
  obtain ⟨b, off, rfl, _, hcl⟩ := hS0.cells (by omega)
  have hcj := hcl j hj
  have hat : l0.getD j ByteArray.empty = s := by
    rw [List.getD_eq_getElem?_getD, List.getElem?_eq_getElem hj, Option.getD_some]; exact hjs
  rw [hat] at hcj
  obtain ⟨fuel, hf⟩ := hd
  rcases open_strings ht he hc hf with ⟨hcs, _⟩ | ⟨a, len', cap', ss, hcs, _, hl, hm, hz, hx, hcell, _⟩
  · have hcs : [Value.slice (some ⟨b, off, none⟩) n0 c0] = [.slice none 0 0] := hcs
    injection hcs with h1 _
    injection h1 with e1 _ _
    cases e1
  · have hcs : [Value.slice (some ⟨b, off, none⟩) n0 c0] = [.slice (some a) len' cap'] := hcs
    injection hcs with h1 _
    injection h1 with e1 e2 e3
    injection e1 with e1
    subst e1 e2 e3
    have hz : ss.length = c0 := by simpa using hz
    have hjn : j < n0 := by omega
    have g := hcell j (by omega)
    have e : (⟨b, off, none⟩ : Addr).add j = ⟨b, off + j, none⟩ := by
      unfold Addr.add
      split
      · rename_i h; subst h; rfl
      · rfl
    rw [e, hcj] at g
    injection g with g
    injection g with g
    have hd1 : d = _ := congrArg Prod.fst hx
    refine hw _ ?_
    rw [hd1]
    simp only [DataW.weights, ht]
    refine List.mem_cons_of_mem _ (List.mem_append_left _ ?_)
    refine weightsAll_mem (d := .lit (.string s.data.toList)) ?_ ?_
    · simp only [DataW.weights, List.mem_singleton]
      rw [ba_size]
    · unfold strs
      refine List.mem_map.2 ⟨s, ?_, rfl⟩
      rw [g, List.getD_eq_getElem?_getD, List.getElem?_eq_getElem (by omega), Option.getD_some]
      exact List.mem_take_iff_getElem.2 ⟨j, by omega, rfl⟩
end Go.Proofs.YthhckpnnjegldafDoor
