/-
  A slice of steps among a law's arguments, opened as its steps.
-/
import Derived.Test.YtolgikojliedlaeDoorSteps
import Derived.Test.YtolgikojliedlaeDoorOpenStrs
import Derived.Deep.SlicePairs
import Derived.ChangeArms
import Derived.ProofKit
namespace Go.Proofs.YtolgikojliedlaeDoor
open Go Go.RowKit Go.ChangeShapes Go.WideShapes

theorem open_steps {H : Type} {enc : TypeId × Value → H} {P : Program} {W : World} {r : Reach} {b0 base : Nat} {held : Bool} {t e : TypeId} {f0 f1 : Field} {v : Value} {d : DataW H} {ps : List MemPlace}
    (ht : P.underlying t = some (.slice e)) (he : P.underlying e = some (.struct #[f0, f1])) (ce : P.cellsOf e = 2) (o0 : f0.offset = 0) (o1 : f1.offset = 1) (c0 : P.cellsOf f0.type = 1) (c1 : P.cellsOf f1.type = 1)
    (u0 : P.underlying f0.type = some .bool) (u1 : P.underlying f1.type = some .string) (hval : Value.okWide P W r b0 t v) (hd : DataW.Trod enc P W base (fun _ => true) held t v d ps) :
    ∃ (a : Option Addr) (n c : Nat) (l : List StepB), v = .slice a n c ∧ l.length = n ∧ StepsAt W a c l := by
  obtain ⟨a0, len, cap, rfl⟩ := okWide_slice ht hval
  obtain ⟨fuel, hf⟩ := hd
  rcases Go.Deep.open_slice_pairs ht he ce o0 o1 c0 c1 hf with ⟨hcs, _⟩ | ⟨a, len', cap', m, n, V0, V1, D0, D1, P0, P1, hcs, _, hl, hm, hz, _, hcell⟩
  · have hcs : [Value.slice a0 len cap] = [.slice none 0 0] := hcs
    injection hcs with h1 _
    injection h1 with e1 e2 e3
    subst e1 e2 e3
    exact ⟨none, 0, 0, [], rfl, rfl, steps_none W⟩
  · have hcs : [Value.slice a0 len cap] = [.slice (some a) len' cap'] := hcs
    injection hcs with h1 _
    injection h1 with e1 e2 e3
    subst e1 e2 e3
    have hz : m = cap := by simpa using hz
    subst hz
    have each : ∀ i, i < len → ∃ s : StepB, W.cell? (a.add (i * 2)) = some (.bool s.1) ∧ W.cell? (a.add (i * 2 + 1)) = some (.string s.2) ∧ s.2.size ≤ maxLen := by
      intro i hi
      obtain ⟨g0, g1, k0, k1⟩ := hcell i (by omega)
      obtain ⟨b, q0, _⟩ := DataW.trod_bool u0 k0
      obtain ⟨s, q1, _, q2⟩ := DataW.trod_string u1 k1
      injection q0 with q0 _
      injection q1 with q1 _
      rw [q0] at g0
      rw [q1] at g1
      exact ⟨(b, s), g0, g1, q2⟩
    haveI : Inhabited StepB := ⟨(false, ByteArray.empty)⟩
    obtain ⟨S, hS⟩ := Go.Deep.choose_lt each
    have hlen : ((List.range len).map S).length = len := by simp
    have hat : ∀ i, i < len → stepAt ((List.range len).map S) i = S i := by
      intro i hi
      simp [stepAt, List.getD_eq_getElem?_getD, hi]
    refine ⟨some a, len, m, (List.range len).map S, rfl, hlen, ⟨by omega, hm, fun s hs => ?_, fun hp => ?_⟩⟩
    · obtain ⟨i, hi, rfl⟩ := List.mem_map.1 hs
      exact (hS i (List.mem_range.1 hi)).2.2
    have h0 := (hS 0 (by omega)).1
    obtain ⟨b, off, spot⟩ := a
    have hlt : b < W.heap.size := by
      refine Classical.byContradiction fun hn => ?_
      have : W.cell? ((⟨b, off, spot⟩ : Addr).add (0 * 2)) = none := by
        unfold World.cell?
        rw [Array.getElem?_eq_none (by simpa [Addr.add] using hn)]
      rw [this] at h0
      cases h0
    have hs : spot = none := by
      cases spot with
      | none => rfl
      | some k =>
        unfold World.cell? at h0
        simp only [Addr.add, Nat.zero_mul, ↓reduceIte, Option.isSome_some] at h0
        split at h0 <;> simp at h0
    subst hs
    have e : ∀ j, (⟨b, off, none⟩ : Addr).add j = ⟨b, off + j, none⟩ := by
      intro j
      unfold Addr.add
      split
      · rename_i h; subst h; rfl
      · rfl
    refine ⟨b, off, rfl, hlt, fun i hi => ?_⟩
    have hi' : i < len := by omega
    have := hS i hi'
    rw [e, e] at this
    rw [hat i hi']
    exact ⟨this.1, by rw [Nat.add_assoc]; exact this.2.1⟩

/- The same, with a bound of what the argument weighs: no seal is longer. -/
theorem open_steps_sized {H : Type} {enc : TypeId × Value → H} {P : Program} {W : World} {r : Reach} {b0 base K : Nat} {held : Bool} {t e : TypeId} {f0 f1 : Field} {v : Value} {d : DataW H} {ps : List MemPlace}
    (ht : P.underlying t = some (.slice e)) (he : P.underlying e = some (.struct #[f0, f1])) (ce : P.cellsOf e = 2) (o0 : f0.offset = 0) (o1 : f1.offset = 1) (c0 : P.cellsOf f0.type = 1) (c1 : P.cellsOf f1.type = 1)
    (u0 : P.underlying f0.type = some .bool) (u1 : P.underlying f1.type = some .string) (hval : Value.okWide P W r b0 t v) (hd : DataW.Trod enc P W base (fun _ => true) held t v d ps) (hw : ∀ m ∈ d.weights P t, m ≤ K) :
    ∃ (a : Option Addr) (n c : Nat) (l : List StepB), v = .slice a n c ∧ l.length = n ∧ StepsAt W a c l ∧ ∀ s ∈ l, s.2.size ≤ K := by
  obtain ⟨a0, n0, c0', l0, rfl, hl0, hS0⟩ := open_steps ht he ce o0 o1 c0 c1 u0 u1 hval hd
  refine ⟨a0, n0, c0', l0, rfl, hl0, hS0, fun s hs => ?_⟩
  obtain ⟨j, hj, hjs⟩ := List.getElem_of_mem hs
  obtain ⟨b, off, rfl, _, hc⟩ := hS0.cells (by omega)
  have hcj := (hc j hj).2
  have hat : stepAt l0 j = s := by
    unfold stepAt
    rw [List.getD_eq_getElem?_getD, List.getElem?_eq_getElem hj, Option.getD_some]; exact hjs
  rw [hat] at hcj
  obtain ⟨fuel, hf⟩ := hd
  rcases Go.Deep.open_slice_pairs ht he ce o0 o1 c0 c1 hf with ⟨hcs, _⟩ | ⟨a, len', cap', m, n, V0, V1, D0, D1, P0, P1, hcs, _, hl, hm, hz, hx, hcell⟩
  · have hcs : [Value.slice (some ⟨b, off, none⟩) n0 c0'] = [.slice none 0 0] := hcs
    injection hcs with h1 _
    injection h1 with e1 _ _
    cases e1
  · have hcs : [Value.slice (some ⟨b, off, none⟩) n0 c0'] = [.slice (some a) len' cap'] := hcs
    injection hcs with h1 _
    injection h1 with e1 e2 e3
    injection e1 with e1
    subst e1 e2 e3
    have hz : m = c0' := by simpa using hz
    have hjn : j < n0 := by omega
    obtain ⟨_, g1, _, k1⟩ := hcell j (by omega)
    obtain ⟨s', q1, q2, _⟩ := DataW.trod_string u1 k1
    injection q1 with q1 _
    have e : (⟨b, off, none⟩ : Addr).add (j * 2 + 1) = ⟨b, off + j * 2 + 1, none⟩ := by
      unfold Addr.add
      rw [if_neg (by omega)]
      simp only [Nat.add_assoc]
    rw [e, q1, hcj] at g1
    injection g1 with g1
    injection g1 with g1
    subst g1
    have hD : D1 j = .lit (.string s.2.data.toList) := congrArg Prod.fst q2
    have hd1 : d = _ := congrArg Prod.fst hx
    refine hw _ ?_
    rw [hd1]
    simp only [DataW.weights, ht]
    refine List.mem_cons_of_mem _ (List.mem_append_left _ ?_)
    refine weightsAll_mem (d := .agg [D0 j, D1 j]) ?_ (List.mem_map.2 ⟨j, List.mem_range.2 hjn, rfl⟩)
    simp only [DataW.weights, he, DataW.weightsEach, List.map_cons, List.map_nil]
    rw [hD]
    refine List.mem_append_right _ (List.mem_append_left _ ?_)
    simp only [DataW.weights, List.mem_singleton]
    rw [ba_size]
end Go.Proofs.YtolgikojliedlaeDoor
