/-
  A book and an entry among a law's arguments, opened.
-/
import Derived.Test.YthhckpnnjegldafDoorEnts
import Derived.Test.YthhckpnnjegldafDoorOpenStrs
import Derived.Deep.SlicePairs
import Derived.ChangeArms
import Derived.ProofKit
namespace Go.Proofs.YthhckpnnjegldafDoor
open Go Go.RowKit Go.ChangeShapes Go.WideShapes

/- The cells of a slice of entries, with what they weigh. -/
theorem open_ents {H : Type} {enc : TypeId × Value → H} {P : Program} {W : World} {base fuel : Nat} {held : Bool} {t e : TypeId} {f0 f1 : Field} {cs : List Value} {x : DataW H × List MemPlace}
    (ht : P.underlying t = some (.slice e)) (he : P.underlying e = some (.struct #[f0, f1])) (ce : P.cellsOf e = 2) (o0 : f0.offset = 0) (o1 : f1.offset = 1) (c0 : P.cellsOf f0.type = 1) (c1 : P.cellsOf f1.type = 1)
    (u0 : P.underlying f0.type = some (.int .i64)) (u1 : P.underlying f1.type = some .string) (be : P.bytesOf e = 24) (hf : DataW.trod enc P W base (fun _ => true) held fuel t cs = some x) :
    ∃ (a : Option Addr) (n c : Nat) (l : List EntB), cs = [.slice a n c] ∧ l.length = n ∧ EntsAt W a c l ∧ ∀ K, (∀ m ∈ x.1.weights P t, m ≤ K) → n * 24 ≤ K ∧ ∀ s ∈ l, s.2.size ≤ K := by
  rcases Go.Deep.open_slice_pairs ht he ce o0 o1 c0 c1 hf with ⟨hcs, _⟩ | ⟨a, len, cap, m, n, V0, V1, D0, D1, P0, P1, hcs, _, hl, hm, hz, hx, hcell⟩
  · exact ⟨none, 0, 0, [], hcs, rfl, ents_none W, fun K _ => ⟨by omega, fun s hs => by cases hs⟩⟩
  · have hz : m = cap := by simpa using hz
    subst hz
    have each : ∀ i, i < len → ∃ s : EntB, W.cell? (a.add (i * 2)) = some (.int .i64 s.1) ∧ W.cell? (a.add (i * 2 + 1)) = some (.string s.2) ∧ WideEnt s ∧ D1 i = .lit (.string s.2.data.toList) := by
      intro i hi
      obtain ⟨g0, g1, k0, k1⟩ := hcell i (by omega)
      obtain ⟨b, q0, _, hw⟩ := DataW.trod_int u0 k0
      obtain ⟨s, q1, q2, q3⟩ := DataW.trod_string u1 k1
      injection q0 with q0 _
      injection q1 with q1 _
      rw [q0] at g0
      rw [q1] at g1
      simp only [Lit.wf, Bool.and_eq_true, decide_eq_true_eq] at hw
      exact ⟨(b, s), g0, g1, ⟨hw.1, hw.2, q3⟩, congrArg Prod.fst q2⟩
    haveI : Inhabited EntB := ⟨(0, ByteArray.empty)⟩
    obtain ⟨S, hS⟩ := Go.Deep.choose_lt each
    have hlen : ((List.range len).map S).length = len := by simp
    have hat : ∀ i, i < len → entAt ((List.range len).map S) i = S i := by
      intro i hi
      simp [entAt, List.getD_eq_getElem?_getD, hi]
    refine ⟨some a, len, m, (List.range len).map S, hcs, hlen, ⟨by omega, hm, fun s hs => ?_, fun hp => ?_⟩, fun K hK => ?_⟩
    · obtain ⟨i, hi, rfl⟩ := List.mem_map.1 hs
      exact (hS i (List.mem_range.1 hi)).2.2.1
    · have h0 := (hS 0 (by omega)).1
      obtain ⟨b, off, spot⟩ := a
      have hlt : b < W.heap.size := by
        refine Classical.byContradiction fun hn => ?_
        have : W.cell? ((⟨b, off, spot⟩ : Addr).add (0 * 2)) = none := by
          unfold World.cell?
          rw [Array.getElem?_eq_none (by simpa [Addr.add] using hn)]
        rw [this] at h0
        cases h0
      have hs : spot = none := by
        cases spot with
        | none => rfl
        | some k =>
          unfold World.cell? at h0
          simp only [Addr.add, Nat.zero_mul, ↓reduceIte, Option.isSome_some] at h0
          split at h0 <;> simp at h0
      subst hs
      have e : ∀ j, (⟨b, off, none⟩ : Addr).add j = ⟨b, off + j, none⟩ := by
        intro j
        unfold Addr.add
        split
        · rename_i h; subst h; rfl
        · rfl
      refine ⟨b, off, rfl, hlt, fun i hi => ?_⟩
      have hi' : i < len := by omega
      have := hS i hi'
      rw [e, e] at this
      rw [hat i hi']
      exact ⟨this.1, by rw [Nat.add_assoc]; exact this.2.1⟩
    · have hd1 : x.1 = _ := congrArg Prod.fst hx
      rw [hd1] at hK
      simp only [DataW.weights, ht] at hK
      refine ⟨?_, fun s hs => ?_⟩
      · have := hK _ (List.mem_cons_self ..)
        rw [be, List.length_map, List.length_range] at this
        have h2 : len * 24 ≤ (len + ((List.range (m - len)).map fun j => DataW.agg [D0 (len + j), D1 (len + j)]).length) * 24 := Nat.mul_le_mul_right _ (by omega)
        exact Nat.le_trans h2 this
      · obtain ⟨i, hi, rfl⟩ := List.mem_map.1 hs
        have hi := List.mem_range.1 hi
        refine hK _ (List.mem_cons_of_mem _ (List.mem_append_left _ ?_))
        refine weightsAll_mem (d := .agg [D0 i, D1 i]) ?_ (List.mem_map.2 ⟨i, List.mem_range.2 hi, rfl⟩)
        simp only [DataW.weights, he, DataW.weightsEach, List.map_cons, List.map_nil]
        rw [(hS i hi).2.2.2]
        refine List.mem_append_right _ (List.mem_append_left _ ?_)
        simp only [DataW.weights, List.mem_singleton]
        rw [ba_size]

/- A book, by value. -/
theorem open_book {H : Type} {enc : TypeId × Value → H} {P : Program} {W : World} {r : Reach} {b0 base : Nat} {held : Bool} {tb t e : TypeId} {g0 f0 f1 : Field} {v : Value} {d : DataW H} {ps : List MemPlace}
    (hb : P.underlying tb = some (.struct #[g0])) (cb : P.cellsOf tb = 1) (ob : g0.offset = 0) (tg : g0.type = t) (ct : P.cellsOf t = 1)
    (ht : P.underlying t = some (.slice e)) (he : P.underlying e = some (.struct #[f0, f1])) (ce : P.cellsOf e = 2) (o0 : f0.offset = 0) (o1 : f1.offset = 1) (c0 : P.cellsOf f0.type = 1) (c1 : P.cellsOf f1.type = 1)
    (u0 : P.underlying f0.type = some (.int .i64)) (u1 : P.underlying f1.type = some .string) (be : P.bytesOf e = 24) (hval : Value.okWide P W r b0 tb v) (hd : DataW.Trod enc P W base (fun _ => true) held tb v d ps) :
    ∃ (a : Option Addr) (n c : Nat) (l : List EntB), v = .agg #[.slice a n c] ∧ l.length = n ∧ EntsAt W a c l ∧ ∀ K, (∀ m ∈ d.weights P tb, m ≤ K) → n * 24 ≤ K ∧ ∀ s ∈ l, s.2.size ≤ K := by
  obtain ⟨cs, rfl, hsz⟩ := okWide_struct hb hval
  obtain ⟨x0, rfl⟩ : ∃ x0, cs = #[x0] := by
    rw [cb] at hsz
    exact ⟨cs[0], by apply Array.ext <;> simp_all⟩
  obtain ⟨fuel, hf⟩ := hd
  obtain ⟨y0, n, hx, _, h0⟩ := trod_struct1 hb hf
  subst tg
  have h0' : DataW.trod enc P W base (fun _ => true) held n g0.type [x0] = some y0 := by simpa [Value.cells, ob, ct] using h0
  obtain ⟨a, n, c, l, hcs, hl, hS, hW⟩ := open_ents ht he ce o0 o1 c0 c1 u0 u1 be h0'
  injection hcs with hcs _
  subst hcs
  refine ⟨a, n, c, l, rfl, hl, hS, fun K hK => hW K fun m hm => hK m ?_⟩
  have hd1 : d = _ := congrArg Prod.fst hx
  rw [hd1]
  simp only [DataW.weights, hb, DataW.weightsEach, List.map_cons, List.map_nil]
  exact List.mem_append_left _ hm

/- An entry, by value. -/
theorem open_entry {H : Type} {enc : TypeId × Value → H} {P : Program} {W : World} {r : Reach} {b0 base : Nat} {held : Bool} {e : TypeId} {f0 f1 : Field} {v : Value} {d : DataW H} {ps : List MemPlace}
    (he : P.underlying e = some (.struct #[f0, f1])) (ce : P.cellsOf e = 2) (o0 : f0.offset = 0) (o1 : f1.offset = 1) (c0 : P.cellsOf f0.type = 1) (c1 : P.cellsOf f1.type = 1)
    (u0 : P.underlying f0.type = some (.int .i64)) (u1 : P.underlying f1.type = some .string) (hval : Value.okWide P W r b0 e v) (hd : DataW.Trod enc P W base (fun _ => true) held e v d ps) :
    ∃ (k : Int) (s : ByteArray), v = .agg #[.int .i64 k, .string s] ∧ WideEnt (k, s) ∧ ∀ K, (∀ m ∈ d.weights P e, m ≤ K) → s.size ≤ K := by
  obtain ⟨cs, rfl, hsz⟩ := okWide_struct he hval
  obtain ⟨x0, x1, rfl⟩ : ∃ x0 x1, cs = #[x0, x1] := by
    rw [ce] at hsz
    refine ⟨cs[0], cs[1], ?_⟩
    apply Array.ext
    · simp_all
    · intro i h1 h2
      match i, h2 with
      | 0, _ => rfl
      | 1, _ => rfl
  obtain ⟨fuel, hf⟩ := hd
  obtain ⟨y0, y1, n, hx, _, h0, h1⟩ := trod_struct2 he hf
  have h0' : DataW.trod enc P W base (fun _ => true) held n f0.type [x0] = some y0 := by simpa [Value.cells, o0, c0] using h0
  have h1' : DataW.trod enc P W base (fun _ => true) held n f1.type [x1] = some y1 := by simpa [Value.cells, o1, c1] using h1
  obtain ⟨k, q0, _, hw⟩ := DataW.trod_int u0 h0'
  obtain ⟨s, q1, q2, q3⟩ := DataW.trod_string u1 h1'
  injection q0 with q0 _
  injection q1 with q1 _
  subst q0 q1
  simp only [Lit.wf, Bool.and_eq_true, decide_eq_true_eq] at hw
  refine ⟨k, s, rfl, ⟨hw.1, hw.2, q3⟩, fun K hK => hK _ ?_⟩
  have hd1 : d = _ := congrArg Prod.fst hx
  have hD : y1.1 = .lit (.string s.data.toList) := congrArg Prod.fst q2
  rw [hd1]
  simp only [DataW.weights, he, DataW.weightsEach, List.map_cons, List.map_nil]
  rw [hD]
  refine List.mem_append_right _ (List.mem_append_left _ ?_)
  simp only [DataW.weights, List.mem_singleton]
  rw [ba_size]
end Go.Proofs.YthhckpnnjegldafDoor
