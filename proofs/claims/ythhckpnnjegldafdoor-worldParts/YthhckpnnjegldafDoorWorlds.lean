/-
  A world in memory: two slices of entries and one of clients; a slice of happenings: six cells an element.
-/
import Derived.Test.YthhckpnnjegldafDoorClis
import Derived.Test.YthhckpnnjegldafDoorEnts
namespace Go.Proofs.YthhckpnnjegldafDoor
open Go Go.RowKit

structure WAt (w : World) (a0 : Option Addr) (n0 c0 : Nat) (a1 : Option Addr) (n1 c1 : Nat) (a2 : Option Addr) (n2 c2 : Nat) (W : WB) : Prop where
  l0 : W.b0.length = n0
  e0 : EntsAt w a0 c0 W.b0
  l1 : W.b1.length = n1
  e1 : EntsAt w a1 c1 W.b1
  l2 : W.cs.length = n2
  e2 : ClisAt w a2 c2 W.cs
theorem WAt.on {w w' : World} {a0 : Option Addr} {n0 c0 : Nat} {a1 : Option Addr} {n1 c1 : Nat} {a2 : Option Addr} {n2 c2 : Nat} {W : WB} (h : WAt w a0 n0 c0 a1 n1 c1 a2 n2 c2 W) (hb : Below w.heap.size w w') : WAt w' a0 n0 c0 a1 n1 c1 a2 n2 c2 W :=
  ⟨h.l0, h.e0.on hb, h.l1, h.e1.on hb, h.l2, h.e2.on hb⟩
theorem wat_zero (w : World) : WAt w none 0 0 none 0 0 none 0 0 zeroW := ⟨rfl, ents_none w, rfl, ents_none w, rfl, clis_none w⟩
/- A world's value. -/
def WVal (w : World) (v : Value) (W : WB) : Prop := ∃ a0 n0 c0 a1 n1 c1 a2 n2 c2, v = .agg #[.slice a0 n0 c0, .slice a1 n1 c1, .slice a2 n2 c2] ∧ WAt w a0 n0 c0 a1 n1 c1 a2 n2 c2 W

def WideHap (x : HapB) : Prop := (-9223372036854775808 ≤ x.kind ∧ x.kind ≤ 9223372036854775807) ∧ (-9223372036854775808 ≤ x.side ∧ x.side ≤ 9223372036854775807) ∧ (-9223372036854775808 ≤ x.who ∧ x.who ≤ 9223372036854775807) ∧ (-9223372036854775808 ≤ x.other ∧ x.other ≤ 9223372036854775807) ∧ WideEnt x.e
def zeroX : HapB := ⟨0, 0, 0, 0, (0, ⟨#[]⟩)⟩
def hapOf (l : List HapB) (i : Nat) : HapB := l.getD i zeroX
def sixAt (w : World) (b o : Nat) (x : HapB) : Prop := w.cell? ⟨b, o, none⟩ = some (.int .i64 x.kind) ∧ w.cell? ⟨b, o + 1, none⟩ = some (.int .i64 x.side) ∧ w.cell? ⟨b, o + 2, none⟩ = some (.int .i64 x.who) ∧ w.cell? ⟨b, o + 3, none⟩ = some (.int .i64 x.other) ∧
  w.cell? ⟨b, o + 4, none⟩ = some (.int .i64 x.e.1) ∧ w.cell? ⟨b, o + 5, none⟩ = some (.string x.e.2)
theorem sixAt.on {w w' : World} {b o : Nat} {x : HapB} (h : sixAt w b o x) (hlt : b < w.heap.size) (hb : Below w.heap.size w w') : sixAt w' b o x := by
  unfold sixAt
  rw [hb.cell hlt, hb.cell hlt, hb.cell hlt, hb.cell hlt, hb.cell hlt, hb.cell hlt]
  exact h
structure HapsAt (w : World) (a : Option Addr) (c : Nat) (l : List HapB) : Prop where
  cap : l.length ≤ c
  max : c ≤ 9223372036854775807
  sz : ∀ x ∈ l, WideHap x
  cells : 0 < l.length → ∃ b off, a = some ⟨b, off, none⟩ ∧ b < w.heap.size ∧ ∀ i, i < l.length → sixAt w b (off + i * 6) (hapOf l i)
theorem HapsAt.on {w w' : World} {a : Option Addr} {c : Nat} {l : List HapB} (h : HapsAt w a c l) (hb : Below w.heap.size w w') : HapsAt w' a c l := by
  refine ⟨h.cap, h.max, h.sz, fun hp => ?_⟩
  obtain ⟨b, off, ha, hlt, hc⟩ := h.cells hp
  exact ⟨b, off, ha, Nat.lt_of_lt_of_le hlt hb.size, fun i hi => (hc i hi).on hlt hb⟩
theorem hapOf_mem {l : List HapB} {i : Nat} (h : i < l.length) : hapOf l i ∈ l := by
  unfold hapOf
  rw [List.getD_eq_getElem?_getD, List.getElem?_eq_getElem h, Option.getD_some]
  exact List.getElem_mem _
theorem haps_take {l : List HapB} {i : Nat} (h : i < l.length) : l.take (i + 1) = l.take i ++ [hapOf l i] := by
  unfold hapOf
  rw [List.getD_eq_getElem?_getD, List.getElem?_eq_getElem h, Option.getD_some, List.take_succ_eq_append_getElem h]
theorem HapsAt.take {w : World} {a : Option Addr} {c : Nat} {l : List HapB} (h : HapsAt w a c l) (k : Nat) : HapsAt w a c (l.take k) := by
  have hl : (l.take k).length ≤ l.length := by rw [List.length_take]; omega
  refine ⟨by have := h.cap; omega, h.max, fun s hs => h.sz s (List.mem_of_mem_take hs), fun hp => ?_⟩
  obtain ⟨b, off, ha, hlt, hc⟩ := h.cells (by omega)
  refine ⟨b, off, ha, hlt, fun i hi => ?_⟩
  have hi' : i < k := by rw [List.length_take] at hi; omega
  have e : hapOf (l.take k) i = hapOf l i := by simp [hapOf, List.getD_eq_getElem?_getD, hi']
  rw [e]
  exact hc i (by omega)
/- The rest of a slice: behind k, where there is something. -/
theorem HapsAt.drop {w : World} {a : Option Addr} {c : Nat} {l : List HapB} (h : HapsAt w a c l) {k : Nat} (hk : k < l.length) : ∃ b off, a = some ⟨b, off, none⟩ ∧ HapsAt w (some ⟨b, off + k * 6, none⟩) (c - k) (l.drop k) := by
  obtain ⟨b, off, ha, hlt, hc⟩ := h.cells (by omega)
  refine ⟨b, off, ha, ⟨by rw [List.length_drop]; have := h.cap; omega, by have := h.max; omega, fun s hs => h.sz s (List.mem_of_mem_drop hs), fun _ => ⟨b, off + k * 6, rfl, hlt, fun i hi => ?_⟩⟩⟩
  rw [List.length_drop] at hi
  have e : hapOf (l.drop k) i = hapOf l (k + i) := by simp [hapOf, List.getD_eq_getElem?_getD, List.getElem?_drop]
  rw [e, show off + k * 6 + i * 6 = off + (k + i) * 6 by omega]
  exact hc (k + i) (by omega)
theorem haps_zero (w : World) (a : Option Addr) {c : Nat} (hc : c ≤ 9223372036854775807) : HapsAt w a c [] := ⟨Nat.zero_le _, hc, fun s hs => by simp at hs, fun h => by simp at h⟩
theorem world_eq {W V : WB} (h0 : W.cs = V.cs) (h1 : W.b0 = V.b0) (h2 : W.b1 = V.b1) : W = V := by
  cases W; cases V; simp_all
theorem clisE_at {l : List CliB} {j : Nat} (hj : j < l.length) (hp : ∀ i, i < j → cliE (cliOf l i) = 0) (h : cliE (cliOf l j) ≠ 0) : clisE l = cliE (cliOf l j) := by
  induction l generalizing j with
  | nil => cases hj
  | cons c l ih =>
    cases j with
    | zero =>
      have h' : cliE c ≠ 0 := h
      unfold clisE
      rw [if_pos h']
      rfl
    | succ j =>
      unfold clisE
      have h0 : cliE c = 0 := hp 0 (by omega)
      rw [if_neg (fun hh => hh h0)]
      exact ih (by simpa using hj) (fun i hi => hp (i + 1) (by omega)) h
theorem clisE_all {l : List CliB} (hp : ∀ i, i < l.length → cliE (cliOf l i) = 0) : clisE l = 0 := by
  rw [clisE_iff]
  intro c hc
  obtain ⟨i, hi, rfl⟩ := List.getElem_of_mem hc
  have := hp i hi
  unfold cliOf at this
  rwa [List.getD_eq_getElem?_getD, List.getElem?_eq_getElem hi, Option.getD_some] at this
theorem three_cells (a0 : Option Addr) (n0 c0 : Nat) (a1 : Option Addr) (n1 c1 : Nat) (a2 : Option Addr) (n2 c2 : Nat) : (#[.slice a0 n0 c0, .slice a1 n1 c1, .slice a2 n2 c2] : Array Value).all (·.oneCell') = true := by simp [Value.oneCell']
end Go.Proofs.YthhckpnnjegldafDoor
