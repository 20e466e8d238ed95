/-
  Package path's Shows: the steps walked from below.
-/
import Derived.Test.YthhckpnnjegldafDoorPath
import Derived.Deep.LoopGhost
namespace Go.Proofs.YthhckpnnjegldafDoor
open Go Go.RowKit

/- A slice of sides: what is owned lies there. -/
structure BoolsAt (w : World) (a : Option Addr) (c : Nat) (l : List Bool) : Prop where
  cap : l.length ≤ c
  max : c ≤ 9223372036854775807
  cells : 0 < l.length → ∃ b, a = some ⟨b, 0, none⟩ ∧ b < w.heap.size ∧ ∀ i, i < l.length → w.cell? ⟨b, i, none⟩ = some (.bool (l.getD i false))
theorem bools_own {w : World} {base : Nat} {e : TypeId} {a : Option Addr} {c n : Nat} {l : List Bool} (h : w.ownsRow base e 1 (.slice a n c) n (l.map Value.bool)) : l.length = n ∧ BoolsAt w a c l := by
  have hln : l.length = n := by have := h.1; rw [List.length_map] at this; omega
  refine ⟨hln, ?_⟩
  rcases h.2 with ⟨he, h0⟩ | ⟨g, cap, cur, he, hb, hg, hnc, hm, hsz, hcur⟩
  · injection he with e1 e2 e3
    subst e1 e2 e3
    exact ⟨by omega, by omega, fun hp => by omega⟩
  · injection he with e1 e2 e3
    subst e1 e3
    have hlt : g < w.heap.size := by
      refine Classical.byContradiction fun hn => ?_
      rw [Array.getElem?_eq_none (by omega)] at hg
      cases hg
    refine ⟨by omega, hm, fun _ => ⟨g, rfl, hlt, fun i hi => ?_⟩⟩
    unfold World.cell?
    simp only [hg]
    have e1 : cur[i]? = (l.map Value.bool)[i]? := by
      rw [← hcur, List.getElem?_take, if_pos (by omega), Array.getElem?_toList]
    simp [e1, hi, List.getD_eq_getElem?_getD]
theorem BoolsAt.on {w w' : World} {a : Option Addr} {c : Nat} {l : List Bool} (h : BoolsAt w a c l) (hb : Below w.heap.size w w') : BoolsAt w' a c l := by
  refine ⟨h.cap, h.max, fun hp => ?_⟩
  obtain ⟨b, ha, hlt, hc⟩ := h.cells hp
  exact ⟨b, ha, Nat.lt_of_lt_of_le hlt hb.size, fun i hi => by rw [hb.cell hlt]; exact hc i hi⟩

theorem walkE_round (root now : ByteArray) (bs : List Bool) (ss : List StepB) (k : Nat) (hl : ss.length = bs.length) (hk : k < ss.length) :
    walkE root now (bs.drop k) (ss.drop k) = if (stepAt ss k).1 = bs.getD k false then (match joinO now (stepAt ss k) with | none => 2 | some x => walkE root x (bs.drop (k + 1)) (ss.drop (k + 1))) else 7 := by
  have e1 : bs.drop k = bs.getD k false :: bs.drop (k + 1) := by
    rw [List.drop_eq_getElem_cons (by omega), List.getD_eq_getElem?_getD, List.getElem?_eq_getElem (by omega), Option.getD_some]
  have e2 : ss.drop k = stepAt ss k :: ss.drop (k + 1) := by
    unfold stepAt
    rw [List.drop_eq_getElem_cons hk, List.getD_eq_getElem?_getD, List.getElem?_eq_getElem hk, Option.getD_some]
  rw [e1, e2]
  rfl
theorem walkE_end (root now : ByteArray) (bs : List Bool) (ss : List StepB) (k : Nat) (hl : ss.length = bs.length) (hk : ss.length ≤ k) :
    walkE root now (bs.drop k) (ss.drop k) = if now = root then 0 else 7 := by
  rw [List.drop_of_length_le (by omega), List.drop_of_length_le hk]
  rfl


