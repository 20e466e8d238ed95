/-
  A slice of numbers that is owned lies there.
-/
import Derived.Test.YthhckpnnjegldafDoorInts
import Derived.Test.YthhckpnnjegldafDoorOwn
namespace Go.Proofs.YthhckpnnjegldafDoor
open Go Go.RowKit

/- Numbers that are owned lie there. -/
theorem owned_ints {w : World} {base : Nat} {e : TypeId} {a : Option Addr} {c n : Nat} {l : List Int} (h : w.ownsRow base e 1 (.slice a n c) n (l.map (Value.int .i64))) (hs : ∀ s ∈ l, -9223372036854775808 ≤ s ∧ s ≤ 9223372036854775807) : l.length = n ∧ IntsAt w a c l := by
  have hln : l.length = n := by have := h.1; rw [List.length_map] at this; omega
  refine ⟨hln, ?_⟩
  rcases h.2 with ⟨he, h0⟩ | ⟨g, cap, cur, he, hb, hg, hnc, hm, hsz, hcur⟩
  · injection he with e1 e2 e3
    subst e1 e2 e3
    exact ⟨by omega, by omega, hs, fun hp => by omega⟩
  · injection he with e1 e2 e3
    subst e1 e3
    have hlt : g < w.heap.size := by
      refine Classical.byContradiction fun hn => ?_
      rw [Array.getElem?_eq_none (by omega)] at hg
      cases hg
    refine ⟨by omega, hm, hs, fun _ => ⟨g, 0, rfl, hlt, fun i hi => ?_⟩⟩
    unfold World.cell?
    simp only [hg]
    have e1 : cur[0 + i]? = (l.map (Value.int .i64))[i]? := by
      rw [Nat.zero_add, ← hcur, List.getElem?_take, if_pos (by omega), Array.getElem?_toList]
    rw [Nat.zero_add] at e1
    simp [e1, hi, List.getD_eq_getElem?_getD]
end Go.Proofs.YthhckpnnjegldafDoor
