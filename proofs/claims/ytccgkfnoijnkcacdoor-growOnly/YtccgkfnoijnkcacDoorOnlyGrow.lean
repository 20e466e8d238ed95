/-
  The closure of GrowOnly: whether seals show that the list goes on where its beginning ends.
-/
import Derived.Test.YtccgkfnoijnkcacDoorGrown
import Derived.Test.YtccgkfnoijnkcacDoorAt
import Derived.Lib.QuietBelow
namespace Go.Proofs.YtccgkfnoijnkcacDoor
open Go Go.RowKit

/- The four boxes that the closure holds. -/
structure GrowBox (w : World) (po pm pr pl : Nat) (old : ByteArray) (M : Nat) (r : ByteArray) (a : Option Addr) (n c : Nat) : Prop where
  lo : po < w.heap.size
  lm : pm < w.heap.size
  lr : pr < w.heap.size
  ll : pl < w.heap.size
  old : w.cell? ⟨po, 0, none⟩ = some (.string old)
  place : w.cell? ⟨pm, 0, none⟩ = some (.int .i64 (M : Int))
  root : w.cell? ⟨pr, 0, none⟩ = some (.string r)
  list : w.cell? ⟨pl, 0, none⟩ = some (.slice a n c)
theorem GrowBox.on {w w' : World} {po pm pr pl : Nat} {old : ByteArray} {M : Nat} {r : ByteArray} {a : Option Addr} {n c : Nat} (h : GrowBox w po pm pr pl old M r a n c) (hb : Below w.heap.size w w') : GrowBox w' po pm pr pl old M r a n c :=
  ⟨Nat.lt_of_lt_of_le h.lo hb.size, Nat.lt_of_lt_of_le h.lm hb.size, Nat.lt_of_lt_of_le h.lr hb.size, Nat.lt_of_lt_of_le h.ll hb.size,
    by rw [hb.cell h.lo]; exact h.old, by rw [hb.cell h.lm]; exact h.place, by rw [hb.cell h.lr]; exact h.root, by rw [hb.cell h.ll]; exact h.list⟩

set_option maxRecDepth 100000 in
set_option maxHeartbeats 400000 in
theorem only_grow (l : List ByteArray) (a : Option Addr) (n c M : Nat) (r old : ByteArray) (po pm pr pl : Nat) (x : List ByteArray) (a6 : Option Addr) (k c6 : Nat) (w : World) (hE : Tab w) (hn : l.length = n) (hr : rootS l = some r) (ho : rootS (l.take M) = some old) (h1 : 1 ≤ M) (hM : M ≤ n) (hB : GrowBox w po pm pr pl old M r a n c) (hk : x.length = k) (hT : StrsAt w a6 c6 x) :
    Calls Tryd.prog 12 #[.slice a6 k c6, .pointer (some ⟨po, 0, none⟩), .pointer (some ⟨pm, 0, none⟩), .pointer (some ⟨pr, 0, none⟩), .pointer (some ⟨pl, 0, none⟩)] w fun e w' => e = .returned (.bool (decide (x = growS l M true))) ∧ Below w.heap.size w w' := by
  have hos := rootS_size ho
  have s1 := grow_iff (l := l) (r := r) (m := M) old x h1 (by omega) hr
  rw [hn, (root_pos ho).1] at s1
  have c1 := fun w hE hS => growShows_any old (M : Int) r (n : Int) x a6 k c6 w hk hE hS (by omega)
  have hd : (growE old (M : Int) r (n : Int) x == 0) = decide (x = growS l M true) := by
    by_cases h : x = growS l M true
    · rw [s1.2 ⟨rfl, h⟩, decide_eq_true h]; rfl
    · rw [decide_eq_false h]
      simp only [beq_eq_false_iff_ne, ne_eq]
      exact fun h0 => h (s1.1 h0).2
  generalize growE old (M : Int) r (n : Int) x = z at c1 hd
  generalize decide (x = growS l M true) = bb at hd
  have x1 := hB.old
  have x2 := hB.place
  have x3 := hB.root
  have x4 := hB.list
  clear hB s1
  go_enter Tryd.func12, Tryd.ntmps12
  go_wp2_with fail
  refine (c1 w hE hT).mono ?_
  rintro e w1 ⟨rfl, hb1⟩
  clear x1 x2 x3 x4 c1
  go_wp2_with fail
  go_ret
  exact ⟨rfl, hb1⟩
end Go.Proofs.YtccgkfnoijnkcacDoor
