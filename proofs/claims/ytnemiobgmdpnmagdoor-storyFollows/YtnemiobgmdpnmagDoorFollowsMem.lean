/-
  StoryFollows' walk: of whatever script it answers true.
-/
import Derived.Test.YtnemiobgmdpnmagDoorTelling
import Derived.Test.YtnemiobgmdpnmagDoorPlayedFollows
import Derived.Test.YtnemiobgmdpnmagDoorBooks
import Derived.Test.YtnemiobgmdpnmagDoorShown
import Derived.Deep.RegionHeld3
namespace Go.Proofs.YtnemiobgmdpnmagDoor
open Go Go.RowKit

theorem heldfa {w5 cur w' : World} {b1 o1 b2 o2 b3 o3 b4 o4 : Nat} {u1 u2 u3 u4 : Value} (k1 : b1 < w5.heap.size) (k2 : b2 < w5.heap.size) (k3 : b3 < w5.heap.size) (k4 : b4 < w5.heap.size) (h : Below w5.heap.size w5 cur ∧ cur.cell? ⟨b1, o1, none⟩ = some u1 ∧ cur.cell? ⟨b2, o2, none⟩ = some u2 ∧ cur.cell? ⟨b3, o3, none⟩ = some u3 ∧ cur.cell? ⟨b4, o4, none⟩ = some u4) (hb : Below cur.heap.size cur w') :
    Below w5.heap.size w5 w' ∧ w'.cell? ⟨b1, o1, none⟩ = some u1 ∧ w'.cell? ⟨b2, o2, none⟩ = some u2 ∧ w'.cell? ⟨b3, o3, none⟩ = some u3 ∧ w'.cell? ⟨b4, o4, none⟩ = some u4 := by
  have key : ∀ (b j : Nat) (u : Value), b < w5.heap.size → cur.cell? ⟨b, j, none⟩ = some u → w'.cell? ⟨b, j, none⟩ = some u := fun b j u hlt hu => by
    rw [hb.cell (Nat.lt_of_lt_of_le hlt h.1.size)]; exact hu
  obtain ⟨h0, h1, h2, h3, h4⟩ := h
  exact ⟨below_on h0 hb, key _ _ _ k1 h1, key _ _ _ k2 h2, key _ _ _ k3 h3, key _ _ _ k4 h4⟩
theorem heldfb {w5 cur w' : World} {b1 o1 b2 o2 b3 o3 b4 o4 b5 o5 b6 o6 : Nat} {u1 u2 u3 u4 u5 u6 : Value} (k1 : b1 < w5.heap.size) (k2 : b2 < w5.heap.size) (k3 : b3 < w5.heap.size) (k4 : b4 < w5.heap.size) (k5 : b5 < w5.heap.size) (k6 : b6 < w5.heap.size) (h : Below w5.heap.size w5 cur ∧ cur.cell? ⟨b1, o1, none⟩ = some u1 ∧ cur.cell? ⟨b2, o2, none⟩ = some u2 ∧ cur.cell? ⟨b3, o3, none⟩ = some u3 ∧ cur.cell? ⟨b4, o4, none⟩ = some u4 ∧ cur.cell? ⟨b5, o5, none⟩ = some u5 ∧ cur.cell? ⟨b6, o6, none⟩ = some u6) (hb : Below cur.heap.size cur w') :
    Below w5.heap.size w5 w' ∧ w'.cell? ⟨b1, o1, none⟩ = some u1 ∧ w'.cell? ⟨b2, o2, none⟩ = some u2 ∧ w'.cell? ⟨b3, o3, none⟩ = some u3 ∧ w'.cell? ⟨b4, o4, none⟩ = some u4 ∧ w'.cell? ⟨b5, o5, none⟩ = some u5 ∧ w'.cell? ⟨b6, o6, none⟩ = some u6 := by
  have key : ∀ (b j : Nat) (u : Value), b < w5.heap.size → cur.cell? ⟨b, j, none⟩ = some u → w'.cell? ⟨b, j, none⟩ = some u := fun b j u hlt hu => by
    rw [hb.cell (Nat.lt_of_lt_of_le hlt h.1.size)]; exact hu
  obtain ⟨h0, h1, h2, h3, h4, h5, h6⟩ := h
  exact ⟨below_on h0 hb, key _ _ _ k1 h1, key _ _ _ k2 h2, key _ _ _ k3 h3, key _ _ _ k4 h4, key _ _ _ k5 h5, key _ _ _ k6 h6⟩
/- A row of three, one of which may be another one. -/
def RowAt (w : World) (g j : Nat) (x y z : Value) (t : TypeId) : Prop := ∃ v, w.heap[g]? = some (.cells (#[x, y, z].setIfInBounds j v) t)
theorem set_set3 (j : Nat) (x y z u v : Value) : (#[x, y, z].setIfInBounds j u).setIfInBounds j v = #[x, y, z].setIfInBounds j v := by
  match j with
  | 0 => rfl
  | 1 => rfl
  | 2 => rfl
  | j + 3 => simp
theorem row_of {w : World} {g : Nat} {x y z : Value} {t : TypeId} (h : w.heap[g]? = some (.cells #[x, y, z] t)) (j : Nat) : RowAt w g j x y z t := by
  match j with
  | 0 => exact ⟨x, h⟩
  | 1 => exact ⟨y, h⟩
  | 2 => exact ⟨z, h⟩
  | j + 3 => exact ⟨x, by rw [h]; simp⟩
theorem rowAt_set {w : World} {g j : Nat} {x y z : Value} {t : TypeId} (h : RowAt w g j x y z t) (u : Value) : (w.setCell ⟨g, j, none⟩ u).heap[g]? = some (.cells (#[x, y, z].setIfInBounds j u) t) := by
  obtain ⟨v, hv⟩ := h
  rw [heap_setCell_same w g j _ _ u hv, set_set3]
theorem rowAt_cell {w : World} {g j : Nat} {x y z : Value} {t : TypeId} (h : RowAt w g j x y z t) (hj : j < 3) : ∃ v, w.cell? ⟨g, j, none⟩ = some v ∧ w.frozen? ⟨g, j, none⟩ = false := by
  obtain ⟨v, hv⟩ := h
  refine ⟨v, heap_cell hv j v ?_, frozen_of_row w g j _ _ hv⟩
  match j, hj with
  | 0, _ => rfl
  | 1, _ => rfl
  | 2, _ => rfl
/- What a region holds where it writes into a row of three. -/
theorem rowS_b {w5 cur w' : World} {G j b1 o1 b2 o2 b3 o3 : Nat} {x y z u1 u2 u3 : Value} {t : TypeId} (k1 : b1 < w5.heap.size) (k2 : b2 < w5.heap.size) (k3 : b3 < w5.heap.size)
    (h : w5.grownBy cur (some G) ∧ RowAt cur G j x y z t ∧ cur.cell? ⟨b1, o1, none⟩ = some u1 ∧ cur.cell? ⟨b2, o2, none⟩ = some u2 ∧ cur.cell? ⟨b3, o3, none⟩ = some u3) (hb : Below cur.heap.size cur w') :
    w5.grownBy w' (some G) ∧ RowAt w' G j x y z t ∧ w'.cell? ⟨b1, o1, none⟩ = some u1 ∧ w'.cell? ⟨b2, o2, none⟩ = some u2 ∧ w'.cell? ⟨b3, o3, none⟩ = some u3 := by
  obtain ⟨h0, ⟨v, hv⟩, h1, h2, h3⟩ := h
  have lt : ∀ b, b < w5.heap.size → b < cur.heap.size := fun b hb => Nat.lt_of_lt_of_le hb h0.size
  exact ⟨grow_trans h0 (below_grown hb none) (fun j hj => by cases hj), ⟨v, heap_on hb hv⟩, by rw [hb.cell (lt _ k1)]; exact h1, by rw [hb.cell (lt _ k2)]; exact h2, by rw [hb.cell (lt _ k3)]; exact h3⟩
theorem rowS_s {w5 cur : World} {G j b1 o1 b2 o2 b3 o3 : Nat} {x y z u1 u2 u3 : Value} {t : TypeId} (u : Value) (n1 : b1 ≠ G) (n2 : b2 ≠ G) (n3 : b3 ≠ G)
    (h : w5.grownBy cur (some G) ∧ RowAt cur G j x y z t ∧ cur.cell? ⟨b1, o1, none⟩ = some u1 ∧ cur.cell? ⟨b2, o2, none⟩ = some u2 ∧ cur.cell? ⟨b3, o3, none⟩ = some u3) :
    w5.grownBy (cur.setCell ⟨G, j, none⟩ u) (some G) ∧ RowAt (cur.setCell ⟨G, j, none⟩ u) G j x y z t ∧ (cur.setCell ⟨G, j, none⟩ u).cell? ⟨b1, o1, none⟩ = some u1 ∧ (cur.setCell ⟨G, j, none⟩ u).cell? ⟨b2, o2, none⟩ = some u2 ∧ (cur.setCell ⟨G, j, none⟩ u).cell? ⟨b3, o3, none⟩ = some u3 := by
  obtain ⟨h0, h1, c1, c2, c3⟩ := h
  have key : ∀ (b o : Nat) (v : Value), b ≠ G → cur.cell? ⟨b, o, none⟩ = some v → (cur.setCell ⟨G, j, none⟩ u).cell? ⟨b, o, none⟩ = some v := fun b o v hb hv => (set_grown cur G j u).cell hv (fun e => hb (by injection e))
  exact ⟨grow_trans h0 (set_grown cur G j u) (fun k hk => .inl (by injection hk with hk; exact hk.symm)), ⟨u, rowAt_set h1 u⟩, key _ _ _ n1 c1, key _ _ _ n2 c2, key _ _ _ n3 c3⟩
/- Of which entries each client's head is, in a box of three lists. -/
def OfAt (w : World) (G : Nat) (A : Nat → Option Addr) (D : Nat → Nat) (o : List (List EntB)) : Prop :=
  w.heap[G]? = some (.cells #[.slice (A 0) (ofK o 0).length (D 0), .slice (A 1) (ofK o 1).length (D 1), .slice (A 2) (ofK o 2).length (D 2)] 53) ∧ ∀ k, k < 3 → EntsAt w (A k) (D k) (ofK o k)
theorem OfAt.on {w w' : World} {G : Nat} {A : Nat → Option Addr} {D : Nat → Nat} {o : List (List EntB)} (h : OfAt w G A D o) (hb : Below w.heap.size w w') : OfAt w' G A D o := ⟨heap_on hb h.1, fun k hk => (h.2 k hk).on hb⟩
theorem OfAt.cell {w : World} {G : Nat} {A : Nat → Option Addr} {D : Nat → Nat} {o : List (List EntB)} (h : OfAt w G A D o) {j : Nat} (hj : j < 3) : w.cell? ⟨G, j, none⟩ = some (.slice (A j) (ofK o j).length (D j)) := by
  match j, hj with
  | 0, _ => exact heap_cell h.1 0 _ rfl
  | 1, _ => exact heap_cell h.1 1 _ rfl
  | 2, _ => exact heap_cell h.1 2 _ rfl
theorem OfAt.box {w w' : World} {G b : Nat} {A : Nat → Option Addr} {D : Nat → Nat} {o : List (List EntB)} (h : OfAt w G A D o) (hne : G ≠ b) {x0 : Option Addr} {y0 z0 : Nat} {x1 : Option Addr} {y1 z1 : Nat} {x2 : Option Addr} {y2 z2 : Nat} {t : TypeId}
    (q : w.heap[b]? = some (.cells #[.slice x0 y0 z0, .slice x1 y1 z1, .slice x2 y2 z2] t)) (hg : w.grownBy w' (some b)) : OfAt w' G A D o := by
  refine ⟨heap_kept hg h.1 (by intro e; injection e with e; exact hne e.symm), fun k hk => ents_kept (h.2 k hk) hg fun hp b' off e e2 => ?_⟩
  injection e2 with e2
  obtain ⟨b2, off2, ha, _, hc⟩ := (h.2 k hk).cells hp
  have hn := box_far q (hc 0 hp).1
  rw [e] at ha; injection ha with ha; injection ha with ha _ _
  omega
theorem OfAt.put {w5 w' : World} {G : Nat} {A : Nat → Option Addr} {D : Nat → Nat} {o : List (List EntB)} (h : OfAt w5 G A D o) (ho : o.length = 3) {j : Nat} (hj : j < 3) {aC : Option Addr} {nC cC : Nat} {l : List EntB} (hl : l.length = nC) (hE : EntsAt w' aC cC l) (hg : w5.grownBy w' (some G))
    (hr : w'.heap[G]? = some (.cells (#[.slice (A 0) (ofK o 0).length (D 0), .slice (A 1) (ofK o 1).length (D 1), .slice (A 2) (ofK o 2).length (D 2)].setIfInBounds j (.slice aC nC cC)) 53)) :
    OfAt w' G (fun k => if k = j then aC else A k) (fun k => if k = j then cC else D k) (o.set j l) := by
  have old : ∀ k, k < 3 → EntsAt w' (A k) (D k) (ofK o k) := fun k hk => ents_kept (h.2 k hk) hg fun hp b' off e e2 => by
    injection e2 with e2
    obtain ⟨b2, off2, ha, _, hc⟩ := (h.2 k hk).cells hp
    have hn := box_far h.1 (hc 0 hp).1
    rw [e] at ha; injection ha with ha; injection ha with ha _ _
    omega
  refine ⟨?_, fun k hk => ?_⟩
  · rw [hr]
    subst hl
    match j, hj with
    | 0, _ => simp [ofK_set (show 0 < o.length by omega)]
    | 1, _ => simp [ofK_set (show 1 < o.length by omega)]
    | 2, _ => simp [ofK_set (show 2 < o.length by omega)]
  · show EntsAt w' (if k = j then aC else A k) (if k = j then cC else D k) (ofK (o.set j l) k)
    rw [ofK_set (by omega)]
    by_cases hkj : k = j
    · rw [if_pos hkj, if_pos hkj, if_pos hkj]; exact hE
    · rw [if_neg hkj, if_neg hkj, if_neg hkj]; exact old k hk
theorem fol_side {Y : WB} {s : Nat} (_ : s < 2) : sideL Y ((s : Nat) : Int) = sideL Y (s : Int) := rfl

end Go.Proofs.YtnemiobgmdpnmagDoor
