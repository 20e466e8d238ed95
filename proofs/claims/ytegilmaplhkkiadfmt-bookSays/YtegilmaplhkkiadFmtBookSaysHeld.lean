/-
  BookSays' walk: what is held through a region.
-/
import Derived.Test.YtegilmaplhkkiadFmtRefHead
import Derived.Test.YtegilmaplhkkiadFmtBooked
import Derived.Test.YtegilmaplhkkiadFmtMoreStep
import Derived.Test.YtegilmaplhkkiadFmtMapEqual
import Derived.Test.YtegilmaplhkkiadFmtSlices
import Derived.Deep.DeepCutAuto
namespace Go.Proofs.YtegilmaplhkkiadFmt
open Go Go.RowKit Go.Maps Go.Kit Go.Extern.Stop Go.Stop Go.Extern

theorem held9 {w5 cur w' : World} {b1 b2 b3 b4 : Nat} {v1 v2 v3 v4 v5 v6 v7 v8 v9 : Value} (k1 : b1 < w5.heap.size) (k2 : b2 < w5.heap.size) (k3 : b3 < w5.heap.size) (k4 : b4 < w5.heap.size)
    (h : Below w5.heap.size w5 cur ∧ cur.cell? ⟨b1, 0, none⟩ = some v1 ∧ cur.cell? ⟨b2, 0, none⟩ = some v2 ∧ cur.cell? ⟨b2, 1, none⟩ = some v3 ∧ cur.cell? ⟨b3, 0, none⟩ = some v4 ∧ cur.cell? ⟨b3, 1, none⟩ = some v5 ∧ cur.cell? ⟨b3, 2, none⟩ = some v6 ∧ cur.cell? ⟨b4, 0, none⟩ = some v7 ∧ cur.cell? ⟨b4, 1, none⟩ = some v8 ∧ cur.cell? ⟨b4, 2, none⟩ = some v9)
    (hb : Below cur.heap.size cur w') : Below w5.heap.size w5 w' ∧ w'.cell? ⟨b1, 0, none⟩ = some v1 ∧ w'.cell? ⟨b2, 0, none⟩ = some v2 ∧ w'.cell? ⟨b2, 1, none⟩ = some v3 ∧ w'.cell? ⟨b3, 0, none⟩ = some v4 ∧ w'.cell? ⟨b3, 1, none⟩ = some v5 ∧ w'.cell? ⟨b3, 2, none⟩ = some v6 ∧ w'.cell? ⟨b4, 0, none⟩ = some v7 ∧ w'.cell? ⟨b4, 1, none⟩ = some v8 ∧ w'.cell? ⟨b4, 2, none⟩ = some v9 := by
  have key : ∀ (b j : Nat) (u : Value), b < w5.heap.size → cur.cell? ⟨b, j, none⟩ = some u → w'.cell? ⟨b, j, none⟩ = some u := fun b j u hlt hu => by
    rw [hb.cell (Nat.lt_of_lt_of_le hlt h.1.size)]; exact hu
  obtain ⟨h0, h1, h2, h3, h4, h5, h6, h7, h8, h9⟩ := h
  exact ⟨below_on h0 hb, key _ _ _ k1 h1, key _ _ _ k2 h2, key _ _ _ k2 h3, key _ _ _ k3 h4, key _ _ _ k3 h5, key _ _ _ k3 h6, key _ _ _ k4 h7, key _ _ _ k4 h8, key _ _ _ k4 h9⟩

end Go.Proofs.YtegilmaplhkkiadFmt
