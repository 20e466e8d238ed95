/-
  What a meeting needs, whoever does it.
-/
import Derived.Test.YthhckpnnjegldafDoorHapMem
namespace Go.Proofs.YthhckpnnjegldafDoor
open Go Go.RowKit

/- Whether a meeting is borne, book by book. -/
def okK (W : WB) (p q : CliB) : Nat → Bool
  | 0 => metE p q [] == 0
  | k + 1 => if metBy p q (sideL W (k : Int)) then true else okK W p q k
theorem okK_iff (W : WB) (p q : CliB) : okK W p q 2 = true ↔ metP W p q := by
  have e0 : sideL W ((0 : Nat) : Int) = W.b0 := rfl
  have e1 : sideL W ((1 : Nat) : Int) = W.b1 := rfl
  show (if metBy p q (sideL W ((1 : Nat) : Int)) then true else if metBy p q (sideL W ((0 : Nat) : Int)) then true else metE p q [] == 0) = true ↔ _
  rw [e0, e1]
  by_cases h1 : metBy p q W.b1
  · rw [if_pos h1]
    exact ⟨fun _ => .inr (.inr h1), fun _ => rfl⟩
  · rw [if_neg h1]
    by_cases h0 : metBy p q W.b0
    · rw [if_pos h0]
      exact ⟨fun _ => .inr (.inl h0), fun _ => rfl⟩
    · rw [if_neg h0, beq_iff_eq]
      exact ⟨fun h => .inl h, fun h => h.elim id (fun h => h.elim (fun h => absurd h h0) (fun h => absurd h h1))⟩
theorem hapV_meet {W : WB} {s j i : Nat} {e : EntB} (hs : s < 2) (hj : j < 3) (hi : i < 3) : hapV W ⟨4, s, j, i, e⟩ =
    if metP W (cliOf W.cs j) (cliOf W.cs i) then (W, 0) else ({ W with cs := (W.cs.set j (foolC (cliOf W.cs j))).set i (foolC (cliOf W.cs i)) }, 0) := by
  unfold hapV
  rw [if_neg (fun h => h ⟨by show (1 : Int) ≤ 4; decide, by show (4 : Int) ≤ 5; decide⟩), if_neg (fun h => h (right_x hs hj hi)), if_neg (by show ¬ (4 : Int) = 1; decide), if_neg (by show ¬ (4 : Int) = 2; decide), if_neg (by show ¬ (4 : Int) = 3; decide), if_pos rfl]
  simp only [cliAt_of, setCli, Int.toNat_natCast]
theorem hapV_met {W : WB} {s j i : Nat} {e : EntB} (hs : s < 2) (hj : j < 3) (hi : i < 3) (h : okK W (cliOf W.cs j) (cliOf W.cs i) 2 = true) : hapV W ⟨4, s, j, i, e⟩ = (W, 0) := by
  rw [hapV_meet hs hj hi]
  exact if_pos ((okK_iff _ _ _).1 h)
theorem hapV_unmet {W : WB} {s j i : Nat} {e : EntB} (hs : s < 2) (hj : j < 3) (hi : i < 3) (h : okK W (cliOf W.cs j) (cliOf W.cs i) 2 = false) : hapV W ⟨4, s, j, i, e⟩ = ({ W with cs := (W.cs.set j (foolC (cliOf W.cs j))).set i (foolC (cliOf W.cs i)) }, 0) := by
  rw [hapV_meet hs hj hi]
  exact if_neg (fun hm => by rw [(okK_iff _ _ _).2 hm] at h; cases h)
theorem run_books (k : Nat) (hk : k < 2) (x y : Value) (w : World) : (Instr.index 40 (.agg #[x, y]) (.int .i64 (k : Int))).run Tryd.prog w = .ok (.agg #[if k = 0 then x else y]) w := by
  rcases Nat.lt_or_ge k 1 with h | h
  · obtain rfl : k = 0 := by omega
    simp [Instr.index, asIntOf, run_underlying Tryd.underlying40, part, Tryd.sizeOf24, Tryd.isAgg24]
  · obtain rfl : k = 1 := by omega
    simp [Instr.index, asIntOf, run_underlying Tryd.underlying40, part, Tryd.sizeOf24, Tryd.isAgg24]
theorem set1_cur {w : World} {g : Nat} {cur : Array Value} {t : TypeId} {l : List CliB} (h : w.heap[g]? = some (.cells cur t)) (hc : CurIs cur l) {j : Nat} (hj : j < l.length) :
    ∃ cur', (w.setCell ⟨g, j * 4 + 3, none⟩ (.bool true)).heap[g]? = some (.cells cur' t) ∧ CurIs cur' (l.set j (foolC (cliOf l j))) := by
  refine ⟨_, heap_setCell_same w g (j * 4 + 3) _ _ _ h, ?_⟩
  have hlt : j * 4 + 3 < cur.size := (Array.getElem?_eq_some_iff.1 (hc j hj).2.2.2).1
  intro k hk
  rw [List.length_set] at hk
  obtain ⟨e1, e2, e3, e4⟩ := hc k hk
  rw [cliOf_set _ hj]
  simp only [Array.getElem?_setIfInBounds]
  by_cases hkj : k = j
  · subst hkj
    rw [show (if k = k then foolC (cliOf l k) else cliOf l k) = foolC (cliOf l k) from if_pos rfl]
    refine ⟨?_, ?_, ?_, ?_⟩
    · rw [if_neg (by omega)]; exact e1
    · rw [if_neg (by omega)]; exact e2
    · rw [if_neg (by omega)]; exact e3
    · rw [if_pos rfl, if_pos (by omega)]; rfl
  · rw [show (if k = j then foolC (cliOf l j) else cliOf l k) = cliOf l k from if_neg hkj]
    refine ⟨?_, ?_, ?_, ?_⟩ <;> rw [if_neg (by omega)] <;> assumption
/- Both are fooled, whoever is first. -/
theorem fool_both {l : List CliB} {j i : Nat} (hj : j < l.length) : (l.set j (foolC (cliOf l j))).set i (foolC (cliOf (l.set j (foolC (cliOf l j))) i)) = (l.set j (foolC (cliOf l j))).set i (foolC (cliOf l i)) := by
  rw [cliOf_set _ hj]
  by_cases h : i = j
  · subst h
    rw [if_pos rfl]
    rfl
  · rw [if_neg h]
theorem fool_back {l : List CliB} {j i : Nat} (hi : i < l.length) : (l.set i (foolC (cliOf l i))).set j (foolC (cliOf (l.set i (foolC (cliOf l i))) j)) = (l.set j (foolC (cliOf l j))).set i (foolC (cliOf l i)) := by
  rw [fool_both hi]
  by_cases h : i = j
  · subst h; rfl
  · exact List.set_comm _ _ h
theorem both_rel {w0 w : World} {B g g2 g3 g4 : Nat} {cur : Array Value} {t : TypeId} {l : List CliB} {c2 c3 c4 : Obj} (hb : Below B w0 w) (hB : B ≤ g) (h9 : w.heap[g]? = some (.cells cur t)) (hc : CurIs cur l) {j i : Nat} (hj : j < l.length) (hi : i < l.length)
    (h2 : w.heap[g2]? = some c2) (h3 : w.heap[g3]? = some c3) (h4 : w.heap[g4]? = some c4) (n2 : g2 ≠ g) (n3 : g3 ≠ g) (n4 : g4 ≠ g) :
    (∃ cur', ((w.setCell ⟨g, j * 4 + 3, none⟩ (.bool true)).setCell ⟨g, i * 4 + 3, none⟩ (.bool true)).heap[g]? = some (.cells cur' t) ∧ CurIs cur' ((l.set j (foolC (cliOf l j))).set i (foolC (cliOf l i)))) ∧
    ((w.setCell ⟨g, j * 4 + 3, none⟩ (.bool true)).setCell ⟨g, i * 4 + 3, none⟩ (.bool true)).heap[g2]? = some c2 ∧ ((w.setCell ⟨g, j * 4 + 3, none⟩ (.bool true)).setCell ⟨g, i * 4 + 3, none⟩ (.bool true)).heap[g3]? = some c3 ∧
    ((w.setCell ⟨g, j * 4 + 3, none⟩ (.bool true)).setCell ⟨g, i * 4 + 3, none⟩ (.bool true)).heap[g4]? = some c4 ∧ Below B w0 ((w.setCell ⟨g, j * 4 + 3, none⟩ (.bool true)).setCell ⟨g, i * 4 + 3, none⟩ (.bool true)) := by
  obtain ⟨c1, q1, e1⟩ := set1_cur h9 hc hj
  obtain ⟨c2, q2, e2⟩ := set1_cur q1 e1 (j := i) (by rw [List.length_set]; exact hi)
  rw [fool_both hj] at e2
  refine ⟨⟨c2, q2, e2⟩, heap_set_ne (heap_set_ne h2 n2 _ _) n2 _ _, heap_set_ne (heap_set_ne h3 n3 _ _) n3 _ _, heap_set_ne (heap_set_ne h4 n4 _ _) n4 _ _, below_set (below_set hb hB h9 _ _) hB q1 _ _⟩
theorem both_back {w0 w : World} {B g g2 g3 g4 : Nat} {cur : Array Value} {t : TypeId} {l : List CliB} {c2 c3 c4 : Obj} (hb : Below B w0 w) (hB : B ≤ g) (h9 : w.heap[g]? = some (.cells cur t)) (hc : CurIs cur l) {j i : Nat} (hj : j < l.length) (hi : i < l.length)
    (h2 : w.heap[g2]? = some c2) (h3 : w.heap[g3]? = some c3) (h4 : w.heap[g4]? = some c4) (n2 : g2 ≠ g) (n3 : g3 ≠ g) (n4 : g4 ≠ g) :
    (∃ cur', ((w.setCell ⟨g, i * 4 + 3, none⟩ (.bool true)).setCell ⟨g, j * 4 + 3, none⟩ (.bool true)).heap[g]? = some (.cells cur' t) ∧ CurIs cur' ((l.set j (foolC (cliOf l j))).set i (foolC (cliOf l i)))) ∧
    ((w.setCell ⟨g, i * 4 + 3, none⟩ (.bool true)).setCell ⟨g, j * 4 + 3, none⟩ (.bool true)).heap[g2]? = some c2 ∧ ((w.setCell ⟨g, i * 4 + 3, none⟩ (.bool true)).setCell ⟨g, j * 4 + 3, none⟩ (.bool true)).heap[g3]? = some c3 ∧
    ((w.setCell ⟨g, i * 4 + 3, none⟩ (.bool true)).setCell ⟨g, j * 4 + 3, none⟩ (.bool true)).heap[g4]? = some c4 ∧ Below B w0 ((w.setCell ⟨g, i * 4 + 3, none⟩ (.bool true)).setCell ⟨g, j * 4 + 3, none⟩ (.bool true)) := by
  obtain ⟨⟨c, q, e⟩, r⟩ := both_rel hb hB h9 hc hi hj h2 h3 h4 n2 n3 n4
  have hh := fool_back (j := j) hi
  rw [fool_both hi] at hh
  rw [hh] at e
  exact ⟨⟨c, q, e⟩, r⟩
theorem fool_wide {l : List CliB} (h : ∀ e ∈ l, WideCli e) {j : Nat} (hj : j < l.length) : WideCli (foolC (cliOf l j)) := by
  have := h _ (cliOf_mem hj)
  exact this
/- What a region holds: two heads, a book. -/
theorem hold7 {w5 cur w' : World} {b1 b2 b3 : Nat} {u1 u2 u3 v1 v2 v3 z1 : Value} (k1 : b1 < w5.heap.size) (k2 : b2 < w5.heap.size) (k3 : b3 < w5.heap.size)
    (h : Below w5.heap.size w5 cur ∧ cur.cell? ⟨b1, 0, none⟩ = some u1 ∧ cur.cell? ⟨b1, 1, none⟩ = some u2 ∧ cur.cell? ⟨b1, 2, none⟩ = some u3 ∧ cur.cell? ⟨b2, 0, none⟩ = some v1 ∧ cur.cell? ⟨b2, 1, none⟩ = some v2 ∧ cur.cell? ⟨b2, 2, none⟩ = some v3 ∧ cur.cell? ⟨b3, 0, none⟩ = some z1) (hb : Below cur.heap.size cur w') :
    Below w5.heap.size w5 w' ∧ w'.cell? ⟨b1, 0, none⟩ = some u1 ∧ w'.cell? ⟨b1, 1, none⟩ = some u2 ∧ w'.cell? ⟨b1, 2, none⟩ = some u3 ∧ w'.cell? ⟨b2, 0, none⟩ = some v1 ∧ w'.cell? ⟨b2, 1, none⟩ = some v2 ∧ w'.cell? ⟨b2, 2, none⟩ = some v3 ∧ w'.cell? ⟨b3, 0, none⟩ = some z1 := by
  obtain ⟨h0, h1, h2, h3, h4, h5, h6, h7⟩ := h
  have key : ∀ (b j : Nat) (u : Value), b < w5.heap.size → cur.cell? ⟨b, j, none⟩ = some u → w'.cell? ⟨b, j, none⟩ = some u := fun b j u hlt hu => by
    rw [hb.cell (Nat.lt_of_lt_of_le hlt h0.size)]; exact hu
  exact ⟨below_on h0 hb, key _ _ _ k1 h1, key _ _ _ k1 h2, key _ _ _ k1 h3, key _ _ _ k2 h4, key _ _ _ k2 h5, key _ _ _ k2 h6, key _ _ _ k3 h7⟩
end Go.Proofs.YthhckpnnjegldafDoor
