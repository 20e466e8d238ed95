/-
  What a right happening needs, whoever does it: a world's box, a block of clients, what regions hold; a happening's answer kind by kind.
-/
import Derived.Test.YthhckpnnjegldafDoorWorlds
import Derived.Test.YthhckpnnjegldafDoorKeepMath
import Derived.Test.YthhckpnnjegldafDoorMoreStep
import Derived.Test.YthhckpnnjegldafDoorBackMath
import Derived.Test.YthhckpnnjegldafDoorCliSlices
import Derived.Test.YthhckpnnjegldafDoorMaths
import Derived.Deep.DeepCutAuto
import Derived.Deep.RegionHeld3
import Derived.Laws.CopyOwn
namespace Go.Proofs.YthhckpnnjegldafDoor
open Go Go.RowKit

/- A list that stayed where it was, or lies in new memory. -/
def NewOr (w : World) (a : Option Addr) (l : List EntB) (b : Option Addr) (m : List EntB) : Prop := (b = a ∧ m = l) ∨ ∀ blk off, b = some ⟨blk, off, none⟩ → w.heap.size ≤ blk
theorem newOr_none (w : World) (a : Option Addr) (l m : List EntB) : NewOr w a l none m := .inr fun _ _ h => by cases h
theorem newOr_at {w : World} {a : Option Addr} {l m : List EntB} {g : Nat} (h : w.heap.size ≤ g) : NewOr w a l (some ⟨g, 0, none⟩) m := .inr fun _ _ e => by injection e with e; injection e with e _ _; omega
theorem new_at {w : World} {g : Nat} (h : w.heap.size ≤ g) : ∀ blk off, (some ⟨g, 0, none⟩ : Option Addr) = some ⟨blk, off, none⟩ → w.heap.size ≤ blk := fun _ _ e => by injection e with e; injection e with e _ _; omega
/- The cells of a block of clients, of which the first ones are these. -/
def CurIs (cur : Array Value) (l : List CliB) : Prop := ∀ i, i < l.length → cur[i * 4]? = some (.int .i64 (cliOf l i).1) ∧ cur[i * 4 + 1]? = some (.string (cliOf l i).2.1) ∧ cur[i * 4 + 2]? = some (.string (cliOf l i).2.2.1) ∧ cur[i * 4 + 3]? = some (.bool (cliOf l i).2.2.2)
theorem cur_of {cur : Array Value} {l : List CliB} {n : Nat} (hn : l.length = n) (h : cur.toList.take (n * 4) = cliCells l) : CurIs cur l := by
  intro i hi
  obtain ⟨e1, e2, e3, e4⟩ := cliCells_at l i hi
  rw [← h] at e1 e2 e3 e4
  rw [List.getElem?_take, if_pos (by omega), Array.getElem?_toList] at e1 e2 e3 e4
  exact ⟨e1, e2, e3, e4⟩
theorem CurIs.four {w : World} {g : Nat} {cur : Array Value} {t : TypeId} {l : List CliB} (hc : CurIs cur l) (h : w.heap[g]? = some (.cells cur t)) {i : Nat} (hi : i < l.length) : fourAt w g (i * 4) (cliOf l i) := by
  obtain ⟨e1, e2, e3, e4⟩ := hc i hi
  exact ⟨heap_cell h _ _ e1, heap_cell h _ _ e2, heap_cell h _ _ e3, heap_cell h _ _ e4⟩
theorem CurIs.clis {w : World} {g cap : Nat} {cur : Array Value} {t : TypeId} {l : List CliB} (hc : CurIs cur l) (h : w.heap[g]? = some (.cells cur t)) (hl : l.length ≤ cap) (hm : cap ≤ maxLen) (hs : ∀ e ∈ l, WideCli e) : ClisAt w (some ⟨g, 0, none⟩) cap l :=
  ⟨hl, by unfold maxLen at hm; omega, hs, fun _ => ⟨g, 0, rfl, (Array.getElem?_eq_some_iff.1 h).1, fun i hi => by rw [Nat.zero_add]; exact hc.four h hi⟩⟩
theorem own_cur {w : World} {base : Nat} {e : TypeId} {g n cap : Nat} {l : List CliB} (h : w.ownsRow base e 4 (.slice (some ⟨g, 0, none⟩) n cap) n (cliCells l)) : ∃ cur, w.heap[g]? = some (.cells cur e) ∧ base ≤ g ∧ n ≤ cap ∧ cap ≤ maxLen ∧ CurIs cur l ∧ cur.size = cap * 4 := by
  have hln : l.length = n := by have := h.1; rw [cliCells_len] at this; omega
  rcases h.2 with ⟨h0, _⟩ | ⟨g', cap', cur, hv, hb, hg, hnc, hm, hsz, hcur⟩
  · cases h0
  · injection hv with e1 _ e3
    injection e1 with e1
    injection e1 with e1 _
    subst e1 e3
    exact ⟨cur, hg, hb, hnc, hm, cur_of hln hcur, hsz⟩
/- The book of a side, in memory. -/
theorem side_cell {w : World} {g : Nat} {x y z : Value} {t : TypeId} (h : w.heap[g]? = some (.cells #[x, y, z] t)) {s : Nat} (hs : s < 2) : w.cell? ⟨g, s, none⟩ = some (if s = 0 then x else y) := by
  rcases Nat.lt_or_ge s 1 with h1 | h1
  · obtain rfl : s = 0 := by omega
    exact heap_cell h 0 _ rfl
  · obtain rfl : s = 1 := by omega
    exact heap_cell h 1 _ rfl
theorem side_ents {w : World} {a0 : Option Addr} {n0 c0 : Nat} {a1 : Option Addr} {n1 c1 : Nat} {a2 : Option Addr} {n2 c2 : Nat} {W : WB} (h : WAt w a0 n0 c0 a1 n1 c1 a2 n2 c2 W) (s : Nat) :
    ∃ sa sn sc, (if s = 0 then Value.slice a0 n0 c0 else Value.slice a1 n1 c1) = .slice sa sn sc ∧ (sideL W s).length = sn ∧ EntsAt w sa sc (sideL W s) := by
  by_cases h0 : s = 0
  · subst h0
    exact ⟨a0, n0, c0, rfl, h.l0, h.e0⟩
  · refine ⟨a1, n1, c1, if_neg h0, ?_⟩
    have e : sideL W s = W.b1 := if_neg (by omega)
    rw [e]
    exact ⟨h.l1, h.e1⟩
/- A side's book is another one. -/
def side3 (s : Nat) (v x y z : Value) : Array Value := if s = 0 then #[v, y, z] else #[x, v, z]
/- Nothing is another but what is new, and one block. -/
theorem grow_trans {w5 cur w' : World} {g : Nat} {row : Option Nat} (h : w5.grownBy cur (some g)) (hg : cur.grownBy w' row) (hr : ∀ j, row = some j → j = g ∨ w5.heap.size ≤ j) : w5.grownBy w' (some g) := by
  refine ⟨hg.os.trans h.os, hg.tape.trans h.tape, hg.output.trans h.output, Nat.le_trans h.size hg.size, fun k hk hne => ?_⟩
  rw [hg.block k (Nat.lt_of_lt_of_le hk h.size) (fun e => ?_)]
  · exact h.block k hk hne
  · rcases hr k e.symm with e1 | e1
    · exact hne (by rw [e1])
    · omega
theorem below_grown {w w' : World} (h : Below w.heap.size w w') (row : Option Nat) : w.grownBy w' row := ⟨h.os, h.tape, h.output, h.size, fun k hk _ => h.block k hk⟩
/- What a region holds: the cells that it reads; a side's book may be another one. -/
def SideAt (w : World) (g s : Nat) (x y z : Value) (t : TypeId) : Prop := ∃ v, w.heap[g]? = some (.cells (side3 s v x y z) t)
theorem put4g {w5 cur w' : World} {g b1 b2 s : Nat} {x y z u1 u2 u3 u4 : Value} {t : TypeId} {row : Option Nat} (k0 : g < w5.heap.size) (k1 : b1 < w5.heap.size) (k2 : b2 < w5.heap.size) (hg : cur.grownBy w' row) (hr : ∀ j, row = some j → w5.heap.size ≤ j)
    (h : w5.grownBy cur (some g) ∧ SideAt cur g s x y z t ∧ cur.cell? ⟨b1, 1, none⟩ = some u1 ∧ cur.cell? ⟨b2, 0, none⟩ = some u2 ∧ cur.cell? ⟨b1, 4, none⟩ = some u3 ∧ cur.cell? ⟨b1, 5, none⟩ = some u4) :
    w5.grownBy w' (some g) ∧ SideAt w' g s x y z t ∧ w'.cell? ⟨b1, 1, none⟩ = some u1 ∧ w'.cell? ⟨b2, 0, none⟩ = some u2 ∧ w'.cell? ⟨b1, 4, none⟩ = some u3 ∧ w'.cell? ⟨b1, 5, none⟩ = some u4 := by
  obtain ⟨h0, ⟨v, hv⟩, h1, h2, h3, h4⟩ := h
  have hlt : ∀ b, b < w5.heap.size → b < cur.heap.size := fun b hb => Nat.lt_of_lt_of_le hb h0.size
  have hne : ∀ b, b < w5.heap.size → some b ≠ row := fun b hb e => by have := hr b e.symm; omega
  have key : ∀ (b j : Nat) (u : Value), b < w5.heap.size → cur.cell? ⟨b, j, none⟩ = some u → w'.cell? ⟨b, j, none⟩ = some u := fun b j u hb hu => hg.cell hu (hne b hb)
  exact ⟨grow_trans h0 hg (fun j hj => .inr (hr j hj)), ⟨v, by rw [hg.block g (hlt g k0) (hne g k0)]; exact hv⟩, key _ _ _ k1 h1, key _ _ _ k2 h2, key _ _ _ k1 h3, key _ _ _ k1 h4⟩
theorem put4b {w5 cur w' : World} {g b1 b2 s : Nat} {x y z u1 u2 u3 u4 : Value} {t : TypeId} (k0 : g < w5.heap.size) (k1 : b1 < w5.heap.size) (k2 : b2 < w5.heap.size)
    (h : w5.grownBy cur (some g) ∧ SideAt cur g s x y z t ∧ cur.cell? ⟨b1, 1, none⟩ = some u1 ∧ cur.cell? ⟨b2, 0, none⟩ = some u2 ∧ cur.cell? ⟨b1, 4, none⟩ = some u3 ∧ cur.cell? ⟨b1, 5, none⟩ = some u4) (hb : Below cur.heap.size cur w') :
    w5.grownBy w' (some g) ∧ SideAt w' g s x y z t ∧ w'.cell? ⟨b1, 1, none⟩ = some u1 ∧ w'.cell? ⟨b2, 0, none⟩ = some u2 ∧ w'.cell? ⟨b1, 4, none⟩ = some u3 ∧ w'.cell? ⟨b1, 5, none⟩ = some u4 :=
  put4g k0 k1 k2 (below_grown hb none) (fun j hj => by cases hj) h
theorem side_set {s : Nat} (v u x y z : Value) : (side3 s v x y z).setIfInBounds s u = side3 s u x y z ∨ 1 < s := by
  unfold side3
  rcases Nat.lt_or_ge s 2 with h | h
  · rcases Nat.lt_or_ge s 1 with h1 | h1
    · obtain rfl : s = 0 := by omega
      exact .inl rfl
    · obtain rfl : s = 1 := by omega
      exact .inl rfl
  · exact .inr h
theorem put4s {w5 cur : World} {g b1 b2 s : Nat} {x y z u1 u2 u3 u4 : Value} {t : TypeId} (u : Value) (hs : s < 2) (n1 : b1 ≠ g) (n2 : b2 ≠ g)
    (h : w5.grownBy cur (some g) ∧ SideAt cur g s x y z t ∧ cur.cell? ⟨b1, 1, none⟩ = some u1 ∧ cur.cell? ⟨b2, 0, none⟩ = some u2 ∧ cur.cell? ⟨b1, 4, none⟩ = some u3 ∧ cur.cell? ⟨b1, 5, none⟩ = some u4) :
    w5.grownBy (cur.setCell ⟨g, s, none⟩ u) (some g) ∧ SideAt (cur.setCell ⟨g, s, none⟩ u) g s x y z t ∧ (cur.setCell ⟨g, s, none⟩ u).cell? ⟨b1, 1, none⟩ = some u1 ∧ (cur.setCell ⟨g, s, none⟩ u).cell? ⟨b2, 0, none⟩ = some u2 ∧ (cur.setCell ⟨g, s, none⟩ u).cell? ⟨b1, 4, none⟩ = some u3 ∧ (cur.setCell ⟨g, s, none⟩ u).cell? ⟨b1, 5, none⟩ = some u4 := by
  obtain ⟨h0, ⟨v, hv⟩, h1, h2, h3, h4⟩ := h
  have key : ∀ (b j : Nat) (x : Value), b ≠ g → cur.cell? ⟨b, j, none⟩ = some x → (cur.setCell ⟨g, s, none⟩ u).cell? ⟨b, j, none⟩ = some x := fun b j x hb hx => (set_grown cur g s u).cell hx (fun e => hb (by injection e))
  refine ⟨grow_trans h0 (set_grown cur g s u) (fun j hj => .inl (by injection hj with hj; exact hj.symm)), ⟨u, ?_⟩, key _ _ _ n1 h1, key _ _ _ n2 h2, key _ _ _ n1 h3, key _ _ _ n1 h4⟩
  rw [heap_setCell_same cur g s _ _ u hv]
  rcases side_set (s := s) v u x y z with e | e
  · rw [e]
  · omega
theorem sideAt_cell {w : World} {g s : Nat} {x y z : Value} {t : TypeId} (h : SideAt w g s x y z t) (hs : s < 2) : ∃ v, w.cell? ⟨g, s, none⟩ = some v ∧ w.frozen? ⟨g, s, none⟩ = false := by
  obtain ⟨v, hv⟩ := h
  refine ⟨v, heap_cell hv s v ?_, frozen_of_row w g s _ _ hv⟩
  rcases Nat.lt_or_ge s 1 with h1 | h1
  · obtain rfl : s = 0 := by omega
    rfl
  · obtain rfl : s = 1 := by omega
    rfl
theorem sideAt_set {w : World} {g s : Nat} {x y z : Value} {t : TypeId} (h : SideAt w g s x y z t) (u : Value) (hs : s < 2) : (w.setCell ⟨g, s, none⟩ u).heap[g]? = some (.cells (side3 s u x y z) t) := by
  obtain ⟨v, hv⟩ := h
  rw [heap_setCell_same w g s _ _ u hv]
  rcases side_set (s := s) v u x y z with e | e
  · rw [e]
  · omega
theorem sideAt_of {w : World} {g : Nat} {x y z : Value} {t : TypeId} (h : w.heap[g]? = some (.cells #[x, y, z] t)) (s : Nat) : SideAt w g s x y z t := by
  refine ⟨if s = 0 then x else y, ?_⟩
  rw [h]
  unfold side3
  split <;> rfl
theorem row_grown (w : World) (g : Nat) (cs : Array Value) : w.grownBy (w.setRow g cs) (some g) := ⟨rfl, rfl, rfl, by simp, fun k _ hk => setRow_other w g k cs (fun e => hk (by rw [e]))⟩
theorem side3_cell {w : World} {g s : Nat} {v x y z : Value} {t : TypeId} (h : w.heap[g]? = some (.cells (side3 s v x y z) t)) (hs : s < 2) : w.cell? ⟨g, s, none⟩ = some v := by
  refine heap_cell h s v ?_
  rcases Nat.lt_or_ge s 1 with h1 | h1
  · obtain rfl : s = 0 := by omega
    rfl
  · obtain rfl : s = 1 := by omega
    rfl
theorem side3_is (w0 : World) (W : WB) (s : Nat) (a : Option Addr) (n c : Nat) (a0 : Option Addr) (n0 c0 : Nat) (a1 : Option Addr) (n1 c1 : Nat) (z : Value) (l : List EntB) (hnew : ∀ blk off, a = some ⟨blk, off, none⟩ → w0.heap.size ≤ blk) : ∃ b0 m0 d0 b1 m1 d1, side3 s (.slice a n c) (.slice a0 n0 c0) (.slice a1 n1 c1) z = #[.slice b0 m0 d0, .slice b1 m1 d1, z] ∧
    NewOr w0 a0 W.b0 b0 (setSide W s l).b0 ∧ NewOr w0 a1 W.b1 b1 (setSide W s l).b1 ∧
    ∀ (w w' : World) a2 n2 c2, WAt w a0 n0 c0 a1 n1 c1 a2 n2 c2 W → Below w.heap.size w w' → l.length = n → EntsAt w' a c l → ∀ b2 m2 d2, W.cs.length = m2 → ClisAt w' b2 d2 W.cs → WAt w' b0 m0 d0 b1 m1 d1 b2 m2 d2 (setSide W s l) := by
  by_cases h0 : s = 0
  · have e : setSide W s l = { W with b0 := l } := if_pos (by omega)
    rw [e]
    exact ⟨a, n, c, a1, n1, c1, if_pos h0, .inr hnew, .inl ⟨rfl, rfl⟩, fun w w' a2 n2 c2 hW hb hl hE b2 m2 d2 hm hC => ⟨hl, hE, hW.l1, hW.e1.on hb, hm, hC⟩⟩
  · have e : setSide W s l = { W with b1 := l } := if_neg (by omega)
    rw [e]
    exact ⟨a0, n0, c0, a, n, c, if_neg h0, .inl ⟨rfl, rfl⟩, .inr hnew, fun w w' a2 n2 c2 hW hb hl hE b2 m2 d2 hm hC => ⟨hW.l0, hW.e0.on hb, hl, hE, hm, hC⟩⟩
theorem right_x {k : Int} {s j i : Nat} {e : EntB} (hs : s < 2) (hj : j < 3) (hi : i < 3) : rightX ⟨k, s, j, i, e⟩ :=
  ⟨by show (0 : Int) ≤ (s : Int); omega, by show (s : Int) ≤ 1; omega, by show (0 : Int) ≤ (j : Int); omega, by show (j : Int) ≤ 2; omega, by show (0 : Int) ≤ (i : Int); omega, by show (i : Int) ≤ 2; omega⟩
theorem hapV_put {W : WB} {s j i : Nat} {e : EntB} (hs : s < 2) (hj : j < 3) (hi : i < 3) : hapV W ⟨1, s, j, i, e⟩ = if bookE (sideL W s ++ [e]) ≠ 0 then (zeroW, bookE (sideL W s ++ [e])) else (setSide W s (sideL W s ++ [e]), 0) := by
  unfold hapV
  rw [if_neg (fun h => h ⟨by show (1 : Int) ≤ 1; decide, by show (1 : Int) ≤ 5; decide⟩), if_neg (fun h => h (right_x hs hj hi)), if_pos rfl]
theorem hapV_fork {W : WB} {s j i : Nat} {e : EntB} (hs : s < 2) (hj : j < 3) (hi : i < 3) : hapV W ⟨2, s, j, i, e⟩ = ({ W with b1 := W.b0 }, 0) := by
  unfold hapV
  rw [if_neg (fun h => h ⟨by show (1 : Int) ≤ 2; decide, by show (2 : Int) ≤ 5; decide⟩), if_neg (fun h => h (right_x hs hj hi)), if_neg (by show ¬ (2 : Int) = 1; decide), if_pos rfl]
theorem growL_size (l : List EntB) (m : Int) : ∀ s ∈ growL l m, s.size ≤ 140737488355328 := by
  intro s hs
  unfold growL at hs
  split at hs
  · have := growS_size _ _ _ _ (Nat.le_refl _) s hs; omega
  · cases hs
theorem cliE_wide {c : CliB} (h : cliE c = 0) : WideCli c := by
  obtain ⟨h1, h2, h3, h4⟩ := (headE_iff c.1 c.2.1 c.2.2.1).1 h
  exact ⟨by omega, by omega, by omega, by omega⟩
theorem hapV_show {W : WB} {s j i : Nat} {e : EntB} (hs : s < 2) (hj : j < 3) (hi : i < 3) : hapV W ⟨3, s, j, i, e⟩ =
    if follE (cliOf W.cs j) (sideL W s) (growL (sideL W s) (cliOf W.cs j).1) ≠ 0 ∧ follE (cliOf W.cs j) (sideL W s) (growL (sideL W s) (cliOf W.cs j).1) ≠ 7
      then (zeroW, follE (cliOf W.cs j) (sideL W s) (growL (sideL W s) (cliOf W.cs j).1))
      else ({ W with cs := W.cs.set j (follC (cliOf W.cs j) (sideL W s) (growL (sideL W s) (cliOf W.cs j).1)) }, 0) := by
  unfold hapV
  rw [if_neg (fun h => h ⟨by show (1 : Int) ≤ 3; decide, by show (3 : Int) ≤ 5; decide⟩), if_neg (fun h => h (right_x hs hj hi)), if_neg (by show ¬ (3 : Int) = 1; decide), if_neg (by show ¬ (3 : Int) = 2; decide), if_pos rfl]
  simp only [cliAt_of, setCli, Int.toNat_natCast]
theorem hapV_bad {W : WB} {s j i sn : Nat} {e : EntB} {cn : Int} {ca cb : ByteArray} {cf : Bool} (hs : s < 2) (hj : j < 3) (hi : i < 3) (hc : cliOf W.cs j = (cn, ca, cb, cf)) (hn : (sideL W s).length = sn)
    (h : followE cn ca cb (sn : Int) (headLog (sideL W s)) (headMap (sideL W s)) (growL (sideL W s) cn) ≠ 0 ∧ followE cn ca cb (sn : Int) (headLog (sideL W s)) (headMap (sideL W s)) (growL (sideL W s) cn) ≠ 7) :
    hapV W ⟨3, s, j, i, e⟩ = (zeroW, followE cn ca cb (sn : Int) (headLog (sideL W s)) (headMap (sideL W s)) (growL (sideL W s) cn)) := by
  subst hn
  rw [hapV_show hs hj hi, hc]
  exact if_pos h
theorem hapV_foll {W : WB} {s j i sn : Nat} {e : EntB} {cn : Int} {ca cb : ByteArray} {cf : Bool} (hs : s < 2) (hj : j < 3) (hi : i < 3) (hc : cliOf W.cs j = (cn, ca, cb, cf)) (hn : (sideL W s).length = sn)
    (h : ¬ (followE cn ca cb (sn : Int) (headLog (sideL W s)) (headMap (sideL W s)) (growL (sideL W s) cn) ≠ 0 ∧ followE cn ca cb (sn : Int) (headLog (sideL W s)) (headMap (sideL W s)) (growL (sideL W s) cn) ≠ 7)) :
    hapV W ⟨3, s, j, i, e⟩ = ({ W with cs := W.cs.set j (folN cn ca cb (sn : Int) (headLog (sideL W s)) (headMap (sideL W s)) (growL (sideL W s) cn), folA cn ca cb (sn : Int) (headLog (sideL W s)) (headMap (sideL W s)) (growL (sideL W s) cn), folB cn ca cb (sn : Int) (headLog (sideL W s)) (headMap (sideL W s)) (growL (sideL W s) cn), folF cn ca cb cf (sn : Int) (headLog (sideL W s)) (headMap (sideL W s)) (growL (sideL W s) cn)) }, 0) := by
  subst hn
  rw [hapV_show hs hj hi, hc]
  exact if_neg h
theorem foll_wide {W : WB} {s j sn : Nat} {cn : Int} {ca cb : ByteArray} {cf : Bool} (hG : worldE W = 0) (hj : j < 3) (hc : cliOf W.cs j = (cn, ca, cb, cf)) (hn : (sideL W s).length = sn) (y : List ByteArray)
    (h : ¬ (followE cn ca cb (sn : Int) (headLog (sideL W s)) (headMap (sideL W s)) y ≠ 0 ∧ followE cn ca cb (sn : Int) (headLog (sideL W s)) (headMap (sideL W s)) y ≠ 7)) :
    WideCli (folN cn ca cb (sn : Int) (headLog (sideL W s)) (headMap (sideL W s)) y, folA cn ca cb (sn : Int) (headLog (sideL W s)) (headMap (sideL W s)) y, folB cn ca cb (sn : Int) (headLog (sideL W s)) (headMap (sideL W s)) y, folF cn ca cb cf (sn : Int) (headLog (sideL W s)) (headMap (sideL W s)) y) := by
  subst hn
  have h3 := ((worldE_iff W).1 hG).2.2.1
  have hce := ((worldE_iff W).1 hG).2.2.2 _ (cliOf_mem (l := W.cs) (i := j) (by omega))
  rw [hc] at hce
  exact cliE_wide (foll_facts (c := (cn, ca, cb, cf)) (y := y) hce (side_good hG (s : Int)) h).1
/- Four cells that are set one by one. -/
theorem set4_grown (w : World) (g o0 o1 o2 o3 : Nat) (a b c d : Value) : w.grownBy ((((w.setCell ⟨g, o0, none⟩ a).setCell ⟨g, o1, none⟩ b).setCell ⟨g, o2, none⟩ c).setCell ⟨g, o3, none⟩ d) (some g) := by
  have key : ∀ {x y z : World}, x.grownBy y (some g) → y.grownBy z (some g) → x.grownBy z (some g) := fun {x y z} h1 h2 =>
    ⟨h2.os.trans h1.os, h2.tape.trans h1.tape, h2.output.trans h1.output, Nat.le_trans h1.size h2.size, fun k hk hne => (h2.block k (Nat.lt_of_lt_of_le hk h1.size) hne).trans (h1.block k hk hne)⟩
  exact key (key (key (set_grown w g o0 a) (set_grown _ g o1 b)) (set_grown _ g o2 c)) (set_grown _ g o3 d)
theorem set4_row {w : World} {g : Nat} {x y z u : Value} {t : TypeId} (h : w.heap[g]? = some (.cells #[x, y, z, u] t)) (a b c d : Value) : ((((w.setCell ⟨g, 0, none⟩ a).setCell ⟨g, 1, none⟩ b).setCell ⟨g, 2, none⟩ c).setCell ⟨g, 3, none⟩ d).heap[g]? = some (.cells #[a, b, c, d] t) :=
  heap_setCell_same _ g 3 _ _ d (heap_setCell_same _ g 2 _ _ c (heap_setCell_same _ g 1 _ _ b (heap_setCell_same w g 0 _ _ a h)))
theorem set4_cur {w : World} {g : Nat} {cur : Array Value} {t : TypeId} {l : List CliB} (h : w.heap[g]? = some (.cells cur t)) (hc : CurIs cur l) {j : Nat} (hj : j < l.length) (d : CliB) :
    ∃ cur', ((((w.setCell ⟨g, j * 4, none⟩ (.int .i64 d.1)).setCell ⟨g, j * 4 + 1, none⟩ (.string d.2.1)).setCell ⟨g, j * 4 + 2, none⟩ (.string d.2.2.1)).setCell ⟨g, j * 4 + 3, none⟩ (.bool d.2.2.2)).heap[g]? = some (.cells cur' t) ∧ CurIs cur' (l.set j d) := by
  refine ⟨_, heap_setCell_same _ g (j * 4 + 3) _ _ _ (heap_setCell_same _ g (j * 4 + 2) _ _ _ (heap_setCell_same _ g (j * 4 + 1) _ _ _ (heap_setCell_same w g (j * 4) _ _ _ h))), ?_⟩
  have hlt : j * 4 + 3 < cur.size := (Array.getElem?_eq_some_iff.1 (hc j hj).2.2.2).1
  intro k hk
  rw [List.length_set] at hk
  obtain ⟨e1, e2, e3, e4⟩ := hc k hk
  rw [cliOf_set d hj]
  simp only [Array.getElem?_setIfInBounds, Array.size_setIfInBounds]
  by_cases hkj : k = j
  · subst hkj
    rw [show (if k = k then d else cliOf l k) = d from if_pos rfl]
    refine ⟨?_, ?_, ?_, ?_⟩
    · rw [if_neg (by omega), if_neg (by omega), if_neg (by omega), if_pos rfl, if_pos (by omega)]
    · rw [if_neg (by omega), if_neg (by omega), if_pos rfl, if_pos (by omega)]
    · rw [if_neg (by omega), if_pos rfl, if_pos (by omega)]
    · rw [if_pos rfl, if_pos (by omega)]
  · rw [show (if k = j then d else cliOf l k) = cliOf l k from if_neg hkj]
    refine ⟨?_, ?_, ?_, ?_⟩ <;> rw [if_neg (by omega), if_neg (by omega), if_neg (by omega), if_neg (by omega)] <;> assumption
/- What a region holds: a client, a head, a book. -/
theorem hold8g {w5 cur w' : World} {b1 b2 b3 : Nat} {u1 u2 u3 u4 v1 v2 v3 z1 : Value} {row : Option Nat} (k1 : b1 < w5.heap.size) (k2 : b2 < w5.heap.size) (k3 : b3 < w5.heap.size) (hg : cur.grownBy w' row) (hr : ∀ j, row = some j → w5.heap.size ≤ j)
    (h : Below w5.heap.size w5 cur ∧ cur.cell? ⟨b1, 0, none⟩ = some u1 ∧ cur.cell? ⟨b1, 1, none⟩ = some u2 ∧ cur.cell? ⟨b1, 2, none⟩ = some u3 ∧ cur.cell? ⟨b1, 3, none⟩ = some u4 ∧ cur.cell? ⟨b2, 0, none⟩ = some v1 ∧ cur.cell? ⟨b2, 1, none⟩ = some v2 ∧ cur.cell? ⟨b2, 2, none⟩ = some v3 ∧ cur.cell? ⟨b3, 0, none⟩ = some z1) :
    Below w5.heap.size w5 w' ∧ w'.cell? ⟨b1, 0, none⟩ = some u1 ∧ w'.cell? ⟨b1, 1, none⟩ = some u2 ∧ w'.cell? ⟨b1, 2, none⟩ = some u3 ∧ w'.cell? ⟨b1, 3, none⟩ = some u4 ∧ w'.cell? ⟨b2, 0, none⟩ = some v1 ∧ w'.cell? ⟨b2, 1, none⟩ = some v2 ∧ w'.cell? ⟨b2, 2, none⟩ = some v3 ∧ w'.cell? ⟨b3, 0, none⟩ = some z1 := by
  have key : ∀ (b j : Nat) (u : Value), b < w5.heap.size → cur.cell? ⟨b, j, none⟩ = some u → w'.cell? ⟨b, j, none⟩ = some u := fun b j u hb hu => hg.cell hu (fun e => by have := hr b e.symm; omega)
  obtain ⟨h0, h1, h2, h3, h4, h5, h6, h7, h8⟩ := h
  exact ⟨h0.grown hg h0.size hr, key _ _ _ k1 h1, key _ _ _ k1 h2, key _ _ _ k1 h3, key _ _ _ k1 h4, key _ _ _ k2 h5, key _ _ _ k2 h6, key _ _ _ k2 h7, key _ _ _ k3 h8⟩
theorem hold8 {w5 cur w' : World} {b1 b2 b3 : Nat} {u1 u2 u3 u4 v1 v2 v3 z1 : Value} (k1 : b1 < w5.heap.size) (k2 : b2 < w5.heap.size) (k3 : b3 < w5.heap.size)
    (h : Below w5.heap.size w5 cur ∧ cur.cell? ⟨b1, 0, none⟩ = some u1 ∧ cur.cell? ⟨b1, 1, none⟩ = some u2 ∧ cur.cell? ⟨b1, 2, none⟩ = some u3 ∧ cur.cell? ⟨b1, 3, none⟩ = some u4 ∧ cur.cell? ⟨b2, 0, none⟩ = some v1 ∧ cur.cell? ⟨b2, 1, none⟩ = some v2 ∧ cur.cell? ⟨b2, 2, none⟩ = some v3 ∧ cur.cell? ⟨b3, 0, none⟩ = some z1) (hb : Below cur.heap.size cur w') :
    Below w5.heap.size w5 w' ∧ w'.cell? ⟨b1, 0, none⟩ = some u1 ∧ w'.cell? ⟨b1, 1, none⟩ = some u2 ∧ w'.cell? ⟨b1, 2, none⟩ = some u3 ∧ w'.cell? ⟨b1, 3, none⟩ = some u4 ∧ w'.cell? ⟨b2, 0, none⟩ = some v1 ∧ w'.cell? ⟨b2, 1, none⟩ = some v2 ∧ w'.cell? ⟨b2, 2, none⟩ = some v3 ∧ w'.cell? ⟨b3, 0, none⟩ = some z1 :=
  hold8g k1 k2 k3 (below_grown hb none) (fun j hj => by cases hj) h
theorem wide_set {l : List CliB} (h : ∀ e ∈ l, WideCli e) (j : Nat) {d : CliB} (hd : WideCli d) : ∀ e ∈ l.set j d, WideCli e := by
  intro e he
  rcases List.mem_or_eq_of_mem_set he with h1 | rfl
  · exact h e h1
  · exact hd
theorem hapV_out {W : WB} {s j i : Nat} {e : EntB} (hs : s < 2) (hj : j < 3) (hi : i < 3) (h : ¬ (0 ≤ e.1 ∧ e.1 < 16)) : hapV W ⟨5, s, j, i, e⟩ = (zeroW, 5) := by
  unfold hapV
  rw [if_neg (fun h => h ⟨by show (1 : Int) ≤ 5; decide, by show (5 : Int) ≤ 5; decide⟩), if_neg (fun h => h (right_x hs hj hi)), if_neg (by show ¬ (5 : Int) = 1; decide), if_neg (by show ¬ (5 : Int) = 2; decide), if_neg (by show ¬ (5 : Int) = 3; decide), if_neg (by show ¬ (5 : Int) = 4; decide), if_pos h]
theorem hapV_ask {W : WB} {s j i k : Nat} {v : ByteArray} (hs : s < 2) (hj : j < 3) (hi : i < 3) (hk : k < 16) : hapV W ⟨5, s, j, i, (k, v)⟩ = if askE (cliOf W.cs j) (sideL W s) k ≠ 0 then (zeroW, askE (cliOf W.cs j) (sideL W s) k) else (W, 0) := by
  unfold hapV
  rw [if_neg (fun h => h ⟨by show (1 : Int) ≤ 5; decide, by show (5 : Int) ≤ 5; decide⟩), if_neg (fun h => h (right_x hs hj hi)), if_neg (by show ¬ (5 : Int) = 1; decide), if_neg (by show ¬ (5 : Int) = 2; decide), if_neg (by show ¬ (5 : Int) = 3; decide), if_neg (by show ¬ (5 : Int) = 4; decide), if_neg (fun h => h ⟨by show (0 : Int) ≤ (k : Int); omega, by show (k : Int) < 16; omega⟩)]
  simp only [cliAt_of]
theorem ask_back {W : WB} {s j k : Nat} {cn : Int} {ca cb : ByteArray} {cf : Bool} (hc : cliOf W.cs j = (cn, ca, cb, cf)) : askE (cliOf W.cs j) (sideL W s) k = trieE cb k (valS (backD (sideL W s)) k) (valD (backD (sideL W s)) k).isSome (pathT (valN (backD (sideL W s))) 0 k 4) := by
  have e1 : valN (backD (sideL W s)) = valN (valsD (sideL W s)) := funext fun q => back_vals _ (q : Int)
  unfold askE
  rw [hc, e1, Int.toNat_natCast]
  unfold valS
  rw [back_vals]
theorem hapV_ask_bad {W : WB} {s j i k : Nat} {v : ByteArray} (hs : s < 2) (hj : j < 3) (hi : i < 3) (hk : k < 16) {z : Int} (h : askE (cliOf W.cs j) (sideL W s) k = z) (h0 : z ≠ 0) : hapV W ⟨5, s, j, i, (k, v)⟩ = (zeroW, z) := by
  rw [hapV_ask hs hj hi hk, h]
  exact if_pos h0
theorem hapV_ask_ok {W : WB} {s j i k : Nat} {v : ByteArray} (hs : s < 2) (hj : j < 3) (hi : i < 3) (hk : k < 16) (h : askE (cliOf W.cs j) (sideL W s) k = 0) : hapV W ⟨5, s, j, i, (k, v)⟩ = (W, 0) := by
  rw [hapV_ask hs hj hi hk, h]
  exact if_neg (fun h => h rfl)
/- What a region holds: two cells. -/
theorem hold2 {w5 cur w' : World} {b1 o1 b2 o2 : Nat} {u1 u2 : Value} (k1 : b1 < w5.heap.size) (k2 : b2 < w5.heap.size) (h : Below w5.heap.size w5 cur ∧ cur.cell? ⟨b1, o1, none⟩ = some u1 ∧ cur.cell? ⟨b2, o2, none⟩ = some u2) (hb : Below cur.heap.size cur w') :
    Below w5.heap.size w5 w' ∧ w'.cell? ⟨b1, o1, none⟩ = some u1 ∧ w'.cell? ⟨b2, o2, none⟩ = some u2 := by
  obtain ⟨h0, h1, h2⟩ := h
  exact ⟨below_on h0 hb, by rw [hb.cell (Nat.lt_of_lt_of_le k1 h0.size)]; exact h1, by rw [hb.cell (Nat.lt_of_lt_of_le k2 h0.size)]; exact h2⟩
theorem heap_grown {w w' : World} {row : Option Nat} (hg : w.grownBy w' row) {i : Nat} {x : Obj} (h : w.heap[i]? = some x) (hr : row ≠ some i) : w'.heap[i]? = some x := heap_kept hg h hr
theorem set_side {w : World} {g : Nat} {x y z : Value} {t : TypeId} (h : w.heap[g]? = some (.cells #[x, y, z] t)) {s : Nat} (hs : s < 2) (v : Value) : (w.setCell ⟨g, s, none⟩ v).heap[g]? = some (.cells (side3 s v x y z) t) := by
  rcases Nat.lt_or_ge s 1 with h1 | h1
  · obtain rfl : s = 0 := by omega
    exact heap_setCell_same w g 0 _ t v h
  · obtain rfl : s = 1 := by omega
    exact heap_setCell_same w g 1 _ t v h
theorem below_set {w0 w : World} {B g : Nat} {cs : Array Value} {t : TypeId} (hb : Below B w0 w) (hg : B ≤ g) (h : w.heap[g]? = some (.cells cs t)) (s : Nat) (v : Value) : Below B w0 (w.setCell ⟨g, s, none⟩ v) := by
  rw [setCell_eq_setRow w g s cs t _ v h]
  exact below_setRow hb hg _
theorem heap_set_ne {w : World} {g h : Nat} {o : Obj} (hh : w.heap[h]? = some o) (hne : h ≠ g) (s : Nat) (v : Value) : (w.setCell ⟨g, s, none⟩ v).heap[h]? = some o := (heap_setCell_other w ⟨g, s, none⟩ h v hne).trans hh
theorem new_wide : ∀ x ∈ newW.cs, WideCli x := by
  intro x hx
  have : x = zeroC := by
    simp only [newW, List.mem_cons, List.not_mem_nil, or_false, or_self] at hx
    exact hx
  subst this
  exact ⟨by decide, by decide, by decide, by decide⟩
theorem clis_kept {w : World} {B g : Nat} {t : TypeId} {a : Option Addr} {n c : Nat} {l : List CliB} (h : w.ownsRow B t 4 (.slice a n c) n (cliCells l)) (hg : g < B) (hs : ∀ s ∈ l, WideCli s) (cs : Array Value) : ClisAt (w.setRow g cs) a c l := by
  obtain ⟨a', c', hv, _, hS⟩ := clis_own h hs
  injection hv with e1 _ e3
  subst e1 e3
  refine ⟨hS.cap, hS.max, hS.sz, fun hp => ?_⟩
  obtain ⟨b, off, ha, hlt, hc⟩ := hS.cells hp
  have hbg : b ≠ g := by
    rcases h.2 with ⟨he, _⟩ | ⟨g', cap, cur, he, hB, _⟩
    · rw [ha] at he; cases he
    · rw [ha] at he
      injection he with e _ _
      injection e with e
      injection e with e _
      omega
  refine ⟨b, off, ha, by rw [setRow_size]; exact hlt, fun i hi => ?_⟩
  unfold fourAt
  rw [cell_setRow_other _ _ _ _ hbg, cell_setRow_other _ _ _ _ hbg, cell_setRow_other _ _ _ _ hbg, cell_setRow_other _ _ _ _ hbg]
  exact hc i hi
theorem made_new : (madeCells (Value.agg #[.int .i64 0, .string ⟨#[]⟩, .string ⟨#[]⟩, .bool false]).cells (3 * 4)).toList = cliCells newW.cs := by simp [madeCells, cliCells, newW, zeroC, Value.cells, List.range, List.range.loop]
end Go.Proofs.YthhckpnnjegldafDoor
