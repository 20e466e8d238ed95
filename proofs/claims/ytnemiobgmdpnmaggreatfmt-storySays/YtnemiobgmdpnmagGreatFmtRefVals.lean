/-
  Chapter 6's Values as the document's own reckoning has them: gathered from behind.
-/
import Derived.Test.YtnemiobgmdpnmagGreatFmtRefBook
import Derived.Test.YtnemiobgmdpnmagGreatFmtBooks
import Derived.Deep.RegionHeld3
namespace Go.Proofs.YtnemiobgmdpnmagGreatFmt
open Go Go.RowKit Go.Maps

theorem held3_grown {w w' : World} {B p b i j : Nat} {x y z : Value} (hp : B < p) (hb : b < B) (h : w.cell? ⟨B, 0, none⟩ = some x ∧ w.cell? ⟨b, i, none⟩ = some y ∧ w.cell? ⟨b, j, none⟩ = some z) (hg : w.grownBy w' (some p)) :
    w'.cell? ⟨B, 0, none⟩ = some x ∧ w'.cell? ⟨b, i, none⟩ = some y ∧ w'.cell? ⟨b, j, none⟩ = some z := by
  have key : ∀ (g k : Nat) (u : Value), g ≠ p → w.cell? ⟨g, k, none⟩ = some u → w'.cell? ⟨g, k, none⟩ = some u := fun g k u hne hu => by
    rw [World.cell?_of_block (w := w) (hg.block g (block_lt_of_cell hu) (fun e => hne (by injection e)))]
    exact hu
  exact ⟨key _ _ _ (by omega) h.1, key _ _ _ (by omega) h.2.1, key _ _ _ (by omega) h.2.2⟩

set_option maxHeartbeats 1000000 in
set_option maxRecDepth 100000 in
theorem valuesOf_any (l : List EntB) (a : Option Addr) (n c : Nat) (w : World) (hn : l.length = n) (hS : EntsAt w a c l) (h24 : n ≤ 24) :
    Calls Tryz.prog 21 #[.agg #[.slice a n c]] w fun e w' => ∃ p, e = .returned (.map (some p)) ∧ MapAt w' (some p) (backD l) ∧ Below w.heap.size w w' := by
  have hcap := hS.cap
  have hmax := hS.max
  have hmm := @run_makeMap Tryz.prog
  obtain ⟨q0, q1, hb0⟩ := boxes2 w (.cells #[.slice a n c] 24) (.map #[] 0)
  have hX := made_owns (w.alloc (.cells #[.slice a n c] 24))
  rw [heap_size] at hX
  go_enter Tryz.func21, Tryz.ntmps21
  go_wp2_with fail
  generalize ((w.alloc (.cells #[.slice a n c] 24)).alloc (.map #[] 0)) = W at q0 hX hb0 ⊢
  clear q1 hmm
  obtain ⟨p, hp, hpe⟩ : ∃ p, w.heap.size < p ∧ w.heap.size + 1 = p := ⟨_, by omega, rfl⟩
  rw [hpe] at hX ⊢
  clear hpe
  go_loopg [4] n (fun g s4 wr => ∃ k cnt : Nat, k ≤ n ∧ k ≤ g ∧ s4 = .int .i64 ((k : Int) - 1) ∧ cnt + k ≤ n ∧ wr.ownsMap Tryz.prog 3 (plainElem Tryz.prog 9) p cnt (backD (l.drop k)) ∧ wr.heap[w.heap.size]? = some (.cells #[.slice a n c] 24) ∧ Below w.heap.size w wr)
  case atStart => exact ⟨n, 0, Nat.le_refl _, Nat.le_refl _, rfl, by omega, by rw [List.drop_of_length_le (by omega)]; exact hX, q0, hb0⟩
  case round =>
    obtain ⟨k, cnt, hk, hg, rfl, hcnt, hX, q0, hb⟩ := hrel
    rcases Nat.eq_zero_or_pos k with h0 | h0
    · subst h0
      rw [List.drop_zero] at hX
      go_wp2_with fail
      go_ret
      exact ⟨p, rfl, MapAt.of hX, hb⟩
    · obtain ⟨j, rfl⟩ : ∃ j, k = j + 1 := ⟨k - 1, by omega⟩
      rw [show (((j + 1 : Nat) : Int) - 1) = (j : Int) by omega]
      have hj0 : (0 : Int) ≤ (j : Int) := by omega
      have hjn : (j : Int) < (n : Int) := by omega
      have hbk := back_drop (l := l) (i := j) (by omega)
      obtain ⟨w0, w1', w2'⟩ := hS.sz _ (entAt_mem (l := l) (i := j) (by omega))
      obtain ⟨b, off, rfl, hbl, hc⟩ := hS.cells (by omega)
      obtain ⟨c0, c1⟩ := hc j (by omega)
      rw [← hb.cell (p := ⟨b, off + j * 2, none⟩) hbl] at c0
      rw [← hb.cell (p := ⟨b, off + j * 2 + 1, none⟩) hbl] at c1
      generalize entAt l j = x at c0 c1 hbk w0 w1' w2'
      obtain ⟨key, v⟩ := x
      simp only [putE] at c0 c1 hbk w0 w1' w2'
      clear hc hS
      generalize backD (l.drop (j + 1)) = D at *
      have hM := MapAt.of hX
      have d0 := heap_cell q0 0 _ rfl
      cases hok : (valD D key).isSome
      · rw [hok, if_neg (by simp)] at hbk
        have HB := Lib.hid hbk
        clear hbk
        go_upto_region 7 with (at_lookup; refine wpList_look _ rfl _ _ rfl (some p) D rfl hM key rfl w0 w1' ?_; rw [hok])
        have hS0 : wr.drew.cell? ⟨w.heap.size, 0, none⟩ = some (.slice (some ⟨b, off, none⟩) n c) ∧ wr.drew.cell? ⟨b, off + j * 2, none⟩ = some (.int .i64 key) ∧ wr.drew.cell? ⟨b, off + j * 2 + 1, none⟩ = some (.string v) := ⟨d0, c0, c1⟩
        obtain ⟨w6, hrun, hX6, hg6⟩ := World.ownsMap.update (w := wr.drew) (show World.ownsMap _ _ _ _ _ _ _ from hX) keyed Tryz.underlying64 (by unfold maxLen; omega) (keyIs w0 w1') (plainElem_string Tryz.underlying9 (s := v) (by unfold maxLen; omega))
        have hS6 := held3_grown hp hbl hS0 hg6
        have q6 : w6.heap[w.heap.size]? = some (.cells #[.slice (some ⟨b, off, none⟩) n c] 24) := heap_kept hg6 q0 (fun e => by injection e with e; omega)
        have hb6 := hb.drew.grown hg6 hb.size (fun j hj => by cases hj; omega)
        go_region_held3 (fun w' => w'.cell? ⟨w.heap.size, 0, none⟩ = some (.slice (some ⟨b, off, none⟩) n c) ∧ w'.cell? ⟨b, off + j * 2, none⟩ = some (.int .i64 key) ∧ w'.cell? ⟨b, off + j * 2 + 1, none⟩ = some (.string v))
          (first | assumption)
          (fail)
        clear hS0 hS6
        go_wp2_with fail
        go_roundg j
        case measure => omega
        case rel => exact ⟨j, cnt + 1, by omega, Nat.le_refl _, by go_num, by omega, by rw [HB.out]; exact hX6, q6, hb6⟩
      · rw [hok, if_pos rfl] at hbk
        have HB := Lib.hid hbk
        clear hbk
        go_wp2_with (at_lookup; refine wpList_look _ rfl _ _ rfl (some p) D rfl hM key rfl w0 w1' ?_; rw [hok])
        go_roundg j
        case measure => omega
        case rel => exact ⟨j, cnt, by omega, Nat.le_refl _, by go_num, by omega, by rw [HB.out]; exact hX, q0, hb⟩
end Go.Proofs.YtnemiobgmdpnmagGreatFmt
