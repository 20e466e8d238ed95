/-
  The heads of a book's beginnings in memory, three cells each; slices.Contains finds no head of another number of entries among them.
-/
import Derived.Test.YtbpheklfdakikadDoorBookHead
import Derived.Test.YtbpheklfdakikadDoorHeadAny
import Derived.Test.YtbpheklfdakikadDoorNote
import Derived.Deep.LoopGhost
namespace Go.Proofs.YtbpheklfdakikadDoor
open Go Go.RowKit Go.Maps

def headAt (l : List EntB) (k : Nat) : List Value := [.int .i64 (k : Int), .string (headLog (l.take k)), .string (headMap (l.take k))]
def headCells (l : List EntB) : Nat → List Value
  | 0 => []
  | k + 1 => headCells l k ++ headAt l k
theorem headCells_len (l : List EntB) : ∀ k, (headCells l k).length = k * 3
  | 0 => rfl
  | k + 1 => by
    rw [headCells, List.length_append, headCells_len l k]
    simp [headAt]
    omega
theorem headCells_at (l : List EntB) : ∀ (k j : Nat), j < k → (headCells l k)[j * 3]? = some (.int .i64 (j : Int)) ∧ (headCells l k)[j * 3 + 1]? = some (.string (headLog (l.take j))) ∧ (headCells l k)[j * 3 + 2]? = some (.string (headMap (l.take j)))
  | k + 1, j, h => by
    have hl := headCells_len l k
    rcases Nat.lt_or_ge j k with hj | hj
    · have := headCells_at l k j hj
      rw [headCells, List.getElem?_append_left (by omega), List.getElem?_append_left (by omega), List.getElem?_append_left (by omega)]
      exact this
    · obtain rfl : j = k := by omega
      rw [headCells, List.getElem?_append_right (by omega), List.getElem?_append_right (by omega), List.getElem?_append_right (by omega), hl, show j * 3 - j * 3 = 0 by omega, show j * 3 + 1 - j * 3 = 1 by omega, show j * 3 + 2 - j * 3 = 2 by omega]
      exact ⟨rfl, rfl, rfl⟩
theorem headAt_one (l : List EntB) (k : Nat) : ∀ u ∈ headAt l k, u.oneCell' = true := by
  intro u hu
  simp only [headAt, List.mem_cons, List.not_mem_nil, or_false] at hu
  rcases hu with rfl | rfl | rfl <;> rfl

structure HeadsAt (w : World) (a : Option Addr) (c : Nat) (l : List EntB) (k : Nat) : Prop where
  cap : k ≤ c
  max : c ≤ 9223372036854775807
  cells : 0 < k → ∃ b, a = some ⟨b, 0, none⟩ ∧ ∀ j, j < k → w.cell? ⟨b, j * 3, none⟩ = some (.int .i64 (j : Int)) ∧ w.cell? ⟨b, j * 3 + 1, none⟩ = some (.string (headLog (l.take j))) ∧ w.cell? ⟨b, j * 3 + 2, none⟩ = some (.string (headMap (l.take j)))
theorem heads_own {w : World} {base : Nat} {e : TypeId} {v : Value} {k : Nat} {l : List EntB} (h : w.ownsRow base e 3 v k (headCells l k)) : ∃ a c, v = .slice a k c ∧ HeadsAt w a c l k := by
  rcases h.2 with ⟨rfl, rfl⟩ | ⟨g, cap, cur, rfl, hb, hg, hnc, hm, hsz, hcur⟩
  · exact ⟨none, 0, rfl, Nat.le_refl _, by omega, fun h => absurd h (Nat.not_lt_zero _)⟩
  · refine ⟨_, cap, rfl, hnc, hm, fun _ => ⟨g, rfl, fun j hj => ?_⟩⟩
    have key : ∀ i, i < k * 3 → w.cell? ⟨g, i, none⟩ = (headCells l k)[i]? := by
      intro i hi
      unfold World.cell?
      simp only [hg]
      rw [← hcur, List.getElem?_take, if_pos hi, Array.getElem?_toList]
      simp
    rw [key _ (by omega), key _ (by omega), key _ (by omega)]
    exact headCells_at l k j hj
theorem cell_on {w w' : World} (hb : Below w.heap.size w w') {g j : Nat} {v : Value} (h : w.cell? ⟨g, j, none⟩ = some v) : w'.cell? ⟨g, j, none⟩ = some v := by
  have hlt : g < w.heap.size := by
    refine Classical.byContradiction fun hn => ?_
    have : w.cell? ⟨g, j, none⟩ = none := by
      unfold World.cell?
      rw [Array.getElem?_eq_none (by simpa using hn)]
    rw [this] at h
    cases h
  rw [hb.cell hlt]
  exact h
theorem HeadsAt.on {w w' : World} {a : Option Addr} {c : Nat} {l : List EntB} {k : Nat} (h : HeadsAt w a c l k) (hb : Below w.heap.size w w') : HeadsAt w' a c l k := by
  refine ⟨h.cap, h.max, fun hp => ?_⟩
  obtain ⟨b, ha, hc⟩ := h.cells hp
  exact ⟨b, ha, fun j hj => ⟨cell_on hb (hc j hj).1, cell_on hb (hc j hj).2.1, cell_on hb (hc j hj).2.2⟩⟩

set_option maxHeartbeats 1000000 in
set_option maxRecDepth 100000 in
theorem index_none (l : List EntB) (a : Option Addr) (c k : Nat) (s t : ByteArray) (w : World) (hH : HeadsAt w a c l k) :
    Calls Tryd.prog 38 #[.slice a k c, .agg #[.int .i64 (k : Int), .string s, .string t]] w fun e w' => e = .returned (.int .i64 (-1)) ∧ Below w.heap.size w w' := by
  have hcap := hH.cap
  have hmax := hH.max
  have q0 := heap_push w (.cells #[.int .i64 (k : Int), .string s, .string t] 41)
  have hb0 : Below w.heap.size w (w.alloc (.cells #[.int .i64 (k : Int), .string s, .string t] 41)) := (Below.refl _ _).alloc (Nat.le_refl _) _
  go_enter Tryd.func38, Tryd.ntmps38
  go_wp2_with fail
  generalize (w.alloc (.cells #[.int .i64 (k : Int), .string s, .string t] 41)) = W at q0 hb0 ⊢
  go_loopg [8] k (fun g s8 wr => ∃ i : Nat, i ≤ k ∧ k - i ≤ g ∧ s8 = .int .i64 i ∧ Below w.heap.size w wr ∧ wr.heap[w.heap.size]? = some (.cells #[.int .i64 (k : Int), .string s, .string t] 41))
  case atStart => exact ⟨0, Nat.zero_le _, by omega, rfl, hb0, q0⟩
  case round =>
    obtain ⟨i, hi, hg, rfl, hb, q1⟩ := hrel
    by_cases hlt : i < k
    · obtain ⟨b, rfl, hc⟩ := (hH.on hb).cells (by omega)
      obtain ⟨c0, c1, c2⟩ := hc i hlt
      generalize headLog (l.take i) = x at c1
      generalize headMap (l.take i) = y at c2
      have k0 := heap_cell q1 0 _ rfl
      have k1 := heap_cell q1 1 _ rfl
      have k2 := heap_cell q1 2 _ rfl
      have hne : ((k : Int) == (i : Int)) = false := by simp only [beq_eq_false_iff_ne, ne_eq]; omega
      have hkc : (i : Int) < (k : Int) := by omega
      clear hc
      go_wp2_with fail
      go_quiet (fail)
      go_wp2_with fail
      go_roundg (k - (i + 1))
      case measure => omega
      case rel => exact ⟨i + 1, by omega, Nat.le_refl _, by go_num, below_drewN hb nq, q1⟩
    · obtain rfl : i = k := by omega
      go_wp2_with fail
      go_ret
      exact ⟨rfl, hb⟩
set_option maxRecDepth 100000 in
theorem contains_none (l : List EntB) (a : Option Addr) (c k : Nat) (s t : ByteArray) (w : World) (hH : HeadsAt w a c l k) :
    Calls Tryd.prog 22 #[.slice a k c, .agg #[.int .i64 (k : Int), .string s, .string t]] w fun e w' => e = .returned (.bool false) ∧ Below w.heap.size w w' := by
  have hb0 : Below w.heap.size w (w.alloc (.cells #[.int .i64 (k : Int), .string s, .string t] 41)) := (Below.refl _ _).alloc (Nat.le_refl _) _
  go_enter Tryd.func22, Tryd.ntmps22
  go_wp2_with fail
  generalize (w.alloc (.cells #[.int .i64 (k : Int), .string s, .string t] 41)) = W at hb0 ⊢
  refine (index_none l a c k s t W (hH.on hb0)).mono ?_
  rintro e w1 ⟨rfl, hb1⟩
  have hb1 := below_on hb0 hb1
  go_wp2_with fail
  go_ret
  exact ⟨rfl, hb1⟩
end Go.Proofs.YtbpheklfdakikadDoor
