/-
  Package path's sides: on which side the steps above a text stand, a slice of its own memory.
-/
import Derived.Test.YtolgikojliedlaeDoorSteps
namespace Go.Proofs.YtolgikojliedlaeDoor
open Go Go.RowKit

theorem infoBool : (Tryd.prog.info? 4).map (fun i => (i.zero, i.size, i.bytes)) = some (some (.bool false), 1, 1) := by kernel_rfl

def SidesIs (k : Nat) : Prop := ∀ (n i : Nat) (w : World), n ≤ k → 1 ≤ n → n ≤ 24 → i < n →
    Calls Tryd.prog 36 #[.int .i64 (n : Int), .int .i64 (i : Int)] w fun e w' => ∃ a c, e = .returned (.slice a (sidesN n i).length c) ∧ w'.ownsRow w.heap.size 4 1 (.slice a (sidesN n i).length c) (sidesN n i).length ((sidesN n i).map Value.bool) ∧ Below w.heap.size w w'

set_option maxRecDepth 100000 in
theorem sides_is (k : Nat) : SidesIs k := by
  induction k with
  | zero => intro n i w hk h1; omega
  | succ k ih =>
    intro n i w hk h1 h24 hi
    rcases Nat.lt_or_ge 1 n with h2 | h2
    · have hh := halfN_lt h2
      have hp := halfN_pos n
      obtain ⟨i0, hi0, hz0, hz1, hz2⟩ := info_parts infoBool
      rcases Nat.lt_or_ge i (halfN n) with hlow | hhigh
      · have ihc := ih (halfN n) i w (by omega) (by omega) (by omega) hlow
        have hle := sidesN_le (n := halfN n) (i := i) (by omega)
        rw [sidesN_low h2 hlow]
        generalize sidesN (halfN n) i = L at ihc hle
        go_enter Tryd.func36, Tryd.ntmps36
        go_wp2_with fail
        refine (half_ok n w h2 h24).mono ?_
        rintro e w1 ⟨rfl, rfl⟩
        go_wp2_with fail
        refine ihc.mono ?_
        rintro e w1 ⟨a, c, rfl, hown, hb⟩
        go_wp2_with (at_builtin; refine wpList_append_lies _ rfl _ _ 78 rfl w.heap.size 4 i0 (.bool false) 1 1 Tryd.underlying78 hi0 hz0 hz1 hz2 rfl (by decide) _ _ _ rfl (hown.alloc _) ⟨w1.heap.size, 0, none⟩ 1 1 [.bool false] rfl rfl ?c1 ?c2 (by omega) ?c3 ?c4 ?c5 _ rfl ?_)
        case c1 => exact World.news_of_block (cs := #[.bool false]) (t := 4) (fr := (0, 0)) (by show (w1.heap.push _)[w1.heap.size]? = _; simp)
        case c2 => intro u hu; rw [List.mem_singleton.1 hu]; rfl
        case c3 => unfold maxLen; omega
        case c4 => omega
        case c5 => show _ ≤ (w1.heap.push _).size; rw [Array.size_push]; have := hb.size; omega
        intro g cap w2 hown2 hgrow hat hlt
        have hb2 := own_below hb hb.size hown (Nat.le_refl _) hgrow
        go_wp2_with fail
        go_ret
        refine ⟨some ⟨g, 0, none⟩, cap, ?_, ?_, hb2⟩
        · rw [List.length_append]; rfl
        · rw [List.length_append, List.map_append]; exact hown2
      · have ihc := ih (n - halfN n) (i - halfN n) w (by omega) (by omega) (by omega) (by omega)
        have hle := sidesN_le (n := n - halfN n) (i := i - halfN n) (by omega)
        rw [sidesN_high h2 hhigh]
        generalize sidesN (n - halfN n) (i - halfN n) = L at ihc hle
        rw [show ((n - halfN n : Nat) : Int) = (n : Int) - (halfN n : Int) by omega, show ((i - halfN n : Nat) : Int) = (i : Int) - (halfN n : Int) by omega] at ihc
        go_enter Tryd.func36, Tryd.ntmps36
        go_wp2_with fail
        refine (half_ok n w h2 h24).mono ?_
        rintro e w1 ⟨rfl, rfl⟩
        go_wp2_with fail
        refine ihc.mono ?_
        rintro e w1 ⟨a, c, rfl, hown, hb⟩
        go_wp2_with (at_builtin; refine wpList_append_lies _ rfl _ _ 78 rfl w.heap.size 4 i0 (.bool false) 1 1 Tryd.underlying78 hi0 hz0 hz1 hz2 rfl (by decide) _ _ _ rfl (hown.alloc _) ⟨w1.heap.size, 0, none⟩ 1 1 [.bool true] rfl rfl ?c1 ?c2 (by omega) ?c3 ?c4 ?c5 _ rfl ?_)
        case c1 => exact World.news_of_block (cs := #[.bool true]) (t := 4) (fr := (0, 0)) (by show (w1.heap.push _)[w1.heap.size]? = _; simp)
        case c2 => intro u hu; rw [List.mem_singleton.1 hu]; rfl
        case c3 => unfold maxLen; omega
        case c4 => omega
        case c5 => show _ ≤ (w1.heap.push _).size; rw [Array.size_push]; have := hb.size; omega
        intro g cap w2 hown2 hgrow hat hlt
        have hb2 := own_below hb hb.size hown (Nat.le_refl _) hgrow
        go_wp2_with fail
        go_ret
        refine ⟨some ⟨g, 0, none⟩, cap, ?_, ?_, hb2⟩
        · rw [List.length_append]; rfl
        · rw [List.length_append, List.map_append]; exact hown2
    · obtain rfl : n = 1 := by omega
      rw [sidesN_one (Nat.le_refl _)]
      go_enter Tryd.func36, Tryd.ntmps36
      go_wp2_with fail
      refine (half_no 1 w (by omega)).mono ?_
      rintro e w1 ⟨rfl, rfl⟩
      go_wp2_with fail
      go_ret
      exact ⟨none, 0, rfl, World.ownsRow_nil _ _ _ _, Below.refl _ _⟩

theorem sides_any (n i : Nat) (w : World) (h1 : 1 ≤ n) (h24 : n ≤ 24) (hi : i < n) :
    Calls Tryd.prog 36 #[.int .i64 (n : Int), .int .i64 (i : Int)] w fun e w' => ∃ a c, e = .returned (.slice a (sidesN n i).length c) ∧ w'.ownsRow w.heap.size 4 1 (.slice a (sidesN n i).length c) (sidesN n i).length ((sidesN n i).map Value.bool) ∧ Below w.heap.size w w' :=
  sides_is n n i w (Nat.le_refl _) h1 h24 hi
end Go.Proofs.YtolgikojliedlaeDoor
