/-
  The law GrowSays walked: how any list goes on is told, and whether any seals show it, as the document's own reckoning has it.
-/
import Derived.Test.YtccgkfnoijnkcabFmtGrowthShowsOf
import Derived.Test.YtccgkfnoijnkcabFmtGrown
namespace Go.Proofs.YtccgkfnoijnkcabFmt
open Go Go.RowKit Go.Kit Go.Extern.Stop Go.Stop Go.Extern

/- The seals that Of tells, and its error. -/
def goS (l : List ByteArray) (m : Int) : List ByteArray := if rootS l = none ∨ m < 1 ∨ (l.length : Int) < m then [] else growS l m.toNat true
def goE (l : List ByteArray) (m : Int) : Int := if rootS l = none then 2 else if m < 1 ∨ (l.length : Int) < m then 3 else 0

theorem growOf_says (l : List ByteArray) (a : Option Addr) (n c : Nat) (m : Int) (w : World) (hn : l.length = n) (hE : Tab w) (hS : StrsAt w a c l) :
    Calls Tryf.prog 11 #[.slice a n c, .int .i64 m] w fun e w' => ∃ a' c', e = .returned (.tuple #[.slice a' (goS l m).length c', .int .i64 (goE l m)]) ∧ StrsAt w' a' c' (goS l m) ∧ Below w.heap.size w w' := by
  unfold goS goE
  rcases hr : rootS l with _ | r
  · rw [if_pos (Or.inl rfl), if_pos rfl]
    refine (growOf_no l a n c m w hn hE hS hr).mono ?_
    rintro e w1 ⟨rfl, hb1⟩
    exact ⟨none, 0, rfl, strs_none _, hb1⟩
  · by_cases hm : m < 1 ∨ (l.length : Int) < m
    · rw [if_pos (Or.inr hm), if_neg (by simp), if_pos hm]
      refine (growOf_range l a n c m r w hn hE hS hr (by omega)).mono ?_
      rintro e w1 ⟨rfl, hb1⟩
      exact ⟨none, 0, rfl, strs_none _, hb1⟩
    · rw [if_neg (by simp only [reduceCtorEq, false_or]; exact hm), if_neg (by simp), if_neg hm]
      obtain ⟨m', rfl⟩ := Int.eq_ofNat_of_zero_le (a := m) (by omega)
      refine (growOf_ok l a n c m' r w hn hE hS hr (by omega) (by omega)).mono ?_
      rintro e w1 ⟨a1, c1, rfl, _, hP, hb1⟩
      exact ⟨a1, c1, rfl, hP, hb1⟩
theorem growthOf_says (I : Interp) (l : List ByteArray) (a : Option Addr) (n c : Nat) (m : Int) (w : World) (hF : I.told.answers w.tape) (hn : l.length = n) (hS : StrsAt w a c l) :
    Calls Tryf.prog 12 #[.slice a n c, .int .i64 m] w fun e w' => ∃ a' c', e = .returned (.tuple #[.slice a' (goS l m).length c', .int .i64 (goE l m)]) ∧ StrsAt w' a' c' (goS l m) ∧ Below w.heap.size w w' := by
  unfold goS goE
  rcases hr : rootS l with _ | r
  · rw [if_pos (Or.inl rfl), if_pos rfl]
    refine (growthOf_no I l a n c m w hF hn hS hr).mono ?_
    rintro e w1 ⟨rfl, hb1⟩
    exact ⟨none, 0, rfl, strs_none _, hb1⟩
  · by_cases hm : m < 1 ∨ (l.length : Int) < m
    · rw [if_pos (Or.inr hm), if_neg (by simp), if_pos hm]
      refine (growthOf_range I l a n c m r w hF hn hS hr (by omega)).mono ?_
      rintro e w1 ⟨rfl, hb1⟩
      exact ⟨none, 0, rfl, strs_none _, hb1⟩
    · rw [if_neg (by simp only [reduceCtorEq, false_or]; exact hm), if_neg (by simp), if_neg hm]
      obtain ⟨m', rfl⟩ := Int.eq_ofNat_of_zero_le (a := m) (by omega)
      refine (growthOf_ok I l a n c m' r w hF hn hS hr (by omega) (by omega)).mono ?_
      rintro e w1 ⟨a1, c1, rfl, hP, hb1⟩
      exact ⟨a1, c1, rfl, hP, hb1⟩

set_option maxRecDepth 100000 in
set_option maxHeartbeats 400000 in
theorem growSays_walk (I : Interp) (l : List ByteArray) (a : Option Addr) (n c : Nat) (m : Int) (old root : ByteArray) (k : Int) (ss : List ByteArray) (a6 : Option Addr) (n6 c6 : Nat) (W : World) (hE : Tab W) (hF : I.told.answers W.tape) (hn : l.length = n) (hS : StrsAt W a c l)
    (_hm : -9223372036854775808 ≤ m) (_hm' : m ≤ 9223372036854775807) (ho : old.size < 140737488355328) (_hr : root.size < 140737488355328) (_hk : -9223372036854775808 ≤ k) (_hk' : k ≤ 9223372036854775807) (hn6 : ss.length = n6) (hT : StrsAt W a6 c6 ss) (hbig : ∀ s ∈ ss, s.size ≤ 140737488355328) :
    Calls Tryf.prog 4 #[.slice a n c, .int .i64 m, .string old, .string root, .int .i64 k, .slice a6 n6 c6] W fun e w' => e = .returned (.bool true) ∧ Below W.heap.size W w' := by
  have c1 := fun w hE hS => growOf_says l a n c m w hn hE hS
  have c2 := fun w hF hS => growthOf_says I l a n c m w hF hn hS
  have c3 := fun w hE hS => growShows_any old m root k ss a6 n6 c6 w hn6 hE hS (by omega)
  have c4 := fun w hF hS => growthShows_any I old m root k ss a6 n6 c6 w hF (by omega) hbig hn6 hS
  generalize goS l m = P at c1 c2
  generalize goE l m = E at c1 c2
  generalize growE old m root k ss = z at c3 c4
  have hEE : (E == E) = true := by simp
  have hzz : (z == z) = true := by simp
  go_enter Tryf.func4, Tryf.ntmps4
  go_wp2_with fail
  refine (c1 W hE hS).mono ?_
  rintro e w1 ⟨a1, k1, rfl, hP1, hb1⟩
  have hF1 : I.told.answers w1.tape := by rw [hb1.tape]; exact hF
  go_wp2_with fail
  refine (c2 w1 hF1 (hS.on hb1)).mono ?_
  rintro e w2 ⟨a2, k2, rfl, hP2, hb2⟩
  have hP1 := hP1.on hb2
  have hb2 := below_on hb1 hb2
  have hE2 := hE.on hb2
  clear c1 c2 hb1 hF1
  go_wp2_with fail
  refine (grown_any w2 hE2).mono ?_
  rintro e w3 ⟨rfl, hb3⟩
  have hP1 := hP1.on hb3
  have hP2 := hP2.on hb3
  have hb3 := below_on hb2 hb3
  clear hb2 hE2
  go_wp2_with fail
  refine (equal_strs P P a1 a2 _ k1 _ k2 w3 rfl rfl hP1 hP2).mono ?_
  rintro e w4 ⟨rfl, hb4⟩
  have hb4 := below_on hb3 hb4
  have hE4 := hE.on hb4
  clear hb3 hP1 hP2
  rw [decide_eq_true rfl]
  go_wp2_with fail
  refine (c3 w4 hE4 (hT.on hb4)).mono ?_
  rintro e w5 ⟨rfl, hb5⟩
  have hb5 := below_on hb4 hb5
  have hF5 : I.told.answers w5.tape := by rw [hb5.tape]; exact hF
  clear hb4 hE4 c3
  go_wp2_with fail
  refine (c4 w5 hF5 (hT.on hb5)).mono ?_
  rintro e w6 ⟨rfl, hb6⟩
  have hb6 := below_on hb5 hb6
  clear c4
  go_wp2_with fail
  go_ret
  exact ⟨rfl, hb6⟩
end Go.Proofs.YtccgkfnoijnkcabFmt
