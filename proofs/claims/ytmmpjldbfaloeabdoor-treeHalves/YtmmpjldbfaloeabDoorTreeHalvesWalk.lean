/-
  The law TreeHalves walked: a list's seal is that of its halves.
-/
import Derived.Test.YtmmpjldbfaloeabDoorPlanted
namespace Go.Proofs.YtmmpjldbfaloeabDoor
open Go Go.RowKit

theorem halfN_more {n : Nat} (h : n ≤ 24) : n - halfN n ≤ halfN n := by unfold halfN; split <;> (try split) <;> (try split) <;> (try split) <;> omega
theorem halfN_cases (n : Nat) : halfN n = 1 ∨ halfN n = 2 ∨ halfN n = 4 ∨ halfN n = 8 ∨ halfN n = 16 := by unfold halfN; split <;> (try split) <;> (try split) <;> (try split) <;> omega

theorem treeHalves_walk (l : List ByteArray) (a : Option Addr) (n c : Nat) (W : World) (hE : Env W) (hn : l.length = n) (hS : StrsAt W a c l) :
    Calls Tryd.prog 3 #[.slice a n c] W fun e w' => e = .returned (.bool true) ∧ Below W.heap.size W w' := by
  have hcap := hS.cap
  have hmax := hS.max
  rcases hx : rootS l with _ | x
  · go_enter Tryd.func3, Tryd.ntmps3
    go_wp2_with fail
    refine (root_no l hx a n c W hn hE.toTab hS).mono ?_
    rintro e w1 ⟨rfl, hb1⟩
    have hE1 := hE.on hb1
    go_wp2_with fail
    refine (planted_any w1 hE1.toTab).mono ?_
    rintro e w2 ⟨rfl, hb2⟩
    have hb2 := below_on hb1 hb2
    have hE2 := hE.on hb2
    clear hb1 hE1
    go_wp2_with fail
    refine (planted_any w2 hE2.toTab).mono ?_
    rintro e w3 ⟨rfl, hb3⟩
    have hb3 := below_on hb2 hb3
    go_wp2_with fail
    go_ret
    exact ⟨rfl, hb3⟩
  rcases Nat.lt_or_ge n 2 with h2 | h2
  · go_enter Tryd.func3, Tryd.ntmps3
    go_wp2_with fail
    refine (root_ok l x hx a n c W hn hE.toTab hS).mono ?_
    rintro e w1 ⟨rfl, hb1⟩
    have hE1 := hE.on hb1
    go_wp2_with fail
    refine (planted_any w1 hE1.toTab).mono ?_
    rintro e w2 ⟨rfl, hb2⟩
    have hb2 := below_on hb1 hb2
    have hE2 := hE.on hb2
    clear hb1 hE1
    go_wp2_with fail
    refine (planted_any w2 hE2.toTab).mono ?_
    rintro e w3 ⟨rfl, hb3⟩
    have hb3 := below_on hb2 hb3
    go_wp2_with fail
    go_ret
    exact ⟨rfl, hb3⟩
  obtain ⟨h24, u, v, hu, hv, hnode⟩ := rootS_some_two (by omega) hx
  obtain ⟨b, off, rfl, hlt, hc⟩ := hS.cells (by omega)
  rw [hn] at hu hv h24
  have hh := halfN_lt h2
  have hp := halfN_pos n
  have hm := halfN_more h24
  have hne : ¬ c = halfN n := by omega
  have l1 : (l.take (halfN n)).length = halfN n := by rw [List.length_take]; omega
  have l2 : (l.drop (halfN n)).length = n - halfN n := by rw [List.length_drop]; omega
  have hS1 := hS.take (halfN n)
  have hS2 := hS.drop (halfN n)
  have hbit : (bits .and .i64 (halfN n : Int) ((halfN n : Int) - 1) != 0) = false := by
    rcases halfN_cases n with h | h | h | h | h <;> rw [h] <;> decide
  have hd1 : decide ((halfN n : Int) < 1) = false := decide_eq_false (by omega)
  have hd2 : decide (n ≤ halfN n) = false := decide_eq_false (by omega)
  have hd3 : decide ((halfN n : Int) < (n : Int) - (halfN n : Int)) = false := decide_eq_false (by omega)
  clear hc
  obtain ⟨hsz, rfl⟩ := nodeO_some hnode
  have hsp := splitS_node u v (by omega)
  have k1 : (u.toList == u.toList) = true := str_eq rfl
  have k2 : (v.toList == v.toList) = true := str_eq rfl
  go_enter Tryd.func3, Tryd.ntmps3
  go_wp2_with fail
  refine (root_ok l _ hx _ n c W hn hE.toTab hS).mono ?_
  rintro e w1 ⟨rfl, hb1⟩
  have hE1 := hE.on hb1
  go_wp2_with fail
  refine (planted_any w1 hE1.toTab).mono ?_
  rintro e w2 ⟨rfl, hb2⟩
  have hb2 := below_on hb1 hb2
  have hE2 := hE.on hb2
  clear hb1 hE1
  go_wp2_with fail
  refine (half_ok n w2 h2 h24).mono ?_
  rintro e w3 ⟨rfl, rfl⟩
  go_wp2_with fail
  refine (root_ok _ u hu _ _ _ w2 l1 hE2.toTab (hS1.on hb2)).mono ?_
  rintro e w4 ⟨rfl, hb4⟩
  have hb4 := below_on hb2 hb4
  have hE4 := hE.on hb4
  clear hb2 hE2
  go_wp2_with fail
  refine (root_ok _ v hv _ _ _ w4 l2 hE4.toTab (hS2.on hb4)).mono ?_
  rintro e w5 ⟨rfl, hb5⟩
  have hb5 := below_on hb4 hb5
  have hE5 := hE.on hb5
  clear hb4 hE4
  go_wp2_with fail
  have hbig := rootS_size hx
  refine (split_ok (nodeS u v) u v w5 hE5 (by omega) hsp).mono ?_
  rintro e w6 ⟨rfl, hb6⟩
  have hb6 := below_on hb5 hb6
  go_wp2_with fail
  go_ret
  exact ⟨rfl, hb6⟩
end Go.Proofs.YtmmpjldbfaloeabDoor
