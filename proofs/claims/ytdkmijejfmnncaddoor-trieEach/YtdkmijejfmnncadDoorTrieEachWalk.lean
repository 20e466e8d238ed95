/-
  TrieEach's walk: of whatever values and two keys it answers true.
-/
import Derived.Test.YtdkmijejfmnncadDoorTrieTrueMath
import Derived.Test.YtdkmijejfmnncadDoorRooted
import Derived.Test.YtdkmijejfmnncadDoorSlices
import Derived.Test.YtdkmijejfmnncadDoorAt
namespace Go.Proofs.YtdkmijejfmnncadDoor
open Go Go.RowKit Go.Maps

set_option maxRecDepth 100000 in
theorem trieEach_walk (p : Option Nat) (D : DataW Unit) (k1 k2 : Int) (w : World) (hE : Tab w) (hM : MapAt w p D) (hi1 : -9223372036854775808 ≤ k1) (hi2 : k1 ≤ 9223372036854775807) (hj1 : -9223372036854775808 ≤ k2) (hj2 : k2 ≤ 9223372036854775807) :
    Calls Tryd.prog 3 #[.map p, .int .i64 k1, .int .i64 k2] w fun e w' => e = .returned (.bool true) ∧ Below w.heap.size w w' := by
  by_cases h0 : checkE D = 0
  · have hG := (check_iff hM.text).1 h0
    have hr := root_good p D w hE hM hG
    have hilt := atN_lt k1 (n := 16) (by omega)
    have hjlt := atN_lt k2 (n := 16) (by omega)
    have hat1 := fun w' => at_any k1 16 w' (by omega) (by omega) hi1 hi2
    have hat2 := fun w' => at_any k2 16 w' (by omega) (by omega) hj1 hj2
    rw [show ((16 : Nat) : Int) = 16 from rfl] at hat1 hat2
    have hown := shown_just hG hjlt (pathT (valN D) 0 (atN k1 16) 4)
    have hpl1 := pathT_len (valN D) 4 0 (atN k1 16)
    have hpl2 := pathT_len (valN D) 4 0 (atN k2 16)
    have hp1 := fun w' hE hM => path_good p D (atN k1 16) w' hE hM hG hilt
    have hp2 := fun w' hE hM => path_good p D (atN k2 16) w' hE hM hG hjlt
    generalize trieT (valN D) 4 0 = r at *
    generalize pathT (valN D) 0 (atN k1 16) 4 = L1 at *
    generalize pathT (valN D) 0 (atN k2 16) 4 = L2 at *
    generalize atN k1 16 = i at *
    generalize atN k2 16 = j at *
    have HR := Lib.hid hr
    have HA1 := Lib.hid hat1
    have HA2 := Lib.hid hat2
    have HO := Lib.hid hown
    have HP1 := Lib.hid hp1
    have HP2 := Lib.hid hp2
    clear hr hat1 hat2 hown hp1 hp2 h0
    go_enter Tryd.func3, Tryd.ntmps3
    go_wp2_with fail
    refine HR.out.mono ?_
    rintro e w1 ⟨rfl, hb1⟩
    clear HR
    go_wp2_with fail
    refine (rooted_any w1 (hE.on hb1)).mono ?_
    rintro e w2 ⟨rfl, hb2⟩
    have hb2 := below_on hb1 hb2
    clear hb1
    go_wp2_with fail
    refine (HA1.out w2).mono ?_
    rintro e w3 ⟨rfl, rfl⟩
    clear HA1
    go_wp2_with fail
    refine (HA2.out w2).mono ?_
    rintro e w3 ⟨rfl, rfl⟩
    clear HA2
    go_wp2_with fail
    refine (HP1.out w2 (hE.on hb2) (hM.on hb2)).mono ?_
    rintro e w3 ⟨a1, c1, rfl, hS1, hb3⟩
    have hb3 := below_on hb2 hb3
    clear hb2 HP1
    go_wp2_with fail
    refine (HP2.out w3 (hE.on hb3) (hM.on hb3)).mono ?_
    rintro e w4 ⟨a2, c2, rfl, hS2, hb4⟩
    have hS1 := hS1.on hb4
    have hb4 := below_on hb3 hb4
    clear hb3 HP2
    have hM4 := hM.on hb4
    go_wp2_with (at_lookup; refine wpList_look _ rfl _ _ rfl p D rfl hM4 (j : Int) rfl (by omega) (by omega) ?_)
    refine (shows_any r j (valS D j) (valD D j).isSome L1 a1 4 c1 w4 (hE.on hb4) hS1 hpl1).mono ?_
    rintro e w5 ⟨rfl, hb5⟩
    have hS1 := hS1.on hb5
    have hS2 := hS2.on hb5
    have hb5 := below_on hb4 hb5
    have hO := HO.out
    generalize trieE r (j : Int) (valS D j) (valD D j).isSome L1 = E1 at *
    clear hb4 hM4 HO
    go_wp2_with fail
    refine (equal_strs L1 L2 a1 a2 4 c1 4 c2 w5 hpl1 hpl2 hS1 hS2).mono ?_
    rintro e w6 ⟨rfl, hb6⟩
    have hb6 := below_on hb5 hb6
    have hq : (E1 == 0) = decide (L1 = L2) := by rw [Bool.eq_iff_iff, beq_iff_eq, decide_eq_true_eq]; exact hO
    generalize decide (L1 = L2) = d at *
    clear hb5 hO hS1 hS2
    go_wp2_with fail
    go_ret
    exact ⟨rfl, hb6⟩
  · have hr : ∃ c', c' ≠ 0 ∧ checkE D = c' := ⟨_, h0, rfl⟩
    obtain ⟨c', hc0, hc'⟩ := hr
    have HR := Lib.hid (root_bad p D w hM c' hc' hc0)
    clear hc' h0
    go_enter Tryd.func3, Tryd.ntmps3
    go_wp2_with fail
    refine HR.out.mono ?_
    rintro e w1 ⟨rfl, rfl⟩
    go_wp2_with fail
    refine (rooted_any w hE).mono ?_
    rintro e w1 ⟨rfl, hb1⟩
    go_wp2_with fail
    refine (rooted_any w1 (hE.on hb1)).mono ?_
    rintro e w2 ⟨rfl, hb2⟩
    go_wp2_with fail
    go_ret
    exact ⟨rfl, below_on hb1 hb2⟩
end Go.Proofs.YtdkmijejfmnncadDoor
