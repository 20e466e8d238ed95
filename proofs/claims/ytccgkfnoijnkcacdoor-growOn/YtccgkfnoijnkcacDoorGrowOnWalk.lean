/-
  The law GrowOn walked: who was shown that a list went on twice may be shown so at once; a list goes on where it is by nothing.
-/
import Derived.Test.YtccgkfnoijnkcacDoorGrown
import Derived.Test.YtccgkfnoijnkcacDoorAt
namespace Go.Proofs.YtccgkfnoijnkcacDoor
open Go Go.RowKit

set_option maxHeartbeats 1000000 in
set_option maxRecDepth 100000 in
theorem growOn_walk (l : List ByteArray) (a : Option Addr) (n c : Nat) (i j : Int) (W : World) (hE : Tab W) (hn : l.length = n) (hS : StrsAt W a c l) (hi : -9223372036854775808 ≤ i) (hi' : i ≤ 9223372036854775807) (hj : -9223372036854775808 ≤ j) (hj' : j ≤ 9223372036854775807) :
    Calls Tryd.prog 4 #[.slice a n c, .int .i64 i, .int .i64 j] W fun e w' => e = .returned (.bool true) ∧ Below W.heap.size W w' := by
  have hcap := hS.cap
  have hmax := hS.max
  rcases hx : rootS l with _ | r
  · go_enter Tryd.func4, Tryd.ntmps4
    go_wp2_with fail
    refine (root_no l hx a n c W hn hE hS).mono ?_
    rintro e w1 ⟨rfl, hb1⟩
    have hE1 := hE.on hb1
    go_wp2_with fail
    refine (grown_any w1 hE1).mono ?_
    rintro e w2 ⟨rfl, hb2⟩
    have hb2 := below_on hb1 hb2
    have hE2 := hE.on hb2
    clear hb1 hE1
    go_wp2_with fail
    refine (grown_any w2 hE2).mono ?_
    rintro e w3 ⟨rfl, hb3⟩
    have hb3 := below_on hb2 hb3
    go_wp2_with fail
    go_ret
    exact ⟨rfl, hb3⟩
  rcases Nat.eq_zero_or_pos n with h0 | h0
  · subst h0
    go_enter Tryd.func4, Tryd.ntmps4
    go_wp2_with fail
    refine (root_ok l r hx a 0 c W hn hE hS).mono ?_
    rintro e w1 ⟨rfl, hb1⟩
    have hE1 := hE.on hb1
    go_wp2_with fail
    refine (grown_any w1 hE1).mono ?_
    rintro e w2 ⟨rfl, hb2⟩
    have hb2 := below_on hb1 hb2
    have hE2 := hE.on hb2
    clear hb1 hE1
    go_wp2_with fail
    refine (grown_any w2 hE2).mono ?_
    rintro e w3 ⟨rfl, hb3⟩
    have hb3 := below_on hb2 hb3
    go_wp2_with fail
    go_ret
    exact ⟨rfl, hb3⟩
  have h24 : n ≤ 24 := by rw [← hn]; exact rootS_len hx
  have hrs := rootS_size hx
  obtain ⟨b, off, rfl, hlt, _⟩ := hS.cells (by omega)
  have hI := atN_lt i h0
  have hJ := atN_lt j h0
  have atI := fun w => at_any i n w h0 (by omega) hi hi'
  have atJ := fun w => at_any j n w h0 (by omega) hj hj'
  generalize atN i n = I at hI atI
  generalize atN j n = J at hJ atJ
  obtain ⟨p, q, hp1, hpq, hqn, hor⟩ : ∃ p q : Nat, 1 ≤ p ∧ p ≤ q ∧ q ≤ n ∧ (((1 : Int) + (I : Int) = (p : Int) ∧ (1 : Int) + (J : Int) = (q : Int)) ∨ ((1 : Int) + (I : Int) = (q : Int) ∧ (1 : Int) + (J : Int) = (p : Int))) := by
    rcases Nat.le_total I J with h | h
    · exact ⟨I + 1, J + 1, by omega, by omega, by omega, .inl ⟨by omega, by omega⟩⟩
    · exact ⟨J + 1, I + 1, by omega, by omega, by omega, .inr ⟨by omega, by omega⟩⟩
  obtain ⟨f, hf, _⟩ := root_take l.length l p r (Nat.le_refl _) (by omega) (by omega) hx
  obtain ⟨g, hg, _⟩ := root_take l.length l q r (Nat.le_refl _) (by omega) (by omega) hx
  have hfs := rootS_size hf
  have hgs := rootS_size hg
  have lp : (l.take p).length = p := by rw [List.length_take]; omega
  have lq : (l.take q).length = q := by rw [List.length_take]; omega
  have eqp : (l.take q).take p = l.take p := by rw [List.take_take, Nat.min_eq_left hpq]
  have hSp := hS.take p
  have hSq := hS.take q
  have kA := fun w hE hS => root_ok (l.take p) f hf (some ⟨b, off, none⟩) p c w lp hE hS
  have kB := fun w hE hS => root_ok (l.take q) g hg (some ⟨b, off, none⟩) q c w lq hE hS
  have kC := fun w hE hS => root_ok l r hx (some ⟨b, off, none⟩) n c w hn hE hS
  have kX := fun w hE hS => growOf_ok (l.take q) (some ⟨b, off, none⟩) q c p g w lq hE hS hg hp1 hpq
  have kY := fun w hE hS => growOf_ok l (some ⟨b, off, none⟩) n c q r w hn hE hS hx (by omega) hqn
  have kZ := fun w hE hS => growOf_ok l (some ⟨b, off, none⟩) n c p r w hn hE hS hx hp1 (by omega)
  have s1 : growE f (p : Nat) g ((l.take q).length : Nat) (growS (l.take q) p true) = 0 := (grow_iff f _ hp1 (by omega) hg).2 ⟨by rw [eqp, (root_pos hf).1], rfl⟩
  have s2 : growE g (q : Nat) r (l.length : Nat) (growS l q true) = 0 := (grow_iff g _ (by omega) (by omega) hx).2 ⟨(root_pos hg).1.symm, rfl⟩
  have s3 : growE f (p : Nat) r (l.length : Nat) (growS l p true) = 0 := (grow_iff f _ (by omega) (by omega) hx).2 ⟨(root_pos hf).1.symm, rfl⟩
  have s4 : growE g (q : Nat) g ((l.take q).length : Nat) [] = 0 := (grow_iff g _ (by omega) (by omega) hg).2 ⟨by rw [List.take_take, Nat.min_self, (root_pos hg).1], by rw [growS_all (Or.inr (by omega))]; rfl⟩
  have hlast : p < q ∨ (growS (l.take q) p true).length = 0 := by
    rcases Nat.lt_or_ge p q with h | h
    · exact .inl h
    · right; rw [growS_all (Or.inr (by omega))]; rfl
  rw [lq] at s1 s4
  rw [hn] at s2 s3
  generalize growS (l.take q) p true = X at kX s1 hlast
  generalize growS l q true = Y at kY s2
  generalize growS l p true = Z at kZ s3
  have kS1 := fun a c w hE hS => growShows_any f (p : Int) g (q : Int) X a X.length c w rfl hE hS (by omega)
  have kS2 := fun a c w hE hS => growShows_any g (q : Int) r (n : Int) Y a Y.length c w rfl hE hS (by omega)
  have kS3 := fun a c w hE hS => growShows_any f (p : Int) r (n : Int) Z a Z.length c w rfl hE hS (by omega)
  have kS4 := fun w hE hS => growShows_any g (q : Int) g (q : Int) [] none 0 0 w rfl hE hS (by omega)
  rw [s1] at kS1
  rw [s2] at kS2
  rw [s3] at kS3
  rw [s4] at kS4
  have hn0 : ¬ n = 0 := by omega
  clear s1 s2 s3 s4 hi hi' hj hj' hf hg hx eqp
  have m1 : min (p : Int) (q : Int) = (p : Int) := by omega
  have m2 : max (p : Int) (q : Int) = (q : Int) := by omega
  have m3 : min (q : Int) (p : Int) = (p : Int) := by omega
  have m4 : max (q : Int) (p : Int) = (q : Int) := by omega
  rcases hor with ⟨h1, h2⟩ | ⟨h1, h2⟩
  all_goals
    go_enter Tryd.func4, Tryd.ntmps4
    go_wp2_with fail
    refine (kC W hE hS).mono ?_
    rintro e w1 ⟨rfl, hb1⟩
    go_wp2_with fail
    refine (grown_any w1 (hE.on hb1)).mono ?_
    rintro e w2 ⟨rfl, hb2⟩
    have hb2 := below_on hb1 hb2
    clear hb1
    go_wp2_with fail
    refine (atI w2).mono ?_
    rintro e w3 ⟨rfl, rfl⟩
    go_wp2_with fail
    refine (atJ w2).mono ?_
    rintro e w3 ⟨rfl, rfl⟩
    go_wp2_with fail
    refine (kA w2 (hE.on hb2) (hSp.on hb2)).mono ?_
    rintro e w3 ⟨rfl, hb3⟩
    have hb3 := below_on hb2 hb3
    clear hb2
    go_wp2_with fail
    refine (kB w3 (hE.on hb3) (hSq.on hb3)).mono ?_
    rintro e w4 ⟨rfl, hb4⟩
    have hb4 := below_on hb3 hb4
    clear hb3
    go_wp2_with fail
    refine (kC w4 (hE.on hb4) (hS.on hb4)).mono ?_
    rintro e w5 ⟨rfl, hb5⟩
    have hb5 := below_on hb4 hb5
    clear hb4
    go_wp2_with fail
    refine (kX w5 (hE.on hb5) (hSq.on hb5)).mono ?_
    rintro e w6 ⟨a6, c6, rfl, _, hP6, hb6⟩
    have hb6 := below_on hb5 hb6
    clear hb5
    go_wp2_with fail
    refine (kY w6 (hE.on hb6) (hS.on hb6)).mono ?_
    rintro e w7 ⟨a7, c7, rfl, _, hP7, hb7⟩
    have hP6 := hP6.on hb7
    have hb7 := below_on hb6 hb7
    clear hb6
    go_wp2_with fail
    refine (kZ w7 (hE.on hb7) (hS.on hb7)).mono ?_
    rintro e w8 ⟨a8, c8, rfl, _, hP8, hb8⟩
    have hP6 := hP6.on hb8
    have hP7 := hP7.on hb8
    have hb8 := below_on hb7 hb8
    clear hb7 kA kB kC kX kY kZ atI atJ
    go_wp2_with fail
    refine (kS1 a6 c6 w8 (hE.on hb8) hP6).mono ?_
    rintro e w9 ⟨rfl, hb9⟩
    have hP7 := hP7.on hb9
    have hP8 := hP8.on hb9
    have hb9 := below_on hb8 hb9
    clear hb8 hP6
    go_wp2_with fail
    refine (kS2 a7 c7 w9 (hE.on hb9) hP7).mono ?_
    rintro e w10 ⟨rfl, hb10⟩
    have hP8 := hP8.on hb10
    have hb10 := below_on hb9 hb10
    clear hb9 hP7
    go_wp2_with fail
    refine (kS3 a8 c8 w10 (hE.on hb10) hP8).mono ?_
    rintro e w11 ⟨rfl, hb11⟩
    have hb11 := below_on hb10 hb11
    clear hb10 hP8
    go_wp2_with fail
    refine (kS4 w11 (hE.on hb11) (strs_none _)).mono ?_
    rintro e w12 ⟨rfl, hb12⟩
    have hb12 := below_on hb11 hb12
    clear hb11
    rcases hlast with hlt2 | hX0
    · have hlt3 : (p : Int) < (q : Int) := by omega
      go_wp2_with fail
      go_ret
      exact ⟨rfl, hb12⟩
    · have hX1 : (X.length : Int) = 0 := by omega
      go_wp2_with fail
      all_goals
        go_ret
        exact ⟨rfl, hb12⟩
end Go.Proofs.YtccgkfnoijnkcacDoor
