/-
  The law PathOther walked: the path of one place shows nothing at another one, but where both texts and all beside are alike.
-/
import Derived.Test.YtpenammonkgkaabDoorPathed
import Derived.Test.YtpenammonkgkaabDoorAt
namespace Go.Proofs.YtpenammonkgkaabDoor
open Go Go.RowKit

set_option maxHeartbeats 400000 in
set_option maxRecDepth 100000 in
theorem pathOther_walk (l : List ByteArray) (a : Option Addr) (n c : Nat) (i j : Int) (W : World) (hE : Tab W) (hn : l.length = n) (hS : StrsAt W a c l) (hi : -9223372036854775808 ≤ i) (hi' : i ≤ 9223372036854775807) (hj : -9223372036854775808 ≤ j) (hj' : j ≤ 9223372036854775807) :
    Calls Tryd.prog 6 #[.slice a n c, .int .i64 i, .int .i64 j] W fun e w' => e = .returned (.bool true) ∧ Below W.heap.size W w' := by
  have hcap := hS.cap
  have hmax := hS.max
  rcases hx : rootS l with _ | r
  · go_enter Tryd.func6, Tryd.ntmps6
    go_wp2_with fail
    refine (root_no l hx a n c W hn hE hS).mono ?_
    rintro e w1 ⟨rfl, hb1⟩
    have hE1 := hE.on hb1
    go_wp2_with fail
    refine (pathed_any w1 hE1).mono ?_
    rintro e w2 ⟨rfl, hb2⟩
    have hb2 := below_on hb1 hb2
    have hE2 := hE.on hb2
    clear hb1 hE1
    go_wp2_with fail
    refine (pathed_any w2 hE2).mono ?_
    rintro e w3 ⟨rfl, hb3⟩
    have hb3 := below_on hb2 hb3
    go_wp2_with fail
    go_ret
    exact ⟨rfl, hb3⟩
  rcases Nat.eq_zero_or_pos n with h0 | h0
  · subst h0
    go_enter Tryd.func6, Tryd.ntmps6
    go_wp2_with fail
    refine (root_ok l r hx a 0 c W hn hE hS).mono ?_
    rintro e w1 ⟨rfl, hb1⟩
    have hE1 := hE.on hb1
    go_wp2_with fail
    refine (pathed_any w1 hE1).mono ?_
    rintro e w2 ⟨rfl, hb2⟩
    have hb2 := below_on hb1 hb2
    have hE2 := hE.on hb2
    clear hb1 hE1
    go_wp2_with fail
    refine (pathed_any w2 hE2).mono ?_
    rintro e w3 ⟨rfl, hb3⟩
    have hb3 := below_on hb2 hb3
    go_wp2_with fail
    go_ret
    exact ⟨rfl, hb3⟩
  have h24 : n ≤ 24 := by rw [← hn]; exact rootS_len hx
  obtain ⟨b, off, rfl, hlt, hc⟩ := hS.cells (by omega)
  have hI := atN_lt i h0
  have hJ := atN_lt j h0
  have atI := fun w => at_any i n w h0 (by omega) hi hi'
  have atJ := fun w => at_any j n w h0 (by omega) hj hj'
  generalize atN i n = I at hI atI
  generalize atN j n = J at hJ atJ
  have hofI := fun w hE hS => of_ok l (some ⟨b, off, none⟩) n c I r w hn hE hS hx hI
  have hofJ := fun w hE hS => of_ok l (some ⟨b, off, none⟩) n c J r w hn hE hS hx hJ
  have hcJ := hc J (by omega)
  have hshow := show_iff (l := l) (r := r) J (l.getD J ByteArray.empty) (pathS l I) (by omega) hx
  rw [hn] at hshow
  generalize l.getD J ByteArray.empty = t at hcJ hshow
  generalize pathS l I = sI at hofI hshow
  generalize pathS l J = sJ at hofJ hshow
  have hiff : showE r n J t sI = 0 ↔ sI = sJ := by rw [hshow]; simp
  have Hiff := Lib.hid hiff
  have hJc : (J : Int) < (n : Int) := by omega
  have hn0 : ¬ n = 0 := by omega
  clear hc hshow hiff hi hi' hj hj'
  go_enter Tryd.func6, Tryd.ntmps6
  go_wp2_with fail
  refine (root_ok l r hx _ n c W hn hE hS).mono ?_
  rintro e w1 ⟨rfl, hb1⟩
  have hE1 := hE.on hb1
  go_wp2_with fail
  refine (pathed_any w1 hE1).mono ?_
  rintro e w2 ⟨rfl, hb2⟩
  have hb2 := below_on hb1 hb2
  have hE2 := hE.on hb2
  clear hb1 hE1
  go_wp2_with fail
  refine (atI w2).mono ?_
  rintro e w3 ⟨rfl, rfl⟩
  go_wp2_with fail
  refine (atJ w2).mono ?_
  rintro e w3 ⟨rfl, rfl⟩
  go_wp2_with fail
  refine (hofI w2 hE2 (hS.on hb2)).mono ?_
  rintro e w3 ⟨a3, c3, rfl, _, hP3, hb3⟩
  have hb3 := below_on hb2 hb3
  have hE3 := hE.on hb3
  clear hb2 hE2
  go_wp2_with fail
  refine (hofJ w3 hE3 (hS.on hb3)).mono ?_
  rintro e w4 ⟨a4, c4, rfl, _, hP4, hb4⟩
  have hP3 := hP3.on hb4
  have hb4 := below_on hb3 hb4
  have hE4 := hE.on hb4
  have hcJ4 : w4.cell? ⟨b, off + J, none⟩ = some (.string t) := by rw [hb4.cell hlt]; exact hcJ
  clear hb3 hE3 atI atJ hofI hofJ hcJ
  go_wp2_with fail
  refine (shows_any r n J t sI a3 _ c3 w4 rfl hE4 hP3).mono ?_
  rintro e w5 ⟨rfl, hb5⟩
  have hP3 := hP3.on hb5
  have hP4 := hP4.on hb5
  have hb5 := below_on hb4 hb5
  clear hb4 hE4 hcJ4
  by_cases hst : sI = sJ
  · have hz := Hiff.out.2 hst
    have Hst := Lib.hid hst
    rw [hz]
    clear hz hst
    go_wp2_with fail
    refine (equal_steps sI sJ a3 a4 _ c3 _ c4 w5 rfl rfl hP3 hP4).mono ?_
    rintro e w6 ⟨rfl, hb6⟩
    have hb6 := below_on hb5 hb6
    rw [decide_eq_true Hst.out]
    go_wp2_with fail
    go_ret
    exact ⟨rfl, hb6⟩
  · have hz : ¬ showE r n J t sI = 0 := fun h => hst (Hiff.out.1 h)
    generalize showE r n J t sI = z at hz
    have hz' : (z == 0) = false := by simpa using hz
    have Hst := Lib.hid hst
    clear hst
    go_wp2_with fail
    refine (equal_steps sI sJ a3 a4 _ c3 _ c4 w5 rfl rfl hP3 hP4).mono ?_
    rintro e w6 ⟨rfl, hb6⟩
    have hb6 := below_on hb5 hb6
    rw [decide_eq_false Hst.out]
    go_wp2_with fail
    go_ret
    exact ⟨rfl, hb6⟩
end Go.Proofs.YtpenammonkgkaabDoor
