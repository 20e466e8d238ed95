/-
  The law PathTrue walked: no steps show another text at a place of a list, and the path of a text shows it.
-/
import Derived.Test.YtpenammonkgkaabDoorPathed
import Derived.Test.YtpenammonkgkaabDoorAt
import Derived.Lib.QuietBelow
namespace Go.Proofs.YtpenammonkgkaabDoor
open Go Go.RowKit

theorem pathTrue_none (l : List ByteArray) (a : Option Addr) (n c : Nat) (i : Int) (text : ByteArray) (v : Value) (W : World) (hE : Tab W) (hn : l.length = n) (hS : StrsAt W a c l) (hx : rootS l = none ∨ n = 0) :
    Calls Tryd.prog 4 #[.slice a n c, .int .i64 i, .string text, v] W fun e w' => e = .returned (.bool true) ∧ Below W.heap.size W w' := by
  have hcap := hS.cap
  have hmax := hS.max
  rcases hr : rootS l with _ | r
  · clear hx
    go_enter Tryd.func4, Tryd.ntmps4
    go_wp2_with fail
    refine (root_no l hr a n c W hn hE hS).mono ?_
    rintro e w1 ⟨rfl, hb1⟩
    have hE1 := hE.on hb1
    go_wp2_with fail
    refine (pathed_any w1 hE1).mono ?_
    rintro e w2 ⟨rfl, hb2⟩
    have hb2 := below_on hb1 hb2
    have hE2 := hE.on hb2
    clear hb1 hE1
    go_wp2_with fail
    refine (pathed_any w2 hE2).mono ?_
    rintro e w3 ⟨rfl, hb3⟩
    have hb3 := below_on hb2 hb3
    go_wp2_with fail
    go_ret
    exact ⟨rfl, hb3⟩
  · obtain rfl : n = 0 := by
      rcases hx with hx | hx
      · rw [hr] at hx; cases hx
      · exact hx
    clear hx
    go_enter Tryd.func4, Tryd.ntmps4
    go_wp2_with fail
    refine (root_ok l r hr a 0 c W hn hE hS).mono ?_
    rintro e w1 ⟨rfl, hb1⟩
    have hE1 := hE.on hb1
    go_wp2_with fail
    refine (pathed_any w1 hE1).mono ?_
    rintro e w2 ⟨rfl, hb2⟩
    have hb2 := below_on hb1 hb2
    have hE2 := hE.on hb2
    clear hb1 hE1
    go_wp2_with fail
    refine (pathed_any w2 hE2).mono ?_
    rintro e w3 ⟨rfl, hb3⟩
    have hb3 := below_on hb2 hb3
    go_wp2_with fail
    go_ret
    exact ⟨rfl, hb3⟩

set_option maxRecDepth 100000 in
set_option maxHeartbeats 400000 in
theorem pathTrue_walk (l : List ByteArray) (a : Option Addr) (n c : Nat) (i : Int) (text : ByteArray) (ss : List StepB) (at3 : Option Addr) (ns cs : Nat) (W : World) (hE : Tab W) (hn : l.length = n) (hS : StrsAt W a c l) (hi : -9223372036854775808 ≤ i) (hi' : i ≤ 9223372036854775807) (_ht : text.size ≤ 9223372036854775807) (hns : ss.length = ns) (hT : StepsAt W at3 cs ss) :
    Calls Tryd.prog 4 #[.slice a n c, .int .i64 i, .string text, .slice at3 ns cs] W fun e w' => e = .returned (.bool true) ∧ Below W.heap.size W w' := by
  by_cases h00 : rootS l = none ∨ n = 0
  · exact pathTrue_none l a n c i text _ W hE hn hS h00
  have hcap := hS.cap
  have hmax := hS.max
  rcases hx : rootS l with _ | r
  · exact absurd (Or.inl hx) h00
  have h0 : 0 < n := by omega
  have h24 : n ≤ 24 := by rw [← hn]; exact rootS_len hx
  obtain ⟨b, off, rfl, hlt, hc⟩ := hS.cells (by omega)
  have hI := atN_lt i h0
  have atI := fun w => at_any i n w h0 (by omega) hi hi'
  generalize atN i n = I at hI atI
  have hofI := fun w hE hS => of_ok l (some ⟨b, off, none⟩) n c I r w hn hE hS hx hI
  have hcI := hc I (by omega)
  have s1 := show_iff (l := l) (r := r) I text ss (by omega) hx
  have s2 := show_iff (l := l) (r := r) I (l.getD I ByteArray.empty) (pathS l I) (by omega) hx
  have s3 := show_iff (l := l) (r := r) I text (pathS l I) (by omega) hx
  rw [hn] at s1 s2 s3
  generalize l.getD I ByteArray.empty = t at hcI s1 s2 s3
  generalize pathS l I = sI at hofI s1 s2 s3
  have z2 : showE r n I t sI = 0 := s2.2 ⟨rfl, rfl⟩
  have c1 := fun w hE hS => shows_any r n I text ss at3 ns cs w hns hE hS
  have c2 := fun a c w hE hS => shows_any r n I t sI a sI.length c w rfl hE hS
  have c3 := fun a c w hE hS => shows_any r n I text sI a sI.length c w rfl hE hS
  rw [z2] at c2
  clear s2 z2
  generalize showE r n I text ss = z1 at c1 s1
  generalize showE r n I text sI = z3 at c3 s3
  have hq : ∃ bz bt : Bool, (z1 == 0) = bz ∧ (text.toList == t.toList) = bt ∧ (z3 == 0) = bt ∧ (bz = true → bt = true) := by
    by_cases htt : text = t
    · refine ⟨z1 == 0, true, rfl, str_eq htt, ?_, fun _ => rfl⟩
      have := s3.2 ⟨htt, rfl⟩
      simp [this]
    · refine ⟨false, false, ?_, str_ne htt, ?_, fun h => h⟩
      · simp only [beq_eq_false_iff_ne, ne_eq]; exact fun h => htt (s1.1 h).1
      · simp only [beq_eq_false_iff_ne, ne_eq]; exact fun h => htt (s3.1 h).1
  have hIc : (I : Int) < (n : Int) := by omega
  have hn0 : ¬ n = 0 := by omega
  clear hc s1 s3 hi hi' h00
  obtain ⟨bz, bt, q1, q2, q3, q4⟩ := hq
  cases bz <;> cases bt
  case true.false => exact absurd (q4 rfl) (by decide)
  all_goals
    clear q4
    go_enter Tryd.func4, Tryd.ntmps4
    go_wp2_with fail
    refine (root_ok l r hx _ n c W hn hE hS).mono ?_
    rintro e w1 ⟨rfl, hb1⟩
    have hE1 := hE.on hb1
    go_wp2_with fail
    refine (pathed_any w1 hE1).mono ?_
    rintro e w2 ⟨rfl, hb2⟩
    have hb2 := below_on hb1 hb2
    have hE2 := hE.on hb2
    clear hb1 hE1
    go_wp2_with fail
    refine (atI w2).mono ?_
    rintro e w3 ⟨rfl, rfl⟩
    go_wp2_with fail
    refine (c1 w2 hE2 (hT.on hb2)).mono ?_
    rintro e w3 ⟨rfl, hb3⟩
    have hb3 := below_on hb2 hb3
    have hE3 := hE.on hb3
    have hcI3 : w3.cell? ⟨b, off + I, none⟩ = some (.string t) := by rw [hb3.cell hlt]; exact hcI
    clear hb2 hE2 atI c1
    go_wp2_with fail
    refine (hofI w3 hE3 (hS.on hb3)).mono ?_
    rintro e w4 ⟨a4, c4, rfl, _, hP4, hb4⟩
    have hb4 := below_on hb3 hb4
    have hE4 := hE.on hb4
    have hcI4 : w4.cell? ⟨b, off + I, none⟩ = some (.string t) := by rw [hb4.cell hlt]; exact hcI
    clear hb3 hE3 hcI3 hofI
    go_wp2_with fail
    refine (c2 a4 c4 w4 hE4 hP4).mono ?_
    rintro e w5 ⟨rfl, hb5⟩
    have hP5 := hP4.on hb5
    have hb5 := below_on hb4 hb5
    have hE5 := hE.on hb5
    have hcI5 : w5.cell? ⟨b, off + I, none⟩ = some (.string t) := by rw [hb5.cell hlt]; exact hcI
    clear hb4 hE4 hcI4 c2 hP4
    go_wp2_with fail
    have cF := Lib.hid (fun d os => Calls.regrown_of (c3 a4 c4 (Sort.grow (redrawn w5 d) os) (hE5.on (below_regrown w5 d os)) (hP5.on (below_regrown w5 d os))))
    have hcell := fun d os => cell_regrown hcI5 d os
    clear c3 hcI hcI5
    refine wp_region_quiet_below (by kernel_rfl) (by kernel_rfl) ?_
    repeat (first | go_big_quiet_step (exact cF.out _ _) | quiet_step (exact cF.out _ _))
    refine wpQuiet_nil ?_
    intro _ hw'
    obtain ⟨⟨dq, osq⟩, hw''⟩ := hw'
    subst hw''
    have hbq := below_on hb5 (below_regrown w5 dq osq)
    clear cF hcell
    go_wp2_with fail
    go_ret
    exact ⟨rfl, hbq⟩
end Go.Proofs.YtpenammonkgkaabDoor
