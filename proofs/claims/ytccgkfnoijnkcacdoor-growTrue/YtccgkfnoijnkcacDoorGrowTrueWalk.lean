/-
  The law GrowTrue walked: no seals show that a list goes on where another one ended that is not its beginning, and the right ones show it.
-/
import Derived.Test.YtccgkfnoijnkcacDoorGrown
import Derived.Test.YtccgkfnoijnkcacDoorAt
import Derived.Lib.QuietBelow
namespace Go.Proofs.YtccgkfnoijnkcacDoor
open Go Go.RowKit

theorem growTrue_none (l : List ByteArray) (a : Option Addr) (n c : Nat) (o : List ByteArray) (a2 : Option Addr) (n2 c2 : Nat) (v : Value) (m : Int) (W : World) (hE : Tab W) (hn : l.length = n) (hS : StrsAt W a c l) (hn2 : o.length = n2) (hO : StrsAt W a2 c2 o) (hx : rootS l = none ∨ rootS o = none ∨ n = 0) :
    Calls Tryd.prog 3 #[.slice a n c, .slice a2 n2 c2, v, .int .i64 m] W fun e w' => e = .returned (.bool true) ∧ Below W.heap.size W w' := by
  have hcap := hS.cap
  have hmax := hS.max
  have hfin : (rootE l = 2 ∧ rootS l = none) ∨ (rootE l = 0 ∧ rootE o = 2) ∨ (rootE l = 0 ∧ rootE o = 0 ∧ n = 0) := by
    rcases hl : rootS l with _ | r
    · exact .inl ⟨(root_neg hl).2, rfl⟩
    · rcases ho : rootS o with _ | q
      · exact .inr (.inl ⟨(root_pos hl).2, (root_neg ho).2⟩)
      · refine .inr (.inr ⟨(root_pos hl).2, (root_pos ho).2, ?_⟩)
        rcases hx with hx | hx | hx
        · rw [hl] at hx; cases hx
        · rw [ho] at hx; cases hx
        · exact hx
  have k1 := root_any l a n c W hn hE hS
  have k2 := fun w hE hS => root_any o a2 n2 c2 w hn2 hE hS
  generalize rootV l = rv at k1
  generalize rootV o = qv at k2
  generalize rootE l = re at k1 hfin
  generalize rootE o = qe at k2 hfin
  clear hx
  rcases hfin with ⟨rfl, _⟩ | ⟨rfl, rfl⟩ | ⟨rfl, rfl, rfl⟩
  all_goals
    go_enter Tryd.func3, Tryd.ntmps3
    go_wp2_with fail
    refine k1.mono ?_
    rintro e w1 ⟨rfl, hb1⟩
    clear k1
    go_wp2_with fail
    refine (k2 w1 (hE.on hb1) (hO.on hb1)).mono ?_
    rintro e w2 ⟨rfl, hb2⟩
    have hb2 := below_on hb1 hb2
    clear k2 hb1
    go_wp2_with fail
    refine (grown_any w2 (hE.on hb2)).mono ?_
    rintro e w3 ⟨rfl, hb3⟩
    have hb3 := below_on hb2 hb3
    clear hb2
    go_wp2_with fail
    refine (grown_any w3 (hE.on hb3)).mono ?_
    rintro e w4 ⟨rfl, hb4⟩
    have hb4 := below_on hb3 hb4
    go_wp2_with fail
    go_ret
    exact ⟨rfl, hb4⟩

/- What is shown to the old list's seal is shown of its texts. -/
theorem grow_same {l o : List ByteArray} {r q : ByteArray} {x : List ByteArray} (hl : rootS l = some r) (ho : rootS o = some q) (h1 : 0 < o.length) (h2 : o.length ≤ l.length) : growE q (o.length : Nat) r (l.length : Nat) x = 0 ↔ o = l.take o.length ∧ x = growS l o.length true := by
  rw [grow_iff q x h1 h2 hl]
  obtain ⟨t, ht, _⟩ := root_take l.length l o.length r (Nat.le_refl _) h1 h2 hl
  rw [(root_pos ht).1]
  constructor
  · rintro ⟨e1, e2⟩
    exact ⟨(rootS_eq ho ht).1 e1, e2⟩
  · rintro ⟨e1, e2⟩
    refine ⟨(rootS_eq ho ht).2 e1, e2⟩

set_option maxRecDepth 100000 in
set_option maxHeartbeats 1000000 in
theorem growTrue_walk (l : List ByteArray) (a : Option Addr) (n c : Nat) (o : List ByteArray) (a2 : Option Addr) (n2 c2 : Nat) (ss : List ByteArray) (a3 : Option Addr) (n3 c3 : Nat) (m : Int) (W : World) (hE : Tab W) (hn : l.length = n) (hS : StrsAt W a c l) (hn2 : o.length = n2) (hO : StrsAt W a2 c2 o) (hn3 : ss.length = n3) (hT : StrsAt W a3 c3 ss) (hm : -9223372036854775808 ≤ m) (hm' : m ≤ 9223372036854775807) :
    Calls Tryd.prog 3 #[.slice a n c, .slice a2 n2 c2, .slice a3 n3 c3, .int .i64 m] W fun e w' => e = .returned (.bool true) ∧ Below W.heap.size W w' := by
  by_cases h00 : rootS l = none ∨ rootS o = none ∨ n = 0
  · exact growTrue_none l a n c o a2 n2 c2 _ m W hE hn hS hn2 hO h00
  have hcap := hS.cap
  have hmax := hS.max
  have hcap2 := hO.cap
  have hmax2 := hO.max
  rcases hx : rootS l with _ | r
  · exact absurd (Or.inl hx) h00
  rcases hy : rootS o with _ | q
  · exact absurd (Or.inr (Or.inl hy)) h00
  have h0 : 0 < n := by omega
  have hn0 : ¬ n = 0 := by omega
  have h24 : n ≤ 24 := by rw [← hn]; exact rootS_len hx
  have hqs := rootS_size hy
  have hrs := rootS_size hx
  obtain ⟨b, off, rfl, hlt, _⟩ := hS.cells (by omega)
  have hI := atN_lt m h0
  have atI := fun w => at_any m n w h0 (by omega) hm hm'
  generalize atN m n = I at hI atI
  obtain ⟨J, hJ⟩ : ∃ J, J = I + 1 := ⟨_, rfl⟩
  have h1I : (1 : Int) + (I : Int) = (J : Int) := by omega
  have hJ1 : 1 ≤ J := by omega
  have hJn : J ≤ n := by omega
  clear hJ
  obtain ⟨f, hf, _⟩ := root_take l.length l J r (Nat.le_refl _) (by omega) (by omega) hx
  have hfs := rootS_size hf
  have hlt1 : (l.take J).length = J := by rw [List.length_take]; omega
  have kF := fun w hE hS => root_ok (l.take J) f hf (some ⟨b, off, none⟩) J c w hlt1 hE hS
  have hS1 := hS.take J
  have kOf := fun w hE hS => growOf_ok l (some ⟨b, off, none⟩) n c J r w hn hE hS hx (by omega) (by omega)
  have y1 : growE f (J : Int) r ((l.length : Nat) : Int) (growS l J true) = 0 := (grow_iff f _ (by omega) (by omega) hx).2 ⟨(root_pos hf).1.symm, rfl⟩
  rw [hn] at y1
  have y2 : n2 = J → (growE q (J : Int) r (n : Int) (growS l J true) = 0 ↔ o = l.take J) := by
    intro e
    have := grow_same (x := growS l J true) hx hy (by omega) (by omega)
    rw [hn, hn2, e] at this
    exact this.trans ⟨fun h => h.1, fun h => ⟨h, rfl⟩⟩
  have y3 : 0 < n2 → n2 ≤ n → growE q (n2 : Int) r (n : Int) ss = 0 → o = l.take n2 := by
    intro e1 e2 e3
    have := grow_same (x := ss) hx hy (by omega) (by omega)
    rw [hn, hn2] at this
    exact (this.1 e3).1
  generalize growS l J true = S at kOf y1 y2
  have kS1 := fun a c w hE hS => growShows_any f (J : Int) r (n : Int) S a S.length c w rfl hE hS (by omega)
  have kS2 := fun a c w hE hS => growShows_any q (J : Int) r (n : Int) S a S.length c w rfl hE hS (by omega)
  have kS3 := fun w hE hS => growShows_any q (n2 : Int) r (n : Int) ss a3 n3 c3 w hn3 hE hS (by omega)
  rw [y1] at kS1
  generalize growE q (J : Int) r (n : Int) S = z2 at kS2 y2
  generalize growE q (n2 : Int) r (n : Int) ss = z3 at kS3 y3
  have kE1 := fun w hO hS => equal_strs o (l.take J) a2 (some ⟨b, off, none⟩) n2 c2 J c w hn2 hlt1 hO hS
  have hS2 := hS.take n2
  have kE2 := fun (h : n2 ≤ n) w hO hS => equal_strs o (l.take n2) a2 (some ⟨b, off, none⟩) n2 c2 n2 c w hn2 (by rw [List.length_take]; omega) hO hS
  have KL := fun w hE hS => root_ok l r hx (some ⟨b, off, none⟩) n c w hn hE hS
  have KO := fun w hE hS => root_ok o q hy a2 n2 c2 w hn2 hE hS
  clear y1 hm hm' h00 hx hy
  by_cases hc1 : 0 < n2 ∧ n2 ≤ n
  · obtain ⟨hpos, hle⟩ := hc1
    by_cases hz3 : z3 = 0
    · have heq := y3 hpos hle hz3
      subst hz3
      by_cases hnJ : n2 = J
      · subst hnJ
        have hz2 : (z2 == 0) = decide (o = l.take n2) := by
          by_cases h : o = l.take n2
          · rw [decide_eq_true h, (y2 rfl).2 h]; rfl
          · rw [decide_eq_false h]
            simp only [beq_eq_false_iff_ne, ne_eq]
            exact fun h0 => h ((y2 rfl).1 h0)
        clear y2 y3
        rw [decide_eq_true heq] at hz2 kE1
        go_enter Tryd.func3, Tryd.ntmps3
        go_wp2_with fail
        refine (KL W hE hS).mono ?_
        rintro e w1 ⟨rfl, hb1⟩
        go_wp2_with fail
        refine (KO w1 (hE.on hb1) (hO.on hb1)).mono ?_
        rintro e w2 ⟨rfl, hb2⟩
        have hb2 := below_on hb1 hb2
        clear hb1
        go_wp2_with fail
        refine (grown_any w2 (hE.on hb2)).mono ?_
        rintro e w3 ⟨rfl, hb3⟩
        have hb3 := below_on hb2 hb3
        clear hb2
        go_wp2_with fail
        refine (kS3 w3 (hE.on hb3) (hT.on hb3)).mono ?_
        rintro e w4 ⟨rfl, hb4⟩
        have hb3 := below_on hb3 hb4
        clear hb4
        go_wp2_with fail
        refine (kE2 hle _ (hO.on hb3) (hS2.on hb3)).mono ?_
        rintro e w5 ⟨rfl, hb5⟩
        have hb3 := below_on hb3 hb5
        clear hb5
        rw [decide_eq_true heq]
        go_wp2_with fail
        refine (atI _).mono ?_
        rintro e w6 ⟨rfl, rfl⟩
        go_wp2_with fail
        refine (kF _ (hE.on hb3) (hS1.on hb3)).mono ?_
        rintro e w7 ⟨rfl, hb7⟩
        have hb7 := below_on hb3 hb7
        clear hb3
        go_wp2_with fail
        refine (kOf w7 (hE.on hb7) (hS.on hb7)).mono ?_
        rintro e w8 ⟨a8, c8, rfl, _, hP8, hb8⟩
        have hb8 := below_on hb7 hb8
        clear hb7
        go_wp2_with fail
        refine (kS1 a8 c8 w8 (hE.on hb8) hP8).mono ?_
        rintro e w9 ⟨rfl, hb9⟩
        have hP9 := hP8.on hb9
        have hb9 := below_on hb8 hb9
        clear hb8 hP8
        go_wp2_with fail
        have cF := Lib.hid (fun d os => Calls.regrown_of (kS2 a8 c8 (Sort.grow (redrawn w9 d) os) (hE.on (below_on hb9 (below_regrown w9 d os))) (hP9.on (below_regrown w9 d os))))
        have cG := Lib.hid (fun d os => Calls.regrown_of (kE1 (Sort.grow (redrawn w9 d) os) (hO.on (below_on hb9 (below_regrown w9 d os))) (hS1.on (below_on hb9 (below_regrown w9 d os)))))
        clear kS1 kS2 kS3 kE1 kE2 kF kOf KL KO atI hP9
        refine wp_region_quiet_below (by kernel_rfl) (by kernel_rfl) ?_
        repeat (first | go_big_quiet_step (first | exact cF.out _ _ | exact cG.out _ _) | quiet_step (first | exact cF.out _ _ | exact cG.out _ _))
        refine wpQuiet_nil ?_
        intro _ hw'
        obtain ⟨⟨dq, osq⟩, hw''⟩ := hw'
        subst hw''
        have hbq := below_on hb9 (below_regrown w9 dq osq)
        clear cF cG
        go_wp2_with fail
        go_ret
        exact ⟨rfl, hbq⟩
      · have hne1 : ((n2 : Int) == (J : Int)) = false := by simp only [beq_eq_false_iff_ne, ne_eq]; omega
        have hne2 : ¬ (n2 : Int) = (J : Int) := by omega
        clear y2 y3
        go_enter Tryd.func3, Tryd.ntmps3
        go_wp2_with fail
        refine (KL W hE hS).mono ?_
        rintro e w1 ⟨rfl, hb1⟩
        go_wp2_with fail
        refine (KO w1 (hE.on hb1) (hO.on hb1)).mono ?_
        rintro e w2 ⟨rfl, hb2⟩
        have hb2 := below_on hb1 hb2
        clear hb1
        go_wp2_with fail
        refine (grown_any w2 (hE.on hb2)).mono ?_
        rintro e w3 ⟨rfl, hb3⟩
        have hb3 := below_on hb2 hb3
        clear hb2
        go_wp2_with fail
        refine (kS3 w3 (hE.on hb3) (hT.on hb3)).mono ?_
        rintro e w4 ⟨rfl, hb4⟩
        have hb3 := below_on hb3 hb4
        clear hb4
        go_wp2_with fail
        refine (kE2 hle _ (hO.on hb3) (hS2.on hb3)).mono ?_
        rintro e w5 ⟨rfl, hb5⟩
        have hb3 := below_on hb3 hb5
        clear hb5
        rw [decide_eq_true heq]
        go_wp2_with fail
        refine (atI _).mono ?_
        rintro e w6 ⟨rfl, rfl⟩
        go_wp2_with fail
        refine (kF _ (hE.on hb3) (hS1.on hb3)).mono ?_
        rintro e w7 ⟨rfl, hb7⟩
        have hb7 := below_on hb3 hb7
        clear hb3
        go_wp2_with fail
        refine (kOf w7 (hE.on hb7) (hS.on hb7)).mono ?_
        rintro e w8 ⟨a8, c8, rfl, _, hP8, hb8⟩
        have hb8 := below_on hb7 hb8
        clear hb7
        go_wp2_with fail
        refine (kS1 a8 c8 w8 (hE.on hb8) hP8).mono ?_
        rintro e w9 ⟨rfl, hb9⟩
        have hP9 := hP8.on hb9
        have hb9 := below_on hb8 hb9
        clear hb8 hP8
        go_wp2_with fail
        have cF := Lib.hid (fun d os => Calls.regrown_of (kS2 a8 c8 (Sort.grow (redrawn w9 d) os) (hE.on (below_on hb9 (below_regrown w9 d os))) (hP9.on (below_regrown w9 d os))))
        have cG := Lib.hid (fun d os => Calls.regrown_of (kE1 (Sort.grow (redrawn w9 d) os) (hO.on (below_on hb9 (below_regrown w9 d os))) (hS1.on (below_on hb9 (below_regrown w9 d os)))))
        clear kS1 kS2 kS3 kE1 kE2 kF kOf KL KO atI hP9
        refine wp_region_quiet_below (by kernel_rfl) (by kernel_rfl) ?_
        repeat (first | go_big_quiet_step (first | exact cF.out _ _ | exact cG.out _ _) | quiet_step (first | exact cF.out _ _ | exact cG.out _ _))
        refine wpQuiet_nil ?_
        intro _ hw'
        obtain ⟨⟨dq, osq⟩, hw''⟩ := hw'
        subst hw''
        have hbq := below_on hb9 (below_regrown w9 dq osq)
        clear cF cG
        go_wp2_with fail
        go_ret
        exact ⟨rfl, hbq⟩
    · have hz3b : (z3 == 0) = false := by simp only [beq_eq_false_iff_ne, ne_eq]; exact hz3
      by_cases hnJ : n2 = J
      · subst hnJ
        have hz2 : (z2 == 0) = decide (o = l.take n2) := by
          by_cases h : o = l.take n2
          · rw [decide_eq_true h, (y2 rfl).2 h]; rfl
          · rw [decide_eq_false h]
            simp only [beq_eq_false_iff_ne, ne_eq]
            exact fun h0 => h ((y2 rfl).1 h0)
        clear y2 y3
        generalize decide (o = l.take n2) = bb at hz2 kE1
        cases bb
        all_goals
          go_enter Tryd.func3, Tryd.ntmps3
          go_wp2_with fail
          refine (KL W hE hS).mono ?_
          rintro e w1 ⟨rfl, hb1⟩
          go_wp2_with fail
          refine (KO w1 (hE.on hb1) (hO.on hb1)).mono ?_
          rintro e w2 ⟨rfl, hb2⟩
          have hb2 := below_on hb1 hb2
          clear hb1
          go_wp2_with fail
          refine (grown_any w2 (hE.on hb2)).mono ?_
          rintro e w3 ⟨rfl, hb3⟩
          have hb3 := below_on hb2 hb3
          clear hb2
          go_wp2_with fail
          refine (kS3 w3 (hE.on hb3) (hT.on hb3)).mono ?_
          rintro e w4 ⟨rfl, hb4⟩
          have hb3 := below_on hb3 hb4
          clear hb4
          go_wp2_with fail
          refine (atI _).mono ?_
          rintro e w6 ⟨rfl, rfl⟩
          go_wp2_with fail
          refine (kF _ (hE.on hb3) (hS1.on hb3)).mono ?_
          rintro e w7 ⟨rfl, hb7⟩
          have hb7 := below_on hb3 hb7
          clear hb3
          go_wp2_with fail
          refine (kOf w7 (hE.on hb7) (hS.on hb7)).mono ?_
          rintro e w8 ⟨a8, c8, rfl, _, hP8, hb8⟩
          have hb8 := below_on hb7 hb8
          clear hb7
          go_wp2_with fail
          refine (kS1 a8 c8 w8 (hE.on hb8) hP8).mono ?_
          rintro e w9 ⟨rfl, hb9⟩
          have hP9 := hP8.on hb9
          have hb9 := below_on hb8 hb9
          clear hb8 hP8
          go_wp2_with fail
          have cF := Lib.hid (fun d os => Calls.regrown_of (kS2 a8 c8 (Sort.grow (redrawn w9 d) os) (hE.on (below_on hb9 (below_regrown w9 d os))) (hP9.on (below_regrown w9 d os))))
          have cG := Lib.hid (fun d os => Calls.regrown_of (kE1 (Sort.grow (redrawn w9 d) os) (hO.on (below_on hb9 (below_regrown w9 d os))) (hS1.on (below_on hb9 (below_regrown w9 d os)))))
          clear kS1 kS2 kS3 kE1 kE2 kF kOf KL KO atI hP9
          refine wp_region_quiet_below (by kernel_rfl) (by kernel_rfl) ?_
          repeat (first | go_big_quiet_step (first | exact cF.out _ _ | exact cG.out _ _) | quiet_step (first | exact cF.out _ _ | exact cG.out _ _))
          refine wpQuiet_nil ?_
          intro _ hw'
          obtain ⟨⟨dq, osq⟩, hw''⟩ := hw'
          subst hw''
          have hbq := below_on hb9 (below_regrown w9 dq osq)
          clear cF cG
          go_wp2_with fail
          go_ret
          exact ⟨rfl, hbq⟩
      · have hne1 : ((n2 : Int) == (J : Int)) = false := by simp only [beq_eq_false_iff_ne, ne_eq]; omega
        have hne2 : ¬ (n2 : Int) = (J : Int) := by omega
        clear y2 y3
        go_enter Tryd.func3, Tryd.ntmps3
        go_wp2_with fail
        refine (KL W hE hS).mono ?_
        rintro e w1 ⟨rfl, hb1⟩
        go_wp2_with fail
        refine (KO w1 (hE.on hb1) (hO.on hb1)).mono ?_
        rintro e w2 ⟨rfl, hb2⟩
        have hb2 := below_on hb1 hb2
        clear hb1
        go_wp2_with fail
        refine (grown_any w2 (hE.on hb2)).mono ?_
        rintro e w3 ⟨rfl, hb3⟩
        have hb3 := below_on hb2 hb3
        clear hb2
        go_wp2_with fail
        refine (kS3 w3 (hE.on hb3) (hT.on hb3)).mono ?_
        rintro e w4 ⟨rfl, hb4⟩
        have hb3 := below_on hb3 hb4
        clear hb4
        go_wp2_with fail
        refine (atI _).mono ?_
        rintro e w6 ⟨rfl, rfl⟩
        go_wp2_with fail
        refine (kF _ (hE.on hb3) (hS1.on hb3)).mono ?_
        rintro e w7 ⟨rfl, hb7⟩
        have hb7 := below_on hb3 hb7
        clear hb3
        go_wp2_with fail
        refine (kOf w7 (hE.on hb7) (hS.on hb7)).mono ?_
        rintro e w8 ⟨a8, c8, rfl, _, hP8, hb8⟩
        have hb8 := below_on hb7 hb8
        clear hb7
        go_wp2_with fail
        refine (kS1 a8 c8 w8 (hE.on hb8) hP8).mono ?_
        rintro e w9 ⟨rfl, hb9⟩
        have hP9 := hP8.on hb9
        have hb9 := below_on hb8 hb9
        clear hb8 hP8
        go_wp2_with fail
        have cF := Lib.hid (fun d os => Calls.regrown_of (kS2 a8 c8 (Sort.grow (redrawn w9 d) os) (hE.on (below_on hb9 (below_regrown w9 d os))) (hP9.on (below_regrown w9 d os))))
        have cG := Lib.hid (fun d os => Calls.regrown_of (kE1 (Sort.grow (redrawn w9 d) os) (hO.on (below_on hb9 (below_regrown w9 d os))) (hS1.on (below_on hb9 (below_regrown w9 d os)))))
        clear kS1 kS2 kS3 kE1 kE2 kF kOf KL KO atI hP9
        refine wp_region_quiet_below (by kernel_rfl) (by kernel_rfl) ?_
        repeat (first | go_big_quiet_step (first | exact cF.out _ _ | exact cG.out _ _) | quiet_step (first | exact cF.out _ _ | exact cG.out _ _))
        refine wpQuiet_nil ?_
        intro _ hw'
        obtain ⟨⟨dq, osq⟩, hw''⟩ := hw'
        subst hw''
        have hbq := below_on hb9 (below_regrown w9 dq osq)
        clear cF cG
        go_wp2_with fail
        go_ret
        exact ⟨rfl, hbq⟩
  · have hnJ : ¬ n2 = J := by omega
    by_cases hp0 : 0 < n2
    · have hgt : ¬ n2 ≤ n := by omega
      clear hc1
      have hne1 : ((n2 : Int) == (J : Int)) = false := by simp only [beq_eq_false_iff_ne, ne_eq]; omega
      have hne2 : ¬ (n2 : Int) = (J : Int) := by omega
      clear y2 y3
      go_enter Tryd.func3, Tryd.ntmps3
      go_wp2_with fail
      refine (KL W hE hS).mono ?_
      rintro e w1 ⟨rfl, hb1⟩
      go_wp2_with fail
      refine (KO w1 (hE.on hb1) (hO.on hb1)).mono ?_
      rintro e w2 ⟨rfl, hb2⟩
      have hb2 := below_on hb1 hb2
      clear hb1
      go_wp2_with fail
      refine (grown_any w2 (hE.on hb2)).mono ?_
      rintro e w3 ⟨rfl, hb3⟩
      have hb3 := below_on hb2 hb3
      clear hb2
      go_wp2_with fail
      refine (atI _).mono ?_
      rintro e w6 ⟨rfl, rfl⟩
      go_wp2_with fail
      refine (kF _ (hE.on hb3) (hS1.on hb3)).mono ?_
      rintro e w7 ⟨rfl, hb7⟩
      have hb7 := below_on hb3 hb7
      clear hb3
      go_wp2_with fail
      refine (kOf w7 (hE.on hb7) (hS.on hb7)).mono ?_
      rintro e w8 ⟨a8, c8, rfl, _, hP8, hb8⟩
      have hb8 := below_on hb7 hb8
      clear hb7
      go_wp2_with fail
      refine (kS1 a8 c8 w8 (hE.on hb8) hP8).mono ?_
      rintro e w9 ⟨rfl, hb9⟩
      have hP9 := hP8.on hb9
      have hb9 := below_on hb8 hb9
      clear hb8 hP8
      go_wp2_with fail
      have cF := Lib.hid (fun d os => Calls.regrown_of (kS2 a8 c8 (Sort.grow (redrawn w9 d) os) (hE.on (below_on hb9 (below_regrown w9 d os))) (hP9.on (below_regrown w9 d os))))
      have cG := Lib.hid (fun d os => Calls.regrown_of (kE1 (Sort.grow (redrawn w9 d) os) (hO.on (below_on hb9 (below_regrown w9 d os))) (hS1.on (below_on hb9 (below_regrown w9 d os)))))
      clear kS1 kS2 kS3 kE1 kE2 kF kOf KL KO atI hP9
      refine wp_region_quiet_below (by kernel_rfl) (by kernel_rfl) ?_
      repeat (first | go_big_quiet_step (first | exact cF.out _ _ | exact cG.out _ _) | quiet_step (first | exact cF.out _ _ | exact cG.out _ _))
      refine wpQuiet_nil ?_
      intro _ hw'
      obtain ⟨⟨dq, osq⟩, hw''⟩ := hw'
      subst hw''
      have hbq := below_on hb9 (below_regrown w9 dq osq)
      clear cF cG
      go_wp2_with fail
      go_ret
      exact ⟨rfl, hbq⟩
    · have hz0 : ¬ (0 : Int) < (n2 : Int) := by omega
      clear hc1
      have hne1 : ((n2 : Int) == (J : Int)) = false := by simp only [beq_eq_false_iff_ne, ne_eq]; omega
      have hne2 : ¬ (n2 : Int) = (J : Int) := by omega
      clear y2 y3
      go_enter Tryd.func3, Tryd.ntmps3
      go_wp2_with fail
      refine (KL W hE hS).mono ?_
      rintro e w1 ⟨rfl, hb1⟩
      go_wp2_with fail
      refine (KO w1 (hE.on hb1) (hO.on hb1)).mono ?_
      rintro e w2 ⟨rfl, hb2⟩
      have hb2 := below_on hb1 hb2
      clear hb1
      go_wp2_with fail
      refine (grown_any w2 (hE.on hb2)).mono ?_
      rintro e w3 ⟨rfl, hb3⟩
      have hb3 := below_on hb2 hb3
      clear hb2
      go_wp2_with fail
      refine (atI _).mono ?_
      rintro e w6 ⟨rfl, rfl⟩
      go_wp2_with fail
      refine (kF _ (hE.on hb3) (hS1.on hb3)).mono ?_
      rintro e w7 ⟨rfl, hb7⟩
      have hb7 := below_on hb3 hb7
      clear hb3
      go_wp2_with fail
      refine (kOf w7 (hE.on hb7) (hS.on hb7)).mono ?_
      rintro e w8 ⟨a8, c8, rfl, _, hP8, hb8⟩
      have hb8 := below_on hb7 hb8
      clear hb7
      go_wp2_with fail
      refine (kS1 a8 c8 w8 (hE.on hb8) hP8).mono ?_
      rintro e w9 ⟨rfl, hb9⟩
      have hP9 := hP8.on hb9
      have hb9 := below_on hb8 hb9
      clear hb8 hP8
      go_wp2_with fail
      have cF := Lib.hid (fun d os => Calls.regrown_of (kS2 a8 c8 (Sort.grow (redrawn w9 d) os) (hE.on (below_on hb9 (below_regrown w9 d os))) (hP9.on (below_regrown w9 d os))))
      have cG := Lib.hid (fun d os => Calls.regrown_of (kE1 (Sort.grow (redrawn w9 d) os) (hO.on (below_on hb9 (below_regrown w9 d os))) (hS1.on (below_on hb9 (below_regrown w9 d os)))))
      clear kS1 kS2 kS3 kE1 kE2 kF kOf KL KO atI hP9
      refine wp_region_quiet_below (by kernel_rfl) (by kernel_rfl) ?_
      repeat (first | go_big_quiet_step (first | exact cF.out _ _ | exact cG.out _ _) | quiet_step (first | exact cF.out _ _ | exact cG.out _ _))
      refine wpQuiet_nil ?_
      intro _ hw'
      obtain ⟨⟨dq, osq⟩, hw''⟩ := hw'
      subst hw''
      have hbq := below_on hb9 (below_regrown w9 dq osq)
      clear cF cG
      go_wp2_with fail
      go_ret
      exact ⟨rfl, hbq⟩
end Go.Proofs.YtccgkfnoijnkcacDoor
