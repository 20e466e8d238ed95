/-
  Chapter 11's Check, Same, New, and a book's growth, as the document's own reckoning has them.
-/
import Derived.Test.YtnemiobgmdpnmagGreatFmtClients
import Derived.Test.YtnemiobgmdpnmagGreatFmtBooks
import Derived.Test.YtnemiobgmdpnmagGreatFmtGrowthOf
import Derived.Test.YtnemiobgmdpnmagGreatFmtRefBook
import Derived.Test.YtnemiobgmdpnmagGreatFmtRefNote
import Derived.Laws.CopyOwn
namespace Go.Proofs.YtnemiobgmdpnmagGreatFmt
open Go Go.RowKit Go.Kit Go.Extern.Stop Go.Stop Go.Extern



set_option maxHeartbeats 2000000 in
set_option maxRecDepth 100000 in
theorem checkWorld_any (W : WB) (a0 : Option Addr) (n0 c0 : Nat) (a1 : Option Addr) (n1 c1 : Nat) (a2 : Option Addr) (n2 c2 : Nat) (w : World) (hW : WAt w a0 n0 c0 a1 n1 c1 a2 n2 c2 W) :
    Calls Tryz.prog 6 #[.agg #[.slice a0 n0 c0, .slice a1 n1 c1, .slice a2 n2 c2]] w fun e w' => e = .returned (.int .i64 (worldE W)) ∧ Below w.heap.size w w' := by
  have h0 := fun w' h => checkBook_any W.b0 a0 n0 c0 w' hW.l0 h
  have h1 := fun w' h => checkBook_any W.b1 a1 n1 c1 w' hW.l1 h
  have hcap := hW.e2.cap
  have hmax := hW.e2.max
  have hl2 := hW.l2
  have q1 := heap_push w (.cells #[.slice a0 n0 c0, .slice a1 n1 c1, .slice a2 n2 c2] 28)
  have hb0 : Below w.heap.size w (w.alloc (.cells #[.slice a0 n0 c0, .slice a1 n1 c1, .slice a2 n2 c2] 28)) := (Below.refl _ _).alloc (Nat.le_refl _) _
  have d0 := heap_cell q1 0 _ rfl
  have d1 := heap_cell q1 1 _ rfl
  have d2 := heap_cell q1 2 _ rfl
  go_enter Tryz.func6, Tryz.ntmps6
  go_wp2_with fail
  generalize (w.alloc (.cells #[.slice a0 n0 c0, .slice a1 n1 c1, .slice a2 n2 c2] 28)) = w0 at q1 hb0 d0 d1 d2 ⊢
  by_cases z0 : bookE W.b0 = 0
  · rw [z0] at h0
    refine (h0 w0 (hW.e0.on hb0)).mono ?_
    rintro e w1 ⟨rfl, hb1⟩
    have q1 := heap_on hb1 q1
    have hb1 := below_on hb0 hb1
    clear hb0
    clear d0 d1 d2 h0
    have d0 := heap_cell q1 0 _ rfl
    have d1 := heap_cell q1 1 _ rfl
    have d2 := heap_cell q1 2 _ rfl
    go_wp2_with fail
    by_cases z1 : bookE W.b1 = 0
    · rw [z1] at h1
      refine (h1 w1 (hW.e1.on hb1)).mono ?_
      rintro e w2 ⟨rfl, hb2⟩
      have q1 := heap_on hb2 q1
      have hb2 := below_on hb1 hb2
      clear hb1
      clear d0 d1 d2 h1
      have d0 := heap_cell q1 0 _ rfl
      have d1 := heap_cell q1 1 _ rfl
      have d2 := heap_cell q1 2 _ rfl
      by_cases z2 : n2 = 3
      · have EZ := Lib.hid (show worldE W = clisE W.cs by unfold worldE; rw [if_neg (fun h => h z0), if_neg (fun h => h z1), if_neg (by omega)])
        subst z2
        clear z0 z1
        go_wp2_with fail
        go_loopg [29] 3 (fun gh s29 wr => ∃ j : Nat, s29 = .int .i64 (j : Int) ∧ j ≤ 3 ∧ 3 - j ≤ gh ∧ (∀ i, i < j → cliE (cliOf W.cs i) = 0) ∧ Below w2.heap.size w2 wr)
        case atStart => exact ⟨0, rfl, Nat.zero_le _, by omega, fun i hi => absurd hi (Nat.not_lt_zero _), Below.refl _ _⟩
        case round =>
          clear d0 d1 d2
          obtain ⟨j, rfl, hj, hgh, hp, hbr⟩ := hrel
          rcases Nat.lt_or_ge j 3 with hj3 | hj3
          · have hb9 := below_on hb2 hbr
            obtain ⟨bw, ow, hbw, kw, hcw⟩ := (hW.e2.on hb9).cells (by omega)
            have hj1 : (j : Int) < 3 := by omega
            obtain ⟨p1, p2, p3, p4⟩ := hcw j (by omega)
            subst hbw
            clear hcw
            have HX := Lib.hid (fun (h : cliE (cliOf W.cs j) ≠ 0) => clisE_at (l := W.cs) (by omega) hp h)
            have HN := Lib.hid (fun (h : cliE (cliOf W.cs j) = 0) i (hi : i < j + 1) => show cliE (cliOf W.cs i) = 0 from if e : i = j then e ▸ h else hp i (by omega))
            clear hp
            generalize cliOf W.cs j = cc at p1 p2 p3 p4 HX HN
            obtain ⟨cn, ca, cb, cf⟩ := cc
            simp only at p1 p2 p3 p4
            have q6 := heap_push wr (.cells #[.int .i64 cn, .string ca, .string cb, .bool cf] 42)
            have hb6 := hb9.alloc hb9.size (.cells #[.int .i64 cn, .string ca, .string cb, .bool cf] 42)
            have hbr6 := hbr.alloc hbr.size (.cells #[.int .i64 cn, .string ca, .string cb, .bool cf] 42)
            have x0 := heap_cell q6 0 _ rfl
            have x1 := heap_cell q6 1 _ rfl
            have x2 := heap_cell q6 2 _ rfl
            go_wp2_with fail
            generalize (wr.alloc (.cells #[.int .i64 cn, .string ca, .string cb, .bool cf] 42)) = w6 at q6 hb6 hbr6 x0 x1 x2 ⊢
            generalize wr.heap.size = B6 at q6 x0 x1 x2 ⊢
            have hh := checkHead_any cn ca cb
            have eH : cliE (cn, ca, cb, cf) = headE cn ca cb := rfl
            rw [eH] at HX HN
            generalize headE cn ca cb = z at hh HX HN
            refine (hh w6).mono ?_
            rintro e w7 ⟨rfl, hb7⟩
            clear x0 x1 x2 hh eH
            by_cases zz : z = 0
            · have hN := HN.out zz
              subst zz
              go_wp2_with fail
              go_roundg (3 - (j + 1))
              case rel => exact ⟨j + 1, by go_num, by omega, by omega, hN, below_on hbr6 hb7⟩
              case measure => omega
            · have hX := HX.out zz
              have g1 : (z == 0) = false := by simp only [beq_eq_false_iff_ne, ne_eq]; exact zz
              go_wp2_with fail
              go_ret
              exact ⟨by rw [EZ.out, hX]; rfl, below_on hb6 hb7⟩
          · obtain rfl : j = 3 := by omega
            have hX := clisE_all (l := W.cs) (fun i hi => hp i (by omega))
            clear hp
            go_wp2_with fail
            go_ret
            exact ⟨by rw [EZ.out, hX]; rfl, below_on hb2 hbr⟩
      · have EZ := Lib.hid (show worldE W = 4 by unfold worldE; rw [if_neg (fun h => h z0), if_neg (fun h => h z1), if_pos (by omega)])
        have g1 : ((n2 : Int) == 3) = false := by simp only [beq_eq_false_iff_ne, ne_eq]; omega
        clear z0 z1
        go_wp2_with fail
        go_ret
        exact ⟨by rw [EZ.out]; rfl, hb2⟩
    · have EZ := Lib.hid (show worldE W = bookE W.b1 by unfold worldE; rw [if_neg (fun h => h z0), if_pos z1])
      have g1 : (bookE W.b1 == 0) = false := by simp only [beq_eq_false_iff_ne, ne_eq]; exact z1
      generalize bookE W.b1 = z at h1 EZ g1 z1
      clear z0 z1
      refine (h1 w1 (hW.e1.on hb1)).mono ?_
      rintro e w2 ⟨rfl, hb2⟩
      have q1 := heap_on hb2 q1
      have hb2 := below_on hb1 hb2
      clear hb1
      clear d0 d1 d2
      go_wp2_with fail
      go_ret
      exact ⟨by rw [EZ.out]; rfl, hb2⟩
  · have EZ := Lib.hid (show worldE W = bookE W.b0 from if_pos z0)
    have g1 : (bookE W.b0 == 0) = false := by simp only [beq_eq_false_iff_ne, ne_eq]; exact z0
    generalize bookE W.b0 = z at h0 EZ g1 z0
    clear z0 h1
    refine (h0 w0 (hW.e0.on hb0)).mono ?_
    rintro e w1 ⟨rfl, hb1⟩
    have q1 := heap_on hb1 q1
    have hb1 := below_on hb0 hb1
    clear hb0
    clear d0 d1 d2
    go_wp2_with fail
    go_ret
    exact ⟨by rw [EZ.out]; rfl, hb1⟩

end Go.Proofs.YtnemiobgmdpnmagGreatFmt
