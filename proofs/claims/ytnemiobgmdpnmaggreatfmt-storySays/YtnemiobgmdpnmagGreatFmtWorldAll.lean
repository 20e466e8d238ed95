/-
  Worlds of package world: New, Check, Same; is a happening right; lists of one's own.
  A world in a box of one's own: its three lists lie in memory of one's own, the clients' block in one of its own; what a happening does to it.
  A world's lists, copied.
  An entry is put behind the others of a book in a world's box.
  What shows a book's growth, and a key's value, to a client of package world.
  A client in a world's box is shown a book's head.
  Two clients' heads, held together by whichever book.
  Two clients in a world's box hold their heads together.
  A happening in a world's box, kind by kind.
  Contracts of package world over this seat's dump: Do.
  Contracts of package world over this seat's dump: Run.
-/
import Derived.Test.YtnemiobgmdpnmagGreatFmtBooks
import Derived.Test.YtnemiobgmdpnmagGreatFmtNumbers
import Derived.Test.YtnemiobgmdpnmagGreatFmtShown
import Derived.Test.YtnemiobgmdpnmagGreatFmtClient
import Derived.Test.YtnemiobgmdpnmagGreatFmtMeet
namespace Go.Proofs.YtnemiobgmdpnmagGreatFmt
open Go Go.RowKit

theorem new_any (w : World) : Calls Tryz.prog 17 #[] w fun e w' => ∃ a0 n0 c0 a1 n1 c1 a2 n2 c2, e = .returned (.agg #[.slice a0 n0 c0, .slice a1 n1 c1, .slice a2 n2 c2]) ∧ WAt w' a0 n0 c0 a1 n1 c1 a2 n2 c2 newW ∧ Below w.heap.size w w' := by
  obtain ⟨i0, hi0, hz0, hz1, hz2⟩ := info_parts infoClient
  have q0 := heap_push w (.cells #[.slice none 0 0, .slice none 0 0, .slice none 0 0] 28)
  have hb0 : Below w.heap.size w (w.alloc (.cells #[.slice none 0 0, .slice none 0 0, .slice none 0 0] 28)) := (Below.refl _ _).alloc (Nat.le_refl _) _
  have qs : (w.alloc (.cells #[.slice none 0 0, .slice none 0 0, .slice none 0 0] 28)).heap.size = w.heap.size + 1 := by show (w.heap.push _).size = _; rw [Array.size_push]
  go_enter Tryz.func17, Tryz.ntmps17
  go_wp2_with (first | (at_make; refine wpList_make_full _ rfl _ _ 26 rfl (w.heap.size + 1) 42 i0 (.agg #[.int .i64 0, .string ⟨#[]⟩, .string ⟨#[]⟩, .bool false]) 4 Tryz.underlying26 hi0 hz0 hz1 _ _ _ _ 3 rfl rfl rfl rfl (by rw [hz2]; omega) (by unfold maxLen; omega) (by rw [qs]; omega) ?_; intro w1 hown hg; rw [qs] at hown; have hb1 := hb0.grown hg (by rw [qs]; omega) (fun j hj => by cases hj); have p0 := heap_kept hg q0 (by simp)) | refine wpList_store_row rfl 28 (.tmp 0) (.tmp 2) rfl w.heap.size #[.slice none 0 0, .slice none 0 0, .slice (some ⟨w.heap.size + 1, 0, none⟩) 3 3] rfl rfl _ _ p0 (by kernel_rfl) rfl (three_cells _ _ _ _ _ _ _ _ _) ?_)
  rw [made_new] at hown
  have hb2 := below_setRow hb1 (g := w.heap.size) (Nat.le_refl _) #[.slice none 0 0, .slice none 0 0, .slice (some ⟨w.heap.size + 1, 0, none⟩) 3 3]
  refine bodyPost_ret (results_cell_row rfl _ _ w.heap.size _ _ _ _ rfl (setRow_heap _ _ _ _ _ _ p0) Tryz.underlying28 rfl (by kernel_rfl)) rfl ?_
  exact ⟨none, 0, 0, none, 0, 0, some ⟨w.heap.size + 1, 0, none⟩, 3, 3, rfl, ⟨rfl, ents_none _, rfl, ents_none _, rfl, clis_kept (l := newW.cs) hown (Nat.lt_add_one _) new_wide _⟩, hb2⟩
theorem worldE_book {W : WB} {k : Nat} (hk : k < 2) (hp : ∀ i : Nat, i < k → bookE (sideL W (i : Int)) = 0) (h : bookE (sideL W (k : Int)) ≠ 0) : worldE W = bookE (sideL W (k : Int)) := by
  rcases Nat.lt_or_ge k 1 with h1 | h1
  · obtain rfl : k = 0 := by omega
    exact if_pos h
  · obtain rfl : k = 1 := by omega
    have h0 : bookE W.b0 = 0 := hp 0 (by omega)
    have h' : bookE W.b1 ≠ 0 := h
    show worldE W = bookE W.b1
    unfold worldE
    rw [if_neg (fun hh => hh h0), if_pos h']
theorem worldE_cs {W : WB} (hp : ∀ i : Nat, i < 2 → bookE (sideL W (i : Int)) = 0) : worldE W = if W.cs.length ≠ 3 then 4 else clisE W.cs := by
  have h0 : bookE W.b0 = 0 := hp 0 (by omega)
  have h1 : bookE W.b1 = 0 := hp 1 (by omega)
  unfold worldE
  rw [if_neg (fun hh => hh h0), if_neg (fun hh => hh h1)]
theorem sides_eq {W V : WB} (h : ∀ i : Nat, i < 2 → sideL W (i : Int) = sideL V (i : Int)) : W.b0 = V.b0 ∧ W.b1 = V.b1 := ⟨h 0 (by omega), h 1 (by omega)⟩
theorem side_of_eq {W V : WB} (h : W = V) (s : Int) : sideL W s = sideL V s := by rw [h]

set_option maxHeartbeats 16000000 in
set_option maxRecDepth 100000 in
theorem wcheck_any (W : WB) (a0 : Option Addr) (n0 c0 : Nat) (a1 : Option Addr) (n1 c1 : Nat) (a2 : Option Addr) (n2 c2 : Nat) (w : World) (hW : WAt w a0 n0 c0 a1 n1 c1 a2 n2 c2 W) :
    Calls Tryz.prog 12 #[.agg #[.slice a0 n0 c0, .slice a1 n1 c1, .slice a2 n2 c2]] w fun e w' => e = .returned (.int .i64 (worldE W)) ∧ Below w.heap.size w w' := by
  have hcap := hW.e2.cap
  have hmax := hW.e2.max
  have hl2 := hW.l2
  have q1 := heap_push w (.cells #[.slice a0 n0 c0, .slice a1 n1 c1, .slice a2 n2 c2] 28)
  have hb0 : Below w.heap.size w (w.alloc (.cells #[.slice a0 n0 c0, .slice a1 n1 c1, .slice a2 n2 c2] 28)) := (Below.refl _ _).alloc (Nat.le_refl _) _
  have d0 := heap_cell q1 0 _ rfl
  have d1 := heap_cell q1 1 _ rfl
  go_enter Tryz.func12, Tryz.ntmps12
  go_wp2_with fail
  generalize (w.alloc (.cells #[.slice a0 n0 c0, .slice a1 n1 c1, .slice a2 n2 c2] 28)) = w0 at q1 hb0 d0 d1 ⊢
  go_loopg [11] 2 (fun gh s11 wr => ∃ k : Nat, s11 = .int .i64 (k : Int) ∧ k ≤ 2 ∧ 2 - k ≤ gh ∧ (∀ i : Nat, i < k → bookE (sideL W (i : Int)) = 0) ∧ Below w0.heap.size w0 wr)
  case atStart => exact ⟨0, rfl, Nat.zero_le _, by omega, fun i hi => absurd hi (Nat.not_lt_zero _), Below.refl _ _⟩
  case round =>
    clear d0 d1
    obtain ⟨k, rfl, hk2, hgh, hp, hbr⟩ := hrel
    have hb9 := below_on hb0 hbr
    rcases Nat.lt_or_ge k 2 with hk | hk
    · obtain ⟨ta, tn, tc, htv, htn, htE⟩ := side_ents hW k
      have hix := run_books k hk (.slice a0 n0 c0) (.slice a1 n1 c1) wr
      rw [htv] at hix
      have hk1 : (k : Int) < 2 := by omega
      have hck := fun w1 hS => bcheck_any (sideL W k) ta tn tc w1 htn hS
      have HX := Lib.hid (fun (h : bookE (sideL W (k : Int)) ≠ 0) => worldE_book hk hp h)
      have HN := Lib.hid (fun (h : bookE (sideL W (k : Int)) = 0) (i : Nat) (hi : i < k + 1) => show bookE (sideL W (i : Int)) = 0 from if e : i = k then e ▸ h else hp i (by omega))
      clear hp
      generalize bookE (sideL W (k : Int)) = z at hck HX HN
      have q4 := heap_push wr (.cells #[.slice ta tn tc] 24)
      have hb4 := hb9.alloc hb9.size (.cells #[.slice ta tn tc] 24)
      have hbr4 := hbr.alloc hbr.size (.cells #[.slice ta tn tc] 24)
      have x0 := heap_cell q4 0 _ rfl
      go_wp2_with fail
      generalize (wr.alloc (.cells #[.slice ta tn tc] 24)) = w4 at q4 hb4 hbr4 x0 ⊢
      generalize wr.heap.size = B4 at q4 x0 ⊢
      refine (hck w4 (htE.on hb4)).mono ?_
      rintro e w5 ⟨rfl, hb5⟩
      clear x0 hix hck
      by_cases zz : z = 0
      · have hN := HN.out zz
        subst zz
        go_wp2_with fail
        go_roundg (2 - (k + 1))
        case rel => exact ⟨k + 1, by go_num, by omega, by omega, hN, below_on hbr4 hb5⟩
        case measure => omega
      · have hX := HX.out zz
        have g1 : (z == 0) = false := by simp only [beq_eq_false_iff_ne, ne_eq]; exact zz
        go_wp2_with fail
        go_ret
        exact ⟨by rw [hX]; rfl, below_on hb4 hb5⟩
    · obtain rfl : k = 2 := by omega
      have hEZ := worldE_cs hp
      clear hp
      have q1 := heap_on hbr q1
      have d2 := heap_cell q1 2 _ rfl
      clear hb0 hbr
      obtain ⟨w1, hw1⟩ : ∃ x, x = wr := ⟨_, rfl⟩
      subst hw1
      by_cases z2 : n2 = 3
      · have EZ := Lib.hid (show worldE W = clisE W.cs by rw [hEZ, if_neg (by omega)])
        subst z2
        clear hEZ
        go_wp2_with fail
        go_loopg [27] 3 (fun gh s27 wr => ∃ j : Nat, s27 = .int .i64 (j : Int) ∧ j ≤ 3 ∧ 3 - j ≤ gh ∧ (∀ i, i < j → cliE (cliOf W.cs i) = 0) ∧ Below w1.heap.size w1 wr)
        case atStart => exact ⟨0, rfl, Nat.zero_le _, by omega, fun i hi => absurd hi (Nat.not_lt_zero _), Below.refl _ _⟩
        case round =>
          clear d2
          obtain ⟨j, rfl, hj, hgh, hp, hbr⟩ := hrel
          rcases Nat.lt_or_ge j 3 with hj3 | hj3
          · have hb8 := below_on hb9 hbr
            obtain ⟨bw, ow, hbw, kw, hcw⟩ := (hW.e2.on hb8).cells (by omega)
            have hj1 : (j : Int) < 3 := by omega
            obtain ⟨p1, p2, p3, p4⟩ := hcw j (by omega)
            subst hbw
            clear hcw
            have HX := Lib.hid (fun (h : cliE (cliOf W.cs j) ≠ 0) => clisE_at (l := W.cs) (by omega) hp h)
            have HN := Lib.hid (fun (h : cliE (cliOf W.cs j) = 0) i (hi : i < j + 1) => show cliE (cliOf W.cs i) = 0 from if e : i = j then e ▸ h else hp i (by omega))
            clear hp
            generalize cliOf W.cs j = cc at p1 p2 p3 p4 HX HN
            obtain ⟨cn, ca, cb, cf⟩ := cc
            simp only at p1 p2 p3 p4
            have q6 := heap_push wr (.cells #[.int .i64 cn, .string ca, .string cb, .bool cf] 42)
            have hb6 := hb8.alloc hb8.size (.cells #[.int .i64 cn, .string ca, .string cb, .bool cf] 42)
            have hbr6 := hbr.alloc hbr.size (.cells #[.int .i64 cn, .string ca, .string cb, .bool cf] 42)
            have x0 := heap_cell q6 0 _ rfl
            have x1 := heap_cell q6 1 _ rfl
            have x2 := heap_cell q6 2 _ rfl
            go_wp2_with fail
            generalize (wr.alloc (.cells #[.int .i64 cn, .string ca, .string cb, .bool cf] 42)) = w6 at q6 hb6 hbr6 x0 x1 x2 ⊢
            generalize wr.heap.size = B6 at q6 x0 x1 x2 ⊢
            have hh := ncheck_any cn ca cb
            have eH : cliE (cn, ca, cb, cf) = headE cn ca cb := rfl
            rw [eH] at HX HN
            generalize headE cn ca cb = z at hh HX HN
            refine (hh w6).mono ?_
            rintro e w7 ⟨rfl, hb7⟩
            clear x0 x1 x2 hh eH
            by_cases zz : z = 0
            · have hN := HN.out zz
              subst zz
              go_wp2_with fail
              go_roundg (3 - (j + 1))
              case rel => exact ⟨j + 1, by go_num, by omega, by omega, hN, below_on hbr6 hb7⟩
              case measure => omega
            · have hX := HX.out zz
              have g1 : (z == 0) = false := by simp only [beq_eq_false_iff_ne, ne_eq]; exact zz
              go_wp2_with fail
              go_ret
              exact ⟨by rw [EZ.out, hX]; rfl, below_on hb6 hb7⟩
          · obtain rfl : j = 3 := by omega
            have hX := clisE_all (l := W.cs) (fun i hi => hp i (by omega))
            clear hp
            go_wp2_with fail
            go_ret
            exact ⟨by rw [EZ.out, hX]; rfl, below_on hb9 hbr⟩
      · have EZ := Lib.hid (show worldE W = 4 by rw [hEZ, if_pos (by omega)])
        have g1 : ((n2 : Int) == 3) = false := by simp only [beq_eq_false_iff_ne, ne_eq]; omega
        clear hEZ
        go_wp2_with fail
        go_ret
        exact ⟨by rw [EZ.out]; rfl, hb9⟩


theorem isOf_yes (i n : Int) (w : World) (h0 : 0 ≤ i) (h1 : i < n) : Calls Tryz.prog 51 #[.int .i64 i, .int .i64 n] w fun e w' => e = .returned (.bool true) ∧ w = w' := by
  go_enter Tryz.func51, Tryz.ntmps51
  go_wp2_with fail
  go_ret
  exact ⟨rfl, rfl⟩

theorem isOf_low (i n : Int) (w : World) (h0 : ¬ 0 ≤ i) : Calls Tryz.prog 51 #[.int .i64 i, .int .i64 n] w fun e w' => e = .returned (.bool false) ∧ w = w' := by
  go_enter Tryz.func51, Tryz.ntmps51
  go_wp2_with fail
  go_ret
  exact ⟨rfl, rfl⟩

theorem isOf_high (i n : Int) (w : World) (h0 : 0 ≤ i) (h1 : ¬ i < n) : Calls Tryz.prog 51 #[.int .i64 i, .int .i64 n] w fun e w' => e = .returned (.bool false) ∧ w = w' := by
  go_enter Tryz.func51, Tryz.ntmps51
  go_wp2_with fail
  go_ret
  exact ⟨rfl, rfl⟩

theorem isOf_no (i n : Int) (w : World) (h : ¬ (0 ≤ i ∧ i < n)) : Calls Tryz.prog 51 #[.int .i64 i, .int .i64 n] w fun e w' => e = .returned (.bool false) ∧ w = w' := by
  by_cases h0 : 0 ≤ i
  · exact isOf_high i n w h0 (fun h1 => h ⟨h0, h1⟩)
  · exact isOf_low i n w h0

set_option maxHeartbeats 16000000 in
set_option maxRecDepth 100000 in
theorem wd_bad (W : WB) (a0 : Option Addr) (n0 c0 : Nat) (a1 : Option Addr) (n1 c1 : Nat) (a2 : Option Addr) (n2 c2 : Nat) (x : HapB) (w : World) (hW : WAt w a0 n0 c0 a1 n1 c1 a2 n2 c2 W) (z : Int) (hz : worldE W = z) (h0 : z ≠ 0) :
    Calls Tryz.prog 41 #[.agg #[.slice a0 n0 c0, .slice a1 n1 c1, .slice a2 n2 c2], .agg #[.int .i64 x.kind, .int .i64 x.side, .int .i64 x.who, .int .i64 x.other, .int .i64 x.e.1, .string x.e.2]] w fun e w' => e = .returned (.int .i64 z) ∧ Below w.heap.size w w' := by
  have hck := fun w1 h => wcheck_any W a0 n0 c0 a1 n1 c1 a2 n2 c2 w1 h
  rw [hz] at hck
  have hz1 : (z == 0) = false := by simp only [beq_eq_false_iff_ne, ne_eq]; exact h0
  clear hz
  obtain ⟨q2, q3, hb0⟩ := boxes2 w (.cells #[.slice a0 n0 c0, .slice a1 n1 c1, .slice a2 n2 c2] 28) (.cells #[.int .i64 x.kind, .int .i64 x.side, .int .i64 x.who, .int .i64 x.other, .int .i64 x.e.1, .string x.e.2] 52)
  have d2_0 := heap_cell q2 0 _ rfl
  have d2_1 := heap_cell q2 1 _ rfl
  have d2_2 := heap_cell q2 2 _ rfl
  go_enter Tryz.func41, Tryz.ntmps41
  go_wp2_with fail
  generalize ((w.alloc (.cells #[.slice a0 n0 c0, .slice a1 n1 c1, .slice a2 n2 c2] 28)).alloc (.cells #[.int .i64 x.kind, .int .i64 x.side, .int .i64 x.who, .int .i64 x.other, .int .i64 x.e.1, .string x.e.2] 52)) = w0 at q2 q3 hb0 d2_0 d2_1 d2_2 ⊢
  refine (hck w0 (hW.on hb0)).mono ?_
  rintro e w1 ⟨rfl, hb1⟩
  have q2 := heap_on hb1 q2
  have q3 := heap_on hb1 q3
  have hb1 := below_on hb0 hb1
  clear hb0
  clear d2_0 d2_1 d2_2 hck
  go_wp2_with fail
  go_ret
  exact ⟨rfl, hb1⟩

set_option maxHeartbeats 16000000 in
set_option maxRecDepth 100000 in
theorem wd_low (W : WB) (a0 : Option Addr) (n0 c0 : Nat) (a1 : Option Addr) (n1 c1 : Nat) (a2 : Option Addr) (n2 c2 : Nat) (x : HapB) (w : World) (hW : WAt w a0 n0 c0 a1 n1 c1 a2 n2 c2 W) (hG : worldE W = 0) (hk : x.kind < 1) :
    Calls Tryz.prog 41 #[.agg #[.slice a0 n0 c0, .slice a1 n1 c1, .slice a2 n2 c2], .agg #[.int .i64 x.kind, .int .i64 x.side, .int .i64 x.who, .int .i64 x.other, .int .i64 x.e.1, .string x.e.2]] w fun e w' => e = .returned (.int .i64 4) ∧ Below w.heap.size w w' := by
  have hck := fun w1 h => wcheck_any W a0 n0 c0 a1 n1 c1 a2 n2 c2 w1 h
  rw [hG] at hck
  have g1 : decide (x.kind < 1) = true := decide_eq_true hk
  obtain ⟨q2, q3, hb0⟩ := boxes2 w (.cells #[.slice a0 n0 c0, .slice a1 n1 c1, .slice a2 n2 c2] 28) (.cells #[.int .i64 x.kind, .int .i64 x.side, .int .i64 x.who, .int .i64 x.other, .int .i64 x.e.1, .string x.e.2] 52)
  have d2_0 := heap_cell q2 0 _ rfl
  have d2_1 := heap_cell q2 1 _ rfl
  have d2_2 := heap_cell q2 2 _ rfl
  go_enter Tryz.func41, Tryz.ntmps41
  go_wp2_with fail
  generalize ((w.alloc (.cells #[.slice a0 n0 c0, .slice a1 n1 c1, .slice a2 n2 c2] 28)).alloc (.cells #[.int .i64 x.kind, .int .i64 x.side, .int .i64 x.who, .int .i64 x.other, .int .i64 x.e.1, .string x.e.2] 52)) = w0 at q2 q3 hb0 d2_0 d2_1 d2_2 ⊢
  refine (hck w0 (hW.on hb0)).mono ?_
  rintro e w1 ⟨rfl, hb1⟩
  have q2 := heap_on hb1 q2
  have q3 := heap_on hb1 q3
  have hb1 := below_on hb0 hb1
  clear hb0
  clear d2_0 d2_1 d2_2 hck
  have d3_0 := heap_cell q3 0 _ rfl
  go_wp2_with fail
  go_ret
  exact ⟨rfl, hb1⟩

set_option maxHeartbeats 16000000 in
set_option maxRecDepth 100000 in
theorem wd_high (W : WB) (a0 : Option Addr) (n0 c0 : Nat) (a1 : Option Addr) (n1 c1 : Nat) (a2 : Option Addr) (n2 c2 : Nat) (x : HapB) (w : World) (hW : WAt w a0 n0 c0 a1 n1 c1 a2 n2 c2 W) (hG : worldE W = 0) (hk : ¬ x.kind < 1) (hk5 : 5 < x.kind) :
    Calls Tryz.prog 41 #[.agg #[.slice a0 n0 c0, .slice a1 n1 c1, .slice a2 n2 c2], .agg #[.int .i64 x.kind, .int .i64 x.side, .int .i64 x.who, .int .i64 x.other, .int .i64 x.e.1, .string x.e.2]] w fun e w' => e = .returned (.int .i64 4) ∧ Below w.heap.size w w' := by
  have hck := fun w1 h => wcheck_any W a0 n0 c0 a1 n1 c1 a2 n2 c2 w1 h
  rw [hG] at hck
  have g1 : decide (x.kind < 1) = false := decide_eq_false hk
  have g2 : decide (5 < x.kind) = true := decide_eq_true hk5
  obtain ⟨q2, q3, hb0⟩ := boxes2 w (.cells #[.slice a0 n0 c0, .slice a1 n1 c1, .slice a2 n2 c2] 28) (.cells #[.int .i64 x.kind, .int .i64 x.side, .int .i64 x.who, .int .i64 x.other, .int .i64 x.e.1, .string x.e.2] 52)
  have d2_0 := heap_cell q2 0 _ rfl
  have d2_1 := heap_cell q2 1 _ rfl
  have d2_2 := heap_cell q2 2 _ rfl
  go_enter Tryz.func41, Tryz.ntmps41
  go_wp2_with fail
  generalize ((w.alloc (.cells #[.slice a0 n0 c0, .slice a1 n1 c1, .slice a2 n2 c2] 28)).alloc (.cells #[.int .i64 x.kind, .int .i64 x.side, .int .i64 x.who, .int .i64 x.other, .int .i64 x.e.1, .string x.e.2] 52)) = w0 at q2 q3 hb0 d2_0 d2_1 d2_2 ⊢
  refine (hck w0 (hW.on hb0)).mono ?_
  rintro e w1 ⟨rfl, hb1⟩
  have q2 := heap_on hb1 q2
  have q3 := heap_on hb1 q3
  have hb1 := below_on hb0 hb1
  clear hb0
  clear d2_0 d2_1 d2_2 hck
  have d3_0 := heap_cell q3 0 _ rfl
  go_wp2_with fail
  go_ret
  exact ⟨rfl, hb1⟩

set_option maxHeartbeats 16000000 in
set_option maxRecDepth 100000 in
theorem wd_side (W : WB) (a0 : Option Addr) (n0 c0 : Nat) (a1 : Option Addr) (n1 c1 : Nat) (a2 : Option Addr) (n2 c2 : Nat) (x : HapB) (w : World) (hW : WAt w a0 n0 c0 a1 n1 c1 a2 n2 c2 W) (hG : worldE W = 0) (hk : ¬ x.kind < 1) (hk5 : ¬ 5 < x.kind) (hs : ¬ (0 ≤ x.side ∧ x.side ≤ 1)) :
    Calls Tryz.prog 41 #[.agg #[.slice a0 n0 c0, .slice a1 n1 c1, .slice a2 n2 c2], .agg #[.int .i64 x.kind, .int .i64 x.side, .int .i64 x.who, .int .i64 x.other, .int .i64 x.e.1, .string x.e.2]] w fun e w' => e = .returned (.int .i64 5) ∧ Below w.heap.size w w' := by
  have hck := fun w1 h => wcheck_any W a0 n0 c0 a1 n1 c1 a2 n2 c2 w1 h
  rw [hG] at hck
  have g1 : decide (x.kind < 1) = false := decide_eq_false hk
  have g2 : decide (5 < x.kind) = false := decide_eq_false hk5
  obtain rfl : n2 = 3 := by rw [← hW.l2]; exact ((worldE_iff W).1 hG).2.2.1
  obtain ⟨q2, q3, hb0⟩ := boxes2 w (.cells #[.slice a0 n0 c0, .slice a1 n1 c1, .slice a2 3 c2] 28) (.cells #[.int .i64 x.kind, .int .i64 x.side, .int .i64 x.who, .int .i64 x.other, .int .i64 x.e.1, .string x.e.2] 52)
  have d2_0 := heap_cell q2 0 _ rfl
  have d2_1 := heap_cell q2 1 _ rfl
  have d2_2 := heap_cell q2 2 _ rfl
  go_enter Tryz.func41, Tryz.ntmps41
  go_wp2_with fail
  generalize ((w.alloc (.cells #[.slice a0 n0 c0, .slice a1 n1 c1, .slice a2 3 c2] 28)).alloc (.cells #[.int .i64 x.kind, .int .i64 x.side, .int .i64 x.who, .int .i64 x.other, .int .i64 x.e.1, .string x.e.2] 52)) = w0 at q2 q3 hb0 d2_0 d2_1 d2_2 ⊢
  refine (hck w0 (hW.on hb0)).mono ?_
  rintro e w1 ⟨rfl, hb1⟩
  have q2 := heap_on hb1 q2
  have q3 := heap_on hb1 q3
  have hb1 := below_on hb0 hb1
  clear hb0
  clear d2_0 d2_1 d2_2 hck
  have d3_0 := heap_cell q3 0 _ rfl
  have d3_1 := heap_cell q3 1 _ rfl
  have d2_2 := heap_cell q2 2 _ rfl
  go_wp2_with fail
  refine (isOf_no x.side 2 w1 (by omega)).mono ?_
  rintro e _ ⟨rfl, rfl⟩
  go_wp2_with fail
  go_ret
  exact ⟨rfl, hb1⟩

set_option maxHeartbeats 16000000 in
set_option maxRecDepth 100000 in
theorem wd_who (W : WB) (a0 : Option Addr) (n0 c0 : Nat) (a1 : Option Addr) (n1 c1 : Nat) (a2 : Option Addr) (n2 c2 : Nat) (x : HapB) (w : World) (hW : WAt w a0 n0 c0 a1 n1 c1 a2 n2 c2 W) (hG : worldE W = 0) (hk : ¬ x.kind < 1) (hk5 : ¬ 5 < x.kind) (hs : 0 ≤ x.side ∧ x.side ≤ 1) (hw : ¬ (0 ≤ x.who ∧ x.who ≤ 2)) :
    Calls Tryz.prog 41 #[.agg #[.slice a0 n0 c0, .slice a1 n1 c1, .slice a2 n2 c2], .agg #[.int .i64 x.kind, .int .i64 x.side, .int .i64 x.who, .int .i64 x.other, .int .i64 x.e.1, .string x.e.2]] w fun e w' => e = .returned (.int .i64 5) ∧ Below w.heap.size w w' := by
  have hck := fun w1 h => wcheck_any W a0 n0 c0 a1 n1 c1 a2 n2 c2 w1 h
  rw [hG] at hck
  have g1 : decide (x.kind < 1) = false := decide_eq_false hk
  have g2 : decide (5 < x.kind) = false := decide_eq_false hk5
  obtain rfl : n2 = 3 := by rw [← hW.l2]; exact ((worldE_iff W).1 hG).2.2.1
  obtain ⟨q2, q3, hb0⟩ := boxes2 w (.cells #[.slice a0 n0 c0, .slice a1 n1 c1, .slice a2 3 c2] 28) (.cells #[.int .i64 x.kind, .int .i64 x.side, .int .i64 x.who, .int .i64 x.other, .int .i64 x.e.1, .string x.e.2] 52)
  have d2_0 := heap_cell q2 0 _ rfl
  have d2_1 := heap_cell q2 1 _ rfl
  have d2_2 := heap_cell q2 2 _ rfl
  go_enter Tryz.func41, Tryz.ntmps41
  go_wp2_with fail
  generalize ((w.alloc (.cells #[.slice a0 n0 c0, .slice a1 n1 c1, .slice a2 3 c2] 28)).alloc (.cells #[.int .i64 x.kind, .int .i64 x.side, .int .i64 x.who, .int .i64 x.other, .int .i64 x.e.1, .string x.e.2] 52)) = w0 at q2 q3 hb0 d2_0 d2_1 d2_2 ⊢
  refine (hck w0 (hW.on hb0)).mono ?_
  rintro e w1 ⟨rfl, hb1⟩
  have q2 := heap_on hb1 q2
  have q3 := heap_on hb1 q3
  have hb1 := below_on hb0 hb1
  clear hb0
  clear d2_0 d2_1 d2_2 hck
  have d3_0 := heap_cell q3 0 _ rfl
  have d3_1 := heap_cell q3 1 _ rfl
  have d3_2 := heap_cell q3 2 _ rfl
  have d2_2 := heap_cell q2 2 _ rfl
  go_wp2_with fail
  refine (isOf_yes x.side 2 w1 hs.1 (by omega)).mono ?_
  rintro e _ ⟨rfl, rfl⟩
  go_wp2_with fail
  refine (isOf_no x.who 3 w1 (by omega)).mono ?_
  rintro e _ ⟨rfl, rfl⟩
  go_wp2_with fail
  go_ret
  exact ⟨rfl, hb1⟩

set_option maxHeartbeats 16000000 in
set_option maxRecDepth 100000 in
theorem wd_other (W : WB) (a0 : Option Addr) (n0 c0 : Nat) (a1 : Option Addr) (n1 c1 : Nat) (a2 : Option Addr) (n2 c2 : Nat) (x : HapB) (w : World) (hW : WAt w a0 n0 c0 a1 n1 c1 a2 n2 c2 W) (hG : worldE W = 0) (hk : ¬ x.kind < 1) (hk5 : ¬ 5 < x.kind) (hs : 0 ≤ x.side ∧ x.side ≤ 1) (hw : 0 ≤ x.who ∧ x.who ≤ 2) (ho : ¬ (0 ≤ x.other ∧ x.other ≤ 2)) :
    Calls Tryz.prog 41 #[.agg #[.slice a0 n0 c0, .slice a1 n1 c1, .slice a2 n2 c2], .agg #[.int .i64 x.kind, .int .i64 x.side, .int .i64 x.who, .int .i64 x.other, .int .i64 x.e.1, .string x.e.2]] w fun e w' => e = .returned (.int .i64 5) ∧ Below w.heap.size w w' := by
  have hck := fun w1 h => wcheck_any W a0 n0 c0 a1 n1 c1 a2 n2 c2 w1 h
  rw [hG] at hck
  have g1 : decide (x.kind < 1) = false := decide_eq_false hk
  have g2 : decide (5 < x.kind) = false := decide_eq_false hk5
  obtain rfl : n2 = 3 := by rw [← hW.l2]; exact ((worldE_iff W).1 hG).2.2.1
  obtain ⟨q2, q3, hb0⟩ := boxes2 w (.cells #[.slice a0 n0 c0, .slice a1 n1 c1, .slice a2 3 c2] 28) (.cells #[.int .i64 x.kind, .int .i64 x.side, .int .i64 x.who, .int .i64 x.other, .int .i64 x.e.1, .string x.e.2] 52)
  have d2_0 := heap_cell q2 0 _ rfl
  have d2_1 := heap_cell q2 1 _ rfl
  have d2_2 := heap_cell q2 2 _ rfl
  go_enter Tryz.func41, Tryz.ntmps41
  go_wp2_with fail
  generalize ((w.alloc (.cells #[.slice a0 n0 c0, .slice a1 n1 c1, .slice a2 3 c2] 28)).alloc (.cells #[.int .i64 x.kind, .int .i64 x.side, .int .i64 x.who, .int .i64 x.other, .int .i64 x.e.1, .string x.e.2] 52)) = w0 at q2 q3 hb0 d2_0 d2_1 d2_2 ⊢
  refine (hck w0 (hW.on hb0)).mono ?_
  rintro e w1 ⟨rfl, hb1⟩
  have q2 := heap_on hb1 q2
  have q3 := heap_on hb1 q3
  have hb1 := below_on hb0 hb1
  clear hb0
  clear d2_0 d2_1 d2_2 hck
  have d3_0 := heap_cell q3 0 _ rfl
  have d3_1 := heap_cell q3 1 _ rfl
  have d3_2 := heap_cell q3 2 _ rfl
  have d3_3 := heap_cell q3 3 _ rfl
  have d2_2 := heap_cell q2 2 _ rfl
  go_wp2_with fail
  refine (isOf_yes x.side 2 w1 hs.1 (by omega)).mono ?_
  rintro e _ ⟨rfl, rfl⟩
  go_wp2_with fail
  refine (isOf_yes x.who 3 w1 hw.1 (by omega)).mono ?_
  rintro e _ ⟨rfl, rfl⟩
  go_wp2_with fail
  refine (isOf_no x.other 3 w1 (by omega)).mono ?_
  rintro e _ ⟨rfl, rfl⟩
  go_wp2_with fail
  go_ret
  exact ⟨rfl, hb1⟩

set_option maxHeartbeats 16000000 in
set_option maxRecDepth 100000 in
theorem wd_ok (W : WB) (a0 : Option Addr) (n0 c0 : Nat) (a1 : Option Addr) (n1 c1 : Nat) (a2 : Option Addr) (n2 c2 : Nat) (x : HapB) (w : World) (hW : WAt w a0 n0 c0 a1 n1 c1 a2 n2 c2 W) (hG : worldE W = 0) (hk : ¬ x.kind < 1) (hk5 : ¬ 5 < x.kind) (hs : 0 ≤ x.side ∧ x.side ≤ 1) (hw : 0 ≤ x.who ∧ x.who ≤ 2) (ho : 0 ≤ x.other ∧ x.other ≤ 2) :
    Calls Tryz.prog 41 #[.agg #[.slice a0 n0 c0, .slice a1 n1 c1, .slice a2 n2 c2], .agg #[.int .i64 x.kind, .int .i64 x.side, .int .i64 x.who, .int .i64 x.other, .int .i64 x.e.1, .string x.e.2]] w fun e w' => e = .returned (.int .i64 0) ∧ Below w.heap.size w w' := by
  have hck := fun w1 h => wcheck_any W a0 n0 c0 a1 n1 c1 a2 n2 c2 w1 h
  rw [hG] at hck
  have g1 : decide (x.kind < 1) = false := decide_eq_false hk
  have g2 : decide (5 < x.kind) = false := decide_eq_false hk5
  obtain rfl : n2 = 3 := by rw [← hW.l2]; exact ((worldE_iff W).1 hG).2.2.1
  obtain ⟨q2, q3, hb0⟩ := boxes2 w (.cells #[.slice a0 n0 c0, .slice a1 n1 c1, .slice a2 3 c2] 28) (.cells #[.int .i64 x.kind, .int .i64 x.side, .int .i64 x.who, .int .i64 x.other, .int .i64 x.e.1, .string x.e.2] 52)
  have d2_0 := heap_cell q2 0 _ rfl
  have d2_1 := heap_cell q2 1 _ rfl
  have d2_2 := heap_cell q2 2 _ rfl
  go_enter Tryz.func41, Tryz.ntmps41
  go_wp2_with fail
  generalize ((w.alloc (.cells #[.slice a0 n0 c0, .slice a1 n1 c1, .slice a2 3 c2] 28)).alloc (.cells #[.int .i64 x.kind, .int .i64 x.side, .int .i64 x.who, .int .i64 x.other, .int .i64 x.e.1, .string x.e.2] 52)) = w0 at q2 q3 hb0 d2_0 d2_1 d2_2 ⊢
  refine (hck w0 (hW.on hb0)).mono ?_
  rintro e w1 ⟨rfl, hb1⟩
  have q2 := heap_on hb1 q2
  have q3 := heap_on hb1 q3
  have hb1 := below_on hb0 hb1
  clear hb0
  clear d2_0 d2_1 d2_2 hck
  have d3_0 := heap_cell q3 0 _ rfl
  have d3_1 := heap_cell q3 1 _ rfl
  have d3_2 := heap_cell q3 2 _ rfl
  have d3_3 := heap_cell q3 3 _ rfl
  have d2_2 := heap_cell q2 2 _ rfl
  go_wp2_with fail
  refine (isOf_yes x.side 2 w1 hs.1 (by omega)).mono ?_
  rintro e _ ⟨rfl, rfl⟩
  go_wp2_with fail
  refine (isOf_yes x.who 3 w1 hw.1 (by omega)).mono ?_
  rintro e _ ⟨rfl, rfl⟩
  go_wp2_with fail
  refine (isOf_yes x.other 3 w1 ho.1 (by omega)).mono ?_
  rintro e _ ⟨rfl, rfl⟩
  go_wp2_with fail
  go_ret
  exact ⟨rfl, hb1⟩

def chkW (W : WB) (x : HapB) : Int := if worldE W ≠ 0 then worldE W else if ¬ (1 ≤ x.kind ∧ x.kind ≤ 5) then 4 else if ¬ rightX x then 5 else 0
theorem wd_check (W : WB) (a0 : Option Addr) (n0 c0 : Nat) (a1 : Option Addr) (n1 c1 : Nat) (a2 : Option Addr) (n2 c2 : Nat) (x : HapB) (w : World) (hW : WAt w a0 n0 c0 a1 n1 c1 a2 n2 c2 W) :
    Calls Tryz.prog 41 #[.agg #[.slice a0 n0 c0, .slice a1 n1 c1, .slice a2 n2 c2], .agg #[.int .i64 x.kind, .int .i64 x.side, .int .i64 x.who, .int .i64 x.other, .int .i64 x.e.1, .string x.e.2]] w fun e w' => e = .returned (.int .i64 (chkW W x)) ∧ Below w.heap.size w w' := by
  unfold chkW
  by_cases hG : worldE W = 0
  · rw [if_neg (fun h => h hG)]
    by_cases hk : x.kind < 1
    · rw [if_pos (fun h => by omega)]
      exact wd_low W a0 n0 c0 a1 n1 c1 a2 n2 c2 x w hW hG hk
    · by_cases hk5 : 5 < x.kind
      · rw [if_pos (fun h => by omega)]
        exact wd_high W a0 n0 c0 a1 n1 c1 a2 n2 c2 x w hW hG hk hk5
      · rw [if_neg (fun h => h ⟨by omega, by omega⟩)]
        by_cases hs : 0 ≤ x.side ∧ x.side ≤ 1
        · by_cases hw : 0 ≤ x.who ∧ x.who ≤ 2
          · by_cases ho : 0 ≤ x.other ∧ x.other ≤ 2
            · rw [if_neg (fun h => h ⟨hs.1, hs.2, hw.1, hw.2, ho.1, ho.2⟩)]
              exact wd_ok W a0 n0 c0 a1 n1 c1 a2 n2 c2 x w hW hG hk hk5 hs hw ho
            · rw [if_pos (fun h => ho ⟨h.2.2.2.2.1, h.2.2.2.2.2⟩)]
              exact wd_other W a0 n0 c0 a1 n1 c1 a2 n2 c2 x w hW hG hk hk5 hs hw ho
          · rw [if_pos (fun h => hw ⟨h.2.2.1, h.2.2.2.1⟩)]
            exact wd_who W a0 n0 c0 a1 n1 c1 a2 n2 c2 x w hW hG hk hk5 hs hw
        · rw [if_pos (fun h => hs ⟨h.1, h.2.1⟩)]
          exact wd_side W a0 n0 c0 a1 n1 c1 a2 n2 c2 x w hW hG hk hk5 hs
  · rw [if_pos hG]
    exact wd_bad W a0 n0 c0 a1 n1 c1 a2 n2 c2 x w hW _ rfl hG

end Go.Proofs.YtnemiobgmdpnmagGreatFmt
namespace Go.Proofs.YtnemiobgmdpnmagGreatFmt
open Go Go.RowKit

structure HoldsW (w : World) (B N g : Nat) (u0 : Option Addr) (n0 d0 : Nat) (u1 : Option Addr) (n1 d1 d2 : Nat) (cur : Array Value) (W : WB) : Prop where
  box : w.heap[N]? = some (.cells #[.slice u0 n0 d0, .slice u1 n1 d1, .slice (some ⟨g, 0, none⟩) 3 d2] 28)
  l0 : W.b0.length = n0
  e0 : EntsAt w u0 d0 W.b0
  l1 : W.b1.length = n1
  e1 : EntsAt w u1 d1 W.b1
  l2 : W.cs.length = 3
  cli : w.heap[g]? = some (.cells cur 42)
  is : CurIs cur W.cs
  cap : 3 ≤ d2
  max : d2 ≤ maxLen
  wide : ∀ e ∈ W.cs, WideCli e
  ne : g ≠ N
  f0 : ∀ blk off, u0 = some ⟨blk, off, none⟩ → B ≤ blk ∧ blk ≠ N ∧ blk ≠ g
  f1 : ∀ blk off, u1 = some ⟨blk, off, none⟩ → B ≤ blk ∧ blk ≠ N ∧ blk ≠ g
  lN : B ≤ N
  lg : B ≤ g
section
variable {w w' : World} {B N g : Nat} {u0 : Option Addr} {n0 d0 : Nat} {u1 : Option Addr} {n1 d1 d2 : Nat} {cur : Array Value} {W : WB}
theorem HoldsW.wat (h : HoldsW w B N g u0 n0 d0 u1 n1 d1 d2 cur W) : WAt w u0 n0 d0 u1 n1 d1 (some ⟨g, 0, none⟩) 3 d2 W :=
  ⟨h.l0, h.e0, h.l1, h.e1, h.l2, h.is.clis h.cli (by have := h.cap; have := h.l2; omega) h.max h.wide⟩
theorem HoldsW.on (h : HoldsW w B N g u0 n0 d0 u1 n1 d1 d2 cur W) (hb : Below w.heap.size w w') : HoldsW w' B N g u0 n0 d0 u1 n1 d1 d2 cur W :=
  ⟨heap_on hb h.box, h.l0, h.e0.on hb, h.l1, h.e1.on hb, h.l2, heap_on hb h.cli, h.is, h.cap, h.max, h.wide, h.ne, h.f0, h.f1, h.lN, h.lg⟩
theorem HoldsW.ltN (h : HoldsW w B N g u0 n0 d0 u1 n1 d1 d2 cur W) : N < w.heap.size := (Array.getElem?_eq_some_iff.1 h.box).1
theorem HoldsW.ltg (h : HoldsW w B N g u0 n0 d0 u1 n1 d1 d2 cur W) : g < w.heap.size := (Array.getElem?_eq_some_iff.1 h.cli).1
/- What a happening leaves: one block alone is another one; where it answers no error the world is in its box. -/
def HapPost (w w' : World) (B N g : Nat) (z : Int) (V : WB) : Prop :=
  ∃ b, (b = N ∨ b = g) ∧ w.grownBy w' (some b) ∧ (z = 0 → ∃ u0 n0 d0 u1 n1 d1 d2 cur, HoldsW w' B N g u0 n0 d0 u1 n1 d1 d2 cur V)
theorem HoldsW.same (h : HoldsW w B N g u0 n0 d0 u1 n1 d1 d2 cur W) (hb : Below w.heap.size w w') (z : Int) : HapPost w w' B N g z W :=
  ⟨N, .inl rfl, below_grown hb _, fun _ => ⟨_, _, _, _, _, _, _, _, h.on hb⟩⟩
theorem hap_none (hb : Below w.heap.size w w') {z : Int} (hz : z ≠ 0) (V : WB) : HapPost w w' B N g z V :=
  ⟨N, .inl rfl, below_grown hb _, fun e => absurd e hz⟩
theorem HoldsW.clients (h : HoldsW w B N g u0 n0 d0 u1 n1 d1 d2 cur W) (hg : w.grownBy w' (some g)) {cur' : Array Value} (hc : w'.heap[g]? = some (.cells cur' 42)) {cs : List CliB} (hi : CurIs cur' cs) (hl : cs.length = 3) (hw : ∀ e ∈ cs, WideCli e) (z : Int) :
    HapPost w w' B N g z { W with cs := cs } :=
  ⟨g, .inr rfl, hg, fun _ => ⟨u0, n0, d0, u1, n1, d1, d2, cur', heap_kept hg h.box (by intro e; injection e with e; exact h.ne e), h.l0, h.e0.grown hg (fun b off e => by intro e2; injection e2 with e2; exact (h.f0 b off e).2.2 e2.symm),
    h.l1, h.e1.grown hg (fun b off e => by intro e2; injection e2 with e2; exact (h.f1 b off e).2.2 e2.symm), hl, hc, hi, h.cap, h.max, hw, h.ne, h.f0, h.f1, h.lN, h.lg⟩⟩
theorem HoldsW.side (h : HoldsW w B N g u0 n0 d0 u1 n1 d1 d2 cur W) (hg : w.grownBy w' (some N)) {s : Nat} {a : Option Addr} {n c : Nat} (hb : w'.heap[N]? = some (.cells (side3 s (.slice a n c) (.slice u0 n0 d0) (.slice u1 n1 d1) (.slice (some ⟨g, 0, none⟩) 3 d2)) 28))
    {l : List EntB} (hl : l.length = n) (hE : EntsAt w' a c l) (hf : ∀ blk off, a = some ⟨blk, off, none⟩ → B ≤ blk ∧ blk ≠ N ∧ blk ≠ g) (z : Int) : HapPost w w' B N g z (setSide W s l) := by
  have hc : w'.heap[g]? = some (.cells cur 42) := heap_kept hg h.cli (by intro e; injection e with e; exact h.ne e.symm)
  have e0 := h.e0.grown hg (fun b off e => by intro e2; injection e2 with e2; exact (h.f0 b off e).2.1 e2.symm)
  have e1 := h.e1.grown hg (fun b off e => by intro e2; injection e2 with e2; exact (h.f1 b off e).2.1 e2.symm)
  refine ⟨N, .inl rfl, hg, fun _ => ?_⟩
  by_cases h0 : s = 0
  · have e : setSide W s l = { W with b0 := l } := if_pos (by omega)
    rw [e]
    subst h0
    exact ⟨a, n, c, u1, n1, d1, d2, cur, hb, hl, hE, h.l1, e1, h.l2, hc, h.is, h.cap, h.max, h.wide, h.ne, hf, h.f1, h.lN, h.lg⟩
  · have e : setSide W s l = { W with b1 := l } := if_neg (by omega)
    rw [e]
    rw [show side3 s (.slice a n c) (.slice u0 n0 d0) (.slice u1 n1 d1) (.slice (some ⟨g, 0, none⟩) 3 d2) = #[.slice u0 n0 d0, .slice a n c, .slice (some ⟨g, 0, none⟩) 3 d2] from if_neg h0] at hb
    exact ⟨u0, n0, d0, a, n, c, d2, cur, hb, h.l0, e0, hl, hE, h.l2, hc, h.is, h.cap, h.max, h.wide, h.ne, h.f0, hf, h.lN, h.lg⟩
theorem HapPost.below {W0 : World} {C : Nat} {z : Int} {V : WB} (h : HapPost w w' B N g z V) (hN : C ≤ N) (hg : C ≤ g) (hB : C ≤ w.heap.size) (hb : Below C W0 w) : Below C W0 w' := by
  obtain ⟨b, hbb, hgr, _⟩ := h
  exact hb.grown hgr hB (fun j hj => by injection hj with hj; rcases hbb with rfl | rfl <;> omega)
theorem HapPost.kept {z : Int} {V : WB} (h : HapPost w w' B N g z V) {i : Nat} {x : Obj} (hx : w.heap[i]? = some x) (hN : i ≠ N) (hg : i ≠ g) : w'.heap[i]? = some x := by
  obtain ⟨b, hbb, hgr, _⟩ := h
  exact heap_kept hgr hx (by intro e; injection e with e; rcases hbb with rfl | rfl <;> omega)
theorem HapPost.pre {w1 : World} {z : Int} {V : WB} (hb : Below w.heap.size w w1) (h : HapPost w1 w' B N g z V) : HapPost w w' B N g z V := by
  obtain ⟨b, hbb, hgr, hz⟩ := h
  exact ⟨b, hbb, grow_trans (below_grown hb _) hgr (fun j hj => .inl (by injection hj with hj; exact hj.symm)), hz⟩
theorem HapPost.post {w1 : World} {z : Int} {V : WB} (h : HapPost w w1 B N g z V) (hb : Below w1.heap.size w1 w') : HapPost w w' B N g z V := by
  obtain ⟨b, hbb, hgr, hz⟩ := h
  refine ⟨b, hbb, grow_trans hgr (below_grown hb none) (fun j hj => by cases hj), fun e => ?_⟩
  obtain ⟨x1, x2, x3, x4, x5, x6, x7, x8, hx⟩ := hz e
  exact ⟨x1, x2, x3, x4, x5, x6, x7, x8, hx.on hb⟩
theorem HapPost.other {z : Int} {V : WB} (h : HapPost w w' B N g z V) (hz : z ≠ 0) (U : WB) : HapPost w w' B N g z U := by
  obtain ⟨b, hbb, hgr, _⟩ := h
  exact ⟨b, hbb, hgr, fun e => absurd e hz⟩
theorem HapPost.size {z : Int} {V : WB} (h : HapPost w w' B N g z V) : w.heap.size ≤ w'.heap.size := by
  obtain ⟨b, hbb, hgr, _⟩ := h
  exact hgr.size
end
end Go.Proofs.YtnemiobgmdpnmagGreatFmt
namespace Go.Proofs.YtnemiobgmdpnmagGreatFmt
open Go Go.RowKit

/- A list that lies behind what was there. -/
def NewAt (w wr : World) (u : Option Addr) : Prop := ∀ blk off, u = some ⟨blk, off, none⟩ → w.heap.size + 1 + 1 ≤ blk ∧ blk < wr.heap.size
theorem NewAt.le {w wr wr' : World} {u : Option Addr} (h : NewAt w wr u) (hs : wr.heap.size ≤ wr'.heap.size) : NewAt w wr' u := fun blk off e => ⟨(h blk off e).1, Nat.lt_of_lt_of_le (h blk off e).2 hs⟩

set_option maxHeartbeats 16000000 in
set_option maxRecDepth 100000 in
theorem wcopied_any (W : WB) (a0 : Option Addr) (n0 c0 : Nat) (a1 : Option Addr) (n1 c1 : Nat) (a2 : Option Addr) (n2 c2 : Nat) (w : World) (hW : WAt w a0 n0 c0 a1 n1 c1 a2 n2 c2 W) (hG : worldE W = 0) :
    Calls Tryz.prog 27 #[.agg #[.slice a0 n0 c0, .slice a1 n1 c1, .slice a2 n2 c2]] w fun e w' => ∃ u0 d0 u1 d1 g d2 cur, e = .returned (.agg #[.slice u0 n0 d0, .slice u1 n1 d1, .slice (some ⟨g, 0, none⟩) 3 d2]) ∧ EntsAt w' u0 d0 W.b0 ∧ EntsAt w' u1 d1 W.b1 ∧ w'.heap[g]? = some (.cells cur 42) ∧ CurIs cur W.cs ∧ 3 ≤ d2 ∧ d2 ≤ maxLen ∧ w.heap.size ≤ g ∧ (∀ blk off, u0 = some ⟨blk, off, none⟩ → w.heap.size ≤ blk ∧ blk < g) ∧ (∀ blk off, u1 = some ⟨blk, off, none⟩ → w.heap.size ≤ blk ∧ blk < g) ∧ Below w.heap.size w w' := by
  obtain ⟨hG0, hG1, h3, _⟩ := (worldE_iff W).1 hG
  have h024 := hG0.1
  have h124 := hG1.1
  have hl0 := hW.l0
  have hl1 := hW.l1
  obtain rfl : n2 = 3 := by rw [← hW.l2]; exact h3
  have HC0 := Lib.hid (fun w1 hS => clone_ents_own W.b0 a0 n0 c0 w1 hl0 (by omega) hS)
  have HC1 := Lib.hid (fun w1 hS => clone_ents_own W.b1 a1 n1 c1 w1 hl1 (by omega) hS)
  have HCC := Lib.hid (fun w1 hS => clone_clis W.cs a2 3 c2 w1 h3 (by omega) (by omega) hS)
  obtain ⟨q1, q2, hb0⟩ := boxes2 w (.cells #[.slice a0 n0 c0, .slice a1 n1 c1, .slice a2 3 c2] 28) (.cells #[.slice none 0 0, .slice none 0 0, .slice none 0 0] 28)
  have hs0 : ((w.alloc (.cells #[.slice a0 n0 c0, .slice a1 n1 c1, .slice a2 3 c2] 28)).alloc (.cells #[.slice none 0 0, .slice none 0 0, .slice none 0 0] 28)).heap.size = w.heap.size + 1 + 1 := by rw [heap_size, heap_size]
  go_enter Tryz.func27, Tryz.ntmps27
  go_wp2_with fail
  generalize ((w.alloc (.cells #[.slice a0 n0 c0, .slice a1 n1 c1, .slice a2 3 c2] 28)).alloc (.cells #[.slice none 0 0, .slice none 0 0, .slice none 0 0] 28)) = w0 at q1 q2 hb0 hs0 ⊢
  go_loopg [4] 2 (fun gh s4 wr => wr.heap[w.heap.size + 1]? = some (.cells #[.slice none 0 0, .slice none 0 0, .slice none 0 0] 28) ∧ w0.heap.size ≤ wr.heap.size ∧ Below w.heap.size w wr ∧ ((s4 = .int .i64 0 ∧ 2 ≤ gh ∧ wr.heap[w.heap.size]? = some (.cells #[.slice a0 n0 c0, .slice a1 n1 c1, .slice a2 3 c2] 28)) ∨ (s4 = .int .i64 1 ∧ 1 ≤ gh ∧ ∃ u0 d0, wr.heap[w.heap.size]? = some (.cells #[.slice u0 n0 d0, .slice a1 n1 c1, .slice a2 3 c2] 28) ∧ EntsAt wr u0 d0 W.b0 ∧ NewAt w wr u0) ∨ (s4 = .int .i64 2 ∧ ∃ u0 d0 u1 d1, wr.heap[w.heap.size]? = some (.cells #[.slice u0 n0 d0, .slice u1 n1 d1, .slice a2 3 c2] 28) ∧ EntsAt wr u0 d0 W.b0 ∧ NewAt w wr u0 ∧ EntsAt wr u1 d1 W.b1 ∧ NewAt w wr u1)))
  case atStart => exact ⟨q2, Nat.le_refl _, hb0, .inl ⟨rfl, by omega, q1⟩⟩
  case round =>
    clear q1 q2 hb0
    obtain ⟨q2, hsz, hb1, hrel⟩ := hrel
    rcases hrel with ⟨rfl, hgh, q1⟩ | ⟨rfl, hgh, u0, d0, q1, hE0, hN0⟩ | ⟨rfl, u0, d0, u1, d1, q1, hE0, hN0, hE1, hN1⟩
    · have d0 := heap_cell q1 0 _ rfl
      go_wp2_with fail
      refine (HC0.out wr (hW.e0.on hb1)).mono ?_
      rintro e w3 ⟨aC, cC, rfl, hoC, hb3⟩
      have q1 := heap_on hb3 q1
      have q2 := heap_on hb3 q2
      have hb4 := below_on hb1 hb3
      have hs3 := hb3.size
      clear d0 hb1 hb3 HC0 HC1 HCC
      have hEn := ents_owned hoC hW.e0.sz
      have hlt : ∀ b off, aC = some ⟨b, off, none⟩ → w.heap.size + 1 + 1 ≤ b ∧ b < w3.heap.size := fun b off e => by subst e; have := hoC.lt b rfl; omega
      have d0 := heap_cell q1 0 _ rfl
      have f0 := frozen_of_row w3 w.heap.size 0 _ _ q1
      go_upto_region 5 with fail
      clear d0 f0 hoC
      have hbs := below_set hb4 (Nat.le_refl _) q1 0 (.slice aC n0 cC)
      have hss : (w3.setCell ⟨w.heap.size, 0, none⟩ (.slice aC n0 cC)).heap.size = w3.heap.size := by rw [setCell_eq_setRow w3 w.heap.size 0 _ _ _ _ q1, setRow_size]
      have hEn := hEn.grown (set_grown w3 w.heap.size 0 (.slice aC n0 cC)) (fun b off e => by intro e2; injection e2 with e2; have := (hlt b off e).1; omega)
      have q2 := heap_set_ne q2 (g := w.heap.size) (by omega) 0 (.slice aC n0 cC)
      have q1 := set_side q1 (s := 0) (by decide) (.slice aC n0 cC)
      have hlt : NewAt w (w3.setCell ⟨w.heap.size, 0, none⟩ (.slice aC n0 cC)) aC := fun b off e => by rw [hss]; exact hlt b off e
      have hsz : w0.heap.size ≤ (w3.setCell ⟨w.heap.size, 0, none⟩ (.slice aC n0 cC)).heap.size := by rw [hss]; omega
      generalize w3.setCell ⟨w.heap.size, 0, none⟩ (.slice aC n0 cC) = w4 at q1 q2 hEn hbs hlt hsz  ⊢
      clear hss hb4
      go_wp2_with fail
      go_roundg 1
      case rel => exact ⟨q2, hsz, hbs, .inr (.inl ⟨by go_num, by omega, aC, cC, q1, hEn, hlt⟩)⟩
      case measure => omega
    · have d1 := heap_cell q1 1 _ rfl
      go_wp2_with fail
      refine (HC1.out wr (hW.e1.on hb1)).mono ?_
      rintro e w3 ⟨aC, cC, rfl, hoC, hb3⟩
      have q1 := heap_on hb3 q1
      have q2 := heap_on hb3 q2
      have hE0 := hE0.on hb3
      have hb4 := below_on hb1 hb3
      have hs3 := hb3.size
      clear d1 hb1 hb3 HC0 HC1 HCC
      have hEn := ents_owned hoC hW.e1.sz
      have hlt : ∀ b off, aC = some ⟨b, off, none⟩ → w.heap.size + 1 + 1 ≤ b ∧ b < w3.heap.size := fun b off e => by subst e; have := hoC.lt b rfl; omega
      have d1 := heap_cell q1 1 _ rfl
      have f1 := frozen_of_row w3 w.heap.size 1 _ _ q1
      go_upto_region 5 with fail
      clear d1 f1 hoC
      have hbs := below_set hb4 (Nat.le_refl _) q1 1 (.slice aC n1 cC)
      have hss : (w3.setCell ⟨w.heap.size, 1, none⟩ (.slice aC n1 cC)).heap.size = w3.heap.size := by rw [setCell_eq_setRow w3 w.heap.size 1 _ _ _ _ q1, setRow_size]
      have hEn := hEn.grown (set_grown w3 w.heap.size 1 (.slice aC n1 cC)) (fun b off e => by intro e2; injection e2 with e2; have := (hlt b off e).1; omega)
      have hE0 := hE0.grown (set_grown w3 w.heap.size 1 (.slice aC n1 cC)) (fun b off e => by intro e2; injection e2 with e2; have := (hN0 b off e).1; omega)
      have q2 := heap_set_ne q2 (g := w.heap.size) (by omega) 1 (.slice aC n1 cC)
      have q1 := set_side q1 (s := 1) (by decide) (.slice aC n1 cC)
      have hlt : NewAt w (w3.setCell ⟨w.heap.size, 1, none⟩ (.slice aC n1 cC)) aC := fun b off e => by rw [hss]; exact hlt b off e
      have hN0 : NewAt w (w3.setCell ⟨w.heap.size, 1, none⟩ (.slice aC n1 cC)) _ := NewAt.le hN0 (by rw [hss]; exact hs3)
      have hsz : w0.heap.size ≤ (w3.setCell ⟨w.heap.size, 1, none⟩ (.slice aC n1 cC)).heap.size := by rw [hss]; omega
      generalize w3.setCell ⟨w.heap.size, 1, none⟩ (.slice aC n1 cC) = w4 at q1 q2 hEn hbs hlt hsz hE0 hN0 ⊢
      clear hss hb4
      go_wp2_with fail
      go_roundg 0
      case rel => exact ⟨q2, hsz, hbs, .inr (.inr ⟨by go_num, u0, d0, aC, cC, q1, hE0, hN0, hEn, hlt⟩)⟩
      case measure => omega
    · obtain ⟨w1, hw1⟩ : ∃ x, x = wr := ⟨_, rfl⟩
      subst hw1
      have d2 := heap_cell q1 2 _ rfl
      go_wp2_with fail
      refine (HCC.out w1 (hW.e2.on hb1)).mono ?_
      rintro e w3 ⟨g, cap, rfl, hoC, hb3⟩
      obtain ⟨cur, q9, hg1, hcap, hmax, hcur, _⟩ := own_cur hoC
      have q1 := heap_on hb3 q1
      have q2 := heap_on hb3 q2
      have hE0 := hE0.on hb3
      have hE1 := hE1.on hb3
      have hb4 := below_on hb1 hb3
      clear d2 hb1 hb3 hoC
      have d2 := heap_cell q1 2 _ rfl
      have f2 := frozen_of_row w3 w.heap.size 2 _ _ q1
      go_upto_region 7 with fail
      clear d2 f2
      have hbs := below_set hb4 (Nat.le_refl _) q1 2 (.slice (some ⟨g, 0, none⟩) 3 cap)
      have hE0 := hE0.grown (set_grown w3 w.heap.size 2 (.slice (some ⟨g, 0, none⟩) 3 cap)) (fun b off e => by intro e2; injection e2 with e2; have := (hN0 b off e).1; omega)
      have hE1 := hE1.grown (set_grown w3 w.heap.size 2 (.slice (some ⟨g, 0, none⟩) 3 cap)) (fun b off e => by intro e2; injection e2 with e2; have := (hN1 b off e).1; omega)
      have q2 := heap_set_ne q2 (g := w.heap.size) (by omega) 2 (.slice (some ⟨g, 0, none⟩) 3 cap)
      have q9 := heap_set_ne q9 (g := w.heap.size) (by omega) 2 (.slice (some ⟨g, 0, none⟩) 3 cap)
      have q1 : (w3.setCell ⟨w.heap.size, 2, none⟩ (.slice (some ⟨g, 0, none⟩) 3 cap)).heap[w.heap.size]? = some (.cells #[.slice u0 n0 d0, .slice u1 n1 d1, .slice (some ⟨g, 0, none⟩) 3 cap] 28) := heap_setCell_same w3 w.heap.size 2 _ _ (.slice (some ⟨g, 0, none⟩) 3 cap) q1
      generalize w3.setCell ⟨w.heap.size, 2, none⟩ (.slice (some ⟨g, 0, none⟩) 3 cap) = w4 at q1 q2 q9 hE0 hE1 hbs ⊢
      clear hb4
      have dd0 := heap_cell q1 0 _ rfl
      have dd1 := heap_cell q1 1 _ rfl
      have dd2 := heap_cell q1 2 _ rfl
      go_wp2_with (refine wpList_store_row rfl 28 (.tmp 2) (.tmp 22) rfl (w.heap.size + 1) #[.slice u0 n0 d0, .slice u1 n1 d1, .slice (some ⟨g, 0, none⟩) 3 cap] rfl rfl _ _ q2 (by kernel_rfl) rfl (three_cells _ _ _ _ _ _ _ _ _) ?_)
      have hbz := below_setRow hbs (g := w.heap.size + 1) (by omega) #[.slice u0 n0 d0, .slice u1 n1 d1, .slice (some ⟨g, 0, none⟩) 3 cap]
      refine bodyPost_ret (results_cell_row rfl _ _ (w.heap.size + 1) _ _ _ _ rfl (setRow_heap _ _ _ _ _ _ q2) Tryz.underlying28 rfl (by kernel_rfl)) rfl ?_
      exact ⟨u0, d0, u1, d1, g, cap, cur, rfl, hE0.grown (row_grown _ _ _) (fun b off e => by intro e2; injection e2 with e2; have := (hN0 b off e).1; omega), hE1.grown (row_grown _ _ _) (fun b off e => by intro e2; injection e2 with e2; have := (hN1 b off e).1; omega), heap_kept (row_grown _ _ _) q9 (by intro e; injection e with e; omega), hcur, hcap, hmax, by omega, fun b off e => by have := hN0 b off e; omega, fun b off e => by have := hN1 b off e; omega, hbz⟩

end Go.Proofs.YtnemiobgmdpnmagGreatFmt
namespace Go.Proofs.YtnemiobgmdpnmagGreatFmt
open Go Go.RowKit

theorem heldpg {w5 cur w' : World} {b1 o1 b2 o2 b3 o3 : Nat} {u1 u2 u3 : Value} {row : Option Nat} (k1 : b1 < w5.heap.size) (k2 : b2 < w5.heap.size) (k3 : b3 < w5.heap.size) (hg : cur.grownBy w' row) (hr : ∀ j, row = some j → w5.heap.size ≤ j) (h : Below w5.heap.size w5 cur ∧ cur.cell? ⟨b1, o1, none⟩ = some u1 ∧ cur.cell? ⟨b2, o2, none⟩ = some u2 ∧ cur.cell? ⟨b3, o3, none⟩ = some u3) :
    Below w5.heap.size w5 w' ∧ w'.cell? ⟨b1, o1, none⟩ = some u1 ∧ w'.cell? ⟨b2, o2, none⟩ = some u2 ∧ w'.cell? ⟨b3, o3, none⟩ = some u3 := by
  have key : ∀ (b j : Nat) (u : Value), b < w5.heap.size → cur.cell? ⟨b, j, none⟩ = some u → w'.cell? ⟨b, j, none⟩ = some u := fun b j u hb hu => hg.cell hu (fun e => by have := hr b e.symm; omega)
  obtain ⟨h0, h1, h2, h3⟩ := h
  exact ⟨h0.grown hg h0.size hr, key _ _ _ k1 h1, key _ _ _ k2 h2, key _ _ _ k3 h3⟩
theorem heldp {w5 cur w' : World} {b1 o1 b2 o2 b3 o3 : Nat} {u1 u2 u3 : Value} (k1 : b1 < w5.heap.size) (k2 : b2 < w5.heap.size) (k3 : b3 < w5.heap.size) (h : Below w5.heap.size w5 cur ∧ cur.cell? ⟨b1, o1, none⟩ = some u1 ∧ cur.cell? ⟨b2, o2, none⟩ = some u2 ∧ cur.cell? ⟨b3, o3, none⟩ = some u3) (hb : Below cur.heap.size cur w') :
    Below w5.heap.size w5 w' ∧ w'.cell? ⟨b1, o1, none⟩ = some u1 ∧ w'.cell? ⟨b2, o2, none⟩ = some u2 ∧ w'.cell? ⟨b3, o3, none⟩ = some u3 := heldpg k1 k2 k3 (below_grown hb none) (fun j hj => by cases hj) h
theorem wput_book (l : List EntB) (a : Option Addr) (n c : Nat) (k : Int) (v : ByteArray) (w : World) (hn : l.length = n) (hS : EntsAt w a c l) (hx : WideEnt (k, v)) (h : bookE l = 0) :
    Calls Tryz.prog 60 #[.agg #[.slice a n c], .agg #[.int .i64 k, .string v]] w fun e w' => ∃ a' n' c', e = .returned (.tuple #[.agg #[.slice a' n' c'], .int .i64 (bookE (l ++ [(k, v)]))]) ∧ (bookE (l ++ [(k, v)]) = 0 → (l ++ [(k, v)]).length = n' ∧ EntsAt w' a' c' (l ++ [(k, v)]) ∧ ∀ blk off, a' = some ⟨blk, off, none⟩ → w.heap.size ≤ blk) ∧ Below w.heap.size w w' := by
  by_cases hz : bookE (l ++ [(k, v)]) = 0
  · rw [hz]
    refine (put_at l a n c k v w hn hS hx h hz).mono ?_
    rintro e w' ⟨g, rfl, hg, hE, hb⟩
    exact ⟨some ⟨g, 0, none⟩, n + 1, n + 1, rfl, fun _ => ⟨by rw [List.length_append, hn]; rfl, hE, fun blk off e => by injection e with e; injection e with e _ _; omega⟩, hb⟩
  · refine (put_no l a n c k v w hn hS hx h _ rfl hz).mono ?_
    rintro e w' ⟨rfl, hb⟩
    exact ⟨none, 0, 0, rfl, fun e => absurd e hz, hb⟩

set_option maxHeartbeats 16000000 in
set_option maxRecDepth 100000 in
theorem wput_any (B N g : Nat) (u0 : Option Addr) (n0 d0 : Nat) (u1 : Option Addr) (n1 d1 d2 : Nat) (cur : Array Value) (W : WB) (s : Nat) (xe : Int) (xv : ByteArray) (w : World) (h : HoldsW w B N g u0 n0 d0 u1 n1 d1 d2 cur W) (hG : worldE W = 0) (hs : s < 2) (hx : WideEnt (xe, xv)) :
    Calls Tryz.prog 52 #[.pointer (some ⟨N, s, none⟩), .agg #[.int .i64 xe, .string xv]] w fun e w' => e = .returned (.int .i64 (bookE (sideL W s ++ [(xe, xv)]))) ∧ HapPost w w' B N g (bookE (sideL W s ++ [(xe, xv)])) (setSide W s (sideL W s ++ [(xe, xv)])) := by
  obtain ⟨sa, sn, sc, hsv, hsn, hsE⟩ := side_ents h.wat s
  have hgd := (bookE_iff _).2 (side_good hG (s : Int))
  have hp := fun w1 hS => wput_book (sideL W s) sa sn sc xe xv w1 hsn hS hx hgd
  obtain ⟨lx, hlx⟩ : ∃ lx, sideL W s ++ [(xe, xv)] = lx := ⟨_, rfl⟩
  rw [hlx] at hp ⊢
  clear hlx hgd
  obtain ⟨z, hz⟩ : ∃ z, bookE lx = z := ⟨_, rfl⟩
  rw [hz] at hp ⊢
  clear hz
  have HP := Lib.hid hp
  clear hp
  have q3 := heap_push w (.cells #[.int .i64 xe, .string xv] 38)
  have hb0 := (Below.refl w.heap.size w).alloc (Nat.le_refl _) (.cells #[.int .i64 xe, .string xv] 38)
  go_enter Tryz.func52, Tryz.ntmps52
  go_wp2_with fail
  generalize (w.alloc (.cells #[.int .i64 xe, .string xv] 38)) = w5 at q3 hb0 ⊢
  have h5 := h.on hb0
  have p2 := h5.box
  have t0 := side_cell p2 hs
  rw [hsv] at t0
  have k1 := (Array.getElem?_eq_some_iff.1 p2).1
  have k2 := (Array.getElem?_eq_some_iff.1 q3).1
  go_upto_region 1 with fail
  go_cut [5, 6] (fun s5 s6 w' => ∃ gd aP nP cP, s5 = .pointer (some ⟨gd, 0, none⟩) ∧ s6 = .int .i64 z ∧ w5.heap.size ≤ gd ∧ w'.heap[gd]? = some (.cells #[.slice aP nP cP] 24) ∧ (z = 0 → lx.length = nP ∧ EntsAt w' aP cP lx ∧ ∀ blk off, aP = some ⟨blk, off, none⟩ → w5.heap.size ≤ blk) ∧ Below w5.heap.size w5 w')
  case first =>
    have hS0 : Below w5.heap.size w5 w5.drew ∧ w5.drew.cell? ⟨N, s, none⟩ = some (.slice sa sn sc) ∧ w5.drew.cell? ⟨w.heap.size, 0, none⟩ = some (.int .i64 xe) ∧ w5.drew.cell? ⟨w.heap.size, 1, none⟩ = some (.string xv) := ⟨(Below.refl _ _).drew, t0, heap_cell q3 0 _ rfl, heap_cell q3 1 _ rfl⟩
    have HL := Lib.hid (fun w' (h : Below w5.heap.size w5 w' ∧ w'.cell? ⟨N, s, none⟩ = some (.slice sa sn sc) ∧ w'.cell? ⟨w.heap.size, 0, none⟩ = some (.int .i64 xe) ∧ w'.cell? ⟨w.heap.size, 1, none⟩ = some (.string xv)) => below_on hb0 h.1)
    have HZ := Lib.hid (fun w' (h : Below w5.heap.size w5 w' ∧ w'.cell? ⟨N, s, none⟩ = some (.slice sa sn sc) ∧ w'.cell? ⟨w.heap.size, 0, none⟩ = some (.int .i64 xe) ∧ w'.cell? ⟨w.heap.size, 1, none⟩ = some (.string xv)) => h.1.size)
    have CP := Lib.hid (fun w' (h : Below w5.heap.size w5 w' ∧ w'.cell? ⟨N, s, none⟩ = some (.slice sa sn sc) ∧ w'.cell? ⟨w.heap.size, 0, none⟩ = some (.int .i64 xe) ∧ w'.cell? ⟨w.heap.size, 1, none⟩ = some (.string xv)) => HP.out w' (hsE.on (HL.out w' h)))
    go_region_held3 (fun w' => Below w5.heap.size w5 w' ∧ w'.cell? ⟨N, s, none⟩ = some (.slice sa sn sc) ∧ w'.cell? ⟨w.heap.size, 0, none⟩ = some (.int .i64 xe) ∧ w'.cell? ⟨w.heap.size, 1, none⟩ = some (.string xv))
      (first | assumption | exact heldp k1 k2 k2 (by assumption) (by assumption) | exact heldp k1 k2 k2 (by assumption) ((Below.refl _ _).alloc (Nat.le_refl _) _) | exact heldpg k1 k2 k2 (set_grown _ _ _ _) (fun j hj => by injection hj with hj; omega) (by assumption))
      (first
        | (go_at_call 60; (with_reducible refine (CP.out _ (by assumption)).mono ?_); rintro e wP ⟨aP, nP, cP, rfl, hEP, hbP⟩; have hSP : Below w5.heap.size w5 wP ∧ wP.cell? ⟨N, s, none⟩ = some (.slice sa sn sc) ∧ wP.cell? ⟨w.heap.size, 0, none⟩ = some (.int .i64 xe) ∧ wP.cell? ⟨w.heap.size, 1, none⟩ = some (.string xv) := heldp k1 k2 k2 (by assumption) hbP; have hzP := HZ.out _ hSP; have hsP := hbP.size; (first | (have tbA : wP.heap[w5.heap.size]? = some (.cells #[.slice none 0 0] 24) := heap_on hbP (show (w5.alloc (.cells #[.slice none 0 0] 24)).heap[w5.heap.size]? = _ from heap_push w5 _); have t5 := heap_cell tbA 0 _ rfl; have f5 := frozen_of_row wP _ 0 _ _ tbA) | skip)))
    all_goals
      go_wp2_with fail
      go_meet
      case rel =>
        first
          | (have hnb : ∀ blk off, aP = some ⟨blk, off, none⟩ → z = 0 → w5.heap.size + 1 ≤ blk := fun blk off e h0 => by have e1 := heap_size w5 (.cells #[.slice none 0 0] 24); have e2 : (w5.alloc (.cells #[.slice none 0 0] 24)).heap.size ≤ blk := (hEP h0).2.2 blk off e; omega
             exact ⟨w5.heap.size, aP, nP, cP, rfl, rfl, Nat.le_refl _, heap_setCell_same _ _ 0 _ _ _ tbA, fun h0 => ⟨(hEP h0).1, (hEP h0).2.1.grown (set_grown _ _ _ _) (fun b off e => by intro e2; injection e2 with e2; have := hnb b off e h0; omega), fun blk off e => by have := hnb blk off e h0; omega⟩, (hSP.1).grown (set_grown _ _ _ _) hzP (fun j hj => by injection hj with hj; omega)⟩)
          | exact ⟨wP.heap.size, aP, nP, cP, rfl, rfl, hzP, heap_push _ _, fun h0 => ⟨(hEP h0).1, (hEP h0).2.1.on ((Below.refl _ _).alloc (Nat.le_refl _) _), fun blk off e => by have := (hEP h0).2.2 blk off e; exact this⟩, (hSP.1).alloc hzP _⟩
  case rest =>
    obtain ⟨gd, aP, nP, cP, rfl, rfl, hgd, p5, hEP, hbc⟩ := hcut
    obtain ⟨w6, hw6⟩ : ∃ x, x = wc := ⟨_, rfl⟩
    subst hw6
    have h6 := h5.on hbc
    have hb6 := below_on hb0 hbc
    clear t0 k1 k2 HP q3 p2
    by_cases h0 : z = 0
    · obtain ⟨hln, hE6, hnew⟩ := hEP h0
      subst h0
      clear hEP
      have d5 := heap_cell p5 0 _ rfl
      have p2 := h6.box
      have t0 := side_cell p2 hs
      have f0 := frozen_of_row w6 N s _ _ p2
      go_upto_region 5 with fail
      clear d5 t0 f0
      have pz := set_side p2 hs (.slice aP nP cP)
      have hgs := set_grown w6 N s (.slice aP nP cP)
      generalize w6.setCell ⟨N, s, none⟩ (.slice aP nP cP) = w7 at pz hgs ⊢
      have hk5 := h5.ltN
      have hk6 := h5.ltg
      have hk7 := h.lN
      go_wp2_with fail
      go_ret
      exact ⟨rfl, (h6.side hgs pz hln (hE6.grown hgs (fun b off e => by intro e2; injection e2 with e2; have := hnew b off e; omega)) (fun blk off e => by have := hnew blk off e; exact ⟨by omega, by omega, by omega⟩) 0).pre hb6⟩
    · have zf1 : (z == 0) = false := by simp only [beq_eq_false_iff_ne, ne_eq]; exact h0
      go_wp2_with fail
      go_ret
      exact ⟨rfl, hap_none hb6 h0 _⟩

end Go.Proofs.YtnemiobgmdpnmagGreatFmt
namespace Go.Proofs.YtnemiobgmdpnmagGreatFmt
open Go Go.RowKit

set_option maxHeartbeats 16000000 in
set_option maxRecDepth 100000 in
theorem wgrowth_any (l : List EntB) (a : Option Addr) (n c : Nat) (m : Int) (w : World) (hE : Tab w) (hn : l.length = n) (hS : EntsAt w a c l) (hG : GoodBook l) :
    Calls Tryz.prog 62 #[.agg #[.slice a n c], .int .i64 m] w fun e w' => ∃ a' c', e = .returned (.slice a' (growL l m).length c') ∧ StrsAt w' a' c' (growL l m) ∧ Below w.heap.size w w' := by
  have q2 := heap_push w (.cells #[.slice a n c] 24)
  have hb0 : Below w.heap.size w (w.alloc (.cells #[.slice a n c] 24)) := (Below.refl _ _).alloc (Nat.le_refl _) _
  have d0 := heap_cell q2 0 _ rfl
  by_cases hm : 1 ≤ m ∧ m ≤ (l.length : Int)
  · have e1 : growL l m = growS (textsE l) m.toNat true := if_pos hm
    obtain ⟨k, rfl⟩ : ∃ k : Nat, m = (k : Int) := ⟨m.toNat, by omega⟩
    rw [Int.toNat_natCast] at e1
    rw [e1]
    have HG := Lib.hid (fun w1 hE hS => showGrowth_ok l a n c k w1 hE hn hS hG (by omega) (by omega))
    generalize growS (textsE l) k true = G at HG
    clear e1
    go_enter Tryz.func62, Tryz.ntmps62
    go_wp2_with fail
    generalize (w.alloc (.cells #[.slice a n c] 24)) = w0 at q2 hb0 d0 ⊢
    refine (HG.out w0 (hE.on hb0) (hS.on hb0)).mono ?_
    rintro e w1 ⟨aG, cG, rfl, hL, hb1⟩
    go_wp2_with fail
    go_ret
    exact ⟨aG, cG, rfl, hL, below_on hb0 hb1⟩
  · have e1 : growL l m = [] := if_neg hm
    rw [e1]
    have HG := Lib.hid (fun w1 hE hS => showGrowth_range l a n c m w1 hE hn hS hG (by omega))
    clear e1
    go_enter Tryz.func62, Tryz.ntmps62
    go_wp2_with fail
    generalize (w.alloc (.cells #[.slice a n c] 24)) = w0 at q2 hb0 d0 ⊢
    refine (HG.out w0 (hE.on hb0) (hS.on hb0)).mono ?_
    rintro e w1 ⟨rfl, hb1⟩
    go_wp2_with fail
    go_ret
    exact ⟨none, 0, rfl, ⟨Nat.le_refl _, by omega, fun s hs => by simp at hs, fun h => by simp at h⟩, below_on hb0 hb1⟩

set_option maxHeartbeats 16000000 in
set_option maxRecDepth 100000 in
theorem wask_any (cn : Int) (ca cb : ByteArray) (cf : Bool) (l : List EntB) (a : Option Addr) (n c : Nat) (x : Int) (w : World) (hE : Tab w) (hn : l.length = n) (hS : EntsAt w a c l) (hG : GoodBook l) (hc : headE cn ca cb = 0) :
    Calls Tryz.prog 55 #[.agg #[.int .i64 cn, .string ca, .string cb, .bool cf], .agg #[.slice a n c], .int .i64 x] w fun e w' => e = .returned (.int .i64 (if ¬ (0 ≤ x ∧ x < 16) then 5 else askE (cn, ca, cb, cf) l x)) ∧ Below w.heap.size w w' := by
  obtain ⟨q3, q4, hb0⟩ := boxes2 w (.cells #[.int .i64 cn, .string ca, .string cb, .bool cf] 42) (.cells #[.slice a n c] 24)
  have d4_0 := heap_cell q4 0 _ rfl
  by_cases hk : 0 ≤ x ∧ x < 16
  · obtain ⟨k, rfl⟩ : ∃ k : Nat, x = (k : Int) := ⟨x.toNat, by omega⟩
    have hz : (if ¬ (0 ≤ (k : Int) ∧ (k : Int) < 16) then 5 else askE (cn, ca, cb, cf) l (k : Int)) = findsE cn ca cb (k : Int) (valS (valsD l) (k : Int)) (valD (valsD l) (k : Int)).isSome (pathT (valN (valsD l)) 0 k 4) := by rw [if_neg (fun h => h hk)]; unfold findsE askE; rw [if_neg (fun h => h hc), Int.toNat_natCast]
    rw [hz]
    have hsv := fun w1 hE hS => showValue_ok l a n c k w1 hE hn hS hG (by omega)
    have nL := pathT_len (valN (valsD l)) 4 0 k
    generalize valS (valsD l) (k : Int) = U at hsv ⊢
    generalize (valD (valsD l) (k : Int)).isSome = T at hsv ⊢
    generalize pathT (valN (valsD l)) 0 k 4 = L at hsv nL ⊢
    have HF := Lib.hid (fun a1 c1 w1 hE hS => finds_any cn ca cb cf (k : Int) U T L a1 4 c1 w1 hE hS nL)
    generalize findsE cn ca cb (k : Int) U T L = z at HF ⊢
    have HV := Lib.hid hsv
    clear hsv hz nL
    go_enter Tryz.func55, Tryz.ntmps55
    go_wp2_with fail
    generalize ((w.alloc (.cells #[.int .i64 cn, .string ca, .string cb, .bool cf] 42)).alloc (.cells #[.slice a n c] 24)) = w0 at q3 q4 hb0 d4_0 ⊢
    refine (HV.out w0 (hE.on hb0) (hS.on hb0)).mono ?_
    rintro e w1 ⟨aL, cL, rfl, hL, hb1⟩
    have q3 := heap_on hb1 q3
    have hb2 := below_on hb0 hb1
    clear d4_0 hb1
    have d3_0 := heap_cell q3 0 _ rfl
    have d3_1 := heap_cell q3 1 _ rfl
    have d3_2 := heap_cell q3 2 _ rfl
    have d3_3 := heap_cell q3 3 _ rfl
    go_wp2_with fail
    refine (HF.out aL cL w1 (hE.on hb2) hL).mono ?_
    rintro e w3 ⟨rfl, hb3⟩
    go_wp2_with fail
    go_ret
    exact ⟨rfl, below_on hb2 hb3⟩
  · have hz : (if ¬ (0 ≤ x ∧ x < 16) then 5 else askE (cn, ca, cb, cf) l x) = 5 := if_pos hk
    rw [hz]
    have HV := Lib.hid (fun w1 hS => showValue_who l a n c x w1 hn hS hG (by omega))
    clear hz
    go_enter Tryz.func55, Tryz.ntmps55
    go_wp2_with fail
    generalize ((w.alloc (.cells #[.int .i64 cn, .string ca, .string cb, .bool cf] 42)).alloc (.cells #[.slice a n c] 24)) = w0 at q3 q4 hb0 d4_0 ⊢
    refine (HV.out w0 (hS.on hb0)).mono ?_
    rintro e w1 ⟨rfl, hb1⟩
    go_wp2_with fail
    go_ret
    exact ⟨rfl, below_on hb0 hb1⟩

end Go.Proofs.YtnemiobgmdpnmagGreatFmt
namespace Go.Proofs.YtnemiobgmdpnmagGreatFmt
open Go Go.RowKit

/- What is told of a happening that only a liar's book can spoil. -/
def folZ (z : Int) : Int := if z ≠ 0 ∧ z ≠ 7 then z else 0

theorem heldfg {w5 cur w' : World} {b1 o1 b2 o2 b3 o3 b4 o4 b5 o5 b6 o6 b7 o7 b8 o8 : Nat} {u1 u2 u3 u4 u5 u6 u7 u8 : Value} {row : Option Nat} (k1 : b1 < w5.heap.size) (k2 : b2 < w5.heap.size) (k3 : b3 < w5.heap.size) (k4 : b4 < w5.heap.size) (k5 : b5 < w5.heap.size) (k6 : b6 < w5.heap.size) (k7 : b7 < w5.heap.size) (k8 : b8 < w5.heap.size) (hg : cur.grownBy w' row) (hr : ∀ j, row = some j → w5.heap.size ≤ j) (h : Below w5.heap.size w5 cur ∧ cur.cell? ⟨b1, o1, none⟩ = some u1 ∧ cur.cell? ⟨b2, o2, none⟩ = some u2 ∧ cur.cell? ⟨b3, o3, none⟩ = some u3 ∧ cur.cell? ⟨b4, o4, none⟩ = some u4 ∧ cur.cell? ⟨b5, o5, none⟩ = some u5 ∧ cur.cell? ⟨b6, o6, none⟩ = some u6 ∧ cur.cell? ⟨b7, o7, none⟩ = some u7 ∧ cur.cell? ⟨b8, o8, none⟩ = some u8) :
    Below w5.heap.size w5 w' ∧ w'.cell? ⟨b1, o1, none⟩ = some u1 ∧ w'.cell? ⟨b2, o2, none⟩ = some u2 ∧ w'.cell? ⟨b3, o3, none⟩ = some u3 ∧ w'.cell? ⟨b4, o4, none⟩ = some u4 ∧ w'.cell? ⟨b5, o5, none⟩ = some u5 ∧ w'.cell? ⟨b6, o6, none⟩ = some u6 ∧ w'.cell? ⟨b7, o7, none⟩ = some u7 ∧ w'.cell? ⟨b8, o8, none⟩ = some u8 := by
  have key : ∀ (b j : Nat) (u : Value), b < w5.heap.size → cur.cell? ⟨b, j, none⟩ = some u → w'.cell? ⟨b, j, none⟩ = some u := fun b j u hb hu => hg.cell hu (fun e => by have := hr b e.symm; omega)
  obtain ⟨h0, h1, h2, h3, h4, h5, h6, h7, h8⟩ := h
  exact ⟨h0.grown hg h0.size hr, key _ _ _ k1 h1, key _ _ _ k2 h2, key _ _ _ k3 h3, key _ _ _ k4 h4, key _ _ _ k5 h5, key _ _ _ k6 h6, key _ _ _ k7 h7, key _ _ _ k8 h8⟩
theorem heldf {w5 cur w' : World} {b1 o1 b2 o2 b3 o3 b4 o4 b5 o5 b6 o6 b7 o7 b8 o8 : Nat} {u1 u2 u3 u4 u5 u6 u7 u8 : Value} (k1 : b1 < w5.heap.size) (k2 : b2 < w5.heap.size) (k3 : b3 < w5.heap.size) (k4 : b4 < w5.heap.size) (k5 : b5 < w5.heap.size) (k6 : b6 < w5.heap.size) (k7 : b7 < w5.heap.size) (k8 : b8 < w5.heap.size) (h : Below w5.heap.size w5 cur ∧ cur.cell? ⟨b1, o1, none⟩ = some u1 ∧ cur.cell? ⟨b2, o2, none⟩ = some u2 ∧ cur.cell? ⟨b3, o3, none⟩ = some u3 ∧ cur.cell? ⟨b4, o4, none⟩ = some u4 ∧ cur.cell? ⟨b5, o5, none⟩ = some u5 ∧ cur.cell? ⟨b6, o6, none⟩ = some u6 ∧ cur.cell? ⟨b7, o7, none⟩ = some u7 ∧ cur.cell? ⟨b8, o8, none⟩ = some u8) (hb : Below cur.heap.size cur w') :
    Below w5.heap.size w5 w' ∧ w'.cell? ⟨b1, o1, none⟩ = some u1 ∧ w'.cell? ⟨b2, o2, none⟩ = some u2 ∧ w'.cell? ⟨b3, o3, none⟩ = some u3 ∧ w'.cell? ⟨b4, o4, none⟩ = some u4 ∧ w'.cell? ⟨b5, o5, none⟩ = some u5 ∧ w'.cell? ⟨b6, o6, none⟩ = some u6 ∧ w'.cell? ⟨b7, o7, none⟩ = some u7 ∧ w'.cell? ⟨b8, o8, none⟩ = some u8 := heldfg k1 k2 k3 k4 k5 k6 k7 k8 (below_grown hb none) (fun j hj => by cases hj) h

set_option maxHeartbeats 16000000 in
set_option maxRecDepth 100000 in
theorem wfollow_any (B N g : Nat) (u0 : Option Addr) (n0 d0 : Nat) (u1 : Option Addr) (n1 d1 d2 : Nat) (cur : Array Value) (W : WB) (s j : Nat) (sa : Option Addr) (sn sc : Nat) (cn : Int) (ca cb : ByteArray) (cf : Bool) (w : World) (hE : Tab w) (h : HoldsW w B N g u0 n0 d0 u1 n1 d1 d2 cur W) (hG : worldE W = 0) (hj : j < 3) (hc : cliOf W.cs j = (cn, ca, cb, cf)) (hsn : (sideL W s).length = sn) (hsE : EntsAt w sa sc (sideL W s)) :
    Calls Tryz.prog 53 #[.pointer (some ⟨g, j * 4, none⟩), .agg #[.slice sa sn sc]] w fun e w' => e = .returned (.int .i64 (folZ (follE (cn, ca, cb, cf) (sideL W s) (growL (sideL W s) cn)))) ∧ HapPost w w' B N g (folZ (follE (cn, ca, cb, cf) (sideL W s) (growL (sideL W s) cn))) { W with cs := W.cs.set j (follC (cn, ca, cb, cf) (sideL W s) (growL (sideL W s) cn)) } ∧ w'.heap[N]? = w.heap[N]? := by
  have hgd := side_good hG (s : Int)
  have hwd := foll_wide (W := W) (s := s) hG hj hc hsn (growL (sideL W s) cn)
  have hvE : follE (cn, ca, cb, cf) (sideL W s) (growL (sideL W s) cn) = followE cn ca cb (sn : Int) (headLog (sideL W s)) (headMap (sideL W s)) (growL (sideL W s) cn) := by rw [← hsn]; rfl
  have hvC : follC (cn, ca, cb, cf) (sideL W s) (growL (sideL W s) cn) = (folN cn ca cb (sn : Int) (headLog (sideL W s)) (headMap (sideL W s)) (growL (sideL W s) cn), folA cn ca cb (sn : Int) (headLog (sideL W s)) (headMap (sideL W s)) (growL (sideL W s) cn), folB cn ca cb (sn : Int) (headLog (sideL W s)) (headMap (sideL W s)) (growL (sideL W s) cn), folF cn ca cb cf (sn : Int) (headLog (sideL W s)) (headMap (sideL W s)) (growL (sideL W s) cn)) := by rw [← hsn]; rfl
  rw [hvE, hvC]
  clear hvE hvC
  have hh := fun w1 hE hS => head_ok (sideL W s) sa sn sc w1 hE hsn hS hgd
  have hgr := fun w1 hE hS => wgrowth_any (sideL W s) sa sn sc cn w1 hE hsn hS hgd
  generalize growL (sideL W s) cn = G at hgr hwd ⊢
  generalize headLog (sideL W s) = hl at hh hwd ⊢
  generalize headMap (sideL W s) = hm at hh hwd ⊢
  have hfo := fun a c w1 hE hS => follow_any cn ca cb cf (sn : Int) hl hm G a G.length c w1 rfl hE hS
  generalize folN cn ca cb (sn : Int) hl hm G = rN at hfo hwd ⊢
  generalize folA cn ca cb (sn : Int) hl hm G = rA at hfo hwd ⊢
  generalize folB cn ca cb (sn : Int) hl hm G = rB at hfo hwd ⊢
  generalize folF cn ca cb cf (sn : Int) hl hm G = rF at hfo hwd ⊢
  generalize followE cn ca cb (sn : Int) hl hm G = z at hfo hwd ⊢
  have HWD := Lib.hid hwd
  have HH := Lib.hid hh
  have HGR := Lib.hid hgr
  have HFO := Lib.hid hfo
  clear hh hgr hfo hwd
  have q3 := heap_push w (.cells #[.slice sa sn sc] 24)
  have hb0 := (Below.refl w.heap.size w).alloc (Nat.le_refl _) (.cells #[.slice sa sn sc] 24)
  have d3_0 := heap_cell q3 0 _ rfl
  go_enter Tryz.func53, Tryz.ntmps53
  go_wp2_with fail
  generalize (w.alloc (.cells #[.slice sa sn sc] 24)) = w0 at q3 hb0 d3_0 ⊢
  refine (HH.out w0 (hE.on hb0) (hsE.on hb0)).mono ?_
  rintro e w1 ⟨rfl, hb1⟩
  have q3 := heap_on hb1 q3
  have hb1 := below_on hb0 hb1
  clear hb0
  clear d3_0
  have hsz3 := (Array.getElem?_eq_some_iff.1 q3).1
  have q3 := heap_old w1 (.cells #[.int .i64 (sn : Int), .string hl, .string hm] 40) q3
  have q5 := heap_push w1 (.cells #[.int .i64 (sn : Int), .string hl, .string hm] 40)
  have hb2 := hb1.alloc hb1.size (.cells #[.int .i64 (sn : Int), .string hl, .string hm] 40)
  clear hb1
  go_upto_region 4 with fail
  generalize (w1.alloc (.cells #[.int .i64 (sn : Int), .string hl, .string hm] 40)) = w2 at q3 q5 hb2 ⊢
  generalize w1.heap.size = B5 at q5 ⊢
  obtain ⟨w5, hw5⟩ : ∃ x, x = w2 := ⟨_, rfl⟩
  subst hw5
  have h5 := h.on hb2
  have hl3 := h5.l2
  obtain ⟨z1, z2, z3, z4⟩ := h5.is.four h5.cli (i := j) (by omega)
  rw [hc] at z1 z2 z3 z4
  simp only at z1 z2 z3 z4
  have k1 := h5.ltg
  have k2 := (Array.getElem?_eq_some_iff.1 q5).1
  have k3 := (Array.getElem?_eq_some_iff.1 q3).1
  go_cut [7, 6] (fun t7 t6 w' => ∃ gd, t7 = .pointer (some ⟨gd, 0, none⟩) ∧ t6 = .int .i64 z ∧ w5.heap.size ≤ gd ∧ w'.heap[gd]? = some (.cells #[.int .i64 rN, .string rA, .string rB, .bool rF] 42) ∧ Below w5.heap.size w5 w')
  case first =>
    have hS0 : Below w5.heap.size w5 w5.drew ∧ w5.drew.cell? ⟨g, j * 4, none⟩ = some (.int .i64 cn) ∧ w5.drew.cell? ⟨g, j * 4 + 1, none⟩ = some (.string ca) ∧ w5.drew.cell? ⟨g, j * 4 + 2, none⟩ = some (.string cb) ∧ w5.drew.cell? ⟨g, j * 4 + 3, none⟩ = some (.bool cf) ∧ w5.drew.cell? ⟨B5, 0, none⟩ = some (.int .i64 (sn : Int)) ∧ w5.drew.cell? ⟨B5, 1, none⟩ = some (.string hl) ∧ w5.drew.cell? ⟨B5, 2, none⟩ = some (.string hm) ∧ w5.drew.cell? ⟨w.heap.size, 0, none⟩ = some (.slice sa sn sc) := ⟨(Below.refl _ _).drew, z1, z2, z3, z4, heap_cell q5 0 _ rfl, heap_cell q5 1 _ rfl, heap_cell q5 2 _ rfl, heap_cell q3 0 _ rfl⟩
    have HL := Lib.hid (fun w' (h : Below w5.heap.size w5 w' ∧ w'.cell? ⟨g, j * 4, none⟩ = some (.int .i64 cn) ∧ w'.cell? ⟨g, j * 4 + 1, none⟩ = some (.string ca) ∧ w'.cell? ⟨g, j * 4 + 2, none⟩ = some (.string cb) ∧ w'.cell? ⟨g, j * 4 + 3, none⟩ = some (.bool cf) ∧ w'.cell? ⟨B5, 0, none⟩ = some (.int .i64 (sn : Int)) ∧ w'.cell? ⟨B5, 1, none⟩ = some (.string hl) ∧ w'.cell? ⟨B5, 2, none⟩ = some (.string hm) ∧ w'.cell? ⟨w.heap.size, 0, none⟩ = some (.slice sa sn sc)) => below_on hb2 h.1)
    have HZ := Lib.hid (fun w' (h : Below w5.heap.size w5 w' ∧ w'.cell? ⟨g, j * 4, none⟩ = some (.int .i64 cn) ∧ w'.cell? ⟨g, j * 4 + 1, none⟩ = some (.string ca) ∧ w'.cell? ⟨g, j * 4 + 2, none⟩ = some (.string cb) ∧ w'.cell? ⟨g, j * 4 + 3, none⟩ = some (.bool cf) ∧ w'.cell? ⟨B5, 0, none⟩ = some (.int .i64 (sn : Int)) ∧ w'.cell? ⟨B5, 1, none⟩ = some (.string hl) ∧ w'.cell? ⟨B5, 2, none⟩ = some (.string hm) ∧ w'.cell? ⟨w.heap.size, 0, none⟩ = some (.slice sa sn sc)) => h.1.size)
    have CG := Lib.hid (fun w' (h : Below w5.heap.size w5 w' ∧ w'.cell? ⟨g, j * 4, none⟩ = some (.int .i64 cn) ∧ w'.cell? ⟨g, j * 4 + 1, none⟩ = some (.string ca) ∧ w'.cell? ⟨g, j * 4 + 2, none⟩ = some (.string cb) ∧ w'.cell? ⟨g, j * 4 + 3, none⟩ = some (.bool cf) ∧ w'.cell? ⟨B5, 0, none⟩ = some (.int .i64 (sn : Int)) ∧ w'.cell? ⟨B5, 1, none⟩ = some (.string hl) ∧ w'.cell? ⟨B5, 2, none⟩ = some (.string hm) ∧ w'.cell? ⟨w.heap.size, 0, none⟩ = some (.slice sa sn sc)) => HGR.out w' (hE.on (HL.out w' h)) (hsE.on (HL.out w' h)))
    have CF := Lib.hid (fun a c w' (h : Below w5.heap.size w5 w' ∧ w'.cell? ⟨g, j * 4, none⟩ = some (.int .i64 cn) ∧ w'.cell? ⟨g, j * 4 + 1, none⟩ = some (.string ca) ∧ w'.cell? ⟨g, j * 4 + 2, none⟩ = some (.string cb) ∧ w'.cell? ⟨g, j * 4 + 3, none⟩ = some (.bool cf) ∧ w'.cell? ⟨B5, 0, none⟩ = some (.int .i64 (sn : Int)) ∧ w'.cell? ⟨B5, 1, none⟩ = some (.string hl) ∧ w'.cell? ⟨B5, 2, none⟩ = some (.string hm) ∧ w'.cell? ⟨w.heap.size, 0, none⟩ = some (.slice sa sn sc)) (hS : StrsAt w' a c G) => HFO.out a c w' (hE.on (HL.out w' h)) hS)
    go_region_held3 (fun w' => Below w5.heap.size w5 w' ∧ w'.cell? ⟨g, j * 4, none⟩ = some (.int .i64 cn) ∧ w'.cell? ⟨g, j * 4 + 1, none⟩ = some (.string ca) ∧ w'.cell? ⟨g, j * 4 + 2, none⟩ = some (.string cb) ∧ w'.cell? ⟨g, j * 4 + 3, none⟩ = some (.bool cf) ∧ w'.cell? ⟨B5, 0, none⟩ = some (.int .i64 (sn : Int)) ∧ w'.cell? ⟨B5, 1, none⟩ = some (.string hl) ∧ w'.cell? ⟨B5, 2, none⟩ = some (.string hm) ∧ w'.cell? ⟨w.heap.size, 0, none⟩ = some (.slice sa sn sc))
      (first | assumption | exact heldf k1 k1 k1 k1 k2 k2 k2 k3 (by assumption) (by assumption) | exact heldf k1 k1 k1 k1 k2 k2 k2 k3 (by assumption) ((Below.refl _ _).alloc (Nat.le_refl _) _) | exact heldfg k1 k1 k1 k1 k2 k2 k2 k3 (set4_grown _ _ _ _ _ _ _ _ _ _) (fun j hj => by injection hj with hj; omega) (by assumption))
      (first
        | (go_at_call 62; (with_reducible refine (CG.out _ (by assumption)).mono ?_); rintro e wG ⟨aG, cG, rfl, hSG, hbG⟩; have hSW : Below w5.heap.size w5 wG ∧ wG.cell? ⟨g, j * 4, none⟩ = some (.int .i64 cn) ∧ wG.cell? ⟨g, j * 4 + 1, none⟩ = some (.string ca) ∧ wG.cell? ⟨g, j * 4 + 2, none⟩ = some (.string cb) ∧ wG.cell? ⟨g, j * 4 + 3, none⟩ = some (.bool cf) ∧ wG.cell? ⟨B5, 0, none⟩ = some (.int .i64 (sn : Int)) ∧ wG.cell? ⟨B5, 1, none⟩ = some (.string hl) ∧ wG.cell? ⟨B5, 2, none⟩ = some (.string hm) ∧ wG.cell? ⟨w.heap.size, 0, none⟩ = some (.slice sa sn sc) := heldf k1 k1 k1 k1 k2 k2 k2 k3 (by assumption) hbG; have hzG := HZ.out _ hSW)
        | (go_at_call 61; (with_reducible refine (CF.out _ _ _ (by assumption) (by first | exact hSG | exact hSG.on ((Below.refl _ _).alloc (Nat.le_refl _) _))).mono ?_); rintro e wF ⟨rfl, hbF⟩; have hSF : Below w5.heap.size w5 wF ∧ wF.cell? ⟨g, j * 4, none⟩ = some (.int .i64 cn) ∧ wF.cell? ⟨g, j * 4 + 1, none⟩ = some (.string ca) ∧ wF.cell? ⟨g, j * 4 + 2, none⟩ = some (.string cb) ∧ wF.cell? ⟨g, j * 4 + 3, none⟩ = some (.bool cf) ∧ wF.cell? ⟨B5, 0, none⟩ = some (.int .i64 (sn : Int)) ∧ wF.cell? ⟨B5, 1, none⟩ = some (.string hl) ∧ wF.cell? ⟨B5, 2, none⟩ = some (.string hm) ∧ wF.cell? ⟨w.heap.size, 0, none⟩ = some (.slice sa sn sc) := heldf k1 k1 k1 k1 k2 k2 k2 k3 (by assumption) hbF; have hzF := HZ.out _ hSF; (first | (have tbA : wF.heap[w5.heap.size]? = some (.cells #[.int .i64 0, .string ⟨#[]⟩, .string ⟨#[]⟩, .bool false] 42) := heap_on hbF (heap_on hbG (show (w5.alloc (.cells #[.int .i64 0, .string ⟨#[]⟩, .string ⟨#[]⟩, .bool false] 42)).heap[w5.heap.size]? = _ from heap_push w5 _)); have t0 := heap_cell tbA 0 _ rfl; have f0 := frozen_of_row wF _ 0 _ _ tbA; have t1 := heap_cell tbA 1 _ rfl; have f1 := frozen_of_row wF _ 1 _ _ tbA; have t2 := heap_cell tbA 2 _ rfl; have f2 := frozen_of_row wF _ 2 _ _ tbA; have t3 := heap_cell tbA 3 _ rfl; have f3 := frozen_of_row wF _ 3 _ _ tbA) | (have tbB : wF.heap[wG.heap.size]? = some (.cells #[.int .i64 0, .string ⟨#[]⟩, .string ⟨#[]⟩, .bool false] 42) := heap_on hbF (heap_push wG _); have t0 := heap_cell tbB 0 _ rfl; have f0 := frozen_of_row wF _ 0 _ _ tbB; have t1 := heap_cell tbB 1 _ rfl; have f1 := frozen_of_row wF _ 1 _ _ tbB; have t2 := heap_cell tbB 2 _ rfl; have f2 := frozen_of_row wF _ 2 _ _ tbB; have t3 := heap_cell tbB 3 _ rfl; have f3 := frozen_of_row wF _ 3 _ _ tbB) | skip)))
    all_goals
      go_wp2_with fail
      go_meet
      case rel =>
        first
          | (have h9 := set4_row tbA (.int .i64 rN) (.string rA) (.string rB) (.bool rF); exact ⟨w5.heap.size, rfl, rfl, by omega, h9, (hSF.1).grown (set4_grown wF (w5.heap.size) 0 1 2 3 (.int .i64 rN) (.string rA) (.string rB) (.bool rF)) hzF (fun j hj => by injection hj with hj; omega)⟩)
          | (have h9 := set4_row tbB (.int .i64 rN) (.string rA) (.string rB) (.bool rF); exact ⟨wG.heap.size, rfl, rfl, by omega, h9, (hSF.1).grown (set4_grown wF (wG.heap.size) 0 1 2 3 (.int .i64 rN) (.string rA) (.string rB) (.bool rF)) hzF (fun j hj => by injection hj with hj; omega)⟩)
          | exact ⟨wF.heap.size, rfl, rfl, hzF, heap_push _ _, (hSF.1).alloc hzF _⟩
  case rest =>
    obtain ⟨gd, rfl, rfl, hgd5, p7, hbc⟩ := hcut
    obtain ⟨w6, hw6⟩ : ∃ x, x = wc := ⟨_, rfl⟩
    subst hw6
    clear q3 q5 HGR HFO k2 k3 z1 z2 z3 z4
    have h6 := h5.on hbc
    have hb6 := below_on hb2 hbc
    clear hb2 hbc
    by_cases hz : z ≠ 0 ∧ z ≠ 7
    · have HV := Lib.hid (show folZ z = z from if_pos hz)
      have zf1 : (z == 0) = false := by simp only [beq_eq_false_iff_ne, ne_eq]; exact hz.1
      have zf2 : (z == 7) = false := by simp only [beq_eq_false_iff_ne, ne_eq]; exact hz.2
      have zf3 : (z != 0) = true := by simp only [bne, zf1]; rfl
      have zf4 : (z != 7) = true := by simp only [bne, zf2]; rfl
      have hz0 := Lib.hid hz.1
      clear hz
      go_wp2_with fail
      go_ret
      exact ⟨by rw [HV.out]; rfl, by rw [HV.out]; exact hap_none hb6 hz0.out _, hb6.block N h.ltN⟩
    · have HV := Lib.hid (show folZ z = 0 from if_neg hz)
      have hw3 := HWD.out hz
      by_cases h0 : z = 0
      · clear hz
        subst h0
        have d7_0 := heap_cell p7 0 _ rfl
        have d7_1 := heap_cell p7 1 _ rfl
        have d7_2 := heap_cell p7 2 _ rfl
        have d7_3 := heap_cell p7 3 _ rfl
        obtain ⟨z1, z2, z3, z4⟩ := h6.is.four h6.cli (i := j) (by omega)
        rw [hc] at z1 z2 z3 z4
        simp only at z1 z2 z3 z4
        have y0 := frozen_of_row w6 g (j * 4) _ _ h6.cli
        have y1 := frozen_of_row w6 g (j * 4 + 1) _ _ h6.cli
        have y2 := frozen_of_row w6 g (j * 4 + 2) _ _ h6.cli
        have y3 := frozen_of_row w6 g (j * 4 + 3) _ _ h6.cli
        go_upto_region 8 with fail
        clear d7_0 d7_1 d7_2 d7_3 z1 z2 z3 z4 y0 y1 y2 y3
        obtain ⟨cur2, r9, hcur2⟩ := set4_cur h6.cli h6.is (j := j) (by omega) (rN, rA, rB, rF)
        simp only at r9
        have hgw := set4_grown w6 g (j * 4) (j * 4 + 1) (j * 4 + 2) (j * 4 + 3) (.int .i64 rN) (.string rA) (.string rB) (.bool rF)
        generalize ((((w6.setCell ⟨g, j * 4, none⟩ (.int .i64 rN)).setCell ⟨g, j * 4 + 1, none⟩ (.string rA)).setCell ⟨g, j * 4 + 2, none⟩ (.string rB)).setCell ⟨g, j * 4 + 3, none⟩ (.bool rF)) = w7 at r9 hgw ⊢
        go_wp2_with fail
        go_ret
        exact ⟨by rw [HV.out]; rfl, by rw [HV.out]; exact (h6.clients hgw r9 hcur2 (by rw [List.length_set]; exact hl3) (wide_set h6.wide j hw3) 0).pre hb6, (hgw.block N h6.ltN (by intro e; injection e with e; exact h6.ne e.symm)).trans (hb6.block N h.ltN)⟩
      · have h7 : z = 7 := Classical.byContradiction fun h => hz ⟨h0, h⟩
        clear hz h0
        subst h7
        have d7_0 := heap_cell p7 0 _ rfl
        have d7_1 := heap_cell p7 1 _ rfl
        have d7_2 := heap_cell p7 2 _ rfl
        have d7_3 := heap_cell p7 3 _ rfl
        obtain ⟨z1, z2, z3, z4⟩ := h6.is.four h6.cli (i := j) (by omega)
        rw [hc] at z1 z2 z3 z4
        simp only at z1 z2 z3 z4
        have y0 := frozen_of_row w6 g (j * 4) _ _ h6.cli
        have y1 := frozen_of_row w6 g (j * 4 + 1) _ _ h6.cli
        have y2 := frozen_of_row w6 g (j * 4 + 2) _ _ h6.cli
        have y3 := frozen_of_row w6 g (j * 4 + 3) _ _ h6.cli
        go_upto_region 8 with fail
        clear d7_0 d7_1 d7_2 d7_3 z1 z2 z3 z4 y0 y1 y2 y3
        obtain ⟨cur2, r9, hcur2⟩ := set4_cur h6.cli h6.is (j := j) (by omega) (rN, rA, rB, rF)
        simp only at r9
        have hgw := set4_grown w6 g (j * 4) (j * 4 + 1) (j * 4 + 2) (j * 4 + 3) (.int .i64 rN) (.string rA) (.string rB) (.bool rF)
        generalize ((((w6.setCell ⟨g, j * 4, none⟩ (.int .i64 rN)).setCell ⟨g, j * 4 + 1, none⟩ (.string rA)).setCell ⟨g, j * 4 + 2, none⟩ (.string rB)).setCell ⟨g, j * 4 + 3, none⟩ (.bool rF)) = w7 at r9 hgw ⊢
        go_wp2_with fail
        go_ret
        exact ⟨by rw [HV.out]; rfl, by rw [HV.out]; exact (h6.clients hgw r9 hcur2 (by rw [List.length_set]; exact hl3) (wide_set h6.wide j hw3) 0).pre hb6, (hgw.block N h6.ltN (by intro e; injection e with e; exact h6.ne e.symm)).trans (hb6.block N h.ltN)⟩

end Go.Proofs.YtnemiobgmdpnmagGreatFmt
namespace Go.Proofs.YtnemiobgmdpnmagGreatFmt
open Go Go.RowKit

theorem okK_true {W : WB} {p q : CliB} (h : metP W p q) : okK W p q 2 = true := (okK_iff W p q).2 h
theorem okK_met {W : WB} {p q : CliB} {k : Nat} (hk : k < 2) (h : metBy p q (sideL W (k : Int))) : okK W p q 2 = true := by
  refine okK_true ?_
  rcases Nat.lt_or_ge k 1 with h1 | h1
  · obtain rfl : k = 0 := by omega
    exact .inr (.inl h)
  · obtain rfl : k = 1 := by omega
    exact .inr (.inr h)
theorem okK_none {W : WB} {p q : CliB} (h0 : metE p q [] ≠ 0) (h : ∀ k : Nat, k < 2 → ¬ metBy p q (sideL W (k : Int))) : okK W p q 2 = false := by
  cases e : okK W p q 2 with
  | false => rfl
  | true =>
    rcases (okK_iff W p q).1 e with h1 | h1 | h1
    · exact absurd h1 h0
    · exact absurd h1 (h 0 (by omega))
    · exact absurd h1 (h 1 (by omega))

set_option maxHeartbeats 16000000 in
set_option maxRecDepth 100000 in
theorem wagree_any (W : WB) (a0 : Option Addr) (n0 c0 : Nat) (a1 : Option Addr) (n1 c1 : Nat) (a2 : Option Addr) (n2 c2 : Nat) (m1 : Nat) (ca cb : ByteArray) (cf : Bool) (m2 : Nat) (qa qb : ByteArray) (qf : Bool) (w : World) (hE : Tab w) (hW : WAt w a0 n0 c0 a1 n1 c1 a2 n2 c2 W) (hG : worldE W = 0) :
    Calls Tryz.prog 63 #[.agg #[.slice a0 n0 c0, .slice a1 n1 c1], .agg #[.int .i64 (m1 : Int), .string ca, .string cb], .agg #[.int .i64 (m2 : Int), .string qa, .string qb]] w fun e w' => e = .returned (.bool (okK W ((m1 : Int), ca, cb, cf) ((m2 : Int), qa, qb, qf) 2)) ∧ Below w.heap.size w w' := by
  have HT := Lib.hid (fun (h : metE ((m1 : Int), ca, cb, cf) ((m2 : Int), qa, qb, qf) [] = 0) => okK_true (W := W) (.inl h))
  have HK := Lib.hid (fun (k : Nat) (hk : k < 2) h => okK_met (W := W) (p := ((m1 : Int), ca, cb, cf)) (q := ((m2 : Int), qa, qb, qf)) hk h)
  have HN := Lib.hid (fun h0 h => okK_none (W := W) (p := ((m1 : Int), ca, cb, cf)) (q := ((m2 : Int), qa, qb, qf)) h0 h)
  have e0 : metE ((m1 : Int), ca, cb, cf) ((m2 : Int), qa, qb, qf) [] = meetE (m1 : Int) ca cb (m2 : Int) qa qb [] := rfl
  rw [e0] at HT HN
  have hm0 := fun w1 hE => same_any (m1 : Int) ca cb (m2 : Int) qa qb [] none 0 0 w1 rfl hE ⟨Nat.le_refl _, by omega, fun s hs => by simp at hs, fun h => by simp at h⟩
  generalize meetE (m1 : Int) ca cb (m2 : Int) qa qb [] = y0 at hm0 HT HN
  clear e0
  have HM := Lib.hid hm0
  clear hm0
  obtain ⟨q3, q4, q5, _⟩ := boxes3 w (.cells #[.slice a0 n0 c0, .slice a1 n1 c1] 25) (.cells #[.int .i64 (m1 : Int), .string ca, .string cb] 40) (.cells #[.int .i64 (m2 : Int), .string qa, .string qb] 40)
  have hb0 := below3 w (.cells #[.slice a0 n0 c0, .slice a1 n1 c1] 25) (.cells #[.int .i64 (m1 : Int), .string ca, .string cb] 40) (.cells #[.int .i64 (m2 : Int), .string qa, .string qb] 40)
  have dq4_0 := heap_cell q4 0 _ rfl
  have dq4_1 := heap_cell q4 1 _ rfl
  have dq4_2 := heap_cell q4 2 _ rfl
  have dq5_0 := heap_cell q5 0 _ rfl
  have dq5_1 := heap_cell q5 1 _ rfl
  have dq5_2 := heap_cell q5 2 _ rfl
  go_enter Tryz.func63, Tryz.ntmps63
  go_wp2_with fail
  generalize (((w.alloc (.cells #[.slice a0 n0 c0, .slice a1 n1 c1] 25)).alloc (.cells #[.int .i64 (m1 : Int), .string ca, .string cb] 40)).alloc (.cells #[.int .i64 (m2 : Int), .string qa, .string qb] 40)) = w0 at q3 q4 q5 hb0 dq4_0 dq4_1 dq4_2 dq5_0 dq5_1 dq5_2 ⊢
  refine (HM.out w0 (hE.on hb0)).mono ?_
  rintro e w1 ⟨rfl, hb1⟩
  have q3 := heap_on hb1 q3
  have q4 := heap_on hb1 q4
  have q5 := heap_on hb1 q5
  have hb1 := below_on hb0 hb1
  clear hb0
  clear dq4_0 dq4_1 dq4_2 dq5_0 dq5_1 dq5_2
  by_cases hy : y0 = 0
  · have hV := Lib.hid (HT.out hy)
    subst hy
    go_wp2_with fail
    go_ret
    exact ⟨by rw [hV.out]; rfl, hb1⟩
  have hyf : (y0 == 0) = false := by simp only [beq_eq_false_iff_ne, ne_eq]; exact hy
  have HN := Lib.hid (HN.out hy)
  clear HT HM hy
  obtain ⟨M, hM⟩ : ∃ M, max m1 m2 = M := ⟨_, rfl⟩
  obtain ⟨N, hN⟩ : ∃ N, min m1 m2 = N := ⟨_, rfl⟩
  have hmx : max (m1 : Int) (m2 : Int) = (M : Int) := by omega
  have hmn : min (m1 : Int) (m2 : Int) = (N : Int) := by omega
  clear hM hN
  have dq4_0 := heap_cell q4 0 _ rfl
  have dq5_0 := heap_cell q5 0 _ rfl
  go_upto_region 3 with fail
  go_cut [7, 8] (fun s7 s8 w' => s7 = .int .i64 (N : Int) ∧ s8 = .int .i64 (M : Int) ∧ Below w1.heap.size w1 w')
  case first =>
    go_region
    all_goals
      go_wp2_with fail
      go_meet
      case rel => exact ⟨rfl, rfl, (Below.refl _ _).drew⟩
  case rest =>
    obtain ⟨rfl, rfl, hbc⟩ := hcut
    obtain ⟨wL, hwL⟩ : ∃ x, x = wc := ⟨_, rfl⟩
    subst hwL
    clear dq4_0 dq5_0 hyf
    have q3 := heap_on hbc q3
    have q4 := heap_on hbc q4
    have q5 := heap_on hbc q5
    have hbL := below_on hb1 hbc
    clear hb1 hbc
    have d3_0 := heap_cell q3 0 _ rfl
    have d3_1 := heap_cell q3 1 _ rfl
    go_wp2_with fail
    go_loopg [26] 2 (fun gh s26 wr => ∃ k : Nat, s26 = .int .i64 (k : Int) ∧ k ≤ 2 ∧ 2 - k ≤ gh ∧ (∀ i : Nat, i < k → ¬ metBy ((m1 : Int), ca, cb, cf) ((m2 : Int), qa, qb, qf) (sideL W (i : Int))) ∧ Below wL.heap.size wL wr)
    case atStart => exact ⟨0, rfl, Nat.zero_le _, by omega, fun i hi => absurd hi (Nat.not_lt_zero _), Below.refl _ _⟩
    case round =>
      clear d3_0 d3_1
      obtain ⟨k, rfl, hk2, hgh, hp, hbr⟩ := hrel
      have hb7 := below_on hbL hbr
      rcases Nat.lt_or_ge k 2 with hk | hk
      · obtain ⟨ta, tn, tc, htv, htn, htE⟩ := side_ents hW k
        have hix := run_books k hk (.slice a0 n0 c0) (.slice a1 n1 c1) wr
        rw [htv] at hix
        have hk1 : (k : Int) < 2 := by omega
        have q4 := heap_on hbr q4
        have q5 := heap_on hbr q5
        clear q3
        have q10 := heap_push wr (.cells #[.slice ta tn tc] 24)
        have q4 := heap_old wr (.cells #[.slice ta tn tc] 24) q4
        have q5 := heap_old wr (.cells #[.slice ta tn tc] 24) q5
        have hb8 := hb7.alloc hb7.size (.cells #[.slice ta tn tc] 24)
        have hbr8 := hbr.alloc hbr.size (.cells #[.slice ta tn tc] 24)
        clear hbr
        go_upto_region 7 with fail
        generalize (wr.alloc (.cells #[.slice ta tn tc] 24)) = w5 at q4 q5 q10 hb8 hbr8 ⊢
        generalize wr.heap.size = B10 at q10 ⊢
        clear hix hb7
        have k1 := (Array.getElem?_eq_some_iff.1 q4).1
        have k2 := (Array.getElem?_eq_some_iff.1 q5).1
        have k3 := (Array.getElem?_eq_some_iff.1 q10).1
        have HP := Lib.hid hp
        clear hp
        by_cases hle : M ≤ tn
        · have hle1 : (M : Int) ≤ (tn : Int) := by omega
          have hle2 : decide ((M : Int) ≤ (tn : Int)) = true := decide_eq_true hle1
          have hle3 : decide (M ≤ tn) = true := decide_eq_true hle
          have hgk := good_take (side_good hG (k : Int)) M
          have htM : ((sideL W k).take M).length = M := by rw [List.length_take]; omega
          have hgr := fun w1 hE hS => wgrowth_any ((sideL W k).take M) ta M tc (N : Int) w1 hE htM hS hgk
          have hbv : metBy ((m1 : Int), ca, cb, cf) ((m2 : Int), qa, qb, qf) (sideL W (k : Int)) ↔ meetE (m1 : Int) ca cb (m2 : Int) qa qb (growL ((sideL W k).take M) (N : Int)) = 0 := by
            show (max (m1 : Int) (m2 : Int) ≤ _ ∧ meetE (m1 : Int) ca cb (m2 : Int) qa qb (growL ((sideL W (k : Int)).take (max (m1 : Int) (m2 : Int)).toNat) (min (m1 : Int) (m2 : Int))) = 0) ↔ _
            rw [hmx, hmn, Int.toNat_natCast]
            exact ⟨fun h => h.2, fun h => ⟨by omega, h⟩⟩
          generalize growL ((sideL W k).take M) (N : Int) = G at hgr hbv
          have hme := fun a c w1 hE hS => same_any (m1 : Int) ca cb (m2 : Int) qa qb G a G.length c w1 rfl hE hS
          generalize meetE (m1 : Int) ca cb (m2 : Int) qa qb G = z at hme hbv
          have hcap := htE.cap
          have htk := fun w1 => run_take ta tn tc M (by omega) w1
          have HBV := Lib.hid hbv
          have HGR := Lib.hid hgr
          have HME := Lib.hid hme
          clear hbv hgr hme hgk htM
          go_cut [46] (fun s46 w' => s46 = .bool (z == 0) ∧ Below w5.heap.size w5 w')
          case first =>
            have hS0 : Below w5.heap.size w5 w5.drew ∧ w5.drew.cell? ⟨w.heap.size + 1, 0, none⟩ = some (.int .i64 (m1 : Int)) ∧ w5.drew.cell? ⟨w.heap.size + 1, 1, none⟩ = some (.string ca) ∧ w5.drew.cell? ⟨w.heap.size + 1, 2, none⟩ = some (.string cb) ∧ w5.drew.cell? ⟨w.heap.size + 1 + 1, 0, none⟩ = some (.int .i64 (m2 : Int)) ∧ w5.drew.cell? ⟨w.heap.size + 1 + 1, 1, none⟩ = some (.string qa) ∧ w5.drew.cell? ⟨w.heap.size + 1 + 1, 2, none⟩ = some (.string qb) ∧ w5.drew.cell? ⟨B10, 0, none⟩ = some (.slice ta tn tc) := ⟨(Below.refl _ _).drew, heap_cell q4 0 _ rfl, heap_cell q4 1 _ rfl, heap_cell q4 2 _ rfl, heap_cell q5 0 _ rfl, heap_cell q5 1 _ rfl, heap_cell q5 2 _ rfl, heap_cell q10 0 _ rfl⟩
            have HL := Lib.hid (fun w' (h : Below w5.heap.size w5 w' ∧ w'.cell? ⟨w.heap.size + 1, 0, none⟩ = some (.int .i64 (m1 : Int)) ∧ w'.cell? ⟨w.heap.size + 1, 1, none⟩ = some (.string ca) ∧ w'.cell? ⟨w.heap.size + 1, 2, none⟩ = some (.string cb) ∧ w'.cell? ⟨w.heap.size + 1 + 1, 0, none⟩ = some (.int .i64 (m2 : Int)) ∧ w'.cell? ⟨w.heap.size + 1 + 1, 1, none⟩ = some (.string qa) ∧ w'.cell? ⟨w.heap.size + 1 + 1, 2, none⟩ = some (.string qb) ∧ w'.cell? ⟨B10, 0, none⟩ = some (.slice ta tn tc)) => below_on hb8 h.1)
            have HB := Lib.hid (fun w' (h : Below w5.heap.size w5 w' ∧ w'.cell? ⟨w.heap.size + 1, 0, none⟩ = some (.int .i64 (m1 : Int)) ∧ w'.cell? ⟨w.heap.size + 1, 1, none⟩ = some (.string ca) ∧ w'.cell? ⟨w.heap.size + 1, 2, none⟩ = some (.string cb) ∧ w'.cell? ⟨w.heap.size + 1 + 1, 0, none⟩ = some (.int .i64 (m2 : Int)) ∧ w'.cell? ⟨w.heap.size + 1 + 1, 1, none⟩ = some (.string qa) ∧ w'.cell? ⟨w.heap.size + 1 + 1, 2, none⟩ = some (.string qb) ∧ w'.cell? ⟨B10, 0, none⟩ = some (.slice ta tn tc)) => h.1)
            have CG := Lib.hid (fun w' (h : Below w5.heap.size w5 w' ∧ w'.cell? ⟨w.heap.size + 1, 0, none⟩ = some (.int .i64 (m1 : Int)) ∧ w'.cell? ⟨w.heap.size + 1, 1, none⟩ = some (.string ca) ∧ w'.cell? ⟨w.heap.size + 1, 2, none⟩ = some (.string cb) ∧ w'.cell? ⟨w.heap.size + 1 + 1, 0, none⟩ = some (.int .i64 (m2 : Int)) ∧ w'.cell? ⟨w.heap.size + 1 + 1, 1, none⟩ = some (.string qa) ∧ w'.cell? ⟨w.heap.size + 1 + 1, 2, none⟩ = some (.string qb) ∧ w'.cell? ⟨B10, 0, none⟩ = some (.slice ta tn tc)) => HGR.out w' (hE.on (HL.out w' h)) ((htE.take M).on (HL.out w' h)))
            have CM := Lib.hid (fun a c w' (h : Below w5.heap.size w5 w' ∧ w'.cell? ⟨w.heap.size + 1, 0, none⟩ = some (.int .i64 (m1 : Int)) ∧ w'.cell? ⟨w.heap.size + 1, 1, none⟩ = some (.string ca) ∧ w'.cell? ⟨w.heap.size + 1, 2, none⟩ = some (.string cb) ∧ w'.cell? ⟨w.heap.size + 1 + 1, 0, none⟩ = some (.int .i64 (m2 : Int)) ∧ w'.cell? ⟨w.heap.size + 1 + 1, 1, none⟩ = some (.string qa) ∧ w'.cell? ⟨w.heap.size + 1 + 1, 2, none⟩ = some (.string qb) ∧ w'.cell? ⟨B10, 0, none⟩ = some (.slice ta tn tc)) (hS : StrsAt w' a c G) => HME.out a c w' (hE.on (HL.out w' h)) hS)
            go_region_held3 (fun w' => Below w5.heap.size w5 w' ∧ w'.cell? ⟨w.heap.size + 1, 0, none⟩ = some (.int .i64 (m1 : Int)) ∧ w'.cell? ⟨w.heap.size + 1, 1, none⟩ = some (.string ca) ∧ w'.cell? ⟨w.heap.size + 1, 2, none⟩ = some (.string cb) ∧ w'.cell? ⟨w.heap.size + 1 + 1, 0, none⟩ = some (.int .i64 (m2 : Int)) ∧ w'.cell? ⟨w.heap.size + 1 + 1, 1, none⟩ = some (.string qa) ∧ w'.cell? ⟨w.heap.size + 1 + 1, 2, none⟩ = some (.string qb) ∧ w'.cell? ⟨B10, 0, none⟩ = some (.slice ta tn tc))
              (first | assumption | exact hold7 k1 k2 k3 (by assumption) (by assumption))
              (first
                | (go_at_call 62; (with_reducible refine (CG.out _ (by assumption)).mono ?_); rintro e w' ⟨aG, cG, rfl, hSG, hb⟩)
                | (go_at_call 71; (with_reducible refine (CM.out _ _ _ (by assumption) (by assumption)).mono ?_); rintro e w' ⟨rfl, hb⟩))
            all_goals
              go_wp2_with fail
              go_meet
              case rel => exact ⟨rfl, HB.out _ (by assumption)⟩
          case rest =>
            obtain ⟨rfl, hbc⟩ := hcut
            obtain ⟨w6, hw6⟩ : ∃ x, x = wc := ⟨_, rfl⟩
            subst hw6
            have hb9 := below_on hb8 hbc
            have hbq := below_on hbr8 hbc
            clear hb8 hbr8 q10 k1 k2 k3 HGR HME hle1 hle2 hle3 htk hbc q4 q5
            by_cases hz : z = 0
            · have hV := Lib.hid (HK.out k hk (HBV.out.2 hz))
              subst hz
              go_wp2_with fail
              go_ret
              exact ⟨by rw [hV.out]; rfl, hb9⟩
            · have hok := fun h => hz (HBV.out.1 h)
              have zf1 : (z == 0) = false := by simp only [beq_eq_false_iff_ne, ne_eq]; exact hz
              clear hz HBV HK HN
              have hN : ∀ i : Nat, i < k + 1 → ¬ metBy ((m1 : Int), ca, cb, cf) ((m2 : Int), qa, qb, qf) (sideL W (i : Int)) := fun i hi => if e : i = k then e ▸ hok else HP.out i (by omega)
              clear HP
              have HQ := Lib.hid hN
              clear hN hok
              go_wp2_with fail
              go_roundg (2 - (k + 1))
              case rel => exact ⟨k + 1, by go_num, by omega, by omega, HQ.out, hbq⟩
              case measure => omega
        · have hle1 : ¬ (M : Int) ≤ (tn : Int) := by omega
          have hle2 : decide ((M : Int) ≤ (tn : Int)) = false := decide_eq_false hle1
          have hle3 : decide (M ≤ tn) = false := decide_eq_false hle
          have hok : ¬ metBy ((m1 : Int), ca, cb, cf) ((m2 : Int), qa, qb, qf) (sideL W (k : Int)) := by
            intro h
            have h1 : max (m1 : Int) (m2 : Int) ≤ ((sideL W k).length : Int) := h.1
            rw [hmx, htn] at h1
            omega
          go_cut [46] (fun s46 w' => s46 = .bool false ∧ Below w5.heap.size w5 w')
          case first =>
            have dq := heap_cell q10 0 _ rfl
            go_region
            all_goals
              go_wp2_with fail
              go_meet
              case rel => exact ⟨rfl, (Below.refl _ _).drew⟩
          case rest =>
            obtain ⟨rfl, hbc⟩ := hcut
            obtain ⟨w6, hw6⟩ : ∃ x, x = wc := ⟨_, rfl⟩
            subst hw6
            have hbq := below_on hbr8 hbc
            clear hb8 hbr8 q10 k1 k2 k3 hle1 hle2 hle3 hbc q4 q5 HK HN
            have hN : ∀ i : Nat, i < k + 1 → ¬ metBy ((m1 : Int), ca, cb, cf) ((m2 : Int), qa, qb, qf) (sideL W (i : Int)) := fun i hi => if e : i = k then e ▸ hok else HP.out i (by omega)
            clear HP
            have HQ := Lib.hid hN
            clear hN hok
            go_wp2_with fail
            go_roundg (2 - (k + 1))
            case rel => exact ⟨k + 1, by go_num, by omega, by omega, HQ.out, hbq⟩
            case measure => omega
      · obtain rfl : k = 2 := by omega
        have hV := Lib.hid (HN.out hp)
        clear hp HN HK
        go_wp2_with fail
        go_ret
        exact ⟨by rw [hV.out]; rfl, hb7⟩

end Go.Proofs.YtnemiobgmdpnmagGreatFmt
namespace Go.Proofs.YtnemiobgmdpnmagGreatFmt
open Go Go.RowKit


theorem heldmg {w5 cur w' : World} {b1 o1 b2 o2 b3 o3 b4 o4 b5 o5 b6 o6 b7 o7 b8 o8 b9 o9 : Nat} {u1 u2 u3 u4 u5 u6 u7 u8 u9 : Value} {row : Option Nat} (k1 : b1 < w5.heap.size) (k2 : b2 < w5.heap.size) (k3 : b3 < w5.heap.size) (k4 : b4 < w5.heap.size) (k5 : b5 < w5.heap.size) (k6 : b6 < w5.heap.size) (k7 : b7 < w5.heap.size) (k8 : b8 < w5.heap.size) (k9 : b9 < w5.heap.size) (hg : cur.grownBy w' row) (hr : ∀ j, row = some j → w5.heap.size ≤ j) (h : Below w5.heap.size w5 cur ∧ cur.cell? ⟨b1, o1, none⟩ = some u1 ∧ cur.cell? ⟨b2, o2, none⟩ = some u2 ∧ cur.cell? ⟨b3, o3, none⟩ = some u3 ∧ cur.cell? ⟨b4, o4, none⟩ = some u4 ∧ cur.cell? ⟨b5, o5, none⟩ = some u5 ∧ cur.cell? ⟨b6, o6, none⟩ = some u6 ∧ cur.cell? ⟨b7, o7, none⟩ = some u7 ∧ cur.cell? ⟨b8, o8, none⟩ = some u8 ∧ cur.cell? ⟨b9, o9, none⟩ = some u9) :
    Below w5.heap.size w5 w' ∧ w'.cell? ⟨b1, o1, none⟩ = some u1 ∧ w'.cell? ⟨b2, o2, none⟩ = some u2 ∧ w'.cell? ⟨b3, o3, none⟩ = some u3 ∧ w'.cell? ⟨b4, o4, none⟩ = some u4 ∧ w'.cell? ⟨b5, o5, none⟩ = some u5 ∧ w'.cell? ⟨b6, o6, none⟩ = some u6 ∧ w'.cell? ⟨b7, o7, none⟩ = some u7 ∧ w'.cell? ⟨b8, o8, none⟩ = some u8 ∧ w'.cell? ⟨b9, o9, none⟩ = some u9 := by
  have key : ∀ (b j : Nat) (u : Value), b < w5.heap.size → cur.cell? ⟨b, j, none⟩ = some u → w'.cell? ⟨b, j, none⟩ = some u := fun b j u hb hu => hg.cell hu (fun e => by have := hr b e.symm; omega)
  obtain ⟨h0, h1, h2, h3, h4, h5, h6, h7, h8, h9⟩ := h
  exact ⟨h0.grown hg h0.size hr, key _ _ _ k1 h1, key _ _ _ k2 h2, key _ _ _ k3 h3, key _ _ _ k4 h4, key _ _ _ k5 h5, key _ _ _ k6 h6, key _ _ _ k7 h7, key _ _ _ k8 h8, key _ _ _ k9 h9⟩
theorem heldm {w5 cur w' : World} {b1 o1 b2 o2 b3 o3 b4 o4 b5 o5 b6 o6 b7 o7 b8 o8 b9 o9 : Nat} {u1 u2 u3 u4 u5 u6 u7 u8 u9 : Value} (k1 : b1 < w5.heap.size) (k2 : b2 < w5.heap.size) (k3 : b3 < w5.heap.size) (k4 : b4 < w5.heap.size) (k5 : b5 < w5.heap.size) (k6 : b6 < w5.heap.size) (k7 : b7 < w5.heap.size) (k8 : b8 < w5.heap.size) (k9 : b9 < w5.heap.size) (h : Below w5.heap.size w5 cur ∧ cur.cell? ⟨b1, o1, none⟩ = some u1 ∧ cur.cell? ⟨b2, o2, none⟩ = some u2 ∧ cur.cell? ⟨b3, o3, none⟩ = some u3 ∧ cur.cell? ⟨b4, o4, none⟩ = some u4 ∧ cur.cell? ⟨b5, o5, none⟩ = some u5 ∧ cur.cell? ⟨b6, o6, none⟩ = some u6 ∧ cur.cell? ⟨b7, o7, none⟩ = some u7 ∧ cur.cell? ⟨b8, o8, none⟩ = some u8 ∧ cur.cell? ⟨b9, o9, none⟩ = some u9) (hb : Below cur.heap.size cur w') :
    Below w5.heap.size w5 w' ∧ w'.cell? ⟨b1, o1, none⟩ = some u1 ∧ w'.cell? ⟨b2, o2, none⟩ = some u2 ∧ w'.cell? ⟨b3, o3, none⟩ = some u3 ∧ w'.cell? ⟨b4, o4, none⟩ = some u4 ∧ w'.cell? ⟨b5, o5, none⟩ = some u5 ∧ w'.cell? ⟨b6, o6, none⟩ = some u6 ∧ w'.cell? ⟨b7, o7, none⟩ = some u7 ∧ w'.cell? ⟨b8, o8, none⟩ = some u8 ∧ w'.cell? ⟨b9, o9, none⟩ = some u9 := heldmg k1 k2 k3 k4 k5 k6 k7 k8 k9 (below_grown hb none) (fun j hj => by cases hj) h

set_option maxHeartbeats 16000000 in
set_option maxRecDepth 100000 in
theorem whold_any (B N g : Nat) (u0 : Option Addr) (n0 d0 : Nat) (u1 : Option Addr) (n1 d1 d2 : Nat) (cur : Array Value) (W : WB) (j i : Nat) (w : World) (hE : Tab w) (h : HoldsW w B N g u0 n0 d0 u1 n1 d1 d2 cur W) (hG : worldE W = 0) (hj : j < 3) (hi : i < 3) :
    Calls Tryz.prog 54 #[.pointer (some ⟨N, 0, none⟩), .int .i64 (j : Int), .int .i64 (i : Int)] w fun e w' => e = .returned (.tuple #[]) ∧ HapPost w w' B N g 0 (if okK W (cliOf W.cs j) (cliOf W.cs i) 2 = true then W else { W with cs := (W.cs.set j (foolC (cliOf W.cs j))).set i (foolC (cliOf W.cs i)) }) := by
  obtain ⟨_, _, _, hce⟩ := (worldE_iff W).1 hG
  have hl3 := h.l2
  have hcj := hce _ (cliOf_mem (l := W.cs) (i := j) (by omega))
  have hci := hce _ (cliOf_mem (l := W.cs) (i := i) (by omega))
  clear hce
  obtain ⟨z1, z2, z3, z4⟩ := h.is.four h.cli (i := j) (by omega)
  obtain ⟨y1, y2, y3, y4⟩ := h.is.four h.cli (i := i) (by omega)
  obtain ⟨cj, hqj⟩ : ∃ c, cliOf W.cs j = c := ⟨_, rfl⟩
  obtain ⟨ci, hqi⟩ : ∃ c, cliOf W.cs i = c := ⟨_, rfl⟩
  rw [hqj] at hcj z1 z2 z3 z4 ⊢
  rw [hqi] at hci y1 y2 y3 y4 ⊢
  obtain ⟨cn, ca, cb, cf⟩ := cj
  obtain ⟨qn, qa, qb, qf⟩ := ci
  simp only at z1 z2 z3 z4 y1 y2 y3 y4
  obtain ⟨cn1, cn2, cn3, cn4⟩ := (headE_iff cn ca cb).1 hcj
  obtain ⟨qn1, qn2, qn3, qn4⟩ := (headE_iff qn qa qb).1 hci
  clear hcj hci
  obtain ⟨m1, rfl⟩ : ∃ m : Nat, cn = (m : Int) := ⟨cn.toNat, by omega⟩
  obtain ⟨m2, rfl⟩ : ∃ m : Nat, qn = (m : Int) := ⟨qn.toNat, by omega⟩
  have HA := Lib.hid (fun w1 hE hW => wagree_any W u0 n0 d0 u1 n1 d1 (some ⟨g, 0, none⟩) 3 d2 m1 ca cb cf m2 qa qb qf w1 hE hW hG)
  generalize okK W ((m1 : Int), ca, cb, cf) ((m2 : Int), qa, qb, qf) 2 = OK at HA ⊢
  have HJ := Lib.hid hqj
  have HI := Lib.hid hqi
  clear hqj hqi
  have hj1 : (j : Int) < 3 := by omega
  have hi1 : (i : Int) < 3 := by omega
  have p2 := h.box
  have k1 := h.ltN
  have k2 := h.ltg
  go_enter Tryz.func54, Tryz.ntmps54
  go_upto_region 0 with fail
  go_cut [27] (fun s27 w' => s27 = .bool (!OK) ∧ Below w.heap.size w w')
  case first =>
    have hS0 : Below w.heap.size w w.drew ∧ w.drew.cell? ⟨N, 0, none⟩ = some (.slice u0 n0 d0) ∧ w.drew.cell? ⟨N, 1, none⟩ = some (.slice u1 n1 d1) ∧ w.drew.cell? ⟨N, 2, none⟩ = some (.slice (some ⟨g, 0, none⟩) 3 d2) ∧ w.drew.cell? ⟨g, j * 4, none⟩ = some (.int .i64 (m1 : Int)) ∧ w.drew.cell? ⟨g, j * 4 + 1, none⟩ = some (.string ca) ∧ w.drew.cell? ⟨g, j * 4 + 2, none⟩ = some (.string cb) ∧ w.drew.cell? ⟨g, i * 4, none⟩ = some (.int .i64 (m2 : Int)) ∧ w.drew.cell? ⟨g, i * 4 + 1, none⟩ = some (.string qa) ∧ w.drew.cell? ⟨g, i * 4 + 2, none⟩ = some (.string qb) := ⟨(Below.refl _ _).drew, heap_cell p2 0 _ rfl, heap_cell p2 1 _ rfl, heap_cell p2 2 _ rfl, z1, z2, z3, y1, y2, y3⟩
    have HB := Lib.hid (fun w' (h : Below w.heap.size w w' ∧ w'.cell? ⟨N, 0, none⟩ = some (.slice u0 n0 d0) ∧ w'.cell? ⟨N, 1, none⟩ = some (.slice u1 n1 d1) ∧ w'.cell? ⟨N, 2, none⟩ = some (.slice (some ⟨g, 0, none⟩) 3 d2) ∧ w'.cell? ⟨g, j * 4, none⟩ = some (.int .i64 (m1 : Int)) ∧ w'.cell? ⟨g, j * 4 + 1, none⟩ = some (.string ca) ∧ w'.cell? ⟨g, j * 4 + 2, none⟩ = some (.string cb) ∧ w'.cell? ⟨g, i * 4, none⟩ = some (.int .i64 (m2 : Int)) ∧ w'.cell? ⟨g, i * 4 + 1, none⟩ = some (.string qa) ∧ w'.cell? ⟨g, i * 4 + 2, none⟩ = some (.string qb)) => h.1)
    have CA := Lib.hid (fun w' (h' : Below w.heap.size w w' ∧ w'.cell? ⟨N, 0, none⟩ = some (.slice u0 n0 d0) ∧ w'.cell? ⟨N, 1, none⟩ = some (.slice u1 n1 d1) ∧ w'.cell? ⟨N, 2, none⟩ = some (.slice (some ⟨g, 0, none⟩) 3 d2) ∧ w'.cell? ⟨g, j * 4, none⟩ = some (.int .i64 (m1 : Int)) ∧ w'.cell? ⟨g, j * 4 + 1, none⟩ = some (.string ca) ∧ w'.cell? ⟨g, j * 4 + 2, none⟩ = some (.string cb) ∧ w'.cell? ⟨g, i * 4, none⟩ = some (.int .i64 (m2 : Int)) ∧ w'.cell? ⟨g, i * 4 + 1, none⟩ = some (.string qa) ∧ w'.cell? ⟨g, i * 4 + 2, none⟩ = some (.string qb)) => HA.out w' (hE.on h'.1) (h.on h'.1).wat)
    go_region_held3 (fun w' => Below w.heap.size w w' ∧ w'.cell? ⟨N, 0, none⟩ = some (.slice u0 n0 d0) ∧ w'.cell? ⟨N, 1, none⟩ = some (.slice u1 n1 d1) ∧ w'.cell? ⟨N, 2, none⟩ = some (.slice (some ⟨g, 0, none⟩) 3 d2) ∧ w'.cell? ⟨g, j * 4, none⟩ = some (.int .i64 (m1 : Int)) ∧ w'.cell? ⟨g, j * 4 + 1, none⟩ = some (.string ca) ∧ w'.cell? ⟨g, j * 4 + 2, none⟩ = some (.string cb) ∧ w'.cell? ⟨g, i * 4, none⟩ = some (.int .i64 (m2 : Int)) ∧ w'.cell? ⟨g, i * 4 + 1, none⟩ = some (.string qa) ∧ w'.cell? ⟨g, i * 4 + 2, none⟩ = some (.string qb))
      (first | assumption | exact heldm k1 k1 k1 k2 k2 k2 k2 k2 k2 (by assumption) (by assumption))
      (first
        | (go_at_call 63; (with_reducible refine (CA.out _ (by assumption)).mono ?_); rintro e w' ⟨rfl, hb⟩))
    all_goals
      go_wp2_with fail
      go_meet
      case rel => exact ⟨rfl, HB.out _ (by assumption)⟩
  case rest =>
    obtain ⟨rfl, hbc⟩ := hcut
    obtain ⟨w7, hw7⟩ : ∃ x, x = wc := ⟨_, rfl⟩
    subst hw7
    have h7 := h.on hbc
    clear HA z1 z2 z3 z4 y1 y2 y3 y4 p2 k1 k2
    cases OK with
    | true =>
      go_wp2_with fail
      refine bodyPost_end (results_none rfl _ _ _) rfl ?_
      exact ⟨rfl, (h7.same (Below.refl _ _) 0).pre hbc⟩
    | false =>
      have hj3 : j < W.cs.length := by omega
      have hi3 : i < W.cs.length := by omega
      have p2 := h7.box
      have p9 := h7.cli
      have hne := h7.ne
      obtain ⟨c1, r1, e1⟩ := set1_cur p9 h7.is hj3
      obtain ⟨cur2, r2, e2⟩ := set1_cur r1 e1 (j := i) (by rw [List.length_set]; exact hi3)
      rw [fool_both hj3] at e2
      have hgw : w7.grownBy ((w7.setCell ⟨g, j * 4 + 3, none⟩ (.bool true)).setCell ⟨g, i * 4 + 3, none⟩ (.bool true)) (some g) := grow_trans (set_grown _ _ _ _) (set_grown _ _ _ _) (fun k hk => .inl (by injection hk with hk; exact hk.symm))
      rw [HJ.out, HI.out] at e2
      have hw3 := wide_set (wide_set h7.wide j (fool_wide h7.wide (j := j) (by omega))) i (fool_wide h7.wide (j := i) (by omega))
      rw [HJ.out, HI.out] at hw3
      have R := Lib.hid (h7.clients hgw r2 e2 (by rw [List.length_set, List.length_set]; exact hl3) hw3 0)
      clear r2 e2 hgw hw3
      have d2_2 := heap_cell p2 2 _ rfl
      have z4 := (h7.is.four p9 (i := j) (by omega)).2.2.2
      have y4 := (h7.is.four p9 (i := i) (by omega)).2.2.2
      rw [HJ.out] at z4
      rw [HI.out] at y4
      simp only at z4 y4
      have f1 := frozen_of_row w7 g (j * 4 + 3) _ _ p9
      have f2 := frozen_of_row w7 g (i * 4 + 3) _ _ p9
      go_upto_region 1 with fail
      by_cases hij : i = j
      · subst hij
        have R' := R.out
        rw [List.set_set] at R'
        have R := Lib.hid R'
        clear R'
        go_region
        all_goals
          go_wp2_with fail
          refine bodyPost_end (results_none rfl _ _ _) rfl ?_
          exact ⟨rfl, (R.out.post (Below.refl _ _).drew).pre hbc⟩
      · have ne1 : i * 4 + 3 ≠ j * 4 + 3 := by omega
        have ne2 : j * 4 + 3 ≠ i * 4 + 3 := by omega
        go_region
        all_goals
          go_wp2_with fail
          refine bodyPost_end (results_none rfl _ _ _) rfl ?_
          exact ⟨rfl, (R.out.post (Below.refl _ _).drew).pre hbc⟩

end Go.Proofs.YtnemiobgmdpnmagGreatFmt
namespace Go.Proofs.YtnemiobgmdpnmagGreatFmt
open Go Go.RowKit

section
variable {w w' : World} {B N g : Nat} {W : WB} {s j i : Nat} {e : EntB}
theorem val_put (hs : s < 2) (hj : j < 3) (hi : i < 3) : (hapV W ⟨1, s, j, i, e⟩).2 = bookE (sideL W s ++ [e]) := by
  rw [hapV_put hs hj hi]
  by_cases hz : bookE (sideL W s ++ [e]) = 0
  · rw [if_neg (fun h => h hz)]; exact hz.symm
  · rw [if_pos hz]
theorem post_put (hs : s < 2) (hj : j < 3) (hi : i < 3) (h : HapPost w w' B N g (bookE (sideL W s ++ [e])) (setSide W s (sideL W s ++ [e]))) : HapPost w w' B N g (bookE (sideL W s ++ [e])) (hapV W ⟨1, s, j, i, e⟩).1 := by
  rw [hapV_put hs hj hi]
  by_cases hz : bookE (sideL W s ++ [e]) = 0
  · rw [if_neg (fun h => h hz)]; exact h
  · exact h.other hz _
theorem val_show (hs : s < 2) (hj : j < 3) (hi : i < 3) : (hapV W ⟨3, s, j, i, e⟩).2 = folZ (follE (cliOf W.cs j) (sideL W s) (growL (sideL W s) (cliOf W.cs j).1)) := by
  rw [hapV_show hs hj hi]
  unfold folZ
  split <;> rfl
theorem post_show (hs : s < 2) (hj : j < 3) (hi : i < 3) (h : HapPost w w' B N g (folZ (follE (cliOf W.cs j) (sideL W s) (growL (sideL W s) (cliOf W.cs j).1))) { W with cs := W.cs.set j (follC (cliOf W.cs j) (sideL W s) (growL (sideL W s) (cliOf W.cs j).1)) }) :
    HapPost w w' B N g (folZ (follE (cliOf W.cs j) (sideL W s) (growL (sideL W s) (cliOf W.cs j).1))) (hapV W ⟨3, s, j, i, e⟩).1 := by
  rw [hapV_show hs hj hi]
  unfold folZ at h ⊢
  by_cases hz : follE (cliOf W.cs j) (sideL W s) (growL (sideL W s) (cliOf W.cs j).1) ≠ 0 ∧ follE (cliOf W.cs j) (sideL W s) (growL (sideL W s) (cliOf W.cs j).1) ≠ 7
  · simp only [if_pos hz] at h ⊢
    exact h.other hz.1 _
  · simp only [if_neg hz] at h ⊢
    exact h
theorem val_meet (hs : s < 2) (hj : j < 3) (hi : i < 3) : (hapV W ⟨4, s, j, i, e⟩).2 = 0 := by
  rw [hapV_meet hs hj hi]
  split <;> rfl
theorem post_meet (hs : s < 2) (hj : j < 3) (hi : i < 3) (h : HapPost w w' B N g 0 (if okK W (cliOf W.cs j) (cliOf W.cs i) 2 = true then W else { W with cs := (W.cs.set j (foolC (cliOf W.cs j))).set i (foolC (cliOf W.cs i)) })) : HapPost w w' B N g 0 (hapV W ⟨4, s, j, i, e⟩).1 := by
  rw [hapV_meet hs hj hi]
  by_cases hz : metP W (cliOf W.cs j) (cliOf W.cs i)
  · rw [if_pos hz]
    rw [if_pos ((okK_iff _ _ _).2 hz)] at h
    exact h
  · rw [if_neg hz]
    rw [if_neg (fun hh => hz ((okK_iff _ _ _).1 hh))] at h
    exact h
theorem val_ask {x : Int} {v : ByteArray} (hs : s < 2) (hj : j < 3) (hi : i < 3) : (hapV W ⟨5, s, j, i, (x, v)⟩).2 = (if ¬ (0 ≤ x ∧ x < 16) then 5 else askE (cliOf W.cs j) (sideL W s) x) := by
  by_cases hx : 0 ≤ x ∧ x < 16
  · obtain ⟨k, rfl⟩ : ∃ k : Nat, x = (k : Int) := ⟨x.toNat, by omega⟩
    rw [show (if ¬ (0 ≤ (k : Int) ∧ (k : Int) < 16) then 5 else askE (cliOf W.cs j) (sideL W s) (k : Int)) = askE (cliOf W.cs j) (sideL W s) (k : Int) from if_neg (fun h => h hx), hapV_ask hs hj hi (k := k) (by omega)]
    by_cases hz : askE (cliOf W.cs j) (sideL W s) k = 0
    · rw [if_neg (fun h => h hz)]; exact hz.symm
    · rw [if_pos hz]
  · rw [hapV_out (e := (x, v)) hs hj hi hx, if_pos hx]
theorem post_ask {x : Int} {v : ByteArray} (hs : s < 2) (hj : j < 3) (hi : i < 3) (h : HapPost w w' B N g (if ¬ (0 ≤ x ∧ x < 16) then 5 else askE (cliOf W.cs j) (sideL W s) x) W) : HapPost w w' B N g (if ¬ (0 ≤ x ∧ x < 16) then 5 else askE (cliOf W.cs j) (sideL W s) x) (hapV W ⟨5, s, j, i, (x, v)⟩).1 := by
  by_cases hx : 0 ≤ x ∧ x < 16
  · rw [if_neg (fun h => h hx)] at h ⊢
    obtain ⟨k, rfl⟩ : ∃ k : Nat, x = (k : Int) := ⟨x.toNat, by omega⟩
    by_cases hz : askE (cliOf W.cs j) (sideL W s) k = 0
    · rw [hapV_ask hs hj hi (k := k) (by omega), if_neg (fun h => h hz)]; exact h
    · exact h.other hz _
  · rw [if_pos hx] at h ⊢
    exact h.other (by decide) _
end

set_option maxHeartbeats 16000000 in
set_option maxRecDepth 100000 in
theorem whappen_put (B N g : Nat) (u0 : Option Addr) (n0 d0 : Nat) (u1 : Option Addr) (n1 d1 d2 : Nat) (cur : Array Value) (W : WB) (s j i : Nat) (xe : Int) (xv : ByteArray) (w : World) (h : HoldsW w B N g u0 n0 d0 u1 n1 d1 d2 cur W) (hG : worldE W = 0) (hs : s < 2) (hj : j < 3) (hi : i < 3) (he : WideEnt (xe, xv)) :
    Calls Tryz.prog 42 #[.pointer (some ⟨N, 0, none⟩), .agg #[.int .i64 1, .int .i64 (s : Int), .int .i64 (j : Int), .int .i64 (i : Int), .int .i64 xe, .string xv]] w fun e w' => e = .returned (.int .i64 (hapV W ⟨1, s, j, i, (xe, xv)⟩).2) ∧ HapPost w w' B N g (hapV W ⟨1, s, j, i, (xe, xv)⟩).2 (hapV W ⟨1, s, j, i, (xe, xv)⟩).1 := by
  have hv2 := val_put (W := W) (s := s) (j := j) (i := i) (e := (xe, xv)) hs hj hi
  have hpc := fun w' hp => post_put (w := w) (w' := w') (B := B) (N := N) (g := g) (W := W) (s := s) (j := j) (i := i) (e := (xe, xv)) hs hj hi hp
  generalize hapV W ⟨1, s, j, i, (xe, xv)⟩ = R at hv2 hpc ⊢
  obtain ⟨RV, rz⟩ := R
  simp only at hv2 hpc ⊢
  subst hv2
  have HPC := Lib.hid hpc
  clear hpc
  have hp0 := fun w1 h => wput_any B N g u0 n0 d0 u1 n1 d1 d2 cur W s xe xv w1 h hG hs he
  generalize bookE (sideL W s ++ [(xe, xv)]) = z at hp0 HPC ⊢
  generalize setSide W s (sideL W s ++ [(xe, xv)]) = V at hp0 HPC
  have HP0 := Lib.hid hp0
  clear hp0
  have hs1 : (s : Int) < 2 := by omega
  have hj1 : (j : Int) < 3 := by omega
  have hi1 : (i : Int) < 3 := by omega
  have kN := h.ltN
  have kg := h.ltg
  have q3 := heap_push w (.cells #[.int .i64 1, .int .i64 (s : Int), .int .i64 (j : Int), .int .i64 (i : Int), .int .i64 xe, .string xv] 52)
  have hb0 := (Below.refl w.heap.size w).alloc (Nat.le_refl _) (.cells #[.int .i64 1, .int .i64 (s : Int), .int .i64 (j : Int), .int .i64 (i : Int), .int .i64 xe, .string xv] 52)
  have d3_0 := heap_cell q3 0 _ rfl
  go_enter Tryz.func42, Tryz.ntmps42
  go_upto_region 3 with fail
  have k3 : w.heap.size < (w.alloc (.cells #[.int .i64 1, .int .i64 (s : Int), .int .i64 (j : Int), .int .i64 (i : Int), .int .i64 xe, .string xv] 52)).heap.size := by rw [heap_size]; omega
  generalize (w.alloc (.cells #[.int .i64 1, .int .i64 (s : Int), .int .i64 (j : Int), .int .i64 (i : Int), .int .i64 xe, .string xv] 52)) = w5 at q3 hb0 k3 d3_0  ⊢
  clear d3_0
  have h5 := h.on hb0
  have HP := Lib.hid (HP0.out w5.drew (h5.on (Below.refl _ _).drew))
  go_cut [4] (fun s4 w' => s4 = .int .i64 z ∧ HapPost w5 w' B N g z V)
  case first =>
    have hS0 : w5.drew.cell? ⟨w.heap.size, 1, none⟩ = some (.int .i64 (s : Int)) ∧ w5.drew.cell? ⟨w.heap.size, 4, none⟩ = some (.int .i64 xe) ∧ w5.drew.cell? ⟨w.heap.size, 5, none⟩ = some (.string xv) := ⟨heap_cell q3 1 _ rfl, heap_cell q3 4 _ rfl, heap_cell q3 5 _ rfl⟩
    go_region_held3 (fun w' => w'.cell? ⟨w.heap.size, 1, none⟩ = some (.int .i64 (s : Int)) ∧ w'.cell? ⟨w.heap.size, 4, none⟩ = some (.int .i64 xe) ∧ w'.cell? ⟨w.heap.size, 5, none⟩ = some (.string xv))
      (first | assumption | exact ⟨heap_cell p3P 1 _ rfl, heap_cell p3P 4 _ rfl, heap_cell p3P 5 _ rfl⟩)
      (first
        | (go_at_call 52; (with_reducible refine HP.out.mono ?_); rintro e wP ⟨rfl, hpP⟩; have p3P := hpP.kept (i := w.heap.size) q3 (by omega) (by omega)))
    all_goals
      go_wp2_with fail
      go_meet
      case rel => exact ⟨rfl, hpP.pre (Below.refl _ _).drew⟩
  case rest =>
    obtain ⟨rfl, hp⟩ := hcut
    go_wp2_with fail
    go_ret
    exact ⟨rfl, HPC.out _ (hp.pre hb0)⟩

theorem fork_b {w5 cur w' : World} {N : Nat} {x y z : Value} {t : TypeId} (k0 : N < w5.heap.size) (h : w5.grownBy cur (some N) ∧ SideAt cur N 1 x y z t ∧ cur.cell? ⟨N, 0, none⟩ = some x) (hb : Below cur.heap.size cur w') :
    w5.grownBy w' (some N) ∧ SideAt w' N 1 x y z t ∧ w'.cell? ⟨N, 0, none⟩ = some x := by
  obtain ⟨h0, ⟨v, hv⟩, h1⟩ := h
  have hlt := Nat.lt_of_lt_of_le k0 h0.size
  exact ⟨grow_trans h0 (below_grown hb none) (fun j hj => by cases hj), ⟨v, heap_on hb hv⟩, by rw [hb.cell hlt]; exact h1⟩
theorem fork_s {w5 cur : World} {N : Nat} {x y z : Value} {t : TypeId} (u : Value) (h : w5.grownBy cur (some N) ∧ SideAt cur N 1 x y z t ∧ cur.cell? ⟨N, 0, none⟩ = some x) :
    w5.grownBy (cur.setCell ⟨N, 1, none⟩ u) (some N) ∧ SideAt (cur.setCell ⟨N, 1, none⟩ u) N 1 x y z t ∧ (cur.setCell ⟨N, 1, none⟩ u).cell? ⟨N, 0, none⟩ = some x := by
  obtain ⟨h0, h1, _⟩ := h
  have hb := sideAt_set h1 u (by decide)
  exact ⟨grow_trans h0 (set_grown cur N 1 u) (fun j hj => .inl (by injection hj with hj; exact hj.symm)), ⟨u, hb⟩, heap_cell hb 0 _ rfl⟩

set_option maxHeartbeats 16000000 in
set_option maxRecDepth 100000 in
theorem whappen_fork (B N g : Nat) (u0 : Option Addr) (n0 d0 : Nat) (u1 : Option Addr) (n1 d1 d2 : Nat) (cur : Array Value) (W : WB) (s j i : Nat) (xe : Int) (xv : ByteArray) (w : World) (h : HoldsW w B N g u0 n0 d0 u1 n1 d1 d2 cur W) (hG : worldE W = 0) (hs : s < 2) (hj : j < 3) (hi : i < 3) :
    Calls Tryz.prog 42 #[.pointer (some ⟨N, 0, none⟩), .agg #[.int .i64 2, .int .i64 (s : Int), .int .i64 (j : Int), .int .i64 (i : Int), .int .i64 xe, .string xv]] w fun e w' => e = .returned (.int .i64 (hapV W ⟨2, s, j, i, (xe, xv)⟩).2) ∧ HapPost w w' B N g (hapV W ⟨2, s, j, i, (xe, xv)⟩).2 (hapV W ⟨2, s, j, i, (xe, xv)⟩).1 := by
  have hv := hapV_fork (W := W) (e := (xe, xv)) hs hj hi
  rw [hv]
  clear hv
  obtain ⟨hG0, _, _, _⟩ := (worldE_iff W).1 hG
  have h024 := hG0.1
  have hl0 := h.l0
  have hs1 : (s : Int) < 2 := by omega
  have hj1 : (j : Int) < 3 := by omega
  have hi1 : (i : Int) < 3 := by omega
  have kN := h.ltN
  have kg := h.ltg
  have q3 := heap_push w (.cells #[.int .i64 2, .int .i64 (s : Int), .int .i64 (j : Int), .int .i64 (i : Int), .int .i64 xe, .string xv] 52)
  have hb0 := (Below.refl w.heap.size w).alloc (Nat.le_refl _) (.cells #[.int .i64 2, .int .i64 (s : Int), .int .i64 (j : Int), .int .i64 (i : Int), .int .i64 xe, .string xv] 52)
  have d3_0 := heap_cell q3 0 _ rfl
  go_enter Tryz.func42, Tryz.ntmps42
  go_upto_region 5 with fail
  have k3 : w.heap.size < (w.alloc (.cells #[.int .i64 2, .int .i64 (s : Int), .int .i64 (j : Int), .int .i64 (i : Int), .int .i64 xe, .string xv] 52)).heap.size := by rw [heap_size]; omega
  generalize (w.alloc (.cells #[.int .i64 2, .int .i64 (s : Int), .int .i64 (j : Int), .int .i64 (i : Int), .int .i64 xe, .string xv] 52)) = w5 at q3 hb0 k3 d3_0  ⊢
  clear d3_0
  have h5 := h.on hb0
  have HCL := Lib.hid (fun w1 hS => clone_ents_own W.b0 u0 n0 d0 w1 hl0 (by omega) hS)
  have p2 := h5.box
  have hS0 : w5.grownBy w5.drew (some N) ∧ SideAt w5.drew N 1 (.slice u0 n0 d0) (.slice u1 n1 d1) (.slice (some ⟨g, 0, none⟩) 3 d2) 28 ∧ w5.drew.cell? ⟨N, 0, none⟩ = some (.slice u0 n0 d0) := ⟨below_grown (Below.refl _ _).drew _, sideAt_of (w := w5.drew) p2 1, heap_cell p2 0 _ rfl⟩
  have k5 := h5.ltN
  have e5g := h5.ltg
  have e5B := h5.lN
  have HZ := Lib.hid (fun w' (h : w5.grownBy w' (some N) ∧ SideAt w' N 1 (.slice u0 n0 d0) (.slice u1 n1 d1) (.slice (some ⟨g, 0, none⟩) 3 d2) 28 ∧ w'.cell? ⟨N, 0, none⟩ = some (.slice u0 n0 d0)) => h.1.size)
  have HQ := Lib.hid (fun w' (h : w5.grownBy w' (some N) ∧ SideAt w' N 1 (.slice u0 n0 d0) (.slice u1 n1 d1) (.slice (some ⟨g, 0, none⟩) 3 d2) 28 ∧ w'.cell? ⟨N, 0, none⟩ = some (.slice u0 n0 d0)) => sideAt_cell h.2.1 (by decide))
  have CC := Lib.hid (fun w' (h' : w5.grownBy w' (some N) ∧ SideAt w' N 1 (.slice u0 n0 d0) (.slice u1 n1 d1) (.slice (some ⟨g, 0, none⟩) 3 d2) 28 ∧ w'.cell? ⟨N, 0, none⟩ = some (.slice u0 n0 d0)) => HCL.out w' (h5.e0.grown h'.1 (fun b off e => by intro e2; injection e2 with e2; exact (h5.f0 b off e).2.1 e2.symm)))
  go_region_held3 (fun w' => w5.grownBy w' (some N) ∧ SideAt w' N 1 (.slice u0 n0 d0) (.slice u1 n1 d1) (.slice (some ⟨g, 0, none⟩) 3 d2) 28 ∧ w'.cell? ⟨N, 0, none⟩ = some (.slice u0 n0 d0))
    (first | assumption | exact fork_b k5 (by assumption) (by assumption) | exact fork_s _ (by assumption))
    (first
      | (go_at_call 39; (have hszC := HZ.out _ (by assumption)); (with_reducible refine (CC.out _ (by assumption)).mono ?_); rintro e wC ⟨aC, cC, rfl, hoC, hbC⟩; have hSC : w5.grownBy wC (some N) ∧ SideAt wC N 1 (.slice u0 n0 d0) (.slice u1 n1 d1) (.slice (some ⟨g, 0, none⟩) 3 d2) 28 ∧ wC.cell? ⟨N, 0, none⟩ = some (.slice u0 n0 d0) := fork_b k5 (by assumption) hbC; obtain ⟨uP, t0, t1⟩ := HQ.out _ hSC))
  all_goals
    have hEn := ents_owned hoC h5.e0.sz
    have hlo : ∀ b off, aC = some ⟨b, off, none⟩ → w5.heap.size ≤ b := fun b off e => by subst e; exact Nat.le_trans hszC (hoC.lt b rfl).1
    have pz := sideAt_set hSC.2.1 (.slice aC n0 cC) (by decide)
    have hEn := hEn.grown (set_grown _ N 1 (.slice aC n0 cC)) (fun b off e => by intro e2; injection e2 with e2; have := hlo b off e; omega)
    have hgs := grow_trans hSC.1 (set_grown _ N 1 (.slice aC n0 cC)) (fun q hq => .inl (by injection hq with hq; exact hq.symm))
    go_wp2_with fail
    go_ret
    exact ⟨rfl, (h5.side hgs pz hl0 hEn (fun blk off e => by have := hlo blk off e; exact ⟨by omega, by omega, by omega⟩) 0).pre hb0⟩

set_option maxHeartbeats 16000000 in
set_option maxRecDepth 100000 in
theorem whappen_show (B N g : Nat) (u0 : Option Addr) (n0 d0 : Nat) (u1 : Option Addr) (n1 d1 d2 : Nat) (cur : Array Value) (W : WB) (s j i : Nat) (xe : Int) (xv : ByteArray) (w : World) (hE : Tab w) (h : HoldsW w B N g u0 n0 d0 u1 n1 d1 d2 cur W) (hG : worldE W = 0) (hs : s < 2) (hj : j < 3) (hi : i < 3) :
    Calls Tryz.prog 42 #[.pointer (some ⟨N, 0, none⟩), .agg #[.int .i64 3, .int .i64 (s : Int), .int .i64 (j : Int), .int .i64 (i : Int), .int .i64 xe, .string xv]] w fun e w' => e = .returned (.int .i64 (hapV W ⟨3, s, j, i, (xe, xv)⟩).2) ∧ HapPost w w' B N g (hapV W ⟨3, s, j, i, (xe, xv)⟩).2 (hapV W ⟨3, s, j, i, (xe, xv)⟩).1 := by
  have hv2 := val_show (W := W) (s := s) (j := j) (i := i) (e := (xe, xv)) hs hj hi
  have hpc := fun w' hp => post_show (w := w) (w' := w') (B := B) (N := N) (g := g) (W := W) (s := s) (j := j) (i := i) (e := (xe, xv)) hs hj hi hp
  generalize hapV W ⟨3, s, j, i, (xe, xv)⟩ = R at hv2 hpc ⊢
  obtain ⟨RV, rz⟩ := R
  simp only at hv2 hpc ⊢
  subst hv2
  have HPC := Lib.hid hpc
  clear hpc
  obtain ⟨cc, hcc⟩ : ∃ cc, cliOf W.cs j = cc := ⟨_, rfl⟩
  rw [hcc] at HPC ⊢
  obtain ⟨cn, ca, cb, cf⟩ := cc
  have hp0 := fun sa sn sc w1 hE h hsn hsE => wfollow_any B N g u0 n0 d0 u1 n1 d1 d2 cur W s j sa sn sc cn ca cb cf w1 hE h hG hj hcc hsn hsE
  simp only at HPC hp0
  generalize folZ (follE (cn, ca, cb, cf) (sideL W s) (growL (sideL W s) cn)) = z at hp0 HPC ⊢
  obtain ⟨V, hV⟩ : ∃ V : WB, { W with cs := W.cs.set j (follC (cn, ca, cb, cf) (sideL W s) (growL (sideL W s) cn)) } = V := ⟨_, rfl⟩
  rw [hV] at HPC
  simp only [hV] at hp0
  clear hV hcc
  have HP0 := Lib.hid hp0
  clear hp0
  have hs1 : (s : Int) < 2 := by omega
  have hj1 : (j : Int) < 3 := by omega
  have hi1 : (i : Int) < 3 := by omega
  have kN := h.ltN
  have kg := h.ltg
  have q3 := heap_push w (.cells #[.int .i64 3, .int .i64 (s : Int), .int .i64 (j : Int), .int .i64 (i : Int), .int .i64 xe, .string xv] 52)
  have hb0 := (Below.refl w.heap.size w).alloc (Nat.le_refl _) (.cells #[.int .i64 3, .int .i64 (s : Int), .int .i64 (j : Int), .int .i64 (i : Int), .int .i64 xe, .string xv] 52)
  have d3_0 := heap_cell q3 0 _ rfl
  go_enter Tryz.func42, Tryz.ntmps42
  go_upto_region 7 with fail
  have k3 : w.heap.size < (w.alloc (.cells #[.int .i64 3, .int .i64 (s : Int), .int .i64 (j : Int), .int .i64 (i : Int), .int .i64 xe, .string xv] 52)).heap.size := by rw [heap_size]; omega
  generalize (w.alloc (.cells #[.int .i64 3, .int .i64 (s : Int), .int .i64 (j : Int), .int .i64 (i : Int), .int .i64 xe, .string xv] 52)) = w5 at q3 hb0 k3 d3_0  ⊢
  clear d3_0
  have h5 := h.on hb0
  obtain ⟨sa, sn, sc, hsv, hsn, hsE⟩ := side_ents h5.wat s
  have p2 := h5.box
  have t0 := side_cell p2 hs
  rw [hsv] at t0
  have HP := Lib.hid (HP0.out sa sn sc w5.drew (hE.on (hb0.drew)) (h5.on (Below.refl _ _).drew) hsn (hsE.on (Below.refl _ _).drew))
  go_cut [4] (fun s4 w' => s4 = .int .i64 z ∧ HapPost w5 w' B N g z V)
  case first =>
    have hS0 : w5.drew.cell? ⟨w.heap.size, 1, none⟩ = some (.int .i64 (s : Int)) ∧ w5.drew.cell? ⟨w.heap.size, 2, none⟩ = some (.int .i64 (j : Int)) ∧ w5.drew.cell? ⟨N, 2, none⟩ = some (.slice (some ⟨g, 0, none⟩) 3 d2) ∧ w5.drew.cell? ⟨N, s, none⟩ = some (.slice sa sn sc) := ⟨heap_cell q3 1 _ rfl, heap_cell q3 2 _ rfl, heap_cell p2 2 _ rfl, t0⟩
    go_region_held3 (fun w' => w'.cell? ⟨w.heap.size, 1, none⟩ = some (.int .i64 (s : Int)) ∧ w'.cell? ⟨w.heap.size, 2, none⟩ = some (.int .i64 (j : Int)) ∧ w'.cell? ⟨N, 2, none⟩ = some (.slice (some ⟨g, 0, none⟩) 3 d2) ∧ w'.cell? ⟨N, s, none⟩ = some (.slice sa sn sc))
      (first | assumption | exact ⟨heap_cell p3P 1 _ rfl, heap_cell p3P 2 _ rfl, heap_cell p2P 2 _ rfl, t0P⟩)
      (first
        | (go_at_call 53; (with_reducible refine HP.out.mono ?_); rintro e wP ⟨rfl, hpP, hNP⟩; have p3P := hpP.kept (i := w.heap.size) q3 (by omega) (by omega); have p2P := hNP.trans p2; have t0P := side_cell p2P hs; rw [hsv] at t0P))
    all_goals
      go_wp2_with fail
      go_meet
      case rel => exact ⟨rfl, hpP.pre (Below.refl _ _).drew⟩
  case rest =>
    obtain ⟨rfl, hp⟩ := hcut
    go_wp2_with fail
    go_ret
    exact ⟨rfl, HPC.out _ (hp.pre hb0)⟩

set_option maxHeartbeats 16000000 in
set_option maxRecDepth 100000 in
theorem whappen_meet (B N g : Nat) (u0 : Option Addr) (n0 d0 : Nat) (u1 : Option Addr) (n1 d1 d2 : Nat) (cur : Array Value) (W : WB) (s j i : Nat) (xe : Int) (xv : ByteArray) (w : World) (hE : Tab w) (h : HoldsW w B N g u0 n0 d0 u1 n1 d1 d2 cur W) (hG : worldE W = 0) (hs : s < 2) (hj : j < 3) (hi : i < 3) :
    Calls Tryz.prog 42 #[.pointer (some ⟨N, 0, none⟩), .agg #[.int .i64 4, .int .i64 (s : Int), .int .i64 (j : Int), .int .i64 (i : Int), .int .i64 xe, .string xv]] w fun e w' => e = .returned (.int .i64 (hapV W ⟨4, s, j, i, (xe, xv)⟩).2) ∧ HapPost w w' B N g (hapV W ⟨4, s, j, i, (xe, xv)⟩).2 (hapV W ⟨4, s, j, i, (xe, xv)⟩).1 := by
  have hv2 := val_meet (W := W) (s := s) (j := j) (i := i) (e := (xe, xv)) hs hj hi
  have hpc := fun w' hp => post_meet (w := w) (w' := w') (B := B) (N := N) (g := g) (W := W) (s := s) (j := j) (i := i) (e := (xe, xv)) hs hj hi hp
  generalize hapV W ⟨4, s, j, i, (xe, xv)⟩ = R at hv2 hpc ⊢
  obtain ⟨RV, rz⟩ := R
  simp only at hv2 hpc ⊢
  subst hv2
  have HPC := Lib.hid hpc
  clear hpc
  have hs1 : (s : Int) < 2 := by omega
  have hj1 : (j : Int) < 3 := by omega
  have hi1 : (i : Int) < 3 := by omega
  have kN := h.ltN
  have kg := h.ltg
  have q3 := heap_push w (.cells #[.int .i64 4, .int .i64 (s : Int), .int .i64 (j : Int), .int .i64 (i : Int), .int .i64 xe, .string xv] 52)
  have hb0 := (Below.refl w.heap.size w).alloc (Nat.le_refl _) (.cells #[.int .i64 4, .int .i64 (s : Int), .int .i64 (j : Int), .int .i64 (i : Int), .int .i64 xe, .string xv] 52)
  have d3_0 := heap_cell q3 0 _ rfl
  have d3_2 := heap_cell q3 2 _ rfl
  have d3_3 := heap_cell q3 3 _ rfl
  go_enter Tryz.func42, Tryz.ntmps42
  go_upto_region 9 with fail
  have k3 : w.heap.size < (w.alloc (.cells #[.int .i64 4, .int .i64 (s : Int), .int .i64 (j : Int), .int .i64 (i : Int), .int .i64 xe, .string xv] 52)).heap.size := by rw [heap_size]; omega
  generalize (w.alloc (.cells #[.int .i64 4, .int .i64 (s : Int), .int .i64 (j : Int), .int .i64 (i : Int), .int .i64 xe, .string xv] 52)) = w5 at q3 hb0 k3 d3_0 d3_2 d3_3 ⊢
  clear d3_0
  have h5 := h.on hb0
  have HH := Lib.hid (fun w1 hE h => whold_any B N g u0 n0 d0 u1 n1 d1 d2 cur W j i w1 hE h hG hj hi)
  generalize (if okK W (cliOf W.cs j) (cliOf W.cs i) 2 = true then W else { W with cs := (W.cs.set j (foolC (cliOf W.cs j))).set i (foolC (cliOf W.cs i)) }) = V at HH HPC
  go_wp2_with fail
  refine (HH.out w5 (hE.on hb0) h5).mono ?_
  rintro e w6 ⟨rfl, hp⟩
  clear d3_2 d3_3
  go_wp2_with fail
  go_ret
  exact ⟨rfl, HPC.out _ (hp.pre hb0)⟩

set_option maxHeartbeats 16000000 in
set_option maxRecDepth 100000 in
theorem whappen_ask (B N g : Nat) (u0 : Option Addr) (n0 d0 : Nat) (u1 : Option Addr) (n1 d1 d2 : Nat) (cur : Array Value) (W : WB) (s j i : Nat) (xe : Int) (xv : ByteArray) (w : World) (hE : Tab w) (h : HoldsW w B N g u0 n0 d0 u1 n1 d1 d2 cur W) (hG : worldE W = 0) (hs : s < 2) (hj : j < 3) (hi : i < 3) :
    Calls Tryz.prog 42 #[.pointer (some ⟨N, 0, none⟩), .agg #[.int .i64 5, .int .i64 (s : Int), .int .i64 (j : Int), .int .i64 (i : Int), .int .i64 xe, .string xv]] w fun e w' => e = .returned (.int .i64 (hapV W ⟨5, s, j, i, (xe, xv)⟩).2) ∧ HapPost w w' B N g (hapV W ⟨5, s, j, i, (xe, xv)⟩).2 (hapV W ⟨5, s, j, i, (xe, xv)⟩).1 := by
  have hv2 := val_ask (W := W) (s := s) (j := j) (i := i) (x := xe) (v := xv) hs hj hi
  have hpc := fun w' hp => post_ask (w := w) (w' := w') (B := B) (N := N) (g := g) (W := W) (s := s) (j := j) (i := i) (x := xe) (v := xv) hs hj hi hp
  generalize hapV W ⟨5, s, j, i, (xe, xv)⟩ = R at hv2 hpc ⊢
  obtain ⟨RV, rz⟩ := R
  simp only at hv2 hpc ⊢
  subst hv2
  have HPC := Lib.hid hpc
  clear hpc
  have hgd := side_good hG (s : Int)
  have hcj := ((worldE_iff W).1 hG).2.2.2 _ (cliOf_mem (l := W.cs) (i := j) (by have := h.l2; omega))
  obtain ⟨cc, hcc⟩ : ∃ cc, cliOf W.cs j = cc := ⟨_, rfl⟩
  rw [hcc] at hcj HPC ⊢
  obtain ⟨cn, ca, cb, cf⟩ := cc
  have HJ := Lib.hid hcc
  clear hcc
  have hcj : headE cn ca cb = 0 := hcj
  have ha0 := fun sa sn sc w1 hE hsn hS => wask_any cn ca cb cf (sideL W s) sa sn sc xe w1 hE hsn hS hgd hcj
  generalize (if ¬ (0 ≤ xe ∧ xe < 16) then 5 else askE (cn, ca, cb, cf) (sideL W s) xe) = z at ha0 HPC ⊢
  have HA0 := Lib.hid ha0
  clear ha0 hcj hgd
  have hs1 : (s : Int) < 2 := by omega
  have hj1 : (j : Int) < 3 := by omega
  have hi1 : (i : Int) < 3 := by omega
  have kN := h.ltN
  have kg := h.ltg
  have q3 := heap_push w (.cells #[.int .i64 5, .int .i64 (s : Int), .int .i64 (j : Int), .int .i64 (i : Int), .int .i64 xe, .string xv] 52)
  have hb0 := (Below.refl w.heap.size w).alloc (Nat.le_refl _) (.cells #[.int .i64 5, .int .i64 (s : Int), .int .i64 (j : Int), .int .i64 (i : Int), .int .i64 xe, .string xv] 52)
  have d3_0 := heap_cell q3 0 _ rfl
  go_enter Tryz.func42, Tryz.ntmps42
  go_upto_region 11 with fail
  have k3 : w.heap.size < (w.alloc (.cells #[.int .i64 5, .int .i64 (s : Int), .int .i64 (j : Int), .int .i64 (i : Int), .int .i64 xe, .string xv] 52)).heap.size := by rw [heap_size]; omega
  generalize (w.alloc (.cells #[.int .i64 5, .int .i64 (s : Int), .int .i64 (j : Int), .int .i64 (i : Int), .int .i64 xe, .string xv] 52)) = w5 at q3 hb0 k3 d3_0  ⊢
  clear d3_0
  have h5 := h.on hb0
  obtain ⟨sa, sn, sc, hsv, hsn, hsE⟩ := side_ents h5.wat s
  have p2 := h5.box
  have t0 := side_cell p2 hs
  rw [hsv] at t0
  have hl3 := h5.l2
  obtain ⟨z1, z2, z3, z4⟩ := h5.is.four h5.cli (i := j) (by omega)
  rw [HJ.out] at z1 z2 z3 z4
  simp only at z1 z2 z3 z4
  have HA := Lib.hid (fun w1 hE hS => HA0.out sa sn sc w1 hE hsn hS)
  have k5 := h5.ltN
  have k6 := h5.ltg
  go_cut [4] (fun s4 w' => s4 = .int .i64 z ∧ Below w5.heap.size w5 w')
  case first =>
    have hS0 : Below w5.heap.size w5 w5.drew ∧ w5.drew.cell? ⟨w.heap.size, 1, none⟩ = some (.int .i64 (s : Int)) ∧ w5.drew.cell? ⟨w.heap.size, 2, none⟩ = some (.int .i64 (j : Int)) ∧ w5.drew.cell? ⟨w.heap.size, 4, none⟩ = some (.int .i64 xe) ∧ w5.drew.cell? ⟨N, 2, none⟩ = some (.slice (some ⟨g, 0, none⟩) 3 d2) ∧ w5.drew.cell? ⟨N, s, none⟩ = some (.slice sa sn sc) ∧ w5.drew.cell? ⟨g, j * 4, none⟩ = some (.int .i64 cn) ∧ w5.drew.cell? ⟨g, j * 4 + 1, none⟩ = some (.string ca) ∧ w5.drew.cell? ⟨g, j * 4 + 2, none⟩ = some (.string cb) ∧ w5.drew.cell? ⟨g, j * 4 + 3, none⟩ = some (.bool cf) := ⟨(Below.refl _ _).drew, heap_cell q3 1 _ rfl, heap_cell q3 2 _ rfl, heap_cell q3 4 _ rfl, heap_cell p2 2 _ rfl, t0, z1, z2, z3, z4⟩
    have HB := Lib.hid (fun w' (h : Below w5.heap.size w5 w' ∧ w'.cell? ⟨w.heap.size, 1, none⟩ = some (.int .i64 (s : Int)) ∧ w'.cell? ⟨w.heap.size, 2, none⟩ = some (.int .i64 (j : Int)) ∧ w'.cell? ⟨w.heap.size, 4, none⟩ = some (.int .i64 xe) ∧ w'.cell? ⟨N, 2, none⟩ = some (.slice (some ⟨g, 0, none⟩) 3 d2) ∧ w'.cell? ⟨N, s, none⟩ = some (.slice sa sn sc) ∧ w'.cell? ⟨g, j * 4, none⟩ = some (.int .i64 cn) ∧ w'.cell? ⟨g, j * 4 + 1, none⟩ = some (.string ca) ∧ w'.cell? ⟨g, j * 4 + 2, none⟩ = some (.string cb) ∧ w'.cell? ⟨g, j * 4 + 3, none⟩ = some (.bool cf)) => h.1)
    have CA := Lib.hid (fun w' (h' : Below w5.heap.size w5 w' ∧ w'.cell? ⟨w.heap.size, 1, none⟩ = some (.int .i64 (s : Int)) ∧ w'.cell? ⟨w.heap.size, 2, none⟩ = some (.int .i64 (j : Int)) ∧ w'.cell? ⟨w.heap.size, 4, none⟩ = some (.int .i64 xe) ∧ w'.cell? ⟨N, 2, none⟩ = some (.slice (some ⟨g, 0, none⟩) 3 d2) ∧ w'.cell? ⟨N, s, none⟩ = some (.slice sa sn sc) ∧ w'.cell? ⟨g, j * 4, none⟩ = some (.int .i64 cn) ∧ w'.cell? ⟨g, j * 4 + 1, none⟩ = some (.string ca) ∧ w'.cell? ⟨g, j * 4 + 2, none⟩ = some (.string cb) ∧ w'.cell? ⟨g, j * 4 + 3, none⟩ = some (.bool cf)) => HA.out w' (hE.on (below_on hb0 h'.1)) (hsE.on h'.1))
    go_region_held3 (fun w' => Below w5.heap.size w5 w' ∧ w'.cell? ⟨w.heap.size, 1, none⟩ = some (.int .i64 (s : Int)) ∧ w'.cell? ⟨w.heap.size, 2, none⟩ = some (.int .i64 (j : Int)) ∧ w'.cell? ⟨w.heap.size, 4, none⟩ = some (.int .i64 xe) ∧ w'.cell? ⟨N, 2, none⟩ = some (.slice (some ⟨g, 0, none⟩) 3 d2) ∧ w'.cell? ⟨N, s, none⟩ = some (.slice sa sn sc) ∧ w'.cell? ⟨g, j * 4, none⟩ = some (.int .i64 cn) ∧ w'.cell? ⟨g, j * 4 + 1, none⟩ = some (.string ca) ∧ w'.cell? ⟨g, j * 4 + 2, none⟩ = some (.string cb) ∧ w'.cell? ⟨g, j * 4 + 3, none⟩ = some (.bool cf))
      (first | assumption | exact heldm k3 k3 k3 k5 k5 k6 k6 k6 k6 (by assumption) (by assumption))
      (first
        | (go_at_call 55; (with_reducible refine (CA.out _ (by assumption)).mono ?_); rintro e w' ⟨rfl, hb⟩))
    all_goals
      go_wp2_with fail
      go_meet
      case rel => exact ⟨rfl, HB.out _ (by assumption)⟩
  case rest =>
    obtain ⟨rfl, hbc⟩ := hcut
    go_wp2_with fail
    go_ret
    exact ⟨rfl, HPC.out _ ((h5.same hbc z).pre hb0)⟩

theorem whappen_any (B N g : Nat) (u0 : Option Addr) (n0 d0 : Nat) (u1 : Option Addr) (n1 d1 d2 : Nat) (cur : Array Value) (W : WB) (x : HapB) (w : World) (hE : Tab w) (h : HoldsW w B N g u0 n0 d0 u1 n1 d1 d2 cur W) (hG : worldE W = 0) (hk : 1 ≤ x.kind ∧ x.kind ≤ 5) (hr : rightX x) (hx : WideHap x) :
    Calls Tryz.prog 42 #[.pointer (some ⟨N, 0, none⟩), .agg #[.int .i64 x.kind, .int .i64 x.side, .int .i64 x.who, .int .i64 x.other, .int .i64 x.e.1, .string x.e.2]] w fun e w' => e = .returned (.int .i64 (hapV W x).2) ∧ HapPost w w' B N g (hapV W x).2 (hapV W x).1 := by
  obtain ⟨_, _, _, _, he⟩ := hx
  obtain ⟨xk, xs, xw, xo, xe, xv⟩ := x
  obtain ⟨r1, r2, r3, r4, r5, r6⟩ := hr
  simp only at hk r1 r2 r3 r4 r5 r6 he ⊢
  obtain ⟨s, rfl⟩ : ∃ s : Nat, xs = (s : Int) := ⟨xs.toNat, by omega⟩
  obtain ⟨j, rfl⟩ : ∃ s : Nat, xw = (s : Int) := ⟨xw.toNat, by omega⟩
  obtain ⟨i, rfl⟩ : ∃ s : Nat, xo = (s : Int) := ⟨xo.toNat, by omega⟩
  have hs2 : s < 2 := by omega
  have hj3 : j < 3 := by omega
  have hi3 : i < 3 := by omega
  rcases (show xk = 1 ∨ xk = 2 ∨ xk = 3 ∨ xk = 4 ∨ xk = 5 by omega) with rfl | rfl | rfl | rfl | rfl
  · exact whappen_put B N g u0 n0 d0 u1 n1 d1 d2 cur W s j i xe xv w h hG hs2 hj3 hi3 he
  · exact whappen_fork B N g u0 n0 d0 u1 n1 d1 d2 cur W s j i xe xv w h hG hs2 hj3 hi3
  · exact whappen_show B N g u0 n0 d0 u1 n1 d1 d2 cur W s j i xe xv w hE h hG hs2 hj3 hi3
  · exact whappen_meet B N g u0 n0 d0 u1 n1 d1 d2 cur W s j i xe xv w hE h hG hs2 hj3 hi3
  · exact whappen_ask B N g u0 n0 d0 u1 n1 d1 d2 cur W s j i xe xv w hE h hG hs2 hj3 hi3

end Go.Proofs.YtnemiobgmdpnmagGreatFmt
namespace Go.Proofs.YtnemiobgmdpnmagGreatFmt
open Go Go.RowKit

theorem doV_bad {W : WB} {x : HapB} (h : chkW W x ≠ 0) : doV W x = (zeroW, chkW W x) := by
  by_cases hG : worldE W = 0
  · rw [show doV W x = hapV W x from if_neg (fun hh => hh hG)]
    by_cases hk : 1 ≤ x.kind ∧ x.kind ≤ 5
    · by_cases hr : rightX x
      · exact absurd (show chkW W x = 0 by unfold chkW; rw [if_neg (fun hh => hh hG), if_neg (fun hh => hh hk), if_neg (fun hh => hh hr)]) h
      · rw [show chkW W x = 5 by unfold chkW; rw [if_neg (fun hh => hh hG), if_neg (fun hh => hh hk), if_pos hr]]
        unfold hapV
        rw [if_neg (fun hh => hh hk), if_pos hr]
    · rw [show chkW W x = 4 by unfold chkW; rw [if_neg (fun hh => hh hG), if_pos hk]]
      exact if_pos hk
  · rw [show chkW W x = worldE W from if_pos hG]
    exact if_pos hG
theorem chkW_ok {W : WB} {x : HapB} (h : chkW W x = 0) : worldE W = 0 ∧ (1 ≤ x.kind ∧ x.kind ≤ 5) ∧ rightX x := by
  unfold chkW at h
  by_cases hG : worldE W = 0
  · rw [if_neg (fun hh => hh hG)] at h
    by_cases hk : 1 ≤ x.kind ∧ x.kind ≤ 5
    · rw [if_neg (fun hh => hh hk)] at h
      by_cases hr : rightX x
      · exact ⟨hG, hk, hr⟩
      · rw [if_pos hr] at h; cases h
    · rw [if_pos hk] at h; cases h
  · rw [if_pos hG] at h; exact absurd h hG
/- A world copied into a new box. -/
theorem holds_start {w : World} {B g : Nat} {u0 : Option Addr} {n0 d0 : Nat} {u1 : Option Addr} {n1 d1 d2 : Nat} {cur : Array Value} {W : WB} (hB : B ≤ w.heap.size) (l0 : W.b0.length = n0) (e0 : EntsAt w u0 d0 W.b0) (l1 : W.b1.length = n1) (e1 : EntsAt w u1 d1 W.b1) (l2 : W.cs.length = 3)
    (cli : w.heap[g]? = some (.cells cur 42)) (is : CurIs cur W.cs) (cap : 3 ≤ d2) (max : d2 ≤ maxLen) (wide : ∀ e ∈ W.cs, WideCli e) (hg : B ≤ g) (f0 : ∀ blk off, u0 = some ⟨blk, off, none⟩ → B ≤ blk ∧ blk < g) (f1 : ∀ blk off, u1 = some ⟨blk, off, none⟩ → B ≤ blk ∧ blk < g) :
    HoldsW (w.alloc (.cells #[.slice u0 n0 d0, .slice u1 n1 d1, .slice (some ⟨g, 0, none⟩) 3 d2] 28)) B w.heap.size g u0 n0 d0 u1 n1 d1 d2 cur W := by
  have hlt := (Array.getElem?_eq_some_iff.1 cli).1
  have hb := (Below.refl w.heap.size w).alloc (Nat.le_refl _) (.cells #[.slice u0 n0 d0, .slice u1 n1 d1, .slice (some ⟨g, 0, none⟩) 3 d2] 28)
  exact ⟨heap_push w _, l0, e0.on hb, l1, e1.on hb, l2, heap_old w _ cli, is, cap, max, wide, by omega, fun blk off e => by have := f0 blk off e; exact ⟨by omega, by omega, by omega⟩, fun blk off e => by have := f1 blk off e; exact ⟨by omega, by omega, by omega⟩, hB, hg⟩
theorem hapV_err {W : WB} {x : HapB} (h : (hapV W x).2 ≠ 0) : (hapV W x).1 = zeroW := by
  revert h
  unfold hapV
  repeat' split
  all_goals intro h
  all_goals first | rfl | exact absurd rfl h
/- A list that lies behind what was there. -/
def Behind (B : Nat) (a : Option Addr) : Prop := ∀ blk off, a = some ⟨blk, off, none⟩ → B ≤ blk
theorem behind_none (B : Nat) : Behind B none := fun _ _ h => by cases h

set_option maxHeartbeats 16000000 in
set_option maxRecDepth 100000 in
theorem wdo_bad (W : WB) (a0 : Option Addr) (n0 c0 : Nat) (a1 : Option Addr) (n1 c1 : Nat) (a2 : Option Addr) (n2 c2 : Nat) (x : HapB) (w : World) (hW : WAt w a0 n0 c0 a1 n1 c1 a2 n2 c2 W) (z : Int) (hz : chkW W x = z) (h0 : z ≠ 0) :
    Calls Tryz.prog 28 #[.agg #[.slice a0 n0 c0, .slice a1 n1 c1, .slice a2 n2 c2], .agg #[.int .i64 x.kind, .int .i64 x.side, .int .i64 x.who, .int .i64 x.other, .int .i64 x.e.1, .string x.e.2]] w fun e w' => ∃ b0 m0 d0 b1 m1 d1 b2 m2 d2, e = .returned (.tuple #[.agg #[.slice b0 m0 d0, .slice b1 m1 d1, .slice b2 m2 d2], .int .i64 z]) ∧ WAt w' b0 m0 d0 b1 m1 d1 b2 m2 d2 zeroW ∧ Behind w.heap.size b0 ∧ Behind w.heap.size b1 ∧ Behind w.heap.size b2 ∧ Below w.heap.size w w' := by
  have hck := fun w1 hW => wd_check W a0 n0 c0 a1 n1 c1 a2 n2 c2 x w1 hW
  rw [hz] at hck
  have HCK := Lib.hid hck
  have zf1 : (z == 0) = false := by simp only [beq_eq_false_iff_ne, ne_eq]; exact h0
  clear hck hz h0
  obtain ⟨q2, q3, q4, q0⟩ := boxes3 w (.cells #[.slice a0 n0 c0, .slice a1 n1 c1, .slice a2 n2 c2] 28) (.cells #[.int .i64 x.kind, .int .i64 x.side, .int .i64 x.who, .int .i64 x.other, .int .i64 x.e.1, .string x.e.2] 52) (.cells #[.slice none 0 0, .slice none 0 0, .slice none 0 0] 28)
  have hb0 := below3 w (.cells #[.slice a0 n0 c0, .slice a1 n1 c1, .slice a2 n2 c2] 28) (.cells #[.int .i64 x.kind, .int .i64 x.side, .int .i64 x.who, .int .i64 x.other, .int .i64 x.e.1, .string x.e.2] 52) (.cells #[.slice none 0 0, .slice none 0 0, .slice none 0 0] 28)
  have dq2_0 := heap_cell q2 0 _ rfl
  have dq2_1 := heap_cell q2 1 _ rfl
  have dq2_2 := heap_cell q2 2 _ rfl
  have dq3_0 := heap_cell q3 0 _ rfl
  have dq3_1 := heap_cell q3 1 _ rfl
  have dq3_2 := heap_cell q3 2 _ rfl
  have dq3_3 := heap_cell q3 3 _ rfl
  have dq3_4 := heap_cell q3 4 _ rfl
  have dq3_5 := heap_cell q3 5 _ rfl
  go_enter Tryz.func28, Tryz.ntmps28
  go_wp2_with fail
  generalize (((w.alloc (.cells #[.slice a0 n0 c0, .slice a1 n1 c1, .slice a2 n2 c2] 28)).alloc (.cells #[.int .i64 x.kind, .int .i64 x.side, .int .i64 x.who, .int .i64 x.other, .int .i64 x.e.1, .string x.e.2] 52)).alloc (.cells #[.slice none 0 0, .slice none 0 0, .slice none 0 0] 28)) = w0 at q2 q3 q4 q0 hb0 dq2_0 dq2_1 dq2_2 dq3_0 dq3_1 dq3_2 dq3_3 dq3_4 dq3_5 ⊢
  clear q0
  refine (HCK.out w0 (hW.on hb0)).mono ?_
  rintro e w1 ⟨rfl, hb1⟩
  have q2 := heap_on hb1 q2
  have q3 := heap_on hb1 q3
  have q4 := heap_on hb1 q4
  have hb1 := below_on hb0 hb1
  clear hb0
  clear dq2_0 dq2_1 dq2_2 dq3_0 dq3_1 dq3_2 dq3_3 dq3_4 dq3_5
  go_wp2_with (refine wpList_store_row rfl 28 (.tmp 4) (.tmp 14) rfl (w.heap.size + 1 + 1) #[.slice none 0 0, .slice none 0 0, .slice none 0 0] rfl rfl _ _ q4 (by kernel_rfl) rfl (three_cells _ _ _ _ _ _ _ _ _) ?_)
  have hbz := below_setRow hb1 (g := w.heap.size + 1 + 1) (by omega) #[.slice none 0 0, .slice none 0 0, .slice none 0 0]
  refine bodyPost_ret (results_row_tmp rfl _ _ (w.heap.size + 1 + 1) _ _ _ _ rfl (setRow_heap _ _ _ _ _ _ q4) Tryz.underlying28 rfl (by kernel_rfl)) rfl ?_
  exact ⟨none, 0, 0, none, 0, 0, none, 0, 0, rfl, wat_zero _, behind_none _, behind_none _, behind_none _, hbz⟩

set_option maxHeartbeats 16000000 in
set_option maxRecDepth 100000 in
theorem wdo_good (W : WB) (a0 : Option Addr) (n0 c0 : Nat) (a1 : Option Addr) (n1 c1 : Nat) (a2 : Option Addr) (n2 c2 : Nat) (x : HapB) (w : World) (hE : Tab w) (hW : WAt w a0 n0 c0 a1 n1 c1 a2 n2 c2 W) (hx : WideHap x) (hz : chkW W x = 0) :
    Calls Tryz.prog 28 #[.agg #[.slice a0 n0 c0, .slice a1 n1 c1, .slice a2 n2 c2], .agg #[.int .i64 x.kind, .int .i64 x.side, .int .i64 x.who, .int .i64 x.other, .int .i64 x.e.1, .string x.e.2]] w fun e w' => ∃ b0 m0 d0 b1 m1 d1 b2 m2 d2, e = .returned (.tuple #[.agg #[.slice b0 m0 d0, .slice b1 m1 d1, .slice b2 m2 d2], .int .i64 (hapV W x).2]) ∧ WAt w' b0 m0 d0 b1 m1 d1 b2 m2 d2 (hapV W x).1 ∧ Behind w.heap.size b0 ∧ Behind w.heap.size b1 ∧ Behind w.heap.size b2 ∧ Below w.heap.size w w' := by
  obtain ⟨hG, hk, hr⟩ := chkW_ok hz
  obtain ⟨_, _, hl3, hce⟩ := (worldE_iff W).1 hG
  obtain rfl : n2 = 3 := by rw [← hW.l2]; exact hl3
  have hck := fun w1 hW => wd_check W a0 n0 c0 a1 n1 c1 a2 3 c2 x w1 hW
  rw [hz] at hck
  have HCK := Lib.hid hck
  clear hck hz
  have HCO := Lib.hid (fun w1 hW => wcopied_any W a0 n0 c0 a1 n1 c1 a2 3 c2 w1 hW hG)
  have hha := fun B N g u0 d0 u1 d1 d2 cur w1 hE h => whappen_any B N g u0 n0 d0 u1 n1 d1 d2 cur W x w1 hE h hG hk hr hx
  have herr := fun h => hapV_err (W := W) (x := x) h
  generalize hapV W x = R at hha herr ⊢
  obtain ⟨V, z⟩ := R
  simp only at hha herr ⊢
  have HERR := Lib.hid herr
  clear herr
  have HHA := Lib.hid hha
  clear hha
  have l0 := hW.l0
  have l1 := hW.l1
  have hwide := hW.e2.sz
  obtain ⟨q2, q3, q4, q0⟩ := boxes3 w (.cells #[.slice a0 n0 c0, .slice a1 n1 c1, .slice a2 3 c2] 28) (.cells #[.int .i64 x.kind, .int .i64 x.side, .int .i64 x.who, .int .i64 x.other, .int .i64 x.e.1, .string x.e.2] 52) (.cells #[.slice none 0 0, .slice none 0 0, .slice none 0 0] 28)
  have hb0 := below3 w (.cells #[.slice a0 n0 c0, .slice a1 n1 c1, .slice a2 3 c2] 28) (.cells #[.int .i64 x.kind, .int .i64 x.side, .int .i64 x.who, .int .i64 x.other, .int .i64 x.e.1, .string x.e.2] 52) (.cells #[.slice none 0 0, .slice none 0 0, .slice none 0 0] 28)
  have dq2_0 := heap_cell q2 0 _ rfl
  have dq2_1 := heap_cell q2 1 _ rfl
  have dq2_2 := heap_cell q2 2 _ rfl
  have dq3_0 := heap_cell q3 0 _ rfl
  have dq3_1 := heap_cell q3 1 _ rfl
  have dq3_2 := heap_cell q3 2 _ rfl
  have dq3_3 := heap_cell q3 3 _ rfl
  have dq3_4 := heap_cell q3 4 _ rfl
  have dq3_5 := heap_cell q3 5 _ rfl
  go_enter Tryz.func28, Tryz.ntmps28
  go_wp2_with fail
  generalize (((w.alloc (.cells #[.slice a0 n0 c0, .slice a1 n1 c1, .slice a2 3 c2] 28)).alloc (.cells #[.int .i64 x.kind, .int .i64 x.side, .int .i64 x.who, .int .i64 x.other, .int .i64 x.e.1, .string x.e.2] 52)).alloc (.cells #[.slice none 0 0, .slice none 0 0, .slice none 0 0] 28)) = w0 at q2 q3 q4 q0 hb0 dq2_0 dq2_1 dq2_2 dq3_0 dq3_1 dq3_2 dq3_3 dq3_4 dq3_5 ⊢
  clear q0
  refine (HCK.out w0 (hW.on hb0)).mono ?_
  rintro e w1 ⟨rfl, hb1⟩
  have q2 := heap_on hb1 q2
  have q3 := heap_on hb1 q3
  have q4 := heap_on hb1 q4
  have hb1 := below_on hb0 hb1
  clear hb0
  clear dq2_0 dq2_1 dq2_2 dq3_0 dq3_1 dq3_2 dq3_3 dq3_4 dq3_5
  have d2_0 := heap_cell q2 0 _ rfl
  have d2_1 := heap_cell q2 1 _ rfl
  have d2_2 := heap_cell q2 2 _ rfl
  go_wp2_with fail
  have s4 := (Array.getElem?_eq_some_iff.1 q4).1
  have hsz4 : w.heap.size + 1 + 1 < w1.heap.size := s4
  refine (HCO.out w1 (hW.on hb1)).mono ?_
  rintro e w2 ⟨u0, d0, u1, d1, g, d2, cur, rfl, e0, e1, hcl, his, hcap, hmax, hgg, f0, f1, hb2⟩
  have q2 := heap_on hb2 q2
  have q3 := heap_on hb2 q3
  have q4 := heap_on hb2 q4
  have hb2 := below_on hb1 hb2
  clear hb1
  clear d2_0 d2_1 d2_2 HCK HCO
  have hszc : w1.heap.size ≤ w2.heap.size := by have := (Array.getElem?_eq_some_iff.1 hcl).1; omega
  have hst := holds_start (w := w2) (B := w1.heap.size) (g := g) hszc l0 e0 l1 e1 hl3 hcl his hcap hmax hwide hgg f0 f1
  have q3 := heap_old w2 (.cells #[.slice u0 n0 d0, .slice u1 n1 d1, .slice (some ⟨g, 0, none⟩) 3 d2] 28) q3
  have q4 := heap_old w2 (.cells #[.slice u0 n0 d0, .slice u1 n1 d1, .slice (some ⟨g, 0, none⟩) 3 d2] 28) q4
  have hbn := (hb2).alloc (hb2).size (.cells #[.slice u0 n0 d0, .slice u1 n1 d1, .slice (some ⟨g, 0, none⟩) 3 d2] 28)
  have d3_0 := heap_cell q3 0 _ rfl
  have d3_1 := heap_cell q3 1 _ rfl
  have d3_2 := heap_cell q3 2 _ rfl
  have d3_3 := heap_cell q3 3 _ rfl
  have d3_4 := heap_cell q3 4 _ rfl
  have d3_5 := heap_cell q3 5 _ rfl
  have hNs : w.heap.size + 1 + 1 < w2.heap.size := by have := (Array.getElem?_eq_some_iff.1 hcl).1; omega
  clear q2 e0 e1 hcl
  go_wp2_with fail
  generalize (w2.alloc (.cells #[.slice u0 n0 d0, .slice u1 n1 d1, .slice (some ⟨g, 0, none⟩) 3 d2] 28)) = w6 at hst q3 q4 hbn d3_0 d3_1 d3_2 d3_3 d3_4 d3_5 ⊢
  generalize w2.heap.size = N at hst hNs ⊢
  have hlN := hst.lN
  have hlg := hst.lg
  refine (HHA.out w1.heap.size N g u0 d0 u1 d1 d2 cur w6 (hE.on hbn) hst).mono ?_
  rintro e w7 ⟨rfl, hpo⟩
  have p4 := hpo.kept q4 (by omega) (by omega)
  have hb7 := hpo.below (by omega) (by omega) hbn.size hbn
  clear d3_0 d3_1 d3_2 d3_3 d3_4 d3_5 q3 q4
  by_cases h0 : z = 0
  · obtain ⟨b, hbb, hgr, hv⟩ := hpo
    obtain ⟨x0, y0, z0, x1, y1, z1, z2, cur2, hh⟩ := hv h0
    subst h0
    clear hbb hgr hv
    have r2 := hh.box
    have dr0 := heap_cell r2 0 _ rfl
    have dr1 := heap_cell r2 1 _ rfl
    have dr2 := heap_cell r2 2 _ rfl
    go_wp2_with (refine wpList_store_row rfl 28 (.tmp 4) (.tmp 24) rfl (w.heap.size + 1 + 1) #[.slice x0 y0 z0, .slice x1 y1 z1, .slice (some ⟨g, 0, none⟩) 3 z2] rfl rfl _ _ p4 (by kernel_rfl) rfl (three_cells _ _ _ _ _ _ _ _ _) ?_)
    have hbz := below_setRow hb7 (g := w.heap.size + 1 + 1) (by omega) #[.slice x0 y0 z0, .slice x1 y1 z1, .slice (some ⟨g, 0, none⟩) 3 z2]
    refine bodyPost_ret (results_row_tmp rfl _ _ (w.heap.size + 1 + 1) _ _ _ _ rfl (setRow_heap _ _ _ _ _ _ p4) Tryz.underlying28 rfl (by kernel_rfl)) rfl ?_
    have hne := row_grown w7 (w.heap.size + 1 + 1) #[.slice x0 y0 z0, .slice x1 y1 z1, .slice (some ⟨g, 0, none⟩) 3 z2]
    exact ⟨_, _, _, _, _, _, _, _, _, rfl, ⟨hh.l0, ents_kept hh.e0 hne (fun _ b off e => by intro e2; injection e2 with e2; have := (hh.f0 b off e).1; omega), hh.l1, ents_kept hh.e1 hne (fun _ b off e => by intro e2; injection e2 with e2; have := (hh.f1 b off e).1; omega), hh.l2, hh.is.clis (heap_kept hne hh.cli (by intro e; injection e with e; omega)) (by have := hh.l2; have := hh.cap; omega) hh.max hh.wide⟩, fun blk off e => by have := (hh.f0 blk off e).1; omega, fun blk off e => by have := (hh.f1 blk off e).1; omega, fun blk off e => by injection e with e; injection e with e _ _; omega, hbz⟩
  · have zf1 : (z == 0) = false := by simp only [beq_eq_false_iff_ne, ne_eq]; exact h0
    clear hpo
    go_wp2_with (refine wpList_store_row rfl 28 (.tmp 4) (.tmp 22) rfl (w.heap.size + 1 + 1) #[.slice none 0 0, .slice none 0 0, .slice none 0 0] rfl rfl _ _ p4 (by kernel_rfl) rfl (three_cells _ _ _ _ _ _ _ _ _) ?_)
    have hbz := below_setRow hb7 (g := w.heap.size + 1 + 1) (by omega) #[.slice none 0 0, .slice none 0 0, .slice none 0 0]
    refine bodyPost_ret (results_row_tmp rfl _ _ (w.heap.size + 1 + 1) _ _ _ _ rfl (setRow_heap _ _ _ _ _ _ p4) Tryz.underlying28 rfl (by kernel_rfl)) rfl ?_
    exact ⟨none, 0, 0, none, 0, 0, none, 0, 0, rfl, by rw [HERR.out h0]; exact wat_zero _, behind_none _, behind_none _, behind_none _, hbz⟩

theorem do_new (W : WB) (a0 : Option Addr) (n0 c0 : Nat) (a1 : Option Addr) (n1 c1 : Nat) (a2 : Option Addr) (n2 c2 : Nat) (x : HapB) (w : World) (hE : Tab w) (hW : WAt w a0 n0 c0 a1 n1 c1 a2 n2 c2 W) (hx : WideHap x) :
    Calls Tryz.prog 28 #[.agg #[.slice a0 n0 c0, .slice a1 n1 c1, .slice a2 n2 c2], .agg #[.int .i64 x.kind, .int .i64 x.side, .int .i64 x.who, .int .i64 x.other, .int .i64 x.e.1, .string x.e.2]] w fun e w' => ∃ b0 m0 d0 b1 m1 d1 b2 m2 d2, e = .returned (.tuple #[.agg #[.slice b0 m0 d0, .slice b1 m1 d1, .slice b2 m2 d2], .int .i64 (doV W x).2]) ∧ WAt w' b0 m0 d0 b1 m1 d1 b2 m2 d2 (doV W x).1 ∧ Behind w.heap.size b0 ∧ Behind w.heap.size b1 ∧ Behind w.heap.size b2 ∧ Below w.heap.size w w' := by
  by_cases hz : chkW W x = 0
  · rw [doV_hap (chkW_ok hz).1]
    exact wdo_good W a0 n0 c0 a1 n1 c1 a2 n2 c2 x w hE hW hx hz
  · rw [doV_bad hz]
    exact wdo_bad W a0 n0 c0 a1 n1 c1 a2 n2 c2 x w hW _ rfl hz
theorem do_any (W : WB) (x : HapB) (a0 : Option Addr) (n0 c0 : Nat) (a1 : Option Addr) (n1 c1 : Nat) (a2 : Option Addr) (n2 c2 : Nat) (w : World) (hE : Tab w) (hW : WAt w a0 n0 c0 a1 n1 c1 a2 n2 c2 W) (hx : WideHap x) :
    Calls Tryz.prog 28 #[.agg #[.slice a0 n0 c0, .slice a1 n1 c1, .slice a2 n2 c2], .agg #[.int .i64 x.kind, .int .i64 x.side, .int .i64 x.who, .int .i64 x.other, .int .i64 x.e.1, .string x.e.2]] w fun e w' => ∃ b0 m0 d0 b1 m1 d1 b2 m2 d2, e = .returned (.tuple #[.agg #[.slice b0 m0 d0, .slice b1 m1 d1, .slice b2 m2 d2], .int .i64 (doV W x).2]) ∧ WAt w' b0 m0 d0 b1 m1 d1 b2 m2 d2 (doV W x).1 ∧ Below w.heap.size w w' := by
  refine (do_new W a0 n0 c0 a1 n1 c1 a2 n2 c2 x w hE hW hx).mono ?_
  rintro e w' ⟨b0, m0, d0, b1, m1, d1, b2, m2, d2, he, hat, _, _, _, hb⟩
  exact ⟨b0, m0, d0, b1, m1, d1, b2, m2, d2, he, hat, hb⟩

end Go.Proofs.YtnemiobgmdpnmagGreatFmt
namespace Go.Proofs.YtnemiobgmdpnmagGreatFmt
open Go Go.RowKit

theorem infoRunErr : (Tryz.prog.info? 29).map (fun i => (i.zero, i.size, i.bytes)) = some (some (.int .i64 0), 1, 8) := by kernel_rfl
/- What is told is one of few numbers. -/
def Few (z : Int) : Prop := 0 ≤ z ∧ z ≤ 7
theorem few_entry (e : EntB) : Few (entryE e) := by unfold entryE Few; split <;> (try split) <;> omega
theorem few_first : ∀ l : List EntB, Few (firstE l)
  | [] => by unfold firstE Few; omega
  | e :: l => by
    unfold firstE
    split
    · exact few_first l
    · exact few_entry e
theorem few_book (l : List EntB) : Few (bookE l) := by
  unfold bookE
  split
  · unfold Few; omega
  · exact few_first l
theorem few_head (n : Int) (a b : ByteArray) : Few (headE n a b) := by
  unfold Few
  rcases headE_or n a b with h | h | h <;> omega
theorem few_clis : ∀ l : List CliB, Few (clisE l)
  | [] => by unfold clisE Few; omega
  | c :: l => by
    unfold clisE
    split
    · exact few_head _ _ _
    · exact few_clis l
theorem few_world (W : WB) : Few (worldE W) := by
  unfold worldE
  split
  · exact few_book _
  · split
    · exact few_book _
    · split
      · unfold Few; omega
      · exact few_clis _
theorem few_follow (cn : Int) (ca cb : ByteArray) (hn : Int) (ha hb : ByteArray) (l : List ByteArray) : Few (followE cn ca cb hn ha hb l) := by
  unfold followE
  split
  · exact few_head _ _ _
  · split
    · exact few_head _ _ _
    · unfold Few
      split
      · omega
      · split <;> omega
theorem few_trie (all : ByteArray) (key : Int) (value : ByteArray) (there : Bool) (l : List ByteArray) : Few (trieE all key value there l) := by
  unfold trieE Few
  repeat' split
  all_goals omega
theorem few_hap (W : WB) (x : HapB) : Few (hapV W x).2 := by
  unfold hapV
  repeat' split
  all_goals first | exact few_book _ | exact few_follow _ _ _ _ _ _ _ | exact few_trie _ _ _ _ _ | (show Few _; unfold Few; simp only; omega)
theorem few_do (W : WB) (x : HapB) : Few (doV W x).2 := by
  unfold doV
  split
  · exact few_world _
  · exact few_hap _ _
theorem few_said : ∀ (l : List HapB) (W : WB), ∀ z ∈ saidL W l, Few z
  | [], _ => fun z h => by simp [saidL] at h
  | x :: l, W => fun z h => by
    unfold saidL at h
    rcases List.mem_cons.1 h with rfl | h
    · exact few_do _ _
    · exact few_said l _ z h
/- A cell of an own row of numbers. -/
theorem own_num {w : World} {base : Nat} {e : TypeId} {g n c : Nat} {xs : List Int} (h : w.ownsRow base e 1 (.slice (some ⟨g, 0, none⟩) n c) n (xs.map (Value.int .i64))) {i : Nat} (hi : i < n) : ∃ v, w.cell? ⟨g, i, none⟩ = some v := by
  have hl : (xs.map (Value.int .i64)).length = n := by have := h.1; omega
  rcases h.2 with ⟨he, _⟩ | ⟨g', cap, cur, he, hb, hg, hnc, hm, hsz, hcur⟩
  · cases he
  · injection he with e1 _ _
    injection e1 with e1
    injection e1 with e1 _ _
    subst e1
    refine ⟨.int .i64 (xs.getD i 0), heap_cell hg i _ ?_⟩
    have e2 : cur[i]? = (xs.map (Value.int .i64))[i]? := by
      rw [← hcur, List.getElem?_take, if_pos (by omega), Array.getElem?_toList]
    rw [List.length_map] at hl
    rw [e2, List.getElem?_map, List.getElem?_eq_getElem (by omega)]
    simp [List.getD_eq_getElem?_getD, List.getElem?_eq_getElem (show i < xs.length by omega)]
theorem nums_take {xs ts : List Int} {k : Nat} (hk : k < xs.length) (h : xs.take k = ts.take k) (hl : k < ts.length) : (xs.set k (ts.getD k 0)).take (k + 1) = ts.take (k + 1) := by
  rw [List.take_succ_eq_append_getElem (by rw [List.length_set]; exact hk), List.take_succ_eq_append_getElem hl, List.take_set_of_le (Nat.le_refl k), h]
  simp [List.getD_eq_getElem?_getD, List.getElem?_eq_getElem hl]

set_option maxHeartbeats 16000000 in
set_option maxRecDepth 100000 in
theorem wrun_bad (W : WB) (a0 : Option Addr) (n0 c0 : Nat) (a1 : Option Addr) (n1 c1 : Nat) (a2 : Option Addr) (n2 c2 : Nat) (a : Option Addr) (k c : Nat) (w : World) (hW : WAt w a0 n0 c0 a1 n1 c1 a2 n2 c2 W) (z : Int) (hz : worldE W = z) (h0 : z ≠ 0) :
    Calls Tryz.prog 16 #[.agg #[.slice a0 n0 c0, .slice a1 n1 c1, .slice a2 n2 c2], .slice a k c] w fun e w' => ∃ x0 y0 z0 x1 y1 z1 x2 y2 z2 x3 z3, e = .returned (.tuple #[.agg #[.slice x0 y0 z0, .slice x1 y1 z1, .slice x2 y2 z2], .slice x3 0 z3, .int .i64 z]) ∧ WAt w' x0 y0 z0 x1 y1 z1 x2 y2 z2 zeroW ∧ IntsAt w' x3 z3 [] ∧ Below w.heap.size w w' := by
  have hck := fun w1 hW => wcheck_any W a0 n0 c0 a1 n1 c1 a2 n2 c2 w1 hW
  rw [hz] at hck
  have zf1 : (z == 0) = false := by simp only [beq_eq_false_iff_ne, ne_eq]; exact h0
  clear hz h0
  have HCK := Lib.hid hck
  clear hck
  obtain ⟨q2, q4, hb0⟩ := boxes2 w (.cells #[.slice a0 n0 c0, .slice a1 n1 c1, .slice a2 n2 c2] 28) (.cells #[.slice none 0 0, .slice none 0 0, .slice none 0 0] 28)
  have d2_0 := heap_cell q2 0 _ rfl
  have d2_1 := heap_cell q2 1 _ rfl
  have d2_2 := heap_cell q2 2 _ rfl
  go_enter Tryz.func16, Tryz.ntmps16
  go_wp2_with fail
  generalize ((w.alloc (.cells #[.slice a0 n0 c0, .slice a1 n1 c1, .slice a2 n2 c2] 28)).alloc (.cells #[.slice none 0 0, .slice none 0 0, .slice none 0 0] 28)) = w0 at q2 q4 hb0 d2_0 d2_1 d2_2 ⊢
  refine (HCK.out w0 (hW.on hb0)).mono ?_
  rintro e w1 ⟨rfl, hb1⟩
  have q2 := heap_on hb1 q2
  have q4 := heap_on hb1 q4
  have hb1 := below_on hb0 hb1
  clear hb0
  clear d2_0 d2_1 d2_2
  go_wp2_with (refine wpList_store_row rfl 28 (.tmp 4) (.tmp 18) rfl (w.heap.size + 1) #[.slice none 0 0, .slice none 0 0, .slice none 0 0] rfl rfl _ _ q4 (by kernel_rfl) rfl (three_cells _ _ _ _ _ _ _ _ _) ?_)
  have hbz := below_setRow hb1 (g := w.heap.size + 1) (by omega) #[.slice none 0 0, .slice none 0 0, .slice none 0 0]
  refine bodyPost_ret (results_row_tmp2 rfl _ _ (w.heap.size + 1) _ _ _ _ rfl (setRow_heap _ _ _ _ _ _ q4) Tryz.underlying28 rfl (by kernel_rfl)) rfl ?_
  exact ⟨none, 0, 0, none, 0, 0, none, 0, 0, none, 0, rfl, wat_zero _, ⟨Nat.le_refl _, by omega, fun s hs => by simp at hs, fun h => by simp at h⟩, hbz⟩

set_option maxHeartbeats 16000000 in
set_option maxRecDepth 100000 in
theorem wrun_many (W : WB) (a0 : Option Addr) (n0 c0 : Nat) (a1 : Option Addr) (n1 c1 : Nat) (a2 : Option Addr) (n2 c2 : Nat) (a : Option Addr) (k c : Nat) (w : World) (hW : WAt w a0 n0 c0 a1 n1 c1 a2 n2 c2 W) (hG : worldE W = 0) (h80 : 80 < k) :
    Calls Tryz.prog 16 #[.agg #[.slice a0 n0 c0, .slice a1 n1 c1, .slice a2 n2 c2], .slice a k c] w fun e w' => ∃ x0 y0 z0 x1 y1 z1 x2 y2 z2 x3 z3, e = .returned (.tuple #[.agg #[.slice x0 y0 z0, .slice x1 y1 z1, .slice x2 y2 z2], .slice x3 0 z3, .int .i64 2]) ∧ WAt w' x0 y0 z0 x1 y1 z1 x2 y2 z2 zeroW ∧ IntsAt w' x3 z3 [] ∧ Below w.heap.size w w' := by
  have hck := fun w1 hW => wcheck_any W a0 n0 c0 a1 n1 c1 a2 n2 c2 w1 hW
  rw [hG] at hck
  have g1 : (80 : Int) < (k : Int) := by omega
  have g2 : decide ((80 : Int) < (k : Int)) = true := decide_eq_true g1
  have g3 : decide (80 < k) = true := decide_eq_true h80
  have HCK := Lib.hid hck
  clear hck
  obtain ⟨q2, q4, hb0⟩ := boxes2 w (.cells #[.slice a0 n0 c0, .slice a1 n1 c1, .slice a2 n2 c2] 28) (.cells #[.slice none 0 0, .slice none 0 0, .slice none 0 0] 28)
  have d2_0 := heap_cell q2 0 _ rfl
  have d2_1 := heap_cell q2 1 _ rfl
  have d2_2 := heap_cell q2 2 _ rfl
  go_enter Tryz.func16, Tryz.ntmps16
  go_wp2_with fail
  generalize ((w.alloc (.cells #[.slice a0 n0 c0, .slice a1 n1 c1, .slice a2 n2 c2] 28)).alloc (.cells #[.slice none 0 0, .slice none 0 0, .slice none 0 0] 28)) = w0 at q2 q4 hb0 d2_0 d2_1 d2_2 ⊢
  refine (HCK.out w0 (hW.on hb0)).mono ?_
  rintro e w1 ⟨rfl, hb1⟩
  have q2 := heap_on hb1 q2
  have q4 := heap_on hb1 q4
  have hb1 := below_on hb0 hb1
  clear hb0
  clear d2_0 d2_1 d2_2
  go_wp2_with (refine wpList_store_row rfl 28 (.tmp 4) (.tmp 23) rfl (w.heap.size + 1) #[.slice none 0 0, .slice none 0 0, .slice none 0 0] rfl rfl _ _ q4 (by kernel_rfl) rfl (three_cells _ _ _ _ _ _ _ _ _) ?_)
  have hbz := below_setRow hb1 (g := w.heap.size + 1) (by omega) #[.slice none 0 0, .slice none 0 0, .slice none 0 0]
  refine bodyPost_ret (results_row_tmp2 rfl _ _ (w.heap.size + 1) _ _ _ _ rfl (setRow_heap _ _ _ _ _ _ q4) Tryz.underlying28 rfl (by kernel_rfl)) rfl ?_
  exact ⟨none, 0, 0, none, 0, 0, none, 0, 0, none, 0, rfl, wat_zero _, ⟨Nat.le_refl _, by omega, fun s hs => by simp at hs, fun h => by simp at h⟩, hbz⟩

theorem said_get : ∀ (l : List HapB) (W : WB) (i : Nat), i < l.length → (saidL W l).getD i 0 = (doV (playW W (l.take i)) (hapOf l i)).2
  | [], _, i, h => by simp at h
  | x :: l, W, 0, _ => rfl
  | x :: l, W, i + 1, h => by
    have := said_get l (stepW W x) i (by simpa using h)
    simpa [saidL, playW, hapOf] using this
theorem said_at {W : WB} {l : List HapB} {i : Nat} (h : i < l.length) : (saidL W l).getD i 0 = (doV (playW W (l.take i)) (hapOf l i)).2 := said_get l W i h

set_option maxHeartbeats 16000000 in
set_option maxRecDepth 100000 in
theorem wrun_good (W : WB) (a0 : Option Addr) (n0 c0 : Nat) (a1 : Option Addr) (n1 c1 : Nat) (a2 : Option Addr) (n2 c2 : Nat) (l : List HapB) (a : Option Addr) (k c : Nat) (w : World) (hE : Tab w) (hW : WAt w a0 n0 c0 a1 n1 c1 a2 n2 c2 W) (hk : l.length = k) (hL : HapsAt w a c l) (hG : worldE W = 0) (h80 : k ≤ 80) :
    Calls Tryz.prog 16 #[.agg #[.slice a0 n0 c0, .slice a1 n1 c1, .slice a2 n2 c2], .slice a k c] w fun e w' => ∃ x0 y0 z0 x1 y1 z1 x2 y2 z2 x3 z3, e = .returned (.tuple #[.agg #[.slice x0 y0 z0, .slice x1 y1 z1, .slice x2 y2 z2], .slice x3 k z3, .int .i64 0]) ∧ WAt w' x0 y0 z0 x1 y1 z1 x2 y2 z2 (playW W l) ∧ IntsAt w' x3 z3 (saidL W l) ∧ Below w.heap.size w w' := by
  obtain ⟨_, _, hl3, hce⟩ := (worldE_iff W).1 hG
  obtain rfl : n2 = 3 := by rw [← hW.l2]; exact hl3
  obtain ⟨i0, hi0, hz0, hz1, hz2⟩ := info_parts infoRunErr
  have hck := fun w1 hW => wcheck_any W a0 n0 c0 a1 n1 c1 a2 3 c2 w1 hW
  rw [hG] at hck
  have HCK := Lib.hid hck
  clear hck
  have HCO := Lib.hid (fun w1 hW => wcopied_any W a0 n0 c0 a1 n1 c1 a2 3 c2 w1 hW hG)
  have l0 := hW.l0
  have l1 := hW.l1
  have hwide := hW.e2.sz
  have g1 : ¬ (80 : Int) < (k : Int) := by omega
  have g2 : decide ((80 : Int) < (k : Int)) = false := decide_eq_false g1
  have g3 : decide (80 < k) = false := decide_eq_false (by omega)
  obtain ⟨q2, q4, hb0⟩ := boxes2 w (.cells #[.slice a0 n0 c0, .slice a1 n1 c1, .slice a2 3 c2] 28) (.cells #[.slice none 0 0, .slice none 0 0, .slice none 0 0] 28)
  have d2_0 := heap_cell q2 0 _ rfl
  have d2_1 := heap_cell q2 1 _ rfl
  have d2_2 := heap_cell q2 2 _ rfl
  go_enter Tryz.func16, Tryz.ntmps16
  go_wp2_with fail
  generalize ((w.alloc (.cells #[.slice a0 n0 c0, .slice a1 n1 c1, .slice a2 3 c2] 28)).alloc (.cells #[.slice none 0 0, .slice none 0 0, .slice none 0 0] 28)) = w0 at q2 q4 hb0 d2_0 d2_1 d2_2 ⊢
  refine (HCK.out w0 (hW.on hb0)).mono ?_
  rintro e w1 ⟨rfl, hb1⟩
  have q2 := heap_on hb1 q2
  have q4 := heap_on hb1 q4
  have hb1 := below_on hb0 hb1
  clear hb0
  clear d2_0 d2_1 d2_2
  have d2_0 := heap_cell q2 0 _ rfl
  have d2_1 := heap_cell q2 1 _ rfl
  have d2_2 := heap_cell q2 2 _ rfl
  go_wp2_with fail
  have hsz4 : w.heap.size + 1 < w1.heap.size := (Array.getElem?_eq_some_iff.1 q4).1
  refine (HCO.out w1 (hW.on hb1)).mono ?_
  rintro e w2 ⟨u0, d0, u1, d1, g, d2, cur, rfl, e0, e1, hcl, his, hcap, hmax, hgg, f0, f1, hb2⟩
  have q2 := heap_on hb2 q2
  have q4 := heap_on hb2 q4
  have hb2 := below_on hb1 hb2
  clear hb1
  clear d2_0 d2_1 d2_2 HCK HCO
  have hY : WAt w2 u0 n0 d0 u1 n1 d1 (some ⟨g, 0, none⟩) 3 d2 W := ⟨l0, e0, l1, e1, hl3, his.clis hcl (by omega) hmax hwide⟩
  have hNs : w.heap.size + 1 < w2.heap.size := by have := (Array.getElem?_eq_some_iff.1 hcl).1; omega
  have q4 := heap_old w2 (.cells #[.slice u0 n0 d0, .slice u1 n1 d1, .slice (some ⟨g, 0, none⟩) 3 d2] 28) q4
  have q8 := heap_push w2 (.cells #[.slice u0 n0 d0, .slice u1 n1 d1, .slice (some ⟨g, 0, none⟩) 3 d2] 28)
  have hbn := (hb2).alloc (hb2).size (.cells #[.slice u0 n0 d0, .slice u1 n1 d1, .slice (some ⟨g, 0, none⟩) 3 d2] 28)
  have hY := hY.on ((Below.refl _ w2).alloc (Nat.le_refl _) (.cells #[.slice u0 n0 d0, .slice u1 n1 d1, .slice (some ⟨g, 0, none⟩) 3 d2] 28))
  clear q2 e0 e1 hcl his f0 f1 hgg
  go_upto_region 7 with fail
  generalize (w2.alloc (.cells #[.slice u0 n0 d0, .slice u1 n1 d1, .slice (some ⟨g, 0, none⟩) 3 d2] 28)) = w5 at q4 q8 hbn hY ⊢
  generalize w2.heap.size = N at q8 hNs ⊢
  have hN5 := (Array.getElem?_eq_some_iff.1 q8).1
  go_wp2_with (at_make; refine wpList_make_full _ rfl _ _ 53 rfl w5.heap.size 29 i0 (.int .i64 0) 1 Tryz.underlying53 hi0 hz0 hz1 _ _ _ _ k rfl rfl rfl rfl (by rw [hz2]; omega) (by unfold maxLen; omega) (Nat.le_refl _) ?_; intro w6 hown hg6)
  have hcs : (madeCells (Value.int .i64 0).cells (k * 1)).toList = (List.replicate k (0 : Int)).map (Value.int .i64) := by
    show (madeCells #[Value.int .i64 0] (k * 1)).toList = _
    rw [Nat.mul_one, toList_madeCells_one, List.map_replicate]
  rw [hcs] at hown
  clear hcs
  have q4 := heap_kept hg6 q4 (by simp)
  have q8 := heap_kept hg6 q8 (by simp)
  have hb6 := hbn.grown hg6 hbn.size (fun j hj => by cases hj)
  have hF0 := far_new hY (Nat.le_refl _)
  have hY := hY.kept hg6 (fun g hg => by cases hg)
  obtain ⟨G, hGe⟩ : ∃ G, w5.heap.size = G := ⟨_, rfl⟩
  rw [hGe] at hown hN5 hF0 ⊢
  have hG4 : w.heap.size + 1 < G := by omega
  clear hGe hbn hg6
  go_loopg [31] k (fun gh s31 wr => ∃ (i : Nat) (b0 : Option Addr) (m0 e0 : Nat) (b1 : Option Addr) (m1 e1 : Nat) (b2 : Option Addr) (m2 e2 : Nat) (xs : List Int), s31 = .int .i64 (i : Int) ∧ i ≤ k ∧ k - i ≤ gh ∧ wr.heap[N]? = some (.cells #[.slice b0 m0 e0, .slice b1 m1 e1, .slice b2 m2 e2] 28) ∧ WAt wr b0 m0 e0 b1 m1 e1 b2 m2 e2 (playW W (l.take i)) ∧ Far3 (playW W (l.take i)) b0 b1 b2 G ∧ xs.length = k ∧ xs.take i = (saidL W l).take i ∧ wr.ownsRow G 29 1 (.slice (some ⟨G, 0, none⟩) k k) k (xs.map (Value.int .i64)) ∧ wr.heap[w.heap.size + 1]? = some (.cells #[.slice none 0 0, .slice none 0 0, .slice none 0 0] 28) ∧ Below w.heap.size w wr)
  case atStart => exact ⟨0, u0, n0, d0, u1, n1, d1, some ⟨g, 0, none⟩, 3, d2, List.replicate k 0, rfl, Nat.zero_le _, by omega, q8, hY, hF0, by simp, by simp, hown, q4, hb6⟩
  case round =>
    clear q8 hY hF0 hown q4 hb6
    obtain ⟨i, b0, m0, e0, b1, m1, e1, b2, m2, e2, xs, rfl, hik, hgh, p8, hV, hfar, hxl, hxt, hown, q4, hb⟩ := hrel
    rcases Nat.lt_or_ge i k with hlt | hge
    · obtain ⟨bl, off, rfl, hbl, hc⟩ := (hL.on hb).cells (by omega)
      obtain ⟨s0, s1, s2, s3, s4, s5⟩ := hc i (by omega)
      clear hc
      have hxw := hL.sz _ (hapOf_mem (l := l) (i := i) (by omega))
      have hT := haps_take (l := l) (i := i) (by omega)
      have hp1 : playW W (l.take (i + 1)) = stepW (playW W (l.take i)) (hapOf l i) := by rw [hT, playW_snoc]
      have hs1 : (saidL W l).getD i 0 = (doV (playW W (l.take i)) (hapOf l i)).2 := said_at (by omega)
      unfold stepW at hp1
      have hp := fun w' hE hW => do_new (playW W (l.take i)) b0 m0 e0 b1 m1 e1 b2 m2 e2 (hapOf l i) w' hE hW hxw
      have hnt := nums_take (xs := xs) (ts := saidL W l) (k := i) (by omega) hxt (by rw [saidL_len]; omega)
      rw [hs1] at hnt
      obtain ⟨Y, z, hYZ⟩ : ∃ Y z, doV (playW W (l.take i)) (hapOf l i) = (Y, z) := ⟨_, _, rfl⟩
      rw [hYZ] at hp hp1 hnt
      simp only at hp hp1 hnt
      obtain ⟨Vi, hVi⟩ : ∃ Vi, playW W (l.take i) = Vi := ⟨_, rfl⟩
      rw [hVi] at hV hp hp1 hfar
      generalize hapOf l i = x at s0 s1 s2 s3 s4 s5 hp
      obtain ⟨xk, xs_, xw, xo, xe, xv⟩ := x
      simp only at s0 s1 s2 s3 s4 s5 hp
      have HP := Lib.hid hp
      have HP1 := Lib.hid hp1
      have HNT := Lib.hid hnt
      clear hp hp1 hs1 hYZ hVi hT hxw hnt hxt
      have hik1 : (i : Int) < (k : Int) := by omega
      have hown := hown.alloc (.cells #[.int .i64 xk, .int .i64 xs_, .int .i64 xw, .int .i64 xo, .int .i64 xe, .string xv] 52)
      have p8 := heap_old wr (.cells #[.int .i64 xk, .int .i64 xs_, .int .i64 xw, .int .i64 xo, .int .i64 xe, .string xv] 52) p8
      have q4 := heap_old wr (.cells #[.int .i64 xk, .int .i64 xs_, .int .i64 xw, .int .i64 xo, .int .i64 xe, .string xv] 52) q4
      have q11 := heap_push wr (.cells #[.int .i64 xk, .int .i64 xs_, .int .i64 xw, .int .i64 xo, .int .i64 xe, .string xv] 52)
      have hV := hV.on ((Below.refl _ wr).alloc (Nat.le_refl _) (.cells #[.int .i64 xk, .int .i64 xs_, .int .i64 xw, .int .i64 xo, .int .i64 xe, .string xv] 52))
      have hb11 := hb.alloc hb.size (.cells #[.int .i64 xk, .int .i64 xs_, .int .i64 xw, .int .i64 xo, .int .i64 xe, .string xv] 52)
      clear hb
      have d8_0 := heap_cell p8 0 _ rfl
      have d8_1 := heap_cell p8 1 _ rfl
      have d8_2 := heap_cell p8 2 _ rfl
      have d11_0 := heap_cell q11 0 _ rfl
      have d11_1 := heap_cell q11 1 _ rfl
      have d11_2 := heap_cell q11 2 _ rfl
      have d11_3 := heap_cell q11 3 _ rfl
      have d11_4 := heap_cell q11 4 _ rfl
      have d11_5 := heap_cell q11 5 _ rfl
      go_wp2_with fail
      generalize (wr.alloc (.cells #[.int .i64 xk, .int .i64 xs_, .int .i64 xw, .int .i64 xo, .int .i64 xe, .string xv] 52)) = w3 at p8 q4 q11 hV hb11 hown d8_0 d8_1 d8_2 d11_0 d11_1 d11_2 d11_3 d11_4 d11_5 ⊢
      have hG3 : G < w3.heap.size := (hown.lt G rfl).2
      refine (HP.out w3 (hE.on hb11) hV).mono ?_
      rintro e w4 ⟨h0, i0_, j0, h1, i1, j1, h2, i2, j2, rfl, hU, hn0, hn1, hn2, hb4⟩
      have p8 := heap_on hb4 p8
      have q4 := heap_on hb4 q4
      have hV := hV.on hb4
      have hown := owns_on hown hb4
      have hfar4 : Far3 Y h0 h1 h2 G := ⟨fun _ o e => by have := hn0 G o e; omega, fun _ o e => by have := hn1 G o e; omega, fun _ o e => by have := hn2 G o e; omega⟩
      have hb4 := below_on hb11 hb4
      clear hb11 hn0 hn1 hn2 d8_0 d8_1 d8_2 d11_0 d11_1 d11_2 d11_3 d11_4 d11_5 q11 HP s0 s1 s2 s3 s4 s5 hbl
      have q12 := heap_push w4 (.cells #[.slice h0 i0_ j0, .slice h1 i1 j1, .slice h2 i2 j2] 28)
      have p8 := heap_old w4 (.cells #[.slice h0 i0_ j0, .slice h1 i1 j1, .slice h2 i2 j2] 28) p8
      have q4 := heap_old w4 (.cells #[.slice h0 i0_ j0, .slice h1 i1 j1, .slice h2 i2 j2] 28) q4
      have hV := hV.on ((Below.refl _ w4).alloc (Nat.le_refl _) (.cells #[.slice h0 i0_ j0, .slice h1 i1 j1, .slice h2 i2 j2] 28))
      have hU := hU.on ((Below.refl _ w4).alloc (Nat.le_refl _) (.cells #[.slice h0 i0_ j0, .slice h1 i1 j1, .slice h2 i2 j2] 28))
      have hown := hown.alloc (.cells #[.slice h0 i0_ j0, .slice h1 i1 j1, .slice h2 i2 j2] 28)
      have hb5 := hb4.alloc hb4.size (.cells #[.slice h0 i0_ j0, .slice h1 i1 j1, .slice h2 i2 j2] 28)
      clear hb4
      go_upto_region 12 with fail
      generalize (w4.alloc (.cells #[.slice h0 i0_ j0, .slice h1 i1 j1, .slice h2 i2 j2] 28)) = w5 at p8 q4 q12 hV hU hown hb5 ⊢
      generalize w4.heap.size = B12 at q12 ⊢
      by_cases hz : z = 0
      · subst hz
        have d12_0 := heap_cell q12 0 _ rfl
        have d12_1 := heap_cell q12 1 _ rfl
        have d12_2 := heap_cell q12 2 _ rfl
        go_upto_region 14 with (refine wpList_store_row rfl 28 (.tmp 8) (.tmp 44) rfl N #[.slice h0 i0_ j0, .slice h1 i1 j1, .slice h2 i2 j2] rfl rfl _ _ p8 (by kernel_rfl) rfl (three_cells _ _ _ _ _ _ _ _ _) ?_)
        clear d12_0 d12_1 d12_2
        have hU6 := hU.kept (row_grown w5 N #[.slice h0 i0_ j0, .slice h1 i1 j1, .slice h2 i2 j2]) (fun g hg => by injection hg with hg; subst hg; exact far_box hU p8)
        have p6 := setRow_heap w5 N _ #[.slice h0 i0_ j0, .slice h1 i1 j1, .slice h2 i2 j2] _ _ p8
        have r6 := heap_kept (row_grown w5 N #[.slice h0 i0_ j0, .slice h1 i1 j1, .slice h2 i2 j2]) q4 (by intro e; injection e with e; omega)
        have own6 := hown.kept (row_grown w5 N #[.slice h0 i0_ j0, .slice h1 i1 j1, .slice h2 i2 j2]) (.inr fun e => by have := (hown.lt _ e).1; omega)
        have hb6 := below_setRow hb5 (g := N) (by omega) #[.slice h0 i0_ j0, .slice h1 i1 j1, .slice h2 i2 j2]
        generalize w5.setRow N #[.slice h0 i0_ j0, .slice h1 i1 j1, .slice h2 i2 j2] = w6 at hU6 p6 own6 hb6 r6 ⊢
        clear hU hV p8 hown hb5 q12 hfar q4
        obtain ⟨vc, hcell⟩ := own_num own6 (i := i) hlt
        have hfro := own6.frozenAt i
        obtain ⟨own7, hg7⟩ := own6.stored i (.int .i64 0)
        rw [← List.map_set] at own7
        have r8 := heap_kept hg7 p6 (by intro e; injection e with e; omega)
        have r4 := heap_kept hg7 r6 (by intro e; injection e with e; omega)
        have rV := hU6.kept hg7 (fun g hg => by injection hg with hg; subst hg; exact hfar4)
        have rb := hb6.grown hg7 hb6.size (fun j hj => by injection hj with hj; omega)
        go_wp2_with fail
        go_roundg (k - (i + 1))
        case measure => omega
        case rel => exact ⟨i + 1, h0, i0_, j0, h1, i1, j1, h2, i2, j2, xs.set i 0, by go_num, by omega, by omega, r8, by rw [HP1.out]; exact (if_pos rfl : (if (0 : Int) = 0 then Y else Vi) = Y) ▸ rV, by rw [HP1.out]; exact (if_pos rfl : (if (0 : Int) = 0 then Y else Vi) = Y) ▸ hfar4, by rw [List.length_set]; exact hxl, HNT.out, own7, r4, rb⟩
      · have zf1 : (z == 0) = false := by simp only [beq_eq_false_iff_ne, ne_eq]; exact hz
        go_upto_region 14 with fail
        clear hU hfar4 q12
        obtain ⟨vc, hcell⟩ := own_num hown (i := i) hlt
        have hfro := hown.frozenAt i
        obtain ⟨own7, hg7⟩ := hown.stored i (.int .i64 z)
        rw [← List.map_set] at own7
        have r8 := heap_kept hg7 p8 (by intro e; injection e with e; omega)
        have r4 := heap_kept hg7 q4 (by intro e; injection e with e; omega)
        have rV := hV.kept hg7 (fun g hg => by injection hg with hg; subst hg; exact hfar)
        have rb := hb5.grown hg7 hb5.size (fun j hj => by injection hj with hj; omega)
        go_wp2_with fail
        go_roundg (k - (i + 1))
        case measure => omega
        case rel => exact ⟨i + 1, b0, m0, e0, b1, m1, e1, b2, m2, e2, xs.set i z, by go_num, by omega, by omega, r8, by rw [HP1.out]; exact (by rw [if_neg hz]; exact rV), by rw [HP1.out]; exact (by rw [if_neg hz]; exact hfar), by rw [List.length_set]; exact hxl, HNT.out, own7, r4, rb⟩
    · obtain rfl : i = k := by omega
      rw [List.take_of_length_le (by omega)] at hV hfar
      rw [List.take_of_length_le (by omega), List.take_of_length_le (by rw [saidL_len]; omega)] at hxt
      subst hxt
      obtain ⟨_, hI⟩ := owned_ints hown (fun s hs => by have := few_said l W s hs; unfold Few at this; omega)
      have d8_0 := heap_cell p8 0 _ rfl
      have d8_1 := heap_cell p8 1 _ rfl
      have d8_2 := heap_cell p8 2 _ rfl
      go_wp2_with (refine wpList_store_row rfl 28 (.tmp 4) (.tmp 50) rfl (w.heap.size + 1) #[.slice b0 m0 e0, .slice b1 m1 e1, .slice b2 m2 e2] rfl rfl _ _ q4 (by kernel_rfl) rfl (three_cells _ _ _ _ _ _ _ _ _) ?_)
      have hbz := below_setRow hb (g := w.heap.size + 1) (by omega) #[.slice b0 m0 e0, .slice b1 m1 e1, .slice b2 m2 e2]
      refine bodyPost_ret (results_row_tmp2 rfl _ _ (w.heap.size + 1) _ _ _ _ rfl (setRow_heap _ _ _ _ _ _ q4) Tryz.underlying28 rfl (by kernel_rfl)) rfl ?_
      exact ⟨_, _, _, _, _, _, _, _, _, _, _, rfl, hV.kept (row_grown _ _ _) (fun g hg => by injection hg with hg; subst hg; exact far_box hV q4), ints_kept hI (row_grown _ _ _) (fun _ b off e => by injection e with e; injection e with e _ _; intro e2; injection e2 with e2; omega), hbz⟩

theorem run_any (W : WB) (l : List HapB) (a0 : Option Addr) (n0 c0 : Nat) (a1 : Option Addr) (n1 c1 : Nat) (a2 : Option Addr) (n2 c2 : Nat) (a : Option Addr) (k c : Nat) (w : World) (hE : Tab w) (hW : WAt w a0 n0 c0 a1 n1 c1 a2 n2 c2 W) (hk : l.length = k) (hL : HapsAt w a c l) :
    Calls Tryz.prog 16 #[.agg #[.slice a0 n0 c0, .slice a1 n1 c1, .slice a2 n2 c2], .slice a k c] w fun e w' => ∃ x0 y0 z0 x1 y1 z1 x2 y2 z2 x3 z3, e = .returned (.tuple #[.agg #[.slice x0 y0 z0, .slice x1 y1 z1, .slice x2 y2 z2], .slice x3 (runS W l).length z3, .int .i64 (runE W l)]) ∧ WAt w' x0 y0 z0 x1 y1 z1 x2 y2 z2 (runW W l) ∧ IntsAt w' x3 z3 (runS W l) ∧ Below w.heap.size w w' := by
  by_cases hG : worldE W = 0
  · by_cases h80 : l.length ≤ 80
    · have e0 := run_good hG h80
      rw [show runW W l = playW W l from if_pos e0, show runS W l = saidL W l from if_pos e0, e0, saidL_len, hk]
      exact wrun_good W a0 n0 c0 a1 n1 c1 a2 n2 c2 l a k c w hE hW hk hL hG (by omega)
    · have e0 : runE W l = 2 := by unfold runE; rw [if_neg (fun h => h hG), if_pos (by omega)]
      rw [show runW W l = zeroW from if_neg (by rw [e0]; decide), show runS W l = [] from if_neg (by rw [e0]; decide), e0]
      exact wrun_many W a0 n0 c0 a1 n1 c1 a2 n2 c2 a k c w hW hG (by omega)
  · have e0 : runE W l = worldE W := if_pos hG
    rw [show runW W l = zeroW from if_neg (by rw [e0]; exact hG), show runS W l = [] from if_neg (by rw [e0]; exact hG), e0]
    exact wrun_bad W a0 n0 c0 a1 n1 c1 a2 n2 c2 a k c w hW _ rfl hG

end Go.Proofs.YtnemiobgmdpnmagGreatFmt
