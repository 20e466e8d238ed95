/-
  StorySays' walk: of whatever world, client and side it answers true.
-/
import Derived.Test.YtnemiobgmdpnmagGreatFmtTelling
import Derived.Test.YtnemiobgmdpnmagGreatFmtOfMath
import Derived.Test.YtnemiobgmdpnmagGreatFmtRefWorld
import Derived.Test.YtnemiobgmdpnmagGreatFmtRefHead
import Derived.Test.YtnemiobgmdpnmagGreatFmtShown
import Derived.Test.YtnemiobgmdpnmagGreatFmtBooks
import Derived.Deep.DeepCutAuto
import Derived.Deep.RegionHeld3
import Derived.BigQuiet
import Derived.Lib.QuietBelow
namespace Go.Proofs.YtnemiobgmdpnmagGreatFmt
open Go Go.RowKit Go.Kit Go.Extern.Stop Go.Stop Go.Extern

theorem hold3s {w5 cur w' : World} {b1 o1 b2 o2 : Nat} {u1 u2 : Value} (k1 : b1 < w5.heap.size) (k2 : b2 < w5.heap.size) (h : Below w5.heap.size w5 cur ∧ cur.cell? ⟨b1, o1, none⟩ = some u1 ∧ cur.cell? ⟨b2, o2, none⟩ = some u2) (hb : Below cur.heap.size cur w') :
    Below w5.heap.size w5 w' ∧ w'.cell? ⟨b1, o1, none⟩ = some u1 ∧ w'.cell? ⟨b2, o2, none⟩ = some u2 := hold2 k1 k2 h hb
theorem hold4s {w5 cur w' : World} {b1 o1 b2 o2 b3 o3 b4 o4 : Nat} {u1 u2 u3 u4 : Value} (k1 : b1 < w5.heap.size) (k2 : b2 < w5.heap.size) (k3 : b3 < w5.heap.size) (k4 : b4 < w5.heap.size)
    (h : Below w5.heap.size w5 cur ∧ cur.cell? ⟨b1, o1, none⟩ = some u1 ∧ cur.cell? ⟨b2, o2, none⟩ = some u2 ∧ cur.cell? ⟨b3, o3, none⟩ = some u3 ∧ cur.cell? ⟨b4, o4, none⟩ = some u4) (hb : Below cur.heap.size cur w') :
    Below w5.heap.size w5 w' ∧ w'.cell? ⟨b1, o1, none⟩ = some u1 ∧ w'.cell? ⟨b2, o2, none⟩ = some u2 ∧ w'.cell? ⟨b3, o3, none⟩ = some u3 ∧ w'.cell? ⟨b4, o4, none⟩ = some u4 := by
  have key : ∀ (b j : Nat) (u : Value), b < w5.heap.size → cur.cell? ⟨b, j, none⟩ = some u → w'.cell? ⟨b, j, none⟩ = some u := fun b j u hlt hu => by
    rw [hb.cell (Nat.lt_of_lt_of_le hlt h.1.size)]; exact hu
  obtain ⟨h0, h1, h2, h3, h4⟩ := h
  exact ⟨below_on h0 hb, key _ _ _ k1 h1, key _ _ _ k2 h2, key _ _ _ k3 h3, key _ _ _ k4 h4⟩
theorem split_at : ∀ (l m : List EntB), splitN l m < l.length → splitN l m < m.length → entAt l (splitN l m) ≠ entAt m (splitN l m)
  | [], _, h, _ => by simp at h
  | _ :: _, [], _, h => by simp at h
  | a :: l, b :: m, h, h' => by
    unfold splitN at h h' ⊢
    by_cases e : a = b
    · rw [if_pos e] at h h' ⊢
      have := split_at l m (by simpa using h) (by simpa using h')
      simpa [entAt] using this
    · rw [if_neg e]
      exact e
theorem bytes_some {a : ByteArray} (h : a ≠ ⟨#[]⟩) : ¬ a.toList = [] := by
  intro e
  have h2 := str_ne h
  rw [e, ByteArray.toList_eq] at h2
  exact absurd h2 (by decide)
theorem ofB_out {W : WB} {who side : Int} (h : ofE W who side ≠ 0) : ofB W who side = false := if_neg h

set_option maxHeartbeats 16000000 in
set_option maxRecDepth 100000 in
theorem storySays_bad (W : WB) (a0 : Option Addr) (n0 c0 : Nat) (a1 : Option Addr) (n1 c1 : Nat) (a2 : Option Addr) (n2 c2 : Nat) (who side : Int) (w : World) (hE : Tab w) (hW : WAt w a0 n0 c0 a1 n1 c1 a2 n2 c2 W) (z : Int) (hz : worldE W = z) (h0 : z ≠ 0) :
    Calls Tryz.prog 3 #[.agg #[.slice a0 n0 c0, .slice a1 n1 c1, .slice a2 n2 c2], .int .i64 who, .int .i64 side] w fun e w' => e = .returned (.bool true) ∧ Below w.heap.size w w' := by
  have hof := fun w1 hE hW => of_any W who side a0 n0 c0 a1 n1 c1 a2 n2 c2 w1 hE hW
  have hoe : ofE W who side = z := by unfold ofE; rw [hz, if_pos h0]
  rw [ofB_out (by rw [hoe]; exact h0), hoe] at hof
  have hsp := fun w1 hW => split_any W a0 n0 c0 a1 n1 c1 a2 n2 c2 w1 hW
  rw [show splitW W = 0 from if_neg (by rw [hz]; exact h0), hz] at hsp
  have hck := fun w1 hW => checkWorld_any W a0 n0 c0 a1 n1 c1 a2 n2 c2 w1 hW
  rw [hz] at hck
  have S1 := Lib.hid hof
  have S2 := Lib.hid hsp
  have S3 := Lib.hid hck
  clear hof hsp hck hoe hz
  have zf1 : (z == 0) = false := by simp only [beq_eq_false_iff_ne, ne_eq]; exact h0
  have zf3 : (z != 0) = true := by simp only [bne, zf1]; rfl
  have zz : (z == z) = true := by simp
  have zn : (z != z) = false := by simp
  clear h0
  have q3 := heap_push w (.cells #[.slice a0 n0 c0, .slice a1 n1 c1, .slice a2 n2 c2] 28)
  have hb0 := (Below.refl w.heap.size w).alloc (Nat.le_refl _) (.cells #[.slice a0 n0 c0, .slice a1 n1 c1, .slice a2 n2 c2] 28)
  have d0 := heap_cell q3 0 _ rfl
  have d1 := heap_cell q3 1 _ rfl
  have d2 := heap_cell q3 2 _ rfl
  go_enter Tryz.func3, Tryz.ntmps3
  go_wp2_with fail
  generalize (w.alloc (.cells #[.slice a0 n0 c0, .slice a1 n1 c1, .slice a2 n2 c2] 28)) = w0 at q3 hb0 d0 d1 d2 ⊢
  refine (S1.out w0 (hE.on hb0) (hW.on hb0)).mono ?_
  rintro e w1 ⟨rfl, hb1⟩
  have q3 := heap_on hb1 q3
  have hb1 := below_on hb0 hb1
  clear hb0
  clear d0 d1 d2
  have d0 := heap_cell q3 0 _ rfl
  have d1 := heap_cell q3 1 _ rfl
  have d2 := heap_cell q3 2 _ rfl
  go_wp2_with fail
  refine (S2.out w1 (hW.on hb1)).mono ?_
  rintro e w2 ⟨rfl, hb2⟩
  have q3 := heap_on hb2 q3
  have hb2 := below_on hb1 hb2
  clear hb1
  clear d0 d1 d2
  have d0 := heap_cell q3 0 _ rfl
  have d1 := heap_cell q3 1 _ rfl
  have d2 := heap_cell q3 2 _ rfl
  go_wp2_with fail
  refine (S3.out w2 (hW.on hb2)).mono ?_
  rintro e w3 ⟨rfl, hb3⟩
  have q3 := heap_on hb3 q3
  have hb3 := below_on hb2 hb3
  clear hb2
  clear d0 d1 d2
  go_wp2_with fail
  refine (telling_any w3 (hE.on hb3)).mono ?_
  rintro e w4 ⟨rfl, hb4⟩
  have q3 := heap_on hb4 q3
  have hb4 := below_on hb3 hb4
  clear hb3
  have d0 := heap_cell q3 0 _ rfl
  have d1 := heap_cell q3 1 _ rfl
  have d2 := heap_cell q3 2 _ rfl
  go_wp2_with fail
  refine (S3.out w4 (hW.on hb4)).mono ?_
  rintro e w5 ⟨rfl, hb5⟩
  have q3 := heap_on hb5 q3
  have hb5 := below_on hb4 hb5
  clear hb4
  clear d0 d1 d2
  go_wp2_with fail
  go_ret
  exact ⟨rfl, hb5⟩

set_option maxHeartbeats 16000000 in
set_option maxRecDepth 100000 in
theorem storySays_good (I : Interp) (W : WB) (a0 : Option Addr) (n0 c0 : Nat) (a1 : Option Addr) (n1 c1 : Nat) (a2 : Option Addr) (n2 c2 : Nat) (who side : Int) (w : World) (hE : Tab w) (hF : I.told.answers w.tape) (hW : WAt w a0 n0 c0 a1 n1 c1 a2 n2 c2 W) (hG : worldE W = 0) :
    Calls Tryz.prog 3 #[.agg #[.slice a0 n0 c0, .slice a1 n1 c1, .slice a2 n2 c2], .int .i64 who, .int .i64 side] w fun e w' => e = .returned (.bool true) ∧ Below w.heap.size w w' := by
  obtain ⟨g0, g1, hl3, hce⟩ := (worldE_iff W).1 hG
  obtain rfl : n2 = 3 := by rw [← hW.l2]; exact hl3
  have hl0 := hW.l0
  have hl1 := hW.l1
  have hof := fun w1 hE hW => of_any W who side a0 n0 c0 a1 n1 c1 a2 3 c2 w1 hE hW
  have hsp := fun w1 hW => split_any W a0 n0 c0 a1 n1 c1 a2 3 c2 w1 hW
  have hes : splitW W = splitN W.b0 W.b1 := if_pos hG
  rw [hes, hG] at hsp
  have hck := fun w1 hW => checkWorld_any W a0 n0 c0 a1 n1 c1 a2 3 c2 w1 hW
  rw [hG] at hck
  obtain ⟨sl0, sl1⟩ := split_le W.b0 W.b1
  have stk := split_take W.b0 W.b1
  have sat := split_at W.b0 W.b1
  rw [hl0] at sl0 sat
  rw [hl1] at sl1 sat
  generalize splitN W.b0 W.b1 = n at hsp sl0 sl1 stk sat
  have hoe : ofE W who side = if ¬ ofP who side then 5 else 0 := by unfold ofE; rw [if_neg (fun h => h hG)]
  have hob : ofP who side → ofB W who side = decide (isOf (sideL W side) (cliAt W who)) := fun h => by unfold ofB; rw [if_pos (show ofE W who side = 0 by rw [hoe, if_neg (fun hh => hh h)])]
  have hobn : ¬ ofP who side → ofB W who side = false := fun h => by unfold ofB; rw [if_neg (show ¬ ofE W who side = 0 by rw [hoe, if_pos h]; decide)]
  generalize ofB W who side = OB at hof hob hobn
  generalize ofE W who side = OE at hof hoe
  have S1 := Lib.hid hof
  have S2 := Lib.hid hsp
  have S3 := Lib.hid hck
  have HOE := Lib.hid hoe
  have HOB := Lib.hid hob
  have HOBN := Lib.hid hobn
  have STK := Lib.hid stk
  have SAT := Lib.hid sat
  clear hof hsp hck hoe hob hobn hes stk sat
  have q3 := heap_push w (.cells #[.slice a0 n0 c0, .slice a1 n1 c1, .slice a2 3 c2] 28)
  have hb0 := (Below.refl w.heap.size w).alloc (Nat.le_refl _) (.cells #[.slice a0 n0 c0, .slice a1 n1 c1, .slice a2 3 c2] 28)
  have d0 := heap_cell q3 0 _ rfl
  have d1 := heap_cell q3 1 _ rfl
  have d2 := heap_cell q3 2 _ rfl
  go_enter Tryz.func3, Tryz.ntmps3
  go_wp2_with fail
  generalize (w.alloc (.cells #[.slice a0 n0 c0, .slice a1 n1 c1, .slice a2 3 c2] 28)) = w0 at q3 hb0 d0 d1 d2 ⊢
  refine (S1.out w0 (hE.on hb0) (hW.on hb0)).mono ?_
  rintro e w1 ⟨rfl, hb1⟩
  have q3 := heap_on hb1 q3
  have hb1 := below_on hb0 hb1
  clear hb0
  clear d0 d1 d2
  have d0 := heap_cell q3 0 _ rfl
  have d1 := heap_cell q3 1 _ rfl
  have d2 := heap_cell q3 2 _ rfl
  go_wp2_with fail
  refine (S2.out w1 (hW.on hb1)).mono ?_
  rintro e w2 ⟨rfl, hb2⟩
  have q3 := heap_on hb2 q3
  have hb2 := below_on hb1 hb2
  clear hb1
  clear d0 d1 d2
  have d0 := heap_cell q3 0 _ rfl
  have d1 := heap_cell q3 1 _ rfl
  have d2 := heap_cell q3 2 _ rfl
  go_wp2_with fail
  refine (S3.out w2 (hW.on hb2)).mono ?_
  rintro e w3 ⟨rfl, hb3⟩
  have q3 := heap_on hb3 q3
  have hb3 := below_on hb2 hb3
  clear hb2
  clear d0 d1 d2
  go_wp2_with fail
  refine (telling_any w3 (hE.on hb3)).mono ?_
  rintro e w4 ⟨rfl, hb4⟩
  have q3 := heap_on hb4 q3
  have hb4 := below_on hb3 hb4
  clear hb3
  go_upto_region 6 with fail
  obtain ⟨w4, hw4⟩ : ∃ x, x = w4 := ⟨_, rfl⟩
  subst hw4
  go_cut [65] (fun s65 w' => s65 = .bool (decide (¬ ofP who side)) ∧ w4 = w')
  case first =>
    by_cases ha : who < 0
    · have fa : decide (who < 0) = true := decide_eq_true ha
      have HV := Lib.hid (show decide (¬ ofP who side) = true from decide_eq_true (fun h => by have h1 := h.1; have h2 := h.2.1; have h3 := h.2.2.1; have h4 := h.2.2.2; omega))
      go_wp2_with fail
      go_meet
      case rel => exact ⟨by rw [HV.out], rfl⟩
    · have fa : decide (who < 0) = false := decide_eq_false ha
      by_cases hb : 2 < who
      · have fb : decide (2 < who) = true := decide_eq_true hb
        have HV := Lib.hid (show decide (¬ ofP who side) = true from decide_eq_true (fun h => by have h1 := h.1; have h2 := h.2.1; have h3 := h.2.2.1; have h4 := h.2.2.2; omega))
        go_wp2_with fail
        go_meet
        case rel => exact ⟨by rw [HV.out], rfl⟩
      · have fb : decide (2 < who) = false := decide_eq_false hb
        by_cases hc : side < 0
        · have fc : decide (side < 0) = true := decide_eq_true hc
          have HV := Lib.hid (show decide (¬ ofP who side) = true from decide_eq_true (fun h => by have h1 := h.1; have h2 := h.2.1; have h3 := h.2.2.1; have h4 := h.2.2.2; omega))
          go_wp2_with fail
          go_meet
          case rel => exact ⟨by rw [HV.out], rfl⟩
        · have fc : decide (side < 0) = false := decide_eq_false hc
          by_cases hd : 1 < side
          · have fd : decide (1 < side) = true := decide_eq_true hd
            have HV := Lib.hid (show decide (¬ ofP who side) = true from decide_eq_true (fun h => by have h1 := h.1; have h2 := h.2.1; have h3 := h.2.2.1; have h4 := h.2.2.2; omega))
            go_wp2_with fail
            go_meet
            case rel => exact ⟨by rw [HV.out], rfl⟩
          · have fd : decide (1 < side) = false := decide_eq_false hd
            have HV := Lib.hid (show decide (¬ ofP who side) = false from decide_eq_false (fun hh => hh ⟨by omega, by omega, by omega, by omega⟩))
            go_wp2_with fail
            go_meet
            case rel => exact ⟨by rw [HV.out], rfl⟩
  case rest =>
    obtain ⟨rfl, rfl⟩ := hcut
    by_cases hP : ofP who side
    · rw [decide_eq_false (fun h => h hP)]
      have hoe := HOE.out
      rw [if_neg (fun h => h hP)] at hoe
      subst hoe
      clear HOE HOBN
      have d0 := heap_cell q3 0 _ rfl
      have d1 := heap_cell q3 1 _ rfl
      have d2 := heap_cell q3 2 _ rfl
      go_wp2_with fail
      refine (S3.out w4 (hW.on hb4)).mono ?_
      rintro e w5 ⟨rfl, hb5⟩
      have q3 := heap_on hb5 q3
      have hb5 := below_on hb4 hb5
      clear hb4
      clear d0 d1 d2
      have d0 := heap_cell q3 0 _ rfl
      have d1 := heap_cell q3 1 _ rfl
      have d2 := heap_cell q3 2 _ rfl
      go_upto_region 9 with fail
      clear d0 d1 d2
      go_cut [12, 13] (fun s12 s13 w' => s12 = .slice a0 n0 c0 ∧ s13 = .slice a1 n1 c1 ∧ Below w5.heap.size w5 w')
      case first =>
        have d0 := heap_cell q3 0 _ rfl
        have d1 := heap_cell q3 1 _ rfl
        have d2 := heap_cell q3 2 _ rfl
        go_region
        all_goals
          go_wp2_with fail
          go_meet
          case rel => exact ⟨rfl, rfl, (Below.refl _ _).drew⟩
      case rest =>
        obtain ⟨rfl, rfl, hbc⟩ := hcut
        obtain ⟨wS, hwS⟩ : ∃ x, x = wc := ⟨_, rfl⟩
        subst hwS
        have q3 := heap_on hbc q3
        have hbS := below_on hb5 hbc
        clear hb5 hbc
        have hE0 := hW.e0.on hbS
        have hE1 := hW.e1.on hbS
        have cp0 := hE0.cap
        have cp1 := hE1.cap
        obtain ⟨M, hM⟩ : ∃ M, min n0 n1 = M := ⟨_, rfl⟩
        have hmn : min (n0 : Int) (n1 : Int) = (M : Int) := by omega
        have hnM : n ≤ M := by omega
        have hM0 : M ≤ n0 := by omega
        have hM1 : M ≤ n1 := by omega
        have hk0 := fun w1 => run_take a0 n0 c0 n (by omega) w1
        have hk1 := fun w1 => run_take a1 n1 c1 n (by omega) w1
        have hq := fun w1 h1 h2 => equal_ents (W.b0.take n) (W.b1.take n) a0 a1 n c0 n c1 w1 (by rw [List.length_take]; omega) (by rw [List.length_take]; omega) h1 h2
        rw [decide_eq_true STK.out] at hq
        have HQ := Lib.hid hq
        clear hq STK
        have fgt : ¬ (M : Int) < (n : Int) := by omega
        have fg1 : decide ((M : Int) < (n : Int)) = false := decide_eq_false fgt
        have i1 : (n : Int) ≤ (c0 : Int) := by omega
        have i2 : (n : Int) ≤ (c1 : Int) := by omega
        go_upto_region 10 with fail
        go_cut [113] (fun s113 w' => s113 = .bool false ∧ Below wS.heap.size wS w')
        case first =>
          by_cases hlt : n < M
          · have l1 : (n : Int) < (M : Int) := by omega
            have l2 : decide ((n : Int) < (M : Int)) = true := decide_eq_true l1
            have l3 : (n : Int) < (n0 : Int) := by omega
            have l4 : (n : Int) < (n1 : Int) := by omega
            have hne := SAT.out (by omega) (by omega)
            obtain ⟨b0, o0, rfl, k0, hc0⟩ := hE0.cells (by omega)
            obtain ⟨b1, o1, rfl, k1, hc1⟩ := hE1.cells (by omega)
            obtain ⟨x0, x1⟩ := hc0 n (by omega)
            obtain ⟨y0, y1⟩ := hc1 n (by omega)
            clear hc0 hc1
            generalize entAt W.b0 n = ex at x0 x1 hne
            generalize entAt W.b1 n = ey at y0 y1 hne
            obtain ⟨xk, xv⟩ := ex
            obtain ⟨yk, yv⟩ := ey
            simp only at x0 x1 y0 y1
            by_cases e1 : xk = yk
            · subst e1
              have e2 : xv ≠ yv := fun h => hne (by rw [h])
              have t1 := str_ne e2
              have t2 : (xk == xk) = true := by simp
              clear hne
              have CQ := Lib.hid (fun d os => Calls.regrown_of (HQ.out (Sort.grow (redrawn wS d) os) ((hE0.take n).on (below_regrown wS d os)) ((hE1.take n).on (below_regrown wS d os))))
              have v0 := fun d os => cell_regrown x0 d os
              have v1 := fun d os => cell_regrown x1 d os
              have v2 := fun d os => cell_regrown y0 d os
              have v3 := fun d os => cell_regrown y1 d os
              refine wp_region_quiet_below (by kernel_rfl) (by kernel_rfl) ?_
              repeat (first | go_big_quiet_step (first | with_reducible exact CQ.out _ _) | quiet_step (first | with_reducible exact CQ.out _ _))
              refine wpQuiet_nil ?_
              intro _ hw'
              obtain ⟨⟨dq, osq⟩, hw''⟩ := hw'
              subst hw''
              have hbq := below_regrown wS dq osq
              generalize Sort.grow (redrawn wS dq) osq = w5 at hbq ⊢
              go_wp2_with fail
              go_meet
              case rel => exact ⟨rfl, hbq⟩
            · have t1 : (xk == yk) = false := by simp only [beq_eq_false_iff_ne, ne_eq]; exact e1
              clear hne
              have CQ := Lib.hid (fun d os => Calls.regrown_of (HQ.out (Sort.grow (redrawn wS d) os) ((hE0.take n).on (below_regrown wS d os)) ((hE1.take n).on (below_regrown wS d os))))
              have v0 := fun d os => cell_regrown x0 d os
              have v1 := fun d os => cell_regrown x1 d os
              have v2 := fun d os => cell_regrown y0 d os
              have v3 := fun d os => cell_regrown y1 d os
              refine wp_region_quiet_below (by kernel_rfl) (by kernel_rfl) ?_
              repeat (first | go_big_quiet_step (first | with_reducible exact CQ.out _ _) | quiet_step (first | with_reducible exact CQ.out _ _))
              refine wpQuiet_nil ?_
              intro _ hw'
              obtain ⟨⟨dq, osq⟩, hw''⟩ := hw'
              subst hw''
              have hbq := below_regrown wS dq osq
              generalize Sort.grow (redrawn wS dq) osq = w5 at hbq ⊢
              go_wp2_with fail
              go_meet
              case rel => exact ⟨rfl, hbq⟩
          · have l1 : ¬ (n : Int) < (M : Int) := by omega
            have l2 : decide ((n : Int) < (M : Int)) = false := decide_eq_false l1
            clear SAT
            have CQ := Lib.hid (fun d os => Calls.regrown_of (HQ.out (Sort.grow (redrawn wS d) os) ((hE0.take n).on (below_regrown wS d os)) ((hE1.take n).on (below_regrown wS d os))))
            refine wp_region_quiet_below (by kernel_rfl) (by kernel_rfl) ?_
            repeat (first | go_big_quiet_step (first | with_reducible exact CQ.out _ _) | quiet_step (first | with_reducible exact CQ.out _ _))
            refine wpQuiet_nil ?_
            intro _ hw'
            obtain ⟨⟨dq, osq⟩, hw''⟩ := hw'
            subst hw''
            have hbq := below_regrown wS dq osq
            generalize Sort.grow (redrawn wS dq) osq = w5 at hbq ⊢
            go_wp2_with fail
            go_meet
            case rel => exact ⟨rfl, hbq⟩
        case rest =>
          obtain ⟨rfl, hbc⟩ := hcut
          obtain ⟨w6, hw6⟩ : ∃ x, x = wc := ⟨_, rfl⟩
          subst hw6
          have q3 := heap_on hbc q3
          have hb6 := below_on hbS hbc
          clear hbS hbc hE0 hE1 HQ SAT hk0 hk1 fgt fg1 i1 i2 hmn hnM hM0 hM1 hM cp0 cp1
          have hob := HOB.out hP
          clear HOB
          obtain ⟨j, rfl⟩ : ∃ j : Nat, who = (j : Int) := ⟨who.toNat, by have := hP.1; omega⟩
          obtain ⟨s, rfl⟩ : ∃ s : Nat, side = (s : Int) := ⟨side.toNat, by have := hP.2.2.1; omega⟩
          have hj : j < 3 := by have := hP.2.1; omega
          have hs : s < 2 := by have := hP.2.2.2; omega
          have hj1 : (j : Int) < 3 := by omega
          have hs1 : (s : Int) < 2 := by omega
          rw [cliAt_of] at hob
          have hcj := hce _ (cliOf_mem (l := W.cs) (i := j) (by omega))
          obtain ⟨sa, sn, sc, hsv, hsn, hsE⟩ := side_ents (hW.on hb6) s
          have t0 := side_cell q3 hs
          rw [hsv] at t0
          have hgd := side_good hG (s : Int)
          have zc := hW.e2.cap
          have zm := hW.e2.max
          rw [hl3] at zc
          obtain ⟨bw, ow, rfl, kw, hcw⟩ := (hW.on hb6).e2.cells (by omega)
          obtain ⟨z1, z2, z3, _⟩ := hcw j (by omega)
          clear hcw
          generalize cliOf W.cs j = cc at z1 z2 z3 hob hcj
          obtain ⟨cn, ca, cb, cf⟩ := cc
          simp only at z1 z2 z3
          have n0c : 0 ≤ cn := cli_num hcj
          have HOBZ := Lib.hid hob
          clear hob
          have hbl := (Below.refl w6.heap.size w6).alloc (Nat.le_refl _) (.cells #[.int .i64 cn, .string ca, .string cb] 40)
          have q14 := heap_push w6 (.cells #[.int .i64 cn, .string ca, .string cb] 40)
          have d2 := heap_cell q3 2 _ rfl
          go_upto_region 16 with fail
          have q3 := heap_on hbl q3
          have hsE := hsE.on hbl
          have hb7 := below_on hb6 hbl
          clear hb6 hbl d2 t0 z1 z2 z3 kw
          generalize (w6.alloc (.cells #[.int .i64 cn, .string ca, .string cb] 40)) = w7 at q3 q14 hsE hb7 ⊢
          generalize w6.heap.size = B14 at q14 ⊢
          have t0 := side_cell q3 hs
          rw [hsv] at t0
          have e0 := heap_cell q14 0 _ rfl
          have e1 := heap_cell q14 1 _ rfl
          have e2 := heap_cell q14 2 _ rfl
          by_cases hz : zeroH (cn, ca, cb, cf)
          · have hob := HOBZ.out
            clear HOBZ
            obtain ⟨h1, h2, h3⟩ := hz
            simp only at h1 h2 h3
            subst h1
            subst h2
            subst h3
            rw [decide_eq_true (show isOf _ _ from .inl ⟨rfl, rfl, rfl⟩)] at hob
            subst hob
            go_wp2_with fail
            go_ret
            exact ⟨rfl, hb7⟩
          · have hu := HOBZ.out
            clear HOBZ
            rw [show (decide (isOf (sideL W (s : Int)) (cn, ca, cb, cf))) = decide (cn ≤ ((sideL W (s : Int)).length : Int) ∧ headIs ((sideL W (s : Int)).take cn.toNat) (cn, ca, cb, cf)) from decide_eq_decide.2 ⟨fun h => h.resolve_left hz, fun h => .inr h⟩] at hu
            have HU := Lib.hid hu
            clear hu
            go_upto_region 17 with fail
            go_cut [136] (fun s136 w' => s136 = .bool false ∧ w7 = w')
            case first =>
              by_cases h1 : cn = 0
              · subst h1
                by_cases h2 : ca = ⟨#[]⟩
                · subst h2
                  have h3 : cb ≠ ⟨#[]⟩ := fun h => hz ⟨rfl, rfl, h⟩
                  have x1 := bytes_some h3
                  go_wp2_with fail
                  go_meet
                  case rel => exact ⟨rfl, rfl⟩
                · have x1 := bytes_some h2
                  go_wp2_with fail
                  go_meet
                  case rel => exact ⟨rfl, rfl⟩
              · have x1 : (cn == 0) = false := by simp only [beq_eq_false_iff_ne, ne_eq]; exact h1
                go_wp2_with fail
                go_meet
                case rel => exact ⟨rfl, rfl⟩
            case rest =>
              obtain ⟨rfl, rfl⟩ := hcut
              by_cases hle : cn ≤ (sn : Int)
              · have l1 : decide (cn ≤ (sn : Int)) = true := decide_eq_true hle
                obtain ⟨k, rfl⟩ : ∃ k : Nat, cn = (k : Int) := ⟨cn.toNat, by omega⟩
                have hu := HU.out
                rw [Int.toNat_natCast] at hu
                clear HU
                have hcp := hsE.cap
                have htk := fun w1 => run_take sa sn sc k (by omega) w1
                have hlk : ((sideL W (s : Int)).take k).length = k := by rw [List.length_take]; omega
                have hh := fun w1 hF hS => headOf_ok I ((sideL W (s : Int)).take k) sa k sc w1 hF hlk hS (good_take hgd k)
                have hu2 : OB = decide (headLog ((sideL W (s : Int)).take k) = ca ∧ headMap ((sideL W (s : Int)).take k) = cb) := hu.trans (decide_eq_decide.2 ⟨fun h => ⟨h.2.2.1.symm, h.2.2.2.symm⟩, fun h => ⟨by omega, by show (k : Int) = _; rw [hlk], h.1.symm, h.2.symm⟩⟩)
                clear hu
                generalize headLog ((sideL W (s : Int)).take k) = hl at hh hu2
                generalize headMap ((sideL W (s : Int)).take k) = hm at hh hu2
                have HH := Lib.hid hh
                have HU := Lib.hid hu2
                clear hh hu2
                have hkk : (k : Int) ≤ (sc : Int) := by omega
                go_wp2_with fail
                refine (HH.out w7 (by rw [hb7.tape]; exact hF) (hsE.take k)).mono ?_
                rintro e w8 ⟨rfl, hb8⟩
                have q14 := heap_on hb8 q14
                have hb8 := below_on hb7 hb8
                clear hb7 t0 e0 e1 e2 HH htk
                have hbl := (Below.refl w8.heap.size w8).alloc (Nat.le_refl _) (.cells #[.int .i64 (k : Int), .string hl, .string hm] 40)
                have q17 := heap_push w8 (.cells #[.int .i64 (k : Int), .string hl, .string hm] 40)
                have q14 := heap_on hbl q14
                have hb9 := below_on hb8 hbl
                clear hb8 hbl
                go_upto_region 21 with fail
                generalize (w8.alloc (.cells #[.int .i64 (k : Int), .string hl, .string hm] 40)) = w9 at q14 q17 hb9 ⊢
                generalize w8.heap.size = B17 at q17 ⊢
                have e0 := heap_cell q14 0 _ rfl
                have e1 := heap_cell q14 1 _ rfl
                have e2 := heap_cell q14 2 _ rfl
                have f0 := heap_cell q17 0 _ rfl
                have f1 := heap_cell q17 1 _ rfl
                have f2 := heap_cell q17 2 _ rfl
                have kk : ((k : Int) == (k : Int)) = true := by simp
                have hu := HU.out
                by_cases h1 : hl = ca
                · by_cases h2 : hm = cb
                  · rw [decide_eq_true ⟨h1, h2⟩] at hu
                    subst hu
                    have x1 := str_eq h1
                    have x2 := str_eq h2
                    clear HU
                    go_wp2_with fail
                    go_ret
                    exact ⟨rfl, hb9⟩
                  · rw [decide_eq_false (fun h => h2 h.2)] at hu
                    subst hu
                    have x1 := str_eq h1
                    have x2 := str_ne h2
                    clear HU
                    go_wp2_with fail
                    go_ret
                    exact ⟨rfl, hb9⟩
                · rw [decide_eq_false (fun h => h1 h.1)] at hu
                  subst hu
                  have x1 := str_ne h1
                  clear HU
                  go_wp2_with fail
                  go_ret
                  exact ⟨rfl, hb9⟩
              · have l1 : decide (cn ≤ (sn : Int)) = false := decide_eq_false hle
                have hu := HU.out
                rw [decide_eq_false (fun h => hle (by have := h.1; omega))] at hu
                subst hu
                clear HU
                go_wp2_with fail
                go_ret
                exact ⟨rfl, hb7⟩
    · rw [decide_eq_true hP]
      have hoe := HOE.out
      rw [if_pos hP] at hoe
      have hob := HOBN.out hP
      subst hoe
      subst hob
      clear HOE HOB HOBN
      have d0 := heap_cell q3 0 _ rfl
      have d1 := heap_cell q3 1 _ rfl
      have d2 := heap_cell q3 2 _ rfl
      go_wp2_with fail
      refine (S3.out w4 (hW.on hb4)).mono ?_
      rintro e w5 ⟨rfl, hb5⟩
      have q3 := heap_on hb5 q3
      have hb5 := below_on hb4 hb5
      clear hb4
      clear d0 d1 d2
      have d0 := heap_cell q3 0 _ rfl
      have d1 := heap_cell q3 1 _ rfl
      have d2 := heap_cell q3 2 _ rfl
      go_upto_region 9 with fail
      clear d0 d1 d2
      go_cut [12, 13] (fun s12 s13 w' => s12 = .slice a0 n0 c0 ∧ s13 = .slice a1 n1 c1 ∧ Below w5.heap.size w5 w')
      case first =>
        have d0 := heap_cell q3 0 _ rfl
        have d1 := heap_cell q3 1 _ rfl
        have d2 := heap_cell q3 2 _ rfl
        go_region
        all_goals
          go_wp2_with fail
          go_meet
          case rel => exact ⟨rfl, rfl, (Below.refl _ _).drew⟩
      case rest =>
        obtain ⟨rfl, rfl, hbc⟩ := hcut
        obtain ⟨wS, hwS⟩ : ∃ x, x = wc := ⟨_, rfl⟩
        subst hwS
        have q3 := heap_on hbc q3
        have hbS := below_on hb5 hbc
        clear hb5 hbc
        have hE0 := hW.e0.on hbS
        have hE1 := hW.e1.on hbS
        have cp0 := hE0.cap
        have cp1 := hE1.cap
        obtain ⟨M, hM⟩ : ∃ M, min n0 n1 = M := ⟨_, rfl⟩
        have hmn : min (n0 : Int) (n1 : Int) = (M : Int) := by omega
        have hnM : n ≤ M := by omega
        have hM0 : M ≤ n0 := by omega
        have hM1 : M ≤ n1 := by omega
        have hk0 := fun w1 => run_take a0 n0 c0 n (by omega) w1
        have hk1 := fun w1 => run_take a1 n1 c1 n (by omega) w1
        have hq := fun w1 h1 h2 => equal_ents (W.b0.take n) (W.b1.take n) a0 a1 n c0 n c1 w1 (by rw [List.length_take]; omega) (by rw [List.length_take]; omega) h1 h2
        rw [decide_eq_true STK.out] at hq
        have HQ := Lib.hid hq
        clear hq STK
        have fgt : ¬ (M : Int) < (n : Int) := by omega
        have fg1 : decide ((M : Int) < (n : Int)) = false := decide_eq_false fgt
        have i1 : (n : Int) ≤ (c0 : Int) := by omega
        have i2 : (n : Int) ≤ (c1 : Int) := by omega
        go_upto_region 10 with fail
        go_cut [113] (fun s113 w' => s113 = .bool false ∧ Below wS.heap.size wS w')
        case first =>
          by_cases hlt : n < M
          · have l1 : (n : Int) < (M : Int) := by omega
            have l2 : decide ((n : Int) < (M : Int)) = true := decide_eq_true l1
            have l3 : (n : Int) < (n0 : Int) := by omega
            have l4 : (n : Int) < (n1 : Int) := by omega
            have hne := SAT.out (by omega) (by omega)
            obtain ⟨b0, o0, rfl, k0, hc0⟩ := hE0.cells (by omega)
            obtain ⟨b1, o1, rfl, k1, hc1⟩ := hE1.cells (by omega)
            obtain ⟨x0, x1⟩ := hc0 n (by omega)
            obtain ⟨y0, y1⟩ := hc1 n (by omega)
            clear hc0 hc1
            generalize entAt W.b0 n = ex at x0 x1 hne
            generalize entAt W.b1 n = ey at y0 y1 hne
            obtain ⟨xk, xv⟩ := ex
            obtain ⟨yk, yv⟩ := ey
            simp only at x0 x1 y0 y1
            by_cases e1 : xk = yk
            · subst e1
              have e2 : xv ≠ yv := fun h => hne (by rw [h])
              have t1 := str_ne e2
              have t2 : (xk == xk) = true := by simp
              clear hne
              have CQ := Lib.hid (fun d os => Calls.regrown_of (HQ.out (Sort.grow (redrawn wS d) os) ((hE0.take n).on (below_regrown wS d os)) ((hE1.take n).on (below_regrown wS d os))))
              have v0 := fun d os => cell_regrown x0 d os
              have v1 := fun d os => cell_regrown x1 d os
              have v2 := fun d os => cell_regrown y0 d os
              have v3 := fun d os => cell_regrown y1 d os
              refine wp_region_quiet_below (by kernel_rfl) (by kernel_rfl) ?_
              repeat (first | go_big_quiet_step (first | with_reducible exact CQ.out _ _) | quiet_step (first | with_reducible exact CQ.out _ _))
              refine wpQuiet_nil ?_
              intro _ hw'
              obtain ⟨⟨dq, osq⟩, hw''⟩ := hw'
              subst hw''
              have hbq := below_regrown wS dq osq
              generalize Sort.grow (redrawn wS dq) osq = w5 at hbq ⊢
              go_wp2_with fail
              go_meet
              case rel => exact ⟨rfl, hbq⟩
            · have t1 : (xk == yk) = false := by simp only [beq_eq_false_iff_ne, ne_eq]; exact e1
              clear hne
              have CQ := Lib.hid (fun d os => Calls.regrown_of (HQ.out (Sort.grow (redrawn wS d) os) ((hE0.take n).on (below_regrown wS d os)) ((hE1.take n).on (below_regrown wS d os))))
              have v0 := fun d os => cell_regrown x0 d os
              have v1 := fun d os => cell_regrown x1 d os
              have v2 := fun d os => cell_regrown y0 d os
              have v3 := fun d os => cell_regrown y1 d os
              refine wp_region_quiet_below (by kernel_rfl) (by kernel_rfl) ?_
              repeat (first | go_big_quiet_step (first | with_reducible exact CQ.out _ _) | quiet_step (first | with_reducible exact CQ.out _ _))
              refine wpQuiet_nil ?_
              intro _ hw'
              obtain ⟨⟨dq, osq⟩, hw''⟩ := hw'
              subst hw''
              have hbq := below_regrown wS dq osq
              generalize Sort.grow (redrawn wS dq) osq = w5 at hbq ⊢
              go_wp2_with fail
              go_meet
              case rel => exact ⟨rfl, hbq⟩
          · have l1 : ¬ (n : Int) < (M : Int) := by omega
            have l2 : decide ((n : Int) < (M : Int)) = false := decide_eq_false l1
            clear SAT
            have CQ := Lib.hid (fun d os => Calls.regrown_of (HQ.out (Sort.grow (redrawn wS d) os) ((hE0.take n).on (below_regrown wS d os)) ((hE1.take n).on (below_regrown wS d os))))
            refine wp_region_quiet_below (by kernel_rfl) (by kernel_rfl) ?_
            repeat (first | go_big_quiet_step (first | with_reducible exact CQ.out _ _) | quiet_step (first | with_reducible exact CQ.out _ _))
            refine wpQuiet_nil ?_
            intro _ hw'
            obtain ⟨⟨dq, osq⟩, hw''⟩ := hw'
            subst hw''
            have hbq := below_regrown wS dq osq
            generalize Sort.grow (redrawn wS dq) osq = w5 at hbq ⊢
            go_wp2_with fail
            go_meet
            case rel => exact ⟨rfl, hbq⟩
        case rest =>
          obtain ⟨rfl, hbc⟩ := hcut
          obtain ⟨w6, hw6⟩ : ∃ x, x = wc := ⟨_, rfl⟩
          subst hw6
          have q3 := heap_on hbc q3
          have hb6 := below_on hbS hbc
          clear hbS hbc hE0 hE1 HQ SAT hk0 hk1 fgt fg1 i1 i2 hmn hnM hM0 hM1 hM cp0 cp1
          go_wp2_with fail
          go_ret
          exact ⟨rfl, hb6⟩

theorem storySays_walk (I : Interp) (W : WB) (a0 : Option Addr) (n0 c0 : Nat) (a1 : Option Addr) (n1 c1 : Nat) (a2 : Option Addr) (n2 c2 : Nat) (who side : Int) (w : World) (hE : Tab w) (hF : I.told.answers w.tape) (hW : WAt w a0 n0 c0 a1 n1 c1 a2 n2 c2 W) (_hw0 : -9223372036854775808 ≤ who) (_hw1 : who ≤ 9223372036854775807) (_hs0 : -9223372036854775808 ≤ side) (_hs1 : side ≤ 9223372036854775807) :
    Calls Tryz.prog 3 #[.agg #[.slice a0 n0 c0, .slice a1 n1 c1, .slice a2 n2 c2], .int .i64 who, .int .i64 side] w fun e w' => e = .returned (.bool true) ∧ Below w.heap.size w w' := by
  by_cases hG : worldE W = 0
  · exact storySays_good I W a0 n0 c0 a1 n1 c1 a2 n2 c2 who side w hE hF hW hG
  · exact storySays_bad W a0 n0 c0 a1 n1 c1 a2 n2 c2 who side w hE hW _ rfl hG

end Go.Proofs.YtnemiobgmdpnmagGreatFmt
