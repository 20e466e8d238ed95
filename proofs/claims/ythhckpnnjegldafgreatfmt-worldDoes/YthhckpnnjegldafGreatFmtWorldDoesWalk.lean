/-
  WorldDoes' walk: of whatever worlds and happening it answers true.
-/
import Derived.Test.YthhckpnnjegldafGreatFmtLied
import Derived.Test.YthhckpnnjegldafGreatFmtRefHapAny
import Derived.Test.YthhckpnnjegldafGreatFmtRefFresh
import Derived.Deep.DeepCutAuto
import Derived.Deep.RegionHeld3
namespace Go.Proofs.YthhckpnnjegldafGreatFmt
open Go Go.RowKit Go.Kit Go.Extern.Stop Go.Stop Go.Extern

theorem hold6 {w5 cur w' : World} {b1 b2 : Nat} {u1 u2 u3 v1 v2 v3 : Value} (k1 : b1 < w5.heap.size) (k2 : b2 < w5.heap.size)
    (h : Below w5.heap.size w5 cur ∧ cur.cell? ⟨b1, 0, none⟩ = some u1 ∧ cur.cell? ⟨b1, 1, none⟩ = some u2 ∧ cur.cell? ⟨b1, 2, none⟩ = some u3 ∧ cur.cell? ⟨b2, 0, none⟩ = some v1 ∧ cur.cell? ⟨b2, 1, none⟩ = some v2 ∧ cur.cell? ⟨b2, 2, none⟩ = some v3) (hb : Below cur.heap.size cur w') :
    Below w5.heap.size w5 w' ∧ w'.cell? ⟨b1, 0, none⟩ = some u1 ∧ w'.cell? ⟨b1, 1, none⟩ = some u2 ∧ w'.cell? ⟨b1, 2, none⟩ = some u3 ∧ w'.cell? ⟨b2, 0, none⟩ = some v1 ∧ w'.cell? ⟨b2, 1, none⟩ = some v2 ∧ w'.cell? ⟨b2, 2, none⟩ = some v3 := by
  obtain ⟨h0, h1, h2, h3, h4, h5, h6⟩ := h
  have key : ∀ (b j : Nat) (u : Value), b < w5.heap.size → cur.cell? ⟨b, j, none⟩ = some u → w'.cell? ⟨b, j, none⟩ = some u := fun b j u hlt hu => by
    rw [hb.cell (Nat.lt_of_lt_of_le hlt h0.size)]; exact hu
  exact ⟨below_on h0 hb, key _ _ _ k1 h1, key _ _ _ k1 h2, key _ _ _ k1 h3, key _ _ _ k2 h4, key _ _ _ k2 h5, key _ _ _ k2 h6⟩
theorem same_new {w : World} {a0 : Option Addr} {n0 c0 : Nat} {a1 : Option Addr} {n1 c1 : Nat} {a2 : Option Addr} {n2 c2 : Nat} {a3 : Option Addr} {n3 c3 : Nat} {a4 : Option Addr} {n4 c4 : Nat} {a5 : Option Addr} {n5 c5 : Nat} (hN : WAt w a0 n0 c0 a1 n1 c1 a2 n2 c2 newW) (hR : WAt w a3 n3 c3 a4 n4 c4 a5 n5 c5 newW) :
    Calls Tryz.prog 10 #[.agg #[.slice a0 n0 c0, .slice a1 n1 c1, .slice a2 n2 c2], .agg #[.slice a3 n3 c3, .slice a4 n4 c4, .slice a5 n5 c5]] w fun e w' => e = .returned (.bool true) ∧ Below w.heap.size w w' := by
  have hs := sameWorld_any newW _ _ _ _ _ _ _ _ _ newW _ _ _ _ _ _ _ _ _ w hN hR
  rw [decide_eq_true (rfl : newW = newW)] at hs
  exact hs

set_option maxHeartbeats 16000000 in
set_option maxRecDepth 100000 in
theorem worldDoes_walk (I : Interp) (W : WB) (a0 : Option Addr) (n0 c0 : Nat) (a1 : Option Addr) (n1 c1 : Nat) (a2 : Option Addr) (n2 c2 : Nat) (x : HapB) (V : WB) (a3 : Option Addr) (n3 c3 : Nat) (a4 : Option Addr) (n4 c4 : Nat) (a5 : Option Addr) (n5 c5 : Nat) (w : World) (hE : Tab w) (hF : I.told.answers w.tape) (hW : WAt w a0 n0 c0 a1 n1 c1 a2 n2 c2 W) (hx : WideHap x) (hV : WAt w a3 n3 c3 a4 n4 c4 a5 n5 c5 V) :
    Calls Tryz.prog 3 #[.agg #[.slice a0 n0 c0, .slice a1 n1 c1, .slice a2 n2 c2], .agg #[.int .i64 x.kind, .int .i64 x.side, .int .i64 x.who, .int .i64 x.other, .int .i64 x.e.1, .string x.e.2], .agg #[.slice a3 n3 c3, .slice a4 n4 c4, .slice a5 n5 c5]] w fun e w' => e = .returned (.bool true) ∧ Below w.heap.size w w' := by
  have hd := fun w' hE hW => do_any W x a0 n0 c0 a1 n1 c1 a2 n2 c2 w' hE hW hx
  have hp := fun w' hF hW hG => happened_any I W a0 n0 c0 a1 n1 c1 a2 n2 c2 x w' hF hW hG hx
  have hdv : worldE W = 0 → doV W x = hapV W x := fun h => doV_hap h
  have hdb : worldE W ≠ 0 → doV W x = (zeroW, worldE W) := fun h => if_pos h
  have hck := fun w' hW => wcheck_any W a0 n0 c0 a1 n1 c1 a2 n2 c2 w' hW
  have hrk := fun w' hW => checkWorld_any W a0 n0 c0 a1 n1 c1 a2 n2 c2 w' hW
  have hsm := fun w' hW hV => wsame_any W a0 n0 c0 a1 n1 c1 a2 n2 c2 V a3 n3 c3 a4 n4 c4 a5 n5 c5 w' hW hV
  have hrs := fun w' hW hV => sameWorld_any W a0 n0 c0 a1 n1 c1 a2 n2 c2 V a3 n3 c3 a4 n4 c4 a5 n5 c5 w' hW hV
  generalize decide (W = V) = bs at hsm hrs
  obtain ⟨Y, z, hYZ⟩ : ∃ Y z, doV W x = (Y, z) := ⟨_, _, rfl⟩
  rw [hYZ] at hd hdv hdb
  simp only at hd
  have hpz : worldE W = 0 → hapV W x = (Y, z) := fun h => (hdv h).symm
  have hpe := fun (h : worldE W = 0) => h
  obtain ⟨zb, hzb⟩ : ∃ zb, worldE W = zb := ⟨_, rfl⟩
  have HZ := Lib.hid hzb
  rw [hzb] at hck hrk hdb
  clear hYZ hdv hzb hpe
  obtain ⟨xk, xs, xw, xo, xe, xv⟩ := x
  simp only at hd hp
  have HD := Lib.hid hd
  have HP := Lib.hid hp
  have HCK := Lib.hid hck
  have HRK := Lib.hid hrk
  have HSM := Lib.hid hsm
  have HRS := Lib.hid hrs
  have HPZ := Lib.hid hpz
  have HDB := Lib.hid hdb
  clear hd hp hck hrk hsm hrs hpz hdb hx
  obtain ⟨q3, q4, q5, _⟩ := boxes3 w (.cells #[.slice a0 n0 c0, .slice a1 n1 c1, .slice a2 n2 c2] 28) (.cells #[.int .i64 xk, .int .i64 xs, .int .i64 xw, .int .i64 xo, .int .i64 xe, .string xv] 32) (.cells #[.slice a3 n3 c3, .slice a4 n4 c4, .slice a5 n5 c5] 28)
  have hb0 := below3 w (.cells #[.slice a0 n0 c0, .slice a1 n1 c1, .slice a2 n2 c2] 28) (.cells #[.int .i64 xk, .int .i64 xs, .int .i64 xw, .int .i64 xo, .int .i64 xe, .string xv] 32) (.cells #[.slice a3 n3 c3, .slice a4 n4 c4, .slice a5 n5 c5] 28)
  have dq3_0 := heap_cell q3 0 _ rfl
  have dq3_1 := heap_cell q3 1 _ rfl
  have dq3_2 := heap_cell q3 2 _ rfl
  have dq4_0 := heap_cell q4 0 _ rfl
  have dq4_1 := heap_cell q4 1 _ rfl
  have dq4_2 := heap_cell q4 2 _ rfl
  have dq4_3 := heap_cell q4 3 _ rfl
  have dq4_4 := heap_cell q4 4 _ rfl
  have dq4_5 := heap_cell q4 5 _ rfl
  go_enter Tryz.func3, Tryz.ntmps3
  go_wp2_with fail
  generalize (((w.alloc (.cells #[.slice a0 n0 c0, .slice a1 n1 c1, .slice a2 n2 c2] 28)).alloc (.cells #[.int .i64 xk, .int .i64 xs, .int .i64 xw, .int .i64 xo, .int .i64 xe, .string xv] 32)).alloc (.cells #[.slice a3 n3 c3, .slice a4 n4 c4, .slice a5 n5 c5] 28)) = w0 at q3 q4 q5 hb0 dq3_0 dq3_1 dq3_2 dq4_0 dq4_1 dq4_2 dq4_3 dq4_4 dq4_5 ⊢
  refine (HD.out w0 (hE.on hb0) (hW.on hb0)).mono ?_
  rintro e w1 ⟨b0, m0, d0, b1, m1, d1, b2, m2, d2, rfl, hY, hb1⟩
  have q3 := heap_on hb1 q3
  have q4 := heap_on hb1 q4
  have q5 := heap_on hb1 q5
  have hb1 := below_on hb0 hb1
  clear hb0
  clear dq3_0 dq3_1 dq3_2 dq4_0 dq4_1 dq4_2 dq4_3 dq4_4 dq4_5
  have q3 := heap_old w1 (.cells #[.slice b0 m0 d0, .slice b1 m1 d1, .slice b2 m2 d2] 28) q3
  have q4 := heap_old w1 (.cells #[.slice b0 m0 d0, .slice b1 m1 d1, .slice b2 m2 d2] 28) q4
  have q5 := heap_old w1 (.cells #[.slice b0 m0 d0, .slice b1 m1 d1, .slice b2 m2 d2] 28) q5
  have q7 := heap_push w1 (.cells #[.slice b0 m0 d0, .slice b1 m1 d1, .slice b2 m2 d2] 28)
  have hY := hY.on ((Below.refl _ w1).alloc (Nat.le_refl _) (.cells #[.slice b0 m0 d0, .slice b1 m1 d1, .slice b2 m2 d2] 28))
  have hb2 := hb1.alloc hb1.size (.cells #[.slice b0 m0 d0, .slice b1 m1 d1, .slice b2 m2 d2] 28)
  clear hb1
  have dq3_0 := heap_cell q3 0 _ rfl
  have dq3_1 := heap_cell q3 1 _ rfl
  have dq3_2 := heap_cell q3 2 _ rfl
  go_wp2_with fail
  generalize (w1.alloc (.cells #[.slice b0 m0 d0, .slice b1 m1 d1, .slice b2 m2 d2] 28)) = w2 at q3 q4 q5 q7 dq3_0 dq3_1 dq3_2 hY hb2 ⊢
  generalize w1.heap.size = B7 at q7 ⊢
  refine (HRK.out w2 (hW.on hb2)).mono ?_
  rintro e w3 ⟨rfl, hb3⟩
  have q3 := heap_on hb3 q3
  have q4 := heap_on hb3 q4
  have q5 := heap_on hb3 q5
  have q7 := heap_on hb3 q7
  have hY := hY.on hb3
  have hb3 := below_on hb2 hb3
  clear hb2
  clear dq3_0 dq3_1 dq3_2
  go_upto_region 3 with fail
  obtain ⟨w5, hw5⟩ : ∃ x, x = w3 := ⟨_, rfl⟩
  subst hw5
  have k1 := (Array.getElem?_eq_some_iff.1 q3).1
  have k2 := (Array.getElem?_eq_some_iff.1 q5).1
  go_cut [42] (fun r w' => r = .bool false ∧ Below w5.heap.size w5 w')
  case first =>
    have hS0 : Below w5.heap.size w5 w5.drew ∧ w5.drew.cell? ⟨w.heap.size, 0, none⟩ = some (.slice a0 n0 c0) ∧ w5.drew.cell? ⟨w.heap.size, 1, none⟩ = some (.slice a1 n1 c1) ∧ w5.drew.cell? ⟨w.heap.size, 2, none⟩ = some (.slice a2 n2 c2) ∧ w5.drew.cell? ⟨w.heap.size + 1 + 1, 0, none⟩ = some (.slice a3 n3 c3) ∧ w5.drew.cell? ⟨w.heap.size + 1 + 1, 1, none⟩ = some (.slice a4 n4 c4) ∧ w5.drew.cell? ⟨w.heap.size + 1 + 1, 2, none⟩ = some (.slice a5 n5 c5) := ⟨(Below.refl _ _).drew, heap_cell q3 0 _ rfl, heap_cell q3 1 _ rfl, heap_cell q3 2 _ rfl, heap_cell q5 0 _ rfl, heap_cell q5 1 _ rfl, heap_cell q5 2 _ rfl⟩
    have HL := Lib.hid (fun w' (h : Below w5.heap.size w5 w' ∧ w'.cell? ⟨w.heap.size, 0, none⟩ = some (.slice a0 n0 c0) ∧ w'.cell? ⟨w.heap.size, 1, none⟩ = some (.slice a1 n1 c1) ∧ w'.cell? ⟨w.heap.size, 2, none⟩ = some (.slice a2 n2 c2) ∧ w'.cell? ⟨w.heap.size + 1 + 1, 0, none⟩ = some (.slice a3 n3 c3) ∧ w'.cell? ⟨w.heap.size + 1 + 1, 1, none⟩ = some (.slice a4 n4 c4) ∧ w'.cell? ⟨w.heap.size + 1 + 1, 2, none⟩ = some (.slice a5 n5 c5)) => below_on hb3 h.1)
    have HB := Lib.hid (fun w' (h : Below w5.heap.size w5 w' ∧ w'.cell? ⟨w.heap.size, 0, none⟩ = some (.slice a0 n0 c0) ∧ w'.cell? ⟨w.heap.size, 1, none⟩ = some (.slice a1 n1 c1) ∧ w'.cell? ⟨w.heap.size, 2, none⟩ = some (.slice a2 n2 c2) ∧ w'.cell? ⟨w.heap.size + 1 + 1, 0, none⟩ = some (.slice a3 n3 c3) ∧ w'.cell? ⟨w.heap.size + 1 + 1, 1, none⟩ = some (.slice a4 n4 c4) ∧ w'.cell? ⟨w.heap.size + 1 + 1, 2, none⟩ = some (.slice a5 n5 c5)) => h.1)
    have C1 := Lib.hid (fun w' (h : Below w5.heap.size w5 w' ∧ w'.cell? ⟨w.heap.size, 0, none⟩ = some (.slice a0 n0 c0) ∧ w'.cell? ⟨w.heap.size, 1, none⟩ = some (.slice a1 n1 c1) ∧ w'.cell? ⟨w.heap.size, 2, none⟩ = some (.slice a2 n2 c2) ∧ w'.cell? ⟨w.heap.size + 1 + 1, 0, none⟩ = some (.slice a3 n3 c3) ∧ w'.cell? ⟨w.heap.size + 1 + 1, 1, none⟩ = some (.slice a4 n4 c4) ∧ w'.cell? ⟨w.heap.size + 1 + 1, 2, none⟩ = some (.slice a5 n5 c5)) => lied_any w' (hE.on (HL.out w' h)))
    have C2 := Lib.hid (fun w' (h : Below w5.heap.size w5 w' ∧ w'.cell? ⟨w.heap.size, 0, none⟩ = some (.slice a0 n0 c0) ∧ w'.cell? ⟨w.heap.size, 1, none⟩ = some (.slice a1 n1 c1) ∧ w'.cell? ⟨w.heap.size, 2, none⟩ = some (.slice a2 n2 c2) ∧ w'.cell? ⟨w.heap.size + 1 + 1, 0, none⟩ = some (.slice a3 n3 c3) ∧ w'.cell? ⟨w.heap.size + 1 + 1, 1, none⟩ = some (.slice a4 n4 c4) ∧ w'.cell? ⟨w.heap.size + 1 + 1, 2, none⟩ = some (.slice a5 n5 c5)) => HCK.out w' (hW.on (HL.out w' h)))
    have C3 := Lib.hid (fun w' (h : Below w5.heap.size w5 w' ∧ w'.cell? ⟨w.heap.size, 0, none⟩ = some (.slice a0 n0 c0) ∧ w'.cell? ⟨w.heap.size, 1, none⟩ = some (.slice a1 n1 c1) ∧ w'.cell? ⟨w.heap.size, 2, none⟩ = some (.slice a2 n2 c2) ∧ w'.cell? ⟨w.heap.size + 1 + 1, 0, none⟩ = some (.slice a3 n3 c3) ∧ w'.cell? ⟨w.heap.size + 1 + 1, 1, none⟩ = some (.slice a4 n4 c4) ∧ w'.cell? ⟨w.heap.size + 1 + 1, 2, none⟩ = some (.slice a5 n5 c5)) => HSM.out w' (hW.on (HL.out w' h)) (hV.on (HL.out w' h)))
    have C4 := Lib.hid (fun w' (h : Below w5.heap.size w5 w' ∧ w'.cell? ⟨w.heap.size, 0, none⟩ = some (.slice a0 n0 c0) ∧ w'.cell? ⟨w.heap.size, 1, none⟩ = some (.slice a1 n1 c1) ∧ w'.cell? ⟨w.heap.size, 2, none⟩ = some (.slice a2 n2 c2) ∧ w'.cell? ⟨w.heap.size + 1 + 1, 0, none⟩ = some (.slice a3 n3 c3) ∧ w'.cell? ⟨w.heap.size + 1 + 1, 1, none⟩ = some (.slice a4 n4 c4) ∧ w'.cell? ⟨w.heap.size + 1 + 1, 2, none⟩ = some (.slice a5 n5 c5)) => HRS.out w' (hW.on (HL.out w' h)) (hV.on (HL.out w' h)))
    clear HD HP HCK HRK HSM HRS HPZ HDB HZ
    have e1 : (zb == zb) = true := by simp
    have e2 : (bs == bs) = true := by simp
    have e3 : (zb != zb) = false := by simp
    have e4 : (bs != bs) = false := by simp
    go_region_held3 (fun w' => Below w5.heap.size w5 w' ∧ w'.cell? ⟨w.heap.size, 0, none⟩ = some (.slice a0 n0 c0) ∧ w'.cell? ⟨w.heap.size, 1, none⟩ = some (.slice a1 n1 c1) ∧ w'.cell? ⟨w.heap.size, 2, none⟩ = some (.slice a2 n2 c2) ∧ w'.cell? ⟨w.heap.size + 1 + 1, 0, none⟩ = some (.slice a3 n3 c3) ∧ w'.cell? ⟨w.heap.size + 1 + 1, 1, none⟩ = some (.slice a4 n4 c4) ∧ w'.cell? ⟨w.heap.size + 1 + 1, 2, none⟩ = some (.slice a5 n5 c5))
      (first | assumption | exact hold6 k1 k2 (by assumption) (by assumption))
      (first
        | (go_at_call 7; (with_reducible refine (C1.out _ (by assumption)).mono ?_); rintro e w' ⟨rfl, hb⟩)
        | (go_at_call 8; (with_reducible refine (C2.out _ (by assumption)).mono ?_); rintro e w' ⟨rfl, hb⟩)
        | (go_at_call 9; (with_reducible refine (C3.out _ (by assumption)).mono ?_); rintro e w' ⟨rfl, hb⟩)
        | (go_at_call 11; (with_reducible refine (new_any _).mono ?_); rintro e w' ⟨x0, y0, u0, x1, y1, u1, x2, y2, u2, rfl, hN, hb⟩; try have hR := hR.on hb)
        | (go_at_call 12; (with_reducible refine (fresh_any _).mono ?_); rintro e w' ⟨x3, y3, u3, x4, y4, u4, x5, y5, u5, rfl, hR, hb⟩; try have hN := hN.on hb)
        | (go_at_call 10; (with_reducible refine (C4.out _ (by assumption)).mono ?_); rintro e w' ⟨rfl, hb⟩)
        | (go_at_call 10; (with_reducible refine (same_new hN hR).mono ?_); rintro e w' ⟨rfl, hb⟩))
    all_goals
      go_wp2_with fail
      go_meet
      case rel => exact ⟨rfl, HB.out _ (by assumption)⟩
  case rest =>
    obtain ⟨rfl, hbc⟩ := hcut
    obtain ⟨w6, hw6⟩ : ∃ x, x = wc := ⟨_, rfl⟩
    subst hw6
    have q3 := heap_on hbc q3
    have q4 := heap_on hbc q4
    have q5 := heap_on hbc q5
    have q7 := heap_on hbc q7
    have hY := hY.on hbc
    have hb6 := below_on hb3 hbc
    clear hb3 hbc HCK HRK HSM HRS k1 k2
    by_cases hz : zb = 0
    · subst hz
      have hpz := HPZ.out HZ.out
      have hp := fun w1 hF hW => HP.out w1 hF hW HZ.out
      rw [hpz] at hp
      have HQ := Lib.hid hp
      clear hp hpz HPZ HP HDB HD
      have zz : (z == z) = true := by simp
      have dq3_0 := heap_cell q3 0 _ rfl
      have dq3_1 := heap_cell q3 1 _ rfl
      have dq3_2 := heap_cell q3 2 _ rfl
      have dq4_0 := heap_cell q4 0 _ rfl
      have dq4_1 := heap_cell q4 1 _ rfl
      have dq4_2 := heap_cell q4 2 _ rfl
      have dq4_3 := heap_cell q4 3 _ rfl
      have dq4_4 := heap_cell q4 4 _ rfl
      have dq4_5 := heap_cell q4 5 _ rfl
      go_wp2_with fail
      refine (HQ.out w6 (by rw [(hb6).tape]; exact hF) (hW.on hb6)).mono ?_
      rintro e w4 ⟨e0, f0, g0, e1, f1, g1, e2, f2, g2, rfl, hU, _, _, _, hb4⟩
      have q3 := heap_on hb4 q3
      have q4 := heap_on hb4 q4
      have q7 := heap_on hb4 q7
      have hY := hY.on hb4
      have hb4 := below_on hb6 hb4
      clear hb6
      clear dq3_0 dq3_1 dq3_2 dq4_0 dq4_1 dq4_2 dq4_3 dq4_4 dq4_5
      have q3 := heap_old w4 (.cells #[.slice e0 f0 g0, .slice e1 f1 g1, .slice e2 f2 g2] 28) q3
      have q4 := heap_old w4 (.cells #[.slice e0 f0 g0, .slice e1 f1 g1, .slice e2 f2 g2] 28) q4
      have q7 := heap_old w4 (.cells #[.slice e0 f0 g0, .slice e1 f1 g1, .slice e2 f2 g2] 28) q7
      have q10 := heap_push w4 (.cells #[.slice e0 f0 g0, .slice e1 f1 g1, .slice e2 f2 g2] 28)
      have hY := hY.on ((Below.refl _ w4).alloc (Nat.le_refl _) (.cells #[.slice e0 f0 g0, .slice e1 f1 g1, .slice e2 f2 g2] 28))
      have hU := hU.on ((Below.refl _ w4).alloc (Nat.le_refl _) (.cells #[.slice e0 f0 g0, .slice e1 f1 g1, .slice e2 f2 g2] 28))
      have hb5 := hb4.alloc hb4.size (.cells #[.slice e0 f0 g0, .slice e1 f1 g1, .slice e2 f2 g2] 28)
      clear hb4
      have dq7_0 := heap_cell q7 0 _ rfl
      have dq7_1 := heap_cell q7 1 _ rfl
      have dq7_2 := heap_cell q7 2 _ rfl
      have dq10_0 := heap_cell q10 0 _ rfl
      have dq10_1 := heap_cell q10 1 _ rfl
      have dq10_2 := heap_cell q10 2 _ rfl
      go_wp2_with fail
      generalize (w4.alloc (.cells #[.slice e0 f0 g0, .slice e1 f1 g1, .slice e2 f2 g2] 28)) = w5 at q3 q4 q7 q10 dq7_0 dq7_1 dq7_2 dq10_0 dq10_1 dq10_2 hY hU hb5 ⊢
      generalize w4.heap.size = B10 at q10 dq10_0 dq10_1 dq10_2 ⊢
      have hs := sameWorld_any Y _ _ _ _ _ _ _ _ _ Y _ _ _ _ _ _ _ _ _ w5 hY hU
      rw [decide_eq_true (rfl : Y = Y)] at hs
      refine hs.mono ?_
      rintro e w9 ⟨rfl, hb9⟩
      have hb9 := below_on hb5 hb9
      clear dq7_0 dq7_1 dq7_2 dq10_0 dq10_1 dq10_2
      go_wp2_with fail
      go_ret
      exact ⟨rfl, hb9⟩
    · have hdb := HDB.out hz
      obtain ⟨rfl, rfl⟩ : Y = zeroW ∧ z = zb := by injection hdb with h1 h2; exact ⟨h1, h2⟩
      have zf1 : (z == 0) = false := by simp only [beq_eq_false_iff_ne, ne_eq]; exact hz
      have zf3 : (z != 0) = true := by simp only [bne, zf1]; rfl
      have zz : (z == z) = true := by simp
      clear hz hdb HPZ HDB HP HD
      have dq7_0 := heap_cell q7 0 _ rfl
      have dq7_1 := heap_cell q7 1 _ rfl
      have dq7_2 := heap_cell q7 2 _ rfl
      go_wp2_with fail
      have hs := sameWorld_any zeroW _ _ _ _ _ _ _ _ _ zeroW _ _ _ _ _ _ _ _ _ w6 hY (wat_zero _)
      rw [decide_eq_true (rfl : zeroW = zeroW)] at hs
      refine hs.mono ?_
      rintro e w9 ⟨rfl, hb9⟩
      have hb9 := below_on hb6 hb9
      clear dq7_0 dq7_1 dq7_2
      go_wp2_with fail
      go_ret
      exact ⟨rfl, hb9⟩
end Go.Proofs.YthhckpnnjegldafGreatFmt
