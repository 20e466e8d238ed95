/-
  WorldRuns' walk: of whatever world and script it answers true.
-/
import Derived.Test.YthhckpnnjegldafGreatFmtLied
import Derived.Test.YthhckpnnjegldafGreatFmtRefHapAny
import Derived.Test.YthhckpnnjegldafGreatFmtNumbers
import Derived.Deep.DeepCutAuto
namespace Go.Proofs.YthhckpnnjegldafGreatFmt
open Go Go.RowKit Go.Kit Go.Extern.Stop Go.Stop Go.Extern

theorem infoErrno : (Tryz.prog.info? 33).map (fun i => (i.zero, i.size, i.bytes)) = some (some (.int .i64 0), 1, 8) := by kernel_rfl

set_option maxHeartbeats 16000000 in
set_option maxRecDepth 100000 in
theorem worldRuns_bad (W : WB) (a0 : Option Addr) (n0 c0 : Nat) (a1 : Option Addr) (n1 c1 : Nat) (a2 : Option Addr) (n2 c2 : Nat) (l : List HapB) (a : Option Addr) (k c : Nat) (w : World) (hE : Tab w) (hW : WAt w a0 n0 c0 a1 n1 c1 a2 n2 c2 W) (hk : l.length = k) (hL : HapsAt w a c l) (z : Int) (hz : runE W l = z) (h0 : z ≠ 0) :
    Calls Tryz.prog 4 #[.agg #[.slice a0 n0 c0, .slice a1 n1 c1, .slice a2 n2 c2], .slice a k c] w fun e w' => e = .returned (.bool true) ∧ Below w.heap.size w w' := by
  have hcap := hL.cap
  have hmax := hL.max
  have hr := fun w' hE hW hL => run_any W l a0 n0 c0 a1 n1 c1 a2 n2 c2 a k c w' hE hW hk hL
  have hck := fun w' hW => checkWorld_any W a0 n0 c0 a1 n1 c1 a2 n2 c2 w' hW
  have e1 : runW W l = zeroW := if_neg (by rw [hz]; exact h0)
  have e2 : runS W l = [] := if_neg (by rw [hz]; exact h0)
  have HC : (worldE W = z) ∨ (worldE W = 0 ∧ z = 2 ∧ 80 < k) := by
    unfold runE at hz
    by_cases hw : worldE W = 0
    · rw [if_neg (fun h => h hw)] at hz
      by_cases h8 : 80 < l.length
      · rw [if_pos h8] at hz; exact .inr ⟨hw, hz.symm, by omega⟩
      · rw [if_neg h8] at hz; exact absurd hz.symm h0
    · rw [if_pos hw] at hz; exact .inl hz
  have HC := Lib.hid HC
  rw [hz, e1, e2] at hr
  simp only [List.length_nil] at hr
  generalize worldE W = zw at hck HC
  clear hz e1 e2
  have HR := Lib.hid hr
  have HK := Lib.hid hck
  clear hr hck
  have q2 := heap_push w (.cells #[.slice a0 n0 c0, .slice a1 n1 c1, .slice a2 n2 c2] 28)
  have hb0 : Below w.heap.size w (w.alloc (.cells #[.slice a0 n0 c0, .slice a1 n1 c1, .slice a2 n2 c2] 28)) := (Below.refl _ _).alloc (Nat.le_refl _) _
  have dq2_0 := heap_cell q2 0 _ rfl
  have dq2_1 := heap_cell q2 1 _ rfl
  have dq2_2 := heap_cell q2 2 _ rfl
  go_enter Tryz.func4, Tryz.ntmps4
  go_wp2_with fail
  generalize (w.alloc (.cells #[.slice a0 n0 c0, .slice a1 n1 c1, .slice a2 n2 c2] 28)) = w0 at q2 hb0 dq2_0 dq2_1 dq2_2 ⊢
  refine (HR.out w0 (hE.on hb0) (hW.on hb0) (hL.on hb0)).mono ?_
  rintro e w1 ⟨x0, y0, z0, x1, y1, z1, x2, y2, z2, x3, z3, rfl, hY, hI, hb1⟩
  have q2 := heap_on hb1 q2
  have hb1 := below_on hb0 hb1
  clear hb0
  clear dq2_0 dq2_1 dq2_2
  have hlt5 := (Array.getElem?_eq_some_iff.1 q2).1
  have q2 := heap_old w1 (.cells #[.slice x0 y0 z0, .slice x1 y1 z1, .slice x2 y2 z2] 28) q2
  have q5 := heap_push w1 (.cells #[.slice x0 y0 z0, .slice x1 y1 z1, .slice x2 y2 z2] 28)
  have hY := hY.on ((Below.refl _ w1).alloc (Nat.le_refl _) (.cells #[.slice x0 y0 z0, .slice x1 y1 z1, .slice x2 y2 z2] 28))
  have hI := hI.on ((Below.refl _ w1).alloc (Nat.le_refl _) (.cells #[.slice x0 y0 z0, .slice x1 y1 z1, .slice x2 y2 z2] 28))
  have hb2 := hb1.alloc hb1.size (.cells #[.slice x0 y0 z0, .slice x1 y1 z1, .slice x2 y2 z2] 28)
  clear hb1
  have dq2_0 := heap_cell q2 0 _ rfl
  have dq2_1 := heap_cell q2 1 _ rfl
  have dq2_2 := heap_cell q2 2 _ rfl
  go_wp2_with fail
  generalize (w1.alloc (.cells #[.slice x0 y0 z0, .slice x1 y1 z1, .slice x2 y2 z2] 28)) = w2 at q2 q5 dq2_0 dq2_1 dq2_2 hY hI hb2 ⊢
  generalize w1.heap.size = B5 at q5 hlt5 ⊢
  refine (HK.out w2 (hW.on hb2)).mono ?_
  rintro e w3 ⟨rfl, hb3⟩
  have q2 := heap_on hb3 q2
  have q5 := heap_on hb3 q5
  have hY := hY.on hb3
  have hI := hI.on hb3
  have hb3 := below_on hb2 hb3
  clear hb2
  clear dq2_0 dq2_1 dq2_2
  have zf1 : (z == 0) = false := by simp only [beq_eq_false_iff_ne, ne_eq]; exact h0
  have zf3 : (z != 0) = true := by simp only [bne, zf1]; rfl
  have zz : (z == z) = true := by simp
  rcases HC.out with rfl | ⟨rfl, rfl, h8⟩
  · clear h0 HC
    go_wp2_with fail
    refine (lied_any w3 (hE.on hb3)).mono ?_
    rintro e u1 ⟨rfl, hc1⟩
    have q5 := heap_on hc1 q5
    have hY := hY.on hc1
    have hc1 := below_on hb3 hc1
    go_wp2_with fail
    refine (lied_any u1 (hE.on hc1)).mono ?_
    rintro e u2 ⟨rfl, hc2⟩
    have q5 := heap_on hc2 q5
    have hY := hY.on hc2
    have hc2 := below_on hc1 hc2
    clear hc1
    have dq5_0 := heap_cell q5 0 _ rfl
    have dq5_1 := heap_cell q5 1 _ rfl
    have dq5_2 := heap_cell q5 2 _ rfl
    go_wp2_with fail
    have hs := sameWorld_any zeroW _ _ _ _ _ _ _ _ _ zeroW _ _ _ _ _ _ _ _ _ u2 hY (wat_zero _)
    rw [decide_eq_true (rfl : zeroW = zeroW)] at hs
    refine hs.mono ?_
    rintro e u3 ⟨rfl, hc3⟩
    have hc3 := below_on hc2 hc3
    go_wp2_with fail
    go_ret
    exact ⟨rfl, hc3⟩
  · have h80 : (80 : Int) < (k : Int) := by omega
    have h81 : decide ((80 : Int) < (k : Int)) = true := decide_eq_true h80
    have h82 : decide (80 < k) = true := decide_eq_true h8
    clear h0 HC zf1 zf3 zz h8
    go_wp2_with fail
    refine (lied_any w3 (hE.on hb3)).mono ?_
    rintro e u1 ⟨rfl, hc1⟩
    have q5 := heap_on hc1 q5
    have hY := hY.on hc1
    have hc1 := below_on hb3 hc1
    go_wp2_with fail
    refine (lied_any u1 (hE.on hc1)).mono ?_
    rintro e u2 ⟨rfl, hc2⟩
    have q5 := heap_on hc2 q5
    have hY := hY.on hc2
    have hc2 := below_on hc1 hc2
    clear hc1
    have dq5_0 := heap_cell q5 0 _ rfl
    have dq5_1 := heap_cell q5 1 _ rfl
    have dq5_2 := heap_cell q5 2 _ rfl
    go_wp2_with fail
    have hs := sameWorld_any zeroW _ _ _ _ _ _ _ _ _ zeroW _ _ _ _ _ _ _ _ _ u2 hY (wat_zero _)
    rw [decide_eq_true (rfl : zeroW = zeroW)] at hs
    refine hs.mono ?_
    rintro e u3 ⟨rfl, hc3⟩
    have hc3 := below_on hc2 hc3
    go_wp2_with fail
    go_ret
    exact ⟨rfl, hc3⟩

set_option maxHeartbeats 16000000 in
set_option maxRecDepth 100000 in
theorem worldRuns_good (I : Interp) (W : WB) (a0 : Option Addr) (n0 c0 : Nat) (a1 : Option Addr) (n1 c1 : Nat) (a2 : Option Addr) (n2 c2 : Nat) (l : List HapB) (a : Option Addr) (k c : Nat) (w : World) (hE : Tab w) (hF : I.told.answers w.tape) (hW : WAt w a0 n0 c0 a1 n1 c1 a2 n2 c2 W) (hk : l.length = k) (hL : HapsAt w a c l) (hG : worldE W = 0) (h80 : l.length ≤ 80) :
    Calls Tryz.prog 4 #[.agg #[.slice a0 n0 c0, .slice a1 n1 c1, .slice a2 n2 c2], .slice a k c] w fun e w' => e = .returned (.bool true) ∧ Below w.heap.size w w' := by
  have hcap := hL.cap
  have hmax := hL.max
  have hr := fun w' hE hW hL => run_any W l a0 n0 c0 a1 n1 c1 a2 n2 c2 a k c w' hE hW hk hL
  have hck := fun w' hW => checkWorld_any W a0 n0 c0 a1 n1 c1 a2 n2 c2 w' hW
  have e0 := run_good hG h80
  have e1 : runW W l = playW W l := if_pos e0
  have e2 : runS W l = saidL W l := if_pos e0
  rw [e0, e1, e2, saidL_len, hk] at hr
  rw [hG] at hck
  clear e0 e1 e2
  obtain ⟨i0, hi0, hz0, hz1, hz2⟩ := info_parts infoErrno
  have HR := Lib.hid hr
  have HK := Lib.hid hck
  clear hr hck
  have q2 := heap_push w (.cells #[.slice a0 n0 c0, .slice a1 n1 c1, .slice a2 n2 c2] 28)
  have hb0 : Below w.heap.size w (w.alloc (.cells #[.slice a0 n0 c0, .slice a1 n1 c1, .slice a2 n2 c2] 28)) := (Below.refl _ _).alloc (Nat.le_refl _) _
  have dq2_0 := heap_cell q2 0 _ rfl
  have dq2_1 := heap_cell q2 1 _ rfl
  have dq2_2 := heap_cell q2 2 _ rfl
  go_enter Tryz.func4, Tryz.ntmps4
  go_wp2_with fail
  generalize (w.alloc (.cells #[.slice a0 n0 c0, .slice a1 n1 c1, .slice a2 n2 c2] 28)) = w0 at q2 hb0 dq2_0 dq2_1 dq2_2 ⊢
  refine (HR.out w0 (hE.on hb0) (hW.on hb0) (hL.on hb0)).mono ?_
  rintro e w1 ⟨x0, y0, z0, x1, y1, z1, x2, y2, z2, x3, z3, rfl, hY, hI, hb1⟩
  have q2 := heap_on hb1 q2
  have hb1 := below_on hb0 hb1
  clear hb0
  clear dq2_0 dq2_1 dq2_2
  have hlt5 := (Array.getElem?_eq_some_iff.1 q2).1
  have q2 := heap_old w1 (.cells #[.slice x0 y0 z0, .slice x1 y1 z1, .slice x2 y2 z2] 28) q2
  have q5 := heap_push w1 (.cells #[.slice x0 y0 z0, .slice x1 y1 z1, .slice x2 y2 z2] 28)
  have hY := hY.on ((Below.refl _ w1).alloc (Nat.le_refl _) (.cells #[.slice x0 y0 z0, .slice x1 y1 z1, .slice x2 y2 z2] 28))
  have hI := hI.on ((Below.refl _ w1).alloc (Nat.le_refl _) (.cells #[.slice x0 y0 z0, .slice x1 y1 z1, .slice x2 y2 z2] 28))
  have hb2 := hb1.alloc hb1.size (.cells #[.slice x0 y0 z0, .slice x1 y1 z1, .slice x2 y2 z2] 28)
  clear hb1
  have dq2_0 := heap_cell q2 0 _ rfl
  have dq2_1 := heap_cell q2 1 _ rfl
  have dq2_2 := heap_cell q2 2 _ rfl
  go_wp2_with fail
  generalize (w1.alloc (.cells #[.slice x0 y0 z0, .slice x1 y1 z1, .slice x2 y2 z2] 28)) = w2 at q2 q5 dq2_0 dq2_1 dq2_2 hY hI hb2 ⊢
  generalize w1.heap.size = B5 at q5 hlt5 ⊢
  refine (HK.out w2 (hW.on hb2)).mono ?_
  rintro e w3 ⟨rfl, hb3⟩
  have q2 := heap_on hb3 q2
  have q5 := heap_on hb3 q5
  have hY := hY.on hb3
  have hI := hI.on hb3
  have hb3 := below_on hb2 hb3
  clear hb2
  clear dq2_0 dq2_1 dq2_2
  have h81 : ¬ (80 : Int) < (k : Int) := by omega
  have h82 : decide ((80 : Int) < (k : Int)) = false := decide_eq_false h81
  have h83 : decide (80 < k) = false := decide_eq_false (by omega)
  go_wp2_with fail
  refine (lied_any w3 (hE.on hb3)).mono ?_
  rintro e wL ⟨rfl, hbL⟩
  have q2 := heap_on hbL q2
  have q5 := heap_on hbL q5
  have hY := hY.on hbL
  have hI := hI.on hbL
  have hbL := below_on hb3 hbL
  clear hb3 h81 h82 h83
  go_wp2_with fail
  have hB2 := (Array.getElem?_eq_some_iff.1 q2).1
  go_loopg [54, 9] k (fun gh s54 s9 wr => ∃ (i : Nat) (a9 : Option Addr) (c9 : Nat) (b0 : Option Addr) (m0 d0 : Nat) (b1 : Option Addr) (m1 d1 : Nat) (b2 : Option Addr) (m2 d2 : Nat), s54 = .int .i64 (i : Int) ∧ s9 = .slice a9 i c9 ∧ i ≤ k ∧ k - i ≤ gh ∧ wr.ownsRow wL.heap.size 33 1 (.slice a9 i c9) i ((saidL W (l.take i)).map (Value.int .i64)) ∧ wr.heap[w.heap.size]? = some (.cells #[.slice b0 m0 d0, .slice b1 m1 d1, .slice b2 m2 d2] 28) ∧ WAt wr b0 m0 d0 b1 m1 d1 b2 m2 d2 (playW W (l.take i)) ∧ (∀ g, (Value.slice a9 i c9).ownBlock = some g → Far3 (playW W (l.take i)) b0 b1 b2 g) ∧ wL.grownBy wr (some w.heap.size))
  case atStart => exact ⟨0, none, 0, a0, n0, c0, a1, n1, c1, a2, n2, c2, rfl, rfl, Nat.zero_le _, by omega, World.ownsRow_nil _ _ _ _, q2, hW.on hbL, (fun g hg => by cases hg), below_grown (Below.refl _ _) _⟩
  case round =>
    obtain ⟨i, a9, c9, b0, m0, d0, b1, m1, d1, b2, m2, d2, rfl, rfl, hik, hgh, hown, p2, hV, hfar, hgr⟩ := hrel
    have hb := hbL.grown hgr (Nat.le_of_lt hB2) (fun j hj => by injection hj with hj; omega)
    rcases Nat.lt_or_ge i k with hlt | hge
    · clear q2 q5 hY hI
      obtain ⟨bl, off, rfl, hbl, hc⟩ := (hL.on hb).cells (by omega)
      obtain ⟨s0, s1, s2, s3, s4, s5⟩ := hc i (by omega)
      clear hc
      have hxw := hL.sz _ (hapOf_mem (l := l) (i := i) (by omega))
      have hgV := play_good (l.take i) hG
      have hT := haps_take (l := l) (i := i) (by omega)
      have hp1 : playW W (l.take (i + 1)) = stepW (playW W (l.take i)) (hapOf l i) := by rw [hT, playW_snoc]
      have hs1 : saidL W (l.take (i + 1)) = saidL W (l.take i) ++ [(hapV (playW W (l.take i)) (hapOf l i)).2] := by rw [hT, saidL_snoc, doV_hap hgV]
      unfold stepW at hp1
      rw [doV_hap hgV] at hp1
      have hp := fun w' hF hW => happened_any I (playW W (l.take i)) b0 m0 d0 b1 m1 d1 b2 m2 d2 (hapOf l i) w' hF hW hgV hxw
      obtain ⟨Y, z, hYZ⟩ : ∃ Y z, hapV (playW W (l.take i)) (hapOf l i) = (Y, z) := ⟨_, _, rfl⟩
      rw [hYZ] at hp hp1 hs1
      simp only at hp hp1 hs1
      obtain ⟨Vi, hVi⟩ : ∃ Vi, playW W (l.take i) = Vi := ⟨_, rfl⟩
      rw [hVi] at hV hp hp1 hfar
      obtain ⟨Si, hSi⟩ : ∃ Si, saidL W (l.take i) = Si := ⟨_, rfl⟩
      rw [hSi] at hown hs1
      generalize hapOf l i = x at s0 s1 s2 s3 s4 s5 hp
      obtain ⟨xk, xs, xw, xo, xe, xv⟩ := x
      simp only at s0 s1 s2 s3 s4 s5 hp
      have HP := Lib.hid hp
      have HP1 := Lib.hid hp1
      have HS1 := Lib.hid hs1
      clear hp hp1 hs1 hYZ hVi hSi hT hgV hxw hbL
      have hik1 : (i : Int) < (k : Int) := by omega
      have hown := hown.alloc (.cells #[.int .i64 xk, .int .i64 xs, .int .i64 xw, .int .i64 xo, .int .i64 xe, .string xv] 32)
      have hgr := grow_trans hgr (World.grownBy_alloc wr (.cells #[.int .i64 xk, .int .i64 xs, .int .i64 xw, .int .i64 xo, .int .i64 xe, .string xv] 32) none) (fun j hj => by cases hj)
      have p2 := heap_old wr (.cells #[.int .i64 xk, .int .i64 xs, .int .i64 xw, .int .i64 xo, .int .i64 xe, .string xv] 32) p2
      have q11 := heap_push wr (.cells #[.int .i64 xk, .int .i64 xs, .int .i64 xw, .int .i64 xo, .int .i64 xe, .string xv] 32)
      have hV := hV.on ((Below.refl _ wr).alloc (Nat.le_refl _) (.cells #[.int .i64 xk, .int .i64 xs, .int .i64 xw, .int .i64 xo, .int .i64 xe, .string xv] 32))
      have hb11 := hb.alloc hb.size (.cells #[.int .i64 xk, .int .i64 xs, .int .i64 xw, .int .i64 xo, .int .i64 xe, .string xv] 32)
      clear hb
      have d2_0 := heap_cell p2 0 _ rfl
      have d2_1 := heap_cell p2 1 _ rfl
      have d2_2 := heap_cell p2 2 _ rfl
      have d11_0 := heap_cell q11 0 _ rfl
      have d11_1 := heap_cell q11 1 _ rfl
      have d11_2 := heap_cell q11 2 _ rfl
      have d11_3 := heap_cell q11 3 _ rfl
      have d11_4 := heap_cell q11 4 _ rfl
      have d11_5 := heap_cell q11 5 _ rfl
      go_wp2_with fail
      generalize (wr.alloc (.cells #[.int .i64 xk, .int .i64 xs, .int .i64 xw, .int .i64 xo, .int .i64 xe, .string xv] 32)) = w3 at p2 q11 hV hb11 hown hgr d2_0 d2_1 d2_2 d11_0 d11_1 d11_2 d11_3 d11_4 d11_5 ⊢
      have hown3 := hown
      refine (HP.out w3 (by rw [hb11.tape]; exact hF) hV).mono ?_
      rintro e w4 ⟨e0, f0, g0, e1, f1, g1, e2, f2, g2, rfl, hU, hn0, hn1, hn2, hb4⟩
      have p2 := heap_on hb4 p2
      have hV := hV.on hb4
      have hown := owns_on hown hb4
      have hgr := grow_trans hgr (below_grown hb4 none) (fun j hj => by cases hj)
      have hfar4 : ∀ g, (Value.slice a9 i c9).ownBlock = some g → Far3 Y e0 e1 e2 g := fun g hg => far_hap (hfar g hg) (hown3.lt g hg).2 hn0 hn1 hn2
      have hb4 := below_on hb11 hb4
      clear hb11 hown3 hn0 hn1 hn2 d2_0 d2_1 d2_2 d11_0 d11_1 d11_2 d11_3 d11_4 d11_5 q11 HP
      have q12 := heap_push w4 (.cells #[.slice e0 f0 g0, .slice e1 f1 g1, .slice e2 f2 g2] 28)
      have p2 := heap_old w4 (.cells #[.slice e0 f0 g0, .slice e1 f1 g1, .slice e2 f2 g2] 28) p2
      have hV := hV.on ((Below.refl _ w4).alloc (Nat.le_refl _) (.cells #[.slice e0 f0 g0, .slice e1 f1 g1, .slice e2 f2 g2] 28))
      have hU := hU.on ((Below.refl _ w4).alloc (Nat.le_refl _) (.cells #[.slice e0 f0 g0, .slice e1 f1 g1, .slice e2 f2 g2] 28))
      have hown := hown.alloc (.cells #[.slice e0 f0 g0, .slice e1 f1 g1, .slice e2 f2 g2] 28)
      have hgr := grow_trans hgr (World.grownBy_alloc w4 (.cells #[.slice e0 f0 g0, .slice e1 f1 g1, .slice e2 f2 g2] 28) none) (fun j hj => by cases hj)
      clear hb4
      go_upto_region 12 with fail
      generalize (w4.alloc (.cells #[.slice e0 f0 g0, .slice e1 f1 g1, .slice e2 f2 g2] 28)) = w5 at p2 q12 hV hU hown hgr ⊢
      generalize w4.heap.size = B12 at q12 ⊢
      by_cases hz : z = 0
      · subst hz
        have d12_0 := heap_cell q12 0 _ rfl
        have d12_1 := heap_cell q12 1 _ rfl
        have d12_2 := heap_cell q12 2 _ rfl
        go_upto_region 14 with (refine wpList_store_row rfl 28 (.tmp 2) (.tmp 66) rfl w.heap.size #[.slice e0 f0 g0, .slice e1 f1 g1, .slice e2 f2 g2] rfl rfl _ _ p2 (by kernel_rfl) rfl (three_cells _ _ _ _ _ _ _ _ _) ?_)
        clear d12_0 d12_1 d12_2
        have hU6 := hU.kept (row_grown w5 w.heap.size #[.slice e0 f0 g0, .slice e1 f1 g1, .slice e2 f2 g2]) (fun g hg => by injection hg with hg; subst hg; exact far_box hU p2)
        have p6 := setRow_heap w5 w.heap.size _ #[.slice e0 f0 g0, .slice e1 f1 g1, .slice e2 f2 g2] _ _ p2
        have own6 := hown.kept (row_grown w5 w.heap.size #[.slice e0 f0 g0, .slice e1 f1 g1, .slice e2 f2 g2]) (.inr fun e => by have := (hown.lt _ e).1; omega)
        have gr6 := grow_trans hgr (row_grown w5 w.heap.size #[.slice e0 f0 g0, .slice e1 f1 g1, .slice e2 f2 g2]) (fun j hj => .inl (by injection hj with hj; exact hj.symm))
        generalize w5.setRow w.heap.size #[.slice e0 f0 g0, .slice e1 f1 g1, .slice e2 f2 g2] = w6 at hU6 p6 own6 gr6 ⊢
        clear hU hV p2 hown hgr q12 hfar
        go_wp2_with (at_builtin; refine wpList_append_lies _ rfl _ _ 42 rfl wL.heap.size 33 i0 (.int .i64 0) 1 8 Tryz.underlying42 hi0 hz0 hz1 hz2 rfl (by decide) _ _ _ rfl (own6.alloc _) ⟨w6.heap.size, 0, none⟩ 1 1 [.int .i64 0] rfl rfl (World.news_of_block (cs := #[.int .i64 0]) (t := 33) (fr := (0, 0)) (heap_push w6 _)) ?c2 (by omega) ?c3 ?c4 ?c5 _ rfl ?_)
        case c2 => first | (intro u hu; rw [List.mem_singleton.1 hu]; rfl) | rfl | simp [Value.oneCell']
        case c3 => unfold maxLen; omega
        case c4 => omega
        case c5 => have := (gr6).size; first | omega | (rw [heap_size]; omega)
        intro g' cap' w7 hown7 hgrow7 hat _
        obtain ⟨r2, rV, rF, rG⟩ := run_end hB2 own6 p6 hU6 hfar4 gr6 (.cells #[.int .i64 0] 33) hgrow7 (by rw [heap_size]; exact hat)
        go_wp2_with fail
        go_roundg (k - (i + 1))
        case rel => exact ⟨i + 1, some ⟨g', 0, none⟩, cap', e0, f0, g0, e1, f1, g1, e2, f2, g2, by go_num, rfl, by omega, by omega, by rw [HS1.out, List.map_append]; exact hown7, r2, by rw [HP1.out]; exact (if_pos rfl : (if (0 : Int) = 0 then Y else Vi) = Y) ▸ rV, by rw [HP1.out]; exact (if_pos rfl : (if (0 : Int) = 0 then Y else Vi) = Y) ▸ (fun g hg => by injection hg with hg; subst hg; exact rF), rG⟩
        case measure => omega
      · have zf1 : (z == 0) = false := by simp only [beq_eq_false_iff_ne, ne_eq]; exact hz
        go_upto_region 14 with fail
        clear hU hfar4 q12
        go_wp2_with (at_builtin; refine wpList_append_lies _ rfl _ _ 42 rfl wL.heap.size 33 i0 (.int .i64 0) 1 8 Tryz.underlying42 hi0 hz0 hz1 hz2 rfl (by decide) _ _ _ rfl (hown.alloc _) ⟨w5.heap.size, 0, none⟩ 1 1 [.int .i64 z] rfl rfl (World.news_of_block (cs := #[.int .i64 z]) (t := 33) (fr := (0, 0)) (heap_push w5 _)) ?e2 (by omega) ?e3 ?e4 ?e5 _ rfl ?_)
        case e2 => first | (intro u hu; rw [List.mem_singleton.1 hu]; rfl) | rfl | simp [Value.oneCell']
        case e3 => unfold maxLen; omega
        case e4 => omega
        case e5 => have := (hgr).size; first | omega | (rw [heap_size]; omega)
        intro g' cap' w7 hown7 hgrow7 hat _
        obtain ⟨r2, rV, rF, rG⟩ := run_end hB2 hown p2 hV hfar hgr (.cells #[.int .i64 z] 33) hgrow7 (by rw [heap_size]; exact hat)
        go_wp2_with fail
        go_roundg (k - (i + 1))
        case rel => exact ⟨i + 1, some ⟨g', 0, none⟩, cap', b0, m0, d0, b1, m1, d1, b2, m2, d2, by go_num, rfl, by omega, by omega, by rw [HS1.out, List.map_append]; exact hown7, r2, by rw [HP1.out]; exact (by rw [if_neg hz]; exact rV), by rw [HP1.out]; exact (by rw [if_neg hz]; exact fun g hg => by injection hg with hg; subst hg; exact rF), rG⟩
        case measure => omega
    · obtain rfl : i = k := by omega
      rw [List.take_of_length_le (by omega)] at hown hV
      have q5 := heap_kept hgr q5 (by intro e; injection e with e; omega)
      have hY := hY.kept hgr (fun g hg => by injection hg with hg; subst hg; exact far_box hY q2)
      have hI := ints_kept hI hgr (ints_box hI q2)
      clear q2
      have hwd := hI.sz
      obtain ⟨_, hO⟩ := owned_ints hown hwd
      have hge1 : ¬ (i : Int) < (i : Int) := by omega
      have hq := equal_errs (saidL W l) (saidL W l) x3 a9 i z3 i c9 wr (by rw [saidL_len]; exact hk) (by rw [saidL_len]; exact hk) hI hO
      rw [decide_eq_true (rfl : saidL W l = saidL W l)] at hq
      go_wp2_with fail
      refine hq.mono ?_
      rintro e w6 ⟨rfl, hb6⟩
      have p2 := heap_on hb6 p2
      have q5 := heap_on hb6 q5
      have hV := hV.on hb6
      have hY := hY.on hb6
      have hb6 := below_on hb hb6
      clear hb hq
      have dp2_0 := heap_cell p2 0 _ rfl
      have dp2_1 := heap_cell p2 1 _ rfl
      have dp2_2 := heap_cell p2 2 _ rfl
      have dq5_0 := heap_cell q5 0 _ rfl
      have dq5_1 := heap_cell q5 1 _ rfl
      have dq5_2 := heap_cell q5 2 _ rfl
      go_wp2_with fail
      have hs := sameWorld_any (playW W l) _ _ _ _ _ _ _ _ _ (playW W l) _ _ _ _ _ _ _ _ _ w6 hY hV
      rw [decide_eq_true (rfl : playW W l = playW W l)] at hs
      refine hs.mono ?_
      rintro e w7 ⟨rfl, hb7⟩
      have hb7 := below_on hb6 hb7
      go_wp2_with fail
      go_ret
      exact ⟨rfl, hb7⟩

theorem worldRuns_walk (I : Interp) (W : WB) (a0 : Option Addr) (n0 c0 : Nat) (a1 : Option Addr) (n1 c1 : Nat) (a2 : Option Addr) (n2 c2 : Nat) (l : List HapB) (a : Option Addr) (k c : Nat) (w : World) (hE : Tab w) (hF : I.told.answers w.tape) (hW : WAt w a0 n0 c0 a1 n1 c1 a2 n2 c2 W) (hk : l.length = k) (hL : HapsAt w a c l) :
    Calls Tryz.prog 4 #[.agg #[.slice a0 n0 c0, .slice a1 n1 c1, .slice a2 n2 c2], .slice a k c] w fun e w' => e = .returned (.bool true) ∧ Below w.heap.size w w' := by
  by_cases h : runE W l = 0
  · obtain ⟨hG, h80⟩ := run_zero h
    exact worldRuns_good I W a0 n0 c0 a1 n1 c1 a2 n2 c2 l a k c w hE hF hW hk hL hG h80
  · exact worldRuns_bad W a0 n0 c0 a1 n1 c1 a2 n2 c2 l a k c w hE hW hk hL _ rfl h

end Go.Proofs.YthhckpnnjegldafGreatFmt
