/-
  WorldParts' walk: of whatever world, script and place it answers true.
-/
import Derived.Test.YthhckpnnjegldafDoorLied
import Derived.Test.YthhckpnnjegldafDoorWorldAll
import Derived.Test.YthhckpnnjegldafDoorErrs
import Derived.Test.YthhckpnnjegldafDoorConcat
import Derived.Test.YthhckpnnjegldafDoorAt
import Derived.Deep.DeepCutAuto
import Derived.Deep.RegionHeld3
namespace Go.Proofs.YthhckpnnjegldafDoor
open Go Go.RowKit

theorem run_haps_take (a : Option Addr) (n c k : Nat) (hk : k ≤ c) (w : World) : (Instr.slice 53 (.slice a n c) none (some (.int .i64 (k : Int))) none).run Tryd.prog w = .ok (.slice a k c) w := by
  have hadd : ∀ ad : Addr, ad.add 0 = ad := fun ad => by unfold Addr.add; simp
  have hb : (Instr.sliceBounds true n c none (some (.int .i64 (k : Int))) none).run Tryd.prog w = .ok (0, k, c) w := by
    have h1 : (k : Int) ≤ (c : Int) := by omega
    simp [Instr.sliceBounds, run_sliceBound, h1]
  cases a <;> simp [Instr.slice, run_underlying Tryd.underlying53, hb, Tryd.sizeOf45, hadd]
theorem run_haps_drop (a : Option Addr) (n c k : Nat) (hk : k ≤ n) (w : World) : (Instr.slice 53 (.slice a n c) (some (.int .i64 (k : Int))) none none).run Tryd.prog w = .ok (.slice (if c = k then a else a.map (·.add (k * 6))) (n - k) (c - k)) w := by
  have hb : (Instr.sliceBounds true n c (some (.int .i64 (k : Int))) none none).run Tryd.prog w = .ok (k, n, c) w := by
    have h1 : (k : Int) ≤ (n : Int) := by omega
    simp [Instr.sliceBounds, run_sliceBound, h1]
  simp [Instr.slice, run_underlying Tryd.underlying53, hb, Tryd.sizeOf45]
theorem haps_rest {w : World} {a : Option Addr} {c n k : Nat} {l : List HapB} (h : HapsAt w a c l) (hn : l.length = n) (hk : k ≤ n) : HapsAt w (if c = k then a else a.map (·.add (k * 6))) (c - k) (l.drop k) := by
  have hc := h.cap
  rcases Nat.lt_or_ge k n with hlt | hge
  · obtain ⟨b, off, rfl, hd⟩ := h.drop (k := k) (by omega)
    rw [if_neg (by omega)]
    have e : (⟨b, off, none⟩ : Addr).add (k * 6) = ⟨b, off + k * 6, none⟩ := by unfold Addr.add; simp
    rw [Option.map_some, e]
    exact hd
  · rw [List.drop_of_length_le (by omega)]
    exact haps_zero w _ (by have := h.max; omega)
theorem set3_grown (w : World) (g : Nat) (a b c : Value) : w.grownBy (((w.setCell ⟨g, 0, none⟩ a).setCell ⟨g, 1, none⟩ b).setCell ⟨g, 2, none⟩ c) (some g) :=
  grow_trans (grow_trans (set_grown w g 0 a) (set_grown _ g 1 b) (fun j hj => .inl (by injection hj with hj; exact hj.symm))) (set_grown _ g 2 c) (fun j hj => .inl (by injection hj with hj; exact hj.symm))
theorem set3_row {w : World} {g : Nat} {x y z : Value} {t : TypeId} (h : w.heap[g]? = some (.cells #[x, y, z] t)) (a b c : Value) : (((w.setCell ⟨g, 0, none⟩ a).setCell ⟨g, 1, none⟩ b).setCell ⟨g, 2, none⟩ c).heap[g]? = some (.cells #[a, b, c] t) :=
  heap_setCell_same _ g 2 _ _ c (heap_setCell_same _ g 1 _ _ b (heap_setCell_same w g 0 _ _ a h))
/- What a run leaves: a box with the world, what was told. -/
structure RunIs (w5 w' : World) (gd : Nat) (x0 : Option Addr) (y0 z0 : Nat) (x1 : Option Addr) (y1 z1 : Nat) (x2 : Option Addr) (y2 z2 : Nat) (x3 : Option Addr) (z3 : Nat) (V : WB) (s : List Int) : Prop where
  lo : w5.heap.size ≤ gd
  box : w'.heap[gd]? = some (.cells #[.slice x0 y0 z0, .slice x1 y1 z1, .slice x2 y2 z2] 43)
  wat : WAt w' x0 y0 z0 x1 y1 z1 x2 y2 z2 V
  ints : IntsAt w' x3 z3 s
  below : Below w5.heap.size w5 w'
section
variable {w5 wR : World} {gd : Nat} {x0 : Option Addr} {y0 z0 : Nat} {x1 : Option Addr} {y1 z1 : Nat} {x2 : Option Addr} {y2 z2 : Nat} {x3 : Option Addr} {z3 : Nat} {V : WB} {s : List Int}
theorem RunIs.set (hlo : w5.heap.size ≤ gd) (hz : w5.heap.size ≤ wR.heap.size) (hb : Below w5.heap.size w5 wR) (hbox : wR.heap[gd]? = some (.cells #[.slice none 0 0, .slice none 0 0, .slice none 0 0] 43)) (hat : WAt wR x0 y0 z0 x1 y1 z1 x2 y2 z2 V) (hI : IntsAt wR x3 z3 s) :
    RunIs w5 (((wR.setCell ⟨gd, 0, none⟩ (.slice x0 y0 z0)).setCell ⟨gd, 1, none⟩ (.slice x1 y1 z1)).setCell ⟨gd, 2, none⟩ (.slice x2 y2 z2)) gd x0 y0 z0 x1 y1 z1 x2 y2 z2 x3 z3 V s :=
  ⟨hlo, set3_row hbox _ _ _, hat.kept (set3_grown _ _ _ _ _) (fun g hg => by injection hg with hg; subst hg; exact far_box hat hbox), ints_kept hI (set3_grown _ _ _ _ _) (ints_box hI hbox), hb.grown (set3_grown _ _ _ _ _) hz (fun j hj => by injection hj with hj; omega)⟩
theorem RunIs.push (hz : w5.heap.size ≤ wR.heap.size) (hb : Below w5.heap.size w5 wR) (hat : WAt wR x0 y0 z0 x1 y1 z1 x2 y2 z2 V) (hI : IntsAt wR x3 z3 s) :
    RunIs w5 (wR.alloc (.cells #[.slice x0 y0 z0, .slice x1 y1 z1, .slice x2 y2 z2] 43)) wR.heap.size x0 y0 z0 x1 y1 z1 x2 y2 z2 x3 z3 V s :=
  ⟨hz, heap_push _ _, hat.on ((Below.refl _ _).alloc (Nat.le_refl _) _), hI.on ((Below.refl _ _).alloc (Nat.le_refl _) _), hb.alloc hz _⟩
end

set_option maxHeartbeats 16000000 in
set_option maxRecDepth 100000 in
theorem worldParts_bad (W : WB) (a0 : Option Addr) (n0 c0 : Nat) (a1 : Option Addr) (n1 c1 : Nat) (a2 : Option Addr) (n2 c2 : Nat) (l : List HapB) (a : Option Addr) (k c : Nat) (x : Int) (w : World) (hE : Tab w) (hW : WAt w a0 n0 c0 a1 n1 c1 a2 n2 c2 W) (hk : l.length = k) (hL : HapsAt w a c l) (z : Int) (hz : runE W l = z) (h0 : z ≠ 0) :
    Calls Tryd.prog 5 #[.agg #[.slice a0 n0 c0, .slice a1 n1 c1, .slice a2 n2 c2], .slice a k c, .int .i64 x] w fun e w' => e = .returned (.bool true) ∧ Below w.heap.size w w' := by
  have hcap := hL.cap
  have hmax := hL.max
  have hr := fun w' hE hW hL => run_any W l a0 n0 c0 a1 n1 c1 a2 n2 c2 a k c w' hE hW hk hL
  rw [hz] at hr
  clear hz
  have zf1 : (z == 0) = false := by simp only [beq_eq_false_iff_ne, ne_eq]; exact h0
  have zf3 : (z != 0) = true := by simp only [bne, zf1]; rfl
  clear h0
  have HR := Lib.hid hr
  clear hr
  have q3 := heap_push w (.cells #[.slice a0 n0 c0, .slice a1 n1 c1, .slice a2 n2 c2] 43)
  have hb0 : Below w.heap.size w (w.alloc (.cells #[.slice a0 n0 c0, .slice a1 n1 c1, .slice a2 n2 c2] 43)) := (Below.refl _ _).alloc (Nat.le_refl _) _
  have dq3_0 := heap_cell q3 0 _ rfl
  have dq3_1 := heap_cell q3 1 _ rfl
  have dq3_2 := heap_cell q3 2 _ rfl
  go_enter Tryd.func5, Tryd.ntmps5
  go_wp2_with fail
  generalize (w.alloc (.cells #[.slice a0 n0 c0, .slice a1 n1 c1, .slice a2 n2 c2] 43)) = w0 at q3 hb0 dq3_0 dq3_1 dq3_2 ⊢
  refine (HR.out w0 (hE.on hb0) (hW.on hb0) (hL.on hb0)).mono ?_
  rintro e w1 ⟨x0, y0, z0, x1, y1, z1, x2, y2, z2, x3, z3, rfl, hY, hI, hb1⟩
  have q3 := heap_on hb1 q3
  have hb1 := below_on hb0 hb1
  clear hb0
  clear dq3_0 dq3_1 dq3_2
  have hlt3 := (Array.getElem?_eq_some_iff.1 q3).1
  have q3 := heap_old w1 (.cells #[.slice x0 y0 z0, .slice x1 y1 z1, .slice x2 y2 z2] 43) q3
  have q7 := heap_push w1 (.cells #[.slice x0 y0 z0, .slice x1 y1 z1, .slice x2 y2 z2] 43)
  have hY := hY.on ((Below.refl _ w1).alloc (Nat.le_refl _) (.cells #[.slice x0 y0 z0, .slice x1 y1 z1, .slice x2 y2 z2] 43))
  have hI := hI.on ((Below.refl _ w1).alloc (Nat.le_refl _) (.cells #[.slice x0 y0 z0, .slice x1 y1 z1, .slice x2 y2 z2] 43))
  have hb2 := hb1.alloc hb1.size (.cells #[.slice x0 y0 z0, .slice x1 y1 z1, .slice x2 y2 z2] 43)
  clear hb1
  go_wp2_with fail
  generalize (w1.alloc (.cells #[.slice x0 y0 z0, .slice x1 y1 z1, .slice x2 y2 z2] 43)) = w2 at q3 q7 hY hI hb2 ⊢
  generalize w1.heap.size = B7 at q7 hlt3 ⊢
  refine (lied_any w2 (hE.on hb2)).mono ?_
  rintro e w3 ⟨rfl, hb3⟩
  have q3 := heap_on hb3 q3
  have q7 := heap_on hb3 q7
  have hY := hY.on hb3
  have hI := hI.on hb3
  have hb3 := below_on hb2 hb3
  clear hb2
  go_wp2_with fail
  refine (lied_any w3 (hE.on hb3)).mono ?_
  rintro e w4 ⟨rfl, hb4⟩
  have q3 := heap_on hb4 q3
  have q7 := heap_on hb4 q7
  have hY := hY.on hb4
  have hI := hI.on hb4
  have hb4 := below_on hb3 hb4
  clear hb3
  go_wp2_with fail
  go_ret
  exact ⟨rfl, hb4⟩

set_option maxHeartbeats 16000000 in
set_option maxRecDepth 100000 in
theorem worldParts_good (W : WB) (a0 : Option Addr) (n0 c0 : Nat) (a1 : Option Addr) (n1 c1 : Nat) (a2 : Option Addr) (n2 c2 : Nat) (l : List HapB) (a : Option Addr) (k c : Nat) (x : Int) (w : World) (hE : Tab w) (hW : WAt w a0 n0 c0 a1 n1 c1 a2 n2 c2 W) (hk : l.length = k) (hL : HapsAt w a c l) (hx0 : -9223372036854775808 ≤ x) (hx1 : x ≤ 9223372036854775807) (hG : worldE W = 0) (h80 : l.length ≤ 80) :
    Calls Tryd.prog 5 #[.agg #[.slice a0 n0 c0, .slice a1 n1 c1, .slice a2 n2 c2], .slice a k c, .int .i64 x] w fun e w' => e = .returned (.bool true) ∧ Below w.heap.size w w' := by
  have hcap := hL.cap
  have hmax := hL.max
  have hr := fun w' hE hW hL => run_any W l a0 n0 c0 a1 n1 c1 a2 n2 c2 a k c w' hE hW hk hL
  have e0 := run_good hG h80
  have e1 : runW W l = playW W l := if_pos e0
  have e2 : runS W l = saidL W l := if_pos e0
  rw [e0, e1, e2, saidL_len, hk] at hr
  clear e0 e1 e2
  have HR := Lib.hid hr
  clear hr
  have q3 := heap_push w (.cells #[.slice a0 n0 c0, .slice a1 n1 c1, .slice a2 n2 c2] 43)
  have hb0 : Below w.heap.size w (w.alloc (.cells #[.slice a0 n0 c0, .slice a1 n1 c1, .slice a2 n2 c2] 43)) := (Below.refl _ _).alloc (Nat.le_refl _) _
  have dq3_0 := heap_cell q3 0 _ rfl
  have dq3_1 := heap_cell q3 1 _ rfl
  have dq3_2 := heap_cell q3 2 _ rfl
  go_enter Tryd.func5, Tryd.ntmps5
  go_wp2_with fail
  generalize (w.alloc (.cells #[.slice a0 n0 c0, .slice a1 n1 c1, .slice a2 n2 c2] 43)) = w0 at q3 hb0 dq3_0 dq3_1 dq3_2 ⊢
  refine (HR.out w0 (hE.on hb0) (hW.on hb0) (hL.on hb0)).mono ?_
  rintro e w1 ⟨x0, y0, z0, x1, y1, z1, x2, y2, z2, x3, z3, rfl, hY, hI, hb1⟩
  have q3 := heap_on hb1 q3
  have hb1 := below_on hb0 hb1
  clear hb0
  clear dq3_0 dq3_1 dq3_2
  have hlt3 := (Array.getElem?_eq_some_iff.1 q3).1
  have q3 := heap_old w1 (.cells #[.slice x0 y0 z0, .slice x1 y1 z1, .slice x2 y2 z2] 43) q3
  have q7 := heap_push w1 (.cells #[.slice x0 y0 z0, .slice x1 y1 z1, .slice x2 y2 z2] 43)
  have hY := hY.on ((Below.refl _ w1).alloc (Nat.le_refl _) (.cells #[.slice x0 y0 z0, .slice x1 y1 z1, .slice x2 y2 z2] 43))
  have hI := hI.on ((Below.refl _ w1).alloc (Nat.le_refl _) (.cells #[.slice x0 y0 z0, .slice x1 y1 z1, .slice x2 y2 z2] 43))
  have hb2 := hb1.alloc hb1.size (.cells #[.slice x0 y0 z0, .slice x1 y1 z1, .slice x2 y2 z2] 43)
  clear hb1
  go_wp2_with fail
  generalize (w1.alloc (.cells #[.slice x0 y0 z0, .slice x1 y1 z1, .slice x2 y2 z2] 43)) = w2 at q3 q7 hY hI hb2 ⊢
  generalize w1.heap.size = B7 at q7 hlt3 ⊢
  refine (lied_any w2 (hE.on hb2)).mono ?_
  rintro e w3 ⟨rfl, hb3⟩
  have q3 := heap_on hb3 q3
  have q7 := heap_on hb3 q7
  have hY := hY.on hb3
  have hI := hI.on hb3
  have hb3 := below_on hb2 hb3
  clear hb2
  have hat := fun w1 => at_any x (k + 1) w1 (by omega) (by omega) hx0 hx1
  have hjk := atN_lt x (show 0 < k + 1 by omega)
  generalize atN x (k + 1) = j at hat hjk
  have hjk : j ≤ k := by omega
  rw [show ((k + 1 : Nat) : Int) = (k : Int) + 1 by omega] at hat
  have hk1 : (k : Int) + 1 ≤ 9223372036854775807 := by omega
  go_wp2_with fail
  refine (hat w3).mono ?_
  rintro e _ ⟨rfl, rfl⟩
  clear hat hk1
  go_upto_region 5 with fail
  obtain ⟨w5, hw5⟩ : ∃ x, x = w3 := ⟨_, rfl⟩
  subst hw5
  have hl1 : (l.take j).length = j := by rw [List.length_take]; omega
  have hl2 : (l.drop j).length = k - j := by rw [List.length_drop]; omega
  have hj1 : (j : Int) ≤ (k : Int) := by omega
  have hj2 : (j : Int) ≤ (c : Int) := by omega
  have hT : playW (playW W (l.take j)) (l.drop j) = playW W l := by rw [← playW_app, List.take_append_drop]
  have hS : saidL W (l.take j) ++ saidL (playW W (l.take j)) (l.drop j) = saidL W l := by rw [← saidL_app, List.take_append_drop]
  have hgV := play_good (l.take j) hG
  have hp1 := fun w1 hE hW hL => run_any W (l.take j) a0 n0 c0 a1 n1 c1 a2 n2 c2 a j c w1 hE hW hl1 hL
  have e0 := run_good (W := W) (l := l.take j) hG (by omega)
  rw [show runW W (l.take j) = playW W (l.take j) from if_pos e0, show runS W (l.take j) = saidL W (l.take j) from if_pos e0, e0, saidL_len, hl1] at hp1
  clear e0
  have hp2 := fun b0 m0 e0 b1 m1 e1 b2 m2 e2 a9 c9 w1 hE hW hL => run_any (playW W (l.take j)) (l.drop j) b0 m0 e0 b1 m1 e1 b2 m2 e2 a9 (k - j) c9 w1 hE hW hl2 hL
  have e0 := run_good (W := playW W (l.take j)) (l := l.drop j) hgV (by omega)
  rw [show runW (playW W (l.take j)) (l.drop j) = playW (playW W (l.take j)) (l.drop j) from if_pos e0, show runS (playW W (l.take j)) (l.drop j) = saidL (playW W (l.take j)) (l.drop j) from if_pos e0, e0, saidL_len, hl2, hT] at hp2
  clear e0 hT
  have hS1 : (saidL W (l.take j)).length = j := by rw [saidL_len]; exact hl1
  have hS2 : (saidL (playW W (l.take j)) (l.drop j)).length = k - j := by rw [saidL_len]; exact hl2
  have hS0 : (saidL W l).length = k := by rw [saidL_len]; exact hk
  have hH1 := hL.take j
  have hH2 := haps_rest hL hk hjk
  have hr1 := fun w1 => run_haps_take a k c j (by omega) w1
  have hr2 := fun w1 => run_haps_drop a k c j hjk w1
  generalize (if c = j then a else a.map (·.add (j * 6))) = a9 at hH2 hr2
  generalize c - j = c9 at hH2 hr2
  generalize saidL W (l.take j) = s1 at hp1 hS hS1
  generalize saidL (playW W (l.take j)) (l.drop j) = s2 at hp2 hS hS2
  generalize saidL W l = s0 at hI hS hS0
  generalize playW W (l.take j) = V at hp1 hp2 hgV
  generalize playW W l = U at hY hp2
  have HP1 := Lib.hid hp1
  have HP2 := Lib.hid hp2
  have HS := Lib.hid hS
  clear hp1 hp2 hS hgV
  have HH1 := Lib.hid hH1
  have HH2 := Lib.hid hH2
  clear hH1 hH2
  have k1 := (Array.getElem?_eq_some_iff.1 q3).1
  go_cut [10, 11, 9] (fun t10 t11 t9 w' => ∃ gd x4 y4 z4 x5 y5 z5 x6 y6 z6 x7 z7, t10 = .pointer (some ⟨gd, 0, none⟩) ∧ t11 = .slice x7 j z7 ∧ t9 = .int .i64 0 ∧ RunIs w5 w' gd x4 y4 z4 x5 y5 z5 x6 y6 z6 x7 z7 V s1)
  case first =>
    have hS0 : Below w5.heap.size w5 w5.drew ∧ w5.drew.cell? ⟨w.heap.size, 0, none⟩ = some (.slice a0 n0 c0) ∧ w5.drew.cell? ⟨w.heap.size, 1, none⟩ = some (.slice a1 n1 c1) ∧ w5.drew.cell? ⟨w.heap.size, 2, none⟩ = some (.slice a2 n2 c2) := ⟨(Below.refl _ _).drew, heap_cell q3 0 _ rfl, heap_cell q3 1 _ rfl, heap_cell q3 2 _ rfl⟩
    have HB := Lib.hid (fun w' (h : Below w5.heap.size w5 w' ∧ w'.cell? ⟨w.heap.size, 0, none⟩ = some (.slice a0 n0 c0) ∧ w'.cell? ⟨w.heap.size, 1, none⟩ = some (.slice a1 n1 c1) ∧ w'.cell? ⟨w.heap.size, 2, none⟩ = some (.slice a2 n2 c2)) => h.1)
    have CR := Lib.hid (fun w' (h : Below w5.heap.size w5 w' ∧ w'.cell? ⟨w.heap.size, 0, none⟩ = some (.slice a0 n0 c0) ∧ w'.cell? ⟨w.heap.size, 1, none⟩ = some (.slice a1 n1 c1) ∧ w'.cell? ⟨w.heap.size, 2, none⟩ = some (.slice a2 n2 c2)) => HP1.out w' (hE.on (below_on hb3 h.1)) (hW.on (below_on hb3 h.1)) (HH1.out.on (below_on hb3 h.1)))
    go_region_held3 (fun w' => Below w5.heap.size w5 w' ∧ w'.cell? ⟨w.heap.size, 0, none⟩ = some (.slice a0 n0 c0) ∧ w'.cell? ⟨w.heap.size, 1, none⟩ = some (.slice a1 n1 c1) ∧ w'.cell? ⟨w.heap.size, 2, none⟩ = some (.slice a2 n2 c2))
      (first | assumption | exact heldp k1 k1 k1 (by assumption) (by assumption) | exact heldp k1 k1 k1 (by assumption) ((Below.refl _ _).alloc (Nat.le_refl _) _) | exact heldpg k1 k1 k1 (set3_grown _ _ _ _ _) (fun j hj => by injection hj with hj; omega) (by assumption))
      (first
        | (go_at_call 16; (with_reducible refine (CR.out _ (by assumption)).mono ?_); rintro e wR ⟨x4, y4, z4, x5, y5, z5, x6, y6, z6, x7, z7, rfl, hYR, hIR, hbR⟩; have hSR : Below w5.heap.size w5 wR ∧ wR.cell? ⟨w.heap.size, 0, none⟩ = some (.slice a0 n0 c0) ∧ wR.cell? ⟨w.heap.size, 1, none⟩ = some (.slice a1 n1 c1) ∧ wR.cell? ⟨w.heap.size, 2, none⟩ = some (.slice a2 n2 c2) := heldp k1 k1 k1 (by assumption) hbR; have hBR := HB.out _ hSR; have hzR := hBR.size; (first | (have tbA : wR.heap[w5.heap.size]? = some (.cells #[.slice none 0 0, .slice none 0 0, .slice none 0 0] 43) := heap_on hbR (show (w5.alloc (.cells #[.slice none 0 0, .slice none 0 0, .slice none 0 0] 43)).heap[w5.heap.size]? = _ from heap_push w5 _); have t0 := heap_cell tbA 0 _ rfl; have f0 := frozen_of_row wR _ 0 _ _ tbA; have t1 := heap_cell tbA 1 _ rfl; have f1 := frozen_of_row wR _ 1 _ _ tbA; have t2 := heap_cell tbA 2 _ rfl; have f2 := frozen_of_row wR _ 2 _ _ tbA) | skip)))
    all_goals
      go_wp2_with fail
      go_meet
      case rel =>
        first
          | exact ⟨w5.heap.size, x4, y4, z4, x5, y5, z5, x6, y6, z6, x7, z7, rfl, rfl, rfl, RunIs.set (Nat.le_refl _) hzR hBR tbA hYR hIR⟩
          | exact ⟨wR.heap.size, x4, y4, z4, x5, y5, z5, x6, y6, z6, x7, z7, rfl, rfl, rfl, RunIs.push hzR hBR hYR hIR⟩
  case rest =>
    obtain ⟨gd, x4, y4, z4, x5, y5, z5, x6, y6, z6, x7, z7, rfl, rfl, rfl, hRI⟩ := hcut
    obtain ⟨w6, hw6⟩ : ∃ x, x = wc := ⟨_, rfl⟩
    subst hw6
    obtain ⟨hlo, q10, hV, hI1, hbc⟩ := hRI
    have q7 := heap_on hbc q7
    have hY := hY.on hbc
    have hI := hI.on hbc
    have hb6 := below_on hb3 hbc
    clear hb3 hbc k1 q3 HP1 hr1
    have k1 := (Array.getElem?_eq_some_iff.1 q10).1
    go_upto_region 6 with fail
    have V0 := Lib.hid hV
    go_cut [12, 13, 14] (fun t12 t13 t14 w' => ∃ ge x4 y4 z4 x5 y5 z5 x6 y6 z6 x7 z7, t12 = .pointer (some ⟨ge, 0, none⟩) ∧ t13 = .slice x7 (k - j : Nat) z7 ∧ t14 = .int .i64 0 ∧ RunIs w6 w' ge x4 y4 z4 x5 y5 z5 x6 y6 z6 x7 z7 U s2)
    case first =>
      have hS0 : Below w6.heap.size w6 w6.drew ∧ w6.drew.cell? ⟨gd, 0, none⟩ = some (.slice x4 y4 z4) ∧ w6.drew.cell? ⟨gd, 1, none⟩ = some (.slice x5 y5 z5) ∧ w6.drew.cell? ⟨gd, 2, none⟩ = some (.slice x6 y6 z6) := ⟨(Below.refl _ _).drew, heap_cell q10 0 _ rfl, heap_cell q10 1 _ rfl, heap_cell q10 2 _ rfl⟩
      have HB := Lib.hid (fun w' (h : Below w6.heap.size w6 w' ∧ w'.cell? ⟨gd, 0, none⟩ = some (.slice x4 y4 z4) ∧ w'.cell? ⟨gd, 1, none⟩ = some (.slice x5 y5 z5) ∧ w'.cell? ⟨gd, 2, none⟩ = some (.slice x6 y6 z6)) => h.1)
      have CR := Lib.hid (fun w' (h : Below w6.heap.size w6 w' ∧ w'.cell? ⟨gd, 0, none⟩ = some (.slice x4 y4 z4) ∧ w'.cell? ⟨gd, 1, none⟩ = some (.slice x5 y5 z5) ∧ w'.cell? ⟨gd, 2, none⟩ = some (.slice x6 y6 z6)) => HP2.out x4 y4 z4 x5 y5 z5 x6 y6 z6 a9 c9 w' (hE.on (below_on hb6 h.1)) (V0.out.on h.1) (HH2.out.on (below_on hb6 h.1)))
      go_region_held3 (fun w' => Below w6.heap.size w6 w' ∧ w'.cell? ⟨gd, 0, none⟩ = some (.slice x4 y4 z4) ∧ w'.cell? ⟨gd, 1, none⟩ = some (.slice x5 y5 z5) ∧ w'.cell? ⟨gd, 2, none⟩ = some (.slice x6 y6 z6))
        (first | assumption | exact heldp k1 k1 k1 (by assumption) (by assumption) | exact heldp k1 k1 k1 (by assumption) ((Below.refl _ _).alloc (Nat.le_refl _) _) | exact heldpg k1 k1 k1 (set3_grown _ _ _ _ _) (fun j hj => by injection hj with hj; omega) (by assumption))
        (first
          | (go_at_call 16; (with_reducible refine (CR.out _ (by assumption)).mono ?_); rintro e wR ⟨v4, r4, p4, v5, r5, p5, v6, r6, p6, v7, p7, rfl, hYR, hIR, hbR⟩; have hSR : Below w6.heap.size w6 wR ∧ wR.cell? ⟨gd, 0, none⟩ = some (.slice x4 y4 z4) ∧ wR.cell? ⟨gd, 1, none⟩ = some (.slice x5 y5 z5) ∧ wR.cell? ⟨gd, 2, none⟩ = some (.slice x6 y6 z6) := heldp k1 k1 k1 (by assumption) hbR; have hBR := HB.out _ hSR; have hzR := hBR.size; (first | (have tbA : wR.heap[w6.heap.size]? = some (.cells #[.slice none 0 0, .slice none 0 0, .slice none 0 0] 43) := heap_on hbR (show (w6.alloc (.cells #[.slice none 0 0, .slice none 0 0, .slice none 0 0] 43)).heap[w6.heap.size]? = _ from heap_push w6 _); have t0 := heap_cell tbA 0 _ rfl; have f0 := frozen_of_row wR _ 0 _ _ tbA; have t1 := heap_cell tbA 1 _ rfl; have f1 := frozen_of_row wR _ 1 _ _ tbA; have t2 := heap_cell tbA 2 _ rfl; have f2 := frozen_of_row wR _ 2 _ _ tbA) | skip)))
      all_goals
        go_wp2_with fail
        go_meet
        case rel =>
          first
            | exact ⟨w6.heap.size, v4, r4, p4, v5, r5, p5, v6, r6, p6, v7, p7, rfl, rfl, rfl, RunIs.set (Nat.le_refl _) hzR hBR tbA hYR hIR⟩
            | exact ⟨wR.heap.size, v4, r4, p4, v5, r5, p5, v6, r6, p6, v7, p7, rfl, rfl, rfl, RunIs.push hzR hBR hYR hIR⟩
    case rest =>
      obtain ⟨ge, v4, r4, p4, v5, r5, p5, v6, r6, p6, v7, p7, rfl, rfl, rfl, hRI⟩ := hcut
      obtain ⟨w7, hw7⟩ : ∃ x, x = wc := ⟨_, rfl⟩
      subst hw7
      obtain ⟨hlo2, q12, hU, hI2, hbc⟩ := hRI
      have q7 := heap_on hbc q7
      have hY := hY.on hbc
      have hI := hI.on hbc
      have hI1 := hI1.on hbc
      have hb7 := below_on hb6 hbc
      clear hb6 hbc k1 q10 HP2 hr2 V0 hV HH1 HH2 hL hW
      have dq7_0 := heap_cell q7 0 _ rfl
      have dq7_1 := heap_cell q7 1 _ rfl
      have dq7_2 := heap_cell q7 2 _ rfl
      have dq12_0 := heap_cell q12 0 _ rfl
      have dq12_1 := heap_cell q12 1 _ rfl
      have dq12_2 := heap_cell q12 2 _ rfl
      go_wp2_with fail
      have hs := wsame_any U _ _ _ _ _ _ _ _ _ U _ _ _ _ _ _ _ _ _ w7 hY hU
      rw [decide_eq_true (rfl : U = U)] at hs
      refine hs.mono ?_
      rintro e w8 ⟨rfl, hb8⟩
      have hI := hI.on hb8
      have hI1 := hI1.on hb8
      have hI2 := hI2.on hb8
      have hb8 := below_on hb7 hb8
      clear hb7 hs q7 q12 hY hU dq7_0 dq7_1 dq7_2 dq12_0 dq12_1 dq12_2
      have q9 := heap_push w8 (.cells #[.slice x7 j z7, .slice v7 (k - j) p7] 54)
      have hI := hI.on ((Below.refl _ w8).alloc (Nat.le_refl _) (.cells #[.slice x7 j z7, .slice v7 (k - j) p7] 54))
      have hI1 := hI1.on ((Below.refl _ w8).alloc (Nat.le_refl _) (.cells #[.slice x7 j z7, .slice v7 (k - j) p7] 54))
      have hI2 := hI2.on ((Below.refl _ w8).alloc (Nat.le_refl _) (.cells #[.slice x7 j z7, .slice v7 (k - j) p7] 54))
      have hb9 := hb8.alloc hb8.size (.cells #[.slice x7 j z7, .slice v7 (k - j) p7] 54)
      clear hb8
      go_wp2_with fail
      generalize (w8.alloc (.cells #[.slice x7 j z7, .slice v7 (k - j) p7] 54)) = w9 at q9 hI hI1 hI2 hb9 ⊢
      generalize w8.heap.size = B9 at q9 ⊢
      refine (concat_errs s1 s2 x7 j z7 v7 (k - j) p7 B9 _ w9 hS1 hS2 hI1 hI2 (by omega) q9).mono ?_
      rintro e w10 ⟨aC, cC, rfl, hC, hb10⟩
      have hI := hI.on hb10
      have hb10 := below_on hb9 hb10
      clear hb9 q9 hI1 hI2
      rw [HS.out] at hC
      have hjn : j + (k - j) = k := by omega
      rw [hjn]
      go_wp2_with fail
      have hq := equal_errs s0 s0 x3 aC k z3 k cC w10 hS0 hS0 hI hC
      rw [decide_eq_true (rfl : s0 = s0)] at hq
      refine hq.mono ?_
      rintro e w11 ⟨rfl, hb11⟩
      have hb11 := below_on hb10 hb11
      go_wp2_with fail
      go_ret
      exact ⟨rfl, hb11⟩

theorem worldParts_walk (W : WB) (a0 : Option Addr) (n0 c0 : Nat) (a1 : Option Addr) (n1 c1 : Nat) (a2 : Option Addr) (n2 c2 : Nat) (l : List HapB) (a : Option Addr) (k c : Nat) (x : Int) (w : World) (hE : Tab w) (hW : WAt w a0 n0 c0 a1 n1 c1 a2 n2 c2 W) (hk : l.length = k) (hL : HapsAt w a c l) (hx0 : -9223372036854775808 ≤ x) (hx1 : x ≤ 9223372036854775807) :
    Calls Tryd.prog 5 #[.agg #[.slice a0 n0 c0, .slice a1 n1 c1, .slice a2 n2 c2], .slice a k c, .int .i64 x] w fun e w' => e = .returned (.bool true) ∧ Below w.heap.size w w' := by
  by_cases h : runE W l = 0
  · obtain ⟨hG, h80⟩ := run_zero h
    exact worldParts_good W a0 n0 c0 a1 n1 c1 a2 n2 c2 l a k c x w hE hW hk hL hx0 hx1 hG h80
  · exact worldParts_bad W a0 n0 c0 a1 n1 c1 a2 n2 c2 l a k c x w hE hW hk hL _ rfl h

end Go.Proofs.YthhckpnnjegldafDoor
