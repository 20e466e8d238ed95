/-
  The closed fact that chapter 12's statements ask for first.
-/
import Derived.Test.YtnemiobgmdpnmagGreatFmtStory
import Derived.Test.YtnemiobgmdpnmagGreatFmtTellMath
import Derived.Test.YtnemiobgmdpnmagGreatFmtHapCells
import Derived.Deep.RegionHeld3
namespace Go.Proofs.YtnemiobgmdpnmagGreatFmt
open Go Go.RowKit Go.Maps

theorem heldtg {w5 cur w' : World} {b1 o1 b2 o2 b3 o3 b4 o4 b5 o5 b6 o6 b7 o7 b8 o8 b9 o9 b10 o10 b11 o11 b12 o12 : Nat} {u1 u2 u3 u4 u5 u6 u7 u8 u9 u10 u11 u12 : Value} {row : Option Nat} (k1 : b1 < w5.heap.size) (k2 : b2 < w5.heap.size) (k3 : b3 < w5.heap.size) (k4 : b4 < w5.heap.size) (k5 : b5 < w5.heap.size) (k6 : b6 < w5.heap.size) (k7 : b7 < w5.heap.size) (k8 : b8 < w5.heap.size) (k9 : b9 < w5.heap.size) (k10 : b10 < w5.heap.size) (k11 : b11 < w5.heap.size) (k12 : b12 < w5.heap.size) (hg : cur.grownBy w' row) (hr : ∀ j, row = some j → w5.heap.size ≤ j) (h : Below w5.heap.size w5 cur ∧ cur.cell? ⟨b1, o1, none⟩ = some u1 ∧ cur.cell? ⟨b2, o2, none⟩ = some u2 ∧ cur.cell? ⟨b3, o3, none⟩ = some u3 ∧ cur.cell? ⟨b4, o4, none⟩ = some u4 ∧ cur.cell? ⟨b5, o5, none⟩ = some u5 ∧ cur.cell? ⟨b6, o6, none⟩ = some u6 ∧ cur.cell? ⟨b7, o7, none⟩ = some u7 ∧ cur.cell? ⟨b8, o8, none⟩ = some u8 ∧ cur.cell? ⟨b9, o9, none⟩ = some u9 ∧ cur.cell? ⟨b10, o10, none⟩ = some u10 ∧ cur.cell? ⟨b11, o11, none⟩ = some u11 ∧ cur.cell? ⟨b12, o12, none⟩ = some u12) :
    Below w5.heap.size w5 w' ∧ w'.cell? ⟨b1, o1, none⟩ = some u1 ∧ w'.cell? ⟨b2, o2, none⟩ = some u2 ∧ w'.cell? ⟨b3, o3, none⟩ = some u3 ∧ w'.cell? ⟨b4, o4, none⟩ = some u4 ∧ w'.cell? ⟨b5, o5, none⟩ = some u5 ∧ w'.cell? ⟨b6, o6, none⟩ = some u6 ∧ w'.cell? ⟨b7, o7, none⟩ = some u7 ∧ w'.cell? ⟨b8, o8, none⟩ = some u8 ∧ w'.cell? ⟨b9, o9, none⟩ = some u9 ∧ w'.cell? ⟨b10, o10, none⟩ = some u10 ∧ w'.cell? ⟨b11, o11, none⟩ = some u11 ∧ w'.cell? ⟨b12, o12, none⟩ = some u12 := by
  have key : ∀ (b j : Nat) (u : Value), b < w5.heap.size → cur.cell? ⟨b, j, none⟩ = some u → w'.cell? ⟨b, j, none⟩ = some u := fun b j u hb hu => hg.cell hu (fun e => by have := hr b e.symm; omega)
  obtain ⟨h0, h1, h2, h3, h4, h5, h6, h7, h8, h9, h10, h11, h12⟩ := h
  exact ⟨h0.grown hg h0.size hr, key _ _ _ k1 h1, key _ _ _ k2 h2, key _ _ _ k3 h3, key _ _ _ k4 h4, key _ _ _ k5 h5, key _ _ _ k6 h6, key _ _ _ k7 h7, key _ _ _ k8 h8, key _ _ _ k9 h9, key _ _ _ k10 h10, key _ _ _ k11 h11, key _ _ _ k12 h12⟩
theorem heldt {w5 cur w' : World} {b1 o1 b2 o2 b3 o3 b4 o4 b5 o5 b6 o6 b7 o7 b8 o8 b9 o9 b10 o10 b11 o11 b12 o12 : Nat} {u1 u2 u3 u4 u5 u6 u7 u8 u9 u10 u11 u12 : Value} (k1 : b1 < w5.heap.size) (k2 : b2 < w5.heap.size) (k3 : b3 < w5.heap.size) (k4 : b4 < w5.heap.size) (k5 : b5 < w5.heap.size) (k6 : b6 < w5.heap.size) (k7 : b7 < w5.heap.size) (k8 : b8 < w5.heap.size) (k9 : b9 < w5.heap.size) (k10 : b10 < w5.heap.size) (k11 : b11 < w5.heap.size) (k12 : b12 < w5.heap.size) (h : Below w5.heap.size w5 cur ∧ cur.cell? ⟨b1, o1, none⟩ = some u1 ∧ cur.cell? ⟨b2, o2, none⟩ = some u2 ∧ cur.cell? ⟨b3, o3, none⟩ = some u3 ∧ cur.cell? ⟨b4, o4, none⟩ = some u4 ∧ cur.cell? ⟨b5, o5, none⟩ = some u5 ∧ cur.cell? ⟨b6, o6, none⟩ = some u6 ∧ cur.cell? ⟨b7, o7, none⟩ = some u7 ∧ cur.cell? ⟨b8, o8, none⟩ = some u8 ∧ cur.cell? ⟨b9, o9, none⟩ = some u9 ∧ cur.cell? ⟨b10, o10, none⟩ = some u10 ∧ cur.cell? ⟨b11, o11, none⟩ = some u11 ∧ cur.cell? ⟨b12, o12, none⟩ = some u12) (hb : Below cur.heap.size cur w') :
    Below w5.heap.size w5 w' ∧ w'.cell? ⟨b1, o1, none⟩ = some u1 ∧ w'.cell? ⟨b2, o2, none⟩ = some u2 ∧ w'.cell? ⟨b3, o3, none⟩ = some u3 ∧ w'.cell? ⟨b4, o4, none⟩ = some u4 ∧ w'.cell? ⟨b5, o5, none⟩ = some u5 ∧ w'.cell? ⟨b6, o6, none⟩ = some u6 ∧ w'.cell? ⟨b7, o7, none⟩ = some u7 ∧ w'.cell? ⟨b8, o8, none⟩ = some u8 ∧ w'.cell? ⟨b9, o9, none⟩ = some u9 ∧ w'.cell? ⟨b10, o10, none⟩ = some u10 ∧ w'.cell? ⟨b11, o11, none⟩ = some u11 ∧ w'.cell? ⟨b12, o12, none⟩ = some u12 := heldtg k1 k2 k3 k4 k5 k6 k7 k8 k9 k10 k11 k12 (below_grown hb none) (fun j hj => by cases hj) h
theorem tell_wide : ∀ x ∈ tellL, WideHap x := by decide +kernel
theorem tell3_grown (w : World) (g : Nat) (a b c : Value) : w.grownBy (((w.setCell ⟨g, 0, none⟩ a).setCell ⟨g, 1, none⟩ b).setCell ⟨g, 2, none⟩ c) (some g) :=
  grow_trans (grow_trans (set_grown w g 0 a) (set_grown _ g 1 b) (fun j hj => .inl (by injection hj with hj; exact hj.symm))) (set_grown _ g 2 c) (fun j hj => .inl (by injection hj with hj; exact hj.symm))
/- What the script leaves: a box with the world. -/
structure TellIs (w5 w' : World) (gd : Nat) (x0 : Option Addr) (y0 z0 : Nat) (x1 : Option Addr) (y1 z1 : Nat) (x2 : Option Addr) (y2 z2 : Nat) (V : WB) : Prop where
  box : w'.heap[gd]? = some (.cells #[.slice x0 y0 z0, .slice x1 y1 z1, .slice x2 y2 z2] 28)
  wat : WAt w' x0 y0 z0 x1 y1 z1 x2 y2 z2 V
  below : Below w5.heap.size w5 w'
section
variable {w5 wR : World} {gd : Nat} {x0 : Option Addr} {y0 z0 : Nat} {x1 : Option Addr} {y1 z1 : Nat} {x2 : Option Addr} {y2 z2 : Nat} {V : WB}
theorem TellIs.set (hlo : w5.heap.size ≤ gd) (hb : Below w5.heap.size w5 wR) (hbox : wR.heap[gd]? = some (.cells #[.slice none 0 0, .slice none 0 0, .slice none 0 0] 28)) (hat : WAt wR x0 y0 z0 x1 y1 z1 x2 y2 z2 V) :
    TellIs w5 (((wR.setCell ⟨gd, 0, none⟩ (.slice x0 y0 z0)).setCell ⟨gd, 1, none⟩ (.slice x1 y1 z1)).setCell ⟨gd, 2, none⟩ (.slice x2 y2 z2)) gd x0 y0 z0 x1 y1 z1 x2 y2 z2 V :=
  ⟨heap_setCell_same _ gd 2 _ _ _ (heap_setCell_same _ gd 1 _ _ _ (heap_setCell_same wR gd 0 _ _ _ hbox)), hat.kept (tell3_grown _ _ _ _ _) (fun g hg => by injection hg with hg; subst hg; exact far_box hat hbox), hb.grown (tell3_grown _ _ _ _ _) hb.size (fun j hj => by injection hj with hj; omega)⟩
theorem TellIs.push (hb : Below w5.heap.size w5 wR) (hat : WAt wR x0 y0 z0 x1 y1 z1 x2 y2 z2 V) :
    TellIs w5 (wR.alloc (.cells #[.slice x0 y0 z0, .slice x1 y1 z1, .slice x2 y2 z2] 28)) wR.heap.size x0 y0 z0 x1 y1 z1 x2 y2 z2 V :=
  ⟨heap_push _ _, hat.on ((Below.refl _ _).alloc (Nat.le_refl _) _), hb.alloc hb.size _⟩
end
set_option maxHeartbeats 16000000 in
set_option maxRecDepth 100000 in
theorem telling_any (w : World) (hE : Tab w) :
    Calls Tryz.prog 7 #[] w fun e w' => e = .returned (.bool true) ∧ Below w.heap.size w w' := by
  have r1 := fun a0 n0 c0 a1 n1 c1 a2 n2 c2 g w' hE hW hL => run_any newW tellL a0 n0 c0 a1 n1 c1 a2 n2 c2 (some ⟨g, 0, none⟩) 5 5 w' hE hW rfl hL
  rw [tell_e, tell_r, tell_s] at r1
  have HH := Lib.hid (fun w' g (h : w'.heap[g]? = some (.cells #[.int .i64 1, .int .i64 0, .int .i64 0, .int .i64 0, .int .i64 5, .string ⟨#[120]⟩, .int .i64 2, .int .i64 0, .int .i64 0, .int .i64 0, .int .i64 0, .string ⟨#[]⟩, .int .i64 1, .int .i64 1, .int .i64 0, .int .i64 0, .int .i64 6, .string ⟨#[]⟩, .int .i64 1, .int .i64 0, .int .i64 0, .int .i64 0, .int .i64 5, .string ⟨#[120]⟩, .int .i64 3, .int .i64 1, .int .i64 0, .int .i64 0, .int .i64 0, .string ⟨#[]⟩] 52)) => haps_heap (w := w') (g := g) (l := tellL) h tell_wide (by decide))
  have o1 := fun a0 n0 c0 a1 n1 c1 a2 n2 c2 w' hE hW => of_any tellW 0 1 a0 n0 c0 a1 n1 c1 a2 n2 c2 w' hE hW
  have o2 := fun a0 n0 c0 a1 n1 c1 a2 n2 c2 w' hE hW => of_any tellW 0 0 a0 n0 c0 a1 n1 c1 a2 n2 c2 w' hE hW
  have o3 := fun a0 n0 c0 a1 n1 c1 a2 n2 c2 w' hE hW => of_any tellW 3 0 a0 n0 c0 a1 n1 c1 a2 n2 c2 w' hE hW
  have o4 := fun a0 n0 c0 a1 n1 c1 a2 n2 c2 w' hW => split_any tellW a0 n0 c0 a1 n1 c1 a2 n2 c2 w' hW
  rw [tell_one, tell_e1] at o1
  rw [tell_other, tell_e2] at o2
  rw [tell_e3] at o3
  rw [tell_split, tell_w] at o4
  generalize ofB tellW 3 0 = ob3 at o3
  generalize tellW = V at r1 o1 o2 o3 o4
  have R1 := Lib.hid r1
  have S1 := Lib.hid o1
  have S2 := Lib.hid o2
  have S3 := Lib.hid o3
  have S4 := Lib.hid o4
  clear r1 o1 o2 o3 o4
  have q1 := heap_push w (.cells #[.int .i64 1, .int .i64 0, .int .i64 0, .int .i64 0, .int .i64 5, .string ⟨#[120]⟩] 52)
  have hb1 := (Below.refl w.heap.size w).alloc (Nat.le_refl _) (.cells #[.int .i64 1, .int .i64 0, .int .i64 0, .int .i64 0, .int .i64 5, .string ⟨#[120]⟩] 52)
  go_enter Tryz.func7, Tryz.ntmps7
  go_upto_region 2 with fail
  generalize (w.alloc (.cells #[.int .i64 1, .int .i64 0, .int .i64 0, .int .i64 0, .int .i64 5, .string ⟨#[120]⟩] 52)) = w1 at q1 hb1 ⊢
  have q2 := heap_push w1 (.cells #[.int .i64 1, .int .i64 1, .int .i64 0, .int .i64 0, .int .i64 6, .string ⟨#[]⟩] 52)
  have q1 := heap_old w1 (.cells #[.int .i64 1, .int .i64 1, .int .i64 0, .int .i64 0, .int .i64 6, .string ⟨#[]⟩] 52) q1
  have hb5 := hb1.alloc hb1.size (.cells #[.int .i64 1, .int .i64 1, .int .i64 0, .int .i64 0, .int .i64 6, .string ⟨#[]⟩] 52)
  clear hb1
  go_upto_region 3 with fail
  generalize (w1.alloc (.cells #[.int .i64 1, .int .i64 1, .int .i64 0, .int .i64 0, .int .i64 6, .string ⟨#[]⟩] 52)) = w5 at q1 q2 hb5 ⊢
  generalize w1.heap.size = B2 at q2 ⊢
  have k1 := (Array.getElem?_eq_some_iff.1 q1).1
  have k2 := (Array.getElem?_eq_some_iff.1 q2).1
  go_cut [3, 5] (fun t3 t5 w' => ∃ gd x4 y4 z4 x5 y5 z5 x6 y6 z6, t3 = .pointer (some ⟨gd, 0, none⟩) ∧ t5 = .int .i64 0 ∧ TellIs w5 w' gd x4 y4 z4 x5 y5 z5 x6 y6 z6 V)
  case first =>
    have hS0 : Below w5.heap.size w5 w5.drew ∧ w5.drew.cell? ⟨w.heap.size, 0, none⟩ = some (.int .i64 1) ∧ w5.drew.cell? ⟨w.heap.size, 1, none⟩ = some (.int .i64 0) ∧ w5.drew.cell? ⟨w.heap.size, 2, none⟩ = some (.int .i64 0) ∧ w5.drew.cell? ⟨w.heap.size, 3, none⟩ = some (.int .i64 0) ∧ w5.drew.cell? ⟨w.heap.size, 4, none⟩ = some (.int .i64 5) ∧ w5.drew.cell? ⟨w.heap.size, 5, none⟩ = some (.string ⟨#[120]⟩) ∧ w5.drew.cell? ⟨B2, 0, none⟩ = some (.int .i64 1) ∧ w5.drew.cell? ⟨B2, 1, none⟩ = some (.int .i64 1) ∧ w5.drew.cell? ⟨B2, 2, none⟩ = some (.int .i64 0) ∧ w5.drew.cell? ⟨B2, 3, none⟩ = some (.int .i64 0) ∧ w5.drew.cell? ⟨B2, 4, none⟩ = some (.int .i64 6) ∧ w5.drew.cell? ⟨B2, 5, none⟩ = some (.string ⟨#[]⟩) := ⟨(Below.refl _ _).drew, heap_cell q1 0 _ rfl, heap_cell q1 1 _ rfl, heap_cell q1 2 _ rfl, heap_cell q1 3 _ rfl, heap_cell q1 4 _ rfl, heap_cell q1 5 _ rfl, heap_cell q2 0 _ rfl, heap_cell q2 1 _ rfl, heap_cell q2 2 _ rfl, heap_cell q2 3 _ rfl, heap_cell q2 4 _ rfl, heap_cell q2 5 _ rfl⟩
    have HB := Lib.hid (fun w' (h : Below w5.heap.size w5 w' ∧ w'.cell? ⟨w.heap.size, 0, none⟩ = some (.int .i64 1) ∧ w'.cell? ⟨w.heap.size, 1, none⟩ = some (.int .i64 0) ∧ w'.cell? ⟨w.heap.size, 2, none⟩ = some (.int .i64 0) ∧ w'.cell? ⟨w.heap.size, 3, none⟩ = some (.int .i64 0) ∧ w'.cell? ⟨w.heap.size, 4, none⟩ = some (.int .i64 5) ∧ w'.cell? ⟨w.heap.size, 5, none⟩ = some (.string ⟨#[120]⟩) ∧ w'.cell? ⟨B2, 0, none⟩ = some (.int .i64 1) ∧ w'.cell? ⟨B2, 1, none⟩ = some (.int .i64 1) ∧ w'.cell? ⟨B2, 2, none⟩ = some (.int .i64 0) ∧ w'.cell? ⟨B2, 3, none⟩ = some (.int .i64 0) ∧ w'.cell? ⟨B2, 4, none⟩ = some (.int .i64 6) ∧ w'.cell? ⟨B2, 5, none⟩ = some (.string ⟨#[]⟩)) => h.1)
    have HE := Lib.hid (fun w' (h : Below w5.heap.size w5 w') => hE.on (below_on hb5 h))
    go_region_held3 (fun w' => Below w5.heap.size w5 w' ∧ w'.cell? ⟨w.heap.size, 0, none⟩ = some (.int .i64 1) ∧ w'.cell? ⟨w.heap.size, 1, none⟩ = some (.int .i64 0) ∧ w'.cell? ⟨w.heap.size, 2, none⟩ = some (.int .i64 0) ∧ w'.cell? ⟨w.heap.size, 3, none⟩ = some (.int .i64 0) ∧ w'.cell? ⟨w.heap.size, 4, none⟩ = some (.int .i64 5) ∧ w'.cell? ⟨w.heap.size, 5, none⟩ = some (.string ⟨#[120]⟩) ∧ w'.cell? ⟨B2, 0, none⟩ = some (.int .i64 1) ∧ w'.cell? ⟨B2, 1, none⟩ = some (.int .i64 1) ∧ w'.cell? ⟨B2, 2, none⟩ = some (.int .i64 0) ∧ w'.cell? ⟨B2, 3, none⟩ = some (.int .i64 0) ∧ w'.cell? ⟨B2, 4, none⟩ = some (.int .i64 6) ∧ w'.cell? ⟨B2, 5, none⟩ = some (.string ⟨#[]⟩))
      (first | assumption | exact heldt k1 k1 k1 k1 k1 k1 k2 k2 k2 k2 k2 k2 (by assumption) (by assumption) | exact heldt k1 k1 k1 k1 k1 k1 k2 k2 k2 k2 k2 k2 (by assumption) ((Below.refl _ _).alloc (Nat.le_refl _) _) | exact heldtg k1 k1 k1 k1 k1 k1 k2 k2 k2 k2 k2 k2 (tell3_grown _ _ _ _ _) (fun j hj => by injection hj with hj; first | omega | exact hlo j hj) (by assumption))
      (first
        | (go_at_call 17; (with_reducible refine (new_any _).mono ?_); rintro e wN ⟨a0, n0, c0, a1, n1, c1, a2, n2, c2, rfl, hWN, hbN⟩; have hSN : Below w5.heap.size w5 wN ∧ wN.cell? ⟨w.heap.size, 0, none⟩ = some (.int .i64 1) ∧ wN.cell? ⟨w.heap.size, 1, none⟩ = some (.int .i64 0) ∧ wN.cell? ⟨w.heap.size, 2, none⟩ = some (.int .i64 0) ∧ wN.cell? ⟨w.heap.size, 3, none⟩ = some (.int .i64 0) ∧ wN.cell? ⟨w.heap.size, 4, none⟩ = some (.int .i64 5) ∧ wN.cell? ⟨w.heap.size, 5, none⟩ = some (.string ⟨#[120]⟩) ∧ wN.cell? ⟨B2, 0, none⟩ = some (.int .i64 1) ∧ wN.cell? ⟨B2, 1, none⟩ = some (.int .i64 1) ∧ wN.cell? ⟨B2, 2, none⟩ = some (.int .i64 0) ∧ wN.cell? ⟨B2, 3, none⟩ = some (.int .i64 0) ∧ wN.cell? ⟨B2, 4, none⟩ = some (.int .i64 6) ∧ wN.cell? ⟨B2, 5, none⟩ = some (.string ⟨#[]⟩) := heldt k1 k1 k1 k1 k1 k1 k2 k2 k2 k2 k2 k2 (by assumption) hbN; have hzN := (HB.out _ hSN).size)
        | (go_at_call 16; (with_reducible refine (R1.out _ _ _ _ _ _ _ _ _ _ _ (HE.out _ (HB.out _ (by assumption))) (by first | exact hWN | exact hWN.on ((Below.refl _ _).alloc (Nat.le_refl _) _) | exact (hWN.on ((Below.refl _ _).alloc (Nat.le_refl _) _)).on ((Below.refl _ _).alloc (Nat.le_refl _) _)) (HH.out _ _ ?hq)).mono ?_); (case hq => (repeat (first | exact heap_push _ _ | exact heap_push2 _ _ _ | refine heap_old _ _ ?_ | refine heap_on hbN ?_))); rintro e wR ⟨x4, y4, z4, x5, y5, z5, x6, y6, z6, x7, z7, rfl, hYR, hIR, hbR⟩; have hSR : Below w5.heap.size w5 wR ∧ wR.cell? ⟨w.heap.size, 0, none⟩ = some (.int .i64 1) ∧ wR.cell? ⟨w.heap.size, 1, none⟩ = some (.int .i64 0) ∧ wR.cell? ⟨w.heap.size, 2, none⟩ = some (.int .i64 0) ∧ wR.cell? ⟨w.heap.size, 3, none⟩ = some (.int .i64 0) ∧ wR.cell? ⟨w.heap.size, 4, none⟩ = some (.int .i64 5) ∧ wR.cell? ⟨w.heap.size, 5, none⟩ = some (.string ⟨#[120]⟩) ∧ wR.cell? ⟨B2, 0, none⟩ = some (.int .i64 1) ∧ wR.cell? ⟨B2, 1, none⟩ = some (.int .i64 1) ∧ wR.cell? ⟨B2, 2, none⟩ = some (.int .i64 0) ∧ wR.cell? ⟨B2, 3, none⟩ = some (.int .i64 0) ∧ wR.cell? ⟨B2, 4, none⟩ = some (.int .i64 6) ∧ wR.cell? ⟨B2, 5, none⟩ = some (.string ⟨#[]⟩) := heldt k1 k1 k1 k1 k1 k1 k2 k2 k2 k2 k2 k2 (by assumption) hbR; have hBR := HB.out _ hSR; have hzR := hBR.size; (first | (have tb0 : wR.heap[w5.heap.size]? = some (.cells #[.slice none 0 0, .slice none 0 0, .slice none 0 0] 28) := ?tbp; (case tbp => (repeat (first | exact heap_push _ _ | exact heap_push2 _ _ _ | refine heap_on hbR ?_ | refine heap_old _ _ ?_ | refine heap_on hbN ?_))); have t0 := heap_cell tb0 0 _ rfl; have f0 := frozen_of_row wR _ 0 _ _ tb0; have t1 := heap_cell tb0 1 _ rfl; have f1 := frozen_of_row wR _ 1 _ _ tb0; have t2 := heap_cell tb0 2 _ rfl; have f2 := frozen_of_row wR _ 2 _ _ tb0) | (have tb1 : wR.heap[wN.heap.size]? = some (.cells #[.slice none 0 0, .slice none 0 0, .slice none 0 0] 28) := ?tbp; (case tbp => (repeat (first | exact heap_push _ _ | exact heap_push2 _ _ _ | refine heap_on hbR ?_ | refine heap_old _ _ ?_ | refine heap_on hbN ?_))); have t0 := heap_cell tb1 0 _ rfl; have f0 := frozen_of_row wR _ 0 _ _ tb1; have t1 := heap_cell tb1 1 _ rfl; have f1 := frozen_of_row wR _ 1 _ _ tb1; have t2 := heap_cell tb1 2 _ rfl; have f2 := frozen_of_row wR _ 2 _ _ tb1) | (have tb2 : wR.heap[w5.heap.size + 1]? = some (.cells #[.slice none 0 0, .slice none 0 0, .slice none 0 0] 28) := ?tbp; (case tbp => (repeat (first | exact heap_push _ _ | exact heap_push2 _ _ _ | refine heap_on hbR ?_ | refine heap_old _ _ ?_ | refine heap_on hbN ?_))); have t0 := heap_cell tb2 0 _ rfl; have f0 := frozen_of_row wR _ 0 _ _ tb2; have t1 := heap_cell tb2 1 _ rfl; have f1 := frozen_of_row wR _ 1 _ _ tb2; have t2 := heap_cell tb2 2 _ rfl; have f2 := frozen_of_row wR _ 2 _ _ tb2) | (have tb3 : wR.heap[wN.heap.size + 1]? = some (.cells #[.slice none 0 0, .slice none 0 0, .slice none 0 0] 28) := ?tbp; (case tbp => (repeat (first | exact heap_push _ _ | exact heap_push2 _ _ _ | refine heap_on hbR ?_ | refine heap_old _ _ ?_ | refine heap_on hbN ?_))); have t0 := heap_cell tb3 0 _ rfl; have f0 := frozen_of_row wR _ 0 _ _ tb3; have t1 := heap_cell tb3 1 _ rfl; have f1 := frozen_of_row wR _ 1 _ _ tb3; have t2 := heap_cell tb3 2 _ rfl; have f2 := frozen_of_row wR _ 2 _ _ tb3) | skip)))
    all_goals
      go_wp2_with fail
      go_meet
      case rel =>
        first
          | exact ⟨w5.heap.size, x4, y4, z4, x5, y5, z5, x6, y6, z6, rfl, rfl, TellIs.set (by omega) hBR tb0 hYR⟩
          | exact ⟨wN.heap.size, x4, y4, z4, x5, y5, z5, x6, y6, z6, rfl, rfl, TellIs.set (by omega) hBR tb1 hYR⟩
          | exact ⟨w5.heap.size + 1, x4, y4, z4, x5, y5, z5, x6, y6, z6, rfl, rfl, TellIs.set (by omega) hBR tb2 hYR⟩
          | exact ⟨wN.heap.size + 1, x4, y4, z4, x5, y5, z5, x6, y6, z6, rfl, rfl, TellIs.set (by omega) hBR tb3 hYR⟩
          | exact ⟨wR.heap.size, x4, y4, z4, x5, y5, z5, x6, y6, z6, rfl, rfl, TellIs.push hBR hYR⟩
  case rest =>
    obtain ⟨gd, x4, y4, z4, x5, y5, z5, x6, y6, z6, rfl, rfl, q3, hV, hbc⟩ := hcut
    obtain ⟨w6, hw6⟩ : ∃ x, x = wc := ⟨_, rfl⟩
    subst hw6
    have hb6 := below_on hb5 hbc
    clear hb5 hbc q1 q2 k1 k2 R1 HH
    have dq3_0 := heap_cell q3 0 _ rfl
    have dq3_1 := heap_cell q3 1 _ rfl
    have dq3_2 := heap_cell q3 2 _ rfl
    go_wp2_with fail
    refine (S1.out _ _ _ _ _ _ _ _ _ w6 (hE.on hb6) hV).mono ?_
    rintro e w7 ⟨rfl, hb7⟩
    have q3 := heap_on hb7 q3
    have hV := hV.on hb7
    have hb7 := below_on hb6 hb7
    clear hb6
    clear dq3_0 dq3_1 dq3_2
    have dq3_0 := heap_cell q3 0 _ rfl
    have dq3_1 := heap_cell q3 1 _ rfl
    have dq3_2 := heap_cell q3 2 _ rfl
    go_wp2_with fail
    refine (S2.out _ _ _ _ _ _ _ _ _ w7 (hE.on hb7) hV).mono ?_
    rintro e w8 ⟨rfl, hb8⟩
    have q3 := heap_on hb8 q3
    have hV := hV.on hb8
    have hb8 := below_on hb7 hb8
    clear hb7
    clear dq3_0 dq3_1 dq3_2
    have dq3_0 := heap_cell q3 0 _ rfl
    have dq3_1 := heap_cell q3 1 _ rfl
    have dq3_2 := heap_cell q3 2 _ rfl
    go_wp2_with fail
    refine (S4.out _ _ _ _ _ _ _ _ _ w8 hV).mono ?_
    rintro e w9 ⟨rfl, hb9⟩
    have q3 := heap_on hb9 q3
    have hV := hV.on hb9
    have hb9 := below_on hb8 hb9
    clear hb8
    clear dq3_0 dq3_1 dq3_2
    have dq3_0 := heap_cell q3 0 _ rfl
    have dq3_1 := heap_cell q3 1 _ rfl
    have dq3_2 := heap_cell q3 2 _ rfl
    go_wp2_with fail
    refine (S3.out _ _ _ _ _ _ _ _ _ w9 (hE.on hb9) hV).mono ?_
    rintro e w10 ⟨rfl, hb10⟩
    have q3 := heap_on hb10 q3
    have hV := hV.on hb10
    have hb10 := below_on hb9 hb10
    clear hb9
    clear dq3_0 dq3_1 dq3_2
    go_wp2_with fail
    go_ret
    exact ⟨rfl, hb10⟩
end Go.Proofs.YtnemiobgmdpnmagGreatFmt
