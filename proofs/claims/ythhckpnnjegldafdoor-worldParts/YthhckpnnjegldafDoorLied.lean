/-
  The closed fact that chapter 11's statements ask for first.
-/
import Derived.Test.YthhckpnnjegldafDoorWorldAll
import Derived.Test.YthhckpnnjegldafDoorMaths
import Derived.Test.YthhckpnnjegldafDoorBlocks
import Derived.Test.YthhckpnnjegldafDoorErrs
namespace Go.Proofs.YthhckpnnjegldafDoor
open Go Go.RowKit Go.Maps

def liedS : List Int := [0, 0, 0, 0, 0, 0, 0, 0, 0, 0, 7]
theorem lied_e : runE newW liedL = 0 := run_good new_w (by decide)
theorem lied_r : runW newW liedL = liedW := if_pos lied_e
theorem lied_s : runS newW liedL = liedS := (if_pos lied_e).trans lied_said
theorem lied_e2 : runE liedW liedM = 0 := run_good lied_w (by decide)
theorem lied_r2 : runW liedW liedM = liedV := if_pos lied_e2
theorem lied_s2 : runS liedW liedM = saidL liedW liedM := if_pos lied_e2
theorem lied_s3 : (saidL liedW liedM).length = 1 := rfl
theorem map_len {l : List CliB} {a b c : Bool} (h : l.map (·.2.2.2) = [a, b, c]) : l.length = 3 ∧ (cliOf l 0).2.2.2 = a ∧ (cliOf l 1).2.2.2 = b ∧ (cliOf l 2).2.2.2 = c := by
  match l, h with
  | [x, y, z], h =>
    simp only [List.map_cons, List.map_nil, List.cons.injEq, and_true] at h
    exact ⟨rfl, h.1, h.2.1, h.2.2⟩
/- The cells of happenings, in a row. -/
def hapCells (l : List HapB) : List Value := l.flatMap fun x => [.int .i64 x.kind, .int .i64 x.side, .int .i64 x.who, .int .i64 x.other, .int .i64 x.e.1, .string x.e.2]
theorem hapCells_at : ∀ (l : List HapB) (i : Nat), i < l.length → (hapCells l)[i * 6]? = some (.int .i64 (hapOf l i).kind) ∧ (hapCells l)[i * 6 + 1]? = some (.int .i64 (hapOf l i).side) ∧ (hapCells l)[i * 6 + 2]? = some (.int .i64 (hapOf l i).who) ∧
    (hapCells l)[i * 6 + 3]? = some (.int .i64 (hapOf l i).other) ∧ (hapCells l)[i * 6 + 4]? = some (.int .i64 (hapOf l i).e.1) ∧ (hapCells l)[i * 6 + 5]? = some (.string (hapOf l i).e.2)
  | s :: l, 0, _ => by simp [hapCells, hapOf]
  | s :: l, i + 1, h => by
    have := hapCells_at l i (by simpa using h)
    have e1 : hapCells (s :: l) = .int .i64 s.kind :: .int .i64 s.side :: .int .i64 s.who :: .int .i64 s.other :: .int .i64 s.e.1 :: .string s.e.2 :: hapCells l := by simp [hapCells]
    have e2 : hapOf (s :: l) (i + 1) = hapOf l i := by simp [hapOf]
    rw [e1, e2, show (i + 1) * 6 = i * 6 + 1 + 1 + 1 + 1 + 1 + 1 by omega]
    simpa using this
theorem haps_heap {w : World} {g : Nat} {t : TypeId} {l : List HapB} (h : w.heap[g]? = some (.cells (hapCells l).toArray t)) (hs : ∀ x ∈ l, WideHap x) (hl : l.length ≤ 1000) : HapsAt w (some ⟨g, 0, none⟩) l.length l := by
  refine ⟨Nat.le_refl _, by omega, hs, fun _ => ⟨g, 0, rfl, (Array.getElem?_eq_some_iff.1 h).1, fun i hi => ?_⟩⟩
  obtain ⟨e1, e2, e3, e4, e5, e6⟩ := hapCells_at l i hi
  unfold sixAt
  rw [Nat.zero_add]
  exact ⟨heap_cell h _ _ (by simpa using e1), heap_cell h _ _ (by simpa using e2), heap_cell h _ _ (by simpa using e3), heap_cell h _ _ (by simpa using e4), heap_cell h _ _ (by simpa using e5), heap_cell h _ _ (by simpa using e6)⟩
theorem ints_heap {w : World} {g : Nat} {t : TypeId} {l : List Int} (h : w.heap[g]? = some (.cells (l.map (Value.int .i64)).toArray t)) (hs : ∀ x ∈ l, -9223372036854775808 ≤ x ∧ x ≤ 9223372036854775807) (hl : l.length ≤ 1000) : IntsAt w (some ⟨g, 0, none⟩) l.length l := by
  refine ⟨Nat.le_refl _, by omega, hs, fun _ => ⟨g, 0, rfl, (Array.getElem?_eq_some_iff.1 h).1, fun i hi => ?_⟩⟩
  rw [Nat.zero_add]
  refine heap_cell h _ _ ?_
  simp [hi, List.getD_eq_getElem?_getD]
instance (x : HapB) : Decidable (WideHap x) := by unfold WideHap WideEnt; infer_instance
theorem lied_wide : ∀ x ∈ liedL, WideHap x := by decide +kernel
theorem lied_wide2 : ∀ x ∈ liedM, WideHap x := by decide +kernel
theorem lied_ints : ∀ x ∈ liedS, -9223372036854775808 ≤ x ∧ x ≤ 9223372036854775807 := by decide +kernel
theorem six_cells (a b c d k : Int) (v : ByteArray) : (#[.int .i64 a, .int .i64 b, .int .i64 c, .int .i64 d, .int .i64 k, .string v] : Array Value).all (·.oneCell') = true := by simp [Value.oneCell']

set_option maxRecDepth 100000 in
theorem liedPut_any (s k : Int) (v : ByteArray) (w : World) : Calls Tryd.prog 34 #[.int .i64 s, .int .i64 k, .string v] w fun e w' => e = .returned (.agg #[.int .i64 1, .int .i64 s, .int .i64 0, .int .i64 0, .int .i64 k, .string v]) ∧ Below w.heap.size w w' := by
  have q := heap_push w (.cells #[.int .i64 0, .int .i64 0, .int .i64 0, .int .i64 0, .int .i64 0, .string ⟨#[]⟩] 45)
  have hb : Below w.heap.size w (w.alloc (.cells #[.int .i64 0, .int .i64 0, .int .i64 0, .int .i64 0, .int .i64 0, .string ⟨#[]⟩] 45)) := (Below.refl _ _).alloc (Nat.le_refl _) _
  go_enter Tryd.func34, Tryd.ntmps34
  go_wp2_with (refine wpList_store_row rfl 45 (.tmp 6) (.tmp 11) rfl w.heap.size #[.int .i64 1, .int .i64 s, .int .i64 0, .int .i64 0, .int .i64 k, .string v] rfl rfl _ _ q (by kernel_rfl) rfl (six_cells _ _ _ _ _ _) ?_)
  refine bodyPost_ret (results_cell_row rfl _ _ w.heap.size _ _ _ _ rfl (setRow_heap _ _ _ _ _ _ q) Tryd.underlying45 rfl (by kernel_rfl)) rfl ?_
  exact ⟨rfl, below_setRow hb (Nat.le_refl _) _⟩

set_option maxRecDepth 100000 in
theorem liedSees_any (a s : Int) (w : World) : Calls Tryd.prog 35 #[.int .i64 a, .int .i64 s] w fun e w' => e = .returned (.agg #[.int .i64 3, .int .i64 s, .int .i64 a, .int .i64 0, .int .i64 0, .string ⟨#[]⟩]) ∧ Below w.heap.size w w' := by
  have q := heap_push w (.cells #[.int .i64 0, .int .i64 0, .int .i64 0, .int .i64 0, .int .i64 0, .string ⟨#[]⟩] 45)
  have hb : Below w.heap.size w (w.alloc (.cells #[.int .i64 0, .int .i64 0, .int .i64 0, .int .i64 0, .int .i64 0, .string ⟨#[]⟩] 45)) := (Below.refl _ _).alloc (Nat.le_refl _) _
  go_enter Tryd.func35, Tryd.ntmps35
  go_wp2_with (refine wpList_store_row rfl 45 (.tmp 4) (.tmp 7) rfl w.heap.size #[.int .i64 3, .int .i64 s, .int .i64 a, .int .i64 0, .int .i64 0, .string ⟨#[]⟩] rfl rfl _ _ q (by kernel_rfl) rfl (six_cells _ _ _ _ _ _) ?_)
  refine bodyPost_ret (results_cell_row rfl _ _ w.heap.size _ _ _ _ rfl (setRow_heap _ _ _ _ _ _ q) Tryd.underlying45 rfl (by kernel_rfl)) rfl ?_
  exact ⟨rfl, below_setRow hb (Nat.le_refl _) _⟩

set_option maxHeartbeats 4000000 in
set_option maxRecDepth 100000 in
theorem lied_any (w : World) (hE : Tab w) :
    Calls Tryd.prog 13 #[] w fun e w' => e = .returned (.bool true) ∧ Below w.heap.size w w' := by
  have r1 := fun a0 n0 c0 a1 n1 c1 a2 n2 c2 g w' hE hW hL => run_any newW liedL a0 n0 c0 a1 n1 c1 a2 n2 c2 (some ⟨g, 0, none⟩) 11 11 w' hE hW rfl hL
  rw [lied_e, lied_r, lied_s, show liedS.length = 11 from rfl] at r1
  have r2 := fun a0 n0 c0 a1 n1 c1 a2 n2 c2 g w' hE hW hL => run_any liedW liedM a0 n0 c0 a1 n1 c1 a2 n2 c2 (some ⟨g, 0, none⟩) 1 1 w' hE hW rfl hL
  rw [lied_e2, lied_r2, lied_s2, lied_s3] at r2
  have he := fun a d g w' h1 h2 => equal_errs liedS liedS a (some ⟨g, 0, none⟩) 11 d 11 11 w' rfl rfl h1 h2
  rw [decide_eq_true (rfl : liedS = liedS)] at he
  obtain ⟨p1, p2, p3, _⟩ := map_len lied_calm
  obtain ⟨p4, p5, p6, p7⟩ := map_len lied_caught
  have HH := Lib.hid (fun w' g (h : w'.heap[g]? = some (.cells #[.int .i64 1, .int .i64 0, .int .i64 0, .int .i64 0, .int .i64 5, .string ⟨#[120]⟩, .int .i64 2, .int .i64 0, .int .i64 0, .int .i64 0, .int .i64 0, .string ⟨#[]⟩, .int .i64 3, .int .i64 0, .int .i64 0, .int .i64 0, .int .i64 0, .string ⟨#[]⟩, .int .i64 3, .int .i64 1, .int .i64 1, .int .i64 0, .int .i64 0, .string ⟨#[]⟩, .int .i64 4, .int .i64 0, .int .i64 0, .int .i64 1, .int .i64 0, .string ⟨#[]⟩, .int .i64 1, .int .i64 0, .int .i64 0, .int .i64 0, .int .i64 5, .string ⟨#[121]⟩, .int .i64 1, .int .i64 1, .int .i64 0, .int .i64 0, .int .i64 5, .string ⟨#[122]⟩, .int .i64 3, .int .i64 0, .int .i64 0, .int .i64 0, .int .i64 0, .string ⟨#[]⟩, .int .i64 3, .int .i64 1, .int .i64 1, .int .i64 0, .int .i64 0, .string ⟨#[]⟩, .int .i64 5, .int .i64 0, .int .i64 0, .int .i64 0, .int .i64 5, .string ⟨#[]⟩, .int .i64 5, .int .i64 1, .int .i64 0, .int .i64 0, .int .i64 5, .string ⟨#[]⟩] 45)) => haps_heap (w := w') (g := g) (l := liedL) h lied_wide (by decide))
  have HM := Lib.hid (fun w' g (h : w'.heap[g]? = some (.cells #[.int .i64 4, .int .i64 0, .int .i64 0, .int .i64 1, .int .i64 0, .string ⟨#[]⟩] 45)) => haps_heap (w := w') (g := g) (l := liedM) h lied_wide2 (by decide))
  have HI := Lib.hid (fun w' g (h : w'.heap[g]? = some (.cells #[.int .i64 0, .int .i64 0, .int .i64 0, .int .i64 0, .int .i64 0, .int .i64 0, .int .i64 0, .int .i64 0, .int .i64 0, .int .i64 0, .int .i64 7] 28)) => ints_heap (w := w') (g := g) (l := liedS) h lied_ints (by decide))
  generalize liedW = LW at r1 r2 p1 p2 p3
  generalize liedV = LV at r2 p4 p5 p6 p7
  have R1 := Lib.hid r1
  have R2 := Lib.hid r2
  have QE := Lib.hid he
  clear r1 r2 he
  go_enter Tryd.func13, Tryd.ntmps13
  go_wp2_with fail
  refine (new_any w).mono ?_
  rintro e w1 ⟨a0, n0, c0, a1, n1, c1, a2, n2, c2, rfl, hW, hb1⟩
  go_wp2_with fail
  refine (liedPut_any 0 5 ⟨#[120]⟩ w1).mono ?_
  rintro e w2 ⟨rfl, hb2⟩
  have hW := hW.on hb2
  have hb2 := below_on hb1 hb2
  clear hb1
  go_wp2_with fail
  refine (liedSees_any 0 0 w2).mono ?_
  rintro e w3 ⟨rfl, hb3⟩
  have hW := hW.on hb3
  have hb3 := below_on hb2 hb3
  clear hb2
  go_wp2_with fail
  refine (liedSees_any 1 1 w3).mono ?_
  rintro e w4 ⟨rfl, hb4⟩
  have hW := hW.on hb4
  have hb4 := below_on hb3 hb4
  clear hb3
  go_wp2_with fail
  refine (liedPut_any 0 5 ⟨#[121]⟩ w4).mono ?_
  rintro e w5 ⟨rfl, hb5⟩
  have hW := hW.on hb5
  have hb5 := below_on hb4 hb5
  clear hb4
  go_wp2_with fail
  refine (liedPut_any 1 5 ⟨#[122]⟩ w5).mono ?_
  rintro e w6 ⟨rfl, hb6⟩
  have hW := hW.on hb6
  have hb6 := below_on hb5 hb6
  clear hb5
  go_wp2_with fail
  refine (liedSees_any 0 0 w6).mono ?_
  rintro e w7 ⟨rfl, hb7⟩
  have hW := hW.on hb7
  have hb7 := below_on hb6 hb7
  clear hb6
  go_wp2_with fail
  refine (liedSees_any 1 1 w7).mono ?_
  rintro e w8 ⟨rfl, hb8⟩
  have hW := hW.on hb8
  have hb8 := below_on hb7 hb8
  clear hb7
  have q33 := heap_push w8 (.cells #[.int .i64 1, .int .i64 0, .int .i64 0, .int .i64 0, .int .i64 5, .string ⟨#[120]⟩, .int .i64 2, .int .i64 0, .int .i64 0, .int .i64 0, .int .i64 0, .string ⟨#[]⟩, .int .i64 3, .int .i64 0, .int .i64 0, .int .i64 0, .int .i64 0, .string ⟨#[]⟩, .int .i64 3, .int .i64 1, .int .i64 1, .int .i64 0, .int .i64 0, .string ⟨#[]⟩, .int .i64 4, .int .i64 0, .int .i64 0, .int .i64 1, .int .i64 0, .string ⟨#[]⟩, .int .i64 1, .int .i64 0, .int .i64 0, .int .i64 0, .int .i64 5, .string ⟨#[121]⟩, .int .i64 1, .int .i64 1, .int .i64 0, .int .i64 0, .int .i64 5, .string ⟨#[122]⟩, .int .i64 3, .int .i64 0, .int .i64 0, .int .i64 0, .int .i64 0, .string ⟨#[]⟩, .int .i64 3, .int .i64 1, .int .i64 1, .int .i64 0, .int .i64 0, .string ⟨#[]⟩, .int .i64 5, .int .i64 0, .int .i64 0, .int .i64 0, .int .i64 5, .string ⟨#[]⟩, .int .i64 5, .int .i64 1, .int .i64 0, .int .i64 0, .int .i64 5, .string ⟨#[]⟩] 45)
  have hW := hW.on ((Below.refl _ w8).alloc (Nat.le_refl _) (.cells #[.int .i64 1, .int .i64 0, .int .i64 0, .int .i64 0, .int .i64 5, .string ⟨#[120]⟩, .int .i64 2, .int .i64 0, .int .i64 0, .int .i64 0, .int .i64 0, .string ⟨#[]⟩, .int .i64 3, .int .i64 0, .int .i64 0, .int .i64 0, .int .i64 0, .string ⟨#[]⟩, .int .i64 3, .int .i64 1, .int .i64 1, .int .i64 0, .int .i64 0, .string ⟨#[]⟩, .int .i64 4, .int .i64 0, .int .i64 0, .int .i64 1, .int .i64 0, .string ⟨#[]⟩, .int .i64 1, .int .i64 0, .int .i64 0, .int .i64 0, .int .i64 5, .string ⟨#[121]⟩, .int .i64 1, .int .i64 1, .int .i64 0, .int .i64 0, .int .i64 5, .string ⟨#[122]⟩, .int .i64 3, .int .i64 0, .int .i64 0, .int .i64 0, .int .i64 0, .string ⟨#[]⟩, .int .i64 3, .int .i64 1, .int .i64 1, .int .i64 0, .int .i64 0, .string ⟨#[]⟩, .int .i64 5, .int .i64 0, .int .i64 0, .int .i64 0, .int .i64 5, .string ⟨#[]⟩, .int .i64 5, .int .i64 1, .int .i64 0, .int .i64 0, .int .i64 5, .string ⟨#[]⟩] 45))
  have hb9 := hb8.alloc hb8.size (.cells #[.int .i64 1, .int .i64 0, .int .i64 0, .int .i64 0, .int .i64 5, .string ⟨#[120]⟩, .int .i64 2, .int .i64 0, .int .i64 0, .int .i64 0, .int .i64 0, .string ⟨#[]⟩, .int .i64 3, .int .i64 0, .int .i64 0, .int .i64 0, .int .i64 0, .string ⟨#[]⟩, .int .i64 3, .int .i64 1, .int .i64 1, .int .i64 0, .int .i64 0, .string ⟨#[]⟩, .int .i64 4, .int .i64 0, .int .i64 0, .int .i64 1, .int .i64 0, .string ⟨#[]⟩, .int .i64 1, .int .i64 0, .int .i64 0, .int .i64 0, .int .i64 5, .string ⟨#[121]⟩, .int .i64 1, .int .i64 1, .int .i64 0, .int .i64 0, .int .i64 5, .string ⟨#[122]⟩, .int .i64 3, .int .i64 0, .int .i64 0, .int .i64 0, .int .i64 0, .string ⟨#[]⟩, .int .i64 3, .int .i64 1, .int .i64 1, .int .i64 0, .int .i64 0, .string ⟨#[]⟩, .int .i64 5, .int .i64 0, .int .i64 0, .int .i64 0, .int .i64 5, .string ⟨#[]⟩, .int .i64 5, .int .i64 1, .int .i64 0, .int .i64 0, .int .i64 5, .string ⟨#[]⟩] 45)
  clear hb8
  go_wp2_with fail
  generalize (w8.alloc (.cells #[.int .i64 1, .int .i64 0, .int .i64 0, .int .i64 0, .int .i64 5, .string ⟨#[120]⟩, .int .i64 2, .int .i64 0, .int .i64 0, .int .i64 0, .int .i64 0, .string ⟨#[]⟩, .int .i64 3, .int .i64 0, .int .i64 0, .int .i64 0, .int .i64 0, .string ⟨#[]⟩, .int .i64 3, .int .i64 1, .int .i64 1, .int .i64 0, .int .i64 0, .string ⟨#[]⟩, .int .i64 4, .int .i64 0, .int .i64 0, .int .i64 1, .int .i64 0, .string ⟨#[]⟩, .int .i64 1, .int .i64 0, .int .i64 0, .int .i64 0, .int .i64 5, .string ⟨#[121]⟩, .int .i64 1, .int .i64 1, .int .i64 0, .int .i64 0, .int .i64 5, .string ⟨#[122]⟩, .int .i64 3, .int .i64 0, .int .i64 0, .int .i64 0, .int .i64 0, .string ⟨#[]⟩, .int .i64 3, .int .i64 1, .int .i64 1, .int .i64 0, .int .i64 0, .string ⟨#[]⟩, .int .i64 5, .int .i64 0, .int .i64 0, .int .i64 0, .int .i64 5, .string ⟨#[]⟩, .int .i64 5, .int .i64 1, .int .i64 0, .int .i64 0, .int .i64 5, .string ⟨#[]⟩] 45)) = w9 at q33 hW hb9 ⊢
  generalize w8.heap.size = B33 at q33 ⊢
  have hL := HH.out w9 B33 q33
  refine (R1.out a0 n0 c0 a1 n1 c1 a2 n2 c2 B33 w9 (hE.on hb9) hW hL).mono ?_
  rintro e w10 ⟨x0, y0, z0, x1, y1, z1, x2, y2, z2, x3, z3, rfl, hV, hI, hb10⟩
  have q33 := heap_on hb10 q33
  have hb10 := below_on hb9 hb10
  clear hb9
  clear hL hW R1 HH q33
  obtain rfl : y2 = 3 := by rw [← hV.l2]; exact p1
  obtain ⟨b, o, rfl, _, hc⟩ := hV.e2.cells (by omega)
  have zc := hV.e2.cap
  have zm := hV.e2.max
  rw [p1] at zc
  clear hc
  have q3 := heap_push w10 (.cells #[.slice x0 y0 z0, .slice x1 y1 z1, .slice (some ⟨b, o, none⟩) 3 z2] 43)
  have hV := hV.on ((Below.refl _ w10).alloc (Nat.le_refl _) (.cells #[.slice x0 y0 z0, .slice x1 y1 z1, .slice (some ⟨b, o, none⟩) 3 z2] 43))
  have hI := hI.on ((Below.refl _ w10).alloc (Nat.le_refl _) (.cells #[.slice x0 y0 z0, .slice x1 y1 z1, .slice (some ⟨b, o, none⟩) 3 z2] 43))
  have hb11 := hb10.alloc hb10.size (.cells #[.slice x0 y0 z0, .slice x1 y1 z1, .slice (some ⟨b, o, none⟩) 3 z2] 43)
  clear hb10
  have dq3_0 := heap_cell q3 0 _ rfl
  have dq3_1 := heap_cell q3 1 _ rfl
  have dq3_2 := heap_cell q3 2 _ rfl
  go_upto_region 5 with fail
  generalize (w10.alloc (.cells #[.slice x0 y0 z0, .slice x1 y1 z1, .slice (some ⟨b, o, none⟩) 3 z2] 43)) = w11 at q3 dq3_0 dq3_1 dq3_2 hV hI hb11 ⊢
  generalize w10.heap.size = B3 at q3 dq3_0 dq3_1 dq3_2 ⊢
  obtain ⟨b', o', hbo, _, hc⟩ := hV.e2.cells (by omega)
  injection hbo with hbo
  injection hbo with h1 h2
  subst h1 h2
  have c0 := (hc 0 (by omega)).2.2.2
  have c1 := (hc 1 (by omega)).2.2.2
  rw [p2] at c0
  rw [p3] at c1
  rw [show o + 0 * 4 + 3 = o + 3 by omega] at c0
  rw [show o + 1 * 4 + 3 = o + 4 + 3 by omega] at c1
  clear hc
  have q3 := heap_old w11 (.cells #[.int .i64 4, .int .i64 0, .int .i64 0, .int .i64 1, .int .i64 0, .string ⟨#[]⟩] 45) q3
  have q60 := heap_push w11 (.cells #[.int .i64 4, .int .i64 0, .int .i64 0, .int .i64 1, .int .i64 0, .string ⟨#[]⟩] 45)
  have hV := hV.on ((Below.refl _ w11).alloc (Nat.le_refl _) (.cells #[.int .i64 4, .int .i64 0, .int .i64 0, .int .i64 1, .int .i64 0, .string ⟨#[]⟩] 45))
  have hI := hI.on ((Below.refl _ w11).alloc (Nat.le_refl _) (.cells #[.int .i64 4, .int .i64 0, .int .i64 0, .int .i64 1, .int .i64 0, .string ⟨#[]⟩] 45))
  have hb12 := hb11.alloc hb11.size (.cells #[.int .i64 4, .int .i64 0, .int .i64 0, .int .i64 1, .int .i64 0, .string ⟨#[]⟩] 45)
  clear hb11
  go_wp2_with fail
  generalize (w11.alloc (.cells #[.int .i64 4, .int .i64 0, .int .i64 0, .int .i64 1, .int .i64 0, .string ⟨#[]⟩] 45)) = w12 at q3 q60 hV hI hb12 ⊢
  generalize w11.heap.size = B60 at q60 ⊢
  clear c0 c1 dq3_0 dq3_1 dq3_2
  have hL := HM.out w12 B60 q60
  refine (R2.out x0 y0 z0 x1 y1 z1 (some ⟨b, o, none⟩) 3 z2 B60 w12 (hE.on hb12) hV hL).mono ?_
  rintro e w13 ⟨u0, v0, t0, u1, v1, t1, u2, v2, t2, u3, t3, rfl, hU, hJ, hb13⟩
  have hI := hI.on hb13
  have hb13 := below_on hb12 hb13
  clear hb12
  clear hL hV R2 HM q60 q3 zc zm p1 p2 p3
  obtain rfl : v2 = 3 := by rw [← hU.l2]; exact p4
  obtain ⟨b, o, rfl, _, hc⟩ := hU.e2.cells (by omega)
  have zc := hU.e2.cap
  have zm := hU.e2.max
  rw [p4] at zc
  clear hc
  have q8 := heap_push w13 (.cells #[.slice u0 v0 t0, .slice u1 v1 t1, .slice (some ⟨b, o, none⟩) 3 t2] 43)
  have hI := hI.on ((Below.refl _ w13).alloc (Nat.le_refl _) (.cells #[.slice u0 v0 t0, .slice u1 v1 t1, .slice (some ⟨b, o, none⟩) 3 t2] 43))
  have hU := hU.on ((Below.refl _ w13).alloc (Nat.le_refl _) (.cells #[.slice u0 v0 t0, .slice u1 v1 t1, .slice (some ⟨b, o, none⟩) 3 t2] 43))
  have hb14 := hb13.alloc hb13.size (.cells #[.slice u0 v0 t0, .slice u1 v1 t1, .slice (some ⟨b, o, none⟩) 3 t2] 43)
  clear hb13
  go_upto_region 7 with fail
  generalize (w13.alloc (.cells #[.slice u0 v0 t0, .slice u1 v1 t1, .slice (some ⟨b, o, none⟩) 3 t2] 43)) = w14 at q8 hI hU hb14 ⊢
  generalize w13.heap.size = B8 at q8 ⊢
  have hi1 := hI.cap
  have hi2 := hI.max
  have q8 := heap_old w14 (.cells #[.int .i64 0, .int .i64 0, .int .i64 0, .int .i64 0, .int .i64 0, .int .i64 0, .int .i64 0, .int .i64 0, .int .i64 0, .int .i64 0, .int .i64 7] 28) q8
  have q76 := heap_push w14 (.cells #[.int .i64 0, .int .i64 0, .int .i64 0, .int .i64 0, .int .i64 0, .int .i64 0, .int .i64 0, .int .i64 0, .int .i64 0, .int .i64 0, .int .i64 7] 28)
  have hI := hI.on ((Below.refl _ w14).alloc (Nat.le_refl _) (.cells #[.int .i64 0, .int .i64 0, .int .i64 0, .int .i64 0, .int .i64 0, .int .i64 0, .int .i64 0, .int .i64 0, .int .i64 0, .int .i64 0, .int .i64 7] 28))
  have hU := hU.on ((Below.refl _ w14).alloc (Nat.le_refl _) (.cells #[.int .i64 0, .int .i64 0, .int .i64 0, .int .i64 0, .int .i64 0, .int .i64 0, .int .i64 0, .int .i64 0, .int .i64 0, .int .i64 0, .int .i64 7] 28))
  have hb15 := hb14.alloc hb14.size (.cells #[.int .i64 0, .int .i64 0, .int .i64 0, .int .i64 0, .int .i64 0, .int .i64 0, .int .i64 0, .int .i64 0, .int .i64 0, .int .i64 0, .int .i64 7] 28)
  clear hb14
  go_wp2_with fail
  generalize (w14.alloc (.cells #[.int .i64 0, .int .i64 0, .int .i64 0, .int .i64 0, .int .i64 0, .int .i64 0, .int .i64 0, .int .i64 0, .int .i64 0, .int .i64 0, .int .i64 7] 28)) = w15 at q8 q76 hI hU hb15 ⊢
  generalize w14.heap.size = B76 at q76 ⊢
  have hK := HI.out w15 B76 q76
  refine (QE.out x3 z3 B76 w15 hI hK).mono ?_
  rintro e w16 ⟨rfl, hb16⟩
  have q8 := heap_on hb16 q8
  have q76 := heap_on hb16 q76
  have hI := hI.on hb16
  have hU := hU.on hb16
  have hb16 := below_on hb15 hb16
  clear hb15
  obtain ⟨b', o', hbo, _, hc⟩ := hU.e2.cells (by omega)
  injection hbo with hbo
  injection hbo with h1 h2
  subst h1 h2
  have c0 := (hc 0 (by omega)).2.2.2
  have c1 := (hc 1 (by omega)).2.2.2
  have c2 := (hc 2 (by omega)).2.2.2
  rw [p5] at c0
  rw [p6] at c1
  rw [p7] at c2
  rw [show o + 0 * 4 + 3 = o + 3 by omega] at c0
  rw [show o + 1 * 4 + 3 = o + 4 + 3 by omega] at c1
  rw [show o + 2 * 4 + 3 = o + 8 + 3 by omega] at c2
  clear hc
  have dq8_0 := heap_cell q8 0 _ rfl
  have dq8_1 := heap_cell q8 1 _ rfl
  have dq8_2 := heap_cell q8 2 _ rfl
  go_wp2_with fail
  go_ret
  exact ⟨rfl, hb16⟩
end Go.Proofs.YthhckpnnjegldafDoor
