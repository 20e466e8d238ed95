/-
  BookOne's walk: of whatever two books and entry it answers true.
-/
import Derived.Test.YtegilmaplhkkiadDoorHeadAny
import Derived.Test.YtegilmaplhkkiadDoorBooked
import Derived.Test.YtegilmaplhkkiadDoorEntSlices
import Derived.Test.YtegilmaplhkkiadDoorMapEqual
import Derived.Maps.RangeWalk
import Derived.Laws.IdiomRangeMap
import Derived.Deep.DeepCutAuto
namespace Go.Proofs.YtegilmaplhkkiadDoor
open Go Go.RowKit Go.Maps

set_option maxHeartbeats 1000000 in
set_option maxRecDepth 100000 in
theorem bookOne_eq_no (l : List EntB) (a1 : Option Addr) (n1 c1 : Nat) (a2 : Option Addr) (n2 c2 : Nat) (k : Int) (v : ByteArray) (w : World) (hE : Tab w) (hn1 : l.length = n1) (hn2 : l.length = n2) (hS1 : EntsAt w a1 c1 l) (hS2 : EntsAt w a2 c2 l) (hx : WideEnt (k, v)) (h1 : bookE l = 0) (z : Int) (hz : bookE (l ++ [(k, v)]) = z) (hz0 : z ≠ 0) :
    Calls Tryd.prog 4 #[.agg #[.slice a1 n1 c1], .agg #[.slice a2 n2 c2], .agg #[.int .i64 k, .string v]] w fun e w' => e = .returned (.bool true) ∧ Below w.heap.size w w' := by
  have hh1 := fun w' hE hS => head_any l a1 n1 c1 w' hE hn1 hS
  have hh2 := fun w' hE hS => head_any l a2 n2 c2 w' hE hn2 hS
  have HP := Lib.hid (fun w' hS => put_no l a1 n1 c1 k v w' hn1 hS hx h1 z hz hz0)
  have hzb : (z == 0) = false := by simp only [beq_eq_false_iff_ne, ne_eq]; exact hz0
  have HQ := Lib.hid (fun w' h h' => equal_ents l l a1 a2 n1 c1 n2 c2 w' hn1 hn2 h h')
  rw [decide_eq_true (rfl : l = l)] at HQ
  rw [h1] at hh1 hh2
  generalize headN l = N1 at *
  generalize headL l = L1 at *
  generalize headM l = M1 at *
  have HH1 := Lib.hid hh1
  have HH2 := Lib.hid hh2
  clear hh1 hh2 h1 hz
  obtain ⟨q0, q1, q2, qs⟩ := boxes3 w (.cells #[.slice a1 n1 c1] 37) (.cells #[.slice a2 n2 c2] 37) (.cells #[.int .i64 k, .string v] 39)
  have hb0 := below3 w (.cells #[.slice a1 n1 c1] 37) (.cells #[.slice a2 n2 c2] 37) (.cells #[.int .i64 k, .string v] 39)
  have m1 := hS1.max
  have m2 := hS2.max
  have p1 := hS1.cap
  have p2 := hS2.cap
  go_enter Tryd.func4, Tryd.ntmps4
  go_wp2_with fail
  generalize (((w.alloc (.cells #[.slice a1 n1 c1] 37)).alloc (.cells #[.slice a2 n2 c2] 37)).alloc (.cells #[.int .i64 k, .string v] 39)) = W at q0 q1 q2 qs hb0 ⊢
  refine (HH1.out W (hE.on hb0) (hS1.on hb0)).mono ?_
  rintro e w1 ⟨rfl, hb1⟩
  have r0 := heap_on hb1 q0
  have r1 := heap_on hb1 q1
  have r2 := heap_on hb1 q2
  have hb1 := below_on hb0 hb1
  clear hb0 q0 q1 q2 qs HH1
  have s0 := heap_old w1 (.cells #[.int .i64 N1, .string L1, .string M1] 41) r0
  have s1 := heap_old w1 (.cells #[.int .i64 N1, .string L1, .string M1] 41) r1
  have s2 := heap_old w1 (.cells #[.int .i64 N1, .string L1, .string M1] 41) r2
  have s3 := heap_push w1 (.cells #[.int .i64 N1, .string L1, .string M1] 41)
  have hb2 := hb1.alloc hb1.size (.cells #[.int .i64 N1, .string L1, .string M1] 41)
  have d1 := heap_cell s1 0 _ rfl
  clear hb1 r0 r1 r2
  go_wp2_with fail
  generalize (w1.alloc (.cells #[.int .i64 N1, .string L1, .string M1] 41)) = w2 at s0 s1 s2 s3 hb2 d1 ⊢
  generalize w1.heap.size = B3 at s3 ⊢
  refine (HH2.out w2 (hE.on hb2) (hS2.on hb2)).mono ?_
  rintro e w3 ⟨rfl, hb3⟩
  have r0 := heap_on hb3 s0
  have r1 := heap_on hb3 s1
  have r2 := heap_on hb3 s2
  have r3 := heap_on hb3 s3
  have hb3 := below_on hb2 hb3
  clear hb2 s0 s1 s2 s3 d1 HH2
  have s0 := heap_old w3 (.cells #[.int .i64 N1, .string L1, .string M1] 41) r0
  have s1 := heap_old w3 (.cells #[.int .i64 N1, .string L1, .string M1] 41) r1
  have s2 := heap_old w3 (.cells #[.int .i64 N1, .string L1, .string M1] 41) r2
  have s3 := heap_old w3 (.cells #[.int .i64 N1, .string L1, .string M1] 41) r3
  have s4 := heap_push w3 (.cells #[.int .i64 N1, .string L1, .string M1] 41)
  have hb4 := hb3.alloc hb3.size (.cells #[.int .i64 N1, .string L1, .string M1] 41)
  clear hb3 r0 r1 r2 r3
  go_upto_region 3 with fail
  generalize (w3.alloc (.cells #[.int .i64 N1, .string L1, .string M1] 41)) = w4 at s0 s1 s2 s3 s4 hb4 ⊢
  generalize w3.heap.size = B4 at s4 ⊢
  have cF := Lib.hid (fun d os => Calls.regrown_of (booked_any (Sort.grow (redrawn w4 d) os) (hE.on (below_on hb4 (below_regrown w4 d os)))))
  have cG := Lib.hid (fun d os => Calls.regrown_of (HQ.out (Sort.grow (redrawn w4 d) os) (hS1.on (below_on hb4 (below_regrown w4 d os))) (hS2.on (below_on hb4 (below_regrown w4 d os)))))
  have k0 := fun d os => cell_regrown (heap_cell s0 0 _ rfl) d os
  have k1 := fun d os => cell_regrown (heap_cell s1 0 _ rfl) d os
  have k3 := fun d os => cell_regrown (heap_cell s3 0 _ rfl) d os
  have k4 := fun d os => cell_regrown (heap_cell s3 1 _ rfl) d os
  have k5 := fun d os => cell_regrown (heap_cell s3 2 _ rfl) d os
  have k6 := fun d os => cell_regrown (heap_cell s4 0 _ rfl) d os
  have k7 := fun d os => cell_regrown (heap_cell s4 1 _ rfl) d os
  have k8 := fun d os => cell_regrown (heap_cell s4 2 _ rfl) d os
  go_wp2_with fail
  refine wp_region_quiet_below (by kernel_rfl) (by kernel_rfl) ?_
  repeat (first | go_big_quiet_step (first | with_reducible exact cF.out _ _ | with_reducible exact cG.out _ _) | quiet_step (first | with_reducible exact cF.out _ _ | with_reducible exact cG.out _ _))
  refine wpQuiet_nil ?_
  intro _ hw'
  obtain ⟨⟨dq, osq⟩, hw''⟩ := hw'
  subst hw''
  have hbq := below_regrown w4 dq osq
  clear cF cG k0 k1 k3 k4 k5 k6 k7 k8 HQ
  have r0 := heap_on hbq s0
  have r2 := heap_on hbq s2
  have hb5 := below_on hb4 hbq
  generalize Sort.grow (redrawn w4 dq) osq = w5 at r0 r2 hb5 ⊢
  clear hbq s0 s1 s2 s3 s4 hb4
  have d0 := heap_cell r0 0 _ rfl
  have d1 := heap_cell r2 0 _ rfl
  have d2 := heap_cell r2 1 _ rfl
  go_wp2_with fail
  refine (HP.out w5 (hS1.on hb5)).mono ?_
  rintro e w6 ⟨rfl, hb6⟩
  have hb6 := below_on hb5 hb6
  have hb7 := hb6.alloc hb6.size (.cells #[.slice none 0 0] 37)
  go_wp2_with fail
  go_ret
  exact ⟨rfl, hb7⟩

set_option maxHeartbeats 1000000 in
set_option maxRecDepth 100000 in
theorem bookOne_eq_ok (l : List EntB) (a1 : Option Addr) (n1 c1 : Nat) (a2 : Option Addr) (n2 c2 : Nat) (k : Int) (v : ByteArray) (w : World) (hE : Tab w) (hn1 : l.length = n1) (hn2 : l.length = n2) (hS1 : EntsAt w a1 c1 l) (hS2 : EntsAt w a2 c2 l) (hx : WideEnt (k, v)) (h1 : bookE l = 0) (hz : bookE (l ++ [(k, v)]) = 0) :
    Calls Tryd.prog 4 #[.agg #[.slice a1 n1 c1], .agg #[.slice a2 n2 c2], .agg #[.int .i64 k, .string v]] w fun e w' => e = .returned (.bool true) ∧ Below w.heap.size w w' := by
  have hh1 := fun w' hE hS => head_any l a1 n1 c1 w' hE hn1 hS
  have hh2 := fun w' hE hS => head_any l a2 n2 c2 w' hE hn2 hS
  have HP := Lib.hid (fun w' hS => put_ok l a1 n1 c1 k v w' hn1 hS hx h1 hz)
  have HV1 := Lib.hid (fun w' hS => vals_ok l a1 n1 c1 w' hn1 hS ((bookE_iff l).1 h1))
  have HV2 := Lib.hid (fun g w' hS => vals_ok (l ++ [(k, v)]) (some ⟨g, 0, none⟩) (n1 + 1) (n1 + 1) w' (by rw [List.length_append, hn1]; rfl) hS ((bookE_iff _).1 hz))
  obtain ⟨hk1, hk2, hvz⟩ := hx
  simp only at hk1 hk2 hvz
  have hown := own_val l (k, v)
  simp only at hown
  have hoth := fun (j : Int) (hj : j ≠ k) => other_val (l := l) (e := (k, v)) (k := j) hj
  have hstp := size_step l (k, v)
  have hsz1 := valsD_size l
  have hl24 := ((bookE_iff l).1 h1).1
  have HO := Lib.hid hoth
  clear hoth
  generalize valsD l = D1 at *
  generalize valsD (l ++ [(k, v)]) = D2 at *
  generalize l ++ [(k, v)] = l2 at *
  have HQ := Lib.hid (fun w' h h' => equal_ents l l a1 a2 n1 c1 n2 c2 w' hn1 hn2 h h')
  rw [decide_eq_true (rfl : l = l)] at HQ
  rw [h1] at hh1 hh2
  generalize headN l = N1 at *
  generalize headL l = L1 at *
  generalize headM l = M1 at *
  have HH1 := Lib.hid hh1
  have HH2 := Lib.hid hh2
  clear hh1 hh2 h1 hz
  obtain ⟨q0, q1, q2, qs⟩ := boxes3 w (.cells #[.slice a1 n1 c1] 37) (.cells #[.slice a2 n2 c2] 37) (.cells #[.int .i64 k, .string v] 39)
  have hb0 := below3 w (.cells #[.slice a1 n1 c1] 37) (.cells #[.slice a2 n2 c2] 37) (.cells #[.int .i64 k, .string v] 39)
  have m1 := hS1.max
  have m2 := hS2.max
  have p1 := hS1.cap
  have p2 := hS2.cap
  go_enter Tryd.func4, Tryd.ntmps4
  go_wp2_with fail
  generalize (((w.alloc (.cells #[.slice a1 n1 c1] 37)).alloc (.cells #[.slice a2 n2 c2] 37)).alloc (.cells #[.int .i64 k, .string v] 39)) = W at q0 q1 q2 qs hb0 ⊢
  refine (HH1.out W (hE.on hb0) (hS1.on hb0)).mono ?_
  rintro e w1 ⟨rfl, hb1⟩
  have r0 := heap_on hb1 q0
  have r1 := heap_on hb1 q1
  have r2 := heap_on hb1 q2
  have hb1 := below_on hb0 hb1
  clear hb0 q0 q1 q2 qs HH1
  have s0 := heap_old w1 (.cells #[.int .i64 N1, .string L1, .string M1] 41) r0
  have s1 := heap_old w1 (.cells #[.int .i64 N1, .string L1, .string M1] 41) r1
  have s2 := heap_old w1 (.cells #[.int .i64 N1, .string L1, .string M1] 41) r2
  have s3 := heap_push w1 (.cells #[.int .i64 N1, .string L1, .string M1] 41)
  have hb2 := hb1.alloc hb1.size (.cells #[.int .i64 N1, .string L1, .string M1] 41)
  have d1 := heap_cell s1 0 _ rfl
  clear hb1 r0 r1 r2
  go_wp2_with fail
  generalize (w1.alloc (.cells #[.int .i64 N1, .string L1, .string M1] 41)) = w2 at s0 s1 s2 s3 hb2 d1 ⊢
  generalize w1.heap.size = B3 at s3 ⊢
  refine (HH2.out w2 (hE.on hb2) (hS2.on hb2)).mono ?_
  rintro e w3 ⟨rfl, hb3⟩
  have r0 := heap_on hb3 s0
  have r1 := heap_on hb3 s1
  have r2 := heap_on hb3 s2
  have r3 := heap_on hb3 s3
  have hb3 := below_on hb2 hb3
  clear hb2 s0 s1 s2 s3 d1 HH2
  have s0 := heap_old w3 (.cells #[.int .i64 N1, .string L1, .string M1] 41) r0
  have s1 := heap_old w3 (.cells #[.int .i64 N1, .string L1, .string M1] 41) r1
  have s2 := heap_old w3 (.cells #[.int .i64 N1, .string L1, .string M1] 41) r2
  have s3 := heap_old w3 (.cells #[.int .i64 N1, .string L1, .string M1] 41) r3
  have s4 := heap_push w3 (.cells #[.int .i64 N1, .string L1, .string M1] 41)
  have hb4 := hb3.alloc hb3.size (.cells #[.int .i64 N1, .string L1, .string M1] 41)
  clear hb3 r0 r1 r2 r3
  go_upto_region 3 with fail
  generalize (w3.alloc (.cells #[.int .i64 N1, .string L1, .string M1] 41)) = w4 at s0 s1 s2 s3 s4 hb4 ⊢
  generalize w3.heap.size = B4 at s4 ⊢
  have cF := Lib.hid (fun d os => Calls.regrown_of (booked_any (Sort.grow (redrawn w4 d) os) (hE.on (below_on hb4 (below_regrown w4 d os)))))
  have cG := Lib.hid (fun d os => Calls.regrown_of (HQ.out (Sort.grow (redrawn w4 d) os) (hS1.on (below_on hb4 (below_regrown w4 d os))) (hS2.on (below_on hb4 (below_regrown w4 d os)))))
  have k0 := fun d os => cell_regrown (heap_cell s0 0 _ rfl) d os
  have k1 := fun d os => cell_regrown (heap_cell s1 0 _ rfl) d os
  have k3 := fun d os => cell_regrown (heap_cell s3 0 _ rfl) d os
  have k4 := fun d os => cell_regrown (heap_cell s3 1 _ rfl) d os
  have k5 := fun d os => cell_regrown (heap_cell s3 2 _ rfl) d os
  have k6 := fun d os => cell_regrown (heap_cell s4 0 _ rfl) d os
  have k7 := fun d os => cell_regrown (heap_cell s4 1 _ rfl) d os
  have k8 := fun d os => cell_regrown (heap_cell s4 2 _ rfl) d os
  go_wp2_with fail
  refine wp_region_quiet_below (by kernel_rfl) (by kernel_rfl) ?_
  repeat (first | go_big_quiet_step (first | with_reducible exact cF.out _ _ | with_reducible exact cG.out _ _) | quiet_step (first | with_reducible exact cF.out _ _ | with_reducible exact cG.out _ _))
  refine wpQuiet_nil ?_
  intro _ hw'
  obtain ⟨⟨dq, osq⟩, hw''⟩ := hw'
  subst hw''
  have hbq := below_regrown w4 dq osq
  clear cF cG k0 k1 k3 k4 k5 k6 k7 k8 HQ
  have r0 := heap_on hbq s0
  have r2 := heap_on hbq s2
  have hb5 := below_on hb4 hbq
  generalize Sort.grow (redrawn w4 dq) osq = w5 at r0 r2 hb5 ⊢
  clear hbq s0 s1 s2 s3 s4 hb4
  have d0 := heap_cell r0 0 _ rfl
  have d1 := heap_cell r2 0 _ rfl
  have d2 := heap_cell r2 1 _ rfl
  go_wp2_with fail
  refine (HP.out w5 (hS1.on hb5)).mono ?_
  rintro e w6 ⟨g, rfl, hS6, hb6⟩
  have s0 := heap_on hb6 r0
  have s2 := heap_on hb6 r2
  have hb6 := below_on hb5 hb6
  clear r0 r2 d0 d1 d2 hb5 HP
  have r0 := heap_old w6 (.cells #[.slice (some ⟨g, 0, none⟩) (n1 + 1) (n1 + 1)] 37) s0
  have r2 := heap_old w6 (.cells #[.slice (some ⟨g, 0, none⟩) (n1 + 1) (n1 + 1)] 37) s2
  have r3 := heap_push w6 (.cells #[.slice (some ⟨g, 0, none⟩) (n1 + 1) (n1 + 1)] 37)
  have hS7 := hS6.on ((Below.refl _ w6).alloc (Nat.le_refl _) (.cells #[.slice (some ⟨g, 0, none⟩) (n1 + 1) (n1 + 1)] 37))
  have hb7 := hb6.alloc hb6.size (.cells #[.slice (some ⟨g, 0, none⟩) (n1 + 1) (n1 + 1)] 37)
  clear s0 s2 hS6 hb6
  have d0 := heap_cell r0 0 _ rfl
  go_wp2_with fail
  generalize (w6.alloc (.cells #[.slice (some ⟨g, 0, none⟩) (n1 + 1) (n1 + 1)] 37)) = w7 at r0 r2 r3 hS7 hb7 d0 ⊢
  generalize w6.heap.size = B5 at r3 ⊢
  refine (HV1.out w7 (hS1.on hb7)).mono ?_
  rintro e w8 ⟨pm1, rfl, hM1, _, hb8⟩
  have s0 := heap_on hb8 r0
  have s2 := heap_on hb8 r2
  have s3 := heap_on hb8 r3
  have hS8 := hS7.on hb8
  have hb8 := below_on hb7 hb8
  clear r0 r2 r3 hS7 hb7 d0 HV1
  have d3 := heap_cell s3 0 _ rfl
  go_wp2_with fail
  refine (HV2.out g w8 hS8).mono ?_
  rintro e w9 ⟨pm2, rfl, hM2, _, hb9⟩
  have r0 := heap_on hb9 s0
  have r2 := heap_on hb9 s2
  have r3 := heap_on hb9 s3
  have hM1 := hM1.on hb9
  have hb9 := below_on hb8 hb9
  clear s0 s2 s3 hS8 hb8 d3 HV2
  have d0 := heap_cell r0 0 _ rfl
  have d1 := heap_cell r2 0 _ rfl
  have d2 := heap_cell r2 1 _ rfl
  have d3 := heap_cell r3 0 _ rfl
  have hlk := hM2.look1 (k := k) hk1 hk2
  rw [hown] at hlk
  go_upto_region 12 with fail
  have hM1' := hM1
  rcases hM1 with ⟨hno, _⟩ | ⟨b1, nn, hpm, ho⟩
  · cases hno
  injection hpm with hpm
  subst hpm
  clear hlk d0 d3 r0 r3 hS1 hS2 hown
  go_wp2_with (at_range; refine wpList_range_own _ rfl _ 22 rfl 3 9 keyed Tryd.underlying22 _ pm1 nn D1 rfl ho ?_; intro w0 hrg0 hg0 hs0)
  go_frame
  have hbl0 : Below w9.heap.size w9 w0 := (Below.refl _ _).grown hg0 (Nat.le_refl _) (fun j hj => by cases hj)
  clear ho hg0 hs0
  go_loopw [92] (fun _ wr => ∃ (left : Lit → Bool) (cnt : Nat), wr.ranges Tryd.prog 3 (plainElem Tryd.prog 9) pm1 w9.heap.size nn D1 left cnt ∧ Below w9.heap.size w9 wr)
    (fun _ wr => wr.rangeLeft pm1 w9.heap.size)
  case atStart => exact ⟨_, _, hrg0, hbl0⟩
  case round =>
    obtain ⟨left, cnt, hrg, hb⟩ := hrel
    have l1 := fun ty => (hM1'.on hb).len ty
    have l2 := fun ty => (hM2.on hb).len ty
    go_wp2_with (at_next; refine wpList_next_ranges_is _ rfl _ rfl 3 9 .i64 keyed Tryd.underlying3 Tryd.underlying9 pm1 w9.heap.size nn _ _ _ rfl hrg ?_ ?_)
    · intro _ _
      have hb10 := below_on hb9 hb
      have t1 : Maps.size D1 ≤ Maps.size D2 := by omega
      have t2 : decide ((Maps.size D2 : Int) ≤ (Maps.size D1 : Int) + 1) = true := decide_eq_true (by omega)
      go_wp2_with fail
      go_ret
      exact ⟨rfl, hb10⟩
    · intro x c w1 cnt1 hwx hwc _ hat hrg1 hlt hg1 _ hen
      obtain ⟨hx1, hx2⟩ := wf_bounds hwx
      have hb1 : Below w9.heap.size w9 w1 := hb.grown hg1 hb.size (fun j hj => by cases hj; exact Nat.le_refl _)
      have hM2' := hM2.on hb1
      have r2' := heap_on hb1 r2
      have d1 := heap_cell r2' 0 _ rfl
      have d2 := heap_cell r2' 1 _ rfl
      have hval : valS D1 x = c := by rw [valS_eq, hat, textD_mk]
      by_cases hxk : x = k
      · subst hxk
        clear hat hval
        go_wp2_with fail
        go_roundw
        case rel => exact ⟨_, cnt1, hrg1, hb1⟩
        case measure => rw [hrg1.left_eq, hrg.left_eq]; exact hlt
      · have hlk := hM2'.look1 (k := x) hx1 hx2
        rw [HO.out x hxk, hval] at hlk
        have hxb : (x == k) = false := by simp only [beq_eq_false_iff_ne, ne_eq]; exact hxk
        clear hat hval
        go_wp2_with fail
        go_roundw
        case rel => exact ⟨_, cnt1, hrg1, hb1⟩
        case measure => rw [hrg1.left_eq, hrg.left_eq]; exact hlt

set_option maxHeartbeats 1000000 in
set_option maxRecDepth 100000 in
theorem bookOne_ne_no (l m : List EntB) (a1 : Option Addr) (n1 c1 : Nat) (a2 : Option Addr) (n2 c2 : Nat) (k : Int) (v : ByteArray) (w : World) (hE : Tab w) (hn1 : l.length = n1) (hn2 : m.length = n2) (hS1 : EntsAt w a1 c1 l) (hS2 : EntsAt w a2 c2 m) (hx : WideEnt (k, v)) (h2 : bookE m = 0) (hne : l ≠ m) (h1 : bookE l = 0) (z : Int) (hz : bookE (l ++ [(k, v)]) = z) (hz0 : z ≠ 0) :
    Calls Tryd.prog 4 #[.agg #[.slice a1 n1 c1], .agg #[.slice a2 n2 c2], .agg #[.int .i64 k, .string v]] w fun e w' => e = .returned (.bool true) ∧ Below w.heap.size w w' := by
  have hh1 := fun w' hE hS => head_any l a1 n1 c1 w' hE hn1 hS
  have hh2 := fun w' hE hS => head_any m a2 n2 c2 w' hE hn2 hS
  have HP := Lib.hid (fun w' hS => put_no l a1 n1 c1 k v w' hn1 hS hx h1 z hz hz0)
  have hzb : (z == 0) = false := by simp only [beq_eq_false_iff_ne, ne_eq]; exact hz0
  have HQ := Lib.hid (fun w' h h' => equal_ents l m a1 a2 n1 c1 n2 c2 w' hn1 hn2 h h')
  rw [decide_eq_false hne] at HQ
  have hls := str_ne (head_same h1 h2 hne)
  rw [h1] at hh1
  rw [h2] at hh2
  generalize headN l = N1 at *
  generalize headL l = L1 at *
  generalize headM l = M1 at *
  generalize headN m = N2 at *
  generalize headL m = L2 at *
  generalize headM m = M2 at *
  have HH1 := Lib.hid hh1
  have HH2 := Lib.hid hh2
  clear hh1 hh2 h1 hz
  obtain ⟨q0, q1, q2, qs⟩ := boxes3 w (.cells #[.slice a1 n1 c1] 37) (.cells #[.slice a2 n2 c2] 37) (.cells #[.int .i64 k, .string v] 39)
  have hb0 := below3 w (.cells #[.slice a1 n1 c1] 37) (.cells #[.slice a2 n2 c2] 37) (.cells #[.int .i64 k, .string v] 39)
  have m1 := hS1.max
  have m2 := hS2.max
  have p1 := hS1.cap
  have p2 := hS2.cap
  go_enter Tryd.func4, Tryd.ntmps4
  go_wp2_with fail
  generalize (((w.alloc (.cells #[.slice a1 n1 c1] 37)).alloc (.cells #[.slice a2 n2 c2] 37)).alloc (.cells #[.int .i64 k, .string v] 39)) = W at q0 q1 q2 qs hb0 ⊢
  refine (HH1.out W (hE.on hb0) (hS1.on hb0)).mono ?_
  rintro e w1 ⟨rfl, hb1⟩
  have r0 := heap_on hb1 q0
  have r1 := heap_on hb1 q1
  have r2 := heap_on hb1 q2
  have hb1 := below_on hb0 hb1
  clear hb0 q0 q1 q2 qs HH1
  have s0 := heap_old w1 (.cells #[.int .i64 N1, .string L1, .string M1] 41) r0
  have s1 := heap_old w1 (.cells #[.int .i64 N1, .string L1, .string M1] 41) r1
  have s2 := heap_old w1 (.cells #[.int .i64 N1, .string L1, .string M1] 41) r2
  have s3 := heap_push w1 (.cells #[.int .i64 N1, .string L1, .string M1] 41)
  have hb2 := hb1.alloc hb1.size (.cells #[.int .i64 N1, .string L1, .string M1] 41)
  have d1 := heap_cell s1 0 _ rfl
  clear hb1 r0 r1 r2
  go_wp2_with fail
  generalize (w1.alloc (.cells #[.int .i64 N1, .string L1, .string M1] 41)) = w2 at s0 s1 s2 s3 hb2 d1 ⊢
  generalize w1.heap.size = B3 at s3 ⊢
  refine (HH2.out w2 (hE.on hb2) (hS2.on hb2)).mono ?_
  rintro e w3 ⟨rfl, hb3⟩
  have r0 := heap_on hb3 s0
  have r1 := heap_on hb3 s1
  have r2 := heap_on hb3 s2
  have r3 := heap_on hb3 s3
  have hb3 := below_on hb2 hb3
  clear hb2 s0 s1 s2 s3 d1 HH2
  have s0 := heap_old w3 (.cells #[.int .i64 N2, .string L2, .string M2] 41) r0
  have s1 := heap_old w3 (.cells #[.int .i64 N2, .string L2, .string M2] 41) r1
  have s2 := heap_old w3 (.cells #[.int .i64 N2, .string L2, .string M2] 41) r2
  have s3 := heap_old w3 (.cells #[.int .i64 N2, .string L2, .string M2] 41) r3
  have s4 := heap_push w3 (.cells #[.int .i64 N2, .string L2, .string M2] 41)
  have hb4 := hb3.alloc hb3.size (.cells #[.int .i64 N2, .string L2, .string M2] 41)
  clear hb3 r0 r1 r2 r3
  go_upto_region 3 with fail
  generalize (w3.alloc (.cells #[.int .i64 N2, .string L2, .string M2] 41)) = w4 at s0 s1 s2 s3 s4 hb4 ⊢
  generalize w3.heap.size = B4 at s4 ⊢
  have cF := Lib.hid (fun d os => Calls.regrown_of (booked_any (Sort.grow (redrawn w4 d) os) (hE.on (below_on hb4 (below_regrown w4 d os)))))
  have cG := Lib.hid (fun d os => Calls.regrown_of (HQ.out (Sort.grow (redrawn w4 d) os) (hS1.on (below_on hb4 (below_regrown w4 d os))) (hS2.on (below_on hb4 (below_regrown w4 d os)))))
  have k0 := fun d os => cell_regrown (heap_cell s0 0 _ rfl) d os
  have k1 := fun d os => cell_regrown (heap_cell s1 0 _ rfl) d os
  have k3 := fun d os => cell_regrown (heap_cell s3 0 _ rfl) d os
  have k4 := fun d os => cell_regrown (heap_cell s3 1 _ rfl) d os
  have k5 := fun d os => cell_regrown (heap_cell s3 2 _ rfl) d os
  have k6 := fun d os => cell_regrown (heap_cell s4 0 _ rfl) d os
  have k7 := fun d os => cell_regrown (heap_cell s4 1 _ rfl) d os
  have k8 := fun d os => cell_regrown (heap_cell s4 2 _ rfl) d os
  go_wp2_with fail
  refine wp_region_quiet_below (by kernel_rfl) (by kernel_rfl) ?_
  repeat (first | go_big_quiet_step (first | with_reducible exact cF.out _ _ | with_reducible exact cG.out _ _) | quiet_step (first | with_reducible exact cF.out _ _ | with_reducible exact cG.out _ _))
  refine wpQuiet_nil ?_
  intro _ hw'
  obtain ⟨⟨dq, osq⟩, hw''⟩ := hw'
  subst hw''
  have hbq := below_regrown w4 dq osq
  clear cF cG k0 k1 k3 k4 k5 k6 k7 k8 HQ
  have r0 := heap_on hbq s0
  have r2 := heap_on hbq s2
  have hb5 := below_on hb4 hbq
  generalize Sort.grow (redrawn w4 dq) osq = w5 at r0 r2 hb5 ⊢
  clear hbq s0 s1 s2 s3 s4 hb4
  have d0 := heap_cell r0 0 _ rfl
  have d1 := heap_cell r2 0 _ rfl
  have d2 := heap_cell r2 1 _ rfl
  go_wp2_with fail
  refine (HP.out w5 (hS1.on hb5)).mono ?_
  rintro e w6 ⟨rfl, hb6⟩
  have hb6 := below_on hb5 hb6
  have hb7 := hb6.alloc hb6.size (.cells #[.slice none 0 0] 37)
  go_wp2_with fail
  go_ret
  exact ⟨rfl, hb7⟩

set_option maxHeartbeats 1000000 in
set_option maxRecDepth 100000 in
theorem bookOne_ne_ok (l m : List EntB) (a1 : Option Addr) (n1 c1 : Nat) (a2 : Option Addr) (n2 c2 : Nat) (k : Int) (v : ByteArray) (w : World) (hE : Tab w) (hn1 : l.length = n1) (hn2 : m.length = n2) (hS1 : EntsAt w a1 c1 l) (hS2 : EntsAt w a2 c2 m) (hx : WideEnt (k, v)) (h2 : bookE m = 0) (hne : l ≠ m) (h1 : bookE l = 0) (hz : bookE (l ++ [(k, v)]) = 0) :
    Calls Tryd.prog 4 #[.agg #[.slice a1 n1 c1], .agg #[.slice a2 n2 c2], .agg #[.int .i64 k, .string v]] w fun e w' => e = .returned (.bool true) ∧ Below w.heap.size w w' := by
  have hh1 := fun w' hE hS => head_any l a1 n1 c1 w' hE hn1 hS
  have hh2 := fun w' hE hS => head_any m a2 n2 c2 w' hE hn2 hS
  have HP := Lib.hid (fun w' hS => put_ok l a1 n1 c1 k v w' hn1 hS hx h1 hz)
  have HV1 := Lib.hid (fun w' hS => vals_ok l a1 n1 c1 w' hn1 hS ((bookE_iff l).1 h1))
  have HV2 := Lib.hid (fun g w' hS => vals_ok (l ++ [(k, v)]) (some ⟨g, 0, none⟩) (n1 + 1) (n1 + 1) w' (by rw [List.length_append, hn1]; rfl) hS ((bookE_iff _).1 hz))
  obtain ⟨hk1, hk2, hvz⟩ := hx
  simp only at hk1 hk2 hvz
  have hown := own_val l (k, v)
  simp only at hown
  have hoth := fun (j : Int) (hj : j ≠ k) => other_val (l := l) (e := (k, v)) (k := j) hj
  have hstp := size_step l (k, v)
  have hsz1 := valsD_size l
  have hl24 := ((bookE_iff l).1 h1).1
  have HO := Lib.hid hoth
  clear hoth
  generalize valsD l = D1 at *
  generalize valsD (l ++ [(k, v)]) = D2 at *
  generalize l ++ [(k, v)] = l2 at *
  have HQ := Lib.hid (fun w' h h' => equal_ents l m a1 a2 n1 c1 n2 c2 w' hn1 hn2 h h')
  rw [decide_eq_false hne] at HQ
  have hls := str_ne (head_same h1 h2 hne)
  rw [h1] at hh1
  rw [h2] at hh2
  generalize headN l = N1 at *
  generalize headL l = L1 at *
  generalize headM l = M1 at *
  generalize headN m = N2 at *
  generalize headL m = L2 at *
  generalize headM m = M2 at *
  have HH1 := Lib.hid hh1
  have HH2 := Lib.hid hh2
  clear hh1 hh2 h1 hz
  obtain ⟨q0, q1, q2, qs⟩ := boxes3 w (.cells #[.slice a1 n1 c1] 37) (.cells #[.slice a2 n2 c2] 37) (.cells #[.int .i64 k, .string v] 39)
  have hb0 := below3 w (.cells #[.slice a1 n1 c1] 37) (.cells #[.slice a2 n2 c2] 37) (.cells #[.int .i64 k, .string v] 39)
  have m1 := hS1.max
  have m2 := hS2.max
  have p1 := hS1.cap
  have p2 := hS2.cap
  go_enter Tryd.func4, Tryd.ntmps4
  go_wp2_with fail
  generalize (((w.alloc (.cells #[.slice a1 n1 c1] 37)).alloc (.cells #[.slice a2 n2 c2] 37)).alloc (.cells #[.int .i64 k, .string v] 39)) = W at q0 q1 q2 qs hb0 ⊢
  refine (HH1.out W (hE.on hb0) (hS1.on hb0)).mono ?_
  rintro e w1 ⟨rfl, hb1⟩
  have r0 := heap_on hb1 q0
  have r1 := heap_on hb1 q1
  have r2 := heap_on hb1 q2
  have hb1 := below_on hb0 hb1
  clear hb0 q0 q1 q2 qs HH1
  have s0 := heap_old w1 (.cells #[.int .i64 N1, .string L1, .string M1] 41) r0
  have s1 := heap_old w1 (.cells #[.int .i64 N1, .string L1, .string M1] 41) r1
  have s2 := heap_old w1 (.cells #[.int .i64 N1, .string L1, .string M1] 41) r2
  have s3 := heap_push w1 (.cells #[.int .i64 N1, .string L1, .string M1] 41)
  have hb2 := hb1.alloc hb1.size (.cells #[.int .i64 N1, .string L1, .string M1] 41)
  have d1 := heap_cell s1 0 _ rfl
  clear hb1 r0 r1 r2
  go_wp2_with fail
  generalize (w1.alloc (.cells #[.int .i64 N1, .string L1, .string M1] 41)) = w2 at s0 s1 s2 s3 hb2 d1 ⊢
  generalize w1.heap.size = B3 at s3 ⊢
  refine (HH2.out w2 (hE.on hb2) (hS2.on hb2)).mono ?_
  rintro e w3 ⟨rfl, hb3⟩
  have r0 := heap_on hb3 s0
  have r1 := heap_on hb3 s1
  have r2 := heap_on hb3 s2
  have r3 := heap_on hb3 s3
  have hb3 := below_on hb2 hb3
  clear hb2 s0 s1 s2 s3 d1 HH2
  have s0 := heap_old w3 (.cells #[.int .i64 N2, .string L2, .string M2] 41) r0
  have s1 := heap_old w3 (.cells #[.int .i64 N2, .string L2, .string M2] 41) r1
  have s2 := heap_old w3 (.cells #[.int .i64 N2, .string L2, .string M2] 41) r2
  have s3 := heap_old w3 (.cells #[.int .i64 N2, .string L2, .string M2] 41) r3
  have s4 := heap_push w3 (.cells #[.int .i64 N2, .string L2, .string M2] 41)
  have hb4 := hb3.alloc hb3.size (.cells #[.int .i64 N2, .string L2, .string M2] 41)
  clear hb3 r0 r1 r2 r3
  go_upto_region 3 with fail
  generalize (w3.alloc (.cells #[.int .i64 N2, .string L2, .string M2] 41)) = w4 at s0 s1 s2 s3 s4 hb4 ⊢
  generalize w3.heap.size = B4 at s4 ⊢
  have cF := Lib.hid (fun d os => Calls.regrown_of (booked_any (Sort.grow (redrawn w4 d) os) (hE.on (below_on hb4 (below_regrown w4 d os)))))
  have cG := Lib.hid (fun d os => Calls.regrown_of (HQ.out (Sort.grow (redrawn w4 d) os) (hS1.on (below_on hb4 (below_regrown w4 d os))) (hS2.on (below_on hb4 (below_regrown w4 d os)))))
  have k0 := fun d os => cell_regrown (heap_cell s0 0 _ rfl) d os
  have k1 := fun d os => cell_regrown (heap_cell s1 0 _ rfl) d os
  have k3 := fun d os => cell_regrown (heap_cell s3 0 _ rfl) d os
  have k4 := fun d os => cell_regrown (heap_cell s3 1 _ rfl) d os
  have k5 := fun d os => cell_regrown (heap_cell s3 2 _ rfl) d os
  have k6 := fun d os => cell_regrown (heap_cell s4 0 _ rfl) d os
  have k7 := fun d os => cell_regrown (heap_cell s4 1 _ rfl) d os
  have k8 := fun d os => cell_regrown (heap_cell s4 2 _ rfl) d os
  go_wp2_with fail
  refine wp_region_quiet_below (by kernel_rfl) (by kernel_rfl) ?_
  repeat (first | go_big_quiet_step (first | with_reducible exact cF.out _ _ | with_reducible exact cG.out _ _) | quiet_step (first | with_reducible exact cF.out _ _ | with_reducible exact cG.out _ _))
  refine wpQuiet_nil ?_
  intro _ hw'
  obtain ⟨⟨dq, osq⟩, hw''⟩ := hw'
  subst hw''
  have hbq := below_regrown w4 dq osq
  clear cF cG k0 k1 k3 k4 k5 k6 k7 k8 HQ
  have r0 := heap_on hbq s0
  have r2 := heap_on hbq s2
  have hb5 := below_on hb4 hbq
  generalize Sort.grow (redrawn w4 dq) osq = w5 at r0 r2 hb5 ⊢
  clear hbq s0 s1 s2 s3 s4 hb4
  have d0 := heap_cell r0 0 _ rfl
  have d1 := heap_cell r2 0 _ rfl
  have d2 := heap_cell r2 1 _ rfl
  go_wp2_with fail
  refine (HP.out w5 (hS1.on hb5)).mono ?_
  rintro e w6 ⟨g, rfl, hS6, hb6⟩
  have s0 := heap_on hb6 r0
  have s2 := heap_on hb6 r2
  have hb6 := below_on hb5 hb6
  clear r0 r2 d0 d1 d2 hb5 HP
  have r0 := heap_old w6 (.cells #[.slice (some ⟨g, 0, none⟩) (n1 + 1) (n1 + 1)] 37) s0
  have r2 := heap_old w6 (.cells #[.slice (some ⟨g, 0, none⟩) (n1 + 1) (n1 + 1)] 37) s2
  have r3 := heap_push w6 (.cells #[.slice (some ⟨g, 0, none⟩) (n1 + 1) (n1 + 1)] 37)
  have hS7 := hS6.on ((Below.refl _ w6).alloc (Nat.le_refl _) (.cells #[.slice (some ⟨g, 0, none⟩) (n1 + 1) (n1 + 1)] 37))
  have hb7 := hb6.alloc hb6.size (.cells #[.slice (some ⟨g, 0, none⟩) (n1 + 1) (n1 + 1)] 37)
  clear s0 s2 hS6 hb6
  have d0 := heap_cell r0 0 _ rfl
  go_wp2_with fail
  generalize (w6.alloc (.cells #[.slice (some ⟨g, 0, none⟩) (n1 + 1) (n1 + 1)] 37)) = w7 at r0 r2 r3 hS7 hb7 d0 ⊢
  generalize w6.heap.size = B5 at r3 ⊢
  refine (HV1.out w7 (hS1.on hb7)).mono ?_
  rintro e w8 ⟨pm1, rfl, hM1, _, hb8⟩
  have s0 := heap_on hb8 r0
  have s2 := heap_on hb8 r2
  have s3 := heap_on hb8 r3
  have hS8 := hS7.on hb8
  have hb8 := below_on hb7 hb8
  clear r0 r2 r3 hS7 hb7 d0 HV1
  have d3 := heap_cell s3 0 _ rfl
  go_wp2_with fail
  refine (HV2.out g w8 hS8).mono ?_
  rintro e w9 ⟨pm2, rfl, hM2, _, hb9⟩
  have r0 := heap_on hb9 s0
  have r2 := heap_on hb9 s2
  have r3 := heap_on hb9 s3
  have hM1 := hM1.on hb9
  have hb9 := below_on hb8 hb9
  clear s0 s2 s3 hS8 hb8 d3 HV2
  have d0 := heap_cell r0 0 _ rfl
  have d1 := heap_cell r2 0 _ rfl
  have d2 := heap_cell r2 1 _ rfl
  have d3 := heap_cell r3 0 _ rfl
  have hlk := hM2.look1 (k := k) hk1 hk2
  rw [hown] at hlk
  go_upto_region 12 with fail
  have hM1' := hM1
  rcases hM1 with ⟨hno, _⟩ | ⟨b1, nn, hpm, ho⟩
  · cases hno
  injection hpm with hpm
  subst hpm
  clear hlk d0 d3 r0 r3 hS1 hS2 hown
  go_wp2_with (at_range; refine wpList_range_own _ rfl _ 22 rfl 3 9 keyed Tryd.underlying22 _ pm1 nn D1 rfl ho ?_; intro w0 hrg0 hg0 hs0)
  go_frame
  have hbl0 : Below w9.heap.size w9 w0 := (Below.refl _ _).grown hg0 (Nat.le_refl _) (fun j hj => by cases hj)
  clear ho hg0 hs0
  go_loopw [92] (fun _ wr => ∃ (left : Lit → Bool) (cnt : Nat), wr.ranges Tryd.prog 3 (plainElem Tryd.prog 9) pm1 w9.heap.size nn D1 left cnt ∧ Below w9.heap.size w9 wr)
    (fun _ wr => wr.rangeLeft pm1 w9.heap.size)
  case atStart => exact ⟨_, _, hrg0, hbl0⟩
  case round =>
    obtain ⟨left, cnt, hrg, hb⟩ := hrel
    have l1 := fun ty => (hM1'.on hb).len ty
    have l2 := fun ty => (hM2.on hb).len ty
    go_wp2_with (at_next; refine wpList_next_ranges_is _ rfl _ rfl 3 9 .i64 keyed Tryd.underlying3 Tryd.underlying9 pm1 w9.heap.size nn _ _ _ rfl hrg ?_ ?_)
    · intro _ _
      have hb10 := below_on hb9 hb
      have t1 : Maps.size D1 ≤ Maps.size D2 := by omega
      have t2 : decide ((Maps.size D2 : Int) ≤ (Maps.size D1 : Int) + 1) = true := decide_eq_true (by omega)
      go_wp2_with fail
      go_ret
      exact ⟨rfl, hb10⟩
    · intro x c w1 cnt1 hwx hwc _ hat hrg1 hlt hg1 _ hen
      obtain ⟨hx1, hx2⟩ := wf_bounds hwx
      have hb1 : Below w9.heap.size w9 w1 := hb.grown hg1 hb.size (fun j hj => by cases hj; exact Nat.le_refl _)
      have hM2' := hM2.on hb1
      have r2' := heap_on hb1 r2
      have d1 := heap_cell r2' 0 _ rfl
      have d2 := heap_cell r2' 1 _ rfl
      have hval : valS D1 x = c := by rw [valS_eq, hat, textD_mk]
      by_cases hxk : x = k
      · subst hxk
        clear hat hval
        go_wp2_with fail
        go_roundw
        case rel => exact ⟨_, cnt1, hrg1, hb1⟩
        case measure => rw [hrg1.left_eq, hrg.left_eq]; exact hlt
      · have hlk := hM2'.look1 (k := x) hx1 hx2
        rw [HO.out x hxk, hval] at hlk
        have hxb : (x == k) = false := by simp only [beq_eq_false_iff_ne, ne_eq]; exact hxk
        clear hat hval
        go_wp2_with fail
        go_roundw
        case rel => exact ⟨_, cnt1, hrg1, hb1⟩
        case measure => rw [hrg1.left_eq, hrg.left_eq]; exact hlt

set_option maxHeartbeats 1000000 in
set_option maxRecDepth 100000 in
theorem bookOne_not1_bad (l m : List EntB) (a1 : Option Addr) (n1 c1 : Nat) (a2 : Option Addr) (n2 c2 : Nat) (k : Int) (v : ByteArray) (w : World) (hE : Tab w) (hn1 : l.length = n1) (hn2 : m.length = n2) (hS1 : EntsAt w a1 c1 l) (hS2 : EntsAt w a2 c2 m) (_hx : WideEnt (k, v)) (h1 : bookE l ≠ 0) :
    Calls Tryd.prog 4 #[.agg #[.slice a1 n1 c1], .agg #[.slice a2 n2 c2], .agg #[.int .i64 k, .string v]] w fun e w' => e = .returned (.bool true) ∧ Below w.heap.size w w' := by
  have hh1 := fun w' hE hS => head_any l a1 n1 c1 w' hE hn1 hS
  have hh2 := fun w' hE hS => head_any m a2 n2 c2 w' hE hn2 hS
  have HP := Lib.hid (fun w' hS => put_bad l a1 n1 c1 k v w' hn1 hS _ rfl h1)
  generalize headN l = N1 at *
  generalize headL l = L1 at *
  generalize headM l = M1 at *
  generalize headN m = N2 at *
  generalize headL m = L2 at *
  generalize headM m = M2 at *
  generalize bookE l = z1 at *
  generalize bookE m = z2 at *
  have hzb : (z1 == 0) = false := by simp only [beq_eq_false_iff_ne, ne_eq]; exact h1
  have HH1 := Lib.hid hh1
  have HH2 := Lib.hid hh2
  clear hh1 hh2
  obtain ⟨q0, q1, q2, qs⟩ := boxes3 w (.cells #[.slice a1 n1 c1] 37) (.cells #[.slice a2 n2 c2] 37) (.cells #[.int .i64 k, .string v] 39)
  have hb0 := below3 w (.cells #[.slice a1 n1 c1] 37) (.cells #[.slice a2 n2 c2] 37) (.cells #[.int .i64 k, .string v] 39)
  have m1 := hS1.max
  have m2 := hS2.max
  have p1 := hS1.cap
  have p2 := hS2.cap
  go_enter Tryd.func4, Tryd.ntmps4
  go_wp2_with fail
  generalize (((w.alloc (.cells #[.slice a1 n1 c1] 37)).alloc (.cells #[.slice a2 n2 c2] 37)).alloc (.cells #[.int .i64 k, .string v] 39)) = W at q0 q1 q2 qs hb0 ⊢
  refine (HH1.out W (hE.on hb0) (hS1.on hb0)).mono ?_
  rintro e w1 ⟨rfl, hb1⟩
  have r0 := heap_on hb1 q0
  have r1 := heap_on hb1 q1
  have r2 := heap_on hb1 q2
  have hb1 := below_on hb0 hb1
  clear hb0 q0 q1 q2 qs HH1
  have s0 := heap_old w1 (.cells #[.int .i64 N1, .string L1, .string M1] 41) r0
  have s1 := heap_old w1 (.cells #[.int .i64 N1, .string L1, .string M1] 41) r1
  have s2 := heap_old w1 (.cells #[.int .i64 N1, .string L1, .string M1] 41) r2
  have s3 := heap_push w1 (.cells #[.int .i64 N1, .string L1, .string M1] 41)
  have hb2 := hb1.alloc hb1.size (.cells #[.int .i64 N1, .string L1, .string M1] 41)
  have d1 := heap_cell s1 0 _ rfl
  clear hb1 r0 r1 r2
  go_wp2_with fail
  generalize (w1.alloc (.cells #[.int .i64 N1, .string L1, .string M1] 41)) = w2 at s0 s1 s2 s3 hb2 d1 ⊢
  generalize w1.heap.size = B3 at s3 ⊢
  refine (HH2.out w2 (hE.on hb2) (hS2.on hb2)).mono ?_
  rintro e w3 ⟨rfl, hb3⟩
  have r0 := heap_on hb3 s0
  have r1 := heap_on hb3 s1
  have r2 := heap_on hb3 s2
  have r3 := heap_on hb3 s3
  have hb3 := below_on hb2 hb3
  clear hb2 s0 s1 s2 s3 d1 HH2
  have s0 := heap_old w3 (.cells #[.int .i64 N2, .string L2, .string M2] 41) r0
  have s1 := heap_old w3 (.cells #[.int .i64 N2, .string L2, .string M2] 41) r1
  have s2 := heap_old w3 (.cells #[.int .i64 N2, .string L2, .string M2] 41) r2
  have s3 := heap_old w3 (.cells #[.int .i64 N2, .string L2, .string M2] 41) r3
  have s4 := heap_push w3 (.cells #[.int .i64 N2, .string L2, .string M2] 41)
  have hb4 := hb3.alloc hb3.size (.cells #[.int .i64 N2, .string L2, .string M2] 41)
  clear hb3 r0 r1 r2 r3
  go_upto_region 3 with fail
  generalize (w3.alloc (.cells #[.int .i64 N2, .string L2, .string M2] 41)) = w4 at s0 s1 s2 s3 s4 hb4 ⊢
  generalize w3.heap.size = B4 at s4 ⊢
  have cF := Lib.hid (fun d os => Calls.regrown_of (booked_any (Sort.grow (redrawn w4 d) os) (hE.on (below_on hb4 (below_regrown w4 d os)))))
  go_wp2_with fail
  refine wp_region_quiet_below (by kernel_rfl) (by kernel_rfl) ?_
  repeat (first | go_big_quiet_step (with_reducible exact cF.out _ _) | quiet_step (with_reducible exact cF.out _ _))
  refine wpQuiet_nil ?_
  intro _ hw'
  obtain ⟨⟨dq, osq⟩, hw''⟩ := hw'
  subst hw''
  have hbq := below_regrown w4 dq osq
  clear cF
  have r0 := heap_on hbq s0
  have r2 := heap_on hbq s2
  have hb5 := below_on hb4 hbq
  generalize Sort.grow (redrawn w4 dq) osq = w5 at r0 r2 hb5 ⊢
  clear hbq s0 s1 s2 s3 s4 hb4
  have d0 := heap_cell r0 0 _ rfl
  have d1 := heap_cell r2 0 _ rfl
  have d2 := heap_cell r2 1 _ rfl
  go_wp2_with fail
  refine (HP.out w5 (hS1.on hb5)).mono ?_
  rintro e w6 ⟨rfl, hb6⟩
  have hb6 := below_on hb5 hb6
  have hb7 := hb6.alloc hb6.size (.cells #[.slice none 0 0] 37)
  go_wp2_with fail
  go_ret
  exact ⟨rfl, hb7⟩

set_option maxHeartbeats 1000000 in
set_option maxRecDepth 100000 in
theorem bookOne_not2_no (l m : List EntB) (a1 : Option Addr) (n1 c1 : Nat) (a2 : Option Addr) (n2 c2 : Nat) (k : Int) (v : ByteArray) (w : World) (hE : Tab w) (hn1 : l.length = n1) (hn2 : m.length = n2) (hS1 : EntsAt w a1 c1 l) (hS2 : EntsAt w a2 c2 m) (hx : WideEnt (k, v)) (h2 : bookE m ≠ 0) (h1 : bookE l = 0) (z : Int) (hz : bookE (l ++ [(k, v)]) = z) (hz0 : z ≠ 0) :
    Calls Tryd.prog 4 #[.agg #[.slice a1 n1 c1], .agg #[.slice a2 n2 c2], .agg #[.int .i64 k, .string v]] w fun e w' => e = .returned (.bool true) ∧ Below w.heap.size w w' := by
  have hh1 := fun w' hE hS => head_any l a1 n1 c1 w' hE hn1 hS
  have hh2 := fun w' hE hS => head_any m a2 n2 c2 w' hE hn2 hS
  have HP := Lib.hid (fun w' hS => put_no l a1 n1 c1 k v w' hn1 hS hx h1 z hz hz0)
  have hzb : (z == 0) = false := by simp only [beq_eq_false_iff_ne, ne_eq]; exact hz0
  rw [h1] at hh1
  generalize headN l = N1 at *
  generalize headL l = L1 at *
  generalize headM l = M1 at *
  generalize headN m = N2 at *
  generalize headL m = L2 at *
  generalize headM m = M2 at *
  generalize bookE m = z2 at *
  have hzc : (z2 == 0) = false := by simp only [beq_eq_false_iff_ne, ne_eq]; exact h2
  have HH1 := Lib.hid hh1
  have HH2 := Lib.hid hh2
  clear hh1 hh2 h1 hz
  obtain ⟨q0, q1, q2, qs⟩ := boxes3 w (.cells #[.slice a1 n1 c1] 37) (.cells #[.slice a2 n2 c2] 37) (.cells #[.int .i64 k, .string v] 39)
  have hb0 := below3 w (.cells #[.slice a1 n1 c1] 37) (.cells #[.slice a2 n2 c2] 37) (.cells #[.int .i64 k, .string v] 39)
  have m1 := hS1.max
  have m2 := hS2.max
  have p1 := hS1.cap
  have p2 := hS2.cap
  go_enter Tryd.func4, Tryd.ntmps4
  go_wp2_with fail
  generalize (((w.alloc (.cells #[.slice a1 n1 c1] 37)).alloc (.cells #[.slice a2 n2 c2] 37)).alloc (.cells #[.int .i64 k, .string v] 39)) = W at q0 q1 q2 qs hb0 ⊢
  refine (HH1.out W (hE.on hb0) (hS1.on hb0)).mono ?_
  rintro e w1 ⟨rfl, hb1⟩
  have r0 := heap_on hb1 q0
  have r1 := heap_on hb1 q1
  have r2 := heap_on hb1 q2
  have hb1 := below_on hb0 hb1
  clear hb0 q0 q1 q2 qs HH1
  have s0 := heap_old w1 (.cells #[.int .i64 N1, .string L1, .string M1] 41) r0
  have s1 := heap_old w1 (.cells #[.int .i64 N1, .string L1, .string M1] 41) r1
  have s2 := heap_old w1 (.cells #[.int .i64 N1, .string L1, .string M1] 41) r2
  have s3 := heap_push w1 (.cells #[.int .i64 N1, .string L1, .string M1] 41)
  have hb2 := hb1.alloc hb1.size (.cells #[.int .i64 N1, .string L1, .string M1] 41)
  have d1 := heap_cell s1 0 _ rfl
  clear hb1 r0 r1 r2
  go_wp2_with fail
  generalize (w1.alloc (.cells #[.int .i64 N1, .string L1, .string M1] 41)) = w2 at s0 s1 s2 s3 hb2 d1 ⊢
  generalize w1.heap.size = B3 at s3 ⊢
  refine (HH2.out w2 (hE.on hb2) (hS2.on hb2)).mono ?_
  rintro e w3 ⟨rfl, hb3⟩
  have r0 := heap_on hb3 s0
  have r1 := heap_on hb3 s1
  have r2 := heap_on hb3 s2
  have r3 := heap_on hb3 s3
  have hb3 := below_on hb2 hb3
  clear hb2 s0 s1 s2 s3 d1 HH2
  have s0 := heap_old w3 (.cells #[.int .i64 N2, .string L2, .string M2] 41) r0
  have s1 := heap_old w3 (.cells #[.int .i64 N2, .string L2, .string M2] 41) r1
  have s2 := heap_old w3 (.cells #[.int .i64 N2, .string L2, .string M2] 41) r2
  have s3 := heap_old w3 (.cells #[.int .i64 N2, .string L2, .string M2] 41) r3
  have s4 := heap_push w3 (.cells #[.int .i64 N2, .string L2, .string M2] 41)
  have hb4 := hb3.alloc hb3.size (.cells #[.int .i64 N2, .string L2, .string M2] 41)
  clear hb3 r0 r1 r2 r3
  go_upto_region 3 with fail
  generalize (w3.alloc (.cells #[.int .i64 N2, .string L2, .string M2] 41)) = w4 at s0 s1 s2 s3 s4 hb4 ⊢
  generalize w3.heap.size = B4 at s4 ⊢
  have cF := Lib.hid (fun d os => Calls.regrown_of (booked_any (Sort.grow (redrawn w4 d) os) (hE.on (below_on hb4 (below_regrown w4 d os)))))
  go_wp2_with fail
  refine wp_region_quiet_below (by kernel_rfl) (by kernel_rfl) ?_
  repeat (first | go_big_quiet_step (with_reducible exact cF.out _ _) | quiet_step (with_reducible exact cF.out _ _))
  refine wpQuiet_nil ?_
  intro _ hw'
  obtain ⟨⟨dq, osq⟩, hw''⟩ := hw'
  subst hw''
  have hbq := below_regrown w4 dq osq
  clear cF
  have r0 := heap_on hbq s0
  have r2 := heap_on hbq s2
  have hb5 := below_on hb4 hbq
  generalize Sort.grow (redrawn w4 dq) osq = w5 at r0 r2 hb5 ⊢
  clear hbq s0 s1 s2 s3 s4 hb4
  have d0 := heap_cell r0 0 _ rfl
  have d1 := heap_cell r2 0 _ rfl
  have d2 := heap_cell r2 1 _ rfl
  go_wp2_with fail
  refine (HP.out w5 (hS1.on hb5)).mono ?_
  rintro e w6 ⟨rfl, hb6⟩
  have hb6 := below_on hb5 hb6
  have hb7 := hb6.alloc hb6.size (.cells #[.slice none 0 0] 37)
  go_wp2_with fail
  go_ret
  exact ⟨rfl, hb7⟩

set_option maxHeartbeats 1000000 in
set_option maxRecDepth 100000 in
theorem bookOne_not2_ok (l m : List EntB) (a1 : Option Addr) (n1 c1 : Nat) (a2 : Option Addr) (n2 c2 : Nat) (k : Int) (v : ByteArray) (w : World) (hE : Tab w) (hn1 : l.length = n1) (hn2 : m.length = n2) (hS1 : EntsAt w a1 c1 l) (hS2 : EntsAt w a2 c2 m) (hx : WideEnt (k, v)) (h2 : bookE m ≠ 0) (h1 : bookE l = 0) (hz : bookE (l ++ [(k, v)]) = 0) :
    Calls Tryd.prog 4 #[.agg #[.slice a1 n1 c1], .agg #[.slice a2 n2 c2], .agg #[.int .i64 k, .string v]] w fun e w' => e = .returned (.bool true) ∧ Below w.heap.size w w' := by
  have hh1 := fun w' hE hS => head_any l a1 n1 c1 w' hE hn1 hS
  have hh2 := fun w' hE hS => head_any m a2 n2 c2 w' hE hn2 hS
  have HP := Lib.hid (fun w' hS => put_ok l a1 n1 c1 k v w' hn1 hS hx h1 hz)
  have HV1 := Lib.hid (fun w' hS => vals_ok l a1 n1 c1 w' hn1 hS ((bookE_iff l).1 h1))
  have HV2 := Lib.hid (fun g w' hS => vals_ok (l ++ [(k, v)]) (some ⟨g, 0, none⟩) (n1 + 1) (n1 + 1) w' (by rw [List.length_append, hn1]; rfl) hS ((bookE_iff _).1 hz))
  obtain ⟨hk1, hk2, hvz⟩ := hx
  simp only at hk1 hk2 hvz
  have hown := own_val l (k, v)
  simp only at hown
  have hoth := fun (j : Int) (hj : j ≠ k) => other_val (l := l) (e := (k, v)) (k := j) hj
  have hstp := size_step l (k, v)
  have hsz1 := valsD_size l
  have hl24 := ((bookE_iff l).1 h1).1
  have HO := Lib.hid hoth
  clear hoth
  generalize valsD l = D1 at *
  generalize valsD (l ++ [(k, v)]) = D2 at *
  generalize l ++ [(k, v)] = l2 at *
  rw [h1] at hh1
  generalize headN l = N1 at *
  generalize headL l = L1 at *
  generalize headM l = M1 at *
  generalize headN m = N2 at *
  generalize headL m = L2 at *
  generalize headM m = M2 at *
  generalize bookE m = z2 at *
  have hzc : (z2 == 0) = false := by simp only [beq_eq_false_iff_ne, ne_eq]; exact h2
  have HH1 := Lib.hid hh1
  have HH2 := Lib.hid hh2
  clear hh1 hh2 h1 hz
  obtain ⟨q0, q1, q2, qs⟩ := boxes3 w (.cells #[.slice a1 n1 c1] 37) (.cells #[.slice a2 n2 c2] 37) (.cells #[.int .i64 k, .string v] 39)
  have hb0 := below3 w (.cells #[.slice a1 n1 c1] 37) (.cells #[.slice a2 n2 c2] 37) (.cells #[.int .i64 k, .string v] 39)
  have m1 := hS1.max
  have m2 := hS2.max
  have p1 := hS1.cap
  have p2 := hS2.cap
  go_enter Tryd.func4, Tryd.ntmps4
  go_wp2_with fail
  generalize (((w.alloc (.cells #[.slice a1 n1 c1] 37)).alloc (.cells #[.slice a2 n2 c2] 37)).alloc (.cells #[.int .i64 k, .string v] 39)) = W at q0 q1 q2 qs hb0 ⊢
  refine (HH1.out W (hE.on hb0) (hS1.on hb0)).mono ?_
  rintro e w1 ⟨rfl, hb1⟩
  have r0 := heap_on hb1 q0
  have r1 := heap_on hb1 q1
  have r2 := heap_on hb1 q2
  have hb1 := below_on hb0 hb1
  clear hb0 q0 q1 q2 qs HH1
  have s0 := heap_old w1 (.cells #[.int .i64 N1, .string L1, .string M1] 41) r0
  have s1 := heap_old w1 (.cells #[.int .i64 N1, .string L1, .string M1] 41) r1
  have s2 := heap_old w1 (.cells #[.int .i64 N1, .string L1, .string M1] 41) r2
  have s3 := heap_push w1 (.cells #[.int .i64 N1, .string L1, .string M1] 41)
  have hb2 := hb1.alloc hb1.size (.cells #[.int .i64 N1, .string L1, .string M1] 41)
  have d1 := heap_cell s1 0 _ rfl
  clear hb1 r0 r1 r2
  go_wp2_with fail
  generalize (w1.alloc (.cells #[.int .i64 N1, .string L1, .string M1] 41)) = w2 at s0 s1 s2 s3 hb2 d1 ⊢
  generalize w1.heap.size = B3 at s3 ⊢
  refine (HH2.out w2 (hE.on hb2) (hS2.on hb2)).mono ?_
  rintro e w3 ⟨rfl, hb3⟩
  have r0 := heap_on hb3 s0
  have r1 := heap_on hb3 s1
  have r2 := heap_on hb3 s2
  have r3 := heap_on hb3 s3
  have hb3 := below_on hb2 hb3
  clear hb2 s0 s1 s2 s3 d1 HH2
  have s0 := heap_old w3 (.cells #[.int .i64 N2, .string L2, .string M2] 41) r0
  have s1 := heap_old w3 (.cells #[.int .i64 N2, .string L2, .string M2] 41) r1
  have s2 := heap_old w3 (.cells #[.int .i64 N2, .string L2, .string M2] 41) r2
  have s3 := heap_old w3 (.cells #[.int .i64 N2, .string L2, .string M2] 41) r3
  have s4 := heap_push w3 (.cells #[.int .i64 N2, .string L2, .string M2] 41)
  have hb4 := hb3.alloc hb3.size (.cells #[.int .i64 N2, .string L2, .string M2] 41)
  clear hb3 r0 r1 r2 r3
  go_upto_region 3 with fail
  generalize (w3.alloc (.cells #[.int .i64 N2, .string L2, .string M2] 41)) = w4 at s0 s1 s2 s3 s4 hb4 ⊢
  generalize w3.heap.size = B4 at s4 ⊢
  have cF := Lib.hid (fun d os => Calls.regrown_of (booked_any (Sort.grow (redrawn w4 d) os) (hE.on (below_on hb4 (below_regrown w4 d os)))))
  go_wp2_with fail
  refine wp_region_quiet_below (by kernel_rfl) (by kernel_rfl) ?_
  repeat (first | go_big_quiet_step (with_reducible exact cF.out _ _) | quiet_step (with_reducible exact cF.out _ _))
  refine wpQuiet_nil ?_
  intro _ hw'
  obtain ⟨⟨dq, osq⟩, hw''⟩ := hw'
  subst hw''
  have hbq := below_regrown w4 dq osq
  clear cF
  have r0 := heap_on hbq s0
  have r2 := heap_on hbq s2
  have hb5 := below_on hb4 hbq
  generalize Sort.grow (redrawn w4 dq) osq = w5 at r0 r2 hb5 ⊢
  clear hbq s0 s1 s2 s3 s4 hb4
  have d0 := heap_cell r0 0 _ rfl
  have d1 := heap_cell r2 0 _ rfl
  have d2 := heap_cell r2 1 _ rfl
  go_wp2_with fail
  refine (HP.out w5 (hS1.on hb5)).mono ?_
  rintro e w6 ⟨g, rfl, hS6, hb6⟩
  have s0 := heap_on hb6 r0
  have s2 := heap_on hb6 r2
  have hb6 := below_on hb5 hb6
  clear r0 r2 d0 d1 d2 hb5 HP
  have r0 := heap_old w6 (.cells #[.slice (some ⟨g, 0, none⟩) (n1 + 1) (n1 + 1)] 37) s0
  have r2 := heap_old w6 (.cells #[.slice (some ⟨g, 0, none⟩) (n1 + 1) (n1 + 1)] 37) s2
  have r3 := heap_push w6 (.cells #[.slice (some ⟨g, 0, none⟩) (n1 + 1) (n1 + 1)] 37)
  have hS7 := hS6.on ((Below.refl _ w6).alloc (Nat.le_refl _) (.cells #[.slice (some ⟨g, 0, none⟩) (n1 + 1) (n1 + 1)] 37))
  have hb7 := hb6.alloc hb6.size (.cells #[.slice (some ⟨g, 0, none⟩) (n1 + 1) (n1 + 1)] 37)
  clear s0 s2 hS6 hb6
  have d0 := heap_cell r0 0 _ rfl
  go_wp2_with fail
  generalize (w6.alloc (.cells #[.slice (some ⟨g, 0, none⟩) (n1 + 1) (n1 + 1)] 37)) = w7 at r0 r2 r3 hS7 hb7 d0 ⊢
  generalize w6.heap.size = B5 at r3 ⊢
  refine (HV1.out w7 (hS1.on hb7)).mono ?_
  rintro e w8 ⟨pm1, rfl, hM1, _, hb8⟩
  have s0 := heap_on hb8 r0
  have s2 := heap_on hb8 r2
  have s3 := heap_on hb8 r3
  have hS8 := hS7.on hb8
  have hb8 := below_on hb7 hb8
  clear r0 r2 r3 hS7 hb7 d0 HV1
  have d3 := heap_cell s3 0 _ rfl
  go_wp2_with fail
  refine (HV2.out g w8 hS8).mono ?_
  rintro e w9 ⟨pm2, rfl, hM2, _, hb9⟩
  have r0 := heap_on hb9 s0
  have r2 := heap_on hb9 s2
  have r3 := heap_on hb9 s3
  have hM1 := hM1.on hb9
  have hb9 := below_on hb8 hb9
  clear s0 s2 s3 hS8 hb8 d3 HV2
  have d0 := heap_cell r0 0 _ rfl
  have d1 := heap_cell r2 0 _ rfl
  have d2 := heap_cell r2 1 _ rfl
  have d3 := heap_cell r3 0 _ rfl
  have hlk := hM2.look1 (k := k) hk1 hk2
  rw [hown] at hlk
  go_upto_region 12 with fail
  have hM1' := hM1
  rcases hM1 with ⟨hno, _⟩ | ⟨b1, nn, hpm, ho⟩
  · cases hno
  injection hpm with hpm
  subst hpm
  clear hlk d0 d3 r0 r3 hS1 hS2 hown
  go_wp2_with (at_range; refine wpList_range_own _ rfl _ 22 rfl 3 9 keyed Tryd.underlying22 _ pm1 nn D1 rfl ho ?_; intro w0 hrg0 hg0 hs0)
  go_frame
  have hbl0 : Below w9.heap.size w9 w0 := (Below.refl _ _).grown hg0 (Nat.le_refl _) (fun j hj => by cases hj)
  clear ho hg0 hs0
  go_loopw [92] (fun _ wr => ∃ (left : Lit → Bool) (cnt : Nat), wr.ranges Tryd.prog 3 (plainElem Tryd.prog 9) pm1 w9.heap.size nn D1 left cnt ∧ Below w9.heap.size w9 wr)
    (fun _ wr => wr.rangeLeft pm1 w9.heap.size)
  case atStart => exact ⟨_, _, hrg0, hbl0⟩
  case round =>
    obtain ⟨left, cnt, hrg, hb⟩ := hrel
    have l1 := fun ty => (hM1'.on hb).len ty
    have l2 := fun ty => (hM2.on hb).len ty
    go_wp2_with (at_next; refine wpList_next_ranges_is _ rfl _ rfl 3 9 .i64 keyed Tryd.underlying3 Tryd.underlying9 pm1 w9.heap.size nn _ _ _ rfl hrg ?_ ?_)
    · intro _ _
      have hb10 := below_on hb9 hb
      have t1 : Maps.size D1 ≤ Maps.size D2 := by omega
      have t2 : decide ((Maps.size D2 : Int) ≤ (Maps.size D1 : Int) + 1) = true := decide_eq_true (by omega)
      go_wp2_with fail
      go_ret
      exact ⟨rfl, hb10⟩
    · intro x c w1 cnt1 hwx hwc _ hat hrg1 hlt hg1 _ hen
      obtain ⟨hx1, hx2⟩ := wf_bounds hwx
      have hb1 : Below w9.heap.size w9 w1 := hb.grown hg1 hb.size (fun j hj => by cases hj; exact Nat.le_refl _)
      have hM2' := hM2.on hb1
      have r2' := heap_on hb1 r2
      have d1 := heap_cell r2' 0 _ rfl
      have d2 := heap_cell r2' 1 _ rfl
      have hval : valS D1 x = c := by rw [valS_eq, hat, textD_mk]
      by_cases hxk : x = k
      · subst hxk
        clear hat hval
        go_wp2_with fail
        go_roundw
        case rel => exact ⟨_, cnt1, hrg1, hb1⟩
        case measure => rw [hrg1.left_eq, hrg.left_eq]; exact hlt
      · have hlk := hM2'.look1 (k := x) hx1 hx2
        rw [HO.out x hxk, hval] at hlk
        have hxb : (x == k) = false := by simp only [beq_eq_false_iff_ne, ne_eq]; exact hxk
        clear hat hval
        go_wp2_with fail
        go_roundw
        case rel => exact ⟨_, cnt1, hrg1, hb1⟩
        case measure => rw [hrg1.left_eq, hrg.left_eq]; exact hlt

theorem bookOne_walk (l : List EntB) (a1 : Option Addr) (n1 c1 : Nat) (m : List EntB) (a2 : Option Addr) (n2 c2 : Nat) (k : Int) (v : ByteArray) (w : World) (hE : Tab w) (hn1 : l.length = n1) (hS1 : EntsAt w a1 c1 l) (hn2 : m.length = n2) (hS2 : EntsAt w a2 c2 m) (hx : WideEnt (k, v)) :
    Calls Tryd.prog 4 #[.agg #[.slice a1 n1 c1], .agg #[.slice a2 n2 c2], .agg #[.int .i64 k, .string v]] w fun e w' => e = .returned (.bool true) ∧ Below w.heap.size w w' := by
  by_cases h1 : bookE l = 0
  · by_cases hz : bookE (l ++ [(k, v)]) = 0
    · by_cases h2 : bookE m = 0
      · by_cases e : l = m
        · subst e
          exact bookOne_eq_ok l a1 n1 c1 a2 n2 c2 k v w hE hn1 hn2 hS1 hS2 hx h1 hz
        · exact bookOne_ne_ok l m a1 n1 c1 a2 n2 c2 k v w hE hn1 hn2 hS1 hS2 hx h2 e h1 hz
      · exact bookOne_not2_ok l m a1 n1 c1 a2 n2 c2 k v w hE hn1 hn2 hS1 hS2 hx h2 h1 hz
    · by_cases h2 : bookE m = 0
      · by_cases e : l = m
        · subst e
          exact bookOne_eq_no l a1 n1 c1 a2 n2 c2 k v w hE hn1 hn2 hS1 hS2 hx h1 _ rfl hz
        · exact bookOne_ne_no l m a1 n1 c1 a2 n2 c2 k v w hE hn1 hn2 hS1 hS2 hx h2 e h1 _ rfl hz
      · exact bookOne_not2_no l m a1 n1 c1 a2 n2 c2 k v w hE hn1 hn2 hS1 hS2 hx h2 h1 _ rfl hz
  · exact bookOne_not1_bad l m a1 n1 c1 a2 n2 c2 k v w hE hn1 hn2 hS1 hS2 hx h1
end Go.Proofs.YtegilmaplhkkiadDoor
