/-
  NoteBack walked: what is printed is read, what is read is printed as it was; unlike heads have unlike texts.
-/
import Derived.Test.YtbpheklfdakikadDoorNoted
namespace Go.Proofs.YtbpheklfdakikadDoor
open Go Go.RowKit

theorem print_size {n : Int} {a b : ByteArray} (h : headE n a b = 0) : (printV n a b).size ≤ 281474976710656 := by
  obtain ⟨h1, h2, h3, h4⟩ := (headE_iff n a b).1 h
  have := writeB_size n.toNat a.size b.size (by omega) h3 h4
  rw [print_pos h, ba_size, printS_data, List.length_append, List.length_append, ← ba_size, ← ba_size]
  rw [ba_size] at this
  simp only [writeB] at this
  omega

set_option maxHeartbeats 2000000 in
set_option maxRecDepth 100000 in
theorem noteBack_bad1 (n : Int) (a b : ByteArray) (m : Int) (c d : ByteArray) (s : ByteArray) (w : World) (hE : Env w) (hs : s.size ≤ 281474976710656) (h1 : headE n a b ≠ 0) :
    Calls Tryd.prog 5 #[.agg #[.int .i64 n, .string a, .string b], .agg #[.int .i64 m, .string c, .string d], .string s] w fun e w' => e = .returned (.bool true) ∧ Below w.heap.size w w' := by
  have hp1 := fun w' hE' => print_any n a b w' hE'
  have hp2 := fun w' hE' => print_any m c d w' hE'
  generalize printV n a b = T1 at *
  generalize printV m c d = T2 at *
  generalize headE n a b = z1 at *
  generalize headE m c d = z2 at *
  have hzb : (z1 == 0) = false := by simp only [beq_eq_false_iff_ne, ne_eq]; exact h1
  have hps := fun w' hE' => parse_any s w' hE' hs
  have hpt := fun w' hE' => print_any (parseN s) (parseA s) (parseB s) w' hE'
  have hbt : parseE s = 0 → headE (parseN s) (parseA s) (parseB s) = 0 ∧ printV (parseN s) (parseA s) (parseB s) = s := back_text
  generalize printV (parseN s) (parseA s) (parseB s) = T3 at *
  generalize headE (parseN s) (parseA s) (parseB s) = z4 at *
  generalize parseN s = N3 at *
  generalize parseA s = A3 at *
  generalize parseB s = B3 at *
  generalize parseE s = z3 at *
  have HP1 := Lib.hid hp1
  have HP2 := Lib.hid hp2
  have HPS := Lib.hid hps
  have HPT := Lib.hid hpt
  have HBT := Lib.hid hbt
  clear hp1 hps hpt hbt hp2 h1
  obtain ⟨q0, q1, hb0⟩ := boxes2 w (.cells #[.int .i64 n, .string a, .string b] 41) (.cells #[.int .i64 m, .string c, .string d] 41)
  go_enter Tryd.func5, Tryd.ntmps5
  go_wp2_with fail
  generalize ((w.alloc (.cells #[.int .i64 n, .string a, .string b] 41)).alloc (.cells #[.int .i64 m, .string c, .string d] 41)) = W at q0 q1 hb0 ⊢
  refine (HP1.out W (hE.on hb0).toTab).mono ?_
  rintro e w1 ⟨rfl, hb1⟩
  have r0 := heap_on hb1 q0
  have r1 := heap_on hb1 q1
  have hb1 := below_on hb0 hb1
  clear q0 q1 hb0
  have d0 := heap_cell r1 0 _ rfl
  have d1 := heap_cell r1 1 _ rfl
  have d2 := heap_cell r1 2 _ rfl
  go_wp2_with fail
  clear d0 d1 d2
  refine (HP2.out w1 (hE.on hb1).toTab).mono ?_
  rintro e w2 ⟨rfl, hb2⟩
  have q0 := heap_on hb2 r0
  have q1 := heap_on hb2 r1
  have hb2 := below_on hb1 hb2
  clear r0 r1 hb1
  go_wp2_with fail
  refine (noted_any w2 (hE.on hb2)).mono ?_
  rintro e w3 ⟨rfl, hb3⟩
  have r0 := heap_on hb3 q0
  have r1 := heap_on hb3 q1
  have hb3 := below_on hb2 hb3
  clear q0 q1 hb2
  have k0 := heap_cell r0 0 _ rfl
  have k1 := heap_cell r0 1 _ rfl
  have k2 := heap_cell r0 2 _ rfl
  have d0 := heap_cell r1 0 _ rfl
  have d1 := heap_cell r1 1 _ rfl
  have d2 := heap_cell r1 2 _ rfl
  go_wp2_with fail
  clear k0 k1 k2 d0 d1 d2
  refine (HPS.out w3 (hE.on hb3)).mono ?_
  rintro e w6 ⟨rfl, hb6⟩
  have hb6 := below_on hb3 hb6
  have hb7 := hb6.alloc hb6.size (.cells #[.int .i64 N3, .string A3, .string B3] 41)
  have s1 := heap_push w6 (.cells #[.int .i64 N3, .string A3, .string B3] 41)
  by_cases h3 : z3 = 0
  · subst h3
    obtain ⟨rfl, rfl⟩ := HBT.out rfl
    go_wp2_with fail
    generalize (w6.alloc (.cells #[.int .i64 N3, .string A3, .string B3] 41)) = w7 at s1 hb7 ⊢
    refine (HPT.out w7 (hE.on hb7).toTab).mono ?_
    rintro e w8 ⟨rfl, hb8⟩
    have hb8 := below_on hb7 hb8
    go_wp2_with fail
    go_ret
    exact ⟨rfl, hb8⟩
  · have hz3 : (z3 == 0) = false := by simp only [beq_eq_false_iff_ne, ne_eq]; exact h3
    go_wp2_with fail
    go_ret
    exact ⟨rfl, hb7⟩

set_option maxHeartbeats 2000000 in
set_option maxRecDepth 100000 in
theorem noteBack_bad2 (n : Int) (a b : ByteArray) (m : Int) (c d : ByteArray) (s : ByteArray) (w : World) (hE : Env w) (hs : s.size ≤ 281474976710656) (h1 : headE n a b = 0) (h2 : headE m c d ≠ 0) :
    Calls Tryd.prog 5 #[.agg #[.int .i64 n, .string a, .string b], .agg #[.int .i64 m, .string c, .string d], .string s] w fun e w' => e = .returned (.bool true) ∧ Below w.heap.size w w' := by
  have hp1 := fun w' hE' => print_any n a b w' hE'
  have hp2 := fun w' hE' => print_any m c d w' hE'
  obtain ⟨e1, e2, e3, e4⟩ := back_head h1
  have hbk := fun w' hE' => parse_any (printV n a b) w' hE' (print_size h1)
  rw [e1, e2, e3, e4] at hbk
  clear e1 e2 e3 e4
  rw [h1] at hp1
  generalize printV n a b = T1 at *
  generalize printV m c d = T2 at *
  generalize headE m c d = z2 at *
  have hzc : (z2 == 0) = false := by simp only [beq_eq_false_iff_ne, ne_eq]; exact h2
  have hps := fun w' hE' => parse_any s w' hE' hs
  have hpt := fun w' hE' => print_any (parseN s) (parseA s) (parseB s) w' hE'
  have hbt : parseE s = 0 → headE (parseN s) (parseA s) (parseB s) = 0 ∧ printV (parseN s) (parseA s) (parseB s) = s := back_text
  generalize printV (parseN s) (parseA s) (parseB s) = T3 at *
  generalize headE (parseN s) (parseA s) (parseB s) = z4 at *
  generalize parseN s = N3 at *
  generalize parseA s = A3 at *
  generalize parseB s = B3 at *
  generalize parseE s = z3 at *
  have HP1 := Lib.hid hp1
  have HP2 := Lib.hid hp2
  have HK := Lib.hid hbk
  have HPS := Lib.hid hps
  have HPT := Lib.hid hpt
  have HBT := Lib.hid hbt
  clear hp1 hps hpt hbt hp2 hbk h1 h2
  obtain ⟨q0, q1, hb0⟩ := boxes2 w (.cells #[.int .i64 n, .string a, .string b] 41) (.cells #[.int .i64 m, .string c, .string d] 41)
  go_enter Tryd.func5, Tryd.ntmps5
  go_wp2_with fail
  generalize ((w.alloc (.cells #[.int .i64 n, .string a, .string b] 41)).alloc (.cells #[.int .i64 m, .string c, .string d] 41)) = W at q0 q1 hb0 ⊢
  refine (HP1.out W (hE.on hb0).toTab).mono ?_
  rintro e w1 ⟨rfl, hb1⟩
  have r0 := heap_on hb1 q0
  have r1 := heap_on hb1 q1
  have hb1 := below_on hb0 hb1
  clear q0 q1 hb0
  have d0 := heap_cell r1 0 _ rfl
  have d1 := heap_cell r1 1 _ rfl
  have d2 := heap_cell r1 2 _ rfl
  go_wp2_with fail
  clear d0 d1 d2
  refine (HP2.out w1 (hE.on hb1).toTab).mono ?_
  rintro e w2 ⟨rfl, hb2⟩
  have q0 := heap_on hb2 r0
  have q1 := heap_on hb2 r1
  have hb2 := below_on hb1 hb2
  clear r0 r1 hb1
  go_wp2_with fail
  refine (noted_any w2 (hE.on hb2)).mono ?_
  rintro e w3 ⟨rfl, hb3⟩
  have r0 := heap_on hb3 q0
  have r1 := heap_on hb3 q1
  have hb3 := below_on hb2 hb3
  clear q0 q1 hb2
  have k0 := heap_cell r0 0 _ rfl
  have k1 := heap_cell r0 1 _ rfl
  have k2 := heap_cell r0 2 _ rfl
  have d0 := heap_cell r1 0 _ rfl
  have d1 := heap_cell r1 1 _ rfl
  have d2 := heap_cell r1 2 _ rfl
  go_wp2_with fail
  clear k0 k1 k2 d0 d1 d2
  refine (HK.out w3 (hE.on hb3)).mono ?_
  rintro e w4 ⟨rfl, hb4⟩
  have q0 := heap_on hb4 r0
  have hb4 := below_on hb3 hb4
  clear r0 r1 hb3
  have s0 := heap_old w4 (.cells #[.int .i64 n, .string a, .string b] 41) q0
  have s1 := heap_push w4 (.cells #[.int .i64 n, .string a, .string b] 41)
  have hb5 := hb4.alloc hb4.size (.cells #[.int .i64 n, .string a, .string b] 41)
  go_upto_region 7 with fail
  generalize (w4.alloc (.cells #[.int .i64 n, .string a, .string b] 41)) = w5 at s0 s1 hb5 ⊢
  generalize w4.heap.size = B4 at s1 ⊢
  have k0 := heap_cell s0 0 _ rfl
  have k1 := heap_cell s0 1 _ rfl
  have k2 := heap_cell s0 2 _ rfl
  have d0 := heap_cell s1 0 _ rfl
  have d1 := heap_cell s1 1 _ rfl
  have d2 := heap_cell s1 2 _ rfl
  go_wp2_with fail
  clear k0 k1 k2 d0 d1 d2 s0 s1
  refine (HPS.out w5 (hE.on hb5)).mono ?_
  rintro e w6 ⟨rfl, hb6⟩
  have hb6 := below_on hb5 hb6
  have hb7 := hb6.alloc hb6.size (.cells #[.int .i64 N3, .string A3, .string B3] 41)
  have s1 := heap_push w6 (.cells #[.int .i64 N3, .string A3, .string B3] 41)
  by_cases h3 : z3 = 0
  · subst h3
    obtain ⟨rfl, rfl⟩ := HBT.out rfl
    go_wp2_with fail
    generalize (w6.alloc (.cells #[.int .i64 N3, .string A3, .string B3] 41)) = w7 at s1 hb7 ⊢
    refine (HPT.out w7 (hE.on hb7).toTab).mono ?_
    rintro e w8 ⟨rfl, hb8⟩
    have hb8 := below_on hb7 hb8
    go_wp2_with fail
    go_ret
    exact ⟨rfl, hb8⟩
  · have hz3 : (z3 == 0) = false := by simp only [beq_eq_false_iff_ne, ne_eq]; exact h3
    go_wp2_with fail
    go_ret
    exact ⟨rfl, hb7⟩

set_option maxHeartbeats 2000000 in
set_option maxRecDepth 100000 in
theorem noteBack_same (n : Int) (a b : ByteArray) (s : ByteArray) (w : World) (hE : Env w) (hs : s.size ≤ 281474976710656) (h1 : headE n a b = 0) :
    Calls Tryd.prog 5 #[.agg #[.int .i64 n, .string a, .string b], .agg #[.int .i64 n, .string a, .string b], .string s] w fun e w' => e = .returned (.bool true) ∧ Below w.heap.size w w' := by
  have hp1 := fun w' hE' => print_any n a b w' hE'
  obtain ⟨e1, e2, e3, e4⟩ := back_head h1
  have hbk := fun w' hE' => parse_any (printV n a b) w' hE' (print_size h1)
  rw [e1, e2, e3, e4] at hbk
  clear e1 e2 e3 e4
  rw [h1] at hp1
  generalize printV n a b = T1 at *
  have hps := fun w' hE' => parse_any s w' hE' hs
  have hpt := fun w' hE' => print_any (parseN s) (parseA s) (parseB s) w' hE'
  have hbt : parseE s = 0 → headE (parseN s) (parseA s) (parseB s) = 0 ∧ printV (parseN s) (parseA s) (parseB s) = s := back_text
  generalize printV (parseN s) (parseA s) (parseB s) = T3 at *
  generalize headE (parseN s) (parseA s) (parseB s) = z4 at *
  generalize parseN s = N3 at *
  generalize parseA s = A3 at *
  generalize parseB s = B3 at *
  generalize parseE s = z3 at *
  have HP1 := Lib.hid hp1
  have HK := Lib.hid hbk
  have HPS := Lib.hid hps
  have HPT := Lib.hid hpt
  have HBT := Lib.hid hbt
  clear hp1 hps hpt hbt hbk h1
  obtain ⟨q0, q1, hb0⟩ := boxes2 w (.cells #[.int .i64 n, .string a, .string b] 41) (.cells #[.int .i64 n, .string a, .string b] 41)
  go_enter Tryd.func5, Tryd.ntmps5
  go_wp2_with fail
  generalize ((w.alloc (.cells #[.int .i64 n, .string a, .string b] 41)).alloc (.cells #[.int .i64 n, .string a, .string b] 41)) = W at q0 q1 hb0 ⊢
  refine (HP1.out W (hE.on hb0).toTab).mono ?_
  rintro e w1 ⟨rfl, hb1⟩
  have r0 := heap_on hb1 q0
  have r1 := heap_on hb1 q1
  have hb1 := below_on hb0 hb1
  clear q0 q1 hb0
  have d0 := heap_cell r1 0 _ rfl
  have d1 := heap_cell r1 1 _ rfl
  have d2 := heap_cell r1 2 _ rfl
  go_wp2_with fail
  clear d0 d1 d2
  refine (HP1.out w1 (hE.on hb1).toTab).mono ?_
  rintro e w2 ⟨rfl, hb2⟩
  have q0 := heap_on hb2 r0
  have q1 := heap_on hb2 r1
  have hb2 := below_on hb1 hb2
  clear r0 r1 hb1
  go_wp2_with fail
  refine (noted_any w2 (hE.on hb2)).mono ?_
  rintro e w3 ⟨rfl, hb3⟩
  have r0 := heap_on hb3 q0
  have r1 := heap_on hb3 q1
  have hb3 := below_on hb2 hb3
  clear q0 q1 hb2
  have k0 := heap_cell r0 0 _ rfl
  have k1 := heap_cell r0 1 _ rfl
  have k2 := heap_cell r0 2 _ rfl
  have d0 := heap_cell r1 0 _ rfl
  have d1 := heap_cell r1 1 _ rfl
  have d2 := heap_cell r1 2 _ rfl
  go_wp2_with fail
  clear k0 k1 k2 d0 d1 d2
  refine (HK.out w3 (hE.on hb3)).mono ?_
  rintro e w4 ⟨rfl, hb4⟩
  have q0 := heap_on hb4 r0
  have hb4 := below_on hb3 hb4
  clear r0 r1 hb3
  have s0 := heap_old w4 (.cells #[.int .i64 n, .string a, .string b] 41) q0
  have s1 := heap_push w4 (.cells #[.int .i64 n, .string a, .string b] 41)
  have hb5 := hb4.alloc hb4.size (.cells #[.int .i64 n, .string a, .string b] 41)
  go_upto_region 7 with fail
  generalize (w4.alloc (.cells #[.int .i64 n, .string a, .string b] 41)) = w5 at s0 s1 hb5 ⊢
  generalize w4.heap.size = B4 at s1 ⊢
  have k0 := heap_cell s0 0 _ rfl
  have k1 := heap_cell s0 1 _ rfl
  have k2 := heap_cell s0 2 _ rfl
  have d0 := heap_cell s1 0 _ rfl
  have d1 := heap_cell s1 1 _ rfl
  have d2 := heap_cell s1 2 _ rfl
  go_wp2_with fail
  clear k0 k1 k2 d0 d1 d2 s0 s1
  refine (HPS.out w5 (hE.on hb5)).mono ?_
  rintro e w6 ⟨rfl, hb6⟩
  have hb6 := below_on hb5 hb6
  have hb7 := hb6.alloc hb6.size (.cells #[.int .i64 N3, .string A3, .string B3] 41)
  have s1 := heap_push w6 (.cells #[.int .i64 N3, .string A3, .string B3] 41)
  by_cases h3 : z3 = 0
  · subst h3
    obtain ⟨rfl, rfl⟩ := HBT.out rfl
    go_wp2_with fail
    generalize (w6.alloc (.cells #[.int .i64 N3, .string A3, .string B3] 41)) = w7 at s1 hb7 ⊢
    refine (HPT.out w7 (hE.on hb7).toTab).mono ?_
    rintro e w8 ⟨rfl, hb8⟩
    have hb8 := below_on hb7 hb8
    go_wp2_with fail
    go_ret
    exact ⟨rfl, hb8⟩
  · have hz3 : (z3 == 0) = false := by simp only [beq_eq_false_iff_ne, ne_eq]; exact h3
    go_wp2_with fail
    go_ret
    exact ⟨rfl, hb7⟩

set_option maxHeartbeats 2000000 in
set_option maxRecDepth 100000 in
theorem noteBack_neN (n : Int) (a b : ByteArray) (m : Int) (c d : ByteArray) (s : ByteArray) (w : World) (hE : Env w) (hs : s.size ≤ 281474976710656) (h1 : headE n a b = 0) (h2 : headE m c d = 0) (hne : n ≠ m) :
    Calls Tryd.prog 5 #[.agg #[.int .i64 n, .string a, .string b], .agg #[.int .i64 m, .string c, .string d], .string s] w fun e w' => e = .returned (.bool true) ∧ Below w.heap.size w w' := by
  have hp1 := fun w' hE' => print_any n a b w' hE'
  have hp2 := fun w' hE' => print_any m c d w' hE'
  obtain ⟨e1, e2, e3, e4⟩ := back_head h1
  have hbk := fun w' hE' => parse_any (printV n a b) w' hE' (print_size h1)
  rw [e1, e2, e3, e4] at hbk
  clear e1 e2 e3 e4
  have htu := str_ne (fun x => hne ((fun e => e.1) (print_inj h1 h2 x)))
  have hd : (n == m) = false := by simp only [beq_eq_false_iff_ne, ne_eq]; exact hne
  rw [h1] at hp1
  rw [h2] at hp2
  generalize printV n a b = T1 at *
  generalize printV m c d = T2 at *
  have hps := fun w' hE' => parse_any s w' hE' hs
  have hpt := fun w' hE' => print_any (parseN s) (parseA s) (parseB s) w' hE'
  have hbt : parseE s = 0 → headE (parseN s) (parseA s) (parseB s) = 0 ∧ printV (parseN s) (parseA s) (parseB s) = s := back_text
  generalize printV (parseN s) (parseA s) (parseB s) = T3 at *
  generalize headE (parseN s) (parseA s) (parseB s) = z4 at *
  generalize parseN s = N3 at *
  generalize parseA s = A3 at *
  generalize parseB s = B3 at *
  generalize parseE s = z3 at *
  have HP1 := Lib.hid hp1
  have HP2 := Lib.hid hp2
  have HK := Lib.hid hbk
  have HPS := Lib.hid hps
  have HPT := Lib.hid hpt
  have HBT := Lib.hid hbt
  clear hp1 hps hpt hbt hp2 hbk h1 h2
  obtain ⟨q0, q1, hb0⟩ := boxes2 w (.cells #[.int .i64 n, .string a, .string b] 41) (.cells #[.int .i64 m, .string c, .string d] 41)
  go_enter Tryd.func5, Tryd.ntmps5
  go_wp2_with fail
  generalize ((w.alloc (.cells #[.int .i64 n, .string a, .string b] 41)).alloc (.cells #[.int .i64 m, .string c, .string d] 41)) = W at q0 q1 hb0 ⊢
  refine (HP1.out W (hE.on hb0).toTab).mono ?_
  rintro e w1 ⟨rfl, hb1⟩
  have r0 := heap_on hb1 q0
  have r1 := heap_on hb1 q1
  have hb1 := below_on hb0 hb1
  clear q0 q1 hb0
  have d0 := heap_cell r1 0 _ rfl
  have d1 := heap_cell r1 1 _ rfl
  have d2 := heap_cell r1 2 _ rfl
  go_wp2_with fail
  clear d0 d1 d2
  refine (HP2.out w1 (hE.on hb1).toTab).mono ?_
  rintro e w2 ⟨rfl, hb2⟩
  have q0 := heap_on hb2 r0
  have q1 := heap_on hb2 r1
  have hb2 := below_on hb1 hb2
  clear r0 r1 hb1
  go_wp2_with fail
  refine (noted_any w2 (hE.on hb2)).mono ?_
  rintro e w3 ⟨rfl, hb3⟩
  have r0 := heap_on hb3 q0
  have r1 := heap_on hb3 q1
  have hb3 := below_on hb2 hb3
  clear q0 q1 hb2
  have k0 := heap_cell r0 0 _ rfl
  have k1 := heap_cell r0 1 _ rfl
  have k2 := heap_cell r0 2 _ rfl
  have d0 := heap_cell r1 0 _ rfl
  have d1 := heap_cell r1 1 _ rfl
  have d2 := heap_cell r1 2 _ rfl
  go_wp2_with fail
  clear k0 k1 k2 d0 d1 d2
  refine (HK.out w3 (hE.on hb3)).mono ?_
  rintro e w4 ⟨rfl, hb4⟩
  have q0 := heap_on hb4 r0
  have hb4 := below_on hb3 hb4
  clear r0 r1 hb3
  have s0 := heap_old w4 (.cells #[.int .i64 n, .string a, .string b] 41) q0
  have s1 := heap_push w4 (.cells #[.int .i64 n, .string a, .string b] 41)
  have hb5 := hb4.alloc hb4.size (.cells #[.int .i64 n, .string a, .string b] 41)
  go_upto_region 7 with fail
  generalize (w4.alloc (.cells #[.int .i64 n, .string a, .string b] 41)) = w5 at s0 s1 hb5 ⊢
  generalize w4.heap.size = B4 at s1 ⊢
  have k0 := heap_cell s0 0 _ rfl
  have k1 := heap_cell s0 1 _ rfl
  have k2 := heap_cell s0 2 _ rfl
  have d0 := heap_cell s1 0 _ rfl
  have d1 := heap_cell s1 1 _ rfl
  have d2 := heap_cell s1 2 _ rfl
  go_wp2_with fail
  clear k0 k1 k2 d0 d1 d2 s0 s1
  refine (HPS.out w5 (hE.on hb5)).mono ?_
  rintro e w6 ⟨rfl, hb6⟩
  have hb6 := below_on hb5 hb6
  have hb7 := hb6.alloc hb6.size (.cells #[.int .i64 N3, .string A3, .string B3] 41)
  have s1 := heap_push w6 (.cells #[.int .i64 N3, .string A3, .string B3] 41)
  by_cases h3 : z3 = 0
  · subst h3
    obtain ⟨rfl, rfl⟩ := HBT.out rfl
    go_wp2_with fail
    generalize (w6.alloc (.cells #[.int .i64 N3, .string A3, .string B3] 41)) = w7 at s1 hb7 ⊢
    refine (HPT.out w7 (hE.on hb7).toTab).mono ?_
    rintro e w8 ⟨rfl, hb8⟩
    have hb8 := below_on hb7 hb8
    go_wp2_with fail
    go_ret
    exact ⟨rfl, hb8⟩
  · have hz3 : (z3 == 0) = false := by simp only [beq_eq_false_iff_ne, ne_eq]; exact h3
    go_wp2_with fail
    go_ret
    exact ⟨rfl, hb7⟩

set_option maxHeartbeats 2000000 in
set_option maxRecDepth 100000 in
theorem noteBack_neA (n : Int) (a b : ByteArray) (m : Int) (c d : ByteArray) (s : ByteArray) (w : World) (hE : Env w) (hs : s.size ≤ 281474976710656) (h1 : headE n a b = 0) (h2 : headE m c d = 0) (hne : a ≠ c) :
    Calls Tryd.prog 5 #[.agg #[.int .i64 n, .string a, .string b], .agg #[.int .i64 m, .string c, .string d], .string s] w fun e w' => e = .returned (.bool true) ∧ Below w.heap.size w w' := by
  have hp1 := fun w' hE' => print_any n a b w' hE'
  have hp2 := fun w' hE' => print_any m c d w' hE'
  obtain ⟨e1, e2, e3, e4⟩ := back_head h1
  have hbk := fun w' hE' => parse_any (printV n a b) w' hE' (print_size h1)
  rw [e1, e2, e3, e4] at hbk
  clear e1 e2 e3 e4
  have htu := str_ne (fun x => hne ((fun e => e.2.1) (print_inj h1 h2 x)))
  have hd := str_ne hne
  rw [h1] at hp1
  rw [h2] at hp2
  generalize printV n a b = T1 at *
  generalize printV m c d = T2 at *
  have hps := fun w' hE' => parse_any s w' hE' hs
  have hpt := fun w' hE' => print_any (parseN s) (parseA s) (parseB s) w' hE'
  have hbt : parseE s = 0 → headE (parseN s) (parseA s) (parseB s) = 0 ∧ printV (parseN s) (parseA s) (parseB s) = s := back_text
  generalize printV (parseN s) (parseA s) (parseB s) = T3 at *
  generalize headE (parseN s) (parseA s) (parseB s) = z4 at *
  generalize parseN s = N3 at *
  generalize parseA s = A3 at *
  generalize parseB s = B3 at *
  generalize parseE s = z3 at *
  have HP1 := Lib.hid hp1
  have HP2 := Lib.hid hp2
  have HK := Lib.hid hbk
  have HPS := Lib.hid hps
  have HPT := Lib.hid hpt
  have HBT := Lib.hid hbt
  clear hp1 hps hpt hbt hp2 hbk h1 h2 hne
  obtain ⟨q0, q1, hb0⟩ := boxes2 w (.cells #[.int .i64 n, .string a, .string b] 41) (.cells #[.int .i64 m, .string c, .string d] 41)
  go_enter Tryd.func5, Tryd.ntmps5
  go_wp2_with fail
  generalize ((w.alloc (.cells #[.int .i64 n, .string a, .string b] 41)).alloc (.cells #[.int .i64 m, .string c, .string d] 41)) = W at q0 q1 hb0 ⊢
  refine (HP1.out W (hE.on hb0).toTab).mono ?_
  rintro e w1 ⟨rfl, hb1⟩
  have r0 := heap_on hb1 q0
  have r1 := heap_on hb1 q1
  have hb1 := below_on hb0 hb1
  clear q0 q1 hb0
  have d0 := heap_cell r1 0 _ rfl
  have d1 := heap_cell r1 1 _ rfl
  have d2 := heap_cell r1 2 _ rfl
  go_wp2_with fail
  clear d0 d1 d2
  refine (HP2.out w1 (hE.on hb1).toTab).mono ?_
  rintro e w2 ⟨rfl, hb2⟩
  have q0 := heap_on hb2 r0
  have q1 := heap_on hb2 r1
  have hb2 := below_on hb1 hb2
  clear r0 r1 hb1
  go_wp2_with fail
  refine (noted_any w2 (hE.on hb2)).mono ?_
  rintro e w3 ⟨rfl, hb3⟩
  have r0 := heap_on hb3 q0
  have r1 := heap_on hb3 q1
  have hb3 := below_on hb2 hb3
  clear q0 q1 hb2
  have k0 := heap_cell r0 0 _ rfl
  have k1 := heap_cell r0 1 _ rfl
  have k2 := heap_cell r0 2 _ rfl
  have d0 := heap_cell r1 0 _ rfl
  have d1 := heap_cell r1 1 _ rfl
  have d2 := heap_cell r1 2 _ rfl
  go_wp2_with fail
  clear k0 k1 k2 d0 d1 d2
  refine (HK.out w3 (hE.on hb3)).mono ?_
  rintro e w4 ⟨rfl, hb4⟩
  have q0 := heap_on hb4 r0
  have hb4 := below_on hb3 hb4
  clear r0 r1 hb3
  have s0 := heap_old w4 (.cells #[.int .i64 n, .string a, .string b] 41) q0
  have s1 := heap_push w4 (.cells #[.int .i64 n, .string a, .string b] 41)
  have hb5 := hb4.alloc hb4.size (.cells #[.int .i64 n, .string a, .string b] 41)
  go_upto_region 7 with fail
  generalize (w4.alloc (.cells #[.int .i64 n, .string a, .string b] 41)) = w5 at s0 s1 hb5 ⊢
  generalize w4.heap.size = B4 at s1 ⊢
  have k0 := heap_cell s0 0 _ rfl
  have k1 := heap_cell s0 1 _ rfl
  have k2 := heap_cell s0 2 _ rfl
  have d0 := heap_cell s1 0 _ rfl
  have d1 := heap_cell s1 1 _ rfl
  have d2 := heap_cell s1 2 _ rfl
  go_wp2_with fail
  clear k0 k1 k2 d0 d1 d2 s0 s1
  refine (HPS.out w5 (hE.on hb5)).mono ?_
  rintro e w6 ⟨rfl, hb6⟩
  have hb6 := below_on hb5 hb6
  have hb7 := hb6.alloc hb6.size (.cells #[.int .i64 N3, .string A3, .string B3] 41)
  have s1 := heap_push w6 (.cells #[.int .i64 N3, .string A3, .string B3] 41)
  by_cases h3 : z3 = 0
  · subst h3
    obtain ⟨rfl, rfl⟩ := HBT.out rfl
    go_wp2_with fail
    generalize (w6.alloc (.cells #[.int .i64 N3, .string A3, .string B3] 41)) = w7 at s1 hb7 ⊢
    refine (HPT.out w7 (hE.on hb7).toTab).mono ?_
    rintro e w8 ⟨rfl, hb8⟩
    have hb8 := below_on hb7 hb8
    go_wp2_with fail
    go_ret
    exact ⟨rfl, hb8⟩
  · have hz3 : (z3 == 0) = false := by simp only [beq_eq_false_iff_ne, ne_eq]; exact h3
    go_wp2_with fail
    go_ret
    exact ⟨rfl, hb7⟩

set_option maxHeartbeats 2000000 in
set_option maxRecDepth 100000 in
theorem noteBack_neB (n : Int) (a b : ByteArray) (m : Int) (c d : ByteArray) (s : ByteArray) (w : World) (hE : Env w) (hs : s.size ≤ 281474976710656) (h1 : headE n a b = 0) (h2 : headE m c d = 0) (hne : b ≠ d) :
    Calls Tryd.prog 5 #[.agg #[.int .i64 n, .string a, .string b], .agg #[.int .i64 m, .string c, .string d], .string s] w fun e w' => e = .returned (.bool true) ∧ Below w.heap.size w w' := by
  have hp1 := fun w' hE' => print_any n a b w' hE'
  have hp2 := fun w' hE' => print_any m c d w' hE'
  obtain ⟨e1, e2, e3, e4⟩ := back_head h1
  have hbk := fun w' hE' => parse_any (printV n a b) w' hE' (print_size h1)
  rw [e1, e2, e3, e4] at hbk
  clear e1 e2 e3 e4
  have htu := str_ne (fun x => hne ((fun e => e.2.2) (print_inj h1 h2 x)))
  have hd := str_ne hne
  rw [h1] at hp1
  rw [h2] at hp2
  generalize printV n a b = T1 at *
  generalize printV m c d = T2 at *
  have hps := fun w' hE' => parse_any s w' hE' hs
  have hpt := fun w' hE' => print_any (parseN s) (parseA s) (parseB s) w' hE'
  have hbt : parseE s = 0 → headE (parseN s) (parseA s) (parseB s) = 0 ∧ printV (parseN s) (parseA s) (parseB s) = s := back_text
  generalize printV (parseN s) (parseA s) (parseB s) = T3 at *
  generalize headE (parseN s) (parseA s) (parseB s) = z4 at *
  generalize parseN s = N3 at *
  generalize parseA s = A3 at *
  generalize parseB s = B3 at *
  generalize parseE s = z3 at *
  have HP1 := Lib.hid hp1
  have HP2 := Lib.hid hp2
  have HK := Lib.hid hbk
  have HPS := Lib.hid hps
  have HPT := Lib.hid hpt
  have HBT := Lib.hid hbt
  clear hp1 hps hpt hbt hp2 hbk h1 h2 hne
  obtain ⟨q0, q1, hb0⟩ := boxes2 w (.cells #[.int .i64 n, .string a, .string b] 41) (.cells #[.int .i64 m, .string c, .string d] 41)
  go_enter Tryd.func5, Tryd.ntmps5
  go_wp2_with fail
  generalize ((w.alloc (.cells #[.int .i64 n, .string a, .string b] 41)).alloc (.cells #[.int .i64 m, .string c, .string d] 41)) = W at q0 q1 hb0 ⊢
  refine (HP1.out W (hE.on hb0).toTab).mono ?_
  rintro e w1 ⟨rfl, hb1⟩
  have r0 := heap_on hb1 q0
  have r1 := heap_on hb1 q1
  have hb1 := below_on hb0 hb1
  clear q0 q1 hb0
  have d0 := heap_cell r1 0 _ rfl
  have d1 := heap_cell r1 1 _ rfl
  have d2 := heap_cell r1 2 _ rfl
  go_wp2_with fail
  clear d0 d1 d2
  refine (HP2.out w1 (hE.on hb1).toTab).mono ?_
  rintro e w2 ⟨rfl, hb2⟩
  have q0 := heap_on hb2 r0
  have q1 := heap_on hb2 r1
  have hb2 := below_on hb1 hb2
  clear r0 r1 hb1
  go_wp2_with fail
  refine (noted_any w2 (hE.on hb2)).mono ?_
  rintro e w3 ⟨rfl, hb3⟩
  have r0 := heap_on hb3 q0
  have r1 := heap_on hb3 q1
  have hb3 := below_on hb2 hb3
  clear q0 q1 hb2
  have k0 := heap_cell r0 0 _ rfl
  have k1 := heap_cell r0 1 _ rfl
  have k2 := heap_cell r0 2 _ rfl
  have d0 := heap_cell r1 0 _ rfl
  have d1 := heap_cell r1 1 _ rfl
  have d2 := heap_cell r1 2 _ rfl
  go_wp2_with fail
  clear k0 k1 k2 d0 d1 d2
  refine (HK.out w3 (hE.on hb3)).mono ?_
  rintro e w4 ⟨rfl, hb4⟩
  have q0 := heap_on hb4 r0
  have hb4 := below_on hb3 hb4
  clear r0 r1 hb3
  have s0 := heap_old w4 (.cells #[.int .i64 n, .string a, .string b] 41) q0
  have s1 := heap_push w4 (.cells #[.int .i64 n, .string a, .string b] 41)
  have hb5 := hb4.alloc hb4.size (.cells #[.int .i64 n, .string a, .string b] 41)
  go_upto_region 7 with fail
  generalize (w4.alloc (.cells #[.int .i64 n, .string a, .string b] 41)) = w5 at s0 s1 hb5 ⊢
  generalize w4.heap.size = B4 at s1 ⊢
  have k0 := heap_cell s0 0 _ rfl
  have k1 := heap_cell s0 1 _ rfl
  have k2 := heap_cell s0 2 _ rfl
  have d0 := heap_cell s1 0 _ rfl
  have d1 := heap_cell s1 1 _ rfl
  have d2 := heap_cell s1 2 _ rfl
  go_wp2_with fail
  clear k0 k1 k2 d0 d1 d2 s0 s1
  refine (HPS.out w5 (hE.on hb5)).mono ?_
  rintro e w6 ⟨rfl, hb6⟩
  have hb6 := below_on hb5 hb6
  have hb7 := hb6.alloc hb6.size (.cells #[.int .i64 N3, .string A3, .string B3] 41)
  have s1 := heap_push w6 (.cells #[.int .i64 N3, .string A3, .string B3] 41)
  by_cases h3 : z3 = 0
  · subst h3
    obtain ⟨rfl, rfl⟩ := HBT.out rfl
    go_wp2_with fail
    generalize (w6.alloc (.cells #[.int .i64 N3, .string A3, .string B3] 41)) = w7 at s1 hb7 ⊢
    refine (HPT.out w7 (hE.on hb7).toTab).mono ?_
    rintro e w8 ⟨rfl, hb8⟩
    have hb8 := below_on hb7 hb8
    go_wp2_with fail
    go_ret
    exact ⟨rfl, hb8⟩
  · have hz3 : (z3 == 0) = false := by simp only [beq_eq_false_iff_ne, ne_eq]; exact h3
    go_wp2_with fail
    go_ret
    exact ⟨rfl, hb7⟩

theorem noteBack_walk (n : Int) (a b : ByteArray) (m : Int) (c d : ByteArray) (s : ByteArray) (w : World) (hE : Env w) (hs : s.size ≤ 281474976710656) :
    Calls Tryd.prog 5 #[.agg #[.int .i64 n, .string a, .string b], .agg #[.int .i64 m, .string c, .string d], .string s] w fun e w' => e = .returned (.bool true) ∧ Below w.heap.size w w' := by
  by_cases h1 : headE n a b = 0
  · by_cases h2 : headE m c d = 0
    · by_cases hn : n = m
      · by_cases ha : a = c
        · by_cases hb : b = d
          · subst hn ha hb
            exact noteBack_same n a b s w hE hs h1
          · exact noteBack_neB n a b m c d s w hE hs h1 h2 hb
        · exact noteBack_neA n a b m c d s w hE hs h1 h2 ha
      · exact noteBack_neN n a b m c d s w hE hs h1 h2 hn
    · exact noteBack_bad2 n a b m c d s w hE hs h1 h2
  · exact noteBack_bad1 n a b m c d s w hE hs h1
end Go.Proofs.YtbpheklfdakikadDoor
