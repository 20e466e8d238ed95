/-
  ShowTrue's walk: of whatever book and numbers it answers true.
-/
import Derived.Test.YtlcehogcalebdaeDoorShows
import Derived.Test.YtlcehogcalebdaeDoorHeadAny
import Derived.Test.YtlcehogcalebdaeDoorShown
import Derived.Test.YtlcehogcalebdaeDoorAt
import Derived.Lib.QuietBelow
namespace Go.Proofs.YtlcehogcalebdaeDoor
open Go Go.RowKit Go.Maps

theorem value_shown {l : List EntB} (hG : GoodBook l) {k : Nat} (hk : k < 16) : trieE (headMap l) (k : Int) (valS (valsD l) (k : Int)) (valD (valsD l) (k : Int)).isSome (pathT (valN (valsD l)) 0 k 4) = 0 := by
  refine (trie_iff (valsD_good hG.2).short k hk _ _ _).2 ⟨?_, ?_, rfl⟩
  · show _ = valD (valsD l) (k : Int)
    unfold valS
    cases valD (valsD l) (k : Int) <;> rfl
  · unfold valS
    cases valD (valsD l) (k : Int)
    · intro _; rfl
    · intro h; cases h
theorem entry_shown {l : List EntB} (hG : GoodBook l) {i : Nat} (hi : i < l.length) : showE (headLog l) (l.length : Int) (i : Int) (textE (entAt l i)) (pathS (textsE l) i) = 0 := by
  have h := (show_iff (l := textsE l) i (textE (entAt l i)) (pathS (textsE l) i) (by rw [textsE_len]; exact hi) (headLog_root hG)).2 ⟨(texts_getD l i hi).symm, rfl⟩
  rw [textsE_len] at h
  exact h

set_option maxHeartbeats 1000000 in
set_option maxRecDepth 100000 in
theorem showTrue_bad (l : List EntB) (a : Option Addr) (n c : Nat) (i key : Int) (w : World) (hE : Tab w) (hn : l.length = n) (hS : EntsAt w a c l) (z : Int) (hz : bookE l = z) (h0 : z ≠ 0) :
    Calls Tryd.prog 3 #[.agg #[.slice a n c], .int .i64 i, .int .i64 key] w fun e w' => e = .returned (.bool true) ∧ Below w.heap.size w w' := by
  have HH := Lib.hid (fun w' hS => head_no l a n c w' hn hS z hz h0)
  have hz' : (z == 0) = false := by simp only [beq_eq_false_iff_ne, ne_eq]; exact h0
  clear hz
  go_enter Tryd.func3, Tryd.ntmps3
  go_wp2_with fail
  have hb0 : Below w.heap.size w (w.alloc (.cells #[.slice a n c] 24)) := (Below.refl _ _).alloc (Nat.le_refl _) _
  generalize (w.alloc (.cells #[.slice a n c] 24)) = W at hb0 ⊢
  refine (HH.out W (hS.on hb0)).mono ?_
  rintro e w1 ⟨rfl, hb1⟩
  have hb1 := below_on hb0 hb1
  clear hb0 HH
  have hb2 := hb1.alloc hb1.size (.cells #[.int .i64 0, .string ⟨#[]⟩, .string ⟨#[]⟩] 26)
  go_wp2_with fail
  generalize (w1.alloc (.cells #[.int .i64 0, .string ⟨#[]⟩, .string ⟨#[]⟩] 26)) = w2 at hb2 ⊢
  clear hb1
  refine (shown_any w2 (hE.on hb2)).mono ?_
  rintro e w3 ⟨rfl, hb3⟩
  have hb3 := below_on hb2 hb3
  clear hb2
  go_wp2_with fail
  refine (shown_any w3 (hE.on hb3)).mono ?_
  rintro e w4 ⟨rfl, hb4⟩
  have hb4 := below_on hb3 hb4
  clear hb3
  go_wp2_with fail
  go_ret
  exact ⟨rfl, hb4⟩

set_option maxHeartbeats 1000000 in
set_option maxRecDepth 100000 in
theorem showTrue_ok (l : List EntB) (a : Option Addr) (n c : Nat) (i key : Int) (w : World) (hE : Tab w) (hn : l.length = n) (hS : EntsAt w a c l) (hi : -9223372036854775808 ≤ i) (hi' : i ≤ 9223372036854775807) (hk : -9223372036854775808 ≤ key) (hk' : key ≤ 9223372036854775807) (hG : GoodBook l) :
    Calls Tryd.prog 3 #[.agg #[.slice a n c], .int .i64 i, .int .i64 key] w fun e w' => e = .returned (.bool true) ∧ Below w.heap.size w w' := by
  have hcap := hS.cap
  have hmax := hS.max
  have h24 := hG.1
  have hlogz := headLog_size hG
  have hmapz := headMap_size hG
  have HH := Lib.hid (fun w' hE hS => head_ok l a n c w' hE hn hS hG)
  have hK := atN_lt key (show 0 < 16 by omega)
  have HA := Lib.hid (fun w' => at_any key 16 w' (by omega) (by omega) hk hk')
  generalize atN key 16 = K at hK HA
  have hva := fun w' hE hS => showValue_ok l a n c K w' hE hn hS hG hK
  have hvs := fun a c w' hE hL => tshows_any (headMap l) (K : Int) (valS (valsD l) (K : Int)) (valD (valsD l) (K : Int)).isSome (pathT (valN (valsD l)) 0 K 4) a 4 c w' hE hL (pathT_len _ 4 0 K)
  rw [value_shown hG hK] at hvs
  generalize valS (valsD l) (K : Int) = v at hva hvs
  generalize (valD (valsD l) (K : Int)).isSome = t at hva hvs
  generalize pathT (valN (valsD l)) 0 K 4 = L at hva hvs
  have HV := Lib.hid hva
  have HS := Lib.hid hvs
  clear hva hvs hk hk'
  go_enter Tryd.func3, Tryd.ntmps3
  go_wp2_with fail
  have hb0 : Below w.heap.size w (w.alloc (.cells #[.slice a n c] 24)) := (Below.refl _ _).alloc (Nat.le_refl _) _
  have q0 := heap_push w (.cells #[.slice a n c] 24)
  generalize (w.alloc (.cells #[.slice a n c] 24)) = W at hb0 q0 ⊢
  refine (HH.out W (hE.on hb0) (hS.on hb0)).mono ?_
  rintro e w1 ⟨rfl, hb1⟩
  have q1 := heap_on hb1 q0
  have hb1 := below_on hb0 hb1
  clear hb0 HH q0
  have r0 := heap_old w1 (.cells #[.int .i64 (n : Int), .string (headLog l), .string (headMap l)] 26) q1
  have r1 := heap_push w1 (.cells #[.int .i64 (n : Int), .string (headLog l), .string (headMap l)] 26)
  have hb2 := hb1.alloc hb1.size (.cells #[.int .i64 (n : Int), .string (headLog l), .string (headMap l)] 26)
  clear q1
  go_wp2_with fail
  generalize (w1.alloc (.cells #[.int .i64 (n : Int), .string (headLog l), .string (headMap l)] 26)) = w2 at r0 r1 hb2 ⊢
  generalize w1.heap.size = B at r1 ⊢
  clear hb1
  refine (shown_any w2 (hE.on hb2)).mono ?_
  rintro e w3 ⟨rfl, hb3⟩
  have q0 := heap_on hb3 r0
  have q1 := heap_on hb3 r1
  have hb3 := below_on hb2 hb3
  clear hb2 r0 r1
  go_wp2_with fail
  refine (HA.out w3).mono ?_
  rintro e w4 ⟨rfl, rfl⟩
  have d0 := heap_cell q0 0 _ rfl
  go_wp2_with fail
  refine (HV.out w3 (hE.on hb3) (hS.on hb3)).mono ?_
  rintro e w4 ⟨a4, c4, rfl, hL, hb4⟩
  have r0 := heap_on hb4 q0
  have r1 := heap_on hb4 q1
  have hb4 := below_on hb3 hb4
  clear hb3 q0 q1 d0 HV HA
  have d2 := heap_cell r1 2 _ rfl
  go_wp2_with fail
  refine (HS.out a4 c4 w4 (hE.on hb4) hL).mono ?_
  rintro e w5 ⟨rfl, hb5⟩
  have q0 := heap_on hb5 r0
  have q1 := heap_on hb5 r1
  have hb5 := below_on hb4 hb5
  clear hb4 r0 r1 d2 HS hL
  have d0 := heap_cell q0 0 _ rfl
  by_cases hn0 : n = 0
  · subst hn0
    go_wp2_with fail
    go_ret
    exact ⟨rfl, hb5⟩
  have hn0' : ¬ (n : Int) = 0 := by omega
  have hI := atN_lt i (show 0 < n by omega)
  have HA := Lib.hid (fun w' => at_any i n w' (by omega) (by omega) hi hi')
  generalize atN i n = I at hI HA
  have hen := fun w' hE hS => showEntry_ok l a n c I w' hE hn hS hG hI
  have hes := fun a c w' hE hP => shows_any (headLog l) (l.length : Int) (I : Int) (textE (entAt l I)) (pathS (textsE l) I) a (pathS (textsE l) I).length c w' rfl hE hP
  rw [entry_shown hG (by omega), hn] at hes
  obtain ⟨g1, g2, g3⟩ := hG.2 _ (entAt_mem (l := l) (i := I) (by omega))
  have htx := fun w' hE => text_any (entAt l I).1 (entAt l I).2 w' hE (by omega) (by omega) (by omega)
  obtain ⟨b, off, rfl, hbl, hc⟩ := hS.cells (by omega)
  obtain ⟨c0, c1⟩ := hc I (by omega)
  generalize pathS (textsE l) I = P at hen hes
  generalize entAt l I = x at c0 c1 hen hes htx g1 g2 g3
  obtain ⟨ky, vl⟩ := x
  simp only at c0 c1 hen hes htx g1 g2 g3
  have HEN := Lib.hid hen
  have HES := Lib.hid hes
  have HTX := Lib.hid htx
  clear hen hes htx hc hi hi'
  have hIc : (I : Int) < (n : Int) := by omega
  go_wp2_with fail
  refine (HA.out w5).mono ?_
  rintro e w6 ⟨rfl, rfl⟩
  go_wp2_with fail
  refine (HEN.out w5 (hE.on hb5) (hS.on hb5)).mono ?_
  rintro e w6 ⟨a6, c6, rfl, hP, hb6⟩
  have r0 := heap_on hb6 q0
  have r1 := heap_on hb6 q1
  have hb6 := below_on hb5 hb6
  clear hb5 q0 q1 d0 HEN HA
  have s0 := heap_old w6 (.cells #[.int .i64 ky, .string vl] 37) r0
  have s1 := heap_old w6 (.cells #[.int .i64 ky, .string vl] 37) r1
  have s2 := heap_push w6 (.cells #[.int .i64 ky, .string vl] 37)
  have hP := hP.on ((Below.refl _ w6).alloc (Nat.le_refl _) (.cells #[.int .i64 ky, .string vl] 37))
  have hb7 := hb6.alloc hb6.size (.cells #[.int .i64 ky, .string vl] 37)
  clear r0 r1
  go_upto_region 12 with fail
  generalize (w6.alloc (.cells #[.int .i64 ky, .string vl] 37)) = w7 at s0 s1 s2 hP hb7 ⊢
  generalize w6.heap.size = B2 at s2 ⊢
  clear hb6
  rw [← hb7.cell (p := ⟨b, off + I * 2, none⟩) hbl] at c0
  rw [← hb7.cell (p := ⟨b, off + I * 2 + 1, none⟩) hbl] at c1
  have cF := Lib.hid (fun d os => Calls.regrown_of (HTX.out (Sort.grow (redrawn w7 d) os) (hE.on (below_on hb7 (below_regrown w7 d os)))))
  have cG := Lib.hid (fun d os => Calls.regrown_of (HES.out a6 c6 (Sort.grow (redrawn w7 d) os) (hE.on (below_on hb7 (below_regrown w7 d os))) (hP.on (below_regrown w7 d os))))
  have k0 := fun d os => cell_regrown (heap_cell s0 0 _ rfl) d os
  have k1 := fun d os => cell_regrown (heap_cell s1 0 _ rfl) d os
  have k2 := fun d os => cell_regrown (heap_cell s1 1 _ rfl) d os
  have k3 := fun d os => cell_regrown (heap_cell s2 0 _ rfl) d os
  have k4 := fun d os => cell_regrown (heap_cell s2 1 _ rfl) d os
  have k5 := fun d os => cell_regrown c0 d os
  have k6 := fun d os => cell_regrown c1 d os
  go_wp2_with fail
  refine wp_region_quiet_below (by kernel_rfl) (by kernel_rfl) ?_
  repeat (first | go_big_quiet_step (first | with_reducible exact cF.out _ _ | with_reducible exact cG.out _ _) | quiet_step (first | with_reducible exact cF.out _ _ | with_reducible exact cG.out _ _))
  refine wpQuiet_nil ?_
  intro _ hw'
  obtain ⟨⟨dq, osq⟩, hw''⟩ := hw'
  subst hw''
  have hbq := below_on hb7 (below_regrown w7 dq osq)
  go_wp2_with fail
  go_ret
  exact ⟨rfl, hbq⟩

theorem showTrue_walk (l : List EntB) (a : Option Addr) (n c : Nat) (i key : Int) (w : World) (hE : Tab w) (hn : l.length = n) (hS : EntsAt w a c l) (hi : -9223372036854775808 ≤ i) (hi' : i ≤ 9223372036854775807) (hk : -9223372036854775808 ≤ key) (hk' : key ≤ 9223372036854775807) :
    Calls Tryd.prog 3 #[.agg #[.slice a n c], .int .i64 i, .int .i64 key] w fun e w' => e = .returned (.bool true) ∧ Below w.heap.size w w' := by
  by_cases h : bookE l = 0
  · exact showTrue_ok l a n c i key w hE hn hS hi hi' hk hk' ((bookE_iff l).1 h)
  · exact showTrue_bad l a n c i key w hE hn hS _ rfl h
end Go.Proofs.YtlcehogcalebdaeDoor
