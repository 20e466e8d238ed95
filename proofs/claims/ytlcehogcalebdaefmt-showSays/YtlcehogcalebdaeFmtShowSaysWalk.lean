/-
  ShowSays' walk: of whatever book and numbers it answers true.
-/
import Derived.Test.YtlcehogcalebdaeFmtShowAny
import Derived.Test.YtlcehogcalebdaeFmtShown
import Derived.Test.YtlcehogcalebdaeFmtStepSlices
import Derived.Lib.QuietBelow
import Derived.Deep.DeepCutAuto
namespace Go.Proofs.YtlcehogcalebdaeFmt
open Go Go.RowKit Go.Maps Go.Kit Go.Extern.Stop Go.Stop Go.Extern

set_option maxHeartbeats 1000000 in
set_option maxRecDepth 100000 in
theorem showSays_bad (l : List EntB) (a : Option Addr) (n c : Nat) (i key : Int) (w : World) (hE : Tab w) (hn : l.length = n) (hS : EntsAt w a c l) (z : Int) (hz : bookE l = z) (h0 : z ≠ 0) :
    Calls Tryf.prog 3 #[.agg #[.slice a n c], .int .i64 i, .int .i64 key] w fun e w' => e = .returned (.bool true) ∧ Below w.heap.size w w' := by
  have H1 := Lib.hid (fun w' hS => showEntry_bad l a n c i w' hn hS z hz h0)
  have H2 := Lib.hid (fun w' hS => showGrowth_bad l a n c i w' hn hS z hz h0)
  have H3 := Lib.hid (fun w' hS => showValue_bad l a n c key w' hn hS z hz h0)
  have h4 := fun w' hS => checkBook_any l a n c w' hn hS
  rw [hz] at h4
  have H4 := Lib.hid h4
  have hz' : (z == 0) = false := by simp only [beq_eq_false_iff_ne, ne_eq]; exact h0
  have hzz : (z == z) = true := by simp
  clear hz h4
  go_enter Tryf.func3, Tryf.ntmps3
  go_wp2_with fail
  have hb0 : Below w.heap.size w (w.alloc (.cells #[.slice a n c] 24)) := (Below.refl _ _).alloc (Nat.le_refl _) _
  have q0 := heap_push w (.cells #[.slice a n c] 24)
  generalize (w.alloc (.cells #[.slice a n c] 24)) = W at hb0 q0 ⊢
  refine (H1.out W (hS.on hb0)).mono ?_
  rintro e w1 ⟨rfl, hb1⟩
  have q1 := heap_on hb1 q0
  have hb1 := below_on hb0 hb1
  clear hb0 H1 q0
  have r0 := heap_old w1 (.cells #[.int .i64 0, .string ⟨#[]⟩] 26) q1
  have r1 := heap_push w1 (.cells #[.int .i64 0, .string ⟨#[]⟩] 26)
  have hb2 := hb1.alloc hb1.size (.cells #[.int .i64 0, .string ⟨#[]⟩] 26)
  have d0 := heap_cell r0 0 _ rfl
  clear q1
  go_wp2_with fail
  generalize (w1.alloc (.cells #[.int .i64 0, .string ⟨#[]⟩] 26)) = w2 at r0 r1 d0 hb2 ⊢
  generalize w1.heap.size = B at r1 ⊢
  clear hb1
  refine (H2.out w2 (hS.on hb2)).mono ?_
  rintro e w3 ⟨rfl, hb3⟩
  have q0 := heap_on hb3 r0
  have q1 := heap_on hb3 r1
  have hb3 := below_on hb2 hb3
  clear hb2 r0 r1 d0 H2
  have d0 := heap_cell q0 0 _ rfl
  go_wp2_with fail
  refine (H3.out w3 (hS.on hb3)).mono ?_
  rintro e w4 ⟨rfl, hb4⟩
  have r0 := heap_on hb4 q0
  have r1 := heap_on hb4 q1
  have hb4 := below_on hb3 hb4
  clear hb3 q0 q1 d0 H3
  have d0 := heap_cell r0 0 _ rfl
  go_wp2_with fail
  refine (H4.out w4 (hS.on hb4)).mono ?_
  rintro e w5 ⟨rfl, hb5⟩
  have q1 := heap_on hb5 r1
  have hb5 := below_on hb4 hb5
  clear hb4 r0 r1 d0 H4
  go_wp2_with fail
  refine (shown_any w5 (hE.on hb5)).mono ?_
  rintro e w6 ⟨rfl, hb6⟩
  have r1 := heap_on hb6 q1
  have hb6 := below_on hb5 hb6
  clear hb5 q1
  go_wp2_with fail
  refine (shown_any w6 (hE.on hb6)).mono ?_
  rintro e w7 ⟨rfl, hb7⟩
  have q1 := heap_on hb7 r1
  have hb7 := below_on hb6 hb7
  clear hb6 r1
  have d0 := heap_cell q1 0 _ rfl
  have d1 := heap_cell q1 1 _ rfl
  go_wp2_with fail
  go_ret
  exact ⟨rfl, hb7⟩

/- The good book. -/
theorem equal_strs_self (l : List ByteArray) (a1 a2 : Option Addr) (n c1 c2 : Nat) (w : World) (hn : l.length = n) (h1 : StrsAt w a1 c1 l) (h2 : StrsAt w a2 c2 l) :
    Calls Tryf.prog 13 #[.slice a1 n c1, .slice a2 n c2] w fun e w' => e = .returned (.bool true) ∧ Below w.heap.size w w' := by
  have h := equal_strs l l a1 a2 n c1 n c2 w hn hn h1 h2
  rw [decide_eq_true rfl] at h
  exact h
theorem equal_steps_self (l : List StepB) (a1 a2 : Option Addr) (n c1 c2 : Nat) (w : World) (hn : l.length = n) (h1 : StepsAt w a1 c1 l) (h2 : StepsAt w a2 c2 l) :
    Calls Tryf.prog 12 #[.slice a1 n c1, .slice a2 n c2] w fun e w' => e = .returned (.bool true) ∧ Below w.heap.size w w' := by
  have h := equal_steps l l a1 a2 n c1 n c2 w hn hn h1 h2
  rw [decide_eq_true rfl] at h
  exact h

set_option maxHeartbeats 4000000 in
set_option maxRecDepth 100000 in
theorem showSays_ok (I : Interp) (l : List EntB) (a : Option Addr) (n c : Nat) (i key : Int) (w : World) (hE : Tab w) (hF : I.told.answers w.tape) (hn : l.length = n) (hS : EntsAt w a c l) (hk : -9223372036854775808 ≤ key) (hk' : key ≤ 9223372036854775807) (hG : GoodBook l) :
    Calls Tryf.prog 3 #[.agg #[.slice a n c], .int .i64 i, .int .i64 key] w fun e w' => e = .returned (.bool true) ∧ Below w.heap.size w w' := by
  have hcap := hS.cap
  have hmax := hS.max
  have h24 := hG.1
  have h1 := fun w' hE hS => showEntry_good l a n c i w' hE hn hS hG
  have h2 := fun w' hE hS => showGrowth_good l a n c i w' hE hn hS hG
  have h3 := fun w' hE hS => showValue_good l a n c key w' hE hn hS hG
  have h4 := fun w' hS => checkBook_any l a n c w' hn hS
  rw [(bookE_iff l).2 hG] at h4
  have h5 := fun w' hF hS => textsOf_any I l a n c w' hn hF hS (fun e he => by have := (hG.2 e he).2.2; omega) (by omega)
  have h6 := fun a c w' hF hS => pathOf_good I l a n c i w' hF hn hS hG
  have h7 := fun a c w' hF hS => growthOf_good I l a n c i w' hF hn hS hG
  have H8 := Lib.hid (fun w' hS => valuesOf_any l a n c w' hn hS (by omega))
  generalize hX : entX l i = x at h1
  generalize hP : entP l i = P at h1 h6
  generalize hEr : entE l i = E at h1 h6
  generalize groL l i = Gr at h2 h7
  generalize groE l i = Ge at h2 h7
  generalize hU : valU l key = U at h3
  generalize hT : valB l key = T at h3
  generalize hL : valL l key = L at h3
  generalize hV : valE key = V at h3
  obtain ⟨xk, xv⟩ := x
  simp only at h1
  have H1 := Lib.hid h1
  have H2 := Lib.hid h2
  have H3 := Lib.hid h3
  have H4 := Lib.hid h4
  have H5 := Lib.hid h5
  have H6 := Lib.hid h6
  have H7 := Lib.hid h7
  have KX := Lib.hid hX
  have KE := Lib.hid hEr
  have KU := Lib.hid hU
  have KT := Lib.hid hT
  have KL := Lib.hid hL
  have KV := Lib.hid hV
  clear h1 h2 h3 h4 h5 h6 h7 hX hEr hU hT hL hV hP
  go_enter Tryf.func3, Tryf.ntmps3
  go_wp2_with fail
  have hb0 : Below w.heap.size w (w.alloc (.cells #[.slice a n c] 24)) := (Below.refl _ _).alloc (Nat.le_refl _) _
  have q0 := heap_push w (.cells #[.slice a n c] 24)
  generalize (w.alloc (.cells #[.slice a n c] 24)) = W at hb0 q0 ⊢
  refine (H1.out W (hE.on hb0) (hS.on hb0)).mono ?_
  rintro e w1 ⟨a1, c1, rfl, hP1, hb1⟩
  have q1 := heap_on hb1 q0
  have hb1 := below_on hb0 hb1
  clear hb0 H1 q0
  have r0 := heap_old w1 (.cells #[.int .i64 xk, .string xv] 26) q1
  have r1 := heap_push w1 (.cells #[.int .i64 xk, .string xv] 26)
  have hP1 := hP1.on ((Below.refl _ w1).alloc (Nat.le_refl _) (.cells #[.int .i64 xk, .string xv] 26))
  have hb2 := hb1.alloc hb1.size (.cells #[.int .i64 xk, .string xv] 26)
  have d0 := heap_cell r0 0 _ rfl
  clear q1
  go_wp2_with fail
  generalize (w1.alloc (.cells #[.int .i64 xk, .string xv] 26)) = w2 at r0 r1 d0 hb2 hP1 ⊢
  generalize w1.heap.size = B at r1 ⊢
  clear hb1
  refine (H2.out w2 (hE.on hb2) (hS.on hb2)).mono ?_
  rintro e w3 ⟨a3, c3, rfl, hG3, hb3⟩
  have q0 := heap_on hb3 r0
  have q1 := heap_on hb3 r1
  have hP1 := hP1.on hb3
  have hb3 := below_on hb2 hb3
  clear hb2 r0 r1 d0 H2
  have d0 := heap_cell q0 0 _ rfl
  go_wp2_with fail
  refine (H3.out w3 (hE.on hb3) (hS.on hb3)).mono ?_
  rintro e w4 ⟨a4, c4, rfl, hL4, hb4⟩
  have r0 := heap_on hb4 q0
  have r1 := heap_on hb4 q1
  have hP1 := hP1.on hb4
  have hG3 := hG3.on hb4
  have hb4 := below_on hb3 hb4
  clear hb3 q0 q1 d0 H3
  have d0 := heap_cell r0 0 _ rfl
  go_wp2_with fail
  refine (H4.out w4 (hS.on hb4)).mono ?_
  rintro e w5 ⟨rfl, hb5⟩
  have q0 := heap_on hb5 r0
  have q1 := heap_on hb5 r1
  have hP1 := hP1.on hb5
  have hG3 := hG3.on hb5
  have hL4 := hL4.on hb5
  have hb5 := below_on hb4 hb5
  clear hb4 r0 r1 d0 H4
  go_wp2_with fail
  refine (shown_any w5 (hE.on hb5)).mono ?_
  rintro e w6 ⟨rfl, hb6⟩
  have r0 := heap_on hb6 q0
  have r1 := heap_on hb6 q1
  have hP1 := hP1.on hb6
  have hG3 := hG3.on hb6
  have hL4 := hL4.on hb6
  have hb6 := below_on hb5 hb6
  clear hb5 q0 q1
  have d0 := heap_cell r0 0 _ rfl
  go_wp2_with fail
  have hF6 : I.told.answers w6.tape := by rw [hb6.tape]; exact hF
  refine (H5.out w6 hF6 (hS.on hb6)).mono ?_
  rintro e w7 ⟨a7, c7, rfl, hT7, hb7⟩
  have q0 := heap_on hb7 r0
  have q1 := heap_on hb7 r1
  have hP1 := hP1.on hb7
  have hG3 := hG3.on hb7
  have hL4 := hL4.on hb7
  have hb7 := below_on hb6 hb7
  clear hb6 r0 r1 d0 hF6
  go_wp2_with fail
  have hF7 : I.told.answers w7.tape := by rw [hb7.tape]; exact hF
  refine (H6.out a7 c7 w7 hF7 hT7).mono ?_
  rintro e w8 ⟨a8, c8, rfl, hP8, hb8⟩
  have r0 := heap_on hb8 q0
  have r1 := heap_on hb8 q1
  have hP1 := hP1.on hb8
  have hG3 := hG3.on hb8
  have hL4 := hL4.on hb8
  have hb8 := below_on hb7 hb8
  clear hb7 q0 q1 hF7 hT7 H6
  have d0 := heap_cell r0 0 _ rfl
  go_wp2_with fail
  have hF8 : I.told.answers w8.tape := by rw [hb8.tape]; exact hF
  refine (H5.out w8 hF8 (hS.on hb8)).mono ?_
  rintro e w9 ⟨a9, c9, rfl, hT9, hb9⟩
  have q0 := heap_on hb9 r0
  have q1 := heap_on hb9 r1
  have hP1 := hP1.on hb9
  have hP8 := hP8.on hb9
  have hG3 := hG3.on hb9
  have hL4 := hL4.on hb9
  have hb9 := below_on hb8 hb9
  clear hb8 r0 r1 d0 hF8 H5
  go_wp2_with fail
  have hF9 : I.told.answers w9.tape := by rw [hb9.tape]; exact hF
  refine (H7.out a9 c9 w9 hF9 hT9).mono ?_
  rintro e w10 ⟨a10, c10, rfl, hG10, hb10⟩
  have s0 := heap_on hb10 q0
  have s1 := heap_on hb10 q1
  have hP1 := hP1.on hb10
  have hP8 := hP8.on hb10
  have hG3 := hG3.on hb10
  have hL4 := hL4.on hb10
  have hb10 := below_on hb9 hb10
  clear hb9 q0 q1 hF9 hT9 H7
  have cF := Lib.hid (fun d os => Calls.regrown_of (equal_steps_self P a1 a8 _ c1 c8 (Sort.grow (redrawn w10 d) os) rfl (hP1.on (below_regrown w10 d os)) (hP8.on (below_regrown w10 d os))))
  have cG := Lib.hid (fun d os => Calls.regrown_of (equal_strs_self Gr a3 a10 _ c3 c10 (Sort.grow (redrawn w10 d) os) rfl (hG3.on (below_regrown w10 d os)) (hG10.on (below_regrown w10 d os))))
  have k0 := fun d os => cell_regrown (heap_cell s0 0 _ rfl) d os
  have k1 := fun d os => cell_regrown (heap_cell s1 0 _ rfl) d os
  have k2 := fun d os => cell_regrown (heap_cell s1 1 _ rfl) d os
  go_upto_region 9 with fail
  by_cases hi : 0 ≤ i ∧ i < (l.length : Int)
  · obtain ⟨j, rfl⟩ : ∃ j : Nat, i = (j : Int) := ⟨i.toNat, by omega⟩
    obtain rfl : E = 0 := by rw [← KE.out]; exact if_pos hi
    have eX : entAt l j = (xk, xv) := by rw [← KX.out]; unfold entX; rw [if_pos hi, Int.toNat_natCast]
    have hjc : (j : Int) < (n : Int) := by omega
    obtain ⟨b, off, rfl, hbl, hc⟩ := hS.cells (by omega)
    obtain ⟨e0, e1⟩ := hc j (by omega)
    rw [eX] at e0 e1
    simp only at e0 e1
    rw [← hb10.cell (p := ⟨b, off + j * 2, none⟩) hbl] at e0
    rw [← hb10.cell (p := ⟨b, off + j * 2 + 1, none⟩) hbl] at e1
    have k3 := fun d os => cell_regrown e0 d os
    have k4 := fun d os => cell_regrown e1 d os
    clear hc eX hi
    refine wp_region_quiet_below (by kernel_rfl) (by kernel_rfl) ?_
    repeat (first | go_big_quiet_step (first | with_reducible exact cF.out _ _ | with_reducible exact cG.out _ _) | quiet_step (first | with_reducible exact cF.out _ _ | with_reducible exact cG.out _ _))
    refine wpQuiet_nil ?_
    intro _ hw'
    obtain ⟨⟨dq, osq⟩, hw''⟩ := hw'
    subst hw''
    have hbq := below_regrown w10 dq osq
    have u0 := heap_on hbq s0
    have hL4 := hL4.on hbq
    have hbq := below_on hb10 hbq
    generalize Sort.grow (redrawn w10 dq) osq = w11 at u0 hL4 hbq ⊢
    clear s0 s1 hP1 hP8 hG3 hG10 hb10 cF cG k0 k1 k2
    by_cases hkey : 0 ≤ key ∧ key < 16
    · obtain ⟨k, rfl⟩ : ∃ k : Nat, key = (k : Int) := ⟨key.toNat, by omega⟩
      have hk16 : k < 16 := by omega
      have hk15 : ¬ (15 : Int) < (k : Int) := by omega
      obtain rfl : V = 0 := by rw [← KV.out]; exact if_pos hkey
      have eU : valS (backD l) (k : Int) = U := by rw [← KU.out]; unfold valU; rw [if_pos hkey]; unfold valS; rw [back_vals]
      have eT : (valD (backD l) (k : Int)).isSome = T := by rw [← KT.out]; unfold valB; rw [if_pos hkey, back_vals]
      have eL : pathT (valN (backD l)) 0 k 4 = L := by rw [← KL.out]; unfold valL; rw [if_pos hkey, back_valN, Int.toNat_natCast]
      have nL : L.length = 4 := by rw [← eL, pathT_len]
      have h9 := fun p w' hF hM => mapPath_ok I p (backD l) k w' hF hM (back_good hG) hk16
      rw [eL] at h9
      have H9 := Lib.hid h9
      have EU := Lib.hid eU
      have ET := Lib.hid eT
      have NL := Lib.hid nL
      have hUU : (U.toList == U.toList) = true := by simp
      have hTT : (T == T) = true := by simp
      have d0 := heap_cell u0 0 _ rfl
      clear h9 eU eT eL nL KV KU KT KL KX KE
      go_wp2_with fail
      refine (H8.out w11 (hS.on hbq)).mono ?_
      rintro e w12 ⟨p, rfl, hM, hb12⟩
      have hL4 := hL4.on hb12
      have hb12 := below_on hbq hb12
      clear d0 u0 hbq H8
      have hF12 : I.told.answers w12.tape := by rw [hb12.tape]; exact hF
      go_wp2_with (at_lookup; refine wpList_look _ rfl _ _ rfl (some p) (backD l) rfl hM (k : Int) rfl (by omega) (by omega) ?_; rw [EU.out, ET.out])
      refine (H9.out (some p) w12 hF12 hM).mono ?_
      rintro e w13 ⟨a13, c13, rfl, hL13, hb13⟩
      have hL4 := hL4.on hb13
      have hb13 := below_on hb12 hb13
      clear hb12 H9 hM hF12
      have hQ := equal_strs L L a4 a13 L.length c4 4 c13 w13 rfl NL.out hL4 hL13
      rw [decide_eq_true rfl] at hQ
      go_wp2_with fail
      refine hQ.mono ?_
      rintro e w14 ⟨rfl, hb14⟩
      have hb14 := below_on hb13 hb14
      go_wp2_with fail
      go_ret
      exact ⟨rfl, hb14⟩
    · obtain rfl : V = 5 := by rw [← KV.out]; exact if_neg hkey
      obtain rfl : U = ⟨#[]⟩ := by rw [← KU.out]; exact if_neg hkey
      obtain rfl : T = false := by rw [← KT.out]; exact if_neg hkey
      obtain rfl : L = [] := by rw [← KL.out]; exact if_neg hkey
      clear KV KU KT KL KX KE
      by_cases hneg : key < 0
      · clear hkey
        go_wp2_with fail
        go_ret
        exact ⟨rfl, hbq⟩
      · have hbig : (15 : Int) < key := by omega
        clear hkey
        go_wp2_with fail
        go_ret
        exact ⟨rfl, hbq⟩
  · obtain rfl : E = 5 := by rw [← KE.out]; exact if_neg hi
    have eX : ((xk, xv) : EntB) = (0, ⟨#[]⟩) := by rw [← KX.out]; exact if_neg hi
    injection eX with e0 e1
    subst e0 e1
    clear hi
    refine wp_region_quiet_below (by kernel_rfl) (by kernel_rfl) ?_
    repeat (first | go_big_quiet_step (first | with_reducible exact cF.out _ _ | with_reducible exact cG.out _ _) | quiet_step (first | with_reducible exact cF.out _ _ | with_reducible exact cG.out _ _))
    refine wpQuiet_nil ?_
    intro _ hw'
    obtain ⟨⟨dq, osq⟩, hw''⟩ := hw'
    subst hw''
    have hbq := below_regrown w10 dq osq
    have u0 := heap_on hbq s0
    have hL4 := hL4.on hbq
    have hbq := below_on hb10 hbq
    generalize Sort.grow (redrawn w10 dq) osq = w11 at u0 hL4 hbq ⊢
    clear s0 s1 hP1 hP8 hG3 hG10 hb10 cF cG k0 k1 k2
    by_cases hkey : 0 ≤ key ∧ key < 16
    · obtain ⟨k, rfl⟩ : ∃ k : Nat, key = (k : Int) := ⟨key.toNat, by omega⟩
      have hk16 : k < 16 := by omega
      have hk15 : ¬ (15 : Int) < (k : Int) := by omega
      obtain rfl : V = 0 := by rw [← KV.out]; exact if_pos hkey
      have eU : valS (backD l) (k : Int) = U := by rw [← KU.out]; unfold valU; rw [if_pos hkey]; unfold valS; rw [back_vals]
      have eT : (valD (backD l) (k : Int)).isSome = T := by rw [← KT.out]; unfold valB; rw [if_pos hkey, back_vals]
      have eL : pathT (valN (backD l)) 0 k 4 = L := by rw [← KL.out]; unfold valL; rw [if_pos hkey, back_valN, Int.toNat_natCast]
      have nL : L.length = 4 := by rw [← eL, pathT_len]
      have h9 := fun p w' hF hM => mapPath_ok I p (backD l) k w' hF hM (back_good hG) hk16
      rw [eL] at h9
      have H9 := Lib.hid h9
      have EU := Lib.hid eU
      have ET := Lib.hid eT
      have NL := Lib.hid nL
      have hUU : (U.toList == U.toList) = true := by simp
      have hTT : (T == T) = true := by simp
      have d0 := heap_cell u0 0 _ rfl
      clear h9 eU eT eL nL KV KU KT KL KX KE
      go_wp2_with fail
      refine (H8.out w11 (hS.on hbq)).mono ?_
      rintro e w12 ⟨p, rfl, hM, hb12⟩
      have hL4 := hL4.on hb12
      have hb12 := below_on hbq hb12
      clear d0 u0 hbq H8
      have hF12 : I.told.answers w12.tape := by rw [hb12.tape]; exact hF
      go_wp2_with (at_lookup; refine wpList_look _ rfl _ _ rfl (some p) (backD l) rfl hM (k : Int) rfl (by omega) (by omega) ?_; rw [EU.out, ET.out])
      refine (H9.out (some p) w12 hF12 hM).mono ?_
      rintro e w13 ⟨a13, c13, rfl, hL13, hb13⟩
      have hL4 := hL4.on hb13
      have hb13 := below_on hb12 hb13
      clear hb12 H9 hM hF12
      have hQ := equal_strs L L a4 a13 L.length c4 4 c13 w13 rfl NL.out hL4 hL13
      rw [decide_eq_true rfl] at hQ
      go_wp2_with fail
      refine hQ.mono ?_
      rintro e w14 ⟨rfl, hb14⟩
      have hb14 := below_on hb13 hb14
      go_wp2_with fail
      go_ret
      exact ⟨rfl, hb14⟩
    · obtain rfl : V = 5 := by rw [← KV.out]; exact if_neg hkey
      obtain rfl : U = ⟨#[]⟩ := by rw [← KU.out]; exact if_neg hkey
      obtain rfl : T = false := by rw [← KT.out]; exact if_neg hkey
      obtain rfl : L = [] := by rw [← KL.out]; exact if_neg hkey
      clear KV KU KT KL KX KE
      by_cases hneg : key < 0
      · clear hkey
        go_wp2_with fail
        go_ret
        exact ⟨rfl, hbq⟩
      · have hbig : (15 : Int) < key := by omega
        clear hkey
        go_wp2_with fail
        go_ret
        exact ⟨rfl, hbq⟩

theorem showSays_walk (I : Interp) (l : List EntB) (a : Option Addr) (n c : Nat) (i key : Int) (w : World) (hE : Tab w) (hF : I.told.answers w.tape) (hn : l.length = n) (hS : EntsAt w a c l) (_hi : -9223372036854775808 ≤ i) (_hi' : i ≤ 9223372036854775807) (hk : -9223372036854775808 ≤ key) (hk' : key ≤ 9223372036854775807) :
    Calls Tryf.prog 3 #[.agg #[.slice a n c], .int .i64 i, .int .i64 key] w fun e w' => e = .returned (.bool true) ∧ Below w.heap.size w w' := by
  by_cases h : bookE l = 0
  · exact showSays_ok I l a n c i key w hE hF hn hS hk hk' ((bookE_iff l).1 h)
  · exact showSays_bad l a n c i key w hE hn hS _ rfl h
end Go.Proofs.YtlcehogcalebdaeFmt
