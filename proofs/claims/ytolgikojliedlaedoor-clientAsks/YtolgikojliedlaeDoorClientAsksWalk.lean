/-
  ClientAsks' walk: of whatever book, entry and numbers it answers true.
-/
import Derived.Test.YtolgikojliedlaeDoorFollowed
import Derived.Test.YtolgikojliedlaeDoorHeadAny
import Derived.Test.YtolgikojliedlaeDoorAt
namespace Go.Proofs.YtolgikojliedlaeDoor
open Go Go.RowKit Go.Maps

theorem own_some (l : List EntB) (e : EntB) : (valD (valsD (l ++ [e])) e.1).isSome = true := by
  rw [valsD_snoc, putE_val (valsD_tidy l), if_pos rfl]
  rfl

set_option maxHeartbeats 1000000 in
set_option maxRecDepth 100000 in
theorem clientAsks_bad (l : List EntB) (a : Option Addr) (n c : Nat) (kx : Int) (vx : ByteArray) (i key : Int) (w : World) (hE : Tab w) (hn : l.length = n) (hS : EntsAt w a c l) (z : Int) (hz : bookE l = z) (h0 : z ≠ 0) :
    Calls Tryd.prog 6 #[.agg #[.slice a n c], .agg #[.int .i64 kx, .string vx], .int .i64 i, .int .i64 key] w fun e w' => e = .returned (.bool true) ∧ Below w.heap.size w w' := by
  have HH := Lib.hid (fun w' hS => head_no l a n c w' hn hS z hz h0)
  have hz' : (z == 0) = false := by simp only [beq_eq_false_iff_ne, ne_eq]; exact h0
  clear hz
  obtain ⟨q4, q5, hb0⟩ := boxes2 w (.cells #[.slice a n c] 24) (.cells #[.int .i64 kx, .string vx] 37)
  go_enter Tryd.func6, Tryd.ntmps6
  go_wp2_with fail
  generalize ((w.alloc (.cells #[.slice a n c] 24)).alloc (.cells #[.int .i64 kx, .string vx] 37)) = w0 at q4 q5 hb0 ⊢
  refine (HH.out w0 (hS.on hb0)).mono ?_
  rintro e w1 ⟨rfl, hb1⟩
  have hb1 := below_on hb0 hb1
  clear hb0
  have q9 := heap_push w1 (.cells #[.int .i64 0, .string ⟨#[]⟩, .string ⟨#[]⟩] 26)
  have hb2 := hb1.alloc hb1.size (.cells #[.int .i64 0, .string ⟨#[]⟩, .string ⟨#[]⟩] 26)
  clear hb1
  go_wp2_with fail
  generalize (w1.alloc (.cells #[.int .i64 0, .string ⟨#[]⟩, .string ⟨#[]⟩] 26)) = w2 at q9 hb2 ⊢
  generalize w1.heap.size = B9 at q9 ⊢
  refine (followed_any w2 (hE.on hb2)).mono ?_
  rintro e w3 ⟨rfl, hb3⟩
  have q9 := heap_on hb3 q9
  have hb3 := below_on hb2 hb3
  clear hb2
  go_wp2_with fail
  refine (followed_any w3 (hE.on hb3)).mono ?_
  rintro e w4 ⟨rfl, hb4⟩
  have q9 := heap_on hb4 q9
  have hb4 := below_on hb3 hb4
  clear hb3
  go_wp2_with fail
  go_ret
  exact ⟨rfl, hb4⟩

set_option maxHeartbeats 4000000 in
set_option maxRecDepth 100000 in
theorem clientAsks_ok (l : List EntB) (a : Option Addr) (n c : Nat) (kx : Int) (vx : ByteArray) (i key : Int) (w : World) (hE : Tab w) (hn : l.length = n) (hS : EntsAt w a c l) (hx : WideEnt (kx, vx)) (hi : -9223372036854775808 ≤ i) (hi' : i ≤ 9223372036854775807) (hk : -9223372036854775808 ≤ key) (hk' : key ≤ 9223372036854775807) (hG : GoodBook l) :
    Calls Tryd.prog 6 #[.agg #[.slice a n c], .agg #[.int .i64 kx, .string vx], .int .i64 i, .int .i64 key] w fun e w' => e = .returned (.bool true) ∧ Below w.heap.size w w' := by
  have hcap := hS.cap
  have hmax := hS.max
  have h24 := hG.1
  have h0 := (bookE_iff l).2 hG
  have HH := Lib.hid (fun w' hE hS => head_ok l a n c w' hE hn hS hG)
  have hK := atN_lt key (show 0 < 16 by omega)
  have HA := Lib.hid (fun w' => at_any key 16 w' (by omega) (by omega) hk hk')
  generalize atN key 16 = K at hK HA
  have hva := fun w' hE hS => showValue_ok l a n c K w' hE hn hS hG hK
  have hvs := fun a c w' hE hL => finds_any (l.length : Int) (headLog l) (headMap l) false (K : Int) (valS (valsD l) (K : Int)) (valD (valsD l) (K : Int)).isSome (pathT (valN (valsD l)) 0 K 4) a 4 c w' hE hL (pathT_len _ 4 0 K)
  rw [asks_value hG hK, hn] at hvs
  generalize valS (valsD l) (K : Int) = v at hva hvs
  generalize (valD (valsD l) (K : Int)).isSome = t at hva hvs
  generalize pathT (valN (valsD l)) 0 K 4 = L at hva hvs
  have HV := Lib.hid hva
  have HF := Lib.hid hvs
  clear hva hvs hk hk'
  /- what is put -/
  have HN := Lib.hid (fun (z : Int) w' hS hz h0' => put_no l a n c kx vx w' hn hS hx h0 z hz h0')
  have HP := Lib.hid (fun w' hS hz => put_ok l a n c kx vx w' hn hS hx h0 hz)
  have HVm := Lib.hid (fun k g w' hE hS hG' hk => showValue_ok (l ++ [(kx, vx)]) (some ⟨g, 0, none⟩) (n + 1) (n + 1) k w' hE (by rw [List.length_append, hn]; rfl) hS hG' hk)
  have HVo := Lib.hid (fun k w' hE hS hk => showValue_ok l a n c k w' hE hn hS hG hk)
  have HFm := Lib.hid (fun k a c w' hE hL => finds_any (l.length : Int) (headLog l) (headMap l) false (k : Nat) vx true (pathT (valN (valsD (l ++ [(kx, vx)]))) 0 k 4) a 4 c w' hE hL (pathT_len _ 4 0 k))
  have HAE := Lib.hid (fun I (h : I < l.length) => asks_entry hG h)
  have HAP := Lib.hid (fun k (hk : kx = ((k : Nat) : Int)) h16 => asks_put hG (kx, vx) hk h16)
  obtain ⟨q4, q5, hb0⟩ := boxes2 w (.cells #[.slice a n c] 24) (.cells #[.int .i64 kx, .string vx] 37)
  go_enter Tryd.func6, Tryd.ntmps6
  go_wp2_with fail
  generalize ((w.alloc (.cells #[.slice a n c] 24)).alloc (.cells #[.int .i64 kx, .string vx] 37)) = w0 at q4 q5 hb0 ⊢
  refine (HH.out w0 (hE.on hb0) (hS.on hb0)).mono ?_
  rintro e w1 ⟨rfl, hb1⟩
  have q4 := heap_on hb1 q4
  have q5 := heap_on hb1 q5
  have hb1 := below_on hb0 hb1
  clear hb0
  generalize hLg : headLog l = Lg
  generalize hMp : headMap l = Mp
  rw [hLg, hMp] at HF HFm HAP HAE
  clear hLg hMp HH
  have q4 := heap_old w1 (.cells #[.int .i64 (n : Int), .string Lg, .string Mp] 26) q4
  have q5 := heap_old w1 (.cells #[.int .i64 (n : Int), .string Lg, .string Mp] 26) q5
  have q9 := heap_push w1 (.cells #[.int .i64 (n : Int), .string Lg, .string Mp] 26)
  have hb2 := hb1.alloc hb1.size (.cells #[.int .i64 (n : Int), .string Lg, .string Mp] 26)
  clear hb1
  go_wp2_with fail
  generalize (w1.alloc (.cells #[.int .i64 (n : Int), .string Lg, .string Mp] 26)) = w2 at q4 q5 q9 hb2 ⊢
  generalize w1.heap.size = B9 at q9 ⊢
  refine (followed_any w2 (hE.on hb2)).mono ?_
  rintro e w3 ⟨rfl, hb3⟩
  have q4 := heap_on hb3 q4
  have q5 := heap_on hb3 q5
  have q9 := heap_on hb3 q9
  have hb3 := below_on hb2 hb3
  clear hb2
  have dq9_0 := heap_cell q9 0 _ rfl
  have dq9_1 := heap_cell q9 1 _ rfl
  have dq9_2 := heap_cell q9 2 _ rfl
  have q4 := heap_old w3 (.cells #[.int .i64 (n : Int), .string Lg, .string Mp, .bool false] 45) q4
  have q5 := heap_old w3 (.cells #[.int .i64 (n : Int), .string Lg, .string Mp, .bool false] 45) q5
  have q9 := heap_old w3 (.cells #[.int .i64 (n : Int), .string Lg, .string Mp, .bool false] 45) q9
  have q11 := heap_push w3 (.cells #[.int .i64 (n : Int), .string Lg, .string Mp, .bool false] 45)
  have hb4 := hb3.alloc hb3.size (.cells #[.int .i64 (n : Int), .string Lg, .string Mp, .bool false] 45)
  clear hb3
  go_wp2_with fail
  generalize (w3.alloc (.cells #[.int .i64 (n : Int), .string Lg, .string Mp, .bool false] 45)) = w4 at q4 q5 q9 q11 hb4 ⊢
  generalize w3.heap.size = B11 at q11 ⊢
  refine (HA.out w4).mono ?_
  rintro e _ ⟨rfl, rfl⟩
  have dq4_0 := heap_cell q4 0 _ rfl
  go_wp2_with fail
  refine (HV.out w4 (hE.on hb4) (hS.on hb4)).mono ?_
  rintro e w5 ⟨a4, c4, rfl, hL, hb5⟩
  have q4 := heap_on hb5 q4
  have q5 := heap_on hb5 q5
  have q9 := heap_on hb5 q9
  have q11 := heap_on hb5 q11
  have hb5 := below_on hb4 hb5
  clear hb4
  clear dq4_0
  have dq11_0 := heap_cell q11 0 _ rfl
  have dq11_1 := heap_cell q11 1 _ rfl
  have dq11_2 := heap_cell q11 2 _ rfl
  have dq11_3 := heap_cell q11 3 _ rfl
  go_wp2_with fail
  refine (HF.out a4 c4 w5 (hE.on hb5) hL).mono ?_
  rintro e w6 ⟨rfl, hb6⟩
  have q4 := heap_on hb6 q4
  have q5 := heap_on hb6 q5
  have q9 := heap_on hb6 q9
  have q11 := heap_on hb6 q11
  have hb6 := below_on hb5 hb6
  clear hb5
  clear dq11_0 dq11_1 dq11_2 dq11_3 hL HF HV
  have dq4_0 := heap_cell q4 0 _ rfl
  by_cases hpos : (0 : Int) < (n : Int)
  · have hI := atN_lt i (show 0 < n by omega)
    have HB := Lib.hid (fun w' => at_any i n w' (by omega) (by omega) hi hi')
    generalize atN i n = I at hI HB
    have hen := fun w' hE hS => showEntry_ok l a n c I w' hE hn hS hG hI
    obtain ⟨g1, g2, g3⟩ := hG.2 _ (entAt_mem (l := l) (i := I) (by omega))
    have hes := fun a c w' hE hP => sees_any (l.length : Int) Lg Mp false (I : Int) (entAt l I).1 (entAt l I).2 (pathS (textsE l) I) a (pathS (textsE l) I).length c w' rfl hE hP (by omega) (by omega) (by omega)
    have hse := HAE.out I (by omega)
    rw [show ((entAt l I).1, (entAt l I).2) = entAt l I from rfl, hse, hn] at hes
    generalize pathS (textsE l) I = P at hen hes
    generalize entAt l I = x at hen hes
    obtain ⟨ky, vl⟩ := x
    simp only at hen hes
    have HEN := Lib.hid hen
    have HES := Lib.hid hes
    clear hen hes g1 g2 g3 hse
    go_wp2_with fail
    refine (HB.out w6).mono ?_
    rintro e _ ⟨rfl, rfl⟩
    go_wp2_with fail
    refine (HEN.out w6 (hE.on hb6) (hS.on hb6)).mono ?_
    rintro e w7 ⟨a7, c7, rfl, hP, hb7⟩
    have q4 := heap_on hb7 q4
    have q5 := heap_on hb7 q5
    have q9 := heap_on hb7 q9
    have q11 := heap_on hb7 q11
    have hb7 := below_on hb6 hb7
    clear hb6
    clear dq4_0
    have q4 := heap_old w7 (.cells #[.int .i64 ky, .string vl] 37) q4
    have q5 := heap_old w7 (.cells #[.int .i64 ky, .string vl] 37) q5
    have q9 := heap_old w7 (.cells #[.int .i64 ky, .string vl] 37) q9
    have q11 := heap_old w7 (.cells #[.int .i64 ky, .string vl] 37) q11
    have q15 := heap_push w7 (.cells #[.int .i64 ky, .string vl] 37)
    have hP := hP.on ((Below.refl _ w7).alloc (Nat.le_refl _) (.cells #[.int .i64 ky, .string vl] 37))
    have hb8 := hb7.alloc hb7.size (.cells #[.int .i64 ky, .string vl] 37)
    clear hb7
    have dq11_0 := heap_cell q11 0 _ rfl
    have dq11_1 := heap_cell q11 1 _ rfl
    have dq11_2 := heap_cell q11 2 _ rfl
    have dq11_3 := heap_cell q11 3 _ rfl
    have dq15_0 := heap_cell q15 0 _ rfl
    have dq15_1 := heap_cell q15 1 _ rfl
    go_wp2_with fail
    generalize (w7.alloc (.cells #[.int .i64 ky, .string vl] 37)) = w8 at q4 q5 q9 q11 q15 dq11_0 dq11_1 dq11_2 dq11_3 dq15_0 dq15_1 hP hb8 ⊢
    generalize w7.heap.size = B15 at q15 dq15_0 dq15_1 ⊢
    refine (HES.out a7 c7 w8 (hE.on hb8) hP).mono ?_
    rintro e w9 ⟨rfl, hb9⟩
    have q4 := heap_on hb9 q4
    have q5 := heap_on hb9 q5
    have q9 := heap_on hb9 q9
    have q11 := heap_on hb9 q11
    have q15 := heap_on hb9 q15
    have hb9 := below_on hb8 hb9
    clear hb8
    clear dq11_0 dq11_1 dq11_2 dq11_3 dq15_0 dq15_1 hP
    have dq4_0 := heap_cell q4 0 _ rfl
    have dq5_0 := heap_cell q5 0 _ rfl
    have dq5_1 := heap_cell q5 1 _ rfl
    go_wp2_with fail
    by_cases hz : bookE (l ++ [(kx, vx)]) = 0
    · have hG' := (bookE_iff _).1 hz
      obtain ⟨g1, g2, g3⟩ := hG'.2 (kx, vx) (by simp)
      simp only at g1 g2 g3
      obtain ⟨k, rfl⟩ : ∃ k : Nat, kx = (k : Int) := ⟨kx.toNat, by omega⟩
      have hk16 : k < 16 := by omega
      have hvm := fun g w' hE hS => HVm.out k g w' hE hS hG' hk16
      rw [show valS (valsD (l ++ [((k : Int), vx)])) (k : Int) = vx from own_val l ((k : Int), vx), show (valD (valsD (l ++ [((k : Int), vx)])) (k : Int)).isSome = true from own_some l ((k : Int), vx)] at hvm
      have hfm := HFm.out k
      have hap := HAP.out k rfl hk16
      rw [hn] at hfm hap
      generalize pathT (valN (valsD (l ++ [((k : Int), vx)]))) 0 k 4 = Pm at hvm hfm hap
      generalize findsE (n : Int) Lg Mp (k : Int) vx true Pm = z at hfm hap
      have HVM := Lib.hid hvm
      have HFM := Lib.hid hfm
      have HZ := Lib.hid hap
      clear hvm hfm hap HVm HFm HAP HN g1 g2 g3
      refine (HP.out w9 (hS.on hb9) hz).mono ?_
      rintro e w10 ⟨g, rfl, hM, hb10⟩
      have q4 := heap_on hb10 q4
      have q5 := heap_on hb10 q5
      have q9 := heap_on hb10 q9
      have q11 := heap_on hb10 q11
      have q15 := heap_on hb10 q15
      have hb10 := below_on hb9 hb10
      clear hb9
      have q4 := heap_old w10 (.cells #[.slice (some ⟨g, 0, none⟩) (n + 1) (n + 1)] 24) q4
      have q5 := heap_old w10 (.cells #[.slice (some ⟨g, 0, none⟩) (n + 1) (n + 1)] 24) q5
      have q9 := heap_old w10 (.cells #[.slice (some ⟨g, 0, none⟩) (n + 1) (n + 1)] 24) q9
      have q11 := heap_old w10 (.cells #[.slice (some ⟨g, 0, none⟩) (n + 1) (n + 1)] 24) q11
      have q15 := heap_old w10 (.cells #[.slice (some ⟨g, 0, none⟩) (n + 1) (n + 1)] 24) q15
      have q18 := heap_push w10 (.cells #[.slice (some ⟨g, 0, none⟩) (n + 1) (n + 1)] 24)
      have hM := hM.on ((Below.refl _ w10).alloc (Nat.le_refl _) (.cells #[.slice (some ⟨g, 0, none⟩) (n + 1) (n + 1)] 24))
      have hb11 := hb10.alloc hb10.size (.cells #[.slice (some ⟨g, 0, none⟩) (n + 1) (n + 1)] 24)
      clear hb10
      have dq18_0 := heap_cell q18 0 _ rfl
      have dq5_0 := heap_cell q5 0 _ rfl
      go_wp2_with fail
      generalize (w10.alloc (.cells #[.slice (some ⟨g, 0, none⟩) (n + 1) (n + 1)] 24)) = w11 at q4 q5 q9 q11 q15 q18 dq18_0 dq5_0 hM hb11 ⊢
      generalize w10.heap.size = B18 at q18 dq18_0 ⊢
      refine (HVM.out g w11 (hE.on hb11) hM).mono ?_
      rintro e w12 ⟨a5, c5, rfl, hL5, hb12⟩
      have q4 := heap_on hb12 q4
      have q5 := heap_on hb12 q5
      have q9 := heap_on hb12 q9
      have q11 := heap_on hb12 q11
      have q15 := heap_on hb12 q15
      have q18 := heap_on hb12 q18
      have hb12 := below_on hb11 hb12
      clear hb11
      clear dq18_0 dq5_0 hM
      have dq5_0 := heap_cell q5 0 _ rfl
      have dq5_1 := heap_cell q5 1 _ rfl
      have dq4_0 := heap_cell q4 0 _ rfl
      go_wp2_with fail
      have hvo := fun w' hE hS => HVo.out k w' hE hS hk16
      rcases hv : valD (valsD l) (k : Int) with _ | u
      · have hz0 : (z == 0) = false := by
          simp only [beq_eq_false_iff_ne, ne_eq]
          intro h
          have := HZ.out.1 h
          rw [hv] at this
          cases this
        rw [show valS (valsD l) (k : Int) = ⟨#[]⟩ by unfold valS; rw [hv]; rfl, show (valD (valsD l) (k : Int)).isSome = false by rw [hv]; rfl] at hvo
        generalize pathT (valN (valsD l)) 0 k 4 = P6 at hvo
        have HVO := Lib.hid hvo
        clear hvo HVo HZ
        refine (HVO.out w12 (hE.on hb12) (hS.on hb12)).mono ?_
        rintro e w13 ⟨a6, c6, rfl, _, hb13⟩
        have q4 := heap_on hb13 q4
        have q5 := heap_on hb13 q5
        have q9 := heap_on hb13 q9
        have q11 := heap_on hb13 q11
        have q15 := heap_on hb13 q15
        have q18 := heap_on hb13 q18
        have hL5 := hL5.on hb13
        have hb13 := below_on hb12 hb13
        clear hb12
        clear dq5_0 dq5_1 dq4_0
        have dq11_0 := heap_cell q11 0 _ rfl
        have dq11_1 := heap_cell q11 1 _ rfl
        have dq11_2 := heap_cell q11 2 _ rfl
        have dq11_3 := heap_cell q11 3 _ rfl
        have dq5_0 := heap_cell q5 0 _ rfl
        go_wp2_with fail
        refine (HFM.out a5 c5 w13 (hE.on hb13) hL5).mono ?_
        rintro e w14 ⟨rfl, hb14⟩
        have q4 := heap_on hb14 q4
        have q5 := heap_on hb14 q5
        have q9 := heap_on hb14 q9
        have q11 := heap_on hb14 q11
        have q15 := heap_on hb14 q15
        have q18 := heap_on hb14 q18
        have hb14 := below_on hb13 hb14
        clear hb13
        go_wp2_with fail
        go_ret
        exact ⟨rfl, hb14⟩
      · by_cases hu : u = vx
        · obtain rfl : z = 0 := HZ.out.2 (by rw [hv, hu])
          subst hu
          rw [show valS (valsD l) (k : Int) = u by unfold valS; rw [hv]; rfl, show (valD (valsD l) (k : Int)).isSome = true by rw [hv]; rfl] at hvo
          generalize pathT (valN (valsD l)) 0 k 4 = P6 at hvo
          have HVO := Lib.hid hvo
          clear hvo HVo HZ
          refine (HVO.out w12 (hE.on hb12) (hS.on hb12)).mono ?_
          rintro e w13 ⟨a6, c6, rfl, _, hb13⟩
          have q4 := heap_on hb13 q4
          have q5 := heap_on hb13 q5
          have q9 := heap_on hb13 q9
          have q11 := heap_on hb13 q11
          have q15 := heap_on hb13 q15
          have q18 := heap_on hb13 q18
          have hL5 := hL5.on hb13
          have hb13 := below_on hb12 hb13
          clear hb12
          clear dq5_0 dq5_1 dq4_0
          have dq11_0 := heap_cell q11 0 _ rfl
          have dq11_1 := heap_cell q11 1 _ rfl
          have dq11_2 := heap_cell q11 2 _ rfl
          have dq11_3 := heap_cell q11 3 _ rfl
          have dq5_0 := heap_cell q5 0 _ rfl
          go_wp2_with fail
          refine (HFM.out a5 c5 w13 (hE.on hb13) hL5).mono ?_
          rintro e w14 ⟨rfl, hb14⟩
          have q4 := heap_on hb14 q4
          have q5 := heap_on hb14 q5
          have q9 := heap_on hb14 q9
          have q11 := heap_on hb14 q11
          have q15 := heap_on hb14 q15
          have q18 := heap_on hb14 q18
          have hb14 := below_on hb13 hb14
          clear hb13
          go_wp2_with fail
          go_ret
          exact ⟨rfl, hb14⟩
        · have hz0 : (z == 0) = false := by
            simp only [beq_eq_false_iff_ne, ne_eq]
            intro h
            have := HZ.out.1 h
            rw [hv] at this
            injection this with this
            exact hu this
          have hne := str_ne hu
          rw [show valS (valsD l) (k : Int) = u by unfold valS; rw [hv]; rfl, show (valD (valsD l) (k : Int)).isSome = true by rw [hv]; rfl] at hvo
          generalize pathT (valN (valsD l)) 0 k 4 = P6 at hvo
          have HVO := Lib.hid hvo
          clear hvo HVo HZ
          refine (HVO.out w12 (hE.on hb12) (hS.on hb12)).mono ?_
          rintro e w13 ⟨a6, c6, rfl, _, hb13⟩
          have q4 := heap_on hb13 q4
          have q5 := heap_on hb13 q5
          have q9 := heap_on hb13 q9
          have q11 := heap_on hb13 q11
          have q15 := heap_on hb13 q15
          have q18 := heap_on hb13 q18
          have hL5 := hL5.on hb13
          have hb13 := below_on hb12 hb13
          clear hb12
          clear dq5_0 dq5_1 dq4_0
          have dq11_0 := heap_cell q11 0 _ rfl
          have dq11_1 := heap_cell q11 1 _ rfl
          have dq11_2 := heap_cell q11 2 _ rfl
          have dq11_3 := heap_cell q11 3 _ rfl
          have dq5_0 := heap_cell q5 0 _ rfl
          go_wp2_with fail
          refine (HFM.out a5 c5 w13 (hE.on hb13) hL5).mono ?_
          rintro e w14 ⟨rfl, hb14⟩
          have q4 := heap_on hb14 q4
          have q5 := heap_on hb14 q5
          have q9 := heap_on hb14 q9
          have q11 := heap_on hb14 q11
          have q15 := heap_on hb14 q15
          have q18 := heap_on hb14 q18
          have hb14 := below_on hb13 hb14
          clear hb13
          go_wp2_with fail
          go_ret
          exact ⟨rfl, hb14⟩
    · obtain ⟨z, hz1⟩ : ∃ z, bookE (l ++ [(kx, vx)]) = z := ⟨_, rfl⟩
      rw [hz1] at hz
      have hz2 : (z == 0) = false := by simp only [beq_eq_false_iff_ne, ne_eq]; exact hz
      refine (HN.out z w9 (hS.on hb9) hz1 hz).mono ?_
      rintro e w10 ⟨rfl, hb10⟩
      have q4 := heap_on hb10 q4
      have q5 := heap_on hb10 q5
      have q9 := heap_on hb10 q9
      have q11 := heap_on hb10 q11
      have q15 := heap_on hb10 q15
      have hb10 := below_on hb9 hb10
      clear hb9
      clear hz1
      have q18 := heap_push w10 (.cells #[.slice none 0 0] 24)
      have hb11 := hb10.alloc hb10.size (.cells #[.slice none 0 0] 24)
      clear hb10
      go_wp2_with fail
      generalize (w10.alloc (.cells #[.slice none 0 0] 24)) = w11 at q18 hb11 ⊢
      generalize w10.heap.size = B18 at q18 ⊢
      go_ret
      exact ⟨rfl, hb11⟩
  · have dq5_0 := heap_cell q5 0 _ rfl
    have dq5_1 := heap_cell q5 1 _ rfl
    go_wp2_with fail
    by_cases hz : bookE (l ++ [(kx, vx)]) = 0
    · have hG' := (bookE_iff _).1 hz
      obtain ⟨g1, g2, g3⟩ := hG'.2 (kx, vx) (by simp)
      simp only at g1 g2 g3
      obtain ⟨k, rfl⟩ : ∃ k : Nat, kx = (k : Int) := ⟨kx.toNat, by omega⟩
      have hk16 : k < 16 := by omega
      have hvm := fun g w' hE hS => HVm.out k g w' hE hS hG' hk16
      rw [show valS (valsD (l ++ [((k : Int), vx)])) (k : Int) = vx from own_val l ((k : Int), vx), show (valD (valsD (l ++ [((k : Int), vx)])) (k : Int)).isSome = true from own_some l ((k : Int), vx)] at hvm
      have hfm := HFm.out k
      have hap := HAP.out k rfl hk16
      rw [hn] at hfm hap
      generalize pathT (valN (valsD (l ++ [((k : Int), vx)]))) 0 k 4 = Pm at hvm hfm hap
      generalize findsE (n : Int) Lg Mp (k : Int) vx true Pm = z at hfm hap
      have HVM := Lib.hid hvm
      have HFM := Lib.hid hfm
      have HZ := Lib.hid hap
      clear hvm hfm hap HVm HFm HAP HN g1 g2 g3
      refine (HP.out w6 (hS.on hb6) hz).mono ?_
      rintro e w7 ⟨g, rfl, hM, hb7⟩
      have q4 := heap_on hb7 q4
      have q5 := heap_on hb7 q5
      have q9 := heap_on hb7 q9
      have q11 := heap_on hb7 q11
      have hb7 := below_on hb6 hb7
      clear hb6
      have q4 := heap_old w7 (.cells #[.slice (some ⟨g, 0, none⟩) (n + 1) (n + 1)] 24) q4
      have q5 := heap_old w7 (.cells #[.slice (some ⟨g, 0, none⟩) (n + 1) (n + 1)] 24) q5
      have q9 := heap_old w7 (.cells #[.slice (some ⟨g, 0, none⟩) (n + 1) (n + 1)] 24) q9
      have q11 := heap_old w7 (.cells #[.slice (some ⟨g, 0, none⟩) (n + 1) (n + 1)] 24) q11
      have q18 := heap_push w7 (.cells #[.slice (some ⟨g, 0, none⟩) (n + 1) (n + 1)] 24)
      have hM := hM.on ((Below.refl _ w7).alloc (Nat.le_refl _) (.cells #[.slice (some ⟨g, 0, none⟩) (n + 1) (n + 1)] 24))
      have hb8 := hb7.alloc hb7.size (.cells #[.slice (some ⟨g, 0, none⟩) (n + 1) (n + 1)] 24)
      clear hb7
      have dq18_0 := heap_cell q18 0 _ rfl
      have dq5_0 := heap_cell q5 0 _ rfl
      go_wp2_with fail
      generalize (w7.alloc (.cells #[.slice (some ⟨g, 0, none⟩) (n + 1) (n + 1)] 24)) = w8 at q4 q5 q9 q11 q18 dq18_0 dq5_0 hM hb8 ⊢
      generalize w7.heap.size = B18 at q18 dq18_0 ⊢
      refine (HVM.out g w8 (hE.on hb8) hM).mono ?_
      rintro e w9 ⟨a5, c5, rfl, hL5, hb9⟩
      have q4 := heap_on hb9 q4
      have q5 := heap_on hb9 q5
      have q9 := heap_on hb9 q9
      have q11 := heap_on hb9 q11
      have q18 := heap_on hb9 q18
      have hb9 := below_on hb8 hb9
      clear hb8
      clear dq18_0 dq5_0 hM
      have dq5_0 := heap_cell q5 0 _ rfl
      have dq5_1 := heap_cell q5 1 _ rfl
      have dq4_0 := heap_cell q4 0 _ rfl
      go_wp2_with fail
      have hvo := fun w' hE hS => HVo.out k w' hE hS hk16
      rcases hv : valD (valsD l) (k : Int) with _ | u
      · have hz0 : (z == 0) = false := by
          simp only [beq_eq_false_iff_ne, ne_eq]
          intro h
          have := HZ.out.1 h
          rw [hv] at this
          cases this
        rw [show valS (valsD l) (k : Int) = ⟨#[]⟩ by unfold valS; rw [hv]; rfl, show (valD (valsD l) (k : Int)).isSome = false by rw [hv]; rfl] at hvo
        generalize pathT (valN (valsD l)) 0 k 4 = P6 at hvo
        have HVO := Lib.hid hvo
        clear hvo HVo HZ
        refine (HVO.out w9 (hE.on hb9) (hS.on hb9)).mono ?_
        rintro e w10 ⟨a6, c6, rfl, _, hb10⟩
        have q4 := heap_on hb10 q4
        have q5 := heap_on hb10 q5
        have q9 := heap_on hb10 q9
        have q11 := heap_on hb10 q11
        have q18 := heap_on hb10 q18
        have hL5 := hL5.on hb10
        have hb10 := below_on hb9 hb10
        clear hb9
        clear dq5_0 dq5_1 dq4_0
        have dq11_0 := heap_cell q11 0 _ rfl
        have dq11_1 := heap_cell q11 1 _ rfl
        have dq11_2 := heap_cell q11 2 _ rfl
        have dq11_3 := heap_cell q11 3 _ rfl
        have dq5_0 := heap_cell q5 0 _ rfl
        go_wp2_with fail
        refine (HFM.out a5 c5 w10 (hE.on hb10) hL5).mono ?_
        rintro e w11 ⟨rfl, hb11⟩
        have q4 := heap_on hb11 q4
        have q5 := heap_on hb11 q5
        have q9 := heap_on hb11 q9
        have q11 := heap_on hb11 q11
        have q18 := heap_on hb11 q18
        have hb11 := below_on hb10 hb11
        clear hb10
        go_wp2_with fail
        go_ret
        exact ⟨rfl, hb11⟩
      · by_cases hu : u = vx
        · obtain rfl : z = 0 := HZ.out.2 (by rw [hv, hu])
          subst hu
          rw [show valS (valsD l) (k : Int) = u by unfold valS; rw [hv]; rfl, show (valD (valsD l) (k : Int)).isSome = true by rw [hv]; rfl] at hvo
          generalize pathT (valN (valsD l)) 0 k 4 = P6 at hvo
          have HVO := Lib.hid hvo
          clear hvo HVo HZ
          refine (HVO.out w9 (hE.on hb9) (hS.on hb9)).mono ?_
          rintro e w10 ⟨a6, c6, rfl, _, hb10⟩
          have q4 := heap_on hb10 q4
          have q5 := heap_on hb10 q5
          have q9 := heap_on hb10 q9
          have q11 := heap_on hb10 q11
          have q18 := heap_on hb10 q18
          have hL5 := hL5.on hb10
          have hb10 := below_on hb9 hb10
          clear hb9
          clear dq5_0 dq5_1 dq4_0
          have dq11_0 := heap_cell q11 0 _ rfl
          have dq11_1 := heap_cell q11 1 _ rfl
          have dq11_2 := heap_cell q11 2 _ rfl
          have dq11_3 := heap_cell q11 3 _ rfl
          have dq5_0 := heap_cell q5 0 _ rfl
          go_wp2_with fail
          refine (HFM.out a5 c5 w10 (hE.on hb10) hL5).mono ?_
          rintro e w11 ⟨rfl, hb11⟩
          have q4 := heap_on hb11 q4
          have q5 := heap_on hb11 q5
          have q9 := heap_on hb11 q9
          have q11 := heap_on hb11 q11
          have q18 := heap_on hb11 q18
          have hb11 := below_on hb10 hb11
          clear hb10
          go_wp2_with fail
          go_ret
          exact ⟨rfl, hb11⟩
        · have hz0 : (z == 0) = false := by
            simp only [beq_eq_false_iff_ne, ne_eq]
            intro h
            have := HZ.out.1 h
            rw [hv] at this
            injection this with this
            exact hu this
          have hne := str_ne hu
          rw [show valS (valsD l) (k : Int) = u by unfold valS; rw [hv]; rfl, show (valD (valsD l) (k : Int)).isSome = true by rw [hv]; rfl] at hvo
          generalize pathT (valN (valsD l)) 0 k 4 = P6 at hvo
          have HVO := Lib.hid hvo
          clear hvo HVo HZ
          refine (HVO.out w9 (hE.on hb9) (hS.on hb9)).mono ?_
          rintro e w10 ⟨a6, c6, rfl, _, hb10⟩
          have q4 := heap_on hb10 q4
          have q5 := heap_on hb10 q5
          have q9 := heap_on hb10 q9
          have q11 := heap_on hb10 q11
          have q18 := heap_on hb10 q18
          have hL5 := hL5.on hb10
          have hb10 := below_on hb9 hb10
          clear hb9
          clear dq5_0 dq5_1 dq4_0
          have dq11_0 := heap_cell q11 0 _ rfl
          have dq11_1 := heap_cell q11 1 _ rfl
          have dq11_2 := heap_cell q11 2 _ rfl
          have dq11_3 := heap_cell q11 3 _ rfl
          have dq5_0 := heap_cell q5 0 _ rfl
          go_wp2_with fail
          refine (HFM.out a5 c5 w10 (hE.on hb10) hL5).mono ?_
          rintro e w11 ⟨rfl, hb11⟩
          have q4 := heap_on hb11 q4
          have q5 := heap_on hb11 q5
          have q9 := heap_on hb11 q9
          have q11 := heap_on hb11 q11
          have q18 := heap_on hb11 q18
          have hb11 := below_on hb10 hb11
          clear hb10
          go_wp2_with fail
          go_ret
          exact ⟨rfl, hb11⟩
    · obtain ⟨z, hz1⟩ : ∃ z, bookE (l ++ [(kx, vx)]) = z := ⟨_, rfl⟩
      rw [hz1] at hz
      have hz2 : (z == 0) = false := by simp only [beq_eq_false_iff_ne, ne_eq]; exact hz
      refine (HN.out z w6 (hS.on hb6) hz1 hz).mono ?_
      rintro e w7 ⟨rfl, hb7⟩
      have q4 := heap_on hb7 q4
      have q5 := heap_on hb7 q5
      have q9 := heap_on hb7 q9
      have q11 := heap_on hb7 q11
      have hb7 := below_on hb6 hb7
      clear hb6
      clear hz1
      have q18 := heap_push w7 (.cells #[.slice none 0 0] 24)
      have hb8 := hb7.alloc hb7.size (.cells #[.slice none 0 0] 24)
      clear hb7
      go_wp2_with fail
      generalize (w7.alloc (.cells #[.slice none 0 0] 24)) = w8 at q18 hb8 ⊢
      generalize w7.heap.size = B18 at q18 ⊢
      go_ret
      exact ⟨rfl, hb8⟩

theorem clientAsks_walk (l : List EntB) (a : Option Addr) (n c : Nat) (kx : Int) (vx : ByteArray) (i key : Int) (w : World) (hE : Tab w) (hn : l.length = n) (hS : EntsAt w a c l) (hx : WideEnt (kx, vx)) (hi : -9223372036854775808 ≤ i) (hi' : i ≤ 9223372036854775807) (hk : -9223372036854775808 ≤ key) (hk' : key ≤ 9223372036854775807) :
    Calls Tryd.prog 6 #[.agg #[.slice a n c], .agg #[.int .i64 kx, .string vx], .int .i64 i, .int .i64 key] w fun e w' => e = .returned (.bool true) ∧ Below w.heap.size w w' := by
  by_cases h : bookE l = 0
  · exact clientAsks_ok l a n c kx vx i key w hE hn hS hx hi hi' hk hk' ((bookE_iff l).1 h)
  · exact clientAsks_bad l a n c kx vx i key w hE hn hS _ rfl h
end Go.Proofs.YtolgikojliedlaeDoor
