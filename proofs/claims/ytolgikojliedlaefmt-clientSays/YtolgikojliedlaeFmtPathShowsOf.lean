/-
  Chapter 3's Shows as the document's own reckoning has it.
-/
import Derived.Test.YtolgikojliedlaeFmtPathOf
import Derived.Test.YtolgikojliedlaeFmtShows
namespace Go.Proofs.YtolgikojliedlaeFmt
open Go Go.RowKit Go.Kit Go.Extern.Stop Go.Stop Go.Extern

theorem showsOf_range (root : ByteArray) (n i : Int) (text : ByteArray) (v : Value) (w : World) (h : n < 1 ∨ 24 < n) :
    Calls Tryf.prog 23 #[.string root, .int .i64 n, .int .i64 i, .string text, v] w fun e w' => e = .returned (.int .i64 3) ∧ w = w' := by
  go_enter Tryf.func23, Tryf.ntmps23
  go_wp2_with fail
  refine (in_no n 1 24 w h).mono ?_
  rintro e w1 ⟨rfl, rfl⟩
  go_wp2_with fail
  go_ret
  exact ⟨rfl, rfl⟩
theorem showsOf_who (root : ByteArray) (n i : Int) (text : ByteArray) (v : Value) (w : World) (h1 : 1 ≤ n) (h2 : n ≤ 24) (h : i < 0 ∨ n ≤ i) :
    Calls Tryf.prog 23 #[.string root, .int .i64 n, .int .i64 i, .string text, v] w fun e w' => e = .returned (.int .i64 5) ∧ w = w' := by
  have hin := in_no i 0 (n - 1) w (by omega)
  clear h
  go_enter Tryf.func23, Tryf.ntmps23
  go_wp2_with fail
  refine (in_yes n 1 24 w h1 h2).mono ?_
  rintro e w1 ⟨rfl, rfl⟩
  go_wp2_with fail
  refine hin.mono ?_
  rintro e w1 ⟨rfl, rfl⟩
  go_wp2_with fail
  go_ret
  exact ⟨rfl, rfl⟩

set_option maxRecDepth 100000 in
set_option maxHeartbeats 1000000 in
theorem showsOf_in (I : Interp) (root : ByteArray) (n i : Nat) (text : ByteArray) (ss : List StepB) (a : Option Addr) (m c : Nat) (w : World) (hF : I.told.answers w.tape) (ht : text.size ≤ 9223372036854775807) (hbig : ∀ s ∈ ss, s.2.size ≤ 140737488355328) (hm : ss.length = m) (hS : StepsAt w a c ss) (h1 : 1 ≤ n) (h24 : n ≤ 24) (hi : i < n) :
    Calls Tryf.prog 23 #[.string root, .int .i64 (n : Int), .int .i64 (i : Int), .string text, .slice a m c] w fun e w' => e = .returned (.int .i64 (showE root n i text ss)) ∧ Below w.heap.size w w' := by
  have hcap := hS.cap
  have hmax := hS.max
  have hE0 : showE root n i text ss = if ss.length = (sidesN n i).length then (match leafO text with | none => 2 | some x => walkE root x (sidesN n i) ss) else 7 := by
    unfold showE
    rw [if_neg (by omega), if_neg (by omega)]
    rfl
  have hsp := fun w' => spans_any n i w' (by omega) h24 hi
  have hsd := spans_sides n i
  have hok := spanL_ok n 0 n i (Nat.le_refl _)
  have hlen : (spanL 0 n i).length ≤ 23 := by rw [spans_len]; exact sidesN_le h24
  generalize spanL 0 n i = S at hsp hsd hok hlen
  generalize sidesN n i = bs at hE0 hsd
  generalize showE root n i text ss = res at hE0
  have hin1 := in_yes n 1 24 w (by omega) (by omega)
  have hin2 := in_yes i 0 ((n : Int) - 1) w (by omega) (by omega)
  have hbl : bs.length = S.length := by rw [← hsd]; simp
  by_cases hml : m = S.length
  · rw [if_pos (by omega)] at hE0
    have hleaf := fun w => leafOf_any text w ht
    cases hL : leafO text with
    | none =>
      rw [hL] at hE0
      simp only at hE0
      have hlong := leafO_none hL
      rw [(leaf_neg (by omega)).1, (leaf_neg (by omega)).2] at hleaf
      go_enter Tryf.func23, Tryf.ntmps23
      go_wp2_with fail
      refine hin1.mono ?_
      rintro e w1 ⟨rfl, rfl⟩
      go_wp2_with fail
      refine hin2.mono ?_
      rintro e w1 ⟨rfl, rfl⟩
      go_wp2_with fail
      refine (hsp w).mono ?_
      rintro e w2 ⟨a2, c2, rfl, hown, hb2⟩
      clear hsp hin1 hin2
      go_wp2_with fail
      refine (reverse_all S a2 c2 w2 w.heap.size (by omega) hown).mono ?_
      rintro e w3 ⟨rfl, hSp, hb3⟩
      have hb3 : Below w.heap.size w w3 := hb2.trans hb3
      rw [← hml]
      go_wp2_with fail
      refine (hleaf w3).mono ?_
      rintro e w4 ⟨rfl, rfl⟩
      go_wp2_with fail
      go_ret
      exact ⟨by rw [hE0]; rfl, hb3⟩
    | some x =>
      rw [hL] at hE0
      simp only at hE0
      obtain ⟨hshort, rfl⟩ := leafO_some hL
      have hx0 := leafO_size hL
      rw [(leaf_pos hshort).1, (leaf_pos hshort).2] at hleaf
      have hRs : S.reverse.length = S.length := by simp
      have hokR : ∀ s ∈ S.reverse, 0 ≤ s.1 ∧ s.1 + 2 ≤ s.2 ∧ s.2 ≤ 0 + n := fun s hs => hok s (List.mem_reverse.1 hs)
      have HE0 := Lib.hid hE0
      clear hE0 hL hok
      go_enter Tryf.func23, Tryf.ntmps23
      go_wp2_with fail
      refine hin1.mono ?_
      rintro e w1 ⟨rfl, rfl⟩
      go_wp2_with fail
      refine hin2.mono ?_
      rintro e w1 ⟨rfl, rfl⟩
      go_wp2_with fail
      refine (hsp w).mono ?_
      rintro e w2 ⟨a2, c2, rfl, hown, hb2⟩
      clear hsp hin1 hin2
      go_wp2_with fail
      refine (reverse_all S a2 c2 w2 w.heap.size (by omega) hown).mono ?_
      rintro e w3 ⟨rfl, hSp, hb3⟩
      have hb3 : Below w.heap.size w w3 := hb2.trans hb3
      have hS3 := hS.on hb3
      have hcR := hSp.cap
      have hmR := hSp.max
      rw [hRs] at hcR
      rw [← hml] at hcR hlen hRs hbl ⊢
      generalize S.reverse = R at hsd hSp hokR hRs
      have Hsd := Lib.hid hsd
      have Hbl := Lib.hid hbl
      have HR := Lib.hid hRs
      clear hown hb2 hS hsd hbl hRs hml
      go_wp2_with fail
      refine (hleaf w3).mono ?_
      rintro e w4 ⟨rfl, rfl⟩
      clear hleaf
      go_wp2_with fail
      go_loopg [46, 12] m (fun g s46 s12 wr => ∃ (k : Nat) (now : ByteArray), k ≤ m ∧ m - k ≤ g ∧ s46 = .int .i64 k ∧ s12 = .string now ∧ now.size ≤ 20007 ∧ Below w3.heap.size w3 wr ∧ walkE root now (bs.drop k) (ss.drop k) = res)
      case atStart => exact ⟨0, _, Nat.zero_le _, by omega, rfl, rfl, by omega, Below.refl _ _, HE0.out.symm⟩
      case round =>
        obtain ⟨k, now, hk, hg, rfl, rfl, hsz, hb, hres⟩ := hrel
        rcases Nat.lt_or_ge k m with hkm | hkm
        · rw [walkE_round root now bs ss k (by rw [Hbl.out, hm]) (by omega)] at hres
          have hSr := hS3.on hb
          have hSpr := hSp.on hb
          obtain ⟨b, off, rfl, hlt, hc⟩ := hSr.cells (by omega)
          have hkR : k < R.length := by rw [HR.out]; exact hkm
          obtain ⟨g, rfl, hP⟩ := hSpr.cells (by omega)
          obtain ⟨q0, q1⟩ := hc k (by omega)
          obtain ⟨q2, q3⟩ := hP.cells k hkR
          obtain ⟨_, ok1, ok2⟩ := hokR _ (spanAt_mem hkR)
          have hzs := hbig _ (stepAt_mem (l := ss) (i := k) (by omega))
          have hside : bs.getD k false = decide (midN (spanAt R k) ≤ i) := by
            rw [← Hsd.out, List.getD_eq_getElem?_getD, List.getElem?_map]
            unfold spanAt
            rw [List.getD_eq_getElem?_getD, List.getElem?_eq_getElem hkR]
            rfl
          rw [hside] at hres
          generalize stepAt ss k = st at hres q0 q1 hzs
          generalize spanAt R k = sp at hres q2 q3 ok1 ok2
          obtain ⟨sl, sx⟩ := st
          obtain ⟨f, t⟩ := sp
          simp only at q0 q1 q2 q3 ok1 ok2 hzs hres
          obtain ⟨d, hd⟩ : ∃ d, d = t - f := ⟨_, rfl⟩
          have hmd : midN (f, t) = f + halfN d := by rw [hd]; rfl
          generalize midN (f, t) = mid at hres hmd
          have hsub : (t : Int) - (f : Int) = (d : Int) := by omega
          have hmid : (f : Int) + (halfN d : Int) = (mid : Int) := by omega
          have hd2 : 2 ≤ d := by omega
          have hd24 : d ≤ 24 := by omega
          have hh := halfN_lt hd2
          have hp := halfN_pos d
          have ht2 : t ≤ n := by omega
          have hm3 : mid ≤ f + halfN d := by omega
          have hm4 : f + halfN d ≤ mid := by omega
          have hkc : (k : Int) < (m : Int) := by omega
          have hcH := fun W q => halfOf_quiet d hd2 hd24 W q
          have Hres := Lib.hid hres
          clear hd hp hmd hres hside hc hP hSr hSpr hS3 hSp
          have hb3a : Below w3.heap.size w3 (wr.alloc (.cells #[.int .i64 (f : Int), .int .i64 (t : Int)] 75)) := hb.alloc hb.size _
          have hhp : (wr.alloc (.cells #[.int .i64 (f : Int), .int .i64 (t : Int)] 75)).heap[wr.heap.size]? = some (.cells #[.int .i64 (f : Int), .int .i64 (t : Int)] 75) := by show (wr.heap.push _)[wr.heap.size]? = _; simp
          have r0 : (wr.alloc (.cells #[.int .i64 (f : Int), .int .i64 (t : Int)] 75)).cell? ⟨wr.heap.size, 0, none⟩ = some (.int .i64 (f : Int)) := by unfold World.cell?; simp only [hhp]; rfl
          have r1 : (wr.alloc (.cells #[.int .i64 (f : Int), .int .i64 (t : Int)] 75)).cell? ⟨wr.heap.size, 1, none⟩ = some (.int .i64 (t : Int)) := by unfold World.cell?; simp only [hhp]; rfl
          have hba : Below wr.heap.size wr (wr.alloc (.cells #[.int .i64 (f : Int), .int .i64 (t : Int)] 75)) := (Below.refl _ _).alloc (Nat.le_refl _) _
          have r2 : (wr.alloc (.cells #[.int .i64 (f : Int), .int .i64 (t : Int)] 75)).cell? ⟨b, off + k * 2, none⟩ = some (.bool sl) := by rw [hba.cell hlt]; exact q0
          have r3 : (wr.alloc (.cells #[.int .i64 (f : Int), .int .i64 (t : Int)] 75)).cell? ⟨b, off + k * 2 + 1, none⟩ = some (.string sx) := by rw [hba.cell hlt]; exact q1
          go_wp2_with fail
          clear hhp q0 q1 q2 q3 hb hba hlt
          generalize (wr.alloc (.cells #[.int .i64 (f : Int), .int .i64 (t : Int)] 75)) = W3 at hb3a r0 r1 r2 r3
          generalize wr.heap.size = BB at r0 r1
          have hcW := Lib.hid (hcH W3)
          clear hcH
          have hres := Hres.out
          clear Hres
          rcases Nat.lt_or_ge i mid with hlow | hhigh <;> cases sl
          · have hcmp : ¬ mid ≤ i := by omega
            rw [decide_eq_false hcmp, if_pos rfl] at hres
            have hj : joinO now (false, sx) = nodeO now sx := by unfold joinO; first | rw [if_pos rfl] | rw [if_neg (by simp)]
            rw [hj] at hres
            have Hr := Lib.hid hres
            clear hres hj
            go_quiet (exact hcW.out _)
            have hb4 := below_drewN hb3a nq
            have t2 : (W3.drewN nq).cell? ⟨b, off + k * 2, none⟩ = some (.bool false) := r2
            have t3 : (W3.drewN nq).cell? ⟨b, off + k * 2 + 1, none⟩ = some (.string sx) := r3
            generalize W3.drewN nq = W4 at hb4 t2 t3
            clear hb3a r0 r1 r2 r3 hcW
            go_wp2_with fail
            go_quiet (fail)
            have hb5 := below_drewN hb4 nq
            have t4 : (W4.drewN nq).cell? ⟨b, off + k * 2, none⟩ = some (.bool false) := t2
            generalize W4.drewN nq = W5 at hb5 t4
            have hF5 : I.told.answers W5.tape := by rw [(below_on hb3 hb5).tape]; exact hF
            clear hb4 t2 t3
            have hnode := nodeOf_any I now sx W5 hF5 (by omega) (by omega)
            rcases nodeV_of (x := now) (y := sx) with ⟨e1, e2, e3⟩ | ⟨z, e1, e2, e3⟩
            · rw [e2, e3] at hnode
              have hr2 := Hr.out
              rw [e1] at hr2
              simp only at hr2
              have Hr2 := Lib.hid hr2
              clear Hr hr2 e1 e2 e3
              go_wp2_with fail
              refine hnode.mono ?_
              rintro e w6 ⟨rfl, hb6⟩
              have hb6 := below_on hb5 hb6
              clear hnode t4
              go_wp2_with fail
              go_ret
              exact ⟨by rw [← Hr2.out]; rfl, below_on hb3 hb6⟩
            · rw [e2, e3] at hnode
              have hz := nodeO_size e1
              have hr2 := Hr.out
              rw [e1] at hr2
              simp only at hr2
              have Hr2 := Lib.hid hr2
              clear Hr hr2 e1 e2 e3
              go_wp2_with fail
              refine hnode.mono ?_
              rintro e w6 ⟨rfl, hb6⟩
              have hb6 := below_on hb5 hb6
              clear hnode t4
              go_wp2_with fail
              go_roundg (m - (k + 1))
              case measure => omega
              case rel => exact ⟨k + 1, z, by omega, Nat.le_refl _, by go_num, rfl, hz, hb6, Hr2.out⟩
          · -- true against False
            have hcmp : ¬ mid ≤ i := by omega
            rw [decide_eq_false hcmp, if_neg (by decide)] at hres
            have Hr := Lib.hid hres
            clear hres
            go_quiet (exact hcW.out _)
            go_wp2_with fail
            go_ret
            exact ⟨by rw [← Hr.out]; rfl, below_on hb3 (below_drewN hb3a nq)⟩
          · -- false against True
            have hcmp : mid ≤ i := by omega
            rw [decide_eq_true hcmp, if_neg (by decide)] at hres
            have Hr := Lib.hid hres
            clear hres
            go_quiet (exact hcW.out _)
            go_wp2_with fail
            go_ret
            exact ⟨by rw [← Hr.out]; rfl, below_on hb3 (below_drewN hb3a nq)⟩
          · have hcmp : mid ≤ i := by omega
            rw [decide_eq_true hcmp, if_pos rfl] at hres
            have hj : joinO now (true, sx) = nodeO sx now := by unfold joinO; first | rw [if_pos rfl] | rw [if_neg (by simp)]
            rw [hj] at hres
            have Hr := Lib.hid hres
            clear hres hj
            go_quiet (exact hcW.out _)
            have hb4 := below_drewN hb3a nq
            have t2 : (W3.drewN nq).cell? ⟨b, off + k * 2, none⟩ = some (.bool true) := r2
            have t3 : (W3.drewN nq).cell? ⟨b, off + k * 2 + 1, none⟩ = some (.string sx) := r3
            generalize W3.drewN nq = W4 at hb4 t2 t3
            clear hb3a r0 r1 r2 r3 hcW
            go_wp2_with fail
            go_quiet (fail)
            have hb5 := below_drewN hb4 nq
            have t4 : (W4.drewN nq).cell? ⟨b, off + k * 2, none⟩ = some (.bool true) := t2
            generalize W4.drewN nq = W5 at hb5 t4
            have hF5 : I.told.answers W5.tape := by rw [(below_on hb3 hb5).tape]; exact hF
            clear hb4 t2 t3
            have hnode := nodeOf_any I sx now W5 hF5 (by omega) (by omega)
            rcases nodeV_of (x := sx) (y := now) with ⟨e1, e2, e3⟩ | ⟨z, e1, e2, e3⟩
            · rw [e2, e3] at hnode
              have hr2 := Hr.out
              rw [e1] at hr2
              simp only at hr2
              have Hr2 := Lib.hid hr2
              clear Hr hr2 e1 e2 e3
              go_wp2_with fail
              refine hnode.mono ?_
              rintro e w6 ⟨rfl, hb6⟩
              have hb6 := below_on hb5 hb6
              clear hnode t4
              go_wp2_with fail
              go_ret
              exact ⟨by rw [← Hr2.out]; rfl, below_on hb3 hb6⟩
            · rw [e2, e3] at hnode
              have hz := nodeO_size e1
              have hr2 := Hr.out
              rw [e1] at hr2
              simp only at hr2
              have Hr2 := Lib.hid hr2
              clear Hr hr2 e1 e2 e3
              go_wp2_with fail
              refine hnode.mono ?_
              rintro e w6 ⟨rfl, hb6⟩
              have hb6 := below_on hb5 hb6
              clear hnode t4
              go_wp2_with fail
              go_roundg (m - (k + 1))
              case measure => omega
              case rel => exact ⟨k + 1, z, by omega, Nat.le_refl _, by go_num, rfl, hz, hb6, Hr2.out⟩
        · rw [walkE_end root now bs ss k (by rw [Hbl.out, hm]) (by omega)] at hres
          obtain rfl : k = m := by omega
          by_cases hnr : now = root
          · have hs1 := str_eq hnr
            rw [if_pos hnr] at hres
            have Hr := Lib.hid hres
            clear hres
            go_wp2_with fail
            go_ret
            exact ⟨by rw [← Hr.out]; rfl, below_on hb3 hb⟩
          · have hs1 := str_ne hnr
            rw [if_neg hnr] at hres
            have Hr := Lib.hid hres
            clear hres
            go_wp2_with fail
            go_ret
            exact ⟨by rw [← Hr.out]; rfl, below_on hb3 hb⟩
  · rw [if_neg (by omega)] at hE0
    go_enter Tryf.func23, Tryf.ntmps23
    go_wp2_with fail
    refine hin1.mono ?_
    rintro e w1 ⟨rfl, rfl⟩
    go_wp2_with fail
    refine hin2.mono ?_
    rintro e w1 ⟨rfl, rfl⟩
    go_wp2_with fail
    refine (hsp w).mono ?_
    rintro e w2 ⟨a2, c2, rfl, hown, hb2⟩
    clear hsp hin1 hin2
    go_wp2_with fail
    refine (reverse_all S a2 c2 w2 w.heap.size (by omega) hown).mono ?_
    rintro e w3 ⟨rfl, hSp, hb3⟩
    have hb3 : Below w.heap.size w w3 := hb2.trans hb3
    have hml' : ¬ S.length = m := fun h => hml h.symm
    have HE0 := Lib.hid hE0
    clear hE0 hown
    go_wp2_with fail
    go_ret
    exact ⟨by rw [HE0.out]; rfl, hb3⟩

theorem showsOf_any (I : Interp) (root : ByteArray) (n i : Int) (text : ByteArray) (ss : List StepB) (a : Option Addr) (m c : Nat) (w : World) (hF : I.told.answers w.tape) (ht : text.size ≤ 9223372036854775807) (hbig : ∀ s ∈ ss, s.2.size ≤ 140737488355328) (hm : ss.length = m) (hS : StepsAt w a c ss) :
    Calls Tryf.prog 23 #[.string root, .int .i64 n, .int .i64 i, .string text, .slice a m c] w fun e w' => e = .returned (.int .i64 (showE root n i text ss)) ∧ Below w.heap.size w w' := by
  by_cases h1 : n < 1 ∨ 24 < n
  · have e1 : showE root n i text ss = 3 := by unfold showE; rw [if_pos h1]
    rw [e1]
    refine (showsOf_range root n i text _ w h1).mono ?_
    rintro e w1 ⟨rfl, rfl⟩
    exact ⟨rfl, Below.refl _ _⟩
  by_cases h2 : i < 0 ∨ n ≤ i
  · have e1 : showE root n i text ss = 5 := by unfold showE; rw [if_neg h1, if_pos h2]
    rw [e1]
    refine (showsOf_who root n i text _ w (by omega) (by omega) h2).mono ?_
    rintro e w1 ⟨rfl, rfl⟩
    exact ⟨rfl, Below.refl _ _⟩
  obtain ⟨n', rfl⟩ := Int.eq_ofNat_of_zero_le (a := n) (by omega)
  obtain ⟨i', rfl⟩ := Int.eq_ofNat_of_zero_le (a := i) (by omega)
  exact showsOf_in I root n' i' text ss a m c w hF ht hbig hm hS (by omega) (by omega) (by omega)
end Go.Proofs.YtolgikojliedlaeFmt
