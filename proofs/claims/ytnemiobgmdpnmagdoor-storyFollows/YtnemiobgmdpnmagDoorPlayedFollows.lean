/-
  A script from the new world on, each step of it held against Follows's closure.
-/
import Derived.Test.YtnemiobgmdpnmagDoorPlayed
namespace Go.Proofs.YtnemiobgmdpnmagDoor
open Go Go.RowKit

set_option maxHeartbeats 16000000 in
set_option maxRecDepth 100000 in
theorem played_follows (G : Nat) (row : Option Nat) (Ok : HapB → Prop) (Inv : World → WB → Prop) (l : List HapB) (a : Option Addr) (k c : Nat) (w : World) (hp : Plays w row Ok 15 (fun x y z => #[x, y, z, .pointer (some ⟨G, 0, none⟩)]) Inv) (hrow : ∀ j, row = some j → j < w.heap.size) (hE : ∀ w1, w.grownBy w1 row → Tab w1) (hk : l.length = k) (hok : ∀ x ∈ l, Ok x) (hL : ∀ w1, w.grownBy w1 row → HapsAt w1 a c l) :
    Calls Tryd.prog 7 #[.slice a k c, .func (.func 15) #[] #[.pointer (some ⟨G, 0, none⟩)]] w fun e w' => ∃ b0 m0 e0 b1 m1 e1 b2 m2 e2, e = .returned (.tuple #[.agg #[.slice b0 m0 e0, .slice b1 m1 e1, .slice b2 m2 e2], .bool true]) ∧ WAt w' b0 m0 e0 b1 m1 e1 b2 m2 e2 (playW newW (l.take 60)) ∧ Inv w' (playW newW (l.take 60)) ∧ w.grownBy w' row := by
  have hL0 := hL w (below_grown (Below.refl _ _) _)
  have hcap := hL0.cap
  have hmax := hL0.max
  clear hL0
  have HP := Lib.hid hp
  have HE := Lib.hid hE
  have HL := Lib.hid hL
  clear hp hE hL
  obtain ⟨m, hm⟩ : ∃ m, min k 60 = m := ⟨_, rfl⟩
  have hmk : m ≤ k := by omega
  have hmin : min (k : Int) 60 = (m : Int) := by omega
  have htk : l.take 60 = l.take m := by
    rcases Nat.lt_or_ge k 60 with h | h
    · rw [List.take_of_length_le (by omega), List.take_of_length_le (by omega)]
    · rw [show m = 60 by omega]
  rw [htk]
  clear htk
  have hsl := fun w1 => run_script_take a k c m (by omega) w1
  have hm1 : (m : Int) ≤ (c : Int) := by omega
  have q4 := heap_push w (.cells #[.slice none 0 0, .slice none 0 0, .slice none 0 0] 31)
  have hb0 := (Below.refl w.heap.size w).alloc (Nat.le_refl _) (.cells #[.slice none 0 0, .slice none 0 0, .slice none 0 0] 31)
  go_enter Tryd.func7, Tryd.ntmps7
  go_wp2_with fail
  generalize (w.alloc (.cells #[.slice none 0 0, .slice none 0 0, .slice none 0 0] 31)) = w0 at q4 hb0 ⊢
  refine (new_any w0).mono ?_
  rintro e w1 ⟨u0, n0, d0, u1, n1, d1, u2, n2, d2, rfl, hU, hb1⟩
  have hs4 := (Array.getElem?_eq_some_iff.1 q4).1
  have q4 := heap_on hb1 q4
  have hs1 := hb1.size
  have hb1 := below_on hb0 hb1
  clear hb0
  have q4 := heap_old w1 (.cells #[.slice u0 n0 d0, .slice u1 n1 d1, .slice u2 n2 d2] 31) q4
  have q6 := heap_push w1 (.cells #[.slice u0 n0 d0, .slice u1 n1 d1, .slice u2 n2 d2] 31)
  have hU := hU.on ((Below.refl _ w1).alloc (Nat.le_refl _) (.cells #[.slice u0 n0 d0, .slice u1 n1 d1, .slice u2 n2 d2] 31))
  have hb2 := hb1.alloc hb1.size (.cells #[.slice u0 n0 d0, .slice u1 n1 d1, .slice u2 n2 d2] 31)
  clear hb1
  go_upto_region 2 with fail
  generalize (w1.alloc (.cells #[.slice u0 n0 d0, .slice u1 n1 d1, .slice u2 n2 d2] 31)) = w2 at q4 q6 hU hb2 ⊢
  obtain ⟨B6, hB6⟩ : ∃ b, w1.heap.size = b := ⟨_, rfl⟩
  rw [hB6] at q6 hs1 ⊢
  clear hB6
  have h6 : w.heap.size < B6 := by omega
  clear hs4 hs1
  have hI0 := HP.out.none _ _ _ HP.out.start hb2
  have hg0 := below_grown hb2 row
  go_wp2_with fail
  go_loopg [19] m (fun gh s19 wr => ∃ (i : Nat) (b0 : Option Addr) (m0 e0 : Nat) (b1 : Option Addr) (m1 e1 : Nat) (b2 : Option Addr) (m2 e2 : Nat), s19 = .int .i64 (i : Int) ∧ i ≤ m ∧ m - i ≤ gh ∧ wr.heap[B6]? = some (.cells #[.slice b0 m0 e0, .slice b1 m1 e1, .slice b2 m2 e2] 31) ∧ WAt wr b0 m0 e0 b1 m1 e1 b2 m2 e2 (playW newW (l.take i)) ∧ Inv wr (playW newW (l.take i)) ∧ wr.heap[w.heap.size]? = some (.cells #[.slice none 0 0, .slice none 0 0, .slice none 0 0] 31) ∧ w.grownBy wr row)
  case atStart => exact ⟨0, u0, n0, d0, u1, n1, d1, u2, n2, d2, rfl, Nat.zero_le _, by omega, q6, hU, hI0, q4, hg0⟩
  case round =>
    clear q4 q6 hU hb2 hI0 hg0 hsl hmin
    obtain ⟨i, b0, m0, e0, b1, m1, e1, b2, m2, e2, rfl, him, hgh, p6, hV, hI, p4, hg⟩ := hrel
    rcases Nat.lt_or_ge i m with hlt | hge
    · have hLr := HL.out wr hg
      obtain ⟨bl, off, rfl, hbl, hc⟩ := hLr.cells (by omega)
      obtain ⟨s0, s1, s2, s3, s4, s5⟩ := hc i (by omega)
      clear hc
      have hxw := hLr.sz _ (hapOf_mem (l := l) (i := i) (by omega))
      have hxok := hok _ (hapOf_mem (l := l) (i := i) (by omega))
      have hT := haps_take (l := l) (i := i) (by omega)
      have hp1 : playW newW (l.take (i + 1)) = stepW (playW newW (l.take i)) (hapOf l i) := by rw [hT, playW_snoc]
      unfold stepW at hp1
      have hd := fun w' hE hW => do_any (playW newW (l.take i)) (hapOf l i) b0 m0 e0 b1 m1 e1 b2 m2 e2 w' hE hW hxw
      have hcl := fun c0 f0 g0 c1 f1 g1 c2 f2 g2 w1 => HP.out.call (playW newW (l.take i)) (hapOf l i) b0 m0 e0 b1 m1 e1 b2 m2 e2 c0 f0 g0 c1 f1 g1 c2 f2 g2 w1
      obtain ⟨Vi, hVi⟩ : ∃ Vi, playW newW (l.take i) = Vi := ⟨_, rfl⟩
      rw [hVi] at hV hI hd hcl hp1
      generalize hapOf l i = x at s0 s1 s2 s3 s4 s5 hd hcl hp1 hxw hxok
      obtain ⟨Y, z, hYZ⟩ : ∃ Y z, doV Vi x = (Y, z) := ⟨_, _, rfl⟩
      rw [hYZ] at hd hp1
      simp only [hYZ] at hcl
      simp only at hd hp1
      obtain ⟨xk, xs, xw, xo, xe, xv⟩ := x
      simp only at s0 s1 s2 s3 s4 s5 hd hcl
      have HD := Lib.hid hd
      have HCL := Lib.hid hcl
      have HP1 := Lib.hid hp1
      have HXW := Lib.hid hxw
      have HXO := Lib.hid hxok
      clear hd hcl hp1 hYZ hVi hT hxw hxok hLr
      have him1 : (i : Int) < (m : Int) := by omega
      have hbl8 := (Below.refl wr.heap.size wr).alloc (Nat.le_refl _) (.cells #[.int .i64 xk, .int .i64 xs, .int .i64 xw, .int .i64 xo, .int .i64 xe, .string xv] 35)
      have p6 := heap_on hbl8 p6
      have p4 := heap_on hbl8 p4
      have q8 := heap_push wr (.cells #[.int .i64 xk, .int .i64 xs, .int .i64 xw, .int .i64 xo, .int .i64 xe, .string xv] 35)
      have hV := hV.on hbl8
      have hI := HP.out.none _ _ _ hI hbl8
      have hg := grow_none hg hbl8
      clear hbl8
      have dp6_0 := heap_cell p6 0 _ rfl
      have dp6_1 := heap_cell p6 1 _ rfl
      have dp6_2 := heap_cell p6 2 _ rfl
      have dq8_0 := heap_cell q8 0 _ rfl
      have dq8_1 := heap_cell q8 1 _ rfl
      have dq8_2 := heap_cell q8 2 _ rfl
      have dq8_3 := heap_cell q8 3 _ rfl
      have dq8_4 := heap_cell q8 4 _ rfl
      have dq8_5 := heap_cell q8 5 _ rfl
      go_wp2_with fail
      generalize (wr.alloc (.cells #[.int .i64 xk, .int .i64 xs, .int .i64 xw, .int .i64 xo, .int .i64 xe, .string xv] 35)) = w3 at p6 p4 q8 hV hI hg dp6_0 dp6_1 dp6_2 dq8_0 dq8_1 dq8_2 dq8_3 dq8_4 dq8_5 ⊢
      generalize wr.heap.size = B8 at q8 dq8_0 dq8_1 dq8_2 dq8_3 dq8_4 dq8_5 ⊢
      refine (HD.out w3 (HE.out w3 hg) hV).mono ?_
      rintro e w4 ⟨c0, f0, g0, c1, f1, g1, c2, f2, g2, rfl, hU, hb4⟩
      have p6 := heap_on hb4 p6
      have p4 := heap_on hb4 p4
      have q8 := heap_on hb4 q8
      have hV := hV.on hb4
      have hI := HP.out.none _ _ _ hI hb4
      have hg := grow_none hg hb4
      clear hb4 HD s0 s1 s2 s3 s4 s5 hbl dp6_0 dp6_1 dp6_2 dq8_0 dq8_1 dq8_2 dq8_3 dq8_4 dq8_5
      have hbl9 := (Below.refl w4.heap.size w4).alloc (Nat.le_refl _) (.cells #[.slice c0 f0 g0, .slice c1 f1 g1, .slice c2 f2 g2] 31)
      have p6 := heap_on hbl9 p6
      have p4 := heap_on hbl9 p4
      have q8 := heap_on hbl9 q8
      have q9 := heap_push w4 (.cells #[.slice c0 f0 g0, .slice c1 f1 g1, .slice c2 f2 g2] 31)
      have hV := hV.on hbl9
      have hU := hU.on hbl9
      have hI := HP.out.none _ _ _ hI hbl9
      have hg := grow_none hg hbl9
      clear hbl9
      go_upto_region 6 with fail
      generalize (w4.alloc (.cells #[.slice c0 f0 g0, .slice c1 f1 g1, .slice c2 f2 g2] 31)) = w5 at p6 p4 q8 q9 hV hU hI hg ⊢
      generalize w4.heap.size = B9 at q9 ⊢
      by_cases hz : z = 0
      · subst hz
        have HP1 := Lib.hid (HP1.out.trans (if_pos rfl))
        have h11 : B6 < w5.heap.size := (Array.getElem?_eq_some_iff.1 p6).1
        have gg0 := heap_cell p6 0 _ rfl
        have gg1 := heap_cell p6 1 _ rfl
        have gg2 := heap_cell p6 2 _ rfl
        have hbl9 := (Below.refl w5.heap.size w5).alloc (Nat.le_refl _) (.cells #[.slice b0 m0 e0, .slice b1 m1 e1, .slice b2 m2 e2] 31)
        have p6 := heap_on hbl9 p6
        have p4 := heap_on hbl9 p4
        have q8 := heap_on hbl9 q8
        have q9 := heap_on hbl9 q9
        have q11 := heap_push w5 (.cells #[.slice b0 m0 e0, .slice b1 m1 e1, .slice b2 m2 e2] 31)
        have hV := hV.on hbl9
        have hU := hU.on hbl9
        have hI := HP.out.none _ _ _ hI hbl9
        have hg := grow_none hg hbl9
        clear hbl9
        go_upto_region 8 with fail
        generalize (w5.alloc (.cells #[.slice b0 m0 e0, .slice b1 m1 e1, .slice b2 m2 e2] 31)) = w6 at p6 p4 q8 q9 q11 hV hU hI hg ⊢
        generalize w5.heap.size = B11 at q11 h11 ⊢
        clear gg0 gg1 gg2
        have dq9_0 := heap_cell q9 0 _ rfl
        have dq9_1 := heap_cell q9 1 _ rfl
        have dq9_2 := heap_cell q9 2 _ rfl
        go_upto_region 9 with (refine wpList_store_row rfl 31 (.tmp 6) (.tmp 32) rfl B6 #[.slice c0 f0 g0, .slice c1 f1 g1, .slice c2 f2 g2] rfl rfl _ _ p6 (by kernel_rfl) rfl (three_cells _ _ _ _ _ _ _ _ _) ?_)
        have hgr := row_grown w6 B6 #[.slice c0 f0 g0, .slice c1 f1 g1, .slice c2 f2 g2]
        have hU := hU.kept hgr (fun g hg => by injection hg with hg; subst hg; exact far_box hU p6)
        have hV := hV.kept hgr (fun g hg => by injection hg with hg; subst hg; exact far_box hV p6)
        have hI := HP.out.box _ _ _ B6 _ _ _ _ _ _ _ _ _ hI (by omega) p6 hgr
        have r6 := setRow_heap w6 B6 _ #[.slice c0 f0 g0, .slice c1 f1 g1, .slice c2 f2 g2] _ _ p6
        have n8 : B8 ≠ B6 := fun e => by subst e; rw [p6] at q8; injection q8 with q8; injection q8 with q8 _ _; cases q8
        have n11 : B11 ≠ B6 := by omega
        have p4 := heap_kept hgr p4 (by intro e; injection e with e; omega)
        have q8 := heap_kept hgr q8 (by intro e; injection e with e; exact n8 e.symm)
        have q11 := heap_kept hgr q11 (by intro e; injection e with e; exact n11 e.symm)
        have hg := grow_more hg hgr (fun j hj => .inr (by injection hj with hj; omega))
        clear hgr p6 q9 dq9_0 dq9_1 dq9_2
        generalize w6.setRow B6 #[.slice c0 f0 g0, .slice c1 f1 g1, .slice c2 f2 g2] = w7 at r6 p4 q8 q11 hU hV hI hg ⊢
        have dr6_0 := heap_cell r6 0 _ rfl
        have dr6_1 := heap_cell r6 1 _ rfl
        have dr6_2 := heap_cell r6 2 _ rfl
        have dq8_0 := heap_cell q8 0 _ rfl
        have dq8_1 := heap_cell q8 1 _ rfl
        have dq8_2 := heap_cell q8 2 _ rfl
        have dq8_3 := heap_cell q8 3 _ rfl
        have dq8_4 := heap_cell q8 4 _ rfl
        have dq8_5 := heap_cell q8 5 _ rfl
        have dq11_0 := heap_cell q11 0 _ rfl
        have dq11_1 := heap_cell q11 1 _ rfl
        have dq11_2 := heap_cell q11 2 _ rfl
        go_wp2_with fail
        refine (HCL.out c0 f0 g0 c1 f1 g1 c2 f2 g2 w7 hg hI HXO.out trivial HXW.out hV hU).mono ?_
        rintro e w8 ⟨rfl, hI, hg8, hU⟩
        have r6 := heap_kept hg8 r6 (fun e => by have := hrow _ e; omega)
        have p4 := heap_kept hg8 p4 (fun e => by have := hrow _ e; omega)
        have hg := grow_more hg hg8 (fun j hj => .inl hj)
        clear hg8 hV dr6_0 dr6_1 dr6_2 dq8_0 dq8_1 dq8_2 dq8_3 dq8_4 dq8_5 dq11_0 dq11_1 dq11_2 q8 q11
        go_wp2_with fail
        go_roundg (m - (i + 1))
        case rel => exact ⟨i + 1, c0, f0, g0, c1, f1, g1, c2, f2, g2, by go_num, by omega, by omega, r6, by rw [HP1.out]; exact hU, by rw [HP1.out]; exact hI, p4, hg⟩
        case measure => omega
      · have zf1 : (z == 0) = false := by simp only [beq_eq_false_iff_ne, ne_eq]; exact hz
        have HP1 := Lib.hid (HP1.out.trans (if_neg hz))
        go_wp2_with fail
        go_roundg (m - (i + 1))
        case rel => exact ⟨i + 1, b0, m0, e0, b1, m1, e1, b2, m2, e2, by go_num, by omega, by omega, p6, by rw [HP1.out]; exact hV, by rw [HP1.out]; exact hI, p4, hg⟩
        case measure => omega
    · obtain rfl : i = m := by omega
      have dp6_0 := heap_cell p6 0 _ rfl
      have dp6_1 := heap_cell p6 1 _ rfl
      have dp6_2 := heap_cell p6 2 _ rfl
      go_wp2_with (refine wpList_store_row rfl 31 (.tmp 4) (.tmp 41) rfl w.heap.size #[.slice b0 m0 e0, .slice b1 m1 e1, .slice b2 m2 e2] rfl rfl _ _ p4 (by kernel_rfl) rfl (three_cells _ _ _ _ _ _ _ _ _) ?_)
      have hgr := row_grown wr w.heap.size #[.slice b0 m0 e0, .slice b1 m1 e1, .slice b2 m2 e2]
      refine bodyPost_ret (results_row_tmp rfl _ _ w.heap.size _ _ _ _ rfl (setRow_heap _ _ _ _ _ _ p4) Tryd.underlying31 rfl (by kernel_rfl)) rfl ?_
      exact ⟨_, _, _, _, _, _, _, _, _, rfl, hV.kept hgr (fun g hg => by injection hg with hg; subst hg; exact far_box hV p4), HP.out.box _ _ _ w.heap.size _ _ _ _ _ _ _ _ _ hI (Nat.le_refl _) p4 hgr, grow_more hg hgr (fun j hj => .inr (by injection hj with hj; omega))⟩

end Go.Proofs.YtnemiobgmdpnmagDoor
