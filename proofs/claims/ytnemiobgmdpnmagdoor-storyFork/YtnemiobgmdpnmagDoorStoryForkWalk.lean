/-
  StoryFork's walk: of whatever script and entries it answers true.
-/
import Derived.Test.YtnemiobgmdpnmagDoorTelling
import Derived.Test.YtnemiobgmdpnmagDoorPlayedFork
import Derived.Deep.DeepCutAuto
namespace Go.Proofs.YtnemiobgmdpnmagDoor
open Go Go.RowKit

theorem forkStep_any (a0 : Option Addr) (n0 c0 : Nat) (a1 : Option Addr) (n1 c1 : Nat) (a2 : Option Addr) (n2 c2 : Nat) (b0 : Option Addr) (m0 e0 : Nat) (b1 : Option Addr) (m1 e1 : Nat) (b2 : Option Addr) (m2 e2 : Nat) (x : HapB) (w : World) : Calls Tryd.prog 8 #[.agg #[.slice a0 n0 c0, .slice a1 n1 c1, .slice a2 n2 c2], .agg #[.slice b0 m0 e0, .slice b1 m1 e1, .slice b2 m2 e2], .agg #[.int .i64 x.kind, .int .i64 x.side, .int .i64 x.who, .int .i64 x.other, .int .i64 x.e.1, .string x.e.2]] w fun e w' => e = .returned (.bool true) ∧ Below w.heap.size w w' := by
  have hb0 := below3 w (.cells #[.slice a0 n0 c0, .slice a1 n1 c1, .slice a2 n2 c2] 31) (.cells #[.slice b0 m0 e0, .slice b1 m1 e1, .slice b2 m2 e2] 31) (.cells #[.int .i64 x.kind, .int .i64 x.side, .int .i64 x.who, .int .i64 x.other, .int .i64 x.e.1, .string x.e.2] 35)
  go_enter Tryd.func8, Tryd.ntmps8
  go_wp2_with fail
  go_ret
  exact ⟨rfl, hb0⟩
theorem fork_plays (w : World) : Plays w none (fun _ => True) 8 (fun x y z => #[x, y, z]) (fun _ _ => True) :=
  ⟨trivial, fun _ _ _ _ _ => trivial, fun _ _ _ _ _ _ _ _ _ _ _ _ _ _ _ _ _ => trivial, fun _ x a0 n0 c0 a1 n1 c1 a2 n2 c2 b0 m0 e0 b1 m1 e1 b2 m2 e2 w1 _ _ _ _ _ _ hY =>
    (forkStep_any a0 n0 c0 a1 n1 c1 a2 n2 c2 b0 m0 e0 b1 m1 e1 b2 m2 e2 x w1).mono fun _ _ ⟨he, hb⟩ => ⟨he, trivial, below_grown hb none, hY.on hb⟩⟩
theorem below_row {w w' : World} (h : w.grownBy w' none) : Below w.heap.size w w' := ⟨h.os, h.tape, h.output, h.size, fun k hk => h.block k hk (fun e => by cases e)⟩
/- Two entries in a row: one of them. -/
theorem run_pair0 (x y : EntB) (w : World) : (Instr.index 43 (.agg #[.int .i64 x.1, .string x.2, .int .i64 y.1, .string y.2]) (.int .i64 0)).run Tryd.prog w = .ok (.agg #[.int .i64 x.1, .string x.2]) w := by
  simp [Instr.index, asIntOf, run_underlying Tryd.underlying43, part, Tryd.sizeOf24, Tryd.isAgg24]
theorem run_pair1 (x y : EntB) (w : World) : (Instr.index 43 (.agg #[.int .i64 x.1, .string x.2, .int .i64 y.1, .string y.2]) (.int .i64 1)).run Tryd.prog w = .ok (.agg #[.int .i64 y.1, .string y.2]) w := by
  simp [Instr.index, asIntOf, run_underlying Tryd.underlying43, part, Tryd.sizeOf24, Tryd.isAgg24]
/- A fork, an entry put in each of the books. -/
theorem do_fork {W : WB} (hG : worldE W = 0) : doV W ⟨2, 0, 0, 0, (0, ⟨#[]⟩)⟩ = ({ W with b1 := W.b0 }, 0) := by
  rw [doV_hap hG]
  exact hapV_fork (W := W) (s := 0) (j := 0) (i := 0) (e := (0, ⟨#[]⟩)) (by decide) (by decide) (by decide)
theorem fork_good {W : WB} (hG : worldE W = 0) : worldE { W with b1 := W.b0 } = 0 := by
  have h : (doV W ⟨2, 0, 0, 0, (0, ⟨#[]⟩)⟩).2 = 0 := by rw [do_fork hG]
  have := (keeps_do h).good
  rwa [do_fork hG] at this
theorem do_put {W : WB} (hG : worldE W = 0) {s : Nat} (hs : s < 2) (e : EntB) (h : (doV W ⟨1, s, 0, 0, e⟩).2 = 0) : (doV W ⟨1, s, 0, 0, e⟩).1 = setSide W s (sideL W s ++ [e]) := by
  rw [doV_hap hG] at h ⊢
  have e1 : hapV W ⟨1, s, 0, 0, e⟩ = _ := hapV_put (W := W) (s := s) (j := 0) (i := 0) (e := e) hs (by decide) (by decide)
  rw [e1] at h ⊢
  by_cases hz : bookE (sideL W s ++ [e]) = 0
  · rw [if_neg (fun hh => hh hz)]
  · rw [if_pos hz] at h; exact absurd h hz
theorem put_both {W : WB} {l : List EntB} (h0 : W.b0 = l) (h1 : W.b1 = l) (x y : EntB) : splitN (setSide (setSide W ((0 : Nat) : Int) (sideL W ((0 : Nat) : Int) ++ [x])) ((1 : Nat) : Int) (sideL (setSide W ((0 : Nat) : Int) (sideL W ((0 : Nat) : Int) ++ [x])) ((1 : Nat) : Int) ++ [y])).b0
    (setSide (setSide W ((0 : Nat) : Int) (sideL W ((0 : Nat) : Int) ++ [x])) ((1 : Nat) : Int) (sideL (setSide W ((0 : Nat) : Int) (sideL W ((0 : Nat) : Int) ++ [x])) ((1 : Nat) : Int) ++ [y])).b1 = if x = y then l.length + 1 else l.length := by
  show splitN (W.b0 ++ [x]) (W.b1 ++ [y]) = _
  rw [h0, h1]
  exact split_snoc l x y

set_option maxHeartbeats 16000000 in
set_option maxRecDepth 100000 in
theorem storyFork_walk (l : List HapB) (a : Option Addr) (k c : Nat) (xe : Int) (xv : ByteArray) (ye : Int) (yv : ByteArray) (w : World) (hE : Tab w) (hk : l.length = k) (hL : HapsAt w a c l) (hx : WideEnt (xe, xv)) (hy : WideEnt (ye, yv)) :
    Calls Tryd.prog 3 #[.slice a k c, .agg #[.int .i64 xe, .string xv], .agg #[.int .i64 ye, .string yv]] w fun e w' => e = .returned (.bool true) ∧ Below w.heap.size w w' := by
  have hpl := fun w1 hE hL => played_fork none (fun _ => True) (fun _ _ => True) l a k c w1 (fork_plays w1) (fun j hj => by cases hj) hE hk (fun _ _ => trivial) hL
  have hGp := play_good (l.take 60) new_good
  generalize playW newW (l.take 60) = P at hpl hGp
  have HPL := Lib.hid hpl
  clear hpl
  have hf := fun a0 n0 c0 a1 n1 c1 a2 n2 c2 w1 hE hW => do_any P ⟨2, 0, 0, 0, (0, ⟨#[]⟩)⟩ a0 n0 c0 a1 n1 c1 a2 n2 c2 w1 hE hW (by decide)
  rw [do_fork hGp] at hf
  simp only at hf
  have hGq := fork_good hGp
  obtain ⟨Q, hQ⟩ : ∃ Q : WB, { P with b1 := P.b0 } = Q := ⟨_, rfl⟩
  have hQ0 : Q.b0 = P.b0 := by rw [← hQ]
  have hQ1 : Q.b1 = P.b0 := by rw [← hQ]
  rw [hQ] at hGq
  simp only [hQ] at hf
  clear hQ
  generalize P.b0 = L at hQ0 hQ1
  have h24 : L.length ≤ 24 := by have := ((worldE_iff Q).1 hGq).1.1; rw [hQ0] at this; exact this
  have hs1 := fun a0 n0 c0 a1 n1 c1 a2 n2 c2 w1 hW => split_any Q a0 n0 c0 a1 n1 c1 a2 n2 c2 w1 hW
  have eS : splitW Q = L.length := by rw [show splitW Q = splitN Q.b0 Q.b1 from if_pos hGq, hQ0, hQ1, split_self]
  rw [eS, hGq] at hs1
  clear eS
  have HF := Lib.hid hf
  have HS1 := Lib.hid hs1
  clear hf hs1
  obtain ⟨q4, q5, hb0⟩ := boxes2 w (.cells #[.int .i64 xe, .string xv] 24) (.cells #[.int .i64 ye, .string yv] 24)
  go_enter Tryd.func3, Tryd.ntmps3
  go_wp2_with fail
  generalize ((w.alloc (.cells #[.int .i64 xe, .string xv] 24)).alloc (.cells #[.int .i64 ye, .string yv] 24)) = w0 at q4 q5 hb0 ⊢
  refine (HPL.out w0 (fun w1 hg => hE.on (below_on hb0 (below_row hg))) (fun w1 hg => hL.on (below_on hb0 (below_row hg)))).mono ?_
  rintro e w1 ⟨a0, n0, c0, a1, n1, c1, a2, n2, c2, rfl, hP, _, hgr⟩
  have hb1 := below_row hgr
  clear hgr
  have q4 := heap_on hb1 q4
  have q5 := heap_on hb1 q5
  have hb1 := below_on hb0 hb1
  clear hb0 HPL
  have k4 := (Array.getElem?_eq_some_iff.1 q4).1
  have k5 := (Array.getElem?_eq_some_iff.1 q5).1
  have q4 := heap_old w1 (.cells #[.slice a0 n0 c0, .slice a1 n1 c1, .slice a2 n2 c2] 31) q4
  have q5 := heap_old w1 (.cells #[.slice a0 n0 c0, .slice a1 n1 c1, .slice a2 n2 c2] 31) q5
  have q7 := heap_push w1 (.cells #[.slice a0 n0 c0, .slice a1 n1 c1, .slice a2 n2 c2] 31)
  have hP := hP.on ((Below.refl _ w1).alloc (Nat.le_refl _) (.cells #[.slice a0 n0 c0, .slice a1 n1 c1, .slice a2 n2 c2] 31))
  have hb2 := hb1.alloc hb1.size (.cells #[.slice a0 n0 c0, .slice a1 n1 c1, .slice a2 n2 c2] 31)
  clear hb1
  go_wp2_with fail
  generalize (w1.alloc (.cells #[.slice a0 n0 c0, .slice a1 n1 c1, .slice a2 n2 c2] 31)) = w2 at q4 q5 q7 hP hb2 ⊢
  generalize w1.heap.size = B7 at q7 k4 k5 ⊢
  refine (telling_any w2 (hE.on hb2)).mono ?_
  rintro e w3 ⟨rfl, hb3⟩
  have q4 := heap_on hb3 q4
  have q5 := heap_on hb3 q5
  have q7 := heap_on hb3 q7
  have hP := hP.on hb3
  have hb3 := below_on hb2 hb3
  clear hb2
  have dq7_0 := heap_cell q7 0 _ rfl
  have dq7_1 := heap_cell q7 1 _ rfl
  have dq7_2 := heap_cell q7 2 _ rfl
  go_wp2_with fail
  refine (HF.out a0 n0 c0 a1 n1 c1 a2 n2 c2 w3 (hE.on hb3) hP).mono ?_
  rintro e w4 ⟨b0, m0, e0, b1, m1, e1, b2, m2, e2, rfl, hQW, hb4⟩
  have q4 := heap_on hb4 q4
  have q5 := heap_on hb4 q5
  have q7 := heap_on hb4 q7
  have hP := hP.on hb4
  have hb4 := below_on hb3 hb4
  clear hb3
  clear dq7_0 dq7_1 dq7_2
  clear hP HF
  have n7 : w.heap.size + 1 < B7 := by omega
  go_upto_region 5 with (refine wpList_store_row rfl 31 (.tmp 7) (.tmp 32) rfl B7 #[.slice b0 m0 e0, .slice b1 m1 e1, .slice b2 m2 e2] rfl rfl _ _ q7 (by kernel_rfl) rfl (three_cells _ _ _ _ _ _ _ _ _) ?_)
  have hgr := row_grown w4 B7 #[.slice b0 m0 e0, .slice b1 m1 e1, .slice b2 m2 e2]
  have hQW := hQW.kept hgr (fun g hg => by injection hg with hg; subst hg; exact far_box hQW q7)
  have hbz := below_setRow hb4 (g := B7) (by omega) #[.slice b0 m0 e0, .slice b1 m1 e1, .slice b2 m2 e2]
  have q4 := heap_kept hgr q4 (by intro e; injection e with e; omega)
  have q5 := heap_kept hgr q5 (by intro e; injection e with e; omega)
  have q7 := setRow_heap w4 B7 _ #[.slice b0 m0 e0, .slice b1 m1 e1, .slice b2 m2 e2] _ _ q7
  generalize w4.setRow B7 #[.slice b0 m0 e0, .slice b1 m1 e1, .slice b2 m2 e2] = wA at q4 q5 q7 hbz hQW ⊢
  clear hgr hb4
  have dq7_0 := heap_cell q7 0 _ rfl
  have dq7_1 := heap_cell q7 1 _ rfl
  have dq7_2 := heap_cell q7 2 _ rfl
  go_wp2_with fail
  refine (HS1.out b0 m0 e0 b1 m1 e1 b2 m2 e2 wA hQW).mono ?_
  rintro e w5 ⟨rfl, hb5⟩
  have q4 := heap_on hb5 q4
  have q5 := heap_on hb5 q5
  have q7 := heap_on hb5 q7
  have hQW := hQW.on hb5
  have hb5 := below_on hbz hb5
  clear hbz
  clear dq7_0 dq7_1 dq7_2
  have z0 := hQW.l0
  have z1 := hQW.l1
  rw [hQ0] at z0
  rw [hQ1] at z1
  subst z0
  subst z1
  have dq7_0 := heap_cell q7 0 _ rfl
  have dq7_1 := heap_cell q7 1 _ rfl
  have dq7_2 := heap_cell q7 2 _ rfl
  have d4_0 := heap_cell q4 0 _ rfl
  have d4_1 := heap_cell q4 1 _ rfl
  have d5_0 := heap_cell q5 0 _ rfl
  have d5_1 := heap_cell q5 1 _ rfl
  have hgg : ((L.length : Int) == (L.length : Int)) = true := by simp
  go_wp2_with fail
  clear dq7_0 dq7_1 dq7_2
  clear d4_0 d4_1 d5_0 d5_1 hgg HS1
  obtain ⟨wL, hwL⟩ : ∃ x, x = w5 := ⟨_, rfl⟩
  subst hwL
  go_loopg [66] 2 (fun gh s66 wr => ∃ (V : WB) (b0 : Option Addr) (m0 e0 : Nat) (b1 : Option Addr) (m1 e1 : Nat) (b2 : Option Addr) (m2 e2 : Nat), wr.heap[B7]? = some (.cells #[.slice b0 m0 e0, .slice b1 m1 e1, .slice b2 m2 e2] 31) ∧ WAt wr b0 m0 e0 b1 m1 e1 b2 m2 e2 V ∧ wr.heap[w.heap.size]? = some (.cells #[.int .i64 xe, .string xv] 24) ∧ wr.heap[w.heap.size + 1]? = some (.cells #[.int .i64 ye, .string yv] 24) ∧ Below w.heap.size w wr ∧ worldE V = 0 ∧ ((s66 = .int .i64 0 ∧ 2 ≤ gh ∧ V = Q) ∨ (s66 = .int .i64 1 ∧ 1 ≤ gh ∧ V = setSide Q ((0 : Nat) : Int) (sideL Q ((0 : Nat) : Int) ++ [(xe, xv)])) ∨ (s66 = .int .i64 2 ∧ V = setSide (setSide Q ((0 : Nat) : Int) (sideL Q ((0 : Nat) : Int) ++ [(xe, xv)])) ((1 : Nat) : Int) (sideL (setSide Q ((0 : Nat) : Int) (sideL Q ((0 : Nat) : Int) ++ [(xe, xv)])) ((1 : Nat) : Int) ++ [(ye, yv)]))))
  case atStart => exact ⟨Q, b0, L.length, e0, b1, L.length, e1, b2, m2, e2, q7, hQW, q4, q5, hb5, hGq, .inl ⟨rfl, Nat.le_refl _, rfl⟩⟩
  case round =>
    clear q7 hQW q4 q5 hb5
    obtain ⟨V, b0, m0, e0, b1, m1, e1, b2, m2, e2, q7, hV, q4, q5, hb, hGV, hrel⟩ := hrel
    rcases hrel with ⟨rfl, hgh, hVe⟩ | ⟨rfl, hgh, hVe⟩ | ⟨rfl, hVe⟩
    · have hix := fun w1 => run_pair0 (xe, xv) (ye, yv) w1
      simp only at hix
      have hpt := fun h => do_put (W := V) hGV (s := 0) (by decide) (xe, xv) h
      have hgd := fun h => (keeps_do (W := V) (x := ⟨1, (0 : Nat), 0, 0, (xe, xv)⟩) h).good
      have hd := fun w1 hE hW => do_any V ⟨1, (0 : Nat), 0, 0, (xe, xv)⟩ b0 m0 e0 b1 m1 e1 b2 m2 e2 w1 hE hW ⟨by simp only; omega, by simp only; omega, by simp only; omega, by simp only; omega, hx⟩
      generalize doV V ⟨1, ((0 : Nat) : Int), 0, 0, (xe, xv)⟩ = R at hd hpt hgd
      obtain ⟨Y, z⟩ := R
      simp only at hd hpt hgd
      have HD := Lib.hid hd
      have HPT := Lib.hid hpt
      have HGD := Lib.hid hgd
      clear hd hpt hgd
      have k7 := (Array.getElem?_eq_some_iff.1 q7).1
      have hbl := (Below.refl wr.heap.size wr).alloc (Nat.le_refl _) (.cells #[.int .i64 xe, .string xv] 24)
      have q4 := heap_on hbl q4
      have q5 := heap_on hbl q5
      have q7 := heap_on hbl q7
      have q13 := heap_push wr (.cells #[.int .i64 xe, .string xv] 24)
      have hV := hV.on hbl
      have hb := below_on hb hbl
      clear hbl
      have d7_0 := heap_cell q7 0 _ rfl
      have d7_1 := heap_cell q7 1 _ rfl
      have d7_2 := heap_cell q7 2 _ rfl
      have d13_0 := heap_cell q13 0 _ rfl
      have d13_1 := heap_cell q13 1 _ rfl
      go_wp2_with fail
      generalize (wr.alloc (.cells #[.int .i64 xe, .string xv] 24)) = w3 at q4 q5 q7 q13 hV hb d7_0 d7_1 d7_2 d13_0 d13_1 ⊢
      generalize wr.heap.size = B13 at q13 k7 d13_0 d13_1 ⊢
      refine (HD.out w3 (hE.on hb) hV).mono ?_
      rintro e w4 ⟨g0, h0, i0, g1, h1, i1, g2, h2, i2, rfl, hU, hb4⟩
      have q4 := heap_on hb4 q4
      have q5 := heap_on hb4 q5
      have q7 := heap_on hb4 q7
      have hb := below_on hb hb4
      clear hb4 hV q13 d7_0 d7_1 d7_2 d13_0 d13_1 HD hix k7
      have hbl := (Below.refl w4.heap.size w4).alloc (Nat.le_refl _) (.cells #[.slice g0 h0 i0, .slice g1 h1 i1, .slice g2 h2 i2] 31)
      have q4 := heap_on hbl q4
      have q5 := heap_on hbl q5
      have q7 := heap_on hbl q7
      have q14 := heap_push w4 (.cells #[.slice g0 h0 i0, .slice g1 h1 i1, .slice g2 h2 i2] 31)
      have hU := hU.on hbl
      have hb := below_on hb hbl
      clear hbl
      go_upto_region 12 with fail
      generalize (w4.alloc (.cells #[.slice g0 h0 i0, .slice g1 h1 i1, .slice g2 h2 i2] 31)) = w5 at q4 q5 q7 q14 hU hb ⊢
      generalize w4.heap.size = B14 at q14 ⊢
      by_cases hz : z = 0
      · have hYe := HPT.out hz
        have hGY := HGD.out hz
        subst hz
        clear HPT HGD
        have d14_0 := heap_cell q14 0 _ rfl
        have d14_1 := heap_cell q14 1 _ rfl
        have d14_2 := heap_cell q14 2 _ rfl
        go_upto_region 15 with (refine wpList_store_row rfl 31 (.tmp 7) (.tmp 80) rfl B7 #[.slice g0 h0 i0, .slice g1 h1 i1, .slice g2 h2 i2] rfl rfl _ _ q7 (by kernel_rfl) rfl (three_cells _ _ _ _ _ _ _ _ _) ?_)
        have hgr := row_grown w5 B7 #[.slice g0 h0 i0, .slice g1 h1 i1, .slice g2 h2 i2]
        have hU := hU.kept hgr (fun g hg => by injection hg with hg; subst hg; exact far_box hU q7)
        have hbz := below_setRow hb (g := B7) (by omega) #[.slice g0 h0 i0, .slice g1 h1 i1, .slice g2 h2 i2]
        have q4 := heap_kept hgr q4 (by intro e; injection e with e; omega)
        have q5 := heap_kept hgr q5 (by intro e; injection e with e; omega)
        have q7 := setRow_heap w5 B7 _ #[.slice g0 h0 i0, .slice g1 h1 i1, .slice g2 h2 i2] _ _ q7
        generalize w5.setRow B7 #[.slice g0 h0 i0, .slice g1 h1 i1, .slice g2 h2 i2] = w6 at q4 q5 q7 hU hbz ⊢
        clear hgr hb q14 d14_0 d14_1 d14_2
        have HYE := Lib.hid hYe
        have HGY := Lib.hid hGY
        clear hYe hGY
        go_wp2_with fail
        go_roundg 1
        case rel => exact ⟨Y, g0, h0, i0, g1, h1, i1, g2, h2, i2, q7, hU, q4, q5, hbz, HGY.out, .inr (.inl ⟨by go_num, Nat.le_refl _, by rw [HYE.out, hVe]⟩)⟩
        case measure => omega
      · have zf1 : (z == 0) = false := by simp only [beq_eq_false_iff_ne, ne_eq]; exact hz
        clear HPT HGD hz
        go_wp2_with fail
        go_ret
        exact ⟨rfl, hb⟩
    · have hix := fun w1 => run_pair1 (xe, xv) (ye, yv) w1
      simp only at hix
      have hpt := fun h => do_put (W := V) hGV (s := 1) (by decide) (ye, yv) h
      have hgd := fun h => (keeps_do (W := V) (x := ⟨1, (1 : Nat), 0, 0, (ye, yv)⟩) h).good
      have hd := fun w1 hE hW => do_any V ⟨1, (1 : Nat), 0, 0, (ye, yv)⟩ b0 m0 e0 b1 m1 e1 b2 m2 e2 w1 hE hW ⟨by simp only; omega, by simp only; omega, by simp only; omega, by simp only; omega, hy⟩
      generalize doV V ⟨1, ((1 : Nat) : Int), 0, 0, (ye, yv)⟩ = R at hd hpt hgd
      obtain ⟨Y, z⟩ := R
      simp only at hd hpt hgd
      have HD := Lib.hid hd
      have HPT := Lib.hid hpt
      have HGD := Lib.hid hgd
      clear hd hpt hgd
      have k7 := (Array.getElem?_eq_some_iff.1 q7).1
      have hbl := (Below.refl wr.heap.size wr).alloc (Nat.le_refl _) (.cells #[.int .i64 ye, .string yv] 24)
      have q4 := heap_on hbl q4
      have q5 := heap_on hbl q5
      have q7 := heap_on hbl q7
      have q13 := heap_push wr (.cells #[.int .i64 ye, .string yv] 24)
      have hV := hV.on hbl
      have hb := below_on hb hbl
      clear hbl
      have d7_0 := heap_cell q7 0 _ rfl
      have d7_1 := heap_cell q7 1 _ rfl
      have d7_2 := heap_cell q7 2 _ rfl
      have d13_0 := heap_cell q13 0 _ rfl
      have d13_1 := heap_cell q13 1 _ rfl
      go_wp2_with fail
      generalize (wr.alloc (.cells #[.int .i64 ye, .string yv] 24)) = w3 at q4 q5 q7 q13 hV hb d7_0 d7_1 d7_2 d13_0 d13_1 ⊢
      generalize wr.heap.size = B13 at q13 k7 d13_0 d13_1 ⊢
      refine (HD.out w3 (hE.on hb) hV).mono ?_
      rintro e w4 ⟨g0, h0, i0, g1, h1, i1, g2, h2, i2, rfl, hU, hb4⟩
      have q4 := heap_on hb4 q4
      have q5 := heap_on hb4 q5
      have q7 := heap_on hb4 q7
      have hb := below_on hb hb4
      clear hb4 hV q13 d7_0 d7_1 d7_2 d13_0 d13_1 HD hix k7
      have hbl := (Below.refl w4.heap.size w4).alloc (Nat.le_refl _) (.cells #[.slice g0 h0 i0, .slice g1 h1 i1, .slice g2 h2 i2] 31)
      have q4 := heap_on hbl q4
      have q5 := heap_on hbl q5
      have q7 := heap_on hbl q7
      have q14 := heap_push w4 (.cells #[.slice g0 h0 i0, .slice g1 h1 i1, .slice g2 h2 i2] 31)
      have hU := hU.on hbl
      have hb := below_on hb hbl
      clear hbl
      go_upto_region 12 with fail
      generalize (w4.alloc (.cells #[.slice g0 h0 i0, .slice g1 h1 i1, .slice g2 h2 i2] 31)) = w5 at q4 q5 q7 q14 hU hb ⊢
      generalize w4.heap.size = B14 at q14 ⊢
      by_cases hz : z = 0
      · have hYe := HPT.out hz
        have hGY := HGD.out hz
        subst hz
        clear HPT HGD
        have d14_0 := heap_cell q14 0 _ rfl
        have d14_1 := heap_cell q14 1 _ rfl
        have d14_2 := heap_cell q14 2 _ rfl
        go_upto_region 15 with (refine wpList_store_row rfl 31 (.tmp 7) (.tmp 80) rfl B7 #[.slice g0 h0 i0, .slice g1 h1 i1, .slice g2 h2 i2] rfl rfl _ _ q7 (by kernel_rfl) rfl (three_cells _ _ _ _ _ _ _ _ _) ?_)
        have hgr := row_grown w5 B7 #[.slice g0 h0 i0, .slice g1 h1 i1, .slice g2 h2 i2]
        have hU := hU.kept hgr (fun g hg => by injection hg with hg; subst hg; exact far_box hU q7)
        have hbz := below_setRow hb (g := B7) (by omega) #[.slice g0 h0 i0, .slice g1 h1 i1, .slice g2 h2 i2]
        have q4 := heap_kept hgr q4 (by intro e; injection e with e; omega)
        have q5 := heap_kept hgr q5 (by intro e; injection e with e; omega)
        have q7 := setRow_heap w5 B7 _ #[.slice g0 h0 i0, .slice g1 h1 i1, .slice g2 h2 i2] _ _ q7
        generalize w5.setRow B7 #[.slice g0 h0 i0, .slice g1 h1 i1, .slice g2 h2 i2] = w6 at q4 q5 q7 hU hbz ⊢
        clear hgr hb q14 d14_0 d14_1 d14_2
        have HYE := Lib.hid hYe
        have HGY := Lib.hid hGY
        clear hYe hGY
        go_wp2_with fail
        go_roundg 0
        case rel => exact ⟨Y, g0, h0, i0, g1, h1, i1, g2, h2, i2, q7, hU, q4, q5, hbz, HGY.out, .inr (.inr ⟨by go_num, by rw [HYE.out, hVe]⟩)⟩
        case measure => omega
      · have zf1 : (z == 0) = false := by simp only [beq_eq_false_iff_ne, ne_eq]; exact hz
        clear HPT HGD hz
        go_wp2_with fail
        go_ret
        exact ⟨rfl, hb⟩
    · have hsp := put_both hQ0 hQ1 (xe, xv) (ye, yv)
      rw [← hVe] at hsp
      have hs2 := fun w1 hW => split_any V b0 m0 e0 b1 m1 e1 b2 m2 e2 w1 hW
      rw [show splitW V = splitN V.b0 V.b1 from if_pos hGV, hsp, hGV] at hs2
      have d7_0 := heap_cell q7 0 _ rfl
      have d7_1 := heap_cell q7 1 _ rfl
      have d7_2 := heap_cell q7 2 _ rfl
      go_wp2_with fail
      refine (hs2 wr hV).mono ?_
      rintro e w3 ⟨rfl, hb3⟩
      have q4 := heap_on hb3 q4
      have q5 := heap_on hb3 q5
      have hb := below_on hb hb3
      clear hs2 hsp hb3 d7_0 d7_1 d7_2 hVe
      have d4_0 := heap_cell q4 0 _ rfl
      have d4_1 := heap_cell q4 1 _ rfl
      have d5_0 := heap_cell q5 0 _ rfl
      have d5_1 := heap_cell q5 1 _ rfl
      by_cases h1 : xe = ye
      · by_cases h2 : xv = yv
        · subst h1
          subst h2
          rw [if_pos (rfl : (xe, xv) = (xe, xv))]
          clear hx hy hQ0 hQ1
          go_wp2_with fail
          go_ret
          exact ⟨rfl, hb⟩
        · subst h1
          rw [if_neg (fun h => h2 (congrArg Prod.snd h))]
          have t2 := str_ne h2
          clear hx hy hQ0 hQ1
          go_wp2_with fail
          go_ret
          exact ⟨rfl, hb⟩
      · rw [if_neg (fun h => h1 (congrArg Prod.fst h))]
        have t1 : (xe == ye) = false := by simp only [beq_eq_false_iff_ne, ne_eq]; exact h1
        have t4 : ((L.length : Int) == (L.length : Int)) = true := by simp
        go_wp2_with fail
        go_ret
        exact ⟨rfl, hb⟩

end Go.Proofs.YtnemiobgmdpnmagDoor
