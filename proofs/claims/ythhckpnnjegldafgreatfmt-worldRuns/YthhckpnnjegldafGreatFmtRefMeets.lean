/-
  Chapter 10's Same as the document's own reckoning has it.
-/
import Derived.Test.YthhckpnnjegldafGreatFmtMaths
import Derived.Test.YthhckpnnjegldafGreatFmtBooks
import Derived.Test.YthhckpnnjegldafGreatFmtRefNote
import Derived.Test.YthhckpnnjegldafGreatFmtGrowthShowsOf
import Derived.Deep.DeepCutAuto
import Derived.Deep.RegionHeld3
import Derived.Laws.CopyOwn
namespace Go.Proofs.YthhckpnnjegldafGreatFmt
open Go Go.RowKit Go.Kit Go.Extern.Stop Go.Stop Go.Extern

theorem below_two (w : World) (a b : Obj) : Below w.heap.size w ((w.alloc a).alloc b) := (boxes2 w a b).2.2
theorem row3 {w : World} {g : Nat} {x y z : Value} {t : TypeId} (h : w.heap[g]? = some (.cells #[x, y, z] t)) (u v s : Value) : ((w.setCell ⟨g, 0, none⟩ u).setCell ⟨g, 1, none⟩ v).setCell ⟨g, 2, none⟩ s = w.setRow g #[u, v, s] := by
  rw [setCell_eq_setRow w g 0 _ t _ u h]
  rw [setCell_eq_setRow _ g 1 _ t _ v (setRow_heap w g _ _ t _ h), setRow_setRow]
  rw [setCell_eq_setRow _ g 2 _ t _ s (setRow_heap w g _ _ t _ h), setRow_setRow]
  rfl

set_option maxHeartbeats 2000000 in
set_option maxRecDepth 100000 in
theorem meets_a (an : Int) (aa ab : ByteArray) (bn : Int) (ba bb : ByteArray) (a : Option Addr) (k c : Nat) (w : World) (z : Int) (hz : headE an aa ab = z) (h0 : z ≠ 0) :
    Calls Tryz.prog 34 #[.agg #[.int .i64 an, .string aa, .string ab], .agg #[.int .i64 bn, .string ba, .string bb], .slice a k c] w fun e w' => e = .returned (.int .i64 z) ∧ Below w.heap.size w w' := by
  have HA := Lib.hid (checkHead_any an aa ab)
  rw [hz] at HA
  have g1 : (z == 0) = false := by simp only [beq_eq_false_iff_ne, ne_eq]; exact h0
  clear hz
  obtain ⟨q3, q4, hb0⟩ := boxes2 w (.cells #[.int .i64 an, .string aa, .string ab] 53) (.cells #[.int .i64 bn, .string ba, .string bb] 53)
  have dq3_0 := heap_cell q3 0 _ rfl
  have dq3_1 := heap_cell q3 1 _ rfl
  have dq3_2 := heap_cell q3 2 _ rfl
  go_enter Tryz.func34, Tryz.ntmps34
  go_wp2_with fail
  generalize ((w.alloc (.cells #[.int .i64 an, .string aa, .string ab] 53)).alloc (.cells #[.int .i64 bn, .string ba, .string bb] 53)) = w0 at q3 q4 hb0 dq3_0 dq3_1 dq3_2 ⊢
  refine (HA.out w0).mono ?_
  rintro e w1 ⟨rfl, hb1⟩
  have q3 := heap_on hb1 q3
  have q4 := heap_on hb1 q4
  have hb1 := below_on hb0 hb1
  clear hb0
  clear dq3_0 dq3_1 dq3_2
  go_wp2_with fail
  go_ret
  exact ⟨rfl, hb1⟩

set_option maxHeartbeats 2000000 in
set_option maxRecDepth 100000 in
theorem meets_b (an : Int) (aa ab : ByteArray) (bn : Int) (ba bb : ByteArray) (a : Option Addr) (k c : Nat) (w : World) (ha : headE an aa ab = 0) (z : Int) (hz : headE bn ba bb = z) (h0 : z ≠ 0) :
    Calls Tryz.prog 34 #[.agg #[.int .i64 an, .string aa, .string ab], .agg #[.int .i64 bn, .string ba, .string bb], .slice a k c] w fun e w' => e = .returned (.int .i64 z) ∧ Below w.heap.size w w' := by
  have HA := Lib.hid (checkHead_any an aa ab)
  have HB := Lib.hid (checkHead_any bn ba bb)
  rw [ha] at HA
  rw [hz] at HB
  have g1 : (z == 0) = false := by simp only [beq_eq_false_iff_ne, ne_eq]; exact h0
  clear hz ha
  obtain ⟨q3, q4, hb0⟩ := boxes2 w (.cells #[.int .i64 an, .string aa, .string ab] 53) (.cells #[.int .i64 bn, .string ba, .string bb] 53)
  have dq3_0 := heap_cell q3 0 _ rfl
  have dq3_1 := heap_cell q3 1 _ rfl
  have dq3_2 := heap_cell q3 2 _ rfl
  go_enter Tryz.func34, Tryz.ntmps34
  go_wp2_with fail
  generalize ((w.alloc (.cells #[.int .i64 an, .string aa, .string ab] 53)).alloc (.cells #[.int .i64 bn, .string ba, .string bb] 53)) = w0 at q3 q4 hb0 dq3_0 dq3_1 dq3_2 ⊢
  refine (HA.out w0).mono ?_
  rintro e w1 ⟨rfl, hb1⟩
  have q3 := heap_on hb1 q3
  have q4 := heap_on hb1 q4
  have hb1 := below_on hb0 hb1
  clear hb0
  clear dq3_0 dq3_1 dq3_2
  have dq4_0 := heap_cell q4 0 _ rfl
  have dq4_1 := heap_cell q4 1 _ rfl
  have dq4_2 := heap_cell q4 2 _ rfl
  go_wp2_with fail
  refine (HB.out w1).mono ?_
  rintro e w2 ⟨rfl, hb2⟩
  have q3 := heap_on hb2 q3
  have q4 := heap_on hb2 q4
  have hb2 := below_on hb1 hb2
  clear hb1
  clear dq4_0 dq4_1 dq4_2
  go_wp2_with fail
  go_ret
  exact ⟨rfl, hb2⟩

set_option maxHeartbeats 2000000 in
set_option maxRecDepth 100000 in
theorem meets_ok (I : Interp) (an : Int) (aa ab : ByteArray) (bn : Int) (ba bb : ByteArray) (x : List ByteArray) (a : Option Addr) (k c : Nat) (w : World) (hF : I.told.answers w.tape) (hk : x.length = k) (hS : StrsAt w a c x) (hbig : ∀ s ∈ x, s.size ≤ 140737488355328) (ha : headE an aa ab = 0) (hb : headE bn ba bb = 0) :
    Calls Tryz.prog 34 #[.agg #[.int .i64 an, .string aa, .string ab], .agg #[.int .i64 bn, .string ba, .string bb], .slice a k c] w fun e w' => e = .returned (.int .i64 (meetE an aa ab bn ba bb x)) ∧ Below w.heap.size w w' := by
  have HA := Lib.hid (checkHead_any an aa ab)
  have HB := Lib.hid (checkHead_any bn ba bb)
  rw [ha] at HA
  rw [hb] at HB
  have HL := Lib.hid (fun h => meet_less (l := x) ha hb h)
  have HM := Lib.hid (fun h => meet_more (l := x) ha hb h)
  obtain ⟨_, _, ha3, _⟩ := (headE_iff an aa ab).1 ha
  obtain ⟨_, _, hb3, _⟩ := (headE_iff bn ba bb).1 hb
  have HG1 := Lib.hid (fun w hF hS => growthShows_any I aa an ba bn x a k c w hF (by omega) hbig hk hS)
  have HG2 := Lib.hid (fun w hF hS => growthShows_any I ba bn aa an x a k c w hF (by omega) hbig hk hS)
  clear ha hb ha3 hb3 hbig
  have hcap := hS.cap
  have hmax := hS.max
  obtain ⟨q3, q4, hb0⟩ := boxes2 w (.cells #[.int .i64 an, .string aa, .string ab] 53) (.cells #[.int .i64 bn, .string ba, .string bb] 53)
  have dq3_0 := heap_cell q3 0 _ rfl
  have dq3_1 := heap_cell q3 1 _ rfl
  have dq3_2 := heap_cell q3 2 _ rfl
  go_enter Tryz.func34, Tryz.ntmps34
  go_wp2_with fail
  generalize ((w.alloc (.cells #[.int .i64 an, .string aa, .string ab] 53)).alloc (.cells #[.int .i64 bn, .string ba, .string bb] 53)) = w0 at q3 q4 hb0 dq3_0 dq3_1 dq3_2 ⊢
  refine (HA.out w0).mono ?_
  rintro e w1 ⟨rfl, hb1⟩
  have q3 := heap_on hb1 q3
  have q4 := heap_on hb1 q4
  have hb1 := below_on hb0 hb1
  clear hb0
  clear dq3_0 dq3_1 dq3_2
  have dq4_0 := heap_cell q4 0 _ rfl
  have dq4_1 := heap_cell q4 1 _ rfl
  have dq4_2 := heap_cell q4 2 _ rfl
  go_wp2_with fail
  refine (HB.out w1).mono ?_
  rintro e w2 ⟨rfl, hb2⟩
  have q3 := heap_on hb2 q3
  have q4 := heap_on hb2 q4
  have hb2 := below_on hb1 hb2
  clear hb1
  clear dq4_0 dq4_1 dq4_2
  go_upto_region 7 with fail
  have k3 := (Array.getElem?_eq_some_iff.1 q3).1
  have k4 := (Array.getElem?_eq_some_iff.1 q4).1
  go_cut [9, 10] (fun s t w' => ∃ g h, s = .pointer (some ⟨g, 0, none⟩) ∧ t = .pointer (some ⟨h, 0, none⟩) ∧ g ≠ h ∧ w2.heap.size ≤ g ∧ w2.heap.size ≤ h ∧ w'.heap[g]? = some (.cells #[.int .i64 an, .string aa, .string ab] 53) ∧ w'.heap[h]? = some (.cells #[.int .i64 bn, .string ba, .string bb] 53) ∧ Below w2.heap.size w2 w')
  case first =>
    have dq3_0 := heap_cell q3 0 _ rfl
    have dq3_1 := heap_cell q3 1 _ rfl
    have dq3_2 := heap_cell q3 2 _ rfl
    have dq4_0 := heap_cell q4 0 _ rfl
    have dq4_1 := heap_cell q4 1 _ rfl
    have dq4_2 := heap_cell q4 2 _ rfl
    go_region
    all_goals
      go_wp2_with fail
      go_meet
      case rel => first
        | exact ⟨w2.heap.size, w2.heap.size + 1, rfl, rfl, by omega, by omega, by omega, (boxes2 w2 (.cells #[.int .i64 an, .string aa, .string ab] 53) (.cells #[.int .i64 bn, .string ba, .string bb] 53)).1, (boxes2 w2 (.cells #[.int .i64 an, .string aa, .string ab] 53) (.cells #[.int .i64 bn, .string ba, .string bb] 53)).2.1, (below_two w2 (.cells #[.int .i64 an, .string aa, .string ab] 53) (.cells #[.int .i64 bn, .string ba, .string bb] 53)).drew⟩
        | exact ⟨w2.heap.size + 1, w2.heap.size, rfl, rfl, by omega, by omega, by omega, (boxes2 w2 (.cells #[.int .i64 bn, .string ba, .string bb] 53) (.cells #[.int .i64 an, .string aa, .string ab] 53)).2.1, (boxes2 w2 (.cells #[.int .i64 bn, .string ba, .string bb] 53) (.cells #[.int .i64 an, .string aa, .string ab] 53)).1, (below_two w2 (.cells #[.int .i64 bn, .string ba, .string bb] 53) (.cells #[.int .i64 an, .string aa, .string ab] 53)).drew⟩
  case rest =>
    obtain ⟨g, h, rfl, rfl, hgh, k9, k10, q9, q10, hbc⟩ := hcut
    obtain ⟨w3, hw3⟩ : ∃ x, x = wc := ⟨_, rfl⟩
    subst hw3
    have q3 := heap_on hbc q3
    have q4 := heap_on hbc q4
    have hb3 := below_on hb2 hbc
    have j3 : g ≠ w.heap.size := by omega
    have j4 : g ≠ w.heap.size + 1 := by omega
    have i3 : h ≠ w.heap.size := by omega
    have i4 : h ≠ w.heap.size + 1 := by omega
    have g0 : w.heap.size ≤ g := by omega
    have h0 : w.heap.size ≤ h := by omega
    clear hbc k3 k4 k9 k10 hb2
    by_cases hl : bn < an
    · clear HM HG1
      have dq3_0 := heap_cell q3 0 _ rfl
      have dq4_0 := heap_cell q4 0 _ rfl
      go_upto_region 9 with fail
      clear dq3_0 dq4_0
      go_cut [] (fun w' => w'.heap[g]? = some (.cells #[.int .i64 bn, .string ba, .string bb] 53) ∧ w'.heap[h]? = some (.cells #[.int .i64 an, .string aa, .string ab] 53) ∧ Below w.heap.size w w')
      case first =>
        have x0 := heap_cell q3 0 _ rfl
        have x1 := heap_cell q3 1 _ rfl
        have x2 := heap_cell q3 2 _ rfl
        have y0 := heap_cell q4 0 _ rfl
        have y1 := heap_cell q4 1 _ rfl
        have y2 := heap_cell q4 2 _ rfl
        have e9 := row3 q9 (.int .i64 bn) (.string ba) (.string bb)
        have r10 : (((w3.setCell ⟨g, 0, none⟩ (.int .i64 bn)).setCell ⟨g, 1, none⟩ (.string ba)).setCell ⟨g, 2, none⟩ (.string bb)).heap[h]? = some (.cells #[.int .i64 bn, .string ba, .string bb] 53) := by rw [e9]; exact (setRow_other w3 g h _ (Ne.symm hgh)).trans q10
        have e10 := (row3 r10 (.int .i64 an) (.string aa) (.string ab)).trans (by rw [e9])
        have E10 := Lib.hid e10
        have t0 := heap_cell q9 0 _ rfl
        have t1 := heap_cell q9 1 _ rfl
        have t2 := heap_cell q9 2 _ rfl
        have t3 := frozen_of_row w3 g 0 _ _ q9
        have t4 := frozen_of_row w3 g 1 _ _ q9
        have t5 := frozen_of_row w3 g 2 _ _ q9
        have s0 := heap_cell q10 0 _ rfl
        have s1 := heap_cell q10 1 _ rfl
        have s2 := heap_cell q10 2 _ rfl
        have s3 := frozen_of_row w3 h 0 _ _ q10
        have s4 := frozen_of_row w3 h 1 _ _ q10
        have s5 := frozen_of_row w3 h 2 _ _ q10
        clear e9 e10 r10
        go_region
        all_goals
          go_wp2_with fail
          go_meet
          case rel =>
            rw [E10.out]
            exact ⟨(setRow_other _ h g _ hgh).trans (setRow_heap w3 g _ _ _ _ q9), setRow_heap _ h _ _ _ _ ((setRow_other w3 g h _ (Ne.symm hgh)).trans q10), (below_setRow (below_setRow hb3 g0 _) h0 _).drew⟩
      case rest =>
        obtain ⟨q9, q10, hb4⟩ := hcut
        obtain ⟨w4, hw4⟩ : ∃ x, x = wc := ⟨_, rfl⟩
        subst hw4
        clear q3 q4 hb3
        have c0 := heap_cell q9 0 _ rfl
        have c1 := heap_cell q9 1 _ rfl
        have c2 := heap_cell q9 2 _ rfl
        have c3 := heap_cell q10 0 _ rfl
        have c4 := heap_cell q10 1 _ rfl
        have c5 := heap_cell q10 2 _ rfl
        by_cases l0 : bn = 0
        · have g1 : (bn == 0) = true := by rw [l0]; rfl
          by_cases hk0 : k = 0
          · have EZ := Lib.hid (show meetE an aa ab bn ba bb x = 0 from (HL.out hl).trans (by unfold pairE; rw [if_pos l0, if_pos (List.length_eq_zero_iff.1 (by omega))]))
            have g2 : ¬ (0 : Int) < (k : Int) := by omega
            clear hk0 l0
            go_wp2_with fail
            go_ret
            exact ⟨by rw [EZ.out]; rfl, hb4⟩
          · have EZ := Lib.hid (show meetE an aa ab bn ba bb x = 7 from (HL.out hl).trans (by unfold pairE; rw [if_pos l0, if_neg (fun h => hk0 (by rw [← hk, h]; rfl))]))
            have g2 : (0 : Int) < (k : Int) := by omega
            clear l0
            go_wp2_with fail
            go_ret
            exact ⟨by rw [EZ.out]; rfl, hb4⟩
        · have g1 : (bn == 0) = false := by simp only [beq_eq_false_iff_ne, ne_eq]; exact l0
          by_cases he : an = bn
          · have g3 : (bn == an) = true := by rw [he]; simp
            by_cases hm : ab = bb
            · have EZ := Lib.hid (show meetE an aa ab bn ba bb x = growE ba bn aa an x from (HL.out hl).trans (by unfold pairE; rw [if_neg l0, if_neg (fun h => h.2 hm)]))
              have g4 := str_eq hm.symm
              clear he hm l0
              have hF0 : I.told.answers w4.tape := by rw [hb4.tape]; exact hF
              go_wp2_with fail
              refine (HG2.out w4 hF0 (hS.on hb4)).mono ?_
              rintro e w' ⟨rfl, hb9⟩
              go_wp2_with fail
              go_ret
              exact ⟨by rw [EZ.out]; rfl, below_on hb4 hb9⟩
            · have EZ := Lib.hid (show meetE an aa ab bn ba bb x = 7 from (HL.out hl).trans (by unfold pairE; rw [if_neg l0, if_pos ⟨he, hm⟩]))
              have g4 := str_ne (fun h => hm h.symm)
              clear he hm l0
              go_wp2_with fail
              go_ret
              exact ⟨by rw [EZ.out]; rfl, hb4⟩
          · have EZ := Lib.hid (show meetE an aa ab bn ba bb x = growE ba bn aa an x from (HL.out hl).trans (by unfold pairE; rw [if_neg l0, if_neg (fun h => he h.1)]))
            have g3 : (bn == an) = false := by simp only [beq_eq_false_iff_ne, ne_eq]; exact fun h => he h.symm
            clear he l0
            have hF0 : I.told.answers w4.tape := by rw [hb4.tape]; exact hF
            go_wp2_with fail
            refine (HG2.out w4 hF0 (hS.on hb4)).mono ?_
            rintro e w' ⟨rfl, hb9⟩
            go_wp2_with fail
            go_ret
            exact ⟨by rw [EZ.out]; rfl, below_on hb4 hb9⟩
    · clear HL HG2
      have dq3_0 := heap_cell q3 0 _ rfl
      have dq4_0 := heap_cell q4 0 _ rfl
      have c0 := heap_cell q9 0 _ rfl
      have c1 := heap_cell q9 1 _ rfl
      have c2 := heap_cell q9 2 _ rfl
      have c3 := heap_cell q10 0 _ rfl
      have c4 := heap_cell q10 1 _ rfl
      have c5 := heap_cell q10 2 _ rfl
      by_cases l0 : an = 0
      · have g1 : (an == 0) = true := by rw [l0]; rfl
        by_cases hk0 : k = 0
        · have EZ := Lib.hid (show meetE an aa ab bn ba bb x = 0 from (HM.out (Int.not_lt.1 hl)).trans (by unfold pairE; rw [if_pos l0, if_pos (List.length_eq_zero_iff.1 (by omega))]))
          have g2 : ¬ (0 : Int) < (k : Int) := by omega
          clear hk0 l0
          go_wp2_with fail
          go_ret
          exact ⟨by rw [EZ.out]; rfl, hb3⟩
        · have EZ := Lib.hid (show meetE an aa ab bn ba bb x = 7 from (HM.out (Int.not_lt.1 hl)).trans (by unfold pairE; rw [if_pos l0, if_neg (fun h => hk0 (by rw [← hk, h]; rfl))]))
          have g2 : (0 : Int) < (k : Int) := by omega
          clear l0
          go_wp2_with fail
          go_ret
          exact ⟨by rw [EZ.out]; rfl, hb3⟩
      · have g1 : (an == 0) = false := by simp only [beq_eq_false_iff_ne, ne_eq]; exact l0
        by_cases he : bn = an
        · have g3 : (an == bn) = true := by rw [he]; simp
          by_cases hm : bb = ab
          · have EZ := Lib.hid (show meetE an aa ab bn ba bb x = growE aa an ba bn x from (HM.out (Int.not_lt.1 hl)).trans (by unfold pairE; rw [if_neg l0, if_neg (fun h => h.2 hm)]))
            have g4 := str_eq hm.symm
            clear he hm l0
            have hF0 : I.told.answers w3.tape := by rw [hb3.tape]; exact hF
            go_wp2_with fail
            refine (HG1.out w3 hF0 (hS.on hb3)).mono ?_
            rintro e w' ⟨rfl, hb9⟩
            go_wp2_with fail
            go_ret
            exact ⟨by rw [EZ.out]; rfl, below_on hb3 hb9⟩
          · have EZ := Lib.hid (show meetE an aa ab bn ba bb x = 7 from (HM.out (Int.not_lt.1 hl)).trans (by unfold pairE; rw [if_neg l0, if_pos ⟨he, hm⟩]))
            have g4 := str_ne (fun h => hm h.symm)
            clear he hm l0
            go_wp2_with fail
            go_ret
            exact ⟨by rw [EZ.out]; rfl, hb3⟩
        · have EZ := Lib.hid (show meetE an aa ab bn ba bb x = growE aa an ba bn x from (HM.out (Int.not_lt.1 hl)).trans (by unfold pairE; rw [if_neg l0, if_neg (fun h => he h.1)]))
          have g3 : (an == bn) = false := by simp only [beq_eq_false_iff_ne, ne_eq]; exact fun h => he h.symm
          clear he l0
          have hF0 : I.told.answers w3.tape := by rw [hb3.tape]; exact hF
          go_wp2_with fail
          refine (HG1.out w3 hF0 (hS.on hb3)).mono ?_
          rintro e w' ⟨rfl, hb9⟩
          go_wp2_with fail
          go_ret
          exact ⟨by rw [EZ.out]; rfl, below_on hb3 hb9⟩

theorem meets_any (I : Interp) (an : Int) (aa ab : ByteArray) (bn : Int) (ba bb : ByteArray) (x : List ByteArray) (a : Option Addr) (k c : Nat) (w : World) (hF : I.told.answers w.tape) (hk : x.length = k) (hS : StrsAt w a c x) (hbig : ∀ s ∈ x, s.size ≤ 140737488355328) :
    Calls Tryz.prog 34 #[.agg #[.int .i64 an, .string aa, .string ab], .agg #[.int .i64 bn, .string ba, .string bb], .slice a k c] w fun e w' => e = .returned (.int .i64 (meetE an aa ab bn ba bb x)) ∧ Below w.heap.size w w' := by
  by_cases ha : headE an aa ab = 0
  · by_cases hb : headE bn ba bb = 0
    · exact meets_ok I an aa ab bn ba bb x a k c w hF hk hS hbig ha hb
    · rw [meet_b ha hb]
      exact meets_b an aa ab bn ba bb a k c w ha _ rfl hb
  · rw [meet_a ha]
    exact meets_a an aa ab bn ba bb a k c w _ rfl ha
end Go.Proofs.YthhckpnnjegldafGreatFmt
