/-
  TrieOne's walk: of whatever two lots of values, key and value it answers true.
-/
import Derived.Test.YtdkmijejfmnncacDoorTrieOneMath
import Derived.Test.YtdkmijejfmnncacDoorMapEqual
import Derived.Test.YtdkmijejfmnncacDoorRooted
import Derived.Test.YtdkmijejfmnncacDoorSlices
import Derived.Test.YtdkmijejfmnncacDoorAt
import Derived.Deep.DeepCutAuto
namespace Go.Proofs.YtdkmijejfmnncacDoor
open Go Go.RowKit Go.Maps

/- What is put: the value's beginning. -/
def cutB (v : ByteArray) : ByteArray := v.extract 0 (min (v.size : Int) 12).toNat
theorem cutB_size (v : ByteArray) : (cutB v).size ≤ 12 := by
  unfold cutB
  rw [ByteArray.size_extract]
  omega

set_option maxHeartbeats 2000000 in
set_option maxRecDepth 100000 in
theorem trieOne_good (p1 p2 : Option Nat) (D1 D2 : DataW Unit) (key : Int) (v : ByteArray) (w : World) (hE : Tab w) (hM1 : MapAt w p1 D1) (hM2 : MapAt w p2 D2) (hk1 : -9223372036854775808 ≤ key) (hk2 : key ≤ 9223372036854775807) (hv : v.size ≤ 9223372036854775807) (hG : GoodMap D1) :
    Calls Tryd.prog 7 #[.map p1, .map p2, .int .i64 key, .string v] w fun e w' => e = .returned (.bool true) ∧ Below w.heap.size w w' := by
  have hjlt := atN_lt key (n := 16) (by omega)
  have hat := fun w' => at_any key 16 w' (by omega) (by omega) hk1 hk2
  rw [show ((16 : Nat) : Int) = 16 from rfl] at hat
  have hr1 := root_good p1 D1 w hE hM1 hG
  have hT1 := hM1.text
  have hsize : Maps.size D1 ≤ 16 := by
    have h1 := (cnt_all hT1 16).2 (fun k hk => by obtain ⟨s, hs⟩ := Option.isSome_iff_exists.1 hk; exact ⟨(hG k s hs).1, (hG k s hs).2.1⟩)
    have h2 := cnt_bound D1 16
    omega
  have hmm := @run_makeMap Tryd.prog
  generalize atN key 16 = j at *
  have hput := fun (E : DataW Unit) (hE : ∀ i : Int, valD E i = if i = (j : Int) then some (cutB v) else valD D1 i) => put_root (E := E) hG (put_good hG hjlt (cutB_size v) hE) hjlt hE
  have hpg := fun (E : DataW Unit) (hE : ∀ i : Int, valD E i = if i = (j : Int) then some (cutB v) else valD D1 i) => put_good (E := E) hG hjlt (cutB_size v) hE
  have hps := fun (E : DataW Unit) (hE : ∀ i : Int, valD E i = if i = (j : Int) then some (cutB v) else valD D1 i) => path_same (E := E) (D := D1) hE
  have hpath := fun w' hE hM => path_good p1 D1 j w' hE hM hG hjlt
  have hplen := pathT_len (valN D1) 4 0 j
  by_cases h0 : checkE D2 = 0
  · have hG2 := (check_iff hM2.text).1 h0
    have hr2 := fun w' hE hM => root_good p2 D2 w' hE hM hG2
    have hal : (trieT (valN D1) 4 0 = trieT (valN D2) 4 0) ↔ Lib.equalFuncD eqD D1 D2 = true := (root_alike hG.short hG2.short).trans (alike_iff hT1 hM2.text hG hG2).symm
    generalize trieT (valN D1) 4 0 = r at *
    generalize trieT (valN D2) 4 0 = r2 at *
    generalize pathT (valN D1) 0 j 4 = L at *
    have HR1 := Lib.hid hr1
    have HR2 := Lib.hid hr2
    have HA := Lib.hid hat
    have HPU := Lib.hid hput
    have HPG := Lib.hid hpg
    have HPS := Lib.hid hps
    have HPA := Lib.hid hpath
    have HAL := Lib.hid hal
    clear hr1 hr2 hat hput hpg hps hpath hal h0
    go_enter Tryd.func7, Tryd.ntmps7
    go_wp2_with fail
    refine HR1.out.mono ?_
    rintro e w1 ⟨rfl, hb1⟩
    clear HR1
    go_wp2_with fail
    refine (HR2.out w1 (hE.on hb1) (hM2.on hb1)).mono ?_
    rintro e w1' ⟨rfl, hb1'⟩
    have hb1 := below_on hb1 hb1'
    clear HR2 hb1'
    go_wp2_with fail
    refine (rooted_any w1' (hE.on hb1)).mono ?_
    rintro e w2 ⟨rfl, hb2⟩
    have hb2 := below_on hb1 hb2
    clear hb1
    have hq2 : (r.toList == r2.toList) = Lib.equalFuncD eqD D1 D2 := by
      by_cases e : r = r2
      · rw [str_eq e, (HAL.out.1 e)]
      · rw [str_ne e]
        cases h : Lib.equalFuncD eqD D1 D2
        · rfl
        · exact absurd (HAL.out.2 h) e
    have HEQ := Lib.hid (fun w' h1 h2 => equal_maps p1 p2 D1 D2 w' h1 h2)
    generalize Lib.equalFuncD eqD D1 D2 = deq at *
    go_wp2_with fail
    refine (HEQ.out w2 (hM1.on hb2) (hM2.on hb2)).mono ?_
    rintro e w2' ⟨rfl, hb2'⟩
    have hb2 := below_on hb2 hb2'
    clear hb2'
    clear HEQ
    rename World => w2'
    go_wp2_with fail
    refine (HA.out w2').mono ?_
    rintro e w3 ⟨rfl, rfl⟩
    clear HA
    have hMn := hM1
    rcases hM1 with ⟨rfl, rfl⟩ | ⟨b1, n1, rfl, ho⟩
    · have hrg := run_range_nilMap (P := Tryd.prog) (w2'.alloc (.map #[] 0)) 37 _ _ Tryd.underlying37
      have hnx : ∀ ty, (Instr.next (.pointer (some ⟨(w2'.alloc (.map #[] 0)).heap.size, 0, none⟩)) false ty).run Tryd.prog ((w2'.alloc (.map #[] 0)).alloc (.mapIter none 0 #[] 0)) = _ := fun ty => run_next_nilMap _ ty 0 0 #[]
      have e1 : (w2'.alloc (.map #[] 0)).heap.size = w2'.heap.size + 1 := by show (w2'.heap.push _).size = _; rw [Array.size_push]
      rw [e1] at hrg hnx
      have hX := (made_owns w2').alloc (.mapIter none 0 #[] 0)
      have hb4 : Below w.heap.size w ((w2'.alloc (.map #[] 0)).alloc (.mapIter none 0 #[] 0)) := (hb2.alloc hb2.size _).alloc (by rw [e1]; have := hb2.size; omega) _
      have hXv : Hid (∀ i : Int, valD (.map []) i = valD .nil i) := fun i => rfl
      go_wp2_with fail
      refine wp_loop_rounds 1 ?_
      rw [rounds_succ]
      go_upto_region 13 with fail
      generalize (w2'.alloc (.map #[] 0)).alloc (.mapIter none 0 #[] 0) = w4 at hX hb4 ⊢
      clear hrg hnx e1
      have hnx16 : 0 ≤ 16 := by omega
      have hlw2 := hb2.size
      have hcs := cutB_size v
      go_wp2_with (at_mapUpdate; refine wpList_mapUpdate_own _ rfl _ _ _ 37 rfl 3 9 keyed Tryd.underlying37 _ w2'.heap.size 0 (DataW.map []) rfl hX (by unfold maxLen; omega) _ _ (.int .i64 (j : Int)) rfl rfl (keyIs (by omega) (by omega)) (.lit (.string (cutB v).data.toList)) [] (plainElem_string Tryd.underlying9 (s := cutB v) (by unfold maxLen; omega)) ?_; intro w6 hX6 hg6)
      have hE6 := copy_put hXv.out hX.isMap (j : Int) (cutB v)
      have hb6 : Below w.heap.size w w6 := hb4.grown hg6 hb4.size (fun j hj => by cases hj; omega)
      have hMX := MapAt.of hX6
      generalize (DataW.put (DataW.map []) (.int .i64 (j : Int)) (.lit (.string (cutB v).data.toList))) = X6 at *
      have hGX := HPG.out X6 hE6
      have hroot := HPU.out X6 hE6
      have hsame := HPS.out X6 hE6
      have hval : valS X6 (j : Int) = cutB v := valD_some (by rw [hE6, if_pos rfl])
      have HR6 := Lib.hid (root_good (some w2'.heap.size) X6 w6 (hE.on hb6) hMX hGX)
      have HP6 := Lib.hid (fun w' hE hM => path_good (some w2'.heap.size) X6 j w' hE hM hGX hjlt)
      have HRT := Lib.hid hroot
      rw [hsame] at HP6
      generalize trieT (valN X6) 4 0 = r6 at *
      clear hX hX6 hg6 hXv hb4 HPG HPU HPS hroot hsame hGX hE6
      refine HR6.out.mono ?_
      rintro e w7 ⟨rfl, hb7⟩
      have hMX := hMX.on hb7
      have hb7 := below_on hb6 hb7
      clear HR6 hb6
      go_wp2_with fail
      refine (HPA.out w7 (hE.on hb7) (hMn.on hb7)).mono ?_
      rintro e w8 ⟨a8, c8, rfl, hS8, hb8⟩
      have hMX := hMX.on hb8
      have hb8 := below_on hb7 hb8
      clear HPA hb7
      go_wp2_with fail
      refine (HP6.out w8 (hE.on hb8) hMX).mono ?_
      rintro e w9 ⟨a9, c9, rfl, hS9, hb9⟩
      have hMX := hMX.on hb9
      have hS8 := hS8.on hb9
      have hb9 := below_on hb8 hb9
      clear HP6 hb8
      have hM9 := hMn.on hb9
      go_wp2_with (at_lookup; refine wpList_look _ rfl _ _ rfl none .nil rfl hM9 (j : Int) rfl (by omega) (by omega) ?_)
      refine (equal_strs L L a8 a9 4 c8 4 c9 w9 hplen hplen hS8 hS9).mono ?_
      rintro e w10 ⟨rfl, hb10⟩
      rw [decide_eq_true (rfl : L = L)]
      have hMX := hMX.on hb10
      have hb10 := below_on hb9 hb10
      have hrt := HRT.out
      clear hb9 hS8 hS9 hM9 HRT
      cases hok : (valD .nil (j : Int)).isSome
      · rw [hok] at hrt
        have hne : r ≠ r6 := fun e => by have := hrt.1 e; simp at this
        have hq6 := str_ne hne
        clear hrt hne
        go_wp2_with fail
        go_ret
        exact ⟨rfl, hb10⟩
      · rw [hok] at hrt
        by_cases hvs : valS .nil (j : Int) = cutB v
        · have hq6 := str_eq (hrt.2 ⟨rfl, hvs⟩)
          have hq7 := str_eq hvs
          clear hrt
          go_wp2_with (refine wpList_wanted (by rfl) ?_; refine wp_look1 _ _ _ rfl (some w2'.heap.size) X6 rfl hMX (j : Int) rfl (by omega) (by omega) ?_; rw [hval])
          go_ret
          exact ⟨rfl, hb10⟩
        · have hq6 := str_ne (a := r) (b := r6) (fun e => hvs (hrt.1 e).2)
          have hq7 := str_ne hvs
          clear hrt
          go_wp2_with (refine wpList_wanted (by rfl) ?_; refine wp_look1 _ _ _ rfl (some w2'.heap.size) X6 rfl hMX (j : Int) rfl (by omega) (by omega) ?_; rw [hval])
          go_ret
          exact ⟨rfl, hb10⟩
    · have e1 : (w2'.alloc (.map #[] 0)).heap.size = w2'.heap.size + 1 := by show (w2'.heap.push _).size = _; rw [Array.size_push]
      have hlt1 := ho.lt
      have hlw := hb2.size
      have ho2 : (w2'.alloc (.map #[] 0)).ownsMap Tryd.prog 3 (plainElem Tryd.prog 9) b1 n1 D1 := by
        obtain ⟨es, clock, q1, q2⟩ := ho
        exact World.ownsMap.alloc ⟨es, clock, by rw [hb2.block b1 hlt1]; exact q1, q2⟩ _
      have hX0 := made_owns w2'
      go_wp2_with (first
        | (at_range; refine wpList_range_own _ rfl _ 37 rfl 3 9 keyed Tryd.underlying37 _ b1 n1 D1 rfl ho2 ?_; intro w0 hrg0 hg0 hs0)
        | go_in)
      go_frame
      rw [e1] at hrg0 ⊢
      have hX0 := hX0.kept hg0 (by simp)
      have hb0 : Below w.heap.size w w0 := (hb2.alloc hb2.size _).grown hg0 (by rw [e1]; omega) (fun j hj => by cases hj)
      clear ho2 hg0
      go_loopw [57] (fun _ wr => ∃ (left : Lit → Bool) (cnt nx : Nat) (X : DataW Unit), wr.ranges Tryd.prog 3 (plainElem Tryd.prog 9) b1 (w2'.heap.size + 1) n1 D1 left cnt ∧ wr.ownsMap Tryd.prog 3 (plainElem Tryd.prog 9) w2'.heap.size nx X ∧ nx + cnt ≤ Maps.size D1 ∧ Hid (Agree X D1 left) ∧ Below w.heap.size w wr)
        (fun _ wr => wr.rangeLeft b1 (w2'.heap.size + 1))
      case atStart => exact ⟨_, _, 0, _, hrg0, hX0, by omega, agree_start D1, hb0⟩
      case round =>
        obtain ⟨left, cnt, nx, X, hrg, hX, hnx, A, hb4⟩ := hrel
        go_wp2_with (first
          | (at_next; refine wpList_next_ranges_is _ rfl _ rfl 3 9 .i64 keyed Tryd.underlying3 Tryd.underlying9 b1 (w2'.heap.size + 1) n1 _ _ _ rfl hrg ?_ ?_)
          | go_in)
        · intro _ hl0
          have hXv : Hid (∀ i : Int, valD X i = valD D1 i) := fun i => agree_vals A.out hl0 i
          rename World => w4
          clear A hl0 hrg
          go_upto_region 13 with fail
          have hnx16 : nx ≤ 16 := by omega
          have hlw2 := hb2.size
          have hcs := cutB_size v
          go_wp2_with (at_mapUpdate; refine wpList_mapUpdate_own _ rfl _ _ _ 37 rfl 3 9 keyed Tryd.underlying37 _ w2'.heap.size nx X rfl hX (by unfold maxLen; omega) _ _ (.int .i64 (j : Int)) rfl rfl (keyIs (by omega) (by omega)) (.lit (.string (cutB v).data.toList)) [] (plainElem_string Tryd.underlying9 (s := cutB v) (by unfold maxLen; omega)) ?_; intro w6 hX6 hg6)
          have hE6 := copy_put hXv.out hX.isMap (j : Int) (cutB v)
          have hb6 : Below w.heap.size w w6 := hb4.grown hg6 hb4.size (fun j hj => by cases hj; omega)
          have hMX := MapAt.of hX6
          generalize (DataW.put X (.int .i64 (j : Int)) (.lit (.string (cutB v).data.toList))) = X6 at *
          have hGX := HPG.out X6 hE6
          have hroot := HPU.out X6 hE6
          have hsame := HPS.out X6 hE6
          have hval : valS X6 (j : Int) = cutB v := valD_some (by rw [hE6, if_pos rfl])
          have HR6 := Lib.hid (root_good (some w2'.heap.size) X6 w6 (hE.on hb6) hMX hGX)
          have HP6 := Lib.hid (fun w' hE hM => path_good (some w2'.heap.size) X6 j w' hE hM hGX hjlt)
          have HRT := Lib.hid hroot
          rw [hsame] at HP6
          generalize trieT (valN X6) 4 0 = r6 at *
          clear hX hX6 hg6 hXv hb4 HPG HPU HPS hroot hsame hGX hE6
          refine HR6.out.mono ?_
          rintro e w7 ⟨rfl, hb7⟩
          have hMX := hMX.on hb7
          have hb7 := below_on hb6 hb7
          clear HR6 hb6
          go_wp2_with fail
          refine (HPA.out w7 (hE.on hb7) (hMn.on hb7)).mono ?_
          rintro e w8 ⟨a8, c8, rfl, hS8, hb8⟩
          have hMX := hMX.on hb8
          have hb8 := below_on hb7 hb8
          clear HPA hb7
          go_wp2_with fail
          refine (HP6.out w8 (hE.on hb8) hMX).mono ?_
          rintro e w9 ⟨a9, c9, rfl, hS9, hb9⟩
          have hMX := hMX.on hb9
          have hS8 := hS8.on hb9
          have hb9 := below_on hb8 hb9
          clear HP6 hb8
          have hM9 := hMn.on hb9
          go_wp2_with (at_lookup; refine wpList_look _ rfl _ _ rfl (some b1) D1 rfl hM9 (j : Int) rfl (by omega) (by omega) ?_)
          refine (equal_strs L L a8 a9 4 c8 4 c9 w9 hplen hplen hS8 hS9).mono ?_
          rintro e w10 ⟨rfl, hb10⟩
          rw [decide_eq_true (rfl : L = L)]
          have hMX := hMX.on hb10
          have hb10 := below_on hb9 hb10
          have hrt := HRT.out
          clear hb9 hS8 hS9 hM9 HRT
          cases hok : (valD D1 (j : Int)).isSome
          · rw [hok] at hrt
            have hne : r ≠ r6 := fun e => by have := hrt.1 e; simp at this
            have hq6 := str_ne hne
            clear hrt hne
            go_wp2_with fail
            go_ret
            exact ⟨rfl, hb10⟩
          · rw [hok] at hrt
            by_cases hvs : valS D1 (j : Int) = cutB v
            · have hq6 := str_eq (hrt.2 ⟨rfl, hvs⟩)
              have hq7 := str_eq hvs
              clear hrt
              go_wp2_with (refine wpList_wanted (by rfl) ?_; refine wp_look1 _ _ _ rfl (some w2'.heap.size) X6 rfl hMX (j : Int) rfl (by omega) (by omega) ?_; rw [hval])
              go_ret
              exact ⟨rfl, hb10⟩
            · have hq6 := str_ne (a := r) (b := r6) (fun e => hvs (hrt.1 e).2)
              have hq7 := str_ne hvs
              clear hrt
              go_wp2_with (refine wpList_wanted (by rfl) ?_; refine wp_look1 _ _ _ rfl (some w2'.heap.size) X6 rfl hMX (j : Int) rfl (by omega) (by omega) ?_; rw [hval])
              go_ret
              exact ⟨rfl, hb10⟩
        · intro x c w5 cnt1 hwx hwc hlx hat hrg1 hlt hg1 hs1 hen
          obtain ⟨hx1, hx2⟩ := wf_bounds hwx
          have hX5 := hX.kept hg1 (by simp)
          have hb5 : Below w.heap.size w w5 := hb4.grown hg1 hb4.size (fun j hj => by cases hj; omega)
          have HAT := Lib.hid hat
          clear hat
          go_wp2_with (first
            | (at_mapUpdate; refine wpList_mapUpdate_own _ rfl _ _ _ 37 rfl 3 9 keyed Tryd.underlying37 _ w2'.heap.size nx X rfl hX5 (by unfold maxLen; omega) _ _ (.int .i64 x) rfl rfl (keyIs hx1 hx2) (.lit (.string c.data.toList)) [] (plainElem_string Tryd.underlying9 hwc) ?_; intro w6 hX6 hg6)
            | go_in)
          go_frame
          have hrg6 := hrg1.kept hg6 (by simp; omega) (by simp)
          have hb6 : Below w.heap.size w w6 := hb5.grown hg6 hb5.size (fun j hj => by cases hj; omega)
          go_roundw
          case rel => exact ⟨_, cnt1, nx + 1, _, hrg6, hX6, by omega, agree_step (kl := .int .i64 x) A.out hX.isMap trivial HAT.out, hb6⟩
          case measure => rw [hrg6.left_eq, hrg.left_eq]; exact hlt
  · obtain ⟨c', hc0, hc'⟩ : ∃ c', c' ≠ 0 ∧ checkE D2 = c' := ⟨_, h0, rfl⟩
    generalize trieT (valN D1) 4 0 = r at *
    generalize pathT (valN D1) 0 j 4 = L at *
    have HR1 := Lib.hid hr1
    have HR2 := Lib.hid (fun w' hM => root_bad p2 D2 w' hM c' hc' hc0)
    have HA := Lib.hid hat
    have HPU := Lib.hid hput
    have HPG := Lib.hid hpg
    have HPS := Lib.hid hps
    have HPA := Lib.hid hpath
    clear hr1 hat hput hpg hps hpath hc' h0
    go_enter Tryd.func7, Tryd.ntmps7
    go_wp2_with fail
    refine HR1.out.mono ?_
    rintro e w1 ⟨rfl, hb1⟩
    clear HR1
    go_wp2_with fail
    refine (HR2.out w1 (hM2.on hb1)).mono ?_
    rintro e w2 ⟨rfl, rfl⟩
    clear HR2
    go_wp2_with fail
    refine (rooted_any w1 (hE.on hb1)).mono ?_
    rintro e w2 ⟨rfl, hb2⟩
    have hb2 := below_on hb1 hb2
    clear hb1
    go_wp2_with fail
    refine (HA.out w2).mono ?_
    rintro e w3 ⟨rfl, rfl⟩
    clear HA
    have hMn := hM1
    rcases hM1 with ⟨rfl, rfl⟩ | ⟨b1, n1, rfl, ho⟩
    · have hrg := run_range_nilMap (P := Tryd.prog) (w2.alloc (.map #[] 0)) 37 _ _ Tryd.underlying37
      have hnx : ∀ ty, (Instr.next (.pointer (some ⟨(w2.alloc (.map #[] 0)).heap.size, 0, none⟩)) false ty).run Tryd.prog ((w2.alloc (.map #[] 0)).alloc (.mapIter none 0 #[] 0)) = _ := fun ty => run_next_nilMap _ ty 0 0 #[]
      have e1 : (w2.alloc (.map #[] 0)).heap.size = w2.heap.size + 1 := by show (w2.heap.push _).size = _; rw [Array.size_push]
      rw [e1] at hrg hnx
      have hX := (made_owns w2).alloc (.mapIter none 0 #[] 0)
      have hb4 : Below w.heap.size w ((w2.alloc (.map #[] 0)).alloc (.mapIter none 0 #[] 0)) := (hb2.alloc hb2.size _).alloc (by rw [e1]; have := hb2.size; omega) _
      have hXv : Hid (∀ i : Int, valD (.map []) i = valD .nil i) := fun i => rfl
      go_wp2_with fail
      refine wp_loop_rounds 1 ?_
      rw [rounds_succ]
      go_upto_region 13 with fail
      generalize (w2.alloc (.map #[] 0)).alloc (.mapIter none 0 #[] 0) = w4 at hX hb4 ⊢
      clear hrg hnx e1
      have hnx16 : 0 ≤ 16 := by omega
      have hlw2 := hb2.size
      have hcs := cutB_size v
      go_wp2_with (at_mapUpdate; refine wpList_mapUpdate_own _ rfl _ _ _ 37 rfl 3 9 keyed Tryd.underlying37 _ w2.heap.size 0 (DataW.map []) rfl hX (by unfold maxLen; omega) _ _ (.int .i64 (j : Int)) rfl rfl (keyIs (by omega) (by omega)) (.lit (.string (cutB v).data.toList)) [] (plainElem_string Tryd.underlying9 (s := cutB v) (by unfold maxLen; omega)) ?_; intro w6 hX6 hg6)
      have hE6 := copy_put hXv.out hX.isMap (j : Int) (cutB v)
      have hb6 : Below w.heap.size w w6 := hb4.grown hg6 hb4.size (fun j hj => by cases hj; omega)
      have hMX := MapAt.of hX6
      generalize (DataW.put (DataW.map []) (.int .i64 (j : Int)) (.lit (.string (cutB v).data.toList))) = X6 at *
      have hGX := HPG.out X6 hE6
      have hroot := HPU.out X6 hE6
      have hsame := HPS.out X6 hE6
      have hval : valS X6 (j : Int) = cutB v := valD_some (by rw [hE6, if_pos rfl])
      have HR6 := Lib.hid (root_good (some w2.heap.size) X6 w6 (hE.on hb6) hMX hGX)
      have HP6 := Lib.hid (fun w' hE hM => path_good (some w2.heap.size) X6 j w' hE hM hGX hjlt)
      have HRT := Lib.hid hroot
      rw [hsame] at HP6
      generalize trieT (valN X6) 4 0 = r6 at *
      clear hX hX6 hg6 hXv hb4 HPG HPU HPS hroot hsame hGX hE6
      refine HR6.out.mono ?_
      rintro e w7 ⟨rfl, hb7⟩
      have hMX := hMX.on hb7
      have hb7 := below_on hb6 hb7
      clear HR6 hb6
      go_wp2_with fail
      refine (HPA.out w7 (hE.on hb7) (hMn.on hb7)).mono ?_
      rintro e w8 ⟨a8, c8, rfl, hS8, hb8⟩
      have hMX := hMX.on hb8
      have hb8 := below_on hb7 hb8
      clear HPA hb7
      go_wp2_with fail
      refine (HP6.out w8 (hE.on hb8) hMX).mono ?_
      rintro e w9 ⟨a9, c9, rfl, hS9, hb9⟩
      have hMX := hMX.on hb9
      have hS8 := hS8.on hb9
      have hb9 := below_on hb8 hb9
      clear HP6 hb8
      have hM9 := hMn.on hb9
      go_wp2_with (at_lookup; refine wpList_look _ rfl _ _ rfl none .nil rfl hM9 (j : Int) rfl (by omega) (by omega) ?_)
      refine (equal_strs L L a8 a9 4 c8 4 c9 w9 hplen hplen hS8 hS9).mono ?_
      rintro e w10 ⟨rfl, hb10⟩
      rw [decide_eq_true (rfl : L = L)]
      have hMX := hMX.on hb10
      have hb10 := below_on hb9 hb10
      have hrt := HRT.out
      clear hb9 hS8 hS9 hM9 HRT
      cases hok : (valD .nil (j : Int)).isSome
      · rw [hok] at hrt
        have hne : r ≠ r6 := fun e => by have := hrt.1 e; simp at this
        have hq6 := str_ne hne
        clear hrt hne
        go_wp2_with fail
        go_ret
        exact ⟨rfl, hb10⟩
      · rw [hok] at hrt
        by_cases hvs : valS .nil (j : Int) = cutB v
        · have hq6 := str_eq (hrt.2 ⟨rfl, hvs⟩)
          have hq7 := str_eq hvs
          clear hrt
          go_wp2_with (refine wpList_wanted (by rfl) ?_; refine wp_look1 _ _ _ rfl (some w2.heap.size) X6 rfl hMX (j : Int) rfl (by omega) (by omega) ?_; rw [hval])
          go_ret
          exact ⟨rfl, hb10⟩
        · have hq6 := str_ne (a := r) (b := r6) (fun e => hvs (hrt.1 e).2)
          have hq7 := str_ne hvs
          clear hrt
          go_wp2_with (refine wpList_wanted (by rfl) ?_; refine wp_look1 _ _ _ rfl (some w2.heap.size) X6 rfl hMX (j : Int) rfl (by omega) (by omega) ?_; rw [hval])
          go_ret
          exact ⟨rfl, hb10⟩
    · have e1 : (w2.alloc (.map #[] 0)).heap.size = w2.heap.size + 1 := by show (w2.heap.push _).size = _; rw [Array.size_push]
      have hlt1 := ho.lt
      have hlw := hb2.size
      have ho2 : (w2.alloc (.map #[] 0)).ownsMap Tryd.prog 3 (plainElem Tryd.prog 9) b1 n1 D1 := by
        obtain ⟨es, clock, q1, q2⟩ := ho
        exact World.ownsMap.alloc ⟨es, clock, by rw [hb2.block b1 hlt1]; exact q1, q2⟩ _
      have hX0 := made_owns w2
      go_wp2_with (first
        | (at_range; refine wpList_range_own _ rfl _ 37 rfl 3 9 keyed Tryd.underlying37 _ b1 n1 D1 rfl ho2 ?_; intro w0 hrg0 hg0 hs0)
        | go_in)
      go_frame
      rw [e1] at hrg0 ⊢
      have hX0 := hX0.kept hg0 (by simp)
      have hb0 : Below w.heap.size w w0 := (hb2.alloc hb2.size _).grown hg0 (by rw [e1]; omega) (fun j hj => by cases hj)
      clear ho2 hg0
      go_loopw [57] (fun _ wr => ∃ (left : Lit → Bool) (cnt nx : Nat) (X : DataW Unit), wr.ranges Tryd.prog 3 (plainElem Tryd.prog 9) b1 (w2.heap.size + 1) n1 D1 left cnt ∧ wr.ownsMap Tryd.prog 3 (plainElem Tryd.prog 9) w2.heap.size nx X ∧ nx + cnt ≤ Maps.size D1 ∧ Hid (Agree X D1 left) ∧ Below w.heap.size w wr)
        (fun _ wr => wr.rangeLeft b1 (w2.heap.size + 1))
      case atStart => exact ⟨_, _, 0, _, hrg0, hX0, by omega, agree_start D1, hb0⟩
      case round =>
        obtain ⟨left, cnt, nx, X, hrg, hX, hnx, A, hb4⟩ := hrel
        go_wp2_with (first
          | (at_next; refine wpList_next_ranges_is _ rfl _ rfl 3 9 .i64 keyed Tryd.underlying3 Tryd.underlying9 b1 (w2.heap.size + 1) n1 _ _ _ rfl hrg ?_ ?_)
          | go_in)
        · intro _ hl0
          have hXv : Hid (∀ i : Int, valD X i = valD D1 i) := fun i => agree_vals A.out hl0 i
          rename World => w4
          clear A hl0 hrg
          go_upto_region 13 with fail
          have hnx16 : nx ≤ 16 := by omega
          have hlw2 := hb2.size
          have hcs := cutB_size v
          go_wp2_with (at_mapUpdate; refine wpList_mapUpdate_own _ rfl _ _ _ 37 rfl 3 9 keyed Tryd.underlying37 _ w2.heap.size nx X rfl hX (by unfold maxLen; omega) _ _ (.int .i64 (j : Int)) rfl rfl (keyIs (by omega) (by omega)) (.lit (.string (cutB v).data.toList)) [] (plainElem_string Tryd.underlying9 (s := cutB v) (by unfold maxLen; omega)) ?_; intro w6 hX6 hg6)
          have hE6 := copy_put hXv.out hX.isMap (j : Int) (cutB v)
          have hb6 : Below w.heap.size w w6 := hb4.grown hg6 hb4.size (fun j hj => by cases hj; omega)
          have hMX := MapAt.of hX6
          generalize (DataW.put X (.int .i64 (j : Int)) (.lit (.string (cutB v).data.toList))) = X6 at *
          have hGX := HPG.out X6 hE6
          have hroot := HPU.out X6 hE6
          have hsame := HPS.out X6 hE6
          have hval : valS X6 (j : Int) = cutB v := valD_some (by rw [hE6, if_pos rfl])
          have HR6 := Lib.hid (root_good (some w2.heap.size) X6 w6 (hE.on hb6) hMX hGX)
          have HP6 := Lib.hid (fun w' hE hM => path_good (some w2.heap.size) X6 j w' hE hM hGX hjlt)
          have HRT := Lib.hid hroot
          rw [hsame] at HP6
          generalize trieT (valN X6) 4 0 = r6 at *
          clear hX hX6 hg6 hXv hb4 HPG HPU HPS hroot hsame hGX hE6
          refine HR6.out.mono ?_
          rintro e w7 ⟨rfl, hb7⟩
          have hMX := hMX.on hb7
          have hb7 := below_on hb6 hb7
          clear HR6 hb6
          go_wp2_with fail
          refine (HPA.out w7 (hE.on hb7) (hMn.on hb7)).mono ?_
          rintro e w8 ⟨a8, c8, rfl, hS8, hb8⟩
          have hMX := hMX.on hb8
          have hb8 := below_on hb7 hb8
          clear HPA hb7
          go_wp2_with fail
          refine (HP6.out w8 (hE.on hb8) hMX).mono ?_
          rintro e w9 ⟨a9, c9, rfl, hS9, hb9⟩
          have hMX := hMX.on hb9
          have hS8 := hS8.on hb9
          have hb9 := below_on hb8 hb9
          clear HP6 hb8
          have hM9 := hMn.on hb9
          go_wp2_with (at_lookup; refine wpList_look _ rfl _ _ rfl (some b1) D1 rfl hM9 (j : Int) rfl (by omega) (by omega) ?_)
          refine (equal_strs L L a8 a9 4 c8 4 c9 w9 hplen hplen hS8 hS9).mono ?_
          rintro e w10 ⟨rfl, hb10⟩
          rw [decide_eq_true (rfl : L = L)]
          have hMX := hMX.on hb10
          have hb10 := below_on hb9 hb10
          have hrt := HRT.out
          clear hb9 hS8 hS9 hM9 HRT
          cases hok : (valD D1 (j : Int)).isSome
          · rw [hok] at hrt
            have hne : r ≠ r6 := fun e => by have := hrt.1 e; simp at this
            have hq6 := str_ne hne
            clear hrt hne
            go_wp2_with fail
            go_ret
            exact ⟨rfl, hb10⟩
          · rw [hok] at hrt
            by_cases hvs : valS D1 (j : Int) = cutB v
            · have hq6 := str_eq (hrt.2 ⟨rfl, hvs⟩)
              have hq7 := str_eq hvs
              clear hrt
              go_wp2_with (refine wpList_wanted (by rfl) ?_; refine wp_look1 _ _ _ rfl (some w2.heap.size) X6 rfl hMX (j : Int) rfl (by omega) (by omega) ?_; rw [hval])
              go_ret
              exact ⟨rfl, hb10⟩
            · have hq6 := str_ne (a := r) (b := r6) (fun e => hvs (hrt.1 e).2)
              have hq7 := str_ne hvs
              clear hrt
              go_wp2_with (refine wpList_wanted (by rfl) ?_; refine wp_look1 _ _ _ rfl (some w2.heap.size) X6 rfl hMX (j : Int) rfl (by omega) (by omega) ?_; rw [hval])
              go_ret
              exact ⟨rfl, hb10⟩
        · intro x c w5 cnt1 hwx hwc hlx hat hrg1 hlt hg1 hs1 hen
          obtain ⟨hx1, hx2⟩ := wf_bounds hwx
          have hX5 := hX.kept hg1 (by simp)
          have hb5 : Below w.heap.size w w5 := hb4.grown hg1 hb4.size (fun j hj => by cases hj; omega)
          have HAT := Lib.hid hat
          clear hat
          go_wp2_with (first
            | (at_mapUpdate; refine wpList_mapUpdate_own _ rfl _ _ _ 37 rfl 3 9 keyed Tryd.underlying37 _ w2.heap.size nx X rfl hX5 (by unfold maxLen; omega) _ _ (.int .i64 x) rfl rfl (keyIs hx1 hx2) (.lit (.string c.data.toList)) [] (plainElem_string Tryd.underlying9 hwc) ?_; intro w6 hX6 hg6)
            | go_in)
          go_frame
          have hrg6 := hrg1.kept hg6 (by simp; omega) (by simp)
          have hb6 : Below w.heap.size w w6 := hb5.grown hg6 hb5.size (fun j hj => by cases hj; omega)
          go_roundw
          case rel => exact ⟨_, cnt1, nx + 1, _, hrg6, hX6, by omega, agree_step (kl := .int .i64 x) A.out hX.isMap trivial HAT.out, hb6⟩
          case measure => rw [hrg6.left_eq, hrg.left_eq]; exact hlt

theorem root_some (p : Option Nat) (D : DataW Unit) (w : World) (hE : Tab w) (hM : MapAt w p D) :
    Calls Tryd.prog 16 #[.map p] w fun e w' => (∃ s c, e = .returned (.tuple #[.string s, .int .i64 c])) ∧ Below w.heap.size w w' := by
  by_cases h0 : checkE D = 0
  · exact (root_good p D w hE hM ((check_iff hM.text).1 h0)).mono fun e w' ⟨h1, h2⟩ => ⟨⟨_, _, h1⟩, h2⟩
  · exact (root_bad p D w hM _ rfl h0).mono fun e w' ⟨h1, h2⟩ => ⟨⟨_, _, h1⟩, h2 ▸ Below.refl _ _⟩

theorem trieOne_walk (p1 : Option Nat) (D1 : DataW Unit) (p2 : Option Nat) (D2 : DataW Unit) (key : Int) (v : ByteArray) (w : World) (hE : Tab w) (hM1 : MapAt w p1 D1) (hM2 : MapAt w p2 D2) (hk1 : -9223372036854775808 ≤ key) (hk2 : key ≤ 9223372036854775807) (hv : v.size ≤ 9223372036854775807) :
    Calls Tryd.prog 7 #[.map p1, .map p2, .int .i64 key, .string v] w fun e w' => e = .returned (.bool true) ∧ Below w.heap.size w w' := by
  by_cases h0 : checkE D1 = 0
  · exact trieOne_good p1 p2 D1 D2 key v w hE hM1 hM2 hk1 hk2 hv ((check_iff hM1.text).1 h0)
  · obtain ⟨c', hc0, hc'⟩ : ∃ c', c' ≠ 0 ∧ checkE D1 = c' := ⟨_, h0, rfl⟩
    have HR := Lib.hid (root_bad p1 D1 w hM1 c' hc' hc0)
    clear hc' h0
    go_enter Tryd.func7, Tryd.ntmps7
    go_wp2_with fail
    refine HR.out.mono ?_
    rintro e w1 ⟨rfl, rfl⟩
    go_wp2_with fail
    refine (root_some p2 D2 w hE hM2).mono ?_
    rintro e w1 ⟨⟨s, c, rfl⟩, hb1⟩
    go_wp2_with fail
    refine (rooted_any w1 (hE.on hb1)).mono ?_
    rintro e w2 ⟨rfl, hb2⟩
    have hb2 := below_on hb1 hb2
    clear hb1
    go_wp2_with fail
    refine (rooted_any w2 (hE.on hb2)).mono ?_
    rintro e w3 ⟨rfl, hb3⟩
    go_wp2_with fail
    go_ret
    exact ⟨rfl, below_on hb2 hb3⟩
end Go.Proofs.YtdkmijejfmnncacDoor
