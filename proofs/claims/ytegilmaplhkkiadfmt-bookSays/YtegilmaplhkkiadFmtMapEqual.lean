/-
  maps.Equal at maps of texts by numbers, each nil or not.
-/
import Derived.Test.YtegilmaplhkkiadFmtMapAt
import Derived.Maps.RangeWalk
import Derived.Laws.IdiomRangeMap
import Derived.Deep.LoopGhost
namespace Go.Proofs.YtegilmaplhkkiadFmt
open Go Go.RowKit Go.Maps

theorem textD_mk (c : ByteArray) : textD (.lit (.string c.data.toList)) = c := by
  show (⟨c.data.toList.toArray⟩ : ByteArray) = c
  rw [Array.toArray_toList]
theorem wf_bounds {x : Int} (h : (Lit.int .i64 x).wf = true) : -9223372036854775808 ≤ x ∧ x ≤ 9223372036854775807 := by
  simp only [Lit.wf, Bool.and_eq_true, decide_eq_true_eq] at h
  exact h
theorem good_val (D : DataW Unit) (x : Int) (c : ByteArray) : Lib.goodD eqD D (.int .i64 x, .lit (.string c.data.toList)) = decide (valD D x = some c) := by
  unfold Lib.goodD
  show (has D (.int .i64 x) && decide (textD (.lit (.string c.data.toList)) = textD (D.atKey (.int .i64 x) .nil))) = _
  rw [textD_mk]
  unfold valD
  cases hh : has D (.int .i64 x)
  · simp
  · rw [if_pos rfl, atKey_indep hh .nil (.lit (.string [])), Bool.true_and]
    rw [decide_eq_decide]
    constructor
    · intro h; rw [h]
    · intro h; injection h with h; exact h.symm

set_option maxHeartbeats 1000000 in
set_option maxRecDepth 100000 in
theorem equal_maps (p1 p2 : Option Nat) (D1 D2 : DataW Unit) (w : World) (h1 : MapAt w p1 D1) (h2 : MapAt w p2 D2) :
    Calls Tryf.prog 16 #[.map p1, .map p2] w fun e w' => e = .returned (.bool (Lib.equalFuncD eqD D1 D2)) ∧ Below w.heap.size w w' := by
  have z1 := h1.size
  have z2 := h2.size
  have hM1 := h1
  rcases h1 with ⟨rfl, rfl⟩ | ⟨b1, n1, rfl, ho⟩
  · have l2 := fun ty => h2.len ty
    have l1 := fun ty => hM1.len ty
    have hrg := run_range_nilMap (P := Tryf.prog) w 27 _ _ Tryf.underlying27
    have hnx : ∀ ty, (Instr.next (.pointer (some ⟨w.heap.size, 0, none⟩)) false ty).run Tryf.prog (w.alloc (.mapIter none 0 #[] 0)) = _ := fun ty => run_next_nilMap _ ty 0 0 #[]
    have hbe : Below w.heap.size w (w.alloc (.mapIter none 0 #[] 0)) := (Below.refl _ _).alloc (Nat.le_refl _) _
    clear hM1 h2
    generalize hres : Lib.equalFuncD eqD .nil D2 = res
    have RES := Lib.hid hres
    clear hres
    by_cases hs : Maps.size D2 = 0
    · rw [hs] at l2
      go_enter Tryf.func16, Tryf.ntmps16
      go_wp2
      refine wp_loop_rounds 1 ?_
      rw [rounds_succ]
      go_wp2
      go_ret
      exact ⟨by rw [← RES.out, none_true rfl hs]; rfl, hbe⟩
    · have hne : ¬ ((Maps.size (.nil : DataW Unit) : Int) = (Maps.size D2 : Int)) := fun e => hs (by have : (Maps.size (.nil : DataW Unit)) = 0 := rfl; omega)
      go_enter Tryf.func16, Tryf.ntmps16
      go_wp2
      go_ret
      exact ⟨by rw [← RES.out, sizes_false (D1 := .nil) (fun e => hs e.symm)]; rfl, Below.refl _ _⟩
  · obtain ⟨es1, rfl, hap, hkeys⟩ := ho.entries keyed
    have hlt1 := ho.lt
    generalize hres : Lib.equalFuncD eqD (.map es1) D2 = res
    have RES := Lib.hid hres
    clear hres
    by_cases hsz : Maps.size (.map es1 : DataW Unit) = Maps.size D2
    · have hsz' : ((Maps.size (.map es1 : DataW Unit) : Int) = (Maps.size D2 : Int)) := by omega
      go_enter Tryf.func16, Tryf.ntmps16
      go_wp2_with (first
        | (at_len; refine wpList_count _ rfl _ rfl (some b1) (.map es1) rfl hM1 ?_)
        | (at_len; refine wpList_count _ rfl _ rfl p2 D2 rfl h2 ?_)
        | (at_range; refine wpList_range_own _ rfl _ 27 rfl 3 9 keyed Tryf.underlying27 _ b1 n1 _ rfl ho ?_; intro w0 hrg0 hg0 hs0)
        | go_in)
      go_frame
      have hb0 : Below w.heap.size w w0 := (Below.refl _ _).grown hg0 (Nat.le_refl _) (fun j hj => by cases hj)
      go_loopw [18] (fun _ wr => ∃ (left : Lit → Bool) (cnt : Nat), wr.ranges Tryf.prog 3 (plainElem Tryf.prog 9) b1 w.heap.size n1 (.map es1) left cnt ∧ Below w.heap.size w wr ∧ Hid (GoodAt eqD es1 D2 left))
        (fun _ wr => wr.rangeLeft b1 w.heap.size)
      case atStart => exact ⟨_, _, hrg0, hb0, good_start hkeys D2⟩
      case round =>
        obtain ⟨left, cnt, hrg, hb, G⟩ := hrel
        go_wp2_with (first
          | (at_next; refine wpList_next_ranges_is _ rfl _ rfl 3 9 .i64 keyed Tryf.underlying3 Tryf.underlying9 b1 w.heap.size n1 _ _ _ rfl hrg ?_ ?_)
          | go_in)
        · intro _ hl0
          go_wp2
          go_ret
          exact ⟨by rw [← RES.out, all_good G.out hl0 hsz]; rfl, hb⟩
        · intro x c w1 cnt1 hwx hwc hlx hat hrg1 hlt hg1 hs1 hen
          obtain ⟨hx1, hx2⟩ := wf_bounds hwx
          have hb1 : Below w.heap.size w w1 := hb.grown hg1 hb.size (fun j hj => by cases hj; exact Nat.le_refl _)
          have h2' := h2.on hb1
          have HAT := Lib.hid hat
          clear hat
          by_cases hv : valD D2 x = some c
          · have hgood : Lib.goodD eqD D2 (.int .i64 x, .lit (.string c.data.toList)) = true := by rw [good_val]; exact decide_eq_true hv
            have e1 : valS D2 x = c := valD_some hv
            have e2 : (valD D2 x).isSome = true := by rw [hv]; rfl
            have HG := Lib.hid hgood
            clear hv hgood
            go_wp2_with (first
              | (at_lookup; refine wpList_look _ rfl _ _ rfl p2 D2 rfl h2' x rfl hx1 hx2 ?_; rw [e1, e2])
              | go_in)
            go_roundw
            case rel => exact ⟨_, cnt1, hrg1, hb1, good_step hap hkeys HAT.out G.out HG.out⟩
            case measure => rw [hrg1.left_eq, hrg.left_eq]; exact hlt
          · have hbad : Lib.goodD eqD D2 (.int .i64 x, .lit (.string c.data.toList)) = false := by rw [good_val]; exact decide_eq_false hv
            have HR2 : Hid (res = false) := by rw [← RES.out]; exact bad_false hap hkeys HAT.out hbad
            clear hbad
            cases hd : valD D2 x with
            | none =>
              have e2 : (valD D2 x).isSome = false := by rw [hd]; rfl
              clear hv hd
              go_wp2_with (first
                | (at_lookup; refine wpList_look _ rfl _ _ rfl p2 D2 rfl h2' x rfl hx1 hx2 ?_; rw [e2])
                | go_in)
              go_ret
              exact ⟨by rw [HR2.out]; rfl, hb1⟩
            | some s =>
              have e1 : valS D2 x = s := valD_some hd
              have e2 : (valD D2 x).isSome = true := by rw [hd]; rfl
              have hq := str_ne (a := c) (b := s) (fun e => hv (by rw [hd, e]))
              clear hv hd
              go_wp2_with (first
                | (at_lookup; refine wpList_look _ rfl _ _ rfl p2 D2 rfl h2' x rfl hx1 hx2 ?_; rw [e1, e2])
                | go_in)
              go_ret
              exact ⟨by rw [HR2.out]; rfl, hb1⟩
    · have hne : ¬ ((Maps.size (.map es1 : DataW Unit) : Int) = (Maps.size D2 : Int)) := by omega
      go_enter Tryf.func16, Tryf.ntmps16
      go_wp2_with (first
        | (at_len; refine wpList_count _ rfl _ rfl (some b1) (.map es1) rfl hM1 ?_)
        | (at_len; refine wpList_count _ rfl _ rfl p2 D2 rfl h2 ?_)
        | go_in)
      go_ret
      exact ⟨by rw [← RES.out, sizes_false hsz]; rfl, Below.refl _ _⟩
end Go.Proofs.YtegilmaplhkkiadFmt
