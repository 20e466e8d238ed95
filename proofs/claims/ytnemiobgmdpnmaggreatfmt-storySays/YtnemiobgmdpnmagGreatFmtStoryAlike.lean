/-
  How many first entries two lists share, and whether a number is a place of a list (package story).
-/
import Derived.Test.YtnemiobgmdpnmagGreatFmtStoryMath
import Derived.Test.YtnemiobgmdpnmagGreatFmtWorldAll
import Derived.Deep.DeepCutAuto
import Derived.BigQuiet
import Derived.Lib.QuietBelow
namespace Go.Proofs.YtnemiobgmdpnmagGreatFmt
open Go Go.RowKit

theorem placeOf_yes (i n : Int) (w : World) (h0 : 0 ≤ i) (h1 : i < n) : Calls Tryz.prog 22 #[.int .i64 i, .int .i64 n] w fun e w' => e = .returned (.bool true) ∧ w = w' := by
  go_enter Tryz.func22, Tryz.ntmps22
  go_wp2_with fail
  go_ret
  exact ⟨rfl, rfl⟩
theorem placeOf_low (i n : Int) (w : World) (h0 : ¬ 0 ≤ i) : Calls Tryz.prog 22 #[.int .i64 i, .int .i64 n] w fun e w' => e = .returned (.bool false) ∧ w = w' := by
  go_enter Tryz.func22, Tryz.ntmps22
  go_wp2_with fail
  go_ret
  exact ⟨rfl, rfl⟩
theorem placeOf_high (i n : Int) (w : World) (h0 : 0 ≤ i) (h1 : ¬ i < n) : Calls Tryz.prog 22 #[.int .i64 i, .int .i64 n] w fun e w' => e = .returned (.bool false) ∧ w = w' := by
  go_enter Tryz.func22, Tryz.ntmps22
  go_wp2_with fail
  go_ret
  exact ⟨rfl, rfl⟩
theorem placeOf_no (i n : Int) (w : World) (h : ¬ (0 ≤ i ∧ i < n)) : Calls Tryz.prog 22 #[.int .i64 i, .int .i64 n] w fun e w' => e = .returned (.bool false) ∧ w = w' := by
  by_cases h0 : 0 ≤ i
  · exact placeOf_high i n w h0 (fun h1 => h ⟨h0, h1⟩)
  · exact placeOf_low i n w h0

theorem split_is : ∀ (l m : List EntB) (k : Nat), k ≤ l.length → k ≤ m.length → (∀ i, i < k → entAt l i = entAt m i) → (k < l.length → k < m.length → entAt l k ≠ entAt m k) → splitN l m = k
  | [], _, k, h, _, _, _ => by
    have h0 : k = 0 := Nat.le_zero.1 h
    subst h0; unfold splitN; rfl
  | _ :: _, [], k, _, h, _, _ => by
    have h0 : k = 0 := Nat.le_zero.1 h
    subst h0; unfold splitN; rfl
  | a :: l, b :: m, 0, _, _, _, h => by
    have e : a ≠ b := h (by simp) (by simp)
    unfold splitN
    rw [if_neg e]
  | a :: l, b :: m, k + 1, h1, h2, hp, h => by
    have e : a = b := hp 0 (by omega)
    unfold splitN
    rw [if_pos e, split_is l m k (by simpa using h1) (by simpa using h2) (fun i hi => by have := hp (i + 1) (by omega); simpa [entAt] using this) (fun g1 g2 => by have := h (by simpa using g1) (by simpa using g2); simpa [entAt] using this)]

set_option maxHeartbeats 16000000 in
set_option maxRecDepth 100000 in
theorem alike_any (l m : List EntB) (a0 : Option Addr) (n0 c0 : Nat) (a1 : Option Addr) (n1 c1 : Nat) (w : World) (hl0 : l.length = n0) (hl1 : m.length = n1) (hE0 : EntsAt w a0 c0 l) (hE1 : EntsAt w a1 c1 m) :
    Calls Tryz.prog 13 #[.slice a0 n0 c0, .slice a1 n1 c1] w fun e w' => e = .returned (.int .i64 (splitN l m : Int)) ∧ Below w.heap.size w w' := by
  obtain ⟨M, hM⟩ : ∃ M, min n0 n1 = M := ⟨_, rfl⟩
  have hmn : min (n0 : Int) (n1 : Int) = (M : Int) := by omega
  have hM0 : M ≤ n0 := by omega
  have hM1 : M ≤ n1 := by omega
  have hMM : M = n0 ∨ M = n1 := by omega
  have cp0 := hE0.cap
  have cp1 := hE1.cap
  have hmax := hE0.max
  go_enter Tryz.func13, Tryz.ntmps13
  go_wp2_with fail
  go_loopg [13] M (fun gh s13 wr => ∃ k : Nat, s13 = .int .i64 (k : Int) ∧ k ≤ M ∧ M - k ≤ gh ∧ (∀ i : Nat, i < k → entAt l i = entAt m i) ∧ Below w.heap.size w wr)
  case atStart => exact ⟨0, rfl, Nat.zero_le _, by omega, fun i hi => absurd hi (Nat.not_lt_zero _), Below.refl _ _⟩
  case round =>
    obtain ⟨k, rfl, hkM, hgh, hp, hbr⟩ := hrel
    have hE0 := hE0.on hbr
    have hE1 := hE1.on hbr
    have SPI := Lib.hid (split_is l m k (by omega) (by omega) hp)
    have HN := Lib.hid (fun (h : entAt l k = entAt m k) (i : Nat) (hi : i < k + 1) => show entAt l i = entAt m i from if e : i = k then e ▸ h else hp i (by omega))
    clear hp
    by_cases hk : k < M
    · have f1 : (k : Int) < (M : Int) := by omega
      have f2 : decide ((k : Int) < (M : Int)) = true := decide_eq_true f1
      have f3 : (k : Int) < (n0 : Int) := by omega
      have f4 : (k : Int) < (n1 : Int) := by omega
      obtain ⟨b0, o0, rfl, _, hc0⟩ := hE0.cells (by omega)
      obtain ⟨b1, o1, rfl, _, hc1⟩ := hE1.cells (by omega)
      obtain ⟨x0, x1⟩ := hc0 k (by omega)
      obtain ⟨y0, y1⟩ := hc1 k (by omega)
      clear hc0 hc1
      generalize entAt l k = ex at x0 x1 HN SPI
      generalize entAt m k = ey at y0 y1 HN SPI
      obtain ⟨xk, xv⟩ := ex
      obtain ⟨yk, yv⟩ := ey
      simp only at x0 x1 y0 y1
      go_upto_region 5 with fail
      by_cases e1 : xk = yk
      · subst e1
        have t2 : (xk == xk) = true := by simp
        by_cases e2 : xv = yv
        · subst e2
          have HP := HN.out rfl
          have t3 : (xv.toList == xv.toList) = true := by simp
          clear HN SPI
          have v0 := fun d os => cell_regrown x0 d os
          have v1 := fun d os => cell_regrown x1 d os
          have v2 := fun d os => cell_regrown y0 d os
          have v3 := fun d os => cell_regrown y1 d os
          refine wp_region_quiet_below (by kernel_rfl) (by kernel_rfl) ?_
          repeat (first | go_big_quiet_step (fail) | quiet_step (fail))
          refine wpQuiet_nil ?_
          intro _ hw'
          obtain ⟨⟨dq, osq⟩, hw''⟩ := hw'
          subst hw''
          have hbq := below_on hbr (below_regrown wr dq osq)
          generalize Sort.grow (redrawn wr dq) osq = w5 at hbq ⊢
          go_wp2_with fail
          go_roundg (M - (k + 1))
          case rel => exact ⟨k + 1, by go_num, by omega, by omega, HP, hbq⟩
          case measure => omega
        · have SP := Lib.hid (SPI.out (fun _ _ h => e2 (by injection h)))
          have t1 := str_ne e2
          clear HN SPI
          have v0 := fun d os => cell_regrown x0 d os
          have v1 := fun d os => cell_regrown x1 d os
          have v2 := fun d os => cell_regrown y0 d os
          have v3 := fun d os => cell_regrown y1 d os
          refine wp_region_quiet_below (by kernel_rfl) (by kernel_rfl) ?_
          repeat (first | go_big_quiet_step (fail) | quiet_step (fail))
          refine wpQuiet_nil ?_
          intro _ hw'
          obtain ⟨⟨dq, osq⟩, hw''⟩ := hw'
          subst hw''
          have hbq := below_on hbr (below_regrown wr dq osq)
          generalize Sort.grow (redrawn wr dq) osq = w5 at hbq ⊢
          go_wp2_with fail
          go_ret
          exact ⟨by rw [SP.out]; rfl, hbq⟩
      · have SP := Lib.hid (SPI.out (fun _ _ h => e1 (by injection h)))
        have t1 : (xk == yk) = false := by simp only [beq_eq_false_iff_ne, ne_eq]; exact e1
        clear HN SPI
        have v0 := fun d os => cell_regrown x0 d os
        have v1 := fun d os => cell_regrown x1 d os
        have v2 := fun d os => cell_regrown y0 d os
        have v3 := fun d os => cell_regrown y1 d os
        refine wp_region_quiet_below (by kernel_rfl) (by kernel_rfl) ?_
        repeat (first | go_big_quiet_step (fail) | quiet_step (fail))
        refine wpQuiet_nil ?_
        intro _ hw'
        obtain ⟨⟨dq, osq⟩, hw''⟩ := hw'
        subst hw''
        have hbq := below_on hbr (below_regrown wr dq osq)
        generalize Sort.grow (redrawn wr dq) osq = w5 at hbq ⊢
        go_wp2_with fail
        go_ret
        exact ⟨by rw [SP.out]; rfl, hbq⟩
    · obtain rfl : k = M := by omega
      have SP := Lib.hid (SPI.out (fun _ _ => by omega))
      clear HN SPI
      go_wp2_with fail
      go_ret
      exact ⟨by rw [SP.out]; rfl, hbr⟩
end Go.Proofs.YtnemiobgmdpnmagGreatFmt
