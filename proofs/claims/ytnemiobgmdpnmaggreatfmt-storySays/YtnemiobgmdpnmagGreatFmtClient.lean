/-
  Contracts of package client over this seat's dump.
-/
import Derived.Lib.QuietBelow
import Derived.Test.YtnemiobgmdpnmagGreatFmtMaths
import Derived.Test.YtnemiobgmdpnmagGreatFmtShown
import Derived.Test.YtnemiobgmdpnmagGreatFmtBooks
namespace Go.Proofs.YtnemiobgmdpnmagGreatFmt
open Go Go.RowKit

theorem client_cells (n : Int) (a b : ByteArray) (f : Bool) : (#[.int .i64 n, .string a, .string b, .bool f] : Array Value).all (·.oneCell') = true := by simp [Value.oneCell']
/- Both heads may be, and the new one is of no fewer entries. -/
def chkE (cn : Int) (ca cb : ByteArray) (hn : Int) (ha hb : ByteArray) : Int :=
  if headE cn ca cb ≠ 0 then headE cn ca cb else if headE hn ha hb ≠ 0 then headE hn ha hb else if hn < cn then 6 else 0
instance (cn : Int) (ca cb : ByteArray) (hn : Int) (ha hb : ByteArray) (l : List ByteArray) : Decidable (goodF cn ca cb hn ha hb l) := inferInstanceAs (Decidable (if cn = 0 then l = [] else growE ca cn ha hn l = 0 ∧ (hn = cn → hb = cb)))

set_option maxHeartbeats 1000000 in
set_option maxRecDepth 100000 in
theorem ccheck_c (cn : Int) (ca cb : ByteArray) (hn : Int) (ha hb : ByteArray) (w : World) (z : Int) (hz : headE cn ca cb = z) (h0 : z ≠ 0) :
    Calls Tryz.prog 68 #[.agg #[.int .i64 cn, .string ca, .string cb], .agg #[.int .i64 hn, .string ha, .string hb]] w fun e w' => e = .returned (.int .i64 z) ∧ Below w.heap.size w w' := by
  have HC := Lib.hid (ncheck_any cn ca cb)
  rw [hz] at HC
  have hz1 : (z == 0) = false := by simp only [beq_eq_false_iff_ne, ne_eq]; exact h0
  clear hz
  obtain ⟨q3, q4, hb0⟩ := boxes2 w (.cells #[.int .i64 cn, .string ca, .string cb] 40) (.cells #[.int .i64 hn, .string ha, .string hb] 40)
  have dq3_0 := heap_cell q3 0 _ rfl
  have dq3_1 := heap_cell q3 1 _ rfl
  have dq3_2 := heap_cell q3 2 _ rfl
  go_enter Tryz.func68, Tryz.ntmps68
  go_wp2_with fail
  generalize ((w.alloc (.cells #[.int .i64 cn, .string ca, .string cb] 40)).alloc (.cells #[.int .i64 hn, .string ha, .string hb] 40)) = w0 at q3 q4 hb0 dq3_0 dq3_1 dq3_2 ⊢
  refine (HC.out w0).mono ?_
  rintro e w1 ⟨rfl, hb1⟩
  have q3 := heap_on hb1 q3
  have q4 := heap_on hb1 q4
  have hb1 := below_on hb0 hb1
  clear hb0
  clear dq3_0 dq3_1 dq3_2
  go_wp2_with fail
  go_ret
  exact ⟨rfl, hb1⟩

set_option maxHeartbeats 1000000 in
set_option maxRecDepth 100000 in
theorem ccheck_h (cn : Int) (ca cb : ByteArray) (hn : Int) (ha hb : ByteArray) (w : World) (hc : headE cn ca cb = 0) (z : Int) (hz : headE hn ha hb = z) (h0 : z ≠ 0) :
    Calls Tryz.prog 68 #[.agg #[.int .i64 cn, .string ca, .string cb], .agg #[.int .i64 hn, .string ha, .string hb]] w fun e w' => e = .returned (.int .i64 z) ∧ Below w.heap.size w w' := by
  have HC := Lib.hid (ncheck_any cn ca cb)
  have HH := Lib.hid (ncheck_any hn ha hb)
  rw [hc] at HC
  rw [hz] at HH
  have hz1 : (z == 0) = false := by simp only [beq_eq_false_iff_ne, ne_eq]; exact h0
  clear hz hc
  obtain ⟨q3, q4, hb0⟩ := boxes2 w (.cells #[.int .i64 cn, .string ca, .string cb] 40) (.cells #[.int .i64 hn, .string ha, .string hb] 40)
  have dq3_0 := heap_cell q3 0 _ rfl
  have dq3_1 := heap_cell q3 1 _ rfl
  have dq3_2 := heap_cell q3 2 _ rfl
  go_enter Tryz.func68, Tryz.ntmps68
  go_wp2_with fail
  generalize ((w.alloc (.cells #[.int .i64 cn, .string ca, .string cb] 40)).alloc (.cells #[.int .i64 hn, .string ha, .string hb] 40)) = w0 at q3 q4 hb0 dq3_0 dq3_1 dq3_2 ⊢
  refine (HC.out w0).mono ?_
  rintro e w1 ⟨rfl, hb1⟩
  have q3 := heap_on hb1 q3
  have q4 := heap_on hb1 q4
  have hb1 := below_on hb0 hb1
  clear hb0
  clear dq3_0 dq3_1 dq3_2
  have dq4_0 := heap_cell q4 0 _ rfl
  have dq4_1 := heap_cell q4 1 _ rfl
  have dq4_2 := heap_cell q4 2 _ rfl
  go_wp2_with fail
  refine (HH.out w1).mono ?_
  rintro e w2 ⟨rfl, hb2⟩
  have q3 := heap_on hb2 q3
  have q4 := heap_on hb2 q4
  have hb2 := below_on hb1 hb2
  clear hb1
  clear dq4_0 dq4_1 dq4_2
  go_wp2_with fail
  go_ret
  exact ⟨rfl, hb2⟩

set_option maxHeartbeats 1000000 in
set_option maxRecDepth 100000 in
theorem ccheck_late (cn : Int) (ca cb : ByteArray) (hn : Int) (ha hb : ByteArray) (w : World) (hc : headE cn ca cb = 0) (hh : headE hn ha hb = 0) (hl : hn < cn) :
    Calls Tryz.prog 68 #[.agg #[.int .i64 cn, .string ca, .string cb], .agg #[.int .i64 hn, .string ha, .string hb]] w fun e w' => e = .returned (.int .i64 6) ∧ Below w.heap.size w w' := by
  have HC := Lib.hid (ncheck_any cn ca cb)
  have HH := Lib.hid (ncheck_any hn ha hb)
  rw [hc] at HC
  rw [hh] at HH
  clear hc hh
  obtain ⟨q3, q4, hb0⟩ := boxes2 w (.cells #[.int .i64 cn, .string ca, .string cb] 40) (.cells #[.int .i64 hn, .string ha, .string hb] 40)
  have dq3_0 := heap_cell q3 0 _ rfl
  have dq3_1 := heap_cell q3 1 _ rfl
  have dq3_2 := heap_cell q3 2 _ rfl
  go_enter Tryz.func68, Tryz.ntmps68
  go_wp2_with fail
  generalize ((w.alloc (.cells #[.int .i64 cn, .string ca, .string cb] 40)).alloc (.cells #[.int .i64 hn, .string ha, .string hb] 40)) = w0 at q3 q4 hb0 dq3_0 dq3_1 dq3_2 ⊢
  refine (HC.out w0).mono ?_
  rintro e w1 ⟨rfl, hb1⟩
  have q3 := heap_on hb1 q3
  have q4 := heap_on hb1 q4
  have hb1 := below_on hb0 hb1
  clear hb0
  clear dq3_0 dq3_1 dq3_2
  have dq4_0 := heap_cell q4 0 _ rfl
  have dq4_1 := heap_cell q4 1 _ rfl
  have dq4_2 := heap_cell q4 2 _ rfl
  go_wp2_with fail
  refine (HH.out w1).mono ?_
  rintro e w2 ⟨rfl, hb2⟩
  have q3 := heap_on hb2 q3
  have q4 := heap_on hb2 q4
  have hb2 := below_on hb1 hb2
  clear hb1
  clear dq4_0 dq4_1 dq4_2
  have dq3_0 := heap_cell q3 0 _ rfl
  have dq4_0 := heap_cell q4 0 _ rfl
  go_wp2_with fail
  go_ret
  exact ⟨rfl, hb2⟩

set_option maxHeartbeats 1000000 in
set_option maxRecDepth 100000 in
theorem ccheck_ok (cn : Int) (ca cb : ByteArray) (hn : Int) (ha hb : ByteArray) (w : World) (hc : headE cn ca cb = 0) (hh : headE hn ha hb = 0) (hl : ¬ hn < cn) :
    Calls Tryz.prog 68 #[.agg #[.int .i64 cn, .string ca, .string cb], .agg #[.int .i64 hn, .string ha, .string hb]] w fun e w' => e = .returned (.int .i64 0) ∧ Below w.heap.size w w' := by
  have HC := Lib.hid (ncheck_any cn ca cb)
  have HH := Lib.hid (ncheck_any hn ha hb)
  rw [hc] at HC
  rw [hh] at HH
  clear hc hh
  obtain ⟨q3, q4, hb0⟩ := boxes2 w (.cells #[.int .i64 cn, .string ca, .string cb] 40) (.cells #[.int .i64 hn, .string ha, .string hb] 40)
  have dq3_0 := heap_cell q3 0 _ rfl
  have dq3_1 := heap_cell q3 1 _ rfl
  have dq3_2 := heap_cell q3 2 _ rfl
  go_enter Tryz.func68, Tryz.ntmps68
  go_wp2_with fail
  generalize ((w.alloc (.cells #[.int .i64 cn, .string ca, .string cb] 40)).alloc (.cells #[.int .i64 hn, .string ha, .string hb] 40)) = w0 at q3 q4 hb0 dq3_0 dq3_1 dq3_2 ⊢
  refine (HC.out w0).mono ?_
  rintro e w1 ⟨rfl, hb1⟩
  have q3 := heap_on hb1 q3
  have q4 := heap_on hb1 q4
  have hb1 := below_on hb0 hb1
  clear hb0
  clear dq3_0 dq3_1 dq3_2
  have dq4_0 := heap_cell q4 0 _ rfl
  have dq4_1 := heap_cell q4 1 _ rfl
  have dq4_2 := heap_cell q4 2 _ rfl
  go_wp2_with fail
  refine (HH.out w1).mono ?_
  rintro e w2 ⟨rfl, hb2⟩
  have q3 := heap_on hb2 q3
  have q4 := heap_on hb2 q4
  have hb2 := below_on hb1 hb2
  clear hb1
  clear dq4_0 dq4_1 dq4_2
  have dq3_0 := heap_cell q3 0 _ rfl
  have dq4_0 := heap_cell q4 0 _ rfl
  go_wp2_with fail
  go_ret
  exact ⟨rfl, hb2⟩

theorem ccheck_any (cn : Int) (ca cb : ByteArray) (hn : Int) (ha hb : ByteArray) (w : World) :
    Calls Tryz.prog 68 #[.agg #[.int .i64 cn, .string ca, .string cb], .agg #[.int .i64 hn, .string ha, .string hb]] w fun e w' => e = .returned (.int .i64 (chkE cn ca cb hn ha hb)) ∧ Below w.heap.size w w' := by
  unfold chkE
  by_cases hc : headE cn ca cb = 0
  · rw [if_neg (fun h => h hc)]
    by_cases hh : headE hn ha hb = 0
    · rw [if_neg (fun h => h hh)]
      by_cases hl : hn < cn
      · rw [if_pos hl]
        exact ccheck_late cn ca cb hn ha hb w hc hh hl
      · rw [if_neg hl]
        exact ccheck_ok cn ca cb hn ha hb w hc hh hl
    · rw [if_pos hh]
      exact ccheck_h cn ca cb hn ha hb w hc _ rfl hh
  · rw [if_pos hc]
    exact ccheck_c cn ca cb hn ha hb w _ rfl hc

set_option maxHeartbeats 1000000 in
set_option maxRecDepth 100000 in
theorem goes_first (cn : Int) (ca cb : ByteArray) (hn : Int) (ha hb : ByteArray) (x : List ByteArray) (a : Option Addr) (k c : Nat) (w : World) (hS : StrsAt w a c x) (h0 : cn = 0) (hk0 : k = 0) :
    Calls Tryz.prog 69 #[.agg #[.int .i64 cn, .string ca, .string cb], .agg #[.int .i64 hn, .string ha, .string hb], .slice a k c] w fun e w' => e = .returned (.bool true) ∧ Below w.heap.size w w' := by
  have g2 : (k : Int) = 0 := by omega
  have g1 : (cn == 0) = true := by rw [h0]; rfl
  clear h0
  have hcap := hS.cap
  have hmax := hS.max
  obtain ⟨q3, q4, hb0⟩ := boxes2 w (.cells #[.int .i64 cn, .string ca, .string cb] 40) (.cells #[.int .i64 hn, .string ha, .string hb] 40)
  have dq3_0 := heap_cell q3 0 _ rfl
  have dq3_1 := heap_cell q3 1 _ rfl
  have dq3_2 := heap_cell q3 2 _ rfl
  have dq4_0 := heap_cell q4 0 _ rfl
  have dq4_1 := heap_cell q4 1 _ rfl
  have dq4_2 := heap_cell q4 2 _ rfl
  go_enter Tryz.func69, Tryz.ntmps69
  go_wp2_with fail
  generalize ((w.alloc (.cells #[.int .i64 cn, .string ca, .string cb] 40)).alloc (.cells #[.int .i64 hn, .string ha, .string hb] 40)) = w0 at q3 q4 hb0 dq3_0 dq3_1 dq3_2 dq4_0 dq4_1 dq4_2 ⊢
  go_ret
  exact ⟨rfl, hb0⟩

set_option maxHeartbeats 1000000 in
set_option maxRecDepth 100000 in
theorem goes_much (cn : Int) (ca cb : ByteArray) (hn : Int) (ha hb : ByteArray) (x : List ByteArray) (a : Option Addr) (k c : Nat) (w : World) (hS : StrsAt w a c x) (h0 : cn = 0) (hk0 : ¬ k = 0) :
    Calls Tryz.prog 69 #[.agg #[.int .i64 cn, .string ca, .string cb], .agg #[.int .i64 hn, .string ha, .string hb], .slice a k c] w fun e w' => e = .returned (.bool false) ∧ Below w.heap.size w w' := by
  have g2 : ((k : Int) == 0) = false := by simp only [beq_eq_false_iff_ne, ne_eq]; omega
  have g1 : (cn == 0) = true := by rw [h0]; rfl
  clear h0
  have hcap := hS.cap
  have hmax := hS.max
  obtain ⟨q3, q4, hb0⟩ := boxes2 w (.cells #[.int .i64 cn, .string ca, .string cb] 40) (.cells #[.int .i64 hn, .string ha, .string hb] 40)
  have dq3_0 := heap_cell q3 0 _ rfl
  have dq3_1 := heap_cell q3 1 _ rfl
  have dq3_2 := heap_cell q3 2 _ rfl
  have dq4_0 := heap_cell q4 0 _ rfl
  have dq4_1 := heap_cell q4 1 _ rfl
  have dq4_2 := heap_cell q4 2 _ rfl
  go_enter Tryz.func69, Tryz.ntmps69
  go_wp2_with fail
  generalize ((w.alloc (.cells #[.int .i64 cn, .string ca, .string cb] 40)).alloc (.cells #[.int .i64 hn, .string ha, .string hb] 40)) = w0 at q3 q4 hb0 dq3_0 dq3_1 dq3_2 dq4_0 dq4_1 dq4_2 ⊢
  go_ret
  exact ⟨rfl, hb0⟩

set_option maxHeartbeats 1000000 in
set_option maxRecDepth 100000 in
theorem goes_map (cn : Int) (ca cb : ByteArray) (hn : Int) (ha hb : ByteArray) (x : List ByteArray) (a : Option Addr) (k c : Nat) (w : World) (hS : StrsAt w a c x) (h0 : cn ≠ 0) (he : hn = cn) (hm : hb ≠ cb) :
    Calls Tryz.prog 69 #[.agg #[.int .i64 cn, .string ca, .string cb], .agg #[.int .i64 hn, .string ha, .string hb], .slice a k c] w fun e w' => e = .returned (.bool false) ∧ Below w.heap.size w w' := by
  have g1 : (cn == 0) = false := by simp only [beq_eq_false_iff_ne, ne_eq]; exact h0
  have g3 : (cn == hn) = true := by rw [he]; simp
  have g4 := str_ne (fun h => hm h.symm)
  clear he hm
  have hcap := hS.cap
  have hmax := hS.max
  obtain ⟨q3, q4, hb0⟩ := boxes2 w (.cells #[.int .i64 cn, .string ca, .string cb] 40) (.cells #[.int .i64 hn, .string ha, .string hb] 40)
  have dq3_0 := heap_cell q3 0 _ rfl
  have dq3_1 := heap_cell q3 1 _ rfl
  have dq3_2 := heap_cell q3 2 _ rfl
  have dq4_0 := heap_cell q4 0 _ rfl
  have dq4_1 := heap_cell q4 1 _ rfl
  have dq4_2 := heap_cell q4 2 _ rfl
  go_enter Tryz.func69, Tryz.ntmps69
  go_wp2_with fail
  generalize ((w.alloc (.cells #[.int .i64 cn, .string ca, .string cb] 40)).alloc (.cells #[.int .i64 hn, .string ha, .string hb] 40)) = w0 at q3 q4 hb0 dq3_0 dq3_1 dq3_2 dq4_0 dq4_1 dq4_2 ⊢
  go_ret
  exact ⟨rfl, hb0⟩

set_option maxHeartbeats 1000000 in
set_option maxRecDepth 100000 in
theorem goes_same (cn : Int) (ca cb : ByteArray) (hn : Int) (ha hb : ByteArray) (x : List ByteArray) (a : Option Addr) (k c : Nat) (w : World) (hk : x.length = k) (hE : Tab w) (hS : StrsAt w a c x) (hold : ca.size ≤ 9223372036854775807) (h0 : cn ≠ 0) (he : hn = cn) (hm : hb = cb) (z : Int) (hz : growE ca cn ha hn x = z) :
    Calls Tryz.prog 69 #[.agg #[.int .i64 cn, .string ca, .string cb], .agg #[.int .i64 hn, .string ha, .string hb], .slice a k c] w fun e w' => e = .returned (.bool (z == 0)) ∧ Below w.heap.size w w' := by
  have g1 : (cn == 0) = false := by simp only [beq_eq_false_iff_ne, ne_eq]; exact h0
  have hg := fun w hE hS => growShows_any ca cn ha hn x a k c w hk hE hS hold
  rw [hz] at hg
  have HG := Lib.hid hg
  clear hg hz
  have g3 : (cn == hn) = true := by rw [he]; simp
  have g4 := str_eq hm.symm
  clear he hm
  have hcap := hS.cap
  have hmax := hS.max
  obtain ⟨q3, q4, hb0⟩ := boxes2 w (.cells #[.int .i64 cn, .string ca, .string cb] 40) (.cells #[.int .i64 hn, .string ha, .string hb] 40)
  have dq3_0 := heap_cell q3 0 _ rfl
  have dq3_1 := heap_cell q3 1 _ rfl
  have dq3_2 := heap_cell q3 2 _ rfl
  have dq4_0 := heap_cell q4 0 _ rfl
  have dq4_1 := heap_cell q4 1 _ rfl
  have dq4_2 := heap_cell q4 2 _ rfl
  go_enter Tryz.func69, Tryz.ntmps69
  go_wp2_with fail
  generalize ((w.alloc (.cells #[.int .i64 cn, .string ca, .string cb] 40)).alloc (.cells #[.int .i64 hn, .string ha, .string hb] 40)) = w0 at q3 q4 hb0 dq3_0 dq3_1 dq3_2 dq4_0 dq4_1 dq4_2 ⊢
  refine (HG.out w0 (hE.on hb0) (hS.on hb0)).mono ?_
  rintro e w1 ⟨rfl, hb1⟩
  have q3 := heap_on hb1 q3
  have q4 := heap_on hb1 q4
  have hb1 := below_on hb0 hb1
  clear hb0
  clear dq3_0 dq3_1 dq3_2 dq4_0 dq4_1 dq4_2
  go_wp2_with fail
  go_ret
  exact ⟨rfl, hb1⟩

set_option maxHeartbeats 1000000 in
set_option maxRecDepth 100000 in
theorem goes_more (cn : Int) (ca cb : ByteArray) (hn : Int) (ha hb : ByteArray) (x : List ByteArray) (a : Option Addr) (k c : Nat) (w : World) (hk : x.length = k) (hE : Tab w) (hS : StrsAt w a c x) (hold : ca.size ≤ 9223372036854775807) (h0 : cn ≠ 0) (he : hn ≠ cn) (z : Int) (hz : growE ca cn ha hn x = z) :
    Calls Tryz.prog 69 #[.agg #[.int .i64 cn, .string ca, .string cb], .agg #[.int .i64 hn, .string ha, .string hb], .slice a k c] w fun e w' => e = .returned (.bool (z == 0)) ∧ Below w.heap.size w w' := by
  have g1 : (cn == 0) = false := by simp only [beq_eq_false_iff_ne, ne_eq]; exact h0
  have hg := fun w hE hS => growShows_any ca cn ha hn x a k c w hk hE hS hold
  rw [hz] at hg
  have HG := Lib.hid hg
  clear hg hz
  have g3 : (cn == hn) = false := by simp only [beq_eq_false_iff_ne, ne_eq]; exact fun h => he h.symm
  clear he
  have hcap := hS.cap
  have hmax := hS.max
  obtain ⟨q3, q4, hb0⟩ := boxes2 w (.cells #[.int .i64 cn, .string ca, .string cb] 40) (.cells #[.int .i64 hn, .string ha, .string hb] 40)
  have dq3_0 := heap_cell q3 0 _ rfl
  have dq3_1 := heap_cell q3 1 _ rfl
  have dq3_2 := heap_cell q3 2 _ rfl
  have dq4_0 := heap_cell q4 0 _ rfl
  have dq4_1 := heap_cell q4 1 _ rfl
  have dq4_2 := heap_cell q4 2 _ rfl
  go_enter Tryz.func69, Tryz.ntmps69
  go_wp2_with fail
  generalize ((w.alloc (.cells #[.int .i64 cn, .string ca, .string cb] 40)).alloc (.cells #[.int .i64 hn, .string ha, .string hb] 40)) = w0 at q3 q4 hb0 dq3_0 dq3_1 dq3_2 dq4_0 dq4_1 dq4_2 ⊢
  refine (HG.out w0 (hE.on hb0) (hS.on hb0)).mono ?_
  rintro e w1 ⟨rfl, hb1⟩
  have q3 := heap_on hb1 q3
  have q4 := heap_on hb1 q4
  have hb1 := below_on hb0 hb1
  clear hb0
  clear dq3_0 dq3_1 dq3_2 dq4_0 dq4_1 dq4_2
  go_wp2_with fail
  go_ret
  exact ⟨rfl, hb1⟩

theorem goes_any (cn : Int) (ca cb : ByteArray) (hn : Int) (ha hb : ByteArray) (x : List ByteArray) (a : Option Addr) (k c : Nat) (w : World) (hk : x.length = k) (hE : Tab w) (hS : StrsAt w a c x) (hold : ca.size ≤ 9223372036854775807) :
    Calls Tryz.prog 69 #[.agg #[.int .i64 cn, .string ca, .string cb], .agg #[.int .i64 hn, .string ha, .string hb], .slice a k c] w fun e w' => e = .returned (.bool (decide (goodF cn ca cb hn ha hb x))) ∧ Below w.heap.size w w' := by
  by_cases h0 : cn = 0
  · by_cases hk0 : k = 0
    · have h : goodF cn ca cb hn ha hb x := by unfold goodF; rw [if_pos h0]; exact List.length_eq_zero_iff.1 (by omega)
      rw [decide_eq_true h]
      exact goes_first cn ca cb hn ha hb x a k c w hS h0 hk0
    · have h : ¬ goodF cn ca cb hn ha hb x := by unfold goodF; rw [if_pos h0]; intro h; rw [h] at hk; exact hk0 hk.symm
      rw [decide_eq_false h]
      exact goes_much cn ca cb hn ha hb x a k c w hS h0 hk0
  by_cases he : hn = cn
  · by_cases hm : hb = cb
    · have h : decide (goodF cn ca cb hn ha hb x) = (growE ca cn ha hn x == 0) := by
        rw [Bool.eq_iff_iff, decide_eq_true_iff, beq_iff_eq]; unfold goodF; rw [if_neg h0]; exact ⟨fun h => h.1, fun h => ⟨h, fun _ => hm⟩⟩
      rw [h]
      exact goes_same cn ca cb hn ha hb x a k c w hk hE hS hold h0 he hm _ rfl
    · have h : ¬ goodF cn ca cb hn ha hb x := by unfold goodF; rw [if_neg h0]; exact fun h => hm (h.2 he)
      rw [decide_eq_false h]
      exact goes_map cn ca cb hn ha hb x a k c w hS h0 he hm
  · have h : decide (goodF cn ca cb hn ha hb x) = (growE ca cn ha hn x == 0) := by
      rw [Bool.eq_iff_iff, decide_eq_true_iff, beq_iff_eq]; unfold goodF; rw [if_neg h0]; exact ⟨fun h => h.1, fun h => ⟨h, fun e => absurd e he⟩⟩
    rw [h]
    exact goes_more cn ca cb hn ha hb x a k c w hk hE hS hold h0 he _ rfl

set_option maxHeartbeats 1000000 in
set_option maxRecDepth 100000 in
theorem follow_bad (cn : Int) (ca cb : ByteArray) (cf : Bool) (hn : Int) (ha hb : ByteArray) (a : Option Addr) (k c : Nat) (w : World) (z : Int) (hz : chkE cn ca cb hn ha hb = z) (h0 : z ≠ 0) :
    Calls Tryz.prog 61 #[.agg #[.int .i64 cn, .string ca, .string cb, .bool cf], .agg #[.int .i64 hn, .string ha, .string hb], .slice a k c] w fun e w' => e = .returned (.tuple #[.agg #[.int .i64 0, .string ⟨#[]⟩, .string ⟨#[]⟩, .bool false], .int .i64 z]) ∧ Below w.heap.size w w' := by
  have hc := ccheck_any cn ca cb hn ha hb
  rw [hz] at hc
  have HC := Lib.hid hc
  clear hc
  have hz1 : (z == 0) = false := by simp only [beq_eq_false_iff_ne, ne_eq]; exact h0
  clear hz
  obtain ⟨q3, q4, q6, _⟩ := boxes3 w (.cells #[.int .i64 cn, .string ca, .string cb, .bool cf] 42) (.cells #[.int .i64 hn, .string ha, .string hb] 40) (.cells #[.int .i64 0, .string ⟨#[]⟩, .string ⟨#[]⟩, .bool false] 42)
  have hb0 := below3 w (.cells #[.int .i64 cn, .string ca, .string cb, .bool cf] 42) (.cells #[.int .i64 hn, .string ha, .string hb] 40) (.cells #[.int .i64 0, .string ⟨#[]⟩, .string ⟨#[]⟩, .bool false] 42)
  have dq3_0 := heap_cell q3 0 _ rfl
  have dq3_1 := heap_cell q3 1 _ rfl
  have dq3_2 := heap_cell q3 2 _ rfl
  have dq4_0 := heap_cell q4 0 _ rfl
  have dq4_1 := heap_cell q4 1 _ rfl
  have dq4_2 := heap_cell q4 2 _ rfl
  go_enter Tryz.func61, Tryz.ntmps61
  go_wp2_with fail
  generalize (((w.alloc (.cells #[.int .i64 cn, .string ca, .string cb, .bool cf] 42)).alloc (.cells #[.int .i64 hn, .string ha, .string hb] 40)).alloc (.cells #[.int .i64 0, .string ⟨#[]⟩, .string ⟨#[]⟩, .bool false] 42)) = w0 at q3 q4 q6 hb0 dq3_0 dq3_1 dq3_2 dq4_0 dq4_1 dq4_2 ⊢
  refine (HC.out w0).mono ?_
  rintro e w1 ⟨rfl, hb1⟩
  have q3 := heap_on hb1 q3
  have q4 := heap_on hb1 q4
  have q6 := heap_on hb1 q6
  have hb1 := below_on hb0 hb1
  clear hb0
  clear dq3_0 dq3_1 dq3_2 dq4_0 dq4_1 dq4_2
  go_wp2_with (refine wpList_store_row rfl 42 (.tmp 6) (.tmp 15) rfl (w.heap.size + 1 + 1) #[.int .i64 0, .string ⟨#[]⟩, .string ⟨#[]⟩, .bool false] rfl rfl _ _ q6 (by kernel_rfl) rfl (client_cells _ _ _ _) ?_)
  have hbz := below_setRow hb1 (g := w.heap.size + 1 + 1) (by omega) #[.int .i64 0, .string ⟨#[]⟩, .string ⟨#[]⟩, .bool false]
  refine bodyPost_ret (results_row_tmp rfl _ _ (w.heap.size + 1 + 1) _ _ _ _ rfl (setRow_heap _ _ _ _ _ _ q6) Tryz.underlying42 rfl (by kernel_rfl)) rfl ?_
  exact ⟨rfl, hbz⟩

set_option maxHeartbeats 1000000 in
set_option maxRecDepth 100000 in
theorem follow_not (cn : Int) (ca cb : ByteArray) (cf : Bool) (hn : Int) (ha hb : ByteArray) (x : List ByteArray) (a : Option Addr) (k c : Nat) (w : World) (hk : x.length = k) (hE : Tab w) (hS : StrsAt w a c x) (hold : ca.size ≤ 9223372036854775807) (hz : chkE cn ca cb hn ha hb = 0) (hg : ¬ goodF cn ca cb hn ha hb x) :
    Calls Tryz.prog 61 #[.agg #[.int .i64 cn, .string ca, .string cb, .bool cf], .agg #[.int .i64 hn, .string ha, .string hb], .slice a k c] w fun e w' => e = .returned (.tuple #[.agg #[.int .i64 cn, .string ca, .string cb, .bool true], .int .i64 7]) ∧ Below w.heap.size w w' := by
  have hc := ccheck_any cn ca cb hn ha hb
  rw [hz] at hc
  have HC := Lib.hid hc
  clear hc
  have hw := fun w hE hS => goes_any cn ca cb hn ha hb x a k c w hk hE hS hold
  rw [decide_eq_false hg] at hw
  have HG := Lib.hid hw
  clear hw hz
  have hcap := hS.cap
  have hmax := hS.max
  obtain ⟨q3, q4, q6, _⟩ := boxes3 w (.cells #[.int .i64 cn, .string ca, .string cb, .bool cf] 42) (.cells #[.int .i64 hn, .string ha, .string hb] 40) (.cells #[.int .i64 0, .string ⟨#[]⟩, .string ⟨#[]⟩, .bool false] 42)
  have hb0 := below3 w (.cells #[.int .i64 cn, .string ca, .string cb, .bool cf] 42) (.cells #[.int .i64 hn, .string ha, .string hb] 40) (.cells #[.int .i64 0, .string ⟨#[]⟩, .string ⟨#[]⟩, .bool false] 42)
  have dq3_0 := heap_cell q3 0 _ rfl
  have dq3_1 := heap_cell q3 1 _ rfl
  have dq3_2 := heap_cell q3 2 _ rfl
  have dq4_0 := heap_cell q4 0 _ rfl
  have dq4_1 := heap_cell q4 1 _ rfl
  have dq4_2 := heap_cell q4 2 _ rfl
  go_enter Tryz.func61, Tryz.ntmps61
  go_wp2_with fail
  generalize (((w.alloc (.cells #[.int .i64 cn, .string ca, .string cb, .bool cf] 42)).alloc (.cells #[.int .i64 hn, .string ha, .string hb] 40)).alloc (.cells #[.int .i64 0, .string ⟨#[]⟩, .string ⟨#[]⟩, .bool false] 42)) = w0 at q3 q4 q6 hb0 dq3_0 dq3_1 dq3_2 dq4_0 dq4_1 dq4_2 ⊢
  refine (HC.out w0).mono ?_
  rintro e w1 ⟨rfl, hb1⟩
  have q3 := heap_on hb1 q3
  have q4 := heap_on hb1 q4
  have q6 := heap_on hb1 q6
  have hb1 := below_on hb0 hb1
  clear hb0
  clear dq3_0 dq3_1 dq3_2 dq4_0 dq4_1 dq4_2
  have dq3_0 := heap_cell q3 0 _ rfl
  have dq3_1 := heap_cell q3 1 _ rfl
  have dq3_2 := heap_cell q3 2 _ rfl
  have dq4_0 := heap_cell q4 0 _ rfl
  have dq4_1 := heap_cell q4 1 _ rfl
  have dq4_2 := heap_cell q4 2 _ rfl
  go_wp2_with fail
  refine (HG.out w1 (hE.on hb1) (hS.on hb1)).mono ?_
  rintro e w2 ⟨rfl, hb2⟩
  have q3 := heap_on hb2 q3
  have q4 := heap_on hb2 q4
  have q6 := heap_on hb2 q6
  have hb2 := below_on hb1 hb2
  clear hb1
  clear dq3_0 dq3_1 dq3_2 dq4_0 dq4_1 dq4_2
  have dq3_0 := heap_cell q3 0 _ rfl
  have dq3_1 := heap_cell q3 1 _ rfl
  have dq3_2 := heap_cell q3 2 _ rfl
  have dq3_3 := heap_cell q3 3 _ rfl
  have dq4_0 := heap_cell q4 0 _ rfl
  have dq4_1 := heap_cell q4 1 _ rfl
  have dq4_2 := heap_cell q4 2 _ rfl
  go_wp2_with (refine wpList_store_row rfl 42 (.tmp 6) (.tmp 25) rfl (w.heap.size + 1 + 1) #[.int .i64 cn, .string ca, .string cb, .bool true] rfl rfl _ _ q6 (by kernel_rfl) rfl (client_cells _ _ _ _) ?_)
  have hbz := below_setRow hb2 (g := w.heap.size + 1 + 1) (by omega) #[.int .i64 cn, .string ca, .string cb, .bool true]
  refine bodyPost_ret (results_row_tmp rfl _ _ (w.heap.size + 1 + 1) _ _ _ _ rfl (setRow_heap _ _ _ _ _ _ q6) Tryz.underlying42 rfl (by kernel_rfl)) rfl ?_
  exact ⟨rfl, hbz⟩

set_option maxHeartbeats 1000000 in
set_option maxRecDepth 100000 in
theorem follow_good (cn : Int) (ca cb : ByteArray) (cf : Bool) (hn : Int) (ha hb : ByteArray) (x : List ByteArray) (a : Option Addr) (k c : Nat) (w : World) (hk : x.length = k) (hE : Tab w) (hS : StrsAt w a c x) (hold : ca.size ≤ 9223372036854775807) (hz : chkE cn ca cb hn ha hb = 0) (hg : goodF cn ca cb hn ha hb x) :
    Calls Tryz.prog 61 #[.agg #[.int .i64 cn, .string ca, .string cb, .bool cf], .agg #[.int .i64 hn, .string ha, .string hb], .slice a k c] w fun e w' => e = .returned (.tuple #[.agg #[.int .i64 hn, .string ha, .string hb, .bool cf], .int .i64 0]) ∧ Below w.heap.size w w' := by
  have hc := ccheck_any cn ca cb hn ha hb
  rw [hz] at hc
  have HC := Lib.hid hc
  clear hc
  have hw := fun w hE hS => goes_any cn ca cb hn ha hb x a k c w hk hE hS hold
  rw [decide_eq_true hg] at hw
  have HG := Lib.hid hw
  clear hw hz
  have hcap := hS.cap
  have hmax := hS.max
  obtain ⟨q3, q4, q6, _⟩ := boxes3 w (.cells #[.int .i64 cn, .string ca, .string cb, .bool cf] 42) (.cells #[.int .i64 hn, .string ha, .string hb] 40) (.cells #[.int .i64 0, .string ⟨#[]⟩, .string ⟨#[]⟩, .bool false] 42)
  have hb0 := below3 w (.cells #[.int .i64 cn, .string ca, .string cb, .bool cf] 42) (.cells #[.int .i64 hn, .string ha, .string hb] 40) (.cells #[.int .i64 0, .string ⟨#[]⟩, .string ⟨#[]⟩, .bool false] 42)
  have dq3_0 := heap_cell q3 0 _ rfl
  have dq3_1 := heap_cell q3 1 _ rfl
  have dq3_2 := heap_cell q3 2 _ rfl
  have dq4_0 := heap_cell q4 0 _ rfl
  have dq4_1 := heap_cell q4 1 _ rfl
  have dq4_2 := heap_cell q4 2 _ rfl
  go_enter Tryz.func61, Tryz.ntmps61
  go_wp2_with fail
  generalize (((w.alloc (.cells #[.int .i64 cn, .string ca, .string cb, .bool cf] 42)).alloc (.cells #[.int .i64 hn, .string ha, .string hb] 40)).alloc (.cells #[.int .i64 0, .string ⟨#[]⟩, .string ⟨#[]⟩, .bool false] 42)) = w0 at q3 q4 q6 hb0 dq3_0 dq3_1 dq3_2 dq4_0 dq4_1 dq4_2 ⊢
  refine (HC.out w0).mono ?_
  rintro e w1 ⟨rfl, hb1⟩
  have q3 := heap_on hb1 q3
  have q4 := heap_on hb1 q4
  have q6 := heap_on hb1 q6
  have hb1 := below_on hb0 hb1
  clear hb0
  clear dq3_0 dq3_1 dq3_2 dq4_0 dq4_1 dq4_2
  have dq3_0 := heap_cell q3 0 _ rfl
  have dq3_1 := heap_cell q3 1 _ rfl
  have dq3_2 := heap_cell q3 2 _ rfl
  have dq4_0 := heap_cell q4 0 _ rfl
  have dq4_1 := heap_cell q4 1 _ rfl
  have dq4_2 := heap_cell q4 2 _ rfl
  go_wp2_with fail
  refine (HG.out w1 (hE.on hb1) (hS.on hb1)).mono ?_
  rintro e w2 ⟨rfl, hb2⟩
  have q3 := heap_on hb2 q3
  have q4 := heap_on hb2 q4
  have q6 := heap_on hb2 q6
  have hb2 := below_on hb1 hb2
  clear hb1
  clear dq3_0 dq3_1 dq3_2 dq4_0 dq4_1 dq4_2
  have dq3_0 := heap_cell q3 0 _ rfl
  have dq3_1 := heap_cell q3 1 _ rfl
  have dq3_2 := heap_cell q3 2 _ rfl
  have dq3_3 := heap_cell q3 3 _ rfl
  have dq4_0 := heap_cell q4 0 _ rfl
  have dq4_1 := heap_cell q4 1 _ rfl
  have dq4_2 := heap_cell q4 2 _ rfl
  go_wp2_with (refine wpList_store_row rfl 42 (.tmp 6) (.tmp 29) rfl (w.heap.size + 1 + 1) #[.int .i64 hn, .string ha, .string hb, .bool cf] rfl rfl _ _ q6 (by kernel_rfl) rfl (client_cells _ _ _ _) ?_)
  have hbz := below_setRow hb2 (g := w.heap.size + 1 + 1) (by omega) #[.int .i64 hn, .string ha, .string hb, .bool cf]
  refine bodyPost_ret (results_row_tmp rfl _ _ (w.heap.size + 1 + 1) _ _ _ _ rfl (setRow_heap _ _ _ _ _ _ q6) Tryz.underlying42 rfl (by kernel_rfl)) rfl ?_
  exact ⟨rfl, hbz⟩

theorem follow_any (cn : Int) (ca cb : ByteArray) (cf : Bool) (hn : Int) (ha hb : ByteArray) (x : List ByteArray) (a : Option Addr) (k c : Nat) (w : World) (hk : x.length = k) (hE : Tab w) (hS : StrsAt w a c x) :
    Calls Tryz.prog 61 #[.agg #[.int .i64 cn, .string ca, .string cb, .bool cf], .agg #[.int .i64 hn, .string ha, .string hb], .slice a k c] w fun e w' => e = .returned (.tuple #[.agg #[.int .i64 (folN cn ca cb hn ha hb x), .string (folA cn ca cb hn ha hb x), .string (folB cn ca cb hn ha hb x), .bool (folF cn ca cb cf hn ha hb x)], .int .i64 (followE cn ca cb hn ha hb x)]) ∧ Below w.heap.size w w' := by
  by_cases hc : headE cn ca cb = 0
  · by_cases hh : headE hn ha hb = 0
    · by_cases hl : hn < cn
      · have e := follow_late (l := x) hc hh hl
        obtain ⟨e1, e2, e3, e4⟩ := fol_bad (cf := cf) e (by omega) (by omega)
        rw [e1, e2, e3, e4, e]
        exact follow_bad cn ca cb cf hn ha hb a k c w 6 (by unfold chkE; rw [if_neg (fun h => h hc), if_neg (fun h => h hh), if_pos hl]) (by omega)
      · have hz : chkE cn ca cb hn ha hb = 0 := by unfold chkE; rw [if_neg (fun h => h hc), if_neg (fun h => h hh), if_neg hl]
        obtain ⟨_, _, c3, _⟩ := (headE_iff cn ca cb).1 hc
        by_cases hg : goodF cn ca cb hn ha hb x
        · have e := follow_yes (l := x) hc hh hl hg
          obtain ⟨e1, e2, e3, e4⟩ := fol_zero (cf := cf) e
          rw [e1, e2, e3, e4, e]
          exact follow_good cn ca cb cf hn ha hb x a k c w hk hE hS (by omega) hz hg
        · have e := follow_no (l := x) hc hh hl hg
          obtain ⟨e1, e2, e3, e4⟩ := fol_seven (cf := cf) e
          rw [e1, e2, e3, e4, e]
          exact follow_not cn ca cb cf hn ha hb x a k c w hk hE hS (by omega) hz hg
    · have e := follow_h (l := x) hc rfl hh
      obtain ⟨e1, e2, e3, e4⟩ := fol_bad (cf := cf) e hh (by rcases headE_or hn ha hb with h | h | h <;> omega)
      rw [e1, e2, e3, e4, e]
      exact follow_bad cn ca cb cf hn ha hb a k c w _ (by unfold chkE; rw [if_neg (fun h => h hc), if_pos hh]) hh
  · have e := follow_c (hn := hn) (ha := ha) (hb := hb) (l := x) rfl hc
    obtain ⟨e1, e2, e3, e4⟩ := fol_bad (cf := cf) e hc (by rcases headE_or cn ca cb with h | h | h <;> omega)
    rw [e1, e2, e3, e4, e]
    exact follow_bad cn ca cb cf hn ha hb a k c w _ (by unfold chkE; rw [if_pos hc]) hc




set_option maxHeartbeats 1000000 in
set_option maxRecDepth 100000 in
theorem finds_bad (cn : Int) (ca cb : ByteArray) (cf : Bool) (k : Int) (v : ByteArray) (t : Bool) (a : Option Addr) (n c : Nat) (w : World) (z : Int) (hz : headE cn ca cb = z) (hz0 : z ≠ 0) :
    Calls Tryz.prog 65 #[.agg #[.int .i64 cn, .string ca, .string cb, .bool cf], .int .i64 k, .string v, .bool t, .slice a n c] w fun e w' => e = .returned (.int .i64 z) ∧ Below w.heap.size w w' := by
  have HC := Lib.hid (ncheck_any cn ca cb)
  rw [hz] at HC
  have g1 : (z == 0) = false := by simp only [beq_eq_false_iff_ne, ne_eq]; exact hz0
  clear hz
  have q5 := heap_push w (.cells #[.int .i64 cn, .string ca, .string cb, .bool cf] 42)
  have hb0 : Below w.heap.size w (w.alloc (.cells #[.int .i64 cn, .string ca, .string cb, .bool cf] 42)) := (Below.refl _ _).alloc (Nat.le_refl _) _
  have dq5_0 := heap_cell q5 0 _ rfl
  have dq5_1 := heap_cell q5 1 _ rfl
  have dq5_2 := heap_cell q5 2 _ rfl
  go_enter Tryz.func65, Tryz.ntmps65
  go_wp2_with fail
  generalize (w.alloc (.cells #[.int .i64 cn, .string ca, .string cb, .bool cf] 42)) = w0 at q5 hb0 dq5_0 dq5_1 dq5_2 ⊢
  refine (HC.out w0).mono ?_
  rintro e w1 ⟨rfl, hb1⟩
  have q5 := heap_on hb1 q5
  have hb1 := below_on hb0 hb1
  clear hb0
  clear dq5_0 dq5_1 dq5_2
  go_wp2_with fail
  go_ret
  exact ⟨rfl, hb1⟩

set_option maxHeartbeats 1000000 in
set_option maxRecDepth 100000 in
theorem finds_ok (cn : Int) (ca cb : ByteArray) (cf : Bool) (k : Int) (v : ByteArray) (t : Bool) (x : List ByteArray) (a : Option Addr) (n c : Nat) (w : World) (hE : Tab w) (hS : StrsAt w a c x) (hn : x.length = n) (hc : headE cn ca cb = 0) :
    Calls Tryz.prog 65 #[.agg #[.int .i64 cn, .string ca, .string cb, .bool cf], .int .i64 k, .string v, .bool t, .slice a n c] w fun e w' => e = .returned (.int .i64 (trieE cb k v t x)) ∧ Below w.heap.size w w' := by
  have HC := Lib.hid (ncheck_any cn ca cb)
  rw [hc] at HC
  have HP := Lib.hid (fun w hE hS => tshows_any cb k v t x a n c w hE hS hn)
  generalize trieE cb k v t x = y at HP ⊢
  clear hc
  have hcap := hS.cap
  have hmax := hS.max
  have q5 := heap_push w (.cells #[.int .i64 cn, .string ca, .string cb, .bool cf] 42)
  have hb0 : Below w.heap.size w (w.alloc (.cells #[.int .i64 cn, .string ca, .string cb, .bool cf] 42)) := (Below.refl _ _).alloc (Nat.le_refl _) _
  have dq5_0 := heap_cell q5 0 _ rfl
  have dq5_1 := heap_cell q5 1 _ rfl
  have dq5_2 := heap_cell q5 2 _ rfl
  go_enter Tryz.func65, Tryz.ntmps65
  go_wp2_with fail
  generalize (w.alloc (.cells #[.int .i64 cn, .string ca, .string cb, .bool cf] 42)) = w0 at q5 hb0 dq5_0 dq5_1 dq5_2 ⊢
  refine (HC.out w0).mono ?_
  rintro e w1 ⟨rfl, hb1⟩
  have q5 := heap_on hb1 q5
  have hb1 := below_on hb0 hb1
  clear hb0
  clear dq5_0 dq5_1 dq5_2
  have dq5_0 := heap_cell q5 0 _ rfl
  have dq5_1 := heap_cell q5 1 _ rfl
  have dq5_2 := heap_cell q5 2 _ rfl
  go_wp2_with fail
  refine (HP.out w1 (hE.on hb1) (hS.on hb1)).mono ?_
  rintro e w2 ⟨rfl, hb2⟩
  have q5 := heap_on hb2 q5
  have hb2 := below_on hb1 hb2
  clear hb1
  go_wp2_with fail
  go_ret
  exact ⟨rfl, hb2⟩

theorem finds_any (cn : Int) (ca cb : ByteArray) (cf : Bool) (k : Int) (v : ByteArray) (t : Bool) (x : List ByteArray) (a : Option Addr) (n c : Nat) (w : World) (hE : Tab w) (hS : StrsAt w a c x) (hn : x.length = n) :
    Calls Tryz.prog 65 #[.agg #[.int .i64 cn, .string ca, .string cb, .bool cf], .int .i64 k, .string v, .bool t, .slice a n c] w fun e w' => e = .returned (.int .i64 (findsE cn ca cb k v t x)) ∧ Below w.heap.size w w' := by
  unfold findsE
  by_cases hc : headE cn ca cb = 0
  · rw [if_neg (fun h => h hc)]
    exact finds_ok cn ca cb cf k v t x a n c w hE hS hn hc
  · rw [if_pos hc]
    exact finds_bad cn ca cb cf k v t a n c w _ rfl hc
end Go.Proofs.YtnemiobgmdpnmagGreatFmt
