/-
  Contracts of package meet over this seat's dump.
-/
import Derived.Test.YtnemiobgmdpnmagGreatFmtMaths
import Derived.Test.YtnemiobgmdpnmagGreatFmtShown
import Derived.Test.YtnemiobgmdpnmagGreatFmtBooks
import Derived.Deep.DeepCutAuto
import Derived.Laws.CopyOwn
namespace Go.Proofs.YtnemiobgmdpnmagGreatFmt
open Go Go.RowKit

/- Both heads may be: of the first one is told first. -/
def bothE (an : Int) (aa ab : ByteArray) (bn : Int) (ba bb : ByteArray) : Int :=
  if headE an aa ab ≠ 0 then headE an aa ab else headE bn ba bb
/- Three cells that are set one by one are one row. -/
theorem hrow3 {w : World} {g : Nat} {x y z : Value} {t : TypeId} (h : w.heap[g]? = some (.cells #[x, y, z] t)) (u v s : Value) : ((w.setCell ⟨g, 0, none⟩ u).setCell ⟨g, 1, none⟩ v).setCell ⟨g, 2, none⟩ s = w.setRow g #[u, v, s] := by
  rw [setCell_eq_setRow w g 0 _ t _ u h]
  rw [setCell_eq_setRow _ g 1 _ t _ v (setRow_heap w g _ _ t _ h), setRow_setRow]
  rw [setCell_eq_setRow _ g 2 _ t _ s (setRow_heap w g _ _ t _ h), setRow_setRow]
  rfl
/- Two results that both lie in memory. -/
theorem results_rows {P : Program} {fn : Func} {p u : Tmp} {ty ty' : TypeId} (h : fn.results = #[.cell p ty, .cell u ty']) (tmps : Array Value) (w : World) (g g' : Nat) (t t' : TypeId) (cs cs' : Array Value) (fr fr' : Nat × Nat) (d d' : TypeDesc)
    (hp : tmps.getD p undef = .pointer (some ⟨g, 0, none⟩)) (hp' : tmps.getD u undef = .pointer (some ⟨g', 0, none⟩)) (hg : w.heap[g]? = some (.cells cs t fr)) (hg' : w.heap[g']? = some (.cells cs' t' fr'))
    (hu : P.underlying ty = some d) (hd : (match d with | .struct _ | .array _ _ => true | _ => false) = true) (hi : (P.info? ty).map (·.size) = some cs.size)
    (hu' : P.underlying ty' = some d') (hd' : (match d' with | .struct _ | .array _ _ => true | _ => false) = true) (hi' : (P.info? ty').map (·.size) = some cs'.size) :
    (results fn tmps).run P w = .ok (.tuple #[.agg cs, .agg cs']) w := by
  have k1 : tmps[p]?.getD undef = .pointer (some ⟨g, 0, none⟩) := by simpa using hp
  have k2 : tmps[u]?.getD undef = .pointer (some ⟨g', 0, none⟩) := by simpa using hp'
  simp [results, h, k1, k2, asAddr, run_loadVar_row w g t ty cs fr d hg hu hd hi, run_loadVar_row w g' t' ty' cs' fr' d' hg' hu' hd' hi']
theorem boxes4 (w : World) (a b c d : Obj) : ((((w.alloc a).alloc b).alloc c).alloc d).heap[w.heap.size]? = some a ∧ ((((w.alloc a).alloc b).alloc c).alloc d).heap[w.heap.size + 1]? = some b ∧
    ((((w.alloc a).alloc b).alloc c).alloc d).heap[w.heap.size + 1 + 1]? = some c ∧ ((((w.alloc a).alloc b).alloc c).alloc d).heap[w.heap.size + 1 + 1 + 1]? = some d ∧ Below w.heap.size w ((((w.alloc a).alloc b).alloc c).alloc d) := by
  obtain ⟨x1, x2, x3⟩ := boxes2 w a b
  obtain ⟨y1, y2, y3⟩ := boxes2 ((w.alloc a).alloc b) c d
  have s : ((w.alloc a).alloc b).heap.size = w.heap.size + 1 + 1 := by rw [heap_size, heap_size]
  have n1 := heap_on y3 x1
  have n2 := heap_on y3 x2
  have n5 := below_on x3 y3
  rw [s] at y1 y2
  exact ⟨n1, n2, y1, y2, n5⟩

set_option maxHeartbeats 1000000 in
set_option maxRecDepth 100000 in
theorem mcheck_a (an : Int) (aa ab : ByteArray) (bn : Int) (ba bb : ByteArray) (w : World) (z : Int) (hz : headE an aa ab = z) (h0 : z ≠ 0) :
    Calls Tryz.prog 78 #[.agg #[.int .i64 an, .string aa, .string ab], .agg #[.int .i64 bn, .string ba, .string bb]] w fun e w' => e = .returned (.int .i64 z) ∧ Below w.heap.size w w' := by
  have HC := Lib.hid (ncheck_any an aa ab)
  rw [hz] at HC
  have hz1 : (z == 0) = false := by simp only [beq_eq_false_iff_ne, ne_eq]; exact h0
  clear hz
  obtain ⟨q3, q4, hb0⟩ := boxes2 w (.cells #[.int .i64 an, .string aa, .string ab] 40) (.cells #[.int .i64 bn, .string ba, .string bb] 40)
  have dq3_0 := heap_cell q3 0 _ rfl
  have dq3_1 := heap_cell q3 1 _ rfl
  have dq3_2 := heap_cell q3 2 _ rfl
  have dq4_0 := heap_cell q4 0 _ rfl
  have dq4_1 := heap_cell q4 1 _ rfl
  have dq4_2 := heap_cell q4 2 _ rfl
  go_enter Tryz.func78, Tryz.ntmps78
  go_wp2_with fail
  generalize ((w.alloc (.cells #[.int .i64 an, .string aa, .string ab] 40)).alloc (.cells #[.int .i64 bn, .string ba, .string bb] 40)) = w0 at q3 q4 hb0 dq3_0 dq3_1 dq3_2 dq4_0 dq4_1 dq4_2 ⊢
  refine (HC.out w0).mono ?_
  rintro e w1 ⟨rfl, hb1⟩
  have q3 := heap_on hb1 q3
  have q4 := heap_on hb1 q4
  have hb1 := below_on hb0 hb1
  clear hb0
  clear dq3_0 dq3_1 dq3_2 dq4_0 dq4_1 dq4_2
  go_wp2_with fail
  go_ret
  exact ⟨rfl, hb1⟩

set_option maxHeartbeats 1000000 in
set_option maxRecDepth 100000 in
theorem mcheck_b (an : Int) (aa ab : ByteArray) (bn : Int) (ba bb : ByteArray) (w : World) (ha : headE an aa ab = 0) :
    Calls Tryz.prog 78 #[.agg #[.int .i64 an, .string aa, .string ab], .agg #[.int .i64 bn, .string ba, .string bb]] w fun e w' => e = .returned (.int .i64 (headE bn ba bb)) ∧ Below w.heap.size w w' := by
  have HC := Lib.hid (ncheck_any an aa ab)
  have HH := Lib.hid (ncheck_any bn ba bb)
  rw [ha] at HC
  generalize headE bn ba bb = z at HH ⊢
  clear ha
  obtain ⟨q3, q4, hb0⟩ := boxes2 w (.cells #[.int .i64 an, .string aa, .string ab] 40) (.cells #[.int .i64 bn, .string ba, .string bb] 40)
  have dq3_0 := heap_cell q3 0 _ rfl
  have dq3_1 := heap_cell q3 1 _ rfl
  have dq3_2 := heap_cell q3 2 _ rfl
  have dq4_0 := heap_cell q4 0 _ rfl
  have dq4_1 := heap_cell q4 1 _ rfl
  have dq4_2 := heap_cell q4 2 _ rfl
  go_enter Tryz.func78, Tryz.ntmps78
  go_wp2_with fail
  generalize ((w.alloc (.cells #[.int .i64 an, .string aa, .string ab] 40)).alloc (.cells #[.int .i64 bn, .string ba, .string bb] 40)) = w0 at q3 q4 hb0 dq3_0 dq3_1 dq3_2 dq4_0 dq4_1 dq4_2 ⊢
  refine (HC.out w0).mono ?_
  rintro e w1 ⟨rfl, hb1⟩
  have q3 := heap_on hb1 q3
  have q4 := heap_on hb1 q4
  have hb1 := below_on hb0 hb1
  clear hb0
  clear dq3_0 dq3_1 dq3_2 dq4_0 dq4_1 dq4_2
  have dq4_0 := heap_cell q4 0 _ rfl
  have dq4_1 := heap_cell q4 1 _ rfl
  have dq4_2 := heap_cell q4 2 _ rfl
  go_wp2_with fail
  refine (HH.out w1).mono ?_
  rintro e w2 ⟨rfl, hb2⟩
  have q3 := heap_on hb2 q3
  have q4 := heap_on hb2 q4
  have hb2 := below_on hb1 hb2
  clear hb1
  clear dq4_0 dq4_1 dq4_2
  go_wp2_with fail
  go_ret
  exact ⟨rfl, hb2⟩

theorem mcheck_any (an : Int) (aa ab : ByteArray) (bn : Int) (ba bb : ByteArray) (w : World) :
    Calls Tryz.prog 78 #[.agg #[.int .i64 an, .string aa, .string ab], .agg #[.int .i64 bn, .string ba, .string bb]] w fun e w' => e = .returned (.int .i64 (bothE an aa ab bn ba bb)) ∧ Below w.heap.size w w' := by
  unfold bothE
  by_cases ha : headE an aa ab = 0
  · rw [if_neg (fun h => h ha)]
    exact mcheck_b an aa ab bn ba bb w ha
  · rw [if_pos ha]
    exact mcheck_a an aa ab bn ba bb w _ rfl ha

set_option maxHeartbeats 1000000 in
set_option maxRecDepth 100000 in
theorem beside_no (a : Option Addr) (k c : Nat) (w : World) (hk : k = 0) :
    Calls Tryz.prog 80 #[.slice a k c] w fun e w' => e = .returned (.int .i64 0) ∧ w = w' := by
  have g : ¬ (0 : Int) < (k : Int) := by omega
  clear hk
  go_enter Tryz.func80, Tryz.ntmps80
  go_wp2_with fail
  go_ret
  exact ⟨rfl, rfl⟩

set_option maxHeartbeats 1000000 in
set_option maxRecDepth 100000 in
theorem beside_yes (a : Option Addr) (k c : Nat) (w : World) (hk : ¬ k = 0) :
    Calls Tryz.prog 80 #[.slice a k c] w fun e w' => e = .returned (.int .i64 7) ∧ w = w' := by
  have g : (0 : Int) < (k : Int) := by omega
  clear hk
  go_enter Tryz.func80, Tryz.ntmps80
  go_wp2_with fail
  go_ret
  exact ⟨rfl, rfl⟩

set_option maxHeartbeats 1000000 in
set_option maxRecDepth 100000 in
theorem order_less (an : Int) (aa ab : ByteArray) (bn : Int) (ba bb : ByteArray) (w : World) (hl : bn < an) :
    Calls Tryz.prog 79 #[.agg #[.int .i64 an, .string aa, .string ab], .agg #[.int .i64 bn, .string ba, .string bb]] w fun e w' => e = .returned (.tuple #[.agg #[.int .i64 bn, .string ba, .string bb], .agg #[.int .i64 an, .string aa, .string ab]]) ∧ Below w.heap.size w w' := by
  obtain ⟨q3, q4, q9, q10, hb0⟩ := boxes4 w (.cells #[.int .i64 an, .string aa, .string ab] 40) (.cells #[.int .i64 bn, .string ba, .string bb] 40) (.cells #[.int .i64 0, .string ⟨#[]⟩, .string ⟨#[]⟩] 40) (.cells #[.int .i64 0, .string ⟨#[]⟩, .string ⟨#[]⟩] 40)
  have dq3_0 := heap_cell q3 0 _ rfl
  have dq4_0 := heap_cell q4 0 _ rfl
  go_enter Tryz.func79, Tryz.ntmps79
  go_upto_region 2 with fail
  generalize ((((w.alloc (.cells #[.int .i64 an, .string aa, .string ab] 40)).alloc (.cells #[.int .i64 bn, .string ba, .string bb] 40)).alloc (.cells #[.int .i64 0, .string ⟨#[]⟩, .string ⟨#[]⟩] 40)).alloc (.cells #[.int .i64 0, .string ⟨#[]⟩, .string ⟨#[]⟩] 40)) = w0 at q3 q4 q9 q10 hb0 dq3_0 dq4_0 ⊢
  clear dq3_0 dq4_0
  obtain ⟨h, hh⟩ : ∃ h, h = w.heap.size + 1 + 1 + 1 := ⟨_, rfl⟩
  obtain ⟨g, hg⟩ : ∃ g, g = w.heap.size + 1 + 1 := ⟨_, rfl⟩
  rw [← hh] at q10 ⊢
  rw [← hg] at q9 ⊢
  have hgh : g ≠ h := by omega
  have g0 : w.heap.size ≤ g := by omega
  have h0 : w.heap.size ≤ h := by omega
  have j3 : g ≠ w.heap.size := by omega
  have j4 : g ≠ w.heap.size + 1 := by omega
  have i3 : h ≠ w.heap.size := by omega
  have i4 : h ≠ w.heap.size + 1 := by omega
  clear hg hh
  go_cut [] (fun w' => w'.heap[g]? = some (.cells #[.int .i64 bn, .string ba, .string bb] 40) ∧ w'.heap[h]? = some (.cells #[.int .i64 an, .string aa, .string ab] 40) ∧ Below w.heap.size w w')
  case first =>
    have x0 := heap_cell q3 0 _ rfl
    have x1 := heap_cell q3 1 _ rfl
    have x2 := heap_cell q3 2 _ rfl
    have y0 := heap_cell q4 0 _ rfl
    have y1 := heap_cell q4 1 _ rfl
    have y2 := heap_cell q4 2 _ rfl
    have e9 := hrow3 q9 (.int .i64 bn) (.string ba) (.string bb)
    have r10 : (((w0.setCell ⟨g, 0, none⟩ (.int .i64 bn)).setCell ⟨g, 1, none⟩ (.string ba)).setCell ⟨g, 2, none⟩ (.string bb)).heap[h]? = some (.cells #[.int .i64 0, .string ⟨#[]⟩, .string ⟨#[]⟩] 40) := by rw [e9]; exact (setRow_other w0 g h _ (Ne.symm hgh)).trans q10
    have e10 := (hrow3 r10 (.int .i64 an) (.string aa) (.string ab)).trans (by rw [e9])
    have E10 := Lib.hid e10
    have t0 := heap_cell q9 0 _ rfl
    have t1 := heap_cell q9 1 _ rfl
    have t2 := heap_cell q9 2 _ rfl
    have t3 := frozen_of_row w0 g 0 _ _ q9
    have t4 := frozen_of_row w0 g 1 _ _ q9
    have t5 := frozen_of_row w0 g 2 _ _ q9
    have s0 := heap_cell q10 0 _ rfl
    have s1 := heap_cell q10 1 _ rfl
    have s2 := heap_cell q10 2 _ rfl
    have s3 := frozen_of_row w0 h 0 _ _ q10
    have s4 := frozen_of_row w0 h 1 _ _ q10
    have s5 := frozen_of_row w0 h 2 _ _ q10
    clear e9 e10 r10
    go_region
    all_goals
      go_wp2_with fail
      go_meet
      case rel =>
        rw [E10.out]
        exact ⟨(setRow_other _ h g _ hgh).trans (setRow_heap w0 g _ _ _ _ q9), setRow_heap _ h _ _ _ _ ((setRow_other w0 g h _ (Ne.symm hgh)).trans q10), (below_setRow (below_setRow hb0 g0 _) h0 _).drew⟩
  case rest =>
    obtain ⟨q9, q10, hb4⟩ := hcut
    obtain ⟨w4, hw4⟩ : ∃ x, x = wc := ⟨_, rfl⟩
    subst hw4
    clear q3 q4 hb0
    go_wp2_with fail
    refine bodyPost_ret (results_rows rfl _ _ g h _ _ _ _ _ _ _ _ rfl rfl q9 q10 Tryz.underlying40 rfl (by kernel_rfl) Tryz.underlying40 rfl (by kernel_rfl)) rfl ?_
    exact ⟨rfl, hb4⟩

set_option maxHeartbeats 1000000 in
set_option maxRecDepth 100000 in
theorem order_more (an : Int) (aa ab : ByteArray) (bn : Int) (ba bb : ByteArray) (w : World) (hl : ¬ bn < an) :
    Calls Tryz.prog 79 #[.agg #[.int .i64 an, .string aa, .string ab], .agg #[.int .i64 bn, .string ba, .string bb]] w fun e w' => e = .returned (.tuple #[.agg #[.int .i64 an, .string aa, .string ab], .agg #[.int .i64 bn, .string ba, .string bb]]) ∧ Below w.heap.size w w' := by
  obtain ⟨q3, q4, q9, q10, hb0⟩ := boxes4 w (.cells #[.int .i64 an, .string aa, .string ab] 40) (.cells #[.int .i64 bn, .string ba, .string bb] 40) (.cells #[.int .i64 0, .string ⟨#[]⟩, .string ⟨#[]⟩] 40) (.cells #[.int .i64 0, .string ⟨#[]⟩, .string ⟨#[]⟩] 40)
  have dq3_0 := heap_cell q3 0 _ rfl
  have dq4_0 := heap_cell q4 0 _ rfl
  go_enter Tryz.func79, Tryz.ntmps79
  go_upto_region 3 with fail
  generalize ((((w.alloc (.cells #[.int .i64 an, .string aa, .string ab] 40)).alloc (.cells #[.int .i64 bn, .string ba, .string bb] 40)).alloc (.cells #[.int .i64 0, .string ⟨#[]⟩, .string ⟨#[]⟩] 40)).alloc (.cells #[.int .i64 0, .string ⟨#[]⟩, .string ⟨#[]⟩] 40)) = w0 at q3 q4 q9 q10 hb0 dq3_0 dq4_0 ⊢
  clear dq3_0 dq4_0
  obtain ⟨h, hh⟩ : ∃ h, h = w.heap.size + 1 + 1 + 1 := ⟨_, rfl⟩
  obtain ⟨g, hg⟩ : ∃ g, g = w.heap.size + 1 + 1 := ⟨_, rfl⟩
  rw [← hh] at q10 ⊢
  rw [← hg] at q9 ⊢
  have hgh : g ≠ h := by omega
  have g0 : w.heap.size ≤ g := by omega
  have h0 : w.heap.size ≤ h := by omega
  have j3 : g ≠ w.heap.size := by omega
  have j4 : g ≠ w.heap.size + 1 := by omega
  have i3 : h ≠ w.heap.size := by omega
  have i4 : h ≠ w.heap.size + 1 := by omega
  clear hg hh
  go_cut [] (fun w' => w'.heap[g]? = some (.cells #[.int .i64 an, .string aa, .string ab] 40) ∧ w'.heap[h]? = some (.cells #[.int .i64 bn, .string ba, .string bb] 40) ∧ Below w.heap.size w w')
  case first =>
    have x0 := heap_cell q3 0 _ rfl
    have x1 := heap_cell q3 1 _ rfl
    have x2 := heap_cell q3 2 _ rfl
    have y0 := heap_cell q4 0 _ rfl
    have y1 := heap_cell q4 1 _ rfl
    have y2 := heap_cell q4 2 _ rfl
    have e9 := hrow3 q9 (.int .i64 an) (.string aa) (.string ab)
    have r10 : (((w0.setCell ⟨g, 0, none⟩ (.int .i64 an)).setCell ⟨g, 1, none⟩ (.string aa)).setCell ⟨g, 2, none⟩ (.string ab)).heap[h]? = some (.cells #[.int .i64 0, .string ⟨#[]⟩, .string ⟨#[]⟩] 40) := by rw [e9]; exact (setRow_other w0 g h _ (Ne.symm hgh)).trans q10
    have e10 := (hrow3 r10 (.int .i64 bn) (.string ba) (.string bb)).trans (by rw [e9])
    have E10 := Lib.hid e10
    have t0 := heap_cell q9 0 _ rfl
    have t1 := heap_cell q9 1 _ rfl
    have t2 := heap_cell q9 2 _ rfl
    have t3 := frozen_of_row w0 g 0 _ _ q9
    have t4 := frozen_of_row w0 g 1 _ _ q9
    have t5 := frozen_of_row w0 g 2 _ _ q9
    have s0 := heap_cell q10 0 _ rfl
    have s1 := heap_cell q10 1 _ rfl
    have s2 := heap_cell q10 2 _ rfl
    have s3 := frozen_of_row w0 h 0 _ _ q10
    have s4 := frozen_of_row w0 h 1 _ _ q10
    have s5 := frozen_of_row w0 h 2 _ _ q10
    clear e9 e10 r10
    go_region
    all_goals
      go_wp2_with fail
      go_meet
      case rel =>
        rw [E10.out]
        exact ⟨(setRow_other _ h g _ hgh).trans (setRow_heap w0 g _ _ _ _ q9), setRow_heap _ h _ _ _ _ ((setRow_other w0 g h _ (Ne.symm hgh)).trans q10), (below_setRow (below_setRow hb0 g0 _) h0 _).drew⟩
  case rest =>
    obtain ⟨q9, q10, hb4⟩ := hcut
    obtain ⟨w4, hw4⟩ : ∃ x, x = wc := ⟨_, rfl⟩
    subst hw4
    clear q3 q4 hb0
    go_wp2_with fail
    refine bodyPost_ret (results_rows rfl _ _ g h _ _ _ _ _ _ _ _ rfl rfl q9 q10 Tryz.underlying40 rfl (by kernel_rfl) Tryz.underlying40 rfl (by kernel_rfl)) rfl ?_
    exact ⟨rfl, hb4⟩

set_option maxHeartbeats 1000000 in
set_option maxRecDepth 100000 in
theorem same_bad (an : Int) (aa ab : ByteArray) (bn : Int) (ba bb : ByteArray) (a : Option Addr) (k c : Nat) (w : World) (z : Int) (hz : bothE an aa ab bn ba bb = z) (h0 : z ≠ 0) :
    Calls Tryz.prog 71 #[.agg #[.int .i64 an, .string aa, .string ab], .agg #[.int .i64 bn, .string ba, .string bb], .slice a k c] w fun e w' => e = .returned (.int .i64 z) ∧ Below w.heap.size w w' := by
  have HC := Lib.hid (mcheck_any an aa ab bn ba bb)
  rw [hz] at HC
  have hz1 : (z == 0) = false := by simp only [beq_eq_false_iff_ne, ne_eq]; exact h0
  clear hz
  obtain ⟨q3, q4, hb0⟩ := boxes2 w (.cells #[.int .i64 an, .string aa, .string ab] 40) (.cells #[.int .i64 bn, .string ba, .string bb] 40)
  have dq3_0 := heap_cell q3 0 _ rfl
  have dq3_1 := heap_cell q3 1 _ rfl
  have dq3_2 := heap_cell q3 2 _ rfl
  have dq4_0 := heap_cell q4 0 _ rfl
  have dq4_1 := heap_cell q4 1 _ rfl
  have dq4_2 := heap_cell q4 2 _ rfl
  go_enter Tryz.func71, Tryz.ntmps71
  go_wp2_with fail
  generalize ((w.alloc (.cells #[.int .i64 an, .string aa, .string ab] 40)).alloc (.cells #[.int .i64 bn, .string ba, .string bb] 40)) = w0 at q3 q4 hb0 dq3_0 dq3_1 dq3_2 dq4_0 dq4_1 dq4_2 ⊢
  refine (HC.out w0).mono ?_
  rintro e w1 ⟨rfl, hb1⟩
  have q3 := heap_on hb1 q3
  have q4 := heap_on hb1 q4
  have hb1 := below_on hb0 hb1
  clear hb0
  clear dq3_0 dq3_1 dq3_2 dq4_0 dq4_1 dq4_2
  go_wp2_with fail
  go_ret
  exact ⟨rfl, hb1⟩

set_option maxHeartbeats 1000000 in
set_option maxRecDepth 100000 in
theorem same_first (an : Int) (aa ab : ByteArray) (bn : Int) (ba bb : ByteArray) (ln : Int) (la lb : ByteArray) (hn : Int) (ha hb : ByteArray) (x : List ByteArray) (a : Option Addr) (k c : Nat) (w : World) (hS : StrsAt w a c x) (hz : bothE an aa ab bn ba bb = 0) (hO : ∀ w, Calls Tryz.prog 79 #[.agg #[.int .i64 an, .string aa, .string ab], .agg #[.int .i64 bn, .string ba, .string bb]] w fun e w' => e = .returned (.tuple #[.agg #[.int .i64 ln, .string la, .string lb], .agg #[.int .i64 hn, .string ha, .string hb]]) ∧ Below w.heap.size w w') (h0 : ln = 0) (hk0 : k = 0) :
    Calls Tryz.prog 71 #[.agg #[.int .i64 an, .string aa, .string ab], .agg #[.int .i64 bn, .string ba, .string bb], .slice a k c] w fun e w' => e = .returned (.int .i64 0) ∧ Below w.heap.size w w' := by
  have HC := Lib.hid (mcheck_any an aa ab bn ba bb)
  rw [hz] at HC
  have HO := Lib.hid hO
  clear hz hO
  have HN := Lib.hid (fun w => beside_no a k c w hk0)
  have g1 : (ln == 0) = true := by rw [h0]; rfl
  clear h0 hk0
  have hcap := hS.cap
  have hmax := hS.max
  obtain ⟨q3, q4, hb0⟩ := boxes2 w (.cells #[.int .i64 an, .string aa, .string ab] 40) (.cells #[.int .i64 bn, .string ba, .string bb] 40)
  have dq3_0 := heap_cell q3 0 _ rfl
  have dq3_1 := heap_cell q3 1 _ rfl
  have dq3_2 := heap_cell q3 2 _ rfl
  have dq4_0 := heap_cell q4 0 _ rfl
  have dq4_1 := heap_cell q4 1 _ rfl
  have dq4_2 := heap_cell q4 2 _ rfl
  go_enter Tryz.func71, Tryz.ntmps71
  go_wp2_with fail
  generalize ((w.alloc (.cells #[.int .i64 an, .string aa, .string ab] 40)).alloc (.cells #[.int .i64 bn, .string ba, .string bb] 40)) = w0 at q3 q4 hb0 dq3_0 dq3_1 dq3_2 dq4_0 dq4_1 dq4_2 ⊢
  refine (HC.out w0).mono ?_
  rintro e w1 ⟨rfl, hb1⟩
  have q3 := heap_on hb1 q3
  have q4 := heap_on hb1 q4
  have hb1 := below_on hb0 hb1
  clear hb0
  clear dq3_0 dq3_1 dq3_2 dq4_0 dq4_1 dq4_2
  have dq3_0 := heap_cell q3 0 _ rfl
  have dq3_1 := heap_cell q3 1 _ rfl
  have dq3_2 := heap_cell q3 2 _ rfl
  have dq4_0 := heap_cell q4 0 _ rfl
  have dq4_1 := heap_cell q4 1 _ rfl
  have dq4_2 := heap_cell q4 2 _ rfl
  go_wp2_with fail
  refine (HO.out w1).mono ?_
  rintro e w2 ⟨rfl, hb2⟩
  have q3 := heap_on hb2 q3
  have q4 := heap_on hb2 q4
  have hb2 := below_on hb1 hb2
  clear hb1
  clear dq3_0 dq3_1 dq3_2 dq4_0 dq4_1 dq4_2
  clear q3 q4
  obtain ⟨q8, q9, hbn⟩ := boxes2 w2 (.cells #[.int .i64 ln, .string la, .string lb] 40) (.cells #[.int .i64 hn, .string ha, .string hb] 40)
  have dq8_0 := heap_cell q8 0 _ rfl
  have dq8_1 := heap_cell q8 1 _ rfl
  have dq8_2 := heap_cell q8 2 _ rfl
  have dq9_0 := heap_cell q9 0 _ rfl
  have dq9_1 := heap_cell q9 1 _ rfl
  have dq9_2 := heap_cell q9 2 _ rfl
  have hbn := below_on hb2 hbn
  clear hb2
  go_wp2_with fail
  generalize ((w2.alloc (.cells #[.int .i64 ln, .string la, .string lb] 40)).alloc (.cells #[.int .i64 hn, .string ha, .string hb] 40)) = w5 at q8 q9 hbn dq8_0 dq8_1 dq8_2 dq9_0 dq9_1 dq9_2 ⊢
  refine (HN.out w5).mono ?_
  rintro e _ ⟨rfl, rfl⟩
  go_wp2_with fail
  go_ret
  exact ⟨rfl, hbn⟩

set_option maxHeartbeats 1000000 in
set_option maxRecDepth 100000 in
theorem same_much (an : Int) (aa ab : ByteArray) (bn : Int) (ba bb : ByteArray) (ln : Int) (la lb : ByteArray) (hn : Int) (ha hb : ByteArray) (x : List ByteArray) (a : Option Addr) (k c : Nat) (w : World) (hS : StrsAt w a c x) (hz : bothE an aa ab bn ba bb = 0) (hO : ∀ w, Calls Tryz.prog 79 #[.agg #[.int .i64 an, .string aa, .string ab], .agg #[.int .i64 bn, .string ba, .string bb]] w fun e w' => e = .returned (.tuple #[.agg #[.int .i64 ln, .string la, .string lb], .agg #[.int .i64 hn, .string ha, .string hb]]) ∧ Below w.heap.size w w') (h0 : ln = 0) (hk0 : ¬ k = 0) :
    Calls Tryz.prog 71 #[.agg #[.int .i64 an, .string aa, .string ab], .agg #[.int .i64 bn, .string ba, .string bb], .slice a k c] w fun e w' => e = .returned (.int .i64 7) ∧ Below w.heap.size w w' := by
  have HC := Lib.hid (mcheck_any an aa ab bn ba bb)
  rw [hz] at HC
  have HO := Lib.hid hO
  clear hz hO
  have HN := Lib.hid (fun w => beside_yes a k c w hk0)
  have g1 : (ln == 0) = true := by rw [h0]; rfl
  clear h0 hk0
  have hcap := hS.cap
  have hmax := hS.max
  obtain ⟨q3, q4, hb0⟩ := boxes2 w (.cells #[.int .i64 an, .string aa, .string ab] 40) (.cells #[.int .i64 bn, .string ba, .string bb] 40)
  have dq3_0 := heap_cell q3 0 _ rfl
  have dq3_1 := heap_cell q3 1 _ rfl
  have dq3_2 := heap_cell q3 2 _ rfl
  have dq4_0 := heap_cell q4 0 _ rfl
  have dq4_1 := heap_cell q4 1 _ rfl
  have dq4_2 := heap_cell q4 2 _ rfl
  go_enter Tryz.func71, Tryz.ntmps71
  go_wp2_with fail
  generalize ((w.alloc (.cells #[.int .i64 an, .string aa, .string ab] 40)).alloc (.cells #[.int .i64 bn, .string ba, .string bb] 40)) = w0 at q3 q4 hb0 dq3_0 dq3_1 dq3_2 dq4_0 dq4_1 dq4_2 ⊢
  refine (HC.out w0).mono ?_
  rintro e w1 ⟨rfl, hb1⟩
  have q3 := heap_on hb1 q3
  have q4 := heap_on hb1 q4
  have hb1 := below_on hb0 hb1
  clear hb0
  clear dq3_0 dq3_1 dq3_2 dq4_0 dq4_1 dq4_2
  have dq3_0 := heap_cell q3 0 _ rfl
  have dq3_1 := heap_cell q3 1 _ rfl
  have dq3_2 := heap_cell q3 2 _ rfl
  have dq4_0 := heap_cell q4 0 _ rfl
  have dq4_1 := heap_cell q4 1 _ rfl
  have dq4_2 := heap_cell q4 2 _ rfl
  go_wp2_with fail
  refine (HO.out w1).mono ?_
  rintro e w2 ⟨rfl, hb2⟩
  have q3 := heap_on hb2 q3
  have q4 := heap_on hb2 q4
  have hb2 := below_on hb1 hb2
  clear hb1
  clear dq3_0 dq3_1 dq3_2 dq4_0 dq4_1 dq4_2
  clear q3 q4
  obtain ⟨q8, q9, hbn⟩ := boxes2 w2 (.cells #[.int .i64 ln, .string la, .string lb] 40) (.cells #[.int .i64 hn, .string ha, .string hb] 40)
  have dq8_0 := heap_cell q8 0 _ rfl
  have dq8_1 := heap_cell q8 1 _ rfl
  have dq8_2 := heap_cell q8 2 _ rfl
  have dq9_0 := heap_cell q9 0 _ rfl
  have dq9_1 := heap_cell q9 1 _ rfl
  have dq9_2 := heap_cell q9 2 _ rfl
  have hbn := below_on hb2 hbn
  clear hb2
  go_wp2_with fail
  generalize ((w2.alloc (.cells #[.int .i64 ln, .string la, .string lb] 40)).alloc (.cells #[.int .i64 hn, .string ha, .string hb] 40)) = w5 at q8 q9 hbn dq8_0 dq8_1 dq8_2 dq9_0 dq9_1 dq9_2 ⊢
  refine (HN.out w5).mono ?_
  rintro e _ ⟨rfl, rfl⟩
  go_wp2_with fail
  go_ret
  exact ⟨rfl, hbn⟩

set_option maxHeartbeats 1000000 in
set_option maxRecDepth 100000 in
theorem same_map (an : Int) (aa ab : ByteArray) (bn : Int) (ba bb : ByteArray) (ln : Int) (la lb : ByteArray) (hn : Int) (ha hb : ByteArray) (x : List ByteArray) (a : Option Addr) (k c : Nat) (w : World) (hS : StrsAt w a c x) (hz : bothE an aa ab bn ba bb = 0) (hO : ∀ w, Calls Tryz.prog 79 #[.agg #[.int .i64 an, .string aa, .string ab], .agg #[.int .i64 bn, .string ba, .string bb]] w fun e w' => e = .returned (.tuple #[.agg #[.int .i64 ln, .string la, .string lb], .agg #[.int .i64 hn, .string ha, .string hb]]) ∧ Below w.heap.size w w') (h0 : ln ≠ 0) (he : hn = ln) (hm : hb ≠ lb) :
    Calls Tryz.prog 71 #[.agg #[.int .i64 an, .string aa, .string ab], .agg #[.int .i64 bn, .string ba, .string bb], .slice a k c] w fun e w' => e = .returned (.int .i64 7) ∧ Below w.heap.size w w' := by
  have HC := Lib.hid (mcheck_any an aa ab bn ba bb)
  rw [hz] at HC
  have HO := Lib.hid hO
  clear hz hO
  have g1 : (ln == 0) = false := by simp only [beq_eq_false_iff_ne, ne_eq]; exact h0
  have g3 : (ln == hn) = true := by rw [he]; simp
  have g4 := str_ne (fun h => hm h.symm)
  clear he hm
  have hcap := hS.cap
  have hmax := hS.max
  obtain ⟨q3, q4, hb0⟩ := boxes2 w (.cells #[.int .i64 an, .string aa, .string ab] 40) (.cells #[.int .i64 bn, .string ba, .string bb] 40)
  have dq3_0 := heap_cell q3 0 _ rfl
  have dq3_1 := heap_cell q3 1 _ rfl
  have dq3_2 := heap_cell q3 2 _ rfl
  have dq4_0 := heap_cell q4 0 _ rfl
  have dq4_1 := heap_cell q4 1 _ rfl
  have dq4_2 := heap_cell q4 2 _ rfl
  go_enter Tryz.func71, Tryz.ntmps71
  go_wp2_with fail
  generalize ((w.alloc (.cells #[.int .i64 an, .string aa, .string ab] 40)).alloc (.cells #[.int .i64 bn, .string ba, .string bb] 40)) = w0 at q3 q4 hb0 dq3_0 dq3_1 dq3_2 dq4_0 dq4_1 dq4_2 ⊢
  refine (HC.out w0).mono ?_
  rintro e w1 ⟨rfl, hb1⟩
  have q3 := heap_on hb1 q3
  have q4 := heap_on hb1 q4
  have hb1 := below_on hb0 hb1
  clear hb0
  clear dq3_0 dq3_1 dq3_2 dq4_0 dq4_1 dq4_2
  have dq3_0 := heap_cell q3 0 _ rfl
  have dq3_1 := heap_cell q3 1 _ rfl
  have dq3_2 := heap_cell q3 2 _ rfl
  have dq4_0 := heap_cell q4 0 _ rfl
  have dq4_1 := heap_cell q4 1 _ rfl
  have dq4_2 := heap_cell q4 2 _ rfl
  go_wp2_with fail
  refine (HO.out w1).mono ?_
  rintro e w2 ⟨rfl, hb2⟩
  have q3 := heap_on hb2 q3
  have q4 := heap_on hb2 q4
  have hb2 := below_on hb1 hb2
  clear hb1
  clear dq3_0 dq3_1 dq3_2 dq4_0 dq4_1 dq4_2
  clear q3 q4
  obtain ⟨q8, q9, hbn⟩ := boxes2 w2 (.cells #[.int .i64 ln, .string la, .string lb] 40) (.cells #[.int .i64 hn, .string ha, .string hb] 40)
  have dq8_0 := heap_cell q8 0 _ rfl
  have dq8_1 := heap_cell q8 1 _ rfl
  have dq8_2 := heap_cell q8 2 _ rfl
  have dq9_0 := heap_cell q9 0 _ rfl
  have dq9_1 := heap_cell q9 1 _ rfl
  have dq9_2 := heap_cell q9 2 _ rfl
  have hbn := below_on hb2 hbn
  clear hb2
  go_wp2_with fail
  generalize ((w2.alloc (.cells #[.int .i64 ln, .string la, .string lb] 40)).alloc (.cells #[.int .i64 hn, .string ha, .string hb] 40)) = w5 at q8 q9 hbn dq8_0 dq8_1 dq8_2 dq9_0 dq9_1 dq9_2 ⊢
  go_ret
  exact ⟨rfl, hbn⟩

set_option maxHeartbeats 1000000 in
set_option maxRecDepth 100000 in
theorem same_alike (an : Int) (aa ab : ByteArray) (bn : Int) (ba bb : ByteArray) (ln : Int) (la lb : ByteArray) (hn : Int) (ha hb : ByteArray) (x : List ByteArray) (a : Option Addr) (k c : Nat) (w : World) (hk : x.length = k) (hE : Tab w) (hS : StrsAt w a c x) (hz : bothE an aa ab bn ba bb = 0) (hO : ∀ w, Calls Tryz.prog 79 #[.agg #[.int .i64 an, .string aa, .string ab], .agg #[.int .i64 bn, .string ba, .string bb]] w fun e w' => e = .returned (.tuple #[.agg #[.int .i64 ln, .string la, .string lb], .agg #[.int .i64 hn, .string ha, .string hb]]) ∧ Below w.heap.size w w') (hold : la.size ≤ 9223372036854775807) (h0 : ln ≠ 0) (he : hn = ln) (hm : hb = lb) (y : Int) (hy : growE la ln ha hn x = y) :
    Calls Tryz.prog 71 #[.agg #[.int .i64 an, .string aa, .string ab], .agg #[.int .i64 bn, .string ba, .string bb], .slice a k c] w fun e w' => e = .returned (.int .i64 y) ∧ Below w.heap.size w w' := by
  have HC := Lib.hid (mcheck_any an aa ab bn ba bb)
  rw [hz] at HC
  have HO := Lib.hid hO
  clear hz hO
  have g1 : (ln == 0) = false := by simp only [beq_eq_false_iff_ne, ne_eq]; exact h0
  have hg := fun w hE hS => growShows_any la ln ha hn x a k c w hk hE hS hold
  rw [hy] at hg
  have HG := Lib.hid hg
  clear hg hy
  have g3 : (ln == hn) = true := by rw [he]; simp
  have g4 := str_eq hm.symm
  clear he hm
  have hcap := hS.cap
  have hmax := hS.max
  obtain ⟨q3, q4, hb0⟩ := boxes2 w (.cells #[.int .i64 an, .string aa, .string ab] 40) (.cells #[.int .i64 bn, .string ba, .string bb] 40)
  have dq3_0 := heap_cell q3 0 _ rfl
  have dq3_1 := heap_cell q3 1 _ rfl
  have dq3_2 := heap_cell q3 2 _ rfl
  have dq4_0 := heap_cell q4 0 _ rfl
  have dq4_1 := heap_cell q4 1 _ rfl
  have dq4_2 := heap_cell q4 2 _ rfl
  go_enter Tryz.func71, Tryz.ntmps71
  go_wp2_with fail
  generalize ((w.alloc (.cells #[.int .i64 an, .string aa, .string ab] 40)).alloc (.cells #[.int .i64 bn, .string ba, .string bb] 40)) = w0 at q3 q4 hb0 dq3_0 dq3_1 dq3_2 dq4_0 dq4_1 dq4_2 ⊢
  refine (HC.out w0).mono ?_
  rintro e w1 ⟨rfl, hb1⟩
  have q3 := heap_on hb1 q3
  have q4 := heap_on hb1 q4
  have hb1 := below_on hb0 hb1
  clear hb0
  clear dq3_0 dq3_1 dq3_2 dq4_0 dq4_1 dq4_2
  have dq3_0 := heap_cell q3 0 _ rfl
  have dq3_1 := heap_cell q3 1 _ rfl
  have dq3_2 := heap_cell q3 2 _ rfl
  have dq4_0 := heap_cell q4 0 _ rfl
  have dq4_1 := heap_cell q4 1 _ rfl
  have dq4_2 := heap_cell q4 2 _ rfl
  go_wp2_with fail
  refine (HO.out w1).mono ?_
  rintro e w2 ⟨rfl, hb2⟩
  have q3 := heap_on hb2 q3
  have q4 := heap_on hb2 q4
  have hb2 := below_on hb1 hb2
  clear hb1
  clear dq3_0 dq3_1 dq3_2 dq4_0 dq4_1 dq4_2
  clear q3 q4
  obtain ⟨q8, q9, hbn⟩ := boxes2 w2 (.cells #[.int .i64 ln, .string la, .string lb] 40) (.cells #[.int .i64 hn, .string ha, .string hb] 40)
  have dq8_0 := heap_cell q8 0 _ rfl
  have dq8_1 := heap_cell q8 1 _ rfl
  have dq8_2 := heap_cell q8 2 _ rfl
  have dq9_0 := heap_cell q9 0 _ rfl
  have dq9_1 := heap_cell q9 1 _ rfl
  have dq9_2 := heap_cell q9 2 _ rfl
  have hbn := below_on hb2 hbn
  clear hb2
  go_wp2_with fail
  generalize ((w2.alloc (.cells #[.int .i64 ln, .string la, .string lb] 40)).alloc (.cells #[.int .i64 hn, .string ha, .string hb] 40)) = w5 at q8 q9 hbn dq8_0 dq8_1 dq8_2 dq9_0 dq9_1 dq9_2 ⊢
  refine (HG.out w5 (hE.on hbn) (hS.on hbn)).mono ?_
  rintro e w3 ⟨rfl, hb3⟩
  have hb3 := below_on hbn hb3
  clear hbn
  go_wp2_with fail
  go_ret
  exact ⟨rfl, hb3⟩

set_option maxHeartbeats 1000000 in
set_option maxRecDepth 100000 in
theorem same_more (an : Int) (aa ab : ByteArray) (bn : Int) (ba bb : ByteArray) (ln : Int) (la lb : ByteArray) (hn : Int) (ha hb : ByteArray) (x : List ByteArray) (a : Option Addr) (k c : Nat) (w : World) (hk : x.length = k) (hE : Tab w) (hS : StrsAt w a c x) (hz : bothE an aa ab bn ba bb = 0) (hO : ∀ w, Calls Tryz.prog 79 #[.agg #[.int .i64 an, .string aa, .string ab], .agg #[.int .i64 bn, .string ba, .string bb]] w fun e w' => e = .returned (.tuple #[.agg #[.int .i64 ln, .string la, .string lb], .agg #[.int .i64 hn, .string ha, .string hb]]) ∧ Below w.heap.size w w') (hold : la.size ≤ 9223372036854775807) (h0 : ln ≠ 0) (he : hn ≠ ln) (y : Int) (hy : growE la ln ha hn x = y) :
    Calls Tryz.prog 71 #[.agg #[.int .i64 an, .string aa, .string ab], .agg #[.int .i64 bn, .string ba, .string bb], .slice a k c] w fun e w' => e = .returned (.int .i64 y) ∧ Below w.heap.size w w' := by
  have HC := Lib.hid (mcheck_any an aa ab bn ba bb)
  rw [hz] at HC
  have HO := Lib.hid hO
  clear hz hO
  have g1 : (ln == 0) = false := by simp only [beq_eq_false_iff_ne, ne_eq]; exact h0
  have hg := fun w hE hS => growShows_any la ln ha hn x a k c w hk hE hS hold
  rw [hy] at hg
  have HG := Lib.hid hg
  clear hg hy
  have g3 : (ln == hn) = false := by simp only [beq_eq_false_iff_ne, ne_eq]; exact fun h => he h.symm
  clear he
  have hcap := hS.cap
  have hmax := hS.max
  obtain ⟨q3, q4, hb0⟩ := boxes2 w (.cells #[.int .i64 an, .string aa, .string ab] 40) (.cells #[.int .i64 bn, .string ba, .string bb] 40)
  have dq3_0 := heap_cell q3 0 _ rfl
  have dq3_1 := heap_cell q3 1 _ rfl
  have dq3_2 := heap_cell q3 2 _ rfl
  have dq4_0 := heap_cell q4 0 _ rfl
  have dq4_1 := heap_cell q4 1 _ rfl
  have dq4_2 := heap_cell q4 2 _ rfl
  go_enter Tryz.func71, Tryz.ntmps71
  go_wp2_with fail
  generalize ((w.alloc (.cells #[.int .i64 an, .string aa, .string ab] 40)).alloc (.cells #[.int .i64 bn, .string ba, .string bb] 40)) = w0 at q3 q4 hb0 dq3_0 dq3_1 dq3_2 dq4_0 dq4_1 dq4_2 ⊢
  refine (HC.out w0).mono ?_
  rintro e w1 ⟨rfl, hb1⟩
  have q3 := heap_on hb1 q3
  have q4 := heap_on hb1 q4
  have hb1 := below_on hb0 hb1
  clear hb0
  clear dq3_0 dq3_1 dq3_2 dq4_0 dq4_1 dq4_2
  have dq3_0 := heap_cell q3 0 _ rfl
  have dq3_1 := heap_cell q3 1 _ rfl
  have dq3_2 := heap_cell q3 2 _ rfl
  have dq4_0 := heap_cell q4 0 _ rfl
  have dq4_1 := heap_cell q4 1 _ rfl
  have dq4_2 := heap_cell q4 2 _ rfl
  go_wp2_with fail
  refine (HO.out w1).mono ?_
  rintro e w2 ⟨rfl, hb2⟩
  have q3 := heap_on hb2 q3
  have q4 := heap_on hb2 q4
  have hb2 := below_on hb1 hb2
  clear hb1
  clear dq3_0 dq3_1 dq3_2 dq4_0 dq4_1 dq4_2
  clear q3 q4
  obtain ⟨q8, q9, hbn⟩ := boxes2 w2 (.cells #[.int .i64 ln, .string la, .string lb] 40) (.cells #[.int .i64 hn, .string ha, .string hb] 40)
  have dq8_0 := heap_cell q8 0 _ rfl
  have dq8_1 := heap_cell q8 1 _ rfl
  have dq8_2 := heap_cell q8 2 _ rfl
  have dq9_0 := heap_cell q9 0 _ rfl
  have dq9_1 := heap_cell q9 1 _ rfl
  have dq9_2 := heap_cell q9 2 _ rfl
  have hbn := below_on hb2 hbn
  clear hb2
  go_wp2_with fail
  generalize ((w2.alloc (.cells #[.int .i64 ln, .string la, .string lb] 40)).alloc (.cells #[.int .i64 hn, .string ha, .string hb] 40)) = w5 at q8 q9 hbn dq8_0 dq8_1 dq8_2 dq9_0 dq9_1 dq9_2 ⊢
  refine (HG.out w5 (hE.on hbn) (hS.on hbn)).mono ?_
  rintro e w3 ⟨rfl, hb3⟩
  have hb3 := below_on hbn hb3
  clear hbn
  go_wp2_with fail
  go_ret
  exact ⟨rfl, hb3⟩

theorem same_pair (an : Int) (aa ab : ByteArray) (bn : Int) (ba bb : ByteArray) (ln : Int) (la lb : ByteArray) (hn : Int) (ha hb : ByteArray) (x : List ByteArray) (a : Option Addr) (k c : Nat) (w : World) (hk : x.length = k) (hE : Tab w) (hS : StrsAt w a c x) (hz : bothE an aa ab bn ba bb = 0) (hO : ∀ w, Calls Tryz.prog 79 #[.agg #[.int .i64 an, .string aa, .string ab], .agg #[.int .i64 bn, .string ba, .string bb]] w fun e w' => e = .returned (.tuple #[.agg #[.int .i64 ln, .string la, .string lb], .agg #[.int .i64 hn, .string ha, .string hb]]) ∧ Below w.heap.size w w') (hold : la.size ≤ 9223372036854775807) :
    Calls Tryz.prog 71 #[.agg #[.int .i64 an, .string aa, .string ab], .agg #[.int .i64 bn, .string ba, .string bb], .slice a k c] w fun e w' => e = .returned (.int .i64 (pairE ln la lb hn ha hb x)) ∧ Below w.heap.size w w' := by
  unfold pairE
  by_cases h0 : ln = 0
  · rw [if_pos h0]
    by_cases hk0 : k = 0
    · rw [if_pos (List.length_eq_zero_iff.1 (by omega))]
      exact same_first an aa ab bn ba bb ln la lb hn ha hb x a k c w hS hz hO h0 hk0
    · rw [if_neg (fun h => hk0 (by rw [← hk, h]; rfl))]
      exact same_much an aa ab bn ba bb ln la lb hn ha hb x a k c w hS hz hO h0 hk0
  rw [if_neg h0]
  by_cases he : hn = ln
  · by_cases hm : hb = lb
    · rw [if_neg (fun h => h.2 hm)]
      exact same_alike an aa ab bn ba bb ln la lb hn ha hb x a k c w hk hE hS hz hO hold h0 he hm _ rfl
    · rw [if_pos ⟨he, hm⟩]
      exact same_map an aa ab bn ba bb ln la lb hn ha hb x a k c w hS hz hO h0 he hm
  · rw [if_neg (fun h => he h.1)]
    exact same_more an aa ab bn ba bb ln la lb hn ha hb x a k c w hk hE hS hz hO hold h0 he _ rfl

theorem same_any (an : Int) (aa ab : ByteArray) (bn : Int) (ba bb : ByteArray) (x : List ByteArray) (a : Option Addr) (k c : Nat) (w : World) (hk : x.length = k) (hE : Tab w) (hS : StrsAt w a c x) :
    Calls Tryz.prog 71 #[.agg #[.int .i64 an, .string aa, .string ab], .agg #[.int .i64 bn, .string ba, .string bb], .slice a k c] w fun e w' => e = .returned (.int .i64 (meetE an aa ab bn ba bb x)) ∧ Below w.heap.size w w' := by
  by_cases ha : headE an aa ab = 0
  · by_cases hb : headE bn ba bb = 0
    · have hz : bothE an aa ab bn ba bb = 0 := by unfold bothE; rw [if_neg (fun h => h ha)]; exact hb
      obtain ⟨_, _, ha3, _⟩ := (headE_iff an aa ab).1 ha
      obtain ⟨_, _, hb3, _⟩ := (headE_iff bn ba bb).1 hb
      by_cases hl : bn < an
      · rw [meet_less ha hb hl]
        exact same_pair an aa ab bn ba bb bn ba bb an aa ab x a k c w hk hE hS hz (fun w => order_less an aa ab bn ba bb w hl) (by omega)
      · rw [meet_more ha hb hl]
        exact same_pair an aa ab bn ba bb an aa ab bn ba bb x a k c w hk hE hS hz (fun w => order_more an aa ab bn ba bb w hl) (by omega)
    · rw [meet_b ha hb]
      exact same_bad an aa ab bn ba bb a k c w _ (by unfold bothE; rw [if_neg (fun h => h ha)]) hb
  · rw [meet_a ha]
    exact same_bad an aa ab bn ba bb a k c w _ (by unfold bothE; rw [if_pos ha]) ha
end Go.Proofs.YtnemiobgmdpnmagGreatFmt
