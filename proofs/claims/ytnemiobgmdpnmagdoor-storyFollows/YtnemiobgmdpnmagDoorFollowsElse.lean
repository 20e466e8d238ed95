/-
  StoryFollows: a happening that is no showing.
-/
import Derived.Test.YtnemiobgmdpnmagDoorFollowsMem
import Derived.BigQuiet
namespace Go.Proofs.YtnemiobgmdpnmagDoor
open Go Go.RowKit

set_option maxHeartbeats 16000000 in
set_option maxRecDepth 100000 in
theorem follows_else (G : Nat) (a0 : Option Addr) (n0 c0 : Nat) (a1 : Option Addr) (n1 c1 : Nat) (a2 : Option Addr) (n2 c2 : Nat) (b0 : Option Addr) (m0 e0 : Nat) (b1 : Option Addr) (m1 e1 : Nat) (b2 : Option Addr) (m2 e2 : Nat) (xk xs xw xo xe : Int) (xv : ByteArray) (w : World) (hk : xk ≠ 3) :
    Calls Tryd.prog 15 #[.agg #[.slice a0 n0 c0, .slice a1 n1 c1, .slice a2 n2 c2], .agg #[.slice b0 m0 e0, .slice b1 m1 e1, .slice b2 m2 e2], .agg #[.int .i64 xk, .int .i64 xs, .int .i64 xw, .int .i64 xo, .int .i64 xe, .string xv], .pointer (some ⟨G, 0, none⟩)] w fun e w' => e = .returned (.bool true) ∧ Below w.heap.size w w' := by
  obtain ⟨q4, q5, q6, _⟩ := boxes3 w (.cells #[.slice a0 n0 c0, .slice a1 n1 c1, .slice a2 n2 c2] 31) (.cells #[.slice b0 m0 e0, .slice b1 m1 e1, .slice b2 m2 e2] 31) (.cells #[.int .i64 xk, .int .i64 xs, .int .i64 xw, .int .i64 xo, .int .i64 xe, .string xv] 35)
  have hb0 := below3 w (.cells #[.slice a0 n0 c0, .slice a1 n1 c1, .slice a2 n2 c2] 31) (.cells #[.slice b0 m0 e0, .slice b1 m1 e1, .slice b2 m2 e2] 31) (.cells #[.int .i64 xk, .int .i64 xs, .int .i64 xw, .int .i64 xo, .int .i64 xe, .string xv] 35)
  have zf1 : (xk == 3) = false := by simp only [beq_eq_false_iff_ne, ne_eq]; exact hk
  have zf2 : (xk != 3) = true := by simp only [bne, zf1]; rfl
  clear hk
  go_enter Tryd.func15, Tryd.ntmps15
  go_upto_region 1 with fail
  generalize (((w.alloc (.cells #[.slice a0 n0 c0, .slice a1 n1 c1, .slice a2 n2 c2] 31)).alloc (.cells #[.slice b0 m0 e0, .slice b1 m1 e1, .slice b2 m2 e2] 31)).alloc (.cells #[.int .i64 xk, .int .i64 xs, .int .i64 xw, .int .i64 xo, .int .i64 xe, .string xv] 35)) = w5 at q4 q5 q6 hb0 ⊢
  have d6 := heap_cell q6 0 _ rfl
  go_quiet (fail)
  go_wp2_with fail
  go_ret
  exact ⟨rfl, below_drewN hb0 nq⟩

end Go.Proofs.YtnemiobgmdpnmagDoor
