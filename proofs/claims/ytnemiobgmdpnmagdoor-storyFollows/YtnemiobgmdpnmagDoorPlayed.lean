/-
  A script from the new world on, each step of it held against a closure that keeps what it goes by.
-/
import Derived.Test.YtnemiobgmdpnmagDoorStoryMath
import Derived.Test.YtnemiobgmdpnmagDoorWorldAll
namespace Go.Proofs.YtnemiobgmdpnmagDoor
open Go Go.RowKit

theorem run_script_take (a : Option Addr) (n c k : Nat) (hk : k ≤ c) (w : World) : (Instr.slice 22 (.slice a n c) none (some (.int .i64 (k : Int))) none).run Tryd.prog w = .ok (.slice a k c) w := by
  have hadd : ∀ ad : Addr, ad.add 0 = ad := fun ad => by unfold Addr.add; simp
  have hb : (Instr.sliceBounds true n c none (some (.int .i64 (k : Int))) none).run Tryd.prog w = .ok (0, k, c) w := by
    have h1 : (k : Int) ≤ (c : Int) := by omega
    simp [Instr.sliceBounds, run_sliceBound, h1]
  cases a <;> simp [Instr.slice, run_underlying Tryd.underlying22, hb, Tryd.sizeOf35, hadd]
/- Nothing is another but one block, and what is new. -/
theorem grow_more {w w1 w2 : World} {row row2 : Option Nat} (h : w.grownBy w1 row) (hg : w1.grownBy w2 row2) (hr : ∀ j, row2 = some j → row = some j ∨ w.heap.size ≤ j) : w.grownBy w2 row := by
  refine ⟨hg.os.trans h.os, hg.tape.trans h.tape, hg.output.trans h.output, Nat.le_trans h.size hg.size, fun k hk hne => ?_⟩
  rw [hg.block k (Nat.lt_of_lt_of_le hk h.size) (fun e => ?_)]
  · exact h.block k hk hne
  · rcases hr k e.symm with e1 | e1
    · exact hne e1.symm
    · omega
theorem grow_none {w w1 w2 : World} {row : Option Nat} (h : w.grownBy w1 row) (hb : Below w1.heap.size w1 w2) : w.grownBy w2 row := grow_more h (below_grown hb none) (fun j hj => by cases hj)
/- What a closure keeps, and goes by. -/
structure Plays (w : World) (row : Option Nat) (Ok : HapB → Prop) (f : FuncId) (mk : Value → Value → Value → Array Value) (Inv : World → WB → Prop) : Prop where
  start : Inv w newW
  none : ∀ w1 w2 W, Inv w1 W → Below w1.heap.size w1 w2 → Inv w2 W
  box : ∀ w1 w2 W b (x0 : Option Addr) (y0 z0 : Nat) (x1 : Option Addr) (y1 z1 : Nat) (x2 : Option Addr) (y2 z2 : Nat), Inv w1 W → w.heap.size ≤ b → w1.heap[b]? = some (.cells #[.slice x0 y0 z0, .slice x1 y1 z1, .slice x2 y2 z2] 31) → w1.grownBy w2 (some b) → Inv w2 W
  call : ∀ W x (a0 : Option Addr) (n0 c0 : Nat) (a1 : Option Addr) (n1 c1 : Nat) (a2 : Option Addr) (n2 c2 : Nat) (b0 : Option Addr) (m0 e0 : Nat) (b1 : Option Addr) (m1 e1 : Nat) (b2 : Option Addr) (m2 e2 : Nat) w1, w.grownBy w1 row → Inv w1 W → Ok x → (doV W x).2 = 0 → WideHap x →
    WAt w1 a0 n0 c0 a1 n1 c1 a2 n2 c2 W → WAt w1 b0 m0 e0 b1 m1 e1 b2 m2 e2 (doV W x).1 →
    Calls Tryd.prog f (mk (.agg #[.slice a0 n0 c0, .slice a1 n1 c1, .slice a2 n2 c2]) (.agg #[.slice b0 m0 e0, .slice b1 m1 e1, .slice b2 m2 e2]) (.agg #[.int .i64 x.kind, .int .i64 x.side, .int .i64 x.who, .int .i64 x.other, .int .i64 x.e.1, .string x.e.2])) w1
      fun e w2 => e = .returned (.bool true) ∧ Inv w2 (doV W x).1 ∧ w1.grownBy w2 row ∧ WAt w2 b0 m0 e0 b1 m1 e1 b2 m2 e2 (doV W x).1

end Go.Proofs.YtnemiobgmdpnmagDoor
