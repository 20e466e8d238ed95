/-
  Chapter 6's Text as the document's own reckoning has it: fmt.Sprint of the key, a blank and the value; fmt's text is told.
-/
import Derived.Test.YtnemiobgmdpnmagGreatFmtFmtNode
import Derived.Test.YtnemiobgmdpnmagGreatFmtBooks
import Derived.Deep.RegionHeld3
import Derived.Deep.RegionWith
namespace Go.Proofs.YtnemiobgmdpnmagGreatFmt
open Go Go.RowKit Go.Kit Go.Extern.Stop Go.Stop Go.Extern

theorem call_sprint (args : Array Value) (w : World) : (callFunc 44 args).run Tryz.prog w = ((FmtStop.sprint "fmt.Sprint" #[167] #[9] args).run Tryz.prog w).andThen fun v w' => .ok (.value v) w' :=
  run_callFunc_extern Tryz.func44 (by kernel_rfl) (by kernel_rfl) (by kernel_rfl) (by kernel_rfl) args w
theorem op_intv (name : String) (x : Int) (w : World) : (FmtStop.operand name false 118 false (.iface 3 (.int .i64 x))).run Tryz.prog w = .ok (shapeInt, Go.Extern.Stop.digits 8 (x % 2 ^ 64).toNat) w := by kernel_rfl
def keyReading (n : Int) : List (List UInt8) := [shapeInt, digits 8 (n % 18446744073709551616).toNat]
theorem key_text (n : Int) (hn : (Lit.int .i64 n).wf = true) : FmtText.text "fmt.Sprint" (keyReading n) = some (Lib.itoa n) := by
  have hi := FmtText.operand_int_at (sh := shapeInt) (k := .i64) rfl rfl n hn
  rw [keyReading, FmtText.text_sprint (FmtText.operands_cons hi FmtText.operands_nil)]
  simp [FmtText.doPrint, FmtText.printArg_v _ _ hn]
theorem key_told (F : Interp) (n : Int) (h0 : -9223372036854775808 ≤ n) (h1 : n ≤ 9223372036854775807) : FmtStop.textOf (F.told "fmt.Sprint" (keyReading n) 0) = numB n := by
  have ht := told_string F (key_text n (by simp [Lit.wf, IntKind.min, IntKind.max, IntKind.signed, IntKind.bits]; omega)) (by
    have := Lib.itoa_length_le n h0 h1
    omega)
  apply ba_ext
  rw [textOf_list, ht, numB_data]

theorem below_one {w w' : World} (h : Below w.heap.size w w') (o : Obj) : Below w.heap.size w (w'.alloc o) := h.alloc h.size o

set_option maxHeartbeats 2000000 in
set_option maxRecDepth 100000 in
theorem textOf_low (F : Interp) (k : Int) (v : ByteArray) (w : World) (hF : F.answers w.tape) (hx : (FmtStop.textOf (F "fmt.Sprint" (keyReading k) 0)).size ≤ 21) (hv : v.size ≤ 140737488355328) :
    Calls Tryz.prog 33 #[.agg #[.int .i64 k, .string v]] w fun e w' => e = .returned (.string (FmtStop.textOf (F "fmt.Sprint" (keyReading k) 0) ++ ⟨#[32]⟩ ++ v)) ∧ Below w.heap.size w w' := by
  unfold keyReading at hx ⊢
  have hF' := answers_open hF
  have k1 := call_sprint
  have k2 := fmt_guard
  have k5 := op_intv
  go_enter Tryz.func33, Tryz.ntmps33
  go_wp2_with fail
  go_region_with (fail)
  all_goals
    go_wp2_with fail
    go_ret
    refine ⟨rfl, ?_⟩
    repeat (first | exact Below.refl _ _ | refine Below.drew ?_ | refine below_one ?_ _)
theorem textOf_any (F : Interp) (k : Int) (v : ByteArray) (w : World) (hF : F.told.answers w.tape) (h0 : -9223372036854775808 ≤ k) (h1 : k ≤ 9223372036854775807) (hv : v.size ≤ 140737488355328) :
    Calls Tryz.prog 33 #[.agg #[.int .i64 k, .string v]] w fun e w' => e = .returned (.string (textE (k, v))) ∧ Below w.heap.size w w' := by
  have ht := key_told F k h0 h1
  have := textOf_low F.told k v w hF (by rw [ht]; exact numB_size h0 h1) hv
  rw [ht] at this
  exact this
end Go.Proofs.YtnemiobgmdpnmagGreatFmt
