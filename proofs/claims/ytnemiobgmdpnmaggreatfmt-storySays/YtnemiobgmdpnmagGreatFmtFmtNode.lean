/-
  Chapter 1's Node as the document's own reckoning has it: fmt.Sprintf of N, the length, a colon and both texts; fmt's text is told.
-/
import Derived.Test.YtnemiobgmdpnmagGreatFmtSeal
import Derived.Stop.CallBack
import Derived.Stop.IfaceNil
import GoSem.ClaimData
import Derived.WalkSpells
import Derived.Stop.Texts
import Derived.Stop.JoinedTold
import Derived.Stop.FmtTextKit
import Derived.Stop.FmtTextVerbs
namespace Go.Proofs.YtnemiobgmdpnmagGreatFmt
open Go Go.RowKit Go.Kit Go.Extern.Stop Go.Stop Go.Extern

theorem call_sprintf (args : Array Value) (w : World) : (callFunc 43 args).run Tryz.prog w = ((FmtStop.sprintf #[9, 167] #[9] args).run Tryz.prog w).andThen fun v w' => .ok (.value v) w' :=
  run_callFunc_extern Tryz.func43 (by kernel_rfl) (by kernel_rfl) (by kernel_rfl) (by kernel_rfl) args w
theorem fmt_guard (name : String) (w : World) : (FmtStop.guard name).run Tryz.prog w = .ok () w := by kernel_rfl
theorem fmt_node : FmtStop.printed? ⟨#[78, 37, 100, 58, 37, 115, 37, 115]⟩ 3 = some [(0, 100, false), (1, 115, false), (2, 115, false)] := by kernel_rfl
theorem fmt_noder (w : World) : (FmtDoors.printed ⟨#[78, 37, 100, 58, 37, 115, 37, 115]⟩ 3).run Tryz.prog w = .ok [(0, 100, false), (1, 115, false), (2, 115, false)] w := by kernel_rfl
def shapeInt : List UInt8 := [5, 3, 0, 0, 0, 0, 0, 0, 0, 105, 110, 116]
def shapeStr : List UInt8 := [12, 6, 0, 0, 0, 0, 0, 0, 0, 115, 116, 114, 105, 110, 103]
theorem op_int (name : String) (x : Int) (w : World) : (FmtStop.operand name false 100 false (.iface 3 (.int .i64 x))).run Tryz.prog w = .ok (shapeInt, Go.Extern.Stop.digits 8 (x % 2 ^ 64).toNat) w := by kernel_rfl
theorem op_str (name : String) (x : ByteArray) (w : World) : (FmtStop.operand name false 115 false (.iface 9 (.string x))).run Tryz.prog w = .ok (shapeStr, FmtStop.pack x.data.toList) w := by kernel_rfl

def nodeReading (n : Int) (a b : List UInt8) : List (List UInt8) :=
  [[78, 37, 100, 58, 37, 115, 37, 115], shapeInt, digits 8 (n % 18446744073709551616).toNat, shapeStr, FmtStop.pack a, shapeStr, FmtStop.pack b]

theorem node_parse : (FmtText.parse [78, 37, 100, 58, 37, 115, 37, 115]).map FmtText.glue = some [.lit [78], .verb {} 100, .lit [58], .verb {} 115, .verb {} 115] := by rfl

theorem node_text (n : Int) (a b : List UInt8) (hn : (Lit.int .i64 n).wf = true) (ha : a.length < 2 ^ 64) (hb : b.length < 2 ^ 64) :
    FmtText.text "fmt.Sprintf" (nodeReading n a b) = some ([78] ++ Lib.itoa n ++ [58] ++ a ++ b) := by
  have hi := FmtText.operand_int_at (sh := shapeInt) (k := .i64) rfl rfl n hn
  have h1 := FmtText.operand_str_at (sh := shapeStr) rfl rfl a ha
  have h2 := FmtText.operand_str_at (sh := shapeStr) rfl rfl b hb
  rw [nodeReading, FmtText.text_sprintf_glued node_parse (FmtText.operands_cons hi (FmtText.operands_cons h1 (FmtText.operands_cons h2 FmtText.operands_nil)))]
  simp [FmtText.render, FmtText.printArg_d _ _ hn, FmtText.printArg_s_str]

set_option maxHeartbeats 1000000 in
theorem nodeOf_low (F : Interp) (a b : ByteArray) (w : World) (hF : F.answers w.tape) (h : a.size + b.size ≤ 20000) :
    Calls Tryz.prog 32 #[.string a, .string b] w fun e w' => e = .returned (.tuple #[.string (FmtStop.textOf (F "fmt.Sprintf" (nodeReading (a.size : Int) a.data.toList b.data.toList) 0)), .int .i64 0]) ∧ Below w.heap.size w w' := by
  have hF' := answers_open hF
  have k1 := call_sprintf
  have k2 := fmt_guard
  have k3 := fmt_node
  have k4 := fmt_noder
  have k5 := op_int
  have k6 := op_str
  go_enter Tryz.func32, Tryz.ntmps32
  go_wp2
  go_ret2
  refine ⟨?_, ((Below.refl _ _).alloc (Nat.le_refl _) _).drew⟩
  have e1 : ((a.size : Int) % 18446744073709551616).toNat = a.size % 18446744073709551616 := by omega
  unfold nodeReading
  rw [e1]
  rfl
theorem nodeOf_many (a b : ByteArray) (w : World) (ha : a.size ≤ 4611686018427387903) (hb : b.size ≤ 4611686018427387903) (h : 20000 < a.size + b.size) :
    Calls Tryz.prog 32 #[.string a, .string b] w fun e w' => e = .returned (.tuple #[.string ⟨#[]⟩, .int .i64 2]) ∧ Below w.heap.size w w' := by
  go_enter Tryz.func32, Tryz.ntmps32
  go_wp2
  go_ret2
  exact ⟨rfl, Below.refl _ _⟩
theorem nodeOf_any (F : Interp) (a b : ByteArray) (w : World) (hF : F.told.answers w.tape) (ha : a.size ≤ 4611686018427387903) (hb : b.size ≤ 4611686018427387903) :
    Calls Tryz.prog 32 #[.string a, .string b] w fun e w' => e = .returned (.tuple #[.string (nodeV a b), .int .i64 (nodeE a b)]) ∧ Below w.heap.size w w' := by
  by_cases h : a.size + b.size ≤ 20000
  · rw [(node_pos h).1, (node_pos h).2]
    refine (nodeOf_low F.told a b w hF h).mono ?_
    rintro e w' ⟨rfl, hb'⟩
    refine ⟨?_, hb'⟩
    have la := ba_size a
    have lb := ba_size b
    have hd := nDigits_le5 a.size (by omega)
    have ht := told_string F (node_text (a.size : Int) a.data.toList b.data.toList (by simp [Lit.wf, IntKind.min, IntKind.max, IntKind.signed, IntKind.bits]; omega) (by omega) (by omega)) (by
      simp only [List.length_append, List.length_singleton, Lib.itoa_nonneg, Lib.decDigits_length]
      omega)
    have hs : FmtStop.textOf (F.told "fmt.Sprintf" (nodeReading (a.size : Int) a.data.toList b.data.toList) 0) = nodeS a b := by
      apply ba_ext
      rw [textOf_list, ht, nodeS_data]
      simp [Lib.itoa_nonneg]
    rw [hs]
  · rw [(node_neg h).1, (node_neg h).2]
    exact nodeOf_many a b w ha hb (by omega)

theorem leafOf_any (s : ByteArray) (w : World) (hs : s.size ≤ 9223372036854775807) :
    Calls Tryz.prog 30 #[.string s] w fun e w' => e = .returned (.tuple #[.string (leafV s), .int .i64 (leafE s)]) ∧ w = w' := by
  by_cases h : s.size ≤ 20000
  · rw [(leaf_pos h).1, (leaf_pos h).2]
    go_enter Tryz.func30, Tryz.ntmps30
    go_wp2
    go_ret2
    exact ⟨rfl, rfl⟩
  · rw [(leaf_neg h).1, (leaf_neg h).2]
    go_enter Tryz.func30, Tryz.ntmps30
    go_wp2
    go_ret2
    exact ⟨rfl, rfl⟩
end Go.Proofs.YtnemiobgmdpnmagGreatFmt
