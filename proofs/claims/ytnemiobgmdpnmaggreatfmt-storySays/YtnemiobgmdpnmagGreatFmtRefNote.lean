/-
  Chapter 7's Check and Print as the document's own reckoning has them (fmt's text is told); numbers read and written by strconv.
-/
import Derived.Test.YtnemiobgmdpnmagGreatFmtMaths
import Derived.Test.YtnemiobgmdpnmagGreatFmtBooks
import Derived.Test.YtnemiobgmdpnmagGreatFmtRefIn
import Derived.Lib.ParseIntBTie
import Derived.Lib.QuietBelow
import Derived.Shelf.Strconv.ErrVarParseInt
namespace Go.Proofs.YtnemiobgmdpnmagGreatFmt
open Go Go.RowKit Go.Kit Go.Extern.Stop Go.Stop Go.Extern

def itoaI (v : Int) : ByteArray := ⟨(Lib.itoa v).toArray⟩
/- strconv.FormatInt at base 10, with the frame. -/

/- How strconv.ParseInt ends, at base 10 and 64 bits. -/



/- CheckHead. -/
set_option maxHeartbeats 1000000 in
set_option maxRecDepth 100000 in
theorem checkHead_any (n : Int) (a b : ByteArray) (w : World) :
    Calls Tryz.prog 15 #[.agg #[.int .i64 n, .string a, .string b]] w fun e w' => e = .returned (.int .i64 (headE n a b)) ∧ Below w.heap.size w w' := by
  have q0 := heap_push w (.cells #[.int .i64 n, .string a, .string b] 40)
  have hb0 : Below w.heap.size w (w.alloc (.cells #[.int .i64 n, .string a, .string b] 40)) := (Below.refl _ _).alloc (Nat.le_refl _) _
  by_cases hr : n < 0 ∨ 24 < n
  · rw [headE_range hr]
    go_enter Tryz.func15, Tryz.ntmps15
    go_wp2_with fail
    generalize (w.alloc (.cells #[.int .i64 n, .string a, .string b] 40)) = W at q0 hb0 ⊢
    refine (in_no n 0 24 W hr).mono ?_
    rintro e w1 ⟨rfl, rfl⟩
    go_wp2_with fail
    go_ret
    exact ⟨rfl, hb0⟩
  · by_cases hl : 20000 < a.size ∨ 20000 < b.size
    · rw [headE_many hr hl]
      have hmx : (20000 : Int) < max (a.size : Int) (b.size : Int) := by omega
      go_enter Tryz.func15, Tryz.ntmps15
      go_wp2_with fail
      generalize (w.alloc (.cells #[.int .i64 n, .string a, .string b] 40)) = W at q0 hb0 ⊢
      refine (in_yes n 0 24 W (by omega) (by omega)).mono ?_
      rintro e w1 ⟨rfl, rfl⟩
      have k1 := heap_cell q0 1 _ rfl
      have k2 := heap_cell q0 2 _ rfl
      go_wp2_with fail
      go_ret
      exact ⟨rfl, hb0⟩
    · rw [headE_ok hr hl]
      have hmx : ¬ (20000 : Int) < max (a.size : Int) (b.size : Int) := by omega
      go_enter Tryz.func15, Tryz.ntmps15
      go_wp2_with fail
      generalize (w.alloc (.cells #[.int .i64 n, .string a, .string b] 40)) = W at q0 hb0 ⊢
      refine (in_yes n 0 24 W (by omega) (by omega)).mono ?_
      rintro e w1 ⟨rfl, rfl⟩
      have k1 := heap_cell q0 1 _ rfl
      have k2 := heap_cell q0 2 _ rfl
      go_wp2_with fail
      go_ret
      exact ⟨rfl, hb0⟩

/- HeadText: fmt.Sprintf of three numbers and two texts. -/
def headFmt : List UInt8 := [37, 100, 32, 37, 100, 32, 37, 100, 32, 37, 115, 37, 115]
theorem fmt_head : FmtStop.printed? ⟨#[37, 100, 32, 37, 100, 32, 37, 100, 32, 37, 115, 37, 115]⟩ 5 = some [(0, 100, false), (1, 100, false), (2, 100, false), (3, 115, false), (4, 115, false)] := by kernel_rfl
theorem fmt_headr (w : World) : (FmtDoors.printed ⟨#[37, 100, 32, 37, 100, 32, 37, 100, 32, 37, 115, 37, 115]⟩ 5).run Tryz.prog w = .ok [(0, 100, false), (1, 100, false), (2, 100, false), (3, 115, false), (4, 115, false)] w := by kernel_rfl
def headReading (x y z : Int) (a b : List UInt8) : List (List UInt8) :=
  [[37, 100, 32, 37, 100, 32, 37, 100, 32, 37, 115, 37, 115], shapeInt, digits 8 (x % 18446744073709551616).toNat, shapeInt, digits 8 (y % 18446744073709551616).toNat, shapeInt, digits 8 (z % 18446744073709551616).toNat, shapeStr, FmtStop.pack a, shapeStr, FmtStop.pack b]
theorem head_parse : (FmtText.parse [37, 100, 32, 37, 100, 32, 37, 100, 32, 37, 115, 37, 115]).map FmtText.glue = some [.verb {} 100, .lit [32], .verb {} 100, .lit [32], .verb {} 100, .lit [32], .verb {} 115, .verb {} 115] := by rfl
theorem head_text (x y z : Int) (a b : List UInt8) (hx : (Lit.int .i64 x).wf = true) (hy : (Lit.int .i64 y).wf = true) (hz : (Lit.int .i64 z).wf = true) (ha : a.length < 2 ^ 64) (hb : b.length < 2 ^ 64) :
    FmtText.text "fmt.Sprintf" (headReading x y z a b) = some (Lib.itoa x ++ [32] ++ Lib.itoa y ++ [32] ++ Lib.itoa z ++ [32] ++ a ++ b) := by
  have h1 := FmtText.operand_int_at (sh := shapeInt) (k := .i64) rfl rfl x hx
  have h2 := FmtText.operand_int_at (sh := shapeInt) (k := .i64) rfl rfl y hy
  have h3 := FmtText.operand_int_at (sh := shapeInt) (k := .i64) rfl rfl z hz
  have h4 := FmtText.operand_str_at (sh := shapeStr) rfl rfl a ha
  have h5 := FmtText.operand_str_at (sh := shapeStr) rfl rfl b hb
  rw [headReading, FmtText.text_sprintf_glued head_parse (FmtText.operands_cons h1 (FmtText.operands_cons h2 (FmtText.operands_cons h3 (FmtText.operands_cons h4 (FmtText.operands_cons h5 FmtText.operands_nil)))))]
  simp [FmtText.render, FmtText.printArg_d _ _ hx, FmtText.printArg_d _ _ hy, FmtText.printArg_d _ _ hz, FmtText.printArg_s_str]
