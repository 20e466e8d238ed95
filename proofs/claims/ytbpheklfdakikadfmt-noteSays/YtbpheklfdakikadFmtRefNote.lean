/-
  Chapter 7's Check and Print as the document's own reckoning has them (fmt's text is told); numbers read and written by strconv.
-/
import Derived.Test.YtbpheklfdakikadFmtNoteMath
import Derived.Test.YtbpheklfdakikadFmtBlocks
import Derived.Test.YtbpheklfdakikadFmtRefIn
import Derived.Lib.ParseIntBTie
import Derived.Lib.QuietBelow
import Derived.Shelf.Strconv.ErrVarParseInt
namespace Go.Proofs.YtbpheklfdakikadFmt
open Go Go.RowKit Go.Kit Go.Extern.Stop Go.Stop Go.Extern

def itoaI (v : Int) : ByteArray := ⟨(Lib.itoa v).toArray⟩
/- strconv.FormatInt at base 10, with the frame. -/
theorem formatInt_any (n : Int) (h0 : -9223372036854775808 ≤ n) (h1 : n ≤ 9223372036854775807) (w : World) (hE : Env w) :
    Calls Tryf.prog 43 #[.int .i64 n, .int .i64 10] w fun e w' => e = .returned (.string (itoaI n)) ∧ Below w.heap.size w w' := by
  refine (Tryf.strconv_FormatInt_10 n h0 h1 w hE.tab).mono ?_
  rintro e w' ⟨rfl, k, os, rfl⟩
  exact ⟨rfl, below_grow w k os⟩

/- How strconv.ParseInt ends, at base 10 and 64 bits. -/
theorem pint_ok (s : ByteArray) (v : Int) (w : World) (hs : s.size ≤ 281474976710656) (h : Lib.atoiAll s.data.toList = .ok v) :
    Calls Tryf.prog 42 #[.string s, .int .i64 10, .int .i64 64] w fun e w' => e = .returned (.tuple #[.int .i64 v, .nilIface]) ∧ Below w.heap.size w w' := by
  refine (Tryf.strconv_ParseInt_10_at64_ok s (by omega) v (by rw [Lib.parseIntB_64]; exact h) w).mono ?_
  rintro e w1 ⟨rfl, hw1⟩
  refine ⟨rfl, ?_⟩
  rcases hw1 with rfl | ⟨t, rfl⟩
  · exact Below.refl _ _
  · exact Lib.bytesWorld_below _ _ _
theorem pint_bad (s : ByteArray) (w : World) (hE : Env w) (hs : s.size ≤ 281474976710656) (h : ∀ v, Lib.atoiAll s.data.toList ≠ .ok v) :
    Calls Tryf.prog 42 #[.string s, .int .i64 10, .int .i64 64] w fun e w' => ∃ n t p, e = .returned (.tuple #[.int .i64 n, .iface t p]) ∧ Below w.heap.size w w' := by
  cases ha : Lib.atoiAll s.data.toList
  · exact absurd ha (h _)
  · obtain ⟨tp, p, hvar⟩ := hE.syn
    have hc := Any.strconv_ParseInt_10_at64_syntax_var Tryf.laysC174 s (by omega) (by rw [Lib.parseIntB_64]; exact ha) tp p w hvar
    exact hc.mono fun e w1 ⟨N, he, _, _, hb1⟩ => ⟨_, _, _, he, hb1⟩
  · obtain ⟨tp, p, hvar⟩ := hE.rng
    have hc := Any.strconv_ParseInt_10_at64_range_var Tryf.laysC174 s (by omega) (by rw [Lib.parseIntB_64]; exact ha) tp p w hvar
    exact hc.mono fun e w1 ⟨N, he, _, _, hb1⟩ => ⟨_, _, _, he, hb1⟩

theorem format_in (v : Int) (h0 : -9223372036854775808 ≤ v) (h1 : v ≤ 9223372036854775807) (w : World) (hE : Env w) (d : Nat) (os : Array Obj) :
    Calls Tryf.prog 43 #[.int .i64 v, .int .i64 10] (Sort.grow (redrawn w d) os) fun e w'' => e = .returned (.string (itoaI v)) ∧ ∃ p : Regrown, w'' = Sort.grow (redrawn w p.d) p.os :=
  Calls.regrown_of (formatInt_any v h0 h1 _ (hE.on (below_regrown w d os)))


/- CheckHead. -/
set_option maxHeartbeats 1000000 in
set_option maxRecDepth 100000 in
theorem checkHead_any (n : Int) (a b : ByteArray) (w : World) :
    Calls Tryf.prog 27 #[.agg #[.int .i64 n, .string a, .string b]] w fun e w' => e = .returned (.int .i64 (headE n a b)) ∧ Below w.heap.size w w' := by
  have q0 := heap_push w (.cells #[.int .i64 n, .string a, .string b] 34)
  have hb0 : Below w.heap.size w (w.alloc (.cells #[.int .i64 n, .string a, .string b] 34)) := (Below.refl _ _).alloc (Nat.le_refl _) _
  by_cases hr : n < 0 ∨ 24 < n
  · rw [headE_range hr]
    go_enter Tryf.func27, Tryf.ntmps27
    go_wp2_with fail
    generalize (w.alloc (.cells #[.int .i64 n, .string a, .string b] 34)) = W at q0 hb0 ⊢
    refine (in_no n 0 24 W hr).mono ?_
    rintro e w1 ⟨rfl, rfl⟩
    go_wp2_with fail
    go_ret
    exact ⟨rfl, hb0⟩
  · by_cases hl : 20000 < a.size ∨ 20000 < b.size
    · rw [headE_many hr hl]
      have hmx : (20000 : Int) < max (a.size : Int) (b.size : Int) := by omega
      go_enter Tryf.func27, Tryf.ntmps27
      go_wp2_with fail
      generalize (w.alloc (.cells #[.int .i64 n, .string a, .string b] 34)) = W at q0 hb0 ⊢
      refine (in_yes n 0 24 W (by omega) (by omega)).mono ?_
      rintro e w1 ⟨rfl, rfl⟩
      have k1 := heap_cell q0 1 _ rfl
      have k2 := heap_cell q0 2 _ rfl
      go_wp2_with fail
      go_ret
      exact ⟨rfl, hb0⟩
    · rw [headE_ok hr hl]
      have hmx : ¬ (20000 : Int) < max (a.size : Int) (b.size : Int) := by omega
      go_enter Tryf.func27, Tryf.ntmps27
      go_wp2_with fail
      generalize (w.alloc (.cells #[.int .i64 n, .string a, .string b] 34)) = W at q0 hb0 ⊢
      refine (in_yes n 0 24 W (by omega) (by omega)).mono ?_
      rintro e w1 ⟨rfl, rfl⟩
      have k1 := heap_cell q0 1 _ rfl
      have k2 := heap_cell q0 2 _ rfl
      go_wp2_with fail
      go_ret
      exact ⟨rfl, hb0⟩

/- HeadText: fmt.Sprintf of three numbers and two texts. -/
def headFmt : List UInt8 := [37, 100, 32, 37, 100, 32, 37, 100, 32, 37, 115, 37, 115]
theorem fmt_head : FmtStop.printed? ⟨#[37, 100, 32, 37, 100, 32, 37, 100, 32, 37, 115, 37, 115]⟩ 5 = some [(0, 100, false), (1, 100, false), (2, 100, false), (3, 115, false), (4, 115, false)] := by kernel_rfl
theorem fmt_headr (w : World) : (FmtDoors.printed ⟨#[37, 100, 32, 37, 100, 32, 37, 100, 32, 37, 115, 37, 115]⟩ 5).run Tryf.prog w = .ok [(0, 100, false), (1, 100, false), (2, 100, false), (3, 115, false), (4, 115, false)] w := by kernel_rfl
def headReading (x y z : Int) (a b : List UInt8) : List (List UInt8) :=
  [[37, 100, 32, 37, 100, 32, 37, 100, 32, 37, 115, 37, 115], shapeInt, digits 8 (x % 18446744073709551616).toNat, shapeInt, digits 8 (y % 18446744073709551616).toNat, shapeInt, digits 8 (z % 18446744073709551616).toNat, shapeStr, FmtStop.pack a, shapeStr, FmtStop.pack b]
theorem head_parse : (FmtText.parse [37, 100, 32, 37, 100, 32, 37, 100, 32, 37, 115, 37, 115]).map FmtText.glue = some [.verb {} 100, .lit [32], .verb {} 100, .lit [32], .verb {} 100, .lit [32], .verb {} 115, .verb {} 115] := by rfl
theorem head_text (x y z : Int) (a b : List UInt8) (hx : (Lit.int .i64 x).wf = true) (hy : (Lit.int .i64 y).wf = true) (hz : (Lit.int .i64 z).wf = true) (ha : a.length < 2 ^ 64) (hb : b.length < 2 ^ 64) :
    FmtText.text "fmt.Sprintf" (headReading x y z a b) = some (Lib.itoa x ++ [32] ++ Lib.itoa y ++ [32] ++ Lib.itoa z ++ [32] ++ a ++ b) := by
  have h1 := FmtText.operand_int_at (sh := shapeInt) (k := .i64) rfl rfl x hx
  have h2 := FmtText.operand_int_at (sh := shapeInt) (k := .i64) rfl rfl y hy
  have h3 := FmtText.operand_int_at (sh := shapeInt) (k := .i64) rfl rfl z hz
  have h4 := FmtText.operand_str_at (sh := shapeStr) rfl rfl a ha
  have h5 := FmtText.operand_str_at (sh := shapeStr) rfl rfl b hb
  rw [headReading, FmtText.text_sprintf_glued head_parse (FmtText.operands_cons h1 (FmtText.operands_cons h2 (FmtText.operands_cons h3 (FmtText.operands_cons h4 (FmtText.operands_cons h5 FmtText.operands_nil)))))]
  simp [FmtText.render, FmtText.printArg_d _ _ hx, FmtText.printArg_d _ _ hy, FmtText.printArg_d _ _ hz, FmtText.printArg_s_str]

set_option maxHeartbeats 2000000 in
set_option maxRecDepth 100000 in
theorem headText_low (F : Interp) (n : Nat) (a b : ByteArray) (w : World) (hF : F.answers w.tape) (h : headE (n : Int) a b = 0) :
    Calls Tryf.prog 23 #[.agg #[.int .i64 (n : Int), .string a, .string b]] w fun e w' => e = .returned (.tuple #[.string (FmtStop.textOf (F "fmt.Sprintf" (headReading (n : Int) (a.size : Int) (b.size : Int) a.data.toList b.data.toList) 0)), .int .i64 0]) ∧ Below w.heap.size w w' := by
  obtain ⟨h1, h2, h3, h4⟩ := (headE_iff _ a b).1 h
  have hck := fun w' => checkHead_any (n : Int) a b w'
  rw [h] at hck
  have HC := Lib.hid hck
  clear hck h
  have k1 := call_sprintf
  have k2 := fmt_guard
  have k3 := fmt_head
  have k4 := fmt_headr
  have k5 := op_int
  have k6 := op_str
  have q0 := heap_push w (.cells #[.int .i64 (n : Int), .string a, .string b] 34)
  have hb0 : Below w.heap.size w (w.alloc (.cells #[.int .i64 (n : Int), .string a, .string b] 34)) := (Below.refl _ _).alloc (Nat.le_refl _) _
  go_enter Tryf.func23, Tryf.ntmps23
  go_wp2_with fail
  generalize (w.alloc (.cells #[.int .i64 (n : Int), .string a, .string b] 34)) = W at q0 hb0 ⊢
  refine (HC.out W).mono ?_
  rintro e w1 ⟨rfl, hb1⟩
  have q1 := heap_on hb1 q0
  have hb1 := below_on hb0 hb1
  clear q0 hb0 HC
  have hF1 : F.answers w1.tape := by rw [hb1.tape]; exact hF
  have hF' := answers_open hF1
  have c0 := heap_cell q1 0 _ rfl
  have c1 := heap_cell q1 1 _ rfl
  have c2 := heap_cell q1 2 _ rfl
  go_wp2
  go_ret2
  refine ⟨?_, (hb1.alloc hb1.size _).drew⟩
  have e1 : ((a.size : Int) % 18446744073709551616).toNat = a.size % 18446744073709551616 := by omega
  have e2 : ((b.size : Int) % 18446744073709551616).toNat = b.size % 18446744073709551616 := by omega
  have e3 : ((n : Int) % 18446744073709551616).toNat = n % 18446744073709551616 := by omega
  unfold headReading
  rw [e1, e2, e3]
  rfl
set_option maxRecDepth 100000 in
theorem headText_no (n : Int) (a b : ByteArray) (w : World) (z : Int) (h : headE n a b = z) (h0 : z ≠ 0) :
    Calls Tryf.prog 23 #[.agg #[.int .i64 n, .string a, .string b]] w fun e w' => e = .returned (.tuple #[.string ⟨#[]⟩, .int .i64 z]) ∧ Below w.heap.size w w' := by
  have hck := fun w' => checkHead_any n a b w'
  rw [h] at hck
  have HC := Lib.hid hck
  have hz' : (z == 0) = false := by simp only [beq_eq_false_iff_ne, ne_eq]; exact h0
  clear hck h
  have hb0 : Below w.heap.size w (w.alloc (.cells #[.int .i64 n, .string a, .string b] 34)) := (Below.refl _ _).alloc (Nat.le_refl _) _
  go_enter Tryf.func23, Tryf.ntmps23
  go_wp2_with fail
  generalize (w.alloc (.cells #[.int .i64 n, .string a, .string b] 34)) = W at hb0 ⊢
  refine (HC.out W).mono ?_
  rintro e w1 ⟨rfl, hb1⟩
  have hb1 := below_on hb0 hb1
  clear hb0 HC
  go_wp2_with fail
  go_ret2
  exact ⟨rfl, hb1⟩
theorem headText_any (F : Interp) (n : Int) (a b : ByteArray) (w : World) (hF : F.told.answers w.tape) :
    Calls Tryf.prog 23 #[.agg #[.int .i64 n, .string a, .string b]] w fun e w' => e = .returned (.tuple #[.string (printV n a b), .int .i64 (headE n a b)]) ∧ Below w.heap.size w w' := by
  by_cases h : headE n a b = 0
  · obtain ⟨h1, h2, h3, h4⟩ := (headE_iff _ a b).1 h
    obtain ⟨m, rfl⟩ : ∃ m : Nat, n = m := ⟨n.toNat, by omega⟩
    rw [print_pos h, h]
    refine (headText_low F.told m a b w hF h).mono ?_
    rintro e w' ⟨rfl, hb'⟩
    refine ⟨?_, hb'⟩
    have la := ba_size a
    have lb := ba_size b
    have d1 := nDigits_le5 m (by omega)
    have d2 := nDigits_le5 a.size (by omega)
    have d3 := nDigits_le5 b.size (by omega)
    have ht := told_string F (head_text (m : Int) (a.size : Int) (b.size : Int) a.data.toList b.data.toList (by simp [Lit.wf, IntKind.min, IntKind.max, IntKind.signed, IntKind.bits]; omega) (by simp [Lit.wf, IntKind.min, IntKind.max, IntKind.signed, IntKind.bits]; omega) (by simp [Lit.wf, IntKind.min, IntKind.max, IntKind.signed, IntKind.bits]; omega) (by omega) (by omega)) (by
      simp only [List.length_append, List.length_singleton, Lib.itoa_nonneg, Lib.decDigits_length]
      omega)
    have hs : FmtStop.textOf (F.told "fmt.Sprintf" (headReading (m : Int) (a.size : Int) (b.size : Int) a.data.toList b.data.toList) 0) = printS m a b := by
      apply ba_ext
      rw [textOf_list, ht, printS_data]
      simp [Lib.itoa_nonneg, writeL]
    rw [hs]
    rfl
  · rw [print_neg h]
    exact headText_no n a b w _ rfl h
end Go.Proofs.YtbpheklfdakikadFmt
