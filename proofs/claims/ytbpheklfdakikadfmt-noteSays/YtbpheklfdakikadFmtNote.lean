/-
  Contracts of package note over this seat's dump: Check, write, Print.
-/
import Derived.Test.YtbpheklfdakikadFmtNoteMath
import Derived.Test.YtbpheklfdakikadFmtBlocks
import Derived.Test.YtbpheklfdakikadFmtBuilder
import Derived.Deep.LoopGhost
import Derived.Lib.QuietBelow
namespace Go.Proofs.YtbpheklfdakikadFmt
open Go Go.RowKit

set_option maxRecDepth 100000 in
theorem ncheck_any (n : Int) (a b : ByteArray) (w : World) :
    Calls Tryf.prog 26 #[.agg #[.int .i64 n, .string a, .string b]] w fun e w' => e = .returned (.int .i64 (headE n a b)) ∧ Below w.heap.size w w' := by
  rcases Int.lt_or_le n 0 with h0 | h0
  · rw [headE_range (.inl h0)]
    go_enter Tryf.func26, Tryf.ntmps26
    go_wp2_with fail
    go_ret
    exact ⟨rfl, (Below.refl _ _).alloc (Nat.le_refl _) _⟩
  have g0 : ¬ n < 0 := by omega
  rcases Int.lt_or_le 24 n with h1 | h1
  · rw [headE_range (.inr h1)]
    go_enter Tryf.func26, Tryf.ntmps26
    go_wp2_with fail
    go_ret
    exact ⟨rfl, (Below.refl _ _).alloc (Nat.le_refl _) _⟩
  have g1 : ¬ 24 < n := by omega
  by_cases ha : 20000 < a.size
  · rw [headE_many (by omega) (.inl ha)]
    go_enter Tryf.func26, Tryf.ntmps26
    go_wp2_with fail
    go_ret
    exact ⟨rfl, (Below.refl _ _).alloc (Nat.le_refl _) _⟩
  by_cases hb : 20000 < b.size
  · rw [headE_many (by omega) (.inr hb)]
    go_enter Tryf.func26, Tryf.ntmps26
    go_wp2_with fail
    go_ret
    exact ⟨rfl, (Below.refl _ _).alloc (Nat.le_refl _) _⟩
  rw [headE_ok (by omega) (by omega)]
  go_enter Tryf.func26, Tryf.ntmps26
  go_wp2_with fail
  go_ret
  exact ⟨rfl, (Below.refl _ _).alloc (Nat.le_refl _) _⟩

/- The numbers, a blank behind each. -/
theorem digits_le5 {n : Nat} (h : n ≤ 20000) : (Lib.decDigits n).length ≤ 5 := by
  rw [Lib.decDigits_length]
  exact nDigits_le5 n h
theorem run_nums (x y z : Int) (w : World) : (Instr.index 65 (.agg #[.int .i64 x, .int .i64 y, .int .i64 z]) (.int .i64 0)).run Tryf.prog w = .ok (.int .i64 x) w ∧ (Instr.index 65 (.agg #[.int .i64 x, .int .i64 y, .int .i64 z]) (.int .i64 1)).run Tryf.prog w = .ok (.int .i64 y) w ∧ (Instr.index 65 (.agg #[.int .i64 x, .int .i64 y, .int .i64 z]) (.int .i64 2)).run Tryf.prog w = .ok (.int .i64 z) w := by
  refine ⟨?_, ?_, ?_⟩ <;> simp [Instr.index, asIntOf, run_underlying Tryf.underlying65, part, Tryf.sizeOf3, Tryf.isAgg3]
def write1 (x : Nat) : List UInt8 := Lib.decDigits x ++ [32]
def write2 (x y : Nat) : List UInt8 := write1 x ++ Lib.decDigits y ++ [32]
def write3 (x y z : Nat) : List UInt8 := write2 x y ++ Lib.decDigits z ++ [32]
theorem write3_eq (x y z : Nat) : write3 x y z = writeL x y z := by simp [write3, write2, write1, writeL]

set_option maxHeartbeats 1000000 in
set_option maxRecDepth 100000 in
theorem write_any (x y z : Nat) (w : World) (hE : Tab w) (hx : x ≤ 20000) (hy : y ≤ 20000) (hz : z ≤ 20000) :
    Calls Tryf.prog 38 #[.agg #[.int .i64 (x : Int), .int .i64 (y : Int), .int .i64 (z : Int)]] w fun e w' => e = .returned (.string (writeB x y z)) ∧ Below w.heap.size w w' := by
  have dx := digits_le5 hx
  have dy := digits_le5 hy
  have dz := digits_le5 hz
  have he : writeB x y z = ⟨(write3 x y z).toArray⟩ := by rw [write3_eq]; rfl
  rw [he]
  clear he
  have hl1 : (write1 x).length ≤ 6 := by simp only [write1, List.length_append, List.length_singleton]; omega
  have hl2 : (write2 x y).length ≤ 12 := by simp only [write2, List.length_append, List.length_singleton]; omega
  have hl3 : (write3 x y z).length ≤ 18 := by simp only [write3, List.length_append, List.length_singleton]; omega
  have E1 : Hid (Lib.byteCells [] ++ Lib.strCells (itoaB x) ++ Lib.strCells ⟨#[32]⟩ = Lib.byteCells (write1 x)) := by
    rw [strCells_bytes, strCells_bytes, byteCells_app, byteCells_app, itoaB_data]; rfl
  have E2 : Hid (Lib.byteCells (write1 x) ++ Lib.strCells (itoaB y) ++ Lib.strCells ⟨#[32]⟩ = Lib.byteCells (write2 x y)) := by
    rw [strCells_bytes, strCells_bytes, byteCells_app, byteCells_app, itoaB_data]; rfl
  have E3 : Hid (Lib.byteCells (write2 x y) ++ Lib.strCells (itoaB z) ++ Lib.strCells ⟨#[32]⟩ = Lib.byteCells (write3 x y z)) := by
    rw [strCells_bytes, strCells_bytes, byteCells_app, byteCells_app, itoaB_data]; rfl
  have zx : (itoaB x).size ≤ 5 := itoaB_le5 x hx
  have zy : (itoaB y).size ≤ 5 := itoaB_le5 y hy
  have zz : (itoaB z).size ≤ 5 := itoaB_le5 z hz
  have IX := Lib.hid (fun w' hE' => itoa_any x (by omega) w' hE')
  have IY := Lib.hid (fun w' hE' => itoa_any y (by omega) w' hE')
  have IZ := Lib.hid (fun w' hE' => itoa_any z (by omega) w' hE')
  clear dx dy dz
  generalize write1 x = l1 at hl1 E1 E2
  generalize write2 x y = l2 at hl2 E2 E3
  generalize write3 x y z = l3 at hl3 E3 ⊢
  generalize hsr : (⟨l3.toArray⟩ : ByteArray) = sr
  have HS := Lib.hid hsr
  clear hsr
  generalize itoaB x = sx at zx IX E1
  generalize itoaB y = sy at zy IY E2
  generalize itoaB z = sz at zz IZ E3
  obtain ⟨q0, q1, hb0⟩ := boxes2 w (.cells #[.int .i64 (x : Int), .int .i64 (y : Int), .int .i64 (z : Int)] 65) (.cells #[.pointer none, .slice none 0 0] 86)
  have hB0 : Lib.IsBuilder 86 5 w.heap.size (w.heap.size + 1) (Lib.byteCells []) ((w.alloc (.cells #[.int .i64 (x : Int), .int .i64 (y : Int), .int .i64 (z : Int)] 65)).alloc (.cells #[.pointer none, .slice none 0 0] 86)) :=
    .inl ⟨by omega, .slice none 0 0, q1, World.ownsRow_nil _ _ _ _, by simp [Value.ownBlock]⟩
  go_enter Tryf.func38, Tryf.ntmps38
  go_wp2_with fail
  generalize ((w.alloc (.cells #[.int .i64 (x : Int), .int .i64 (y : Int), .int .i64 (z : Int)] 65)).alloc (.cells #[.pointer none, .slice none 0 0] 86)) = W at q0 q1 hb0 hB0 ⊢
  clear q0 q1
  go_loopg [7] 3 (fun g s7 wr => Below w.heap.size w wr ∧ ((s7 = .int .i64 0 ∧ 3 ≤ g ∧ Lib.IsBuilder 86 5 w.heap.size (w.heap.size + 1) (Lib.byteCells []) wr) ∨ (s7 = .int .i64 1 ∧ 2 ≤ g ∧ Lib.IsBuilder 86 5 w.heap.size (w.heap.size + 1) (Lib.byteCells l1) wr) ∨ (s7 = .int .i64 2 ∧ 1 ≤ g ∧ Lib.IsBuilder 86 5 w.heap.size (w.heap.size + 1) (Lib.byteCells l2) wr) ∨ (s7 = .int .i64 3 ∧ Lib.IsBuilder 86 5 w.heap.size (w.heap.size + 1) (Lib.byteCells l3) wr)))
  case atStart => exact ⟨hb0, .inl ⟨rfl, Nat.le_refl _, hB0⟩⟩
  case round =>
    obtain ⟨hb, ⟨rfl, hg, hB⟩ | ⟨rfl, hg, hB⟩ | ⟨rfl, hg, hB⟩ | ⟨rfl, hB⟩⟩ := hrel
    · go_wp2_with fail
      rw [(run_nums _ _ _ _).1]
      go_wp2_with fail
      refine (IX.out wr (hE.on hb)).mono ?_
      rintro e w3 ⟨rfl, hb3⟩
      have hB3 := isBuilder_on hB hb3
      have hb3 := below_on hb hb3
      clear hB hb
      go_wp2_with fail
      refine (writeString_any w.heap.size (w.heap.size + 1) (Lib.byteCells []) sx w3 hB3 (by rw [byteCells_len]; (try simp only [List.length_nil]); omega) hb3.size).mono ?_
      rintro e w4 ⟨rfl, hB4, hb4⟩
      have hb4 : Below w.heap.size w w4 := hb3.trans hb4
      clear hB3 hb3
      go_wp2_with fail
      refine (writeString_any w.heap.size (w.heap.size + 1) (Lib.byteCells [] ++ Lib.strCells sx) ⟨#[32]⟩ w4 hB4 (by rw [List.length_append, byteCells_len, Lib.strCells_length, show (⟨#[32]⟩ : ByteArray).size = 1 from rfl]; (try simp only [List.length_nil]); omega) hb4.size).mono ?_
      rintro e w5 ⟨rfl, hB5, hb5⟩
      have hb5 : Below w.heap.size w w5 := hb4.trans hb5
      rw [E1.out] at hB5
      clear hB4 hb4
      go_wp2_with fail
      go_roundg 2
      case measure => omega
      case rel => exact ⟨hb5, .inr (.inl ⟨rfl, Nat.le_refl _, hB5⟩)⟩
    · go_wp2_with fail
      rw [(run_nums _ _ _ _).2.1]
      go_wp2_with fail
      refine (IY.out wr (hE.on hb)).mono ?_
      rintro e w3 ⟨rfl, hb3⟩
      have hB3 := isBuilder_on hB hb3
      have hb3 := below_on hb hb3
      clear hB hb
      go_wp2_with fail
      refine (writeString_any w.heap.size (w.heap.size + 1) (Lib.byteCells l1) sy w3 hB3 (by rw [byteCells_len]; (try simp only [List.length_nil]); omega) hb3.size).mono ?_
      rintro e w4 ⟨rfl, hB4, hb4⟩
      have hb4 : Below w.heap.size w w4 := hb3.trans hb4
      clear hB3 hb3
      go_wp2_with fail
      refine (writeString_any w.heap.size (w.heap.size + 1) (Lib.byteCells l1 ++ Lib.strCells sy) ⟨#[32]⟩ w4 hB4 (by rw [List.length_append, byteCells_len, Lib.strCells_length, show (⟨#[32]⟩ : ByteArray).size = 1 from rfl]; (try simp only [List.length_nil]); omega) hb4.size).mono ?_
      rintro e w5 ⟨rfl, hB5, hb5⟩
      have hb5 : Below w.heap.size w w5 := hb4.trans hb5
      rw [E2.out] at hB5
      clear hB4 hb4
      go_wp2_with fail
      go_roundg 1
      case measure => omega
      case rel => exact ⟨hb5, .inr (.inr (.inl ⟨rfl, Nat.le_refl _, hB5⟩))⟩
    · go_wp2_with fail
      rw [(run_nums _ _ _ _).2.2]
      go_wp2_with fail
      refine (IZ.out wr (hE.on hb)).mono ?_
      rintro e w3 ⟨rfl, hb3⟩
      have hB3 := isBuilder_on hB hb3
      have hb3 := below_on hb hb3
      clear hB hb
      go_wp2_with fail
      refine (writeString_any w.heap.size (w.heap.size + 1) (Lib.byteCells l2) sz w3 hB3 (by rw [byteCells_len]; (try simp only [List.length_nil]); omega) hb3.size).mono ?_
      rintro e w4 ⟨rfl, hB4, hb4⟩
      have hb4 : Below w.heap.size w w4 := hb3.trans hb4
      clear hB3 hb3
      go_wp2_with fail
      refine (writeString_any w.heap.size (w.heap.size + 1) (Lib.byteCells l2 ++ Lib.strCells sz) ⟨#[32]⟩ w4 hB4 (by rw [List.length_append, byteCells_len, Lib.strCells_length, show (⟨#[32]⟩ : ByteArray).size = 1 from rfl]; (try simp only [List.length_nil]); omega) hb4.size).mono ?_
      rintro e w5 ⟨rfl, hB5, hb5⟩
      have hb5 : Below w.heap.size w w5 := hb4.trans hb5
      rw [E3.out] at hB5
      clear hB4 hb4
      go_wp2_with fail
      go_roundg 0
      case measure => omega
      case rel => exact ⟨hb5, .inr (.inr (.inr ⟨rfl, hB5⟩))⟩
    · go_wp2_with fail
      refine (Tryf.Builder_String_any w.heap.size (w.heap.size + 1) l3 wr hB hb.size).mono ?_
      rintro e w3 ⟨rfl, hb3⟩
      have hb3 : Below w.heap.size w w3 := hb.trans hb3
      rw [HS.out]
      go_wp2_with fail
      go_ret
      exact ⟨rfl, hb3⟩

/- Print. -/
set_option maxHeartbeats 1000000 in
set_option maxRecDepth 100000 in
theorem print_ok (n : Nat) (a b : ByteArray) (w : World) (hE : Tab w) (h : headE (n : Int) a b = 0) :
    Calls Tryf.prog 21 #[.agg #[.int .i64 (n : Int), .string a, .string b]] w fun e w' => e = .returned (.tuple #[.string (printS n a b), .int .i64 0]) ∧ Below w.heap.size w w' := by
  obtain ⟨h1, h2, h3, h4⟩ := (headE_iff _ a b).1 h
  have hz := writeB_size n a.size b.size (by omega) h3 h4
  have hck := fun w' => ncheck_any (n : Int) a b w'
  rw [h] at hck
  have HC := Lib.hid hck
  have hwr := fun w' hE' => write_any n a.size b.size w' hE' (by omega) h3 h4
  unfold printS
  generalize writeB n a.size b.size = t at hz hwr ⊢
  have HW := Lib.hid hwr
  clear hck hwr h
  have q0 := heap_push w (.cells #[.int .i64 (n : Int), .string a, .string b] 34)
  have hb0 : Below w.heap.size w (w.alloc (.cells #[.int .i64 (n : Int), .string a, .string b] 34)) := (Below.refl _ _).alloc (Nat.le_refl _) _
  go_enter Tryf.func21, Tryf.ntmps21
  go_wp2_with fail
  generalize (w.alloc (.cells #[.int .i64 (n : Int), .string a, .string b] 34)) = W at q0 hb0 ⊢
  refine (HC.out W).mono ?_
  rintro e w1 ⟨rfl, hb1⟩
  have r0 := heap_on hb1 q0
  have hb1 := below_on hb0 hb1
  clear hb0 q0 HC
  go_upto_region 4 with fail
  have k0 := heap_cell r0 0 _ rfl
  have k1 := heap_cell r0 1 _ rfl
  have k2 := heap_cell r0 2 _ rfl
  have c0 := fun d os => cell_regrown k0 d os
  have c1 := fun d os => cell_regrown k1 d os
  have c2 := fun d os => cell_regrown k2 d os
  have cF := Lib.hid (fun d os => Calls.regrown_of (HW.out (Sort.grow (redrawn w1 d) os) (hE.on (below_on hb1 (below_regrown w1 d os)))))
  refine wp_region_quiet_below (by kernel_rfl) (by kernel_rfl) ?_
  repeat (first | go_big_quiet_step (with_reducible exact cF.out _ _) | quiet_step (with_reducible exact cF.out _ _))
  refine wpQuiet_nil ?_
  intro _ hw'
  obtain ⟨⟨dq, osq⟩, hw''⟩ := hw'
  subst hw''
  have hbq := below_on hb1 (below_regrown w1 dq osq)
  clear cF c0 c1 c2 k0 k1 k2
  go_wp2_with fail
  go_ret2
  exact ⟨rfl, hbq⟩
set_option maxRecDepth 100000 in
theorem print_no (n : Int) (a b : ByteArray) (w : World) (z : Int) (h : headE n a b = z) (h0 : z ≠ 0) :
    Calls Tryf.prog 21 #[.agg #[.int .i64 n, .string a, .string b]] w fun e w' => e = .returned (.tuple #[.string ⟨#[]⟩, .int .i64 z]) ∧ Below w.heap.size w w' := by
  have hck := fun w' => ncheck_any n a b w'
  rw [h] at hck
  have HC := Lib.hid hck
  have hz' : (z == 0) = false := by simp only [beq_eq_false_iff_ne, ne_eq]; exact h0
  clear hck h
  have hb0 : Below w.heap.size w (w.alloc (.cells #[.int .i64 n, .string a, .string b] 34)) := (Below.refl _ _).alloc (Nat.le_refl _) _
  go_enter Tryf.func21, Tryf.ntmps21
  go_wp2_with fail
  generalize (w.alloc (.cells #[.int .i64 n, .string a, .string b] 34)) = W at hb0 ⊢
  refine (HC.out W).mono ?_
  rintro e w1 ⟨rfl, hb1⟩
  have hb1 := below_on hb0 hb1
  clear hb0 HC
  go_wp2_with fail
  go_ret2
  exact ⟨rfl, hb1⟩
theorem print_any (n : Int) (a b : ByteArray) (w : World) (hE : Tab w) :
    Calls Tryf.prog 21 #[.agg #[.int .i64 n, .string a, .string b]] w fun e w' => e = .returned (.tuple #[.string (printV n a b), .int .i64 (headE n a b)]) ∧ Below w.heap.size w w' := by
  by_cases h : headE n a b = 0
  · obtain ⟨h1, h2, _, _⟩ := (headE_iff _ a b).1 h
    obtain ⟨m, rfl⟩ : ∃ m : Nat, n = m := ⟨n.toNat, by omega⟩
    rw [print_pos h, h]
    exact print_ok m a b w hE h
  · rw [print_neg h]
    exact print_no n a b w _ rfl h
end Go.Proofs.YtbpheklfdakikadFmt
