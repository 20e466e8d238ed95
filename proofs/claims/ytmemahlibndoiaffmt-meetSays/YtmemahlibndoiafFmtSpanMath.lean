/-
  Plain mathematics: the spans around a place of a list, from above, and that they give the same sides and the same path.
-/
import Derived.Test.YtmemahlibndoiafFmtPathMath
namespace Go.Proofs.YtmemahlibndoiafFmt
open Go Go.RowKit

def spanL (f n i : Nat) : List (Nat × Nat) :=
  if _h : n ≤ 1 then []
  else if i < f + halfN n then (f, f + n) :: spanL f (halfN n) i
  else (f, f + n) :: spanL (f + halfN n) (n - halfN n) i
termination_by n
decreasing_by
  · exact halfN_lt (by omega)
  · have := halfN_pos n; omega
theorem spanL_one {n : Nat} (h : n ≤ 1) (f i : Nat) : spanL f n i = [] := by rw [spanL, dif_pos h]
theorem spanL_low {f n i : Nat} (h : 2 ≤ n) (hi : i < f + halfN n) : spanL f n i = (f, f + n) :: spanL f (halfN n) i := by rw [spanL, dif_neg (by omega), if_pos hi]
theorem spanL_high {f n i : Nat} (h : 2 ≤ n) (hi : f + halfN n ≤ i) : spanL f n i = (f, f + n) :: spanL (f + halfN n) (n - halfN n) i := by rw [spanL, dif_neg (by omega), if_neg (by omega)]

/- The middle of a span, the side of what is beside, and the step. -/
def midN (s : Nat × Nat) : Nat := s.1 + halfN (s.2 - s.1)
def sideN (i : Nat) (s : Nat × Nat) : Bool := decide (midN s ≤ i)
def besideN (l : List ByteArray) (i : Nat) (s : Nat × Nat) : List ByteArray := if midN s ≤ i then seg l s.1 (midN s - s.1) else seg l (midN s) (s.2 - midN s)
def stepN (l : List ByteArray) (i : Nat) (s : Nat × Nat) : StepB := (sideN i s, rootV (besideN l i s))

theorem spanL_ok : ∀ (k f n i : Nat), n ≤ k → ∀ s ∈ spanL f n i, f ≤ s.1 ∧ s.1 + 2 ≤ s.2 ∧ s.2 ≤ f + n
  | k, f, n, i, hk => by
    rcases Nat.lt_or_ge n 2 with h | h
    · rw [spanL_one (by omega)]; intro s hs; cases hs
    · have h1 := halfN_lt h
      have h2 := halfN_pos n
      rcases Nat.lt_or_ge i (f + halfN n) with hi | hi
      · rw [spanL_low h hi]
        intro s hs
        rcases List.mem_cons.1 hs with rfl | hs
        · exact ⟨Nat.le_refl _, by show f + 2 ≤ f + n; omega, Nat.le_refl _⟩
        · have := spanL_ok (k - 1) f (halfN n) i (by omega) s hs
          omega
      · rw [spanL_high h hi]
        intro s hs
        rcases List.mem_cons.1 hs with rfl | hs
        · exact ⟨Nat.le_refl _, by show f + 2 ≤ f + n; omega, Nat.le_refl _⟩
        · have := spanL_ok (k - 1) (f + halfN n) (n - halfN n) i (by omega) s hs
          omega
termination_by k => k
decreasing_by all_goals omega

theorem spanL_sides : ∀ (k f n i : Nat), n ≤ k → f ≤ i → (spanL f n i).reverse.map (sideN i) = sidesN n (i - f)
  | k, f, n, i, hk, hf => by
    rcases Nat.lt_or_ge n 2 with h | h
    · rw [spanL_one (by omega), sidesN_one (by omega)]; rfl
    · have h1 := halfN_lt h
      have h2 := halfN_pos n
      have hm : midN (f, f + n) = f + halfN n := by show f + halfN (f + n - f) = _; rw [show f + n - f = n by omega]
      rcases Nat.lt_or_ge i (f + halfN n) with hi | hi
      · rw [spanL_low h hi, sidesN_low h (by omega), List.reverse_cons, List.map_append, spanL_sides (k - 1) f (halfN n) i (by omega) hf]
        have : sideN i (f, f + n) = false := by unfold sideN; rw [hm]; exact decide_eq_false (by omega)
        simp [this]
      · rw [spanL_high h hi, sidesN_high h (by omega), List.reverse_cons, List.map_append, spanL_sides (k - 1) (f + halfN n) (n - halfN n) i (by omega) hi]
        have : sideN i (f, f + n) = true := by unfold sideN; rw [hm]; exact decide_eq_true hi
        simp [this, show i - (f + halfN n) = i - f - halfN n by omega]
termination_by k => k
decreasing_by all_goals omega

theorem spanL_path (l : List ByteArray) : ∀ (k f n i : Nat), n ≤ k → f ≤ i → f + n ≤ l.length → (spanL f n i).reverse.map (stepN l i) = pathS (seg l f n) (i - f)
  | k, f, n, i, hk, hf, hl => by
    have hlen := seg_len l f n hl
    rcases Nat.lt_or_ge n 2 with h | h
    · rw [spanL_one (by omega), pathS_one (by omega)]; rfl
    · have h1 := halfN_lt h
      have h2 := halfN_pos n
      have hm : midN (f, f + n) = f + halfN n := by show f + halfN (f + n - f) = _; rw [show f + n - f = n by omega]
      rcases Nat.lt_or_ge i (f + halfN n) with hi | hi
      · rw [spanL_low h hi, pathS_low (by omega) (by rw [hlen]; omega), List.reverse_cons, List.map_append, spanL_path l (k - 1) f (halfN n) i (by omega) hf (by omega)]
        have e1 : stepN l i (f, f + n) = (false, rootV (seg l (f + halfN n) (n - halfN n))) := by
          unfold stepN sideN besideN
          rw [hm, if_neg (by omega), decide_eq_false (by omega)]
          show (false, rootV (seg l (f + halfN n) (f + n - (f + halfN n)))) = _
          rw [show f + n - (f + halfN n) = n - halfN n by omega]
        rw [hlen, seg_take l f n _ (by omega), seg_drop]
        simp [e1]
      · rw [spanL_high h hi, pathS_high (by omega) (by rw [hlen]; omega), List.reverse_cons, List.map_append, spanL_path l (k - 1) (f + halfN n) (n - halfN n) i (by omega) hi (by omega)]
        have e1 : stepN l i (f, f + n) = (true, rootV (seg l f (halfN n))) := by
          unfold stepN sideN besideN
          rw [hm, if_pos hi, decide_eq_true hi]
          show (true, rootV (seg l f (f + halfN n - f))) = _
          rw [show f + halfN n - f = halfN n by omega]
        rw [hlen, seg_take l f n _ (by omega), seg_drop]
        simp [e1, show i - (f + halfN n) = i - f - halfN n by omega]
termination_by k => k
decreasing_by all_goals omega

theorem spans_path (l : List ByteArray) (i : Nat) : (spanL 0 l.length i).reverse.map (stepN l i) = pathS l i := by
  rw [spanL_path l l.length 0 l.length i (Nat.le_refl _) (Nat.zero_le _) (by omega), seg_all]; rfl
theorem spans_sides (n i : Nat) : (spanL 0 n i).reverse.map (sideN i) = sidesN n i := spanL_sides n 0 n i (Nat.le_refl _) (Nat.zero_le _)
theorem spans_len (n i : Nat) : (spanL 0 n i).length = (sidesN n i).length := by rw [← spans_sides]; simp
end Go.Proofs.YtmemahlibndoiafFmt
