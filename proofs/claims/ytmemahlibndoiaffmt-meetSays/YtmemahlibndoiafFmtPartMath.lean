/-
  Plain mathematics: the parts beside, from above, of a list of n of which m are known, and that they give the same seals and the same making.
-/
import Derived.Test.YtmemahlibndoiafFmtGrowMath
namespace Go.Proofs.YtmemahlibndoiafFmt
open Go Go.RowKit

def partB (f n m : Nat) : List (Nat × Nat) :=
  if _h : n ≤ 1 ∨ f + n ≤ m then []
  else if m ≤ f + halfN n then (f + halfN n, f + n) :: partB f (halfN n) m
  else (f, f + halfN n) :: partB (f + halfN n) (n - halfN n) m
termination_by n
decreasing_by
  · exact halfN_lt (by omega)
  · have := halfN_pos n; omega
def partL (f n m : Nat) : Nat × Nat :=
  if _h : n ≤ 1 ∨ f + n ≤ m then (f, f + n)
  else if m ≤ f + halfN n then partL f (halfN n) m
  else partL (f + halfN n) (n - halfN n) m
termination_by n
decreasing_by
  · exact halfN_lt (by omega)
  · have := halfN_pos n; omega
def partK (f n m : Nat) (kn : Bool) : Bool :=
  if _h : n ≤ 1 ∨ f + n ≤ m then kn
  else if m ≤ f + halfN n then partK f (halfN n) m kn
  else partK (f + halfN n) (n - halfN n) m false
termination_by n
decreasing_by
  · exact halfN_lt (by omega)
  · have := halfN_pos n; omega

theorem part_end {f n m : Nat} (h : n ≤ 1 ∨ f + n ≤ m) (kn : Bool) : partB f n m = [] ∧ partL f n m = (f, f + n) ∧ partK f n m kn = kn := by
  refine ⟨?_, ?_, ?_⟩
  · rw [partB, dif_pos h]
  · rw [partL, dif_pos h]
  · rw [partK, dif_pos h]
theorem part_low {f n m : Nat} (h : 2 ≤ n) (h' : m < f + n) (hm : m ≤ f + halfN n) (kn : Bool) :
    partB f n m = (f + halfN n, f + n) :: partB f (halfN n) m ∧ partL f n m = partL f (halfN n) m ∧ partK f n m kn = partK f (halfN n) m kn := by
  refine ⟨?_, ?_, ?_⟩
  · rw [partB, dif_neg (by omega), if_pos hm]
  · rw [partL, dif_neg (by omega), if_pos hm]
  · rw [partK, dif_neg (by omega), if_pos hm]
theorem part_high {f n m : Nat} (h : 2 ≤ n) (h' : m < f + n) (hm : f + halfN n < m) (kn : Bool) :
    partB f n m = (f, f + halfN n) :: partB (f + halfN n) (n - halfN n) m ∧ partL f n m = partL (f + halfN n) (n - halfN n) m ∧ partK f n m kn = partK (f + halfN n) (n - halfN n) m false := by
  refine ⟨?_, ?_, ?_⟩
  · rw [partB, dif_neg (by omega), if_neg (by omega)]
  · rw [partL, dif_neg (by omega), if_neg (by omega)]
  · rw [partK, dif_neg (by omega), if_neg (by omega)]

theorem partL_ok : ∀ (k f n m : Nat), n ≤ k → 1 ≤ n → f < m → f ≤ (partL f n m).1 ∧ (partL f n m).1 < (partL f n m).2 ∧ (partL f n m).2 ≤ f + n
  | k, f, n, m, hk, h1, hf => by
    by_cases h : n ≤ 1 ∨ f + n ≤ m
    · rw [(part_end h true).2.1]
      exact ⟨Nat.le_refl _, by show f < f + n; omega, Nat.le_refl _⟩
    · have h2 : 2 ≤ n := by omega
      have h3 := halfN_lt h2
      have h4 := halfN_pos n
      rcases Nat.lt_or_ge (f + halfN n) m with hh | hh
      · rw [(part_high h2 (by omega) hh true).2.1]
        have := partL_ok (k - 1) (f + halfN n) (n - halfN n) m (by omega) (by omega) hh
        omega
      · rw [(part_low h2 (by omega) hh true).2.1]
        have := partL_ok (k - 1) f (halfN n) m (by omega) h4 hf
        omega
termination_by k => k
decreasing_by all_goals omega

theorem partB_ok : ∀ (k f n m : Nat), n ≤ k → f < m → ∀ p ∈ partB f n m, f ≤ p.1 ∧ p.1 + 1 ≤ p.2 ∧ p.2 ≤ f + n
  | k, f, n, m, hk, hf => by
    by_cases h : n ≤ 1 ∨ f + n ≤ m
    · rw [(part_end h true).1]; intro p hp; cases hp
    · have h2 : 2 ≤ n := by omega
      have h3 := halfN_lt h2
      have h4 := halfN_pos n
      rcases Nat.lt_or_ge (f + halfN n) m with hh | hh
      · rw [(part_high h2 (by omega) hh true).1]
        intro p hp
        rcases List.mem_cons.1 hp with rfl | hp
        · exact ⟨Nat.le_refl _, by show f + 1 ≤ f + halfN n; omega, by show f + halfN n ≤ f + n; omega⟩
        · have := partB_ok (k - 1) (f + halfN n) (n - halfN n) m (by omega) hh p hp
          omega
      · rw [(part_low h2 (by omega) hh true).1]
        intro p hp
        rcases List.mem_cons.1 hp with rfl | hp
        · exact ⟨by show f ≤ f + halfN n; omega, by show f + halfN n + 1 ≤ f + n; omega, Nat.le_refl _⟩
        · have := partB_ok (k - 1) f (halfN n) m (by omega) hf p hp
          omega
termination_by k => k
decreasing_by all_goals omega

theorem partB_len : ∀ (k f n m : Nat), n ≤ k → (partB f n m).length ≤ n - 1
  | k, f, n, m, hk => by
    by_cases h : n ≤ 1 ∨ f + n ≤ m
    · rw [(part_end h true).1]; exact Nat.zero_le _
    · have h2 : 2 ≤ n := by omega
      have h3 := halfN_lt h2
      have h4 := halfN_pos n
      rcases Nat.lt_or_ge (f + halfN n) m with hh | hh
      · rw [(part_high h2 (by omega) hh true).1, List.length_cons]
        have := partB_len (k - 1) (f + halfN n) (n - halfN n) m (by omega)
        omega
      · rw [(part_low h2 (by omega) hh true).1, List.length_cons]
        have := partB_len (k - 1) f (halfN n) m (by omega)
        omega
termination_by k => k
decreasing_by all_goals omega

/- The seals of the parts. -/
def sealP (l : List ByteArray) (p : Nat × Nat) : ByteArray := rootV (seg l p.1 (p.2 - p.1))
theorem parts_grow (l : List ByteArray) : ∀ (k f n m : Nat) (kn : Bool), n ≤ k → 1 ≤ n → f < m → f + n ≤ l.length →
    growS (seg l f n) (m - f) kn = (if partK f n m kn then [] else [sealP l (partL f n m)]) ++ (partB f n m).reverse.map (sealP l)
  | k, f, n, m, kn, hk, h1, hf, hl => by
    have hlen := seg_len l f n hl
    by_cases h : n ≤ 1 ∨ f + n ≤ m
    · obtain ⟨e1, e2, e3⟩ := part_end h kn
      rw [e1, e2, e3, growS_all (by rw [hlen]; omega)]
      have : sealP l (f, f + n) = rootV (seg l f n) := by unfold sealP; rw [show (f, f + n).2 - (f, f + n).1 = n by show f + n - f = n; omega]
      rw [this]
      simp
    · have h2 : 2 ≤ n := by omega
      have h3 := halfN_lt h2
      have h4 := halfN_pos n
      rcases Nat.lt_or_ge (f + halfN n) m with hh | hh
      · obtain ⟨e1, e2, e3⟩ := part_high (f := f) (m := m) h2 (by omega) hh kn
        rw [e1, e2, e3, growS_high (by omega) (by rw [hlen]; omega) (by rw [hlen]; omega), hlen, seg_take l f n _ (by omega), seg_drop]
        rw [show m - f - halfN n = m - (f + halfN n) by omega, parts_grow l (k - 1) (f + halfN n) (n - halfN n) m false (by omega) (by omega) hh (by omega)]
        have : sealP l (f, f + halfN n) = rootV (seg l f (halfN n)) := by unfold sealP; rw [show (f, f + halfN n).2 - (f, f + halfN n).1 = halfN n by show f + halfN n - f = _; omega]
        simp [this]
      · obtain ⟨e1, e2, e3⟩ := part_low (f := f) (m := m) h2 (by omega) hh kn
        rw [e1, e2, e3, growS_low (by omega) (by rw [hlen]; omega) (by rw [hlen]; omega), hlen, seg_take l f n _ (by omega), seg_drop]
        rw [parts_grow l (k - 1) f (halfN n) m kn (by omega) h4 hf (by omega)]
        have : sealP l (f + halfN n, f + n) = rootV (seg l (f + halfN n) (n - halfN n)) := by unfold sealP; rw [show (f + halfN n, f + n).2 - (f + halfN n, f + n).1 = n - halfN n by show f + n - (f + halfN n) = _; omega]
        simp [this]
termination_by k => k
decreasing_by all_goals omega
theorem parts_all (l : List ByteArray) (m : Nat) (h1 : 1 ≤ m) (hl : 1 ≤ l.length) :
    growS l m true = (if partK 0 l.length m true then [] else [sealP l (partL 0 l.length m)]) ++ (partB 0 l.length m).reverse.map (sealP l) := by
  have := parts_grow l l.length 0 l.length m true (Nat.le_refl _) hl h1 (by omega)
  rwa [seg_all] at this

/- A step of the making, from below: the part beside, its seal. -/
def makeP (e : Nat) (o : Option (ByteArray × ByteArray)) (q : (Nat × Nat) × ByteArray) : Option (ByteArray × ByteArray) :=
  o.bind fun p => if e ≤ q.1.1 then (nodeO p.2 q.2).bind fun b => some (p.1, b) else (nodeO q.2 p.1).bind fun a => (nodeO q.2 p.2).bind fun b => some (a, b)
theorem makeP_right {e : Nat} {p : Nat × Nat} (h : e ≤ p.1) (o : Option (ByteArray × ByteArray)) (s : ByteArray) : makeP e o (p, s) = o.bind fun q => (nodeO q.2 s).bind fun b => some (q.1, b) := by
  unfold makeP
  simp only [if_pos h]
theorem makeP_left {e : Nat} {p : Nat × Nat} (h : ¬ e ≤ p.1) (o : Option (ByteArray × ByteArray)) (s : ByteArray) : makeP e o (p, s) = o.bind fun q => (nodeO s q.1).bind fun a => (nodeO s q.2).bind fun b => some (a, b) := by
  unfold makeP
  simp only [if_neg h]
def wantP (f n m : Nat) (kn : Bool) : Nat := (partB f n m).length + (if partK f n m kn then 0 else 1)
def firstP (old : ByteArray) (k : Bool) (x : List ByteArray) : ByteArray := if k then old else x.getD 0 ByteArray.empty
def restP (k : Bool) (x : List ByteArray) : List ByteArray := if k then x else x.drop 1

theorem parts_mk (old : ByteArray) : ∀ (k f n m : Nat) (kn : Bool) (x : List ByteArray), n ≤ k → 1 ≤ n → f < m →
    mkS old n (m - f) kn x = if x.length = wantP f n m kn then ((partB f n m).reverse.zip (restP (partK f n m kn) x)).foldl (makeP (partL f n m).2) (some (firstP old (partK f n m kn) x, firstP old (partK f n m kn) x)) else none
  | k, f, n, m, kn, x, hk, h1, hf => by
    by_cases h : n ≤ 1 ∨ f + n ≤ m
    · obtain ⟨e1, e2, e3⟩ := part_end h kn
      unfold wantP
      rw [e1, e2, e3]
      cases kn with
      | true =>
        rw [mkS_known old (by omega)]
        by_cases hx : x = []
        · subst hx; simp [firstP]
        · rw [if_neg hx, if_neg]
          simpa using hx
      | false =>
        rw [mkS_unknown old (by omega)]
        unfold oneS
        by_cases hx : x.length = 1
        · rw [if_pos hx, if_pos (by simpa using hx)]
          simp [firstP]
        · rw [if_neg hx, if_neg (by simpa using hx)]
    · have h2 : 2 ≤ n := by omega
      have h3 := halfN_lt h2
      have h4 := halfN_pos n
      have snoc : ∀ (B : List (Nat × Nat)) (K : Bool) (E : Nat) (p : Nat × Nat) (x' : List ByteArray) (s : ByteArray), x'.length = B.length + (if K then 0 else 1) →
          (((p :: B).reverse.zip (restP K (x' ++ [s]))).foldl (makeP E) (some (firstP old K (x' ++ [s]), firstP old K (x' ++ [s])))) =
            makeP E ((B.reverse.zip (restP K x')).foldl (makeP E) (some (firstP old K x', firstP old K x'))) (p, s) := by
        intro B K E p x' s hlen
        have hr : restP K (x' ++ [s]) = restP K x' ++ [s] := by
          unfold restP
          cases K with
          | true => rfl
          | false => simp only [Bool.false_eq_true, ↓reduceIte] at hlen ⊢; rw [List.drop_append_of_le_length (by omega)]
        have hfst : firstP old K (x' ++ [s]) = firstP old K x' := by
          unfold firstP
          cases K with
          | true => rfl
          | false =>
            simp only [Bool.false_eq_true, ↓reduceIte] at hlen ⊢
            rw [List.getD_eq_getElem?_getD, List.getD_eq_getElem?_getD, List.getElem?_append_left (by omega)]
        have hl2 : B.reverse.length = (restP K x').length := by
          unfold restP
          cases K with
          | true => simp at hlen ⊢; omega
          | false => simp at hlen ⊢; omega
        rw [hr, hfst, List.reverse_cons, List.zip_append hl2, List.foldl_append]
        rfl
      rcases List.eq_nil_or_concat x with rfl | ⟨x', s, rfl⟩
      · rw [mkS_nil old h2 (by omega), if_neg]
        unfold wantP
        rcases Nat.lt_or_ge (f + halfN n) m with hh | hh
        · rw [(part_high h2 (by omega) hh kn).1]; simp; omega
        · rw [(part_low h2 (by omega) hh kn).1]; simp; omega
      rw [List.concat_eq_append]
      rcases Nat.lt_or_ge (f + halfN n) m with hh | hh
      · obtain ⟨e1, e2, e3⟩ := part_high (f := f) (m := m) h2 (by omega) hh kn
        have hw : (x' ++ [s]).length = wantP f n m kn ↔ x'.length = wantP (f + halfN n) (n - halfN n) m false := by
          unfold wantP; rw [e1, e3]; simp; omega
        rw [mkS_high old h2 (by omega) (by omega), show m - f - halfN n = m - (f + halfN n) by omega, parts_mk old (k - 1) (f + halfN n) (n - halfN n) m false x' (by omega) (by omega) hh]
        by_cases hx : x'.length = wantP (f + halfN n) (n - halfN n) m false
        · rw [if_pos hx, if_pos (hw.2 hx), e1, e2, e3, snoc _ _ _ _ _ _ hx]
          have hL := partL_ok (n - halfN n) (f + halfN n) (n - halfN n) m (Nat.le_refl _) (by omega) hh
          rw [makeP_left (by show ¬ _ ≤ f; omega)]
        · rw [if_neg hx, if_neg (fun h => hx (hw.1 h))]; rfl
      · obtain ⟨e1, e2, e3⟩ := part_low (f := f) (m := m) h2 (by omega) hh kn
        have hw : (x' ++ [s]).length = wantP f n m kn ↔ x'.length = wantP f (halfN n) m kn := by
          unfold wantP; rw [e1, e3]; simp; omega
        rw [mkS_low old h2 (by omega) (by omega), parts_mk old (k - 1) f (halfN n) m kn x' (by omega) h4 hf]
        by_cases hx : x'.length = wantP f (halfN n) m kn
        · rw [if_pos hx, if_pos (hw.2 hx), e1, e2, e3, snoc _ _ _ _ _ _ hx]
          have hL := partL_ok (halfN n) f (halfN n) m (Nat.le_refl _) h4 hf
          rw [makeP_right (by show _ ≤ f + halfN n; omega)]
        · rw [if_neg hx, if_neg (fun h => hx (hw.1 h))]; rfl
termination_by k => k
decreasing_by all_goals omega
end Go.Proofs.YtmemahlibndoiafFmt
