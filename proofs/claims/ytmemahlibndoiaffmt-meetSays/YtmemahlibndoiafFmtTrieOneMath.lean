/-
  Two lots of values and their seals; one value put in another's place.
-/
import Derived.Test.YtmemahlibndoiafFmtMapMath
namespace Go.Proofs.YtmemahlibndoiafFmt
open Go Go.RowKit Go.Maps

theorem root_alike {f g : Nat → Option ByteArray} (hf : Short f) (hg : Short g) : trieT f 4 0 = trieT g 4 0 ↔ ∀ k, k < 16 → f k = g k :=
  ⟨fun h k hk => trieT_inj hf hg 4 0 (Nat.le_refl _) h k (by omega) (by omega), fun h => trieT_congr 4 0 (fun k _ hk => h k (by omega))⟩
theorem path_other {f g : Nat → Option ByteArray} : ∀ (n h k : Nat), (∀ j, ¬ (k * 2 ^ h ≤ j ∧ j < (k + 1) * 2 ^ h) → f j = g j) → pathT f h k n = pathT g h k n
  | 0, _, _, _ => rfl
  | n + 1, h, k, hj => by
    show trieT f h (sibN k) :: pathT f (h + 1) (k / 2) n = trieT g h (sibN k) :: pathT g (h + 1) (k / 2) n
    have hp : (2 : Nat) ^ (h + 1) = 2 * 2 ^ h := by rw [Nat.pow_succ, Nat.mul_comm]
    have hpos : 0 < (2 : Nat) ^ h := Nat.pos_of_ne_zero (by simp)
    congr 1
    · refine trieT_congr h (sibN k) fun i h1 h2 => hj i fun ⟨h3, h4⟩ => ?_
      have a1 : sibN k < k + 1 := Nat.lt_of_mul_lt_mul_right (Nat.lt_of_le_of_lt h1 h4)
      have a2 : k < sibN k + 1 := Nat.lt_of_mul_lt_mul_right (Nat.lt_of_le_of_lt h3 h2)
      unfold sibN at a1 a2
      by_cases hk2 : k % 2 = 0
      · rw [if_pos hk2] at a1 a2; omega
      · rw [if_neg hk2] at a1 a2; omega
    · refine path_other n (h + 1) (k / 2) fun i hi => hj i fun ⟨h3, h4⟩ => hi ?_
      rw [hp]
      have e1 : k / 2 * (2 * 2 ^ h) ≤ k * 2 ^ h := by
        rw [← Nat.mul_assoc]; exact Nat.mul_le_mul_right _ (by omega)
      have e2 : (k + 1) * 2 ^ h ≤ (k / 2 + 1) * (2 * 2 ^ h) := by
        rw [← Nat.mul_assoc]; exact Nat.mul_le_mul_right _ (by omega)
      omega
theorem path_same {D E : DataW Unit} {k : Nat} {s : ByteArray} (hE : ∀ j : Int, valD E j = if j = (k : Int) then some s else valD D j) : pathT (valN E) 0 k 4 = pathT (valN D) 0 k 4 := by
  refine path_other 4 0 k fun j hj => ?_
  show valD E (j : Int) = valD D (j : Int)
  rw [hE, if_neg (by simp only [Nat.pow_zero, Nat.mul_one] at hj; omega)]

theorem copy_put {D X : DataW Unit} (hx : ∀ j, valD X j = valD D j) (hm : IsMap X) (k : Int) (s : ByteArray) (j : Int) : valD (X.put (.int .i64 k) (.lit (.string s.data.toList))) j = if j = k then some s else valD D j := by
  rw [valD_put hm, hx]
theorem put_good {D E : DataW Unit} (hG : GoodMap D) {k : Nat} (hk : k < 16) {s : ByteArray} (hs : s.size ≤ 12) (hE : ∀ j : Int, valD E j = if j = (k : Int) then some s else valD D j) : GoodMap E := by
  intro j t h
  rw [hE] at h
  split at h
  · rename_i hj
    injection h with h
    subst h
    exact ⟨by omega, by omega, hs⟩
  · exact hG j t h
theorem put_root {D E : DataW Unit} (hG : GoodMap D) (gE : GoodMap E) {k : Nat} (hk : k < 16) {s : ByteArray} (hE : ∀ j : Int, valD E j = if j = (k : Int) then some s else valD D j) :
    trieT (valN D) 4 0 = trieT (valN E) 4 0 ↔ ((valD D k).isSome = true ∧ valS D k = s) := by
  rw [root_alike hG.short gE.short]
  constructor
  · intro h
    have h1 : valD D (k : Int) = valD E (k : Int) := h k hk
    rw [hE, if_pos rfl] at h1
    exact ⟨by rw [h1]; rfl, valD_some h1⟩
  · rintro ⟨h1, h2⟩ j hj
    obtain ⟨t, ht⟩ := Option.isSome_iff_exists.1 h1
    rw [valD_some ht] at h2
    show valD D (j : Int) = valD E (j : Int)
    rw [hE]
    by_cases e : (j : Int) = (k : Int)
    · rw [if_pos e, e, ht, h2]
    · rw [if_neg e]
theorem agree_vals {X D : DataW Unit} {left : Lit → Bool} (hA : Agree X D left) (hl : ∀ k, left k = false) (j : Int) : valD X j = valD D j := by
  have h1 : has X (.int .i64 j) = has D (.int .i64 j) := by rw [hA.1, hl]; simp
  unfold valD
  rw [h1]
  cases hh : has D (.int .i64 j)
  · rfl
  · rw [if_pos rfl, if_pos rfl, hA.2 _ _ (by rw [h1, hh])]
end Go.Proofs.YtmemahlibndoiafFmt
