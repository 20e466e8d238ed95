/-
  Plain mathematics: the making from below, round by round.
-/
import Derived.Test.YtmemahlibndoiafFmtPartMath
import Derived.Test.YtmemahlibndoiafFmtTakeMath
namespace Go.Proofs.YtmemahlibndoiafFmt
open Go Go.RowKit

theorem make_none (E : Nat) : ∀ l : List ((Nat × Nat) × ByteArray), l.foldl (makeP E) none = none
  | [] => rfl
  | _ :: l => make_none E l
def makeR (E : Nat) (o : Option (ByteArray × ByteArray)) (R : List (Nat × Nat)) (x : List ByteArray) (k : Nat) : Option (ByteArray × ByteArray) := ((R.drop k).zip (x.drop k)).foldl (makeP E) o
theorem makeR_none (E : Nat) (R : List (Nat × Nat)) (x : List ByteArray) (k : Nat) : makeR E none R x k = none := make_none E _
theorem makeR_round (E : Nat) (o : Option (ByteArray × ByteArray)) (R : List (Nat × Nat)) (x : List ByteArray) (k : Nat) (hk : k < R.length) (hx : x.length = R.length) :
    makeR E o R x k = makeR E (makeP E o (R.getD k (0, 0), textAt x k)) R x (k + 1) := by
  have e1 : R.drop k = R.getD k (0, 0) :: R.drop (k + 1) := by
    rw [List.drop_eq_getElem_cons hk, List.getD_eq_getElem?_getD, List.getElem?_eq_getElem hk, Option.getD_some]
  have e2 : x.drop k = textAt x k :: x.drop (k + 1) := by
    unfold textAt
    rw [List.drop_eq_getElem_cons (by omega), List.getD_eq_getElem?_getD, List.getElem?_eq_getElem (by omega), Option.getD_some]
  unfold makeR
  rw [e1, e2]
  rfl
theorem makeR_end (E : Nat) (o : Option (ByteArray × ByteArray)) (R : List (Nat × Nat)) (x : List ByteArray) (k : Nat) (hk : R.length ≤ k) : makeR E o R x k = o := by
  unfold makeR
  rw [List.drop_of_length_le hk]
  rfl

/- What Shows answers, by the parts. -/
theorem growE_parts (old root : ByteArray) (m n : Nat) (x : List ByteArray) (h1 : 1 ≤ m) (hm : m ≤ n) (h24 : n ≤ 24) :
    (¬ x.length = (partB 0 n m).length + (if partK 0 n m true then 0 else 1) → growE old m root n x = 7) ∧
    (x.length = (partB 0 n m).length + (if partK 0 n m true then 0 else 1) → growE old m root n x =
      if makeR (partL 0 n m).2 (some (firstP old (partK 0 n m true) x, firstP old (partK 0 n m true) x)) (partB 0 n m).reverse (restP (partK 0 n m true) x) 0 = some (old, root) then 0 else 7) := by
  have hp := parts_mk old n 0 n m true x (Nat.le_refl _) (by omega) (by omega)
  rw [Nat.sub_zero] at hp
  unfold wantP at hp
  have hg : growE old m root n x = if mkS old n m true x = some (old, root) then 0 else 7 := by
    unfold growE
    rw [if_neg (by omega)]
    rfl
  constructor
  · intro hl
    rw [if_neg hl] at hp
    rw [hg, if_neg]
    rw [hp]
    intro h
    cases h
  · intro hl
    rw [if_pos hl] at hp
    have hk : mkS old n m true x = some (old, root) ↔ makeR (partL 0 n m).2 (some (firstP old (partK 0 n m true) x, firstP old (partK 0 n m true) x)) (partB 0 n m).reverse (restP (partK 0 n m true) x) 0 = some (old, root) := by
      rw [hp]
      unfold makeR
      rw [List.drop_zero, List.drop_zero]
    rw [hg]
    by_cases h : mkS old n m true x = some (old, root)
    · rw [if_pos h, if_pos (hk.1 h)]
    · rw [if_neg h, if_neg (fun e => h (hk.2 e))]
end Go.Proofs.YtmemahlibndoiafFmt
