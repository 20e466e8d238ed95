/-
  What a book's entries come to, gathered from behind: the same values.
-/
import Derived.Test.YthhckpnnjegldafDoorEnts
namespace Go.Proofs.YthhckpnnjegldafDoor
open Go Go.RowKit Go.Maps

def lastV : List EntB → Int → Option ByteArray
  | [], _ => none
  | e :: l, k => (lastV l k).or (if k = e.1 then some e.2 else none)
theorem foldl_last : ∀ (l : List EntB) {D : DataW Unit} (_ : Tidy D) (k : Int), valD (l.foldl putE D) k = (lastV l k).or (valD D k)
  | [], _, _, _ => by simp [lastV]
  | e :: l, D, h, k => by
    show valD (l.foldl putE (putE D e)) k = ((lastV l k).or (if k = e.1 then some e.2 else none)).or (valD D k)
    rw [foldl_last l (putE_tidy h e) k, putE_val h, Option.or_assoc]
    by_cases hk : k = e.1
    · rw [if_pos hk, if_pos hk]; rfl
    · rw [if_neg hk, if_neg hk]; rfl
theorem vals_last (l : List EntB) (k : Int) : valD (valsD l) k = lastV l k := by
  unfold valsD
  rw [foldl_last l ⟨[], rfl, List.Pairwise.nil⟩ k, valD_empty]
  simp

def backD : List EntB → DataW Unit
  | [] => .map []
  | e :: l => if (valD (backD l) e.1).isSome = true then backD l else putE (backD l) e
theorem backD_tidy : ∀ l : List EntB, Tidy (backD l)
  | [] => ⟨[], rfl, List.Pairwise.nil⟩
  | e :: l => by
    show Tidy (if (valD (backD l) e.1).isSome = true then backD l else putE (backD l) e)
    split
    · exact backD_tidy l
    · exact putE_tidy (backD_tidy l) e
theorem back_last : ∀ (l : List EntB) (k : Int), valD (backD l) k = lastV l k
  | [], k => valD_empty k
  | e :: l, k => by
    show valD (if (valD (backD l) e.1).isSome = true then backD l else putE (backD l) e) k = (lastV l k).or (if k = e.1 then some e.2 else none)
    by_cases h : (valD (backD l) e.1).isSome = true
    · rw [if_pos h, back_last l k]
      by_cases hk : k = e.1
      · subst hk
        rw [back_last l e.1] at h
        obtain ⟨s, hs⟩ := Option.isSome_iff_exists.1 h
        rw [hs]; rfl
      · rw [if_neg hk]; simp
    · rw [if_neg h, putE_val (backD_tidy l)]
      by_cases hk : k = e.1
      · subst hk
        rw [if_pos rfl, if_pos rfl]
        rw [back_last l e.1] at h
        cases hv : lastV l e.1 with
        | none => rfl
        | some s => rw [hv] at h; exact absurd rfl h
      · rw [if_neg hk, if_neg hk, back_last l k]; simp
theorem back_vals (l : List EntB) (k : Int) : valD (backD l) k = valD (valsD l) k := by rw [back_last, vals_last]
theorem back_good {l : List EntB} (h : GoodBook l) : GoodMap (backD l) := fun k s hs => valsD_good h.2 k s (by rw [← back_vals]; exact hs)
theorem back_root (l : List EntB) : trieT (valN (backD l)) 4 0 = headMap l := trieT_congr 4 0 (fun k _ _ => back_vals l (k : Int))
theorem back_alike {l : List EntB} (h : GoodBook l) (h1 : TextMap (valsD l)) (h2 : TextMap (backD l)) : Lib.equalFuncD eqD (valsD l) (backD l) = true :=
  (alike_iff h1 h2 (valsD_good h.2) (back_good h)).2 (fun k _ => (back_vals l (k : Int)).symm)
theorem back_drop {l : List EntB} {i : Nat} (h : i < l.length) : backD (l.drop i) = if (valD (backD (l.drop (i + 1))) (entAt l i).1).isSome = true then backD (l.drop (i + 1)) else putE (backD (l.drop (i + 1))) (entAt l i) := by
  rw [ents_drop h]
  rfl
end Go.Proofs.YthhckpnnjegldafDoor
