/-
  What Shows answers at a key, in the words of what stands there.
-/
import Derived.Test.YtdkmijejfmnncadDoorMapMath
namespace Go.Proofs.YtdkmijejfmnncadDoor
open Go Go.RowKit Go.Maps

theorem empty_size {v : ByteArray} (h : v.size = 0) : v = ⟨#[]⟩ := by
  apply ba_ext
  have h1 := ba_size v
  rw [h] at h1
  rw [List.length_eq_zero_iff.1 h1.symm]
theorem val_iff {D : DataW Unit} {k : Int} {v : ByteArray} {t : Bool} (h : t = false → v.size = 0) : (if t then some v else none) = valD D k ↔ t = (valD D k).isSome ∧ v = valS D k := by
  cases hd : valD D k with
  | none =>
    rw [valD_none hd]
    cases t with
    | true => simp
    | false => simpa using empty_size (h rfl)
  | some s =>
    rw [valD_some hd]
    cases t with
    | true => simp
    | false => simp
theorem shown_val {D : DataW Unit} (hG : GoodMap D) {k : Nat} (hk : k < 16) {v : ByteArray} {t : Bool} {l : List ByteArray} (h : trieE (trieT (valN D) 4 0) (k : Nat) v t l = 0) : t = (valD D k).isSome ∧ v = valS D k := by
  obtain ⟨h1, h2, _⟩ := (trie_iff hG.short k hk v t l).1 h
  exact (val_iff h2).1 h1
theorem shown_own {D : DataW Unit} (hG : GoodMap D) {k : Nat} (hk : k < 16) : trieE (trieT (valN D) 4 0) (k : Nat) (valS D k) (valD D k).isSome (pathT (valN D) 0 k 4) = 0 := by
  have hf : (valD D (k : Nat)).isSome = false → (valS D (k : Nat)).size = 0 := by
    intro h
    rw [valD_none (Option.isNone_iff_eq_none.1 (by rw [← Option.not_isSome, h]; rfl))]
    rfl
  exact (trie_iff hG.short k hk _ _ _).2 ⟨(val_iff hf).2 ⟨rfl, rfl⟩, hf, rfl⟩

theorem shown_just {D : DataW Unit} (hG : GoodMap D) {k : Nat} (hk : k < 16) (l : List ByteArray) : trieE (trieT (valN D) 4 0) (k : Nat) (valS D k) (valD D k).isSome l = 0 ↔ l = pathT (valN D) 0 k 4 :=
  ⟨fun h => ((trie_iff hG.short k hk _ _ l).1 h).2.2, fun h => by rw [h]; exact shown_own hG hk⟩
end Go.Proofs.YtdkmijejfmnncadDoor
