/-
  The rows of seals of chapter 5: of sixteen keys, of eight pairs, and so on.
-/
import Derived.Test.YtegilmaplhkkiadFmtTrieMath
namespace Go.Proofs.YtegilmaplhkkiadFmt
open Go Go.RowKit

def rowT (f : Nat → Option ByteArray) (d : Nat) : List ByteArray := (List.range (2 ^ (4 - d))).map (trieT f d)
theorem rowT_len (f : Nat → Option ByteArray) (d : Nat) : (rowT f d).length = 2 ^ (4 - d) := by simp [rowT]
theorem rowT_at (f : Nat → Option ByteArray) {d i : Nat} (h : i < 2 ^ (4 - d)) : (rowT f d)[i]? = some (trieT f d i) := by
  unfold rowT
  rw [List.getElem?_map, List.getElem?_range h]
  rfl
theorem rowT_getD (f : Nat → Option ByteArray) {d i : Nat} (h : i < 2 ^ (4 - d)) : (rowT f d).getD i ByteArray.empty = trieT f d i := by
  rw [List.getD_eq_getElem?_getD, rowT_at f h]; rfl
theorem rowT_take (f : Nat → Option ByteArray) {d i : Nat} (h : i < 2 ^ (4 - d)) : (rowT f d).take (i + 1) = (rowT f d).take i ++ [trieT f d i] := by
  rw [List.take_add_one, rowT_at f h]
  rfl
theorem rowT_313 {f : Nat → Option ByteArray} (hf : Short f) {d : Nat} (hd : d ≤ 4) : ∀ s ∈ rowT f d, s.size ≤ 313 := by
  intro s hs
  obtain ⟨i, _, rfl⟩ := List.mem_map.1 hs
  exact trieT_313 hf i hd
theorem row_half {d : Nat} (h : d < 4) : 2 ^ (4 - d) = 2 * 2 ^ (4 - (d + 1)) := by
  rw [show 4 - d = 4 - (d + 1) + 1 by omega, Nat.pow_succ, Nat.mul_comm]
end Go.Proofs.YtegilmaplhkkiadFmt
