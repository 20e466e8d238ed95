/-
  Package trie's Path and Shows.
-/
import Derived.Test.YtegilmaplhkkiadFmtTrie
import Derived.Test.YtegilmaplhkkiadFmtOwn
import Derived.Deep.LoopGhost
namespace Go.Proofs.YtegilmaplhkkiadFmt
open Go Go.RowKit Go.Maps

theorem infoText : (Tryf.prog.info? 9).map (fun i => (i.zero, i.size, i.bytes)) = some (some (.string ⟨#[]⟩), 1, 16) := by kernel_rfl

theorem pathT_at (f : Nat → Option ByteArray) : ∀ (n h k j : Nat), j < n → (pathT f h k n)[j]? = some (trieT f (h + j) (sibN (k / 2 ^ j)))
  | 0, _, _, _, hj => absurd hj (by omega)
  | n + 1, h, k, 0, _ => by simp [pathT]
  | n + 1, h, k, j + 1, hj => by
    show (pathT f (h + 1) (k / 2) n)[j]? = _
    rw [pathT_at f n (h + 1) (k / 2) j (by omega), Nat.div_div_eq_div_mul, Nat.pow_succ, Nat.mul_comm 2, show h + 1 + j = h + (j + 1) by omega]
theorem pathT_take (f : Nat → Option ByteArray) {n k j : Nat} (h : j < n) : (pathT f 0 k n).take (j + 1) = (pathT f 0 k n).take j ++ [trieT f j (sibN (k / 2 ^ j))] := by
  rw [List.take_add_one, pathT_at f n 0 k j h, Nat.zero_add]
  rfl
theorem pathT_313 {f : Nat → Option ByteArray} (hf : Short f) {n k : Nat} (hn : n ≤ 4) : ∀ s ∈ pathT f 0 k n, s.size ≤ 313 := by
  intro s hs
  obtain ⟨j, hj, rfl⟩ := List.getElem_of_mem hs
  rw [pathT_len] at hj
  have := pathT_at f n 0 k j hj
  rw [List.getElem?_eq_getElem (by rw [pathT_len]; exact hj)] at this
  injection this with this
  rw [this]
  exact trieT_313 hf _ (by omega)


/- Shows. -/
theorem empty_list : (⟨#[]⟩ : ByteArray).toList = [] := by decide +kernel
theorem empty_of {v : ByteArray} (h : v.size = 0) : v = ⟨#[]⟩ := by
  apply ba_ext
  have h1 := ba_size v
  rw [h] at h1
  rw [List.length_eq_zero_iff.1 h1.symm]
/- Whether a value is told with a key that has none. -/
def FormOk (v : ByteArray) (t : Bool) : Prop := t = true ∨ v = ⟨#[]⟩
theorem one_start (v : ByteArray) (t : Bool) (x : ByteArray) (h : startT v t = some x) (w : World) :
    Calls Tryf.prog 42 #[.string v, .bool t] w fun e w' => e = .returned (.tuple #[.string x, .int .i64 0]) ∧ w = w' := by
  cases t with
  | false =>
    injection (show some noneS = some x from h) with h
    rw [← h]
    exact one_none v w
  | true =>
    obtain ⟨hs, rfl⟩ := leafO_some (show leafO v = some x from h)
    exact one_slot (some v) (fun s e => by injection e with e; rw [← e]; exact hs) w
theorem one_stop (v : ByteArray) (t : Bool) (h : startT v t = none) (w : World) :
    Calls Tryf.prog 42 #[.string v, .bool t] w fun e w' => e = .returned (.tuple #[.string ⟨#[]⟩, .int .i64 2]) ∧ w = w' := by
  cases t with
  | false => cases (show some noneS = none from h)
  | true => exact one_many v w (leafO_none (show leafO v = none from h))

def endE (all : ByteArray) : Option ByteArray → Int
  | none => 2
  | some x => if x = all then 0 else 7
theorem endE_same (all : ByteArray) : endE all (some all) = 0 := if_pos rfl
theorem endE_other {all y : ByteArray} (h : y ≠ all) : endE all (some y) = 7 := if_neg h
theorem sideT_size {k : Nat} {y s z : ByteArray} (h : sideT k y s = some z) : z.size ≤ 9223372036854775807 := by
  unfold sideT at h
  split at h <;> (have := nodeO_size h; omega)
theorem drop_at {l : List ByteArray} {j : Nat} (h : j < l.length) : l.drop j = l.getD j ByteArray.empty :: l.drop (j + 1) := by
  rw [List.drop_eq_getElem_cons h, List.getD_eq_getElem?_getD, List.getElem?_eq_getElem h]
  rfl

