/-
  Plain mathematics of package trie: the seal of values by keys, a key's path, what is made of it again, and that just it shows what is so.
-/
import Derived.Test.YtmemahlibndoiafFmtTreeMath
namespace Go.Proofs.YtmemahlibndoiafFmt
open Go Go.RowKit

/- One key's seal: its value's, or that of nothing. -/
def slotT (v : Option ByteArray) : ByteArray := match v with | none => noneS | some s => leafS s
theorem slotT_inj {u v : Option ByteArray} (h : slotT u = slotT v) : u = v := by
  cases u with
  | none =>
    cases v with
    | none => rfl
    | some t => exact absurd h.symm (leaf_ne_none _)
  | some s =>
    cases v with
    | none => exact absurd h (leaf_ne_none _)
    | some t => rw [leafS_inj h]
theorem slotT_size {v : Option ByteArray} (h : ∀ s, v = some s → s.size ≤ 12) : (slotT v).size ≤ 13 := by
  cases v with
  | none => show noneS.size ≤ 13; decide
  | some s =>
    have := h s rfl
    show (leafS s).size ≤ 13
    rw [leafS_size]; omega

/- The seal of the part i of height d: of the keys from i times 2^d on, 2^d of them. -/
def trieT (f : Nat → Option ByteArray) : Nat → Nat → ByteArray
  | 0, i => slotT (f i)
  | d + 1, i => nodeS (trieT f d (2 * i)) (trieT f d (2 * i + 1))
def Short (f : Nat → Option ByteArray) : Prop := ∀ k s, f k = some s → s.size ≤ 12
def boundT : Nat → Nat
  | 0 => 13
  | d + 1 => 2 * boundT d + 7
theorem boundT_le {d : Nat} (h : d ≤ 4) : boundT d ≤ 313 := by
  match d, h with
  | 0, _ => decide
  | 1, _ => decide
  | 2, _ => decide
  | 3, _ => decide
  | 4, _ => decide
theorem trieT_size {f : Nat → Option ByteArray} (hf : Short f) : ∀ (d i : Nat), d ≤ 4 → (trieT f d i).size ≤ boundT d
  | 0, i, _ => slotT_size (hf i)
  | d + 1, i, h => by
    have h1 := trieT_size hf d (2 * i) (by omega)
    have h2 := trieT_size hf d (2 * i + 1) (by omega)
    have hb := boundT_le (d := d) (by omega)
    have h3 := nDigits_le5 (trieT f d (2 * i)).size (by omega)
    show (nodeS _ _).size ≤ 2 * boundT d + 7
    rw [nodeS_size]; omega
theorem trieT_313 {f : Nat → Option ByteArray} (hf : Short f) {d : Nat} (i : Nat) (h : d ≤ 4) : (trieT f d i).size ≤ 313 := Nat.le_trans (trieT_size hf d i h) (boundT_le h)
theorem trieT_node {f : Nat → Option ByteArray} (hf : Short f) {d : Nat} (i : Nat) (h : d ≤ 3) : nodeO (trieT f d (2 * i)) (trieT f d (2 * i + 1)) = some (trieT f (d + 1) i) := by
  have h1 := trieT_313 hf (d := d) (2 * i) (by omega)
  have h2 := trieT_313 hf (d := d) (2 * i + 1) (by omega)
  unfold nodeO
  rw [if_pos (by omega)]
  rfl

/- No two lots of values have one seal. -/
theorem trieT_inj {f g : Nat → Option ByteArray} (hf : Short f) (hg : Short g) : ∀ (d i : Nat), d ≤ 4 → trieT f d i = trieT g d i → ∀ k, i * 2 ^ d ≤ k → k < (i + 1) * 2 ^ d → f k = g k
  | 0, i, _, h, k, h1, h2 => by
    have : k = i := by simp at h1 h2; omega
    subst this
    exact slotT_inj h
  | d + 1, i, hd, h, k, h1, h2 => by
    have s1 := trieT_313 hf (d := d) (2 * i) (by omega)
    have s3 := trieT_313 hg (d := d) (2 * i) (by omega)
    obtain ⟨e1, e2⟩ := nodeS_inj (by omega) (by omega) h
    have hp : (2 : Nat) ^ (d + 1) = 2 * 2 ^ d := by rw [Nat.pow_succ, Nat.mul_comm]
    rw [hp] at h1 h2
    rcases Nat.lt_or_ge k ((2 * i + 1) * 2 ^ d) with hk | hk
    · refine trieT_inj hf hg d (2 * i) (by omega) e1 k ?_ hk
      calc 2 * i * 2 ^ d = i * (2 * 2 ^ d) := by rw [Nat.mul_comm 2 i, Nat.mul_assoc]
        _ ≤ k := h1
    · refine trieT_inj hf hg d (2 * i + 1) (by omega) e2 k hk ?_
      calc k < (i + 1) * (2 * 2 ^ d) := h2
        _ = (2 * i + 1 + 1) * 2 ^ d := by rw [← Nat.mul_assoc, Nat.mul_comm (i + 1) 2]; rfl
theorem trieT_congr {f g : Nat → Option ByteArray} : ∀ (d i : Nat), (∀ k, i * 2 ^ d ≤ k → k < (i + 1) * 2 ^ d → f k = g k) → trieT f d i = trieT g d i
  | 0, i, h => by
    show slotT (f i) = slotT (g i)
    rw [h i (by simp) (by simp)]
  | d + 1, i, h => by
    have hp : (2 : Nat) ^ (d + 1) = 2 * 2 ^ d := by rw [Nat.pow_succ, Nat.mul_comm]
    rw [hp] at h
    have q1 : i * (2 * 2 ^ d) = 2 * i * 2 ^ d := by rw [Nat.mul_comm 2 i, Nat.mul_assoc]
    have q2 : (i + 1) * (2 * 2 ^ d) = (2 * i + 1 + 1) * 2 ^ d := by rw [← Nat.mul_assoc, Nat.mul_comm (i + 1) 2]; rfl
    have q3 : (2 * i + 1) * 2 ^ d = 2 * i * 2 ^ d + 2 ^ d := by rw [Nat.add_mul, Nat.one_mul]
    have q4 : (2 * i + 1 + 1) * 2 ^ d = 2 * i * 2 ^ d + 2 ^ d + 2 ^ d := by rw [Nat.add_mul, q3, Nat.one_mul]
    show nodeS _ _ = nodeS _ _
    rw [trieT_congr d (2 * i) (fun k h1 h2 => h k (by omega) (by omega)), trieT_congr d (2 * i + 1) (fun k h1 h2 => h k (by omega) (by omega))]

/- The part beside. -/
def sibN (k : Nat) : Nat := if k % 2 = 0 then k + 1 else k - 1
def pathT (f : Nat → Option ByteArray) : Nat → Nat → Nat → List ByteArray
  | _, _, 0 => []
  | h, k, n + 1 => trieT f h (sibN k) :: pathT f (h + 1) (k / 2) n
theorem pathT_len (f : Nat → Option ByteArray) : ∀ (n h k : Nat), (pathT f h k n).length = n
  | 0, _, _ => rfl
  | n + 1, h, k => by show (pathT f (h + 1) (k / 2) n).length + 1 = n + 1; rw [pathT_len f n]
/- Seal by seal, upwards. -/
def sideT (k : Nat) (now s : ByteArray) : Option ByteArray := if k % 2 = 0 then nodeO now s else nodeO s now
def climbT : Nat → ByteArray → List ByteArray → Option ByteArray
  | _, now, [] => some now
  | k, now, s :: l => (sideT k now s).bind fun x => climbT (k / 2) x l
theorem sideT_up {f : Nat → Option ByteArray} (hf : Short f) {h : Nat} (k : Nat) (hh : h ≤ 3) : sideT k (trieT f h k) (trieT f h (sibN k)) = some (trieT f (h + 1) (k / 2)) := by
  unfold sideT sibN
  by_cases hk : k % 2 = 0
  · rw [if_pos hk, if_pos hk]
    have := trieT_node hf (d := h) (k / 2) hh
    rwa [show 2 * (k / 2) = k by omega] at this
  · rw [if_neg hk, if_neg hk]
    have := trieT_node hf (d := h) (k / 2) hh
    rwa [show 2 * (k / 2) = k - 1 by omega, show k - 1 + 1 = k by omega] at this
theorem sideT_only {f : Nat → Option ByteArray} (hf : Short f) {h k : Nat} {now s : ByteArray} (hh : h ≤ 3) (e : sideT k now s = some (trieT f (h + 1) (k / 2))) : now = trieT f h k ∧ s = trieT f h (sibN k) := by
  have z1 := trieT_313 hf (d := h) (2 * (k / 2)) (by omega)
  have z2 := trieT_313 hf (d := h) (2 * (k / 2) + 1) (by omega)
  unfold sideT at e
  unfold sibN
  by_cases hk : k % 2 = 0
  · rw [if_pos hk] at e ⊢
    obtain ⟨hz, he⟩ := nodeO_some e
    have he : nodeS (trieT f h (2 * (k / 2))) (trieT f h (2 * (k / 2) + 1)) = nodeS now s := he
    obtain ⟨e1, e2⟩ := nodeS_inj (by omega) (by omega) he
    rw [show 2 * (k / 2) = k by omega] at e1 e2
    exact ⟨e1.symm, e2.symm⟩
  · rw [if_neg hk] at e ⊢
    obtain ⟨hz, he⟩ := nodeO_some e
    have he : nodeS (trieT f h (2 * (k / 2))) (trieT f h (2 * (k / 2) + 1)) = nodeS s now := he
    obtain ⟨e1, e2⟩ := nodeS_inj (by omega) (by omega) he
    rw [show 2 * (k / 2) + 1 = k by omega] at e2
    rw [show 2 * (k / 2) = k - 1 by omega] at e1
    exact ⟨e2.symm, e1.symm⟩

theorem climb_ok {f : Nat → Option ByteArray} (hf : Short f) : ∀ (n h k : Nat), h + n ≤ 4 → climbT k (trieT f h k) (pathT f h k n) = some (trieT f (h + n) (k / 2 ^ n))
  | 0, h, k, _ => by simp [climbT, pathT]
  | n + 1, h, k, hn => by
    show (sideT k (trieT f h k) (trieT f h (sibN k))).bind (fun x => climbT (k / 2) x (pathT f (h + 1) (k / 2) n)) = _
    rw [sideT_up hf k (by omega), Option.bind_some, climb_ok hf n (h + 1) (k / 2) (by omega), Nat.pow_succ, Nat.mul_comm, ← Nat.div_div_eq_div_mul, show h + 1 + n = h + (n + 1) by omega]
theorem climb_only {f : Nat → Option ByteArray} (hf : Short f) : ∀ (l : List ByteArray) (h k : Nat) (now : ByteArray), h + l.length ≤ 4 → climbT k now l = some (trieT f (h + l.length) (k / 2 ^ l.length)) → now = trieT f h k ∧ l = pathT f h k l.length
  | [], h, k, now, _, e => by
    simp only [climbT, List.length_nil, Nat.add_zero, Nat.pow_zero, Nat.div_one] at e
    injection e with e
    exact ⟨e, rfl⟩
  | s :: l, h, k, now, hn, e => by
    have hn : h + (l.length + 1) ≤ 4 := hn
    have e : (sideT k now s).bind (fun x => climbT (k / 2) x l) = some (trieT f (h + (l.length + 1)) (k / 2 ^ (l.length + 1))) := e
    obtain ⟨x, hx, e⟩ := Option.bind_eq_some_iff.1 e
    rw [Nat.pow_succ, Nat.mul_comm, ← Nat.div_div_eq_div_mul, show h + (l.length + 1) = h + 1 + l.length by omega] at e
    obtain ⟨e1, e2⟩ := climb_only hf l (h + 1) (k / 2) x (by omega) e
    rw [e1] at hx
    obtain ⟨e3, e4⟩ := sideT_only hf (by omega) hx
    refine ⟨e3, ?_⟩
    show s :: l = trieT f h (sibN k) :: pathT f (h + 1) (k / 2) l.length
    rw [← e2, ← e4]

/- What Shows answers. -/
def startT (value : ByteArray) (there : Bool) : Option ByteArray := if there then leafO value else some noneS
def trieE (all : ByteArray) (key : Int) (value : ByteArray) (there : Bool) (l : List ByteArray) : Int :=
  if key < 0 ∨ 15 < key then 5
  else if there = false ∧ value.size ≠ 0 then 4
  else if l.length ≠ 4 then 7
  else match (startT value there).bind fun now => climbT key.toNat now l with
    | none => 2
    | some x => if x = all then 0 else 7

/- P5.3: just what is so, by just its path. -/
theorem trie_iff {f : Nat → Option ByteArray} (hf : Short f) (k : Nat) (hk : k < 16) (value : ByteArray) (there : Bool) (l : List ByteArray) :
    trieE (trieT f 4 0) (k : Nat) value there l = 0 ↔ (if there then some value else none) = f k ∧ (there = false → value.size = 0) ∧ l = pathT f 0 k 4 := by
  have hdiv : k / 2 ^ 4 = 0 := by omega
  unfold trieE
  rw [if_neg (by omega)]
  simp only [Int.toNat_natCast]
  by_cases h1 : there = false ∧ value.size ≠ 0
  · rw [if_pos h1]
    constructor
    · intro h; cases h
    · rintro ⟨_, h, _⟩; exact absurd (h h1.1) h1.2
  · rw [if_neg h1]
    by_cases h2 : l.length = 4
    · rw [if_neg (by simpa using h2)]
      have hv : there = false → value.size = 0 := fun h => Classical.byContradiction fun hn => h1 ⟨h, hn⟩
      have key : ((startT value there).bind fun now => climbT k now l) = some (trieT f 4 0) ↔ (if there then some value else none) = f k ∧ l = pathT f 0 k 4 := by
        constructor
        · intro h
          obtain ⟨now, hn, hc⟩ := Option.bind_eq_some_iff.1 h
          have hc' : climbT k now l = some (trieT f (0 + l.length) (k / 2 ^ l.length)) := by rw [h2, hdiv]; exact hc
          obtain ⟨e1, e2⟩ := climb_only hf l 0 k now (by omega) hc'
          rw [h2] at e2
          refine ⟨?_, e2⟩
          have e1 : now = slotT (f k) := e1
          cases there with
          | true =>
            obtain ⟨_, rfl⟩ := leafO_some (show leafO value = some now from hn)
            exact slotT_inj (u := some value) e1
          | false =>
            injection (show some noneS = some now from hn) with hn
            subst hn
            exact slotT_inj (u := none) e1
        · rintro ⟨e1, e2⟩
          have hs : startT value there = some (trieT f 0 k) := by
            show _ = some (slotT (f k))
            rw [← e1]
            cases there with
            | true =>
              have hz := hf k value e1.symm
              show leafO value = _
              unfold leafO
              rw [if_pos (by omega)]
              rfl
            | false => rfl
          rw [hs, Option.bind_some, e2, climb_ok hf 4 0 k (by omega), hdiv]
      rcases hr : (startT value there).bind fun now => climbT k now l with _ | x
      · rw [hr] at key
        constructor
        · intro h; cases h
        · rintro ⟨e1, _, e2⟩; cases key.2 ⟨e1, e2⟩
      · rw [hr] at key
        constructor
        · intro h
          by_cases hx : x = trieT f 4 0
          · obtain ⟨e1, e2⟩ := key.1 (by rw [hx])
            exact ⟨e1, hv, e2⟩
          · have h : (if x = trieT f 4 0 then (0 : Int) else 7) = 0 := h
            rw [if_neg hx] at h; cases h
        · rintro ⟨e1, _, e2⟩
          have := key.2 ⟨e1, e2⟩
          injection this with this
          show (if x = trieT f 4 0 then (0 : Int) else 7) = 0
          rw [if_pos this]
    · rw [if_pos (by simpa using h2)]
      constructor
      · intro h; cases h
      · rintro ⟨_, _, h⟩; exact absurd (by rw [h, pathT_len]) h2
end Go.Proofs.YtmemahlibndoiafFmt
