/-
  Plain mathematics of chapter 1: what a seal is, as bytes; that it is opened and split again, and in one way only. No program stands in it.
-/
import Derived.Lib.ItoaNum
import Derived.Lib.ItoaMem
import Derived.Lib.AtoiAll
import Derived.Lib.AtoiAllCases
import Derived.Lib.IndexMore
import Derived.Lib.Strings
namespace Go.Proofs.YtmemahlibndoiafFmt
open Go

theorem ba_ext {a b : ByteArray} (h : a.data.toList = b.data.toList) : a = b := by
  cases a; cases b; simp at h; simp [h]
theorem ba_size (a : ByteArray) : a.size = a.data.toList.length := by
  rw [Array.length_toList]; rfl
theorem ba_app (a b : ByteArray) : (a ++ b).data.toList = a.data.toList ++ b.data.toList := by simp

theorem str_eq {a b : ByteArray} (h : a = b) : (a.toList == b.toList) = true := by rw [h]; simp
theorem str_ne {a b : ByteArray} (h : a ≠ b) : (a.toList == b.toList) = false := by
  rw [beq_eq_false_iff_ne]
  intro e
  rw [ByteArray.toList_eq, ByteArray.toList_eq] at e
  exact h (ba_ext e)
theorem str_beq (a b : ByteArray) : (a.toList == b.toList) = decide (a = b) := by
  by_cases h : a = b
  · rw [str_eq h]; simp [h]
  · rw [str_ne h]; simp [h]

def leafS (s : ByteArray) : ByteArray := ⟨#[76]⟩ ++ s
def itoaB (n : Nat) : ByteArray := ⟨(Lib.itoa (n : Int)).toArray⟩
def nodeS (a b : ByteArray) : ByteArray := ⟨#[78]⟩ ++ itoaB a.size ++ ⟨#[58]⟩ ++ a ++ b
def noneS : ByteArray := ⟨#[69]⟩

theorem leafS_data (s : ByteArray) : (leafS s).data.toList = 76 :: s.data.toList := by
  simp [leafS]
theorem itoaB_data (n : Nat) : (itoaB n).data.toList = Lib.decDigits n := by
  simp [itoaB, Lib.itoa_nonneg]
theorem nodeS_data (a b : ByteArray) : (nodeS a b).data.toList = 78 :: (Lib.decDigits a.size ++ 58 :: (a.data.toList ++ b.data.toList)) := by
  simp only [nodeS, ba_app, itoaB_data]
  simp

/- The digits of a number. -/
theorem digit_toNat (k : Nat) (h : k < 10) : (UInt8.ofNat (48 + k)).toNat = 48 + k := by
  simp; omega

theorem decDigits_digit (u : Nat) : ∀ c ∈ Lib.decDigits u, 48 ≤ c.toNat ∧ c.toNat ≤ 57 := by
  induction u using Nat.strongRecOn with
  | _ u ih =>
    intro c hc
    by_cases h : u < 10
    · rw [Lib.decDigits_one h] at hc
      simp only [List.mem_singleton] at hc
      subst hc
      rw [digit_toNat u h]; omega
    · rw [Lib.decDigits, dif_neg h] at hc
      rcases List.mem_append.1 hc with hc | hc
      · exact ih (u / 10) (by omega) c hc
      · simp only [List.mem_singleton] at hc
        subst hc
        rw [digit_toNat _ (by omega)]; omega

theorem decDigits_ne (u : Nat) : Lib.decDigits u ≠ [] := by
  intro h
  have := Lib.decDigits_length u
  rw [h] at this
  have := Lib.nDigits_pos u
  simp at *; omega

theorem parse_snoc (l : List UInt8) : ∀ (acc v : Nat) (c : UInt8), Lib.parseUint10 acc l = .ok v → 48 ≤ c.toNat → c.toNat ≤ 57 → v < 1844674407370955162 → v * 10 + (c.toNat - 48) < 18446744073709551616 →
    Lib.parseUint10 acc (l ++ [c]) = .ok (v * 10 + (c.toNat - 48)) := by
  induction l with
  | nil =>
    intro acc v c h h1 h2 h3 h4
    simp only [Lib.parseUint10] at h
    injection h with h
    subst h
    simp only [List.nil_append, Lib.parseUint10]
    rw [if_pos ⟨h1, h2⟩, if_neg (by omega), if_neg (by omega)]
  | cons b l ih =>
    intro acc v c h h1 h2 h3 h4
    simp only [List.cons_append, Lib.parseUint10] at h ⊢
    split at h
    · rename_i hb
      rw [if_pos hb]
      split at h
      · cases h
      · rename_i hb2
        rw [if_neg hb2]
        split at h
        · cases h
        · rename_i hb3
          rw [if_neg hb3]
          exact ih _ _ _ h h1 h2 h3 h4
    · cases h

theorem parse_digits (u : Nat) (hu : u < 18446744073709551616) : Lib.parseUint10 0 (Lib.decDigits u) = .ok u := by
  induction u using Nat.strongRecOn with
  | _ u ih =>
    by_cases h : u < 10
    · rw [Lib.decDigits_one h]
      simp only [Lib.parseUint10]
      rw [digit_toNat u h]
      rw [if_pos (by omega), if_neg (by omega), if_neg (by omega)]
      congr 1; omega
    · rw [Lib.decDigits, dif_neg h]
      have h1 := ih (u / 10) (by omega) (by omega)
      have h2 := digit_toNat (u % 10) (by omega)
      rw [parse_snoc _ _ _ _ h1 (by omega) (by omega) (by omega) (by omega)]
      rw [h2]; congr 1; omega

theorem atoi_digits (u : Nat) (hu : u < 9223372036854775808) : Lib.atoiAll (Lib.decDigits u) = .ok (u : Int) := by
  have hp := parse_digits u (by omega)
  have hd := decDigits_digit u
  cases hl : Lib.decDigits u with
  | nil => exact absurd hl (decDigits_ne u)
  | cons c r =>
    rw [hl] at hp hd
    have hc := hd c (by simp)
    rw [Lib.atoiAll_plain c r (by omega) (by omega)]
    unfold Lib.parseMag
    rw [if_neg (by simp), hp]
    simp only [Lib.signless]
    rw [if_neg (by omega)]

/- A number that is written as strconv.Itoa writes it. -/
def numOf (l : List UInt8) : Option Nat :=
  match Lib.atoiAll l with
  | .ok v => if 0 ≤ v ∧ Lib.itoa v = l then some v.toNat else none
  | _ => none

theorem numOf_digits (u : Nat) (hu : u < 9223372036854775808) : numOf (Lib.decDigits u) = some u := by
  unfold numOf
  rw [atoi_digits u hu]
  simp [Lib.itoa_nonneg]

theorem numOf_some {l : List UInt8} {n : Nat} (h : numOf l = some n) : l = Lib.decDigits n ∧ n < 9223372036854775808 ∧ Lib.atoiAll l = .ok (n : Int) := by
  unfold numOf at h
  split at h
  · rename_i v hv
    split at h
    · rename_i hc
      injection h with h
      obtain ⟨m, rfl⟩ := Int.eq_ofNat_of_zero_le hc.1
      have hb := Lib.atoiAll_bounds hv
      rw [Lib.itoa_nonneg] at hc
      have : m = n := by omega
      subst this
      exact ⟨hc.2.symm, by omega, hv⟩
    · cases h
  · cases h

/- The text around the first colon. -/
theorem index_one (c : UInt8) : ∀ l : List UInt8, Lib.index l [c] = Lib.indexByte l c
  | [] => rfl
  | b :: l => by
    unfold Lib.index Lib.indexByte
    rw [index_one c l]
    have e : ([c] : List UInt8).isPrefixOf (b :: l) = (b == c) := by
      simp only [List.isPrefixOf, Bool.and_true]
      exact BEq.comm
    rw [e]
theorem cut_colon (d r : List UInt8) (h : ∀ c ∈ d, c ≠ 58) : Lib.cut (d ++ 58 :: r) [58] = (d, r, true) := by
  have hi : Lib.index (d ++ 58 :: r) [58] = d.length := by
    refine Lib.index_first (by simp) ?_ ?_
    · simp [Lib.occAt]
    · intro j hj
      unfold Lib.occAt
      rw [List.drop_append_of_le_length (by omega)]
      rw [List.drop_eq_getElem_cons hj]
      simp only [List.cons_append, List.isPrefixOf]
      have := h d[j] (List.getElem_mem hj)
      simp [Ne.symm this]
  unfold Lib.cut
  rw [hi]
  simp

theorem cut_some {l d r : List UInt8} (h : Lib.cut l [58] = (d, r, true)) : l = d ++ 58 :: r := by
  unfold Lib.cut at h
  split at h
  · rename_i h0
    rcases Lib.index_spec l [58] with ⟨h1, _⟩ | ⟨i, h1, h2, h3, _⟩
    · omega
    · rw [h1] at h
      simp only [Int.toNat_natCast, List.length_singleton, Prod.mk.injEq, and_true] at h
      obtain ⟨rfl, rfl⟩ := h
      unfold Lib.occAt at h3
      cases hd : l.drop i with
      | nil => rw [hd] at h3; simp at h3
      | cons b t =>
        rw [hd] at h3
        simp only [List.isPrefixOf, Bool.and_true, beq_iff_eq] at h3
        have h4 : l.drop (i + 1) = t := by
          rw [← List.drop_drop, hd]; rfl
        rw [h4]
        subst h3
        rw [← hd]
        exact (List.take_append_drop i l).symm
  · simp at h

/- Chapter 1's Split. -/
def splitL (l : List UInt8) : Option (List UInt8 × List UInt8) :=
  if Lib.hasPrefix l [78] = true then
    if (Lib.cut l.tail [58]).2.2 = true then
      match numOf (Lib.cut l.tail [58]).1 with
      | some n => if n ≤ (Lib.cut l.tail [58]).2.1.length then some ((Lib.cut l.tail [58]).2.1.take n, (Lib.cut l.tail [58]).2.1.drop n) else none
      | none => none
    else none
  else none

theorem splitL_node (a b : List UInt8) (ha : a.length < 9223372036854775808) : splitL (78 :: (Lib.decDigits a.length ++ 58 :: (a ++ b))) = some (a, b) := by
  have hcut := cut_colon (Lib.decDigits a.length) (a ++ b) (fun c hc e => by
    have := decDigits_digit a.length c hc
    subst e
    revert this; decide)
  unfold splitL
  have hd : (78 :: (Lib.decDigits a.length ++ 58 :: (a ++ b))).tail = Lib.decDigits a.length ++ 58 :: (a ++ b) := rfl
  rw [hd, hcut]
  simp [Lib.hasPrefix, numOf_digits a.length ha]

theorem splitL_some {l u v : List UInt8} (h : splitL l = some (u, v)) : l = 78 :: (Lib.decDigits u.length ++ 58 :: (u ++ v)) ∧ u.length < 9223372036854775808 := by
  unfold splitL at h
  split at h
  · rename_i h1
    split at h
    · rename_i h2
      split at h
      · rename_i n hn
        split at h
        · rename_i h3
          injection h with h
          obtain ⟨hd, hlt, _⟩ := numOf_some hn
          have hcut : Lib.cut l.tail [58] = ((Lib.cut l.tail [58]).1, (Lib.cut l.tail [58]).2.1, true) := by
            rw [← h2]
          have hl := cut_some hcut
          rw [hd] at hl
          simp only [Prod.mk.injEq] at h
          obtain ⟨h4, h5⟩ := h
          have hlen : u.length = n := by rw [← h4, List.length_take]; omega
          have huv : (Lib.cut l.tail [58]).2.1 = u ++ v := by rw [← h4, ← h5, List.take_append_drop]
          rw [huv] at hl
          refine ⟨?_, by omega⟩
          rw [hlen, ← hl]
          cases l with
          | nil => simp [Lib.hasPrefix] at h1
          | cons c t =>
            simp only [Lib.hasPrefix, List.isPrefixOf, Bool.and_true, beq_iff_eq] at h1
            subst h1
            rfl
        · cases h
      · cases h
    · cases h
  · cases h

def splitS (s : ByteArray) : Option (ByteArray × ByteArray) := (splitL s.data.toList).map fun x => (⟨x.1.toArray⟩, ⟨x.2.toArray⟩)

theorem splitS_node (a b : ByteArray) (ha : a.size < 9223372036854775808) : splitS (nodeS a b) = some (a, b) := by
  unfold splitS
  rw [nodeS_data, ba_size a, splitL_node _ _ (by rw [← ba_size]; exact ha)]
  rfl

theorem splitS_some {s u v : ByteArray} (h : splitS s = some (u, v)) : nodeS u v = s := by
  unfold splitS at h
  cases hl : splitL s.data.toList with
  | none => rw [hl] at h; simp at h
  | some x =>
    rw [hl] at h
    simp only [Option.map_some, Option.some.injEq, Prod.mk.injEq] at h
    obtain ⟨rfl, rfl⟩ := h
    apply ba_ext
    rw [nodeS_data, (splitL_some hl).1, ba_size]

theorem nodeS_inj {a b c d : ByteArray} (ha : a.size < 9223372036854775808) (hc : c.size < 9223372036854775808) (h : nodeS a b = nodeS c d) : a = c ∧ b = d := by
  have h1 := splitS_node a b ha
  have h2 := splitS_node c d hc
  rw [h] at h1
  rw [h1] at h2
  injection h2 with h2
  injection h2 with h3 h4
  exact ⟨h3, h4⟩
theorem nodeS_eq {a b c d : ByteArray} (ha : a.size < 9223372036854775808) (hc : c.size < 9223372036854775808) : nodeS a b = nodeS c d ↔ a = c ∧ b = d :=
  ⟨nodeS_inj ha hc, fun h => by rw [h.1, h.2]⟩

theorem leafS_inj {a b : ByteArray} (h : leafS a = leafS b) : a = b := by
  have := congrArg (fun x : ByteArray => x.data.toList) h
  simp only [leafS_data, List.cons.injEq, true_and] at this
  exact ba_ext this
theorem leaf_ne_node (a b c : ByteArray) : leafS a ≠ nodeS b c := by
  intro h
  have := congrArg (fun x : ByteArray => x.data.toList) h
  simp only [leafS_data, nodeS_data, List.cons.injEq] at this
  exact absurd this.1 (by decide)
theorem leaf_ne_none (a : ByteArray) : leafS a ≠ noneS := by
  intro h
  have := congrArg (fun x : ByteArray => x.data.toList) h
  simp only [leafS_data, noneS, List.cons.injEq] at this
  exact absurd this.1 (by decide)
theorem node_ne_none (a b : ByteArray) : nodeS a b ≠ noneS := by
  intro h
  have := congrArg (fun x : ByteArray => x.data.toList) h
  simp only [nodeS_data, noneS, List.cons.injEq] at this
  exact absurd this.1 (by decide)

theorem leafS_size (s : ByteArray) : (leafS s).size = s.size + 1 := by
  rw [ba_size, leafS_data, List.length_cons, ← ba_size]
theorem nodeS_size (a b : ByteArray) : (nodeS a b).size = Lib.nDigits a.size + 2 + a.size + b.size := by
  rw [ba_size, nodeS_data]
  simp only [List.length_cons, List.length_append, Lib.decDigits_length, ← ba_size]
  omega
theorem nDigits_le5 (n : Nat) (h : n ≤ 20000) : Lib.nDigits n ≤ 5 := by
  rw [Lib.nDigits]
  by_cases h0 : n < 10
  · rw [dif_pos h0]; omega
  · rw [dif_neg h0, Lib.nDigits]
    by_cases h1 : n / 10 < 10
    · rw [dif_pos h1]; omega
    · rw [dif_neg h1, Lib.nDigits]
      by_cases h2 : n / 10 / 10 < 10
      · rw [dif_pos h2]; omega
      · rw [dif_neg h2, Lib.nDigits]
        by_cases h3 : n / 10 / 10 / 10 < 10
        · rw [dif_pos h3]; omega
        · rw [dif_neg h3, Lib.nDigits, dif_pos (by omega)]; omega

theorem itoaB_size (n : Nat) : (itoaB n).size = Lib.nDigits n := by
  rw [ba_size, itoaB_data, Lib.decDigits_length]
theorem itoaB_le5 (n : Nat) (h : n ≤ 20000) : (itoaB n).size ≤ 5 := by
  rw [itoaB_size]; exact nDigits_le5 n h

/- Chapter 1's Open. -/
def openS (s : ByteArray) : Option ByteArray := if Lib.hasPrefix s.data.toList [76] = true then some ⟨(s.data.toList.tail).toArray⟩ else none
theorem openS_leaf (s : ByteArray) : openS (leafS s) = some s := by
  unfold openS
  rw [leafS_data, if_pos (by simp [Lib.hasPrefix])]
  exact congrArg some (ba_ext (by simp))
theorem openS_some {s t : ByteArray} (h : openS s = some t) : leafS t = s := by
  unfold openS at h
  split at h
  · rename_i h1
    injection h with h
    subst h
    apply ba_ext
    rw [leafS_data]
    cases hl : s.data.toList with
    | nil => rw [hl] at h1; simp [Lib.hasPrefix] at h1
    | cons c t =>
      rw [hl] at h1
      simp only [Lib.hasPrefix, List.isPrefixOf, Bool.and_true, beq_iff_eq] at h1
      subst h1
      simp
  · cases h

/- What Leaf, Node, Open, Split answer, each as a plain pair of text and error. -/
def leafV (s : ByteArray) : ByteArray := if s.size ≤ 20000 then leafS s else ⟨#[]⟩
def leafE (s : ByteArray) : Int := if s.size ≤ 20000 then 0 else 2
def nodeV (a b : ByteArray) : ByteArray := if a.size + b.size ≤ 20000 then nodeS a b else ⟨#[]⟩
def nodeE (a b : ByteArray) : Int := if a.size + b.size ≤ 20000 then 0 else 2
def splitU (s : ByteArray) : ByteArray := match splitS s with | some x => x.1 | none => ⟨#[]⟩
def splitV (s : ByteArray) : ByteArray := match splitS s with | some x => x.2 | none => ⟨#[]⟩
def splitE (s : ByteArray) : Int := match splitS s with | some _ => 0 | none => 4
theorem leaf_pos {s : ByteArray} (h : s.size ≤ 20000) : leafV s = leafS s ∧ leafE s = 0 := by simp [leafV, leafE, h]
theorem leaf_neg {s : ByteArray} (h : ¬ s.size ≤ 20000) : leafV s = ⟨#[]⟩ ∧ leafE s = 2 := by simp [leafV, leafE, h]
theorem node_pos {a b : ByteArray} (h : a.size + b.size ≤ 20000) : nodeV a b = nodeS a b ∧ nodeE a b = 0 := by simp [nodeV, nodeE, h]
theorem node_neg {a b : ByteArray} (h : ¬ a.size + b.size ≤ 20000) : nodeV a b = ⟨#[]⟩ ∧ nodeE a b = 2 := by simp [nodeV, nodeE, h]
end Go.Proofs.YtmemahlibndoiafFmt
