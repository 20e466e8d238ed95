/-
  Plain mathematics of chapter 1: what a seal is, as bytes; that it is opened and split again, and in one way only. No program stands in it.
  Plain mathematics of package tree: the seal of a list of texts, its halves, and that no two lists have one seal.
  Plain mathematics of chapter 7: a head as a text, and back. No program stands in it.
  Plain mathematics of package path: the steps above a text, what they lead to, and that they show this text at this place and no other.
  Plain mathematics of package grow: the seals that show that a list went on, what is made of them again, and that just these show it.
  Plain mathematics of package trie: the seal of values by keys, a key's path, what is made of it again, and that just it shows what is so.
  Plain mathematics of a map of texts by numbers, as it reads: what stands at a key, how many of the first keys are there, when two are alike.
  Plain mathematics of chapter 6: an entry as a text, a book's check, what its entries come to, its head; no two books have one head.
  Two lots of values and their seals; one value put in another's place.
  Who follows heads, and what heads of books show: a client's answers by the heads' own numbers and seals.
  Two heads held together: what is shown of them, by the heads' own numbers and seals.
  A world of two books and clients by plain lists: what is wrong with it, what a happening does to it, what a script does.
  Plain mathematics: the seals taken from the end, one by one, by their number; what is left of them.
  Plain mathematics: the spans around a place of a list, from above, and that they give the same sides and the same path.
  Plain mathematics: the parts beside, from above, of a list of n of which m are known, and that they give the same seals and the same making.
  The rows of seals of chapter 5: of sixteen keys, of eight pairs, and so on.
-/
import Derived.Lib.ItoaNum
import Derived.Lib.ItoaMem
import Derived.Lib.AtoiAll
import Derived.Lib.AtoiAllCases
import Derived.Lib.IndexMore
import Derived.Lib.Strings
import Derived.Maps.Ext
import Derived.Maps.StringElems
import Derived.Lib.SlMapEqual
import Derived.Lib.ItoaLen
namespace Go.Proofs.YtnemiobgmdpnmagGreatFmt
open Go

theorem ba_ext {a b : ByteArray} (h : a.data.toList = b.data.toList) : a = b := by
  cases a; cases b; simp at h; simp [h]
theorem ba_size (a : ByteArray) : a.size = a.data.toList.length := by
  rw [Array.length_toList]; rfl
theorem ba_app (a b : ByteArray) : (a ++ b).data.toList = a.data.toList ++ b.data.toList := by simp

theorem str_eq {a b : ByteArray} (h : a = b) : (a.toList == b.toList) = true := by rw [h]; simp
theorem str_ne {a b : ByteArray} (h : a ≠ b) : (a.toList == b.toList) = false := by
  rw [beq_eq_false_iff_ne]
  intro e
  rw [ByteArray.toList_eq, ByteArray.toList_eq] at e
  exact h (ba_ext e)
theorem str_beq (a b : ByteArray) : (a.toList == b.toList) = decide (a = b) := by
  by_cases h : a = b
  · rw [str_eq h]; simp [h]
  · rw [str_ne h]; simp [h]

def leafS (s : ByteArray) : ByteArray := ⟨#[76]⟩ ++ s
def itoaB (n : Nat) : ByteArray := ⟨(Lib.itoa (n : Int)).toArray⟩
def nodeS (a b : ByteArray) : ByteArray := ⟨#[78]⟩ ++ itoaB a.size ++ ⟨#[58]⟩ ++ a ++ b
def noneS : ByteArray := ⟨#[69]⟩

theorem leafS_data (s : ByteArray) : (leafS s).data.toList = 76 :: s.data.toList := by
  simp [leafS]
theorem itoaB_data (n : Nat) : (itoaB n).data.toList = Lib.decDigits n := by
  simp [itoaB, Lib.itoa_nonneg]
theorem nodeS_data (a b : ByteArray) : (nodeS a b).data.toList = 78 :: (Lib.decDigits a.size ++ 58 :: (a.data.toList ++ b.data.toList)) := by
  simp only [nodeS, ba_app, itoaB_data]
  simp

/- The digits of a number. -/
theorem digit_toNat (k : Nat) (h : k < 10) : (UInt8.ofNat (48 + k)).toNat = 48 + k := by
  simp; omega

theorem decDigits_digit (u : Nat) : ∀ c ∈ Lib.decDigits u, 48 ≤ c.toNat ∧ c.toNat ≤ 57 := by
  induction u using Nat.strongRecOn with
  | _ u ih =>
    intro c hc
    by_cases h : u < 10
    · rw [Lib.decDigits_one h] at hc
      simp only [List.mem_singleton] at hc
      subst hc
      rw [digit_toNat u h]; omega
    · rw [Lib.decDigits, dif_neg h] at hc
      rcases List.mem_append.1 hc with hc | hc
      · exact ih (u / 10) (by omega) c hc
      · simp only [List.mem_singleton] at hc
        subst hc
        rw [digit_toNat _ (by omega)]; omega

theorem decDigits_ne (u : Nat) : Lib.decDigits u ≠ [] := by
  intro h
  have := Lib.decDigits_length u
  rw [h] at this
  have := Lib.nDigits_pos u
  simp at *; omega

theorem parse_snoc (l : List UInt8) : ∀ (acc v : Nat) (c : UInt8), Lib.parseUint10 acc l = .ok v → 48 ≤ c.toNat → c.toNat ≤ 57 → v < 1844674407370955162 → v * 10 + (c.toNat - 48) < 18446744073709551616 →
    Lib.parseUint10 acc (l ++ [c]) = .ok (v * 10 + (c.toNat - 48)) := by
  induction l with
  | nil =>
    intro acc v c h h1 h2 h3 h4
    simp only [Lib.parseUint10] at h
    injection h with h
    subst h
    simp only [List.nil_append, Lib.parseUint10]
    rw [if_pos ⟨h1, h2⟩, if_neg (by omega), if_neg (by omega)]
  | cons b l ih =>
    intro acc v c h h1 h2 h3 h4
    simp only [List.cons_append, Lib.parseUint10] at h ⊢
    split at h
    · rename_i hb
      rw [if_pos hb]
      split at h
      · cases h
      · rename_i hb2
        rw [if_neg hb2]
        split at h
        · cases h
        · rename_i hb3
          rw [if_neg hb3]
          exact ih _ _ _ h h1 h2 h3 h4
    · cases h

theorem parse_digits (u : Nat) (hu : u < 18446744073709551616) : Lib.parseUint10 0 (Lib.decDigits u) = .ok u := by
  induction u using Nat.strongRecOn with
  | _ u ih =>
    by_cases h : u < 10
    · rw [Lib.decDigits_one h]
      simp only [Lib.parseUint10]
      rw [digit_toNat u h]
      rw [if_pos (by omega), if_neg (by omega), if_neg (by omega)]
      congr 1; omega
    · rw [Lib.decDigits, dif_neg h]
      have h1 := ih (u / 10) (by omega) (by omega)
      have h2 := digit_toNat (u % 10) (by omega)
      rw [parse_snoc _ _ _ _ h1 (by omega) (by omega) (by omega) (by omega)]
      rw [h2]; congr 1; omega

theorem atoi_digits (u : Nat) (hu : u < 9223372036854775808) : Lib.atoiAll (Lib.decDigits u) = .ok (u : Int) := by
  have hp := parse_digits u (by omega)
  have hd := decDigits_digit u
  cases hl : Lib.decDigits u with
  | nil => exact absurd hl (decDigits_ne u)
  | cons c r =>
    rw [hl] at hp hd
    have hc := hd c (by simp)
    rw [Lib.atoiAll_plain c r (by omega) (by omega)]
    unfold Lib.parseMag
    rw [if_neg (by simp), hp]
    simp only [Lib.signless]
    rw [if_neg (by omega)]

/- A number that is written as strconv.Itoa writes it. -/
def numOf (l : List UInt8) : Option Nat :=
  match Lib.atoiAll l with
  | .ok v => if 0 ≤ v ∧ Lib.itoa v = l then some v.toNat else none
  | _ => none

theorem numOf_digits (u : Nat) (hu : u < 9223372036854775808) : numOf (Lib.decDigits u) = some u := by
  unfold numOf
  rw [atoi_digits u hu]
  simp [Lib.itoa_nonneg]

theorem numOf_some {l : List UInt8} {n : Nat} (h : numOf l = some n) : l = Lib.decDigits n ∧ n < 9223372036854775808 ∧ Lib.atoiAll l = .ok (n : Int) := by
  unfold numOf at h
  split at h
  · rename_i v hv
    split at h
    · rename_i hc
      injection h with h
      obtain ⟨m, rfl⟩ := Int.eq_ofNat_of_zero_le hc.1
      have hb := Lib.atoiAll_bounds hv
      rw [Lib.itoa_nonneg] at hc
      have : m = n := by omega
      subst this
      exact ⟨hc.2.symm, by omega, hv⟩
    · cases h
  · cases h

/- The text around the first colon. -/
theorem index_one (c : UInt8) : ∀ l : List UInt8, Lib.index l [c] = Lib.indexByte l c
  | [] => rfl
  | b :: l => by
    unfold Lib.index Lib.indexByte
    rw [index_one c l]
    have e : ([c] : List UInt8).isPrefixOf (b :: l) = (b == c) := by
      simp only [List.isPrefixOf, Bool.and_true]
      exact BEq.comm
    rw [e]
theorem cut_colon (d r : List UInt8) (h : ∀ c ∈ d, c ≠ 58) : Lib.cut (d ++ 58 :: r) [58] = (d, r, true) := by
  have hi : Lib.index (d ++ 58 :: r) [58] = d.length := by
    refine Lib.index_first (by simp) ?_ ?_
    · simp [Lib.occAt]
    · intro j hj
      unfold Lib.occAt
      rw [List.drop_append_of_le_length (by omega)]
      rw [List.drop_eq_getElem_cons hj]
      simp only [List.cons_append, List.isPrefixOf]
      have := h d[j] (List.getElem_mem hj)
      simp [Ne.symm this]
  unfold Lib.cut
  rw [hi]
  simp

theorem cut_some {l d r : List UInt8} (h : Lib.cut l [58] = (d, r, true)) : l = d ++ 58 :: r := by
  unfold Lib.cut at h
  split at h
  · rename_i h0
    rcases Lib.index_spec l [58] with ⟨h1, _⟩ | ⟨i, h1, h2, h3, _⟩
    · omega
    · rw [h1] at h
      simp only [Int.toNat_natCast, List.length_singleton, Prod.mk.injEq, and_true] at h
      obtain ⟨rfl, rfl⟩ := h
      unfold Lib.occAt at h3
      cases hd : l.drop i with
      | nil => rw [hd] at h3; simp at h3
      | cons b t =>
        rw [hd] at h3
        simp only [List.isPrefixOf, Bool.and_true, beq_iff_eq] at h3
        have h4 : l.drop (i + 1) = t := by
          rw [← List.drop_drop, hd]; rfl
        rw [h4]
        subst h3
        rw [← hd]
        exact (List.take_append_drop i l).symm
  · simp at h

/- Chapter 1's Split. -/
def splitL (l : List UInt8) : Option (List UInt8 × List UInt8) :=
  if Lib.hasPrefix l [78] = true then
    if (Lib.cut l.tail [58]).2.2 = true then
      match numOf (Lib.cut l.tail [58]).1 with
      | some n => if n ≤ (Lib.cut l.tail [58]).2.1.length then some ((Lib.cut l.tail [58]).2.1.take n, (Lib.cut l.tail [58]).2.1.drop n) else none
      | none => none
    else none
  else none

theorem splitL_node (a b : List UInt8) (ha : a.length < 9223372036854775808) : splitL (78 :: (Lib.decDigits a.length ++ 58 :: (a ++ b))) = some (a, b) := by
  have hcut := cut_colon (Lib.decDigits a.length) (a ++ b) (fun c hc e => by
    have := decDigits_digit a.length c hc
    subst e
    revert this; decide)
  unfold splitL
  have hd : (78 :: (Lib.decDigits a.length ++ 58 :: (a ++ b))).tail = Lib.decDigits a.length ++ 58 :: (a ++ b) := rfl
  rw [hd, hcut]
  simp [Lib.hasPrefix, numOf_digits a.length ha]

theorem splitL_some {l u v : List UInt8} (h : splitL l = some (u, v)) : l = 78 :: (Lib.decDigits u.length ++ 58 :: (u ++ v)) ∧ u.length < 9223372036854775808 := by
  unfold splitL at h
  split at h
  · rename_i h1
    split at h
    · rename_i h2
      split at h
      · rename_i n hn
        split at h
        · rename_i h3
          injection h with h
          obtain ⟨hd, hlt, _⟩ := numOf_some hn
          have hcut : Lib.cut l.tail [58] = ((Lib.cut l.tail [58]).1, (Lib.cut l.tail [58]).2.1, true) := by
            rw [← h2]
          have hl := cut_some hcut
          rw [hd] at hl
          simp only [Prod.mk.injEq] at h
          obtain ⟨h4, h5⟩ := h
          have hlen : u.length = n := by rw [← h4, List.length_take]; omega
          have huv : (Lib.cut l.tail [58]).2.1 = u ++ v := by rw [← h4, ← h5, List.take_append_drop]
          rw [huv] at hl
          refine ⟨?_, by omega⟩
          rw [hlen, ← hl]
          cases l with
          | nil => simp [Lib.hasPrefix] at h1
          | cons c t =>
            simp only [Lib.hasPrefix, List.isPrefixOf, Bool.and_true, beq_iff_eq] at h1
            subst h1
            rfl
        · cases h
      · cases h
    · cases h
  · cases h

def splitS (s : ByteArray) : Option (ByteArray × ByteArray) := (splitL s.data.toList).map fun x => (⟨x.1.toArray⟩, ⟨x.2.toArray⟩)

theorem splitS_node (a b : ByteArray) (ha : a.size < 9223372036854775808) : splitS (nodeS a b) = some (a, b) := by
  unfold splitS
  rw [nodeS_data, ba_size a, splitL_node _ _ (by rw [← ba_size]; exact ha)]
  rfl

theorem splitS_some {s u v : ByteArray} (h : splitS s = some (u, v)) : nodeS u v = s := by
  unfold splitS at h
  cases hl : splitL s.data.toList with
  | none => rw [hl] at h; simp at h
  | some x =>
    rw [hl] at h
    simp only [Option.map_some, Option.some.injEq, Prod.mk.injEq] at h
    obtain ⟨rfl, rfl⟩ := h
    apply ba_ext
    rw [nodeS_data, (splitL_some hl).1, ba_size]

theorem nodeS_inj {a b c d : ByteArray} (ha : a.size < 9223372036854775808) (hc : c.size < 9223372036854775808) (h : nodeS a b = nodeS c d) : a = c ∧ b = d := by
  have h1 := splitS_node a b ha
  have h2 := splitS_node c d hc
  rw [h] at h1
  rw [h1] at h2
  injection h2 with h2
  injection h2 with h3 h4
  exact ⟨h3, h4⟩
theorem nodeS_eq {a b c d : ByteArray} (ha : a.size < 9223372036854775808) (hc : c.size < 9223372036854775808) : nodeS a b = nodeS c d ↔ a = c ∧ b = d :=
  ⟨nodeS_inj ha hc, fun h => by rw [h.1, h.2]⟩

theorem leafS_inj {a b : ByteArray} (h : leafS a = leafS b) : a = b := by
  have := congrArg (fun x : ByteArray => x.data.toList) h
  simp only [leafS_data, List.cons.injEq, true_and] at this
  exact ba_ext this
theorem leaf_ne_node (a b c : ByteArray) : leafS a ≠ nodeS b c := by
  intro h
  have := congrArg (fun x : ByteArray => x.data.toList) h
  simp only [leafS_data, nodeS_data, List.cons.injEq] at this
  exact absurd this.1 (by decide)
theorem leaf_ne_none (a : ByteArray) : leafS a ≠ noneS := by
  intro h
  have := congrArg (fun x : ByteArray => x.data.toList) h
  simp only [leafS_data, noneS, List.cons.injEq] at this
  exact absurd this.1 (by decide)
theorem node_ne_none (a b : ByteArray) : nodeS a b ≠ noneS := by
  intro h
  have := congrArg (fun x : ByteArray => x.data.toList) h
  simp only [nodeS_data, noneS, List.cons.injEq] at this
  exact absurd this.1 (by decide)

theorem leafS_size (s : ByteArray) : (leafS s).size = s.size + 1 := by
  rw [ba_size, leafS_data, List.length_cons, ← ba_size]
theorem nodeS_size (a b : ByteArray) : (nodeS a b).size = Lib.nDigits a.size + 2 + a.size + b.size := by
  rw [ba_size, nodeS_data]
  simp only [List.length_cons, List.length_append, Lib.decDigits_length, ← ba_size]
  omega
theorem nDigits_le5 (n : Nat) (h : n ≤ 20000) : Lib.nDigits n ≤ 5 := by
  rw [Lib.nDigits]
  by_cases h0 : n < 10
  · rw [dif_pos h0]; omega
  · rw [dif_neg h0, Lib.nDigits]
    by_cases h1 : n / 10 < 10
    · rw [dif_pos h1]; omega
    · rw [dif_neg h1, Lib.nDigits]
      by_cases h2 : n / 10 / 10 < 10
      · rw [dif_pos h2]; omega
      · rw [dif_neg h2, Lib.nDigits]
        by_cases h3 : n / 10 / 10 / 10 < 10
        · rw [dif_pos h3]; omega
        · rw [dif_neg h3, Lib.nDigits, dif_pos (by omega)]; omega

theorem itoaB_size (n : Nat) : (itoaB n).size = Lib.nDigits n := by
  rw [ba_size, itoaB_data, Lib.decDigits_length]
theorem itoaB_le5 (n : Nat) (h : n ≤ 20000) : (itoaB n).size ≤ 5 := by
  rw [itoaB_size]; exact nDigits_le5 n h

/- Chapter 1's Open. -/
def openS (s : ByteArray) : Option ByteArray := if Lib.hasPrefix s.data.toList [76] = true then some ⟨(s.data.toList.tail).toArray⟩ else none
theorem openS_leaf (s : ByteArray) : openS (leafS s) = some s := by
  unfold openS
  rw [leafS_data, if_pos (by simp [Lib.hasPrefix])]
  exact congrArg some (ba_ext (by simp))
theorem openS_some {s t : ByteArray} (h : openS s = some t) : leafS t = s := by
  unfold openS at h
  split at h
  · rename_i h1
    injection h with h
    subst h
    apply ba_ext
    rw [leafS_data]
    cases hl : s.data.toList with
    | nil => rw [hl] at h1; simp [Lib.hasPrefix] at h1
    | cons c t =>
      rw [hl] at h1
      simp only [Lib.hasPrefix, List.isPrefixOf, Bool.and_true, beq_iff_eq] at h1
      subst h1
      simp
  · cases h

/- What Leaf, Node, Open, Split answer, each as a plain pair of text and error. -/
def leafV (s : ByteArray) : ByteArray := if s.size ≤ 20000 then leafS s else ⟨#[]⟩
def leafE (s : ByteArray) : Int := if s.size ≤ 20000 then 0 else 2
def nodeV (a b : ByteArray) : ByteArray := if a.size + b.size ≤ 20000 then nodeS a b else ⟨#[]⟩
def nodeE (a b : ByteArray) : Int := if a.size + b.size ≤ 20000 then 0 else 2
def splitU (s : ByteArray) : ByteArray := match splitS s with | some x => x.1 | none => ⟨#[]⟩
def splitV (s : ByteArray) : ByteArray := match splitS s with | some x => x.2 | none => ⟨#[]⟩
def splitE (s : ByteArray) : Int := match splitS s with | some _ => 0 | none => 4
theorem leaf_pos {s : ByteArray} (h : s.size ≤ 20000) : leafV s = leafS s ∧ leafE s = 0 := by simp [leafV, leafE, h]
theorem leaf_neg {s : ByteArray} (h : ¬ s.size ≤ 20000) : leafV s = ⟨#[]⟩ ∧ leafE s = 2 := by simp [leafV, leafE, h]
theorem node_pos {a b : ByteArray} (h : a.size + b.size ≤ 20000) : nodeV a b = nodeS a b ∧ nodeE a b = 0 := by simp [nodeV, nodeE, h]
theorem node_neg {a b : ByteArray} (h : ¬ a.size + b.size ≤ 20000) : nodeV a b = ⟨#[]⟩ ∧ nodeE a b = 2 := by simp [nodeV, nodeE, h]
end Go.Proofs.YtnemiobgmdpnmagGreatFmt
namespace Go.Proofs.YtnemiobgmdpnmagGreatFmt
open Go Go.RowKit

/- The greatest power of two below n, of n from 2 to 24 (and some number else). -/
def halfN (n : Nat) : Nat := if n ≤ 2 then 1 else if n ≤ 4 then 2 else if n ≤ 8 then 4 else if n ≤ 16 then 8 else 16

theorem halfN_pos (n : Nat) : 1 ≤ halfN n := by unfold halfN; split <;> (try split) <;> (try split) <;> (try split) <;> omega
theorem halfN_lt {n : Nat} (h : 2 ≤ n) : halfN n < n := by unfold halfN; split <;> (try split) <;> (try split) <;> (try split) <;> omega
theorem halfN_le16 (n : Nat) : halfN n ≤ 16 := by unfold halfN; split <;> (try split) <;> (try split) <;> (try split) <;> omega

theorem halfN_more {n : Nat} (h : n ≤ 24) : n - halfN n ≤ halfN n := by unfold halfN; split <;> (try split) <;> (try split) <;> (try split) <;> omega
theorem halfN_cases (n : Nat) : halfN n = 1 ∨ halfN n = 2 ∨ halfN n = 4 ∨ halfN n = 8 ∨ halfN n = 16 := by unfold halfN; split <;> (try split) <;> (try split) <;> (try split) <;> omega

/- Leaf and Node, with their bound: no seal where they err (ErrMany, in each case). -/
def leafO (s : ByteArray) : Option ByteArray := if s.size ≤ 20000 then some (leafS s) else none
def nodeO (a b : ByteArray) : Option ByteArray := if a.size + b.size ≤ 20000 then some (nodeS a b) else none

theorem leafO_some {s t : ByteArray} (h : leafO s = some t) : s.size ≤ 20000 ∧ t = leafS s := by
  unfold leafO at h; split at h
  · injection h with h; exact ⟨by assumption, h.symm⟩
  · cases h
theorem leafO_none {s : ByteArray} (h : leafO s = none) : 20000 < s.size := by
  unfold leafO at h; split at h
  · cases h
  · omega
theorem nodeO_some {a b t : ByteArray} (h : nodeO a b = some t) : a.size + b.size ≤ 20000 ∧ t = nodeS a b := by
  unfold nodeO at h; split at h
  · injection h with h; exact ⟨by assumption, h.symm⟩
  · cases h
theorem nodeO_none {a b : ByteArray} (h : nodeO a b = none) : 20000 < a.size + b.size := by
  unfold nodeO at h; split at h
  · cases h
  · omega
theorem leafO_size {s t : ByteArray} (h : leafO s = some t) : t.size ≤ 20001 := by
  obtain ⟨h1, rfl⟩ := leafO_some h
  rw [leafS_size]; omega
theorem nodeO_size {a b t : ByteArray} (h : nodeO a b = some t) : t.size ≤ 20007 := by
  obtain ⟨h1, rfl⟩ := nodeO_some h
  have := nDigits_le5 a.size (by omega)
  rw [nodeS_size]; omega

/- The seal of a list. -/
def rootS (l : List ByteArray) : Option ByteArray :=
  if 24 < l.length then none
  else if _h0 : l.length = 0 then some noneS
  else if _h1 : l.length = 1 then leafO (l.getD 0 ByteArray.empty)
  else (rootS (l.take (halfN l.length))).bind fun a => (rootS (l.drop (halfN l.length))).bind fun b => nodeO a b
termination_by l.length
decreasing_by
  · have := halfN_lt (n := l.length) (by omega)
    rw [List.length_take]; omega
  · have := halfN_pos l.length
    rw [List.length_drop]; omega

theorem rootS_many {l : List ByteArray} (h : 24 < l.length) : rootS l = none := by rw [rootS, if_pos h]
theorem rootS_nil : rootS [] = some noneS := by rw [rootS]; simp
theorem rootS_one {l : List ByteArray} (h : l.length = 1) : rootS l = leafO (l.getD 0 ByteArray.empty) := by
  rw [rootS, if_neg (by omega), dif_neg (by omega), dif_pos h]
theorem rootS_two {l : List ByteArray} (h : 2 ≤ l.length) (h' : l.length ≤ 24) :
    rootS l = (rootS (l.take (halfN l.length))).bind fun a => (rootS (l.drop (halfN l.length))).bind fun b => nodeO a b := by
  rw [rootS, if_neg (by omega), dif_neg (by omega), dif_neg (by omega)]

theorem rootS_some_two {l : List ByteArray} {s : ByteArray} (h : 2 ≤ l.length) (hs : rootS l = some s) :
    l.length ≤ 24 ∧ ∃ a b, rootS (l.take (halfN l.length)) = some a ∧ rootS (l.drop (halfN l.length)) = some b ∧ nodeO a b = some s := by
  by_cases h' : l.length ≤ 24
  · rw [rootS_two h h'] at hs
    obtain ⟨a, ha, hs⟩ := Option.bind_eq_some_iff.1 hs
    obtain ⟨b, hb, hs⟩ := Option.bind_eq_some_iff.1 hs
    exact ⟨h', a, b, ha, hb, hs⟩
  · rw [rootS_many (by omega)] at hs; cases hs

theorem rootS_len {l : List ByteArray} {s : ByteArray} (hs : rootS l = some s) : l.length ≤ 24 := by
  refine Classical.byContradiction fun h => ?_
  rw [rootS_many (by omega)] at hs; cases hs

theorem rootS_size {l : List ByteArray} {s : ByteArray} (hs : rootS l = some s) : s.size ≤ 20007 := by
  rcases Nat.lt_or_ge l.length 2 with h | h
  · rcases Nat.eq_zero_or_pos l.length with h0 | h0
    · rw [List.length_eq_zero_iff.1 h0, rootS_nil] at hs
      injection hs with hs; subst hs; decide
    · rw [rootS_one (by omega)] at hs
      have := leafO_size hs; omega
  · obtain ⟨_, a, b, _, _, hn⟩ := rootS_some_two h hs
    exact nodeO_size hn

/- P2.2: no two lists have one seal. -/
theorem rootS_inj : ∀ (k : Nat) (l m : List ByteArray) (s : ByteArray), l.length ≤ k → rootS l = some s → rootS m = some s → l = m
  | k, l, m, s, hk, hl, hm => by
    have one : ∀ x : List ByteArray, x.length = 1 → x = [x.getD 0 ByteArray.empty] := by
      intro x hx
      match x, hx with
      | [y], _ => rfl
    rcases Nat.lt_or_ge l.length 2 with h | h
    · rcases Nat.eq_zero_or_pos l.length with h0 | h0
      · have e := List.length_eq_zero_iff.1 h0
        subst e
        rw [rootS_nil] at hl
        injection hl with hl
        subst hl
        rcases Nat.lt_or_ge m.length 2 with g | g
        · rcases Nat.eq_zero_or_pos m.length with g0 | g0
          · exact (List.length_eq_zero_iff.1 g0).symm
          · rw [rootS_one (by omega)] at hm
            exact absurd (leafO_some hm).2.symm (leaf_ne_none _)
        · obtain ⟨_, a, b, _, _, hn⟩ := rootS_some_two g hm
          exact absurd (nodeO_some hn).2.symm (node_ne_none _ _)
      · rw [rootS_one (by omega)] at hl
        obtain ⟨_, rfl⟩ := leafO_some hl
        rcases Nat.lt_or_ge m.length 2 with g | g
        · rcases Nat.eq_zero_or_pos m.length with g0 | g0
          · rw [List.length_eq_zero_iff.1 g0, rootS_nil] at hm
            injection hm with hm
            exact absurd hm.symm (leaf_ne_none _)
          · rw [rootS_one (by omega)] at hm
            have e := leafS_inj (leafO_some hm).2
            rw [one l (by omega), one m (by omega), e]
        · obtain ⟨_, a, b, _, _, hn⟩ := rootS_some_two g hm
          exact absurd (nodeO_some hn).2 (leaf_ne_node _ _ _)
    · obtain ⟨_, a, b, ha, hb, hn⟩ := rootS_some_two h hl
      obtain ⟨hsz, rfl⟩ := nodeO_some hn
      rcases Nat.lt_or_ge m.length 2 with g | g
      · rcases Nat.eq_zero_or_pos m.length with g0 | g0
        · rw [List.length_eq_zero_iff.1 g0, rootS_nil] at hm
          injection hm with hm
          exact absurd hm.symm (node_ne_none _ _)
        · rw [rootS_one (by omega)] at hm
          exact absurd (leafO_some hm).2.symm (leaf_ne_node _ _ _)
      · obtain ⟨_, c, d, hc, hd, hn'⟩ := rootS_some_two g hm
        obtain ⟨hsz', e⟩ := nodeO_some hn'
        obtain ⟨rfl, rfl⟩ := nodeS_inj (by omega) (by omega) e
        have lt := halfN_lt h
        have ps := halfN_pos l.length
        have e1 := rootS_inj (k - 1) _ _ _ (by rw [List.length_take]; omega) ha hc
        have e2 := rootS_inj (k - 1) _ _ _ (by rw [List.length_drop]; omega) hb hd
        calc l = l.take (halfN l.length) ++ l.drop (halfN l.length) := (List.take_append_drop _ _).symm
          _ = m.take (halfN m.length) ++ m.drop (halfN m.length) := by rw [e1, e2]
          _ = m := List.take_append_drop _ _
termination_by k _ _ _ _ _ _ => k
decreasing_by all_goals omega

theorem rootS_eq {l m : List ByteArray} {s t : ByteArray} (hl : rootS l = some s) (hm : rootS m = some t) : s = t ↔ l = m := by
  constructor
  · rintro rfl
    exact rootS_inj l.length l m s (Nat.le_refl _) hl hm
  · rintro rfl
    rw [hl] at hm
    injection hm

/- What Root answers: its text and its error. -/
def rootV (l : List ByteArray) : ByteArray := (rootS l).getD ⟨#[]⟩
def rootE (l : List ByteArray) : Int := if (rootS l).isSome then 0 else 2
theorem root_pos {l : List ByteArray} {s : ByteArray} (h : rootS l = some s) : rootV l = s ∧ rootE l = 0 := by simp [rootV, rootE, h]
theorem root_neg {l : List ByteArray} (h : rootS l = none) : rootV l = ⟨#[]⟩ ∧ rootE l = 2 := by simp [rootV, rootE, h]

/- A stretch of a list. -/
def seg (l : List ByteArray) (f n : Nat) : List ByteArray := (l.drop f).take n
theorem seg_take (l : List ByteArray) (f n h : Nat) (hh : h ≤ n) : (seg l f n).take h = seg l f h := by
  unfold seg; rw [List.take_take, Nat.min_eq_left hh]
theorem seg_drop (l : List ByteArray) (f n h : Nat) : (seg l f n).drop h = seg l (f + h) (n - h) := by
  unfold seg; rw [List.drop_take, List.drop_drop]
theorem seg_len (l : List ByteArray) (f n : Nat) (h : f + n ≤ l.length) : (seg l f n).length = n := by
  unfold seg; rw [List.length_take, List.length_drop]; omega
theorem seg_one (l : List ByteArray) (f n : Nat) (h : 0 < n) : (seg l f n).getD 0 ByteArray.empty = l.getD f ByteArray.empty := by
  unfold seg
  simp [h, List.getD_eq_getElem?_getD]
theorem seg_all (l : List ByteArray) : seg l 0 l.length = l := by simp [seg]

end Go.Proofs.YtnemiobgmdpnmagGreatFmt
namespace Go.Proofs.YtnemiobgmdpnmagGreatFmt
open Go

/- The text around the first blank. -/
theorem digits_no_blank (u : Nat) : ∀ c ∈ Lib.decDigits u, c ≠ 32 := by
  intro c hc h
  have := (decDigits_digit u c hc).1
  rw [h] at this
  exact absurd this (by decide)
theorem cut32 (d r : List UInt8) (h : ∀ c ∈ d, c ≠ 32) : Lib.cut (d ++ 32 :: r) [32] = (d, r, true) := by
  have hi : Lib.index (d ++ 32 :: r) [32] = d.length := by
    refine Lib.index_first (by simp) ?_ ?_
    · simp [Lib.occAt]
    · intro j hj
      unfold Lib.occAt
      rw [List.drop_append_of_le_length (by omega)]
      rw [List.drop_eq_getElem_cons hj]
      simp only [List.cons_append, List.isPrefixOf]
      have := h d[j] (List.getElem_mem hj)
      simp [Ne.symm this]
  unfold Lib.cut
  rw [hi]
  simp
theorem cut32_some {l d r : List UInt8} (h : Lib.cut l [32] = (d, r, true)) : l = d ++ 32 :: r := by
  unfold Lib.cut at h
  split at h
  · rename_i h0
    rcases Lib.index_spec l [32] with ⟨h1, _⟩ | ⟨i, h1, h2, h3, _⟩
    · omega
    · rw [h1] at h
      simp only [Int.toNat_natCast, List.length_singleton, Prod.mk.injEq, and_true] at h
      obtain ⟨rfl, rfl⟩ := h
      unfold Lib.occAt at h3
      cases hd : l.drop i with
      | nil => rw [hd] at h3; simp at h3
      | cons b t =>
        rw [hd] at h3
        simp only [List.isPrefixOf, Bool.and_true, beq_iff_eq] at h3
        have h4 : l.drop (i + 1) = t := by
          rw [← List.drop_drop, hd]; rfl
        rw [h4]
        subst h3
        rw [← hd]
        exact (List.take_append_drop i l).symm
  · simp at h
theorem cut32_le (l : List UInt8) : (Lib.cut l [32]).1.length ≤ l.length ∧ (Lib.cut l [32]).2.1.length ≤ l.length := by
  unfold Lib.cut
  split
  · simp only [List.length_take, List.length_drop]; omega
  · simp

/- A number and a blank, ahead of all. -/
def numL (l : List UInt8) : Option (Nat × List UInt8) :=
  if (Lib.cut l [32]).2.2 = true then
    match numOf (Lib.cut l [32]).1 with
    | some n => some (n, (Lib.cut l [32]).2.1)
    | none => none
  else none
theorem numL_digits (n : Nat) (r : List UInt8) (h : n < 9223372036854775808) : numL (Lib.decDigits n ++ 32 :: r) = some (n, r) := by
  unfold numL
  rw [cut32 _ _ (digits_no_blank n)]
  simp [numOf_digits n h]
theorem numL_some {l r : List UInt8} {n : Nat} (h : numL l = some (n, r)) : l = Lib.decDigits n ++ 32 :: r ∧ n < 9223372036854775808 := by
  unfold numL at h
  split at h
  · rename_i h1
    split at h
    · rename_i m hm
      simp only [Option.some.injEq, Prod.mk.injEq] at h
      obtain ⟨rfl, h2⟩ := h
      obtain ⟨hd, hlt, _⟩ := numOf_some hm
      have hc : Lib.cut l [32] = ((Lib.cut l [32]).1, (Lib.cut l [32]).2.1, true) := by rw [← h1]
      have := cut32_some hc
      rw [hd, h2] at this
      exact ⟨this, hlt⟩
    · cases h
  · cases h
theorem numL_pos {l d r : List UInt8} {n : Nat} (hc : Lib.cut l [32] = (d, r, true)) (hn : numOf d = some n) : numL l = some (n, r) := by
  unfold numL
  rw [hc]
  simp [hn]
theorem numL_neg {l d r : List UInt8} {f : Bool} (hc : Lib.cut l [32] = (d, r, f)) (hn : f = false ∨ numOf d = none) : numL l = none := by
  unfold numL
  rw [hc]
  rcases hn with rfl | h
  · simp
  · cases f <;> simp [h]
theorem numL_le {l r : List UInt8} {n : Nat} (h : numL l = some (n, r)) : r.length ≤ l.length := by
  rw [(numL_some h).1]
  simp
  omega

/- Three of them. -/
def readL (l : List UInt8) : Option (Nat × Nat × Nat × List UInt8) :=
  match numL l with
  | none => none
  | some (x, r) =>
    match numL r with
    | none => none
    | some (y, q) =>
      match numL q with
      | none => none
      | some (z, t) => some (x, y, z, t)
def read2 (x y : Nat) (l : List UInt8) : Option (Nat × Nat × Nat × List UInt8) := match numL l with | none => none | some (z, t) => some (x, y, z, t)
def read1 (x : Nat) (l : List UInt8) : Option (Nat × Nat × Nat × List UInt8) := match numL l with | none => none | some (y, q) => read2 x y q
theorem readL_no {l : List UInt8} (h : numL l = none) : readL l = none := by unfold readL; rw [h]
theorem readL_go {l r : List UInt8} {x : Nat} (h : numL l = some (x, r)) : readL l = read1 x r := by unfold readL read1 read2; rw [h]
theorem read1_no {l : List UInt8} {x : Nat} (h : numL l = none) : read1 x l = none := by unfold read1; rw [h]
theorem read1_go {l r : List UInt8} {x y : Nat} (h : numL l = some (y, r)) : read1 x l = read2 x y r := by unfold read1; rw [h]
theorem read2_no {l : List UInt8} {x y : Nat} (h : numL l = none) : read2 x y l = none := by unfold read2; rw [h]
theorem read2_go {l r : List UInt8} {x y z : Nat} (h : numL l = some (z, r)) : read2 x y l = some (x, y, z, r) := by unfold read2; rw [h]
def writeL (x y z : Nat) : List UInt8 := Lib.decDigits x ++ 32 :: (Lib.decDigits y ++ 32 :: (Lib.decDigits z ++ [32]))
def writeB (x y z : Nat) : ByteArray := ⟨(writeL x y z).toArray⟩
theorem read_write (x y z : Nat) (t : List UInt8) (hx : x < 9223372036854775808) (hy : y < 9223372036854775808) (hz : z < 9223372036854775808) : readL (writeL x y z ++ t) = some (x, y, z, t) := by
  have e : writeL x y z ++ t = Lib.decDigits x ++ 32 :: (Lib.decDigits y ++ 32 :: (Lib.decDigits z ++ 32 :: t)) := by simp [writeL]
  unfold readL
  rw [e, numL_digits x _ hx]
  simp only
  rw [numL_digits y _ hy]
  simp only
  rw [numL_digits z _ hz]
theorem read_some {l t : List UInt8} {x y z : Nat} (h : readL l = some (x, y, z, t)) : l = writeL x y z ++ t ∧ x < 9223372036854775808 ∧ y < 9223372036854775808 ∧ z < 9223372036854775808 := by
  unfold readL at h
  split at h
  · cases h
  · rename_i x' r h1
    split at h
    · cases h
    · rename_i y' q h2
      split at h
      · cases h
      · rename_i z' t' h3
        simp only [Option.some.injEq, Prod.mk.injEq] at h
        obtain ⟨rfl, rfl, rfl, rfl⟩ := h
        obtain ⟨e1, l1⟩ := numL_some h1
        obtain ⟨e2, l2⟩ := numL_some h2
        obtain ⟨e3, l3⟩ := numL_some h3
        refine ⟨?_, l1, l2, l3⟩
        rw [e1, e2, e3]
        simp [writeL]

/- A head: Check, Print, Parse. -/
def headE (n : Int) (a b : ByteArray) : Int := if n < 0 ∨ 24 < n then 3 else if 20000 < a.size ∨ 20000 < b.size then 2 else 0
theorem headE_range {n : Int} {a b : ByteArray} (h : n < 0 ∨ 24 < n) : headE n a b = 3 := by unfold headE; rw [if_pos h]
theorem headE_many {n : Int} {a b : ByteArray} (h : ¬ (n < 0 ∨ 24 < n)) (h2 : 20000 < a.size ∨ 20000 < b.size) : headE n a b = 2 := by unfold headE; rw [if_neg h, if_pos h2]
theorem headE_ok {n : Int} {a b : ByteArray} (h : ¬ (n < 0 ∨ 24 < n)) (h2 : ¬ (20000 < a.size ∨ 20000 < b.size)) : headE n a b = 0 := by unfold headE; rw [if_neg h, if_neg h2]
theorem headE_iff (n : Int) (a b : ByteArray) : headE n a b = 0 ↔ 0 ≤ n ∧ n ≤ 24 ∧ a.size ≤ 20000 ∧ b.size ≤ 20000 := by
  unfold headE
  split
  · constructor
    · intro h; cases h
    · intro h; omega
  · split
    · constructor
      · intro h; cases h
      · intro h; omega
    · constructor
      · intro _; omega
      · intro _; rfl
theorem headE_cases (n : Int) (a b : ByteArray) : headE n a b = 0 ∨ headE n a b = 2 ∨ headE n a b = 3 := by
  unfold headE
  split
  · exact .inr (.inr rfl)
  · split
    · exact .inr (.inl rfl)
    · exact .inl rfl

def printS (n : Nat) (a b : ByteArray) : ByteArray := writeB n a.size b.size ++ a ++ b
theorem printS_data (n : Nat) (a b : ByteArray) : (printS n a b).data.toList = writeL n a.size b.size ++ (a.data.toList ++ b.data.toList) := by
  unfold printS
  rw [ba_app, ba_app]
  simp [writeB]
def printV (n : Int) (a b : ByteArray) : ByteArray := if headE n a b = 0 then printS n.toNat a b else ⟨#[]⟩
theorem print_pos {n : Int} {a b : ByteArray} (h : headE n a b = 0) : printV n a b = printS n.toNat a b := if_pos h
theorem print_neg {n : Int} {a b : ByteArray} (h : headE n a b ≠ 0) : printV n a b = ⟨#[]⟩ := if_neg h

def parseO (s : ByteArray) : Option (Nat × ByteArray × ByteArray) :=
  match readL s.data.toList with
  | none => none
  | some (n, k, m, r) => if k + m = r.length then some (n, ⟨(r.take k).toArray⟩, ⟨(r.drop k).toArray⟩) else none
theorem parse_print (n : Nat) (a b : ByteArray) (hn : n < 9223372036854775808) (ha : a.size < 9223372036854775808) (hb : b.size < 9223372036854775808) : parseO (printS n a b) = some (n, a, b) := by
  unfold parseO
  rw [printS_data, read_write n _ _ _ hn ha hb]
  simp only
  rw [if_pos (by rw [List.length_append, ← ba_size, ← ba_size])]
  rw [ba_size a, List.take_left, List.drop_left]
theorem print_parse {s a b : ByteArray} {n : Nat} (h : parseO s = some (n, a, b)) : printS n a b = s ∧ n < 9223372036854775808 := by
  unfold parseO at h
  split at h
  · cases h
  · rename_i x k m r hr
    split at h
    · rename_i hl
      simp only [Option.some.injEq, Prod.mk.injEq] at h
      obtain ⟨rfl, rfl, rfl⟩ := h
      obtain ⟨e, l1, l2, l3⟩ := read_some hr
      refine ⟨ba_ext ?_, l1⟩
      rw [printS_data, e]
      have e1 : (⟨(r.take k).toArray⟩ : ByteArray).size = k := by rw [ba_size]; simp; omega
      have e2 : (⟨(r.drop k).toArray⟩ : ByteArray).size = m := by rw [ba_size]; simp; omega
      rw [e1, e2]
      simp
    · cases h

def parseE (s : ByteArray) : Int := match parseO s with | none => 1 | some (n, a, b) => headE n a b
def parseN (s : ByteArray) : Int := match parseO s with | none => 0 | some (n, a, b) => if headE n a b = 0 then (n : Int) else 0
def parseA (s : ByteArray) : ByteArray := match parseO s with | none => ⟨#[]⟩ | some (n, a, b) => if headE n a b = 0 then a else ⟨#[]⟩
def parseB (s : ByteArray) : ByteArray := match parseO s with | none => ⟨#[]⟩ | some (n, a, b) => if headE n a b = 0 then b else ⟨#[]⟩
theorem parse_none {s : ByteArray} (h : parseO s = none) : parseE s = 1 ∧ parseN s = 0 ∧ parseA s = ⟨#[]⟩ ∧ parseB s = ⟨#[]⟩ := by
  unfold parseE parseN parseA parseB
  rw [h]
  exact ⟨rfl, rfl, rfl, rfl⟩
theorem parse_bad {s a b : ByteArray} {n : Nat} (h : parseO s = some (n, a, b)) (h0 : headE n a b ≠ 0) : parseE s = headE n a b ∧ parseN s = 0 ∧ parseA s = ⟨#[]⟩ ∧ parseB s = ⟨#[]⟩ := by
  unfold parseE parseN parseA parseB
  rw [h]
  exact ⟨rfl, if_neg h0, if_neg h0, if_neg h0⟩
theorem parse_good {s a b : ByteArray} {n : Nat} (h : parseO s = some (n, a, b)) (h0 : headE n a b = 0) : parseE s = 0 ∧ parseN s = n ∧ parseA s = a ∧ parseB s = b := by
  unfold parseE parseN parseA parseB
  rw [h]
  exact ⟨h0, if_pos h0, if_pos h0, if_pos h0⟩

/- P7.2, both ways. -/
theorem back_head {n : Int} {a b : ByteArray} (h : headE n a b = 0) : parseE (printV n a b) = 0 ∧ parseN (printV n a b) = n ∧ parseA (printV n a b) = a ∧ parseB (printV n a b) = b := by
  obtain ⟨h1, h2, h3, h4⟩ := (headE_iff n a b).1 h
  obtain ⟨m, rfl⟩ : ∃ m : Nat, n = m := ⟨n.toNat, by omega⟩
  rw [print_pos h]
  exact parse_good (parse_print _ a b (by omega) (by omega) (by omega)) h
theorem back_text {s : ByteArray} (h : parseE s = 0) : headE (parseN s) (parseA s) (parseB s) = 0 ∧ printV (parseN s) (parseA s) (parseB s) = s := by
  cases hp : parseO s with
  | none => rw [(parse_none hp).1] at h; cases h
  | some x =>
    obtain ⟨n, a, b⟩ := x
    by_cases h0 : headE n a b = 0
    · obtain ⟨_, e1, e2, e3⟩ := parse_good hp h0
      rw [e1, e2, e3]
      refine ⟨h0, ?_⟩
      rw [print_pos h0]
      exact (print_parse hp).1
    · rw [(parse_bad hp h0).1] at h
      exact absurd h h0
theorem print_inj {n m : Int} {a b c d : ByteArray} (h : headE n a b = 0) (g : headE m c d = 0) (he : printV n a b = printV m c d) : n = m ∧ a = c ∧ b = d := by
  obtain ⟨_, e1, e2, e3⟩ := back_head h
  obtain ⟨_, f1, f2, f3⟩ := back_head g
  rw [he] at e1 e2 e3
  exact ⟨e1.symm.trans f1, e2.symm.trans f2, e3.symm.trans f3⟩
theorem writeB_size (x y z : Nat) (hx : x ≤ 20000) (hy : y ≤ 20000) (hz : z ≤ 20000) : (writeB x y z).size ≤ 18 := by
  have h1 := nDigits_le5 x hx
  have h2 := nDigits_le5 y hy
  have h3 := nDigits_le5 z hz
  rw [ba_size]
  simp only [writeB, writeL, List.length_append, List.length_cons, Lib.decDigits_length, List.length_nil]
  omega
end Go.Proofs.YtnemiobgmdpnmagGreatFmt
namespace Go.Proofs.YtnemiobgmdpnmagGreatFmt
open Go Go.RowKit

abbrev StepB := Bool × ByteArray

/- On which side the steps above text i of n stand, from below. -/
def sidesN (n i : Nat) : List Bool :=
  if _h : n ≤ 1 then []
  else if i < halfN n then sidesN (halfN n) i ++ [false]
  else sidesN (n - halfN n) (i - halfN n) ++ [true]
termination_by n
decreasing_by
  · exact halfN_lt (by omega)
  · have := halfN_pos n; omega

theorem sidesN_one {n : Nat} (h : n ≤ 1) (i : Nat) : sidesN n i = [] := by rw [sidesN, dif_pos h]
theorem sidesN_low {n i : Nat} (h : 2 ≤ n) (hi : i < halfN n) : sidesN n i = sidesN (halfN n) i ++ [false] := by rw [sidesN, dif_neg (by omega), if_pos hi]
theorem sidesN_high {n i : Nat} (h : 2 ≤ n) (hi : halfN n ≤ i) : sidesN n i = sidesN (n - halfN n) (i - halfN n) ++ [true] := by rw [sidesN, dif_neg (by omega), if_neg (by omega)]

theorem sidesN_len : ∀ (k n i : Nat), n ≤ k → n ≤ 24 → (sidesN n i).length ≤ n - 1
  | k, n, i, hk, h24 => by
    rcases Nat.lt_or_ge n 2 with h | h
    · rw [sidesN_one (by omega)]; simp
    · have h1 := halfN_lt h
      have h2 := halfN_pos n
      rcases Nat.lt_or_ge i (halfN n) with hi | hi
      · rw [sidesN_low h hi, List.length_append]
        have := sidesN_len (k - 1) (halfN n) i (by omega) (by omega)
        simp only [List.length_singleton]; omega
      · rw [sidesN_high h hi, List.length_append]
        have := sidesN_len (k - 1) (n - halfN n) (i - halfN n) (by omega) (by omega)
        simp only [List.length_singleton]; omega
termination_by k => k
decreasing_by all_goals omega
theorem sidesN_le {n i : Nat} (h : n ≤ 24) : (sidesN n i).length ≤ 23 := by
  have := sidesN_len n n i (Nat.le_refl _) h; omega

/- The path of text i. -/
def pathS (l : List ByteArray) (i : Nat) : List StepB :=
  if _h : l.length ≤ 1 then []
  else if i < halfN l.length then pathS (l.take (halfN l.length)) i ++ [(false, rootV (l.drop (halfN l.length)))]
  else pathS (l.drop (halfN l.length)) (i - halfN l.length) ++ [(true, rootV (l.take (halfN l.length)))]
termination_by l.length
decreasing_by
  · have := halfN_lt (n := l.length) (by omega)
    rw [List.length_take]; omega
  · have := halfN_pos l.length
    rw [List.length_drop]; omega

theorem pathS_one {l : List ByteArray} (h : l.length ≤ 1) (i : Nat) : pathS l i = [] := by rw [pathS, dif_pos h]
theorem pathS_low {l : List ByteArray} {i : Nat} (h : 2 ≤ l.length) (hi : i < halfN l.length) :
    pathS l i = pathS (l.take (halfN l.length)) i ++ [(false, rootV (l.drop (halfN l.length)))] := by rw [pathS, dif_neg (by omega), if_pos hi]
theorem pathS_high {l : List ByteArray} {i : Nat} (h : 2 ≤ l.length) (hi : halfN l.length ≤ i) :
    pathS l i = pathS (l.drop (halfN l.length)) (i - halfN l.length) ++ [(true, rootV (l.take (halfN l.length)))] := by rw [pathS, dif_neg (by omega), if_neg (by omega)]

theorem pathS_sides : ∀ (k : Nat) (l : List ByteArray) (i : Nat), l.length ≤ k → (pathS l i).map (·.1) = sidesN l.length i
  | k, l, i, hk => by
    rcases Nat.lt_or_ge l.length 2 with h | h
    · rw [sidesN_one (by omega), pathS_one (by omega)]; rfl
    · have h1 := halfN_lt h
      have h2 := halfN_pos l.length
      rcases Nat.lt_or_ge i (halfN l.length) with hi | hi
      · have hl : (l.take (halfN l.length)).length = halfN l.length := by rw [List.length_take]; omega
        rw [sidesN_low h hi, pathS_low h hi, List.map_append, pathS_sides (k - 1) _ i (by omega), hl]; rfl
      · have hl : (l.drop (halfN l.length)).length = l.length - halfN l.length := by rw [List.length_drop]
        rw [sidesN_high h hi, pathS_high h hi, List.map_append, pathS_sides (k - 1) _ _ (by omega), hl]; rfl
termination_by k => k
decreasing_by all_goals omega
theorem pathS_map (l : List ByteArray) (i : Nat) : (pathS l i).map (·.1) = sidesN l.length i := pathS_sides l.length l i (Nat.le_refl _)
theorem pathS_len (l : List ByteArray) (i : Nat) : (pathS l i).length = (sidesN l.length i).length := by rw [← pathS_map]; simp

theorem rootV_size (l : List ByteArray) : (rootV l).size ≤ 20007 := by
  rcases h : rootS l with _ | s
  · rw [(root_neg h).1]; decide
  · rw [(root_pos h).1]; exact rootS_size h
theorem pathS_size : ∀ (k : Nat) (l : List ByteArray) (i : Nat), l.length ≤ k → ∀ s ∈ pathS l i, s.2.size ≤ 20007
  | k, l, i, hk => by
    rcases Nat.lt_or_ge l.length 2 with h | h
    · rw [pathS_one (by omega)]; intro s hs; cases hs
    · have h1 := halfN_lt h
      have h2 := halfN_pos l.length
      rcases Nat.lt_or_ge i (halfN l.length) with hi | hi
      · rw [pathS_low h hi]
        intro s hs
        rcases List.mem_append.1 hs with hs | hs
        · exact pathS_size (k - 1) _ _ (by rw [List.length_take]; omega) s hs
        · rw [List.mem_singleton.1 hs]; exact rootV_size _
      · rw [pathS_high h hi]
        intro s hs
        rcases List.mem_append.1 hs with hs | hs
        · exact pathS_size (k - 1) _ _ (by rw [List.length_drop]; omega) s hs
        · rw [List.mem_singleton.1 hs]; exact rootV_size _
termination_by k => k
decreasing_by all_goals omega

/- A step up, and all of them. -/
def joinO (x : ByteArray) (s : StepB) : Option ByteArray := if s.1 = true then nodeO s.2 x else nodeO x s.2
def upO (t : ByteArray) (ss : List StepB) : Option ByteArray := ss.foldl (fun o s => o.bind fun x => joinO x s) (leafO t)
theorem upO_nil (t : ByteArray) : upO t [] = leafO t := rfl
theorem upO_snoc (t : ByteArray) (ss : List StepB) (s : StepB) : upO t (ss ++ [s]) = (upO t ss).bind fun x => joinO x s := by
  unfold upO; rw [List.foldl_append]; rfl
theorem joinO_size {x t : ByteArray} {s : StepB} (h : joinO x s = some t) : t.size ≤ 20007 := by
  unfold joinO at h; split at h <;> exact nodeO_size h

/- What Shows answers, step by step: the sides, the steps, the root. -/
def walkE (root : ByteArray) : ByteArray → List Bool → List StepB → Int
  | now, [], [] => if now = root then 0 else 7
  | now, b :: bs, s :: ss => if s.1 = b then (match joinO now s with | none => 2 | some x => walkE root x bs ss) else 7
  | _, _, _ => 7
def showE (root : ByteArray) (n i : Int) (text : ByteArray) (ss : List StepB) : Int :=
  if n < 1 ∨ 24 < n then 3
  else if i < 0 ∨ n ≤ i then 5
  else if ss.length = (sidesN n.toNat i.toNat).length then
    (match leafO text with | none => 2 | some x => walkE root x (sidesN n.toNat i.toNat) ss)
  else 7

theorem walkE_ok (root : ByteArray) : ∀ (bs : List Bool) (ss : List StepB) (now : ByteArray),
    walkE root now bs ss = 0 ↔ ss.map (·.1) = bs ∧ ss.foldl (fun o s => o.bind fun x => joinO x s) (some now) = some root
  | [], [], now => by
    unfold walkE
    by_cases h : now = root <;> simp [h]
  | b :: bs, s :: ss, now => by
    unfold walkE
    have hnone : ∀ ss : List StepB, ss.foldl (fun o s => o.bind fun x => joinO x s) none = none := by
      intro ss; induction ss with
      | nil => rfl
      | cons s ss ih => simpa using ih
    by_cases h : s.1 = b
    · rw [if_pos h]
      cases hj : joinO now s with
      | none => simp [hj, hnone]
      | some x =>
        have := walkE_ok root bs ss x
        simp only [this, List.map_cons, List.cons.injEq, h, true_and, List.foldl_cons, Option.bind_some, hj]
    · rw [if_neg h]
      simp [h]
  | [], s :: ss, now => by simp [walkE]
  | b :: bs, [], now => by simp [walkE]

theorem showE_ok (root : ByteArray) (n i : Nat) (text : ByteArray) (ss : List StepB) (h1 : 1 ≤ n) (h24 : n ≤ 24) (hi : i < n) :
    showE root n i text ss = 0 ↔ ss.map (·.1) = sidesN n i ∧ upO text ss = some root := by
  unfold showE
  rw [if_neg (by omega), if_neg (by omega)]
  simp only [Int.toNat_natCast]
  have hnone : ∀ ss : List StepB, ss.foldl (fun o s => o.bind fun x => joinO x s) none = none := by
    intro ss; induction ss with
    | nil => rfl
    | cons s ss ih => simpa using ih
  by_cases hl : ss.length = (sidesN n i).length
  · rw [if_pos hl]
    unfold upO
    cases hL : leafO text with
    | none => simp [hnone]
    | some x => exact walkE_ok root _ ss x
  · rw [if_neg hl]
    constructor
    · intro h; cases h
    · intro h; exact absurd (by rw [← h.1]; simp) hl

/- P3.3: just one text and one path. -/
theorem up_iff : ∀ (k : Nat) (l : List ByteArray) (i : Nat) (r t : ByteArray) (ss : List StepB), l.length ≤ k → i < l.length → rootS l = some r → ss.map (·.1) = sidesN l.length i →
    (upO t ss = some r ↔ t = l.getD i ByteArray.empty ∧ ss = pathS l i)
  | k, l, i, r, t, ss, hk, hi, hr, hs => by
    rcases Nat.lt_or_ge l.length 2 with h | h
    · rw [sidesN_one (by omega)] at hs
      obtain rfl := List.map_eq_nil_iff.1 hs
      obtain rfl : i = 0 := by omega
      rw [rootS_one (by omega)] at hr
      rw [pathS_one (by omega), upO_nil]
      obtain ⟨hsz, rfl⟩ := leafO_some hr
      constructor
      · intro ht
        exact ⟨leafS_inj (leafO_some ht).2.symm, rfl⟩
      · rintro ⟨rfl, _⟩; exact hr
    · have hlt := halfN_lt h
      have hpos := halfN_pos l.length
      obtain ⟨h24, a, b, ha, hb, hn⟩ := rootS_some_two h hr
      have sa := rootS_size ha
      have sb := rootS_size hb
      obtain ⟨hsz, rfl⟩ := nodeO_some hn
      rcases List.eq_nil_or_concat ss with rfl | ⟨ss', s, rfl⟩
      · exfalso
        rcases Nat.lt_or_ge i (halfN l.length) with hj | hj
        · rw [sidesN_low h hj] at hs; simp at hs
        · rw [sidesN_high h hj] at hs; simp at hs
      rw [List.concat_eq_append] at hs ⊢
      rw [upO_snoc]
      obtain ⟨sb', sx⟩ := s
      rcases Nat.lt_or_ge i (halfN l.length) with hj | hj
      · have hl : (l.take (halfN l.length)).length = halfN l.length := by rw [List.length_take]; omega
        rw [sidesN_low h hj, List.map_append] at hs
        obtain ⟨hs1, hs2⟩ := List.append_inj' hs rfl
        have hs2 : sb' = false := by simpa using hs2
        subst hs2
        have ih := up_iff (k - 1) (l.take (halfN l.length)) i a t ss' (by omega) (by omega) ha (by rw [hl]; exact hs1)
        rw [pathS_low h hj, (root_pos hb).1]
        have hg : (l.take (halfN l.length)).getD i ByteArray.empty = l.getD i ByteArray.empty := by simp [hj, List.getD_eq_getElem?_getD]
        rw [hg] at ih
        constructor
        · intro hu
          obtain ⟨x, hx, hu⟩ := Option.bind_eq_some_iff.1 hu
          have hu : nodeO x sx = some (nodeS a b) := hu
          obtain ⟨hz, he⟩ := nodeO_some hu
          obtain ⟨rfl, rfl⟩ := nodeS_inj (by omega) (by omega) he
          obtain ⟨e1, e2⟩ := ih.1 hx
          exact ⟨e1, by rw [e2]⟩
        · rintro ⟨e1, e2⟩
          obtain ⟨e3, e4⟩ := List.append_inj' e2 rfl
          have e4 : sx = b := by simpa using e4
          subst e4
          rw [ih.2 ⟨e1, e3⟩, Option.bind_some]
          exact hn
      · have hl : (l.drop (halfN l.length)).length = l.length - halfN l.length := by rw [List.length_drop]
        rw [sidesN_high h hj, List.map_append] at hs
        obtain ⟨hs1, hs2⟩ := List.append_inj' hs rfl
        have hs2 : sb' = true := by simpa using hs2
        subst hs2
        have ih := up_iff (k - 1) (l.drop (halfN l.length)) (i - halfN l.length) b t ss' (by omega) (by omega) hb (by rw [hl]; exact hs1)
        rw [pathS_high h hj, (root_pos ha).1]
        have hg : (l.drop (halfN l.length)).getD (i - halfN l.length) ByteArray.empty = l.getD i ByteArray.empty := by
          simp only [List.getD_eq_getElem?_getD, List.getElem?_drop]
          rw [show halfN l.length + (i - halfN l.length) = i by omega]
        rw [hg] at ih
        constructor
        · intro hu
          obtain ⟨x, hx, hu⟩ := Option.bind_eq_some_iff.1 hu
          have hu : nodeO sx x = some (nodeS a b) := hu
          obtain ⟨hz, he⟩ := nodeO_some hu
          obtain ⟨rfl, rfl⟩ := nodeS_inj (by omega) (by omega) he
          obtain ⟨e1, e2⟩ := ih.1 hx
          exact ⟨e1, by rw [e2]⟩
        · rintro ⟨e1, e2⟩
          obtain ⟨e3, e4⟩ := List.append_inj' e2 rfl
          have e4 : sx = a := by simpa using e4
          subst e4
          rw [ih.2 ⟨e1, e3⟩, Option.bind_some]
          exact hn
termination_by k => k
decreasing_by all_goals omega

theorem show_iff {l : List ByteArray} {r : ByteArray} (i : Nat) (t : ByteArray) (ss : List StepB) (hi : i < l.length) (hr : rootS l = some r) :
    showE r (l.length : Nat) i t ss = 0 ↔ t = l.getD i ByteArray.empty ∧ ss = pathS l i := by
  have h24 := rootS_len hr
  rw [showE_ok r l.length i t ss (by omega) h24 hi]
  constructor
  · rintro ⟨h1, h2⟩
    exact (up_iff l.length l i r t ss (Nat.le_refl _) hi hr h1).1 h2
  · rintro ⟨rfl, rfl⟩
    exact ⟨pathS_map l i, (up_iff l.length l i r _ _ (Nat.le_refl _) hi hr (pathS_map l i)).2 ⟨rfl, rfl⟩⟩
end Go.Proofs.YtnemiobgmdpnmagGreatFmt
namespace Go.Proofs.YtnemiobgmdpnmagGreatFmt
open Go Go.RowKit

/- The seals for m of l; known: whether the seal of the first m is at hand. -/
def growS (l : List ByteArray) (m : Nat) (known : Bool) : List ByteArray :=
  if _h : l.length ≤ 1 ∨ l.length ≤ m then (if known then [] else [rootV l])
  else if m ≤ halfN l.length then growS (l.take (halfN l.length)) m known ++ [rootV (l.drop (halfN l.length))]
  else growS (l.drop (halfN l.length)) (m - halfN l.length) false ++ [rootV (l.take (halfN l.length))]
termination_by l.length
decreasing_by
  · have := halfN_lt (n := l.length) (by omega)
    rw [List.length_take]; omega
  · have := halfN_pos l.length
    rw [List.length_drop]; omega

theorem growS_all {l : List ByteArray} {m : Nat} (h : l.length ≤ 1 ∨ l.length ≤ m) (kn : Bool) : growS l m kn = if kn then [] else [rootV l] := by rw [growS, dif_pos h]
theorem growS_low {l : List ByteArray} {m : Nat} (h : 2 ≤ l.length) (h' : m < l.length) (hm : m ≤ halfN l.length) (kn : Bool) :
    growS l m kn = growS (l.take (halfN l.length)) m kn ++ [rootV (l.drop (halfN l.length))] := by rw [growS, dif_neg (by omega), if_pos hm]
theorem growS_high {l : List ByteArray} {m : Nat} (h : 2 ≤ l.length) (h' : m < l.length) (hm : halfN l.length < m) (kn : Bool) :
    growS l m kn = growS (l.drop (halfN l.length)) (m - halfN l.length) false ++ [rootV (l.take (halfN l.length))] := by rw [growS, dif_neg (by omega), if_neg (by omega)]

/- Just one. -/
def oneS (x : List ByteArray) : Option (ByteArray × ByteArray) := if x.length = 1 then some (x.getD 0 ByteArray.empty, x.getD 0 ByteArray.empty) else none
theorem oneS_some {x : List ByteArray} {a b : ByteArray} (h : oneS x = some (a, b)) : x = [b] ∧ a = b := by
  unfold oneS at h
  split at h
  · rename_i hl
    injection h with h
    injection h with e1 e2
    match x, hl with
    | [y], _ =>
      simp only [List.getD_cons_zero] at e1 e2
      exact ⟨by rw [e2], by rw [← e1, e2]⟩
  · cases h

/- What is made of seals again: the seal of the first m, and of all n. -/
def mkS (old : ByteArray) (n m : Nat) (known : Bool) (x : List ByteArray) : Option (ByteArray × ByteArray) :=
  if _h : n ≤ 1 ∨ n ≤ m then
    (if known then (if x = [] then some (old, old) else none)
     else oneS x)
  else match x.getLast? with
    | none => none
    | some s =>
      if m ≤ halfN n then (mkS old (halfN n) m known x.dropLast).bind fun p => (nodeO p.2 s).bind fun b => some (p.1, b)
      else (mkS old (n - halfN n) (m - halfN n) false x.dropLast).bind fun p => (nodeO s p.1).bind fun a => (nodeO s p.2).bind fun b => some (a, b)
termination_by n
decreasing_by
  · exact halfN_lt (by omega)
  · have := halfN_pos n; omega

theorem mkS_known (old : ByteArray) {n m : Nat} (h : n ≤ 1 ∨ n ≤ m) (x : List ByteArray) : mkS old n m true x = if x = [] then some (old, old) else none := by
  rw [mkS, dif_pos h, if_pos rfl]
theorem mkS_unknown (old : ByteArray) {n m : Nat} (h : n ≤ 1 ∨ n ≤ m) (x : List ByteArray) : mkS old n m false x = oneS x := by
  rw [mkS, dif_pos h, if_neg (by decide)]
theorem mkS_nil (old : ByteArray) {n m : Nat} (h : 2 ≤ n) (h' : m < n) (kn : Bool) : mkS old n m kn [] = none := by
  rw [mkS, dif_neg (by omega)]; rfl
theorem mkS_low (old : ByteArray) {n m : Nat} (h : 2 ≤ n) (h' : m < n) (hm : m ≤ halfN n) (kn : Bool) (x : List ByteArray) (s : ByteArray) :
    mkS old n m kn (x ++ [s]) = (mkS old (halfN n) m kn x).bind fun p => (nodeO p.2 s).bind fun b => some (p.1, b) := by
  rw [mkS, dif_neg (by omega)]
  simp only [List.getLast?_append, List.getLast?_singleton, Option.some_or, List.dropLast_concat]
  rw [if_pos hm]
theorem mkS_high (old : ByteArray) {n m : Nat} (h : 2 ≤ n) (h' : m < n) (hm : halfN n < m) (kn : Bool) (x : List ByteArray) (s : ByteArray) :
    mkS old n m kn (x ++ [s]) = (mkS old (n - halfN n) (m - halfN n) false x).bind fun p => (nodeO s p.1).bind fun a => (nodeO s p.2).bind fun b => some (a, b) := by
  rw [mkS, dif_neg (by omega)]
  simp only [List.getLast?_append, List.getLast?_singleton, Option.some_or, List.dropLast_concat]
  rw [if_neg (by omega)]

/- What Shows answers. -/
def growE (old : ByteArray) (m : Int) (root : ByteArray) (n : Int) (x : List ByteArray) : Int :=
  if m < 1 ∨ n < m ∨ 24 < n then 3
  else if mkS old n.toNat m.toNat true x = some (old, root) then 0 else 7

/- The beginning of a list that has a seal has one, and no longer one. -/
theorem halfN_same {m n : Nat} (h : halfN n < m) (h' : m ≤ n) (h24 : n ≤ 24) : halfN m = halfN n := by
  unfold halfN at *
  split at h <;> (try split at h) <;> (try split at h) <;> (try split at h) <;> (repeat' split) <;> omega

theorem root_take : ∀ (k : Nat) (l : List ByteArray) (m : Nat) (r : ByteArray), l.length ≤ k → 1 ≤ m → m ≤ l.length → rootS l = some r → ∃ a, rootS (l.take m) = some a ∧ a.size ≤ r.size
  | k, l, m, r, hk, h1, hm, hr => by
    rcases Nat.lt_or_ge m l.length with hlt | hge
    · have h2 : 2 ≤ l.length := by omega
      have h3 := halfN_lt h2
      have h4 := halfN_pos l.length
      obtain ⟨h24, a, b, ha, hb, hn⟩ := rootS_some_two h2 hr
      have sa := rootS_size ha
      have sb := rootS_size hb
      obtain ⟨hsz, rfl⟩ := nodeO_some hn
      rcases Nat.lt_or_ge (halfN l.length) m with hh | hh
      · have e1 := halfN_same hh (by omega) h24
        have hl : (l.take m).length = m := by rw [List.length_take]; omega
        obtain ⟨c, hc, hcs⟩ := root_take (k - 1) (l.drop (halfN l.length)) (m - halfN l.length) b (by rw [List.length_drop]; omega) (by omega) (by rw [List.length_drop]; omega) hb
        have e2 : (l.take m).take (halfN l.length) = l.take (halfN l.length) := by rw [List.take_take, Nat.min_eq_left (by omega)]
        have e3 : (l.take m).drop (halfN l.length) = (l.drop (halfN l.length)).take (m - halfN l.length) := by rw [List.drop_take]
        refine ⟨nodeS a c, ?_, ?_⟩
        · rw [rootS_two (by omega) (by omega), hl, e1, e2, e3, ha, hc]
          simp only [Option.bind_some]
          unfold nodeO
          rw [if_pos (by omega)]
        · rw [nodeS_size, nodeS_size]; omega
      · obtain ⟨c, hc, hcs⟩ := root_take (k - 1) (l.take (halfN l.length)) m a (by rw [List.length_take]; omega) h1 (by rw [List.length_take]; omega) ha
        rw [List.take_take, Nat.min_eq_left hh] at hc
        refine ⟨c, hc, ?_⟩
        rw [nodeS_size]; omega
    · rw [List.take_of_length_le hge]
      exact ⟨r, hr, Nat.le_refl _⟩
termination_by k => k
decreasing_by all_goals omega

theorem root_take_node {l : List ByteArray} {m : Nat} {r : ByteArray} (h : halfN l.length < m) (h' : m ≤ l.length) (hr : rootS l = some r) :
    ∃ a c, rootS (l.take (halfN l.length)) = some a ∧ rootS ((l.drop (halfN l.length)).take (m - halfN l.length)) = some c ∧ nodeO a c = some (rootV (l.take m)) := by
  have h4 := halfN_pos l.length
  have h24 := rootS_len hr
  obtain ⟨t, ht, _⟩ := root_take l.length l m r (Nat.le_refl _) (by omega) h' hr
  have hl : (l.take m).length = m := by rw [List.length_take]; omega
  obtain ⟨_, a, b, ha, hb, hn⟩ := rootS_some_two (by omega) ht
  rw [hl, halfN_same h h' h24] at ha hb
  rw [List.take_take, Nat.min_eq_left (by omega)] at ha
  rw [List.drop_take] at hb
  exact ⟨a, b, ha, hb, by rw [(root_pos ht).1]; exact hn⟩

/- P4.3: what is made again is the list's own, by just these seals. -/
theorem mk_only : ∀ (k : Nat) (l : List ByteArray) (m : Nat) (kn : Bool) (old r a : ByteArray) (x : List ByteArray), l.length ≤ k → 1 ≤ m → m ≤ l.length → rootS l = some r →
    mkS old l.length m kn x = some (a, r) → x = growS l m kn ∧ a = rootV (l.take m)
  | k, l, m, kn, old, r, a, x, hk, h1, hm, hr, hx => by
    rcases Nat.lt_or_ge m l.length with hlt | hge
    · have h2 : 2 ≤ l.length := by omega
      have h3 := halfN_lt h2
      have h4 := halfN_pos l.length
      obtain ⟨h24, u, v, hu, hv, hn⟩ := rootS_some_two h2 hr
      have su := rootS_size hu
      have sv := rootS_size hv
      have l1 : (l.take (halfN l.length)).length = halfN l.length := by rw [List.length_take]; omega
      have l2 : (l.drop (halfN l.length)).length = l.length - halfN l.length := by rw [List.length_drop]
      obtain ⟨hsz, rfl⟩ := nodeO_some hn
      rcases List.eq_nil_or_concat x with rfl | ⟨x', s, rfl⟩
      · rw [mkS_nil old h2 hlt] at hx; cases hx
      rw [List.concat_eq_append] at hx ⊢
      rcases Nat.lt_or_ge (halfN l.length) m with hh | hh
      · rw [mkS_high old h2 hlt hh] at hx
        obtain ⟨⟨p1, p2⟩, hp, hx⟩ := Option.bind_eq_some_iff.1 hx
        obtain ⟨a', ha', hx⟩ := Option.bind_eq_some_iff.1 hx
        obtain ⟨b', hb', hx⟩ := Option.bind_eq_some_iff.1 hx
        injection hx with hx
        injection hx with e1 e2
        subst e1
        subst e2
        obtain ⟨hz, he⟩ := nodeO_some hb'
        obtain ⟨rfl, rfl⟩ := nodeS_inj (by omega) (by omega) he
        rw [← l2] at hp
        obtain ⟨e3, e4⟩ := mk_only (k - 1) _ _ _ old v p1 x' (by omega) (by omega) (by omega) hv hp
        obtain ⟨a2, c2, ha2, hc2, hn2⟩ := root_take_node hh hm hr
        refine ⟨?_, ?_⟩
        · rw [growS_high h2 hlt hh, (root_pos hu).1, e3]
        · rw [hu] at ha2
          injection ha2 with ha2
          subst ha2
          rw [(root_pos hc2).1] at e4
          subst e4
          rw [hn2] at ha'
          injection ha' with ha'
          exact ha'.symm
      · rw [mkS_low old h2 hlt hh] at hx
        obtain ⟨⟨p1, p2⟩, hp, hx⟩ := Option.bind_eq_some_iff.1 hx
        obtain ⟨b', hb', hx⟩ := Option.bind_eq_some_iff.1 hx
        injection hx with hx
        injection hx with e1 e2
        subst e1
        subst e2
        obtain ⟨hz, he⟩ := nodeO_some hb'
        obtain ⟨rfl, rfl⟩ := nodeS_inj (by omega) (by omega) he
        rw [← l1] at hp
        obtain ⟨e3, e4⟩ := mk_only (k - 1) _ _ _ old u p1 x' (by omega) h1 (by omega) hu hp
        refine ⟨?_, ?_⟩
        · rw [growS_low h2 hlt hh, (root_pos hv).1, e3]
        · rw [e4, List.take_take, Nat.min_eq_left hh]
    · obtain rfl : m = l.length := by omega
      rw [List.take_length, growS_all (Or.inr (Nat.le_refl _)), (root_pos hr).1]
      cases kn with
      | true =>
        rw [mkS_known old (Or.inr (Nat.le_refl _))] at hx
        split at hx
        · rename_i h0
          injection hx with hx
          injection hx with e1 e2
          exact ⟨h0, by rw [← e1, e2]⟩
        · cases hx
      | false =>
        rw [mkS_unknown old (Or.inr (Nat.le_refl _))] at hx
        obtain ⟨e1, e2⟩ := oneS_some hx
        exact ⟨e1, e2⟩
termination_by k => k
decreasing_by all_goals omega

theorem mk_ok : ∀ (k : Nat) (l : List ByteArray) (m : Nat) (kn : Bool) (old r : ByteArray), l.length ≤ k → 1 ≤ m → m ≤ l.length → rootS l = some r → (kn = true → old = rootV (l.take m)) →
    mkS old l.length m kn (growS l m kn) = some (rootV (l.take m), r)
  | k, l, m, kn, old, r, hk, h1, hm, hr, ho => by
    rcases Nat.lt_or_ge m l.length with hlt | hge
    · have h2 : 2 ≤ l.length := by omega
      have h3 := halfN_lt h2
      have h4 := halfN_pos l.length
      obtain ⟨h24, u, v, hu, hv, hn⟩ := rootS_some_two h2 hr
      have l1 : (l.take (halfN l.length)).length = halfN l.length := by rw [List.length_take]; omega
      have l2 : (l.drop (halfN l.length)).length = l.length - halfN l.length := by rw [List.length_drop]
      rcases Nat.lt_or_ge (halfN l.length) m with hh | hh
      · rw [growS_high h2 hlt hh, mkS_high old h2 hlt hh, ← l2, mk_ok (k - 1) _ _ _ old v (by omega) (by omega) (by omega) hv (fun h => by cases h), (root_pos hu).1]
        obtain ⟨a2, c2, ha2, hc2, hn2⟩ := root_take_node hh hm hr
        rw [hu] at ha2
        injection ha2 with ha2
        subst ha2
        simp only [Option.bind_some]
        rw [(root_pos hc2).1, hn2, hn]
        rfl
      · rw [growS_low h2 hlt hh, mkS_low old h2 hlt hh]
        have e : (l.take (halfN l.length)).take m = l.take m := by rw [List.take_take, Nat.min_eq_left hh]
        have ih := mk_ok (k - 1) (l.take (halfN l.length)) m kn old u (by omega) h1 (by omega) hu (by rw [e]; exact ho)
        rw [l1, e] at ih
        rw [ih, (root_pos hv).1]
        simp only [Option.bind_some]
        rw [hn]
        rfl
    · obtain rfl : m = l.length := by omega
      rw [List.take_length] at ho ⊢
      rw [growS_all (Or.inr (Nat.le_refl _)), (root_pos hr).1]
      rw [(root_pos hr).1] at ho
      cases kn with
      | true =>
        rw [mkS_known old (Or.inr (Nat.le_refl _)), ho rfl]
        rfl
      | false =>
        rw [mkS_unknown old (Or.inr (Nat.le_refl _))]
        rfl
termination_by k => k
decreasing_by all_goals omega

theorem grow_iff {l : List ByteArray} {r : ByteArray} {m : Nat} (old : ByteArray) (x : List ByteArray) (h1 : 1 ≤ m) (hm : m ≤ l.length) (hr : rootS l = some r) :
    growE old (m : Nat) r (l.length : Nat) x = 0 ↔ old = rootV (l.take m) ∧ x = growS l m true := by
  have h24 := rootS_len hr
  unfold growE
  rw [if_neg (by omega)]
  simp only [Int.toNat_natCast]
  constructor
  · intro h
    split at h
    · rename_i hk
      obtain ⟨e1, e2⟩ := mk_only l.length l m true old r old x (Nat.le_refl _) h1 hm hr hk
      exact ⟨e2, e1⟩
    · cases h
  · rintro ⟨e1, e2⟩
    rw [if_pos]
    subst e2
    have := mk_ok l.length l m true old r (Nat.le_refl _) h1 hm hr (fun _ => e1)
    rw [← e1] at this
    exact this
end Go.Proofs.YtnemiobgmdpnmagGreatFmt
namespace Go.Proofs.YtnemiobgmdpnmagGreatFmt
open Go Go.RowKit

/- One key's seal: its value's, or that of nothing. -/
def slotT (v : Option ByteArray) : ByteArray := match v with | none => noneS | some s => leafS s
theorem slotT_inj {u v : Option ByteArray} (h : slotT u = slotT v) : u = v := by
  cases u with
  | none =>
    cases v with
    | none => rfl
    | some t => exact absurd h.symm (leaf_ne_none _)
  | some s =>
    cases v with
    | none => exact absurd h (leaf_ne_none _)
    | some t => rw [leafS_inj h]
theorem slotT_size {v : Option ByteArray} (h : ∀ s, v = some s → s.size ≤ 12) : (slotT v).size ≤ 13 := by
  cases v with
  | none => show noneS.size ≤ 13; decide
  | some s =>
    have := h s rfl
    show (leafS s).size ≤ 13
    rw [leafS_size]; omega

/- The seal of the part i of height d: of the keys from i times 2^d on, 2^d of them. -/
def trieT (f : Nat → Option ByteArray) : Nat → Nat → ByteArray
  | 0, i => slotT (f i)
  | d + 1, i => nodeS (trieT f d (2 * i)) (trieT f d (2 * i + 1))
def Short (f : Nat → Option ByteArray) : Prop := ∀ k s, f k = some s → s.size ≤ 12
def boundT : Nat → Nat
  | 0 => 13
  | d + 1 => 2 * boundT d + 7
theorem boundT_le {d : Nat} (h : d ≤ 4) : boundT d ≤ 313 := by
  match d, h with
  | 0, _ => decide
  | 1, _ => decide
  | 2, _ => decide
  | 3, _ => decide
  | 4, _ => decide
theorem trieT_size {f : Nat → Option ByteArray} (hf : Short f) : ∀ (d i : Nat), d ≤ 4 → (trieT f d i).size ≤ boundT d
  | 0, i, _ => slotT_size (hf i)
  | d + 1, i, h => by
    have h1 := trieT_size hf d (2 * i) (by omega)
    have h2 := trieT_size hf d (2 * i + 1) (by omega)
    have hb := boundT_le (d := d) (by omega)
    have h3 := nDigits_le5 (trieT f d (2 * i)).size (by omega)
    show (nodeS _ _).size ≤ 2 * boundT d + 7
    rw [nodeS_size]; omega
theorem trieT_313 {f : Nat → Option ByteArray} (hf : Short f) {d : Nat} (i : Nat) (h : d ≤ 4) : (trieT f d i).size ≤ 313 := Nat.le_trans (trieT_size hf d i h) (boundT_le h)
theorem trieT_node {f : Nat → Option ByteArray} (hf : Short f) {d : Nat} (i : Nat) (h : d ≤ 3) : nodeO (trieT f d (2 * i)) (trieT f d (2 * i + 1)) = some (trieT f (d + 1) i) := by
  have h1 := trieT_313 hf (d := d) (2 * i) (by omega)
  have h2 := trieT_313 hf (d := d) (2 * i + 1) (by omega)
  unfold nodeO
  rw [if_pos (by omega)]
  rfl

/- No two lots of values have one seal. -/
theorem trieT_inj {f g : Nat → Option ByteArray} (hf : Short f) (hg : Short g) : ∀ (d i : Nat), d ≤ 4 → trieT f d i = trieT g d i → ∀ k, i * 2 ^ d ≤ k → k < (i + 1) * 2 ^ d → f k = g k
  | 0, i, _, h, k, h1, h2 => by
    have : k = i := by simp at h1 h2; omega
    subst this
    exact slotT_inj h
  | d + 1, i, hd, h, k, h1, h2 => by
    have s1 := trieT_313 hf (d := d) (2 * i) (by omega)
    have s3 := trieT_313 hg (d := d) (2 * i) (by omega)
    obtain ⟨e1, e2⟩ := nodeS_inj (by omega) (by omega) h
    have hp : (2 : Nat) ^ (d + 1) = 2 * 2 ^ d := by rw [Nat.pow_succ, Nat.mul_comm]
    rw [hp] at h1 h2
    rcases Nat.lt_or_ge k ((2 * i + 1) * 2 ^ d) with hk | hk
    · refine trieT_inj hf hg d (2 * i) (by omega) e1 k ?_ hk
      calc 2 * i * 2 ^ d = i * (2 * 2 ^ d) := by rw [Nat.mul_comm 2 i, Nat.mul_assoc]
        _ ≤ k := h1
    · refine trieT_inj hf hg d (2 * i + 1) (by omega) e2 k hk ?_
      calc k < (i + 1) * (2 * 2 ^ d) := h2
        _ = (2 * i + 1 + 1) * 2 ^ d := by rw [← Nat.mul_assoc, Nat.mul_comm (i + 1) 2]; rfl
theorem trieT_congr {f g : Nat → Option ByteArray} : ∀ (d i : Nat), (∀ k, i * 2 ^ d ≤ k → k < (i + 1) * 2 ^ d → f k = g k) → trieT f d i = trieT g d i
  | 0, i, h => by
    show slotT (f i) = slotT (g i)
    rw [h i (by simp) (by simp)]
  | d + 1, i, h => by
    have hp : (2 : Nat) ^ (d + 1) = 2 * 2 ^ d := by rw [Nat.pow_succ, Nat.mul_comm]
    rw [hp] at h
    have q1 : i * (2 * 2 ^ d) = 2 * i * 2 ^ d := by rw [Nat.mul_comm 2 i, Nat.mul_assoc]
    have q2 : (i + 1) * (2 * 2 ^ d) = (2 * i + 1 + 1) * 2 ^ d := by rw [← Nat.mul_assoc, Nat.mul_comm (i + 1) 2]; rfl
    have q3 : (2 * i + 1) * 2 ^ d = 2 * i * 2 ^ d + 2 ^ d := by rw [Nat.add_mul, Nat.one_mul]
    have q4 : (2 * i + 1 + 1) * 2 ^ d = 2 * i * 2 ^ d + 2 ^ d + 2 ^ d := by rw [Nat.add_mul, q3, Nat.one_mul]
    show nodeS _ _ = nodeS _ _
    rw [trieT_congr d (2 * i) (fun k h1 h2 => h k (by omega) (by omega)), trieT_congr d (2 * i + 1) (fun k h1 h2 => h k (by omega) (by omega))]

/- The part beside. -/
def sibN (k : Nat) : Nat := if k % 2 = 0 then k + 1 else k - 1
def pathT (f : Nat → Option ByteArray) : Nat → Nat → Nat → List ByteArray
  | _, _, 0 => []
  | h, k, n + 1 => trieT f h (sibN k) :: pathT f (h + 1) (k / 2) n
theorem pathT_len (f : Nat → Option ByteArray) : ∀ (n h k : Nat), (pathT f h k n).length = n
  | 0, _, _ => rfl
  | n + 1, h, k => by show (pathT f (h + 1) (k / 2) n).length + 1 = n + 1; rw [pathT_len f n]
/- Seal by seal, upwards. -/
def sideT (k : Nat) (now s : ByteArray) : Option ByteArray := if k % 2 = 0 then nodeO now s else nodeO s now
def climbT : Nat → ByteArray → List ByteArray → Option ByteArray
  | _, now, [] => some now
  | k, now, s :: l => (sideT k now s).bind fun x => climbT (k / 2) x l
theorem sideT_up {f : Nat → Option ByteArray} (hf : Short f) {h : Nat} (k : Nat) (hh : h ≤ 3) : sideT k (trieT f h k) (trieT f h (sibN k)) = some (trieT f (h + 1) (k / 2)) := by
  unfold sideT sibN
  by_cases hk : k % 2 = 0
  · rw [if_pos hk, if_pos hk]
    have := trieT_node hf (d := h) (k / 2) hh
    rwa [show 2 * (k / 2) = k by omega] at this
  · rw [if_neg hk, if_neg hk]
    have := trieT_node hf (d := h) (k / 2) hh
    rwa [show 2 * (k / 2) = k - 1 by omega, show k - 1 + 1 = k by omega] at this
theorem sideT_only {f : Nat → Option ByteArray} (hf : Short f) {h k : Nat} {now s : ByteArray} (hh : h ≤ 3) (e : sideT k now s = some (trieT f (h + 1) (k / 2))) : now = trieT f h k ∧ s = trieT f h (sibN k) := by
  have z1 := trieT_313 hf (d := h) (2 * (k / 2)) (by omega)
  have z2 := trieT_313 hf (d := h) (2 * (k / 2) + 1) (by omega)
  unfold sideT at e
  unfold sibN
  by_cases hk : k % 2 = 0
  · rw [if_pos hk] at e ⊢
    obtain ⟨hz, he⟩ := nodeO_some e
    have he : nodeS (trieT f h (2 * (k / 2))) (trieT f h (2 * (k / 2) + 1)) = nodeS now s := he
    obtain ⟨e1, e2⟩ := nodeS_inj (by omega) (by omega) he
    rw [show 2 * (k / 2) = k by omega] at e1 e2
    exact ⟨e1.symm, e2.symm⟩
  · rw [if_neg hk] at e ⊢
    obtain ⟨hz, he⟩ := nodeO_some e
    have he : nodeS (trieT f h (2 * (k / 2))) (trieT f h (2 * (k / 2) + 1)) = nodeS s now := he
    obtain ⟨e1, e2⟩ := nodeS_inj (by omega) (by omega) he
    rw [show 2 * (k / 2) + 1 = k by omega] at e2
    rw [show 2 * (k / 2) = k - 1 by omega] at e1
    exact ⟨e2.symm, e1.symm⟩

theorem climb_ok {f : Nat → Option ByteArray} (hf : Short f) : ∀ (n h k : Nat), h + n ≤ 4 → climbT k (trieT f h k) (pathT f h k n) = some (trieT f (h + n) (k / 2 ^ n))
  | 0, h, k, _ => by simp [climbT, pathT]
  | n + 1, h, k, hn => by
    show (sideT k (trieT f h k) (trieT f h (sibN k))).bind (fun x => climbT (k / 2) x (pathT f (h + 1) (k / 2) n)) = _
    rw [sideT_up hf k (by omega), Option.bind_some, climb_ok hf n (h + 1) (k / 2) (by omega), Nat.pow_succ, Nat.mul_comm, ← Nat.div_div_eq_div_mul, show h + 1 + n = h + (n + 1) by omega]
theorem climb_only {f : Nat → Option ByteArray} (hf : Short f) : ∀ (l : List ByteArray) (h k : Nat) (now : ByteArray), h + l.length ≤ 4 → climbT k now l = some (trieT f (h + l.length) (k / 2 ^ l.length)) → now = trieT f h k ∧ l = pathT f h k l.length
  | [], h, k, now, _, e => by
    simp only [climbT, List.length_nil, Nat.add_zero, Nat.pow_zero, Nat.div_one] at e
    injection e with e
    exact ⟨e, rfl⟩
  | s :: l, h, k, now, hn, e => by
    have hn : h + (l.length + 1) ≤ 4 := hn
    have e : (sideT k now s).bind (fun x => climbT (k / 2) x l) = some (trieT f (h + (l.length + 1)) (k / 2 ^ (l.length + 1))) := e
    obtain ⟨x, hx, e⟩ := Option.bind_eq_some_iff.1 e
    rw [Nat.pow_succ, Nat.mul_comm, ← Nat.div_div_eq_div_mul, show h + (l.length + 1) = h + 1 + l.length by omega] at e
    obtain ⟨e1, e2⟩ := climb_only hf l (h + 1) (k / 2) x (by omega) e
    rw [e1] at hx
    obtain ⟨e3, e4⟩ := sideT_only hf (by omega) hx
    refine ⟨e3, ?_⟩
    show s :: l = trieT f h (sibN k) :: pathT f (h + 1) (k / 2) l.length
    rw [← e2, ← e4]

/- What Shows answers. -/
def startT (value : ByteArray) (there : Bool) : Option ByteArray := if there then leafO value else some noneS
def trieE (all : ByteArray) (key : Int) (value : ByteArray) (there : Bool) (l : List ByteArray) : Int :=
  if key < 0 ∨ 15 < key then 5
  else if there = false ∧ value.size ≠ 0 then 4
  else if l.length ≠ 4 then 7
  else match (startT value there).bind fun now => climbT key.toNat now l with
    | none => 2
    | some x => if x = all then 0 else 7

/- P5.3: just what is so, by just its path. -/
theorem trie_iff {f : Nat → Option ByteArray} (hf : Short f) (k : Nat) (hk : k < 16) (value : ByteArray) (there : Bool) (l : List ByteArray) :
    trieE (trieT f 4 0) (k : Nat) value there l = 0 ↔ (if there then some value else none) = f k ∧ (there = false → value.size = 0) ∧ l = pathT f 0 k 4 := by
  have hdiv : k / 2 ^ 4 = 0 := by omega
  unfold trieE
  rw [if_neg (by omega)]
  simp only [Int.toNat_natCast]
  by_cases h1 : there = false ∧ value.size ≠ 0
  · rw [if_pos h1]
    constructor
    · intro h; cases h
    · rintro ⟨_, h, _⟩; exact absurd (h h1.1) h1.2
  · rw [if_neg h1]
    by_cases h2 : l.length = 4
    · rw [if_neg (by simpa using h2)]
      have hv : there = false → value.size = 0 := fun h => Classical.byContradiction fun hn => h1 ⟨h, hn⟩
      have key : ((startT value there).bind fun now => climbT k now l) = some (trieT f 4 0) ↔ (if there then some value else none) = f k ∧ l = pathT f 0 k 4 := by
        constructor
        · intro h
          obtain ⟨now, hn, hc⟩ := Option.bind_eq_some_iff.1 h
          have hc' : climbT k now l = some (trieT f (0 + l.length) (k / 2 ^ l.length)) := by rw [h2, hdiv]; exact hc
          obtain ⟨e1, e2⟩ := climb_only hf l 0 k now (by omega) hc'
          rw [h2] at e2
          refine ⟨?_, e2⟩
          have e1 : now = slotT (f k) := e1
          cases there with
          | true =>
            obtain ⟨_, rfl⟩ := leafO_some (show leafO value = some now from hn)
            exact slotT_inj (u := some value) e1
          | false =>
            injection (show some noneS = some now from hn) with hn
            subst hn
            exact slotT_inj (u := none) e1
        · rintro ⟨e1, e2⟩
          have hs : startT value there = some (trieT f 0 k) := by
            show _ = some (slotT (f k))
            rw [← e1]
            cases there with
            | true =>
              have hz := hf k value e1.symm
              show leafO value = _
              unfold leafO
              rw [if_pos (by omega)]
              rfl
            | false => rfl
          rw [hs, Option.bind_some, e2, climb_ok hf 4 0 k (by omega), hdiv]
      rcases hr : (startT value there).bind fun now => climbT k now l with _ | x
      · rw [hr] at key
        constructor
        · intro h; cases h
        · rintro ⟨e1, _, e2⟩; cases key.2 ⟨e1, e2⟩
      · rw [hr] at key
        constructor
        · intro h
          by_cases hx : x = trieT f 4 0
          · obtain ⟨e1, e2⟩ := key.1 (by rw [hx])
            exact ⟨e1, hv, e2⟩
          · have h : (if x = trieT f 4 0 then (0 : Int) else 7) = 0 := h
            rw [if_neg hx] at h; cases h
        · rintro ⟨e1, _, e2⟩
          have := key.2 ⟨e1, e2⟩
          injection this with this
          show (if x = trieT f 4 0 then (0 : Int) else 7) = 0
          rw [if_pos this]
    · rw [if_pos (by simpa using h2)]
      constructor
      · intro h; cases h
      · rintro ⟨_, _, h⟩; exact absurd (by rw [h, pathT_len]) h2
end Go.Proofs.YtnemiobgmdpnmagGreatFmt
namespace Go.Proofs.YtnemiobgmdpnmagGreatFmt
open Go Go.RowKit Go.Maps

def textD : DataW Unit → ByteArray
  | .lit (.string s) => ⟨s.toArray⟩
  | _ => ⟨#[]⟩
def valD (D : DataW Unit) (k : Int) : Option ByteArray := if has D (.int .i64 k) = true then some (textD (D.atKey (.int .i64 k) (.lit (.string [])))) else none
def valS (D : DataW Unit) (k : Int) : ByteArray := (valD D k).getD ⟨#[]⟩
def valN (D : DataW Unit) (k : Nat) : Option ByteArray := valD D k
theorem valD_isSome (D : DataW Unit) (k : Int) : (valD D k).isSome = has D (.int .i64 k) := by
  unfold valD
  cases has D (.int .i64 k) <;> rfl
theorem valS_eq (D : DataW Unit) (k : Int) : valS D k = textD (D.atKey (.int .i64 k) (.lit (.string []))) := by
  unfold valS valD
  cases h : has D (.int .i64 k)
  · rw [atKey_of_not_has h]; rfl
  · rfl
theorem valD_none {D : DataW Unit} {k : Int} (h : valD D k = none) : valS D k = ⟨#[]⟩ := by unfold valS; rw [h]; rfl
theorem valD_some {D : DataW Unit} {k : Int} {s : ByteArray} (h : valD D k = some s) : valS D k = s := by unfold valS; rw [h]; rfl
theorem valD_nil (k : Int) : valD .nil k = none := rfl
theorem valD_empty (k : Int) : valD (.map []) k = none := rfl
theorem key_ne {j k : Int} (h : j ≠ k) : (Lit.int .i64 j) ≠ .int .i64 k := fun e => h (by injection e)
theorem valD_put {D : DataW Unit} (hm : IsMap D) (j k : Int) (s : ByteArray) : valD (D.put (.int .i64 k) (.lit (.string s.data.toList))) j = if j = k then some s else valD D j := by
  unfold valD
  by_cases h : j = k
  · subst h
    rw [has_put_same (k := .int .i64 j) hm trivial, atKey_put_same (k := .int .i64 j) hm trivial, if_pos rfl, if_pos rfl]
    rfl
  · rw [has_put_other (key_ne h), atKey_put_other (key_ne h), if_neg h]

/- A map of texts by numbers, or none. -/
structure TextMap (D : DataW Unit) : Prop where
  canon : D = .nil ∨ Canon D
  keys : ∀ es, D = .map es → ∀ p ∈ es, ∃ k, p.1 = .int .i64 k
theorem TextMap.nil : TextMap .nil := ⟨.inl rfl, fun es h => by cases h⟩

/- How many of the first n keys are there. -/
def cntD (D : DataW Unit) : Nat → Nat
  | 0 => 0
  | n + 1 => cntD D n + if (valN D n).isSome = true then 1 else 0
def inR (n : Nat) (p : Lit × DataW Unit) : Bool := match p.1 with | .int .i64 k => decide (0 ≤ k ∧ k < n) | _ => false

theorem len_step (n : Nat) : ∀ (es : List (Lit × DataW Unit)), es.Pairwise (fun p q => p.1 ≠ q.1) → (∀ p ∈ es, ∃ k, p.1 = .int .i64 k) →
    (es.filter (inR (n + 1))).length = (es.filter (inR n)).length + if es.any (fun p => p.1.sameKey (.int .i64 (n : Int))) = true then 1 else 0
  | [], _, _ => rfl
  | p :: r, hp, hk => by
    obtain ⟨h1, h2⟩ := List.pairwise_cons.1 hp
    obtain ⟨k, hpk⟩ := hk p (by simp)
    have ih := len_step n r h2 (fun q hq => hk q (by simp [hq]))
    by_cases e : k = n
    · subst e
      have a0 : p.1.sameKey (.int .i64 (n : Int)) = true := by rw [hpk]; exact WideAt.sameKey_self trivial
      have a1 : inR (n + 1) p = true := by unfold inR; rw [hpk]; simp; omega
      have a2 : inR n p = false := by unfold inR; rw [hpk]; simp
      have a3 : r.any (fun p => p.1.sameKey (.int .i64 (n : Int))) = false := by
        rw [List.any_eq_false]
        intro q hq hs
        exact h1 q hq (by rw [hpk]; exact (WideAt.sameKey_eq hs).symm)
      rw [a3] at ih
      rw [List.any_cons, a0, List.filter_cons, if_pos a1, List.filter_cons, if_neg (by rw [a2]; decide), List.length_cons, ih]
      simp
    · have a0 : p.1.sameKey (.int .i64 (n : Int)) = false := by rw [hpk]; exact sameKey_ne (key_ne e)
      have a1 : inR (n + 1) p = inR n p := by unfold inR; rw [hpk]; simp only [decide_eq_decide]; omega
      rw [List.any_cons, a0, Bool.false_or, List.filter_cons, List.filter_cons, a1]
      cases hc : inR n p
      · simpa using ih
      · simp only [if_pos, List.length_cons]; omega

theorem cnt_len {es : List (Lit × DataW Unit)} (hp : es.Pairwise (fun p q => p.1 ≠ q.1)) (hk : ∀ p ∈ es, ∃ k, p.1 = .int .i64 k) : ∀ n, cntD (.map es) n = (es.filter (inR n)).length
  | 0 => by
    show 0 = _
    symm
    rw [List.length_eq_zero_iff, List.filter_eq_nil_iff]
    intro p hp'
    obtain ⟨k, e⟩ := hk p hp'
    unfold inR; rw [e]; simp
  | n + 1 => by
    rw [len_step n es hp hk, ← cnt_len hp hk n]
    show _ + (if (valD (.map es) (n : Int)).isSome = true then 1 else 0) = _
    rw [valD_isSome, has_eq]

theorem TextMap.parts {D : DataW Unit} (h : TextMap D) : D = .nil ∨ ∃ es, D = .map es ∧ es.Pairwise (fun p q => p.1 ≠ q.1) ∧ ∀ p ∈ es, ∃ k, p.1 = .int .i64 k := by
  rcases h.canon with rfl | ⟨es, rfl, h1, _⟩
  · exact .inl rfl
  · exact .inr ⟨es, rfl, apart_of_rising h1, h.keys es rfl⟩

theorem cnt_nil (n : Nat) : cntD .nil n = 0 := by
  induction n with
  | zero => rfl
  | succ n ih =>
    show cntD .nil n + 0 = 0
    rw [ih]
theorem cnt_le {D : DataW Unit} (h : TextMap D) (n : Nat) : cntD D n ≤ size D := by
  rcases h.parts with rfl | ⟨es, rfl, hp, hk⟩
  · rw [cnt_nil]; exact Nat.zero_le _
  · rw [cnt_len hp hk]; exact List.length_filter_le _ _
theorem cnt_all {D : DataW Unit} (h : TextMap D) (n : Nat) : cntD D n = size D ↔ ∀ k, (valD D k).isSome = true → 0 ≤ k ∧ k < n := by
  rcases h.parts with rfl | ⟨es, rfl, hp, hk⟩
  · rw [cnt_nil]
    refine ⟨fun _ k hk => ?_, fun _ => rfl⟩
    rw [valD_nil] at hk
    cases hk
  · rw [cnt_len hp hk, size_eq, List.length_filter_eq_length_iff]
    constructor
    · intro ha k hs
      rw [valD_isSome, has_eq] at hs
      obtain ⟨p, hpm, hps⟩ := List.any_eq_true.1 hs
      have := ha p hpm
      have e := WideAt.sameKey_eq hps
      unfold inR at this
      rw [e] at this
      simpa using this
    · intro ha p hpm
      obtain ⟨k, e⟩ := hk p hpm
      have := ha k (by
        rw [valD_isSome, has_eq]
        exact List.any_eq_true.2 ⟨p, hpm, by rw [e]; exact WideAt.sameKey_self trivial⟩)
      unfold inR
      rw [e]
      simpa using this

/- Chapter 5's Check. -/
def longD (D : DataW Unit) (n : Nat) : Prop := ∃ k, k < n ∧ 12 < (valS D (k : Nat)).size
theorem longD_step (D : DataW Unit) (n : Nat) : longD D (n + 1) ↔ longD D n ∨ 12 < (valS D (n : Nat)).size := by
  constructor
  · rintro ⟨k, h1, h2⟩
    rcases Nat.lt_or_ge k n with h | h
    · exact .inl ⟨k, h, h2⟩
    · obtain rfl : k = n := by omega
      exact .inr h2
  · rintro (⟨k, h1, h2⟩ | h)
    · exact ⟨k, by omega, h2⟩
    · exact ⟨n, by omega, h⟩
open Classical in
noncomputable def checkE (D : DataW Unit) : Int := if longD D 16 then 2 else if cntD D 16 = size D then 0 else 5
theorem check_long {D : DataW Unit} (h : longD D 16) : checkE D = 2 := by unfold checkE; rw [if_pos h]
theorem check_good {D : DataW Unit} (h : ¬ longD D 16) (h2 : cntD D 16 = size D) : checkE D = 0 := by unfold checkE; rw [if_neg h, if_pos h2]
theorem check_who {D : DataW Unit} (h : ¬ longD D 16) (h2 : cntD D 16 ≠ size D) : checkE D = 5 := by unfold checkE; rw [if_neg h, if_neg h2]
def GoodMap (D : DataW Unit) : Prop := ∀ (k : Int) (s : ByteArray), valD D k = some s → 0 ≤ k ∧ k < 16 ∧ s.size ≤ 12
theorem check_iff {D : DataW Unit} (h : TextMap D) : checkE D = 0 ↔ GoodMap D := by
  constructor
  · intro h0 k s hs
    by_cases hl : longD D 16
    · rw [check_long hl] at h0; cases h0
    by_cases hc : cntD D 16 = size D
    · obtain ⟨h1, h2⟩ := (cnt_all h 16).1 hc k (by rw [hs]; rfl)
      refine ⟨h1, h2, Classical.byContradiction fun hn => hl ⟨k.toNat, by omega, ?_⟩⟩
      rw [Int.toNat_of_nonneg h1, valD_some hs]
      omega
    · rw [check_who hl hc] at h0; cases h0
  · intro hg
    refine check_good ?_ ?_
    · rintro ⟨k, _, hk⟩
      cases hv : valD D (k : Nat) with
      | none =>
        rw [valD_none hv] at hk
        exact absurd hk (by decide)
      | some s =>
        rw [valD_some hv] at hk
        have := (hg _ s hv).2.2
        omega
    · refine (cnt_all h 16).2 fun k hk => ?_
      obtain ⟨s, hs⟩ := Option.isSome_iff_exists.1 hk
      exact ⟨(hg k s hs).1, (hg k s hs).2.1⟩
theorem check_cases {D : DataW Unit} (h : TextMap D) : (checkE D = 0 ∧ GoodMap D) ∨ checkE D = 2 ∨ checkE D = 5 := by
  by_cases hl : longD D 16
  · exact .inr (.inl (check_long hl))
  · by_cases hc : cntD D 16 = size D
    · have h0 := check_good hl hc
      exact .inl ⟨h0, (check_iff h).1 h0⟩
    · exact .inr (.inr (check_who hl hc))
theorem GoodMap.short {D : DataW Unit} (h : GoodMap D) : Short (valN D) := fun k s hs => (h k s hs).2.2

/- Two maps held together. -/
theorem cnt_mono {D E : DataW Unit} : ∀ n, (∀ k, k < n → (valN D k).isSome = true → (valN E k).isSome = true) → cntD D n ≤ cntD E n
  | 0, _ => Nat.le_refl _
  | n + 1, h => by
    have h1 := cnt_mono n (fun k hk => h k (by omega))
    have h2 := h n (by omega)
    show cntD D n + _ ≤ cntD E n + _
    cases hd : (valN D n).isSome
    · simp; omega
    · rw [hd] at h2
      rw [h2 rfl]
      simp; omega
theorem cnt_same {D E : DataW Unit} : ∀ n, (∀ k, k < n → (valN D k).isSome = true → (valN E k).isSome = true) → cntD D n = cntD E n → ∀ k, k < n → (valN D k).isSome = (valN E k).isSome
  | 0, _, _, k, hk => absurd hk (by omega)
  | n + 1, h, he, k, hk => by
    have h1 := cnt_mono n (fun k hk => h k (by omega))
    have h2 := h n (by omega)
    have he : cntD D n + (if (valN D n).isSome = true then 1 else 0) = cntD E n + (if (valN E n).isSome = true then 1 else 0) := he
    have hb : (valN D n).isSome = (valN E n).isSome ∧ cntD D n = cntD E n := by
      cases hd : (valN D n).isSome
      · cases hf : (valN E n).isSome
        · rw [hd, hf] at he; exact ⟨rfl, by simpa using he⟩
        · rw [hd, hf] at he
          simp at he
          omega
      · rw [hd] at h2 he
        rw [h2 rfl] at he ⊢
        exact ⟨rfl, by simpa using he⟩
    rcases Nat.lt_or_ge k n with hkn | hkn
    · exact cnt_same n (fun k hk => h k (by omega)) hb.2 k hkn
    · obtain rfl : k = n := by omega
      exact hb.1

def eqD (x y : DataW Unit) : Bool := decide (textD x = textD y)
theorem entry_val {es : List (Lit × DataW Unit)} (hp : es.Pairwise (fun p q => p.1 ≠ q.1)) {p : Lit × DataW Unit} {k : Int} (hm : p ∈ es) (e : p.1 = .int .i64 k) : valD (.map es) k = some (textD p.2) := by
  have h1 : has (.map es : DataW Unit) (.int .i64 k) = true := List.any_eq_true.2 ⟨p, hm, by rw [e]; exact WideAt.sameKey_self trivial⟩
  unfold valD
  rw [if_pos h1, WideAt.atKey_mem (.lit (.string [])) (k := .int .i64 k) trivial hp (d := p.2) (by rw [← e]; exact hm)]
theorem alike_iff {D E : DataW Unit} (hD : TextMap D) (hE : TextMap E) (gD : GoodMap D) (gE : GoodMap E) : Lib.equalFuncD eqD D E = true ↔ ∀ k : Nat, k < 16 → valN D k = valN E k := by
  have cD := (cnt_all hD 16).2 (fun k hk => by obtain ⟨s, hs⟩ := Option.isSome_iff_exists.1 hk; exact ⟨(gD k s hs).1, (gD k s hs).2.1⟩)
  have cE := (cnt_all hE 16).2 (fun k hk => by obtain ⟨s, hs⟩ := Option.isSome_iff_exists.1 hk; exact ⟨(gE k s hs).1, (gE k s hs).2.1⟩)
  have good : ∀ (k : Int) (p : Lit × DataW Unit), p.1 = .int .i64 k → Lib.goodD eqD E p = true → valD E k = some (textD p.2) := by
    intro k p hpk hg
    unfold Lib.goodD at hg
    rw [hpk, Bool.and_eq_true] at hg
    unfold valD
    rw [if_pos hg.1, ← of_decide_eq_true (show decide (textD p.2 = textD (E.atKey (.int .i64 k) .nil)) = true from hg.2) |> fun e => e.trans (congrArg textD (atKey_indep hg.1 .nil (.lit (.string []))))]
  unfold Lib.equalFuncD
  rw [Bool.and_eq_true, decide_eq_true_eq]
  constructor
  · rintro ⟨hs, ha⟩
    have sub : ∀ (k : Int) s, valD D k = some s → valD E k = some s := by
      intro k s hk
      rcases hD.parts with rfl | ⟨es, rfl, hp, hkk⟩
      · cases hk
      · have h1 : has (.map es : DataW Unit) (.int .i64 k) = true := by rw [← valD_isSome, hk]; rfl
        obtain ⟨p, hpm, hps⟩ := List.any_eq_true.1 h1
        have e := WideAt.sameKey_eq hps
        have hv := entry_val hp hpm e
        rw [hk] at hv
        rw [hv]
        exact good k p e (List.all_eq_true.1 ha p hpm)
    have hall := cnt_same (D := D) (E := E) 16 (fun k _ h => by
      obtain ⟨s, hs⟩ := Option.isSome_iff_exists.1 h
      show (valD E (k : Nat)).isSome = true
      rw [sub _ s hs]; rfl) (by rw [cD, cE, hs])
    intro k hk
    have h1 := hall k hk
    cases hv : valN D k with
    | none =>
      rw [hv] at h1
      cases hw : valN E k with
      | none => rfl
      | some t => rw [hw] at h1; cases h1
    | some s => exact (sub k s hv).symm
  · intro h
    refine ⟨?_, ?_⟩
    · rw [← cD, ← cE]
      have : ∀ n, n ≤ 16 → cntD D n = cntD E n := by
        intro n
        induction n with
        | zero => intro _; rfl
        | succ n ih =>
          intro hn
          show cntD D n + _ = cntD E n + _
          rw [ih (by omega), h n (by omega)]
      exact this 16 (by omega)
    · rcases hD.parts with rfl | ⟨es, rfl, hp, hkk⟩
      · rfl
      · refine List.all_eq_true.2 fun p hpm => ?_
        obtain ⟨k, e⟩ := hkk p hpm
        have hv := entry_val hp hpm e
        have hr := gD k _ hv
        have h2 := h k.toNat (by omega)
        unfold valN at h2
        rw [Int.toNat_of_nonneg hr.1, hv] at h2
        have hh : has E (.int .i64 k) = true := by rw [← valD_isSome, ← h2]; rfl
        unfold valD at h2
        rw [if_pos hh] at h2
        injection h2 with h2
        unfold Lib.goodD
        rw [e, hh, Bool.true_and]
        show decide (textD p.2 = textD (E.atKey (.int .i64 k) .nil)) = true
        rw [decide_eq_true_eq, h2, atKey_indep hh .nil (.lit (.string []))]
end Go.Proofs.YtnemiobgmdpnmagGreatFmt
namespace Go.Proofs.YtnemiobgmdpnmagGreatFmt
open Go Go.RowKit Go.Maps

abbrev EntB := Int × ByteArray
def numB (k : Int) : ByteArray := ⟨(Lib.itoa k).toArray⟩
def textE (e : EntB) : ByteArray := numB e.1 ++ ⟨#[32]⟩ ++ e.2
def textsE (l : List EntB) : List ByteArray := l.map textE

theorem numB_data (k : Int) : (numB k).data.toList = Lib.itoa k := by simp [numB]
theorem numB_nat (n : Nat) : numB (n : Int) = itoaB n := rfl
theorem numB_size {k : Int} (h0 : -9223372036854775808 ≤ k) (h1 : k ≤ 9223372036854775807) : (numB k).size ≤ 21 := by
  rw [ba_size, numB_data]
  exact Lib.itoa_length_le k h0 h1
theorem textE_data (e : EntB) : (textE e).data.toList = Lib.itoa e.1 ++ 32 :: e.2.data.toList := by
  unfold textE
  rw [ba_app, ba_app, numB_data]
  simp
theorem textE_size (e : EntB) : (textE e).size = (numB e.1).size + 1 + e.2.size := by
  rw [ba_size, textE_data, ba_size, numB_data, ba_size]
  simp
  omega

/- An entry comes back out of its text. -/
theorem cut_blank : ∀ (d d' r r' : List UInt8), (∀ c ∈ d, c ≠ 32) → (∀ c ∈ d', c ≠ 32) → d ++ 32 :: r = d' ++ 32 :: r' → d = d' ∧ r = r'
  | [], [], r, r', _, _, h => by simpa using h
  | [], c :: d', r, r', _, h2, h => by
    injection h with h _
    exact absurd h.symm (h2 c (by simp))
  | c :: d, [], r, r', h1, _, h => by
    injection h with h _
    exact absurd h (h1 c (by simp))
  | c :: d, c' :: d', r, r', h1, h2, h => by
    injection h with h3 h4
    obtain ⟨e1, e2⟩ := cut_blank d d' r r' (fun x hx => h1 x (by simp [hx])) (fun x hx => h2 x (by simp [hx])) h4
    exact ⟨by rw [h3, e1], e2⟩
theorem decDigits_no32 (u : Nat) : ∀ c ∈ Lib.decDigits u, c ≠ 32 := by
  intro c hc h
  have := (decDigits_digit u c hc).1
  rw [h] at this
  exact absurd this (by decide)
def GoodEnt (e : EntB) : Prop := 0 ≤ e.1 ∧ e.1 < 16 ∧ e.2.size ≤ 12
theorem textE_inj {e f : EntB} (he : GoodEnt e) (hf : GoodEnt f) (h : textE e = textE f) : e = f := by
  obtain ⟨k, v⟩ := e
  obtain ⟨j, u⟩ := f
  obtain ⟨a1, a2, _⟩ := he
  obtain ⟨b1, b2, _⟩ := hf
  simp only at a1 a2 b1 b2
  obtain ⟨k, rfl⟩ : ∃ n : Nat, k = n := ⟨k.toNat, by omega⟩
  obtain ⟨j, rfl⟩ : ∃ n : Nat, j = n := ⟨j.toNat, by omega⟩
  have h' : (textE ((k : Int), v)).data.toList = (textE ((j : Int), u)).data.toList := by rw [h]
  rw [textE_data, textE_data] at h'
  simp only [Lib.itoa_nonneg] at h'
  obtain ⟨e1, e2⟩ := cut_blank _ _ _ _ (decDigits_no32 k) (decDigits_no32 j) h'
  have n1 := numOf_digits k (by omega)
  rw [e1, numOf_digits j (by omega)] at n1
  injection n1 with n1
  rw [n1, ba_ext e2]
theorem textsE_inj : ∀ {l m : List EntB}, (∀ e ∈ l, GoodEnt e) → (∀ e ∈ m, GoodEnt e) → textsE l = textsE m → l = m
  | [], [], _, _, _ => rfl
  | [], _ :: _, _, _, h => by cases h
  | _ :: _, [], _, _, h => by cases h
  | e :: l, f :: m, h1, h2, h => by
    injection h with h3 h4
    rw [textE_inj (h1 e (by simp)) (h2 f (by simp)) h3, textsE_inj (fun x hx => h1 x (by simp [hx])) (fun x hx => h2 x (by simp [hx])) h4]

/- Check. -/
def entryE (e : EntB) : Int := if e.1 < 0 ∨ 16 ≤ e.1 then 5 else if 12 < e.2.size then 2 else 0
def firstE : List EntB → Int
  | [] => 0
  | e :: l => if entryE e = 0 then firstE l else entryE e
def bookE (l : List EntB) : Int := if 24 < l.length then 2 else firstE l
def GoodBook (l : List EntB) : Prop := l.length ≤ 24 ∧ ∀ e ∈ l, GoodEnt e
theorem entry_who {e : EntB} (h : e.1 < 0 ∨ 16 ≤ e.1) : entryE e = 5 := by unfold entryE; rw [if_pos h]
theorem entry_many {e : EntB} (h : ¬ (e.1 < 0 ∨ 16 ≤ e.1)) (h2 : 12 < e.2.size) : entryE e = 2 := by unfold entryE; rw [if_neg h, if_pos h2]
theorem entry_ok {e : EntB} (h : ¬ (e.1 < 0 ∨ 16 ≤ e.1)) (h2 : ¬ 12 < e.2.size) : entryE e = 0 := by unfold entryE; rw [if_neg h, if_neg h2]
theorem entry_iff (e : EntB) : entryE e = 0 ↔ GoodEnt e := by
  unfold GoodEnt
  by_cases h : e.1 < 0 ∨ 16 ≤ e.1
  · rw [entry_who h]; constructor
    · intro h; cases h
    · intro h; omega
  · by_cases h2 : 12 < e.2.size
    · rw [entry_many h h2]; constructor
      · intro h; cases h
      · intro h; omega
    · rw [entry_ok h h2]; constructor
      · intro _; omega
      · intro _; rfl
theorem entry_cases (e : EntB) : entryE e = 0 ∨ entryE e = 5 ∨ entryE e = 2 := by
  unfold entryE
  split
  · exact .inr (.inl rfl)
  · split
    · exact .inr (.inr rfl)
    · exact .inl rfl
theorem firstE_iff : ∀ l : List EntB, firstE l = 0 ↔ ∀ e ∈ l, GoodEnt e
  | [] => by simp [firstE]
  | e :: l => by
    have ih := firstE_iff l
    by_cases h : entryE e = 0
    · simp only [firstE, if_pos h, List.mem_cons, forall_eq_or_imp, ih]
      exact ⟨fun q => ⟨(entry_iff e).1 h, q⟩, fun q => q.2⟩
    · simp only [firstE, if_neg h, List.mem_cons, forall_eq_or_imp]
      exact ⟨fun q => absurd q h, fun q => absurd ((entry_iff e).2 q.1) h⟩
theorem bookE_many {l : List EntB} (h : 24 < l.length) : bookE l = 2 := by unfold bookE; rw [if_pos h]
theorem bookE_few {l : List EntB} (h : ¬ 24 < l.length) : bookE l = firstE l := by unfold bookE; rw [if_neg h]
theorem bookE_iff (l : List EntB) : bookE l = 0 ↔ GoodBook l := by
  unfold GoodBook
  by_cases h : 24 < l.length
  · rw [bookE_many h]; constructor
    · intro h; cases h
    · intro h; omega
  · rw [bookE_few h, firstE_iff]
    exact ⟨fun q => ⟨by omega, q⟩, fun q => q.2⟩

/- Values. -/
def putE (D : DataW Unit) (e : EntB) : DataW Unit := D.put (.int .i64 e.1) (.lit (.string e.2.data.toList))
def valsD (l : List EntB) : DataW Unit := l.foldl putE (.map [])
theorem valsD_nil : valsD [] = .map [] := rfl
theorem valsD_snoc (l : List EntB) (e : EntB) : valsD (l ++ [e]) = putE (valsD l) e := by
  unfold valsD
  rw [List.foldl_append]
  rfl
theorem putE_tidy {D : DataW Unit} (h : Tidy D) (e : EntB) : Tidy (putE D e) := Tidy.put (k := .int .i64 e.1) h trivial _
theorem foldl_tidy : ∀ (l : List EntB) {D : DataW Unit}, Tidy D → Tidy (l.foldl putE D)
  | [], _, h => h
  | e :: l, _, h => foldl_tidy l (putE_tidy h e)
theorem valsD_tidy (l : List EntB) : Tidy (valsD l) := foldl_tidy l ⟨[], rfl, List.Pairwise.nil⟩
theorem isMap_of {D : DataW Unit} (h : Tidy D) : IsMap D := by
  obtain ⟨es, rfl, _⟩ := h
  exact ⟨es, rfl⟩
theorem putE_val {D : DataW Unit} (h : Tidy D) (e : EntB) (j : Int) : valD (putE D e) j = if j = e.1 then some e.2 else valD D j := valD_put (isMap_of h) j e.1 e.2
theorem putE_good {D : DataW Unit} (h : Tidy D) (hG : GoodMap D) {e : EntB} (he : GoodEnt e) : GoodMap (putE D e) := by
  intro j s hs
  rw [putE_val h] at hs
  split at hs
  · rename_i hj
    injection hs with hs
    subst hs hj
    exact he
  · exact hG j s hs
theorem foldl_good : ∀ (l : List EntB) {D : DataW Unit}, Tidy D → GoodMap D → (∀ e ∈ l, GoodEnt e) → GoodMap (l.foldl putE D)
  | [], _, _, h, _ => h
  | e :: l, _, h0, h, hl => foldl_good l (putE_tidy h0 e) (putE_good h0 h (hl e (by simp))) (fun x hx => hl x (by simp [hx]))
theorem valsD_good {l : List EntB} (h : ∀ e ∈ l, GoodEnt e) : GoodMap (valsD l) :=
  foldl_good l ⟨[], rfl, List.Pairwise.nil⟩ (fun k s hs => by rw [valD_empty] at hs; cases hs) h
theorem size_step (l : List EntB) (e : EntB) : size (valsD (l ++ [e])) = size (valsD l) ∨ size (valsD (l ++ [e])) = size (valsD l) + 1 := by
  rw [valsD_snoc]
  have := size_put (k := .int .i64 e.1) (valsD_tidy l) (.lit (.string e.2.data.toList))
  unfold putE
  rw [this]
  split
  · exact .inl rfl
  · exact .inr rfl
theorem foldl_size : ∀ (l : List EntB) {D : DataW Unit}, Tidy D → size (l.foldl putE D) ≤ size D + l.length
  | [], _, _ => Nat.le_refl _
  | e :: l, D, h => by
    have h1 := foldl_size l (putE_tidy h e)
    have h2 : size (putE D e) ≤ size D + 1 := by
      have := size_put (k := .int .i64 e.1) h (.lit (.string e.2.data.toList))
      unfold putE
      rw [this]
      split <;> omega
    show size (l.foldl putE (putE D e)) ≤ size D + (l.length + 1)
    omega
theorem valsD_size (l : List EntB) : size (valsD l) ≤ l.length := by
  have := foldl_size l (D := .map []) ⟨[], rfl, List.Pairwise.nil⟩
  have h0 : size (.map [] : DataW Unit) = 0 := rfl
  unfold valsD
  omega
theorem take_snocB {l : List EntB} {k : Nat} (h : k < l.length) : l.take (k + 1) = l.take k ++ [l.getD k (0, ByteArray.empty)] := by
  rw [List.take_add_one, List.getElem?_eq_getElem h, List.getD_eq_getElem?_getD, List.getElem?_eq_getElem h]
  rfl
theorem valsD_take {l : List EntB} {k : Nat} (h : k < l.length) : valsD (l.take (k + 1)) = putE (valsD (l.take k)) (l.getD k (0, ByteArray.empty)) := by rw [take_snocB h, valsD_snoc]

/- Small lists have a seal. -/
theorem root_small : ∀ (n : Nat) (l : List ByteArray), l.length ≤ n → l.length ≤ 24 → 0 < l.length → (∀ s ∈ l, s.size ≤ 18) → ∃ s, rootS l = some s ∧ s.size + 7 ≤ 26 * l.length
  | 0, l, h, _, h0, _ => absurd h0 (by omega)
  | n + 1, l, h, h24, h0, hs => by
    rcases Nat.lt_or_ge 1 l.length with h1 | h1
    · have a1 := halfN_lt (n := l.length) (by omega)
      have a2 := halfN_pos l.length
      have l1 : (l.take (halfN l.length)).length = halfN l.length := by rw [List.length_take]; omega
      have l2 : (l.drop (halfN l.length)).length = l.length - halfN l.length := by rw [List.length_drop]
      obtain ⟨x, hx, zx⟩ := root_small n (l.take (halfN l.length)) (by omega) (by omega) (by omega) (fun s h => hs s (List.mem_of_mem_take h))
      obtain ⟨y, hy, zy⟩ := root_small n (l.drop (halfN l.length)) (by omega) (by omega) (by omega) (fun s h => hs s (List.mem_of_mem_drop h))
      have hd := nDigits_le5 x.size (by omega)
      refine ⟨nodeS x y, ?_, ?_⟩
      · rw [rootS_two (by omega) h24, hx, hy, Option.bind_some, Option.bind_some]
        unfold nodeO
        rw [if_pos (by omega)]
      · rw [nodeS_size]; omega
    · have e1 : l.length = 1 := by omega
      have hm : l.getD 0 ByteArray.empty ∈ l := by
        rw [List.getD_eq_getElem?_getD, List.getElem?_eq_getElem h0, Option.getD_some]
        exact List.getElem_mem _
      have := hs _ hm
      refine ⟨leafS (l.getD 0 ByteArray.empty), ?_, ?_⟩
      · rw [rootS_one e1]
        unfold leafO
        rw [if_pos (by omega)]
      · rw [leafS_size]; omega
theorem text_small {e : EntB} (h : GoodEnt e) : (textE e).size ≤ 18 := by
  obtain ⟨h1, h2, h3⟩ := h
  rw [textE_size]
  obtain ⟨k, hk⟩ : ∃ n : Nat, e.1 = n := ⟨e.1.toNat, by omega⟩
  have := itoaB_le5 k (by omega)
  rw [hk, numB_nat]
  omega
theorem book_root {l : List EntB} (h : GoodBook l) : ∃ s, rootS (textsE l) = some s ∧ s.size ≤ 624 := by
  have hl : (textsE l).length = l.length := by simp [textsE]
  rcases Nat.eq_zero_or_pos l.length with h0 | h0
  · obtain rfl := List.length_eq_zero_iff.1 h0
    exact ⟨noneS, rootS_nil, by decide⟩
  · obtain ⟨s, h1, h2⟩ := root_small 24 (textsE l) (by have := h.1; omega) (by have := h.1; omega) (by omega) (fun s hs => by
      obtain ⟨e, he, rfl⟩ := List.mem_map.1 hs
      exact text_small (h.2 e he))
    refine ⟨s, h1, ?_⟩
    have := h.1
    omega

/- Head. -/
def headLog (l : List EntB) : ByteArray := rootV (textsE l)
def headMap (l : List EntB) : ByteArray := trieT (valN (valsD l)) 4 0
theorem headLog_root {l : List EntB} (h : GoodBook l) : rootS (textsE l) = some (headLog l) := by
  obtain ⟨s, hs, _⟩ := book_root h
  unfold headLog
  rw [(root_pos hs).1, hs]
theorem headLog_size {l : List EntB} (h : GoodBook l) : (headLog l).size ≤ 624 := by
  obtain ⟨s, hs, hz⟩ := book_root h
  unfold headLog
  rw [(root_pos hs).1]
  exact hz
theorem headMap_size {l : List EntB} (h : GoodBook l) : (headMap l).size ≤ 313 := trieT_313 (valsD_good h.2).short 0 (Nat.le_refl _)
theorem headLog_inj {l m : List EntB} (hl : GoodBook l) (hm : GoodBook m) (h : headLog l = headLog m) : l = m :=
  textsE_inj hl.2 hm.2 ((rootS_eq (headLog_root hl) (headLog_root hm)).1 h)
def entAt (l : List EntB) (i : Nat) : EntB := l.getD i (0, ByteArray.empty)
theorem texts_getD (l : List EntB) (k : Nat) (h : k < l.length) : (textsE l).getD k ByteArray.empty = textE (entAt l k) := by
  unfold textsE entAt
  simp [List.getD_eq_getElem?_getD, List.getElem?_eq_getElem h]
theorem textsE_len (l : List EntB) : (textsE l).length = l.length := by simp [textsE]
end Go.Proofs.YtnemiobgmdpnmagGreatFmt
namespace Go.Proofs.YtnemiobgmdpnmagGreatFmt
open Go Go.RowKit Go.Maps

theorem root_alike {f g : Nat → Option ByteArray} (hf : Short f) (hg : Short g) : trieT f 4 0 = trieT g 4 0 ↔ ∀ k, k < 16 → f k = g k :=
  ⟨fun h k hk => trieT_inj hf hg 4 0 (Nat.le_refl _) h k (by omega) (by omega), fun h => trieT_congr 4 0 (fun k _ hk => h k (by omega))⟩
theorem path_other {f g : Nat → Option ByteArray} : ∀ (n h k : Nat), (∀ j, ¬ (k * 2 ^ h ≤ j ∧ j < (k + 1) * 2 ^ h) → f j = g j) → pathT f h k n = pathT g h k n
  | 0, _, _, _ => rfl
  | n + 1, h, k, hj => by
    show trieT f h (sibN k) :: pathT f (h + 1) (k / 2) n = trieT g h (sibN k) :: pathT g (h + 1) (k / 2) n
    have hp : (2 : Nat) ^ (h + 1) = 2 * 2 ^ h := by rw [Nat.pow_succ, Nat.mul_comm]
    have hpos : 0 < (2 : Nat) ^ h := Nat.pos_of_ne_zero (by simp)
    congr 1
    · refine trieT_congr h (sibN k) fun i h1 h2 => hj i fun ⟨h3, h4⟩ => ?_
      have a1 : sibN k < k + 1 := Nat.lt_of_mul_lt_mul_right (Nat.lt_of_le_of_lt h1 h4)
      have a2 : k < sibN k + 1 := Nat.lt_of_mul_lt_mul_right (Nat.lt_of_le_of_lt h3 h2)
      unfold sibN at a1 a2
      by_cases hk2 : k % 2 = 0
      · rw [if_pos hk2] at a1 a2; omega
      · rw [if_neg hk2] at a1 a2; omega
    · refine path_other n (h + 1) (k / 2) fun i hi => hj i fun ⟨h3, h4⟩ => hi ?_
      rw [hp]
      have e1 : k / 2 * (2 * 2 ^ h) ≤ k * 2 ^ h := by
        rw [← Nat.mul_assoc]; exact Nat.mul_le_mul_right _ (by omega)
      have e2 : (k + 1) * 2 ^ h ≤ (k / 2 + 1) * (2 * 2 ^ h) := by
        rw [← Nat.mul_assoc]; exact Nat.mul_le_mul_right _ (by omega)
      omega
theorem path_same {D E : DataW Unit} {k : Nat} {s : ByteArray} (hE : ∀ j : Int, valD E j = if j = (k : Int) then some s else valD D j) : pathT (valN E) 0 k 4 = pathT (valN D) 0 k 4 := by
  refine path_other 4 0 k fun j hj => ?_
  show valD E (j : Int) = valD D (j : Int)
  rw [hE, if_neg (by simp only [Nat.pow_zero, Nat.mul_one] at hj; omega)]

theorem copy_put {D X : DataW Unit} (hx : ∀ j, valD X j = valD D j) (hm : IsMap X) (k : Int) (s : ByteArray) (j : Int) : valD (X.put (.int .i64 k) (.lit (.string s.data.toList))) j = if j = k then some s else valD D j := by
  rw [valD_put hm, hx]
theorem put_good {D E : DataW Unit} (hG : GoodMap D) {k : Nat} (hk : k < 16) {s : ByteArray} (hs : s.size ≤ 12) (hE : ∀ j : Int, valD E j = if j = (k : Int) then some s else valD D j) : GoodMap E := by
  intro j t h
  rw [hE] at h
  split at h
  · rename_i hj
    injection h with h
    subst h
    exact ⟨by omega, by omega, hs⟩
  · exact hG j t h
theorem put_root {D E : DataW Unit} (hG : GoodMap D) (gE : GoodMap E) {k : Nat} (hk : k < 16) {s : ByteArray} (hE : ∀ j : Int, valD E j = if j = (k : Int) then some s else valD D j) :
    trieT (valN D) 4 0 = trieT (valN E) 4 0 ↔ ((valD D k).isSome = true ∧ valS D k = s) := by
  rw [root_alike hG.short gE.short]
  constructor
  · intro h
    have h1 : valD D (k : Int) = valD E (k : Int) := h k hk
    rw [hE, if_pos rfl] at h1
    exact ⟨by rw [h1]; rfl, valD_some h1⟩
  · rintro ⟨h1, h2⟩ j hj
    obtain ⟨t, ht⟩ := Option.isSome_iff_exists.1 h1
    rw [valD_some ht] at h2
    show valD D (j : Int) = valD E (j : Int)
    rw [hE]
    by_cases e : (j : Int) = (k : Int)
    · rw [if_pos e, e, ht, h2]
    · rw [if_neg e]
theorem agree_vals {X D : DataW Unit} {left : Lit → Bool} (hA : Agree X D left) (hl : ∀ k, left k = false) (j : Int) : valD X j = valD D j := by
  have h1 : has X (.int .i64 j) = has D (.int .i64 j) := by rw [hA.1, hl]; simp
  unfold valD
  rw [h1]
  cases hh : has D (.int .i64 j)
  · rfl
  · rw [if_pos rfl, if_pos rfl, hA.2 _ _ (by rw [h1, hh])]
end Go.Proofs.YtnemiobgmdpnmagGreatFmt
namespace Go.Proofs.YtnemiobgmdpnmagGreatFmt
open Go Go.RowKit Go.Maps

/- A head is followed: the client's number and seals, the new one's, and what is shown. -/
abbrev goodF (cn : Int) (ca cb : ByteArray) (hn : Int) (ha hb : ByteArray) (l : List ByteArray) : Prop :=
  if cn = 0 then l = [] else growE ca cn ha hn l = 0 ∧ (hn = cn → hb = cb)
def followE (cn : Int) (ca cb : ByteArray) (hn : Int) (ha hb : ByteArray) (l : List ByteArray) : Int :=
  if headE cn ca cb ≠ 0 then headE cn ca cb
  else if headE hn ha hb ≠ 0 then headE hn ha hb
  else if hn < cn then 6
  else if goodF cn ca cb hn ha hb l then 0 else 7

theorem good_take {l : List EntB} (h : GoodBook l) (n : Nat) : GoodBook (l.take n) :=
  ⟨by rw [List.length_take]; have := h.1; omega, fun e he => h.2 e (List.mem_of_mem_take he)⟩
theorem good_drop {l : List EntB} (h : GoodBook l) (n : Nat) : GoodBook (l.drop n) :=
  ⟨by rw [List.length_drop]; have := h.1; omega, fun e he => h.2 e (List.mem_of_mem_drop he)⟩
theorem textsE_take (l : List EntB) (n : Nat) : textsE (l.take n) = (textsE l).take n := by simp [textsE, List.map_take]
theorem head_good {l : List EntB} (h : GoodBook l) : headE (l.length : Int) (headLog l) (headMap l) = 0 := by
  have h1 := headLog_size h
  have h2 := headMap_size h
  have h3 := h.1
  exact (headE_iff _ _ _).2 ⟨by omega, by omega, by omega, by omega⟩

/- What is shown of two books' heads: just that one begins with the other. -/
theorem grown_iff {b o : List EntB} (hb : GoodBook b) (ho : GoodBook o) (x : List ByteArray) (h1 : 1 ≤ b.length) (hle : b.length ≤ o.length) :
    growE (headLog b) (b.length : Int) (headLog o) (o.length : Int) x = 0 ↔ b = o.take b.length ∧ x = growS (textsE o) b.length true := by
  have hg := grow_iff (l := textsE o) (m := b.length) (headLog b) x h1 (by rw [textsE_len]; exact hle) (headLog_root ho)
  rw [textsE_len] at hg
  rw [hg]
  refine and_congr ?_ Iff.rfl
  rw [← textsE_take]
  constructor
  · intro h
    refine headLog_inj hb (good_take ho _) ?_
    exact h
  · intro h
    show headLog b = headLog (o.take b.length)
    rw [← h]
theorem grown_range {a r : ByteArray} {m n : Int} {x : List ByteArray} (h : n < m) : growE a m r n x = 3 := by
  unfold growE
  rw [if_pos (.inr (.inl h))]
theorem follow_true {b o : List EntB} (hb : GoodBook b) (ho : GoodBook o) {x : List ByteArray} (h1 : 1 ≤ b.length)
    (h : followE (b.length : Int) (headLog b) (headMap b) (o.length : Int) (headLog o) (headMap o) x = 0) : b.length ≤ o.length ∧ b = o.take b.length := by
  unfold followE at h
  rw [if_neg (fun hh => hh (head_good hb)), if_neg (fun hh => hh (head_good ho))] at h
  by_cases hlt : (o.length : Int) < (b.length : Int)
  · rw [if_pos hlt] at h; cases h
  rw [if_neg hlt] at h
  by_cases hg : goodF (b.length : Int) (headLog b) (headMap b) (o.length : Int) (headLog o) (headMap o) x
  · unfold goodF at hg
    rw [if_neg (by omega)] at hg
    exact ⟨by omega, ((grown_iff hb ho x h1 (by omega)).1 hg.1).1⟩
  · rw [if_neg hg] at h; cases h
/- Who is shown how a book went on follows. -/
def nextS (b : List EntB) (m n : Nat) : List ByteArray := if m = 0 then [] else growS (textsE (b.take n)) m true
theorem follow_on {b : List EntB} (hb : GoodBook b) {m n : Nat} (hmn : m ≤ n) (hn : n ≤ b.length) :
    goodF (m : Int) (headLog (b.take m)) (headMap (b.take m)) (n : Int) (headLog (b.take n)) (headMap (b.take n)) (nextS b m n) := by
  unfold goodF nextS
  rcases Nat.eq_zero_or_pos m with h0 | h0
  · rw [if_pos (by omega), if_pos h0]
  · have e1 : (b.take m).length = m := by rw [List.length_take]; omega
    have e2 : (b.take n).length = n := by rw [List.length_take]; omega
    rw [if_neg (by omega), if_neg (by omega)]
    refine ⟨?_, fun e => by rw [show n = m by omega]⟩
    have h := (grown_iff (good_take hb m) (good_take hb n) (growS (textsE (b.take n)) m true) (by omega) (by omega)).2 ⟨by rw [e1, List.take_take, Nat.min_eq_left hmn], by rw [e1]⟩
    rw [e1, e2] at h
    exact h
/- What is seen, what is found. -/
theorem sees_true {b : List EntB} (hb : GoodBook b) {i : Int} {t : ByteArray} {s : List StepB} (h : showE (headLog b) (b.length : Int) i t s = 0) :
    0 ≤ i ∧ i < (b.length : Int) ∧ t = textE (entAt b i.toNat) ∧ s = pathS (textsE b) i.toNat := by
  have hi : 0 ≤ i ∧ i < (b.length : Int) := by
    unfold showE at h
    split at h
    · cases h
    · split at h
      · cases h
      · omega
  obtain ⟨j, rfl⟩ : ∃ j : Nat, i = (j : Int) := ⟨i.toNat, by omega⟩
  have h' := (show_iff (l := textsE b) j t s (by rw [textsE_len]; omega) (headLog_root hb)).1 (by rw [textsE_len]; exact h)
  refine ⟨hi.1, hi.2, ?_, ?_⟩
  · rw [h'.1, Int.toNat_natCast]
    exact texts_getD b j (by omega)
  · rw [h'.2, Int.toNat_natCast]
theorem finds_true {b : List EntB} (hb : GoodBook b) {k : Int} {v : ByteArray} {t : Bool} {x : List ByteArray} (h : trieE (headMap b) k v t x = 0) :
    0 ≤ k ∧ k < 16 ∧ t = (valD (valsD b) k).isSome ∧ v = valS (valsD b) k := by
  have hk : 0 ≤ k ∧ k < 16 := by
    unfold trieE at h
    split at h
    · cases h
    · omega
  obtain ⟨j, rfl⟩ : ∃ j : Nat, k = (j : Int) := ⟨k.toNat, by omega⟩
  obtain ⟨h1, h2, _⟩ := (trie_iff (valsD_good hb.2).short j (by omega) v t x).1 h
  refine ⟨hk.1, hk.2, ?_⟩
  have h1 : (if t then some v else none) = valD (valsD b) (j : Int) := h1
  unfold valS
  rw [← h1]
  cases t
  · refine ⟨rfl, ?_⟩
    have hz := h2 rfl
    have : v.data = #[] := Array.eq_empty_of_size_eq_zero hz
    cases v
    simp only at this
    subst this
    rfl
  · exact ⟨rfl, rfl⟩
/- What is put changes one value: what is shown of it is so where it was so. -/
theorem put_path (b : List EntB) (e : EntB) {k : Nat} (hk : e.1 = (k : Int)) : pathT (valN (valsD (b ++ [e]))) 0 k 4 = pathT (valN (valsD b)) 0 k 4 := by
  refine path_same (s := e.2) fun j => ?_
  rw [valsD_snoc, putE_val (valsD_tidy b), hk]
theorem put_asks {b : List EntB} (hb : GoodBook b) (e : EntB) {k : Nat} (hk : e.1 = (k : Int)) (h16 : k < 16) :
    trieE (headMap b) (k : Int) e.2 true (pathT (valN (valsD (b ++ [e]))) 0 k 4) = 0 ↔ valD (valsD b) (k : Int) = some e.2 := by
  rw [put_path b e hk]
  refine (trie_iff (valsD_good hb.2).short k h16 e.2 true _).trans ?_
  constructor
  · rintro ⟨h, _, _⟩; exact h.symm
  · intro h; exact ⟨h.symm, (fun h => by cases h), rfl⟩

/- The client behind it; what it answers of an entry, of a value. -/
def folN (cn : Int) (ca cb : ByteArray) (hn : Int) (ha hb : ByteArray) (l : List ByteArray) : Int :=
  if followE cn ca cb hn ha hb l = 0 then hn else if followE cn ca cb hn ha hb l = 7 then cn else 0
def folA (cn : Int) (ca cb : ByteArray) (hn : Int) (ha hb : ByteArray) (l : List ByteArray) : ByteArray :=
  if followE cn ca cb hn ha hb l = 0 then ha else if followE cn ca cb hn ha hb l = 7 then ca else ⟨#[]⟩
def folB (cn : Int) (ca cb : ByteArray) (hn : Int) (ha hb : ByteArray) (l : List ByteArray) : ByteArray :=
  if followE cn ca cb hn ha hb l = 0 then hb else if followE cn ca cb hn ha hb l = 7 then cb else ⟨#[]⟩
def folF (cn : Int) (ca cb : ByteArray) (cf : Bool) (hn : Int) (ha hb : ByteArray) (l : List ByteArray) : Bool :=
  if followE cn ca cb hn ha hb l = 0 then cf else if followE cn ca cb hn ha hb l = 7 then true else false
def seesE (cn : Int) (ca cb : ByteArray) (i : Int) (t : ByteArray) (s : List StepB) : Int :=
  if headE cn ca cb ≠ 0 then headE cn ca cb else showE ca cn i t s
def findsE (cn : Int) (ca cb : ByteArray) (k : Int) (v : ByteArray) (t : Bool) (l : List ByteArray) : Int :=
  if headE cn ca cb ≠ 0 then headE cn ca cb else trieE cb k v t l
theorem headE_or (n : Int) (a b : ByteArray) : headE n a b = 0 ∨ headE n a b = 2 ∨ headE n a b = 3 := by
  unfold headE
  split
  · exact .inr (.inr rfl)
  · split
    · exact .inr (.inl rfl)
    · exact .inl rfl
theorem follow_c {cn : Int} {ca cb : ByteArray} {hn : Int} {ha hb : ByteArray} {l : List ByteArray} {z : Int} (h : headE cn ca cb = z) (h0 : z ≠ 0) : followE cn ca cb hn ha hb l = z := by
  subst h; unfold followE; rw [if_pos h0]
theorem follow_h {cn : Int} {ca cb : ByteArray} {hn : Int} {ha hb : ByteArray} {l : List ByteArray} {z : Int} (hc : headE cn ca cb = 0) (h : headE hn ha hb = z) (h0 : z ≠ 0) : followE cn ca cb hn ha hb l = z := by
  subst h; unfold followE; rw [if_neg (fun hh => hh hc), if_pos h0]
theorem follow_late {cn : Int} {ca cb : ByteArray} {hn : Int} {ha hb : ByteArray} {l : List ByteArray} (hc : headE cn ca cb = 0) (h : headE hn ha hb = 0) (hl : hn < cn) : followE cn ca cb hn ha hb l = 6 := by
  unfold followE; rw [if_neg (fun hh => hh hc), if_neg (fun hh => hh h), if_pos hl]
theorem follow_yes {cn : Int} {ca cb : ByteArray} {hn : Int} {ha hb : ByteArray} {l : List ByteArray} (hc : headE cn ca cb = 0) (h : headE hn ha hb = 0) (hl : ¬ hn < cn) (hg : goodF cn ca cb hn ha hb l) : followE cn ca cb hn ha hb l = 0 := by
  unfold followE; rw [if_neg (fun hh => hh hc), if_neg (fun hh => hh h), if_neg hl, if_pos hg]
theorem follow_no {cn : Int} {ca cb : ByteArray} {hn : Int} {ha hb : ByteArray} {l : List ByteArray} (hc : headE cn ca cb = 0) (h : headE hn ha hb = 0) (hl : ¬ hn < cn) (hg : ¬ goodF cn ca cb hn ha hb l) : followE cn ca cb hn ha hb l = 7 := by
  unfold followE; rw [if_neg (fun hh => hh hc), if_neg (fun hh => hh h), if_neg hl, if_neg hg]
/- What Follow answers, by its error. -/
theorem fol_zero {cn : Int} {ca cb : ByteArray} {cf : Bool} {hn : Int} {ha hb : ByteArray} {l : List ByteArray} (h : followE cn ca cb hn ha hb l = 0) :
    folN cn ca cb hn ha hb l = hn ∧ folA cn ca cb hn ha hb l = ha ∧ folB cn ca cb hn ha hb l = hb ∧ folF cn ca cb cf hn ha hb l = cf := ⟨if_pos h, if_pos h, if_pos h, if_pos h⟩
theorem fol_seven {cn : Int} {ca cb : ByteArray} {cf : Bool} {hn : Int} {ha hb : ByteArray} {l : List ByteArray} (h : followE cn ca cb hn ha hb l = 7) :
    folN cn ca cb hn ha hb l = cn ∧ folA cn ca cb hn ha hb l = ca ∧ folB cn ca cb hn ha hb l = cb ∧ folF cn ca cb cf hn ha hb l = true := by
  have h0 : ¬ followE cn ca cb hn ha hb l = 0 := by omega
  exact ⟨(if_neg h0).trans (if_pos h), (if_neg h0).trans (if_pos h), (if_neg h0).trans (if_pos h), (if_neg h0).trans (if_pos h)⟩
theorem fol_bad {cn : Int} {ca cb : ByteArray} {cf : Bool} {hn : Int} {ha hb : ByteArray} {l : List ByteArray} {z : Int} (h : followE cn ca cb hn ha hb l = z) (h0 : z ≠ 0) (h7 : z ≠ 7) :
    folN cn ca cb hn ha hb l = 0 ∧ folA cn ca cb hn ha hb l = ⟨#[]⟩ ∧ folB cn ca cb hn ha hb l = ⟨#[]⟩ ∧ folF cn ca cb cf hn ha hb l = false := by
  have h0 : ¬ followE cn ca cb hn ha hb l = 0 := by omega
  have h7 : ¬ followE cn ca cb hn ha hb l = 7 := by omega
  exact ⟨(if_neg h0).trans (if_neg h7), (if_neg h0).trans (if_neg h7), (if_neg h0).trans (if_neg h7), (if_neg h0).trans (if_neg h7)⟩
/- What a book shows its own head agrees with. -/
theorem asks_value {l : List EntB} (hG : GoodBook l) {k : Nat} (hk : k < 16) : findsE (l.length : Int) (headLog l) (headMap l) (k : Int) (valS (valsD l) (k : Int)) (valD (valsD l) (k : Int)).isSome (pathT (valN (valsD l)) 0 k 4) = 0 := by
  unfold findsE
  rw [if_neg (fun h => h (head_good hG))]
  refine (trie_iff (valsD_good hG.2).short k hk _ _ _).2 ⟨?_, ?_, rfl⟩
  · show _ = valD (valsD l) (k : Int)
    unfold valS
    cases valD (valsD l) (k : Int) <;> rfl
  · unfold valS
    cases valD (valsD l) (k : Int)
    · intro _; rfl
    · intro h; cases h
theorem asks_entry {l : List EntB} (hG : GoodBook l) {i : Nat} (hi : i < l.length) : seesE (l.length : Int) (headLog l) (headMap l) (i : Int) (textE (entAt l i)) (pathS (textsE l) i) = 0 := by
  unfold seesE
  rw [if_neg (fun h => h (head_good hG))]
  have h := (show_iff (l := textsE l) i (textE (entAt l i)) (pathS (textsE l) i) (by rw [textsE_len]; exact hi) (headLog_root hG)).2 ⟨(texts_getD l i hi).symm, rfl⟩
  rw [textsE_len] at h
  exact h
theorem asks_put {l : List EntB} (hG : GoodBook l) (e : EntB) {k : Nat} (hk : e.1 = (k : Int)) (h16 : k < 16) :
    findsE (l.length : Int) (headLog l) (headMap l) (k : Int) e.2 true (pathT (valN (valsD (l ++ [e]))) 0 k 4) = 0 ↔ valD (valsD l) (k : Int) = some e.2 := by
  unfold findsE
  rw [if_neg (fun h => h (head_good hG))]
  exact put_asks hG e hk h16
end Go.Proofs.YtnemiobgmdpnmagGreatFmt
namespace Go.Proofs.YtnemiobgmdpnmagGreatFmt
open Go Go.RowKit Go.Maps

/- The one with less entries first. -/
def pairE (ln : Int) (la lb : ByteArray) (hn : Int) (ha hb : ByteArray) (l : List ByteArray) : Int :=
  if ln = 0 then (if l = [] then 0 else 7) else if hn = ln ∧ hb ≠ lb then 7 else growE la ln ha hn l
def meetE (an : Int) (aa ab : ByteArray) (bn : Int) (ba bb : ByteArray) (l : List ByteArray) : Int :=
  if headE an aa ab ≠ 0 then headE an aa ab else if headE bn ba bb ≠ 0 then headE bn ba bb
  else if bn < an then pairE bn ba bb an aa ab l else pairE an aa ab bn ba bb l
theorem meet_a {an : Int} {aa ab : ByteArray} {bn : Int} {ba bb : ByteArray} {l : List ByteArray} (h : headE an aa ab ≠ 0) : meetE an aa ab bn ba bb l = headE an aa ab := by
  unfold meetE; rw [if_pos h]
theorem meet_b {an : Int} {aa ab : ByteArray} {bn : Int} {ba bb : ByteArray} {l : List ByteArray} (ha : headE an aa ab = 0) (h : headE bn ba bb ≠ 0) : meetE an aa ab bn ba bb l = headE bn ba bb := by
  unfold meetE; rw [if_neg (fun hh => hh ha), if_pos h]
theorem meet_less {an : Int} {aa ab : ByteArray} {bn : Int} {ba bb : ByteArray} {l : List ByteArray} (ha : headE an aa ab = 0) (hb : headE bn ba bb = 0) (h : bn < an) : meetE an aa ab bn ba bb l = pairE bn ba bb an aa ab l := by
  unfold meetE; rw [if_neg (fun hh => hh ha), if_neg (fun hh => hh hb), if_pos h]
theorem meet_more {an : Int} {aa ab : ByteArray} {bn : Int} {ba bb : ByteArray} {l : List ByteArray} (ha : headE an aa ab = 0) (hb : headE bn ba bb = 0) (h : ¬ bn < an) : meetE an aa ab bn ba bb l = pairE an aa ab bn ba bb l := by
  unfold meetE; rw [if_neg (fun hh => hh ha), if_neg (fun hh => hh hb), if_neg h]

/- Heads of books that parted are never shown to be of one. -/
theorem pair_true {b o : List EntB} (hb : GoodBook b) (ho : GoodBook o) {x : List ByteArray} (hle : b.length ≤ o.length)
    (h : pairE (b.length : Int) (headLog b) (headMap b) (o.length : Int) (headLog o) (headMap o) x = 0) : b = o.take b.length := by
  unfold pairE at h
  rcases Nat.eq_zero_or_pos b.length with h0 | h0
  · rw [List.length_eq_zero_iff.1 h0]; rfl
  rw [if_neg (by omega)] at h
  by_cases hm : (o.length : Int) = (b.length : Int) ∧ headMap o ≠ headMap b
  · rw [if_pos hm] at h; cases h
  rw [if_neg hm] at h
  exact ((grown_iff hb ho x h0 hle).1 h).1
theorem meet_true {b o : List EntB} (hb : GoodBook b) (ho : GoodBook o) {x : List ByteArray}
    (h : meetE (b.length : Int) (headLog b) (headMap b) (o.length : Int) (headLog o) (headMap o) x = 0) {k : Nat} (hk : k = min b.length o.length) : b.take k = o.take k := by
  by_cases hlt : (o.length : Int) < (b.length : Int)
  · rw [meet_less (head_good hb) (head_good ho) hlt] at h
    have e := pair_true ho hb (by omega) h
    obtain rfl : k = o.length := by omega
    rw [List.take_of_length_le (Nat.le_refl _)]
    exact e.symm
  · rw [meet_more (head_good hb) (head_good ho) hlt] at h
    have e := pair_true hb ho (by omega) h
    obtain rfl : k = b.length := by omega
    rw [List.take_of_length_le (Nat.le_refl _)]
    exact e
/- It is the same from both sides. -/
theorem meet_both {b o : List EntB} (hb : GoodBook b) (ho : GoodBook o) (x : List ByteArray) (hne : b.length ≠ o.length) :
    meetE (o.length : Int) (headLog o) (headMap o) (b.length : Int) (headLog b) (headMap b) x = meetE (b.length : Int) (headLog b) (headMap b) (o.length : Int) (headLog o) (headMap o) x := by
  by_cases hlt : (o.length : Int) < (b.length : Int)
  · rw [meet_less (head_good hb) (head_good ho) hlt, meet_more (head_good ho) (head_good hb) (by omega)]
  · rw [meet_more (head_good hb) (head_good ho) hlt, meet_less (head_good ho) (head_good hb) (by omega)]
/- Those of one book are shown to be. -/
theorem pair_on {b : List EntB} (hb : GoodBook b) {n : Nat} (h1 : 1 ≤ n) (hn : n ≤ b.length) :
    pairE (n : Int) (headLog (b.take n)) (headMap (b.take n)) (b.length : Int) (headLog b) (headMap b) (growS (textsE b) n true) = 0 := by
  have e : (b.take n).length = n := by rw [List.length_take]; omega
  unfold pairE
  rw [if_neg (by omega), if_neg ?_]
  · have h := (grown_iff (good_take hb n) hb (growS (textsE b) n true) (by omega) (by omega)).2 ⟨by rw [e], by rw [e]⟩
    rw [e] at h
    exact h
  · rintro ⟨h, hm⟩
    apply hm
    rw [List.take_of_length_le (by omega)]
theorem meet_on {b : List EntB} (hb : GoodBook b) {n : Nat} (h1 : 1 ≤ n) (hn : n ≤ b.length) :
    meetE (n : Int) (headLog (b.take n)) (headMap (b.take n)) (b.length : Int) (headLog b) (headMap b) (growS (textsE b) n true) = 0 ∧
    meetE (b.length : Int) (headLog b) (headMap b) (n : Int) (headLog (b.take n)) (headMap (b.take n)) (growS (textsE b) n true) = 0 := by
  have e : (b.take n).length = n := by rw [List.length_take]; omega
  have hg := head_good (good_take hb n)
  rw [e] at hg
  have hp := pair_on hb h1 hn
  refine ⟨by rw [meet_more hg (head_good hb) (by omega)]; exact hp, ?_⟩
  by_cases hlt : (n : Int) < (b.length : Int)
  · rw [meet_less (head_good hb) hg hlt]; exact hp
  · rw [meet_more (head_good hb) hg hlt]
    obtain rfl : n = b.length := by omega
    rw [List.take_of_length_le (Nat.le_refl _)] at hp ⊢
    exact hp
end Go.Proofs.YtnemiobgmdpnmagGreatFmt
namespace Go.Proofs.YtnemiobgmdpnmagGreatFmt
open Go Go.RowKit Go.Maps

abbrev CliB := Int × ByteArray × ByteArray × Bool
structure WB where
  b0 : List EntB
  b1 : List EntB
  cs : List CliB
  deriving DecidableEq
structure HapB where
  kind : Int
  side : Int
  who : Int
  other : Int
  e : EntB
def zeroC : CliB := (0, ⟨#[]⟩, ⟨#[]⟩, false)
def zeroW : WB := ⟨[], [], []⟩
def newW : WB := ⟨[], [], [zeroC, zeroC, zeroC]⟩

def cliE (c : CliB) : Int := headE c.1 c.2.1 c.2.2.1
def clisE : List CliB → Int
  | [] => 0
  | c :: l => if cliE c ≠ 0 then cliE c else clisE l
theorem clisE_iff : ∀ (l : List CliB), clisE l = 0 ↔ ∀ c ∈ l, cliE c = 0
  | [] => by simp [clisE]
  | c :: l => by
    unfold clisE
    by_cases h : cliE c = 0
    · rw [if_neg (fun hh => hh h), clisE_iff l]
      simp [h]
    · rw [if_pos h]
      simp [h]
def worldE (W : WB) : Int := if bookE W.b0 ≠ 0 then bookE W.b0 else if bookE W.b1 ≠ 0 then bookE W.b1 else if W.cs.length ≠ 3 then 4 else clisE W.cs
theorem worldE_iff (W : WB) : worldE W = 0 ↔ GoodBook W.b0 ∧ GoodBook W.b1 ∧ W.cs.length = 3 ∧ ∀ c ∈ W.cs, cliE c = 0 := by
  unfold worldE
  rw [← bookE_iff, ← bookE_iff, ← clisE_iff]
  by_cases h0 : bookE W.b0 = 0
  · rw [if_neg (fun hh => hh h0)]
    by_cases h1 : bookE W.b1 = 0
    · rw [if_neg (fun hh => hh h1)]
      by_cases h2 : W.cs.length = 3
      · rw [if_neg (fun hh => hh h2)]
        simp [h0, h1, h2]
      · rw [if_pos h2]
        simp [h2]
    · rw [if_pos h1]
      simp [h1]
  · rw [if_pos h0]
    simp [h0]

def sideL (W : WB) (s : Int) : List EntB := if s = 0 then W.b0 else W.b1
def setSide (W : WB) (s : Int) (l : List EntB) : WB := if s = 0 then { W with b0 := l } else { W with b1 := l }
def cliAt (W : WB) (k : Int) : CliB := W.cs.getD k.toNat zeroC
def setCli (W : WB) (k : Int) (c : CliB) : WB := { W with cs := W.cs.set k.toNat c }
def foolC (c : CliB) : CliB := (c.1, c.2.1, c.2.2.1, true)
def growL (l : List EntB) (m : Int) : List ByteArray := if 1 ≤ m ∧ m ≤ (l.length : Int) then growS (textsE l) m.toNat true else []
def follC (c : CliB) (l : List EntB) (x : List ByteArray) : CliB :=
  (folN c.1 c.2.1 c.2.2.1 (l.length : Int) (headLog l) (headMap l) x, folA c.1 c.2.1 c.2.2.1 (l.length : Int) (headLog l) (headMap l) x,
    folB c.1 c.2.1 c.2.2.1 (l.length : Int) (headLog l) (headMap l) x, folF c.1 c.2.1 c.2.2.1 c.2.2.2 (l.length : Int) (headLog l) (headMap l) x)
def follE (c : CliB) (l : List EntB) (x : List ByteArray) : Int := followE c.1 c.2.1 c.2.2.1 (l.length : Int) (headLog l) (headMap l) x
def metE (p q : CliB) (x : List ByteArray) : Int := meetE p.1 p.2.1 p.2.2.1 q.1 q.2.1 q.2.2.1 x
/- Are two heads shown to be of one book, by nothing, or by the first entries of one of both? -/
abbrev metBy (p q : CliB) (o : List EntB) : Prop := max p.1 q.1 ≤ (o.length : Int) ∧ metE p q (growL (o.take (max p.1 q.1).toNat) (min p.1 q.1)) = 0
abbrev metP (W : WB) (p q : CliB) : Prop := metE p q [] = 0 ∨ metBy p q W.b0 ∨ metBy p q W.b1
def askE (c : CliB) (l : List EntB) (k : Int) : Int := trieE c.2.2.1 k (valS (valsD l) k) (valD (valsD l) k).isSome (pathT (valN (valsD l)) 0 k.toNat 4)
abbrev rightX (x : HapB) : Prop := 0 ≤ x.side ∧ x.side ≤ 1 ∧ 0 ≤ x.who ∧ x.who ≤ 2 ∧ 0 ≤ x.other ∧ x.other ≤ 2
def hapV (W : WB) (x : HapB) : WB × Int :=
  if ¬ (1 ≤ x.kind ∧ x.kind ≤ 5) then (zeroW, 4) else if ¬ rightX x then (zeroW, 5)
  else if x.kind = 1 then (if bookE (sideL W x.side ++ [x.e]) ≠ 0 then (zeroW, bookE (sideL W x.side ++ [x.e])) else (setSide W x.side (sideL W x.side ++ [x.e]), 0))
  else if x.kind = 2 then ({ W with b1 := W.b0 }, 0)
  else if x.kind = 3 then
    (if follE (cliAt W x.who) (sideL W x.side) (growL (sideL W x.side) (cliAt W x.who).1) ≠ 0 ∧ follE (cliAt W x.who) (sideL W x.side) (growL (sideL W x.side) (cliAt W x.who).1) ≠ 7
      then (zeroW, follE (cliAt W x.who) (sideL W x.side) (growL (sideL W x.side) (cliAt W x.who).1))
      else (setCli W x.who (follC (cliAt W x.who) (sideL W x.side) (growL (sideL W x.side) (cliAt W x.who).1)), 0))
  else if x.kind = 4 then (if metP W (cliAt W x.who) (cliAt W x.other) then (W, 0) else (setCli (setCli W x.who (foolC (cliAt W x.who))) x.other (foolC (cliAt W x.other)), 0))
  else if ¬ (0 ≤ x.e.1 ∧ x.e.1 < 16) then (zeroW, 5)
  else if askE (cliAt W x.who) (sideL W x.side) x.e.1 ≠ 0 then (zeroW, askE (cliAt W x.who) (sideL W x.side) x.e.1) else (W, 0)
def doV (W : WB) (x : HapB) : WB × Int := if worldE W ≠ 0 then (zeroW, worldE W) else hapV W x

/- One after the other: what has an error changes nothing. -/
def stepW (W : WB) (x : HapB) : WB := if (doV W x).2 = 0 then (doV W x).1 else W
def playW : WB → List HapB → WB
  | W, [] => W
  | W, x :: l => playW (stepW W x) l
def saidL : WB → List HapB → List Int
  | _, [] => []
  | W, x :: l => (doV W x).2 :: saidL (stepW W x) l
theorem playW_app : ∀ (l m : List HapB) (W : WB), playW W (l ++ m) = playW (playW W l) m
  | [], _, _ => rfl
  | x :: l, m, W => playW_app l m (stepW W x)
theorem saidL_app : ∀ (l m : List HapB) (W : WB), saidL W (l ++ m) = saidL W l ++ saidL (playW W l) m
  | [], _, _ => rfl
  | x :: l, m, W => congrArg ((doV W x).2 :: ·) (saidL_app l m (stepW W x))
theorem saidL_len : ∀ (l : List HapB) (W : WB), (saidL W l).length = l.length
  | [], _ => rfl
  | x :: l, W => congrArg (· + 1) (saidL_len l (stepW W x))
theorem playW_snoc (l : List HapB) (x : HapB) (W : WB) : playW W (l ++ [x]) = stepW (playW W l) x := playW_app l [x] W
theorem saidL_snoc (l : List HapB) (x : HapB) (W : WB) : saidL W (l ++ [x]) = saidL W l ++ [(doV (playW W l) x).2] := saidL_app l [x] W
def runE (W : WB) (l : List HapB) : Int := if worldE W ≠ 0 then worldE W else if 80 < l.length then 2 else 0
def runW (W : WB) (l : List HapB) : WB := if runE W l = 0 then playW W l else zeroW
def runS (W : WB) (l : List HapB) : List Int := if runE W l = 0 then saidL W l else []
theorem run_zero {W : WB} {l : List HapB} (h : runE W l = 0) : worldE W = 0 ∧ l.length ≤ 80 := by
  unfold runE at h
  by_cases h0 : worldE W = 0
  · rw [if_neg (fun hh => hh h0)] at h
    by_cases h1 : 80 < l.length
    · rw [if_pos h1] at h; cases h
    · exact ⟨h0, by omega⟩
  · rw [if_pos h0] at h; exact absurd h h0
theorem run_good {W : WB} {l : List HapB} (h : worldE W = 0) (h1 : l.length ≤ 80) : runE W l = 0 := by
  unfold runE
  rw [if_neg (fun hh => hh h), if_neg (by omega)]
end Go.Proofs.YtnemiobgmdpnmagGreatFmt
namespace Go.Proofs.YtnemiobgmdpnmagGreatFmt
open Go Go.RowKit

/- The two seals, and how many of the seals are left of the first j. -/
def takeJ (old : ByteArray) (x : Nat → ByteArray) (n m : Nat) (kn : Bool) (j : Nat) : Option ((ByteArray × ByteArray) × Nat) :=
  if _h : n ≤ 1 ∨ n ≤ m then
    (if kn then some ((old, old), j) else if j = 0 then none else some ((x (j - 1), x (j - 1)), j - 1))
  else if j = 0 then none
  else if m ≤ halfN n then (takeJ old x (halfN n) m kn (j - 1)).bind fun q => (nodeO q.1.2 (x (j - 1))).bind fun b => some ((q.1.1, b), q.2)
  else (takeJ old x (n - halfN n) (m - halfN n) false (j - 1)).bind fun q => (nodeO (x (j - 1)) q.1.1).bind fun a => (nodeO (x (j - 1)) q.1.2).bind fun b => some ((a, b), q.2)
termination_by n
decreasing_by
  · exact halfN_lt (by omega)
  · have := halfN_pos n; omega

theorem takeJ_known (old : ByteArray) (x : Nat → ByteArray) {n m : Nat} (h : n ≤ 1 ∨ n ≤ m) (j : Nat) : takeJ old x n m true j = some ((old, old), j) := by
  rw [takeJ, dif_pos h, if_pos rfl]
theorem takeJ_one (old : ByteArray) (x : Nat → ByteArray) {n m : Nat} (h : n ≤ 1 ∨ n ≤ m) (j : Nat) : takeJ old x n m false (j + 1) = some ((x j, x j), j) := by
  rw [takeJ, dif_pos h, if_neg (by decide), if_neg (by omega)]; rfl
theorem takeJ_want (old : ByteArray) (x : Nat → ByteArray) {n m : Nat} (h : n ≤ 1 ∨ n ≤ m) : takeJ old x n m false 0 = none := by
  rw [takeJ, dif_pos h, if_neg (by decide), if_pos rfl]
theorem takeJ_zero (old : ByteArray) (x : Nat → ByteArray) {n m : Nat} (h : 2 ≤ n) (h' : m < n) (kn : Bool) : takeJ old x n m kn 0 = none := by
  rw [takeJ, dif_neg (by omega), if_pos rfl]
theorem takeJ_low (old : ByteArray) (x : Nat → ByteArray) {n m : Nat} (h : 2 ≤ n) (h' : m < n) (hm : m ≤ halfN n) (kn : Bool) (j : Nat) :
    takeJ old x n m kn (j + 1) = (takeJ old x (halfN n) m kn j).bind fun q => (nodeO q.1.2 (x j)).bind fun b => some ((q.1.1, b), q.2) := by
  rw [takeJ, dif_neg (by omega), if_neg (by omega), if_pos hm]; rfl
theorem takeJ_high (old : ByteArray) (x : Nat → ByteArray) {n m : Nat} (h : 2 ≤ n) (h' : m < n) (hm : halfN n < m) (kn : Bool) (j : Nat) :
    takeJ old x n m kn (j + 1) = (takeJ old x (n - halfN n) (m - halfN n) false j).bind fun q => (nodeO (x j) q.1.1).bind fun a => (nodeO (x j) q.1.2).bind fun b => some ((a, b), q.2) := by
  rw [takeJ, dif_neg (by omega), if_neg (by omega), if_neg (by omega)]; rfl

def textAt (l : List ByteArray) (i : Nat) : ByteArray := l.getD i ByteArray.empty
theorem textAt_mem {l : List ByteArray} {i : Nat} (h : i < l.length) : textAt l i ∈ l := by
  unfold textAt
  rw [List.getD_eq_getElem?_getD, List.getElem?_eq_getElem h, Option.getD_some]
  exact List.getElem_mem _
theorem take_snoc {l : List ByteArray} {j : Nat} (h : j < l.length) : l.take (j + 1) = l.take j ++ [textAt l j] := by
  unfold textAt
  rw [List.take_add_one, List.getElem?_eq_getElem h, List.getD_eq_getElem?_getD, List.getElem?_eq_getElem h]
  rfl

/- Sizes, and that no more is left than there was. -/
theorem takeJ_left (old : ByteArray) (x : Nat → ByteArray) : ∀ (k n m : Nat) (kn : Bool) (j : Nat) (a b : ByteArray) (i : Nat), n ≤ k → takeJ old x n m kn j = some ((a, b), i) → i ≤ j
  | k, n, m, kn, j, a, b, i, hk, h => by
    by_cases he : n ≤ 1 ∨ n ≤ m
    · cases kn with
      | true => rw [takeJ_known old x he] at h; injection h with h; injection h with _ h; omega
      | false =>
        cases j with
        | zero => rw [takeJ_want old x he] at h; cases h
        | succ j => rw [takeJ_one old x he] at h; injection h with h; injection h with _ h; omega
    · have h2 : 2 ≤ n := by omega
      have h3 := halfN_lt h2
      have h4 := halfN_pos n
      cases j with
      | zero => rw [takeJ_zero old x h2 (by omega)] at h; cases h
      | succ j =>
        rcases Nat.lt_or_ge (halfN n) m with hh | hh
        · rw [takeJ_high old x h2 (by omega) hh] at h
          obtain ⟨⟨⟨p1, p2⟩, q⟩, hp, h⟩ := Option.bind_eq_some_iff.1 h
          obtain ⟨a', _, h⟩ := Option.bind_eq_some_iff.1 h
          obtain ⟨b', _, h⟩ := Option.bind_eq_some_iff.1 h
          injection h with h
          injection h with _ h
          have := takeJ_left old x (k - 1) _ _ _ j p1 p2 q (by omega) hp
          simp only at h
          omega
        · rw [takeJ_low old x h2 (by omega) hh] at h
          obtain ⟨⟨⟨p1, p2⟩, q⟩, hp, h⟩ := Option.bind_eq_some_iff.1 h
          obtain ⟨b', _, h⟩ := Option.bind_eq_some_iff.1 h
          injection h with h
          injection h with _ h
          have := takeJ_left old x (k - 1) _ _ _ j p1 p2 q (by omega) hp
          simp only at h
          omega
termination_by k => k
decreasing_by all_goals omega

theorem take_mk (old : ByteArray) (l : List ByteArray) : ∀ (k n m : Nat) (kn : Bool) (j : Nat), n ≤ k → j ≤ l.length →
    mkS old n m kn (l.take j) = (takeJ old (textAt l) n m kn j).bind fun q => if q.2 = 0 then some q.1 else none
  | k, n, m, kn, j, hk, hj => by
    by_cases he : n ≤ 1 ∨ n ≤ m
    · cases kn with
      | true =>
        rw [takeJ_known old _ he, mkS_known old he]
        simp only [Option.bind_some]
        by_cases h0 : j = 0
        · subst h0; rfl
        · rw [if_neg h0, if_neg]
          intro e
          have hl := congrArg List.length e
          rw [List.length_take, List.length_nil] at hl
          omega
      | false =>
        rw [mkS_unknown old he]
        cases j with
        | zero => rw [takeJ_want old _ he]; rfl
        | succ j =>
          rw [takeJ_one old _ he]
          simp only [Option.bind_some]
          unfold oneS
          by_cases h0 : j = 0
          · subst h0
            rw [if_pos (by rw [List.length_take]; omega), if_pos rfl, take_snoc hj]
            rfl
          · rw [if_neg (by rw [List.length_take]; omega), if_neg h0]
    · have h2 : 2 ≤ n := by omega
      have h3 := halfN_lt h2
      have h4 := halfN_pos n
      cases j with
      | zero => rw [takeJ_zero old _ h2 (by omega), List.take_zero, mkS_nil old h2 (by omega)]; rfl
      | succ j =>
        rw [take_snoc hj]
        rcases Nat.lt_or_ge (halfN n) m with hh | hh
        · rw [takeJ_high old _ h2 (by omega) hh, mkS_high old h2 (by omega) hh, take_mk old l (k - 1) _ _ _ j (by omega) (by omega)]
          rcases takeJ old (textAt l) (n - halfN n) (m - halfN n) false j with _ | ⟨⟨p1, p2⟩, q⟩
          · rfl
          · simp only [Option.bind_some]
            by_cases hq : q = 0
            · subst hq
              rw [if_pos rfl]
              simp only [Option.bind_some]
              rcases nodeO (textAt l j) p1 with _ | u
              · rfl
              · rcases nodeO (textAt l j) p2 with _ | v <;> rfl
            · rw [if_neg hq, Option.bind_none]
              rcases nodeO (textAt l j) p1 with _ | u
              · rfl
              · rcases nodeO (textAt l j) p2 with _ | v
                · rfl
                · simp only [Option.bind_some]; rw [if_neg hq]
        · rw [takeJ_low old _ h2 (by omega) hh, mkS_low old h2 (by omega) hh, take_mk old l (k - 1) _ _ _ j (by omega) (by omega)]
          rcases takeJ old (textAt l) (halfN n) m kn j with _ | ⟨⟨p1, p2⟩, q⟩
          · rfl
          · simp only [Option.bind_some]
            by_cases hq : q = 0
            · subst hq
              rw [if_pos rfl]
              simp only [Option.bind_some]
              rcases nodeO p2 (textAt l j) with _ | v <;> rfl
            · rw [if_neg hq, Option.bind_none]
              rcases nodeO p2 (textAt l j) with _ | v
              · rfl
              · simp only [Option.bind_some]; rw [if_neg hq]
termination_by k => k
decreasing_by all_goals omega

theorem growE_take (old root : ByteArray) (m n : Nat) (l : List ByteArray) (h1 : 1 ≤ m) (hm : m ≤ n) (h24 : n ≤ 24) :
    growE old m root n l = if takeJ old (textAt l) n m true l.length = some ((old, root), 0) then 0 else 7 := by
  unfold growE
  rw [if_neg (by omega)]
  simp only [Int.toNat_natCast]
  have := take_mk old l n n m true l.length (Nat.le_refl _) (Nat.le_refl _)
  rw [List.take_length] at this
  have key : mkS old n m true l = some (old, root) ↔ takeJ old (textAt l) n m true l.length = some ((old, root), 0) := by
    rw [this]
    rcases takeJ old (textAt l) n m true l.length with _ | ⟨⟨p1, p2⟩, q⟩
    · simp
    · simp only [Option.bind_some]
      by_cases hq : q = 0
      · subst hq
        rw [if_pos rfl]
        simp
      · rw [if_neg hq]
        simp [hq]
  by_cases hk : mkS old n m true l = some (old, root)
  · rw [if_pos hk, if_pos (key.1 hk)]
  · rw [if_neg hk, if_neg (fun h => hk (key.2 h))]
/- How many seals there are, and how long they are. -/
theorem growS_len : ∀ (k : Nat) (l : List ByteArray) (m : Nat) (kn : Bool), l.length ≤ k → 1 ≤ l.length → (growS l m kn).length ≤ l.length
  | k, l, m, kn, hk, h1 => by
    by_cases he : l.length ≤ 1 ∨ l.length ≤ m
    · rw [growS_all he]
      split
      · exact Nat.zero_le _
      · exact h1
    · have h2 : 2 ≤ l.length := by omega
      have h3 := halfN_lt h2
      have h4 := halfN_pos l.length
      have l1 : (l.take (halfN l.length)).length = halfN l.length := by rw [List.length_take]; omega
      have l2 : (l.drop (halfN l.length)).length = l.length - halfN l.length := by rw [List.length_drop]
      rcases Nat.lt_or_ge (halfN l.length) m with hh | hh
      · rw [growS_high h2 (by omega) hh, List.length_append, List.length_singleton]
        have := growS_len (k - 1) (l.drop (halfN l.length)) (m - halfN l.length) false (by omega) (by omega)
        omega
      · rw [growS_low h2 (by omega) hh, List.length_append, List.length_singleton]
        have := growS_len (k - 1) (l.take (halfN l.length)) m kn (by omega) (by omega)
        omega
termination_by k => k
decreasing_by all_goals omega
theorem growS_size : ∀ (k : Nat) (l : List ByteArray) (m : Nat) (kn : Bool), l.length ≤ k → ∀ s ∈ growS l m kn, s.size ≤ 20007
  | k, l, m, kn, hk => by
    by_cases he : l.length ≤ 1 ∨ l.length ≤ m
    · rw [growS_all he]
      intro s hs
      split at hs
      · cases hs
      · rw [List.mem_singleton.1 hs]; exact rootV_size _
    · have h2 : 2 ≤ l.length := by omega
      have h3 := halfN_lt h2
      have h4 := halfN_pos l.length
      have l1 : (l.take (halfN l.length)).length = halfN l.length := by rw [List.length_take]; omega
      have l2 : (l.drop (halfN l.length)).length = l.length - halfN l.length := by rw [List.length_drop]
      rcases Nat.lt_or_ge (halfN l.length) m with hh | hh
      · rw [growS_high h2 (by omega) hh]
        intro s hs
        rcases List.mem_append.1 hs with hs | hs
        · exact growS_size (k - 1) (l.drop (halfN l.length)) (m - halfN l.length) false (by omega) s hs
        · rw [List.mem_singleton.1 hs]; exact rootV_size _
      · rw [growS_low h2 (by omega) hh]
        intro s hs
        rcases List.mem_append.1 hs with hs | hs
        · exact growS_size (k - 1) (l.take (halfN l.length)) m kn (by omega) s hs
        · rw [List.mem_singleton.1 hs]; exact rootV_size _
termination_by k => k
decreasing_by all_goals omega
end Go.Proofs.YtnemiobgmdpnmagGreatFmt
namespace Go.Proofs.YtnemiobgmdpnmagGreatFmt
open Go Go.RowKit

def spanL (f n i : Nat) : List (Nat × Nat) :=
  if _h : n ≤ 1 then []
  else if i < f + halfN n then (f, f + n) :: spanL f (halfN n) i
  else (f, f + n) :: spanL (f + halfN n) (n - halfN n) i
termination_by n
decreasing_by
  · exact halfN_lt (by omega)
  · have := halfN_pos n; omega
theorem spanL_one {n : Nat} (h : n ≤ 1) (f i : Nat) : spanL f n i = [] := by rw [spanL, dif_pos h]
theorem spanL_low {f n i : Nat} (h : 2 ≤ n) (hi : i < f + halfN n) : spanL f n i = (f, f + n) :: spanL f (halfN n) i := by rw [spanL, dif_neg (by omega), if_pos hi]
theorem spanL_high {f n i : Nat} (h : 2 ≤ n) (hi : f + halfN n ≤ i) : spanL f n i = (f, f + n) :: spanL (f + halfN n) (n - halfN n) i := by rw [spanL, dif_neg (by omega), if_neg (by omega)]

/- The middle of a span, the side of what is beside, and the step. -/
def midN (s : Nat × Nat) : Nat := s.1 + halfN (s.2 - s.1)
def sideN (i : Nat) (s : Nat × Nat) : Bool := decide (midN s ≤ i)
def besideN (l : List ByteArray) (i : Nat) (s : Nat × Nat) : List ByteArray := if midN s ≤ i then seg l s.1 (midN s - s.1) else seg l (midN s) (s.2 - midN s)
def stepN (l : List ByteArray) (i : Nat) (s : Nat × Nat) : StepB := (sideN i s, rootV (besideN l i s))

theorem spanL_ok : ∀ (k f n i : Nat), n ≤ k → ∀ s ∈ spanL f n i, f ≤ s.1 ∧ s.1 + 2 ≤ s.2 ∧ s.2 ≤ f + n
  | k, f, n, i, hk => by
    rcases Nat.lt_or_ge n 2 with h | h
    · rw [spanL_one (by omega)]; intro s hs; cases hs
    · have h1 := halfN_lt h
      have h2 := halfN_pos n
      rcases Nat.lt_or_ge i (f + halfN n) with hi | hi
      · rw [spanL_low h hi]
        intro s hs
        rcases List.mem_cons.1 hs with rfl | hs
        · exact ⟨Nat.le_refl _, by show f + 2 ≤ f + n; omega, Nat.le_refl _⟩
        · have := spanL_ok (k - 1) f (halfN n) i (by omega) s hs
          omega
      · rw [spanL_high h hi]
        intro s hs
        rcases List.mem_cons.1 hs with rfl | hs
        · exact ⟨Nat.le_refl _, by show f + 2 ≤ f + n; omega, Nat.le_refl _⟩
        · have := spanL_ok (k - 1) (f + halfN n) (n - halfN n) i (by omega) s hs
          omega
termination_by k => k
decreasing_by all_goals omega

theorem spanL_sides : ∀ (k f n i : Nat), n ≤ k → f ≤ i → (spanL f n i).reverse.map (sideN i) = sidesN n (i - f)
  | k, f, n, i, hk, hf => by
    rcases Nat.lt_or_ge n 2 with h | h
    · rw [spanL_one (by omega), sidesN_one (by omega)]; rfl
    · have h1 := halfN_lt h
      have h2 := halfN_pos n
      have hm : midN (f, f + n) = f + halfN n := by show f + halfN (f + n - f) = _; rw [show f + n - f = n by omega]
      rcases Nat.lt_or_ge i (f + halfN n) with hi | hi
      · rw [spanL_low h hi, sidesN_low h (by omega), List.reverse_cons, List.map_append, spanL_sides (k - 1) f (halfN n) i (by omega) hf]
        have : sideN i (f, f + n) = false := by unfold sideN; rw [hm]; exact decide_eq_false (by omega)
        simp [this]
      · rw [spanL_high h hi, sidesN_high h (by omega), List.reverse_cons, List.map_append, spanL_sides (k - 1) (f + halfN n) (n - halfN n) i (by omega) hi]
        have : sideN i (f, f + n) = true := by unfold sideN; rw [hm]; exact decide_eq_true hi
        simp [this, show i - (f + halfN n) = i - f - halfN n by omega]
termination_by k => k
decreasing_by all_goals omega

theorem spanL_path (l : List ByteArray) : ∀ (k f n i : Nat), n ≤ k → f ≤ i → f + n ≤ l.length → (spanL f n i).reverse.map (stepN l i) = pathS (seg l f n) (i - f)
  | k, f, n, i, hk, hf, hl => by
    have hlen := seg_len l f n hl
    rcases Nat.lt_or_ge n 2 with h | h
    · rw [spanL_one (by omega), pathS_one (by omega)]; rfl
    · have h1 := halfN_lt h
      have h2 := halfN_pos n
      have hm : midN (f, f + n) = f + halfN n := by show f + halfN (f + n - f) = _; rw [show f + n - f = n by omega]
      rcases Nat.lt_or_ge i (f + halfN n) with hi | hi
      · rw [spanL_low h hi, pathS_low (by omega) (by rw [hlen]; omega), List.reverse_cons, List.map_append, spanL_path l (k - 1) f (halfN n) i (by omega) hf (by omega)]
        have e1 : stepN l i (f, f + n) = (false, rootV (seg l (f + halfN n) (n - halfN n))) := by
          unfold stepN sideN besideN
          rw [hm, if_neg (by omega), decide_eq_false (by omega)]
          show (false, rootV (seg l (f + halfN n) (f + n - (f + halfN n)))) = _
          rw [show f + n - (f + halfN n) = n - halfN n by omega]
        rw [hlen, seg_take l f n _ (by omega), seg_drop]
        simp [e1]
      · rw [spanL_high h hi, pathS_high (by omega) (by rw [hlen]; omega), List.reverse_cons, List.map_append, spanL_path l (k - 1) (f + halfN n) (n - halfN n) i (by omega) hi (by omega)]
        have e1 : stepN l i (f, f + n) = (true, rootV (seg l f (halfN n))) := by
          unfold stepN sideN besideN
          rw [hm, if_pos hi, decide_eq_true hi]
          show (true, rootV (seg l f (f + halfN n - f))) = _
          rw [show f + halfN n - f = halfN n by omega]
        rw [hlen, seg_take l f n _ (by omega), seg_drop]
        simp [e1, show i - (f + halfN n) = i - f - halfN n by omega]
termination_by k => k
decreasing_by all_goals omega

theorem spans_path (l : List ByteArray) (i : Nat) : (spanL 0 l.length i).reverse.map (stepN l i) = pathS l i := by
  rw [spanL_path l l.length 0 l.length i (Nat.le_refl _) (Nat.zero_le _) (by omega), seg_all]; rfl
theorem spans_sides (n i : Nat) : (spanL 0 n i).reverse.map (sideN i) = sidesN n i := spanL_sides n 0 n i (Nat.le_refl _) (Nat.zero_le _)
theorem spans_len (n i : Nat) : (spanL 0 n i).length = (sidesN n i).length := by rw [← spans_sides]; simp
end Go.Proofs.YtnemiobgmdpnmagGreatFmt
namespace Go.Proofs.YtnemiobgmdpnmagGreatFmt
open Go Go.RowKit

def partB (f n m : Nat) : List (Nat × Nat) :=
  if _h : n ≤ 1 ∨ f + n ≤ m then []
  else if m ≤ f + halfN n then (f + halfN n, f + n) :: partB f (halfN n) m
  else (f, f + halfN n) :: partB (f + halfN n) (n - halfN n) m
termination_by n
decreasing_by
  · exact halfN_lt (by omega)
  · have := halfN_pos n; omega
def partL (f n m : Nat) : Nat × Nat :=
  if _h : n ≤ 1 ∨ f + n ≤ m then (f, f + n)
  else if m ≤ f + halfN n then partL f (halfN n) m
  else partL (f + halfN n) (n - halfN n) m
termination_by n
decreasing_by
  · exact halfN_lt (by omega)
  · have := halfN_pos n; omega
def partK (f n m : Nat) (kn : Bool) : Bool :=
  if _h : n ≤ 1 ∨ f + n ≤ m then kn
  else if m ≤ f + halfN n then partK f (halfN n) m kn
  else partK (f + halfN n) (n - halfN n) m false
termination_by n
decreasing_by
  · exact halfN_lt (by omega)
  · have := halfN_pos n; omega

theorem part_end {f n m : Nat} (h : n ≤ 1 ∨ f + n ≤ m) (kn : Bool) : partB f n m = [] ∧ partL f n m = (f, f + n) ∧ partK f n m kn = kn := by
  refine ⟨?_, ?_, ?_⟩
  · rw [partB, dif_pos h]
  · rw [partL, dif_pos h]
  · rw [partK, dif_pos h]
theorem part_low {f n m : Nat} (h : 2 ≤ n) (h' : m < f + n) (hm : m ≤ f + halfN n) (kn : Bool) :
    partB f n m = (f + halfN n, f + n) :: partB f (halfN n) m ∧ partL f n m = partL f (halfN n) m ∧ partK f n m kn = partK f (halfN n) m kn := by
  refine ⟨?_, ?_, ?_⟩
  · rw [partB, dif_neg (by omega), if_pos hm]
  · rw [partL, dif_neg (by omega), if_pos hm]
  · rw [partK, dif_neg (by omega), if_pos hm]
theorem part_high {f n m : Nat} (h : 2 ≤ n) (h' : m < f + n) (hm : f + halfN n < m) (kn : Bool) :
    partB f n m = (f, f + halfN n) :: partB (f + halfN n) (n - halfN n) m ∧ partL f n m = partL (f + halfN n) (n - halfN n) m ∧ partK f n m kn = partK (f + halfN n) (n - halfN n) m false := by
  refine ⟨?_, ?_, ?_⟩
  · rw [partB, dif_neg (by omega), if_neg (by omega)]
  · rw [partL, dif_neg (by omega), if_neg (by omega)]
  · rw [partK, dif_neg (by omega), if_neg (by omega)]

theorem partL_ok : ∀ (k f n m : Nat), n ≤ k → 1 ≤ n → f < m → f ≤ (partL f n m).1 ∧ (partL f n m).1 < (partL f n m).2 ∧ (partL f n m).2 ≤ f + n
  | k, f, n, m, hk, h1, hf => by
    by_cases h : n ≤ 1 ∨ f + n ≤ m
    · rw [(part_end h true).2.1]
      exact ⟨Nat.le_refl _, by show f < f + n; omega, Nat.le_refl _⟩
    · have h2 : 2 ≤ n := by omega
      have h3 := halfN_lt h2
      have h4 := halfN_pos n
      rcases Nat.lt_or_ge (f + halfN n) m with hh | hh
      · rw [(part_high h2 (by omega) hh true).2.1]
        have := partL_ok (k - 1) (f + halfN n) (n - halfN n) m (by omega) (by omega) hh
        omega
      · rw [(part_low h2 (by omega) hh true).2.1]
        have := partL_ok (k - 1) f (halfN n) m (by omega) h4 hf
        omega
termination_by k => k
decreasing_by all_goals omega

theorem partB_ok : ∀ (k f n m : Nat), n ≤ k → f < m → ∀ p ∈ partB f n m, f ≤ p.1 ∧ p.1 + 1 ≤ p.2 ∧ p.2 ≤ f + n
  | k, f, n, m, hk, hf => by
    by_cases h : n ≤ 1 ∨ f + n ≤ m
    · rw [(part_end h true).1]; intro p hp; cases hp
    · have h2 : 2 ≤ n := by omega
      have h3 := halfN_lt h2
      have h4 := halfN_pos n
      rcases Nat.lt_or_ge (f + halfN n) m with hh | hh
      · rw [(part_high h2 (by omega) hh true).1]
        intro p hp
        rcases List.mem_cons.1 hp with rfl | hp
        · exact ⟨Nat.le_refl _, by show f + 1 ≤ f + halfN n; omega, by show f + halfN n ≤ f + n; omega⟩
        · have := partB_ok (k - 1) (f + halfN n) (n - halfN n) m (by omega) hh p hp
          omega
      · rw [(part_low h2 (by omega) hh true).1]
        intro p hp
        rcases List.mem_cons.1 hp with rfl | hp
        · exact ⟨by show f ≤ f + halfN n; omega, by show f + halfN n + 1 ≤ f + n; omega, Nat.le_refl _⟩
        · have := partB_ok (k - 1) f (halfN n) m (by omega) hf p hp
          omega
termination_by k => k
decreasing_by all_goals omega

theorem partB_len : ∀ (k f n m : Nat), n ≤ k → (partB f n m).length ≤ n - 1
  | k, f, n, m, hk => by
    by_cases h : n ≤ 1 ∨ f + n ≤ m
    · rw [(part_end h true).1]; exact Nat.zero_le _
    · have h2 : 2 ≤ n := by omega
      have h3 := halfN_lt h2
      have h4 := halfN_pos n
      rcases Nat.lt_or_ge (f + halfN n) m with hh | hh
      · rw [(part_high h2 (by omega) hh true).1, List.length_cons]
        have := partB_len (k - 1) (f + halfN n) (n - halfN n) m (by omega)
        omega
      · rw [(part_low h2 (by omega) hh true).1, List.length_cons]
        have := partB_len (k - 1) f (halfN n) m (by omega)
        omega
termination_by k => k
decreasing_by all_goals omega

/- The seals of the parts. -/
def sealP (l : List ByteArray) (p : Nat × Nat) : ByteArray := rootV (seg l p.1 (p.2 - p.1))
theorem parts_grow (l : List ByteArray) : ∀ (k f n m : Nat) (kn : Bool), n ≤ k → 1 ≤ n → f < m → f + n ≤ l.length →
    growS (seg l f n) (m - f) kn = (if partK f n m kn then [] else [sealP l (partL f n m)]) ++ (partB f n m).reverse.map (sealP l)
  | k, f, n, m, kn, hk, h1, hf, hl => by
    have hlen := seg_len l f n hl
    by_cases h : n ≤ 1 ∨ f + n ≤ m
    · obtain ⟨e1, e2, e3⟩ := part_end h kn
      rw [e1, e2, e3, growS_all (by rw [hlen]; omega)]
      have : sealP l (f, f + n) = rootV (seg l f n) := by unfold sealP; rw [show (f, f + n).2 - (f, f + n).1 = n by show f + n - f = n; omega]
      rw [this]
      simp
    · have h2 : 2 ≤ n := by omega
      have h3 := halfN_lt h2
      have h4 := halfN_pos n
      rcases Nat.lt_or_ge (f + halfN n) m with hh | hh
      · obtain ⟨e1, e2, e3⟩ := part_high (f := f) (m := m) h2 (by omega) hh kn
        rw [e1, e2, e3, growS_high (by omega) (by rw [hlen]; omega) (by rw [hlen]; omega), hlen, seg_take l f n _ (by omega), seg_drop]
        rw [show m - f - halfN n = m - (f + halfN n) by omega, parts_grow l (k - 1) (f + halfN n) (n - halfN n) m false (by omega) (by omega) hh (by omega)]
        have : sealP l (f, f + halfN n) = rootV (seg l f (halfN n)) := by unfold sealP; rw [show (f, f + halfN n).2 - (f, f + halfN n).1 = halfN n by show f + halfN n - f = _; omega]
        simp [this]
      · obtain ⟨e1, e2, e3⟩ := part_low (f := f) (m := m) h2 (by omega) hh kn
        rw [e1, e2, e3, growS_low (by omega) (by rw [hlen]; omega) (by rw [hlen]; omega), hlen, seg_take l f n _ (by omega), seg_drop]
        rw [parts_grow l (k - 1) f (halfN n) m kn (by omega) h4 hf (by omega)]
        have : sealP l (f + halfN n, f + n) = rootV (seg l (f + halfN n) (n - halfN n)) := by unfold sealP; rw [show (f + halfN n, f + n).2 - (f + halfN n, f + n).1 = n - halfN n by show f + n - (f + halfN n) = _; omega]
        simp [this]
termination_by k => k
decreasing_by all_goals omega
theorem parts_all (l : List ByteArray) (m : Nat) (h1 : 1 ≤ m) (hl : 1 ≤ l.length) :
    growS l m true = (if partK 0 l.length m true then [] else [sealP l (partL 0 l.length m)]) ++ (partB 0 l.length m).reverse.map (sealP l) := by
  have := parts_grow l l.length 0 l.length m true (Nat.le_refl _) hl h1 (by omega)
  rwa [seg_all] at this

/- A step of the making, from below: the part beside, its seal. -/
def makeP (e : Nat) (o : Option (ByteArray × ByteArray)) (q : (Nat × Nat) × ByteArray) : Option (ByteArray × ByteArray) :=
  o.bind fun p => if e ≤ q.1.1 then (nodeO p.2 q.2).bind fun b => some (p.1, b) else (nodeO q.2 p.1).bind fun a => (nodeO q.2 p.2).bind fun b => some (a, b)
theorem makeP_right {e : Nat} {p : Nat × Nat} (h : e ≤ p.1) (o : Option (ByteArray × ByteArray)) (s : ByteArray) : makeP e o (p, s) = o.bind fun q => (nodeO q.2 s).bind fun b => some (q.1, b) := by
  unfold makeP
  simp only [if_pos h]
theorem makeP_left {e : Nat} {p : Nat × Nat} (h : ¬ e ≤ p.1) (o : Option (ByteArray × ByteArray)) (s : ByteArray) : makeP e o (p, s) = o.bind fun q => (nodeO s q.1).bind fun a => (nodeO s q.2).bind fun b => some (a, b) := by
  unfold makeP
  simp only [if_neg h]
def wantP (f n m : Nat) (kn : Bool) : Nat := (partB f n m).length + (if partK f n m kn then 0 else 1)
def firstP (old : ByteArray) (k : Bool) (x : List ByteArray) : ByteArray := if k then old else x.getD 0 ByteArray.empty
def restP (k : Bool) (x : List ByteArray) : List ByteArray := if k then x else x.drop 1

theorem parts_mk (old : ByteArray) : ∀ (k f n m : Nat) (kn : Bool) (x : List ByteArray), n ≤ k → 1 ≤ n → f < m →
    mkS old n (m - f) kn x = if x.length = wantP f n m kn then ((partB f n m).reverse.zip (restP (partK f n m kn) x)).foldl (makeP (partL f n m).2) (some (firstP old (partK f n m kn) x, firstP old (partK f n m kn) x)) else none
  | k, f, n, m, kn, x, hk, h1, hf => by
    by_cases h : n ≤ 1 ∨ f + n ≤ m
    · obtain ⟨e1, e2, e3⟩ := part_end h kn
      unfold wantP
      rw [e1, e2, e3]
      cases kn with
      | true =>
        rw [mkS_known old (by omega)]
        by_cases hx : x = []
        · subst hx; simp [firstP]
        · rw [if_neg hx, if_neg]
          simpa using hx
      | false =>
        rw [mkS_unknown old (by omega)]
        unfold oneS
        by_cases hx : x.length = 1
        · rw [if_pos hx, if_pos (by simpa using hx)]
          simp [firstP]
        · rw [if_neg hx, if_neg (by simpa using hx)]
    · have h2 : 2 ≤ n := by omega
      have h3 := halfN_lt h2
      have h4 := halfN_pos n
      have snoc : ∀ (B : List (Nat × Nat)) (K : Bool) (E : Nat) (p : Nat × Nat) (x' : List ByteArray) (s : ByteArray), x'.length = B.length + (if K then 0 else 1) →
          (((p :: B).reverse.zip (restP K (x' ++ [s]))).foldl (makeP E) (some (firstP old K (x' ++ [s]), firstP old K (x' ++ [s])))) =
            makeP E ((B.reverse.zip (restP K x')).foldl (makeP E) (some (firstP old K x', firstP old K x'))) (p, s) := by
        intro B K E p x' s hlen
        have hr : restP K (x' ++ [s]) = restP K x' ++ [s] := by
          unfold restP
          cases K with
          | true => rfl
          | false => simp only [Bool.false_eq_true, ↓reduceIte] at hlen ⊢; rw [List.drop_append_of_le_length (by omega)]
        have hfst : firstP old K (x' ++ [s]) = firstP old K x' := by
          unfold firstP
          cases K with
          | true => rfl
          | false =>
            simp only [Bool.false_eq_true, ↓reduceIte] at hlen ⊢
            rw [List.getD_eq_getElem?_getD, List.getD_eq_getElem?_getD, List.getElem?_append_left (by omega)]
        have hl2 : B.reverse.length = (restP K x').length := by
          unfold restP
          cases K with
          | true => simp at hlen ⊢; omega
          | false => simp at hlen ⊢; omega
        rw [hr, hfst, List.reverse_cons, List.zip_append hl2, List.foldl_append]
        rfl
      rcases List.eq_nil_or_concat x with rfl | ⟨x', s, rfl⟩
      · rw [mkS_nil old h2 (by omega), if_neg]
        unfold wantP
        rcases Nat.lt_or_ge (f + halfN n) m with hh | hh
        · rw [(part_high h2 (by omega) hh kn).1]; simp; omega
        · rw [(part_low h2 (by omega) hh kn).1]; simp; omega
      rw [List.concat_eq_append]
      rcases Nat.lt_or_ge (f + halfN n) m with hh | hh
      · obtain ⟨e1, e2, e3⟩ := part_high (f := f) (m := m) h2 (by omega) hh kn
        have hw : (x' ++ [s]).length = wantP f n m kn ↔ x'.length = wantP (f + halfN n) (n - halfN n) m false := by
          unfold wantP; rw [e1, e3]; simp; omega
        rw [mkS_high old h2 (by omega) (by omega), show m - f - halfN n = m - (f + halfN n) by omega, parts_mk old (k - 1) (f + halfN n) (n - halfN n) m false x' (by omega) (by omega) hh]
        by_cases hx : x'.length = wantP (f + halfN n) (n - halfN n) m false
        · rw [if_pos hx, if_pos (hw.2 hx), e1, e2, e3, snoc _ _ _ _ _ _ hx]
          have hL := partL_ok (n - halfN n) (f + halfN n) (n - halfN n) m (Nat.le_refl _) (by omega) hh
          rw [makeP_left (by show ¬ _ ≤ f; omega)]
        · rw [if_neg hx, if_neg (fun h => hx (hw.1 h))]; rfl
      · obtain ⟨e1, e2, e3⟩ := part_low (f := f) (m := m) h2 (by omega) hh kn
        have hw : (x' ++ [s]).length = wantP f n m kn ↔ x'.length = wantP f (halfN n) m kn := by
          unfold wantP; rw [e1, e3]; simp; omega
        rw [mkS_low old h2 (by omega) (by omega), parts_mk old (k - 1) f (halfN n) m kn x' (by omega) h4 hf]
        by_cases hx : x'.length = wantP f (halfN n) m kn
        · rw [if_pos hx, if_pos (hw.2 hx), e1, e2, e3, snoc _ _ _ _ _ _ hx]
          have hL := partL_ok (halfN n) f (halfN n) m (Nat.le_refl _) h4 hf
          rw [makeP_right (by show _ ≤ f + halfN n; omega)]
        · rw [if_neg hx, if_neg (fun h => hx (hw.1 h))]; rfl
termination_by k => k
decreasing_by all_goals omega
end Go.Proofs.YtnemiobgmdpnmagGreatFmt
namespace Go.Proofs.YtnemiobgmdpnmagGreatFmt
open Go Go.RowKit

def rowT (f : Nat → Option ByteArray) (d : Nat) : List ByteArray := (List.range (2 ^ (4 - d))).map (trieT f d)
theorem rowT_len (f : Nat → Option ByteArray) (d : Nat) : (rowT f d).length = 2 ^ (4 - d) := by simp [rowT]
theorem rowT_at (f : Nat → Option ByteArray) {d i : Nat} (h : i < 2 ^ (4 - d)) : (rowT f d)[i]? = some (trieT f d i) := by
  unfold rowT
  rw [List.getElem?_map, List.getElem?_range h]
  rfl
theorem rowT_getD (f : Nat → Option ByteArray) {d i : Nat} (h : i < 2 ^ (4 - d)) : (rowT f d).getD i ByteArray.empty = trieT f d i := by
  rw [List.getD_eq_getElem?_getD, rowT_at f h]; rfl
theorem rowT_take (f : Nat → Option ByteArray) {d i : Nat} (h : i < 2 ^ (4 - d)) : (rowT f d).take (i + 1) = (rowT f d).take i ++ [trieT f d i] := by
  rw [List.take_add_one, rowT_at f h]
  rfl
theorem rowT_313 {f : Nat → Option ByteArray} (hf : Short f) {d : Nat} (hd : d ≤ 4) : ∀ s ∈ rowT f d, s.size ≤ 313 := by
  intro s hs
  obtain ⟨i, _, rfl⟩ := List.mem_map.1 hs
  exact trieT_313 hf i hd
theorem row_half {d : Nat} (h : d < 4) : 2 ^ (4 - d) = 2 * 2 ^ (4 - (d + 1)) := by
  rw [show 4 - d = 4 - (d + 1) + 1 by omega, Nat.pow_succ, Nat.mul_comm]
end Go.Proofs.YtnemiobgmdpnmagGreatFmt
