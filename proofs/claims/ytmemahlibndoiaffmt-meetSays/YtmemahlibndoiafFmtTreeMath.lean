/-
  Plain mathematics of package tree: the seal of a list of texts, its halves, and that no two lists have one seal.
-/
import Derived.Test.YtmemahlibndoiafFmtSealMath
namespace Go.Proofs.YtmemahlibndoiafFmt
open Go Go.RowKit

/- The greatest power of two below n, of n from 2 to 24 (and some number else). -/
def halfN (n : Nat) : Nat := if n ≤ 2 then 1 else if n ≤ 4 then 2 else if n ≤ 8 then 4 else if n ≤ 16 then 8 else 16

theorem halfN_pos (n : Nat) : 1 ≤ halfN n := by unfold halfN; split <;> (try split) <;> (try split) <;> (try split) <;> omega
theorem halfN_lt {n : Nat} (h : 2 ≤ n) : halfN n < n := by unfold halfN; split <;> (try split) <;> (try split) <;> (try split) <;> omega
theorem halfN_le16 (n : Nat) : halfN n ≤ 16 := by unfold halfN; split <;> (try split) <;> (try split) <;> (try split) <;> omega

theorem halfN_more {n : Nat} (h : n ≤ 24) : n - halfN n ≤ halfN n := by unfold halfN; split <;> (try split) <;> (try split) <;> (try split) <;> omega
theorem halfN_cases (n : Nat) : halfN n = 1 ∨ halfN n = 2 ∨ halfN n = 4 ∨ halfN n = 8 ∨ halfN n = 16 := by unfold halfN; split <;> (try split) <;> (try split) <;> (try split) <;> omega

/- Leaf and Node, with their bound: no seal where they err (ErrMany, in each case). -/
def leafO (s : ByteArray) : Option ByteArray := if s.size ≤ 20000 then some (leafS s) else none
def nodeO (a b : ByteArray) : Option ByteArray := if a.size + b.size ≤ 20000 then some (nodeS a b) else none

theorem leafO_some {s t : ByteArray} (h : leafO s = some t) : s.size ≤ 20000 ∧ t = leafS s := by
  unfold leafO at h; split at h
  · injection h with h; exact ⟨by assumption, h.symm⟩
  · cases h
theorem leafO_none {s : ByteArray} (h : leafO s = none) : 20000 < s.size := by
  unfold leafO at h; split at h
  · cases h
  · omega
theorem nodeO_some {a b t : ByteArray} (h : nodeO a b = some t) : a.size + b.size ≤ 20000 ∧ t = nodeS a b := by
  unfold nodeO at h; split at h
  · injection h with h; exact ⟨by assumption, h.symm⟩
  · cases h
theorem nodeO_none {a b : ByteArray} (h : nodeO a b = none) : 20000 < a.size + b.size := by
  unfold nodeO at h; split at h
  · cases h
  · omega
theorem leafO_size {s t : ByteArray} (h : leafO s = some t) : t.size ≤ 20001 := by
  obtain ⟨h1, rfl⟩ := leafO_some h
  rw [leafS_size]; omega
theorem nodeO_size {a b t : ByteArray} (h : nodeO a b = some t) : t.size ≤ 20007 := by
  obtain ⟨h1, rfl⟩ := nodeO_some h
  have := nDigits_le5 a.size (by omega)
  rw [nodeS_size]; omega

/- The seal of a list. -/
def rootS (l : List ByteArray) : Option ByteArray :=
  if 24 < l.length then none
  else if _h0 : l.length = 0 then some noneS
  else if _h1 : l.length = 1 then leafO (l.getD 0 ByteArray.empty)
  else (rootS (l.take (halfN l.length))).bind fun a => (rootS (l.drop (halfN l.length))).bind fun b => nodeO a b
termination_by l.length
decreasing_by
  · have := halfN_lt (n := l.length) (by omega)
    rw [List.length_take]; omega
  · have := halfN_pos l.length
    rw [List.length_drop]; omega

theorem rootS_many {l : List ByteArray} (h : 24 < l.length) : rootS l = none := by rw [rootS, if_pos h]
theorem rootS_nil : rootS [] = some noneS := by rw [rootS]; simp
theorem rootS_one {l : List ByteArray} (h : l.length = 1) : rootS l = leafO (l.getD 0 ByteArray.empty) := by
  rw [rootS, if_neg (by omega), dif_neg (by omega), dif_pos h]
theorem rootS_two {l : List ByteArray} (h : 2 ≤ l.length) (h' : l.length ≤ 24) :
    rootS l = (rootS (l.take (halfN l.length))).bind fun a => (rootS (l.drop (halfN l.length))).bind fun b => nodeO a b := by
  rw [rootS, if_neg (by omega), dif_neg (by omega), dif_neg (by omega)]

theorem rootS_some_two {l : List ByteArray} {s : ByteArray} (h : 2 ≤ l.length) (hs : rootS l = some s) :
    l.length ≤ 24 ∧ ∃ a b, rootS (l.take (halfN l.length)) = some a ∧ rootS (l.drop (halfN l.length)) = some b ∧ nodeO a b = some s := by
  by_cases h' : l.length ≤ 24
  · rw [rootS_two h h'] at hs
    obtain ⟨a, ha, hs⟩ := Option.bind_eq_some_iff.1 hs
    obtain ⟨b, hb, hs⟩ := Option.bind_eq_some_iff.1 hs
    exact ⟨h', a, b, ha, hb, hs⟩
  · rw [rootS_many (by omega)] at hs; cases hs

theorem rootS_len {l : List ByteArray} {s : ByteArray} (hs : rootS l = some s) : l.length ≤ 24 := by
  refine Classical.byContradiction fun h => ?_
  rw [rootS_many (by omega)] at hs; cases hs

theorem rootS_size {l : List ByteArray} {s : ByteArray} (hs : rootS l = some s) : s.size ≤ 20007 := by
  rcases Nat.lt_or_ge l.length 2 with h | h
  · rcases Nat.eq_zero_or_pos l.length with h0 | h0
    · rw [List.length_eq_zero_iff.1 h0, rootS_nil] at hs
      injection hs with hs; subst hs; decide
    · rw [rootS_one (by omega)] at hs
      have := leafO_size hs; omega
  · obtain ⟨_, a, b, _, _, hn⟩ := rootS_some_two h hs
    exact nodeO_size hn

/- P2.2: no two lists have one seal. -/
theorem rootS_inj : ∀ (k : Nat) (l m : List ByteArray) (s : ByteArray), l.length ≤ k → rootS l = some s → rootS m = some s → l = m
  | k, l, m, s, hk, hl, hm => by
    have one : ∀ x : List ByteArray, x.length = 1 → x = [x.getD 0 ByteArray.empty] := by
      intro x hx
      match x, hx with
      | [y], _ => rfl
    rcases Nat.lt_or_ge l.length 2 with h | h
    · rcases Nat.eq_zero_or_pos l.length with h0 | h0
      · have e := List.length_eq_zero_iff.1 h0
        subst e
        rw [rootS_nil] at hl
        injection hl with hl
        subst hl
        rcases Nat.lt_or_ge m.length 2 with g | g
        · rcases Nat.eq_zero_or_pos m.length with g0 | g0
          · exact (List.length_eq_zero_iff.1 g0).symm
          · rw [rootS_one (by omega)] at hm
            exact absurd (leafO_some hm).2.symm (leaf_ne_none _)
        · obtain ⟨_, a, b, _, _, hn⟩ := rootS_some_two g hm
          exact absurd (nodeO_some hn).2.symm (node_ne_none _ _)
      · rw [rootS_one (by omega)] at hl
        obtain ⟨_, rfl⟩ := leafO_some hl
        rcases Nat.lt_or_ge m.length 2 with g | g
        · rcases Nat.eq_zero_or_pos m.length with g0 | g0
          · rw [List.length_eq_zero_iff.1 g0, rootS_nil] at hm
            injection hm with hm
            exact absurd hm.symm (leaf_ne_none _)
          · rw [rootS_one (by omega)] at hm
            have e := leafS_inj (leafO_some hm).2
            rw [one l (by omega), one m (by omega), e]
        · obtain ⟨_, a, b, _, _, hn⟩ := rootS_some_two g hm
          exact absurd (nodeO_some hn).2 (leaf_ne_node _ _ _)
    · obtain ⟨_, a, b, ha, hb, hn⟩ := rootS_some_two h hl
      obtain ⟨hsz, rfl⟩ := nodeO_some hn
      rcases Nat.lt_or_ge m.length 2 with g | g
      · rcases Nat.eq_zero_or_pos m.length with g0 | g0
        · rw [List.length_eq_zero_iff.1 g0, rootS_nil] at hm
          injection hm with hm
          exact absurd hm.symm (node_ne_none _ _)
        · rw [rootS_one (by omega)] at hm
          exact absurd (leafO_some hm).2.symm (leaf_ne_node _ _ _)
      · obtain ⟨_, c, d, hc, hd, hn'⟩ := rootS_some_two g hm
        obtain ⟨hsz', e⟩ := nodeO_some hn'
        obtain ⟨rfl, rfl⟩ := nodeS_inj (by omega) (by omega) e
        have lt := halfN_lt h
        have ps := halfN_pos l.length
        have e1 := rootS_inj (k - 1) _ _ _ (by rw [List.length_take]; omega) ha hc
        have e2 := rootS_inj (k - 1) _ _ _ (by rw [List.length_drop]; omega) hb hd
        calc l = l.take (halfN l.length) ++ l.drop (halfN l.length) := (List.take_append_drop _ _).symm
          _ = m.take (halfN m.length) ++ m.drop (halfN m.length) := by rw [e1, e2]
          _ = m := List.take_append_drop _ _
termination_by k _ _ _ _ _ _ => k
decreasing_by all_goals omega

theorem rootS_eq {l m : List ByteArray} {s t : ByteArray} (hl : rootS l = some s) (hm : rootS m = some t) : s = t ↔ l = m := by
  constructor
  · rintro rfl
    exact rootS_inj l.length l m s (Nat.le_refl _) hl hm
  · rintro rfl
    rw [hl] at hm
    injection hm

/- What Root answers: its text and its error. -/
def rootV (l : List ByteArray) : ByteArray := (rootS l).getD ⟨#[]⟩
def rootE (l : List ByteArray) : Int := if (rootS l).isSome then 0 else 2
theorem root_pos {l : List ByteArray} {s : ByteArray} (h : rootS l = some s) : rootV l = s ∧ rootE l = 0 := by simp [rootV, rootE, h]
theorem root_neg {l : List ByteArray} (h : rootS l = none) : rootV l = ⟨#[]⟩ ∧ rootE l = 2 := by simp [rootV, rootE, h]

/- A stretch of a list. -/
def seg (l : List ByteArray) (f n : Nat) : List ByteArray := (l.drop f).take n
theorem seg_take (l : List ByteArray) (f n h : Nat) (hh : h ≤ n) : (seg l f n).take h = seg l f h := by
  unfold seg; rw [List.take_take, Nat.min_eq_left hh]
theorem seg_drop (l : List ByteArray) (f n h : Nat) : (seg l f n).drop h = seg l (f + h) (n - h) := by
  unfold seg; rw [List.drop_take, List.drop_drop]
theorem seg_len (l : List ByteArray) (f n : Nat) (h : f + n ≤ l.length) : (seg l f n).length = n := by
  unfold seg; rw [List.length_take, List.length_drop]; omega
theorem seg_one (l : List ByteArray) (f n : Nat) (h : 0 < n) : (seg l f n).getD 0 ByteArray.empty = l.getD f ByteArray.empty := by
  unfold seg
  simp [h, List.getD_eq_getElem?_getD]
theorem seg_all (l : List ByteArray) : seg l 0 l.length = l := by simp [seg]

end Go.Proofs.YtmemahlibndoiafFmt
