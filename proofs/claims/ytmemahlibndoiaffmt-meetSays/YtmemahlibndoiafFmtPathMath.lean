/-
  Plain mathematics of package path: the steps above a text, what they lead to, and that they show this text at this place and no other.
-/
import Derived.Test.YtmemahlibndoiafFmtTreeMath
namespace Go.Proofs.YtmemahlibndoiafFmt
open Go Go.RowKit

abbrev StepB := Bool × ByteArray

/- On which side the steps above text i of n stand, from below. -/
def sidesN (n i : Nat) : List Bool :=
  if _h : n ≤ 1 then []
  else if i < halfN n then sidesN (halfN n) i ++ [false]
  else sidesN (n - halfN n) (i - halfN n) ++ [true]
termination_by n
decreasing_by
  · exact halfN_lt (by omega)
  · have := halfN_pos n; omega

theorem sidesN_one {n : Nat} (h : n ≤ 1) (i : Nat) : sidesN n i = [] := by rw [sidesN, dif_pos h]
theorem sidesN_low {n i : Nat} (h : 2 ≤ n) (hi : i < halfN n) : sidesN n i = sidesN (halfN n) i ++ [false] := by rw [sidesN, dif_neg (by omega), if_pos hi]
theorem sidesN_high {n i : Nat} (h : 2 ≤ n) (hi : halfN n ≤ i) : sidesN n i = sidesN (n - halfN n) (i - halfN n) ++ [true] := by rw [sidesN, dif_neg (by omega), if_neg (by omega)]

theorem sidesN_len : ∀ (k n i : Nat), n ≤ k → n ≤ 24 → (sidesN n i).length ≤ n - 1
  | k, n, i, hk, h24 => by
    rcases Nat.lt_or_ge n 2 with h | h
    · rw [sidesN_one (by omega)]; simp
    · have h1 := halfN_lt h
      have h2 := halfN_pos n
      rcases Nat.lt_or_ge i (halfN n) with hi | hi
      · rw [sidesN_low h hi, List.length_append]
        have := sidesN_len (k - 1) (halfN n) i (by omega) (by omega)
        simp only [List.length_singleton]; omega
      · rw [sidesN_high h hi, List.length_append]
        have := sidesN_len (k - 1) (n - halfN n) (i - halfN n) (by omega) (by omega)
        simp only [List.length_singleton]; omega
termination_by k => k
decreasing_by all_goals omega
theorem sidesN_le {n i : Nat} (h : n ≤ 24) : (sidesN n i).length ≤ 23 := by
  have := sidesN_len n n i (Nat.le_refl _) h; omega

/- The path of text i. -/
def pathS (l : List ByteArray) (i : Nat) : List StepB :=
  if _h : l.length ≤ 1 then []
  else if i < halfN l.length then pathS (l.take (halfN l.length)) i ++ [(false, rootV (l.drop (halfN l.length)))]
  else pathS (l.drop (halfN l.length)) (i - halfN l.length) ++ [(true, rootV (l.take (halfN l.length)))]
termination_by l.length
decreasing_by
  · have := halfN_lt (n := l.length) (by omega)
    rw [List.length_take]; omega
  · have := halfN_pos l.length
    rw [List.length_drop]; omega

theorem pathS_one {l : List ByteArray} (h : l.length ≤ 1) (i : Nat) : pathS l i = [] := by rw [pathS, dif_pos h]
theorem pathS_low {l : List ByteArray} {i : Nat} (h : 2 ≤ l.length) (hi : i < halfN l.length) :
    pathS l i = pathS (l.take (halfN l.length)) i ++ [(false, rootV (l.drop (halfN l.length)))] := by rw [pathS, dif_neg (by omega), if_pos hi]
theorem pathS_high {l : List ByteArray} {i : Nat} (h : 2 ≤ l.length) (hi : halfN l.length ≤ i) :
    pathS l i = pathS (l.drop (halfN l.length)) (i - halfN l.length) ++ [(true, rootV (l.take (halfN l.length)))] := by rw [pathS, dif_neg (by omega), if_neg (by omega)]

theorem pathS_sides : ∀ (k : Nat) (l : List ByteArray) (i : Nat), l.length ≤ k → (pathS l i).map (·.1) = sidesN l.length i
  | k, l, i, hk => by
    rcases Nat.lt_or_ge l.length 2 with h | h
    · rw [sidesN_one (by omega), pathS_one (by omega)]; rfl
    · have h1 := halfN_lt h
      have h2 := halfN_pos l.length
      rcases Nat.lt_or_ge i (halfN l.length) with hi | hi
      · have hl : (l.take (halfN l.length)).length = halfN l.length := by rw [List.length_take]; omega
        rw [sidesN_low h hi, pathS_low h hi, List.map_append, pathS_sides (k - 1) _ i (by omega), hl]; rfl
      · have hl : (l.drop (halfN l.length)).length = l.length - halfN l.length := by rw [List.length_drop]
        rw [sidesN_high h hi, pathS_high h hi, List.map_append, pathS_sides (k - 1) _ _ (by omega), hl]; rfl
termination_by k => k
decreasing_by all_goals omega
theorem pathS_map (l : List ByteArray) (i : Nat) : (pathS l i).map (·.1) = sidesN l.length i := pathS_sides l.length l i (Nat.le_refl _)
theorem pathS_len (l : List ByteArray) (i : Nat) : (pathS l i).length = (sidesN l.length i).length := by rw [← pathS_map]; simp

theorem rootV_size (l : List ByteArray) : (rootV l).size ≤ 20007 := by
  rcases h : rootS l with _ | s
  · rw [(root_neg h).1]; decide
  · rw [(root_pos h).1]; exact rootS_size h
theorem pathS_size : ∀ (k : Nat) (l : List ByteArray) (i : Nat), l.length ≤ k → ∀ s ∈ pathS l i, s.2.size ≤ 20007
  | k, l, i, hk => by
    rcases Nat.lt_or_ge l.length 2 with h | h
    · rw [pathS_one (by omega)]; intro s hs; cases hs
    · have h1 := halfN_lt h
      have h2 := halfN_pos l.length
      rcases Nat.lt_or_ge i (halfN l.length) with hi | hi
      · rw [pathS_low h hi]
        intro s hs
        rcases List.mem_append.1 hs with hs | hs
        · exact pathS_size (k - 1) _ _ (by rw [List.length_take]; omega) s hs
        · rw [List.mem_singleton.1 hs]; exact rootV_size _
      · rw [pathS_high h hi]
        intro s hs
        rcases List.mem_append.1 hs with hs | hs
        · exact pathS_size (k - 1) _ _ (by rw [List.length_drop]; omega) s hs
        · rw [List.mem_singleton.1 hs]; exact rootV_size _
termination_by k => k
decreasing_by all_goals omega

/- A step up, and all of them. -/
def joinO (x : ByteArray) (s : StepB) : Option ByteArray := if s.1 = true then nodeO s.2 x else nodeO x s.2
def upO (t : ByteArray) (ss : List StepB) : Option ByteArray := ss.foldl (fun o s => o.bind fun x => joinO x s) (leafO t)
theorem upO_nil (t : ByteArray) : upO t [] = leafO t := rfl
theorem upO_snoc (t : ByteArray) (ss : List StepB) (s : StepB) : upO t (ss ++ [s]) = (upO t ss).bind fun x => joinO x s := by
  unfold upO; rw [List.foldl_append]; rfl
theorem joinO_size {x t : ByteArray} {s : StepB} (h : joinO x s = some t) : t.size ≤ 20007 := by
  unfold joinO at h; split at h <;> exact nodeO_size h

/- What Shows answers, step by step: the sides, the steps, the root. -/
def walkE (root : ByteArray) : ByteArray → List Bool → List StepB → Int
  | now, [], [] => if now = root then 0 else 7
  | now, b :: bs, s :: ss => if s.1 = b then (match joinO now s with | none => 2 | some x => walkE root x bs ss) else 7
  | _, _, _ => 7
def showE (root : ByteArray) (n i : Int) (text : ByteArray) (ss : List StepB) : Int :=
  if n < 1 ∨ 24 < n then 3
  else if i < 0 ∨ n ≤ i then 5
  else if ss.length = (sidesN n.toNat i.toNat).length then
    (match leafO text with | none => 2 | some x => walkE root x (sidesN n.toNat i.toNat) ss)
  else 7

theorem walkE_ok (root : ByteArray) : ∀ (bs : List Bool) (ss : List StepB) (now : ByteArray),
    walkE root now bs ss = 0 ↔ ss.map (·.1) = bs ∧ ss.foldl (fun o s => o.bind fun x => joinO x s) (some now) = some root
  | [], [], now => by
    unfold walkE
    by_cases h : now = root <;> simp [h]
  | b :: bs, s :: ss, now => by
    unfold walkE
    have hnone : ∀ ss : List StepB, ss.foldl (fun o s => o.bind fun x => joinO x s) none = none := by
      intro ss; induction ss with
      | nil => rfl
      | cons s ss ih => simpa using ih
    by_cases h : s.1 = b
    · rw [if_pos h]
      cases hj : joinO now s with
      | none => simp [hj, hnone]
      | some x =>
        have := walkE_ok root bs ss x
        simp only [this, List.map_cons, List.cons.injEq, h, true_and, List.foldl_cons, Option.bind_some, hj]
    · rw [if_neg h]
      simp [h]
  | [], s :: ss, now => by simp [walkE]
  | b :: bs, [], now => by simp [walkE]

theorem showE_ok (root : ByteArray) (n i : Nat) (text : ByteArray) (ss : List StepB) (h1 : 1 ≤ n) (h24 : n ≤ 24) (hi : i < n) :
    showE root n i text ss = 0 ↔ ss.map (·.1) = sidesN n i ∧ upO text ss = some root := by
  unfold showE
  rw [if_neg (by omega), if_neg (by omega)]
  simp only [Int.toNat_natCast]
  have hnone : ∀ ss : List StepB, ss.foldl (fun o s => o.bind fun x => joinO x s) none = none := by
    intro ss; induction ss with
    | nil => rfl
    | cons s ss ih => simpa using ih
  by_cases hl : ss.length = (sidesN n i).length
  · rw [if_pos hl]
    unfold upO
    cases hL : leafO text with
    | none => simp [hnone]
    | some x => exact walkE_ok root _ ss x
  · rw [if_neg hl]
    constructor
    · intro h; cases h
    · intro h; exact absurd (by rw [← h.1]; simp) hl

/- P3.3: just one text and one path. -/
theorem up_iff : ∀ (k : Nat) (l : List ByteArray) (i : Nat) (r t : ByteArray) (ss : List StepB), l.length ≤ k → i < l.length → rootS l = some r → ss.map (·.1) = sidesN l.length i →
    (upO t ss = some r ↔ t = l.getD i ByteArray.empty ∧ ss = pathS l i)
  | k, l, i, r, t, ss, hk, hi, hr, hs => by
    rcases Nat.lt_or_ge l.length 2 with h | h
    · rw [sidesN_one (by omega)] at hs
      obtain rfl := List.map_eq_nil_iff.1 hs
      obtain rfl : i = 0 := by omega
      rw [rootS_one (by omega)] at hr
      rw [pathS_one (by omega), upO_nil]
      obtain ⟨hsz, rfl⟩ := leafO_some hr
      constructor
      · intro ht
        exact ⟨leafS_inj (leafO_some ht).2.symm, rfl⟩
      · rintro ⟨rfl, _⟩; exact hr
    · have hlt := halfN_lt h
      have hpos := halfN_pos l.length
      obtain ⟨h24, a, b, ha, hb, hn⟩ := rootS_some_two h hr
      have sa := rootS_size ha
      have sb := rootS_size hb
      obtain ⟨hsz, rfl⟩ := nodeO_some hn
      rcases List.eq_nil_or_concat ss with rfl | ⟨ss', s, rfl⟩
      · exfalso
        rcases Nat.lt_or_ge i (halfN l.length) with hj | hj
        · rw [sidesN_low h hj] at hs; simp at hs
        · rw [sidesN_high h hj] at hs; simp at hs
      rw [List.concat_eq_append] at hs ⊢
      rw [upO_snoc]
      obtain ⟨sb', sx⟩ := s
      rcases Nat.lt_or_ge i (halfN l.length) with hj | hj
      · have hl : (l.take (halfN l.length)).length = halfN l.length := by rw [List.length_take]; omega
        rw [sidesN_low h hj, List.map_append] at hs
        obtain ⟨hs1, hs2⟩ := List.append_inj' hs rfl
        have hs2 : sb' = false := by simpa using hs2
        subst hs2
        have ih := up_iff (k - 1) (l.take (halfN l.length)) i a t ss' (by omega) (by omega) ha (by rw [hl]; exact hs1)
        rw [pathS_low h hj, (root_pos hb).1]
        have hg : (l.take (halfN l.length)).getD i ByteArray.empty = l.getD i ByteArray.empty := by simp [hj, List.getD_eq_getElem?_getD]
        rw [hg] at ih
        constructor
        · intro hu
          obtain ⟨x, hx, hu⟩ := Option.bind_eq_some_iff.1 hu
          have hu : nodeO x sx = some (nodeS a b) := hu
          obtain ⟨hz, he⟩ := nodeO_some hu
          obtain ⟨rfl, rfl⟩ := nodeS_inj (by omega) (by omega) he
          obtain ⟨e1, e2⟩ := ih.1 hx
          exact ⟨e1, by rw [e2]⟩
        · rintro ⟨e1, e2⟩
          obtain ⟨e3, e4⟩ := List.append_inj' e2 rfl
          have e4 : sx = b := by simpa using e4
          subst e4
          rw [ih.2 ⟨e1, e3⟩, Option.bind_some]
          exact hn
      · have hl : (l.drop (halfN l.length)).length = l.length - halfN l.length := by rw [List.length_drop]
        rw [sidesN_high h hj, List.map_append] at hs
        obtain ⟨hs1, hs2⟩ := List.append_inj' hs rfl
        have hs2 : sb' = true := by simpa using hs2
        subst hs2
        have ih := up_iff (k - 1) (l.drop (halfN l.length)) (i - halfN l.length) b t ss' (by omega) (by omega) hb (by rw [hl]; exact hs1)
        rw [pathS_high h hj, (root_pos ha).1]
        have hg : (l.drop (halfN l.length)).getD (i - halfN l.length) ByteArray.empty = l.getD i ByteArray.empty := by
          simp only [List.getD_eq_getElem?_getD, List.getElem?_drop]
          rw [show halfN l.length + (i - halfN l.length) = i by omega]
        rw [hg] at ih
        constructor
        · intro hu
          obtain ⟨x, hx, hu⟩ := Option.bind_eq_some_iff.1 hu
          have hu : nodeO sx x = some (nodeS a b) := hu
          obtain ⟨hz, he⟩ := nodeO_some hu
          obtain ⟨rfl, rfl⟩ := nodeS_inj (by omega) (by omega) he
          obtain ⟨e1, e2⟩ := ih.1 hx
          exact ⟨e1, by rw [e2]⟩
        · rintro ⟨e1, e2⟩
          obtain ⟨e3, e4⟩ := List.append_inj' e2 rfl
          have e4 : sx = a := by simpa using e4
          subst e4
          rw [ih.2 ⟨e1, e3⟩, Option.bind_some]
          exact hn
termination_by k => k
decreasing_by all_goals omega

theorem show_iff {l : List ByteArray} {r : ByteArray} (i : Nat) (t : ByteArray) (ss : List StepB) (hi : i < l.length) (hr : rootS l = some r) :
    showE r (l.length : Nat) i t ss = 0 ↔ t = l.getD i ByteArray.empty ∧ ss = pathS l i := by
  have h24 := rootS_len hr
  rw [showE_ok r l.length i t ss (by omega) h24 hi]
  constructor
  · rintro ⟨h1, h2⟩
    exact (up_iff l.length l i r t ss (Nat.le_refl _) hi hr h1).1 h2
  · rintro ⟨rfl, rfl⟩
    exact ⟨pathS_map l i, (up_iff l.length l i r _ _ (Nat.le_refl _) hi hr (pathS_map l i)).2 ⟨rfl, rfl⟩⟩
end Go.Proofs.YtmemahlibndoiafFmt
