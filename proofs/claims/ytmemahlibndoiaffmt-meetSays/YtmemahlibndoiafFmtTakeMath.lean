/-
  Plain mathematics: the seals taken from the end, one by one, by their number; what is left of them.
-/
import Derived.Test.YtmemahlibndoiafFmtGrowMath
namespace Go.Proofs.YtmemahlibndoiafFmt
open Go Go.RowKit

/- The two seals, and how many of the seals are left of the first j. -/
def takeJ (old : ByteArray) (x : Nat → ByteArray) (n m : Nat) (kn : Bool) (j : Nat) : Option ((ByteArray × ByteArray) × Nat) :=
  if _h : n ≤ 1 ∨ n ≤ m then
    (if kn then some ((old, old), j) else if j = 0 then none else some ((x (j - 1), x (j - 1)), j - 1))
  else if j = 0 then none
  else if m ≤ halfN n then (takeJ old x (halfN n) m kn (j - 1)).bind fun q => (nodeO q.1.2 (x (j - 1))).bind fun b => some ((q.1.1, b), q.2)
  else (takeJ old x (n - halfN n) (m - halfN n) false (j - 1)).bind fun q => (nodeO (x (j - 1)) q.1.1).bind fun a => (nodeO (x (j - 1)) q.1.2).bind fun b => some ((a, b), q.2)
termination_by n
decreasing_by
  · exact halfN_lt (by omega)
  · have := halfN_pos n; omega

theorem takeJ_known (old : ByteArray) (x : Nat → ByteArray) {n m : Nat} (h : n ≤ 1 ∨ n ≤ m) (j : Nat) : takeJ old x n m true j = some ((old, old), j) := by
  rw [takeJ, dif_pos h, if_pos rfl]
theorem takeJ_one (old : ByteArray) (x : Nat → ByteArray) {n m : Nat} (h : n ≤ 1 ∨ n ≤ m) (j : Nat) : takeJ old x n m false (j + 1) = some ((x j, x j), j) := by
  rw [takeJ, dif_pos h, if_neg (by decide), if_neg (by omega)]; rfl
theorem takeJ_want (old : ByteArray) (x : Nat → ByteArray) {n m : Nat} (h : n ≤ 1 ∨ n ≤ m) : takeJ old x n m false 0 = none := by
  rw [takeJ, dif_pos h, if_neg (by decide), if_pos rfl]
theorem takeJ_zero (old : ByteArray) (x : Nat → ByteArray) {n m : Nat} (h : 2 ≤ n) (h' : m < n) (kn : Bool) : takeJ old x n m kn 0 = none := by
  rw [takeJ, dif_neg (by omega), if_pos rfl]
theorem takeJ_low (old : ByteArray) (x : Nat → ByteArray) {n m : Nat} (h : 2 ≤ n) (h' : m < n) (hm : m ≤ halfN n) (kn : Bool) (j : Nat) :
    takeJ old x n m kn (j + 1) = (takeJ old x (halfN n) m kn j).bind fun q => (nodeO q.1.2 (x j)).bind fun b => some ((q.1.1, b), q.2) := by
  rw [takeJ, dif_neg (by omega), if_neg (by omega), if_pos hm]; rfl
theorem takeJ_high (old : ByteArray) (x : Nat → ByteArray) {n m : Nat} (h : 2 ≤ n) (h' : m < n) (hm : halfN n < m) (kn : Bool) (j : Nat) :
    takeJ old x n m kn (j + 1) = (takeJ old x (n - halfN n) (m - halfN n) false j).bind fun q => (nodeO (x j) q.1.1).bind fun a => (nodeO (x j) q.1.2).bind fun b => some ((a, b), q.2) := by
  rw [takeJ, dif_neg (by omega), if_neg (by omega), if_neg (by omega)]; rfl

def textAt (l : List ByteArray) (i : Nat) : ByteArray := l.getD i ByteArray.empty
theorem textAt_mem {l : List ByteArray} {i : Nat} (h : i < l.length) : textAt l i ∈ l := by
  unfold textAt
  rw [List.getD_eq_getElem?_getD, List.getElem?_eq_getElem h, Option.getD_some]
  exact List.getElem_mem _
theorem take_snoc {l : List ByteArray} {j : Nat} (h : j < l.length) : l.take (j + 1) = l.take j ++ [textAt l j] := by
  unfold textAt
  rw [List.take_add_one, List.getElem?_eq_getElem h, List.getD_eq_getElem?_getD, List.getElem?_eq_getElem h]
  rfl

/- Sizes, and that no more is left than there was. -/
theorem takeJ_left (old : ByteArray) (x : Nat → ByteArray) : ∀ (k n m : Nat) (kn : Bool) (j : Nat) (a b : ByteArray) (i : Nat), n ≤ k → takeJ old x n m kn j = some ((a, b), i) → i ≤ j
  | k, n, m, kn, j, a, b, i, hk, h => by
    by_cases he : n ≤ 1 ∨ n ≤ m
    · cases kn with
      | true => rw [takeJ_known old x he] at h; injection h with h; injection h with _ h; omega
      | false =>
        cases j with
        | zero => rw [takeJ_want old x he] at h; cases h
        | succ j => rw [takeJ_one old x he] at h; injection h with h; injection h with _ h; omega
    · have h2 : 2 ≤ n := by omega
      have h3 := halfN_lt h2
      have h4 := halfN_pos n
      cases j with
      | zero => rw [takeJ_zero old x h2 (by omega)] at h; cases h
      | succ j =>
        rcases Nat.lt_or_ge (halfN n) m with hh | hh
        · rw [takeJ_high old x h2 (by omega) hh] at h
          obtain ⟨⟨⟨p1, p2⟩, q⟩, hp, h⟩ := Option.bind_eq_some_iff.1 h
          obtain ⟨a', _, h⟩ := Option.bind_eq_some_iff.1 h
          obtain ⟨b', _, h⟩ := Option.bind_eq_some_iff.1 h
          injection h with h
          injection h with _ h
          have := takeJ_left old x (k - 1) _ _ _ j p1 p2 q (by omega) hp
          simp only at h
          omega
        · rw [takeJ_low old x h2 (by omega) hh] at h
          obtain ⟨⟨⟨p1, p2⟩, q⟩, hp, h⟩ := Option.bind_eq_some_iff.1 h
          obtain ⟨b', _, h⟩ := Option.bind_eq_some_iff.1 h
          injection h with h
          injection h with _ h
          have := takeJ_left old x (k - 1) _ _ _ j p1 p2 q (by omega) hp
          simp only at h
          omega
termination_by k => k
decreasing_by all_goals omega

theorem take_mk (old : ByteArray) (l : List ByteArray) : ∀ (k n m : Nat) (kn : Bool) (j : Nat), n ≤ k → j ≤ l.length →
    mkS old n m kn (l.take j) = (takeJ old (textAt l) n m kn j).bind fun q => if q.2 = 0 then some q.1 else none
  | k, n, m, kn, j, hk, hj => by
    by_cases he : n ≤ 1 ∨ n ≤ m
    · cases kn with
      | true =>
        rw [takeJ_known old _ he, mkS_known old he]
        simp only [Option.bind_some]
        by_cases h0 : j = 0
        · subst h0; rfl
        · rw [if_neg h0, if_neg]
          intro e
          have hl := congrArg List.length e
          rw [List.length_take, List.length_nil] at hl
          omega
      | false =>
        rw [mkS_unknown old he]
        cases j with
        | zero => rw [takeJ_want old _ he]; rfl
        | succ j =>
          rw [takeJ_one old _ he]
          simp only [Option.bind_some]
          unfold oneS
          by_cases h0 : j = 0
          · subst h0
            rw [if_pos (by rw [List.length_take]; omega), if_pos rfl, take_snoc hj]
            rfl
          · rw [if_neg (by rw [List.length_take]; omega), if_neg h0]
    · have h2 : 2 ≤ n := by omega
      have h3 := halfN_lt h2
      have h4 := halfN_pos n
      cases j with
      | zero => rw [takeJ_zero old _ h2 (by omega), List.take_zero, mkS_nil old h2 (by omega)]; rfl
      | succ j =>
        rw [take_snoc hj]
        rcases Nat.lt_or_ge (halfN n) m with hh | hh
        · rw [takeJ_high old _ h2 (by omega) hh, mkS_high old h2 (by omega) hh, take_mk old l (k - 1) _ _ _ j (by omega) (by omega)]
          rcases takeJ old (textAt l) (n - halfN n) (m - halfN n) false j with _ | ⟨⟨p1, p2⟩, q⟩
          · rfl
          · simp only [Option.bind_some]
            by_cases hq : q = 0
            · subst hq
              rw [if_pos rfl]
              simp only [Option.bind_some]
              rcases nodeO (textAt l j) p1 with _ | u
              · rfl
              · rcases nodeO (textAt l j) p2 with _ | v <;> rfl
            · rw [if_neg hq, Option.bind_none]
              rcases nodeO (textAt l j) p1 with _ | u
              · rfl
              · rcases nodeO (textAt l j) p2 with _ | v
                · rfl
                · simp only [Option.bind_some]; rw [if_neg hq]
        · rw [takeJ_low old _ h2 (by omega) hh, mkS_low old h2 (by omega) hh, take_mk old l (k - 1) _ _ _ j (by omega) (by omega)]
          rcases takeJ old (textAt l) (halfN n) m kn j with _ | ⟨⟨p1, p2⟩, q⟩
          · rfl
          · simp only [Option.bind_some]
            by_cases hq : q = 0
            · subst hq
              rw [if_pos rfl]
              simp only [Option.bind_some]
              rcases nodeO p2 (textAt l j) with _ | v <;> rfl
            · rw [if_neg hq, Option.bind_none]
              rcases nodeO p2 (textAt l j) with _ | v
              · rfl
              · simp only [Option.bind_some]; rw [if_neg hq]
termination_by k => k
decreasing_by all_goals omega

theorem growE_take (old root : ByteArray) (m n : Nat) (l : List ByteArray) (h1 : 1 ≤ m) (hm : m ≤ n) (h24 : n ≤ 24) :
    growE old m root n l = if takeJ old (textAt l) n m true l.length = some ((old, root), 0) then 0 else 7 := by
  unfold growE
  rw [if_neg (by omega)]
  simp only [Int.toNat_natCast]
  have := take_mk old l n n m true l.length (Nat.le_refl _) (Nat.le_refl _)
  rw [List.take_length] at this
  have key : mkS old n m true l = some (old, root) ↔ takeJ old (textAt l) n m true l.length = some ((old, root), 0) := by
    rw [this]
    rcases takeJ old (textAt l) n m true l.length with _ | ⟨⟨p1, p2⟩, q⟩
    · simp
    · simp only [Option.bind_some]
      by_cases hq : q = 0
      · subst hq
        rw [if_pos rfl]
        simp
      · rw [if_neg hq]
        simp [hq]
  by_cases hk : mkS old n m true l = some (old, root)
  · rw [if_pos hk, if_pos (key.1 hk)]
  · rw [if_neg hk, if_neg (fun h => hk (key.2 h))]
/- How many seals there are, and how long they are. -/
theorem growS_len : ∀ (k : Nat) (l : List ByteArray) (m : Nat) (kn : Bool), l.length ≤ k → 1 ≤ l.length → (growS l m kn).length ≤ l.length
  | k, l, m, kn, hk, h1 => by
    by_cases he : l.length ≤ 1 ∨ l.length ≤ m
    · rw [growS_all he]
      split
      · exact Nat.zero_le _
      · exact h1
    · have h2 : 2 ≤ l.length := by omega
      have h3 := halfN_lt h2
      have h4 := halfN_pos l.length
      have l1 : (l.take (halfN l.length)).length = halfN l.length := by rw [List.length_take]; omega
      have l2 : (l.drop (halfN l.length)).length = l.length - halfN l.length := by rw [List.length_drop]
      rcases Nat.lt_or_ge (halfN l.length) m with hh | hh
      · rw [growS_high h2 (by omega) hh, List.length_append, List.length_singleton]
        have := growS_len (k - 1) (l.drop (halfN l.length)) (m - halfN l.length) false (by omega) (by omega)
        omega
      · rw [growS_low h2 (by omega) hh, List.length_append, List.length_singleton]
        have := growS_len (k - 1) (l.take (halfN l.length)) m kn (by omega) (by omega)
        omega
termination_by k => k
decreasing_by all_goals omega
theorem growS_size : ∀ (k : Nat) (l : List ByteArray) (m : Nat) (kn : Bool), l.length ≤ k → ∀ s ∈ growS l m kn, s.size ≤ 20007
  | k, l, m, kn, hk => by
    by_cases he : l.length ≤ 1 ∨ l.length ≤ m
    · rw [growS_all he]
      intro s hs
      split at hs
      · cases hs
      · rw [List.mem_singleton.1 hs]; exact rootV_size _
    · have h2 : 2 ≤ l.length := by omega
      have h3 := halfN_lt h2
      have h4 := halfN_pos l.length
      have l1 : (l.take (halfN l.length)).length = halfN l.length := by rw [List.length_take]; omega
      have l2 : (l.drop (halfN l.length)).length = l.length - halfN l.length := by rw [List.length_drop]
      rcases Nat.lt_or_ge (halfN l.length) m with hh | hh
      · rw [growS_high h2 (by omega) hh]
        intro s hs
        rcases List.mem_append.1 hs with hs | hs
        · exact growS_size (k - 1) (l.drop (halfN l.length)) (m - halfN l.length) false (by omega) s hs
        · rw [List.mem_singleton.1 hs]; exact rootV_size _
      · rw [growS_low h2 (by omega) hh]
        intro s hs
        rcases List.mem_append.1 hs with hs | hs
        · exact growS_size (k - 1) (l.take (halfN l.length)) m kn (by omega) s hs
        · rw [List.mem_singleton.1 hs]; exact rootV_size _
termination_by k => k
decreasing_by all_goals omega
end Go.Proofs.YtmemahlibndoiafFmt
