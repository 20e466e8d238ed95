/-
  Plain mathematics of package grow: the seals that show that a list went on, what is made of them again, and that just these show it.
-/
import Derived.Test.YtmemahlibndoiafFmtPathMath
namespace Go.Proofs.YtmemahlibndoiafFmt
open Go Go.RowKit

/- The seals for m of l; known: whether the seal of the first m is at hand. -/
def growS (l : List ByteArray) (m : Nat) (known : Bool) : List ByteArray :=
  if _h : l.length ≤ 1 ∨ l.length ≤ m then (if known then [] else [rootV l])
  else if m ≤ halfN l.length then growS (l.take (halfN l.length)) m known ++ [rootV (l.drop (halfN l.length))]
  else growS (l.drop (halfN l.length)) (m - halfN l.length) false ++ [rootV (l.take (halfN l.length))]
termination_by l.length
decreasing_by
  · have := halfN_lt (n := l.length) (by omega)
    rw [List.length_take]; omega
  · have := halfN_pos l.length
    rw [List.length_drop]; omega

theorem growS_all {l : List ByteArray} {m : Nat} (h : l.length ≤ 1 ∨ l.length ≤ m) (kn : Bool) : growS l m kn = if kn then [] else [rootV l] := by rw [growS, dif_pos h]
theorem growS_low {l : List ByteArray} {m : Nat} (h : 2 ≤ l.length) (h' : m < l.length) (hm : m ≤ halfN l.length) (kn : Bool) :
    growS l m kn = growS (l.take (halfN l.length)) m kn ++ [rootV (l.drop (halfN l.length))] := by rw [growS, dif_neg (by omega), if_pos hm]
theorem growS_high {l : List ByteArray} {m : Nat} (h : 2 ≤ l.length) (h' : m < l.length) (hm : halfN l.length < m) (kn : Bool) :
    growS l m kn = growS (l.drop (halfN l.length)) (m - halfN l.length) false ++ [rootV (l.take (halfN l.length))] := by rw [growS, dif_neg (by omega), if_neg (by omega)]

/- Just one. -/
def oneS (x : List ByteArray) : Option (ByteArray × ByteArray) := if x.length = 1 then some (x.getD 0 ByteArray.empty, x.getD 0 ByteArray.empty) else none
theorem oneS_some {x : List ByteArray} {a b : ByteArray} (h : oneS x = some (a, b)) : x = [b] ∧ a = b := by
  unfold oneS at h
  split at h
  · rename_i hl
    injection h with h
    injection h with e1 e2
    match x, hl with
    | [y], _ =>
      simp only [List.getD_cons_zero] at e1 e2
      exact ⟨by rw [e2], by rw [← e1, e2]⟩
  · cases h

/- What is made of seals again: the seal of the first m, and of all n. -/
def mkS (old : ByteArray) (n m : Nat) (known : Bool) (x : List ByteArray) : Option (ByteArray × ByteArray) :=
  if _h : n ≤ 1 ∨ n ≤ m then
    (if known then (if x = [] then some (old, old) else none)
     else oneS x)
  else match x.getLast? with
    | none => none
    | some s =>
      if m ≤ halfN n then (mkS old (halfN n) m known x.dropLast).bind fun p => (nodeO p.2 s).bind fun b => some (p.1, b)
      else (mkS old (n - halfN n) (m - halfN n) false x.dropLast).bind fun p => (nodeO s p.1).bind fun a => (nodeO s p.2).bind fun b => some (a, b)
termination_by n
decreasing_by
  · exact halfN_lt (by omega)
  · have := halfN_pos n; omega

theorem mkS_known (old : ByteArray) {n m : Nat} (h : n ≤ 1 ∨ n ≤ m) (x : List ByteArray) : mkS old n m true x = if x = [] then some (old, old) else none := by
  rw [mkS, dif_pos h, if_pos rfl]
theorem mkS_unknown (old : ByteArray) {n m : Nat} (h : n ≤ 1 ∨ n ≤ m) (x : List ByteArray) : mkS old n m false x = oneS x := by
  rw [mkS, dif_pos h, if_neg (by decide)]
theorem mkS_nil (old : ByteArray) {n m : Nat} (h : 2 ≤ n) (h' : m < n) (kn : Bool) : mkS old n m kn [] = none := by
  rw [mkS, dif_neg (by omega)]; rfl
theorem mkS_low (old : ByteArray) {n m : Nat} (h : 2 ≤ n) (h' : m < n) (hm : m ≤ halfN n) (kn : Bool) (x : List ByteArray) (s : ByteArray) :
    mkS old n m kn (x ++ [s]) = (mkS old (halfN n) m kn x).bind fun p => (nodeO p.2 s).bind fun b => some (p.1, b) := by
  rw [mkS, dif_neg (by omega)]
  simp only [List.getLast?_append, List.getLast?_singleton, Option.some_or, List.dropLast_concat]
  rw [if_pos hm]
theorem mkS_high (old : ByteArray) {n m : Nat} (h : 2 ≤ n) (h' : m < n) (hm : halfN n < m) (kn : Bool) (x : List ByteArray) (s : ByteArray) :
    mkS old n m kn (x ++ [s]) = (mkS old (n - halfN n) (m - halfN n) false x).bind fun p => (nodeO s p.1).bind fun a => (nodeO s p.2).bind fun b => some (a, b) := by
  rw [mkS, dif_neg (by omega)]
  simp only [List.getLast?_append, List.getLast?_singleton, Option.some_or, List.dropLast_concat]
  rw [if_neg (by omega)]

/- What Shows answers. -/
def growE (old : ByteArray) (m : Int) (root : ByteArray) (n : Int) (x : List ByteArray) : Int :=
  if m < 1 ∨ n < m ∨ 24 < n then 3
  else if mkS old n.toNat m.toNat true x = some (old, root) then 0 else 7

/- The beginning of a list that has a seal has one, and no longer one. -/
theorem halfN_same {m n : Nat} (h : halfN n < m) (h' : m ≤ n) (h24 : n ≤ 24) : halfN m = halfN n := by
  unfold halfN at *
  split at h <;> (try split at h) <;> (try split at h) <;> (try split at h) <;> (repeat' split) <;> omega

theorem root_take : ∀ (k : Nat) (l : List ByteArray) (m : Nat) (r : ByteArray), l.length ≤ k → 1 ≤ m → m ≤ l.length → rootS l = some r → ∃ a, rootS (l.take m) = some a ∧ a.size ≤ r.size
  | k, l, m, r, hk, h1, hm, hr => by
    rcases Nat.lt_or_ge m l.length with hlt | hge
    · have h2 : 2 ≤ l.length := by omega
      have h3 := halfN_lt h2
      have h4 := halfN_pos l.length
      obtain ⟨h24, a, b, ha, hb, hn⟩ := rootS_some_two h2 hr
      have sa := rootS_size ha
      have sb := rootS_size hb
      obtain ⟨hsz, rfl⟩ := nodeO_some hn
      rcases Nat.lt_or_ge (halfN l.length) m with hh | hh
      · have e1 := halfN_same hh (by omega) h24
        have hl : (l.take m).length = m := by rw [List.length_take]; omega
        obtain ⟨c, hc, hcs⟩ := root_take (k - 1) (l.drop (halfN l.length)) (m - halfN l.length) b (by rw [List.length_drop]; omega) (by omega) (by rw [List.length_drop]; omega) hb
        have e2 : (l.take m).take (halfN l.length) = l.take (halfN l.length) := by rw [List.take_take, Nat.min_eq_left (by omega)]
        have e3 : (l.take m).drop (halfN l.length) = (l.drop (halfN l.length)).take (m - halfN l.length) := by rw [List.drop_take]
        refine ⟨nodeS a c, ?_, ?_⟩
        · rw [rootS_two (by omega) (by omega), hl, e1, e2, e3, ha, hc]
          simp only [Option.bind_some]
          unfold nodeO
          rw [if_pos (by omega)]
        · rw [nodeS_size, nodeS_size]; omega
      · obtain ⟨c, hc, hcs⟩ := root_take (k - 1) (l.take (halfN l.length)) m a (by rw [List.length_take]; omega) h1 (by rw [List.length_take]; omega) ha
        rw [List.take_take, Nat.min_eq_left hh] at hc
        refine ⟨c, hc, ?_⟩
        rw [nodeS_size]; omega
    · rw [List.take_of_length_le hge]
      exact ⟨r, hr, Nat.le_refl _⟩
termination_by k => k
decreasing_by all_goals omega

theorem root_take_node {l : List ByteArray} {m : Nat} {r : ByteArray} (h : halfN l.length < m) (h' : m ≤ l.length) (hr : rootS l = some r) :
    ∃ a c, rootS (l.take (halfN l.length)) = some a ∧ rootS ((l.drop (halfN l.length)).take (m - halfN l.length)) = some c ∧ nodeO a c = some (rootV (l.take m)) := by
  have h4 := halfN_pos l.length
  have h24 := rootS_len hr
  obtain ⟨t, ht, _⟩ := root_take l.length l m r (Nat.le_refl _) (by omega) h' hr
  have hl : (l.take m).length = m := by rw [List.length_take]; omega
  obtain ⟨_, a, b, ha, hb, hn⟩ := rootS_some_two (by omega) ht
  rw [hl, halfN_same h h' h24] at ha hb
  rw [List.take_take, Nat.min_eq_left (by omega)] at ha
  rw [List.drop_take] at hb
  exact ⟨a, b, ha, hb, by rw [(root_pos ht).1]; exact hn⟩

/- P4.3: what is made again is the list's own, by just these seals. -/
theorem mk_only : ∀ (k : Nat) (l : List ByteArray) (m : Nat) (kn : Bool) (old r a : ByteArray) (x : List ByteArray), l.length ≤ k → 1 ≤ m → m ≤ l.length → rootS l = some r →
    mkS old l.length m kn x = some (a, r) → x = growS l m kn ∧ a = rootV (l.take m)
  | k, l, m, kn, old, r, a, x, hk, h1, hm, hr, hx => by
    rcases Nat.lt_or_ge m l.length with hlt | hge
    · have h2 : 2 ≤ l.length := by omega
      have h3 := halfN_lt h2
      have h4 := halfN_pos l.length
      obtain ⟨h24, u, v, hu, hv, hn⟩ := rootS_some_two h2 hr
      have su := rootS_size hu
      have sv := rootS_size hv
      have l1 : (l.take (halfN l.length)).length = halfN l.length := by rw [List.length_take]; omega
      have l2 : (l.drop (halfN l.length)).length = l.length - halfN l.length := by rw [List.length_drop]
      obtain ⟨hsz, rfl⟩ := nodeO_some hn
      rcases List.eq_nil_or_concat x with rfl | ⟨x', s, rfl⟩
      · rw [mkS_nil old h2 hlt] at hx; cases hx
      rw [List.concat_eq_append] at hx ⊢
      rcases Nat.lt_or_ge (halfN l.length) m with hh | hh
      · rw [mkS_high old h2 hlt hh] at hx
        obtain ⟨⟨p1, p2⟩, hp, hx⟩ := Option.bind_eq_some_iff.1 hx
        obtain ⟨a', ha', hx⟩ := Option.bind_eq_some_iff.1 hx
        obtain ⟨b', hb', hx⟩ := Option.bind_eq_some_iff.1 hx
        injection hx with hx
        injection hx with e1 e2
        subst e1
        subst e2
        obtain ⟨hz, he⟩ := nodeO_some hb'
        obtain ⟨rfl, rfl⟩ := nodeS_inj (by omega) (by omega) he
        rw [← l2] at hp
        obtain ⟨e3, e4⟩ := mk_only (k - 1) _ _ _ old v p1 x' (by omega) (by omega) (by omega) hv hp
        obtain ⟨a2, c2, ha2, hc2, hn2⟩ := root_take_node hh hm hr
        refine ⟨?_, ?_⟩
        · rw [growS_high h2 hlt hh, (root_pos hu).1, e3]
        · rw [hu] at ha2
          injection ha2 with ha2
          subst ha2
          rw [(root_pos hc2).1] at e4
          subst e4
          rw [hn2] at ha'
          injection ha' with ha'
          exact ha'.symm
      · rw [mkS_low old h2 hlt hh] at hx
        obtain ⟨⟨p1, p2⟩, hp, hx⟩ := Option.bind_eq_some_iff.1 hx
        obtain ⟨b', hb', hx⟩ := Option.bind_eq_some_iff.1 hx
        injection hx with hx
        injection hx with e1 e2
        subst e1
        subst e2
        obtain ⟨hz, he⟩ := nodeO_some hb'
        obtain ⟨rfl, rfl⟩ := nodeS_inj (by omega) (by omega) he
        rw [← l1] at hp
        obtain ⟨e3, e4⟩ := mk_only (k - 1) _ _ _ old u p1 x' (by omega) h1 (by omega) hu hp
        refine ⟨?_, ?_⟩
        · rw [growS_low h2 hlt hh, (root_pos hv).1, e3]
        · rw [e4, List.take_take, Nat.min_eq_left hh]
    · obtain rfl : m = l.length := by omega
      rw [List.take_length, growS_all (Or.inr (Nat.le_refl _)), (root_pos hr).1]
      cases kn with
      | true =>
        rw [mkS_known old (Or.inr (Nat.le_refl _))] at hx
        split at hx
        · rename_i h0
          injection hx with hx
          injection hx with e1 e2
          exact ⟨h0, by rw [← e1, e2]⟩
        · cases hx
      | false =>
        rw [mkS_unknown old (Or.inr (Nat.le_refl _))] at hx
        obtain ⟨e1, e2⟩ := oneS_some hx
        exact ⟨e1, e2⟩
termination_by k => k
decreasing_by all_goals omega

theorem mk_ok : ∀ (k : Nat) (l : List ByteArray) (m : Nat) (kn : Bool) (old r : ByteArray), l.length ≤ k → 1 ≤ m → m ≤ l.length → rootS l = some r → (kn = true → old = rootV (l.take m)) →
    mkS old l.length m kn (growS l m kn) = some (rootV (l.take m), r)
  | k, l, m, kn, old, r, hk, h1, hm, hr, ho => by
    rcases Nat.lt_or_ge m l.length with hlt | hge
    · have h2 : 2 ≤ l.length := by omega
      have h3 := halfN_lt h2
      have h4 := halfN_pos l.length
      obtain ⟨h24, u, v, hu, hv, hn⟩ := rootS_some_two h2 hr
      have l1 : (l.take (halfN l.length)).length = halfN l.length := by rw [List.length_take]; omega
      have l2 : (l.drop (halfN l.length)).length = l.length - halfN l.length := by rw [List.length_drop]
      rcases Nat.lt_or_ge (halfN l.length) m with hh | hh
      · rw [growS_high h2 hlt hh, mkS_high old h2 hlt hh, ← l2, mk_ok (k - 1) _ _ _ old v (by omega) (by omega) (by omega) hv (fun h => by cases h), (root_pos hu).1]
        obtain ⟨a2, c2, ha2, hc2, hn2⟩ := root_take_node hh hm hr
        rw [hu] at ha2
        injection ha2 with ha2
        subst ha2
        simp only [Option.bind_some]
        rw [(root_pos hc2).1, hn2, hn]
        rfl
      · rw [growS_low h2 hlt hh, mkS_low old h2 hlt hh]
        have e : (l.take (halfN l.length)).take m = l.take m := by rw [List.take_take, Nat.min_eq_left hh]
        have ih := mk_ok (k - 1) (l.take (halfN l.length)) m kn old u (by omega) h1 (by omega) hu (by rw [e]; exact ho)
        rw [l1, e] at ih
        rw [ih, (root_pos hv).1]
        simp only [Option.bind_some]
        rw [hn]
        rfl
    · obtain rfl : m = l.length := by omega
      rw [List.take_length] at ho ⊢
      rw [growS_all (Or.inr (Nat.le_refl _)), (root_pos hr).1]
      rw [(root_pos hr).1] at ho
      cases kn with
      | true =>
        rw [mkS_known old (Or.inr (Nat.le_refl _)), ho rfl]
        rfl
      | false =>
        rw [mkS_unknown old (Or.inr (Nat.le_refl _))]
        rfl
termination_by k => k
decreasing_by all_goals omega

theorem grow_iff {l : List ByteArray} {r : ByteArray} {m : Nat} (old : ByteArray) (x : List ByteArray) (h1 : 1 ≤ m) (hm : m ≤ l.length) (hr : rootS l = some r) :
    growE old (m : Nat) r (l.length : Nat) x = 0 ↔ old = rootV (l.take m) ∧ x = growS l m true := by
  have h24 := rootS_len hr
  unfold growE
  rw [if_neg (by omega)]
  simp only [Int.toNat_natCast]
  constructor
  · intro h
    split at h
    · rename_i hk
      obtain ⟨e1, e2⟩ := mk_only l.length l m true old r old x (Nat.le_refl _) h1 hm hr hk
      exact ⟨e2, e1⟩
    · cases h
  · rintro ⟨e1, e2⟩
    rw [if_pos]
    subst e2
    have := mk_ok l.length l m true old r (Nat.le_refl _) h1 hm hr (fun _ => e1)
    rw [← e1] at this
    exact this
end Go.Proofs.YtmemahlibndoiafFmt
