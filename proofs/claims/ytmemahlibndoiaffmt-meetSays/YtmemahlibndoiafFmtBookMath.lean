/-
  Plain mathematics of chapter 6: an entry as a text, a book's check, what its entries come to, its head; no two books have one head.
-/
import Derived.Test.YtmemahlibndoiafFmtMapMath
import Derived.Lib.ItoaLen
namespace Go.Proofs.YtmemahlibndoiafFmt
open Go Go.RowKit Go.Maps

abbrev EntB := Int × ByteArray
def numB (k : Int) : ByteArray := ⟨(Lib.itoa k).toArray⟩
def textE (e : EntB) : ByteArray := numB e.1 ++ ⟨#[32]⟩ ++ e.2
def textsE (l : List EntB) : List ByteArray := l.map textE

theorem numB_data (k : Int) : (numB k).data.toList = Lib.itoa k := by simp [numB]
theorem numB_nat (n : Nat) : numB (n : Int) = itoaB n := rfl
theorem numB_size {k : Int} (h0 : -9223372036854775808 ≤ k) (h1 : k ≤ 9223372036854775807) : (numB k).size ≤ 21 := by
  rw [ba_size, numB_data]
  exact Lib.itoa_length_le k h0 h1
theorem textE_data (e : EntB) : (textE e).data.toList = Lib.itoa e.1 ++ 32 :: e.2.data.toList := by
  unfold textE
  rw [ba_app, ba_app, numB_data]
  simp
theorem textE_size (e : EntB) : (textE e).size = (numB e.1).size + 1 + e.2.size := by
  rw [ba_size, textE_data, ba_size, numB_data, ba_size]
  simp
  omega

/- An entry comes back out of its text. -/
theorem cut_blank : ∀ (d d' r r' : List UInt8), (∀ c ∈ d, c ≠ 32) → (∀ c ∈ d', c ≠ 32) → d ++ 32 :: r = d' ++ 32 :: r' → d = d' ∧ r = r'
  | [], [], r, r', _, _, h => by simpa using h
  | [], c :: d', r, r', _, h2, h => by
    injection h with h _
    exact absurd h.symm (h2 c (by simp))
  | c :: d, [], r, r', h1, _, h => by
    injection h with h _
    exact absurd h (h1 c (by simp))
  | c :: d, c' :: d', r, r', h1, h2, h => by
    injection h with h3 h4
    obtain ⟨e1, e2⟩ := cut_blank d d' r r' (fun x hx => h1 x (by simp [hx])) (fun x hx => h2 x (by simp [hx])) h4
    exact ⟨by rw [h3, e1], e2⟩
theorem decDigits_no32 (u : Nat) : ∀ c ∈ Lib.decDigits u, c ≠ 32 := by
  intro c hc h
  have := (decDigits_digit u c hc).1
  rw [h] at this
  exact absurd this (by decide)
def GoodEnt (e : EntB) : Prop := 0 ≤ e.1 ∧ e.1 < 16 ∧ e.2.size ≤ 12
theorem textE_inj {e f : EntB} (he : GoodEnt e) (hf : GoodEnt f) (h : textE e = textE f) : e = f := by
  obtain ⟨k, v⟩ := e
  obtain ⟨j, u⟩ := f
  obtain ⟨a1, a2, _⟩ := he
  obtain ⟨b1, b2, _⟩ := hf
  simp only at a1 a2 b1 b2
  obtain ⟨k, rfl⟩ : ∃ n : Nat, k = n := ⟨k.toNat, by omega⟩
  obtain ⟨j, rfl⟩ : ∃ n : Nat, j = n := ⟨j.toNat, by omega⟩
  have h' : (textE ((k : Int), v)).data.toList = (textE ((j : Int), u)).data.toList := by rw [h]
  rw [textE_data, textE_data] at h'
  simp only [Lib.itoa_nonneg] at h'
  obtain ⟨e1, e2⟩ := cut_blank _ _ _ _ (decDigits_no32 k) (decDigits_no32 j) h'
  have n1 := numOf_digits k (by omega)
  rw [e1, numOf_digits j (by omega)] at n1
  injection n1 with n1
  rw [n1, ba_ext e2]
theorem textsE_inj : ∀ {l m : List EntB}, (∀ e ∈ l, GoodEnt e) → (∀ e ∈ m, GoodEnt e) → textsE l = textsE m → l = m
  | [], [], _, _, _ => rfl
  | [], _ :: _, _, _, h => by cases h
  | _ :: _, [], _, _, h => by cases h
  | e :: l, f :: m, h1, h2, h => by
    injection h with h3 h4
    rw [textE_inj (h1 e (by simp)) (h2 f (by simp)) h3, textsE_inj (fun x hx => h1 x (by simp [hx])) (fun x hx => h2 x (by simp [hx])) h4]

/- Check. -/
def entryE (e : EntB) : Int := if e.1 < 0 ∨ 16 ≤ e.1 then 5 else if 12 < e.2.size then 2 else 0
def firstE : List EntB → Int
  | [] => 0
  | e :: l => if entryE e = 0 then firstE l else entryE e
def bookE (l : List EntB) : Int := if 24 < l.length then 2 else firstE l
def GoodBook (l : List EntB) : Prop := l.length ≤ 24 ∧ ∀ e ∈ l, GoodEnt e
theorem entry_who {e : EntB} (h : e.1 < 0 ∨ 16 ≤ e.1) : entryE e = 5 := by unfold entryE; rw [if_pos h]
theorem entry_many {e : EntB} (h : ¬ (e.1 < 0 ∨ 16 ≤ e.1)) (h2 : 12 < e.2.size) : entryE e = 2 := by unfold entryE; rw [if_neg h, if_pos h2]
theorem entry_ok {e : EntB} (h : ¬ (e.1 < 0 ∨ 16 ≤ e.1)) (h2 : ¬ 12 < e.2.size) : entryE e = 0 := by unfold entryE; rw [if_neg h, if_neg h2]
theorem entry_iff (e : EntB) : entryE e = 0 ↔ GoodEnt e := by
  unfold GoodEnt
  by_cases h : e.1 < 0 ∨ 16 ≤ e.1
  · rw [entry_who h]; constructor
    · intro h; cases h
    · intro h; omega
  · by_cases h2 : 12 < e.2.size
    · rw [entry_many h h2]; constructor
      · intro h; cases h
      · intro h; omega
    · rw [entry_ok h h2]; constructor
      · intro _; omega
      · intro _; rfl
theorem entry_cases (e : EntB) : entryE e = 0 ∨ entryE e = 5 ∨ entryE e = 2 := by
  unfold entryE
  split
  · exact .inr (.inl rfl)
  · split
    · exact .inr (.inr rfl)
    · exact .inl rfl
theorem firstE_iff : ∀ l : List EntB, firstE l = 0 ↔ ∀ e ∈ l, GoodEnt e
  | [] => by simp [firstE]
  | e :: l => by
    have ih := firstE_iff l
    by_cases h : entryE e = 0
    · simp only [firstE, if_pos h, List.mem_cons, forall_eq_or_imp, ih]
      exact ⟨fun q => ⟨(entry_iff e).1 h, q⟩, fun q => q.2⟩
    · simp only [firstE, if_neg h, List.mem_cons, forall_eq_or_imp]
      exact ⟨fun q => absurd q h, fun q => absurd ((entry_iff e).2 q.1) h⟩
theorem bookE_many {l : List EntB} (h : 24 < l.length) : bookE l = 2 := by unfold bookE; rw [if_pos h]
theorem bookE_few {l : List EntB} (h : ¬ 24 < l.length) : bookE l = firstE l := by unfold bookE; rw [if_neg h]
theorem bookE_iff (l : List EntB) : bookE l = 0 ↔ GoodBook l := by
  unfold GoodBook
  by_cases h : 24 < l.length
  · rw [bookE_many h]; constructor
    · intro h; cases h
    · intro h; omega
  · rw [bookE_few h, firstE_iff]
    exact ⟨fun q => ⟨by omega, q⟩, fun q => q.2⟩

/- Values. -/
def putE (D : DataW Unit) (e : EntB) : DataW Unit := D.put (.int .i64 e.1) (.lit (.string e.2.data.toList))
def valsD (l : List EntB) : DataW Unit := l.foldl putE (.map [])
theorem valsD_nil : valsD [] = .map [] := rfl
theorem valsD_snoc (l : List EntB) (e : EntB) : valsD (l ++ [e]) = putE (valsD l) e := by
  unfold valsD
  rw [List.foldl_append]
  rfl
theorem putE_tidy {D : DataW Unit} (h : Tidy D) (e : EntB) : Tidy (putE D e) := Tidy.put (k := .int .i64 e.1) h trivial _
theorem foldl_tidy : ∀ (l : List EntB) {D : DataW Unit}, Tidy D → Tidy (l.foldl putE D)
  | [], _, h => h
  | e :: l, _, h => foldl_tidy l (putE_tidy h e)
theorem valsD_tidy (l : List EntB) : Tidy (valsD l) := foldl_tidy l ⟨[], rfl, List.Pairwise.nil⟩
theorem isMap_of {D : DataW Unit} (h : Tidy D) : IsMap D := by
  obtain ⟨es, rfl, _⟩ := h
  exact ⟨es, rfl⟩
theorem putE_val {D : DataW Unit} (h : Tidy D) (e : EntB) (j : Int) : valD (putE D e) j = if j = e.1 then some e.2 else valD D j := valD_put (isMap_of h) j e.1 e.2
theorem putE_good {D : DataW Unit} (h : Tidy D) (hG : GoodMap D) {e : EntB} (he : GoodEnt e) : GoodMap (putE D e) := by
  intro j s hs
  rw [putE_val h] at hs
  split at hs
  · rename_i hj
    injection hs with hs
    subst hs hj
    exact he
  · exact hG j s hs
theorem foldl_good : ∀ (l : List EntB) {D : DataW Unit}, Tidy D → GoodMap D → (∀ e ∈ l, GoodEnt e) → GoodMap (l.foldl putE D)
  | [], _, _, h, _ => h
  | e :: l, _, h0, h, hl => foldl_good l (putE_tidy h0 e) (putE_good h0 h (hl e (by simp))) (fun x hx => hl x (by simp [hx]))
theorem valsD_good {l : List EntB} (h : ∀ e ∈ l, GoodEnt e) : GoodMap (valsD l) :=
  foldl_good l ⟨[], rfl, List.Pairwise.nil⟩ (fun k s hs => by rw [valD_empty] at hs; cases hs) h
theorem size_step (l : List EntB) (e : EntB) : size (valsD (l ++ [e])) = size (valsD l) ∨ size (valsD (l ++ [e])) = size (valsD l) + 1 := by
  rw [valsD_snoc]
  have := size_put (k := .int .i64 e.1) (valsD_tidy l) (.lit (.string e.2.data.toList))
  unfold putE
  rw [this]
  split
  · exact .inl rfl
  · exact .inr rfl
theorem foldl_size : ∀ (l : List EntB) {D : DataW Unit}, Tidy D → size (l.foldl putE D) ≤ size D + l.length
  | [], _, _ => Nat.le_refl _
  | e :: l, D, h => by
    have h1 := foldl_size l (putE_tidy h e)
    have h2 : size (putE D e) ≤ size D + 1 := by
      have := size_put (k := .int .i64 e.1) h (.lit (.string e.2.data.toList))
      unfold putE
      rw [this]
      split <;> omega
    show size (l.foldl putE (putE D e)) ≤ size D + (l.length + 1)
    omega
theorem valsD_size (l : List EntB) : size (valsD l) ≤ l.length := by
  have := foldl_size l (D := .map []) ⟨[], rfl, List.Pairwise.nil⟩
  have h0 : size (.map [] : DataW Unit) = 0 := rfl
  unfold valsD
  omega
theorem take_snocB {l : List EntB} {k : Nat} (h : k < l.length) : l.take (k + 1) = l.take k ++ [l.getD k (0, ByteArray.empty)] := by
  rw [List.take_add_one, List.getElem?_eq_getElem h, List.getD_eq_getElem?_getD, List.getElem?_eq_getElem h]
  rfl
theorem valsD_take {l : List EntB} {k : Nat} (h : k < l.length) : valsD (l.take (k + 1)) = putE (valsD (l.take k)) (l.getD k (0, ByteArray.empty)) := by rw [take_snocB h, valsD_snoc]

/- Small lists have a seal. -/
theorem root_small : ∀ (n : Nat) (l : List ByteArray), l.length ≤ n → l.length ≤ 24 → 0 < l.length → (∀ s ∈ l, s.size ≤ 18) → ∃ s, rootS l = some s ∧ s.size + 7 ≤ 26 * l.length
  | 0, l, h, _, h0, _ => absurd h0 (by omega)
  | n + 1, l, h, h24, h0, hs => by
    rcases Nat.lt_or_ge 1 l.length with h1 | h1
    · have a1 := halfN_lt (n := l.length) (by omega)
      have a2 := halfN_pos l.length
      have l1 : (l.take (halfN l.length)).length = halfN l.length := by rw [List.length_take]; omega
      have l2 : (l.drop (halfN l.length)).length = l.length - halfN l.length := by rw [List.length_drop]
      obtain ⟨x, hx, zx⟩ := root_small n (l.take (halfN l.length)) (by omega) (by omega) (by omega) (fun s h => hs s (List.mem_of_mem_take h))
      obtain ⟨y, hy, zy⟩ := root_small n (l.drop (halfN l.length)) (by omega) (by omega) (by omega) (fun s h => hs s (List.mem_of_mem_drop h))
      have hd := nDigits_le5 x.size (by omega)
      refine ⟨nodeS x y, ?_, ?_⟩
      · rw [rootS_two (by omega) h24, hx, hy, Option.bind_some, Option.bind_some]
        unfold nodeO
        rw [if_pos (by omega)]
      · rw [nodeS_size]; omega
    · have e1 : l.length = 1 := by omega
      have hm : l.getD 0 ByteArray.empty ∈ l := by
        rw [List.getD_eq_getElem?_getD, List.getElem?_eq_getElem h0, Option.getD_some]
        exact List.getElem_mem _
      have := hs _ hm
      refine ⟨leafS (l.getD 0 ByteArray.empty), ?_, ?_⟩
      · rw [rootS_one e1]
        unfold leafO
        rw [if_pos (by omega)]
      · rw [leafS_size]; omega
theorem text_small {e : EntB} (h : GoodEnt e) : (textE e).size ≤ 18 := by
  obtain ⟨h1, h2, h3⟩ := h
  rw [textE_size]
  obtain ⟨k, hk⟩ : ∃ n : Nat, e.1 = n := ⟨e.1.toNat, by omega⟩
  have := itoaB_le5 k (by omega)
  rw [hk, numB_nat]
  omega
theorem book_root {l : List EntB} (h : GoodBook l) : ∃ s, rootS (textsE l) = some s ∧ s.size ≤ 624 := by
  have hl : (textsE l).length = l.length := by simp [textsE]
  rcases Nat.eq_zero_or_pos l.length with h0 | h0
  · obtain rfl := List.length_eq_zero_iff.1 h0
    exact ⟨noneS, rootS_nil, by decide⟩
  · obtain ⟨s, h1, h2⟩ := root_small 24 (textsE l) (by have := h.1; omega) (by have := h.1; omega) (by omega) (fun s hs => by
      obtain ⟨e, he, rfl⟩ := List.mem_map.1 hs
      exact text_small (h.2 e he))
    refine ⟨s, h1, ?_⟩
    have := h.1
    omega

/- Head. -/
def headLog (l : List EntB) : ByteArray := rootV (textsE l)
def headMap (l : List EntB) : ByteArray := trieT (valN (valsD l)) 4 0
theorem headLog_root {l : List EntB} (h : GoodBook l) : rootS (textsE l) = some (headLog l) := by
  obtain ⟨s, hs, _⟩ := book_root h
  unfold headLog
  rw [(root_pos hs).1, hs]
theorem headLog_size {l : List EntB} (h : GoodBook l) : (headLog l).size ≤ 624 := by
  obtain ⟨s, hs, hz⟩ := book_root h
  unfold headLog
  rw [(root_pos hs).1]
  exact hz
theorem headMap_size {l : List EntB} (h : GoodBook l) : (headMap l).size ≤ 313 := trieT_313 (valsD_good h.2).short 0 (Nat.le_refl _)
theorem headLog_inj {l m : List EntB} (hl : GoodBook l) (hm : GoodBook m) (h : headLog l = headLog m) : l = m :=
  textsE_inj hl.2 hm.2 ((rootS_eq (headLog_root hl) (headLog_root hm)).1 h)
def entAt (l : List EntB) (i : Nat) : EntB := l.getD i (0, ByteArray.empty)
theorem texts_getD (l : List EntB) (k : Nat) (h : k < l.length) : (textsE l).getD k ByteArray.empty = textE (entAt l k) := by
  unfold textsE entAt
  simp [List.getD_eq_getElem?_getD, List.getElem?_eq_getElem h]
theorem textsE_len (l : List EntB) : (textsE l).length = l.length := by simp [textsE]
end Go.Proofs.YtmemahlibndoiafFmt
