/-
  Who follows heads, and what heads of books show: a client's answers by the heads' own numbers and seals.
-/
import Derived.Test.YtmemahlibndoiafFmtNoteMath
import Derived.Test.YtmemahlibndoiafFmtGrowMath
import Derived.Test.YtmemahlibndoiafFmtBookMath
import Derived.Test.YtmemahlibndoiafFmtTrieOneMath
namespace Go.Proofs.YtmemahlibndoiafFmt
open Go Go.RowKit Go.Maps

/- A head is followed: the client's number and seals, the new one's, and what is shown. -/
abbrev goodF (cn : Int) (ca cb : ByteArray) (hn : Int) (ha hb : ByteArray) (l : List ByteArray) : Prop :=
  if cn = 0 then l = [] else growE ca cn ha hn l = 0 ∧ (hn = cn → hb = cb)
def followE (cn : Int) (ca cb : ByteArray) (hn : Int) (ha hb : ByteArray) (l : List ByteArray) : Int :=
  if headE cn ca cb ≠ 0 then headE cn ca cb
  else if headE hn ha hb ≠ 0 then headE hn ha hb
  else if hn < cn then 6
  else if goodF cn ca cb hn ha hb l then 0 else 7

theorem good_take {l : List EntB} (h : GoodBook l) (n : Nat) : GoodBook (l.take n) :=
  ⟨by rw [List.length_take]; have := h.1; omega, fun e he => h.2 e (List.mem_of_mem_take he)⟩
theorem good_drop {l : List EntB} (h : GoodBook l) (n : Nat) : GoodBook (l.drop n) :=
  ⟨by rw [List.length_drop]; have := h.1; omega, fun e he => h.2 e (List.mem_of_mem_drop he)⟩
theorem textsE_take (l : List EntB) (n : Nat) : textsE (l.take n) = (textsE l).take n := by simp [textsE, List.map_take]
theorem head_good {l : List EntB} (h : GoodBook l) : headE (l.length : Int) (headLog l) (headMap l) = 0 := by
  have h1 := headLog_size h
  have h2 := headMap_size h
  have h3 := h.1
  exact (headE_iff _ _ _).2 ⟨by omega, by omega, by omega, by omega⟩

/- What is shown of two books' heads: just that one begins with the other. -/
theorem grown_iff {b o : List EntB} (hb : GoodBook b) (ho : GoodBook o) (x : List ByteArray) (h1 : 1 ≤ b.length) (hle : b.length ≤ o.length) :
    growE (headLog b) (b.length : Int) (headLog o) (o.length : Int) x = 0 ↔ b = o.take b.length ∧ x = growS (textsE o) b.length true := by
  have hg := grow_iff (l := textsE o) (m := b.length) (headLog b) x h1 (by rw [textsE_len]; exact hle) (headLog_root ho)
  rw [textsE_len] at hg
  rw [hg]
  refine and_congr ?_ Iff.rfl
  rw [← textsE_take]
  constructor
  · intro h
    refine headLog_inj hb (good_take ho _) ?_
    exact h
  · intro h
    show headLog b = headLog (o.take b.length)
    rw [← h]
theorem grown_range {a r : ByteArray} {m n : Int} {x : List ByteArray} (h : n < m) : growE a m r n x = 3 := by
  unfold growE
  rw [if_pos (.inr (.inl h))]
theorem follow_true {b o : List EntB} (hb : GoodBook b) (ho : GoodBook o) {x : List ByteArray} (h1 : 1 ≤ b.length)
    (h : followE (b.length : Int) (headLog b) (headMap b) (o.length : Int) (headLog o) (headMap o) x = 0) : b.length ≤ o.length ∧ b = o.take b.length := by
  unfold followE at h
  rw [if_neg (fun hh => hh (head_good hb)), if_neg (fun hh => hh (head_good ho))] at h
  by_cases hlt : (o.length : Int) < (b.length : Int)
  · rw [if_pos hlt] at h; cases h
  rw [if_neg hlt] at h
  by_cases hg : goodF (b.length : Int) (headLog b) (headMap b) (o.length : Int) (headLog o) (headMap o) x
  · unfold goodF at hg
    rw [if_neg (by omega)] at hg
    exact ⟨by omega, ((grown_iff hb ho x h1 (by omega)).1 hg.1).1⟩
  · rw [if_neg hg] at h; cases h
/- Who is shown how a book went on follows. -/
def nextS (b : List EntB) (m n : Nat) : List ByteArray := if m = 0 then [] else growS (textsE (b.take n)) m true
theorem follow_on {b : List EntB} (hb : GoodBook b) {m n : Nat} (hmn : m ≤ n) (hn : n ≤ b.length) :
    goodF (m : Int) (headLog (b.take m)) (headMap (b.take m)) (n : Int) (headLog (b.take n)) (headMap (b.take n)) (nextS b m n) := by
  unfold goodF nextS
  rcases Nat.eq_zero_or_pos m with h0 | h0
  · rw [if_pos (by omega), if_pos h0]
  · have e1 : (b.take m).length = m := by rw [List.length_take]; omega
    have e2 : (b.take n).length = n := by rw [List.length_take]; omega
    rw [if_neg (by omega), if_neg (by omega)]
    refine ⟨?_, fun e => by rw [show n = m by omega]⟩
    have h := (grown_iff (good_take hb m) (good_take hb n) (growS (textsE (b.take n)) m true) (by omega) (by omega)).2 ⟨by rw [e1, List.take_take, Nat.min_eq_left hmn], by rw [e1]⟩
    rw [e1, e2] at h
    exact h
/- What is seen, what is found. -/
theorem sees_true {b : List EntB} (hb : GoodBook b) {i : Int} {t : ByteArray} {s : List StepB} (h : showE (headLog b) (b.length : Int) i t s = 0) :
    0 ≤ i ∧ i < (b.length : Int) ∧ t = textE (entAt b i.toNat) ∧ s = pathS (textsE b) i.toNat := by
  have hi : 0 ≤ i ∧ i < (b.length : Int) := by
    unfold showE at h
    split at h
    · cases h
    · split at h
      · cases h
      · omega
  obtain ⟨j, rfl⟩ : ∃ j : Nat, i = (j : Int) := ⟨i.toNat, by omega⟩
  have h' := (show_iff (l := textsE b) j t s (by rw [textsE_len]; omega) (headLog_root hb)).1 (by rw [textsE_len]; exact h)
  refine ⟨hi.1, hi.2, ?_, ?_⟩
  · rw [h'.1, Int.toNat_natCast]
    exact texts_getD b j (by omega)
  · rw [h'.2, Int.toNat_natCast]
theorem finds_true {b : List EntB} (hb : GoodBook b) {k : Int} {v : ByteArray} {t : Bool} {x : List ByteArray} (h : trieE (headMap b) k v t x = 0) :
    0 ≤ k ∧ k < 16 ∧ t = (valD (valsD b) k).isSome ∧ v = valS (valsD b) k := by
  have hk : 0 ≤ k ∧ k < 16 := by
    unfold trieE at h
    split at h
    · cases h
    · omega
  obtain ⟨j, rfl⟩ : ∃ j : Nat, k = (j : Int) := ⟨k.toNat, by omega⟩
  obtain ⟨h1, h2, _⟩ := (trie_iff (valsD_good hb.2).short j (by omega) v t x).1 h
  refine ⟨hk.1, hk.2, ?_⟩
  have h1 : (if t then some v else none) = valD (valsD b) (j : Int) := h1
  unfold valS
  rw [← h1]
  cases t
  · refine ⟨rfl, ?_⟩
    have hz := h2 rfl
    have : v.data = #[] := Array.eq_empty_of_size_eq_zero hz
    cases v
    simp only at this
    subst this
    rfl
  · exact ⟨rfl, rfl⟩
/- What is put changes one value: what is shown of it is so where it was so. -/
theorem put_path (b : List EntB) (e : EntB) {k : Nat} (hk : e.1 = (k : Int)) : pathT (valN (valsD (b ++ [e]))) 0 k 4 = pathT (valN (valsD b)) 0 k 4 := by
  refine path_same (s := e.2) fun j => ?_
  rw [valsD_snoc, putE_val (valsD_tidy b), hk]
theorem put_asks {b : List EntB} (hb : GoodBook b) (e : EntB) {k : Nat} (hk : e.1 = (k : Int)) (h16 : k < 16) :
    trieE (headMap b) (k : Int) e.2 true (pathT (valN (valsD (b ++ [e]))) 0 k 4) = 0 ↔ valD (valsD b) (k : Int) = some e.2 := by
  rw [put_path b e hk]
  refine (trie_iff (valsD_good hb.2).short k h16 e.2 true _).trans ?_
  constructor
  · rintro ⟨h, _, _⟩; exact h.symm
  · intro h; exact ⟨h.symm, (fun h => by cases h), rfl⟩

/- The client behind it; what it answers of an entry, of a value. -/
def folN (cn : Int) (ca cb : ByteArray) (hn : Int) (ha hb : ByteArray) (l : List ByteArray) : Int :=
  if followE cn ca cb hn ha hb l = 0 then hn else if followE cn ca cb hn ha hb l = 7 then cn else 0
def folA (cn : Int) (ca cb : ByteArray) (hn : Int) (ha hb : ByteArray) (l : List ByteArray) : ByteArray :=
  if followE cn ca cb hn ha hb l = 0 then ha else if followE cn ca cb hn ha hb l = 7 then ca else ⟨#[]⟩
def folB (cn : Int) (ca cb : ByteArray) (hn : Int) (ha hb : ByteArray) (l : List ByteArray) : ByteArray :=
  if followE cn ca cb hn ha hb l = 0 then hb else if followE cn ca cb hn ha hb l = 7 then cb else ⟨#[]⟩
def folF (cn : Int) (ca cb : ByteArray) (cf : Bool) (hn : Int) (ha hb : ByteArray) (l : List ByteArray) : Bool :=
  if followE cn ca cb hn ha hb l = 0 then cf else if followE cn ca cb hn ha hb l = 7 then true else false
def seesE (cn : Int) (ca cb : ByteArray) (i : Int) (t : ByteArray) (s : List StepB) : Int :=
  if headE cn ca cb ≠ 0 then headE cn ca cb else showE ca cn i t s
def findsE (cn : Int) (ca cb : ByteArray) (k : Int) (v : ByteArray) (t : Bool) (l : List ByteArray) : Int :=
  if headE cn ca cb ≠ 0 then headE cn ca cb else trieE cb k v t l
theorem headE_or (n : Int) (a b : ByteArray) : headE n a b = 0 ∨ headE n a b = 2 ∨ headE n a b = 3 := by
  unfold headE
  split
  · exact .inr (.inr rfl)
  · split
    · exact .inr (.inl rfl)
    · exact .inl rfl
theorem follow_c {cn : Int} {ca cb : ByteArray} {hn : Int} {ha hb : ByteArray} {l : List ByteArray} {z : Int} (h : headE cn ca cb = z) (h0 : z ≠ 0) : followE cn ca cb hn ha hb l = z := by
  subst h; unfold followE; rw [if_pos h0]
theorem follow_h {cn : Int} {ca cb : ByteArray} {hn : Int} {ha hb : ByteArray} {l : List ByteArray} {z : Int} (hc : headE cn ca cb = 0) (h : headE hn ha hb = z) (h0 : z ≠ 0) : followE cn ca cb hn ha hb l = z := by
  subst h; unfold followE; rw [if_neg (fun hh => hh hc), if_pos h0]
theorem follow_late {cn : Int} {ca cb : ByteArray} {hn : Int} {ha hb : ByteArray} {l : List ByteArray} (hc : headE cn ca cb = 0) (h : headE hn ha hb = 0) (hl : hn < cn) : followE cn ca cb hn ha hb l = 6 := by
  unfold followE; rw [if_neg (fun hh => hh hc), if_neg (fun hh => hh h), if_pos hl]
theorem follow_yes {cn : Int} {ca cb : ByteArray} {hn : Int} {ha hb : ByteArray} {l : List ByteArray} (hc : headE cn ca cb = 0) (h : headE hn ha hb = 0) (hl : ¬ hn < cn) (hg : goodF cn ca cb hn ha hb l) : followE cn ca cb hn ha hb l = 0 := by
  unfold followE; rw [if_neg (fun hh => hh hc), if_neg (fun hh => hh h), if_neg hl, if_pos hg]
theorem follow_no {cn : Int} {ca cb : ByteArray} {hn : Int} {ha hb : ByteArray} {l : List ByteArray} (hc : headE cn ca cb = 0) (h : headE hn ha hb = 0) (hl : ¬ hn < cn) (hg : ¬ goodF cn ca cb hn ha hb l) : followE cn ca cb hn ha hb l = 7 := by
  unfold followE; rw [if_neg (fun hh => hh hc), if_neg (fun hh => hh h), if_neg hl, if_neg hg]
/- What Follow answers, by its error. -/
theorem fol_zero {cn : Int} {ca cb : ByteArray} {cf : Bool} {hn : Int} {ha hb : ByteArray} {l : List ByteArray} (h : followE cn ca cb hn ha hb l = 0) :
    folN cn ca cb hn ha hb l = hn ∧ folA cn ca cb hn ha hb l = ha ∧ folB cn ca cb hn ha hb l = hb ∧ folF cn ca cb cf hn ha hb l = cf := ⟨if_pos h, if_pos h, if_pos h, if_pos h⟩
theorem fol_seven {cn : Int} {ca cb : ByteArray} {cf : Bool} {hn : Int} {ha hb : ByteArray} {l : List ByteArray} (h : followE cn ca cb hn ha hb l = 7) :
    folN cn ca cb hn ha hb l = cn ∧ folA cn ca cb hn ha hb l = ca ∧ folB cn ca cb hn ha hb l = cb ∧ folF cn ca cb cf hn ha hb l = true := by
  have h0 : ¬ followE cn ca cb hn ha hb l = 0 := by omega
  exact ⟨(if_neg h0).trans (if_pos h), (if_neg h0).trans (if_pos h), (if_neg h0).trans (if_pos h), (if_neg h0).trans (if_pos h)⟩
theorem fol_bad {cn : Int} {ca cb : ByteArray} {cf : Bool} {hn : Int} {ha hb : ByteArray} {l : List ByteArray} {z : Int} (h : followE cn ca cb hn ha hb l = z) (h0 : z ≠ 0) (h7 : z ≠ 7) :
    folN cn ca cb hn ha hb l = 0 ∧ folA cn ca cb hn ha hb l = ⟨#[]⟩ ∧ folB cn ca cb hn ha hb l = ⟨#[]⟩ ∧ folF cn ca cb cf hn ha hb l = false := by
  have h0 : ¬ followE cn ca cb hn ha hb l = 0 := by omega
  have h7 : ¬ followE cn ca cb hn ha hb l = 7 := by omega
  exact ⟨(if_neg h0).trans (if_neg h7), (if_neg h0).trans (if_neg h7), (if_neg h0).trans (if_neg h7), (if_neg h0).trans (if_neg h7)⟩
/- What a book shows its own head agrees with. -/
theorem asks_value {l : List EntB} (hG : GoodBook l) {k : Nat} (hk : k < 16) : findsE (l.length : Int) (headLog l) (headMap l) (k : Int) (valS (valsD l) (k : Int)) (valD (valsD l) (k : Int)).isSome (pathT (valN (valsD l)) 0 k 4) = 0 := by
  unfold findsE
  rw [if_neg (fun h => h (head_good hG))]
  refine (trie_iff (valsD_good hG.2).short k hk _ _ _).2 ⟨?_, ?_, rfl⟩
  · show _ = valD (valsD l) (k : Int)
    unfold valS
    cases valD (valsD l) (k : Int) <;> rfl
  · unfold valS
    cases valD (valsD l) (k : Int)
    · intro _; rfl
    · intro h; cases h
theorem asks_entry {l : List EntB} (hG : GoodBook l) {i : Nat} (hi : i < l.length) : seesE (l.length : Int) (headLog l) (headMap l) (i : Int) (textE (entAt l i)) (pathS (textsE l) i) = 0 := by
  unfold seesE
  rw [if_neg (fun h => h (head_good hG))]
  have h := (show_iff (l := textsE l) i (textE (entAt l i)) (pathS (textsE l) i) (by rw [textsE_len]; exact hi) (headLog_root hG)).2 ⟨(texts_getD l i hi).symm, rfl⟩
  rw [textsE_len] at h
  exact h
theorem asks_put {l : List EntB} (hG : GoodBook l) (e : EntB) {k : Nat} (hk : e.1 = (k : Int)) (h16 : k < 16) :
    findsE (l.length : Int) (headLog l) (headMap l) (k : Int) e.2 true (pathT (valN (valsD (l ++ [e]))) 0 k 4) = 0 ↔ valD (valsD l) (k : Int) = some e.2 := by
  unfold findsE
  rw [if_neg (fun h => h (head_good hG))]
  exact put_asks hG e hk h16
end Go.Proofs.YtmemahlibndoiafFmt
