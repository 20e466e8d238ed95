/-
  Plain mathematics of a map of texts by numbers, as it reads: what stands at a key, how many of the first keys are there, when two are alike.
-/
import Derived.Test.YtmemahlibndoiafFmtTrieMath
import Derived.Maps.Ext
import Derived.Maps.StringElems
import Derived.Lib.SlMapEqual
namespace Go.Proofs.YtmemahlibndoiafFmt
open Go Go.RowKit Go.Maps

def textD : DataW Unit → ByteArray
  | .lit (.string s) => ⟨s.toArray⟩
  | _ => ⟨#[]⟩
def valD (D : DataW Unit) (k : Int) : Option ByteArray := if has D (.int .i64 k) = true then some (textD (D.atKey (.int .i64 k) (.lit (.string [])))) else none
def valS (D : DataW Unit) (k : Int) : ByteArray := (valD D k).getD ⟨#[]⟩
def valN (D : DataW Unit) (k : Nat) : Option ByteArray := valD D k
theorem valD_isSome (D : DataW Unit) (k : Int) : (valD D k).isSome = has D (.int .i64 k) := by
  unfold valD
  cases has D (.int .i64 k) <;> rfl
theorem valS_eq (D : DataW Unit) (k : Int) : valS D k = textD (D.atKey (.int .i64 k) (.lit (.string []))) := by
  unfold valS valD
  cases h : has D (.int .i64 k)
  · rw [atKey_of_not_has h]; rfl
  · rfl
theorem valD_none {D : DataW Unit} {k : Int} (h : valD D k = none) : valS D k = ⟨#[]⟩ := by unfold valS; rw [h]; rfl
theorem valD_some {D : DataW Unit} {k : Int} {s : ByteArray} (h : valD D k = some s) : valS D k = s := by unfold valS; rw [h]; rfl
theorem valD_nil (k : Int) : valD .nil k = none := rfl
theorem valD_empty (k : Int) : valD (.map []) k = none := rfl
theorem key_ne {j k : Int} (h : j ≠ k) : (Lit.int .i64 j) ≠ .int .i64 k := fun e => h (by injection e)
theorem valD_put {D : DataW Unit} (hm : IsMap D) (j k : Int) (s : ByteArray) : valD (D.put (.int .i64 k) (.lit (.string s.data.toList))) j = if j = k then some s else valD D j := by
  unfold valD
  by_cases h : j = k
  · subst h
    rw [has_put_same (k := .int .i64 j) hm trivial, atKey_put_same (k := .int .i64 j) hm trivial, if_pos rfl, if_pos rfl]
    rfl
  · rw [has_put_other (key_ne h), atKey_put_other (key_ne h), if_neg h]

/- A map of texts by numbers, or none. -/
structure TextMap (D : DataW Unit) : Prop where
  canon : D = .nil ∨ Canon D
  keys : ∀ es, D = .map es → ∀ p ∈ es, ∃ k, p.1 = .int .i64 k
theorem TextMap.nil : TextMap .nil := ⟨.inl rfl, fun es h => by cases h⟩

/- How many of the first n keys are there. -/
def cntD (D : DataW Unit) : Nat → Nat
  | 0 => 0
  | n + 1 => cntD D n + if (valN D n).isSome = true then 1 else 0
def inR (n : Nat) (p : Lit × DataW Unit) : Bool := match p.1 with | .int .i64 k => decide (0 ≤ k ∧ k < n) | _ => false

theorem len_step (n : Nat) : ∀ (es : List (Lit × DataW Unit)), es.Pairwise (fun p q => p.1 ≠ q.1) → (∀ p ∈ es, ∃ k, p.1 = .int .i64 k) →
    (es.filter (inR (n + 1))).length = (es.filter (inR n)).length + if es.any (fun p => p.1.sameKey (.int .i64 (n : Int))) = true then 1 else 0
  | [], _, _ => rfl
  | p :: r, hp, hk => by
    obtain ⟨h1, h2⟩ := List.pairwise_cons.1 hp
    obtain ⟨k, hpk⟩ := hk p (by simp)
    have ih := len_step n r h2 (fun q hq => hk q (by simp [hq]))
    by_cases e : k = n
    · subst e
      have a0 : p.1.sameKey (.int .i64 (n : Int)) = true := by rw [hpk]; exact WideAt.sameKey_self trivial
      have a1 : inR (n + 1) p = true := by unfold inR; rw [hpk]; simp; omega
      have a2 : inR n p = false := by unfold inR; rw [hpk]; simp
      have a3 : r.any (fun p => p.1.sameKey (.int .i64 (n : Int))) = false := by
        rw [List.any_eq_false]
        intro q hq hs
        exact h1 q hq (by rw [hpk]; exact (WideAt.sameKey_eq hs).symm)
      rw [a3] at ih
      rw [List.any_cons, a0, List.filter_cons, if_pos a1, List.filter_cons, if_neg (by rw [a2]; decide), List.length_cons, ih]
      simp
    · have a0 : p.1.sameKey (.int .i64 (n : Int)) = false := by rw [hpk]; exact sameKey_ne (key_ne e)
      have a1 : inR (n + 1) p = inR n p := by unfold inR; rw [hpk]; simp only [decide_eq_decide]; omega
      rw [List.any_cons, a0, Bool.false_or, List.filter_cons, List.filter_cons, a1]
      cases hc : inR n p
      · simpa using ih
      · simp only [if_pos, List.length_cons]; omega

theorem cnt_len {es : List (Lit × DataW Unit)} (hp : es.Pairwise (fun p q => p.1 ≠ q.1)) (hk : ∀ p ∈ es, ∃ k, p.1 = .int .i64 k) : ∀ n, cntD (.map es) n = (es.filter (inR n)).length
  | 0 => by
    show 0 = _
    symm
    rw [List.length_eq_zero_iff, List.filter_eq_nil_iff]
    intro p hp'
    obtain ⟨k, e⟩ := hk p hp'
    unfold inR; rw [e]; simp
  | n + 1 => by
    rw [len_step n es hp hk, ← cnt_len hp hk n]
    show _ + (if (valD (.map es) (n : Int)).isSome = true then 1 else 0) = _
    rw [valD_isSome, has_eq]

theorem TextMap.parts {D : DataW Unit} (h : TextMap D) : D = .nil ∨ ∃ es, D = .map es ∧ es.Pairwise (fun p q => p.1 ≠ q.1) ∧ ∀ p ∈ es, ∃ k, p.1 = .int .i64 k := by
  rcases h.canon with rfl | ⟨es, rfl, h1, _⟩
  · exact .inl rfl
  · exact .inr ⟨es, rfl, apart_of_rising h1, h.keys es rfl⟩

theorem cnt_nil (n : Nat) : cntD .nil n = 0 := by
  induction n with
  | zero => rfl
  | succ n ih =>
    show cntD .nil n + 0 = 0
    rw [ih]
theorem cnt_le {D : DataW Unit} (h : TextMap D) (n : Nat) : cntD D n ≤ size D := by
  rcases h.parts with rfl | ⟨es, rfl, hp, hk⟩
  · rw [cnt_nil]; exact Nat.zero_le _
  · rw [cnt_len hp hk]; exact List.length_filter_le _ _
theorem cnt_all {D : DataW Unit} (h : TextMap D) (n : Nat) : cntD D n = size D ↔ ∀ k, (valD D k).isSome = true → 0 ≤ k ∧ k < n := by
  rcases h.parts with rfl | ⟨es, rfl, hp, hk⟩
  · rw [cnt_nil]
    refine ⟨fun _ k hk => ?_, fun _ => rfl⟩
    rw [valD_nil] at hk
    cases hk
  · rw [cnt_len hp hk, size_eq, List.length_filter_eq_length_iff]
    constructor
    · intro ha k hs
      rw [valD_isSome, has_eq] at hs
      obtain ⟨p, hpm, hps⟩ := List.any_eq_true.1 hs
      have := ha p hpm
      have e := WideAt.sameKey_eq hps
      unfold inR at this
      rw [e] at this
      simpa using this
    · intro ha p hpm
      obtain ⟨k, e⟩ := hk p hpm
      have := ha k (by
        rw [valD_isSome, has_eq]
        exact List.any_eq_true.2 ⟨p, hpm, by rw [e]; exact WideAt.sameKey_self trivial⟩)
      unfold inR
      rw [e]
      simpa using this

/- Chapter 5's Check. -/
def longD (D : DataW Unit) (n : Nat) : Prop := ∃ k, k < n ∧ 12 < (valS D (k : Nat)).size
theorem longD_step (D : DataW Unit) (n : Nat) : longD D (n + 1) ↔ longD D n ∨ 12 < (valS D (n : Nat)).size := by
  constructor
  · rintro ⟨k, h1, h2⟩
    rcases Nat.lt_or_ge k n with h | h
    · exact .inl ⟨k, h, h2⟩
    · obtain rfl : k = n := by omega
      exact .inr h2
  · rintro (⟨k, h1, h2⟩ | h)
    · exact ⟨k, by omega, h2⟩
    · exact ⟨n, by omega, h⟩
open Classical in
noncomputable def checkE (D : DataW Unit) : Int := if longD D 16 then 2 else if cntD D 16 = size D then 0 else 5
theorem check_long {D : DataW Unit} (h : longD D 16) : checkE D = 2 := by unfold checkE; rw [if_pos h]
theorem check_good {D : DataW Unit} (h : ¬ longD D 16) (h2 : cntD D 16 = size D) : checkE D = 0 := by unfold checkE; rw [if_neg h, if_pos h2]
theorem check_who {D : DataW Unit} (h : ¬ longD D 16) (h2 : cntD D 16 ≠ size D) : checkE D = 5 := by unfold checkE; rw [if_neg h, if_neg h2]
def GoodMap (D : DataW Unit) : Prop := ∀ (k : Int) (s : ByteArray), valD D k = some s → 0 ≤ k ∧ k < 16 ∧ s.size ≤ 12
theorem check_iff {D : DataW Unit} (h : TextMap D) : checkE D = 0 ↔ GoodMap D := by
  constructor
  · intro h0 k s hs
    by_cases hl : longD D 16
    · rw [check_long hl] at h0; cases h0
    by_cases hc : cntD D 16 = size D
    · obtain ⟨h1, h2⟩ := (cnt_all h 16).1 hc k (by rw [hs]; rfl)
      refine ⟨h1, h2, Classical.byContradiction fun hn => hl ⟨k.toNat, by omega, ?_⟩⟩
      rw [Int.toNat_of_nonneg h1, valD_some hs]
      omega
    · rw [check_who hl hc] at h0; cases h0
  · intro hg
    refine check_good ?_ ?_
    · rintro ⟨k, _, hk⟩
      cases hv : valD D (k : Nat) with
      | none =>
        rw [valD_none hv] at hk
        exact absurd hk (by decide)
      | some s =>
        rw [valD_some hv] at hk
        have := (hg _ s hv).2.2
        omega
    · refine (cnt_all h 16).2 fun k hk => ?_
      obtain ⟨s, hs⟩ := Option.isSome_iff_exists.1 hk
      exact ⟨(hg k s hs).1, (hg k s hs).2.1⟩
theorem check_cases {D : DataW Unit} (h : TextMap D) : (checkE D = 0 ∧ GoodMap D) ∨ checkE D = 2 ∨ checkE D = 5 := by
  by_cases hl : longD D 16
  · exact .inr (.inl (check_long hl))
  · by_cases hc : cntD D 16 = size D
    · have h0 := check_good hl hc
      exact .inl ⟨h0, (check_iff h).1 h0⟩
    · exact .inr (.inr (check_who hl hc))
theorem GoodMap.short {D : DataW Unit} (h : GoodMap D) : Short (valN D) := fun k s hs => (h k s hs).2.2

/- Two maps held together. -/
theorem cnt_mono {D E : DataW Unit} : ∀ n, (∀ k, k < n → (valN D k).isSome = true → (valN E k).isSome = true) → cntD D n ≤ cntD E n
  | 0, _ => Nat.le_refl _
  | n + 1, h => by
    have h1 := cnt_mono n (fun k hk => h k (by omega))
    have h2 := h n (by omega)
    show cntD D n + _ ≤ cntD E n + _
    cases hd : (valN D n).isSome
    · simp; omega
    · rw [hd] at h2
      rw [h2 rfl]
      simp; omega
theorem cnt_same {D E : DataW Unit} : ∀ n, (∀ k, k < n → (valN D k).isSome = true → (valN E k).isSome = true) → cntD D n = cntD E n → ∀ k, k < n → (valN D k).isSome = (valN E k).isSome
  | 0, _, _, k, hk => absurd hk (by omega)
  | n + 1, h, he, k, hk => by
    have h1 := cnt_mono n (fun k hk => h k (by omega))
    have h2 := h n (by omega)
    have he : cntD D n + (if (valN D n).isSome = true then 1 else 0) = cntD E n + (if (valN E n).isSome = true then 1 else 0) := he
    have hb : (valN D n).isSome = (valN E n).isSome ∧ cntD D n = cntD E n := by
      cases hd : (valN D n).isSome
      · cases hf : (valN E n).isSome
        · rw [hd, hf] at he; exact ⟨rfl, by simpa using he⟩
        · rw [hd, hf] at he
          simp at he
          omega
      · rw [hd] at h2 he
        rw [h2 rfl] at he ⊢
        exact ⟨rfl, by simpa using he⟩
    rcases Nat.lt_or_ge k n with hkn | hkn
    · exact cnt_same n (fun k hk => h k (by omega)) hb.2 k hkn
    · obtain rfl : k = n := by omega
      exact hb.1

def eqD (x y : DataW Unit) : Bool := decide (textD x = textD y)
theorem entry_val {es : List (Lit × DataW Unit)} (hp : es.Pairwise (fun p q => p.1 ≠ q.1)) {p : Lit × DataW Unit} {k : Int} (hm : p ∈ es) (e : p.1 = .int .i64 k) : valD (.map es) k = some (textD p.2) := by
  have h1 : has (.map es : DataW Unit) (.int .i64 k) = true := List.any_eq_true.2 ⟨p, hm, by rw [e]; exact WideAt.sameKey_self trivial⟩
  unfold valD
  rw [if_pos h1, WideAt.atKey_mem (.lit (.string [])) (k := .int .i64 k) trivial hp (d := p.2) (by rw [← e]; exact hm)]
theorem alike_iff {D E : DataW Unit} (hD : TextMap D) (hE : TextMap E) (gD : GoodMap D) (gE : GoodMap E) : Lib.equalFuncD eqD D E = true ↔ ∀ k : Nat, k < 16 → valN D k = valN E k := by
  have cD := (cnt_all hD 16).2 (fun k hk => by obtain ⟨s, hs⟩ := Option.isSome_iff_exists.1 hk; exact ⟨(gD k s hs).1, (gD k s hs).2.1⟩)
  have cE := (cnt_all hE 16).2 (fun k hk => by obtain ⟨s, hs⟩ := Option.isSome_iff_exists.1 hk; exact ⟨(gE k s hs).1, (gE k s hs).2.1⟩)
  have good : ∀ (k : Int) (p : Lit × DataW Unit), p.1 = .int .i64 k → Lib.goodD eqD E p = true → valD E k = some (textD p.2) := by
    intro k p hpk hg
    unfold Lib.goodD at hg
    rw [hpk, Bool.and_eq_true] at hg
    unfold valD
    rw [if_pos hg.1, ← of_decide_eq_true (show decide (textD p.2 = textD (E.atKey (.int .i64 k) .nil)) = true from hg.2) |> fun e => e.trans (congrArg textD (atKey_indep hg.1 .nil (.lit (.string []))))]
  unfold Lib.equalFuncD
  rw [Bool.and_eq_true, decide_eq_true_eq]
  constructor
  · rintro ⟨hs, ha⟩
    have sub : ∀ (k : Int) s, valD D k = some s → valD E k = some s := by
      intro k s hk
      rcases hD.parts with rfl | ⟨es, rfl, hp, hkk⟩
      · cases hk
      · have h1 : has (.map es : DataW Unit) (.int .i64 k) = true := by rw [← valD_isSome, hk]; rfl
        obtain ⟨p, hpm, hps⟩ := List.any_eq_true.1 h1
        have e := WideAt.sameKey_eq hps
        have hv := entry_val hp hpm e
        rw [hk] at hv
        rw [hv]
        exact good k p e (List.all_eq_true.1 ha p hpm)
    have hall := cnt_same (D := D) (E := E) 16 (fun k _ h => by
      obtain ⟨s, hs⟩ := Option.isSome_iff_exists.1 h
      show (valD E (k : Nat)).isSome = true
      rw [sub _ s hs]; rfl) (by rw [cD, cE, hs])
    intro k hk
    have h1 := hall k hk
    cases hv : valN D k with
    | none =>
      rw [hv] at h1
      cases hw : valN E k with
      | none => rfl
      | some t => rw [hw] at h1; cases h1
    | some s => exact (sub k s hv).symm
  · intro h
    refine ⟨?_, ?_⟩
    · rw [← cD, ← cE]
      have : ∀ n, n ≤ 16 → cntD D n = cntD E n := by
        intro n
        induction n with
        | zero => intro _; rfl
        | succ n ih =>
          intro hn
          show cntD D n + _ = cntD E n + _
          rw [ih (by omega), h n (by omega)]
      exact this 16 (by omega)
    · rcases hD.parts with rfl | ⟨es, rfl, hp, hkk⟩
      · rfl
      · refine List.all_eq_true.2 fun p hpm => ?_
        obtain ⟨k, e⟩ := hkk p hpm
        have hv := entry_val hp hpm e
        have hr := gD k _ hv
        have h2 := h k.toNat (by omega)
        unfold valN at h2
        rw [Int.toNat_of_nonneg hr.1, hv] at h2
        have hh : has E (.int .i64 k) = true := by rw [← valD_isSome, ← h2]; rfl
        unfold valD at h2
        rw [if_pos hh] at h2
        injection h2 with h2
        unfold Lib.goodD
        rw [e, hh, Bool.true_and]
        show decide (textD p.2 = textD (E.atKey (.int .i64 k) .nil)) = true
        rw [decide_eq_true_eq, h2, atKey_indep hh .nil (.lit (.string []))]
end Go.Proofs.YtmemahlibndoiafFmt
