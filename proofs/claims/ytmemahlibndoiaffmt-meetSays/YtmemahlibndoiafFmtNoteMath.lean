/-
  Plain mathematics of chapter 7: a head as a text, and back. No program stands in it.
-/
import Derived.Test.YtmemahlibndoiafFmtSealMath
namespace Go.Proofs.YtmemahlibndoiafFmt
open Go

/- The text around the first blank. -/
theorem digits_no_blank (u : Nat) : ∀ c ∈ Lib.decDigits u, c ≠ 32 := by
  intro c hc h
  have := (decDigits_digit u c hc).1
  rw [h] at this
  exact absurd this (by decide)
theorem cut32 (d r : List UInt8) (h : ∀ c ∈ d, c ≠ 32) : Lib.cut (d ++ 32 :: r) [32] = (d, r, true) := by
  have hi : Lib.index (d ++ 32 :: r) [32] = d.length := by
    refine Lib.index_first (by simp) ?_ ?_
    · simp [Lib.occAt]
    · intro j hj
      unfold Lib.occAt
      rw [List.drop_append_of_le_length (by omega)]
      rw [List.drop_eq_getElem_cons hj]
      simp only [List.cons_append, List.isPrefixOf]
      have := h d[j] (List.getElem_mem hj)
      simp [Ne.symm this]
  unfold Lib.cut
  rw [hi]
  simp
theorem cut32_some {l d r : List UInt8} (h : Lib.cut l [32] = (d, r, true)) : l = d ++ 32 :: r := by
  unfold Lib.cut at h
  split at h
  · rename_i h0
    rcases Lib.index_spec l [32] with ⟨h1, _⟩ | ⟨i, h1, h2, h3, _⟩
    · omega
    · rw [h1] at h
      simp only [Int.toNat_natCast, List.length_singleton, Prod.mk.injEq, and_true] at h
      obtain ⟨rfl, rfl⟩ := h
      unfold Lib.occAt at h3
      cases hd : l.drop i with
      | nil => rw [hd] at h3; simp at h3
      | cons b t =>
        rw [hd] at h3
        simp only [List.isPrefixOf, Bool.and_true, beq_iff_eq] at h3
        have h4 : l.drop (i + 1) = t := by
          rw [← List.drop_drop, hd]; rfl
        rw [h4]
        subst h3
        rw [← hd]
        exact (List.take_append_drop i l).symm
  · simp at h
theorem cut32_le (l : List UInt8) : (Lib.cut l [32]).1.length ≤ l.length ∧ (Lib.cut l [32]).2.1.length ≤ l.length := by
  unfold Lib.cut
  split
  · simp only [List.length_take, List.length_drop]; omega
  · simp

/- A number and a blank, ahead of all. -/
def numL (l : List UInt8) : Option (Nat × List UInt8) :=
  if (Lib.cut l [32]).2.2 = true then
    match numOf (Lib.cut l [32]).1 with
    | some n => some (n, (Lib.cut l [32]).2.1)
    | none => none
  else none
theorem numL_digits (n : Nat) (r : List UInt8) (h : n < 9223372036854775808) : numL (Lib.decDigits n ++ 32 :: r) = some (n, r) := by
  unfold numL
  rw [cut32 _ _ (digits_no_blank n)]
  simp [numOf_digits n h]
theorem numL_some {l r : List UInt8} {n : Nat} (h : numL l = some (n, r)) : l = Lib.decDigits n ++ 32 :: r ∧ n < 9223372036854775808 := by
  unfold numL at h
  split at h
  · rename_i h1
    split at h
    · rename_i m hm
      simp only [Option.some.injEq, Prod.mk.injEq] at h
      obtain ⟨rfl, h2⟩ := h
      obtain ⟨hd, hlt, _⟩ := numOf_some hm
      have hc : Lib.cut l [32] = ((Lib.cut l [32]).1, (Lib.cut l [32]).2.1, true) := by rw [← h1]
      have := cut32_some hc
      rw [hd, h2] at this
      exact ⟨this, hlt⟩
    · cases h
  · cases h
theorem numL_pos {l d r : List UInt8} {n : Nat} (hc : Lib.cut l [32] = (d, r, true)) (hn : numOf d = some n) : numL l = some (n, r) := by
  unfold numL
  rw [hc]
  simp [hn]
theorem numL_neg {l d r : List UInt8} {f : Bool} (hc : Lib.cut l [32] = (d, r, f)) (hn : f = false ∨ numOf d = none) : numL l = none := by
  unfold numL
  rw [hc]
  rcases hn with rfl | h
  · simp
  · cases f <;> simp [h]
theorem numL_le {l r : List UInt8} {n : Nat} (h : numL l = some (n, r)) : r.length ≤ l.length := by
  rw [(numL_some h).1]
  simp
  omega

/- Three of them. -/
def readL (l : List UInt8) : Option (Nat × Nat × Nat × List UInt8) :=
  match numL l with
  | none => none
  | some (x, r) =>
    match numL r with
    | none => none
    | some (y, q) =>
      match numL q with
      | none => none
      | some (z, t) => some (x, y, z, t)
def read2 (x y : Nat) (l : List UInt8) : Option (Nat × Nat × Nat × List UInt8) := match numL l with | none => none | some (z, t) => some (x, y, z, t)
def read1 (x : Nat) (l : List UInt8) : Option (Nat × Nat × Nat × List UInt8) := match numL l with | none => none | some (y, q) => read2 x y q
theorem readL_no {l : List UInt8} (h : numL l = none) : readL l = none := by unfold readL; rw [h]
theorem readL_go {l r : List UInt8} {x : Nat} (h : numL l = some (x, r)) : readL l = read1 x r := by unfold readL read1 read2; rw [h]
theorem read1_no {l : List UInt8} {x : Nat} (h : numL l = none) : read1 x l = none := by unfold read1; rw [h]
theorem read1_go {l r : List UInt8} {x y : Nat} (h : numL l = some (y, r)) : read1 x l = read2 x y r := by unfold read1; rw [h]
theorem read2_no {l : List UInt8} {x y : Nat} (h : numL l = none) : read2 x y l = none := by unfold read2; rw [h]
theorem read2_go {l r : List UInt8} {x y z : Nat} (h : numL l = some (z, r)) : read2 x y l = some (x, y, z, r) := by unfold read2; rw [h]
def writeL (x y z : Nat) : List UInt8 := Lib.decDigits x ++ 32 :: (Lib.decDigits y ++ 32 :: (Lib.decDigits z ++ [32]))
def writeB (x y z : Nat) : ByteArray := ⟨(writeL x y z).toArray⟩
theorem read_write (x y z : Nat) (t : List UInt8) (hx : x < 9223372036854775808) (hy : y < 9223372036854775808) (hz : z < 9223372036854775808) : readL (writeL x y z ++ t) = some (x, y, z, t) := by
  have e : writeL x y z ++ t = Lib.decDigits x ++ 32 :: (Lib.decDigits y ++ 32 :: (Lib.decDigits z ++ 32 :: t)) := by simp [writeL]
  unfold readL
  rw [e, numL_digits x _ hx]
  simp only
  rw [numL_digits y _ hy]
  simp only
  rw [numL_digits z _ hz]
theorem read_some {l t : List UInt8} {x y z : Nat} (h : readL l = some (x, y, z, t)) : l = writeL x y z ++ t ∧ x < 9223372036854775808 ∧ y < 9223372036854775808 ∧ z < 9223372036854775808 := by
  unfold readL at h
  split at h
  · cases h
  · rename_i x' r h1
    split at h
    · cases h
    · rename_i y' q h2
      split at h
      · cases h
      · rename_i z' t' h3
        simp only [Option.some.injEq, Prod.mk.injEq] at h
        obtain ⟨rfl, rfl, rfl, rfl⟩ := h
        obtain ⟨e1, l1⟩ := numL_some h1
        obtain ⟨e2, l2⟩ := numL_some h2
        obtain ⟨e3, l3⟩ := numL_some h3
        refine ⟨?_, l1, l2, l3⟩
        rw [e1, e2, e3]
        simp [writeL]

/- A head: Check, Print, Parse. -/
def headE (n : Int) (a b : ByteArray) : Int := if n < 0 ∨ 24 < n then 3 else if 20000 < a.size ∨ 20000 < b.size then 2 else 0
theorem headE_range {n : Int} {a b : ByteArray} (h : n < 0 ∨ 24 < n) : headE n a b = 3 := by unfold headE; rw [if_pos h]
theorem headE_many {n : Int} {a b : ByteArray} (h : ¬ (n < 0 ∨ 24 < n)) (h2 : 20000 < a.size ∨ 20000 < b.size) : headE n a b = 2 := by unfold headE; rw [if_neg h, if_pos h2]
theorem headE_ok {n : Int} {a b : ByteArray} (h : ¬ (n < 0 ∨ 24 < n)) (h2 : ¬ (20000 < a.size ∨ 20000 < b.size)) : headE n a b = 0 := by unfold headE; rw [if_neg h, if_neg h2]
theorem headE_iff (n : Int) (a b : ByteArray) : headE n a b = 0 ↔ 0 ≤ n ∧ n ≤ 24 ∧ a.size ≤ 20000 ∧ b.size ≤ 20000 := by
  unfold headE
  split
  · constructor
    · intro h; cases h
    · intro h; omega
  · split
    · constructor
      · intro h; cases h
      · intro h; omega
    · constructor
      · intro _; omega
      · intro _; rfl
theorem headE_cases (n : Int) (a b : ByteArray) : headE n a b = 0 ∨ headE n a b = 2 ∨ headE n a b = 3 := by
  unfold headE
  split
  · exact .inr (.inr rfl)
  · split
    · exact .inr (.inl rfl)
    · exact .inl rfl

def printS (n : Nat) (a b : ByteArray) : ByteArray := writeB n a.size b.size ++ a ++ b
theorem printS_data (n : Nat) (a b : ByteArray) : (printS n a b).data.toList = writeL n a.size b.size ++ (a.data.toList ++ b.data.toList) := by
  unfold printS
  rw [ba_app, ba_app]
  simp [writeB]
def printV (n : Int) (a b : ByteArray) : ByteArray := if headE n a b = 0 then printS n.toNat a b else ⟨#[]⟩
theorem print_pos {n : Int} {a b : ByteArray} (h : headE n a b = 0) : printV n a b = printS n.toNat a b := if_pos h
theorem print_neg {n : Int} {a b : ByteArray} (h : headE n a b ≠ 0) : printV n a b = ⟨#[]⟩ := if_neg h

def parseO (s : ByteArray) : Option (Nat × ByteArray × ByteArray) :=
  match readL s.data.toList with
  | none => none
  | some (n, k, m, r) => if k + m = r.length then some (n, ⟨(r.take k).toArray⟩, ⟨(r.drop k).toArray⟩) else none
theorem parse_print (n : Nat) (a b : ByteArray) (hn : n < 9223372036854775808) (ha : a.size < 9223372036854775808) (hb : b.size < 9223372036854775808) : parseO (printS n a b) = some (n, a, b) := by
  unfold parseO
  rw [printS_data, read_write n _ _ _ hn ha hb]
  simp only
  rw [if_pos (by rw [List.length_append, ← ba_size, ← ba_size])]
  rw [ba_size a, List.take_left, List.drop_left]
theorem print_parse {s a b : ByteArray} {n : Nat} (h : parseO s = some (n, a, b)) : printS n a b = s ∧ n < 9223372036854775808 := by
  unfold parseO at h
  split at h
  · cases h
  · rename_i x k m r hr
    split at h
    · rename_i hl
      simp only [Option.some.injEq, Prod.mk.injEq] at h
      obtain ⟨rfl, rfl, rfl⟩ := h
      obtain ⟨e, l1, l2, l3⟩ := read_some hr
      refine ⟨ba_ext ?_, l1⟩
      rw [printS_data, e]
      have e1 : (⟨(r.take k).toArray⟩ : ByteArray).size = k := by rw [ba_size]; simp; omega
      have e2 : (⟨(r.drop k).toArray⟩ : ByteArray).size = m := by rw [ba_size]; simp; omega
      rw [e1, e2]
      simp
    · cases h

def parseE (s : ByteArray) : Int := match parseO s with | none => 1 | some (n, a, b) => headE n a b
def parseN (s : ByteArray) : Int := match parseO s with | none => 0 | some (n, a, b) => if headE n a b = 0 then (n : Int) else 0
def parseA (s : ByteArray) : ByteArray := match parseO s with | none => ⟨#[]⟩ | some (n, a, b) => if headE n a b = 0 then a else ⟨#[]⟩
def parseB (s : ByteArray) : ByteArray := match parseO s with | none => ⟨#[]⟩ | some (n, a, b) => if headE n a b = 0 then b else ⟨#[]⟩
theorem parse_none {s : ByteArray} (h : parseO s = none) : parseE s = 1 ∧ parseN s = 0 ∧ parseA s = ⟨#[]⟩ ∧ parseB s = ⟨#[]⟩ := by
  unfold parseE parseN parseA parseB
  rw [h]
  exact ⟨rfl, rfl, rfl, rfl⟩
theorem parse_bad {s a b : ByteArray} {n : Nat} (h : parseO s = some (n, a, b)) (h0 : headE n a b ≠ 0) : parseE s = headE n a b ∧ parseN s = 0 ∧ parseA s = ⟨#[]⟩ ∧ parseB s = ⟨#[]⟩ := by
  unfold parseE parseN parseA parseB
  rw [h]
  exact ⟨rfl, if_neg h0, if_neg h0, if_neg h0⟩
theorem parse_good {s a b : ByteArray} {n : Nat} (h : parseO s = some (n, a, b)) (h0 : headE n a b = 0) : parseE s = 0 ∧ parseN s = n ∧ parseA s = a ∧ parseB s = b := by
  unfold parseE parseN parseA parseB
  rw [h]
  exact ⟨h0, if_pos h0, if_pos h0, if_pos h0⟩

/- P7.2, both ways. -/
theorem back_head {n : Int} {a b : ByteArray} (h : headE n a b = 0) : parseE (printV n a b) = 0 ∧ parseN (printV n a b) = n ∧ parseA (printV n a b) = a ∧ parseB (printV n a b) = b := by
  obtain ⟨h1, h2, h3, h4⟩ := (headE_iff n a b).1 h
  obtain ⟨m, rfl⟩ : ∃ m : Nat, n = m := ⟨n.toNat, by omega⟩
  rw [print_pos h]
  exact parse_good (parse_print _ a b (by omega) (by omega) (by omega)) h
theorem back_text {s : ByteArray} (h : parseE s = 0) : headE (parseN s) (parseA s) (parseB s) = 0 ∧ printV (parseN s) (parseA s) (parseB s) = s := by
  cases hp : parseO s with
  | none => rw [(parse_none hp).1] at h; cases h
  | some x =>
    obtain ⟨n, a, b⟩ := x
    by_cases h0 : headE n a b = 0
    · obtain ⟨_, e1, e2, e3⟩ := parse_good hp h0
      rw [e1, e2, e3]
      refine ⟨h0, ?_⟩
      rw [print_pos h0]
      exact (print_parse hp).1
    · rw [(parse_bad hp h0).1] at h
      exact absurd h h0
theorem print_inj {n m : Int} {a b c d : ByteArray} (h : headE n a b = 0) (g : headE m c d = 0) (he : printV n a b = printV m c d) : n = m ∧ a = c ∧ b = d := by
  obtain ⟨_, e1, e2, e3⟩ := back_head h
  obtain ⟨_, f1, f2, f3⟩ := back_head g
  rw [he] at e1 e2 e3
  exact ⟨e1.symm.trans f1, e2.symm.trans f2, e3.symm.trans f3⟩
theorem writeB_size (x y z : Nat) (hx : x ≤ 20000) (hy : y ≤ 20000) (hz : z ≤ 20000) : (writeB x y z).size ≤ 18 := by
  have h1 := nDigits_le5 x hx
  have h2 := nDigits_le5 y hy
  have h3 := nDigits_le5 z hz
  rw [ba_size]
  simp only [writeB, writeL, List.length_append, List.length_cons, Lib.decDigits_length, List.length_nil]
  omega
end Go.Proofs.YtmemahlibndoiafFmt
