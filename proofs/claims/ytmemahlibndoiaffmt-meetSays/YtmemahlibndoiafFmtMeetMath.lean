/-
  Two heads held together: what is shown of them, by the heads' own numbers and seals.
-/
import Derived.Test.YtmemahlibndoiafFmtClientMath
namespace Go.Proofs.YtmemahlibndoiafFmt
open Go Go.RowKit Go.Maps

/- The one with less entries first. -/
def pairE (ln : Int) (la lb : ByteArray) (hn : Int) (ha hb : ByteArray) (l : List ByteArray) : Int :=
  if ln = 0 then (if l = [] then 0 else 7) else if hn = ln ∧ hb ≠ lb then 7 else growE la ln ha hn l
def meetE (an : Int) (aa ab : ByteArray) (bn : Int) (ba bb : ByteArray) (l : List ByteArray) : Int :=
  if headE an aa ab ≠ 0 then headE an aa ab else if headE bn ba bb ≠ 0 then headE bn ba bb
  else if bn < an then pairE bn ba bb an aa ab l else pairE an aa ab bn ba bb l
theorem meet_a {an : Int} {aa ab : ByteArray} {bn : Int} {ba bb : ByteArray} {l : List ByteArray} (h : headE an aa ab ≠ 0) : meetE an aa ab bn ba bb l = headE an aa ab := by
  unfold meetE; rw [if_pos h]
theorem meet_b {an : Int} {aa ab : ByteArray} {bn : Int} {ba bb : ByteArray} {l : List ByteArray} (ha : headE an aa ab = 0) (h : headE bn ba bb ≠ 0) : meetE an aa ab bn ba bb l = headE bn ba bb := by
  unfold meetE; rw [if_neg (fun hh => hh ha), if_pos h]
theorem meet_less {an : Int} {aa ab : ByteArray} {bn : Int} {ba bb : ByteArray} {l : List ByteArray} (ha : headE an aa ab = 0) (hb : headE bn ba bb = 0) (h : bn < an) : meetE an aa ab bn ba bb l = pairE bn ba bb an aa ab l := by
  unfold meetE; rw [if_neg (fun hh => hh ha), if_neg (fun hh => hh hb), if_pos h]
theorem meet_more {an : Int} {aa ab : ByteArray} {bn : Int} {ba bb : ByteArray} {l : List ByteArray} (ha : headE an aa ab = 0) (hb : headE bn ba bb = 0) (h : ¬ bn < an) : meetE an aa ab bn ba bb l = pairE an aa ab bn ba bb l := by
  unfold meetE; rw [if_neg (fun hh => hh ha), if_neg (fun hh => hh hb), if_neg h]

/- Heads of books that parted are never shown to be of one. -/
theorem pair_true {b o : List EntB} (hb : GoodBook b) (ho : GoodBook o) {x : List ByteArray} (hle : b.length ≤ o.length)
    (h : pairE (b.length : Int) (headLog b) (headMap b) (o.length : Int) (headLog o) (headMap o) x = 0) : b = o.take b.length := by
  unfold pairE at h
  rcases Nat.eq_zero_or_pos b.length with h0 | h0
  · rw [List.length_eq_zero_iff.1 h0]; rfl
  rw [if_neg (by omega)] at h
  by_cases hm : (o.length : Int) = (b.length : Int) ∧ headMap o ≠ headMap b
  · rw [if_pos hm] at h; cases h
  rw [if_neg hm] at h
  exact ((grown_iff hb ho x h0 hle).1 h).1
theorem meet_true {b o : List EntB} (hb : GoodBook b) (ho : GoodBook o) {x : List ByteArray}
    (h : meetE (b.length : Int) (headLog b) (headMap b) (o.length : Int) (headLog o) (headMap o) x = 0) {k : Nat} (hk : k = min b.length o.length) : b.take k = o.take k := by
  by_cases hlt : (o.length : Int) < (b.length : Int)
  · rw [meet_less (head_good hb) (head_good ho) hlt] at h
    have e := pair_true ho hb (by omega) h
    obtain rfl : k = o.length := by omega
    rw [List.take_of_length_le (Nat.le_refl _)]
    exact e.symm
  · rw [meet_more (head_good hb) (head_good ho) hlt] at h
    have e := pair_true hb ho (by omega) h
    obtain rfl : k = b.length := by omega
    rw [List.take_of_length_le (Nat.le_refl _)]
    exact e
/- It is the same from both sides. -/
theorem meet_both {b o : List EntB} (hb : GoodBook b) (ho : GoodBook o) (x : List ByteArray) (hne : b.length ≠ o.length) :
    meetE (o.length : Int) (headLog o) (headMap o) (b.length : Int) (headLog b) (headMap b) x = meetE (b.length : Int) (headLog b) (headMap b) (o.length : Int) (headLog o) (headMap o) x := by
  by_cases hlt : (o.length : Int) < (b.length : Int)
  · rw [meet_less (head_good hb) (head_good ho) hlt, meet_more (head_good ho) (head_good hb) (by omega)]
  · rw [meet_more (head_good hb) (head_good ho) hlt, meet_less (head_good ho) (head_good hb) (by omega)]
/- Those of one book are shown to be. -/
theorem pair_on {b : List EntB} (hb : GoodBook b) {n : Nat} (h1 : 1 ≤ n) (hn : n ≤ b.length) :
    pairE (n : Int) (headLog (b.take n)) (headMap (b.take n)) (b.length : Int) (headLog b) (headMap b) (growS (textsE b) n true) = 0 := by
  have e : (b.take n).length = n := by rw [List.length_take]; omega
  unfold pairE
  rw [if_neg (by omega), if_neg ?_]
  · have h := (grown_iff (good_take hb n) hb (growS (textsE b) n true) (by omega) (by omega)).2 ⟨by rw [e], by rw [e]⟩
    rw [e] at h
    exact h
  · rintro ⟨h, hm⟩
    apply hm
    rw [List.take_of_length_le (by omega)]
theorem meet_on {b : List EntB} (hb : GoodBook b) {n : Nat} (h1 : 1 ≤ n) (hn : n ≤ b.length) :
    meetE (n : Int) (headLog (b.take n)) (headMap (b.take n)) (b.length : Int) (headLog b) (headMap b) (growS (textsE b) n true) = 0 ∧
    meetE (b.length : Int) (headLog b) (headMap b) (n : Int) (headLog (b.take n)) (headMap (b.take n)) (growS (textsE b) n true) = 0 := by
  have e : (b.take n).length = n := by rw [List.length_take]; omega
  have hg := head_good (good_take hb n)
  rw [e] at hg
  have hp := pair_on hb h1 hn
  refine ⟨by rw [meet_more hg (head_good hb) (by omega)]; exact hp, ?_⟩
  by_cases hlt : (n : Int) < (b.length : Int)
  · rw [meet_less (head_good hb) hg hlt]; exact hp
  · rw [meet_more (head_good hb) hg hlt]
    obtain rfl : n = b.length := by omega
    rw [List.take_of_length_le (Nat.le_refl _)] at hp ⊢
    exact hp
end Go.Proofs.YtmemahlibndoiafFmt
