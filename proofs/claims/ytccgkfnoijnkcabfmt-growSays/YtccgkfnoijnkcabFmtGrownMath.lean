/-
  The numbers of the closed fact of the grown lists' statements: from two to three, from three to five.
-/
import Derived.Test.YtccgkfnoijnkcabFmtPlanted
import Derived.Test.YtccgkfnoijnkcabFmtTakeMath
namespace Go.Proofs.YtccgkfnoijnkcabFmt
open Go Go.RowKit

def gD : ByteArray := ⟨#[100]⟩
def gE : ByteArray := ⟨#[101]⟩
def gLc : ByteArray := ⟨#[76, 99]⟩
def gLd : ByteArray := ⟨#[76, 100]⟩
def gLe : ByteArray := ⟨#[76, 101]⟩
def gLab : ByteArray := ⟨#[78, 50, 58, 76, 97, 76, 98]⟩

theorem grown_leaf {s t : ByteArray} (h : leafS s = t) (h' : s.size ≤ 20000) : rootS [s] = some t := by
  rw [rootS_one (l := [s]) rfl]
  show leafO s = _
  unfold leafO
  rw [if_pos h', h]
theorem grown_node {l : List ByteArray} {a b : ByteArray} {n : Nat} (hl : l.length = n) (h2 : 2 ≤ n) (h24 : n ≤ 24) (ha : rootS (l.take (halfN n)) = some a) (hb : rootS (l.drop (halfN n)) = some b) (hs : a.size + b.size ≤ 1000) :
    ∃ r, rootS l = some r ∧ r.size ≤ 1007 := by
  subst hl
  refine ⟨nodeS a b, ?_, ?_⟩
  · rw [rootS_two h2 h24, ha, hb]
    simp only [Option.bind_some]
    unfold nodeO
    rw [if_pos (by omega)]
  · rw [nodeS_size]
    have := nDigits_le5 a.size (by omega)
    omega
theorem grown_c : rootS [tC] = some gLc := grown_leaf (by decide +kernel) (by decide)
theorem grown_d : rootS [gD] = some gLd := grown_leaf (by decide +kernel) (by decide)
theorem grown_e : rootS [gE] = some gLe := grown_leaf (by decide +kernel) (by decide)
theorem grown_all : ∃ r, rootS [tA, tB, tC, gD, gE] = some r ∧ r.size ≤ 1007 := by
  have h2 : halfN 2 = 1 := by decide
  have h4 : halfN 4 = 2 := by decide
  have h5 : halfN 5 = 4 := by decide
  have kcd : ∃ r, rootS [tC, gD] = some r ∧ r.size ≤ 12 := by
    refine ⟨nodeS gLc gLd, ?_, ?_⟩
    · rw [rootS_two (by simp) (by simp)]
      show (rootS (List.take (halfN 2) [tC, gD])).bind (fun a => (rootS (List.drop (halfN 2) [tC, gD])).bind fun b => nodeO a b) = _
      rw [h2]
      show (rootS [tC]).bind (fun a => (rootS [gD]).bind fun b => nodeO a b) = _
      rw [grown_c, grown_d]
      show nodeO gLc gLd = _
      unfold nodeO
      rw [if_pos (show gLc.size + gLd.size ≤ 20000 by decide)]
    · rw [nodeS_size]
      have h1 : gLc.size = 2 := by decide
      have h2 : gLd.size = 2 := by decide
      have h3 := nDigits_le5 gLc.size (by omega)
      omega
  obtain ⟨cd, hcd, scd⟩ := kcd
  have kabcd : ∃ r, rootS [tA, tB, tC, gD] = some r ∧ r.size ≤ 50 := by
    have sab : gLab.size = 7 := by decide
    refine ⟨nodeS gLab cd, ?_, ?_⟩
    · rw [rootS_two (by simp) (by simp)]
      show (rootS (List.take (halfN 4) [tA, tB, tC, gD])).bind (fun a => (rootS (List.drop (halfN 4) [tA, tB, tC, gD])).bind fun b => nodeO a b) = _
      rw [h4]
      show (rootS [tA, tB]).bind (fun a => (rootS [tC, gD]).bind fun b => nodeO a b) = _
      rw [root_ab, hcd]
      show nodeO gLab cd = _
      unfold nodeO
      rw [if_pos (show gLab.size + cd.size ≤ 20000 by omega)]
    · rw [nodeS_size]
      have h3 := nDigits_le5 gLab.size (by omega)
      omega
  obtain ⟨abcd, habcd, sabcd⟩ := kabcd
  refine grown_node (n := 5) rfl (by omega) (by omega) (a := abcd) (b := gLe) ?_ ?_ ?_
  · rw [h5]; exact habcd
  · rw [h5]; exact grown_e
  · have : gLe.size = 2 := by decide
    omega

theorem grow_abc : growS [tA, tB, tC] 2 true = [gLc] := by
  have h3 : halfN 3 = 2 := by decide
  rw [growS_low (l := [tA, tB, tC]) (by simp) (by simp) (by show 2 ≤ halfN 3; rw [h3]; exact Nat.le_refl _)]
  show growS (List.take (halfN 3) [tA, tB, tC]) 2 true ++ [rootV (List.drop (halfN 3) [tA, tB, tC])] = _
  rw [h3]
  show growS [tA, tB] 2 true ++ [rootV [tC]] = _
  rw [growS_all (l := [tA, tB]) (by simp), (root_pos grown_c).1]
  rfl
theorem grow_abcde : growS [tA, tB, tC, gD, gE] 3 true = [gLc, gLd, gLab, gLe] := by
  have h2 : halfN 2 = 1 := by decide
  have h4 : halfN 4 = 2 := by decide
  have h5 : halfN 5 = 4 := by decide
  rw [growS_low (l := [tA, tB, tC, gD, gE]) (by simp) (by simp) (by show 3 ≤ halfN 5; rw [h5]; omega)]
  show growS (List.take (halfN 5) [tA, tB, tC, gD, gE]) 3 true ++ [rootV (List.drop (halfN 5) [tA, tB, tC, gD, gE])] = _
  rw [h5]
  show growS [tA, tB, tC, gD] 3 true ++ [rootV [gE]] = _
  rw [growS_high (l := [tA, tB, tC, gD]) (by simp) (by simp) (by show halfN 4 < 3; rw [h4]; omega)]
  show growS (List.drop (halfN 4) [tA, tB, tC, gD]) (3 - halfN 4) false ++ [rootV (List.take (halfN 4) [tA, tB, tC, gD])] ++ [rootV [gE]] = _
  rw [h4]
  show growS [tC, gD] 1 false ++ [rootV [tA, tB]] ++ [rootV [gE]] = _
  rw [growS_low (l := [tC, gD]) (by simp) (by simp) (by show 1 ≤ halfN 2; rw [h2]; exact Nat.le_refl _)]
  show growS (List.take (halfN 2) [tC, gD]) 1 false ++ [rootV (List.drop (halfN 2) [tC, gD])] ++ [rootV [tA, tB]] ++ [rootV [gE]] = _
  rw [h2]
  show growS [tC] 1 false ++ [rootV [gD]] ++ [rootV [tA, tB]] ++ [rootV [gE]] = _
  rw [growS_all (l := [tC]) (by simp), (root_pos grown_c).1, (root_pos grown_d).1, (root_pos grown_e).1, (root_pos root_ab).1]
  rfl
theorem grown_yes {r : ByteArray} (h : rootS [tA, tB, tC, gD, gE] = some r) : growE tABC 3 r 5 [gLc, gLd, gLab, gLe] = 0 := by
  have k := (grow_iff (l := [tA, tB, tC, gD, gE]) (m := 3) tABC [gLc, gLd, gLab, gLe] (by omega) (by simp) h).2 ⟨(root_pos root_abc).1.symm, grow_abcde.symm⟩
  exact k
theorem growE_two (old : ByteArray) (m n : Nat) (root : ByteArray) (x : List ByteArray) (h1 : 1 ≤ m) (hm : m ≤ n) (h24 : n ≤ 24) (h : growE old m root n x ≠ 0) : growE old m root n x = 7 := by
  unfold growE at h ⊢
  rw [if_neg (by omega)] at h ⊢
  split
  · rename_i hk; rw [if_pos hk] at h; exact absurd rfl h
  · rfl
theorem grown_no {r : ByteArray} (h : rootS [tA, tB, tC, gD, gE] = some r) : growE tABC 3 r 5 [] = 7 := by
  refine growE_two tABC 3 5 r [] (by omega) (by omega) (by omega) (fun h0 => ?_)
  have k := (grow_iff (l := [tA, tB, tC, gD, gE]) (m := 3) tABC [] (by omega) (by simp) h).1 h0
  rw [grow_abcde] at k
  exact absurd k.2 (by simp)
end Go.Proofs.YtccgkfnoijnkcabFmt
