/-
  The law TreeOne walked: no two lists have one seal.
-/
import Derived.Test.YtmmpjldbfaloeaaDoorPlanted
import Derived.Test.YtmmpjldbfaloeaaDoorSlices
import Derived.Test.YtmmpjldbfaloeaaDoorAt
namespace Go.Proofs.YtmmpjldbfaloeaaDoor
open Go Go.RowKit

theorem set_eq_iff {l : List ByteArray} {j : Nat} {s : ByteArray} (hj : j < l.length) : l.set j s = l ↔ s = l.getD j ByteArray.empty := by
  constructor
  · intro h
    have := congrArg (fun x => x.getD j ByteArray.empty) h
    simpa [List.getD_eq_getElem?_getD, hj] using this
  · rintro rfl
    apply List.ext_getElem?
    intro i
    by_cases hi : i = j
    · subst hi
      simp [hj, List.getD_eq_getElem?_getD]
    · rw [List.getElem?_set_ne (by omega)]

theorem treeOne_walk (l : List ByteArray) (a1 : Option Addr) (n1 c1 : Nat) (m : List ByteArray) (a2 : Option Addr) (n2 c2 : Nat) (k : Int) (s : ByteArray) (W : World) (hE : Tab W) (hn1 : l.length = n1) (hS1 : StrsAt W a1 c1 l) (hn2 : m.length = n2) (hS2 : StrsAt W a2 c2 m)
    (hk : -9223372036854775808 ≤ k) (hk' : k ≤ 9223372036854775807) (hs : s.size ≤ 9223372036854775807) :
    Calls Tryd.prog 5 #[.slice a1 n1 c1, .slice a2 n2 c2, .int .i64 k, .string s] W fun e w' => e = .returned (.bool true) ∧ Below W.heap.size W w' := by
  rcases hx : rootS l with _ | x
  · go_enter Tryd.func5, Tryd.ntmps5
    go_wp2_with fail
    refine (root_no l hx a1 n1 c1 W hn1 hE hS1).mono ?_
    rintro e w1 ⟨rfl, hb1⟩
    have hE1 := hE.on hb1
    go_wp2_with fail
    refine (root_any m a2 n2 c2 w1 hn2 hE1 (hS2.on hb1)).mono ?_
    rintro e w2 ⟨rfl, hb2⟩
    have hb2 := below_on hb1 hb2
    have hE2 := hE.on hb2
    clear hb1 hE1
    generalize rootV m = mv
    generalize rootE m = me
    go_wp2_with fail
    refine (planted_any w2 hE2).mono ?_
    rintro e w3 ⟨rfl, hb3⟩
    have hb3 := below_on hb2 hb3
    clear hb2 hE2
    go_wp2_with fail
    go_ret
    exact ⟨rfl, hb3⟩
  go_enter Tryd.func5, Tryd.ntmps5
  go_wp2_with fail
  refine (root_ok l x hx a1 n1 c1 W hn1 hE hS1).mono ?_
  rintro e w1 ⟨rfl, hb1⟩
  have hE1 := hE.on hb1
  go_wp2_with fail
  rcases hy : rootS m with _ | y
  · refine (root_no m hy a2 n2 c2 w1 hn2 hE1 (hS2.on hb1)).mono ?_
    rintro e w2 ⟨rfl, hb2⟩
    have hb2 := below_on hb1 hb2
    have hE2 := hE.on hb2
    clear hb1 hE1
    go_wp2_with fail
    refine (planted_any w2 hE2).mono ?_
    rintro e w4 ⟨rfl, hb4⟩
    have hb4 := below_on hb2 hb4
    clear hb2 hE2
    have hE4 := hE.on hb4
    rcases Nat.eq_zero_or_pos n1 with h0 | h0
    · subst h0
      go_wp2_with fail
      go_ret
      exact ⟨rfl, hb4⟩
    have hlt := atN_lt k h0
    have hl24 := rootS_len hx
    have hn0 : ¬ n1 = 0 := by omega
    go_wp2_with fail
    refine (at_any k n1 w4 h0 (by omega) hk hk').mono ?_
    rintro e w5 ⟨rfl, rfl⟩
    have hS4 := hS1.on hb4
    generalize hj : atN k n1 = j at hlt
    go_wp2_with fail
    refine (clone_strs l a1 n1 c1 w4 hn1 h0 (by omega) hS4).mono ?_
    rintro e w5 ⟨g, cap, rfl, hg, hS5, hfz, hb5⟩
    obtain ⟨b, off, rfl, hblt, hcell⟩ := hS1.cells (by omega)
    have hcj := hcell j (by omega)
    have hP := hS5.put j (by omega) s hs
    obtain ⟨g', o', hgo, hglt, hgc⟩ := hS5.cells (by omega)
    injection hgo with hgo
    injection hgo with e1 e2
    subst e1 e2
    have hgj := hgc j (by omega)
    have hfj := hfz j
    have hcap5 := hS5.cap
    have hmax5 := hS5.max
    rw [Nat.zero_add] at hgj hP
    have hb5' := below_on hb4 hb5
    have hb6 : Below W.heap.size W (w5.setCell ⟨g, j, none⟩ (.string s)) := hb5'.setCell (by have := hb4.size; show _ ≤ g; omega) _
    have hE6 := hE.on hb6
    have hlj : (l.set j s).length = n1 := by simpa using hn1
    clear hgc hfz hcell hb5 hS4 hS5 hb5' hE4
    generalize hold : l.getD j ByteArray.empty = old at hgj hcj
    go_wp2_with fail
    rcases hz : rootS (l.set j s) with _ | z
    · refine (root_no (l.set j s) hz _ n1 cap _ hlj hE6 hP).mono ?_
      rintro e w7 ⟨rfl, hb7⟩
      have hb7 := below_on hb6 hb7
      clear hb6 hE6 hP hgj hfj
      go_wp2_with fail
      go_ret
      exact ⟨rfl, hb7⟩
    refine (root_ok (l.set j s) z hz _ n1 cap _ hlj hE6 hP).mono ?_
    rintro e w7 ⟨rfl, hb7⟩
    have hb7 := below_on hb6 hb7
    have hc7 : w7.cell? ⟨b, off + j, none⟩ = some (.string old) := by rw [hb7.cell hblt]; exact hcj
    have heq : z = x ↔ s = old := by
      rw [rootS_eq hz hx, ← hold]
      exact set_eq_iff (by omega)
    clear hb6 hE6 hP hgj hfj hcj
    by_cases hso : s = old
    · have k1 := str_eq (heq.2 hso)
      have k2 := str_eq hso
      clear heq
      go_wp2_with fail
      go_ret
      exact ⟨rfl, hb7⟩
    · have k1 := str_ne (fun h => hso (heq.1 h))
      have k2 := str_ne hso
      clear heq
      go_wp2_with fail
      go_ret
      exact ⟨rfl, hb7⟩
  refine (root_ok m y hy a2 n2 c2 w1 hn2 hE1 (hS2.on hb1)).mono ?_
  rintro e w2 ⟨rfl, hb2⟩
  have hb2 := below_on hb1 hb2
  have hE2 := hE.on hb2
  clear hb1 hE1
  go_wp2_with fail
  refine (planted_any w2 hE2).mono ?_
  rintro e w3 ⟨rfl, hb3⟩
  have hb3 := below_on hb2 hb3
  clear hb2 hE2
  have heqx := rootS_eq hx hy
  go_wp2_with fail
  refine (equal_strs l m a1 a2 n1 c1 n2 c2 w3 hn1 hn2 (hS1.on hb3) (hS2.on hb3)).mono ?_
  rintro e w4 ⟨rfl, hb4⟩
  have hb4 := below_on hb3 hb4
  have hE4 := hE.on hb4
  clear hb3
  by_cases hlm : l = m
  · have q1 := str_eq (heqx.2 hlm)
    rw [decide_eq_true hlm]
    clear heqx
    rcases Nat.eq_zero_or_pos n1 with h0 | h0
    · subst h0
      go_wp2_with fail
      go_ret
      exact ⟨rfl, hb4⟩
    have hlt := atN_lt k h0
    have hl24 := rootS_len hx
    have hn0 : ¬ n1 = 0 := by omega
    go_wp2_with fail
    refine (at_any k n1 w4 h0 (by omega) hk hk').mono ?_
    rintro e w5 ⟨rfl, rfl⟩
    have hS4 := hS1.on hb4
    generalize hj : atN k n1 = j at hlt
    go_wp2_with fail
    refine (clone_strs l a1 n1 c1 w4 hn1 h0 (by omega) hS4).mono ?_
    rintro e w5 ⟨g, cap, rfl, hg, hS5, hfz, hb5⟩
    obtain ⟨b, off, rfl, hblt, hcell⟩ := hS1.cells (by omega)
    have hcj := hcell j (by omega)
    have hP := hS5.put j (by omega) s hs
    obtain ⟨g', o', hgo, hglt, hgc⟩ := hS5.cells (by omega)
    injection hgo with hgo
    injection hgo with e1 e2
    subst e1 e2
    have hgj := hgc j (by omega)
    have hfj := hfz j
    have hcap5 := hS5.cap
    have hmax5 := hS5.max
    rw [Nat.zero_add] at hgj hP
    have hb5' := below_on hb4 hb5
    have hb6 : Below W.heap.size W (w5.setCell ⟨g, j, none⟩ (.string s)) := hb5'.setCell (by have := hb4.size; show _ ≤ g; omega) _
    have hE6 := hE.on hb6
    have hlj : (l.set j s).length = n1 := by simpa using hn1
    clear hgc hfz hcell hb5 hS4 hS5 hb5' hE4
    generalize hold : l.getD j ByteArray.empty = old at hgj hcj
    go_wp2_with fail
    rcases hz : rootS (l.set j s) with _ | z
    · refine (root_no (l.set j s) hz _ n1 cap _ hlj hE6 hP).mono ?_
      rintro e w7 ⟨rfl, hb7⟩
      have hb7 := below_on hb6 hb7
      clear hb6 hE6 hP hgj hfj
      go_wp2_with fail
      go_ret
      exact ⟨rfl, hb7⟩
    refine (root_ok (l.set j s) z hz _ n1 cap _ hlj hE6 hP).mono ?_
    rintro e w7 ⟨rfl, hb7⟩
    have hb7 := below_on hb6 hb7
    have hc7 : w7.cell? ⟨b, off + j, none⟩ = some (.string old) := by rw [hb7.cell hblt]; exact hcj
    have heq : z = x ↔ s = old := by
      rw [rootS_eq hz hx, ← hold]
      exact set_eq_iff (by omega)
    clear hb6 hE6 hP hgj hfj hcj
    by_cases hso : s = old
    · have k1 := str_eq (heq.2 hso)
      have k2 := str_eq hso
      clear heq
      go_wp2_with fail
      go_ret
      exact ⟨rfl, hb7⟩
    · have k1 := str_ne (fun h => hso (heq.1 h))
      have k2 := str_ne hso
      clear heq
      go_wp2_with fail
      go_ret
      exact ⟨rfl, hb7⟩
  · have q1 := str_ne (fun h => hlm (heqx.1 h))
    rw [decide_eq_false hlm]
    clear heqx
    rcases Nat.eq_zero_or_pos n1 with h0 | h0
    · subst h0
      go_wp2_with fail
      go_ret
      exact ⟨rfl, hb4⟩
    have hlt := atN_lt k h0
    have hl24 := rootS_len hx
    have hn0 : ¬ n1 = 0 := by omega
    go_wp2_with fail
    refine (at_any k n1 w4 h0 (by omega) hk hk').mono ?_
    rintro e w5 ⟨rfl, rfl⟩
    have hS4 := hS1.on hb4
    generalize hj : atN k n1 = j at hlt
    go_wp2_with fail
    refine (clone_strs l a1 n1 c1 w4 hn1 h0 (by omega) hS4).mono ?_
    rintro e w5 ⟨g, cap, rfl, hg, hS5, hfz, hb5⟩
    obtain ⟨b, off, rfl, hblt, hcell⟩ := hS1.cells (by omega)
    have hcj := hcell j (by omega)
    have hP := hS5.put j (by omega) s hs
    obtain ⟨g', o', hgo, hglt, hgc⟩ := hS5.cells (by omega)
    injection hgo with hgo
    injection hgo with e1 e2
    subst e1 e2
    have hgj := hgc j (by omega)
    have hfj := hfz j
    have hcap5 := hS5.cap
    have hmax5 := hS5.max
    rw [Nat.zero_add] at hgj hP
    have hb5' := below_on hb4 hb5
    have hb6 : Below W.heap.size W (w5.setCell ⟨g, j, none⟩ (.string s)) := hb5'.setCell (by have := hb4.size; show _ ≤ g; omega) _
    have hE6 := hE.on hb6
    have hlj : (l.set j s).length = n1 := by simpa using hn1
    clear hgc hfz hcell hb5 hS4 hS5 hb5' hE4
    generalize hold : l.getD j ByteArray.empty = old at hgj hcj
    go_wp2_with fail
    rcases hz : rootS (l.set j s) with _ | z
    · refine (root_no (l.set j s) hz _ n1 cap _ hlj hE6 hP).mono ?_
      rintro e w7 ⟨rfl, hb7⟩
      have hb7 := below_on hb6 hb7
      clear hb6 hE6 hP hgj hfj
      go_wp2_with fail
      go_ret
      exact ⟨rfl, hb7⟩
    refine (root_ok (l.set j s) z hz _ n1 cap _ hlj hE6 hP).mono ?_
    rintro e w7 ⟨rfl, hb7⟩
    have hb7 := below_on hb6 hb7
    have hc7 : w7.cell? ⟨b, off + j, none⟩ = some (.string old) := by rw [hb7.cell hblt]; exact hcj
    have heq : z = x ↔ s = old := by
      rw [rootS_eq hz hx, ← hold]
      exact set_eq_iff (by omega)
    clear hb6 hE6 hP hgj hfj hcj
    by_cases hso : s = old
    · have k1 := str_eq (heq.2 hso)
      have k2 := str_eq hso
      clear heq
      go_wp2_with fail
      go_ret
      exact ⟨rfl, hb7⟩
    · have k1 := str_ne (fun h => hso (heq.1 h))
      have k2 := str_ne hso
      clear heq
      go_wp2_with fail
      go_ret
      exact ⟨rfl, hb7⟩
end Go.Proofs.YtmmpjldbfaloeaaDoor
