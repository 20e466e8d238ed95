/-
  Package path's Shows: the steps walked from below.
-/
import Derived.Test.YtolgikojliedlaeDoorPath
import Derived.Deep.LoopGhost
namespace Go.Proofs.YtolgikojliedlaeDoor
open Go Go.RowKit

/- A slice of sides: what is owned lies there. -/
structure BoolsAt (w : World) (a : Option Addr) (c : Nat) (l : List Bool) : Prop where
  cap : l.length ≤ c
  max : c ≤ 9223372036854775807
  cells : 0 < l.length → ∃ b, a = some ⟨b, 0, none⟩ ∧ b < w.heap.size ∧ ∀ i, i < l.length → w.cell? ⟨b, i, none⟩ = some (.bool (l.getD i false))
theorem bools_own {w : World} {base : Nat} {e : TypeId} {a : Option Addr} {c n : Nat} {l : List Bool} (h : w.ownsRow base e 1 (.slice a n c) n (l.map Value.bool)) : l.length = n ∧ BoolsAt w a c l := by
  have hln : l.length = n := by have := h.1; rw [List.length_map] at this; omega
  refine ⟨hln, ?_⟩
  rcases h.2 with ⟨he, h0⟩ | ⟨g, cap, cur, he, hb, hg, hnc, hm, hsz, hcur⟩
  · injection he with e1 e2 e3
    subst e1 e2 e3
    exact ⟨by omega, by omega, fun hp => by omega⟩
  · injection he with e1 e2 e3
    subst e1 e3
    have hlt : g < w.heap.size := by
      refine Classical.byContradiction fun hn => ?_
      rw [Array.getElem?_eq_none (by omega)] at hg
      cases hg
    refine ⟨by omega, hm, fun _ => ⟨g, rfl, hlt, fun i hi => ?_⟩⟩
    unfold World.cell?
    simp only [hg]
    have e1 : cur[i]? = (l.map Value.bool)[i]? := by
      rw [← hcur, List.getElem?_take, if_pos (by omega), Array.getElem?_toList]
    simp [e1, hi, List.getD_eq_getElem?_getD]
theorem BoolsAt.on {w w' : World} {a : Option Addr} {c : Nat} {l : List Bool} (h : BoolsAt w a c l) (hb : Below w.heap.size w w') : BoolsAt w' a c l := by
  refine ⟨h.cap, h.max, fun hp => ?_⟩
  obtain ⟨b, ha, hlt, hc⟩ := h.cells hp
  exact ⟨b, ha, Nat.lt_of_lt_of_le hlt hb.size, fun i hi => by rw [hb.cell hlt]; exact hc i hi⟩

theorem walkE_round (root now : ByteArray) (bs : List Bool) (ss : List StepB) (k : Nat) (hl : ss.length = bs.length) (hk : k < ss.length) :
    walkE root now (bs.drop k) (ss.drop k) = if (stepAt ss k).1 = bs.getD k false then (match joinO now (stepAt ss k) with | none => 2 | some x => walkE root x (bs.drop (k + 1)) (ss.drop (k + 1))) else 7 := by
  have e1 : bs.drop k = bs.getD k false :: bs.drop (k + 1) := by
    rw [List.drop_eq_getElem_cons (by omega), List.getD_eq_getElem?_getD, List.getElem?_eq_getElem (by omega), Option.getD_some]
  have e2 : ss.drop k = stepAt ss k :: ss.drop (k + 1) := by
    unfold stepAt
    rw [List.drop_eq_getElem_cons hk, List.getD_eq_getElem?_getD, List.getElem?_eq_getElem hk, Option.getD_some]
  rw [e1, e2]
  rfl
theorem walkE_end (root now : ByteArray) (bs : List Bool) (ss : List StepB) (k : Nat) (hl : ss.length = bs.length) (hk : ss.length ≤ k) :
    walkE root now (bs.drop k) (ss.drop k) = if now = root then 0 else 7 := by
  rw [List.drop_of_length_le (by omega), List.drop_of_length_le hk]
  rfl

theorem shows_range (root : ByteArray) (n i : Int) (text : ByteArray) (v : Value) (w : World) (h : n < 1 ∨ 24 < n) :
    Calls Tryd.prog 13 #[.string root, .int .i64 n, .int .i64 i, .string text, v] w fun e w' => e = .returned (.int .i64 3) ∧ w = w' := by
  rcases Int.lt_or_le n 1 with h0 | h0
  · go_enter Tryd.func13, Tryd.ntmps13
    go_wp2_with fail
    go_ret
    exact ⟨rfl, rfl⟩
  · have h1 : 24 < n := by omega
    have h2 : ¬ n < 1 := by omega
    clear h
    go_enter Tryd.func13, Tryd.ntmps13
    go_wp2_with fail
    go_ret
    exact ⟨rfl, rfl⟩
theorem shows_who (root : ByteArray) (n i : Int) (text : ByteArray) (v : Value) (w : World) (h1 : 1 ≤ n) (h2 : n ≤ 24) (h : i < 0 ∨ n ≤ i) :
    Calls Tryd.prog 13 #[.string root, .int .i64 n, .int .i64 i, .string text, v] w fun e w' => e = .returned (.int .i64 5) ∧ w = w' := by
  have g1 : ¬ n < 1 := by omega
  have g2 : ¬ 24 < n := by omega
  rcases Int.lt_or_le i 0 with h0 | h0
  · go_enter Tryd.func13, Tryd.ntmps13
    go_wp2_with fail
    go_ret
    exact ⟨rfl, rfl⟩
  · have h1 : n ≤ i := by omega
    have h2 : ¬ i < 0 := by omega
    clear h
    go_enter Tryd.func13, Tryd.ntmps13
    go_wp2_with fail
    go_ret
    exact ⟨rfl, rfl⟩

set_option maxRecDepth 100000 in
theorem shows_in (root : ByteArray) (n i : Nat) (text : ByteArray) (ss : List StepB) (a : Option Addr) (m c : Nat) (w : World) (hm : ss.length = m) (hE : Tab w) (hS : StepsAt w a c ss) (h1 : 1 ≤ n) (h24 : n ≤ 24) (hi : i < n) :
    Calls Tryd.prog 13 #[.string root, .int .i64 (n : Int), .int .i64 (i : Int), .string text, .slice a m c] w fun e w' => e = .returned (.int .i64 (showE root n i text ss)) ∧ Below w.heap.size w w' := by
  have hcap := hS.cap
  have hmax := hS.max
  have g1 : ¬ n < 1 := by omega
  have g2 : ¬ 24 < n := by omega
  have g3 : ¬ n ≤ i := by omega
  have hE0 : showE root n i text ss = if ss.length = (sidesN n i).length then (match leafO text with | none => 2 | some x => walkE root x (sidesN n i) ss) else 7 := by
    unfold showE
    rw [if_neg (by omega), if_neg (by omega)]
    rfl
  have hsd := sides_any n i w h1 h24 hi
  have hle := sidesN_le (n := n) (i := i) h24
  generalize sidesN n i = bs at hE0 hsd hle
  generalize showE root n i text ss = res at hE0
  by_cases hlen : m = bs.length
  · rw [if_pos (by omega)] at hE0
    cases hL : leafO text with
    | none =>
      rw [hL] at hE0
      simp only at hE0
      have hlong := leafO_none hL
      go_enter Tryd.func13, Tryd.ntmps13
      go_wp2_with fail
      refine hsd.mono ?_
      rintro e w1 ⟨a1, c1, rfl, hown, hb1⟩
      rw [← hlen]
      go_wp2_with fail
      refine (leaf_many text w1 hlong).mono ?_
      rintro e w2 ⟨rfl, rfl⟩
      go_wp2_with fail
      go_ret
      exact ⟨by rw [hE0]; rfl, hb1⟩
    | some x =>
      rw [hL] at hE0
      simp only at hE0
      obtain ⟨hshort, rfl⟩ := leafO_some hL
      have hx0 := leafO_size hL
      clear hL
      go_enter Tryd.func13, Tryd.ntmps13
      go_wp2_with fail
      refine hsd.mono ?_
      rintro e w1 ⟨a1, c1, rfl, hown, hb1⟩
      obtain ⟨_, hB1⟩ := bools_own hown
      have hE1 := hE.on hb1
      have hS1 := hS.on hb1
      have hbc := hB1.cap
      have hbm := hB1.max
      clear hown hE hS hsd
      rw [← hlen] at hbc ⊢
      have Hl := Lib.hid hlen
      clear hlen
      go_wp2_with fail
      refine (leaf_ok text w1 hshort).mono ?_
      rintro e w2 ⟨rfl, rfl⟩
      go_wp2_with fail
      go_loopg [47, 12] m (fun g s47 s12 wr => ∃ (k : Nat) (now : ByteArray), k ≤ m ∧ m - k ≤ g ∧ s47 = .int .i64 k ∧ s12 = .string now ∧ now.size ≤ 20007 ∧ Below w1.heap.size w1 wr ∧ walkE root now (bs.drop k) (ss.drop k) = res)
      case atStart => exact ⟨0, _, Nat.zero_le _, by omega, rfl, rfl, by omega, Below.refl _ _, hE0.symm⟩
      case round =>
        obtain ⟨k, now, hk, hg, rfl, rfl, hsz, hb, hres⟩ := hrel
        clear hE0
        rcases Nat.lt_or_ge k m with hkm | hkm
        · rw [walkE_round root now bs ss k (by rw [← Hl.out, hm]) (by omega)] at hres
          have hSr := hS1.on hb
          have hBr := hB1.on hb
          have hEr := hE1.on hb
          obtain ⟨b, off, rfl, hlt, hc⟩ := hSr.cells (by omega)
          obtain ⟨b', rfl, hlt', hc'⟩ := hBr.cells (by rw [← Hl.out]; omega)
          obtain ⟨q0, q1⟩ := hc k (by omega)
          have q2 := hc' k (by rw [← Hl.out]; omega)
          have hzs := hSr.sz _ (stepAt_mem (l := ss) (i := k) (by omega))
          generalize stepAt ss k = st at hres q0 q1 hzs
          generalize bs.getD k false = bb at hres q2
          obtain ⟨sl, sx⟩ := st
          simp only at q0 q1 hzs
          clear hc hc' hSr hBr hS1 hB1
          go_wp2_with fail
          have hb3 : Below w1.heap.size w1 (wr.alloc (.cells #[.bool sl, .string sx] 82)) := hb.alloc hb.size _
          have hh : (wr.alloc (.cells #[.bool sl, .string sx] 82)).heap[wr.heap.size]? = some (.cells #[.bool sl, .string sx] 82) := by show (wr.heap.push _)[wr.heap.size]? = _; simp
          have r0 : (wr.alloc (.cells #[.bool sl, .string sx] 82)).cell? ⟨wr.heap.size, 0, none⟩ = some (.bool sl) := by unfold World.cell?; simp only [hh]; rfl
          have r1 : (wr.alloc (.cells #[.bool sl, .string sx] 82)).cell? ⟨wr.heap.size, 1, none⟩ = some (.string sx) := by unfold World.cell?; simp only [hh]; rfl
          have r2 : (wr.alloc (.cells #[.bool sl, .string sx] 82)).cell? ⟨b', k, none⟩ = some (.bool bb) := by rw [((Below.refl wr.heap.size wr).alloc (Nat.le_refl _) _).cell hlt']; exact q2
          have hE3 := hE1.on hb3
          clear hh q0 q1 q2 hEr hb
          generalize (wr.alloc (.cells #[.bool sl, .string sx] 82)) = W3 at hb3 r0 r1 r2 hE3
          generalize wr.heap.size = B at r0 r1
          have hkc : (k : Int) < (m : Int) := by omega
          by_cases hsd : sl = bb
          · subst hsd
            rw [if_pos rfl] at hres
            go_quiet (fail)
            have hb4 := below_drewN hb3 nq
            have hE4 := hE1.on hb4
            have t0 : (W3.drewN nq).cell? ⟨B, 0, none⟩ = some (.bool sl) := r0
            have t1 : (W3.drewN nq).cell? ⟨B, 1, none⟩ = some (.string sx) := r1
            generalize W3.drewN nq = W4 at hb4 hE4 t0 t1
            clear hb3 hE3 r0 r1 r2
            go_wp2_with fail
            cases hj : joinO now (sl, sx) with
            | none =>
              rw [hj] at hres
              simp only at hres
              have Hr := Lib.hid hres
              clear hres
              refine (join_no now sl sx W4 (by omega) hzs hj).mono ?_
              rintro e w5 ⟨rfl, hb5⟩
              have hb5 := below_on hb4 hb5
              clear hj t0 t1
              go_wp2_with fail
              go_ret
              exact ⟨by rw [← Hr.out]; rfl, below_on hb1 hb5⟩
            | some z =>
              rw [hj] at hres
              simp only at hres
              have hz := joinO_size hj
              have Hr := Lib.hid hres
              clear hres
              refine (join_ok now sl sx z W4 hE4 hj).mono ?_
              rintro e w5 ⟨rfl, hb5⟩
              have hb5 := below_on hb4 hb5
              clear hj t0 t1
              go_wp2_with fail
              go_roundg (m - (k + 1))
              case measure => omega
              case rel => exact ⟨k + 1, z, by omega, Nat.le_refl _, by go_num, rfl, hz, hb5, Hr.out⟩
          · have hsd' : (sl == bb) = false := by simpa using hsd
            rw [if_neg hsd] at hres
            have Hr := Lib.hid hres
            clear hres
            go_quiet (fail)
            go_wp2_with fail
            go_ret
            exact ⟨by rw [← Hr.out]; rfl, below_on hb1 (below_drewN hb3 nq)⟩
        · rw [walkE_end root now bs ss k (by rw [← Hl.out, hm]) (by omega)] at hres
          obtain rfl : k = m := by omega
          by_cases hnr : now = root
          · have hs1 := str_eq hnr
            rw [if_pos hnr] at hres
            have Hr := Lib.hid hres
            clear hres
            go_wp2_with fail
            go_ret
            exact ⟨by rw [← Hr.out]; rfl, below_on hb1 hb⟩
          · have hs1 := str_ne hnr
            rw [if_neg hnr] at hres
            have Hr := Lib.hid hres
            clear hres
            go_wp2_with fail
            go_ret
            exact ⟨by rw [← Hr.out]; rfl, below_on hb1 hb⟩
  · rw [if_neg (by omega)] at hE0
    go_enter Tryd.func13, Tryd.ntmps13
    go_wp2_with fail
    refine hsd.mono ?_
    rintro e w1 ⟨a1, c1, rfl, hown, hb1⟩
    go_wp2_with fail
    go_ret
    exact ⟨by rw [hE0]; rfl, hb1⟩

theorem shows_any (root : ByteArray) (n i : Int) (text : ByteArray) (ss : List StepB) (a : Option Addr) (m c : Nat) (w : World) (hm : ss.length = m) (hE : Tab w) (hS : StepsAt w a c ss) :
    Calls Tryd.prog 13 #[.string root, .int .i64 n, .int .i64 i, .string text, .slice a m c] w fun e w' => e = .returned (.int .i64 (showE root n i text ss)) ∧ Below w.heap.size w w' := by
  by_cases h1 : n < 1 ∨ 24 < n
  · have e1 : showE root n i text ss = 3 := by unfold showE; rw [if_pos h1]
    rw [e1]
    refine (shows_range root n i text _ w h1).mono ?_
    rintro e w1 ⟨rfl, rfl⟩
    exact ⟨rfl, Below.refl _ _⟩
  by_cases h2 : i < 0 ∨ n ≤ i
  · have e1 : showE root n i text ss = 5 := by unfold showE; rw [if_neg h1, if_pos h2]
    rw [e1]
    refine (shows_who root n i text _ w (by omega) (by omega) h2).mono ?_
    rintro e w1 ⟨rfl, rfl⟩
    exact ⟨rfl, Below.refl _ _⟩
  obtain ⟨n', rfl⟩ := Int.eq_ofNat_of_zero_le (a := n) (by omega)
  obtain ⟨i', rfl⟩ := Int.eq_ofNat_of_zero_le (a := i) (by omega)
  exact shows_in root n' i' text ss a m c w hm hE hS (by omega) (by omega) (by omega)
end Go.Proofs.YtolgikojliedlaeDoor
