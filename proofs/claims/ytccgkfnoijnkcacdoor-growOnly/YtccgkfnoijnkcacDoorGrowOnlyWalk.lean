/-
  The law GrowOnly walked: just these seals show that a list goes on: with one changed, one more, one less nothing is shown.
-/
import Derived.Test.YtccgkfnoijnkcacDoorOnlyGrow
import Derived.Laws.EntriesVeiled
namespace Go.Proofs.YtccgkfnoijnkcacDoor
open Go Go.RowKit

theorem boxes_two (W : World) (u v : Value) (s t : TypeId) : ∃ W0, ((W.alloc (.cells #[u] s)).alloc (.cells #[v] t)) = W0 ∧ Below W.heap.size W W0 ∧ W0.heap.size = W.heap.size + 2 ∧ W0.cell? ⟨W.heap.size, 0, none⟩ = some u ∧ W0.cell? ⟨W.heap.size + 1, 0, none⟩ = some v ∧ W0.frozen? ⟨W.heap.size + 1, 0, none⟩ = false := by
  have hq1 : ((W.alloc (.cells #[u] s)).alloc (.cells #[v] t)).heap[W.heap.size]? = some (.cells #[u] s) := by
    show ((W.heap.push _).push _)[W.heap.size]? = _
    simp [Array.getElem?_push]
  have hq2 : ((W.alloc (.cells #[u] s)).alloc (.cells #[v] t)).heap[W.heap.size + 1]? = some (.cells #[v] t) := by
    have h := Array.getElem?_push_size (xs := W.heap.push (.cells #[u] s)) (x := .cells #[v] t)
    rw [Array.size_push] at h
    exact h
  refine ⟨_, rfl, ((Below.refl _ _).alloc (Nat.le_refl _) _).alloc (by show _ ≤ (W.heap.push _).size; simp) _, by show ((W.heap.push _).push _).size = _; simp, ?_, ?_, ?_⟩
  · unfold World.cell?; simp only [hq1]; rfl
  · unfold World.cell?; simp only [hq2]; rfl
  · unfold World.frozen?; simp only [hq2]; rfl
theorem box_new (w : World) (u : Value) (t : TypeId) : (w.alloc (.cells #[u] t)).cell? ⟨w.heap.size, 0, none⟩ = some u ∧ w.heap.size < (w.alloc (.cells #[u] t)).heap.size ∧ Below w.heap.size w (w.alloc (.cells #[u] t)) := by
  have hh : (w.alloc (.cells #[u] t)).heap[w.heap.size]? = some (.cells #[u] t) := by show (w.heap.push _)[w.heap.size]? = _; simp
  refine ⟨?_, by show _ < (w.heap.push _).size; simp, (Below.refl _ _).alloc (Nat.le_refl _) _⟩
  unfold World.cell?; simp only [hh]; rfl
theorem set_text_self {l : List ByteArray} {j : Nat} (hj : j < l.length) (x : ByteArray) : l.set j x = l ↔ x = textAt l j := by
  have e : l.getD j ByteArray.empty = l[j] := by rw [List.getD_eq_getElem?_getD, List.getElem?_eq_getElem hj, Option.getD_some]
  unfold textAt
  rw [e]
  constructor
  · intro h
    have := congrArg (fun m => m[j]?) h
    simp only [List.getElem?_set_self hj, List.getElem?_eq_getElem hj, Option.some.injEq] at this
    exact this
  · rintro rfl
    exact List.set_getElem_self hj
theorem strs_soft {w : World} {g c n base : Nat} {e : TypeId} {xs : List Value} (h : w.ownsRow base e 1 (.slice (some ⟨g, 0, none⟩) n c) n xs) (j : Nat) : w.frozen? ⟨g, j, none⟩ = false := by
  rcases h.2 with ⟨he, _⟩ | ⟨g', cap, cur, he, _, hg, _⟩
  · cases he
  · injection he with e1 _ _
    injection e1 with e1
    injection e1 with e1 _ _
    subst e1
    simp [World.frozen?, hg]

set_option maxRecDepth 100000 in
set_option maxHeartbeats 2000000 in
theorem growOnly_walk (l : List ByteArray) (a : Option Addr) (n c : Nat) (m k : Int) (s : ByteArray) (W : World) (hE : Tab W) (hn : l.length = n) (hS : StrsAt W a c l)
    (hm : -9223372036854775808 ≤ m) (hm' : m ≤ 9223372036854775807) (hk : -9223372036854775808 ≤ k) (hk' : k ≤ 9223372036854775807) (hs : s.size ≤ 9223372036854775807) :
    Calls Tryd.prog 5 #[.slice a n c, .int .i64 m, .int .i64 k, .string s] W fun e w' => e = .returned (.bool true) ∧ Below W.heap.size W w' := by
  have hcap := hS.cap
  have hmax := hS.max
  obtain ⟨W0, hW0, b0, hsz0, d1, d2, d3⟩ := boxes_two W (.slice a n c) (.int .i64 m) 22 3
  have hE0 := hE.on b0
  have hS0 := hS.on b0
  rcases hx : rootS l with _ | r
  · go_enter Tryd.func5, Tryd.ntmps5
    go_wp2_with fail
    refine (root_no l hx a n c W0 hn hE0 hS0).mono ?_
    rintro e w1 ⟨rfl, hb1⟩
    have hb1a : Below W0.heap.size W0 (w1.alloc (.cells #[.string ⟨#[]⟩] 9)) := below_on hb1 ((Below.refl _ _).alloc (Nat.le_refl _) _)
    have hE1 := hE0.on hb1a
    go_wp2_with fail
    refine (grown_any _ hE1).mono ?_
    rintro e w2 ⟨rfl, hb2⟩
    have hb2 := below_on hb1a hb2
    have hE2 := hE0.on hb2
    clear hb1 hE1 hb1a
    go_wp2_with fail
    refine (grown_any w2 hE2).mono ?_
    rintro e w3 ⟨rfl, hb3⟩
    have hb3 := below_on hb2 hb3
    go_wp2_with fail
    go_ret
    exact ⟨rfl, below_on b0 hb3⟩
  rcases Nat.eq_zero_or_pos n with h0 | h0
  · subst h0
    go_enter Tryd.func5, Tryd.ntmps5
    go_wp2_with fail
    refine (root_ok l r hx a 0 c W0 hn hE0 hS0).mono ?_
    rintro e w1 ⟨rfl, hb1⟩
    have hb1a : Below W0.heap.size W0 (w1.alloc (.cells #[.string r] 9)) := below_on hb1 ((Below.refl _ _).alloc (Nat.le_refl _) _)
    have hE1 := hE0.on hb1a
    go_wp2_with fail
    refine (grown_any _ hE1).mono ?_
    rintro e w2 ⟨rfl, hb2⟩
    have hb2 := below_on hb1a hb2
    have hE2 := hE0.on hb2
    have f1 : w2.cell? ⟨W.heap.size, 0, none⟩ = some (.slice a 0 c) := by rw [hb2.cell (by rw [hsz0]; show W.heap.size < _; omega)]; exact d1
    clear hb1 hE1 hb1a
    go_wp2_with fail
    refine (grown_any w2 hE2).mono ?_
    rintro e w3 ⟨rfl, hb3⟩
    have hb3 := below_on hb2 hb3
    go_wp2_with fail
    go_ret
    exact ⟨rfl, below_on b0 hb3⟩
  have h24 : n ≤ 24 := by rw [← hn]; exact rootS_len hx
  obtain ⟨b, off, rfl, hlt, _⟩ := hS.cells (by omega)
  have hI := atN_lt m h0
  have atI := fun w => at_any m n w h0 (by omega) hm hm'
  generalize atN m n = I at hI atI
  obtain ⟨M, hM⟩ : ∃ M, M = I + 1 := ⟨_, rfl⟩
  have h1I : (1 : Int) + (I : Int) = (M : Int) := by omega
  have hM1 : 1 ≤ M := by omega
  have hMn : M ≤ n := by omega
  clear hM
  obtain ⟨old, ho, _⟩ := root_take l.length l M r (Nat.le_refl _) hM1 (by omega) hx
  have lM : (l.take M).length = M := by rw [List.length_take]; omega
  have hSM := hS.take M
  have kO := fun w hE hS => root_ok (l.take M) old ho (some ⟨b, off, none⟩) M c w lM hE hS
  have kOf := fun w hE hS => growOf_ok l (some ⟨b, off, none⟩) n c M r w hn hE hS hx hM1 hMn
  have kCl := fun po pm pr pl x a6 k c6 w hE hB hk hT => only_grow l (some ⟨b, off, none⟩) n c M r old po pm pr pl x a6 k c6 w hE hn hx ho hM1 hMn hB hk hT
  have hPle : (growS l M true).length ≤ 24 := by
    have := growS_len n l M true (by omega) (by omega)
    omega
  have hPsz := growS_size n l M true (by omega)
  generalize growS l M true = P at kOf kCl hPle hPsz
  have hmore : P ++ [s] ≠ P := by
    intro h
    have := congrArg List.length h
    rw [List.length_append] at this
    simp at this
  have HO := Lib.hid kO
  have HOf := Lib.hid kOf
  have HCl := Lib.hid kCl
  have HI := Lib.hid atI
  have hn0 : ¬ n = 0 := by omega
  have hmf : ∀ (fn : Fn) (first cap : Array Value) (w : World), (Instr.makeFunc fn first cap).run Tryd.prog w = .ok (.func fn first cap) w := fun _ _ _ _ => rfl
  clear kO kOf kCl atI
  go_enter Tryd.func5, Tryd.ntmps5
  go_wp2_with fail
  refine (root_ok l r hx _ n c W0 hn hE0 hS0).mono ?_
  rintro e w1 ⟨rfl, hb1⟩
  obtain ⟨hr0, hr1, hra⟩ := box_new w1 (.string r) 9
  have hb1a := below_on hb1 hra
  have hE1 := hE0.on hb1a
  go_wp2_with fail
  refine (grown_any _ hE1).mono ?_
  rintro e w2 ⟨rfl, hb2⟩
  have hr2 : w2.cell? ⟨w1.heap.size, 0, none⟩ = some (.string r) := by rw [hb2.cell hr1]; exact hr0
  have hr3 : w1.heap.size < w2.heap.size := Nat.lt_of_lt_of_le hr1 hb2.size
  have hr4 : W.heap.size + 2 ≤ w1.heap.size := by rw [← hsz0]; exact hb1.size
  have hb2 := below_on hb1a hb2
  have f1 : w2.cell? ⟨W.heap.size, 0, none⟩ = some (.slice (some ⟨b, off, none⟩) n c) := by rw [hb2.cell (by rw [hsz0]; show W.heap.size < _; omega)]; exact d1
  have f2 : w2.cell? ⟨W.heap.size + 1, 0, none⟩ = some (.int .i64 m) := by rw [hb2.cell (by rw [hsz0]; show W.heap.size + 1 < _; omega)]; exact d2
  have f3 : w2.frozen? ⟨W.heap.size + 1, 0, none⟩ = false := by rw [hb2.frozen (by rw [hsz0]; show W.heap.size + 1 < _; omega)]; exact d3
  generalize w1.heap.size = pr at hr2 hr3 hr4
  clear hb1 hE1 hb1a hr0 hr1 hra d1 d2 d3
  go_wp2_with fail
  refine (HI.out w2).mono ?_
  rintro e w3 ⟨rfl, rfl⟩
  have b2 := below_on b0 hb2
  have hz2 : W.heap.size + 2 ≤ w2.heap.size := by rw [← hsz0]; exact hb2.size
  have b3 : Below W.heap.size W (w2.setCell ⟨W.heap.size + 1, 0, none⟩ (.int .i64 (M : Int))) := b2.setCell (by show _ ≤ W.heap.size + 1; omega) _
  have g1 : (w2.setCell ⟨W.heap.size + 1, 0, none⟩ (.int .i64 (M : Int))).cell? ⟨W.heap.size, 0, none⟩ = some (.slice (some ⟨b, off, none⟩) n c) := by
    rw [World.cell?_setCell_other _ _ _ _ (by simp only [ne_eq, Addr.mk.injEq]; omega)]; exact f1
  have g2 : (w2.setCell ⟨W.heap.size + 1, 0, none⟩ (.int .i64 (M : Int))).cell? ⟨W.heap.size + 1, 0, none⟩ = some (.int .i64 (M : Int)) := World.cell?_setCell_same _ _ _ f2
  have g3 : (w2.setCell ⟨W.heap.size + 1, 0, none⟩ (.int .i64 (M : Int))).cell? ⟨pr, 0, none⟩ = some (.string r) := by
    rw [World.cell?_setCell_other _ _ _ _ (by simp only [ne_eq, Addr.mk.injEq]; omega)]; exact hr2
  have z3 : (w2.setCell ⟨W.heap.size + 1, 0, none⟩ (.int .i64 (M : Int))).heap.size = w2.heap.size := by simp
  generalize hW3 : w2.setCell ⟨W.heap.size + 1, 0, none⟩ (.int .i64 (M : Int)) = W3 at b3 g1 g2 g3 z3
  clear hr2 b2
  go_wp2_with fail
  refine (HO.out W3 (hE.on b3) (hSM.on b3)).mono ?_
  rintro e w4 ⟨rfl, hb4⟩
  obtain ⟨o0, o1, o2⟩ := box_new w4 (.string old) 9
  have hb4a := below_on hb4 o2
  have z4 : w2.heap.size ≤ w4.heap.size := by rw [← z3]; exact hb4.size
  have hbox : GrowBox (w4.alloc (.cells #[.string old] 9)) w4.heap.size (W.heap.size + 1) pr W.heap.size old M r (some ⟨b, off, none⟩) n c := by
    refine ⟨o1, by omega, by omega, by omega, o0, ?_, ?_, ?_⟩
    · rw [hb4a.cell (by show W.heap.size + 1 < _; omega)]; exact g2
    · rw [hb4a.cell (by show pr < _; omega)]; exact g3
    · rw [hb4a.cell (by show W.heap.size < _; omega)]; exact g1
  have b4 := below_on b3 hb4a
  have k1 := hbox.list
  have k2 := hbox.place
  generalize hpo : w4.heap.size = po at hbox
  generalize hW4 : w4.alloc (.cells #[.string old] 9) = W4 at b4 hbox k1 k2
  clear hb4 hb4a o0 o1 o2 z4 z3 g1 g2 g3 b3 hW3 hb2 f1 f2 f3
  go_wp2_with fail
  refine (HOf.out W4 (hE.on b4) (hS.on b4)).mono ?_
  rintro e w5 ⟨a5, c5, rfl, ⟨B5, hB5, hown5⟩, hP5, hb5⟩
  have hbox5 := hbox.on hb5
  have b5 := below_on b4 hb5
  clear hb5 b4 hbox k1 k2 hW4
  go_wp2_with fail
  refine (HCl.out po (W.heap.size + 1) pr W.heap.size P a5 P.length c5 w5 (hE.on b5) hbox5 rfl hP5).mono ?_
  rintro e w6 ⟨rfl, hb6⟩
  rw [decide_eq_true rfl]
  have hbox6 := hbox5.on hb6
  have hP6 := hP5.on hb6
  have b6 := below_on b5 hb6
  clear hb6 b5 hbox5 hown5 hP5 hB5
  go_wp2_with fail
  refine (clone_own P a5 P.length c5 w6 rfl (by omega) hP6).mono ?_
  rintro e w7 ⟨a7, c7, rfl, hown7, hb7⟩
  obtain ⟨i0, hi0, hz0, hz1, hz2'⟩ := info_parts infoStr
  go_wp2_with (at_builtin; go_loud (refine wpList_wanted (by rfl) ?_); go_loud (refine wp_append_lies _ _ _ 22 rfl w6.heap.size 9 i0 (.string ⟨#[]⟩) 1 16 Tryd.underlying22 hi0 hz0 hz1 hz2' rfl (by decide) _ _ _ rfl (hown7.alloc _) ⟨w7.heap.size, 0, none⟩ 1 1 [.string s] rfl rfl ?c1 ?c2 (by omega) ?c3 ?c4 ?c5 _ rfl ?_))
  case c1 => exact World.news_of_block (cs := #[.string s]) (t := 9) (fr := (0, 0)) (by show (w7.heap.push _)[w7.heap.size]? = _; simp)
  case c2 => intro u hu; rw [List.mem_singleton.1 hu]; rfl
  case c3 => unfold maxLen; omega
  case c4 => omega
  case c5 => show _ ≤ (w7.heap.push _).size; rw [Array.size_push]; have := hb7.size; omega
  intro g8 c8 w8 hown8 hgrow _ _
  have hb8 := own_below hb7 hb7.size hown7 (Nat.le_refl _) hgrow
  have hbox8 := hbox6.on hb8
  have hP8 := hP6.on hb8
  have b8 := below_on b6 hb8
  have hown8' : w8.ownsRow w6.heap.size 9 1 (.slice (some ⟨g8, 0, none⟩) (P.length + 1) c8) (P.length + 1) ((P ++ [s]).map Value.string) := by rw [List.map_append]; exact hown8
  have hT8 := (owned_strs hown8' (fun x hx => by
    rcases List.mem_append.1 hx with hx | hx
    · exact Nat.le_trans (hPsz x hx) (by omega)
    · rw [List.mem_singleton.1 hx]; exact hs)).2
  clear hb7 b6 hbox6 hP6 hown7 hown8 hown8' hgrow hb8
  go_wp2_with fail
  refine (HCl.out po (W.heap.size + 1) pr W.heap.size (P ++ [s]) _ (P.length + 1) c8 w8 (hE.on b8) hbox8 (by simp) hT8).mono ?_
  rintro e w9 ⟨rfl, hb9⟩
  rw [decide_eq_false hmore]
  have hbox9 := hbox8.on hb9
  have hP9 := hP8.on hb9
  have b9 := below_on b8 hb9
  clear hb9 b8 hbox8 hP8 hT8
  rcases Nat.eq_zero_or_pos P.length with hP0 | hP0
  · go_wp2_with fail
    go_ret
    exact ⟨rfl, b9⟩
  have hK := atN_lt k hP0
  have atK := fun w => at_any k P.length w hP0 (by omega) hk hk'
  generalize atN k P.length = K at hK atK
  have hP00 : ¬ P.length = 0 := by omega
  go_wp2_with fail
  refine (atK w9).mono ?_
  rintro e w10 ⟨rfl, rfl⟩
  go_wp2_with fail
  refine (clone_own P a5 P.length c5 w9 rfl (by omega) hP9).mono ?_
  rintro e w10 ⟨a10, c10, rfl, hown10, hb10⟩
  have hbox10 := hbox9.on hb10
  have hP10 := hP9.on hb10
  have b10 := below_on b9 hb10
  have hQ10 := (owned_strs hown10 (fun x hx => Nat.le_trans (hPsz x hx) (by omega))).2
  obtain ⟨g10, off10, rfl, hlt10, hc10⟩ := hQ10.cells hP0
  obtain rfl : off10 = 0 := by
    rcases hown10.2 with ⟨he, _⟩ | ⟨g', cap, cur, he, _⟩
    · cases he
    · injection he with e1 _ _
      injection e1 with e1
      injection e1 with _ e2 _
  have hg10 := (hown10.lt g10 rfl).1
  have hsoft := strs_soft hown10 K
  have hold10 := hc10 K hK
  have hQ11 := hQ10.put K hK s hs
  rw [Nat.zero_add] at hold10 hQ11
  have hb11 := hb10.setCell (p := ⟨g10, K, none⟩) hg10 (.string s)
  have hbox11 := hbox9.on hb11
  have hP11 := hP9.on hb11
  have b11 := below_on b9 hb11
  obtain ⟨g5, off5, rfl, hlt5, hc5⟩ := hP11.cells hP0
  have hright := hc5 K hK
  change _ = some (Value.string (textAt P K)) at hright
  have hcap5 := hP11.cap
  have hmax5 := hP11.max
  have hset := set_text_self hK s
  generalize textAt P K = t at hright hset
  generalize hW11 : w10.setCell ⟨g10, K, none⟩ (.string s) = W11 at hQ11 hbox11 hP11 b11 hright
  have hdrop : P.drop 1 ≠ P := by
    intro h
    have := congrArg List.length h
    rw [List.length_drop] at this
    omega
  have hst : StrsAt W11 (if c5 = 1 then some (⟨g5, off5, none⟩ : Addr) else some ⟨g5, off5 + 1, none⟩) (c5 - 1) (P.drop 1) := by
    have h1 := hP11.drop 1
    by_cases hc1 : c5 = 1
    · rw [if_pos hc1]
      exact ⟨h1.cap, h1.max, h1.sz, fun h0 => absurd h0 (by rw [List.length_drop]; omega)⟩
    · rw [if_neg hc1]; exact h1
  have kF := HCl.out po (W.heap.size + 1) pr W.heap.size (P.set K s) (some ⟨g10, 0, none⟩) P.length c10
  have kG := HCl.out po (W.heap.size + 1) pr W.heap.size (P.drop 1) (if c5 = 1 then some (⟨g5, off5, none⟩ : Addr) else some ⟨g5, off5 + 1, none⟩) (P.length - 1) (c5 - 1)
  rw [decide_eq_false hdrop] at kG
  have hbb : ∃ bb : Bool, decide (P.set K s = P) = bb ∧ (s.toList == t.toList) = bb := by
    by_cases h : s = t
    · exact ⟨true, decide_eq_true (hset.2 h), str_eq h⟩
    · exact ⟨false, decide_eq_false (fun e => h (hset.1 e)), str_ne h⟩
  obtain ⟨bb, hbb1, hbb2⟩ := hbb
  rw [hbb1] at kF
  have cF := Lib.hid (fun d os => Calls.regrown_of (kF (Sort.grow (redrawn W11 d) os) (hE.on (below_on b11 (below_regrown W11 d os))) (hbox11.on (below_regrown W11 d os)) (by simp) (hQ11.on (below_regrown W11 d os))))
  have cG := Lib.hid (fun d os => Calls.regrown_of (kG (Sort.grow (redrawn W11 d) os) (hE.on (below_on b11 (below_regrown W11 d os))) (hbox11.on (below_regrown W11 d os)) (by rw [List.length_drop]) (hst.on (below_regrown W11 d os))))
  have x1 := fun d os => cell_regrown hright d os
  clear kF kG HCl HI HO HOf atK hP11 hP10 hP9 hQ10 hQ11 hbox9 hbox10 hbox11 hb10 hb11 b9 b10 hown10 hright hst hset hc5 hc10 hmore hdrop hPsz hW0 b0 hE0 hS0 hSM hmf
  have q1 : (1 : Int) ≤ (P.length : Int) := by omega
  by_cases hc1 : c5 = 1
  · rw [if_pos hc1, show P.length - 1 = 0 by omega, show c5 - 1 = 0 by omega] at cG
    have hPl : P.length = 1 := by omega
    rw [hPl] at cF
    cases bb
    all_goals
      go_wp2_with fail
      refine wp_region_quiet_below (by kernel_rfl) (by kernel_rfl) ?_
      repeat (first | go_big_quiet_step (first | with_reducible exact cF.out _ _ | with_reducible exact cG.out _ _) | quiet_step (first | with_reducible exact cF.out _ _ | with_reducible exact cG.out _ _))
      refine wpQuiet_nil ?_
      intro _ hw'
      obtain ⟨⟨dq, osq⟩, hw''⟩ := hw'
      subst hw''
      have hbq := below_on b11 (below_regrown W11 dq osq)
      clear cF cG x1
      go_wp2_with fail
      go_ret
      exact ⟨rfl, hbq⟩
  · rw [if_neg hc1] at cG
    cases bb
    all_goals
      go_wp2_with fail
      refine wp_region_quiet_below (by kernel_rfl) (by kernel_rfl) ?_
      repeat (first | go_big_quiet_step (first | with_reducible exact cF.out _ _ | with_reducible exact cG.out _ _) | quiet_step (first | with_reducible exact cF.out _ _ | with_reducible exact cG.out _ _))
      refine wpQuiet_nil ?_
      intro _ hw'
      obtain ⟨⟨dq, osq⟩, hw''⟩ := hw'
      subst hw''
      have hbq := below_on b11 (below_regrown W11 dq osq)
      clear cF cG x1
      go_wp2_with fail
      go_ret
      exact ⟨rfl, hbq⟩
end Go.Proofs.YtccgkfnoijnkcacDoor
