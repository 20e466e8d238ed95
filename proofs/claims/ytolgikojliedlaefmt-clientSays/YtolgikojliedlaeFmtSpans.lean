/-
  The document's own reckoning of the spans around a place, and slices.Reverse at them.
-/
import Derived.Test.YtolgikojliedlaeFmtRootOf
import Derived.Test.YtolgikojliedlaeFmtMaths
import Derived.Test.YtolgikojliedlaeFmtOwn
import Derived.Deep.LoopGhost
namespace Go.Proofs.YtolgikojliedlaeFmt
open Go Go.RowKit Go.Kit Go.Extern.Stop Go.Stop Go.Extern

abbrev SpanB := Nat × Nat
def spanAt (l : List SpanB) (i : Nat) : SpanB := l.getD i (0, 0)
def spanCells (l : List SpanB) : List Value := l.flatMap fun s => [.int .i64 (s.1 : Int), .int .i64 (s.2 : Int)]
theorem spanCells_len (l : List SpanB) : (spanCells l).length = l.length * 2 := by
  induction l with
  | nil => rfl
  | cons s l ih => unfold spanCells at *; rw [List.flatMap_cons, List.length_append, ih]; simp; omega
theorem spanCells_app (l m : List SpanB) : spanCells (l ++ m) = spanCells l ++ spanCells m := by simp [spanCells]
theorem spanCells_at : ∀ (l : List SpanB) (i : Nat), i < l.length → (spanCells l)[i * 2]? = some (.int .i64 ((spanAt l i).1 : Int)) ∧ (spanCells l)[i * 2 + 1]? = some (.int .i64 ((spanAt l i).2 : Int))
  | s :: l, 0, _ => by simp [spanCells, spanAt]
  | s :: l, i + 1, h => by
    have := spanCells_at l i (by simpa using h)
    have e1 : spanCells (s :: l) = .int .i64 (s.1 : Int) :: .int .i64 (s.2 : Int) :: spanCells l := by simp [spanCells]
    have e2 : spanAt (s :: l) (i + 1) = spanAt l i := by simp [spanAt]
    rw [e1, e2, show (i + 1) * 2 = i * 2 + 1 + 1 by omega]
    simpa using this

/- Pairs of numbers in a block of the call's own. -/
structure PairsAt (w : World) (g n : Nat) (F : Nat → SpanB) : Prop where
  lt : g < w.heap.size
  cells : ∀ p, p < n → w.cell? ⟨g, p * 2, none⟩ = some (.int .i64 ((F p).1 : Int)) ∧ w.cell? ⟨g, p * 2 + 1, none⟩ = some (.int .i64 ((F p).2 : Int))
  soft : ∀ j, w.frozen? ⟨g, j, none⟩ = false
theorem PairsAt.on {w w' : World} {g n : Nat} {F : Nat → SpanB} (h : PairsAt w g n F) (hb : Below w.heap.size w w') : PairsAt w' g n F := by
  refine ⟨Nat.lt_of_lt_of_le h.lt hb.size, fun p hp => ?_, fun j => ?_⟩
  · rw [hb.cell h.lt, hb.cell h.lt]; exact h.cells p hp
  · have := h.soft j
    unfold World.frozen? at this ⊢
    rw [hb.block g h.lt]; exact this
theorem pairs_own {w : World} {base : Nat} {e : TypeId} {a : Option Addr} {n c : Nat} {l : List SpanB} (h : w.ownsRow base e 2 (.slice a n c) n (spanCells l)) (hn : 0 < n) :
    ∃ g, a = some ⟨g, 0, none⟩ ∧ base ≤ g ∧ l.length = n ∧ n ≤ c ∧ c ≤ 9223372036854775807 ∧ PairsAt w g n (spanAt l) := by
  have hln : l.length = n := by have := h.1; rw [spanCells_len] at this; omega
  rcases h.2 with ⟨_, h0⟩ | ⟨g, cap, cur, he, hb, hg, hnc, hm, hsz, hcur⟩
  · omega
  · injection he with e1 e2 e3
    subst e1 e3
    have hlt : g < w.heap.size := by
      refine Classical.byContradiction fun hn => ?_
      rw [Array.getElem?_eq_none (by omega)] at hg
      cases hg
    refine ⟨g, rfl, hb, hln, hnc, hm, hlt, fun p hp => ?_, fun j => by simp [World.frozen?, hg]⟩
    have key : ∀ j, j < n * 2 → w.cell? ⟨g, j, none⟩ = (spanCells l)[j]? := by
      intro j hj
      unfold World.cell?
      simp only [hg]
      rw [← hcur, List.getElem?_take, if_pos hj, Array.getElem?_toList]
      simp
    have hc := spanCells_at l p (by omega)
    rw [key _ (by omega), key _ (by omega)]
    exact hc

theorem infoSpan : (Tryf.prog.info? 75).map (fun i => (i.zero, i.size, i.bytes)) = some (some (.agg #[.int .i64 0, .int .i64 0]), 2, 16) := by kernel_rfl

set_option maxRecDepth 100000 in
set_option maxHeartbeats 400000 in
theorem spans_any (n i : Nat) (w : World) (h1 : 1 ≤ n) (h24 : n ≤ 24) (hi : i < n) :
    Calls Tryf.prog 36 #[.int .i64 (n : Int), .int .i64 (i : Int)] w fun e w' => ∃ a c, e = .returned (.slice a (spanL 0 n i).length c) ∧ w'.ownsRow w.heap.size 75 2 (.slice a (spanL 0 n i).length c) (spanL 0 n i).length (spanCells (spanL 0 n i)) ∧ Below w.heap.size w w' := by
  obtain ⟨i0, hi0, hz0, hz1, hz2⟩ := info_parts infoSpan
  have hlen : (spanL 0 n i).length ≤ 23 := by rw [spans_len]; exact sidesN_le h24
  obtain ⟨S, hS⟩ : ∃ S, S = spanL 0 n i := ⟨_, rfl⟩
  rw [← hS] at hlen ⊢
  have HS := Lib.hid hS
  clear hS
  go_enter Tryf.func36, Tryf.ntmps36
  go_wp2_with fail
  go_loopg [5, 6, 7] n (fun g s5 s6 s7 wr => ∃ (f m t : Nat) (acc : List SpanB) (a : Option Addr) (c : Nat), s5 = .slice a acc.length c ∧ s6 = .int .i64 (f : Int) ∧ s7 = .int .i64 (t : Int) ∧ t = f + m ∧ 1 ≤ m ∧ m ≤ g ∧ t ≤ n ∧ f ≤ i ∧ acc ++ spanL f m i = S ∧
    wr.ownsRow w.heap.size 75 2 (.slice a acc.length c) acc.length (spanCells acc) ∧ Below w.heap.size w wr)
  case atStart => exact ⟨0, n, n, [], none, 0, rfl, rfl, rfl, by omega, h1, Nat.le_refl _, Nat.le_refl _, Nat.zero_le _, by rw [HS.out]; rfl, World.ownsRow_nil _ _ _ _, Below.refl _ _⟩
  case round =>
    obtain ⟨f, m, t, acc, a, c, rfl, rfl, rfl, ht, hm1, hmg, htn, hfi, hacc, hown, hb⟩ := hrel
    have hsub : (t : Int) - (f : Int) = (m : Int) := by omega
    have ht2 : t ≤ f + m := by omega
    have ht3 : f + m ≤ t := by omega
    rcases Nat.lt_or_ge 1 m with h2 | h2
    · have hh := halfN_lt h2
      have hp := halfN_pos m
      obtain ⟨mid, hmd⟩ : ∃ mid, mid = f + halfN m := ⟨_, rfl⟩
      have hmid : (f : Int) + (halfN m : Int) = (mid : Int) := by omega
      have hm2 : mid ≤ f + halfN m := by omega
      have hm3 : f + halfN m ≤ mid := by omega
      rcases Nat.lt_or_ge i mid with hlow | hhigh
      · have hacc' : (acc ++ [(f, t)]) ++ spanL f (halfN m) i = S := by
          rw [← hacc, spanL_low h2 (by omega), List.append_assoc]
          rw [show f + m = t by omega]
          rfl
        have hal : acc.length ≤ 22 := by
          have := congrArg List.length hacc'
          simp only [List.length_append, List.length_singleton] at this
          omega
        have Hacc := Lib.hid hacc'
        have hcmp : i < mid := by omega
        clear hacc hacc' ht hmd
        go_wp2_with (at_builtin; refine wpList_append_lies _ rfl _ _ 72 rfl w.heap.size 75 i0 (.agg #[.int .i64 0, .int .i64 0]) 2 16 Tryf.underlying72 hi0 hz0 hz1 hz2 rfl (by decide) _ _ _ rfl (hown.alloc _) ⟨wr.heap.size, 0, none⟩ 1 1 [.int .i64 (f : Int), .int .i64 (t : Int)] rfl rfl ?c1 ?c2 (by omega) ?c3 ?c4 ?c5 _ rfl ?_)
        case c1 => exact World.news_of_block (cs := #[.int .i64 (f : Int), .int .i64 (t : Int)]) (t := 75) (fr := (0, 0)) (by show (wr.heap.push _)[wr.heap.size]? = _; simp)
        case c2 => intro u hu; simp only [List.mem_cons, List.not_mem_nil, or_false] at hu; rcases hu with rfl | rfl <;> rfl
        case c3 => unfold maxLen; omega
        case c4 => omega
        case c5 => show _ ≤ (wr.heap.push _).size; rw [Array.size_push]; have := hb.size; omega
        intro g cap w3 hown3 hgrow _ _
        have hb3 := own_below hb hb.size hown (Nat.le_refl _) hgrow
        clear hown hgrow hb
        go_wp2_with fail
        refine (halfOf_any m w3 h2 (by omega)).mono ?_
        rintro e w4 ⟨rfl, rfl⟩
        go_wp2_with fail
        go_roundg (halfN m)
        case measure => omega
        case rel =>
          refine ⟨f, halfN m, mid, acc ++ [(f, t)], some ⟨g, 0, none⟩, cap, ?_, rfl, rfl, by omega, by omega, Nat.le_refl _, by omega, by omega, Hacc.out, ?_, hb3⟩
          · rw [List.length_append]; rfl
          · rw [List.length_append, spanCells_app]; exact hown3
      · have hacc' : (acc ++ [(f, t)]) ++ spanL mid (m - halfN m) i = S := by
          rw [← hacc, spanL_high h2 (by omega), List.append_assoc]
          rw [show f + m = t by omega, show f + halfN m = mid by omega]
          rfl
        have hal : acc.length ≤ 22 := by
          have := congrArg List.length hacc'
          simp only [List.length_append, List.length_singleton] at this
          omega
        have Hacc := Lib.hid hacc'
        have hcmp : ¬ i < mid := by omega
        clear hacc hacc' ht hmd
        go_wp2_with (at_builtin; refine wpList_append_lies _ rfl _ _ 72 rfl w.heap.size 75 i0 (.agg #[.int .i64 0, .int .i64 0]) 2 16 Tryf.underlying72 hi0 hz0 hz1 hz2 rfl (by decide) _ _ _ rfl (hown.alloc _) ⟨wr.heap.size, 0, none⟩ 1 1 [.int .i64 (f : Int), .int .i64 (t : Int)] rfl rfl ?c1 ?c2 (by omega) ?c3 ?c4 ?c5 _ rfl ?_)
        case c1 => exact World.news_of_block (cs := #[.int .i64 (f : Int), .int .i64 (t : Int)]) (t := 75) (fr := (0, 0)) (by show (wr.heap.push _)[wr.heap.size]? = _; simp)
        case c2 => intro u hu; simp only [List.mem_cons, List.not_mem_nil, or_false] at hu; rcases hu with rfl | rfl <;> rfl
        case c3 => unfold maxLen; omega
        case c4 => omega
        case c5 => show _ ≤ (wr.heap.push _).size; rw [Array.size_push]; have := hb.size; omega
        intro g cap w3 hown3 hgrow _ _
        have hb3 := own_below hb hb.size hown (Nat.le_refl _) hgrow
        clear hown hgrow hb
        go_wp2_with fail
        refine (halfOf_any m w3 h2 (by omega)).mono ?_
        rintro e w4 ⟨rfl, rfl⟩
        go_wp2_with fail
        go_roundg (m - halfN m)
        case measure => omega
        case rel =>
          refine ⟨mid, m - halfN m, t, acc ++ [(f, t)], some ⟨g, 0, none⟩, cap, ?_, rfl, rfl, by omega, by omega, Nat.le_refl _, by omega, by omega, Hacc.out, ?_, hb3⟩
          · rw [List.length_append]; rfl
          · rw [List.length_append, spanCells_app]; exact hown3
    · obtain rfl : m = 1 := by omega
      rw [spanL_one (Nat.le_refl _), List.append_nil] at hacc
      subst hacc
      clear ht
      go_wp2_with fail
      go_ret
      exact ⟨a, c, rfl, hown, hb⟩
end Go.Proofs.YtolgikojliedlaeFmt
