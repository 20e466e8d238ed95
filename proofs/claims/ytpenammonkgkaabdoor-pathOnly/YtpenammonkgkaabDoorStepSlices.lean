/-
  slices.Equal and slices.Clone at slices of steps, whatever their addresses.
-/
import Derived.Test.YtpenammonkgkaabDoorPath
import Derived.Deep.LoopGhost
import Derived.Lib.Slices
import Derived.Lib.SlicesMore
namespace Go.Proofs.YtpenammonkgkaabDoor
open Go Go.RowKit

theorem stepAt_ext {l m : List StepB} (hl : l.length = m.length) (h : ∀ j, j < l.length → stepAt l j = stepAt m j) : l = m := by
  refine List.ext_getElem hl fun i h1 h2 => ?_
  have := h i h1
  unfold stepAt at this
  rwa [List.getD_eq_getElem?_getD, List.getD_eq_getElem?_getD, List.getElem?_eq_getElem h1, List.getElem?_eq_getElem h2] at this

set_option maxRecDepth 100000 in
theorem equal_steps (l m : List StepB) (a1 a2 : Option Addr) (n1 c1 n2 c2 : Nat) (w : World) (h1 : l.length = n1) (h2 : m.length = n2) (hS1 : StepsAt w a1 c1 l) (hS2 : StepsAt w a2 c2 m) :
    Calls Tryd.prog 17 #[.slice a1 n1 c1, .slice a2 n2 c2] w fun e w' => e = .returned (.bool (decide (l = m))) ∧ Below w.heap.size w w' := by
  have m1 := hS1.max
  have m2 := hS2.max
  have k1 := hS1.cap
  have k2 := hS2.cap
  by_cases hn : n1 = n2
  · subst hn
    go_enter Tryd.func17, Tryd.ntmps17
    go_wp2_with fail
    go_loopg [13] n1 (fun g s13 wr => ∃ k : Nat, k ≤ n1 ∧ n1 - k ≤ g ∧ s13 = .int .i64 k ∧ Below w.heap.size w wr ∧ ∀ j, j < k → stepAt l j = stepAt m j)
    case atStart => exact ⟨0, Nat.zero_le _, by omega, rfl, Below.refl _ _, fun j hj => absurd hj (Nat.not_lt_zero _)⟩
    case round =>
      obtain ⟨k, hk, hg, rfl, hb, heq⟩ := hrel
      replace hS1 := hS1.on hb
      replace hS2 := hS2.on hb
      by_cases hlt : k < n1
      · obtain ⟨b1, o1, rfl, _, q1⟩ := hS1.cells (by omega)
        obtain ⟨b2, o2, rfl, _, q2⟩ := hS2.cells (by omega)
        obtain ⟨g1, g2⟩ := q1 k (by omega)
        obtain ⟨g3, g4⟩ := q2 k (by omega)
        have A : Hid (∀ j, j < k → stepAt l j = stepAt m j) := heq
        clear heq q1 q2 hS1 hS2
        generalize hxk : stepAt l k = x at g1 g2
        generalize hyk : stepAt m k = y at g3 g4
        have B : Hid (stepAt l k = x ∧ stepAt m k = y) := ⟨hxk, hyk⟩
        clear hxk hyk
        obtain ⟨xl, xs⟩ := x
        obtain ⟨yl, ys⟩ := y
        simp only at g1 g2 g3 g4
        have hkc : (k : Int) < (n1 : Int) := by omega
        by_cases hxl : xl = yl
        · subst hxl
          by_cases hxs : xs = ys
          · subst hxs
            go_wp2_with fail
            go_quiet (fail)
            go_wp2_with fail
            go_roundg (n1 - (k + 1))
            case measure => omega
            case rel =>
              refine ⟨k + 1, by omega, Nat.le_refl _, by go_num, below_drewN hb nq, fun j hj => ?_⟩
              by_cases e : j = k
              · subst e
                rw [B.out.1, B.out.2]
              · exact A.out j (by omega)
          · have hs' := str_ne hxs
            go_wp2_with fail
            go_quiet (fail)
            go_wp2_with fail
            go_ret
            refine ⟨?_, below_drewN hb nq⟩
            have : l ≠ m := fun h => by
              have e := B.out
              rw [h] at e
              have e' := e.1.symm.trans e.2
              injection e' with e1 e2
              first | exact hxl e1 | exact hxs e2
            simp [this]
        · have hl' : (xl == yl) = false := by simpa using hxl
          by_cases hxs : xs = ys
          · have hs' := str_eq hxs
            go_wp2_with fail
            go_quiet (fail)
            go_wp2_with fail
            go_ret
            refine ⟨?_, below_drewN hb nq⟩
            have : l ≠ m := fun h => by
              have e := B.out
              rw [h] at e
              have e' := e.1.symm.trans e.2
              injection e' with e1 e2
              first | exact hxl e1 | exact hxs e2
            simp [this]
          · have hs' := str_ne hxs
            go_wp2_with fail
            go_quiet (fail)
            go_wp2_with fail
            go_ret
            refine ⟨?_, below_drewN hb nq⟩
            have : l ≠ m := fun h => by
              have e := B.out
              rw [h] at e
              have e' := e.1.symm.trans e.2
              injection e' with e1 e2
              first | exact hxl e1 | exact hxs e2
            simp [this]
      · obtain rfl : k = n1 := by omega
        have hlm := stepAt_ext (l := l) (m := m) (by omega) (fun j hj => heq j (by omega))
        clear heq
        go_wp2_with fail
        go_ret
        exact ⟨by rw [decide_eq_true hlm]; rfl, hb⟩
  · go_enter Tryd.func17, Tryd.ntmps17
    go_wp2_with fail
    go_ret
    refine ⟨?_, Below.refl _ _⟩
    have : l ≠ m := fun h => hn (by rw [← h1, ← h2, h])
    simp [this]

/- A copy: memory of its own, that may be written. -/
set_option maxRecDepth 100000 in
theorem clone_steps (l : List StepB) (a : Option Addr) (n c : Nat) (w : World) (hn : l.length = n) (h0 : 0 < n) (hbig : n ≤ 1000) (hS : StepsAt w a c l) :
    Calls Tryd.prog 16 #[.slice a n c] w fun e w' => ∃ g cap, e = .returned (.slice (some ⟨g, 0, none⟩) n cap) ∧ w'.ownsRow w.heap.size 41 2 (.slice (some ⟨g, 0, none⟩) n cap) n (stepCells l) ∧ Below w.heap.size w w' := by
  obtain ⟨b, off, rfl, hlt, hc⟩ := hS.cells (by omega)
  obtain ⟨i0, hi0, hz0, hz1, hz2⟩ := info_parts infoStep
  have q24 : ∀ (w : World) (a : Option Addr) (n c n' c' : Nat), (binOp .eql 32 (.slice a n c) (.slice none n' c')).run Tryd.prog w = .ok (.bool a.isNone) w := fun w a n c n' c' => Lib.run_eql_slice_nil w _ _ a n c n' c' Tryd.underlying32
  have u24 : ∀ w, Sem.run Tryd.prog (underlying 32) w = .ok (TypeDesc.slice 41) w := run_underlying Tryd.underlying32
  have A : Hid (∀ i, i < l.length → w.cell? ⟨b, off + i * 2, none⟩ = some (.bool (stepAt l i).1) ∧ w.cell? ⟨b, off + i * 2 + 1, none⟩ = some (.string (stepAt l i).2)) := hc
  clear hc
  go_enter Tryd.func16, Tryd.ntmps16
  go_wp2_with (at_builtin; refine wpList_append_lies _ rfl _ _ 32 rfl w.heap.size 41 i0 (.agg #[.bool false, .string ⟨#[]⟩]) 2 24 Tryd.underlying32 hi0 hz0 hz1 hz2 rfl (by decide) _ _ _ rfl (World.ownsRow_made w #[] 0 (Nat.le_refl _) (Nat.zero_le _) rfl) ⟨b, off, none⟩ n c (stepCells l) rfl ?c0 ?c1 ?c2 h0 ?c3 ?c4 ?c5 _ rfl ?_)
  case c0 => rw [stepCells_len, hn]
  case c1 =>
    intro j u hj
    have hjn : j < n * 2 := by
      have := (List.getElem?_eq_some_iff.1 hj).1
      rw [stepCells_len] at this
      omega
    rw [Addr.add_lit]
    refine Lib.cell?_alloc_some _ ?_
    obtain ⟨k, hk⟩ : ∃ k, j = k * 2 ∨ j = k * 2 + 1 := ⟨j / 2, by omega⟩
    have hkl : k < l.length := by omega
    obtain ⟨e1, e2⟩ := stepCells_at l k hkl
    obtain ⟨e3, e4⟩ := A.out k hkl
    rcases hk with rfl | rfl
    · rw [e1] at hj; rw [e3, hj]
    · rw [e2] at hj; rw [← Nat.add_assoc, e4, hj]
  case c2 =>
    intro u hu
    unfold stepCells at hu
    obtain ⟨x, _, hx⟩ := List.mem_flatMap.1 hu
    simp only [List.mem_cons, List.not_mem_nil, or_false] at hx
    rcases hx with rfl | rfl <;> rfl
  case c3 => unfold maxLen; omega
  case c4 => omega
  case c5 => simp
  intro g cap w1 hown hgrow _ _
  have hb : Below w.heap.size w w1 := ((Below.refl _ w).alloc (Nat.le_refl _) _).grown hgrow (by simp) (by intro k hk; simp [Value.ownBlock] at hk; omega)
  go_wp2_with fail
  go_ret
  refine ⟨g, cap, ?_, ?_, hb⟩
  · simp
  · simpa using hown
end Go.Proofs.YtpenammonkgkaabDoor
