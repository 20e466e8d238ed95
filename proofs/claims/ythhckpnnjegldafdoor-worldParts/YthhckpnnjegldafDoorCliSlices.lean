/-
  slices.Equal and slices.Clone at slices of clients, whatever their addresses.
-/
import Derived.Test.YthhckpnnjegldafDoorClis
import Derived.Test.YthhckpnnjegldafDoorBlocks
import Derived.Deep.AppendLies
import Derived.Deep.LoopGhost
import Derived.Lib.Slices
import Derived.Lib.SlicesMore
namespace Go.Proofs.YthhckpnnjegldafDoor
open Go Go.RowKit

theorem infoClient : (Tryd.prog.info? 50).map (fun i => (i.zero, i.size, i.bytes)) = some (some (.agg #[.int .i64 0, .string ⟨#[]⟩, .string ⟨#[]⟩, .bool false]), 4, 48) := by kernel_rfl

set_option maxHeartbeats 2000000 in
set_option maxRecDepth 100000 in
theorem equal_clis (l m : List CliB) (a1 a2 : Option Addr) (n1 c1 n2 c2 : Nat) (w : World) (h1 : l.length = n1) (h2 : m.length = n2) (hS1 : ClisAt w a1 c1 l) (hS2 : ClisAt w a2 c2 m) :
    Calls Tryd.prog 37 #[.slice a1 n1 c1, .slice a2 n2 c2] w fun e w' => e = .returned (.bool (decide (l = m))) ∧ Below w.heap.size w w' := by
  have m1 := hS1.max
  have m2 := hS2.max
  have k1 := hS1.cap
  have k2 := hS2.cap
  by_cases hn : n1 = n2
  · subst hn
    go_enter Tryd.func37, Tryd.ntmps37
    go_wp2_with fail
    go_loopg [13] n1 (fun g s13 wr => ∃ k : Nat, k ≤ n1 ∧ n1 - k ≤ g ∧ s13 = .int .i64 k ∧ Below w.heap.size w wr ∧ ∀ j, j < k → cliOf l j = cliOf m j)
    case atStart => exact ⟨0, Nat.zero_le _, by omega, rfl, Below.refl _ _, fun j hj => absurd hj (Nat.not_lt_zero _)⟩
    case round =>
      obtain ⟨k, hk, hg, rfl, hb, heq⟩ := hrel
      replace hS1 := hS1.on hb
      replace hS2 := hS2.on hb
      by_cases hlt : k < n1
      · obtain ⟨b1, o1, rfl, _, q1⟩ := hS1.cells (by omega)
        obtain ⟨b2, o2, rfl, _, q2⟩ := hS2.cells (by omega)
        obtain ⟨g1, g2, g3, g4⟩ := q1 k (by omega)
        obtain ⟨f1, f2, f3, f4⟩ := q2 k (by omega)
        have A : Hid (∀ j, j < k → cliOf l j = cliOf m j) := heq
        clear heq q1 q2 hS1 hS2
        generalize hxk : cliOf l k = x at g1 g2 g3 g4
        generalize hyk : cliOf m k = y at f1 f2 f3 f4
        have B : Hid (cliOf l k = x ∧ cliOf m k = y) := ⟨hxk, hyk⟩
        clear hxk hyk
        obtain ⟨x1, x2, x3, x4⟩ := x
        obtain ⟨y1, y2, y3, y4⟩ := y
        simp only at g1 g2 g3 g4 f1 f2 f3 f4
        have hkc : (k : Int) < (n1 : Int) := by omega
        by_cases d1 : x1 = y1
        · subst d1
          by_cases d2 : x2 = y2
          · subst d2
            by_cases d3 : x3 = y3
            · subst d3
              by_cases d4 : x4 = y4
              · subst d4
                go_wp2_with fail
                go_quiet (fail)
                go_wp2_with fail
                go_roundg (n1 - (k + 1))
                case measure => omega
                case rel =>
                  refine ⟨k + 1, by omega, Nat.le_refl _, by go_num, below_drewN hb nq, fun j hj => ?_⟩
                  by_cases e : j = k
                  · subst e
                    rw [B.out.1, B.out.2]
                  · exact A.out j (by omega)
              · have t4 : (x4 == y4) = false := by simpa using d4
                go_wp2_with fail
                go_quiet (fail)
                go_wp2_with fail
                go_ret
                refine ⟨?_, below_drewN hb nq⟩
                have : l ≠ m := fun h => by
                  have e := B.out
                  rw [h] at e
                  have e' := e.1.symm.trans e.2
                  injection e' with e1 e'
                  injection e' with e2 e'
                  injection e' with e3 e4
                  exact d4 e4
                simp [this]
            · have t3 := str_ne d3
              by_cases d4 : x4 = y4
              · subst d4
                go_wp2_with fail
                go_quiet (fail)
                go_wp2_with fail
                go_ret
                refine ⟨?_, below_drewN hb nq⟩
                have : l ≠ m := fun h => by
                  have e := B.out
                  rw [h] at e
                  have e' := e.1.symm.trans e.2
                  injection e' with e1 e'
                  injection e' with e2 e'
                  injection e' with e3 e4
                  exact d3 e3
                simp [this]
              · have t4 : (x4 == y4) = false := by simpa using d4
                go_wp2_with fail
                go_quiet (fail)
                go_wp2_with fail
                go_ret
                refine ⟨?_, below_drewN hb nq⟩
                have : l ≠ m := fun h => by
                  have e := B.out
                  rw [h] at e
                  have e' := e.1.symm.trans e.2
                  injection e' with e1 e'
                  injection e' with e2 e'
                  injection e' with e3 e4
                  exact d3 e3
                simp [this]
          · have t2 := str_ne d2
            by_cases d3 : x3 = y3
            · have t3 := str_eq d3
              by_cases d4 : x4 = y4
              · subst d4
                go_wp2_with fail
                go_quiet (fail)
                go_wp2_with fail
                go_ret
                refine ⟨?_, below_drewN hb nq⟩
                have : l ≠ m := fun h => by
                  have e := B.out
                  rw [h] at e
                  have e' := e.1.symm.trans e.2
                  injection e' with e1 e'
                  injection e' with e2 e'
                  injection e' with e3 e4
                  exact d2 e2
                simp [this]
              · have t4 : (x4 == y4) = false := by simpa using d4
                go_wp2_with fail
                go_quiet (fail)
                go_wp2_with fail
                go_ret
                refine ⟨?_, below_drewN hb nq⟩
                have : l ≠ m := fun h => by
                  have e := B.out
                  rw [h] at e
                  have e' := e.1.symm.trans e.2
                  injection e' with e1 e'
                  injection e' with e2 e'
                  injection e' with e3 e4
                  exact d2 e2
                simp [this]
            · have t3 := str_ne d3
              by_cases d4 : x4 = y4
              · subst d4
                go_wp2_with fail
                go_quiet (fail)
                go_wp2_with fail
                go_ret
                refine ⟨?_, below_drewN hb nq⟩
                have : l ≠ m := fun h => by
                  have e := B.out
                  rw [h] at e
                  have e' := e.1.symm.trans e.2
                  injection e' with e1 e'
                  injection e' with e2 e'
                  injection e' with e3 e4
                  exact d2 e2
                simp [this]
              · have t4 : (x4 == y4) = false := by simpa using d4
                go_wp2_with fail
                go_quiet (fail)
                go_wp2_with fail
                go_ret
                refine ⟨?_, below_drewN hb nq⟩
                have : l ≠ m := fun h => by
                  have e := B.out
                  rw [h] at e
                  have e' := e.1.symm.trans e.2
                  injection e' with e1 e'
                  injection e' with e2 e'
                  injection e' with e3 e4
                  exact d2 e2
                simp [this]
        · have t1 : (x1 == y1) = false := by simpa using d1
          by_cases d2 : x2 = y2
          · have t2 := str_eq d2
            by_cases d3 : x3 = y3
            · have t3 := str_eq d3
              by_cases d4 : x4 = y4
              · subst d4
                go_wp2_with fail
                go_quiet (fail)
                go_wp2_with fail
                go_ret
                refine ⟨?_, below_drewN hb nq⟩
                have : l ≠ m := fun h => by
                  have e := B.out
                  rw [h] at e
                  have e' := e.1.symm.trans e.2
                  injection e' with e1 e'
                  injection e' with e2 e'
                  injection e' with e3 e4
                  exact d1 e1
                simp [this]
              · have t4 : (x4 == y4) = false := by simpa using d4
                go_wp2_with fail
                go_quiet (fail)
                go_wp2_with fail
                go_ret
                refine ⟨?_, below_drewN hb nq⟩
                have : l ≠ m := fun h => by
                  have e := B.out
                  rw [h] at e
                  have e' := e.1.symm.trans e.2
                  injection e' with e1 e'
                  injection e' with e2 e'
                  injection e' with e3 e4
                  exact d1 e1
                simp [this]
            · have t3 := str_ne d3
              by_cases d4 : x4 = y4
              · subst d4
                go_wp2_with fail
                go_quiet (fail)
                go_wp2_with fail
                go_ret
                refine ⟨?_, below_drewN hb nq⟩
                have : l ≠ m := fun h => by
                  have e := B.out
                  rw [h] at e
                  have e' := e.1.symm.trans e.2
                  injection e' with e1 e'
                  injection e' with e2 e'
                  injection e' with e3 e4
                  exact d1 e1
                simp [this]
              · have t4 : (x4 == y4) = false := by simpa using d4
                go_wp2_with fail
                go_quiet (fail)
                go_wp2_with fail
                go_ret
                refine ⟨?_, below_drewN hb nq⟩
                have : l ≠ m := fun h => by
                  have e := B.out
                  rw [h] at e
                  have e' := e.1.symm.trans e.2
                  injection e' with e1 e'
                  injection e' with e2 e'
                  injection e' with e3 e4
                  exact d1 e1
                simp [this]
          · have t2 := str_ne d2
            by_cases d3 : x3 = y3
            · have t3 := str_eq d3
              by_cases d4 : x4 = y4
              · subst d4
                go_wp2_with fail
                go_quiet (fail)
                go_wp2_with fail
                go_ret
                refine ⟨?_, below_drewN hb nq⟩
                have : l ≠ m := fun h => by
                  have e := B.out
                  rw [h] at e
                  have e' := e.1.symm.trans e.2
                  injection e' with e1 e'
                  injection e' with e2 e'
                  injection e' with e3 e4
                  exact d1 e1
                simp [this]
              · have t4 : (x4 == y4) = false := by simpa using d4
                go_wp2_with fail
                go_quiet (fail)
                go_wp2_with fail
                go_ret
                refine ⟨?_, below_drewN hb nq⟩
                have : l ≠ m := fun h => by
                  have e := B.out
                  rw [h] at e
                  have e' := e.1.symm.trans e.2
                  injection e' with e1 e'
                  injection e' with e2 e'
                  injection e' with e3 e4
                  exact d1 e1
                simp [this]
            · have t3 := str_ne d3
              by_cases d4 : x4 = y4
              · subst d4
                go_wp2_with fail
                go_quiet (fail)
                go_wp2_with fail
                go_ret
                refine ⟨?_, below_drewN hb nq⟩
                have : l ≠ m := fun h => by
                  have e := B.out
                  rw [h] at e
                  have e' := e.1.symm.trans e.2
                  injection e' with e1 e'
                  injection e' with e2 e'
                  injection e' with e3 e4
                  exact d1 e1
                simp [this]
              · have t4 : (x4 == y4) = false := by simpa using d4
                go_wp2_with fail
                go_quiet (fail)
                go_wp2_with fail
                go_ret
                refine ⟨?_, below_drewN hb nq⟩
                have : l ≠ m := fun h => by
                  have e := B.out
                  rw [h] at e
                  have e' := e.1.symm.trans e.2
                  injection e' with e1 e'
                  injection e' with e2 e'
                  injection e' with e3 e4
                  exact d1 e1
                simp [this]
      · obtain rfl : k = n1 := by omega
        have hlm := cliOf_ext (l := l) (m := m) (by omega) (fun j hj => heq j (by omega))
        clear heq
        go_wp2_with fail
        go_ret
        exact ⟨by rw [decide_eq_true hlm]; rfl, hb⟩
  · go_enter Tryd.func37, Tryd.ntmps37
    go_wp2_with fail
    go_ret
    refine ⟨?_, Below.refl _ _⟩
    have : l ≠ m := fun h => hn (by rw [← h1, ← h2, h])
    simp [this]

/- A copy: memory of its own, that may be written. -/
set_option maxRecDepth 100000 in
theorem clone_clis (l : List CliB) (a : Option Addr) (n c : Nat) (w : World) (hn : l.length = n) (h0 : 0 < n) (hbig : n ≤ 1000) (hS : ClisAt w a c l) :
    Calls Tryd.prog 50 #[.slice a n c] w fun e w' => ∃ g cap, e = .returned (.slice (some ⟨g, 0, none⟩) n cap) ∧ w'.ownsRow w.heap.size 50 4 (.slice (some ⟨g, 0, none⟩) n cap) n (cliCells l) ∧ Below w.heap.size w w' := by
  obtain ⟨b, off, rfl, hlt, hc⟩ := hS.cells (by omega)
  obtain ⟨ad, had, hsrc⟩ := hS.src (by omega)
  injection had with had
  subst had
  obtain ⟨i0, hi0, hz0, hz1, hz2⟩ := info_parts infoClient
  have q24 : ∀ (w : World) (a : Option Addr) (n c n' c' : Nat), (binOp .eql 41 (.slice a n c) (.slice none n' c')).run Tryd.prog w = .ok (.bool a.isNone) w := fun w a n c n' c' => Lib.run_eql_slice_nil w _ _ a n c n' c' Tryd.underlying41
  have u24 : ∀ w, Sem.run Tryd.prog (underlying 41) w = .ok (TypeDesc.slice 50) w := run_underlying Tryd.underlying41
  have A := Lib.hid hsrc
  clear hc hsrc
  go_enter Tryd.func50, Tryd.ntmps50
  go_wp2_with (at_builtin; refine wpList_append_lies _ rfl _ _ 41 rfl w.heap.size 50 i0 (.agg #[.int .i64 0, .string ⟨#[]⟩, .string ⟨#[]⟩, .bool false]) 4 48 Tryd.underlying41 hi0 hz0 hz1 hz2 rfl (by decide) _ _ _ rfl (World.ownsRow_made w #[] 0 (Nat.le_refl _) (Nat.zero_le _) rfl) ⟨b, off, none⟩ n c (cliCells l) rfl ?c0 ?c1 ?c2 h0 ?c3 ?c4 ?c5 _ rfl ?_)
  case c0 => rw [cliCells_len, hn]
  case c1 =>
    intro j u hj
    have hj := A.out j u hj
    rw [Addr.add_lit] at hj ⊢
    exact Lib.cell?_alloc_some _ hj
  case c2 => exact cliCells_one l
  case c3 => unfold maxLen; omega
  case c4 => omega
  case c5 => simp
  intro g cap w1 hown hgrow _ _
  have hb : Below w.heap.size w w1 := ((Below.refl _ w).alloc (Nat.le_refl _) _).grown hgrow (by simp) (by intro k hk; simp [Value.ownBlock] at hk; omega)
  go_wp2_with fail
  go_ret
  refine ⟨g, cap, ?_, ?_, hb⟩
  · simp
  · simpa using hown
end Go.Proofs.YthhckpnnjegldafDoor
