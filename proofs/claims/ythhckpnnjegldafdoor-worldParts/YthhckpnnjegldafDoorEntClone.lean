/-
  slices.Clone at slices of entries, whatever their addresses.
-/
import Derived.Test.YthhckpnnjegldafDoorEntSlices
import Derived.Deep.AppendLies
import Derived.Deep.LoopGhost
import Derived.Lib.Slices
import Derived.Lib.SlicesMore
namespace Go.Proofs.YthhckpnnjegldafDoor
open Go Go.RowKit

/- A copy: memory of its own, that may be written. -/
set_option maxRecDepth 100000 in
theorem clone_ents (l : List EntB) (a : Option Addr) (n c : Nat) (w : World) (hn : l.length = n) (h0 : 0 < n) (hbig : n ≤ 1000) (hS : EntsAt w a c l) :
    Calls Tryd.prog 49 #[.slice a n c] w fun e w' => ∃ g cap, e = .returned (.slice (some ⟨g, 0, none⟩) n cap) ∧ w'.ownsRow w.heap.size 34 2 (.slice (some ⟨g, 0, none⟩) n cap) n (entCells l) ∧ Below w.heap.size w w' := by
  obtain ⟨b, off, rfl, hlt, hc⟩ := hS.cells (by omega)
  obtain ⟨i0, hi0, hz0, hz1, hz2⟩ := info_parts infoEntry
  have q24 : ∀ (w : World) (a : Option Addr) (n c n' c' : Nat), (binOp .eql 22 (.slice a n c) (.slice none n' c')).run Tryd.prog w = .ok (.bool a.isNone) w := fun w a n c n' c' => Lib.run_eql_slice_nil w _ _ a n c n' c' Tryd.underlying22
  have u24 : ∀ w, Sem.run Tryd.prog (underlying 22) w = .ok (TypeDesc.slice 34) w := run_underlying Tryd.underlying22
  have A : Hid (∀ i, i < l.length → w.cell? ⟨b, off + i * 2, none⟩ = some (.int .i64 (entAt l i).1) ∧ w.cell? ⟨b, off + i * 2 + 1, none⟩ = some (.string (entAt l i).2)) := hc
  clear hc
  go_enter Tryd.func49, Tryd.ntmps49
  go_wp2_with (at_builtin; refine wpList_append_lies _ rfl _ _ 22 rfl w.heap.size 34 i0 (.agg #[.int .i64 0, .string ⟨#[]⟩]) 2 24 Tryd.underlying22 hi0 hz0 hz1 hz2 rfl (by decide) _ _ _ rfl (World.ownsRow_made w #[] 0 (Nat.le_refl _) (Nat.zero_le _) rfl) ⟨b, off, none⟩ n c (entCells l) rfl ?c0 ?c1 ?c2 h0 ?c3 ?c4 ?c5 _ rfl ?_)
  case c0 => rw [entCells_len, hn]
  case c1 =>
    intro j u hj
    have hjn : j < n * 2 := by
      have := (List.getElem?_eq_some_iff.1 hj).1
      rw [entCells_len] at this
      omega
    rw [Addr.add_lit]
    refine Lib.cell?_alloc_some _ ?_
    obtain ⟨k, hk⟩ : ∃ k, j = k * 2 ∨ j = k * 2 + 1 := ⟨j / 2, by omega⟩
    have hkl : k < l.length := by omega
    obtain ⟨e1, e2⟩ := entCells_at l k hkl
    obtain ⟨e3, e4⟩ := A.out k hkl
    rcases hk with rfl | rfl
    · rw [e1] at hj; rw [e3, hj]
    · rw [e2] at hj; rw [← Nat.add_assoc, e4, hj]
  case c2 =>
    intro u hu
    unfold entCells at hu
    obtain ⟨x, _, hx⟩ := List.mem_flatMap.1 hu
    simp only [List.mem_cons, List.not_mem_nil, or_false] at hx
    rcases hx with rfl | rfl <;> rfl
  case c3 => unfold maxLen; omega
  case c4 => omega
  case c5 => simp
  intro g cap w1 hown hgrow _ _
  have hb : Below w.heap.size w w1 := ((Below.refl _ w).alloc (Nat.le_refl _) _).grown hgrow (by simp) (by intro k hk; simp [Value.ownBlock] at hk; omega)
  go_wp2_with fail
  go_ret
  refine ⟨g, cap, ?_, ?_, hb⟩
  · simp
  · simpa using hown

theorem run_append_none {P : Program} (w : World) (t ty e : TypeId) (ht : P.underlying t = some (.slice e)) (i : TypeInfo) (hi : P.info? e = some i) (g : Nat) (a : Addr) (c : Nat) :
    (Builtin.append_ #[t, t] ty #[.slice (some ⟨g, 0, none⟩) 0 0, .slice (some a) 0 c]).run P w = .ok (.slice (some ⟨g, 0, none⟩) 0 0) w := by
  have hl : ∀ (x : Addr), (loadCells x 0).run P w = .ok #[] w := fun x => by simpa using run_loadCells_list (P := P) w x [] (by simp)
  simp [Builtin.append_, run_underlying ht, Builtin.lenOf, Builtin.firstCells, sizeOf, typeInfo, hi, hl, storeCells]

set_option maxRecDepth 100000 in
theorem clone_ents_zero (a : Option Addr) (c : Nat) (w : World) :
    Calls Tryd.prog 49 #[.slice a 0 c] w fun e w' => ∃ a', e = .returned (.slice a' 0 0) ∧ w'.ownsRow w.heap.size 34 2 (.slice a' 0 0) 0 [] ∧ Below w.heap.size w w' := by
  obtain ⟨i0, hi0, hz0, hz1, hz2⟩ := info_parts infoEntry
  have q24 : ∀ (w : World) (a : Option Addr) (n c n' c' : Nat), (binOp .eql 22 (.slice a n c) (.slice none n' c')).run Tryd.prog w = .ok (.bool a.isNone) w := fun w a n c n' c' => Lib.run_eql_slice_nil w _ _ a n c n' c' Tryd.underlying22
  cases a with
  | none =>
    go_enter Tryd.func49, Tryd.ntmps49
    go_wp2_with fail
    go_ret
    exact ⟨none, rfl, World.ownsRow_nil _ _ _ _, Below.refl _ _⟩
  | some a =>
    have hr := fun (ty : TypeId) => run_append_none (P := Tryd.prog) (w.alloc (.cells #[] 34)) 22 ty 34 Tryd.underlying22 i0 hi0 w.heap.size a c
    have hb : Below w.heap.size w (w.alloc (.cells #[] 34)) := (Below.refl _ _).alloc (Nat.le_refl _) _
    have hown : (w.alloc (.cells #[] 34)).ownsRow w.heap.size 34 2 (.slice (some ⟨w.heap.size, 0, none⟩) 0 0) 0 [] := World.ownsRow_made w #[] 0 (Nat.le_refl _) (Nat.zero_le _) rfl
    go_enter Tryd.func49, Tryd.ntmps49
    go_wp2_with fail
    go_ret
    exact ⟨_, rfl, hown, hb⟩
theorem clone_ents_own (l : List EntB) (a : Option Addr) (n c : Nat) (w : World) (hn : l.length = n) (hbig : n ≤ 1000) (hS : EntsAt w a c l) :
    Calls Tryd.prog 49 #[.slice a n c] w fun e w' => ∃ a' c', e = .returned (.slice a' n c') ∧ w'.ownsRow w.heap.size 34 2 (.slice a' n c') n (entCells l) ∧ Below w.heap.size w w' := by
  rcases Nat.eq_zero_or_pos n with h0 | h0
  · subst h0
    obtain rfl := List.length_eq_zero_iff.1 hn
    refine (clone_ents_zero a c w).mono ?_
    rintro e w' ⟨a', rfl, ho, hb⟩
    exact ⟨a', 0, rfl, ho, hb⟩
  · refine (clone_ents l a n c w hn h0 hbig hS).mono ?_
    rintro e w' ⟨g, cap, rfl, ho, hb⟩
    exact ⟨_, cap, rfl, ho, hb⟩
end Go.Proofs.YthhckpnnjegldafDoor
