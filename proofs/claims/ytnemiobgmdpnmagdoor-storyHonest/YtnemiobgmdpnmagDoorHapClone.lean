/-
  slices.Clone at happenings: memory of its own.
-/
import Derived.Test.YtnemiobgmdpnmagDoorHapCells
import Derived.Test.YtnemiobgmdpnmagDoorBooks
import Derived.Test.YtnemiobgmdpnmagDoorOwn
import Derived.Deep.AppendLies
import Derived.Lib.Slices
import Derived.Lib.SlicesMore
namespace Go.Proofs.YtnemiobgmdpnmagDoor
open Go Go.RowKit

theorem infoHap : (Tryd.prog.info? 35).map (fun i => (i.zero, i.size, i.bytes)) = some (some (.agg #[.int .i64 0, .int .i64 0, .int .i64 0, .int .i64 0, .int .i64 0, .string ⟨#[]⟩]), 6, 56) := by kernel_rfl
theorem hapCells_len (l : List HapB) : (hapCells l).length = l.length * 6 := by
  induction l with
  | nil => rfl
  | cons s l ih =>
    show (_ ++ hapCells l).length = _
    rw [List.length_append, ih]
    simp only [List.length_cons, List.length_nil]
    omega
theorem hapCells_one (l : List HapB) : ∀ v ∈ hapCells l, v.oneCell' = true := by
  intro v hv
  unfold hapCells at hv
  obtain ⟨s, _, hs⟩ := List.mem_flatMap.1 hv
  simp only [List.mem_cons, List.not_mem_nil, or_false] at hs
  rcases hs with rfl | rfl | rfl | rfl | rfl | rfl <;> rfl
theorem HapsAt.src {w : World} {a : Option Addr} {c : Nat} {l : List HapB} (h : HapsAt w a c l) (hp : 0 < l.length) : ∃ ad, a = some ad ∧ ∀ j v, (hapCells l)[j]? = some v → w.cell? (ad.add j) = some v := by
  obtain ⟨b, off, rfl, _, hc⟩ := h.cells hp
  refine ⟨_, rfl, fun j v hv => ?_⟩
  have hj : j < l.length * 6 := by rw [← hapCells_len]; exact (List.getElem?_eq_some_iff.1 hv).1
  have hd : j = j / 6 * 6 + j % 6 := by omega
  have hq : j / 6 < l.length := by omega
  have hr : j % 6 < 6 := Nat.mod_lt _ (by decide)
  obtain ⟨e0, e1, e2, e3, e4, e5⟩ := hapCells_at l (j / 6) hq
  obtain ⟨c0, c1, c2, c3, c4, c5⟩ := hc (j / 6) hq
  generalize j / 6 = q at hd hq e0 e1 e2 e3 e4 e5 c0 c1 c2 c3 c4 c5
  have ha : ∀ k, (⟨b, off, none⟩ : Addr).add k = ⟨b, off + k, none⟩ := fun k => by
    unfold Addr.add
    split
    · rename_i h; subst h; rfl
    · rfl
  rw [ha, hd]
  rw [hd] at hv
  generalize j % 6 = r at hr hv
  match r, hr with
  | 0, _ => rw [Nat.add_zero] at hv ⊢; rw [e0] at hv; injection hv with hv; subst hv; exact c0
  | 1, _ => rw [e1] at hv; injection hv with hv; subst hv; exact c1
  | 2, _ => rw [e2] at hv; injection hv with hv; subst hv; exact c2
  | 3, _ => rw [e3] at hv; injection hv with hv; subst hv; exact c3
  | 4, _ => rw [e4] at hv; injection hv with hv; subst hv; exact c4
  | 5, _ => rw [e5] at hv; injection hv with hv; subst hv; exact c5
set_option maxRecDepth 100000 in
theorem clone_haps (l : List HapB) (a : Option Addr) (n c : Nat) (w : World) (hn : l.length = n) (h0 : 0 < n) (hbig : n * 56 ≤ 140737488355328) (hS : HapsAt w a c l) :
    Calls Tryd.prog 12 #[.slice a n c] w fun e w' => ∃ g cap, e = .returned (.slice (some ⟨g, 0, none⟩) n cap) ∧ w'.ownsRow w.heap.size 35 6 (.slice (some ⟨g, 0, none⟩) n cap) n (hapCells l) ∧ Below w.heap.size w w' := by
  obtain ⟨b, off, rfl, hlt, hc⟩ := hS.cells (by omega)
  obtain ⟨ad, had, hsrc⟩ := hS.src (by omega)
  injection had with had
  subst had
  obtain ⟨i0, hi0, hz0, hz1, hz2⟩ := info_parts infoHap
  have q24 : ∀ (w : World) (a : Option Addr) (n c n' c' : Nat), (binOp .eql 22 (.slice a n c) (.slice none n' c')).run Tryd.prog w = .ok (.bool a.isNone) w := fun w a n c n' c' => Lib.run_eql_slice_nil w _ _ a n c n' c' Tryd.underlying22
  have u24 : ∀ w, Sem.run Tryd.prog (underlying 22) w = .ok (TypeDesc.slice 35) w := run_underlying Tryd.underlying22
  have A := Lib.hid hsrc
  clear hc hsrc
  go_enter Tryd.func12, Tryd.ntmps12
  go_wp2_with (at_builtin; refine wpList_append_lies _ rfl _ _ 22 rfl w.heap.size 35 i0 (.agg #[.int .i64 0, .int .i64 0, .int .i64 0, .int .i64 0, .int .i64 0, .string ⟨#[]⟩]) 6 56 Tryd.underlying22 hi0 hz0 hz1 hz2 rfl (by decide) _ _ _ rfl (World.ownsRow_made w #[] 0 (Nat.le_refl _) (Nat.zero_le _) rfl) ⟨b, off, none⟩ n c (hapCells l) rfl ?c0 ?c1 ?c2 h0 ?c3 ?c4 ?c5 _ rfl ?_)
  case c0 => rw [hapCells_len, hn]
  case c1 =>
    intro j u hj
    have hj := A.out j u hj
    rw [Addr.add_lit] at hj ⊢
    exact Lib.cell?_alloc_some _ hj
  case c2 => exact hapCells_one l
  case c3 => unfold maxLen; omega
  case c4 => omega
  case c5 => simp
  intro g cap w1 hown hgrow _ _
  have hb : Below w.heap.size w w1 := ((Below.refl _ w).alloc (Nat.le_refl _) _).grown hgrow (by simp) (by intro k hk; simp [Value.ownBlock] at hk; omega)
  go_wp2_with fail
  go_ret
  refine ⟨g, cap, ?_, ?_, hb⟩
  · simp
  · simpa using hown
theorem clone_haps_zero (a : Option Addr) (c : Nat) (w : World) :
    Calls Tryd.prog 12 #[.slice a 0 c] w fun e w' => ∃ a', e = .returned (.slice a' 0 0) ∧ Below w.heap.size w w' := by
  obtain ⟨i0, hi0, hz0, hz1, hz2⟩ := info_parts infoHap
  have q24 : ∀ (w : World) (a : Option Addr) (n c n' c' : Nat), (binOp .eql 22 (.slice a n c) (.slice none n' c')).run Tryd.prog w = .ok (.bool a.isNone) w := fun w a n c n' c' => Lib.run_eql_slice_nil w _ _ a n c n' c' Tryd.underlying22
  cases a with
  | none =>
    go_enter Tryd.func12, Tryd.ntmps12
    go_wp2_with fail
    go_ret
    exact ⟨none, rfl, Below.refl _ _⟩
  | some a =>
    have hr := fun (ty : TypeId) => run_append_none (P := Tryd.prog) (w.alloc (.cells #[] 35)) 22 ty 35 Tryd.underlying22 i0 hi0 w.heap.size a c
    have hb : Below w.heap.size w (w.alloc (.cells #[] 35)) := (Below.refl _ _).alloc (Nat.le_refl _) _
    go_enter Tryd.func12, Tryd.ntmps12
    go_wp2_with fail
    go_ret
    exact ⟨_, rfl, hb⟩
/- The cells of a block of happenings, of which the first ones are these. -/
def HapIs (cur : Array Value) (l : List HapB) : Prop := ∀ i, i < l.length → cur[i * 6]? = some (.int .i64 (hapOf l i).kind) ∧ cur[i * 6 + 1]? = some (.int .i64 (hapOf l i).side) ∧ cur[i * 6 + 2]? = some (.int .i64 (hapOf l i).who) ∧ cur[i * 6 + 3]? = some (.int .i64 (hapOf l i).other) ∧ cur[i * 6 + 4]? = some (.int .i64 (hapOf l i).e.1) ∧ cur[i * 6 + 5]? = some (.string (hapOf l i).e.2)
theorem HapIs.haps {w : World} {g cap : Nat} {cur : Array Value} {t : TypeId} {l : List HapB} (hc : HapIs cur l) (h : w.heap[g]? = some (.cells cur t)) (hl : l.length ≤ cap) (hm : cap ≤ maxLen) (hs : ∀ x ∈ l, WideHap x) : HapsAt w (some ⟨g, 0, none⟩) cap l :=
  ⟨hl, by unfold maxLen at hm; omega, hs, fun _ => ⟨g, 0, rfl, (Array.getElem?_eq_some_iff.1 h).1, fun i hi => by
    obtain ⟨e0, e1, e2, e3, e4, e5⟩ := hc i hi
    unfold sixAt
    rw [Nat.zero_add]
    exact ⟨heap_cell h _ _ e0, heap_cell h _ _ e1, heap_cell h _ _ e2, heap_cell h _ _ e3, heap_cell h _ _ e4, heap_cell h _ _ e5⟩⟩⟩
theorem own_haps {w : World} {base : Nat} {e : TypeId} {g n cap : Nat} {l : List HapB} (h : w.ownsRow base e 6 (.slice (some ⟨g, 0, none⟩) n cap) n (hapCells l)) : ∃ cur, w.heap[g]? = some (.cells cur e) ∧ base ≤ g ∧ n ≤ cap ∧ cap ≤ maxLen ∧ HapIs cur l := by
  have hln : l.length = n := by have := h.1; rw [hapCells_len] at this; omega
  rcases h.2 with ⟨h0, _⟩ | ⟨g', cap', cur, hv, hb, hg, hnc, hm, hsz, hcur⟩
  · cases h0
  · injection hv with e1 _ e3
    injection e1 with e1
    injection e1 with e1 _
    subst e1 e3
    refine ⟨cur, hg, hb, hnc, hm, fun i hi => ?_⟩
    obtain ⟨x0, x1, x2, x3, x4, x5⟩ := hapCells_at l i hi
    rw [← hcur] at x0 x1 x2 x3 x4 x5
    rw [List.getElem?_take, if_pos (by omega), Array.getElem?_toList] at x0 x1 x2 x3 x4 x5
    exact ⟨x0, x1, x2, x3, x4, x5⟩
end Go.Proofs.YtnemiobgmdpnmagDoor
