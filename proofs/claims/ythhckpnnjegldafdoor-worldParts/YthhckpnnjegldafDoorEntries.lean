/-
  The book of three entries that the closed facts speak of.
-/
import Derived.Test.YthhckpnnjegldafDoorBookVals
import Derived.Test.YthhckpnnjegldafDoorBlocks
namespace Go.Proofs.YthhckpnnjegldafDoor
open Go Go.RowKit Go.Maps

def exB : List EntB := [(5, ⟨#[120]⟩), (9, ⟨#[121]⟩), (5, ⟨#[122]⟩)]
theorem exB_good : GoodBook exB := by
  refine ⟨by decide, fun e he => ?_⟩
  simp only [exB, List.mem_cons, List.not_mem_nil, or_false] at he
  rcases he with rfl | rfl | rfl <;> exact ⟨by decide, by decide, by decide⟩
theorem ents_heap {w : World} {g : Nat} {t : TypeId} {l : List EntB} (h : w.heap[g]? = some (.cells (entCells l).toArray t)) (hs : ∀ e ∈ l, WideEnt e) (hl : l.length ≤ 1000) : EntsAt w (some ⟨g, 0, none⟩) l.length l := by
  refine ⟨Nat.le_refl _, by omega, hs, fun _ => ⟨g, 0, rfl, (Array.getElem?_eq_some_iff.1 h).1, fun i hi => ?_⟩⟩
  obtain ⟨e1, e2⟩ := entCells_at l i hi
  rw [show 0 + i * 2 + 1 = i * 2 + 1 by omega, show 0 + i * 2 = i * 2 by omega]
  exact ⟨heap_cell h _ _ (by simpa using e1), heap_cell h _ _ (by simpa using e2)⟩
theorem wide_good {l : List EntB} (h : ∀ e ∈ l, GoodEnt e) : ∀ e ∈ l, WideEnt e := fun e he => by
  obtain ⟨h1, h2, h3⟩ := h e he
  exact ⟨by omega, by omega, by omega⟩

set_option maxRecDepth 100000 in
theorem entries_any (w : World) :
    Calls Tryd.prog 24 #[] w fun e w' => ∃ g, e = .returned (.agg #[.slice (some ⟨g, 0, none⟩) 3 3]) ∧ EntsAt w' (some ⟨g, 0, none⟩) 3 exB ∧ Below w.heap.size w w' := by
  obtain ⟨q0, q1, hb0⟩ := boxes2 w (.cells #[.slice (some ⟨w.heap.size + 1, 0, none⟩) 3 3] 24) (.cells (entCells exB).toArray 34)
  go_enter Tryd.func24, Tryd.ntmps24
  go_wp2_with fail
  refine bodyPost_ret (results_cell_row rfl _ _ w.heap.size _ _ _ _ rfl q0 Tryd.underlying24 rfl (by kernel_rfl)) rfl ?_
  exact ⟨_, rfl, ents_heap (l := exB) q1 (wide_good exB_good.2) (by decide), hb0⟩

theorem run_list (v : Value) (w : World) : (Instr.field 24 (.agg #[v]) 0).run Tryd.prog w = .ok v w := by kernel_rfl
theorem run_take (a : Option Addr) (n c k : Nat) (hk : k ≤ c) (w : World) : (Instr.slice 22 (.slice a n c) none (some (.int .i64 (k : Int))) none).run Tryd.prog w = .ok (.slice a k c) w := by
  have hadd : ∀ ad : Addr, ad.add 0 = ad := fun ad => by unfold Addr.add; simp
  have hb : (Instr.sliceBounds true n c none (some (.int .i64 (k : Int))) none).run Tryd.prog w = .ok (0, k, c) w := by
    have h1 : (k : Int) ≤ (c : Int) := by omega
    simp [Instr.sliceBounds, run_sliceBound, h1]
  cases a <;> simp [Instr.slice, run_underlying Tryd.underlying22, hb, Tryd.sizeOf34, hadd]
end Go.Proofs.YthhckpnnjegldafDoor
