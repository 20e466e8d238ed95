/-
  Blocks of memory, by number; a struct among a function's results.
-/
import Derived.Test.YthhckpnnjegldafDoorSeal
import Derived.Laws.CopyOwn
import Derived.Deep.MidRow
import Derived.Laws.ResultCell
import Derived.Laws.Rows
import Derived.Deep.DeepCutAuto
namespace Go.Proofs.YthhckpnnjegldafDoor
open Go Go.RowKit

/- Blocks, by number. -/
theorem heap_push (w : World) (o : Obj) : (w.alloc o).heap[w.heap.size]? = some o := by show (w.heap.push _)[w.heap.size]? = _; simp
theorem heap_old (w : World) (o : Obj) {i : Nat} {x : Obj} (h : w.heap[i]? = some x) : (w.alloc o).heap[i]? = some x := by
  have hlt := (Array.getElem?_eq_some_iff.1 h).1
  show (w.heap.push _)[i]? = _
  rw [Array.getElem?_push, if_neg (by omega)]
  exact h
theorem heap_size (w : World) (o : Obj) : (w.alloc o).heap.size = w.heap.size + 1 := by show (w.heap.push _).size = _; rw [Array.size_push]
theorem heap_kept {w w' : World} {row : Option Nat} (hg : w.grownBy w' row) {i : Nat} {x : Obj} (h : w.heap[i]? = some x) (hr : row ≠ some i) : w'.heap[i]? = some x := by
  rw [hg.block i (Array.getElem?_eq_some_iff.1 h).1 (fun e => hr e.symm)]
  exact h
theorem heap_on {w w' : World} (hb : Below w.heap.size w w') {i : Nat} {x : Obj} (h : w.heap[i]? = some x) : w'.heap[i]? = some x := by
  rw [hb.block i (Array.getElem?_eq_some_iff.1 h).1]
  exact h
theorem heap_cell {w : World} {i : Nat} {cs : Array Value} {t : TypeId} (h : w.heap[i]? = some (.cells cs t)) (j : Nat) (v : Value) (hv : cs[j]? = some v) : w.cell? ⟨i, j, none⟩ = some v := by
  unfold World.cell?
  simp only [h]
  simpa using hv
theorem boxes3 (w : World) (a b c : Obj) : (((w.alloc a).alloc b).alloc c).heap[w.heap.size]? = some a ∧ (((w.alloc a).alloc b).alloc c).heap[w.heap.size + 1]? = some b ∧ (((w.alloc a).alloc b).alloc c).heap[w.heap.size + 1 + 1]? = some c ∧ (((w.alloc a).alloc b).alloc c).heap.size = w.heap.size + 1 + 1 + 1 := by
  have s1 := heap_size w a
  have s2 := heap_size (w.alloc a) b
  have s3 := heap_size ((w.alloc a).alloc b) c
  refine ⟨heap_old _ _ (heap_old _ _ (heap_push w a)), ?_, ?_, by rw [s3, s2, s1]⟩
  · have := heap_push (w.alloc a) b
    rw [s1] at this
    exact heap_old _ _ this
  · have := heap_push ((w.alloc a).alloc b) c
    rw [s2, s1] at this
    exact this
theorem below3 (w : World) (a b c : Obj) : Below w.heap.size w (((w.alloc a).alloc b).alloc c) := by
  have s1 := heap_size w a
  have s2 := heap_size (w.alloc a) b
  exact (((Below.refl _ w).alloc (Nat.le_refl _) _).alloc (by omega) _).alloc (by omega) _

theorem set_grown (w : World) (g j : Nat) (u : Value) : w.grownBy (w.setCell ⟨g, j, none⟩ u) (some g) :=
  ⟨rfl, rfl, rfl, by simp, fun k _ hk => heap_setCell_other w ⟨g, j, none⟩ k u (fun e => hk (by simp [e]))⟩

/- Two results, the first one a struct that lies in memory. -/
theorem results_row_tmp {P : Program} {fn : Func} {p u : Tmp} {ty : TypeId} (h : fn.results = #[.cell p ty, .tmp u]) (tmps : Array Value) (w : World) (g : Nat) (t : TypeId) (cs : Array Value) (fr : Nat × Nat) (d : TypeDesc)
    (hp : tmps.getD p undef = .pointer (some ⟨g, 0, none⟩)) (hg : w.heap[g]? = some (.cells cs t fr))
    (hu : P.underlying ty = some d) (hd : (match d with | .struct _ | .array _ _ => true | _ => false) = true) (hi : (P.info? ty).map (·.size) = some cs.size) :
    (results fn tmps).run P w = .ok (.tuple #[.agg cs, tmps.getD u undef]) w := by
  rw [results_cell_tmp h, hp]
  simp [asAddr, run_loadVar_row w g t ty cs fr d hg hu hd hi, Result.andThen]

theorem set_same {w : World} {g : Nat} {x : Value} {t : TypeId} (h : w.heap[g]? = some (.cells #[x] t)) (u : Value) : (w.setCell ⟨g, 0, none⟩ u).heap[g]? = some (.cells #[u] t) := heap_setCell_same w g 0 #[x] t u h

theorem head_cells (n : Int) (a b : ByteArray) : (#[.int .i64 n, .string a, .string b] : Array Value).all (·.oneCell') = true := by simp [Value.oneCell']
theorem boxes2 (w : World) (a b : Obj) : ((w.alloc a).alloc b).heap[w.heap.size]? = some a ∧ ((w.alloc a).alloc b).heap[w.heap.size + 1]? = some b ∧ Below w.heap.size w ((w.alloc a).alloc b) := by
  have s1 := heap_size w a
  refine ⟨heap_old _ _ (heap_push w a), ?_, ((Below.refl _ w).alloc (Nat.le_refl _) _).alloc (by omega) _⟩
  have := heap_push (w.alloc a) b
  rw [s1] at this
  exact this

end Go.Proofs.YthhckpnnjegldafDoor
