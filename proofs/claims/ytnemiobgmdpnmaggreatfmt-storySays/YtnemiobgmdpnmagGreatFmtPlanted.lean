/-
  The closed fact of the tree's statements: three texts, nothing, and two halves.
-/
import Derived.Test.YtnemiobgmdpnmagGreatFmtTree
namespace Go.Proofs.YtnemiobgmdpnmagGreatFmt
open Go Go.RowKit

def tA : ByteArray := ⟨#[97]⟩
def tB : ByteArray := ⟨#[98]⟩
def tC : ByteArray := ⟨#[99]⟩
def tABC : ByteArray := ⟨#[78, 55, 58, 78, 50, 58, 76, 97, 76, 98, 76, 99]⟩

theorem root_ab : rootS [tA, tB] = some ⟨#[78, 50, 58, 76, 97, 76, 98]⟩ := by
  have e1 : leafS tA = ⟨#[76, 97]⟩ := by decide +kernel
  have e2 : leafS tB = ⟨#[76, 98]⟩ := by decide +kernel
  have e3 : nodeS ⟨#[76, 97]⟩ ⟨#[76, 98]⟩ = ⟨#[78, 50, 58, 76, 97, 76, 98]⟩ := ba_ext (by rw [nodeS_data]; simp [ba_size, Lib.decDigits_one])
  rw [rootS_two (by simp) (by simp)]
  show (rootS [tA]).bind (fun a => (rootS [tB]).bind fun b => nodeO a b) = _
  rw [rootS_one (l := [tA]) rfl, rootS_one (l := [tB]) rfl]
  show (leafO tA).bind (fun a => (leafO tB).bind fun b => nodeO a b) = _
  have k1 : leafO tA = some (leafS tA) := if_pos (by decide)
  have k2 : leafO tB = some (leafS tB) := if_pos (by decide)
  rw [k1, k2, e1, e2, Option.bind_some, Option.bind_some, ← e3]
  exact if_pos (by decide)
theorem root_abc : rootS [tA, tB, tC] = some tABC := by
  have e1 : leafS tC = ⟨#[76, 99]⟩ := by decide +kernel
  have e3 : nodeS ⟨#[78, 50, 58, 76, 97, 76, 98]⟩ ⟨#[76, 99]⟩ = tABC := ba_ext (by rw [nodeS_data]; simp [ba_size, Lib.decDigits_one, tABC])
  rw [rootS_two (by simp) (by simp)]
  show (rootS [tA, tB]).bind (fun a => (rootS [tC]).bind fun b => nodeO a b) = _
  rw [root_ab, rootS_one (l := [tC]) rfl]
  show Option.bind _ (fun a => (leafO tC).bind fun b => nodeO a b) = _
  have k2 : leafO tC = some (leafS tC) := if_pos (by decide)
  rw [k2, e1, Option.bind_some, Option.bind_some, ← e3]
  exact if_pos (by decide)

/- A slice that a literal has just laid. -/
theorem strs_laid (w : World) (l : List ByteArray) (t : TypeId) (hl : l.length ≤ 1000) (hs : ∀ s ∈ l, s.size ≤ 9223372036854775807) :
    StrsAt (w.alloc (.cells (l.map Value.string).toArray t)) (some ⟨w.heap.size, 0, none⟩) l.length l := by
  refine ⟨Nat.le_refl _, by omega, hs, fun _ => ⟨w.heap.size, 0, rfl, by show _ < (w.heap.push _).size; simp, fun i hi => ?_⟩⟩
  have : (w.alloc (.cells (l.map Value.string).toArray t)).heap[w.heap.size]? = some (.cells (l.map Value.string).toArray t) := by show (w.heap.push _)[w.heap.size]? = _; simp
  unfold World.cell?
  rw [this]
  simp [hi, List.getD_eq_getElem?_getD]

theorem strs_none (w : World) : StrsAt w none 0 [] := ⟨Nat.le_refl _, by omega, fun s hs => by simp at hs, fun h => by simp at h⟩
