/-
  A slice of numbers in memory, and among a law's arguments; slices.Clone of it.
  A slice of numbers that is owned lies there.
  What a script keeps; slices that lie elsewhere than a box of three slices.
-/
import Derived.Test.YtnemiobgmdpnmagGreatFmtOwn
import Derived.ChangeSlices
import Derived.ProofKit
import Derived.Test.YtnemiobgmdpnmagGreatFmtBooks
import Derived.Test.YtnemiobgmdpnmagGreatFmtClients
import Derived.Laws.CopyOwn
namespace Go.Proofs.YtnemiobgmdpnmagGreatFmt
open Go Go.RowKit Go.ChangeShapes Go.WideShapes

structure IntsAt (w : World) (a : Option Addr) (c : Nat) (l : List Int) : Prop where
  cap : l.length ≤ c
  max : c ≤ 9223372036854775807
  sz : ∀ x ∈ l, -9223372036854775808 ≤ x ∧ x ≤ 9223372036854775807
  cells : 0 < l.length → ∃ b off, a = some ⟨b, off, none⟩ ∧ b < w.heap.size ∧ ∀ i, i < l.length → w.cell? ⟨b, off + i, none⟩ = some (.int .i64 (l.getD i 0))

theorem IntsAt.on {w w' : World} {a : Option Addr} {c : Nat} {l : List Int} (h : IntsAt w a c l) (hb : Below w.heap.size w w') : IntsAt w' a c l := by
  refine ⟨h.cap, h.max, h.sz, fun hp => ?_⟩
  obtain ⟨b, off, ha, hlt, hc⟩ := h.cells hp
  exact ⟨b, off, ha, Nat.lt_of_lt_of_le hlt hb.size, fun i hi => by rw [hb.cell hlt]; exact hc i hi⟩
theorem IntsAt.take {w : World} {a : Option Addr} {c : Nat} {l : List Int} (h : IntsAt w a c l) (k : Nat) : IntsAt w a c (l.take k) := by
  have hl : (l.take k).length ≤ l.length := by rw [List.length_take]; omega
  refine ⟨by have := h.cap; omega, h.max, fun s hs => h.sz s (List.mem_of_mem_take hs), fun hp => ?_⟩
  obtain ⟨b, off, ha, hlt, hc⟩ := h.cells (by omega)
  refine ⟨b, off, ha, hlt, fun i hi => ?_⟩
  have hi' : i < k := by rw [List.length_take] at hi; omega
  have e : (l.take k).getD i 0 = l.getD i 0 := by simp [List.getD_eq_getElem?_getD, hi']
  rw [e]
  exact hc i (by omega)

theorem open_nums {H : Type} {enc : TypeId × Value → H} {P : Program} {W : World} {r : Reach} {b0 base : Nat} {held : Bool} {t e : TypeId} {v : Value} {d : DataW H} {ps : List MemPlace}
    (ht : P.underlying t = some (.slice e)) (he : P.underlying e = some (.int .i64)) (hc : P.cellsOf e = 1) (hval : Value.okWide P W r b0 t v) (hd : DataW.Trod enc P W base (fun _ => true) held t v d ps) :
    ∃ (a : Option Addr) (n c : Nat) (l : List Int), v = .slice a n c ∧ l.length = n ∧ IntsAt W a c l := by
  obtain ⟨a0, len, cap, rfl⟩ := okWide_slice ht hval
  obtain ⟨fuel, hf⟩ := hd
  rcases open_ints ht he hc hf with ⟨hcs, _⟩ | ⟨a, len', cap', ss, hcs, _, hl, hm, hz, _, hcell, hsz⟩
  · have hcs : [Value.slice a0 len cap] = [.slice none 0 0] := hcs
    injection hcs with h1 _
    injection h1 with e1 e2 e3
    subst e1 e2 e3
    exact ⟨none, 0, 0, [], rfl, rfl, ⟨Nat.le_refl _, by omega, fun s hs => by simp at hs, fun h => by simp at h⟩⟩
  · have hcs : [Value.slice a0 len cap] = [.slice (some a) len' cap'] := hcs
    injection hcs with h1 _
    injection h1 with e1 e2 e3
    subst e1 e2 e3
    have hz : ss.length = cap := by simpa using hz
    have hlen : (ss.take len).length = len := by rw [List.length_take]; omega
    refine ⟨some a, len, cap, ss.take len, rfl, hlen, ⟨by omega, hm, fun s hs => ?_, fun hp => ?_⟩⟩
    · have := hsz s (List.mem_of_mem_take hs)
      simp only [Lit.wf, Bool.and_eq_true, decide_eq_true_eq] at this
      exact this
    have h0 := hcell 0 (by omega)
    obtain ⟨b, off, spot⟩ := a
    have hlt : b < W.heap.size := by
      refine Classical.byContradiction fun hn => ?_
      have : W.cell? ((⟨b, off, spot⟩ : Addr).add 0) = none := by
        unfold World.cell?
        rw [Array.getElem?_eq_none (by simpa [Addr.add] using hn)]
      rw [this] at h0
      cases h0
    have hs : spot = none := by
      cases spot with
      | none => rfl
      | some k =>
        unfold World.cell? at h0
        simp only [Addr.add, ↓reduceIte, Option.isSome_some] at h0
        split at h0 <;> simp at h0
    subst hs
    refine ⟨b, off, rfl, hlt, fun i hi => ?_⟩
    have := hcell i (by omega)
    have e : (⟨b, off, none⟩ : Addr).add i = ⟨b, off + i, none⟩ := by
      unfold Addr.add
      split
      · rename_i h; subst h; rfl
      · rfl
    rw [e] at this
    rw [this]
    have : i < len := by omega
    simp [this, List.getD_eq_getElem?_getD]
end Go.Proofs.YtnemiobgmdpnmagGreatFmt
namespace Go.Proofs.YtnemiobgmdpnmagGreatFmt
open Go Go.RowKit

/- Numbers that are owned lie there. -/
theorem owned_ints {w : World} {base : Nat} {e : TypeId} {a : Option Addr} {c n : Nat} {l : List Int} (h : w.ownsRow base e 1 (.slice a n c) n (l.map (Value.int .i64))) (hs : ∀ s ∈ l, -9223372036854775808 ≤ s ∧ s ≤ 9223372036854775807) : l.length = n ∧ IntsAt w a c l := by
  have hln : l.length = n := by have := h.1; rw [List.length_map] at this; omega
  refine ⟨hln, ?_⟩
  rcases h.2 with ⟨he, h0⟩ | ⟨g, cap, cur, he, hb, hg, hnc, hm, hsz, hcur⟩
  · injection he with e1 e2 e3
    subst e1 e2 e3
    exact ⟨by omega, by omega, hs, fun hp => by omega⟩
  · injection he with e1 e2 e3
    subst e1 e3
    have hlt : g < w.heap.size := by
      refine Classical.byContradiction fun hn => ?_
      rw [Array.getElem?_eq_none (by omega)] at hg
      cases hg
    refine ⟨by omega, hm, hs, fun _ => ⟨g, 0, rfl, hlt, fun i hi => ?_⟩⟩
    unfold World.cell?
    simp only [hg]
    have e1 : cur[0 + i]? = (l.map (Value.int .i64))[i]? := by
      rw [Nat.zero_add, ← hcur, List.getElem?_take, if_pos (by omega), Array.getElem?_toList]
    rw [Nat.zero_add] at e1
    simp [e1, hi, List.getD_eq_getElem?_getD]
end Go.Proofs.YtnemiobgmdpnmagGreatFmt
namespace Go.Proofs.YtnemiobgmdpnmagGreatFmt
open Go Go.RowKit

theorem step_good {W : WB} {x : HapB} (h : worldE W = 0) : worldE (stepW W x) = 0 := by
  unfold stepW
  by_cases h0 : (doV W x).2 = 0
  · rw [if_pos h0]
    exact (keeps_do h0).good
  · rw [if_neg h0]
    exact h
theorem play_good : ∀ (l : List HapB) {W : WB}, worldE W = 0 → worldE (playW W l) = 0
  | [], _, h => h
  | _ :: l, _, h => play_good l (step_good h)
/- Three slices in a box: no cell of it is a number. -/
theorem box_far {w : World} {g : Nat} {a0 : Option Addr} {n0 c0 : Nat} {a1 : Option Addr} {n1 c1 : Nat} {a2 : Option Addr} {n2 c2 : Nat} {t : TypeId} (q : w.heap[g]? = some (.cells #[.slice a0 n0 c0, .slice a1 n1 c1, .slice a2 n2 c2] t)) {b o : Nat} {k : IntKind} {m : Int} (h : w.cell? ⟨b, o, none⟩ = some (.int k m)) : b ≠ g := by
  intro e
  subst e
  unfold World.cell? at h
  simp only [q] at h
  match o, h with
  | 0, h => simp at h
  | 1, h => simp at h
  | 2, h => simp at h
  | o + 3, h => simp at h
/- None of a world's slices that hold something lies in a block. -/
def Far3 (V : WB) (b0 b1 b2 : Option Addr) (g : Nat) : Prop := (0 < V.b0.length → ∀ o, b0 ≠ some ⟨g, o, none⟩) ∧ (0 < V.b1.length → ∀ o, b1 ≠ some ⟨g, o, none⟩) ∧ (0 < V.cs.length → ∀ o, b2 ≠ some ⟨g, o, none⟩)
theorem ne_row {row : Option Nat} {b : Nat} (h : row ≠ some b) : some b ≠ row := fun e => h e.symm
theorem ents_kept {w w' : World} {a : Option Addr} {c : Nat} {l : List EntB} {row : Option Nat} (h : EntsAt w a c l) (hg : w.grownBy w' row) (hne : 0 < l.length → ∀ b off, a = some ⟨b, off, none⟩ → row ≠ some b) : EntsAt w' a c l := by
  refine ⟨h.cap, h.max, h.sz, fun hp => ?_⟩
  obtain ⟨b, off, ha, hlt, hc⟩ := h.cells hp
  have key : ∀ j, w'.cell? ⟨b, j, none⟩ = w.cell? ⟨b, j, none⟩ := fun j => World.cell?_of_block (w := w) (hg.block b hlt (ne_row (hne hp b off ha)))
  refine ⟨b, off, ha, Nat.lt_of_lt_of_le hlt hg.size, fun i hi => ?_⟩
  rw [key, key]
  exact hc i hi
theorem clis_grown {w w' : World} {a : Option Addr} {c : Nat} {l : List CliB} {row : Option Nat} (h : ClisAt w a c l) (hg : w.grownBy w' row) (hne : 0 < l.length → ∀ b off, a = some ⟨b, off, none⟩ → row ≠ some b) : ClisAt w' a c l := by
  refine ⟨h.cap, h.max, h.sz, fun hp => ?_⟩
  obtain ⟨b, off, ha, hlt, hc⟩ := h.cells hp
  have key : ∀ j, w'.cell? ⟨b, j, none⟩ = w.cell? ⟨b, j, none⟩ := fun j => World.cell?_of_block (w := w) (hg.block b hlt (ne_row (hne hp b off ha)))
  refine ⟨b, off, ha, Nat.lt_of_lt_of_le hlt hg.size, fun i hi => ?_⟩
  unfold fourAt
  rw [key, key, key, key]
  exact hc i hi
theorem ints_kept {w w' : World} {a : Option Addr} {c : Nat} {l : List Int} {row : Option Nat} (h : IntsAt w a c l) (hg : w.grownBy w' row) (hne : 0 < l.length → ∀ b off, a = some ⟨b, off, none⟩ → row ≠ some b) : IntsAt w' a c l := by
  refine ⟨h.cap, h.max, h.sz, fun hp => ?_⟩
  obtain ⟨b, off, ha, hlt, hc⟩ := h.cells hp
  refine ⟨b, off, ha, Nat.lt_of_lt_of_le hlt hg.size, fun i hi => ?_⟩
  rw [World.cell?_of_block (w := w) (hg.block b hlt (ne_row (hne hp b off ha)))]
  exact hc i hi
section
variable {w w' : World} {g : Nat} {a0 : Option Addr} {n0 c0 : Nat} {a1 : Option Addr} {n1 c1 : Nat} {a2 : Option Addr} {n2 c2 : Nat} {t : TypeId} {b0 : Option Addr} {m0 d0 : Nat} {b1 : Option Addr} {m1 d1 : Nat} {b2 : Option Addr} {m2 d2 : Nat} {V : WB}
theorem WAt.kept {row : Option Nat} (h : WAt w b0 m0 d0 b1 m1 d1 b2 m2 d2 V) (hg : w.grownBy w' row) (hf : ∀ g, row = some g → Far3 V b0 b1 b2 g) : WAt w' b0 m0 d0 b1 m1 d1 b2 m2 d2 V :=
  ⟨h.l0, ents_kept h.e0 hg (fun hp b off ha e => (hf b e).1 hp off ha), h.l1, ents_kept h.e1 hg (fun hp b off ha e => (hf b e).2.1 hp off ha), h.l2, clis_grown h.e2 hg (fun hp b off ha e => (hf b e).2.2 hp off ha)⟩
theorem far_box (h : WAt w b0 m0 d0 b1 m1 d1 b2 m2 d2 V) (q : w.heap[g]? = some (.cells #[.slice a0 n0 c0, .slice a1 n1 c1, .slice a2 n2 c2] t)) : Far3 V b0 b1 b2 g := by
  refine ⟨fun hp o e => ?_, fun hp o e => ?_, fun hp o e => ?_⟩
  · obtain ⟨b, off, ha, _, hc⟩ := h.e0.cells hp
    have hn := box_far q (hc 0 hp).1
    rw [e] at ha; injection ha with ha; injection ha with ha _ _
    exact hn ha.symm
  · obtain ⟨b, off, ha, _, hc⟩ := h.e1.cells hp
    have hn := box_far q (hc 0 hp).1
    rw [e] at ha; injection ha with ha; injection ha with ha _ _
    exact hn ha.symm
  · obtain ⟨b, off, ha, _, hc⟩ := h.e2.cells hp
    have hn := box_far q (hc 0 hp).1
    rw [e] at ha; injection ha with ha; injection ha with ha _ _
    exact hn ha.symm
theorem far_new (h : WAt w b0 m0 d0 b1 m1 d1 b2 m2 d2 V) (hg : w.heap.size ≤ g) : Far3 V b0 b1 b2 g := by
  refine ⟨fun hp o e => ?_, fun hp o e => ?_, fun hp o e => ?_⟩
  · obtain ⟨b, off, ha, hlt, _⟩ := h.e0.cells hp
    rw [e] at ha; injection ha with ha; injection ha with ha _ _; omega
  · obtain ⟨b, off, ha, hlt, _⟩ := h.e1.cells hp
    rw [e] at ha; injection ha with ha; injection ha with ha _ _; omega
  · obtain ⟨b, off, ha, hlt, _⟩ := h.e2.cells hp
    rw [e] at ha; injection ha with ha; injection ha with ha _ _; omega
theorem ints_box {a : Option Addr} {c : Nat} {l : List Int} (h : IntsAt w a c l) (q : w.heap[g]? = some (.cells #[.slice a0 n0 c0, .slice a1 n1 c1, .slice a2 n2 c2] t)) : 0 < l.length → ∀ b off, a = some ⟨b, off, none⟩ → some g ≠ some b := by
  intro hp b off e e2
  obtain ⟨b', off', ha, _, hc⟩ := h.cells hp
  have hn := box_far q (hc 0 hp)
  rw [e] at ha; injection ha with ha; injection ha with ha _ _
  injection e2 with e2
  omega
theorem far_hap {U : WB} {e0 e1 e2 : Option Addr} (hf : Far3 V b0 b1 b2 g) (hg : g < w.heap.size) (h0 : NewOr w b0 V.b0 e0 U.b0) (h1 : NewOr w b1 V.b1 e1 U.b1) (h2 : ∀ blk off, e2 = some ⟨blk, off, none⟩ → w.heap.size ≤ blk) : Far3 U e0 e1 e2 g := by
  refine ⟨fun hp o e => ?_, fun hp o e => ?_, fun _ o e => ?_⟩
  · rcases h0 with ⟨r1, r2⟩ | h0
    · exact hf.1 (by rw [← r2]; exact hp) o (by rw [← r1]; exact e)
    · have := h0 g o e; omega
  · rcases h1 with ⟨r1, r2⟩ | h1
    · exact hf.2.1 (by rw [← r2]; exact hp) o (by rw [← r1]; exact e)
    · have := h1 g o e; omega
  · have := h2 g o e; omega
/- A round's end: one answer more. -/
theorem run_end {wL w6 w7 : World} {B : Nat} {v : Value} {n : Nat} {xs : List Value} {T : TypeId} (hB : B < wL.heap.size) (hown : w6.ownsRow wL.heap.size T 1 v n xs) (q2 : w6.heap[B]? = some (.cells #[.slice b0 m0 d0, .slice b1 m1 d1, .slice b2 m2 d2] t)) (hU : WAt w6 b0 m0 d0 b1 m1 d1 b2 m2 d2 V)
    (hf : ∀ g, v.ownBlock = some g → Far3 V b0 b1 b2 g) (hgr : wL.grownBy w6 (some B)) (o : Obj) (hg7 : (w6.alloc o).grownBy w7 v.ownBlock) {g' : Nat} (hat : v.ownBlock = some g' ∨ g' = (w6.alloc o).heap.size) :
    w7.heap[B]? = some (.cells #[.slice b0 m0 d0, .slice b1 m1 d1, .slice b2 m2 d2] t) ∧ WAt w7 b0 m0 d0 b1 m1 d1 b2 m2 d2 V ∧ Far3 V b0 b1 b2 g' ∧ wL.grownBy w7 (some B) := by
  have hal := hU.on ((Below.refl _ w6).alloc (Nat.le_refl _) o)
  have hlo := fun j hj => (hown.lt j hj).1
  refine ⟨heap_kept hg7 (heap_old w6 o q2) (fun e => by have := hlo B e; omega), hal.kept hg7 hf, ?_, ?_⟩
  · rcases hat with e | e
    · exact hf g' e
    · exact far_new hal (by omega)
  · exact grow_trans (grow_trans hgr (World.grownBy_alloc w6 o none) (fun j hj => by cases hj)) hg7 (fun j hj => .inr (hlo j hj))
end
theorem said_take : ∀ (l : List HapB) (W : WB) (i : Nat), saidL W (l.take i) = (saidL W l).take i
  | _, _, 0 => by simp [saidL]
  | [], _, i + 1 => rfl
  | x :: l, W, i + 1 => by
    show (doV W x).2 :: saidL (stepW W x) (l.take i) = (doV W x).2 :: (saidL (stepW W x) l).take i
    rw [said_take l]
end Go.Proofs.YtnemiobgmdpnmagGreatFmt
