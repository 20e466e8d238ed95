/-
  slices.Reverse at pairs of numbers, in a block of the call's own.
-/
import Derived.Test.YthhckpnnjegldafGreatFmtSpans
import Derived.Shelf.RegionOpenPlain
namespace Go.Proofs.YthhckpnnjegldafGreatFmt
open Go Go.RowKit Go.Kit Go.Extern.Stop Go.Stop Go.Extern

theorem reverse_zero (a : Option Addr) (c : Nat) (w : World) :
    Calls Tryz.prog 62 #[.slice a 0 c] w fun e w' => e = .returned (.tuple #[]) ∧ w = w' := by
  go_enter Tryz.func62, Tryz.ntmps62
  go_wp2_with fail
  go_loopg [2, 3] 0 (fun _ s2 s3 wr => s2 = .int .i64 0 ∧ s3 = .int .i64 (-1) ∧ w = wr)
  case atStart => exact ⟨rfl, rfl, rfl⟩
  case round =>
    obtain ⟨rfl, rfl, rfl⟩ := hrel
    go_wp2_with fail
    go_end0
    exact ⟨rfl, rfl⟩

theorem cell_set {w : World} {a : Addr} {v : Value} (h : w.cell? a = some v) (u : Value) (b : Addr) : (w.setCell a u).cell? b = if b = a then some u else w.cell? b := by
  by_cases e : b = a
  · subst e; rw [if_pos rfl]; exact World.cell?_setCell_same _ _ _ h
  · rw [if_neg e]; exact World.cell?_setCell_other _ _ _ _ (Ne.symm e)

theorem pairs_swap0 {w : World} {g n : Nat} {G : Nat → SpanB} (hQ : PairsAt w g n G) {k j : Nat} (hk : k < n) (hj : j < n) (hkj : k < j) {x1 x2 y1 y2 : Nat} (hx : G k = (x1, x2)) (hy : G j = (y1, y2)) :
    PairsAt (((((w.setCell ⟨g, k * 2, none⟩ (.int .i64 (y1 : Int))).setCell ⟨g, k * 2 + 1, none⟩ (.int .i64 (y2 : Int))).setCell ⟨g, j * 2, none⟩ (.int .i64 (x1 : Int))).setCell ⟨g, j * 2 + 1, none⟩ (.int .i64 (x2 : Int)))) g n
      (fun p => if p = k then G j else if p = j then G k else G p) := by
  obtain ⟨ck, ck'⟩ := hQ.cells k hk
  obtain ⟨cj, cj'⟩ := hQ.cells j hj
  have s1 := cell_set ck (.int .i64 (y1 : Int))
  have c2 : (w.setCell ⟨g, k * 2, none⟩ (.int .i64 (y1 : Int))).cell? ⟨g, k * 2 + 1, none⟩ = some (.int .i64 ((G k).2 : Int)) := by rw [s1, if_neg (by simp), ck']
  have s2 := cell_set c2 (.int .i64 (y2 : Int))
  have c3 : ((w.setCell ⟨g, k * 2, none⟩ (.int .i64 (y1 : Int))).setCell ⟨g, k * 2 + 1, none⟩ (.int .i64 (y2 : Int))).cell? ⟨g, j * 2, none⟩ = some (.int .i64 ((G j).1 : Int)) := by
    rw [s2, if_neg (by simp only [Addr.mk.injEq]; omega), s1, if_neg (by simp only [Addr.mk.injEq]; omega), cj]
  have s3 := cell_set c3 (.int .i64 (x1 : Int))
  have c4 : (((w.setCell ⟨g, k * 2, none⟩ (.int .i64 (y1 : Int))).setCell ⟨g, k * 2 + 1, none⟩ (.int .i64 (y2 : Int))).setCell ⟨g, j * 2, none⟩ (.int .i64 (x1 : Int))).cell? ⟨g, j * 2 + 1, none⟩ = some (.int .i64 ((G j).2 : Int)) := by
    rw [s3, if_neg (by simp), s2, if_neg (by simp only [Addr.mk.injEq]; omega), s1, if_neg (by simp only [Addr.mk.injEq]; omega), cj']
  have s4 := cell_set c4 (.int .i64 (x2 : Int))
  refine ⟨?_, fun p hp => ?_, fun i => ?_⟩
  · have := hQ.lt
    simpa using this
  · rw [s4, s4, s3, s3, s2, s2, s1, s1]
    have hw := hQ.cells p hp
    by_cases e1 : p = k
    · subst e1
      simp only [Addr.mk.injEq, true_and, and_true, if_true, hy]
      rw [if_neg (by omega), if_neg (by omega), if_neg (by omega), if_neg (by omega), if_neg (by omega)]
      simp
    · by_cases e2 : p = j
      · subst e2
        simp only [Addr.mk.injEq, true_and, and_true, if_true, if_neg e1, hx]
        rw [if_neg (by omega)] <;> simp
      · simp only [Addr.mk.injEq, true_and, and_true, if_neg e1, if_neg e2]
        rw [if_neg (by omega), if_neg (by omega), if_neg (by omega), if_neg (by omega), if_neg (by omega), if_neg (by omega), if_neg (by omega), if_neg (by omega)]
        exact hw
  · have := hQ.soft i
    simpa using this
theorem PairsAt.drew {w : World} {g n : Nat} {F : Nat → SpanB} (h : PairsAt w g n F) : PairsAt w.drew g n F := ⟨h.lt, h.cells, h.soft⟩
theorem pairs_swap {w : World} {g n : Nat} {G : Nat → SpanB} (hQ : PairsAt w g n G) {k j : Nat} (hk : k < n) (hj : j < n) (hkj : k < j) {x1 x2 y1 y2 : Nat} (hx : G k = (x1, x2)) (hy : G j = (y1, y2)) :
    PairsAt (((((w.setCell ⟨g, k * 2, none⟩ (.int .i64 (y1 : Int))).setCell ⟨g, k * 2 + 1, none⟩ (.int .i64 (y2 : Int))).setCell ⟨g, j * 2, none⟩ (.int .i64 (x1 : Int))).setCell ⟨g, j * 2 + 1, none⟩ (.int .i64 (x2 : Int))).drew) g n
      (fun p => if p = k then G j else if p = j then G k else G p) := by
  exact (pairs_swap0 hQ hk hj hkj hx hy).drew

/- The first and the last k exchanged. -/
def revF (n k : Nat) (F : Nat → SpanB) (p : Nat) : SpanB := if p < k ∨ n - k ≤ p then F (n - 1 - p) else F p

/- Nothing is turned but in one block. -/
structure Aside (g : Nat) (w w' : World) : Prop where
  os : w'.os = w.os
  tape : w'.tape = w.tape
  output : w'.output = w.output
  size : w.heap.size ≤ w'.heap.size
  block : ∀ k, k ≠ g → w'.heap[k]? = w.heap[k]?
theorem Aside.refl (g : Nat) (w : World) : Aside g w w := ⟨rfl, rfl, rfl, Nat.le_refl _, fun _ _ => rfl⟩
theorem Aside.setCell {g : Nat} {a w : World} (h : Aside g a w) {p : Addr} (hp : p.block = g) (u : Value) : Aside g a (w.setCell p u) :=
  ⟨h.os, h.tape, h.output, by simpa using h.size, fun k hk => by rw [Below.heap_setCell _ _ _ _ (by omega)]; exact h.block k hk⟩
theorem Aside.drewN {g : Nat} {a w : World} (h : Aside g a w) (q : Nat) : Aside g a (w.drewN q) := ⟨h.os, h.tape, h.output, h.size, h.block⟩
theorem Aside.below {g : Nat} {a w : World} (h : Aside g a w) {B : Nat} (hB : B ≤ g) : Below B a w := ⟨h.os, h.tape, h.output, h.size, fun k hk => h.block k (by omega)⟩

set_option maxRecDepth 100000 in
set_option maxHeartbeats 400000 in
theorem reverse_any (g n c : Nat) (F : Nat → SpanB) (w : World) (h0 : 0 < n) (hn : n ≤ 1000) (_hc : n ≤ c) (hP : PairsAt w g n F) :
    Calls Tryz.prog 62 #[.slice (some ⟨g, 0, none⟩) n c] w fun e w' => e = .returned (.tuple #[]) ∧ PairsAt w' g n (fun p => F (n - 1 - p)) ∧ Aside g w w' := by
  go_enter Tryz.func62, Tryz.ntmps62
  go_wp2_with fail
  go_loopg [2, 3] n (fun m s2 s3 wr => ∃ (k j : Nat), s2 = .int .i64 (k : Int) ∧ s3 = .int .i64 (j : Int) ∧ k + j = n - 1 ∧ n - k ≤ m ∧ k ≤ j + 1 ∧ PairsAt wr g n (revF n k F) ∧ Aside g w wr)
  case atStart => exact ⟨0, n - 1, rfl, by congr 1; omega, by omega, by omega, by omega, ⟨hP.lt, fun p hp => by simpa [revF, show ¬ n ≤ p by omega] using hP.cells p hp, hP.soft⟩, Aside.refl _ _⟩
  case round =>
    obtain ⟨k, j, rfl, rfl, hkj, hm, hkj1, hQ, hb⟩ := hrel
    rcases Nat.lt_or_ge k j with hlt | hge
    · obtain ⟨ck, ck'⟩ := hQ.cells k (by omega)
      obtain ⟨cj, cj'⟩ := hQ.cells j (by omega)
      have fz := hQ.soft
      generalize hx : revF n k F k = x at ck ck'
      generalize hy : revF n k F j = y at cj cj'
      obtain ⟨x1, x2⟩ := x
      obtain ⟨y1, y2⟩ := y
      simp only at ck ck' cj cj'
      have d1 : ¬ k * 2 = j * 2 := by omega
      have i1 : (k : Int) < (n : Int) := by omega
      have i2 : (j : Int) < (n : Int) := by omega
      have mixed : Tryz.prog.follows .mixedOrders = true := by kernel_rfl
      have hsw := pairs_swap hQ (by omega : k < n) (by omega : j < n) hlt hx hy
      have hbs := ((((hb.setCell (p := ⟨g, k * 2, none⟩) rfl (.int .i64 (y1 : Int))).setCell (p := ⟨g, k * 2 + 1, none⟩) rfl (.int .i64 (y2 : Int))).setCell (p := ⟨g, j * 2, none⟩) rfl (.int .i64 (x1 : Int))).setCell (p := ⟨g, j * 2 + 1, none⟩) rfl (.int .i64 (x2 : Int)))
      have Hsw := Lib.hid hsw
      have Hbs := Lib.hid hbs
      clear hsw hbs hx hy
      go_wp2_with fail
      go_region_o
      go_wp2_with fail
      go_roundg (n - (k + 1))
      case measure => omega
      case rel =>
        refine ⟨k + 1, j - 1, by go_num, by go_num, by omega, Nat.le_refl _, by omega, ?_, Hbs.out.drewN 1⟩
        have h := Hsw.out
        refine ⟨h.lt, fun p hp => ?_, h.soft⟩
        have e : revF n (k + 1) F p = if p = k then revF n k F j else if p = j then revF n k F k else revF n k F p := by
          unfold revF
          by_cases e1 : p = k
          · subst e1
            rw [if_pos rfl, if_pos (by omega), if_neg (by omega)]
            congr 1; omega
          · rw [if_neg e1]
            by_cases e2 : p = j
            · subst e2
              rw [if_pos rfl, if_pos (by omega), if_neg (by omega)]
              congr 1; omega
            · rw [if_neg e2]
              by_cases e3 : p < k ∨ n - k ≤ p
              · rw [if_pos e3, if_pos (by omega)]
              · rw [if_neg e3, if_neg (by omega)]
        rw [e]
        exact h.cells p hp
    · go_wp2_with fail
      go_end0
      refine ⟨rfl, ⟨hQ.lt, fun p hp => ?_, hQ.soft⟩, hb⟩
      have h := hQ.cells p hp
      have e : revF n k F p = F (n - 1 - p) := by
        unfold revF
        split
        · rfl
        · congr 1; omega
      rwa [e] at h
structure SpansAt (w : World) (a : Option Addr) (c : Nat) (l : List SpanB) : Prop where
  cap : l.length ≤ c
  max : c ≤ 9223372036854775807
  cells : 0 < l.length → ∃ g, a = some ⟨g, 0, none⟩ ∧ PairsAt w g l.length (spanAt l)
theorem SpansAt.on {w w' : World} {a : Option Addr} {c : Nat} {l : List SpanB} (h : SpansAt w a c l) (hb : Below w.heap.size w w') : SpansAt w' a c l := by
  refine ⟨h.cap, h.max, fun hp => ?_⟩
  obtain ⟨g, ha, hP⟩ := h.cells hp
  exact ⟨g, ha, hP.on hb⟩
theorem spanAt_rev (l : List SpanB) (p : Nat) (h : p < l.length) : spanAt l (l.length - 1 - p) = spanAt l.reverse p := by
  unfold spanAt
  rw [List.getD_eq_getElem?_getD, List.getD_eq_getElem?_getD, List.getElem?_reverse h]
theorem spanAt_mem {l : List SpanB} {i : Nat} (h : i < l.length) : spanAt l i ∈ l := by
  unfold spanAt
  rw [List.getD_eq_getElem?_getD, List.getElem?_eq_getElem h, Option.getD_some]
  exact List.getElem_mem _

theorem reverse_aside (l : List SpanB) (a : Option Addr) (c : Nat) (w : World) (B : Nat) (hl : l.length ≤ 1000) (hown : w.ownsRow B 106 2 (.slice a l.length c) l.length (spanCells l)) :
    Calls Tryz.prog 62 #[.slice a l.length c] w fun e w' => e = .returned (.tuple #[]) ∧ SpansAt w' a c l.reverse ∧ Below B w w' ∧ ∀ k, (Value.slice a l.length c).ownBlock ≠ some k → w'.heap[k]? = w.heap[k]? := by
  rcases Nat.eq_zero_or_pos l.length with h0 | h0
  · have e := List.length_eq_zero_iff.1 h0
    subst e
    refine (reverse_zero a c w).mono ?_
    rintro e w' ⟨rfl, rfl⟩
    refine ⟨rfl, ?_, Below.refl _ _, fun _ _ => rfl⟩
    rcases hown.2 with ⟨he, _⟩ | ⟨g, cap, cur, he, _, _, hnc, hm, _⟩
    · injection he with e1 e2 e3
      subst e3
      exact ⟨Nat.le_refl _, by omega, fun h => by simp at h⟩
    · injection he with e1 e2 e3
      subst e3
      exact ⟨Nat.zero_le _, hm, fun h => by simp at h⟩
  · obtain ⟨g, rfl, hB, _, hnc, hmc, hP⟩ := pairs_own hown h0
    refine (reverse_any g l.length c (spanAt l) w h0 hl hnc hP).mono ?_
    rintro e w' ⟨rfl, hQ, hb⟩
    refine ⟨rfl, ⟨by rw [List.length_reverse]; exact hnc, hmc, fun _ => ⟨g, rfl, ?_⟩⟩, hb.below hB, fun k hk => hb.block k (fun e => hk (by rw [e]; rfl))⟩
    rw [List.length_reverse]
    refine ⟨hQ.lt, fun p hp => ?_, hQ.soft⟩
    rw [← spanAt_rev l p hp]
    exact hQ.cells p hp
theorem reverse_all (l : List SpanB) (a : Option Addr) (c : Nat) (w : World) (B : Nat) (hl : l.length ≤ 1000) (hown : w.ownsRow B 106 2 (.slice a l.length c) l.length (spanCells l)) :
    Calls Tryz.prog 62 #[.slice a l.length c] w fun e w' => e = .returned (.tuple #[]) ∧ SpansAt w' a c l.reverse ∧ Below B w w' := by
  refine (reverse_aside l a c w B hl hown).mono ?_
  rintro e w' ⟨rfl, h1, h2, _⟩
  exact ⟨rfl, h1, h2⟩
end Go.Proofs.YthhckpnnjegldafGreatFmt
