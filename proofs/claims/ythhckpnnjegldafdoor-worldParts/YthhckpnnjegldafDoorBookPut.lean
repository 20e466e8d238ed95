/-
  Contracts of package book: with, Put.
-/
import Derived.Test.YthhckpnnjegldafDoorBookVals
import Derived.Test.YthhckpnnjegldafDoorBlocks
import Derived.Laws.CopyOwn
import Derived.Deep.MidRow
import Derived.Laws.ResultCell
import Derived.Laws.Rows
import Derived.Deep.DeepCutAuto
namespace Go.Proofs.YthhckpnnjegldafDoor
open Go Go.RowKit Go.Maps

/- A copy of elements of two cells to the head of a row of one's own. -/
theorem run_copy_pairs {P : Program} {w : World} {base : Nat} {e dT sT ty : TypeId} {g m cap : Nat} {xs : List Value} (h : w.ownsRow base e 2 (.slice (some ⟨g, 0, none⟩) m cap) m xs)
    (hu : P.underlying dT = some (.slice e)) (hs : (P.info? e).map (·.size) = some 2) (a : Option Addr) (n c : Nat) (cs : List Value) (hn : cs.length = n * 2) (hnm : n ≤ m)
    (hsrc : 0 < n → ∃ ad, a = some ad ∧ ∀ j v, cs[j]? = some v → w.cell? (ad.add j) = some v) (h1 : ∀ v ∈ cs, v.oneCell' = true) :
    ∃ w', (Builtin.copy_ #[dT, sT] ty #[.slice (some ⟨g, 0, none⟩) m cap, .slice a n c]).run P w = .ok (goInt n) w' ∧ w'.ownsRow base e 2 (.slice (some ⟨g, 0, none⟩) m cap) m (cs ++ xs.drop (n * 2)) ∧ w.grownBy w' (some g) := by
  have hx := h.1
  rcases h.2 with ⟨he, _⟩ | ⟨g', cap', cur, he, hb, hg, hnc, hm, hsz, hcur⟩
  · cases he
  injection he with e1 _ e3
  injection e1 with e1
  injection e1 with e1 _ _
  subst e1 e3
  have hmin : Nat.min n m = n := Nat.min_eq_left hnm
  cases hq : P.info? e with
  | none => simp [hq] at hs
  | some i =>
    have hi : i.size = 2 := by simpa [hq] using hs
    rcases Nat.eq_zero_or_pos n with h0 | h0
    · subst h0
      obtain rfl : cs = [] := List.eq_nil_of_length_eq_zero (by omega)
      have hl : ∀ (x : Addr), (loadCells x 0).run P w = .ok #[] w := fun x => by simpa using run_loadCells_list (P := P) w x [] (by simp)
      refine ⟨w, ?_, by simpa using h, ⟨rfl, rfl, rfl, Nat.le_refl _, fun _ _ _ => rfl⟩⟩
      cases a <;> simp [Builtin.copy_, run_underlying hu, Builtin.lenOf, Builtin.firstCells, sizeOf, typeInfo, hq, storeCells, hl]
    · obtain ⟨ad, rfl, hsr⟩ := hsrc h0
      have hl := run_loadCells_list (P := P) w ad cs hsr
      have hst := run_storeCells_at P g 0 e cs 0 cur w hg (by rw [hsz, hn]; omega) h1
      refine ⟨w.setRow g (cs ++ cur.toList.drop (n * 2)).toArray, ?_, ⟨by rw [List.length_append, List.length_drop, hx, hn]; omega, .inr ⟨g, cap, _, rfl, hb, setRow_heap w g _ _ e _ hg, hnc, hm, ?_, ?_⟩⟩, ⟨rfl, rfl, rfl, by simp [World.setRow], fun k _ hk => setRow_other w g k _ (fun e => hk (by rw [e]))⟩⟩
      · rw [hn] at hl hst
        simp only [Nat.zero_add, List.take_zero, List.nil_append] at hst
        simp [Builtin.copy_, run_underlying hu, Builtin.lenOf, Builtin.firstCells, sizeOf, typeInfo, hq, hi, hmin, hl, hst]
      · simp [hn, hsz]; try omega
      · rw [← hcur]
        simp only [List.drop_take]
        rw [List.take_append, hn, List.take_of_length_le (by rw [hn]; omega)]
        try congr 2
theorem wpList_copy_pairs {P : Program} {w : World} {ops : Array Oper} {rest : List Oper} {o : Oper} {act : Act} {Q : Exit → Act → World → Prop} (hgd : o.guard = none) (d s : Operand) (dT sT : TypeId)
    (ho : o.op = .call { callee := .builtin .copy, args := #[d, s], argTypes := #[dT, sT] }) {base : Nat} {e : TypeId} {g m cap : Nat} {xs : List Value} (h : w.ownsRow base e 2 (.slice (some ⟨g, 0, none⟩) m cap) m xs)
    (hu : P.underlying dT = some (.slice e)) (hs : (P.info? e).map (·.size) = some 2) (a : Option Addr) (n c : Nat) (hd : act.eval d = .slice (some ⟨g, 0, none⟩) m cap) (hsv : act.eval s = .slice a n c) (cs : List Value) (hn : cs.length = n * 2) (hnm : n ≤ m)
    (hsrc : 0 < n → ∃ ad, a = some ad ∧ ∀ j v, cs[j]? = some v → w.cell? (ad.add j) = some v) (h1 : ∀ v ∈ cs, v.oneCell' = true)
    (hK : ∀ w', w'.ownsRow base e 2 (.slice (some ⟨g, 0, none⟩) m cap) m (cs ++ xs.drop (n * 2)) → w.grownBy w' (some g) → wpList P ops Q rest (act.put o.dst (goInt n)) w') : wpList P ops Q (o :: rest) act w := by
  obtain ⟨w', hr, h2, h3⟩ := run_copy_pairs (dT := dT) (sT := sT) (ty := o.type) h hu hs a n c cs hn hnm hsrc h1
  refine wpList_plain hgd fun _ hKK => ?_
  unfold Oper.wp
  simp [execOp, ho, resolve, invoke, builtin, hd, hsv, hr, Result.andThen]
  exact hKK _ _ (hK w' h2 h3)

/- A store of an element of two cells into a row of one's own. -/
theorem own_pair {w : World} {base : Nat} {e : TypeId} {g m cap : Nat} {xs : List Value} (h : w.ownsRow base e 2 (.slice (some ⟨g, 0, none⟩) m cap) m xs) (j : Nat) (hj : j < m) (u v : Value) :
    w.there g (j * 2) 2 ∧ (w.setCells g (j * 2) [u, v]).ownsRow base e 2 (.slice (some ⟨g, 0, none⟩) m cap) m ((xs.set (j * 2) u).set (j * 2 + 1) v) ∧ w.grownBy (w.setCells g (j * 2) [u, v]) (some g) := by
  obtain ⟨h1, g1⟩ := h.stored (j * 2) u
  obtain ⟨h2, g2⟩ := h1.stored (j * 2 + 1) v
  refine ⟨fun i hi => ⟨?_, h.frozenAt _⟩, h2, g1.trans g2⟩
  rcases h.2 with ⟨he, _⟩ | ⟨g', cap', cur, he, hb, hg, hnc, hm, hsz, hcur⟩
  · cases he
  injection he with e1 _ e3
  injection e1 with e1
  injection e1 with e1 _ _
  subst e1 e3
  unfold World.cell?
  simp only [hg]
  have : j * 2 + i < cur.size := by omega
  simp [this]

theorem cells_snoc {l : List EntB} {n : Nat} (hn : l.length = n) (x : EntB) (ys : List Value) (hy : ys.length = 2) : (((entCells l ++ ys).set (n * 2) (.int .i64 x.1)).set (n * 2 + 1) (.string x.2)) = entCells (l ++ [x]) := by
  have hl := entCells_len l
  rw [hn] at hl
  obtain ⟨a, b, rfl⟩ : ∃ a b, ys = [a, b] := by
    match ys, hy with
    | [a, b], _ => exact ⟨a, b, rfl⟩
  rw [entCells_app, List.set_append_right _ _ (by omega), hl, Nat.sub_self, List.set_append_right _ _ (by omega), hl, show n * 2 + 1 - n * 2 = 1 by omega]
  rfl

theorem wide_snoc {l : List EntB} (h : ∀ e ∈ l, WideEnt e) {x : EntB} (hx : WideEnt x) : ∀ e ∈ l ++ [x], WideEnt e := by
  intro e he
  rcases List.mem_append.1 he with he | he
  · exact h e he
  · rw [List.mem_singleton.1 he]; exact hx

theorem EntsAt.grown {w w' : World} {a : Option Addr} {c : Nat} {l : List EntB} {row : Option Nat} (h : EntsAt w a c l) (hg : w.grownBy w' row) (hne : ∀ b off, a = some ⟨b, off, none⟩ → row ≠ some b) : EntsAt w' a c l := by
  refine ⟨h.cap, h.max, h.sz, fun hp => ?_⟩
  obtain ⟨b, off, ha, hlt, hc⟩ := h.cells hp
  refine ⟨b, off, ha, Nat.lt_of_lt_of_le hlt hg.size, fun i hi => ?_⟩
  have key : ∀ j, w'.cell? ⟨b, j, none⟩ = w.cell? ⟨b, j, none⟩ := fun j => World.cell?_of_block (w := w) (hg.block b hlt (fun e => hne b off ha e.symm))
  rw [key, key]
  exact hc i hi

set_option maxRecDepth 100000 in
theorem with_any (l : List EntB) (a : Option Addr) (n c : Nat) (k : Int) (v : ByteArray) (w : World) (hn : l.length = n) (hS : EntsAt w a c l) (hx : WideEnt (k, v)) (h24 : n ≤ 24) :
    Calls Tryd.prog 70 #[.agg #[.slice a n c], .agg #[.int .i64 k, .string v]] w fun e w' => ∃ g, e = .returned (.agg #[.slice (some ⟨g, 0, none⟩) (n + 1) (n + 1)]) ∧ w.heap.size ≤ g ∧ EntsAt w' (some ⟨g, 0, none⟩) (n + 1) (l ++ [(k, v)]) ∧ Below w.heap.size w w' := by
  have hcap := hS.cap
  have hmax := hS.max
  obtain ⟨i0, hi0, hz0, hz1, hz2⟩ := info_parts infoEntry
  go_enter Tryd.func70, Tryd.ntmps70
  obtain ⟨q0, q1, q2, qs⟩ := boxes3 w (.cells #[.slice a n c] 24) (.cells #[.int .i64 k, .string v] 34) (.cells #[.slice none 0 0] 24)
  have hb0 := below3 w (.cells #[.slice a n c] 24) (.cells #[.int .i64 k, .string v] 34) (.cells #[.slice none 0 0] 24)
  have hec := entCells_len l
  rw [hn] at hec
  have hone := entCells_one l
  have hsz : (Tryd.prog.info? 34).map (·.size) = some 2 := by rw [hi0]; simp [hz1]
  go_wp2_with (at_make; refine wpList_make_full _ rfl _ _ 22 rfl w.heap.size 34 i0 (.agg #[.int .i64 0, .string ⟨#[]⟩]) 2 Tryd.underlying22 hi0 hz0 hz1 _ _ _ _ (n + 1) rfl rfl (by omega) (by omega) (by rw [hz2]; omega) (by unfold maxLen; omega) (by rw [qs]; omega) ?_; intro w1 hown hg; rw [qs] at hown; have hb1 := hb0.grown hg (by rw [qs]; omega) (fun j hj => by cases hj); have c0 := heap_cell (heap_kept hg q0 (by simp)) 0 _ rfl)
  have p0 := heap_kept hg q0 (by simp)
  have p1 := heap_kept hg q1 (by simp)
  have p2 := heap_kept hg q2 (by simp)
  have hlt1 : w.heap.size + 1 + 1 + 1 < w1.heap.size := (hown.lt _ rfl).2
  clear hg q0 q1 q2 qs hb0 c0
  obtain ⟨w2, hr, hown2, hg2⟩ := run_copy_pairs (P := Tryd.prog) (dT := 22) (sT := 22) (ty := 3) hown Tryd.underlying22 hsz a n c (entCells l) hec (by omega) (fun h => (hS.on hb1).src (by omega)) hone
  rw [hr]
  have r0 := heap_kept hg2 p0 (fun e => by injection e with e; omega)
  have r1 := heap_kept hg2 p1 (fun e => by injection e with e; omega)
  have r2 := heap_kept hg2 p2 (fun e => by injection e with e; omega)
  have hb2 := hb1.grown hg2 hb1.size (fun j hj => by cases hj; omega)
  clear hr hown hg2 p0 p1 p2 hb1
  have d0 := heap_cell r0 0 _ rfl
  have d1 := heap_cell r1 0 _ rfl
  have d2 := heap_cell r1 1 _ rfl
  obtain ⟨hth, hown3, hg3⟩ := own_pair hown2 n (by omega) (.int .i64 k) (.string v)
  have f0 : (w2.cell? ⟨w.heap.size + 1 + 1 + 1, n * 2, none⟩).isSome = true := (hth 0 (by omega)).1
  have f1 : w2.frozen? ⟨w.heap.size + 1 + 1 + 1, n * 2, none⟩ = false := (hth 0 (by omega)).2
  obtain ⟨f2, f3⟩ := hth 1 (by omega)
  obtain ⟨y0, f0⟩ := Option.isSome_iff_exists.1 f0
  obtain ⟨y1, f2⟩ := Option.isSome_iff_exists.1 f2
  have f4 : (w2.setCell ⟨w.heap.size + 1 + 1 + 1, n * 2, none⟩ (.int .i64 k)).cell? ⟨w.heap.size + 1 + 1 + 1, n * 2 + 1, none⟩ = some y1 := by
    rw [World.cell?_setCell_other _ _ _ _ (by simp)]; exact f2
  have f5 : (w2.setCell ⟨w.heap.size + 1 + 1 + 1, n * 2, none⟩ (.int .i64 k)).frozen? ⟨w.heap.size + 1 + 1 + 1, n * 2 + 1, none⟩ = false := by
    rw [World.frozen?_setCell]; exact f3
  have s2 := heap_kept hg3 r2 (fun e => by injection e with e; omega)
  have hb3 := hb2.grown hg3 hb2.size (fun j hj => by cases hj; omega)
  have hcs : ((entCells l ++ (madeCells (Value.agg #[.int .i64 0, .string ⟨#[]⟩]).cells ((n + 1) * 2)).toList.drop (n * 2)).set (n * 2) (.int .i64 k)).set (n * 2 + 1) (.string v) = entCells (l ++ [(k, v)]) :=
    cells_snoc hn (k, v) _ (by rw [List.length_drop, Array.length_toList, size_madeCells]; omega)
  rw [hcs] at hown3
  clear hcs hown2 hg3 hth
  go_upto_region 4 with fail
  have hW : w2.setCells (w.heap.size + 1 + 1 + 1) (n * 2) [.int .i64 k, .string v] = (w2.setCell ⟨w.heap.size + 1 + 1 + 1, n * 2, none⟩ (.int .i64 k)).setCell ⟨w.heap.size + 1 + 1 + 1, n * 2 + 1, none⟩ (.string v) := rfl
  rw [hW] at hown3 s2 hb3
  clear hW f0 f1 f2 f3 f4 f5 d0 d1 d2 r0 r1 r2 hb2 hlt1
  generalize (w2.setCell ⟨w.heap.size + 1 + 1 + 1, n * 2, none⟩ (.int .i64 k)).setCell ⟨w.heap.size + 1 + 1 + 1, n * 2 + 1, none⟩ (.string v) = w3 at hown3 s2 hb3 ⊢
  have t0 := heap_cell s2 0 _ rfl
  have t1 := frozen_of_row w3 (w.heap.size + 1 + 1) 0 _ _ s2
  go_wp2_with fail
  have hsz := hS.sz
  obtain ⟨a', c', hv, _, hE3⟩ := ents_own hown3 (wide_snoc hsz hx)
  injection hv with e1 e2 e3
  subst e1 e3
  have hg4 := set_grown w3 (w.heap.size + 1 + 1) 0 (.slice (some ⟨w.heap.size + 1 + 1 + 1, 0, none⟩) (n + 1) (n + 1))
  have hh := heap_setCell_same w3 (w.heap.size + 1 + 1) 0 _ _ (.slice (some ⟨w.heap.size + 1 + 1 + 1, 0, none⟩) (n + 1) (n + 1)) s2
  have hb4 := hb3.grown hg4 hb3.size (fun j hj => by cases hj; omega)
  have hE4 := hE3.grown hg4 (fun b off e => by injection e with e; injection e with e _ _; intro e2; injection e2 with e2; omega)
  refine bodyPost_ret (results_cell_row rfl _ _ (w.heap.size + 1 + 1) _ _ _ _ rfl hh Tryd.underlying24 rfl (by kernel_rfl)) rfl ?_
  exact ⟨_, rfl, by omega, hE4, hb4⟩
end Go.Proofs.YthhckpnnjegldafDoor
