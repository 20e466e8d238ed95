/-
  Contracts of package book: with, Put.
-/
import Derived.Test.YtmemahlibndoiafFmtBookVals
import Derived.Test.YtmemahlibndoiafFmtBlocks
import Derived.Laws.CopyOwn
import Derived.Deep.MidRow
import Derived.Laws.ResultCell
import Derived.Laws.Rows
import Derived.Deep.DeepCutAuto
namespace Go.Proofs.YtmemahlibndoiafFmt
open Go Go.RowKit Go.Maps

/- A copy of elements of two cells to the head of a row of one's own. -/
theorem run_copy_pairs {P : Program} {w : World} {base : Nat} {e dT sT ty : TypeId} {g m cap : Nat} {xs : List Value} (h : w.ownsRow base e 2 (.slice (some ⟨g, 0, none⟩) m cap) m xs)
    (hu : P.underlying dT = some (.slice e)) (hs : (P.info? e).map (·.size) = some 2) (a : Option Addr) (n c : Nat) (cs : List Value) (hn : cs.length = n * 2) (hnm : n ≤ m)
    (hsrc : 0 < n → ∃ ad, a = some ad ∧ ∀ j v, cs[j]? = some v → w.cell? (ad.add j) = some v) (h1 : ∀ v ∈ cs, v.oneCell' = true) :
    ∃ w', (Builtin.copy_ #[dT, sT] ty #[.slice (some ⟨g, 0, none⟩) m cap, .slice a n c]).run P w = .ok (goInt n) w' ∧ w'.ownsRow base e 2 (.slice (some ⟨g, 0, none⟩) m cap) m (cs ++ xs.drop (n * 2)) ∧ w.grownBy w' (some g) := by
  have hx := h.1
  rcases h.2 with ⟨he, _⟩ | ⟨g', cap', cur, he, hb, hg, hnc, hm, hsz, hcur⟩
  · cases he
  injection he with e1 _ e3
  injection e1 with e1
  injection e1 with e1 _ _
  subst e1 e3
  have hmin : Nat.min n m = n := Nat.min_eq_left hnm
  cases hq : P.info? e with
  | none => simp [hq] at hs
  | some i =>
    have hi : i.size = 2 := by simpa [hq] using hs
    rcases Nat.eq_zero_or_pos n with h0 | h0
    · subst h0
      obtain rfl : cs = [] := List.eq_nil_of_length_eq_zero (by omega)
      have hl : ∀ (x : Addr), (loadCells x 0).run P w = .ok #[] w := fun x => by simpa using run_loadCells_list (P := P) w x [] (by simp)
      refine ⟨w, ?_, by simpa using h, ⟨rfl, rfl, rfl, Nat.le_refl _, fun _ _ _ => rfl⟩⟩
      cases a <;> simp [Builtin.copy_, run_underlying hu, Builtin.lenOf, Builtin.firstCells, sizeOf, typeInfo, hq, storeCells, hl]
    · obtain ⟨ad, rfl, hsr⟩ := hsrc h0
      have hl := run_loadCells_list (P := P) w ad cs hsr
      have hst := run_storeCells_at P g 0 e cs 0 cur w hg (by rw [hsz, hn]; omega) h1
      refine ⟨w.setRow g (cs ++ cur.toList.drop (n * 2)).toArray, ?_, ⟨by rw [List.length_append, List.length_drop, hx, hn]; omega, .inr ⟨g, cap, _, rfl, hb, setRow_heap w g _ _ e _ hg, hnc, hm, ?_, ?_⟩⟩, ⟨rfl, rfl, rfl, by simp [World.setRow], fun k _ hk => setRow_other w g k _ (fun e => hk (by rw [e]))⟩⟩
      · rw [hn] at hl hst
        simp only [Nat.zero_add, List.take_zero, List.nil_append] at hst
        simp [Builtin.copy_, run_underlying hu, Builtin.lenOf, Builtin.firstCells, sizeOf, typeInfo, hq, hi, hmin, hl, hst]
      · simp [hn, hsz]; try omega
      · rw [← hcur]
        simp only [List.drop_take]
        rw [List.take_append, hn, List.take_of_length_le (by rw [hn]; omega)]
        try congr 2
theorem wpList_copy_pairs {P : Program} {w : World} {ops : Array Oper} {rest : List Oper} {o : Oper} {act : Act} {Q : Exit → Act → World → Prop} (hgd : o.guard = none) (d s : Operand) (dT sT : TypeId)
    (ho : o.op = .call { callee := .builtin .copy, args := #[d, s], argTypes := #[dT, sT] }) {base : Nat} {e : TypeId} {g m cap : Nat} {xs : List Value} (h : w.ownsRow base e 2 (.slice (some ⟨g, 0, none⟩) m cap) m xs)
    (hu : P.underlying dT = some (.slice e)) (hs : (P.info? e).map (·.size) = some 2) (a : Option Addr) (n c : Nat) (hd : act.eval d = .slice (some ⟨g, 0, none⟩) m cap) (hsv : act.eval s = .slice a n c) (cs : List Value) (hn : cs.length = n * 2) (hnm : n ≤ m)
    (hsrc : 0 < n → ∃ ad, a = some ad ∧ ∀ j v, cs[j]? = some v → w.cell? (ad.add j) = some v) (h1 : ∀ v ∈ cs, v.oneCell' = true)
    (hK : ∀ w', w'.ownsRow base e 2 (.slice (some ⟨g, 0, none⟩) m cap) m (cs ++ xs.drop (n * 2)) → w.grownBy w' (some g) → wpList P ops Q rest (act.put o.dst (goInt n)) w') : wpList P ops Q (o :: rest) act w := by
  obtain ⟨w', hr, h2, h3⟩ := run_copy_pairs (dT := dT) (sT := sT) (ty := o.type) h hu hs a n c cs hn hnm hsrc h1
  refine wpList_plain hgd fun _ hKK => ?_
  unfold Oper.wp
  simp [execOp, ho, resolve, invoke, builtin, hd, hsv, hr, Result.andThen]
  exact hKK _ _ (hK w' h2 h3)

/- A store of an element of two cells into a row of one's own. -/
theorem own_pair {w : World} {base : Nat} {e : TypeId} {g m cap : Nat} {xs : List Value} (h : w.ownsRow base e 2 (.slice (some ⟨g, 0, none⟩) m cap) m xs) (j : Nat) (hj : j < m) (u v : Value) :
    w.there g (j * 2) 2 ∧ (w.setCells g (j * 2) [u, v]).ownsRow base e 2 (.slice (some ⟨g, 0, none⟩) m cap) m ((xs.set (j * 2) u).set (j * 2 + 1) v) ∧ w.grownBy (w.setCells g (j * 2) [u, v]) (some g) := by
  obtain ⟨h1, g1⟩ := h.stored (j * 2) u
  obtain ⟨h2, g2⟩ := h1.stored (j * 2 + 1) v
  refine ⟨fun i hi => ⟨?_, h.frozenAt _⟩, h2, g1.trans g2⟩
  rcases h.2 with ⟨he, _⟩ | ⟨g', cap', cur, he, hb, hg, hnc, hm, hsz, hcur⟩
  · cases he
  injection he with e1 _ e3
  injection e1 with e1
  injection e1 with e1 _ _
  subst e1 e3
  unfold World.cell?
  simp only [hg]
  have : j * 2 + i < cur.size := by omega
  simp [this]

theorem cells_snoc {l : List EntB} {n : Nat} (hn : l.length = n) (x : EntB) (ys : List Value) (hy : ys.length = 2) : (((entCells l ++ ys).set (n * 2) (.int .i64 x.1)).set (n * 2 + 1) (.string x.2)) = entCells (l ++ [x]) := by
  have hl := entCells_len l
  rw [hn] at hl
  obtain ⟨a, b, rfl⟩ : ∃ a b, ys = [a, b] := by
    match ys, hy with
    | [a, b], _ => exact ⟨a, b, rfl⟩
  rw [entCells_app, List.set_append_right _ _ (by omega), hl, Nat.sub_self, List.set_append_right _ _ (by omega), hl, show n * 2 + 1 - n * 2 = 1 by omega]
  rfl

theorem wide_snoc {l : List EntB} (h : ∀ e ∈ l, WideEnt e) {x : EntB} (hx : WideEnt x) : ∀ e ∈ l ++ [x], WideEnt e := by
  intro e he
  rcases List.mem_append.1 he with he | he
  · exact h e he
  · rw [List.mem_singleton.1 he]; exact hx

theorem EntsAt.grown {w w' : World} {a : Option Addr} {c : Nat} {l : List EntB} {row : Option Nat} (h : EntsAt w a c l) (hg : w.grownBy w' row) (hne : ∀ b off, a = some ⟨b, off, none⟩ → row ≠ some b) : EntsAt w' a c l := by
  refine ⟨h.cap, h.max, h.sz, fun hp => ?_⟩
  obtain ⟨b, off, ha, hlt, hc⟩ := h.cells hp
  refine ⟨b, off, ha, Nat.lt_of_lt_of_le hlt hg.size, fun i hi => ?_⟩
  have key : ∀ j, w'.cell? ⟨b, j, none⟩ = w.cell? ⟨b, j, none⟩ := fun j => World.cell?_of_block (w := w) (hg.block b hlt (fun e => hne b off ha e.symm))
  rw [key, key]
  exact hc i hi
