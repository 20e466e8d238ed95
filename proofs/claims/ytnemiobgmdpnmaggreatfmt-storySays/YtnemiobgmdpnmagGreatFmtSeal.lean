/-
  Contracts of package seal over this seat's dump: Leaf, Node, Open, Split, None, and what the world must hold for them.
-/
import Derived.Test.YtnemiobgmdpnmagGreatFmtShelf
import Derived.Test.YtnemiobgmdpnmagGreatFmtMaths
import Derived.WalkKit
import Derived.WalkLawsBesides
import Derived.Sort.Grow
import Derived.Lib.AtoiErrMem
import Derived.Lib.Hide
import Derived.Lib.CutLaws
import Derived.Deep.QuietTactic
import Derived.BigQuiet
namespace Go.Proofs.YtnemiobgmdpnmagGreatFmt
open Go Go.RowKit

theorem below_drew (w : World) : Below w.heap.size w w.drew := ⟨rfl, rfl, rfl, Nat.le_refl _, fun _ _ => rfl⟩

/- What the library reads of its own variables, in whatever world: the table of powers; and the two errors. -/
structure Tab (w : World) : Prop where
  tab : Lib.TabIs Tryz.prog w "internal/strconv.uint64pow10" .u64 Lib.pow10Tab
structure Env (w : World) : Prop extends Tab w where
  syn : ∃ tp p, w.var? Tryz.prog "strconv.ErrSyntax" = some #[.iface tp p]
  rng : ∃ tp p, w.var? Tryz.prog "strconv.ErrRange" = some #[.iface tp p]

theorem var_kept {w w' : World} {n : String} {cs : Array Value} (h : Below w.heap.size w w') (hv : w.var? Tryz.prog n = some cs) : w'.var? Tryz.prog n = some cs := by
  unfold World.var? at hv ⊢
  cases hg : Tryz.prog.globalNamed n with
  | none => rw [hg] at hv; simp at hv
  | some g =>
    rw [hg] at hv
    simp only [Option.bind_some] at hv ⊢
    have hlt : g < w.heap.size := by
      refine Classical.byContradiction fun hn => ?_
      rw [Array.getElem?_eq_none (by omega)] at hv
      simp at hv
    rw [h.block g hlt]
    exact hv

theorem Tab.on {w w' : World} (h : Tab w) (hb : Below w.heap.size w w') : Tab w' := ⟨var_kept hb h.tab⟩
theorem Env.on {w w' : World} (h : Env w) (hb : Below w.heap.size w w') : Env w' := by
  obtain ⟨t, ⟨tp, p, hs⟩, tp', p', hr⟩ := h
  exact ⟨t.on hb, ⟨tp, p, var_kept hb hs⟩, tp', p', var_kept hb hr⟩

theorem below_grow (w : World) (k : Nat) (os : Array Obj) : Below w.heap.size w (Sort.grow (w.drewN k) os) :=
  ⟨rfl, rfl, rfl, by simp, fun i hi => Sort.heap_grow_old (w.drewN k) os hi⟩

theorem below_on {a b c : World} (h : Below a.heap.size a b) (k : Below b.heap.size b c) : Below a.heap.size a c :=
  h.trans (k.mono h.size)

/- strconv.Itoa, with the frame. -/
theorem itoa_any (n : Nat) (hn : n ≤ 9223372036854775807) (w : World) (hE : Tab w) :
    Calls Tryz.prog 58 #[.int .i64 (n : Int)] w fun e w' => e = .returned (.string (itoaB n)) ∧ Below w.heap.size w w' := by
  refine (Tryz.strconv_Itoa (n : Int) (by omega) (by omega) w hE.tab).mono ?_
  rintro e w' ⟨rfl, k, os, rfl⟩
  exact ⟨rfl, below_grow w k os⟩

theorem leaf_ok (s : ByteArray) (w : World) (h : s.size ≤ 20000) :
    Calls Tryz.prog 46 #[.string s] w fun e w' => e = .returned (.tuple #[.string (leafS s), .int .i64 0]) ∧ w = w' := by
  go_enter Tryz.func46, Tryz.ntmps46
  go_wp2
  go_ret2
  exact ⟨rfl, rfl⟩
theorem leaf_many (s : ByteArray) (w : World) (h : 20000 < s.size) :
    Calls Tryz.prog 46 #[.string s] w fun e w' => e = .returned (.tuple #[.string ⟨#[]⟩, .int .i64 2]) ∧ w = w' := by
  go_enter Tryz.func46, Tryz.ntmps46
  go_wp2
  go_ret2
  exact ⟨rfl, rfl⟩

theorem node_tab (a b : ByteArray) (w : World) (hE : Tab w) (h : a.size + b.size ≤ 20000) :
    Calls Tryz.prog 57 #[.string a, .string b] w fun e w' => e = .returned (.tuple #[.string (nodeS a b), .int .i64 0]) ∧ Below w.heap.size w w' := by
  have hi := itoaB_le5 a.size (by omega)
  go_enter Tryz.func57, Tryz.ntmps57
  go_wp2_with fail
  refine (itoa_any a.size (by omega) w hE).mono ?_
  rintro e w1 ⟨rfl, hb⟩
  go_wp2
  go_ret2
  exact ⟨rfl, hb⟩
theorem node_ok (a b : ByteArray) (w : World) (hE : Env w) (h : a.size + b.size ≤ 20000) :
    Calls Tryz.prog 57 #[.string a, .string b] w fun e w' => e = .returned (.tuple #[.string (nodeS a b), .int .i64 0]) ∧ Below w.heap.size w w' := node_tab a b w hE.toTab h
theorem node_many (a b : ByteArray) (w : World) (hb : b.size ≤ 9223372036854775807) (h : 20000 < a.size + b.size) :
    Calls Tryz.prog 57 #[.string a, .string b] w fun e w' => e = .returned (.tuple #[.string ⟨#[]⟩, .int .i64 2]) ∧ w = w' := by
  go_enter Tryz.func57, Tryz.ntmps57
  go_wp2
  go_ret2
  exact ⟨rfl, rfl⟩

theorem none_any (w : World) :
    Calls Tryz.prog 45 #[] w fun e w' => e = .returned (.string noneS) ∧ w = w' := by
  go_enter Tryz.func45, Tryz.ntmps45
  go_wp2
  go_ret
  exact ⟨rfl, rfl⟩

/- strings.CutPrefix at a mark of one byte. -/


/- strings.Cut at a colon. -/

/- How strconv.Atoi ends. -/

/- length: the number that was written so. -/


theorem mk_size (l : List UInt8) : (⟨l.toArray⟩ : ByteArray).size = l.length := by rw [ba_size]

theorem cut_le (l : List UInt8) : (Lib.cut l [58]).1.length ≤ l.length ∧ (Lib.cut l [58]).2.1.length ≤ l.length := by
  unfold Lib.cut
  split
  · simp only [List.length_take, List.length_drop]; omega
  · simp

theorem ext_take (r : List UInt8) (n : Nat) : (⟨r.toArray⟩ : ByteArray).extract 0 n = ⟨(r.take n).toArray⟩ := by
  rw [Lib.extract_eq]; simp
theorem ext_drop (r : List UInt8) (n : Nat) : (⟨r.toArray⟩ : ByteArray).extract n r.length = ⟨(r.drop n).toArray⟩ := by
  rw [Lib.extract_eq]
  rw [List.take_of_length_le (by simp)]



/- The closed fact 'sealed' of the statements. -/

/- The same, without a case. -/
theorem leaf_any (s : ByteArray) (w : World) :
    Calls Tryz.prog 46 #[.string s] w fun e w' => e = .returned (.tuple #[.string (leafV s), .int .i64 (leafE s)]) ∧ w = w' := by
  by_cases h : s.size ≤ 20000
  · rw [(leaf_pos h).1, (leaf_pos h).2]; exact leaf_ok s w h
  · rw [(leaf_neg h).1, (leaf_neg h).2]; exact leaf_many s w (by omega)
theorem node_any (a b : ByteArray) (w : World) (hE : Env w) (hb : b.size ≤ 9223372036854775807) :
    Calls Tryz.prog 57 #[.string a, .string b] w fun e w' => e = .returned (.tuple #[.string (nodeV a b), .int .i64 (nodeE a b)]) ∧ Below w.heap.size w w' := by
  by_cases h : a.size + b.size ≤ 20000
  · rw [(node_pos h).1, (node_pos h).2]; exact node_ok a b w hE h
  · rw [(node_neg h).1, (node_neg h).2]
    refine (node_many a b w hb (by omega)).mono ?_
    rintro e w' ⟨rfl, rfl⟩
    exact ⟨rfl, Below.refl _ _⟩