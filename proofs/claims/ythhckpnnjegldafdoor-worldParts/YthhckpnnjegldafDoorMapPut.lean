/-
  A map of texts by numbers that a call makes and writes.
-/
import Derived.Test.YthhckpnnjegldafDoorMapAt
namespace Go.Proofs.YthhckpnnjegldafDoor
open Go Go.RowKit Go.Maps

section
variable (w : World) {ops : Array Oper} {rest : List Oper} {o : Oper} {a : Act} {Q : Exit → Act → World → Prop}
theorem wp_insert {K : Act → World → Prop} (m x v : Operand) (hop : o.op = Op.insert 61 m x v) (b n : Nat) (D : DataW Unit) (hm : a.eval m = .map (some b)) (hown : w.ownsMap Tryd.prog 3 (plainElem Tryd.prog 9) b n D) (hn : n < maxLen)
    (k : Int) (hx : a.eval x = .int .i64 k) (hk : -9223372036854775808 ≤ k) (hk' : k ≤ 9223372036854775807) (s : ByteArray) (hv : a.eval v = .string s) (hs : s.size ≤ maxLen)
    (hK : ∀ w', w'.ownsMap Tryd.prog 3 (plainElem Tryd.prog 9) b (n + 1) (D.put (.int .i64 k) (.lit (.string s.data.toList))) → w.grownBy w' (some b) → K (a.put o.dst undef) w') :
    o.wp Tryd.prog a w K Q := by
  obtain ⟨w', hrun, r1, r2⟩ := hown.update keyed Tryd.underlying61 hn (keyIs hk hk') (plainElem_string Tryd.underlying9 hs)
  unfold Oper.wp
  simp [execOp, hop, hm, hx, hv, hrun, Result.andThen]
  exact hK w' r1 r2
theorem wpList_insert (hg : o.guard = none) (m x v : Operand) (hop : o.op = Op.insert 61 m x v) (b n : Nat) (D : DataW Unit) (hm : a.eval m = .map (some b)) (hown : w.ownsMap Tryd.prog 3 (plainElem Tryd.prog 9) b n D) (hn : n < maxLen)
    (k : Int) (hx : a.eval x = .int .i64 k) (hk : -9223372036854775808 ≤ k) (hk' : k ≤ 9223372036854775807) (s : ByteArray) (hv : a.eval v = .string s) (hs : s.size ≤ maxLen)
    (hK : ∀ w', w'.ownsMap Tryd.prog 3 (plainElem Tryd.prog 9) b (n + 1) (D.put (.int .i64 k) (.lit (.string s.data.toList))) → w.grownBy w' (some b) → wpList Tryd.prog ops Q rest (a.put o.dst undef) w') :
    wpList Tryd.prog ops Q (o :: rest) a w :=
  wpList_plain hg fun _ hK' => wp_insert w m x v hop b n D hm hown hn k hx hk hk' s hv hs (fun w' h1 h2 => hK' _ _ (hK w' h1 h2))
theorem wp_look1 {K : Act → World → Prop} (m x : Operand) (hop : o.op = Op.lookup 61 m x false) (p : Option Nat) (D : DataW Unit) (hm : a.eval m = .map p) (hM : MapAt w p D) (k : Int) (hx : a.eval x = .int .i64 k)
    (hk : -9223372036854775808 ≤ k) (hk' : k ≤ 9223372036854775807) (hK : K (a.put o.dst (.string (valS D k))) w) :
    o.wp Tryd.prog a w K Q := by
  unfold Oper.wp
  simp [execOp, hop, hm, hx, hM.look1 hk hk', Result.andThen]
  exact hK
end

theorem made_owns (w : World) : (w.alloc (.map #[] 0)).ownsMap Tryd.prog 3 (plainElem (H := Unit) Tryd.prog 9) w.heap.size 0 (.map []) := World.ownsMap_made w _ _ _
theorem made_below {w w' : World} (hg : (w.alloc (.map #[] 0)).grownBy w' (some w.heap.size)) : Below w.heap.size w w' :=
  ((Below.refl w.heap.size w).alloc (Nat.le_refl _) _).grown hg (by show _ ≤ (w.heap.push _).size; rw [Array.size_push]; omega) (fun j hj => by cases hj; exact Nat.le_refl _)
theorem MapAt.of {w : World} {b n : Nat} {D : DataW Unit} (h : w.ownsMap Tryd.prog 3 (plainElem Tryd.prog 9) b n D) : MapAt w (some b) D := .inr ⟨b, n, rfl, h⟩
end Go.Proofs.YthhckpnnjegldafDoor
