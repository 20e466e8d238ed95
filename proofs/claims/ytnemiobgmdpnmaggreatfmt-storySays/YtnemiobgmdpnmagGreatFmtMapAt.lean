/-
  A map of texts by numbers in memory, or none: asked for a key, counted, written, opened as an argument.
-/
import Derived.Test.YtnemiobgmdpnmagGreatFmtTree
import Derived.Test.YtnemiobgmdpnmagGreatFmtMaths
import Derived.WideKeyElems2
import Derived.ProofKit
namespace Go.Proofs.YtnemiobgmdpnmagGreatFmt
open Go Go.RowKit Go.Maps Go.ChangeShapes Go.WideShapes

theorem keyed : Keyed Tryz.prog 3 := int_keyed Tryz.underlying3
theorem zeroText (w : World) : (zeroValue 9).run Tryz.prog w = .ok (.string ⟨#[]⟩) w := by kernel_rfl
theorem keyIs {k : Int} (h : -9223372036854775808 ≤ k) (h' : k ≤ 9223372036854775807) : keyOf Tryz.prog 3 (.int .i64 k) = some (.int .i64 k) :=
  keyOf_int_mk Tryz.underlying3 (by simp [Lit.wf, IntKind.min, IntKind.max, IntKind.signed, IntKind.bits]; omega)

def MapAt (w : World) (p : Option Nat) (D : DataW Unit) : Prop :=
  (p = none ∧ D = .nil) ∨ ∃ b n, p = some b ∧ w.ownsMap Tryz.prog 3 (plainElem Tryz.prog 9) b n D

theorem MapAt.on {w w' : World} {p : Option Nat} {D : DataW Unit} (h : MapAt w p D) (hb : Below w.heap.size w w') : MapAt w' p D := by
  rcases h with h | ⟨b, n, rfl, ho⟩
  · exact .inl h
  · refine .inr ⟨b, n, rfl, ?_⟩
    have hlt := ho.lt
    obtain ⟨es, clock, h1, r⟩ := ho
    exact ⟨es, clock, by rw [hb.block b hlt]; exact h1, r⟩

theorem owns_keys {w : World} {b n : Nat} {es : List (Lit × DataW Unit)} (h : w.ownsMap Tryz.prog 3 (plainElem Tryz.prog 9) b n (.map es)) : ∀ p ∈ es, ∃ k, p.1 = .int .i64 k := by
  obtain ⟨xs, clock, _, F, _, hD⟩ := h
  injection hD with hD
  subst hD
  intro p hp
  obtain ⟨x, hx, rfl⟩ := List.mem_map.1 (mem_sorted.1 hp)
  obtain ⟨y, hy⟩ := F.reads x hx
  rw [Go.WideElems.rg_of hy]
  obtain ⟨k, _, hk, _⟩ := keyOf_int_inv Tryz.underlying3 (Go.WideElems.rd_key hy)
  exact ⟨k, hk⟩

theorem MapAt.text {w : World} {p : Option Nat} {D : DataW Unit} (h : MapAt w p D) : TextMap D := by
  rcases h with ⟨_, rfl⟩ | ⟨b, n, _, ho⟩
  · exact TextMap.nil
  · exact ⟨.inr (ho.canon keyed), fun es e => owns_keys (e ▸ ho)⟩

theorem MapAt.size {w : World} {p : Option Nat} {D : DataW Unit} (h : MapAt w p D) : Maps.size D ≤ 9223372036854775807 := by
  rcases h with ⟨_, rfl⟩ | ⟨b, n, _, ho⟩
  · exact Nat.zero_le _
  · obtain ⟨es, clock, _, F, _, rfl⟩ := ho
    have h1 := F.size
    unfold maxLen at h1
    simp only [Maps.size, length_sorted, List.length_map, Array.length_toList]
    exact h1

/- Asked for a key. -/
theorem MapAt.look {w : World} {p : Option Nat} {D : DataW Unit} (h : MapAt w p D) {k : Int} (hk : -9223372036854775808 ≤ k) (hk' : k ≤ 9223372036854775807) :
    (Instr.lookup 64 (.map p) (.int .i64 k) true).run Tryz.prog w = .ok (.tuple #[.string (valS D k), .bool (valD D k).isSome]) w ∧ (valS D k).size ≤ 9223372036854775807 := by
  rcases h with ⟨rfl, rfl⟩ | ⟨b, n, rfl, ho⟩
  · exact ⟨look_nil (w := w) true keyed Tryz.underlying64 (zeroText _) (keyIs hk hk'), by rw [valD_none (valD_nil k)]; decide⟩
  · obtain ⟨v, ps, hrun, hv⟩ := ho.look_ok keyed Tryz.underlying64 (zeroText _) (plainElem_string Tryz.underlying9 (by decide)) (keyIs hk hk')
    obtain ⟨s, rfl, hz, hs⟩ := plainElem_string_inv Tryz.underlying9 hv
    have e : valS D k = s := by
      rw [valS_eq]
      have e1 := congrArg Prod.fst hz
      have e2 : D.atKey (.int .i64 k) (.lit (.string [])) = .lit (.string s.data.toList) := e1
      rw [e2]; rfl
    rw [e, valD_isSome]
    exact ⟨hrun, hs⟩
theorem MapAt.val_size {w : World} {p : Option Nat} {D : DataW Unit} (h : MapAt w p D) {k : Int} (hk : -9223372036854775808 ≤ k) (hk' : k ≤ 9223372036854775807) : (valS D k).size ≤ 9223372036854775807 := (h.look hk hk').2
theorem MapAt.look1 {w : World} {p : Option Nat} {D : DataW Unit} (h : MapAt w p D) {k : Int} (hk : -9223372036854775808 ≤ k) (hk' : k ≤ 9223372036854775807) :
    (Instr.lookup 64 (.map p) (.int .i64 k) false).run Tryz.prog w = .ok (.string (valS D k)) w := by
  rcases h with ⟨rfl, rfl⟩ | ⟨b, n, rfl, ho⟩
  · exact look_nil (w := w) false keyed Tryz.underlying64 (zeroText _) (keyIs hk hk')
  · obtain ⟨v, ps, hrun, hv⟩ := ho.lookup keyed Tryz.underlying64 (zeroText _) (plainElem_string Tryz.underlying9 (by decide)) (keyIs hk hk')
    obtain ⟨s, rfl, hz, hs⟩ := plainElem_string_inv Tryz.underlying9 hv
    have e : valS D k = s := by
      rw [valS_eq]
      have e1 := congrArg Prod.fst hz
      have e2 : D.atKey (.int .i64 k) (.lit (.string [])) = .lit (.string s.data.toList) := e1
      rw [e2]; rfl
    rw [e]
    exact hrun
theorem MapAt.len {w : World} {p : Option Nat} {D : DataW Unit} (h : MapAt w p D) (ty : TypeId) : (Builtin.len_ #[64] ty #[.map p]).run Tryz.prog w = .ok (.int .i64 (Maps.size D)) w := by
  rcases h with ⟨rfl, rfl⟩ | ⟨b, n, rfl, ho⟩
  · exact len_nil Tryz.underlying64 ty
  · exact ho.len Tryz.underlying64 ty

section
variable (w : World) {ops : Array Oper} {rest : List Oper} {o : Oper} {a : Act} {Q : Exit → Act → World → Prop}
theorem wpList_look (hg : o.guard = none) (m x : Operand) (hop : o.op = Op.lookup 64 m x true) (p : Option Nat) (D : DataW Unit) (hm : a.eval m = .map p) (hM : MapAt w p D) (k : Int) (hx : a.eval x = .int .i64 k)
    (hk : -9223372036854775808 ≤ k) (hk' : k ≤ 9223372036854775807) (hK : wpList Tryz.prog ops Q rest (a.put o.dst (.tuple #[.string (valS D k), .bool (valD D k).isSome])) w) :
    wpList Tryz.prog ops Q (o :: rest) a w := by
  refine wpList_plain hg fun K' hK' => ?_
  unfold Oper.wp
  simp [execOp, hop, hm, hx, (hM.look hk hk').1, Result.andThen]
  exact hK' _ _ hK
theorem wpList_look1 (hg : o.guard = none) (m x : Operand) (hop : o.op = Op.lookup 64 m x false) (p : Option Nat) (D : DataW Unit) (hm : a.eval m = .map p) (hM : MapAt w p D) (k : Int) (hx : a.eval x = .int .i64 k)
    (hk : -9223372036854775808 ≤ k) (hk' : k ≤ 9223372036854775807) (hK : wpList Tryz.prog ops Q rest (a.put o.dst (.string (valS D k))) w) :
    wpList Tryz.prog ops Q (o :: rest) a w := by
  refine wpList_plain hg fun K' hK' => ?_
  unfold Oper.wp
  simp [execOp, hop, hm, hx, hM.look1 hk hk', Result.andThen]
  exact hK' _ _ hK
theorem wpList_count (hg : o.guard = none) (m : Operand) (hop : o.op = Op.call { callee := Callee.builtin Builtin.len, args := #[m], argTypes := #[64] }) (p : Option Nat) (D : DataW Unit) (hm : a.eval m = .map p) (hM : MapAt w p D)
    (hK : wpList Tryz.prog ops Q rest (a.put o.dst (.int .i64 (Maps.size D))) w) :
    wpList Tryz.prog ops Q (o :: rest) a w := by
  refine wpList_plain hg fun K' hK' => ?_
  unfold Oper.wp
  simp [execOp, hop, resolve, invoke, builtin, hm, hM.len o.type, Result.andThen]
  exact hK' _ _ hK
end

/- A map among a law's arguments, opened. -/
set_option maxRecDepth 100000 in
theorem open_texts_map {H : Type} {enc : TypeId × Value → H} {W : World} {r : Reach} {b0 base : Nat} {held : Bool} {v : Value} {d : DataW H} {ps : List MemPlace}
    (hval : Value.okWide Tryz.prog W r b0 64 v) (hd : DataW.Trod enc Tryz.prog W base (fun _ => true) held 64 v d ps) :
    ∃ (p : Option Nat) (D : DataW Unit), v = .map p ∧ MapAt W p D := by
  obtain ⟨p, rfl⟩ := okWide_map Tryz.underlying64 hval
  obtain ⟨fuel, hf⟩ := hd
  rcases Go.WideElems.open_map Tryz.underlying64 hf with ⟨hcs, _⟩ | ⟨b, es, clock, n, rfl, hcs, hb, _, F, _⟩
  · simp [Value.cells] at hcs
    exact ⟨p, .nil, rfl, .inl ⟨hcs, rfl⟩⟩
  · simp [Value.cells] at hcs
    subst hcs
    refine ⟨some b, _, rfl, .inr ⟨b, es.size, rfl, es, clock, hb, ⟨F.size, F.stamped, fun x hx => ?_⟩, Nat.le_refl _, rfl⟩⟩
    obtain ⟨y, hy⟩ := F.reads x hx
    obtain ⟨z, hz, _⟩ := Go.WideElems.rd_val hy
    obtain ⟨s, hs, _, hl⟩ := Go.WideElems.elemAt_string Tryz.underlying9 hz
    have hk := Go.WideElems.rd_key hy
    refine ⟨(y.1, .lit (.string s.data.toList)), ?_⟩
    unfold Go.WideElems.rd
    rw [hk, hs, plainElem_string Tryz.underlying9 hl]
    rfl
end Go.Proofs.YtnemiobgmdpnmagGreatFmt
