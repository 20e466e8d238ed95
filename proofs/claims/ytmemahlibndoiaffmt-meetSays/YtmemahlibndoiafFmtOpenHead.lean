/-
  A head among a law's arguments, opened.
-/
import Derived.Test.YtmemahlibndoiafFmtSealMath
import Derived.Deep.Strs
import Derived.ChangeArms
import Derived.OpenShut
import Derived.ProofKit
namespace Go.Proofs.YtmemahlibndoiafFmt
open Go Go.RowKit Go.ChangeShapes Go.WideShapes

theorem open_head {H : Type} {enc : TypeId × Value → H} {P : Program} {W : World} {r : Reach} {b0 base : Nat} {held : Bool} {e : TypeId} {f0 f1 f2 : Field} {v : Value} {d : DataW H} {ps : List MemPlace}
    (he : P.underlying e = some (.struct #[f0, f1, f2])) (ce : P.cellsOf e = 3) (o0 : f0.offset = 0) (o1 : f1.offset = 1) (o2 : f2.offset = 2) (c0 : P.cellsOf f0.type = 1) (c1 : P.cellsOf f1.type = 1) (c2 : P.cellsOf f2.type = 1)
    (u0 : P.underlying f0.type = some (.int .i64)) (u1 : P.underlying f1.type = some .string) (u2 : P.underlying f2.type = some .string) (hval : Value.okWide P W r b0 e v) (hd : DataW.Trod enc P W base (fun _ => true) held e v d ps) :
    ∃ (n : Int) (a b : ByteArray), v = .agg #[.int .i64 n, .string a, .string b] ∧ (-9223372036854775808 ≤ n ∧ n ≤ 9223372036854775807) ∧ a.size ≤ 9223372036854775807 ∧ b.size ≤ 9223372036854775807 := by
  obtain ⟨cs, rfl, hsz⟩ := okWide_struct he hval
  obtain ⟨x0, x1, x2, rfl⟩ : ∃ x0 x1 x2, cs = #[x0, x1, x2] := by
    rw [ce] at hsz
    refine ⟨cs[0], cs[1], cs[2], ?_⟩
    apply Array.ext
    · simp_all
    · intro i h1 h2
      match i, h2 with
      | 0, _ => rfl
      | 1, _ => rfl
      | 2, _ => rfl
  obtain ⟨fuel, hf⟩ := hd
  obtain ⟨y0, y1, y2, n, _, _, h0, h1, h2⟩ := Go.Deep.trod_struct3 he hf
  have h0' : DataW.trod enc P W base (fun _ => true) held n f0.type [x0] = some y0 := by simpa [Value.cells, o0, c0] using h0
  have h1' : DataW.trod enc P W base (fun _ => true) held n f1.type [x1] = some y1 := by simpa [Value.cells, o1, c1] using h1
  have h2' : DataW.trod enc P W base (fun _ => true) held n f2.type [x2] = some y2 := by simpa [Value.cells, o2, c2] using h2
  obtain ⟨k, q0, _, hw⟩ := DataW.trod_int u0 h0'
  obtain ⟨s, q1, _, q3⟩ := DataW.trod_string u1 h1'
  obtain ⟨t, q4, _, q5⟩ := DataW.trod_string u2 h2'
  injection q0 with q0 _
  injection q1 with q1 _
  injection q4 with q4 _
  subst q0 q1 q4
  simp only [Lit.wf, Bool.and_eq_true, decide_eq_true_eq] at hw
  exact ⟨k, s, t, rfl, hw, q3, q5⟩
end Go.Proofs.YtmemahlibndoiafFmt
