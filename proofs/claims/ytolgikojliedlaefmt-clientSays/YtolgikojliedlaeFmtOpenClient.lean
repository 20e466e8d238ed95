/-
  A client among a law's arguments, opened.
-/
import Derived.Test.YtolgikojliedlaeFmtMaths
import Derived.Deep.Strs
import Derived.ChangeArms
import Derived.ChangeSame
import Derived.OpenShut
import Derived.ProofKit
namespace Go.Proofs.YtolgikojliedlaeFmt
open Go Go.RowKit Go.ChangeShapes Go.WideShapes

theorem open_client {H : Type} {enc : TypeId × Value → H} {P : Program} {W : World} {r : Reach} {b0 base : Nat} {held : Bool} {e : TypeId} {f0 f1 g0 g1 g2 : Field} {v : Value} {d : DataW H} {ps : List MemPlace}
    (he : P.underlying e = some (.struct #[f0, f1])) (ce : P.cellsOf e = 4) (o0 : f0.offset = 0) (o1 : f1.offset = 3) (c0 : P.cellsOf f0.type = 3) (c1 : P.cellsOf f1.type = 1)
    (hh : P.underlying f0.type = some (.struct #[g0, g1, g2])) (p0 : g0.offset = 0) (p1 : g1.offset = 1) (p2 : g2.offset = 2) (k0 : P.cellsOf g0.type = 1) (k1 : P.cellsOf g1.type = 1) (k2 : P.cellsOf g2.type = 1)
    (u0 : P.underlying g0.type = some (.int .i64)) (u1 : P.underlying g1.type = some .string) (u2 : P.underlying g2.type = some .string) (ub : P.underlying f1.type = some .bool) (hval : Value.okWide P W r b0 e v) (hd : DataW.Trod enc P W base (fun _ => true) held e v d ps) :
    ∃ (n : Int) (a b : ByteArray) (t : Bool), v = .agg #[.int .i64 n, .string a, .string b, .bool t] ∧ (-9223372036854775808 ≤ n ∧ n ≤ 9223372036854775807) ∧ a.size ≤ 9223372036854775807 ∧ b.size ≤ 9223372036854775807 := by
  obtain ⟨cs, rfl, hsz⟩ := okWide_struct he hval
  obtain ⟨x0, x1, x2, x3, rfl⟩ : ∃ x0 x1 x2 x3, cs = #[x0, x1, x2, x3] := by
    rw [ce] at hsz
    refine ⟨cs[0], cs[1], cs[2], cs[3], ?_⟩
    apply Array.ext
    · simp_all
    · intro i h1 h2
      match i, h2 with
      | 0, _ => rfl
      | 1, _ => rfl
      | 2, _ => rfl
      | 3, _ => rfl
  obtain ⟨fuel, hf⟩ := hd
  obtain ⟨y0, y1, n, _, _, h0, h1⟩ := trod_struct2 he hf
  have h0' : DataW.trod enc P W base (fun _ => true) held n f0.type [x0, x1, x2] = some y0 := by simpa [Value.cells, o0, c0] using h0
  have h1' : DataW.trod enc P W base (fun _ => true) held n f1.type [x3] = some y1 := by simpa [Value.cells, o1, c1] using h1
  obtain ⟨z0, z1, z2, m, _, _, j0, j1, j2⟩ := Go.Deep.trod_struct3 hh h0'
  have j0' : DataW.trod enc P W base (fun _ => true) held m g0.type [x0] = some z0 := by simpa [p0, k0] using j0
  have j1' : DataW.trod enc P W base (fun _ => true) held m g1.type [x1] = some z1 := by simpa [p1, k1] using j1
  have j2' : DataW.trod enc P W base (fun _ => true) held m g2.type [x2] = some z2 := by simpa [p2, k2] using j2
  obtain ⟨k, q0, _, hw⟩ := DataW.trod_int u0 j0'
  obtain ⟨s, q1, _, q3⟩ := DataW.trod_string u1 j1'
  obtain ⟨t, q4, _, q5⟩ := DataW.trod_string u2 j2'
  obtain ⟨b, q6, _⟩ := DataW.trod_bool ub h1'
  injection q0 with q0 _
  injection q1 with q1 _
  injection q4 with q4 _
  injection q6 with q6 _
  subst q0 q1 q4 q6
  simp only [Lit.wf, Bool.and_eq_true, decide_eq_true_eq] at hw
  exact ⟨k, s, t, b, rfl, hw, q3, q5⟩
end Go.Proofs.YtolgikojliedlaeFmt
