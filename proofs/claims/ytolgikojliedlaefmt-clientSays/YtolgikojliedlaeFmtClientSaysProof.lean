/-
  The law ClientSays returns true at every client, head, seals, entry, steps and numbers: a client follows, sees and finds what the document says, errors too. fmt.Sprint and fmt.Sprintf as the told card tells them; the library variables as their initialisers lay them; no other condition.
-/
import Derived.Test.YtolgikojliedlaeFmtCards
import Derived.Test.YtolgikojliedlaeFmtTie
import Derived.Test.YtolgikojliedlaeFmtLaid
import Derived.Test.YtolgikojliedlaeFmtRows
import Derived.Test.YtolgikojliedlaeFmtLawPost
import Derived.Test.YtolgikojliedlaeFmtOpenStrs
import Derived.Test.YtolgikojliedlaeFmtOpenSteps
import Derived.Test.YtolgikojliedlaeFmtOpenHead
import Derived.Test.YtolgikojliedlaeFmtOpenClient
import Derived.Test.YtolgikojliedlaeFmtOpenBook
import Derived.SevenTiedAt
import Derived.JoinedCond
import Derived.Deep.DeepHandedRow
import Derived.SizedLaws
import Derived.Stop.JoinedTold
import Derived.Stop.JoinedAt
import Derived.SevenToldRow
import Derived.Test.YtolgikojliedlaeFmtClientSaysWalk
namespace Go.Proofs.YtolgikojliedlaeFmt.clientSays
open Go Go.ChangeShapes Go.WideShapes Go.ChangeAt Go.RowKit
open Go.ChangeMaps (open_string shut_string)

set_option maxRecDepth 100000 in
theorem contract (H : Type) (enc : TypeId × Value → H) (W : World) (base : Nat) (args : Array Value) (ds gs : List (DataW H)) (before : List MemPlace)
    (hval : ∀ (j : Nat) t v, Tryf.f4.params[j]? = some t → args[j]? = some v → Value.okWide Tryf.prog W .any base t v)
    (hW : DataW.Whole enc Tryf.prog Tryf.f4.params.toList Rows.clientSaysSpec.vars false W args.toList ds gs before) (I : Stop.Interp) (hF : I.told.answers W.tape) (hE : Tab W) (hsz : (DataW.weightsEach Tryf.prog (Tryf.f4.params.toList ++ ([] : List TypeId)) (ds ++ gs)).all (· ≤ reachBytes) = true) :
    Calls Tryf.prog 4 args W fun e W' => ∃ v, e = .returned v ∧ Rows.clientSaysSpec.post enc Tryf.prog Tryf.f4 false true false false W args v W' := by
  have hW' := hW
  obtain ⟨p, q, hA0, hV, rfl, hfz, hnd⟩ := hW
  have hA : DataW.TrodAll enc Tryf.prog W 0 (fun _ => true) true Tryf.f4.params.toList args.toList ds p := hA0
  rw [Tryf.params4] at hA hval hsz
  obtain ⟨rfl, rfl⟩ := trodVars_none hV
  clear hA0 hV
  obtain ⟨v0, vs0, d0, ds0, p0, q0, hargs, rfl, rfl, h0, r0⟩ := trodAll_cons hA
  obtain ⟨v1, vs1, d1, ds1, p1, q1, rfl, rfl, rfl, h1, r1⟩ := trodAll_cons r0
  obtain ⟨v2, vs2, d2, ds2, p2, q2, rfl, rfl, rfl, h2, r2⟩ := trodAll_cons r1
  obtain ⟨v3, vs3, d3, ds3, p3, q3, rfl, rfl, rfl, h3, r3⟩ := trodAll_cons r2
  obtain ⟨v4, vs4, d4, ds4, p4, q4, rfl, rfl, rfl, h4, r4⟩ := trodAll_cons r3
  obtain ⟨v5, vs5, d5, ds5, p5, q5, rfl, rfl, rfl, h5, r5⟩ := trodAll_cons r4
  obtain ⟨v6, vs6, d6, ds6, p6, q6, rfl, rfl, rfl, h6, r6⟩ := trodAll_cons r5
  obtain ⟨rfl, rfl, rfl⟩ := trodAll_nil r6
  obtain rfl : args = #[v0, v1, v2, v3, v4, v5, v6] := by cases args; simp_all
  obtain ⟨na, aa, ba, fa, rfl, _, _, _⟩ := open_client Tryf.underlying54 (by kernel_rfl) rfl rfl (by kernel_rfl) (by kernel_rfl) Tryf.underlying52 rfl rfl rfl (by kernel_rfl) (by kernel_rfl) (by kernel_rfl) Tryf.underlying3 Tryf.underlying9 Tryf.underlying9 Tryf.underlying4 (hval 0 54 v0 rfl rfl) h0
  obtain ⟨nb, ab, bb, rfl, _, _, _⟩ := open_head Tryf.underlying52 (by kernel_rfl) rfl rfl rfl (by kernel_rfl) (by kernel_rfl) (by kernel_rfl) Tryf.underlying3 Tryf.underlying9 Tryf.underlying9 (hval 1 52 v1 rfl rfl) h1
  have hwc : ∀ m ∈ d2.weights Tryf.prog 31, m ≤ reachBytes := fun m hm => of_decide_eq_true (List.all_eq_true.1 hsz m (DataW.weights_mem_each (j := 2) rfl rfl m hm))
  obtain ⟨ac, nc, cc, c, rfl, lc, hc, zc⟩ := open_texts_sized Tryf.underlying31 Tryf.underlying9 (by kernel_rfl) (hval 2 31 v2 rfl rfl) h2 hwc
  obtain ⟨d, rfl, rfl, rfl, hd⟩ := open_int Tryf.underlying3 (hval 3 3 v3 rfl rfl) h3
  simp only [Lit.wf, Bool.and_eq_true, decide_eq_true_eq] at hd
  have hwe : ∀ m ∈ d4.weights Tryf.prog 26, m ≤ reachBytes := fun m hm => of_decide_eq_true (List.all_eq_true.1 hsz m (DataW.weights_mem_each (j := 4) rfl rfl m hm))
  obtain ⟨ke, e, rfl, he, ze⟩ := open_entry Tryf.underlying26 (by kernel_rfl) rfl rfl (by kernel_rfl) (by kernel_rfl) Tryf.underlying3 Tryf.underlying9 (hval 4 26 v4 rfl rfl) h4
  have hwf : ∀ m ∈ d5.weights Tryf.prog 27, m ≤ reachBytes := fun m hm => of_decide_eq_true (List.all_eq_true.1 hsz m (DataW.weights_mem_each (j := 5) rfl rfl m hm))
  obtain ⟨af, nf, cf, f, rfl, lf, hf, zf⟩ := open_steps_sized Tryf.underlying27 Tryf.underlying44 (by kernel_rfl) rfl rfl (by kernel_rfl) (by kernel_rfl) Tryf.underlying4 Tryf.underlying9 (hval 5 27 v5 rfl rfl) h5 hwf
  obtain ⟨g, rfl, rfl, rfl⟩ := open_bool Tryf.underlying4 (hval 6 4 v6 rfl rfl) h6
  have hr47 := reachBytes_lt
  refine (clientSays_walk I na aa ba fa nb ab bb c ac nc cc d ke e f af nf cf g W hE hF lc hc (fun s hs => by have := zc s hs; omega) hd.1 hd.2 he (by have := ze _ hwe; omega) lf hf (fun s hs => by have := zf s hs; omega)).mono fun e W' ⟨he, hg⟩ => ?_
  subst he
  exact ⟨_, rfl, law_post (by kernel_rfl) (by kernel_rfl) Tryf.underlying4 (by kernel_rfl) rfl rfl rfl rfl hW' hg⟩

theorem laid_met (os : Os) : laidMet Tryf.prog Rows.clientSaysRow.laid ((laidWorld os).forCall (fun _ _ => 0) ⟨#[], #[.agg #[.int .i64 0, .string .empty, .string .empty, .bool false], .agg #[.int .i64 0, .string .empty, .string .empty], .slice none 0 0, .int .i64 0, .agg #[.int .i64 0, .string .empty], .slice none 0 0, .bool false], []⟩).memory :=
  laidMet_of_run' 8 (by kernel_rfl) (by kernel_rfl)
theorem reads (os : Os) {H : Type} (enc : TypeId × Value → H) : ∃ places, DataW.whole enc Tryf.prog ((laidWorld os).forCall (fun _ _ => 0) ⟨#[], #[.agg #[.int .i64 0, .string .empty, .string .empty, .bool false], .agg #[.int .i64 0, .string .empty, .string .empty], .slice none 0 0, .int .i64 0, .agg #[.int .i64 0, .string .empty], .slice none 0 0, .bool false], []⟩).memory Tryf.f4.params.toList Rows.clientSaysSpec.vars false (#[.agg #[.int .i64 0, .string .empty, .string .empty, .bool false], .agg #[.int .i64 0, .string .empty, .string .empty], .slice none 0 0, .int .i64 0, .agg #[.int .i64 0, .string .empty], .slice none 0 0, .bool false] : Array Value).toList 8 = some ([.agg [.agg [.lit (.int .i64 0), .lit (.string []), .lit (.string [])], .lit (.bool false)], .agg [.lit (.int .i64 0), .lit (.string []), .lit (.string [])], .nil, .lit (.int .i64 0), .agg [.lit (.int .i64 0), .lit (.string [])], .nil, .lit (.bool false)], [], places) :=
  ⟨[], by kernel_rfl⟩

set_option maxRecDepth 100000 in
theorem lifted (os : Os) (started : os.Started) (H : Type) (enc : TypeId × Value → H) :
    ReturnsInTold none {} Tryf.checked os 4 .any Input.okWide ((OpenSpec.ofChange Rows.clientSaysSpec).preRow enc Tryf.prog Tryf.f4 Rows.clientSaysRow.domain false Rows.clientSaysRow.laid) (fun F => ((OpenSpec.ofChange Rows.clientSaysSpec).at F).post enc Tryf.prog Tryf.f4 false true false false) (aloneAtReturn Tryf.prog) nothingAlways := by
  obtain ⟨places, hx⟩ := reads os enc
  refine returnsInTold_of_row (C := Tryf.checked) (s := OpenSpec.ofChange Rows.clientSaysSpec) (by kernel_rfl) own started (by kernel_rfl) Tryf.func4
    (OpenSpec.witness_stopped_at (enc := enc) (C := Tryf.checked) false (laidWorld os) #[.agg #[.int .i64 0, .string .empty, .string .empty, .bool false], .agg #[.int .i64 0, .string .empty, .string .empty], .slice none 0 0, .int .i64 0, .agg #[.int .i64 0, .string .empty], .slice none 0 0, .bool false] rfl (by kernel_rfl) (by kernel_rfl) (by kernel_rfl)
      (OpenSpec.preRow_of_cond 8 hx (by kernel_rfl) (fun k hk => by cases hk) (by kernel_rfl) (laid_met os))) ?_
  intro F W base args ds gs before _ hF hval hW _ _ hsz hL _
  exact contract H enc W base args ds gs before hval hW F hF (tab_of hL (by simp [Rows.clientSaysRow])) hsz

theorem stops : Tryf.pinned.checked.prog.stops = ["fmt.Sprint", "fmt.Sprintf"] := by kernel_rfl
theorem stopKnobs : Tryf.pinned.checked.prog.stopKnobs = [] := by kernel_rfl
theorem quiet (os : Os) : Stop.quiet Tryf.pinned.checked.prog os := by
  intro k hk
  rw [stopKnobs] at hk
  cases hk

theorem card : Rows.ClientSaysToldSaid :=
  Claim7.holds_of_told_tied_any_at .later 4 Tryf.f4 "fmt.Sprint" ["fmt.Sprintf"] [] _ _ _ _ _ (by kernel_rfl) rfl rfl rfl (by kernel_rfl) (by kernel_rfl) rfl ⟨rfl, rfl, rfl, rfl, rfl, rfl, rfl⟩ rfl rfl (by kernel_rfl) (by kernel_rfl) Tryf.func4 (by kernel_rfl)
    (of_decide_eq_true (by kernel_rfl)) (by unfold Func.isWrapper; first | (rw [if_pos (by decide +kernel)]; kernel_rfl) | (rw [if_neg (by decide +kernel)]; exact ⟨rfl, rfl⟩)) stops.symm rfl stopKnobs.symm (by kernel_rfl)
    (by kernel_rfl) (by kernel_rfl) (by kernel_rfl) (by kernel_rfl) (by kernel_rfl) (by kernel_rfl) (by kernel_rfl) (by kernel_rfl) (by kernel_rfl) rfl (by kernel_rfl) rfl rfl
    rfl rfl
    rfl (by kernel_rfl) (by kernel_rfl) (by kernel_rfl) (by decide) (by kernel_rfl) clientSays_row_tie
    (OpenClaim.moreEntering_of (by kernel_rfl) (by kernel_rfl) (by kernel_rfl) (by kernel_rfl) (by kernel_rfl) (by kernel_rfl) (by kernel_rfl) (by kernel_rfl) (by kernel_rfl) (by kernel_rfl))
    ⟨_, WideRow.started_initial, quiet _⟩
    (fun os started _ H enc _ => lifted os started H enc)
#print axioms card
end Go.Proofs.YtolgikojliedlaeFmt.clientSays
