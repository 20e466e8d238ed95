/-
  DERIVED. GIVEN WITH THE SEED: THE CARDS: each row of YthhckpnnjegldafGreatFmtRows.lean that lists a variable, with what it lists TIED to the program's text (the seventh form; the later family's looks); each row that meets fmt, with fmt's text TOLD by the authors' own Lean function (tested against real Go, not proved from fmt's source: count such statements apart). THE CARD IS WHAT COUNTS. Prove the row's statement (the work); the ties are given (YthhckpnnjegldafGreatFmtTie.lean); close each card by the builder's one call (the guide's Derived/Test/ToyasCard.lean, 'card_holds'). Laid BY PROGRAM, IN A SANDBOX (cutbox-door.mjs). By AI agents, Wed Nov 11 2026. No macro, syntax, notation, axiom, sorry.
-/
import Derived.Test.YthhckpnnjegldafGreatFmtRows
import GoSem.ClaimSeven
namespace Go.Proofs.YthhckpnnjegldafGreatFmt
namespace Rows

/-- THE TOLD AND TIED CARD OF 'greatseallaw.WorldDoes'. -/
def worldDoesCard : Claim7 := { stood := { row := worldDoesRow, standIns := [], harness := (true, "0ad13b1b819345546f41e5d001ea85e7dc085c649554b6011df1e79c24d8099c"), looks := false }, told := true, laidByText := true, laidKinds := [.data, .data, .data], laidTests := true, laidLooks := .later, goes := false }
def WorldDoesToldSaid : Prop := Claim7.holds Tryz.pinned (.plain (OpenSpec.ofChange worldDoesSpec)) worldDoesCard
/-- ITS FALSE NEIGHBOUR. Refute it at one input. -/
def WorldDoesToldWrongFalsely : Prop := Claim7.holds Tryz.pinned (.plain (OpenSpec.ofChange worldDoesWrong)) worldDoesCard

/-- THE TOLD AND TIED CARD OF 'greatseallaw.WorldRuns'. -/
def worldRunsCard : Claim7 := { stood := { row := worldRunsRow, standIns := [], harness := (true, "0ad13b1b819345546f41e5d001ea85e7dc085c649554b6011df1e79c24d8099c"), looks := false }, told := true, laidByText := true, laidKinds := [.data, .data, .data], laidTests := true, laidLooks := .later, goes := false }
def WorldRunsToldSaid : Prop := Claim7.holds Tryz.pinned (.plain (OpenSpec.ofChange worldRunsSpec)) worldRunsCard
/-- ITS FALSE NEIGHBOUR. Refute it at one input. -/
def WorldRunsToldWrongFalsely : Prop := Claim7.holds Tryz.pinned (.plain (OpenSpec.ofChange worldRunsWrong)) worldRunsCard
end Rows
end Go.Proofs.YthhckpnnjegldafGreatFmt
