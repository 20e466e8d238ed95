/-
  DERIVED. GIVEN WITH THE SEED: THE CARDS: each row of YtnemiobgmdpnmagGreatFmtRows.lean that lists a variable, with what it lists TIED to the program's text (the seventh form; the later family's looks); each row that meets fmt, with fmt's text TOLD by the authors' own Lean function (tested against real Go, not proved from fmt's source: count such statements apart). THE CARD IS WHAT COUNTS. Prove the row's statement (the work); the ties are given (YtnemiobgmdpnmagGreatFmtTie.lean); close each card by the builder's one call (the guide's Derived/Test/ToyasCard.lean, 'card_holds'). Laid BY PROGRAM, IN A SANDBOX (cutbox-door.mjs). By AI agents, Wed Nov 11 2026. No macro, syntax, notation, axiom, sorry.
-/
import Derived.Test.YtnemiobgmdpnmagGreatFmtRows
import GoSem.ClaimSeven
namespace Go.Proofs.YtnemiobgmdpnmagGreatFmt
namespace Rows

/-- THE TOLD AND TIED CARD OF 'greatseallaw.StorySays'. -/
def storySaysCard : Claim7 := { stood := { row := storySaysRow, standIns := [], harness := (true, "8d6b937188930917d29521e4bb7f76e67e72540e26df184428e012ad81bcc7c2"), looks := false }, told := true, laidByText := true, laidKinds := [.data, .data, .data], laidTests := true, laidLooks := .later, goes := false }
def StorySaysToldSaid : Prop := Claim7.holds Tryz.pinned (.plain (OpenSpec.ofChange storySaysSpec)) storySaysCard
/-- ITS FALSE NEIGHBOUR. Refute it at one input. -/
def StorySaysToldWrongFalsely : Prop := Claim7.holds Tryz.pinned (.plain (OpenSpec.ofChange storySaysWrong)) storySaysCard
end Rows
end Go.Proofs.YtnemiobgmdpnmagGreatFmt
