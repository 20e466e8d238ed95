/-
  DERIVED. GIVEN WITH THE SEED: THE CARDS: each row of YtegilmaplhkkiadFmtRows.lean that lists a variable, with what it lists TIED to the program's text (the seventh form; the later family's looks); each row that meets fmt, with fmt's text TOLD by the authors' own Lean function (tested against real Go, not proved from fmt's source: count such statements apart). THE CARD IS WHAT COUNTS. Prove the row's statement (the work); the ties are given (YtegilmaplhkkiadFmtTie.lean); close each card by the builder's one call (the guide's Derived/Test/ToyasCard.lean, 'card_holds'). Laid BY PROGRAM, IN A SANDBOX (cutbox-door.mjs). By AI agents, Wed Nov 11 2026. No macro, syntax, notation, axiom, sorry.
-/
import Derived.Test.YtegilmaplhkkiadFmtRows
import GoSem.ClaimSeven
namespace Go.Proofs.YtegilmaplhkkiadFmt
namespace Rows

/-- THE TOLD AND TIED CARD OF 'greatseallaw.BookSays'. -/
def bookSaysCard : Claim7 := { stood := { row := bookSaysRow, standIns := [], harness := (true, "3c9ddb5d42ce8be2051e4e1043ebbff4f8e3d61939382b502387042ca883c1a9"), looks := false }, told := true, laidByText := true, laidKinds := [.data, .data, .data], laidTests := true, laidLooks := .later, goes := false }
def BookSaysToldSaid : Prop := Claim7.holds Tryf.pinned (.plain (OpenSpec.ofChange bookSaysSpec)) bookSaysCard
/-- ITS FALSE NEIGHBOUR. Refute it at one input. -/
def BookSaysToldWrongFalsely : Prop := Claim7.holds Tryf.pinned (.plain (OpenSpec.ofChange bookSaysWrong)) bookSaysCard
end Rows
end Go.Proofs.YtegilmaplhkkiadFmt
