/-
  DERIVED. GIVEN WITH THE SEED: THE CARDS: each row of YtlcehogcalebdaeFmtRows.lean that lists a variable, with what it lists TIED to the program's text (the seventh form; the later family's looks); each row that meets fmt, with fmt's text TOLD by the authors' own Lean function (tested against real Go, not proved from fmt's source: count such statements apart). THE CARD IS WHAT COUNTS. Prove the row's statement (the work); the ties are given (YtlcehogcalebdaeFmtTie.lean); close each card by the builder's one call (the guide's Derived/Test/ToyasCard.lean, 'card_holds'). Laid BY PROGRAM, IN A SANDBOX (cutbox-door.mjs). By AI agents, Wed Nov 11 2026. No macro, syntax, notation, axiom, sorry.
-/
import Derived.Test.YtlcehogcalebdaeFmtRows
import GoSem.ClaimSeven
namespace Go.Proofs.YtlcehogcalebdaeFmt
namespace Rows

/-- THE TOLD AND TIED CARD OF 'greatseallaw.ShowSays'. -/
def showSaysCard : Claim7 := { stood := { row := showSaysRow, standIns := [], harness := (true, "e39948d2d1aa71477684dab4ff36749702af34865605f096562f570a97033583"), looks := false }, told := true, laidByText := true, laidKinds := [.data, .data, .data], laidTests := true, laidLooks := .later, goes := false }
def ShowSaysToldSaid : Prop := Claim7.holds Tryf.pinned (.plain (OpenSpec.ofChange showSaysSpec)) showSaysCard
/-- ITS FALSE NEIGHBOUR. Refute it at one input. -/
def ShowSaysToldWrongFalsely : Prop := Claim7.holds Tryf.pinned (.plain (OpenSpec.ofChange showSaysWrong)) showSaysCard
end Rows
end Go.Proofs.YtlcehogcalebdaeFmt
