/-
  DERIVED. GIVEN WITH THE SEED: THE CARDS: each row of YtolgikojliedlaeFmtRows.lean that lists a variable, with what it lists TIED to the program's text (the seventh form; the later family's looks); each row that meets fmt, with fmt's text TOLD by the authors' own Lean function (tested against real Go, not proved from fmt's source: count such statements apart). THE CARD IS WHAT COUNTS. Prove the row's statement (the work); the ties are given (YtolgikojliedlaeFmtTie.lean); close each card by the builder's one call (the guide's Derived/Test/ToyasCard.lean, 'card_holds'). Laid BY PROGRAM, IN A SANDBOX (cutbox-door.mjs). By AI agents, Wed Nov 11 2026. No macro, syntax, notation, axiom, sorry.
-/
import Derived.Test.YtolgikojliedlaeFmtRows
import GoSem.ClaimSeven
namespace Go.Proofs.YtolgikojliedlaeFmt
namespace Rows

/-- THE TOLD AND TIED CARD OF 'greatseallaw.ShowSays'. -/
def showSaysCard : Claim7 := { stood := { row := showSaysRow, standIns := [], harness := (true, "fcb10153375df29fe03ce7cb202905ebd5e40cf08d95714256ba13943372410f"), looks := false }, told := true, laidByText := true, laidKinds := [.data, .data, .data], laidTests := true, laidLooks := .later, goes := false }
def ShowSaysToldSaid : Prop := Claim7.holds Tryf.pinned (.plain (OpenSpec.ofChange showSaysSpec)) showSaysCard
/-- ITS FALSE NEIGHBOUR. Refute it at one input. -/
def ShowSaysToldWrongFalsely : Prop := Claim7.holds Tryf.pinned (.plain (OpenSpec.ofChange showSaysWrong)) showSaysCard

/-- THE TOLD AND TIED CARD OF 'greatseallaw.ClientSays'. -/
def clientSaysCard : Claim7 := { stood := { row := clientSaysRow, standIns := [], harness := (true, "fcb10153375df29fe03ce7cb202905ebd5e40cf08d95714256ba13943372410f"), looks := false }, told := true, laidByText := true, laidKinds := [.data, .data, .data], laidTests := true, laidLooks := .later, goes := false }
def ClientSaysToldSaid : Prop := Claim7.holds Tryf.pinned (.plain (OpenSpec.ofChange clientSaysSpec)) clientSaysCard
/-- ITS FALSE NEIGHBOUR. Refute it at one input. -/
def ClientSaysToldWrongFalsely : Prop := Claim7.holds Tryf.pinned (.plain (OpenSpec.ofChange clientSaysWrong)) clientSaysCard
end Rows
end Go.Proofs.YtolgikojliedlaeFmt
