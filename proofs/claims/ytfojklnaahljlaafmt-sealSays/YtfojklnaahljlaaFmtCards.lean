/-
  DERIVED. GIVEN WITH THE SEED: THE CARDS: each row of YtfojklnaahljlaaFmtRows.lean that lists a variable, with what it lists TIED to the program's text (the seventh form; the later family's looks); each row that meets fmt, with fmt's text TOLD by the authors' own Lean function (tested against real Go, not proved from fmt's source: count such statements apart). THE CARD IS WHAT COUNTS. Prove the row's statement (the work); the ties are given (YtfojklnaahljlaaFmtTie.lean); close each card by the builder's one call (the guide's Derived/Test/ToyasCard.lean, 'card_holds'). Laid BY PROGRAM, IN A SANDBOX (cutbox-door.mjs). By AI agents, Wed Nov 11 2026. No macro, syntax, notation, axiom, sorry.
-/
import Derived.Test.YtfojklnaahljlaaFmtRows
import GoSem.ClaimSeven
namespace Go.Proofs.YtfojklnaahljlaaFmt
namespace Rows

/-- THE TOLD AND TIED CARD OF 'greatseallaw.SealSays'. -/
def sealSaysCard : Claim7 := { stood := { row := sealSaysRow, standIns := [], harness := (true, "1281122996930ece47849e5a8e656b4daf24dc3ea6e4401f430a603acc1c4e8d"), looks := true }, told := true, laidByText := true, laidKinds := [.data, .data, .data, .sentinel, .sentinel], laidTests := true, laidLooks := .later, goes := false }
def SealSaysToldSaid : Prop := Claim7.holds Tryf.pinned (.plain (OpenSpec.ofChange sealSaysSpec)) sealSaysCard
/-- ITS FALSE NEIGHBOUR. Refute it at one input. -/
def SealSaysToldWrongFalsely : Prop := Claim7.holds Tryf.pinned (.plain (OpenSpec.ofChange sealSaysWrong)) sealSaysCard
end Rows
end Go.Proofs.YtfojklnaahljlaaFmt
