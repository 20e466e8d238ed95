/-
  DERIVED. GIVEN WITH THE SEED: THE CARDS: each row of YtmmpjldbfaloeaaFmtRows.lean that lists a variable, with what it lists TIED to the program's text (the seventh form; the later family's looks); each row that meets fmt, with fmt's text TOLD by the authors' own Lean function (tested against real Go, not proved from fmt's source: count such statements apart). THE CARD IS WHAT COUNTS. Prove the row's statement (the work); the ties are given (YtmmpjldbfaloeaaFmtTie.lean); close each card by the builder's one call (the guide's Derived/Test/ToyasCard.lean, 'card_holds'). Laid BY PROGRAM, IN A SANDBOX (cutbox-door.mjs). By AI agents, Wed Nov 11 2026. No macro, syntax, notation, axiom, sorry.
-/
import Derived.Test.YtmmpjldbfaloeaaFmtRows
import GoSem.ClaimSeven
namespace Go.Proofs.YtmmpjldbfaloeaaFmt
namespace Rows

/-- THE TOLD AND TIED CARD OF 'greatseallaw.SealSays'. -/
def sealSaysCard : Claim7 := { stood := { row := sealSaysRow, standIns := [], harness := (true, "1dffadb8475e4596038683dc02b038871689e3b7695b29391d753d4752a20544"), looks := true }, told := true, laidByText := true, laidKinds := [.data, .data, .data, .sentinel, .sentinel], laidTests := true, laidLooks := .later, goes := false }
def SealSaysToldSaid : Prop := Claim7.holds Tryf.pinned (.plain (OpenSpec.ofChange sealSaysSpec)) sealSaysCard
/-- ITS FALSE NEIGHBOUR. Refute it at one input. -/
def SealSaysToldWrongFalsely : Prop := Claim7.holds Tryf.pinned (.plain (OpenSpec.ofChange sealSaysWrong)) sealSaysCard

/-- THE TOLD AND TIED CARD OF 'greatseallaw.TreeSays'. -/
def treeSaysCard : Claim7 := { stood := { row := treeSaysRow, standIns := [], harness := (true, "1dffadb8475e4596038683dc02b038871689e3b7695b29391d753d4752a20544"), looks := true }, told := true, laidByText := true, laidKinds := [.data, .data, .data], laidTests := true, laidLooks := .later, goes := false }
def TreeSaysToldSaid : Prop := Claim7.holds Tryf.pinned (.plain (OpenSpec.ofChange treeSaysSpec)) treeSaysCard
/-- ITS FALSE NEIGHBOUR. Refute it at one input. -/
def TreeSaysToldWrongFalsely : Prop := Claim7.holds Tryf.pinned (.plain (OpenSpec.ofChange treeSaysWrong)) treeSaysCard
end Rows
end Go.Proofs.YtmmpjldbfaloeaaFmt
