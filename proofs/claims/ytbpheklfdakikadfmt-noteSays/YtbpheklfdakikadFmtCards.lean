/-
  DERIVED. GIVEN WITH THE SEED: THE CARDS: each row of YtbpheklfdakikadFmtRows.lean that lists a variable, with what it lists TIED to the program's text (the seventh form; the later family's looks); each row that meets fmt, with fmt's text TOLD by the authors' own Lean function (tested against real Go, not proved from fmt's source: count such statements apart). THE CARD IS WHAT COUNTS. Prove the row's statement (the work); the ties are given (YtbpheklfdakikadFmtTie.lean); close each card by the builder's one call (the guide's Derived/Test/ToyasCard.lean, 'card_holds'). Laid BY PROGRAM, IN A SANDBOX (cutbox-door.mjs). By AI agents, Wed Nov 11 2026. No macro, syntax, notation, axiom, sorry.
-/
import Derived.Test.YtbpheklfdakikadFmtRows
import GoSem.ClaimSeven
namespace Go.Proofs.YtbpheklfdakikadFmt
namespace Rows

/-- THE TOLD AND TIED CARD OF 'greatseallaw.BookSays'. -/
def bookSaysCard : Claim7 := { stood := { row := bookSaysRow, standIns := [], harness := (true, "38bbbdcbd018eb0b03e9efa7a6c10574fd5637395ef36e41c7c09370e6544c18"), looks := true }, told := true, laidByText := true, laidKinds := [.data, .data, .data], laidTests := true, laidLooks := .later, goes := false }
def BookSaysToldSaid : Prop := Claim7.holds Tryf.pinned (.plain (OpenSpec.ofChange bookSaysSpec)) bookSaysCard
/-- ITS FALSE NEIGHBOUR. Refute it at one input. -/
def BookSaysToldWrongFalsely : Prop := Claim7.holds Tryf.pinned (.plain (OpenSpec.ofChange bookSaysWrong)) bookSaysCard

/-- THE TOLD AND TIED CARD OF 'greatseallaw.NoteSays'. -/
def noteSaysCard : Claim7 := { stood := { row := noteSaysRow, standIns := [], harness := (true, "38bbbdcbd018eb0b03e9efa7a6c10574fd5637395ef36e41c7c09370e6544c18"), looks := true }, told := true, laidByText := true, laidKinds := [.data, .data, .data, .data, .sentinel, .sentinel, .pinned], laidTests := true, laidLooks := .later, goes := false }
def NoteSaysToldSaid : Prop := Claim7.holds Tryf.pinned (.plain (OpenSpec.ofChange noteSaysSpec)) noteSaysCard
/-- ITS FALSE NEIGHBOUR. Refute it at one input. -/
def NoteSaysToldWrongFalsely : Prop := Claim7.holds Tryf.pinned (.plain (OpenSpec.ofChange noteSaysWrong)) noteSaysCard
end Rows
end Go.Proofs.YtbpheklfdakikadFmt
