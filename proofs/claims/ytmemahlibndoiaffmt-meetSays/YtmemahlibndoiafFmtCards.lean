/-
  DERIVED. GIVEN WITH THE SEED: THE CARDS: each row of YtmemahlibndoiafFmtRows.lean that lists a variable, with what it lists TIED to the program's text (the seventh form; the later family's looks); each row that meets fmt, with fmt's text TOLD by the authors' own Lean function (tested against real Go, not proved from fmt's source: count such statements apart). THE CARD IS WHAT COUNTS. Prove the row's statement (the work); the ties are given (YtmemahlibndoiafFmtTie.lean); close each card by the builder's one call (the guide's Derived/Test/ToyasCard.lean, 'card_holds'). Laid BY PROGRAM, IN A SANDBOX (cutbox-door.mjs). By AI agents, Wed Nov 11 2026. No macro, syntax, notation, axiom, sorry.
-/
import Derived.Test.YtmemahlibndoiafFmtRows
import GoSem.ClaimSeven
namespace Go.Proofs.YtmemahlibndoiafFmt
namespace Rows

/-- THE TOLD AND TIED CARD OF 'greatseallaw.MeetSays'. -/
def meetSaysCard : Claim7 := { stood := { row := meetSaysRow, standIns := [], harness := (true, "2a4bd1a1f965407d7260fa8bf7b1e3bf01c7a3463b2316b14caaa88ce0e60ade"), looks := false }, told := true, laidByText := true, laidKinds := [.data, .data, .data], laidTests := true, laidLooks := .later, goes := false }
def MeetSaysToldSaid : Prop := Claim7.holds Tryf.pinned (.plain (OpenSpec.ofChange meetSaysSpec)) meetSaysCard
/-- ITS FALSE NEIGHBOUR. Refute it at one input. -/
def MeetSaysToldWrongFalsely : Prop := Claim7.holds Tryf.pinned (.plain (OpenSpec.ofChange meetSaysWrong)) meetSaysCard
end Rows
end Go.Proofs.YtmemahlibndoiafFmt
