/-
  DERIVED. GIVEN WITH THE SEED: THE CARDS: each row of YtdkmijejfmnncacFmtRows.lean that lists a variable, with what it lists TIED to the program's text (the seventh form; the later family's looks); each row that meets fmt, with fmt's text TOLD by the authors' own Lean function (tested against real Go, not proved from fmt's source: count such statements apart). THE CARD IS WHAT COUNTS. Prove the row's statement (the work); the ties are given (YtdkmijejfmnncacFmtTie.lean); close each card by the builder's one call (the guide's Derived/Test/ToyasCard.lean, 'card_holds'). Laid BY PROGRAM, IN A SANDBOX (cutbox-door.mjs). By AI agents, Wed Nov 11 2026. No macro, syntax, notation, axiom, sorry.
-/
import Derived.Test.YtdkmijejfmnncacFmtRows
import GoSem.ClaimSeven
namespace Go.Proofs.YtdkmijejfmnncacFmt
namespace Rows

/-- THE TOLD AND TIED CARD OF 'greatseallaw.TrieSays'. -/
def trieSaysCard : Claim7 := { stood := { row := trieSaysRow, standIns := [], harness := (true, "3c3a76fb508762063c155349d3d2f812735ff3679ce48d97666ab81a095bff03"), looks := false }, told := true, laidByText := true, laidKinds := [.data, .data, .data], laidTests := true, laidLooks := .later, goes := false }
def TrieSaysToldSaid : Prop := Claim7.holds Tryf.pinned (.plain (OpenSpec.ofChange trieSaysSpec)) trieSaysCard
/-- ITS FALSE NEIGHBOUR. Refute it at one input. -/
def TrieSaysToldWrongFalsely : Prop := Claim7.holds Tryf.pinned (.plain (OpenSpec.ofChange trieSaysWrong)) trieSaysCard
end Rows
end Go.Proofs.YtdkmijejfmnncacFmt
