/-
  DERIVED. GIVEN WITH THE SEED: THE CARDS: each row of YtccgkfnoijnkcabFmtRows.lean that lists a variable, with what it lists TIED to the program's text (the seventh form; the later family's looks); each row that meets fmt, with fmt's text TOLD by the authors' own Lean function (tested against real Go, not proved from fmt's source: count such statements apart). THE CARD IS WHAT COUNTS. Prove the row's statement (the work); the ties are given (YtccgkfnoijnkcabFmtTie.lean); close each card by the builder's one call (the guide's Derived/Test/ToyasCard.lean, 'card_holds'). Laid BY PROGRAM, IN A SANDBOX (cutbox-door.mjs). By AI agents, Wed Nov 11 2026. No macro, syntax, notation, axiom, sorry.
-/
import Derived.Test.YtccgkfnoijnkcabFmtRows
import GoSem.ClaimSeven
namespace Go.Proofs.YtccgkfnoijnkcabFmt
namespace Rows

/-- THE TOLD AND TIED CARD OF 'greatseallaw.PathSays'. -/
def pathSaysCard : Claim7 := { stood := { row := pathSaysRow, standIns := [], harness := (true, "82b87df60b2dfc81667cf0823b47ffa6db5b05895fb2dc12f89f0b4a407fc675"), looks := false }, told := true, laidByText := true, laidKinds := [.data, .data, .data], laidTests := true, laidLooks := .later, goes := false }
def PathSaysToldSaid : Prop := Claim7.holds Tryf.pinned (.plain (OpenSpec.ofChange pathSaysSpec)) pathSaysCard
/-- ITS FALSE NEIGHBOUR. Refute it at one input. -/
def PathSaysToldWrongFalsely : Prop := Claim7.holds Tryf.pinned (.plain (OpenSpec.ofChange pathSaysWrong)) pathSaysCard

/-- THE TOLD AND TIED CARD OF 'greatseallaw.GrowSays'. -/
def growSaysCard : Claim7 := { stood := { row := growSaysRow, standIns := [], harness := (true, "82b87df60b2dfc81667cf0823b47ffa6db5b05895fb2dc12f89f0b4a407fc675"), looks := false }, told := true, laidByText := true, laidKinds := [.data, .data, .data], laidTests := true, laidLooks := .later, goes := false }
def GrowSaysToldSaid : Prop := Claim7.holds Tryf.pinned (.plain (OpenSpec.ofChange growSaysSpec)) growSaysCard
/-- ITS FALSE NEIGHBOUR. Refute it at one input. -/
def GrowSaysToldWrongFalsely : Prop := Claim7.holds Tryf.pinned (.plain (OpenSpec.ofChange growSaysWrong)) growSaysCard
end Rows
end Go.Proofs.YtccgkfnoijnkcabFmt
