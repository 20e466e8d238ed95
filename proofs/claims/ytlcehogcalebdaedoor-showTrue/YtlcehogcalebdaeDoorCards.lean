/-
  DERIVED. GIVEN WITH THE SEED: THE CARDS: each row of YtlcehogcalebdaeDoorRows.lean that lists a variable, with what it lists TIED to the program's text (the seventh form; the later family's looks); each row that meets fmt, with fmt's text TOLD by the authors' own Lean function (tested against real Go, not proved from fmt's source: count such statements apart). THE CARD IS WHAT COUNTS. Prove the row's statement (the work); the ties are given (YtlcehogcalebdaeDoorTie.lean); close each card by the builder's one call (the guide's Derived/Test/ToyasCard.lean, 'card_holds'). Laid BY PROGRAM, IN A SANDBOX (cutbox-door.mjs). By AI agents, Wed Nov 11 2026. No macro, syntax, notation, axiom, sorry.
-/
import Derived.Test.YtlcehogcalebdaeDoorRows
import GoSem.ClaimSeven
namespace Go.Proofs.YtlcehogcalebdaeDoor
namespace Rows

/-- THE TIED CARD OF 'greatseallaw.ShowTrue'. -/
def showTrueCard : Claim7 := { stood := { row := showTrueRow, standIns := [], harness := (true, "a1016f296b437495bedfdce06f8cbd2804e8a8956a636424606cf01d029f0321"), looks := false }, kinds := [], alts := [], laidByText := true, laidKinds := [.data, .data, .data], laidTests := true, laidLooks := .later }
def ShowTrueCardSaid : Prop := Claim7.holds Tryd.pinned (.plain (OpenSpec.ofChange showTrueSpec)) showTrueCard

/-- THE SECOND FORM's CARD OF 'greatseallaw.ShowTrue'. -/
def showTrueUptoCard : Claim7 := { stood := { row := showTrueUptoRow, standIns := [], harness := (true, "a1016f296b437495bedfdce06f8cbd2804e8a8956a636424606cf01d029f0321"), looks := false }, kinds := [], alts := [], laidByText := true, laidKinds := [.data, .data, .data], laidTests := true, laidLooks := .later }
def ShowTrueUptoCardSaid : Prop := Claim7.holds Tryd.pinned (.plain (OpenSpec.upto showTrueSpec)) showTrueUptoCard
end Rows
end Go.Proofs.YtlcehogcalebdaeDoor
