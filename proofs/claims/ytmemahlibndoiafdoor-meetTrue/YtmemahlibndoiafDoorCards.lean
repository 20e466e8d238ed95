/-
  DERIVED. GIVEN WITH THE SEED: THE CARDS: each row of YtmemahlibndoiafDoorRows.lean that lists a variable, with what it lists TIED to the program's text (the seventh form; the later family's looks); each row that meets fmt, with fmt's text TOLD by the authors' own Lean function (tested against real Go, not proved from fmt's source: count such statements apart). THE CARD IS WHAT COUNTS. Prove the row's statement (the work); the ties are given (YtmemahlibndoiafDoorTie.lean); close each card by the builder's one call (the guide's Derived/Test/ToyasCard.lean, 'card_holds'). Laid BY PROGRAM, IN A SANDBOX (cutbox-door.mjs). By AI agents, Wed Nov 11 2026. No macro, syntax, notation, axiom, sorry.
-/
import Derived.Test.YtmemahlibndoiafDoorRows
import GoSem.ClaimSeven
namespace Go.Proofs.YtmemahlibndoiafDoor
namespace Rows

/-- THE TIED CARD OF 'greatseallaw.MeetTrue'. -/
def meetTrueCard : Claim7 := { stood := { row := meetTrueRow, standIns := [], harness := (true, "a610016a3c6920a9b6eac8e8e70d4aefd21c557fee3ea9c8f55aee74ede3fdef"), looks := false }, kinds := [], alts := [], laidByText := true, laidKinds := [.data, .data, .data], laidTests := true, laidLooks := .later }
def MeetTrueCardSaid : Prop := Claim7.holds Tryd.pinned (.plain (OpenSpec.ofChange meetTrueSpec)) meetTrueCard

/-- THE SECOND FORM's CARD OF 'greatseallaw.MeetTrue'. -/
def meetTrueUptoCard : Claim7 := { stood := { row := meetTrueUptoRow, standIns := [], harness := (true, "a610016a3c6920a9b6eac8e8e70d4aefd21c557fee3ea9c8f55aee74ede3fdef"), looks := false }, kinds := [], alts := [], laidByText := true, laidKinds := [.data, .data, .data], laidTests := true, laidLooks := .later }
def MeetTrueUptoCardSaid : Prop := Claim7.holds Tryd.pinned (.plain (OpenSpec.upto meetTrueSpec)) meetTrueUptoCard
end Rows
end Go.Proofs.YtmemahlibndoiafDoor
