/-
  DERIVED. GIVEN WITH THE SEED: THE CARDS: each row of YthhckpnnjegldafDoorRows.lean that lists a variable, with what it lists TIED to the program's text (the seventh form; the later family's looks); each row that meets fmt, with fmt's text TOLD by the authors' own Lean function (tested against real Go, not proved from fmt's source: count such statements apart). THE CARD IS WHAT COUNTS. Prove the row's statement (the work); the ties are given (YthhckpnnjegldafDoorTie.lean); close each card by the builder's one call (the guide's Derived/Test/ToyasCard.lean, 'card_holds'). Laid BY PROGRAM, IN A SANDBOX (cutbox-door.mjs). By AI agents, Wed Nov 11 2026. No macro, syntax, notation, axiom, sorry.
-/
import Derived.Test.YthhckpnnjegldafDoorRows
import GoSem.ClaimSeven
namespace Go.Proofs.YthhckpnnjegldafDoor
namespace Rows

/-- THE TIED CARD OF 'greatseallaw.MeetTrue'. -/
def meetTrueCard : Claim7 := { stood := { row := meetTrueRow, standIns := [], harness := (true, "52cd78413e7693f8b1a7ce679fa477564a9e41792debbdf11394a7a45139b2f2"), looks := false }, kinds := [], alts := [], laidByText := true, laidKinds := [.data, .data, .data], laidTests := true, laidLooks := .later }
def MeetTrueCardSaid : Prop := Claim7.holds Tryd.pinned (.plain (OpenSpec.ofChange meetTrueSpec)) meetTrueCard

/-- THE TIED CARD OF 'greatseallaw.WorldKeeps'. -/
def worldKeepsCard : Claim7 := { stood := { row := worldKeepsRow, standIns := [], harness := (true, "52cd78413e7693f8b1a7ce679fa477564a9e41792debbdf11394a7a45139b2f2"), looks := false }, kinds := [], alts := [], laidByText := true, laidKinds := [.data, .data, .data], laidTests := true, laidLooks := .later }
def WorldKeepsCardSaid : Prop := Claim7.holds Tryd.pinned (.plain (OpenSpec.ofChange worldKeepsSpec)) worldKeepsCard

/-- THE TIED CARD OF 'greatseallaw.WorldParts'. -/
def worldPartsCard : Claim7 := { stood := { row := worldPartsRow, standIns := [], harness := (true, "52cd78413e7693f8b1a7ce679fa477564a9e41792debbdf11394a7a45139b2f2"), looks := false }, kinds := [], alts := [], laidByText := true, laidKinds := [.data, .data, .data], laidTests := true, laidLooks := .later }
def WorldPartsCardSaid : Prop := Claim7.holds Tryd.pinned (.plain (OpenSpec.ofChange worldPartsSpec)) worldPartsCard

/-- THE SECOND FORM's CARD OF 'greatseallaw.MeetTrue'. -/
def meetTrueUptoCard : Claim7 := { stood := { row := meetTrueUptoRow, standIns := [], harness := (true, "52cd78413e7693f8b1a7ce679fa477564a9e41792debbdf11394a7a45139b2f2"), looks := false }, kinds := [], alts := [], laidByText := true, laidKinds := [.data, .data, .data], laidTests := true, laidLooks := .later }
def MeetTrueUptoCardSaid : Prop := Claim7.holds Tryd.pinned (.plain (OpenSpec.upto meetTrueSpec)) meetTrueUptoCard

/-- THE SECOND FORM's CARD OF 'greatseallaw.WorldKeeps'. -/
def worldKeepsUptoCard : Claim7 := { stood := { row := worldKeepsUptoRow, standIns := [], harness := (true, "52cd78413e7693f8b1a7ce679fa477564a9e41792debbdf11394a7a45139b2f2"), looks := false }, kinds := [], alts := [], laidByText := true, laidKinds := [.data, .data, .data], laidTests := true, laidLooks := .later }
def WorldKeepsUptoCardSaid : Prop := Claim7.holds Tryd.pinned (.plain (OpenSpec.upto worldKeepsSpec)) worldKeepsUptoCard

/-- THE SECOND FORM's CARD OF 'greatseallaw.WorldParts'. -/
def worldPartsUptoCard : Claim7 := { stood := { row := worldPartsUptoRow, standIns := [], harness := (true, "52cd78413e7693f8b1a7ce679fa477564a9e41792debbdf11394a7a45139b2f2"), looks := false }, kinds := [], alts := [], laidByText := true, laidKinds := [.data, .data, .data], laidTests := true, laidLooks := .later }
def WorldPartsUptoCardSaid : Prop := Claim7.holds Tryd.pinned (.plain (OpenSpec.upto worldPartsSpec)) worldPartsUptoCard
end Rows
end Go.Proofs.YthhckpnnjegldafDoor
