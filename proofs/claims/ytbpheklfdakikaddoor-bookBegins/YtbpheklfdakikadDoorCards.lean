/-
  DERIVED. GIVEN WITH THE SEED: THE CARDS: each row of YtbpheklfdakikadDoorRows.lean that lists a variable, with what it lists TIED to the program's text (the seventh form; the later family's looks); each row that meets fmt, with fmt's text TOLD by the authors' own Lean function (tested against real Go, not proved from fmt's source: count such statements apart). THE CARD IS WHAT COUNTS. Prove the row's statement (the work); the ties are given (YtbpheklfdakikadDoorTie.lean); close each card by the builder's one call (the guide's Derived/Test/ToyasCard.lean, 'card_holds'). Laid BY PROGRAM, IN A SANDBOX (cutbox-door.mjs). By AI agents, Wed Nov 11 2026. No macro, syntax, notation, axiom, sorry.
-/
import Derived.Test.YtbpheklfdakikadDoorRows
import GoSem.ClaimSeven
namespace Go.Proofs.YtbpheklfdakikadDoor
namespace Rows

/-- THE TIED CARD OF 'greatseallaw.TrieEach'. -/
def trieEachCard : Claim7 := { stood := { row := trieEachRow, standIns := [], harness := (true, "27b29e446fb8b2a11d33528d988993ba6c972348727d831b2bed33f1a0adbdf3"), looks := true }, kinds := [], alts := [], laidByText := true, laidKinds := [.data, .data, .data], laidTests := true, laidLooks := .later }
def TrieEachCardSaid : Prop := Claim7.holds Tryd.pinned (.plain (OpenSpec.ofChange trieEachSpec)) trieEachCard

/-- THE TIED CARD OF 'greatseallaw.BookOne'. -/
def bookOneCard : Claim7 := { stood := { row := bookOneRow, standIns := [], harness := (true, "27b29e446fb8b2a11d33528d988993ba6c972348727d831b2bed33f1a0adbdf3"), looks := true }, kinds := [], alts := [], laidByText := true, laidKinds := [.data, .data, .data], laidTests := true, laidLooks := .later }
def BookOneCardSaid : Prop := Claim7.holds Tryd.pinned (.plain (OpenSpec.ofChange bookOneSpec)) bookOneCard

/-- THE TIED CARD OF 'greatseallaw.NoteBack'. -/
def noteBackCard : Claim7 := { stood := { row := noteBackRow, standIns := [], harness := (true, "27b29e446fb8b2a11d33528d988993ba6c972348727d831b2bed33f1a0adbdf3"), looks := true }, kinds := [], alts := [], laidByText := true, laidKinds := [.data, .data, .data, .sentinel, .sentinel], laidTests := true, laidLooks := .later }
def NoteBackCardSaid : Prop := Claim7.holds Tryd.pinned (.plain (OpenSpec.ofChange noteBackSpec)) noteBackCard

/-- THE TIED CARD OF 'greatseallaw.BookBegins'. -/
def bookBeginsCard : Claim7 := { stood := { row := bookBeginsRow, standIns := [], harness := (true, "27b29e446fb8b2a11d33528d988993ba6c972348727d831b2bed33f1a0adbdf3"), looks := true }, kinds := [], alts := [], laidByText := true, laidKinds := [.data, .data, .data], laidTests := true, laidLooks := .later }
def BookBeginsCardSaid : Prop := Claim7.holds Tryd.pinned (.plain (OpenSpec.ofChange bookBeginsSpec)) bookBeginsCard

/-- THE SECOND FORM's CARD OF 'greatseallaw.TrieEach'. -/
def trieEachUptoCard : Claim7 := { stood := { row := trieEachUptoRow, standIns := [], harness := (true, "27b29e446fb8b2a11d33528d988993ba6c972348727d831b2bed33f1a0adbdf3"), looks := true }, kinds := [], alts := [], laidByText := true, laidKinds := [.data, .data, .data], laidTests := true, laidLooks := .later }
def TrieEachUptoCardSaid : Prop := Claim7.holds Tryd.pinned (.plain (OpenSpec.upto trieEachSpec)) trieEachUptoCard

/-- THE SECOND FORM's CARD OF 'greatseallaw.BookOne'. -/
def bookOneUptoCard : Claim7 := { stood := { row := bookOneUptoRow, standIns := [], harness := (true, "27b29e446fb8b2a11d33528d988993ba6c972348727d831b2bed33f1a0adbdf3"), looks := true }, kinds := [], alts := [], laidByText := true, laidKinds := [.data, .data, .data], laidTests := true, laidLooks := .later }
def BookOneUptoCardSaid : Prop := Claim7.holds Tryd.pinned (.plain (OpenSpec.upto bookOneSpec)) bookOneUptoCard

/-- THE SECOND FORM's CARD OF 'greatseallaw.NoteBack'. -/
def noteBackUptoCard : Claim7 := { stood := { row := noteBackUptoRow, standIns := [], harness := (true, "27b29e446fb8b2a11d33528d988993ba6c972348727d831b2bed33f1a0adbdf3"), looks := true }, kinds := [], alts := [], laidByText := true, laidKinds := [.data, .data, .data, .sentinel, .sentinel], laidTests := true, laidLooks := .later }
def NoteBackUptoCardSaid : Prop := Claim7.holds Tryd.pinned (.plain (OpenSpec.upto noteBackSpec)) noteBackUptoCard

/-- THE SECOND FORM's CARD OF 'greatseallaw.BookBegins'. -/
def bookBeginsUptoCard : Claim7 := { stood := { row := bookBeginsUptoRow, standIns := [], harness := (true, "27b29e446fb8b2a11d33528d988993ba6c972348727d831b2bed33f1a0adbdf3"), looks := true }, kinds := [], alts := [], laidByText := true, laidKinds := [.data, .data, .data], laidTests := true, laidLooks := .later }
def BookBeginsUptoCardSaid : Prop := Claim7.holds Tryd.pinned (.plain (OpenSpec.upto bookBeginsSpec)) bookBeginsUptoCard
end Rows
end Go.Proofs.YtbpheklfdakikadDoor
