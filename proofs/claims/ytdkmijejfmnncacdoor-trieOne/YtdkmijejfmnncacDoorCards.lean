/-
  DERIVED. GIVEN WITH THE SEED: THE CARDS: each row of YtdkmijejfmnncacDoorRows.lean that lists a variable, with what it lists TIED to the program's text (the seventh form; the later family's looks); each row that meets fmt, with fmt's text TOLD by the authors' own Lean function (tested against real Go, not proved from fmt's source: count such statements apart). THE CARD IS WHAT COUNTS. Prove the row's statement (the work); the ties are given (YtdkmijejfmnncacDoorTie.lean); close each card by the builder's one call (the guide's Derived/Test/ToyasCard.lean, 'card_holds'). Laid BY PROGRAM, IN A SANDBOX (cutbox-door.mjs). By AI agents, Wed Nov 11 2026. No macro, syntax, notation, axiom, sorry.
-/
import Derived.Test.YtdkmijejfmnncacDoorRows
import GoSem.ClaimSeven
namespace Go.Proofs.YtdkmijejfmnncacDoor
namespace Rows

/-- THE TIED CARD OF 'greatseallaw.GrowTrue'. -/
def growTrueCard : Claim7 := { stood := { row := growTrueRow, standIns := [], harness := (true, "e9e334832a5b93d9d2db7a21b46b583e51543b84ed9120320d52b10e8f0401d6"), looks := false }, kinds := [], alts := [], laidByText := true, laidKinds := [.data, .data, .data], laidTests := true, laidLooks := .later }
def GrowTrueCardSaid : Prop := Claim7.holds Tryd.pinned (.plain (OpenSpec.ofChange growTrueSpec)) growTrueCard

/-- THE TIED CARD OF 'greatseallaw.GrowOn'. -/
def growOnCard : Claim7 := { stood := { row := growOnRow, standIns := [], harness := (true, "e9e334832a5b93d9d2db7a21b46b583e51543b84ed9120320d52b10e8f0401d6"), looks := false }, kinds := [], alts := [], laidByText := true, laidKinds := [.data, .data, .data], laidTests := true, laidLooks := .later }
def GrowOnCardSaid : Prop := Claim7.holds Tryd.pinned (.plain (OpenSpec.ofChange growOnSpec)) growOnCard

/-- THE TIED CARD OF 'greatseallaw.GrowOnly'. -/
def growOnlyCard : Claim7 := { stood := { row := growOnlyRow, standIns := [], harness := (true, "e9e334832a5b93d9d2db7a21b46b583e51543b84ed9120320d52b10e8f0401d6"), looks := false }, kinds := [], alts := [], laidByText := true, laidKinds := [.data, .data, .data], laidTests := true, laidLooks := .later }
def GrowOnlyCardSaid : Prop := Claim7.holds Tryd.pinned (.plain (OpenSpec.ofChange growOnlySpec)) growOnlyCard

/-- THE TIED CARD OF 'greatseallaw.TrieTrue'. -/
def trieTrueCard : Claim7 := { stood := { row := trieTrueRow, standIns := [], harness := (true, "e9e334832a5b93d9d2db7a21b46b583e51543b84ed9120320d52b10e8f0401d6"), looks := false }, kinds := [], alts := [], laidByText := true, laidKinds := [.data, .data, .data], laidTests := true, laidLooks := .later }
def TrieTrueCardSaid : Prop := Claim7.holds Tryd.pinned (.plain (OpenSpec.ofChange trieTrueSpec)) trieTrueCard

/-- THE TIED CARD OF 'greatseallaw.TrieOne'. -/
def trieOneCard : Claim7 := { stood := { row := trieOneRow, standIns := [], harness := (true, "e9e334832a5b93d9d2db7a21b46b583e51543b84ed9120320d52b10e8f0401d6"), looks := false }, kinds := [], alts := [], laidByText := true, laidKinds := [.data, .data, .data], laidTests := true, laidLooks := .later }
def TrieOneCardSaid : Prop := Claim7.holds Tryd.pinned (.plain (OpenSpec.ofChange trieOneSpec)) trieOneCard

/-- THE SECOND FORM's CARD OF 'greatseallaw.GrowTrue'. -/
def growTrueUptoCard : Claim7 := { stood := { row := growTrueUptoRow, standIns := [], harness := (true, "e9e334832a5b93d9d2db7a21b46b583e51543b84ed9120320d52b10e8f0401d6"), looks := false }, kinds := [], alts := [], laidByText := true, laidKinds := [.data, .data, .data], laidTests := true, laidLooks := .later }
def GrowTrueUptoCardSaid : Prop := Claim7.holds Tryd.pinned (.plain (OpenSpec.upto growTrueSpec)) growTrueUptoCard

/-- THE SECOND FORM's CARD OF 'greatseallaw.GrowOn'. -/
def growOnUptoCard : Claim7 := { stood := { row := growOnUptoRow, standIns := [], harness := (true, "e9e334832a5b93d9d2db7a21b46b583e51543b84ed9120320d52b10e8f0401d6"), looks := false }, kinds := [], alts := [], laidByText := true, laidKinds := [.data, .data, .data], laidTests := true, laidLooks := .later }
def GrowOnUptoCardSaid : Prop := Claim7.holds Tryd.pinned (.plain (OpenSpec.upto growOnSpec)) growOnUptoCard

/-- THE SECOND FORM's CARD OF 'greatseallaw.GrowOnly'. -/
def growOnlyUptoCard : Claim7 := { stood := { row := growOnlyUptoRow, standIns := [], harness := (true, "e9e334832a5b93d9d2db7a21b46b583e51543b84ed9120320d52b10e8f0401d6"), looks := false }, kinds := [], alts := [], laidByText := true, laidKinds := [.data, .data, .data], laidTests := true, laidLooks := .later }
def GrowOnlyUptoCardSaid : Prop := Claim7.holds Tryd.pinned (.plain (OpenSpec.upto growOnlySpec)) growOnlyUptoCard

/-- THE SECOND FORM's CARD OF 'greatseallaw.TrieTrue'. -/
def trieTrueUptoCard : Claim7 := { stood := { row := trieTrueUptoRow, standIns := [], harness := (true, "e9e334832a5b93d9d2db7a21b46b583e51543b84ed9120320d52b10e8f0401d6"), looks := false }, kinds := [], alts := [], laidByText := true, laidKinds := [.data, .data, .data], laidTests := true, laidLooks := .later }
def TrieTrueUptoCardSaid : Prop := Claim7.holds Tryd.pinned (.plain (OpenSpec.upto trieTrueSpec)) trieTrueUptoCard

/-- THE SECOND FORM's CARD OF 'greatseallaw.TrieOne'. -/
def trieOneUptoCard : Claim7 := { stood := { row := trieOneUptoRow, standIns := [], harness := (true, "e9e334832a5b93d9d2db7a21b46b583e51543b84ed9120320d52b10e8f0401d6"), looks := false }, kinds := [], alts := [], laidByText := true, laidKinds := [.data, .data, .data], laidTests := true, laidLooks := .later }
def TrieOneUptoCardSaid : Prop := Claim7.holds Tryd.pinned (.plain (OpenSpec.upto trieOneSpec)) trieOneUptoCard
end Rows
end Go.Proofs.YtdkmijejfmnncacDoor
