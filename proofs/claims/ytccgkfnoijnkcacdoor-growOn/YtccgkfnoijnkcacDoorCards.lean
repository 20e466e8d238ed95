/-
  DERIVED. GIVEN WITH THE SEED: THE CARDS: each row of YtccgkfnoijnkcacDoorRows.lean that lists a variable, with what it lists TIED to the program's text (the seventh form; the later family's looks); each row that meets fmt, with fmt's text TOLD by the authors' own Lean function (tested against real Go, not proved from fmt's source: count such statements apart). THE CARD IS WHAT COUNTS. Prove the row's statement (the work); the ties are given (YtccgkfnoijnkcacDoorTie.lean); close each card by the builder's one call (the guide's Derived/Test/ToyasCard.lean, 'card_holds'). Laid BY PROGRAM, IN A SANDBOX (cutbox-door.mjs). By AI agents, Wed Nov 11 2026. No macro, syntax, notation, axiom, sorry.
-/
import Derived.Test.YtccgkfnoijnkcacDoorRows
import GoSem.ClaimSeven
namespace Go.Proofs.YtccgkfnoijnkcacDoor
namespace Rows

/-- THE TIED CARD OF 'greatseallaw.GrowTrue'. -/
def growTrueCard : Claim7 := { stood := { row := growTrueRow, standIns := [], harness := (true, "a24364e93d6b4058bd00028fcbabc30b11f5b8115652906d64d19f31afdedb7f"), looks := false }, kinds := [], alts := [], laidByText := true, laidKinds := [.data, .data, .data], laidTests := true, laidLooks := .later }
def GrowTrueCardSaid : Prop := Claim7.holds Tryd.pinned (.plain (OpenSpec.ofChange growTrueSpec)) growTrueCard

/-- THE TIED CARD OF 'greatseallaw.GrowOn'. -/
def growOnCard : Claim7 := { stood := { row := growOnRow, standIns := [], harness := (true, "a24364e93d6b4058bd00028fcbabc30b11f5b8115652906d64d19f31afdedb7f"), looks := false }, kinds := [], alts := [], laidByText := true, laidKinds := [.data, .data, .data], laidTests := true, laidLooks := .later }
def GrowOnCardSaid : Prop := Claim7.holds Tryd.pinned (.plain (OpenSpec.ofChange growOnSpec)) growOnCard

/-- THE TIED CARD OF 'greatseallaw.GrowOnly'. -/
def growOnlyCard : Claim7 := { stood := { row := growOnlyRow, standIns := [], harness := (true, "a24364e93d6b4058bd00028fcbabc30b11f5b8115652906d64d19f31afdedb7f"), looks := false }, kinds := [], alts := [], laidByText := true, laidKinds := [.data, .data, .data], laidTests := true, laidLooks := .later }
def GrowOnlyCardSaid : Prop := Claim7.holds Tryd.pinned (.plain (OpenSpec.ofChange growOnlySpec)) growOnlyCard

/-- THE SECOND FORM's CARD OF 'greatseallaw.GrowTrue'. -/
def growTrueUptoCard : Claim7 := { stood := { row := growTrueUptoRow, standIns := [], harness := (true, "a24364e93d6b4058bd00028fcbabc30b11f5b8115652906d64d19f31afdedb7f"), looks := false }, kinds := [], alts := [], laidByText := true, laidKinds := [.data, .data, .data], laidTests := true, laidLooks := .later }
def GrowTrueUptoCardSaid : Prop := Claim7.holds Tryd.pinned (.plain (OpenSpec.upto growTrueSpec)) growTrueUptoCard

/-- THE SECOND FORM's CARD OF 'greatseallaw.GrowOn'. -/
def growOnUptoCard : Claim7 := { stood := { row := growOnUptoRow, standIns := [], harness := (true, "a24364e93d6b4058bd00028fcbabc30b11f5b8115652906d64d19f31afdedb7f"), looks := false }, kinds := [], alts := [], laidByText := true, laidKinds := [.data, .data, .data], laidTests := true, laidLooks := .later }
def GrowOnUptoCardSaid : Prop := Claim7.holds Tryd.pinned (.plain (OpenSpec.upto growOnSpec)) growOnUptoCard

/-- THE SECOND FORM's CARD OF 'greatseallaw.GrowOnly'. -/
def growOnlyUptoCard : Claim7 := { stood := { row := growOnlyUptoRow, standIns := [], harness := (true, "a24364e93d6b4058bd00028fcbabc30b11f5b8115652906d64d19f31afdedb7f"), looks := false }, kinds := [], alts := [], laidByText := true, laidKinds := [.data, .data, .data], laidTests := true, laidLooks := .later }
def GrowOnlyUptoCardSaid : Prop := Claim7.holds Tryd.pinned (.plain (OpenSpec.upto growOnlySpec)) growOnlyUptoCard
end Rows
end Go.Proofs.YtccgkfnoijnkcacDoor
