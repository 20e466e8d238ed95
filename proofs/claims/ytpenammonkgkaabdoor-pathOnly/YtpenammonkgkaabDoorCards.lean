/-
  DERIVED. GIVEN WITH THE SEED: THE CARDS: each row of YtpenammonkgkaabDoorRows.lean that lists a variable, with what it lists TIED to the program's text (the seventh form; the later family's looks); each row that meets fmt, with fmt's text TOLD by the authors' own Lean function (tested against real Go, not proved from fmt's source: count such statements apart). THE CARD IS WHAT COUNTS. Prove the row's statement (the work); the ties are given (YtpenammonkgkaabDoorTie.lean); close each card by the builder's one call (the guide's Derived/Test/ToyasCard.lean, 'card_holds'). Laid BY PROGRAM, IN A SANDBOX (cutbox-door.mjs). By AI agents, Wed Nov 11 2026. No macro, syntax, notation, axiom, sorry.
-/
import Derived.Test.YtpenammonkgkaabDoorRows
import GoSem.ClaimSeven
namespace Go.Proofs.YtpenammonkgkaabDoor
namespace Rows

/-- THE TIED CARD OF 'greatseallaw.TreeHalves'. -/
def treeHalvesCard : Claim7 := { stood := { row := treeHalvesRow, standIns := [], harness := (true, "82d4e0e3f6396bdbd7f4bafea77de35bced13a1d302ec8ad7f97ea0f254e2954"), looks := true }, kinds := [], alts := [], laidByText := true, laidKinds := [.data, .data, .data, .sentinel, .sentinel], laidTests := true, laidLooks := .later }
def TreeHalvesCardSaid : Prop := Claim7.holds Tryd.pinned (.plain (OpenSpec.ofChange treeHalvesSpec)) treeHalvesCard

/-- THE TIED CARD OF 'greatseallaw.PathTrue'. -/
def pathTrueCard : Claim7 := { stood := { row := pathTrueRow, standIns := [], harness := (true, "82d4e0e3f6396bdbd7f4bafea77de35bced13a1d302ec8ad7f97ea0f254e2954"), looks := true }, kinds := [], alts := [], laidByText := true, laidKinds := [.data, .data, .data], laidTests := true, laidLooks := .later }
def PathTrueCardSaid : Prop := Claim7.holds Tryd.pinned (.plain (OpenSpec.ofChange pathTrueSpec)) pathTrueCard

/-- THE TIED CARD OF 'greatseallaw.PathOnly'. -/
def pathOnlyCard : Claim7 := { stood := { row := pathOnlyRow, standIns := [], harness := (true, "82d4e0e3f6396bdbd7f4bafea77de35bced13a1d302ec8ad7f97ea0f254e2954"), looks := true }, kinds := [], alts := [], laidByText := true, laidKinds := [.data, .data, .data], laidTests := true, laidLooks := .later }
def PathOnlyCardSaid : Prop := Claim7.holds Tryd.pinned (.plain (OpenSpec.ofChange pathOnlySpec)) pathOnlyCard

/-- THE TIED CARD OF 'greatseallaw.PathOther'. -/
def pathOtherCard : Claim7 := { stood := { row := pathOtherRow, standIns := [], harness := (true, "82d4e0e3f6396bdbd7f4bafea77de35bced13a1d302ec8ad7f97ea0f254e2954"), looks := true }, kinds := [], alts := [], laidByText := true, laidKinds := [.data, .data, .data], laidTests := true, laidLooks := .later }
def PathOtherCardSaid : Prop := Claim7.holds Tryd.pinned (.plain (OpenSpec.ofChange pathOtherSpec)) pathOtherCard

/-- THE SECOND FORM's CARD OF 'greatseallaw.TreeHalves'. -/
def treeHalvesUptoCard : Claim7 := { stood := { row := treeHalvesUptoRow, standIns := [], harness := (true, "82d4e0e3f6396bdbd7f4bafea77de35bced13a1d302ec8ad7f97ea0f254e2954"), looks := true }, kinds := [], alts := [], laidByText := true, laidKinds := [.data, .data, .data, .sentinel, .sentinel], laidTests := true, laidLooks := .later }
def TreeHalvesUptoCardSaid : Prop := Claim7.holds Tryd.pinned (.plain (OpenSpec.upto treeHalvesSpec)) treeHalvesUptoCard

/-- THE SECOND FORM's CARD OF 'greatseallaw.PathTrue'. -/
def pathTrueUptoCard : Claim7 := { stood := { row := pathTrueUptoRow, standIns := [], harness := (true, "82d4e0e3f6396bdbd7f4bafea77de35bced13a1d302ec8ad7f97ea0f254e2954"), looks := true }, kinds := [], alts := [], laidByText := true, laidKinds := [.data, .data, .data], laidTests := true, laidLooks := .later }
def PathTrueUptoCardSaid : Prop := Claim7.holds Tryd.pinned (.plain (OpenSpec.upto pathTrueSpec)) pathTrueUptoCard

/-- THE SECOND FORM's CARD OF 'greatseallaw.PathOnly'. -/
def pathOnlyUptoCard : Claim7 := { stood := { row := pathOnlyUptoRow, standIns := [], harness := (true, "82d4e0e3f6396bdbd7f4bafea77de35bced13a1d302ec8ad7f97ea0f254e2954"), looks := true }, kinds := [], alts := [], laidByText := true, laidKinds := [.data, .data, .data], laidTests := true, laidLooks := .later }
def PathOnlyUptoCardSaid : Prop := Claim7.holds Tryd.pinned (.plain (OpenSpec.upto pathOnlySpec)) pathOnlyUptoCard

/-- THE SECOND FORM's CARD OF 'greatseallaw.PathOther'. -/
def pathOtherUptoCard : Claim7 := { stood := { row := pathOtherUptoRow, standIns := [], harness := (true, "82d4e0e3f6396bdbd7f4bafea77de35bced13a1d302ec8ad7f97ea0f254e2954"), looks := true }, kinds := [], alts := [], laidByText := true, laidKinds := [.data, .data, .data], laidTests := true, laidLooks := .later }
def PathOtherUptoCardSaid : Prop := Claim7.holds Tryd.pinned (.plain (OpenSpec.upto pathOtherSpec)) pathOtherUptoCard
end Rows
end Go.Proofs.YtpenammonkgkaabDoor
