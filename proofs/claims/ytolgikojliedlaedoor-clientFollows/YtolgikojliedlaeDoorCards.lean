/-
  DERIVED. GIVEN WITH THE SEED: THE CARDS: each row of YtolgikojliedlaeDoorRows.lean that lists a variable, with what it lists TIED to the program's text (the seventh form; the later family's looks); each row that meets fmt, with fmt's text TOLD by the authors' own Lean function (tested against real Go, not proved from fmt's source: count such statements apart). THE CARD IS WHAT COUNTS. Prove the row's statement (the work); the ties are given (YtolgikojliedlaeDoorTie.lean); close each card by the builder's one call (the guide's Derived/Test/ToyasCard.lean, 'card_holds'). Laid BY PROGRAM, IN A SANDBOX (cutbox-door.mjs). By AI agents, Wed Nov 11 2026. No macro, syntax, notation, axiom, sorry.
-/
import Derived.Test.YtolgikojliedlaeDoorRows
import GoSem.ClaimSeven
namespace Go.Proofs.YtolgikojliedlaeDoor
namespace Rows

/-- THE TIED CARD OF 'greatseallaw.ShowTrue'. -/
def showTrueCard : Claim7 := { stood := { row := showTrueRow, standIns := [], harness := (true, "71721469d89e05011383440ba981809bd2837bc83dced49467a516142a5c4fb5"), looks := false }, kinds := [], alts := [], laidByText := true, laidKinds := [.data, .data, .data], laidTests := true, laidLooks := .later }
def ShowTrueCardSaid : Prop := Claim7.holds Tryd.pinned (.plain (OpenSpec.ofChange showTrueSpec)) showTrueCard

/-- THE TIED CARD OF 'greatseallaw.ClientTrue'. -/
def clientTrueCard : Claim7 := { stood := { row := clientTrueRow, standIns := [], harness := (true, "71721469d89e05011383440ba981809bd2837bc83dced49467a516142a5c4fb5"), looks := false }, kinds := [], alts := [], laidByText := true, laidKinds := [.data, .data, .data], laidTests := true, laidLooks := .later }
def ClientTrueCardSaid : Prop := Claim7.holds Tryd.pinned (.plain (OpenSpec.ofChange clientTrueSpec)) clientTrueCard

/-- THE TIED CARD OF 'greatseallaw.ClientFollows'. -/
def clientFollowsCard : Claim7 := { stood := { row := clientFollowsRow, standIns := [], harness := (true, "71721469d89e05011383440ba981809bd2837bc83dced49467a516142a5c4fb5"), looks := false }, kinds := [], alts := [], laidByText := true, laidKinds := [.data, .data, .data], laidTests := true, laidLooks := .later }
def ClientFollowsCardSaid : Prop := Claim7.holds Tryd.pinned (.plain (OpenSpec.ofChange clientFollowsSpec)) clientFollowsCard

/-- THE TIED CARD OF 'greatseallaw.ClientAsks'. -/
def clientAsksCard : Claim7 := { stood := { row := clientAsksRow, standIns := [], harness := (true, "71721469d89e05011383440ba981809bd2837bc83dced49467a516142a5c4fb5"), looks := false }, kinds := [], alts := [], laidByText := true, laidKinds := [.data, .data, .data], laidTests := true, laidLooks := .later }
def ClientAsksCardSaid : Prop := Claim7.holds Tryd.pinned (.plain (OpenSpec.ofChange clientAsksSpec)) clientAsksCard

/-- THE SECOND FORM's CARD OF 'greatseallaw.ShowTrue'. -/
def showTrueUptoCard : Claim7 := { stood := { row := showTrueUptoRow, standIns := [], harness := (true, "71721469d89e05011383440ba981809bd2837bc83dced49467a516142a5c4fb5"), looks := false }, kinds := [], alts := [], laidByText := true, laidKinds := [.data, .data, .data], laidTests := true, laidLooks := .later }
def ShowTrueUptoCardSaid : Prop := Claim7.holds Tryd.pinned (.plain (OpenSpec.upto showTrueSpec)) showTrueUptoCard

/-- THE SECOND FORM's CARD OF 'greatseallaw.ClientTrue'. -/
def clientTrueUptoCard : Claim7 := { stood := { row := clientTrueUptoRow, standIns := [], harness := (true, "71721469d89e05011383440ba981809bd2837bc83dced49467a516142a5c4fb5"), looks := false }, kinds := [], alts := [], laidByText := true, laidKinds := [.data, .data, .data], laidTests := true, laidLooks := .later }
def ClientTrueUptoCardSaid : Prop := Claim7.holds Tryd.pinned (.plain (OpenSpec.upto clientTrueSpec)) clientTrueUptoCard

/-- THE SECOND FORM's CARD OF 'greatseallaw.ClientFollows'. -/
def clientFollowsUptoCard : Claim7 := { stood := { row := clientFollowsUptoRow, standIns := [], harness := (true, "71721469d89e05011383440ba981809bd2837bc83dced49467a516142a5c4fb5"), looks := false }, kinds := [], alts := [], laidByText := true, laidKinds := [.data, .data, .data], laidTests := true, laidLooks := .later }
def ClientFollowsUptoCardSaid : Prop := Claim7.holds Tryd.pinned (.plain (OpenSpec.upto clientFollowsSpec)) clientFollowsUptoCard

/-- THE SECOND FORM's CARD OF 'greatseallaw.ClientAsks'. -/
def clientAsksUptoCard : Claim7 := { stood := { row := clientAsksUptoRow, standIns := [], harness := (true, "71721469d89e05011383440ba981809bd2837bc83dced49467a516142a5c4fb5"), looks := false }, kinds := [], alts := [], laidByText := true, laidKinds := [.data, .data, .data], laidTests := true, laidLooks := .later }
def ClientAsksUptoCardSaid : Prop := Claim7.holds Tryd.pinned (.plain (OpenSpec.upto clientAsksSpec)) clientAsksUptoCard
end Rows
end Go.Proofs.YtolgikojliedlaeDoor
