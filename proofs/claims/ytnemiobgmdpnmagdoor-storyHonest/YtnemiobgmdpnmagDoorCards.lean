/-
  DERIVED. GIVEN WITH THE SEED: THE CARDS: each row of YtnemiobgmdpnmagDoorRows.lean that lists a variable, with what it lists TIED to the program's text (the seventh form; the later family's looks); each row that meets fmt, with fmt's text TOLD by the authors' own Lean function (tested against real Go, not proved from fmt's source: count such statements apart). THE CARD IS WHAT COUNTS. Prove the row's statement (the work); the ties are given (YtnemiobgmdpnmagDoorTie.lean); close each card by the builder's one call (the guide's Derived/Test/ToyasCard.lean, 'card_holds'). Laid BY PROGRAM, IN A SANDBOX (cutbox-door.mjs). By AI agents, Wed Nov 11 2026. No macro, syntax, notation, axiom, sorry.
-/
import Derived.Test.YtnemiobgmdpnmagDoorRows
import GoSem.ClaimSeven
namespace Go.Proofs.YtnemiobgmdpnmagDoor
namespace Rows

/-- THE TIED CARD OF 'greatseallaw.StoryFork'. -/
def storyForkCard : Claim7 := { stood := { row := storyForkRow, standIns := [], harness := (true, "458bf5f0e7499ae5fa19e91644199784fcd81c2822f144753d89a705aa39689d"), looks := false }, kinds := [], alts := [], laidByText := true, laidKinds := [.data, .data, .data], laidTests := true, laidLooks := .later }
def StoryForkCardSaid : Prop := Claim7.holds Tryd.pinned (.plain (OpenSpec.ofChange storyForkSpec)) storyForkCard

/-- THE TIED CARD OF 'greatseallaw.StoryHonest'. -/
def storyHonestCard : Claim7 := { stood := { row := storyHonestRow, standIns := [], harness := (true, "458bf5f0e7499ae5fa19e91644199784fcd81c2822f144753d89a705aa39689d"), looks := false }, kinds := [], alts := [], laidByText := true, laidKinds := [.data, .data, .data], laidTests := true, laidLooks := .later }
def StoryHonestCardSaid : Prop := Claim7.holds Tryd.pinned (.plain (OpenSpec.ofChange storyHonestSpec)) storyHonestCard

/-- THE TIED CARD OF 'greatseallaw.StoryFollows'. -/
def storyFollowsCard : Claim7 := { stood := { row := storyFollowsRow, standIns := [], harness := (true, "458bf5f0e7499ae5fa19e91644199784fcd81c2822f144753d89a705aa39689d"), looks := false }, kinds := [], alts := [], laidByText := true, laidKinds := [.data, .data, .data], laidTests := true, laidLooks := .later }
def StoryFollowsCardSaid : Prop := Claim7.holds Tryd.pinned (.plain (OpenSpec.ofChange storyFollowsSpec)) storyFollowsCard

/-- THE TIED CARD OF 'greatseallaw.StoryCaught'. -/
def storyCaughtCard : Claim7 := { stood := { row := storyCaughtRow, standIns := [], harness := (true, "458bf5f0e7499ae5fa19e91644199784fcd81c2822f144753d89a705aa39689d"), looks := false }, kinds := [], alts := [], laidByText := true, laidKinds := [.data, .data, .data], laidTests := true, laidLooks := .later }
def StoryCaughtCardSaid : Prop := Claim7.holds Tryd.pinned (.plain (OpenSpec.ofChange storyCaughtSpec)) storyCaughtCard

/-- THE SECOND FORM's CARD OF 'greatseallaw.StoryFork'. -/
def storyForkUptoCard : Claim7 := { stood := { row := storyForkUptoRow, standIns := [], harness := (true, "458bf5f0e7499ae5fa19e91644199784fcd81c2822f144753d89a705aa39689d"), looks := false }, kinds := [], alts := [], laidByText := true, laidKinds := [.data, .data, .data], laidTests := true, laidLooks := .later }
def StoryForkUptoCardSaid : Prop := Claim7.holds Tryd.pinned (.plain (OpenSpec.upto storyForkSpec)) storyForkUptoCard

/-- THE SECOND FORM's CARD OF 'greatseallaw.StoryHonest'. -/
def storyHonestUptoCard : Claim7 := { stood := { row := storyHonestUptoRow, standIns := [], harness := (true, "458bf5f0e7499ae5fa19e91644199784fcd81c2822f144753d89a705aa39689d"), looks := false }, kinds := [], alts := [], laidByText := true, laidKinds := [.data, .data, .data], laidTests := true, laidLooks := .later }
def StoryHonestUptoCardSaid : Prop := Claim7.holds Tryd.pinned (.plain (OpenSpec.upto storyHonestSpec)) storyHonestUptoCard

/-- THE SECOND FORM's CARD OF 'greatseallaw.StoryFollows'. -/
def storyFollowsUptoCard : Claim7 := { stood := { row := storyFollowsUptoRow, standIns := [], harness := (true, "458bf5f0e7499ae5fa19e91644199784fcd81c2822f144753d89a705aa39689d"), looks := false }, kinds := [], alts := [], laidByText := true, laidKinds := [.data, .data, .data], laidTests := true, laidLooks := .later }
def StoryFollowsUptoCardSaid : Prop := Claim7.holds Tryd.pinned (.plain (OpenSpec.upto storyFollowsSpec)) storyFollowsUptoCard

/-- THE SECOND FORM's CARD OF 'greatseallaw.StoryCaught'. -/
def storyCaughtUptoCard : Claim7 := { stood := { row := storyCaughtUptoRow, standIns := [], harness := (true, "458bf5f0e7499ae5fa19e91644199784fcd81c2822f144753d89a705aa39689d"), looks := false }, kinds := [], alts := [], laidByText := true, laidKinds := [.data, .data, .data], laidTests := true, laidLooks := .later }
def StoryCaughtUptoCardSaid : Prop := Claim7.holds Tryd.pinned (.plain (OpenSpec.upto storyCaughtSpec)) storyCaughtUptoCard
end Rows
end Go.Proofs.YtnemiobgmdpnmagDoor
