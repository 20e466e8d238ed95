/-
  DERIVED. GIVEN WITH THE SEED: THE CARDS: each row of YtdkmijejfmnncadDoorRows.lean that lists a variable, with what it lists TIED to the program's text (the seventh form; the later family's looks); each row that meets fmt, with fmt's text TOLD by the authors' own Lean function (tested against real Go, not proved from fmt's source: count such statements apart). THE CARD IS WHAT COUNTS. Prove the row's statement (the work); the ties are given (YtdkmijejfmnncadDoorTie.lean); close each card by the builder's one call (the guide's Derived/Test/ToyasCard.lean, 'card_holds'). Laid BY PROGRAM, IN A SANDBOX (cutbox-door.mjs). By AI agents, Wed Nov 11 2026. No macro, syntax, notation, axiom, sorry.
-/
import Derived.Test.YtdkmijejfmnncadDoorRows
import GoSem.ClaimSeven
namespace Go.Proofs.YtdkmijejfmnncadDoor
namespace Rows

/-- THE TIED CARD OF 'greatseallaw.TrieEach'. -/
def trieEachCard : Claim7 := { stood := { row := trieEachRow, standIns := [], harness := (true, "6068d08cdafd2e15a243fe66978b346c778b51401c862ec59055b7c7474230d1"), looks := false }, kinds := [], alts := [], laidByText := true, laidKinds := [.data, .data, .data], laidTests := true, laidLooks := .later }
def TrieEachCardSaid : Prop := Claim7.holds Tryd.pinned (.plain (OpenSpec.ofChange trieEachSpec)) trieEachCard

/-- THE SECOND FORM's CARD OF 'greatseallaw.TrieEach'. -/
def trieEachUptoCard : Claim7 := { stood := { row := trieEachUptoRow, standIns := [], harness := (true, "6068d08cdafd2e15a243fe66978b346c778b51401c862ec59055b7c7474230d1"), looks := false }, kinds := [], alts := [], laidByText := true, laidKinds := [.data, .data, .data], laidTests := true, laidLooks := .later }
def TrieEachUptoCardSaid : Prop := Claim7.holds Tryd.pinned (.plain (OpenSpec.upto trieEachSpec)) trieEachUptoCard
end Rows
end Go.Proofs.YtdkmijejfmnncadDoor
