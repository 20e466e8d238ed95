/-
  The closed fact that chapter 11's statements ask for first, by plain lists.
-/
import Derived.Test.YthhckpnnjegldafDoorMaths
namespace Go.Proofs.YthhckpnnjegldafDoor
open Go Go.RowKit Go.Maps

def liedL : List HapB := [⟨1, 0, 0, 0, (5, ⟨#[120]⟩)⟩, ⟨2, 0, 0, 0, (0, ⟨#[]⟩)⟩, ⟨3, 0, 0, 0, (0, ⟨#[]⟩)⟩, ⟨3, 1, 1, 0, (0, ⟨#[]⟩)⟩, ⟨4, 0, 0, 1, (0, ⟨#[]⟩)⟩,
  ⟨1, 0, 0, 0, (5, ⟨#[121]⟩)⟩, ⟨1, 1, 0, 0, (5, ⟨#[122]⟩)⟩, ⟨3, 0, 0, 0, (0, ⟨#[]⟩)⟩, ⟨3, 1, 1, 0, (0, ⟨#[]⟩)⟩, ⟨5, 0, 0, 0, (5, ⟨#[]⟩)⟩, ⟨5, 1, 0, 0, (5, ⟨#[]⟩)⟩]
def liedM : List HapB := [⟨4, 0, 0, 1, (0, ⟨#[]⟩)⟩]
def liedW : WB := playW newW liedL
def liedV : WB := playW liedW liedM
theorem lied_said : saidL newW liedL = [0, 0, 0, 0, 0, 0, 0, 0, 0, 0, 7] := by decide +kernel
theorem lied_w : worldE liedW = 0 := by decide +kernel
theorem lied_calm : liedW.cs.map (·.2.2.2) = [false, false, false] := by decide +kernel
theorem lied_caught : liedV.cs.map (·.2.2.2) = [true, true, false] := by decide +kernel
theorem new_w : worldE newW = 0 := by decide +kernel
end Go.Proofs.YthhckpnnjegldafDoor
