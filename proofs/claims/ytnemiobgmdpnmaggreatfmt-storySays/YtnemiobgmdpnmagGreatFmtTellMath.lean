/-
  The closed fact that chapter 12's statements ask for, by plain lists.
-/
import Derived.Test.YtnemiobgmdpnmagGreatFmtStoryMath
namespace Go.Proofs.YtnemiobgmdpnmagGreatFmt
open Go Go.RowKit Go.Maps

def tellL : List HapB := [⟨1, 0, 0, 0, (5, ⟨#[120]⟩)⟩, ⟨2, 0, 0, 0, (0, ⟨#[]⟩)⟩, ⟨1, 1, 0, 0, (6, ⟨#[]⟩)⟩, ⟨1, 0, 0, 0, (5, ⟨#[120]⟩)⟩, ⟨3, 1, 0, 0, (0, ⟨#[]⟩)⟩]
def tellW : WB := playW newW tellL
theorem tell_w : worldE tellW = 0 := by decide +kernel
theorem tell_one : ofB tellW 0 1 = true := by decide +kernel
theorem tell_other : ofB tellW 0 0 = false := by decide +kernel
theorem tell_split : splitW tellW = 1 := by decide +kernel
theorem tell_e1 : ofE tellW 0 1 = 0 := by decide +kernel
theorem tell_e2 : ofE tellW 0 0 = 0 := by decide +kernel
theorem tell_e3 : ofE tellW 3 0 = 5 := by decide +kernel
theorem tell_e : runE newW tellL = 0 := run_good new_good (by decide)
theorem tell_r : runW newW tellL = tellW := if_pos tell_e
theorem tell_s : (runS newW tellL).length = 5 := by rw [show runS newW tellL = saidL newW tellL from if_pos tell_e, saidL_len]; rfl
end Go.Proofs.YtnemiobgmdpnmagGreatFmt
