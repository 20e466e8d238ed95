/-
  The closed fact of the path's statements: the second one of three.
-/
import Derived.Test.YtpenammonkgkaabDoorPlanted
import Derived.Test.YtpenammonkgkaabDoorShows
import Derived.Test.YtpenammonkgkaabDoorStepSlices
namespace Go.Proofs.YtpenammonkgkaabDoor
open Go Go.RowKit

def tD : ByteArray := ⟨#[100]⟩
def tLA : ByteArray := ⟨#[76, 97]⟩
def tLC : ByteArray := ⟨#[76, 99]⟩
def pABC : List StepB := [(true, tLA), (false, tLC)]

theorem root_a : rootS [tA] = some tLA := by
  have e1 : leafS tA = tLA := by decide +kernel
  have k1 : leafO tA = some (leafS tA) := if_pos (by decide)
  rw [rootS_one (l := [tA]) rfl]
  show leafO tA = _
  rw [k1, e1]
theorem root_c : rootS [tC] = some tLC := by
  have e1 : leafS tC = tLC := by decide +kernel
  have k1 : leafO tC = some (leafS tC) := if_pos (by decide)
  rw [rootS_one (l := [tC]) rfl]
  show leafO tC = _
  rw [k1, e1]
theorem path_abc : pathS [tA, tB, tC] 1 = pABC := by
  have h3 : halfN 3 = 2 := by decide
  have h2 : halfN 2 = 1 := by decide
  have e1 : pathS [tA, tB] 1 = [(true, tLA)] := by
    rw [pathS_high (l := [tA, tB]) (by simp) (by show halfN 2 ≤ 1; rw [h2]; exact Nat.le_refl _)]
    show pathS (List.drop (halfN 2) [tA, tB]) (1 - halfN 2) ++ [(true, rootV (List.take (halfN 2) [tA, tB]))] = _
    rw [h2]
    show pathS [tB] 0 ++ [(true, rootV [tA])] = _
    rw [pathS_one (l := [tB]) (by simp), (root_pos root_a).1]
    rfl
  rw [pathS_low (l := [tA, tB, tC]) (by simp) (by show 1 < halfN 3; rw [h3]; omega)]
  show pathS (List.take (halfN 3) [tA, tB, tC]) 1 ++ [(false, rootV (List.drop (halfN 3) [tA, tB, tC]))] = _
  rw [h3]
  show pathS [tA, tB] 1 ++ [(false, rootV [tC])] = _
  rw [e1, (root_pos root_c).1]
  rfl
theorem show_b : showE tABC 3 1 tB pABC = 0 := by
  have h := (show_iff (l := [tA, tB, tC]) 1 tB pABC (by simp) root_abc).2 ⟨rfl, path_abc.symm⟩
  exact h
theorem show_d : showE tABC 3 1 tD pABC = 7 := by
  have hne : showE tABC 3 1 tD pABC ≠ 0 := by
    intro h
    have h' := (show_iff (l := [tA, tB, tC]) 1 tD pABC (by simp) root_abc).1 h
    exact absurd h'.1 (by decide +kernel)
  have hs : sidesN 3 1 = [true, false] := by
    have := pathS_map [tA, tB, tC] 1
    rw [path_abc] at this
    exact this.symm
  have e1 : leafO tD = some (leafS tD) := if_pos (by decide)
  have e2 : joinO (leafS tD) (true, tLA) = some (nodeS tLA (leafS tD)) := by
    unfold joinO
    rw [if_pos rfl]
    unfold nodeO
    exact if_pos (by decide +kernel)
  have z1 : (nodeS tLA (leafS tD)).size ≤ 20000 - 2 := by
    rw [nodeS_size, leafS_size]
    have h1 : tLA.size = 2 := by decide
    have h2 : tD.size = 1 := by decide
    have h3 := nDigits_le5 tLA.size (by omega)
    omega
  have z2 : tLC.size = 2 := by decide
  have e3 : joinO (nodeS tLA (leafS tD)) (false, tLC) = some (nodeS (nodeS tLA (leafS tD)) tLC) := by
    unfold joinO
    rw [if_neg (by decide)]
    unfold nodeO
    exact if_pos (by show _ + tLC.size ≤ _; omega)
  have key : showE tABC 3 1 tD pABC = if nodeS (nodeS tLA (leafS tD)) tLC = tABC then 0 else 7 := by
    unfold showE
    rw [if_neg (show ¬ ((3 : Int) < 1 ∨ 24 < (3 : Int)) by omega), if_neg (show ¬ ((1 : Int) < 0 ∨ (3 : Int) ≤ 1) by omega)]
    show (if pABC.length = (sidesN 3 1).length then (match leafO tD with | none => 2 | some x => walkE tABC x (sidesN 3 1) pABC) else 7) = _
    rw [hs, if_pos (show pABC.length = [true, false].length from rfl), e1]
    show walkE tABC (leafS tD) [true, false] [(true, tLA), (false, tLC)] = _
    unfold walkE
    rw [if_pos rfl, e2]
    show walkE tABC (nodeS tLA (leafS tD)) [false] [(false, tLC)] = _
    unfold walkE
    rw [if_pos rfl, e3]
    rfl
  rw [key] at hne ⊢
  split
  · rename_i h; rw [if_pos h] at hne; exact absurd rfl hne
  · rfl

theorem steps_laid (w : World) (l : List StepB) (t : TypeId) (hl : l.length ≤ 1000) (hs : ∀ s ∈ l, s.2.size ≤ 9223372036854775807) :
    StepsAt (w.alloc (.cells (stepCells l).toArray t)) (some ⟨w.heap.size, 0, none⟩) l.length l := by
  refine ⟨Nat.le_refl _, by omega, hs, fun _ => ⟨w.heap.size, 0, rfl, by show _ < (w.heap.push _).size; simp, fun i hi => ?_⟩⟩
  have hh : (w.alloc (.cells (stepCells l).toArray t)).heap[w.heap.size]? = some (.cells (stepCells l).toArray t) := by show (w.heap.push _)[w.heap.size]? = _; simp
  obtain ⟨e1, e2⟩ := stepCells_at l i hi
  unfold World.cell?
  simp only [hh, Nat.zero_add]
  exact ⟨by simp [e1], by simp [e2]⟩

set_option maxRecDepth 100000 in
theorem pathed_any (w : World) (hE : Tab w) :
    Calls Tryd.prog 11 #[] w fun e w' => e = .returned (.bool true) ∧ Below w.heap.size w w' := by
  have hl : Below w.heap.size w (w.alloc (.cells #[.string tA, .string tB, .string tC] 9)) := (Below.refl _ _).alloc (Nat.le_refl _) _
  have hE0 := hE.on hl
  have hS := strs_laid w [tA, tB, tC] 9 (by simp) (by intro s hs; simp only [List.mem_cons, List.not_mem_nil, or_false] at hs; rcases hs with rfl | rfl | rfl <;> decide)
  have hof := of_ok [tA, tB, tC] _ 3 3 1 tABC _ rfl hE0 hS root_abc (by omega)
  rw [path_abc] at hof
  go_enter Tryd.func11, Tryd.ntmps11
  go_wp2_with fail
  refine hof.mono ?_
  rintro e w1 ⟨a1, c1, rfl, _, hP, hb1⟩
  have hS := hS.on hb1
  have hb1 := below_on hl hb1
  have hE1 := hE.on hb1
  clear hl hE0 hof
  go_wp2_with fail
  refine (root_ok [tA, tB, tC] tABC root_abc _ 3 3 _ rfl hE1 hS).mono ?_
  rintro e w2 ⟨rfl, hb2⟩
  have hS := hS.on hb2
  have hP := hP.on hb2
  have hb2 := below_on hb1 hb2
  have hE2 := hE.on hb2
  clear hb1 hE1
  go_wp2_with fail
  refine (of_who [tA, tB, tC] _ 3 3 3 tABC _ rfl hE2 hS root_abc (by omega)).mono ?_
  rintro e w3 ⟨rfl, hb3⟩
  have hP := hP.on hb3
  have hb3 := below_on hb2 hb3
  clear hb2 hE2 hS
  have hl : Below w3.heap.size w3 (w3.alloc (.cells #[.bool true, .string tLA, .bool false, .string tLC] 41)) := (Below.refl _ _).alloc (Nat.le_refl _) _
  have hQ := steps_laid w3 pABC 41 (by decide) (by intro s hs; simp only [pABC, List.mem_cons, List.not_mem_nil, or_false] at hs; rcases hs with rfl | rfl <;> decide)
  have hP := hP.on hl
  have hb3 := below_on hb3 hl
  go_wp2_with fail
  refine (equal_steps pABC pABC _ _ 2 c1 2 2 _ rfl rfl hP hQ).mono ?_
  rintro e w4 ⟨rfl, hb4⟩
  have hP := hP.on hb4
  have hb4 := below_on hb3 hb4
  have hE4 := hE.on hb4
  clear hb3 hQ hl
  rw [decide_eq_true rfl]
  go_wp2_with fail
  refine (shows_any tABC 3 1 tB pABC _ 2 c1 w4 rfl hE4 hP).mono ?_
  rintro e w5 ⟨rfl, hb5⟩
  have hP := hP.on hb5
  have hb5 := below_on hb4 hb5
  have hE5 := hE.on hb5
  clear hb4 hE4
  rw [show_b]
  go_wp2_with fail
  refine (shows_any tABC 3 1 tD pABC _ 2 c1 w5 rfl hE5 hP).mono ?_
  rintro e w6 ⟨rfl, hb6⟩
  have hb6 := below_on hb5 hb6
  rw [show_d]
  go_wp2_with fail
  go_ret
  exact ⟨rfl, hb6⟩
end Go.Proofs.YtpenammonkgkaabDoor
