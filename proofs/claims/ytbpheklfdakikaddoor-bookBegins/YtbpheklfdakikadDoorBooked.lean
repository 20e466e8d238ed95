/-
  The closed fact of the books' statements: one book of three entries.
-/
import Derived.Test.YtbpheklfdakikadDoorBookHead
namespace Go.Proofs.YtbpheklfdakikadDoor
open Go Go.RowKit Go.Maps

def exB : List EntB := [(5, ⟨#[120]⟩), (9, ⟨#[121]⟩), (5, ⟨#[122]⟩)]
theorem exB_good : GoodBook exB := by
  refine ⟨by decide, fun e he => ?_⟩
  simp only [exB, List.mem_cons, List.not_mem_nil, or_false] at he
  rcases he with rfl | rfl | rfl <;> exact ⟨by decide, by decide, by decide⟩
theorem exB_far : bookE (exB ++ [(16, ⟨#[]⟩)]) = 5 := by decide +kernel
theorem exB_one : bookE (exB ++ [(1, ⟨#[119]⟩)]) = 0 := by decide +kernel
theorem exB_log : headLog exB = ⟨#[78, 49, 49, 58, 78, 52, 58, 76, 53, 32, 120, 76, 57, 32, 121, 76, 53, 32, 122]⟩ := by decide +kernel
theorem exB_size : Maps.size (valsD exB) = 2 := by decide +kernel
theorem exB_val : valS (valsD exB) 5 = ⟨#[122]⟩ := by decide +kernel
theorem exB_text : textE (1, ⟨#[119]⟩) = ⟨#[49, 32, 119]⟩ := by decide +kernel

theorem ents_heap {w : World} {g : Nat} {t : TypeId} {l : List EntB} (h : w.heap[g]? = some (.cells (entCells l).toArray t)) (hs : ∀ e ∈ l, WideEnt e) (hl : l.length ≤ 1000) : EntsAt w (some ⟨g, 0, none⟩) l.length l := by
  refine ⟨Nat.le_refl _, by omega, hs, fun _ => ⟨g, 0, rfl, (Array.getElem?_eq_some_iff.1 h).1, fun i hi => ?_⟩⟩
  obtain ⟨e1, e2⟩ := entCells_at l i hi
  rw [show 0 + i * 2 + 1 = i * 2 + 1 by omega, show 0 + i * 2 = i * 2 by omega]
  exact ⟨heap_cell h _ _ (by simpa using e1), heap_cell h _ _ (by simpa using e2)⟩
theorem wide_good {l : List EntB} (h : ∀ e ∈ l, GoodEnt e) : ∀ e ∈ l, WideEnt e := fun e he => by
  obtain ⟨h1, h2, h3⟩ := h e he
  exact ⟨by omega, by omega, by omega⟩

set_option maxRecDepth 100000 in
theorem entries_any (w : World) :
    Calls Tryd.prog 32 #[] w fun e w' => ∃ g, e = .returned (.agg #[.slice (some ⟨g, 0, none⟩) 3 3]) ∧ EntsAt w' (some ⟨g, 0, none⟩) 3 exB ∧ Below w.heap.size w w' := by
  obtain ⟨q0, q1, hb0⟩ := boxes2 w (.cells #[.slice (some ⟨w.heap.size + 1, 0, none⟩) 3 3] 37) (.cells (entCells exB).toArray 39)
  go_enter Tryd.func32, Tryd.ntmps32
  go_wp2_with fail
  refine bodyPost_ret (results_cell_row rfl _ _ w.heap.size _ _ _ _ rfl q0 Tryd.underlying37 rfl (by kernel_rfl)) rfl ?_
  exact ⟨_, rfl, ents_heap (l := exB) q1 (wide_good exB_good.2) (by decide), hb0⟩

theorem MapAt.count {w : World} {p : Option Nat} {D : DataW Unit} (h : MapAt w p D) (ty : TypeId) : (Builtin.len_ #[22] ty #[.map p]).run Tryd.prog w = .ok (.int .i64 (Maps.size D)) w := h.len ty

set_option maxHeartbeats 1000000 in
set_option maxRecDepth 100000 in
theorem booked_any (w : World) (hE : Tab w) :
    Calls Tryd.prog 14 #[] w fun e w' => e = .returned (.bool true) ∧ Below w.heap.size w w' := by
  have hhd := fun g w' hE hS => head_ok exB (some ⟨g, 0, none⟩) 3 3 w' hE rfl hS exB_good
  rw [exB_log] at hhd
  have hva := fun g w' hS => vals_ok exB (some ⟨g, 0, none⟩) 3 3 w' rfl hS exB_good
  have hp1 := fun g w' hS => put_no exB (some ⟨g, 0, none⟩) 3 3 16 ⟨#[]⟩ w' rfl hS ⟨by decide, by decide, by decide⟩ ((bookE_iff _).2 exB_good) 5 exB_far (by decide)
  have hp2 := fun g w' hS => put_ok exB (some ⟨g, 0, none⟩) 3 3 1 ⟨#[119]⟩ w' rfl hS ⟨by decide, by decide, by decide⟩ ((bookE_iff _).2 exB_good) exB_one
  have hck := fun g w' h => bcheck_any (exB ++ [(1, ⟨#[119]⟩)]) (some ⟨g, 0, none⟩) 4 4 w' rfl h
  rw [exB_one] at hck
  have htx := fun w' hE => text_any 1 ⟨#[119]⟩ w' hE (by decide) (by decide) (by decide)
  rw [exB_text] at htx
  have HH := Lib.hid hhd
  have HV := Lib.hid hva
  have HP1 := Lib.hid hp1
  have HP2 := Lib.hid hp2
  have HC := Lib.hid hck
  have HT := Lib.hid htx
  have hsz := exB_size
  have hvl := exB_val
  generalize headMap exB = hm at HH
  generalize valsD exB = D at HV hsz hvl
  have hx3 : entAt (exB ++ [(1, ⟨#[119]⟩)]) 3 = (1, ⟨#[119]⟩) := rfl
  have hx4 : (exB ++ [(1, (⟨#[119]⟩ : ByteArray))]).length = 4 := rfl
  generalize exB ++ [(1, (⟨#[119]⟩ : ByteArray))] = l4 at HP2 HC hx3 hx4
  clear hhd hva hp1 hp2 hck htx
  go_enter Tryd.func14, Tryd.ntmps14
  go_wp2_with fail
  refine (entries_any w).mono ?_
  rintro e w1 ⟨g1, rfl, hS1, hb1⟩
  go_wp2_with fail
  refine (HH.out g1 w1 (hE.on hb1) hS1).mono ?_
  rintro e w2 ⟨rfl, hb2⟩
  have hb2 := below_on hb1 hb2
  clear hb1 hS1 HH
  have q0 := heap_push w2 (.cells #[.int .i64 3, .string ⟨#[78, 49, 49, 58, 78, 52, 58, 76, 53, 32, 120, 76, 57, 32, 121, 76, 53, 32, 122]⟩, .string hm] 41)
  have hb3 := hb2.alloc hb2.size (.cells #[.int .i64 3, .string ⟨#[78, 49, 49, 58, 78, 52, 58, 76, 53, 32, 120, 76, 57, 32, 121, 76, 53, 32, 122]⟩, .string hm] 41)
  go_wp2_with fail
  generalize (w2.alloc (.cells #[.int .i64 3, .string ⟨#[78, 49, 49, 58, 78, 52, 58, 76, 53, 32, 120, 76, 57, 32, 121, 76, 53, 32, 122]⟩, .string hm] 41)) = w3 at q0 hb3 ⊢
  generalize w2.heap.size = B1 at q0 ⊢
  refine (entries_any w3).mono ?_
  rintro e w4 ⟨g2, rfl, hS4, hb4⟩
  have q1 := heap_on hb4 q0
  have hb4 := below_on hb3 hb4
  clear q0 hb3 hb2
  go_wp2_with fail
  refine (HV.out g2 w4 hS4).mono ?_
  rintro e w5 ⟨p, rfl, hM, _, hb5⟩
  have q0 := heap_on hb5 q1
  have hb5 := below_on hb4 hb5
  clear q1 hb4 hS4 HV
  go_wp2_with fail
  refine (entries_any w5).mono ?_
  rintro e w6 ⟨g3, rfl, hS6, hb6⟩
  have q1 := heap_on hb6 q0
  have hM := hM.on hb6
  have hb6 := below_on hb5 hb6
  clear q0 hb5
  go_wp2_with fail
  refine (HP1.out g3 w6 hS6).mono ?_
  rintro e w7 ⟨rfl, hb7⟩
  have q0 := heap_on hb7 q1
  have hM := hM.on hb7
  have hb7 := below_on hb6 hb7
  clear q1 hb6 hS6 HP1
  have hM8 := hM.on ((Below.refl _ w7).alloc (Nat.le_refl _) (.cells #[.slice none 0 0] 37))
  have q8 := heap_old w7 (.cells #[.slice none 0 0] 37) q0
  have hb8 := hb7.alloc hb7.size (.cells #[.slice none 0 0] 37)
  clear hM q0
  go_wp2_with fail
  generalize (w7.alloc (.cells #[.slice none 0 0] 37)) = w8 at q8 hM8 hb8 ⊢
  refine (entries_any w8).mono ?_
  rintro e w9 ⟨g4, rfl, hS9, hb9⟩
  have q9 := heap_on hb9 q8
  have hM9 := hM8.on hb9
  have hb9 := below_on hb8 hb9
  clear q8 hM8 hb8 hb7
  go_wp2_with fail
  refine (HP2.out g4 w9 hS9).mono ?_
  rintro e w10 ⟨g5, rfl, hS10, hb10⟩
  have q10 := heap_on hb10 q9
  have hM10 := hM9.on hb10
  have hb10 := below_on hb9 hb10
  clear q9 hM9 hb9 hS9 HP2
  have hbx := (Below.refl _ w10).alloc (Nat.le_refl _) (.cells #[.slice (some ⟨g5, 0, none⟩) 4 4] 37)
  have hM11 := hM10.on hbx
  have hS11 := hS10.on hbx
  have q11 := heap_old w10 (.cells #[.slice (some ⟨g5, 0, none⟩) 4 4] 37) q10
  have b11 := heap_push w10 (.cells #[.slice (some ⟨g5, 0, none⟩) 4 4] 37)
  have hb11 := hb10.alloc hb10.size (.cells #[.slice (some ⟨g5, 0, none⟩) 4 4] 37)
  clear q10 hM10 hS10 hbx
  go_upto_region 5 with fail
  generalize (w10.alloc (.cells #[.slice (some ⟨g5, 0, none⟩) 4 4] 37)) = w11 at q11 b11 hM11 hS11 hb11 ⊢
  generalize w10.heap.size = B2 at b11 ⊢
  have k0 := heap_cell q11 0 _ rfl
  have k1 := heap_cell q11 1 _ rfl
  have k2 := heap_cell b11 0 _ rfl
  have hln := hM11.len
  rw [hsz] at hln
  have hlk := hM11.look1 (k := 5) (by decide) (by decide)
  rw [hvl] at hlk
  go_wp2_with fail
  refine (HC.out g5 w11 hS11).mono ?_
  rintro e w12 ⟨rfl, hb12⟩
  have hS12 := hS11.on hb12
  have b12 := heap_on hb12 b11
  have hb12 := below_on hb11 hb12
  clear k0 k1 k2 hln hlk hM11 q11 b11 hb11 hS11 HC
  obtain ⟨b, off, hae, hlt, hcl⟩ := hS12.cells (by rw [hx4]; decide)
  injection hae with hae
  injection hae with e1 e2 _
  subst e1 e2
  obtain ⟨k0, k1⟩ := hcl 3 (by rw [hx4]; decide)
  rw [hx3] at k0 k1
  simp only at k0 k1
  have k2 := heap_cell b12 0 _ rfl
  clear hcl
  go_wp2_with fail
  refine (HT.out w12 (hE.on hb12)).mono ?_
  rintro e w13 ⟨rfl, hb13⟩
  have hb13 := below_on hb12 hb13
  go_wp2_with fail
  go_ret
  exact ⟨rfl, hb13⟩
end Go.Proofs.YtbpheklfdakikadDoor
