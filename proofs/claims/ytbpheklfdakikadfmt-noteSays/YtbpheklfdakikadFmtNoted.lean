/-
  The closed fact of the heads' statements.
-/
import Derived.Test.YtbpheklfdakikadFmtNoteParse
namespace Go.Proofs.YtbpheklfdakikadFmt
open Go Go.RowKit

theorem ex_print : printV 2 ⟨#[97, 98]⟩ ⟨#[99, 32, 100]⟩ = ⟨#[50, 32, 50, 32, 51, 32, 97, 98, 99, 32, 100]⟩ := by
  rw [print_pos (by decide)]
  refine ba_ext ?_
  rw [printS_data]
  show writeL 2 2 3 ++ _ = _
  simp [writeL, Lib.decDigits_one]
theorem ex_bad : parseE ⟨#[50, 32, 50, 32, 52, 32, 97, 98, 99, 32, 100]⟩ = 1 := by
  have hr : readL (⟨#[50, 32, 50, 32, 52, 32, 97, 98, 99, 32, 100]⟩ : ByteArray).data.toList = some (2, 2, 4, [97, 98, 99, 32, 100]) := by
    have := read_write 2 2 4 [97, 98, 99, 32, 100] (by omega) (by omega) (by omega)
    rw [← this]
    simp [writeL, Lib.decDigits_one]
  refine (parse_none ?_).1
  unfold parseO
  rw [hr]
  exact if_neg (by decide)

set_option maxHeartbeats 1000000 in
set_option maxRecDepth 100000 in
theorem noted_any (w : World) (hE : Env w) :
    Calls Tryf.prog 25 #[] w fun e w' => e = .returned (.bool true) ∧ Below w.heap.size w w' := by
  have hpr := fun w' hE' => print_any 2 ⟨#[97, 98]⟩ ⟨#[99, 32, 100]⟩ w' hE'
  have h0 : headE 2 ⟨#[97, 98]⟩ ⟨#[99, 32, 100]⟩ = 0 := by decide
  obtain ⟨e1, e2, e3, e4⟩ := back_head h0
  rw [ex_print] at hpr e1 e2 e3 e4
  rw [h0] at hpr
  have hpa := fun w' hE' => parse_any ⟨#[50, 32, 50, 32, 51, 32, 97, 98, 99, 32, 100]⟩ w' hE' (by decide)
  rw [e1, e2, e3, e4] at hpa
  have hpb := fun w' hE' => parse_any ⟨#[50, 32, 50, 32, 52, 32, 97, 98, 99, 32, 100]⟩ w' hE' (by decide)
  rw [ex_bad] at hpb
  generalize parseN ⟨#[50, 32, 50, 32, 52, 32, 97, 98, 99, 32, 100]⟩ = N at hpb
  generalize parseA ⟨#[50, 32, 50, 32, 52, 32, 97, 98, 99, 32, 100]⟩ = A at hpb
  generalize parseB ⟨#[50, 32, 50, 32, 52, 32, 97, 98, 99, 32, 100]⟩ = B at hpb
  have HP := Lib.hid hpr
  have HA := Lib.hid hpa
  have HB := Lib.hid hpb
  clear hpr hpa hpb e1 e2 e3 e4 h0
  have q0 := heap_push w (.cells #[.int .i64 2, .string ⟨#[97, 98]⟩, .string ⟨#[99, 32, 100]⟩] 34)
  have hb0 : Below w.heap.size w (w.alloc (.cells #[.int .i64 2, .string ⟨#[97, 98]⟩, .string ⟨#[99, 32, 100]⟩] 34)) := (Below.refl _ _).alloc (Nat.le_refl _) _
  go_enter Tryf.func25, Tryf.ntmps25
  go_wp2_with fail
  generalize (w.alloc (.cells #[.int .i64 2, .string ⟨#[97, 98]⟩, .string ⟨#[99, 32, 100]⟩] 34)) = W at q0 hb0 ⊢
  refine (HP.out W (hE.on hb0).toTab).mono ?_
  rintro e w1 ⟨rfl, hb1⟩
  have q1 := heap_on hb1 q0
  have hb1 := below_on hb0 hb1
  clear q0 hb0 HP
  go_wp2_with fail
  refine (HA.out w1 (hE.on hb1)).mono ?_
  rintro e w2 ⟨rfl, hb2⟩
  have q2 := heap_on hb2 q1
  have hb2 := below_on hb1 hb2
  clear q1 hb1 HA
  have r2 := heap_old w2 (.cells #[.int .i64 2, .string ⟨#[97, 98]⟩, .string ⟨#[99, 32, 100]⟩] 34) q2
  have s2 := heap_push w2 (.cells #[.int .i64 2, .string ⟨#[97, 98]⟩, .string ⟨#[99, 32, 100]⟩] 34)
  have hb3 := hb2.alloc hb2.size (.cells #[.int .i64 2, .string ⟨#[97, 98]⟩, .string ⟨#[99, 32, 100]⟩] 34)
  go_wp2_with fail
  generalize (w2.alloc (.cells #[.int .i64 2, .string ⟨#[97, 98]⟩, .string ⟨#[99, 32, 100]⟩] 34)) = w3 at r2 s2 hb3 ⊢
  generalize w2.heap.size = B2 at s2 ⊢
  refine (HB.out w3 (hE.on hb3)).mono ?_
  rintro e w4 ⟨rfl, hb4⟩
  have r4 := heap_on hb4 r2
  have s4 := heap_on hb4 s2
  have hb4 := below_on hb3 hb4
  clear r2 s2 hb3 hb2 q2 HB
  have r5 := heap_old w4 (.cells #[.int .i64 N, .string A, .string B] 34) r4
  have s5 := heap_old w4 (.cells #[.int .i64 N, .string A, .string B] 34) s4
  have hb5 := hb4.alloc hb4.size (.cells #[.int .i64 N, .string A, .string B] 34)
  go_upto_region 5 with fail
  generalize (w4.alloc (.cells #[.int .i64 N, .string A, .string B] 34)) = w5 at r5 s5 hb5 ⊢
  have c0 := heap_cell r5 0 _ rfl
  have c1 := heap_cell r5 1 _ rfl
  have c2 := heap_cell r5 2 _ rfl
  have d0 := heap_cell s5 0 _ rfl
  have d1 := heap_cell s5 1 _ rfl
  have d2 := heap_cell s5 2 _ rfl
  go_wp2_with fail
  go_ret
  exact ⟨rfl, hb5⟩
end Go.Proofs.YtbpheklfdakikadFmt
