/-
  NoteSays walked: any head is checked, printed, any text read as one, as the document's own reckoning has it, errors too.
-/
import Derived.Test.YtbpheklfdakikadFmtRefNoteRead
import Derived.Test.YtbpheklfdakikadFmtNoted
import Derived.Deep.RegionHeld3
namespace Go.Proofs.YtbpheklfdakikadFmt
open Go Go.RowKit Go.Kit Go.Extern.Stop Go.Stop Go.Extern

theorem held_heads {w5 cur w' : World} {b1 b2 b3 : Nat} {v1 v2 v3 v4 v5 v6 v7 v8 v9 : Value} (k1 : b1 < w5.heap.size) (k2 : b2 < w5.heap.size) (k3 : b3 < w5.heap.size)
    (h : Below w5.heap.size w5 cur ∧ cur.cell? ⟨b1, 0, none⟩ = some v1 ∧ cur.cell? ⟨b1, 1, none⟩ = some v2 ∧ cur.cell? ⟨b1, 2, none⟩ = some v3 ∧ cur.cell? ⟨b2, 0, none⟩ = some v4 ∧ cur.cell? ⟨b2, 1, none⟩ = some v5 ∧ cur.cell? ⟨b2, 2, none⟩ = some v6 ∧ cur.cell? ⟨b3, 0, none⟩ = some v7 ∧ cur.cell? ⟨b3, 1, none⟩ = some v8 ∧ cur.cell? ⟨b3, 2, none⟩ = some v9) (hb : Below cur.heap.size cur w') : Below w5.heap.size w5 w' ∧ w'.cell? ⟨b1, 0, none⟩ = some v1 ∧ w'.cell? ⟨b1, 1, none⟩ = some v2 ∧ w'.cell? ⟨b1, 2, none⟩ = some v3 ∧ w'.cell? ⟨b2, 0, none⟩ = some v4 ∧ w'.cell? ⟨b2, 1, none⟩ = some v5 ∧ w'.cell? ⟨b2, 2, none⟩ = some v6 ∧ w'.cell? ⟨b3, 0, none⟩ = some v7 ∧ w'.cell? ⟨b3, 1, none⟩ = some v8 ∧ w'.cell? ⟨b3, 2, none⟩ = some v9 := by
  have key : ∀ (b j : Nat) (u : Value), b < w5.heap.size → cur.cell? ⟨b, j, none⟩ = some u → w'.cell? ⟨b, j, none⟩ = some u := fun b j u hlt hu => by
    rw [hb.cell (Nat.lt_of_lt_of_le hlt h.1.size)]; exact hu
  obtain ⟨h0, h1, h2, h3, h4, h5, h6, h7, h8, h9⟩ := h
  exact ⟨below_on h0 hb, key _ _ _ k1 h1, key _ _ _ k1 h2, key _ _ _ k1 h3, key _ _ _ k2 h4, key _ _ _ k2 h5, key _ _ _ k2 h6, key _ _ _ k3 h7, key _ _ _ k3 h8, key _ _ _ k3 h9⟩

set_option maxHeartbeats 4000000 in
set_option maxRecDepth 100000 in
theorem noteSays_walk (F : Interp) (n : Int) (a b : ByteArray) (s : ByteArray) (w : World) (hE : Env w) (hF : F.told.answers w.tape) (hs : s.size ≤ 281474976710656) :
    Calls Tryf.prog 4 #[.agg #[.int .i64 n, .string a, .string b], .string s] w fun e w' => e = .returned (.bool true) ∧ Below w.heap.size w w' := by
  have hp1 := fun w' hE' => print_any n a b w' hE'
  have hp2 := fun w' hF' => headText_any F n a b w' hF'
  have hc1 := fun w' => ncheck_any n a b w'
  have hc2 := fun w' => checkHead_any n a b w'
  have hr1 := fun w' hE' => parse_any s w' hE' hs
  have hr2 := fun w' hE' => headRead_any s w' hE' hs
  generalize printV n a b = T1 at *
  generalize headE n a b = E1 at *
  generalize parseN s = N3 at *
  generalize parseA s = A3 at *
  generalize parseB s = B3 at *
  generalize parseE s = E3 at *
  have HP1 := Lib.hid hp1
  have HP2 := Lib.hid hp2
  have HC1 := Lib.hid hc1
  have HC2 := Lib.hid hc2
  have HR1 := Lib.hid hr1
  have HR2 := Lib.hid hr2
  clear hp1 hp2 hc1 hc2 hr1 hr2
  have q0 := heap_push w (.cells #[.int .i64 n, .string a, .string b] 34)
  have hb0 : Below w.heap.size w (w.alloc (.cells #[.int .i64 n, .string a, .string b] 34)) := (Below.refl _ _).alloc (Nat.le_refl _) _
  go_enter Tryf.func4, Tryf.ntmps4
  go_wp2_with fail
  generalize (w.alloc (.cells #[.int .i64 n, .string a, .string b] 34)) = W at q0 hb0 ⊢
  refine (HP1.out W (hE.on hb0).toTab).mono ?_
  rintro e w1 ⟨rfl, hb1⟩
  have q1 := heap_on hb1 q0
  have hb1 := below_on hb0 hb1
  clear q0 hb0 HP1
  go_wp2_with fail
  refine (HR1.out w1 (hE.on hb1)).mono ?_
  rintro e w2 ⟨rfl, hb2⟩
  have q2 := heap_on hb2 q1
  have hb2 := below_on hb1 hb2
  clear q1 hb1 HR1
  have q3 := heap_old w2 (.cells #[.int .i64 N3, .string A3, .string B3] 34) q2
  have s3 := heap_push w2 (.cells #[.int .i64 N3, .string A3, .string B3] 34)
  have hb3 := hb2.alloc hb2.size (.cells #[.int .i64 N3, .string A3, .string B3] 34)
  go_upto_region 3 with fail
  generalize (w2.alloc (.cells #[.int .i64 N3, .string A3, .string B3] 34)) = w3 at q3 s3 hb3 ⊢
  generalize w2.heap.size = B7 at s3 ⊢
  clear q2 hb2
  have d0 := heap_cell q3 0 _ rfl
  have d1 := heap_cell q3 1 _ rfl
  have d2 := heap_cell q3 2 _ rfl
  go_wp2_with fail
  clear d0 d1 d2
  refine (HP2.out w3 (by rw [hb3.tape]; exact hF)).mono ?_
  rintro e w4 ⟨rfl, hb4⟩
  have q4 := heap_on hb4 q3
  have s4 := heap_on hb4 s3
  have hb4 := below_on hb3 hb4
  clear q3 s3 hb3 HP2
  go_wp2_with fail
  refine (HR2.out w4 (hE.on hb4)).mono ?_
  rintro e w5 ⟨rfl, hb5⟩
  have q5 := heap_on hb5 q4
  have s5 := heap_on hb5 s4
  have hb5 := below_on hb4 hb5
  clear q4 s4 hb4 HR2
  have q6 := heap_old w5 (.cells #[.int .i64 N3, .string A3, .string B3] 34) q5
  have s6 := heap_old w5 (.cells #[.int .i64 N3, .string A3, .string B3] 34) s5
  have u6 := heap_push w5 (.cells #[.int .i64 N3, .string A3, .string B3] 34)
  have hb6 := hb5.alloc hb5.size (.cells #[.int .i64 N3, .string A3, .string B3] 34)
  go_upto_region 5 with fail
  generalize (w5.alloc (.cells #[.int .i64 N3, .string A3, .string B3] 34)) = w6 at q6 s6 u6 hb6 ⊢
  generalize w5.heap.size = B11 at u6 ⊢
  clear q5 s5 hb5
  have c0 := heap_cell q6 0 _ rfl
  have c1 := heap_cell q6 1 _ rfl
  have c2 := heap_cell q6 2 _ rfl
  have d0 := heap_cell s6 0 _ rfl
  have d1 := heap_cell s6 1 _ rfl
  have d2 := heap_cell s6 2 _ rfl
  have e0 := heap_cell u6 0 _ rfl
  have e1 := heap_cell u6 1 _ rfl
  have e2 := heap_cell u6 2 _ rfl
  have k1 := (Array.getElem?_eq_some_iff.1 q6).1
  have k2 := (Array.getElem?_eq_some_iff.1 s6).1
  have k3 := (Array.getElem?_eq_some_iff.1 u6).1
  have hS6 : Below w6.heap.size w6 w6.drew ∧ w6.drew.cell? ⟨w.heap.size, 0, none⟩ = some (.int .i64 n) ∧ w6.drew.cell? ⟨w.heap.size, 1, none⟩ = some (.string a) ∧ w6.drew.cell? ⟨w.heap.size, 2, none⟩ = some (.string b) ∧ w6.drew.cell? ⟨B7, 0, none⟩ = some (.int .i64 N3) ∧ w6.drew.cell? ⟨B7, 1, none⟩ = some (.string A3) ∧ w6.drew.cell? ⟨B7, 2, none⟩ = some (.string B3) ∧ w6.drew.cell? ⟨B11, 0, none⟩ = some (.int .i64 N3) ∧ w6.drew.cell? ⟨B11, 1, none⟩ = some (.string A3) ∧ w6.drew.cell? ⟨B11, 2, none⟩ = some (.string B3) := ⟨Below.drew (Below.refl _ _), c0, c1, c2, d0, d1, d2, e0, e1, e2⟩
  have CA := Lib.hid (fun w' (h : Below w6.heap.size w6 w' ∧ w'.cell? ⟨w.heap.size, 0, none⟩ = some (.int .i64 n) ∧ w'.cell? ⟨w.heap.size, 1, none⟩ = some (.string a) ∧ w'.cell? ⟨w.heap.size, 2, none⟩ = some (.string b) ∧ w'.cell? ⟨B7, 0, none⟩ = some (.int .i64 N3) ∧ w'.cell? ⟨B7, 1, none⟩ = some (.string A3) ∧ w'.cell? ⟨B7, 2, none⟩ = some (.string B3) ∧ w'.cell? ⟨B11, 0, none⟩ = some (.int .i64 N3) ∧ w'.cell? ⟨B11, 1, none⟩ = some (.string A3) ∧ w'.cell? ⟨B11, 2, none⟩ = some (.string B3)) => noted_any w' (hE.on (below_on hb6 h.1)))
  have CB := Lib.hid (fun w' (_ : Below w6.heap.size w6 w' ∧ w'.cell? ⟨w.heap.size, 0, none⟩ = some (.int .i64 n) ∧ w'.cell? ⟨w.heap.size, 1, none⟩ = some (.string a) ∧ w'.cell? ⟨w.heap.size, 2, none⟩ = some (.string b) ∧ w'.cell? ⟨B7, 0, none⟩ = some (.int .i64 N3) ∧ w'.cell? ⟨B7, 1, none⟩ = some (.string A3) ∧ w'.cell? ⟨B7, 2, none⟩ = some (.string B3) ∧ w'.cell? ⟨B11, 0, none⟩ = some (.int .i64 N3) ∧ w'.cell? ⟨B11, 1, none⟩ = some (.string A3) ∧ w'.cell? ⟨B11, 2, none⟩ = some (.string B3)) => HC1.out w')
  have CC := Lib.hid (fun w' (_ : Below w6.heap.size w6 w' ∧ w'.cell? ⟨w.heap.size, 0, none⟩ = some (.int .i64 n) ∧ w'.cell? ⟨w.heap.size, 1, none⟩ = some (.string a) ∧ w'.cell? ⟨w.heap.size, 2, none⟩ = some (.string b) ∧ w'.cell? ⟨B7, 0, none⟩ = some (.int .i64 N3) ∧ w'.cell? ⟨B7, 1, none⟩ = some (.string A3) ∧ w'.cell? ⟨B7, 2, none⟩ = some (.string B3) ∧ w'.cell? ⟨B11, 0, none⟩ = some (.int .i64 N3) ∧ w'.cell? ⟨B11, 1, none⟩ = some (.string A3) ∧ w'.cell? ⟨B11, 2, none⟩ = some (.string B3)) => HC2.out w')
  have HL := Lib.hid (fun w' (h : Below w6.heap.size w6 w' ∧ w'.cell? ⟨w.heap.size, 0, none⟩ = some (.int .i64 n) ∧ w'.cell? ⟨w.heap.size, 1, none⟩ = some (.string a) ∧ w'.cell? ⟨w.heap.size, 2, none⟩ = some (.string b) ∧ w'.cell? ⟨B7, 0, none⟩ = some (.int .i64 N3) ∧ w'.cell? ⟨B7, 1, none⟩ = some (.string A3) ∧ w'.cell? ⟨B7, 2, none⟩ = some (.string B3) ∧ w'.cell? ⟨B11, 0, none⟩ = some (.int .i64 N3) ∧ w'.cell? ⟨B11, 1, none⟩ = some (.string A3) ∧ w'.cell? ⟨B11, 2, none⟩ = some (.string B3)) => below_on hb6 h.1)
  clear q6 s6 u6 HC1 HC2 c0 c1 c2 d0 d1 d2 e0 e1 e2
  go_region_held3 (fun w' => Below w6.heap.size w6 w' ∧ w'.cell? ⟨w.heap.size, 0, none⟩ = some (.int .i64 n) ∧ w'.cell? ⟨w.heap.size, 1, none⟩ = some (.string a) ∧ w'.cell? ⟨w.heap.size, 2, none⟩ = some (.string b) ∧ w'.cell? ⟨B7, 0, none⟩ = some (.int .i64 N3) ∧ w'.cell? ⟨B7, 1, none⟩ = some (.string A3) ∧ w'.cell? ⟨B7, 2, none⟩ = some (.string B3) ∧ w'.cell? ⟨B11, 0, none⟩ = some (.int .i64 N3) ∧ w'.cell? ⟨B11, 1, none⟩ = some (.string A3) ∧ w'.cell? ⟨B11, 2, none⟩ = some (.string B3))
    (first | assumption | exact held_heads k1 k2 k3 (by assumption) (by assumption))
    (first
      | (go_at_call 25; with_reducible refine (CA.out _ (by assumption)).mono ?_; rintro e w' ⟨rfl, hb⟩)
      | (go_at_call 26; with_reducible refine (CB.out _ (by assumption)).mono ?_; rintro e w' ⟨rfl, hb⟩)
      | (go_at_call 27; with_reducible refine (CC.out _ (by assumption)).mono ?_; rintro e w' ⟨rfl, hb⟩))
  all_goals
    go_wp2_with fail
    go_ret
    exact ⟨rfl, HL.out _ (by assumption)⟩
end Go.Proofs.YtbpheklfdakikadFmt
