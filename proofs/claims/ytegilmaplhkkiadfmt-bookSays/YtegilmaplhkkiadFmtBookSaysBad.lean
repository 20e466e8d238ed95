/-
  BookSays' walk: a bad book.
-/
import Derived.Test.YtegilmaplhkkiadFmtBookSaysHeld
import Derived.Deep.DeepCutAuto
namespace Go.Proofs.YtegilmaplhkkiadFmt
open Go Go.RowKit Go.Maps Go.Kit Go.Extern.Stop Go.Stop Go.Extern

set_option maxHeartbeats 8000000 in
set_option maxRecDepth 100000 in
theorem bookSays_bad (I : Interp) (l : List EntB) (a : Option Addr) (n c : Nat) (k : Int) (v : ByteArray) (w : World) (hE : Tab w) (hF : I.told.answers w.tape) (hn : l.length = n) (hS : EntsAt w a c l) (hbig : n ≤ 8796093022208) (hls : ∀ e ∈ l, e.2.size ≤ 140737488355328) (hx : WideEnt (k, v)) (hv : v.size ≤ 140737488355328) (h1 : bookE l ≠ 0) :
    Calls Tryf.prog 3 #[.agg #[.slice a n c], .agg #[.int .i64 k, .string v]] w fun e w' => e = .returned (.bool true) ∧ Below w.heap.size w w' := by
  have hh := fun w' hE hS => head_any l a n c w' hE hn hS
  have ho := fun w' hF hS => headOf_any I l a n c w' hF hn hS
  have hc := fun w' hS => checkBook_any l a n c w' hn hS
  have hd := fun w' hS => bcheck_any l a n c w' hn hS
  have ht := fun w' hE hS => texts_any l a n c w' hn hE hS hls hbig
  have hu := fun w' hF hS => textsOf_any I l a n c w' hn hF hS hls hbig
  have hq := fun a1 c1 a2 c2 w' h h' => equal_strs (textsE l) (textsE l) a1 a2 n c1 n c2 w' (by rw [textsE_len, hn]) (by rw [textsE_len, hn]) h h'
  rw [decide_eq_true (rfl : textsE l = textsE l)] at hq
  have hxt := fun w' hE => text_any k v w' hE hx.1 hx.2.1 hv
  have hxu := fun w' hF => textOf_any I k v w' hF hx.1 hx.2.1 hv
  have HV := Lib.hid (fun w' hS => vals_no l a n c w' hn hS _ rfl h1)
  have HP := Lib.hid (fun w' hS => put_bad l a n c k v w' hn hS _ rfl h1)
  generalize headN l = N at *
  generalize headL l = L at *
  generalize headM l = M at *
  generalize textE (k, v) = tx at *
  generalize bookE l = z at *
  have hzb : (z == 0) = false := by simp only [beq_eq_false_iff_ne, ne_eq]; exact h1
  generalize textsE l = ts at *
  have HH := Lib.hid hh
  have HO := Lib.hid ho
  have HC := Lib.hid hc
  have HD := Lib.hid hd
  have HT := Lib.hid ht
  have HU := Lib.hid hu
  have HQ := Lib.hid hq
  have HXT := Lib.hid hxt
  have HXU := Lib.hid hxu
  clear hh ho hc hd ht hu hq hxt hxu
  have hmax := hS.max
  have hcap := hS.cap
  obtain ⟨q0, q1, hb0⟩ := boxes2 w (.cells #[.slice a n c] 24) (.cells #[.int .i64 k, .string v] 26)
  go_enter Tryf.func3, Tryf.ntmps3
  go_wp2_with fail
  generalize ((w.alloc (.cells #[.slice a n c] 24)).alloc (.cells #[.int .i64 k, .string v] 26)) = W at q0 q1 hb0 ⊢
  refine (HV.out W (hS.on hb0)).mono ?_
  rintro e w1 ⟨rfl, hb1⟩
  have r0 := heap_on hb1 q0
  have r1 := heap_on hb1 q1
  have hb1 := below_on hb0 hb1
  clear hb0 q0 q1 HV
  have d0 := heap_cell r0 0 _ rfl
  have d1 := heap_cell r1 0 _ rfl
  have d2 := heap_cell r1 1 _ rfl
  go_wp2_with fail
  refine (HP.out w1 (hS.on hb1)).mono ?_
  rintro e w2 ⟨rfl, hb2⟩
  have s0 := heap_on hb2 r0
  have s1 := heap_on hb2 r1
  have hb2 := below_on hb1 hb2
  clear r0 r1 d0 d1 d2 hb1 HP
  have x3 := (Below.refl _ w2).alloc (Nat.le_refl _) (.cells #[.slice none 0 0] 24)
  have r7 := heap_push w2 (.cells #[.slice none 0 0] 24)
  have r0 := heap_on x3 s0
  have r1 := heap_on x3 s1
  have hb3 := below_on hb2 x3
  clear x3 s0 s1 hb2
  have d0 := heap_cell r0 0 _ rfl
  go_wp2_with fail
  generalize (w2.alloc (.cells #[.slice none 0 0] 24)) = w3 at *
  generalize w2.heap.size = B7 at *
  refine (HH.out w3 (hE.on hb3) (hS.on hb3)).mono ?_
  rintro e w4 ⟨rfl, hb4⟩
  have s0 := heap_on hb4 r0
  have s1 := heap_on hb4 r1
  have s7 := heap_on hb4 r7
  have hb4 := below_on hb3 hb4
  clear r0 r1 r7 d0 hb3 HH
  have x5 := (Below.refl _ w4).alloc (Nat.le_refl _) (.cells #[.int .i64 N, .string L, .string M] 34)
  have r9 := heap_push w4 (.cells #[.int .i64 N, .string L, .string M] 34)
  have r0 := heap_on x5 s0
  have r1 := heap_on x5 s1
  have r7 := heap_on x5 s7
  have hb5 := below_on hb4 x5
  clear x5 s0 s1 s7 hb4
  have d0 := heap_cell r0 0 _ rfl
  go_wp2_with fail
  generalize (w4.alloc (.cells #[.int .i64 N, .string L, .string M] 34)) = w5 at *
  generalize w4.heap.size = B9 at *
  refine (HC.out w5 (hS.on hb5)).mono ?_
  rintro e w6 ⟨rfl, hb6⟩
  have s0 := heap_on hb6 r0
  have s1 := heap_on hb6 r1
  have s7 := heap_on hb6 r7
  have s9 := heap_on hb6 r9
  have hb6 := below_on hb5 hb6
  clear r0 r1 r7 r9 d0 hb5
  have d0 := heap_cell s0 0 _ rfl
  go_wp2_with fail
  refine (HO.out w6 (by rw [hb6.tape]; exact hF) (hS.on hb6)).mono ?_
  rintro e w7 ⟨rfl, hb7⟩
  have r0 := heap_on hb7 s0
  have r1 := heap_on hb7 s1
  have r7 := heap_on hb7 s7
  have r9 := heap_on hb7 s9
  have hb7 := below_on hb6 hb7
  clear s0 s1 s7 s9 d0 hb6 HO
  have x8 := (Below.refl _ w7).alloc (Nat.le_refl _) (.cells #[.int .i64 N, .string L, .string M] 34)
  have s12 := heap_push w7 (.cells #[.int .i64 N, .string L, .string M] 34)
  have s0 := heap_on x8 r0
  have s1 := heap_on x8 r1
  have s7 := heap_on x8 r7
  have s9 := heap_on x8 r9
  have hb8 := below_on hb7 x8
  clear x8 r0 r1 r7 r9 hb7
  go_upto_region 6 with fail
  generalize (w7.alloc (.cells #[.int .i64 N, .string L, .string M] 34)) = w8 at *
  generalize w7.heap.size = B12 at *
  have k1 := (Array.getElem?_eq_some_iff.1 s0).1
  have k2 := (Array.getElem?_eq_some_iff.1 s1).1
  have k3 := (Array.getElem?_eq_some_iff.1 s9).1
  have k4 := (Array.getElem?_eq_some_iff.1 s12).1
  go_cut [76] (fun r w' => r = .bool false ∧ Below w8.heap.size w8 w')
  case first =>
    have hS0 : Below w8.heap.size w8 w8.drew ∧ w8.drew.cell? ⟨w.heap.size, 0, none⟩ = some (.slice a n c) ∧ w8.drew.cell? ⟨w.heap.size + 1, 0, none⟩ = some (.int .i64 k) ∧ w8.drew.cell? ⟨w.heap.size + 1, 1, none⟩ = some (.string v) ∧ w8.drew.cell? ⟨B9, 0, none⟩ = some (.int .i64 N) ∧ w8.drew.cell? ⟨B9, 1, none⟩ = some (.string L) ∧ w8.drew.cell? ⟨B9, 2, none⟩ = some (.string M) ∧ w8.drew.cell? ⟨B12, 0, none⟩ = some (.int .i64 N) ∧ w8.drew.cell? ⟨B12, 1, none⟩ = some (.string L) ∧ w8.drew.cell? ⟨B12, 2, none⟩ = some (.string M) := ⟨(Below.refl _ _).drew, heap_cell s0 0 _ rfl, heap_cell s1 0 _ rfl, heap_cell s1 1 _ rfl, heap_cell s9 0 _ rfl, heap_cell s9 1 _ rfl, heap_cell s9 2 _ rfl, heap_cell s12 0 _ rfl, heap_cell s12 1 _ rfl, heap_cell s12 2 _ rfl⟩
    have bk : ∀ w', (Below w8.heap.size w8 w' ∧ w'.cell? ⟨w.heap.size, 0, none⟩ = some (.slice a n c) ∧ w'.cell? ⟨w.heap.size + 1, 0, none⟩ = some (.int .i64 k) ∧ w'.cell? ⟨w.heap.size + 1, 1, none⟩ = some (.string v) ∧ w'.cell? ⟨B9, 0, none⟩ = some (.int .i64 N) ∧ w'.cell? ⟨B9, 1, none⟩ = some (.string L) ∧ w'.cell? ⟨B9, 2, none⟩ = some (.string M) ∧ w'.cell? ⟨B12, 0, none⟩ = some (.int .i64 N) ∧ w'.cell? ⟨B12, 1, none⟩ = some (.string L) ∧ w'.cell? ⟨B12, 2, none⟩ = some (.string M)) → Below w.heap.size w w' := fun w' h => below_on hb8 h.1
    have CA := Lib.hid (fun w' (h : Below w8.heap.size w8 w' ∧ w'.cell? ⟨w.heap.size, 0, none⟩ = some (.slice a n c) ∧ w'.cell? ⟨w.heap.size + 1, 0, none⟩ = some (.int .i64 k) ∧ w'.cell? ⟨w.heap.size + 1, 1, none⟩ = some (.string v) ∧ w'.cell? ⟨B9, 0, none⟩ = some (.int .i64 N) ∧ w'.cell? ⟨B9, 1, none⟩ = some (.string L) ∧ w'.cell? ⟨B9, 2, none⟩ = some (.string M) ∧ w'.cell? ⟨B12, 0, none⟩ = some (.int .i64 N) ∧ w'.cell? ⟨B12, 1, none⟩ = some (.string L) ∧ w'.cell? ⟨B12, 2, none⟩ = some (.string M)) => booked_any w' (hE.on (bk w' h)))
    have CB := Lib.hid (fun w' (h : Below w8.heap.size w8 w' ∧ w'.cell? ⟨w.heap.size, 0, none⟩ = some (.slice a n c) ∧ w'.cell? ⟨w.heap.size + 1, 0, none⟩ = some (.int .i64 k) ∧ w'.cell? ⟨w.heap.size + 1, 1, none⟩ = some (.string v) ∧ w'.cell? ⟨B9, 0, none⟩ = some (.int .i64 N) ∧ w'.cell? ⟨B9, 1, none⟩ = some (.string L) ∧ w'.cell? ⟨B9, 2, none⟩ = some (.string M) ∧ w'.cell? ⟨B12, 0, none⟩ = some (.int .i64 N) ∧ w'.cell? ⟨B12, 1, none⟩ = some (.string L) ∧ w'.cell? ⟨B12, 2, none⟩ = some (.string M)) => HD.out w' (hS.on (bk w' h)))
    have CC := Lib.hid (fun w' (h : Below w8.heap.size w8 w' ∧ w'.cell? ⟨w.heap.size, 0, none⟩ = some (.slice a n c) ∧ w'.cell? ⟨w.heap.size + 1, 0, none⟩ = some (.int .i64 k) ∧ w'.cell? ⟨w.heap.size + 1, 1, none⟩ = some (.string v) ∧ w'.cell? ⟨B9, 0, none⟩ = some (.int .i64 N) ∧ w'.cell? ⟨B9, 1, none⟩ = some (.string L) ∧ w'.cell? ⟨B9, 2, none⟩ = some (.string M) ∧ w'.cell? ⟨B12, 0, none⟩ = some (.int .i64 N) ∧ w'.cell? ⟨B12, 1, none⟩ = some (.string L) ∧ w'.cell? ⟨B12, 2, none⟩ = some (.string M)) => HXT.out w' (hE.on (bk w' h)))
    have CD := Lib.hid (fun w' (h : Below w8.heap.size w8 w' ∧ w'.cell? ⟨w.heap.size, 0, none⟩ = some (.slice a n c) ∧ w'.cell? ⟨w.heap.size + 1, 0, none⟩ = some (.int .i64 k) ∧ w'.cell? ⟨w.heap.size + 1, 1, none⟩ = some (.string v) ∧ w'.cell? ⟨B9, 0, none⟩ = some (.int .i64 N) ∧ w'.cell? ⟨B9, 1, none⟩ = some (.string L) ∧ w'.cell? ⟨B9, 2, none⟩ = some (.string M) ∧ w'.cell? ⟨B12, 0, none⟩ = some (.int .i64 N) ∧ w'.cell? ⟨B12, 1, none⟩ = some (.string L) ∧ w'.cell? ⟨B12, 2, none⟩ = some (.string M)) => HXU.out w' (by rw [(bk w' h).tape]; exact hF))
    have CE := Lib.hid (fun w' (h : Below w8.heap.size w8 w' ∧ w'.cell? ⟨w.heap.size, 0, none⟩ = some (.slice a n c) ∧ w'.cell? ⟨w.heap.size + 1, 0, none⟩ = some (.int .i64 k) ∧ w'.cell? ⟨w.heap.size + 1, 1, none⟩ = some (.string v) ∧ w'.cell? ⟨B9, 0, none⟩ = some (.int .i64 N) ∧ w'.cell? ⟨B9, 1, none⟩ = some (.string L) ∧ w'.cell? ⟨B9, 2, none⟩ = some (.string M) ∧ w'.cell? ⟨B12, 0, none⟩ = some (.int .i64 N) ∧ w'.cell? ⟨B12, 1, none⟩ = some (.string L) ∧ w'.cell? ⟨B12, 2, none⟩ = some (.string M)) => HT.out w' (hE.on (bk w' h)) (hS.on (bk w' h)))
    have CF := Lib.hid (fun w' (h : Below w8.heap.size w8 w' ∧ w'.cell? ⟨w.heap.size, 0, none⟩ = some (.slice a n c) ∧ w'.cell? ⟨w.heap.size + 1, 0, none⟩ = some (.int .i64 k) ∧ w'.cell? ⟨w.heap.size + 1, 1, none⟩ = some (.string v) ∧ w'.cell? ⟨B9, 0, none⟩ = some (.int .i64 N) ∧ w'.cell? ⟨B9, 1, none⟩ = some (.string L) ∧ w'.cell? ⟨B9, 2, none⟩ = some (.string M) ∧ w'.cell? ⟨B12, 0, none⟩ = some (.int .i64 N) ∧ w'.cell? ⟨B12, 1, none⟩ = some (.string L) ∧ w'.cell? ⟨B12, 2, none⟩ = some (.string M)) => HU.out w' (by rw [(bk w' h).tape]; exact hF) (hS.on (bk w' h)))
    have HL := Lib.hid (fun w' (h : Below w8.heap.size w8 w' ∧ w'.cell? ⟨w.heap.size, 0, none⟩ = some (.slice a n c) ∧ w'.cell? ⟨w.heap.size + 1, 0, none⟩ = some (.int .i64 k) ∧ w'.cell? ⟨w.heap.size + 1, 1, none⟩ = some (.string v) ∧ w'.cell? ⟨B9, 0, none⟩ = some (.int .i64 N) ∧ w'.cell? ⟨B9, 1, none⟩ = some (.string L) ∧ w'.cell? ⟨B9, 2, none⟩ = some (.string M) ∧ w'.cell? ⟨B12, 0, none⟩ = some (.int .i64 N) ∧ w'.cell? ⟨B12, 1, none⟩ = some (.string L) ∧ w'.cell? ⟨B12, 2, none⟩ = some (.string M)) => h.1)
    have HB := Lib.hid bk
    clear bk HD HXT HXU HT HU
    go_region_held3 (fun w' => Below w8.heap.size w8 w' ∧ w'.cell? ⟨w.heap.size, 0, none⟩ = some (.slice a n c) ∧ w'.cell? ⟨w.heap.size + 1, 0, none⟩ = some (.int .i64 k) ∧ w'.cell? ⟨w.heap.size + 1, 1, none⟩ = some (.string v) ∧ w'.cell? ⟨B9, 0, none⟩ = some (.int .i64 N) ∧ w'.cell? ⟨B9, 1, none⟩ = some (.string L) ∧ w'.cell? ⟨B9, 2, none⟩ = some (.string M) ∧ w'.cell? ⟨B12, 0, none⟩ = some (.int .i64 N) ∧ w'.cell? ⟨B12, 1, none⟩ = some (.string L) ∧ w'.cell? ⟨B12, 2, none⟩ = some (.string M))
      (first | assumption | exact held9 k1 k2 k3 k4 (by assumption) (by assumption))
      (first
        | (go_at_call 9; with_reducible refine (CA.out _ (by assumption)).mono ?_; rintro e w' ⟨rfl, hb⟩)
        | (go_at_call 10; with_reducible refine (CB.out _ (by assumption)).mono ?_; rintro e w' ⟨rfl, hb⟩)
        | (go_at_call 11; with_reducible refine (CC.out _ (by assumption)).mono ?_; rintro e w' ⟨rfl, hb⟩)
        | (go_at_call 12; with_reducible refine (CD.out _ (by assumption)).mono ?_; rintro e w' ⟨rfl, hb⟩)
        | (go_at_call 14; with_reducible refine (CE.out _ (by assumption)).mono ?_; rintro e w' ⟨a1, c1, rfl, hT1, hb⟩; try have hT2 := hT2.on hb)
        | (go_at_call 15; with_reducible refine (CF.out _ (by assumption)).mono ?_; rintro e w' ⟨a2, c2, rfl, hT2, hb⟩; try have hT1 := hT1.on hb)
        | (go_at_call 13; with_reducible refine (HQ.out _ _ _ _ _ (by assumption) (by assumption)).mono ?_; rintro e w' ⟨rfl, hb⟩))
    all_goals
      go_wp2_with fail
      go_meet
      case rel => exact ⟨rfl, HL.out _ (by assumption)⟩
  case rest =>
    obtain ⟨rfl, hbc⟩ := hcut
    have hb9 := below_on hb8 hbc
    have r0 := heap_on hbc s0
    have r1 := heap_on hbc s1
    have r7 := heap_on hbc s7
    obtain ⟨w9, hw9⟩ : ∃ x, x = wc := ⟨_, rfl⟩
    subst hw9
    clear hbc s0 s1 s7 s9 s12 hb8 k1 k2 k3 k4
    have d0 := heap_cell r0 0 _ rfl
    have d1 := heap_cell r1 0 _ rfl
    have d2 := heap_cell r1 1 _ rfl
    have d7 := heap_cell r7 0 _ rfl
    have ln : ∀ ty, (Builtin.len_ #[27] ty #[.map none]).run Tryf.prog w9 = .ok (.int .i64 0) w9 := fun ty => (show MapAt w9 none .nil from .inl ⟨rfl, rfl⟩).len ty
    go_wp2_with fail
    go_ret
    exact ⟨rfl, hb9⟩

end Go.Proofs.YtegilmaplhkkiadFmt
