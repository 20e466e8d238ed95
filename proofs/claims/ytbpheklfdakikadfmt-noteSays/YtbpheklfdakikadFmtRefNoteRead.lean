/-
  Chapter 7's Parse as the document's own reckoning has it.
-/
import Derived.Test.YtbpheklfdakikadFmtRefNote
import Derived.Test.YtbpheklfdakikadFmtSplitN
namespace Go.Proofs.YtbpheklfdakikadFmt
open Go Go.RowKit

theorem four_cells {w : World} {G c : Nat} {p0 p1 p2 p3 : ByteArray} (h : StrsAt w (some ⟨G, 0, none⟩) c [p0, p1, p2, p3]) : w.cell? ⟨G, 0, none⟩ = some (.string p0) ∧ w.cell? ⟨G, 1, none⟩ = some (.string p1) ∧ w.cell? ⟨G, 2, none⟩ = some (.string p2) ∧ w.cell? ⟨G, 3, none⟩ = some (.string p3) := by
  obtain ⟨b, off, ha, _, hc⟩ := h.cells (by simp)
  injection ha with ha
  injection ha with e1 e2 _
  subst e1 e2
  have h0 := hc 0 (by simp)
  have h1 := hc 1 (by simp)
  have h2 := hc 2 (by simp)
  have h3 := hc 3 (by simp)
  exact ⟨by simpa using h0, by simpa using h1, by simpa using h2, by simpa using h3⟩
theorem four_lt {w : World} {G c : Nat} {p0 p1 p2 p3 : ByteArray} (h : StrsAt w (some ⟨G, 0, none⟩) c [p0, p1, p2, p3]) : G < w.heap.size := by
  obtain ⟨b, off, ha, hlt, _⟩ := h.cells (by simp)
  injection ha with ha
  injection ha with e1 _ _
  subst e1
  exact hlt
theorem parseO_read {s : ByteArray} (h : readL s.data.toList = none) : parseO s = none := by unfold parseO; rw [h]
/- A number that is written so, by strconv.ParseInt and FormatInt. -/
theorem num_cases (p : ByteArray) : (numOf p.data.toList = none ∧ ∀ v, Lib.atoiAll p.data.toList ≠ .ok v) ∨ (∃ v, numOf p.data.toList = none ∧ Lib.atoiAll p.data.toList = .ok v ∧ itoaI v ≠ p) ∨ (∃ v, numOf p.data.toList = none ∧ Lib.atoiAll p.data.toList = .ok v ∧ itoaI v = p ∧ v < 0) ∨ (∃ v : Nat, numOf p.data.toList = some v ∧ Lib.atoiAll p.data.toList = .ok (v : Int) ∧ itoaI (v : Int) = p) := by
  have key : ∀ v, itoaI v = p ↔ Lib.itoa v = p.data.toList := fun v => ⟨fun h => by rw [← h]; simp [itoaI], fun h => ba_ext (by rw [← h]; simp [itoaI])⟩
  cases ha : Lib.atoiAll p.data.toList with
  | ok v =>
    by_cases h1 : itoaI v = p
    · by_cases h2 : v < 0
      · right; right; left
        exact ⟨v, by unfold numOf; rw [ha]; exact if_neg (by omega), rfl, h1, h2⟩
      · right; right; right
        obtain ⟨u, rfl⟩ : ∃ u : Nat, v = u := ⟨v.toNat, by omega⟩
        refine ⟨u, ?_, rfl, h1⟩
        unfold numOf
        rw [ha]
        exact if_pos ⟨by omega, (key _).1 h1⟩
    · right; left
      exact ⟨v, by unfold numOf; rw [ha]; exact if_neg (fun h => h1 ((key v).2 h.2)), rfl, h1⟩
  | «syntax» => exact .inl ⟨by unfold numOf; rw [ha], fun v h => by cases h⟩
  | range => exact .inl ⟨by unfold numOf; rw [ha], fun v h => by cases h⟩

set_option maxHeartbeats 1000000 in
set_option maxRecDepth 100000 in
theorem headRead_few (s : ByteArray) (w : World) (hs : s.size ≤ 281474976710656) (h4 : (pieces 3 s.data.toList).length < 4) :
    Calls Tryf.prog 24 #[.string s] w fun e w' => e = .returned (.tuple #[.agg #[.int .i64 0, .string ⟨#[]⟩, .string ⟨#[]⟩], .int .i64 1]) ∧ Below w.heap.size w w' := by
  have hsp := fun w' => splitN_any s w' hs
  generalize pieces 3 s.data.toList = ps at hsp h4
  have HS := Lib.hid hsp
  clear hsp
  have h4' : (ps.length : Int) < 4 := by omega
  have q0 := heap_push w (.cells #[.int .i64 0, .string ⟨#[]⟩, .string ⟨#[]⟩] 34)
  have hb0 : Below w.heap.size w (w.alloc (.cells #[.int .i64 0, .string ⟨#[]⟩, .string ⟨#[]⟩] 34)) := (Below.refl _ _).alloc (Nat.le_refl _) _
  go_enter Tryf.func24, Tryf.ntmps24
  go_wp2_with fail
  generalize (w.alloc (.cells #[.int .i64 0, .string ⟨#[]⟩, .string ⟨#[]⟩] 34)) = W at q0 hb0 ⊢
  refine (HS.out W).mono ?_
  rintro e w1 ⟨G, c, rfl, hSp, hb1⟩
  have r0 := heap_on hb1 q0
  have hb1 := below_on hb0 hb1
  clear hb0 q0 HS
  go_wp2_with (refine wpList_store_row rfl 34 (.tmp 2) (.tmp 17) rfl w.heap.size #[.int .i64 0, .string ⟨#[]⟩, .string ⟨#[]⟩] rfl rfl _ _ r0 (by kernel_rfl) rfl (head_cells _ _ _) ?_)
  have hb3 := below_setRow hb1 (g := w.heap.size) (Nat.le_refl _) #[.int .i64 0, .string ⟨#[]⟩, .string ⟨#[]⟩]
  refine bodyPost_ret (results_row_tmp rfl _ _ w.heap.size _ _ _ _ rfl (setRow_heap _ _ _ _ _ _ r0) Tryf.underlying34 rfl (by kernel_rfl)) rfl ?_
  exact ⟨rfl, hb3⟩

set_option maxHeartbeats 8000000 in
set_option maxRecDepth 100000 in
theorem headRead_four (s p0 p1 p2 R : ByteArray) (r0 r1 : List UInt8) (w : World) (hE : Env w) (hs : s.size ≤ 281474976710656) (hps : pieces 3 s.data.toList = [p0, p1, p2, R])
    (h0 : Lib.cut s.data.toList [32] = (p0.data.toList, r0, true)) (h1 : Lib.cut r0 [32] = (p1.data.toList, r1, true)) (h2 : Lib.cut r1 [32] = (p2.data.toList, R.data.toList, true)) :
    Calls Tryf.prog 24 #[.string s] w fun e w' => e = .returned (.tuple #[.agg #[.int .i64 (parseN s), .string (parseA s), .string (parseB s)], .int .i64 (parseE s)]) ∧ Below w.heap.size w w' := by
  have hsp := fun w' => splitN_any s w' hs
  rw [hps] at hsp
  have HS := Lib.hid hsp
  have l0 := cut32_le s.data.toList
  have l1 := cut32_le r0
  have l2 := cut32_le r1
  rw [h0, ← ba_size] at l0
  rw [h1] at l1
  rw [h2] at l2
  simp only [← ba_size] at l0 l1 l2
  have H0 := Lib.hid h0
  have H1 := Lib.hid h1
  have H2 := Lib.hid h2
  have z0 : p0.size ≤ 281474976710656 := by omega
  have z1 : p1.size ≤ 281474976710656 := by omega
  have z2 : p2.size ≤ 281474976710656 := by omega
  have z3 : R.size ≤ 281474976710656 := by omega
  clear hsp h0 h1 h2 hps l0 l1 l2
  have q0 := heap_push w (.cells #[.int .i64 0, .string ⟨#[]⟩, .string ⟨#[]⟩] 34)
  have hb0 : Below w.heap.size w (w.alloc (.cells #[.int .i64 0, .string ⟨#[]⟩, .string ⟨#[]⟩] 34)) := (Below.refl _ _).alloc (Nat.le_refl _) _
  go_enter Tryf.func24, Tryf.ntmps24
  go_wp2_with fail
  generalize (w.alloc (.cells #[.int .i64 0, .string ⟨#[]⟩, .string ⟨#[]⟩] 34)) = W at q0 hb0 ⊢
  refine (HS.out W).mono ?_
  rintro e w1 ⟨G, c, rfl, hSp, hb1⟩
  have r0 := heap_on hb1 q0
  have hb1 := below_on hb0 hb1
  have hB : w.heap.size < w1.heap.size := (Array.getElem?_eq_some_iff.1 r0).1
  clear hb0 q0 HS
  have s5 := heap_push w1 (.cells #[.int .i64 0, .int .i64 0, .int .i64 0] 70)
  have hb2 : Below w1.heap.size w1 (w1.alloc (.cells #[.int .i64 0, .int .i64 0, .int .i64 0] 70)) := (Below.refl _ _).alloc (Nat.le_refl _) _
  have hcap := hSp.cap
  have hmax := hSp.max
  simp only [List.length_cons, List.length_nil] at hcap
  go_wp2_with fail
  generalize (w1.alloc (.cells #[.int .i64 0, .int .i64 0, .int .i64 0] 70)) = w2 at s5 hb2 ⊢
  go_loopg [18] 3 (fun g s18 wr => Below w1.heap.size w1 wr ∧ ((s18 = .int .i64 0 ∧ 3 ≤ g ∧ wr.heap[w1.heap.size]? = some (.cells #[.int .i64 0, .int .i64 0, .int .i64 0] 70)) ∨ (s18 = .int .i64 1 ∧ 2 ≤ g ∧ ∃ x : Nat, numOf p0.data.toList = some x ∧ wr.heap[w1.heap.size]? = some (.cells #[.int .i64 (x : Int), .int .i64 0, .int .i64 0] 70)) ∨ (s18 = .int .i64 2 ∧ 1 ≤ g ∧ ∃ x y : Nat, numOf p0.data.toList = some x ∧ numOf p1.data.toList = some y ∧ wr.heap[w1.heap.size]? = some (.cells #[.int .i64 (x : Int), .int .i64 (y : Int), .int .i64 0] 70)) ∨ (s18 = .int .i64 3 ∧ ∃ x y z : Nat, numOf p0.data.toList = some x ∧ numOf p1.data.toList = some y ∧ numOf p2.data.toList = some z ∧ wr.heap[w1.heap.size]? = some (.cells #[.int .i64 (x : Int), .int .i64 (y : Int), .int .i64 (z : Int)] 70))))
  case atStart => exact ⟨hb2, .inl ⟨rfl, Nat.le_refl _, s5⟩⟩
  case round =>
    obtain ⟨hb, ⟨rfl, hg, s5⟩ | ⟨rfl, hg, x, nx, s5⟩ | ⟨rfl, hg, x, y, nx, ny, s5⟩ | ⟨rfl, x, y, z, nx, ny, nz, s5⟩⟩ := hrel
    · have hn := num_cases p0
      obtain ⟨c0, c1, c2, c3⟩ := four_cells (hSp.on hb)
      go_wp2_with fail
      clear c0 c1 c2 c3
      rcases hn with ⟨hn, hbad⟩ | ⟨v, hn, hok, hne⟩ | ⟨v, hn, hok, heq, hneg⟩ | ⟨v, hn, hok, heq⟩
      · have HB := Lib.hid hbad
        replace hn := Lib.hid hn
        clear hbad
        refine (pint_bad p0 wr ((hE.on hb1).on hb) z0 HB.out).mono ?_
        rintro e w3 ⟨n3, t3, q3, rfl, hb3⟩
        have hb3 := below_on hb hb3
        have rz := heap_on hb3 r0
        go_wp2_with fail
        go_quiet (fail)
        have rz' : (w3.drewN nq).heap[w.heap.size]? = _ := rz
        have hb4 := below_drewN hb3 nq
        have HN : Hid (parseO s = none) := parseO_read (readL_no (numL_neg H0.out (.inr hn.out)))
        go_wp2_with (refine wpList_store_row rfl 34 (.tmp 2) (.tmp 44) rfl w.heap.size #[.int .i64 0, .string ⟨#[]⟩, .string ⟨#[]⟩] rfl rfl _ _ rz' (by kernel_rfl) rfl (head_cells _ _ _) ?_)
        have hbz := below_setRow (hb1.trans (hb4.mono hb1.size)) (g := w.heap.size) (Nat.le_refl _) #[.int .i64 0, .string ⟨#[]⟩, .string ⟨#[]⟩]
        refine bodyPost_ret (results_row_tmp rfl _ _ w.heap.size _ _ _ _ rfl (setRow_heap _ _ _ _ _ _ rz') Tryf.underlying34 rfl (by kernel_rfl)) rfl ?_
        obtain ⟨e1, e2, e3, e4⟩ := parse_none HN.out
        exact ⟨by rw [e1, e2, e3, e4]; rfl, hbz⟩
      · have bnd := Lib.atoiAll_bounds hok
        have HOK := Lib.hid hok
        replace hn := Lib.hid hn
        have hq := str_ne hne
        clear hne
        clear hok
        refine (pint_ok p0 v wr z0 HOK.out).mono ?_
        rintro e w3 ⟨rfl, hb3⟩
        have s6 := heap_on hb3 s5
        have hb3 := below_on hb hb3
        obtain ⟨c0, c1, c2, c3⟩ := four_cells (hSp.on hb3)
        have cF := Lib.hid (format_in v bnd.1 bnd.2 w3 ((hE.on hb1).on hb3))
        have d0 := fun d os => cell_regrown c0 d os
        go_wp2_with fail
        refine wp_region_quiet_below (by kernel_rfl) (by kernel_rfl) ?_
        repeat (first | go_big_quiet_step (with_reducible exact cF.out _ _) | quiet_step (with_reducible exact cF.out _ _))
        refine wpQuiet_nil ?_
        intro _ hw'
        obtain ⟨⟨dq, osq⟩, hw''⟩ := hw'
        subst hw''
        have hbr := below_regrown w3 dq osq
        have hbq := below_on hb3 hbr
        have s7 := heap_on hbr s6
        generalize (Sort.grow (redrawn w3 dq) osq) = w4 at hbr hbq s7 ⊢
        clear cF d0 hbr c0
        have rz := heap_on hbq r0
        have HN : Hid (parseO s = none) := parseO_read (readL_no (numL_neg H0.out (.inr hn.out)))
        go_wp2_with (refine wpList_store_row rfl 34 (.tmp 2) (.tmp 44) rfl w.heap.size #[.int .i64 0, .string ⟨#[]⟩, .string ⟨#[]⟩] rfl rfl _ _ rz (by kernel_rfl) rfl (head_cells _ _ _) ?_)
        have hbz := below_setRow (hb1.trans (hbq.mono hb1.size)) (g := w.heap.size) (Nat.le_refl _) #[.int .i64 0, .string ⟨#[]⟩, .string ⟨#[]⟩]
        refine bodyPost_ret (results_row_tmp rfl _ _ w.heap.size _ _ _ _ rfl (setRow_heap _ _ _ _ _ _ rz) Tryf.underlying34 rfl (by kernel_rfl)) rfl ?_
        obtain ⟨e1, e2, e3, e4⟩ := parse_none HN.out
        exact ⟨by rw [e1, e2, e3, e4]; rfl, hbz⟩
      · have bnd := Lib.atoiAll_bounds hok
        have HOK := Lib.hid hok
        replace hn := Lib.hid hn
        have hq := str_eq heq
        clear heq
        clear hok
        refine (pint_ok p0 v wr z0 HOK.out).mono ?_
        rintro e w3 ⟨rfl, hb3⟩
        have s6 := heap_on hb3 s5
        have hb3 := below_on hb hb3
        obtain ⟨c0, c1, c2, c3⟩ := four_cells (hSp.on hb3)
        have cF := Lib.hid (format_in v bnd.1 bnd.2 w3 ((hE.on hb1).on hb3))
        have d0 := fun d os => cell_regrown c0 d os
        go_wp2_with fail
        refine wp_region_quiet_below (by kernel_rfl) (by kernel_rfl) ?_
        repeat (first | go_big_quiet_step (with_reducible exact cF.out _ _) | quiet_step (with_reducible exact cF.out _ _))
        refine wpQuiet_nil ?_
        intro _ hw'
        obtain ⟨⟨dq, osq⟩, hw''⟩ := hw'
        subst hw''
        have hbr := below_regrown w3 dq osq
        have hbq := below_on hb3 hbr
        have s7 := heap_on hbr s6
        generalize (Sort.grow (redrawn w3 dq) osq) = w4 at hbr hbq s7 ⊢
        clear cF d0 hbr c0
        have rz := heap_on hbq r0
        have HN : Hid (parseO s = none) := parseO_read (readL_no (numL_neg H0.out (.inr hn.out)))
        go_wp2_with (refine wpList_store_row rfl 34 (.tmp 2) (.tmp 44) rfl w.heap.size #[.int .i64 0, .string ⟨#[]⟩, .string ⟨#[]⟩] rfl rfl _ _ rz (by kernel_rfl) rfl (head_cells _ _ _) ?_)
        have hbz := below_setRow (hb1.trans (hbq.mono hb1.size)) (g := w.heap.size) (Nat.le_refl _) #[.int .i64 0, .string ⟨#[]⟩, .string ⟨#[]⟩]
        refine bodyPost_ret (results_row_tmp rfl _ _ w.heap.size _ _ _ _ rfl (setRow_heap _ _ _ _ _ _ rz) Tryf.underlying34 rfl (by kernel_rfl)) rfl ?_
        obtain ⟨e1, e2, e3, e4⟩ := parse_none HN.out
        exact ⟨by rw [e1, e2, e3, e4]; rfl, hbz⟩
      · have bnd := Lib.atoiAll_bounds hok
        have HOK := Lib.hid hok
        replace hn := Lib.hid hn
        have hq := str_eq heq
        clear heq
        clear hok
        refine (pint_ok p0 (v : Int) wr z0 HOK.out).mono ?_
        rintro e w3 ⟨rfl, hb3⟩
        have s6 := heap_on hb3 s5
        have hb3 := below_on hb hb3
        obtain ⟨c0, c1, c2, c3⟩ := four_cells (hSp.on hb3)
        have cF := Lib.hid (format_in (v : Int) bnd.1 bnd.2 w3 ((hE.on hb1).on hb3))
        have d0 := fun d os => cell_regrown c0 d os
        go_wp2_with fail
        refine wp_region_quiet_below (by kernel_rfl) (by kernel_rfl) ?_
        repeat (first | go_big_quiet_step (with_reducible exact cF.out _ _) | quiet_step (with_reducible exact cF.out _ _))
        refine wpQuiet_nil ?_
        intro _ hw'
        obtain ⟨⟨dq, osq⟩, hw''⟩ := hw'
        subst hw''
        have hbr := below_regrown w3 dq osq
        have hbq := below_on hb3 hbr
        have s7 := heap_on hbr s6
        generalize (Sort.grow (redrawn w3 dq) osq) = w4 at hbr hbq s7 ⊢
        clear cF d0 hbr c0
        have k0 := heap_cell s7 0 _ rfl
        have k1 := frozen_of_row w4 w1.heap.size 0 _ _ s7
        have hv0 : ¬ (v : Int) < 0 := by omega
        go_wp2_with fail
        have hg8 := set_grown w4 w1.heap.size 0 (.int .i64 (v : Int))
        have hb8 := hbq.grown hg8 hbq.size (fun j hj => by cases hj; omega)
        have s8 := heap_setCell_same w4 w1.heap.size 0 _ _ (.int .i64 (v : Int)) s7
        go_roundg 2
        case measure => omega
        case rel => exact ⟨hb8, .inr (.inl ⟨rfl, Nat.le_refl _, v, hn.out, s8⟩)⟩
    · have hn := num_cases p1
      have NX := Lib.hid nx
      clear nx
      obtain ⟨c0, c1, c2, c3⟩ := four_cells (hSp.on hb)
      go_wp2_with fail
      clear c0 c1 c2 c3
      rcases hn with ⟨hn, hbad⟩ | ⟨v, hn, hok, hne⟩ | ⟨v, hn, hok, heq, hneg⟩ | ⟨v, hn, hok, heq⟩
      · have HB := Lib.hid hbad
        replace hn := Lib.hid hn
        clear hbad
        refine (pint_bad p1 wr ((hE.on hb1).on hb) z1 HB.out).mono ?_
        rintro e w3 ⟨n3, t3, q3, rfl, hb3⟩
        have hb3 := below_on hb hb3
        have rz := heap_on hb3 r0
        go_wp2_with fail
        go_quiet (fail)
        have rz' : (w3.drewN nq).heap[w.heap.size]? = _ := rz
        have hb4 := below_drewN hb3 nq
        have HN : Hid (parseO s = none) := parseO_read (by rw [readL_go (numL_pos H0.out NX.out)]; exact read1_no (numL_neg H1.out (.inr hn.out)))
        go_wp2_with (refine wpList_store_row rfl 34 (.tmp 2) (.tmp 44) rfl w.heap.size #[.int .i64 0, .string ⟨#[]⟩, .string ⟨#[]⟩] rfl rfl _ _ rz' (by kernel_rfl) rfl (head_cells _ _ _) ?_)
        have hbz := below_setRow (hb1.trans (hb4.mono hb1.size)) (g := w.heap.size) (Nat.le_refl _) #[.int .i64 0, .string ⟨#[]⟩, .string ⟨#[]⟩]
        refine bodyPost_ret (results_row_tmp rfl _ _ w.heap.size _ _ _ _ rfl (setRow_heap _ _ _ _ _ _ rz') Tryf.underlying34 rfl (by kernel_rfl)) rfl ?_
        obtain ⟨e1, e2, e3, e4⟩ := parse_none HN.out
        exact ⟨by rw [e1, e2, e3, e4]; rfl, hbz⟩
      · have bnd := Lib.atoiAll_bounds hok
        have HOK := Lib.hid hok
        replace hn := Lib.hid hn
        have hq := str_ne hne
        clear hne
        clear hok
        refine (pint_ok p1 v wr z1 HOK.out).mono ?_
        rintro e w3 ⟨rfl, hb3⟩
        have s6 := heap_on hb3 s5
        have hb3 := below_on hb hb3
        obtain ⟨c0, c1, c2, c3⟩ := four_cells (hSp.on hb3)
        have cF := Lib.hid (format_in v bnd.1 bnd.2 w3 ((hE.on hb1).on hb3))
        have d0 := fun d os => cell_regrown c1 d os
        go_wp2_with fail
        refine wp_region_quiet_below (by kernel_rfl) (by kernel_rfl) ?_
        repeat (first | go_big_quiet_step (with_reducible exact cF.out _ _) | quiet_step (with_reducible exact cF.out _ _))
        refine wpQuiet_nil ?_
        intro _ hw'
        obtain ⟨⟨dq, osq⟩, hw''⟩ := hw'
        subst hw''
        have hbr := below_regrown w3 dq osq
        have hbq := below_on hb3 hbr
        have s7 := heap_on hbr s6
        generalize (Sort.grow (redrawn w3 dq) osq) = w4 at hbr hbq s7 ⊢
        clear cF d0 hbr c1
        have rz := heap_on hbq r0
        have HN : Hid (parseO s = none) := parseO_read (by rw [readL_go (numL_pos H0.out NX.out)]; exact read1_no (numL_neg H1.out (.inr hn.out)))
        go_wp2_with (refine wpList_store_row rfl 34 (.tmp 2) (.tmp 44) rfl w.heap.size #[.int .i64 0, .string ⟨#[]⟩, .string ⟨#[]⟩] rfl rfl _ _ rz (by kernel_rfl) rfl (head_cells _ _ _) ?_)
        have hbz := below_setRow (hb1.trans (hbq.mono hb1.size)) (g := w.heap.size) (Nat.le_refl _) #[.int .i64 0, .string ⟨#[]⟩, .string ⟨#[]⟩]
        refine bodyPost_ret (results_row_tmp rfl _ _ w.heap.size _ _ _ _ rfl (setRow_heap _ _ _ _ _ _ rz) Tryf.underlying34 rfl (by kernel_rfl)) rfl ?_
        obtain ⟨e1, e2, e3, e4⟩ := parse_none HN.out
        exact ⟨by rw [e1, e2, e3, e4]; rfl, hbz⟩
      · have bnd := Lib.atoiAll_bounds hok
        have HOK := Lib.hid hok
        replace hn := Lib.hid hn
        have hq := str_eq heq
        clear heq
        clear hok
        refine (pint_ok p1 v wr z1 HOK.out).mono ?_
        rintro e w3 ⟨rfl, hb3⟩
        have s6 := heap_on hb3 s5
        have hb3 := below_on hb hb3
        obtain ⟨c0, c1, c2, c3⟩ := four_cells (hSp.on hb3)
        have cF := Lib.hid (format_in v bnd.1 bnd.2 w3 ((hE.on hb1).on hb3))
        have d0 := fun d os => cell_regrown c1 d os
        go_wp2_with fail
        refine wp_region_quiet_below (by kernel_rfl) (by kernel_rfl) ?_
        repeat (first | go_big_quiet_step (with_reducible exact cF.out _ _) | quiet_step (with_reducible exact cF.out _ _))
        refine wpQuiet_nil ?_
        intro _ hw'
        obtain ⟨⟨dq, osq⟩, hw''⟩ := hw'
        subst hw''
        have hbr := below_regrown w3 dq osq
        have hbq := below_on hb3 hbr
        have s7 := heap_on hbr s6
        generalize (Sort.grow (redrawn w3 dq) osq) = w4 at hbr hbq s7 ⊢
        clear cF d0 hbr c1
        have rz := heap_on hbq r0
        have HN : Hid (parseO s = none) := parseO_read (by rw [readL_go (numL_pos H0.out NX.out)]; exact read1_no (numL_neg H1.out (.inr hn.out)))
        go_wp2_with (refine wpList_store_row rfl 34 (.tmp 2) (.tmp 44) rfl w.heap.size #[.int .i64 0, .string ⟨#[]⟩, .string ⟨#[]⟩] rfl rfl _ _ rz (by kernel_rfl) rfl (head_cells _ _ _) ?_)
        have hbz := below_setRow (hb1.trans (hbq.mono hb1.size)) (g := w.heap.size) (Nat.le_refl _) #[.int .i64 0, .string ⟨#[]⟩, .string ⟨#[]⟩]
        refine bodyPost_ret (results_row_tmp rfl _ _ w.heap.size _ _ _ _ rfl (setRow_heap _ _ _ _ _ _ rz) Tryf.underlying34 rfl (by kernel_rfl)) rfl ?_
        obtain ⟨e1, e2, e3, e4⟩ := parse_none HN.out
        exact ⟨by rw [e1, e2, e3, e4]; rfl, hbz⟩
      · have bnd := Lib.atoiAll_bounds hok
        have HOK := Lib.hid hok
        replace hn := Lib.hid hn
        have hq := str_eq heq
        clear heq
        clear hok
        refine (pint_ok p1 (v : Int) wr z1 HOK.out).mono ?_
        rintro e w3 ⟨rfl, hb3⟩
        have s6 := heap_on hb3 s5
        have hb3 := below_on hb hb3
        obtain ⟨c0, c1, c2, c3⟩ := four_cells (hSp.on hb3)
        have cF := Lib.hid (format_in (v : Int) bnd.1 bnd.2 w3 ((hE.on hb1).on hb3))
        have d0 := fun d os => cell_regrown c1 d os
        go_wp2_with fail
        refine wp_region_quiet_below (by kernel_rfl) (by kernel_rfl) ?_
        repeat (first | go_big_quiet_step (with_reducible exact cF.out _ _) | quiet_step (with_reducible exact cF.out _ _))
        refine wpQuiet_nil ?_
        intro _ hw'
        obtain ⟨⟨dq, osq⟩, hw''⟩ := hw'
        subst hw''
        have hbr := below_regrown w3 dq osq
        have hbq := below_on hb3 hbr
        have s7 := heap_on hbr s6
        generalize (Sort.grow (redrawn w3 dq) osq) = w4 at hbr hbq s7 ⊢
        clear cF d0 hbr c1
        have k0 := heap_cell s7 1 _ rfl
        have k1 := frozen_of_row w4 w1.heap.size 1 _ _ s7
        have hv0 : ¬ (v : Int) < 0 := by omega
        go_wp2_with fail
        have hg8 := set_grown w4 w1.heap.size 1 (.int .i64 (v : Int))
        have hb8 := hbq.grown hg8 hbq.size (fun j hj => by cases hj; omega)
        have s8 := heap_setCell_same w4 w1.heap.size 1 _ _ (.int .i64 (v : Int)) s7
        go_roundg 1
        case measure => omega
        case rel => exact ⟨hb8, .inr (.inr (.inl ⟨rfl, Nat.le_refl _, x, v, NX.out, hn.out, s8⟩))⟩
    · have hn := num_cases p2
      have NX := Lib.hid nx
      clear nx
      have NY := Lib.hid ny
      clear ny
      obtain ⟨c0, c1, c2, c3⟩ := four_cells (hSp.on hb)
      go_wp2_with fail
      clear c0 c1 c2 c3
      rcases hn with ⟨hn, hbad⟩ | ⟨v, hn, hok, hne⟩ | ⟨v, hn, hok, heq, hneg⟩ | ⟨v, hn, hok, heq⟩
      · have HB := Lib.hid hbad
        replace hn := Lib.hid hn
        clear hbad
        refine (pint_bad p2 wr ((hE.on hb1).on hb) z2 HB.out).mono ?_
        rintro e w3 ⟨n3, t3, q3, rfl, hb3⟩
        have hb3 := below_on hb hb3
        have rz := heap_on hb3 r0
        go_wp2_with fail
        go_quiet (fail)
        have rz' : (w3.drewN nq).heap[w.heap.size]? = _ := rz
        have hb4 := below_drewN hb3 nq
        have HN : Hid (parseO s = none) := parseO_read (by rw [readL_go (numL_pos H0.out NX.out), read1_go (numL_pos H1.out NY.out)]; exact read2_no (numL_neg H2.out (.inr hn.out)))
        go_wp2_with (refine wpList_store_row rfl 34 (.tmp 2) (.tmp 44) rfl w.heap.size #[.int .i64 0, .string ⟨#[]⟩, .string ⟨#[]⟩] rfl rfl _ _ rz' (by kernel_rfl) rfl (head_cells _ _ _) ?_)
        have hbz := below_setRow (hb1.trans (hb4.mono hb1.size)) (g := w.heap.size) (Nat.le_refl _) #[.int .i64 0, .string ⟨#[]⟩, .string ⟨#[]⟩]
        refine bodyPost_ret (results_row_tmp rfl _ _ w.heap.size _ _ _ _ rfl (setRow_heap _ _ _ _ _ _ rz') Tryf.underlying34 rfl (by kernel_rfl)) rfl ?_
        obtain ⟨e1, e2, e3, e4⟩ := parse_none HN.out
        exact ⟨by rw [e1, e2, e3, e4]; rfl, hbz⟩
      · have bnd := Lib.atoiAll_bounds hok
        have HOK := Lib.hid hok
        replace hn := Lib.hid hn
        have hq := str_ne hne
        clear hne
        clear hok
        refine (pint_ok p2 v wr z2 HOK.out).mono ?_
        rintro e w3 ⟨rfl, hb3⟩
        have s6 := heap_on hb3 s5
        have hb3 := below_on hb hb3
        obtain ⟨c0, c1, c2, c3⟩ := four_cells (hSp.on hb3)
        have cF := Lib.hid (format_in v bnd.1 bnd.2 w3 ((hE.on hb1).on hb3))
        have d0 := fun d os => cell_regrown c2 d os
        go_wp2_with fail
        refine wp_region_quiet_below (by kernel_rfl) (by kernel_rfl) ?_
        repeat (first | go_big_quiet_step (with_reducible exact cF.out _ _) | quiet_step (with_reducible exact cF.out _ _))
        refine wpQuiet_nil ?_
        intro _ hw'
        obtain ⟨⟨dq, osq⟩, hw''⟩ := hw'
        subst hw''
        have hbr := below_regrown w3 dq osq
        have hbq := below_on hb3 hbr
        have s7 := heap_on hbr s6
        generalize (Sort.grow (redrawn w3 dq) osq) = w4 at hbr hbq s7 ⊢
        clear cF d0 hbr c2
        have rz := heap_on hbq r0
        have HN : Hid (parseO s = none) := parseO_read (by rw [readL_go (numL_pos H0.out NX.out), read1_go (numL_pos H1.out NY.out)]; exact read2_no (numL_neg H2.out (.inr hn.out)))
        go_wp2_with (refine wpList_store_row rfl 34 (.tmp 2) (.tmp 44) rfl w.heap.size #[.int .i64 0, .string ⟨#[]⟩, .string ⟨#[]⟩] rfl rfl _ _ rz (by kernel_rfl) rfl (head_cells _ _ _) ?_)
        have hbz := below_setRow (hb1.trans (hbq.mono hb1.size)) (g := w.heap.size) (Nat.le_refl _) #[.int .i64 0, .string ⟨#[]⟩, .string ⟨#[]⟩]
        refine bodyPost_ret (results_row_tmp rfl _ _ w.heap.size _ _ _ _ rfl (setRow_heap _ _ _ _ _ _ rz) Tryf.underlying34 rfl (by kernel_rfl)) rfl ?_
        obtain ⟨e1, e2, e3, e4⟩ := parse_none HN.out
        exact ⟨by rw [e1, e2, e3, e4]; rfl, hbz⟩
      · have bnd := Lib.atoiAll_bounds hok
        have HOK := Lib.hid hok
        replace hn := Lib.hid hn
        have hq := str_eq heq
        clear heq
        clear hok
        refine (pint_ok p2 v wr z2 HOK.out).mono ?_
        rintro e w3 ⟨rfl, hb3⟩
        have s6 := heap_on hb3 s5
        have hb3 := below_on hb hb3
        obtain ⟨c0, c1, c2, c3⟩ := four_cells (hSp.on hb3)
        have cF := Lib.hid (format_in v bnd.1 bnd.2 w3 ((hE.on hb1).on hb3))
        have d0 := fun d os => cell_regrown c2 d os
        go_wp2_with fail
        refine wp_region_quiet_below (by kernel_rfl) (by kernel_rfl) ?_
        repeat (first | go_big_quiet_step (with_reducible exact cF.out _ _) | quiet_step (with_reducible exact cF.out _ _))
        refine wpQuiet_nil ?_
        intro _ hw'
        obtain ⟨⟨dq, osq⟩, hw''⟩ := hw'
        subst hw''
        have hbr := below_regrown w3 dq osq
        have hbq := below_on hb3 hbr
        have s7 := heap_on hbr s6
        generalize (Sort.grow (redrawn w3 dq) osq) = w4 at hbr hbq s7 ⊢
        clear cF d0 hbr c2
        have rz := heap_on hbq r0
        have HN : Hid (parseO s = none) := parseO_read (by rw [readL_go (numL_pos H0.out NX.out), read1_go (numL_pos H1.out NY.out)]; exact read2_no (numL_neg H2.out (.inr hn.out)))
        go_wp2_with (refine wpList_store_row rfl 34 (.tmp 2) (.tmp 44) rfl w.heap.size #[.int .i64 0, .string ⟨#[]⟩, .string ⟨#[]⟩] rfl rfl _ _ rz (by kernel_rfl) rfl (head_cells _ _ _) ?_)
        have hbz := below_setRow (hb1.trans (hbq.mono hb1.size)) (g := w.heap.size) (Nat.le_refl _) #[.int .i64 0, .string ⟨#[]⟩, .string ⟨#[]⟩]
        refine bodyPost_ret (results_row_tmp rfl _ _ w.heap.size _ _ _ _ rfl (setRow_heap _ _ _ _ _ _ rz) Tryf.underlying34 rfl (by kernel_rfl)) rfl ?_
        obtain ⟨e1, e2, e3, e4⟩ := parse_none HN.out
        exact ⟨by rw [e1, e2, e3, e4]; rfl, hbz⟩
      · have bnd := Lib.atoiAll_bounds hok
        have HOK := Lib.hid hok
        replace hn := Lib.hid hn
        have hq := str_eq heq
        clear heq
        clear hok
        refine (pint_ok p2 (v : Int) wr z2 HOK.out).mono ?_
        rintro e w3 ⟨rfl, hb3⟩
        have s6 := heap_on hb3 s5
        have hb3 := below_on hb hb3
        obtain ⟨c0, c1, c2, c3⟩ := four_cells (hSp.on hb3)
        have cF := Lib.hid (format_in (v : Int) bnd.1 bnd.2 w3 ((hE.on hb1).on hb3))
        have d0 := fun d os => cell_regrown c2 d os
        go_wp2_with fail
        refine wp_region_quiet_below (by kernel_rfl) (by kernel_rfl) ?_
        repeat (first | go_big_quiet_step (with_reducible exact cF.out _ _) | quiet_step (with_reducible exact cF.out _ _))
        refine wpQuiet_nil ?_
        intro _ hw'
        obtain ⟨⟨dq, osq⟩, hw''⟩ := hw'
        subst hw''
        have hbr := below_regrown w3 dq osq
        have hbq := below_on hb3 hbr
        have s7 := heap_on hbr s6
        generalize (Sort.grow (redrawn w3 dq) osq) = w4 at hbr hbq s7 ⊢
        clear cF d0 hbr c2
        have k0 := heap_cell s7 2 _ rfl
        have k1 := frozen_of_row w4 w1.heap.size 2 _ _ s7
        have hv0 : ¬ (v : Int) < 0 := by omega
        go_wp2_with fail
        have hg8 := set_grown w4 w1.heap.size 2 (.int .i64 (v : Int))
        have hb8 := hbq.grown hg8 hbq.size (fun j hj => by cases hj; omega)
        have s8 := heap_setCell_same w4 w1.heap.size 2 _ _ (.int .i64 (v : Int)) s7
        go_roundg 0
        case measure => omega
        case rel => exact ⟨hb8, .inr (.inr (.inr ⟨rfl, x, y, v, NX.out, NY.out, hn.out, s8⟩))⟩
    · have hr : readL s.data.toList = some (x, y, z, R.data.toList) := by rw [readL_go (numL_pos H0.out nx), read1_go (numL_pos H1.out ny)]; exact read2_go (numL_pos H2.out nz)
      obtain ⟨_, _, hy, hz⟩ := read_some hr
      clear nx ny nz
      obtain ⟨c0, c1, c2, c3⟩ := four_cells (hSp.on hb)
      have m0 := heap_cell s5 0 _ rfl
      have m1 := heap_cell s5 1 _ rfl
      have m2 := heap_cell s5 2 _ rfl
      have rz := heap_on hb r0
      clear c0 c1 c2
      by_cases hk : y + z = R.size
      · have hpo : parseO s = some (x, R.extract 0 y, R.extract y R.size) := by
          have x1 : R.extract 0 y = ⟨(R.data.toList.take y).toArray⟩ := by rw [Lib.extract_eq]; simp
          have x2 : R.extract y R.size = ⟨(R.data.toList.drop y).toArray⟩ := by rw [Lib.extract_eq, List.take_of_length_le (by rw [List.length_drop, ← ba_size]; omega)]
          rw [x1, x2]
          unfold parseO
          rw [hr]
          exact if_pos (by rw [← ba_size]; exact hk)
        have hck := fun w' => checkHead_any (x : Int) (R.extract 0 y) (R.extract y R.size) w'
        generalize hzz : headE (x : Int) (R.extract 0 y) (R.extract y R.size) = zh at hck
        have HPO := Lib.hid hpo
        have HZ := Lib.hid hzz
        have HC := Lib.hid hck
        clear hpo hck hzz hr
        have hgc : ¬ (R.size : Int) < (y : Int) := by omega
        have hzc : ((z : Int) == (R.size : Int) - (y : Int)) = true := by simp only [beq_iff_eq]; omega
        have b1 : (0 : Int) ≤ (y : Int) := by omega
        have b2 : (y : Int) ≤ (R.size : Int) := by omega
        go_upto_region 16 with fail
        have hlt := (Array.getElem?_eq_some_iff.1 s5).1
        have hltG := four_lt (hSp.on hb)
        go_region
        have s2 : (wr.alloc (.cells #[.int .i64 (x : Int), .string (R.extract 0 y), .string (R.extract y R.size)] 34)).drew.heap[w.heap.size]? = _ := heap_old wr _ rz
        have s3 : (wr.alloc (.cells #[.int .i64 (x : Int), .string (R.extract 0 y), .string (R.extract y R.size)] 34)).drew.heap[wr.heap.size]? = _ := heap_push wr _
        have hb3 := Below.drew (hb.alloc hb.size (.cells #[.int .i64 (x : Int), .string (R.extract 0 y), .string (R.extract y R.size)] 34))
        generalize (wr.alloc (.cells #[.int .i64 (x : Int), .string (R.extract 0 y), .string (R.extract y R.size)] 34)).drew = w3 at s2 s3 hb3 ⊢
        generalize wr.heap.size = B2 at s3 ⊢
        clear c3 m0 m1 m2 rz s5 hlt hb
        have k0 := heap_cell s3 0 _ rfl
        have k1 := heap_cell s3 1 _ rfl
        have k2 := heap_cell s3 2 _ rfl
        go_wp2_with fail
        clear k0 k1 k2
        refine (HC.out w3).mono ?_
        rintro e w4 ⟨rfl, hb4⟩
        have t2 := heap_on hb4 s2
        have t3 := heap_on hb4 s3
        have hb4 := below_on hb3 hb4
        clear s2 s3 hb3 HC
        have k0 := heap_cell t3 0 _ rfl
        have k1 := heap_cell t3 1 _ rfl
        have k2 := heap_cell t3 2 _ rfl
        by_cases h0 : zh = 0
        · subst h0
          go_wp2_with (refine wpList_store_row rfl 34 (.tmp 2) (.tmp 88) rfl w.heap.size #[.int .i64 (x : Int), .string (R.extract 0 y), .string (R.extract y R.size)] rfl rfl _ _ t2 (by kernel_rfl) rfl (head_cells _ _ _) ?_)
          have hbz := below_setRow (hb1.trans (hb4.mono hb1.size)) (g := w.heap.size) (Nat.le_refl _) #[.int .i64 (x : Int), .string (R.extract 0 y), .string (R.extract y R.size)]
          refine bodyPost_ret (results_row_tmp rfl _ _ w.heap.size _ _ _ _ rfl (setRow_heap _ _ _ _ _ _ t2) Tryf.underlying34 rfl (by kernel_rfl)) rfl ?_
          obtain ⟨e1, e2, e3, e4⟩ := parse_good HPO.out HZ.out
          exact ⟨by rw [e1, e2, e3, e4]; rfl, hbz⟩
        · have hz0 : (zh == 0) = false := by simp only [beq_eq_false_iff_ne, ne_eq]; exact h0
          go_wp2_with (refine wpList_store_row rfl 34 (.tmp 2) (.tmp 86) rfl w.heap.size #[.int .i64 0, .string ⟨#[]⟩, .string ⟨#[]⟩] rfl rfl _ _ t2 (by kernel_rfl) rfl (head_cells _ _ _) ?_)
          have hbz := below_setRow (hb1.trans (hb4.mono hb1.size)) (g := w.heap.size) (Nat.le_refl _) #[.int .i64 0, .string ⟨#[]⟩, .string ⟨#[]⟩]
          refine bodyPost_ret (results_row_tmp rfl _ _ w.heap.size _ _ _ _ rfl (setRow_heap _ _ _ _ _ _ t2) Tryf.underlying34 rfl (by kernel_rfl)) rfl ?_
          obtain ⟨e1, e2, e3, e4⟩ := parse_bad HPO.out (by rw [HZ.out]; exact h0)
          rw [HZ.out] at e1
          exact ⟨by rw [e1, e2, e3, e4]; rfl, hbz⟩
      · have hno : parseO s = none := by
          unfold parseO
          rw [hr]
          exact if_neg (by rw [← ba_size]; exact hk)
        have HNO := Lib.hid hno
        clear hno hr
        by_cases hgt : R.size < y
        · have hgc : (R.size : Int) < (y : Int) := by omega
          have HN : Hid (parseO s = none) := HNO.out
          go_wp2_with (refine wpList_store_row rfl 34 (.tmp 2) (.tmp 66) rfl w.heap.size #[.int .i64 0, .string ⟨#[]⟩, .string ⟨#[]⟩] rfl rfl _ _ rz (by kernel_rfl) rfl (head_cells _ _ _) ?_)
          have hbz := below_setRow (hb1.trans (hb.mono hb1.size)) (g := w.heap.size) (Nat.le_refl _) #[.int .i64 0, .string ⟨#[]⟩, .string ⟨#[]⟩]
          refine bodyPost_ret (results_row_tmp rfl _ _ w.heap.size _ _ _ _ rfl (setRow_heap _ _ _ _ _ _ rz) Tryf.underlying34 rfl (by kernel_rfl)) rfl ?_
          obtain ⟨e1, e2, e3, e4⟩ := parse_none HN.out
          exact ⟨by rw [e1, e2, e3, e4]; rfl, hbz⟩
        · have hgc : ¬ (R.size : Int) < (y : Int) := by omega
          have hzc : ((z : Int) == (R.size : Int) - (y : Int)) = false := by simp only [beq_eq_false_iff_ne, ne_eq]; omega
          have HN : Hid (parseO s = none) := HNO.out
          go_wp2_with (refine wpList_store_row rfl 34 (.tmp 2) (.tmp 66) rfl w.heap.size #[.int .i64 0, .string ⟨#[]⟩, .string ⟨#[]⟩] rfl rfl _ _ rz (by kernel_rfl) rfl (head_cells _ _ _) ?_)
          have hbz := below_setRow (hb1.trans (hb.mono hb1.size)) (g := w.heap.size) (Nat.le_refl _) #[.int .i64 0, .string ⟨#[]⟩, .string ⟨#[]⟩]
          refine bodyPost_ret (results_row_tmp rfl _ _ w.heap.size _ _ _ _ rfl (setRow_heap _ _ _ _ _ _ rz) Tryf.underlying34 rfl (by kernel_rfl)) rfl ?_
          obtain ⟨e1, e2, e3, e4⟩ := parse_none HN.out
          exact ⟨by rw [e1, e2, e3, e4]; rfl, hbz⟩

theorem headRead_any (s : ByteArray) (w : World) (hE : Env w) (hs : s.size ≤ 281474976710656) :
    Calls Tryf.prog 24 #[.string s] w fun e w' => e = .returned (.tuple #[.agg #[.int .i64 (parseN s), .string (parseA s), .string (parseB s)], .int .i64 (parseE s)]) ∧ Below w.heap.size w w' := by
  rcases pieces_four s.data.toList with ⟨h4, _, hr⟩ | ⟨d0, d1, d2, r0, r1, r2, hp, h0, h1, h2⟩
  · obtain ⟨e1, e2, e3, e4⟩ := parse_none (parseO_read hr)
    rw [e1, e2, e3, e4]
    exact headRead_few s w hs h4
  · exact headRead_four s ⟨d0.toArray⟩ ⟨d1.toArray⟩ ⟨d2.toArray⟩ ⟨r2.toArray⟩ r0 r1 w hE hs hp h0 h1 h2
end Go.Proofs.YtbpheklfdakikadFmt
