/-
  Contracts of package note over this seat's dump: Parse.
-/
import Derived.Test.YtbpheklfdakikadFmtNoteRead
namespace Go.Proofs.YtbpheklfdakikadFmt
open Go Go.RowKit

/- Nothing is read. -/
set_option maxHeartbeats 1000000 in
set_option maxRecDepth 100000 in
theorem parse_unread (s : ByteArray) (w : World) (hE : Env w) (hs : s.size ≤ 281474976710656) (h : readL s.data.toList = none) :
    Calls Tryf.prog 22 #[.string s] w fun e w' => e = .returned (.tuple #[.agg #[.int .i64 0, .string ⟨#[]⟩, .string ⟨#[]⟩], .int .i64 1]) ∧ Below w.heap.size w w' := by
  have hrd := fun w' hE' => read_any s w' hE' hs
  rw [h] at hrd
  simp only [readV] at hrd
  have HR := Lib.hid hrd
  clear hrd h
  have q0 := heap_push w (.cells #[.int .i64 0, .string ⟨#[]⟩, .string ⟨#[]⟩] 34)
  have hb0 : Below w.heap.size w (w.alloc (.cells #[.int .i64 0, .string ⟨#[]⟩, .string ⟨#[]⟩] 34)) := (Below.refl _ _).alloc (Nat.le_refl _) _
  go_enter Tryf.func22, Tryf.ntmps22
  go_wp2_with fail
  generalize (w.alloc (.cells #[.int .i64 0, .string ⟨#[]⟩, .string ⟨#[]⟩] 34)) = W at q0 hb0 ⊢
  refine (HR.out W (hE.on hb0)).mono ?_
  rintro e w1 ⟨rfl, hb1⟩
  have r0 := heap_on hb1 q0
  have hb1 := below_on hb0 hb1
  clear hb0 q0 HR
  have s0 := heap_old w1 (.cells #[.int .i64 0, .int .i64 0, .int .i64 0] 65) r0
  have hb2 := hb1.alloc hb1.size (.cells #[.int .i64 0, .int .i64 0, .int .i64 0] 65)
  go_wp2_with (refine wpList_store_row rfl 34 (.tmp 2) (.tmp 29) rfl w.heap.size #[.int .i64 0, .string ⟨#[]⟩, .string ⟨#[]⟩] rfl rfl _ _ s0 (by kernel_rfl) rfl (head_cells _ _ _) ?_)
  have hb3 := below_setRow hb2 (g := w.heap.size) (Nat.le_refl _) #[.int .i64 0, .string ⟨#[]⟩, .string ⟨#[]⟩]
  refine bodyPost_ret (results_row_tmp rfl _ _ w.heap.size _ _ _ _ rfl (setRow_heap _ _ _ _ _ _ s0) Tryf.underlying34 rfl (by kernel_rfl)) rfl ?_
  exact ⟨rfl, hb3⟩

/- The lengths aren't those. -/
set_option maxRecDepth 100000 in
theorem parse_unlike (s R : ByteArray) (n k m : Nat) (w : World) (hE : Env w) (hs : s.size ≤ 281474976710656) (h : readL s.data.toList = some (n, k, m, R.data.toList)) (hk : k < 9223372036854775808) (hR : R.size ≤ 281474976710656) (hne : k + m ≠ R.size) :
    Calls Tryf.prog 22 #[.string s] w fun e w' => e = .returned (.tuple #[.agg #[.int .i64 0, .string ⟨#[]⟩, .string ⟨#[]⟩], .int .i64 1]) ∧ Below w.heap.size w w' := by
  have hrd := fun w' hE' => read_any s w' hE' hs
  rw [h] at hrd
  simp only [readV, Lib.mk_data] at hrd
  have HR := Lib.hid hrd
  have hneq : ((m : Int) == (R.size : Int) - (k : Int)) = false := by simp only [beq_eq_false_iff_ne, ne_eq]; omega
  clear hrd h hne
  have q0 := heap_push w (.cells #[.int .i64 0, .string ⟨#[]⟩, .string ⟨#[]⟩] 34)
  have hb0 : Below w.heap.size w (w.alloc (.cells #[.int .i64 0, .string ⟨#[]⟩, .string ⟨#[]⟩] 34)) := (Below.refl _ _).alloc (Nat.le_refl _) _
  go_enter Tryf.func22, Tryf.ntmps22
  go_wp2_with fail
  generalize (w.alloc (.cells #[.int .i64 0, .string ⟨#[]⟩, .string ⟨#[]⟩] 34)) = W at q0 hb0 ⊢
  refine (HR.out W (hE.on hb0)).mono ?_
  rintro e w1 ⟨rfl, hb1⟩
  have r0 := heap_on hb1 q0
  have hb1 := below_on hb0 hb1
  clear hb0 q0 HR
  have s0 := heap_old w1 (.cells #[.int .i64 (n : Int), .int .i64 (k : Int), .int .i64 (m : Int)] 65) r0
  have hb2 := hb1.alloc hb1.size (.cells #[.int .i64 (n : Int), .int .i64 (k : Int), .int .i64 (m : Int)] 65)
  go_wp2_with (refine wpList_store_row rfl 34 (.tmp 2) (.tmp 29) rfl w.heap.size #[.int .i64 0, .string ⟨#[]⟩, .string ⟨#[]⟩] rfl rfl _ _ s0 (by kernel_rfl) rfl (head_cells _ _ _) ?_)
  have hb3 := below_setRow hb2 (g := w.heap.size) (Nat.le_refl _) #[.int .i64 0, .string ⟨#[]⟩, .string ⟨#[]⟩]
  refine bodyPost_ret (results_row_tmp rfl _ _ w.heap.size _ _ _ _ rfl (setRow_heap _ _ _ _ _ _ s0) Tryf.underlying34 rfl (by kernel_rfl)) rfl ?_
  exact ⟨rfl, hb3⟩


set_option maxHeartbeats 1000000 in
set_option maxRecDepth 100000 in
theorem parse_refused (s R : ByteArray) (n k m : Nat) (w : World) (hE : Env w) (hs : s.size ≤ 281474976710656) (h : readL s.data.toList = some (n, k, m, R.data.toList)) (hR : R.size ≤ 281474976710656) (hkm : k + m = R.size) (z : Int) (hz : headE (n : Int) (R.extract 0 k) (R.extract k R.size) = z) (h0 : z ≠ 0) :
    Calls Tryf.prog 22 #[.string s] w fun e w' => e = .returned (.tuple #[.agg #[.int .i64 0, .string ⟨#[]⟩, .string ⟨#[]⟩], .int .i64 z]) ∧ Below w.heap.size w w' := by
  have hrd := fun w' hE' => read_any s w' hE' hs
  rw [h] at hrd
  simp only [readV, Lib.mk_data] at hrd
  have HR := Lib.hid hrd
  have hneq : ((m : Int) == (R.size : Int) - (k : Int)) = true := by simp only [beq_iff_eq]; omega
  have c1 : (0 : Int) ≤ (k : Int) := by omega
  have c2 : (k : Int) ≤ (R.size : Int) := by omega
  have hck := fun w' => ncheck_any (n : Int) (R.extract 0 k) (R.extract k R.size) w'
  rw [hz] at hck
  have HC := Lib.hid hck
  have hz0 : (z == 0) = false := by simp only [beq_eq_false_iff_ne, ne_eq]; exact h0
  clear hrd h hkm hck hz
  have q0 := heap_push w (.cells #[.int .i64 0, .string ⟨#[]⟩, .string ⟨#[]⟩] 34)
  have hb0 : Below w.heap.size w (w.alloc (.cells #[.int .i64 0, .string ⟨#[]⟩, .string ⟨#[]⟩] 34)) := (Below.refl _ _).alloc (Nat.le_refl _) _
  go_enter Tryf.func22, Tryf.ntmps22
  go_wp2_with fail
  generalize (w.alloc (.cells #[.int .i64 0, .string ⟨#[]⟩, .string ⟨#[]⟩] 34)) = W at q0 hb0 ⊢
  refine (HR.out W (hE.on hb0)).mono ?_
  rintro e w1 ⟨rfl, hb1⟩
  have r0 := heap_on hb1 q0
  have hb1 := below_on hb0 hb1
  clear hb0 q0 HR
  have s0 := heap_old w1 (.cells #[.int .i64 (n : Int), .int .i64 (k : Int), .int .i64 (m : Int)] 65) r0
  have s1 := heap_push w1 (.cells #[.int .i64 (n : Int), .int .i64 (k : Int), .int .i64 (m : Int)] 65)
  have hb2 := hb1.alloc hb1.size (.cells #[.int .i64 (n : Int), .int .i64 (k : Int), .int .i64 (m : Int)] 65)
  go_upto_region 5 with fail
  generalize (w1.alloc (.cells #[.int .i64 (n : Int), .int .i64 (k : Int), .int .i64 (m : Int)] 65)) = w2 at s0 s1 hb2 ⊢
  generalize w1.heap.size = B1 at s1 ⊢
  have k0 := heap_cell s1 0 _ rfl
  have hlt := (Array.getElem?_eq_some_iff.1 s1).1
  go_region
  have s2 : (w2.alloc (.cells #[.int .i64 (n : Int), .string (R.extract 0 k), .string (R.extract k R.size)] 34)).drew.heap[w.heap.size]? = _ := heap_old w2 _ s0
  have s3 : (w2.alloc (.cells #[.int .i64 (n : Int), .string (R.extract 0 k), .string (R.extract k R.size)] 34)).drew.heap[w2.heap.size]? = _ := heap_push w2 _
  have hb3 := Below.drew (hb2.alloc hb2.size (.cells #[.int .i64 (n : Int), .string (R.extract 0 k), .string (R.extract k R.size)] 34))
  generalize (w2.alloc (.cells #[.int .i64 (n : Int), .string (R.extract 0 k), .string (R.extract k R.size)] 34)).drew = w3 at s2 s3 hb3 ⊢
  generalize w2.heap.size = B2 at s3 ⊢
  clear k0 s0 s1 hb2 hlt
  have k0 := heap_cell s3 0 _ rfl
  have k1 := heap_cell s3 1 _ rfl
  have k2 := heap_cell s3 2 _ rfl
  go_wp2_with fail
  clear k0 k1 k2
  refine (HC.out w3).mono ?_
  rintro e w4 ⟨rfl, hb4⟩
  have t2 := heap_on hb4 s2
  have t3 := heap_on hb4 s3
  have hb4 := below_on hb3 hb4
  clear s2 s3 hb3 HC
  have k0 := heap_cell t3 0 _ rfl
  have k1 := heap_cell t3 1 _ rfl
  have k2 := heap_cell t3 2 _ rfl
  go_wp2_with (refine wpList_store_row rfl 34 (.tmp 2) (.tmp 43) rfl w.heap.size #[.int .i64 0, .string ⟨#[]⟩, .string ⟨#[]⟩] rfl rfl _ _ t2 (by kernel_rfl) rfl (head_cells _ _ _) ?_)
  have hb5 := below_setRow hb4 (g := w.heap.size) (Nat.le_refl _) #[.int .i64 0, .string ⟨#[]⟩, .string ⟨#[]⟩]
  refine bodyPost_ret (results_row_tmp rfl _ _ w.heap.size _ _ _ _ rfl (setRow_heap _ _ _ _ _ _ t2) Tryf.underlying34 rfl (by kernel_rfl)) rfl ?_
  exact ⟨rfl, hb5⟩


set_option maxHeartbeats 1000000 in
set_option maxRecDepth 100000 in
theorem parse_taken (s R : ByteArray) (n k m : Nat) (w : World) (hE : Env w) (hs : s.size ≤ 281474976710656) (h : readL s.data.toList = some (n, k, m, R.data.toList)) (hR : R.size ≤ 281474976710656) (hkm : k + m = R.size) (hz : headE (n : Int) (R.extract 0 k) (R.extract k R.size) = 0) :
    Calls Tryf.prog 22 #[.string s] w fun e w' => e = .returned (.tuple #[.agg #[.int .i64 (n : Int), .string (R.extract 0 k), .string (R.extract k R.size)], .int .i64 0]) ∧ Below w.heap.size w w' := by
  have hrd := fun w' hE' => read_any s w' hE' hs
  rw [h] at hrd
  simp only [readV, Lib.mk_data] at hrd
  have HR := Lib.hid hrd
  have hneq : ((m : Int) == (R.size : Int) - (k : Int)) = true := by simp only [beq_iff_eq]; omega
  have c1 : (0 : Int) ≤ (k : Int) := by omega
  have c2 : (k : Int) ≤ (R.size : Int) := by omega
  have hck := fun w' => ncheck_any (n : Int) (R.extract 0 k) (R.extract k R.size) w'
  rw [hz] at hck
  have HC := Lib.hid hck
  clear hrd h hkm hck hz
  have q0 := heap_push w (.cells #[.int .i64 0, .string ⟨#[]⟩, .string ⟨#[]⟩] 34)
  have hb0 : Below w.heap.size w (w.alloc (.cells #[.int .i64 0, .string ⟨#[]⟩, .string ⟨#[]⟩] 34)) := (Below.refl _ _).alloc (Nat.le_refl _) _
  go_enter Tryf.func22, Tryf.ntmps22
  go_wp2_with fail
  generalize (w.alloc (.cells #[.int .i64 0, .string ⟨#[]⟩, .string ⟨#[]⟩] 34)) = W at q0 hb0 ⊢
  refine (HR.out W (hE.on hb0)).mono ?_
  rintro e w1 ⟨rfl, hb1⟩
  have r0 := heap_on hb1 q0
  have hb1 := below_on hb0 hb1
  clear hb0 q0 HR
  have s0 := heap_old w1 (.cells #[.int .i64 (n : Int), .int .i64 (k : Int), .int .i64 (m : Int)] 65) r0
  have s1 := heap_push w1 (.cells #[.int .i64 (n : Int), .int .i64 (k : Int), .int .i64 (m : Int)] 65)
  have hb2 := hb1.alloc hb1.size (.cells #[.int .i64 (n : Int), .int .i64 (k : Int), .int .i64 (m : Int)] 65)
  go_upto_region 5 with fail
  generalize (w1.alloc (.cells #[.int .i64 (n : Int), .int .i64 (k : Int), .int .i64 (m : Int)] 65)) = w2 at s0 s1 hb2 ⊢
  generalize w1.heap.size = B1 at s1 ⊢
  have k0 := heap_cell s1 0 _ rfl
  have hlt := (Array.getElem?_eq_some_iff.1 s1).1
  go_region
  have s2 : (w2.alloc (.cells #[.int .i64 (n : Int), .string (R.extract 0 k), .string (R.extract k R.size)] 34)).drew.heap[w.heap.size]? = _ := heap_old w2 _ s0
  have s3 : (w2.alloc (.cells #[.int .i64 (n : Int), .string (R.extract 0 k), .string (R.extract k R.size)] 34)).drew.heap[w2.heap.size]? = _ := heap_push w2 _
  have hb3 := Below.drew (hb2.alloc hb2.size (.cells #[.int .i64 (n : Int), .string (R.extract 0 k), .string (R.extract k R.size)] 34))
  generalize (w2.alloc (.cells #[.int .i64 (n : Int), .string (R.extract 0 k), .string (R.extract k R.size)] 34)).drew = w3 at s2 s3 hb3 ⊢
  generalize w2.heap.size = B2 at s3 ⊢
  clear k0 s0 s1 hb2 hlt
  have k0 := heap_cell s3 0 _ rfl
  have k1 := heap_cell s3 1 _ rfl
  have k2 := heap_cell s3 2 _ rfl
  go_wp2_with fail
  clear k0 k1 k2
  refine (HC.out w3).mono ?_
  rintro e w4 ⟨rfl, hb4⟩
  have t2 := heap_on hb4 s2
  have t3 := heap_on hb4 s3
  have hb4 := below_on hb3 hb4
  clear s2 s3 hb3 HC
  have k0 := heap_cell t3 0 _ rfl
  have k1 := heap_cell t3 1 _ rfl
  have k2 := heap_cell t3 2 _ rfl
  go_wp2_with (refine wpList_store_row rfl 34 (.tmp 2) (.tmp 45) rfl w.heap.size #[.int .i64 (n : Int), .string (R.extract 0 k), .string (R.extract k R.size)] rfl rfl _ _ t2 (by kernel_rfl) rfl (head_cells _ _ _) ?_)
  have hb5 := below_setRow hb4 (g := w.heap.size) (Nat.le_refl _) #[.int .i64 (n : Int), .string (R.extract 0 k), .string (R.extract k R.size)]
  refine bodyPost_ret (results_row_tmp rfl _ _ w.heap.size _ _ _ _ rfl (setRow_heap _ _ _ _ _ _ t2) Tryf.underlying34 rfl (by kernel_rfl)) rfl ?_
  exact ⟨rfl, hb5⟩


/- Parse, whatever is handed in. -/
theorem parse_any (s : ByteArray) (w : World) (hE : Env w) (hs : s.size ≤ 281474976710656) :
    Calls Tryf.prog 22 #[.string s] w fun e w' => e = .returned (.tuple #[.agg #[.int .i64 (parseN s), .string (parseA s), .string (parseB s)], .int .i64 (parseE s)]) ∧ Below w.heap.size w w' := by
  cases hr : readL s.data.toList with
  | none =>
    have hp : parseO s = none := by unfold parseO; rw [hr]
    obtain ⟨e1, e2, e3, e4⟩ := parse_none hp
    rw [e1, e2, e3, e4]
    exact parse_unread s w hE hs hr
  | some x =>
    obtain ⟨n, k, m, r⟩ := x
    obtain ⟨hl, _, hk, _⟩ := read_some hr
    have hrs : (⟨r.toArray⟩ : ByteArray).size ≤ 281474976710656 := by
      rw [mk_size]
      have := congrArg List.length hl
      rw [← ba_size, List.length_append] at this
      omega
    by_cases hkm : k + m = r.length
    · have hp : parseO s = some (n, ⟨(r.take k).toArray⟩, ⟨(r.drop k).toArray⟩) := by unfold parseO; rw [hr]; exact if_pos hkm
      have x1 := ext_take r k
      have x2 := ext_drop r k
      rw [← mk_size r] at hkm x2
      by_cases h0 : headE (n : Int) ⟨(r.take k).toArray⟩ ⟨(r.drop k).toArray⟩ = 0
      · obtain ⟨e1, e2, e3, e4⟩ := parse_good hp h0
        rw [e1, e2, e3, e4]
        rw [← x1, ← x2] at h0 ⊢
        exact parse_taken s ⟨r.toArray⟩ n k m w hE hs hr hrs hkm h0
      · obtain ⟨e1, e2, e3, e4⟩ := parse_bad hp h0
        rw [e1, e2, e3, e4]
        rw [← x1, ← x2] at h0 ⊢
        exact parse_refused s ⟨r.toArray⟩ n k m w hE hs hr hrs hkm _ rfl h0
    · have hp : parseO s = none := by unfold parseO; rw [hr]; exact if_neg hkm
      obtain ⟨e1, e2, e3, e4⟩ := parse_none hp
      rw [e1, e2, e3, e4]
      exact parse_unlike s ⟨r.toArray⟩ n k m w hE hs hr hk hrs (by rw [mk_size]; exact hkm)
end Go.Proofs.YtbpheklfdakikadFmt
