/-
  Contracts of package note over this seat's dump: number, read.
-/
import Derived.Test.YtbpheklfdakikadFmtNote
namespace Go.Proofs.YtbpheklfdakikadFmt
open Go Go.RowKit

/- strings.Cut at a blank. -/
theorem cutb_slite (s : ByteArray) (w : World) (hs : s.size ≤ 9223372036854773206) :
    Calls Tryf.prog 66 #[.string s, .string ⟨#[32]⟩] w fun e w' => e = .returned (.tuple #[.string ⟨(Lib.cut s.data.toList [32]).1.toArray⟩, .string ⟨(Lib.cut s.data.toList [32]).2.1.toArray⟩, .bool (Lib.cut s.data.toList [32]).2.2]) ∧ Below w.heap.size w w' := by
  have hone := index_one 32 s.data.toList
  rcases Lib.indexB_cases s ⟨#[32]⟩ with hix | ⟨i, hix, hroom⟩
  · obtain ⟨e1, e2, e3⟩ := Lib.cutB_miss s ⟨#[32]⟩ hix
    simp only at e1 e2 e3
    rw [e1, e2, e3]
    have hi : Lib.indexByte s.data.toList 32 = -1 := by rw [← hone]; exact hix
    have Hi := Lib.hid hi
    clear hi hone hix e1 e2 e3
    go_enter Tryf.func66, Tryf.ntmps66
    go_wp2_with fail
    refine (Tryf.stringslite_Index_one s 32 w).mono ?_
    rintro e w' ⟨rfl, rfl⟩
    rw [Hi.out]
    go_wp2
    go_ret3
    exact ⟨rfl, Below.refl _ _⟩
  · obtain ⟨e1, e2, e3⟩ := Lib.cutB_hit s ⟨#[32]⟩ i hix
    simp only at e1 e2 e3
    rw [e1, e2, e3]
    have hi : Lib.indexByte s.data.toList 32 = i := by rw [← hone]; exact hix
    have hsz : (⟨#[32]⟩ : ByteArray).size = 1 := rfl
    rw [hsz] at hroom
    have c1 : (0 : Int) ≤ ↑i := by omega
    have c2 : (↑i : Int) ≤ ↑s.size := by omega
    have c3 : (0 : Int) ≤ ↑i + 1 := by omega
    have c4 : (↑i + 1 : Int) ≤ ↑s.size := by omega
    have Hi := Lib.hid hi
    clear hi hone hix e1 e2 e3 hsz
    go_enter Tryf.func66, Tryf.ntmps66
    go_wp2_with fail
    refine (Tryf.stringslite_Index_one s 32 w).mono ?_
    rintro e w1 ⟨rfl, rfl⟩
    rw [Hi.out]
    go_wp2_with fail
    go_quiet (fail)
    go_wp2
    go_ret3
    exact ⟨rfl, below_drewN (Below.refl _ _) _⟩
theorem cutb_any (s : ByteArray) (w : World) (hs : s.size ≤ 9223372036854773206) :
    Calls Tryf.prog 56 #[.string s, .string ⟨#[32]⟩] w fun e w' => e = .returned (.tuple #[.string ⟨(Lib.cut s.data.toList [32]).1.toArray⟩, .string ⟨(Lib.cut s.data.toList [32]).2.1.toArray⟩, .bool (Lib.cut s.data.toList [32]).2.2]) ∧ Below w.heap.size w w' := by
  have hc := cutb_slite s w hs
  obtain ⟨x1, h1⟩ : ∃ x, (⟨(Lib.cut s.data.toList [32]).1.toArray⟩ : ByteArray) = x := ⟨_, rfl⟩
  obtain ⟨x2, h2⟩ : ∃ x, (⟨(Lib.cut s.data.toList [32]).2.1.toArray⟩ : ByteArray) = x := ⟨_, rfl⟩
  obtain ⟨x3, h3⟩ : ∃ x, (Lib.cut s.data.toList [32]).2.2 = x := ⟨_, rfl⟩
  rw [h1, h2, h3] at hc ⊢
  have Hc := Lib.hid hc
  clear hc h1 h2 h3
  go_enter Tryf.func56, Tryf.ntmps56
  go_wp2_with fail
  refine Hc.out.mono ?_
  rintro e w1 ⟨rfl, hb1⟩
  go_wp2_with fail
  go_ret3
  exact ⟨rfl, hb1⟩

/- number. -/
theorem number_ok (s : ByteArray) (n : Nat) (w : World) (hE : Env w) (hs : s.size ≤ 281474976710656) (h : numOf s.data.toList = some n) :
    Calls Tryf.prog 57 #[.string s] w fun e w' => e = .returned (.tuple #[.int .i64 (n : Int), .bool true]) ∧ Below w.heap.size w w' := by
  obtain ⟨hd, hlt, ha⟩ := numOf_some h
  have hsi : s = itoaB n := ba_ext (by rw [itoaB_data]; exact hd)
  have Hs : Hid (s = itoaB n) := hsi
  have hq : ((itoaB n).toList == s.toList) = true := by rw [hsi]; simp
  clear hsi hd h
  go_enter Tryf.func57, Tryf.ntmps57
  go_wp2_with fail
  refine (atoi_ok s (n : Int) w hs ha).mono ?_
  rintro e w1 ⟨rfl, hb1⟩
  have hE1 := hE.on hb1
  clear ha hE
  go_wp2_with fail
  refine (itoa_any n (by omega) w1 hE1.toTab).mono ?_
  rintro e w2 ⟨rfl, hb2⟩
  go_wp2
  go_ret2
  exact ⟨rfl, below_on hb1 hb2⟩

theorem number_no (s : ByteArray) (w : World) (hE : Env w) (hs : s.size ≤ 281474976710656) (h : numOf s.data.toList = none) :
    Calls Tryf.prog 57 #[.string s] w fun e w' => e = .returned (.tuple #[.int .i64 0, .bool false]) ∧ Below w.heap.size w w' := by
  by_cases hok : ∃ v, Lib.atoiAll s.data.toList = .ok v
  · obtain ⟨v, ha⟩ := hok
    have hv := Lib.atoiAll_bounds ha
    unfold numOf at h
    rw [ha] at h
    by_cases h0 : 0 ≤ v
    · obtain ⟨n, rfl⟩ := Int.eq_ofNat_of_zero_le h0
      have hne : itoaB n ≠ s := by
        intro e
        rw [← e, itoaB_data] at h
        simp [Lib.itoa_nonneg] at h
      have hq := str_ne hne
      clear h hne h0
      go_enter Tryf.func57, Tryf.ntmps57
      go_wp2_with fail
      refine (atoi_ok s (n : Int) w hs ha).mono ?_
      rintro e w1 ⟨rfl, hb1⟩
      have hE1 := hE.on hb1
      clear ha hE
      go_wp2_with fail
      refine (itoa_any n (by omega) w1 hE1.toTab).mono ?_
      rintro e w2 ⟨rfl, hb2⟩
      go_wp2
      go_ret2
      exact ⟨rfl, below_on hb1 hb2⟩
    · clear h
      have hneg : v < 0 := by omega
      clear h0
      go_enter Tryf.func57, Tryf.ntmps57
      go_wp2_with fail
      refine (atoi_ok s v w hs ha).mono ?_
      rintro e w1 ⟨rfl, hb1⟩
      clear ha hE
      go_wp2_with fail
      go_ret2
      exact ⟨rfl, hb1⟩
  · have hbad : ∀ v, Lib.atoiAll s.data.toList ≠ .ok v := fun v e => hok ⟨v, e⟩
    have Hb := Lib.hid hbad
    clear h hok hbad
    go_enter Tryf.func57, Tryf.ntmps57
    go_wp2_with fail
    refine (atoi_bad s w hE hs Hb.out).mono ?_
    rintro e w1 ⟨n, t, p, rfl, hb1⟩
    go_wp2_with fail
    go_ret2
    exact ⟨rfl, hb1⟩

/- Three results, the first one a row that lies in memory. -/
theorem results_row_tmps {P : Program} {fn : Func} {p u v : Tmp} {ty : TypeId} (h : fn.results = #[.cell p ty, .tmp u, .tmp v]) (tmps : Array Value) (w : World) (g : Nat) (t : TypeId) (cs : Array Value) (fr : Nat × Nat) (d : TypeDesc)
    (hp : tmps.getD p undef = .pointer (some ⟨g, 0, none⟩)) (hg : w.heap[g]? = some (.cells cs t fr))
    (hu : P.underlying ty = some d) (hd : (match d with | .struct _ | .array _ _ => true | _ => false) = true) (hi : (P.info? ty).map (·.size) = some cs.size) :
    (results fn tmps).run P w = .ok (.tuple #[.agg cs, tmps.getD u undef, tmps.getD v undef]) w := by
  have hp2 : tmps[p]?.getD undef = .pointer (some ⟨g, 0, none⟩) := by simpa using hp
  simp only [results, h]
  simp [Result.andThen, hp2, asAddr, run_loadVar_row w g t ty cs fr d hg hu hd hi]
theorem nums_cells (x y z : Int) : (#[.int .i64 x, .int .i64 y, .int .i64 z] : Array Value).all (·.oneCell') = true := by simp [Value.oneCell']

/- read. -/
def readV : Option (Nat × Nat × Nat × List UInt8) → Value
  | none => .tuple #[.agg #[.int .i64 0, .int .i64 0, .int .i64 0], .string ⟨#[]⟩, .bool false]
  | some (x, y, z, t) => .tuple #[.agg #[.int .i64 (x : Int), .int .i64 (y : Int), .int .i64 (z : Int)], .string ⟨t.toArray⟩, .bool true]

set_option maxHeartbeats 2000000 in
set_option maxRecDepth 100000 in
theorem read_any (s : ByteArray) (w : World) (hE : Env w) (hs : s.size ≤ 281474976710656) :
    Calls Tryf.prog 39 #[.string s] w fun e w' => e = .returned (readV (readL s.data.toList)) ∧ Below w.heap.size w w' := by
  generalize hres : readL s.data.toList = res
  have HR := Lib.hid hres
  clear hres
  obtain ⟨q0, q1, hb0⟩ := boxes2 w (.cells #[.int .i64 0, .int .i64 0, .int .i64 0] 65) (.cells #[.int .i64 0, .int .i64 0, .int .i64 0] 65)
  go_enter Tryf.func39, Tryf.ntmps39
  go_wp2_with fail
  generalize ((w.alloc (.cells #[.int .i64 0, .int .i64 0, .int .i64 0] 65)).alloc (.cells #[.int .i64 0, .int .i64 0, .int .i64 0] 65)) = W at q0 q1 hb0 ⊢
  go_loopg [0, 12] 3 (fun g s0 s12 wr => Below w.heap.size w wr ∧ wr.heap[w.heap.size]? = some (.cells #[.int .i64 0, .int .i64 0, .int .i64 0] 65) ∧ ∃ t : ByteArray, s0 = .string t ∧ t.size ≤ s.size ∧ ((s12 = .int .i64 0 ∧ 3 ≤ g ∧ readL t.data.toList = res ∧ wr.heap[w.heap.size + 1]? = some (.cells #[.int .i64 0, .int .i64 0, .int .i64 0] 65)) ∨ (s12 = .int .i64 1 ∧ 2 ≤ g ∧ ∃ x : Nat, read1 x t.data.toList = res ∧ wr.heap[w.heap.size + 1]? = some (.cells #[.int .i64 (x : Int), .int .i64 0, .int .i64 0] 65)) ∨ (s12 = .int .i64 2 ∧ 1 ≤ g ∧ ∃ x y : Nat, read2 x y t.data.toList = res ∧ wr.heap[w.heap.size + 1]? = some (.cells #[.int .i64 (x : Int), .int .i64 (y : Int), .int .i64 0] 65)) ∨ (s12 = .int .i64 3 ∧ ∃ x y z : Nat, some (x, y, z, t.data.toList) = res ∧ wr.heap[w.heap.size + 1]? = some (.cells #[.int .i64 (x : Int), .int .i64 (y : Int), .int .i64 (z : Int)] 65))))
  case atStart => exact ⟨hb0, q0, s, rfl, Nat.le_refl _, .inl ⟨rfl, Nat.le_refl _, HR.out, q1⟩⟩
  case round =>
    obtain ⟨hb, q0, t, rfl, htz, ⟨rfl, hg, hq, q1⟩ | ⟨rfl, hg, x, hq, q1⟩ | ⟨rfl, hg, x, y, hq, q1⟩ | ⟨rfl, x, y, z, hq, q1⟩⟩ := hrel
    · have HQ := Lib.hid hq
      have hcl := cut32_le t.data.toList
      rw [← ba_size] at hcl
      obtain ⟨d, hd⟩ : ∃ d, (Lib.cut t.data.toList [32]).1 = d := ⟨_, rfl⟩
      obtain ⟨r, hr⟩ : ∃ r, (Lib.cut t.data.toList [32]).2.1 = r := ⟨_, rfl⟩
      obtain ⟨f, hf⟩ : ∃ f, (Lib.cut t.data.toList [32]).2.2 = f := ⟨_, rfl⟩
      have HCUT : Hid (Lib.cut t.data.toList [32] = (d, r, f)) := Lib.hid (by rw [← hd, ← hr, ← hf])
      have hct := cutb_any t wr (by omega)
      rw [hd, hr, hf] at hct
      rw [hd, hr] at hcl
      have HT := Lib.hid hct
      clear hd hr hf hq hct
      go_wp2_with fail
      refine HT.out.mono ?_
      rintro e w1 ⟨rfl, hb1⟩
      have r0 := heap_on hb1 q0
      have r1 := heap_on hb1 q1
      have hb1 := below_on hb hb1
      clear q0 q1 hb HT
      have hdz : (⟨d.toArray⟩ : ByteArray).size ≤ 281474976710656 := by rw [mk_size]; omega
      go_wp2_with fail
      cases hn : numOf d with
      | none =>
        refine (number_no ⟨d.toArray⟩ w1 (hE.on hb1) hdz hn).mono ?_
        rintro e w2 ⟨rfl, hb2⟩
        have s0 := heap_on hb2 r0
        have hb2 := below_on hb1 hb2
        clear r0 r1 hb1
        cases f
        · have hN : Hid (res = none) := by rw [← HQ.out]; exact readL_no (numL_neg HCUT.out (.inr hn))
          go_wp2_with (refine wpList_store_row rfl 65 (.tmp 2) (.tmp 32) rfl w.heap.size #[.int .i64 0, .int .i64 0, .int .i64 0] rfl rfl _ _ s0 (by kernel_rfl) rfl (nums_cells _ _ _) ?_)
          have hb3 := below_setRow hb2 (g := w.heap.size) (Nat.le_refl _) #[.int .i64 0, .int .i64 0, .int .i64 0]
          refine bodyPost_ret (results_row_tmps rfl _ _ w.heap.size _ _ _ _ rfl (setRow_heap _ _ _ _ _ _ s0) Tryf.underlying65 rfl (by kernel_rfl)) rfl ?_
          exact ⟨by rw [hN.out]; rfl, hb3⟩
        · have hN : Hid (res = none) := by rw [← HQ.out]; exact readL_no (numL_neg HCUT.out (.inr hn))
          go_wp2_with (refine wpList_store_row rfl 65 (.tmp 2) (.tmp 32) rfl w.heap.size #[.int .i64 0, .int .i64 0, .int .i64 0] rfl rfl _ _ s0 (by kernel_rfl) rfl (nums_cells _ _ _) ?_)
          have hb3 := below_setRow hb2 (g := w.heap.size) (Nat.le_refl _) #[.int .i64 0, .int .i64 0, .int .i64 0]
          refine bodyPost_ret (results_row_tmps rfl _ _ w.heap.size _ _ _ _ rfl (setRow_heap _ _ _ _ _ _ s0) Tryf.underlying65 rfl (by kernel_rfl)) rfl ?_
          exact ⟨by rw [hN.out]; rfl, hb3⟩
      | some n =>
        refine (number_ok ⟨d.toArray⟩ n w1 (hE.on hb1) hdz hn).mono ?_
        rintro e w2 ⟨rfl, hb2⟩
        have s0 := heap_on hb2 r0
        have s1 := heap_on hb2 r1
        have hb2 := below_on hb1 hb2
        clear r0 r1 hb1
        cases f
        · have hN : Hid (res = none) := by rw [← HQ.out]; exact readL_no (numL_neg HCUT.out (.inl rfl))
          go_wp2_with (refine wpList_store_row rfl 65 (.tmp 2) (.tmp 32) rfl w.heap.size #[.int .i64 0, .int .i64 0, .int .i64 0] rfl rfl _ _ s0 (by kernel_rfl) rfl (nums_cells _ _ _) ?_)
          have hb3 := below_setRow hb2 (g := w.heap.size) (Nat.le_refl _) #[.int .i64 0, .int .i64 0, .int .i64 0]
          refine bodyPost_ret (results_row_tmps rfl _ _ w.heap.size _ _ _ _ rfl (setRow_heap _ _ _ _ _ _ s0) Tryf.underlying65 rfl (by kernel_rfl)) rfl ?_
          exact ⟨by rw [hN.out]; rfl, hb3⟩
        · have k0 := heap_cell s1 0 _ rfl
          have k1 := frozen_of_row w2 (w.heap.size + 1) 0 _ _ s1
          go_wp2_with fail
          have hg3 := set_grown w2 (w.heap.size + 1) 0 (.int .i64 (n : Int))
          have hb3 := hb2.grown hg3 hb2.size (fun j hj => by cases hj; omega)
          have s2 := heap_kept hg3 s0 (fun e => by injection e with e; omega)
          have s3 := heap_setCell_same w2 (w.heap.size + 1) 0 _ _ (.int .i64 (n : Int)) s1
          go_roundg 2
          case measure => omega
          case rel => exact ⟨hb3, s2, ⟨r.toArray⟩, rfl, by rw [mk_size]; omega, .inr (.inl ⟨rfl, Nat.le_refl _, n, (by rw [← HQ.out]; exact (readL_go (numL_pos HCUT.out hn)).symm), s3⟩)⟩
    · have HQ := Lib.hid hq
      have hcl := cut32_le t.data.toList
      rw [← ba_size] at hcl
      obtain ⟨d, hd⟩ : ∃ d, (Lib.cut t.data.toList [32]).1 = d := ⟨_, rfl⟩
      obtain ⟨r, hr⟩ : ∃ r, (Lib.cut t.data.toList [32]).2.1 = r := ⟨_, rfl⟩
      obtain ⟨f, hf⟩ : ∃ f, (Lib.cut t.data.toList [32]).2.2 = f := ⟨_, rfl⟩
      have HCUT : Hid (Lib.cut t.data.toList [32] = (d, r, f)) := Lib.hid (by rw [← hd, ← hr, ← hf])
      have hct := cutb_any t wr (by omega)
      rw [hd, hr, hf] at hct
      rw [hd, hr] at hcl
      have HT := Lib.hid hct
      clear hd hr hf hq hct
      go_wp2_with fail
      refine HT.out.mono ?_
      rintro e w1 ⟨rfl, hb1⟩
      have r0 := heap_on hb1 q0
      have r1 := heap_on hb1 q1
      have hb1 := below_on hb hb1
      clear q0 q1 hb HT
      have hdz : (⟨d.toArray⟩ : ByteArray).size ≤ 281474976710656 := by rw [mk_size]; omega
      go_wp2_with fail
      cases hn : numOf d with
      | none =>
        refine (number_no ⟨d.toArray⟩ w1 (hE.on hb1) hdz hn).mono ?_
        rintro e w2 ⟨rfl, hb2⟩
        have s0 := heap_on hb2 r0
        have hb2 := below_on hb1 hb2
        clear r0 r1 hb1
        cases f
        · have hN : Hid (res = none) := by rw [← HQ.out]; exact read1_no (numL_neg HCUT.out (.inr hn))
          go_wp2_with (refine wpList_store_row rfl 65 (.tmp 2) (.tmp 32) rfl w.heap.size #[.int .i64 0, .int .i64 0, .int .i64 0] rfl rfl _ _ s0 (by kernel_rfl) rfl (nums_cells _ _ _) ?_)
          have hb3 := below_setRow hb2 (g := w.heap.size) (Nat.le_refl _) #[.int .i64 0, .int .i64 0, .int .i64 0]
          refine bodyPost_ret (results_row_tmps rfl _ _ w.heap.size _ _ _ _ rfl (setRow_heap _ _ _ _ _ _ s0) Tryf.underlying65 rfl (by kernel_rfl)) rfl ?_
          exact ⟨by rw [hN.out]; rfl, hb3⟩
        · have hN : Hid (res = none) := by rw [← HQ.out]; exact read1_no (numL_neg HCUT.out (.inr hn))
          go_wp2_with (refine wpList_store_row rfl 65 (.tmp 2) (.tmp 32) rfl w.heap.size #[.int .i64 0, .int .i64 0, .int .i64 0] rfl rfl _ _ s0 (by kernel_rfl) rfl (nums_cells _ _ _) ?_)
          have hb3 := below_setRow hb2 (g := w.heap.size) (Nat.le_refl _) #[.int .i64 0, .int .i64 0, .int .i64 0]
          refine bodyPost_ret (results_row_tmps rfl _ _ w.heap.size _ _ _ _ rfl (setRow_heap _ _ _ _ _ _ s0) Tryf.underlying65 rfl (by kernel_rfl)) rfl ?_
          exact ⟨by rw [hN.out]; rfl, hb3⟩
      | some n =>
        refine (number_ok ⟨d.toArray⟩ n w1 (hE.on hb1) hdz hn).mono ?_
        rintro e w2 ⟨rfl, hb2⟩
        have s0 := heap_on hb2 r0
        have s1 := heap_on hb2 r1
        have hb2 := below_on hb1 hb2
        clear r0 r1 hb1
        cases f
        · have hN : Hid (res = none) := by rw [← HQ.out]; exact read1_no (numL_neg HCUT.out (.inl rfl))
          go_wp2_with (refine wpList_store_row rfl 65 (.tmp 2) (.tmp 32) rfl w.heap.size #[.int .i64 0, .int .i64 0, .int .i64 0] rfl rfl _ _ s0 (by kernel_rfl) rfl (nums_cells _ _ _) ?_)
          have hb3 := below_setRow hb2 (g := w.heap.size) (Nat.le_refl _) #[.int .i64 0, .int .i64 0, .int .i64 0]
          refine bodyPost_ret (results_row_tmps rfl _ _ w.heap.size _ _ _ _ rfl (setRow_heap _ _ _ _ _ _ s0) Tryf.underlying65 rfl (by kernel_rfl)) rfl ?_
          exact ⟨by rw [hN.out]; rfl, hb3⟩
        · have k0 := heap_cell s1 1 _ rfl
          have k1 := frozen_of_row w2 (w.heap.size + 1) 1 _ _ s1
          go_wp2_with fail
          have hg3 := set_grown w2 (w.heap.size + 1) 1 (.int .i64 (n : Int))
          have hb3 := hb2.grown hg3 hb2.size (fun j hj => by cases hj; omega)
          have s2 := heap_kept hg3 s0 (fun e => by injection e with e; omega)
          have s3 := heap_setCell_same w2 (w.heap.size + 1) 1 _ _ (.int .i64 (n : Int)) s1
          go_roundg 1
          case measure => omega
          case rel => exact ⟨hb3, s2, ⟨r.toArray⟩, rfl, by rw [mk_size]; omega, .inr (.inr (.inl ⟨rfl, Nat.le_refl _, x, n, (by rw [← HQ.out]; exact (read1_go (numL_pos HCUT.out hn)).symm), s3⟩))⟩
    · have HQ := Lib.hid hq
      have hcl := cut32_le t.data.toList
      rw [← ba_size] at hcl
      obtain ⟨d, hd⟩ : ∃ d, (Lib.cut t.data.toList [32]).1 = d := ⟨_, rfl⟩
      obtain ⟨r, hr⟩ : ∃ r, (Lib.cut t.data.toList [32]).2.1 = r := ⟨_, rfl⟩
      obtain ⟨f, hf⟩ : ∃ f, (Lib.cut t.data.toList [32]).2.2 = f := ⟨_, rfl⟩
      have HCUT : Hid (Lib.cut t.data.toList [32] = (d, r, f)) := Lib.hid (by rw [← hd, ← hr, ← hf])
      have hct := cutb_any t wr (by omega)
      rw [hd, hr, hf] at hct
      rw [hd, hr] at hcl
      have HT := Lib.hid hct
      clear hd hr hf hq hct
      go_wp2_with fail
      refine HT.out.mono ?_
      rintro e w1 ⟨rfl, hb1⟩
      have r0 := heap_on hb1 q0
      have r1 := heap_on hb1 q1
      have hb1 := below_on hb hb1
      clear q0 q1 hb HT
      have hdz : (⟨d.toArray⟩ : ByteArray).size ≤ 281474976710656 := by rw [mk_size]; omega
      go_wp2_with fail
      cases hn : numOf d with
      | none =>
        refine (number_no ⟨d.toArray⟩ w1 (hE.on hb1) hdz hn).mono ?_
        rintro e w2 ⟨rfl, hb2⟩
        have s0 := heap_on hb2 r0
        have hb2 := below_on hb1 hb2
        clear r0 r1 hb1
        cases f
        · have hN : Hid (res = none) := by rw [← HQ.out]; exact read2_no (numL_neg HCUT.out (.inr hn))
          go_wp2_with (refine wpList_store_row rfl 65 (.tmp 2) (.tmp 32) rfl w.heap.size #[.int .i64 0, .int .i64 0, .int .i64 0] rfl rfl _ _ s0 (by kernel_rfl) rfl (nums_cells _ _ _) ?_)
          have hb3 := below_setRow hb2 (g := w.heap.size) (Nat.le_refl _) #[.int .i64 0, .int .i64 0, .int .i64 0]
          refine bodyPost_ret (results_row_tmps rfl _ _ w.heap.size _ _ _ _ rfl (setRow_heap _ _ _ _ _ _ s0) Tryf.underlying65 rfl (by kernel_rfl)) rfl ?_
          exact ⟨by rw [hN.out]; rfl, hb3⟩
        · have hN : Hid (res = none) := by rw [← HQ.out]; exact read2_no (numL_neg HCUT.out (.inr hn))
          go_wp2_with (refine wpList_store_row rfl 65 (.tmp 2) (.tmp 32) rfl w.heap.size #[.int .i64 0, .int .i64 0, .int .i64 0] rfl rfl _ _ s0 (by kernel_rfl) rfl (nums_cells _ _ _) ?_)
          have hb3 := below_setRow hb2 (g := w.heap.size) (Nat.le_refl _) #[.int .i64 0, .int .i64 0, .int .i64 0]
          refine bodyPost_ret (results_row_tmps rfl _ _ w.heap.size _ _ _ _ rfl (setRow_heap _ _ _ _ _ _ s0) Tryf.underlying65 rfl (by kernel_rfl)) rfl ?_
          exact ⟨by rw [hN.out]; rfl, hb3⟩
      | some n =>
        refine (number_ok ⟨d.toArray⟩ n w1 (hE.on hb1) hdz hn).mono ?_
        rintro e w2 ⟨rfl, hb2⟩
        have s0 := heap_on hb2 r0
        have s1 := heap_on hb2 r1
        have hb2 := below_on hb1 hb2
        clear r0 r1 hb1
        cases f
        · have hN : Hid (res = none) := by rw [← HQ.out]; exact read2_no (numL_neg HCUT.out (.inl rfl))
          go_wp2_with (refine wpList_store_row rfl 65 (.tmp 2) (.tmp 32) rfl w.heap.size #[.int .i64 0, .int .i64 0, .int .i64 0] rfl rfl _ _ s0 (by kernel_rfl) rfl (nums_cells _ _ _) ?_)
          have hb3 := below_setRow hb2 (g := w.heap.size) (Nat.le_refl _) #[.int .i64 0, .int .i64 0, .int .i64 0]
          refine bodyPost_ret (results_row_tmps rfl _ _ w.heap.size _ _ _ _ rfl (setRow_heap _ _ _ _ _ _ s0) Tryf.underlying65 rfl (by kernel_rfl)) rfl ?_
          exact ⟨by rw [hN.out]; rfl, hb3⟩
        · have k0 := heap_cell s1 2 _ rfl
          have k1 := frozen_of_row w2 (w.heap.size + 1) 2 _ _ s1
          go_wp2_with fail
          have hg3 := set_grown w2 (w.heap.size + 1) 2 (.int .i64 (n : Int))
          have hb3 := hb2.grown hg3 hb2.size (fun j hj => by cases hj; omega)
          have s2 := heap_kept hg3 s0 (fun e => by injection e with e; omega)
          have s3 := heap_setCell_same w2 (w.heap.size + 1) 2 _ _ (.int .i64 (n : Int)) s1
          go_roundg 0
          case measure => omega
          case rel => exact ⟨hb3, s2, ⟨r.toArray⟩, rfl, by rw [mk_size]; omega, .inr (.inr (.inr ⟨rfl, x, y, n, (by rw [← HQ.out]; exact (read2_go (numL_pos HCUT.out hn)).symm), s3⟩))⟩
    · have HQ := Lib.hid hq
      clear hq
      have k0 := heap_cell q1 0 _ rfl
      have k1 := heap_cell q1 1 _ rfl
      have k2 := heap_cell q1 2 _ rfl
      go_wp2_with (refine wpList_store_row rfl 65 (.tmp 2) (.tmp 38) rfl w.heap.size #[.int .i64 (x : Int), .int .i64 (y : Int), .int .i64 (z : Int)] rfl rfl _ _ q0 (by kernel_rfl) rfl (nums_cells _ _ _) ?_)
      have hb3 := below_setRow hb (g := w.heap.size) (Nat.le_refl _) #[.int .i64 (x : Int), .int .i64 (y : Int), .int .i64 (z : Int)]
      refine bodyPost_ret (results_row_tmps rfl _ _ w.heap.size _ _ _ _ rfl (setRow_heap _ _ _ _ _ _ q0) Tryf.underlying65 rfl (by kernel_rfl)) rfl ?_
      exact ⟨by rw [← HQ.out]; rfl, hb3⟩
end Go.Proofs.YtbpheklfdakikadFmt
