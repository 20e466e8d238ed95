/-
  Contracts of package book over this seat's dump: Check, Text, Texts, Values, Put, Head.
-/
import Derived.Test.YthhckpnnjegldafDoorEnts
import Derived.Test.YthhckpnnjegldafDoorTrie
import Derived.Test.YthhckpnnjegldafDoorMapPut
import Derived.Deep.LoopGhost
import Derived.Lib.QuietBelow
namespace Go.Proofs.YthhckpnnjegldafDoor
open Go Go.RowKit Go.Maps

/- checkEntry. -/
set_option maxRecDepth 100000 in
theorem checkEntry_any (k : Int) (v : ByteArray) (w : World) :
    Calls Tryd.prog 46 #[.agg #[.int .i64 k, .string v]] w fun e w' => e = .returned (.int .i64 (entryE (k, v))) ∧ Below w.heap.size w w' := by
  rcases Int.lt_or_le k 0 with h0 | h0
  · rw [entry_who (e := (k, v)) (.inl h0)]
    go_enter Tryd.func46, Tryd.ntmps46
    go_wp2_with fail
    go_ret
    exact ⟨rfl, (Below.refl _ _).alloc (Nat.le_refl _) _⟩
  have g0 : ¬ k < 0 := by omega
  rcases Int.lt_or_le k 16 with h1 | h1
  · have g1 : ¬ 16 ≤ k := by omega
    by_cases hv : 12 < v.size
    · rw [entry_many (e := (k, v)) (by simp only; omega) hv]
      go_enter Tryd.func46, Tryd.ntmps46
      go_wp2_with fail
      go_ret
      exact ⟨rfl, (Below.refl _ _).alloc (Nat.le_refl _) _⟩
    · rw [entry_ok (e := (k, v)) (by simp only; omega) hv]
      go_enter Tryd.func46, Tryd.ntmps46
      go_wp2_with fail
      go_ret
      exact ⟨rfl, (Below.refl _ _).alloc (Nat.le_refl _) _⟩
  · rw [entry_who (e := (k, v)) (.inr h1)]
    go_enter Tryd.func46, Tryd.ntmps46
    go_wp2_with fail
    go_ret
    exact ⟨rfl, (Below.refl _ _).alloc (Nat.le_refl _) _⟩

/- Check. -/
set_option maxRecDepth 100000 in
theorem bcheck_any (l : List EntB) (a : Option Addr) (n c : Nat) (w : World) (hn : l.length = n) (hS : EntsAt w a c l) :
    Calls Tryd.prog 29 #[.agg #[.slice a n c]] w fun e w' => e = .returned (.int .i64 (bookE l)) ∧ Below w.heap.size w w' := by
  have hcap := hS.cap
  have hmax := hS.max
  by_cases h24 : 24 < n
  · rw [bookE_many (by omega)]
    go_enter Tryd.func29, Tryd.ntmps29
    go_wp2_with fail
    go_ret
    exact ⟨rfl, (Below.refl _ _).alloc (Nat.le_refl _) _⟩
  · rw [bookE_few (by omega)]
    generalize hres : firstE l = res
    go_enter Tryd.func29, Tryd.ntmps29
    go_wp2_with fail
    go_loopg [13] n (fun g s13 wr => ∃ k : Nat, k ≤ n ∧ n - k ≤ g ∧ s13 = .int .i64 k ∧ Below w.heap.size w wr ∧ firstE (l.drop k) = res)
    case atStart => exact ⟨0, Nat.zero_le _, by omega, rfl, (Below.refl _ _).alloc (Nat.le_refl _) _, by rw [List.drop_zero]; exact hres⟩
    case round =>
      obtain ⟨k, hk, hg, rfl, hb, heq⟩ := hrel
      replace hS := hS.on hb
      by_cases hlt : k < n
      · obtain ⟨b, off, rfl, hbl, hc⟩ := hS.cells (by omega)
        obtain ⟨c0, c1⟩ := hc k (by omega)
        rw [ents_drop (by omega)] at heq
        simp only [firstE] at heq
        generalize entAt l k = x at c0 c1 heq
        obtain ⟨key, v⟩ := x
        simp only at c0 c1
        clear hc hS hres
        have HQ := Lib.hid heq
        clear heq
        have hkc : (k : Int) < (n : Int) := by omega
        go_wp2_with fail
        have hb3 : Below w.heap.size w (wr.alloc (.cells #[.int .i64 key, .string v] 34)) := hb.alloc hb.size _
        generalize (wr.alloc (.cells #[.int .i64 key, .string v] 34)) = W3 at hb3 ⊢
        refine (checkEntry_any key v W3).mono ?_
        rintro e w5 ⟨rfl, hb5⟩
        have hb5 := below_on hb3 hb5
        clear hb3
        have hq := HQ.out
        by_cases h0 : entryE (key, v) = 0
        · rw [if_pos h0] at hq
          rw [h0]
          have HQ := Lib.hid hq
          clear hq h0
          go_wp2_with fail
          go_roundg (n - (k + 1))
          case measure => omega
          case rel => exact ⟨k + 1, by omega, Nat.le_refl _, by go_num, hb5, HQ.out⟩
        · rw [if_neg h0] at hq
          have HQ := Lib.hid hq
          clear hq
          generalize entryE (key, v) = z at h0 HQ ⊢
          have hz : (z == 0) = false := by simp only [beq_eq_false_iff_ne, ne_eq]; exact h0
          go_wp2_with fail
          go_ret
          exact ⟨by rw [HQ.out]; rfl, hb5⟩
      · obtain rfl : k = n := by omega
        rw [List.drop_of_length_le (by omega)] at heq
        have HQ := Lib.hid heq
        clear heq
        go_wp2_with fail
        go_ret
        exact ⟨by rw [← HQ.out]; rfl, hb⟩

/- Text. -/
theorem numB_any (k : Int) (h0 : -9223372036854775808 ≤ k) (h1 : k ≤ 9223372036854775807) (w : World) (hE : Tab w) :
    Calls Tryd.prog 57 #[.int .i64 k] w fun e w' => e = .returned (.string (numB k)) ∧ Below w.heap.size w w' := by
  refine (Tryd.strconv_Itoa k h0 h1 w hE.tab).mono ?_
  rintro e w' ⟨rfl, d, os, rfl⟩
  exact ⟨rfl, below_grow w d os⟩

/- The cells of a box of two. -/
theorem box_cell (w : World) (cs : Array Value) (t : TypeId) (j : Nat) (v : Value) (h : cs[j]? = some v) : (w.alloc (.cells cs t)).cell? ⟨w.heap.size, j, none⟩ = some v := by
  have hh : (w.alloc (.cells cs t)).heap[w.heap.size]? = some (.cells cs t) := by show (w.heap.push _)[w.heap.size]? = _; simp
  unfold World.cell?
  simp only [hh]
  simpa using h
theorem box_kept {w w1 : World} {cs : Array Value} {t : TypeId} {row : Option Nat} (hg : (w.alloc (.cells cs t)).grownBy w1 row) (hr : row ≠ some w.heap.size) (j : Nat) (v : Value) (h : cs[j]? = some v) : w1.cell? ⟨w.heap.size, j, none⟩ = some v := by
  rw [World.cell?_of_block (w := w.alloc (.cells cs t)) (hg.block w.heap.size (by show _ < (w.heap.push _).size; rw [Array.size_push]; omega) (fun e => hr e.symm))]
  exact box_cell w cs t j v h
theorem box_below {w w1 : World} {o : Obj} (hg : (w.alloc o).grownBy w1 none) : Below w.heap.size w w1 :=
  ((Below.refl w.heap.size w).alloc (Nat.le_refl _) _).grown hg (by show _ ≤ (w.heap.push _).size; rw [Array.size_push]; omega) (fun j hj => by cases hj)

set_option maxRecDepth 100000 in
theorem text_any (k : Int) (v : ByteArray) (w : World) (hE : Tab w) (h0 : -9223372036854775808 ≤ k) (h1 : k ≤ 9223372036854775807) (hv : v.size ≤ 140737488355328) :
    Calls Tryd.prog 42 #[.agg #[.int .i64 k, .string v]] w fun e w' => e = .returned (.string (textE (k, v))) ∧ Below w.heap.size w w' := by
  have hz := numB_size h0 h1
  unfold textE
  simp only
  have cI := fun w' hE' => numB_any k h0 h1 w' hE'
  generalize numB k = x at hz cI ⊢
  have CI := Lib.hid cI
  clear cI
  go_enter Tryd.func42, Tryd.ntmps42
  go_wp2_with fail
  have hb1 : Below w.heap.size w (w.alloc (.cells #[.int .i64 k, .string v] 34)) := (Below.refl _ _).alloc (Nat.le_refl _) _
  have q0 := box_cell w #[.int .i64 k, .string v] 34 0 _ rfl
  have q1 := box_cell w #[.int .i64 k, .string v] 34 1 _ rfl
  generalize (w.alloc (.cells #[.int .i64 k, .string v] 34)) = W at hb1 q0 q1 ⊢
  have c0 := fun d os => cell_regrown q0 d os
  have c1 := fun d os => cell_regrown q1 d os
  have cF := Lib.hid (fun d os => Calls.regrown_of (CI.out (Sort.grow (redrawn W d) os) (hE.on (below_on hb1 (below_regrown W d os)))))
  refine wp_region_quiet_below (by kernel_rfl) (by kernel_rfl) ?_
  repeat (first | go_big_quiet_step (with_reducible exact cF.out _ _) | quiet_step (with_reducible exact cF.out _ _))
  refine wpQuiet_nil ?_
  intro _ hw'
  obtain ⟨⟨dq, osq⟩, hw''⟩ := hw'
  subst hw''
  have hbq := below_on hb1 (below_regrown W dq osq)
  clear cF c0 c1 q0 q1
  go_wp2_with fail
  go_ret
  exact ⟨rfl, hbq⟩

theorem infoString : (Tryd.prog.info? 9).map (fun i => (i.zero, i.size, i.bytes)) = some (some (.string ⟨#[]⟩), 1, 16) := by kernel_rfl
theorem infoEntry : (Tryd.prog.info? 34).map (fun i => (i.zero, i.size, i.bytes)) = some (some (.agg #[.int .i64 0, .string ⟨#[]⟩]), 2, 24) := by kernel_rfl

/- The cells of an own row of one cell an element. -/
theorem owned_cells {w : World} {base : Nat} {e : TypeId} {n g c : Nat} {l : List ByteArray} (h : w.ownsRow base e 1 (.slice (some ⟨g, 0, none⟩) n c) n (l.map Value.string)) : n ≤ c ∧ ∀ i, i < l.length → w.cell? ⟨g, i, none⟩ = some (.string (l.getD i ByteArray.empty)) := by
  have hln : l.length = n := by have := h.1; rw [List.length_map] at this; omega
  rcases h.2 with ⟨he, h0⟩ | ⟨g', cap, cur, he, hb, hg, hnc, hm, hsz, hcur⟩
  · cases he
  · injection he with e1 e2 e3
    injection e1 with e1
    injection e1 with e1 _ _
    subst e1 e3
    refine ⟨hnc, fun i hi => ?_⟩
    unfold World.cell?
    simp only [hg]
    have e1 : cur[i]? = (l.map Value.string)[i]? := by
      rw [← hcur, List.getElem?_take, if_pos (by omega), Array.getElem?_toList]
    simp [e1, hi, List.getD_eq_getElem?_getD]

/- Texts: one by one into a list of its own. -/
theorem put_take {xs : List ByteArray} {ts : List ByteArray} {k : Nat} (hk : k < xs.length) (h : xs.take k = ts.take k) (hl : k < ts.length) : (xs.set k (ts.getD k ByteArray.empty)).take (k + 1) = ts.take (k + 1) := by
  rw [List.take_add_one, List.take_set_of_le (Nat.le_refl _), h, List.take_add_one (l := ts), List.getElem?_set_self hk, List.getD_eq_getElem?_getD, List.getElem?_eq_getElem hl]
  rfl

set_option maxRecDepth 100000 in
theorem texts_any (l : List EntB) (a : Option Addr) (n c : Nat) (w : World) (hn : l.length = n) (hE : Tab w) (hS : EntsAt w a c l) (hz : ∀ e ∈ l, e.2.size ≤ 140737488355328) (hbig : n ≤ 8796093022208) :
    Calls Tryd.prog 22 #[.agg #[.slice a n c]] w fun e w' => ∃ a' c', e = .returned (.slice a' n c') ∧ StrsAt w' a' c' (textsE l) ∧ Below w.heap.size w w' := by
  have hcap := hS.cap
  have hmax := hS.max
  obtain ⟨i0, hi0, hz0, hz1, hz2⟩ := info_parts infoString
  have hlen := textsE_len l
  have hat := fun k h => texts_getD l k h
  have hbz : ∀ s ∈ textsE l, s.size ≤ 9223372036854775807 := by
    intro s hs
    obtain ⟨e, he, rfl⟩ := List.mem_map.1 hs
    have := hz e he
    have hw := hS.sz e he
    have := numB_size hw.1 hw.2.1
    rw [textE_size]
    omega
  generalize textsE l = ts at hlen hat hbz ⊢
  have HAT := Lib.hid hat
  have HBZ := Lib.hid hbz
  clear hat hbz
  go_enter Tryd.func22, Tryd.ntmps22
  go_wp2_with (at_make; refine wpList_make_full _ rfl _ _ 25 rfl w.heap.size 9 i0 (.string ⟨#[]⟩) 1 Tryd.underlying25 hi0 hz0 hz1 _ _ _ _ n rfl rfl rfl rfl (by rw [hz2]; omega) (by unfold maxLen; omega) (by show _ ≤ (w.heap.push _).size; rw [Array.size_push]; omega) ?_; intro w1 hown hg; have hbx := box_kept hg (by simp) 0 _ rfl)
  have hb1 := box_below hg
  rw [show (w.alloc (.cells #[.slice a n c] 24)).heap.size = w.heap.size + 1 by show (w.heap.push _).size = _; rw [Array.size_push]] at hown
  clear hg hbx
  have hcs : (madeCells (Value.string ⟨#[]⟩).cells (n * 1)).toList = (List.replicate n (⟨#[]⟩ : ByteArray)).map Value.string := by
    show (madeCells #[Value.string ⟨#[]⟩] (n * 1)).toList = _
    rw [Nat.mul_one, toList_madeCells_one, List.map_replicate]
  rw [hcs] at hown
  clear hcs
  obtain ⟨G, hG, hGe⟩ : ∃ G, w.heap.size ≤ G ∧ w.heap.size + 1 = G := ⟨_, by omega, rfl⟩
  rw [hGe] at hown ⊢
  clear hGe
  go_loopg [13] n (fun g s13 wr => ∃ (k : Nat) (xs : List ByteArray), k ≤ n ∧ n - k ≤ g ∧ s13 = .int .i64 k ∧ xs.length = n ∧ xs.take k = ts.take k ∧ wr.ownsRow w.heap.size 9 1 (.slice (some ⟨G, 0, none⟩) n n) n (xs.map Value.string) ∧ Below w.heap.size w wr)
  case atStart => exact ⟨0, List.replicate n ⟨#[]⟩, Nat.zero_le _, by omega, rfl, by simp, by simp, hown, hb1⟩
  case round =>
    obtain ⟨k, xs, hk, hg, rfl, hxl, hxt, hown, hb⟩ := hrel
    replace hS := hS.on hb
    by_cases hlt : k < n
    · have hme := entAt_mem (l := l) (i := k) (by omega)
      have hze := hz _ hme
      obtain ⟨w0, w1', _⟩ := hS.sz _ hme
      have htx := HAT.out k (by omega)
      obtain ⟨b, off, rfl, hbl, hc⟩ := hS.cells (by omega)
      obtain ⟨c0, c1⟩ := hc k (by omega)
      generalize entAt l k = x at c0 c1 hze w0 w1' htx
      obtain ⟨key, v⟩ := x
      simp only at c0 c1 hze w0 w1'
      have hpt := put_take (xs := xs) (ts := ts) (k := k) (by omega) hxt (by omega)
      rw [htx] at hpt
      have HP := Lib.hid hpt
      clear hc hS hme hxt htx hpt
      have hkc : (k : Int) < (n : Int) := by omega
      go_wp2_with fail
      have hb3 : Below w.heap.size w (wr.alloc (.cells #[.int .i64 key, .string v] 34)) := hb.alloc hb.size _
      have hown3 := hown.alloc (.cells #[.int .i64 key, .string v] 34)
      generalize (wr.alloc (.cells #[.int .i64 key, .string v] 34)) = W3 at hb3 hown3 ⊢
      clear hown c0 c1 hbl
      have htt := text_any key v W3 (hE.on hb3) w0 w1' hze
      generalize textE (key, v) = tx at htt HP
      refine htt.mono ?_
      clear htt
      rintro e w5 ⟨rfl, hb5⟩
      have hown5 := owns_on hown3 hb5
      have hb5 := below_on hb3 hb5
      clear hb3 hown3
      have hfro := hown5.frozenAt k
      obtain ⟨_, hS5⟩ := owned_cells hown5
      have hcell := hS5 k (by omega)
      obtain ⟨hown6, hg6⟩ := hown5.stored k (.string tx)
      have hb6 : Below w.heap.size w (w5.setCell ⟨G, k, none⟩ (.string tx)) := hb5.grown hg6 hb5.size (fun j hj => by cases hj; exact hG)
      rw [← List.map_set] at hown6
      clear hS5 hown5 hg6
      go_wp2_with fail
      go_roundg (n - (k + 1))
      case measure => omega
      case rel => exact ⟨k + 1, xs.set k tx, by omega, Nat.le_refl _, by go_num, by rw [List.length_set]; exact hxl, HP.out, hown6, hb6⟩
    · obtain rfl : k = n := by omega
      obtain rfl : xs = ts := by rwa [List.take_of_length_le (by omega), List.take_of_length_le (by omega)] at hxt
      obtain ⟨_, hSx⟩ := owned_strs hown HBZ.out
      go_wp2_with fail
      go_ret
      exact ⟨_, _, rfl, hSx, hb⟩
end Go.Proofs.YthhckpnnjegldafDoor
