/-
  Chapter 6's Check and Texts as the document's own reckoning has them.
-/
import Derived.Test.YtnemiobgmdpnmagGreatFmtRefText
import Derived.Test.YtnemiobgmdpnmagGreatFmtRefIn
namespace Go.Proofs.YtnemiobgmdpnmagGreatFmt
open Go Go.RowKit Go.Kit Go.Extern.Stop Go.Stop Go.Extern

set_option maxRecDepth 100000 in
theorem checkBook_any (l : List EntB) (a : Option Addr) (n c : Nat) (w : World) (hn : l.length = n) (hS : EntsAt w a c l) :
    Calls Tryz.prog 14 #[.agg #[.slice a n c]] w fun e w' => e = .returned (.int .i64 (bookE l)) ∧ Below w.heap.size w w' := by
  have hcap := hS.cap
  have hmax := hS.max
  by_cases h24 : 24 < n
  · rw [bookE_many (by omega)]
    go_enter Tryz.func14, Tryz.ntmps14
    go_wp2_with fail
    go_ret
    exact ⟨rfl, (Below.refl _ _).alloc (Nat.le_refl _) _⟩
  · rw [bookE_few (by omega)]
    generalize hres : firstE l = res
    go_enter Tryz.func14, Tryz.ntmps14
    go_wp2_with fail
    go_loopg [12] n (fun g s12 wr => ∃ k : Nat, k ≤ n ∧ n - k ≤ g ∧ s12 = .int .i64 k ∧ Below w.heap.size w wr ∧ firstE (l.drop k) = res)
    case atStart => exact ⟨0, Nat.zero_le _, by omega, rfl, (Below.refl _ _).alloc (Nat.le_refl _) _, by rw [List.drop_zero]; exact hres⟩
    case round =>
      obtain ⟨k, hk, hg, rfl, hb, heq⟩ := hrel
      replace hS := hS.on hb
      by_cases hlt : k < n
      · obtain ⟨b, off, rfl, hbl, hc⟩ := hS.cells (by omega)
        obtain ⟨c0, c1⟩ := hc k (by omega)
        rw [ents_drop (by omega)] at heq
        simp only [firstE] at heq
        generalize entAt l k = x at c0 c1 heq
        obtain ⟨key, v⟩ := x
        simp only at c0 c1
        clear hc hS hres
        have hkc : (k : Int) < (n : Int) := by omega
        have hb3 : Below w.heap.size w (wr.alloc (.cells #[.int .i64 key, .string v] 38)) := hb.alloc hb.size _
        have q0 := box_cell wr #[.int .i64 key, .string v] 38 1 _ rfl
        by_cases hwho : key < 0 ∨ 16 ≤ key
        · rw [entry_who (e := (key, v)) hwho, if_neg (by decide)] at heq
          have HQ := Lib.hid heq
          clear heq
          go_wp2_with fail
          generalize (wr.alloc (.cells #[.int .i64 key, .string v] 38)) = W3 at hb3 q0 ⊢
          refine (in_no key 0 15 W3 (by omega)).mono ?_
          rintro e w5 ⟨rfl, rfl⟩
          go_wp2_with fail
          go_ret
          exact ⟨by rw [← HQ.out]; rfl, hb3⟩
        · by_cases hv : 12 < v.size
          · rw [entry_many (e := (key, v)) hwho hv, if_neg (by decide)] at heq
            have HQ := Lib.hid heq
            clear heq
            go_wp2_with fail
            generalize (wr.alloc (.cells #[.int .i64 key, .string v] 38)) = W3 at hb3 q0 ⊢
            refine (in_yes key 0 15 W3 (by omega) (by omega)).mono ?_
            rintro e w5 ⟨rfl, rfl⟩
            go_wp2_with fail
            go_ret
            exact ⟨by rw [← HQ.out]; rfl, hb3⟩
          · rw [entry_ok (e := (key, v)) hwho hv, if_pos rfl] at heq
            have HQ := Lib.hid heq
            clear heq
            go_wp2_with fail
            generalize (wr.alloc (.cells #[.int .i64 key, .string v] 38)) = W3 at hb3 q0 ⊢
            refine (in_yes key 0 15 W3 (by omega) (by omega)).mono ?_
            rintro e w5 ⟨rfl, rfl⟩
            go_wp2_with fail
            go_roundg (n - (k + 1))
            case measure => omega
            case rel => exact ⟨k + 1, by omega, Nat.le_refl _, by go_num, hb3, HQ.out⟩
      · obtain rfl : k = n := by omega
        rw [List.drop_of_length_le (by omega)] at heq
        have HQ := Lib.hid heq
        clear heq
        go_wp2_with fail
        go_ret
        exact ⟨by rw [← HQ.out]; rfl, hb⟩

set_option maxRecDepth 100000 in
theorem textsOf_any (I : Interp) (l : List EntB) (a : Option Addr) (n c : Nat) (w : World) (hn : l.length = n) (hF : I.told.answers w.tape) (hS : EntsAt w a c l) (hz : ∀ e ∈ l, e.2.size ≤ 140737488355328) (hbig : n ≤ 8796093022208) :
    Calls Tryz.prog 19 #[.agg #[.slice a n c]] w fun e w' => ∃ a' c', e = .returned (.slice a' n c') ∧ StrsAt w' a' c' (textsE l) ∧ Below w.heap.size w w' := by
  have hcap := hS.cap
  have hmax := hS.max
  obtain ⟨i0, hi0, hz0, hz1, hz2⟩ := info_parts infoString
  have hlen := textsE_len l
  have hat := fun k h => texts_getD l k h
  have hbz : ∀ s ∈ textsE l, s.size ≤ 9223372036854775807 := by
    intro s hs
    obtain ⟨e, he, rfl⟩ := List.mem_map.1 hs
    have := hz e he
    have hw := hS.sz e he
    have := numB_size hw.1 hw.2.1
    rw [textE_size]
    omega
  generalize textsE l = ts at hlen hat hbz ⊢
  have HAT := Lib.hid hat
  have HBZ := Lib.hid hbz
  clear hat hbz
  go_enter Tryz.func19, Tryz.ntmps19
  go_wp2_with (at_make; refine wpList_make_full _ rfl _ _ 60 rfl w.heap.size 9 i0 (.string ⟨#[]⟩) 1 Tryz.underlying60 hi0 hz0 hz1 _ _ _ _ n rfl rfl rfl rfl (by rw [hz2]; omega) (by unfold maxLen; omega) (by show _ ≤ (w.heap.push _).size; rw [Array.size_push]; omega) ?_; intro w1 hown hg; have hbx := box_kept hg (by simp) 0 _ rfl)
  have hb1 := box_below hg
  rw [show (w.alloc (.cells #[.slice a n c] 24)).heap.size = w.heap.size + 1 by show (w.heap.push _).size = _; rw [Array.size_push]] at hown
  clear hg hbx
  have hcs : (madeCells (Value.string ⟨#[]⟩).cells (n * 1)).toList = (List.replicate n (⟨#[]⟩ : ByteArray)).map Value.string := by
    show (madeCells #[Value.string ⟨#[]⟩] (n * 1)).toList = _
    rw [Nat.mul_one, toList_madeCells_one, List.map_replicate]
  rw [hcs] at hown
  clear hcs
  obtain ⟨G, hG, hGe⟩ : ∃ G, w.heap.size ≤ G ∧ w.heap.size + 1 = G := ⟨_, by omega, rfl⟩
  rw [hGe] at hown ⊢
  clear hGe
  go_loopg [13] n (fun g s13 wr => ∃ (k : Nat) (xs : List ByteArray), k ≤ n ∧ n - k ≤ g ∧ s13 = .int .i64 k ∧ xs.length = n ∧ xs.take k = ts.take k ∧ wr.ownsRow w.heap.size 9 1 (.slice (some ⟨G, 0, none⟩) n n) n (xs.map Value.string) ∧ Below w.heap.size w wr)
  case atStart => exact ⟨0, List.replicate n ⟨#[]⟩, Nat.zero_le _, by omega, rfl, by simp, by simp, hown, hb1⟩
  case round =>
    obtain ⟨k, xs, hk, hg, rfl, hxl, hxt, hown, hb⟩ := hrel
    replace hS := hS.on hb
    by_cases hlt : k < n
    · have hme := entAt_mem (l := l) (i := k) (by omega)
      have hze := hz _ hme
      obtain ⟨w0, w1', _⟩ := hS.sz _ hme
      have htx := HAT.out k (by omega)
      obtain ⟨b, off, rfl, hbl, hc⟩ := hS.cells (by omega)
      obtain ⟨c0, c1⟩ := hc k (by omega)
      generalize entAt l k = x at c0 c1 hze w0 w1' htx
      obtain ⟨key, v⟩ := x
      simp only at c0 c1 hze w0 w1'
      have hpt := put_take (xs := xs) (ts := ts) (k := k) (by omega) hxt (by omega)
      rw [htx] at hpt
      have HP := Lib.hid hpt
      clear hc hS hme hxt htx hpt
      have hkc : (k : Int) < (n : Int) := by omega
      go_wp2_with fail
      have hb3 : Below w.heap.size w (wr.alloc (.cells #[.int .i64 key, .string v] 38)) := hb.alloc hb.size _
      have hown3 := hown.alloc (.cells #[.int .i64 key, .string v] 38)
      generalize (wr.alloc (.cells #[.int .i64 key, .string v] 38)) = W3 at hb3 hown3 ⊢
      clear hown c0 c1 hbl
      have htt := textOf_any I key v W3 (by rw [hb3.tape]; exact hF) w0 w1' hze
      generalize textE (key, v) = tx at htt HP
      refine htt.mono ?_
      clear htt
      rintro e w5 ⟨rfl, hb5⟩
      have hown5 := owns_on hown3 hb5
      have hb5 := below_on hb3 hb5
      clear hb3 hown3
      have hfro := hown5.frozenAt k
      obtain ⟨_, hS5⟩ := owned_cells hown5
      have hcell := hS5 k (by omega)
      obtain ⟨hown6, hg6⟩ := hown5.stored k (.string tx)
      have hb6 : Below w.heap.size w (w5.setCell ⟨G, k, none⟩ (.string tx)) := hb5.grown hg6 hb5.size (fun j hj => by cases hj; exact hG)
      rw [← List.map_set] at hown6
      clear hS5 hown5 hg6
      go_wp2_with fail
      go_roundg (n - (k + 1))
      case measure => omega
      case rel => exact ⟨k + 1, xs.set k tx, by omega, Nat.le_refl _, by go_num, by rw [List.length_set]; exact hxl, HP.out, hown6, hb6⟩
    · obtain rfl : k = n := by omega
      obtain rfl : xs = ts := by rwa [List.take_of_length_le (by omega), List.take_of_length_le (by omega)] at hxt
      obtain ⟨_, hSx⟩ := owned_strs hown HBZ.out
      go_wp2_with fail
      go_ret
      exact ⟨_, _, rfl, hSx, hb⟩
end Go.Proofs.YtnemiobgmdpnmagGreatFmt
