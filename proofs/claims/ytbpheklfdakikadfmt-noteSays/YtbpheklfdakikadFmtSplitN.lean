/-
  strings.SplitN at a blank, four pieces at most, whatever the text's length (the shelf's contract asks for less than 2^32 - 15 bytes).
-/
import Derived.Test.YtbpheklfdakikadFmtNoteMath
import Derived.Test.YtbpheklfdakikadFmtBlocks
import Derived.Test.YtbpheklfdakikadFmtOwn
import Derived.Deep.LoopGhost
namespace Go.Proofs.YtbpheklfdakikadFmt
open Go Go.RowKit

def pieces : Nat → List UInt8 → List ByteArray
  | 0, l => [⟨l.toArray⟩]
  | k + 1, l => if (Lib.cut l [32]).2.2 = true then ⟨(Lib.cut l [32]).1.toArray⟩ :: pieces k (Lib.cut l [32]).2.1 else [⟨l.toArray⟩]
theorem pieces_one {k : Nat} {l : List UInt8} (h : (Lib.cut l [32]).2.2 = false) : pieces k l = [⟨l.toArray⟩] := by
  cases k with
  | zero => rfl
  | succ k => unfold pieces; rw [if_neg (by rw [h]; decide)]
theorem pieces_more {k : Nat} {l d r : List UInt8} (h : Lib.cut l [32] = (d, r, true)) : pieces (k + 1) l = ⟨d.toArray⟩ :: pieces k r := by
  rw [pieces, h]
  rfl
theorem cut_at {l : List UInt8} {i : Nat} (h : Lib.indexByte l 32 = i) : Lib.cut l [32] = (l.take i, l.drop (i + 1), true) := by
  unfold Lib.cut
  rw [index_one, h, if_pos (by omega)]
  simp
theorem cut_not {l : List UInt8} (h : Lib.indexByte l 32 = -1) : (Lib.cut l [32]).2.2 = false := by
  unfold Lib.cut
  rw [index_one, h, if_neg (by omega)]
theorem index_cases (l : List UInt8) : Lib.indexByte l 32 = -1 ∨ ∃ i : Nat, Lib.indexByte l 32 = i ∧ i < l.length := by
  induction l with
  | nil => exact Or.inl rfl
  | cons b l ih =>
    unfold Lib.indexByte
    by_cases hb : (b == 32) = true
    · rw [if_pos hb]; exact Or.inr ⟨0, rfl, by simp⟩
    · rw [if_neg hb]
      rcases ih with h | ⟨i, h, hi⟩
      · rw [h]; exact Or.inl rfl
      · rw [h]
        have : ((i : Int) == -1) = false := by rw [beq_eq_false_iff_ne]; omega
        rw [this]
        exact Or.inr ⟨i + 1, by simp, by simp; omega⟩
theorem nil_not {l : List UInt8} (h : l.length = 0) : (Lib.cut l [32]).2.2 = false := by
  obtain rfl := List.length_eq_zero_iff.1 h
  exact cut_not rfl

theorem infoStr : (Tryf.prog.info? 9).map (fun i => (i.zero, i.size, i.bytes)) = some (some (.string ⟨#[]⟩), 1, 16) := by kernel_rfl
theorem row_cells {w : World} {base : Nat} {e : TypeId} {n g c : Nat} {l : List ByteArray} (h : w.ownsRow base e 1 (.slice (some ⟨g, 0, none⟩) n c) n (l.map Value.string)) : ∀ i, i < l.length → w.cell? ⟨g, i, none⟩ = some (.string (l.getD i ByteArray.empty)) := by
  have hln : l.length = n := by have := h.1; rw [List.length_map] at this; omega
  rcases h.2 with ⟨he, h0⟩ | ⟨g', cap, cur, he, hb, hg, hnc, hm, hsz, hcur⟩
  · cases he
  · injection he with e1 e2 e3
    injection e1 with e1
    injection e1 with e1 _ _
    subst e1 e3
    intro i hi
    unfold World.cell?
    simp only [hg]
    have e1 : cur[i]? = (l.map Value.string)[i]? := by
      rw [← hcur, List.getElem?_take, if_pos (by omega), Array.getElem?_toList]
    simp [e1, hi, List.getD_eq_getElem?_getD]
theorem run_head (a : Addr) (n c k : Nat) (hk : k ≤ c) (w : World) : (Instr.slice 41 (.slice (some a) n c) none (some (.int .i64 (k : Int))) none).run Tryf.prog w = .ok (.slice (some a) k c) w := by
  have hadd : ∀ ad : Addr, ad.add 0 = ad := fun ad => by unfold Addr.add; simp
  have hb : (Instr.sliceBounds true n c none (some (.int .i64 (k : Int))) none).run Tryf.prog w = .ok (0, k, c) w := by
    have h1 : (k : Int) ≤ (c : Int) := by omega
    simp [Instr.sliceBounds, run_sliceBound, h1]
  simp [Instr.slice, run_underlying Tryf.underlying41, hb, Tryf.sizeOf9, hadd]
theorem set_last {xs : List ByteArray} {i : Nat} (h : i < xs.length) (t : ByteArray) : (xs.set i t).take (i + 1) = xs.take i ++ [t] := by
  rw [List.take_add_one, List.take_set_of_le (Nat.le_refl _), List.getElem?_set_self h]
  rfl

set_option maxHeartbeats 2000000 in
set_option maxRecDepth 100000 in
theorem genSplit_any (s : ByteArray) (w : World) (hs : s.size ≤ 281474976710656) :
    Calls Tryf.prog 58 #[.string s, .string ⟨#[32]⟩, .int .i64 0, .int .i64 4] w fun e w' => ∃ g c, e = .returned (.slice (some ⟨g, 0, none⟩) (pieces 3 s.data.toList).length c) ∧ StrsAt w' (some ⟨g, 0, none⟩) c (pieces 3 s.data.toList) ∧ Below w.heap.size w w' := by
  obtain ⟨i0, hi0, hz0, hz1, hz2⟩ := info_parts infoStr
  obtain ⟨N, hN, hN3, hNs⟩ : ∃ N : Nat, min (4 : Int) ((s.size : Int) + 1) = ((N + 1 : Nat) : Int) ∧ N ≤ 3 ∧ (N = 3 ∨ N = s.size) := by
    rcases Nat.lt_or_ge s.size 3 with h | h
    · exact ⟨s.size, by omega, by omega, .inr rfl⟩
    · exact ⟨3, by omega, by omega, .inl rfl⟩
  have hNs' : N ≤ s.size ∨ N = 3 := by omega
  generalize hres : pieces 3 s.data.toList = res
  have HR := Lib.hid hres
  clear hres
  go_enter Tryf.func58, Tryf.ntmps58
  go_wp2_with (at_make; refine wpList_make_full _ rfl _ _ 41 rfl w.heap.size 9 i0 (.string ⟨#[]⟩) 1 Tryf.underlying41 hi0 hz0 hz1 _ _ _ _ (N + 1) rfl rfl (by omega) (by omega) (by rw [hz2]; omega) (by unfold maxLen; omega) (Nat.le_refl _) ?_; intro w1 hown hg1)
  have hb1 := (Below.refl w.heap.size w).grown hg1 (Nat.le_refl _) (fun j hj => by cases hj)
  clear hg1
  have hcs : (madeCells (Value.string ⟨#[]⟩).cells ((N + 1) * 1)).toList = (List.replicate (N + 1) (⟨#[]⟩ : ByteArray)).map Value.string := by
    show (madeCells #[Value.string ⟨#[]⟩] ((N + 1) * 1)).toList = _
    rw [Nat.mul_one, toList_madeCells_one, List.map_replicate]
  rw [hcs] at hown
  clear hcs hN
  go_loopg [0, 10] (N + 1) (fun g s0 s10 wr => ∃ (i : Nat) (t : ByteArray) (xs : List ByteArray), i ≤ N ∧ N + 1 - i ≤ g ∧ s0 = .string t ∧ s10 = .int .i64 i ∧ xs.length = N + 1 ∧ (∀ x ∈ xs, x.size ≤ 9223372036854775807) ∧ t.size + i ≤ s.size ∧ xs.take i ++ pieces (3 - i) t.data.toList = res ∧ wr.ownsRow w.heap.size 9 1 (.slice (some ⟨w.heap.size, 0, none⟩) (N + 1) (N + 1)) (N + 1) (xs.map Value.string) ∧ Below w.heap.size w wr)
  case atStart => exact ⟨0, s, List.replicate (N + 1) ⟨#[]⟩, Nat.zero_le _, by omega, rfl, rfl, by simp, fun x hx => by rw [(List.mem_replicate.1 hx).2]; decide, Nat.le_refl _, by simpa using HR.out, hown, hb1⟩
  case round =>
    obtain ⟨i, t, xs, hi, hg, rfl, rfl, hxl, hxz, htz, hq, hown, hb⟩ := hrel
    clear hb1
    rcases index_cases t.data.toList with hx | ⟨j, hx, hj⟩
    · have hp1 : pieces (3 - i) t.data.toList = [t] := by rw [pieces_one (cut_not hx), Lib.mk_data]
      rw [hp1] at hq
      have HQ := Lib.hid hq
      have HX := Lib.hid hx
      clear hq hp1 hx
      by_cases hlt : i < N
      · have hlc : (i : Int) < (N : Int) := by omega
        go_wp2_with fail
        refine (Tryf.strings_Index_one t 32 wr).mono ?_
        rintro e w3 ⟨rfl, rfl⟩
        rw [HX.out]
        have hfro := hown.frozenAt i
        have hcell := row_cells hown i (by omega)
        obtain ⟨hown2, hg2⟩ := hown.stored i (.string t)
        rw [← List.map_set] at hown2
        have hb2 : Below w.heap.size w (w3.setCell ⟨w.heap.size, i, none⟩ (.string t)) := hb.grown hg2 hb.size (fun j hj => by cases hj; exact Nat.le_refl _)
        clear hown hg2
        have htk := run_head ⟨w.heap.size, 0, none⟩ (N + 1) (N + 1) (i + 1) (by omega)
        rw [show ((i + 1 : Nat) : Int) = (i : Int) + 1 by omega] at htk
        go_wp2_with fail
        go_ret
        have hfl := set_last (xs := xs) (i := i) (by omega) t
        rw [HQ.out] at hfl
        obtain ⟨_, hSx⟩ := owned_strs hown2 (fun x hx => by rcases List.mem_or_eq_of_mem_set hx with h | h; exact hxz x h; rw [h]; omega)
        have hS2 := hSx.take (i + 1)
        rw [hfl] at hS2
        have hln : res.length = i + 1 := by rw [← hfl, List.length_take, List.length_set]; omega
        exact ⟨_, _, by rw [hln]; rfl, hS2, hb2⟩
      · have hlc : ¬ (i : Int) < (N : Int) := by omega
        have hfro := hown.frozenAt i
        have hcell := row_cells hown i (by omega)
        obtain ⟨hown2, hg2⟩ := hown.stored i (.string t)
        rw [← List.map_set] at hown2
        have hb2 : Below w.heap.size w (wr.setCell ⟨w.heap.size, i, none⟩ (.string t)) := hb.grown hg2 hb.size (fun j hj => by cases hj; exact Nat.le_refl _)
        clear hown hg2
        have htk := run_head ⟨w.heap.size, 0, none⟩ (N + 1) (N + 1) (i + 1) (by omega)
        rw [show ((i + 1 : Nat) : Int) = (i : Int) + 1 by omega] at htk
        go_wp2_with fail
        go_ret
        have hfl := set_last (xs := xs) (i := i) (by omega) t
        rw [HQ.out] at hfl
        obtain ⟨_, hSx⟩ := owned_strs hown2 (fun x hx => by rcases List.mem_or_eq_of_mem_set hx with h | h; exact hxz x h; rw [h]; omega)
        have hS2 := hSx.take (i + 1)
        rw [hfl] at hS2
        have hln : res.length = i + 1 := by rw [← hfl, List.length_take, List.length_set]; omega
        exact ⟨_, _, by rw [hln]; rfl, hS2, hb2⟩
    · by_cases hlt : i < N
      · have hct := cut_at hx
        have hq' := hq
        rw [show 3 - i = (3 - (i + 1)) + 1 by omega, pieces_more hct] at hq'
        have HQ := Lib.hid hq'
        have HX := Lib.hid hx
        rw [← ba_size] at hj
        clear hq hq' hx hct
        have hlc : (i : Int) < (N : Int) := by omega
        have c0 : (0 : Int) ≤ (j : Int) := by omega
        have c1 : (j : Int) ≤ (t.size : Int) := by omega
        have c2 : (0 : Int) ≤ (j : Int) + 1 := by omega
        have c3 : (j : Int) + 1 ≤ (t.size : Int) := by omega
        go_wp2_with fail
        refine (Tryf.strings_Index_one t 32 wr).mono ?_
        rintro e w3 ⟨rfl, rfl⟩
        rw [HX.out]
        have hfro := hown.frozenAt i
        have hcell := row_cells hown i (by omega)
        obtain ⟨hown2, hg2⟩ := hown.stored i (.string (t.extract 0 j))
        rw [← List.map_set] at hown2
        have hb2 : Below w.heap.size w (w3.setCell ⟨w.heap.size, i, none⟩ (.string (t.extract 0 j))) := hb.grown hg2 hb.size (fun j hj => by cases hj; exact Nat.le_refl _)
        clear hown hg2
        have x1 : t.extract 0 j = ⟨(t.data.toList.take j).toArray⟩ := by rw [Lib.extract_eq]; simp
        have x2 : (t.extract (j + 1) t.size).data.toList = t.data.toList.drop (j + 1) := by
          rw [Lib.extract_data]
          exact List.take_of_length_le (by rw [List.length_drop, ← ba_size]; omega)
        have hq2 : (xs.set i (t.extract 0 j)).take (i + 1) ++ pieces (3 - (i + 1)) (t.extract (j + 1) t.size).data.toList = res := by
          rw [set_last (by omega), x1, x2, List.append_assoc]
          exact HQ.out
        have z1 : (t.extract 0 j).size ≤ t.size := by rw [ByteArray.size_extract]; omega
        have z2 : (t.extract (j + 1) t.size).size + (i + 1) ≤ s.size := by rw [ByteArray.size_extract]; omega
        have hxz2 : ∀ x ∈ xs.set i (t.extract 0 j), x.size ≤ 9223372036854775807 := fun x hx => by
          rcases List.mem_or_eq_of_mem_set hx with h | h
          · exact hxz x h
          · rw [h]; omega
        have HQ2 := Lib.hid hq2
        clear x1 x2 hq2 z1 HQ
        go_wp2_with fail
        go_roundg (N + 1 - (i + 1))
        case measure => omega
        case rel => exact ⟨i + 1, _, _, by omega, Nat.le_refl _, rfl, by go_num, by rw [List.length_set]; exact hxl, hxz2, z2, HQ2.out, hown2, hb2⟩
      · have hlc : ¬ (i : Int) < (N : Int) := by omega
        have hp1 : pieces (3 - i) t.data.toList = [t] := by
          rcases hNs with h3 | h3
          · rw [show 3 - i = 0 by omega]
            show [_] = _
            rw [Lib.mk_data]
          · rw [pieces_one (nil_not (by rw [← ba_size]; omega)), Lib.mk_data]
        rw [hp1] at hq
        have HQ := Lib.hid hq
        clear hq hp1 hx
        have hfro := hown.frozenAt i
        have hcell := row_cells hown i (by omega)
        obtain ⟨hown2, hg2⟩ := hown.stored i (.string t)
        rw [← List.map_set] at hown2
        have hb2 : Below w.heap.size w (wr.setCell ⟨w.heap.size, i, none⟩ (.string t)) := hb.grown hg2 hb.size (fun j hj => by cases hj; exact Nat.le_refl _)
        clear hown hg2
        have htk := run_head ⟨w.heap.size, 0, none⟩ (N + 1) (N + 1) (i + 1) (by omega)
        rw [show ((i + 1 : Nat) : Int) = (i : Int) + 1 by omega] at htk
        go_wp2_with fail
        go_ret
        have hfl := set_last (xs := xs) (i := i) (by omega) t
        rw [HQ.out] at hfl
        obtain ⟨_, hSx⟩ := owned_strs hown2 (fun x hx => by rcases List.mem_or_eq_of_mem_set hx with h | h; exact hxz x h; rw [h]; omega)
        have hS2 := hSx.take (i + 1)
        rw [hfl] at hS2
        have hln : res.length = i + 1 := by rw [← hfl, List.length_take, List.length_set]; omega
        exact ⟨_, _, by rw [hln]; rfl, hS2, hb2⟩

theorem splitN_any (s : ByteArray) (w : World) (hs : s.size ≤ 281474976710656) :
    Calls Tryf.prog 41 #[.string s, .string ⟨#[32]⟩, .int .i64 4] w fun e w' => ∃ g c, e = .returned (.slice (some ⟨g, 0, none⟩) (pieces 3 s.data.toList).length c) ∧ StrsAt w' (some ⟨g, 0, none⟩) c (pieces 3 s.data.toList) ∧ Below w.heap.size w w' := by
  have hg := genSplit_any s w hs
  generalize pieces 3 s.data.toList = res at hg ⊢
  have HG := Lib.hid hg
  clear hg
  go_enter Tryf.func41, Tryf.ntmps41
  go_wp2_with fail
  refine HG.out.mono ?_
  rintro e w1 ⟨g, c, rfl, hS, hb⟩
  go_wp2_with fail
  go_ret
  exact ⟨g, c, rfl, hS, hb⟩

/- Fewer than four pieces, or four, and what is read of them. -/
theorem pieces_four (l : List UInt8) : ((pieces 3 l).length < 4 ∧ 0 < (pieces 3 l).length ∧ readL l = none) ∨ ∃ d0 d1 d2 r0 r1 r2, pieces 3 l = [⟨d0.toArray⟩, ⟨d1.toArray⟩, ⟨d2.toArray⟩, ⟨r2.toArray⟩] ∧ Lib.cut l [32] = (d0, r0, true) ∧ Lib.cut r0 [32] = (d1, r1, true) ∧ Lib.cut r1 [32] = (d2, r2, true) := by
  obtain ⟨d0, r0, f0, h0⟩ : ∃ d r f, Lib.cut l [32] = (d, r, f) := ⟨_, _, _, rfl⟩
  cases f0 with
  | false =>
    left
    rw [pieces_one (by rw [h0])]
    exact ⟨by simp, by simp, readL_no (numL_neg h0 (.inl rfl))⟩
  | true =>
    rw [pieces_more h0]
    obtain ⟨d1, r1, f1, h1⟩ : ∃ d r f, Lib.cut r0 [32] = (d, r, f) := ⟨_, _, _, rfl⟩
    cases f1 with
    | false =>
      left
      rw [pieces_one (by rw [h1])]
      refine ⟨by simp, by simp, ?_⟩
      cases hn : numOf d0 with
      | none => exact readL_no (numL_neg h0 (.inr hn))
      | some x => rw [readL_go (numL_pos h0 hn)]; exact read1_no (numL_neg h1 (.inl rfl))
    | true =>
      rw [pieces_more h1]
      obtain ⟨d2, r2, f2, h2⟩ : ∃ d r f, Lib.cut r1 [32] = (d, r, f) := ⟨_, _, _, rfl⟩
      cases f2 with
      | false =>
        left
        rw [pieces_one (by rw [h2])]
        refine ⟨by simp, by simp, ?_⟩
        cases hn : numOf d0 with
        | none => exact readL_no (numL_neg h0 (.inr hn))
        | some x =>
          rw [readL_go (numL_pos h0 hn)]
          cases hm : numOf d1 with
          | none => exact read1_no (numL_neg h1 (.inr hm))
          | some y => rw [read1_go (numL_pos h1 hm)]; exact read2_no (numL_neg h2 (.inl rfl))
      | true =>
        right
        rw [pieces_more h2]
        exact ⟨d0, d1, d2, r0, r1, r2, rfl, h0, h1, h2⟩
end Go.Proofs.YtbpheklfdakikadFmt
