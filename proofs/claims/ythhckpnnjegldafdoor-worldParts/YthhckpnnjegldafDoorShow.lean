/-
  Contracts of package show: last, Entry, Growth, Value.
-/
import Derived.Test.YthhckpnnjegldafDoorPath
import Derived.Test.YthhckpnnjegldafDoorShowGrowth
import Derived.Test.YthhckpnnjegldafDoorTriePath
import Derived.Test.YthhckpnnjegldafDoorBookVals
import Derived.Test.YthhckpnnjegldafDoorBlocks
import Derived.Test.YthhckpnnjegldafDoorBackMath
namespace Go.Proofs.YthhckpnnjegldafDoor
open Go Go.RowKit Go.Maps

theorem results_row_tmp2 {P : Program} {fn : Func} {p u v : Tmp} {ty : TypeId} (h : fn.results = #[.cell p ty, .tmp u, .tmp v]) (tmps : Array Value) (w : World) (g : Nat) (t : TypeId) (cs : Array Value) (fr : Nat × Nat) (d : TypeDesc)
    (hp : tmps.getD p undef = .pointer (some ⟨g, 0, none⟩)) (hg : w.heap[g]? = some (.cells cs t fr))
    (hu : P.underlying ty = some d) (hd : (match d with | .struct _ | .array _ _ => true | _ => false) = true) (hi : (P.info? ty).map (·.size) = some cs.size) :
    (results fn tmps).run P w = .ok (.tuple #[.agg cs, tmps.getD u undef, tmps.getD v undef]) w := by
  have hl := run_loadVar_row w g t ty cs fr d hg hu hd hi
  rw [Array.getD_eq_getD_getElem?] at hp
  simp only [results, h]
  simp [Result.andThen, hp, asAddr, hl]
theorem results_tmp4 {fn : Func} {t u v x : Tmp} (h : fn.results = #[.tmp t, .tmp u, .tmp v, .tmp x]) (tmps : Array Value) (P : Program) (w : World) :
    (results fn tmps).run P w = .ok (.tuple #[tmps.getD t undef, tmps.getD u undef, tmps.getD v undef, tmps.getD x undef]) w := by
  simp [results, h]
theorem ent_cells (k : Int) (v : ByteArray) : (#[.int .i64 k, .string v] : Array Value).all (·.oneCell') = true := by simp [Value.oneCell']
theorem lastV_app : ∀ (l m : List EntB) (k : Int), lastV (l ++ m) k = (lastV m k).or (lastV l k)
  | [], m, k => by simp [lastV]
  | e :: l, m, k => by
    show (lastV (l ++ m) k).or _ = (lastV m k).or ((lastV l k).or _)
    rw [lastV_app l m k, Option.or_assoc]
theorem lastV_at {l : List EntB} {j : Nat} (h : j < l.length) (k : Int) (hl : lastV (l.drop (j + 1)) k = none) : lastV (l.drop j) k = if k = (entAt l j).1 then some (entAt l j).2 else none := by
  rw [ents_drop h]
  show (lastV (l.drop (j + 1)) k).or _ = _
  rw [hl]
  rfl
theorem lastV_some {l : List EntB} {j : Nat} {k : Int} {v : ByteArray} (h : lastV (l.drop j) k = some v) : lastV l k = some v := by
  have := lastV_app (l.take j) (l.drop j) k
  rw [List.take_append_drop, h] at this
  exact this

set_option maxRecDepth 100000 in
theorem last_any (l : List EntB) (a : Option Addr) (n c : Nat) (k : Int) (w : World) (hn : l.length = n) (hS : EntsAt w a c l) :
    Calls Tryd.prog 74 #[.agg #[.slice a n c], .int .i64 k] w fun e w' => e = .returned (.tuple #[.string (valS (valsD l) k), .bool (valD (valsD l) k).isSome]) ∧ Below w.heap.size w w' := by
  have hcap := hS.cap
  have hmax := hS.max
  have hvl := vals_last l k
  unfold valS
  rw [hvl]
  clear hvl
  go_enter Tryd.func74, Tryd.ntmps74
  go_wp2_with fail
  have hb1 : Below w.heap.size w (w.alloc (.cells #[.slice a n c] 24)) := (Below.refl _ _).alloc (Nat.le_refl _) _
  have q0 := box_cell w #[.slice a n c] 24 0 _ rfl
  generalize (w.alloc (.cells #[.slice a n c] 24)) = W at hb1 q0 ⊢
  have hS := hS.on hb1
  go_loopg [6] n (fun g s6 wr => ∃ j : Nat, j ≤ n ∧ j ≤ g ∧ s6 = .int .i64 ((j : Int) - 1) ∧ lastV (l.drop j) k = none ∧ wr = W)
  case atStart => exact ⟨n, Nat.le_refl _, Nat.le_refl _, rfl, by rw [List.drop_of_length_le (by omega)]; rfl, rfl⟩
  case round =>
    obtain ⟨j, hj, hg, rfl, hla, rfl⟩ := hrel
    rcases Nat.eq_zero_or_pos j with h0 | h0
    · subst h0
      rw [List.drop_zero] at hla
      have HA := Lib.hid hla
      clear hla
      go_wp2_with fail
      go_ret2
      exact ⟨by rw [HA.out]; rfl, hb1⟩
    · obtain ⟨i, rfl⟩ : ∃ i, j = i + 1 := ⟨j - 1, by omega⟩
      rw [show (((i + 1 : Nat) : Int) - 1) = (i : Int) by omega]
      have hj0 : (0 : Int) ≤ (i : Int) := by omega
      have hjn : (i : Int) < (n : Int) := by omega
      have hat := lastV_at (l := l) (j := i) (by omega) k hla
      obtain ⟨b, off, rfl, hbl, hc⟩ := hS.cells (by omega)
      obtain ⟨c0, c1⟩ := hc i (by omega)
      generalize entAt l i = x at c0 c1 hat
      obtain ⟨key, v⟩ := x
      simp only at c0 c1 hat
      clear hc hS hla
      by_cases hk : k = key
      · subst hk
        rw [if_pos rfl] at hat
        have HA := Lib.hid (lastV_some hat)
        clear hat
        go_wp2_with fail
        go_ret2
        exact ⟨by rw [HA.out]; rfl, hb1⟩
      · rw [if_neg hk] at hat
        have hk' : (key == k) = false := by simp only [beq_eq_false_iff_ne, ne_eq]; exact fun e => hk e.symm
        have HA := Lib.hid hat
        clear hat
        go_wp2_with fail
        go_roundg i
        case measure => omega
        case rel => exact ⟨i, by omega, Nat.le_refl _, by go_num, HA.out, rfl⟩

/- Entry. -/
theorem steps_kept {w : World} {B g : Nat} {t : TypeId} {a : Option Addr} {n c : Nat} {l : List StepB} (h : w.ownsRow B t 2 (.slice a n c) n (stepCells l)) (hg : g < B) (hs : ∀ s ∈ l, s.2.size ≤ 9223372036854775807) (cs : Array Value) : StepsAt (w.setRow g cs) a c l := by
  have hgr : w.grownBy (w.setRow g cs) (some g) := ⟨rfl, rfl, rfl, by simp [World.setRow], fun k _ hk => setRow_other w g k _ (fun e => hk (by rw [e]))⟩
  have hown := h.kept hgr (by
    rcases hb : (Value.slice a n c).ownBlock with _ | k
    · exact .inl rfl
    · refine .inr fun e => ?_
      injection e with e
      have := (h.lt k hb).1
      omega)
  obtain ⟨a3, c3, he, _, hS2⟩ := steps_own hown hs
  injection he with e1 e2 e3
  subst e1 e3
  exact hS2



/- Value. -/
set_option maxRecDepth 100000 in
theorem showValue_bad (l : List EntB) (a : Option Addr) (n c : Nat) (k : Int) (w : World) (hn : l.length = n) (hS : EntsAt w a c l) (z : Int) (hz : bookE l = z) (h0 : z ≠ 0) :
    Calls Tryd.prog 67 #[.agg #[.slice a n c], .int .i64 k] w fun e w' => e = .returned (.tuple #[.string ⟨#[]⟩, .bool false, .slice none 0 0, .int .i64 z]) ∧ Below w.heap.size w w' := by
  have HV := Lib.hid (fun w' hS => vals_no l a n c w' hn hS z hz h0)
  have hz' : (z == 0) = false := by simp only [beq_eq_false_iff_ne, ne_eq]; exact h0
  clear hz
  go_enter Tryd.func67, Tryd.ntmps67
  go_wp2_with fail
  have hb0 : Below w.heap.size w (w.alloc (.cells #[.slice a n c] 24)) := (Below.refl _ _).alloc (Nat.le_refl _) _
  generalize (w.alloc (.cells #[.slice a n c] 24)) = W at hb0 ⊢
  refine (HV.out W (hS.on hb0)).mono ?_
  rintro e w1 ⟨rfl, hb1⟩
  have hb1 := below_on hb0 hb1
  clear hb0 HV
  go_wp2_with fail
  (try simp only [Exit.inBlock, Exit.then])
  refine bodyPost_ret (results_tmp4 rfl _ _ _) rfl ?_
  exact ⟨rfl, hb1⟩

set_option maxRecDepth 100000 in
theorem showValue_who (l : List EntB) (a : Option Addr) (n c : Nat) (k : Int) (w : World) (hn : l.length = n) (hS : EntsAt w a c l) (hG : GoodBook l) (hk : k < 0 ∨ 15 < k) :
    Calls Tryd.prog 67 #[.agg #[.slice a n c], .int .i64 k] w fun e w' => e = .returned (.tuple #[.string ⟨#[]⟩, .bool false, .slice none 0 0, .int .i64 5]) ∧ Below w.heap.size w w' := by
  have HV := Lib.hid (fun w' hS => vals_ok l a n c w' hn hS hG)
  have HP := Lib.hid (fun p w' hM => path_who (some p) (valsD l) k w' hM (valsD_good hG.2) hk)
  clear hk
  go_enter Tryd.func67, Tryd.ntmps67
  go_wp2_with fail
  have hb0 : Below w.heap.size w (w.alloc (.cells #[.slice a n c] 24)) := (Below.refl _ _).alloc (Nat.le_refl _) _
  generalize (w.alloc (.cells #[.slice a n c] 24)) = W at hb0 ⊢
  refine (HV.out W (hS.on hb0)).mono ?_
  rintro e w1 ⟨p, rfl, hM, _, hb1⟩
  have hb1 := below_on hb0 hb1
  clear hb0 HV
  go_wp2_with fail
  refine (HP.out p w1 hM).mono ?_
  rintro e w2 ⟨rfl, rfl⟩
  go_wp2_with fail
  (try simp only [Exit.inBlock, Exit.then])
  refine bodyPost_ret (results_tmp4 rfl _ _ _) rfl ?_
  exact ⟨rfl, hb1⟩

set_option maxRecDepth 100000 in
theorem showValue_ok (l : List EntB) (a : Option Addr) (n c k : Nat) (w : World) (hE : Tab w) (hn : l.length = n) (hS : EntsAt w a c l) (hG : GoodBook l) (hk : k < 16) :
    Calls Tryd.prog 67 #[.agg #[.slice a n c], .int .i64 (k : Int)] w fun e w' => ∃ a' c', e = .returned (.tuple #[.string (valS (valsD l) (k : Int)), .bool (valD (valsD l) (k : Int)).isSome, .slice a' 4 c', .int .i64 0]) ∧ StrsAt w' a' c' (pathT (valN (valsD l)) 0 k 4) ∧ Below w.heap.size w w' := by
  have HV := Lib.hid (fun w' hS => vals_ok l a n c w' hn hS hG)
  have hpa := fun p w' hE hM => path_good (some p) (valsD l) k w' hE hM (valsD_good hG.2) hk
  have hla := fun w' hS => last_any l a n c (k : Int) w' hn hS
  generalize pathT (valN (valsD l)) 0 k 4 = L at hpa ⊢
  generalize valS (valsD l) (k : Int) = v at hla ⊢
  generalize (valD (valsD l) (k : Int)).isSome = t at hla ⊢
  have HP := Lib.hid hpa
  have HL := Lib.hid hla
  clear hpa hla
  go_enter Tryd.func67, Tryd.ntmps67
  go_wp2_with fail
  have hb0 : Below w.heap.size w (w.alloc (.cells #[.slice a n c] 24)) := (Below.refl _ _).alloc (Nat.le_refl _) _
  have q0 := heap_push w (.cells #[.slice a n c] 24)
  generalize (w.alloc (.cells #[.slice a n c] 24)) = W at hb0 q0 ⊢
  refine (HV.out W (hS.on hb0)).mono ?_
  rintro e w1 ⟨p, rfl, hM, _, hb1⟩
  have q0 := heap_on hb1 q0
  have hb1 := below_on hb0 hb1
  clear hb0 HV
  go_wp2_with fail
  refine (HP.out p w1 (hE.on hb1) hM).mono ?_
  rintro e w2 ⟨a2, c2, rfl, hL, hb2⟩
  have d0 := heap_cell (heap_on hb2 q0) 0 _ rfl
  have hb2 := below_on hb1 hb2
  clear hb1 HP q0
  go_wp2_with fail
  refine (HL.out w2 (hS.on hb2)).mono ?_
  rintro e w3 ⟨rfl, hb3⟩
  have hL := hL.on hb3
  have hb3 := below_on hb2 hb3
  clear hb2 HL
  go_wp2_with fail
  (try simp only [Exit.inBlock, Exit.then])
  refine bodyPost_ret (results_tmp4 rfl _ _ _) rfl ?_
  exact ⟨a2, c2, rfl, hL, hb3⟩
end Go.Proofs.YthhckpnnjegldafDoor
