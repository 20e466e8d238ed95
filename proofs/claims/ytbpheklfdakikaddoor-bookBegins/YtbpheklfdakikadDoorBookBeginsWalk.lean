/-
  BookBegins walked: the head of a book's beginning doesn't hang on what comes behind; as many heads as entries, and one, are all unlike.
-/
import Derived.Test.YtbpheklfdakikadDoorHeads
import Derived.Test.YtbpheklfdakikadDoorBooked
namespace Go.Proofs.YtbpheklfdakikadDoor
open Go Go.RowKit Go.Maps

theorem EntsAt.take {w : World} {a : Option Addr} {c : Nat} {l : List EntB} (h : EntsAt w a c l) (k : Nat) : EntsAt w a c (l.take k) := by
  have hl : (l.take k).length ≤ l.length := by rw [List.length_take]; omega
  refine ⟨by have := h.cap; omega, h.max, fun s hs => h.sz s (List.mem_of_mem_take hs), fun hp => ?_⟩
  obtain ⟨b, off, ha, hlt, hc⟩ := h.cells (by omega)
  refine ⟨b, off, ha, hlt, fun i hi => ?_⟩
  have hi' : i < k := by rw [List.length_take] at hi; omega
  have e : entAt (l.take k) i = entAt l i := by simp [entAt, List.getD_eq_getElem?_getD, hi']
  rw [e]
  exact hc i (by omega)
theorem good_take {l : List EntB} (h : GoodBook l) (k : Nat) : GoodBook (l.take k) :=
  ⟨by have := h.1; rw [List.length_take]; omega, fun e he => h.2 e (List.mem_of_mem_take he)⟩
/- A book's box isn't where entries lie. -/
theorem ents_set {w : World} {a : Option Addr} {c g : Nat} {l : List EntB} {u : Value} (h : EntsAt w a c l) (hx : ∀ b off, a = some ⟨b, off, none⟩ → b ≠ g) : EntsAt (w.setCell ⟨g, 0, none⟩ u) a c l :=
  h.grown (set_grown w g 0 u) (fun b off e e2 => by injection e2 with e2; exact hx b off e e2.symm)
theorem own_apart {w : World} {base : Nat} {e t : TypeId} {size : Nat} {v : Value} {n : Nat} {xs : List Value} {g : Nat} {cs : Array Value} {fr : Nat × Nat} (h : w.ownsRow base e size v n xs) (hg : w.heap[g]? = some (.cells cs t fr)) (hte : t ≠ e) : v.ownBlock ≠ some g := by
  rcases h.2 with ⟨rfl, _⟩ | ⟨g', cap, cur, rfl, _, hg', _⟩
  · simp [Value.ownBlock]
  · intro h
    simp only [Value.ownBlock, Option.some.injEq] at h
    subst h
    rw [hg'] at hg
    simp only [Option.some.injEq, Obj.cells.injEq] at hg
    exact hte hg.2.1.symm
theorem run_take (a : Option Addr) (n c k : Nat) (hk : k ≤ c) (w : World) : (Instr.slice 35 (.slice a n c) none (some (.int .i64 (k : Int))) none).run Tryd.prog w = .ok (.slice a k c) w := by
  have hadd : ∀ ad : Addr, ad.add 0 = ad := fun ad => by unfold Addr.add; simp
  have hb : (Instr.sliceBounds true n c none (some (.int .i64 (k : Int))) none).run Tryd.prog w = .ok (0, k, c) w := by
    have h1 : (k : Int) ≤ (c : Int) := by omega
    simp [Instr.sliceBounds, run_sliceBound, h1]
  cases a <;> simp [Instr.slice, run_underlying Tryd.underlying35, hb, Tryd.sizeOf39, hadd]
theorem infoHead : (Tryd.prog.info? 41).map (fun i => (i.zero, i.size, i.bytes)) = some (some (.agg #[.int .i64 0, .string ⟨#[]⟩, .string ⟨#[]⟩]), 3, 40) := by kernel_rfl

set_option maxHeartbeats 1000000 in
set_option maxRecDepth 100000 in
theorem bookBegins_bad (l : List EntB) (a : Option Addr) (n c : Nat) (w : World) (hE : Tab w) (hn : l.length = n) (hS : EntsAt w a c l) (z : Int) (hz : bookE l = z) (h0 : z ≠ 0) :
    Calls Tryd.prog 6 #[.agg #[.slice a n c]] w fun e w' => e = .returned (.bool true) ∧ Below w.heap.size w w' := by
  have hck := fun w' h => bcheck_any l a n c w' hn h
  rw [hz] at hck
  have HC := Lib.hid hck
  have hz' : (z == 0) = false := by simp only [beq_eq_false_iff_ne, ne_eq]; exact h0
  clear hck hz
  have q0 := heap_push w (.cells #[.slice a n c] 37)
  have hb0 : Below w.heap.size w (w.alloc (.cells #[.slice a n c] 37)) := (Below.refl _ _).alloc (Nat.le_refl _) _
  go_enter Tryd.func6, Tryd.ntmps6
  go_wp2_with fail
  generalize (w.alloc (.cells #[.slice a n c] 37)) = W at q0 hb0 ⊢
  refine (booked_any W (hE.on hb0)).mono ?_
  rintro e w1 ⟨rfl, hb1⟩
  have q1 := heap_on hb1 q0
  have hb1 := below_on hb0 hb1
  clear q0 hb0
  have d0 := heap_cell q1 0 _ rfl
  go_wp2_with fail
  refine (HC.out w1 (hS.on hb1)).mono ?_
  rintro e w2 ⟨rfl, hb2⟩
  have hb2 := below_on hb1 hb2
  clear q1 hb1 d0
  go_wp2_with fail
  refine (booked_any w2 (hE.on hb2)).mono ?_
  rintro e w3 ⟨rfl, hb3⟩
  have hb3 := below_on hb2 hb3
  go_wp2_with fail
  go_ret
  exact ⟨rfl, hb3⟩

set_option maxHeartbeats 4000000 in
set_option maxRecDepth 100000 in
theorem bookBegins_good (l : List EntB) (a : Option Addr) (n c : Nat) (w : World) (hE : Tab w) (hn : l.length = n) (hS : EntsAt w a c l) (hG : GoodBook l) :
    Calls Tryd.prog 6 #[.agg #[.slice a n c]] w fun e w' => e = .returned (.bool true) ∧ Below w.heap.size w w' := by
  have h24 := hG.1
  have hcap := hS.cap
  have hmax := hS.max
  have hck := fun w' h => bcheck_any l a n c w' hn h
  rw [(bookE_iff l).2 hG] at hck
  have HC := Lib.hid hck
  clear hck
  obtain ⟨i0, hi0, hz0, hz1, hz2⟩ := info_parts infoHead
  have q0 := heap_push w (.cells #[.slice a n c] 37)
  have hb0 : Below w.heap.size w (w.alloc (.cells #[.slice a n c] 37)) := (Below.refl _ _).alloc (Nat.le_refl _) _
  go_enter Tryd.func6, Tryd.ntmps6
  go_wp2_with fail
  generalize (w.alloc (.cells #[.slice a n c] 37)) = W at q0 hb0 ⊢
  refine (booked_any W (hE.on hb0)).mono ?_
  rintro e w1 ⟨rfl, hb1⟩
  have q1 := heap_on hb1 q0
  have hb1 := below_on hb0 hb1
  clear q0 hb0
  have d0 := heap_cell q1 0 _ rfl
  go_wp2_with fail
  refine (HC.out w1 (hS.on hb1)).mono ?_
  rintro e w2 ⟨rfl, hb2⟩
  have q2 := heap_on hb2 q1
  have hb2 := below_on hb1 hb2
  clear q1 hb1 d0 HC
  have q3 := heap_old w2 (.cells #[.slice none 0 0] 37) q2
  have s3 := heap_push w2 (.cells #[.slice none 0 0] 37)
  have hb3 := hb2.alloc hb2.size (.cells #[.slice none 0 0] 37)
  have hB4 : w.heap.size < w2.heap.size := (Array.getElem?_eq_some_iff.1 q2).1
  go_wp2_with fail
  generalize (w2.alloc (.cells #[.slice none 0 0] 37)) = w3 at q3 s3 hb3 ⊢
  generalize w2.heap.size = B4 at s3 hB4 ⊢
  clear q2 hb2
  go_loopg [3, 5] (n + 1) (fun g s3 s5 wr => ∃ (k : Nat) (a3 : Option Addr) (c3 : Nat) (a4 : Option Addr) (c4 : Nat), k ≤ n ∧ n + 1 - k ≤ g ∧ s3 = .slice a3 k c3 ∧ s5 = .int .i64 k ∧ Below w.heap.size w wr ∧ wr.heap[w.heap.size]? = some (.cells #[.slice a n c] 37) ∧ wr.heap[B4]? = some (.cells #[.slice a4 k c4] 37) ∧ EntsAt wr a4 c4 (l.take k) ∧ wr.ownsRow w.heap.size 41 3 (.slice a3 k c3) k (headCells l k) ∧ ∀ g off, a4 = some ⟨g, off, none⟩ → (Value.slice a3 k c3).ownBlock ≠ some g)
  case atStart => exact ⟨0, none, 0, none, 0, Nat.zero_le _, Nat.le_refl _, rfl, rfl, hb3, q3, s3, ents_none _, World.ownsRow_nil _ _ _ _, fun g off e => by cases e⟩
  case round =>
    obtain ⟨k, a3, c3, a4, c4, hk, hg, rfl, rfl, hb, q0, s0, hN, hown, hap⟩ := hrel
    clear hb3 q3 s3
    have hlen : (l.take k).length = k := by rw [List.length_take]; omega
    have hGk := good_take hG k
    have hlz := headLog_size hGk
    have hmz := headMap_size hGk
    have hh1 := fun w' hE' hS' => head_ok (l.take k) a4 k c4 w' hE' hlen hS' hGk
    have hh2 := fun w' hE' hS' => head_ok (l.take k) a k c w' hE' hlen hS' hGk
    have hct := fun a3 c3 w' h => contains_none l a3 c3 k (headLog (l.take k)) (headMap (l.take k)) w' h
    have hnc := fun w' => ncheck_any (k : Int) (headLog (l.take k)) (headMap (l.take k)) w'
    rw [headE_ok (by omega) (by omega)] at hnc
    have hca : headCells l k ++ [.int .i64 (k : Int), .string (headLog (l.take k)), .string (headMap (l.take k))] = headCells l (k + 1) := rfl
    have h1a := headAt_one l k
    unfold headAt at h1a
    generalize headLog (l.take k) = L at *
    generalize headMap (l.take k) = M at *
    have HH1 := Lib.hid hh1
    have HH2 := Lib.hid hh2
    have HCT := Lib.hid hct
    have HNC := Lib.hid hnc
    have HCA := Lib.hid hca
    have H1A := Lib.hid h1a
    clear hh1 hh2 hct hnc hca h1a hlz hmz
    have d0 := heap_cell s0 0 _ rfl
    go_wp2_with fail
    refine (HH1.out wr (hE.on hb) hN).mono ?_
    rintro e w1 ⟨rfl, hb1⟩
    have q1 := heap_on hb1 q0
    have s1 := heap_on hb1 s0
    have hN1 := hN.on hb1
    have hown1 := owns_on hown hb1
    have hb1 := below_on hb hb1
    clear q0 s0 hN hown hb d0
    have bx : Below w1.heap.size w1 (w1.alloc (.cells #[.int .i64 (k : Int), .string L, .string M] 41)) := (Below.refl _ _).alloc (Nat.le_refl _) _
    have q2 := heap_on bx q1
    have s2 := heap_on bx s1
    have u2 := heap_push w1 (.cells #[.int .i64 (k : Int), .string L, .string M] 41)
    have hN2 := hN1.on bx
    have hown2 := owns_on hown1 bx
    have hb2 := below_on hb1 bx
    clear q1 s1 hN1 hown1 hb1 bx
    go_upto_region 8 with fail
    generalize (w1.alloc (.cells #[.int .i64 (k : Int), .string L, .string M] 41)) = w2 at q2 s2 u2 hN2 hown2 hb2 ⊢
    generalize w1.heap.size = B6 at u2 ⊢
    have d0 := heap_cell q2 0 _ rfl
    have htk := run_take a n c k (by omega)
    go_wp2_with fail
    refine (HH2.out w2 (hE.on hb2) ((hS.on hb2).take k)).mono ?_
    rintro e w3 ⟨rfl, hb3⟩
    have q3 := heap_on hb3 q2
    have s3 := heap_on hb3 s2
    have u3 := heap_on hb3 u2
    have hN3 := hN2.on hb3
    have hown3 := owns_on hown2 hb3
    have hb3 := below_on hb2 hb3
    clear q2 s2 u2 hN2 hown2 hb2 d0 htk
    have bx : Below w3.heap.size w3 (w3.alloc (.cells #[.int .i64 (k : Int), .string L, .string M] 41)) := (Below.refl _ _).alloc (Nat.le_refl _) _
    have q4 := heap_on bx q3
    have s4 := heap_on bx s3
    have u4 := heap_on bx u3
    have v4 := heap_push w3 (.cells #[.int .i64 (k : Int), .string L, .string M] 41)
    have hN4 := hN3.on bx
    have hown4 := owns_on hown3 bx
    have hb4 := below_on hb3 bx
    clear q3 s3 u3 hN3 hown3 hb3 bx
    go_upto_region 9 with fail
    generalize (w3.alloc (.cells #[.int .i64 (k : Int), .string L, .string M] 41)) = w4 at q4 s4 u4 v4 hN4 hown4 hb4 ⊢
    generalize w3.heap.size = B8 at v4 ⊢
    obtain ⟨a3', c3', hv, hH4⟩ := heads_own hown4
    injection hv with e1 _ e3
    subst e1 e3
    have j0 := heap_cell u4 0 _ rfl
    have j1 := heap_cell u4 1 _ rfl
    have j2 := heap_cell u4 2 _ rfl
    have i0' := heap_cell v4 0 _ rfl
    have i1' := heap_cell v4 1 _ rfl
    have i2' := heap_cell v4 2 _ rfl
    go_wp2_with fail
    refine (HCT.out a3 c3 w4 hH4).mono ?_
    rintro e w5 ⟨rfl, hb5⟩
    have q5 := heap_on hb5 q4
    have s5 := heap_on hb5 s4
    have u5 := heap_on hb5 u4
    have hN5 := hN4.on hb5
    have hown5 := owns_on hown4 hb5
    have hb5 := below_on hb4 hb5
    clear q4 s4 u4 v4 hN4 hown4 hb4 hH4 j0 j1 j2 i0' i1' i2'
    have j0 := heap_cell u5 0 _ rfl
    have j1 := heap_cell u5 1 _ rfl
    have j2 := heap_cell u5 2 _ rfl
    go_wp2_with fail
    refine (HNC.out w5).mono ?_
    rintro e w6 ⟨rfl, hb6⟩
    have q6 := heap_on hb6 q5
    have s6 := heap_on hb6 s5
    have u6 := heap_on hb6 u5
    have hN6 := hN5.on hb6
    have hown6 := owns_on hown5 hb6
    have hb6 := below_on hb5 hb6
    clear q5 s5 u5 hN5 hown5 hb5 j0 j1 j2
    have j0 := heap_cell u6 0 _ rfl
    have j1 := heap_cell u6 1 _ rfl
    have j2 := heap_cell u6 2 _ rfl
    have bx : Below w6.heap.size w6 (w6.alloc (.cells #[.int .i64 (k : Int), .string L, .string M] 41)) := (Below.refl _ _).alloc (Nat.le_refl _) _
    have hsz6 := hb6.size
    go_wp2_with (at_builtin; refine wpList_append_lies _ rfl _ _ 54 rfl w.heap.size 41 i0 (.agg #[.int .i64 0, .string ⟨#[]⟩, .string ⟨#[]⟩]) 3 40 Tryd.underlying54 hi0 hz0 hz1 hz2 rfl (by decide) _ _ _ rfl (hown6.alloc _) ⟨w6.heap.size, 0, none⟩ 1 1 [.int .i64 (k : Int), .string L, .string M] rfl rfl ?c1 H1A.out (by omega) ?c3 ?c4 ?c5 _ rfl ?_)
    case c1 => exact World.news_of_block (cs := #[.int .i64 (k : Int), .string L, .string M]) (t := 41) (fr := (0, 0)) (by show (w6.heap.push _)[w6.heap.size]? = _; simp)
    case c3 => unfold maxLen; omega
    case c4 => omega
    case c5 => show _ ≤ (w6.heap.push _).size; rw [Array.size_push]; omega
    intro g w7cap w7 hown7 hgrow _ hglt
    rw [HCA.out] at hown7
    have hb7 := own_below hb6 hb6.size hown6 (Nat.le_refl _) hgrow
    have q7 := heap_kept hgrow (heap_on bx q6) (own_apart hown6 q6 (by decide))
    have s7 := heap_kept hgrow (heap_on bx s6) (own_apart hown6 s6 (by decide))
    have hN7 := (hN6.on bx).grown hgrow (fun b off e => hap b off e)
    have hB4' : B4 < w7.heap.size := (Array.getElem?_eq_some_iff.1 s7).1
    clear q6 s6 u6 hN6 hown6 hb6 j0 j1 j2 bx hgrow hap
    have d0 := heap_cell q7 0 _ rfl
    by_cases hkn : k = n
    · have hq : ((k : Int) == (n : Int)) = true := by simp only [beq_iff_eq]; omega
      go_wp2_with fail
      go_ret
      exact ⟨rfl, hb7⟩
    · have hq : ((k : Int) == (n : Int)) = false := by simp only [beq_eq_false_iff_ne, ne_eq]; omega
      have hme := entAt_mem (l := l) (i := k) (by omega)
      have hx := hS.sz _ hme
      have htk : l.take k ++ [entAt l k] = l.take (k + 1) := (take_snoc (by omega)).symm
      have hz1 := (bookE_iff _).2 hGk
      have hz2 := (bookE_iff _).2 (good_take hG (k + 1))
      rw [← htk] at hz2
      have hpt := fun w' hS' => put_at (l.take k) a4 k c4 (entAt l k).1 (entAt l k).2 w' hlen hS' hx hz1 hz2
      obtain ⟨b, off, rfl, hbl, hc⟩ := (hS.on hb7).cells (by omega)
      obtain ⟨c0, c1⟩ := hc k (by omega)
      have hpt' := fun w' hS' => (hpt w' hS').mono fun e w'' ⟨g, he, hgw, hS'', hb''⟩ => (⟨g, he, hgw, by rw [← htk]; exact hS'', hb''⟩ : ∃ g, e = Ending.returned (.tuple #[.agg #[.slice (some ⟨g, 0, none⟩) (k + 1) (k + 1)], .int .i64 0]) ∧ w'.heap.size ≤ g ∧ EntsAt w'' (some ⟨g, 0, none⟩) (k + 1) (l.take (k + 1)) ∧ Below w'.heap.size w' w'')
      have HP := Lib.hid hpt'
      clear hpt hpt' hc hme hx htk hz1 hz2
      generalize entAt l k = x at c0 c1 HP
      obtain ⟨key, v⟩ := x
      simp only at c0 c1
      have hkc : (k : Int) < (n : Int) := by omega
      go_upto_region 14 with fail
      have e0 := heap_cell s7 0 _ rfl
      have bd : Below w7.heap.size w7 w7.drew := Below.drew (Below.refl _ _)
      go_region_with (go_at_call 16; refine (HP.out _ ?_).mono ?_; exact hN7.on bd; rintro e w8 ⟨g8, rfl, hg8, hN8, hb8⟩; have hb8 := below_on bd hb8; have s8 := heap_on hb8 s7; have t0 := heap_cell s8 0 _ rfl; have t1 := frozen_of_row w8 B4 0 _ _ s8)
      all_goals
        have hg9 := set_grown w8 B4 0 (.slice (some ⟨g8, 0, none⟩) (k + 1) (k + 1))
        have hb9 := (below_on hb7 hb8).grown hg9 (below_on hb7 hb8).size (fun j hj => by cases hj; omega)
        have q9 := heap_kept hg9 (heap_on hb8 q7) (fun e => by injection e with e; omega)
        have s9 := set_same s8 (.slice (some ⟨g8, 0, none⟩) (k + 1) (k + 1))
        have hw8 : w7.heap.size ≤ g8 := hg8
        have hN9 := ents_set (g := B4) (u := .slice (some ⟨g8, 0, none⟩) (k + 1) (k + 1)) hN8 (fun b off e => by injection e with e; injection e with e _ _; omega)
        have hown8 := owns_on hown7 hb8
        have hown9 := hown8.kept (row := some B4) hg9 (Or.inr (own_apart hown8 s8 (by decide)))
        have hlast : ∀ g' off', (some ⟨g8, 0, none⟩ : Option Addr) = some ⟨g', off', none⟩ → (Value.slice (some ⟨g, 0, none⟩) (k + 1) w7cap).ownBlock ≠ some g' := by
          intro g' off' e e2
          injection e with e
          injection e with e _ _
          simp only [Value.ownBlock, Option.some.injEq] at e2
          omega
        clear hown7 hown8 hN7 hN8 s8 s7 q7 hg9 hb7 hb8 d0 c0 c1 hq
        go_wp2_with fail
        go_roundg (n + 1 - (k + 1))
        case measure => omega
        case rel => exact ⟨k + 1, _, _, _, _, by omega, Nat.le_refl _, rfl, by go_num, hb9, q9, s9, hN9, hown9, hlast⟩
theorem bookBegins_walk (l : List EntB) (a : Option Addr) (n c : Nat) (w : World) (hE : Tab w) (hn : l.length = n) (hS : EntsAt w a c l) :
    Calls Tryd.prog 6 #[.agg #[.slice a n c]] w fun e w' => e = .returned (.bool true) ∧ Below w.heap.size w w' := by
  by_cases h : bookE l = 0
  · exact bookBegins_good l a n c w hE hn hS ((bookE_iff l).1 h)
  · exact bookBegins_bad l a n c w hE hn hS _ rfl h
end Go.Proofs.YtbpheklfdakikadDoor
