/-
  Chapter 4's Shows as the document's own reckoning has it: both seals from below.
-/
import Derived.Test.YthhckpnnjegldafGreatFmtGrowthOf
import Derived.Test.YthhckpnnjegldafGreatFmtMaths
namespace Go.Proofs.YthhckpnnjegldafGreatFmt
open Go Go.RowKit Go.Kit Go.Extern.Stop Go.Stop Go.Extern

theorem cell_on {w w' : World} {a : Addr} {v : Value} (h : w.cell? a = some v) (hb : Below w.heap.size w w') : w'.cell? a = some v := by
  have hlt : a.block < w.heap.size := by
    refine Classical.byContradiction fun hn => ?_
    unfold World.cell? at h
    rw [Array.getElem?_eq_none (by omega)] at h
    cases h
  rw [hb.cell hlt]
  exact h
theorem growthShows_range (old : ByteArray) (m : Int) (root : ByteArray) (n : Int) (v : Value) (w : World) (h : m < 1 ∨ n < m ∨ 24 < n) :
    Calls Tryz.prog 47 #[.string old, .int .i64 m, .string root, .int .i64 n, v] w fun e w' => e = .returned (.int .i64 3) ∧ w = w' := by
  by_cases h1 : m < 1
  · go_enter Tryz.func47, Tryz.ntmps47
    go_wp2_with fail
    go_ret
    exact ⟨rfl, rfl⟩
  by_cases h2 : n < m
  · go_enter Tryz.func47, Tryz.ntmps47
    go_wp2_with fail
    go_ret
    exact ⟨rfl, rfl⟩
  have h3 : 24 < n := by omega
  clear h
  go_enter Tryz.func47, Tryz.ntmps47
  go_wp2_with fail
  go_ret
  exact ⟨rfl, rfl⟩

set_option maxRecDepth 100000 in
set_option maxHeartbeats 1000000 in
theorem growthShows_in (I : Interp) (old : ByteArray) (m : Nat) (root : ByteArray) (n : Nat) (x : List ByteArray) (a : Option Addr) (k c : Nat) (w : World) (hF : I.told.answers w.tape) (hold : old.size ≤ 140737488355328) (hbig : ∀ s ∈ x, s.size ≤ 140737488355328) (hk : x.length = k) (hS : StrsAt w a c x) (h1 : 1 ≤ m) (hm : m ≤ n) (h24 : n ≤ 24) :
    Calls Tryz.prog 47 #[.string old, .int .i64 (m : Int), .string root, .int .i64 (n : Int), .slice a k c] w fun e w' => e = .returned (.int .i64 (growE old m root n x)) ∧ Below w.heap.size w w' := by
  have hcap := hS.cap
  have hmax := hS.max
  have g1 : ¬ (m : Int) < 1 := by omega
  have g2 : ¬ (n : Int) < (m : Int) := by omega
  have g3 : ¬ (24 : Int) < (n : Int) := by omega
  obtain ⟨hg1, hg2⟩ := growE_parts old root m n x h1 hm h24
  have hpt := fun w' => parts_any m n w' h1 hm h24
  have hok := partB_ok n 0 n m (Nat.le_refl _) (by omega)
  have hLok := partL_ok n 0 n m (Nat.le_refl _) (by omega) (by omega)
  have hlen : (partB 0 n m).length ≤ 23 := by
    have := partB_len n 0 n m (Nat.le_refl _)
    omega
  generalize growE old m root n x = res at hg1 hg2
  generalize partB 0 n m = S at hpt hg1 hg2 hok hlen
  generalize partL 0 n m = L at hpt hg2 hLok
  generalize partK 0 n m true = K at hpt hg1 hg2
  obtain ⟨Lf, Lt⟩ := L
  simp only at hLok hpt hg2
  rw [hk] at hg1 hg2
  by_cases hkl : k = S.length + (if K = true then 0 else 1)
  · have hg := hg2 hkl
    clear hg1 hg2
    cases K
    · simp only [Bool.false_eq_true, if_false] at hkl
      subst hkl
      have hw1 : firstP old false x = textAt x 0 := rfl
      have hw2 : restP false x = x.drop 1 := rfl
      rw [hw1, hw2] at hg
      have hyl : (x.drop 1).length = S.length := by rw [List.length_drop]; omega
      have hyb : ∀ s ∈ x.drop 1, s.size ≤ 140737488355328 := fun s hs => hbig s (List.mem_of_mem_drop hs)
      have hu0 := hbig _ (textAt_mem (l := x) (i := 0) (by omega))
      obtain ⟨b, off, rfl, hlt, hc⟩ := hS.cells (by omega)
      have hc0 := hc 0 (by omega)
      change w.cell? ⟨b, off + 0, none⟩ = some (Value.string (textAt x 0)) at hc0
      rw [Nat.add_zero] at hc0
      have hYw0 := hS.drop 1
      generalize textAt x 0 = u0 at hg hu0 hc0
      generalize x.drop 1 = y at hg hyl hyb hYw0
      clear hc hw1 hw2
      by_cases hc1 : c = 1
      · have HS0 : Hid (S.reverse.length = 0) := Lib.hid (by rw [List.length_reverse]; omega)
        have hYw := hYw0
        go_enter Tryz.func47, Tryz.ntmps47
        go_wp2_with fail
        refine (hpt w).mono ?_
        rintro e w2 ⟨a2, c2, rfl, hown, hb2⟩
        clear hpt
        have hba : Below w2.heap.size w2 (w2.alloc (.cells #[.int .i64 (Lf : Int), .int .i64 (Lt : Int)] 106)) := (Below.refl _ _).alloc (Nat.le_refl _) _
        have hb2a := below_on hb2 hba
        have howna := owns_on hown hba
        have hh : (w2.alloc (.cells #[.int .i64 (Lf : Int), .int .i64 (Lt : Int)] 106)).heap[w2.heap.size]? = some (.cells #[.int .i64 (Lf : Int), .int .i64 (Lt : Int)] 106) := by show (w2.heap.push _)[w2.heap.size]? = _; simp
        have hbx : (w2.alloc (.cells #[.int .i64 (Lf : Int), .int .i64 (Lt : Int)] 106)).cell? ⟨w2.heap.size, 1, none⟩ = some (.int .i64 (Lt : Int)) := by unfold World.cell?; simp only [hh]; rfl
        have hfar : ∀ g, (Value.slice a2 S.length c2).ownBlock = some g → g < w2.heap.size := fun g hg => (hown.lt g hg).2
        have hcw : (w2.alloc (.cells #[.int .i64 (Lf : Int), .int .i64 (Lt : Int)] 106)).cell? ⟨b, off, none⟩ = some (.string u0) := by rw [hb2a.cell hlt]; exact hc0
        go_wp2_with fail
        go_quiet (fail)
        have hq := below_drewN (Below.refl (w2.alloc (.cells #[.int .i64 (Lf : Int), .int .i64 (Lt : Int)] 106)).heap.size (w2.alloc (.cells #[.int .i64 (Lf : Int), .int .i64 (Lt : Int)] 106))) nq
        have hownq := owns_on howna hq
        go_wp2_with fail
        refine (reverse_aside S a2 c2 _ w.heap.size (by omega) hownq).mono ?_
        rintro e w3 ⟨rfl, hSp, hb3, hkeep⟩
        have hb3s := hb3.size
        have hb3 : Below w.heap.size w w3 := (below_drewN hb2a nq).trans hb3
        have hbx3 : w3.cell? ⟨w2.heap.size, 1, none⟩ = some (.int .i64 (Lt : Int)) := by
          rw [World.cell?_of_block (hkeep w2.heap.size (fun e => by have := hfar _ e; omega))]
          exact hbx
        have hbl3 : w2.heap.size < w3.heap.size := Nat.lt_of_lt_of_le (by show _ < (w2.heap.push _).size; simp) hb3s
        have hY3 := hYw.on hb3
        generalize w2.heap.size = bx at hbx3 hbl3
        clear hown howna hb2 hb2a hba hh hbx hfar hkeep hb3s hS hYw
        have hcR := hSp.cap
        have hmR := hSp.max
        have hRl : S.length = S.reverse.length := by simp
        have hokR : ∀ s ∈ S.reverse, 0 ≤ s.1 ∧ s.1 + 1 ≤ s.2 ∧ s.2 ≤ 0 + n := fun s hs => hok s (List.mem_reverse.1 hs)
        rw [hRl] at hlen hyl ⊢
        generalize S.reverse = R at hg hSp hcR hokR hlen hyl HS0
        have hcY := hY3.cap
        have hmY := hY3.max
        obtain ⟨O, hO⟩ : ∃ O, makeR Lt (some (u0, u0)) R y 0 = O := ⟨_, rfl⟩
        rw [hO] at hg
        have HO := Lib.hid hO
        have Hg := Lib.hid hg
        have Hyl := Lib.hid hyl
        clear hok hRl hO hg hyl
        go_wp2_with fail
        go_loopg [61, 15, 16] R.length (fun g si sa sb wr => ∃ (j : Nat) (u v : ByteArray), j ≤ R.length ∧ R.length - j ≤ g ∧ si = .int .i64 (j : Int) ∧ sa = .string u ∧ sb = .string v ∧ u.size ≤ 140737488355328 ∧ v.size ≤ 140737488355328 ∧ Below w3.heap.size w3 wr ∧ makeR Lt (some (u, v)) R y j = O)
        case atStart => exact ⟨0, u0, u0, Nat.zero_le _, by omega, rfl, rfl, rfl, hu0, hu0, Below.refl _ _, HO.out⟩
        case round =>
          obtain ⟨j, u, v, hj, hgm, rfl, rfl, rfl, hu, hv, hb, hmk⟩ := hrel
          rcases Nat.lt_or_ge j R.length with hjm | hjm
          · exact absurd hjm (by have := HS0.out; omega)
          · rw [makeR_end Lt _ R y j hjm] at hmk
            obtain rfl : j = R.length := by omega
            have hr2 := Hg.out
            rw [← hmk] at hr2
            clear hmk HO Hg
            by_cases huo : u = old
            · have s1 := str_eq huo
              by_cases hvr : v = root
              · have s2 := str_eq hvr
                rw [if_pos (by rw [huo, hvr])] at hr2
                have Hr := Lib.hid hr2
                clear hr2 huo hvr
                go_wp2_with fail
                go_ret
                exact ⟨by rw [Hr.out]; rfl, below_on hb3 hb⟩
              · have s2 := str_ne hvr
                rw [if_neg (by simp [hvr])] at hr2
                have Hr := Lib.hid hr2
                clear hr2 huo hvr
                go_wp2_with fail
                go_ret
                exact ⟨by rw [Hr.out]; rfl, below_on hb3 hb⟩
            · have s1 := str_ne huo
              rw [if_neg (by simp [huo])] at hr2
              have Hr := Lib.hid hr2
              clear hr2 huo
              go_wp2_with fail
              go_ret
              exact ⟨by rw [Hr.out]; rfl, below_on hb3 hb⟩
      · have hYw := hYw0
        go_enter Tryz.func47, Tryz.ntmps47
        go_wp2_with fail
        refine (hpt w).mono ?_
        rintro e w2 ⟨a2, c2, rfl, hown, hb2⟩
        clear hpt
        have hba : Below w2.heap.size w2 (w2.alloc (.cells #[.int .i64 (Lf : Int), .int .i64 (Lt : Int)] 106)) := (Below.refl _ _).alloc (Nat.le_refl _) _
        have hb2a := below_on hb2 hba
        have howna := owns_on hown hba
        have hh : (w2.alloc (.cells #[.int .i64 (Lf : Int), .int .i64 (Lt : Int)] 106)).heap[w2.heap.size]? = some (.cells #[.int .i64 (Lf : Int), .int .i64 (Lt : Int)] 106) := by show (w2.heap.push _)[w2.heap.size]? = _; simp
        have hbx : (w2.alloc (.cells #[.int .i64 (Lf : Int), .int .i64 (Lt : Int)] 106)).cell? ⟨w2.heap.size, 1, none⟩ = some (.int .i64 (Lt : Int)) := by unfold World.cell?; simp only [hh]; rfl
        have hfar : ∀ g, (Value.slice a2 S.length c2).ownBlock = some g → g < w2.heap.size := fun g hg => (hown.lt g hg).2
        have hcw : (w2.alloc (.cells #[.int .i64 (Lf : Int), .int .i64 (Lt : Int)] 106)).cell? ⟨b, off, none⟩ = some (.string u0) := by rw [hb2a.cell hlt]; exact hc0
        go_wp2_with fail
        go_quiet (fail)
        have hq := below_drewN (Below.refl (w2.alloc (.cells #[.int .i64 (Lf : Int), .int .i64 (Lt : Int)] 106)).heap.size (w2.alloc (.cells #[.int .i64 (Lf : Int), .int .i64 (Lt : Int)] 106))) nq
        have hownq := owns_on howna hq
        go_wp2_with fail
        refine (reverse_aside S a2 c2 _ w.heap.size (by omega) hownq).mono ?_
        rintro e w3 ⟨rfl, hSp, hb3, hkeep⟩
        have hb3s := hb3.size
        have hb3 : Below w.heap.size w w3 := (below_drewN hb2a nq).trans hb3
        have hbx3 : w3.cell? ⟨w2.heap.size, 1, none⟩ = some (.int .i64 (Lt : Int)) := by
          rw [World.cell?_of_block (hkeep w2.heap.size (fun e => by have := hfar _ e; omega))]
          exact hbx
        have hbl3 : w2.heap.size < w3.heap.size := Nat.lt_of_lt_of_le (by show _ < (w2.heap.push _).size; simp) hb3s
        have hY3 := hYw.on hb3
        generalize w2.heap.size = bx at hbx3 hbl3
        clear hown howna hb2 hb2a hba hh hbx hfar hkeep hb3s hS hYw
        have hcR := hSp.cap
        have hmR := hSp.max
        have hRl : S.length = S.reverse.length := by simp
        have hokR : ∀ s ∈ S.reverse, 0 ≤ s.1 ∧ s.1 + 1 ≤ s.2 ∧ s.2 ≤ 0 + n := fun s hs => hok s (List.mem_reverse.1 hs)
        rw [hRl] at hlen hyl ⊢
        generalize S.reverse = R at hg hSp hcR hokR hlen hyl
        have hcY := hY3.cap
        have hmY := hY3.max
        obtain ⟨O, hO⟩ : ∃ O, makeR Lt (some (u0, u0)) R y 0 = O := ⟨_, rfl⟩
        rw [hO] at hg
        have HO := Lib.hid hO
        have Hg := Lib.hid hg
        have Hyl := Lib.hid hyl
        clear hok hRl hO hg hyl
        go_wp2_with fail
        go_loopg [61, 15, 16] R.length (fun g si sa sb wr => ∃ (j : Nat) (u v : ByteArray), j ≤ R.length ∧ R.length - j ≤ g ∧ si = .int .i64 (j : Int) ∧ sa = .string u ∧ sb = .string v ∧ u.size ≤ 140737488355328 ∧ v.size ≤ 140737488355328 ∧ Below w3.heap.size w3 wr ∧ makeR Lt (some (u, v)) R y j = O)
        case atStart => exact ⟨0, u0, u0, Nat.zero_le _, by omega, rfl, rfl, rfl, hu0, hu0, Below.refl _ _, HO.out⟩
        case round =>
          obtain ⟨j, u, v, hj, hgm, rfl, rfl, rfl, hu, hv, hb, hmk⟩ := hrel
          rcases Nat.lt_or_ge j R.length with hjm | hjm
          · rw [makeR_round Lt _ R y j hjm Hyl.out] at hmk
            have hSpr := hSp.on hb
            have hYr := hY3.on hb
            obtain ⟨g, rfl, hP⟩ := hSpr.cells (by omega)
            obtain ⟨q0, q1⟩ := hP.cells j hjm
            obtain ⟨_, ok1, ok2⟩ := hokR _ (spanAt_mem hjm)
            obtain ⟨yb, yo, hya, hyl2, hyc⟩ := hYr.cells (by rw [Hyl.out]; omega)
            have hyc := hyc j (by rw [Hyl.out]; exact hjm)
            have hys := hyb _ (textAt_mem (l := y) (i := j) (by rw [Hyl.out]; exact hjm))
            change wr.cell? ⟨yb, yo + j, none⟩ = some (Value.string (textAt y j)) at hyc
            change makeR Lt (makeP Lt (some (u, v)) (spanAt R j, textAt y j)) R y (j + 1) = O at hmk
            generalize spanAt R j = sp at q0 q1 ok1 ok2 hmk
            generalize textAt y j = s at hyc hmk hys
            obtain ⟨f, t⟩ := sp
            simp only at q0 q1 ok1 ok2
            have hbl : wr.cell? ⟨bx, 1, none⟩ = some (.int .i64 (Lt : Int)) := by rw [hb.cell hbl3]; exact hbx3
            have hjc : (j : Int) < (R.length : Int) := by omega
            have hb3a : Below w3.heap.size w3 (wr.alloc (.cells #[.int .i64 (f : Int), .int .i64 (t : Int)] 106)) := hb.alloc hb.size _
            have hhp : (wr.alloc (.cells #[.int .i64 (f : Int), .int .i64 (t : Int)] 106)).heap[wr.heap.size]? = some (.cells #[.int .i64 (f : Int), .int .i64 (t : Int)] 106) := by show (wr.heap.push _)[wr.heap.size]? = _; simp
            have r0 : (wr.alloc (.cells #[.int .i64 (f : Int), .int .i64 (t : Int)] 106)).cell? ⟨wr.heap.size, 0, none⟩ = some (.int .i64 (f : Int)) := by unfold World.cell?; simp only [hhp]; rfl
            have hba : Below wr.heap.size wr (wr.alloc (.cells #[.int .i64 (f : Int), .int .i64 (t : Int)] 106)) := (Below.refl _ _).alloc (Nat.le_refl _) _
            have r1 : (wr.alloc (.cells #[.int .i64 (f : Int), .int .i64 (t : Int)] 106)).cell? ⟨bx, 1, none⟩ = some (.int .i64 (Lt : Int)) := by rw [hba.cell (Nat.lt_of_lt_of_le hbl3 hb.size)]; exact hbl
            have r2 : (wr.alloc (.cells #[.int .i64 (f : Int), .int .i64 (t : Int)] 106)).cell? ⟨yb, yo + j, none⟩ = some (.string s) := by rw [hba.cell hyl2]; exact hyc
            have Hmk := Lib.hid hmk
            clear hmk hhp hP hSpr hYr hyc hbl
            obtain ⟨rfl, rfl⟩ : b = yb ∧ off + 1 = yo := by injection hya with e; injection e with e1 e2; exact ⟨e1, e2⟩
            have hmk := Hmk.out
            clear Hmk hb hba hyl2
            rcases Nat.lt_or_ge f Lt with hleft | hright
            · have hcmp : ¬ (Lt : Int) ≤ (f : Int) := by omega
              rw [makeP_left (by show ¬ Lt ≤ f; omega), Option.bind_some] at hmk
              have Hmk := Lib.hid hmk
              clear hmk
              go_wp2_with fail
              clear q0 q1
              generalize (wr.alloc (.cells #[.int .i64 (f : Int), .int .i64 (t : Int)] 106)) = W4 at hb3a r0 r1 r2
              generalize wr.heap.size = BB at r0
              have hmk := Hmk.out
              have hb4 := hb3a
              have t2 := r2
              have hF4 : I.told.answers W4.tape := by rw [(below_on hb3 hb4).tape]; exact hF
              clear hb3a r0 r1 r2 Hmk
              have hnode := nodeOf_any I s u W4 hF4 (by omega) (by omega)
              rcases nodeV_of (x := s) (y := u) with ⟨e1, e2, e3⟩ | ⟨z, e1, e2, e3⟩
              · rw [e2, e3] at hnode
                rw [e1, Option.bind_none, makeR_none] at hmk
                have hr2 : res = 7 := by rw [Hg.out, ← hmk, if_neg (by simp)]
                have Hr := Lib.hid hr2
                clear hr2 hmk e1 e2 e3 HO Hg
                refine hnode.mono ?_
                rintro e w6 ⟨rfl, hb6⟩
                have hb6 := below_on hb4 hb6
                clear hnode t2
                go_wp2_with fail
                go_ret
                exact ⟨by rw [Hr.out]; rfl, below_on hb3 hb6⟩
              · rw [e2, e3] at hnode
                rw [e1, Option.bind_some] at hmk
                have hz := nodeO_size e1
                have Hmk := Lib.hid hmk
                clear hmk e1 e2 e3
                refine hnode.mono ?_
                rintro e w6 ⟨rfl, hb6⟩
                have t6 := cell_on t2 hb6
                have hb6 := below_on hb4 hb6
                have hF6 : I.told.answers w6.tape := by rw [(below_on hb3 hb6).tape]; exact hF
                clear hnode t2 hb4 hF4
                have hnode := nodeOf_any I s v w6 hF6 (by omega) (by omega)
                rcases nodeV_of (x := s) (y := v) with ⟨e1, e2, e3⟩ | ⟨z2, e1, e2, e3⟩
                · rw [e2, e3] at hnode
                  have hmk := Hmk.out
                  rw [e1, Option.bind_none, makeR_none] at hmk
                  have hr2 : res = 7 := by rw [Hg.out, ← hmk, if_neg (by simp)]
                  have Hr := Lib.hid hr2
                  clear hr2 hmk e1 e2 e3 HO Hg Hmk
                  go_wp2_with fail
                  refine hnode.mono ?_
                  rintro e w7 ⟨rfl, hb7⟩
                  have hb7 := below_on hb6 hb7
                  clear hnode t6
                  go_wp2_with fail
                  go_ret
                  exact ⟨by rw [Hr.out]; rfl, below_on hb3 hb7⟩
                · rw [e2, e3] at hnode
                  have hmk := Hmk.out
                  rw [e1, Option.bind_some] at hmk
                  have hz2 := nodeO_size e1
                  have Hmk2 := Lib.hid hmk
                  clear hmk e1 e2 e3 Hmk
                  go_wp2_with fail
                  refine hnode.mono ?_
                  rintro e w7 ⟨rfl, hb7⟩
                  have hb7 := below_on hb6 hb7
                  clear hnode t6
                  go_wp2_with fail
                  go_roundg (R.length - (j + 1))
                  case measure => omega
                  case rel => exact ⟨j + 1, z, z2, by omega, Nat.le_refl _, by go_num, rfl, rfl, by omega, by omega, hb7, Hmk2.out⟩
            · have hcmp : (Lt : Int) ≤ (f : Int) := by omega
              rw [makeP_right (by show Lt ≤ f; omega), Option.bind_some] at hmk
              have Hmk := Lib.hid hmk
              clear hmk
              go_wp2_with fail
              clear q0 q1
              generalize (wr.alloc (.cells #[.int .i64 (f : Int), .int .i64 (t : Int)] 106)) = W4 at hb3a r0 r1 r2
              generalize wr.heap.size = BB at r0
              have hmk := Hmk.out
              have hb4 := hb3a
              have t2 := r2
              have hF4 : I.told.answers W4.tape := by rw [(below_on hb3 hb4).tape]; exact hF
              clear hb3a r0 r1 r2 Hmk
              have hnode := nodeOf_any I v s W4 hF4 (by omega) (by omega)
              rcases nodeV_of (x := v) (y := s) with ⟨e1, e2, e3⟩ | ⟨z, e1, e2, e3⟩
              · rw [e2, e3] at hnode
                rw [e1, Option.bind_none, makeR_none] at hmk
                have hr2 : res = 7 := by rw [Hg.out, ← hmk, if_neg (by simp)]
                have Hr := Lib.hid hr2
                clear hr2 hmk e1 e2 e3 HO Hg
                refine hnode.mono ?_
                rintro e w6 ⟨rfl, hb6⟩
                have hb6 := below_on hb4 hb6
                clear hnode t2
                go_wp2_with fail
                go_ret
                exact ⟨by rw [Hr.out]; rfl, below_on hb3 hb6⟩
              · rw [e2, e3] at hnode
                rw [e1, Option.bind_some] at hmk
                have hz := nodeO_size e1
                have Hmk := Lib.hid hmk
                clear hmk e1 e2 e3
                refine hnode.mono ?_
                rintro e w6 ⟨rfl, hb6⟩
                have hb6 := below_on hb4 hb6
                clear hnode t2
                go_wp2_with fail
                go_roundg (R.length - (j + 1))
                case measure => omega
                case rel => exact ⟨j + 1, u, z, by omega, Nat.le_refl _, by go_num, rfl, rfl, hu, by omega, hb6, Hmk.out⟩
          · rw [makeR_end Lt _ R y j hjm] at hmk
            obtain rfl : j = R.length := by omega
            have hr2 := Hg.out
            rw [← hmk] at hr2
            clear hmk HO Hg
            by_cases huo : u = old
            · have s1 := str_eq huo
              by_cases hvr : v = root
              · have s2 := str_eq hvr
                rw [if_pos (by rw [huo, hvr])] at hr2
                have Hr := Lib.hid hr2
                clear hr2 huo hvr
                go_wp2_with fail
                go_ret
                exact ⟨by rw [Hr.out]; rfl, below_on hb3 hb⟩
              · have s2 := str_ne hvr
                rw [if_neg (by simp [hvr])] at hr2
                have Hr := Lib.hid hr2
                clear hr2 huo hvr
                go_wp2_with fail
                go_ret
                exact ⟨by rw [Hr.out]; rfl, below_on hb3 hb⟩
            · have s1 := str_ne huo
              rw [if_neg (by simp [huo])] at hr2
              have Hr := Lib.hid hr2
              clear hr2 huo
              go_wp2_with fail
              go_ret
              exact ⟨by rw [Hr.out]; rfl, below_on hb3 hb⟩
    · simp only [if_true, Nat.add_zero] at hkl
      subst hkl
      have hw1 : firstP old true x = old := rfl
      have hw2 : restP true x = x := rfl
      rw [hw1, hw2] at hg
      have hyl := hk
      have hyb := hbig
      have hYw := hS
      clear hw1 hw2
      go_enter Tryz.func47, Tryz.ntmps47
      go_wp2_with fail
      refine (hpt w).mono ?_
      rintro e w2 ⟨a2, c2, rfl, hown, hb2⟩
      clear hpt
      have hba : Below w2.heap.size w2 (w2.alloc (.cells #[.int .i64 (Lf : Int), .int .i64 (Lt : Int)] 106)) := (Below.refl _ _).alloc (Nat.le_refl _) _
      have hb2a := below_on hb2 hba
      have howna := owns_on hown hba
      have hh : (w2.alloc (.cells #[.int .i64 (Lf : Int), .int .i64 (Lt : Int)] 106)).heap[w2.heap.size]? = some (.cells #[.int .i64 (Lf : Int), .int .i64 (Lt : Int)] 106) := by show (w2.heap.push _)[w2.heap.size]? = _; simp
      have hbx : (w2.alloc (.cells #[.int .i64 (Lf : Int), .int .i64 (Lt : Int)] 106)).cell? ⟨w2.heap.size, 1, none⟩ = some (.int .i64 (Lt : Int)) := by unfold World.cell?; simp only [hh]; rfl
      have hfar : ∀ g, (Value.slice a2 S.length c2).ownBlock = some g → g < w2.heap.size := fun g hg => (hown.lt g hg).2
      go_wp2_with fail
      refine (reverse_aside S a2 c2 _ w.heap.size (by omega) howna).mono ?_
      rintro e w3 ⟨rfl, hSp, hb3, hkeep⟩
      have hb3s := hb3.size
      have hb3 : Below w.heap.size w w3 := hb2a.trans hb3
      have hbx3 : w3.cell? ⟨w2.heap.size, 1, none⟩ = some (.int .i64 (Lt : Int)) := by
        rw [World.cell?_of_block (hkeep w2.heap.size (fun e => by have := hfar _ e; omega))]
        exact hbx
      have hbl3 : w2.heap.size < w3.heap.size := Nat.lt_of_lt_of_le (by show _ < (w2.heap.push _).size; simp) hb3s
      have hY3 := hYw.on hb3
      generalize w2.heap.size = bx at hbx3 hbl3
      clear hown howna hb2 hb2a hba hh hbx hfar hkeep hb3s hS hYw
      have hcR := hSp.cap
      have hmR := hSp.max
      have hRl : S.length = S.reverse.length := by simp
      have hokR : ∀ s ∈ S.reverse, 0 ≤ s.1 ∧ s.1 + 1 ≤ s.2 ∧ s.2 ≤ 0 + n := fun s hs => hok s (List.mem_reverse.1 hs)
      rw [hRl] at hlen hyl ⊢
      generalize S.reverse = R at hg hSp hcR hokR hlen hyl
      have hcY := hY3.cap
      have hmY := hY3.max
      obtain ⟨O, hO⟩ : ∃ O, makeR Lt (some (old, old)) R x 0 = O := ⟨_, rfl⟩
      rw [hO] at hg
      have HO := Lib.hid hO
      have Hg := Lib.hid hg
      have Hyl := Lib.hid hyl
      clear hok hRl hO hg hyl
      go_wp2_with fail
      go_loopg [61, 15, 16] R.length (fun g si sa sb wr => ∃ (j : Nat) (u v : ByteArray), j ≤ R.length ∧ R.length - j ≤ g ∧ si = .int .i64 (j : Int) ∧ sa = .string u ∧ sb = .string v ∧ u.size ≤ 140737488355328 ∧ v.size ≤ 140737488355328 ∧ Below w3.heap.size w3 wr ∧ makeR Lt (some (u, v)) R x j = O)
      case atStart => exact ⟨0, old, old, Nat.zero_le _, by omega, rfl, rfl, rfl, hold, hold, Below.refl _ _, HO.out⟩
      case round =>
        obtain ⟨j, u, v, hj, hgm, rfl, rfl, rfl, hu, hv, hb, hmk⟩ := hrel
        rcases Nat.lt_or_ge j R.length with hjm | hjm
        · rw [makeR_round Lt _ R x j hjm Hyl.out] at hmk
          have hSpr := hSp.on hb
          have hYr := hY3.on hb
          obtain ⟨g, rfl, hP⟩ := hSpr.cells (by omega)
          obtain ⟨q0, q1⟩ := hP.cells j hjm
          obtain ⟨_, ok1, ok2⟩ := hokR _ (spanAt_mem hjm)
          obtain ⟨yb, yo, hya, hyl2, hyc⟩ := hYr.cells (by rw [Hyl.out]; omega)
          have hyc := hyc j (by rw [Hyl.out]; exact hjm)
          have hys := hyb _ (textAt_mem (l := x) (i := j) (by rw [Hyl.out]; exact hjm))
          change wr.cell? ⟨yb, yo + j, none⟩ = some (Value.string (textAt x j)) at hyc
          change makeR Lt (makeP Lt (some (u, v)) (spanAt R j, textAt x j)) R x (j + 1) = O at hmk
          generalize spanAt R j = sp at q0 q1 ok1 ok2 hmk
          generalize textAt x j = s at hyc hmk hys
          obtain ⟨f, t⟩ := sp
          simp only at q0 q1 ok1 ok2
          have hbl : wr.cell? ⟨bx, 1, none⟩ = some (.int .i64 (Lt : Int)) := by rw [hb.cell hbl3]; exact hbx3
          have hjc : (j : Int) < (R.length : Int) := by omega
          have hb3a : Below w3.heap.size w3 (wr.alloc (.cells #[.int .i64 (f : Int), .int .i64 (t : Int)] 106)) := hb.alloc hb.size _
          have hhp : (wr.alloc (.cells #[.int .i64 (f : Int), .int .i64 (t : Int)] 106)).heap[wr.heap.size]? = some (.cells #[.int .i64 (f : Int), .int .i64 (t : Int)] 106) := by show (wr.heap.push _)[wr.heap.size]? = _; simp
          have r0 : (wr.alloc (.cells #[.int .i64 (f : Int), .int .i64 (t : Int)] 106)).cell? ⟨wr.heap.size, 0, none⟩ = some (.int .i64 (f : Int)) := by unfold World.cell?; simp only [hhp]; rfl
          have hba : Below wr.heap.size wr (wr.alloc (.cells #[.int .i64 (f : Int), .int .i64 (t : Int)] 106)) := (Below.refl _ _).alloc (Nat.le_refl _) _
          have r1 : (wr.alloc (.cells #[.int .i64 (f : Int), .int .i64 (t : Int)] 106)).cell? ⟨bx, 1, none⟩ = some (.int .i64 (Lt : Int)) := by rw [hba.cell (Nat.lt_of_lt_of_le hbl3 hb.size)]; exact hbl
          have r2 : (wr.alloc (.cells #[.int .i64 (f : Int), .int .i64 (t : Int)] 106)).cell? ⟨yb, yo + j, none⟩ = some (.string s) := by rw [hba.cell hyl2]; exact hyc
          have Hmk := Lib.hid hmk
          clear hmk hhp hP hSpr hYr hyc hbl
          subst hya
          have hmk := Hmk.out
          clear Hmk hb hba hyl2
          rcases Nat.lt_or_ge f Lt with hleft | hright
          · have hcmp : ¬ (Lt : Int) ≤ (f : Int) := by omega
            rw [makeP_left (by show ¬ Lt ≤ f; omega), Option.bind_some] at hmk
            have Hmk := Lib.hid hmk
            clear hmk
            go_wp2_with fail
            clear q0 q1
            generalize (wr.alloc (.cells #[.int .i64 (f : Int), .int .i64 (t : Int)] 106)) = W4 at hb3a r0 r1 r2
            generalize wr.heap.size = BB at r0
            have hmk := Hmk.out
            have hb4 := hb3a
            have t2 := r2
            have hF4 : I.told.answers W4.tape := by rw [(below_on hb3 hb4).tape]; exact hF
            clear hb3a r0 r1 r2 Hmk
            have hnode := nodeOf_any I s u W4 hF4 (by omega) (by omega)
            rcases nodeV_of (x := s) (y := u) with ⟨e1, e2, e3⟩ | ⟨z, e1, e2, e3⟩
            · rw [e2, e3] at hnode
              rw [e1, Option.bind_none, makeR_none] at hmk
              have hr2 : res = 7 := by rw [Hg.out, ← hmk, if_neg (by simp)]
              have Hr := Lib.hid hr2
              clear hr2 hmk e1 e2 e3 HO Hg
              refine hnode.mono ?_
              rintro e w6 ⟨rfl, hb6⟩
              have hb6 := below_on hb4 hb6
              clear hnode t2
              go_wp2_with fail
              go_ret
              exact ⟨by rw [Hr.out]; rfl, below_on hb3 hb6⟩
            · rw [e2, e3] at hnode
              rw [e1, Option.bind_some] at hmk
              have hz := nodeO_size e1
              have Hmk := Lib.hid hmk
              clear hmk e1 e2 e3
              refine hnode.mono ?_
              rintro e w6 ⟨rfl, hb6⟩
              have t6 := cell_on t2 hb6
              have hb6 := below_on hb4 hb6
              have hF6 : I.told.answers w6.tape := by rw [(below_on hb3 hb6).tape]; exact hF
              clear hnode t2 hb4 hF4
              have hnode := nodeOf_any I s v w6 hF6 (by omega) (by omega)
              rcases nodeV_of (x := s) (y := v) with ⟨e1, e2, e3⟩ | ⟨z2, e1, e2, e3⟩
              · rw [e2, e3] at hnode
                have hmk := Hmk.out
                rw [e1, Option.bind_none, makeR_none] at hmk
                have hr2 : res = 7 := by rw [Hg.out, ← hmk, if_neg (by simp)]
                have Hr := Lib.hid hr2
                clear hr2 hmk e1 e2 e3 HO Hg Hmk
                go_wp2_with fail
                refine hnode.mono ?_
                rintro e w7 ⟨rfl, hb7⟩
                have hb7 := below_on hb6 hb7
                clear hnode t6
                go_wp2_with fail
                go_ret
                exact ⟨by rw [Hr.out]; rfl, below_on hb3 hb7⟩
              · rw [e2, e3] at hnode
                have hmk := Hmk.out
                rw [e1, Option.bind_some] at hmk
                have hz2 := nodeO_size e1
                have Hmk2 := Lib.hid hmk
                clear hmk e1 e2 e3 Hmk
                go_wp2_with fail
                refine hnode.mono ?_
                rintro e w7 ⟨rfl, hb7⟩
                have hb7 := below_on hb6 hb7
                clear hnode t6
                go_wp2_with fail
                go_roundg (R.length - (j + 1))
                case measure => omega
                case rel => exact ⟨j + 1, z, z2, by omega, Nat.le_refl _, by go_num, rfl, rfl, by omega, by omega, hb7, Hmk2.out⟩
          · have hcmp : (Lt : Int) ≤ (f : Int) := by omega
            rw [makeP_right (by show Lt ≤ f; omega), Option.bind_some] at hmk
            have Hmk := Lib.hid hmk
            clear hmk
            go_wp2_with fail
            clear q0 q1
            generalize (wr.alloc (.cells #[.int .i64 (f : Int), .int .i64 (t : Int)] 106)) = W4 at hb3a r0 r1 r2
            generalize wr.heap.size = BB at r0
            have hmk := Hmk.out
            have hb4 := hb3a
            have t2 := r2
            have hF4 : I.told.answers W4.tape := by rw [(below_on hb3 hb4).tape]; exact hF
            clear hb3a r0 r1 r2 Hmk
            have hnode := nodeOf_any I v s W4 hF4 (by omega) (by omega)
            rcases nodeV_of (x := v) (y := s) with ⟨e1, e2, e3⟩ | ⟨z, e1, e2, e3⟩
            · rw [e2, e3] at hnode
              rw [e1, Option.bind_none, makeR_none] at hmk
              have hr2 : res = 7 := by rw [Hg.out, ← hmk, if_neg (by simp)]
              have Hr := Lib.hid hr2
              clear hr2 hmk e1 e2 e3 HO Hg
              refine hnode.mono ?_
              rintro e w6 ⟨rfl, hb6⟩
              have hb6 := below_on hb4 hb6
              clear hnode t2
              go_wp2_with fail
              go_ret
              exact ⟨by rw [Hr.out]; rfl, below_on hb3 hb6⟩
            · rw [e2, e3] at hnode
              rw [e1, Option.bind_some] at hmk
              have hz := nodeO_size e1
              have Hmk := Lib.hid hmk
              clear hmk e1 e2 e3
              refine hnode.mono ?_
              rintro e w6 ⟨rfl, hb6⟩
              have hb6 := below_on hb4 hb6
              clear hnode t2
              go_wp2_with fail
              go_roundg (R.length - (j + 1))
              case measure => omega
              case rel => exact ⟨j + 1, u, z, by omega, Nat.le_refl _, by go_num, rfl, rfl, hu, by omega, hb6, Hmk.out⟩
        · rw [makeR_end Lt _ R x j hjm] at hmk
          obtain rfl : j = R.length := by omega
          have hr2 := Hg.out
          rw [← hmk] at hr2
          clear hmk HO Hg
          by_cases huo : u = old
          · have s1 := str_eq huo
            by_cases hvr : v = root
            · have s2 := str_eq hvr
              rw [if_pos (by rw [huo, hvr])] at hr2
              have Hr := Lib.hid hr2
              clear hr2 huo hvr
              go_wp2_with fail
              go_ret
              exact ⟨by rw [Hr.out]; rfl, below_on hb3 hb⟩
            · have s2 := str_ne hvr
              rw [if_neg (by simp [hvr])] at hr2
              have Hr := Lib.hid hr2
              clear hr2 huo hvr
              go_wp2_with fail
              go_ret
              exact ⟨by rw [Hr.out]; rfl, below_on hb3 hb⟩
          · have s1 := str_ne huo
            rw [if_neg (by simp [huo])] at hr2
            have Hr := Lib.hid hr2
            clear hr2 huo
            go_wp2_with fail
            go_ret
            exact ⟨by rw [Hr.out]; rfl, below_on hb3 hb⟩
  · have hr := hg1 hkl
    have Hr := Lib.hid hr
    clear hr hg1 hg2
    cases K
    · have hne : ¬ (k : Int) = (S.length : Int) + 1 := by
        simp only [Bool.false_eq_true, if_false] at hkl
        omega
      clear hkl
      go_enter Tryz.func47, Tryz.ntmps47
      go_wp2_with fail
      refine (hpt w).mono ?_
      rintro e w2 ⟨a2, c2, rfl, hown, hb2⟩
      clear hpt
      have hb2a : Below w.heap.size w (w2.alloc (.cells #[.int .i64 (Lf : Int), .int .i64 (Lt : Int)] 106)) := hb2.alloc hb2.size _
      clear hown hb2
      go_wp2_with fail
      go_ret
      exact ⟨by rw [Hr.out]; rfl, hb2a⟩
    · have hne : ¬ (k : Int) = (S.length : Int) := by
        simp only [if_true, Nat.add_zero] at hkl
        omega
      clear hkl
      go_enter Tryz.func47, Tryz.ntmps47
      go_wp2_with fail
      refine (hpt w).mono ?_
      rintro e w2 ⟨a2, c2, rfl, hown, hb2⟩
      clear hpt
      have hb2a : Below w.heap.size w (w2.alloc (.cells #[.int .i64 (Lf : Int), .int .i64 (Lt : Int)] 106)) := hb2.alloc hb2.size _
      clear hown hb2
      go_wp2_with fail
      go_ret
      exact ⟨by rw [Hr.out]; rfl, hb2a⟩

theorem growthShows_any (I : Interp) (old : ByteArray) (m : Int) (root : ByteArray) (n : Int) (x : List ByteArray) (a : Option Addr) (k c : Nat) (w : World) (hF : I.told.answers w.tape) (hold : old.size ≤ 140737488355328) (hbig : ∀ s ∈ x, s.size ≤ 140737488355328) (hk : x.length = k) (hS : StrsAt w a c x) :
    Calls Tryz.prog 47 #[.string old, .int .i64 m, .string root, .int .i64 n, .slice a k c] w fun e w' => e = .returned (.int .i64 (growE old m root n x)) ∧ Below w.heap.size w w' := by
  by_cases h : m < 1 ∨ n < m ∨ 24 < n
  · have e1 : growE old m root n x = 3 := by unfold growE; rw [if_pos h]
    rw [e1]
    refine (growthShows_range old m root n _ w h).mono ?_
    rintro e w1 ⟨rfl, rfl⟩
    exact ⟨rfl, Below.refl _ _⟩
  obtain ⟨n', rfl⟩ := Int.eq_ofNat_of_zero_le (a := n) (by omega)
  obtain ⟨m', rfl⟩ := Int.eq_ofNat_of_zero_le (a := m) (by omega)
  exact growthShows_in I old m' root n' x a k c w hF hold hbig hk hS (by omega) (by omega) (by omega)
end Go.Proofs.YthhckpnnjegldafGreatFmt
