/-
  Chapter 4's Of as the document's own reckoning has it: by the parts beside, turned about.
-/
import Derived.Test.YthhckpnnjegldafGreatFmtParts
import Derived.Test.YthhckpnnjegldafGreatFmtShown
namespace Go.Proofs.YthhckpnnjegldafGreatFmt
open Go Go.RowKit Go.Kit Go.Extern.Stop Go.Stop Go.Extern

theorem growthOf_no (I : Interp) (l : List ByteArray) (a : Option Addr) (n c : Nat) (m : Int) (w : World) (hF : I.told.answers w.tape) (hn : l.length = n) (hS : StrsAt w a c l) (hr : rootS l = none) :
    Calls Tryz.prog 48 #[.slice a n c, .int .i64 m] w fun e w' => e = .returned (.tuple #[.slice none 0 0, .int .i64 2]) ∧ Below w.heap.size w w' := by
  have hro := rootOf_any I l a n c w hF hn hS
  rw [(root_neg hr).1, (root_neg hr).2] at hro
  go_enter Tryz.func48, Tryz.ntmps48
  go_wp2_with fail
  refine hro.mono ?_
  rintro e w1 ⟨rfl, hb1⟩
  clear hro
  go_wp2_with fail
  go_ret2
  exact ⟨rfl, hb1⟩
theorem growthOf_range (I : Interp) (l : List ByteArray) (a : Option Addr) (n c : Nat) (m : Int) (r : ByteArray) (w : World) (hF : I.told.answers w.tape) (hn : l.length = n) (hS : StrsAt w a c l) (hr : rootS l = some r) (hm : m < 1 ∨ (n : Int) < m) :
    Calls Tryz.prog 48 #[.slice a n c, .int .i64 m] w fun e w' => e = .returned (.tuple #[.slice none 0 0, .int .i64 3]) ∧ Below w.heap.size w w' := by
  have hcap := hS.cap
  have hmax := hS.max
  have hro := rootOf_any I l a n c w hF hn hS
  rw [(root_pos hr).1, (root_pos hr).2] at hro
  have hin := fun w => in_no m 1 (n : Int) w hm
  clear hm
  go_enter Tryz.func48, Tryz.ntmps48
  go_wp2_with fail
  refine hro.mono ?_
  rintro e w1 ⟨rfl, hb1⟩
  clear hro
  go_wp2_with fail
  refine (hin w1).mono ?_
  rintro e w2 ⟨rfl, rfl⟩
  go_wp2_with fail
  go_ret2
  exact ⟨rfl, hb1⟩

set_option maxRecDepth 100000 in
set_option maxHeartbeats 800000 in
theorem growthOf_ok (I : Interp) (l : List ByteArray) (a : Option Addr) (n c m : Nat) (r : ByteArray) (w : World) (hF : I.told.answers w.tape) (hn : l.length = n) (hS : StrsAt w a c l) (hr : rootS l = some r) (h1 : 1 ≤ m) (hm : m ≤ n) :
    Calls Tryz.prog 48 #[.slice a n c, .int .i64 (m : Int)] w fun e w' => ∃ a' c', e = .returned (.tuple #[.slice a' (growS l m true).length c', .int .i64 0]) ∧ StrsAt w' a' c' (growS l m true) ∧ Below w.heap.size w w' := by
  have hcap := hS.cap
  have hmax := hS.max
  have h24 : n ≤ 24 := by rw [← hn]; exact rootS_len hr
  have hsz := growS_size n l m true (by omega)
  have hro := rootOf_any I l a n c w hF hn hS
  rw [(root_pos hr).1, (root_pos hr).2] at hro
  have hin := fun w => in_yes (m : Int) 1 (n : Int) w (by omega) (by omega)
  have hpt := fun w' => parts_any m n w' h1 hm h24
  have hall := parts_all l m h1 (by omega)
  rw [hn] at hall
  have hok := partB_ok n 0 n m (Nat.le_refl _) (by omega)
  have hLok := partL_ok n 0 n m (Nat.le_refl _) (by omega) (by omega)
  have hlen : (partB 0 n m).length ≤ 23 := by
    have := partB_len n 0 n m (Nat.le_refl _)
    omega
  generalize growS l m true = G at hall hsz
  generalize partB 0 n m = S at hpt hall hok hlen
  generalize partL 0 n m = L at hpt hall hLok
  generalize partK 0 n m true = K at hpt hall
  obtain ⟨Lf, Lt⟩ := L
  simp only at hLok hpt
  obtain ⟨i0, hi0, hz0, hz1, hz2⟩ := info_parts infoStr
  obtain ⟨b, off, rfl, hlt, hc⟩ := hS.cells (by omega)
  clear hc
  go_enter Tryz.func48, Tryz.ntmps48
  go_wp2_with fail
  refine hro.mono ?_
  rintro e w1 ⟨rfl, hb1⟩
  clear hro
  go_wp2_with fail
  refine (hin w1).mono ?_
  rintro e w2 ⟨rfl, rfl⟩
  go_wp2_with fail
  refine (hpt w1).mono ?_
  rintro e w2 ⟨a2, c2, rfl, hown, hb2⟩
  clear hpt hin
  have hb2 := below_on hb1 hb2
  cases K
  · simp only [Bool.false_eq_true, if_false] at hall
    have hba : Below w2.heap.size w2 (w2.alloc (.cells #[.int .i64 (Lf : Int), .int .i64 (Lt : Int)] 106)) := (Below.refl _ _).alloc (Nat.le_refl _) _
    have hb2a := below_on hb2 hba
    have howna := owns_on hown hba
    have hh : (w2.alloc (.cells #[.int .i64 (Lf : Int), .int .i64 (Lt : Int)] 106)).heap[w2.heap.size]? = some (.cells #[.int .i64 (Lf : Int), .int .i64 (Lt : Int)] 106) := by show (w2.heap.push _)[w2.heap.size]? = _; simp
    have r0 : (w2.alloc (.cells #[.int .i64 (Lf : Int), .int .i64 (Lt : Int)] 106)).cell? ⟨w2.heap.size, 0, none⟩ = some (.int .i64 (Lf : Int)) := by unfold World.cell?; simp only [hh]; rfl
    have r1 : (w2.alloc (.cells #[.int .i64 (Lf : Int), .int .i64 (Lt : Int)] 106)).cell? ⟨w2.heap.size, 1, none⟩ = some (.int .i64 (Lt : Int)) := by unfold World.cell?; simp only [hh]; rfl
    have hSb : StrsAt w (some ⟨b, off + Lf, none⟩) (c - Lf) (seg l Lf (Lt - Lf)) := (hS.drop Lf).take (Lt - Lf)
    have hlb : (seg l Lf (Lt - Lf)).length = Lt - Lf := seg_len l Lf (Lt - Lf) (by omega)
    have hF4 : I.told.answers (w2.alloc (.cells #[.int .i64 (Lf : Int), .int .i64 (Lt : Int)] 106)).tape := by rw [hb2a.tape]; exact hF
    have hrt := rootOf_any I (seg l Lf (Lt - Lf)) _ (Lt - Lf) _ _ hF4 hlb (hSb.on hb2a)
    have hse : sealP l (Lf, Lt) = rootV (seg l Lf (Lt - Lf)) := rfl
    rw [hse] at hall
    generalize rootV (seg l Lf (Lt - Lf)) = rv at hall hrt
    generalize rootE (seg l Lf (Lt - Lf)) = re at hrt
    have hL1 : Lf ≤ Lt := by omega
    have hL2 : Lt ≤ n := by omega
    have hneL : ¬ c = Lf := by omega
    have Hall := Lib.hid hall
    clear hh hSb hlb hse hall
    go_wp2_with fail
    refine hrt.mono ?_
    rintro e w25 ⟨rfl, hb25⟩
    have hown25 := owns_on howna hb25
    have hb25w := below_on hb2a hb25
    clear hrt hF4 r0 r1
    go_wp2_with (at_builtin; refine wpList_append_lies _ rfl _ _ 69 rfl w25.heap.size 9 i0 (.string ⟨#[]⟩) 1 16 Tryz.underlying69 hi0 hz0 hz1 hz2 rfl (by decide) _ _ _ rfl (World.ownsRow_nil _ _ _ _) ⟨w25.heap.size, 0, none⟩ 1 1 [.string rv] rfl rfl ?c1 ?c2 (by omega) ?c3 ?c4 ?c5 _ rfl ?_)
    case c1 => exact World.news_of_block (cs := #[.string rv]) (t := 9) (fr := (0, 0)) (by show (w25.heap.push _)[w25.heap.size]? = _; simp)
    case c2 => intro u hu; rw [List.mem_singleton.1 hu]; rfl
    case c3 => unfold maxLen; omega
    case c4 => omega
    case c5 => show _ ≤ (w25.heap.push _).size; rw [Array.size_push]; omega
    intro gO capO w26 hownO hgrowO _ _
    have hb26 : Below w25.heap.size w25 w26 := ((Below.refl _ _).alloc (Nat.le_refl _) _).grown hgrowO (by show _ ≤ (w25.heap.push _).size; rw [Array.size_push]; omega) (fun k hk => by cases hk)
    have hown26 := owns_on hown25 hb26
    have hb26w := below_on hb25w hb26
    have hfar : ∀ k, (Value.slice a2 S.length c2).ownBlock = some k → k < w25.heap.size := fun k hk => (hown25.lt k hk).2
    go_wp2_with fail
    refine (reverse_aside S a2 c2 _ w1.heap.size (by omega) hown26).mono ?_
    rintro e w3 ⟨rfl, hSp, hb3, hkeep⟩
    have hb3s := hb3
    have hb3 : Below w.heap.size w w3 := hb26w.trans (hb3.mono hb1.size)
    have hown0 : w3.ownsRow w25.heap.size 9 1 (.slice (some ⟨gO, 0, none⟩) 1 capO) 1 [.string rv] := by
      have hgO := (hownO.lt gO rfl).1
      refine ⟨hownO.1, ?_⟩
      rcases hownO.2 with ⟨he, _⟩ | ⟨g', cap, cur, he, hb', hg, hr⟩
      · cases he
      · have hg' : g' = gO := by
          injection he with e1 _ _
          injection e1 with e1
          injection e1 with e1 _ _
          exact e1.symm
        subst hg'
        exact .inr ⟨_, cap, cur, he, hb', by rw [hkeep _ (fun e => by have := hfar _ e; omega)]; exact hg, hr⟩
    have hsz3 : w25.heap.size ≤ w3.heap.size := Nat.le_trans hb26.size hb3s.size
    have hall := Hall.out
    have hbw25 := hb25w.size
    clear hown howna hb2 hb2a hba hown25 hown26 hb25 hb25w hb26 hb26w hb3s hownO hgrowO hkeep Hall
    have hcR := hSp.cap
    have hmR := hSp.max
    have hRl : S.length = S.reverse.length := by simp
    have hokR : ∀ s ∈ S.reverse, 0 ≤ s.1 ∧ s.1 + 1 ≤ s.2 ∧ s.2 ≤ 0 + n := fun s hs => hok s (List.mem_reverse.1 hs)
    rw [hRl] at hlen ⊢
    generalize S.reverse = R at hall hSp hcR hokR hlen
    have hGl : G.length = R.length + 1 := by rw [hall]; simp
    have hBw : w.heap.size ≤ w25.heap.size := by exact hbw25
    have hB3 : w25.heap.size ≤ w3.heap.size := by exact hsz3
    have hfar3 : ∀ g, 0 < R.length → a2 = some ⟨g, 0, none⟩ → g < w25.heap.size := by intro g _ e; exact hfar g (by rw [e]; rfl)
    clear hok hRl
    go_wp2_with fail
    go_loopg [59, 11] R.length (fun g si so wr => ∃ (k : Nat) (a' : Option Addr) (c' : Nat), si = .int .i64 (k : Int) ∧ so = .slice a' (k + 1) c' ∧ k ≤ R.length ∧ R.length - k ≤ g ∧
      wr.ownsRow w25.heap.size 9 1 (.slice a' (k + 1) c') (k + 1) ((G.take (k + 1)).map Value.string) ∧ Below w25.heap.size w3 wr)
    case atStart => exact ⟨0, some ⟨gO, 0, none⟩, capO, rfl, rfl, Nat.zero_le _, by omega, by rw [hall]; exact hown0, Below.refl _ _⟩
    case round =>
      obtain ⟨k, a', c', rfl, rfl, hk, hg, hown, hb⟩ := hrel
      rcases Nat.lt_or_ge k R.length with hkm | hkm
      · obtain ⟨g, rfl, hP⟩ := hSp.cells (by omega)
        obtain ⟨q0, q1⟩ := hP.cells k hkm
        have hgB := hfar3 g (by omega) rfl
        rw [← hb.cell hgB] at q0 q1
        obtain ⟨_, ok1, ok2⟩ := hokR _ (spanAt_mem hkm)
        have hstep : G.take (k + 1 + 1) = G.take (k + 1) ++ [sealP l (spanAt R k)] := by
          rw [List.take_add_one]
          congr 1
          rw [hall]
          unfold spanAt
          rw [List.singleton_append, List.getElem?_cons_succ, List.getElem?_map, List.getD_eq_getElem?_getD, List.getElem?_eq_getElem hkm]
          rfl
        generalize spanAt R k = s at q0 q1 ok1 ok2 hstep
        obtain ⟨f, t⟩ := s
        simp only at q0 q1 ok1 ok2
        have ht2 : t ≤ n := by omega
        have hft : f ≤ t := by omega
        have hne1 : ¬ c = f := by omega
        have hkc : (k : Int) < (R.length : Int) := by omega
        have Hstep := Lib.hid hstep
        have Hall := Lib.hid hall
        clear hstep hall
        have hbs := hb.size
        have hb3a : Below w25.heap.size w3 (wr.alloc (.cells #[.int .i64 (f : Int), .int .i64 (t : Int)] 106)) := hb.alloc (by omega) _
        have hh : (wr.alloc (.cells #[.int .i64 (f : Int), .int .i64 (t : Int)] 106)).heap[wr.heap.size]? = some (.cells #[.int .i64 (f : Int), .int .i64 (t : Int)] 106) := by show (wr.heap.push _)[wr.heap.size]? = _; simp
        have r0 : (wr.alloc (.cells #[.int .i64 (f : Int), .int .i64 (t : Int)] 106)).cell? ⟨wr.heap.size, 0, none⟩ = some (.int .i64 (f : Int)) := by unfold World.cell?; simp only [hh]; rfl
        have r1 : (wr.alloc (.cells #[.int .i64 (f : Int), .int .i64 (t : Int)] 106)).cell? ⟨wr.heap.size, 1, none⟩ = some (.int .i64 (t : Int)) := by unfold World.cell?; simp only [hh]; rfl
        have hown3 := hown.alloc (.cells #[.int .i64 (f : Int), .int .i64 (t : Int)] 106)
        have hSb : StrsAt w (some ⟨b, off + f, none⟩) (c - f) (seg l f (t - f)) := (hS.drop f).take (t - f)
        have hlb : (seg l f (t - f)).length = t - f := seg_len l f (t - f) (by omega)
        have hrz := rootV_size (seg l f (t - f))
        have hb4w := hb3.trans (hb3a.mono hBw)
        have hbas := hb3a.size
        have hF4 : I.told.answers (wr.alloc (.cells #[.int .i64 (f : Int), .int .i64 (t : Int)] 106)).tape := by rw [hb4w.tape]; exact hF
        have hrt := rootOf_any I (seg l f (t - f)) _ (t - f) _ _ hF4 hlb (hSb.on hb4w)
        have hse : sealP l (f, t) = rootV (seg l f (t - f)) := rfl
        rw [hse] at Hstep
        generalize rootV (seg l f (t - f)) = rv at Hstep hrt hrz
        generalize rootE (seg l f (t - f)) = re at hrt
        clear hh hb hP hown hSb hlb hse
        go_wp2_with fail
        refine hrt.mono ?_
        rintro e w5 ⟨rfl, hb5⟩
        have hown5 := owns_on hown3 hb5
        have hb5s := hb5.size
        have hb5 := hb3a.trans (hb5.mono (by omega))
        clear hrt hown3 hb3a hb4w hF4 r0 r1 q0 q1
        go_wp2_with (at_builtin; refine wpList_append_lies _ rfl _ _ 69 rfl w25.heap.size 9 i0 (.string ⟨#[]⟩) 1 16 Tryz.underlying69 hi0 hz0 hz1 hz2 rfl (by decide) _ _ _ rfl (hown5.alloc _) ⟨w5.heap.size, 0, none⟩ 1 1 [.string rv] rfl rfl ?c1 ?c2 (by omega) ?c3 ?c4 ?c5 _ rfl ?_)
        case c1 => exact World.news_of_block (cs := #[.string rv]) (t := 9) (fr := (0, 0)) (by show (w5.heap.push _)[w5.heap.size]? = _; simp)
        case c2 => intro u hu; rw [List.mem_singleton.1 hu]; rfl
        case c3 => unfold maxLen; omega
        case c4 => omega
        case c5 => show _ ≤ (w5.heap.push _).size; rw [Array.size_push]; omega
        intro g cap w6 hown6 hgrow _ _
        have hb6 := own_below hb5 (by omega) hown5 (Nat.le_refl _) hgrow
        clear hown5 hgrow hb5
        go_wp2_with fail
        go_roundg (R.length - (k + 1))
        case measure => omega
        case rel =>
          refine ⟨k + 1, some ⟨g, 0, none⟩, cap, by go_num, rfl, by omega, Nat.le_refl _, ?_, hb6⟩
          rw [show k + 1 + 1 = k + 1 + 1 by omega, Hstep.out, List.map_append, List.map_take]
          exact hown6
      · obtain rfl : k = R.length := by omega
        rw [← hGl, List.take_length] at hown
        have hS2 := (owned_strs hown (fun s hs => Nat.le_trans (hsz s hs) (by omega))).2
        have HP := Lib.hid hGl
        clear hGl hown
        go_wp2_with fail
        go_ret2
        refine ⟨a', c', ?_, hS2, hb3.trans (hb.mono hBw)⟩
        rw [HP.out]; rfl
  · simp only [if_true, List.nil_append] at hall
    have hba : Below w2.heap.size w2 (w2.alloc (.cells #[.int .i64 (Lf : Int), .int .i64 (Lt : Int)] 106)) := (Below.refl _ _).alloc (Nat.le_refl _) _
    have hb2a := below_on hb2 hba
    have howna := owns_on hown hba
    go_wp2_with fail
    refine (reverse_all S a2 c2 _ w1.heap.size (by omega) howna).mono ?_
    rintro e w3 ⟨rfl, hSp, hb3⟩
    have hb3 : Below w.heap.size w w3 := hb2a.trans (hb3.mono hb1.size)
    clear hown howna hb2 hb2a hba
    have hcR := hSp.cap
    have hmR := hSp.max
    have hRl : S.length = S.reverse.length := by simp
    have hokR : ∀ s ∈ S.reverse, 0 ≤ s.1 ∧ s.1 + 1 ≤ s.2 ∧ s.2 ≤ 0 + n := fun s hs => hok s (List.mem_reverse.1 hs)
    rw [hRl] at hlen ⊢
    generalize S.reverse = R at hall hSp hcR hokR hlen
    have hGl : G.length = R.length + 0 := by rw [hall]; simp
    have hBw : w.heap.size ≤ w3.heap.size := by exact hb3.size
    have hB3 : w3.heap.size ≤ w3.heap.size := by exact Nat.le_refl _
    have hfar3 : ∀ g, 0 < R.length → a2 = some ⟨g, 0, none⟩ → g < w3.heap.size := by intro g h0 e; obtain ⟨g1, e1, hP⟩ := hSp.cells h0; rw [e] at e1; injection e1 with e1; injection e1 with e1; rw [e1]; exact hP.lt
    clear hok hRl
    go_wp2_with fail
    go_loopg [59, 11] R.length (fun g si so wr => ∃ (k : Nat) (a' : Option Addr) (c' : Nat), si = .int .i64 (k : Int) ∧ so = .slice a' (k + 0) c' ∧ k ≤ R.length ∧ R.length - k ≤ g ∧
      wr.ownsRow w3.heap.size 9 1 (.slice a' (k + 0) c') (k + 0) ((G.take (k + 0)).map Value.string) ∧ Below w3.heap.size w3 wr)
    case atStart => exact ⟨0, none, 0, rfl, rfl, Nat.zero_le _, by omega, World.ownsRow_nil _ _ _ _, Below.refl _ _⟩
    case round =>
      obtain ⟨k, a', c', rfl, rfl, hk, hg, hown, hb⟩ := hrel
      rcases Nat.lt_or_ge k R.length with hkm | hkm
      · obtain ⟨g, rfl, hP⟩ := hSp.cells (by omega)
        obtain ⟨q0, q1⟩ := hP.cells k hkm
        have hgB := hfar3 g (by omega) rfl
        rw [← hb.cell hgB] at q0 q1
        obtain ⟨_, ok1, ok2⟩ := hokR _ (spanAt_mem hkm)
        have hstep : G.take (k + 0 + 1) = G.take (k + 0) ++ [sealP l (spanAt R k)] := by
          rw [List.take_add_one]
          congr 1
          rw [hall]
          unfold spanAt
          rw [List.getElem?_map, List.getD_eq_getElem?_getD, List.getElem?_eq_getElem hkm]
          rfl
        generalize spanAt R k = s at q0 q1 ok1 ok2 hstep
        obtain ⟨f, t⟩ := s
        simp only at q0 q1 ok1 ok2
        have ht2 : t ≤ n := by omega
        have hft : f ≤ t := by omega
        have hne1 : ¬ c = f := by omega
        have hkc : (k : Int) < (R.length : Int) := by omega
        have Hstep := Lib.hid hstep
        have Hall := Lib.hid hall
        clear hstep hall
        have hbs := hb.size
        have hb3a : Below w3.heap.size w3 (wr.alloc (.cells #[.int .i64 (f : Int), .int .i64 (t : Int)] 106)) := hb.alloc (by omega) _
        have hh : (wr.alloc (.cells #[.int .i64 (f : Int), .int .i64 (t : Int)] 106)).heap[wr.heap.size]? = some (.cells #[.int .i64 (f : Int), .int .i64 (t : Int)] 106) := by show (wr.heap.push _)[wr.heap.size]? = _; simp
        have r0 : (wr.alloc (.cells #[.int .i64 (f : Int), .int .i64 (t : Int)] 106)).cell? ⟨wr.heap.size, 0, none⟩ = some (.int .i64 (f : Int)) := by unfold World.cell?; simp only [hh]; rfl
        have r1 : (wr.alloc (.cells #[.int .i64 (f : Int), .int .i64 (t : Int)] 106)).cell? ⟨wr.heap.size, 1, none⟩ = some (.int .i64 (t : Int)) := by unfold World.cell?; simp only [hh]; rfl
        have hown3 := hown.alloc (.cells #[.int .i64 (f : Int), .int .i64 (t : Int)] 106)
        have hSb : StrsAt w (some ⟨b, off + f, none⟩) (c - f) (seg l f (t - f)) := (hS.drop f).take (t - f)
        have hlb : (seg l f (t - f)).length = t - f := seg_len l f (t - f) (by omega)
        have hrz := rootV_size (seg l f (t - f))
        have hb4w := hb3.trans (hb3a.mono hBw)
        have hbas := hb3a.size
        have hF4 : I.told.answers (wr.alloc (.cells #[.int .i64 (f : Int), .int .i64 (t : Int)] 106)).tape := by rw [hb4w.tape]; exact hF
        have hrt := rootOf_any I (seg l f (t - f)) _ (t - f) _ _ hF4 hlb (hSb.on hb4w)
        have hse : sealP l (f, t) = rootV (seg l f (t - f)) := rfl
        rw [hse] at Hstep
        generalize rootV (seg l f (t - f)) = rv at Hstep hrt hrz
        generalize rootE (seg l f (t - f)) = re at hrt
        clear hh hb hP hown hSb hlb hse
        go_wp2_with fail
        refine hrt.mono ?_
        rintro e w5 ⟨rfl, hb5⟩
        have hown5 := owns_on hown3 hb5
        have hb5s := hb5.size
        have hb5 := hb3a.trans (hb5.mono (by omega))
        clear hrt hown3 hb3a hb4w hF4 r0 r1 q0 q1
        go_wp2_with (at_builtin; refine wpList_append_lies _ rfl _ _ 69 rfl w3.heap.size 9 i0 (.string ⟨#[]⟩) 1 16 Tryz.underlying69 hi0 hz0 hz1 hz2 rfl (by decide) _ _ _ rfl (hown5.alloc _) ⟨w5.heap.size, 0, none⟩ 1 1 [.string rv] rfl rfl ?c1 ?c2 (by omega) ?c3 ?c4 ?c5 _ rfl ?_)
        case c1 => exact World.news_of_block (cs := #[.string rv]) (t := 9) (fr := (0, 0)) (by show (w5.heap.push _)[w5.heap.size]? = _; simp)
        case c2 => intro u hu; rw [List.mem_singleton.1 hu]; rfl
        case c3 => unfold maxLen; omega
        case c4 => omega
        case c5 => show _ ≤ (w5.heap.push _).size; rw [Array.size_push]; omega
        intro g cap w6 hown6 hgrow _ _
        have hb6 := own_below hb5 (by omega) hown5 (Nat.le_refl _) hgrow
        clear hown5 hgrow hb5
        go_wp2_with fail
        go_roundg (R.length - (k + 1))
        case measure => omega
        case rel =>
          refine ⟨k + 1, some ⟨g, 0, none⟩, cap, by go_num, rfl, by omega, Nat.le_refl _, ?_, hb6⟩
          rw [show k + 1 + 0 = k + 0 + 1 by omega, Hstep.out, List.map_append, List.map_take]
          exact hown6
      · obtain rfl : k = R.length := by omega
        rw [← hGl, List.take_length] at hown
        have hS2 := (owned_strs hown (fun s hs => Nat.le_trans (hsz s hs) (by omega))).2
        have HP := Lib.hid hGl
        clear hGl hown
        go_wp2_with fail
        go_ret2
        refine ⟨a', c', ?_, hS2, hb3.trans (hb.mono hBw)⟩
        rw [HP.out]; rfl
end Go.Proofs.YthhckpnnjegldafGreatFmt
