/-
  Chapter 3's Of as the document's own reckoning has it: by spans from above, turned about.
-/
import Derived.Test.YtolgikojliedlaeFmtReverse
import Derived.Test.YtolgikojliedlaeFmtRefSmall
import Derived.Test.YtolgikojliedlaeFmtPath
namespace Go.Proofs.YtolgikojliedlaeFmt
open Go Go.RowKit Go.Kit Go.Extern.Stop Go.Stop Go.Extern

theorem pathOf_no (I : Interp) (l : List ByteArray) (a : Option Addr) (n c : Nat) (i : Int) (w : World) (hF : I.told.answers w.tape) (hn : l.length = n) (hS : StrsAt w a c l) (hr : rootS l = none) :
    Calls Tryf.prog 10 #[.slice a n c, .int .i64 i] w fun e w' => e = .returned (.tuple #[.slice none 0 0, .int .i64 2]) ∧ Below w.heap.size w w' := by
  have hro := rootOf_any I l a n c w hF hn hS
  rw [(root_neg hr).1, (root_neg hr).2] at hro
  go_enter Tryf.func10, Tryf.ntmps10
  go_wp2_with fail
  refine hro.mono ?_
  rintro e w1 ⟨rfl, hb1⟩
  clear hro
  go_wp2_with fail
  go_ret2
  exact ⟨rfl, hb1⟩
theorem pathOf_who (I : Interp) (l : List ByteArray) (a : Option Addr) (n c : Nat) (i : Int) (r : ByteArray) (w : World) (hF : I.told.answers w.tape) (hn : l.length = n) (hS : StrsAt w a c l) (hr : rootS l = some r) (hi : i < 0 ∨ (n : Int) ≤ i) :
    Calls Tryf.prog 10 #[.slice a n c, .int .i64 i] w fun e w' => e = .returned (.tuple #[.slice none 0 0, .int .i64 5]) ∧ Below w.heap.size w w' := by
  have hcap := hS.cap
  have hmax := hS.max
  have hro := rootOf_any I l a n c w hF hn hS
  rw [(root_pos hr).1, (root_pos hr).2] at hro
  rcases Int.lt_or_le i 0 with h0 | h0
  · go_enter Tryf.func10, Tryf.ntmps10
    go_wp2_with fail
    refine hro.mono ?_
    rintro e w1 ⟨rfl, hb1⟩
    clear hro
    go_wp2_with fail
    go_ret2
    exact ⟨rfl, hb1⟩
  · have h1 : (n : Int) ≤ i := by omega
    have h2 : ¬ i < 0 := by omega
    clear hi
    go_enter Tryf.func10, Tryf.ntmps10
    go_wp2_with fail
    refine hro.mono ?_
    rintro e w1 ⟨rfl, hb1⟩
    clear hro
    go_wp2_with fail
    go_ret2
    exact ⟨rfl, hb1⟩

theorem stepN_eq (l : List ByteArray) (i f t : Nat) : stepN l i (f, t) = if midN (f, t) ≤ i then (true, rootV (seg l f (midN (f, t) - f))) else (false, rootV (seg l (midN (f, t)) (t - midN (f, t)))) := by
  unfold stepN sideN besideN
  split
  · rename_i h; rw [decide_eq_true h]
  · rename_i h; rw [decide_eq_false h]

set_option maxRecDepth 100000 in
set_option maxHeartbeats 800000 in
theorem pathOf_ok (I : Interp) (l : List ByteArray) (a : Option Addr) (n c i : Nat) (r : ByteArray) (w : World) (hF : I.told.answers w.tape) (hn : l.length = n) (hS : StrsAt w a c l) (hr : rootS l = some r) (hi : i < n) :
    Calls Tryf.prog 10 #[.slice a n c, .int .i64 (i : Int)] w fun e w' => ∃ a' c', e = .returned (.tuple #[.slice a' (pathS l i).length c', .int .i64 0]) ∧ StepsAt w' a' c' (pathS l i) ∧ Below w.heap.size w w' := by
  have hcap := hS.cap
  have hmax := hS.max
  have h24 : n ≤ 24 := by rw [← hn]; exact rootS_len hr
  have h1 : ¬ (n : Int) ≤ (i : Int) := by omega
  have hsz := pathS_size l.length l i (Nat.le_refl _)
  have hro := rootOf_any I l a n c w hF hn hS
  rw [(root_pos hr).1, (root_pos hr).2] at hro
  have hsp := fun w' => spans_any n i w' (by omega) h24 hi
  have hpath := spans_path l i
  rw [hn] at hpath
  have hok := spanL_ok n 0 n i (Nat.le_refl _)
  have hlen : (spanL 0 n i).length ≤ 23 := by rw [spans_len]; exact sidesN_le h24
  generalize spanL 0 n i = S at hsp hpath hok hlen
  obtain ⟨i0, hi0, hz0, hz1, hz2⟩ := info_parts infoStep
  obtain ⟨b, off, rfl, hlt, hc⟩ := hS.cells (by omega)
  clear hc
  go_enter Tryf.func10, Tryf.ntmps10
  go_wp2_with fail
  refine hro.mono ?_
  rintro e w1 ⟨rfl, hb1⟩
  clear hro
  go_wp2_with fail
  refine (hsp w1).mono ?_
  rintro e w2 ⟨a2, c2, rfl, hown, hb2⟩
  clear hsp
  go_wp2_with fail
  refine (reverse_all S a2 c2 w2 w1.heap.size (by omega) hown).mono ?_
  rintro e w3 ⟨rfl, hSp, hb3⟩
  have hb3 : Below w1.heap.size w1 w3 := hb2.trans hb3
  have hb3 := below_on hb1 hb3
  have hcR := hSp.cap
  have hmR := hSp.max
  clear hown hb2 hb1
  have hRl : S.length = S.reverse.length := by simp
  have hokR : ∀ s ∈ S.reverse, 0 ≤ s.1 ∧ s.1 + 2 ≤ s.2 ∧ s.2 ≤ 0 + n := fun s hs => hok s (List.mem_reverse.1 hs)
  rw [hRl] at hlen ⊢
  generalize S.reverse = R at hpath hSp hcR hokR hlen
  have hPl : (pathS l i).length = R.length := by rw [← hpath]; simp
  clear hok hRl
  go_wp2_with fail
  go_loopg [40, 9] R.length (fun g s40 s9 wr => ∃ (k : Nat) (a' : Option Addr) (c' : Nat), s40 = .int .i64 (k : Int) ∧ s9 = .slice a' k c' ∧ k ≤ R.length ∧ R.length - k ≤ g ∧
    wr.ownsRow w3.heap.size 44 2 (.slice a' k c') k (stepCells ((pathS l i).take k)) ∧ Below w3.heap.size w3 wr)
  case atStart => exact ⟨0, none, 0, rfl, rfl, Nat.zero_le _, by omega, World.ownsRow_nil _ _ _ _, Below.refl _ _⟩
  case round =>
    obtain ⟨k, a', c', rfl, rfl, hk, hg, hown, hb⟩ := hrel
    rcases Nat.lt_or_ge k R.length with hkm | hkm
    · have hSpr := hSp.on hb
      obtain ⟨g, rfl, hP⟩ := hSpr.cells (by omega)
      obtain ⟨q0, q1⟩ := hP.cells k hkm
      obtain ⟨_, ok1, ok2⟩ := hokR _ (spanAt_mem hkm)
      have hstep : (pathS l i).take (k + 1) = (pathS l i).take k ++ [stepN l i (spanAt R k)] := by
        rw [← hpath, List.take_add_one, List.getElem?_map]
        unfold spanAt
        rw [List.getD_eq_getElem?_getD, List.getElem?_eq_getElem hkm]
        rfl
      generalize spanAt R k = s at q0 q1 ok1 ok2 hstep
      obtain ⟨f, t⟩ := s
      simp only at q0 q1 ok1 ok2
      rw [stepN_eq] at hstep
      obtain ⟨d, hd⟩ : ∃ d, d = t - f := ⟨_, rfl⟩
      have hmd : midN (f, t) = f + halfN d := by rw [hd]; rfl
      generalize midN (f, t) = mid at hstep hmd
      have hsub : (t : Int) - (f : Int) = (d : Int) := by omega
      have hmid : (f : Int) + (halfN d : Int) = (mid : Int) := by omega
      have hd2 : 2 ≤ d := by omega
      have hd24 : d ≤ 24 := by omega
      have hh := halfN_lt hd2
      have hp := halfN_pos d
      have hm1 : f + 1 ≤ mid := by omega
      have hm2 : mid + 1 ≤ t := by omega
      have ht2 : t ≤ n := by omega
      have hne1 : ¬ c = f := by omega
      have hne2 : ¬ c = mid := by omega
      have hkc : (k : Int) < (R.length : Int) := by omega
      have hcH := fun W q => halfOf_quiet d hd2 hd24 W q
      have hm3 : mid ≤ f + halfN d := by omega
      have hm4 : f + halfN d ≤ mid := by omega
      have HstepI := Lib.hid hstep
      have Hpath := Lib.hid hpath
      clear hd hp hh ok1 ok2 hmd hstep hpath
      have hb3a : Below w3.heap.size w3 (wr.alloc (.cells #[.int .i64 (f : Int), .int .i64 (t : Int)] 75)) := hb.alloc hb.size _
      have hh : (wr.alloc (.cells #[.int .i64 (f : Int), .int .i64 (t : Int)] 75)).heap[wr.heap.size]? = some (.cells #[.int .i64 (f : Int), .int .i64 (t : Int)] 75) := by show (wr.heap.push _)[wr.heap.size]? = _; simp
      have r0 : (wr.alloc (.cells #[.int .i64 (f : Int), .int .i64 (t : Int)] 75)).cell? ⟨wr.heap.size, 0, none⟩ = some (.int .i64 (f : Int)) := by unfold World.cell?; simp only [hh]; rfl
      have r1 : (wr.alloc (.cells #[.int .i64 (f : Int), .int .i64 (t : Int)] 75)).cell? ⟨wr.heap.size, 1, none⟩ = some (.int .i64 (t : Int)) := by unfold World.cell?; simp only [hh]; rfl
      have hown3 := hown.alloc (.cells #[.int .i64 (f : Int), .int .i64 (t : Int)] 75)
      go_wp2_with fail
      clear hh q0 q1 hb hP hSpr hown
      generalize (wr.alloc (.cells #[.int .i64 (f : Int), .int .i64 (t : Int)] 75)) = W3 at hb3a r0 r1 hown3
      generalize wr.heap.size = BB at r0 r1
      have hcW := Lib.hid (hcH W3)
      clear hcH
      go_quiet (exact hcW.out _)
      have hbq := below_drewN (Below.refl W3.heap.size W3) nq
      have hown4 := owns_on hown3 hbq
      have hb4 := below_on hb3a hbq
      have t0 : (W3.drewN nq).cell? ⟨BB, 0, none⟩ = some (.int .i64 (f : Int)) := r0
      have t1 : (W3.drewN nq).cell? ⟨BB, 1, none⟩ = some (.int .i64 (t : Int)) := r1
      generalize W3.drewN nq = W4 at hown4 hb4 t0 t1
      have hb4w := below_on hb3 hb4
      have hF4 : I.told.answers W4.tape := by rw [hb4w.tape]; exact hF
      clear hbq hown3 hb3a r0 r1 hcW
      have hstep := HstepI.out
      clear HstepI
      rcases Nat.lt_or_ge i mid with hlow | hhigh
      · have hcmp : ¬ mid ≤ i := by omega
        rw [if_neg hcmp] at hstep
        have hSb : StrsAt w (some ⟨b, off + mid, none⟩) (c - mid) (seg l mid (t - mid)) := (hS.drop mid).take (t - mid)
        have hlb : (seg l mid (t - mid)).length = t - mid := seg_len l mid (t - mid) (by omega)
        have hrz := rootV_size (seg l mid (t - mid))
        have hrt := rootOf_any I (seg l mid (t - mid)) _ (t - mid) _ W4 hF4 hlb (hSb.on hb4w)
        generalize rootV (seg l mid (t - mid)) = rv at hstep hrt hrz
        generalize rootE (seg l mid (t - mid)) = re at hrt
        have Hstep := Lib.hid hstep
        clear hstep hSb hlb
        go_wp2_with fail
        refine hrt.mono ?_
        rintro e w5 ⟨rfl, hb5⟩
        have hown5 := owns_on hown4 hb5
        have hb5 := below_on hb4 hb5
        clear hrt hown4 hb4 hb4w hF4 t0 t1
        go_wp2_with (at_builtin; refine wpList_append_lies _ rfl _ _ 27 rfl w3.heap.size 44 i0 (.agg #[.bool false, .string ⟨#[]⟩]) 2 24 Tryf.underlying27 hi0 hz0 hz1 hz2 rfl (by decide) _ _ _ rfl (hown5.alloc _) ⟨w5.heap.size, 0, none⟩ 1 1 [.bool false, .string rv] rfl rfl ?c1 ?c2 (by omega) ?c3 ?c4 ?c5 _ rfl ?_)
        case c1 => exact World.news_of_block (cs := #[.bool false, .string rv]) (t := 44) (fr := (0, 0)) (by show (w5.heap.push _)[w5.heap.size]? = _; simp)
        case c2 => intro u hu; simp only [List.mem_cons, List.not_mem_nil, or_false] at hu; rcases hu with rfl | rfl <;> rfl
        case c3 => unfold maxLen; omega
        case c4 => omega
        case c5 => show _ ≤ (w5.heap.push _).size; rw [Array.size_push]; have := hb5.size; omega
        intro g cap w6 hown6 hgrow _ _
        have hb6 := own_below hb5 hb5.size hown5 (Nat.le_refl _) hgrow
        clear hown5 hgrow hb5
        go_wp2_with fail
        go_roundg (R.length - (k + 1))
        case measure => omega
        case rel =>
          refine ⟨k + 1, some ⟨g, 0, none⟩, cap, by go_num, rfl, by omega, Nat.le_refl _, ?_, hb6⟩
          rw [Hstep.out, stepCells_app]
          exact hown6
      · have hcmp : mid ≤ i := by omega
        rw [if_pos hcmp] at hstep
        have hSb : StrsAt w (some ⟨b, off + f, none⟩) (c - f) (seg l f (mid - f)) := (hS.drop f).take (mid - f)
        have hlb : (seg l f (mid - f)).length = mid - f := seg_len l f (mid - f) (by omega)
        have hrz := rootV_size (seg l f (mid - f))
        have hrt := rootOf_any I (seg l f (mid - f)) _ (mid - f) _ W4 hF4 hlb (hSb.on hb4w)
        generalize rootV (seg l f (mid - f)) = rv at hstep hrt hrz
        generalize rootE (seg l f (mid - f)) = re at hrt
        have Hstep := Lib.hid hstep
        clear hstep hSb hlb
        go_wp2_with fail
        refine hrt.mono ?_
        rintro e w5 ⟨rfl, hb5⟩
        have hown5 := owns_on hown4 hb5
        have hb5 := below_on hb4 hb5
        clear hrt hown4 hb4 hb4w hF4 t0 t1
        go_wp2_with (at_builtin; refine wpList_append_lies _ rfl _ _ 27 rfl w3.heap.size 44 i0 (.agg #[.bool false, .string ⟨#[]⟩]) 2 24 Tryf.underlying27 hi0 hz0 hz1 hz2 rfl (by decide) _ _ _ rfl (hown5.alloc _) ⟨w5.heap.size, 0, none⟩ 1 1 [.bool true, .string rv] rfl rfl ?c1 ?c2 (by omega) ?c3 ?c4 ?c5 _ rfl ?_)
        case c1 => exact World.news_of_block (cs := #[.bool true, .string rv]) (t := 44) (fr := (0, 0)) (by show (w5.heap.push _)[w5.heap.size]? = _; simp)
        case c2 => intro u hu; simp only [List.mem_cons, List.not_mem_nil, or_false] at hu; rcases hu with rfl | rfl <;> rfl
        case c3 => unfold maxLen; omega
        case c4 => omega
        case c5 => show _ ≤ (w5.heap.push _).size; rw [Array.size_push]; have := hb5.size; omega
        intro g cap w6 hown6 hgrow _ _
        have hb6 := own_below hb5 hb5.size hown5 (Nat.le_refl _) hgrow
        clear hown5 hgrow hb5
        go_wp2_with fail
        go_roundg (R.length - (k + 1))
        case measure => omega
        case rel =>
          refine ⟨k + 1, some ⟨g, 0, none⟩, cap, by go_num, rfl, by omega, Nat.le_refl _, ?_, hb6⟩
          rw [Hstep.out, stepCells_app]
          exact hown6
    · obtain rfl : k = R.length := by omega
      rw [← hPl, List.take_length] at hown
      obtain ⟨a3, c3, he, _, hS2⟩ := steps_own hown (fun s hs => Nat.le_trans (hsz s hs) (by omega))
      injection he with e1 e2 e3
      subst e1 e3
      have HP := Lib.hid hPl
      clear hPl hown
      go_wp2_with fail
      go_ret2
      refine ⟨a', c', ?_, hS2, below_on hb3 hb⟩
      rw [HP.out]; rfl
end Go.Proofs.YtolgikojliedlaeFmt
