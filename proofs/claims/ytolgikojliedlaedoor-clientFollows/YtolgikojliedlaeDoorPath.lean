/-
  Contracts of package path over this seat's dump: join, climb, Of.
-/
import Derived.Test.YtolgikojliedlaeDoorSides
namespace Go.Proofs.YtolgikojliedlaeDoor
open Go Go.RowKit

theorem infoStep : (Tryd.prog.info? 82).map (fun i => (i.zero, i.size, i.bytes)) = some (some (.agg #[.bool false, .string ⟨#[]⟩]), 2, 24) := by kernel_rfl

/- A step up. -/
theorem join_ok (x : ByteArray) (b : Bool) (s z : ByteArray) (w : World) (hE : Tab w) (h : joinO x (b, s) = some z) :
    Calls Tryd.prog 38 #[.string x, .agg #[.bool b, .string s]] w fun e w' => e = .returned (.tuple #[.string z, .int .i64 0]) ∧ Below w.heap.size w w' := by
  have hl : Below w.heap.size w (w.alloc (.cells #[.bool b, .string s] 82)) := (Below.refl _ _).alloc (Nat.le_refl _) _
  have hE0 := hE.on hl
  cases b with
  | true =>
    obtain ⟨hsz, rfl⟩ := nodeO_some (show nodeO s x = some z from h)
    go_enter Tryd.func38, Tryd.ntmps38
    go_wp2_with fail
    refine (node_tab s x _ hE0 hsz).mono ?_
    rintro e w1 ⟨rfl, hb⟩
    go_wp2_with fail
    go_ret2
    exact ⟨rfl, below_on hl hb⟩
  | false =>
    obtain ⟨hsz, rfl⟩ := nodeO_some (show nodeO x s = some z from h)
    go_enter Tryd.func38, Tryd.ntmps38
    go_wp2_with fail
    refine (node_tab x s _ hE0 hsz).mono ?_
    rintro e w1 ⟨rfl, hb⟩
    go_wp2_with fail
    go_ret2
    exact ⟨rfl, below_on hl hb⟩
theorem join_no (x : ByteArray) (b : Bool) (s : ByteArray) (w : World) (hx : x.size ≤ 9223372036854775807) (hs : s.size ≤ 9223372036854775807) (h : joinO x (b, s) = none) :
    Calls Tryd.prog 38 #[.string x, .agg #[.bool b, .string s]] w fun e w' => e = .returned (.tuple #[.string ⟨#[]⟩, .int .i64 2]) ∧ Below w.heap.size w w' := by
  have hl : Below w.heap.size w (w.alloc (.cells #[.bool b, .string s] 82)) := (Below.refl _ _).alloc (Nat.le_refl _) _
  cases b with
  | true =>
    have hsz := nodeO_none (show nodeO s x = none from h)
    go_enter Tryd.func38, Tryd.ntmps38
    go_wp2_with fail
    refine (node_many s x _ hx hsz).mono ?_
    rintro e w1 ⟨rfl, rfl⟩
    go_wp2_with fail
    go_ret2
    exact ⟨rfl, hl⟩
  | false =>
    have hsz := nodeO_none (show nodeO x s = none from h)
    go_enter Tryd.func38, Tryd.ntmps38
    go_wp2_with fail
    refine (node_many x s _ hs hsz).mono ?_
    rintro e w1 ⟨rfl, rfl⟩
    go_wp2_with fail
    go_ret2
    exact ⟨rfl, hl⟩

/- The path of a text that is there. -/
def ClimbIs (k : Nat) : Prop := ∀ (l : List ByteArray) (a : Option Addr) (n c i : Nat) (r : ByteArray) (w : World), l.length = n → n ≤ k → i < n → rootS l = some r → Tab w → StrsAt w a c l →
    Calls Tryd.prog 53 #[.slice a n c, .int .i64 (i : Int)] w fun e w' => ∃ a' c', e = .returned (.tuple #[.slice a' (pathS l i).length c', .int .i64 0]) ∧
      w'.ownsRow w.heap.size 82 2 (.slice a' (pathS l i).length c') (pathS l i).length (stepCells (pathS l i)) ∧ Below w.heap.size w w'

set_option maxRecDepth 100000 in
theorem climb_is (k : Nat) : ClimbIs k := by
  induction k with
  | zero => intro l a n c i r w hn hk hi; omega
  | succ k ih =>
    intro l a n c i r w hn hk hi hr hE hS
    have hcap := hS.cap
    have hmax := hS.max
    rcases Nat.lt_or_ge 1 n with h2 | h2
    · obtain ⟨h24, u, v, hu, hv, hnode⟩ := rootS_some_two (by omega) hr
      obtain ⟨b, off, rfl, hlt, hc⟩ := hS.cells (by omega)
      have hpl := @pathS_low l i (by omega)
      have hph := @pathS_high l i (by omega)
      rw [hn] at hu hv h24 hpl hph
      rw [(root_pos hv).1] at hpl
      rw [(root_pos hu).1] at hph
      have hh := halfN_lt h2
      have hp := halfN_pos n
      have hne : ¬ c = halfN n := by omega
      have hn1 : ¬ n = 1 := by omega
      have l1 : (l.take (halfN n)).length = halfN n := by rw [List.length_take]; omega
      have l2 : (l.drop (halfN n)).length = n - halfN n := by rw [List.length_drop]; omega
      have hS1 := hS.take (halfN n)
      have hS2 := hS.drop (halfN n)
      obtain ⟨i0, hi0, hz0, hz1, hz2⟩ := info_parts infoStep
      have g1 : (0 : Int) ≤ (halfN n : Int) := by omega
      have g2 : (halfN n : Int) ≤ (c : Int) := by omega
      have g3 : (halfN n : Int) ≤ (n : Int) := by omega
      clear hc
      rcases Nat.lt_or_ge i (halfN n) with hlow | hhigh
      · have ihc := fun w' => ih (l.take (halfN n)) (some ⟨b, off, none⟩) (halfN n) c i u w' l1 (by omega) hlow hu
        have hle : (pathS (l.take (halfN n)) i).length ≤ 23 := by rw [pathS_len, l1]; exact sidesN_le (by omega)
        rw [hpl hlow]
        generalize pathS (l.take (halfN n)) i = L at ihc hle
        clear ih hpl hph
        go_enter Tryd.func53, Tryd.ntmps53
        go_wp2_with fail
        refine (half_ok n w h2 h24).mono ?_
        rintro e w1 ⟨rfl, rfl⟩
        go_wp2_with fail
        go_quiet (fail)
        have hq := below_drewN (Below.refl w.heap.size w) nq
        go_wp2_with fail
        refine (ihc _ (hE.on hq) (hS1.on hq)).mono ?_
        rintro e w1 ⟨a1, c1, rfl, hown, hb1⟩
        have hown := hown.mono hq.size
        have hb1 := below_on hq hb1
        have hE1 := hE.on hb1
        have hS3 := hS2.on hb1
        clear ihc hq hS hS1 hS2
        go_wp2_with fail
        refine (root_ok (l.drop (halfN n)) v hv _ _ _ w1 l2 hE1 hS3).mono ?_
        rintro e w2 ⟨rfl, hb2⟩
        have hown := owns_on hown hb2
        have hb2 := below_on hb1 hb2
        clear hb1 hE1 hS3
        go_wp2_with (at_builtin; refine wpList_append_lies _ rfl _ _ 38 rfl w.heap.size 82 i0 (.agg #[.bool false, .string ⟨#[]⟩]) 2 24 Tryd.underlying38 hi0 hz0 hz1 hz2 rfl (by decide) _ _ _ rfl (hown.alloc _) ⟨w2.heap.size, 0, none⟩ 1 1 [.bool false, .string v] rfl rfl ?c1 ?c2 (by omega) ?c3 ?c4 ?c5 _ rfl ?_)
        case c1 => exact World.news_of_block (cs := #[.bool false, .string v]) (t := 82) (fr := (0, 0)) (by show (w2.heap.push _)[w2.heap.size]? = _; simp)
        case c2 => intro u hu; simp only [List.mem_cons, List.not_mem_nil, or_false] at hu; rcases hu with rfl | rfl <;> rfl
        case c3 => unfold maxLen; omega
        case c4 => omega
        case c5 => show _ ≤ (w2.heap.push _).size; rw [Array.size_push]; have := hb2.size; omega
        intro g cap w3 hown3 hgrow _ _
        have hb3 := own_below hb2 hb2.size hown (Nat.le_refl _) hgrow
        go_wp2_with fail
        go_ret2
        refine ⟨some ⟨g, 0, none⟩, cap, ?_, ?_, hb3⟩
        · rw [List.length_append]; rfl
        · rw [List.length_append, stepCells_app]; exact hown3
      · have ihc := fun w' => ih (l.drop (halfN n)) (some ⟨b, off + halfN n, none⟩) (n - halfN n) (c - halfN n) (i - halfN n) v w' l2 (by omega) (by omega) hv
        have hle : (pathS (l.drop (halfN n)) (i - halfN n)).length ≤ 23 := by rw [pathS_len, l2]; exact sidesN_le (by omega)
        rw [hph hhigh]
        simp only [show ((i - halfN n : Nat) : Int) = (i : Int) - (halfN n : Int) by omega] at ihc
        generalize pathS (l.drop (halfN n)) (i - halfN n) = L at ihc hle
        clear ih hpl hph
        go_enter Tryd.func53, Tryd.ntmps53
        go_wp2_with fail
        refine (half_ok n w h2 h24).mono ?_
        rintro e w1 ⟨rfl, rfl⟩
        go_wp2_with fail
        go_quiet (fail)
        have hq := below_drewN (Below.refl w.heap.size w) nq
        go_wp2_with fail
        refine (ihc _ (hE.on hq) (hS2.on hq)).mono ?_
        rintro e w1 ⟨a1, c1, rfl, hown, hb1⟩
        have hown := hown.mono hq.size
        have hb1 := below_on hq hb1
        have hE1 := hE.on hb1
        have hS3 := hS1.on hb1
        clear ihc hq hS hS1 hS2
        go_wp2_with fail
        refine (root_ok (l.take (halfN n)) u hu _ _ _ w1 l1 hE1 hS3).mono ?_
        rintro e w2 ⟨rfl, hb2⟩
        have hown := owns_on hown hb2
        have hb2 := below_on hb1 hb2
        clear hb1 hE1 hS3
        go_wp2_with (at_builtin; refine wpList_append_lies _ rfl _ _ 38 rfl w.heap.size 82 i0 (.agg #[.bool false, .string ⟨#[]⟩]) 2 24 Tryd.underlying38 hi0 hz0 hz1 hz2 rfl (by decide) _ _ _ rfl (hown.alloc _) ⟨w2.heap.size, 0, none⟩ 1 1 [.bool true, .string u] rfl rfl ?c1 ?c2 (by omega) ?c3 ?c4 ?c5 _ rfl ?_)
        case c1 => exact World.news_of_block (cs := #[.bool true, .string u]) (t := 82) (fr := (0, 0)) (by show (w2.heap.push _)[w2.heap.size]? = _; simp)
        case c2 => intro u hu; simp only [List.mem_cons, List.not_mem_nil, or_false] at hu; rcases hu with rfl | rfl <;> rfl
        case c3 => unfold maxLen; omega
        case c4 => omega
        case c5 => show _ ≤ (w2.heap.push _).size; rw [Array.size_push]; have := hb2.size; omega
        intro g cap w3 hown3 hgrow _ _
        have hb3 := own_below hb2 hb2.size hown (Nat.le_refl _) hgrow
        go_wp2_with fail
        go_ret2
        refine ⟨some ⟨g, 0, none⟩, cap, ?_, ?_, hb3⟩
        · rw [List.length_append]; rfl
        · rw [List.length_append, stepCells_app]; exact hown3
    · obtain rfl : n = 1 := by omega
      rw [pathS_one (by omega)]
      go_enter Tryd.func53, Tryd.ntmps53
      go_wp2_with fail
      go_ret2
      exact ⟨none, 0, rfl, World.ownsRow_nil _ _ _ _, Below.refl _ _⟩

/- Of. -/
theorem of_no (l : List ByteArray) (a : Option Addr) (n c : Nat) (i : Int) (w : World) (hn : l.length = n) (hE : Tab w) (hS : StrsAt w a c l) (hr : rootS l = none) :
    Calls Tryd.prog 35 #[.slice a n c, .int .i64 i] w fun e w' => e = .returned (.tuple #[.slice none 0 0, .int .i64 2]) ∧ Below w.heap.size w w' := by
  go_enter Tryd.func35, Tryd.ntmps35
  go_wp2_with fail
  refine (root_no l hr a n c w hn hE hS).mono ?_
  rintro e w1 ⟨rfl, hb1⟩
  go_wp2_with fail
  go_ret2
  exact ⟨rfl, hb1⟩
theorem of_who (l : List ByteArray) (a : Option Addr) (n c : Nat) (i : Int) (r : ByteArray) (w : World) (hn : l.length = n) (hE : Tab w) (hS : StrsAt w a c l) (hr : rootS l = some r) (hi : i < 0 ∨ (n : Int) ≤ i) :
    Calls Tryd.prog 35 #[.slice a n c, .int .i64 i] w fun e w' => e = .returned (.tuple #[.slice none 0 0, .int .i64 5]) ∧ Below w.heap.size w w' := by
  have hcap := hS.cap
  have hmax := hS.max
  rcases Int.lt_or_le i 0 with h0 | h0
  · go_enter Tryd.func35, Tryd.ntmps35
    go_wp2_with fail
    refine (root_ok l r hr a n c w hn hE hS).mono ?_
    rintro e w1 ⟨rfl, hb1⟩
    go_wp2_with fail
    go_ret2
    exact ⟨rfl, hb1⟩
  · have h1 : (n : Int) ≤ i := by omega
    have h2 : ¬ i < 0 := by omega
    clear hi
    go_enter Tryd.func35, Tryd.ntmps35
    go_wp2_with fail
    refine (root_ok l r hr a n c w hn hE hS).mono ?_
    rintro e w1 ⟨rfl, hb1⟩
    go_wp2_with fail
    go_ret2
    exact ⟨rfl, hb1⟩
theorem of_ok (l : List ByteArray) (a : Option Addr) (n c i : Nat) (r : ByteArray) (w : World) (hn : l.length = n) (hE : Tab w) (hS : StrsAt w a c l) (hr : rootS l = some r) (hi : i < n) :
    Calls Tryd.prog 35 #[.slice a n c, .int .i64 (i : Int)] w fun e w' => ∃ a' c', e = .returned (.tuple #[.slice a' (pathS l i).length c', .int .i64 0]) ∧ (∃ B, w.heap.size ≤ B ∧ w'.ownsRow B 82 2 (.slice a' (pathS l i).length c') (pathS l i).length (stepCells (pathS l i))) ∧ StepsAt w' a' c' (pathS l i) ∧ Below w.heap.size w w' := by
  have hcap := hS.cap
  have hmax := hS.max
  have h1 : ¬ (n : Int) ≤ (i : Int) := by omega
  have hsz := pathS_size l.length l i (Nat.le_refl _)
  have hc := fun w' => climb_is n l a n c i r w' hn (Nat.le_refl _) hi hr
  generalize pathS l i = L at hc hsz
  go_enter Tryd.func35, Tryd.ntmps35
  go_wp2_with fail
  refine (root_ok l r hr a n c w hn hE hS).mono ?_
  rintro e w1 ⟨rfl, hb1⟩
  go_wp2_with fail
  refine (hc w1 (hE.on hb1) (hS.on hb1)).mono ?_
  rintro e w2 ⟨a2, c2, rfl, hown, hb2⟩
  go_wp2_with fail
  go_ret2
  refine ⟨a2, c2, rfl, ⟨_, hb1.size, hown⟩, ?_, below_on hb1 hb2⟩
  obtain ⟨a3, c3, he, _, hS2⟩ := steps_own hown (fun s hs => Nat.le_trans (hsz s hs) (by omega))
  injection he with e1 e2 e3
  subst e1 e3
  exact hS2
end Go.Proofs.YtolgikojliedlaeDoor
