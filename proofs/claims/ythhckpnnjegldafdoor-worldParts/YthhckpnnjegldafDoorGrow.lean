/-
  Contracts of package grow over this seat's dump: whole, seals, Of.
-/
import Derived.Test.YthhckpnnjegldafDoorOwn
import Derived.Test.YthhckpnnjegldafDoorMaths
namespace Go.Proofs.YthhckpnnjegldafDoor
open Go Go.RowKit

theorem infoStr : (Tryd.prog.info? 9).map (fun i => (i.zero, i.size, i.bytes)) = some (some (.string ⟨#[]⟩), 1, 16) := by kernel_rfl

/- What is told of a part that the old list has all of. -/
theorem whole_known (a : Option Addr) (n c : Nat) (w : World) :
    Calls Tryd.prog 62 #[.slice a n c, .bool true] w fun e w' => e = .returned (.tuple #[.slice none 0 0, .int .i64 0]) ∧ w = w' := by
  go_enter Tryd.func62, Tryd.ntmps62
  go_wp2_with fail
  go_ret2
  exact ⟨rfl, rfl⟩
theorem whole_new (l : List ByteArray) (a : Option Addr) (n c : Nat) (r : ByteArray) (w : World) (hn : l.length = n) (hE : Tab w) (hS : StrsAt w a c l) (hr : rootS l = some r) :
    Calls Tryd.prog 62 #[.slice a n c, .bool false] w fun e w' => ∃ g, e = .returned (.tuple #[.slice (some ⟨g, 0, none⟩) 1 1, .int .i64 0]) ∧ w'.ownsRow w.heap.size 9 1 (.slice (some ⟨g, 0, none⟩) 1 1) 1 ([r].map Value.string) ∧ Below w.heap.size w w' := by
  go_enter Tryd.func62, Tryd.ntmps62
  go_wp2_with fail
  refine (root_ok l r hr a n c w hn hE hS).mono ?_
  rintro e w1 ⟨rfl, hb1⟩
  go_wp2_with fail
  go_ret2
  exact ⟨w1.heap.size, rfl, owns_one w1 r 9 w.heap.size hb1.size, hb1.alloc hb1.size _⟩

/- The seals for m of a list that has a seal. -/
def SealsIs (k : Nat) : Prop := ∀ (l : List ByteArray) (a : Option Addr) (n c m : Nat) (kn : Bool) (r : ByteArray) (w : World), l.length = n → n ≤ k → 1 ≤ m → m ≤ n → rootS l = some r → Tab w → StrsAt w a c l →
    Calls Tryd.prog 47 #[.slice a n c, .int .i64 (m : Int), .bool kn] w fun e w' => ∃ a' c', e = .returned (.tuple #[.slice a' (growS l m kn).length c', .int .i64 0]) ∧
      w'.ownsRow w.heap.size 9 1 (.slice a' (growS l m kn).length c') (growS l m kn).length ((growS l m kn).map Value.string) ∧ Below w.heap.size w w'

set_option maxRecDepth 100000 in
theorem seals_is (k : Nat) : SealsIs k := by
  induction k with
  | zero => intro l a n c m kn r w hn hk h1 hm; omega
  | succ k ih =>
    intro l a n c m kn r w hn hk h1 hm hr hE hS
    have hcap := hS.cap
    have hmax := hS.max
    rcases Nat.lt_or_ge m n with hlt | hge
    · have h2 : 2 ≤ n := by omega
      obtain ⟨h24, u, v, hu, hv, hnode⟩ := rootS_some_two (by omega) hr
      obtain ⟨b, off, rfl, hbl, hc⟩ := hS.cells (by omega)
      have hpl := fun h => @growS_low l m (by omega) (by omega) h kn
      have hph := fun h => @growS_high l m (by omega) (by omega) h kn
      rw [hn] at hu hv h24 hpl hph
      rw [(root_pos hv).1] at hpl
      rw [(root_pos hu).1] at hph
      have hh := halfN_lt h2
      have hp := halfN_pos n
      have hne : ¬ c = halfN n := by omega
      have hmn : ¬ m = n := by omega
      have l1 : (l.take (halfN n)).length = halfN n := by rw [List.length_take]; omega
      have l2 : (l.drop (halfN n)).length = n - halfN n := by rw [List.length_drop]; omega
      have hS1 := hS.take (halfN n)
      have hS2 := hS.drop (halfN n)
      obtain ⟨i0, hi0, hz0, hz1, hz2⟩ := info_parts infoStr
      have g1 : (0 : Int) ≤ (halfN n : Int) := by omega
      have g2 : (halfN n : Int) ≤ (c : Int) := by omega
      have g3 : (halfN n : Int) ≤ (n : Int) := by omega
      clear hc
      rcases Nat.lt_or_ge (halfN n) m with hhigh | hlow
      · have ihc := fun w' => ih (l.drop (halfN n)) (some ⟨b, off + halfN n, none⟩) (n - halfN n) (c - halfN n) (m - halfN n) false v w' l2 (by omega) (by omega) (by omega) hv
        have hle : (growS (l.drop (halfN n)) (m - halfN n) false).length ≤ 23 := by
          have := growS_len n (l.drop (halfN n)) (m - halfN n) false (by omega) (by omega)
          omega
        rw [hph hhigh]
        simp only [show ((m - halfN n : Nat) : Int) = (m : Int) - (halfN n : Int) by omega] at ihc
        generalize growS (l.drop (halfN n)) (m - halfN n) false = L at ihc hle
        have hif : (halfN n : Int) < (m : Int) := by omega
        clear ih hpl hph
        go_enter Tryd.func47, Tryd.ntmps47
        go_wp2_with fail
        refine (half_ok n w h2 h24).mono ?_
        rintro e w1 ⟨rfl, rfl⟩
        go_wp2_with fail
        go_quiet (fail)
        have hq := below_drewN (Below.refl w.heap.size w) nq
        go_wp2_with fail
        refine (ihc _ (hE.on hq) (hS2.on hq)).mono ?_
        rintro e w1 ⟨a1, c1, rfl, hown, hb1⟩
        have hown := hown.mono hq.size
        have hb1 := below_on hq hb1
        have hE1 := hE.on hb1
        have hS3 := hS1.on hb1
        clear ihc hq hS hS1 hS2
        go_wp2_with fail
        refine (root_ok (l.take (halfN n)) u hu _ _ _ w1 l1 hE1 hS3).mono ?_
        rintro e w2 ⟨rfl, hb2⟩
        have hown := owns_on hown hb2
        have hb2 := below_on hb1 hb2
        clear hb1 hE1 hS3
        go_wp2_with (at_builtin; refine wpList_append_lies _ rfl _ _ 25 rfl w.heap.size 9 i0 (.string ⟨#[]⟩) 1 16 Tryd.underlying25 hi0 hz0 hz1 hz2 rfl (by decide) _ _ _ rfl (hown.alloc _) ⟨w2.heap.size, 0, none⟩ 1 1 [.string u] rfl rfl ?c1 ?c2 (by omega) ?c3 ?c4 ?c5 _ rfl ?_)
        case c1 => exact World.news_of_block (cs := #[.string u]) (t := 9) (fr := (0, 0)) (by show (w2.heap.push _)[w2.heap.size]? = _; simp)
        case c2 => intro u hu; rw [List.mem_singleton.1 hu]; rfl
        case c3 => unfold maxLen; omega
        case c4 => omega
        case c5 => show _ ≤ (w2.heap.push _).size; rw [Array.size_push]; have := hb2.size; omega
        intro g cap w3 hown3 hgrow _ _
        have hb3 := own_below hb2 hb2.size hown (Nat.le_refl _) hgrow
        go_wp2_with fail
        go_ret2
        refine ⟨some ⟨g, 0, none⟩, cap, ?_, ?_, hb3⟩
        · rw [List.length_append]; rfl
        · rw [List.length_append, List.map_append]; exact hown3
      · have ihc := fun w' => ih (l.take (halfN n)) (some ⟨b, off, none⟩) (halfN n) c m kn u w' l1 (by omega) h1 hlow hu
        have hle : (growS (l.take (halfN n)) m kn).length ≤ 23 := by
          have := growS_len n (l.take (halfN n)) m kn (by omega) (by omega)
          omega
        rw [hpl hlow]
        generalize growS (l.take (halfN n)) m kn = L at ihc hle
        have hif : ¬ (halfN n : Int) < (m : Int) := by omega
        clear ih hpl hph
        go_enter Tryd.func47, Tryd.ntmps47
        go_wp2_with fail
        refine (half_ok n w h2 h24).mono ?_
        rintro e w1 ⟨rfl, rfl⟩
        go_wp2_with fail
        go_quiet (fail)
        have hq := below_drewN (Below.refl w.heap.size w) nq
        go_wp2_with fail
        refine (ihc _ (hE.on hq) (hS1.on hq)).mono ?_
        rintro e w1 ⟨a1, c1, rfl, hown, hb1⟩
        have hown := hown.mono hq.size
        have hb1 := below_on hq hb1
        have hE1 := hE.on hb1
        have hS3 := hS2.on hb1
        clear ihc hq hS hS1 hS2
        go_wp2_with fail
        refine (root_ok (l.drop (halfN n)) v hv _ _ _ w1 l2 hE1 hS3).mono ?_
        rintro e w2 ⟨rfl, hb2⟩
        have hown := owns_on hown hb2
        have hb2 := below_on hb1 hb2
        clear hb1 hE1 hS3
        go_wp2_with (at_builtin; refine wpList_append_lies _ rfl _ _ 25 rfl w.heap.size 9 i0 (.string ⟨#[]⟩) 1 16 Tryd.underlying25 hi0 hz0 hz1 hz2 rfl (by decide) _ _ _ rfl (hown.alloc _) ⟨w2.heap.size, 0, none⟩ 1 1 [.string v] rfl rfl ?c1 ?c2 (by omega) ?c3 ?c4 ?c5 _ rfl ?_)
        case c1 => exact World.news_of_block (cs := #[.string v]) (t := 9) (fr := (0, 0)) (by show (w2.heap.push _)[w2.heap.size]? = _; simp)
        case c2 => intro u hu; rw [List.mem_singleton.1 hu]; rfl
        case c3 => unfold maxLen; omega
        case c4 => omega
        case c5 => show _ ≤ (w2.heap.push _).size; rw [Array.size_push]; have := hb2.size; omega
        intro g cap w3 hown3 hgrow _ _
        have hb3 := own_below hb2 hb2.size hown (Nat.le_refl _) hgrow
        go_wp2_with fail
        go_ret2
        refine ⟨some ⟨g, 0, none⟩, cap, ?_, ?_, hb3⟩
        · rw [List.length_append]; rfl
        · rw [List.length_append, List.map_append]; exact hown3
    · obtain rfl : m = n := by omega
      rw [growS_all (Or.inr (by omega))]
      cases kn with
      | true =>
        go_enter Tryd.func47, Tryd.ntmps47
        go_wp2_with fail
        refine (whole_known a m c w).mono ?_
        rintro e w1 ⟨rfl, rfl⟩
        go_wp2_with fail
        go_ret2
        exact ⟨none, 0, rfl, World.ownsRow_nil _ _ _ _, Below.refl _ _⟩
      | false =>
        rw [(root_pos hr).1]
        go_enter Tryd.func47, Tryd.ntmps47
        go_wp2_with fail
        refine (whole_new l a m c r w hn hE hS hr).mono ?_
        rintro e w1 ⟨g, rfl, hown, hb1⟩
        go_wp2_with fail
        go_ret2
        exact ⟨_, 1, rfl, hown, hb1⟩
/- Of. -/
theorem growOf_no (l : List ByteArray) (a : Option Addr) (n c : Nat) (m : Int) (w : World) (hn : l.length = n) (hE : Tab w) (hS : StrsAt w a c l) (hr : rootS l = none) :
    Calls Tryd.prog 30 #[.slice a n c, .int .i64 m] w fun e w' => e = .returned (.tuple #[.slice none 0 0, .int .i64 2]) ∧ Below w.heap.size w w' := by
  go_enter Tryd.func30, Tryd.ntmps30
  go_wp2_with fail
  refine (root_no l hr a n c w hn hE hS).mono ?_
  rintro e w1 ⟨rfl, hb1⟩
  go_wp2_with fail
  go_ret2
  exact ⟨rfl, hb1⟩
theorem growOf_range (l : List ByteArray) (a : Option Addr) (n c : Nat) (m : Int) (r : ByteArray) (w : World) (hn : l.length = n) (hE : Tab w) (hS : StrsAt w a c l) (hr : rootS l = some r) (hm : m < 1 ∨ (n : Int) < m) :
    Calls Tryd.prog 30 #[.slice a n c, .int .i64 m] w fun e w' => e = .returned (.tuple #[.slice none 0 0, .int .i64 3]) ∧ Below w.heap.size w w' := by
  have hcap := hS.cap
  have hmax := hS.max
  rcases Int.lt_or_le m 1 with h0 | h0
  · go_enter Tryd.func30, Tryd.ntmps30
    go_wp2_with fail
    refine (root_ok l r hr a n c w hn hE hS).mono ?_
    rintro e w1 ⟨rfl, hb1⟩
    go_wp2_with fail
    go_ret2
    exact ⟨rfl, hb1⟩
  · have h1 : (n : Int) < m := by omega
    have h2 : ¬ m < 1 := by omega
    clear hm
    go_enter Tryd.func30, Tryd.ntmps30
    go_wp2_with fail
    refine (root_ok l r hr a n c w hn hE hS).mono ?_
    rintro e w1 ⟨rfl, hb1⟩
    go_wp2_with fail
    go_ret2
    exact ⟨rfl, hb1⟩
theorem growOf_ok (l : List ByteArray) (a : Option Addr) (n c m : Nat) (r : ByteArray) (w : World) (hn : l.length = n) (hE : Tab w) (hS : StrsAt w a c l) (hr : rootS l = some r) (h1 : 1 ≤ m) (hm : m ≤ n) :
    Calls Tryd.prog 30 #[.slice a n c, .int .i64 (m : Int)] w fun e w' => ∃ a' c', e = .returned (.tuple #[.slice a' (growS l m true).length c', .int .i64 0]) ∧ (∃ B, w.heap.size ≤ B ∧ w'.ownsRow B 9 1 (.slice a' (growS l m true).length c') (growS l m true).length ((growS l m true).map Value.string)) ∧ StrsAt w' a' c' (growS l m true) ∧ Below w.heap.size w w' := by
  have hcap := hS.cap
  have hmax := hS.max
  have g1 : ¬ (m : Int) < 1 := by omega
  have g2 : ¬ (n : Int) < (m : Int) := by omega
  have hsz := growS_size l.length l m true (Nat.le_refl _)
  have hc := fun w' => seals_is n l a n c m true r w' hn (Nat.le_refl _) h1 hm hr
  generalize growS l m true = L at hc hsz
  go_enter Tryd.func30, Tryd.ntmps30
  go_wp2_with fail
  refine (root_ok l r hr a n c w hn hE hS).mono ?_
  rintro e w1 ⟨rfl, hb1⟩
  go_wp2_with fail
  refine (hc w1 (hE.on hb1) (hS.on hb1)).mono ?_
  rintro e w2 ⟨a2, c2, rfl, hown, hb2⟩
  go_wp2_with fail
  go_ret2
  exact ⟨a2, c2, rfl, ⟨_, hb1.size, hown⟩, (owned_strs hown (fun s hs => Nat.le_trans (hsz s hs) (by omega))).2, below_on hb1 hb2⟩
end Go.Proofs.YthhckpnnjegldafDoor
