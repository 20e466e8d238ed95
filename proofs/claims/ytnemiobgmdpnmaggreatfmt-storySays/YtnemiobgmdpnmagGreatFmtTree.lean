/-
  Contracts of package tree over this seat's dump: Half, Root, and what a slice of texts is in memory.
-/
import Derived.Test.YtnemiobgmdpnmagGreatFmtSeal
import Derived.Test.YtnemiobgmdpnmagGreatFmtMaths
import Derived.LoopTactic
namespace Go.Proofs.YtnemiobgmdpnmagGreatFmt
open Go Go.RowKit

/- A slice of texts: its address and capacity, and the texts. -/
structure StrsAt (w : World) (a : Option Addr) (c : Nat) (l : List ByteArray) : Prop where
  cap : l.length ≤ c
  max : c ≤ 9223372036854775807
  sz : ∀ s ∈ l, s.size ≤ 9223372036854775807
  cells : 0 < l.length → ∃ b off, a = some ⟨b, off, none⟩ ∧ b < w.heap.size ∧ ∀ i, i < l.length → w.cell? ⟨b, off + i, none⟩ = some (.string (l.getD i ByteArray.empty))

theorem StrsAt.on {w w' : World} {a : Option Addr} {c : Nat} {l : List ByteArray} (h : StrsAt w a c l) (hb : Below w.heap.size w w') : StrsAt w' a c l := by
  refine ⟨h.cap, h.max, h.sz, fun hp => ?_⟩
  obtain ⟨b, off, ha, hlt, hc⟩ := h.cells hp
  exact ⟨b, off, ha, Nat.lt_of_lt_of_le hlt hb.size, fun i hi => by rw [hb.cell hlt]; exact hc i hi⟩

theorem StrsAt.take {w : World} {b off c : Nat} {l : List ByteArray} (h : StrsAt w (some ⟨b, off, none⟩) c l) (k : Nat) : StrsAt w (some ⟨b, off, none⟩) c (l.take k) := by
  have hl : (l.take k).length ≤ l.length := by rw [List.length_take]; omega
  refine ⟨by have := h.cap; omega, h.max, fun s hs => h.sz s (List.mem_of_mem_take hs), fun hp => ?_⟩
  obtain ⟨b', off', ha, hlt, hc⟩ := h.cells (by omega)
  injection ha with ha
  injection ha with e1 e2
  subst e1 e2
  refine ⟨b, off, rfl, hlt, fun i hi => ?_⟩
  have hi' : i < k := by rw [List.length_take] at hi; omega
  rw [hc i (by omega)]
  simp [hi', List.getD_eq_getElem?_getD]

theorem StrsAt.drop {w : World} {b off c : Nat} {l : List ByteArray} (h : StrsAt w (some ⟨b, off, none⟩) c l) (k : Nat) : StrsAt w (some ⟨b, off + k, none⟩) (c - k) (l.drop k) := by
  have hl : (l.drop k).length = l.length - k := by rw [List.length_drop]
  refine ⟨by have := h.cap; omega, by have := h.max; omega, fun s hs => h.sz s (List.mem_of_mem_drop hs), fun hp => ?_⟩
  obtain ⟨b', off', ha, hlt, hc⟩ := h.cells (by omega)
  injection ha with ha
  injection ha with e1 e2
  subst e1 e2
  refine ⟨b, off + k, rfl, hlt, fun i hi => ?_⟩
  rw [show off + k + i = off + (k + i) by omega, hc (k + i) (by omega)]
  simp [List.getD_eq_getElem?_getD]

/- Half. -/
theorem half_no (n : Int) (w : World) (h : n < 2 ∨ 24 < n) :
    Calls Tryz.prog 56 #[.int .i64 n] w fun e w' => e = .returned (.tuple #[.int .i64 0, .int .i64 3]) ∧ w = w' := by
  rcases h with h | h
  · go_enter Tryz.func56, Tryz.ntmps56
    go_wp2
    go_ret2
    exact ⟨rfl, rfl⟩
  · have h2 : ¬ n < 2 := by omega
    go_enter Tryz.func56, Tryz.ntmps56
    go_wp2
    go_ret2
    exact ⟨rfl, rfl⟩

theorem half_ok (n : Nat) (w : World) (h : 2 ≤ n) (h' : n ≤ 24) :
    Calls Tryz.prog 56 #[.int .i64 (n : Int)] w fun e w' => e = .returned (.tuple #[.int .i64 (halfN n : Int), .int .i64 0]) ∧ w = w' := by
  go_enter Tryz.func56, Tryz.ntmps56
  go_wp2
  go_loop [4] (fun i => ∃ k : Nat, k < n ∧ (k = 1 ∨ k = 2 ∨ k = 4 ∨ k = 8 ∨ k = 16) ∧ i = .int .i64 k) (fun i => n - (intOf i).toNat)
  case atStart => exact ⟨1, by omega, by omega, rfl⟩
  case round =>
    obtain ⟨k, hk, hc, rfl⟩ := hrel
    go_wp2
    · go_round
      case rel => exact ⟨k * 2, by omega, by omega, by go_num⟩
      case measure => simp [intOf]; omega
    · go_ret2
      refine ⟨?_, rfl⟩
      have : k = halfN n := by
        unfold halfN
        split <;> (try split) <;> (try split) <;> (try split) <;> omega
      rw [this]
      rfl

/- Root, by induction on the number of texts. -/
def RootIs (k : Nat) : Prop := ∀ (l : List ByteArray) (a : Option Addr) (n c : Nat) (w : World), l.length = n → n ≤ k → Tab w → StrsAt w a c l →
    Calls Tryz.prog 35 #[.slice a n c] w fun e w' => e = .returned (.tuple #[.string (rootV l), .int .i64 (rootE l)]) ∧ Below w.heap.size w w'

theorem pair_any (k : Nat) (ih : RootIs k) (l : List ByteArray) (a : Option Addr) (n c : Nat) (w : World) (hn : l.length = n) (h2 : 2 ≤ n) (h24 : n ≤ 24) (hk : n ≤ k + 1) (hE : Tab w) (hS : StrsAt w a c l) :
    Calls Tryz.prog 47 #[.slice a n c] w fun e w' => e = .returned (.tuple #[.string (rootV l), .int .i64 (rootE l)]) ∧ Below w.heap.size w w' := by
  obtain ⟨b, off, rfl, hlt, hc⟩ := hS.cells (by omega)
  have hcap := hS.cap
  have hmax := hS.max
  have hh := halfN_lt h2
  have hp := halfN_pos n
  have hr := rootS_two (l := l) (by omega) (by omega)
  have hS1 := hS.take (halfN n)
  have hS2 := hS.drop (halfN n)
  rw [hn] at hr
  have hne : ¬ c = halfN n := by omega
  have l1 : (l.take (halfN n)).length = halfN n := by rw [List.length_take]; omega
  have l2 : (l.drop (halfN n)).length = n - halfN n := by rw [List.length_drop]; omega
  clear hc
  go_enter Tryz.func47, Tryz.ntmps47
  go_wp2_with fail
  refine (half_ok n w h2 h24).mono ?_
  rintro e w1 ⟨rfl, rfl⟩
  go_wp2_with fail
  refine (ih _ _ _ _ w l1 (by omega) hE hS1).mono ?_
  rintro e w1 ⟨rfl, hb1⟩
  have hE1 := hE.on hb1
  have hS2' := hS2.on hb1
  rcases ha : rootS (l.take (halfN n)) with _ | x
  · obtain ⟨e1, e2⟩ := root_neg ha
    rw [ha, Option.bind_none] at hr
    obtain ⟨e3, e4⟩ := root_neg hr
    rw [e1, e2]
    clear hr ha e1 e2
    go_wp2_with fail
    go_ret2
    exact ⟨by rw [e3, e4]; rfl, hb1⟩
  obtain ⟨e1, e2⟩ := root_pos ha
  rw [ha, Option.bind_some] at hr
  rw [e1, e2]
  have hx := rootS_size ha
  clear ha e1 e2
  go_wp2_with fail
  refine (ih _ _ _ _ w1 l2 (by omega) hE1 hS2').mono ?_
  rintro e w2 ⟨rfl, hb2⟩
  have hE2 := hE1.on hb2
  rcases ha : rootS (l.drop (halfN n)) with _ | y
  · obtain ⟨e1, e2⟩ := root_neg ha
    rw [ha, Option.bind_none] at hr
    obtain ⟨e3, e4⟩ := root_neg hr
    rw [e1, e2]
    clear hr ha e1 e2
    go_wp2_with fail
    go_ret2
    exact ⟨by rw [e3, e4]; rfl, below_on hb1 hb2⟩
  obtain ⟨e1, e2⟩ := root_pos ha
  rw [ha, Option.bind_some] at hr
  rw [e1, e2]
  have hy := rootS_size ha
  clear ha e1 e2
  rcases hN : nodeO x y with _ | z
  · have hlong := nodeO_none hN
    rw [hN] at hr
    obtain ⟨e3, e4⟩ := root_neg hr
    clear hr hN
    go_wp2_with fail
    refine (node_many x y w2 (by omega) hlong).mono ?_
    rintro e w3 ⟨rfl, rfl⟩
    go_wp2_with fail
    go_ret2
    exact ⟨by rw [e3, e4]; rfl, below_on hb1 hb2⟩
  · obtain ⟨hshort, rfl⟩ := nodeO_some hN
    rw [hN] at hr
    obtain ⟨e3, e4⟩ := root_pos hr
    clear hr hN
    go_wp2_with fail
    refine (node_tab x y w2 hE2 hshort).mono ?_
    rintro e w3 ⟨rfl, hb3⟩
    go_wp2_with fail
    go_ret2
    exact ⟨by rw [e3, e4]; rfl, below_on hb1 (below_on hb2 hb3)⟩

theorem root_step (k : Nat) (ihk : 0 < k → RootIs (k - 1)) : RootIs k :=
  fun l a n c w hn hk hE hS => by
    have hcap := hS.cap
    have hmax := hS.max
    rcases Nat.lt_or_ge 24 n with h24 | h24
    · obtain ⟨e3, e4⟩ := root_neg (rootS_many (l := l) (by omega))
      rw [e3, e4]
      clear e3 e4
      go_enter Tryz.func35, Tryz.ntmps35
      go_wp2_with fail
      go_ret2
      exact ⟨rfl, Below.refl _ _⟩
    rcases Nat.eq_zero_or_pos n with h0 | h0
    · subst h0
      obtain rfl := List.length_eq_zero_iff.1 hn
      obtain ⟨e3, e4⟩ := root_pos rootS_nil
      rw [e3, e4]
      clear e3 e4
      go_enter Tryz.func35, Tryz.ntmps35
      go_wp2_with fail
      refine (none_any w).mono ?_
      rintro e w3 ⟨rfl, rfl⟩
      go_wp2_with fail
      go_ret2
      exact ⟨rfl, Below.refl _ _⟩
    rcases Nat.lt_or_ge 1 n with h1 | h1
    · have k1 : ¬ n = 1 := by omega
      have k0 : ¬ n = 0 := by omega
      have ih := ihk (by omega)
      clear ihk
      go_enter Tryz.func35, Tryz.ntmps35
      go_wp2_with fail
      refine (pair_any (k - 1) ih l a n c w hn (by omega) h24 (by omega) hE hS).mono ?_
      rintro e w3 ⟨rfl, hb⟩
      go_wp2_with fail
      go_ret2
      exact ⟨rfl, hb⟩
    · obtain rfl : n = 1 := by omega
      obtain ⟨b, off, rfl, hlt, hc⟩ := hS.cells (by omega)
      have hc0 := hc 0 (by omega)
      rw [Nat.add_zero] at hc0
      have hr := rootS_one hn
      generalize l.getD 0 ByteArray.empty = x at hc0 hr
      clear hc
      rcases hL : leafO x with _ | z
      · have hlong := leafO_none hL
        rw [hL] at hr
        obtain ⟨e3, e4⟩ := root_neg hr
        rw [e3, e4]
        clear hr hL e3 e4
        go_enter Tryz.func35, Tryz.ntmps35
        go_wp2_with fail
        refine (leaf_many x w hlong).mono ?_
        rintro e w3 ⟨rfl, rfl⟩
        go_wp2_with fail
        go_ret2
        exact ⟨rfl, Below.refl _ _⟩
      · obtain ⟨hshort, rfl⟩ := leafO_some hL
        rw [hL] at hr
        obtain ⟨e3, e4⟩ := root_pos hr
        rw [e3, e4]
        clear hr hL e3 e4
        go_enter Tryz.func35, Tryz.ntmps35
        go_wp2_with fail
        refine (leaf_ok x w hshort).mono ?_
        rintro e w3 ⟨rfl, rfl⟩
        go_wp2_with fail
        go_ret2
        exact ⟨rfl, Below.refl _ _⟩
theorem root_is (k : Nat) : RootIs k := by
  induction k with
  | zero => exact root_step 0 (fun h => absurd h (by omega))
  | succ k ih => exact root_step (k + 1) (fun _ => ih)

theorem root_any (l : List ByteArray) (a : Option Addr) (n c : Nat) (w : World) (hn : l.length = n) (hE : Tab w) (hS : StrsAt w a c l) :
    Calls Tryz.prog 35 #[.slice a n c] w fun e w' => e = .returned (.tuple #[.string (rootV l), .int .i64 (rootE l)]) ∧ Below w.heap.size w w' :=
  root_is n l a n c w hn (Nat.le_refl _) hE hS
theorem root_ok (l : List ByteArray) (s : ByteArray) (h : rootS l = some s) (a : Option Addr) (n c : Nat) (w : World) (hn : l.length = n) (hE : Tab w) (hS : StrsAt w a c l) :
    Calls Tryz.prog 35 #[.slice a n c] w fun e w' => e = .returned (.tuple #[.string s, .int .i64 0]) ∧ Below w.heap.size w w' := by
  have := root_any l a n c w hn hE hS
  rwa [(root_pos h).1, (root_pos h).2] at this
theorem root_no (l : List ByteArray) (h : rootS l = none) (a : Option Addr) (n c : Nat) (w : World) (hn : l.length = n) (hE : Tab w) (hS : StrsAt w a c l) :
    Calls Tryz.prog 35 #[.slice a n c] w fun e w' => e = .returned (.tuple #[.string ⟨#[]⟩, .int .i64 2]) ∧ Below w.heap.size w w' := by
  have := root_any l a n c w hn hE hS
  rwa [(root_neg h).1, (root_neg h).2] at this

end Go.Proofs.YtnemiobgmdpnmagGreatFmt
