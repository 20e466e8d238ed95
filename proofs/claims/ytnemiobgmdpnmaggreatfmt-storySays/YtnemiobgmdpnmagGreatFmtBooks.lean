/-
  Contracts of package trie over this seat's dump: Check, the seal of a part, Root, and the small ones.
  A map of texts by numbers that a call makes and writes.
  Contracts of package book over this seat's dump: Check, Text, Texts, Values, Put, Head.
  slices.Equal at slices of entries, whatever their addresses.
  slices.Clone at slices of entries, whatever their addresses.
  Contracts of package book: Values.
  Blocks of memory, by number; a struct among a function's results.
  Contracts of package book: with, Put.
  Contracts of package book: Put, Head.
  A book that is laid anew with one entry more, in whatever order its memory is made: steps of that.
  What a book's entries come to, gathered from behind: the same values.
  slices.Equal and slices.Clone at slices of clients, whatever their addresses.
  What a right happening needs, whoever does it: a world's box, a block of clients, what regions hold; a happening's answer kind by kind.
  What a meeting needs, whoever does it.
-/
import Derived.Test.YtnemiobgmdpnmagGreatFmtMapAt
import Derived.Test.YtnemiobgmdpnmagGreatFmtClients
import Derived.Deep.LoopGhost
import Derived.Lib.QuietBelow
import Derived.Lib.Slices
import Derived.Lib.SlicesMore
import Derived.Deep.AppendLies
import Derived.Test.YtnemiobgmdpnmagGreatFmtSeal
import Derived.Laws.CopyOwn
import Derived.Deep.MidRow
import Derived.Laws.ResultCell
import Derived.Laws.Rows
import Derived.Deep.DeepCutAuto
import Derived.Test.YtnemiobgmdpnmagGreatFmtMaths
import Derived.Deep.RegionHeld3
namespace Go.Proofs.YtnemiobgmdpnmagGreatFmt
open Go Go.RowKit Go.Maps

theorem isKey_yes (k : Nat) (h : k < 16) (w : World) :
    Calls Tryz.prog 81 #[.int .i64 (k : Int)] w fun e w' => e = .returned (.bool true) ∧ w = w' := by
  have h1 : (k : Int) < 16 := by omega
  go_enter Tryz.func81, Tryz.ntmps81
  go_wp2_with fail
  go_ret
  exact ⟨rfl, rfl⟩
theorem isKey_no (k : Int) (h : k < 0 ∨ 15 < k) (w : World) :
    Calls Tryz.prog 81 #[.int .i64 k] w fun e w' => e = .returned (.bool false) ∧ w = w' := by
  rcases Int.lt_or_le k 0 with h0 | h0
  · have h1 : ¬ 0 ≤ k := by omega
    clear h
    go_enter Tryz.func81, Tryz.ntmps81
    go_wp2_with fail
    go_ret
    exact ⟨rfl, rfl⟩
  · have h1 : ¬ k < 16 := by omega
    clear h
    go_enter Tryz.func81, Tryz.ntmps81
    go_wp2_with fail
    go_ret
    exact ⟨rfl, rfl⟩

theorem cnt_bound (D : DataW Unit) : ∀ n, cntD D n ≤ n
  | 0 => Nat.le_refl _
  | n + 1 => by
    have := cnt_bound D n
    show cntD D n + _ ≤ n + 1
    split <;> omega

/- Check. -/
theorem check_any (p : Option Nat) (D : DataW Unit) (w : World) (hM : MapAt w p D) :
    Calls Tryz.prog 49 #[.map p] w fun e w' => e = .returned (.int .i64 (checkE D)) ∧ w = w' := by
  have hT := hM.text
  have hle := cnt_le hT 16
  have hsz := hM.size
  go_enter Tryz.func49, Tryz.ntmps49
  go_wp2
  go_loop [3, 7] (fun g i => ∃ k : Nat, k ≤ 16 ∧ g = .int .i64 (cntD D k : Int) ∧ i = .int .i64 (k : Int) ∧ Hid (¬ longD D k)) (fun _ i => 16 - (intOf i).toNat)
  case atStart => exact ⟨0, by omega, rfl, rfl, fun ⟨k, h, _⟩ => absurd h (by omega)⟩
  case round =>
    obtain ⟨k, hk, rfl, rfl, hL⟩ := hrel
    rcases Nat.lt_or_ge k 16 with hlt | hge
    · have hlt' : (k : Int) < 16 := by omega
      have hv := hM.val_size (k := (k : Int)) (by omega) (by omega)
      have hc : cntD D (k + 1) = cntD D k + if (valD D (k : Int)).isSome = true then 1 else 0 := rfl
      have hck : cntD D k ≤ k := cnt_bound D k
      rcases Nat.lt_or_ge 12 (valS D (k : Int)).size with hlong | hshort
      · have hl' : (12 : Int) < ((valS D (k : Int)).size : Int) := by omega
        have hE := check_long (D := D) ⟨k, hlt, hlong⟩
        go_wp2_with (at_lookup; refine wpList_look _ rfl _ _ rfl p D rfl hM (k : Int) rfl (by omega) (by omega) ?_)
        go_ret
        exact ⟨rfl, rfl⟩
      · have hl' : ¬ (12 : Int) < ((valS D (k : Int)).size : Int) := by omega
        have hL' : ¬ longD D (k + 1) := fun h => ((longD_step D k).1 h).elim hL.out (fun h => by omega)
        have HL : Hid (¬ longD D (k + 1)) := hL'
        clear hL hL'
        cases hb : (valD D (k : Int)).isSome
        · rw [hb] at hc
          go_wp2_with (at_lookup; refine wpList_look _ rfl _ _ rfl p D rfl hM (k : Int) rfl (by omega) (by omega) ?_; rw [hb])
          go_round
          case rel => exact ⟨k + 1, by omega, by rw [hc]; rfl, rfl, HL⟩
          case measure => simp [intOf]; omega
        · rw [hb] at hc
          go_wp2_with (at_lookup; refine wpList_look _ rfl _ _ rfl p D rfl hM (k : Int) rfl (by omega) (by omega) ?_; rw [hb])
          go_round
          case rel => exact ⟨k + 1, by omega, by rw [hc]; rfl, rfl, HL⟩
          case measure => simp [intOf]; omega
    · obtain rfl : k = 16 := by omega
      by_cases hc : cntD D 16 = size D
      · have hE := check_good hL.out hc
        have hc' : (cntD D 16 : Int) = (size D : Int) := by omega
        go_wp2_with (at_len; refine wpList_count _ rfl _ rfl p D rfl hM ?_)
        go_ret
        exact ⟨rfl, rfl⟩
      · have hE := check_who hL.out hc
        have hc' : ¬ (cntD D 16 : Int) = (size D : Int) := by omega
        go_wp2_with (at_len; refine wpList_count _ rfl _ rfl p D rfl hM ?_)
        go_ret
        exact ⟨rfl, rfl⟩

/- One key. -/
theorem one_slot (o : Option ByteArray) (h : ∀ s, o = some s → s.size ≤ 20000) (w : World) :
    Calls Tryz.prog 59 #[.string (o.getD ⟨#[]⟩), .bool o.isSome] w fun e w' => e = .returned (.tuple #[.string (slotT o), .int .i64 0]) ∧ w = w' := by
  cases o with
  | none =>
    clear h
    go_enter Tryz.func59, Tryz.ntmps59
    go_wp2_with fail
    refine (none_any w).mono ?_
    rintro e w1 ⟨rfl, rfl⟩
    go_wp2_with fail
    go_ret2
    exact ⟨rfl, rfl⟩
  | some s =>
    have hs := h s rfl
    clear h
    go_enter Tryz.func59, Tryz.ntmps59
    go_wp2_with fail
    refine (leaf_ok s w hs).mono ?_
    rintro e w1 ⟨rfl, rfl⟩
    go_wp2_with fail
    go_ret2
    exact ⟨rfl, rfl⟩
theorem one_none (v : ByteArray) (w : World) :
    Calls Tryz.prog 59 #[.string v, .bool false] w fun e w' => e = .returned (.tuple #[.string noneS, .int .i64 0]) ∧ w = w' := by
  go_enter Tryz.func59, Tryz.ntmps59
  go_wp2_with fail
  refine (none_any w).mono ?_
  rintro e w1 ⟨rfl, rfl⟩
  go_wp2_with fail
  go_ret2
  exact ⟨rfl, rfl⟩
theorem one_many (v : ByteArray) (w : World) (h : 20000 < v.size) :
    Calls Tryz.prog 59 #[.string v, .bool true] w fun e w' => e = .returned (.tuple #[.string ⟨#[]⟩, .int .i64 2]) ∧ w = w' := by
  go_enter Tryz.func59, Tryz.ntmps59
  go_wp2_with fail
  refine (leaf_many v w h).mono ?_
  rintro e w1 ⟨rfl, rfl⟩
  go_wp2_with fail
  go_ret2
  exact ⟨rfl, rfl⟩

/- The seal of a part. -/
def PartIs (p : Option Nat) (D : DataW Unit) (d : Nat) : Prop := ∀ (i fi n : Nat) (w : World), n = 2 ^ d → fi = i * n → fi + n ≤ 16 → Tab w → MapAt w p D →
    Calls Tryz.prog 50 #[.map p, .int .i64 (fi : Int), .int .i64 (n : Int)] w fun e w' => e = .returned (.tuple #[.string (trieT (valN D) d i), .int .i64 0]) ∧ Below w.heap.size w w'

theorem part_is (p : Option Nat) (D : DataW Unit) (hf : Short (valN D)) (d : Nat) : d ≤ 4 → PartIs p D d := by
  induction d with
  | zero =>
    intro _ i fi n w hn hi h16 hE hM
    obtain rfl : n = 1 := hn
    obtain rfl : fi = i := by omega
    have ho := one_slot (valN D fi) (fun s hs => by have := hf fi s hs; omega) w
    change Calls Tryz.prog 59 #[.string (valS D fi), .bool (valD D fi).isSome] w _ at ho
    change Calls _ _ _ _ fun e w' => e = .returned (.tuple #[.string (slotT (valN D fi)), .int .i64 0]) ∧ _
    generalize slotT (valN D fi) = z at ho
    have HO := Lib.hid ho
    clear ho hi
    go_enter Tryz.func50, Tryz.ntmps50
    go_wp2_with (at_lookup; refine wpList_look _ rfl _ _ rfl p D rfl hM (fi : Int) rfl (by omega) (by omega) ?_)
    refine HO.out.mono ?_
    rintro e w1 ⟨rfl, rfl⟩
    go_wp2_with fail
    go_ret2
    exact ⟨rfl, Below.refl _ _⟩
  | succ d ih =>
    intro hd i fi n w hn hi h16 hE hM
    have hh : 0 < 2 ^ d := Nat.pos_of_ne_zero (by simp)
    have hn2 : n = 2 * 2 ^ d := by rw [hn, Nat.pow_succ, Nat.mul_comm]
    have ih1 := ih (by omega) (2 * i) fi (2 ^ d) w rfl (by rw [hi, hn2, ← Nat.mul_assoc, Nat.mul_comm i 2]) (by omega) hE hM
    have ih2 := fun w' => ih (by omega) (2 * i + 1) (fi + 2 ^ d) (2 ^ d) w' rfl (by rw [hi, hn2, ← Nat.mul_assoc, Nat.mul_comm i 2, Nat.add_mul, Nat.one_mul]) (by omega)
    have s1 := trieT_313 hf (d := d) (2 * i) (by omega)
    have s2 := trieT_313 hf (d := d) (2 * i + 1) (by omega)
    change Calls _ _ _ _ fun e w' => e = .returned (.tuple #[.string (nodeS (trieT (valN D) d (2 * i)) (trieT (valN D) d (2 * i + 1))), .int .i64 0]) ∧ _
    generalize trieT (valN D) d (2 * i) = x at *
    generalize trieT (valN D) d (2 * i + 1) = y at *
    generalize 2 ^ d = h at *
    clear ih hn hi
    subst hn2
    have IH1 := Lib.hid ih1
    have IH2 := Lib.hid ih2
    clear ih1 ih2
    have q1 : ¬ ((2 * h : Nat) : Int) ≤ 1 := by omega
    have q2 : ((2 * h : Nat) : Int).tdiv 2 = (h : Int) := by rw [Int.natCast_mul]; exact Int.mul_tdiv_cancel_left _ (by decide)
    go_enter Tryz.func50, Tryz.ntmps50
    go_wp2_with fail
    refine IH1.out.mono ?_
    rintro e w1 ⟨rfl, hb1⟩
    have hM1 := hM.on hb1
    have hE1 := hE.on hb1
    clear IH1 hM hE
    go_wp2_with fail
    refine (IH2.out w1 hE1 hM1).mono ?_
    rintro e w2 ⟨rfl, hb2⟩
    have hE2 := hE1.on hb2
    have hb2 := below_on hb1 hb2
    clear IH2 hM1 hE1 hb1
    go_wp2_with fail
    refine (node_tab x y w2 hE2 (by omega)).mono ?_
    rintro e w3 ⟨rfl, hb3⟩
    have hb3 := below_on hb2 hb3
    clear hb2 hE2
    go_wp2_with fail
    go_ret2
    exact ⟨rfl, hb3⟩

/- Root. -/
theorem root_good (p : Option Nat) (D : DataW Unit) (w : World) (hE : Tab w) (hM : MapAt w p D) (hG : GoodMap D) :
    Calls Tryz.prog 37 #[.map p] w fun e w' => e = .returned (.tuple #[.string (trieT (valN D) 4 0), .int .i64 0]) ∧ Below w.heap.size w w' := by
  have h0 := (check_iff hM.text).2 hG
  have hc := check_any p D w hM
  rw [h0] at hc
  have hp := part_is p D hG.short 4 (Nat.le_refl _) 0 0 16 w rfl rfl (by omega) hE hM
  generalize trieT (valN D) 4 0 = z at *
  have HC := Lib.hid hc
  have HP := Lib.hid hp
  clear hc hp h0 hE hM
  go_enter Tryz.func37, Tryz.ntmps37
  go_wp2_with fail
  refine HC.out.mono ?_
  rintro e w1 ⟨rfl, rfl⟩
  go_wp2_with fail
  refine HP.out.mono ?_
  rintro e w1 ⟨rfl, hb1⟩
  go_wp2_with fail
  go_ret2
  exact ⟨rfl, hb1⟩
theorem root_bad (p : Option Nat) (D : DataW Unit) (w : World) (hM : MapAt w p D) (c : Int) (hc : checkE D = c) (h : c ≠ 0) :
    Calls Tryz.prog 37 #[.map p] w fun e w' => e = .returned (.tuple #[.string ⟨#[]⟩, .int .i64 c]) ∧ w = w' := by
  have hk := check_any p D w hM
  rw [hc] at hk
  have HC := Lib.hid hk
  clear hc hk hM
  go_enter Tryz.func37, Tryz.ntmps37
  go_wp2_with fail
  refine HC.out.mono ?_
  rintro e w1 ⟨rfl, rfl⟩
  go_wp2_with fail
  go_ret2
  exact ⟨rfl, rfl⟩

/- The sides. -/
def UpperB (k n : Nat) : Bool := decide (k / n % 2 = 1)
theorem isUpper_any (k n : Nat) (hn : n = 1 ∨ n = 2 ∨ n = 4 ∨ n = 8) (hk : k < 16) (w : World) :
    Calls Tryz.prog 90 #[.int .i64 (k : Int), .int .i64 (n : Int)] w fun e w' => e = .returned (.bool (UpperB k n)) ∧ w = w' := by
  have q2 : ¬ (n : Int) = 0 := by omega
  have hle : k / n ≤ k := Nat.div_le_self _ _
  have q1 : ((wrap64 ((k : Int) / n)).tmod 2 == 1) = UpperB k n := by
    unfold UpperB
    rw [← Int.natCast_ediv]
    generalize k / n = q at hle ⊢
    rw [IntWalk.wrap64_in _ (by omega), show (2 : Int) = ((2 : Nat) : Int) by rfl, ← Int.ofNat_tmod, Bool.eq_iff_iff, beq_iff_eq, decide_eq_true_eq]
    omega
  go_enter Tryz.func90, Tryz.ntmps90
  go_wp2_with fail
  go_ret
  exact ⟨rfl, rfl⟩

/- The first key of the part beside. -/
theorem beside_any (k h n : Nat) (hn : n = 2 ^ h) (hh : h < 4) (hk : k < 16) (w : World) :
    Calls Tryz.prog 82 #[.int .i64 (k : Int), .int .i64 (n : Int)] w fun e w' => e = .returned (.int .i64 ((sibN (k / n) * n : Nat) : Int)) ∧ w = w' := by
  have hn' : n = 1 ∨ n = 2 ∨ n = 4 ∨ n = 8 := by
    subst hn
    match h, hh with
    | 0, _ => exact .inl rfl
    | 1, _ => exact .inr (.inl rfl)
    | 2, _ => exact .inr (.inr (.inl rfl))
    | 3, _ => exact .inr (.inr (.inr rfl))
  have hU := isUpper_any k n hn' hk
  have q2 : ¬ (n : Int) = 0 := by omega
  have q3 : (0 : Int) ≤ (k : Int) % n := by omega
  have q4 : (k : Int) % n ≤ k := by have := Nat.mod_le k n; omega
  have q5 : (n : Int) ≤ 8 := by omega
  have HU := Lib.hid hU
  clear hU
  cases hb : UpperB k n
  · have hs : (k : Int) - (k : Int) % n + n = ((sibN (k / n) * n : Nat) : Int) := by
      unfold UpperB at hb
      unfold sibN
      rw [decide_eq_false_iff_not] at hb
      rw [if_pos (by omega)]
      rcases hn' with rfl | rfl | rfl | rfl <;> omega
    generalize sibN (k / n) * n = r at *
    rw [hb] at HU
    have HS := Lib.hid hs
    clear hn' hh hn hs hb
    go_enter Tryz.func82, Tryz.ntmps82
    go_wp2_with fail
    refine (HU.out w).mono ?_
    rintro e w1 ⟨rfl, rfl⟩
    go_wp2_with fail
    go_ret
    exact ⟨congrArg (fun b => Ending.returned (.int .i64 b)) HS.out, rfl⟩
  · have hs : (k : Int) - (k : Int) % n - n = ((sibN (k / n) * n : Nat) : Int) := by
      unfold UpperB at hb
      unfold sibN
      rw [decide_eq_true_eq] at hb
      rw [if_neg (by omega)]
      rcases hn' with rfl | rfl | rfl | rfl <;> omega
    generalize sibN (k / n) * n = r at *
    rw [hb] at HU
    have HS := Lib.hid hs
    clear hn' hh hn hs hb
    go_enter Tryz.func82, Tryz.ntmps82
    go_wp2_with fail
    refine (HU.out w).mono ?_
    rintro e w1 ⟨rfl, rfl⟩
    go_wp2_with fail
    go_ret
    exact ⟨congrArg (fun b => Ending.returned (.int .i64 b)) HS.out, rfl⟩
theorem sib_lt {k h : Nat} (hh : h < 4) (hk : k < 16) : sibN (k / 2 ^ h) * 2 ^ h + 2 ^ h ≤ 16 := by
  unfold sibN
  match h, hh with
  | 0, _ => split <;> simp <;> omega
  | 1, _ => split <;> simp <;> omega
  | 2, _ => split <;> simp <;> omega
  | 3, _ => split <;> simp <;> omega

/- A seal up. -/
theorem join_up (k h n : Nat) (hn : n = 2 ^ h) (hh : h < 4) (hk : k < 16) (x s z : ByteArray) (w : World) (hE : Tab w) (hz : sideT (k / n) x s = some z) :
    Calls Tryz.prog 83 #[.int .i64 (k : Int), .int .i64 (n : Int), .string x, .string s] w fun e w' => e = .returned (.tuple #[.string z, .int .i64 0]) ∧ Below w.heap.size w w' := by
  have hn' : n = 1 ∨ n = 2 ∨ n = 4 ∨ n = 8 := by
    subst hn
    match h, hh with
    | 0, _ => exact .inl rfl
    | 1, _ => exact .inr (.inl rfl)
    | 2, _ => exact .inr (.inr (.inl rfl))
    | 3, _ => exact .inr (.inr (.inr rfl))
  have HU := Lib.hid (isUpper_any k n hn' hk w)
  unfold sideT at hz
  cases hb : UpperB k n
  · rw [hb] at HU
    unfold UpperB at hb
    rw [decide_eq_false_iff_not] at hb
    rw [if_pos (by omega)] at hz
    obtain ⟨hsz, rfl⟩ := nodeO_some hz
    clear hn hn' hz hb
    go_enter Tryz.func83, Tryz.ntmps83
    go_wp2_with fail
    refine HU.out.mono ?_
    rintro e w1 ⟨rfl, rfl⟩
    go_wp2_with fail
    refine (node_tab x s w hE hsz).mono ?_
    rintro e w1 ⟨rfl, hb1⟩
    go_wp2_with fail
    go_ret2
    exact ⟨rfl, hb1⟩
  · rw [hb] at HU
    unfold UpperB at hb
    rw [decide_eq_true_eq] at hb
    rw [if_neg (by omega)] at hz
    obtain ⟨hsz, rfl⟩ := nodeO_some hz
    clear hn hn' hz hb
    go_enter Tryz.func83, Tryz.ntmps83
    go_wp2_with fail
    refine HU.out.mono ?_
    rintro e w1 ⟨rfl, rfl⟩
    go_wp2_with fail
    refine (node_tab s x w hE hsz).mono ?_
    rintro e w1 ⟨rfl, hb1⟩
    go_wp2_with fail
    go_ret2
    exact ⟨rfl, hb1⟩
theorem join_not (k h n : Nat) (hn : n = 2 ^ h) (hh : h < 4) (hk : k < 16) (x s : ByteArray) (w : World) (hx : x.size ≤ 9223372036854775807) (hs : s.size ≤ 9223372036854775807) (hz : sideT (k / n) x s = none) :
    Calls Tryz.prog 83 #[.int .i64 (k : Int), .int .i64 (n : Int), .string x, .string s] w fun e w' => e = .returned (.tuple #[.string ⟨#[]⟩, .int .i64 2]) ∧ w = w' := by
  have hn' : n = 1 ∨ n = 2 ∨ n = 4 ∨ n = 8 := by
    subst hn
    match h, hh with
    | 0, _ => exact .inl rfl
    | 1, _ => exact .inr (.inl rfl)
    | 2, _ => exact .inr (.inr (.inl rfl))
    | 3, _ => exact .inr (.inr (.inr rfl))
  have HU := Lib.hid (isUpper_any k n hn' hk w)
  unfold sideT at hz
  cases hb : UpperB k n
  · rw [hb] at HU
    unfold UpperB at hb
    rw [decide_eq_false_iff_not] at hb
    rw [if_pos (by omega)] at hz
    have hsz := nodeO_none hz
    clear hn hn' hz hb
    go_enter Tryz.func83, Tryz.ntmps83
    go_wp2_with fail
    refine HU.out.mono ?_
    rintro e w1 ⟨rfl, rfl⟩
    go_wp2_with fail
    refine (node_many x s w hs hsz).mono ?_
    rintro e w1 ⟨rfl, rfl⟩
    go_wp2_with fail
    go_ret2
    exact ⟨rfl, rfl⟩
  · rw [hb] at HU
    unfold UpperB at hb
    rw [decide_eq_true_eq] at hb
    rw [if_neg (by omega)] at hz
    have hsz := nodeO_none hz
    clear hn hn' hz hb
    go_enter Tryz.func83, Tryz.ntmps83
    go_wp2_with fail
    refine HU.out.mono ?_
    rintro e w1 ⟨rfl, rfl⟩
    go_wp2_with fail
    refine (node_many s x w hx hsz).mono ?_
    rintro e w1 ⟨rfl, rfl⟩
    go_wp2_with fail
    go_ret2
    exact ⟨rfl, rfl⟩
end Go.Proofs.YtnemiobgmdpnmagGreatFmt
namespace Go.Proofs.YtnemiobgmdpnmagGreatFmt
open Go Go.RowKit Go.Maps

section
variable (w : World) {ops : Array Oper} {rest : List Oper} {o : Oper} {a : Act} {Q : Exit → Act → World → Prop}
theorem wp_insert {K : Act → World → Prop} (m x v : Operand) (hop : o.op = Op.insert 64 m x v) (b n : Nat) (D : DataW Unit) (hm : a.eval m = .map (some b)) (hown : w.ownsMap Tryz.prog 3 (plainElem Tryz.prog 9) b n D) (hn : n < maxLen)
    (k : Int) (hx : a.eval x = .int .i64 k) (hk : -9223372036854775808 ≤ k) (hk' : k ≤ 9223372036854775807) (s : ByteArray) (hv : a.eval v = .string s) (hs : s.size ≤ maxLen)
    (hK : ∀ w', w'.ownsMap Tryz.prog 3 (plainElem Tryz.prog 9) b (n + 1) (D.put (.int .i64 k) (.lit (.string s.data.toList))) → w.grownBy w' (some b) → K (a.put o.dst undef) w') :
    o.wp Tryz.prog a w K Q := by
  obtain ⟨w', hrun, r1, r2⟩ := hown.update keyed Tryz.underlying64 hn (keyIs hk hk') (plainElem_string Tryz.underlying9 hs)
  unfold Oper.wp
  simp [execOp, hop, hm, hx, hv, hrun, Result.andThen]
  exact hK w' r1 r2
theorem wpList_insert (hg : o.guard = none) (m x v : Operand) (hop : o.op = Op.insert 64 m x v) (b n : Nat) (D : DataW Unit) (hm : a.eval m = .map (some b)) (hown : w.ownsMap Tryz.prog 3 (plainElem Tryz.prog 9) b n D) (hn : n < maxLen)
    (k : Int) (hx : a.eval x = .int .i64 k) (hk : -9223372036854775808 ≤ k) (hk' : k ≤ 9223372036854775807) (s : ByteArray) (hv : a.eval v = .string s) (hs : s.size ≤ maxLen)
    (hK : ∀ w', w'.ownsMap Tryz.prog 3 (plainElem Tryz.prog 9) b (n + 1) (D.put (.int .i64 k) (.lit (.string s.data.toList))) → w.grownBy w' (some b) → wpList Tryz.prog ops Q rest (a.put o.dst undef) w') :
    wpList Tryz.prog ops Q (o :: rest) a w :=
  wpList_plain hg fun _ hK' => wp_insert w m x v hop b n D hm hown hn k hx hk hk' s hv hs (fun w' h1 h2 => hK' _ _ (hK w' h1 h2))
theorem wp_look1 {K : Act → World → Prop} (m x : Operand) (hop : o.op = Op.lookup 64 m x false) (p : Option Nat) (D : DataW Unit) (hm : a.eval m = .map p) (hM : MapAt w p D) (k : Int) (hx : a.eval x = .int .i64 k)
    (hk : -9223372036854775808 ≤ k) (hk' : k ≤ 9223372036854775807) (hK : K (a.put o.dst (.string (valS D k))) w) :
    o.wp Tryz.prog a w K Q := by
  unfold Oper.wp
  simp [execOp, hop, hm, hx, hM.look1 hk hk', Result.andThen]
  exact hK
end

theorem made_owns (w : World) : (w.alloc (.map #[] 0)).ownsMap Tryz.prog 3 (plainElem (H := Unit) Tryz.prog 9) w.heap.size 0 (.map []) := World.ownsMap_made w _ _ _
theorem made_below {w w' : World} (hg : (w.alloc (.map #[] 0)).grownBy w' (some w.heap.size)) : Below w.heap.size w w' :=
  ((Below.refl w.heap.size w).alloc (Nat.le_refl _) _).grown hg (by show _ ≤ (w.heap.push _).size; rw [Array.size_push]; omega) (fun j hj => by cases hj; exact Nat.le_refl _)
theorem MapAt.of {w : World} {b n : Nat} {D : DataW Unit} (h : w.ownsMap Tryz.prog 3 (plainElem Tryz.prog 9) b n D) : MapAt w (some b) D := .inr ⟨b, n, rfl, h⟩
end Go.Proofs.YtnemiobgmdpnmagGreatFmt
namespace Go.Proofs.YtnemiobgmdpnmagGreatFmt
open Go Go.RowKit Go.Maps

/- checkEntry. -/
set_option maxRecDepth 100000 in
theorem checkEntry_any (k : Int) (v : ByteArray) (w : World) :
    Calls Tryz.prog 38 #[.agg #[.int .i64 k, .string v]] w fun e w' => e = .returned (.int .i64 (entryE (k, v))) ∧ Below w.heap.size w w' := by
  rcases Int.lt_or_le k 0 with h0 | h0
  · rw [entry_who (e := (k, v)) (.inl h0)]
    go_enter Tryz.func38, Tryz.ntmps38
    go_wp2_with fail
    go_ret
    exact ⟨rfl, (Below.refl _ _).alloc (Nat.le_refl _) _⟩
  have g0 : ¬ k < 0 := by omega
  rcases Int.lt_or_le k 16 with h1 | h1
  · have g1 : ¬ 16 ≤ k := by omega
    by_cases hv : 12 < v.size
    · rw [entry_many (e := (k, v)) (by simp only; omega) hv]
      go_enter Tryz.func38, Tryz.ntmps38
      go_wp2_with fail
      go_ret
      exact ⟨rfl, (Below.refl _ _).alloc (Nat.le_refl _) _⟩
    · rw [entry_ok (e := (k, v)) (by simp only; omega) hv]
      go_enter Tryz.func38, Tryz.ntmps38
      go_wp2_with fail
      go_ret
      exact ⟨rfl, (Below.refl _ _).alloc (Nat.le_refl _) _⟩
  · rw [entry_who (e := (k, v)) (.inr h1)]
    go_enter Tryz.func38, Tryz.ntmps38
    go_wp2_with fail
    go_ret
    exact ⟨rfl, (Below.refl _ _).alloc (Nat.le_refl _) _⟩

/- Check. -/
set_option maxRecDepth 100000 in
theorem bcheck_any (l : List EntB) (a : Option Addr) (n c : Nat) (w : World) (hn : l.length = n) (hS : EntsAt w a c l) :
    Calls Tryz.prog 24 #[.agg #[.slice a n c]] w fun e w' => e = .returned (.int .i64 (bookE l)) ∧ Below w.heap.size w w' := by
  have hcap := hS.cap
  have hmax := hS.max
  by_cases h24 : 24 < n
  · rw [bookE_many (by omega)]
    go_enter Tryz.func24, Tryz.ntmps24
    go_wp2_with fail
    go_ret
    exact ⟨rfl, (Below.refl _ _).alloc (Nat.le_refl _) _⟩
  · rw [bookE_few (by omega)]
    generalize hres : firstE l = res
    go_enter Tryz.func24, Tryz.ntmps24
    go_wp2_with fail
    go_loopg [13] n (fun g s13 wr => ∃ k : Nat, k ≤ n ∧ n - k ≤ g ∧ s13 = .int .i64 k ∧ Below w.heap.size w wr ∧ firstE (l.drop k) = res)
    case atStart => exact ⟨0, Nat.zero_le _, by omega, rfl, (Below.refl _ _).alloc (Nat.le_refl _) _, by rw [List.drop_zero]; exact hres⟩
    case round =>
      obtain ⟨k, hk, hg, rfl, hb, heq⟩ := hrel
      replace hS := hS.on hb
      by_cases hlt : k < n
      · obtain ⟨b, off, rfl, hbl, hc⟩ := hS.cells (by omega)
        obtain ⟨c0, c1⟩ := hc k (by omega)
        rw [ents_drop (by omega)] at heq
        simp only [firstE] at heq
        generalize entAt l k = x at c0 c1 heq
        obtain ⟨key, v⟩ := x
        simp only at c0 c1
        clear hc hS hres
        have HQ := Lib.hid heq
        clear heq
        have hkc : (k : Int) < (n : Int) := by omega
        go_wp2_with fail
        have hb3 : Below w.heap.size w (wr.alloc (.cells #[.int .i64 key, .string v] 38)) := hb.alloc hb.size _
        generalize (wr.alloc (.cells #[.int .i64 key, .string v] 38)) = W3 at hb3 ⊢
        refine (checkEntry_any key v W3).mono ?_
        rintro e w5 ⟨rfl, hb5⟩
        have hb5 := below_on hb3 hb5
        clear hb3
        have hq := HQ.out
        by_cases h0 : entryE (key, v) = 0
        · rw [if_pos h0] at hq
          rw [h0]
          have HQ := Lib.hid hq
          clear hq h0
          go_wp2_with fail
          go_roundg (n - (k + 1))
          case measure => omega
          case rel => exact ⟨k + 1, by omega, Nat.le_refl _, by go_num, hb5, HQ.out⟩
        · rw [if_neg h0] at hq
          have HQ := Lib.hid hq
          clear hq
          generalize entryE (key, v) = z at h0 HQ ⊢
          have hz : (z == 0) = false := by simp only [beq_eq_false_iff_ne, ne_eq]; exact h0
          go_wp2_with fail
          go_ret
          exact ⟨by rw [HQ.out]; rfl, hb5⟩
      · obtain rfl : k = n := by omega
        rw [List.drop_of_length_le (by omega)] at heq
        have HQ := Lib.hid heq
        clear heq
        go_wp2_with fail
        go_ret
        exact ⟨by rw [← HQ.out]; rfl, hb⟩

/- Text. -/
theorem numB_any (k : Int) (h0 : -9223372036854775808 ≤ k) (h1 : k ≤ 9223372036854775807) (w : World) (hE : Tab w) :
    Calls Tryz.prog 58 #[.int .i64 k] w fun e w' => e = .returned (.string (numB k)) ∧ Below w.heap.size w w' := by
  refine (Tryz.strconv_Itoa k h0 h1 w hE.tab).mono ?_
  rintro e w' ⟨rfl, d, os, rfl⟩
  exact ⟨rfl, below_grow w d os⟩

/- The cells of a box of two. -/
theorem box_cell (w : World) (cs : Array Value) (t : TypeId) (j : Nat) (v : Value) (h : cs[j]? = some v) : (w.alloc (.cells cs t)).cell? ⟨w.heap.size, j, none⟩ = some v := by
  have hh : (w.alloc (.cells cs t)).heap[w.heap.size]? = some (.cells cs t) := by show (w.heap.push _)[w.heap.size]? = _; simp
  unfold World.cell?
  simp only [hh]
  simpa using h
theorem box_kept {w w1 : World} {cs : Array Value} {t : TypeId} {row : Option Nat} (hg : (w.alloc (.cells cs t)).grownBy w1 row) (hr : row ≠ some w.heap.size) (j : Nat) (v : Value) (h : cs[j]? = some v) : w1.cell? ⟨w.heap.size, j, none⟩ = some v := by
  rw [World.cell?_of_block (w := w.alloc (.cells cs t)) (hg.block w.heap.size (by show _ < (w.heap.push _).size; rw [Array.size_push]; omega) (fun e => hr e.symm))]
  exact box_cell w cs t j v h
theorem box_below {w w1 : World} {o : Obj} (hg : (w.alloc o).grownBy w1 none) : Below w.heap.size w w1 :=
  ((Below.refl w.heap.size w).alloc (Nat.le_refl _) _).grown hg (by show _ ≤ (w.heap.push _).size; rw [Array.size_push]; omega) (fun j hj => by cases hj)

set_option maxRecDepth 100000 in
theorem text_any (k : Int) (v : ByteArray) (w : World) (hE : Tab w) (h0 : -9223372036854775808 ≤ k) (h1 : k ≤ 9223372036854775807) (hv : v.size ≤ 140737488355328) :
    Calls Tryz.prog 48 #[.agg #[.int .i64 k, .string v]] w fun e w' => e = .returned (.string (textE (k, v))) ∧ Below w.heap.size w w' := by
  have hz := numB_size h0 h1
  unfold textE
  simp only
  have cI := fun w' hE' => numB_any k h0 h1 w' hE'
  generalize numB k = x at hz cI ⊢
  have CI := Lib.hid cI
  clear cI
  go_enter Tryz.func48, Tryz.ntmps48
  go_wp2_with fail
  have hb1 : Below w.heap.size w (w.alloc (.cells #[.int .i64 k, .string v] 38)) := (Below.refl _ _).alloc (Nat.le_refl _) _
  have q0 := box_cell w #[.int .i64 k, .string v] 38 0 _ rfl
  have q1 := box_cell w #[.int .i64 k, .string v] 38 1 _ rfl
  generalize (w.alloc (.cells #[.int .i64 k, .string v] 38)) = W at hb1 q0 q1 ⊢
  have c0 := fun d os => cell_regrown q0 d os
  have c1 := fun d os => cell_regrown q1 d os
  have cF := Lib.hid (fun d os => Calls.regrown_of (CI.out (Sort.grow (redrawn W d) os) (hE.on (below_on hb1 (below_regrown W d os)))))
  refine wp_region_quiet_below (by kernel_rfl) (by kernel_rfl) ?_
  repeat (first | go_big_quiet_step (with_reducible exact cF.out _ _) | quiet_step (with_reducible exact cF.out _ _))
  refine wpQuiet_nil ?_
  intro _ hw'
  obtain ⟨⟨dq, osq⟩, hw''⟩ := hw'
  subst hw''
  have hbq := below_on hb1 (below_regrown W dq osq)
  clear cF c0 c1 q0 q1
  go_wp2_with fail
  go_ret
  exact ⟨rfl, hbq⟩

theorem infoString : (Tryz.prog.info? 9).map (fun i => (i.zero, i.size, i.bytes)) = some (some (.string ⟨#[]⟩), 1, 16) := by kernel_rfl
theorem infoEntry : (Tryz.prog.info? 38).map (fun i => (i.zero, i.size, i.bytes)) = some (some (.agg #[.int .i64 0, .string ⟨#[]⟩]), 2, 24) := by kernel_rfl

/- The cells of an own row of one cell an element. -/
theorem owned_cells {w : World} {base : Nat} {e : TypeId} {n g c : Nat} {l : List ByteArray} (h : w.ownsRow base e 1 (.slice (some ⟨g, 0, none⟩) n c) n (l.map Value.string)) : n ≤ c ∧ ∀ i, i < l.length → w.cell? ⟨g, i, none⟩ = some (.string (l.getD i ByteArray.empty)) := by
  have hln : l.length = n := by have := h.1; rw [List.length_map] at this; omega
  rcases h.2 with ⟨he, h0⟩ | ⟨g', cap, cur, he, hb, hg, hnc, hm, hsz, hcur⟩
  · cases he
  · injection he with e1 e2 e3
    injection e1 with e1
    injection e1 with e1 _ _
    subst e1 e3
    refine ⟨hnc, fun i hi => ?_⟩
    unfold World.cell?
    simp only [hg]
    have e1 : cur[i]? = (l.map Value.string)[i]? := by
      rw [← hcur, List.getElem?_take, if_pos (by omega), Array.getElem?_toList]
    simp [e1, hi, List.getD_eq_getElem?_getD]

/- Texts: one by one into a list of its own. -/
theorem put_take {xs : List ByteArray} {ts : List ByteArray} {k : Nat} (hk : k < xs.length) (h : xs.take k = ts.take k) (hl : k < ts.length) : (xs.set k (ts.getD k ByteArray.empty)).take (k + 1) = ts.take (k + 1) := by
  rw [List.take_add_one, List.take_set_of_le (Nat.le_refl _), h, List.take_add_one (l := ts), List.getElem?_set_self hk, List.getD_eq_getElem?_getD, List.getElem?_eq_getElem hl]
  rfl

set_option maxRecDepth 100000 in
theorem texts_any (l : List EntB) (a : Option Addr) (n c : Nat) (w : World) (hn : l.length = n) (hE : Tab w) (hS : EntsAt w a c l) (hz : ∀ e ∈ l, e.2.size ≤ 140737488355328) (hbig : n ≤ 8796093022208) :
    Calls Tryz.prog 36 #[.agg #[.slice a n c]] w fun e w' => ∃ a' c', e = .returned (.slice a' n c') ∧ StrsAt w' a' c' (textsE l) ∧ Below w.heap.size w w' := by
  have hcap := hS.cap
  have hmax := hS.max
  obtain ⟨i0, hi0, hz0, hz1, hz2⟩ := info_parts infoString
  have hlen := textsE_len l
  have hat := fun k h => texts_getD l k h
  have hbz : ∀ s ∈ textsE l, s.size ≤ 9223372036854775807 := by
    intro s hs
    obtain ⟨e, he, rfl⟩ := List.mem_map.1 hs
    have := hz e he
    have hw := hS.sz e he
    have := numB_size hw.1 hw.2.1
    rw [textE_size]
    omega
  generalize textsE l = ts at hlen hat hbz ⊢
  have HAT := Lib.hid hat
  have HBZ := Lib.hid hbz
  clear hat hbz
  go_enter Tryz.func36, Tryz.ntmps36
  go_wp2_with (at_make; refine wpList_make_full _ rfl _ _ 60 rfl w.heap.size 9 i0 (.string ⟨#[]⟩) 1 Tryz.underlying60 hi0 hz0 hz1 _ _ _ _ n rfl rfl rfl rfl (by rw [hz2]; omega) (by unfold maxLen; omega) (by show _ ≤ (w.heap.push _).size; rw [Array.size_push]; omega) ?_; intro w1 hown hg; have hbx := box_kept hg (by simp) 0 _ rfl)
  have hb1 := box_below hg
  rw [show (w.alloc (.cells #[.slice a n c] 24)).heap.size = w.heap.size + 1 by show (w.heap.push _).size = _; rw [Array.size_push]] at hown
  clear hg hbx
  have hcs : (madeCells (Value.string ⟨#[]⟩).cells (n * 1)).toList = (List.replicate n (⟨#[]⟩ : ByteArray)).map Value.string := by
    show (madeCells #[Value.string ⟨#[]⟩] (n * 1)).toList = _
    rw [Nat.mul_one, toList_madeCells_one, List.map_replicate]
  rw [hcs] at hown
  clear hcs
  obtain ⟨G, hG, hGe⟩ : ∃ G, w.heap.size ≤ G ∧ w.heap.size + 1 = G := ⟨_, by omega, rfl⟩
  rw [hGe] at hown ⊢
  clear hGe
  go_loopg [13] n (fun g s13 wr => ∃ (k : Nat) (xs : List ByteArray), k ≤ n ∧ n - k ≤ g ∧ s13 = .int .i64 k ∧ xs.length = n ∧ xs.take k = ts.take k ∧ wr.ownsRow w.heap.size 9 1 (.slice (some ⟨G, 0, none⟩) n n) n (xs.map Value.string) ∧ Below w.heap.size w wr)
  case atStart => exact ⟨0, List.replicate n ⟨#[]⟩, Nat.zero_le _, by omega, rfl, by simp, by simp, hown, hb1⟩
  case round =>
    obtain ⟨k, xs, hk, hg, rfl, hxl, hxt, hown, hb⟩ := hrel
    replace hS := hS.on hb
    by_cases hlt : k < n
    · have hme := entAt_mem (l := l) (i := k) (by omega)
      have hze := hz _ hme
      obtain ⟨w0, w1', _⟩ := hS.sz _ hme
      have htx := HAT.out k (by omega)
      obtain ⟨b, off, rfl, hbl, hc⟩ := hS.cells (by omega)
      obtain ⟨c0, c1⟩ := hc k (by omega)
      generalize entAt l k = x at c0 c1 hze w0 w1' htx
      obtain ⟨key, v⟩ := x
      simp only at c0 c1 hze w0 w1'
      have hpt := put_take (xs := xs) (ts := ts) (k := k) (by omega) hxt (by omega)
      rw [htx] at hpt
      have HP := Lib.hid hpt
      clear hc hS hme hxt htx hpt
      have hkc : (k : Int) < (n : Int) := by omega
      go_wp2_with fail
      have hb3 : Below w.heap.size w (wr.alloc (.cells #[.int .i64 key, .string v] 38)) := hb.alloc hb.size _
      have hown3 := hown.alloc (.cells #[.int .i64 key, .string v] 38)
      generalize (wr.alloc (.cells #[.int .i64 key, .string v] 38)) = W3 at hb3 hown3 ⊢
      clear hown c0 c1 hbl
      have htt := text_any key v W3 (hE.on hb3) w0 w1' hze
      generalize textE (key, v) = tx at htt HP
      refine htt.mono ?_
      clear htt
      rintro e w5 ⟨rfl, hb5⟩
      have hown5 := owns_on hown3 hb5
      have hb5 := below_on hb3 hb5
      clear hb3 hown3
      have hfro := hown5.frozenAt k
      obtain ⟨_, hS5⟩ := owned_cells hown5
      have hcell := hS5 k (by omega)
      obtain ⟨hown6, hg6⟩ := hown5.stored k (.string tx)
      have hb6 : Below w.heap.size w (w5.setCell ⟨G, k, none⟩ (.string tx)) := hb5.grown hg6 hb5.size (fun j hj => by cases hj; exact hG)
      rw [← List.map_set] at hown6
      clear hS5 hown5 hg6
      go_wp2_with fail
      go_roundg (n - (k + 1))
      case measure => omega
      case rel => exact ⟨k + 1, xs.set k tx, by omega, Nat.le_refl _, by go_num, by rw [List.length_set]; exact hxl, HP.out, hown6, hb6⟩
    · obtain rfl : k = n := by omega
      obtain rfl : xs = ts := by rwa [List.take_of_length_le (by omega), List.take_of_length_le (by omega)] at hxt
      obtain ⟨_, hSx⟩ := owned_strs hown HBZ.out
      go_wp2_with fail
      go_ret
      exact ⟨_, _, rfl, hSx, hb⟩
end Go.Proofs.YtnemiobgmdpnmagGreatFmt
namespace Go.Proofs.YtnemiobgmdpnmagGreatFmt
open Go Go.RowKit

set_option maxRecDepth 100000 in
theorem equal_ents (l m : List EntB) (a1 a2 : Option Addr) (n1 c1 n2 c2 : Nat) (w : World) (h1 : l.length = n1) (h2 : m.length = n2) (hS1 : EntsAt w a1 c1 l) (hS2 : EntsAt w a2 c2 m) :
    Calls Tryz.prog 8 #[.slice a1 n1 c1, .slice a2 n2 c2] w fun e w' => e = .returned (.bool (decide (l = m))) ∧ Below w.heap.size w w' := by
  have m1 := hS1.max
  have m2 := hS2.max
  have k1 := hS1.cap
  have k2 := hS2.cap
  by_cases hn : n1 = n2
  · subst hn
    go_enter Tryz.func8, Tryz.ntmps8
    go_wp2_with fail
    go_loopg [13] n1 (fun g s13 wr => ∃ k : Nat, k ≤ n1 ∧ n1 - k ≤ g ∧ s13 = .int .i64 k ∧ Below w.heap.size w wr ∧ ∀ j, j < k → entAt l j = entAt m j)
    case atStart => exact ⟨0, Nat.zero_le _, by omega, rfl, Below.refl _ _, fun j hj => absurd hj (Nat.not_lt_zero _)⟩
    case round =>
      obtain ⟨k, hk, hg, rfl, hb, heq⟩ := hrel
      replace hS1 := hS1.on hb
      replace hS2 := hS2.on hb
      by_cases hlt : k < n1
      · obtain ⟨b1, o1, rfl, _, q1⟩ := hS1.cells (by omega)
        obtain ⟨b2, o2, rfl, _, q2⟩ := hS2.cells (by omega)
        obtain ⟨g1, g2⟩ := q1 k (by omega)
        obtain ⟨g3, g4⟩ := q2 k (by omega)
        have A : Hid (∀ j, j < k → entAt l j = entAt m j) := heq
        clear heq q1 q2 hS1 hS2
        generalize hxk : entAt l k = x at g1 g2
        generalize hyk : entAt m k = y at g3 g4
        have B : Hid (entAt l k = x ∧ entAt m k = y) := ⟨hxk, hyk⟩
        clear hxk hyk
        obtain ⟨xl, xs⟩ := x
        obtain ⟨yl, ys⟩ := y
        simp only at g1 g2 g3 g4
        have hkc : (k : Int) < (n1 : Int) := by omega
        by_cases hxl : xl = yl
        · subst hxl
          by_cases hxs : xs = ys
          · subst hxs
            go_wp2_with fail
            go_quiet (fail)
            go_wp2_with fail
            go_roundg (n1 - (k + 1))
            case measure => omega
            case rel =>
              refine ⟨k + 1, by omega, Nat.le_refl _, by go_num, below_drewN hb nq, fun j hj => ?_⟩
              by_cases e : j = k
              · subst e
                rw [B.out.1, B.out.2]
              · exact A.out j (by omega)
          · have hs' := str_ne hxs
            go_wp2_with fail
            go_quiet (fail)
            go_wp2_with fail
            go_ret
            refine ⟨?_, below_drewN hb nq⟩
            have : l ≠ m := fun h => by
              have e := B.out
              rw [h] at e
              have e' := e.1.symm.trans e.2
              injection e' with e1 e2
              first | exact hxl e1 | exact hxs e2
            simp [this]
        · have hl' : (xl == yl) = false := by simpa using hxl
          by_cases hxs : xs = ys
          · have hs' := str_eq hxs
            go_wp2_with fail
            go_quiet (fail)
            go_wp2_with fail
            go_ret
            refine ⟨?_, below_drewN hb nq⟩
            have : l ≠ m := fun h => by
              have e := B.out
              rw [h] at e
              have e' := e.1.symm.trans e.2
              injection e' with e1 e2
              first | exact hxl e1 | exact hxs e2
            simp [this]
          · have hs' := str_ne hxs
            go_wp2_with fail
            go_quiet (fail)
            go_wp2_with fail
            go_ret
            refine ⟨?_, below_drewN hb nq⟩
            have : l ≠ m := fun h => by
              have e := B.out
              rw [h] at e
              have e' := e.1.symm.trans e.2
              injection e' with e1 e2
              first | exact hxl e1 | exact hxs e2
            simp [this]
      · obtain rfl : k = n1 := by omega
        have hlm := entAt_ext (l := l) (m := m) (by omega) (fun j hj => heq j (by omega))
        clear heq
        go_wp2_with fail
        go_ret
        exact ⟨by rw [decide_eq_true hlm]; rfl, hb⟩
  · go_enter Tryz.func8, Tryz.ntmps8
    go_wp2_with fail
    go_ret
    refine ⟨?_, Below.refl _ _⟩
    have : l ≠ m := fun h => hn (by rw [← h1, ← h2, h])
    simp [this]


end Go.Proofs.YtnemiobgmdpnmagGreatFmt
namespace Go.Proofs.YtnemiobgmdpnmagGreatFmt
open Go Go.RowKit

/- A copy: memory of its own, that may be written. -/
set_option maxRecDepth 100000 in
theorem clone_ents (l : List EntB) (a : Option Addr) (n c : Nat) (w : World) (hn : l.length = n) (h0 : 0 < n) (hbig : n ≤ 1000) (hS : EntsAt w a c l) :
    Calls Tryz.prog 39 #[.slice a n c] w fun e w' => ∃ g cap, e = .returned (.slice (some ⟨g, 0, none⟩) n cap) ∧ w'.ownsRow w.heap.size 38 2 (.slice (some ⟨g, 0, none⟩) n cap) n (entCells l) ∧ Below w.heap.size w w' := by
  obtain ⟨b, off, rfl, hlt, hc⟩ := hS.cells (by omega)
  obtain ⟨i0, hi0, hz0, hz1, hz2⟩ := info_parts infoEntry
  have q24 : ∀ (w : World) (a : Option Addr) (n c n' c' : Nat), (binOp .eql 22 (.slice a n c) (.slice none n' c')).run Tryz.prog w = .ok (.bool a.isNone) w := fun w a n c n' c' => Lib.run_eql_slice_nil w _ _ a n c n' c' Tryz.underlying22
  have u24 : ∀ w, Sem.run Tryz.prog (underlying 22) w = .ok (TypeDesc.slice 38) w := run_underlying Tryz.underlying22
  have A : Hid (∀ i, i < l.length → w.cell? ⟨b, off + i * 2, none⟩ = some (.int .i64 (entAt l i).1) ∧ w.cell? ⟨b, off + i * 2 + 1, none⟩ = some (.string (entAt l i).2)) := hc
  clear hc
  go_enter Tryz.func39, Tryz.ntmps39
  go_wp2_with (at_builtin; refine wpList_append_lies _ rfl _ _ 22 rfl w.heap.size 38 i0 (.agg #[.int .i64 0, .string ⟨#[]⟩]) 2 24 Tryz.underlying22 hi0 hz0 hz1 hz2 rfl (by decide) _ _ _ rfl (World.ownsRow_made w #[] 0 (Nat.le_refl _) (Nat.zero_le _) rfl) ⟨b, off, none⟩ n c (entCells l) rfl ?c0 ?c1 ?c2 h0 ?c3 ?c4 ?c5 _ rfl ?_)
  case c0 => rw [entCells_len, hn]
  case c1 =>
    intro j u hj
    have hjn : j < n * 2 := by
      have := (List.getElem?_eq_some_iff.1 hj).1
      rw [entCells_len] at this
      omega
    rw [Addr.add_lit]
    refine Lib.cell?_alloc_some _ ?_
    obtain ⟨k, hk⟩ : ∃ k, j = k * 2 ∨ j = k * 2 + 1 := ⟨j / 2, by omega⟩
    have hkl : k < l.length := by omega
    obtain ⟨e1, e2⟩ := entCells_at l k hkl
    obtain ⟨e3, e4⟩ := A.out k hkl
    rcases hk with rfl | rfl
    · rw [e1] at hj; rw [e3, hj]
    · rw [e2] at hj; rw [← Nat.add_assoc, e4, hj]
  case c2 =>
    intro u hu
    unfold entCells at hu
    obtain ⟨x, _, hx⟩ := List.mem_flatMap.1 hu
    simp only [List.mem_cons, List.not_mem_nil, or_false] at hx
    rcases hx with rfl | rfl <;> rfl
  case c3 => unfold maxLen; omega
  case c4 => omega
  case c5 => simp
  intro g cap w1 hown hgrow _ _
  have hb : Below w.heap.size w w1 := ((Below.refl _ w).alloc (Nat.le_refl _) _).grown hgrow (by simp) (by intro k hk; simp [Value.ownBlock] at hk; omega)
  go_wp2_with fail
  go_ret
  refine ⟨g, cap, ?_, ?_, hb⟩
  · simp
  · simpa using hown

theorem run_append_none {P : Program} (w : World) (t ty e : TypeId) (ht : P.underlying t = some (.slice e)) (i : TypeInfo) (hi : P.info? e = some i) (g : Nat) (a : Addr) (c : Nat) :
    (Builtin.append_ #[t, t] ty #[.slice (some ⟨g, 0, none⟩) 0 0, .slice (some a) 0 c]).run P w = .ok (.slice (some ⟨g, 0, none⟩) 0 0) w := by
  have hl : ∀ (x : Addr), (loadCells x 0).run P w = .ok #[] w := fun x => by simpa using run_loadCells_list (P := P) w x [] (by simp)
  simp [Builtin.append_, run_underlying ht, Builtin.lenOf, Builtin.firstCells, sizeOf, typeInfo, hi, hl, storeCells]

set_option maxRecDepth 100000 in
theorem clone_ents_zero (a : Option Addr) (c : Nat) (w : World) :
    Calls Tryz.prog 39 #[.slice a 0 c] w fun e w' => ∃ a', e = .returned (.slice a' 0 0) ∧ w'.ownsRow w.heap.size 38 2 (.slice a' 0 0) 0 [] ∧ Below w.heap.size w w' := by
  obtain ⟨i0, hi0, hz0, hz1, hz2⟩ := info_parts infoEntry
  have q24 : ∀ (w : World) (a : Option Addr) (n c n' c' : Nat), (binOp .eql 22 (.slice a n c) (.slice none n' c')).run Tryz.prog w = .ok (.bool a.isNone) w := fun w a n c n' c' => Lib.run_eql_slice_nil w _ _ a n c n' c' Tryz.underlying22
  cases a with
  | none =>
    go_enter Tryz.func39, Tryz.ntmps39
    go_wp2_with fail
    go_ret
    exact ⟨none, rfl, World.ownsRow_nil _ _ _ _, Below.refl _ _⟩
  | some a =>
    have hr := fun (ty : TypeId) => run_append_none (P := Tryz.prog) (w.alloc (.cells #[] 38)) 22 ty 38 Tryz.underlying22 i0 hi0 w.heap.size a c
    have hb : Below w.heap.size w (w.alloc (.cells #[] 38)) := (Below.refl _ _).alloc (Nat.le_refl _) _
    have hown : (w.alloc (.cells #[] 38)).ownsRow w.heap.size 38 2 (.slice (some ⟨w.heap.size, 0, none⟩) 0 0) 0 [] := World.ownsRow_made w #[] 0 (Nat.le_refl _) (Nat.zero_le _) rfl
    go_enter Tryz.func39, Tryz.ntmps39
    go_wp2_with fail
    go_ret
    exact ⟨_, rfl, hown, hb⟩
theorem clone_ents_own (l : List EntB) (a : Option Addr) (n c : Nat) (w : World) (hn : l.length = n) (hbig : n ≤ 1000) (hS : EntsAt w a c l) :
    Calls Tryz.prog 39 #[.slice a n c] w fun e w' => ∃ a' c', e = .returned (.slice a' n c') ∧ w'.ownsRow w.heap.size 38 2 (.slice a' n c') n (entCells l) ∧ Below w.heap.size w w' := by
  rcases Nat.eq_zero_or_pos n with h0 | h0
  · subst h0
    obtain rfl := List.length_eq_zero_iff.1 hn
    refine (clone_ents_zero a c w).mono ?_
    rintro e w' ⟨a', rfl, ho, hb⟩
    exact ⟨a', 0, rfl, ho, hb⟩
  · refine (clone_ents l a n c w hn h0 hbig hS).mono ?_
    rintro e w' ⟨g, cap, rfl, ho, hb⟩
    exact ⟨_, cap, rfl, ho, hb⟩
end Go.Proofs.YtnemiobgmdpnmagGreatFmt
namespace Go.Proofs.YtnemiobgmdpnmagGreatFmt
open Go Go.RowKit Go.Maps

theorem entAt_getD (l : List EntB) (k : Nat) : l.getD k (0, ByteArray.empty) = entAt l k := rfl

set_option maxRecDepth 100000 in
theorem vals_no (l : List EntB) (a : Option Addr) (n c : Nat) (w : World) (hn : l.length = n) (hS : EntsAt w a c l) (z : Int) (hz : bookE l = z) (h0 : z ≠ 0) :
    Calls Tryz.prog 34 #[.agg #[.slice a n c]] w fun e w' => e = .returned (.tuple #[.map none, .int .i64 z]) ∧ Below w.heap.size w w' := by
  have hck := fun w' h => bcheck_any l a n c w' hn h
  rw [hz] at hck
  have HC := Lib.hid hck
  have hz' : (z == 0) = false := by simp only [beq_eq_false_iff_ne, ne_eq]; exact h0
  clear hck hz
  go_enter Tryz.func34, Tryz.ntmps34
  go_wp2_with fail
  have hb1 : Below w.heap.size w (w.alloc (.cells #[.slice a n c] 24)) := (Below.refl _ _).alloc (Nat.le_refl _) _
  generalize (w.alloc (.cells #[.slice a n c] 24)) = W at hb1 ⊢
  refine (HC.out W (hS.on hb1)).mono ?_
  rintro e w1 ⟨rfl, hb2⟩
  have hb2 := below_on hb1 hb2
  clear hb1
  go_wp2_with fail
  go_ret2
  exact ⟨rfl, hb2⟩

set_option maxRecDepth 100000 in
theorem vals_ok (l : List EntB) (a : Option Addr) (n c : Nat) (w : World) (hn : l.length = n) (hS : EntsAt w a c l) (hG : GoodBook l) :
    Calls Tryz.prog 34 #[.agg #[.slice a n c]] w fun e w' => ∃ p, e = .returned (.tuple #[.map (some p), .int .i64 0]) ∧ MapAt w' (some p) (valsD l) ∧ w.heap.size ≤ p ∧ Below w.heap.size w w' := by
  have hck := fun w' h => bcheck_any l a n c w' hn h
  rw [(bookE_iff l).2 hG] at hck
  have HC := Lib.hid hck
  have h24 := hG.1
  have hcap := hS.cap
  have hmax := hS.max
  have hmm := @run_makeMap Tryz.prog
  have hgood := hG.2
  clear hck hG
  go_enter Tryz.func34, Tryz.ntmps34
  go_wp2_with fail
  have hb1 : Below w.heap.size w (w.alloc (.cells #[.slice a n c] 24)) := (Below.refl _ _).alloc (Nat.le_refl _) _
  have q0 := box_cell w #[.slice a n c] 24 0 _ rfl
  generalize (w.alloc (.cells #[.slice a n c] 24)) = W at hb1 q0 ⊢
  refine (HC.out W (hS.on hb1)).mono ?_
  rintro e w1 ⟨rfl, hb2⟩
  have q1 : w1.cell? ⟨w.heap.size, 0, none⟩ = some (.slice a n c) := by rw [hb2.cell (block_lt_of_cell q0)]; exact q0
  have hb2 := below_on hb1 hb2
  clear hb1 q0 HC
  have hX := made_owns w1
  have q2 : (w1.alloc (.map #[] 0)).cell? ⟨w.heap.size, 0, none⟩ = some (.slice a n c) := Lib.cell?_alloc_some _ q1
  have hb3 := hb2.alloc hb2.size (.map #[] 0)
  go_wp2_with fail
  generalize (w1.alloc (.map #[] 0)) = W3 at hX q2 hb3 ⊢
  obtain ⟨p, hp, hpe⟩ : ∃ p, w.heap.size ≤ p ∧ w1.heap.size = p := ⟨_, hb2.size, rfl⟩
  rw [hpe] at hX ⊢
  clear hpe q1 q2 hb2 hmm
  have HGO := Lib.hid hgood
  clear hgood
  go_loopg [17] n (fun g s17 wr => ∃ k : Nat, k ≤ n ∧ n - k ≤ g ∧ s17 = .int .i64 k ∧ wr.ownsMap Tryz.prog 3 (plainElem Tryz.prog 9) p k (valsD (l.take k)) ∧ Below w.heap.size w wr)
  case atStart => exact ⟨0, Nat.zero_le _, by omega, rfl, hX, hb3⟩
  case round =>
    obtain ⟨k, hk, hg, rfl, hX, hb⟩ := hrel
    by_cases hlt : k < n
    · have hS := hS.on hb
      obtain ⟨e1, e2, e3⟩ := HGO.out _ (entAt_mem (l := l) (i := k) (by omega))
      have hst := valsD_take (l := l) (k := k) (by omega)
      rw [entAt_getD] at hst
      obtain ⟨b, off, rfl, hbl, hc⟩ := hS.cells (by omega)
      obtain ⟨c0, c1⟩ := hc k (by omega)
      generalize entAt l k = x at c0 c1 e1 e2 e3 hst
      obtain ⟨key, v⟩ := x
      simp only [putE] at c0 c1 e1 e2 e3 hst
      have HST := Lib.hid hst
      clear hst hc hS
      generalize valsD (l.take k) = D at *
      have hkc : (k : Int) < (n : Int) := by omega
      have hb4 : Below w.heap.size w (wr.alloc (.cells #[.int .i64 key, .string v] 38)) := hb.alloc hb.size _
      have hX4 := hX.alloc (.cells #[.int .i64 key, .string v] 38)
      go_wp2_with (at_mapUpdate; refine wpList_mapUpdate_own _ rfl _ _ _ 64 rfl 3 9 keyed Tryz.underlying64 _ p k D rfl hX4 (by unfold maxLen; omega) _ _ (.int .i64 key) rfl rfl (keyIs (by omega) (by omega)) (.lit (.string v.data.toList)) [] (plainElem_string Tryz.underlying9 (s := v) (by unfold maxLen; omega)) ?_; intro w6 hX6 hg6)
      have hb6 : Below w.heap.size w w6 := hb4.grown hg6 hb4.size (fun j hj => by cases hj; exact hp)
      go_roundg (n - (k + 1))
      case measure => omega
      case rel => exact ⟨k + 1, by omega, Nat.le_refl _, by go_num, by rw [HST.out]; exact hX6, hb6⟩
    · obtain rfl : k = n := by omega
      rw [List.take_of_length_le (by omega)] at hX
      go_wp2_with fail
      go_ret2
      exact ⟨p, rfl, MapAt.of hX, hp, hb⟩
end Go.Proofs.YtnemiobgmdpnmagGreatFmt
namespace Go.Proofs.YtnemiobgmdpnmagGreatFmt
open Go Go.RowKit

/- Blocks, by number. -/
theorem heap_push (w : World) (o : Obj) : (w.alloc o).heap[w.heap.size]? = some o := by show (w.heap.push _)[w.heap.size]? = _; simp
theorem heap_old (w : World) (o : Obj) {i : Nat} {x : Obj} (h : w.heap[i]? = some x) : (w.alloc o).heap[i]? = some x := by
  have hlt := (Array.getElem?_eq_some_iff.1 h).1
  show (w.heap.push _)[i]? = _
  rw [Array.getElem?_push, if_neg (by omega)]
  exact h
theorem heap_size (w : World) (o : Obj) : (w.alloc o).heap.size = w.heap.size + 1 := by show (w.heap.push _).size = _; rw [Array.size_push]
theorem heap_kept {w w' : World} {row : Option Nat} (hg : w.grownBy w' row) {i : Nat} {x : Obj} (h : w.heap[i]? = some x) (hr : row ≠ some i) : w'.heap[i]? = some x := by
  rw [hg.block i (Array.getElem?_eq_some_iff.1 h).1 (fun e => hr e.symm)]
  exact h
theorem heap_on {w w' : World} (hb : Below w.heap.size w w') {i : Nat} {x : Obj} (h : w.heap[i]? = some x) : w'.heap[i]? = some x := by
  rw [hb.block i (Array.getElem?_eq_some_iff.1 h).1]
  exact h
theorem heap_cell {w : World} {i : Nat} {cs : Array Value} {t : TypeId} (h : w.heap[i]? = some (.cells cs t)) (j : Nat) (v : Value) (hv : cs[j]? = some v) : w.cell? ⟨i, j, none⟩ = some v := by
  unfold World.cell?
  simp only [h]
  simpa using hv
theorem boxes3 (w : World) (a b c : Obj) : (((w.alloc a).alloc b).alloc c).heap[w.heap.size]? = some a ∧ (((w.alloc a).alloc b).alloc c).heap[w.heap.size + 1]? = some b ∧ (((w.alloc a).alloc b).alloc c).heap[w.heap.size + 1 + 1]? = some c ∧ (((w.alloc a).alloc b).alloc c).heap.size = w.heap.size + 1 + 1 + 1 := by
  have s1 := heap_size w a
  have s2 := heap_size (w.alloc a) b
  have s3 := heap_size ((w.alloc a).alloc b) c
  refine ⟨heap_old _ _ (heap_old _ _ (heap_push w a)), ?_, ?_, by rw [s3, s2, s1]⟩
  · have := heap_push (w.alloc a) b
    rw [s1] at this
    exact heap_old _ _ this
  · have := heap_push ((w.alloc a).alloc b) c
    rw [s2, s1] at this
    exact this
theorem below3 (w : World) (a b c : Obj) : Below w.heap.size w (((w.alloc a).alloc b).alloc c) := by
  have s1 := heap_size w a
  have s2 := heap_size (w.alloc a) b
  exact (((Below.refl _ w).alloc (Nat.le_refl _) _).alloc (by omega) _).alloc (by omega) _

theorem set_grown (w : World) (g j : Nat) (u : Value) : w.grownBy (w.setCell ⟨g, j, none⟩ u) (some g) :=
  ⟨rfl, rfl, rfl, by simp, fun k _ hk => heap_setCell_other w ⟨g, j, none⟩ k u (fun e => hk (by simp [e]))⟩

/- Two results, the first one a struct that lies in memory. -/
theorem results_row_tmp {P : Program} {fn : Func} {p u : Tmp} {ty : TypeId} (h : fn.results = #[.cell p ty, .tmp u]) (tmps : Array Value) (w : World) (g : Nat) (t : TypeId) (cs : Array Value) (fr : Nat × Nat) (d : TypeDesc)
    (hp : tmps.getD p undef = .pointer (some ⟨g, 0, none⟩)) (hg : w.heap[g]? = some (.cells cs t fr))
    (hu : P.underlying ty = some d) (hd : (match d with | .struct _ | .array _ _ => true | _ => false) = true) (hi : (P.info? ty).map (·.size) = some cs.size) :
    (results fn tmps).run P w = .ok (.tuple #[.agg cs, tmps.getD u undef]) w := by
  rw [results_cell_tmp h, hp]
  simp [asAddr, run_loadVar_row w g t ty cs fr d hg hu hd hi, Result.andThen]

theorem set_same {w : World} {g : Nat} {x : Value} {t : TypeId} (h : w.heap[g]? = some (.cells #[x] t)) (u : Value) : (w.setCell ⟨g, 0, none⟩ u).heap[g]? = some (.cells #[u] t) := heap_setCell_same w g 0 #[x] t u h

theorem head_cells (n : Int) (a b : ByteArray) : (#[.int .i64 n, .string a, .string b] : Array Value).all (·.oneCell') = true := by simp [Value.oneCell']
theorem boxes2 (w : World) (a b : Obj) : ((w.alloc a).alloc b).heap[w.heap.size]? = some a ∧ ((w.alloc a).alloc b).heap[w.heap.size + 1]? = some b ∧ Below w.heap.size w ((w.alloc a).alloc b) := by
  have s1 := heap_size w a
  refine ⟨heap_old _ _ (heap_push w a), ?_, ((Below.refl _ w).alloc (Nat.le_refl _) _).alloc (by omega) _⟩
  have := heap_push (w.alloc a) b
  rw [s1] at this
  exact this

end Go.Proofs.YtnemiobgmdpnmagGreatFmt
namespace Go.Proofs.YtnemiobgmdpnmagGreatFmt
open Go Go.RowKit Go.Maps

/- A copy of elements of two cells to the head of a row of one's own. -/
theorem run_copy_pairs {P : Program} {w : World} {base : Nat} {e dT sT ty : TypeId} {g m cap : Nat} {xs : List Value} (h : w.ownsRow base e 2 (.slice (some ⟨g, 0, none⟩) m cap) m xs)
    (hu : P.underlying dT = some (.slice e)) (hs : (P.info? e).map (·.size) = some 2) (a : Option Addr) (n c : Nat) (cs : List Value) (hn : cs.length = n * 2) (hnm : n ≤ m)
    (hsrc : 0 < n → ∃ ad, a = some ad ∧ ∀ j v, cs[j]? = some v → w.cell? (ad.add j) = some v) (h1 : ∀ v ∈ cs, v.oneCell' = true) :
    ∃ w', (Builtin.copy_ #[dT, sT] ty #[.slice (some ⟨g, 0, none⟩) m cap, .slice a n c]).run P w = .ok (goInt n) w' ∧ w'.ownsRow base e 2 (.slice (some ⟨g, 0, none⟩) m cap) m (cs ++ xs.drop (n * 2)) ∧ w.grownBy w' (some g) := by
  have hx := h.1
  rcases h.2 with ⟨he, _⟩ | ⟨g', cap', cur, he, hb, hg, hnc, hm, hsz, hcur⟩
  · cases he
  injection he with e1 _ e3
  injection e1 with e1
  injection e1 with e1 _ _
  subst e1 e3
  have hmin : Nat.min n m = n := Nat.min_eq_left hnm
  cases hq : P.info? e with
  | none => simp [hq] at hs
  | some i =>
    have hi : i.size = 2 := by simpa [hq] using hs
    rcases Nat.eq_zero_or_pos n with h0 | h0
    · subst h0
      obtain rfl : cs = [] := List.eq_nil_of_length_eq_zero (by omega)
      have hl : ∀ (x : Addr), (loadCells x 0).run P w = .ok #[] w := fun x => by simpa using run_loadCells_list (P := P) w x [] (by simp)
      refine ⟨w, ?_, by simpa using h, ⟨rfl, rfl, rfl, Nat.le_refl _, fun _ _ _ => rfl⟩⟩
      cases a <;> simp [Builtin.copy_, run_underlying hu, Builtin.lenOf, Builtin.firstCells, sizeOf, typeInfo, hq, storeCells, hl]
    · obtain ⟨ad, rfl, hsr⟩ := hsrc h0
      have hl := run_loadCells_list (P := P) w ad cs hsr
      have hst := run_storeCells_at P g 0 e cs 0 cur w hg (by rw [hsz, hn]; omega) h1
      refine ⟨w.setRow g (cs ++ cur.toList.drop (n * 2)).toArray, ?_, ⟨by rw [List.length_append, List.length_drop, hx, hn]; omega, .inr ⟨g, cap, _, rfl, hb, setRow_heap w g _ _ e _ hg, hnc, hm, ?_, ?_⟩⟩, ⟨rfl, rfl, rfl, by simp [World.setRow], fun k _ hk => setRow_other w g k _ (fun e => hk (by rw [e]))⟩⟩
      · rw [hn] at hl hst
        simp only [Nat.zero_add, List.take_zero, List.nil_append] at hst
        simp [Builtin.copy_, run_underlying hu, Builtin.lenOf, Builtin.firstCells, sizeOf, typeInfo, hq, hi, hmin, hl, hst]
      · simp [hn, hsz]; try omega
      · rw [← hcur]
        simp only [List.drop_take]
        rw [List.take_append, hn, List.take_of_length_le (by rw [hn]; omega)]
        try congr 2
theorem wpList_copy_pairs {P : Program} {w : World} {ops : Array Oper} {rest : List Oper} {o : Oper} {act : Act} {Q : Exit → Act → World → Prop} (hgd : o.guard = none) (d s : Operand) (dT sT : TypeId)
    (ho : o.op = .call { callee := .builtin .copy, args := #[d, s], argTypes := #[dT, sT] }) {base : Nat} {e : TypeId} {g m cap : Nat} {xs : List Value} (h : w.ownsRow base e 2 (.slice (some ⟨g, 0, none⟩) m cap) m xs)
    (hu : P.underlying dT = some (.slice e)) (hs : (P.info? e).map (·.size) = some 2) (a : Option Addr) (n c : Nat) (hd : act.eval d = .slice (some ⟨g, 0, none⟩) m cap) (hsv : act.eval s = .slice a n c) (cs : List Value) (hn : cs.length = n * 2) (hnm : n ≤ m)
    (hsrc : 0 < n → ∃ ad, a = some ad ∧ ∀ j v, cs[j]? = some v → w.cell? (ad.add j) = some v) (h1 : ∀ v ∈ cs, v.oneCell' = true)
    (hK : ∀ w', w'.ownsRow base e 2 (.slice (some ⟨g, 0, none⟩) m cap) m (cs ++ xs.drop (n * 2)) → w.grownBy w' (some g) → wpList P ops Q rest (act.put o.dst (goInt n)) w') : wpList P ops Q (o :: rest) act w := by
  obtain ⟨w', hr, h2, h3⟩ := run_copy_pairs (dT := dT) (sT := sT) (ty := o.type) h hu hs a n c cs hn hnm hsrc h1
  refine wpList_plain hgd fun _ hKK => ?_
  unfold Oper.wp
  simp [execOp, ho, resolve, invoke, builtin, hd, hsv, hr, Result.andThen]
  exact hKK _ _ (hK w' h2 h3)

/- A store of an element of two cells into a row of one's own. -/
theorem own_pair {w : World} {base : Nat} {e : TypeId} {g m cap : Nat} {xs : List Value} (h : w.ownsRow base e 2 (.slice (some ⟨g, 0, none⟩) m cap) m xs) (j : Nat) (hj : j < m) (u v : Value) :
    w.there g (j * 2) 2 ∧ (w.setCells g (j * 2) [u, v]).ownsRow base e 2 (.slice (some ⟨g, 0, none⟩) m cap) m ((xs.set (j * 2) u).set (j * 2 + 1) v) ∧ w.grownBy (w.setCells g (j * 2) [u, v]) (some g) := by
  obtain ⟨h1, g1⟩ := h.stored (j * 2) u
  obtain ⟨h2, g2⟩ := h1.stored (j * 2 + 1) v
  refine ⟨fun i hi => ⟨?_, h.frozenAt _⟩, h2, g1.trans g2⟩
  rcases h.2 with ⟨he, _⟩ | ⟨g', cap', cur, he, hb, hg, hnc, hm, hsz, hcur⟩
  · cases he
  injection he with e1 _ e3
  injection e1 with e1
  injection e1 with e1 _ _
  subst e1 e3
  unfold World.cell?
  simp only [hg]
  have : j * 2 + i < cur.size := by omega
  simp [this]

theorem cells_snoc {l : List EntB} {n : Nat} (hn : l.length = n) (x : EntB) (ys : List Value) (hy : ys.length = 2) : (((entCells l ++ ys).set (n * 2) (.int .i64 x.1)).set (n * 2 + 1) (.string x.2)) = entCells (l ++ [x]) := by
  have hl := entCells_len l
  rw [hn] at hl
  obtain ⟨a, b, rfl⟩ : ∃ a b, ys = [a, b] := by
    match ys, hy with
    | [a, b], _ => exact ⟨a, b, rfl⟩
  rw [entCells_app, List.set_append_right _ _ (by omega), hl, Nat.sub_self, List.set_append_right _ _ (by omega), hl, show n * 2 + 1 - n * 2 = 1 by omega]
  rfl

theorem wide_snoc {l : List EntB} (h : ∀ e ∈ l, WideEnt e) {x : EntB} (hx : WideEnt x) : ∀ e ∈ l ++ [x], WideEnt e := by
  intro e he
  rcases List.mem_append.1 he with he | he
  · exact h e he
  · rw [List.mem_singleton.1 he]; exact hx

theorem EntsAt.grown {w w' : World} {a : Option Addr} {c : Nat} {l : List EntB} {row : Option Nat} (h : EntsAt w a c l) (hg : w.grownBy w' row) (hne : ∀ b off, a = some ⟨b, off, none⟩ → row ≠ some b) : EntsAt w' a c l := by
  refine ⟨h.cap, h.max, h.sz, fun hp => ?_⟩
  obtain ⟨b, off, ha, hlt, hc⟩ := h.cells hp
  refine ⟨b, off, ha, Nat.lt_of_lt_of_le hlt hg.size, fun i hi => ?_⟩
  have key : ∀ j, w'.cell? ⟨b, j, none⟩ = w.cell? ⟨b, j, none⟩ := fun j => World.cell?_of_block (w := w) (hg.block b hlt (fun e => hne b off ha e.symm))
  rw [key, key]
  exact hc i hi

set_option maxRecDepth 100000 in
theorem with_any (l : List EntB) (a : Option Addr) (n c : Nat) (k : Int) (v : ByteArray) (w : World) (hn : l.length = n) (hS : EntsAt w a c l) (hx : WideEnt (k, v)) (h24 : n ≤ 24) :
    Calls Tryz.prog 67 #[.agg #[.slice a n c], .agg #[.int .i64 k, .string v]] w fun e w' => ∃ g, e = .returned (.agg #[.slice (some ⟨g, 0, none⟩) (n + 1) (n + 1)]) ∧ w.heap.size ≤ g ∧ EntsAt w' (some ⟨g, 0, none⟩) (n + 1) (l ++ [(k, v)]) ∧ Below w.heap.size w w' := by
  have hcap := hS.cap
  have hmax := hS.max
  obtain ⟨i0, hi0, hz0, hz1, hz2⟩ := info_parts infoEntry
  go_enter Tryz.func67, Tryz.ntmps67
  obtain ⟨q0, q1, q2, qs⟩ := boxes3 w (.cells #[.slice a n c] 24) (.cells #[.int .i64 k, .string v] 38) (.cells #[.slice none 0 0] 24)
  have hb0 := below3 w (.cells #[.slice a n c] 24) (.cells #[.int .i64 k, .string v] 38) (.cells #[.slice none 0 0] 24)
  have hec := entCells_len l
  rw [hn] at hec
  have hone := entCells_one l
  have hsz : (Tryz.prog.info? 38).map (·.size) = some 2 := by rw [hi0]; simp [hz1]
  go_wp2_with (at_make; refine wpList_make_full _ rfl _ _ 22 rfl w.heap.size 38 i0 (.agg #[.int .i64 0, .string ⟨#[]⟩]) 2 Tryz.underlying22 hi0 hz0 hz1 _ _ _ _ (n + 1) rfl rfl (by omega) (by omega) (by rw [hz2]; omega) (by unfold maxLen; omega) (by rw [qs]; omega) ?_; intro w1 hown hg; rw [qs] at hown; have hb1 := hb0.grown hg (by rw [qs]; omega) (fun j hj => by cases hj); have c0 := heap_cell (heap_kept hg q0 (by simp)) 0 _ rfl)
  have p0 := heap_kept hg q0 (by simp)
  have p1 := heap_kept hg q1 (by simp)
  have p2 := heap_kept hg q2 (by simp)
  have hlt1 : w.heap.size + 1 + 1 + 1 < w1.heap.size := (hown.lt _ rfl).2
  clear hg q0 q1 q2 qs hb0 c0
  obtain ⟨w2, hr, hown2, hg2⟩ := run_copy_pairs (P := Tryz.prog) (dT := 22) (sT := 22) (ty := 3) hown Tryz.underlying22 hsz a n c (entCells l) hec (by omega) (fun h => (hS.on hb1).src (by omega)) hone
  rw [hr]
  have r0 := heap_kept hg2 p0 (fun e => by injection e with e; omega)
  have r1 := heap_kept hg2 p1 (fun e => by injection e with e; omega)
  have r2 := heap_kept hg2 p2 (fun e => by injection e with e; omega)
  have hb2 := hb1.grown hg2 hb1.size (fun j hj => by cases hj; omega)
  clear hr hown hg2 p0 p1 p2 hb1
  have d0 := heap_cell r0 0 _ rfl
  have d1 := heap_cell r1 0 _ rfl
  have d2 := heap_cell r1 1 _ rfl
  obtain ⟨hth, hown3, hg3⟩ := own_pair hown2 n (by omega) (.int .i64 k) (.string v)
  have f0 : (w2.cell? ⟨w.heap.size + 1 + 1 + 1, n * 2, none⟩).isSome = true := (hth 0 (by omega)).1
  have f1 : w2.frozen? ⟨w.heap.size + 1 + 1 + 1, n * 2, none⟩ = false := (hth 0 (by omega)).2
  obtain ⟨f2, f3⟩ := hth 1 (by omega)
  obtain ⟨y0, f0⟩ := Option.isSome_iff_exists.1 f0
  obtain ⟨y1, f2⟩ := Option.isSome_iff_exists.1 f2
  have f4 : (w2.setCell ⟨w.heap.size + 1 + 1 + 1, n * 2, none⟩ (.int .i64 k)).cell? ⟨w.heap.size + 1 + 1 + 1, n * 2 + 1, none⟩ = some y1 := by
    rw [World.cell?_setCell_other _ _ _ _ (by simp)]; exact f2
  have f5 : (w2.setCell ⟨w.heap.size + 1 + 1 + 1, n * 2, none⟩ (.int .i64 k)).frozen? ⟨w.heap.size + 1 + 1 + 1, n * 2 + 1, none⟩ = false := by
    rw [World.frozen?_setCell]; exact f3
  have s2 := heap_kept hg3 r2 (fun e => by injection e with e; omega)
  have hb3 := hb2.grown hg3 hb2.size (fun j hj => by cases hj; omega)
  have hcs : ((entCells l ++ (madeCells (Value.agg #[.int .i64 0, .string ⟨#[]⟩]).cells ((n + 1) * 2)).toList.drop (n * 2)).set (n * 2) (.int .i64 k)).set (n * 2 + 1) (.string v) = entCells (l ++ [(k, v)]) :=
    cells_snoc hn (k, v) _ (by rw [List.length_drop, Array.length_toList, size_madeCells]; omega)
  rw [hcs] at hown3
  clear hcs hown2 hg3 hth
  go_upto_region 4 with fail
  have hW : w2.setCells (w.heap.size + 1 + 1 + 1) (n * 2) [.int .i64 k, .string v] = (w2.setCell ⟨w.heap.size + 1 + 1 + 1, n * 2, none⟩ (.int .i64 k)).setCell ⟨w.heap.size + 1 + 1 + 1, n * 2 + 1, none⟩ (.string v) := rfl
  rw [hW] at hown3 s2 hb3
  clear hW f0 f1 f2 f3 f4 f5 d0 d1 d2 r0 r1 r2 hb2 hlt1
  generalize (w2.setCell ⟨w.heap.size + 1 + 1 + 1, n * 2, none⟩ (.int .i64 k)).setCell ⟨w.heap.size + 1 + 1 + 1, n * 2 + 1, none⟩ (.string v) = w3 at hown3 s2 hb3 ⊢
  have t0 := heap_cell s2 0 _ rfl
  have t1 := frozen_of_row w3 (w.heap.size + 1 + 1) 0 _ _ s2
  go_wp2_with fail
  have hsz := hS.sz
  obtain ⟨a', c', hv, _, hE3⟩ := ents_own hown3 (wide_snoc hsz hx)
  injection hv with e1 e2 e3
  subst e1 e3
  have hg4 := set_grown w3 (w.heap.size + 1 + 1) 0 (.slice (some ⟨w.heap.size + 1 + 1 + 1, 0, none⟩) (n + 1) (n + 1))
  have hh := heap_setCell_same w3 (w.heap.size + 1 + 1) 0 _ _ (.slice (some ⟨w.heap.size + 1 + 1 + 1, 0, none⟩) (n + 1) (n + 1)) s2
  have hb4 := hb3.grown hg4 hb3.size (fun j hj => by cases hj; omega)
  have hE4 := hE3.grown hg4 (fun b off e => by injection e with e; injection e with e _ _; intro e2; injection e2 with e2; omega)
  refine bodyPost_ret (results_cell_row rfl _ _ (w.heap.size + 1 + 1) _ _ _ _ rfl hh Tryz.underlying24 rfl (by kernel_rfl)) rfl ?_
  exact ⟨_, rfl, by omega, hE4, hb4⟩
end Go.Proofs.YtnemiobgmdpnmagGreatFmt
namespace Go.Proofs.YtnemiobgmdpnmagGreatFmt
open Go Go.RowKit Go.Maps

set_option maxRecDepth 100000 in
theorem put_bad (l : List EntB) (a : Option Addr) (n c : Nat) (k : Int) (v : ByteArray) (w : World) (hn : l.length = n) (hS : EntsAt w a c l) (z : Int) (hz : bookE l = z) (h0 : z ≠ 0) :
    Calls Tryz.prog 60 #[.agg #[.slice a n c], .agg #[.int .i64 k, .string v]] w fun e w' => e = .returned (.tuple #[.agg #[.slice none 0 0], .int .i64 z]) ∧ Below w.heap.size w w' := by
  have hck := fun w' h => bcheck_any l a n c w' hn h
  rw [hz] at hck
  have HC := Lib.hid hck
  have hz' : (z == 0) = false := by simp only [beq_eq_false_iff_ne, ne_eq]; exact h0
  clear hck hz
  obtain ⟨q0, q1, q2, qs⟩ := boxes3 w (.cells #[.slice a n c] 24) (.cells #[.int .i64 k, .string v] 38) (.cells #[.slice none 0 0] 24)
  have hb0 := below3 w (.cells #[.slice a n c] 24) (.cells #[.int .i64 k, .string v] 38) (.cells #[.slice none 0 0] 24)
  go_enter Tryz.func60, Tryz.ntmps60
  go_wp2_with fail
  generalize (((w.alloc (.cells #[.slice a n c] 24)).alloc (.cells #[.int .i64 k, .string v] 38)).alloc (.cells #[.slice none 0 0] 24)) = W at q0 q1 q2 qs hb0 ⊢
  refine (HC.out W (hS.on hb0)).mono ?_
  rintro e w1 ⟨rfl, hb1⟩
  have r2 := heap_on hb1 q2
  have hb2 := below_on hb0 hb1
  clear hb0 hb1 q0 q1 q2 qs HC
  have t0 := heap_cell r2 0 _ rfl
  have t1 := frozen_of_row w1 (w.heap.size + 1 + 1) 0 _ _ r2
  go_wp2_with fail
  have hb3 := hb2.grown (set_grown w1 (w.heap.size + 1 + 1) 0 (.slice none 0 0)) hb2.size (fun j hj => by cases hj; omega)
  refine bodyPost_ret (results_row_tmp rfl _ _ (w.heap.size + 1 + 1) _ _ _ _ rfl (set_same r2 _) Tryz.underlying24 rfl (by kernel_rfl)) rfl ?_
  exact ⟨rfl, hb3⟩

set_option maxRecDepth 100000 in
theorem put_no (l : List EntB) (a : Option Addr) (n c : Nat) (k : Int) (v : ByteArray) (w : World) (hn : l.length = n) (hS : EntsAt w a c l) (hx : WideEnt (k, v)) (h : bookE l = 0) (z : Int) (hz : bookE (l ++ [(k, v)]) = z) (h0 : z ≠ 0) :
    Calls Tryz.prog 60 #[.agg #[.slice a n c], .agg #[.int .i64 k, .string v]] w fun e w' => e = .returned (.tuple #[.agg #[.slice none 0 0], .int .i64 z]) ∧ Below w.heap.size w w' := by
  have h24 := ((bookE_iff l).1 h).1
  have hck := fun w' h => bcheck_any l a n c w' hn h
  rw [h] at hck
  have hck2 := fun g w' h => bcheck_any (l ++ [(k, v)]) (some ⟨g, 0, none⟩) (n + 1) (n + 1) w' (by rw [List.length_append, hn]; rfl) h
  rw [hz] at hck2
  have hwi := fun w' hS => with_any l a n c k v w' hn hS hx (by omega)
  have HC := Lib.hid hck
  have HC2 := Lib.hid hck2
  have HW := Lib.hid hwi
  have hz' : (z == 0) = false := by simp only [beq_eq_false_iff_ne, ne_eq]; exact h0
  clear hck hck2 hwi hz h
  obtain ⟨q0, q1, q2, qs⟩ := boxes3 w (.cells #[.slice a n c] 24) (.cells #[.int .i64 k, .string v] 38) (.cells #[.slice none 0 0] 24)
  have hb0 := below3 w (.cells #[.slice a n c] 24) (.cells #[.int .i64 k, .string v] 38) (.cells #[.slice none 0 0] 24)
  go_enter Tryz.func60, Tryz.ntmps60
  go_wp2_with fail
  generalize (((w.alloc (.cells #[.slice a n c] 24)).alloc (.cells #[.int .i64 k, .string v] 38)).alloc (.cells #[.slice none 0 0] 24)) = W at q0 q1 q2 qs hb0 ⊢
  refine (HC.out W (hS.on hb0)).mono ?_
  rintro e w1 ⟨rfl, hb1⟩
  have r0 := heap_on hb1 q0
  have r1 := heap_on hb1 q1
  have r2 := heap_on hb1 q2
  have hb2 := below_on hb0 hb1
  clear hb0 hb1 q0 q1 q2 qs HC
  have d0 := heap_cell r0 0 _ rfl
  have d1 := heap_cell r1 0 _ rfl
  have d2 := heap_cell r1 1 _ rfl
  go_wp2_with fail
  refine (HW.out w1 (hS.on hb2)).mono ?_
  rintro e w2 ⟨g, rfl, _, hS2, hb3⟩
  have s2 := heap_on hb3 r2
  have hb3 := below_on hb2 hb3
  clear d0 d1 d2 r0 r1 r2 hb2 HW
  have u2 := heap_old w2 (.cells #[.slice (some ⟨g, 0, none⟩) (n + 1) (n + 1)] 24) s2
  have hb4 := hb3.alloc hb3.size (.cells #[.slice (some ⟨g, 0, none⟩) (n + 1) (n + 1)] 24)
  have hS4 := hS2.on ((Below.refl _ w2).alloc (Nat.le_refl _) (.cells #[.slice (some ⟨g, 0, none⟩) (n + 1) (n + 1)] 24))
  go_wp2_with fail
  generalize (w2.alloc (.cells #[.slice (some ⟨g, 0, none⟩) (n + 1) (n + 1)] 24)) = w4 at u2 hb4 hS4 ⊢
  refine (HC2.out g w4 hS4).mono ?_
  rintro e w5 ⟨rfl, hb5⟩
  have v2 := heap_on hb5 u2
  have hb5 := below_on hb4 hb5
  clear HC2 hS4 hb4 u2 s2 hS2 hb3
  have t0 := heap_cell v2 0 _ rfl
  have t1 := frozen_of_row w5 (w.heap.size + 1 + 1) 0 _ _ v2
  go_wp2_with fail
  have hb6 := hb5.grown (set_grown w5 (w.heap.size + 1 + 1) 0 (.slice none 0 0)) hb5.size (fun j hj => by cases hj; omega)
  refine bodyPost_ret (results_row_tmp rfl _ _ (w.heap.size + 1 + 1) _ _ _ _ rfl (set_same v2 _) Tryz.underlying24 rfl (by kernel_rfl)) rfl ?_
  exact ⟨rfl, hb6⟩

set_option maxRecDepth 100000 in
theorem put_at (l : List EntB) (a : Option Addr) (n c : Nat) (k : Int) (v : ByteArray) (w : World) (hn : l.length = n) (hS : EntsAt w a c l) (hx : WideEnt (k, v)) (h : bookE l = 0) (hz : bookE (l ++ [(k, v)]) = 0) :
    Calls Tryz.prog 60 #[.agg #[.slice a n c], .agg #[.int .i64 k, .string v]] w fun e w' => ∃ g, e = .returned (.tuple #[.agg #[.slice (some ⟨g, 0, none⟩) (n + 1) (n + 1)], .int .i64 0]) ∧ w.heap.size ≤ g ∧ EntsAt w' (some ⟨g, 0, none⟩) (n + 1) (l ++ [(k, v)]) ∧ Below w.heap.size w w' := by
  have h24 := ((bookE_iff l).1 h).1
  have hck := fun w' h => bcheck_any l a n c w' hn h
  rw [h] at hck
  have hck2 := fun g w' h => bcheck_any (l ++ [(k, v)]) (some ⟨g, 0, none⟩) (n + 1) (n + 1) w' (by rw [List.length_append, hn]; rfl) h
  rw [hz] at hck2
  have hwi := fun w' hS => with_any l a n c k v w' hn hS hx (by omega)
  have HC := Lib.hid hck
  have HC2 := Lib.hid hck2
  have HW := Lib.hid hwi
  clear hck hck2 hwi hz h
  obtain ⟨q0, q1, q2, qs⟩ := boxes3 w (.cells #[.slice a n c] 24) (.cells #[.int .i64 k, .string v] 38) (.cells #[.slice none 0 0] 24)
  have hb0 := below3 w (.cells #[.slice a n c] 24) (.cells #[.int .i64 k, .string v] 38) (.cells #[.slice none 0 0] 24)
  go_enter Tryz.func60, Tryz.ntmps60
  go_wp2_with fail
  generalize (((w.alloc (.cells #[.slice a n c] 24)).alloc (.cells #[.int .i64 k, .string v] 38)).alloc (.cells #[.slice none 0 0] 24)) = W at q0 q1 q2 qs hb0 ⊢
  refine (HC.out W (hS.on hb0)).mono ?_
  rintro e w1 ⟨rfl, hb1⟩
  have r0 := heap_on hb1 q0
  have r1 := heap_on hb1 q1
  have r2 := heap_on hb1 q2
  have hb2 := below_on hb0 hb1
  have hlt2 := (Array.getElem?_eq_some_iff.1 r2).1
  clear hb0 hb1 q0 q1 q2 qs HC
  have d0 := heap_cell r0 0 _ rfl
  have d1 := heap_cell r1 0 _ rfl
  have d2 := heap_cell r1 1 _ rfl
  go_wp2_with fail
  refine (HW.out w1 (hS.on hb2)).mono ?_
  rintro e w2 ⟨g, rfl, hgb, hS2, hb3⟩
  have hgw : w.heap.size ≤ g := Nat.le_trans hb2.size hgb
  have s2 := heap_on hb3 r2
  have hb3 := below_on hb2 hb3
  clear d0 d1 d2 r0 r1 r2 hb2 HW
  have u2 := heap_old w2 (.cells #[.slice (some ⟨g, 0, none⟩) (n + 1) (n + 1)] 24) s2
  have u3 := heap_push w2 (.cells #[.slice (some ⟨g, 0, none⟩) (n + 1) (n + 1)] 24)
  have hb4 := hb3.alloc hb3.size (.cells #[.slice (some ⟨g, 0, none⟩) (n + 1) (n + 1)] 24)
  have hS4 := hS2.on ((Below.refl _ w2).alloc (Nat.le_refl _) (.cells #[.slice (some ⟨g, 0, none⟩) (n + 1) (n + 1)] 24))
  go_wp2_with fail
  generalize (w2.alloc (.cells #[.slice (some ⟨g, 0, none⟩) (n + 1) (n + 1)] 24)) = w4 at u2 u3 hb4 hS4 ⊢
  generalize w2.heap.size = B3 at u3 ⊢
  refine (HC2.out g w4 hS4).mono ?_
  rintro e w5 ⟨rfl, hb5⟩
  have v2 := heap_on hb5 u2
  have v3 := heap_on hb5 u3
  have hS5 := hS4.on hb5
  have hb5 := below_on hb4 hb5
  clear HC2 hS4 hb4 u2 u3 s2 hS2 hb3
  have t0 := heap_cell v2 0 _ rfl
  have t1 := frozen_of_row w5 (w.heap.size + 1 + 1) 0 _ _ v2
  have t2 := heap_cell v3 0 _ rfl
  go_wp2_with fail
  have hg6 := set_grown w5 (w.heap.size + 1 + 1) 0 (.slice (some ⟨g, 0, none⟩) (n + 1) (n + 1))
  have hb6 := hb5.grown hg6 hb5.size (fun j hj => by cases hj; omega)
  have hS6 := hS5.grown hg6 (fun b off e => by injection e with e; injection e with e _ _; intro e2; injection e2 with e2; omega)
  refine bodyPost_ret (results_row_tmp rfl _ _ (w.heap.size + 1 + 1) _ _ _ _ rfl (set_same v2 _) Tryz.underlying24 rfl (by kernel_rfl)) rfl ?_
  exact ⟨g, rfl, hgw, hS6, hb6⟩
theorem put_ok (l : List EntB) (a : Option Addr) (n c : Nat) (k : Int) (v : ByteArray) (w : World) (hn : l.length = n) (hS : EntsAt w a c l) (hx : WideEnt (k, v)) (h : bookE l = 0) (hz : bookE (l ++ [(k, v)]) = 0) :
    Calls Tryz.prog 60 #[.agg #[.slice a n c], .agg #[.int .i64 k, .string v]] w fun e w' => ∃ g, e = .returned (.tuple #[.agg #[.slice (some ⟨g, 0, none⟩) (n + 1) (n + 1)], .int .i64 0]) ∧ EntsAt w' (some ⟨g, 0, none⟩) (n + 1) (l ++ [(k, v)]) ∧ Below w.heap.size w w' :=
  (put_at l a n c k v w hn hS hx h hz).mono fun _ _ ⟨g, he, _, hS', hb⟩ => ⟨g, he, hS', hb⟩

/- Head. -/
set_option maxRecDepth 100000 in
theorem head_no (l : List EntB) (a : Option Addr) (n c : Nat) (w : World) (hn : l.length = n) (hS : EntsAt w a c l) (z : Int) (hz : bookE l = z) (h0 : z ≠ 0) :
    Calls Tryz.prog 23 #[.agg #[.slice a n c]] w fun e w' => e = .returned (.tuple #[.agg #[.int .i64 0, .string ⟨#[]⟩, .string ⟨#[]⟩], .int .i64 z]) ∧ Below w.heap.size w w' := by
  have hva := fun w' hS => vals_no l a n c w' hn hS z hz h0
  have HV := Lib.hid hva
  have hz' : (z == 0) = false := by simp only [beq_eq_false_iff_ne, ne_eq]; exact h0
  clear hva hz
  obtain ⟨q0, q1, hb0⟩ := boxes2 w (.cells #[.slice a n c] 24) (.cells #[.int .i64 0, .string ⟨#[]⟩, .string ⟨#[]⟩] 40)
  go_enter Tryz.func23, Tryz.ntmps23
  go_wp2_with fail
  generalize ((w.alloc (.cells #[.slice a n c] 24)).alloc (.cells #[.int .i64 0, .string ⟨#[]⟩, .string ⟨#[]⟩] 40)) = W at q0 q1 hb0 ⊢
  refine (HV.out W (hS.on hb0)).mono ?_
  rintro e w1 ⟨rfl, hb1⟩
  have r1 := heap_on hb1 q1
  have hb2 := below_on hb0 hb1
  clear hb0 hb1 q0 q1 HV
  go_wp2_with (refine wpList_store_row rfl 40 (.tmp 2) (.tmp 15) rfl (w.heap.size + 1) #[.int .i64 0, .string ⟨#[]⟩, .string ⟨#[]⟩] rfl rfl _ _ r1 (by kernel_rfl) rfl (head_cells _ _ _) ?_)
  have hb3 := below_setRow hb2 (g := w.heap.size + 1) (by omega) #[.int .i64 0, .string ⟨#[]⟩, .string ⟨#[]⟩]
  refine bodyPost_ret (results_row_tmp rfl _ _ (w.heap.size + 1) _ _ _ _ rfl (setRow_heap _ _ _ _ _ _ r1) Tryz.underlying40 rfl (by kernel_rfl)) rfl ?_
  exact ⟨rfl, hb3⟩

def headV (l : List EntB) : Value := .agg #[.int .i64 (l.length : Int), .string (headLog l), .string (headMap l)]

set_option maxRecDepth 100000 in
theorem head_ok (l : List EntB) (a : Option Addr) (n c : Nat) (w : World) (hE : Tab w) (hn : l.length = n) (hS : EntsAt w a c l) (hG : GoodBook l) :
    Calls Tryz.prog 23 #[.agg #[.slice a n c]] w fun e w' => e = .returned (.tuple #[.agg #[.int .i64 (n : Int), .string (headLog l), .string (headMap l)], .int .i64 0]) ∧ Below w.heap.size w w' := by
  have hva := fun w' hS => vals_ok l a n c w' hn hS hG
  have htx := fun w' hE hS => texts_any l a n c w' hn hE hS (fun e he => by have := (hG.2 e he).2.2; omega) (by have := hG.1; omega)
  have hrt := fun a c w' hE hS => root_ok (textsE l) (headLog l) (headLog_root hG) a n c w' (by rw [textsE_len, hn]) hE hS
  have htr := fun p w' hE hM => root_good (some p) (valsD l) w' hE hM (valsD_good hG.2)
  have hmax := hS.max
  have hcap := hS.cap
  have hlm : headMap l = trieT (valN (valsD l)) 4 0 := rfl
  rw [← hlm] at htr
  generalize headMap l = hm at htr ⊢
  generalize headLog l = hl at hrt ⊢
  have HV := Lib.hid hva
  have HT := Lib.hid htx
  have HR := Lib.hid hrt
  have HM := Lib.hid htr
  clear hva htx hrt htr hlm
  obtain ⟨q0, q1, hb0⟩ := boxes2 w (.cells #[.slice a n c] 24) (.cells #[.int .i64 0, .string ⟨#[]⟩, .string ⟨#[]⟩] 40)
  go_enter Tryz.func23, Tryz.ntmps23
  go_wp2_with fail
  generalize ((w.alloc (.cells #[.slice a n c] 24)).alloc (.cells #[.int .i64 0, .string ⟨#[]⟩, .string ⟨#[]⟩] 40)) = W at q0 q1 hb0 ⊢
  refine (HV.out W (hS.on hb0)).mono ?_
  rintro e w1 ⟨p, rfl, hM, _, hb1⟩
  have r0 := heap_on hb1 q0
  have r1 := heap_on hb1 q1
  have hb2 := below_on hb0 hb1
  clear hb0 hb1 q0 q1 HV
  have d0 := heap_cell r0 0 _ rfl
  go_wp2_with fail
  refine (HT.out w1 (hE.on hb2) (hS.on hb2)).mono ?_
  rintro e w2 ⟨a', c', rfl, hSx, hb3⟩
  have s0 := heap_on hb3 r0
  have s1 := heap_on hb3 r1
  have hM := hM.on hb3
  have hb3 := below_on hb2 hb3
  clear r0 r1 hb2 HT d0
  go_wp2_with fail
  refine (HR.out a' c' w2 (hE.on hb3) hSx).mono ?_
  rintro e w3 ⟨rfl, hb4⟩
  have r0 := heap_on hb4 s0
  have r1 := heap_on hb4 s1
  have hM := hM.on hb4
  have hb4 := below_on hb3 hb4
  clear s0 s1 hb3 HR hSx
  go_wp2_with fail
  refine (HM.out p w3 (hE.on hb4) hM).mono ?_
  rintro e w4 ⟨rfl, hb5⟩
  have s0 := heap_on hb5 r0
  have s1 := heap_on hb5 r1
  have hb5 := below_on hb4 hb5
  clear r0 r1 hb4 HM hM
  have d0 := heap_cell s0 0 _ rfl
  go_wp2_with (refine wpList_store_row rfl 40 (.tmp 2) (.tmp 41) rfl (w.heap.size + 1) #[.int .i64 (n : Int), .string hl, .string hm] rfl rfl _ _ s1 (by kernel_rfl) rfl (head_cells _ _ _) ?_)
  have hb6 := below_setRow hb5 (g := w.heap.size + 1) (by omega) #[.int .i64 (n : Int), .string hl, .string hm]
  refine bodyPost_ret (results_row_tmp rfl _ _ (w.heap.size + 1) _ _ _ _ rfl (setRow_heap _ _ _ _ _ _ s1) Tryz.underlying40 rfl (by kernel_rfl)) rfl ?_
  exact ⟨rfl, hb6⟩
end Go.Proofs.YtnemiobgmdpnmagGreatFmt
namespace Go.Proofs.YtnemiobgmdpnmagGreatFmt
open Go Go.RowKit

theorem ents_owned {w : World} {base : Nat} {e : TypeId} {a : Option Addr} {c n : Nat} {l : List EntB} (h : w.ownsRow base e 2 (.slice a n c) n (entCells l)) (hs : ∀ s ∈ l, WideEnt s) : EntsAt w a c l := by
  obtain ⟨a', c', hv, _, hE⟩ := ents_own h hs
  injection hv with e1 _ e3
  subst e1 e3
  exact hE
theorem owns_base {w : World} {b b' : Nat} {e : TypeId} {size n : Nat} {v : Value} {xs : List Value} (h : w.ownsRow b' e size v n xs) (hb : b ≤ b') : w.ownsRow b e size v n xs := by
  refine ⟨h.1, ?_⟩
  rcases h.2 with h0 | ⟨g, cap, cur, hv, hg, r⟩
  · exact .inl h0
  · exact .inr ⟨g, cap, cur, hv, Nat.le_trans hb hg, r⟩
theorem heap_push2 (w : World) (a b : Obj) : ((w.alloc a).alloc b).heap[w.heap.size + 1]? = some b := (boxes2 w a b).2.1

theorem bx_post {X wC wP : World} {row : Option Nat} {gb gP : Nat} {b : Obj} (hg : X.grownBy wP row) (hat : row = some gP ∨ gP = X.heap.size) (hlo : ∀ k, row = some k → k < wC.heap.size) (h : X.heap[gb]? = some b) (hge : wC.heap.size ≤ gb) : wP.heap[gb]? = some b ∧ gP ≠ gb := by
  have hlt := (Array.getElem?_eq_some_iff.1 h).1
  refine ⟨heap_kept hg h (fun e => by have := hlo gb e; omega), ?_⟩
  rcases hat with e | e
  · have := hlo gP e; omega
  · omega
theorem bx_pre {XC X wC wP : World} {row : Option Nat} {gb gP : Nat} {b : Obj} (hg : X.grownBy wP row) (hat : row = some gP ∨ gP = X.heap.size) (hbC : Below XC.heap.size XC wC) (hlo : ∀ k, row = some k → XC.heap.size ≤ k) (h : XC.heap[gb]? = some b) (hbX : Below wC.heap.size wC X) : wP.heap[gb]? = some b ∧ gP ≠ gb := by
  have hlt := (Array.getElem?_eq_some_iff.1 h).1
  have hX := heap_on hbX (heap_on hbC h)
  have hltX := (Array.getElem?_eq_some_iff.1 hX).1
  refine ⟨heap_kept hg hX (fun e => by have := hlo gb e; omega), ?_⟩
  rcases hat with e | e
  · have := hlo gP e; omega
  · omega

theorem append_ent {o : Oper} {a : Act} {w : World} {K : Act → World → Prop} {Q : Exit → Act → World → Prop} (ho : o.op = .call { callee := .builtin .append, args := #[.tmp 98, .tmp 100], argTypes := #[22, 22] })
    (l : List EntB) (n : Nat) (k : Int) (v : ByteArray) (B b : Nat) (u : Value) (hlen : n ≤ 1000) (hu : a.eval (.tmp 98) = u) (hx : a.eval (.tmp 100) = .slice (some ⟨b, 0, none⟩) 1 1)
    (hown : w.ownsRow B 38 2 u n (entCells l)) (hnews : w.heap[b]? = some (.cells #[.int .i64 k, .string v] 38 (0, 0))) (hB : B ≤ w.heap.size)
    (h : ∀ g' cap' w', w'.ownsRow B 38 2 (.slice (some ⟨g', 0, none⟩) (n + 1) cap') (n + 1) (entCells (l ++ [(k, v)])) → w.grownBy w' u.ownBlock → (u.ownBlock = some g' ∨ g' = w.heap.size) → (∀ j, u.ownBlock = some j → B ≤ j) → K (a.put o.dst (.slice (some ⟨g', 0, none⟩) (n + 1) cap')) w') : o.wp Tryz.prog a w K Q := by
  obtain ⟨i0, hi0, hz0, hz1, hz2⟩ := info_parts infoEntry
  refine wp_append_lies w (.tmp 98) (.tmp 100) 22 ho B 38 i0 (.agg #[.int .i64 0, .string ⟨#[]⟩]) 2 24 Tryz.underlying22 hi0 hz0 hz1 hz2 rfl (by decide) u n (entCells l) hu hown ⟨b, 0, none⟩ 1 1 [.int .i64 k, .string v] hx rfl
    (World.news_of_block (cs := #[.int .i64 k, .string v]) (t := 38) (fr := (0, 0)) hnews) ?_ (by omega) (by unfold maxLen; omega) (by omega) hB _ rfl ?_
  · intro s hs
    simp only [List.mem_cons, List.not_mem_nil, or_false] at hs
    rcases hs with rfl | rfl <;> rfl
  · intro g' cap' w' h1 h2 h3 _
    refine h g' cap' w' ?_ h2 h3 (fun j hj => (hown.lt j hj).1)
    rw [entCells_app]
    exact h1

theorem held4 {w5 cur w' : World} {b1 b2 : Nat} {v1 v2 v3 : Value} (k1 : b1 < w5.heap.size) (k2 : b2 < w5.heap.size)
    (h : Below w5.heap.size w5 cur ∧ cur.cell? ⟨b1, 0, none⟩ = some v1 ∧ cur.cell? ⟨b2, 0, none⟩ = some v2 ∧ cur.cell? ⟨b2, 1, none⟩ = some v3) (hb : Below cur.heap.size cur w') :
    Below w5.heap.size w5 w' ∧ w'.cell? ⟨b1, 0, none⟩ = some v1 ∧ w'.cell? ⟨b2, 0, none⟩ = some v2 ∧ w'.cell? ⟨b2, 1, none⟩ = some v3 := by
  have key : ∀ (b j : Nat) (u : Value), b < w5.heap.size → cur.cell? ⟨b, j, none⟩ = some u → w'.cell? ⟨b, j, none⟩ = some u := fun b j u hlt hu => by
    rw [hb.cell (Nat.lt_of_lt_of_le hlt h.1.size)]; exact hu
  obtain ⟨h0, h1, h2, h3⟩ := h
  exact ⟨below_on h0 hb, key _ _ _ k1 h1, key _ _ _ k2 h2, key _ _ _ k2 h3⟩
theorem held4g {w5 cur w' : World} {b1 b2 : Nat} {v1 v2 v3 : Value} {row : Option Nat} (k1 : b1 < w5.heap.size) (k2 : b2 < w5.heap.size) (hg : cur.grownBy w' row) (hr : ∀ j, row = some j → w5.heap.size ≤ j)
    (h : Below w5.heap.size w5 cur ∧ cur.cell? ⟨b1, 0, none⟩ = some v1 ∧ cur.cell? ⟨b2, 0, none⟩ = some v2 ∧ cur.cell? ⟨b2, 1, none⟩ = some v3) :
    Below w5.heap.size w5 w' ∧ w'.cell? ⟨b1, 0, none⟩ = some v1 ∧ w'.cell? ⟨b2, 0, none⟩ = some v2 ∧ w'.cell? ⟨b2, 1, none⟩ = some v3 := by
  have hb := h.1.grown hg h.1.size hr
  have key : ∀ (b j : Nat) (u : Value), b < w5.heap.size → cur.cell? ⟨b, j, none⟩ = some u → w'.cell? ⟨b, j, none⟩ = some u := fun b j u hlt hu => by
    rw [hb.cell (p := ⟨b, j, none⟩) hlt, ← h.1.cell (p := ⟨b, j, none⟩) hlt]; exact hu
  obtain ⟨h0, h1, h2, h3⟩ := h
  exact ⟨hb, key _ _ _ k1 h1, key _ _ _ k2 h2, key _ _ _ k2 h3⟩
theorem held4_size {w5 cur wC : World} {b1 b2 : Nat} {v1 v2 v3 : Value} (hb : Below cur.heap.size cur wC) (h : Below w5.heap.size w5 cur ∧ cur.cell? ⟨b1, 0, none⟩ = some v1 ∧ cur.cell? ⟨b2, 0, none⟩ = some v2 ∧ cur.cell? ⟨b2, 1, none⟩ = some v3) : w5.heap.size ≤ cur.heap.size ∧ w5.heap.size ≤ wC.heap.size := by
  have h1 := h.1.size
  have h2 := hb.size
  omega
theorem held4_le {w5 cur : World} {b1 b2 : Nat} {v1 v2 v3 : Value} (h : Below w5.heap.size w5 cur ∧ cur.cell? ⟨b1, 0, none⟩ = some v1 ∧ cur.cell? ⟨b2, 0, none⟩ = some v2 ∧ cur.cell? ⟨b2, 1, none⟩ = some v3) : w5.heap.size ≤ cur.heap.size := h.1.size
end Go.Proofs.YtnemiobgmdpnmagGreatFmt
namespace Go.Proofs.YtnemiobgmdpnmagGreatFmt
open Go Go.RowKit Go.Maps

def lastV : List EntB → Int → Option ByteArray
  | [], _ => none
  | e :: l, k => (lastV l k).or (if k = e.1 then some e.2 else none)
theorem foldl_last : ∀ (l : List EntB) {D : DataW Unit} (_ : Tidy D) (k : Int), valD (l.foldl putE D) k = (lastV l k).or (valD D k)
  | [], _, _, _ => by simp [lastV]
  | e :: l, D, h, k => by
    show valD (l.foldl putE (putE D e)) k = ((lastV l k).or (if k = e.1 then some e.2 else none)).or (valD D k)
    rw [foldl_last l (putE_tidy h e) k, putE_val h, Option.or_assoc]
    by_cases hk : k = e.1
    · rw [if_pos hk, if_pos hk]; rfl
    · rw [if_neg hk, if_neg hk]; rfl
theorem vals_last (l : List EntB) (k : Int) : valD (valsD l) k = lastV l k := by
  unfold valsD
  rw [foldl_last l ⟨[], rfl, List.Pairwise.nil⟩ k, valD_empty]
  simp

def backD : List EntB → DataW Unit
  | [] => .map []
  | e :: l => if (valD (backD l) e.1).isSome = true then backD l else putE (backD l) e
theorem backD_tidy : ∀ l : List EntB, Tidy (backD l)
  | [] => ⟨[], rfl, List.Pairwise.nil⟩
  | e :: l => by
    show Tidy (if (valD (backD l) e.1).isSome = true then backD l else putE (backD l) e)
    split
    · exact backD_tidy l
    · exact putE_tidy (backD_tidy l) e
theorem back_last : ∀ (l : List EntB) (k : Int), valD (backD l) k = lastV l k
  | [], k => valD_empty k
  | e :: l, k => by
    show valD (if (valD (backD l) e.1).isSome = true then backD l else putE (backD l) e) k = (lastV l k).or (if k = e.1 then some e.2 else none)
    by_cases h : (valD (backD l) e.1).isSome = true
    · rw [if_pos h, back_last l k]
      by_cases hk : k = e.1
      · subst hk
        rw [back_last l e.1] at h
        obtain ⟨s, hs⟩ := Option.isSome_iff_exists.1 h
        rw [hs]; rfl
      · rw [if_neg hk]; simp
    · rw [if_neg h, putE_val (backD_tidy l)]
      by_cases hk : k = e.1
      · subst hk
        rw [if_pos rfl, if_pos rfl]
        rw [back_last l e.1] at h
        cases hv : lastV l e.1 with
        | none => rfl
        | some s => rw [hv] at h; exact absurd rfl h
      · rw [if_neg hk, if_neg hk, back_last l k]; simp
theorem back_vals (l : List EntB) (k : Int) : valD (backD l) k = valD (valsD l) k := by rw [back_last, vals_last]
theorem back_good {l : List EntB} (h : GoodBook l) : GoodMap (backD l) := fun k s hs => valsD_good h.2 k s (by rw [← back_vals]; exact hs)
theorem back_root (l : List EntB) : trieT (valN (backD l)) 4 0 = headMap l := trieT_congr 4 0 (fun k _ _ => back_vals l (k : Int))
theorem back_alike {l : List EntB} (h : GoodBook l) (h1 : TextMap (valsD l)) (h2 : TextMap (backD l)) : Lib.equalFuncD eqD (valsD l) (backD l) = true :=
  (alike_iff h1 h2 (valsD_good h.2) (back_good h)).2 (fun k _ => (back_vals l (k : Int)).symm)
theorem back_drop {l : List EntB} {i : Nat} (h : i < l.length) : backD (l.drop i) = if (valD (backD (l.drop (i + 1))) (entAt l i).1).isSome = true then backD (l.drop (i + 1)) else putE (backD (l.drop (i + 1))) (entAt l i) := by
  rw [ents_drop h]
  rfl
end Go.Proofs.YtnemiobgmdpnmagGreatFmt
namespace Go.Proofs.YtnemiobgmdpnmagGreatFmt
open Go Go.RowKit

theorem infoClient : (Tryz.prog.info? 42).map (fun i => (i.zero, i.size, i.bytes)) = some (some (.agg #[.int .i64 0, .string ⟨#[]⟩, .string ⟨#[]⟩, .bool false]), 4, 48) := by kernel_rfl


/- A copy: memory of its own, that may be written. -/
set_option maxRecDepth 100000 in
theorem clone_clis (l : List CliB) (a : Option Addr) (n c : Nat) (w : World) (hn : l.length = n) (h0 : 0 < n) (hbig : n ≤ 1000) (hS : ClisAt w a c l) :
    Calls Tryz.prog 40 #[.slice a n c] w fun e w' => ∃ g cap, e = .returned (.slice (some ⟨g, 0, none⟩) n cap) ∧ w'.ownsRow w.heap.size 42 4 (.slice (some ⟨g, 0, none⟩) n cap) n (cliCells l) ∧ Below w.heap.size w w' := by
  obtain ⟨b, off, rfl, hlt, hc⟩ := hS.cells (by omega)
  obtain ⟨ad, had, hsrc⟩ := hS.src (by omega)
  injection had with had
  subst had
  obtain ⟨i0, hi0, hz0, hz1, hz2⟩ := info_parts infoClient
  have q24 : ∀ (w : World) (a : Option Addr) (n c n' c' : Nat), (binOp .eql 26 (.slice a n c) (.slice none n' c')).run Tryz.prog w = .ok (.bool a.isNone) w := fun w a n c n' c' => Lib.run_eql_slice_nil w _ _ a n c n' c' Tryz.underlying26
  have u24 : ∀ w, Sem.run Tryz.prog (underlying 26) w = .ok (TypeDesc.slice 42) w := run_underlying Tryz.underlying26
  have A := Lib.hid hsrc
  clear hc hsrc
  go_enter Tryz.func40, Tryz.ntmps40
  go_wp2_with (at_builtin; refine wpList_append_lies _ rfl _ _ 26 rfl w.heap.size 42 i0 (.agg #[.int .i64 0, .string ⟨#[]⟩, .string ⟨#[]⟩, .bool false]) 4 48 Tryz.underlying26 hi0 hz0 hz1 hz2 rfl (by decide) _ _ _ rfl (World.ownsRow_made w #[] 0 (Nat.le_refl _) (Nat.zero_le _) rfl) ⟨b, off, none⟩ n c (cliCells l) rfl ?c0 ?c1 ?c2 h0 ?c3 ?c4 ?c5 _ rfl ?_)
  case c0 => rw [cliCells_len, hn]
  case c1 =>
    intro j u hj
    have hj := A.out j u hj
    rw [Addr.add_lit] at hj ⊢
    exact Lib.cell?_alloc_some _ hj
  case c2 => exact cliCells_one l
  case c3 => unfold maxLen; omega
  case c4 => omega
  case c5 => simp
  intro g cap w1 hown hgrow _ _
  have hb : Below w.heap.size w w1 := ((Below.refl _ w).alloc (Nat.le_refl _) _).grown hgrow (by simp) (by intro k hk; simp [Value.ownBlock] at hk; omega)
  go_wp2_with fail
  go_ret
  refine ⟨g, cap, ?_, ?_, hb⟩
  · simp
  · simpa using hown
end Go.Proofs.YtnemiobgmdpnmagGreatFmt
namespace Go.Proofs.YtnemiobgmdpnmagGreatFmt
open Go Go.RowKit

/- A list that stayed where it was, or lies in new memory. -/
def NewOr (w : World) (a : Option Addr) (l : List EntB) (b : Option Addr) (m : List EntB) : Prop := (b = a ∧ m = l) ∨ ∀ blk off, b = some ⟨blk, off, none⟩ → w.heap.size ≤ blk
theorem newOr_none (w : World) (a : Option Addr) (l m : List EntB) : NewOr w a l none m := .inr fun _ _ h => by cases h
theorem newOr_at {w : World} {a : Option Addr} {l m : List EntB} {g : Nat} (h : w.heap.size ≤ g) : NewOr w a l (some ⟨g, 0, none⟩) m := .inr fun _ _ e => by injection e with e; injection e with e _ _; omega
theorem new_at {w : World} {g : Nat} (h : w.heap.size ≤ g) : ∀ blk off, (some ⟨g, 0, none⟩ : Option Addr) = some ⟨blk, off, none⟩ → w.heap.size ≤ blk := fun _ _ e => by injection e with e; injection e with e _ _; omega
/- The cells of a block of clients, of which the first ones are these. -/
def CurIs (cur : Array Value) (l : List CliB) : Prop := ∀ i, i < l.length → cur[i * 4]? = some (.int .i64 (cliOf l i).1) ∧ cur[i * 4 + 1]? = some (.string (cliOf l i).2.1) ∧ cur[i * 4 + 2]? = some (.string (cliOf l i).2.2.1) ∧ cur[i * 4 + 3]? = some (.bool (cliOf l i).2.2.2)
theorem cur_of {cur : Array Value} {l : List CliB} {n : Nat} (hn : l.length = n) (h : cur.toList.take (n * 4) = cliCells l) : CurIs cur l := by
  intro i hi
  obtain ⟨e1, e2, e3, e4⟩ := cliCells_at l i hi
  rw [← h] at e1 e2 e3 e4
  rw [List.getElem?_take, if_pos (by omega), Array.getElem?_toList] at e1 e2 e3 e4
  exact ⟨e1, e2, e3, e4⟩
theorem CurIs.four {w : World} {g : Nat} {cur : Array Value} {t : TypeId} {l : List CliB} (hc : CurIs cur l) (h : w.heap[g]? = some (.cells cur t)) {i : Nat} (hi : i < l.length) : fourAt w g (i * 4) (cliOf l i) := by
  obtain ⟨e1, e2, e3, e4⟩ := hc i hi
  exact ⟨heap_cell h _ _ e1, heap_cell h _ _ e2, heap_cell h _ _ e3, heap_cell h _ _ e4⟩
theorem CurIs.clis {w : World} {g cap : Nat} {cur : Array Value} {t : TypeId} {l : List CliB} (hc : CurIs cur l) (h : w.heap[g]? = some (.cells cur t)) (hl : l.length ≤ cap) (hm : cap ≤ maxLen) (hs : ∀ e ∈ l, WideCli e) : ClisAt w (some ⟨g, 0, none⟩) cap l :=
  ⟨hl, by unfold maxLen at hm; omega, hs, fun _ => ⟨g, 0, rfl, (Array.getElem?_eq_some_iff.1 h).1, fun i hi => by rw [Nat.zero_add]; exact hc.four h hi⟩⟩
theorem own_cur {w : World} {base : Nat} {e : TypeId} {g n cap : Nat} {l : List CliB} (h : w.ownsRow base e 4 (.slice (some ⟨g, 0, none⟩) n cap) n (cliCells l)) : ∃ cur, w.heap[g]? = some (.cells cur e) ∧ base ≤ g ∧ n ≤ cap ∧ cap ≤ maxLen ∧ CurIs cur l ∧ cur.size = cap * 4 := by
  have hln : l.length = n := by have := h.1; rw [cliCells_len] at this; omega
  rcases h.2 with ⟨h0, _⟩ | ⟨g', cap', cur, hv, hb, hg, hnc, hm, hsz, hcur⟩
  · cases h0
  · injection hv with e1 _ e3
    injection e1 with e1
    injection e1 with e1 _
    subst e1 e3
    exact ⟨cur, hg, hb, hnc, hm, cur_of hln hcur, hsz⟩
/- The book of a side, in memory. -/
theorem side_cell {w : World} {g : Nat} {x y z : Value} {t : TypeId} (h : w.heap[g]? = some (.cells #[x, y, z] t)) {s : Nat} (hs : s < 2) : w.cell? ⟨g, s, none⟩ = some (if s = 0 then x else y) := by
  rcases Nat.lt_or_ge s 1 with h1 | h1
  · obtain rfl : s = 0 := by omega
    exact heap_cell h 0 _ rfl
  · obtain rfl : s = 1 := by omega
    exact heap_cell h 1 _ rfl
theorem side_ents {w : World} {a0 : Option Addr} {n0 c0 : Nat} {a1 : Option Addr} {n1 c1 : Nat} {a2 : Option Addr} {n2 c2 : Nat} {W : WB} (h : WAt w a0 n0 c0 a1 n1 c1 a2 n2 c2 W) (s : Nat) :
    ∃ sa sn sc, (if s = 0 then Value.slice a0 n0 c0 else Value.slice a1 n1 c1) = .slice sa sn sc ∧ (sideL W s).length = sn ∧ EntsAt w sa sc (sideL W s) := by
  by_cases h0 : s = 0
  · subst h0
    exact ⟨a0, n0, c0, rfl, h.l0, h.e0⟩
  · refine ⟨a1, n1, c1, if_neg h0, ?_⟩
    have e : sideL W s = W.b1 := if_neg (by omega)
    rw [e]
    exact ⟨h.l1, h.e1⟩
/- A side's book is another one. -/
def side3 (s : Nat) (v x y z : Value) : Array Value := if s = 0 then #[v, y, z] else #[x, v, z]
/- Nothing is another but what is new, and one block. -/
theorem grow_trans {w5 cur w' : World} {g : Nat} {row : Option Nat} (h : w5.grownBy cur (some g)) (hg : cur.grownBy w' row) (hr : ∀ j, row = some j → j = g ∨ w5.heap.size ≤ j) : w5.grownBy w' (some g) := by
  refine ⟨hg.os.trans h.os, hg.tape.trans h.tape, hg.output.trans h.output, Nat.le_trans h.size hg.size, fun k hk hne => ?_⟩
  rw [hg.block k (Nat.lt_of_lt_of_le hk h.size) (fun e => ?_)]
  · exact h.block k hk hne
  · rcases hr k e.symm with e1 | e1
    · exact hne (by rw [e1])
    · omega
theorem below_grown {w w' : World} (h : Below w.heap.size w w') (row : Option Nat) : w.grownBy w' row := ⟨h.os, h.tape, h.output, h.size, fun k hk _ => h.block k hk⟩
/- What a region holds: the cells that it reads; a side's book may be another one. -/
def SideAt (w : World) (g s : Nat) (x y z : Value) (t : TypeId) : Prop := ∃ v, w.heap[g]? = some (.cells (side3 s v x y z) t)
theorem put4g {w5 cur w' : World} {g b1 b2 s : Nat} {x y z u1 u2 u3 u4 : Value} {t : TypeId} {row : Option Nat} (k0 : g < w5.heap.size) (k1 : b1 < w5.heap.size) (k2 : b2 < w5.heap.size) (hg : cur.grownBy w' row) (hr : ∀ j, row = some j → w5.heap.size ≤ j)
    (h : w5.grownBy cur (some g) ∧ SideAt cur g s x y z t ∧ cur.cell? ⟨b1, 1, none⟩ = some u1 ∧ cur.cell? ⟨b2, 0, none⟩ = some u2 ∧ cur.cell? ⟨b1, 4, none⟩ = some u3 ∧ cur.cell? ⟨b1, 5, none⟩ = some u4) :
    w5.grownBy w' (some g) ∧ SideAt w' g s x y z t ∧ w'.cell? ⟨b1, 1, none⟩ = some u1 ∧ w'.cell? ⟨b2, 0, none⟩ = some u2 ∧ w'.cell? ⟨b1, 4, none⟩ = some u3 ∧ w'.cell? ⟨b1, 5, none⟩ = some u4 := by
  obtain ⟨h0, ⟨v, hv⟩, h1, h2, h3, h4⟩ := h
  have hlt : ∀ b, b < w5.heap.size → b < cur.heap.size := fun b hb => Nat.lt_of_lt_of_le hb h0.size
  have hne : ∀ b, b < w5.heap.size → some b ≠ row := fun b hb e => by have := hr b e.symm; omega
  have key : ∀ (b j : Nat) (u : Value), b < w5.heap.size → cur.cell? ⟨b, j, none⟩ = some u → w'.cell? ⟨b, j, none⟩ = some u := fun b j u hb hu => hg.cell hu (hne b hb)
  exact ⟨grow_trans h0 hg (fun j hj => .inr (hr j hj)), ⟨v, by rw [hg.block g (hlt g k0) (hne g k0)]; exact hv⟩, key _ _ _ k1 h1, key _ _ _ k2 h2, key _ _ _ k1 h3, key _ _ _ k1 h4⟩
theorem put4b {w5 cur w' : World} {g b1 b2 s : Nat} {x y z u1 u2 u3 u4 : Value} {t : TypeId} (k0 : g < w5.heap.size) (k1 : b1 < w5.heap.size) (k2 : b2 < w5.heap.size)
    (h : w5.grownBy cur (some g) ∧ SideAt cur g s x y z t ∧ cur.cell? ⟨b1, 1, none⟩ = some u1 ∧ cur.cell? ⟨b2, 0, none⟩ = some u2 ∧ cur.cell? ⟨b1, 4, none⟩ = some u3 ∧ cur.cell? ⟨b1, 5, none⟩ = some u4) (hb : Below cur.heap.size cur w') :
    w5.grownBy w' (some g) ∧ SideAt w' g s x y z t ∧ w'.cell? ⟨b1, 1, none⟩ = some u1 ∧ w'.cell? ⟨b2, 0, none⟩ = some u2 ∧ w'.cell? ⟨b1, 4, none⟩ = some u3 ∧ w'.cell? ⟨b1, 5, none⟩ = some u4 :=
  put4g k0 k1 k2 (below_grown hb none) (fun j hj => by cases hj) h
theorem side_set {s : Nat} (v u x y z : Value) : (side3 s v x y z).setIfInBounds s u = side3 s u x y z ∨ 1 < s := by
  unfold side3
  rcases Nat.lt_or_ge s 2 with h | h
  · rcases Nat.lt_or_ge s 1 with h1 | h1
    · obtain rfl : s = 0 := by omega
      exact .inl rfl
    · obtain rfl : s = 1 := by omega
      exact .inl rfl
  · exact .inr h
theorem put4s {w5 cur : World} {g b1 b2 s : Nat} {x y z u1 u2 u3 u4 : Value} {t : TypeId} (u : Value) (hs : s < 2) (n1 : b1 ≠ g) (n2 : b2 ≠ g)
    (h : w5.grownBy cur (some g) ∧ SideAt cur g s x y z t ∧ cur.cell? ⟨b1, 1, none⟩ = some u1 ∧ cur.cell? ⟨b2, 0, none⟩ = some u2 ∧ cur.cell? ⟨b1, 4, none⟩ = some u3 ∧ cur.cell? ⟨b1, 5, none⟩ = some u4) :
    w5.grownBy (cur.setCell ⟨g, s, none⟩ u) (some g) ∧ SideAt (cur.setCell ⟨g, s, none⟩ u) g s x y z t ∧ (cur.setCell ⟨g, s, none⟩ u).cell? ⟨b1, 1, none⟩ = some u1 ∧ (cur.setCell ⟨g, s, none⟩ u).cell? ⟨b2, 0, none⟩ = some u2 ∧ (cur.setCell ⟨g, s, none⟩ u).cell? ⟨b1, 4, none⟩ = some u3 ∧ (cur.setCell ⟨g, s, none⟩ u).cell? ⟨b1, 5, none⟩ = some u4 := by
  obtain ⟨h0, ⟨v, hv⟩, h1, h2, h3, h4⟩ := h
  have key : ∀ (b j : Nat) (x : Value), b ≠ g → cur.cell? ⟨b, j, none⟩ = some x → (cur.setCell ⟨g, s, none⟩ u).cell? ⟨b, j, none⟩ = some x := fun b j x hb hx => (set_grown cur g s u).cell hx (fun e => hb (by injection e))
  refine ⟨grow_trans h0 (set_grown cur g s u) (fun j hj => .inl (by injection hj with hj; exact hj.symm)), ⟨u, ?_⟩, key _ _ _ n1 h1, key _ _ _ n2 h2, key _ _ _ n1 h3, key _ _ _ n1 h4⟩
  rw [heap_setCell_same cur g s _ _ u hv]
  rcases side_set (s := s) v u x y z with e | e
  · rw [e]
  · omega
theorem sideAt_cell {w : World} {g s : Nat} {x y z : Value} {t : TypeId} (h : SideAt w g s x y z t) (hs : s < 2) : ∃ v, w.cell? ⟨g, s, none⟩ = some v ∧ w.frozen? ⟨g, s, none⟩ = false := by
  obtain ⟨v, hv⟩ := h
  refine ⟨v, heap_cell hv s v ?_, frozen_of_row w g s _ _ hv⟩
  rcases Nat.lt_or_ge s 1 with h1 | h1
  · obtain rfl : s = 0 := by omega
    rfl
  · obtain rfl : s = 1 := by omega
    rfl
theorem sideAt_set {w : World} {g s : Nat} {x y z : Value} {t : TypeId} (h : SideAt w g s x y z t) (u : Value) (hs : s < 2) : (w.setCell ⟨g, s, none⟩ u).heap[g]? = some (.cells (side3 s u x y z) t) := by
  obtain ⟨v, hv⟩ := h
  rw [heap_setCell_same w g s _ _ u hv]
  rcases side_set (s := s) v u x y z with e | e
  · rw [e]
  · omega
theorem sideAt_of {w : World} {g : Nat} {x y z : Value} {t : TypeId} (h : w.heap[g]? = some (.cells #[x, y, z] t)) (s : Nat) : SideAt w g s x y z t := by
  refine ⟨if s = 0 then x else y, ?_⟩
  rw [h]
  unfold side3
  split <;> rfl
theorem row_grown (w : World) (g : Nat) (cs : Array Value) : w.grownBy (w.setRow g cs) (some g) := ⟨rfl, rfl, rfl, by simp, fun k _ hk => setRow_other w g k cs (fun e => hk (by rw [e]))⟩
theorem side3_cell {w : World} {g s : Nat} {v x y z : Value} {t : TypeId} (h : w.heap[g]? = some (.cells (side3 s v x y z) t)) (hs : s < 2) : w.cell? ⟨g, s, none⟩ = some v := by
  refine heap_cell h s v ?_
  rcases Nat.lt_or_ge s 1 with h1 | h1
  · obtain rfl : s = 0 := by omega
    rfl
  · obtain rfl : s = 1 := by omega
    rfl
theorem side3_is (w0 : World) (W : WB) (s : Nat) (a : Option Addr) (n c : Nat) (a0 : Option Addr) (n0 c0 : Nat) (a1 : Option Addr) (n1 c1 : Nat) (z : Value) (l : List EntB) (hnew : ∀ blk off, a = some ⟨blk, off, none⟩ → w0.heap.size ≤ blk) : ∃ b0 m0 d0 b1 m1 d1, side3 s (.slice a n c) (.slice a0 n0 c0) (.slice a1 n1 c1) z = #[.slice b0 m0 d0, .slice b1 m1 d1, z] ∧
    NewOr w0 a0 W.b0 b0 (setSide W s l).b0 ∧ NewOr w0 a1 W.b1 b1 (setSide W s l).b1 ∧
    ∀ (w w' : World) a2 n2 c2, WAt w a0 n0 c0 a1 n1 c1 a2 n2 c2 W → Below w.heap.size w w' → l.length = n → EntsAt w' a c l → ∀ b2 m2 d2, W.cs.length = m2 → ClisAt w' b2 d2 W.cs → WAt w' b0 m0 d0 b1 m1 d1 b2 m2 d2 (setSide W s l) := by
  by_cases h0 : s = 0
  · have e : setSide W s l = { W with b0 := l } := if_pos (by omega)
    rw [e]
    exact ⟨a, n, c, a1, n1, c1, if_pos h0, .inr hnew, .inl ⟨rfl, rfl⟩, fun w w' a2 n2 c2 hW hb hl hE b2 m2 d2 hm hC => ⟨hl, hE, hW.l1, hW.e1.on hb, hm, hC⟩⟩
  · have e : setSide W s l = { W with b1 := l } := if_neg (by omega)
    rw [e]
    exact ⟨a0, n0, c0, a, n, c, if_neg h0, .inl ⟨rfl, rfl⟩, .inr hnew, fun w w' a2 n2 c2 hW hb hl hE b2 m2 d2 hm hC => ⟨hW.l0, hW.e0.on hb, hl, hE, hm, hC⟩⟩
theorem right_x {k : Int} {s j i : Nat} {e : EntB} (hs : s < 2) (hj : j < 3) (hi : i < 3) : rightX ⟨k, s, j, i, e⟩ :=
  ⟨by show (0 : Int) ≤ (s : Int); omega, by show (s : Int) ≤ 1; omega, by show (0 : Int) ≤ (j : Int); omega, by show (j : Int) ≤ 2; omega, by show (0 : Int) ≤ (i : Int); omega, by show (i : Int) ≤ 2; omega⟩
theorem hapV_put {W : WB} {s j i : Nat} {e : EntB} (hs : s < 2) (hj : j < 3) (hi : i < 3) : hapV W ⟨1, s, j, i, e⟩ = if bookE (sideL W s ++ [e]) ≠ 0 then (zeroW, bookE (sideL W s ++ [e])) else (setSide W s (sideL W s ++ [e]), 0) := by
  unfold hapV
  rw [if_neg (fun h => h ⟨by show (1 : Int) ≤ 1; decide, by show (1 : Int) ≤ 5; decide⟩), if_neg (fun h => h (right_x hs hj hi)), if_pos rfl]
theorem hapV_fork {W : WB} {s j i : Nat} {e : EntB} (hs : s < 2) (hj : j < 3) (hi : i < 3) : hapV W ⟨2, s, j, i, e⟩ = ({ W with b1 := W.b0 }, 0) := by
  unfold hapV
  rw [if_neg (fun h => h ⟨by show (1 : Int) ≤ 2; decide, by show (2 : Int) ≤ 5; decide⟩), if_neg (fun h => h (right_x hs hj hi)), if_neg (by show ¬ (2 : Int) = 1; decide), if_pos rfl]
theorem growL_size (l : List EntB) (m : Int) : ∀ s ∈ growL l m, s.size ≤ 140737488355328 := by
  intro s hs
  unfold growL at hs
  split at hs
  · have := growS_size _ _ _ _ (Nat.le_refl _) s hs; omega
  · cases hs
theorem cliE_wide {c : CliB} (h : cliE c = 0) : WideCli c := by
  obtain ⟨h1, h2, h3, h4⟩ := (headE_iff c.1 c.2.1 c.2.2.1).1 h
  exact ⟨by omega, by omega, by omega, by omega⟩
theorem hapV_show {W : WB} {s j i : Nat} {e : EntB} (hs : s < 2) (hj : j < 3) (hi : i < 3) : hapV W ⟨3, s, j, i, e⟩ =
    if follE (cliOf W.cs j) (sideL W s) (growL (sideL W s) (cliOf W.cs j).1) ≠ 0 ∧ follE (cliOf W.cs j) (sideL W s) (growL (sideL W s) (cliOf W.cs j).1) ≠ 7
      then (zeroW, follE (cliOf W.cs j) (sideL W s) (growL (sideL W s) (cliOf W.cs j).1))
      else ({ W with cs := W.cs.set j (follC (cliOf W.cs j) (sideL W s) (growL (sideL W s) (cliOf W.cs j).1)) }, 0) := by
  unfold hapV
  rw [if_neg (fun h => h ⟨by show (1 : Int) ≤ 3; decide, by show (3 : Int) ≤ 5; decide⟩), if_neg (fun h => h (right_x hs hj hi)), if_neg (by show ¬ (3 : Int) = 1; decide), if_neg (by show ¬ (3 : Int) = 2; decide), if_pos rfl]
  simp only [cliAt_of, setCli, Int.toNat_natCast]
theorem hapV_bad {W : WB} {s j i sn : Nat} {e : EntB} {cn : Int} {ca cb : ByteArray} {cf : Bool} (hs : s < 2) (hj : j < 3) (hi : i < 3) (hc : cliOf W.cs j = (cn, ca, cb, cf)) (hn : (sideL W s).length = sn)
    (h : followE cn ca cb (sn : Int) (headLog (sideL W s)) (headMap (sideL W s)) (growL (sideL W s) cn) ≠ 0 ∧ followE cn ca cb (sn : Int) (headLog (sideL W s)) (headMap (sideL W s)) (growL (sideL W s) cn) ≠ 7) :
    hapV W ⟨3, s, j, i, e⟩ = (zeroW, followE cn ca cb (sn : Int) (headLog (sideL W s)) (headMap (sideL W s)) (growL (sideL W s) cn)) := by
  subst hn
  rw [hapV_show hs hj hi, hc]
  exact if_pos h
theorem hapV_foll {W : WB} {s j i sn : Nat} {e : EntB} {cn : Int} {ca cb : ByteArray} {cf : Bool} (hs : s < 2) (hj : j < 3) (hi : i < 3) (hc : cliOf W.cs j = (cn, ca, cb, cf)) (hn : (sideL W s).length = sn)
    (h : ¬ (followE cn ca cb (sn : Int) (headLog (sideL W s)) (headMap (sideL W s)) (growL (sideL W s) cn) ≠ 0 ∧ followE cn ca cb (sn : Int) (headLog (sideL W s)) (headMap (sideL W s)) (growL (sideL W s) cn) ≠ 7)) :
    hapV W ⟨3, s, j, i, e⟩ = ({ W with cs := W.cs.set j (folN cn ca cb (sn : Int) (headLog (sideL W s)) (headMap (sideL W s)) (growL (sideL W s) cn), folA cn ca cb (sn : Int) (headLog (sideL W s)) (headMap (sideL W s)) (growL (sideL W s) cn), folB cn ca cb (sn : Int) (headLog (sideL W s)) (headMap (sideL W s)) (growL (sideL W s) cn), folF cn ca cb cf (sn : Int) (headLog (sideL W s)) (headMap (sideL W s)) (growL (sideL W s) cn)) }, 0) := by
  subst hn
  rw [hapV_show hs hj hi, hc]
  exact if_neg h
theorem foll_wide {W : WB} {s j sn : Nat} {cn : Int} {ca cb : ByteArray} {cf : Bool} (hG : worldE W = 0) (hj : j < 3) (hc : cliOf W.cs j = (cn, ca, cb, cf)) (hn : (sideL W s).length = sn) (y : List ByteArray)
    (h : ¬ (followE cn ca cb (sn : Int) (headLog (sideL W s)) (headMap (sideL W s)) y ≠ 0 ∧ followE cn ca cb (sn : Int) (headLog (sideL W s)) (headMap (sideL W s)) y ≠ 7)) :
    WideCli (folN cn ca cb (sn : Int) (headLog (sideL W s)) (headMap (sideL W s)) y, folA cn ca cb (sn : Int) (headLog (sideL W s)) (headMap (sideL W s)) y, folB cn ca cb (sn : Int) (headLog (sideL W s)) (headMap (sideL W s)) y, folF cn ca cb cf (sn : Int) (headLog (sideL W s)) (headMap (sideL W s)) y) := by
  subst hn
  have h3 := ((worldE_iff W).1 hG).2.2.1
  have hce := ((worldE_iff W).1 hG).2.2.2 _ (cliOf_mem (l := W.cs) (i := j) (by omega))
  rw [hc] at hce
  exact cliE_wide (foll_facts (c := (cn, ca, cb, cf)) (y := y) hce (side_good hG (s : Int)) h).1
/- Four cells that are set one by one. -/
theorem set4_grown (w : World) (g o0 o1 o2 o3 : Nat) (a b c d : Value) : w.grownBy ((((w.setCell ⟨g, o0, none⟩ a).setCell ⟨g, o1, none⟩ b).setCell ⟨g, o2, none⟩ c).setCell ⟨g, o3, none⟩ d) (some g) := by
  have key : ∀ {x y z : World}, x.grownBy y (some g) → y.grownBy z (some g) → x.grownBy z (some g) := fun {x y z} h1 h2 =>
    ⟨h2.os.trans h1.os, h2.tape.trans h1.tape, h2.output.trans h1.output, Nat.le_trans h1.size h2.size, fun k hk hne => (h2.block k (Nat.lt_of_lt_of_le hk h1.size) hne).trans (h1.block k hk hne)⟩
  exact key (key (key (set_grown w g o0 a) (set_grown _ g o1 b)) (set_grown _ g o2 c)) (set_grown _ g o3 d)
theorem set4_row {w : World} {g : Nat} {x y z u : Value} {t : TypeId} (h : w.heap[g]? = some (.cells #[x, y, z, u] t)) (a b c d : Value) : ((((w.setCell ⟨g, 0, none⟩ a).setCell ⟨g, 1, none⟩ b).setCell ⟨g, 2, none⟩ c).setCell ⟨g, 3, none⟩ d).heap[g]? = some (.cells #[a, b, c, d] t) :=
  heap_setCell_same _ g 3 _ _ d (heap_setCell_same _ g 2 _ _ c (heap_setCell_same _ g 1 _ _ b (heap_setCell_same w g 0 _ _ a h)))
theorem set4_cur {w : World} {g : Nat} {cur : Array Value} {t : TypeId} {l : List CliB} (h : w.heap[g]? = some (.cells cur t)) (hc : CurIs cur l) {j : Nat} (hj : j < l.length) (d : CliB) :
    ∃ cur', ((((w.setCell ⟨g, j * 4, none⟩ (.int .i64 d.1)).setCell ⟨g, j * 4 + 1, none⟩ (.string d.2.1)).setCell ⟨g, j * 4 + 2, none⟩ (.string d.2.2.1)).setCell ⟨g, j * 4 + 3, none⟩ (.bool d.2.2.2)).heap[g]? = some (.cells cur' t) ∧ CurIs cur' (l.set j d) := by
  refine ⟨_, heap_setCell_same _ g (j * 4 + 3) _ _ _ (heap_setCell_same _ g (j * 4 + 2) _ _ _ (heap_setCell_same _ g (j * 4 + 1) _ _ _ (heap_setCell_same w g (j * 4) _ _ _ h))), ?_⟩
  have hlt : j * 4 + 3 < cur.size := (Array.getElem?_eq_some_iff.1 (hc j hj).2.2.2).1
  intro k hk
  rw [List.length_set] at hk
  obtain ⟨e1, e2, e3, e4⟩ := hc k hk
  rw [cliOf_set d hj]
  simp only [Array.getElem?_setIfInBounds, Array.size_setIfInBounds]
  by_cases hkj : k = j
  · subst hkj
    rw [show (if k = k then d else cliOf l k) = d from if_pos rfl]
    refine ⟨?_, ?_, ?_, ?_⟩
    · rw [if_neg (by omega), if_neg (by omega), if_neg (by omega), if_pos rfl, if_pos (by omega)]
    · rw [if_neg (by omega), if_neg (by omega), if_pos rfl, if_pos (by omega)]
    · rw [if_neg (by omega), if_pos rfl, if_pos (by omega)]
    · rw [if_pos rfl, if_pos (by omega)]
  · rw [show (if k = j then d else cliOf l k) = cliOf l k from if_neg hkj]
    refine ⟨?_, ?_, ?_, ?_⟩ <;> rw [if_neg (by omega), if_neg (by omega), if_neg (by omega), if_neg (by omega)] <;> assumption
/- What a region holds: a client, a head, a book. -/
theorem hold8g {w5 cur w' : World} {b1 b2 b3 : Nat} {u1 u2 u3 u4 v1 v2 v3 z1 : Value} {row : Option Nat} (k1 : b1 < w5.heap.size) (k2 : b2 < w5.heap.size) (k3 : b3 < w5.heap.size) (hg : cur.grownBy w' row) (hr : ∀ j, row = some j → w5.heap.size ≤ j)
    (h : Below w5.heap.size w5 cur ∧ cur.cell? ⟨b1, 0, none⟩ = some u1 ∧ cur.cell? ⟨b1, 1, none⟩ = some u2 ∧ cur.cell? ⟨b1, 2, none⟩ = some u3 ∧ cur.cell? ⟨b1, 3, none⟩ = some u4 ∧ cur.cell? ⟨b2, 0, none⟩ = some v1 ∧ cur.cell? ⟨b2, 1, none⟩ = some v2 ∧ cur.cell? ⟨b2, 2, none⟩ = some v3 ∧ cur.cell? ⟨b3, 0, none⟩ = some z1) :
    Below w5.heap.size w5 w' ∧ w'.cell? ⟨b1, 0, none⟩ = some u1 ∧ w'.cell? ⟨b1, 1, none⟩ = some u2 ∧ w'.cell? ⟨b1, 2, none⟩ = some u3 ∧ w'.cell? ⟨b1, 3, none⟩ = some u4 ∧ w'.cell? ⟨b2, 0, none⟩ = some v1 ∧ w'.cell? ⟨b2, 1, none⟩ = some v2 ∧ w'.cell? ⟨b2, 2, none⟩ = some v3 ∧ w'.cell? ⟨b3, 0, none⟩ = some z1 := by
  have key : ∀ (b j : Nat) (u : Value), b < w5.heap.size → cur.cell? ⟨b, j, none⟩ = some u → w'.cell? ⟨b, j, none⟩ = some u := fun b j u hb hu => hg.cell hu (fun e => by have := hr b e.symm; omega)
  obtain ⟨h0, h1, h2, h3, h4, h5, h6, h7, h8⟩ := h
  exact ⟨h0.grown hg h0.size hr, key _ _ _ k1 h1, key _ _ _ k1 h2, key _ _ _ k1 h3, key _ _ _ k1 h4, key _ _ _ k2 h5, key _ _ _ k2 h6, key _ _ _ k2 h7, key _ _ _ k3 h8⟩
theorem hold8 {w5 cur w' : World} {b1 b2 b3 : Nat} {u1 u2 u3 u4 v1 v2 v3 z1 : Value} (k1 : b1 < w5.heap.size) (k2 : b2 < w5.heap.size) (k3 : b3 < w5.heap.size)
    (h : Below w5.heap.size w5 cur ∧ cur.cell? ⟨b1, 0, none⟩ = some u1 ∧ cur.cell? ⟨b1, 1, none⟩ = some u2 ∧ cur.cell? ⟨b1, 2, none⟩ = some u3 ∧ cur.cell? ⟨b1, 3, none⟩ = some u4 ∧ cur.cell? ⟨b2, 0, none⟩ = some v1 ∧ cur.cell? ⟨b2, 1, none⟩ = some v2 ∧ cur.cell? ⟨b2, 2, none⟩ = some v3 ∧ cur.cell? ⟨b3, 0, none⟩ = some z1) (hb : Below cur.heap.size cur w') :
    Below w5.heap.size w5 w' ∧ w'.cell? ⟨b1, 0, none⟩ = some u1 ∧ w'.cell? ⟨b1, 1, none⟩ = some u2 ∧ w'.cell? ⟨b1, 2, none⟩ = some u3 ∧ w'.cell? ⟨b1, 3, none⟩ = some u4 ∧ w'.cell? ⟨b2, 0, none⟩ = some v1 ∧ w'.cell? ⟨b2, 1, none⟩ = some v2 ∧ w'.cell? ⟨b2, 2, none⟩ = some v3 ∧ w'.cell? ⟨b3, 0, none⟩ = some z1 :=
  hold8g k1 k2 k3 (below_grown hb none) (fun j hj => by cases hj) h
theorem wide_set {l : List CliB} (h : ∀ e ∈ l, WideCli e) (j : Nat) {d : CliB} (hd : WideCli d) : ∀ e ∈ l.set j d, WideCli e := by
  intro e he
  rcases List.mem_or_eq_of_mem_set he with h1 | rfl
  · exact h e h1
  · exact hd
theorem hapV_out {W : WB} {s j i : Nat} {e : EntB} (hs : s < 2) (hj : j < 3) (hi : i < 3) (h : ¬ (0 ≤ e.1 ∧ e.1 < 16)) : hapV W ⟨5, s, j, i, e⟩ = (zeroW, 5) := by
  unfold hapV
  rw [if_neg (fun h => h ⟨by show (1 : Int) ≤ 5; decide, by show (5 : Int) ≤ 5; decide⟩), if_neg (fun h => h (right_x hs hj hi)), if_neg (by show ¬ (5 : Int) = 1; decide), if_neg (by show ¬ (5 : Int) = 2; decide), if_neg (by show ¬ (5 : Int) = 3; decide), if_neg (by show ¬ (5 : Int) = 4; decide), if_pos h]
theorem hapV_ask {W : WB} {s j i k : Nat} {v : ByteArray} (hs : s < 2) (hj : j < 3) (hi : i < 3) (hk : k < 16) : hapV W ⟨5, s, j, i, (k, v)⟩ = if askE (cliOf W.cs j) (sideL W s) k ≠ 0 then (zeroW, askE (cliOf W.cs j) (sideL W s) k) else (W, 0) := by
  unfold hapV
  rw [if_neg (fun h => h ⟨by show (1 : Int) ≤ 5; decide, by show (5 : Int) ≤ 5; decide⟩), if_neg (fun h => h (right_x hs hj hi)), if_neg (by show ¬ (5 : Int) = 1; decide), if_neg (by show ¬ (5 : Int) = 2; decide), if_neg (by show ¬ (5 : Int) = 3; decide), if_neg (by show ¬ (5 : Int) = 4; decide), if_neg (fun h => h ⟨by show (0 : Int) ≤ (k : Int); omega, by show (k : Int) < 16; omega⟩)]
  simp only [cliAt_of]
theorem ask_back {W : WB} {s j k : Nat} {cn : Int} {ca cb : ByteArray} {cf : Bool} (hc : cliOf W.cs j = (cn, ca, cb, cf)) : askE (cliOf W.cs j) (sideL W s) k = trieE cb k (valS (backD (sideL W s)) k) (valD (backD (sideL W s)) k).isSome (pathT (valN (backD (sideL W s))) 0 k 4) := by
  have e1 : valN (backD (sideL W s)) = valN (valsD (sideL W s)) := funext fun q => back_vals _ (q : Int)
  unfold askE
  rw [hc, e1, Int.toNat_natCast]
  unfold valS
  rw [back_vals]
theorem hapV_ask_bad {W : WB} {s j i k : Nat} {v : ByteArray} (hs : s < 2) (hj : j < 3) (hi : i < 3) (hk : k < 16) {z : Int} (h : askE (cliOf W.cs j) (sideL W s) k = z) (h0 : z ≠ 0) : hapV W ⟨5, s, j, i, (k, v)⟩ = (zeroW, z) := by
  rw [hapV_ask hs hj hi hk, h]
  exact if_pos h0
theorem hapV_ask_ok {W : WB} {s j i k : Nat} {v : ByteArray} (hs : s < 2) (hj : j < 3) (hi : i < 3) (hk : k < 16) (h : askE (cliOf W.cs j) (sideL W s) k = 0) : hapV W ⟨5, s, j, i, (k, v)⟩ = (W, 0) := by
  rw [hapV_ask hs hj hi hk, h]
  exact if_neg (fun h => h rfl)
/- What a region holds: two cells. -/
theorem hold2 {w5 cur w' : World} {b1 o1 b2 o2 : Nat} {u1 u2 : Value} (k1 : b1 < w5.heap.size) (k2 : b2 < w5.heap.size) (h : Below w5.heap.size w5 cur ∧ cur.cell? ⟨b1, o1, none⟩ = some u1 ∧ cur.cell? ⟨b2, o2, none⟩ = some u2) (hb : Below cur.heap.size cur w') :
    Below w5.heap.size w5 w' ∧ w'.cell? ⟨b1, o1, none⟩ = some u1 ∧ w'.cell? ⟨b2, o2, none⟩ = some u2 := by
  obtain ⟨h0, h1, h2⟩ := h
  exact ⟨below_on h0 hb, by rw [hb.cell (Nat.lt_of_lt_of_le k1 h0.size)]; exact h1, by rw [hb.cell (Nat.lt_of_lt_of_le k2 h0.size)]; exact h2⟩
theorem heap_grown {w w' : World} {row : Option Nat} (hg : w.grownBy w' row) {i : Nat} {x : Obj} (h : w.heap[i]? = some x) (hr : row ≠ some i) : w'.heap[i]? = some x := heap_kept hg h hr
theorem set_side {w : World} {g : Nat} {x y z : Value} {t : TypeId} (h : w.heap[g]? = some (.cells #[x, y, z] t)) {s : Nat} (hs : s < 2) (v : Value) : (w.setCell ⟨g, s, none⟩ v).heap[g]? = some (.cells (side3 s v x y z) t) := by
  rcases Nat.lt_or_ge s 1 with h1 | h1
  · obtain rfl : s = 0 := by omega
    exact heap_setCell_same w g 0 _ t v h
  · obtain rfl : s = 1 := by omega
    exact heap_setCell_same w g 1 _ t v h
theorem below_set {w0 w : World} {B g : Nat} {cs : Array Value} {t : TypeId} (hb : Below B w0 w) (hg : B ≤ g) (h : w.heap[g]? = some (.cells cs t)) (s : Nat) (v : Value) : Below B w0 (w.setCell ⟨g, s, none⟩ v) := by
  rw [setCell_eq_setRow w g s cs t _ v h]
  exact below_setRow hb hg _
theorem heap_set_ne {w : World} {g h : Nat} {o : Obj} (hh : w.heap[h]? = some o) (hne : h ≠ g) (s : Nat) (v : Value) : (w.setCell ⟨g, s, none⟩ v).heap[h]? = some o := (heap_setCell_other w ⟨g, s, none⟩ h v hne).trans hh
theorem new_wide : ∀ x ∈ newW.cs, WideCli x := by
  intro x hx
  have : x = zeroC := by
    simp only [newW, List.mem_cons, List.not_mem_nil, or_false, or_self] at hx
    exact hx
  subst this
  exact ⟨by decide, by decide, by decide, by decide⟩
theorem clis_kept {w : World} {B g : Nat} {t : TypeId} {a : Option Addr} {n c : Nat} {l : List CliB} (h : w.ownsRow B t 4 (.slice a n c) n (cliCells l)) (hg : g < B) (hs : ∀ s ∈ l, WideCli s) (cs : Array Value) : ClisAt (w.setRow g cs) a c l := by
  obtain ⟨a', c', hv, _, hS⟩ := clis_own h hs
  injection hv with e1 _ e3
  subst e1 e3
  refine ⟨hS.cap, hS.max, hS.sz, fun hp => ?_⟩
  obtain ⟨b, off, ha, hlt, hc⟩ := hS.cells hp
  have hbg : b ≠ g := by
    rcases h.2 with ⟨he, _⟩ | ⟨g', cap, cur, he, hB, _⟩
    · rw [ha] at he; cases he
    · rw [ha] at he
      injection he with e _ _
      injection e with e
      injection e with e _
      omega
  refine ⟨b, off, ha, by rw [setRow_size]; exact hlt, fun i hi => ?_⟩
  unfold fourAt
  rw [cell_setRow_other _ _ _ _ hbg, cell_setRow_other _ _ _ _ hbg, cell_setRow_other _ _ _ _ hbg, cell_setRow_other _ _ _ _ hbg]
  exact hc i hi
theorem made_new : (madeCells (Value.agg #[.int .i64 0, .string ⟨#[]⟩, .string ⟨#[]⟩, .bool false]).cells (3 * 4)).toList = cliCells newW.cs := by simp [madeCells, cliCells, newW, zeroC, Value.cells, List.range, List.range.loop]
end Go.Proofs.YtnemiobgmdpnmagGreatFmt
namespace Go.Proofs.YtnemiobgmdpnmagGreatFmt
open Go Go.RowKit

/- Whether a meeting is borne, book by book. -/
def okK (W : WB) (p q : CliB) : Nat → Bool
  | 0 => metE p q [] == 0
  | k + 1 => if metBy p q (sideL W (k : Int)) then true else okK W p q k
theorem okK_iff (W : WB) (p q : CliB) : okK W p q 2 = true ↔ metP W p q := by
  have e0 : sideL W ((0 : Nat) : Int) = W.b0 := rfl
  have e1 : sideL W ((1 : Nat) : Int) = W.b1 := rfl
  show (if metBy p q (sideL W ((1 : Nat) : Int)) then true else if metBy p q (sideL W ((0 : Nat) : Int)) then true else metE p q [] == 0) = true ↔ _
  rw [e0, e1]
  by_cases h1 : metBy p q W.b1
  · rw [if_pos h1]
    exact ⟨fun _ => .inr (.inr h1), fun _ => rfl⟩
  · rw [if_neg h1]
    by_cases h0 : metBy p q W.b0
    · rw [if_pos h0]
      exact ⟨fun _ => .inr (.inl h0), fun _ => rfl⟩
    · rw [if_neg h0, beq_iff_eq]
      exact ⟨fun h => .inl h, fun h => h.elim id (fun h => h.elim (fun h => absurd h h0) (fun h => absurd h h1))⟩
theorem hapV_meet {W : WB} {s j i : Nat} {e : EntB} (hs : s < 2) (hj : j < 3) (hi : i < 3) : hapV W ⟨4, s, j, i, e⟩ =
    if metP W (cliOf W.cs j) (cliOf W.cs i) then (W, 0) else ({ W with cs := (W.cs.set j (foolC (cliOf W.cs j))).set i (foolC (cliOf W.cs i)) }, 0) := by
  unfold hapV
  rw [if_neg (fun h => h ⟨by show (1 : Int) ≤ 4; decide, by show (4 : Int) ≤ 5; decide⟩), if_neg (fun h => h (right_x hs hj hi)), if_neg (by show ¬ (4 : Int) = 1; decide), if_neg (by show ¬ (4 : Int) = 2; decide), if_neg (by show ¬ (4 : Int) = 3; decide), if_pos rfl]
  simp only [cliAt_of, setCli, Int.toNat_natCast]
theorem hapV_met {W : WB} {s j i : Nat} {e : EntB} (hs : s < 2) (hj : j < 3) (hi : i < 3) (h : okK W (cliOf W.cs j) (cliOf W.cs i) 2 = true) : hapV W ⟨4, s, j, i, e⟩ = (W, 0) := by
  rw [hapV_meet hs hj hi]
  exact if_pos ((okK_iff _ _ _).1 h)
theorem hapV_unmet {W : WB} {s j i : Nat} {e : EntB} (hs : s < 2) (hj : j < 3) (hi : i < 3) (h : okK W (cliOf W.cs j) (cliOf W.cs i) 2 = false) : hapV W ⟨4, s, j, i, e⟩ = ({ W with cs := (W.cs.set j (foolC (cliOf W.cs j))).set i (foolC (cliOf W.cs i)) }, 0) := by
  rw [hapV_meet hs hj hi]
  exact if_neg (fun hm => by rw [(okK_iff _ _ _).2 hm] at h; cases h)
theorem run_books (k : Nat) (hk : k < 2) (x y : Value) (w : World) : (Instr.index 25 (.agg #[x, y]) (.int .i64 (k : Int))).run Tryz.prog w = .ok (.agg #[if k = 0 then x else y]) w := by
  rcases Nat.lt_or_ge k 1 with h | h
  · obtain rfl : k = 0 := by omega
    simp [Instr.index, asIntOf, run_underlying Tryz.underlying25, part, Tryz.sizeOf24, Tryz.isAgg24]
  · obtain rfl : k = 1 := by omega
    simp [Instr.index, asIntOf, run_underlying Tryz.underlying25, part, Tryz.sizeOf24, Tryz.isAgg24]
theorem set1_cur {w : World} {g : Nat} {cur : Array Value} {t : TypeId} {l : List CliB} (h : w.heap[g]? = some (.cells cur t)) (hc : CurIs cur l) {j : Nat} (hj : j < l.length) :
    ∃ cur', (w.setCell ⟨g, j * 4 + 3, none⟩ (.bool true)).heap[g]? = some (.cells cur' t) ∧ CurIs cur' (l.set j (foolC (cliOf l j))) := by
  refine ⟨_, heap_setCell_same w g (j * 4 + 3) _ _ _ h, ?_⟩
  have hlt : j * 4 + 3 < cur.size := (Array.getElem?_eq_some_iff.1 (hc j hj).2.2.2).1
  intro k hk
  rw [List.length_set] at hk
  obtain ⟨e1, e2, e3, e4⟩ := hc k hk
  rw [cliOf_set _ hj]
  simp only [Array.getElem?_setIfInBounds]
  by_cases hkj : k = j
  · subst hkj
    rw [show (if k = k then foolC (cliOf l k) else cliOf l k) = foolC (cliOf l k) from if_pos rfl]
    refine ⟨?_, ?_, ?_, ?_⟩
    · rw [if_neg (by omega)]; exact e1
    · rw [if_neg (by omega)]; exact e2
    · rw [if_neg (by omega)]; exact e3
    · rw [if_pos rfl, if_pos (by omega)]; rfl
  · rw [show (if k = j then foolC (cliOf l j) else cliOf l k) = cliOf l k from if_neg hkj]
    refine ⟨?_, ?_, ?_, ?_⟩ <;> rw [if_neg (by omega)] <;> assumption
/- Both are fooled, whoever is first. -/
theorem fool_both {l : List CliB} {j i : Nat} (hj : j < l.length) : (l.set j (foolC (cliOf l j))).set i (foolC (cliOf (l.set j (foolC (cliOf l j))) i)) = (l.set j (foolC (cliOf l j))).set i (foolC (cliOf l i)) := by
  rw [cliOf_set _ hj]
  by_cases h : i = j
  · subst h
    rw [if_pos rfl]
    rfl
  · rw [if_neg h]
theorem fool_back {l : List CliB} {j i : Nat} (hi : i < l.length) : (l.set i (foolC (cliOf l i))).set j (foolC (cliOf (l.set i (foolC (cliOf l i))) j)) = (l.set j (foolC (cliOf l j))).set i (foolC (cliOf l i)) := by
  rw [fool_both hi]
  by_cases h : i = j
  · subst h; rfl
  · exact List.set_comm _ _ h
theorem both_rel {w0 w : World} {B g g2 g3 g4 : Nat} {cur : Array Value} {t : TypeId} {l : List CliB} {c2 c3 c4 : Obj} (hb : Below B w0 w) (hB : B ≤ g) (h9 : w.heap[g]? = some (.cells cur t)) (hc : CurIs cur l) {j i : Nat} (hj : j < l.length) (hi : i < l.length)
    (h2 : w.heap[g2]? = some c2) (h3 : w.heap[g3]? = some c3) (h4 : w.heap[g4]? = some c4) (n2 : g2 ≠ g) (n3 : g3 ≠ g) (n4 : g4 ≠ g) :
    (∃ cur', ((w.setCell ⟨g, j * 4 + 3, none⟩ (.bool true)).setCell ⟨g, i * 4 + 3, none⟩ (.bool true)).heap[g]? = some (.cells cur' t) ∧ CurIs cur' ((l.set j (foolC (cliOf l j))).set i (foolC (cliOf l i)))) ∧
    ((w.setCell ⟨g, j * 4 + 3, none⟩ (.bool true)).setCell ⟨g, i * 4 + 3, none⟩ (.bool true)).heap[g2]? = some c2 ∧ ((w.setCell ⟨g, j * 4 + 3, none⟩ (.bool true)).setCell ⟨g, i * 4 + 3, none⟩ (.bool true)).heap[g3]? = some c3 ∧
    ((w.setCell ⟨g, j * 4 + 3, none⟩ (.bool true)).setCell ⟨g, i * 4 + 3, none⟩ (.bool true)).heap[g4]? = some c4 ∧ Below B w0 ((w.setCell ⟨g, j * 4 + 3, none⟩ (.bool true)).setCell ⟨g, i * 4 + 3, none⟩ (.bool true)) := by
  obtain ⟨c1, q1, e1⟩ := set1_cur h9 hc hj
  obtain ⟨c2, q2, e2⟩ := set1_cur q1 e1 (j := i) (by rw [List.length_set]; exact hi)
  rw [fool_both hj] at e2
  refine ⟨⟨c2, q2, e2⟩, heap_set_ne (heap_set_ne h2 n2 _ _) n2 _ _, heap_set_ne (heap_set_ne h3 n3 _ _) n3 _ _, heap_set_ne (heap_set_ne h4 n4 _ _) n4 _ _, below_set (below_set hb hB h9 _ _) hB q1 _ _⟩
theorem both_back {w0 w : World} {B g g2 g3 g4 : Nat} {cur : Array Value} {t : TypeId} {l : List CliB} {c2 c3 c4 : Obj} (hb : Below B w0 w) (hB : B ≤ g) (h9 : w.heap[g]? = some (.cells cur t)) (hc : CurIs cur l) {j i : Nat} (hj : j < l.length) (hi : i < l.length)
    (h2 : w.heap[g2]? = some c2) (h3 : w.heap[g3]? = some c3) (h4 : w.heap[g4]? = some c4) (n2 : g2 ≠ g) (n3 : g3 ≠ g) (n4 : g4 ≠ g) :
    (∃ cur', ((w.setCell ⟨g, i * 4 + 3, none⟩ (.bool true)).setCell ⟨g, j * 4 + 3, none⟩ (.bool true)).heap[g]? = some (.cells cur' t) ∧ CurIs cur' ((l.set j (foolC (cliOf l j))).set i (foolC (cliOf l i)))) ∧
    ((w.setCell ⟨g, i * 4 + 3, none⟩ (.bool true)).setCell ⟨g, j * 4 + 3, none⟩ (.bool true)).heap[g2]? = some c2 ∧ ((w.setCell ⟨g, i * 4 + 3, none⟩ (.bool true)).setCell ⟨g, j * 4 + 3, none⟩ (.bool true)).heap[g3]? = some c3 ∧
    ((w.setCell ⟨g, i * 4 + 3, none⟩ (.bool true)).setCell ⟨g, j * 4 + 3, none⟩ (.bool true)).heap[g4]? = some c4 ∧ Below B w0 ((w.setCell ⟨g, i * 4 + 3, none⟩ (.bool true)).setCell ⟨g, j * 4 + 3, none⟩ (.bool true)) := by
  obtain ⟨⟨c, q, e⟩, r⟩ := both_rel hb hB h9 hc hi hj h2 h3 h4 n2 n3 n4
  have hh := fool_back (j := j) hi
  rw [fool_both hi] at hh
  rw [hh] at e
  exact ⟨⟨c, q, e⟩, r⟩
theorem fool_wide {l : List CliB} (h : ∀ e ∈ l, WideCli e) {j : Nat} (hj : j < l.length) : WideCli (foolC (cliOf l j)) := by
  have := h _ (cliOf_mem hj)
  exact this
/- What a region holds: two heads, a book. -/
theorem hold7 {w5 cur w' : World} {b1 b2 b3 : Nat} {u1 u2 u3 v1 v2 v3 z1 : Value} (k1 : b1 < w5.heap.size) (k2 : b2 < w5.heap.size) (k3 : b3 < w5.heap.size)
    (h : Below w5.heap.size w5 cur ∧ cur.cell? ⟨b1, 0, none⟩ = some u1 ∧ cur.cell? ⟨b1, 1, none⟩ = some u2 ∧ cur.cell? ⟨b1, 2, none⟩ = some u3 ∧ cur.cell? ⟨b2, 0, none⟩ = some v1 ∧ cur.cell? ⟨b2, 1, none⟩ = some v2 ∧ cur.cell? ⟨b2, 2, none⟩ = some v3 ∧ cur.cell? ⟨b3, 0, none⟩ = some z1) (hb : Below cur.heap.size cur w') :
    Below w5.heap.size w5 w' ∧ w'.cell? ⟨b1, 0, none⟩ = some u1 ∧ w'.cell? ⟨b1, 1, none⟩ = some u2 ∧ w'.cell? ⟨b1, 2, none⟩ = some u3 ∧ w'.cell? ⟨b2, 0, none⟩ = some v1 ∧ w'.cell? ⟨b2, 1, none⟩ = some v2 ∧ w'.cell? ⟨b2, 2, none⟩ = some v3 ∧ w'.cell? ⟨b3, 0, none⟩ = some z1 := by
  obtain ⟨h0, h1, h2, h3, h4, h5, h6, h7⟩ := h
  have key : ∀ (b j : Nat) (u : Value), b < w5.heap.size → cur.cell? ⟨b, j, none⟩ = some u → w'.cell? ⟨b, j, none⟩ = some u := fun b j u hlt hu => by
    rw [hb.cell (Nat.lt_of_lt_of_le hlt h0.size)]; exact hu
  exact ⟨below_on h0 hb, key _ _ _ k1 h1, key _ _ _ k1 h2, key _ _ _ k1 h3, key _ _ _ k2 h4, key _ _ _ k2 h5, key _ _ _ k2 h6, key _ _ _ k3 h7⟩
end Go.Proofs.YtnemiobgmdpnmagGreatFmt
