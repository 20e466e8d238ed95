/-
  Contracts of package trie over this seat's dump: Check, the seal of a part, Root, and the small ones.
-/
import Derived.Test.YthhckpnnjegldafDoorMapAt
namespace Go.Proofs.YthhckpnnjegldafDoor
open Go Go.RowKit Go.Maps

theorem isKey_yes (k : Nat) (h : k < 16) (w : World) :
    Calls Tryd.prog 77 #[.int .i64 (k : Int)] w fun e w' => e = .returned (.bool true) ∧ w = w' := by
  have h1 : (k : Int) < 16 := by omega
  go_enter Tryd.func77, Tryd.ntmps77
  go_wp2_with fail
  go_ret
  exact ⟨rfl, rfl⟩
theorem isKey_no (k : Int) (h : k < 0 ∨ 15 < k) (w : World) :
    Calls Tryd.prog 77 #[.int .i64 k] w fun e w' => e = .returned (.bool false) ∧ w = w' := by
  rcases Int.lt_or_le k 0 with h0 | h0
  · have h1 : ¬ 0 ≤ k := by omega
    clear h
    go_enter Tryd.func77, Tryd.ntmps77
    go_wp2_with fail
    go_ret
    exact ⟨rfl, rfl⟩
  · have h1 : ¬ k < 16 := by omega
    clear h
    go_enter Tryd.func77, Tryd.ntmps77
    go_wp2_with fail
    go_ret
    exact ⟨rfl, rfl⟩

theorem cnt_bound (D : DataW Unit) : ∀ n, cntD D n ≤ n
  | 0 => Nat.le_refl _
  | n + 1 => by
    have := cnt_bound D n
    show cntD D n + _ ≤ n + 1
    split <;> omega

/- Check. -/
theorem check_any (p : Option Nat) (D : DataW Unit) (w : World) (hM : MapAt w p D) :
    Calls Tryd.prog 43 #[.map p] w fun e w' => e = .returned (.int .i64 (checkE D)) ∧ w = w' := by
  have hT := hM.text
  have hle := cnt_le hT 16
  have hsz := hM.size
  go_enter Tryd.func43, Tryd.ntmps43
  go_wp2
  go_loop [3, 7] (fun g i => ∃ k : Nat, k ≤ 16 ∧ g = .int .i64 (cntD D k : Int) ∧ i = .int .i64 (k : Int) ∧ Hid (¬ longD D k)) (fun _ i => 16 - (intOf i).toNat)
  case atStart => exact ⟨0, by omega, rfl, rfl, fun ⟨k, h, _⟩ => absurd h (by omega)⟩
  case round =>
    obtain ⟨k, hk, rfl, rfl, hL⟩ := hrel
    rcases Nat.lt_or_ge k 16 with hlt | hge
    · have hlt' : (k : Int) < 16 := by omega
      have hv := hM.val_size (k := (k : Int)) (by omega) (by omega)
      have hc : cntD D (k + 1) = cntD D k + if (valD D (k : Int)).isSome = true then 1 else 0 := rfl
      have hck : cntD D k ≤ k := cnt_bound D k
      rcases Nat.lt_or_ge 12 (valS D (k : Int)).size with hlong | hshort
      · have hl' : (12 : Int) < ((valS D (k : Int)).size : Int) := by omega
        have hE := check_long (D := D) ⟨k, hlt, hlong⟩
        go_wp2_with (at_lookup; refine wpList_look _ rfl _ _ rfl p D rfl hM (k : Int) rfl (by omega) (by omega) ?_)
        go_ret
        exact ⟨rfl, rfl⟩
      · have hl' : ¬ (12 : Int) < ((valS D (k : Int)).size : Int) := by omega
        have hL' : ¬ longD D (k + 1) := fun h => ((longD_step D k).1 h).elim hL.out (fun h => by omega)
        have HL : Hid (¬ longD D (k + 1)) := hL'
        clear hL hL'
        cases hb : (valD D (k : Int)).isSome
        · rw [hb] at hc
          go_wp2_with (at_lookup; refine wpList_look _ rfl _ _ rfl p D rfl hM (k : Int) rfl (by omega) (by omega) ?_; rw [hb])
          go_round
          case rel => exact ⟨k + 1, by omega, by rw [hc]; rfl, rfl, HL⟩
          case measure => simp [intOf]; omega
        · rw [hb] at hc
          go_wp2_with (at_lookup; refine wpList_look _ rfl _ _ rfl p D rfl hM (k : Int) rfl (by omega) (by omega) ?_; rw [hb])
          go_round
          case rel => exact ⟨k + 1, by omega, by rw [hc]; rfl, rfl, HL⟩
          case measure => simp [intOf]; omega
    · obtain rfl : k = 16 := by omega
      by_cases hc : cntD D 16 = size D
      · have hE := check_good hL.out hc
        have hc' : (cntD D 16 : Int) = (size D : Int) := by omega
        go_wp2_with (at_len; refine wpList_count _ rfl _ rfl p D rfl hM ?_)
        go_ret
        exact ⟨rfl, rfl⟩
      · have hE := check_who hL.out hc
        have hc' : ¬ (cntD D 16 : Int) = (size D : Int) := by omega
        go_wp2_with (at_len; refine wpList_count _ rfl _ rfl p D rfl hM ?_)
        go_ret
        exact ⟨rfl, rfl⟩

/- One key. -/
theorem one_slot (o : Option ByteArray) (h : ∀ s, o = some s → s.size ≤ 20000) (w : World) :
    Calls Tryd.prog 58 #[.string (o.getD ⟨#[]⟩), .bool o.isSome] w fun e w' => e = .returned (.tuple #[.string (slotT o), .int .i64 0]) ∧ w = w' := by
  cases o with
  | none =>
    clear h
    go_enter Tryd.func58, Tryd.ntmps58
    go_wp2_with fail
    refine (none_any w).mono ?_
    rintro e w1 ⟨rfl, rfl⟩
    go_wp2_with fail
    go_ret2
    exact ⟨rfl, rfl⟩
  | some s =>
    have hs := h s rfl
    clear h
    go_enter Tryd.func58, Tryd.ntmps58
    go_wp2_with fail
    refine (leaf_ok s w hs).mono ?_
    rintro e w1 ⟨rfl, rfl⟩
    go_wp2_with fail
    go_ret2
    exact ⟨rfl, rfl⟩
theorem one_none (v : ByteArray) (w : World) :
    Calls Tryd.prog 58 #[.string v, .bool false] w fun e w' => e = .returned (.tuple #[.string noneS, .int .i64 0]) ∧ w = w' := by
  go_enter Tryd.func58, Tryd.ntmps58
  go_wp2_with fail
  refine (none_any w).mono ?_
  rintro e w1 ⟨rfl, rfl⟩
  go_wp2_with fail
  go_ret2
  exact ⟨rfl, rfl⟩
theorem one_many (v : ByteArray) (w : World) (h : 20000 < v.size) :
    Calls Tryd.prog 58 #[.string v, .bool true] w fun e w' => e = .returned (.tuple #[.string ⟨#[]⟩, .int .i64 2]) ∧ w = w' := by
  go_enter Tryd.func58, Tryd.ntmps58
  go_wp2_with fail
  refine (leaf_many v w h).mono ?_
  rintro e w1 ⟨rfl, rfl⟩
  go_wp2_with fail
  go_ret2
  exact ⟨rfl, rfl⟩

/- The seal of a part. -/
def PartIs (p : Option Nat) (D : DataW Unit) (d : Nat) : Prop := ∀ (i fi n : Nat) (w : World), n = 2 ^ d → fi = i * n → fi + n ≤ 16 → Tab w → MapAt w p D →
    Calls Tryd.prog 44 #[.map p, .int .i64 (fi : Int), .int .i64 (n : Int)] w fun e w' => e = .returned (.tuple #[.string (trieT (valN D) d i), .int .i64 0]) ∧ Below w.heap.size w w'

theorem part_is (p : Option Nat) (D : DataW Unit) (hf : Short (valN D)) (d : Nat) : d ≤ 4 → PartIs p D d := by
  induction d with
  | zero =>
    intro _ i fi n w hn hi h16 hE hM
    obtain rfl : n = 1 := hn
    obtain rfl : fi = i := by omega
    have ho := one_slot (valN D fi) (fun s hs => by have := hf fi s hs; omega) w
    change Calls Tryd.prog 58 #[.string (valS D fi), .bool (valD D fi).isSome] w _ at ho
    change Calls _ _ _ _ fun e w' => e = .returned (.tuple #[.string (slotT (valN D fi)), .int .i64 0]) ∧ _
    generalize slotT (valN D fi) = z at ho
    have HO := Lib.hid ho
    clear ho hi
    go_enter Tryd.func44, Tryd.ntmps44
    go_wp2_with (at_lookup; refine wpList_look _ rfl _ _ rfl p D rfl hM (fi : Int) rfl (by omega) (by omega) ?_)
    refine HO.out.mono ?_
    rintro e w1 ⟨rfl, rfl⟩
    go_wp2_with fail
    go_ret2
    exact ⟨rfl, Below.refl _ _⟩
  | succ d ih =>
    intro hd i fi n w hn hi h16 hE hM
    have hh : 0 < 2 ^ d := Nat.pos_of_ne_zero (by simp)
    have hn2 : n = 2 * 2 ^ d := by rw [hn, Nat.pow_succ, Nat.mul_comm]
    have ih1 := ih (by omega) (2 * i) fi (2 ^ d) w rfl (by rw [hi, hn2, ← Nat.mul_assoc, Nat.mul_comm i 2]) (by omega) hE hM
    have ih2 := fun w' => ih (by omega) (2 * i + 1) (fi + 2 ^ d) (2 ^ d) w' rfl (by rw [hi, hn2, ← Nat.mul_assoc, Nat.mul_comm i 2, Nat.add_mul, Nat.one_mul]) (by omega)
    have s1 := trieT_313 hf (d := d) (2 * i) (by omega)
    have s2 := trieT_313 hf (d := d) (2 * i + 1) (by omega)
    change Calls _ _ _ _ fun e w' => e = .returned (.tuple #[.string (nodeS (trieT (valN D) d (2 * i)) (trieT (valN D) d (2 * i + 1))), .int .i64 0]) ∧ _
    generalize trieT (valN D) d (2 * i) = x at *
    generalize trieT (valN D) d (2 * i + 1) = y at *
    generalize 2 ^ d = h at *
    clear ih hn hi
    subst hn2
    have IH1 := Lib.hid ih1
    have IH2 := Lib.hid ih2
    clear ih1 ih2
    have q1 : ¬ ((2 * h : Nat) : Int) ≤ 1 := by omega
    have q2 : ((2 * h : Nat) : Int).tdiv 2 = (h : Int) := by rw [Int.natCast_mul]; exact Int.mul_tdiv_cancel_left _ (by decide)
    go_enter Tryd.func44, Tryd.ntmps44
    go_wp2_with fail
    refine IH1.out.mono ?_
    rintro e w1 ⟨rfl, hb1⟩
    have hM1 := hM.on hb1
    have hE1 := hE.on hb1
    clear IH1 hM hE
    go_wp2_with fail
    refine (IH2.out w1 hE1 hM1).mono ?_
    rintro e w2 ⟨rfl, hb2⟩
    have hE2 := hE1.on hb2
    have hb2 := below_on hb1 hb2
    clear IH2 hM1 hE1 hb1
    go_wp2_with fail
    refine (node_tab x y w2 hE2 (by omega)).mono ?_
    rintro e w3 ⟨rfl, hb3⟩
    have hb3 := below_on hb2 hb3
    clear hb2 hE2
    go_wp2_with fail
    go_ret2
    exact ⟨rfl, hb3⟩

/- Root. -/
theorem root_good (p : Option Nat) (D : DataW Unit) (w : World) (hE : Tab w) (hM : MapAt w p D) (hG : GoodMap D) :
    Calls Tryd.prog 23 #[.map p] w fun e w' => e = .returned (.tuple #[.string (trieT (valN D) 4 0), .int .i64 0]) ∧ Below w.heap.size w w' := by
  have h0 := (check_iff hM.text).2 hG
  have hc := check_any p D w hM
  rw [h0] at hc
  have hp := part_is p D hG.short 4 (Nat.le_refl _) 0 0 16 w rfl rfl (by omega) hE hM
  generalize trieT (valN D) 4 0 = z at *
  have HC := Lib.hid hc
  have HP := Lib.hid hp
  clear hc hp h0 hE hM
  go_enter Tryd.func23, Tryd.ntmps23
  go_wp2_with fail
  refine HC.out.mono ?_
  rintro e w1 ⟨rfl, rfl⟩
  go_wp2_with fail
  refine HP.out.mono ?_
  rintro e w1 ⟨rfl, hb1⟩
  go_wp2_with fail
  go_ret2
  exact ⟨rfl, hb1⟩
theorem root_bad (p : Option Nat) (D : DataW Unit) (w : World) (hM : MapAt w p D) (c : Int) (hc : checkE D = c) (h : c ≠ 0) :
    Calls Tryd.prog 23 #[.map p] w fun e w' => e = .returned (.tuple #[.string ⟨#[]⟩, .int .i64 c]) ∧ w = w' := by
  have hk := check_any p D w hM
  rw [hc] at hk
  have HC := Lib.hid hk
  clear hc hk hM
  go_enter Tryd.func23, Tryd.ntmps23
  go_wp2_with fail
  refine HC.out.mono ?_
  rintro e w1 ⟨rfl, rfl⟩
  go_wp2_with fail
  go_ret2
  exact ⟨rfl, rfl⟩

/- The sides. -/
def UpperB (k n : Nat) : Bool := decide (k / n % 2 = 1)
theorem isUpper_any (k n : Nat) (hn : n = 1 ∨ n = 2 ∨ n = 4 ∨ n = 8) (hk : k < 16) (w : World) :
    Calls Tryd.prog 84 #[.int .i64 (k : Int), .int .i64 (n : Int)] w fun e w' => e = .returned (.bool (UpperB k n)) ∧ w = w' := by
  have q2 : ¬ (n : Int) = 0 := by omega
  have hle : k / n ≤ k := Nat.div_le_self _ _
  have q1 : ((wrap64 ((k : Int) / n)).tmod 2 == 1) = UpperB k n := by
    unfold UpperB
    rw [← Int.natCast_ediv]
    generalize k / n = q at hle ⊢
    rw [IntWalk.wrap64_in _ (by omega), show (2 : Int) = ((2 : Nat) : Int) by rfl, ← Int.ofNat_tmod, Bool.eq_iff_iff, beq_iff_eq, decide_eq_true_eq]
    omega
  go_enter Tryd.func84, Tryd.ntmps84
  go_wp2_with fail
  go_ret
  exact ⟨rfl, rfl⟩

/- The first key of the part beside. -/
theorem beside_any (k h n : Nat) (hn : n = 2 ^ h) (hh : h < 4) (hk : k < 16) (w : World) :
    Calls Tryd.prog 78 #[.int .i64 (k : Int), .int .i64 (n : Int)] w fun e w' => e = .returned (.int .i64 ((sibN (k / n) * n : Nat) : Int)) ∧ w = w' := by
  have hn' : n = 1 ∨ n = 2 ∨ n = 4 ∨ n = 8 := by
    subst hn
    match h, hh with
    | 0, _ => exact .inl rfl
    | 1, _ => exact .inr (.inl rfl)
    | 2, _ => exact .inr (.inr (.inl rfl))
    | 3, _ => exact .inr (.inr (.inr rfl))
  have hU := isUpper_any k n hn' hk
  have q2 : ¬ (n : Int) = 0 := by omega
  have q3 : (0 : Int) ≤ (k : Int) % n := by omega
  have q4 : (k : Int) % n ≤ k := by have := Nat.mod_le k n; omega
  have q5 : (n : Int) ≤ 8 := by omega
  have HU := Lib.hid hU
  clear hU
  cases hb : UpperB k n
  · have hs : (k : Int) - (k : Int) % n + n = ((sibN (k / n) * n : Nat) : Int) := by
      unfold UpperB at hb
      unfold sibN
      rw [decide_eq_false_iff_not] at hb
      rw [if_pos (by omega)]
      rcases hn' with rfl | rfl | rfl | rfl <;> omega
    generalize sibN (k / n) * n = r at *
    rw [hb] at HU
    have HS := Lib.hid hs
    clear hn' hh hn hs hb
    go_enter Tryd.func78, Tryd.ntmps78
    go_wp2_with fail
    refine (HU.out w).mono ?_
    rintro e w1 ⟨rfl, rfl⟩
    go_wp2_with fail
    go_ret
    exact ⟨congrArg (fun b => Ending.returned (.int .i64 b)) HS.out, rfl⟩
  · have hs : (k : Int) - (k : Int) % n - n = ((sibN (k / n) * n : Nat) : Int) := by
      unfold UpperB at hb
      unfold sibN
      rw [decide_eq_true_eq] at hb
      rw [if_neg (by omega)]
      rcases hn' with rfl | rfl | rfl | rfl <;> omega
    generalize sibN (k / n) * n = r at *
    rw [hb] at HU
    have HS := Lib.hid hs
    clear hn' hh hn hs hb
    go_enter Tryd.func78, Tryd.ntmps78
    go_wp2_with fail
    refine (HU.out w).mono ?_
    rintro e w1 ⟨rfl, rfl⟩
    go_wp2_with fail
    go_ret
    exact ⟨congrArg (fun b => Ending.returned (.int .i64 b)) HS.out, rfl⟩
theorem sib_lt {k h : Nat} (hh : h < 4) (hk : k < 16) : sibN (k / 2 ^ h) * 2 ^ h + 2 ^ h ≤ 16 := by
  unfold sibN
  match h, hh with
  | 0, _ => split <;> simp <;> omega
  | 1, _ => split <;> simp <;> omega
  | 2, _ => split <;> simp <;> omega
  | 3, _ => split <;> simp <;> omega

/- A seal up. -/
theorem join_up (k h n : Nat) (hn : n = 2 ^ h) (hh : h < 4) (hk : k < 16) (x s z : ByteArray) (w : World) (hE : Tab w) (hz : sideT (k / n) x s = some z) :
    Calls Tryd.prog 79 #[.int .i64 (k : Int), .int .i64 (n : Int), .string x, .string s] w fun e w' => e = .returned (.tuple #[.string z, .int .i64 0]) ∧ Below w.heap.size w w' := by
  have hn' : n = 1 ∨ n = 2 ∨ n = 4 ∨ n = 8 := by
    subst hn
    match h, hh with
    | 0, _ => exact .inl rfl
    | 1, _ => exact .inr (.inl rfl)
    | 2, _ => exact .inr (.inr (.inl rfl))
    | 3, _ => exact .inr (.inr (.inr rfl))
  have HU := Lib.hid (isUpper_any k n hn' hk w)
  unfold sideT at hz
  cases hb : UpperB k n
  · rw [hb] at HU
    unfold UpperB at hb
    rw [decide_eq_false_iff_not] at hb
    rw [if_pos (by omega)] at hz
    obtain ⟨hsz, rfl⟩ := nodeO_some hz
    clear hn hn' hz hb
    go_enter Tryd.func79, Tryd.ntmps79
    go_wp2_with fail
    refine HU.out.mono ?_
    rintro e w1 ⟨rfl, rfl⟩
    go_wp2_with fail
    refine (node_tab x s w hE hsz).mono ?_
    rintro e w1 ⟨rfl, hb1⟩
    go_wp2_with fail
    go_ret2
    exact ⟨rfl, hb1⟩
  · rw [hb] at HU
    unfold UpperB at hb
    rw [decide_eq_true_eq] at hb
    rw [if_neg (by omega)] at hz
    obtain ⟨hsz, rfl⟩ := nodeO_some hz
    clear hn hn' hz hb
    go_enter Tryd.func79, Tryd.ntmps79
    go_wp2_with fail
    refine HU.out.mono ?_
    rintro e w1 ⟨rfl, rfl⟩
    go_wp2_with fail
    refine (node_tab s x w hE hsz).mono ?_
    rintro e w1 ⟨rfl, hb1⟩
    go_wp2_with fail
    go_ret2
    exact ⟨rfl, hb1⟩
theorem join_not (k h n : Nat) (hn : n = 2 ^ h) (hh : h < 4) (hk : k < 16) (x s : ByteArray) (w : World) (hx : x.size ≤ 9223372036854775807) (hs : s.size ≤ 9223372036854775807) (hz : sideT (k / n) x s = none) :
    Calls Tryd.prog 79 #[.int .i64 (k : Int), .int .i64 (n : Int), .string x, .string s] w fun e w' => e = .returned (.tuple #[.string ⟨#[]⟩, .int .i64 2]) ∧ w = w' := by
  have hn' : n = 1 ∨ n = 2 ∨ n = 4 ∨ n = 8 := by
    subst hn
    match h, hh with
    | 0, _ => exact .inl rfl
    | 1, _ => exact .inr (.inl rfl)
    | 2, _ => exact .inr (.inr (.inl rfl))
    | 3, _ => exact .inr (.inr (.inr rfl))
  have HU := Lib.hid (isUpper_any k n hn' hk w)
  unfold sideT at hz
  cases hb : UpperB k n
  · rw [hb] at HU
    unfold UpperB at hb
    rw [decide_eq_false_iff_not] at hb
    rw [if_pos (by omega)] at hz
    have hsz := nodeO_none hz
    clear hn hn' hz hb
    go_enter Tryd.func79, Tryd.ntmps79
    go_wp2_with fail
    refine HU.out.mono ?_
    rintro e w1 ⟨rfl, rfl⟩
    go_wp2_with fail
    refine (node_many x s w hs hsz).mono ?_
    rintro e w1 ⟨rfl, rfl⟩
    go_wp2_with fail
    go_ret2
    exact ⟨rfl, rfl⟩
  · rw [hb] at HU
    unfold UpperB at hb
    rw [decide_eq_true_eq] at hb
    rw [if_neg (by omega)] at hz
    have hsz := nodeO_none hz
    clear hn hn' hz hb
    go_enter Tryd.func79, Tryd.ntmps79
    go_wp2_with fail
    refine HU.out.mono ?_
    rintro e w1 ⟨rfl, rfl⟩
    go_wp2_with fail
    refine (node_many s x w hx hsz).mono ?_
    rintro e w1 ⟨rfl, rfl⟩
    go_wp2_with fail
    go_ret2
    exact ⟨rfl, rfl⟩
end Go.Proofs.YthhckpnnjegldafDoor
