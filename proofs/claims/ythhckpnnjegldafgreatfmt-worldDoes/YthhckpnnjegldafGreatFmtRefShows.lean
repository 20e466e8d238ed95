/-
  Chapter 5's Shows as the document's own reckoning has it.
-/
import Derived.Test.YthhckpnnjegldafGreatFmtRefMap
namespace Go.Proofs.YthhckpnnjegldafGreatFmt
open Go Go.RowKit Go.Maps Go.Kit Go.Extern.Stop Go.Stop Go.Extern

theorem mapShows_who (all : ByteArray) (k : Int) (v : ByteArray) (t : Bool) (a : Option Addr) (n c : Nat) (w : World) (hk : k < 0 ∨ 15 < k) :
    Calls Tryz.prog 36 #[.string all, .int .i64 k, .string v, .bool t, .slice a n c] w fun e w' => e = .returned (.int .i64 5) ∧ w = w' := by
  have HK := Lib.hid (in_no k 0 15 w hk)
  clear hk
  go_enter Tryz.func36, Tryz.ntmps36
  go_wp2_with fail
  refine HK.out.mono ?_
  rintro e w1 ⟨rfl, rfl⟩
  go_wp2_with fail
  go_ret
  exact ⟨rfl, rfl⟩
theorem mapShows_form (all : ByteArray) (k : Nat) (v : ByteArray) (a : Option Addr) (n c : Nat) (w : World) (hk : k < 16) (hv : v.size ≠ 0) (hv' : v.size ≤ 9223372036854775807) :
    Calls Tryz.prog 36 #[.string all, .int .i64 (k : Int), .string v, .bool false, .slice a n c] w fun e w' => e = .returned (.int .i64 4) ∧ w = w' := by
  have HK := Lib.hid (in_yes (k : Int) 0 15 w (by omega) (by omega))
  have h1 : (0 : Int) < (v.size : Int) := by omega
  go_enter Tryz.func36, Tryz.ntmps36
  go_wp2_with fail
  refine HK.out.mono ?_
  rintro e w1 ⟨rfl, rfl⟩
  go_wp2_with fail
  go_ret
  exact ⟨rfl, rfl⟩
theorem mapShows_len (all : ByteArray) (k : Nat) (v : ByteArray) (t : Bool) (a : Option Addr) (n c : Nat) (w : World) (hk : k < 16) (hv : FormOk v t) (hn : n ≠ 4) (_hn : n ≤ 9223372036854775807) :
    Calls Tryz.prog 36 #[.string all, .int .i64 (k : Int), .string v, .bool t, .slice a n c] w fun e w' => e = .returned (.int .i64 7) ∧ w = w' := by
  have HK := Lib.hid (in_yes (k : Int) 0 15 w (by omega) (by omega))
  have hn2 : ¬ (n : Int) = 4 := by omega
  have key : t = true ∨ (t = false ∧ v = ⟨#[]⟩) := by
    rcases hv with h | h
    · exact .inl h
    · cases t
      · exact .inr ⟨rfl, h⟩
      · exact .inl rfl
  rcases key with rfl | ⟨rfl, rfl⟩
  all_goals
    go_enter Tryz.func36, Tryz.ntmps36
    go_wp2_with fail
    refine HK.out.mono ?_
    rintro e w1 ⟨rfl, rfl⟩
    go_wp2_with fail
    go_ret
    exact ⟨rfl, rfl⟩

/- What stands in the two boxes: a seal and no error, or nothing and one. -/
def oV (o : Option ByteArray) : ByteArray := o.getD ⟨#[]⟩
def oE (o : Option ByteArray) : Int := if o.isSome then 0 else 2
theorem nodeV_o (x y : ByteArray) : nodeV x y = oV (nodeO x y) ∧ nodeE x y = oE (nodeO x y) := by
  rcases nodeV_of (x := x) (y := y) with ⟨h1, h2, h3⟩ | ⟨z, h1, h2, h3⟩
  · rw [h1, h2, h3]; exact ⟨rfl, rfl⟩
  · rw [h1, h2, h3]; exact ⟨rfl, rfl⟩
theorem leafV_o (x : ByteArray) : leafV x = oV (leafO x) ∧ leafE x = oE (leafO x) := by
  by_cases h : x.size ≤ 20000
  · rw [(leaf_pos h).1, (leaf_pos h).2]; unfold leafO; rw [if_pos h]; exact ⟨rfl, rfl⟩
  · rw [(leaf_neg h).1, (leaf_neg h).2]; unfold leafO; rw [if_neg h]; exact ⟨rfl, rfl⟩

set_option maxHeartbeats 1000000 in
set_option maxRecDepth 100000 in
theorem mapShows_go (I : Interp) (all : ByteArray) (k : Nat) (v : ByteArray) (t : Bool) (l : List ByteArray) (a : Option Addr) (n c : Nat) (w : World) (hF : I.told.answers w.tape) (hS : StrsAt w a c l) (hl : l.length = n) (hn : n = 4) (hk : k < 16) (hv : FormOk v t) (hvs : v.size ≤ 9223372036854775807) (hls : ∀ s ∈ l, s.size ≤ 4611686018427387903) :
    Calls Tryz.prog 36 #[.string all, .int .i64 (k : Int), .string v, .bool t, .slice a n c] w fun e w' => e = .returned (.int .i64 (endE all ((startT v t).bind fun x => climbT k x l))) ∧ Below w.heap.size w w' := by
  subst hn
  have HK := Lib.hid (in_yes (k : Int) 0 15 w (by omega) (by omega))
  have HL := Lib.hid (leafOf_any v w hvs)
  rw [(leafV_o v).1, (leafV_o v).2] at HL
  have key : t = true ∨ (t = false ∧ v = ⟨#[]⟩) := by
    rcases hv with h | h
    · exact .inl h
    · cases t
      · exact .inr ⟨rfl, h⟩
      · exact .inl rfl
  have hst : ∀ x, startT v t = some x → x.size ≤ 20001 := by
    intro x hx
    cases t with
    | false =>
      injection (show some noneS = some x from hx) with h
      rw [← h]; decide
    | true =>
      obtain ⟨hs, rfl⟩ := leafO_some (show leafO v = some x from hx)
      rw [leafS_size]; omega
  have hs1 : t = true → leafO v = startT v t := fun h => by rw [h]; rfl
  have hs0 : t = false → startT v t = some ⟨#[69]⟩ := fun h => by rw [h]; show some noneS = _; rw [show noneS = ⟨#[69]⟩ by decide +kernel]
  obtain ⟨b, off, rfl, hlt, hcl⟩ := hS.cells (by omega)
  generalize hR : ((startT v t).bind fun x => climbT k x l) = R
  have HR := Lib.hid hR
  generalize hso : startT v t = so at *
  clear hS hv hR hso
  rcases key with rfl | ⟨rfl, rfl⟩
  · rw [hs1 rfl] at HL
    clear hs1 hs0
    go_enter Tryz.func36, Tryz.ntmps36
    go_wp2_with fail
    refine HK.out.mono ?_
    rintro e w1 ⟨rfl, rfl⟩
    go_wp2_with fail
    refine HL.out.mono ?_
    rintro e w1 ⟨rfl, rfl⟩
    go_wp2_with fail
    go_loopg [1, 11, 12, 36] 4 (fun g s1 s11 s12 s36 wr => ∃ (j : Nat) (o : Option ByteArray), s1 = .int .i64 ((k / 2 ^ j : Nat) : Int) ∧ s11 = .string (oV o) ∧ s12 = .int .i64 (oE o) ∧ s36 = .int .i64 (j : Int) ∧ j ≤ 4 ∧ 4 - j ≤ g ∧
      (∀ x, o = some x → x.size ≤ 20007) ∧ Hid ((o.bind fun y => climbT (k / 2 ^ j) y (l.drop j)) = R) ∧ Below w.heap.size w wr)
    case atStart => exact ⟨0, so, by rw [Nat.pow_zero, Nat.div_one], rfl, rfl, rfl, Nat.zero_le _, by omega, fun x hx => by have := hst x hx; omega, by rw [Nat.pow_zero, Nat.div_one]; exact HR, Below.refl _ _⟩
    case round =>
      obtain ⟨j, o, rfl, rfl, rfl, rfl, hj, hgh, hos, HC, hb⟩ := hrel
      rcases Nat.lt_or_ge j 4 with h4 | h4
      · have hcj := hcl j (by omega)
        rw [← hb.cell hlt] at hcj
        have hsj := hls (l.getD j ByteArray.empty) (by rw [List.getD_eq_getElem?_getD, List.getElem?_eq_getElem (by omega)]; exact List.getElem_mem _)
        have hC := HC.out
        rw [drop_at (by omega)] at hC
        generalize l.getD j ByteArray.empty = s at *
        have hj4 : (j : Int) < 4 := by omega
        cases o with
        | none =>
          have hR2 : R = none := hC.symm
          have e1 : oE none = 2 := rfl
          rw [e1]
          clear hC HC hcl
          generalize k / 2 ^ j = m at *
          go_wp2_with fail
          go_ret
          exact ⟨by rw [hR2]; rfl, hb⟩
        | some y =>
          have hys := hos y rfl
          have e1 : oE (some y) = 0 := rfl
          have e2 : oV (some y) = y := rfl
          rw [e1, e2]
          have hC : (sideT (k / 2 ^ j) y s).bind (fun z => climbT (k / 2 ^ j / 2) z (l.drop (j + 1))) = R := hC
          have hdiv : k / 2 ^ (j + 1) = k / 2 ^ j / 2 := by rw [Nat.pow_succ, Nat.div_div_eq_div_mul]
          rw [← hdiv] at hC
          have hm16 : k / 2 ^ j < 16 := Nat.lt_of_le_of_lt (Nat.div_le_self _ _) hk
          have HD := Lib.hid hdiv
          clear HC hcl hdiv hos
          have hF1 : I.told.answers wr.tape := by rw [hb.tape]; exact hF
          generalize k / 2 ^ j = m at *
          by_cases hpar : m % 2 = 0
          · have hp1 : (m : Int) % 2 = 0 := by omega
            have hside : sideT m y s = nodeO y s := by unfold sideT; rw [if_pos hpar]
            rw [hside] at hC
            have hnode := nodeOf_any I y s wr hF1 (by omega) hsj
            rw [(nodeV_o y s).1, (nodeV_o y s).2] at hnode
            have hns : ∀ x, nodeO y s = some x → x.size ≤ 20007 := fun x hx => nodeO_size hx
            generalize nodeO y s = o2 at *
            have HN := Lib.hid hnode
            have HC2 := Lib.hid hC
            clear hnode hC hside
            go_wp2_with fail
            refine HN.out.mono ?_
            rintro e w2 ⟨rfl, hb2⟩
            have hb2 := below_on hb hb2
            clear HN hcj hb
            go_wp2_with fail
            go_roundg (4 - (j + 1))
            case rel => exact ⟨j + 1, o2, by rw [HD.out]; go_num, rfl, rfl, by go_num, by omega, by omega, hns, HC2, hb2⟩
            case measure => omega
          · have hp1 : ¬ (m : Int) % 2 = 0 := by omega
            have hside : sideT m y s = nodeO s y := by unfold sideT; rw [if_neg hpar]
            rw [hside] at hC
            have hnode := nodeOf_any I s y wr hF1 hsj (by omega)
            rw [(nodeV_o s y).1, (nodeV_o s y).2] at hnode
            have hns : ∀ x, nodeO s y = some x → x.size ≤ 20007 := fun x hx => nodeO_size hx
            generalize nodeO s y = o2 at *
            have HN := Lib.hid hnode
            have HC2 := Lib.hid hC
            clear hnode hC hside
            go_wp2_with fail
            refine HN.out.mono ?_
            rintro e w2 ⟨rfl, hb2⟩
            have hb2 := below_on hb hb2
            clear HN hcj hb
            go_wp2_with fail
            go_roundg (4 - (j + 1))
            case rel => exact ⟨j + 1, o2, by rw [HD.out]; go_num, rfl, rfl, by go_num, by omega, by omega, hns, HC2, hb2⟩
            case measure => omega
      · obtain rfl : j = 4 := by omega
        have hC := HC.out
        rw [List.drop_of_length_le (by omega)] at hC
        cases o with
        | none =>
          have hR2 : R = none := hC.symm
          have e1 : oE none = 2 := rfl
          rw [e1]
          clear hC HC HR
          go_wp2_with fail
          go_ret
          exact ⟨by rw [hR2]; rfl, hb⟩
        | some y =>
          have hC : some y = R := hC
          have e1 : oE (some y) = 0 := rfl
          have e2 : oV (some y) = y := rfl
          rw [e1, e2]
          by_cases he : y = all
          · have hq := str_eq he
            have HR2 := Lib.hid (show endE all R = 0 by rw [← hC, he]; exact endE_same all)
            clear hC HC HR he
            go_wp2_with fail
            go_ret
            exact ⟨by rw [HR2.out]; rfl, hb⟩
          · have hq := str_ne he
            have HR2 := Lib.hid (show endE all R = 7 by rw [← hC]; exact endE_other he)
            clear hC HC HR he
            go_wp2_with fail
            go_ret
            exact ⟨by rw [HR2.out]; rfl, hb⟩
  · obtain rfl := hs0 rfl
    clear hs1 hs0 HL
    go_enter Tryz.func36, Tryz.ntmps36
    go_wp2_with fail
    refine HK.out.mono ?_
    rintro e w1 ⟨rfl, rfl⟩
    go_wp2_with fail
    go_loopg [1, 11, 12, 36] 4 (fun g s1 s11 s12 s36 wr => ∃ (j : Nat) (o : Option ByteArray), s1 = .int .i64 ((k / 2 ^ j : Nat) : Int) ∧ s11 = .string (oV o) ∧ s12 = .int .i64 (oE o) ∧ s36 = .int .i64 (j : Int) ∧ j ≤ 4 ∧ 4 - j ≤ g ∧
      (∀ x, o = some x → x.size ≤ 20007) ∧ Hid ((o.bind fun y => climbT (k / 2 ^ j) y (l.drop j)) = R) ∧ Below w.heap.size w wr)
    case atStart => exact ⟨0, some ⟨#[69]⟩, by rw [Nat.pow_zero, Nat.div_one], rfl, rfl, rfl, Nat.zero_le _, by omega, fun x hx => by have := hst x hx; omega, by rw [Nat.pow_zero, Nat.div_one]; exact HR, Below.refl _ _⟩
    case round =>
      obtain ⟨j, o, rfl, rfl, rfl, rfl, hj, hgh, hos, HC, hb⟩ := hrel
      rcases Nat.lt_or_ge j 4 with h4 | h4
      · have hcj := hcl j (by omega)
        rw [← hb.cell hlt] at hcj
        have hsj := hls (l.getD j ByteArray.empty) (by rw [List.getD_eq_getElem?_getD, List.getElem?_eq_getElem (by omega)]; exact List.getElem_mem _)
        have hC := HC.out
        rw [drop_at (by omega)] at hC
        generalize l.getD j ByteArray.empty = s at *
        have hj4 : (j : Int) < 4 := by omega
        cases o with
        | none =>
          have hR2 : R = none := hC.symm
          have e1 : oE none = 2 := rfl
          rw [e1]
          clear hC HC hcl
          generalize k / 2 ^ j = m at *
          go_wp2_with fail
          go_ret
          exact ⟨by rw [hR2]; rfl, hb⟩
        | some y =>
          have hys := hos y rfl
          have e1 : oE (some y) = 0 := rfl
          have e2 : oV (some y) = y := rfl
          rw [e1, e2]
          have hC : (sideT (k / 2 ^ j) y s).bind (fun z => climbT (k / 2 ^ j / 2) z (l.drop (j + 1))) = R := hC
          have hdiv : k / 2 ^ (j + 1) = k / 2 ^ j / 2 := by rw [Nat.pow_succ, Nat.div_div_eq_div_mul]
          rw [← hdiv] at hC
          have hm16 : k / 2 ^ j < 16 := Nat.lt_of_le_of_lt (Nat.div_le_self _ _) hk
          have HD := Lib.hid hdiv
          clear HC hcl hdiv hos
          have hF1 : I.told.answers wr.tape := by rw [hb.tape]; exact hF
          generalize k / 2 ^ j = m at *
          by_cases hpar : m % 2 = 0
          · have hp1 : (m : Int) % 2 = 0 := by omega
            have hside : sideT m y s = nodeO y s := by unfold sideT; rw [if_pos hpar]
            rw [hside] at hC
            have hnode := nodeOf_any I y s wr hF1 (by omega) hsj
            rw [(nodeV_o y s).1, (nodeV_o y s).2] at hnode
            have hns : ∀ x, nodeO y s = some x → x.size ≤ 20007 := fun x hx => nodeO_size hx
            generalize nodeO y s = o2 at *
            have HN := Lib.hid hnode
            have HC2 := Lib.hid hC
            clear hnode hC hside
            go_wp2_with fail
            refine HN.out.mono ?_
            rintro e w2 ⟨rfl, hb2⟩
            have hb2 := below_on hb hb2
            clear HN hcj hb
            go_wp2_with fail
            go_roundg (4 - (j + 1))
            case rel => exact ⟨j + 1, o2, by rw [HD.out]; go_num, rfl, rfl, by go_num, by omega, by omega, hns, HC2, hb2⟩
            case measure => omega
          · have hp1 : ¬ (m : Int) % 2 = 0 := by omega
            have hside : sideT m y s = nodeO s y := by unfold sideT; rw [if_neg hpar]
            rw [hside] at hC
            have hnode := nodeOf_any I s y wr hF1 hsj (by omega)
            rw [(nodeV_o s y).1, (nodeV_o s y).2] at hnode
            have hns : ∀ x, nodeO s y = some x → x.size ≤ 20007 := fun x hx => nodeO_size hx
            generalize nodeO s y = o2 at *
            have HN := Lib.hid hnode
            have HC2 := Lib.hid hC
            clear hnode hC hside
            go_wp2_with fail
            refine HN.out.mono ?_
            rintro e w2 ⟨rfl, hb2⟩
            have hb2 := below_on hb hb2
            clear HN hcj hb
            go_wp2_with fail
            go_roundg (4 - (j + 1))
            case rel => exact ⟨j + 1, o2, by rw [HD.out]; go_num, rfl, rfl, by go_num, by omega, by omega, hns, HC2, hb2⟩
            case measure => omega
      · obtain rfl : j = 4 := by omega
        have hC := HC.out
        rw [List.drop_of_length_le (by omega)] at hC
        cases o with
        | none =>
          have hR2 : R = none := hC.symm
          have e1 : oE none = 2 := rfl
          rw [e1]
          clear hC HC HR
          go_wp2_with fail
          go_ret
          exact ⟨by rw [hR2]; rfl, hb⟩
        | some y =>
          have hC : some y = R := hC
          have e1 : oE (some y) = 0 := rfl
          have e2 : oV (some y) = y := rfl
          rw [e1, e2]
          by_cases he : y = all
          · have hq := str_eq he
            have HR2 := Lib.hid (show endE all R = 0 by rw [← hC, he]; exact endE_same all)
            clear hC HC HR he
            go_wp2_with fail
            go_ret
            exact ⟨by rw [HR2.out]; rfl, hb⟩
          · have hq := str_ne he
            have HR2 := Lib.hid (show endE all R = 7 by rw [← hC]; exact endE_other he)
            clear hC HC HR he
            go_wp2_with fail
            go_ret
            exact ⟨by rw [HR2.out]; rfl, hb⟩

theorem mapShows_any (I : Interp) (all : ByteArray) (k : Int) (v : ByteArray) (t : Bool) (l : List ByteArray) (a : Option Addr) (n c : Nat) (w : World) (hF : I.told.answers w.tape) (hS : StrsAt w a c l) (hl : l.length = n) (hvs : v.size ≤ 9223372036854775807) (hls : ∀ s ∈ l, s.size ≤ 4611686018427387903) :
    Calls Tryz.prog 36 #[.string all, .int .i64 k, .string v, .bool t, .slice a n c] w fun e w' => e = .returned (.int .i64 (trieE all k v t l)) ∧ Below w.heap.size w w' := by
  unfold trieE
  by_cases hk : k < 0 ∨ 15 < k
  · rw [if_pos hk]
    exact (mapShows_who all k v t a n c w hk).mono fun e w' ⟨h1, h2⟩ => ⟨h1, h2 ▸ Below.refl _ _⟩
  rw [if_neg hk]
  obtain ⟨j, rfl⟩ := Int.eq_ofNat_of_zero_le (show 0 ≤ k by omega)
  have hj : j < 16 := by omega
  rw [Int.toNat_natCast]
  by_cases hf : t = false ∧ v.size ≠ 0
  · rw [if_pos hf]
    obtain ⟨rfl, hv⟩ := hf
    exact (mapShows_form all j v a n c w hj hv hvs).mono fun e w' ⟨h1, h2⟩ => ⟨h1, h2 ▸ Below.refl _ _⟩
  rw [if_neg hf]
  have hv : FormOk v t := by
    cases t with
    | true => exact .inl rfl
    | false => exact .inr (empty_of (Classical.byContradiction fun h => hf ⟨rfl, h⟩))
  by_cases h4 : l.length ≠ 4
  · rw [if_pos h4]
    have hcap := hS.cap
    have hmax := hS.max
    exact (mapShows_len all j v t a n c w hj hv (by omega) (by omega)).mono fun e w' ⟨h1, h2⟩ => ⟨h1, h2 ▸ Below.refl _ _⟩
  rw [if_neg h4]
  have h4 : l.length = 4 := Classical.byContradiction h4
  exact mapShows_go I all j v t l a n c w hF hS hl (by omega) hj hv hvs hls
end Go.Proofs.YthhckpnnjegldafGreatFmt
