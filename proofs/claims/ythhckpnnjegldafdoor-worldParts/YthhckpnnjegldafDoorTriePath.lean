/-
  Package trie's Path and Shows.
-/
import Derived.Test.YthhckpnnjegldafDoorTrie
import Derived.Test.YthhckpnnjegldafDoorOwn
import Derived.Deep.LoopGhost
namespace Go.Proofs.YthhckpnnjegldafDoor
open Go Go.RowKit Go.Maps

theorem infoText : (Tryd.prog.info? 9).map (fun i => (i.zero, i.size, i.bytes)) = some (some (.string ⟨#[]⟩), 1, 16) := by kernel_rfl

theorem pathT_at (f : Nat → Option ByteArray) : ∀ (n h k j : Nat), j < n → (pathT f h k n)[j]? = some (trieT f (h + j) (sibN (k / 2 ^ j)))
  | 0, _, _, _, hj => absurd hj (by omega)
  | n + 1, h, k, 0, _ => by simp [pathT]
  | n + 1, h, k, j + 1, hj => by
    show (pathT f (h + 1) (k / 2) n)[j]? = _
    rw [pathT_at f n (h + 1) (k / 2) j (by omega), Nat.div_div_eq_div_mul, Nat.pow_succ, Nat.mul_comm 2, show h + 1 + j = h + (j + 1) by omega]
theorem pathT_take (f : Nat → Option ByteArray) {n k j : Nat} (h : j < n) : (pathT f 0 k n).take (j + 1) = (pathT f 0 k n).take j ++ [trieT f j (sibN (k / 2 ^ j))] := by
  rw [List.take_add_one, pathT_at f n 0 k j h, Nat.zero_add]
  rfl
theorem pathT_313 {f : Nat → Option ByteArray} (hf : Short f) {n k : Nat} (hn : n ≤ 4) : ∀ s ∈ pathT f 0 k n, s.size ≤ 313 := by
  intro s hs
  obtain ⟨j, hj, rfl⟩ := List.getElem_of_mem hs
  rw [pathT_len] at hj
  have := pathT_at f n 0 k j hj
  rw [List.getElem?_eq_getElem (by rw [pathT_len]; exact hj)] at this
  injection this with this
  rw [this]
  exact trieT_313 hf _ (by omega)

set_option maxRecDepth 100000 in
theorem path_good (p : Option Nat) (D : DataW Unit) (k : Nat) (w : World) (hE : Tab w) (hM : MapAt w p D) (hG : GoodMap D) (hk : k < 16) :
    Calls Tryd.prog 73 #[.map p, .int .i64 (k : Int)] w fun e w' => ∃ a c, e = .returned (.tuple #[.slice a 4 c, .int .i64 0]) ∧ StrsAt w' a c (pathT (valN D) 0 k 4) ∧ Below w.heap.size w w' := by
  have h0 := (check_iff hM.text).2 hG
  have hc := check_any p D w hM
  rw [h0] at hc
  have HC := Lib.hid hc
  have hpart := part_is p D hG.short
  have hsm := pathT_313 hG.short (k := k) (Nat.le_refl 4)
  have hst := fun j (h : j < 4) => pathT_take (valN D) (k := k) h
  have hlen := pathT_len (valN D) 4 0 k
  generalize hL : pathT (valN D) 0 k 4 = L at *
  obtain ⟨i0, hi0, hz0, hz1, hz2⟩ := info_parts infoText
  clear hc h0 hG hL
  have HS := Lib.hid hst
  have HP := Lib.hid hpart
  clear hst hpart
  go_enter Tryd.func73, Tryd.ntmps73
  go_wp2_with fail
  refine HC.out.mono ?_
  rintro e w1 ⟨rfl, rfl⟩
  go_wp2_with fail
  refine (isKey_yes k hk w).mono ?_
  rintro e w1 ⟨rfl, rfl⟩
  go_wp2_with fail
  go_loopg [7, 8] 4 (fun g s7 s8 wr => ∃ (h : Nat) (a : Option Addr) (c : Nat), s8 = .int .i64 ((2 ^ h : Nat) : Int) ∧ s7 = .slice a h c ∧ h ≤ 4 ∧ 4 - h ≤ g ∧
    wr.ownsRow w.heap.size 9 1 (.slice a h c) h ((L.take h).map Value.string) ∧ Below w.heap.size w wr)
  case atStart => exact ⟨0, none, 0, rfl, rfl, Nat.zero_le _, by omega, World.ownsRow_nil _ _ _ _, Below.refl _ _⟩
  case round =>
    obtain ⟨h, a', c', rfl, rfl, hh, hg, hown, hb⟩ := hrel
    rcases Nat.lt_or_ge h 4 with h4 | h4
    · have hlt := sib_lt h4 hk
      have hp := fun w' hE' hM' => HP.out h (by omega) (sibN (k / 2 ^ h)) (sibN (k / 2 ^ h) * 2 ^ h) (2 ^ h) w' rfl rfl hlt hE' hM'
      have hbs := fun w' => beside_any k h (2 ^ h) rfl h4 hk w'
      have hs := HS.out h h4
      have hp8 : 2 ^ h ≤ 8 := by
        match h, h4 with
        | 0, _ => decide
        | 1, _ => decide
        | 2, _ => decide
        | 3, _ => decide
      have hp1 : 1 ≤ 2 ^ h := Nat.pos_of_ne_zero (by simp)
      have hp2 : 2 ^ (h + 1) = 2 * 2 ^ h := by rw [Nat.pow_succ, Nat.mul_comm]
      generalize trieT (valN D) h (sibN (k / 2 ^ h)) = x at *
      generalize sibN (k / 2 ^ h) * 2 ^ h = fi at *
      have HP2 := Lib.hid hp2
      clear hp2
      generalize 2 ^ h = n at *
      have hEr := hE.on hb
      have hMr := hM.on hb
      have HB := Lib.hid hbs
      have HQ := Lib.hid hp
      have HT := Lib.hid hs
      clear hbs hp hs HS HP HC
      have hn16 : (n : Int) < 16 := by omega
      go_wp2_with fail
      refine (HB.out wr).mono ?_
      rintro e w1 ⟨rfl, rfl⟩
      go_wp2_with fail
      refine (HQ.out wr hEr hMr).mono ?_
      rintro e w1 ⟨rfl, hb1⟩
      have hown := owns_on hown hb1
      have hb1 := below_on hb hb1
      clear hEr hMr HB HQ hb
      go_wp2_with (at_builtin; refine wpList_append_lies _ rfl _ _ 25 rfl w.heap.size 9 i0 (.string ⟨#[]⟩) 1 16 Tryd.underlying25 hi0 hz0 hz1 hz2 rfl (by decide) _ _ _ rfl (hown.alloc _) ⟨w1.heap.size, 0, none⟩ 1 1 [.string x] rfl rfl ?c1 ?c2 (by omega) ?c3 ?c4 ?c5 _ rfl ?_)
      case c1 => exact World.news_of_block (cs := #[.string x]) (t := 9) (fr := (0, 0)) (by show (w1.heap.push _)[w1.heap.size]? = _; simp)
      case c2 => intro u hu; rw [List.mem_singleton.1 hu]; rfl
      case c3 => unfold maxLen; omega
      case c4 => omega
      case c5 => show _ ≤ (w1.heap.push _).size; rw [Array.size_push]; have := hb1.size; omega
      intro g' cap w2 hown2 hgrow _ _
      have hb2 := own_below hb1 hb1.size hown (Nat.le_refl _) hgrow
      go_wp2_with fail
      go_roundg (4 - (h + 1))
      case rel =>
        refine ⟨h + 1, some ⟨g', 0, none⟩, cap, ?_, rfl, by omega, by omega, ?_, hb2⟩
        · rw [HP2.out]; go_num
        · rw [HT.out, List.map_append, List.map_take]; exact hown2
      case measure => omega
    · obtain rfl : h = 4 := by omega
      rw [show L.take 4 = L from List.take_of_length_le (by omega)] at hown
      obtain ⟨_, hS⟩ := owned_strs hown (fun s hs => by have := hsm s hs; omega)
      go_wp2_with fail
      go_ret2
      exact ⟨a', c', rfl, hS, hb⟩
theorem path_bad (p : Option Nat) (D : DataW Unit) (k : Int) (w : World) (hM : MapAt w p D) (c : Int) (hc : checkE D = c) (h : c ≠ 0) :
    Calls Tryd.prog 73 #[.map p, .int .i64 k] w fun e w' => e = .returned (.tuple #[.slice none 0 0, .int .i64 c]) ∧ w = w' := by
  have hk := check_any p D w hM
  rw [hc] at hk
  have HC := Lib.hid hk
  clear hc hk hM
  go_enter Tryd.func73, Tryd.ntmps73
  go_wp2_with fail
  refine HC.out.mono ?_
  rintro e w1 ⟨rfl, rfl⟩
  go_wp2_with fail
  go_ret2
  exact ⟨rfl, rfl⟩
theorem path_who (p : Option Nat) (D : DataW Unit) (k : Int) (w : World) (hM : MapAt w p D) (hG : GoodMap D) (hk : k < 0 ∨ 15 < k) :
    Calls Tryd.prog 73 #[.map p, .int .i64 k] w fun e w' => e = .returned (.tuple #[.slice none 0 0, .int .i64 5]) ∧ w = w' := by
  have h0 := (check_iff hM.text).2 hG
  have hc := check_any p D w hM
  rw [h0] at hc
  have HC := Lib.hid hc
  have HK := Lib.hid (isKey_no k hk w)
  clear hc h0 hM hG hk
  go_enter Tryd.func73, Tryd.ntmps73
  go_wp2_with fail
  refine HC.out.mono ?_
  rintro e w1 ⟨rfl, rfl⟩
  go_wp2_with fail
  refine HK.out.mono ?_
  rintro e w1 ⟨rfl, rfl⟩
  go_wp2_with fail
  go_ret2
  exact ⟨rfl, rfl⟩

/- Shows. -/
theorem empty_list : (⟨#[]⟩ : ByteArray).toList = [] := by decide +kernel
theorem empty_of {v : ByteArray} (h : v.size = 0) : v = ⟨#[]⟩ := by
  apply ba_ext
  have h1 := ba_size v
  rw [h] at h1
  rw [List.length_eq_zero_iff.1 h1.symm]
theorem tshows_who (all : ByteArray) (k : Int) (v : ByteArray) (t : Bool) (a : Option Addr) (n c : Nat) (w : World) (hk : k < 0 ∨ 15 < k) :
    Calls Tryd.prog 75 #[.string all, .int .i64 k, .string v, .bool t, .slice a n c] w fun e w' => e = .returned (.int .i64 5) ∧ w = w' := by
  have HK := Lib.hid (isKey_no k hk w)
  clear hk
  go_enter Tryd.func75, Tryd.ntmps75
  go_wp2_with fail
  refine HK.out.mono ?_
  rintro e w1 ⟨rfl, rfl⟩
  go_wp2_with fail
  go_ret
  exact ⟨rfl, rfl⟩
theorem shows_form (all : ByteArray) (k : Nat) (v : ByteArray) (a : Option Addr) (n c : Nat) (w : World) (hk : k < 16) (hv : v.size ≠ 0) :
    Calls Tryd.prog 75 #[.string all, .int .i64 (k : Int), .string v, .bool false, .slice a n c] w fun e w' => e = .returned (.int .i64 4) ∧ w = w' := by
  have HK := Lib.hid (isKey_yes k hk w)
  have hq := str_ne (a := v) (b := ⟨#[]⟩) (fun e => hv (by rw [e]; rfl))
  rw [empty_list] at hq
  go_enter Tryd.func75, Tryd.ntmps75
  go_wp2_with fail
  refine HK.out.mono ?_
  rintro e w1 ⟨rfl, rfl⟩
  go_wp2_with fail
  go_ret
  exact ⟨rfl, rfl⟩
/- Whether a value is told with a key that has none. -/
def FormOk (v : ByteArray) (t : Bool) : Prop := t = true ∨ v = ⟨#[]⟩
theorem one_start (v : ByteArray) (t : Bool) (x : ByteArray) (h : startT v t = some x) (w : World) :
    Calls Tryd.prog 58 #[.string v, .bool t] w fun e w' => e = .returned (.tuple #[.string x, .int .i64 0]) ∧ w = w' := by
  cases t with
  | false =>
    injection (show some noneS = some x from h) with h
    rw [← h]
    exact one_none v w
  | true =>
    obtain ⟨hs, rfl⟩ := leafO_some (show leafO v = some x from h)
    exact one_slot (some v) (fun s e => by injection e with e; rw [← e]; exact hs) w
theorem one_stop (v : ByteArray) (t : Bool) (h : startT v t = none) (w : World) :
    Calls Tryd.prog 58 #[.string v, .bool t] w fun e w' => e = .returned (.tuple #[.string ⟨#[]⟩, .int .i64 2]) ∧ w = w' := by
  cases t with
  | false => cases (show some noneS = none from h)
  | true => exact one_many v w (leafO_none (show leafO v = none from h))

theorem shows_len (all : ByteArray) (k : Nat) (v : ByteArray) (t : Bool) (a : Option Addr) (n c : Nat) (w : World) (hk : k < 16) (hv : FormOk v t) (hn : n ≠ 4) (_hn : n ≤ 9223372036854775807) :
    Calls Tryd.prog 75 #[.string all, .int .i64 (k : Int), .string v, .bool t, .slice a n c] w fun e w' => e = .returned (.int .i64 7) ∧ w = w' := by
  have HK := Lib.hid (isKey_yes k hk w)
  have hn2 : ¬ (n : Int) = 4 := by omega
  rcases hv with rfl | rfl
  · go_enter Tryd.func75, Tryd.ntmps75
    go_wp2_with fail
    refine HK.out.mono ?_
    rintro e w1 ⟨rfl, rfl⟩
    go_wp2_with fail
    go_ret
    exact ⟨rfl, rfl⟩
  · cases t
    · go_enter Tryd.func75, Tryd.ntmps75
      go_wp2_with fail
      refine HK.out.mono ?_
      rintro e w1 ⟨rfl, rfl⟩
      go_wp2_with fail
      go_ret
      exact ⟨rfl, rfl⟩
    · go_enter Tryd.func75, Tryd.ntmps75
      go_wp2_with fail
      refine HK.out.mono ?_
      rintro e w1 ⟨rfl, rfl⟩
      go_wp2_with fail
      go_ret
      exact ⟨rfl, rfl⟩
theorem shows_stop (all : ByteArray) (k : Nat) (v : ByteArray) (t : Bool) (a : Option Addr) (n c : Nat) (w : World) (hk : k < 16) (hv : FormOk v t) (hn : n = 4) (hx : startT v t = none) :
    Calls Tryd.prog 75 #[.string all, .int .i64 (k : Int), .string v, .bool t, .slice a n c] w fun e w' => e = .returned (.int .i64 2) ∧ w = w' := by
  subst hn
  cases t with
  | false => cases (show some noneS = none from hx)
  | true =>
    have HK := Lib.hid (isKey_yes k hk w)
    have HO := Lib.hid (one_stop v true hx w)
    clear hv hx
    go_enter Tryd.func75, Tryd.ntmps75
    go_wp2_with fail
    refine HK.out.mono ?_
    rintro e w1 ⟨rfl, rfl⟩
    go_wp2_with fail
    refine HO.out.mono ?_
    rintro e w1 ⟨rfl, rfl⟩
    go_wp2_with fail
    go_ret
    exact ⟨rfl, rfl⟩
def endE (all : ByteArray) : Option ByteArray → Int
  | none => 2
  | some x => if x = all then 0 else 7
theorem endE_same (all : ByteArray) : endE all (some all) = 0 := if_pos rfl
theorem endE_other {all y : ByteArray} (h : y ≠ all) : endE all (some y) = 7 := if_neg h
theorem sideT_size {k : Nat} {y s z : ByteArray} (h : sideT k y s = some z) : z.size ≤ 9223372036854775807 := by
  unfold sideT at h
  split at h <;> (have := nodeO_size h; omega)
theorem drop_at {l : List ByteArray} {j : Nat} (h : j < l.length) : l.drop j = l.getD j ByteArray.empty :: l.drop (j + 1) := by
  rw [List.drop_eq_getElem_cons h, List.getD_eq_getElem?_getD, List.getElem?_eq_getElem h]
  rfl

set_option maxRecDepth 100000 in
theorem shows_go (all : ByteArray) (k : Nat) (v : ByteArray) (t : Bool) (l : List ByteArray) (a : Option Addr) (n c : Nat) (w : World) (hE : Tab w) (hS : StrsAt w a c l) (hl : l.length = n) (hn : n = 4) (hk : k < 16) (hv : FormOk v t) (x : ByteArray) (hx : startT v t = some x) (hxs : x.size ≤ 9223372036854775807) :
    Calls Tryd.prog 75 #[.string all, .int .i64 (k : Int), .string v, .bool t, .slice a n c] w fun e w' => e = .returned (.int .i64 (endE all (climbT k x l))) ∧ Below w.heap.size w w' := by
  subst hn
  have HK := Lib.hid (isKey_yes k hk w)
  have HO := Lib.hid (one_start v t x hx w)
  have hg : (!t && !(v.toList == [])) = false := by
    rcases hv with rfl | rfl
    · rfl
    · rw [empty_list]; cases t <;> rfl
  obtain ⟨b, off, rfl, hlt, hcl⟩ := hS.cells (by omega)
  have hsz := hS.sz
  generalize hR : climbT k x l = R
  have HR := Lib.hid hR
  clear hx hS hv hR
  cases t
  all_goals
    go_enter Tryd.func75, Tryd.ntmps75
    go_wp2_with fail
    refine HK.out.mono ?_
    rintro e w1 ⟨rfl, rfl⟩
    try simp only [Bool.not_false, Bool.true_and, Bool.not_eq_false'] at hg
    go_wp2_with fail
    refine HO.out.mono ?_
    rintro e w1 ⟨rfl, rfl⟩
    go_wp2_with fail
    go_loopg [11, 12, 13, 39] 4 (fun g s11 s12 s13 s39 wr => ∃ (j : Nat) (y : ByteArray), s11 = .string y ∧ s12 = .int .i64 0 ∧ s13 = .int .i64 ((2 ^ j : Nat) : Int) ∧ s39 = .int .i64 (j : Int) ∧ j ≤ 4 ∧ 4 - j ≤ g ∧
      y.size ≤ 9223372036854775807 ∧ Hid (climbT (k / 2 ^ j) y (l.drop j) = R) ∧ Below w.heap.size w wr)
    case atStart => exact ⟨0, x, rfl, rfl, rfl, rfl, Nat.zero_le _, by omega, hxs, by rw [Nat.pow_zero, Nat.div_one]; exact HR, Below.refl _ _⟩
    case round =>
      obtain ⟨j, y, rfl, rfl, rfl, rfl, hj, hgh, hy, HC, hb⟩ := hrel
      rcases Nat.lt_or_ge j 4 with h4 | h4
      · have hcj := hcl j (by omega)
        rw [← hb.cell hlt] at hcj
        have hsj := hsz (l.getD j ByteArray.empty) (by rw [List.getD_eq_getElem?_getD, List.getElem?_eq_getElem (by omega)]; exact List.getElem_mem _)
        have hC := HC.out
        rw [drop_at (by omega)] at hC
        change (sideT (k / 2 ^ j) y (l.getD j ByteArray.empty)).bind (fun z => climbT (k / 2 ^ j / 2) z (l.drop (j + 1))) = R at hC
        rw [Nat.div_div_eq_div_mul, ← Nat.pow_succ] at hC
        generalize l.getD j ByteArray.empty = s at *
        have hp8 : 2 ^ j ≤ 8 := by
          match j, h4 with
          | 0, _ => decide
          | 1, _ => decide
          | 2, _ => decide
          | 3, _ => decide
        have hp1 : 1 ≤ 2 ^ j := Nat.pos_of_ne_zero (by simp)
        have hp2 : 2 ^ (j + 1) = 2 * 2 ^ j := by rw [Nat.pow_succ, Nat.mul_comm]
        have hj4 : (j : Int) < 4 := by omega
        rcases hz : sideT (k / 2 ^ j) y s with _ | z
        · rw [hz] at hC
          have HN := Lib.hid (join_not k j (2 ^ j) rfl h4 hk y s wr hy hsj hz)
          have hR2 : R = none := hC.symm
          clear hC hz HC hcl
          generalize 2 ^ j = m at *
          go_wp2_with fail
          refine HN.out.mono ?_
          rintro e w1 ⟨rfl, rfl⟩
          go_wp2_with fail
          go_ret
          exact ⟨by rw [hR2]; rfl, hb⟩
        · rw [hz] at hC
          have HN := Lib.hid (join_up k j (2 ^ j) rfl h4 hk y s z wr (hE.on hb) hz)
          have hzs : z.size ≤ 9223372036854775807 := sideT_size hz
          have HC2 : Hid (climbT (k / 2 ^ (j + 1)) z (l.drop (j + 1)) = R) := hC
          have HP2 := Lib.hid hp2
          clear hC hz HC hcl hp2
          generalize 2 ^ j = m at *
          go_wp2_with fail
          refine HN.out.mono ?_
          rintro e w1 ⟨rfl, hb1⟩
          have hb1 := below_on hb hb1
          clear HN hcj
          go_wp2_with fail
          go_roundg (4 - (j + 1))
          case rel => exact ⟨j + 1, z, rfl, rfl, by rw [HP2.out]; go_num, by go_num, by omega, by omega, hzs, HC2, hb1⟩
          case measure => omega
      · obtain rfl : j = 4 := by omega
        have hC := HC.out
        rw [List.drop_of_length_le (by omega)] at hC
        change some y = R at hC
        by_cases he : y = all
        · have hq := str_eq he
          have hR2 : R = some all := by rw [← hC, he]
          have HR2 := Lib.hid hR2
          clear hC HC hR2 HR he
          go_wp2_with fail
          go_ret
          exact ⟨by rw [HR2.out, endE_same]; rfl, hb⟩
        · have hq := str_ne he
          have hR2 : endE all R = 7 := by rw [← hC]; exact endE_other he
          have HR2 := Lib.hid hR2
          clear hC HC hR2 HR he
          go_wp2_with fail
          go_ret
          exact ⟨by rw [HR2.out]; rfl, hb⟩

theorem tshows_any (all : ByteArray) (k : Int) (v : ByteArray) (t : Bool) (l : List ByteArray) (a : Option Addr) (n c : Nat) (w : World) (hE : Tab w) (hS : StrsAt w a c l) (hl : l.length = n) :
    Calls Tryd.prog 75 #[.string all, .int .i64 k, .string v, .bool t, .slice a n c] w fun e w' => e = .returned (.int .i64 (trieE all k v t l)) ∧ Below w.heap.size w w' := by
  unfold trieE
  by_cases hk : k < 0 ∨ 15 < k
  · rw [if_pos hk]
    exact (tshows_who all k v t a n c w hk).mono fun e w' ⟨h1, h2⟩ => ⟨h1, h2 ▸ Below.refl _ _⟩
  rw [if_neg hk]
  obtain ⟨j, rfl⟩ := Int.eq_ofNat_of_zero_le (show 0 ≤ k by omega)
  have hj : j < 16 := by omega
  rw [Int.toNat_natCast]
  by_cases hf : t = false ∧ v.size ≠ 0
  · rw [if_pos hf]
    obtain ⟨rfl, hv⟩ := hf
    exact (shows_form all j v a n c w hj hv).mono fun e w' ⟨h1, h2⟩ => ⟨h1, h2 ▸ Below.refl _ _⟩
  rw [if_neg hf]
  have hv : FormOk v t := by
    cases t with
    | true => exact .inl rfl
    | false => exact .inr (empty_of (Classical.byContradiction fun h => hf ⟨rfl, h⟩))
  by_cases h4 : l.length ≠ 4
  · rw [if_pos h4]
    have hcap := hS.cap
    have hmax := hS.max
    exact (shows_len all j v t a n c w hj hv (by omega) (by omega)).mono fun e w' ⟨h1, h2⟩ => ⟨h1, h2 ▸ Below.refl _ _⟩
  rw [if_neg h4]
  have h4 : l.length = 4 := Classical.byContradiction h4
  rcases hx : startT v t with _ | x
  · exact (shows_stop all j v t a n c w hj hv (by omega) hx).mono fun e w' ⟨h1, h2⟩ => ⟨h1, h2 ▸ Below.refl _ _⟩
  · have hxs : x.size ≤ 9223372036854775807 := by
      cases t with
      | false =>
        injection (show some noneS = some x from hx) with h
        rw [← h]; decide
      | true =>
        obtain ⟨hs, rfl⟩ := leafO_some (show leafO v = some x from hx)
        rw [leafS_size]; omega
    exact shows_go all j v t l a n c w hE hS hl (by omega) hj hv x hx hxs
end Go.Proofs.YthhckpnnjegldafDoor
