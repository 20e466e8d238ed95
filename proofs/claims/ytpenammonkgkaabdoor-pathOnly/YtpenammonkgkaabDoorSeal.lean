/-
  Contracts of package seal over this seat's dump: Leaf, Node, Open, Split, None, and what the world must hold for them.
-/
import Derived.Test.YtpenammonkgkaabDoorShelf
import Derived.Test.YtpenammonkgkaabDoorSealMath
import Derived.WalkKit
import Derived.WalkLawsBesides
import Derived.Sort.Grow
import Derived.Lib.AtoiErrMem
import Derived.Lib.Hide
import Derived.Lib.CutLaws
import Derived.Shelf.Strconv.ErrVarAll
import Derived.Deep.QuietTactic
import Derived.BigQuiet
namespace Go.Proofs.YtpenammonkgkaabDoor
open Go Go.RowKit

/- What the library reads of its own variables, in whatever world: the table of powers; and the two errors. -/
structure Tab (w : World) : Prop where
  tab : Lib.TabIs Tryd.prog w "internal/strconv.uint64pow10" .u64 Lib.pow10Tab
structure Env (w : World) : Prop extends Tab w where
  syn : ∃ tp p, w.var? Tryd.prog "strconv.ErrSyntax" = some #[.iface tp p]
  rng : ∃ tp p, w.var? Tryd.prog "strconv.ErrRange" = some #[.iface tp p]

theorem var_kept {w w' : World} {n : String} {cs : Array Value} (h : Below w.heap.size w w') (hv : w.var? Tryd.prog n = some cs) : w'.var? Tryd.prog n = some cs := by
  unfold World.var? at hv ⊢
  cases hg : Tryd.prog.globalNamed n with
  | none => rw [hg] at hv; simp at hv
  | some g =>
    rw [hg] at hv
    simp only [Option.bind_some] at hv ⊢
    have hlt : g < w.heap.size := by
      refine Classical.byContradiction fun hn => ?_
      rw [Array.getElem?_eq_none (by omega)] at hv
      simp at hv
    rw [h.block g hlt]
    exact hv

theorem Tab.on {w w' : World} (h : Tab w) (hb : Below w.heap.size w w') : Tab w' := ⟨var_kept hb h.tab⟩
theorem Env.on {w w' : World} (h : Env w) (hb : Below w.heap.size w w') : Env w' := by
  obtain ⟨t, ⟨tp, p, hs⟩, tp', p', hr⟩ := h
  exact ⟨t.on hb, ⟨tp, p, var_kept hb hs⟩, tp', p', var_kept hb hr⟩

theorem below_grow (w : World) (k : Nat) (os : Array Obj) : Below w.heap.size w (Sort.grow (w.drewN k) os) :=
  ⟨rfl, rfl, rfl, by simp, fun i hi => Sort.heap_grow_old (w.drewN k) os hi⟩

theorem below_on {a b c : World} (h : Below a.heap.size a b) (k : Below b.heap.size b c) : Below a.heap.size a c :=
  h.trans (k.mono h.size)

/- strconv.Itoa, with the frame. -/
theorem itoa_any (n : Nat) (hn : n ≤ 9223372036854775807) (w : World) (hE : Tab w) :
    Calls Tryd.prog 31 #[.int .i64 (n : Int)] w fun e w' => e = .returned (.string (itoaB n)) ∧ Below w.heap.size w w' := by
  refine (Tryd.strconv_Itoa (n : Int) (by omega) (by omega) w hE.tab).mono ?_
  rintro e w' ⟨rfl, k, os, rfl⟩
  exact ⟨rfl, below_grow w k os⟩

theorem leaf_ok (s : ByteArray) (w : World) (h : s.size ≤ 20000) :
    Calls Tryd.prog 19 #[.string s] w fun e w' => e = .returned (.tuple #[.string (leafS s), .int .i64 0]) ∧ w = w' := by
  go_enter Tryd.func19, Tryd.ntmps19
  go_wp2
  go_ret2
  exact ⟨rfl, rfl⟩
theorem leaf_many (s : ByteArray) (w : World) (h : 20000 < s.size) :
    Calls Tryd.prog 19 #[.string s] w fun e w' => e = .returned (.tuple #[.string ⟨#[]⟩, .int .i64 2]) ∧ w = w' := by
  go_enter Tryd.func19, Tryd.ntmps19
  go_wp2
  go_ret2
  exact ⟨rfl, rfl⟩

theorem node_tab (a b : ByteArray) (w : World) (hE : Tab w) (h : a.size + b.size ≤ 20000) :
    Calls Tryd.prog 27 #[.string a, .string b] w fun e w' => e = .returned (.tuple #[.string (nodeS a b), .int .i64 0]) ∧ Below w.heap.size w w' := by
  have hi := itoaB_le5 a.size (by omega)
  go_enter Tryd.func27, Tryd.ntmps27
  go_wp2_with fail
  refine (itoa_any a.size (by omega) w hE).mono ?_
  rintro e w1 ⟨rfl, hb⟩
  go_wp2
  go_ret2
  exact ⟨rfl, hb⟩
theorem node_ok (a b : ByteArray) (w : World) (hE : Env w) (h : a.size + b.size ≤ 20000) :
    Calls Tryd.prog 27 #[.string a, .string b] w fun e w' => e = .returned (.tuple #[.string (nodeS a b), .int .i64 0]) ∧ Below w.heap.size w w' := node_tab a b w hE.toTab h
theorem node_many (a b : ByteArray) (w : World) (hb : b.size ≤ 9223372036854775807) (h : 20000 < a.size + b.size) :
    Calls Tryd.prog 27 #[.string a, .string b] w fun e w' => e = .returned (.tuple #[.string ⟨#[]⟩, .int .i64 2]) ∧ w = w' := by
  go_enter Tryd.func27, Tryd.ntmps27
  go_wp2
  go_ret2
  exact ⟨rfl, rfl⟩

theorem none_any (w : World) :
    Calls Tryd.prog 18 #[] w fun e w' => e = .returned (.string noneS) ∧ w = w' := by
  go_enter Tryd.func18, Tryd.ntmps18
  go_wp2
  go_ret
  exact ⟨rfl, rfl⟩

/- strings.CutPrefix at a mark of one byte. -/
theorem cutPrefix_yes (s : ByteArray) (c : UInt8) (w : World) (hp : Lib.hasPrefix s.data.toList [c] = true) :
    Calls Tryd.prog 21 #[.string s, .string ⟨#[c]⟩] w fun e w' => e = .returned (.tuple #[.string ⟨s.data.toList.tail.toArray⟩, .bool true]) ∧ w = w' := by
  refine (Tryd.strings_CutPrefix s ⟨#[c]⟩ w).mono ?_
  rintro e w' ⟨rfl, rfl⟩
  refine ⟨?_, rfl⟩
  have e1 : Lib.trimPrefix s.data.toList [c] = s.data.toList.tail := by unfold Lib.trimPrefix; rw [if_pos hp]; simp
  show Ending.returned (.tuple #[.string ⟨(Lib.trimPrefix s.data.toList [c]).toArray⟩, .bool (Lib.hasPrefix s.data.toList [c])]) = _
  rw [e1, hp]
theorem cutPrefix_no (s : ByteArray) (c : UInt8) (w : World) (hp : Lib.hasPrefix s.data.toList [c] = false) :
    Calls Tryd.prog 21 #[.string s, .string ⟨#[c]⟩] w fun e w' => e = .returned (.tuple #[.string s, .bool false]) ∧ w = w' := by
  refine (Tryd.strings_CutPrefix s ⟨#[c]⟩ w).mono ?_
  rintro e w' ⟨rfl, rfl⟩
  refine ⟨?_, rfl⟩
  have e1 : Lib.trimPrefix s.data.toList [c] = s.data.toList := by unfold Lib.trimPrefix; rw [if_neg (by rw [hp]; decide)]
  show Ending.returned (.tuple #[.string ⟨(Lib.trimPrefix s.data.toList [c]).toArray⟩, .bool (Lib.hasPrefix s.data.toList [c])]) = _
  rw [e1, hp, Lib.mk_data]


/- strings.Cut at a colon. -/
theorem cut_slite (s : ByteArray) (w : World) (hs : s.size ≤ 9223372036854775806) :
    Calls Tryd.prog 29 #[.string s, .string ⟨#[58]⟩] w fun e w' => e = .returned (.tuple #[.string ⟨(Lib.cut s.data.toList [58]).1.toArray⟩, .string ⟨(Lib.cut s.data.toList [58]).2.1.toArray⟩, .bool (Lib.cut s.data.toList [58]).2.2]) ∧ Below w.heap.size w w' := by
  have hone := index_one 58 s.data.toList
  rcases Lib.indexB_cases s ⟨#[58]⟩ with hix | ⟨i, hix, hroom⟩
  · obtain ⟨e1, e2, e3⟩ := Lib.cutB_miss s ⟨#[58]⟩ hix
    simp only at e1 e2 e3
    rw [e1, e2, e3]
    have hi : Lib.indexByte s.data.toList 58 = -1 := by rw [← hone]; exact hix
    have Hi := Lib.hid hi
    clear hi hone hix e1 e2 e3
    go_enter Tryd.func29, Tryd.ntmps29
    go_wp2_with fail
    refine (Tryd.stringslite_Index_one s 58 w).mono ?_
    rintro e w' ⟨rfl, rfl⟩
    rw [Hi.out]
    go_wp2
    go_ret3
    exact ⟨rfl, Below.refl _ _⟩
  · obtain ⟨e1, e2, e3⟩ := Lib.cutB_hit s ⟨#[58]⟩ i hix
    simp only at e1 e2 e3
    rw [e1, e2, e3]
    have hi : Lib.indexByte s.data.toList 58 = i := by rw [← hone]; exact hix
    have hsz : (⟨#[58]⟩ : ByteArray).size = 1 := rfl
    rw [hsz] at hroom
    have c1 : (0 : Int) ≤ ↑i := by omega
    have c2 : (↑i : Int) ≤ ↑s.size := by omega
    have c3 : (0 : Int) ≤ ↑i + 1 := by omega
    have c4 : (↑i + 1 : Int) ≤ ↑s.size := by omega
    have Hi := Lib.hid hi
    clear hi hone hix e1 e2 e3 hsz
    go_enter Tryd.func29, Tryd.ntmps29
    go_wp2_with fail
    refine (Tryd.stringslite_Index_one s 58 w).mono ?_
    rintro e w1 ⟨rfl, rfl⟩
    rw [Hi.out]
    go_wp2_with fail
    go_quiet (fail)
    go_wp2
    go_ret3
    exact ⟨rfl, below_drewN (Below.refl _ _) _⟩
theorem cut_any (s : ByteArray) (w : World) (hs : s.size ≤ 9223372036854775806) :
    Calls Tryd.prog 22 #[.string s, .string ⟨#[58]⟩] w fun e w' => e = .returned (.tuple #[.string ⟨(Lib.cut s.data.toList [58]).1.toArray⟩, .string ⟨(Lib.cut s.data.toList [58]).2.1.toArray⟩, .bool (Lib.cut s.data.toList [58]).2.2]) ∧ Below w.heap.size w w' := by
  have hc := cut_slite s w hs
  obtain ⟨x1, h1⟩ : ∃ x, (⟨(Lib.cut s.data.toList [58]).1.toArray⟩ : ByteArray) = x := ⟨_, rfl⟩
  obtain ⟨x2, h2⟩ : ∃ x, (⟨(Lib.cut s.data.toList [58]).2.1.toArray⟩ : ByteArray) = x := ⟨_, rfl⟩
  obtain ⟨x3, h3⟩ : ∃ x, (Lib.cut s.data.toList [58]).2.2 = x := ⟨_, rfl⟩
  rw [h1, h2, h3] at hc ⊢
  have Hc := Lib.hid hc
  clear hc h1 h2 h3
  go_enter Tryd.func22, Tryd.ntmps22
  go_wp2_with fail
  refine Hc.out.mono ?_
  rintro e w1 ⟨rfl, hb1⟩
  go_wp2_with fail
  go_ret3
  exact ⟨rfl, hb1⟩

/- How strconv.Atoi ends. -/
theorem atoi_ok (s : ByteArray) (v : Int) (w : World) (hs : s.size ≤ 281474976710656) (h : Lib.atoiAll s.data.toList = .ok v) :
    Calls Tryd.prog 30 #[.string s] w fun e w' => e = .returned (.tuple #[.int .i64 v, .nilIface]) ∧ Below w.heap.size w w' := by
  refine (Tryd.strconv_Atoi_ok s (by omega) v h w).mono ?_
  rintro e w1 ⟨rfl, hw1⟩
  refine ⟨rfl, ?_⟩
  rcases hw1 with rfl | ⟨t, rfl⟩
  · exact Below.refl _ _
  · exact Lib.bytesWorld_below _ _ _
theorem atoi_bad (s : ByteArray) (w : World) (hE : Env w) (hs : s.size ≤ 281474976710656) (h : ∀ v, Lib.atoiAll s.data.toList ≠ .ok v) :
    Calls Tryd.prog 30 #[.string s] w fun e w' => ∃ n t p, e = .returned (.tuple #[.int .i64 n, .iface t p]) ∧ Below w.heap.size w w' := by
  cases ha : Lib.atoiAll s.data.toList
  · exact absurd ha (h _)
  · obtain ⟨tp, p, hvar⟩ := hE.syn
    have hc := Any.strconv_Atoi_syntax_var Tryd.laysC172 s (by omega) ha tp p w hvar
    exact hc.mono fun e w1 ⟨N, he, _, _, hb1⟩ => ⟨_, _, _, he, hb1⟩
  · obtain ⟨tp, p, hvar⟩ := hE.rng
    have hc := Any.strconv_Atoi_range_var Tryd.laysC172 s (by omega) ha tp p w hvar
    exact hc.mono fun e w1 ⟨N, he, _, _, hb1⟩ => ⟨_, _, _, he, hb1⟩

/- length: the number that was written so. -/
theorem length_ok (s : ByteArray) (n : Nat) (w : World) (hE : Env w) (hs : s.size ≤ 281474976710656) (h : numOf s.data.toList = some n) :
    Calls Tryd.prog 23 #[.string s] w fun e w' => e = .returned (.tuple #[.int .i64 (n : Int), .bool true]) ∧ Below w.heap.size w w' := by
  obtain ⟨hd, hlt, ha⟩ := numOf_some h
  have hsi : s = itoaB n := ba_ext (by rw [itoaB_data]; exact hd)
  have Hs : Hid (s = itoaB n) := hsi
  have hq : ((itoaB n).toList == s.toList) = true := by rw [hsi]; simp
  clear hsi hd h
  go_enter Tryd.func23, Tryd.ntmps23
  go_wp2_with fail
  refine (atoi_ok s (n : Int) w hs ha).mono ?_
  rintro e w1 ⟨rfl, hb1⟩
  have hE1 := hE.on hb1
  clear ha hE
  go_wp2_with fail
  refine (itoa_any n (by omega) w1 hE1.toTab).mono ?_
  rintro e w2 ⟨rfl, hb2⟩
  go_wp2
  go_ret2
  exact ⟨rfl, below_on hb1 hb2⟩

theorem length_no (s : ByteArray) (w : World) (hE : Env w) (hs : s.size ≤ 281474976710656) (h : numOf s.data.toList = none) :
    Calls Tryd.prog 23 #[.string s] w fun e w' => e = .returned (.tuple #[.int .i64 0, .bool false]) ∧ Below w.heap.size w w' := by
  by_cases hok : ∃ v, Lib.atoiAll s.data.toList = .ok v
  · obtain ⟨v, ha⟩ := hok
    have hv := Lib.atoiAll_bounds ha
    unfold numOf at h
    rw [ha] at h
    by_cases h0 : 0 ≤ v
    · obtain ⟨n, rfl⟩ := Int.eq_ofNat_of_zero_le h0
      have hne : itoaB n ≠ s := by
        intro e
        rw [← e, itoaB_data] at h
        simp [Lib.itoa_nonneg] at h
      have hq := str_ne hne
      clear h hne h0
      go_enter Tryd.func23, Tryd.ntmps23
      go_wp2_with fail
      refine (atoi_ok s (n : Int) w hs ha).mono ?_
      rintro e w1 ⟨rfl, hb1⟩
      have hE1 := hE.on hb1
      clear ha hE
      go_wp2_with fail
      refine (itoa_any n (by omega) w1 hE1.toTab).mono ?_
      rintro e w2 ⟨rfl, hb2⟩
      go_wp2
      go_ret2
      exact ⟨rfl, below_on hb1 hb2⟩
    · clear h
      have hneg : v < 0 := by omega
      clear h0
      go_enter Tryd.func23, Tryd.ntmps23
      go_wp2_with fail
      refine (atoi_ok s v w hs ha).mono ?_
      rintro e w1 ⟨rfl, hb1⟩
      clear ha hE
      go_wp2_with fail
      go_ret2
      exact ⟨rfl, hb1⟩
  · have hbad : ∀ v, Lib.atoiAll s.data.toList ≠ .ok v := fun v e => hok ⟨v, e⟩
    have Hb := Lib.hid hbad
    clear h hok hbad
    go_enter Tryd.func23, Tryd.ntmps23
    go_wp2_with fail
    refine (atoi_bad s w hE hs Hb.out).mono ?_
    rintro e w1 ⟨n, t, p, rfl, hb1⟩
    go_wp2_with fail
    go_ret2
    exact ⟨rfl, hb1⟩

theorem mk_size (l : List UInt8) : (⟨l.toArray⟩ : ByteArray).size = l.length := by rw [ba_size]

theorem cut_le (l : List UInt8) : (Lib.cut l [58]).1.length ≤ l.length ∧ (Lib.cut l [58]).2.1.length ≤ l.length := by
  unfold Lib.cut
  split
  · simp only [List.length_take, List.length_drop]; omega
  · simp

theorem ext_take (r : List UInt8) (n : Nat) : (⟨r.toArray⟩ : ByteArray).extract 0 n = ⟨(r.take n).toArray⟩ := by
  rw [Lib.extract_eq]; simp
theorem ext_drop (r : List UInt8) (n : Nat) : (⟨r.toArray⟩ : ByteArray).extract n r.length = ⟨(r.drop n).toArray⟩ := by
  rw [Lib.extract_eq]
  rw [List.take_of_length_le (by simp)]

theorem split_ok (s u v : ByteArray) (w : World) (hE : Env w) (hs : s.size ≤ 281474976710656) (h : splitS s = some (u, v)) :
    Calls Tryd.prog 10 #[.string s] w fun e w' => e = .returned (.tuple #[.string u, .string v, .int .i64 0]) ∧ Below w.heap.size w w' := by
  unfold splitS at h
  cases hl : splitL s.data.toList with
  | none => rw [hl] at h; simp at h
  | some x =>
    rw [hl] at h
    simp only [Option.map_some, Option.some.injEq, Prod.mk.injEq] at h
    unfold splitL at hl
    split at hl
    · rename_i hp
      split at hl
      · rename_i hc
        split at hl
        · rename_i n hn
          split at hl
          · rename_i hle
            injection hl with hl
            have hcl := cut_le s.data.toList.tail
            have htl : s.data.toList.tail.length ≤ s.size := by rw [List.length_tail, ← ba_size]; omega
            have hpe : (Lib.cut s.data.toList.tail [58]).2.1 = x.1 ++ x.2 := by rw [← hl, List.take_append_drop]
            obtain ⟨d, hd⟩ : ∃ d, (Lib.cut s.data.toList.tail [58]).1 = d := ⟨_, rfl⟩
            obtain ⟨r, hr⟩ : ∃ r, (Lib.cut s.data.toList.tail [58]).2.1 = r := ⟨_, rfl⟩
            rw [hd] at hn hcl
            rw [hr] at hle hl hcl
            have Hd := Lib.hid hd
            have Hr := Lib.hid hr
            have Hc := Lib.hid hc
            have Hx := Lib.hid h
            have Hl := Lib.hid hl
            have hn' : numOf (⟨d.toArray⟩ : ByteArray).data.toList = some n := hn
            have hsz : (⟨r.toArray⟩ : ByteArray).size = r.length := mk_size r
            have Hz := Lib.hid hsz
            clear hd hr hc h hl hpe hn hsz
            go_enter Tryd.func10, Tryd.ntmps10
            go_wp2_with fail
            refine (cutPrefix_yes s 78 w hp).mono ?_
            rintro e w1 ⟨rfl, rfl⟩
            go_wp2_with fail
            refine (cut_any ⟨s.data.toList.tail.toArray⟩ w (by rw [mk_size]; omega)).mono ?_
            rintro e w1 ⟨rfl, hb1⟩
            rw [show (⟨s.data.toList.tail.toArray⟩ : ByteArray).data.toList = s.data.toList.tail from rfl, Hd.out, Hr.out, Hc.out]
            have hE1 := hE.on hb1
            go_wp2_with fail
            refine (length_ok ⟨d.toArray⟩ n w1 hE1 (by rw [mk_size]; omega) hn').mono ?_
            rintro e w2 ⟨rfl, hb2⟩
            clear hE1 hE hn' hp
            go_wp2_with fail
            have c1 : (0 : Int) ≤ (n : Int) := by omega
            have c2 : (n : Int) ≤ (r.length : Int) := by omega
            go_quiet (fail)
            go_wp2
            go_ret3
            refine ⟨?_, below_drewN (below_on hb1 hb2) _⟩
            show Ending.returned (.tuple #[.string ((⟨r.toArray⟩ : ByteArray).extract 0 n), .string ((⟨r.toArray⟩ : ByteArray).extract n r.length), .int .i64 0]) = _
            have hx := Hx.out
            rw [← Hl.out] at hx
            rw [ext_take, ext_drop, hx.1, hx.2]
          · cases hl
        · cases hl
      · cases hl
    · cases hl

theorem split_no (s : ByteArray) (w : World) (hE : Env w) (hs : s.size ≤ 281474976710656) (h : splitS s = none) :
    Calls Tryd.prog 10 #[.string s] w fun e w' => e = .returned (.tuple #[.string ⟨#[]⟩, .string ⟨#[]⟩, .int .i64 4]) ∧ Below w.heap.size w w' := by
  unfold splitS at h
  rw [Option.map_eq_none_iff] at h
  have hcl := cut_le s.data.toList.tail
  have htl : s.data.toList.tail.length ≤ s.size := by rw [List.length_tail, ← ba_size]; omega
  obtain ⟨d, hd⟩ : ∃ d, (Lib.cut s.data.toList.tail [58]).1 = d := ⟨_, rfl⟩
  obtain ⟨r, hr⟩ : ∃ r, (Lib.cut s.data.toList.tail [58]).2.1 = r := ⟨_, rfl⟩
  unfold splitL at h
  rw [hd, hr] at h
  rw [hd, hr] at hcl
  have Hd := Lib.hid hd
  have Hr := Lib.hid hr
  clear hd hr
  by_cases hp : Lib.hasPrefix s.data.toList [78] = true
  · rw [if_pos hp] at h
    by_cases hc : (Lib.cut s.data.toList.tail [58]).2.2 = true
    · rw [if_pos hc] at h
      have Hc := Lib.hid hc
      clear hc
      cases hn : numOf d with
      | none =>
        have hn' : numOf (⟨d.toArray⟩ : ByteArray).data.toList = none := hn
        clear h hn
        go_enter Tryd.func10, Tryd.ntmps10
        go_wp2_with fail
        refine (cutPrefix_yes s 78 w hp).mono ?_
        rintro e w1 ⟨rfl, rfl⟩
        go_wp2_with fail
        refine (cut_any ⟨s.data.toList.tail.toArray⟩ w (by rw [mk_size]; omega)).mono ?_
        rintro e w1 ⟨rfl, hb1⟩
        rw [show (⟨s.data.toList.tail.toArray⟩ : ByteArray).data.toList = s.data.toList.tail from rfl, Hd.out, Hr.out, Hc.out]
        have hE1 := hE.on hb1
        go_wp2_with fail
        refine (length_no ⟨d.toArray⟩ w1 hE1 (by rw [mk_size]; omega) hn').mono ?_
        rintro e w2 ⟨rfl, hb2⟩
        clear hE1 hE hn' hp
        go_wp2_with fail
        go_ret3
        exact ⟨rfl, below_on hb1 hb2⟩
      | some n =>
        have hn' : numOf (⟨d.toArray⟩ : ByteArray).data.toList = some n := hn
        rw [hn] at h
        have hgt : r.length < n := by
          refine Classical.byContradiction fun hle => ?_
          simp only [] at h
          rw [if_pos (by omega)] at h
          cases h
        clear h hn
        go_enter Tryd.func10, Tryd.ntmps10
        go_wp2_with fail
        refine (cutPrefix_yes s 78 w hp).mono ?_
        rintro e w1 ⟨rfl, rfl⟩
        go_wp2_with fail
        refine (cut_any ⟨s.data.toList.tail.toArray⟩ w (by rw [mk_size]; omega)).mono ?_
        rintro e w1 ⟨rfl, hb1⟩
        rw [show (⟨s.data.toList.tail.toArray⟩ : ByteArray).data.toList = s.data.toList.tail from rfl, Hd.out, Hr.out, Hc.out]
        have hE1 := hE.on hb1
        go_wp2_with fail
        refine (length_ok ⟨d.toArray⟩ n w1 hE1 (by rw [mk_size]; omega) hn').mono ?_
        rintro e w2 ⟨rfl, hb2⟩
        clear hE1 hE hn' hp
        go_wp2_with fail
        go_ret3
        exact ⟨rfl, below_on hb1 hb2⟩
    · have Hc : Hid ((Lib.cut s.data.toList.tail [58]).2.2 = false) := Lib.hid (by simpa using hc)
      clear hc h
      go_enter Tryd.func10, Tryd.ntmps10
      go_wp2_with fail
      refine (cutPrefix_yes s 78 w hp).mono ?_
      rintro e w1 ⟨rfl, rfl⟩
      go_wp2_with fail
      refine (cut_any ⟨s.data.toList.tail.toArray⟩ w (by rw [mk_size]; omega)).mono ?_
      rintro e w1 ⟨rfl, hb1⟩
      rw [show (⟨s.data.toList.tail.toArray⟩ : ByteArray).data.toList = s.data.toList.tail from rfl, Hd.out, Hr.out, Hc.out]
      go_wp2_with fail
      go_ret3
      exact ⟨rfl, hb1⟩
  · have hp' : Lib.hasPrefix s.data.toList [78] = false := by simpa using hp
    clear hp h
    go_enter Tryd.func10, Tryd.ntmps10
    go_wp2_with fail
    refine (cutPrefix_no s 78 w hp').mono ?_
    rintro e w1 ⟨rfl, rfl⟩
    go_wp2_with fail
    go_ret3
    exact ⟨rfl, Below.refl _ _⟩

/- The closed fact 'sealed' of the statements. -/

/- The same, without a case. -/
theorem leaf_any (s : ByteArray) (w : World) :
    Calls Tryd.prog 19 #[.string s] w fun e w' => e = .returned (.tuple #[.string (leafV s), .int .i64 (leafE s)]) ∧ w = w' := by
  by_cases h : s.size ≤ 20000
  · rw [(leaf_pos h).1, (leaf_pos h).2]; exact leaf_ok s w h
  · rw [(leaf_neg h).1, (leaf_neg h).2]; exact leaf_many s w (by omega)
theorem node_any (a b : ByteArray) (w : World) (hE : Env w) (hb : b.size ≤ 9223372036854775807) :
    Calls Tryd.prog 27 #[.string a, .string b] w fun e w' => e = .returned (.tuple #[.string (nodeV a b), .int .i64 (nodeE a b)]) ∧ Below w.heap.size w w' := by
  by_cases h : a.size + b.size ≤ 20000
  · rw [(node_pos h).1, (node_pos h).2]; exact node_ok a b w hE h
  · rw [(node_neg h).1, (node_neg h).2]
    refine (node_many a b w hb (by omega)).mono ?_
    rintro e w' ⟨rfl, rfl⟩
    exact ⟨rfl, Below.refl _ _⟩
theorem split_any (s : ByteArray) (w : World) (hE : Env w) (hs : s.size ≤ 281474976710656) :
    Calls Tryd.prog 10 #[.string s] w fun e w' => e = .returned (.tuple #[.string (splitU s), .string (splitV s), .int .i64 (splitE s)]) ∧ Below w.heap.size w w' := by
  unfold splitU splitV splitE
  cases h : splitS s with
  | none => exact split_no s w hE hs h
  | some x => exact split_ok s x.1 x.2 w hE hs h
end Go.Proofs.YtpenammonkgkaabDoor
