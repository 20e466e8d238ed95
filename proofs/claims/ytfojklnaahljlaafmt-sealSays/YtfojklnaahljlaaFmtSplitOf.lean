/-
  Chapter 1's Split as the document's own reckoning has it.
-/
import Derived.Test.YtfojklnaahljlaaFmtFmtNode
import Derived.Lib.ParseIntBTie
import Derived.Lib.QuietBelow
import Derived.Shelf.Strconv.ErrVarParseInt
namespace Go.Proofs.YtfojklnaahljlaaFmt
open Go Go.RowKit

theorem indexByte_cases (l : List UInt8) (c : UInt8) : Lib.indexByte l c = -1 ∨ ∃ i : Nat, Lib.indexByte l c = i ∧ i < l.length := by
  induction l with
  | nil => exact Or.inl rfl
  | cons b l ih =>
    unfold Lib.indexByte
    by_cases hb : (b == c) = true
    · rw [if_pos hb]; exact Or.inr ⟨0, rfl, by simp⟩
    · rw [if_neg hb]
      rcases ih with h | ⟨i, h, hi⟩
      · rw [h]; exact Or.inl rfl
      · rw [h]
        have : ((i : Int) == -1) = false := by rw [beq_eq_false_iff_ne]; omega
        rw [this]
        exact Or.inr ⟨i + 1, by simp, by simp; omega⟩

theorem splitS_no_prefix {s : ByteArray} (h : Lib.hasPrefix s.data.toList [78] = false) : splitS s = none := by
  unfold splitS splitL
  rw [if_neg (by rw [h]; decide)]
  rfl

theorem head_78 {l : List UInt8} (h : Lib.hasPrefix l [78] = true) : ∃ t, l = 78 :: t := by
  cases l with
  | nil => simp [Lib.hasPrefix] at h
  | cons c t =>
    simp only [Lib.hasPrefix, List.isPrefixOf, Bool.and_true, beq_iff_eq] at h
    exact ⟨t, by rw [← h]⟩

theorem splitS_no_colon {s : ByteArray} (hp : Lib.hasPrefix s.data.toList [78] = true) (h : Lib.indexByte s.data.toList 58 = -1) : splitS s = none := by
  obtain ⟨t, ht⟩ := head_78 hp
  rw [ht] at h
  unfold Lib.indexByte at h
  rw [if_neg (by decide)] at h
  have hj : Lib.indexByte t 58 = -1 := by
    rcases indexByte_cases t 58 with k | ⟨i, k, _⟩
    · exact k
    · rw [k] at h
      have : ((i : Int) == -1) = false := by rw [beq_eq_false_iff_ne]; omega
      rw [this] at h
      simp at h
      omega
  unfold splitS splitL
  rw [ht, List.tail_cons]
  have hc : (Lib.cut t [58]).2.2 = false := by
    unfold Lib.cut
    rw [index_one, hj, if_neg (by omega)]
  simp [hc]

theorem splitS_at {s : ByteArray} {i : Nat} (hp : Lib.hasPrefix s.data.toList [78] = true) (h : Lib.indexByte s.data.toList 58 = i) :
    1 ≤ i ∧ i < s.size ∧ splitS s = (match numOf (s.extract 1 i).data.toList with
      | some n => if n ≤ (s.extract (i + 1) s.size).size then some ((s.extract (i + 1) s.size).extract 0 n, (s.extract (i + 1) s.size).extract n (s.extract (i + 1) s.size).size) else none
      | none => none) := by
  obtain ⟨t, ht⟩ := head_78 hp
  have hlen : s.size = t.length + 1 := by rw [ba_size, ht]; simp
  have h' := h
  rw [ht] at h'
  unfold Lib.indexByte at h'
  rw [if_neg (by decide)] at h'
  rcases indexByte_cases t 58 with k | ⟨j, k, hj⟩
  · rw [k] at h'; simp at h'
  · rw [k] at h'
    have : ((j : Int) == -1) = false := by rw [beq_eq_false_iff_ne]; omega
    rw [this] at h'
    simp only [Bool.false_eq_true, if_false] at h'
    have hi : i = j + 1 := by omega
    subst hi
    refine ⟨by omega, by omega, ?_⟩
    have hcut : Lib.cut t [58] = (t.take j, t.drop (j + 1), true) := by
      unfold Lib.cut
      rw [index_one, k, if_pos (by omega)]
      simp
    have e1 : (s.extract 1 (j + 1)).data.toList = t.take j := by
      rw [Lib.extract_data, ht]; simp
    have e2 : (s.extract (j + 1 + 1) s.size) = ⟨(t.drop (j + 1)).toArray⟩ := by
      rw [Lib.extract_eq, ht, hlen]
      have : List.drop (j + 1 + 1) (78 :: t) = t.drop (j + 1) := rfl
      rw [this, List.take_of_length_le (by simp)]
    rw [e1, e2, mk_size]
    unfold splitS splitL
    rw [ht, List.tail_cons, hcut]
    rw [if_pos (by rw [← ht]; exact hp)]
    simp only [if_true]
    cases numOf (t.take j) with
    | none => rfl
    | some n =>
      simp only []
      by_cases hn : n ≤ (t.drop (j + 1)).length
      · rw [if_pos hn, if_pos hn, ext_take, ext_drop]; rfl
      · rw [if_neg hn, if_neg hn]; rfl

def itoaI (v : Int) : ByteArray := ⟨(Lib.itoa v).toArray⟩
/- strconv.FormatInt at base 10, with the frame. -/
theorem formatInt_any (n : Int) (h0 : -9223372036854775808 ≤ n) (h1 : n ≤ 9223372036854775807) (w : World) (hE : Env w) :
    Calls Tryf.prog 20 #[.int .i64 n, .int .i64 10] w fun e w' => e = .returned (.string (itoaI n)) ∧ Below w.heap.size w w' := by
  refine (Tryf.strconv_FormatInt_10 n h0 h1 w hE.tab).mono ?_
  rintro e w' ⟨rfl, k, os, rfl⟩
  exact ⟨rfl, below_grow w k os⟩

/- How strconv.ParseInt ends, at base 10 and 64 bits. -/
theorem parse_ok (s : ByteArray) (v : Int) (w : World) (hs : s.size ≤ 281474976710656) (h : Lib.atoiAll s.data.toList = .ok v) :
    Calls Tryf.prog 19 #[.string s, .int .i64 10, .int .i64 64] w fun e w' => e = .returned (.tuple #[.int .i64 v, .nilIface]) ∧ Below w.heap.size w w' := by
  refine (Tryf.strconv_ParseInt_10_at64_ok s (by omega) v (by rw [Lib.parseIntB_64]; exact h) w).mono ?_
  rintro e w1 ⟨rfl, hw1⟩
  refine ⟨rfl, ?_⟩
  rcases hw1 with rfl | ⟨t, rfl⟩
  · exact Below.refl _ _
  · exact Lib.bytesWorld_below _ _ _
theorem parse_bad (s : ByteArray) (w : World) (hE : Env w) (hs : s.size ≤ 281474976710656) (h : ∀ v, Lib.atoiAll s.data.toList ≠ .ok v) :
    Calls Tryf.prog 19 #[.string s, .int .i64 10, .int .i64 64] w fun e w' => ∃ n t p, e = .returned (.tuple #[.int .i64 n, .iface t p]) ∧ Below w.heap.size w w' := by
  cases ha : Lib.atoiAll s.data.toList
  · exact absurd ha (h _)
  · obtain ⟨tp, p, hvar⟩ := hE.syn
    have hc := Any.strconv_ParseInt_10_at64_syntax_var Tryf.laysC174 s (by omega) (by rw [Lib.parseIntB_64]; exact ha) tp p w hvar
    exact hc.mono fun e w1 ⟨N, he, _, _, hb1⟩ => ⟨_, _, _, he, hb1⟩
  · obtain ⟨tp, p, hvar⟩ := hE.rng
    have hc := Any.strconv_ParseInt_10_at64_range_var Tryf.laysC174 s (by omega) (by rw [Lib.parseIntB_64]; exact ha) tp p w hvar
    exact hc.mono fun e w1 ⟨N, he, _, _, hb1⟩ => ⟨_, _, _, he, hb1⟩

/- The ways of SplitOf: no colon; another mark; a colon, the mark. -/
theorem splitOf_no1 (s : ByteArray) (w : World) (h : Lib.indexByte s.data.toList 58 = -1) :
    Calls Tryf.prog 10 #[.string s] w fun e w' => e = .returned (.tuple #[.string ⟨#[]⟩, .string ⟨#[]⟩, .int .i64 4]) ∧ Below w.heap.size w w' := by
  have H := Lib.hid h
  clear h
  go_enter Tryf.func10, Tryf.ntmps10
  go_wp2_with fail
  refine (Tryf.strings_IndexByte s 58 w).mono ?_
  rintro e w1 ⟨rfl, rfl⟩
  rw [show ((58 : Int).toNat.toUInt8) = (58 : UInt8) from rfl, H.out]
  go_wp2_with fail
  go_ret3
  exact ⟨rfl, Below.refl _ _⟩
theorem splitOf_no2 (s : ByteArray) (i : Nat) (w : World) (h : Lib.indexByte s.data.toList 58 = i) (hp : Lib.hasPrefix s.data.toList [78] = false) :
    Calls Tryf.prog 10 #[.string s] w fun e w' => e = .returned (.tuple #[.string ⟨#[]⟩, .string ⟨#[]⟩, .int .i64 4]) ∧ Below w.heap.size w w' := by
  have H := Lib.hid h
  have Hp := Lib.hid hp
  clear h hp
  have c0 : (0 : Int) ≤ (i : Int) := by omega
  go_enter Tryf.func10, Tryf.ntmps10
  go_wp2_with fail
  refine (Tryf.strings_IndexByte s 58 w).mono ?_
  rintro e w1 ⟨rfl, rfl⟩
  rw [show ((58 : Int).toNat.toUInt8) = (58 : UInt8) from rfl, H.out]
  go_wp2_with fail
  refine (Tryf.strings_HasPrefix s ⟨#[78]⟩ w1).mono ?_
  rintro e w2 ⟨rfl, rfl⟩
  rw [show (⟨#[78]⟩ : ByteArray).data.toList = [78] from rfl, Hp.out]
  go_wp2_with fail
  go_ret3
  exact ⟨rfl, Below.refl _ _⟩

theorem splitE_none {s : ByteArray} (h : splitS s = none) : splitU s = ⟨#[]⟩ ∧ splitV s = ⟨#[]⟩ ∧ splitE s = 4 := by
  unfold splitU splitV splitE; rw [h]; exact ⟨rfl, rfl, rfl⟩
theorem splitE_some {s u v : ByteArray} (h : splitS s = some (u, v)) : splitU s = u ∧ splitV s = v ∧ splitE s = 0 := by
  unfold splitU splitV splitE; rw [h]; exact ⟨rfl, rfl, rfl⟩

theorem splitOf_bad (s : ByteArray) (i : Nat) (w : World) (hE : Env w) (hs : s.size ≤ 281474976710656) (h : Lib.indexByte s.data.toList 58 = i) (hp : Lib.hasPrefix s.data.toList [78] = true) (h1 : 1 ≤ i) (h2 : i < s.size)
    (hbad : ∀ v, Lib.atoiAll (s.extract 1 i).data.toList ≠ .ok v) :
    Calls Tryf.prog 10 #[.string s] w fun e w' => e = .returned (.tuple #[.string ⟨#[]⟩, .string ⟨#[]⟩, .int .i64 4]) ∧ Below w.heap.size w w' := by
  have H := Lib.hid h
  have Hp := Lib.hid hp
  have Hb := Lib.hid hbad
  clear h hp hbad
  have c0 : (0 : Int) ≤ (i : Int) := by omega
  have hdz : (s.extract 1 i).size ≤ s.size := by rw [ByteArray.size_extract]; omega
  go_enter Tryf.func10, Tryf.ntmps10
  go_wp2_with fail
  refine (Tryf.strings_IndexByte s 58 w).mono ?_
  rintro e w1 ⟨rfl, rfl⟩
  rw [show ((58 : Int).toNat.toUInt8) = (58 : UInt8) from rfl, H.out]
  go_wp2_with fail
  refine (Tryf.strings_HasPrefix s ⟨#[78]⟩ w1).mono ?_
  rintro e w2 ⟨rfl, rfl⟩
  rw [show (⟨#[78]⟩ : ByteArray).data.toList = [78] from rfl, Hp.out]
  go_wp2_with fail
  refine (parse_bad (s.extract 1 i) w2 hE (by omega) Hb.out).mono ?_
  rintro e w3 ⟨n, t, p, rfl, hb3⟩
  go_wp2_with fail
  go_quiet (fail)
  go_wp2_with fail
  go_ret3
  exact ⟨rfl, below_drewN hb3 _⟩

theorem format_in (v : Int) (h0 : -9223372036854775808 ≤ v) (h1 : v ≤ 9223372036854775807) (w : World) (hE : Env w) (d : Nat) (os : Array Obj) :
    Calls Tryf.prog 20 #[.int .i64 v, .int .i64 10] (Sort.grow (redrawn w d) os) fun e w'' => e = .returned (.string (itoaI v)) ∧ ∃ p : Regrown, w'' = Sort.grow (redrawn w p.d) p.os :=
  Calls.regrown_of (formatInt_any v h0 h1 _ (hE.on (below_regrown w d os)))

theorem splitOf_ne (s : ByteArray) (i : Nat) (v : Int) (w : World) (hE : Env w) (hs : s.size ≤ 281474976710656) (h : Lib.indexByte s.data.toList 58 = i) (hp : Lib.hasPrefix s.data.toList [78] = true) (h1 : 1 ≤ i) (h2 : i < s.size)
    (hok : Lib.atoiAll (s.extract 1 i).data.toList = .ok v) (hne : itoaI v ≠ s.extract 1 i) :
    Calls Tryf.prog 10 #[.string s] w fun e w' => e = .returned (.tuple #[.string ⟨#[]⟩, .string ⟨#[]⟩, .int .i64 4]) ∧ Below w.heap.size w w' := by
  have hv := Lib.atoiAll_bounds hok
  have H := Lib.hid h
  have Hp := Lib.hid hp
  have Hok := Lib.hid hok
  clear h hp hok
  have hq := str_ne hne
  clear hne
  have c0 : (0 : Int) ≤ (i : Int) := by omega
  have hdz : (s.extract 1 i).size ≤ s.size := by rw [ByteArray.size_extract]; omega
  go_enter Tryf.func10, Tryf.ntmps10
  go_wp2_with fail
  refine (Tryf.strings_IndexByte s 58 w).mono ?_
  rintro e w1 ⟨rfl, rfl⟩
  rw [show ((58 : Int).toNat.toUInt8) = (58 : UInt8) from rfl, H.out]
  go_wp2_with fail
  refine (Tryf.strings_HasPrefix s ⟨#[78]⟩ w1).mono ?_
  rintro e w2 ⟨rfl, rfl⟩
  rw [show (⟨#[78]⟩ : ByteArray).data.toList = [78] from rfl, Hp.out]
  go_wp2_with fail
  refine (parse_ok (s.extract 1 i) v w2 (by omega) Hok.out).mono ?_
  rintro e w3 ⟨rfl, hb3⟩
  have cF := Lib.hid (format_in v hv.1 hv.2 w3 (hE.on hb3))
  go_wp2_with fail
  refine wp_region_quiet_below (by kernel_rfl) (by kernel_rfl) ?_
  repeat (first | go_big_quiet_step (exact cF.out _ _) | quiet_step (exact cF.out _ _))
  refine wpQuiet_nil ?_
  intro _ hw'
  obtain ⟨⟨dq, osq⟩, hw''⟩ := hw'
  subst hw''
  have hbq := below_on hb3 (below_regrown w3 dq osq)
  clear cF
  go_wp2_with fail
  go_ret3
  exact ⟨rfl, hbq⟩
theorem splitOf_neg (s : ByteArray) (i : Nat) (v : Int) (w : World) (hE : Env w) (hs : s.size ≤ 281474976710656) (h : Lib.indexByte s.data.toList 58 = i) (hp : Lib.hasPrefix s.data.toList [78] = true) (h1 : 1 ≤ i) (h2 : i < s.size)
    (hok : Lib.atoiAll (s.extract 1 i).data.toList = .ok v) (heq : itoaI v = s.extract 1 i) (hneg : v < 0) :
    Calls Tryf.prog 10 #[.string s] w fun e w' => e = .returned (.tuple #[.string ⟨#[]⟩, .string ⟨#[]⟩, .int .i64 4]) ∧ Below w.heap.size w w' := by
  have hv := Lib.atoiAll_bounds hok
  have H := Lib.hid h
  have Hp := Lib.hid hp
  have Hok := Lib.hid hok
  clear h hp hok
  have hq := str_eq heq
  clear heq
  have c0 : (0 : Int) ≤ (i : Int) := by omega
  have hdz : (s.extract 1 i).size ≤ s.size := by rw [ByteArray.size_extract]; omega
  go_enter Tryf.func10, Tryf.ntmps10
  go_wp2_with fail
  refine (Tryf.strings_IndexByte s 58 w).mono ?_
  rintro e w1 ⟨rfl, rfl⟩
  rw [show ((58 : Int).toNat.toUInt8) = (58 : UInt8) from rfl, H.out]
  go_wp2_with fail
  refine (Tryf.strings_HasPrefix s ⟨#[78]⟩ w1).mono ?_
  rintro e w2 ⟨rfl, rfl⟩
  rw [show (⟨#[78]⟩ : ByteArray).data.toList = [78] from rfl, Hp.out]
  go_wp2_with fail
  refine (parse_ok (s.extract 1 i) v w2 (by omega) Hok.out).mono ?_
  rintro e w3 ⟨rfl, hb3⟩
  have cF := Lib.hid (format_in v hv.1 hv.2 w3 (hE.on hb3))
  go_wp2_with fail
  refine wp_region_quiet_below (by kernel_rfl) (by kernel_rfl) ?_
  repeat (first | go_big_quiet_step (exact cF.out _ _) | quiet_step (exact cF.out _ _))
  refine wpQuiet_nil ?_
  intro _ hw'
  obtain ⟨⟨dq, osq⟩, hw''⟩ := hw'
  subst hw''
  have hbq := below_on hb3 (below_regrown w3 dq osq)
  clear cF
  go_wp2_with fail
  go_ret3
  exact ⟨rfl, hbq⟩
theorem ext_size (s : ByteArray) (k : Nat) : (s.extract k s.size).size = s.size - k := by
  rw [ByteArray.size_extract]; omega
theorem splitOf_big (s : ByteArray) (i : Nat) (v : Int) (w : World) (hE : Env w) (hs : s.size ≤ 281474976710656) (h : Lib.indexByte s.data.toList 58 = i) (hp : Lib.hasPrefix s.data.toList [78] = true) (h1 : 1 ≤ i) (h2 : i < s.size)
    (hok : Lib.atoiAll (s.extract 1 i).data.toList = .ok v) (heq : itoaI v = s.extract 1 i) (hpos : 0 ≤ v) (hbig : ((s.extract (i + 1) s.size).size : Int) < v) :
    Calls Tryf.prog 10 #[.string s] w fun e w' => e = .returned (.tuple #[.string ⟨#[]⟩, .string ⟨#[]⟩, .int .i64 4]) ∧ Below w.heap.size w w' := by
  have hv := Lib.atoiAll_bounds hok
  have H := Lib.hid h
  have Hp := Lib.hid hp
  have Hok := Lib.hid hok
  clear h hp hok
  have hq := str_eq heq
  clear heq
  rw [ext_size] at hbig
  have c0 : (0 : Int) ≤ (i : Int) := by omega
  have hdz : (s.extract 1 i).size ≤ s.size := by rw [ByteArray.size_extract]; omega
  go_enter Tryf.func10, Tryf.ntmps10
  go_wp2_with fail
  refine (Tryf.strings_IndexByte s 58 w).mono ?_
  rintro e w1 ⟨rfl, rfl⟩
  rw [show ((58 : Int).toNat.toUInt8) = (58 : UInt8) from rfl, H.out]
  go_wp2_with fail
  refine (Tryf.strings_HasPrefix s ⟨#[78]⟩ w1).mono ?_
  rintro e w2 ⟨rfl, rfl⟩
  rw [show (⟨#[78]⟩ : ByteArray).data.toList = [78] from rfl, Hp.out]
  go_wp2_with fail
  refine (parse_ok (s.extract 1 i) v w2 (by omega) Hok.out).mono ?_
  rintro e w3 ⟨rfl, hb3⟩
  have cF := Lib.hid (format_in v hv.1 hv.2 w3 (hE.on hb3))
  go_wp2_with fail
  refine wp_region_quiet_below (by kernel_rfl) (by kernel_rfl) ?_
  repeat (first | go_big_quiet_step (exact cF.out _ _) | quiet_step (exact cF.out _ _))
  refine wpQuiet_nil ?_
  intro _ hw'
  obtain ⟨⟨dq, osq⟩, hw''⟩ := hw'
  subst hw''
  have hbq := below_on hb3 (below_regrown w3 dq osq)
  clear cF
  go_wp2_with fail
  go_ret3
  exact ⟨rfl, hbq⟩
theorem splitOf_good (s : ByteArray) (i : Nat) (v : Int) (w : World) (hE : Env w) (hs : s.size ≤ 281474976710656) (h : Lib.indexByte s.data.toList 58 = i) (hp : Lib.hasPrefix s.data.toList [78] = true) (h1 : 1 ≤ i) (h2 : i < s.size)
    (hok : Lib.atoiAll (s.extract 1 i).data.toList = .ok v) (heq : itoaI v = s.extract 1 i) (hpos : 0 ≤ v) (hle : v ≤ ((s.extract (i + 1) s.size).size : Int)) :
    Calls Tryf.prog 10 #[.string s] w fun e w' => e = .returned (.tuple #[.string ((s.extract (i + 1) s.size).extract 0 v.toNat), .string ((s.extract (i + 1) s.size).extract v.toNat (s.extract (i + 1) s.size).size), .int .i64 0]) ∧ Below w.heap.size w w' := by
  have hv := Lib.atoiAll_bounds hok
  have H := Lib.hid h
  have Hp := Lib.hid hp
  have Hok := Lib.hid hok
  clear h hp hok
  have hq := str_eq heq
  clear heq
  rw [ext_size] at hle ⊢
  have c0 : (0 : Int) ≤ (i : Int) := by omega
  have hdz : (s.extract 1 i).size ≤ s.size := by rw [ByteArray.size_extract]; omega
  go_enter Tryf.func10, Tryf.ntmps10
  go_wp2_with fail
  refine (Tryf.strings_IndexByte s 58 w).mono ?_
  rintro e w1 ⟨rfl, rfl⟩
  rw [show ((58 : Int).toNat.toUInt8) = (58 : UInt8) from rfl, H.out]
  go_wp2_with fail
  refine (Tryf.strings_HasPrefix s ⟨#[78]⟩ w1).mono ?_
  rintro e w2 ⟨rfl, rfl⟩
  rw [show (⟨#[78]⟩ : ByteArray).data.toList = [78] from rfl, Hp.out]
  go_wp2_with fail
  refine (parse_ok (s.extract 1 i) v w2 (by omega) Hok.out).mono ?_
  rintro e w3 ⟨rfl, hb3⟩
  have cF := Lib.hid (format_in v hv.1 hv.2 w3 (hE.on hb3))
  go_wp2_with fail
  refine wp_region_quiet_below (by kernel_rfl) (by kernel_rfl) ?_
  repeat (first | go_big_quiet_step (exact cF.out _ _) | quiet_step (exact cF.out _ _))
  refine wpQuiet_nil ?_
  intro _ hw'
  obtain ⟨⟨dq, osq⟩, hw''⟩ := hw'
  subst hw''
  have hbq := below_on hb3 (below_regrown w3 dq osq)
  clear cF
  go_wp2_with fail
  go_quiet (fail)
  go_wp2
  go_ret3
  exact ⟨rfl, below_drewN hbq _⟩

theorem splitOf_any (s : ByteArray) (w : World) (hE : Env w) (hs : s.size ≤ 281474976710656) :
    Calls Tryf.prog 10 #[.string s] w fun e w' => e = .returned (.tuple #[.string (splitU s), .string (splitV s), .int .i64 (splitE s)]) ∧ Below w.heap.size w w' := by
  rcases indexByte_cases s.data.toList 58 with h | ⟨i, h, _⟩
  · have hn : splitS s = none := by
      by_cases hp : Lib.hasPrefix s.data.toList [78] = true
      · exact splitS_no_colon hp h
      · exact splitS_no_prefix (by simpa using hp)
    obtain ⟨e1, e2, e3⟩ := splitE_none hn
    rw [e1, e2, e3]
    exact splitOf_no1 s w h
  · by_cases hp : Lib.hasPrefix s.data.toList [78] = true
    · obtain ⟨h1, h2, h3⟩ := splitS_at hp h
      unfold numOf at h3
      by_cases hok : ∃ v, Lib.atoiAll (s.extract 1 i).data.toList = .ok v
      · obtain ⟨v, ha⟩ := hok
        rw [ha] at h3
        by_cases hq : itoaI v = s.extract 1 i
        · have hl : Lib.itoa v = (s.extract 1 i).data.toList := by rw [← hq]; rfl
          by_cases hv : 0 ≤ v
          · simp only [] at h3
            rw [if_pos ⟨hv, hl⟩] at h3
            simp only [] at h3
            by_cases hle : v ≤ ((s.extract (i + 1) s.size).size : Int)
            · rw [if_pos (by omega)] at h3
              obtain ⟨e1, e2, e3⟩ := splitE_some h3
              rw [e1, e2, e3]
              exact splitOf_good s i v w hE hs h hp h1 h2 ha hq hv hle
            · rw [if_neg (by omega)] at h3
              obtain ⟨e1, e2, e3⟩ := splitE_none h3
              rw [e1, e2, e3]
              exact splitOf_big s i v w hE hs h hp h1 h2 ha hq hv (by omega)
          · simp only [] at h3
            rw [if_neg (fun k => hv k.1)] at h3
            obtain ⟨e1, e2, e3⟩ := splitE_none h3
            rw [e1, e2, e3]
            exact splitOf_neg s i v w hE hs h hp h1 h2 ha hq (by omega)
        · have hl : ¬ Lib.itoa v = (s.extract 1 i).data.toList := fun e => hq (ba_ext (by rw [← e]; rfl))
          simp only [] at h3
          rw [if_neg (fun k => hl k.2)] at h3
          obtain ⟨e1, e2, e3⟩ := splitE_none h3
          rw [e1, e2, e3]
          exact splitOf_ne s i v w hE hs h hp h1 h2 ha hq
      · have hbad : ∀ v, Lib.atoiAll (s.extract 1 i).data.toList ≠ .ok v := fun v e => hok ⟨v, e⟩
        have hn : splitS s = none := by
          rw [h3]
          cases ha : Lib.atoiAll (s.extract 1 i).data.toList
          · exact absurd ha (hbad _)
          · rfl
          · rfl
        obtain ⟨e1, e2, e3⟩ := splitE_none hn
        rw [e1, e2, e3]
        exact splitOf_bad s i w hE hs h hp h1 h2 hbad
    · have hp' : Lib.hasPrefix s.data.toList [78] = false := by simpa using hp
      obtain ⟨e1, e2, e3⟩ := splitE_none (splitS_no_prefix hp')
      rw [e1, e2, e3]
      exact splitOf_no2 s i w h hp'
end Go.Proofs.YtfojklnaahljlaaFmt
