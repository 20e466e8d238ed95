/-
  The walk of the law SealOne: it returns true.
-/
import Derived.Test.YtfojklnaahljlaaDoorSeal
import Derived.Deep.DeepCutAuto
namespace Go.Proofs.YtfojklnaahljlaaDoor
open Go Go.RowKit

theorem toList_inj {a b : ByteArray} (h : a.toList = b.toList) : a = b := by
  rw [ByteArray.toList_eq, ByteArray.toList_eq] at h
  exact ba_ext h
theorem nodeE_zero {a b : ByteArray} (h : nodeE a b = 0) : a.size + b.size ≤ 20000 := by
  unfold nodeE at h
  split at h
  · assumption
  · omega
theorem leafE_zero {a : ByteArray} (h : leafE a = 0) : a.size ≤ 20000 := by
  unfold leafE at h
  split at h
  · assumption
  · omega
theorem nodeV_eq {a b c d : ByteArray} (h1 : nodeE a b = 0) (h2 : nodeE c d = 0) : nodeV a b = nodeV c d ↔ a = c ∧ b = d := by
  have k1 := nodeE_zero h1
  have k2 := nodeE_zero h2
  rw [(node_pos k1).1, (node_pos k2).1]
  exact nodeS_eq (by omega) (by omega)
theorem one_a {a b c d : ByteArray} (h1 : nodeE a b = 0) (h2 : nodeE c d = 0) (h3 : a.toList = c.toList) :
    (!((nodeV a b).toList == (nodeV c d).toList) == (b.toList == d.toList)) = false := by
  have h4 := toList_inj h3
  subst h4
  rw [str_beq, str_beq]
  have := nodeV_eq (a := a) (b := b) (c := a) (d := d) h1 h2
  by_cases hbd : b = d
  · subst hbd; simp
  · have hn : nodeV a b ≠ nodeV a d := fun e => hbd (this.1 e).2
    simp [hbd, hn]
theorem one_b {a b c d : ByteArray} (h1 : nodeE a b = 0) (h2 : nodeE c d = 0) (h3 : ¬ a.toList = c.toList) :
    ((nodeV a b).toList == (nodeV c d).toList) = false :=
  str_ne fun e => h3 (by rw [((nodeV_eq h1 h2).1 e).1])

set_option maxHeartbeats 2000000 in
set_option maxRecDepth 100000 in
theorem sealOne_walk (a b c d : ByteArray) (w : World) (hE : Env w) (ha : a.size ≤ 281474976710656) (hb : b.size ≤ 281474976710656) (hc : c.size ≤ 281474976710656) (hd : d.size ≤ 281474976710656) :
    Calls Tryd.prog 3 #[.string a, .string b, .string c, .string d] w fun e w' => e = .returned (.bool true) ∧ Below w.heap.size w w' := by
  go_enter Tryd.func3, Tryd.ntmps3
  go_wp2_with fail
  refine (node_any a b w hE (by omega)).mono ?_
  rintro e w1 ⟨rfl, hb1⟩
  have hE1 := hE.on hb1
  go_wp2_with fail
  refine (node_any c d w1 hE1 (by omega)).mono ?_
  rintro e w2 ⟨rfl, hb2⟩
  have hE2 := hE1.on hb2
  have hB2 := below_on hb1 hb2
  clear hb1 hb2 hE hE1
  go_upto_region 3 with fail
  go_cut [10, 12, 61] (fun s t r w' => s = .int .i64 (nodeE a b) ∧ t = .int .i64 (nodeE c d) ∧ r = .bool false ∧ Below w2.heap.size w2 w')
  case first =>
    go_wp2_with fail
    refine (sealed_any w2 hE2).mono ?_
    rintro e w3 ⟨rfl, hb3⟩
    go_wp2_with fail
    all_goals go_meet
    case rel => exact ⟨by simp [*], by simp [*], congrArg Value.bool (one_a (by assumption) (by assumption) (by assumption)), hb3⟩
    case rel => exact ⟨by simp [*], by simp [*], congrArg Value.bool (one_b (by assumption) (by assumption) (by assumption)), hb3⟩
    case rel => exact ⟨by simp [*], rfl, rfl, hb3⟩
    case rel => exact ⟨rfl, rfl, rfl, hb3⟩
  case rest =>
    obtain ⟨rfl, rfl, rfl, hb3⟩ := hcut
    have hE3 := hE2.on hb3
    have hB3 := below_on hB2 hb3
    clear hb3 hE2 hB2
    obtain ⟨w3, hw3⟩ : ∃ x, x = wc := ⟨_, rfl⟩
    subst hw3
    go_upto_if 63 with fail
    go_cut [9, 10] (fun r s w' => r = .string (nodeV a b) ∧ s = .int .i64 (nodeE a b) ∧ Below w3.heap.size w3 w')
    case first =>
      by_cases h1 : a.size + b.size ≤ 20000
      · have e1 := (node_pos h1).1
        have e2 := (node_pos h1).2
        have Hs := Lib.hid (splitS_node a b (by omega))
        have hz := nodeS_size a b
        have hz2 := nDigits_le5 a.size (by omega)
        rw [e1, e2]
        have E1 := Lib.hid e1
        have E2 := Lib.hid e2
        clear e1 e2
        go_wp2_with fail
        refine (split_ok (nodeS a b) a b w3 hE3 (by omega) Hs.out).mono ?_
        rintro e w4 ⟨rfl, hb4⟩
        clear hz hz2
        go_wp2_with fail
        go_meet
        case rel => exact ⟨by rw [E1.out], by rw [E2.out], hb4⟩
      · have e1 := (node_neg h1).1
        have e2 := (node_neg h1).2
        rw [e1, e2]
        have E1 := Lib.hid e1
        have E2 := Lib.hid e2
        clear e1 e2
        go_wp2_with fail
        go_meet
        case rel => exact ⟨by rw [E1.out], by rw [E2.out], Below.refl _ _⟩
    case rest =>
      obtain ⟨rfl, rfl, hb4⟩ := hcut
      have hE4 := hE3.on hb4
      have hB4 := below_on hB3 hb4
      clear hb4 hE3 hB3
      obtain ⟨w4, hw4⟩ : ∃ x, x = wc := ⟨_, rfl⟩
      subst hw4
      go_wp2_with fail
      refine (leaf_any a w4).mono ?_
      rintro e w5 ⟨rfl, rfl⟩
      go_upto_if 88 with fail
      go_cut [10, 16, 17] (fun q r s w' => q = .int .i64 (nodeE a b) ∧ r = .string (leafV a) ∧ s = .int .i64 (leafE a) ∧ w4 = w')
      case first =>
        by_cases h1 : a.size ≤ 20000
        · have E1 := Lib.hid (leaf_pos h1)
          rw [E1.out.1, E1.out.2]
          have n1 : ((leafS a).toList == noneS.toList) = false := str_ne (leaf_ne_none a)
          have n2 : nodeE a b = 0 → ((leafS a).toList == (nodeV a b).toList) = false := by
            intro h
            rw [(node_pos (nodeE_zero h)).1]
            exact str_ne (leaf_ne_node a a b)
          have n3 : leafE c = 0 → ((leafS a).toList == (leafV c).toList) = (a.toList == c.toList) := by
            intro h
            rw [(leaf_pos (leafE_zero h)).1, str_beq, str_beq]
            exact decide_eq_decide.2 ⟨fun e => leafS_inj e, fun e => by rw [e]⟩
          go_wp2_with fail
          refine (leaf_any c w4).mono ?_
          rintro e w5 ⟨rfl, rfl⟩
          go_wp2_with fail
          refine (open_ok (leafS a) a w4 (openS_leaf a)).mono ?_
          rintro e w5 ⟨rfl, rfl⟩
          go_wp2_with fail
          all_goals
            refine (none_any w4).mono ?_
            rintro e w5 ⟨rfl, rfl⟩
            go_wp2_with fail
            go_meet
            case rel => exact ⟨by simp [*], by rw [E1.out.1], by rw [E1.out.2], rfl⟩
        · have E1 := Lib.hid (leaf_neg h1)
          rw [E1.out.1, E1.out.2]
          go_wp2_with fail
          go_meet
          case rel => exact ⟨rfl, by rw [E1.out.1], by rw [E1.out.2], rfl⟩
      case rest =>
        obtain ⟨rfl, rfl, rfl, rfl⟩ := hcut
        cases hs : splitS c with
        | none =>
          have Hs := Lib.hid hs
          clear hs
          go_wp2_with fail
          refine (split_no c w4 hE4 hc Hs.out).mono ?_
          rintro e w5 ⟨rfl, hb5⟩
          go_wp2_with fail
          go_ret
          exact ⟨rfl, below_on hB4 hb5⟩
        | some x =>
          obtain ⟨u, v⟩ := x
          have Hs := Lib.hid hs
          have hn := splitS_some hs
          have hz := nodeS_size u v
          rw [hn] at hz
          have Hn := Lib.hid hn
          clear hs hn
          go_wp2_with fail
          refine (split_ok c u v w4 hE4 hc Hs.out).mono ?_
          rintro e w5 ⟨rfl, hb5⟩
          have hE5 := hE4.on hb5
          have hB5 := below_on hB4 hb5
          clear hE4 hB4 hb5
          by_cases h1 : u.size + v.size ≤ 20000
          · have hq : ((nodeS u v).toList == c.toList) = true := str_eq Hn.out
            go_wp2_with fail
            refine (node_ok u v w5 hE5 h1).mono ?_
            rintro e w6 ⟨rfl, hb6⟩
            go_wp2_with fail
            go_ret
            exact ⟨rfl, below_on hB5 hb6⟩
          · go_wp2_with fail
            refine (node_many u v w5 (by omega) (by omega)).mono ?_
            rintro e w6 ⟨rfl, rfl⟩
            go_wp2_with fail
            go_ret
            exact ⟨rfl, hB5⟩
end Go.Proofs.YtfojklnaahljlaaDoor
