/-
  Chapter 5's Check and Shows as the document's own reckoning has them.
-/
import Derived.Test.YtdkmijejfmnncacFmtRefIn
import Derived.Test.YtdkmijejfmnncacFmtTriePath
namespace Go.Proofs.YtdkmijejfmnncacFmt
open Go Go.RowKit Go.Maps Go.Kit Go.Extern.Stop Go.Stop Go.Extern

theorem checkMap_any (p : Option Nat) (D : DataW Unit) (w : World) (hM : MapAt w p D) :
    Calls Tryf.prog 6 #[.map p] w fun e w' => e = .returned (.int .i64 (checkE D)) ∧ w = w' := by
  have hT := hM.text
  have hle := cnt_le hT 16
  have hsz := hM.size
  go_enter Tryf.func6, Tryf.ntmps6
  go_wp2
  go_loop [3, 7] (fun g i => ∃ k : Nat, k ≤ 16 ∧ g = .int .i64 (cntD D k : Int) ∧ i = .int .i64 (k : Int) ∧ Hid (¬ longD D k)) (fun _ i => 16 - (intOf i).toNat)
  case atStart => exact ⟨0, by omega, rfl, rfl, fun ⟨k, h, _⟩ => absurd h (by omega)⟩
  case round =>
    obtain ⟨k, hk, rfl, rfl, hL⟩ := hrel
    rcases Nat.lt_or_ge k 16 with hlt | hge
    · have hlt' : (k : Int) < 16 := by omega
      have hv := hM.val_size (k := (k : Int)) (by omega) (by omega)
      have hc : cntD D (k + 1) = cntD D k + if (valD D (k : Int)).isSome = true then 1 else 0 := rfl
      have hck : cntD D k ≤ k := cnt_bound D k
      cases hb : (valD D (k : Int)).isSome
      · have hn : valS D (k : Int) = ⟨#[]⟩ := valD_none (Option.isNone_iff_eq_none.1 (by rw [← Option.not_isSome, hb]; rfl))
        have hL' : ¬ longD D (k + 1) := fun h => ((longD_step D k).1 h).elim hL.out (fun h => by rw [hn] at h; exact absurd h (by decide))
        have HL : Hid (¬ longD D (k + 1)) := hL'
        clear hL hL' hn
        rw [hb] at hc
        go_wp2_with (at_lookup; refine wpList_look _ rfl _ _ rfl p D rfl hM (k : Int) rfl (by omega) (by omega) ?_; rw [hb])
        go_round
        case rel => exact ⟨k + 1, by omega, by rw [hc]; rfl, rfl, HL⟩
        case measure => simp [intOf]; omega
      · rw [hb] at hc
        rcases Nat.lt_or_ge 12 (valS D (k : Int)).size with hlong | hshort
        · have hl' : (12 : Int) < ((valS D (k : Int)).size : Int) := by omega
          have hE := check_long (D := D) ⟨k, hlt, hlong⟩
          go_wp2_with (at_lookup; refine wpList_look _ rfl _ _ rfl p D rfl hM (k : Int) rfl (by omega) (by omega) ?_; rw [hb])
          go_ret
          exact ⟨rfl, rfl⟩
        · have hl' : ¬ (12 : Int) < ((valS D (k : Int)).size : Int) := by omega
          have hL' : ¬ longD D (k + 1) := fun h => ((longD_step D k).1 h).elim hL.out (fun h => by omega)
          have HL : Hid (¬ longD D (k + 1)) := hL'
          clear hL hL'
          go_wp2_with (at_lookup; refine wpList_look _ rfl _ _ rfl p D rfl hM (k : Int) rfl (by omega) (by omega) ?_; rw [hb])
          go_round
          case rel => exact ⟨k + 1, by omega, by rw [hc]; rfl, rfl, HL⟩
          case measure => simp [intOf]; omega
    · obtain rfl : k = 16 := by omega
      by_cases hc : cntD D 16 = size D
      · have hE := check_good hL.out hc
        have hc' : ¬ (cntD D 16 : Int) < (size D : Int) := by omega
        go_wp2_with (at_len; refine wpList_count _ rfl _ rfl p D rfl hM ?_)
        go_ret
        exact ⟨rfl, rfl⟩
      · have hE := check_who hL.out hc
        have hc' : (cntD D 16 : Int) < (size D : Int) := by omega
        go_wp2_with (at_len; refine wpList_count _ rfl _ rfl p D rfl hM ?_)
        go_ret
        exact ⟨rfl, rfl⟩
end Go.Proofs.YtdkmijejfmnncacFmt
