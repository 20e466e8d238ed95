/-
  Chapter 2's Root as the document's own reckoning has it: by spans, a closure that calls itself; fmt's text is told.
-/
import Derived.Test.YtmemahlibndoiafFmtPlanted
import Derived.Test.YtmemahlibndoiafFmtFmtNode
import Derived.Laws.EntriesVeiled
namespace Go.Proofs.YtmemahlibndoiafFmt
open Go Go.RowKit Go.Kit Go.Extern.Stop Go.Stop Go.Extern

theorem halfOf_any (n : Nat) (w : World) (h : 2 ≤ n) (h' : n ≤ 24) :
    Calls Tryf.prog 40 #[.int .i64 (n : Int)] w fun e w' => e = .returned (.int .i64 (halfN n : Int)) ∧ w = w' := by
  go_enter Tryf.func40, Tryf.ntmps40
  go_wp2
  go_loop [3] (fun i => ∃ k : Nat, halfN n ≤ k ∧ (k = 1 ∨ k = 2 ∨ k = 4 ∨ k = 8 ∨ k = 16) ∧ i = .int .i64 k) (fun i => (intOf i).toNat)
  case atStart => exact ⟨16, halfN_le16 n, by omega, rfl⟩
  case round =>
    obtain ⟨k, hk, hc, rfl⟩ := hrel
    go_wp2
    · go_ret
      refine ⟨?_, rfl⟩
      have e : k = halfN n := by
        have := halfN_more h'
        rcases halfN_cases n with hq | hq | hq | hq | hq <;> rcases hc with hc | hc | hc | hc | hc <;> omega
      rw [← e]
      rfl
    · go_round
      case rel =>
        have := halfN_lt h
        refine ⟨k / 2, ?_, ?_, by go_num⟩
        · rcases halfN_cases n with hq | hq | hq | hq | hq <;> rcases hc with hc | hc | hc | hc | hc <;> omega
        · omega
      case measure => simp [intOf]; have := halfN_pos n; omega

/- The two boxes that the closure holds: the list's, and its own. -/


