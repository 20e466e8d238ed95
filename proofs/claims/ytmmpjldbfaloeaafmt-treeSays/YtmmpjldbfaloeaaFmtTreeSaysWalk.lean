/-
  The law TreeSays walked: Root and Half answer as the document says, errors too.
-/
import Derived.Test.YtmmpjldbfaloeaaFmtRootOf
namespace Go.Proofs.YtmmpjldbfaloeaaFmt
open Go Go.RowKit Go.Kit Go.Extern.Stop Go.Stop Go.Extern

theorem treeSays_walk (I : Interp) (l : List ByteArray) (a : Option Addr) (n c : Nat) (k : Int) (W : World) (hE : Tab W) (hF : I.told.answers W.tape) (hn : l.length = n) (hS : StrsAt W a c l) (hk : -9223372036854775808 ≤ k) (hk' : k ≤ 9223372036854775807) :
    Calls Tryf.prog 4 #[.slice a n c, .int .i64 k] W fun e w' => e = .returned (.bool true) ∧ Below W.heap.size W w' := by
  have q1 := str_eq (a := rootV l) rfl
  by_cases hr : 2 ≤ k ∧ k ≤ 24
  · obtain ⟨m, rfl⟩ := Int.eq_ofNat_of_zero_le (show 0 ≤ k by omega)
    have h2 : 2 ≤ m := by omega
    have h24 : m ≤ 24 := by omega
    go_enter Tryf.func4, Tryf.ntmps4
    go_wp2_with fail
    refine (root_any l a n c W hn hE hS).mono ?_
    rintro e w1 ⟨rfl, hb1⟩
    have hE1 := hE.on hb1
    go_wp2_with fail
    refine (half_ok m w1 h2 h24).mono ?_
    rintro e w2 ⟨rfl, rfl⟩
    go_wp2_with fail
    refine (rootOf_any I l a n c w1 (by rw [hb1.tape]; exact hF) hn (hS.on hb1)).mono ?_
    rintro e w2 ⟨rfl, hb2⟩
    have hb2 := below_on hb1 hb2
    have hE2 := hE.on hb2
    clear hb1 hE1
    generalize rootV l = rv at q1
    generalize rootE l = re
    go_wp2_with fail
    refine (planted_any w2 hE2).mono ?_
    rintro e w3 ⟨rfl, hb3⟩
    have hb3 := below_on hb2 hb3
    clear hb2 hE2
    go_wp2_with fail
    refine (halfOf_any m w3 h2 h24).mono ?_
    rintro e w4 ⟨rfl, rfl⟩
    go_wp2_with fail
    go_ret
    exact ⟨rfl, hb3⟩
  · have hno : k < 2 ∨ 24 < k := by omega
    go_enter Tryf.func4, Tryf.ntmps4
    go_wp2_with fail
    refine (root_any l a n c W hn hE hS).mono ?_
    rintro e w1 ⟨rfl, hb1⟩
    have hE1 := hE.on hb1
    go_wp2_with fail
    refine (half_no k w1 hno).mono ?_
    rintro e w2 ⟨rfl, rfl⟩
    go_wp2_with fail
    refine (rootOf_any I l a n c w1 (by rw [hb1.tape]; exact hF) hn (hS.on hb1)).mono ?_
    rintro e w2 ⟨rfl, hb2⟩
    have hb2 := below_on hb1 hb2
    have hE2 := hE.on hb2
    clear hb1 hE1
    generalize rootV l = rv at q1
    generalize rootE l = re
    go_wp2_with fail
    refine (planted_any w2 hE2).mono ?_
    rintro e w3 ⟨rfl, hb3⟩
    have hb3 := below_on hb2 hb3
    clear hb2 hE2
    clear hr
    rcases hno with h | h
    · go_wp2_with fail
      go_ret
      exact ⟨rfl, hb3⟩
    · have h' : ¬ k < 2 := by omega
      go_wp2_with fail
      go_ret
      exact ⟨rfl, hb3⟩
end Go.Proofs.YtmmpjldbfaloeaaFmt
