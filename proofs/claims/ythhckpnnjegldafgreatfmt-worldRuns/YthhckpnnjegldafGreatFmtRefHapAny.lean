/-
  Chapter 11's Do as the document's own reckoning has it, of a right world.
-/
import Derived.Test.YthhckpnnjegldafGreatFmtRefHapPut
import Derived.Test.YthhckpnnjegldafGreatFmtRefHapFork
import Derived.Test.YthhckpnnjegldafGreatFmtRefHapShow
import Derived.Test.YthhckpnnjegldafGreatFmtRefHapMeet
import Derived.Test.YthhckpnnjegldafGreatFmtRefHapAsk
namespace Go.Proofs.YthhckpnnjegldafGreatFmt
open Go Go.RowKit Go.Kit Go.Extern.Stop Go.Stop Go.Extern

theorem hap_form {W : WB} {x : HapB} (h : ¬ (1 ≤ x.kind ∧ x.kind ≤ 5)) : hapV W x = (zeroW, 4) := if_pos h
theorem hap_wrong {W : WB} {x : HapB} (h : 1 ≤ x.kind ∧ x.kind ≤ 5) (hr : ¬ rightX x) : hapV W x = (zeroW, 5) := by
  unfold hapV
  rw [if_neg (fun hh => hh h), if_pos hr]
theorem hap_zero {w w' : World} {a0 a1 : Option Addr} {W : WB} {x : HapB} {e : Ending} {z : Int} (h : hapV W x = (zeroW, z)) (he : e = .returned (.tuple #[.agg #[.slice none 0 0, .slice none 0 0, .slice none 0 0], .int .i64 z])) (hb : Below w.heap.size w w') :
    ∃ b0 m0 d0 b1 m1 d1 b2 m2 d2, e = .returned (.tuple #[.agg #[.slice b0 m0 d0, .slice b1 m1 d1, .slice b2 m2 d2], .int .i64 (hapV W x).2]) ∧ WAt w' b0 m0 d0 b1 m1 d1 b2 m2 d2 (hapV W x).1 ∧ NewOr w a0 W.b0 b0 (hapV W x).1.b0 ∧ NewOr w a1 W.b1 b1 (hapV W x).1.b1 ∧ (∀ blk off, b2 = some ⟨blk, off, none⟩ → w.heap.size ≤ blk) ∧ Below w.heap.size w w' := by
  rw [h]
  exact ⟨none, 0, 0, none, 0, 0, none, 0, 0, he, wat_zero _, newOr_none _ _ _ _, newOr_none _ _ _ _, (fun _ _ h => by cases h), hb⟩
theorem happened_any (I : Interp) (W : WB) (a0 : Option Addr) (n0 c0 : Nat) (a1 : Option Addr) (n1 c1 : Nat) (a2 : Option Addr) (n2 c2 : Nat) (x : HapB) (w : World) (hF : I.told.answers w.tape) (hW : WAt w a0 n0 c0 a1 n1 c1 a2 n2 c2 W) (hG : worldE W = 0) (hx : WideHap x) :
    Calls Tryz.prog 13 #[.agg #[.slice a0 n0 c0, .slice a1 n1 c1, .slice a2 n2 c2], .agg #[.int .i64 x.kind, .int .i64 x.side, .int .i64 x.who, .int .i64 x.other, .int .i64 x.e.1, .string x.e.2]] w fun e w' => ∃ b0 m0 d0 b1 m1 d1 b2 m2 d2, e = .returned (.tuple #[.agg #[.slice b0 m0 d0, .slice b1 m1 d1, .slice b2 m2 d2], .int .i64 (hapV W x).2]) ∧ WAt w' b0 m0 d0 b1 m1 d1 b2 m2 d2 (hapV W x).1 ∧ NewOr w a0 W.b0 b0 (hapV W x).1.b0 ∧ NewOr w a1 W.b1 b1 (hapV W x).1.b1 ∧ (∀ blk off, b2 = some ⟨blk, off, none⟩ → w.heap.size ≤ blk) ∧ Below w.heap.size w w' := by
  have h3 := ((worldE_iff W).1 hG).2.2.1
  obtain rfl : n2 = 3 := by rw [← hW.l2]; exact h3
  obtain ⟨_, _, _, _, he⟩ := hx
  obtain ⟨xk, xs, xw, xo, xe, xv⟩ := x
  simp only at he ⊢
  by_cases hk : 1 ≤ xk ∧ xk ≤ 5
  · by_cases hs : 0 ≤ xs ∧ xs ≤ 1
    · by_cases hw : 0 ≤ xw ∧ xw ≤ 2
      · by_cases ho : 0 ≤ xo ∧ xo ≤ 2
        · obtain ⟨s, rfl⟩ : ∃ s : Nat, xs = (s : Int) := ⟨xs.toNat, by omega⟩
          obtain ⟨j, rfl⟩ : ∃ s : Nat, xw = (s : Int) := ⟨xw.toNat, by omega⟩
          obtain ⟨i, rfl⟩ : ∃ s : Nat, xo = (s : Int) := ⟨xo.toNat, by omega⟩
          have hs2 : s < 2 := by omega
          have hj3 : j < 3 := by omega
          have hi3 : i < 3 := by omega
          rcases (show xk = 1 ∨ xk = 2 ∨ xk = 3 ∨ xk = 4 ∨ xk = 5 by omega) with rfl | rfl | rfl | rfl | rfl
          · exact happened_put W a0 n0 c0 a1 n1 c1 a2 c2 s j i xe xv w hW hG hs2 hj3 hi3 he
          · exact happened_fork W a0 n0 c0 a1 n1 c1 a2 c2 s j i xe xv w hW hG hs2 hj3 hi3
          · exact happened_show I W a0 n0 c0 a1 n1 c1 a2 c2 s j i xe xv w hF hW hG hs2 hj3 hi3
          · exact happened_meet I W a0 n0 c0 a1 n1 c1 a2 c2 s j i xe xv w hF hW hG hs2 hj3 hi3
          · by_cases hq : 0 ≤ xe ∧ xe < 16
            · obtain ⟨k, rfl⟩ : ∃ s : Nat, xe = (s : Int) := ⟨xe.toNat, by omega⟩
              exact happened_ask I W a0 n0 c0 a1 n1 c1 a2 c2 s j i k xv w hF hW hG hs2 hj3 hi3 (by omega)
            · exact happened_key W a0 n0 c0 a1 n1 c1 a2 c2 s j i xe xv w hW hG hs2 hj3 hi3 hq
        · refine (happened_other a0 n0 c0 a1 n1 c1 a2 3 c2 xk xs xw xo xe xv w hk hs hw ho).mono ?_
          rintro e w' ⟨he, hb⟩
          exact hap_zero (hap_wrong hk (fun h => ho ⟨h.2.2.2.2.1, h.2.2.2.2.2⟩)) he hb
      · refine (happened_who a0 n0 c0 a1 n1 c1 a2 3 c2 xk xs xw xo xe xv w hk hs hw).mono ?_
        rintro e w' ⟨he, hb⟩
        exact hap_zero (hap_wrong hk (fun h => hw ⟨h.2.2.1, h.2.2.2.1⟩)) he hb
    · refine (happened_side a0 n0 c0 a1 n1 c1 a2 3 c2 xk xs xw xo xe xv w hk hs).mono ?_
      rintro e w' ⟨he, hb⟩
      exact hap_zero (hap_wrong hk (fun h => hs ⟨h.1, h.2.1⟩)) he hb
  · refine (happened_form a0 n0 c0 a1 n1 c1 a2 3 c2 xk xs xw xo xe xv w hk).mono ?_
    rintro e w' ⟨he, hb⟩
    exact hap_zero (hap_form hk) he hb
end Go.Proofs.YthhckpnnjegldafGreatFmt
