/-
  The walk of the law SealLong: it returns true.
-/
import Derived.Test.YtfojklnaahljlaaDoorSeal
namespace Go.Proofs.YtfojklnaahljlaaDoor
open Go Go.RowKit

theorem nodeS_suffix (a b : ByteArray) : Lib.hasSuffix (nodeS a b).data.toList (a ++ b).data.toList = true := by
  rw [nodeS_data, ba_app]
  unfold Lib.hasSuffix
  rw [List.isSuffixOf_iff_suffix]
  refine ⟨78 :: (Lib.decDigits a.size ++ [58]), ?_⟩
  simp

theorem sealLong_walk (a b : ByteArray) (w : World) (hE : Env w) (ha : a.size ≤ 9223372036854775807) (hb : b.size ≤ 9223372036854775807) :
    Calls Tryd.prog 4 #[.string a, .string b] w fun e w' => e = .returned (.bool true) ∧ Below w.heap.size w w' := by
  by_cases h1 : a.size + b.size ≤ 20000
  · have hls := leafS_size a
    have hns := nodeS_size a b
    have hd1 := Lib.nDigits_pos a.size
    have hd2 := nDigits_le5 a.size (by omega)
    have hz1 : (nodeS a b).size ≤ a.size + b.size + 7 := by omega
    have hz2 : a.size + b.size + 3 ≤ (nodeS a b).size := by omega
    have hl0 : ((leafS a).size : Int) = (a.size : Int) + 1 := by omega
    clear hns hls hd1 hd2
    have hsf := nodeS_suffix a b
    have Hsf := Lib.hid hsf
    clear hsf
    go_enter Tryd.func4, Tryd.ntmps4
    go_wp2_with fail
    refine (leaf_ok a w (by omega)).mono ?_
    rintro e w1 ⟨rfl, rfl⟩
    go_wp2_with fail
    refine (node_ok a b w hE h1).mono ?_
    rintro e w1 ⟨rfl, hb1⟩
    have hE1 := hE.on hb1
    clear hE
    go_wp2_with fail
    refine (sealed_any w1 hE1).mono ?_
    rintro e w2 ⟨rfl, hb2⟩
    clear hE1
    go_wp2_with fail
    refine (Tryd.strings_HasSuffix _ _ w2 (by omega)).mono ?_
    rintro e w3 ⟨rfl, rfl⟩
    rw [Hsf.out]
    go_wp2_with fail
    go_ret
    exact ⟨rfl, below_on hb1 hb2⟩
  · by_cases h2 : a.size ≤ 20000
    · have hls := leafS_size a
      have hl0 : ((leafS a).size : Int) = (a.size : Int) + 1 := by omega
      clear hls
      go_enter Tryd.func4, Tryd.ntmps4
      go_wp2_with fail
      refine (leaf_ok a w h2).mono ?_
      rintro e w1 ⟨rfl, rfl⟩
      go_wp2_with fail
      refine (node_many a b w hb (by omega)).mono ?_
      rintro e w1 ⟨rfl, rfl⟩
      go_wp2_with fail
      refine (sealed_any w hE).mono ?_
      rintro e w2 ⟨rfl, hb2⟩
      clear hE
      go_wp2_with fail
      go_ret
      exact ⟨rfl, hb2⟩
    · go_enter Tryd.func4, Tryd.ntmps4
      go_wp2_with fail
      refine (leaf_many a w (by omega)).mono ?_
      rintro e w1 ⟨rfl, rfl⟩
      go_wp2_with fail
      refine (node_many a b w hb (by omega)).mono ?_
      rintro e w1 ⟨rfl, rfl⟩
      go_wp2_with fail
      refine (sealed_any w hE).mono ?_
      rintro e w2 ⟨rfl, hb2⟩
      clear hE
      go_wp2_with fail
      go_ret
      exact ⟨rfl, hb2⟩
end Go.Proofs.YtfojklnaahljlaaDoor
