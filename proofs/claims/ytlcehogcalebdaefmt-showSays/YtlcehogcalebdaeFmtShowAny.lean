/-
  What a good book shows of any number, in one word each: the program's answers and those of the document's own reckoning.
-/
import Derived.Test.YtlcehogcalebdaeFmtShow
import Derived.Test.YtlcehogcalebdaeFmtRefVals
import Derived.Test.YtlcehogcalebdaeFmtRefPath
import Derived.Test.YtlcehogcalebdaeFmtPathOf
import Derived.Test.YtlcehogcalebdaeFmtGrowthOf
namespace Go.Proofs.YtlcehogcalebdaeFmt
open Go Go.RowKit Go.Maps Go.Kit Go.Extern.Stop Go.Stop Go.Extern

def entX (l : List EntB) (i : Int) : EntB := if 0 ≤ i ∧ i < (l.length : Int) then entAt l i.toNat else (0, ⟨#[]⟩)
def entP (l : List EntB) (i : Int) : List StepB := if 0 ≤ i ∧ i < (l.length : Int) then pathS (textsE l) i.toNat else []
def entE (l : List EntB) (i : Int) : Int := if 0 ≤ i ∧ i < (l.length : Int) then 0 else 5
def groL (l : List EntB) (m : Int) : List ByteArray := if 1 ≤ m ∧ m ≤ (l.length : Int) then growS (textsE l) m.toNat true else []
def groE (l : List EntB) (m : Int) : Int := if 1 ≤ m ∧ m ≤ (l.length : Int) then 0 else 3
def valU (l : List EntB) (k : Int) : ByteArray := if 0 ≤ k ∧ k < 16 then valS (valsD l) k else ⟨#[]⟩
def valB (l : List EntB) (k : Int) : Bool := if 0 ≤ k ∧ k < 16 then (valD (valsD l) k).isSome else false
def valL (l : List EntB) (k : Int) : List ByteArray := if 0 ≤ k ∧ k < 16 then pathT (valN (valsD l)) 0 k.toNat 4 else []
def valE (k : Int) : Int := if 0 ≤ k ∧ k < 16 then 0 else 5
theorem steps_nil (w : World) : StepsAt w none 0 [] := ⟨Nat.le_refl _, by omega, fun _ h => (List.not_mem_nil h).elim, fun h => absurd h (Nat.lt_irrefl _)⟩
theorem strs_nil (w : World) : StrsAt w none 0 [] := ⟨Nat.le_refl _, by omega, fun _ h => (List.not_mem_nil h).elim, fun h => absurd h (Nat.lt_irrefl _)⟩
theorem back_valN (l : List EntB) : valN (backD l) = valN (valsD l) := funext fun k => back_vals l (k : Int)

theorem showEntry_good (l : List EntB) (a : Option Addr) (n c : Nat) (i : Int) (w : World) (hE : Tab w) (hn : l.length = n) (hS : EntsAt w a c l) (hG : GoodBook l) :
    Calls Tryf.prog 4 #[.agg #[.slice a n c], .int .i64 i] w fun e w' => ∃ a' c', e = .returned (.tuple #[.agg #[.int .i64 (entX l i).1, .string (entX l i).2], .slice a' (entP l i).length c', .int .i64 (entE l i)]) ∧ StepsAt w' a' c' (entP l i) ∧ Below w.heap.size w w' := by
  unfold entX entP entE
  by_cases h : 0 ≤ i ∧ i < (l.length : Int)
  · obtain ⟨j, rfl⟩ : ∃ j : Nat, i = (j : Int) := ⟨i.toNat, by omega⟩
    rw [if_pos h, if_pos h, if_pos h, Int.toNat_natCast]
    exact showEntry_ok l a n c j w hE hn hS hG (by omega)
  · rw [if_neg h, if_neg h, if_neg h]
    refine (showEntry_who l a n c i w hE hn hS hG (by omega)).mono ?_
    rintro e w' ⟨rfl, hb⟩
    exact ⟨none, 0, rfl, steps_nil _, hb⟩
theorem showGrowth_good (l : List EntB) (a : Option Addr) (n c : Nat) (m : Int) (w : World) (hE : Tab w) (hn : l.length = n) (hS : EntsAt w a c l) (hG : GoodBook l) :
    Calls Tryf.prog 5 #[.agg #[.slice a n c], .int .i64 m] w fun e w' => ∃ a' c', e = .returned (.tuple #[.slice a' (groL l m).length c', .int .i64 (groE l m)]) ∧ StrsAt w' a' c' (groL l m) ∧ Below w.heap.size w w' := by
  unfold groL groE
  by_cases h : 1 ≤ m ∧ m ≤ (l.length : Int)
  · obtain ⟨j, rfl⟩ : ∃ j : Nat, m = (j : Int) := ⟨m.toNat, by omega⟩
    rw [if_pos h, if_pos h, Int.toNat_natCast]
    exact showGrowth_ok l a n c j w hE hn hS hG (by omega) (by omega)
  · rw [if_neg h, if_neg h]
    refine (showGrowth_range l a n c m w hE hn hS hG (by omega)).mono ?_
    rintro e w' ⟨rfl, hb⟩
    exact ⟨none, 0, rfl, strs_nil _, hb⟩
theorem showValue_good (l : List EntB) (a : Option Addr) (n c : Nat) (k : Int) (w : World) (hE : Tab w) (hn : l.length = n) (hS : EntsAt w a c l) (hG : GoodBook l) :
    Calls Tryf.prog 6 #[.agg #[.slice a n c], .int .i64 k] w fun e w' => ∃ a' c', e = .returned (.tuple #[.string (valU l k), .bool (valB l k), .slice a' (valL l k).length c', .int .i64 (valE k)]) ∧ StrsAt w' a' c' (valL l k) ∧ Below w.heap.size w w' := by
  unfold valU valB valL valE
  by_cases h : 0 ≤ k ∧ k < 16
  · obtain ⟨j, rfl⟩ : ∃ j : Nat, k = (j : Int) := ⟨k.toNat, by omega⟩
    rw [if_pos h, if_pos h, if_pos h, if_pos h, Int.toNat_natCast, pathT_len]
    exact showValue_ok l a n c j w hE hn hS hG (by omega)
  · rw [if_neg h, if_neg h, if_neg h, if_neg h]
    refine (showValue_who l a n c k w hn hS hG (by omega)).mono ?_
    rintro e w' ⟨rfl, hb⟩
    exact ⟨none, 0, rfl, strs_nil _, hb⟩
theorem pathOf_good (I : Interp) (l : List EntB) (a : Option Addr) (n c : Nat) (i : Int) (w : World) (hF : I.told.answers w.tape) (hn : l.length = n) (hS : StrsAt w a c (textsE l)) (hG : GoodBook l) :
    Calls Tryf.prog 9 #[.slice a n c, .int .i64 i] w fun e w' => ∃ a' c', e = .returned (.tuple #[.slice a' (entP l i).length c', .int .i64 (entE l i)]) ∧ StepsAt w' a' c' (entP l i) ∧ Below w.heap.size w w' := by
  unfold entP entE
  by_cases h : 0 ≤ i ∧ i < (l.length : Int)
  · obtain ⟨j, rfl⟩ : ∃ j : Nat, i = (j : Int) := ⟨i.toNat, by omega⟩
    rw [if_pos h, if_pos h, Int.toNat_natCast]
    exact pathOf_ok I (textsE l) a n c j (headLog l) w hF (by rw [textsE_len, hn]) hS (headLog_root hG) (by omega)
  · rw [if_neg h, if_neg h]
    refine (pathOf_who I (textsE l) a n c i (headLog l) w hF (by rw [textsE_len, hn]) hS (headLog_root hG) (by omega)).mono ?_
    rintro e w' ⟨rfl, hb⟩
    exact ⟨none, 0, rfl, steps_nil _, hb⟩
theorem growthOf_good (I : Interp) (l : List EntB) (a : Option Addr) (n c : Nat) (m : Int) (w : World) (hF : I.told.answers w.tape) (hn : l.length = n) (hS : StrsAt w a c (textsE l)) (hG : GoodBook l) :
    Calls Tryf.prog 11 #[.slice a n c, .int .i64 m] w fun e w' => ∃ a' c', e = .returned (.tuple #[.slice a' (groL l m).length c', .int .i64 (groE l m)]) ∧ StrsAt w' a' c' (groL l m) ∧ Below w.heap.size w w' := by
  unfold groL groE
  by_cases h : 1 ≤ m ∧ m ≤ (l.length : Int)
  · obtain ⟨j, rfl⟩ : ∃ j : Nat, m = (j : Int) := ⟨m.toNat, by omega⟩
    rw [if_pos h, if_pos h, Int.toNat_natCast]
    exact growthOf_ok I (textsE l) a n c j (headLog l) w hF (by rw [textsE_len, hn]) hS (headLog_root hG) (by omega) (by omega)
  · rw [if_neg h, if_neg h]
    refine (growthOf_range I (textsE l) a n c m (headLog l) w hF (by rw [textsE_len, hn]) hS (headLog_root hG) (by omega)).mono ?_
    rintro e w' ⟨rfl, hb⟩
    exact ⟨none, 0, rfl, strs_nil _, hb⟩
end Go.Proofs.YtlcehogcalebdaeFmt
