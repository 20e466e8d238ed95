/-
  Head and Put of whatever book: what is answered, errors too.
-/
import Derived.Test.YtnemiobgmdpnmagGreatFmtBooks
namespace Go.Proofs.YtnemiobgmdpnmagGreatFmt
open Go Go.RowKit Go.Maps

def headN (l : List EntB) : Int := if bookE l = 0 then (l.length : Int) else 0
def headL (l : List EntB) : ByteArray := if bookE l = 0 then headLog l else ⟨#[]⟩
def headM (l : List EntB) : ByteArray := if bookE l = 0 then headMap l else ⟨#[]⟩
theorem head_pos {l : List EntB} (h : bookE l = 0) : headN l = (l.length : Int) ∧ headL l = headLog l ∧ headM l = headMap l := ⟨if_pos h, if_pos h, if_pos h⟩
theorem head_neg {l : List EntB} (h : bookE l ≠ 0) : headN l = 0 ∧ headL l = ⟨#[]⟩ ∧ headM l = ⟨#[]⟩ := ⟨if_neg h, if_neg h, if_neg h⟩
theorem head_any (l : List EntB) (a : Option Addr) (n c : Nat) (w : World) (hE : Tab w) (hn : l.length = n) (hS : EntsAt w a c l) :
    Calls Tryz.prog 23 #[.agg #[.slice a n c]] w fun e w' => e = .returned (.tuple #[.agg #[.int .i64 (headN l), .string (headL l), .string (headM l)], .int .i64 (bookE l)]) ∧ Below w.heap.size w w' := by
  by_cases h : bookE l = 0
  · obtain ⟨e1, e2, e3⟩ := head_pos h
    rw [e1, e2, e3, h, hn]
    exact head_ok l a n c w hE hn hS ((bookE_iff l).1 h)
  · obtain ⟨e1, e2, e3⟩ := head_neg h
    rw [e1, e2, e3]
    exact head_no l a n c w hn hS _ rfl h
/- Two heads are one where the books are. -/
theorem head_same {l m : List EntB} (hl : bookE l = 0) (hm : bookE m = 0) (hne : l ≠ m) : headL l ≠ headL m := by
  rw [(head_pos hl).2.1, (head_pos hm).2.1]
  exact fun h => hne (headLog_inj ((bookE_iff l).1 hl) ((bookE_iff m).1 hm) h)
theorem other_val {l : List EntB} {e : EntB} {k : Int} (h : k ≠ e.1) : valS (valsD (l ++ [e])) k = valS (valsD l) k := by
  rw [valsD_snoc]
  unfold valS
  rw [putE_val (valsD_tidy l), if_neg h]
theorem own_val (l : List EntB) (e : EntB) : valS (valsD (l ++ [e])) e.1 = e.2 := by
  rw [valsD_snoc]
  unfold valS
  rw [putE_val (valsD_tidy l), if_pos rfl]
  rfl
theorem book_snoc {l : List EntB} {e : EntB} (h : bookE (l ++ [e]) = 0) : bookE l = 0 := by
  have hg := (bookE_iff _).1 h
  refine (bookE_iff l).2 ⟨?_, fun x hx => hg.2 x (by simp [hx])⟩
  have := hg.1
  rw [List.length_append] at this
  omega
end Go.Proofs.YtnemiobgmdpnmagGreatFmt
