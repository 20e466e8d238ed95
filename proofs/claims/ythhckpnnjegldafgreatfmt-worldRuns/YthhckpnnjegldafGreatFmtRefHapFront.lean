/-
  Chapter 11's Do as the document's own reckoning has it: what all right happenings share.
-/
import Derived.Test.YthhckpnnjegldafGreatFmtRefHapBad
import Derived.Test.YthhckpnnjegldafGreatFmtRefWorld
import Derived.Test.YthhckpnnjegldafGreatFmtBooks
namespace Go.Proofs.YthhckpnnjegldafGreatFmt
open Go Go.RowKit

/- One entry more, at the slots of the reference. -/
theorem append_hap {o : Oper} {a : Act} {w : World} {K : Act → World → Prop} {Q : Exit → Act → World → Prop} (ho : o.op = .call { callee := .builtin .append, args := #[.tmp 74, .tmp 77], argTypes := #[22, 22] })
    (l : List EntB) (n : Nat) (k : Int) (v : ByteArray) (B b : Nat) (u : Value) (hlen : n ≤ 1000) (hu : a.eval (.tmp 74) = u) (hx : a.eval (.tmp 77) = .slice (some ⟨b, 0, none⟩) 1 1)
    (hown : w.ownsRow B 30 2 u n (entCells l)) (hnews : w.heap[b]? = some (.cells #[.int .i64 k, .string v] 30 (0, 0))) (hB : B ≤ w.heap.size)
    (h : ∀ g' cap' w', w'.ownsRow B 30 2 (.slice (some ⟨g', 0, none⟩) (n + 1) cap') (n + 1) (entCells (l ++ [(k, v)])) → w.grownBy w' u.ownBlock → (∀ j, u.ownBlock = some j → B ≤ j) → K (a.put o.dst (.slice (some ⟨g', 0, none⟩) (n + 1) cap')) w') : o.wp Tryz.prog a w K Q := by
  obtain ⟨i0, hi0, hz0, hz1, hz2⟩ := info_parts infoEntry
  refine wp_append_lies w (.tmp 74) (.tmp 77) 22 ho B 30 i0 (.agg #[.int .i64 0, .string ⟨#[]⟩]) 2 24 Tryz.underlying22 hi0 hz0 hz1 hz2 rfl (by decide) u n (entCells l) hu hown ⟨b, 0, none⟩ 1 1 [.int .i64 k, .string v] hx rfl
    (World.news_of_block (cs := #[.int .i64 k, .string v]) (t := 30) (fr := (0, 0)) hnews) ?_ (by omega) (by unfold maxLen; omega) (by omega) hB _ rfl ?_
  · intro s hs
    simp only [List.mem_cons, List.not_mem_nil, or_false] at hs
    rcases hs with rfl | rfl <;> rfl
  · intro g' cap' w' h1 h2 _ _
    refine h g' cap' w' ?_ h2 (fun j hj => (hown.lt j hj).1)
    rw [entCells_app]
    exact h1
end Go.Proofs.YthhckpnnjegldafGreatFmt
