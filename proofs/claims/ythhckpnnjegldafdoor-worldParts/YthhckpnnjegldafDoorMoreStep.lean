/-
  A book that is laid anew with one entry more, in whatever order its memory is made: steps of that.
-/
import Derived.Test.YthhckpnnjegldafDoorEntClone
import Derived.Test.YthhckpnnjegldafDoorBookHead
namespace Go.Proofs.YthhckpnnjegldafDoor
open Go Go.RowKit

theorem ents_owned {w : World} {base : Nat} {e : TypeId} {a : Option Addr} {c n : Nat} {l : List EntB} (h : w.ownsRow base e 2 (.slice a n c) n (entCells l)) (hs : ∀ s ∈ l, WideEnt s) : EntsAt w a c l := by
  obtain ⟨a', c', hv, _, hE⟩ := ents_own h hs
  injection hv with e1 _ e3
  subst e1 e3
  exact hE
theorem owns_base {w : World} {b b' : Nat} {e : TypeId} {size n : Nat} {v : Value} {xs : List Value} (h : w.ownsRow b' e size v n xs) (hb : b ≤ b') : w.ownsRow b e size v n xs := by
  refine ⟨h.1, ?_⟩
  rcases h.2 with h0 | ⟨g, cap, cur, hv, hg, r⟩
  · exact .inl h0
  · exact .inr ⟨g, cap, cur, hv, Nat.le_trans hb hg, r⟩
theorem heap_push2 (w : World) (a b : Obj) : ((w.alloc a).alloc b).heap[w.heap.size + 1]? = some b := (boxes2 w a b).2.1

theorem bx_post {X wC wP : World} {row : Option Nat} {gb gP : Nat} {b : Obj} (hg : X.grownBy wP row) (hat : row = some gP ∨ gP = X.heap.size) (hlo : ∀ k, row = some k → k < wC.heap.size) (h : X.heap[gb]? = some b) (hge : wC.heap.size ≤ gb) : wP.heap[gb]? = some b ∧ gP ≠ gb := by
  have hlt := (Array.getElem?_eq_some_iff.1 h).1
  refine ⟨heap_kept hg h (fun e => by have := hlo gb e; omega), ?_⟩
  rcases hat with e | e
  · have := hlo gP e; omega
  · omega
theorem bx_pre {XC X wC wP : World} {row : Option Nat} {gb gP : Nat} {b : Obj} (hg : X.grownBy wP row) (hat : row = some gP ∨ gP = X.heap.size) (hbC : Below XC.heap.size XC wC) (hlo : ∀ k, row = some k → XC.heap.size ≤ k) (h : XC.heap[gb]? = some b) (hbX : Below wC.heap.size wC X) : wP.heap[gb]? = some b ∧ gP ≠ gb := by
  have hlt := (Array.getElem?_eq_some_iff.1 h).1
  have hX := heap_on hbX (heap_on hbC h)
  have hltX := (Array.getElem?_eq_some_iff.1 hX).1
  refine ⟨heap_kept hg hX (fun e => by have := hlo gb e; omega), ?_⟩
  rcases hat with e | e
  · have := hlo gP e; omega
  · omega

theorem append_ent {o : Oper} {a : Act} {w : World} {K : Act → World → Prop} {Q : Exit → Act → World → Prop} (ho : o.op = .call { callee := .builtin .append, args := #[.tmp 98, .tmp 100], argTypes := #[22, 22] })
    (l : List EntB) (n : Nat) (k : Int) (v : ByteArray) (B b : Nat) (u : Value) (hlen : n ≤ 1000) (hu : a.eval (.tmp 98) = u) (hx : a.eval (.tmp 100) = .slice (some ⟨b, 0, none⟩) 1 1)
    (hown : w.ownsRow B 34 2 u n (entCells l)) (hnews : w.heap[b]? = some (.cells #[.int .i64 k, .string v] 34 (0, 0))) (hB : B ≤ w.heap.size)
    (h : ∀ g' cap' w', w'.ownsRow B 34 2 (.slice (some ⟨g', 0, none⟩) (n + 1) cap') (n + 1) (entCells (l ++ [(k, v)])) → w.grownBy w' u.ownBlock → (u.ownBlock = some g' ∨ g' = w.heap.size) → (∀ j, u.ownBlock = some j → B ≤ j) → K (a.put o.dst (.slice (some ⟨g', 0, none⟩) (n + 1) cap')) w') : o.wp Tryd.prog a w K Q := by
  obtain ⟨i0, hi0, hz0, hz1, hz2⟩ := info_parts infoEntry
  refine wp_append_lies w (.tmp 98) (.tmp 100) 22 ho B 34 i0 (.agg #[.int .i64 0, .string ⟨#[]⟩]) 2 24 Tryd.underlying22 hi0 hz0 hz1 hz2 rfl (by decide) u n (entCells l) hu hown ⟨b, 0, none⟩ 1 1 [.int .i64 k, .string v] hx rfl
    (World.news_of_block (cs := #[.int .i64 k, .string v]) (t := 34) (fr := (0, 0)) hnews) ?_ (by omega) (by unfold maxLen; omega) (by omega) hB _ rfl ?_
  · intro s hs
    simp only [List.mem_cons, List.not_mem_nil, or_false] at hs
    rcases hs with rfl | rfl <;> rfl
  · intro g' cap' w' h1 h2 h3 _
    refine h g' cap' w' ?_ h2 h3 (fun j hj => (hown.lt j hj).1)
    rw [entCells_app]
    exact h1

theorem held4 {w5 cur w' : World} {b1 b2 : Nat} {v1 v2 v3 : Value} (k1 : b1 < w5.heap.size) (k2 : b2 < w5.heap.size)
    (h : Below w5.heap.size w5 cur ∧ cur.cell? ⟨b1, 0, none⟩ = some v1 ∧ cur.cell? ⟨b2, 0, none⟩ = some v2 ∧ cur.cell? ⟨b2, 1, none⟩ = some v3) (hb : Below cur.heap.size cur w') :
    Below w5.heap.size w5 w' ∧ w'.cell? ⟨b1, 0, none⟩ = some v1 ∧ w'.cell? ⟨b2, 0, none⟩ = some v2 ∧ w'.cell? ⟨b2, 1, none⟩ = some v3 := by
  have key : ∀ (b j : Nat) (u : Value), b < w5.heap.size → cur.cell? ⟨b, j, none⟩ = some u → w'.cell? ⟨b, j, none⟩ = some u := fun b j u hlt hu => by
    rw [hb.cell (Nat.lt_of_lt_of_le hlt h.1.size)]; exact hu
  obtain ⟨h0, h1, h2, h3⟩ := h
  exact ⟨below_on h0 hb, key _ _ _ k1 h1, key _ _ _ k2 h2, key _ _ _ k2 h3⟩
theorem held4g {w5 cur w' : World} {b1 b2 : Nat} {v1 v2 v3 : Value} {row : Option Nat} (k1 : b1 < w5.heap.size) (k2 : b2 < w5.heap.size) (hg : cur.grownBy w' row) (hr : ∀ j, row = some j → w5.heap.size ≤ j)
    (h : Below w5.heap.size w5 cur ∧ cur.cell? ⟨b1, 0, none⟩ = some v1 ∧ cur.cell? ⟨b2, 0, none⟩ = some v2 ∧ cur.cell? ⟨b2, 1, none⟩ = some v3) :
    Below w5.heap.size w5 w' ∧ w'.cell? ⟨b1, 0, none⟩ = some v1 ∧ w'.cell? ⟨b2, 0, none⟩ = some v2 ∧ w'.cell? ⟨b2, 1, none⟩ = some v3 := by
  have hb := h.1.grown hg h.1.size hr
  have key : ∀ (b j : Nat) (u : Value), b < w5.heap.size → cur.cell? ⟨b, j, none⟩ = some u → w'.cell? ⟨b, j, none⟩ = some u := fun b j u hlt hu => by
    rw [hb.cell (p := ⟨b, j, none⟩) hlt, ← h.1.cell (p := ⟨b, j, none⟩) hlt]; exact hu
  obtain ⟨h0, h1, h2, h3⟩ := h
  exact ⟨hb, key _ _ _ k1 h1, key _ _ _ k2 h2, key _ _ _ k2 h3⟩
theorem held4_size {w5 cur wC : World} {b1 b2 : Nat} {v1 v2 v3 : Value} (hb : Below cur.heap.size cur wC) (h : Below w5.heap.size w5 cur ∧ cur.cell? ⟨b1, 0, none⟩ = some v1 ∧ cur.cell? ⟨b2, 0, none⟩ = some v2 ∧ cur.cell? ⟨b2, 1, none⟩ = some v3) : w5.heap.size ≤ cur.heap.size ∧ w5.heap.size ≤ wC.heap.size := by
  have h1 := h.1.size
  have h2 := hb.size
  omega
theorem held4_le {w5 cur : World} {b1 b2 : Nat} {v1 v2 v3 : Value} (h : Below w5.heap.size w5 cur ∧ cur.cell? ⟨b1, 0, none⟩ = some v1 ∧ cur.cell? ⟨b2, 0, none⟩ = some v2 ∧ cur.cell? ⟨b2, 1, none⟩ = some v3) : w5.heap.size ≤ cur.heap.size := h.1.size
end Go.Proofs.YthhckpnnjegldafDoor
