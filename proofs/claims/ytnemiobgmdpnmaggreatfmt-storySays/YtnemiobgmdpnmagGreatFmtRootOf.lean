/-
  Chapter 2's Root as the document's own reckoning has it: by spans, a closure that calls itself; fmt's text is told.
-/
import Derived.Test.YtnemiobgmdpnmagGreatFmtPlanted
import Derived.Test.YtnemiobgmdpnmagGreatFmtFmtNode
import Derived.Laws.EntriesVeiled
namespace Go.Proofs.YtnemiobgmdpnmagGreatFmt
open Go Go.RowKit Go.Kit Go.Extern.Stop Go.Stop Go.Extern

theorem halfOf_any (n : Nat) (w : World) (h : 2 ≤ n) (h' : n ≤ 24) :
    Calls Tryz.prog 31 #[.int .i64 (n : Int)] w fun e w' => e = .returned (.int .i64 (halfN n : Int)) ∧ w = w' := by
  go_enter Tryz.func31, Tryz.ntmps31
  go_wp2
  go_loop [3] (fun i => ∃ k : Nat, halfN n ≤ k ∧ (k = 1 ∨ k = 2 ∨ k = 4 ∨ k = 8 ∨ k = 16) ∧ i = .int .i64 k) (fun i => (intOf i).toNat)
  case atStart => exact ⟨16, halfN_le16 n, by omega, rfl⟩
  case round =>
    obtain ⟨k, hk, hc, rfl⟩ := hrel
    go_wp2
    · go_ret
      refine ⟨?_, rfl⟩
      have e : k = halfN n := by
        have := halfN_more h'
        rcases halfN_cases n with hq | hq | hq | hq | hq <;> rcases hc with hc | hc | hc | hc | hc <;> omega
      rw [← e]
      rfl
    · go_round
      case rel =>
        have := halfN_lt h
        refine ⟨k / 2, ?_, ?_, by go_num⟩
        · rcases halfN_cases n with hq | hq | hq | hq | hq <;> rcases hc with hc | hc | hc | hc | hc <;> omega
        · omega
      case measure => simp [intOf]; have := halfN_pos n; omega

/- The two boxes that the closure holds: the list's, and its own. -/
structure Boxes (w : World) (a : Option Addr) (n c p q : Nat) : Prop where
  lp : p < w.heap.size
  lq : q < w.heap.size
  list : w.cell? ⟨p, 0, none⟩ = some (.slice a n c)
  self : w.cell? ⟨q, 0, none⟩ = some (.func (.func 29) #[] #[.pointer (some ⟨p, 0, none⟩), .pointer (some ⟨q, 0, none⟩)])
theorem Boxes.on {w w' : World} {a : Option Addr} {n c p q : Nat} (h : Boxes w a n c p q) (hb : Below w.heap.size w w') : Boxes w' a n c p q :=
  ⟨Nat.lt_of_lt_of_le h.lp hb.size, Nat.lt_of_lt_of_le h.lq hb.size, by rw [hb.cell h.lp]; exact h.list, by rw [hb.cell h.lq]; exact h.self⟩

def SpanIs (I : Interp) (l : List ByteArray) (a : Option Addr) (n c p q k : Nat) : Prop := ∀ (f t m : Nat) (w : World), t = f + m → 1 ≤ m → m ≤ k → t ≤ n → I.told.answers w.tape → StrsAt w a c l → Boxes w a n c p q →
    Calls Tryz.prog 29 #[.int .i64 (f : Int), .int .i64 (t : Int), .pointer (some ⟨p, 0, none⟩), .pointer (some ⟨q, 0, none⟩)] w fun e w' => e = .returned (.tuple #[.string (rootV (seg l f m)), .int .i64 (rootE (seg l f m))]) ∧ Below w.heap.size w w'

theorem span_is (I : Interp) (l : List ByteArray) (a : Option Addr) (n c p q : Nat) (hn : l.length = n) (h24 : n ≤ 24) (k : Nat) : SpanIs I l a n c p q k := by
  induction k with
  | zero => intro f t m w _ h1 hk; omega
  | succ k ih =>
    intro f t m w ht h1 hk htn hF hS hB
    have hlen := seg_len l f m (by omega)
    have hcap := hS.cap
    have hmax := hS.max
    have hsub : (t : Int) - (f : Int) = (m : Int) := by omega
    have hbl := hB.list
    have hbs := hB.self
    rcases Nat.lt_or_ge 1 m with h2 | h2
    · have hr := rootS_two (l := seg l f m) (by omega) (by omega)
      rw [hlen] at hr
      have hh := halfN_lt h2
      have hp := halfN_pos m
      rw [seg_take l f m _ (by omega), seg_drop] at hr
      obtain ⟨mid, hmd⟩ : ∃ mid, mid = f + halfN m := ⟨_, rfl⟩
      have hmid : (f : Int) + (halfN m : Int) = (mid : Int) := by omega
      rw [← hmd] at hr
      have hm2 : mid ≤ f + halfN m := by omega
      have hm3 : f + halfN m ≤ mid := by omega
      have ht2 : t ≤ f + m := by omega
      have ht3 : f + m ≤ t := by omega
      clear hmd ht
      have hm1 : ¬ m = 1 := by omega
      go_enter Tryz.func29, Tryz.ntmps29
      go_wp2_with fail
      refine (halfOf_any m w h2 (by omega)).mono ?_
      rintro e w1 ⟨rfl, rfl⟩
      go_wp2_with fail
      refine (ih f mid (halfN m) w (by omega) (by omega) (by omega) (by omega) hF hS hB).mono ?_
      rintro e w1 ⟨rfl, hb1⟩
      have hF1 : I.told.answers w1.tape := by rw [hb1.tape]; exact hF
      have hS1 := hS.on hb1
      have hB1 := hB.on hb1
      have hbs1 := hB1.self
      clear hbl hbs hS hB hF
      rcases ha : rootS (seg l f (halfN m)) with _ | x
      · obtain ⟨e1, e2⟩ := root_neg ha
        rw [ha, Option.bind_none] at hr
        obtain ⟨e3, e4⟩ := root_neg hr
        rw [e1, e2]
        clear hr ha e1 e2
        go_wp2_with fail
        go_ret2
        exact ⟨by rw [e3, e4]; rfl, hb1⟩
      obtain ⟨e1, e2⟩ := root_pos ha
      rw [ha, Option.bind_some] at hr
      rw [e1, e2]
      have hx := rootS_size ha
      clear ha e1 e2
      go_wp2_with fail
      refine (ih mid t (m - halfN m) w1 (by omega) (by omega) (by omega) (by omega) hF1 hS1 hB1).mono ?_
      rintro e w2 ⟨rfl, hb2⟩
      have hF2 : I.told.answers w2.tape := by rw [hb2.tape]; exact hF1
      have hb2 := below_on hb1 hb2
      clear hS1 hB1 hbs1 hF1
      rcases ha : rootS (seg l mid (m - halfN m)) with _ | y
      · obtain ⟨e1, e2⟩ := root_neg ha
        rw [ha, Option.bind_none] at hr
        obtain ⟨e3, e4⟩ := root_neg hr
        rw [e1, e2]
        clear hr ha e1 e2
        go_wp2_with fail
        go_ret2
        exact ⟨by rw [e3, e4]; rfl, hb2⟩
      obtain ⟨e1, e2⟩ := root_pos ha
      rw [ha, Option.bind_some] at hr
      rw [e1, e2]
      have hy := rootS_size ha
      clear ha e1 e2
      go_wp2_with fail
      refine (nodeOf_any I x y w2 hF2 (by omega) (by omega)).mono ?_
      rintro e w3 ⟨rfl, hb3⟩
      have hb3 := below_on hb2 hb3
      have hV : rootV (seg l f m) = nodeV x y ∧ rootE (seg l f m) = nodeE x y := by
        rcases hN : nodeO x y with _ | z
        · rw [hN] at hr
          have hlong := nodeO_none hN
          rw [(root_neg hr).1, (root_neg hr).2, (node_neg (by omega)).1, (node_neg (by omega)).2]
          exact ⟨rfl, rfl⟩
        · rw [hN] at hr
          obtain ⟨hshort, rfl⟩ := nodeO_some hN
          rw [(root_pos hr).1, (root_pos hr).2, (node_pos hshort).1, (node_pos hshort).2]
          exact ⟨rfl, rfl⟩
      clear hr
      generalize nodeV x y = nv at hV
      generalize nodeE x y = ne at hV
      go_wp2_with fail
      go_ret2
      exact ⟨by rw [hV.1, hV.2]; rfl, hb3⟩
    · obtain rfl : m = 1 := by omega
      obtain ⟨b, off, rfl, hlt, hc⟩ := hS.cells (by omega)
      have hcf := hc f (by omega)
      have hr := rootS_one hlen
      rw [seg_one l f 1 (by omega)] at hr
      have hsz := hS.sz (l.getD f ByteArray.empty) (by
        rw [List.getD_eq_getElem?_getD, List.getElem?_eq_getElem (by omega), Option.getD_some]
        exact List.getElem_mem _)
      generalize l.getD f ByteArray.empty = x at hcf hr hsz
      have hV : rootV (seg l f 1) = leafV x ∧ rootE (seg l f 1) = leafE x := by
        rcases hN : leafO x with _ | z
        · rw [hN] at hr
          have hlong := leafO_none hN
          rw [(root_neg hr).1, (root_neg hr).2, (leaf_neg (by omega)).1, (leaf_neg (by omega)).2]
          exact ⟨rfl, rfl⟩
        · rw [hN] at hr
          obtain ⟨hshort, rfl⟩ := leafO_some hN
          rw [(root_pos hr).1, (root_pos hr).2, (leaf_pos hshort).1, (leaf_pos hshort).2]
          exact ⟨rfl, rfl⟩
      clear hr hc ih ht
      have hfn : f < n := by omega
      go_enter Tryz.func29, Tryz.ntmps29
      go_wp2_with fail
      refine (leafOf_any x w hsz).mono ?_
      rintro e w1 ⟨rfl, rfl⟩
      generalize leafV x = nv at hV
      generalize leafE x = ne at hV
      go_wp2_with fail
      go_ret2
      exact ⟨by rw [hV.1, hV.2]; rfl, Below.refl _ _⟩

theorem rootOf_any (I : Interp) (l : List ByteArray) (a : Option Addr) (n c : Nat) (w : World) (hF : I.told.answers w.tape) (hn : l.length = n) (hS : StrsAt w a c l) :
    Calls Tryz.prog 18 #[.slice a n c] w fun e w' => e = .returned (.tuple #[.string (rootV l), .int .i64 (rootE l)]) ∧ Below w.heap.size w w' := by
  have hcap := hS.cap
  have hmax := hS.max
  rcases Nat.lt_or_ge 24 n with h24 | h24
  · obtain ⟨e3, e4⟩ := root_neg (rootS_many (l := l) (by omega))
    go_enter Tryz.func18, Tryz.ntmps18
    go_wp2_with fail
    go_ret2
    exact ⟨by rw [e3, e4]; rfl, (Below.refl _ _).alloc (Nat.le_refl _) _⟩
  rcases Nat.eq_zero_or_pos n with h0 | h0
  · subst h0
    obtain rfl := List.length_eq_zero_iff.1 hn
    obtain ⟨e3, e4⟩ := root_pos rootS_nil
    go_enter Tryz.func18, Tryz.ntmps18
    go_wp2_with fail
    go_ret2
    exact ⟨by rw [e3, e4]; rfl, (Below.refl _ _).alloc (Nat.le_refl _) _⟩
  have hn0 : ¬ n = 0 := by omega
  have hh2 : ((w.alloc (.cells #[.slice a n c] 60)).alloc (.cells #[.nilFunc] 71)).heap[w.heap.size + 1]? = some (.cells #[.nilFunc] 71) := by
    have h := Array.getElem?_push_size (xs := w.heap.push (.cells #[.slice a n c] 60)) (x := .cells #[.nilFunc] 71)
    rw [Array.size_push] at h
    exact h
  have hc2 : ((w.alloc (.cells #[.slice a n c] 60)).alloc (.cells #[.nilFunc] 71)).cell? ⟨w.heap.size + 1, 0, none⟩ = some .nilFunc := by
    unfold World.cell?; simp only [hh2]; rfl
  have hf2 : ((w.alloc (.cells #[.slice a n c] 60)).alloc (.cells #[.nilFunc] 71)).frozen? ⟨w.heap.size + 1, 0, none⟩ = false := by
    unfold World.frozen?; simp only [hh2]; rfl
  have hc1 : ((w.alloc (.cells #[.slice a n c] 60)).alloc (.cells #[.nilFunc] 71)).cell? ⟨w.heap.size, 0, none⟩ = some (.slice a n c) := by
    have hh1 : ((w.alloc (.cells #[.slice a n c] 60)).alloc (.cells #[.nilFunc] 71)).heap[w.heap.size]? = some (.cells #[.slice a n c] 60) := by
      show ((w.heap.push _).push _)[w.heap.size]? = _
      simp [Array.getElem?_push]
    unfold World.cell?; simp only [hh1]; rfl
  have hb : Below w.heap.size w ((w.alloc (.cells #[.slice a n c] 60)).alloc (.cells #[.nilFunc] 71)) :=
    ((Below.refl _ _).alloc (Nat.le_refl _) _).alloc (by show _ ≤ (w.heap.push _).size; simp) _
  have hsz2 : ((w.alloc (.cells #[.slice a n c] 60)).alloc (.cells #[.nilFunc] 71)).heap.size = w.heap.size + 2 := by show ((w.heap.push _).push _).size = _; simp
  generalize hW2 : ((w.alloc (.cells #[.slice a n c] 60)).alloc (.cells #[.nilFunc] 71)) = W2 at hc1 hc2 hf2 hb hsz2
  clear hh2
  have hb3 : Below w.heap.size w (W2.setCell ⟨w.heap.size + 1, 0, none⟩ (.func (.func 29) #[] #[.pointer (some ⟨w.heap.size, 0, none⟩), .pointer (some ⟨w.heap.size + 1, 0, none⟩)])) := hb.setCell (by show _ ≤ w.heap.size + 1; omega) _
  have hB : Boxes (W2.setCell ⟨w.heap.size + 1, 0, none⟩ (.func (.func 29) #[] #[.pointer (some ⟨w.heap.size, 0, none⟩), .pointer (some ⟨w.heap.size + 1, 0, none⟩)])) a n c w.heap.size (w.heap.size + 1) := by
    refine ⟨by simp [hsz2], by simp [hsz2], ?_, World.cell?_setCell_same _ _ _ hc2⟩
    rw [World.cell?_setCell_other _ _ _ _ (by simp only [ne_eq, Addr.mk.injEq]; omega)]
    exact hc1
  have hk1 := hB.list
  have hk2 := hB.self
  have hS3 := hS.on hb3
  have hF3 : I.told.answers (W2.setCell ⟨w.heap.size + 1, 0, none⟩ (.func (.func 29) #[] #[.pointer (some ⟨w.heap.size, 0, none⟩), .pointer (some ⟨w.heap.size + 1, 0, none⟩)])).tape := by rw [hb3.tape]; exact hF
  have hmf : ∀ (fn : Fn) (first cap : Array Value) (w : World), (Instr.makeFunc fn first cap).run Tryz.prog w = .ok (.func fn first cap) w := fun _ _ _ _ => rfl
  go_enter Tryz.func18, Tryz.ntmps18
  go_wp2_with fail
  refine (span_is I l a n c _ _ hn h24 n 0 n n _ (by omega) (by omega) (by omega) (by omega) hF3 hS3 hB).mono ?_
  rintro e w4 ⟨rfl, hb4⟩
  have hb4 := below_on hb3 hb4
  have hall : seg l 0 n = l := by rw [← hn]; exact seg_all l
  rw [hall]
  clear hS3 hF3 hB hk1 hk2 hb3 hc1 hc2 hf2
  go_wp2_with fail
  go_ret2
  exact ⟨rfl, hb4⟩
end Go.Proofs.YtnemiobgmdpnmagGreatFmt
