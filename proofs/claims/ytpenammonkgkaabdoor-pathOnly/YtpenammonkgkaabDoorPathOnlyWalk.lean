/-
  The law PathOnly walked: just one path shows what is so.
-/
import Derived.Test.YtpenammonkgkaabDoorOnlyShows
import Derived.Deep.RegionHeld3
import Derived.Laws.EntriesVeiled
namespace Go.Proofs.YtpenammonkgkaabDoor
open Go Go.RowKit

theorem below_drew (w : World) : Below w.heap.size w w.drew := ⟨rfl, rfl, rfl, Nat.le_refl _, fun _ _ => rfl⟩
theorem held_on {w9 wc w2 : World} {A : Addr} {v : Value} (hlt : A.block < w9.heap.size) (hb : Below wc.heap.size wc w2) (h : Below w9.heap.size w9 wc ∧ wc.cell? A = some v) : Below w9.heap.size w9 w2 ∧ w2.cell? A = some v :=
  ⟨below_on h.1 hb, by rw [(below_on h.1 hb).cell hlt, ← h.1.cell hlt]; exact h.2⟩
theorem held_grown {w9 wc w2 : World} {A : Addr} {v : Value} {row : Option Nat} (hlt : A.block < w9.heap.size) (h : Below w9.heap.size w9 wc ∧ wc.cell? A = some v) (hg : wc.grownBy w2 row) (hr : ∀ k, row = some k → w9.heap.size ≤ k) : Below w9.heap.size w9 w2 ∧ w2.cell? A = some v := by
  have hb := h.1.grown hg h.1.size hr
  exact ⟨hb, by rw [hb.cell hlt, ← h.1.cell hlt]; exact h.2⟩
theorem held_below {w9 w : World} {A : Addr} {v : Value} (h : Below w9.heap.size w9 w ∧ w.cell? A = some v) : Below w9.heap.size w9 w := h.1
theorem held_size {w9 w : World} {A : Addr} {v : Value} (h : Below w9.heap.size w9 w ∧ w.cell? A = some v) : w9.heap.size ≤ w.heap.size := h.1.size
theorem append_step {o : Oper} {a : Act} {w : World} {K : Act → World → Prop} {Q : Exit → Act → World → Prop} (ho : o.op = .call { callee := .builtin .append, args := #[.tmp 111, .tmp 114], argTypes := #[32, 32] })
    (l : List StepB) (s : ByteArray) (B g cap b : Nat) (hlen : l.length ≤ 1000) (hv : a.eval (.tmp 111) = .slice (some ⟨g, 0, none⟩) l.length cap) (hx : a.eval (.tmp 114) = .slice (some ⟨b, 0, none⟩) 1 1)
    (hown : w.ownsRow B 41 2 (.slice (some ⟨g, 0, none⟩) l.length cap) l.length (stepCells l)) (hnews : w.heap[b]? = some (.cells #[.bool false, .string s] 41 (0, 0))) (hB : B ≤ w.heap.size)
    (h : ∀ g' cap' w', w'.ownsRow B 41 2 (.slice (some ⟨g', 0, none⟩) (l.length + 1) cap') (l.length + 1) (stepCells l ++ [.bool false, .string s]) → w.grownBy w' (some g) → B ≤ g → K (a.put o.dst (.slice (some ⟨g', 0, none⟩) (l.length + 1) cap')) w') : o.wp Tryd.prog a w K Q := by
  obtain ⟨i0, hi0, hz0, hz1, hz2⟩ := info_parts infoStep
  refine wp_append_lies w (.tmp 111) (.tmp 114) 32 ho B 41 i0 (.agg #[.bool false, .string ⟨#[]⟩]) 2 24 Tryd.underlying32 hi0 hz0 hz1 hz2 rfl (by decide) _ l.length (stepCells l) hv hown ⟨b, 0, none⟩ 1 1 [.bool false, .string s] hx rfl
    (World.news_of_block (cs := #[.bool false, .string s]) (t := 41) (fr := (0, 0)) hnews) (by intro u hu; simp only [List.mem_cons, List.not_mem_nil, or_false] at hu; rcases hu with rfl | rfl <;> rfl) (by omega) (by unfold maxLen; omega) (by omega) hB _ rfl ?_
  intro g' cap' w' ho' hg' _ _
  exact h g' cap' w' ho' hg' (hown.lt g rfl).1
theorem news_on {w w2 : World} {o : Obj} (hb : Below (w.alloc o).heap.size (w.alloc o) w2) : w2.heap[w.heap.size]? = some o := by
  rw [hb.block w.heap.size (by show _ < (w.heap.push _).size; simp)]
  show (w.heap.push _)[w.heap.size]? = _
  simp
theorem news_at (w : World) (o : Obj) : (w.alloc o).heap[w.heap.size]? = some o := by
  show (w.heap.push _)[w.heap.size]? = _
  simp

set_option maxRecDepth 100000 in
set_option maxHeartbeats 4000000 in
theorem pathOnly_walk (l : List ByteArray) (a : Option Addr) (n c : Nat) (i : Int) (ss : List StepB) (a3 : Option Addr) (n3 c3 : Nat) (k : Int) (s : ByteArray) (W : World) (hE : Tab W) (hn : l.length = n) (hS : StrsAt W a c l)
    (hi : -9223372036854775808 ≤ i) (hi' : i ≤ 9223372036854775807) (hn3 : ss.length = n3) (hT : StepsAt W a3 c3 ss) (hk : -9223372036854775808 ≤ k) (hk' : k ≤ 9223372036854775807) (hs : s.size ≤ 9223372036854775807) :
    Calls Tryd.prog 5 #[.slice a n c, .int .i64 i, .slice a3 n3 c3, .int .i64 k, .string s] W fun e w' => e = .returned (.bool true) ∧ Below W.heap.size W w' := by
  have hcap := hS.cap
  have hmax := hS.max
  have b0 : Below W.heap.size W ((W.alloc (.cells #[.slice a n c] 22)).alloc (.cells #[.int .i64 i] 3)) := ((Below.refl _ _).alloc (Nat.le_refl _) _).alloc (by show _ ≤ (W.heap.push _).size; simp) _
  have hsz0 : ((W.alloc (.cells #[.slice a n c] 22)).alloc (.cells #[.int .i64 i] 3)).heap.size = W.heap.size + 2 := by show ((W.heap.push _).push _).size = _; simp
  have hq1 : ((W.alloc (.cells #[.slice a n c] 22)).alloc (.cells #[.int .i64 i] 3)).heap[W.heap.size]? = some (.cells #[.slice a n c] 22) := by
    show ((W.heap.push _).push _)[W.heap.size]? = _
    simp [Array.getElem?_push]
  have hq2 : ((W.alloc (.cells #[.slice a n c] 22)).alloc (.cells #[.int .i64 i] 3)).heap[W.heap.size + 1]? = some (.cells #[.int .i64 i] 3) := by
    have h := Array.getElem?_push_size (xs := W.heap.push (.cells #[.slice a n c] 22)) (x := .cells #[.int .i64 i] 3)
    rw [Array.size_push] at h
    exact h
  have d1 : ((W.alloc (.cells #[.slice a n c] 22)).alloc (.cells #[.int .i64 i] 3)).cell? ⟨W.heap.size, 0, none⟩ = some (.slice a n c) := by unfold World.cell?; simp only [hq1]; rfl
  have d2 : ((W.alloc (.cells #[.slice a n c] 22)).alloc (.cells #[.int .i64 i] 3)).cell? ⟨W.heap.size + 1, 0, none⟩ = some (.int .i64 i) := by unfold World.cell?; simp only [hq2]; rfl
  have d3 : ((W.alloc (.cells #[.slice a n c] 22)).alloc (.cells #[.int .i64 i] 3)).frozen? ⟨W.heap.size + 1, 0, none⟩ = false := by unfold World.frozen?; simp only [hq2]; rfl
  generalize hW0 : ((W.alloc (.cells #[.slice a n c] 22)).alloc (.cells #[.int .i64 i] 3)) = W0 at b0 hsz0 d1 d2 d3
  clear hq1 hq2
  have hE0 := hE.on b0
  have hS0 := hS.on b0
  have hT0 := hT.on b0
  rcases hx : rootS l with _ | r
  · go_enter Tryd.func5, Tryd.ntmps5
    go_wp2_with fail
    refine (root_no l hx a n c W0 hn hE0 hS0).mono ?_
    rintro e w1 ⟨rfl, hb1⟩
    have hb1a : Below W0.heap.size W0 (w1.alloc (.cells #[.string ⟨#[]⟩] 9)) := below_on hb1 ((Below.refl _ _).alloc (Nat.le_refl _) _)
    have hE1 := hE0.on hb1a
    go_wp2_with fail
    refine (pathed_any _ hE1).mono ?_
    rintro e w2 ⟨rfl, hb2⟩
    have hb2 := below_on hb1a hb2
    have hE2 := hE0.on hb2
    have f1 : w2.cell? ⟨W.heap.size, 0, none⟩ = some (.slice a n c) := by rw [hb2.cell (by rw [hsz0]; show W.heap.size < _; omega)]; exact d1
    clear hb1 hE1 hb1a
    go_wp2_with fail
    refine (pathed_any w2 hE2).mono ?_
    rintro e w3 ⟨rfl, hb3⟩
    have hb3 := below_on hb2 hb3
    go_wp2_with fail
    go_ret
    exact ⟨rfl, below_on b0 hb3⟩
  rcases Nat.lt_or_ge n 2 with h2 | h2
  · have h2' : (n : Int) < 2 := by omega
    go_enter Tryd.func5, Tryd.ntmps5
    go_wp2_with fail
    refine (root_ok l r hx a n c W0 hn hE0 hS0).mono ?_
    rintro e w1 ⟨rfl, hb1⟩
    have hb1a : Below W0.heap.size W0 (w1.alloc (.cells #[.string r] 9)) := below_on hb1 ((Below.refl _ _).alloc (Nat.le_refl _) _)
    have hE1 := hE0.on hb1a
    go_wp2_with fail
    refine (pathed_any _ hE1).mono ?_
    rintro e w2 ⟨rfl, hb2⟩
    have hb2 := below_on hb1a hb2
    have hE2 := hE0.on hb2
    have f1 : w2.cell? ⟨W.heap.size, 0, none⟩ = some (.slice a n c) := by rw [hb2.cell (by rw [hsz0]; show W.heap.size < _; omega)]; exact d1
    clear hb1 hE1 hb1a
    go_wp2_with fail
    refine (pathed_any w2 hE2).mono ?_
    rintro e w3 ⟨rfl, hb3⟩
    have hb3 := below_on hb2 hb3
    go_wp2_with fail
    go_ret
    exact ⟨rfl, below_on b0 hb3⟩
  have h24 : n ≤ 24 := by rw [← hn]; exact rootS_len hx
  have hI := atN_lt i (show 0 < n by omega)
  have atI := fun w => at_any i n w (by omega) (by omega) hi hi'
  generalize atN i n = I at hI atI
  have hof := fun w hE hS => of_ok l a n c I r w hn hE hS hx hI
  have hpos : 0 < (pathS l I).length := pathS_pos (by omega)
  have hple : (pathS l I).length ≤ 23 := by rw [pathS_len, hn]; exact sidesN_le h24
  have hcl := fun pr pl pi ss a6 m c6 w hE hS hB hm hT => only_shows l a n c I r pr pl pi ss a6 m c6 w hE hn hS hx hI hB hm hT
  generalize pathS l I = P at hof hpos hple hcl
  have hK := atN_lt k hpos
  have atK := fun w => at_any k P.length w hpos (by omega) hk hk'
  generalize atN k P.length = K at hK atK
  have h2' : ¬ (n : Int) < 2 := by omega
  have hmf : ∀ (fn : Fn) (first cap : Array Value) (w : World), (Instr.makeFunc fn first cap).run Tryd.prog w = .ok (.func fn first cap) w := fun _ _ _ _ => rfl
  have hp0 : ¬ P.length = 0 := by omega
  have Hcl := Lib.hid hcl
  have Hof := Lib.hid hof
  have HI := Lib.hid atI
  have HK := Lib.hid atK
  clear hcl hof atI atK
  go_enter Tryd.func5, Tryd.ntmps5
  go_wp2_with fail
  refine (root_ok l r hx a n c W0 hn hE0 hS0).mono ?_
  rintro e w1 ⟨rfl, hb1⟩
  have hb1a : Below W0.heap.size W0 (w1.alloc (.cells #[.string r] 9)) := below_on hb1 ((Below.refl _ _).alloc (Nat.le_refl _) _)
  have hE1 := hE0.on hb1a
  have hr0 : (w1.alloc (.cells #[.string r] 9)).cell? ⟨w1.heap.size, 0, none⟩ = some (.string r) := by
    have hh : (w1.alloc (.cells #[.string r] 9)).heap[w1.heap.size]? = some (.cells #[.string r] 9) := by show (w1.heap.push _)[w1.heap.size]? = _; simp
    unfold World.cell?; simp only [hh]; rfl
  have hr1 : w1.heap.size < (w1.alloc (.cells #[.string r] 9)).heap.size := by show _ < (w1.heap.push _).size; simp
  go_wp2_with fail
  refine (pathed_any _ hE1).mono ?_
  rintro e w2 ⟨rfl, hb2⟩
  have hr2 : w2.cell? ⟨w1.heap.size, 0, none⟩ = some (.string r) := by rw [hb2.cell hr1]; exact hr0
  have hr3 : w1.heap.size < w2.heap.size := Nat.lt_of_lt_of_le hr1 hb2.size
  have hr4 : W.heap.size + 2 ≤ w1.heap.size := by rw [← hsz0]; exact hb1.size
  have hb2 := below_on hb1a hb2
  have f1 : w2.cell? ⟨W.heap.size, 0, none⟩ = some (.slice a n c) := by rw [hb2.cell (by rw [hsz0]; show W.heap.size < _; omega)]; exact d1
  have f2 : w2.cell? ⟨W.heap.size + 1, 0, none⟩ = some (.int .i64 i) := by rw [hb2.cell (by rw [hsz0]; show W.heap.size + 1 < _; omega)]; exact d2
  have f3 : w2.frozen? ⟨W.heap.size + 1, 0, none⟩ = false := by
    unfold World.frozen? at d3 ⊢
    rw [hb2.block (W.heap.size + 1) (by rw [hsz0]; omega)]; exact d3
  generalize w1.heap.size = pr at hr2 hr3 hr4
  clear hb1 hE1 hb1a hr0 hr1 d1 d2 d3
  go_wp2_with fail
  refine (HI.out w2).mono ?_
  rintro e w3 ⟨rfl, rfl⟩
  have b2 := below_on b0 hb2
  have b3 : Below W.heap.size W (w2.setCell ⟨W.heap.size + 1, 0, none⟩ (.int .i64 (I : Int))) := b2.setCell (by show _ ≤ W.heap.size + 1; omega) _
  have hbox : OnlyBox (w2.setCell ⟨W.heap.size + 1, 0, none⟩ (.int .i64 (I : Int))) pr W.heap.size (W.heap.size + 1) r a n c I := by
    have hz : W.heap.size + 2 ≤ w2.heap.size := by rw [← hsz0]; exact hb2.size
    refine ⟨by simpa using hr3, by simp; omega, by simp; omega, ?_, ?_, World.cell?_setCell_same _ _ _ f2⟩
    · rw [World.cell?_setCell_other _ _ _ _ (by simp only [ne_eq, Addr.mk.injEq]; omega)]; exact hr2
    · rw [World.cell?_setCell_other _ _ _ _ (by simp only [ne_eq, Addr.mk.injEq]; omega)]; exact f1
  have k1 := hbox.list
  have k2 := hbox.place
  generalize hW3 : w2.setCell ⟨W.heap.size + 1, 0, none⟩ (.int .i64 (I : Int)) = W3 at b3 hbox k1 k2
  go_wp2_with fail
  refine (Hof.out W3 (hE.on b3) (hS.on b3)).mono ?_
  rintro e w5 ⟨a5, c5, rfl, ⟨B5, hB5, hown5⟩, hP5, hb5⟩
  have hbox5 := hbox.on hb5
  have b5 := below_on b3 hb5
  clear hb5 b3 hbox k1 k2 hW3 f1 f2 f3 hr2 hr3 hb2 b2
  go_wp2_with fail
  refine (HK.out w5).mono ?_
  rintro e w6 ⟨rfl, rfl⟩
  go_wp2_with fail
  refine (clone_steps P a5 P.length c5 w5 rfl hpos (by omega) hP5).mono ?_
  rintro e w6 ⟨g6, c6, rfl, hown6, hb6⟩
  have hP6 := hP5.on hb6
  have hlt6 := hown6.lt g6 rfl
  have S6 : StepsAt w6 (some ⟨g6, 0, none⟩) c6 P := by
    obtain ⟨a', c', he, _, h⟩ := steps_own hown6 hP5.sz
    injection he with e1 _ e3
    subst e1 e3
    exact h
  go_wp2_with fail
  refine (clone_steps P a5 P.length c5 w6 rfl hpos (by omega) hP6).mono ?_
  rintro e w7 ⟨g7, c7, rfl, hown7, hb7⟩
  have hlt7 := hown7.lt g7 rfl
  have S7 : StepsAt w7 (some ⟨g7, 0, none⟩) c7 P := by
    obtain ⟨a', c', he, _, h⟩ := steps_own hown7 hP5.sz
    injection he with e1 _ e3
    subst e1 e3
    exact h
  have S6 := S6.on hb7
  have z6 := fun j => StepsAt.soft (owns_on hown6 hb7) j
  have z7 := fun j => StepsAt.soft hown7 j
  have b7 : Below w5.heap.size w5 w7 := below_on hb6 hb7
  have S8 := S6.seal K hK s hs
  have S8' := S7.far (p := ⟨g6, K * 2 + 1, none⟩) (by show g6 ≠ g7; omega) (.string s)
  have z7' : ∀ j, (w7.setCell ⟨g6, K * 2 + 1, none⟩ (.string s)).frozen? ⟨g7, j, none⟩ = false := fun j => by rw [World.frozen?_setCell]; exact z7 j
  have b8 := b7.setCell (p := ⟨g6, K * 2 + 1, none⟩) hlt6.1 (.string s)
  have u6 : w7.cell? ⟨g6, K * 2 + 1, none⟩ = some (.string (stepAt P K).2) := by
    obtain ⟨b', off', ha, _, hc⟩ := S6.cells hpos
    injection ha with ha
    injection ha with e1 e2
    subst e1 e2
    have := (hc K hK).2
    rwa [Nat.zero_add] at this
  have u7 : (w7.setCell ⟨g6, K * 2 + 1, none⟩ (.string s)).cell? ⟨g7, K * 2, none⟩ = some (.bool (stepAt P K).1) := by
    obtain ⟨b', off', ha, _, hc⟩ := S8'.cells hpos
    injection ha with ha
    injection ha with e1 e2
    subst e1 e2
    have := (hc K hK).1
    rwa [Nat.zero_add] at this
  have S9 := S8'.side K hK (!(stepAt P K).1)
  have S9' := S8.far (p := ⟨g7, K * 2, none⟩) (by show g7 ≠ g6; omega) (.bool (!(stepAt P K).1))
  have b9 := b8.setCell (p := ⟨g7, K * 2, none⟩) (by show _ ≤ g7; have := hb6.size; omega) (.bool (!(stepAt P K).1))
  have e9 : P.set K ((stepAt P K).1, s) = P ↔ s = (stepAt P K).2 := by
    rw [set_eq_self hK]
    constructor
    · intro h; exact congrArg Prod.snd h
    · intro h; rw [h]
  have e9' : P.set K (!(stepAt P K).1, (stepAt P K).2) ≠ P := by
    intro h
    have := congrArg Prod.fst ((set_eq_self hK _).1 h)
    simp at this
  obtain ⟨g5, rfl, hg5⟩ : ∃ g5, a5 = some ⟨g5, 0, none⟩ ∧ g5 < w5.heap.size := by
    obtain ⟨g, cap, he, _, hlt⟩ := hown5.form hpos
    injection he with e1 _ _
    exact ⟨g, e1, hlt⟩
  have u5 : w5.cell? ⟨g5, K * 2 + 1, none⟩ = some (.string (stepAt P K).2) := by
    obtain ⟨b', off', ha, _, hc⟩ := hP5.cells hpos
    injection ha with ha
    injection ha with e1 e2
    subst e1 e2
    have := (hc K hK).2
    rwa [Nat.zero_add] at this
  have L1 : (P.set K ((stepAt P K).1, s)).length = P.length := by simp
  have L2 : (P.set K (!(stepAt P K).1, (stepAt P K).2)).length = P.length := by simp
  generalize P.set K ((stepAt P K).1, s) = P1 at S8 S9' e9 L1
  generalize P.set K (!(stepAt P K).1, (stepAt P K).2) = P2 at S9 e9' L2
  generalize (stepAt P K).1 = kl at u7 S9 S9' b9
  generalize (stepAt P K).2 = kx at e9 u5 u6
  have hK2 : (K : Int) < (P.length : Int) := by omega
  have hb9 : w5.heap.size ≤ ((w7.setCell ⟨g6, K * 2 + 1, none⟩ (.string s)).setCell ⟨g7, K * 2, none⟩ (.bool (!kl))).heap.size := b9.size
  have He9 := Lib.hid e9
  have He9' := Lib.hid e9'
  have HL1 := Lib.hid L1
  have HL2 := Lib.hid L2
  clear S8 S8' hown6 hown7 S6 S7 z7 b7 b8 hP6 hb6 hb7 e9 e9' L1 L2
  go_wp2_with fail
  clear u6 u7 z6 z7'
  generalize (w7.setCell ⟨g6, K * 2 + 1, none⟩ (.string s)).setCell ⟨g7, K * 2, none⟩ (.bool (!kl)) = W9 at S9 S9' b9 hb9
  -- what is called in the last test, in whatever world of the class
  have b59 : ∀ w', Below W9.heap.size W9 w' → Below w5.heap.size w5 w' := fun w' h => below_on b9 h
  have bW9 : ∀ w', Below W9.heap.size W9 w' → Below W.heap.size W w' := fun w' h => below_on b5 (b59 w' h)
  have hd2 : (s.toList == kx.toList) = decide (P1 = P) := by
    by_cases h : s = kx
    · rw [str_eq h, decide_eq_true (He9.out.2 h)]
    · rw [str_ne h, decide_eq_false (fun h' => h (He9.out.1 h'))]
  have cA : ∀ w', (Below W9.heap.size W9 w' ∧ w'.cell? ⟨g5, K * 2 + 1, none⟩ = some (.string kx)) → Calls Tryd.prog 15 #[.slice a3 n3 c3, .pointer (some ⟨pr, 0, none⟩), .pointer (some ⟨W.heap.size, 0, none⟩), .pointer (some ⟨W.heap.size + 1, 0, none⟩)] w' fun e w'' => e = .returned (.bool (decide (ss = P))) ∧ Below w'.heap.size w' w'' :=
    fun w' h => Hcl.out pr _ _ ss a3 n3 c3 w' (hE.on (bW9 w' h.1)) (hS.on (bW9 w' h.1)) (hbox5.on (b59 w' h.1)) hn3 (hT.on (bW9 w' h.1))
  have cB : ∀ w', (Below W9.heap.size W9 w' ∧ w'.cell? ⟨g5, K * 2 + 1, none⟩ = some (.string kx)) → Calls Tryd.prog 17 #[.slice a3 n3 c3, .slice (some ⟨g5, 0, none⟩) P.length c5] w' fun e w'' => e = .returned (.bool (decide (ss = P))) ∧ Below w'.heap.size w' w'' :=
    fun w' h => equal_steps ss P a3 _ n3 c3 P.length c5 w' hn3 rfl (hT.on (bW9 w' h.1)) (hP5.on (b59 w' h.1))
  have cC : ∀ w', (Below W9.heap.size W9 w' ∧ w'.cell? ⟨g5, K * 2 + 1, none⟩ = some (.string kx)) → Calls Tryd.prog 15 #[.slice (some ⟨g6, 0, none⟩) P.length c6, .pointer (some ⟨pr, 0, none⟩), .pointer (some ⟨W.heap.size, 0, none⟩), .pointer (some ⟨W.heap.size + 1, 0, none⟩)] w' fun e w'' => e = .returned (.bool (decide (P1 = P))) ∧ Below w'.heap.size w' w'' :=
    fun w' h => Hcl.out pr _ _ P1 _ P.length c6 w' (hE.on (bW9 w' h.1)) (hS.on (bW9 w' h.1)) (hbox5.on (b59 w' h.1)) HL1.out (S9'.on h.1)
  have cD : ∀ w', (Below W9.heap.size W9 w' ∧ w'.cell? ⟨g5, K * 2 + 1, none⟩ = some (.string kx)) → Calls Tryd.prog 15 #[.slice (some ⟨g7, 0, none⟩) P.length c7, .pointer (some ⟨pr, 0, none⟩), .pointer (some ⟨W.heap.size, 0, none⟩), .pointer (some ⟨W.heap.size + 1, 0, none⟩)] w' fun e w'' => e = .returned (.bool false) ∧ Below w'.heap.size w' w'' := by
    intro w' h
    have := Hcl.out pr _ _ P2 _ P.length c7 w' (hE.on (bW9 w' h.1)) (hS.on (bW9 w' h.1)) (hbox5.on (b59 w' h.1)) HL2.out (S9.on h.1)
    rwa [decide_eq_false He9'.out] at this
  have hdrop : P.drop 1 ≠ P := by
    intro h
    have := congrArg List.length h
    rw [List.length_drop] at this
    omega
  have cE : ∀ w', (Below W9.heap.size W9 w' ∧ w'.cell? ⟨g5, K * 2 + 1, none⟩ = some (.string kx)) → Calls Tryd.prog 15 #[.slice (if c5 = 1 then (some ⟨g5, 0, none⟩ : Option Addr) else some ⟨g5, 2, none⟩) (P.length - 1) (c5 - 1), .pointer (some ⟨pr, 0, none⟩), .pointer (some ⟨W.heap.size, 0, none⟩), .pointer (some ⟨W.heap.size + 1, 0, none⟩)] w' fun e w'' => e = .returned (.bool false) ∧ Below w'.heap.size w' w'' := by
    intro w' h
    have hst : StepsAt w' (if c5 = 1 then (some ⟨g5, 0, none⟩ : Option Addr) else some ⟨g5, 2, none⟩) (c5 - 1) (P.drop 1) := by
      have h1 := (hP5.on (b59 w' h.1)).drop 1
      by_cases hc1 : c5 = 1
      · rw [if_pos hc1]
        exact ⟨h1.cap, h1.max, h1.sz, fun h0 => absurd h0 (by rw [List.length_drop]; have := hP5.cap; omega)⟩
      · rw [if_neg hc1]; exact h1
    have := Hcl.out pr _ _ (P.drop 1) _ (P.length - 1) (c5 - 1) w' (hE.on (bW9 w' h.1)) (hS.on (bW9 w' h.1)) (hbox5.on (b59 w' h.1)) (by rw [List.length_drop]) hst
    rwa [decide_eq_false hdrop] at this
  have cG : ∀ w', (Below W9.heap.size W9 w' ∧ w'.cell? ⟨g5, K * 2 + 1, none⟩ = some (.string kx)) → Calls Tryd.prog 16 #[.slice (some ⟨g5, 0, none⟩) P.length c5] w' fun e w'' => ∃ g cap, e = .returned (.slice (some ⟨g, 0, none⟩) P.length cap) ∧ w''.ownsRow W9.heap.size 41 2 (.slice (some ⟨g, 0, none⟩) P.length cap) P.length (stepCells P) ∧ Below w'.heap.size w' w'' := by
    intro w' h
    refine (clone_steps P _ P.length c5 w' rfl hpos (by omega) (hP5.on (b59 w' h.1))).mono ?_
    rintro e w2 ⟨g, cap, rfl, ho, hb⟩
    exact ⟨g, cap, rfl, ho.mono h.1.size, hb⟩
  have hmore : P ++ [(false, s)] ≠ P := by
    intro h
    have := congrArg List.length h
    rw [List.length_append] at this
    simp at this
  have cM : ∀ w' g cap, (Below W9.heap.size W9 w' ∧ w'.cell? ⟨g5, K * 2 + 1, none⟩ = some (.string kx)) → w'.ownsRow W9.heap.size 41 2 (.slice (some ⟨g, 0, none⟩) (P.length + 1) cap) (P.length + 1) (stepCells P ++ [.bool false, .string s]) → Calls Tryd.prog 15 #[.slice (some ⟨g, 0, none⟩) (P.length + 1) cap, .pointer (some ⟨pr, 0, none⟩), .pointer (some ⟨W.heap.size, 0, none⟩), .pointer (some ⟨W.heap.size + 1, 0, none⟩)] w' fun e w'' => e = .returned (.bool false) ∧ Below w'.heap.size w' w'' := by
    intro w' g cap h ho
    have ho' : w'.ownsRow W9.heap.size 41 2 (.slice (some ⟨g, 0, none⟩) (P.length + 1) cap) (P.length + 1) (stepCells (P ++ [(false, s)])) := by rw [stepCells_app]; exact ho
    obtain ⟨a', c', he, hl', hst⟩ := steps_own ho' (fun x hx => by
      rcases List.mem_append.1 hx with hx | hx
      · exact hP5.sz x hx
      · rw [List.mem_singleton.1 hx]; exact hs)
    injection he with e1 _ e3
    subst e1 e3
    have := Hcl.out pr _ _ (P ++ [(false, s)]) _ (P.length + 1) cap w' (hE.on (bW9 w' h.1)) (hS.on (bW9 w' h.1)) (hbox5.on (b59 w' h.1)) (by simp) hst
    rwa [decide_eq_false hmore] at this
  have hg9 : (⟨g5, K * 2 + 1, none⟩ : Addr).block < W9.heap.size := by show g5 < _; omega
  have hS9 : Below W9.heap.size W9 W9 ∧ W9.cell? ⟨g5, K * 2 + 1, none⟩ = some (.string kx) := ⟨Below.refl _ _, by rw [b9.cell hg5]; exact u5⟩
  obtain ⟨i0, hi0, hz0, hz1, hz2⟩ := info_parts infoStep
  generalize decide (ss = P) = bb1 at cA cB
  generalize decide (P1 = P) = bb2 at cC hd2
  have CA := Lib.hid cA
  have CB := Lib.hid cB
  have CC := Lib.hid cC
  have CD := Lib.hid cD
  have hor : (c5 = 1 ∧ Hid (∀ w', (Below W9.heap.size W9 w' ∧ w'.cell? ⟨g5, K * 2 + 1, none⟩ = some (.string kx)) → Calls Tryd.prog 15 #[.slice (some ⟨g5, 0, none⟩) 0 0, .pointer (some ⟨pr, 0, none⟩), .pointer (some ⟨W.heap.size, 0, none⟩), .pointer (some ⟨W.heap.size + 1, 0, none⟩)] w' fun e w'' => e = .returned (.bool false) ∧ Below w'.heap.size w' w'')) ∨ (¬ c5 = 1 ∧ Hid (∀ w', (Below W9.heap.size W9 w' ∧ w'.cell? ⟨g5, K * 2 + 1, none⟩ = some (.string kx)) → Calls Tryd.prog 15 #[.slice (some ⟨g5, 2, none⟩) (P.length - 1) (c5 - 1), .pointer (some ⟨pr, 0, none⟩), .pointer (some ⟨W.heap.size, 0, none⟩), .pointer (some ⟨W.heap.size + 1, 0, none⟩)] w' fun e w'' => e = .returned (.bool false) ∧ Below w'.heap.size w' w'')) := by
    by_cases hc1 : c5 = 1
    · left
      refine ⟨hc1, ?_⟩
      rw [if_pos hc1, show P.length - 1 = 0 by (have := hP5.cap; omega), show c5 - 1 = 0 by omega] at cE
      exact cE
    · right
      refine ⟨hc1, ?_⟩
      rw [if_neg hc1] at cE
      exact cE
  have CG := Lib.hid cG
  have CM := Lib.hid cM
  have hc5 := hP5.cap
  have hm5 := hP5.max
  have bEnd := Lib.hid bW9
  clear cA cB cC cD cE cG cM Hcl Hof HI HK He9 He9' HL1 HL2 S9 S9' hE hS hT hbox5 hown5 hP5 hE0 hS0 hT0 hW0 b0 hsz0 b59 bW9 hb2 u5 hdrop hmore b9 b5 hmf S6 hx
  have q1 : (1 : Int) ≤ (P.length : Int) := by omega
  have q2 : (P.length : Int) ≤ (c5 : Int) := by omega
  rcases hor with ⟨rfl, CE⟩ | ⟨hne5, CE⟩
  all_goals
    go_region_held3 (fun w' => Below W9.heap.size W9 w' ∧ w'.cell? ⟨g5, K * 2 + 1, none⟩ = some (.string kx))
        (first | assumption | exact held_on hg9 (by assumption) (by assumption) | exact held_on hg9 (below_drew _) (by assumption) | exact held_on hg9 ((Below.refl _ _).alloc (Nat.le_refl _) _) (by assumption))
        (first
          | (go_at_call 15; with_reducible refine (CA.out _ (by assumption)).mono ?_; rintro e w' ⟨rfl, hb⟩)
          | (go_at_call 17; with_reducible refine (CB.out _ (by assumption)).mono ?_; rintro e w' ⟨rfl, hb⟩)
          | (go_at_call 15; with_reducible refine (CC.out _ (by assumption)).mono ?_; rintro e w' ⟨rfl, hb⟩)
          | (go_at_call 15; with_reducible refine (CD.out _ (by assumption)).mono ?_; rintro e w' ⟨rfl, hb⟩)
          | (go_at_call 15; with_reducible refine (CE.out _ (by assumption)).mono ?_; rintro e w' ⟨rfl, hb⟩)
          | (go_at_call 16; with_reducible refine (CG.out _ (by assumption)).mono ?_; rintro e w' ⟨gC, capC, rfl, hoC, hb⟩)
          | (go_at_call 15; with_reducible refine (CM.out _ _ _ (by assumption) (by assumption)).mono ?_; rintro e w' ⟨rfl, hb⟩)
          | (rw [if_pos (by rfl)]; refine append_step rfl P s W9.heap.size _ _ _ (by omega) rfl rfl (by assumption) (news_on (by assumption)) (held_size (A := ⟨g5, K * 2 + 1, none⟩) (v := .string kx) (by assumption)) ?_; intro gM capM wM hoM hgM hBM; have hM := held_grown hg9 (by assumption) hgM (fun k hk => by injection hk with hk; subst hk; exact hBM))
          | (rw [if_pos (by rfl)]; refine append_step rfl P s W9.heap.size _ _ _ (by omega) rfl rfl (World.ownsRow.alloc (by assumption) _) (news_at _ _) (held_size (A := ⟨g5, K * 2 + 1, none⟩) (v := .string kx) (by assumption)) ?_; intro gM capM wM hoM hgM hBM; have hM := held_grown hg9 (by assumption) hgM (fun k hk => by injection hk with hk; subst hk; exact hBM)))
    all_goals
      have hEnd := bEnd.out _ (held_below (A := ⟨g5, K * 2 + 1, none⟩) (v := .string kx) (by assumption))
      go_wp2_with fail
      go_ret
      exact ⟨rfl, hEnd⟩
end Go.Proofs.YtpenammonkgkaabDoor
