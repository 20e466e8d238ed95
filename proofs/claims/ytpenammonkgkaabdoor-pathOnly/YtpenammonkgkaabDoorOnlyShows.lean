/-
  The closure of PathOnly: whether steps show the text at its place; and what its steps are when one is put in another's place.
-/
import Derived.Test.YtpenammonkgkaabDoorPathed
import Derived.Test.YtpenammonkgkaabDoorAt
import Derived.Lib.QuietBelow
namespace Go.Proofs.YtpenammonkgkaabDoor
open Go Go.RowKit

theorem pathS_pos {l : List ByteArray} {i : Nat} (h : 2 ≤ l.length) : 0 < (pathS l i).length := by
  rcases Nat.lt_or_ge i (halfN l.length) with hi | hi
  · rw [pathS_low h hi]; simp
  · rw [pathS_high h hi]; simp

/- The three boxes that the closure holds. -/
structure OnlyBox (w : World) (pr pl pi : Nat) (r : ByteArray) (a : Option Addr) (n c I : Nat) : Prop where
  lr : pr < w.heap.size
  ll : pl < w.heap.size
  li : pi < w.heap.size
  root : w.cell? ⟨pr, 0, none⟩ = some (.string r)
  list : w.cell? ⟨pl, 0, none⟩ = some (.slice a n c)
  place : w.cell? ⟨pi, 0, none⟩ = some (.int .i64 (I : Int))
theorem OnlyBox.on {w w' : World} {pr pl pi : Nat} {r : ByteArray} {a : Option Addr} {n c I : Nat} (h : OnlyBox w pr pl pi r a n c I) (hb : Below w.heap.size w w') : OnlyBox w' pr pl pi r a n c I :=
  ⟨Nat.lt_of_lt_of_le h.lr hb.size, Nat.lt_of_lt_of_le h.ll hb.size, Nat.lt_of_lt_of_le h.li hb.size, by rw [hb.cell h.lr]; exact h.root, by rw [hb.cell h.ll]; exact h.list, by rw [hb.cell h.li]; exact h.place⟩

set_option maxRecDepth 100000 in
set_option maxHeartbeats 400000 in
theorem only_shows (l : List ByteArray) (a : Option Addr) (n c I : Nat) (r : ByteArray) (pr pl pi : Nat) (ss : List StepB) (a6 : Option Addr) (m c6 : Nat) (w : World) (hE : Tab w) (hn : l.length = n) (hS : StrsAt w a c l) (hr : rootS l = some r) (hI : I < n) (hB : OnlyBox w pr pl pi r a n c I) (hm : ss.length = m) (hT : StepsAt w a6 c6 ss) :
    Calls Tryd.prog 15 #[.slice a6 m c6, .pointer (some ⟨pr, 0, none⟩), .pointer (some ⟨pl, 0, none⟩), .pointer (some ⟨pi, 0, none⟩)] w fun e w' => e = .returned (.bool (decide (ss = pathS l I))) ∧ Below w.heap.size w w' := by
  have hcap := hS.cap
  have hmax := hS.max
  obtain ⟨b, off, rfl, hlt, hc⟩ := hS.cells (by omega)
  have hcI := hc I (by omega)
  have s1 := show_iff (l := l) (r := r) I (l.getD I ByteArray.empty) ss (by omega) hr
  rw [hn] at s1
  generalize l.getD I ByteArray.empty = t at hcI s1
  have c1 := fun w hE hS => shows_any r n I t ss a6 m c6 w hm hE hS
  have hd : (showE r n I t ss == 0) = decide (ss = pathS l I) := by
    by_cases h : ss = pathS l I
    · rw [s1.2 ⟨rfl, h⟩, decide_eq_true h]; rfl
    · rw [decide_eq_false h]
      simp only [beq_eq_false_iff_ne, ne_eq]
      exact fun h0 => h (s1.1 h0).2
  generalize showE r n I t ss = z at c1 hd
  generalize decide (ss = pathS l I) = bb at hd
  have x1 := fun d os => cell_regrown hB.root d os
  have x2 := fun d os => cell_regrown hB.list d os
  have x3 := fun d os => cell_regrown hB.place d os
  have x4 := fun d os => cell_regrown hcI d os
  have hIc : (I : Int) < (n : Int) := by omega
  have cF := Lib.hid (fun d os => Calls.regrown_of (c1 (Sort.grow (redrawn w d) os) (hE.on (below_regrown w d os)) (hT.on (below_regrown w d os))))
  clear hc hcI hB c1 s1
  go_enter Tryd.func15, Tryd.ntmps15
  go_wp2_with fail
  refine wp_region_quiet_below (by kernel_rfl) (by kernel_rfl) ?_
  repeat (first | go_big_quiet_step (exact cF.out _ _) | quiet_step (exact cF.out _ _))
  refine wpQuiet_nil ?_
  intro _ hw'
  obtain ⟨⟨dq, osq⟩, hw''⟩ := hw'
  subst hw''
  have hbq := below_regrown w dq osq
  clear cF x1 x2 x3 x4
  go_wp2_with fail
  go_ret
  exact ⟨rfl, hbq⟩

/- One step put in another's place. -/
theorem StepsAt.soft {w : World} {g c n base : Nat} {e : TypeId} {l : List StepB} (h : w.ownsRow base e 2 (.slice (some ⟨g, 0, none⟩) n c) n (stepCells l)) (j : Nat) : w.frozen? ⟨g, j, none⟩ = false := by
  rcases h.2 with ⟨he, _⟩ | ⟨g', cap, cur, he, _, hg, _⟩
  · cases he
  · injection he with e1 _ _
    injection e1 with e1
    injection e1 with e1 _ _
    subst e1
    simp [World.frozen?, hg]
theorem StepsAt.seal {w : World} {g c : Nat} {l : List StepB} (h : StepsAt w (some ⟨g, 0, none⟩) c l) (j : Nat) (hj : j < l.length) (s : ByteArray) (hs : s.size ≤ 9223372036854775807) :
    StepsAt (w.setCell ⟨g, j * 2 + 1, none⟩ (.string s)) (some ⟨g, 0, none⟩) c (l.set j ((stepAt l j).1, s)) := by
  obtain ⟨b', off', ha, hlt, hc⟩ := h.cells (by omega)
  injection ha with ha
  injection ha with e1 e2
  subst e1 e2
  refine ⟨by have := h.cap; simpa using this, h.max, fun x hx => ?_, fun _ => ⟨g, 0, rfl, ?_, fun i hi => ?_⟩⟩
  · rcases List.mem_or_eq_of_mem_set hx with hx | rfl
    · exact h.sz x hx
    · exact hs
  · simpa using hlt
  · have hi' : i < l.length := by simpa using hi
    obtain ⟨k1, k2⟩ := hc i hi'
    by_cases hij : i = j
    · subst hij
      have e : stepAt (l.set i ((stepAt l i).1, s)) i = ((stepAt l i).1, s) := by
        simp only [stepAt, List.getD_eq_getElem?_getD, List.getElem?_set_self hi', Option.getD_some]
      rw [e]
      refine ⟨?_, ?_⟩
      · rw [World.cell?_setCell_other _ _ _ _ (by simp only [ne_eq, Addr.mk.injEq]; omega)]; exact k1
      · rw [show 0 + i * 2 + 1 = i * 2 + 1 by omega] at k2 ⊢
        rw [World.cell?_setCell_same _ _ _ k2]
    · have e : stepAt (l.set j ((stepAt l j).1, s)) i = stepAt l i := by
        simp only [stepAt, List.getD_eq_getElem?_getD, List.getElem?_set_ne (Ne.symm hij)]
      rw [e, World.cell?_setCell_other _ _ _ _ (by simp only [ne_eq, Addr.mk.injEq]; omega), World.cell?_setCell_other _ _ _ _ (by simp only [ne_eq, Addr.mk.injEq]; omega)]
      exact ⟨k1, k2⟩
theorem StepsAt.side {w : World} {g c : Nat} {l : List StepB} (h : StepsAt w (some ⟨g, 0, none⟩) c l) (j : Nat) (hj : j < l.length) (s : Bool) :
    StepsAt (w.setCell ⟨g, j * 2, none⟩ (.bool s)) (some ⟨g, 0, none⟩) c (l.set j (s, (stepAt l j).2)) := by
  obtain ⟨b', off', ha, hlt, hc⟩ := h.cells (by omega)
  injection ha with ha
  injection ha with e1 e2
  subst e1 e2
  refine ⟨by have := h.cap; simpa using this, h.max, fun x hx => ?_, fun _ => ⟨g, 0, rfl, ?_, fun i hi => ?_⟩⟩
  · rcases List.mem_or_eq_of_mem_set hx with hx | rfl
    · exact h.sz x hx
    · exact h.sz (stepAt l j) (stepAt_mem hj)
  · simpa using hlt
  · have hi' : i < l.length := by simpa using hi
    obtain ⟨k1, k2⟩ := hc i hi'
    by_cases hij : i = j
    · subst hij
      have e : stepAt (l.set i (s, (stepAt l i).2)) i = (s, (stepAt l i).2) := by
        simp only [stepAt, List.getD_eq_getElem?_getD, List.getElem?_set_self hi', Option.getD_some]
      rw [e]
      refine ⟨?_, ?_⟩
      · rw [show 0 + i * 2 = i * 2 by omega] at k1 ⊢
        rw [World.cell?_setCell_same _ _ _ k1]
      · rw [World.cell?_setCell_other _ _ _ _ (by simp only [ne_eq, Addr.mk.injEq]; omega)]; exact k2
    · have e : stepAt (l.set j (s, (stepAt l j).2)) i = stepAt l i := by
        simp only [stepAt, List.getD_eq_getElem?_getD, List.getElem?_set_ne (Ne.symm hij)]
      rw [e, World.cell?_setCell_other _ _ _ _ (by simp only [ne_eq, Addr.mk.injEq]; omega), World.cell?_setCell_other _ _ _ _ (by simp only [ne_eq, Addr.mk.injEq]; omega)]
      exact ⟨k1, k2⟩
theorem StepsAt.far {w : World} {g c : Nat} {l : List StepB} (h : StepsAt w (some ⟨g, 0, none⟩) c l) {p : Addr} (hp : p.block ≠ g) (u : Value) : StepsAt (w.setCell p u) (some ⟨g, 0, none⟩) c l := by
  refine ⟨h.cap, h.max, h.sz, fun h0 => ?_⟩
  obtain ⟨b', off', ha, hlt, hc⟩ := h.cells h0
  injection ha with ha
  injection ha with e1 e2
  subst e1 e2
  refine ⟨g, 0, rfl, by simpa using hlt, fun i hi => ?_⟩
  rw [World.cell?_setCell_other _ _ _ _ (by intro e; exact hp (by rw [e])), World.cell?_setCell_other _ _ _ _ (by intro e; exact hp (by rw [e]))]
  exact hc i hi

theorem set_eq_self {l : List StepB} {j : Nat} (hj : j < l.length) (x : StepB) : l.set j x = l ↔ x = stepAt l j := by
  have e : l.getD j (false, ByteArray.empty) = l[j] := by rw [List.getD_eq_getElem?_getD, List.getElem?_eq_getElem hj, Option.getD_some]
  unfold stepAt
  rw [e]
  constructor
  · intro h
    have := congrArg (fun m => m[j]?) h
    simp only [List.getElem?_set_self hj, List.getElem?_eq_getElem hj, Option.some.injEq] at this
    exact this
  · rintro rfl
    exact List.set_getElem_self hj
end Go.Proofs.YtpenammonkgkaabDoor
