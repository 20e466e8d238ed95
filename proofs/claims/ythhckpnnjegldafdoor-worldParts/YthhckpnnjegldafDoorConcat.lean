/-
  slices.Grow and slices.Concat at error numbers.
-/
import Derived.Test.YthhckpnnjegldafDoorBlocks
import Derived.Test.YthhckpnnjegldafDoorOwnInts
import Derived.Lib.AppendZerosOnto
import Derived.Shelf.RegionOpenPlain
import Derived.Lib.SliceRun
namespace Go.Proofs.YthhckpnnjegldafDoor
open Go Go.RowKit Go.Lib

theorem infoErr : (Tryd.prog.info? 28).map (fun i => (i.zero, i.size, i.bytes)) = some (some (.int .i64 0), 1, 8) := by kernel_rfl
theorem zero_size (k : Nat) : (Builtin.zeroCells (Value.int .i64 0).cells k).size = k := by
  unfold Builtin.zeroCells
  simp [Value.cells]
set_option maxHeartbeats 4000000 in
set_option maxRecDepth 100000 in
theorem grow_errs (n : Nat) (h0 : 0 < n) (hbig : n ≤ 1000) (w : World) :
    Calls Tryd.prog 38 #[.slice none 0 0, .int .i64 (n : Int)] w fun e w' => ∃ g cap, e = .returned (.slice (some ⟨g, 0, none⟩) 0 cap) ∧ w'.ownsRow w.heap.size 28 1 (.slice (some ⟨g, 0, none⟩) 0 cap) 0 [] ∧ Below w.heap.size w w' := by
  obtain ⟨i0, hi0, hz0, hz1, hz2⟩ := info_parts infoErr
  have h1 : ¬ ((n : Int) < 0) := by omega
  have h4 : (n : Int) > 0 := by omega
  have hold : (Builtin.firstCells i0.size 0 (.slice none 0 0)).run Tryd.prog w.drew = .ok #[] w.drew := run_firstCells_none w.drew i0.size 0 0 0
  have hrz : ∀ ty, (Builtin.append_ #[54, 3] ty #[.slice none 0 0, .int .i64 (n : Int)]).run Tryd.prog w =
      .ok (.slice (some ⟨w.heap.size, 0, none⟩) n (grownCap w n 0 28)) (w.drew.alloc (.cells (#[] ++ Builtin.zeroCells (Value.int .i64 0).cells n ++ Builtin.zeroCells (Value.int .i64 0).cells (grownCap w n 0 28 - n)) 28)) := fun ty => by
    have h := Lib.run_append_grow_zeros w 54 3 ty 28 i0 (.int .i64 0) .i64 .i64 Tryd.underlying54 Tryd.underlying3 hi0 hz0 none 0 0 [] hold n (by omega) (by omega) (by omega) (by omega)
      (by rw [hz2]; omega)
      (by rw [Nat.zero_add]; exact growslice_fits h0 (by rw [hz2]; omega))
    rw [Nat.zero_add] at h
    exact h
  have hGn : n ≤ grownCap w n 0 28 := grownCap_ge w _ _ _
  have hGm := grownCap_le_maxLen w n 0 28 (by unfold maxLen; omega)
  obtain ⟨G, hG⟩ : ∃ G, G = grownCap w n 0 28 := ⟨_, rfl⟩
  rw [← hG] at hrz hGn hGm
  have hG63 : G ≤ 9223372036854775807 := by unfold maxLen at hGm; omega
  clear hold hG
  have hown : ∀ (cur : Array Value), cur.size = G → (w.alloc (.cells cur 28)).drew.ownsRow w.heap.size 28 1 (.slice (some ⟨w.heap.size, 0, none⟩) 0 G) 0 [] := fun cur hc =>
    ⟨rfl, .inr ⟨w.heap.size, G, cur, rfl, Nat.le_refl _, heap_push w _, Nat.zero_le _, hGm, by rw [hc, Nat.mul_one], by simp⟩⟩
  have hsz : (Builtin.zeroCells #[Value.int .i64 0] n ++ Builtin.zeroCells #[Value.int .i64 0] (G - n)).size = G := by
    have e1 := zero_size n
    have e2 := zero_size (G - n)
    rw [Array.size_append, show (Builtin.zeroCells #[Value.int .i64 0] n).size = n from e1, show (Builtin.zeroCells #[Value.int .i64 0] (G - n)).size = G - n from e2]
    omega
  have HO := Lib.hid (hown _ hsz)
  clear hown hsz
  go_enter Tryd.func38, Tryd.ntmps38
  go_wp2_with (at_builtin; refine Lib.wpList_append_run _ rfl _ _ _ _ rfl _ _ rfl rfl _ _ (hrz _) ?_)
  all_goals
    go_ret
    exact ⟨w.heap.size, G, rfl, HO.out, ((Below.refl _ _).alloc (Nat.le_refl _) _).drew⟩
theorem grow_none (w : World) :
    Calls Tryd.prog 38 #[.slice none 0 0, .int .i64 0] w fun e w' => e = .returned (.slice none 0 0) ∧ w = w' := by
  go_enter Tryd.func38, Tryd.ntmps38
  go_wp2_with fail
  go_ret
  exact ⟨rfl, rfl⟩
/- Nothing is appended. -/
theorem run_append_zero {P : Program} {w : World} (base : Nat) (t ty e : TypeId) (i : TypeInfo) (size : Nat) (ht : P.underlying t = some (.slice e)) (hi : P.info? e = some i) (v : Value) (n : Nat) (xs : List Value) (hown : w.ownsRow base e size v n xs) (a : Option Addr) (c : Nat) :
    (Builtin.append_ #[t, t] ty #[v, .slice a 0 c]).run P w = .ok v w := by
  have hl : ∀ (x : Addr), (loadCells x 0).run P w = .ok #[] w := fun x => by simpa using run_loadCells_list (P := P) w x [] (by simp)
  cases a with
  | none =>
    rcases hown.2 with ⟨rfl, rfl⟩ | ⟨g, cap, cur, rfl, _, _, hnc, _⟩
    · simp [Builtin.append_, run_underlying ht, sizeOf, typeInfo, hi, Builtin.lenOf, Builtin.firstCells]
    · simp [Builtin.append_, run_underlying ht, sizeOf, typeInfo, hi, Builtin.lenOf, Builtin.firstCells, hnc, storeCells]
  | some a =>
    rcases hown.2 with ⟨rfl, rfl⟩ | ⟨g, cap, cur, rfl, _, _, hnc, _⟩
    · simp [Builtin.append_, run_underlying ht, sizeOf, typeInfo, hi, Builtin.lenOf, Builtin.firstCells, hl]
    · simp [Builtin.append_, run_underlying ht, sizeOf, typeInfo, hi, Builtin.lenOf, Builtin.firstCells, hnc, storeCells, hl]
/- Numbers are appended to an own slice, however many. -/
theorem append_ints {ops : Array Oper} {rest : List Oper} {o : Oper} {a : Act} {Q : Exit → Act → World → Prop} {w : World} (hgd : o.guard = none) (s x : Operand)
    (ho : o.op = .call { callee := .builtin .append, args := #[s, x], argTypes := #[54, 54] })
    (base : Nat) (v : Value) (n : Nat) (A B : List Int) (hs : a.eval s = v) (hown : w.ownsRow base 28 1 v n (A.map (Value.int .i64)))
    (b : Option Addr) (m c : Nat) (hx : a.eval x = .slice b m c) (hm : B.length = m) (hB : IntsAt w b c B) (hbig : n + m ≤ 1000) (hbase : base ≤ w.heap.size)
    (h : ∀ b' c' w', w'.ownsRow base 28 1 (.slice b' (n + m) c') (n + m) ((A ++ B).map (Value.int .i64)) → w.grownBy w' v.ownBlock → wpList Tryd.prog ops Q rest (a.put o.dst (.slice b' (n + m) c')) w') : wpList Tryd.prog ops Q (o :: rest) a w := by
  obtain ⟨i0, hi0, hz0, hz1, hz2⟩ := info_parts infoErr
  rcases Nat.eq_zero_or_pos m with h0 | h0
  · subst h0
    obtain rfl := List.length_eq_zero_iff.1 hm
    refine wpList_plain hgd fun K hK => ?_
    have hrun := run_append_zero (P := Tryd.prog) (w := w) base 54 o.type 28 i0 1 Tryd.underlying54 hi0 v n _ hown b c
    unfold Oper.wp
    simp [execOp, ho, resolve, invoke, builtin, hs, hx, hrun, Result.andThen]
    obtain ⟨b', c', rfl⟩ : ∃ b' c', v = .slice b' (n + 0) c' := by
      rcases hown.2 with ⟨rfl, rfl⟩ | ⟨g, cap, cur, rfl, _⟩
      · exact ⟨none, 0, rfl⟩
      · exact ⟨_, cap, rfl⟩
    exact hK _ _ (h b' c' w (by simpa using hown) ⟨rfl, rfl, rfl, Nat.le_refl _, fun _ _ _ => rfl⟩)
  · obtain ⟨bl, off, rfl, _, hc⟩ := hB.cells (by omega)
    refine wpList_append_lies _ hgd s x 54 ho base 28 i0 (.int .i64 0) 1 8 Tryd.underlying54 hi0 hz0 hz1 hz2 rfl (by decide) v n _ hs hown ⟨bl, off, none⟩ m c (B.map (Value.int .i64)) hx (by rw [List.length_map]; omega) ?_ ?_ h0 (by unfold maxLen; omega) (by omega) hbase _ rfl ?_
    · intro j u hj
      have hjl : j < B.length := by have := (List.getElem?_eq_some_iff.1 hj).1; rwa [List.length_map] at this
      rw [Addr.add_lit, hc j hjl, ← hj]
      simp [hjl, List.getD_eq_getElem?_getD]
    · intro u hu
      obtain ⟨z, _, rfl⟩ := List.mem_map.1 hu
      rfl
    · intro g cap w' h1 h2 _ _
      exact h _ cap w' (by rw [List.map_append]; exact h1) h2
set_option maxHeartbeats 4000000 in
set_option maxRecDepth 100000 in
theorem concat_errs (A B : List Int) (a : Option Addr) (n c : Nat) (b : Option Addr) (m d : Nat) (g : Nat) (t : TypeId) (w : World) (hA : A.length = n) (hB : B.length = m) (hIA : IntsAt w a c A) (hIB : IntsAt w b d B) (hbig : n + m ≤ 1000) (q : w.heap[g]? = some (.cells #[.slice a n c, .slice b m d] t)) :
    Calls Tryd.prog 19 #[.slice (some ⟨g, 0, none⟩) 2 2] w fun e w' => ∃ a' c', e = .returned (.slice a' (n + m) c') ∧ IntsAt w' a' c' (A ++ B) ∧ Below w.heap.size w w' := by
  have e0 := heap_cell q 0 _ rfl
  have e1 := heap_cell q 1 _ rfl
  have k1 := hIA.cap
  have k2 := hIA.max
  have k3 := hIB.cap
  have k4 := hIB.max
  have hGr : ∃ Q : Ending → World → Prop, Q = (fun e w' => ∃ a0 c0, e = .returned (.slice a0 0 c0) ∧ w'.ownsRow w.heap.size 28 1 (.slice a0 0 c0) 0 (([] : List Int).map (Value.int .i64)) ∧ Below w.heap.size w w') ∧ Calls Tryd.prog 38 #[.slice none 0 0, .int .i64 ((n : Int) + (m : Int))] w Q := by
    refine ⟨_, rfl, ?_⟩
    rcases Nat.eq_zero_or_pos (n + m) with h0 | h0
    · rw [show (n : Int) + (m : Int) = 0 by omega]
      refine (grow_none w).mono ?_
      rintro e w' ⟨rfl, rfl⟩
      exact ⟨none, 0, rfl, World.ownsRow_nil _ _ _ _, Below.refl _ _⟩
    · rw [show (n : Int) + (m : Int) = ((n + m : Nat) : Int) by omega]
      refine (grow_errs (n + m) h0 hbig w).mono ?_
      rintro e w' ⟨g', cap, rfl, ho, hb⟩
      exact ⟨_, cap, rfl, ho, hb⟩
  obtain ⟨Q0, hQ0, hGr⟩ := hGr
  subst hQ0
  have HG := Lib.hid hGr
  clear hGr
  have hz1 : ¬ (n : Int) < 0 := by omega
  have hz2 : ¬ (n : Int) + (m : Int) < 0 := by omega
  go_enter Tryd.func19, Tryd.ntmps19
  go_wp2_with fail
  go_loopg [11, 3] 2 (fun gh s u wr => w = wr ∧ ((s = .int .i64 0 ∧ u = .int .i64 0 ∧ 2 ≤ gh) ∨ (s = .int .i64 1 ∧ u = .int .i64 (n : Int) ∧ 1 ≤ gh) ∨ (s = .int .i64 2 ∧ u = .int .i64 ((n : Int) + (m : Int)))))
  case atStart => exact ⟨rfl, .inl ⟨rfl, rfl, Nat.le_refl _⟩⟩
  case round =>
    obtain ⟨rfl, ⟨rfl, rfl, hg⟩ | ⟨rfl, rfl, hg⟩ | ⟨rfl, rfl⟩⟩ := hrel
    · go_wp2_with fail
      go_roundg 1
      case rel => exact ⟨rfl, .inr (.inl ⟨rfl, by simp, Nat.le_refl _⟩)⟩
      case measure => omega
    · go_wp2_with fail
      go_roundg 0
      case rel => exact ⟨rfl, .inr (.inr ⟨rfl, rfl⟩)⟩
      case measure => omega
    · go_wp2_with fail
      refine HG.out.mono ?_
      rintro e w1 ⟨a0, c0, rfl, hown, hb1⟩
      clear e0 e1 HG
      go_wp2_with fail
      go_loopg [27, 6] 2 (fun gh s u w2 => Below w.heap.size w w2 ∧ ((s = .int .i64 0 ∧ u = .slice a0 0 c0 ∧ 2 ≤ gh ∧ w2 = w1) ∨ (s = .int .i64 1 ∧ 1 ≤ gh ∧ ∃ a' c', u = .slice a' n c' ∧ w2.ownsRow w.heap.size 28 1 (.slice a' n c') n (A.map (Value.int .i64))) ∨ (s = .int .i64 2 ∧ ∃ a' c', u = .slice a' (n + m) c' ∧ w2.ownsRow w.heap.size 28 1 (.slice a' (n + m) c') (n + m) (A.map (Value.int .i64) ++ B.map (Value.int .i64)))))
      case atStart => exact ⟨hb1, .inl ⟨rfl, rfl, Nat.le_refl _, rfl⟩⟩
      case round =>
        obtain ⟨hb, ⟨rfl, rfl, hg, rfl⟩ | ⟨rfl, hg, a', c', rfl, ho⟩ | ⟨rfl, a', c', rfl, ho⟩⟩ := hrel
        · have q1 := heap_on hb q
          have e0 := heap_cell q1 0 _ rfl
          have hle := hb.size
          go_wp2_with (at_builtin; refine append_ints rfl _ _ rfl w.heap.size (.slice a0 0 c0) 0 [] A rfl hown a n c rfl hA (hIA.on hb) (by omega) hle ?_)
          intro b' c' w3 ho3 hg3
          go_wp2_with fail
          go_roundg 1
          case rel => exact ⟨hb.grown hg3 hle (fun j hj => (hown.lt j hj).1), .inr (.inl ⟨rfl, Nat.le_refl _, b', c', rfl, ho3⟩)⟩
          case measure => omega
        · have q1 := heap_on hb q
          have e1 := heap_cell q1 1 _ rfl
          have hle := hb.size
          go_wp2_with (at_builtin; refine append_ints rfl _ _ rfl w.heap.size (.slice a' n c') n A B rfl ho b m d rfl hB (hIB.on hb) (by omega) hle ?_)
          intro b' c2 w3 ho3 hg3
          go_wp2_with fail
          go_roundg 0
          case rel => exact ⟨hb.grown hg3 hle (fun j hj => (ho.lt j hj).1), .inr (.inr ⟨rfl, b', c2, rfl, ho3⟩)⟩
          case measure => omega
        · have hs : ∀ z ∈ A ++ B, -9223372036854775808 ≤ z ∧ z ≤ 9223372036854775807 := by
            intro z hz
            rcases List.mem_append.1 hz with hz | hz
            · exact hIA.sz z hz
            · exact hIB.sz z hz
          rw [← List.map_append] at ho
          obtain ⟨_, hO⟩ := owned_ints ho hs
          go_wp2_with fail
          go_ret
          exact ⟨a', c', rfl, hO, hb⟩
end Go.Proofs.YthhckpnnjegldafDoor
