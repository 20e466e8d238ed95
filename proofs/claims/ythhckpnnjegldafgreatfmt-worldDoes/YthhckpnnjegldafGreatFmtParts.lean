/-
  The document's own reckoning of the parts beside, from above, of a list of which the first ones are known.
-/
import Derived.Test.YthhckpnnjegldafGreatFmtReverse
import Derived.Test.YthhckpnnjegldafGreatFmtRefSmall
import Derived.Test.YthhckpnnjegldafGreatFmtMaths
import Derived.Laws.Rows
namespace Go.Proofs.YthhckpnnjegldafGreatFmt
open Go Go.RowKit Go.Kit Go.Extern.Stop Go.Stop Go.Extern

/- Three results, the one in the middle a row in memory. -/
theorem results_mid {P : Program} {fn : Func} {t p u : Tmp} {ty : TypeId} (h : fn.results = #[.tmp t, .cell p ty, .tmp u]) (tmps : Array Value) (w : World) (g : Nat) (tt : TypeId) (cs : Array Value) (fr : Nat × Nat) (d : TypeDesc)
    (hp : tmps.getD p undef = .pointer (some ⟨g, 0, none⟩)) (hg : w.heap[g]? = some (.cells cs tt fr))
    (hu : P.underlying ty = some d) (hd : (match d with | .struct _ | .array _ _ => true | _ => false) = true) (hi : (P.info? ty).map (·.size) = some cs.size) :
    (results fn tmps).run P w = .ok (.tuple #[tmps.getD t undef, .agg cs, tmps.getD u undef]) w := by
  have hp' : tmps[p]?.getD undef = .pointer (some ⟨g, 0, none⟩) := by simpa using hp
  simp [results, h, hp', asAddr, run_loadVar_row w g tt ty cs fr d hg hu hd hi]

set_option maxRecDepth 100000 in
set_option maxHeartbeats 400000 in
theorem parts_any (m n : Nat) (w : World) (h1 : 1 ≤ m) (hm : m ≤ n) (h24 : n ≤ 24) :
    Calls Tryz.prog 61 #[.int .i64 (m : Int), .int .i64 (n : Int)] w fun e w' => ∃ a c, e = .returned (.tuple #[.slice a (partB 0 n m).length c, .agg #[.int .i64 ((partL 0 n m).1 : Int), .int .i64 ((partL 0 n m).2 : Int)], .bool (partK 0 n m true)]) ∧ w'.ownsRow w.heap.size 106 2 (.slice a (partB 0 n m).length c) (partB 0 n m).length (spanCells (partB 0 n m)) ∧ Below w.heap.size w w' := by
  obtain ⟨i0, hi0, hz0, hz1, hz2⟩ := info_parts infoSpan
  have hlen : (partB 0 n m).length ≤ 23 := by
    have := partB_len n 0 n m (Nat.le_refl _)
    omega
  obtain ⟨S, hS⟩ : ∃ S, S = partB 0 n m := ⟨_, rfl⟩
  obtain ⟨L, hL⟩ : ∃ L, L = partL 0 n m := ⟨_, rfl⟩
  obtain ⟨K, hK⟩ : ∃ K, K = partK 0 n m true := ⟨_, rfl⟩
  rw [← hS] at hlen ⊢
  rw [← hL, ← hK]
  have HS := Lib.hid hS
  have HL := Lib.hid hL
  have HK := Lib.hid hK
  clear hS hL hK
  have hh : (w.alloc (.cells #[.int .i64 0, .int .i64 0] 106)).heap[w.heap.size]? = some (.cells #[.int .i64 0, .int .i64 0] 106) := by show (w.heap.push _)[w.heap.size]? = _; simp
  have q0 : (w.alloc (.cells #[.int .i64 0, .int .i64 0] 106)).cell? ⟨w.heap.size, 0, none⟩ = some (.int .i64 0) := by unfold World.cell?; simp only [hh]; rfl
  have q1 : (w.alloc (.cells #[.int .i64 0, .int .i64 0] 106)).cell? ⟨w.heap.size, 1, none⟩ = some (.int .i64 0) := by unfold World.cell?; simp only [hh]; rfl
  have q2 : (w.alloc (.cells #[.int .i64 0, .int .i64 0] 106)).frozen? ⟨w.heap.size, 0, none⟩ = false := by unfold World.frozen?; simp only [hh]; rfl
  have q3 : (w.alloc (.cells #[.int .i64 0, .int .i64 0] 106)).frozen? ⟨w.heap.size, 1, none⟩ = false := by unfold World.frozen?; simp only [hh]; rfl
  have hb0 : Below w.heap.size w (w.alloc (.cells #[.int .i64 0, .int .i64 0] 106)) := (Below.refl _ _).alloc (Nat.le_refl _) _
  have hs1 : w.heap.size < (w.alloc (.cells #[.int .i64 0, .int .i64 0] 106)).heap.size := by show _ < (w.heap.push _).size; simp
  generalize hW1 : w.alloc (.cells #[.int .i64 0, .int .i64 0] 106) = W1 at hh q0 q1 q2 q3 hb0 hs1
  go_enter Tryz.func61, Tryz.ntmps61
  go_wp2_with fail
  go_loopg [4, 6, 7, 8] n (fun g s4 s6 s7 s8 wr => ∃ (f d t : Nat) (kn : Bool) (acc : List SpanB) (a : Option Addr) (c : Nat), s4 = .slice a acc.length c ∧ s6 = .bool kn ∧ s7 = .int .i64 (f : Int) ∧ s8 = .int .i64 (t : Int) ∧ t = f + d ∧ 1 ≤ d ∧ d ≤ g ∧ t ≤ n ∧ f < m ∧ acc ++ partB f d m = S ∧ partL f d m = L ∧ partK f d m kn = K ∧
    wr.ownsRow W1.heap.size 106 2 (.slice a acc.length c) acc.length (spanCells acc) ∧ Below W1.heap.size W1 wr)
  case atStart => exact ⟨0, n, n, true, [], none, 0, rfl, rfl, rfl, rfl, by omega, by omega, Nat.le_refl _, Nat.le_refl _, by omega, by rw [HS.out]; rfl, by rw [HL.out], by rw [HK.out], World.ownsRow_nil _ _ _ _, Below.refl _ _⟩
  case round =>
    obtain ⟨f, d, t, kn, acc, a, c, rfl, rfl, rfl, rfl, ht, hd1, hdg, htn, hfm, hacc, hl, hk, hown, hb⟩ := hrel
    have hsub : (t : Int) - (f : Int) = (d : Int) := by omega
    have ht2 : t ≤ f + d := by omega
    have ht3 : f + d ≤ t := by omega
    rcases Nat.lt_or_ge m t with hmt | hmt
    · have h2 : 2 ≤ d := by omega
      have hh := halfN_lt h2
      have hp := halfN_pos d
      obtain ⟨mid, hmd⟩ : ∃ mid, mid = f + halfN d := ⟨_, rfl⟩
      have hmid : (f : Int) + (halfN d : Int) = (mid : Int) := by omega
      have hm2 : mid ≤ f + halfN d := by omega
      have hm3 : f + halfN d ≤ mid := by omega
      rcases Nat.lt_or_ge mid m with hhigh | hlow
      · obtain ⟨e1, e2, e3⟩ := part_high (f := f) (n := d) (m := m) h2 (by omega) (by omega) kn
        have hacc' : (acc ++ [(f, mid)]) ++ partB mid (d - halfN d) m = S := by
          rw [← hacc, e1, List.append_assoc, ← hmd]
          rfl
        have hl' : partL mid (d - halfN d) m = L := by rw [← hl, e2, ← hmd]
        have hk' : partK mid (d - halfN d) m false = K := by rw [← hk, e3, ← hmd]
        have hal : acc.length ≤ 22 := by
          have := congrArg List.length hacc'
          simp only [List.length_append, List.length_singleton] at this
          omega
        have Hacc := Lib.hid hacc'
        have Hl := Lib.hid hl'
        have Hk := Lib.hid hk'
        have hcmp : ¬ m ≤ mid := by omega
        clear hacc hacc' hl hl' hk hk' ht hmd e1 e2 e3
        go_wp2_with fail
        refine (halfOf_any d wr h2 (by omega)).mono ?_
        rintro e w4 ⟨rfl, rfl⟩
        go_wp2_with (at_builtin; refine wpList_append_lies _ rfl _ _ 105 rfl W1.heap.size 106 i0 (.agg #[.int .i64 0, .int .i64 0]) 2 16 Tryz.underlying105 hi0 hz0 hz1 hz2 rfl (by decide) _ _ _ rfl (hown.alloc _) ⟨wr.heap.size, 0, none⟩ 1 1 [.int .i64 (f : Int), .int .i64 (mid : Int)] rfl rfl ?c1 ?c2 (by omega) ?c3 ?c4 ?c5 _ rfl ?_)
        case c1 => exact World.news_of_block (cs := #[.int .i64 (f : Int), .int .i64 (mid : Int)]) (t := 106) (fr := (0, 0)) (by show (wr.heap.push _)[wr.heap.size]? = _; simp)
        case c2 => intro u hu; simp only [List.mem_cons, List.not_mem_nil, or_false] at hu; rcases hu with rfl | rfl <;> rfl
        case c3 => unfold maxLen; omega
        case c4 => omega
        case c5 => show _ ≤ (wr.heap.push _).size; rw [Array.size_push]; have := hb.size; omega
        intro g cap w3 hown3 hgrow _ _
        have hb3 := own_below hb hb.size hown (Nat.le_refl _) hgrow
        clear hown hgrow hb
        go_wp2_with fail
        go_roundg (d - halfN d)
        case measure => omega
        case rel =>
          refine ⟨mid, d - halfN d, t, false, acc ++ [(f, mid)], some ⟨g, 0, none⟩, cap, ?_, rfl, rfl, rfl, by omega, by omega, Nat.le_refl _, by omega, by omega, Hacc.out, Hl.out, Hk.out, ?_, hb3⟩
          · rw [List.length_append]; rfl
          · rw [List.length_append, spanCells_app]; exact hown3
      · obtain ⟨e1, e2, e3⟩ := part_low (f := f) (n := d) (m := m) h2 (by omega) (by omega) kn
        have hacc' : (acc ++ [(mid, t)]) ++ partB f (halfN d) m = S := by
          rw [← hacc, e1, List.append_assoc, ← hmd, show f + d = t by omega]
          rfl
        have hl' : partL f (halfN d) m = L := by rw [← hl, e2]
        have hk' : partK f (halfN d) m kn = K := by rw [← hk, e3]
        have hal : acc.length ≤ 22 := by
          have := congrArg List.length hacc'
          simp only [List.length_append, List.length_singleton] at this
          omega
        have Hacc := Lib.hid hacc'
        have Hl := Lib.hid hl'
        have Hk := Lib.hid hk'
        have hcmp : m ≤ mid := by omega
        clear hacc hacc' hl hl' hk hk' ht hmd e1 e2 e3
        go_wp2_with fail
        refine (halfOf_any d wr h2 (by omega)).mono ?_
        rintro e w4 ⟨rfl, rfl⟩
        go_wp2_with (at_builtin; refine wpList_append_lies _ rfl _ _ 105 rfl W1.heap.size 106 i0 (.agg #[.int .i64 0, .int .i64 0]) 2 16 Tryz.underlying105 hi0 hz0 hz1 hz2 rfl (by decide) _ _ _ rfl (hown.alloc _) ⟨wr.heap.size, 0, none⟩ 1 1 [.int .i64 (mid : Int), .int .i64 (t : Int)] rfl rfl ?c1 ?c2 (by omega) ?c3 ?c4 ?c5 _ rfl ?_)
        case c1 => exact World.news_of_block (cs := #[.int .i64 (mid : Int), .int .i64 (t : Int)]) (t := 106) (fr := (0, 0)) (by show (wr.heap.push _)[wr.heap.size]? = _; simp)
        case c2 => intro u hu; simp only [List.mem_cons, List.not_mem_nil, or_false] at hu; rcases hu with rfl | rfl <;> rfl
        case c3 => unfold maxLen; omega
        case c4 => omega
        case c5 => show _ ≤ (wr.heap.push _).size; rw [Array.size_push]; have := hb.size; omega
        intro g cap w3 hown3 hgrow _ _
        have hb3 := own_below hb hb.size hown (Nat.le_refl _) hgrow
        clear hown hgrow hb
        go_wp2_with fail
        go_roundg (halfN d)
        case measure => omega
        case rel =>
          refine ⟨f, halfN d, mid, kn, acc ++ [(mid, t)], some ⟨g, 0, none⟩, cap, ?_, rfl, rfl, rfl, by omega, by omega, Nat.le_refl _, by omega, by omega, Hacc.out, Hl.out, Hk.out, ?_, hb3⟩
          · rw [List.length_append]; rfl
          · rw [List.length_append, spanCells_app]; exact hown3
    · obtain ⟨e1, e2, e3⟩ := part_end (f := f) (n := d) (m := m) (Or.inr (by omega)) kn
      rw [e1, List.append_nil] at hacc
      rw [e2] at hl
      rw [e3] at hk
      subst hacc hl hk
      clear e1 e2 e3
      have htt : (f : Int) + (d : Int) = (t : Int) := by omega
      have p0 : wr.cell? ⟨w.heap.size, 0, none⟩ = some (.int .i64 0) := by rw [hb.cell hs1]; exact q0
      have p1 : wr.cell? ⟨w.heap.size, 1, none⟩ = some (.int .i64 0) := by rw [hb.cell hs1]; exact q1
      have p2 : wr.frozen? ⟨w.heap.size, 0, none⟩ = false := by rw [hb.frozen hs1]; exact q2
      have p3 : wr.frozen? ⟨w.heap.size, 1, none⟩ = false := by rw [hb.frozen hs1]; exact q3
      have Ht := Lib.hid htt
      clear ht htt q0 q1 q2 q3
      have hh2 : wr.heap[w.heap.size]? = some (.cells #[.int .i64 0, .int .i64 0] 106) := by rw [hb.block _ hs1]; exact hh
      have hh3 := heap_setCell_same wr w.heap.size 0 _ _ (.int .i64 (f : Int)) hh2
      have hh4 := heap_setCell_same _ w.heap.size 1 _ _ (.int .i64 (t : Int)) hh3
      have hbE : Below w.heap.size w ((wr.setCell ⟨w.heap.size, 0, none⟩ (.int .i64 (f : Int))).setCell ⟨w.heap.size, 1, none⟩ (.int .i64 (t : Int))) :=
        ((hb0.trans (hb.mono (Nat.le_of_lt hs1))).setCell (Nat.le_refl _) _).setCell (Nat.le_refl _) _
      have hownE := ownsRow_setCell_below (ownsRow_setCell_below hown (a := ⟨w.heap.size, 0, none⟩) hs1 (.int .i64 (f : Int))) (a := ⟨w.heap.size, 1, none⟩) hs1 (.int .i64 (t : Int))
      have hownE := hownE.mono (Nat.le_of_lt hs1)
      clear hh2 hh3 hown hb
      go_wp2_with fail
      refine bodyPost_ret (results_mid rfl _ _ w.heap.size _ _ _ _ rfl hh4 Tryz.underlying106 rfl rfl) rfl ?_
      exact ⟨a, c, by rw [Ht.out]; rfl, hownE, hbE⟩
end Go.Proofs.YthhckpnnjegldafGreatFmt
