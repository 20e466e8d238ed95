/-
  StoryHonest's walk: of whatever script it answers true.
-/
import Derived.Test.YtnemiobgmdpnmagDoorTelling
import Derived.Test.YtnemiobgmdpnmagDoorPlayedHonest
import Derived.Test.YtnemiobgmdpnmagDoorOfMath
import Derived.Test.YtnemiobgmdpnmagDoorHapClone
import Derived.Deep.LoopGhost
namespace Go.Proofs.YtnemiobgmdpnmagDoor
open Go Go.RowKit

/- A happening of the first book alone, and no fork. -/
def fixX (x : HapB) : HapB := { x with side := 0, kind := if x.kind = 2 then 4 else x.kind }
def mixL (i : Nat) (l : List HapB) : List HapB := (l.take i).map fixX ++ l.drop i
theorem mix_len {i : Nat} {l : List HapB} (h : i ≤ l.length) : (mixL i l).length = l.length := by
  unfold mixL
  rw [List.length_append, List.length_map, List.length_take, List.length_drop]
  omega
theorem mix_end {l : List HapB} {k : Nat} (h : l.length = k) : mixL k l = l.map fixX := by
  unfold mixL
  rw [List.take_of_length_le (by omega), List.drop_of_length_le (by omega), List.append_nil]
theorem mix_at {i : Nat} {l : List HapB} {q : Nat} (hi : i ≤ l.length) (hq : q < l.length) : hapOf (mixL i l) q = if q < i then fixX (hapOf l q) else hapOf l q := by
  unfold hapOf mixL
  simp only [List.getD_eq_getElem?_getD]
  by_cases h : q < i
  · rw [if_pos h, List.getElem?_append_left (by rw [List.length_map, List.length_take]; omega), List.getElem?_map, List.getElem?_take, if_pos h, List.getElem?_eq_getElem hq]
    rfl
  · rw [if_neg h, List.getElem?_append_right (by rw [List.length_map, List.length_take]; omega), List.length_map, List.length_take, List.getElem?_drop]
    congr 2
    omega
theorem fix_wide {x : HapB} (h : WideHap x) : WideHap (fixX x) := by
  obtain ⟨h1, _, h3, h4, h5⟩ := h
  refine ⟨?_, by show (-9223372036854775808 : Int) ≤ 0 ∧ (0 : Int) ≤ 9223372036854775807; omega, h3, h4, h5⟩
  show (-9223372036854775808 : Int) ≤ (if x.kind = 2 then 4 else x.kind) ∧ (if x.kind = 2 then 4 else x.kind) ≤ 9223372036854775807
  split <;> omega
theorem fix_ok {l : List HapB} : ∀ x ∈ l.map fixX, x.side = 0 ∧ x.kind ≠ 2 := by
  intro x hx
  obtain ⟨y, _, rfl⟩ := List.mem_map.1 hx
  refine ⟨rfl, ?_⟩
  show (if y.kind = 2 then (4 : Int) else y.kind) ≠ 2
  split
  · decide
  · assumption
theorem hapIs_step {cur : Array Value} {l : List HapB} {i : Nat} (hi : i < l.length) (h : HapIs cur (mixL i l)) (h2 : (hapOf l i).kind ≠ 2) : HapIs (cur.setIfInBounds (i * 6 + 1) (.int .i64 0)) (mixL (i + 1) l) := by
  have hz : i * 6 + 1 < cur.size := (Array.getElem?_eq_some_iff.1 (h i (by rw [mix_len (by omega)]; exact hi)).2.1).1
  intro q hq
  rw [mix_len (by omega)] at hq
  obtain ⟨x0, x1, x2, x3, x4, x5⟩ := h q (by rw [mix_len (by omega)]; exact hq)
  rw [mix_at (by omega) hq] at x0 x1 x2 x3 x4 x5 ⊢
  simp only [Array.getElem?_setIfInBounds]
  by_cases hqi : q = i
  · subst hqi
    rw [if_neg (Nat.lt_irrefl q)] at x0 x1 x2 x3 x4 x5
    rw [if_pos (Nat.lt_succ_self q)]
    refine ⟨?_, ?_, ?_, ?_, ?_, ?_⟩
    · rw [if_neg (by omega), x0]; unfold fixX; simp only; rw [if_neg h2]
    · rw [if_pos rfl, if_pos hz]; rfl
    · rw [if_neg (by omega)]; exact x2
    · rw [if_neg (by omega)]; exact x3
    · rw [if_neg (by omega)]; exact x4
    · rw [if_neg (by omega)]; exact x5
  · have e : (if q < i + 1 then fixX (hapOf l q) else hapOf l q) = (if q < i then fixX (hapOf l q) else hapOf l q) := by
      by_cases h : q < i
      · rw [if_pos h, if_pos (by omega)]
      · rw [if_neg h, if_neg (by omega)]
    rw [e]
    refine ⟨?_, ?_, ?_, ?_, ?_, ?_⟩ <;> rw [if_neg (by omega)] <;> assumption
theorem hapIs_step2 {cur : Array Value} {l : List HapB} {i : Nat} (hi : i < l.length) (h : HapIs cur (mixL i l)) (h2 : (hapOf l i).kind = 2) : HapIs ((cur.setIfInBounds (i * 6 + 1) (.int .i64 0)).setIfInBounds (i * 6) (.int .i64 4)) (mixL (i + 1) l) := by
  have hz : i * 6 + 1 < cur.size := (Array.getElem?_eq_some_iff.1 (h i (by rw [mix_len (by omega)]; exact hi)).2.1).1
  intro q hq
  rw [mix_len (by omega)] at hq
  obtain ⟨x0, x1, x2, x3, x4, x5⟩ := h q (by rw [mix_len (by omega)]; exact hq)
  rw [mix_at (by omega) hq] at x0 x1 x2 x3 x4 x5 ⊢
  simp only [Array.getElem?_setIfInBounds, Array.size_setIfInBounds]
  by_cases hqi : q = i
  · subst hqi
    rw [if_neg (Nat.lt_irrefl q)] at x0 x1 x2 x3 x4 x5
    rw [if_pos (Nat.lt_succ_self q)]
    refine ⟨?_, ?_, ?_, ?_, ?_, ?_⟩
    · rw [if_pos rfl, if_pos (by omega)]; unfold fixX; simp only; rw [if_pos h2]
    · rw [if_neg (by omega), if_pos rfl, if_pos hz]; rfl
    · rw [if_neg (by omega), if_neg (by omega)]; exact x2
    · rw [if_neg (by omega), if_neg (by omega)]; exact x3
    · rw [if_neg (by omega), if_neg (by omega)]; exact x4
    · rw [if_neg (by omega), if_neg (by omega)]; exact x5
  · have e : (if q < i + 1 then fixX (hapOf l q) else hapOf l q) = (if q < i then fixX (hapOf l q) else hapOf l q) := by
      by_cases h : q < i
      · rw [if_pos h, if_pos (by omega)]
      · rw [if_neg h, if_neg (by omega)]
    rw [e]
    refine ⟨?_, ?_, ?_, ?_, ?_, ?_⟩ <;> rw [if_neg (by omega), if_neg (by omega)] <;> assumption
theorem hap_set_grown (w : World) (B : Nat) {w0 : World} {g : Nat} (hb : Below B w0 w) (hB : B ≤ w.heap.size) (hg : B ≤ g) (j : Nat) (u : Value) : Below B w0 (w.setCell ⟨g, j, none⟩ u) := hb.grown (set_grown w g j u) hB (fun k hk => by injection hk with hk; omega)

set_option maxHeartbeats 16000000 in
set_option maxRecDepth 100000 in
theorem honestStep_any (Y : WB) (a0 : Option Addr) (n0 c0 : Nat) (a1 : Option Addr) (n1 c1 : Nat) (a2 : Option Addr) (n2 c2 : Nat) (b0 : Option Addr) (m0 e0 : Nat) (b1 : Option Addr) (m1 e1 : Nat) (b2 : Option Addr) (m2 e2 : Nat) (xk xs xw xo xe : Int) (xv : ByteArray) (w : World) (hE : Tab w) (hYW : WAt w b0 m0 e0 b1 m1 e1 b2 m2 e2 Y) (hH : Honest Y) :
    Calls Tryd.prog 13 #[.agg #[.slice a0 n0 c0, .slice a1 n1 c1, .slice a2 n2 c2], .agg #[.slice b0 m0 e0, .slice b1 m1 e1, .slice b2 m2 e2], .agg #[.int .i64 xk, .int .i64 xs, .int .i64 xw, .int .i64 xo, .int .i64 xe, .string xv]] w fun e w' => e = .returned (.bool true) ∧ Below w.heap.size w w' := by
  obtain ⟨gY, hh⟩ := hH
  have hl3 := ((worldE_iff Y).1 gY).2.2.1
  obtain rfl : m2 = 3 := by rw [← hYW.l2]; exact hl3
  have ho := fun (k : Nat) (hk : k < 3) w1 hE hW => of_any Y (k : Int) ((0 : Nat) : Int) b0 m0 e0 b1 m1 e1 b2 3 e2 w1 hE hW
  have ho : ∀ (k : Nat) (hk : k < 3) w1 (hE : Tab w1) (hW : WAt w1 b0 m0 e0 b1 m1 e1 b2 3 e2 Y), Calls Tryd.prog 14 #[.agg #[.slice b0 m0 e0, .slice b1 m1 e1, .slice b2 3 e2], .int .i64 (k : Int), .int .i64 0] w1 fun e w2 => e = .returned (.tuple #[.bool true, .int .i64 0]) ∧ Below w1.heap.size w1 w2 := fun k hk w1 hE hW => by
    have h := ho k hk w1 hE hW
    rw [ofE_in gY hk (by decide), ofB_in gY hk (by decide), decide_eq_true (show isOf (sideL Y ((0 : Nat) : Int)) (cliOf Y.cs k) from (hh k hk).1)] at h
    exact h
  have HO := Lib.hid ho
  clear ho
  obtain ⟨q3, q4, q5, _⟩ := boxes3 w (.cells #[.slice a0 n0 c0, .slice a1 n1 c1, .slice a2 n2 c2] 31) (.cells #[.slice b0 m0 e0, .slice b1 m1 e1, .slice b2 3 e2] 31) (.cells #[.int .i64 xk, .int .i64 xs, .int .i64 xw, .int .i64 xo, .int .i64 xe, .string xv] 35)
  have hb0 := below3 w (.cells #[.slice a0 n0 c0, .slice a1 n1 c1, .slice a2 n2 c2] 31) (.cells #[.slice b0 m0 e0, .slice b1 m1 e1, .slice b2 3 e2] 31) (.cells #[.int .i64 xk, .int .i64 xs, .int .i64 xw, .int .i64 xo, .int .i64 xe, .string xv] 35)
  have d4_2 := heap_cell q4 2 _ rfl
  have zc := hYW.e2.cap
  have zm := hYW.e2.max
  rw [hl3] at zc
  go_enter Tryd.func13, Tryd.ntmps13
  go_wp2_with fail
  generalize (((w.alloc (.cells #[.slice a0 n0 c0, .slice a1 n1 c1, .slice a2 n2 c2] 31)).alloc (.cells #[.slice b0 m0 e0, .slice b1 m1 e1, .slice b2 3 e2] 31)).alloc (.cells #[.int .i64 xk, .int .i64 xs, .int .i64 xw, .int .i64 xo, .int .i64 xe, .string xv] 35)) = w0 at q3 q4 q5 hb0 d4_2 ⊢
  go_loopg [14] 3 (fun gh s14 wr => ∃ k : Nat, s14 = .int .i64 (k : Int) ∧ k ≤ 3 ∧ 3 - k ≤ gh ∧ Below w0.heap.size w0 wr)
  case atStart => exact ⟨0, rfl, Nat.zero_le _, by omega, Below.refl _ _⟩
  case round =>
    clear d4_2
    obtain ⟨k, rfl, hk3, hgh, hbr⟩ := hrel
    have hb9 := below_on hb0 hbr
    rcases Nat.lt_or_ge k 3 with hk | hk
    · have q4 := heap_on hbr q4
      obtain ⟨bw, ow, hbw, kw, hcw⟩ := (hYW.on hb9).e2.cells (by omega)
      subst hbw
      obtain ⟨p1, p2, p3, p4⟩ := hcw k (by omega)
      rw [(hh k hk).2] at p4
      clear hcw
      generalize cliOf Y.cs k = cc at p1 p2 p3
      obtain ⟨cn, ca, cb, cf⟩ := cc
      simp only at p1 p2 p3
      have hk1 : (k : Int) < 3 := by omega
      have hbl := (Below.refl wr.heap.size wr).alloc (Nat.le_refl _) (.cells #[.int .i64 cn, .string ca, .string cb, .bool false] 49)
      have q4 := heap_on hbl q4
      have q8 := heap_push wr (.cells #[.int .i64 cn, .string ca, .string cb, .bool false] 49)
      have hbr8 := below_on hbr hbl
      have hb8 := below_on hb9 hbl
      clear hbl
      have d4_0 := heap_cell q4 0 _ rfl
      have d4_1 := heap_cell q4 1 _ rfl
      have d4_2 := heap_cell q4 2 _ rfl
      go_wp2_with fail
      generalize (wr.alloc (.cells #[.int .i64 cn, .string ca, .string cb, .bool false] 49)) = w5 at q4 q8 hbr8 hb8 d4_0 d4_1 d4_2 ⊢
      generalize wr.heap.size = B8 at q8 ⊢
      refine (HO.out k hk w5 (hE.on hb8) (hYW.on hb8)).mono ?_
      rintro e w6 ⟨rfl, hb6⟩
      have q8 := heap_on hb6 q8
      have hbr6 := below_on hbr8 hb6
      clear d4_0 d4_1 d4_2 hb8 hbr8 hb9 hbr p1 p2 p3 p4
      have d8 := heap_cell q8 3 _ rfl
      go_wp2_with fail
      go_roundg (3 - (k + 1))
      case rel => exact ⟨k + 1, by go_num, by omega, by omega, hbr6⟩
      case measure => omega
    · obtain rfl : k = 3 := by omega
      go_wp2_with fail
      go_ret
      exact ⟨rfl, hb9⟩

theorem honest_plays (w : World) (hE : ∀ w1, w.grownBy w1 none → Tab w1) : Plays w none (fun x => x.side = 0 ∧ x.kind ≠ 2) 13 (fun x y z => #[x, y, z]) (fun _ W => Honest W) := by
  refine ⟨honest_new, fun _ _ _ h _ => h, fun _ _ _ _ _ _ _ _ _ _ _ _ _ h _ _ _ => h, fun W x a0 n0 c0 a1 n1 c1 a2 n2 c2 b0 m0 e0 b1 m1 e1 b2 m2 e2 w1 hg hi hok h0 _ hW hY => ?_⟩
  have hH := honest_do hi hok.1 hok.2 h0
  refine (honestStep_any _ a0 n0 c0 a1 n1 c1 a2 n2 c2 b0 m0 e0 b1 m1 e1 b2 m2 e2 x.kind x.side x.who x.other x.e.1 x.e.2 w1 (hE w1 hg) hY hH).mono ?_
  rintro e w2 ⟨he, hb⟩
  exact ⟨he, hH, below_grown hb none, hY.on hb⟩

set_option maxHeartbeats 16000000 in
set_option maxRecDepth 100000 in
theorem storyHonest_walk (l : List HapB) (a : Option Addr) (k c : Nat) (w : World) (hE : Tab w) (hk : l.length = k) (hL : HapsAt w a c l) (hbig : k * 56 ≤ 140737488355328) :
    Calls Tryd.prog 4 #[.slice a k c] w fun e w' => e = .returned (.bool true) ∧ Below w.heap.size w w' := by
  have HBE := Lib.hid (fun (w0 w1 : World) (hg : w0.grownBy w1 none) => (⟨hg.os, hg.tape, hg.output, hg.size, fun k hk => hg.block k hk (fun e => by cases e)⟩ : Below w0.heap.size w0 w1))
  rcases Nat.eq_zero_or_pos k with h0 | h0
  · subst h0
    obtain rfl := List.length_eq_zero_iff.1 hk
    go_enter Tryd.func4, Tryd.ntmps4
    go_wp2_with fail
    refine (clone_haps_zero a c w).mono ?_
    rintro e w1 ⟨a1, rfl, hb1⟩
    go_wp2_with fail
    go_loopg [10] 1 (fun gh s10 wr => s10 = .int .i64 0 ∧ wr = w1)
    case atStart => exact ⟨rfl, rfl⟩
    case round =>
      obtain ⟨rfl, rfl⟩ := hrel
      go_wp2_with fail
      have HLEN : ([].map fixX : List HapB).length = 0 := rfl
      have hL0 : HapsAt wr a1 0 ([].map fixX) := haps_zero _ _ (by omega)
      have hp := played_honest none _ _ ([].map fixX) a1 0 0 wr (honest_plays wr (fun w1 hg => (hE.on hb1).on (HBE.out wr w1 hg))) (fun j hj => by cases hj) (fun w1 hg => (hE.on hb1).on (HBE.out wr w1 hg)) HLEN fix_ok (fun w1 hg => hL0.on (HBE.out wr w1 hg))
      generalize playW newW (([].map fixX).take 60) = P at hp
      refine hp.mono ?_
      rintro e w8 ⟨b0, m0, e0, b1, m1, e1, b2, m2, e2, rfl, _, _, hg⟩
      have hb8 := below_on hb1 (HBE.out _ w8 hg)
      clear hp hg
      have hb9 := hb8.alloc hb8.size (.cells #[.slice b0 m0 e0, .slice b1 m1 e1, .slice b2 m2 e2] 31)
      go_wp2_with fail
      generalize (w8.alloc (.cells #[.slice b0 m0 e0, .slice b1 m1 e1, .slice b2 m2 e2] 31)) = w9 at hb9 ⊢
      refine (telling_any w9 (hE.on hb9)).mono ?_
      rintro e w10 ⟨rfl, hb10⟩
      have hb10 := below_on hb9 hb10
      go_wp2_with fail
      go_ret
      exact ⟨rfl, hb10⟩
  · go_enter Tryd.func4, Tryd.ntmps4
    go_wp2_with fail
    refine (clone_haps l a k c w hk h0 hbig hL).mono ?_
    rintro e w1 ⟨g, cap, rfl, hown, hb1⟩
    obtain ⟨cur, hg, hgg, hkc, hmx, his⟩ := own_haps hown
    have hcapk : (k : Int) ≤ (cap : Int) := by omega
    have hwd := hL.sz
    have hcx : cap ≤ 9223372036854775807 := by unfold maxLen at hmx; omega
    clear hown hL
    go_wp2_with fail
    go_loopg [10] k (fun gh s10 wr => ∃ (i : Nat) (cur : Array Value), s10 = .int .i64 (i : Int) ∧ i ≤ k ∧ k - i ≤ gh ∧ wr.heap[g]? = some (.cells cur 35) ∧ HapIs cur (mixL i l) ∧ Below w.heap.size w wr)
    case atStart => exact ⟨0, cur, rfl, Nat.zero_le _, by omega, hg, his, hb1⟩
    case round =>
      clear hg his hb1
      obtain ⟨i, cur, rfl, hik, hgh, hg, his, hb⟩ := hrel
      rcases Nat.lt_or_ge i k with hlt | hge
      · obtain ⟨x0, x1, _, _, _, _⟩ := his i (by rw [mix_len (by omega)]; omega)
        rw [mix_at (by omega) (by omega), if_neg (Nat.lt_irrefl i)] at x0 x1
        have hs1 := fun h => hapIs_step (i := i) (by omega) his h
        have hs2 := fun h => hapIs_step2 (i := i) (by omega) his h
        generalize hapOf l i = x at x0 x1 hs1 hs2
        obtain ⟨xk, xs, xw, xo, xe⟩ := x
        simp only at x0 x1 hs1 hs2
        have HS1 := Lib.hid hs1
        have HS2 := Lib.hid hs2
        clear hs1 hs2 his
        have d0 := heap_cell hg _ _ x0
        have d1 := heap_cell hg _ _ x1
        have f0 := frozen_of_row wr g (i * 6) _ _ hg
        have f1 := frozen_of_row wr g (i * 6 + 1) _ _ hg
        have hik1 : (i : Int) < (k : Int) := by omega
        have r1 := heap_setCell_same wr g (i * 6 + 1) _ _ (.int .i64 0) hg
        have rb1 := hap_set_grown wr w.heap.size hb hb.size hgg (i * 6 + 1) (.int .i64 0)
        by_cases h2 : xk = 2
        · subst h2
          have r2 := heap_setCell_same _ g (i * 6) _ _ (.int .i64 4) r1
          have rb2 := hap_set_grown _ w.heap.size rb1 rb1.size hgg (i * 6) (.int .i64 4)
          have hs := HS2.out rfl
          have HS := Lib.hid hs
          clear hs HS1 HS2
          have hne : i * 6 + 1 ≠ i * 6 := by omega
          have hne2 : i * 6 ≠ i * 6 + 1 := by omega
          go_wp2_with fail
          go_roundg (k - (i + 1))
          case rel => exact ⟨i + 1, _, by go_num, by omega, by omega, r2, HS.out, rb2⟩
          case measure => omega
        · have zf1 : (xk == 2) = false := by simp only [beq_eq_false_iff_ne, ne_eq]; exact h2
          have hs := HS1.out h2
          have HS := Lib.hid hs
          clear hs HS1 HS2 h2
          have hne : i * 6 + 1 ≠ i * 6 := by omega
          have hne2 : i * 6 ≠ i * 6 + 1 := by omega
          go_wp2_with fail
          go_roundg (k - (i + 1))
          case rel => exact ⟨i + 1, _, by go_num, by omega, by omega, r1, HS.out, rb1⟩
          case measure => omega
      · obtain rfl : i = k := by omega
        rw [mix_end hk] at his
        have HLEN : (l.map fixX).length = i := by rw [List.length_map]; exact hk
        have hL1 : HapsAt wr (some ⟨g, 0, none⟩) cap (l.map fixX) := his.haps hg (by rw [List.length_map]; omega) hmx (fun x hx => by obtain ⟨y, hy, rfl⟩ := List.mem_map.1 hx; exact fix_wide (hwd y hy))
        go_wp2_with fail
        have hp := played_honest none _ _ (l.map fixX) (some ⟨g, 0, none⟩) i cap wr (honest_plays wr (fun w1 hg => (hE.on hb).on (HBE.out wr w1 hg))) (fun j hj => by cases hj) (fun w1 hg => (hE.on hb).on (HBE.out wr w1 hg)) HLEN fix_ok (fun w1 hg => hL1.on (HBE.out wr w1 hg))
        generalize playW newW ((l.map fixX).take 60) = P at hp
        refine hp.mono ?_
        rintro e w8 ⟨b0, m0, e0, b1, m1, e1, b2, m2, e2, rfl, _, _, hg⟩
        have hb8 := below_on hb (HBE.out _ w8 hg)
        clear hp hg
        have hb9 := hb8.alloc hb8.size (.cells #[.slice b0 m0 e0, .slice b1 m1 e1, .slice b2 m2 e2] 31)
        go_wp2_with fail
        generalize (w8.alloc (.cells #[.slice b0 m0 e0, .slice b1 m1 e1, .slice b2 m2 e2] 31)) = w9 at hb9 ⊢
        refine (telling_any w9 (hE.on hb9)).mono ?_
        rintro e w10 ⟨rfl, hb10⟩
        have hb10 := below_on hb9 hb10
        go_wp2_with fail
        go_ret
        exact ⟨rfl, hb10⟩

end Go.Proofs.YtnemiobgmdpnmagDoor
