/-
  Chapter 5's seals as the document's own reckoning has them: row by row from below.
-/
import Derived.Test.YtnemiobgmdpnmagGreatFmtRefMap
import Derived.Test.YtnemiobgmdpnmagGreatFmtMaths
import Derived.Lib.QuietBelow
namespace Go.Proofs.YtnemiobgmdpnmagGreatFmt
open Go Go.RowKit Go.Maps Go.Kit Go.Extern.Stop Go.Stop Go.Extern

theorem infoSl : (Tryz.prog.info? 60).map (fun i => (i.zero, i.size, i.bytes)) = some (some (.slice none 0 0), 1, 24) := by kernel_rfl

theorem StrsAt.grown {w w' : World} {a : Option Addr} {c : Nat} {l : List ByteArray} {row : Option Nat} (h : StrsAt w a c l) (hg : w.grownBy w' row) (hne : ∀ b off, a = some ⟨b, off, none⟩ → row ≠ some b) : StrsAt w' a c l := by
  refine ⟨h.cap, h.max, h.sz, fun hp => ?_⟩
  obtain ⟨b, off, ha, hlt, hc⟩ := h.cells hp
  refine ⟨b, off, ha, Nat.lt_of_lt_of_le hlt hg.size, fun i hi => ?_⟩
  rw [World.cell?_of_block (w := w) (hg.block b hlt (fun e => hne b off ha e.symm))]
  exact hc i hi

/- A row among others: in no block of theirs. -/
def RowIs (w : World) (g : Nat) (v : Value) (l : List ByteArray) : Prop := ∃ a c, v = .slice a l.length c ∧ StrsAt w a c l ∧ ∀ b off, a = some ⟨b, off, none⟩ → b ≠ g
theorem RowIs.on {w w' : World} {g : Nat} {v : Value} {l : List ByteArray} (h : RowIs w g v l) (hb : Below w.heap.size w w') : RowIs w' g v l := by
  obtain ⟨a, c, e, hS, hn⟩ := h
  exact ⟨a, c, e, hS.on hb, hn⟩
theorem RowIs.next {w w' : World} {g g' : Nat} {v : Value} {l : List ByteArray} (h : RowIs w g v l) (hl : 0 < l.length) (hg : w.grownBy w' (some g)) (hg' : some g = some g' ∨ w.heap.size ≤ g') : RowIs w' g' v l := by
  obtain ⟨a, c, e, hS, hn⟩ := h
  refine ⟨a, c, e, hS.grown hg (fun b off ha e => hn b off ha (by injection e with e; exact e.symm)), fun b off ha => ?_⟩
  rcases hg' with h1 | h1
  · injection h1 with h1
    rw [← h1]; exact hn b off ha
  · obtain ⟨b', off', ha', hlt, _⟩ := hS.cells hl
    rw [ha] at ha'
    injection ha' with ha'
    injection ha' with e1 _
    omega

structure OutAt (w : World) (B g n cap : Nat) (vs : List Value) (f : Nat → Option ByteArray) : Prop where
  own : w.ownsRow B 60 1 (.slice (some ⟨g, 0, none⟩) n cap) n vs
  len : vs.length = n
  rows : ∀ i, i < n → RowIs w g (vs.getD i undef) (rowT f i)
theorem OutAt.on {w w' : World} {B g n cap : Nat} {vs : List Value} {f : Nat → Option ByteArray} (h : OutAt w B g n cap vs f) (hb : Below w.heap.size w w') : OutAt w' B g n cap vs f :=
  ⟨owns_on h.own hb, h.len, fun i hi => (h.rows i hi).on hb⟩

theorem owned_block {w : World} {base : Nat} {e : TypeId} {size n : Nat} {a : Option Addr} {c : Nat} {xs : List Value} (h : w.ownsRow base e size (.slice a n c) n xs) (hn : 0 < n) : ∃ g, a = some ⟨g, 0, none⟩ ∧ base ≤ g ∧ g < w.heap.size := by
  rcases h.2 with ⟨he, h0⟩ | ⟨g, cap, cur, he, hb, hg, _⟩
  · omega
  · injection he with e1 _ _
    refine ⟨g, e1, hb, ?_⟩
    refine Classical.byContradiction fun hn => ?_
    rw [Array.getElem?_eq_none (by omega)] at hg
    cases hg
theorem owned_cell {w : World} {base : Nat} {e : TypeId} {n g c : Nat} {xs : List Value} (h : w.ownsRow base e 1 (.slice (some ⟨g, 0, none⟩) n c) n xs) (hl : xs.length = n) : n ≤ c ∧ c ≤ 9223372036854775807 ∧ ∀ i, i < n → w.cell? ⟨g, i, none⟩ = some (xs.getD i undef) := by
  rcases h.2 with ⟨he, h0⟩ | ⟨g', cap, cur, he, hb, hg, hnc, hm, hsz, hcur⟩
  · cases he
  · injection he with e1 e2 e3
    injection e1 with e1
    injection e1 with e1 _ _
    subst e1 e3
    refine ⟨hnc, hm, fun i hi => ?_⟩
    unfold World.cell?
    simp only [hg]
    have e1 : cur[i]? = xs[i]? := by
      rw [← hcur, List.getElem?_take, if_pos (by omega), Array.getElem?_toList]
    simp [e1, hl, hi, List.getD_eq_getElem?_getD]

set_option maxHeartbeats 2000000 in
set_option maxRecDepth 100000 in
theorem mapRoots_ok (I : Interp) (p : Option Nat) (D : DataW Unit) (w : World) (hF : I.told.answers w.tape) (hM : MapAt w p D) (hG : GoodMap D) :
    Calls Tryz.prog 20 #[.map p] w fun e w' => ∃ g cap vs, e = .returned (.slice (some ⟨g, 0, none⟩) 5 cap) ∧ OutAt w' w.heap.size g 5 cap vs (valN D) ∧ Below w.heap.size w w' := by
  have hf := hG.short
  have hfD : ∀ k : Nat, slotT (valN D k) = if (valD D k).isSome then leafS (valS D k) else ⟨#[69]⟩ := by
    intro k
    show slotT (valD D k) = _
    cases h : valD D (k : Nat) with
    | none => rw [if_neg (by simp)]; show noneS = _; decide +kernel
    | some s => rw [valD_some h]; rfl
  have hvs : ∀ k : Nat, (valS D k).size ≤ 12 := by
    intro k
    cases h : valD D (k : Nat) with
    | none => rw [valD_none h]; decide
    | some s => rw [valD_some h]; exact hf k s h
  have h0 : ∀ i, trieT (valN D) 0 i = slotT (valN D i) := fun i => rfl
  generalize valN D = f at *
  have h313 := fun d (hd : d ≤ 4) => rowT_313 hf hd
  have hn313 := fun d i (hd : d ≤ 4) => trieT_313 hf (d := d) i hd
  have H313 := Lib.hid h313
  have HN313 := Lib.hid hn313
  have HFD := Lib.hid hfD
  have HVS := Lib.hid hvs
  have H0 := Lib.hid h0
  clear h313 hn313 hf hG hfD hvs h0
  obtain ⟨i0, hi0, hz0, hz1, hz2⟩ := info_parts infoText
  obtain ⟨j0, hj0, hy0, hy1, hy2⟩ := info_parts infoSl
  go_enter Tryz.func20, Tryz.ntmps20
  go_wp2_with fail
  go_loopg [3, 13] 16 (fun gh s3 s13 wr => ∃ (i : Nat) (a : Option Addr) (c : Nat), s13 = .int .i64 (i : Int) ∧ s3 = .slice a i c ∧ i ≤ 16 ∧ 16 - i ≤ gh ∧ wr.ownsRow w.heap.size 9 1 (.slice a i c) i (((rowT f 0).take i).map Value.string) ∧ Below w.heap.size w wr)
  case atStart => exact ⟨0, none, 0, rfl, rfl, Nat.zero_le _, by omega, World.ownsRow_nil _ _ _ _, Below.refl _ _⟩
  case round =>
    obtain ⟨i, a, c, rfl, rfl, hi, hgh, hown, hb⟩ := hrel
    rcases Nat.lt_or_ge i 16 with hlt | hge
    · have hlt' : (i : Int) < 16 := by omega
      have hMr := hM.on hb
      have htk := rowT_take f (d := 0) (i := i) (by simpa using hlt)
      rw [H0.out, HFD.out] at htk
      have hsz := HVS.out i
      cases hs : (valD D (i : Int)).isSome
      · rw [hs, if_neg (by simp)] at htk
        have HT := Lib.hid htk
        clear htk hsz
        go_wp2_with (first
          | (at_lookup; refine wpList_look _ rfl _ _ rfl p D rfl hMr (i : Int) rfl (by omega) (by omega) ?_; rw [hs])
          | (at_builtin; refine wpList_append_lies _ rfl _ _ 60 rfl w.heap.size 9 i0 (.string ⟨#[]⟩) 1 16 Tryz.underlying60 hi0 hz0 hz1 hz2 rfl (by decide) _ _ _ rfl (hown.alloc _) ⟨wr.heap.size, 0, none⟩ 1 1 [.string ⟨#[69]⟩] rfl rfl ?c1 ?c2 (by omega) ?c3 ?c4 ?c5 _ rfl ?_))
        case c1 => exact World.news_of_block (cs := #[.string ⟨#[69]⟩]) (t := 9) (fr := (0, 0)) (by show (wr.heap.push _)[wr.heap.size]? = _; simp)
        case c2 => first | (intro u hu; rw [List.mem_singleton.1 hu]; rfl) | rfl | simp [Value.oneCell']
        case c3 => unfold maxLen; omega
        case c4 => omega
        case c5 => have := hb.size; first | omega | (show _ ≤ (wr.heap.push _).size; rw [Array.size_push]; omega)
        intro g' cap' w2 hown2 hgrow _ _
        have hb2 := own_below hb hb.size hown (Nat.le_refl _) hgrow
        go_wp2_with fail
        go_roundg (16 - (i + 1))
        case rel => exact ⟨i + 1, some ⟨g', 0, none⟩, cap', by go_num, rfl, by omega, by omega, by rw [HT.out, List.map_append, List.map_take]; exact hown2, hb2⟩
        case measure => omega
      · rw [hs, if_pos rfl] at htk
        have hlo := leafOf_any (valS D (i : Int)) wr (by omega)
        rw [(leaf_pos (s := valS D (i : Int)) (by omega)).1, (leaf_pos (s := valS D (i : Int)) (by omega)).2] at hlo
        generalize leafS (valS D (i : Int)) = lf at *
        have HT := Lib.hid htk
        have HL := Lib.hid hlo
        clear htk hsz hlo
        go_wp2_with (at_lookup; refine wpList_look _ rfl _ _ rfl p D rfl hMr (i : Int) rfl (by omega) (by omega) ?_; rw [hs])
        refine HL.out.mono ?_
        rintro e w1 ⟨rfl, rfl⟩
        go_wp2_with (at_builtin; refine wpList_append_lies _ rfl _ _ 60 rfl w.heap.size 9 i0 (.string ⟨#[]⟩) 1 16 Tryz.underlying60 hi0 hz0 hz1 hz2 rfl (by decide) _ _ _ rfl (hown.alloc _) ⟨wr.heap.size, 0, none⟩ 1 1 [.string lf] rfl rfl ?c1 ?c2 (by omega) ?c3 ?c4 ?c5 _ rfl ?_)
        case c1 => exact World.news_of_block (cs := #[.string lf]) (t := 9) (fr := (0, 0)) (by show (wr.heap.push _)[wr.heap.size]? = _; simp)
        case c2 => first | (intro u hu; rw [List.mem_singleton.1 hu]; rfl) | rfl | simp [Value.oneCell']
        case c3 => unfold maxLen; omega
        case c4 => omega
        case c5 => have := hb.size; first | omega | (show _ ≤ (wr.heap.push _).size; rw [Array.size_push]; omega)
        intro g' cap' w2 hown2 hgrow _ _
        have hb2 := own_below hb hb.size hown (Nat.le_refl _) hgrow
        go_wp2_with fail
        go_roundg (16 - (i + 1))
        case rel => exact ⟨i + 1, some ⟨g', 0, none⟩, cap', by go_num, rfl, by omega, by omega, by rw [HT.out, List.map_append, List.map_take]; exact hown2, hb2⟩
        case measure => omega
    · obtain rfl : i = 16 := by omega
      have hl0 := rowT_len f 0
      rw [show (rowT f 0).take 16 = rowT f 0 from List.take_of_length_le (by rw [hl0]; decide)] at hown
      obtain ⟨_, hS0⟩ := owned_strs hown (fun s hs => by have := H313.out 0 (by omega) s hs; omega)
      obtain ⟨g0, rfl, _, hg0⟩ := owned_block hown (by omega)
      have hb1 : Below w.heap.size w (wr.alloc (.cells #[.slice (some ⟨g0, 0, none⟩) 16 c] 60)) := hb.alloc hb.size _
      have hO : OutAt (wr.alloc (.cells #[.slice (some ⟨g0, 0, none⟩) 16 c] 60)) w.heap.size wr.heap.size 1 1 [.slice (some ⟨g0, 0, none⟩) 16 c] f := by
        refine ⟨⟨rfl, .inr ⟨wr.heap.size, 1, #[.slice (some ⟨g0, 0, none⟩) 16 c], rfl, hb.size, ?_, Nat.le_refl _, by unfold maxLen; omega, rfl, rfl⟩⟩, rfl, fun i hi => ?_⟩
        · show (wr.heap.push _)[wr.heap.size]? = _
          simp
        · obtain rfl : i = 0 := by omega
          refine ⟨some ⟨g0, 0, none⟩, c, by rw [hl0]; rfl, hS0.on ((Below.refl _ _).alloc (Nat.le_refl _) _), fun b off e => ?_⟩
          injection e with e
          injection e with e _
          omega
      have hS1 : StrsAt (wr.alloc (.cells #[.slice (some ⟨g0, 0, none⟩) 16 c] 60)) (some ⟨g0, 0, none⟩) c (rowT f 0) := hS0.on ((Below.refl _ _).alloc (Nat.le_refl _) _)
      clear hown hS0 hM
      go_wp2_with fail
      generalize wr.alloc (.cells #[.slice (some ⟨g0, 0, none⟩) 16 c] 60) = w1 at *
      generalize wr.heap.size = gs at *
      clear hb hg0
      go_loopg [3, 8] 4 (fun gh s3 s8 wx => ∃ (d : Nat) (a : Option Addr) (c g cap : Nat) (vs : List Value), s3 = .slice a (2 ^ (4 - d)) c ∧ s8 = .slice (some ⟨g, 0, none⟩) (d + 1) cap ∧ d ≤ 4 ∧ 4 - d ≤ gh ∧ StrsAt wx a c (rowT f d) ∧ OutAt wx w.heap.size g (d + 1) cap vs f ∧ Below w.heap.size w wx)
      case atStart => exact ⟨0, some ⟨g0, 0, none⟩, c, gs, 1, _, rfl, rfl, Nat.zero_le _, by omega, hS1, hO, hb1⟩
      case round =>
        obtain ⟨d, a2, c2, g, cap, vs, rfl, rfl, hd, hgh2, hS, hO2, hb2⟩ := hrel
        rename World => wx
        clear hS1 hO hb1
        rcases Nat.lt_or_ge d 4 with h4 | h4
        · have hhalf := row_half h4
          have hld := rowT_len f d
          have hlu := rowT_len f (d + 1)
          have hpos : 0 < 2 ^ (4 - (d + 1)) := Nat.pos_of_ne_zero (by simp)
          have h8 : 2 ^ (4 - (d + 1)) ≤ 8 := by
            match d, h4 with
            | 0, _ => decide
            | 1, _ => decide
            | 2, _ => decide
            | 3, _ => decide
          have hrow := fun j (h : j < 2 * 2 ^ (4 - (d + 1))) => rowT_getD f (d := d) (i := j) (by rw [hhalf]; exact h)
          have hup := fun j (h : j < 2 ^ (4 - (d + 1))) => rowT_take f (d := d + 1) (i := j) h
          have hup313 := H313.out (d + 1) (by omega)
          have hS' := hS
          rw [hhalf] at hld ⊢
          have HUP := Lib.hid hup
          have HROW := Lib.hid hrow
          have HU313 := Lib.hid hup313
          generalize hh : 2 ^ (4 - (d + 1)) = h at *
          have HH := Lib.hid hh
          clear hh
          clear hup hrow hup313 hhalf
          have hq1 : ¬ ((2 * h : Nat) : Int) ≤ 1 := by omega
          have hq1' : (1 : Int) < ((2 * h : Nat) : Int) := by omega
          have hcap := hS.cap
          have hmax := hS.max
          obtain ⟨b2, off2, rfl, hltb, hcl⟩ := hS.cells (by omega)
          have HCL := Lib.hid hcl
          clear hcl hS
          go_wp2_with fail
          go_loopg [9, 10] h (fun gh s9 s10 wy => ∃ (i : Nat) (a : Option Addr) (c : Nat), s10 = .int .i64 ((2 * i : Nat) : Int) ∧ s9 = .slice a i c ∧ i ≤ h ∧ h - i ≤ gh ∧ wy.ownsRow wx.heap.size 9 1 (.slice a i c) i (((rowT f (d + 1)).take i).map Value.string) ∧ Below wx.heap.size wx wy)
          case atStart => exact ⟨0, none, 0, rfl, rfl, Nat.zero_le _, by omega, World.ownsRow_nil _ _ _ _, Below.refl _ _⟩
          case round =>
            obtain ⟨i, a3, c3, rfl, rfl, hi3, hgh3, hown3, hb3⟩ := hrel
            rename World => wy
            rcases Nat.lt_or_ge i h with hih | hih
            · have hc1 := HCL.out (2 * i) (by omega)
              have hc2 := HCL.out (2 * i + 1) (by omega)
              rw [HROW.out (2 * i) (by omega), ← hb3.cell hltb] at hc1
              rw [HROW.out (2 * i + 1) (by omega), ← hb3.cell hltb] at hc2
              have s1 := HN313.out d (2 * i) (by omega)
              have s2 := HN313.out d (2 * i + 1) (by omega)
              have htk := HUP.out i hih
              change _ = _ ++ [nodeS (trieT f d (2 * i)) (trieT f d (2 * i + 1))] at htk
              have hnode := fun w' hF => nodeOf_any I (trieT f d (2 * i)) (trieT f d (2 * i + 1)) w' hF (by omega) (by omega)
              rw [(node_pos (a := trieT f d (2 * i)) (b := trieT f d (2 * i + 1)) (by omega)).1, (node_pos (a := trieT f d (2 * i)) (b := trieT f d (2 * i + 1)) (by omega)).2] at hnode
              generalize nodeS (trieT f d (2 * i)) (trieT f d (2 * i + 1)) = nz at *
              generalize trieT f d (2 * i) = tx at *
              generalize trieT f d (2 * i + 1) = ty at *
              have HT := Lib.hid htk
              have hFy : I.told.answers wy.tape := by rw [hb3.tape, hb2.tape]; exact hF
              have cF := Lib.hid (fun dd os => Calls.regrown_of (hnode (Sort.grow (redrawn wy dd) os) (by rw [(below_regrown wy dd os).tape]; exact hFy)))
              obtain ⟨q, hq⟩ : ∃ q, q = 2 * i := ⟨_, rfl⟩
              have hql : q + 1 < 2 * h := by omega
              rw [← hq] at hc1 hc2 ⊢
              have Hq := Lib.hid hq
              have x1 := fun dd os => cell_regrown hc1 dd os
              have x2 := fun dd os => cell_regrown hc2 dd os
              rw [show off2 + (q + 1) = off2 + q + 1 by omega] at hc2
              have x3 := fun dd os => cell_regrown hc2 dd os
              have y1 : (q : Int) < ((2 * h : Nat) : Int) := by omega
              have y2 : (q : Int) + 1 < ((2 * h : Nat) : Int) := by omega
              have y3 : (0 : Int) ≤ (q : Int) + 1 := by omega
              clear hc1 hc2 htk hnode hq HROW HCL
              generalize 2 * h = n2 at *
              go_wp2_with fail
              refine wp_region_quiet_below (by kernel_rfl) (by kernel_rfl) ?_
              repeat (first | go_big_quiet_step (exact cF.out _ _) | quiet_step (exact cF.out _ _))
              refine wpQuiet_nil ?_
              intro _ hw'
              obtain ⟨⟨dq, osq⟩, hw''⟩ := hw'
              subst hw''
              have hbq := below_regrown wy dq osq
              have hown4 := owns_on hown3 hbq
              have hb4 := below_on hb3 hbq
              generalize Sort.grow (redrawn wy dq) osq = w5 at *
              clear cF x1 x2 x3 hbq hown3 hb3
              go_wp2_with (at_builtin; refine wpList_append_lies _ rfl _ _ 60 rfl wx.heap.size 9 i0 (.string ⟨#[]⟩) 1 16 Tryz.underlying60 hi0 hz0 hz1 hz2 rfl (by decide) _ _ _ rfl (hown4.alloc _) ⟨w5.heap.size, 0, none⟩ 1 1 [.string nz] rfl rfl ?c1 ?c2 (by omega) ?c3 ?c4 ?c5 _ rfl ?_)
              case c1 => exact World.news_of_block (cs := #[.string nz]) (t := 9) (fr := (0, 0)) (by show (w5.heap.push _)[w5.heap.size]? = _; simp)
              case c2 => first | (intro u hu; rw [List.mem_singleton.1 hu]; rfl) | rfl | simp [Value.oneCell']
              case c3 => unfold maxLen; omega
              case c4 => omega
              case c5 => have := hb4.size; first | omega | (show _ ≤ (w5.heap.push _).size; rw [Array.size_push]; omega)
              intro g6 cap6 w6 hown6 hgrow _ _
              have hb6 := own_below hb4 hb4.size hown4 (Nat.le_refl _) hgrow
              go_wp2_with fail
              go_roundg (h - (i + 1))
              case rel => exact ⟨i + 1, some ⟨g6, 0, none⟩, cap6, by have := Hq.out; subst this; go_num, rfl, by omega, by omega, by rw [HT.out, List.map_append, List.map_take]; exact hown6, hb6⟩
              case measure => omega
            · obtain rfl : i = h := by omega
              rw [show (rowT f (d + 1)).take i = rowT f (d + 1) from List.take_of_length_le (by omega)] at hown3
              obtain ⟨_, hSu⟩ := owned_strs hown3 (fun s hs => by have := HU313.out s hs; omega)
              obtain ⟨gu, rfl, hgu1, hgu2⟩ := owned_block hown3 hpos
              obtain ⟨g', hg', _, hgx⟩ := owned_block hO2.own (by omega)
              obtain rfl : g = g' := by injection hg' with hg'; injection hg'
              have hO3 := hO2.on hb3
              have hb4 := below_on hb2 hb3
              have hq2 : ¬ ((2 * i : Nat) : Int) < ((2 * i : Nat) : Int) := by omega
              clear hown3 hO2 hb2 hb3 hg' HCL HROW HUP
              go_wp2_with (at_builtin; refine wpList_append_lies _ rfl _ _ 62 rfl w.heap.size 60 j0 (.slice none 0 0) 1 24 Tryz.underlying62 hj0 hy0 hy1 hy2 rfl (by decide) _ _ _ rfl (hO3.own.alloc _) ⟨wy.heap.size, 0, none⟩ 1 1 [.slice (some ⟨gu, 0, none⟩) i c3] rfl rfl ?c1 ?c2 (by omega) ?c3 ?c4 ?c5 _ rfl ?_)
              case c2 => first | (intro u hu; rw [List.mem_singleton.1 hu]; rfl) | rfl | simp [Value.oneCell']
              case c3 => unfold maxLen; omega
              case c4 => omega
              case c5 => have := hb4.size; first | omega | (show _ ≤ (wy.heap.push _).size; rw [Array.size_push]; omega)
              intro g5 cap5 w5 hown5 hgrow hat _
              have hb5 := own_below hb4 hb4.size hO3.own (Nat.le_refl _) hgrow
              have hnew : some g = some g5 ∨ (wy.alloc (.cells #[.slice (some ⟨gu, 0, none⟩) i c3] 60)).heap.size ≤ g5 := by
                rcases hat with h1 | h1
                · exact .inl h1
                · right
                  show (wy.heap.push _).size ≤ g5
                  rw [Array.size_push]; omega
              have hal : Below wy.heap.size wy (wy.alloc (.cells #[.slice (some ⟨gu, 0, none⟩) i c3] 60)) := (Below.refl _ _).alloc (Nat.le_refl _) _
              have hpw : ∀ m, 0 < (rowT f m).length := fun m => by rw [rowT_len]; exact Nat.pos_of_ne_zero (by simp)
              have hru : RowIs w5 g5 (.slice (some ⟨gu, 0, none⟩) i c3) (rowT f (d + 1)) := by
                refine RowIs.next (g := g) ⟨some ⟨gu, 0, none⟩, c3, by rw [hlu], hSu.on hal, fun b off e => ?_⟩ (hpw _) hgrow hnew
                injection e with e
                injection e with e _
                omega
              have hS5 : StrsAt w5 (some ⟨gu, 0, none⟩) c3 (rowT f (d + 1)) := by
                obtain ⟨aa, cc, e, hh, _⟩ := hru
                injection e with e1 _ e3
                rw [e1, e3]; exact hh
              have hO5 : OutAt w5 w.heap.size g5 (d + 1 + 1) cap5 (vs ++ [.slice (some ⟨gu, 0, none⟩) i c3]) f := by
                have hvl := hO3.len
                refine ⟨hown5, by rw [List.length_append, hvl]; rfl, fun m hm => ?_⟩
                rcases Nat.lt_or_ge m (d + 1) with hm1 | hm1
                · rw [List.getD_eq_getElem?_getD, List.getElem?_append_left (by omega), ← List.getD_eq_getElem?_getD]
                  exact ((hO3.rows m hm1).on hal).next (hpw m) hgrow hnew
                · obtain rfl : m = d + 1 := by omega
                  rw [List.getD_eq_getElem?_getD, List.getElem?_append_right (by omega), hvl, Nat.sub_self]
                  exact hru
              have hHH := HH.out
              clear hgrow hnew hal hown5 hat hru hO3 hSu hb4
              go_wp2_with fail
              go_roundg (4 - (d + 1))
              case rel => exact ⟨d + 1, some ⟨gu, 0, none⟩, c3, g5, cap5, _, by rw [hHH], rfl, by omega, by omega, hS5, hO5, hb5⟩
              case measure => omega
        · obtain rfl : d = 4 := by omega
          go_wp2_with fail
          go_ret
          exact ⟨g, cap, vs, rfl, hO2, hb2⟩
end Go.Proofs.YtnemiobgmdpnmagGreatFmt
