/-
  Chapter 5's Path as the document's own reckoning has it: out of the rows of seals.
-/
import Derived.Test.YthhckpnnjegldafGreatFmtRefRoots
import Derived.Deep.RegionHeld3
namespace Go.Proofs.YthhckpnnjegldafGreatFmt
open Go Go.RowKit Go.Maps Go.Kit Go.Extern.Stop Go.Stop Go.Extern

theorem held2 {w9 wc w2 : World} {A A' : Addr} {v v' : Value} (hlt : A.block < w9.heap.size) (hlt' : A'.block < w9.heap.size) (hb : Below wc.heap.size wc w2) (h : Below w9.heap.size w9 wc ∧ wc.cell? A = some v ∧ wc.cell? A' = some v') : Below w9.heap.size w9 w2 ∧ w2.cell? A = some v ∧ w2.cell? A' = some v' :=
  ⟨below_on h.1 hb, by rw [(below_on h.1 hb).cell hlt, ← h.1.cell hlt]; exact h.2.1, by rw [(below_on h.1 hb).cell hlt', ← h.1.cell hlt']; exact h.2.2⟩
theorem held2_grown {w9 wc w2 : World} {A A' : Addr} {v v' : Value} {row : Option Nat} (hlt : A.block < w9.heap.size) (hlt' : A'.block < w9.heap.size) (h : Below w9.heap.size w9 wc ∧ wc.cell? A = some v ∧ wc.cell? A' = some v') (hg : wc.grownBy w2 row) (hr : ∀ k, row = some k → w9.heap.size ≤ k) : Below w9.heap.size w9 w2 ∧ w2.cell? A = some v ∧ w2.cell? A' = some v' := by
  have hb := h.1.grown hg h.1.size hr
  exact ⟨hb, by rw [hb.cell hlt, ← h.1.cell hlt]; exact h.2.1, by rw [hb.cell hlt', ← h.1.cell hlt']; exact h.2.2⟩
theorem held2_size {w9 w : World} {A A' : Addr} {v v' : Value} (h : Below w9.heap.size w9 w ∧ w.cell? A = some v ∧ w.cell? A' = some v') : w9.heap.size ≤ w.heap.size := h.1.size
theorem news_here (w : World) (o : Obj) : (w.alloc o).heap[w.heap.size]? = some o := by
  show (w.heap.push _)[w.heap.size]? = _
  simp
theorem text_step {o : Oper} {a : Act} {w : World} {K : Act → World → Prop} {Q : Exit → Act → World → Prop} (ho : o.op = .call { callee := .builtin .append, args := #[.tmp 13, .tmp 24], argTypes := #[69, 69] })
    (xs : List Value) (n : Nat) (x : ByteArray) (B b : Nat) (v : Value) (hlen : n ≤ 1000) (hv : a.eval (.tmp 13) = v) (hx : a.eval (.tmp 24) = .slice (some ⟨b, 0, none⟩) 1 1)
    (hown : w.ownsRow B 9 1 v n xs) (hnews : w.heap[b]? = some (.cells #[.string x] 9 (0, 0))) (hB : B ≤ w.heap.size)
    (h : ∀ g' cap' w', w'.ownsRow B 9 1 (.slice (some ⟨g', 0, none⟩) (n + 1) cap') (n + 1) (xs ++ [.string x]) → w.grownBy w' v.ownBlock → (∀ k, v.ownBlock = some k → B ≤ k) → K (a.put o.dst (.slice (some ⟨g', 0, none⟩) (n + 1) cap')) w') : o.wp Tryz.prog a w K Q := by
  obtain ⟨i0, hi0, hz0, hz1, hz2⟩ := info_parts infoText
  refine wp_append_lies w (.tmp 13) (.tmp 24) 69 ho B 9 i0 (.string ⟨#[]⟩) 1 16 Tryz.underlying69 hi0 hz0 hz1 hz2 rfl (by decide) v n xs hv hown ⟨b, 0, none⟩ 1 1 [.string x] hx rfl
    (World.news_of_block (cs := #[.string x]) (t := 9) (fr := (0, 0)) hnews) (by intro u hu; rw [List.mem_singleton.1 hu]; rfl) (by omega) (by unfold maxLen; omega) (by omega) hB _ rfl ?_
  intro g' cap' w' ho' hg' _ _
  exact h g' cap' w' ho' hg' (fun k hk => (hown.lt k hk).1)
theorem sib_in {h k : Nat} (h4 : h < 4) (hk : k < 16) : sibN (k / 2 ^ h) < 2 ^ (4 - h) := by
  unfold sibN
  match h, h4 with
  | 0, _ => split <;> simp <;> omega
  | 1, _ => split <;> simp <;> omega
  | 2, _ => split <;> simp <;> omega
  | 3, _ => split <;> simp <;> omega

theorem xor_all : ∀ (k : Fin 16) (h : Fin 4), bits .xor .i64 ((k.val : Int) / 2 ^ h.val) 1 = ((sibN (k.val / 2 ^ h.val) : Nat) : Int) := by decide +kernel
theorem xor_sib {k h : Nat} (hk : k < 16) (hh : h < 4) : bits .xor .i64 ((k : Int) / 2 ^ h) 1 = ((sibN (k / 2 ^ h) : Nat) : Int) := xor_all ⟨k, hk⟩ ⟨h, hh⟩

set_option maxHeartbeats 2000000 in
set_option maxRecDepth 100000 in
theorem mapPath_ok (I : Interp) (p : Option Nat) (D : DataW Unit) (k : Nat) (w : World) (hF : I.told.answers w.tape) (hM : MapAt w p D) (hG : GoodMap D) (hk : k < 16) :
    Calls Tryz.prog 37 #[.map p, .int .i64 (k : Int)] w fun e w' => ∃ a c, e = .returned (.slice a 4 c) ∧ StrsAt w' a c (pathT (valN D) 0 k 4) ∧ Below w.heap.size w w' := by
  have hroots := mapRoots_ok I p D w hF hM hG
  have hsm := pathT_313 hG.short (k := k) (Nat.le_refl 4)
  have hst := fun j (h : j < 4) => pathT_take (valN D) (k := k) h
  have hlen := pathT_len (valN D) 4 0 k
  have hrow := fun d i (h : i < 2 ^ (4 - d)) => rowT_getD (valN D) (d := d) (i := i) h
  generalize pathT (valN D) 0 k 4 = L at *
  generalize valN D = f at *
  obtain ⟨i0, hi0, hz0, hz1, hz2⟩ := info_parts infoText
  have HR := Lib.hid hroots
  have HS := Lib.hid hst
  have HW := Lib.hid hrow
  clear hroots hst hrow hG hM
  go_enter Tryz.func37, Tryz.ntmps37
  go_wp2_with fail
  refine HR.out.mono ?_
  rintro e w1 ⟨g, cap, vs, rfl, hO, hb1⟩
  clear HR
  obtain ⟨hcap, hmax, hcell⟩ := owned_cell hO.own hO.len
  obtain ⟨g', hg', _, hgl⟩ := owned_block hO.own (by omega)
  obtain rfl : g = g' := by injection hg' with hg'; injection hg'
  clear hg'
  have HC := Lib.hid hcell
  clear hcell
  go_wp2_with fail
  go_loopg [6, 10] 4 (fun gh s6 s10 wr => ∃ (h : Nat) (a : Option Addr) (c : Nat), s10 = .int .i64 (h : Int) ∧ s6 = .slice a h c ∧ h ≤ 4 ∧ 4 - h ≤ gh ∧ wr.ownsRow w1.heap.size 9 1 (.slice a h c) h ((L.take h).map Value.string) ∧ Below w1.heap.size w1 wr)
  case atStart => exact ⟨0, none, 0, rfl, rfl, Nat.zero_le _, by omega, World.ownsRow_nil _ _ _ _, Below.refl _ _⟩
  case round =>
    obtain ⟨h, a, c, rfl, rfl, hh, hgh, hown, hb⟩ := hrel
    rcases Nat.lt_or_ge h 4 with h4 | h4
    · have hh4 : (h : Int) < 4 := by omega
      have hh5 : (h : Int) < 5 := by omega
      have hch := HC.out h (by omega)
      obtain ⟨a5, c5, e5, hS5, _⟩ := hO.rows h (by omega)
      rw [e5, rowT_len] at hch
      have hlr := rowT_len f h
      have hpos : 0 < 2 ^ (4 - h) := Nat.pos_of_ne_zero (by simp)
      have hxor := xor_sib hk h4
      have hsib : sibN (k / 2 ^ h) < 2 ^ (4 - h) := sib_in h4 hk
      obtain ⟨b5, off5, rfl, hlt5, hcl5⟩ := hS5.cells (by omega)
      have hcs := hcl5 (sibN (k / 2 ^ h)) (by omega)
      rw [HW.out h _ hsib] at hcs
      have htk := HS.out h h4
      have hcap5 := hS5.cap
      have hmax5 := hS5.max
      rw [hlr] at hcap5
      generalize trieT f h (sibN (k / 2 ^ h)) = x at *
      generalize sibN (k / 2 ^ h) = sb at *
      rw [← hb.cell hgl] at hch
      rw [← hb.cell hlt5] at hcs
      generalize 2 ^ (4 - h) = n5 at *
      have HT := Lib.hid htk
      clear hcl5 HW hS5 e5 htk
      go_wp2_with fail
      have hsb : (sb : Int) < (n5 : Int) := by omega
      have hS0 : Below w1.heap.size w1 wr.drew ∧ wr.drew.cell? ⟨g, h, none⟩ = some (.slice (some ⟨b5, off5, none⟩) n5 c5) ∧ wr.drew.cell? ⟨b5, off5 + sb, none⟩ = some (.string x) := ⟨below_on hb (below_drew _), hch, hcs⟩
      go_region_held3 (fun w' => Below w1.heap.size w1 w' ∧ w'.cell? ⟨g, h, none⟩ = some (.slice (some ⟨b5, off5, none⟩) n5 c5) ∧ w'.cell? ⟨b5, off5 + sb, none⟩ = some (.string x))
        (first | assumption | exact held2 hgl hlt5 (below_drew _) (by assumption) | exact held2 hgl hlt5 ((Below.refl _ _).alloc (Nat.le_refl _) _) (by assumption))
        (first | (rw [if_pos (by rfl)]; refine text_step rfl ((L.take h).map Value.string) h x w1.heap.size _ _ (by omega) rfl rfl (World.ownsRow.alloc (show World.ownsRow _ _ _ _ _ _ _ from hown) _) (news_here _ _) (held2_size (A := ⟨g, h, none⟩) (A' := ⟨b5, off5 + sb, none⟩) (v := .slice (some ⟨b5, off5, none⟩) n5 c5) (v' := .string x) (by assumption)) ?_; intro g' cap' w6 hown6 hgrow hr6; have hM := held2_grown hgl hlt5 (by assumption) hgrow hr6))
      have hb6 := hM.1
      clear hM hS0
      go_wp2_with fail
      go_roundg (4 - (h + 1))
      case rel => exact ⟨h + 1, some ⟨g', 0, none⟩, cap', by go_num, rfl, by omega, by omega, by rw [HT.out, List.map_append]; exact hown6, hb6⟩
      case measure => omega
    · obtain rfl : h = 4 := by omega
      rw [show L.take 4 = L from List.take_of_length_le (by omega)] at hown
      obtain ⟨_, hS⟩ := owned_strs hown (fun s hs => by have := hsm s hs; omega)
      go_wp2_with fail
      go_ret
      exact ⟨a, c, rfl, hS, below_on hb1 hb⟩
end Go.Proofs.YthhckpnnjegldafGreatFmt
