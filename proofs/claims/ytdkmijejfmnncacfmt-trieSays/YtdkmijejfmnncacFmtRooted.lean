/-
  The closed fact of the values' statements: one key of sixteen.
-/
import Derived.Test.YtdkmijejfmnncacFmtTriePath
import Derived.Test.YtdkmijejfmnncacFmtMapPut
namespace Go.Proofs.YtdkmijejfmnncacFmt
open Go Go.RowKit Go.Maps

def oneD : DataW Unit := (DataW.map []).put (.int .i64 5) (.lit (.string [120]))
def farD : DataW Unit := (DataW.map []).put (.int .i64 16) (.lit (.string []))
theorem oneD_val (k : Int) : valD oneD k = if k = 5 then some ⟨#[120]⟩ else none := by
  have := valD_put isMap_empty k 5 (⟨#[120]⟩ : ByteArray)
  rw [valD_empty] at this
  exact this
theorem farD_val (k : Int) : valD farD k = if k = 16 then some ⟨#[]⟩ else none := by
  have := valD_put isMap_empty k 16 (⟨#[]⟩ : ByteArray)
  rw [valD_empty] at this
  exact this
theorem oneD_good : GoodMap oneD := by
  intro k s h
  rw [oneD_val] at h
  split at h
  · rename_i hk
    injection h with h
    subst h
    exact ⟨by omega, by omega, by decide⟩
  · cases h
theorem farD_check (h : TextMap farD) : checkE farD = 5 := by
  refine check_who ?_ ?_
  · rintro ⟨k, hk, hs⟩
    have hn : valD farD (k : Nat) = none := by rw [farD_val, if_neg (by omega)]
    rw [valD_none hn] at hs
    exact absurd hs (by decide)
  · intro hc
    have := (cnt_all h 16).1 hc 16 (by rw [farD_val, if_pos rfl]; rfl)
    omega

theorem climb_small : ∀ (l : List ByteArray) (k : Nat) (now : ByteArray), (∀ s ∈ l, s.size ≤ 313) → now.size + 320 * l.length ≤ 15000 → ∃ x, climbT k now l = some x
  | [], _, now, _, _ => ⟨now, rfl⟩
  | s :: l, k, now, hl, hn => by
    rw [List.length_cons] at hn
    have hs := hl s (by simp)
    have hside : ∃ z, sideT k now s = some z ∧ z.size ≤ now.size + 320 := by
      unfold sideT
      split
      · refine ⟨nodeS now s, by unfold nodeO; rw [if_pos (by omega)], ?_⟩
        rw [nodeS_size]
        have := nDigits_le5 now.size (by omega)
        omega
      · refine ⟨nodeS s now, by unfold nodeO; rw [if_pos (by omega)], ?_⟩
        rw [nodeS_size]
        have := nDigits_le5 s.size (by omega)
        omega
    obtain ⟨z, hz, hzs⟩ := hside
    obtain ⟨x, hx⟩ := climb_small l (k / 2) z (fun t ht => hl t (by simp [ht])) (by omega)
    refine ⟨x, ?_⟩
    show (sideT k now s).bind _ = _
    rw [hz, Option.bind_some, hx]
theorem trieE_not {all : ByteArray} {k : Nat} {v : ByteArray} {l : List ByteArray} (hk : k < 16) (hv : v.size ≤ 100) (hl : l.length = 4) (hs : ∀ s ∈ l, s.size ≤ 313) (h : trieE all (k : Nat) v true l ≠ 0) : trieE all (k : Nat) v true l = 7 := by
  have hx : startT v true = some (leafS v) := by
    show leafO v = _
    unfold leafO
    rw [if_pos (by omega)]
  obtain ⟨x, hc⟩ := climb_small l k (leafS v) hs (by rw [leafS_size]; omega)
  have e : trieE all (k : Nat) v true l = if x = all then 0 else 7 := by
    unfold trieE
    rw [if_neg (by omega), if_neg (by simp), if_neg (by omega), hx, Option.bind_some, Int.toNat_natCast, hc]
  rw [e] at h ⊢
  split
  · rename_i hq
    rw [if_pos hq] at h
    exact absurd rfl h
  · rfl

theorem rooted_yes : trieE (trieT (valN oneD) 4 0) 4 ⟨#[]⟩ false (pathT (valN oneD) 0 4 4) = 0 :=
  (trie_iff oneD_good.short 4 (by omega) ⟨#[]⟩ false _).2 ⟨by show none = valD oneD 4; rw [oneD_val, if_neg (by omega)], fun _ => rfl, rfl⟩
theorem rooted_no : trieE (trieT (valN oneD) 4 0) 4 ⟨#[121]⟩ true (pathT (valN oneD) 0 4 4) = 7 := by
  refine trieE_not (k := 4) (by omega) (by decide) (pathT_len _ _ _ _) (pathT_313 oneD_good.short (by omega)) ?_
  intro h
  have h1 := ((trie_iff oneD_good.short 4 (by omega) ⟨#[121]⟩ true _).1 h).1
  have h2 : some (⟨#[121]⟩ : ByteArray) = valD oneD 4 := h1
  rw [oneD_val, if_neg (by omega)] at h2
  cases h2
theorem rooted_first : (pathT (valN oneD) 0 4 4).getD 0 ByteArray.empty = ⟨#[76, 120]⟩ := by
  show slotT (valD oneD 5) = _
  rw [oneD_val, if_pos rfl]
  decide +kernel

set_option maxRecDepth 100000 in
theorem rooted_any (w : World) (hE : Tab w) :
    Calls Tryf.prog 7 #[] w fun e w' => e = .returned (.bool true) ∧ Below w.heap.size w w' := by
  have hmm := @run_makeMap Tryf.prog
  have Hy := Lib.hid rooted_yes
  have Hn := Lib.hid rooted_no
  have Hf := Lib.hid rooted_first
  have hlen := pathT_len (valN oneD) 4 0 4
  have hR := fun w' hE hM => root_good (some w.heap.size) oneD w' hE hM oneD_good
  have hP := fun w' hE hM => path_good (some w.heap.size) oneD 4 w' hE hM oneD_good (by omega)
  rw [show ((4 : Nat) : Int) = 4 from rfl] at hP
  generalize trieT (valN oneD) 4 0 = r at *
  generalize pathT (valN oneD) 0 4 4 = L at *
  have HR := Lib.hid hR
  have HP := Lib.hid hP
  clear hR hP
  go_enter Tryf.func7, Tryf.ntmps7
  go_wp2_with (refine wpList_insert _ rfl _ _ _ rfl _ 0 _ rfl (made_owns w) (by decide) 5 rfl (by omega) (by omega) ⟨#[120]⟩ rfl (by decide) ?_; intro w1 hown1 hg1)
  have hb1 := made_below hg1
  have hM1 : MapAt w1 (some w.heap.size) oneD := MapAt.of hown1
  clear hown1 hg1
  refine (HR.out w1 (hE.on hb1) hM1).mono ?_
  rintro e w2 ⟨rfl, hb2⟩
  have hM2 := hM1.on hb2
  have hb2 := below_on hb1 hb2
  clear hM1 hb1
  go_wp2_with fail
  refine (HP.out w2 (hE.on hb2) hM2).mono ?_
  rintro e w3 ⟨a, c, rfl, hS, hb3⟩
  have hb3 := below_on hb2 hb3
  clear hM2 hb2 HP HR
  obtain ⟨b, off, rfl, hlt, hcl⟩ := hS.cells (by omega)
  have hc0 := hcl 0 (by omega)
  rw [Hf.out, Nat.add_zero] at hc0
  have hcap := hS.cap
  clear hcl
  go_wp2_with fail
  refine (shows_any r 4 ⟨#[]⟩ false L _ 4 c w3 (hE.on hb3) hS hlen).mono ?_
  rintro e w4 ⟨rfl, hb4⟩
  rw [Hy.out]
  have hS := hS.on hb4
  have hb4 := below_on hb3 hb4
  clear hb3 hc0
  go_wp2_with fail
  refine (shows_any r 4 ⟨#[121]⟩ true L _ 4 c w4 (hE.on hb4) hS hlen).mono ?_
  rintro e w5 ⟨rfl, hb5⟩
  rw [Hn.out]
  have hb5 := below_on hb4 hb5
  clear hb4 hS
  go_wp2_with (refine wpList_wanted (by rfl) ?_; refine wp_insert _ _ _ _ rfl _ 0 _ rfl (made_owns w5) (by decide) 16 rfl (by omega) (by omega) ⟨#[]⟩ rfl (by decide) ?_; intro w6 hown6 hg6)
  have hb6 := below_on hb5 (made_below hg6)
  have hM6 : MapAt w6 (some w5.heap.size) farD := MapAt.of hown6
  have hck := check_any _ _ w6 hM6
  rw [farD_check hM6.text] at hck
  clear hown6 hg6 hb5
  go_wp2_with fail
  refine hck.mono ?_
  rintro e w7 ⟨rfl, rfl⟩
  go_wp2_with fail
  go_ret
  exact ⟨rfl, hb6⟩
end Go.Proofs.YtdkmijejfmnncacFmt
