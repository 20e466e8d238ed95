/-
  TrieTrue's walk: of whatever values, key, value and seals it answers true.
-/
import Derived.Test.YtdkmijejfmnncacDoorRooted
import Derived.Test.YtdkmijejfmnncacDoorAt
namespace Go.Proofs.YtdkmijejfmnncacDoor
open Go Go.RowKit Go.Maps

theorem val_iff {D : DataW Unit} {k : Int} {v : ByteArray} {t : Bool} (h : t = false → v.size = 0) : (if t then some v else none) = valD D k ↔ t = (valD D k).isSome ∧ v = valS D k := by
  cases hd : valD D k with
  | none =>
    rw [valD_none hd]
    cases t with
    | true => simp
    | false => simpa using empty_of (h rfl)
  | some s =>
    rw [valD_some hd]
    cases t with
    | true => simp
    | false => simp
theorem shown_val {D : DataW Unit} (hG : GoodMap D) {k : Nat} (hk : k < 16) {v : ByteArray} {t : Bool} {l : List ByteArray} (h : trieE (trieT (valN D) 4 0) (k : Nat) v t l = 0) : t = (valD D k).isSome ∧ v = valS D k := by
  obtain ⟨h1, h2, _⟩ := (trie_iff hG.short k hk v t l).1 h
  exact (val_iff h2).1 h1
theorem shown_own {D : DataW Unit} (hG : GoodMap D) {k : Nat} (hk : k < 16) : trieE (trieT (valN D) 4 0) (k : Nat) (valS D k) (valD D k).isSome (pathT (valN D) 0 k 4) = 0 := by
  have hf : (valD D (k : Nat)).isSome = false → (valS D (k : Nat)).size = 0 := by
    intro h
    rw [valD_none (Option.isNone_iff_eq_none.1 (by rw [← Option.not_isSome, h]; rfl))]
    rfl
  exact (trie_iff hG.short k hk _ _ _).2 ⟨(val_iff hf).2 ⟨rfl, rfl⟩, hf, rfl⟩

set_option maxRecDepth 100000 in
theorem trieTrue_walk (p : Option Nat) (D : DataW Unit) (key : Int) (v : ByteArray) (t : Bool) (l : List ByteArray) (a : Option Addr) (n c : Nat) (w : World) (hE : Tab w) (hM : MapAt w p D) (hk1 : -9223372036854775808 ≤ key) (hk2 : key ≤ 9223372036854775807) (_hv : v.size ≤ 9223372036854775807) (hn : l.length = n) (hS : StrsAt w a c l) :
    Calls Tryd.prog 6 #[.map p, .int .i64 key, .string v, .bool t, .slice a n c] w fun e w' => e = .returned (.bool true) ∧ Below w.heap.size w w' := by
  by_cases h0 : checkE D = 0
  · have hG := (check_iff hM.text).1 h0
    have hr := root_good p D w hE hM hG
    have hjlt := atN_lt key (n := 16) (by omega)
    have hat := fun w' => at_any key 16 w' (by omega) (by omega) hk1 hk2
    rw [show ((16 : Nat) : Int) = 16 from rfl] at hat
    have hone := fun v t (l : List ByteArray) (h : trieE (trieT (valN D) 4 0) (atN key 16 : Nat) v t l = 0) => shown_val hG hjlt h
    have hown := shown_own hG hjlt
    have hpl := pathT_len (valN D) 4 0 (atN key 16)
    have hpath := fun w' hE hM => path_good p D (atN key 16) w' hE hM hG hjlt
    generalize trieT (valN D) 4 0 = r at *
    generalize pathT (valN D) 0 (atN key 16) 4 = L at *
    generalize hj : atN key 16 = j at *
    have HR := Lib.hid hr
    have HA := Lib.hid hat
    have H1 := Lib.hid hone
    have HO := Lib.hid hown
    have HP := Lib.hid hpath
    clear hr hat hone hown hpath hj h0
    go_enter Tryd.func6, Tryd.ntmps6
    go_wp2_with fail
    refine HR.out.mono ?_
    rintro e w1 ⟨rfl, hb1⟩
    clear HR
    go_wp2_with fail
    refine (rooted_any w1 (hE.on hb1)).mono ?_
    rintro e w2 ⟨rfl, hb2⟩
    have hb2 := below_on hb1 hb2
    clear hb1
    go_wp2_with fail
    refine (HA.out w2).mono ?_
    rintro e w3 ⟨rfl, rfl⟩
    clear HA
    have hM2 := hM.on hb2
    go_wp2_with (at_lookup; refine wpList_look _ rfl _ _ rfl p D rfl hM2 (j : Int) rfl (by omega) (by omega) ?_)
    refine (shows_any r j v t l a n c w2 (hE.on hb2) (hS.on hb2) hn).mono ?_
    rintro e w3 ⟨rfl, hb3⟩
    have hM3 := hM2.on hb3
    have hb3 := below_on hb2 hb3
    have h1 := H1.out v t l
    have h2 := H1.out v t L
    have ho := HO.out
    have hsb : (valD D (j : Int)).isSome = false → valS D (j : Int) = ⟨#[]⟩ := fun h => valD_none (Option.isNone_iff_eq_none.1 (by rw [← Option.not_isSome, h]; rfl))
    generalize trieE r (j : Int) v t l = E1 at *
    generalize valS D (j : Int) = s at *
    generalize (valD D (j : Int)).isSome = b at *
    clear hM2 hb2 H1 HO
    have hE3 := hE.on hb3
    have HO := Lib.hid ho
    clear ho
    by_cases hsame : t = b ∧ v = s
    · obtain ⟨rfl, rfl⟩ := hsame
      have Hsb := Lib.hid hsb
      clear h1 h2 hsb
      by_cases hE1 : E1 = 0
      all_goals
        go_wp2_with fail
        refine (HP.out w3 hE3 hM3).mono ?_
        rintro e w4 ⟨a4, c4, rfl, hS4, hb4⟩
        have hb4 := below_on hb3 hb4
        clear HP hM3 hb3 hE3
        go_wp2_with fail
        refine (shows_any r j v t L a4 4 c4 w4 (hE.on hb4) hS4 hpl).mono ?_
        rintro e w5 ⟨rfl, hb5⟩
        rw [HO.out]
        have hS5 := hS4.on hb5
        have hb5 := below_on hb4 hb5
        clear hS4 hb4
        cases t with
        | false =>
          obtain rfl := Hsb.out rfl
          go_wp2_with fail
          refine (shows_any r j ⟨#[]⟩ false L a4 4 c4 w5 (hE.on hb5) hS5 hpl).mono ?_
          rintro e w6 ⟨rfl, hb6⟩
          rw [HO.out]
          have hb6 := below_on hb5 hb6
          go_wp2_with fail
          go_ret
          exact ⟨rfl, hb6⟩
        | true =>
          go_wp2_with fail
          refine (shows_any r j v true L a4 4 c4 w5 (hE.on hb5) hS5 hpl).mono ?_
          rintro e w6 ⟨rfl, hb6⟩
          rw [HO.out]
          have hb6 := below_on hb5 hb6
          go_wp2_with fail
          go_ret
          exact ⟨rfl, hb6⟩
    · have hE1 : E1 ≠ 0 := fun h => hsame (h1 h)
      have hE2 : trieE r (j : Int) v t L ≠ 0 := fun h => hsame (h2 h)
      have HE2 := Lib.hid hE2
      have Hsb := Lib.hid hsb
      clear h1 h2 hsb hE2
      go_wp2_with fail
      refine (HP.out w3 hE3 hM3).mono ?_
      rintro e w4 ⟨a4, c4, rfl, hS4, hb4⟩
      have hb4 := below_on hb3 hb4
      clear HP hM3 hb3 hE3
      go_wp2_with fail
      refine (shows_any r j s b L a4 4 c4 w4 (hE.on hb4) hS4 hpl).mono ?_
      rintro e w5 ⟨rfl, hb5⟩
      rw [HO.out]
      have hS5 := hS4.on hb5
      have hb5 := below_on hb4 hb5
      clear hS4 hb4
      by_cases hform : t = false ∧ v ≠ ⟨#[]⟩
      · obtain ⟨rfl, hv⟩ := hform
        have hq := str_ne hv
        rw [empty_list] at hq
        clear hv
        go_wp2_with fail
        go_ret
        exact ⟨rfl, hb5⟩
      · have hfin := shows_any r j v t L a4 4 c4 w5 (hE.on hb5) hS5 hpl
        have hE2 := HE2.out
        generalize trieE r (j : Int) v t L = E2 at *
        have hq0 : (E2 == 0) = false := by simpa using hE2
        have HF := Lib.hid hfin
        clear hfin hE2
        by_cases htb : t = b
        · subst htb
          have hv : v ≠ s := fun h => hsame ⟨rfl, h⟩
          have hq := str_ne hv
          clear hsame HE2
          cases t with
          | false =>
            obtain rfl : v = ⟨#[]⟩ := Classical.byContradiction fun h => hform ⟨rfl, h⟩
            exact absurd (Hsb.out rfl).symm hv
          | true =>
            clear hform
            go_wp2_with fail
            refine HF.out.mono ?_
            rintro e w6 ⟨rfl, hb6⟩
            have hb6 := below_on hb5 hb6
            go_wp2_with fail
            go_ret
            exact ⟨rfl, hb6⟩
        · clear hsame HE2
          cases t with
          | false =>
            obtain rfl : v = ⟨#[]⟩ := Classical.byContradiction fun h => hform ⟨rfl, h⟩
            obtain rfl : b = true := by cases b <;> simp_all
            clear hform htb
            go_wp2_with fail
            refine HF.out.mono ?_
            rintro e w6 ⟨rfl, hb6⟩
            have hb6 := below_on hb5 hb6
            go_wp2_with fail
            go_ret
            exact ⟨rfl, hb6⟩
          | true =>
            obtain rfl : b = false := by cases b <;> simp_all
            clear hform htb
            go_wp2_with fail
            refine HF.out.mono ?_
            rintro e w6 ⟨rfl, hb6⟩
            have hb6 := below_on hb5 hb6
            go_wp2_with fail
            go_ret
            exact ⟨rfl, hb6⟩
  · have hr : ∃ c', c' ≠ 0 ∧ checkE D = c' := ⟨_, h0, rfl⟩
    obtain ⟨c', hc0, hc'⟩ := hr
    have HR := Lib.hid (root_bad p D w hM c' hc' hc0)
    clear hc' h0
    go_enter Tryd.func6, Tryd.ntmps6
    go_wp2_with fail
    refine HR.out.mono ?_
    rintro e w1 ⟨rfl, rfl⟩
    go_wp2_with fail
    refine (rooted_any w hE).mono ?_
    rintro e w1 ⟨rfl, hb1⟩
    go_wp2_with fail
    refine (rooted_any w1 (hE.on hb1)).mono ?_
    rintro e w2 ⟨rfl, hb2⟩
    go_wp2_with fail
    go_ret
    exact ⟨rfl, below_on hb1 hb2⟩
end Go.Proofs.YtdkmijejfmnncacDoor
