/-
  TrieSays's walk: of whatever values, key, seals and value it answers true.
-/
import Derived.Test.YtdkmijejfmnncacFmtRefPath
import Derived.Test.YtdkmijejfmnncacFmtRefShows
import Derived.Test.YtdkmijejfmnncacFmtRooted
import Derived.Test.YtdkmijejfmnncacFmtSlices
namespace Go.Proofs.YtdkmijejfmnncacFmt
open Go Go.RowKit Go.Maps Go.Kit Go.Extern.Stop Go.Stop Go.Extern

set_option maxHeartbeats 1000000 in
set_option maxRecDepth 100000 in
theorem trieSays_walk (I : Interp) (p : Option Nat) (D : DataW Unit) (key : Int) (all v : ByteArray) (t : Bool) (l : List ByteArray) (a : Option Addr) (n c : Nat) (w : World) (hE : Tab w) (hF : I.told.answers w.tape) (hM : MapAt w p D) (hk1 : -9223372036854775808 ≤ key) (hk2 : key ≤ 9223372036854775807)
    (_hall : all.size < 140737488355328) (hvs : v.size < 140737488355328) (hn : l.length = n) (hS : StrsAt w a c l) (hls : ∀ s ∈ l, s.size ≤ 140737488355328) :
    Calls Tryf.prog 3 #[.map p, .int .i64 key, .string all, .string v, .bool t, .slice a n c] w fun e w' => e = .returned (.bool true) ∧ Below w.heap.size w w' := by
  have hck := fun w' hM => check_any p D w' hM
  have hcm := fun w' hM => checkMap_any p D w' hM
  have hsh := fun w' hE hS => shows_any all key v t l a n c w' hE hS hn
  have hms := fun w' hF hS => mapShows_any I all key v t l a n c w' hF hS hn (by omega) (fun s hs => by have := hls s hs; omega)
  generalize trieE all key v t l = te at *
  by_cases h0 : checkE D = 0
  · have hG := (check_iff hM.text).1 h0
    rw [h0] at hck hcm
    have hr := root_good p D w hE hM hG
    have hmr := fun w' hF hM => mapRoots_ok I p D w' hF hM hG
    have htop := rowT_getD (valN D) (d := 4) (i := 0) (by decide)
    have hsq := hG.short
    by_cases hkey : key < 0 ∨ 15 < key
    · have hpw := fun w' hM => path_who p D key w' hM hG hkey
      generalize trieT (valN D) 4 0 = r at *
      have HR := Lib.hid hr
      have HMR := Lib.hid hmr
      have HTOP := Lib.hid htop
      have HCK := Lib.hid hck
      have HCM := Lib.hid hcm
      have HSH := Lib.hid hsh
      have HMS := Lib.hid hms
      have HPW := Lib.hid hpw
      clear hr hmr htop hck hcm hsh hms hpw h0 hsq
      go_enter Tryf.func3, Tryf.ntmps3
      go_wp2_with fail
      refine HR.out.mono ?_
      rintro e w1 ⟨rfl, hb1⟩
      go_wp2_with fail
      refine (HPW.out w1 (hM.on hb1)).mono ?_
      rintro e w2 ⟨rfl, rfl⟩
      have hb2 := hb1
      clear hb1
      go_wp2_with fail
      refine (HCM.out w1 (hM.on hb2)).mono ?_
      rintro e w3 ⟨rfl, rfl⟩
      go_wp2_with fail
      refine (rooted_any w1 (hE.on hb2)).mono ?_
      rintro e w3 ⟨rfl, hb3⟩
      have hb3 := below_on hb2 hb3
      clear hb2
      go_wp2_with fail
      refine (HCK.out w3 (hM.on hb3)).mono ?_
      rintro e w4 ⟨rfl, rfl⟩
      go_wp2_with fail
      refine (HSH.out w3 (hE.on hb3) (hS.on hb3)).mono ?_
      rintro e w4 ⟨rfl, hb4⟩
      have hb4 := below_on hb3 hb4
      clear hb3
      go_wp2_with fail
      refine (HMS.out w4 (by rw [hb4.tape]; exact hF) (hS.on hb4)).mono ?_
      rintro e w5 ⟨rfl, hb5⟩
      have hb5 := below_on hb4 hb5
      clear hb4
      go_wp2_with fail
      refine (HMR.out w5 (by rw [hb5.tape]; exact hF) (hM.on hb5)).mono ?_
      rintro e w6 ⟨g, cap, vs, rfl, hO, hb6⟩
      have hb6 := below_on hb5 hb6
      clear hb5
      obtain ⟨hcap, hmax, hcell⟩ := owned_cell hO.own hO.len
      have hc4 := hcell 4 (by omega)
      obtain ⟨a8, c8, e8, hS8, _⟩ := hO.rows 4 (by omega)
      have hl8 : (rowT (valN D) 4).length = 1 := by rw [rowT_len]
      rw [e8, hl8] at hc4
      obtain ⟨b8, off8, rfl, hlt8, hcl8⟩ := hS8.cells (by omega)
      have hc0 := hcl8 0 (by omega)
      rw [HTOP.out, Nat.add_zero] at hc0
      have hcap8 := hS8.cap
      clear hcell hcl8 hO hS8 e8
      rcases hkey with hkey | hkey
      · go_wp2_with fail
        go_ret
        exact ⟨rfl, hb6⟩
      · have hkey2 : ¬ key < 0 := by omega
        go_wp2_with fail
        go_ret
        exact ⟨rfl, hb6⟩
    · obtain ⟨k, rfl⟩ := Int.eq_ofNat_of_zero_le (show 0 ≤ key by omega)
      have hk : k < 16 := by omega
      have hk15 : ¬ (15 : Int) < (k : Int) := by omega
      have hpw := fun w' hE hM => path_good p D k w' hE hM hG hk
      have HMP := Lib.hid (fun w' hF hM => mapPath_ok I p D k w' hF hM hG hk)
      have hplen := pathT_len (valN D) 4 0 k
      generalize trieT (valN D) 4 0 = r at *
      generalize pathT (valN D) 0 k 4 = L at *
      clear hkey
      have HR := Lib.hid hr
      have HMR := Lib.hid hmr
      have HTOP := Lib.hid htop
      have HCK := Lib.hid hck
      have HCM := Lib.hid hcm
      have HSH := Lib.hid hsh
      have HMS := Lib.hid hms
      have HPW := Lib.hid hpw
      clear hr hmr htop hck hcm hsh hms hpw h0 hsq
      go_enter Tryf.func3, Tryf.ntmps3
      go_wp2_with fail
      refine HR.out.mono ?_
      rintro e w1 ⟨rfl, hb1⟩
      go_wp2_with fail
      refine (HPW.out w1 (hE.on hb1) (hM.on hb1)).mono ?_
      rintro e w2 ⟨a7, c7, rfl, hS7, hb2⟩
      have hb2 := below_on hb1 hb2
      clear hb1
      go_wp2_with fail
      refine (HCM.out w2 (hM.on hb2)).mono ?_
      rintro e w3 ⟨rfl, rfl⟩
      go_wp2_with fail
      refine (rooted_any w2 (hE.on hb2)).mono ?_
      rintro e w3 ⟨rfl, hb3⟩
      have hS7 := hS7.on hb3
      have hb3 := below_on hb2 hb3
      clear hb2
      go_wp2_with fail
      refine (HCK.out w3 (hM.on hb3)).mono ?_
      rintro e w4 ⟨rfl, rfl⟩
      go_wp2_with fail
      refine (HSH.out w3 (hE.on hb3) (hS.on hb3)).mono ?_
      rintro e w4 ⟨rfl, hb4⟩
      have hS7 := hS7.on hb4
      have hb4 := below_on hb3 hb4
      clear hb3
      go_wp2_with fail
      refine (HMS.out w4 (by rw [hb4.tape]; exact hF) (hS.on hb4)).mono ?_
      rintro e w5 ⟨rfl, hb5⟩
      have hS7 := hS7.on hb5
      have hb5 := below_on hb4 hb5
      clear hb4
      go_wp2_with fail
      refine (HMR.out w5 (by rw [hb5.tape]; exact hF) (hM.on hb5)).mono ?_
      rintro e w6 ⟨g, cap, vs, rfl, hO, hb6⟩
      have hS7 := hS7.on hb6
      have hb6 := below_on hb5 hb6
      clear hb5
      obtain ⟨hcap, hmax, hcell⟩ := owned_cell hO.own hO.len
      have hc4 := hcell 4 (by omega)
      obtain ⟨a8, c8, e8, hS8, _⟩ := hO.rows 4 (by omega)
      have hl8 : (rowT (valN D) 4).length = 1 := by rw [rowT_len]
      rw [e8, hl8] at hc4
      obtain ⟨b8, off8, rfl, hlt8, hcl8⟩ := hS8.cells (by omega)
      have hc0 := hcl8 0 (by omega)
      rw [HTOP.out, Nat.add_zero] at hc0
      have hcap8 := hS8.cap
      clear hcell hcl8 hO hS8 e8
      go_wp2_with fail
      refine (HMP.out w6 (by rw [hb6.tape]; exact hF) (hM.on hb6)).mono ?_
      rintro e w7 ⟨a9, c9, rfl, hS9, hb7⟩
      have hS7 := hS7.on hb7
      have hb7 := below_on hb6 hb7
      clear hb6 hc0 hc4
      go_wp2_with fail
      refine (equal_strs L L a7 a9 4 c7 4 c9 w7 hplen hplen hS7 hS9).mono ?_
      rintro e w8 ⟨rfl, hb8⟩
      rw [decide_eq_true (rfl : L = L)]
      have hb8 := below_on hb7 hb8
      clear hb7
      go_wp2_with fail
      go_ret
      exact ⟨rfl, hb8⟩
  · obtain ⟨c', hc0, hc'⟩ : ∃ c', c' ≠ 0 ∧ checkE D = c' := ⟨_, h0, rfl⟩
    rw [hc'] at hck hcm
    have HR := Lib.hid (root_bad p D w hM c' hc' hc0)
    have HP := Lib.hid (path_bad p D key w hM c' hc' hc0)
    have HCK := Lib.hid hck
    have HCM := Lib.hid hcm
    have HSH := Lib.hid hsh
    have HMS := Lib.hid hms
    clear hc' h0 hck hcm hsh hms
    go_enter Tryf.func3, Tryf.ntmps3
    go_wp2_with fail
    refine HR.out.mono ?_
    rintro e w1 ⟨rfl, rfl⟩
    go_wp2_with fail
    refine HP.out.mono ?_
    rintro e w1 ⟨rfl, rfl⟩
    go_wp2_with fail
    refine (HCM.out w hM).mono ?_
    rintro e w1 ⟨rfl, rfl⟩
    go_wp2_with fail
    refine (rooted_any w hE).mono ?_
    rintro e w1 ⟨rfl, hb1⟩
    go_wp2_with fail
    refine (HCK.out w1 (hM.on hb1)).mono ?_
    rintro e w2 ⟨rfl, rfl⟩
    go_wp2_with fail
    refine (HSH.out w1 (hE.on hb1) (hS.on hb1)).mono ?_
    rintro e w2 ⟨rfl, hb2⟩
    have hb2 := below_on hb1 hb2
    clear hb1
    go_wp2_with fail
    refine (HMS.out w2 (by rw [hb2.tape]; exact hF) (hS.on hb2)).mono ?_
    rintro e w3 ⟨rfl, hb3⟩
    have hb3 := below_on hb2 hb3
    clear hb2
    go_wp2_with fail
    go_ret
    exact ⟨rfl, hb3⟩
end Go.Proofs.YtdkmijejfmnncacFmt
