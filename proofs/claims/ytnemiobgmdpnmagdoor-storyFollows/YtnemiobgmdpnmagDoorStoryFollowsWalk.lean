/-
  StoryFollows' walk: of whatever script it answers true.
-/
import Derived.Test.YtnemiobgmdpnmagDoorFollowsElse
import Derived.Test.YtnemiobgmdpnmagDoorFollowsOther
import Derived.Test.YtnemiobgmdpnmagDoorFollowsUnlike
import Derived.Test.YtnemiobgmdpnmagDoorFollowsLike
import Derived.Test.YtnemiobgmdpnmagDoorNumbers
namespace Go.Proofs.YtnemiobgmdpnmagDoor
open Go Go.RowKit

def FolInv (G : Nat) (w : World) (W : WB) : Prop := ∃ A D o, OfAt w G A D o ∧ FolI W o
theorem follows_plays (G : Nat) (w : World) (hG : G < w.heap.size) (hE : ∀ w1, w.grownBy w1 (some G) → Tab w1) (h0 : OfAt w G (fun _ => none) (fun _ => 0) [[], [], []]) :
    Plays w (some G) (fun _ => True) 15 (fun x y z => #[x, y, z, .pointer (some ⟨G, 0, none⟩)]) (FolInv G) := by
  refine ⟨⟨_, _, _, h0, fol_new⟩, ?_, ?_, fun W x a0 n0 c0 a1 n1 c1 a2 n2 c2 b0 m0 e0 b1 m1 e1 b2 m2 e2 w1 hg hi _ h0 _ hW hY => ?_⟩
  · rintro w1 w2 W ⟨A, D, o, hO, hF⟩ hb
    exact ⟨A, D, o, hO.on hb, hF⟩
  · rintro w1 w2 W b x0 y0 z0 x1 y1 z1 x2 y2 z2 ⟨A, D, o, hO, hF⟩ hb q hg
    exact ⟨A, D, o, hO.box (by omega) q hg, hF⟩
  · obtain ⟨A, D, o, hO, hF⟩ := hi
    have gY := (keeps_do h0).good
    have hE1 := hE w1 hg
    have hG1 : G < w1.heap.size := (Array.getElem?_eq_some_iff.1 hO.1).1
    have easy : (x.kind = 3 → ¬ headIs (sideL (doV W x).1 x.side) (cliAt (doV W x).1 x.who)) → ∀ (e : Ending) (w2 : World), (e = .returned (.bool true) ∧ Below w1.heap.size w1 w2) → e = .returned (.bool true) ∧ FolInv G w2 (doV W x).1 ∧ w1.grownBy w2 (some G) ∧ WAt w2 b0 m0 e0 b1 m1 e1 b2 m2 e2 (doV W x).1 :=
      fun hn e w2 h => ⟨h.1, ⟨A, D, o, hO.on h.2, fol_keep hF h0 hn⟩, below_grown h.2 _, hY.on h.2⟩
    by_cases hk : x.kind = 3
    · obtain ⟨_, _, hr⟩ := do_right h0
      have hstep := fun j hj hh => fol_step (j := j) hF h0 hk hj hh
      generalize (doV W x).1 = Y at hY gY easy hstep ⊢
      obtain ⟨xk, xs, xw, xo, xe, xv⟩ := x
      obtain ⟨r1, r2, r3, r4, r5, r6⟩ := hr
      simp only at hk r1 r2 r3 r4 easy hstep ⊢
      subst hk
      obtain ⟨s, rfl⟩ : ∃ s : Nat, xs = (s : Int) := ⟨xs.toNat, by omega⟩
      obtain ⟨j, rfl⟩ : ∃ s : Nat, xw = (s : Int) := ⟨xw.toNat, by omega⟩
      have hs : s < 2 := by omega
      have hj : j < 3 := by omega
      rw [cliAt_of] at easy
      by_cases hd : headIs (sideL Y (s : Int)) (cliOf Y.cs j)
      · obtain ⟨hle, heq, hF2⟩ := hstep j rfl (by rw [cliAt_of]; exact hd)
        refine (follows_like G Y a0 n0 c0 a1 n1 c1 a2 n2 c2 b0 m0 e0 b1 m1 e1 b2 m2 e2 s j xo xe xv w1 hE1 hY gY hs hj hd.1 hG1 o A D hO hd hle heq).mono ?_
        rintro e w2 ⟨aC, cC, w9, w10, rfl, hb9, hgs, hrow, hEn, hb2⟩
        have hO9 := hO.on hb9
        have hYY := ((hY.on hb9).kept hgs (fun g hg => by injection hg with hg; subst hg; exact far_box (hY.on hb9) hO9.1)).on hb2
        exact ⟨rfl, ⟨_, _, _, (hO9.put hF.2.1 hj rfl hEn hgs hrow).on hb2, hF2⟩, grow_none (grow_more (below_grown hb9 _) hgs (fun q hq => .inl hq)) hb2, hYY⟩
      · by_cases hn : (cliOf Y.cs j).1 = ((sideL Y (s : Int)).length : Int)
        · exact (follows_unlike G Y a0 n0 c0 a1 n1 c1 a2 n2 c2 b0 m0 e0 b1 m1 e1 b2 m2 e2 s j xo xe xv w1 hE1 hY gY hs hj hn hd).mono (easy fun _ => hd)
        · exact (follows_other G Y a0 n0 c0 a1 n1 c1 a2 n2 c2 b0 m0 e0 b1 m1 e1 b2 m2 e2 s j xo xe xv w1 hY gY hs hj hn).mono (easy fun _ => hd)
    · exact (follows_else G a0 n0 c0 a1 n1 c1 a2 n2 c2 b0 m0 e0 b1 m1 e1 b2 m2 e2 x.kind x.side x.who x.other x.e.1 x.e.2 w1 hk).mono (easy fun h => absurd h hk)

set_option maxHeartbeats 16000000 in
set_option maxRecDepth 100000 in
theorem storyFollows_walk (l : List HapB) (a : Option Addr) (k c : Nat) (w : World) (hE : Tab w) (hk : l.length = k) (hL : HapsAt w a c l) :
    Calls Tryd.prog 5 #[.slice a k c] w fun e w' => e = .returned (.bool true) ∧ Below w.heap.size w w' := by
  have hmf : ∀ (fn : Fn) (first cap : Array Value) (w : World), (Instr.makeFunc fn first cap).run Tryd.prog w = .ok (.func fn first cap) w := fun _ _ _ _ => rfl
  go_enter Tryd.func5, Tryd.ntmps5
  go_wp2_with fail
  refine (telling_any w hE).mono ?_
  rintro e w1 ⟨rfl, hb1⟩
  have hL := hL.on hb1
  have hE := hE.on hb1
  have q3 := heap_push w1 (.cells #[.slice none 0 0, .slice none 0 0, .slice none 0 0] 53)
  have hb2 := (Below.refl w1.heap.size w1).alloc (Nat.le_refl _) (.cells #[.slice none 0 0, .slice none 0 0, .slice none 0 0] 53)
  have hs2 : w1.heap.size < (w1.alloc (.cells #[.slice none 0 0, .slice none 0 0, .slice none 0 0] 53)).heap.size := by rw [heap_size]; omega
  go_upto_region 4 with fail
  generalize (w1.alloc (.cells #[.slice none 0 0, .slice none 0 0, .slice none 0 0] 53)) = w2 at q3 hb2 hs2 ⊢
  obtain ⟨G, hG⟩ : ∃ g, w1.heap.size = g := ⟨_, rfl⟩
  rw [hG] at q3 hs2 ⊢
  have hfar := Lib.hid (fun w3 (hg : w2.grownBy w3 (some G)) => hb2.grown hg hb2.size (fun j hj => by injection hj with hj; omega))
  have hof : OfAt w2 G (fun _ => none) (fun _ => 0) [[], [], []] := ⟨q3, fun k hk => by
    match k, hk with
    | 0, _ => exact ents_none w2
    | 1, _ => exact ents_none w2
    | 2, _ => exact ents_none w2⟩
  have hp := played_follows G (some G) (fun _ => True) (FolInv G) l a k c w2 (follows_plays G w2 hs2 (fun w3 hg => hE.on (hfar.out w3 hg)) hof) (fun j hj => by injection hj with hj; omega) (fun w3 hg => hE.on (hfar.out w3 hg)) hk (fun _ _ => trivial) (fun w3 hg => hL.on (hfar.out w3 hg))
  generalize playW newW (l.take 60) = P at hp
  clear hof
  go_wp2_with fail
  refine hp.mono ?_
  rintro e w3 ⟨b0, m0, e0, b1, m1, e1, b2, m2, e2, rfl, _, _, hg⟩
  have hb3 := below_on hb1 (hfar.out w3 hg)
  clear hp hg hfar hb2
  have hb4 := hb3.alloc hb3.size (.cells #[.slice b0 m0 e0, .slice b1 m1 e1, .slice b2 m2 e2] 31)
  go_wp2_with fail
  go_ret
  exact ⟨rfl, hb4⟩

end Go.Proofs.YtnemiobgmdpnmagDoor
