/-
  What a happening keeps, by plain lists.
-/
import Derived.Test.YthhckpnnjegldafDoorClis
namespace Go.Proofs.YthhckpnnjegldafDoor
open Go Go.RowKit Go.Maps

theorem doV_good {W : WB} {x : HapB} (h : (doV W x).2 = 0) : worldE W = 0 := by
  unfold doV at h
  by_cases h0 : worldE W = 0
  · exact h0
  · rw [if_pos h0] at h; exact absurd h h0
theorem doV_hap {W : WB} {x : HapB} (h : worldE W = 0) : doV W x = hapV W x := if_neg (fun hh => hh h)
structure Keeps (W Y : WB) (x : HapB) : Prop where
  good : worldE Y = 0
  more : W.b0.length ≤ Y.b0.length
  first : Y.b0.take W.b0.length = W.b0
  same : Y.cs.length = W.cs.length
  each : ∀ k, k < 3 → ((cliOf W.cs k).2.2.2 = true → (cliOf Y.cs k).2.2.2 = true) ∧ (cliOf W.cs k).1 ≤ (cliOf Y.cs k).1 ∧
    (¬ ((cliOf Y.cs k).1 = (cliOf W.cs k).1 ∧ (cliOf Y.cs k).2.1 = (cliOf W.cs k).2.1 ∧ (cliOf Y.cs k).2.2.1 = (cliOf W.cs k).2.2.1) → x.kind = 3 ∧ x.who = (k : Int)) ∧ cliE (cliOf Y.cs k) = 0
theorem keeps_self {W : WB} {x : HapB} (h : worldE W = 0) : Keeps W W x := by
  obtain ⟨_, _, h3, hc⟩ := (worldE_iff W).1 h
  exact ⟨h, Nat.le_refl _, List.take_of_length_le (Nat.le_refl _), rfl, fun k hk => ⟨id, Int.le_refl _, fun hh => absurd ⟨rfl, rfl, rfl⟩ hh, hc _ (cliOf_mem (by omega))⟩⟩
/- Books alone are others: the clients stay. -/
theorem keeps_books {W Y : WB} {x : HapB} (h : worldE W = 0) (hc : Y.cs = W.cs) (h0 : GoodBook Y.b0) (h1 : GoodBook Y.b1) (hm : W.b0.length ≤ Y.b0.length) (hf : Y.b0.take W.b0.length = W.b0) : Keeps W Y x := by
  obtain ⟨_, _, h3, hg⟩ := (worldE_iff W).1 h
  refine ⟨(worldE_iff Y).2 ⟨h0, h1, by rw [hc]; exact h3, by rw [hc]; exact hg⟩, hm, hf, by rw [hc], fun k hk => ?_⟩
  rw [hc]
  exact ⟨id, Int.le_refl _, fun hh => absurd ⟨rfl, rfl, rfl⟩ hh, hg _ (cliOf_mem (by omega))⟩
/- One client is another one. -/
theorem keeps_cli {W : WB} {x : HapB} {j : Nat} {d : CliB} (h : worldE W = 0) (hj : j < 3) (hd : cliE d = 0) (hF : (cliOf W.cs j).2.2.2 = true → d.2.2.2 = true) (hn : (cliOf W.cs j).1 ≤ d.1)
    (hh : ¬ (d.1 = (cliOf W.cs j).1 ∧ d.2.1 = (cliOf W.cs j).2.1 ∧ d.2.2.1 = (cliOf W.cs j).2.2.1) → x.kind = 3 ∧ x.who = (j : Int)) : Keeps W { W with cs := W.cs.set j d } x := by
  obtain ⟨g0, g1, h3, hg⟩ := (worldE_iff W).1 h
  refine ⟨(worldE_iff _).2 ⟨g0, g1, by simpa using h3, fun c hc => ?_⟩, Nat.le_refl _, List.take_of_length_le (Nat.le_refl _), by simp, fun k hk => ?_⟩
  · rcases List.mem_or_eq_of_mem_set hc with h | rfl
    · exact hg c h
    · exact hd
  · show _ ∧ _ ∧ _ ∧ _
    rw [show ({ W with cs := W.cs.set j d } : WB).cs = W.cs.set j d from rfl, cliOf_set d (by omega)]
    by_cases hkj : k = j
    · subst hkj
      rw [if_pos rfl]
      exact ⟨hF, hn, hh, hd⟩
    · rw [if_neg hkj]
      exact ⟨id, Int.le_refl _, fun hh => absurd ⟨rfl, rfl, rfl⟩ hh, hg _ (cliOf_mem (by omega))⟩
theorem Keeps.trans_fool {W Y Z : WB} {x : HapB} (h1 : Keeps W Y x) (h2 : Keeps Y Z x) (hx : x.kind ≠ 3) : Keeps W Z x := by
  refine ⟨h2.good, Nat.le_trans h1.more h2.more, ?_, h2.same.trans h1.same, fun k hk => ?_⟩
  · have e : Z.b0.take W.b0.length = (Z.b0.take Y.b0.length).take W.b0.length := by rw [List.take_take, Nat.min_eq_left h1.more]
    rw [e, h2.first, h1.first]
  · obtain ⟨a1, a2, a3, _⟩ := h1.each k hk
    obtain ⟨b1, b2, b3, b4⟩ := h2.each k hk
    refine ⟨fun h => b1 (a1 h), Int.le_trans a2 b2, fun hh => ?_, b4⟩
    refine Classical.byContradiction fun hn => hh ?_
    have e1 : ((cliOf Y.cs k).1 = (cliOf W.cs k).1 ∧ (cliOf Y.cs k).2.1 = (cliOf W.cs k).2.1 ∧ (cliOf Y.cs k).2.2.1 = (cliOf W.cs k).2.2.1) := Classical.byContradiction fun h => hx (a3 h).1
    have e2 : ((cliOf Z.cs k).1 = (cliOf Y.cs k).1 ∧ (cliOf Z.cs k).2.1 = (cliOf Y.cs k).2.1 ∧ (cliOf Z.cs k).2.2.1 = (cliOf Y.cs k).2.2.1) := Classical.byContradiction fun h => hx (b3 h).1
    exact ⟨e2.1.trans e1.1, e2.2.1.trans e1.2.1, e2.2.2.trans e1.2.2⟩
theorem side_good {W : WB} (h : worldE W = 0) (s : Int) : GoodBook (sideL W s) := by
  obtain ⟨g0, g1, _, _⟩ := (worldE_iff W).1 h
  unfold sideL
  split
  · exact g0
  · exact g1
theorem cliAt_of {W : WB} {k : Nat} : cliAt W (k : Int) = cliOf W.cs k := by unfold cliAt cliOf; rw [Int.toNat_natCast]
theorem cliE_fool (c : CliB) : cliE (foolC c) = cliE c := rfl
theorem foll_facts {c : CliB} {l : List EntB} {y : List ByteArray} (hc : cliE c = 0) (hl : GoodBook l) (hz : ¬ (follE c l y ≠ 0 ∧ follE c l y ≠ 7)) :
    cliE (follC c l y) = 0 ∧ (c.2.2.2 = true → (follC c l y).2.2.2 = true) ∧ c.1 ≤ (follC c l y).1 := by
  unfold follE at hz
  by_cases h0 : followE c.1 c.2.1 c.2.2.1 (l.length : Int) (headLog l) (headMap l) y = 0
  · obtain ⟨f1, f2, f3, f4⟩ := fol_zero (cf := c.2.2.2) h0
    have hlate : ¬ (l.length : Int) < c.1 := by
      intro hlt
      rw [follow_late (l := y) hc (head_good hl) hlt] at h0
      cases h0
    unfold cliE follC
    simp only
    rw [f1, f2, f3, f4]
    exact ⟨head_good hl, id, by omega⟩
  · have h7 : followE c.1 c.2.1 c.2.2.1 (l.length : Int) (headLog l) (headMap l) y = 7 := Classical.byContradiction fun h => hz ⟨h0, h⟩
    obtain ⟨f1, f2, f3, f4⟩ := fol_seven (cf := c.2.2.2) h7
    unfold cliE follC
    simp only
    rw [f1, f2, f3, f4]
    exact ⟨hc, fun _ => rfl, Int.le_refl _⟩
theorem keeps_foll {W : WB} {x : HapB} (h : worldE W = 0) (hk : x.kind = 3) {j : Nat} (hj : j < 3) (hw : x.who = (j : Int)) (l : List EntB) (hl : GoodBook l) (y : List ByteArray)
    (hz : ¬ (follE (cliOf W.cs j) l y ≠ 0 ∧ follE (cliOf W.cs j) l y ≠ 7)) : Keeps W { W with cs := W.cs.set j (follC (cliOf W.cs j) l y) } x := by
  obtain ⟨_, _, h3, hg⟩ := (worldE_iff W).1 h
  obtain ⟨f1, f2, f3⟩ := foll_facts (hg _ (cliOf_mem (l := W.cs) (i := j) (by omega))) hl hz
  exact keeps_cli h hj f1 f2 f3 (fun _ => ⟨hk, hw⟩)
/- A world stays one; the first book only grows; who is fooled stays so; whose head changes was shown. -/
theorem keeps_do {W : WB} {x : HapB} (h : (doV W x).2 = 0) : Keeps W (doV W x).1 x := by
  have hE := doV_good h
  rw [doV_hap hE] at h ⊢
  obtain ⟨g0, g1, h3, hg⟩ := (worldE_iff W).1 hE
  unfold hapV at h ⊢
  by_cases hk : 1 ≤ x.kind ∧ x.kind ≤ 5
  · rw [if_neg (fun hh => hh hk)] at h ⊢
    by_cases hr : rightX x
    · rw [if_neg (fun hh => hh hr)] at h ⊢
      obtain ⟨r1, r2, r3, r4, r5, r6⟩ := hr
      obtain ⟨j, hj⟩ : ∃ j : Nat, x.who = (j : Int) := ⟨x.who.toNat, by omega⟩
      obtain ⟨i, hi⟩ : ∃ i : Nat, x.other = (i : Int) := ⟨x.other.toNat, by omega⟩
      have hj3 : j < 3 := by omega
      have hi3 : i < 3 := by omega
      by_cases k1 : x.kind = 1
      · rw [if_pos k1] at h ⊢
        by_cases hb : bookE (sideL W x.side ++ [x.e]) = 0
        · rw [if_neg (fun hh => hh hb)]
          have hgb := (bookE_iff _).1 hb
          unfold setSide
          unfold sideL at hgb ⊢
          by_cases s0 : x.side = 0
          · rw [if_pos s0] at hgb
            rw [if_pos s0, if_pos s0]
            exact keeps_books hE rfl hgb g1 (by show _ ≤ (W.b0 ++ [x.e]).length; rw [List.length_append]; omega) (by show (W.b0 ++ [x.e]).take _ = _; rw [List.take_append_of_le_length (Nat.le_refl _), List.take_of_length_le (Nat.le_refl _)])
          · rw [if_neg s0] at hgb
            rw [if_neg s0, if_neg s0]
            exact keeps_books hE rfl g0 hgb (Nat.le_refl _) (List.take_of_length_le (Nat.le_refl _))
        · rw [if_pos hb] at h; exact absurd h hb
      · rw [if_neg k1] at h ⊢
        by_cases k2 : x.kind = 2
        · rw [if_pos k2]
          exact keeps_books hE rfl g0 g0 (Nat.le_refl _) (List.take_of_length_le (Nat.le_refl _))
        · rw [if_neg k2] at h ⊢
          by_cases k3 : x.kind = 3
          · rw [if_pos k3] at h ⊢
            rw [hj] at h ⊢
            rw [cliAt_of] at h ⊢
            by_cases hz : follE (cliOf W.cs j) (sideL W x.side) (growL (sideL W x.side) (cliOf W.cs j).1) ≠ 0 ∧ follE (cliOf W.cs j) (sideL W x.side) (growL (sideL W x.side) (cliOf W.cs j).1) ≠ 7
            · rw [if_pos hz] at h; exact absurd h hz.1
            · rw [if_neg hz]
              have hf := keeps_foll hE k3 hj3 hj (sideL W x.side) (side_good hE _) _ hz
              unfold setCli
              rw [Int.toNat_natCast]
              exact hf
          · rw [if_neg k3] at h ⊢
            by_cases k4 : x.kind = 4
            · rw [if_pos k4]
              by_cases hm : metP W (cliAt W x.who) (cliAt W x.other)
              · rw [if_pos hm]; exact keeps_self hE
              · rw [if_neg hm, hj, hi, cliAt_of, cliAt_of]
                have f1 : Keeps W { W with cs := W.cs.set j (foolC (cliOf W.cs j)) } x := keeps_cli hE hj3 (by rw [cliE_fool]; exact hg _ (cliOf_mem (l := W.cs) (i := j) (by omega))) (fun _ => rfl) (Int.le_refl _) (fun hh => absurd ⟨rfl, rfl, rfl⟩ hh)
                have e : cliOf (W.cs.set j (foolC (cliOf W.cs j))) i = if i = j then foolC (cliOf W.cs j) else cliOf W.cs i := cliOf_set _ (by omega)
                have e' : (cliOf (W.cs.set j (foolC (cliOf W.cs j))) i).1 = (cliOf W.cs i).1 ∧ (cliOf (W.cs.set j (foolC (cliOf W.cs j))) i).2.1 = (cliOf W.cs i).2.1 ∧ (cliOf (W.cs.set j (foolC (cliOf W.cs j))) i).2.2.1 = (cliOf W.cs i).2.2.1 := by
                  rw [e]
                  split
                  · rename_i hij; subst hij; exact ⟨rfl, rfl, rfl⟩
                  · exact ⟨rfl, rfl, rfl⟩
                have f2 : Keeps { W with cs := W.cs.set j (foolC (cliOf W.cs j)) } { W with cs := (W.cs.set j (foolC (cliOf W.cs j))).set i (foolC (cliOf W.cs i)) } x :=
                  keeps_cli f1.good hi3 (by rw [cliE_fool]; exact hg _ (cliOf_mem (l := W.cs) (i := i) (by omega))) (fun _ => rfl) (by show (cliOf (W.cs.set j _) i).1 ≤ (cliOf W.cs i).1; rw [e'.1]; exact Int.le_refl _)
                    (fun hh => absurd ⟨e'.1.symm, e'.2.1.symm, e'.2.2.symm⟩ hh)
                have f3 := f1.trans_fool f2 k3
                unfold setCli
                rw [Int.toNat_natCast, Int.toNat_natCast]
                exact f3
            · rw [if_neg k4] at h ⊢
              by_cases hx : 0 ≤ x.e.1 ∧ x.e.1 < 16
              · rw [if_neg (fun hh => hh hx)] at h ⊢
                by_cases ha : askE (cliAt W x.who) (sideL W x.side) x.e.1 = 0
                · rw [if_neg (fun hh => hh ha)]; exact keeps_self hE
                · rw [if_pos ha] at h; exact absurd h ha
              · rw [if_pos hx] at h; cases h
    · rw [if_pos hr] at h; cases h
  · rw [if_pos hk] at h; cases h
end Go.Proofs.YthhckpnnjegldafDoor
