/-
  Whose head a client's is; where two books part; what a happening does to both.
-/
import Derived.Test.YtnemiobgmdpnmagGreatFmtWorldAll
namespace Go.Proofs.YtnemiobgmdpnmagGreatFmt
open Go Go.RowKit Go.Maps

def zeroH (c : CliB) : Prop := c.1 = 0 ∧ c.2.1 = ⟨#[]⟩ ∧ c.2.2.1 = ⟨#[]⟩
def headIs (l : List EntB) (c : CliB) : Prop := c.1 = (l.length : Int) ∧ c.2.1 = headLog l ∧ c.2.2.1 = headMap l
def isOf (l : List EntB) (c : CliB) : Prop := zeroH c ∨ (c.1 ≤ (l.length : Int) ∧ headIs (l.take c.1.toNat) c)
instance (c : CliB) : Decidable (zeroH c) := inferInstanceAs (Decidable (_ ∧ _ ∧ _))
instance (l : List EntB) (c : CliB) : Decidable (headIs l c) := inferInstanceAs (Decidable (_ ∧ _ ∧ _))
instance (l : List EntB) (c : CliB) : Decidable (isOf l c) := inferInstanceAs (Decidable (_ ∨ _))
abbrev ofP (who side : Int) : Prop := 0 ≤ who ∧ who ≤ 2 ∧ 0 ≤ side ∧ side ≤ 1
def ofE (W : WB) (who side : Int) : Int := if worldE W ≠ 0 then worldE W else if ¬ ofP who side then 5 else 0
def ofB (W : WB) (who side : Int) : Bool := if ofE W who side = 0 then decide (isOf (sideL W side) (cliAt W who)) else false
def splitN : List EntB → List EntB → Nat
  | a :: l, b :: m => if a = b then splitN l m + 1 else 0
  | _, _ => 0
def splitW (W : WB) : Nat := if worldE W = 0 then splitN W.b0 W.b1 else 0
theorem split_le : ∀ l m : List EntB, splitN l m ≤ l.length ∧ splitN l m ≤ m.length
  | [], _ => by simp [splitN]
  | _ :: _, [] => by simp [splitN]
  | a :: l, b :: m => by
    unfold splitN
    have := split_le l m
    split <;> simp only [List.length_cons] <;> omega
theorem split_take : ∀ l m : List EntB, l.take (splitN l m) = m.take (splitN l m)
  | [], _ => by simp [splitN]
  | _ :: _, [] => by simp [splitN]
  | a :: l, b :: m => by
    unfold splitN
    split
    · next h => rw [List.take_succ_cons, List.take_succ_cons, split_take l m, h]
    · rfl
theorem split_max : ∀ (k : Nat) (l m : List EntB), l.take k = m.take k → k ≤ l.length → k ≤ m.length → k ≤ splitN l m
  | 0, _, _, _, _, _ => Nat.zero_le _
  | k + 1, [], _, _, h, _ => by simp at h
  | k + 1, _ :: _, [], _, _, h => by simp at h
  | k + 1, a :: l, b :: m, h, h1, h2 => by
    rw [List.take_succ_cons, List.take_succ_cons] at h
    injection h with e h
    unfold splitN
    rw [if_pos e]
    have := split_max k l m h (by simpa using h1) (by simpa using h2)
    omega
theorem split_self : ∀ l : List EntB, splitN l l = l.length
  | [] => rfl
  | a :: l => by unfold splitN; rw [if_pos rfl, split_self l]; rfl
theorem split_snoc : ∀ (l : List EntB) (x y : EntB), splitN (l ++ [x]) (l ++ [y]) = if x = y then l.length + 1 else l.length
  | [], x, y => by simp [splitN]
  | a :: l, x, y => by
    show splitN (a :: (l ++ [x])) (a :: (l ++ [y])) = _
    unfold splitN
    rw [if_pos rfl, split_snoc l x y]
    split <;> rfl
theorem head_one {l m : List EntB} {c : CliB} (hl : GoodBook l) (hm : GoodBook m) (h : headIs l c) (h' : headIs m c) : l = m := headLog_inj hl hm (h.2.1.symm.trans h'.2.1)
theorem cli_num {c : CliB} (h : cliE c = 0) : 0 ≤ c.1 := ((headE_iff _ _ _).1 h).1
theorem isOf_pos {l : List EntB} {c : CliB} (h : isOf l c) (h0 : c.1 ≠ 0) : c.1 ≤ (l.length : Int) ∧ headIs (l.take c.1.toNat) c := by
  rcases h with h | h
  · exact absurd h.1 h0
  · exact h
/- Two heads of one book are shown to be. -/
theorem met_one {p q : CliB} (hp : cliE p = 0) (hq : cliE q = 0) {l : List EntB} (hl : GoodBook l) (h1 : isOf l p) (h2 : isOf l q) : metE p q [] = 0 ∨ metBy p q l := by
  have n1 := cli_num hp
  have n2 := cli_num hq
  by_cases h0 : p.1 = 0 ∨ q.1 = 0
  · left
    unfold metE meetE
    rw [if_neg (fun hh => hh hp), if_neg (fun hh => hh hq)]
    by_cases hlt : q.1 < p.1
    · rw [if_pos hlt]
      unfold pairE
      rw [if_pos (by omega), if_pos rfl]
    · rw [if_neg hlt]
      unfold pairE
      rw [if_pos (by omega), if_pos rfl]
  · right
    obtain ⟨a1, b1, c1, d1⟩ := isOf_pos h1 (fun h => h0 (.inl h))
    obtain ⟨a2, b2, c2, d2⟩ := isOf_pos h2 (fun h => h0 (.inr h))
    obtain ⟨pn, pa, pb, pf⟩ := p
    obtain ⟨qn, qa, qb, qf⟩ := q
    simp only at h0 n1 n2 a1 b1 c1 d1 a2 b2 c2 d2
    obtain ⟨k1, rfl⟩ : ∃ k : Nat, pn = (k : Int) := ⟨pn.toNat, by omega⟩
    obtain ⟨k2, rfl⟩ : ∃ k : Nat, qn = (k : Int) := ⟨qn.toNat, by omega⟩
    rw [Int.toNat_natCast] at c1 d1 c2 d2
    refine ⟨by show max (k1 : Int) (k2 : Int) ≤ _; omega, ?_⟩
    show meetE (k1 : Int) pa pb (k2 : Int) qa qb (growL (l.take (max (k1 : Int) (k2 : Int)).toNat) (min (k1 : Int) (k2 : Int))) = 0
    by_cases hle : k1 ≤ k2
    · have e1 : (max (k1 : Int) (k2 : Int)).toNat = k2 := by omega
      have e2 : min (k1 : Int) (k2 : Int) = (k1 : Int) := by omega
      have e3 : (l.take k2).length = k2 := by rw [List.length_take]; omega
      have e4 : (l.take k2).take k1 = l.take k1 := by rw [List.take_take, Nat.min_eq_left hle]
      rw [e1, e2, show growL (l.take k2) (k1 : Int) = growS (textsE (l.take k2)) k1 true by unfold growL; rw [if_pos ⟨by omega, by omega⟩, Int.toNat_natCast]]
      have hm := (meet_on (good_take hl k2) (n := k1) (by omega) (by omega)).1
      rw [e3, e4] at hm
      rw [c1, d1, c2, d2]
      exact hm
    · have e1 : (max (k1 : Int) (k2 : Int)).toNat = k1 := by omega
      have e2 : min (k1 : Int) (k2 : Int) = (k2 : Int) := by omega
      have e3 : (l.take k1).length = k1 := by rw [List.length_take]; omega
      have e4 : (l.take k1).take k2 = l.take k2 := by rw [List.take_take, Nat.min_eq_left (by omega)]
      rw [e1, e2, show growL (l.take k1) (k2 : Int) = growS (textsE (l.take k1)) k2 true by unfold growL; rw [if_pos ⟨by omega, by omega⟩, Int.toNat_natCast]]
      have hm := (meet_on (good_take hl k1) (n := k2) (by omega) (by omega)).2
      rw [e3, e4] at hm
      rw [c1, d1, c2, d2]
      exact hm
/- Heads of books that parted, of more entries than both have alike, are never shown to be of one. -/
theorem met_never {p q : CliB} (hp : cliE p = 0) (hq : cliE q = 0) {l m : List EntB} (hl : GoodBook l) (hm : GoodBook m) (h1 : isOf l p) (h2 : isOf m q) {n : Nat} (hn : ∀ k, l.take k = m.take k → k ≤ l.length → k ≤ m.length → k ≤ n) (h3 : (n : Int) < p.1) (h4 : (n : Int) < q.1) (y : List ByteArray) : metE p q y ≠ 0 := by
  have n1 := cli_num hp
  have n2 := cli_num hq
  obtain ⟨a1, b1, c1, d1⟩ := isOf_pos h1 (by omega)
  obtain ⟨a2, b2, c2, d2⟩ := isOf_pos h2 (by omega)
  obtain ⟨pn, pa, pb, pf⟩ := p
  obtain ⟨qn, qa, qb, qf⟩ := q
  simp only at h3 h4 n1 n2 a1 b1 c1 d1 a2 b2 c2 d2
  obtain ⟨k1, rfl⟩ : ∃ k : Nat, pn = (k : Int) := ⟨pn.toNat, by omega⟩
  obtain ⟨k2, rfl⟩ : ∃ k : Nat, qn = (k : Int) := ⟨qn.toNat, by omega⟩
  rw [Int.toNat_natCast] at c1 d1 c2 d2
  intro h
  have h : meetE (k1 : Int) pa pb (k2 : Int) qa qb y = 0 := h
  have e1 : (l.take k1).length = k1 := by rw [List.length_take]; omega
  have e2 : (m.take k2).length = k2 := by rw [List.length_take]; omega
  have ht := meet_true (good_take hl k1) (good_take hm k2) (x := y) (by rw [e1, e2, ← c1, ← d1, ← c2, ← d2]; exact h) (k := min k1 k2) (by rw [e1, e2])
  have e5 : (l.take k1).take (min k1 k2) = l.take (min k1 k2) := by rw [List.take_take]; congr 1; omega
  have e6 : (m.take k2).take (min k1 k2) = m.take (min k1 k2) := by rw [List.take_take]; congr 1; omega
  rw [e5, e6] at ht
  have := hn (min k1 k2) ht (by omega) (by omega)
  omega
/- What a happening without an error is. -/
theorem do_right {W : WB} {x : HapB} (h : (doV W x).2 = 0) : worldE W = 0 ∧ (1 ≤ x.kind ∧ x.kind ≤ 5) ∧ rightX x := by
  by_cases hc : chkW W x = 0
  · exact chkW_ok hc
  · rw [doV_bad hc] at h; exact absurd h hc
theorem cliOf_fool {l : List CliB} {j : Nat} {k : Nat} (hj : j < l.length) : ((cliOf (l.set j (foolC (cliOf l j))) k).1 = (cliOf l k).1 ∧ (cliOf (l.set j (foolC (cliOf l j))) k).2.1 = (cliOf l k).2.1 ∧ (cliOf (l.set j (foolC (cliOf l j))) k).2.2.1 = (cliOf l k).2.2.1) := by
  rw [cliOf_set _ hj]
  split
  · next h => subst h; exact ⟨rfl, rfl, rfl⟩
  · exact ⟨rfl, rfl, rfl⟩
theorem isOf_same {l : List EntB} {c d : CliB} (h : c.1 = d.1 ∧ c.2.1 = d.2.1 ∧ c.2.2.1 = d.2.2.1) : isOf l c ↔ isOf l d := by
  unfold isOf zeroH headIs
  rw [h.1, h.2.1, h.2.2]
theorem fool_two (l : List CliB) {j i : Nat} (hj : j < l.length) (hi : i < l.length) (k : Nat) : (cliOf ((l.set j (foolC (cliOf l j))).set i (foolC (cliOf l i))) k).1 = (cliOf l k).1 ∧ (cliOf ((l.set j (foolC (cliOf l j))).set i (foolC (cliOf l i))) k).2.1 = (cliOf l k).2.1 ∧ (cliOf ((l.set j (foolC (cliOf l j))).set i (foolC (cliOf l i))) k).2.2.1 = (cliOf l k).2.2.1 := by
  rw [cliOf_set _ (by rw [List.length_set]; exact hi), cliOf_set _ hj]
  split
  · next h => subst h; exact ⟨rfl, rfl, rfl⟩
  · split
    · next h => subst h; exact ⟨rfl, rfl, rfl⟩
    · exact ⟨rfl, rfl, rfl⟩
theorem fool_flags (l : List CliB) {j i : Nat} (hj : j < l.length) (hi : i < l.length) : (cliOf ((l.set j (foolC (cliOf l j))).set i (foolC (cliOf l i))) j).2.2.2 = true ∧ (cliOf ((l.set j (foolC (cliOf l j))).set i (foolC (cliOf l i))) i).2.2.2 = true := by
  rw [cliOf_set _ (by rw [List.length_set]; exact hi), cliOf_set _ hj, cliOf_set _ (by rw [List.length_set]; exact hi), if_pos rfl, if_pos rfl]
  refine ⟨?_, rfl⟩
  split <;> rfl
section
variable {W : WB} {s j i : Nat} {e : EntB}
/- A meeting: who is of one book learns nothing new; who is of two that parted is fooled. -/
theorem meet_same (hG : worldE W = 0) (hs : s < 2) (hj : j < 3) (hi : i < 3)
    (h : (isOf (hapV W ⟨4, s, j, i, e⟩).1.b0 (cliOf (hapV W ⟨4, s, j, i, e⟩).1.cs j) ∧ isOf (hapV W ⟨4, s, j, i, e⟩).1.b0 (cliOf (hapV W ⟨4, s, j, i, e⟩).1.cs i)) ∨
      (isOf (hapV W ⟨4, s, j, i, e⟩).1.b1 (cliOf (hapV W ⟨4, s, j, i, e⟩).1.cs j) ∧ isOf (hapV W ⟨4, s, j, i, e⟩).1.b1 (cliOf (hapV W ⟨4, s, j, i, e⟩).1.cs i))) : (hapV W ⟨4, s, j, i, e⟩).1 = W := by
  obtain ⟨g0, g1, h3, hc⟩ := (worldE_iff W).1 hG
  rw [hapV_meet hs hj hi] at h ⊢
  by_cases hm : metP W (cliOf W.cs j) (cliOf W.cs i)
  · rw [if_pos hm]
  · rw [if_neg hm] at h
    refine absurd ?_ hm
    have f1 := fool_two W.cs (j := j) (i := i) (by omega) (by omega) j
    have f2 := fool_two W.cs (j := j) (i := i) (by omega) (by omega) i
    have c1 := hc _ (cliOf_mem (l := W.cs) (i := j) (by omega))
    have c2 := hc _ (cliOf_mem (l := W.cs) (i := i) (by omega))
    simp only [isOf_same f1, isOf_same f2] at h
    rcases h with ⟨x, y⟩ | ⟨x, y⟩
    · rcases met_one c1 c2 g0 x y with h | h
      · exact .inl h
      · exact .inr (.inl h)
    · rcases met_one c1 c2 g1 x y with h | h
      · exact .inl h
      · exact .inr (.inr h)
theorem meet_fooled (hG : worldE W = 0) (hs : s < 2) (hj : j < 3) (hi : i < 3)
    (h1 : (splitN (hapV W ⟨4, s, j, i, e⟩).1.b0 (hapV W ⟨4, s, j, i, e⟩).1.b1 : Int) < (cliOf (hapV W ⟨4, s, j, i, e⟩).1.cs j).1) (h2 : (splitN (hapV W ⟨4, s, j, i, e⟩).1.b0 (hapV W ⟨4, s, j, i, e⟩).1.b1 : Int) < (cliOf (hapV W ⟨4, s, j, i, e⟩).1.cs i).1)
    (h : (isOf (hapV W ⟨4, s, j, i, e⟩).1.b0 (cliOf (hapV W ⟨4, s, j, i, e⟩).1.cs j) ∧ isOf (hapV W ⟨4, s, j, i, e⟩).1.b1 (cliOf (hapV W ⟨4, s, j, i, e⟩).1.cs i)) ∨
      (isOf (hapV W ⟨4, s, j, i, e⟩).1.b1 (cliOf (hapV W ⟨4, s, j, i, e⟩).1.cs j) ∧ isOf (hapV W ⟨4, s, j, i, e⟩).1.b0 (cliOf (hapV W ⟨4, s, j, i, e⟩).1.cs i))) :
    (cliOf (hapV W ⟨4, s, j, i, e⟩).1.cs j).2.2.2 = true ∧ (cliOf (hapV W ⟨4, s, j, i, e⟩).1.cs i).2.2.2 = true := by
  obtain ⟨g0, g1, h3, hc⟩ := (worldE_iff W).1 hG
  have c1 := hc _ (cliOf_mem (l := W.cs) (i := j) (by omega))
  have c2 := hc _ (cliOf_mem (l := W.cs) (i := i) (by omega))
  rw [hapV_meet hs hj hi] at h1 h2 h ⊢
  by_cases hm : metP W (cliOf W.cs j) (cliOf W.cs i)
  · exfalso
    rw [if_pos hm] at h1 h2 h
    have key : ∀ y, metE (cliOf W.cs j) (cliOf W.cs i) y ≠ 0 := by
      rcases h with ⟨x, y⟩ | ⟨x, y⟩
      · exact met_never c1 c2 g0 g1 x y (fun k => split_max k _ _) h1 h2
      · exact met_never c1 c2 g1 g0 x y (fun k a b c => split_max k _ _ a.symm c b) h1 h2
    rcases hm with h | h | h
    · exact key _ h
    · exact key _ h.2
    · exact key _ h.2
  · rw [if_neg hm]
    exact fool_flags W.cs (by omega) (by omega)
end
/- One book: nobody is fooled, and all go by its heads. -/
def Honest (W : WB) : Prop := worldE W = 0 ∧ ∀ k, k < 3 → isOf W.b0 (cliOf W.cs k) ∧ (cliOf W.cs k).2.2.2 = false
theorem new_good : worldE newW = 0 := (worldE_iff newW).2 ⟨⟨by decide, fun e h => by simp [newW] at h⟩, ⟨by decide, fun e h => by simp [newW] at h⟩, rfl, fun c hc => by
  simp only [newW, List.mem_cons, List.not_mem_nil, or_false, or_self] at hc
  subst hc
  exact (headE_iff _ _ _).2 ⟨by decide, by decide, by decide, by decide⟩⟩
theorem honest_new : Honest newW := ⟨new_good, fun k hk => by
  have : cliOf newW.cs k = zeroC := by
    unfold cliOf newW
    match k, hk with
    | 0, _ => rfl
    | 1, _ => rfl
    | 2, _ => rfl
  rw [this]
  exact ⟨.inl ⟨rfl, rfl, rfl⟩, rfl⟩⟩
theorem isOf_more {l : List EntB} {c : CliB} (x : EntB) (h : isOf l c) (h0 : 0 ≤ c.1) : isOf (l ++ [x]) c := by
  rcases h with h | ⟨h1, h2⟩
  · exact .inl h
  · refine .inr ⟨by rw [List.length_append]; simp only [List.length_cons, List.length_nil]; omega, ?_⟩
    rw [List.take_append_of_le_length (by omega)]
    exact h2
theorem foll_honest {c : CliB} (hc : cliE c = 0) {l : List EntB} (hl : GoodBook l) (h : isOf l c) : follE c l (growL l c.1) = 0 := by
  have n1 := cli_num hc
  unfold follE
  have hn : c.1 ≤ (l.length : Int) := by
    rcases h with h | h
    · rw [h.1]; omega
    · exact h.1
  refine follow_yes hc (head_good hl) (by omega) ?_
  by_cases h0 : c.1 = 0
  · unfold goodF
    rw [if_pos h0]
    unfold growL
    rw [if_neg (by omega)]
  · obtain ⟨a1, b1, c1, d1⟩ := isOf_pos h h0
    obtain ⟨k, hk⟩ : ∃ k : Nat, c.1 = (k : Int) := ⟨c.1.toNat, by omega⟩
    rw [hk, Int.toNat_natCast] at c1 d1
    have hf := follow_on hl (m := k) (n := l.length) (by omega) (Nat.le_refl _)
    rw [List.take_of_length_le (Nat.le_refl l.length)] at hf
    unfold nextS at hf
    rw [if_neg (by omega), List.take_of_length_le (Nat.le_refl l.length)] at hf
    rw [hk, c1, d1]
    rw [show growL l (k : Int) = growS (textsE l) k true by unfold growL; rw [if_pos ⟨by omega, by omega⟩, Int.toNat_natCast]]
    exact hf
theorem honest_set {W : WB} (h : Honest W) {j : Nat} (hj : j < 3) {d : CliB} (hd : cliE d = 0) (ho : isOf W.b0 d) (hf : d.2.2.2 = false) : Honest { W with cs := W.cs.set j d } := by
  obtain ⟨hG, hk⟩ := h
  obtain ⟨g0, g1, h3, hc⟩ := (worldE_iff W).1 hG
  refine ⟨(worldE_iff _).2 ⟨g0, g1, by simpa using h3, fun c hc' => ?_⟩, fun k hk3 => ?_⟩
  · rcases List.mem_or_eq_of_mem_set hc' with h | rfl
    · exact hc c h
    · exact hd
  · show isOf W.b0 (cliOf (W.cs.set j d) k) ∧ (cliOf (W.cs.set j d) k).2.2.2 = false
    rw [cliOf_set d (by omega)]
    split
    · exact ⟨ho, hf⟩
    · exact hk k hk3
theorem honest_do {W : WB} {x : HapB} (h : Honest W) (hs : x.side = 0) (hk2 : x.kind ≠ 2) (h0 : (doV W x).2 = 0) : Honest (doV W x).1 := by
  obtain ⟨hG, hk, hr⟩ := do_right h0
  have hkeep := (keeps_do h0).good
  rw [doV_hap hG] at h0 hkeep ⊢
  obtain ⟨g0, g1, h3, hc⟩ := (worldE_iff W).1 hG
  obtain ⟨xk, xs, xw, xo, xe⟩ := x
  obtain ⟨r1, r2, r3, r4, r5, r6⟩ := hr
  simp only at hs hk2 hk r1 r2 r3 r4 r5 r6
  subst hs
  obtain ⟨j, rfl⟩ : ∃ s : Nat, xw = (s : Int) := ⟨xw.toNat, by omega⟩
  obtain ⟨i, rfl⟩ : ∃ s : Nat, xo = (s : Int) := ⟨xo.toNat, by omega⟩
  have hj : j < 3 := by omega
  have hi : i < 3 := by omega
  have cj := hc _ (cliOf_mem (l := W.cs) (i := j) (by omega))
  rcases (show xk = 1 ∨ xk = 3 ∨ xk = 4 ∨ xk = 5 by omega) with rfl | rfl | rfl | rfl
  · have e := hapV_put (W := W) (s := 0) (j := j) (i := i) (e := xe) (by decide) hj hi
    have e : hapV W ⟨1, 0, j, i, xe⟩ = _ := e
    rw [e] at h0 hkeep ⊢
    by_cases hz : bookE (sideL W ((0 : Nat) : Int) ++ [xe]) = 0
    · rw [if_neg (fun hh => hh hz)] at h0 hkeep ⊢
      refine ⟨hkeep, fun k hk => ?_⟩
      obtain ⟨a, b⟩ := h.2 k hk
      have ck := hc _ (cliOf_mem (l := W.cs) (i := k) (by omega))
      exact ⟨isOf_more xe a (cli_num ck), b⟩
    · rw [if_pos hz] at h0
      exact absurd h0 hz
  · have e := hapV_show (W := W) (s := 0) (j := j) (i := i) (e := xe) (by decide) hj hi
    have e : hapV W ⟨3, 0, j, i, xe⟩ = _ := e
    obtain ⟨a, b⟩ := h.2 j hj
    have hf : follE (cliOf W.cs j) (sideL W ((0 : Nat) : Int)) (growL (sideL W ((0 : Nat) : Int)) (cliOf W.cs j).1) = 0 := foll_honest cj g0 a
    rw [if_neg (fun hh => hh.1 hf)] at e
    rw [e]
    obtain ⟨f1, f2, f3, f4⟩ := fol_zero (cf := (cliOf W.cs j).2.2.2) hf
    refine honest_set h hj ?_ ?_ ?_
    · show headE _ _ _ = 0
      unfold follC
      simp only
      rw [f1, f2, f3]
      exact head_good g0
    · refine .inr ⟨?_, ?_⟩
      · unfold follC
        simp only
        rw [f1]
        exact Int.le_refl _
      · unfold follC headIs
        simp only
        rw [f1, f2, f3, Int.toNat_natCast]
        show _ = ((List.take W.b0.length W.b0).length : Int) ∧ _ = headLog (List.take W.b0.length W.b0) ∧ _ = headMap (List.take W.b0.length W.b0)
        rw [List.take_of_length_le (Nat.le_refl _)]
        exact ⟨rfl, rfl, rfl⟩
    · unfold follC
      simp only
      rw [f4]
      exact b
  · have e := hapV_meet (W := W) (s := 0) (j := j) (i := i) (e := xe) (by decide) hj hi
    have e : hapV W ⟨4, 0, j, i, xe⟩ = _ := e
    have ci := hc _ (cliOf_mem (l := W.cs) (i := i) (by omega))
    have hm : metP W (cliOf W.cs j) (cliOf W.cs i) := by
      rcases met_one cj ci g0 (h.2 j hj).1 (h.2 i hi).1 with h | h
      · exact .inl h
      · exact .inr (.inl h)
    rw [if_pos hm] at e
    rw [e]
    exact h
  · by_cases hx : 0 ≤ xe.1 ∧ xe.1 < 16
    · obtain ⟨k, v⟩ := xe
      simp only at hx
      obtain ⟨k, rfl⟩ : ∃ s : Nat, k = (s : Int) := ⟨k.toNat, by omega⟩
      have e := hapV_ask (W := W) (s := 0) (j := j) (i := i) (v := v) (k := k) (by decide) hj hi (by omega)
      have e : hapV W ⟨5, 0, j, i, ((k : Int), v)⟩ = _ := e
      rw [e] at h0 ⊢
      by_cases hz : askE (cliOf W.cs j) (sideL W ((0 : Nat) : Int)) k = 0
      · rw [if_neg (fun hh => hh hz)]
        exact h
      · rw [if_pos hz] at h0
        exact absurd h0 hz
    · have e := hapV_out (W := W) (s := 0) (j := j) (i := i) (e := xe) (by decide) hj hi hx
      have e : hapV W ⟨5, 0, j, i, xe⟩ = _ := e
      rw [e] at h0
      exact absurd h0 (by decide)
/- Who follows: of which entries each client's head is. -/
def ofK (o : List (List EntB)) (k : Nat) : List EntB := o.getD k []
def FolI (W : WB) (o : List (List EntB)) : Prop := worldE W = 0 ∧ o.length = 3 ∧ ∀ k, k < 3 → GoodBook (ofK o k) ∧ (((cliOf W.cs k).1 = 0 ∧ ofK o k = []) ∨ headIs (ofK o k) (cliOf W.cs k))
theorem good_nil : GoodBook [] := ⟨by decide, fun _ h => (List.not_mem_nil h).elim⟩
theorem fol_new : FolI newW [[], [], []] := ⟨new_good, rfl, fun k hk => by
  have e : ofK [[], [], []] k = [] := by
    match k, hk with
    | 0, _ => rfl
    | 1, _ => rfl
    | 2, _ => rfl
  rw [e]
  refine ⟨good_nil, .inl ⟨?_, rfl⟩⟩
  match k, hk with
  | 0, _ => rfl
  | 1, _ => rfl
  | 2, _ => rfl⟩
theorem headIs_same {l : List EntB} {c d : CliB} (h : c.1 = d.1 ∧ c.2.1 = d.2.1 ∧ c.2.2.1 = d.2.2.1) : headIs l c ↔ headIs l d := by
  unfold headIs
  rw [h.1, h.2.1, h.2.2]
theorem fol_heads {W Y : WB} {o : List (List EntB)} (h : FolI W o) (hY : worldE Y = 0) (hs : ∀ k, k < 3 → (cliOf Y.cs k).1 = (cliOf W.cs k).1 ∧ (cliOf Y.cs k).2.1 = (cliOf W.cs k).2.1 ∧ (cliOf Y.cs k).2.2.1 = (cliOf W.cs k).2.2.1) : FolI Y o := by
  refine ⟨hY, h.2.1, fun k hk => ?_⟩
  obtain ⟨g, h⟩ := h.2.2 k hk
  rw [headIs_same (hs k hk), (hs k hk).1]
  exact ⟨g, h⟩
/- What a client is that was shown a head. -/
theorem shown_is {W : WB} {s j i : Nat} {e : EntB} (hs : s < 2) (hj : j < 3) (hi : i < 3) (hG : worldE W = 0) (h0 : (hapV W ⟨3, s, j, i, e⟩).2 = 0) :
    (hapV W ⟨3, s, j, i, e⟩).1.b0 = W.b0 ∧ (hapV W ⟨3, s, j, i, e⟩).1.b1 = W.b1 ∧ ((headIs (sideL W s) (cliOf (hapV W ⟨3, s, j, i, e⟩).1.cs j) ∧ followE (cliOf W.cs j).1 (cliOf W.cs j).2.1 (cliOf W.cs j).2.2.1 ((sideL W s).length : Int) (headLog (sideL W s)) (headMap (sideL W s)) (growL (sideL W s) (cliOf W.cs j).1) = 0) ∨
      ((cliOf (hapV W ⟨3, s, j, i, e⟩).1.cs j).1 = (cliOf W.cs j).1 ∧ (cliOf (hapV W ⟨3, s, j, i, e⟩).1.cs j).2.1 = (cliOf W.cs j).2.1 ∧ (cliOf (hapV W ⟨3, s, j, i, e⟩).1.cs j).2.2.1 = (cliOf W.cs j).2.2.1)) := by
  obtain ⟨g0, g1, h3, hc⟩ := (worldE_iff W).1 hG
  rw [hapV_show hs hj hi] at h0 ⊢
  by_cases hz : follE (cliOf W.cs j) (sideL W s) (growL (sideL W s) (cliOf W.cs j).1) ≠ 0 ∧ follE (cliOf W.cs j) (sideL W s) (growL (sideL W s) (cliOf W.cs j).1) ≠ 7
  · rw [if_pos hz] at h0
    exact absurd h0 hz.1
  · rw [if_neg hz]
    refine ⟨rfl, rfl, ?_⟩
    show (headIs (sideL W s) (cliOf (W.cs.set j _) j) ∧ _) ∨ ((cliOf (W.cs.set j _) j).1 = _ ∧ (cliOf (W.cs.set j _) j).2.1 = _ ∧ (cliOf (W.cs.set j _) j).2.2.1 = _)
    rw [cliOf_set _ (by omega), if_pos rfl]
    by_cases hf : followE (cliOf W.cs j).1 (cliOf W.cs j).2.1 (cliOf W.cs j).2.2.1 ((sideL W s).length : Int) (headLog (sideL W s)) (headMap (sideL W s)) (growL (sideL W s) (cliOf W.cs j).1) = 0
    · obtain ⟨f1, f2, f3, _⟩ := fol_zero (cf := (cliOf W.cs j).2.2.2) hf
      exact .inl ⟨⟨f1, f2, f3⟩, hf⟩
    · have h7 : followE (cliOf W.cs j).1 (cliOf W.cs j).2.1 (cliOf W.cs j).2.2.1 ((sideL W s).length : Int) (headLog (sideL W s)) (headMap (sideL W s)) (growL (sideL W s) (cliOf W.cs j).1) = 7 := Classical.byContradiction fun h => hz ⟨hf, h⟩
      obtain ⟨f1, f2, f3, _⟩ := fol_seven (cf := (cliOf W.cs j).2.2.2) h7
      exact .inr ⟨f1, f2, f3⟩
theorem side_same {W Y : WB} (h0 : Y.b0 = W.b0) (h1 : Y.b1 = W.b1) (s : Int) : sideL Y s = sideL W s := by unfold sideL; rw [h0, h1]
theorem fol_keep {W : WB} {x : HapB} {o : List (List EntB)} (h : FolI W o) (h0 : (doV W x).2 = 0) (hn : x.kind = 3 → ¬ headIs (sideL (doV W x).1 x.side) (cliAt (doV W x).1 x.who)) : FolI (doV W x).1 o := by
  have hk := keeps_do h0
  refine fol_heads h hk.good fun k hk3 => ?_
  refine Classical.byContradiction fun hd => ?_
  obtain ⟨e1, e2⟩ := (hk.each k hk3).2.2.1 hd
  obtain ⟨hG, _, hr⟩ := do_right h0
  rw [doV_hap hG] at h0 hn hd
  obtain ⟨xk, xs, xw, xo, xe⟩ := x
  obtain ⟨r1, r2, r3, r4, r5, r6⟩ := hr
  simp only at e1 e2 r1 r2 r3 r4 r5 r6 hn
  subst e1 e2
  obtain ⟨s, rfl⟩ : ∃ s : Nat, xs = (s : Int) := ⟨xs.toNat, by omega⟩
  obtain ⟨i, rfl⟩ : ∃ s : Nat, xo = (s : Int) := ⟨xo.toNat, by omega⟩
  have hn := hn rfl
  obtain ⟨b0, b1, hh⟩ := shown_is (e := xe) (s := s) (j := k) (i := i) (by omega) hk3 (by omega) hG h0
  rw [cliAt_of, side_same b0 b1] at hn
  rcases hh with ⟨hh, _⟩ | hh
  · exact hn hh
  · exact hd hh
theorem ofK_set {o : List (List EntB)} {j k : Nat} {l : List EntB} (h : j < o.length) : ofK (o.set j l) k = if k = j then l else ofK o k := by
  unfold ofK
  rw [List.getD_eq_getElem?_getD, List.getD_eq_getElem?_getD, List.getElem?_set]
  by_cases hk : j = k
  · subst hk; rw [if_pos rfl, if_pos rfl, if_pos h]; rfl
  · rw [if_neg hk, if_neg (fun e => hk e.symm)]
theorem fol_step {W : WB} {x : HapB} {o : List (List EntB)} {j : Nat} (h : FolI W o) (h0 : (doV W x).2 = 0) (hk : x.kind = 3) (hj : x.who = (j : Int)) (hh : headIs (sideL (doV W x).1 x.side) (cliAt (doV W x).1 x.who)) :
    (ofK o j).length ≤ (sideL (doV W x).1 x.side).length ∧ ofK o j = (sideL (doV W x).1 x.side).take (ofK o j).length ∧ FolI (doV W x).1 (o.set j (sideL (doV W x).1 x.side)) := by
  have hkp := keeps_do h0
  obtain ⟨hG, _, hr⟩ := do_right h0
  have hE := hkp.each
  have hgood := hkp.good
  rw [doV_hap hG] at h0 hh hE hgood ⊢
  obtain ⟨xk, xs, xw, xo, xe⟩ := x
  obtain ⟨r1, r2, r3, r4, r5, r6⟩ := hr
  simp only at hk hj r1 r2 r3 r4 r5 r6 hh hE hgood ⊢
  subst hk hj
  obtain ⟨s, rfl⟩ : ∃ s : Nat, xs = (s : Int) := ⟨xs.toNat, by omega⟩
  obtain ⟨i, rfl⟩ : ∃ s : Nat, xo = (s : Int) := ⟨xo.toNat, by omega⟩
  have hj3 : j < 3 := by omega
  obtain ⟨b0, b1, hs⟩ := shown_is (e := xe) (s := s) (j := j) (i := i) (by omega) hj3 (by omega) hG h0
  have hgl := side_good hgood (s : Int)
  obtain ⟨go, ho⟩ := h.2.2 j hj3
  rw [cliAt_of] at hh
  refine (and_assoc.1 ⟨?_, ?_⟩)
  · rw [side_same b0 b1] at hh hgl ⊢
    rcases ho with ⟨z, e⟩ | ho
    · rw [e]; exact ⟨Nat.zero_le _, rfl⟩
    rcases hs with ⟨_, hf⟩ | hs
    · rcases Nat.eq_zero_or_pos (ofK o j).length with hz | hz
      · rw [List.length_eq_zero_iff.1 hz]; exact ⟨Nat.zero_le _, rfl⟩
      · rw [ho.1, ho.2.1, ho.2.2] at hf
        exact follow_true go hgl hz hf
    · have e := head_one go hgl ho ((headIs_same hs).1 hh)
      rw [e]
      exact ⟨Nat.le_refl _, (List.take_of_length_le (Nat.le_refl _)).symm⟩
  · refine ⟨hgood, by rw [List.length_set]; exact h.2.1, fun k hk3 => ?_⟩
    rw [ofK_set (by rw [h.2.1]; exact hj3)]
    by_cases hkj : k = j
    · subst hkj
      rw [if_pos rfl]
      exact ⟨hgl, .inr hh⟩
    · rw [if_neg hkj]
      obtain ⟨g, hk'⟩ := h.2.2 k hk3
      have e : (cliOf (hapV W ⟨3, s, j, i, xe⟩).1.cs k).1 = (cliOf W.cs k).1 ∧ (cliOf (hapV W ⟨3, s, j, i, xe⟩).1.cs k).2.1 = (cliOf W.cs k).2.1 ∧ (cliOf (hapV W ⟨3, s, j, i, xe⟩).1.cs k).2.2.1 = (cliOf W.cs k).2.2.1 :=
        Classical.byContradiction fun hd => by have := ((hE k hk3).2.2.1 hd).2; omega
      rw [headIs_same e, e.1]
      exact ⟨g, hk'⟩
end Go.Proofs.YtnemiobgmdpnmagGreatFmt
