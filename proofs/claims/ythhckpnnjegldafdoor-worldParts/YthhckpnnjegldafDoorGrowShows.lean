/-
  Package grow's Shows: what is left of the seals in a box of its own, the two seals made again.
-/
import Derived.Test.YthhckpnnjegldafDoorGrow
namespace Go.Proofs.YthhckpnnjegldafDoor
open Go Go.RowKit

/- The box: the old seal, and what is left. -/
structure PAt (w : World) (b : Nat) (old : ByteArray) (a : Option Addr) (j c : Nat) : Prop where
  lt : b < w.heap.size
  old : w.cell? ⟨b, 0, none⟩ = some (.string old)
  rest : w.cell? ⟨b, 1, none⟩ = some (.slice a j c)
  soft : w.frozen? ⟨b, 1, none⟩ = false
theorem PAt.on {w w' : World} {b : Nat} {old : ByteArray} {a : Option Addr} {j c : Nat} (h : PAt w b old a j c) (hb : Below w.heap.size w w') : PAt w' b old a j c :=
  ⟨Nat.lt_of_lt_of_le h.lt hb.size, by rw [hb.cell h.lt]; exact h.old, by rw [hb.cell h.lt]; exact h.rest, by rw [hb.frozen h.lt]; exact h.soft⟩
theorem PAt.put {w : World} {b : Nat} {old : ByteArray} {a : Option Addr} {j c : Nat} (h : PAt w b old a j c) (i : Nat) : PAt (w.setCell ⟨b, 1, none⟩ (.slice a i c)) b old a i c := by
  refine ⟨by simpa using h.lt, ?_, World.cell?_setCell_same _ _ _ h.rest, ?_⟩
  · rw [World.cell?_setCell_other _ _ _ _ (by simp)]; exact h.old
  · rw [World.frozen?_setCell]; exact h.soft

/- The last of the seals. -/
theorem take_no (b : Nat) (old : ByteArray) (a : Option Addr) (c : Nat) (w : World) (hP : PAt w b old a 0 c) :
    Calls Tryd.prog 59 #[.pointer (some ⟨b, 0, none⟩)] w fun e w' => e = .returned (.tuple #[.string ⟨#[]⟩, .bool false]) ∧ w = w' := by
  have h1 := hP.rest
  go_enter Tryd.func59, Tryd.ntmps59
  go_wp2_with fail
  go_ret2
  exact ⟨rfl, rfl⟩
theorem take_ok (w0 : World) (x : List ByteArray) (a : Option Addr) (c : Nat) (hS : StrsAt w0 a c x) (b : Nat) (hb0 : w0.heap.size ≤ b) (old : ByteArray) (j : Nat) (w : World) (hj : j < x.length) (hb : Below w0.heap.size w0 w) (hP : PAt w b old a (j + 1) c) :
    Calls Tryd.prog 59 #[.pointer (some ⟨b, 0, none⟩)] w fun e w' => e = .returned (.tuple #[.string (textAt x j), .bool true]) ∧ PAt w' b old a j c ∧ Below w0.heap.size w0 w' := by
  have h1 := hP.rest
  have h2 := hP.soft
  have hcap := hS.cap
  have hmax := hS.max
  obtain ⟨b1, off, rfl, hlt, hc⟩ := (hS.on hb).cells (by omega)
  have hcj := hc j hj
  have hq := hP.put j
  have hbq := hb.setCell (p := ⟨b, 1, none⟩) hb0 (.slice (some ⟨b1, off, none⟩) j c)
  change w.cell? ⟨b1, off + j, none⟩ = some (.string (textAt x j)) at hcj
  generalize textAt x j = s at hcj
  clear hc
  have hj1 : (((j + 1 : Nat) : Int) - 1) = (j : Int) := by omega
  go_enter Tryd.func59, Tryd.ntmps59
  go_wp2_with fail
  go_ret2
  exact ⟨rfl, hq, hbq⟩

/- What again answers: nothing, or the two seals, and what is left. -/
def AgainOut (b : Nat) (old : ByteArray) (a : Option Addr) (c : Nat) (o : Option ((ByteArray × ByteArray) × Nat)) (e : Ending) (w' : World) : Prop :=
  (o = none ∧ ∃ u v, e = .returned (.tuple #[.string u, .string v, .bool false])) ∨
  ∃ p q i, o = some ((p, q), i) ∧ e = .returned (.tuple #[.string p, .string q, .bool true]) ∧ PAt w' b old a i c ∧ p.size ≤ 9223372036854775807 ∧ q.size ≤ 9223372036854775807

def AgainIs (w0 : World) (x : List ByteArray) (a : Option Addr) (c b : Nat) (old : ByteArray) (k : Nat) : Prop := ∀ (n m : Nat) (kn : Bool) (j : Nat) (w : World), n ≤ k → 1 ≤ m → m ≤ n → n ≤ 24 → j ≤ x.length → Below w0.heap.size w0 w → PAt w b old a j c →
    Calls Tryd.prog 45 #[.pointer (some ⟨b, 0, none⟩), .int .i64 (m : Int), .int .i64 (n : Int), .bool kn] w fun e w' => AgainOut b old a c (takeJ old (textAt x) n m kn j) e w' ∧ Below w0.heap.size w0 w'

theorem before_any (w0 : World) (x : List ByteArray) (a : Option Addr) (c b : Nat) (old : ByteArray) (k : Nat) (ih : AgainIs w0 x a c b old k) (hE : Tab w0) (n m : Nat) (kn : Bool) (j : Nat) (s : ByteArray) (w : World) (hk : n ≤ k) (h1 : 1 ≤ m) (hm : m ≤ n) (h24 : n ≤ 24) (hj : j ≤ x.length) (hs : s.size ≤ 9223372036854775807) (hb : Below w0.heap.size w0 w) (hP : PAt w b old a j c) :
    Calls Tryd.prog 60 #[.pointer (some ⟨b, 0, none⟩), .int .i64 (m : Int), .int .i64 (n : Int), .bool kn, .string s] w fun e w' =>
      AgainOut b old a c ((takeJ old (textAt x) n m kn j).bind fun q => (nodeO q.1.2 s).bind fun z => some ((q.1.1, z), q.2)) e w' ∧ Below w0.heap.size w0 w' := by
  have ihc := ih n m kn j w hk h1 hm h24 hj hb hP
  generalize takeJ old (textAt x) n m kn j = o at ihc
  clear ih hP hj
  go_enter Tryd.func60, Tryd.ntmps60
  go_wp2_with fail
  refine ihc.mono ?_
  rintro e w1 ⟨hout, hb1⟩
  clear ihc
  rcases hout with ⟨rfl, u, v, rfl⟩ | ⟨p, q, i, rfl, rfl, hP1, hp, hq⟩
  · go_wp2_with fail
    go_ret3
    exact ⟨.inl ⟨rfl, _, _, rfl⟩, hb1⟩
  · rcases hN : nodeO q s with _ | z
    · have hlong := nodeO_none hN
      have ho : ((some ((p, q), i)).bind fun q : (ByteArray × ByteArray) × Nat => (nodeO q.1.2 s).bind fun z => some ((q.1.1, z), q.2)) = none := by simp only [Option.bind_some, hN, Option.bind_none]
      go_wp2_with fail
      refine (node_many q s w1 hs hlong).mono ?_
      rintro e w2 ⟨rfl, rfl⟩
      go_wp2_with fail
      go_ret3
      exact ⟨.inl ⟨ho, _, _, rfl⟩, hb1⟩
    · obtain ⟨hshort, rfl⟩ := nodeO_some hN
      have hz := nodeO_size hN
      have ho : ((some ((p, q), i)).bind fun q : (ByteArray × ByteArray) × Nat => (nodeO q.1.2 s).bind fun z => some ((q.1.1, z), q.2)) = some ((p, nodeS q s), i) := by simp only [Option.bind_some, hN]
      go_wp2_with fail
      refine (node_tab q s w1 (hE.on hb1) hshort).mono ?_
      rintro e w2 ⟨rfl, hb2⟩
      have hP2 := hP1.on hb2
      have hb2 := below_on hb1 hb2
      clear hP1 hb1
      go_wp2_with fail
      go_ret3
      exact ⟨.inr ⟨_, _, _, ho, rfl, hP2, hp, by omega⟩, hb2⟩

theorem behind_any (w0 : World) (x : List ByteArray) (a : Option Addr) (c b : Nat) (old : ByteArray) (k : Nat) (ih : AgainIs w0 x a c b old k) (hE : Tab w0) (n m : Nat) (j : Nat) (s : ByteArray) (w : World) (hk : n ≤ k) (h1 : 1 ≤ m) (hm : m ≤ n) (h24 : n ≤ 24) (hj : j ≤ x.length) (hb : Below w0.heap.size w0 w) (hP : PAt w b old a j c) :
    Calls Tryd.prog 61 #[.pointer (some ⟨b, 0, none⟩), .int .i64 (m : Int), .int .i64 (n : Int), .string s] w fun e w' =>
      AgainOut b old a c ((takeJ old (textAt x) n m false j).bind fun q => (nodeO s q.1.1).bind fun y => (nodeO s q.1.2).bind fun z => some ((y, z), q.2)) e w' ∧ Below w0.heap.size w0 w' := by
  have ihc := ih n m false j w hk h1 hm h24 hj hb hP
  generalize takeJ old (textAt x) n m false j = o at ihc
  clear ih hP hj
  go_enter Tryd.func61, Tryd.ntmps61
  go_wp2_with fail
  refine ihc.mono ?_
  rintro e w1 ⟨hout, hb1⟩
  clear ihc
  rcases hout with ⟨rfl, u, v, rfl⟩ | ⟨p, q, i, rfl, rfl, hP1, hp, hq⟩
  · go_wp2_with fail
    go_ret3
    exact ⟨.inl ⟨rfl, _, _, rfl⟩, hb1⟩
  · rcases hN : nodeO s p with _ | y
    · have hlong := nodeO_none hN
      have ho : ((some ((p, q), i)).bind fun q : (ByteArray × ByteArray) × Nat => (nodeO s q.1.1).bind fun y => (nodeO s q.1.2).bind fun z => some ((y, z), q.2)) = none := by simp only [Option.bind_some, hN, Option.bind_none]
      go_wp2_with fail
      refine (node_many s p w1 hp hlong).mono ?_
      rintro e w2 ⟨rfl, rfl⟩
      go_wp2_with fail
      go_ret3
      exact ⟨.inl ⟨ho, _, _, rfl⟩, hb1⟩
    · obtain ⟨hshort, rfl⟩ := nodeO_some hN
      have hz := nodeO_size hN
      go_wp2_with fail
      refine (node_tab s p w1 (hE.on hb1) hshort).mono ?_
      rintro e w2 ⟨rfl, hb2⟩
      have hP2 := hP1.on hb2
      have hb2 := below_on hb1 hb2
      clear hP1 hb1
      rcases hN2 : nodeO s q with _ | z
      · have hlong := nodeO_none hN2
        have ho : ((some ((p, q), i)).bind fun q : (ByteArray × ByteArray) × Nat => (nodeO s q.1.1).bind fun y => (nodeO s q.1.2).bind fun z => some ((y, z), q.2)) = none := by simp only [Option.bind_some, hN, hN2, Option.bind_none]
        go_wp2_with fail
        refine (node_many s q w2 hq hlong).mono ?_
        rintro e w3 ⟨rfl, rfl⟩
        go_wp2_with fail
        go_ret3
        exact ⟨.inl ⟨ho, _, _, rfl⟩, hb2⟩
      · obtain ⟨hshort2, rfl⟩ := nodeO_some hN2
        have hz2 := nodeO_size hN2
        have ho : ((some ((p, q), i)).bind fun q : (ByteArray × ByteArray) × Nat => (nodeO s q.1.1).bind fun y => (nodeO s q.1.2).bind fun z => some ((y, z), q.2)) = some ((nodeS s p, nodeS s q), i) := by simp only [Option.bind_some, hN, hN2]
        go_wp2_with fail
        refine (node_tab s q w2 (hE.on hb2) hshort2).mono ?_
        rintro e w3 ⟨rfl, hb3⟩
        have hP3 := hP2.on hb3
        have hb3 := below_on hb2 hb3
        clear hP2 hb2
        go_wp2_with fail
        go_ret3
        exact ⟨.inr ⟨_, _, _, ho, rfl, hP3, by omega, by omega⟩, hb3⟩

theorem again_is (w0 : World) (x : List ByteArray) (a : Option Addr) (c b : Nat) (old : ByteArray) (hE : Tab w0) (hS : StrsAt w0 a c x) (hb0 : w0.heap.size ≤ b) (hold : old.size ≤ 9223372036854775807) (k : Nat) : AgainIs w0 x a c b old k := by
  induction k with
  | zero => intro n m kn j w hk h1 hm; omega
  | succ k ih =>
    intro n m kn j w hk h1 hm h24 hj hb hP
    have p1 := hP.old
    rcases Nat.lt_or_ge m n with hlt | hge
    · have h2 : 2 ≤ n := by omega
      have hh := halfN_lt h2
      have hp := halfN_pos n
      have hmn : ¬ m = n := by omega
      have hand : (decide ((m : Int) = (n : Int)) && kn) = false := by rw [decide_eq_false (by omega)]; rfl
      cases j with
      | zero =>
        rw [takeJ_zero old _ h2 hlt]
        go_enter Tryd.func45, Tryd.ntmps45
        go_wp2_with fail
        refine (take_no b old a c w hP).mono ?_
        rintro e w1 ⟨rfl, rfl⟩
        go_wp2_with fail
        go_ret3
        exact ⟨.inl ⟨rfl, _, _, rfl⟩, hb⟩
      | succ j =>
        have hsz := hS.sz _ (textAt_mem (l := x) (i := j) (by omega))
        have htk := take_ok w0 x a c hS b hb0 old j w (by omega) hb hP
        rcases Nat.lt_or_ge (halfN n) m with hhigh | hlow
        · rw [takeJ_high old _ h2 hlt hhigh]
          have hnext := fun w' hb' hP' => behind_any w0 x a c b old k ih hE (n - halfN n) (m - halfN n) j (textAt x j) w' (by omega) (by omega) (by omega) (by omega) (by omega) hb' hP'
          simp only [show ((m - halfN n : Nat) : Int) = (m : Int) - (halfN n : Int) by omega, show ((n - halfN n : Nat) : Int) = (n : Int) - (halfN n : Int) by omega] at hnext
          generalize textAt x j = s at htk hnext hsz
          have hif : ¬ (m : Int) ≤ (halfN n : Int) := by omega
          clear ih
          go_enter Tryd.func45, Tryd.ntmps45
          go_wp2_with fail
          refine htk.mono ?_
          rintro e w1 ⟨rfl, hP1, hb1⟩
          clear htk p1 hP
          go_wp2_with fail
          refine (half_ok n w1 h2 h24).mono ?_
          rintro e w2 ⟨rfl, rfl⟩
          go_wp2_with fail
          refine (hnext w1 hb1 hP1).mono ?_
          rintro e w2 ⟨hout, hb2⟩
          clear hnext
          rcases hout with ⟨ho, u, v, rfl⟩ | ⟨p, q, i, ho, rfl, hP2, hp2, hq2⟩
          · have Ho := Lib.hid ho
            clear ho
            go_wp2_with fail
            go_ret3
            exact ⟨.inl ⟨Ho.out, _, _, rfl⟩, hb2⟩
          · have Ho := Lib.hid ho
            clear ho
            go_wp2_with fail
            go_ret3
            exact ⟨.inr ⟨_, _, _, Ho.out, rfl, hP2, hp2, hq2⟩, hb2⟩
        · rw [takeJ_low old _ h2 hlt hlow]
          have hsz' := hsz
          have hnext := fun w' hb' hP' => before_any w0 x a c b old k ih hE (halfN n) m kn j (textAt x j) w' (by omega) h1 hlow (by omega) (by omega) hsz' hb' hP'
          generalize textAt x j = s at htk hnext hsz
          have hif : (m : Int) ≤ (halfN n : Int) := by omega
          clear ih
          go_enter Tryd.func45, Tryd.ntmps45
          go_wp2_with fail
          refine htk.mono ?_
          rintro e w1 ⟨rfl, hP1, hb1⟩
          clear htk p1 hP
          go_wp2_with fail
          refine (half_ok n w1 h2 h24).mono ?_
          rintro e w2 ⟨rfl, rfl⟩
          go_wp2_with fail
          refine (hnext w1 hb1 hP1).mono ?_
          rintro e w2 ⟨hout, hb2⟩
          clear hnext
          rcases hout with ⟨ho, u, v, rfl⟩ | ⟨p, q, i, ho, rfl, hP2, hp2, hq2⟩
          · have Ho := Lib.hid ho
            clear ho
            go_wp2_with fail
            go_ret3
            exact ⟨.inl ⟨Ho.out, _, _, rfl⟩, hb2⟩
          · have Ho := Lib.hid ho
            clear ho
            go_wp2_with fail
            go_ret3
            exact ⟨.inr ⟨_, _, _, Ho.out, rfl, hP2, hp2, hq2⟩, hb2⟩
    · obtain rfl : m = n := by omega
      cases kn with
      | true =>
        rw [takeJ_known old _ (Or.inr (Nat.le_refl _))]
        go_enter Tryd.func45, Tryd.ntmps45
        go_wp2_with fail
        go_quiet (fail)
        go_wp2_with fail
        go_ret3
        exact ⟨.inr ⟨_, _, _, rfl, rfl, hP.on (below_drewN (Below.refl _ _) nq), hold, hold⟩, below_drewN hb nq⟩
      | false =>
        cases j with
        | zero =>
          rw [takeJ_want old _ (Or.inr (Nat.le_refl _))]
          go_enter Tryd.func45, Tryd.ntmps45
          go_wp2_with fail
          refine (take_no b old a c w hP).mono ?_
          rintro e w1 ⟨rfl, rfl⟩
          go_wp2_with fail
          go_ret3
          exact ⟨.inl ⟨rfl, _, _, rfl⟩, hb⟩
        | succ j =>
          rw [takeJ_one old _ (Or.inr (Nat.le_refl _))]
          have hsz := hS.sz _ (textAt_mem (l := x) (i := j) (by omega))
          have htk := take_ok w0 x a c hS b hb0 old j w (by omega) hb hP
          generalize textAt x j = s at htk hsz
          clear ih
          go_enter Tryd.func45, Tryd.ntmps45
          go_wp2_with fail
          refine htk.mono ?_
          rintro e w1 ⟨rfl, hP1, hb1⟩
          clear htk p1 hP
          go_wp2_with fail
          go_ret3
          exact ⟨.inr ⟨_, _, _, rfl, rfl, hP1, hsz, hsz⟩, hb1⟩

/- Shows. -/
theorem growShows_range (old : ByteArray) (m : Int) (root : ByteArray) (n : Int) (v : Value) (w : World) (h : m < 1 ∨ n < m ∨ 24 < n) :
    Calls Tryd.prog 28 #[.string old, .int .i64 m, .string root, .int .i64 n, v] w fun e w' => e = .returned (.int .i64 3) ∧ w = w' := by
  by_cases h1 : m < 1
  · go_enter Tryd.func28, Tryd.ntmps28
    go_wp2_with fail
    go_ret
    exact ⟨rfl, rfl⟩
  by_cases h2 : n < m
  · go_enter Tryd.func28, Tryd.ntmps28
    go_wp2_with fail
    go_ret
    exact ⟨rfl, rfl⟩
  have h3 : 24 < n := by omega
  clear h
  go_enter Tryd.func28, Tryd.ntmps28
  go_wp2_with fail
  go_ret
  exact ⟨rfl, rfl⟩

theorem pat_laid (w : World) (old : ByteArray) (a : Option Addr) (k c : Nat) (t : TypeId) : PAt (w.alloc (.cells #[.string old, .slice a k c] t)) w.heap.size old a k c := by
  have hh : (w.alloc (.cells #[.string old, .slice a k c] t)).heap[w.heap.size]? = some (.cells #[.string old, .slice a k c] t) := by show (w.heap.push _)[w.heap.size]? = _; simp
  refine ⟨by show _ < (w.heap.push _).size; simp, ?_, ?_, ?_⟩
  · unfold World.cell?; simp only [hh]; rfl
  · unfold World.cell?; simp only [hh]; rfl
  · unfold World.frozen?; simp only [hh]; rfl

theorem growShows_in (old : ByteArray) (m : Nat) (root : ByteArray) (n : Nat) (x : List ByteArray) (a : Option Addr) (k c : Nat) (w : World) (hk : x.length = k) (hE : Tab w) (hS : StrsAt w a c x) (hold : old.size ≤ 9223372036854775807) (h1 : 1 ≤ m) (hm : m ≤ n) (h24 : n ≤ 24) :
    Calls Tryd.prog 28 #[.string old, .int .i64 (m : Int), .string root, .int .i64 (n : Int), .slice a k c] w fun e w' => e = .returned (.int .i64 (growE old m root n x)) ∧ Below w.heap.size w w' := by
  have hcap := hS.cap
  have hmax := hS.max
  have g1 : ¬ (m : Int) < 1 := by omega
  have g2 : ¬ (n : Int) < (m : Int) := by omega
  have g3 : ¬ (24 : Int) < (n : Int) := by omega
  have hg := growE_take old root m n x h1 hm h24
  rw [hk] at hg
  generalize growE old m root n x = res at hg
  have hP := pat_laid w old a k c 92
  have hb : Below w.heap.size w (w.alloc (.cells #[.string old, .slice a k c] 92)) := (Below.refl _ _).alloc (Nat.le_refl _) _
  have hag := again_is w x a c w.heap.size old hE hS (Nat.le_refl _) hold n n m true k _ (Nat.le_refl _) h1 hm h24 (by omega) hb hP
  generalize takeJ old (textAt x) n m true k = o at hg hag
  go_enter Tryd.func28, Tryd.ntmps28
  go_wp2_with fail
  refine hag.mono ?_
  rintro e w1 ⟨hout, hb1⟩
  clear hag
  rcases hout with ⟨rfl, u, v, rfl⟩ | ⟨p, q, i, rfl, rfl, hP1, hp, hq⟩
  · rw [if_neg (by simp)] at hg
    have Hg := Lib.hid hg
    clear hg hP
    go_wp2_with fail
    go_ret
    exact ⟨by rw [Hg.out]; rfl, hb1⟩
  · have r1 := hP1.rest
    by_cases hi : i = 0
    · subst hi
      by_cases hpo : p = old
      · have s1 := str_eq hpo
        by_cases hqr : q = root
        · have s2 := str_eq hqr
          rw [if_pos (by rw [hpo, hqr])] at hg
          have Hg := Lib.hid hg
          clear hg hP hpo hqr
          go_wp2_with fail
          go_ret
          exact ⟨by rw [Hg.out]; rfl, hb1⟩
        · have s2 := str_ne hqr
          rw [if_neg (by simp [hqr])] at hg
          have Hg := Lib.hid hg
          clear hg hP hpo hqr
          go_wp2_with fail
          go_ret
          exact ⟨by rw [Hg.out]; rfl, hb1⟩
      · have s1 := str_ne hpo
        rw [if_neg (by simp [hpo])] at hg
        have Hg := Lib.hid hg
        clear hg hP hpo
        go_wp2_with fail
        go_ret
        exact ⟨by rw [Hg.out]; rfl, hb1⟩
    · rw [if_neg (by simp [hi])] at hg
      have Hg := Lib.hid hg
      have hi' : 0 < i := by omega
      clear hg hP
      go_wp2_with fail
      go_ret
      exact ⟨by rw [Hg.out]; rfl, hb1⟩

theorem growShows_any (old : ByteArray) (m : Int) (root : ByteArray) (n : Int) (x : List ByteArray) (a : Option Addr) (k c : Nat) (w : World) (hk : x.length = k) (hE : Tab w) (hS : StrsAt w a c x) (hold : old.size ≤ 9223372036854775807) :
    Calls Tryd.prog 28 #[.string old, .int .i64 m, .string root, .int .i64 n, .slice a k c] w fun e w' => e = .returned (.int .i64 (growE old m root n x)) ∧ Below w.heap.size w w' := by
  by_cases h : m < 1 ∨ n < m ∨ 24 < n
  · have e1 : growE old m root n x = 3 := by unfold growE; rw [if_pos h]
    rw [e1]
    refine (growShows_range old m root n _ w h).mono ?_
    rintro e w1 ⟨rfl, rfl⟩
    exact ⟨rfl, Below.refl _ _⟩
  obtain ⟨n', rfl⟩ := Int.eq_ofNat_of_zero_le (a := n) (by omega)
  obtain ⟨m', rfl⟩ := Int.eq_ofNat_of_zero_le (a := m) (by omega)
  exact growShows_in old m' root n' x a k c w hk hE hS hold (by omega) (by omega) (by omega)
end Go.Proofs.YthhckpnnjegldafDoor
