/-
  Contracts of package grow over this seat's dump: whole, seals, Of.
  Package grow's Shows: what is left of the seals in a box of its own, the two seals made again.
  Package path's sides: on which side the steps above a text stand, a slice of its own memory.
  Contracts of package path over this seat's dump: join, climb, Of.
  Contract of package show's Growth over this seat's dump.
  Package trie's Path and Shows.
  Contracts of package show: last, Entry, Growth, Value.
  Contract of package note's Check over this seat's dump.
  Package path's Shows: the steps walked from below.
  The book of three entries that the closed facts speak of.
-/
import Derived.Test.YtnemiobgmdpnmagGreatFmtOwn
import Derived.Test.YtnemiobgmdpnmagGreatFmtMaths
import Derived.Test.YtnemiobgmdpnmagGreatFmtSteps
import Derived.Test.YtnemiobgmdpnmagGreatFmtBooks
import Derived.Deep.LoopGhost
import Derived.Test.YtnemiobgmdpnmagGreatFmtSeal
namespace Go.Proofs.YtnemiobgmdpnmagGreatFmt
open Go Go.RowKit

theorem infoStr : (Tryz.prog.info? 9).map (fun i => (i.zero, i.size, i.bytes)) = some (some (.string ⟨#[]⟩), 1, 16) := by kernel_rfl

/- What is told of a part that the old list has all of. -/
theorem whole_known (a : Option Addr) (n c : Nat) (w : World) :
    Calls Tryz.prog 99 #[.slice a n c, .bool true] w fun e w' => e = .returned (.tuple #[.slice none 0 0, .int .i64 0]) ∧ w = w' := by
  go_enter Tryz.func99, Tryz.ntmps99
  go_wp2_with fail
  go_ret2
  exact ⟨rfl, rfl⟩
theorem whole_new (l : List ByteArray) (a : Option Addr) (n c : Nat) (r : ByteArray) (w : World) (hn : l.length = n) (hE : Tab w) (hS : StrsAt w a c l) (hr : rootS l = some r) :
    Calls Tryz.prog 99 #[.slice a n c, .bool false] w fun e w' => ∃ g, e = .returned (.tuple #[.slice (some ⟨g, 0, none⟩) 1 1, .int .i64 0]) ∧ w'.ownsRow w.heap.size 9 1 (.slice (some ⟨g, 0, none⟩) 1 1) 1 ([r].map Value.string) ∧ Below w.heap.size w w' := by
  go_enter Tryz.func99, Tryz.ntmps99
  go_wp2_with fail
  refine (root_ok l r hr a n c w hn hE hS).mono ?_
  rintro e w1 ⟨rfl, hb1⟩
  go_wp2_with fail
  go_ret2
  exact ⟨w1.heap.size, rfl, owns_one w1 r 9 w.heap.size hb1.size, hb1.alloc hb1.size _⟩

/- The seals for m of a list that has a seal. -/
def SealsIs (k : Nat) : Prop := ∀ (l : List ByteArray) (a : Option Addr) (n c m : Nat) (kn : Bool) (r : ByteArray) (w : World), l.length = n → n ≤ k → 1 ≤ m → m ≤ n → rootS l = some r → Tab w → StrsAt w a c l →
    Calls Tryz.prog 89 #[.slice a n c, .int .i64 (m : Int), .bool kn] w fun e w' => ∃ a' c', e = .returned (.tuple #[.slice a' (growS l m kn).length c', .int .i64 0]) ∧
      w'.ownsRow w.heap.size 9 1 (.slice a' (growS l m kn).length c') (growS l m kn).length ((growS l m kn).map Value.string) ∧ Below w.heap.size w w'

set_option maxRecDepth 100000 in
theorem seals_is (k : Nat) : SealsIs k := by
  induction k with
  | zero => intro l a n c m kn r w hn hk h1 hm; omega
  | succ k ih =>
    intro l a n c m kn r w hn hk h1 hm hr hE hS
    have hcap := hS.cap
    have hmax := hS.max
    rcases Nat.lt_or_ge m n with hlt | hge
    · have h2 : 2 ≤ n := by omega
      obtain ⟨h24, u, v, hu, hv, hnode⟩ := rootS_some_two (by omega) hr
      obtain ⟨b, off, rfl, hbl, hc⟩ := hS.cells (by omega)
      have hpl := fun h => @growS_low l m (by omega) (by omega) h kn
      have hph := fun h => @growS_high l m (by omega) (by omega) h kn
      rw [hn] at hu hv h24 hpl hph
      rw [(root_pos hv).1] at hpl
      rw [(root_pos hu).1] at hph
      have hh := halfN_lt h2
      have hp := halfN_pos n
      have hne : ¬ c = halfN n := by omega
      have hmn : ¬ m = n := by omega
      have l1 : (l.take (halfN n)).length = halfN n := by rw [List.length_take]; omega
      have l2 : (l.drop (halfN n)).length = n - halfN n := by rw [List.length_drop]; omega
      have hS1 := hS.take (halfN n)
      have hS2 := hS.drop (halfN n)
      obtain ⟨i0, hi0, hz0, hz1, hz2⟩ := info_parts infoStr
      have g1 : (0 : Int) ≤ (halfN n : Int) := by omega
      have g2 : (halfN n : Int) ≤ (c : Int) := by omega
      have g3 : (halfN n : Int) ≤ (n : Int) := by omega
      clear hc
      rcases Nat.lt_or_ge (halfN n) m with hhigh | hlow
      · have ihc := fun w' => ih (l.drop (halfN n)) (some ⟨b, off + halfN n, none⟩) (n - halfN n) (c - halfN n) (m - halfN n) false v w' l2 (by omega) (by omega) (by omega) hv
        have hle : (growS (l.drop (halfN n)) (m - halfN n) false).length ≤ 23 := by
          have := growS_len n (l.drop (halfN n)) (m - halfN n) false (by omega) (by omega)
          omega
        rw [hph hhigh]
        simp only [show ((m - halfN n : Nat) : Int) = (m : Int) - (halfN n : Int) by omega] at ihc
        generalize growS (l.drop (halfN n)) (m - halfN n) false = L at ihc hle
        have hif : (halfN n : Int) < (m : Int) := by omega
        clear ih hpl hph
        go_enter Tryz.func89, Tryz.ntmps89
        go_wp2_with fail
        refine (half_ok n w h2 h24).mono ?_
        rintro e w1 ⟨rfl, rfl⟩
        go_wp2_with fail
        go_quiet (fail)
        have hq := below_drewN (Below.refl w.heap.size w) nq
        go_wp2_with fail
        refine (ihc _ (hE.on hq) (hS2.on hq)).mono ?_
        rintro e w1 ⟨a1, c1, rfl, hown, hb1⟩
        have hown := hown.mono hq.size
        have hb1 := below_on hq hb1
        have hE1 := hE.on hb1
        have hS3 := hS1.on hb1
        clear ihc hq hS hS1 hS2
        go_wp2_with fail
        refine (root_ok (l.take (halfN n)) u hu _ _ _ w1 l1 hE1 hS3).mono ?_
        rintro e w2 ⟨rfl, hb2⟩
        have hown := owns_on hown hb2
        have hb2 := below_on hb1 hb2
        clear hb1 hE1 hS3
        go_wp2_with (at_builtin; refine wpList_append_lies _ rfl _ _ 60 rfl w.heap.size 9 i0 (.string ⟨#[]⟩) 1 16 Tryz.underlying60 hi0 hz0 hz1 hz2 rfl (by decide) _ _ _ rfl (hown.alloc _) ⟨w2.heap.size, 0, none⟩ 1 1 [.string u] rfl rfl ?c1 ?c2 (by omega) ?c3 ?c4 ?c5 _ rfl ?_)
        case c1 => exact World.news_of_block (cs := #[.string u]) (t := 9) (fr := (0, 0)) (by show (w2.heap.push _)[w2.heap.size]? = _; simp)
        case c2 => intro u hu; rw [List.mem_singleton.1 hu]; rfl
        case c3 => unfold maxLen; omega
        case c4 => omega
        case c5 => show _ ≤ (w2.heap.push _).size; rw [Array.size_push]; have := hb2.size; omega
        intro g cap w3 hown3 hgrow _ _
        have hb3 := own_below hb2 hb2.size hown (Nat.le_refl _) hgrow
        go_wp2_with fail
        go_ret2
        refine ⟨some ⟨g, 0, none⟩, cap, ?_, ?_, hb3⟩
        · rw [List.length_append]; rfl
        · rw [List.length_append, List.map_append]; exact hown3
      · have ihc := fun w' => ih (l.take (halfN n)) (some ⟨b, off, none⟩) (halfN n) c m kn u w' l1 (by omega) h1 hlow hu
        have hle : (growS (l.take (halfN n)) m kn).length ≤ 23 := by
          have := growS_len n (l.take (halfN n)) m kn (by omega) (by omega)
          omega
        rw [hpl hlow]
        generalize growS (l.take (halfN n)) m kn = L at ihc hle
        have hif : ¬ (halfN n : Int) < (m : Int) := by omega
        clear ih hpl hph
        go_enter Tryz.func89, Tryz.ntmps89
        go_wp2_with fail
        refine (half_ok n w h2 h24).mono ?_
        rintro e w1 ⟨rfl, rfl⟩
        go_wp2_with fail
        go_quiet (fail)
        have hq := below_drewN (Below.refl w.heap.size w) nq
        go_wp2_with fail
        refine (ihc _ (hE.on hq) (hS1.on hq)).mono ?_
        rintro e w1 ⟨a1, c1, rfl, hown, hb1⟩
        have hown := hown.mono hq.size
        have hb1 := below_on hq hb1
        have hE1 := hE.on hb1
        have hS3 := hS2.on hb1
        clear ihc hq hS hS1 hS2
        go_wp2_with fail
        refine (root_ok (l.drop (halfN n)) v hv _ _ _ w1 l2 hE1 hS3).mono ?_
        rintro e w2 ⟨rfl, hb2⟩
        have hown := owns_on hown hb2
        have hb2 := below_on hb1 hb2
        clear hb1 hE1 hS3
        go_wp2_with (at_builtin; refine wpList_append_lies _ rfl _ _ 60 rfl w.heap.size 9 i0 (.string ⟨#[]⟩) 1 16 Tryz.underlying60 hi0 hz0 hz1 hz2 rfl (by decide) _ _ _ rfl (hown.alloc _) ⟨w2.heap.size, 0, none⟩ 1 1 [.string v] rfl rfl ?c1 ?c2 (by omega) ?c3 ?c4 ?c5 _ rfl ?_)
        case c1 => exact World.news_of_block (cs := #[.string v]) (t := 9) (fr := (0, 0)) (by show (w2.heap.push _)[w2.heap.size]? = _; simp)
        case c2 => intro u hu; rw [List.mem_singleton.1 hu]; rfl
        case c3 => unfold maxLen; omega
        case c4 => omega
        case c5 => show _ ≤ (w2.heap.push _).size; rw [Array.size_push]; have := hb2.size; omega
        intro g cap w3 hown3 hgrow _ _
        have hb3 := own_below hb2 hb2.size hown (Nat.le_refl _) hgrow
        go_wp2_with fail
        go_ret2
        refine ⟨some ⟨g, 0, none⟩, cap, ?_, ?_, hb3⟩
        · rw [List.length_append]; rfl
        · rw [List.length_append, List.map_append]; exact hown3
    · obtain rfl : m = n := by omega
      rw [growS_all (Or.inr (by omega))]
      cases kn with
      | true =>
        go_enter Tryz.func89, Tryz.ntmps89
        go_wp2_with fail
        refine (whole_known a m c w).mono ?_
        rintro e w1 ⟨rfl, rfl⟩
        go_wp2_with fail
        go_ret2
        exact ⟨none, 0, rfl, World.ownsRow_nil _ _ _ _, Below.refl _ _⟩
      | false =>
        rw [(root_pos hr).1]
        go_enter Tryz.func89, Tryz.ntmps89
        go_wp2_with fail
        refine (whole_new l a m c r w hn hE hS hr).mono ?_
        rintro e w1 ⟨g, rfl, hown, hb1⟩
        go_wp2_with fail
        go_ret2
        exact ⟨_, 1, rfl, hown, hb1⟩
/- Of. -/
theorem growOf_no (l : List ByteArray) (a : Option Addr) (n c : Nat) (m : Int) (w : World) (hn : l.length = n) (hE : Tab w) (hS : StrsAt w a c l) (hr : rootS l = none) :
    Calls Tryz.prog 77 #[.slice a n c, .int .i64 m] w fun e w' => e = .returned (.tuple #[.slice none 0 0, .int .i64 2]) ∧ Below w.heap.size w w' := by
  go_enter Tryz.func77, Tryz.ntmps77
  go_wp2_with fail
  refine (root_no l hr a n c w hn hE hS).mono ?_
  rintro e w1 ⟨rfl, hb1⟩
  go_wp2_with fail
  go_ret2
  exact ⟨rfl, hb1⟩
theorem growOf_range (l : List ByteArray) (a : Option Addr) (n c : Nat) (m : Int) (r : ByteArray) (w : World) (hn : l.length = n) (hE : Tab w) (hS : StrsAt w a c l) (hr : rootS l = some r) (hm : m < 1 ∨ (n : Int) < m) :
    Calls Tryz.prog 77 #[.slice a n c, .int .i64 m] w fun e w' => e = .returned (.tuple #[.slice none 0 0, .int .i64 3]) ∧ Below w.heap.size w w' := by
  have hcap := hS.cap
  have hmax := hS.max
  rcases Int.lt_or_le m 1 with h0 | h0
  · go_enter Tryz.func77, Tryz.ntmps77
    go_wp2_with fail
    refine (root_ok l r hr a n c w hn hE hS).mono ?_
    rintro e w1 ⟨rfl, hb1⟩
    go_wp2_with fail
    go_ret2
    exact ⟨rfl, hb1⟩
  · have h1 : (n : Int) < m := by omega
    have h2 : ¬ m < 1 := by omega
    clear hm
    go_enter Tryz.func77, Tryz.ntmps77
    go_wp2_with fail
    refine (root_ok l r hr a n c w hn hE hS).mono ?_
    rintro e w1 ⟨rfl, hb1⟩
    go_wp2_with fail
    go_ret2
    exact ⟨rfl, hb1⟩
theorem growOf_ok (l : List ByteArray) (a : Option Addr) (n c m : Nat) (r : ByteArray) (w : World) (hn : l.length = n) (hE : Tab w) (hS : StrsAt w a c l) (hr : rootS l = some r) (h1 : 1 ≤ m) (hm : m ≤ n) :
    Calls Tryz.prog 77 #[.slice a n c, .int .i64 (m : Int)] w fun e w' => ∃ a' c', e = .returned (.tuple #[.slice a' (growS l m true).length c', .int .i64 0]) ∧ (∃ B, w.heap.size ≤ B ∧ w'.ownsRow B 9 1 (.slice a' (growS l m true).length c') (growS l m true).length ((growS l m true).map Value.string)) ∧ StrsAt w' a' c' (growS l m true) ∧ Below w.heap.size w w' := by
  have hcap := hS.cap
  have hmax := hS.max
  have g1 : ¬ (m : Int) < 1 := by omega
  have g2 : ¬ (n : Int) < (m : Int) := by omega
  have hsz := growS_size l.length l m true (Nat.le_refl _)
  have hc := fun w' => seals_is n l a n c m true r w' hn (Nat.le_refl _) h1 hm hr
  generalize growS l m true = L at hc hsz
  go_enter Tryz.func77, Tryz.ntmps77
  go_wp2_with fail
  refine (root_ok l r hr a n c w hn hE hS).mono ?_
  rintro e w1 ⟨rfl, hb1⟩
  go_wp2_with fail
  refine (hc w1 (hE.on hb1) (hS.on hb1)).mono ?_
  rintro e w2 ⟨a2, c2, rfl, hown, hb2⟩
  go_wp2_with fail
  go_ret2
  exact ⟨a2, c2, rfl, ⟨_, hb1.size, hown⟩, (owned_strs hown (fun s hs => Nat.le_trans (hsz s hs) (by omega))).2, below_on hb1 hb2⟩
end Go.Proofs.YtnemiobgmdpnmagGreatFmt
namespace Go.Proofs.YtnemiobgmdpnmagGreatFmt
open Go Go.RowKit

/- The box: the old seal, and what is left. -/
structure PAt (w : World) (b : Nat) (old : ByteArray) (a : Option Addr) (j c : Nat) : Prop where
  lt : b < w.heap.size
  old : w.cell? ⟨b, 0, none⟩ = some (.string old)
  rest : w.cell? ⟨b, 1, none⟩ = some (.slice a j c)
  soft : w.frozen? ⟨b, 1, none⟩ = false
theorem PAt.on {w w' : World} {b : Nat} {old : ByteArray} {a : Option Addr} {j c : Nat} (h : PAt w b old a j c) (hb : Below w.heap.size w w') : PAt w' b old a j c :=
  ⟨Nat.lt_of_lt_of_le h.lt hb.size, by rw [hb.cell h.lt]; exact h.old, by rw [hb.cell h.lt]; exact h.rest, by rw [hb.frozen h.lt]; exact h.soft⟩
theorem PAt.put {w : World} {b : Nat} {old : ByteArray} {a : Option Addr} {j c : Nat} (h : PAt w b old a j c) (i : Nat) : PAt (w.setCell ⟨b, 1, none⟩ (.slice a i c)) b old a i c := by
  refine ⟨by simpa using h.lt, ?_, World.cell?_setCell_same _ _ _ h.rest, ?_⟩
  · rw [World.cell?_setCell_other _ _ _ _ (by simp)]; exact h.old
  · rw [World.frozen?_setCell]; exact h.soft

/- The last of the seals. -/
theorem take_no (b : Nat) (old : ByteArray) (a : Option Addr) (c : Nat) (w : World) (hP : PAt w b old a 0 c) :
    Calls Tryz.prog 96 #[.pointer (some ⟨b, 0, none⟩)] w fun e w' => e = .returned (.tuple #[.string ⟨#[]⟩, .bool false]) ∧ w = w' := by
  have h1 := hP.rest
  go_enter Tryz.func96, Tryz.ntmps96
  go_wp2_with fail
  go_ret2
  exact ⟨rfl, rfl⟩
theorem take_ok (w0 : World) (x : List ByteArray) (a : Option Addr) (c : Nat) (hS : StrsAt w0 a c x) (b : Nat) (hb0 : w0.heap.size ≤ b) (old : ByteArray) (j : Nat) (w : World) (hj : j < x.length) (hb : Below w0.heap.size w0 w) (hP : PAt w b old a (j + 1) c) :
    Calls Tryz.prog 96 #[.pointer (some ⟨b, 0, none⟩)] w fun e w' => e = .returned (.tuple #[.string (textAt x j), .bool true]) ∧ PAt w' b old a j c ∧ Below w0.heap.size w0 w' := by
  have h1 := hP.rest
  have h2 := hP.soft
  have hcap := hS.cap
  have hmax := hS.max
  obtain ⟨b1, off, rfl, hlt, hc⟩ := (hS.on hb).cells (by omega)
  have hcj := hc j hj
  have hq := hP.put j
  have hbq := hb.setCell (p := ⟨b, 1, none⟩) hb0 (.slice (some ⟨b1, off, none⟩) j c)
  change w.cell? ⟨b1, off + j, none⟩ = some (.string (textAt x j)) at hcj
  generalize textAt x j = s at hcj
  clear hc
  have hj1 : (((j + 1 : Nat) : Int) - 1) = (j : Int) := by omega
  go_enter Tryz.func96, Tryz.ntmps96
  go_wp2_with fail
  go_ret2
  exact ⟨rfl, hq, hbq⟩

/- What again answers: nothing, or the two seals, and what is left. -/
def AgainOut (b : Nat) (old : ByteArray) (a : Option Addr) (c : Nat) (o : Option ((ByteArray × ByteArray) × Nat)) (e : Ending) (w' : World) : Prop :=
  (o = none ∧ ∃ u v, e = .returned (.tuple #[.string u, .string v, .bool false])) ∨
  ∃ p q i, o = some ((p, q), i) ∧ e = .returned (.tuple #[.string p, .string q, .bool true]) ∧ PAt w' b old a i c ∧ p.size ≤ 9223372036854775807 ∧ q.size ≤ 9223372036854775807

def AgainIs (w0 : World) (x : List ByteArray) (a : Option Addr) (c b : Nat) (old : ByteArray) (k : Nat) : Prop := ∀ (n m : Nat) (kn : Bool) (j : Nat) (w : World), n ≤ k → 1 ≤ m → m ≤ n → n ≤ 24 → j ≤ x.length → Below w0.heap.size w0 w → PAt w b old a j c →
    Calls Tryz.prog 88 #[.pointer (some ⟨b, 0, none⟩), .int .i64 (m : Int), .int .i64 (n : Int), .bool kn] w fun e w' => AgainOut b old a c (takeJ old (textAt x) n m kn j) e w' ∧ Below w0.heap.size w0 w'

theorem before_any (w0 : World) (x : List ByteArray) (a : Option Addr) (c b : Nat) (old : ByteArray) (k : Nat) (ih : AgainIs w0 x a c b old k) (hE : Tab w0) (n m : Nat) (kn : Bool) (j : Nat) (s : ByteArray) (w : World) (hk : n ≤ k) (h1 : 1 ≤ m) (hm : m ≤ n) (h24 : n ≤ 24) (hj : j ≤ x.length) (hs : s.size ≤ 9223372036854775807) (hb : Below w0.heap.size w0 w) (hP : PAt w b old a j c) :
    Calls Tryz.prog 97 #[.pointer (some ⟨b, 0, none⟩), .int .i64 (m : Int), .int .i64 (n : Int), .bool kn, .string s] w fun e w' =>
      AgainOut b old a c ((takeJ old (textAt x) n m kn j).bind fun q => (nodeO q.1.2 s).bind fun z => some ((q.1.1, z), q.2)) e w' ∧ Below w0.heap.size w0 w' := by
  have ihc := ih n m kn j w hk h1 hm h24 hj hb hP
  generalize takeJ old (textAt x) n m kn j = o at ihc
  clear ih hP hj
  go_enter Tryz.func97, Tryz.ntmps97
  go_wp2_with fail
  refine ihc.mono ?_
  rintro e w1 ⟨hout, hb1⟩
  clear ihc
  rcases hout with ⟨rfl, u, v, rfl⟩ | ⟨p, q, i, rfl, rfl, hP1, hp, hq⟩
  · go_wp2_with fail
    go_ret3
    exact ⟨.inl ⟨rfl, _, _, rfl⟩, hb1⟩
  · rcases hN : nodeO q s with _ | z
    · have hlong := nodeO_none hN
      have ho : ((some ((p, q), i)).bind fun q : (ByteArray × ByteArray) × Nat => (nodeO q.1.2 s).bind fun z => some ((q.1.1, z), q.2)) = none := by simp only [Option.bind_some, hN, Option.bind_none]
      go_wp2_with fail
      refine (node_many q s w1 hs hlong).mono ?_
      rintro e w2 ⟨rfl, rfl⟩
      go_wp2_with fail
      go_ret3
      exact ⟨.inl ⟨ho, _, _, rfl⟩, hb1⟩
    · obtain ⟨hshort, rfl⟩ := nodeO_some hN
      have hz := nodeO_size hN
      have ho : ((some ((p, q), i)).bind fun q : (ByteArray × ByteArray) × Nat => (nodeO q.1.2 s).bind fun z => some ((q.1.1, z), q.2)) = some ((p, nodeS q s), i) := by simp only [Option.bind_some, hN]
      go_wp2_with fail
      refine (node_tab q s w1 (hE.on hb1) hshort).mono ?_
      rintro e w2 ⟨rfl, hb2⟩
      have hP2 := hP1.on hb2
      have hb2 := below_on hb1 hb2
      clear hP1 hb1
      go_wp2_with fail
      go_ret3
      exact ⟨.inr ⟨_, _, _, ho, rfl, hP2, hp, by omega⟩, hb2⟩

theorem behind_any (w0 : World) (x : List ByteArray) (a : Option Addr) (c b : Nat) (old : ByteArray) (k : Nat) (ih : AgainIs w0 x a c b old k) (hE : Tab w0) (n m : Nat) (j : Nat) (s : ByteArray) (w : World) (hk : n ≤ k) (h1 : 1 ≤ m) (hm : m ≤ n) (h24 : n ≤ 24) (hj : j ≤ x.length) (hb : Below w0.heap.size w0 w) (hP : PAt w b old a j c) :
    Calls Tryz.prog 98 #[.pointer (some ⟨b, 0, none⟩), .int .i64 (m : Int), .int .i64 (n : Int), .string s] w fun e w' =>
      AgainOut b old a c ((takeJ old (textAt x) n m false j).bind fun q => (nodeO s q.1.1).bind fun y => (nodeO s q.1.2).bind fun z => some ((y, z), q.2)) e w' ∧ Below w0.heap.size w0 w' := by
  have ihc := ih n m false j w hk h1 hm h24 hj hb hP
  generalize takeJ old (textAt x) n m false j = o at ihc
  clear ih hP hj
  go_enter Tryz.func98, Tryz.ntmps98
  go_wp2_with fail
  refine ihc.mono ?_
  rintro e w1 ⟨hout, hb1⟩
  clear ihc
  rcases hout with ⟨rfl, u, v, rfl⟩ | ⟨p, q, i, rfl, rfl, hP1, hp, hq⟩
  · go_wp2_with fail
    go_ret3
    exact ⟨.inl ⟨rfl, _, _, rfl⟩, hb1⟩
  · rcases hN : nodeO s p with _ | y
    · have hlong := nodeO_none hN
      have ho : ((some ((p, q), i)).bind fun q : (ByteArray × ByteArray) × Nat => (nodeO s q.1.1).bind fun y => (nodeO s q.1.2).bind fun z => some ((y, z), q.2)) = none := by simp only [Option.bind_some, hN, Option.bind_none]
      go_wp2_with fail
      refine (node_many s p w1 hp hlong).mono ?_
      rintro e w2 ⟨rfl, rfl⟩
      go_wp2_with fail
      go_ret3
      exact ⟨.inl ⟨ho, _, _, rfl⟩, hb1⟩
    · obtain ⟨hshort, rfl⟩ := nodeO_some hN
      have hz := nodeO_size hN
      go_wp2_with fail
      refine (node_tab s p w1 (hE.on hb1) hshort).mono ?_
      rintro e w2 ⟨rfl, hb2⟩
      have hP2 := hP1.on hb2
      have hb2 := below_on hb1 hb2
      clear hP1 hb1
      rcases hN2 : nodeO s q with _ | z
      · have hlong := nodeO_none hN2
        have ho : ((some ((p, q), i)).bind fun q : (ByteArray × ByteArray) × Nat => (nodeO s q.1.1).bind fun y => (nodeO s q.1.2).bind fun z => some ((y, z), q.2)) = none := by simp only [Option.bind_some, hN, hN2, Option.bind_none]
        go_wp2_with fail
        refine (node_many s q w2 hq hlong).mono ?_
        rintro e w3 ⟨rfl, rfl⟩
        go_wp2_with fail
        go_ret3
        exact ⟨.inl ⟨ho, _, _, rfl⟩, hb2⟩
      · obtain ⟨hshort2, rfl⟩ := nodeO_some hN2
        have hz2 := nodeO_size hN2
        have ho : ((some ((p, q), i)).bind fun q : (ByteArray × ByteArray) × Nat => (nodeO s q.1.1).bind fun y => (nodeO s q.1.2).bind fun z => some ((y, z), q.2)) = some ((nodeS s p, nodeS s q), i) := by simp only [Option.bind_some, hN, hN2]
        go_wp2_with fail
        refine (node_tab s q w2 (hE.on hb2) hshort2).mono ?_
        rintro e w3 ⟨rfl, hb3⟩
        have hP3 := hP2.on hb3
        have hb3 := below_on hb2 hb3
        clear hP2 hb2
        go_wp2_with fail
        go_ret3
        exact ⟨.inr ⟨_, _, _, ho, rfl, hP3, by omega, by omega⟩, hb3⟩

theorem again_is (w0 : World) (x : List ByteArray) (a : Option Addr) (c b : Nat) (old : ByteArray) (hE : Tab w0) (hS : StrsAt w0 a c x) (hb0 : w0.heap.size ≤ b) (hold : old.size ≤ 9223372036854775807) (k : Nat) : AgainIs w0 x a c b old k := by
  induction k with
  | zero => intro n m kn j w hk h1 hm; omega
  | succ k ih =>
    intro n m kn j w hk h1 hm h24 hj hb hP
    have p1 := hP.old
    rcases Nat.lt_or_ge m n with hlt | hge
    · have h2 : 2 ≤ n := by omega
      have hh := halfN_lt h2
      have hp := halfN_pos n
      have hmn : ¬ m = n := by omega
      have hand : (decide ((m : Int) = (n : Int)) && kn) = false := by rw [decide_eq_false (by omega)]; rfl
      cases j with
      | zero =>
        rw [takeJ_zero old _ h2 hlt]
        go_enter Tryz.func88, Tryz.ntmps88
        go_wp2_with fail
        refine (take_no b old a c w hP).mono ?_
        rintro e w1 ⟨rfl, rfl⟩
        go_wp2_with fail
        go_ret3
        exact ⟨.inl ⟨rfl, _, _, rfl⟩, hb⟩
      | succ j =>
        have hsz := hS.sz _ (textAt_mem (l := x) (i := j) (by omega))
        have htk := take_ok w0 x a c hS b hb0 old j w (by omega) hb hP
        rcases Nat.lt_or_ge (halfN n) m with hhigh | hlow
        · rw [takeJ_high old _ h2 hlt hhigh]
          have hnext := fun w' hb' hP' => behind_any w0 x a c b old k ih hE (n - halfN n) (m - halfN n) j (textAt x j) w' (by omega) (by omega) (by omega) (by omega) (by omega) hb' hP'
          simp only [show ((m - halfN n : Nat) : Int) = (m : Int) - (halfN n : Int) by omega, show ((n - halfN n : Nat) : Int) = (n : Int) - (halfN n : Int) by omega] at hnext
          generalize textAt x j = s at htk hnext hsz
          have hif : ¬ (m : Int) ≤ (halfN n : Int) := by omega
          clear ih
          go_enter Tryz.func88, Tryz.ntmps88
          go_wp2_with fail
          refine htk.mono ?_
          rintro e w1 ⟨rfl, hP1, hb1⟩
          clear htk p1 hP
          go_wp2_with fail
          refine (half_ok n w1 h2 h24).mono ?_
          rintro e w2 ⟨rfl, rfl⟩
          go_wp2_with fail
          refine (hnext w1 hb1 hP1).mono ?_
          rintro e w2 ⟨hout, hb2⟩
          clear hnext
          rcases hout with ⟨ho, u, v, rfl⟩ | ⟨p, q, i, ho, rfl, hP2, hp2, hq2⟩
          · have Ho := Lib.hid ho
            clear ho
            go_wp2_with fail
            go_ret3
            exact ⟨.inl ⟨Ho.out, _, _, rfl⟩, hb2⟩
          · have Ho := Lib.hid ho
            clear ho
            go_wp2_with fail
            go_ret3
            exact ⟨.inr ⟨_, _, _, Ho.out, rfl, hP2, hp2, hq2⟩, hb2⟩
        · rw [takeJ_low old _ h2 hlt hlow]
          have hsz' := hsz
          have hnext := fun w' hb' hP' => before_any w0 x a c b old k ih hE (halfN n) m kn j (textAt x j) w' (by omega) h1 hlow (by omega) (by omega) hsz' hb' hP'
          generalize textAt x j = s at htk hnext hsz
          have hif : (m : Int) ≤ (halfN n : Int) := by omega
          clear ih
          go_enter Tryz.func88, Tryz.ntmps88
          go_wp2_with fail
          refine htk.mono ?_
          rintro e w1 ⟨rfl, hP1, hb1⟩
          clear htk p1 hP
          go_wp2_with fail
          refine (half_ok n w1 h2 h24).mono ?_
          rintro e w2 ⟨rfl, rfl⟩
          go_wp2_with fail
          refine (hnext w1 hb1 hP1).mono ?_
          rintro e w2 ⟨hout, hb2⟩
          clear hnext
          rcases hout with ⟨ho, u, v, rfl⟩ | ⟨p, q, i, ho, rfl, hP2, hp2, hq2⟩
          · have Ho := Lib.hid ho
            clear ho
            go_wp2_with fail
            go_ret3
            exact ⟨.inl ⟨Ho.out, _, _, rfl⟩, hb2⟩
          · have Ho := Lib.hid ho
            clear ho
            go_wp2_with fail
            go_ret3
            exact ⟨.inr ⟨_, _, _, Ho.out, rfl, hP2, hp2, hq2⟩, hb2⟩
    · obtain rfl : m = n := by omega
      cases kn with
      | true =>
        rw [takeJ_known old _ (Or.inr (Nat.le_refl _))]
        go_enter Tryz.func88, Tryz.ntmps88
        go_wp2_with fail
        go_quiet (fail)
        go_wp2_with fail
        go_ret3
        exact ⟨.inr ⟨_, _, _, rfl, rfl, hP.on (below_drewN (Below.refl _ _) nq), hold, hold⟩, below_drewN hb nq⟩
      | false =>
        cases j with
        | zero =>
          rw [takeJ_want old _ (Or.inr (Nat.le_refl _))]
          go_enter Tryz.func88, Tryz.ntmps88
          go_wp2_with fail
          refine (take_no b old a c w hP).mono ?_
          rintro e w1 ⟨rfl, rfl⟩
          go_wp2_with fail
          go_ret3
          exact ⟨.inl ⟨rfl, _, _, rfl⟩, hb⟩
        | succ j =>
          rw [takeJ_one old _ (Or.inr (Nat.le_refl _))]
          have hsz := hS.sz _ (textAt_mem (l := x) (i := j) (by omega))
          have htk := take_ok w0 x a c hS b hb0 old j w (by omega) hb hP
          generalize textAt x j = s at htk hsz
          clear ih
          go_enter Tryz.func88, Tryz.ntmps88
          go_wp2_with fail
          refine htk.mono ?_
          rintro e w1 ⟨rfl, hP1, hb1⟩
          clear htk p1 hP
          go_wp2_with fail
          go_ret3
          exact ⟨.inr ⟨_, _, _, rfl, rfl, hP1, hsz, hsz⟩, hb1⟩

/- Shows. -/
theorem growShows_range (old : ByteArray) (m : Int) (root : ByteArray) (n : Int) (v : Value) (w : World) (h : m < 1 ∨ n < m ∨ 24 < n) :
    Calls Tryz.prog 76 #[.string old, .int .i64 m, .string root, .int .i64 n, v] w fun e w' => e = .returned (.int .i64 3) ∧ w = w' := by
  by_cases h1 : m < 1
  · go_enter Tryz.func76, Tryz.ntmps76
    go_wp2_with fail
    go_ret
    exact ⟨rfl, rfl⟩
  by_cases h2 : n < m
  · go_enter Tryz.func76, Tryz.ntmps76
    go_wp2_with fail
    go_ret
    exact ⟨rfl, rfl⟩
  have h3 : 24 < n := by omega
  clear h
  go_enter Tryz.func76, Tryz.ntmps76
  go_wp2_with fail
  go_ret
  exact ⟨rfl, rfl⟩

theorem pat_laid (w : World) (old : ByteArray) (a : Option Addr) (k c : Nat) (t : TypeId) : PAt (w.alloc (.cells #[.string old, .slice a k c] t)) w.heap.size old a k c := by
  have hh : (w.alloc (.cells #[.string old, .slice a k c] t)).heap[w.heap.size]? = some (.cells #[.string old, .slice a k c] t) := by show (w.heap.push _)[w.heap.size]? = _; simp
  refine ⟨by show _ < (w.heap.push _).size; simp, ?_, ?_, ?_⟩
  · unfold World.cell?; simp only [hh]; rfl
  · unfold World.cell?; simp only [hh]; rfl
  · unfold World.frozen?; simp only [hh]; rfl

theorem growShows_in (old : ByteArray) (m : Nat) (root : ByteArray) (n : Nat) (x : List ByteArray) (a : Option Addr) (k c : Nat) (w : World) (hk : x.length = k) (hE : Tab w) (hS : StrsAt w a c x) (hold : old.size ≤ 9223372036854775807) (h1 : 1 ≤ m) (hm : m ≤ n) (h24 : n ≤ 24) :
    Calls Tryz.prog 76 #[.string old, .int .i64 (m : Int), .string root, .int .i64 (n : Int), .slice a k c] w fun e w' => e = .returned (.int .i64 (growE old m root n x)) ∧ Below w.heap.size w w' := by
  have hcap := hS.cap
  have hmax := hS.max
  have g1 : ¬ (m : Int) < 1 := by omega
  have g2 : ¬ (n : Int) < (m : Int) := by omega
  have g3 : ¬ (24 : Int) < (n : Int) := by omega
  have hg := growE_take old root m n x h1 hm h24
  rw [hk] at hg
  generalize growE old m root n x = res at hg
  have hP := pat_laid w old a k c 135
  have hb : Below w.heap.size w (w.alloc (.cells #[.string old, .slice a k c] 135)) := (Below.refl _ _).alloc (Nat.le_refl _) _
  have hag := again_is w x a c w.heap.size old hE hS (Nat.le_refl _) hold n n m true k _ (Nat.le_refl _) h1 hm h24 (by omega) hb hP
  generalize takeJ old (textAt x) n m true k = o at hg hag
  go_enter Tryz.func76, Tryz.ntmps76
  go_wp2_with fail
  refine hag.mono ?_
  rintro e w1 ⟨hout, hb1⟩
  clear hag
  rcases hout with ⟨rfl, u, v, rfl⟩ | ⟨p, q, i, rfl, rfl, hP1, hp, hq⟩
  · rw [if_neg (by simp)] at hg
    have Hg := Lib.hid hg
    clear hg hP
    go_wp2_with fail
    go_ret
    exact ⟨by rw [Hg.out]; rfl, hb1⟩
  · have r1 := hP1.rest
    by_cases hi : i = 0
    · subst hi
      by_cases hpo : p = old
      · have s1 := str_eq hpo
        by_cases hqr : q = root
        · have s2 := str_eq hqr
          rw [if_pos (by rw [hpo, hqr])] at hg
          have Hg := Lib.hid hg
          clear hg hP hpo hqr
          go_wp2_with fail
          go_ret
          exact ⟨by rw [Hg.out]; rfl, hb1⟩
        · have s2 := str_ne hqr
          rw [if_neg (by simp [hqr])] at hg
          have Hg := Lib.hid hg
          clear hg hP hpo hqr
          go_wp2_with fail
          go_ret
          exact ⟨by rw [Hg.out]; rfl, hb1⟩
      · have s1 := str_ne hpo
        rw [if_neg (by simp [hpo])] at hg
        have Hg := Lib.hid hg
        clear hg hP hpo
        go_wp2_with fail
        go_ret
        exact ⟨by rw [Hg.out]; rfl, hb1⟩
    · rw [if_neg (by simp [hi])] at hg
      have Hg := Lib.hid hg
      have hi' : 0 < i := by omega
      clear hg hP
      go_wp2_with fail
      go_ret
      exact ⟨by rw [Hg.out]; rfl, hb1⟩

theorem growShows_any (old : ByteArray) (m : Int) (root : ByteArray) (n : Int) (x : List ByteArray) (a : Option Addr) (k c : Nat) (w : World) (hk : x.length = k) (hE : Tab w) (hS : StrsAt w a c x) (hold : old.size ≤ 9223372036854775807) :
    Calls Tryz.prog 76 #[.string old, .int .i64 m, .string root, .int .i64 n, .slice a k c] w fun e w' => e = .returned (.int .i64 (growE old m root n x)) ∧ Below w.heap.size w w' := by
  by_cases h : m < 1 ∨ n < m ∨ 24 < n
  · have e1 : growE old m root n x = 3 := by unfold growE; rw [if_pos h]
    rw [e1]
    refine (growShows_range old m root n _ w h).mono ?_
    rintro e w1 ⟨rfl, rfl⟩
    exact ⟨rfl, Below.refl _ _⟩
  obtain ⟨n', rfl⟩ := Int.eq_ofNat_of_zero_le (a := n) (by omega)
  obtain ⟨m', rfl⟩ := Int.eq_ofNat_of_zero_le (a := m) (by omega)
  exact growShows_in old m' root n' x a k c w hk hE hS hold (by omega) (by omega) (by omega)
end Go.Proofs.YtnemiobgmdpnmagGreatFmt
namespace Go.Proofs.YtnemiobgmdpnmagGreatFmt
open Go Go.RowKit

theorem infoBool : (Tryz.prog.info? 4).map (fun i => (i.zero, i.size, i.bytes)) = some (some (.bool false), 1, 1) := by kernel_rfl
end Go.Proofs.YtnemiobgmdpnmagGreatFmt
namespace Go.Proofs.YtnemiobgmdpnmagGreatFmt
open Go Go.RowKit


/- A step up. -/

/- The path of a text that is there. -/


/- Of. -/
end Go.Proofs.YtnemiobgmdpnmagGreatFmt
namespace Go.Proofs.YtnemiobgmdpnmagGreatFmt
open Go Go.RowKit Go.Maps

/- Growth. -/
set_option maxRecDepth 100000 in
theorem showGrowth_bad (l : List EntB) (a : Option Addr) (n c : Nat) (m : Int) (w : World) (hn : l.length = n) (hS : EntsAt w a c l) (z : Int) (hz : bookE l = z) (h0 : z ≠ 0) :
    Calls Tryz.prog 70 #[.agg #[.slice a n c], .int .i64 m] w fun e w' => e = .returned (.tuple #[.slice none 0 0, .int .i64 z]) ∧ Below w.heap.size w w' := by
  have hck := fun w' h => bcheck_any l a n c w' hn h
  rw [hz] at hck
  have HC := Lib.hid hck
  have hz' : (z == 0) = false := by simp only [beq_eq_false_iff_ne, ne_eq]; exact h0
  clear hck hz
  go_enter Tryz.func70, Tryz.ntmps70
  go_wp2_with fail
  have hb0 : Below w.heap.size w (w.alloc (.cells #[.slice a n c] 24)) := (Below.refl _ _).alloc (Nat.le_refl _) _
  generalize (w.alloc (.cells #[.slice a n c] 24)) = W at hb0 ⊢
  refine (HC.out W (hS.on hb0)).mono ?_
  rintro e w1 ⟨rfl, hb1⟩
  have hb1 := below_on hb0 hb1
  clear hb0 HC
  go_wp2_with fail
  go_ret2
  exact ⟨rfl, hb1⟩

set_option maxRecDepth 100000 in
theorem showGrowth_range (l : List EntB) (a : Option Addr) (n c : Nat) (m : Int) (w : World) (hE : Tab w) (hn : l.length = n) (hS : EntsAt w a c l) (hG : GoodBook l) (hm : m < 1 ∨ (n : Int) < m) :
    Calls Tryz.prog 70 #[.agg #[.slice a n c], .int .i64 m] w fun e w' => e = .returned (.tuple #[.slice none 0 0, .int .i64 3]) ∧ Below w.heap.size w w' := by
  have hck := fun w' h => bcheck_any l a n c w' hn h
  rw [(bookE_iff l).2 hG] at hck
  have HC := Lib.hid hck
  have HT := Lib.hid (fun w' hE hS => texts_any l a n c w' hn hE hS (fun e he => by have := (hG.2 e he).2.2; omega) (by have := hG.1; omega))
  have HO := Lib.hid (fun a c w' hE hS => growOf_range (textsE l) a n c m (headLog l) w' (by rw [textsE_len, hn]) hE hS (headLog_root hG) hm)
  clear hck hm
  go_enter Tryz.func70, Tryz.ntmps70
  go_wp2_with fail
  have hb0 : Below w.heap.size w (w.alloc (.cells #[.slice a n c] 24)) := (Below.refl _ _).alloc (Nat.le_refl _) _
  have q0 := heap_push w (.cells #[.slice a n c] 24)
  generalize (w.alloc (.cells #[.slice a n c] 24)) = W at hb0 q0 ⊢
  refine (HC.out W (hS.on hb0)).mono ?_
  rintro e w1 ⟨rfl, hb1⟩
  have d0 := heap_cell (heap_on hb1 q0) 0 _ rfl
  have hb1 := below_on hb0 hb1
  clear hb0 HC q0
  go_wp2_with fail
  refine (HT.out w1 (hE.on hb1) (hS.on hb1)).mono ?_
  rintro e w2 ⟨a', c', rfl, hSx, hb2⟩
  have hb2 := below_on hb1 hb2
  clear hb1 HT d0
  go_wp2_with fail
  refine (HO.out a' c' w2 (hE.on hb2) hSx).mono ?_
  rintro e w3 ⟨rfl, hb3⟩
  have hb3 := below_on hb2 hb3
  go_wp2_with fail
  go_ret2
  exact ⟨rfl, hb3⟩

set_option maxRecDepth 100000 in
theorem showGrowth_ok (l : List EntB) (a : Option Addr) (n c m : Nat) (w : World) (hE : Tab w) (hn : l.length = n) (hS : EntsAt w a c l) (hG : GoodBook l) (h1 : 1 ≤ m) (hm : m ≤ n) :
    Calls Tryz.prog 70 #[.agg #[.slice a n c], .int .i64 (m : Int)] w fun e w' => ∃ a' c', e = .returned (.tuple #[.slice a' (growS (textsE l) m true).length c', .int .i64 0]) ∧ StrsAt w' a' c' (growS (textsE l) m true) ∧ Below w.heap.size w w' := by
  have hck := fun w' h => bcheck_any l a n c w' hn h
  rw [(bookE_iff l).2 hG] at hck
  have HC := Lib.hid hck
  have HT := Lib.hid (fun w' hE hS => texts_any l a n c w' hn hE hS (fun e he => by have := (hG.2 e he).2.2; omega) (by have := hG.1; omega))
  have hof := (fun a c w' hE hS => growOf_ok (textsE l) a n c m (headLog l) w' (by rw [textsE_len, hn]) hE hS (headLog_root hG) h1 hm)
  generalize growS (textsE l) m true = L at hof ⊢
  have HO := Lib.hid hof
  clear hck hm h1 hof
  go_enter Tryz.func70, Tryz.ntmps70
  go_wp2_with fail
  have hb0 : Below w.heap.size w (w.alloc (.cells #[.slice a n c] 24)) := (Below.refl _ _).alloc (Nat.le_refl _) _
  have q0 := heap_push w (.cells #[.slice a n c] 24)
  generalize (w.alloc (.cells #[.slice a n c] 24)) = W at hb0 q0 ⊢
  refine (HC.out W (hS.on hb0)).mono ?_
  rintro e w1 ⟨rfl, hb1⟩
  have d0 := heap_cell (heap_on hb1 q0) 0 _ rfl
  have hb1 := below_on hb0 hb1
  clear hb0 HC q0
  go_wp2_with fail
  refine (HT.out w1 (hE.on hb1) (hS.on hb1)).mono ?_
  rintro e w2 ⟨a', c', rfl, hSx, hb2⟩
  have hb2 := below_on hb1 hb2
  clear hb1 HT d0
  go_wp2_with fail
  refine (HO.out a' c' w2 (hE.on hb2) hSx).mono ?_
  rintro e w3 ⟨a2, c2, rfl, _, hL, hb3⟩
  have hb3 := below_on hb2 hb3
  go_wp2_with fail
  go_ret2
  exact ⟨a2, c2, rfl, hL, hb3⟩

end Go.Proofs.YtnemiobgmdpnmagGreatFmt
namespace Go.Proofs.YtnemiobgmdpnmagGreatFmt
open Go Go.RowKit Go.Maps

theorem infoText : (Tryz.prog.info? 9).map (fun i => (i.zero, i.size, i.bytes)) = some (some (.string ⟨#[]⟩), 1, 16) := by kernel_rfl

theorem pathT_at (f : Nat → Option ByteArray) : ∀ (n h k j : Nat), j < n → (pathT f h k n)[j]? = some (trieT f (h + j) (sibN (k / 2 ^ j)))
  | 0, _, _, _, hj => absurd hj (by omega)
  | n + 1, h, k, 0, _ => by simp [pathT]
  | n + 1, h, k, j + 1, hj => by
    show (pathT f (h + 1) (k / 2) n)[j]? = _
    rw [pathT_at f n (h + 1) (k / 2) j (by omega), Nat.div_div_eq_div_mul, Nat.pow_succ, Nat.mul_comm 2, show h + 1 + j = h + (j + 1) by omega]
theorem pathT_take (f : Nat → Option ByteArray) {n k j : Nat} (h : j < n) : (pathT f 0 k n).take (j + 1) = (pathT f 0 k n).take j ++ [trieT f j (sibN (k / 2 ^ j))] := by
  rw [List.take_add_one, pathT_at f n 0 k j h, Nat.zero_add]
  rfl
theorem pathT_313 {f : Nat → Option ByteArray} (hf : Short f) {n k : Nat} (hn : n ≤ 4) : ∀ s ∈ pathT f 0 k n, s.size ≤ 313 := by
  intro s hs
  obtain ⟨j, hj, rfl⟩ := List.getElem_of_mem hs
  rw [pathT_len] at hj
  have := pathT_at f n 0 k j hj
  rw [List.getElem?_eq_getElem (by rw [pathT_len]; exact hj)] at this
  injection this with this
  rw [this]
  exact trieT_313 hf _ (by omega)

set_option maxRecDepth 100000 in
theorem path_good (p : Option Nat) (D : DataW Unit) (k : Nat) (w : World) (hE : Tab w) (hM : MapAt w p D) (hG : GoodMap D) (hk : k < 16) :
    Calls Tryz.prog 72 #[.map p, .int .i64 (k : Int)] w fun e w' => ∃ a c, e = .returned (.tuple #[.slice a 4 c, .int .i64 0]) ∧ StrsAt w' a c (pathT (valN D) 0 k 4) ∧ Below w.heap.size w w' := by
  have h0 := (check_iff hM.text).2 hG
  have hc := check_any p D w hM
  rw [h0] at hc
  have HC := Lib.hid hc
  have hpart := part_is p D hG.short
  have hsm := pathT_313 hG.short (k := k) (Nat.le_refl 4)
  have hst := fun j (h : j < 4) => pathT_take (valN D) (k := k) h
  have hlen := pathT_len (valN D) 4 0 k
  generalize hL : pathT (valN D) 0 k 4 = L at *
  obtain ⟨i0, hi0, hz0, hz1, hz2⟩ := info_parts infoText
  clear hc h0 hG hL
  have HS := Lib.hid hst
  have HP := Lib.hid hpart
  clear hst hpart
  go_enter Tryz.func72, Tryz.ntmps72
  go_wp2_with fail
  refine HC.out.mono ?_
  rintro e w1 ⟨rfl, rfl⟩
  go_wp2_with fail
  refine (isKey_yes k hk w).mono ?_
  rintro e w1 ⟨rfl, rfl⟩
  go_wp2_with fail
  go_loopg [7, 8] 4 (fun g s7 s8 wr => ∃ (h : Nat) (a : Option Addr) (c : Nat), s8 = .int .i64 ((2 ^ h : Nat) : Int) ∧ s7 = .slice a h c ∧ h ≤ 4 ∧ 4 - h ≤ g ∧
    wr.ownsRow w.heap.size 9 1 (.slice a h c) h ((L.take h).map Value.string) ∧ Below w.heap.size w wr)
  case atStart => exact ⟨0, none, 0, rfl, rfl, Nat.zero_le _, by omega, World.ownsRow_nil _ _ _ _, Below.refl _ _⟩
  case round =>
    obtain ⟨h, a', c', rfl, rfl, hh, hg, hown, hb⟩ := hrel
    rcases Nat.lt_or_ge h 4 with h4 | h4
    · have hlt := sib_lt h4 hk
      have hp := fun w' hE' hM' => HP.out h (by omega) (sibN (k / 2 ^ h)) (sibN (k / 2 ^ h) * 2 ^ h) (2 ^ h) w' rfl rfl hlt hE' hM'
      have hbs := fun w' => beside_any k h (2 ^ h) rfl h4 hk w'
      have hs := HS.out h h4
      have hp8 : 2 ^ h ≤ 8 := by
        match h, h4 with
        | 0, _ => decide
        | 1, _ => decide
        | 2, _ => decide
        | 3, _ => decide
      have hp1 : 1 ≤ 2 ^ h := Nat.pos_of_ne_zero (by simp)
      have hp2 : 2 ^ (h + 1) = 2 * 2 ^ h := by rw [Nat.pow_succ, Nat.mul_comm]
      generalize trieT (valN D) h (sibN (k / 2 ^ h)) = x at *
      generalize sibN (k / 2 ^ h) * 2 ^ h = fi at *
      have HP2 := Lib.hid hp2
      clear hp2
      generalize 2 ^ h = n at *
      have hEr := hE.on hb
      have hMr := hM.on hb
      have HB := Lib.hid hbs
      have HQ := Lib.hid hp
      have HT := Lib.hid hs
      clear hbs hp hs HS HP HC
      have hn16 : (n : Int) < 16 := by omega
      go_wp2_with fail
      refine (HB.out wr).mono ?_
      rintro e w1 ⟨rfl, rfl⟩
      go_wp2_with fail
      refine (HQ.out wr hEr hMr).mono ?_
      rintro e w1 ⟨rfl, hb1⟩
      have hown := owns_on hown hb1
      have hb1 := below_on hb hb1
      clear hEr hMr HB HQ hb
      go_wp2_with (at_builtin; refine wpList_append_lies _ rfl _ _ 60 rfl w.heap.size 9 i0 (.string ⟨#[]⟩) 1 16 Tryz.underlying60 hi0 hz0 hz1 hz2 rfl (by decide) _ _ _ rfl (hown.alloc _) ⟨w1.heap.size, 0, none⟩ 1 1 [.string x] rfl rfl ?c1 ?c2 (by omega) ?c3 ?c4 ?c5 _ rfl ?_)
      case c1 => exact World.news_of_block (cs := #[.string x]) (t := 9) (fr := (0, 0)) (by show (w1.heap.push _)[w1.heap.size]? = _; simp)
      case c2 => intro u hu; rw [List.mem_singleton.1 hu]; rfl
      case c3 => unfold maxLen; omega
      case c4 => omega
      case c5 => show _ ≤ (w1.heap.push _).size; rw [Array.size_push]; have := hb1.size; omega
      intro g' cap w2 hown2 hgrow _ _
      have hb2 := own_below hb1 hb1.size hown (Nat.le_refl _) hgrow
      go_wp2_with fail
      go_roundg (4 - (h + 1))
      case rel =>
        refine ⟨h + 1, some ⟨g', 0, none⟩, cap, ?_, rfl, by omega, by omega, ?_, hb2⟩
        · rw [HP2.out]; go_num
        · rw [HT.out, List.map_append, List.map_take]; exact hown2
      case measure => omega
    · obtain rfl : h = 4 := by omega
      rw [show L.take 4 = L from List.take_of_length_le (by omega)] at hown
      obtain ⟨_, hS⟩ := owned_strs hown (fun s hs => by have := hsm s hs; omega)
      go_wp2_with fail
      go_ret2
      exact ⟨a', c', rfl, hS, hb⟩
theorem path_bad (p : Option Nat) (D : DataW Unit) (k : Int) (w : World) (hM : MapAt w p D) (c : Int) (hc : checkE D = c) (h : c ≠ 0) :
    Calls Tryz.prog 72 #[.map p, .int .i64 k] w fun e w' => e = .returned (.tuple #[.slice none 0 0, .int .i64 c]) ∧ w = w' := by
  have hk := check_any p D w hM
  rw [hc] at hk
  have HC := Lib.hid hk
  clear hc hk hM
  go_enter Tryz.func72, Tryz.ntmps72
  go_wp2_with fail
  refine HC.out.mono ?_
  rintro e w1 ⟨rfl, rfl⟩
  go_wp2_with fail
  go_ret2
  exact ⟨rfl, rfl⟩
theorem path_who (p : Option Nat) (D : DataW Unit) (k : Int) (w : World) (hM : MapAt w p D) (hG : GoodMap D) (hk : k < 0 ∨ 15 < k) :
    Calls Tryz.prog 72 #[.map p, .int .i64 k] w fun e w' => e = .returned (.tuple #[.slice none 0 0, .int .i64 5]) ∧ w = w' := by
  have h0 := (check_iff hM.text).2 hG
  have hc := check_any p D w hM
  rw [h0] at hc
  have HC := Lib.hid hc
  have HK := Lib.hid (isKey_no k hk w)
  clear hc h0 hM hG hk
  go_enter Tryz.func72, Tryz.ntmps72
  go_wp2_with fail
  refine HC.out.mono ?_
  rintro e w1 ⟨rfl, rfl⟩
  go_wp2_with fail
  refine HK.out.mono ?_
  rintro e w1 ⟨rfl, rfl⟩
  go_wp2_with fail
  go_ret2
  exact ⟨rfl, rfl⟩

/- Shows. -/
theorem empty_list : (⟨#[]⟩ : ByteArray).toList = [] := by decide +kernel
theorem empty_of {v : ByteArray} (h : v.size = 0) : v = ⟨#[]⟩ := by
  apply ba_ext
  have h1 := ba_size v
  rw [h] at h1
  rw [List.length_eq_zero_iff.1 h1.symm]
theorem tshows_who (all : ByteArray) (k : Int) (v : ByteArray) (t : Bool) (a : Option Addr) (n c : Nat) (w : World) (hk : k < 0 ∨ 15 < k) :
    Calls Tryz.prog 74 #[.string all, .int .i64 k, .string v, .bool t, .slice a n c] w fun e w' => e = .returned (.int .i64 5) ∧ w = w' := by
  have HK := Lib.hid (isKey_no k hk w)
  clear hk
  go_enter Tryz.func74, Tryz.ntmps74
  go_wp2_with fail
  refine HK.out.mono ?_
  rintro e w1 ⟨rfl, rfl⟩
  go_wp2_with fail
  go_ret
  exact ⟨rfl, rfl⟩
theorem shows_form (all : ByteArray) (k : Nat) (v : ByteArray) (a : Option Addr) (n c : Nat) (w : World) (hk : k < 16) (hv : v.size ≠ 0) :
    Calls Tryz.prog 74 #[.string all, .int .i64 (k : Int), .string v, .bool false, .slice a n c] w fun e w' => e = .returned (.int .i64 4) ∧ w = w' := by
  have HK := Lib.hid (isKey_yes k hk w)
  have hq := str_ne (a := v) (b := ⟨#[]⟩) (fun e => hv (by rw [e]; rfl))
  rw [empty_list] at hq
  go_enter Tryz.func74, Tryz.ntmps74
  go_wp2_with fail
  refine HK.out.mono ?_
  rintro e w1 ⟨rfl, rfl⟩
  go_wp2_with fail
  go_ret
  exact ⟨rfl, rfl⟩
/- Whether a value is told with a key that has none. -/
def FormOk (v : ByteArray) (t : Bool) : Prop := t = true ∨ v = ⟨#[]⟩
theorem one_start (v : ByteArray) (t : Bool) (x : ByteArray) (h : startT v t = some x) (w : World) :
    Calls Tryz.prog 59 #[.string v, .bool t] w fun e w' => e = .returned (.tuple #[.string x, .int .i64 0]) ∧ w = w' := by
  cases t with
  | false =>
    injection (show some noneS = some x from h) with h
    rw [← h]
    exact one_none v w
  | true =>
    obtain ⟨hs, rfl⟩ := leafO_some (show leafO v = some x from h)
    exact one_slot (some v) (fun s e => by injection e with e; rw [← e]; exact hs) w
theorem one_stop (v : ByteArray) (t : Bool) (h : startT v t = none) (w : World) :
    Calls Tryz.prog 59 #[.string v, .bool t] w fun e w' => e = .returned (.tuple #[.string ⟨#[]⟩, .int .i64 2]) ∧ w = w' := by
  cases t with
  | false => cases (show some noneS = none from h)
  | true => exact one_many v w (leafO_none (show leafO v = none from h))

theorem shows_len (all : ByteArray) (k : Nat) (v : ByteArray) (t : Bool) (a : Option Addr) (n c : Nat) (w : World) (hk : k < 16) (hv : FormOk v t) (hn : n ≠ 4) (_hn : n ≤ 9223372036854775807) :
    Calls Tryz.prog 74 #[.string all, .int .i64 (k : Int), .string v, .bool t, .slice a n c] w fun e w' => e = .returned (.int .i64 7) ∧ w = w' := by
  have HK := Lib.hid (isKey_yes k hk w)
  have hn2 : ¬ (n : Int) = 4 := by omega
  rcases hv with rfl | rfl
  · go_enter Tryz.func74, Tryz.ntmps74
    go_wp2_with fail
    refine HK.out.mono ?_
    rintro e w1 ⟨rfl, rfl⟩
    go_wp2_with fail
    go_ret
    exact ⟨rfl, rfl⟩
  · cases t
    · go_enter Tryz.func74, Tryz.ntmps74
      go_wp2_with fail
      refine HK.out.mono ?_
      rintro e w1 ⟨rfl, rfl⟩
      go_wp2_with fail
      go_ret
      exact ⟨rfl, rfl⟩
    · go_enter Tryz.func74, Tryz.ntmps74
      go_wp2_with fail
      refine HK.out.mono ?_
      rintro e w1 ⟨rfl, rfl⟩
      go_wp2_with fail
      go_ret
      exact ⟨rfl, rfl⟩
theorem shows_stop (all : ByteArray) (k : Nat) (v : ByteArray) (t : Bool) (a : Option Addr) (n c : Nat) (w : World) (hk : k < 16) (hv : FormOk v t) (hn : n = 4) (hx : startT v t = none) :
    Calls Tryz.prog 74 #[.string all, .int .i64 (k : Int), .string v, .bool t, .slice a n c] w fun e w' => e = .returned (.int .i64 2) ∧ w = w' := by
  subst hn
  cases t with
  | false => cases (show some noneS = none from hx)
  | true =>
    have HK := Lib.hid (isKey_yes k hk w)
    have HO := Lib.hid (one_stop v true hx w)
    clear hv hx
    go_enter Tryz.func74, Tryz.ntmps74
    go_wp2_with fail
    refine HK.out.mono ?_
    rintro e w1 ⟨rfl, rfl⟩
    go_wp2_with fail
    refine HO.out.mono ?_
    rintro e w1 ⟨rfl, rfl⟩
    go_wp2_with fail
    go_ret
    exact ⟨rfl, rfl⟩
def endE (all : ByteArray) : Option ByteArray → Int
  | none => 2
  | some x => if x = all then 0 else 7
theorem endE_same (all : ByteArray) : endE all (some all) = 0 := if_pos rfl
theorem endE_other {all y : ByteArray} (h : y ≠ all) : endE all (some y) = 7 := if_neg h
theorem sideT_size {k : Nat} {y s z : ByteArray} (h : sideT k y s = some z) : z.size ≤ 9223372036854775807 := by
  unfold sideT at h
  split at h <;> (have := nodeO_size h; omega)
theorem drop_at {l : List ByteArray} {j : Nat} (h : j < l.length) : l.drop j = l.getD j ByteArray.empty :: l.drop (j + 1) := by
  rw [List.drop_eq_getElem_cons h, List.getD_eq_getElem?_getD, List.getElem?_eq_getElem h]
  rfl

set_option maxRecDepth 100000 in
theorem shows_go (all : ByteArray) (k : Nat) (v : ByteArray) (t : Bool) (l : List ByteArray) (a : Option Addr) (n c : Nat) (w : World) (hE : Tab w) (hS : StrsAt w a c l) (hl : l.length = n) (hn : n = 4) (hk : k < 16) (hv : FormOk v t) (x : ByteArray) (hx : startT v t = some x) (hxs : x.size ≤ 9223372036854775807) :
    Calls Tryz.prog 74 #[.string all, .int .i64 (k : Int), .string v, .bool t, .slice a n c] w fun e w' => e = .returned (.int .i64 (endE all (climbT k x l))) ∧ Below w.heap.size w w' := by
  subst hn
  have HK := Lib.hid (isKey_yes k hk w)
  have HO := Lib.hid (one_start v t x hx w)
  have hg : (!t && !(v.toList == [])) = false := by
    rcases hv with rfl | rfl
    · rfl
    · rw [empty_list]; cases t <;> rfl
  obtain ⟨b, off, rfl, hlt, hcl⟩ := hS.cells (by omega)
  have hsz := hS.sz
  generalize hR : climbT k x l = R
  have HR := Lib.hid hR
  clear hx hS hv hR
  cases t
  all_goals
    go_enter Tryz.func74, Tryz.ntmps74
    go_wp2_with fail
    refine HK.out.mono ?_
    rintro e w1 ⟨rfl, rfl⟩
    try simp only [Bool.not_false, Bool.true_and, Bool.not_eq_false'] at hg
    go_wp2_with fail
    refine HO.out.mono ?_
    rintro e w1 ⟨rfl, rfl⟩
    go_wp2_with fail
    go_loopg [11, 12, 13, 39] 4 (fun g s11 s12 s13 s39 wr => ∃ (j : Nat) (y : ByteArray), s11 = .string y ∧ s12 = .int .i64 0 ∧ s13 = .int .i64 ((2 ^ j : Nat) : Int) ∧ s39 = .int .i64 (j : Int) ∧ j ≤ 4 ∧ 4 - j ≤ g ∧
      y.size ≤ 9223372036854775807 ∧ Hid (climbT (k / 2 ^ j) y (l.drop j) = R) ∧ Below w.heap.size w wr)
    case atStart => exact ⟨0, x, rfl, rfl, rfl, rfl, Nat.zero_le _, by omega, hxs, by rw [Nat.pow_zero, Nat.div_one]; exact HR, Below.refl _ _⟩
    case round =>
      obtain ⟨j, y, rfl, rfl, rfl, rfl, hj, hgh, hy, HC, hb⟩ := hrel
      rcases Nat.lt_or_ge j 4 with h4 | h4
      · have hcj := hcl j (by omega)
        rw [← hb.cell hlt] at hcj
        have hsj := hsz (l.getD j ByteArray.empty) (by rw [List.getD_eq_getElem?_getD, List.getElem?_eq_getElem (by omega)]; exact List.getElem_mem _)
        have hC := HC.out
        rw [drop_at (by omega)] at hC
        change (sideT (k / 2 ^ j) y (l.getD j ByteArray.empty)).bind (fun z => climbT (k / 2 ^ j / 2) z (l.drop (j + 1))) = R at hC
        rw [Nat.div_div_eq_div_mul, ← Nat.pow_succ] at hC
        generalize l.getD j ByteArray.empty = s at *
        have hp8 : 2 ^ j ≤ 8 := by
          match j, h4 with
          | 0, _ => decide
          | 1, _ => decide
          | 2, _ => decide
          | 3, _ => decide
        have hp1 : 1 ≤ 2 ^ j := Nat.pos_of_ne_zero (by simp)
        have hp2 : 2 ^ (j + 1) = 2 * 2 ^ j := by rw [Nat.pow_succ, Nat.mul_comm]
        have hj4 : (j : Int) < 4 := by omega
        rcases hz : sideT (k / 2 ^ j) y s with _ | z
        · rw [hz] at hC
          have HN := Lib.hid (join_not k j (2 ^ j) rfl h4 hk y s wr hy hsj hz)
          have hR2 : R = none := hC.symm
          clear hC hz HC hcl
          generalize 2 ^ j = m at *
          go_wp2_with fail
          refine HN.out.mono ?_
          rintro e w1 ⟨rfl, rfl⟩
          go_wp2_with fail
          go_ret
          exact ⟨by rw [hR2]; rfl, hb⟩
        · rw [hz] at hC
          have HN := Lib.hid (join_up k j (2 ^ j) rfl h4 hk y s z wr (hE.on hb) hz)
          have hzs : z.size ≤ 9223372036854775807 := sideT_size hz
          have HC2 : Hid (climbT (k / 2 ^ (j + 1)) z (l.drop (j + 1)) = R) := hC
          have HP2 := Lib.hid hp2
          clear hC hz HC hcl hp2
          generalize 2 ^ j = m at *
          go_wp2_with fail
          refine HN.out.mono ?_
          rintro e w1 ⟨rfl, hb1⟩
          have hb1 := below_on hb hb1
          clear HN hcj
          go_wp2_with fail
          go_roundg (4 - (j + 1))
          case rel => exact ⟨j + 1, z, rfl, rfl, by rw [HP2.out]; go_num, by go_num, by omega, by omega, hzs, HC2, hb1⟩
          case measure => omega
      · obtain rfl : j = 4 := by omega
        have hC := HC.out
        rw [List.drop_of_length_le (by omega)] at hC
        change some y = R at hC
        by_cases he : y = all
        · have hq := str_eq he
          have hR2 : R = some all := by rw [← hC, he]
          have HR2 := Lib.hid hR2
          clear hC HC hR2 HR he
          go_wp2_with fail
          go_ret
          exact ⟨by rw [HR2.out, endE_same]; rfl, hb⟩
        · have hq := str_ne he
          have hR2 : endE all R = 7 := by rw [← hC]; exact endE_other he
          have HR2 := Lib.hid hR2
          clear hC HC hR2 HR he
          go_wp2_with fail
          go_ret
          exact ⟨by rw [HR2.out]; rfl, hb⟩

theorem tshows_any (all : ByteArray) (k : Int) (v : ByteArray) (t : Bool) (l : List ByteArray) (a : Option Addr) (n c : Nat) (w : World) (hE : Tab w) (hS : StrsAt w a c l) (hl : l.length = n) :
    Calls Tryz.prog 74 #[.string all, .int .i64 k, .string v, .bool t, .slice a n c] w fun e w' => e = .returned (.int .i64 (trieE all k v t l)) ∧ Below w.heap.size w w' := by
  unfold trieE
  by_cases hk : k < 0 ∨ 15 < k
  · rw [if_pos hk]
    exact (tshows_who all k v t a n c w hk).mono fun e w' ⟨h1, h2⟩ => ⟨h1, h2 ▸ Below.refl _ _⟩
  rw [if_neg hk]
  obtain ⟨j, rfl⟩ := Int.eq_ofNat_of_zero_le (show 0 ≤ k by omega)
  have hj : j < 16 := by omega
  rw [Int.toNat_natCast]
  by_cases hf : t = false ∧ v.size ≠ 0
  · rw [if_pos hf]
    obtain ⟨rfl, hv⟩ := hf
    exact (shows_form all j v a n c w hj hv).mono fun e w' ⟨h1, h2⟩ => ⟨h1, h2 ▸ Below.refl _ _⟩
  rw [if_neg hf]
  have hv : FormOk v t := by
    cases t with
    | true => exact .inl rfl
    | false => exact .inr (empty_of (Classical.byContradiction fun h => hf ⟨rfl, h⟩))
  by_cases h4 : l.length ≠ 4
  · rw [if_pos h4]
    have hcap := hS.cap
    have hmax := hS.max
    exact (shows_len all j v t a n c w hj hv (by omega) (by omega)).mono fun e w' ⟨h1, h2⟩ => ⟨h1, h2 ▸ Below.refl _ _⟩
  rw [if_neg h4]
  have h4 : l.length = 4 := Classical.byContradiction h4
  rcases hx : startT v t with _ | x
  · exact (shows_stop all j v t a n c w hj hv (by omega) hx).mono fun e w' ⟨h1, h2⟩ => ⟨h1, h2 ▸ Below.refl _ _⟩
  · have hxs : x.size ≤ 9223372036854775807 := by
      cases t with
      | false =>
        injection (show some noneS = some x from hx) with h
        rw [← h]; decide
      | true =>
        obtain ⟨hs, rfl⟩ := leafO_some (show leafO v = some x from hx)
        rw [leafS_size]; omega
    exact shows_go all j v t l a n c w hE hS hl (by omega) hj hv x hx hxs
end Go.Proofs.YtnemiobgmdpnmagGreatFmt
namespace Go.Proofs.YtnemiobgmdpnmagGreatFmt
open Go Go.RowKit Go.Maps

theorem results_row_tmp2 {P : Program} {fn : Func} {p u v : Tmp} {ty : TypeId} (h : fn.results = #[.cell p ty, .tmp u, .tmp v]) (tmps : Array Value) (w : World) (g : Nat) (t : TypeId) (cs : Array Value) (fr : Nat × Nat) (d : TypeDesc)
    (hp : tmps.getD p undef = .pointer (some ⟨g, 0, none⟩)) (hg : w.heap[g]? = some (.cells cs t fr))
    (hu : P.underlying ty = some d) (hd : (match d with | .struct _ | .array _ _ => true | _ => false) = true) (hi : (P.info? ty).map (·.size) = some cs.size) :
    (results fn tmps).run P w = .ok (.tuple #[.agg cs, tmps.getD u undef, tmps.getD v undef]) w := by
  have hl := run_loadVar_row w g t ty cs fr d hg hu hd hi
  rw [Array.getD_eq_getD_getElem?] at hp
  simp only [results, h]
  simp [Result.andThen, hp, asAddr, hl]
theorem results_tmp4 {fn : Func} {t u v x : Tmp} (h : fn.results = #[.tmp t, .tmp u, .tmp v, .tmp x]) (tmps : Array Value) (P : Program) (w : World) :
    (results fn tmps).run P w = .ok (.tuple #[tmps.getD t undef, tmps.getD u undef, tmps.getD v undef, tmps.getD x undef]) w := by
  simp [results, h]
theorem ent_cells (k : Int) (v : ByteArray) : (#[.int .i64 k, .string v] : Array Value).all (·.oneCell') = true := by simp [Value.oneCell']
theorem lastV_app : ∀ (l m : List EntB) (k : Int), lastV (l ++ m) k = (lastV m k).or (lastV l k)
  | [], m, k => by simp [lastV]
  | e :: l, m, k => by
    show (lastV (l ++ m) k).or _ = (lastV m k).or ((lastV l k).or _)
    rw [lastV_app l m k, Option.or_assoc]
theorem lastV_at {l : List EntB} {j : Nat} (h : j < l.length) (k : Int) (hl : lastV (l.drop (j + 1)) k = none) : lastV (l.drop j) k = if k = (entAt l j).1 then some (entAt l j).2 else none := by
  rw [ents_drop h]
  show (lastV (l.drop (j + 1)) k).or _ = _
  rw [hl]
  rfl
theorem lastV_some {l : List EntB} {j : Nat} {k : Int} {v : ByteArray} (h : lastV (l.drop j) k = some v) : lastV l k = some v := by
  have := lastV_app (l.take j) (l.drop j) k
  rw [List.take_append_drop, h] at this
  exact this

set_option maxRecDepth 100000 in
theorem last_any (l : List EntB) (a : Option Addr) (n c : Nat) (k : Int) (w : World) (hn : l.length = n) (hS : EntsAt w a c l) :
    Calls Tryz.prog 73 #[.agg #[.slice a n c], .int .i64 k] w fun e w' => e = .returned (.tuple #[.string (valS (valsD l) k), .bool (valD (valsD l) k).isSome]) ∧ Below w.heap.size w w' := by
  have hcap := hS.cap
  have hmax := hS.max
  have hvl := vals_last l k
  unfold valS
  rw [hvl]
  clear hvl
  go_enter Tryz.func73, Tryz.ntmps73
  go_wp2_with fail
  have hb1 : Below w.heap.size w (w.alloc (.cells #[.slice a n c] 24)) := (Below.refl _ _).alloc (Nat.le_refl _) _
  have q0 := box_cell w #[.slice a n c] 24 0 _ rfl
  generalize (w.alloc (.cells #[.slice a n c] 24)) = W at hb1 q0 ⊢
  have hS := hS.on hb1
  go_loopg [6] n (fun g s6 wr => ∃ j : Nat, j ≤ n ∧ j ≤ g ∧ s6 = .int .i64 ((j : Int) - 1) ∧ lastV (l.drop j) k = none ∧ wr = W)
  case atStart => exact ⟨n, Nat.le_refl _, Nat.le_refl _, rfl, by rw [List.drop_of_length_le (by omega)]; rfl, rfl⟩
  case round =>
    obtain ⟨j, hj, hg, rfl, hla, rfl⟩ := hrel
    rcases Nat.eq_zero_or_pos j with h0 | h0
    · subst h0
      rw [List.drop_zero] at hla
      have HA := Lib.hid hla
      clear hla
      go_wp2_with fail
      go_ret2
      exact ⟨by rw [HA.out]; rfl, hb1⟩
    · obtain ⟨i, rfl⟩ : ∃ i, j = i + 1 := ⟨j - 1, by omega⟩
      rw [show (((i + 1 : Nat) : Int) - 1) = (i : Int) by omega]
      have hj0 : (0 : Int) ≤ (i : Int) := by omega
      have hjn : (i : Int) < (n : Int) := by omega
      have hat := lastV_at (l := l) (j := i) (by omega) k hla
      obtain ⟨b, off, rfl, hbl, hc⟩ := hS.cells (by omega)
      obtain ⟨c0, c1⟩ := hc i (by omega)
      generalize entAt l i = x at c0 c1 hat
      obtain ⟨key, v⟩ := x
      simp only at c0 c1 hat
      clear hc hS hla
      by_cases hk : k = key
      · subst hk
        rw [if_pos rfl] at hat
        have HA := Lib.hid (lastV_some hat)
        clear hat
        go_wp2_with fail
        go_ret2
        exact ⟨by rw [HA.out]; rfl, hb1⟩
      · rw [if_neg hk] at hat
        have hk' : (key == k) = false := by simp only [beq_eq_false_iff_ne, ne_eq]; exact fun e => hk e.symm
        have HA := Lib.hid hat
        clear hat
        go_wp2_with fail
        go_roundg i
        case measure => omega
        case rel => exact ⟨i, by omega, Nat.le_refl _, by go_num, HA.out, rfl⟩

/- Entry. -/
theorem steps_kept {w : World} {B g : Nat} {t : TypeId} {a : Option Addr} {n c : Nat} {l : List StepB} (h : w.ownsRow B t 2 (.slice a n c) n (stepCells l)) (hg : g < B) (hs : ∀ s ∈ l, s.2.size ≤ 9223372036854775807) (cs : Array Value) : StepsAt (w.setRow g cs) a c l := by
  have hgr : w.grownBy (w.setRow g cs) (some g) := ⟨rfl, rfl, rfl, by simp [World.setRow], fun k _ hk => setRow_other w g k _ (fun e => hk (by rw [e]))⟩
  have hown := h.kept hgr (by
    rcases hb : (Value.slice a n c).ownBlock with _ | k
    · exact .inl rfl
    · refine .inr fun e => ?_
      injection e with e
      have := (h.lt k hb).1
      omega)
  obtain ⟨a3, c3, he, _, hS2⟩ := steps_own hown hs
  injection he with e1 e2 e3
  subst e1 e3
  exact hS2



/- Value. -/
set_option maxRecDepth 100000 in
theorem showValue_bad (l : List EntB) (a : Option Addr) (n c : Nat) (k : Int) (w : World) (hn : l.length = n) (hS : EntsAt w a c l) (z : Int) (hz : bookE l = z) (h0 : z ≠ 0) :
    Calls Tryz.prog 64 #[.agg #[.slice a n c], .int .i64 k] w fun e w' => e = .returned (.tuple #[.string ⟨#[]⟩, .bool false, .slice none 0 0, .int .i64 z]) ∧ Below w.heap.size w w' := by
  have HV := Lib.hid (fun w' hS => vals_no l a n c w' hn hS z hz h0)
  have hz' : (z == 0) = false := by simp only [beq_eq_false_iff_ne, ne_eq]; exact h0
  clear hz
  go_enter Tryz.func64, Tryz.ntmps64
  go_wp2_with fail
  have hb0 : Below w.heap.size w (w.alloc (.cells #[.slice a n c] 24)) := (Below.refl _ _).alloc (Nat.le_refl _) _
  generalize (w.alloc (.cells #[.slice a n c] 24)) = W at hb0 ⊢
  refine (HV.out W (hS.on hb0)).mono ?_
  rintro e w1 ⟨rfl, hb1⟩
  have hb1 := below_on hb0 hb1
  clear hb0 HV
  go_wp2_with fail
  (try simp only [Exit.inBlock, Exit.then])
  refine bodyPost_ret (results_tmp4 rfl _ _ _) rfl ?_
  exact ⟨rfl, hb1⟩

set_option maxRecDepth 100000 in
theorem showValue_who (l : List EntB) (a : Option Addr) (n c : Nat) (k : Int) (w : World) (hn : l.length = n) (hS : EntsAt w a c l) (hG : GoodBook l) (hk : k < 0 ∨ 15 < k) :
    Calls Tryz.prog 64 #[.agg #[.slice a n c], .int .i64 k] w fun e w' => e = .returned (.tuple #[.string ⟨#[]⟩, .bool false, .slice none 0 0, .int .i64 5]) ∧ Below w.heap.size w w' := by
  have HV := Lib.hid (fun w' hS => vals_ok l a n c w' hn hS hG)
  have HP := Lib.hid (fun p w' hM => path_who (some p) (valsD l) k w' hM (valsD_good hG.2) hk)
  clear hk
  go_enter Tryz.func64, Tryz.ntmps64
  go_wp2_with fail
  have hb0 : Below w.heap.size w (w.alloc (.cells #[.slice a n c] 24)) := (Below.refl _ _).alloc (Nat.le_refl _) _
  generalize (w.alloc (.cells #[.slice a n c] 24)) = W at hb0 ⊢
  refine (HV.out W (hS.on hb0)).mono ?_
  rintro e w1 ⟨p, rfl, hM, _, hb1⟩
  have hb1 := below_on hb0 hb1
  clear hb0 HV
  go_wp2_with fail
  refine (HP.out p w1 hM).mono ?_
  rintro e w2 ⟨rfl, rfl⟩
  go_wp2_with fail
  (try simp only [Exit.inBlock, Exit.then])
  refine bodyPost_ret (results_tmp4 rfl _ _ _) rfl ?_
  exact ⟨rfl, hb1⟩

set_option maxRecDepth 100000 in
theorem showValue_ok (l : List EntB) (a : Option Addr) (n c k : Nat) (w : World) (hE : Tab w) (hn : l.length = n) (hS : EntsAt w a c l) (hG : GoodBook l) (hk : k < 16) :
    Calls Tryz.prog 64 #[.agg #[.slice a n c], .int .i64 (k : Int)] w fun e w' => ∃ a' c', e = .returned (.tuple #[.string (valS (valsD l) (k : Int)), .bool (valD (valsD l) (k : Int)).isSome, .slice a' 4 c', .int .i64 0]) ∧ StrsAt w' a' c' (pathT (valN (valsD l)) 0 k 4) ∧ Below w.heap.size w w' := by
  have HV := Lib.hid (fun w' hS => vals_ok l a n c w' hn hS hG)
  have hpa := fun p w' hE hM => path_good (some p) (valsD l) k w' hE hM (valsD_good hG.2) hk
  have hla := fun w' hS => last_any l a n c (k : Int) w' hn hS
  generalize pathT (valN (valsD l)) 0 k 4 = L at hpa ⊢
  generalize valS (valsD l) (k : Int) = v at hla ⊢
  generalize (valD (valsD l) (k : Int)).isSome = t at hla ⊢
  have HP := Lib.hid hpa
  have HL := Lib.hid hla
  clear hpa hla
  go_enter Tryz.func64, Tryz.ntmps64
  go_wp2_with fail
  have hb0 : Below w.heap.size w (w.alloc (.cells #[.slice a n c] 24)) := (Below.refl _ _).alloc (Nat.le_refl _) _
  have q0 := heap_push w (.cells #[.slice a n c] 24)
  generalize (w.alloc (.cells #[.slice a n c] 24)) = W at hb0 q0 ⊢
  refine (HV.out W (hS.on hb0)).mono ?_
  rintro e w1 ⟨p, rfl, hM, _, hb1⟩
  have q0 := heap_on hb1 q0
  have hb1 := below_on hb0 hb1
  clear hb0 HV
  go_wp2_with fail
  refine (HP.out p w1 (hE.on hb1) hM).mono ?_
  rintro e w2 ⟨a2, c2, rfl, hL, hb2⟩
  have d0 := heap_cell (heap_on hb2 q0) 0 _ rfl
  have hb2 := below_on hb1 hb2
  clear hb1 HP q0
  go_wp2_with fail
  refine (HL.out w2 (hS.on hb2)).mono ?_
  rintro e w3 ⟨rfl, hb3⟩
  have hL := hL.on hb3
  have hb3 := below_on hb2 hb3
  clear hb2 HL
  go_wp2_with fail
  (try simp only [Exit.inBlock, Exit.then])
  refine bodyPost_ret (results_tmp4 rfl _ _ _) rfl ?_
  exact ⟨a2, c2, rfl, hL, hb3⟩
end Go.Proofs.YtnemiobgmdpnmagGreatFmt
namespace Go.Proofs.YtnemiobgmdpnmagGreatFmt
open Go Go.RowKit

set_option maxRecDepth 100000 in
theorem ncheck_any (n : Int) (a b : ByteArray) (w : World) :
    Calls Tryz.prog 25 #[.agg #[.int .i64 n, .string a, .string b]] w fun e w' => e = .returned (.int .i64 (headE n a b)) ∧ Below w.heap.size w w' := by
  rcases Int.lt_or_le n 0 with h0 | h0
  · rw [headE_range (.inl h0)]
    go_enter Tryz.func25, Tryz.ntmps25
    go_wp2_with fail
    go_ret
    exact ⟨rfl, (Below.refl _ _).alloc (Nat.le_refl _) _⟩
  have g0 : ¬ n < 0 := by omega
  rcases Int.lt_or_le 24 n with h1 | h1
  · rw [headE_range (.inr h1)]
    go_enter Tryz.func25, Tryz.ntmps25
    go_wp2_with fail
    go_ret
    exact ⟨rfl, (Below.refl _ _).alloc (Nat.le_refl _) _⟩
  have g1 : ¬ 24 < n := by omega
  by_cases ha : 20000 < a.size
  · rw [headE_many (by omega) (.inl ha)]
    go_enter Tryz.func25, Tryz.ntmps25
    go_wp2_with fail
    go_ret
    exact ⟨rfl, (Below.refl _ _).alloc (Nat.le_refl _) _⟩
  by_cases hb : 20000 < b.size
  · rw [headE_many (by omega) (.inr hb)]
    go_enter Tryz.func25, Tryz.ntmps25
    go_wp2_with fail
    go_ret
    exact ⟨rfl, (Below.refl _ _).alloc (Nat.le_refl _) _⟩
  rw [headE_ok (by omega) (by omega)]
  go_enter Tryz.func25, Tryz.ntmps25
  go_wp2_with fail
  go_ret
  exact ⟨rfl, (Below.refl _ _).alloc (Nat.le_refl _) _⟩

end Go.Proofs.YtnemiobgmdpnmagGreatFmt
namespace Go.Proofs.YtnemiobgmdpnmagGreatFmt
open Go Go.RowKit

/- A slice of sides: what is owned lies there. -/
structure BoolsAt (w : World) (a : Option Addr) (c : Nat) (l : List Bool) : Prop where
  cap : l.length ≤ c
  max : c ≤ 9223372036854775807
  cells : 0 < l.length → ∃ b, a = some ⟨b, 0, none⟩ ∧ b < w.heap.size ∧ ∀ i, i < l.length → w.cell? ⟨b, i, none⟩ = some (.bool (l.getD i false))
theorem bools_own {w : World} {base : Nat} {e : TypeId} {a : Option Addr} {c n : Nat} {l : List Bool} (h : w.ownsRow base e 1 (.slice a n c) n (l.map Value.bool)) : l.length = n ∧ BoolsAt w a c l := by
  have hln : l.length = n := by have := h.1; rw [List.length_map] at this; omega
  refine ⟨hln, ?_⟩
  rcases h.2 with ⟨he, h0⟩ | ⟨g, cap, cur, he, hb, hg, hnc, hm, hsz, hcur⟩
  · injection he with e1 e2 e3
    subst e1 e2 e3
    exact ⟨by omega, by omega, fun hp => by omega⟩
  · injection he with e1 e2 e3
    subst e1 e3
    have hlt : g < w.heap.size := by
      refine Classical.byContradiction fun hn => ?_
      rw [Array.getElem?_eq_none (by omega)] at hg
      cases hg
    refine ⟨by omega, hm, fun _ => ⟨g, rfl, hlt, fun i hi => ?_⟩⟩
    unfold World.cell?
    simp only [hg]
    have e1 : cur[i]? = (l.map Value.bool)[i]? := by
      rw [← hcur, List.getElem?_take, if_pos (by omega), Array.getElem?_toList]
    simp [e1, hi, List.getD_eq_getElem?_getD]
theorem BoolsAt.on {w w' : World} {a : Option Addr} {c : Nat} {l : List Bool} (h : BoolsAt w a c l) (hb : Below w.heap.size w w') : BoolsAt w' a c l := by
  refine ⟨h.cap, h.max, fun hp => ?_⟩
  obtain ⟨b, ha, hlt, hc⟩ := h.cells hp
  exact ⟨b, ha, Nat.lt_of_lt_of_le hlt hb.size, fun i hi => by rw [hb.cell hlt]; exact hc i hi⟩

theorem walkE_round (root now : ByteArray) (bs : List Bool) (ss : List StepB) (k : Nat) (hl : ss.length = bs.length) (hk : k < ss.length) :
    walkE root now (bs.drop k) (ss.drop k) = if (stepAt ss k).1 = bs.getD k false then (match joinO now (stepAt ss k) with | none => 2 | some x => walkE root x (bs.drop (k + 1)) (ss.drop (k + 1))) else 7 := by
  have e1 : bs.drop k = bs.getD k false :: bs.drop (k + 1) := by
    rw [List.drop_eq_getElem_cons (by omega), List.getD_eq_getElem?_getD, List.getElem?_eq_getElem (by omega), Option.getD_some]
  have e2 : ss.drop k = stepAt ss k :: ss.drop (k + 1) := by
    unfold stepAt
    rw [List.drop_eq_getElem_cons hk, List.getD_eq_getElem?_getD, List.getElem?_eq_getElem hk, Option.getD_some]
  rw [e1, e2]
  rfl
theorem walkE_end (root now : ByteArray) (bs : List Bool) (ss : List StepB) (k : Nat) (hl : ss.length = bs.length) (hk : ss.length ≤ k) :
    walkE root now (bs.drop k) (ss.drop k) = if now = root then 0 else 7 := by
  rw [List.drop_of_length_le (by omega), List.drop_of_length_le hk]
  rfl
end Go.Proofs.YtnemiobgmdpnmagGreatFmt
namespace Go.Proofs.YtnemiobgmdpnmagGreatFmt
open Go Go.RowKit Go.Maps

def exB : List EntB := [(5, ⟨#[120]⟩), (9, ⟨#[121]⟩), (5, ⟨#[122]⟩)]
theorem exB_good : GoodBook exB := by
  refine ⟨by decide, fun e he => ?_⟩
  simp only [exB, List.mem_cons, List.not_mem_nil, or_false] at he
  rcases he with rfl | rfl | rfl <;> exact ⟨by decide, by decide, by decide⟩
theorem ents_heap {w : World} {g : Nat} {t : TypeId} {l : List EntB} (h : w.heap[g]? = some (.cells (entCells l).toArray t)) (hs : ∀ e ∈ l, WideEnt e) (hl : l.length ≤ 1000) : EntsAt w (some ⟨g, 0, none⟩) l.length l := by
  refine ⟨Nat.le_refl _, by omega, hs, fun _ => ⟨g, 0, rfl, (Array.getElem?_eq_some_iff.1 h).1, fun i hi => ?_⟩⟩
  obtain ⟨e1, e2⟩ := entCells_at l i hi
  rw [show 0 + i * 2 + 1 = i * 2 + 1 by omega, show 0 + i * 2 = i * 2 by omega]
  exact ⟨heap_cell h _ _ (by simpa using e1), heap_cell h _ _ (by simpa using e2)⟩
theorem wide_good {l : List EntB} (h : ∀ e ∈ l, GoodEnt e) : ∀ e ∈ l, WideEnt e := fun e he => by
  obtain ⟨h1, h2, h3⟩ := h e he
  exact ⟨by omega, by omega, by omega⟩


theorem run_list (v : Value) (w : World) : (Instr.field 24 (.agg #[v]) 0).run Tryz.prog w = .ok v w := by kernel_rfl
theorem run_take (a : Option Addr) (n c k : Nat) (hk : k ≤ c) (w : World) : (Instr.slice 22 (.slice a n c) none (some (.int .i64 (k : Int))) none).run Tryz.prog w = .ok (.slice a k c) w := by
  have hadd : ∀ ad : Addr, ad.add 0 = ad := fun ad => by unfold Addr.add; simp
  have hb : (Instr.sliceBounds true n c none (some (.int .i64 (k : Int))) none).run Tryz.prog w = .ok (0, k, c) w := by
    have h1 : (k : Int) ≤ (c : Int) := by omega
    simp [Instr.sliceBounds, run_sliceBound, h1]
  cases a <;> simp [Instr.slice, run_underlying Tryz.underlying22, hb, Tryz.sizeOf38, hadd]
end Go.Proofs.YtnemiobgmdpnmagGreatFmt
