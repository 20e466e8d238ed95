/-
  Whether a head is the one that a book had when it had as many entries (package story).
-/
import Derived.Test.YtnemiobgmdpnmagGreatFmtStoryMath
import Derived.Test.YtnemiobgmdpnmagGreatFmtWorldAll
import Derived.Test.YtnemiobgmdpnmagGreatFmtHeadAny
import Derived.Test.YtnemiobgmdpnmagGreatFmtShown
namespace Go.Proofs.YtnemiobgmdpnmagGreatFmt
open Go Go.RowKit

theorem bytes_more {a : ByteArray} (h : a ≠ ⟨#[]⟩) : ¬ a.toList = [] := by
  intro e
  have h2 := str_ne h
  rw [e, ByteArray.toList_eq] at h2
  exact absurd h2 (by decide)

set_option maxHeartbeats 16000000 in
set_option maxRecDepth 100000 in
theorem isHead_any (l : List EntB) (a : Option Addr) (n c : Nat) (cn : Int) (ca cb : ByteArray) (cf : Bool) (w : World) (hE : Tab w) (hn : l.length = n) (hS : EntsAt w a c l) (hg : GoodBook l) (n0 : 0 ≤ cn) :
    Calls Tryz.prog 11 #[.agg #[.int .i64 cn, .string ca, .string cb], .agg #[.slice a n c]] w fun e w' => e = .returned (.tuple #[.bool (decide (isOf l (cn, ca, cb, cf))), .int .i64 0]) ∧ Below w.heap.size w w' := by
  obtain ⟨OB, hob⟩ : ∃ x, decide (isOf l (cn, ca, cb, cf)) = x := ⟨_, rfl⟩
  rw [hob]
  have HOB := Lib.hid hob.symm
  clear hob
  obtain ⟨q2, q3, hb0⟩ := boxes2 w (.cells #[.int .i64 cn, .string ca, .string cb] 40) (.cells #[.slice a n c] 24)
  have e0 := heap_cell q2 0 _ rfl
  have e1 := heap_cell q2 1 _ rfl
  have e2 := heap_cell q2 2 _ rfl
  have t0 := heap_cell q3 0 _ rfl
  go_enter Tryz.func11, Tryz.ntmps11
  go_upto_region 1 with fail
  generalize ((w.alloc (.cells #[.int .i64 cn, .string ca, .string cb] 40)).alloc (.cells #[.slice a n c] 24)) = w0 at q2 q3 hb0 e0 e1 e2 t0 ⊢
  have hS := hS.on hb0
  have hE := hE.on hb0
  by_cases hz : zeroH (cn, ca, cb, cf)
  · have hob := HOB.out
    clear HOB
    obtain ⟨h1, h2, h3⟩ := hz
    simp only at h1 h2 h3
    subst h1
    subst h2
    subst h3
    rw [decide_eq_true (show isOf _ _ from .inl ⟨rfl, rfl, rfl⟩)] at hob
    subst hob
    go_wp2_with fail
    go_ret2
    exact ⟨rfl, hb0⟩
  · have hu := HOB.out
    clear HOB
    rw [show (decide (isOf l (cn, ca, cb, cf))) = decide (cn ≤ (l.length : Int) ∧ headIs (l.take cn.toNat) (cn, ca, cb, cf)) from decide_eq_decide.2 ⟨fun h => h.resolve_left hz, fun h => .inr h⟩] at hu
    have HU := Lib.hid hu
    clear hu
    go_cut [10] (fun s10 w' => s10 = .bool false ∧ w0 = w')
    case first =>
      by_cases h1 : cn = 0
      · subst h1
        by_cases h2 : ca = ⟨#[]⟩
        · subst h2
          have h3 : cb ≠ ⟨#[]⟩ := fun h => hz ⟨rfl, rfl, h⟩
          have x1 := bytes_more h3
          go_wp2_with fail
          go_meet
          case rel => exact ⟨rfl, rfl⟩
        · have x1 := bytes_more h2
          go_wp2_with fail
          go_meet
          case rel => exact ⟨rfl, rfl⟩
      · have x1 : (cn == 0) = false := by simp only [beq_eq_false_iff_ne, ne_eq]; exact h1
        go_wp2_with fail
        go_meet
        case rel => exact ⟨rfl, rfl⟩
    case rest =>
      obtain ⟨rfl, rfl⟩ := hcut
      by_cases hle : cn ≤ (n : Int)
      · have l1 : ¬ (n : Int) < cn := by omega
        have l2 : decide ((n : Int) < cn) = false := decide_eq_false l1
        obtain ⟨k, rfl⟩ : ∃ k : Nat, cn = (k : Int) := ⟨cn.toNat, by omega⟩
        have hu := HU.out
        rw [Int.toNat_natCast] at hu
        clear HU
        have hcp := hS.cap
        have htk := fun w1 => run_take a n c k (by omega) w1
        have hlk : (l.take k).length = k := by rw [List.length_take]; omega
        have hh := fun w1 hE hS => head_any (l.take k) a k c w1 hE hlk hS
        have hz0 : bookE (l.take k) = 0 := (bookE_iff _).2 (good_take hg k)
        obtain ⟨p1, p2, p3⟩ := head_pos hz0
        rw [p1, p2, p3, hz0, hlk] at hh
        have hu2 : OB = decide (headLog (l.take k) = ca ∧ headMap (l.take k) = cb) := hu.trans (decide_eq_decide.2 ⟨fun h => ⟨h.2.2.1.symm, h.2.2.2.symm⟩, fun h => ⟨by omega, by show (k : Int) = _; rw [hlk], h.1.symm, h.2.symm⟩⟩)
        clear hu p1 p2 p3 hz0
        generalize headLog (l.take k) = hl at hh hu2
        generalize headMap (l.take k) = hm at hh hu2
        have HH := Lib.hid hh
        have HU := Lib.hid hu2
        clear hh hu2
        have hkk : (k : Int) ≤ (c : Int) := by omega
        have hk0 : 0 ≤ (k : Int) := n0
        go_wp2_with fail
        refine (HH.out w0 hE (hS.take k)).mono ?_
        rintro e w8 ⟨rfl, hb8⟩
        have q2 := heap_on hb8 q2
        have hb8 := below_on hb0 hb8
        clear hb0 t0 e0 e1 e2 HH htk
        have hbl := (Below.refl w8.heap.size w8).alloc (Nat.le_refl _) (.cells #[.int .i64 (k : Int), .string hl, .string hm] 40)
        have q17 := heap_push w8 (.cells #[.int .i64 (k : Int), .string hl, .string hm] 40)
        have q2 := heap_on hbl q2
        have hb9 := below_on hb8 hbl
        clear hb8 hbl
        go_upto_region 8 with fail
        generalize (w8.alloc (.cells #[.int .i64 (k : Int), .string hl, .string hm] 40)) = w9 at q2 q17 hb9 ⊢
        generalize w8.heap.size = B17 at q17 ⊢
        have e0 := heap_cell q2 0 _ rfl
        have e1 := heap_cell q2 1 _ rfl
        have e2 := heap_cell q2 2 _ rfl
        have f0 := heap_cell q17 0 _ rfl
        have f1 := heap_cell q17 1 _ rfl
        have f2 := heap_cell q17 2 _ rfl
        have kk : ((k : Int) == (k : Int)) = true := by simp
        have hu := HU.out
        by_cases h1 : hl = ca
        · by_cases h2 : hm = cb
          · rw [decide_eq_true ⟨h1, h2⟩] at hu
            subst hu
            have x1 := str_eq h1
            have x2 := str_eq h2
            clear HU
            go_wp2_with fail
            go_ret2
            exact ⟨rfl, hb9⟩
          · rw [decide_eq_false (fun h => h2 h.2)] at hu
            subst hu
            have x1 := str_eq h1
            have x2 := str_ne h2
            clear HU
            go_wp2_with fail
            go_ret2
            exact ⟨rfl, hb9⟩
        · rw [decide_eq_false (fun h => h1 h.1)] at hu
          subst hu
          have x1 := str_ne h1
          clear HU
          go_wp2_with fail
          go_ret2
          exact ⟨rfl, hb9⟩
      · have l1 : ¬ cn ≤ (n : Int) := hle
        have l2 : (n : Int) < cn := by omega
        have l3 : decide ((n : Int) < cn) = true := decide_eq_true l2
        have hu := HU.out
        rw [decide_eq_false (fun h => hle (by have := h.1; omega))] at hu
        subst hu
        clear HU
        go_wp2_with fail
        go_ret2
        exact ⟨rfl, hb0⟩

end Go.Proofs.YtnemiobgmdpnmagGreatFmt
