/-
  The closed fact of a client that follows: from one entry to three.
-/
import Derived.Test.YtolgikojliedlaeDoorClient
import Derived.Test.YtolgikojliedlaeDoorShow
import Derived.Test.YtolgikojliedlaeDoorBookHead
import Derived.Test.YtolgikojliedlaeDoorEntries
import Derived.Test.YtolgikojliedlaeDoorPlanted
import Derived.Deep.RegionHeld
import Derived.Deep.MidRow
namespace Go.Proofs.YtolgikojliedlaeDoor
open Go Go.RowKit Go.Maps

def exA : List EntB := exB.take 1
theorem exA_good : GoodBook exA := good_take exB_good 1
theorem fol_1 : followE 0 ⟨#[]⟩ ⟨#[]⟩ 1 (headLog exA) (headMap exA) [] = 0 := by decide +kernel
theorem fol_2 : followE 1 (headLog exA) (headMap exA) 3 (headLog exB) (headMap exB) (growS (textsE exB) 1 true) = 0 := by decide +kernel
theorem fol_3 : followE 1 (headLog exA) (headMap exA) 3 (headLog exB) (headMap exB) [] = 7 := by decide +kernel
theorem fol_4 : followE 3 (headLog exB) (headMap exB) 1 (headLog exA) (headMap exA) [] = 6 := by decide +kernel
theorem see_1 : seesE 3 (headLog exB) (headMap exB) 2 (textE (5, ⟨#[122]⟩)) (pathS (textsE exB) 2) = 0 := by decide +kernel
theorem see_2 : seesE 3 (headLog exB) (headMap exB) 2 (textE (5, ⟨#[120]⟩)) (pathS (textsE exB) 2) = 7 := by decide +kernel

theorem range_heap {w : World} {i : Nat} {cs : Array Value} {t : TypeId} (h : w.heap[i]? = some (.cells cs t)) (l : List Value) (hl : cs.toList.take l.length = l) : w.rangeAt i 0 l := fun j v hv => by
  have hj : j < l.length := (List.getElem?_eq_some_iff.1 hv).1
  rw [Nat.zero_add]
  refine heap_cell h j v ?_
  rw [← hl, List.getElem?_take, if_pos hj] at hv
  simpa using hv
theorem yields_bool {ops : Array Oper} {S : World → Prop} {op : Oper} {a : Act} (hw : Region.wanted op (yielded ops a.tmps) = true) (x : Operand) (ho : op.op = .load 4 x)
    (b o : Nat) (hx : a.eval x = .pointer (some ⟨b, o, none⟩)) (v : Bool) (hS : ∀ w, S w → w.cell? ⟨b, o, none⟩ = some (.bool v)) : YieldsIf Tryd.prog ops S op (.bool v) a :=
  .inl ⟨hw, fun w hw' => by
    have hc := hS w hw'
    unfold execOp
    simp only [ho, hx]
    clear hw ho hx hS
    go_simp⟩
theorem ex_cells {w : World} {g : Nat} (hS : EntsAt w (some ⟨g, 0, none⟩) 3 exB) : w.rangeAt g 4 [.int .i64 5, .string ⟨#[122]⟩] ∧ w.rangeAt g 0 [.int .i64 5, .string ⟨#[120]⟩] := by
  obtain ⟨b, off, e, _, hc⟩ := hS.cells (by decide)
  injection e with e
  injection e with e1 e2
  subst e1 e2
  refine ⟨fun j v hv => ?_, fun j v hv => ?_⟩
  · match j, hv with
    | 0, hv => injection hv with hv; subst hv; exact (hc 2 (by decide)).1
    | 1, hv => injection hv with hv; subst hv; exact (hc 2 (by decide)).2
  · match j, hv with
    | 0, hv => injection hv with hv; subst hv; exact (hc 0 (by decide)).1
    | 1, hv => injection hv with hv; subst hv; exact (hc 0 (by decide)).2
theorem held_more {P : Program} {md : Region.Mode} {ops : Array Oper} {Q : Exit → Act → World → Prop} {S T : World → Prop} (h : ∀ w, T w → S w) :
    ∀ (fuel : Nat) (listed : Array Bool) (a : Act) (w : World), wpAnyH P md ops Q T fuel listed a w → wpAnyH P md ops Q S fuel listed a w
  | 0, _, _, _, hh => hh
  | fuel + 1, _, _, _, hh => ⟨hh.1, fun i hi => wpOp_mono (fun a' w' h' => ⟨h _ h'.1, held_more h fuel _ a' w' h'.2⟩) (hh.2 i hi)⟩

/- Follow, by its error: what it answers is named. -/
theorem follow_as (cn : Int) (ca cb : ByteArray) (cf : Bool) (hn : Int) (ha hb : ByteArray) (x : List ByteArray) (z n' : Int) (a' b' : ByteArray) (f' : Bool)
    (hz : followE cn ca cb hn ha hb x = z) (h : folN cn ca cb hn ha hb x = n' ∧ folA cn ca cb hn ha hb x = a' ∧ folB cn ca cb hn ha hb x = b' ∧ folF cn ca cb cf hn ha hb x = f')
    (a : Option Addr) (k c : Nat) (w : World) (hk : x.length = k) (hE : Tab w) (hS : StrsAt w a c x) :
    Calls Tryd.prog 16 #[.agg #[.int .i64 cn, .string ca, .string cb, .bool cf], .agg #[.int .i64 hn, .string ha, .string hb], .slice a k c] w fun e w' => e = .returned (.tuple #[.agg #[.int .i64 n', .string a', .string b', .bool f'], .int .i64 z]) ∧ Below w.heap.size w w' := by
  have hf := follow_any cn ca cb cf hn ha hb x a k c w hk hE hS
  obtain ⟨h1, h2, h3, h4⟩ := h
  rw [h1, h2, h3, h4, hz] at hf
  exact hf

set_option maxHeartbeats 4000000 in
set_option maxRecDepth 100000 in
theorem followed_any (w : World) (hE : Tab w) :
    Calls Tryd.prog 15 #[] w fun e w' => e = .returned (.bool true) ∧ Below w.heap.size w w' := by
  have h1 := fun g w' hE hS => head_ok exA (some ⟨g, 0, none⟩) 1 3 w' hE rfl hS exA_good
  have h2 := fun g w' hE hS => head_ok exB (some ⟨g, 0, none⟩) 3 3 w' hE rfl hS exB_good
  have h3 := fun g w' hE hS => showGrowth_ok exB (some ⟨g, 0, none⟩) 3 3 1 w' hE rfl hS exB_good (by omega) (by omega)
  have h4 := fun w' hE => follow_as 0 ⟨#[]⟩ ⟨#[]⟩ false 1 (headLog exA) (headMap exA) [] 0 1 (headLog exA) (headMap exA) false fol_1 (fol_zero fol_1) none 0 0 w' rfl hE (strs_none w')
  have h5 := fun a c w' hE hS => follow_as 1 (headLog exA) (headMap exA) false 3 (headLog exB) (headMap exB) (growS (textsE exB) 1 true) 0 3 (headLog exB) (headMap exB) false fol_2 (fol_zero fol_2) a _ c w' rfl hE hS
  have h6 := fun w' hE => follow_as 1 (headLog exA) (headMap exA) false 3 (headLog exB) (headMap exB) [] 7 1 (headLog exA) (headMap exA) true fol_3 (fol_seven fol_3) none 0 0 w' rfl hE (strs_none w')
  have h7 := fun w' hE => follow_as 3 (headLog exB) (headMap exB) false 1 (headLog exA) (headMap exA) [] 6 0 ⟨#[]⟩ ⟨#[]⟩ false fol_4 (fol_bad fol_4 (by omega) (by omega)) none 0 0 w' rfl hE (strs_none w')
  have h8 := fun g w' hE hS => showEntry_ok exB (some ⟨g, 0, none⟩) 3 3 2 w' hE rfl hS exB_good (by omega)
  rw [show entAt exB 2 = (5, ⟨#[122]⟩) from rfl] at h8
  simp only at h8
  have h9 := fun a c w' hE hS => sees_any 3 (headLog exB) (headMap exB) false 2 5 ⟨#[122]⟩ (pathS (textsE exB) 2) a _ c w' rfl hE hS (by omega) (by omega) (by decide)
  rw [see_1] at h9
  have h10 := fun a c w' hE hS => sees_any 3 (headLog exB) (headMap exB) false 2 5 ⟨#[120]⟩ (pathS (textsE exB) 2) a _ c w' rfl hE hS (by omega) (by omega) (by decide)
  rw [see_2] at h10
  generalize headLog exA = LA at h1 h4 h5 h6 h7
  generalize headMap exA = MA at h1 h4 h5 h6 h7
  generalize headLog exB = LB at h2 h5 h6 h7 h9 h10
  generalize headMap exB = MB at h2 h5 h6 h7 h9 h10
  generalize growS (textsE exB) 1 true = G at h3 h5
  generalize pathS (textsE exB) 2 = P at h8 h9 h10
  have H1 := Lib.hid h1
  have H2 := Lib.hid h2
  have H3 := Lib.hid h3
  have H4 := Lib.hid h4
  have H5 := Lib.hid h5
  have H6 := Lib.hid h6
  have H7 := Lib.hid h7
  have H8 := Lib.hid h8
  have H9 := Lib.hid h9
  have H10 := Lib.hid h10
  clear h1 h2 h3 h4 h5 h6 h7 h8 h9 h10
  go_enter Tryd.func15, Tryd.ntmps15
  go_wp2_with fail
  refine (entries_any w).mono ?_
  rintro e w1 ⟨g1, rfl, hS, hb1⟩
  go_wp2_with fail
  rw [run_list]
  go_wp2_with fail
  refine (H1.out g1 w1 (hE.on hb1) (hS.take 1)).mono ?_
  rintro e w2 ⟨rfl, hb2⟩
  have hb2 := below_on hb1 hb2
  clear hb1
  clear hS
  have q1 := heap_push w2 (.cells #[.int .i64 1, .string LA, .string MA] 26)
  have hb3 := hb2.alloc hb2.size (.cells #[.int .i64 1, .string LA, .string MA] 26)
  clear hb2
  go_wp2_with fail
  generalize (w2.alloc (.cells #[.int .i64 1, .string LA, .string MA] 26)) = w3 at q1  hb3 ⊢
  generalize w2.heap.size = B1 at q1 ⊢
  refine (entries_any w3).mono ?_
  rintro e w4 ⟨g2, rfl, hS, hb4⟩
  have q1 := heap_on hb4 q1
  have hb4 := below_on hb3 hb4
  clear hb3
  go_wp2_with fail
  refine (H2.out g2 w4 (hE.on hb4) hS).mono ?_
  rintro e w5 ⟨rfl, hb5⟩
  have q1 := heap_on hb5 q1
  have hb5 := below_on hb4 hb5
  clear hb4
  clear hS
  have q1 := heap_old w5 (.cells #[.int .i64 3, .string LB, .string MB] 26) q1
  have q3 := heap_push w5 (.cells #[.int .i64 3, .string LB, .string MB] 26)
  have hb6 := hb5.alloc hb5.size (.cells #[.int .i64 3, .string LB, .string MB] 26)
  clear hb5
  go_wp2_with fail
  generalize (w5.alloc (.cells #[.int .i64 3, .string LB, .string MB] 26)) = w6 at q1 q3  hb6 ⊢
  generalize w5.heap.size = B3 at q3 ⊢
  refine (entries_any w6).mono ?_
  rintro e w7 ⟨g3, rfl, hS, hb7⟩
  have q1 := heap_on hb7 q1
  have q3 := heap_on hb7 q3
  have hb7 := below_on hb6 hb7
  clear hb6
  go_wp2_with fail
  refine (H3.out g3 w7 (hE.on hb7) hS).mono ?_
  rintro e w8 ⟨a3, c3, rfl, hG, hb8⟩
  have q1 := heap_on hb8 q1
  have q3 := heap_on hb8 q3
  have hb8 := below_on hb7 hb8
  clear hb7
  clear hS
  have dq10 := heap_cell q1 0 _ rfl
  have dq11 := heap_cell q1 1 _ rfl
  have dq12 := heap_cell q1 2 _ rfl
  go_wp2_with fail
  refine (H4.out w8 (hE.on hb8)).mono ?_
  rintro e w9 ⟨rfl, hb9⟩
  have q1 := heap_on hb9 q1
  have q3 := heap_on hb9 q3
  have hG := hG.on hb9
  have hb9 := below_on hb8 hb9
  clear hb8
  clear dq10 dq11 dq12
  have q1 := heap_old w9 (.cells #[.int .i64 1, .string LA, .string MA, .bool false] 45) q1
  have q3 := heap_old w9 (.cells #[.int .i64 1, .string LA, .string MA, .bool false] 45) q3
  have q7 := heap_push w9 (.cells #[.int .i64 1, .string LA, .string MA, .bool false] 45)
  have hG := hG.on ((Below.refl _ w9).alloc (Nat.le_refl _) (.cells #[.int .i64 1, .string LA, .string MA, .bool false] 45))
  have hb10 := hb9.alloc hb9.size (.cells #[.int .i64 1, .string LA, .string MA, .bool false] 45)
  clear hb9
  have dq70 := heap_cell q7 0 _ rfl
  have dq71 := heap_cell q7 1 _ rfl
  have dq72 := heap_cell q7 2 _ rfl
  have dq73 := heap_cell q7 3 _ rfl
  have dq30 := heap_cell q3 0 _ rfl
  have dq31 := heap_cell q3 1 _ rfl
  have dq32 := heap_cell q3 2 _ rfl
  go_wp2_with fail
  generalize (w9.alloc (.cells #[.int .i64 1, .string LA, .string MA, .bool false] 45)) = w10 at q1 q3 q7 dq70 dq71 dq72 dq73 dq30 dq31 dq32 hG hb10 ⊢
  generalize w9.heap.size = B7 at q7 dq70 dq71 dq72 dq73 ⊢
  refine (H5.out a3 c3 w10 (hE.on hb10) hG).mono ?_
  rintro e w11 ⟨rfl, hb11⟩
  have q1 := heap_on hb11 q1
  have q3 := heap_on hb11 q3
  have q7 := heap_on hb11 q7
  have hb11 := below_on hb10 hb11
  clear hb10
  clear hG
  clear dq70 dq71 dq72 dq73 dq30 dq31 dq32
  have q1 := heap_old w11 (.cells #[.int .i64 3, .string LB, .string MB, .bool false] 45) q1
  have q3 := heap_old w11 (.cells #[.int .i64 3, .string LB, .string MB, .bool false] 45) q3
  have q7 := heap_old w11 (.cells #[.int .i64 3, .string LB, .string MB, .bool false] 45) q7
  have q9 := heap_push w11 (.cells #[.int .i64 3, .string LB, .string MB, .bool false] 45)
  have hb12 := hb11.alloc hb11.size (.cells #[.int .i64 3, .string LB, .string MB, .bool false] 45)
  clear hb11
  have dq70 := heap_cell q7 0 _ rfl
  have dq71 := heap_cell q7 1 _ rfl
  have dq72 := heap_cell q7 2 _ rfl
  have dq73 := heap_cell q7 3 _ rfl
  have dq30 := heap_cell q3 0 _ rfl
  have dq31 := heap_cell q3 1 _ rfl
  have dq32 := heap_cell q3 2 _ rfl
  go_wp2_with fail
  generalize (w11.alloc (.cells #[.int .i64 3, .string LB, .string MB, .bool false] 45)) = w12 at q1 q3 q7 q9 dq70 dq71 dq72 dq73 dq30 dq31 dq32  hb12 ⊢
  generalize w11.heap.size = B9 at q9 ⊢
  refine (H6.out w12 (hE.on hb12)).mono ?_
  rintro e w13 ⟨rfl, hb13⟩
  have q1 := heap_on hb13 q1
  have q3 := heap_on hb13 q3
  have q7 := heap_on hb13 q7
  have q9 := heap_on hb13 q9
  have hb13 := below_on hb12 hb13
  clear hb12
  clear dq70 dq71 dq72 dq73 dq30 dq31 dq32
  have q1 := heap_old w13 (.cells #[.int .i64 1, .string LA, .string MA, .bool true] 45) q1
  have q3 := heap_old w13 (.cells #[.int .i64 1, .string LA, .string MA, .bool true] 45) q3
  have q7 := heap_old w13 (.cells #[.int .i64 1, .string LA, .string MA, .bool true] 45) q7
  have q9 := heap_old w13 (.cells #[.int .i64 1, .string LA, .string MA, .bool true] 45) q9
  have q11 := heap_push w13 (.cells #[.int .i64 1, .string LA, .string MA, .bool true] 45)
  have hb14 := hb13.alloc hb13.size (.cells #[.int .i64 1, .string LA, .string MA, .bool true] 45)
  clear hb13
  have dq90 := heap_cell q9 0 _ rfl
  have dq91 := heap_cell q9 1 _ rfl
  have dq92 := heap_cell q9 2 _ rfl
  have dq93 := heap_cell q9 3 _ rfl
  have dq10 := heap_cell q1 0 _ rfl
  have dq11 := heap_cell q1 1 _ rfl
  have dq12 := heap_cell q1 2 _ rfl
  go_wp2_with fail
  generalize (w13.alloc (.cells #[.int .i64 1, .string LA, .string MA, .bool true] 45)) = w14 at q1 q3 q7 q9 q11 dq90 dq91 dq92 dq93 dq10 dq11 dq12  hb14 ⊢
  generalize w13.heap.size = B11 at q11 ⊢
  refine (H7.out w14 (hE.on hb14)).mono ?_
  rintro e w15 ⟨rfl, hb15⟩
  have q1 := heap_on hb15 q1
  have q3 := heap_on hb15 q3
  have q7 := heap_on hb15 q7
  have q9 := heap_on hb15 q9
  have q11 := heap_on hb15 q11
  have hb15 := below_on hb14 hb15
  clear hb14
  clear dq90 dq91 dq92 dq93 dq10 dq11 dq12
  have q1 := heap_old w15 (.cells #[.int .i64 0, .string ⟨#[]⟩, .string ⟨#[]⟩, .bool false] 45) q1
  have q3 := heap_old w15 (.cells #[.int .i64 0, .string ⟨#[]⟩, .string ⟨#[]⟩, .bool false] 45) q3
  have q7 := heap_old w15 (.cells #[.int .i64 0, .string ⟨#[]⟩, .string ⟨#[]⟩, .bool false] 45) q7
  have q9 := heap_old w15 (.cells #[.int .i64 0, .string ⟨#[]⟩, .string ⟨#[]⟩, .bool false] 45) q9
  have q11 := heap_old w15 (.cells #[.int .i64 0, .string ⟨#[]⟩, .string ⟨#[]⟩, .bool false] 45) q11
  have q13 := heap_push w15 (.cells #[.int .i64 0, .string ⟨#[]⟩, .string ⟨#[]⟩, .bool false] 45)
  have hb16 := hb15.alloc hb15.size (.cells #[.int .i64 0, .string ⟨#[]⟩, .string ⟨#[]⟩, .bool false] 45)
  clear hb15
  go_wp2_with fail
  generalize (w15.alloc (.cells #[.int .i64 0, .string ⟨#[]⟩, .string ⟨#[]⟩, .bool false] 45)) = w16 at q1 q3 q7 q9 q11 q13  hb16 ⊢
  generalize w15.heap.size = B13 at q13 ⊢
  refine (entries_any w16).mono ?_
  rintro e w17 ⟨g4, rfl, hS, hb17⟩
  have q1 := heap_on hb17 q1
  have q3 := heap_on hb17 q3
  have q7 := heap_on hb17 q7
  have q9 := heap_on hb17 q9
  have q11 := heap_on hb17 q11
  have q13 := heap_on hb17 q13
  have hb17 := below_on hb16 hb17
  clear hb16
  go_wp2_with fail
  refine (H8.out g4 w17 (hE.on hb17) hS).mono ?_
  rintro e w18 ⟨a8, c8, rfl, hP, hb18⟩
  have q1 := heap_on hb18 q1
  have q3 := heap_on hb18 q3
  have q7 := heap_on hb18 q7
  have q9 := heap_on hb18 q9
  have q11 := heap_on hb18 q11
  have q13 := heap_on hb18 q13
  have hb18 := below_on hb17 hb18
  clear hb17
  clear hS
  have q1 := heap_old w18 (.cells #[.int .i64 5, .string ⟨#[122]⟩] 37) q1
  have q3 := heap_old w18 (.cells #[.int .i64 5, .string ⟨#[122]⟩] 37) q3
  have q7 := heap_old w18 (.cells #[.int .i64 5, .string ⟨#[122]⟩] 37) q7
  have q9 := heap_old w18 (.cells #[.int .i64 5, .string ⟨#[122]⟩] 37) q9
  have q11 := heap_old w18 (.cells #[.int .i64 5, .string ⟨#[122]⟩] 37) q11
  have q13 := heap_old w18 (.cells #[.int .i64 5, .string ⟨#[122]⟩] 37) q13
  have hP := hP.on ((Below.refl _ w18).alloc (Nat.le_refl _) (.cells #[.int .i64 5, .string ⟨#[122]⟩] 37))
  have hb19 := hb18.alloc hb18.size (.cells #[.int .i64 5, .string ⟨#[122]⟩] 37)
  clear hb18
  go_upto_region 9 with fail
  generalize (w18.alloc (.cells #[.int .i64 5, .string ⟨#[122]⟩] 37)) = w19 at q1 q3 q7 q9 q11 q13 hP hb19 ⊢
  generalize w18.heap.size = B15
  have cS := Lib.hid (fun w' (h : Below w19.heap.size w19 w') => H9.out a8 c8 w' (hE.on (below_on hb19 h)) (hP.on h))
  have cT := Lib.hid (fun w' (h : Below w19.heap.size w19 w') => H10.out a8 c8 w' (hE.on (below_on hb19 h)) (hP.on h))
  have r9 := Lib.hid (fun w' (h : Below w19.heap.size w19 w') => range_heap (heap_on h q9) [.int .i64 3, .string LB, .string MB] rfl)
  have r9c := Lib.hid (fun w' (h : Below w19.heap.size w19 w') => range_heap (heap_on h q9) [.int .i64 3, .string LB, .string MB, .bool false] rfl)
  have r3 := Lib.hid (fun w' (h : Below w19.heap.size w19 w') => range_heap (heap_on h q3) [.int .i64 3, .string LB, .string MB] rfl)
  have r11 := Lib.hid (fun w' (h : Below w19.heap.size w19 w') => range_heap (heap_on h q11) [.int .i64 1, .string LA, .string MA] rfl)
  have r11f := Lib.hid (fun w' (h : Below w19.heap.size w19 w') => heap_cell (heap_on h q11) 3 (.bool true) rfl)
  have r1 := Lib.hid (fun w' (h : Below w19.heap.size w19 w') => range_heap (heap_on h q1) [.int .i64 1, .string LA, .string MA] rfl)
  have hrl := run_list
  clear q1 q3 q7 q9 q11 q13 H1 H2 H3 H4 H5 H6 H7 H8 H9 H10
  refine wp_region_held_drew (S := fun w' => Below w19.heap.size w19 w') (by kernel_rfl) (below_drew w19) (fun hHeld => ?_)
  refine wpAnyH_take (i := 0) (v := .int .i64 0) rfl (by kernel_rfl) (by kernel_rfl) (by kernel_rfl) (fun _ _ _ h => h) (Or.inl ⟨by kernel_rfl, ?_⟩) (by assumption) ?_
  · (intro w hSw; clear hSw; go_simp)
  refine wpAnyH_take (i := 1) (v := .bool true) rfl (by kernel_rfl) (by kernel_rfl) (by kernel_rfl) (fun _ _ _ h => h) (Or.inl ⟨by kernel_rfl, ?_⟩) (by assumption) ?_
  · (intro w hSw; clear hSw; go_simp)
  refine wpAnyH_take (i := 2) (v := .bool true) rfl (by kernel_rfl) (by kernel_rfl) (by kernel_rfl) (fun _ _ _ h => h) (Or.inl ⟨by kernel_rfl, ?_⟩) (by assumption) ?_
  · (intro w hSw; clear hSw; go_simp)
  refine wpAnyH_take (i := 3) (v := .int .i64 0) rfl (by kernel_rfl) (by kernel_rfl) (by kernel_rfl) (fun _ _ _ h => h) (Or.inl ⟨by kernel_rfl, ?_⟩) (by assumption) ?_
  · (intro w hSw; clear hSw; go_simp)
  refine wpAnyH_take (i := 4) (v := .bool true) rfl (by kernel_rfl) (by kernel_rfl) (by kernel_rfl) (fun _ _ _ h => h) (Or.inl ⟨by kernel_rfl, ?_⟩) (by assumption) ?_
  · (intro w hSw; clear hSw; go_simp)
  refine wpAnyH_take (i := 5) (v := .bool true) rfl (by kernel_rfl) (by kernel_rfl) (by kernel_rfl) (fun _ _ _ h => h) (Or.inl ⟨by kernel_rfl, ?_⟩) (by assumption) ?_
  · (intro w hSw; clear hSw; go_simp)
  refine wpAnyH_take (i := 6) (v := .bool true) rfl (by kernel_rfl) (by kernel_rfl) (by kernel_rfl) (fun _ _ _ h => h) (Or.inl ⟨by kernel_rfl, ?_⟩) (by assumption) ?_
  · (intro w hSw; clear hSw; go_simp)
  refine wpAnyH_take (i := 7) (v := .int .i64 0) rfl (by kernel_rfl) (by kernel_rfl) (by kernel_rfl) (fun _ _ _ h => h) (Or.inl ⟨by kernel_rfl, ?_⟩) (by assumption) ?_
  · (intro w hSw; clear hSw; go_simp)
  refine wpAnyH_take (i := 8) (v := .bool true) rfl (by kernel_rfl) (by kernel_rfl) (by kernel_rfl) (fun _ _ _ h => h) (Or.inl ⟨by kernel_rfl, ?_⟩) (by assumption) ?_
  · (intro w hSw; clear hSw; go_simp)
  refine wpAnyH_take (i := 9) (v := .bool true) rfl (by kernel_rfl) (by kernel_rfl) (by kernel_rfl) (fun _ _ _ h => h) (Or.inl ⟨by kernel_rfl, ?_⟩) (by assumption) ?_
  · (intro w hSw; clear hSw; go_simp)
  refine wpAnyH_take (i := 10) (v := .bool true) rfl (by kernel_rfl) (by kernel_rfl) (by kernel_rfl) (fun _ _ _ h => h) (Or.inl ⟨by kernel_rfl, ?_⟩) (by assumption) ?_
  · (intro w hSw; clear hSw; go_simp)
  refine wpAnyH_take (i := 11) (v := .int .i64 0) rfl (by kernel_rfl) (by kernel_rfl) (by kernel_rfl) (fun _ _ _ h => h) (Or.inl ⟨by kernel_rfl, ?_⟩) (by assumption) ?_
  · (intro w hSw; clear hSw; go_simp)
  refine wpAnyH_take (i := 12) (v := .bool true) rfl (by kernel_rfl) (by kernel_rfl) (by kernel_rfl) (fun _ _ _ h => h) (Or.inl ⟨by kernel_rfl, ?_⟩) (by assumption) ?_
  · (intro w hSw; clear hSw; go_simp)
  refine wpAnyH_take (i := 13) (v := .bool true) rfl (by kernel_rfl) (by kernel_rfl) (by kernel_rfl) (fun _ _ _ h => h) (Or.inl ⟨by kernel_rfl, ?_⟩) (by assumption) ?_
  · (intro w hSw; clear hSw; go_simp)
  refine wpAnyH_take (i := 14) (v := .bool true) rfl (by kernel_rfl) (by kernel_rfl) (by kernel_rfl) (fun _ _ _ h => h) (Or.inl ⟨by kernel_rfl, ?_⟩) (by assumption) ?_
  · (intro w hSw; clear hSw; go_simp)
  refine wpAnyH_take (i := 15) (v := .int .i64 0) rfl (by kernel_rfl) (by kernel_rfl) (by kernel_rfl) (fun _ _ _ h => h) (Or.inl ⟨by kernel_rfl, ?_⟩) (by assumption) ?_
  · (intro w hSw; clear hSw; go_simp)
  refine wpAnyH_take (i := 16) (v := .bool true) rfl (by kernel_rfl) (by kernel_rfl) (by kernel_rfl) (fun _ _ _ h => h) (Or.inl ⟨by kernel_rfl, ?_⟩) (by assumption) ?_
  · (intro w hSw; clear hSw; go_simp)
  refine wpAnyH_take (i := 17) (v := .bool true) rfl (by kernel_rfl) (by kernel_rfl) (by kernel_rfl) (fun _ _ _ h => h) (Or.inl ⟨by kernel_rfl, ?_⟩) (by assumption) ?_
  · (intro w hSw; clear hSw; go_simp)
  refine wpAnyH_take (i := 18) (v := .bool true) rfl (by kernel_rfl) (by kernel_rfl) (by kernel_rfl) (fun _ _ _ h => h) (Or.inl ⟨by kernel_rfl, ?_⟩) (by assumption) ?_
  · (intro w hSw; clear hSw; go_simp)
  refine wpAnyH_take (i := 19) (v := .int .i64 7) rfl (by kernel_rfl) (by kernel_rfl) (by kernel_rfl) (fun _ _ _ h => h) (Or.inl ⟨by kernel_rfl, ?_⟩) (by assumption) ?_
  · (intro w hSw; clear hSw; go_simp)
  refine wpAnyH_take (i := 20) (v := .bool true) rfl (by kernel_rfl) (by kernel_rfl) (by kernel_rfl) (fun _ _ _ h => h) (Or.inl ⟨by kernel_rfl, ?_⟩) (by assumption) ?_
  · (intro w hSw; clear hSw; go_simp)
  refine wpAnyH_take (i := 21) (v := .bool true) rfl (by kernel_rfl) (by kernel_rfl) (by kernel_rfl) (fun _ _ _ h => h) (Or.inl ⟨by kernel_rfl, ?_⟩) (by assumption) ?_
  · (intro w hSw; clear hSw; go_simp)
  refine wpAnyH_take (i := 22) (v := .bool true) rfl (by kernel_rfl) (by kernel_rfl) (by kernel_rfl) (fun _ _ _ h => h) (Or.inl ⟨by kernel_rfl, ?_⟩) (by assumption) ?_
  · (intro w hSw; clear hSw; go_simp)
  refine wpAnyH_take (i := 23) (v := .int .i64 6) rfl (by kernel_rfl) (by kernel_rfl) (by kernel_rfl) (fun _ _ _ h => h) (Or.inl ⟨by kernel_rfl, ?_⟩) (by assumption) ?_
  · (intro w hSw; clear hSw; go_simp)
  refine wpAnyH_take (i := 24) (v := .bool true) rfl (by kernel_rfl) (by kernel_rfl) (by kernel_rfl) (fun _ _ _ h => h) (Or.inl ⟨by kernel_rfl, ?_⟩) (by assumption) ?_
  · (intro w hSw; clear hSw; go_simp)
  refine wpAnyH_take (i := 25) (v := .bool true) rfl (by kernel_rfl) (by kernel_rfl) (by kernel_rfl) (fun _ _ _ h => h) (Or.inl ⟨by kernel_rfl, ?_⟩) (by assumption) ?_
  · (intro w hSw; clear hSw; go_simp)
  refine wpAnyH_take (i := 26) (v := .bool true) rfl (by kernel_rfl) (by kernel_rfl) (by kernel_rfl) (fun _ _ _ h => h) (Or.inl ⟨by kernel_rfl, ?_⟩) (by assumption) ?_
  · (intro w hSw; clear hSw; go_simp)
  refine wpAnyH_take (i := 27) (v := .int .i64 0) rfl (by kernel_rfl) (by kernel_rfl) (by kernel_rfl) (fun _ _ _ h => h) (Or.inl ⟨by kernel_rfl, ?_⟩) (by assumption) ?_
  · (intro w hSw; clear hSw; go_simp)
  refine wpAnyH_take (i := 28) (v := .bool true) rfl (by kernel_rfl) (by kernel_rfl) (by kernel_rfl) (fun _ _ _ h => h) (Or.inl ⟨by kernel_rfl, ?_⟩) (by assumption) ?_
  · (intro w hSw; clear hSw; go_simp)
  refine wpAnyH_take (i := 29) (v := .bool true) rfl (by kernel_rfl) (by kernel_rfl) (by kernel_rfl) (fun _ _ _ h => h) (Or.inl ⟨by kernel_rfl, ?_⟩) (by assumption) ?_
  · (intro w hSw; clear hSw; go_simp)
  refine wpAnyH_take (i := 30) (v := .bool true) rfl (by kernel_rfl) (by kernel_rfl) (by kernel_rfl) (fun _ _ _ h => h) (Or.inl ⟨by kernel_rfl, ?_⟩) (by assumption) ?_
  · (intro w hSw; clear hSw; go_simp)
  refine wpAnyH_take (i := 31) (v := .pointer (some ⟨B9, 0, none⟩)) rfl (by kernel_rfl) (by kernel_rfl) (by kernel_rfl) (fun _ _ _ h => h) (Or.inl ⟨by kernel_rfl, ?_⟩) (by assumption) ?_
  · (intro w hSw; clear hSw; go_simp)
  refine wpAnyH_take (i := 32) (v := .agg #[.int .i64 3, .string LB, .string MB]) rfl (by kernel_rfl) (by kernel_rfl) (by kernel_rfl) (fun _ _ _ h => h) (yieldsIf_load_mid (by kernel_rfl) 26 (.tmp 98) rfl B9 0 (by kernel_rfl) [.int .i64 3, .string LB, .string MB] _ (r9.out) Tryd.underlying26 rfl (by kernel_rfl)) (by assumption) ?_
  refine wpAnyH_take (i := 33) (v := .agg #[.int .i64 3, .string LB, .string MB]) rfl (by kernel_rfl) (by kernel_rfl) (by kernel_rfl) (fun _ _ _ h => h) (yieldsIf_load_mid (by kernel_rfl) 26 (.tmp 3) rfl B3 0 (by kernel_rfl) [.int .i64 3, .string LB, .string MB] _ (r3.out) Tryd.underlying26 rfl (by kernel_rfl)) (by assumption) ?_
  refine wpAnyH_take (i := 34) (v := .bool true) rfl (by kernel_rfl) (by kernel_rfl) (by kernel_rfl) (fun _ _ _ h => h) (Or.inl ⟨by kernel_rfl, ?_⟩) (by assumption) ?_
  · (intro w hSw; clear hSw; go_simp)
  refine wpAnyH_take (i := 35) (v := .bool true) rfl (by kernel_rfl) (by kernel_rfl) (by kernel_rfl) (fun _ _ _ h => h) (Or.inl ⟨by kernel_rfl, ?_⟩) (by assumption) ?_
  · (intro w hSw; clear hSw; go_simp)
  refine wpAnyH_take (i := 36) (v := .bool true) rfl (by kernel_rfl) (by kernel_rfl) (by kernel_rfl) (fun _ _ _ h => h) (Or.inl ⟨by kernel_rfl, ?_⟩) (by assumption) ?_
  · (intro w hSw; clear hSw; go_simp)
  refine wpAnyH_take (i := 37) (v := .pointer (some ⟨B11, 3, none⟩)) rfl (by kernel_rfl) (by kernel_rfl) (by kernel_rfl) (fun _ _ _ h => h) (Or.inl ⟨by kernel_rfl, ?_⟩) (by assumption) ?_
  · (intro w hSw; clear hSw; go_simp)
  refine wpAnyH_take (i := 38) (v := .bool true) rfl (by kernel_rfl) (by kernel_rfl) (by kernel_rfl) (fun _ _ _ h => h) (yields_bool (by kernel_rfl) (.tmp 104) rfl B11 3 (by kernel_rfl) true r11f.out) (by assumption) ?_
  refine wpAnyH_take (i := 39) (v := .bool true) rfl (by kernel_rfl) (by kernel_rfl) (by kernel_rfl) (fun _ _ _ h => h) (Or.inl ⟨by kernel_rfl, ?_⟩) (by assumption) ?_
  · (intro w hSw; clear hSw; go_simp)
  refine wpAnyH_take (i := 40) (v := .bool true) rfl (by kernel_rfl) (by kernel_rfl) (by kernel_rfl) (fun _ _ _ h => h) (Or.inl ⟨by kernel_rfl, ?_⟩) (by assumption) ?_
  · (intro w hSw; clear hSw; go_simp)
  refine wpAnyH_take (i := 41) (v := .pointer (some ⟨B11, 0, none⟩)) rfl (by kernel_rfl) (by kernel_rfl) (by kernel_rfl) (fun _ _ _ h => h) (Or.inl ⟨by kernel_rfl, ?_⟩) (by assumption) ?_
  · (intro w hSw; clear hSw; go_simp)
  refine wpAnyH_take (i := 42) (v := .agg #[.int .i64 1, .string LA, .string MA]) rfl (by kernel_rfl) (by kernel_rfl) (by kernel_rfl) (fun _ _ _ h => h) (yieldsIf_load_mid (by kernel_rfl) 26 (.tmp 108) rfl B11 0 (by kernel_rfl) [.int .i64 1, .string LA, .string MA] _ (r11.out) Tryd.underlying26 rfl (by kernel_rfl)) (by assumption) ?_
  refine wpAnyH_take (i := 43) (v := .agg #[.int .i64 1, .string LA, .string MA]) rfl (by kernel_rfl) (by kernel_rfl) (by kernel_rfl) (fun _ _ _ h => h) (yieldsIf_load_mid (by kernel_rfl) 26 (.tmp 1) rfl B1 0 (by kernel_rfl) [.int .i64 1, .string LA, .string MA] _ (r1.out) Tryd.underlying26 rfl (by kernel_rfl)) (by assumption) ?_
  refine wpAnyH_take (i := 44) (v := .bool true) rfl (by kernel_rfl) (by kernel_rfl) (by kernel_rfl) (fun _ _ _ h => h) (Or.inl ⟨by kernel_rfl, ?_⟩) (by assumption) ?_
  · (intro w hSw; clear hSw; go_simp)
  refine wpAnyH_take (i := 45) (v := .bool true) rfl (by kernel_rfl) (by kernel_rfl) (by kernel_rfl) (fun _ _ _ h => h) (Or.inl ⟨by kernel_rfl, ?_⟩) (by assumption) ?_
  · (intro w hSw; clear hSw; go_simp)
  refine wpAnyH_take (i := 46) (v := .bool true) rfl (by kernel_rfl) (by kernel_rfl) (by kernel_rfl) (fun _ _ _ h => h) (Or.inl ⟨by kernel_rfl, ?_⟩) (by assumption) ?_
  · (intro w hSw; clear hSw; go_simp)
  refine wpAnyH_take (i := 47) (v := .agg #[.int .i64 3, .string LB, .string MB, .bool false]) rfl (by kernel_rfl) (by kernel_rfl) (by kernel_rfl) (fun _ _ _ h => h) (yieldsIf_load_mid (by kernel_rfl) 45 (.tmp 9) rfl B9 0 (by kernel_rfl) [.int .i64 3, .string LB, .string MB, .bool false] _ (r9c.out) Tryd.underlying45 rfl (by kernel_rfl)) (by assumption) ?_
  refine wpAnyH_take (i := 52) (v := .slice a8 P.length c8) rfl (by kernel_rfl) (by kernel_rfl) (by kernel_rfl) (fun _ _ _ h => h) (Or.inl ⟨by kernel_rfl, ?_⟩) (by assumption) ?_
  · (intro w hSw; clear hSw; go_simp)
  refine wpAnyH_ready (rs := [48]) (by kernel_rfl) (by simp) ?_
  refine AllReadyH.cons (i := 48) rfl (fun K hKc => ?_) AllReadyH.nil
  go_simp
  refine (entries_any _).mono ?_
  rintro e w20 ⟨g5, rfl, hS5, hb20⟩
  go_wp2_with fail
  refine hKc.out _ _ (below_on hHeld hb20) (fun hHeld => ?_)
  clear K hKc
  refine held_more (T := fun w' => Below w20.heap.size w20 w') (fun w' h => below_on hHeld h) _ _ _ _ ?_
  have z20 := hHeld
  clear hHeld
  have hHeld : Below w20.heap.size w20 w20 := Below.refl _ _
  have KB := Lib.hid (fun w' (h : Below w20.heap.size w20 w') => (ex_cells (hS5.on h)).1)
  refine wpAnyH_take (i := 49) (v := .slice (some ⟨g5, 0, none⟩) 3 3) rfl (by kernel_rfl) (by kernel_rfl) (by kernel_rfl) (fun _ _ _ h => h) (Or.inl ⟨by kernel_rfl, ?_⟩) (by assumption) ?_
  · (intro w hSw; clear hSw; go_simp)
  refine wpAnyH_take (i := 50) (v := .pointer (some ⟨g5, 4, none⟩)) rfl (by kernel_rfl) (by kernel_rfl) (by kernel_rfl) (fun _ _ _ h => h) (Or.inl ⟨by kernel_rfl, ?_⟩) (by assumption) ?_
  · (intro w hSw; clear hSw; go_simp)
  refine wpAnyH_take (i := 51) (v := .agg #[.int .i64 5, .string ⟨#[122]⟩]) rfl (by kernel_rfl) (by kernel_rfl) (by kernel_rfl) (fun _ _ _ h => h) (yieldsIf_load_mid (by kernel_rfl) 37 (.tmp 117) rfl g5 4 (by kernel_rfl) [.int .i64 5, .string ⟨#[122]⟩] _ (KB.out) Tryd.underlying37 rfl (by kernel_rfl)) (by assumption) ?_
  refine wpAnyH_ready (rs := [53]) (by kernel_rfl) (by simp) ?_
  refine AllReadyH.cons (i := 53) rfl (fun K hKc => ?_) AllReadyH.nil
  go_simp
  refine (cS.out _ z20).mono ?_
  rintro e w21 ⟨rfl, hb21⟩
  go_wp2_with fail
  refine hKc.out _ _ (hb21) (fun hHeld => ?_)
  clear K hKc
  refine wpAnyH_take (i := 54) (v := .bool true) rfl (by kernel_rfl) (by kernel_rfl) (by kernel_rfl) (fun _ _ _ h => h) (Or.inl ⟨by kernel_rfl, ?_⟩) (by assumption) ?_
  · (intro w hSw; clear hSw; go_simp)
  refine wpAnyH_take (i := 55) (v := .bool true) rfl (by kernel_rfl) (by kernel_rfl) (by kernel_rfl) (fun _ _ _ h => h) (Or.inl ⟨by kernel_rfl, ?_⟩) (by assumption) ?_
  · (intro w hSw; clear hSw; go_simp)
  refine wpAnyH_take (i := 56) (v := .bool true) rfl (by kernel_rfl) (by kernel_rfl) (by kernel_rfl) (fun _ _ _ h => h) (Or.inl ⟨by kernel_rfl, ?_⟩) (by assumption) ?_
  · (intro w hSw; clear hSw; go_simp)
  refine wpAnyH_take (i := 57) (v := .agg #[.int .i64 3, .string LB, .string MB, .bool false]) rfl (by kernel_rfl) (by kernel_rfl) (by kernel_rfl) (fun _ _ _ h => h) (yieldsIf_load_mid (by kernel_rfl) 45 (.tmp 9) rfl B9 0 (by kernel_rfl) [.int .i64 3, .string LB, .string MB, .bool false] _ (fun w' h => r9c.out w' (below_on z20 h)) Tryd.underlying45 rfl (by kernel_rfl)) (by assumption) ?_
  refine wpAnyH_take (i := 62) (v := .slice a8 P.length c8) rfl (by kernel_rfl) (by kernel_rfl) (by kernel_rfl) (fun _ _ _ h => h) (Or.inl ⟨by kernel_rfl, ?_⟩) (by assumption) ?_
  · (intro w hSw; clear hSw; go_simp)
  refine wpAnyH_ready (rs := [58]) (by kernel_rfl) (by simp) ?_
  refine AllReadyH.cons (i := 58) rfl (fun K hKc => ?_) AllReadyH.nil
  go_simp
  refine (entries_any _).mono ?_
  rintro e w22 ⟨g6, rfl, hS6, hb22⟩
  go_wp2_with fail
  refine hKc.out _ _ (below_on hHeld hb22) (fun hHeld => ?_)
  clear K hKc
  refine held_more (T := fun w' => Below w22.heap.size w22 w') (fun w' h => below_on hHeld h) _ _ _ _ ?_
  have z22 := below_on z20 hHeld
  clear hHeld
  have hHeld : Below w22.heap.size w22 w22 := Below.refl _ _
  have KD := Lib.hid (fun w' (h : Below w22.heap.size w22 w') => (ex_cells (hS6.on h)).2)
  refine wpAnyH_take (i := 59) (v := .slice (some ⟨g6, 0, none⟩) 3 3) rfl (by kernel_rfl) (by kernel_rfl) (by kernel_rfl) (fun _ _ _ h => h) (Or.inl ⟨by kernel_rfl, ?_⟩) (by assumption) ?_
  · (intro w hSw; clear hSw; go_simp)
  refine wpAnyH_take (i := 60) (v := .pointer (some ⟨g6, 0, none⟩)) rfl (by kernel_rfl) (by kernel_rfl) (by kernel_rfl) (fun _ _ _ h => h) (Or.inl ⟨by kernel_rfl, ?_⟩) (by assumption) ?_
  · (intro w hSw; clear hSw; go_simp)
  refine wpAnyH_take (i := 61) (v := .agg #[.int .i64 5, .string ⟨#[120]⟩]) rfl (by kernel_rfl) (by kernel_rfl) (by kernel_rfl) (fun _ _ _ h => h) (yieldsIf_load_mid (by kernel_rfl) 37 (.tmp 127) rfl g6 0 (by kernel_rfl) [.int .i64 5, .string ⟨#[120]⟩] _ (KD.out) Tryd.underlying37 rfl (by kernel_rfl)) (by assumption) ?_
  refine wpAnyH_ready (rs := [63]) (by kernel_rfl) (by simp) ?_
  refine AllReadyH.cons (i := 63) rfl (fun K hKc => ?_) AllReadyH.nil
  go_simp
  refine (cT.out _ z22).mono ?_
  rintro e w23 ⟨rfl, hb23⟩
  go_wp2_with fail
  refine hKc.out _ _ (hb23) (fun hHeld => ?_)
  clear K hKc
  refine wpAnyH_take (i := 64) (oi := { dst := some 131, op := .binOp .eql 27 (.tmp 130) (.const (.int .i64 7)) 27, type := 4, pos := "law8.go:80", after := _, guard := some (56, true) }) (v := .bool true) rfl (by kernel_rfl) (by kernel_rfl) (by kernel_rfl) (fun _ _ _ h => h) (Or.inl ⟨by kernel_rfl, ?_⟩) (by assumption) ?_
  · (intro w hSw; clear hSw; go_simp)
  refine wpAnyH_take (i := 65) (oi := { dst := some 132, op := .pick (.tmp 123) (.tmp 131) (.const (.bool false)), type := 4, pos := "law8.go:80", after := _, guard := none }) (v := .bool true) rfl (by kernel_rfl) (by kernel_rfl) (by kernel_rfl) (fun _ _ _ h => h) (Or.inl ⟨by kernel_rfl, ?_⟩) (by assumption) ?_
  · (intro w hSw; clear hSw; go_simp)
  refine wpAnyH_take (i := 66) (oi := { dst := some 0, op := .assign (.tmp 132), type := 4, pos := "law8.go:80", after := _, guard := none }) (v := .bool true) rfl (by kernel_rfl) (by kernel_rfl) (by kernel_rfl) (fun _ _ _ h => h) (Or.inl ⟨by kernel_rfl, ?_⟩) (by assumption) ?_
  · (intro w hSw; clear hSw; go_simp)
  refine wpAnyH_done (by kernel_rfl) ?_ _
  have z23 := below_on hb19 (below_on z22 hb23)
  go_wp2_with fail
  go_ret
  exact ⟨rfl, z23⟩
end Go.Proofs.YtolgikojliedlaeDoor
