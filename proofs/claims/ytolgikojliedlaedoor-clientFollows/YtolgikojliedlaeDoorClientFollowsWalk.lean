/-
  ClientFollows' walk: of whatever book and stops it answers true.
-/
import Derived.Deep.RegionHeld3
import Derived.Test.YtolgikojliedlaeDoorFollowed
import Derived.Test.YtolgikojliedlaeDoorHeadAny
import Derived.Test.YtolgikojliedlaeDoorAt
import Derived.Test.YtolgikojliedlaeDoorInts
namespace Go.Proofs.YtolgikojliedlaeDoor
open Go Go.RowKit Go.Maps

/- Who goes by a head of the book's beginning, or by none, follows each later one. -/
def GoesF (l : List EntB) (m : Nat) (A B : ByteArray) : Prop :=
  ∀ n, m ≤ n → n ≤ l.length → followE (m : Int) A B (n : Int) (headLog (l.take n)) (headMap (l.take n)) (nextS l m n) = 0
theorem head_take {l : List EntB} (hG : GoodBook l) {n : Nat} (hn : n ≤ l.length) : headE (n : Int) (headLog (l.take n)) (headMap (l.take n)) = 0 := by
  have h := head_good (good_take hG n)
  rw [show (l.take n).length = n by rw [List.length_take]; omega] at h
  exact h
theorem goesF_head {l : List EntB} (hG : GoodBook l) {m : Nat} (hm : m ≤ l.length) : GoesF l m (headLog (l.take m)) (headMap (l.take m)) :=
  fun _ h1 h2 => follow_yes (head_take hG hm) (head_take hG h2) (by omega) (follow_on hG h1 h2)
theorem goesF_zero {l : List EntB} (hG : GoodBook l) : GoesF l 0 ⟨#[]⟩ ⟨#[]⟩ :=
  fun _ _ h2 => follow_yes (by rfl) (head_take hG h2) (by omega) (by unfold goodF nextS; rw [if_pos (by rfl), if_pos rfl])

theorem infoInt : (Tryd.prog.info? 3).map (fun i => (i.zero, i.size, i.bytes)) = some (some (.int .i64 0), 1, 8) := by kernel_rfl
theorem run_stops (a : Option Addr) (n c k : Nat) (hk : k ≤ c) (w : World) : (Instr.slice 56 (.slice a n c) none (some (.int .i64 (k : Int))) none).run Tryd.prog w = .ok (.slice a k c) w := by
  have hadd : ∀ ad : Addr, ad.add 0 = ad := fun ad => by unfold Addr.add; simp
  have hb : (Instr.sliceBounds true n c none (some (.int .i64 (k : Int))) none).run Tryd.prog w = .ok (0, k, c) w := by
    have h1 : (k : Int) ≤ (c : Int) := by omega
    simp [Instr.sliceBounds, run_sliceBound, h1]
  cases a <;> simp [Instr.slice, run_underlying Tryd.underlying56, hb, Tryd.sizeOf3, hadd]
theorem int_step {o : Oper} {a : Act} {w : World} {K : Act → World → Prop} {Q : Exit → Act → World → Prop} (ho : o.op = .call { callee := .builtin .append, args := #[.tmp 26, .tmp 30], argTypes := #[56, 56] })
    (xs : List Value) (n : Nat) (x : Int) (B b : Nat) (v : Value) (hlen : n ≤ 1000) (hv : a.eval (.tmp 26) = v) (hx : a.eval (.tmp 30) = .slice (some ⟨b, 0, none⟩) 1 1)
    (hown : w.ownsRow B 3 1 v n xs) (hnews : w.heap[b]? = some (.cells #[.int .i64 x] 3 (0, 0))) (hB : B ≤ w.heap.size)
    (h : ∀ g' cap' w', w'.ownsRow B 3 1 (.slice (some ⟨g', 0, none⟩) (n + 1) cap') (n + 1) (xs ++ [.int .i64 x]) → w.grownBy w' v.ownBlock → (∀ k, v.ownBlock = some k → B ≤ k) → K (a.put o.dst (.slice (some ⟨g', 0, none⟩) (n + 1) cap')) w') : o.wp Tryd.prog a w K Q := by
  obtain ⟨i0, hi0, hz0, hz1, hz2⟩ := info_parts infoInt
  refine wp_append_lies w (.tmp 26) (.tmp 30) 56 ho B 3 i0 (.int .i64 0) 1 8 Tryd.underlying56 hi0 hz0 hz1 hz2 rfl (by decide) v n xs hv hown ⟨b, 0, none⟩ 1 1 [.int .i64 x] hx rfl
    (World.news_of_block (cs := #[.int .i64 x]) (t := 3) (fr := (0, 0)) hnews) (by intro u hu; rw [List.mem_singleton.1 hu]; rfl) (by omega) (by unfold maxLen; omega) (by omega) hB _ rfl ?_
  intro g' cap' w' ho' hg' _ _
  exact h g' cap' w' ho' hg' (fun k hk => (hown.lt k hk).1)
theorem ints_at {w : World} (o : Obj) : (w.alloc o).heap[w.heap.size]? = some o := by
  show (w.heap.push _)[w.heap.size]? = _
  simp
theorem ints_on {w w2 : World} {o : Obj} (hb : Below (w.alloc o).heap.size (w.alloc o) w2) : w2.heap[w.heap.size]? = some o := by
  rw [hb.block w.heap.size (by show _ < (w.heap.push _).size; simp)]
  exact ints_at o
theorem ints_drew {w w2 : World} {o : Obj} (hb : Below (w.drew.alloc o).heap.size (w.drew.alloc o) w2) : w2.heap[w.heap.size]? = some o := ints_on (w := w.drew) hb
theorem kept_on {w9 wc w2 : World} {A : Addr} {v : Value} (hlt : A.block < w9.heap.size) (hb : Below wc.heap.size wc w2) (h : Below w9.heap.size w9 wc ∧ wc.cell? A = some v) : Below w9.heap.size w9 w2 ∧ w2.cell? A = some v :=
  ⟨below_on h.1 hb, by rw [(below_on h.1 hb).cell hlt, ← h.1.cell hlt]; exact h.2⟩
theorem kept_grown {w9 wc w2 : World} {A : Addr} {v : Value} {row : Option Nat} (hlt : A.block < w9.heap.size) (h : Below w9.heap.size w9 wc ∧ wc.cell? A = some v) (hg : wc.grownBy w2 row) (hr : ∀ k, row = some k → w9.heap.size ≤ k) : Below w9.heap.size w9 w2 ∧ w2.cell? A = some v := by
  have hb := h.1.grown hg h.1.size hr
  exact ⟨hb, by rw [hb.cell hlt, ← h.1.cell hlt]; exact h.2⟩
theorem kept_below {w9 w : World} {A : Addr} {v : Value} (h : Below w9.heap.size w9 w ∧ w.cell? A = some v) : Below w9.heap.size w9 w := h.1
theorem kept_size {w9 w : World} {A : Addr} {v : Value} (h : Below w9.heap.size w9 w ∧ w.cell? A = some v) : w9.heap.size ≤ w.heap.size := h.1.size
theorem owned_ints {w : World} {base : Nat} {e : TypeId} {g c n : Nat} {l : List Int} (h : w.ownsRow base e 1 (.slice (some ⟨g, 0, none⟩) n c) n (l.map (Value.int .i64))) (hs : ∀ x ∈ l, -9223372036854775808 ≤ x ∧ x ≤ 9223372036854775807) : base ≤ g ∧ IntsAt w (some ⟨g, 0, none⟩) c l := by
  have hln : l.length = n := by have := h.1; rw [List.length_map] at this; omega
  rcases h.2 with ⟨he, h0⟩ | ⟨g', cap, cur, he, hb, hg, hnc, hm, hsz, hcur⟩
  · cases he
  · injection he with e1 e2 e3
    injection e1 with e1
    injection e1 with e1
    subst e1 e3
    have hlt : g < w.heap.size := by
      refine Classical.byContradiction fun hn => ?_
      rw [Array.getElem?_eq_none (by omega)] at hg
      cases hg
    refine ⟨hb, by omega, hm, hs, fun _ => ⟨g, 0, rfl, hlt, fun i hi => ?_⟩⟩
    unfold World.cell?
    simp only [hg]
    have e1 : cur[i]? = (l.map (Value.int .i64))[i]? := by
      rw [← hcur, List.getElem?_take, if_pos (by omega), Array.getElem?_toList]
    simp [e1, hi, List.getD_eq_getElem?_getD]
theorem owns_low {w : World} {base base' : Nat} {e : TypeId} {size : Nat} {v : Value} {n : Nat} {xs : List Value} (h : w.ownsRow base e size v n xs) (hb : base' ≤ base) : w.ownsRow base' e size v n xs := by
  refine ⟨h.1, ?_⟩
  rcases h.2 with h0 | ⟨g, cap, cur, hv, hg, hr⟩
  · exact .inl h0
  · exact .inr ⟨g, cap, cur, hv, Nat.le_trans hb hg, hr⟩
theorem IntsAt.set {w : World} {g c : Nat} {l : List Int} (h : IntsAt w (some ⟨g, 0, none⟩) c l) {B : Nat} (hne : g ≠ B) (cs : Array Value) : IntsAt (w.setRow B cs) (some ⟨g, 0, none⟩) c l := by
  refine ⟨h.cap, h.max, h.sz, fun hp => ?_⟩
  obtain ⟨b, off, ha, hlt, hc⟩ := h.cells hp
  injection ha with ha
  injection ha with h1 h2
  subst h1 h2
  exact ⟨g, 0, rfl, by rw [setRow_size]; exact hlt, fun i hi => by rw [cell_setRow_other _ _ _ _ hne]; exact hc i hi⟩

set_option maxHeartbeats 1000000 in
set_option maxRecDepth 100000 in
theorem clientFollows_bad (l : List EntB) (a : Option Addr) (n c : Nat) (a2 : Option Addr) (n2 c2 : Nat) (w : World) (hE : Tab w) (hn : l.length = n) (hS : EntsAt w a c l) (z : Int) (hz : bookE l = z) (h0 : z ≠ 0) :
    Calls Tryd.prog 5 #[.agg #[.slice a n c], .slice a2 n2 c2] w fun e w' => e = .returned (.bool true) ∧ Below w.heap.size w w' := by
  have hc := fun w hS => bcheck_any l a n c w hn hS
  rw [hz] at hc
  have HC := Lib.hid hc
  have hz1 : (z == 0) = false := by simp only [beq_eq_false_iff_ne, ne_eq]; exact h0
  clear hz hc
  have q2 := heap_push w (.cells #[.slice a n c] 24)
  have hb0 : Below w.heap.size w (w.alloc (.cells #[.slice a n c] 24)) := (Below.refl _ _).alloc (Nat.le_refl _) _
  go_enter Tryd.func5, Tryd.ntmps5
  go_wp2_with fail
  generalize (w.alloc (.cells #[.slice a n c] 24)) = w0 at q2 hb0 ⊢
  refine (followed_any w0 (hE.on hb0)).mono ?_
  rintro e w1 ⟨rfl, hb1⟩
  have q2 := heap_on hb1 q2
  have hb1 := below_on hb0 hb1
  clear hb0
  have dq2_0 := heap_cell q2 0 _ rfl
  go_wp2_with fail
  refine (HC.out w1 (hS.on hb1)).mono ?_
  rintro e w2 ⟨rfl, hb2⟩
  have q2 := heap_on hb2 q2
  have hb2 := below_on hb1 hb2
  clear hb1
  clear dq2_0
  go_wp2_with fail
  refine (followed_any w2 (hE.on hb2)).mono ?_
  rintro e w3 ⟨rfl, hb3⟩
  have q2 := heap_on hb3 q2
  have hb3 := below_on hb2 hb3
  clear hb2
  go_wp2_with fail
  go_ret
  exact ⟨rfl, hb3⟩

set_option maxHeartbeats 4000000 in
set_option maxRecDepth 100000 in
theorem clientFollows_ok (l : List EntB) (a : Option Addr) (n c : Nat) (st : List Int) (a2 : Option Addr) (n2 c2 : Nat) (w : World) (hE : Tab w) (hn : l.length = n) (hS : EntsAt w a c l) (hn2 : st.length = n2) (hI : IntsAt w a2 c2 st) (hG : GoodBook l) :
    Calls Tryd.prog 5 #[.agg #[.slice a n c], .slice a2 n2 c2] w fun e w' => e = .returned (.bool true) ∧ Below w.heap.size w w' := by
  have hcap := hS.cap
  have hmax := hS.max
  have hcap2 := hI.cap
  have hmax2 := hI.max
  have h24 := hG.1
  have hc := fun w hS => bcheck_any l a n c w hn hS
  rw [(bookE_iff l).2 hG] at hc
  have HC := Lib.hid hc
  have HZ := Lib.hid (goesF_zero hG)
  have HN := Lib.hid (fun m (h : m ≤ l.length) => goesF_head hG h)
  have HH := Lib.hid (fun k w' (h : k ≤ l.length) hE hS => head_ok (l.take k) a k c w' hE (by rw [List.length_take]; omega) hS (good_take hG k))
  have HG := Lib.hid (fun k m w' (h : k ≤ l.length) hE hS h1 hm => showGrowth_ok (l.take k) a k c m w' hE (by rw [List.length_take]; omega) hS (good_take hG k) h1 hm)
  clear hc
  have hK : (st.take 20).length ≤ 20 ∧ min (n2 : Int) 20 = ((st.take 20).length : Int) ∧ (st.take 20).length ≤ n2 := by rw [List.length_take]; omega
  have HX := Lib.hid (fun w' hS => clone_ints (st.take 20) a2 (st.take 20).length c2 w' rfl (by have := hK.1; omega) hS)
  have hIT := hI.take 20
  generalize st.take 20 = T at hK HX hIT
  generalize hTk : T.length = k at hK HX
  obtain ⟨k1, k2, k3⟩ := hK
  have hXs : ∀ x ∈ T ++ [(n : Int)], -9223372036854775808 ≤ x ∧ x ≤ 9223372036854775807 := by
    intro x hx
    rcases List.mem_append.1 hx with h | h
    · exact hIT.sz x h
    · rw [List.mem_singleton.1 h]; omega
  have htk := fun w' => run_stops a2 n2 c2 k (by omega) w' 
  have q2 := heap_push w (.cells #[.slice a n c] 24)
  have hb0 : Below w.heap.size w (w.alloc (.cells #[.slice a n c] 24)) := (Below.refl _ _).alloc (Nat.le_refl _) _
  go_enter Tryd.func5, Tryd.ntmps5
  go_wp2_with fail
  generalize (w.alloc (.cells #[.slice a n c] 24)) = w0 at q2 hb0 ⊢
  refine (followed_any w0 (hE.on hb0)).mono ?_
  rintro e w1 ⟨rfl, hb1⟩
  have q2 := heap_on hb1 q2
  have hb1 := below_on hb0 hb1
  clear hb0
  have dq2_0 := heap_cell q2 0 _ rfl
  go_wp2_with fail
  refine (HC.out w1 (hS.on hb1)).mono ?_
  rintro e w2 ⟨rfl, hb2⟩
  have q2 := heap_on hb2 q2
  have hb2 := below_on hb1 hb2
  clear hb1
  clear dq2_0
  have k5 := (Array.getElem?_eq_some_iff.1 q2).1
  have q5 := heap_push w2 (.cells #[.int .i64 0, .string ⟨#[]⟩, .string ⟨#[]⟩, .bool false] 45)
  have q2 := heap_old w2 (.cells #[.int .i64 0, .string ⟨#[]⟩, .string ⟨#[]⟩, .bool false] 45) q2
  have hb3 := hb2.alloc hb2.size (.cells #[.int .i64 0, .string ⟨#[]⟩, .string ⟨#[]⟩, .bool false] 45)
  clear hb2 HC
  go_upto_region 4 with fail
  generalize (w2.alloc (.cells #[.int .i64 0, .string ⟨#[]⟩, .string ⟨#[]⟩, .bool false] 45)) = w3 at q2 q5 hb3 ⊢
  generalize w2.heap.size = B5 at q5 k5 ⊢
  have k6 : (⟨w.heap.size, 0, none⟩ : Addr).block < w3.heap.size := (Array.getElem?_eq_some_iff.1 q2).1
  go_cut [31, 32, 33] (fun x y z w' => ∃ g cap, x = .slice (some ⟨g, 0, none⟩) (k + 1) cap ∧ y = .int .i64 ((k : Int) + 1) ∧ z = .int .i64 0 ∧ w3.heap.size ≤ g ∧ IntsAt w' (some ⟨g, 0, none⟩) cap (T ++ [(n : Int)]) ∧ Below w3.heap.size w3 w')
  case first =>
    have hS0 : Below w3.heap.size w3 w3.drew ∧ w3.drew.cell? ⟨w.heap.size, 0, none⟩ = some (.slice a n c) := ⟨(Below.refl _ _).drew, heap_cell q2 0 _ rfl⟩
    have CX := Lib.hid (fun w' (h : Below w3.heap.size w3 w' ∧ w'.cell? ⟨w.heap.size, 0, none⟩ = some (.slice a n c)) => (HX.out w' (hIT.on (below_on hb3 h.1))).mono (fun e w2 h2 => by
      obtain ⟨a', c', h3, h4, h5⟩ := h2
      exact (⟨a', c', h3, owns_low h4 h.1.size, h5⟩ : ∃ a' c', e = .returned (.slice a' k c') ∧ w2.ownsRow w3.heap.size 3 1 (.slice a' k c') k (T.map (Value.int .i64)) ∧ Below w'.heap.size w' w2)))
    clear HX hIT hI hS hE HZ HN HH HG
    go_region_held3 (fun w' => Below w3.heap.size w3 w' ∧ w'.cell? ⟨w.heap.size, 0, none⟩ = some (.slice a n c))
      (first | assumption | exact kept_on k6 (by assumption) (by assumption) | exact kept_on k6 (below_drew _) (by assumption) | exact kept_on k6 ((Below.refl _ _).alloc (Nat.le_refl _) _) (by assumption))
      (first
        | (go_at_call 22; with_reducible refine (CX.out _ (by assumption)).mono ?_; rintro e w' ⟨aC, cC, rfl, hoC, hb⟩)
        | (rw [if_pos (by rfl)]; refine int_step rfl (T.map (Value.int .i64)) k (n : Int) w3.heap.size _ _ (by omega) rfl rfl (by assumption) (ints_drew (by assumption)) (kept_size (A := ⟨w.heap.size, 0, none⟩) (v := .slice a n c) (by assumption)) ?_; intro gM capM wM hoM hgM hBM; have hM := kept_grown k6 (by assumption) hgM hBM)
        | (rw [if_pos (by rfl)]; refine int_step rfl (T.map (Value.int .i64)) k (n : Int) w3.heap.size _ _ (by omega) rfl rfl (World.ownsRow.alloc (by assumption) _) (ints_at _) (kept_size (A := ⟨w.heap.size, 0, none⟩) (v := .slice a n c) (by assumption)) ?_; intro gM capM wM hoM hgM hBM; have hM := kept_grown k6 (by assumption) hgM hBM))
    all_goals
      go_wp2_with fail
      obtain ⟨e1, e2⟩ := owned_ints (l := T ++ [(n : Int)]) (by rw [List.map_append]; exact hoM) hXs
      go_meet
      case rel => exact ⟨gM, capM, rfl, rfl, rfl, e1, e2, hM.1⟩
  case rest =>
    obtain ⟨g, cap, rfl, rfl, rfl, hg, hX, hbc⟩ := hcut
    have k7 := (Array.getElem?_eq_some_iff.1 q5).1
    have q2 := heap_on hbc q2
    have q5 := heap_on hbc q5
    have hb4 := below_on hb3 hbc
    obtain ⟨w4, hw4⟩ : ∃ x, x = wc := ⟨_, rfl⟩
    subst hw4
    have hne : g ≠ B5 := by omega
    have hne2 : w.heap.size ≠ B5 := by omega
    clear hbc hb3 hg k6 k7 HX htk hIT
    have HX := Lib.hid hXs
    have hlX : (T ++ [(n : Int)]).length = k + 1 := by rw [List.length_append, hTk]; rfl
    generalize T ++ [(n : Int)] = X at hX HX hlX
    clear hXs
    go_wp2_with fail
    go_loopg [33] (k + 1) (fun gh s33 wr => ∃ (j m : Nat) (A B : ByteArray), s33 = .int .i64 (j : Int) ∧ j ≤ k + 1 ∧ k + 1 - j ≤ gh ∧ m ≤ n ∧ GoesF l m A B ∧ wr.heap[B5]? = some (.cells #[.int .i64 (m : Int), .string A, .string B, .bool false] 45) ∧ wr.heap[w.heap.size]? = some (.cells #[.slice a n c] 24) ∧ IntsAt wr (some ⟨g, 0, none⟩) cap X ∧ Below w.heap.size w wr)
    case atStart => exact ⟨0, 0, ⟨#[]⟩, ⟨#[]⟩, rfl, Nat.zero_le _, by omega, Nat.zero_le _, HZ.out, q5, q2, hX, hb4⟩
    case round =>
      clear q2 q5 hX hb4
      obtain ⟨j, m, A, B, rfl, hj, hgh, hm, hGo, q5, q2, hX, hb⟩ := hrel
      rcases Nat.lt_or_ge j (k + 1) with hjk | hjk
      · have hj1 : (j : Int) < (k : Int) + 1 := by omega
        obtain ⟨b', off', ha', _, hcx⟩ := hX.cells (by omega)
        injection ha' with ha'
        injection ha' with h1 h2
        subst h1 h2
        have hcj := hcx j (by omega)
        rw [Nat.zero_add] at hcj
        have hx := HX.out (X.getD j 0) (by rw [List.getD_eq_getElem?_getD, List.getElem?_eq_getElem (by omega)]; exact List.getElem_mem _)
        have hcapX := hX.cap
        have hmaxX := hX.max
        rw [hlX] at hcapX
        generalize X.getD j 0 = x at hcj hx
        have hat := fun w' => at_any x (n + 1) w' (by omega) (by omega) hx.1 hx.2
        have hq := atN_lt x (show 0 < n + 1 by omega)
        rw [show ((n + 1 : Nat) : Int) = (n : Int) + 1 from rfl] at hat
        generalize atN x (n + 1) = q at hat hq
        have HA := Lib.hid hat
        clear hat hcx hx
        have dq2_0 := heap_cell q2 0 _ rfl
        go_wp2_with fail
        refine (HA.out _).mono ?_
        rintro e _ ⟨rfl, rfl⟩
        clear HA hcj
        have dq5_0 := heap_cell q5 0 _ rfl
        rcases Nat.lt_or_ge q m with hqm | hqm
        · have g1 : (q : Int) < (m : Int) := by omega
          go_wp2_with fail
          go_roundg (k + 1 - (j + 1))
          case rel => exact ⟨j + 1, m, A, B, by go_num, by omega, by omega, hm, hGo, q5, q2, hX, hb⟩
          case measure => omega
        · have g1 : ¬ (q : Int) < (m : Int) := by omega
          have htq := fun w' => run_take a n c q (by omega) w'
          have hh := fun w' hE hS => HH.out q w' (by omega) hE hS
          have hN := HN.out q (by omega)
          have hfol := hGo q hqm (by omega)
          clear hGo
          generalize headLog (l.take q) = Lq at hh hN hfol
          generalize headMap (l.take q) = Mq at hh hN hfol
          have HHq := Lib.hid hh
          clear hh
          have q2 := heap_old wr (.cells #[.slice a q c] 24) q2
          have q5 := heap_old wr (.cells #[.slice a q c] 24) q5
          have q8 := heap_push wr (.cells #[.slice a q c] 24)
          have hX := hX.on ((Below.refl _ wr).alloc (Nat.le_refl _) (.cells #[.slice a q c] 24))
          have hb1 := hb.alloc hb.size (.cells #[.slice a q c] 24)
          clear hb
          have dq8_0 := heap_cell q8 0 _ rfl
          go_wp2_with fail
          generalize (wr.alloc (.cells #[.slice a q c] 24)) = w1 at q2 q5 q8 dq8_0 hX hb1 ⊢
          generalize wr.heap.size = B8 at q8 dq8_0 ⊢
          refine (HHq.out w1 (hE.on hb1) ((hS.on hb1).take q)).mono ?_
          rintro e w2 ⟨rfl, hb2⟩
          have q2 := heap_on hb2 q2
          have q5 := heap_on hb2 q5
          have q8 := heap_on hb2 q8
          have hX := hX.on hb2
          have hb2 := below_on hb1 hb2
          clear hb1
          clear dq8_0 dq2_0 dq5_0 HHq htq
          have k9 := (Array.getElem?_eq_some_iff.1 q5).1
          rcases Nat.eq_zero_or_pos m with hm0 | hm0
          · have g2 : ¬ (0 : Int) < (m : Int) := by omega
            have e0 : nextS l m q = [] := if_pos hm0
            rw [e0] at hfol
            obtain ⟨f1, f2, f3, f4⟩ := fol_zero (cf := false) hfol
            have hf := fun w' hE => follow_any (m : Int) A B false (q : Int) Lq Mq [] none 0 0 w' rfl hE (strs_none w')
            rw [f1, f2, f3, f4, hfol] at hf
            have HF := Lib.hid hf
            clear hf f1 f2 f3 f4 hfol e0 hm0
            have q2 := heap_old w2 (.cells #[.int .i64 (q : Int), .string Lq, .string Mq] 26) q2
            have q5 := heap_old w2 (.cells #[.int .i64 (q : Int), .string Lq, .string Mq] 26) q5
            have q8 := heap_old w2 (.cells #[.int .i64 (q : Int), .string Lq, .string Mq] 26) q8
            have q9 := heap_push w2 (.cells #[.int .i64 (q : Int), .string Lq, .string Mq] 26)
            have hX := hX.on ((Below.refl _ w2).alloc (Nat.le_refl _) (.cells #[.int .i64 (q : Int), .string Lq, .string Mq] 26))
            have hb3 := hb2.alloc hb2.size (.cells #[.int .i64 (q : Int), .string Lq, .string Mq] 26)
            clear hb2
            have dq5_0 := heap_cell q5 0 _ rfl
            have dq5_1 := heap_cell q5 1 _ rfl
            have dq5_2 := heap_cell q5 2 _ rfl
            have dq5_3 := heap_cell q5 3 _ rfl
            have dq9_0 := heap_cell q9 0 _ rfl
            have dq9_1 := heap_cell q9 1 _ rfl
            have dq9_2 := heap_cell q9 2 _ rfl
            go_wp2_with fail
            generalize (w2.alloc (.cells #[.int .i64 (q : Int), .string Lq, .string Mq] 26)) = w3 at q2 q5 q8 q9 dq5_0 dq5_1 dq5_2 dq5_3 dq9_0 dq9_1 dq9_2 hX hb3 ⊢
            generalize w2.heap.size = B9 at q9 dq9_0 dq9_1 dq9_2 k9 ⊢
            refine (HF.out w3 (hE.on hb3)).mono ?_
            rintro e w4 ⟨rfl, hb4⟩
            have q2 := heap_on hb4 q2
            have q5 := heap_on hb4 q5
            have q8 := heap_on hb4 q8
            have q9 := heap_on hb4 q9
            have hX := hX.on hb4
            have hb4 := below_on hb3 hb4
            clear hb3
            clear dq5_0 dq5_1 dq5_2 dq5_3 dq9_0 dq9_1 dq9_2
            have hbs := below_setRow hb4 (g := B5) (by omega) #[.int .i64 (q : Int), .string Lq, .string Mq, .bool false]
            have q2 := (setRow_other w4 B5 w.heap.size #[.int .i64 (q : Int), .string Lq, .string Mq, .bool false] hne2).trans q2
            have q9 := (setRow_other w4 B5 B9 #[.int .i64 (q : Int), .string Lq, .string Mq, .bool false] (by omega)).trans q9
            have hX := hX.set hne #[.int .i64 (q : Int), .string Lq, .string Mq, .bool false]
            have q6 := setRow_heap w4 B5 _ #[.int .i64 (q : Int), .string Lq, .string Mq, .bool false] _ _ q5
            have x0 := heap_cell q6 0 _ rfl
            have x1 := heap_cell q6 1 _ rfl
            have x2 := heap_cell q6 2 _ rfl
            have x3 := heap_cell q6 3 _ rfl
            have y0 := heap_cell q9 0 _ rfl
            have y1 := heap_cell q9 1 _ rfl
            have y2 := heap_cell q9 2 _ rfl
            go_wp2_with (refine wpList_store_row rfl 45 (.tmp 5) (.tmp 81) rfl B5 #[.int .i64 (q : Int), .string Lq, .string Mq, .bool false] rfl rfl _ _ q5 (by kernel_rfl) rfl (client_cells _ _ _ _) ?_)
            go_roundg (k + 1 - (j + 1))
            case rel => exact ⟨j + 1, q, Lq, Mq, by go_num, by omega, by omega, by omega, hN, q6, q2, hX, hbs⟩
            case measure => omega
          · have g2 : (0 : Int) < (m : Int) := by omega
            have e0 : nextS l m q = growS (textsE (l.take q)) m true := if_neg (by omega)
            rw [e0] at hfol
            have hgr := fun w' hE hS => HG.out q m w' (by omega) hE hS hm0 hqm
            clear e0
            generalize growS (textsE (l.take q)) m true = Y at hfol hgr
            obtain ⟨f1, f2, f3, f4⟩ := fol_zero (cf := false) hfol
            have hf := fun a' c' w' hE hY => follow_any (m : Int) A B false (q : Int) Lq Mq Y a' Y.length c' w' rfl hE hY
            rw [f1, f2, f3, f4, hfol] at hf
            have HF := Lib.hid hf
            have HGr := Lib.hid hgr
            clear hf f1 f2 f3 f4 hfol hgr
            have q2 := heap_old w2 (.cells #[.int .i64 (q : Int), .string Lq, .string Mq] 26) q2
            have q5 := heap_old w2 (.cells #[.int .i64 (q : Int), .string Lq, .string Mq] 26) q5
            have q8 := heap_old w2 (.cells #[.int .i64 (q : Int), .string Lq, .string Mq] 26) q8
            have q9 := heap_push w2 (.cells #[.int .i64 (q : Int), .string Lq, .string Mq] 26)
            have hX := hX.on ((Below.refl _ w2).alloc (Nat.le_refl _) (.cells #[.int .i64 (q : Int), .string Lq, .string Mq] 26))
            have hb3 := hb2.alloc hb2.size (.cells #[.int .i64 (q : Int), .string Lq, .string Mq] 26)
            clear hb2
            have dq5_0 := heap_cell q5 0 _ rfl
            have dq8_0 := heap_cell q8 0 _ rfl
            go_wp2_with fail
            generalize (w2.alloc (.cells #[.int .i64 (q : Int), .string Lq, .string Mq] 26)) = w3 at q2 q5 q8 q9 dq5_0 dq8_0 hX hb3 ⊢
            generalize w2.heap.size = B9 at q9 k9 ⊢
            have S0 : True := trivial
            refine (HGr.out w3 (hE.on hb3) ((hS.on hb3).take q)).mono ?_
            rintro e w4 ⟨aY, cY, rfl, hY, hb4⟩
            have q2 := heap_on hb4 q2
            have q5 := heap_on hb4 q5
            have q8 := heap_on hb4 q8
            have q9 := heap_on hb4 q9
            have hX := hX.on hb4
            have hb4 := below_on hb3 hb4
            clear hb3 S0
            clear dq5_0 dq8_0
            have dq5_0 := heap_cell q5 0 _ rfl
            have dq5_1 := heap_cell q5 1 _ rfl
            have dq5_2 := heap_cell q5 2 _ rfl
            have dq5_3 := heap_cell q5 3 _ rfl
            have dq9_0 := heap_cell q9 0 _ rfl
            have dq9_1 := heap_cell q9 1 _ rfl
            have dq9_2 := heap_cell q9 2 _ rfl
            go_wp2_with fail
            refine (HF.out aY cY w4 (hE.on hb4) hY).mono ?_
            rintro e w5 ⟨rfl, hb5⟩
            have q2 := heap_on hb5 q2
            have q5 := heap_on hb5 q5
            have q8 := heap_on hb5 q8
            have q9 := heap_on hb5 q9
            have hX := hX.on hb5
            have hY := hY.on hb5
            have hb5 := below_on hb4 hb5
            clear hb4
            clear dq5_0 dq5_1 dq5_2 dq5_3 dq9_0 dq9_1 dq9_2
            have hbs := below_setRow hb5 (g := B5) (by omega) #[.int .i64 (q : Int), .string Lq, .string Mq, .bool false]
            have q2 := (setRow_other w5 B5 w.heap.size #[.int .i64 (q : Int), .string Lq, .string Mq, .bool false] hne2).trans q2
            have q9 := (setRow_other w5 B5 B9 #[.int .i64 (q : Int), .string Lq, .string Mq, .bool false] (by omega)).trans q9
            have hX := hX.set hne #[.int .i64 (q : Int), .string Lq, .string Mq, .bool false]
            have q6 := setRow_heap w5 B5 _ #[.int .i64 (q : Int), .string Lq, .string Mq, .bool false] _ _ q5
            have x0 := heap_cell q6 0 _ rfl
            have x1 := heap_cell q6 1 _ rfl
            have x2 := heap_cell q6 2 _ rfl
            have x3 := heap_cell q6 3 _ rfl
            have y0 := heap_cell q9 0 _ rfl
            have y1 := heap_cell q9 1 _ rfl
            have y2 := heap_cell q9 2 _ rfl
            go_wp2_with (refine wpList_store_row rfl 45 (.tmp 5) (.tmp 81) rfl B5 #[.int .i64 (q : Int), .string Lq, .string Mq, .bool false] rfl rfl _ _ q5 (by kernel_rfl) rfl (client_cells _ _ _ _) ?_)
            go_roundg (k + 1 - (j + 1))
            case rel => exact ⟨j + 1, q, Lq, Mq, by go_num, by omega, by omega, by omega, hN, q6, q2, hX, hbs⟩
            case measure => omega
      · obtain rfl : j = k + 1 := by omega
        go_wp2_with fail
        go_ret
        exact ⟨rfl, hb⟩

theorem clientFollows_walk (l : List EntB) (a : Option Addr) (n c : Nat) (st : List Int) (a2 : Option Addr) (n2 c2 : Nat) (w : World) (hE : Tab w) (hn : l.length = n) (hS : EntsAt w a c l) (hn2 : st.length = n2) (hI : IntsAt w a2 c2 st) :
    Calls Tryd.prog 5 #[.agg #[.slice a n c], .slice a2 n2 c2] w fun e w' => e = .returned (.bool true) ∧ Below w.heap.size w w' := by
  by_cases h : bookE l = 0
  · exact clientFollows_ok l a n c st a2 n2 c2 w hE hn hS hn2 hI ((bookE_iff l).1 h)
  · exact clientFollows_bad l a n c a2 n2 c2 w hE hn hS _ rfl h
end Go.Proofs.YtolgikojliedlaeDoor
