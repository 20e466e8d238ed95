/-
  From the row's list of the library's variables to what the contracts ask of the world, and a world that fits, for the witness.
  Behind a call that made only new memory every argument reads as it did: what a law's row asks of the world behind it, proved once for whatever parameters.
  A slice of texts among a law's arguments, opened as its texts.
  A book and an entry among a law's arguments, opened.
  A world, a happening, a script among a law's arguments, opened.
-/
import Derived.Test.YtnemiobgmdpnmagGreatFmtSeal
import Derived.Test.YtnemiobgmdpnmagGreatFmtRows
import Derived.ProofKit
import Derived.OpenShut
import Derived.Deep.DeepHandedRow
import Derived.Deep.DeepWitnessRowRef
import Derived.Lib.LaidTab
import Derived.LaidLaws
import Derived.WalkKit
import Derived.Test.YtnemiobgmdpnmagGreatFmtTree
import Derived.SliceStrings
import Derived.Test.YtnemiobgmdpnmagGreatFmtClients
import Derived.Deep.SlicePairs
import Derived.ChangeArms
import Derived.Deep.Slices
import Derived.Deep.Strs
import Derived.ChangeSame
namespace Go.Proofs.YtnemiobgmdpnmagGreatFmt
open Go Go.RowKit

theorem laidVars_mem {P : Program} {w : World} : ∀ {l : List (String × DataW Unit)} {ps : List MemPlace}, DataW.LaidVars P w l ps → ∀ {n : String} {d : DataW Unit}, (n, d) ∈ l →
    ∃ g t cs fuel p, P.globalNamed n = some g ∧ (P.globals[g]?).map (·.type) = some t ∧ w.var? P n = some cs ∧ DataW.trod (fun _ => ()) P w 0 (fun _ => true) false fuel t cs.toList = some (d, p)
  | [], _, _, n, d, hm => by cases hm
  | (m, e) :: r, ps, h, n, d, hm => by
    obtain ⟨g, t, cs, fuel, p, q, h1, h2, h3, h4, h5, _⟩ := h
    rcases List.mem_cons.1 hm with he | he
    · injection he with e1 e2
      subst e1 e2
      exact ⟨g, t, cs, fuel, p, h1, h2, h3, h4⟩
    · exact laidVars_mem h5 he

theorem gTab : Tryz.prog.globalNamed "internal/strconv.uint64pow10" = some 0 := by kernel_rfl
theorem gTabType : (Tryz.prog.globals[0]?).map (·.type) = some 140 := by kernel_rfl
theorem cellsTab : Tryz.prog.cellsOf 140 = 20 := by kernel_rfl
theorem cellsU64 : Tryz.prog.cellsOf 128 = 1 := by kernel_rfl
theorem tab_eq : (Rows.laid_internal_strconv_uint64pow10 : DataW Unit) = Lib.tabData .u64 Lib.pow10Tab := by
  simp [Rows.laid_internal_strconv_uint64pow10, Lib.tabData, Lib.pow10Tab, List.range, List.range.loop]

theorem tab_of {W : World} {l : List (String × DataW Unit)} (hL : laidMet Tryz.prog l W)
    (h1 : ("internal/strconv.uint64pow10", Rows.laid_internal_strconv_uint64pow10) ∈ l) : Tab W := by
  obtain ⟨ps, hV, _⟩ := hL
  refine ⟨?_⟩
  obtain ⟨g, t, cs, fuel, p, k1, k2, k3, k4⟩ := laidVars_mem hV h1
  obtain rfl := Option.some.inj (gTab.symm.trans k1)
  obtain rfl := Option.some.inj (gTabType.symm.trans k2)
  rw [tab_eq] at k4
  unfold Lib.TabIs
  rw [k3, ← Lib.cells_of_tab Tryz.underlying140 Tryz.underlying128 cellsU64 cellsTab k4]

theorem own : ownKnob Tryz.prog.godebug = none := by kernel_rfl

/- The witness: the settled world, the variables holding what their initialisers lay. -/
noncomputable def laidWorld (os : Os) : World :=
  let w0 := World.holding Tryz.prog os ⟨#[], #[], []⟩
  let put (h : Array Obj) (g : Nat) (cs : Array Value) : Array Obj := h.modify g fun
    | .cells _ t frozen => .cells cs t frozen
    | o => o
  let h1 := put w0.heap 0 (Lib.pow10Tab.map fun z => Value.int .u64 z).toArray
  let h4 := put h1 1 #[.int .u8 0, .int .u8 1, .int .u8 28, .int .u8 2, .int .u8 29, .int .u8 14, .int .u8 24, .int .u8 3, .int .u8 30, .int .u8 22, .int .u8 20, .int .u8 15, .int .u8 25, .int .u8 17, .int .u8 4, .int .u8 8, .int .u8 31, .int .u8 27, .int .u8 13, .int .u8 23, .int .u8 21, .int .u8 19, .int .u8 16, .int .u8 7, .int .u8 26, .int .u8 12, .int .u8 18, .int .u8 6, .int .u8 11, .int .u8 5, .int .u8 10, .int .u8 9]
  let h5 := put h4 2 #[.int .u8 0, .int .u8 1, .int .u8 56, .int .u8 2, .int .u8 57, .int .u8 49, .int .u8 28, .int .u8 3, .int .u8 61, .int .u8 58, .int .u8 42, .int .u8 50, .int .u8 38, .int .u8 29, .int .u8 17, .int .u8 4, .int .u8 62, .int .u8 47, .int .u8 59, .int .u8 36, .int .u8 45, .int .u8 43, .int .u8 51, .int .u8 22, .int .u8 53, .int .u8 39, .int .u8 33, .int .u8 30, .int .u8 24, .int .u8 18, .int .u8 12, .int .u8 5, .int .u8 63, .int .u8 55, .int .u8 48, .int .u8 27, .int .u8 60, .int .u8 41, .int .u8 37, .int .u8 16, .int .u8 46, .int .u8 35, .int .u8 44, .int .u8 21, .int .u8 52, .int .u8 32, .int .u8 23, .int .u8 11, .int .u8 54, .int .u8 26, .int .u8 40, .int .u8 15, .int .u8 34, .int .u8 20, .int .u8 31, .int .u8 10, .int .u8 25, .int .u8 14, .int .u8 19, .int .u8 9, .int .u8 13, .int .u8 8, .int .u8 7, .int .u8 6]
  { w0 with heap := h5 }
end Go.Proofs.YtnemiobgmdpnmagGreatFmt
namespace Go.Proofs.YtnemiobgmdpnmagGreatFmt
open Go Go.RowKit Go.ChangeShapes Go.WideShapes Go.ChangeAt

theorem trodAll_kept {H : Type} {enc : TypeId × Value → H} {P : Program} (hl : laidOutB P = true) {W W' : World} (hb : Below W.heap.size W W') :
    ∀ {ts : List TypeId} {vs : List Value} {ds : List (DataW H)} {ps : List MemPlace}, ts.all (fun t => P.readableRec t && decide (t < P.types.size)) = true →
      DataW.TrodAll enc P W 0 (fun _ => true) true ts vs ds ps → (∀ x ∈ ps, x.block < W.heap.size) →
      DataW.TrodAll enc P W' 0 (fun b => decide (b < W.heap.size)) true ts vs ds ps
  | [], [], [], ps, _, h, _ => h
  | t :: ts, v :: vs, d :: ds, ps, hts, h, hlt => by
    obtain ⟨p, q, h1, h2, rfl⟩ := h
    simp only [List.all_cons, Bool.and_eq_true, decide_eq_true_eq] at hts
    refine ⟨p, q, Below.trod hl hts.1.1 hts.1.2 h1 hb (fun x hx => hlt x (List.mem_append_left _ hx)), ?_, rfl⟩
    exact trodAll_kept hl hb (by simpa using hts.2) h2 (fun x hx => hlt x (List.mem_append_right _ hx))
  | [], _ :: _, _, _, _, h, _ => by cases h
  | [], [], _ :: _, _, _, h, _ => by cases h
  | _ :: _, [], _, _, _, h, _ => by cases h
  | _ :: _, _ :: _, [], _, _, h, _ => by cases h

theorem law_post {H : Type} {enc : TypeId × Value → H} {P : Program} {f : Func} {s : ChangeSpec} {W W' : World} {args : Array Value} {ds gs : List (DataW H)} {before : List MemPlace} {tb : TypeId}
    (hl : laidOutB P = true) (hts : f.params.toList.all (fun t => P.readableRec t && decide (t < P.types.size)) = true) (hu : P.underlying tb = some .bool) (hr : f.resultTypes = #[tb])
    (hv : s.vars = []) (hs1 : (s.fn H ds).results = [.lit (.bool true)]) (hs2 : (s.fn H ds).args = ds) (hs3 : (s.fn H ds).vars = [])
    (hW : DataW.Whole enc P f.params.toList s.vars false W args.toList ds gs before) (hb : Below W.heap.size W W') :
    s.post enc P f false true false false W args (.bool true) W' := by
  have hW' := hW
  have hlt : ∀ p ∈ before, p.block < W.heap.size := fun p hp => hW.lt p hp
  obtain ⟨p, q, hA, hV, rfl, _, _⟩ := hW
  rw [hv] at hV
  obtain ⟨rfl, rfl⟩ := trodVars_none hV
  simp only [List.append_nil] at hlt
  refine ⟨ds, [], p ++ [], [], p, [], hW', ?_, ?_, ?_, hb.frame _, fun h => by cases h⟩
  · rw [List.append_nil, hs1, hr]
    exact trodAll_mk1 (shut_bool hu _)
  · rw [List.append_nil, hs2]
    exact trodAll_kept hl hb hts hA hlt
  · rw [List.append_nil, hs3, hv]
    rfl
end Go.Proofs.YtnemiobgmdpnmagGreatFmt
namespace Go.Proofs.YtnemiobgmdpnmagGreatFmt
open Go Go.RowKit Go.ChangeShapes Go.WideShapes

theorem open_texts {H : Type} {enc : TypeId × Value → H} {P : Program} {W : World} {r : Reach} {b0 base : Nat} {held : Bool} {t e : TypeId} {v : Value} {d : DataW H} {ps : List MemPlace}
    (ht : P.underlying t = some (.slice e)) (he : P.underlying e = some .string) (hc : P.cellsOf e = 1) (hval : Value.okWide P W r b0 t v) (hd : DataW.Trod enc P W base (fun _ => true) held t v d ps) :
    ∃ (a : Option Addr) (n c : Nat) (l : List ByteArray), v = .slice a n c ∧ l.length = n ∧ StrsAt W a c l := by
  obtain ⟨a0, len, cap, rfl⟩ := okWide_slice ht hval
  obtain ⟨fuel, hf⟩ := hd
  rcases open_strings ht he hc hf with ⟨hcs, _⟩ | ⟨a, len', cap', ss, hcs, _, hl, hm, hz, _, hcell, hsz⟩
  · have hcs : [Value.slice a0 len cap] = [.slice none 0 0] := hcs
    injection hcs with h1 _
    injection h1 with e1 e2 e3
    subst e1 e2 e3
    exact ⟨none, 0, 0, [], rfl, rfl, ⟨Nat.le_refl _, by omega, fun s hs => by simp at hs, fun h => by simp at h⟩⟩
  · have hcs : [Value.slice a0 len cap] = [.slice (some a) len' cap'] := hcs
    injection hcs with h1 _
    injection h1 with e1 e2 e3
    subst e1 e2 e3
    have hz : ss.length = cap := by simpa using hz
    have hlen : (ss.take len).length = len := by rw [List.length_take]; omega
    refine ⟨some a, len, cap, ss.take len, rfl, hlen, ⟨by omega, hm, fun s hs => hsz s (List.mem_of_mem_take hs), fun hp => ?_⟩⟩
    have h0 := hcell 0 (by omega)
    obtain ⟨b, off, spot⟩ := a
    have hlt : b < W.heap.size := by
      refine Classical.byContradiction fun hn => ?_
      have : W.cell? ((⟨b, off, spot⟩ : Addr).add 0) = none := by
        unfold World.cell?
        rw [Array.getElem?_eq_none (by simpa [Addr.add] using hn)]
      rw [this] at h0
      cases h0
    have hs : spot = none := by
      cases spot with
      | none => rfl
      | some k =>
        unfold World.cell? at h0
        simp only [Addr.add, ↓reduceIte, Option.isSome_some] at h0
        split at h0 <;> simp at h0
    subst hs
    refine ⟨b, off, rfl, hlt, fun i hi => ?_⟩
    have := hcell i (by omega)
    have e : (⟨b, off, none⟩ : Addr).add i = ⟨b, off + i, none⟩ := by
      unfold Addr.add
      split
      · rename_i h; subst h; rfl
      · rfl
    rw [e] at this
    rw [this]
    have : i < len := by omega
    simp [this, List.getD_eq_getElem?_getD]

theorem weightsAll_mem {H : Type} {P : Program} {e : TypeId} {m : Nat} {d : DataW H} (hm : m ∈ d.weights P e) : ∀ {l : List (DataW H)}, d ∈ l → m ∈ DataW.weightsAll P e l
  | x :: l, h => by
    unfold DataW.weightsAll
    rcases List.mem_cons.1 h with rfl | h
    · exact List.mem_append_left _ hm
    · exact List.mem_append_right _ (weightsAll_mem hm h)

/- The same, with a bound of what the argument weighs: no text is longer. -/
theorem open_texts_sized {H : Type} {enc : TypeId × Value → H} {P : Program} {W : World} {r : Reach} {b0 base K : Nat} {held : Bool} {t e : TypeId} {v : Value} {d : DataW H} {ps : List MemPlace}
    (ht : P.underlying t = some (.slice e)) (he : P.underlying e = some .string) (hc : P.cellsOf e = 1) (hval : Value.okWide P W r b0 t v) (hd : DataW.Trod enc P W base (fun _ => true) held t v d ps) (hw : ∀ m ∈ d.weights P t, m ≤ K) :
    ∃ (a : Option Addr) (n c : Nat) (l : List ByteArray), v = .slice a n c ∧ l.length = n ∧ StrsAt W a c l ∧ ∀ s ∈ l, s.size ≤ K := by
  obtain ⟨a0, n0, c0, l0, rfl, hl0, hS0⟩ := open_texts ht he hc hval hd
  refine ⟨a0, n0, c0, l0, rfl, hl0, hS0, fun s hs => ?_⟩
  obtain ⟨j, hj, hjs⟩ := List.getElem_of_mem hs
  obtain ⟨b, off, rfl, _, hcl⟩ := hS0.cells (by omega)
  have hcj := hcl j hj
  have hat : l0.getD j ByteArray.empty = s := by
    rw [List.getD_eq_getElem?_getD, List.getElem?_eq_getElem hj, Option.getD_some]; exact hjs
  rw [hat] at hcj
  obtain ⟨fuel, hf⟩ := hd
  rcases open_strings ht he hc hf with ⟨hcs, _⟩ | ⟨a, len', cap', ss, hcs, _, hl, hm, hz, hx, hcell, _⟩
  · have hcs : [Value.slice (some ⟨b, off, none⟩) n0 c0] = [.slice none 0 0] := hcs
    injection hcs with h1 _
    injection h1 with e1 _ _
    cases e1
  · have hcs : [Value.slice (some ⟨b, off, none⟩) n0 c0] = [.slice (some a) len' cap'] := hcs
    injection hcs with h1 _
    injection h1 with e1 e2 e3
    injection e1 with e1
    subst e1 e2 e3
    have hz : ss.length = c0 := by simpa using hz
    have hjn : j < n0 := by omega
    have g := hcell j (by omega)
    have e : (⟨b, off, none⟩ : Addr).add j = ⟨b, off + j, none⟩ := by
      unfold Addr.add
      split
      · rename_i h; subst h; rfl
      · rfl
    rw [e, hcj] at g
    injection g with g
    injection g with g
    have hd1 : d = _ := congrArg Prod.fst hx
    refine hw _ ?_
    rw [hd1]
    simp only [DataW.weights, ht]
    refine List.mem_cons_of_mem _ (List.mem_append_left _ ?_)
    refine weightsAll_mem (d := .lit (.string s.data.toList)) ?_ ?_
    · simp only [DataW.weights, List.mem_singleton]
      rw [ba_size]
    · unfold strs
      refine List.mem_map.2 ⟨s, ?_, rfl⟩
      rw [g, List.getD_eq_getElem?_getD, List.getElem?_eq_getElem (by omega), Option.getD_some]
      exact List.mem_take_iff_getElem.2 ⟨j, by omega, rfl⟩
end Go.Proofs.YtnemiobgmdpnmagGreatFmt
namespace Go.Proofs.YtnemiobgmdpnmagGreatFmt
open Go Go.RowKit Go.ChangeShapes Go.WideShapes

/- The cells of a slice of entries, with what they weigh. -/
theorem open_ents {H : Type} {enc : TypeId × Value → H} {P : Program} {W : World} {base fuel : Nat} {held : Bool} {t e : TypeId} {f0 f1 : Field} {cs : List Value} {x : DataW H × List MemPlace}
    (ht : P.underlying t = some (.slice e)) (he : P.underlying e = some (.struct #[f0, f1])) (ce : P.cellsOf e = 2) (o0 : f0.offset = 0) (o1 : f1.offset = 1) (c0 : P.cellsOf f0.type = 1) (c1 : P.cellsOf f1.type = 1)
    (u0 : P.underlying f0.type = some (.int .i64)) (u1 : P.underlying f1.type = some .string) (be : P.bytesOf e = 24) (hf : DataW.trod enc P W base (fun _ => true) held fuel t cs = some x) :
    ∃ (a : Option Addr) (n c : Nat) (l : List EntB), cs = [.slice a n c] ∧ l.length = n ∧ EntsAt W a c l ∧ ∀ K, (∀ m ∈ x.1.weights P t, m ≤ K) → n * 24 ≤ K ∧ ∀ s ∈ l, s.2.size ≤ K := by
  rcases Go.Deep.open_slice_pairs ht he ce o0 o1 c0 c1 hf with ⟨hcs, _⟩ | ⟨a, len, cap, m, n, V0, V1, D0, D1, P0, P1, hcs, _, hl, hm, hz, hx, hcell⟩
  · exact ⟨none, 0, 0, [], hcs, rfl, ents_none W, fun K _ => ⟨by omega, fun s hs => by cases hs⟩⟩
  · have hz : m = cap := by simpa using hz
    subst hz
    have each : ∀ i, i < len → ∃ s : EntB, W.cell? (a.add (i * 2)) = some (.int .i64 s.1) ∧ W.cell? (a.add (i * 2 + 1)) = some (.string s.2) ∧ WideEnt s ∧ D1 i = .lit (.string s.2.data.toList) := by
      intro i hi
      obtain ⟨g0, g1, k0, k1⟩ := hcell i (by omega)
      obtain ⟨b, q0, _, hw⟩ := DataW.trod_int u0 k0
      obtain ⟨s, q1, q2, q3⟩ := DataW.trod_string u1 k1
      injection q0 with q0 _
      injection q1 with q1 _
      rw [q0] at g0
      rw [q1] at g1
      simp only [Lit.wf, Bool.and_eq_true, decide_eq_true_eq] at hw
      exact ⟨(b, s), g0, g1, ⟨hw.1, hw.2, q3⟩, congrArg Prod.fst q2⟩
    haveI : Inhabited EntB := ⟨(0, ByteArray.empty)⟩
    obtain ⟨S, hS⟩ := Go.Deep.choose_lt each
    have hlen : ((List.range len).map S).length = len := by simp
    have hat : ∀ i, i < len → entAt ((List.range len).map S) i = S i := by
      intro i hi
      simp [entAt, List.getD_eq_getElem?_getD, hi]
    refine ⟨some a, len, m, (List.range len).map S, hcs, hlen, ⟨by omega, hm, fun s hs => ?_, fun hp => ?_⟩, fun K hK => ?_⟩
    · obtain ⟨i, hi, rfl⟩ := List.mem_map.1 hs
      exact (hS i (List.mem_range.1 hi)).2.2.1
    · have h0 := (hS 0 (by omega)).1
      obtain ⟨b, off, spot⟩ := a
      have hlt : b < W.heap.size := by
        refine Classical.byContradiction fun hn => ?_
        have : W.cell? ((⟨b, off, spot⟩ : Addr).add (0 * 2)) = none := by
          unfold World.cell?
          rw [Array.getElem?_eq_none (by simpa [Addr.add] using hn)]
        rw [this] at h0
        cases h0
      have hs : spot = none := by
        cases spot with
        | none => rfl
        | some k =>
          unfold World.cell? at h0
          simp only [Addr.add, Nat.zero_mul, ↓reduceIte, Option.isSome_some] at h0
          split at h0 <;> simp at h0
      subst hs
      have e : ∀ j, (⟨b, off, none⟩ : Addr).add j = ⟨b, off + j, none⟩ := by
        intro j
        unfold Addr.add
        split
        · rename_i h; subst h; rfl
        · rfl
      refine ⟨b, off, rfl, hlt, fun i hi => ?_⟩
      have hi' : i < len := by omega
      have := hS i hi'
      rw [e, e] at this
      rw [hat i hi']
      exact ⟨this.1, by rw [Nat.add_assoc]; exact this.2.1⟩
    · have hd1 : x.1 = _ := congrArg Prod.fst hx
      rw [hd1] at hK
      simp only [DataW.weights, ht] at hK
      refine ⟨?_, fun s hs => ?_⟩
      · have := hK _ (List.mem_cons_self ..)
        rw [be, List.length_map, List.length_range] at this
        have h2 : len * 24 ≤ (len + ((List.range (m - len)).map fun j => DataW.agg [D0 (len + j), D1 (len + j)]).length) * 24 := Nat.mul_le_mul_right _ (by omega)
        exact Nat.le_trans h2 this
      · obtain ⟨i, hi, rfl⟩ := List.mem_map.1 hs
        have hi := List.mem_range.1 hi
        refine hK _ (List.mem_cons_of_mem _ (List.mem_append_left _ ?_))
        refine weightsAll_mem (d := .agg [D0 i, D1 i]) ?_ (List.mem_map.2 ⟨i, List.mem_range.2 hi, rfl⟩)
        simp only [DataW.weights, he, DataW.weightsEach, List.map_cons, List.map_nil]
        rw [(hS i hi).2.2.2]
        refine List.mem_append_right _ (List.mem_append_left _ ?_)
        simp only [DataW.weights, List.mem_singleton]
        rw [ba_size]

/- A book, by value. -/
theorem open_book {H : Type} {enc : TypeId × Value → H} {P : Program} {W : World} {r : Reach} {b0 base : Nat} {held : Bool} {tb t e : TypeId} {g0 f0 f1 : Field} {v : Value} {d : DataW H} {ps : List MemPlace}
    (hb : P.underlying tb = some (.struct #[g0])) (cb : P.cellsOf tb = 1) (ob : g0.offset = 0) (tg : g0.type = t) (ct : P.cellsOf t = 1)
    (ht : P.underlying t = some (.slice e)) (he : P.underlying e = some (.struct #[f0, f1])) (ce : P.cellsOf e = 2) (o0 : f0.offset = 0) (o1 : f1.offset = 1) (c0 : P.cellsOf f0.type = 1) (c1 : P.cellsOf f1.type = 1)
    (u0 : P.underlying f0.type = some (.int .i64)) (u1 : P.underlying f1.type = some .string) (be : P.bytesOf e = 24) (hval : Value.okWide P W r b0 tb v) (hd : DataW.Trod enc P W base (fun _ => true) held tb v d ps) :
    ∃ (a : Option Addr) (n c : Nat) (l : List EntB), v = .agg #[.slice a n c] ∧ l.length = n ∧ EntsAt W a c l ∧ ∀ K, (∀ m ∈ d.weights P tb, m ≤ K) → n * 24 ≤ K ∧ ∀ s ∈ l, s.2.size ≤ K := by
  obtain ⟨cs, rfl, hsz⟩ := okWide_struct hb hval
  obtain ⟨x0, rfl⟩ : ∃ x0, cs = #[x0] := by
    rw [cb] at hsz
    exact ⟨cs[0], by apply Array.ext <;> simp_all⟩
  obtain ⟨fuel, hf⟩ := hd
  obtain ⟨y0, n, hx, _, h0⟩ := trod_struct1 hb hf
  subst tg
  have h0' : DataW.trod enc P W base (fun _ => true) held n g0.type [x0] = some y0 := by simpa [Value.cells, ob, ct] using h0
  obtain ⟨a, n, c, l, hcs, hl, hS, hW⟩ := open_ents ht he ce o0 o1 c0 c1 u0 u1 be h0'
  injection hcs with hcs _
  subst hcs
  refine ⟨a, n, c, l, rfl, hl, hS, fun K hK => hW K fun m hm => hK m ?_⟩
  have hd1 : d = _ := congrArg Prod.fst hx
  rw [hd1]
  simp only [DataW.weights, hb, DataW.weightsEach, List.map_cons, List.map_nil]
  exact List.mem_append_left _ hm

/- An entry, by value. -/
theorem open_entry {H : Type} {enc : TypeId × Value → H} {P : Program} {W : World} {r : Reach} {b0 base : Nat} {held : Bool} {e : TypeId} {f0 f1 : Field} {v : Value} {d : DataW H} {ps : List MemPlace}
    (he : P.underlying e = some (.struct #[f0, f1])) (ce : P.cellsOf e = 2) (o0 : f0.offset = 0) (o1 : f1.offset = 1) (c0 : P.cellsOf f0.type = 1) (c1 : P.cellsOf f1.type = 1)
    (u0 : P.underlying f0.type = some (.int .i64)) (u1 : P.underlying f1.type = some .string) (hval : Value.okWide P W r b0 e v) (hd : DataW.Trod enc P W base (fun _ => true) held e v d ps) :
    ∃ (k : Int) (s : ByteArray), v = .agg #[.int .i64 k, .string s] ∧ WideEnt (k, s) ∧ ∀ K, (∀ m ∈ d.weights P e, m ≤ K) → s.size ≤ K := by
  obtain ⟨cs, rfl, hsz⟩ := okWide_struct he hval
  obtain ⟨x0, x1, rfl⟩ : ∃ x0 x1, cs = #[x0, x1] := by
    rw [ce] at hsz
    refine ⟨cs[0], cs[1], ?_⟩
    apply Array.ext
    · simp_all
    · intro i h1 h2
      match i, h2 with
      | 0, _ => rfl
      | 1, _ => rfl
  obtain ⟨fuel, hf⟩ := hd
  obtain ⟨y0, y1, n, hx, _, h0, h1⟩ := trod_struct2 he hf
  have h0' : DataW.trod enc P W base (fun _ => true) held n f0.type [x0] = some y0 := by simpa [Value.cells, o0, c0] using h0
  have h1' : DataW.trod enc P W base (fun _ => true) held n f1.type [x1] = some y1 := by simpa [Value.cells, o1, c1] using h1
  obtain ⟨k, q0, _, hw⟩ := DataW.trod_int u0 h0'
  obtain ⟨s, q1, q2, q3⟩ := DataW.trod_string u1 h1'
  injection q0 with q0 _
  injection q1 with q1 _
  subst q0 q1
  simp only [Lit.wf, Bool.and_eq_true, decide_eq_true_eq] at hw
  refine ⟨k, s, rfl, ⟨hw.1, hw.2, q3⟩, fun K hK => hK _ ?_⟩
  have hd1 : d = _ := congrArg Prod.fst hx
  have hD : y1.1 = .lit (.string s.data.toList) := congrArg Prod.fst q2
  rw [hd1]
  simp only [DataW.weights, he, DataW.weightsEach, List.map_cons, List.map_nil]
  rw [hD]
  refine List.mem_append_right _ (List.mem_append_left _ ?_)
  simp only [DataW.weights, List.mem_singleton]
  rw [ba_size]
end Go.Proofs.YtnemiobgmdpnmagGreatFmt
namespace Go.Proofs.YtnemiobgmdpnmagGreatFmt
open Go Go.RowKit Go.ChangeShapes Go.WideShapes

/- One client's cells. -/
theorem cli_trod {H : Type} {enc : TypeId × Value → H} {P : Program} {W : World} {base n : Nat} {held : Bool} {e : TypeId} {f0 f1 g0 g1 g2 : Field} {x0 x1 x2 x3 : Value} {x : DataW H × List MemPlace}
    (he : P.underlying e = some (.struct #[f0, f1])) (o0 : f0.offset = 0) (o1 : f1.offset = 3) (c0 : P.cellsOf f0.type = 3) (c1 : P.cellsOf f1.type = 1)
    (hh : P.underlying f0.type = some (.struct #[g0, g1, g2])) (p0 : g0.offset = 0) (p1 : g1.offset = 1) (p2 : g2.offset = 2) (k0 : P.cellsOf g0.type = 1) (k1 : P.cellsOf g1.type = 1) (k2 : P.cellsOf g2.type = 1)
    (u0 : P.underlying g0.type = some (.int .i64)) (u1 : P.underlying g1.type = some .string) (u2 : P.underlying g2.type = some .string) (ub : P.underlying f1.type = some .bool)
    (hf : DataW.trod enc P W base (fun _ => true) held n e [x0, x1, x2, x3] = some x) :
    ∃ c : CliB, x0 = .int .i64 c.1 ∧ x1 = .string c.2.1 ∧ x2 = .string c.2.2.1 ∧ x3 = .bool c.2.2.2 ∧ WideCli c := by
  obtain ⟨y0, y1, n, _, _, h0, h1⟩ := trod_struct2 he hf
  have h0' : DataW.trod enc P W base (fun _ => true) held n f0.type [x0, x1, x2] = some y0 := by simpa [o0, c0] using h0
  have h1' : DataW.trod enc P W base (fun _ => true) held n f1.type [x3] = some y1 := by simpa [o1, c1] using h1
  obtain ⟨z0, z1, z2, m, _, _, j0, j1, j2⟩ := Go.Deep.trod_struct3 hh h0'
  have j0' : DataW.trod enc P W base (fun _ => true) held m g0.type [x0] = some z0 := by simpa [p0, k0] using j0
  have j1' : DataW.trod enc P W base (fun _ => true) held m g1.type [x1] = some z1 := by simpa [p1, k1] using j1
  have j2' : DataW.trod enc P W base (fun _ => true) held m g2.type [x2] = some z2 := by simpa [p2, k2] using j2
  obtain ⟨k, q0, _, hw⟩ := DataW.trod_int u0 j0'
  obtain ⟨s, q1, _, q3⟩ := DataW.trod_string u1 j1'
  obtain ⟨t, q4, _, q5⟩ := DataW.trod_string u2 j2'
  obtain ⟨b, q6, _⟩ := DataW.trod_bool ub h1'
  injection q0 with q0 _
  injection q1 with q1 _
  injection q4 with q4 _
  injection q6 with q6 _
  simp only [Lit.wf, Bool.and_eq_true, decide_eq_true_eq] at hw
  exact ⟨(k, s, t, b), q0, q1, q4, q6, hw.1, hw.2, q3, q5⟩

/- An address of a cell that holds something. -/
theorem plain_addr {W : World} {a : Addr} {j : Nat} {v : Value} (h0 : W.cell? (a.add j) = some v) (hj : j = 0) : a.block < W.heap.size ∧ a = ⟨a.block, a.off, none⟩ := by
  subst hj
  obtain ⟨b, off, spot⟩ := a
  have hlt : b < W.heap.size := by
    refine Classical.byContradiction fun hn => ?_
    have : W.cell? ((⟨b, off, spot⟩ : Addr).add 0) = none := by
      unfold World.cell?
      rw [Array.getElem?_eq_none (by simpa [Addr.add] using hn)]
    rw [this] at h0
    cases h0
  have hs : spot = none := by
    cases spot with
    | none => rfl
    | some k =>
      unfold World.cell? at h0
      simp only [Addr.add, ↓reduceIte, Option.isSome_some] at h0
      split at h0 <;> simp at h0
  subst hs
  exact ⟨hlt, rfl⟩
theorem plain_add (b off j : Nat) : (⟨b, off, none⟩ : Addr).add j = ⟨b, off + j, none⟩ := by
  unfold Addr.add
  split
  · rename_i h; subst h; rfl
  · rfl

theorem open_clis {H : Type} {enc : TypeId × Value → H} {P : Program} {W : World} {base fuel : Nat} {held : Bool} {t e : TypeId} {f0 f1 g0 g1 g2 : Field} {cs : List Value} {x : DataW H × List MemPlace}
    (ht : P.underlying t = some (.slice e)) (he : P.underlying e = some (.struct #[f0, f1])) (ce : P.cellsOf e = 4) (o0 : f0.offset = 0) (o1 : f1.offset = 3) (c0 : P.cellsOf f0.type = 3) (c1 : P.cellsOf f1.type = 1)
    (hh : P.underlying f0.type = some (.struct #[g0, g1, g2])) (p0 : g0.offset = 0) (p1 : g1.offset = 1) (p2 : g2.offset = 2) (k0 : P.cellsOf g0.type = 1) (k1 : P.cellsOf g1.type = 1) (k2 : P.cellsOf g2.type = 1)
    (u0 : P.underlying g0.type = some (.int .i64)) (u1 : P.underlying g1.type = some .string) (u2 : P.underlying g2.type = some .string) (ub : P.underlying f1.type = some .bool)
    (hf : DataW.trod enc P W base (fun _ => true) held fuel t cs = some x) :
    ∃ (a : Option Addr) (n c : Nat) (l : List CliB), cs = [.slice a n c] ∧ l.length = n ∧ ClisAt W a c l := by
  rcases Go.Deep.open_slice ht hf with ⟨hcs, _⟩ | ⟨a, len, cap, m, n, D, Pl, hcs, _, hl, hm, hz, _, hx⟩
  · exact ⟨none, 0, 0, [], hcs, rfl, clis_none W⟩
  · have hz : m = cap := by simpa using hz
    subst hz
    have each : ∀ i, i < len → ∃ c : CliB, W.cell? (a.add (i * 4)) = some (.int .i64 c.1) ∧ W.cell? (a.add (i * 4 + 1)) = some (.string c.2.1) ∧ W.cell? (a.add (i * 4 + 2)) = some (.string c.2.2.1) ∧ W.cell? (a.add (i * 4 + 3)) = some (.bool c.2.2.2) ∧ WideCli c := by
      intro i hi
      obtain ⟨cs', h1, h2⟩ := hx i (by omega)
      rw [ce] at h1
      obtain ⟨_, hlen, hcell⟩ := World.cells?_some h1
      match cs', hlen with
      | [v0, v1, v2, v3], _ =>
        obtain ⟨c, e0, e1, e2, e3, hc⟩ := cli_trod he o0 o1 c0 c1 hh p0 p1 p2 k0 k1 k2 u0 u1 u2 ub h2
        have d0 := hcell 0 (by omega)
        have d1 := hcell 1 (by omega)
        have d2 := hcell 2 (by omega)
        have d3 := hcell 3 (by omega)
        rw [Go.Deep.add_add] at d0 d1 d2 d3
        subst e0 e1 e2 e3
        exact ⟨c, by simpa using d0, by simpa using d1, by simpa using d2, by simpa using d3, hc⟩
    haveI : Inhabited CliB := ⟨zeroC⟩
    obtain ⟨S, hS⟩ := Go.Deep.choose_lt each
    have hlen : ((List.range len).map S).length = len := by simp
    refine ⟨some a, len, m, (List.range len).map S, hcs, hlen, ⟨by omega, hm, fun s hs => ?_, fun hp => ?_⟩⟩
    · obtain ⟨i, hi, rfl⟩ := List.mem_map.1 hs
      exact (hS i (List.mem_range.1 hi)).2.2.2.2
    · obtain ⟨hlt, ha⟩ := plain_addr (hS 0 (by omega)).1 (by omega)
      refine ⟨a.block, a.off, congrArg some ha, hlt, fun i hi => ?_⟩
      have hi' : i < len := by omega
      have h := hS i hi'
      rw [ha, plain_add, plain_add, plain_add, plain_add] at h
      have hat : cliOf ((List.range len).map S) i = S i := by simp [cliOf, List.getD_eq_getElem?_getD, hi']
      rw [hat]
      exact ⟨h.1, by rw [Nat.add_assoc]; exact h.2.1, by rw [Nat.add_assoc]; exact h.2.2.1, by rw [Nat.add_assoc]; exact h.2.2.2.1⟩

/- One happening's cells. -/
theorem hap_trod {H : Type} {enc : TypeId × Value → H} {P : Program} {W : World} {base n : Nat} {held : Bool} {e : TypeId} {f0 f1 f2 f3 f4 g0 g1 : Field} {x0 x1 x2 x3 x4 x5 : Value} {x : DataW H × List MemPlace}
    (he : P.underlying e = some (.struct #[f0, f1, f2, f3, f4])) (o : f0.offset = 0 ∧ f1.offset = 1 ∧ f2.offset = 2 ∧ f3.offset = 3 ∧ f4.offset = 4) (c : P.cellsOf f0.type = 1 ∧ P.cellsOf f1.type = 1 ∧ P.cellsOf f2.type = 1 ∧ P.cellsOf f3.type = 1 ∧ P.cellsOf f4.type = 2)
    (hi : P.underlying f0.type = some (.int .i64) ∧ P.underlying f1.type = some (.int .i64) ∧ P.underlying f2.type = some (.int .i64) ∧ P.underlying f3.type = some (.int .i64))
    (hh : P.underlying f4.type = some (.struct #[g0, g1])) (p0 : g0.offset = 0) (p1 : g1.offset = 1) (k0 : P.cellsOf g0.type = 1) (k1 : P.cellsOf g1.type = 1) (u0 : P.underlying g0.type = some (.int .i64)) (u1 : P.underlying g1.type = some .string)
    (hf : DataW.trod enc P W base (fun _ => true) held n e [x0, x1, x2, x3, x4, x5] = some x) :
    ∃ h : HapB, x0 = .int .i64 h.kind ∧ x1 = .int .i64 h.side ∧ x2 = .int .i64 h.who ∧ x3 = .int .i64 h.other ∧ x4 = .int .i64 h.e.1 ∧ x5 = .string h.e.2 ∧ WideHap h := by
  obtain ⟨o0, o1, o2, o3, o4⟩ := o
  obtain ⟨c0, c1, c2, c3, c4⟩ := c
  obtain ⟨i0, i1, i2, i3⟩ := hi
  obtain ⟨xs, k, _, _, _, hxl, hg⟩ := DataW.trod_struct he hf
  match xs, hxl with
  | [y0, y1, y2, y3, y4], _ =>
    have g0' := hg 0 f0 rfl
    have g1' := hg 1 f1 rfl
    have g2' := hg 2 f2 rfl
    have g3' := hg 3 f3 rfl
    have g4' := hg 4 f4 rfl
    simp [o0, o1, o2, o3, o4, c0, c1, c2, c3, c4] at g0' g1' g2' g3' g4'
    obtain ⟨a0, q0, _, w0⟩ := DataW.trod_int i0 g0'
    obtain ⟨a1, q1, _, w1⟩ := DataW.trod_int i1 g1'
    obtain ⟨a2, q2, _, w2⟩ := DataW.trod_int i2 g2'
    obtain ⟨a3, q3, _, w3⟩ := DataW.trod_int i3 g3'
    obtain ⟨z0, z1, m, _, _, h0, h1⟩ := trod_struct2 hh g4'
    have h0' : DataW.trod enc P W base (fun _ => true) held m g0.type [x4] = some z0 := by simpa [p0, k0] using h0
    have h1' : DataW.trod enc P W base (fun _ => true) held m g1.type [x5] = some z1 := by simpa [p1, k1] using h1
    obtain ⟨b, r0, _, w4⟩ := DataW.trod_int u0 h0'
    obtain ⟨s, r1, _, r3⟩ := DataW.trod_string u1 h1'
    injection q0 with q0 _
    injection q1 with q1 _
    injection q2 with q2 _
    injection q3 with q3 _
    injection r0 with r0 _
    injection r1 with r1 _
    simp only [Lit.wf, Bool.and_eq_true, decide_eq_true_eq] at w0 w1 w2 w3 w4
    exact ⟨⟨a0, a1, a2, a3, (b, s)⟩, q0, q1, q2, q3, r0, r1, w0, w1, w2, w3, w4.1, w4.2, r3⟩
theorem open_haps {H : Type} {enc : TypeId × Value → H} {P : Program} {W : World} {r : Reach} {b0 base : Nat} {held : Bool} {t e : TypeId} {f0 f1 f2 f3 f4 g0 g1 : Field} {v : Value} {d : DataW H} {ps : List MemPlace}
    (ht : P.underlying t = some (.slice e)) (he : P.underlying e = some (.struct #[f0, f1, f2, f3, f4])) (ce : P.cellsOf e = 6) (o : f0.offset = 0 ∧ f1.offset = 1 ∧ f2.offset = 2 ∧ f3.offset = 3 ∧ f4.offset = 4) (c : P.cellsOf f0.type = 1 ∧ P.cellsOf f1.type = 1 ∧ P.cellsOf f2.type = 1 ∧ P.cellsOf f3.type = 1 ∧ P.cellsOf f4.type = 2)
    (hi : P.underlying f0.type = some (.int .i64) ∧ P.underlying f1.type = some (.int .i64) ∧ P.underlying f2.type = some (.int .i64) ∧ P.underlying f3.type = some (.int .i64))
    (hh : P.underlying f4.type = some (.struct #[g0, g1])) (p0 : g0.offset = 0) (p1 : g1.offset = 1) (k0 : P.cellsOf g0.type = 1) (k1 : P.cellsOf g1.type = 1) (u0 : P.underlying g0.type = some (.int .i64)) (u1 : P.underlying g1.type = some .string)
    (hval : Value.okWide P W r b0 t v) (hd : DataW.Trod enc P W base (fun _ => true) held t v d ps) :
    ∃ (a : Option Addr) (n c : Nat) (l : List HapB), v = .slice a n c ∧ l.length = n ∧ HapsAt W a c l := by
  obtain ⟨a0, len0, cap0, rfl⟩ := okWide_slice ht hval
  obtain ⟨fuel, hf⟩ := hd
  rcases Go.Deep.open_slice ht hf with ⟨hcs, _⟩ | ⟨a, len, cap, m, n, D, Pl, hcs, _, hl, hm, hz, _, hx⟩
  · have hcs : [Value.slice a0 len0 cap0] = [.slice none 0 0] := hcs
    injection hcs with h1 _
    exact ⟨none, 0, 0, [], h1, rfl, haps_zero W none (by omega)⟩
  · have hcs : [Value.slice a0 len0 cap0] = [.slice (some a) len cap] := hcs
    injection hcs with h1 _
    have hz : m = cap := by simpa using hz
    subst hz
    have each : ∀ i, i < len → ∃ h : HapB, W.cell? (a.add (i * 6)) = some (.int .i64 h.kind) ∧ W.cell? (a.add (i * 6 + 1)) = some (.int .i64 h.side) ∧ W.cell? (a.add (i * 6 + 2)) = some (.int .i64 h.who) ∧ W.cell? (a.add (i * 6 + 3)) = some (.int .i64 h.other) ∧ W.cell? (a.add (i * 6 + 4)) = some (.int .i64 h.e.1) ∧ W.cell? (a.add (i * 6 + 5)) = some (.string h.e.2) ∧ WideHap h := by
      intro i hi'
      obtain ⟨cs', h1, h2⟩ := hx i (by omega)
      rw [ce] at h1
      obtain ⟨_, hlen, hcell⟩ := World.cells?_some h1
      match cs', hlen with
      | [v0, v1, v2, v3, v4, v5], _ =>
        obtain ⟨c, e0, e1, e2, e3, e4, e5, hc⟩ := hap_trod he o c hi hh p0 p1 k0 k1 u0 u1 h2
        have d0 := hcell 0 (by omega)
        have d1 := hcell 1 (by omega)
        have d2 := hcell 2 (by omega)
        have d3 := hcell 3 (by omega)
        have d4 := hcell 4 (by omega)
        have d5 := hcell 5 (by omega)
        rw [Go.Deep.add_add] at d0 d1 d2 d3 d4 d5
        subst e0 e1 e2 e3 e4 e5
        exact ⟨c, by simpa using d0, by simpa using d1, by simpa using d2, by simpa using d3, by simpa using d4, by simpa using d5, hc⟩
    haveI : Inhabited HapB := ⟨zeroX⟩
    obtain ⟨S, hS⟩ := Go.Deep.choose_lt each
    have hlen : ((List.range len).map S).length = len := by simp
    refine ⟨some a, len, m, (List.range len).map S, h1, hlen, ⟨by omega, hm, fun s hs => ?_, fun hp => ?_⟩⟩
    · obtain ⟨i, hi', rfl⟩ := List.mem_map.1 hs
      exact (hS i (List.mem_range.1 hi')).2.2.2.2.2.2
    · obtain ⟨hlt, ha⟩ := plain_addr (hS 0 (by omega)).1 (by omega)
      refine ⟨a.block, a.off, congrArg some ha, hlt, fun i hi'' => ?_⟩
      have hi' : i < len := by omega
      have h := hS i hi'
      rw [ha, plain_add, plain_add, plain_add, plain_add, plain_add, plain_add] at h
      have hat : hapOf ((List.range len).map S) i = S i := by simp [hapOf, List.getD_eq_getElem?_getD, hi']
      rw [hat]
      exact ⟨h.1, by rw [Nat.add_assoc]; exact h.2.1, by rw [Nat.add_assoc]; exact h.2.2.1, by rw [Nat.add_assoc]; exact h.2.2.2.1, by rw [Nat.add_assoc]; exact h.2.2.2.2.1, by rw [Nat.add_assoc]; exact h.2.2.2.2.2.1⟩
/- What a slice of happenings weighs. -/
theorem haps_weigh {H : Type} {enc : TypeId × Value → H} {P : Program} {W : World} {base : Nat} {held : Bool} {t e : TypeId} {a : Option Addr} {n c : Nat} {d : DataW H} {ps : List MemPlace}
    (ht : P.underlying t = some (.slice e)) (be : P.bytesOf e = 56) (hd : DataW.Trod enc P W base (fun _ => true) held t (.slice a n c) d ps) : ∀ K, (∀ m ∈ d.weights P t, m ≤ K) → n * 56 ≤ K := by
  intro K hK
  obtain ⟨fuel, hf⟩ := hd
  rcases Go.Deep.open_slice ht hf with ⟨hcs, _⟩ | ⟨a', len, cap, m, n', D, Pl, hcs, _, _, _, _, hx, _⟩
  · have hcs : [Value.slice a n c] = [.slice none 0 0] := hcs
    injection hcs with h1 _
    injection h1 with _ h2 _
    omega
  · have hcs : [Value.slice a n c] = [.slice (some a') len cap] := hcs
    injection hcs with h1 _
    injection h1 with _ h2 _
    subst h2
    have hd1 : d = _ := congrArg Prod.fst hx
    rw [hd1] at hK
    simp only [DataW.weights, ht] at hK
    have := hK _ (List.mem_cons_self ..)
    rw [be, List.length_map, List.length_range] at this
    exact Nat.le_trans (Nat.mul_le_mul_right _ (by omega)) this
/- A happening, by value. -/
theorem open_hap {H : Type} {enc : TypeId × Value → H} {P : Program} {W : World} {r : Reach} {b0 base : Nat} {held : Bool} {e : TypeId} {f0 f1 f2 f3 f4 g0 g1 : Field} {v : Value} {d : DataW H} {ps : List MemPlace}
    (he : P.underlying e = some (.struct #[f0, f1, f2, f3, f4])) (ce : P.cellsOf e = 6) (o : f0.offset = 0 ∧ f1.offset = 1 ∧ f2.offset = 2 ∧ f3.offset = 3 ∧ f4.offset = 4) (c : P.cellsOf f0.type = 1 ∧ P.cellsOf f1.type = 1 ∧ P.cellsOf f2.type = 1 ∧ P.cellsOf f3.type = 1 ∧ P.cellsOf f4.type = 2)
    (hi : P.underlying f0.type = some (.int .i64) ∧ P.underlying f1.type = some (.int .i64) ∧ P.underlying f2.type = some (.int .i64) ∧ P.underlying f3.type = some (.int .i64))
    (hh : P.underlying f4.type = some (.struct #[g0, g1])) (p0 : g0.offset = 0) (p1 : g1.offset = 1) (k0 : P.cellsOf g0.type = 1) (k1 : P.cellsOf g1.type = 1) (u0 : P.underlying g0.type = some (.int .i64)) (u1 : P.underlying g1.type = some .string)
    (hval : Value.okWide P W r b0 e v) (hd : DataW.Trod enc P W base (fun _ => true) held e v d ps) :
    ∃ h : HapB, v = .agg #[.int .i64 h.kind, .int .i64 h.side, .int .i64 h.who, .int .i64 h.other, .int .i64 h.e.1, .string h.e.2] ∧ WideHap h := by
  obtain ⟨cs, rfl, hsz⟩ := okWide_struct he hval
  obtain ⟨x0, x1, x2, x3, x4, x5, rfl⟩ : ∃ x0 x1 x2 x3 x4 x5, cs = #[x0, x1, x2, x3, x4, x5] := by
    rw [ce] at hsz
    refine ⟨cs[0], cs[1], cs[2], cs[3], cs[4], cs[5], ?_⟩
    apply Array.ext
    · simp_all
    · intro i h1 h2
      match i, h2 with
      | 0, _ => rfl
      | 1, _ => rfl
      | 2, _ => rfl
      | 3, _ => rfl
      | 4, _ => rfl
      | 5, _ => rfl
  obtain ⟨fuel, hf⟩ := hd
  have hf' : DataW.trod enc P W base (fun _ => true) held fuel e [x0, x1, x2, x3, x4, x5] = some (d, ps) := by simpa [Value.cells] using hf
  obtain ⟨h, rfl, rfl, rfl, rfl, rfl, rfl, hw⟩ := hap_trod he o c hi hh p0 p1 k0 k1 u0 u1 hf'
  exact ⟨h, rfl, hw⟩

theorem trod_array2 {H : Type} {enc : TypeId × Value → H} {P : Program} {w : World} {base : Nat} {spare : Nat → Bool} {held : Bool} {t e : TypeId} {fuel : Nat} {c0 c1 : Value} {x : DataW H × List MemPlace} (ht : P.underlying t = some (.array 2 e)) (hce : P.cellsOf e = 1)
    (h : DataW.trod enc P w base spare held fuel t [c0, c1] = some x) :
    ∃ y0 y1 n, DataW.trod enc P w base spare held n e [c0] = some y0 ∧ DataW.trod enc P w base spare held n e [c1] = some y1 := by
  cases fuel with
  | zero => simp [DataW.trod] at h
  | succ n =>
    unfold DataW.trod at h
    rw [ht] at h
    have r2 : List.range 2 = [0, 1] := rfl
    simp [r2, hce] at h
    obtain ⟨_, h⟩ := h
    cases h0 : DataW.trod enc P w base spare held n e [c0] with
    | none => simp [h0] at h
    | some y0 =>
      cases h1 : DataW.trod enc P w base spare held n e [c1] with
      | none => simp [h0, h1] at h
      | some y1 => exact ⟨y0, y1, n, h0, h1⟩
/- A world, by value. -/
theorem open_world {H : Type} {enc : TypeId × Value → H} {P : Program} {W : World} {r : Reach} {z0 base : Nat} {held : Bool} {e : TypeId} {wb wc be : Field} {tb ts tc ee : TypeId} {f0 f1 h0 h1 g0 g1 g2 : Field} {v : Value} {d : DataW H} {ps : List MemPlace}
    (he : P.underlying e = some (.struct #[wb, wc])) (ce : P.cellsOf e = 3) (ob : wb.offset = 0) (oc : wc.offset = 2) (cb : P.cellsOf wb.type = 2) (cc : P.cellsOf wc.type = 1)
    (ha : P.underlying wb.type = some (.array 2 tb)) (ctb : P.cellsOf tb = 1) (htb : P.underlying tb = some (.struct #[be])) (obe : be.offset = 0) (tbe : be.type = ts) (cts : P.cellsOf ts = 1)
    (hts : P.underlying ts = some (.slice ee)) (hee : P.underlying ee = some (.struct #[f0, f1])) (cee : P.cellsOf ee = 2) (o0 : f0.offset = 0) (o1 : f1.offset = 1) (c0 : P.cellsOf f0.type = 1) (c1 : P.cellsOf f1.type = 1)
    (u0 : P.underlying f0.type = some (.int .i64)) (u1 : P.underlying f1.type = some .string) (bee : P.bytesOf ee = 24)
    (hc : P.underlying wc.type = some (.slice tc)) (htc : P.underlying tc = some (.struct #[h0, h1])) (ctc : P.cellsOf tc = 4) (oh0 : h0.offset = 0) (oh1 : h1.offset = 3) (ch0 : P.cellsOf h0.type = 3) (ch1 : P.cellsOf h1.type = 1)
    (hh : P.underlying h0.type = some (.struct #[g0, g1, g2])) (p0 : g0.offset = 0) (p1 : g1.offset = 1) (p2 : g2.offset = 2) (k0 : P.cellsOf g0.type = 1) (k1 : P.cellsOf g1.type = 1) (k2 : P.cellsOf g2.type = 1)
    (v0 : P.underlying g0.type = some (.int .i64)) (v1 : P.underlying g1.type = some .string) (v2 : P.underlying g2.type = some .string) (vb : P.underlying h1.type = some .bool)
    (hval : Value.okWide P W r z0 e v) (hd : DataW.Trod enc P W base (fun _ => true) held e v d ps) :
    ∃ (a0 : Option Addr) (n0 c0 : Nat) (a1 : Option Addr) (n1 c1 : Nat) (a2 : Option Addr) (n2 c2 : Nat) (X : WB), v = .agg #[.slice a0 n0 c0, .slice a1 n1 c1, .slice a2 n2 c2] ∧ WAt W a0 n0 c0 a1 n1 c1 a2 n2 c2 X := by
  obtain ⟨cs, rfl, hsz⟩ := okWide_struct he hval
  obtain ⟨x0, x1, x2, rfl⟩ : ∃ x0 x1 x2, cs = #[x0, x1, x2] := by
    rw [ce] at hsz
    refine ⟨cs[0], cs[1], cs[2], ?_⟩
    apply Array.ext
    · simp_all
    · intro i h1 h2
      match i, h2 with
      | 0, _ => rfl
      | 1, _ => rfl
      | 2, _ => rfl
  obtain ⟨fuel, hf⟩ := hd
  obtain ⟨y0, y1, n, _, _, j0, j1⟩ := trod_struct2 he hf
  have j0' : DataW.trod enc P W base (fun _ => true) held n wb.type [x0, x1] = some y0 := by simpa [Value.cells, ob, cb] using j0
  have j1' : DataW.trod enc P W base (fun _ => true) held n wc.type [x2] = some y1 := by simpa [Value.cells, oc, cc] using j1
  obtain ⟨s0, s1, m, t0, t1⟩ := trod_array2 ha ctb j0'
  obtain ⟨w0, m0, _, _, b0⟩ := trod_struct1 htb t0
  obtain ⟨w1, m1, _, _, b1⟩ := trod_struct1 htb t1
  subst tbe
  have b0' : DataW.trod enc P W base (fun _ => true) held m0 be.type [x0] = some w0 := by simpa [obe, cts] using b0
  have b1' : DataW.trod enc P W base (fun _ => true) held m1 be.type [x1] = some w1 := by simpa [obe, cts] using b1
  obtain ⟨a0, n0, e0, l0, q0, hl0, hS0, _⟩ := open_ents hts hee cee o0 o1 c0 c1 u0 u1 bee b0'
  obtain ⟨a1, n1, e1, l1, q1, hl1, hS1, _⟩ := open_ents hts hee cee o0 o1 c0 c1 u0 u1 bee b1'
  obtain ⟨a2, n2, e2, l2, q2, hl2, hS2⟩ := open_clis hc htc ctc oh0 oh1 ch0 ch1 hh p0 p1 p2 k0 k1 k2 v0 v1 v2 vb j1'
  injection q0 with q0 _
  injection q1 with q1 _
  injection q2 with q2 _
  subst q0 q1 q2
  exact ⟨a0, n0, e0, a1, n1, e1, a2, n2, e2, ⟨l0, l1, l2⟩, rfl, ⟨hl0, hS0, hl1, hS1, hl2, hS2⟩⟩
end Go.Proofs.YtnemiobgmdpnmagGreatFmt
