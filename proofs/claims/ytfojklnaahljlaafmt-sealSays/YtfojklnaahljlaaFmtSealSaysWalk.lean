/-
  The walk of the law SealSays: it returns true.
-/
import Derived.Test.YtfojklnaahljlaaFmtSplitOf
namespace Go.Proofs.YtfojklnaahljlaaFmt
open Go Go.RowKit Go.Kit Go.Extern.Stop Go.Stop Go.Extern

theorem get0 (a : ByteArray) (h : 0 < a.size) : a[0] = a.data.toList.getD 0 0 := by
  have h' : 0 < a.data.size := h
  show a.data[0] = _
  rw [List.getD_eq_getElem?_getD, Array.getElem?_toList, Array.getElem?_eq_getElem h']
  rfl
theorem open_facts {a t : ByteArray} (h : openS a = some t) : ∃ hz : 0 < a.size, a ≠ ByteArray.empty ∧ (((a[0]'hz).toNat : Int) != 76) = false ∧ t = a.extract 1 a.size := by
  have hl := openS_some h
  have hd : a.data.toList = 76 :: t.data.toList := by rw [← hl, leafS_data]
  have hz : 0 < a.size := by rw [ba_size, hd]; simp
  refine ⟨hz, ?_, ?_, ?_⟩
  · intro e; subst e; simp at hz
  · rw [get0 a hz, hd]; rfl
  · apply ba_ext
    rw [Lib.extract_data, hd, List.drop_succ_cons, List.drop_zero, List.take_of_length_le]
    have : a.size = t.data.toList.length + 1 := by rw [ba_size, hd]; simp
    omega
theorem open_facts_none {a : ByteArray} (h : openS a = none) (hz : 0 < a.size) : (((a[0]'hz).toNat : Int) != 76) = true := by
  rw [get0 a hz]
  cases hd : a.data.toList with
  | nil => rw [ba_size, hd] at hz; simp at hz
  | cons c r =>
    have hc : c ≠ 76 := by
      intro e
      subst e
      unfold openS at h
      rw [hd, if_pos (by simp [Lib.hasPrefix])] at h
      cases h
    have hn : c.toNat ≠ 76 := fun e => hc (UInt8.toNat_inj.1 e)
    simp only [List.getD_cons_zero, bne_iff_ne, ne_eq]
    omega

set_option maxHeartbeats 1000000 in
set_option maxRecDepth 100000 in
theorem sealSays_some (F : Interp) (a b t : ByteArray) (w : World) (hE : Env w) (hF : F.told.answers w.tape) (ha : a.size ≤ 281474976710656) (hb : b.size ≤ 281474976710656) (ho : openS a = some t) :
    Calls Tryf.prog 3 #[.string a, .string b] w fun e w' => e = .returned (.bool true) ∧ Below w.heap.size w w' := by
  have Ho := Lib.hid ho
  obtain ⟨hz, hne, h76, hte⟩ := open_facts ho
  have hteq := str_eq hte
  clear ho hte
  go_enter Tryf.func3, Tryf.ntmps3
  go_wp2_with fail
  refine (leaf_any a w).mono ?_
  rintro e w1 ⟨rfl, rfl⟩
  go_wp2_with fail
  refine (node_any a b w hE (by omega)).mono ?_
  rintro e w1 ⟨rfl, hb1⟩
  have hE1 := hE.on hb1
  go_wp2_with fail
  refine (open_ok a t w1 Ho.out).mono ?_
  rintro e w2 ⟨rfl, rfl⟩
  go_wp2_with fail
  refine (split_any a w1 hE1 ha).mono ?_
  rintro e w2 ⟨rfl, hb2⟩
  have hE2 := hE1.on hb2
  have hB2 := below_on hb1 hb2
  have HF2 : Hid (F.told.answers w2.tape) := by rw [hB2.tape]; exact hF
  clear hE hE1 hb1 hb2 hF
  go_wp2_with fail
  refine (leafOf_any a w2 (by omega)).mono ?_
  rintro e w3 ⟨rfl, rfl⟩
  go_wp2_with fail
  refine (nodeOf_any F a b w2 HF2.out (by omega) (by omega)).mono ?_
  rintro e w3 ⟨rfl, hb3⟩
  have hE3 := hE2.on hb3
  have hB3 := below_on hB2 hb3
  clear hE2 hB2 hb3 HF2
  go_wp2_with fail
  refine (splitOf_any a w3 hE3 ha).mono ?_
  rintro e w4 ⟨rfl, hb4⟩
  have hE4 := hE3.on hb4
  have hB4 := below_on hB3 hb4
  clear hE3 hB3 hb4
  go_wp2_with fail
  refine (sealed_any w4 hE4).mono ?_
  rintro e w5 ⟨rfl, hb5⟩
  have hB5 := below_on hB4 hb5
  clear hE4 hB4 hb5
  go_wp2_with fail
  go_ret
  exact ⟨rfl, hB5⟩
set_option maxHeartbeats 1000000 in
set_option maxRecDepth 100000 in
theorem sealSays_no1 (F : Interp) (a b : ByteArray) (w : World) (hE : Env w) (hF : F.told.answers w.tape) (ha : a.size ≤ 281474976710656) (hb : b.size ≤ 281474976710656) (ho : openS a = none) (hz : 0 < a.size) :
    Calls Tryf.prog 3 #[.string a, .string b] w fun e w' => e = .returned (.bool true) ∧ Below w.heap.size w w' := by
  have Ho := Lib.hid ho
  have hne : a ≠ ByteArray.empty := by intro e; subst e; simp at hz
  have h76 := open_facts_none ho hz
  clear ho
  go_enter Tryf.func3, Tryf.ntmps3
  go_wp2_with fail
  refine (leaf_any a w).mono ?_
  rintro e w1 ⟨rfl, rfl⟩
  go_wp2_with fail
  refine (node_any a b w hE (by omega)).mono ?_
  rintro e w1 ⟨rfl, hb1⟩
  have hE1 := hE.on hb1
  go_wp2_with fail
  refine (open_no a w1 Ho.out).mono ?_
  rintro e w2 ⟨rfl, rfl⟩
  go_wp2_with fail
  refine (split_any a w1 hE1 ha).mono ?_
  rintro e w2 ⟨rfl, hb2⟩
  have hE2 := hE1.on hb2
  have hB2 := below_on hb1 hb2
  have HF2 : Hid (F.told.answers w2.tape) := by rw [hB2.tape]; exact hF
  clear hE hE1 hb1 hb2 hF
  go_wp2_with fail
  refine (leafOf_any a w2 (by omega)).mono ?_
  rintro e w3 ⟨rfl, rfl⟩
  go_wp2_with fail
  refine (nodeOf_any F a b w2 HF2.out (by omega) (by omega)).mono ?_
  rintro e w3 ⟨rfl, hb3⟩
  have hE3 := hE2.on hb3
  have hB3 := below_on hB2 hb3
  clear hE2 hB2 hb3 HF2
  go_wp2_with fail
  refine (splitOf_any a w3 hE3 ha).mono ?_
  rintro e w4 ⟨rfl, hb4⟩
  have hE4 := hE3.on hb4
  have hB4 := below_on hB3 hb4
  clear hE3 hB3 hb4
  go_wp2_with fail
  refine (sealed_any w4 hE4).mono ?_
  rintro e w5 ⟨rfl, hb5⟩
  have hB5 := below_on hB4 hb5
  clear hE4 hB4 hb5
  go_wp2_with fail
  go_ret
  exact ⟨rfl, hB5⟩
set_option maxHeartbeats 1000000 in
set_option maxRecDepth 100000 in
theorem sealSays_no2 (F : Interp) (b : ByteArray) (w : World) (hE : Env w) (hF : F.told.answers w.tape) (hb : b.size ≤ 281474976710656) (ho : openS ByteArray.empty = none) :
    Calls Tryf.prog 3 #[.string ByteArray.empty, .string b] w fun e w' => e = .returned (.bool true) ∧ Below w.heap.size w w' := by
  have Ho := Lib.hid ho
  have ha : ByteArray.empty.size ≤ 281474976710656 := by decide
  clear ho
  go_enter Tryf.func3, Tryf.ntmps3
  go_wp2_with fail
  refine (leaf_any ByteArray.empty w).mono ?_
  rintro e w1 ⟨rfl, rfl⟩
  go_wp2_with fail
  refine (node_any ByteArray.empty b w hE (by omega)).mono ?_
  rintro e w1 ⟨rfl, hb1⟩
  have hE1 := hE.on hb1
  go_wp2_with fail
  refine (open_no ByteArray.empty w1 Ho.out).mono ?_
  rintro e w2 ⟨rfl, rfl⟩
  go_wp2_with fail
  refine (split_any ByteArray.empty w1 hE1 ha).mono ?_
  rintro e w2 ⟨rfl, hb2⟩
  have hE2 := hE1.on hb2
  have hB2 := below_on hb1 hb2
  have HF2 : Hid (F.told.answers w2.tape) := by rw [hB2.tape]; exact hF
  clear hE hE1 hb1 hb2 hF
  go_wp2_with fail
  refine (leafOf_any ByteArray.empty w2 (by omega)).mono ?_
  rintro e w3 ⟨rfl, rfl⟩
  go_wp2_with fail
  refine (nodeOf_any F ByteArray.empty b w2 HF2.out (by omega) (by omega)).mono ?_
  rintro e w3 ⟨rfl, hb3⟩
  have hE3 := hE2.on hb3
  have hB3 := below_on hB2 hb3
  clear hE2 hB2 hb3 HF2
  go_wp2_with fail
  refine (splitOf_any ByteArray.empty w3 hE3 ha).mono ?_
  rintro e w4 ⟨rfl, hb4⟩
  have hE4 := hE3.on hb4
  have hB4 := below_on hB3 hb4
  clear hE3 hB3 hb4
  go_wp2_with fail
  refine (sealed_any w4 hE4).mono ?_
  rintro e w5 ⟨rfl, hb5⟩
  have hB5 := below_on hB4 hb5
  clear hE4 hB4 hb5
  go_wp2_with fail
  go_ret
  exact ⟨rfl, hB5⟩

theorem sealSays_walk (F : Interp) (a b : ByteArray) (w : World) (hE : Env w) (hF : F.told.answers w.tape) (ha : a.size ≤ 281474976710656) (hb : b.size ≤ 281474976710656) :
    Calls Tryf.prog 3 #[.string a, .string b] w fun e w' => e = .returned (.bool true) ∧ Below w.heap.size w w' := by
  cases ho : openS a with
  | some t => exact sealSays_some F a b t w hE hF ha hb ho
  | none =>
    by_cases hz : 0 < a.size
    · exact sealSays_no1 F a b w hE hF ha hb ho hz
    · have h0 : a = ByteArray.empty := ba_ext (by
        have h0 : a.data.toList = [] := List.eq_nil_of_length_eq_zero (by rw [← ba_size]; omega)
        rw [h0]; rfl)
      subst h0
      exact sealSays_no2 F b w hE hF hb ho
end Go.Proofs.YtfojklnaahljlaaFmt
