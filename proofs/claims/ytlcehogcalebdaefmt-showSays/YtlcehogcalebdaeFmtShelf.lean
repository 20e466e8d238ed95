/-
  The library's contracts that these walks use, laid at the seat's own dump by the kit's command, in plain words.
-/
import Derived.Shelf.Slices.Empties2
import Derived.Shelf.Slices.Equal
import Derived.Shelf.Strconv.Itoa3
import Derived.Test.YtlcehogcalebdaeFmtProg
namespace Go.Proofs
open Go.Shelf
def Tryf.laysM171_ren : Go.Shelf.Ren := ⟨fun | 171 => 49 | 243 => 55 | 246 => 56 | 283 => 57 | 284 => 58 | 285 => 59 | 286 => 60 | 129 => 62 | 317 => 61 | 318 => 63 | 319 => 64 | 320 => 65 | 337 => 66 | 338 => 67 | n => n, fun | 3 => 3 | 9 => 9 | 2 => 2 | 4 => 4 | 171 => 88 | 0 => 0 | 53 => 89 | 37 => 92 | 5 => 5 | 173 => 93 | 212 => 96 | 51 => 97 | 20 => 20 | 213 => 98 | 46 => 99 | 232 => 102 | 233 => 103 | n => n, fun | 17 => 0 | 18 => 1 | 19 => 2 | n => n⟩
theorem Tryf.laysM171 : Go.Proofs.LaysM.n171 Tryf.prog Tryf.laysM171_ren := {
  mixed := by kernel_rfl
  f129 := Tryf.func62.trans (congrArg some (by kernel_rfl))
  f171 := Tryf.func49.trans (congrArg some (by kernel_rfl))
  f243 := Tryf.func55.trans (congrArg some (by kernel_rfl))
  f246 := Tryf.func56.trans (congrArg some (by kernel_rfl))
  f283 := Tryf.func57.trans (congrArg some (by kernel_rfl))
  f284 := Tryf.func58.trans (congrArg some (by kernel_rfl))
  f285 := Tryf.func59.trans (congrArg some (by kernel_rfl))
  f286 := Tryf.func60.trans (congrArg some (by kernel_rfl))
  f317 := Tryf.func61.trans (congrArg some (by kernel_rfl))
  f318 := Tryf.func63.trans (congrArg some (by kernel_rfl))
  f319 := Tryf.func64.trans (congrArg some (by kernel_rfl))
  f320 := Tryf.func65.trans (congrArg some (by kernel_rfl))
  f337 := Tryf.func66.trans (congrArg some (by kernel_rfl))
  f338 := Tryf.func67.trans (congrArg some (by kernel_rfl))
  t0 := Tryf.underlying0
  a0 := Tryf.isAgg0
  z0 := Tryf.sizeOf0
  v0 := Tryf.zeroValue0
  t2 := Tryf.underlying2
  a2 := Tryf.isAgg2
  z2 := Tryf.sizeOf2
  v2 := Tryf.zeroValue2
  t3 := Tryf.underlying3
  a3 := Tryf.isAgg3
  z3 := Tryf.sizeOf3
  v3 := Tryf.zeroValue3
  t4 := Tryf.underlying4
  a4 := Tryf.isAgg4
  z4 := Tryf.sizeOf4
  v4 := Tryf.zeroValue4
  t5 := Tryf.underlying5
  a5 := Tryf.isAgg5
  z5 := Tryf.sizeOf5
  v5 := Tryf.zeroValue5
  t9 := Tryf.underlying9
  a9 := Tryf.isAgg9
  z9 := Tryf.sizeOf9
  v9 := Tryf.zeroValue9
  t20 := Tryf.underlying20
  a20 := Tryf.isAgg20
  z20 := Tryf.sizeOf20
  v20 := Tryf.zeroValue20
  t37 := Tryf.underlying92
  a37 := Tryf.isAgg92
  z37 := Tryf.sizeOf92
  v37 := Tryf.zeroValue92
  t46 := Tryf.underlying99
  a46 := Tryf.isAgg99
  z46 := Tryf.sizeOf99
  v46 := Tryf.zeroValue99
  t51 := Tryf.underlying97
  a51 := Tryf.isAgg97
  z51 := Tryf.sizeOf97
  v51 := Tryf.zeroValue97
  t53 := Tryf.underlying89
  a53 := Tryf.isAgg89
  z53 := Tryf.sizeOf89
  v53 := Tryf.zeroValue89
  t171 := Tryf.underlying88
  a171 := Tryf.isAgg88
  z171 := Tryf.sizeOf88
  v171 := Tryf.zeroValue88
  t173 := Tryf.underlying93
  a173 := Tryf.isAgg93
  z173 := Tryf.sizeOf93
  v173 := Tryf.zeroValue93
  t212 := Tryf.underlying96
  a212 := Tryf.isAgg96
  z212 := Tryf.sizeOf96
  v212 := Tryf.zeroValue96
  t213 := Tryf.underlying98
  a213 := Tryf.isAgg98
  z213 := Tryf.sizeOf98
  t232 := Tryf.underlying102
  a232 := Tryf.isAgg102
  z232 := Tryf.sizeOf102
  v232 := Tryf.zeroValue102
  t233 := Tryf.underlying103
  a233 := Tryf.isAgg103
  z233 := Tryf.sizeOf103
  v233 := Tryf.zeroValue103
  g17 := by kernel_rfl
  g18 := by kernel_rfl
  g19 := by kernel_rfl
  i0 := by kernel_rfl
  i2 := by kernel_rfl
  i3 := by kernel_rfl
  i4 := by kernel_rfl
  i5 := by kernel_rfl
  i9 := by kernel_rfl
  i20 := by kernel_rfl
  i37 := by kernel_rfl
  i46 := by kernel_rfl
  i51 := by kernel_rfl
  i53 := by kernel_rfl
  i171 := by kernel_rfl
  i173 := by kernel_rfl
  i212 := by kernel_rfl
  i232 := by kernel_rfl
  i233 := by kernel_rfl
  m17 := by kernel_rfl
  m18 := by kernel_rfl
  m19 := by kernel_rfl }
def Tryf.lays193_ren : Go.Shelf.Ren := ⟨fun | 193 => 13 | n => n, fun | 31 => 31 | 9 => 9 | 4 => 4 | 3 => 3 | 0 => 0 | n => n, fun | n => n⟩
theorem Tryf.lays193 : Go.Proofs.Lays.n193 Tryf.prog Tryf.lays193_ren := {
  mixed := by kernel_rfl
  f193 := Tryf.func13.trans (congrArg some (by kernel_rfl))
  t0 := Tryf.underlying0
  a0 := Tryf.isAgg0
  z0 := Tryf.sizeOf0
  v0 := Tryf.zeroValue0
  t3 := Tryf.underlying3
  a3 := Tryf.isAgg3
  z3 := Tryf.sizeOf3
  v3 := Tryf.zeroValue3
  t4 := Tryf.underlying4
  a4 := Tryf.isAgg4
  z4 := Tryf.sizeOf4
  v4 := Tryf.zeroValue4
  t9 := Tryf.underlying9
  a9 := Tryf.isAgg9
  z9 := Tryf.sizeOf9
  v9 := Tryf.zeroValue9
  t31 := Tryf.underlying31
  a31 := Tryf.isAgg31
  z31 := Tryf.sizeOf31
  v31 := Tryf.zeroValue31 }
open Go.RowKit Go.Sort Go.Lib in
theorem Tryf.strconv_Itoa (n : Int) (h0 : -9223372036854775808 ≤ n) (h1 : n ≤ 9223372036854775807) (w : World) (htab : Lib.TabIs Tryf.prog w "internal/strconv.uint64pow10" .u64 Lib.pow10Tab) :
    Calls Tryf.prog 49 #[.int .i64 n] w fun e w' => e = .returned (.string ⟨(Lib.itoa n).toArray⟩) ∧ ∃ k os, w' = grow (w.drewN k) os := Any.strconv_Itoa Tryf.laysM171 n h0 h1 w htab
open Go.RowKit Go.Lib in
theorem Tryf.slices_Equal_string (b1 o1 n c b2 o2 m d : Nat) (xs ys : List ByteArray) (w : World) (hx : n ≤ xs.length) (hy : m ≤ ys.length) (hbig : n ≤ 9223372036854775807) (hbig2 : m ≤ 9223372036854775807) (hc1 : ∀ j, j < xs.length → w.cell? ⟨b1, o1 + j, none⟩ = some (.string (xs.getD j ByteArray.empty))) (hc2 : ∀ j, j < ys.length → w.cell? ⟨b2, o2 + j, none⟩ = some (.string (ys.getD j ByteArray.empty))) :
    Calls Tryf.prog 13 #[.slice (some ⟨b1, o1, none⟩) n c, .slice (some ⟨b2, o2, none⟩) m d] w fun e w' => e = .returned (.bool (decide (xs.take n = ys.take m))) ∧ ∃ q, w' = w.drewN q := Any.slices_Equal_string Tryf.lays193 b1 o1 n c b2 o2 m d xs ys w hx hy hbig hbig2 hc1 hc2
open Go.RowKit Go.Lib in
theorem Tryf.slices_Equal_string_empty (a1 a2 : Option Addr) (c m d : Nat) (w : World) (hbig2 : m ≤ 9223372036854775807) :
    Calls Tryf.prog 13 #[.slice a1 0 c, .slice a2 m d] w fun e w' => e = .returned (.bool (decide (m = 0))) ∧ w' = w := Any.slices_Equal_string_empty Tryf.lays193 a1 a2 c m d w hbig2
open Go.RowKit Go.Lib in
theorem Tryf.slices_Equal_string_lens (a1 a2 : Option Addr) (n c m d : Nat) (w : World) (hnm : n ≠ m) :
    Calls Tryf.prog 13 #[.slice a1 n c, .slice a2 m d] w fun e w' => e = .returned (.bool false) ∧ w' = w := Any.slices_Equal_string_lens Tryf.lays193 a1 a2 n c m d w hnm
end Go.Proofs
