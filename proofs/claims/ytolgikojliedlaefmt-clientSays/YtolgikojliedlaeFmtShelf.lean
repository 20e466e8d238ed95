/-
  The library's contracts that these walks use, laid at the seat's own dump by the kit's command, in plain words.
-/
import Derived.Shelf.Slices.Empties2
import Derived.Shelf.Slices.Equal
import Derived.Shelf.Strconv.Itoa3
import Derived.Test.YtolgikojliedlaeFmtProg
namespace Go.Proofs
open Go.Shelf
def Tryf.laysM171_ren : Go.Shelf.Ren := ⟨fun | 171 => 65 | 243 => 77 | 246 => 81 | 283 => 82 | 284 => 83 | 285 => 84 | 286 => 85 | 129 => 87 | 317 => 86 | 318 => 88 | 319 => 89 | 320 => 90 | 337 => 91 | 338 => 92 | n => n, fun | 3 => 3 | 9 => 9 | 2 => 2 | 4 => 4 | 171 => 118 | 0 => 0 | 53 => 119 | 37 => 122 | 5 => 5 | 173 => 123 | 212 => 126 | 51 => 127 | 20 => 20 | 213 => 128 | 46 => 129 | 232 => 132 | 233 => 133 | n => n, fun | 17 => 0 | 18 => 1 | 19 => 2 | n => n⟩
theorem Tryf.laysM171 : Go.Proofs.LaysM.n171 Tryf.prog Tryf.laysM171_ren := {
  mixed := by kernel_rfl
  f129 := Tryf.func87.trans (congrArg some (by kernel_rfl))
  f171 := Tryf.func65.trans (congrArg some (by kernel_rfl))
  f243 := Tryf.func77.trans (congrArg some (by kernel_rfl))
  f246 := Tryf.func81.trans (congrArg some (by kernel_rfl))
  f283 := Tryf.func82.trans (congrArg some (by kernel_rfl))
  f284 := Tryf.func83.trans (congrArg some (by kernel_rfl))
  f285 := Tryf.func84.trans (congrArg some (by kernel_rfl))
  f286 := Tryf.func85.trans (congrArg some (by kernel_rfl))
  f317 := Tryf.func86.trans (congrArg some (by kernel_rfl))
  f318 := Tryf.func88.trans (congrArg some (by kernel_rfl))
  f319 := Tryf.func89.trans (congrArg some (by kernel_rfl))
  f320 := Tryf.func90.trans (congrArg some (by kernel_rfl))
  f337 := Tryf.func91.trans (congrArg some (by kernel_rfl))
  f338 := Tryf.func92.trans (congrArg some (by kernel_rfl))
  t0 := Tryf.underlying0
  a0 := Tryf.isAgg0
  z0 := Tryf.sizeOf0
  v0 := Tryf.zeroValue0
  t2 := Tryf.underlying2
  a2 := Tryf.isAgg2
  z2 := Tryf.sizeOf2
  v2 := Tryf.zeroValue2
  t3 := Tryf.underlying3
  a3 := Tryf.isAgg3
  z3 := Tryf.sizeOf3
  v3 := Tryf.zeroValue3
  t4 := Tryf.underlying4
  a4 := Tryf.isAgg4
  z4 := Tryf.sizeOf4
  v4 := Tryf.zeroValue4
  t5 := Tryf.underlying5
  a5 := Tryf.isAgg5
  z5 := Tryf.sizeOf5
  v5 := Tryf.zeroValue5
  t9 := Tryf.underlying9
  a9 := Tryf.isAgg9
  z9 := Tryf.sizeOf9
  v9 := Tryf.zeroValue9
  t20 := Tryf.underlying20
  a20 := Tryf.isAgg20
  z20 := Tryf.sizeOf20
  v20 := Tryf.zeroValue20
  t37 := Tryf.underlying122
  a37 := Tryf.isAgg122
  z37 := Tryf.sizeOf122
  v37 := Tryf.zeroValue122
  t46 := Tryf.underlying129
  a46 := Tryf.isAgg129
  z46 := Tryf.sizeOf129
  v46 := Tryf.zeroValue129
  t51 := Tryf.underlying127
  a51 := Tryf.isAgg127
  z51 := Tryf.sizeOf127
  v51 := Tryf.zeroValue127
  t53 := Tryf.underlying119
  a53 := Tryf.isAgg119
  z53 := Tryf.sizeOf119
  v53 := Tryf.zeroValue119
  t171 := Tryf.underlying118
  a171 := Tryf.isAgg118
  z171 := Tryf.sizeOf118
  v171 := Tryf.zeroValue118
  t173 := Tryf.underlying123
  a173 := Tryf.isAgg123
  z173 := Tryf.sizeOf123
  v173 := Tryf.zeroValue123
  t212 := Tryf.underlying126
  a212 := Tryf.isAgg126
  z212 := Tryf.sizeOf126
  v212 := Tryf.zeroValue126
  t213 := Tryf.underlying128
  a213 := Tryf.isAgg128
  z213 := Tryf.sizeOf128
  t232 := Tryf.underlying132
  a232 := Tryf.isAgg132
  z232 := Tryf.sizeOf132
  v232 := Tryf.zeroValue132
  t233 := Tryf.underlying133
  a233 := Tryf.isAgg133
  z233 := Tryf.sizeOf133
  v233 := Tryf.zeroValue133
  g17 := by kernel_rfl
  g18 := by kernel_rfl
  g19 := by kernel_rfl
  i0 := by kernel_rfl
  i2 := by kernel_rfl
  i3 := by kernel_rfl
  i4 := by kernel_rfl
  i5 := by kernel_rfl
  i9 := by kernel_rfl
  i20 := by kernel_rfl
  i37 := by kernel_rfl
  i46 := by kernel_rfl
  i51 := by kernel_rfl
  i53 := by kernel_rfl
  i171 := by kernel_rfl
  i173 := by kernel_rfl
  i212 := by kernel_rfl
  i232 := by kernel_rfl
  i233 := by kernel_rfl
  m17 := by kernel_rfl
  m18 := by kernel_rfl
  m19 := by kernel_rfl }
def Tryf.lays193_ren : Go.Shelf.Ren := ⟨fun | 193 => 14 | n => n, fun | 31 => 31 | 9 => 9 | 4 => 4 | 3 => 3 | 0 => 0 | n => n, fun | n => n⟩
theorem Tryf.lays193 : Go.Proofs.Lays.n193 Tryf.prog Tryf.lays193_ren := {
  mixed := by kernel_rfl
  f193 := Tryf.func14.trans (congrArg some (by kernel_rfl))
  t0 := Tryf.underlying0
  a0 := Tryf.isAgg0
  z0 := Tryf.sizeOf0
  v0 := Tryf.zeroValue0
  t3 := Tryf.underlying3
  a3 := Tryf.isAgg3
  z3 := Tryf.sizeOf3
  v3 := Tryf.zeroValue3
  t4 := Tryf.underlying4
  a4 := Tryf.isAgg4
  z4 := Tryf.sizeOf4
  v4 := Tryf.zeroValue4
  t9 := Tryf.underlying9
  a9 := Tryf.isAgg9
  z9 := Tryf.sizeOf9
  v9 := Tryf.zeroValue9
  t31 := Tryf.underlying31
  a31 := Tryf.isAgg31
  z31 := Tryf.sizeOf31
  v31 := Tryf.zeroValue31 }
open Go.RowKit Go.Sort Go.Lib in
theorem Tryf.strconv_Itoa (n : Int) (h0 : -9223372036854775808 ≤ n) (h1 : n ≤ 9223372036854775807) (w : World) (htab : Lib.TabIs Tryf.prog w "internal/strconv.uint64pow10" .u64 Lib.pow10Tab) :
    Calls Tryf.prog 65 #[.int .i64 n] w fun e w' => e = .returned (.string ⟨(Lib.itoa n).toArray⟩) ∧ ∃ k os, w' = grow (w.drewN k) os := Any.strconv_Itoa Tryf.laysM171 n h0 h1 w htab
open Go.RowKit Go.Lib in
theorem Tryf.slices_Equal_string (b1 o1 n c b2 o2 m d : Nat) (xs ys : List ByteArray) (w : World) (hx : n ≤ xs.length) (hy : m ≤ ys.length) (hbig : n ≤ 9223372036854775807) (hbig2 : m ≤ 9223372036854775807) (hc1 : ∀ j, j < xs.length → w.cell? ⟨b1, o1 + j, none⟩ = some (.string (xs.getD j ByteArray.empty))) (hc2 : ∀ j, j < ys.length → w.cell? ⟨b2, o2 + j, none⟩ = some (.string (ys.getD j ByteArray.empty))) :
    Calls Tryf.prog 14 #[.slice (some ⟨b1, o1, none⟩) n c, .slice (some ⟨b2, o2, none⟩) m d] w fun e w' => e = .returned (.bool (decide (xs.take n = ys.take m))) ∧ ∃ q, w' = w.drewN q := Any.slices_Equal_string Tryf.lays193 b1 o1 n c b2 o2 m d xs ys w hx hy hbig hbig2 hc1 hc2
open Go.RowKit Go.Lib in
theorem Tryf.slices_Equal_string_empty (a1 a2 : Option Addr) (c m d : Nat) (w : World) (hbig2 : m ≤ 9223372036854775807) :
    Calls Tryf.prog 14 #[.slice a1 0 c, .slice a2 m d] w fun e w' => e = .returned (.bool (decide (m = 0))) ∧ w' = w := Any.slices_Equal_string_empty Tryf.lays193 a1 a2 c m d w hbig2
open Go.RowKit Go.Lib in
theorem Tryf.slices_Equal_string_lens (a1 a2 : Option Addr) (n c m d : Nat) (w : World) (hnm : n ≠ m) :
    Calls Tryf.prog 14 #[.slice a1 n c, .slice a2 m d] w fun e w' => e = .returned (.bool false) ∧ w' = w := Any.slices_Equal_string_lens Tryf.lays193 a1 a2 n c m d w hnm
end Go.Proofs
