/-
  The library's contracts that these walks use, laid at the seat's own dump by the kit's command, in plain words.
-/
import Derived.Shelf.Strconv.Itoa3
import Derived.Test.YtpenammonkgkaabFmtProg
namespace Go.Proofs
open Go.Shelf
def Tryf.laysM171_ren : Go.Shelf.Ren := ⟨fun | 171 => 28 | 243 => 29 | 246 => 30 | 283 => 31 | 284 => 32 | 285 => 33 | 286 => 34 | 129 => 36 | 317 => 35 | 318 => 37 | 319 => 38 | 320 => 39 | 337 => 40 | 338 => 41 | n => n, fun | 3 => 3 | 9 => 9 | 2 => 2 | 4 => 4 | 171 => 53 | 0 => 0 | 53 => 54 | 37 => 57 | 5 => 5 | 173 => 58 | 212 => 61 | 51 => 62 | 20 => 20 | 213 => 63 | 46 => 65 | 232 => 68 | 233 => 69 | n => n, fun | 17 => 0 | 18 => 1 | 19 => 2 | n => n⟩
theorem Tryf.laysM171 : Go.Proofs.LaysM.n171 Tryf.prog Tryf.laysM171_ren := {
  mixed := by kernel_rfl
  f129 := Tryf.func36.trans (congrArg some (by kernel_rfl))
  f171 := Tryf.func28.trans (congrArg some (by kernel_rfl))
  f243 := Tryf.func29.trans (congrArg some (by kernel_rfl))
  f246 := Tryf.func30.trans (congrArg some (by kernel_rfl))
  f283 := Tryf.func31.trans (congrArg some (by kernel_rfl))
  f284 := Tryf.func32.trans (congrArg some (by kernel_rfl))
  f285 := Tryf.func33.trans (congrArg some (by kernel_rfl))
  f286 := Tryf.func34.trans (congrArg some (by kernel_rfl))
  f317 := Tryf.func35.trans (congrArg some (by kernel_rfl))
  f318 := Tryf.func37.trans (congrArg some (by kernel_rfl))
  f319 := Tryf.func38.trans (congrArg some (by kernel_rfl))
  f320 := Tryf.func39.trans (congrArg some (by kernel_rfl))
  f337 := Tryf.func40.trans (congrArg some (by kernel_rfl))
  f338 := Tryf.func41.trans (congrArg some (by kernel_rfl))
  t0 := Tryf.underlying0
  a0 := Tryf.isAgg0
  z0 := Tryf.sizeOf0
  v0 := Tryf.zeroValue0
  t2 := Tryf.underlying2
  a2 := Tryf.isAgg2
  z2 := Tryf.sizeOf2
  v2 := Tryf.zeroValue2
  t3 := Tryf.underlying3
  a3 := Tryf.isAgg3
  z3 := Tryf.sizeOf3
  v3 := Tryf.zeroValue3
  t4 := Tryf.underlying4
  a4 := Tryf.isAgg4
  z4 := Tryf.sizeOf4
  v4 := Tryf.zeroValue4
  t5 := Tryf.underlying5
  a5 := Tryf.isAgg5
  z5 := Tryf.sizeOf5
  v5 := Tryf.zeroValue5
  t9 := Tryf.underlying9
  a9 := Tryf.isAgg9
  z9 := Tryf.sizeOf9
  v9 := Tryf.zeroValue9
  t20 := Tryf.underlying20
  a20 := Tryf.isAgg20
  z20 := Tryf.sizeOf20
  v20 := Tryf.zeroValue20
  t37 := Tryf.underlying57
  a37 := Tryf.isAgg57
  z37 := Tryf.sizeOf57
  v37 := Tryf.zeroValue57
  t46 := Tryf.underlying65
  a46 := Tryf.isAgg65
  z46 := Tryf.sizeOf65
  v46 := Tryf.zeroValue65
  t51 := Tryf.underlying62
  a51 := Tryf.isAgg62
  z51 := Tryf.sizeOf62
  v51 := Tryf.zeroValue62
  t53 := Tryf.underlying54
  a53 := Tryf.isAgg54
  z53 := Tryf.sizeOf54
  v53 := Tryf.zeroValue54
  t171 := Tryf.underlying53
  a171 := Tryf.isAgg53
  z171 := Tryf.sizeOf53
  v171 := Tryf.zeroValue53
  t173 := Tryf.underlying58
  a173 := Tryf.isAgg58
  z173 := Tryf.sizeOf58
  v173 := Tryf.zeroValue58
  t212 := Tryf.underlying61
  a212 := Tryf.isAgg61
  z212 := Tryf.sizeOf61
  v212 := Tryf.zeroValue61
  t213 := Tryf.underlying63
  a213 := Tryf.isAgg63
  z213 := Tryf.sizeOf63
  t232 := Tryf.underlying68
  a232 := Tryf.isAgg68
  z232 := Tryf.sizeOf68
  v232 := Tryf.zeroValue68
  t233 := Tryf.underlying69
  a233 := Tryf.isAgg69
  z233 := Tryf.sizeOf69
  v233 := Tryf.zeroValue69
  g17 := by kernel_rfl
  g18 := by kernel_rfl
  g19 := by kernel_rfl
  i0 := by kernel_rfl
  i2 := by kernel_rfl
  i3 := by kernel_rfl
  i4 := by kernel_rfl
  i5 := by kernel_rfl
  i9 := by kernel_rfl
  i20 := by kernel_rfl
  i37 := by kernel_rfl
  i46 := by kernel_rfl
  i51 := by kernel_rfl
  i53 := by kernel_rfl
  i171 := by kernel_rfl
  i173 := by kernel_rfl
  i212 := by kernel_rfl
  i232 := by kernel_rfl
  i233 := by kernel_rfl
  m17 := by kernel_rfl
  m18 := by kernel_rfl
  m19 := by kernel_rfl }
open Go.RowKit Go.Sort Go.Lib in
theorem Tryf.strconv_Itoa (n : Int) (h0 : -9223372036854775808 ≤ n) (h1 : n ≤ 9223372036854775807) (w : World) (htab : Lib.TabIs Tryf.prog w "internal/strconv.uint64pow10" .u64 Lib.pow10Tab) :
    Calls Tryf.prog 28 #[.int .i64 n] w fun e w' => e = .returned (.string ⟨(Lib.itoa n).toArray⟩) ∧ ∃ k os, w' = grow (w.drewN k) os := Any.strconv_Itoa Tryf.laysM171 n h0 h1 w htab
end Go.Proofs
