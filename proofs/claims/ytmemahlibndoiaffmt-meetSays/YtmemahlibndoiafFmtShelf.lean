/-
  The library's contracts that these walks use, laid at the seat's own dump by the kit's command, in plain words.
-/
import Derived.Shelf.Strconv.Itoa3
import Derived.Test.YtmemahlibndoiafFmtProg
namespace Go.Proofs
open Go.Shelf
def Tryf.laysM171_ren : Go.Shelf.Ren := ⟨fun | 171 => 43 | 243 => 46 | 246 => 47 | 283 => 48 | 284 => 49 | 285 => 50 | 286 => 51 | 129 => 53 | 317 => 52 | 318 => 54 | 319 => 55 | 320 => 56 | 337 => 57 | 338 => 58 | n => n, fun | 3 => 3 | 9 => 9 | 2 => 2 | 4 => 4 | 171 => 85 | 0 => 0 | 53 => 86 | 37 => 89 | 5 => 5 | 173 => 90 | 212 => 93 | 51 => 94 | 20 => 20 | 213 => 95 | 46 => 97 | 232 => 100 | 233 => 101 | n => n, fun | 17 => 0 | 18 => 1 | 19 => 2 | n => n⟩
theorem Tryf.laysM171 : Go.Proofs.LaysM.n171 Tryf.prog Tryf.laysM171_ren := {
  mixed := by kernel_rfl
  f129 := Tryf.func53.trans (congrArg some (by kernel_rfl))
  f171 := Tryf.func43.trans (congrArg some (by kernel_rfl))
  f243 := Tryf.func46.trans (congrArg some (by kernel_rfl))
  f246 := Tryf.func47.trans (congrArg some (by kernel_rfl))
  f283 := Tryf.func48.trans (congrArg some (by kernel_rfl))
  f284 := Tryf.func49.trans (congrArg some (by kernel_rfl))
  f285 := Tryf.func50.trans (congrArg some (by kernel_rfl))
  f286 := Tryf.func51.trans (congrArg some (by kernel_rfl))
  f317 := Tryf.func52.trans (congrArg some (by kernel_rfl))
  f318 := Tryf.func54.trans (congrArg some (by kernel_rfl))
  f319 := Tryf.func55.trans (congrArg some (by kernel_rfl))
  f320 := Tryf.func56.trans (congrArg some (by kernel_rfl))
  f337 := Tryf.func57.trans (congrArg some (by kernel_rfl))
  f338 := Tryf.func58.trans (congrArg some (by kernel_rfl))
  t0 := Tryf.underlying0
  a0 := Tryf.isAgg0
  z0 := Tryf.sizeOf0
  v0 := Tryf.zeroValue0
  t2 := Tryf.underlying2
  a2 := Tryf.isAgg2
  z2 := Tryf.sizeOf2
  v2 := Tryf.zeroValue2
  t3 := Tryf.underlying3
  a3 := Tryf.isAgg3
  z3 := Tryf.sizeOf3
  v3 := Tryf.zeroValue3
  t4 := Tryf.underlying4
  a4 := Tryf.isAgg4
  z4 := Tryf.sizeOf4
  v4 := Tryf.zeroValue4
  t5 := Tryf.underlying5
  a5 := Tryf.isAgg5
  z5 := Tryf.sizeOf5
  v5 := Tryf.zeroValue5
  t9 := Tryf.underlying9
  a9 := Tryf.isAgg9
  z9 := Tryf.sizeOf9
  v9 := Tryf.zeroValue9
  t20 := Tryf.underlying20
  a20 := Tryf.isAgg20
  z20 := Tryf.sizeOf20
  v20 := Tryf.zeroValue20
  t37 := Tryf.underlying89
  a37 := Tryf.isAgg89
  z37 := Tryf.sizeOf89
  v37 := Tryf.zeroValue89
  t46 := Tryf.underlying97
  a46 := Tryf.isAgg97
  z46 := Tryf.sizeOf97
  v46 := Tryf.zeroValue97
  t51 := Tryf.underlying94
  a51 := Tryf.isAgg94
  z51 := Tryf.sizeOf94
  v51 := Tryf.zeroValue94
  t53 := Tryf.underlying86
  a53 := Tryf.isAgg86
  z53 := Tryf.sizeOf86
  v53 := Tryf.zeroValue86
  t171 := Tryf.underlying85
  a171 := Tryf.isAgg85
  z171 := Tryf.sizeOf85
  v171 := Tryf.zeroValue85
  t173 := Tryf.underlying90
  a173 := Tryf.isAgg90
  z173 := Tryf.sizeOf90
  v173 := Tryf.zeroValue90
  t212 := Tryf.underlying93
  a212 := Tryf.isAgg93
  z212 := Tryf.sizeOf93
  v212 := Tryf.zeroValue93
  t213 := Tryf.underlying95
  a213 := Tryf.isAgg95
  z213 := Tryf.sizeOf95
  t232 := Tryf.underlying100
  a232 := Tryf.isAgg100
  z232 := Tryf.sizeOf100
  v232 := Tryf.zeroValue100
  t233 := Tryf.underlying101
  a233 := Tryf.isAgg101
  z233 := Tryf.sizeOf101
  v233 := Tryf.zeroValue101
  g17 := by kernel_rfl
  g18 := by kernel_rfl
  g19 := by kernel_rfl
  i0 := by kernel_rfl
  i2 := by kernel_rfl
  i3 := by kernel_rfl
  i4 := by kernel_rfl
  i5 := by kernel_rfl
  i9 := by kernel_rfl
  i20 := by kernel_rfl
  i37 := by kernel_rfl
  i46 := by kernel_rfl
  i51 := by kernel_rfl
  i53 := by kernel_rfl
  i171 := by kernel_rfl
  i173 := by kernel_rfl
  i212 := by kernel_rfl
  i232 := by kernel_rfl
  i233 := by kernel_rfl
  m17 := by kernel_rfl
  m18 := by kernel_rfl
  m19 := by kernel_rfl }
open Go.RowKit Go.Sort Go.Lib in
theorem Tryf.strconv_Itoa (n : Int) (h0 : -9223372036854775808 ≤ n) (h1 : n ≤ 9223372036854775807) (w : World) (htab : Lib.TabIs Tryf.prog w "internal/strconv.uint64pow10" .u64 Lib.pow10Tab) :
    Calls Tryf.prog 43 #[.int .i64 n] w fun e w' => e = .returned (.string ⟨(Lib.itoa n).toArray⟩) ∧ ∃ k os, w' = grow (w.drewN k) os := Any.strconv_Itoa Tryf.laysM171 n h0 h1 w htab
end Go.Proofs
