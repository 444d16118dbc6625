/- Library contracts laid at this program (slices.Clone, BinarySearch, Insert at []int), in plain words. Conditions: none. -/
import Derived.Ground.Names2Prog
import Derived.Shelf.Slices.Clone
import Derived.Shelf.Slices.SearchI
import Derived.Shelf.Spec.SlicesInsert
import Derived.Shelf.Spec.SlicesInsertGrow
import Derived.Test.YtcelhllhdkminaaBase
namespace Go.Proofs.Ytcelhllhdkminaa
open Go.Shelf
def laysNm225_ren : Go.Shelf.Ren := ⟨fun | 25 => 116 | 31 => 123 | 32 => 124 | 37 => 129 | n => n, fun | 22 => 40 | 3 => 3 | 4 => 4 | 40 => 170 | 0 => 0 | n => n, fun | n => n⟩
theorem laysNm225 : Go.Proofs.Lays2.n25 Try.prog laysNm225_ren := {
  mixed := by kernel_rfl
  f25 := Try.func116.trans (congrArg some (by kernel_rfl))
  f31 := Try.func123.trans (congrArg some (by kernel_rfl))
  f32 := Try.func124.trans (congrArg some (by kernel_rfl))
  f37 := Try.func129.trans (congrArg some (by kernel_rfl))
  t0 := Try.underlying0
  a0 := Try.isAgg0
  z0 := Try.sizeOf0
  v0 := Try.zeroValue0
  t3 := Try.underlying3
  a3 := Try.isAgg3
  z3 := Try.sizeOf3
  v3 := Try.zeroValue3
  t4 := Try.underlying4
  a4 := Try.isAgg4
  z4 := Try.sizeOf4
  v4 := Try.zeroValue4
  t22 := Try.underlying40
  a22 := Try.isAgg40
  z22 := Try.sizeOf40
  v22 := Try.zeroValue40
  t40 := Try.underlying170
  a40 := Try.isAgg170
  z40 := Try.sizeOf170
  v40 := Try.zeroValue170 }
def laysNm221_ren : Go.Shelf.Ren := ⟨fun | 21 => 117 | 27 => 125 | 28 => 126 | 35 => 130 | 39 => 133 | n => n, fun | 22 => 40 | 3 => 3 | 4 => 4 | 0 => 0 | n => n, fun | n => n⟩
theorem laysNm221 : Go.Proofs.Lays2.n21 Try.prog laysNm221_ren := {
  mixed := by kernel_rfl
  f21 := Try.func117.trans (congrArg some (by kernel_rfl))
  f27 := Try.func125.trans (congrArg some (by kernel_rfl))
  f28 := Try.func126.trans (congrArg some (by kernel_rfl))
  f35 := Try.func130.trans (congrArg some (by kernel_rfl))
  f39 := Try.func133.trans (congrArg some (by kernel_rfl))
  t0 := Try.underlying0
  a0 := Try.isAgg0
  z0 := Try.sizeOf0
  v0 := Try.zeroValue0
  t3 := Try.underlying3
  a3 := Try.isAgg3
  z3 := Try.sizeOf3
  v3 := Try.zeroValue3
  t4 := Try.underlying4
  a4 := Try.isAgg4
  z4 := Try.sizeOf4
  v4 := Try.zeroValue4
  t22 := Try.underlying40
  a22 := Try.isAgg40
  z22 := Try.sizeOf40
  v22 := Try.zeroValue40
  i3 := by kernel_rfl }
end Go.Proofs.Ytcelhllhdkminaa
