/- The contract of the library's binary search at whole numbers, laid at this program: one application of a theorem of the library; no conditions. -/
import Derived.Test.YtogojdeohohhhaaProg
import Derived.Shelf.SlicesG.SearchI
namespace Go.Proofs
open Go.Shelf
def Try.searchS_ren : Go.Shelf.Ren := ⟨fun | 49 => 24 | 59 => 28 | 60 => 29 | 68 => 31 | n => n, fun | 22 => 29 | 23 => 3 | 3 => 3 | 4 => 4 | 51 => 62 | 0 => 0 | n => n, fun | n => n⟩
theorem Try.searchS : Go.Proofs.SlLaysN.n49 Try.prog Try.searchS_ren := {
  mixed := by kernel_rfl
  f49 := ⟨Try.f24.name, by decide, Try.func24.trans (congrArg some (by kernel_rfl))⟩
  f59 := ⟨Try.f28.name, by decide, Try.func28.trans (congrArg some (by kernel_rfl))⟩
  f60 := ⟨Try.f29.name, by decide, Try.func29.trans (congrArg some (by kernel_rfl))⟩
  f68 := ⟨Try.f31.name, by decide, Try.func31.trans (congrArg some (by kernel_rfl))⟩
  t0 := Try.underlying0
  a0 := Try.isAgg0
  z0 := Try.sizeOf0
  v0 := Try.zeroValue0
  t3 := Try.underlying3
  a3 := Try.isAgg3
  z3 := Try.sizeOf3
  v3 := Try.zeroValue3
  t4 := Try.underlying4
  a4 := Try.isAgg4
  z4 := Try.sizeOf4
  v4 := Try.zeroValue4
  t22 := Try.underlying29
  a22 := Try.isAgg29
  z22 := Try.sizeOf29
  v22 := Try.zeroValue29
  t23 := Try.underlying3
  a23 := Try.isAgg3
  z23 := Try.sizeOf3
  v23 := Try.zeroValue3
  t51 := Try.underlying62
  a51 := Try.isAgg62
  z51 := Try.sizeOf62
  v51 := Try.zeroValue62 }
end Go.Proofs
