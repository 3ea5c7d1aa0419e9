/-
  The library's functions that the program calls, laid at this dump: which function and which type stands for which.
-/
import Derived.Shelf.SlicesG.SearchI
import Derived.Test.YteaempemdolcjaaRows
namespace Go.Proofs.Yteaempemdolcjaa.Tsh
open Go.Shelf
def lbs_ren : Go.Shelf.Ren := ⟨fun | 49 => 45 | 59 => 48 | 60 => 49 | 68 => 50 | n => n, fun | 22 => 28 | 23 => 3 | 3 => 3 | 4 => 4 | 51 => 79 | 0 => 0 | n => n, fun | n => n⟩
theorem lbs : Go.Proofs.SlLaysN.n49 Try.prog lbs_ren := {
  mixed := by kernel_rfl
  f49 := ⟨Try.f45.name, by decide, Try.func45.trans (congrArg some (by kernel_rfl))⟩
  f59 := ⟨Try.f48.name, by decide, Try.func48.trans (congrArg some (by kernel_rfl))⟩
  f60 := ⟨Try.f49.name, by decide, Try.func49.trans (congrArg some (by kernel_rfl))⟩
  f68 := ⟨Try.f50.name, by decide, Try.func50.trans (congrArg some (by kernel_rfl))⟩
  t0 := Try.underlying0
  a0 := Try.isAgg0
  z0 := Try.sizeOf0
  v0 := Try.zeroValue0
  t3 := Try.underlying3
  a3 := Try.isAgg3
  z3 := Try.sizeOf3
  v3 := Try.zeroValue3
  t4 := Try.underlying4
  a4 := Try.isAgg4
  z4 := Try.sizeOf4
  v4 := Try.zeroValue4
  t22 := Try.underlying28
  a22 := Try.isAgg28
  z22 := Try.sizeOf28
  v22 := Try.zeroValue28
  t23 := Try.underlying3
  a23 := Try.isAgg3
  z23 := Try.sizeOf3
  v23 := Try.zeroValue3
  t51 := Try.underlying79
  a51 := Try.isAgg79
  z51 := Try.sizeOf79
  v51 := Try.zeroValue79 }
end Go.Proofs.Yteaempemdolcjaa.Tsh
