/-
  The library's functions that the program calls, laid at this dump: which function and which type stands for which.
-/
import Derived.Shelf.SlicesQ.Equal
import Derived.Test.YtcpmcfagibmboabGreatRows
namespace Go.Proofs.YtcpmcfagibmboabGreat.Csh
open Go.Shelf
def leqp_ren : Go.Shelf.Ren := ⟨fun | 8 => 31 | n => n, fun | 22 => 49 | 24 => 87 | 4 => 4 | 3 => 3 | 0 => 0 | n => n, fun | n => n⟩
theorem leqp : Go.Proofs.SlLaysQ.n8 Tryz.prog leqp_ren := {
  mixed := by kernel_rfl
  f8 := ⟨Tryz.f31.name, by decide, Tryz.func31.trans (congrArg some (by kernel_rfl))⟩
  t0 := Tryz.underlying0
  a0 := Tryz.isAgg0
  z0 := Tryz.sizeOf0
  v0 := Tryz.zeroValue0
  t3 := Tryz.underlying3
  a3 := Tryz.isAgg3
  z3 := Tryz.sizeOf3
  v3 := Tryz.zeroValue3
  t4 := Tryz.underlying4
  a4 := Tryz.isAgg4
  z4 := Tryz.sizeOf4
  v4 := Tryz.zeroValue4
  t22 := Tryz.underlying49
  a22 := Tryz.isAgg49
  z22 := Tryz.sizeOf49
  v22 := Tryz.zeroValue49 }
end Go.Proofs.YtcpmcfagibmboabGreat.Csh
