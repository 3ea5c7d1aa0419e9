/-
  The library's functions that the program calls, laid at this dump: which function and which type stands for which.
-/
import Derived.Shelf.SlicesQ.Equal
import Derived.Test.YtcpmcfagibmboabRows
namespace Go.Proofs.Ytcpmcfagibmboab.Csh
open Go.Shelf
def leqp_ren : Go.Shelf.Ren := ⟨fun | 8 => 18 | n => n, fun | 22 => 23 | 24 => 50 | 4 => 4 | 3 => 3 | 0 => 0 | n => n, fun | n => n⟩
theorem leqp : Go.Proofs.SlLaysQ.n8 Try.prog leqp_ren := {
  mixed := by kernel_rfl
  f8 := ⟨Try.f18.name, by decide, Try.func18.trans (congrArg some (by kernel_rfl))⟩
  t0 := Try.underlying0
  a0 := Try.isAgg0
  z0 := Try.sizeOf0
  v0 := Try.zeroValue0
  t3 := Try.underlying3
  a3 := Try.isAgg3
  z3 := Try.sizeOf3
  v3 := Try.zeroValue3
  t4 := Try.underlying4
  a4 := Try.isAgg4
  z4 := Try.sizeOf4
  v4 := Try.zeroValue4
  t22 := Try.underlying23
  a22 := Try.isAgg23
  z22 := Try.sizeOf23
  v22 := Try.zeroValue23 }
end Go.Proofs.Ytcpmcfagibmboab.Csh
