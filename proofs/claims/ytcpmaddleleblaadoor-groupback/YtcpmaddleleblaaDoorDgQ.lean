/-
  The digest of 'abc', reckoned.
-/
import Derived.Test.YtcpmaddleleblaaDoorDgP
namespace Go.Proofs.YtcpmaddleleblaaDoor.Dp
set_option maxRecDepth 100000 in
theorem dig_abc : (dig [97, 98, 99]).take 16 = [186, 120, 22, 191, 143, 1, 207, 234, 65, 65, 64, 222, 93, 174, 34, 35] := by decide +kernel
end Go.Proofs.YtcpmaddleleblaaDoor.Dp
