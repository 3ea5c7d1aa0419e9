/-
  'string(b)' in the worlds that a drawn region goes through.
-/
import Derived.Test.YtgdmkhmdfijieaaDiG
namespace Go.Proofs.Ytgdmkhmdfijieaa.Dst
open Go.RowKit Kt Dk Dp Da Db Dc Dd De Df Dg
set_option linter.unusedVariables false

theorem strW {ao : Option Addr} {bs : List UInt8} {w : World} (h : Row w ao bs) (c : Nat) : ∀ n, (convert 26 9 (.slice ao bs.length c)).run Try.prog (w.drewN n) = .ok (.string (S bs)) (w.drewN n) := fun n =>
  run_string (P := Try.prog) (w := w.drewN n) Try.underlying26 Try.underlying5 Try.underlying9 h c
theorem strD {ao : Option Addr} {bs : List UInt8} {w : World} (h : Row w ao bs) (c : Nat) : (convert 26 9 (.slice ao bs.length c)).run Try.prog w.drew = .ok (.string (S bs)) w.drew :=
  run_string (P := Try.prog) (w := w.drew) Try.underlying26 Try.underlying5 Try.underlying9 h c
theorem strW0 {ao : Option Addr} {bs : List UInt8} {w : World} (h : Row w ao bs) (c : Nat) : (convert 26 9 (.slice ao bs.length c)).run Try.prog w = .ok (.string (S bs)) w := strW h c 0
end Go.Proofs.Ytgdmkhmdfijieaa.Dst
