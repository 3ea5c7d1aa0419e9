/-
  The small functions of checks: judge, upTo, fit, shortData, rightReceipt, May.
-/
import Derived.Test.YtenkgpfeifflnaaWiK
namespace Go.Proofs.Ytenkgpfeifflnaa.Wc
open Go.RowKit Kt Pl Wi Wk
open At (RowT)
set_option linter.unusedVariables false
set_option maxRecDepth 20000
end Go.Proofs.Ytenkgpfeifflnaa.Wc
