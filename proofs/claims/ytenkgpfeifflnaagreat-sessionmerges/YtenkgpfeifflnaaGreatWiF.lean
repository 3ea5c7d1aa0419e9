/-
  Check, of wire: the whole.
-/
import Derived.Test.YtenkgpfeifflnaaGreatWiE
import Derived.Test.YtenkgpfeifflnaaGreatWiR
namespace Go.Proofs.YtenkgpfeifflnaaGreat.Wf
open Go.RowKit Kt Pl Wi Wk Wc Wd We Wx
open At (RowT)
set_option linter.unusedVariables false
set_option maxRecDepth 20000
end Go.Proofs.YtenkgpfeifflnaaGreat.Wf
